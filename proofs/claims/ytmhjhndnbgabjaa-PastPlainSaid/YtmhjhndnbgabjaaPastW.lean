/- past: PastPlain, from what came in. -/
import Derived.Test.YtmhjhndnbgabjaaPastV
import Derived.Test.YtmhjhndnbgabjaaTxtsA
namespace Go.Proofs.Ytmhjhndnbgabjaa
end Go.Proofs.Ytmhjhndnbgabjaa
