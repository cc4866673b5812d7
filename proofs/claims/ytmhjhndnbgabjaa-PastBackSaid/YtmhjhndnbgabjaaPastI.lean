/- past: PastBack, from what came in. -/
import Derived.Test.YtmhjhndnbgabjaaPastH
import Derived.Test.YtmhjhndnbgabjaaTxtsA
namespace Go.Proofs.Ytmhjhndnbgabjaa.pastBack
open Go.RowKit
theorem walk_PastBack (w : World) (u : Value) (L : List (List Int)) (hL : Txts w u L) (v : Value) (now : List Int) (hv : Txt w v now) (A : Option Addr) (n c : Nat) (f : Nat → Int) (hf : Rd w A n (fun j => Value.int .i64 (f j))) (hn : n ≤ c) (hc : c ≤ maxLen) (wf : ∀ j, j < n → (Lit.int .i64 (f j)).wf = true) :
    Calls Try.prog 4 #[u, v, .slice A n c] w (Yes w) := Go.Proofs.Ytmhjhndnbgabjaa.walk_PastBack w u v L now A n c f hL hv hf hn hc wf
end Go.Proofs.Ytmhjhndnbgabjaa.pastBack
