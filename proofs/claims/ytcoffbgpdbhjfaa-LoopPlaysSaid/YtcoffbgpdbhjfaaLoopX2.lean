/- loop: LoopPlays, and what comes in. -/
import Derived.Test.YtcoffbgpdbhjfaaLoopQ
import Derived.Test.YtcoffbgpdbhjfaaLoopW2
