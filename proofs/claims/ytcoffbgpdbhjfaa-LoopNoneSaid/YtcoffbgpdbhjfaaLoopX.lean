/- loop: LoopNone, and what comes in. -/
import Derived.Test.YtcoffbgpdbhjfaaLoopI
import Derived.Test.YtcoffbgpdbhjfaaLoopW
