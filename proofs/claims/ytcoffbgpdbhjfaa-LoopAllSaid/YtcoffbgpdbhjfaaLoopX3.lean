/- loop: LoopAll, and what comes in. -/
import Derived.Test.YtcoffbgpdbhjfaaLoopZ
import Derived.Test.YtcoffbgpdbhjfaaLoopW2
