/- gap: GapAsks, and what comes in. -/
import Derived.Test.YtganehhcnflgaaaGapZ
import Derived.Test.YtganehhcnflgaaaGapW
