/- gap: GapPlays, and what comes in. -/
import Derived.Test.YtganehhcnflgaaaGapV
import Derived.Test.YtganehhcnflgaaaGapW
