/- ring: RingPlays, and the deeds that came in. -/
import Derived.Test.YtnninkbkndddhaaRing10
import Derived.Test.YtnninkbkndddhaaRing15
