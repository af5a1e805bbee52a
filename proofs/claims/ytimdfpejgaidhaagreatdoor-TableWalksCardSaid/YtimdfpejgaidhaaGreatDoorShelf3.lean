/- No more contracts of the library are wanted here. -/
import Derived.Test.YtimdfpejgaidhaaGreatDoorProg
