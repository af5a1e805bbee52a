/- past.stands, past.apart. past.Check. Sets of dots as lists of spans: plain functions. No function of the program is named here. Two sets of dots gone through at a time: plain functions. No function of the program is named here. Spans in any order made a past, as the document does it: plain functions. No function of the program is named here. The pasts that may be, as lists of spans in order. No memory here. past: Count, Last. -/
import Derived.Test.YtimdfpejgaidhaaGreatDoorZted
import Derived.Deep.Cut
import Derived.Deep.RegionHeld3
import Derived.Test.YtimdfpejgaidhaaGreatDoorZtea
namespace Go.Proofs.YtimdfpejgaidhaaGreatDoor
end Go.Proofs.YtimdfpejgaidhaaGreatDoor
