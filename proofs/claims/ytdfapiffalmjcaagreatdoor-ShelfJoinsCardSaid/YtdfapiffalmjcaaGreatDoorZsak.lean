/- past.push. past.push behind a span. past.push onto the last span. -/
import Derived.Test.YtdfapiffalmjcaaGreatDoorZsaj
import Derived.Deep.Cut
import Derived.Deep.RegionHeld3
namespace Go.Proofs.YtdfapiffalmjcaaGreatDoor
end Go.Proofs.YtdfapiffalmjcaaGreatDoor
