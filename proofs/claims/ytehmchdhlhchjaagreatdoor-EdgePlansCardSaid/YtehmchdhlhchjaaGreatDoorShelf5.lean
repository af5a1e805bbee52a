/- No contract of this table is laid here. -/
import Derived.Test.YtehmchdhlhchjaaGreatDoorProg
namespace Go.Proofs.YtehmchdhlhchjaaGreatDoor
end Go.Proofs.YtehmchdhlhchjaaGreatDoor
