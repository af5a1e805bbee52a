/- The program's Bytes of a past. The numbers of bytes: the program's, the document's. The document's four. The program's Read of a past. The walk of past.Read. past.Read of all bytes. A past's bytes are read as it; what is read has just these bytes. Plain. event.Read. The kit's OverEvents over one event. -/
import Derived.Test.YtoepejgldbbloaaGreatDoorZkr
import Derived.Laws.MakeOwn
import Derived.Deep.QuietTactic
import Derived.BigQuiet
import Derived.Deep.RegionHeld3
import Derived.Test.YtoepejgldbbloaaGreatDoorZkm
import Derived.Test.YtoepejgldbbloaaGreatDoorZkd
import Derived.Test.YtoepejgldbbloaaGreatDoorZki
import Derived.Deep.Cut
import Derived.Test.YtoepejgldbbloaaGreatDoorZka
namespace Go.Proofs.YtoepejgldbbloaaGreatDoor
end Go.Proofs.YtoepejgldbbloaaGreatDoor
