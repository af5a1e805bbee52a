/- The program's Bytes of a past. The numbers of bytes: the program's, the document's. The document's four. The program's Read of a past. The walk of past.Read. past.Read of all bytes. A past's bytes are read as it; what is read has just these bytes. Plain. event.Read. The kit's OverEvents over one event. -/
import Derived.Test.YtdfapiffalmjcaaGreatDoorZsar
import Derived.Laws.MakeOwn
import Derived.Deep.QuietTactic
import Derived.BigQuiet
import Derived.Deep.RegionHeld3
import Derived.Test.YtdfapiffalmjcaaGreatDoorZsam
import Derived.Test.YtdfapiffalmjcaaGreatDoorZsad
import Derived.Test.YtdfapiffalmjcaaGreatDoorZsai
import Derived.Deep.Cut
import Derived.Test.YtdfapiffalmjcaaGreatDoorZsaa
namespace Go.Proofs.YtdfapiffalmjcaaGreatDoor
end Go.Proofs.YtdfapiffalmjcaaGreatDoor
