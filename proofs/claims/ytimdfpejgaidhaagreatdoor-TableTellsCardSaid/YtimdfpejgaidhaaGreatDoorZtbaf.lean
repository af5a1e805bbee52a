/- A run of the program on marks in the place of blocks: plain functions that the kernel can run. No program is named here. What a mark stands for: values, rows and worlds against their marks. No program is named here. Worlds against marks: what holds of each mark, and a step from one to the next. No program is named here. Single operations on marks, and what the model makes of them: reading, writing, making. No program is named here. -/
import Derived.Test.YtimdfpejgaidhaaGreatDoorRows
import Derived.RangeFuncLeaves
import Derived.OrdersIn
import Derived.LoopNIn
import Derived.WalkKit
import Derived.Below
namespace Go.Proofs.YtimdfpejgaidhaaGreatDoor
end Go.Proofs.YtimdfpejgaidhaaGreatDoor
