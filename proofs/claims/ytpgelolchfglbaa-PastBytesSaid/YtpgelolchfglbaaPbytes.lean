/- Package past: Bytes; the document's. -/
import Derived.Test.YtpgelolchfglbaaPchk2
import Derived.Test.YtpgelolchfglbaaPchk3
import Derived.Test.YtpgelolchfglbaaWr4
import Derived.Test.YtpgelolchfglbaaMem
import Derived.Deep.Cut
namespace Go.Proofs.Ytpgelolchfglbaa
open Go.RowKit Go.Lib
set_option linter.unusedSimpArgs false
set_option linter.unusedVariables false

/-- A span's bytes. -/
def spanB (x : Int × Int × Int) : List UInt8 := UInt8.ofNat x.1.toNat :: (be 4 x.2.1.toNat ++ be 4 x.2.2.toNat)
theorem spanB_len (x : Int × Int × Int) : (spanB x).length = 9 := by simp [spanB, be_len]
/-- A past's bytes. -/
def spansB (xs : List (Int × Int × Int)) : List UInt8 := UInt8.ofNat (xs.length / 256) :: UInt8.ofNat xs.length :: xs.flatMap spanB
theorem four_cells {n : Int} (h0 : 0 ≤ n) (h1 : n ≤ 2147483647) : [Value.int .u8 (n / 16777216 % 256), Value.int .u8 (n / 65536 % 256), Value.int .u8 (n / 256 % 256), Value.int .u8 (n % 256)] = (be 4 n.toNat).map bv := by
  have e : ∀ a b : Int, a = b → Value.int .u8 a = Value.int .u8 b := fun _ _ h => by rw [h]
  simp only [be, List.map_cons, List.map_nil, bv, UInt8.toNat_ofNat']
  rw [e (n / 16777216 % 256) _ (show n / 16777216 % 256 = ((n.toNat / 256 ^ 3 % 2 ^ 8 : Nat) : Int) by omega), e (n / 65536 % 256) _ (show n / 65536 % 256 = ((n.toNat / 256 ^ 2 % 2 ^ 8 : Nat) : Int) by omega),
    e (n / 256 % 256) _ (show n / 256 % 256 = ((n.toNat / 256 ^ 1 % 2 ^ 8 : Nat) : Int) by omega), e (n % 256) _ (show n % 256 = ((n.toNat / 256 ^ 0 % 2 ^ 8 : Nat) : Int) by omega)]
theorem Bs.row {w : World} {g : Nat} {ys : List UInt8} (h : w.heap[g]? = some (.cells (ys.map bv).toArray 5 (0, 0))) (hl : ys.length ≤ maxLen) : Bs w (some ⟨g, 0, none⟩) ys.length ys :=
  (OwnB.of (full := ys) (c := ys.length) h (Nat.le_refl _) hl rfl (List.take_length)).reads
theorem pafour_any (w : World) (n : Int) (h0 : 0 ≤ n) (h1 : n ≤ 2147483647) :
    Calls Try.prog 71 #[.int .i64 n] w fun e w' => e = .returned (.slice (some ⟨w.heap.size, 0, none⟩) 4 4) ∧ Bs w' (some ⟨w.heap.size, 0, none⟩) 4 (be 4 n.toNat) ∧ Chg [] w w' := by
  have HC := Lib.hid (four_cells h0 h1)
  clear h0 h1
  go_enter Try.func71, Try.ntmps71
  go_wp2
  go_ret
  refine ⟨rfl, ?_, (Chg.refl _ _).alloc _⟩
  have := Bs.row (ys := be 4 n.toNat) (w := w.alloc (.cells ((be 4 n.toNat).map bv).toArray 5)) (g := w.heap.size) (heap_alloc_new w _) (by rw [be_len]; decide)
  rw [be_len] at this
  have e := HC.out
  rw [← e] at this
  exact this
end Go.Proofs.Ytpgelolchfglbaa
