/- Rows of texts. -/
import Derived.Test.YtibdeiahmgkbhaaDoorRowK
namespace Go.Proofs.YtibdeiahmgkbhaaDoor
open Go.RowKit
def textTy : RowTy (List UInt8) where
  enc := fun x => [.string (strOf x)]
  k := 1
  T := 9
  TS := 22
  z := []
  zv := .string ⟨#[]⟩
  bytes := 16
  klen := fun _ => rfl
  one := by intro x v hv; simp at hv; rcases hv with rfl <;> rfl
  zc := rfl
  kpos := by decide
  bpos := by decide
  under := by kernel_rfl
  info := by kernel_rfl
theorem textCells {w : World} {g o n j : Nat} {xs : List (List UInt8)} (h : RdK textTy w (some ⟨g, o, none⟩) n xs) {x : List UInt8} (hx : xs[j]? = some x) : w.cell? ⟨g, o + j, none⟩ = some (.string (strOf x)) := by
  have := h.at_ j 0 x _ hx rfl
  rwa [show textTy.k = 1 from rfl, Nat.mul_one, Nat.add_zero] at this
theorem strOf_of (s : ByteArray) : strOf s.data.toList = s := by
  unfold strOf
  rw [Array.toArray_toList]
theorem strOf_inj {a b : List UInt8} (h : strOf a = strOf b) : a = b := by
  have := congrArg (fun s : ByteArray => s.data.toList) h
  simpa [strOf] using this
theorem strOf_ext (l : List UInt8) (a b : Nat) : (strOf l).extract a b = strOf ((l.drop a).take (b - a)) := by
  apply ByteArray.ext
  apply Array.toList_inj.1
  rw [show ((strOf l).extract a b).data = (strOf l).data.extract a b from ByteArray.data_extract]
  simp [strOf, List.extract_eq_take_drop]
end Go.Proofs.YtibdeiahmgkbhaaDoor
