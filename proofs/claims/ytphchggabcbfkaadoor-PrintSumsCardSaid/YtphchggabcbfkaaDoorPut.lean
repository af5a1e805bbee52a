/- Package frame: PutPacket. -/
import Derived.Test.YtphchggabcbfkaaDoorPk
namespace Go.Proofs.YtphchggabcbfkaaDoor
open Go.RowKit
set_option linter.unusedSimpArgs false

/-- A packet's bytes ahead of the fingerprint. -/
def pkB (f t m a : Int) (ys : List UInt8) : List UInt8 := enc f.toNat ++ enc t.toNat ++ enc m.toNat ++ enc a.toNat ++ enc ys.length ++ ys
/-- A packet's bytes. -/
def pkO (f t m a : Int) (ys : List UInt8) : List UInt8 := if FineP f t m a ys.length then pkB f t m a ys ++ sumB (pkB f t m a ys) else []
theorem wNum_ok {xs : List UInt8} {x : Int} (h : inN x) (hl : xs.length ≤ 1000) : wNum xs 0 x = (xs ++ enc x.toNat, 0) := by
  unfold inN at h
  have b := nb_le x.toNat (by omega)
  unfold wNum
  rw [if_neg (by simp), if_neg (by omega), if_neg (by omega)]
theorem enc_le {x : Int} (h : inN x) : (enc x.toNat).length ≤ 9 := by
  unfold inN at h
  have b := nb_le x.toNat (by omega)
  rw [enc_len]; omega
theorem wRaw_ok {xs ys : List UInt8} (hl : xs.length ≤ 1000) (hy : ys.length ≤ 1000) : wRaw xs 0 ys = (xs ++ enc ys.length ++ ys, 0) := by
  have b := nb_le ys.length (by omega)
  unfold wRaw
  rw [if_neg (by simp), if_neg (by omega)]

theorem app_fresh0 {w wr w1 : World} {A A' : Option Addr} {c' : Nat} {zs : List UInt8} (own1 : OwnB w1 A' c' zs) (f2 : ∀ a, A = some a → w.heap.size ≤ a.block) (hc : Chg [] w wr) (hg1 : wr.grownBy w1 (A.map (·.block)))
    (hA1 : A' = A ∨ A' = some ⟨wr.heap.size, 0, none⟩) : Fresh w w1 A' c' zs := by
  have hs := hc.size
  refine ⟨own1, ?_, hc.grown hg1 (fun k hk => ?_)⟩
  · rintro a rfl
    rcases hA1 with h | h
    · exact f2 a h.symm
    · cases h; exact hs
  · cases A with
    | none => cases hk
    | some a => simp at hk; subst hk; exact .inr (f2 a rfl)

end Go.Proofs.YtphchggabcbfkaaDoor
