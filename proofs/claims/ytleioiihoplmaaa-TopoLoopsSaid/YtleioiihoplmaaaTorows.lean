/- Members and numbers in slices. -/
import Derived.Test.YtleioiihoplmaaaRowK
import Derived.Deep.QuietTactic
import Derived.BigQuiet
import Derived.RegionTactic
namespace Go.Proofs.Ytleioiihoplmaaa
open Go.RowKit
set_option linter.unusedSimpArgs false
set_option linter.unusedVariables false
def memTy : RowTy (Int × Int × Bool) where
  enc := fun x => [.int .i64 x.1, .int .i64 x.2.1, .bool x.2.2]
  k := 3
  T := 50
  TS := 22
  z := (0, 0, false)
  zv := .agg #[.int .i64 0, .int .i64 0, .bool false]
  bytes := 24
  klen := fun _ => rfl
  one := by intro x v hv; simp at hv; rcases hv with rfl | rfl | rfl <;> rfl
  zc := rfl
  kpos := by decide
  bpos := by decide
  under := by kernel_rfl
  info := by kernel_rfl
theorem memCells {w : World} {g o n j : Nat} {xs : List (Int × Int × Bool)} (h : RdK memTy w (some ⟨g, o, none⟩) n xs) {x : Int × Int × Bool} (hx : xs[j]? = some x) : w.cell? ⟨g, o + j * 3, none⟩ = some (.int .i64 x.1) ∧ w.cell? ⟨g, o + j * 3 + 1, none⟩ = some (.int .i64 x.2.1) ∧ w.cell? ⟨g, o + j * 3 + 2, none⟩ = some (.bool x.2.2) :=
  ⟨h.at_ j 0 x _ hx rfl, h.at_ j 1 x _ hx rfl, h.at_ j 2 x _ hx rfl⟩
def intTy : RowTy Int where
  enc := fun x => [.int .i64 x]
  k := 1
  T := 3
  TS := 35
  z := 0
  zv := .int .i64 0
  bytes := 8
  klen := fun _ => rfl
  one := by intro x v hv; simp at hv; rcases hv with rfl; rfl
  zc := rfl
  kpos := by decide
  bpos := by decide
  under := by kernel_rfl
  info := by kernel_rfl
theorem intCells {w : World} {g o n j : Nat} {xs : List Int} (h : RdK intTy w (some ⟨g, o, none⟩) n xs) {x : Int} (hx : xs[j]? = some x) : w.cell? ⟨g, o + j, none⟩ = some (.int .i64 x) := by
  have := h.at_ j 0 x _ hx rfl
  rwa [show intTy.k = 1 from rfl, Nat.mul_one, Nat.add_zero] at this
theorem rd_int1 (w : World) (x : Int) : RdK intTy (w.alloc (.cells #[.int .i64 x] 3)) (some ⟨w.heap.size, 0, none⟩) 1 [x] :=
  (OwnK.of (R := intTy) (c := 1) (full := [x]) (xs := [x]) (heap_alloc_new w _) (Nat.le_refl _) (by decide) rfl rfl).reads
set_option maxHeartbeats 1000000 in
theorem sameint_any (w : World) (A B : Option Addr) (n m c d : Nat) (xs ys : List Int) (h : RdK intTy w A n xs) (h' : RdK intTy w B m ys) (hn : n ≤ 140737488351232) (hm : m ≤ 140737488351232) :
    Calls Try.prog 23 #[.slice A n c, .slice B m d] w fun e w' => e = .returned (.bool (xs == ys)) ∧ Chg [] w w' := by
  have hl := h.len
  have hl2 := h'.len
  subst hl hl2
  by_cases hne : xs.length = ys.length
  · have hb : ((xs.length : Int) == (ys.length : Int)) = true := by simp; omega
    have HN := Lib.hid hne
    have HA := Lib.hid h
    have HB := Lib.hid h'
    clear hne h h'
    go_enter Try.func23, Try.ntmps23
    go_wp2
    go_loopw [5] (fun i wr => ∃ k : Nat, k ≤ xs.length ∧ i = .int .i64 k ∧ Hid (xs.take k = ys.take k ∧ Chg [] w wr)) (fun i _ => xs.length - (RowKit.intOf i).toNat)
    case atStart => exact ⟨0, Nat.zero_le _, rfl, rfl, Chg.refl _ _⟩
    case round =>
      obtain ⟨k, hk, rfl, HI⟩ := hrel
      by_cases hlt : k < xs.length
      · have hlt2 : k < ys.length := by have := HN.out; omega
        obtain ⟨g, o, eA, _⟩ := HA.out.line (by omega)
        obtain ⟨g2, o2, eB, _⟩ := HB.out.line (by omega)
        subst eA eB
        have ex := List.getElem?_eq_getElem hlt
        have ey := List.getElem?_eq_getElem hlt2
        have p0 := intCells (HA.out.chg HI.out.2 (by simp)) ex
        have q0 := intCells (HB.out.chg HI.out.2 (by simp)) ey
        generalize hx : xs[k] = x at *
        generalize hy : ys[k] = y at *
        have i0 : (0 : Int) ≤ (k : Int) := by omega
        have i1 : (k : Int) < (xs.length : Int) := by omega
        have i2 : (k : Int) < (ys.length : Int) := by omega
        have HX := Lib.hid (And.intro ex ey)
        clear ex ey hx hy
        refine (Decidable.em (x = y)).elim (fun hxy => ?EQ) (fun hxy => ?NE)
        case EQ =>
          subst hxy
          have hq : (x == x) = true := by simp
          go_wp2
          (try go_quiet (fail))
          (try go_wp2)
          refine ⟨⟨k + 1, by omega, by simp, ?_, by first | exact HI.out.2 | exact HI.out.2.drewN _⟩, by simp [RowKit.intOf]; omega⟩
          rw [List.take_add_one, List.take_add_one, HI.out.1, HX.out.1, HX.out.2]
        case NE =>
          have hf : (xs == ys) = false := by
            rw [beq_eq_false_iff_ne]
            intro e
            apply hxy
            have h1 := HX.out.1
            rw [e, HX.out.2] at h1
            exact (Option.some.inj h1).symm
          have HF := Lib.hid hf
          have hq : (x == y) = false := by simpa using hxy
          clear hf
          go_wp2
          (try go_quiet (fail))
          (try go_wp2)
          go_ret
          exact ⟨by rw [HF.out]; rfl, by first | exact HI.out.2 | exact HI.out.2.drewN _⟩
      · obtain rfl : k = xs.length := by omega
        have ht : (xs == ys) = true := by
          have := HI.out.1
          rw [List.take_of_length_le (Nat.le_refl _), List.take_of_length_le (by have := HN.out; omega)] at this
          simpa using this
        have HF := Lib.hid ht
        clear ht
        go_wp2
        go_ret
        exact ⟨by rw [HF.out]; rfl, HI.out.2⟩
  · have hb : ((xs.length : Int) == (ys.length : Int)) = false := by simp; omega
    have hf : (xs == ys) = false := by
      rw [beq_eq_false_iff_ne]
      intro e
      exact hne (by rw [e])
    rw [hf]
    clear hne h h' hf
    go_enter Try.func23, Try.ntmps23
    go_wp2
    go_ret
    exact ⟨rfl, Chg.refl _ _⟩
end Go.Proofs.Ytleioiihoplmaaa
