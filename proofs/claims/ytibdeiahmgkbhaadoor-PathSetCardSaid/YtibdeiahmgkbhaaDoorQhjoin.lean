/- SameTexts; the document's join, Split. -/
import Derived.Test.YtibdeiahmgkbhaaDoorPhmath
namespace Go.Proofs.YtibdeiahmgkbhaaDoor
open Go.RowKit
set_option linter.unusedSimpArgs false
set_option linter.unusedVariables false
set_option maxRecDepth 100000 in
set_option maxHeartbeats 2000000 in
theorem sametexts_any (w : World) (A B : Option Addr) (c d : Nat) (xs ys : List (List UInt8)) (h : RdK textTy w A xs.length xs) (h' : RdK textTy w B ys.length ys) (hx : xs.length ≤ 140737488351232) (hy : ys.length ≤ 140737488351232) :
    Calls Tryd.prog 19 #[.slice A xs.length c, .slice B ys.length d] w fun e w' => e = .returned (.bool (xs == ys)) ∧ Chg [] w w' := by
  have HA := Lib.hid h
  have HB := Lib.hid h'
  clear h h'
  obtain ⟨R, hR⟩ : ∃ R, (xs == ys) = R := ⟨_, rfl⟩
  rw [hR]
  have HR := Lib.hid hR
  clear hR
  by_cases hne : xs.length = ys.length
  · have hb : ((xs.length : Int) == (ys.length : Int)) = true := by simp; omega
    have HN := Lib.hid hne
    clear hne
    go_enter Tryd.func19, Tryd.ntmps19
    go_wp2
    go_loopw [5] (fun v5 wr => ∃ k : Nat, k ≤ xs.length ∧ v5 = .int .i64 (k : Int) ∧ Hid (xs.take k = ys.take k ∧ Chg [] w wr)) (fun v5 _ => xs.length - (RowKit.intOf v5).toNat)
    case atStart => exact ⟨0, Nat.zero_le _, rfl, rfl, Chg.refl _ _⟩
    case round =>
      obtain ⟨k, hk, rfl, HI⟩ := hrel
      have k1 : IntKind.i64.wrap ((k : Int) + 1) = (k : Int) + 1 := IntWalk.i64_in _ (by omega)
      have i0 : (0 : Int) ≤ (k : Int) := by omega
      by_cases hlt : k < xs.length
      · have hlt2 : k < ys.length := by have := HN.out; omega
        have i1 : (k : Int) < (xs.length : Int) := by omega
        have i2 : (k : Int) < (ys.length : Int) := by omega
        obtain ⟨g, o, eA, _⟩ := HA.out.line (by omega)
        subst eA
        obtain ⟨g2, o2, eB, _⟩ := HB.out.line (by omega)
        subst eB
        have ex := List.getElem?_eq_getElem hlt
        have z := textCells (HA.out.chg HI.out.2 (by simp)) ex
        have ey := List.getElem?_eq_getElem hlt2
        have z2 := textCells (HB.out.chg HI.out.2 (by simp)) ey
        generalize xs[k] = x at *
        generalize ys[k] = y at *
        have HE := Lib.hid (And.intro ex ey)
        clear ex ey
        by_cases hxy : x = y
        · subst hxy
          have h1 : (x == x) = true := by simp
          go_wp2
          go_quiet (fail)
          go_wp2
          refine ⟨⟨k + 1, by omega, by simp, Lib.hid ⟨?_, HI.out.2.drewN _⟩⟩, by simp [RowKit.intOf]; omega⟩
          rw [List.take_add_one, List.take_add_one, HI.out.1, HE.out.1, HE.out.2]
        · have h1 : (x == y) = false := by simpa using hxy
          have h2 := str_ne hxy
          have HF := Lib.hid (show R = false by
            rw [← HR.out, beq_eq_false_iff_ne]
            intro e
            have h3 := HE.out.1
            rw [e, HE.out.2] at h3
            exact hxy (Option.some.inj h3).symm)
          go_wp2
          go_quiet (fail)
          go_wp2
          go_ret
          exact ⟨congrArg (fun v => Ending.returned (Value.bool v)) HF.out.symm, HI.out.2.drewN _⟩
      · obtain rfl : k = xs.length := by omega
        have HF := Lib.hid (show R = true by
          have h3 := HI.out.1
          rw [List.take_length, HN.out, List.take_length] at h3
          rw [← HR.out, h3]
          simp)
        have i1 : ¬ ((xs.length : Int) < (xs.length : Int)) := by omega
        go_wp2
        go_ret
        exact ⟨congrArg (fun v => Ending.returned (Value.bool v)) HF.out.symm, HI.out.2⟩
  · have hb : ((xs.length : Int) == (ys.length : Int)) = false := by simp; omega
    have hb2 : ¬ ((xs.length : Int) = (ys.length : Int)) := by omega
    have HF := Lib.hid (show R = false by
      rw [← HR.out, beq_eq_false_iff_ne]
      intro e
      exact hne (by rw [e]))
    go_enter Tryd.func19, Tryd.ntmps19
    go_wp2
    go_ret
    exact ⟨congrArg (fun v => Ending.returned (Value.bool v)) HF.out.symm, Chg.refl _ _⟩
theorem unc_snoc (xs : List (List UInt8)) (x : List UInt8) (h : xs ≠ []) : unc (xs ++ [x]) = unc xs ++ 47 :: x := unc_app xs [x] h (by simp)
theorem unc_len (M : Nat) : ∀ xs : List (List UInt8), (∀ x ∈ xs, x.length ≤ M) → (unc xs).length ≤ xs.length * (M + 1)
  | [], _ => by simp [unc]
  | [x], h => by have := h x (by simp); simp [unc]; omega
  | x :: y :: r, h => by
    have h1 := h x (by simp)
    have h2 := unc_len M (y :: r) (fun z hz => h z (by simp at hz ⊢; exact .inr hz))
    rw [unc_cons x (y :: r) (by simp), List.length_append, List.length_cons, List.length_cons (a := x), Nat.succ_mul]
    omega
set_option maxRecDepth 100000 in
set_option maxHeartbeats 2000000 in
theorem qjoin_any (w : World) (A : Option Addr) (c : Nat) (xs : List (List UInt8)) (h : RdK textTy w A xs.length xs) (hn : xs.length ≤ 1000000) (hl : ∀ x ∈ xs, x.length ≤ 10000000) :
    Calls Tryd.prog 40 #[.slice A xs.length c] w fun e w' => e = .returned (.string (strOf (unc xs))) ∧ w' = w := by
  have HA := Lib.hid h
  obtain ⟨R, hR⟩ : ∃ R, strOf (unc xs) = R := ⟨_, rfl⟩
  rw [hR]
  have HR := Lib.hid hR
  have HL := Lib.hid hl
  clear h hR hl
  go_enter Tryd.func40, Tryd.ntmps40
  go_wp2
  go_loopw [3, 4] (fun v3 v4 wr => ∃ k : Nat, k ≤ xs.length ∧ v4 = .int .i64 (k : Int) ∧ v3 = .string (strOf (unc (xs.take k))) ∧ wr = w) (fun _ v4 _ => xs.length - (RowKit.intOf v4).toNat)
  case atStart => exact ⟨0, Nat.zero_le _, rfl, rfl, rfl⟩
  case round =>
    obtain ⟨k, hk, rfl, rfl, rfl⟩ := hrel
    have k1 : IntKind.i64.wrap ((k : Int) + 1) = (k : Int) + 1 := IntWalk.i64_in _ (by omega)
    have i0 : (0 : Int) ≤ (k : Int) := by omega
    by_cases hlt : k < xs.length
    · have i1 : (k : Int) < (xs.length : Int) := by omega
      obtain ⟨g, o, eA, _⟩ := HA.out.line (by omega)
      subst eA
      have ex := List.getElem?_eq_getElem hlt
      have z := textCells HA.out ex
      have HT := Lib.hid (List.take_succ_eq_append_getElem hlt)
      have hx := HL.out xs[k] (List.getElem_mem hlt)
      have hu := unc_len 10000000 (xs.take k) (fun x hx => HL.out x (List.mem_of_mem_take hx))
      have hu2 : (xs.take k).length * (10000000 + 1) ≤ 1000000 * (10000000 + 1) := Nat.mul_le_mul_right _ (by rw [List.length_take]; omega)
      generalize xs[k] = x at *
      have sx := strOf_size x
      by_cases hk0 : k = 0
      · subst hk0
        rw [Nat.add_zero] at z
        have i2 : ¬ ((0 : Int) < 0) := by omega
        rw [show unc (xs.take 0) = [] from rfl]
        have s0 := strOf_size []
        have ea : strOf [] ++ strOf x = strOf x := by apply ByteArray.ext; simp [strOf]
        have e1 : unc (xs.take (0 + 1)) = x := by rw [HT.out]; rfl
        have HE := Lib.hid e1
        clear ex e1 hu hu2
        go_wp2
        exact ⟨⟨1, by omega, by simp, by first | (rw [HE.out]; simp [ea]; done) | (rw [HE.out]; done) | (rw [HE.out]; exact congrArg Value.string ea), trivial⟩, by simp [RowKit.intOf]; omega⟩
      · have i2 : (0 : Int) < (k : Int) := by omega
        have hne : xs.take k ≠ [] := by
          intro e
          have := congrArg List.length e
          rw [List.length_take, Nat.min_eq_left hk] at this
          exact hk0 this
        have e1 : unc (xs.take (k + 1)) = unc (xs.take k) ++ 47 :: x := by rw [HT.out, unc_snoc _ _ hne]
        have HE := Lib.hid e1
        have hu3 : (unc (xs.take k)).length ≤ 10000001000000 := by omega
        clear ex e1 hne hu hu2
        generalize unc (xs.take k) = p at *
        have s0 := strOf_size p
        have ea : strOf p ++ (⟨#[47]⟩ : ByteArray) = strOf (p ++ [47]) := by apply ByteArray.ext; simp [strOf]
        have s1 := strOf_size (p ++ [47])
        have s2 : (p ++ [47]).length = p.length + 1 := by simp
        have eb : strOf (p ++ [47]) ++ strOf x = strOf (p ++ 47 :: x) := by apply ByteArray.ext; simp [strOf]
        go_wp2
        exact ⟨⟨k + 1, by omega, by simp, by first | (rw [HE.out]; done) | (rw [HE.out]; simp [ea, eb]), trivial⟩, by simp [RowKit.intOf]; omega⟩
    · obtain rfl : k = xs.length := by omega
      rw [List.take_length]
      have i1 : ¬ ((xs.length : Int) < (xs.length : Int)) := by omega
      rw [HR.out]
      go_wp2
      go_ret
      exact ⟨rfl, rfl⟩
end Go.Proofs.YtibdeiahmgkbhaaDoor
