/- path.Join refused; what PathBack asks, purely. -/
import Derived.Test.YtibdeiahmgkbhaaDoorPhjoin
namespace Go.Proofs.YtibdeiahmgkbhaaDoor
open Go.RowKit
set_option linter.unusedSimpArgs false
set_option linter.unusedVariables false
set_option maxRecDepth 100000 in
set_option maxHeartbeats 4000000 in
theorem phjoin_f (w : World) (A : Option Addr) (c : Nat) (xs : List (List UInt8)) (h : RdK textTy w A xs.length xs) (hn : xs.length ≤ 1000000) (hP : partsL xs = false) :
    Calls Tryd.prog 15 #[.slice A xs.length c] w fun e w' => e = .returned (.tuple #[.string ⟨#[]⟩, .int .i64 2]) ∧ Below w.heap.size w w' := by
  by_cases h0 : xs.length = 0
  · have i0 : ((xs.length : Int) == 0) = true := by rw [beq_iff_eq]; omega
    have i00 : (xs.length : Int) = 0 := by omega
    clear h hP
    go_enter Tryd.func15, Tryd.ntmps15
    go_wp2
    go_ret2
    exact ⟨rfl, Below.refl _ _⟩
  have i0 : ((xs.length : Int) == 0) = false := by rw [beq_eq_false_iff_ne]; omega
  have i00 : ¬ (xs.length : Int) = 0 := by omega
  by_cases h6 : 6 < xs.length
  · have i6 : ((6 : Int) < (xs.length : Int)) := by omega
    clear h hP
    go_enter Tryd.func15, Tryd.ntmps15
    go_wp2
    go_ret2
    exact ⟨rfl, Below.refl _ _⟩
  have i6 : ¬ ((6 : Int) < (xs.length : Int)) := by omega
  have HF := Lib.hid (show ¬ xs.all (partL 12) = true from fun ha => by
    unfold partsL at hP
    rw [ha] at hP
    simp at hP
    omega)
  obtain ⟨g, o, eA, hg⟩ := h.line (by omega)
  subst eA
  have HA := Lib.hid h
  clear h hP
  go_enter Tryd.func15, Tryd.ntmps15
  go_wp2
  go_loopw [5, 16] (fun v5 v16 wr => ∃ k : Nat, k ≤ xs.length ∧ v16 = .int .i64 (k : Int) ∧ Hid ((xs.take k).all (partL 12) = true) ∧ Hid (Below w.heap.size w wr)) (fun _ v16 _ => xs.length - (RowKit.intOf v16).toNat)
  case atStart => exact ⟨0, Nat.zero_le _, rfl, rfl, Below.refl _ _⟩
  case round =>
    obtain ⟨k, hk, rfl, HC, HI⟩ := hrel
    have k1 : IntKind.i64.wrap ((k : Int) + 1) = (k : Int) + 1 := IntWalk.i64_in _ (by omega)
    have j0 : (0 : Int) ≤ (k : Int) := by omega
    by_cases hlt : k < xs.length
    · have i1 : (k : Int) < (xs.length : Int) := by omega
      have ex := List.getElem?_eq_getElem hlt
      have z := (HI.out.cell (p := ⟨g, o + k, none⟩) hg).trans (textCells HA.out ex)
      have HT := Lib.hid (List.take_succ_eq_append_getElem hlt)
      generalize xs[k] = x at *
      clear ex
      cases hp : partL 12 x with
      | false =>
        have HQ := Lib.hid (fun w => hp ▸ isPart_any w x)
        clear hp
        go_wp2_with fail
        refine (HQ.out _).mono ?_
        rintro e w3 ⟨rfl, hb⟩
        have H3 := Lib.hid (HI.out.trans ⟨hb.os, hb.tape, hb.output, hb.size, fun i hi => hb.block i (Nat.lt_of_lt_of_le hi HI.out.size)⟩)
        clear hb
        go_wp2
        go_ret2
        exact ⟨rfl, H3.out⟩
      | true =>
        have HQ := Lib.hid (fun w => hp ▸ isPart_any w x)
        have HH := Lib.hid hp
        clear hp
        go_wp2_with fail
        refine (HQ.out _).mono ?_
        rintro e w3 ⟨rfl, hb⟩
        have H3 := Lib.hid (HI.out.trans ⟨hb.os, hb.tape, hb.output, hb.size, fun i hi => hb.block i (Nat.lt_of_lt_of_le hi HI.out.size)⟩)
        clear hb
        go_wp2
        exact ⟨⟨k + 1, by omega, by simp, Lib.hid (by rw [HT.out, List.all_append, HC.out]; simp [HH.out]), H3⟩, by simp [RowKit.intOf]; omega⟩
    · obtain rfl : k = xs.length := by omega
      have := HC.out
      rw [List.take_length] at this
      exact absurd this HF.out
theorem part_no47 {x : List UInt8} (h : partL 12 x = true) : 47 ∉ x := by
  intro hm
  have : x.all okB = true := by
    unfold partL at h
    simp only [Bool.and_eq_true] at h
    exact h.1.1.1.1
  have := List.all_eq_true.1 this 47 hm
  exact absurd this (by decide)
theorem cut_unc : ∀ xs : List (List UInt8), xs ≠ [] → (∀ x ∈ xs, 47 ∉ x) → cutL (unc xs) = xs
  | [], h, _ => absurd rfl h
  | [x], _, h => cut_one x (h x (by simp))
  | x :: y :: r, _, h => by
    rw [unc_cons x (y :: r) (by simp)]
    show cutA [] (x ++ 47 :: unc (y :: r)) = _
    rw [cutA_at x [] _ (h x (by simp)), List.nil_append, show cutA [] (unc (y :: r)) = cutL (unc (y :: r)) from rfl, cut_unc (y :: r) (by simp) (fun z hz => h z (List.mem_cons_of_mem _ hz))]
/-- Parts that may be joined are split as they were. -/
theorem parts_cut {xs : List (List UInt8)} (h : partsL xs = true) : cutL (unc xs) = xs ∧ okP (unc xs) = true := by
  have hz : (xs.all (partL 12) = true ∧ 1 ≤ xs.length) ∧ xs.length ≤ 6 := by simpa [partsL] using h
  obtain ⟨⟨ha, h1⟩, h6⟩ := hz
  have hc := cut_unc xs (by intro e; rw [e] at h1; simp at h1) (fun x hx => part_no47 (List.all_eq_true.1 ha x hx))
  refine ⟨hc, ?_⟩
  unfold okP checkL
  rw [hc, ha]
  simp [h6]
/-- A path's parts may be joined. -/
theorem ok_parts {l : List UInt8} (h : okP l = true) : partsL (cutL l) = true ∧ unc (cutL l) = l := by
  unfold okP checkL at h
  simp only [Bool.and_eq_true, decide_eq_true_eq] at h
  refine ⟨?_, unc_cut l []⟩
  unfold partsL
  have := List.length_pos_iff.2 (cutA_ne [] l)
  have h1 : 1 ≤ (cutL l).length := this
  rw [h.2]
  simp [h.1, h1]
/-- A path that has a parent is the parent, the byte 47 and its last part. -/
theorem parent_base {l : List UInt8} (h : hasParent l = true) : parentL l ++ 47 :: baseL l = l ∧ underL (parentL l) l = true := by
  unfold hasParent at h
  simp only [Bool.and_eq_true, decide_eq_true_eq] at h
  have hne : cutL l ≠ [] := cutA_ne [] l
  have hp : parentL l = unc (cutL l).dropLast := by unfold parentL; simp [h.1, h.2]
  have hb : baseL l = (cutL l).getLast hne := by unfold baseL; rw [if_pos h.1]
  have hd : (cutL l).dropLast ≠ [] := by
    intro e
    have := congrArg List.length e
    rw [List.length_dropLast] at this
    simp at this
    omega
  have e1 : (cutL l).dropLast ++ [(cutL l).getLast hne] = cutL l := List.dropLast_concat_getLast hne
  have e2 : unc (cutL l) = l := unc_cut l []
  have key : parentL l ++ 47 :: baseL l = l := by
    rw [hp, hb, ← unc_snoc _ _ hd, e1, e2]
  refine ⟨key, ?_⟩
  obtain ⟨hpl, _⟩ := ok_parts h.1
  have hz : ((cutL l).all (partL 12) = true ∧ 1 ≤ (cutL l).length) ∧ (cutL l).length ≤ 6 := by simpa [partsL] using hpl
  have hall : (cutL l).dropLast.all (partL 12) = true := by
    rw [List.all_eq_true]
    intro x hx
    exact List.all_eq_true.1 hz.1.1 x (List.dropLast_subset _ hx)
  have hpd : partsL (cutL l).dropLast = true := by
    unfold partsL
    rw [hall, List.length_dropLast]
    have h2 := h.2
    simp
    omega
  unfold underL
  rw [hp, (parts_cut hpd).2, h.1]
  have h3 : (unc (cutL l).dropLast ++ [47]).isPrefixOf l = true := by
    rw [List.isPrefixOf_iff_prefix]
    refine ⟨baseL l, ?_⟩
    rw [← hp]
    have := key
    simpa using this
  rw [h3]
  rfl
/-- Nothing is under what is under it. -/
theorem under_not {a b : List UInt8} (h : underL a b = true) : underL b a = false := by
  cases hb : underL b a with
  | false => rfl
  | true =>
    have h1 := under_less a b h
    have h2 := under_less b a hb
    rw [less_not a b h1] at h2
    cases h2
end Go.Proofs.YtibdeiahmgkbhaaDoor
