/- The document's writer: Raw, Text, Out. -/
import Derived.Test.YtelbahfmkpncaaaVw2
namespace Go.Proofs.Ytelbahfmkpncaaa
open Go.RowKit

theorem fresh_grown {w w1 w2 : World} {A A' : Option Addr} {c c' : Nat} {xs zs : List UInt8} (hF : Fresh w w1 A c xs) (own : OwnB w2 A' c' zs) (hg : w1.grownBy w2 (A.map (·.block))) (hA : A' = A ∨ A' = some ⟨w1.heap.size, 0, none⟩) : Fresh w w2 A' c' zs := by
  have hs := hF.2.2.size
  refine ⟨own, ?_, hF.2.2.grown hg (fun k hk => ?_)⟩
  · rintro a rfl
    rcases hA with h | h
    · exact hF.2.1 _ h.symm
    · cases h; exact hs
  · cases A with
    | none => cases hk
    | some a => simp at hk; subst hk; exact .inr (hF.2.1 _ rfl)

set_option maxHeartbeats 400000 in
theorem vraw_any (w : World) (b g : Nat) (xs : List UInt8) (e : Int) (B : Option Addr) (m d : Nat) (ys : List UInt8) (h : VWr w b g xs e) (hlen : xs.length ≤ 1048576) (hm : m ≤ 140737488351232) (hr : Bs w B m ys) :
    Calls Try.prog 38 #[.pointer (some ⟨b, 0, none⟩), .slice B m d] w fun r w' => r = .returned (.tuple #[]) ∧ VBetween w w' b g (wRaw xs e ys).1 (wRaw xs e ys).2 := by
  have hl := hr.len
  subst hl
  have hb := nb_fits ys.length (by omega)
  have hp : ∀ w1 A c, Fresh w w1 A c (enc (ys.length : Int).toNat ++ ys) → Calls Try.prog 60 #[.pointer (some ⟨b, 0, none⟩), .slice A (1 + nb ys.length + ys.length) c, .int .i64 0] w1 fun r w' => r = .returned (.tuple #[]) ∧ VBetween w1 w' b g (wRaw xs e ys).1 (wRaw xs e ys).2 := by
    intro w1 A c hF
    have hv := h.chg hF.2.2 (by simp) (by simp)
    have hr := hF.1.reads
    rw [List.length_append, enc_len, Int.toNat_natCast] at hr
    unfold wRaw
    by_cases he : e = 0
    · subst he
      by_cases h4 : 1048576 < 1 + nb ys.length + ys.length + xs.length
      · simp only [ne_eq, not_true_eq_false, if_false, if_pos h4]
        exact vput_long w1 b g xs A _ c hv hlen (by omega) (by omega)
      · simp only [ne_eq, not_true_eq_false, if_false, if_neg h4, List.append_assoc]
        exact vput_fine w1 b g xs A _ c _ hv hr (by omega)
    · simp only [ne_eq, he, not_false_eq_true, if_true]
      exact (vput_had w1 b g xs e 0 A _ c hv (by simpa using he)).mono fun r w' ⟨h1, h2⟩ => ⟨h1, h2 ▸ VBetween.refl hv⟩
  have HP := Lib.hid hp
  have HR := Lib.hid hr
  have hel : (enc (ys.length : Int).toNat).length = 1 + nb ys.length := by rw [enc_len, Int.toNat_natCast]
  have HE := Lib.hid hel
  clear hp hr hel
  go_enter Try.func38, Try.ntmps38
  go_wp2_with (first
    | (go_at_call 61; refine (form_any _ _ (by omega) (by omega)).mono ?_; rintro r w1 ⟨A, c, rfl, hF⟩; have HF := Lib.hid hF; clear hF)
    | (at_builtin; refine wpList_app rfl _ _ rfl rfl HF.out.1 HE.out rfl (HR.out.chg HF.out.2.2 (by simp)) (by omega) ?_; intro A2 c2 w2 own2 hg2 hA2; have HF2 := Lib.hid (fresh_grown HF.out own2 hg2 hA2); clear own2 hg2 hA2)
    | (go_at_call 60; refine (HP.out _ _ _ HF2.out).mono ?_; rintro r w3 ⟨rfl, hB⟩))
  go_end0
  exact ⟨rfl, VBetween.later HF2.out.2.2 hB⟩

set_option maxHeartbeats 400000 in
theorem vout_any (w : World) (b g : Nat) (xs : List UInt8) (e : Int) (h : VWr w b g xs e) (hlen : xs.length ≤ 1048576) :
    Calls Try.prog 39 #[.pointer (some ⟨b, 0, none⟩)] w fun r w' => ∃ A c, r = .returned (.tuple #[.slice A (outs xs e).length c, .int .i64 e]) ∧ Fresh w w' A c (outs xs e) := by
  obtain ⟨A, c, h1, h2, _⟩ := id h
  have k1 := cell_of h1 0
  have k2 := cell_of h1 1
  simp only [List.getElem?_toArray, List.getElem?_cons_zero, List.getElem?_cons_succ] at k1 k2
  have hb := lt_of_heap h1
  have H := Lib.hid h1
  clear h1
  unfold outs
  by_cases he : e = 0
  · subst he
    simp only [if_true]
    go_enter Try.func39, Try.ntmps39
    go_wp2_with (at_builtin; refine wpList_app rfl _ _ rfl rfl (OwnB.empty w) rfl rfl (h2.reads.chg ((Chg.refl [] w).alloc _) (by simp)) (by simp; omega) ?_; intro A' c' w1 own1 hg1 hA1)
    go_ret2
    exact ⟨A', c', by simp, fresh_app own1 hg1 hA1⟩
  · simp only [if_neg he]
    have he' : (e != 0) = true := by simpa using he
    clear he
    go_enter Try.func39, Try.ntmps39
    go_wp2
    go_region
    all_goals (go_wp2; go_ret2; exact ⟨none, 0, rfl, OwnB.none_ _, by simp, (Chg.refl _ _).drew⟩)
end Go.Proofs.Ytelbahfmkpncaaa
