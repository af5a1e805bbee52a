/- PastBack returns true, whatever comes in; what came in reads as it did: no condition. -/
import Derived.Test.YtgafkphhnlifiaaZpbq
import Derived.Test.YtgafkphhnlifiaaRow
import Derived.Carry
namespace Go.Proofs.Ytgafkphhnlifiaa.pastBack
open Go.ChangeShapes Go.WideShapes Go.ChangeAt Go.RowKit
set_option linter.unusedVariables false

set_option maxRecDepth 100000 in
theorem lifted (os : Os) (started : os.Started) (H : Type) (enc : TypeId × Value → H) :
    ReturnsInHanded {} Try.checked os 6 .any (Rows.pastBackSpec.pre6 enc Try.prog Try.f6 Rows.pastBackRow.domain false) (Rows.pastBackSpec.post enc Try.prog Try.f6 false true false false) := by
  refine returnsInHanded_of_change_sized (C := Try.checked) own started (by kernel_rfl) Try.func6
    (ChangeSpec.witness6 (enc := enc) (C := Try.checked) false ⟨#[], #[.slice none 0 0, .slice none 0 0, .agg #[.int .i64 0, .int .i64 0]], []⟩ 8 (by kernel_rfl) (by kernel_rfl) (by kernel_rfl) (by kernel_rfl)) ?_
  intro W base args ds gs before hval0 hW hcnd hsz0 _
  have hval : ∀ (j : Nat) t v, Try.f6.params[j]? = some t → args[j]? = some v → Value.okWide Try.prog W .any base t v := hval0
  have hsz : (DataW.weightsEach Try.prog (Try.f6.params.toList ++ Rows.pastBackSpec.plain.varTypes Try.prog) (ds ++ gs)).all (· ≤ reachBytes) = true := hsz0
  have hW' := hW
  obtain ⟨p, q, hA0, hV, rfl, hfz, hnd⟩ := hW
  have hA : DataW.TrodAll enc Try.prog W 0 (fun _ => true) true Try.f6.params.toList args.toList ds p := hA0
  rw [Try.params6] at hA hsz hval
  obtain ⟨v0, vs0, d0, ds0, p0, q0, hargs, rfl, rfl, h0, r0⟩ := trodAll_cons hA
  obtain ⟨v1, vs1, d1, ds1, p1, q1, rfl, rfl, rfl, h1, r1⟩ := trodAll_cons r0
  obtain ⟨v2, vs2, d2, ds2, p2, q2, rfl, rfl, rfl, h2, r2⟩ := trodAll_cons r1
  obtain ⟨rfl, rfl, rfl⟩ := trodAll_nil r2
  obtain rfl : args = #[v0, v1, v2] := by cases args; simp_all
  obtain ⟨rfl, rfl⟩ := trodVars_none hV
  obtain ⟨a01, a02, a03, rfl⟩ := okWide_slice Try.underlying22 (hval 0 22 v0 rfl rfl)
  obtain ⟨a11, a12, a13, rfl⟩ := okWide_slice Try.underlying43 (hval 1 43 v1 rfl rfl)
  obtain ⟨cs2, rfl, hs2⟩ := okWide_struct Try.underlying37 (hval 2 37 v2 rfl rfl)
  have k0_ := h0
  have k1_ := h1
  have k2_ := h2
  have lt0 : ∀ x ∈ p0, x.block < W.heap.size := by obtain ⟨m, hm⟩ := k0_; exact DataW.trod_lt m _ _ _ hm
  have lt1 : ∀ x ∈ p1, x.block < W.heap.size := by obtain ⟨m, hm⟩ := k1_; exact DataW.trod_lt m _ _ _ hm
  have lt2 : ∀ x ∈ p2, x.block < W.heap.size := by obtain ⟨m, hm⟩ := k2_; exact DataW.trod_lt m _ _ _ hm
  have hv0 := okWide_has Try.underlying22 (hval 0 22 (.slice a01 a02 a03) rfl rfl)
  obtain ⟨A0, n0, c0, xs0, he0, hb0, hn0, hm0⟩ : ∃ A m d zs, Value.slice a01 a02 a03 = .slice A m d ∧ RdK spanTy W A m zs ∧ m * 24 ≤ 140737488351232 ∧ m ≤ d := by
    obtain ⟨fuel, hf⟩ := h0
    obtain ⟨A, m, d, zs, e, r⟩ := open_spans (y := (d0, p0)) hf (fun k hk => by
      have := List.all_eq_true.1 hsz k (DataW.weights_mem_each (j := 0) (t := 22) (d := d0) rfl rfl k hk)
      simpa using this)
    exact ⟨A, m, d, zs, List.singleton_inj.1 e, r⟩
  cases he0
  obtain ⟨hq0, hu0⟩ := hv0
  obtain ⟨A1, n1, c1, xs1, he1, hb1, hn1, hm1, hc1⟩ : ∃ A m d ys, Value.slice a11 a12 a13 = .slice A m d ∧ Bs W A m ys ∧ m ≤ 140737488351232 ∧ m ≤ d ∧ d ≤ 9223372036854775807 := by
    obtain ⟨fuel, hf⟩ := h1
    obtain ⟨A, m, d, ys, e, r⟩ := open_bytes (y := (d1, p1)) hf (fun k hk => by
      have := List.all_eq_true.1 hsz k (DataW.weights_mem_each (j := 1) (t := 43) (d := d1) rfl rfl k hk)
      simpa using this)
    exact ⟨A, m, d, ys, List.singleton_inj.1 e, r⟩
  cases he1
  obtain ⟨n2, s2, he2, ln2, un2, ls2, us2⟩ : ∃ (n s : Int), cs2 = #[.int .i64 n, .int .i64 s] ∧ -9223372036854775808 ≤ n ∧ n ≤ 9223372036854775807 ∧ -9223372036854775808 ≤ s ∧ s ≤ 9223372036854775807 := by
    obtain ⟨fuel, hf⟩ := h2
    obtain ⟨n, s, e, r⟩ := open_dot (y := (d2, p2)) hf
    exact ⟨n, s, Array.toList_inj.1 e, r⟩
  subst he2
  clear hA0 hval0
  simp only [List.append_nil] at hW'
  refine (pbacklaw_yes W _ _ _ _ hb0 hq0 hu0 _ _ _ _ hb1 ⟨hn1, hm1, hc1⟩ _ _).mono fun e W' ⟨he, hg⟩ => ?_
  subst he
  exact ⟨_, rfl, post_of_below (pa := p0 ++ (p1 ++ p2)) (pv := []) hW' (fun _ _ _ => (trodAll_cons_mk (shut_bool Try.underlying4 _) trodAll_mk0))
    (fun sp hsp => trodAll_cons_mk (WideElems.Trod_stays laidOut (by kernel_rfl) (of_decide_eq_true (by kernel_rfl)) k0_ (fun x hx => hg.toBelow.same (lt0 x hx)) (fun x hx => hsp x (by simp [hx]))) (trodAll_cons_mk (WideElems.Trod_stays laidOut (by kernel_rfl) (of_decide_eq_true (by kernel_rfl)) k1_ (fun x hx => hg.toBelow.same (lt1 x hx)) (fun x hx => hsp x (by simp [hx]))) (trodAll_mk1 (WideElems.Trod_stays laidOut (by kernel_rfl) (of_decide_eq_true (by kernel_rfl)) k2_ (fun x hx => hg.toBelow.same (lt2 x hx)) (fun x hx => hsp x (by simp [hx])))))) (fun _ _ => rfl) (by simp)
    hg.toBelow (ok_one (by kernel_rfl) rfl (okWide_bool_mk Try.underlying4 _))⟩

theorem proved : Rows.PastBackSaid :=
  OpenClaim.holds_of_wide 6 Try.f6 rfl rfl rfl rfl rfl rfl rfl ⟨rfl, rfl, rfl, rfl, rfl⟩ rfl rfl rfl rfl rfl (by kernel_rfl) Try.func6 (by kernel_rfl)
    (of_decide_eq_true (by kernel_rfl)) (by unfold Func.isWrapper; first | (rw [if_pos (by decide +kernel)]; kernel_rfl) | (rw [if_neg (by decide +kernel)]; exact ⟨rfl, rfl⟩))
    (fun os started H enc _ => lifted os started H enc)
end Go.Proofs.Ytgafkphhnlifiaa.pastBack
