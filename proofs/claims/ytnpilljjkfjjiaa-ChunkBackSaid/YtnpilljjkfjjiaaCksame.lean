/- SameMessages. -/
import Derived.Test.YtnpilljjkfjjiaaCkm
import Derived.Test.YtnpilljjkfjjiaaMsgargs
namespace Go.Proofs.Ytnpilljjkfjjiaa
open Go.RowKit
set_option linter.unusedSimpArgs false
set_option linter.unusedVariables false

theorem samemsgs_nil (w : World) (d d' : Nat) : Calls Try.prog 13 #[.slice none 0 d, .slice none 0 d'] w fun e w' => e = .returned (.bool true) ∧ w = w' := by
  have h0 : ((0 : Nat) : Int) = 0 := rfl
  go_enter Try.func13, Try.ntmps13
  go_wp2
  go_loopw [5] (fun v wr => v = .int .i64 0 ∧ w = wr) (fun _ _ => 0)
  case atStart => exact ⟨rfl, rfl⟩
  case round =>
    obtain ⟨rfl, rfl⟩ := hrel
    go_wp2
    go_ret
    exact ⟨rfl, rfl⟩
set_option maxRecDepth 100000 in
set_option maxHeartbeats 4000000 in
theorem samemsgs_yes (w : World) (g o g' o' d d' n : Nat) (l l' : List MsgT) (h : RdK msgTy w (some ⟨g, o, none⟩) n l) (h' : RdK msgTy w (some ⟨g', o', none⟩) n l') (hn : n ≤ 1000000)
    (hs : ∀ (j : Nat) (x : MsgT), l[j]? = some x → ∃ (y : MsgT) (zs : List UInt8), l'[j]? = some y ∧ y.1 = x.1 ∧ y.2.1 = x.2.1 ∧ y.2.2.1 = x.2.2.1 ∧ y.2.2.2.1 = x.2.2.2.1 ∧ Bs w x.2.2.2.2.1 x.2.2.2.2.2.1 zs ∧ Bs w y.2.2.2.2.1 y.2.2.2.2.2.1 zs) :
    Calls Try.prog 13 #[.slice (some ⟨g, o, none⟩) n d, .slice (some ⟨g', o', none⟩) n d'] w fun e w' => e = .returned (.bool true) ∧ Chg [] w w' := by
  have HL := Lib.hid h.len
  have H := Lib.hid h
  have H' := Lib.hid h'
  have HS := Lib.hid hs
  have h0 : ((n : Int) != (n : Int)) = false := by simp
  clear h h' hs
  go_enter Try.func13, Try.ntmps13
  go_wp2
  go_loopw [5] (fun v wr => ∃ j : Nat, j ≤ n ∧ v = .int .i64 (j : Int) ∧ Hid (Chg [] w wr)) (fun v _ => n - (RowKit.intOf v).toNat)
  case atStart => exact ⟨0, Nat.zero_le _, rfl, Chg.refl _ _⟩
  case round =>
    obtain ⟨j, hj, rfl, HI⟩ := hrel
    have i0 : (0 : Int) ≤ (j : Int) := by omega
    have i1 : IntKind.i64.wrap ((j : Int) + 1) = (j : Int) + 1 := IntWalk.i64_in _ (by omega)
    by_cases hlt : j < n
    · have i2 : (j : Int) < (n : Int) := by omega
      obtain ⟨x, hx⟩ : ∃ x, l[j]? = some x := ⟨_, List.getElem?_eq_getElem (by have := HL.out; omega)⟩
      obtain ⟨y, zs, hy, q1, q2, q3, q4, hb, hb'⟩ := HS.out j x hx
      have CE := Lib.hid (fun (w' : World) (hc : Chg [] w w') => msgCells (H.out.chg hc (by simp)) hx)
      have CF := Lib.hid (fun (w' : World) (hc : Chg [] w w') => msgCells (H'.out.chg hc (by simp)) hy)
      clear hx hy
      obtain ⟨x1, x2, x3, x4, xA, xn, xd⟩ := x
      obtain ⟨y1, y2, y3, y4, yA, yn, yd⟩ := y
      dsimp only at q1 q2 q3 q4 hb hb' CE CF
      subst q1; subst q2; subst q3; subst q4
      have HB := Lib.hid (fun (w' : World) (hc : Chg [] w w') => (⟨hb.chg hc (by simp), hb'.chg hc (by simp)⟩ : _ ∧ _))
      clear hb hb'
      have HK : Hid (∀ w', Chg [] wr w' → (w'.cell? ⟨g, o + j * 5, none⟩ = some (.int .i64 y1) ∧ w'.cell? ⟨g, o + j * 5 + 1, none⟩ = some (.int .i64 y2) ∧ w'.cell? ⟨g, o + j * 5 + 2, none⟩ = some (.int .i64 y3) ∧ w'.cell? ⟨g, o + j * 5 + 3, none⟩ = some (.int .i64 y4) ∧ w'.cell? ⟨g, o + j * 5 + 4, none⟩ = some (.slice xA xn xd) ∧ w'.cell? ⟨g', o' + j * 5, none⟩ = some (.int .i64 y1) ∧ w'.cell? ⟨g', o' + j * 5 + 1, none⟩ = some (.int .i64 y2) ∧ w'.cell? ⟨g', o' + j * 5 + 2, none⟩ = some (.int .i64 y3) ∧ w'.cell? ⟨g', o' + j * 5 + 3, none⟩ = some (.int .i64 y4) ∧ w'.cell? ⟨g', o' + j * 5 + 4, none⟩ = some (.slice yA yn yd)) ∧ Chg [] wr w') := Lib.hid (fun w' hc => by
        obtain ⟨a0, a1, a2, a3, a4⟩ := CE.out w' (HI.out.trans hc)
        obtain ⟨b0, b1, b2, b3, b4⟩ := CF.out w' (HI.out.trans hc)
        exact ⟨⟨a0, a1, a2, a3, a4, b0, b1, b2, b3, b4⟩, hc⟩)
      go_upto_region 6 with fail
      refine wp_region_held_drew (S := fun w' => (w'.cell? ⟨g, o + j * 5, none⟩ = some (.int .i64 y1) ∧ w'.cell? ⟨g, o + j * 5 + 1, none⟩ = some (.int .i64 y2) ∧ w'.cell? ⟨g, o + j * 5 + 2, none⟩ = some (.int .i64 y3) ∧ w'.cell? ⟨g, o + j * 5 + 3, none⟩ = some (.int .i64 y4) ∧ w'.cell? ⟨g, o + j * 5 + 4, none⟩ = some (.slice xA xn xd) ∧ w'.cell? ⟨g', o' + j * 5, none⟩ = some (.int .i64 y1) ∧ w'.cell? ⟨g', o' + j * 5 + 1, none⟩ = some (.int .i64 y2) ∧ w'.cell? ⟨g', o' + j * 5 + 2, none⟩ = some (.int .i64 y3) ∧ w'.cell? ⟨g', o' + j * 5 + 3, none⟩ = some (.int .i64 y4) ∧ w'.cell? ⟨g', o' + j * 5 + 4, none⟩ = some (.slice yA yn yd)) ∧ Chg [] wr w') (by kernel_rfl) (HK.out _ (Chg.refl [] wr).drew) (fun hHeld => ?_)
      refine step_yes 0 17 ?_ (by assumption) rfl rfl (by kernel_rfl) (by kernel_rfl) (by kernel_rfl) (fun _ _ _ h => h) (by rfl) ?_ ?_
      rotate_left
      · (intro w hSw; (try dsimp only at hSw); go_simp; try with_reducible rfl)
      try simp only [Act.put, List.setIfInBounds_toArray, List.set_cons_zero, List.set_cons_succ]
      refine step_yes 1 18 ?_ (by assumption) rfl rfl (by kernel_rfl) (by kernel_rfl) (by kernel_rfl) (fun _ _ _ h => h) (by rfl) ?_ ?_
      rotate_left
      · (intro w hSw; (try dsimp only at hSw); go_simp; try with_reducible rfl)
      try simp only [Act.put, List.setIfInBounds_toArray, List.set_cons_zero, List.set_cons_succ]
      refine step_yes 2 19 ?_ (by assumption) rfl rfl (by kernel_rfl) (by kernel_rfl) (by kernel_rfl) (fun _ _ _ h => h) (by rfl) ?_ ?_
      rotate_left
      · (intro w hSw; (try dsimp only at hSw); go_simp; try with_reducible rfl)
      try simp only [Act.put, List.setIfInBounds_toArray, List.set_cons_zero, List.set_cons_succ]
      refine step_yes 3 20 ?_ (by assumption) rfl rfl (by kernel_rfl) (by kernel_rfl) (by kernel_rfl) (fun _ _ _ h => h) (by rfl) ?_ ?_
      rotate_left
      · (intro w hSw; (try dsimp only at hSw); go_simp; try with_reducible rfl)
      try simp only [Act.put, List.setIfInBounds_toArray, List.set_cons_zero, List.set_cons_succ]
      refine step_yes 4 21 ?_ (by assumption) rfl rfl (by kernel_rfl) (by kernel_rfl) (by kernel_rfl) (fun _ _ _ h => h) (by rfl) ?_ ?_
      rotate_left
      · (intro w hSw; (try dsimp only at hSw); go_simp; try with_reducible rfl)
      try simp only [Act.put, List.setIfInBounds_toArray, List.set_cons_zero, List.set_cons_succ]
      refine step_yes 5 22 ?_ (by assumption) rfl rfl (by kernel_rfl) (by kernel_rfl) (by kernel_rfl) (fun _ _ _ h => h) (by rfl) ?_ ?_
      rotate_left
      · (intro w hSw; (try dsimp only at hSw); go_simp; try with_reducible rfl)
      try simp only [Act.put, List.setIfInBounds_toArray, List.set_cons_zero, List.set_cons_succ]
      refine step_yes 6 23 ?_ (by assumption) rfl rfl (by kernel_rfl) (by kernel_rfl) (by kernel_rfl) (fun _ _ _ h => h) (by rfl) ?_ ?_
      rotate_left
      · (intro w hSw; (try dsimp only at hSw); go_simp; try with_reducible rfl)
      try simp only [Act.put, List.setIfInBounds_toArray, List.set_cons_zero, List.set_cons_succ]
      refine step_yes 7 24 ?_ (by assumption) rfl rfl (by kernel_rfl) (by kernel_rfl) (by kernel_rfl) (fun _ _ _ h => h) (by rfl) ?_ ?_
      rotate_left
      · (intro w hSw; (try dsimp only at hSw); go_simp; try with_reducible rfl)
      try simp only [Act.put, List.setIfInBounds_toArray, List.set_cons_zero, List.set_cons_succ]
      refine wpAnyH_ready (rs := [8]) (by kernel_rfl) (by simp) ?_
      refine AllReadyH.cons rfl (fun K hK => ?_) AllReadyH.nil
      replace hK := Lib.hid hK
      go_simp
      refine (samem_yes _ _ _ _ _ xA yA xn xd yn yd zs (HB.out _ (HI.out.trans hHeld.2)).1 (HB.out _ (HI.out.trans hHeld.2)).2).mono ?_
      rintro e w9 ⟨rfl, hc⟩
      have hh := HK.out _ (hHeld.2.trans hc)
      clear hHeld hc
      refine hK.out _ _ hh (fun hHeld => ?_)
      clear hK K
      try simp only [Act.put, List.setIfInBounds_toArray, List.set_cons_zero, List.set_cons_succ]
      refine step_yes 9 26 ?_ (by assumption) rfl rfl (by kernel_rfl) (by kernel_rfl) (by kernel_rfl) (fun _ _ _ h => h) (by rfl) ?_ ?_
      rotate_left
      · (intro w hSw; (try dsimp only at hSw); go_simp; try with_reducible rfl)
      try simp only [Act.put, List.setIfInBounds_toArray, List.set_cons_zero, List.set_cons_succ]
      refine wpAnyH_done (by kernel_rfl) ?_ _
      have C9 := Lib.hid (HI.out.trans hHeld.2)
      clear hHeld
      go_wp2
      exact ⟨⟨j + 1, by omega, by simp, C9.out⟩, by simp [RowKit.intOf]; omega⟩
    · have i2 : ¬ (j : Int) < (n : Int) := by omega
      go_wp2
      go_ret
      exact ⟨rfl, HI.out⟩
end Go.Proofs.Ytnpilljjkfjjiaa
