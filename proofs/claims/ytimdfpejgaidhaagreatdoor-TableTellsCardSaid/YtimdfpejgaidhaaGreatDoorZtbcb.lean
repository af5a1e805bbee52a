/- The document's Move. The law's Wants. The law's Long. The kit's OverEntries. Changes of trees, and rows of them, as arguments. TableTells. -/
import Derived.Test.YtimdfpejgaidhaaGreatDoorZtbca
import Derived.Test.YtimdfpejgaidhaaGreatDoorZtban
import Derived.Deep.Cut
import Derived.Deep.RegionHeld3
import Derived.Test.YtimdfpejgaidhaaGreatDoorZtbao
import Derived.Test.YtimdfpejgaidhaaGreatDoorZtbad
import Derived.Test.YtimdfpejgaidhaaGreatDoorZtbaj
import Derived.Test.YtimdfpejgaidhaaGreatDoorZtbak
import Derived.Test.YtimdfpejgaidhaaGreatDoorZtbab
import Derived.Test.YtimdfpejgaidhaaGreatDoorZtbae
import Derived.Test.YtimdfpejgaidhaaGreatDoorZtbam
namespace Go.Proofs.YtimdfpejgaidhaaGreatDoor
section
open Go.RowKit Go.Lib
set_option linter.unusedSimpArgs false
set_option linter.unusedVariables false

theorem lays_in : ∀ (l : List EnP) {t : List EnP} {e : EnP}, e ∈ l.foldl layT t → e ∈ l ∨ e ∈ t
  | [], t, e, h => .inr h
  | x :: l, t, e, h => by
    rw [List.foldl_cons] at h
    rcases lays_in l h with q | q
    · exact .inl (List.mem_cons_of_mem _ q)
    · rcases lay_mem.1 q with rfl | r
      · exact .inl (by simp)
      · exact .inr r.1
theorem lay_len (x : EnP) : ∀ t : List EnP, (layT t x).length ≤ t.length + 1 := by
  have key : ∀ t : List EnP, (t.filter (fun e => lessL e.p x.p)).length + (t.filter (fun e => lessL x.p e.p)).length ≤ t.length := by
    intro t
    induction t with
    | nil => simp
    | cons y t ih =>
      rw [List.filter_cons, List.filter_cons]
      rcases a : lessL y.p x.p with _ | _
      · rw [if_neg (by simp)]
        split
        · rw [List.length_cons, List.length_cons]; omega
        · rw [List.length_cons]; omega
      · rw [less_not _ _ a, if_pos rfl, if_neg (by simp), List.length_cons, List.length_cons]; omega
  intro t
  have := key t
  unfold layT
  rw [List.length_append, List.length_cons]
  omega
theorem lays_len : ∀ (l t : List EnP), (l.foldl layT t).length ≤ l.length + t.length
  | [], t => by simp
  | x :: l, t => by
    rw [List.foldl_cons, List.length_cons]
    have := lays_len l (layT t x)
    have := lay_len x t
    omega
/-- Those apart by what is at and under a path. -/
theorem doc_move {t : List EnP} {f g : List UInt8} {e0 : EnP} (ht : TabOk t) (he : getT t f = some e0) (hap : (t.map (mvE f g)).Pairwise (fun a b => a.p ≠ b.p)) : ((underT t f).map (mvE f g)).foldl layT (layT (t.filter (fun e => !(decide (e.p = f) || underL f e.p))) ⟨g, e0.k, e0.m, e0.b⟩) = sortTN (t.map (mvE f g)) := by
  obtain ⟨h1, h2⟩ := get_some he
  have m0 : mvE f g e0 = ⟨g, e0.k, e0.m, e0.b⟩ := by unfold mvE; rw [h2, mvP_yes (.inl rfl), List.drop_length, List.append_nil]
  have ws : (t.filter (fun e => !(decide (e.p = f) || underL f e.p))).Pairwise ltT := ht.2.1.sublist List.filter_sublist
  have same : ∀ e ∈ t.filter (fun e => !(decide (e.p = f) || underL f e.p)), mvE f g e = e := fun e q => by
    have := (List.mem_filter.1 q).2
    unfold mvE
    rw [mvP_no]
    rintro (r | r) <;> simp [r] at this
  -- the changed list, in another order
  have nd : t.Nodup := ht.2.1.imp (fun {a b} q r => by subst r; exact ltT_irr _ q)
  have P : t.Perm (underT t f ++ e0 :: t.filter (fun e => !(decide (e.p = f) || underL f e.p))) := by
    refine (List.perm_ext_iff_of_nodup nd ?_).2 (fun x => ?_)
    · rw [List.nodup_append]
      refine ⟨nd.sublist List.filter_sublist, List.nodup_cons.2 ⟨fun q => ?_, nd.sublist List.filter_sublist⟩, fun a ha b hb r => ?_⟩
      · have := (List.mem_filter.1 q).2
        simp [h2] at this
      · subst r
        have ua := (List.mem_filter.1 ha).2
        rcases List.mem_cons.1 hb with r | r
        · subst r
          rw [h2, under_self] at ua
          cases ua
        · have := (List.mem_filter.1 r).2
          simp [ua] at this
    · rw [List.mem_append, List.mem_cons]
      unfold underT
      rw [List.mem_filter, List.mem_filter]
      constructor
      · intro q
        by_cases r : underL f x.p = true
        · exact .inl ⟨q, r⟩
        · by_cases s : x.p = f
          · exact .inr (.inl (same_path ht.2.1 q h1 (s.trans h2.symm)))
          · exact .inr (.inr ⟨q, by simp [s, r]⟩)
      · rintro (q | q | q)
        · exact q.1
        · rw [q]; exact h1
        · exact q.1
  have P2 := P.map (mvE f g)
  rw [List.map_append, List.map_cons, m0, List.map_congr_left same, List.map_id'] at P2
  have ap2 := (P2.pairwise_iff (R := fun a b : EnP => a.p ≠ b.p) (fun {a b} q => Ne.symm q)).1 hap
  have lm : ∀ e, e ∈ layT (t.filter (fun e => !(decide (e.p = f) || underL f e.p))) ⟨g, e0.k, e0.m, e0.b⟩ ↔ e = ⟨g, e0.k, e0.m, e0.b⟩ ∨ e ∈ t.filter (fun e => !(decide (e.p = f) || underL f e.p)) := fun e => lay_mem.trans ⟨fun q => q.imp id (fun r => r.1), fun q => q.imp id (fun r => ⟨r, fun s => by
    rw [List.pairwise_append, List.pairwise_cons] at ap2
    exact ap2.2.1.1 e r s.symm⟩)⟩
  refine t_ext (lays_sorted _ (lay_sorted ws _)) (sort_sorted _) (fun x => ?_)
  rw [lays_mem _ ?_, sort_mem hap, P2.mem_iff, List.mem_append, List.mem_cons, lm]
  rw [List.pairwise_append] at ap2 ⊢
  refine ⟨ap2.1, (lay_sorted ws _).imp (fun q => ltT_ne q), fun a ha b hb => ?_⟩
  exact ap2.2.2 a ha b (List.mem_cons.2 ((lm b).1 hb))
set_option maxRecDepth 100000 in
set_option maxHeartbeats 16000000 in
theorem tdmove_any (w : World) (A : Option Addr) (c : Nat) (xs : List EnT) (es : List EnP) (f g : List UInt8) (hf : f.length ≤ 900000) (hg : g.length ≤ 900000) (h : RdK enTy w A xs.length xs) (hx : EnsR w xs es) (hn : xs.length ≤ 190) (hs : ∀ e ∈ es, EnSm e ∧ e.p.length ≤ 900000) :
    Calls Tryz.prog 56 #[.slice A xs.length c, .string (strOf f), .string (strOf g)] w fun r w' => ∃ (A' : Option Addr) (c' : Nat) (ys : List EnT), r = .returned (.tuple #[.slice A' ys.length c', .int .i64 (moveT es f g).1]) ∧ RdK enTy w' A' ys.length ys ∧ EnsR w' ys (moveT es f g).2 ∧ Chg [] w w' := by
  obtain ⟨R, hR⟩ : ∃ R, moveT es f g = R := ⟨_, rfl⟩
  rw [hR]
  have HRR := Lib.hid hR
  have HA := Lib.hid h
  have HX := Lib.hid hx
  have HN := Lib.hid hn
  have HS := Lib.hid hs
  have HF := Lib.hid hf
  have HG := Lib.hid hg
  have CK := Lib.hid (tdcheck_any w A c xs es h hx (by omega) hs)
  have PC : Hid (∀ (w' : World) (p : List UInt8), p.length ≤ 10000000 → Calls Tryz.prog 44 #[.string (strOf p)] w' fun r w3 => r = .returned (.int .i64 (if checkL 6 12 p then 0 else 2)) ∧ Chg [] w' w3) := Lib.hid (fun w' p q => qcheck_any w' p q)
  clear h hx hn hs hR hf hg
  go_enter Tryz.func56, Tryz.ntmps56
  go_wp2_with fail
  refine CK.out.mono ?_
  rintro r w2 ⟨rfl, hc⟩
  have C := Lib.hid hc
  clear hc CK
  rcases tabE_two es with e1 | e1
  rotate_left
  · have ER : Hid (R = (2, [])) := Lib.hid (by rw [← HRR.out]; unfold moveT; rw [if_pos (fun q => by rw [tabE_zero.2 q.1] at e1; cases e1)])
    rw [e1]
    clear e1
    go_wp2
    go_ret2
    rw [ER.out]
    exact ⟨none, 0, [], rfl, RdK.nil _ _, EnsR.nil _, C.out⟩
  have OK : Hid (TabOk es) := Lib.hid (tabE_zero.1 e1)
  rw [e1]
  clear e1
  go_wp2_with fail
  refine (PC.out _ f (by have := HF.out; omega)).mono ?_
  rintro r w3 ⟨rfl, hc⟩
  replace C := Lib.hid (C.out.trans hc)
  clear hc
  by_cases hok : checkL 6 12 f = true
  rotate_left
  · have ER : Hid (R = (2, [])) := Lib.hid (by rw [← HRR.out]; unfold moveT; rw [if_pos (fun q => hok q.2.1)])
    rw [if_neg hok]
    clear hok
    go_wp2
    go_ret2
    rw [ER.out]
    exact ⟨none, 0, [], rfl, RdK.nil _ _, EnsR.nil _, C.out⟩
  have OF : Hid (okP f = true) := Lib.hid hok
  rw [if_pos hok]
  clear hok
  go_wp2_with fail
  refine (PC.out _ g (by have := HG.out; omega)).mono ?_
  rintro r w4 ⟨rfl, hc⟩
  replace C := Lib.hid (C.out.trans hc)
  clear hc
  by_cases hok : checkL 6 12 g = true
  rotate_left
  · have ER : Hid (R = (2, [])) := Lib.hid (by rw [← HRR.out]; unfold moveT; rw [if_pos (fun q => hok q.2.2)])
    rw [if_neg hok]
    clear hok
    go_wp2
    go_ret2
    rw [ER.out]
    exact ⟨none, 0, [], rfl, RdK.nil _ _, EnsR.nil _, C.out⟩
  have OG : Hid (okP g = true) := Lib.hid hok
  rw [if_pos hok]
  clear hok
  have N1 : Hid (¬ ¬ (TabOk es ∧ okP f = true ∧ okP g = true)) := Lib.hid (fun q => q ⟨OK.out, OF.out, OG.out⟩)
  have GT := Lib.hid (tdget_any w4 A c xs es f (HA.out.chg C.out (by simp)) (HX.out.chg C.out) (by have := HN.out; omega))
  go_wp2_with fail
  refine GT.out.mono ?_
  rintro r w5 ⟨A4, c4, rfl, hb, hc⟩
  replace C := Lib.hid (C.out.trans hc)
  have HB := Lib.hid hb
  clear hb hc GT
  rcases hgf : getT es f with _ | G
  · have ER : Hid (R = (6, [])) := Lib.hid (by rw [← HRR.out]; unfold moveT; rw [if_neg N1.out, if_pos hgf])
    obtain ⟨w6, hw, hc, b5⟩ := news1 w5 (.cells #[.int .i64 0, .int .i64 0, .slice A4 ([] : List UInt8).length c4] 25)
    have W6 := Lib.hid hw
    have C5 := Lib.hid (C.out.trans hc)
    clear hw hc b5 hgf HB
    simp only [Option.getD_none, Option.isSome_none, List.length_nil] at W6 ⊢
    go_upto_region 4 with fail
    rw [← W6.out]
    clear W6
    go_wp2
    go_ret2
    rw [ER.out]
    exact ⟨none, 0, [], rfl, RdK.nil _ _, EnsR.nil _, C5.out⟩
  have N2 : Hid (¬ getT es f = none) := Lib.hid (by rw [hgf]; simp)
  have GF := Lib.hid hgf
  rw [hgf] at HB
  obtain ⟨w6, hw, hc, b5⟩ := news1 w5 (.cells #[.int .i64 G.k, .int .i64 G.m, .slice A4 G.b.length c4] 25)
  have W6 := Lib.hid hw
  obtain ⟨g8, hg8⟩ : ∃ g, w5.heap.size = g := ⟨_, rfl⟩
  have G8 := Lib.hid hg8
  rw [hg8] at b5
  have BX : Hid (∀ w', Chg [] w6 w' → w'.cell? ⟨g8, 0, none⟩ = some (.int .i64 G.k) ∧ w'.cell? ⟨g8, 1, none⟩ = some (.int .i64 G.m) ∧ w'.cell? ⟨g8, 2, none⟩ = some (.slice A4 G.b.length c4)) := Lib.hid (fun w' hc => by
    have q := hc.at_ b5 (by simp)
    exact ⟨cell_of q 0, cell_of q 1, cell_of q 2⟩)
  have HBX : Hid (Bs w6 A4 G.b.length G.b) := Lib.hid (HB.out.chg hc (by simp))
  have C6 := Lib.hid (C.out.trans hc)
  have D0 := Lib.hid (Chg.refl [] w6)
  clear hw hc b5 hgf HB hg8
  simp only [Option.getD_some, Option.isSome_some]
  go_upto_region 4 with fail
  rw [← W6.out, G8.out]
  clear W6 C
  by_cases hp : g = f
  · have ER : Hid (R = (13, [])) := Lib.hid (by rw [← HRR.out]; unfold moveT; rw [if_neg N1.out, if_neg N2.out, if_pos (.inl hp)])
    have e4 : (g == f) = true := by rw [hp]; exact beq_self_eq_true _
    have e5 : ((strOf g == strOf f) : Bool) = true := by rw [hp]; exact str_self _
    have e6 : ((strOf g != strOf f) : Bool) = false := by simp only [bne, e5]; rfl
    have e7 : (g != f) = false := by simp only [bne, e4]; rfl
    clear hp
    go_wp2
    go_ret2
    rw [ER.out]
    exact ⟨none, 0, [], rfl, RdK.nil _ _, EnsR.nil _, C6.out⟩
  have NGF := Lib.hid hp
  have e1 := strOf_ne hp
  have e3 := strOf_ne2 hp
  have e4 : (g == f) = false := beq_eq_false_iff_ne.2 hp
  have e6 : ((strOf g != strOf f) : Bool) = true := by simp only [bne, e1]; rfl
  have e7 : (g != f) = true := by simp only [bne, e4]; rfl
  clear hp
  go_wp2_with fail
  clear e1 e3 e4 e6 e7
  refine (qhunder_any w6 f g (by have := HF.out; omega) (by have := HG.out; omega)).mono ?_
  rintro r w7 ⟨rfl, hc⟩
  have D := Lib.hid hc
  clear hc
  rcases hu : underL f g with _ | _
  rotate_left
  · have ER : Hid (R = (13, [])) := Lib.hid (by rw [← HRR.out]; unfold moveT; rw [if_neg N1.out, if_neg N2.out, if_pos (.inr hu)])
    clear hu
    go_wp2
    go_ret2
    rw [ER.out]
    exact ⟨none, 0, [], rfl, RdK.nil _ _, EnsR.nil _, C6.out.trans D.out⟩
  have N3 : Hid (¬ (g = f ∨ underL f g = true)) := Lib.hid (fun q => q.elim NGF.out (fun r => by rw [hu] at r; cases r))
  clear hu
  have GT := Lib.hid (tdget_any w7 A c xs es g (HA.out.chg (C6.out.trans D.out) (by simp)) (HX.out.chg (C6.out.trans D.out)) (by have := HN.out; omega))
  go_wp2_with fail
  refine GT.out.mono ?_
  rintro r w8 ⟨A5, c5, rfl, hb, hc⟩
  replace D := Lib.hid (D.out.trans hc)
  clear hb hc GT
  rcases hgg : getT es g with _ | G2
  rotate_left
  · have ER : Hid (R = (7, [])) := Lib.hid (by rw [← HRR.out]; unfold moveT; rw [if_neg N1.out, if_neg N2.out, if_neg N3.out, if_pos (by rw [hgg]; simp)])
    obtain ⟨w9, hw, hc, b5⟩ := news1 w8 (.cells #[.int .i64 G2.k, .int .i64 G2.m, .slice A5 G2.b.length c5] 25)
    have W9 := Lib.hid hw
    replace D := Lib.hid (D.out.trans hc)
    clear hw hc b5 hgg
    simp only [Option.getD_some, Option.isSome_some]
    go_upto_region 9 with fail
    rw [← W9.out]
    clear W9
    go_wp2
    go_ret2
    rw [ER.out]
    exact ⟨none, 0, [], rfl, RdK.nil _ _, EnsR.nil _, C6.out.trans D.out⟩
  have N4 : Hid (¬ getT es g ≠ none) := Lib.hid (fun q => q hgg)
  obtain ⟨w9, hw, hc, b5⟩ := news1 w8 (.cells #[.int .i64 0, .int .i64 0, .slice A5 ([] : List UInt8).length c5] 25)
  have W9 := Lib.hid hw
  replace D := Lib.hid (D.out.trans hc)
  clear hw hc b5 hgg
  simp only [Option.getD_none, Option.isSome_none, List.length_nil] at W9 ⊢
  go_upto_region 9 with fail
  rw [← W9.out]
  clear W9
  generalize w8.heap.size = g10 at *
  have PX := Lib.hid (tdparent_any w9 A c xs es g HG.out (HA.out.chg (C6.out.trans D.out) (by simp)) (HX.out.chg (C6.out.trans D.out)) (by have := HN.out; omega))
  go_wp2_with fail
  refine PX.out.mono ?_
  rintro r wa ⟨rfl, hc⟩
  replace D := Lib.hid (D.out.trans hc)
  clear hc PX
  by_cases hpp : parT es g = 0
  rotate_left
  · have ER : Hid (R = (parT es g, [])) := Lib.hid (by rw [← HRR.out]; unfold moveT; rw [if_neg N1.out, if_neg N2.out, if_neg N3.out, if_neg N4.out, if_pos hpp])
    generalize parT es g = pv at *
    have h1 : ((pv == 0) : Bool) = false := by simpa using hpp
    have h2 : ((pv != 0) : Bool) = true := by unfold bne; rw [h1]; rfl
    clear hpp
    go_wp2
    go_ret2
    rw [ER.out]
    exact ⟨none, 0, [], rfl, RdK.nil _ _, EnsR.nil _, C6.out.trans D.out⟩
  have N5 : Hid (¬ parT es g ≠ 0) := Lib.hid (fun q => q hpp)
  rw [hpp]
  clear hpp
  have UN := Lib.hid (tdunder_any wa A c xs es f HF.out (HA.out.chg (C6.out.trans D.out) (by simp)) (HX.out.chg (C6.out.trans D.out)) (by have := HN.out; omega) (fun e he => (HS.out e he).2))
  go_wp2_with fail
  refine UN.out.mono ?_
  rintro r wb ⟨Au, cu, us, rfl, hur, hue, hc⟩
  have UR := Lib.hid hur
  have UE := Lib.hid hue
  have DB := Lib.hid (D.out.trans hc)
  have UL : Hid (us.length ≤ 190) := Lib.hid (by rw [hue.1]; have := List.length_filter_le (fun e => underL f e.p) es; unfold underT; have := HX.out.1; have := HN.out; omega)
  have UIN : Hid (∀ e ∈ underT es f, e ∈ es) := Lib.hid (fun e he => (List.mem_filter.1 he).1)
  clear hur hue hc UN D
  obtain ⟨BASE, hBASE⟩ : ∃ B, layT (es.filter (fun e => !(decide (e.p = f) || underL f e.p))) ⟨g, G.k, G.m, G.b⟩ = B := ⟨_, rfl⟩
  have BS : Hid (BASE.Pairwise ltT) := Lib.hid (by rw [← hBASE]; exact lay_sorted (OK.out.2.1.sublist List.filter_sublist) _)
  have BIN : Hid (∀ e ∈ BASE, e = ⟨g, G.k, G.m, G.b⟩ ∨ e ∈ es) := Lib.hid (fun e he => by rw [← hBASE] at he; exact (lay_mem.1 he).imp id (fun q => (List.mem_filter.1 q.1).1))
  have BL : Hid (BASE.length ≤ 191) := Lib.hid (by
    rw [← hBASE]
    have := lay_len ⟨g, G.k, G.m, G.b⟩ (es.filter (fun e => !(decide (e.p = f) || underL f e.p)))
    have := List.length_filter_le (fun e => !(decide (e.p = f) || underL f e.p)) es
    have := HX.out.1
    have := HN.out
    omega)
  have DONE : Hid ((∀ e ∈ es, okP (mvP f g e.p) = true) → R = (0, ((underT es f).map (mvE f g)).foldl layT BASE)) := Lib.hid (fun q => by
    rw [← HRR.out, ← hBASE, doc_move OK.out GF.out (mv_apart OK.out N2.out (Decidable.not_not.1 N4.out) OG.out N3.out q)]
    unfold moveT
    rw [if_neg N1.out, if_neg N2.out, if_neg N3.out, if_neg N4.out, if_neg N5.out, if_neg (fun r => by
        obtain ⟨d, hd, e⟩ := List.any_eq_true.1 r
        rw [q d hd] at e
        cases e)])
  have WO := Lib.hid (fun (wx : World) (hx : Chg [] wb wx) => tdwithout_any wx A c xs es f HF.out (HA.out.chg (C6.out.trans (DB.out.trans hx)) (by simp)) (HX.out.chg (C6.out.trans (DB.out.trans hx))) (by have := HN.out; omega) (fun e he => (HS.out e he).2))
  have BXB : Hid (∀ w', Chg [] wb w' → w'.cell? ⟨g8, 0, none⟩ = some (.int .i64 G.k) ∧ w'.cell? ⟨g8, 1, none⟩ = some (.int .i64 G.m) ∧ w'.cell? ⟨g8, 2, none⟩ = some (.slice A4 G.b.length c4)) := Lib.hid (fun w' hc => BX.out w' (DB.out.trans hc))
  go_upto_region 15 with fail
  refine wp_region_held_drew (S := fun w' => Chg [] wb w') (by kernel_rfl) (Chg.refl [] wb).drew (fun hHeld => ?_)
  refine sy 0 62 rfl rfl ?_
  try simp only [Act.put, sA, s0, s1]
  refine sy 1 63 rfl rfl ?_
  try simp only [Act.put, sA, s0, s1]
  refine sy 3 65 rfl rfl ?_
  try simp only [Act.put, sA, s0, s1]
  refine sy 4 66 rfl rfl ?_ (hy := by (intro w hSw; (try dsimp only at hSw); have hq := BXB.out _ hSw; obtain ⟨q0, q1, q2⟩ := hq; go_simp; try with_reducible rfl))
  try simp only [Act.put, sA, s0, s1]
  refine sy 5 67 rfl rfl ?_
  try simp only [Act.put, sA, s0, s1]
  refine wpAnyH_ready (rs := [2]) (by kernel_rfl) (by simp) ?_
  refine AllReadyH.cons rfl (fun K hK => ?_) AllReadyH.nil
  replace hK := Lib.hid hK
  go_simp
  refine (WO.out _ hHeld).mono ?_
  rintro r wc ⟨Aw, cw, ws, rfl, hwr, hwe, hc⟩
  have WR := Lib.hid hwr
  have WE := Lib.hid hwe
  have DC := Lib.hid (hHeld.trans hc)
  have WL : Hid (ws.length ≤ 190) := Lib.hid (by rw [hwe.1]; have := List.length_filter_le (fun e => !(decide (e.p = f) || underL f e.p)) es; have := HX.out.1; have := HN.out; omega)
  clear hwr hwe hc hHeld WO
  refine hK.out _ _ DC.out (fun hHeld => ?_)
  clear hK K
  try simp only [Act.put, sA, s0, s1]
  refine wpAnyH_ready (rs := [6]) (by kernel_rfl) (by simp) ?_
  refine AllReadyH.cons rfl (fun K hK => ?_) AllReadyH.nil
  replace hK := Lib.hid hK
  go_simp
  refine (tdlay_any wc Aw cw ws _ ⟨strOf g, G.k, G.m, A4, G.b.length, c4⟩ ⟨g, G.k, G.m, G.b⟩ WR.out WE.out ⟨rfl, rfl, rfl, rfl, HBX.out.chg (DB.out.trans DC.out) (by simp)⟩ (by have := WL.out; omega) (fun e he => (HS.out e (List.mem_filter.1 he).1).2) HG.out (OK.out.2.1.sublist List.filter_sublist)).mono ?_
  rintro r wd ⟨Ad, cd, zs, rfl, hzr, hze, hc⟩
  rw [hBASE] at hze
  have ZR := Lib.hid hzr
  have ZE := Lib.hid hze
  have DD := Lib.hid (DC.out.trans hc)
  clear hzr hze hc WR WE WL DC
  refine hK.out _ _ DD.out (fun hHeld => ?_)
  clear hK K
  try simp only [Act.put, sA, s0, s1]
  refine sy 7 14 rfl rfl ?_
  try simp only [Act.put, sA, s0, s1]
  refine wpAnyH_done (by kernel_rfl) ?_ _
  clear hHeld BXB BX hBASE
  have CD := Lib.hid (C6.out.trans (DB.out.trans DD.out))
  have URD := Lib.hid (UR.out.chg DD.out (by simp))
  have UED := Lib.hid (UE.out.chg DD.out)
  clear UR UE DD DB
  go_wp2
  go_loopw [14, 15] (fun v14 v15 wr => ∃ (k : Nat) (Az : Option Addr) (cz : Nat) (zs : List EnT), k ≤ us.length ∧ v15 = .int .i64 (k : Int) ∧ v14 = .slice Az zs.length cz ∧ Hid (∀ e ∈ (underT es f).take k, okP (mvP f g e.p) = true) ∧ Hid (RdK enTy wr Az zs.length zs) ∧ Hid (EnsR wr zs ((((underT es f).take k).map (mvE f g)).foldl layT BASE)) ∧ Hid (Chg [] wd wr)) (fun _ v15 _ => us.length - (RowKit.intOf v15).toNat)
  case atStart => exact ⟨0, Ad, cd, zs, Nat.zero_le _, rfl, rfl, Lib.hid (by simp), ZR, Lib.hid (by simpa using ZE.out), Chg.refl _ _⟩
  case round =>
    obtain ⟨k, Az, cz, zs, hk, rfl, rfl, OKS, RR, RE, RC⟩ := hrel
    have i0 : (0 : Int) ≤ (k : Int) := by omega
    have CIN : Hid (∀ e ∈ (((underT es f).take k).map (mvE f g)).foldl layT BASE, e.p.length ≤ 900000 ∧ e.b.length ≤ 1000) := Lib.hid (fun e he => by
      rcases lays_in _ he with q | q
      · obtain ⟨d, hd, rfl⟩ := List.mem_map.1 q
        have := ok_short (OKS.out d hd)
        exact ⟨by show (mvP f g d.p).length ≤ _; omega, chkE_len (OK.out.1 d (UIN.out d (List.mem_of_mem_take hd))).2.1⟩
      · rcases BIN.out e q with rfl | r
        · exact ⟨HG.out, chkE_len (OK.out.1 G (get_some GF.out).1).2.1⟩
        · exact ⟨(HS.out e r).2, chkE_len (OK.out.1 e r).2.1⟩)
    have CLN : Hid (zs.length ≤ 500) := Lib.hid (by
      rw [RE.out.1]
      have a := lays_len (((underT es f).take k).map (mvE f g)) BASE
      have := BL.out
      have := UL.out
      rw [List.length_map, List.length_take] at a
      omega)
    by_cases hlt : k < us.length
    · have i1 : (k : Int) < (us.length : Int) := by omega
      have i3 : IntKind.i64.wrap ((k : Int) + 1) = (k : Int) + 1 := IntWalk.i64_in _ (by have := UL.out; omega)
      obtain ⟨g9, o9, eA, _⟩ := URD.out.line (by omega)
      subst eA
      obtain ⟨x, e, ex, ee, rx⟩ := UED.out.at_ hlt
      obtain ⟨z0, z1, z2, z3⟩ := enCells (URD.out.chg RC.out (by simp)) ex
      have RX := Lib.hid (rx.chg RC.out)
      have EX := Lib.hid ex
      have EE := Lib.hid ee
      have EIN := Lib.hid (UIN.out e (List.mem_of_getElem? ee))
      have SM := Lib.hid (HS.out e (UIN.out e (List.mem_of_getElem? ee))).2
      have AT : Hid (AtU f e.p) := Lib.hid (.inr (List.mem_filter.1 (List.mem_of_getElem? ee)).2)
      have NXT : Hid ((((underT es f).take (k + 1)).map (mvE f g)).foldl layT BASE = layT ((((underT es f).take k).map (mvE f g)).foldl layT BASE) (mvE f g e)) := Lib.hid (by rw [List.take_add_one, ee, List.map_append, List.foldl_append]; rfl)
      have OKN : Hid (okP (mvP f g e.p) = true → ∀ e ∈ (underT es f).take (k + 1), okP (mvP f g e.p) = true) := Lib.hid (fun q d hd => by
        rw [List.take_add_one, EE.out] at hd
        rcases List.mem_append.1 hd with r | r
        · exact OKS.out d r
        · simp at r; rw [r]; exact q)
      have KL := Lib.hid hlt
      rw [RX.out.p] at z0
      clear ex ee rx
      have MP : Hid (mvP f g e.p = g ++ e.p.drop f.length) := Lib.hid (mvP_yes AT.out)
      have FL : Hid (f.length ≤ e.p.length) := Lib.hid (by
        rcases AT.out with q | q
        · rw [q]; exact Nat.le_refl _
        · obtain ⟨_, _, d, hd⟩ := under_split q; rw [hd]; simp)
      have u1 : (f.length : Int) ≤ (e.p.length : Int) := by have := FL.out; omega
      have u2 : (0 : Int) ≤ (f.length : Int) := by omega
      have sz9 : ¬ 9223372036854775807 < (strOf g).size + ((strOf e.p).extract (strOf f).size (strOf e.p).size).size := by
        have := HG.out
        have := SM.out
        rw [strOf_ext, strOf_size, strOf_size, List.length_take, List.length_drop]
        omega
      have sz8 : ¬ 9223372036854775807 < g.length + ((strOf e.p).extract (strOf f).size (strOf e.p).size).size := by rw [strOf_size] at sz9; exact sz9
      go_upto_region 20 with fail
      rw [str_move, ← MP.out]
      clear z0 z1 z2 z3 MP FL u1 u2 sz8 sz9
      go_wp2_with fail
      refine (PC.out wr (mvP f g e.p) (by
        rw [mvP_yes AT.out, List.length_append, List.length_drop]
        have := HG.out
        have := SM.out
        omega)).mono ?_
      rintro r wm ⟨rfl, hc⟩
      replace RR := Lib.hid (RR.out.chg hc (by simp))
      replace RE := Lib.hid (RE.out.chg hc)
      replace RC := Lib.hid (RC.out.trans hc)
      replace RX := Lib.hid (RX.out.chg hc)
      clear hc
      by_cases hok : checkL 6 12 (mvP f g e.p) = true
      rotate_left
      · have ER : Hid (R = (2, [])) := Lib.hid (by rw [← HRR.out]; unfold moveT; rw [if_neg N1.out, if_neg N2.out, if_neg N3.out, if_neg N4.out, if_neg N5.out, if_pos (List.any_eq_true.2 ⟨e, EIN.out, by have q : okP (mvP f g e.p) = false := by { unfold okP; simpa using hok }; rw [q]; rfl⟩)])
        rw [if_neg hok]
        clear hok
        go_wp2
        go_ret2
        rw [ER.out]
        exact ⟨none, 0, [], rfl, RdK.nil _ _, EnsR.nil _, CD.out.trans RC.out⟩
      have OKP := Lib.hid (show okP (mvP f g e.p) = true from hok)
      rw [if_pos hok]
      clear hok
      obtain ⟨z0, z1, z2, z3⟩ := enCells (URD.out.chg RC.out (by simp)) EX.out
      have LY := Lib.hid (tdlay_any wm Az cz zs _ ⟨strOf (mvP f g e.p), x.k, x.m, x.A, x.l, x.c⟩ (mvE f g e) RR.out RE.out ⟨rfl, RX.out.k, RX.out.m, RX.out.l, RX.out.A⟩ (by have := CLN.out; omega) (fun e he => (CIN.out e he).1) (by have := ok_short OKP.out; show (mvP f g e.p).length ≤ _; omega) (lays_sorted _ BS.out))
      rw [← NXT.out] at LY
      go_wp2_with fail
      clear z0 z1 z2 z3
      refine LY.out.mono ?_
      rintro r wn ⟨Ay, cy, ys, rfl, hyr, hye, hc⟩
      have YR := Lib.hid hyr
      have YE := Lib.hid hye
      replace RC := Lib.hid (RC.out.trans hc)
      have OK2 := Lib.hid (OKN.out OKP.out)
      clear hyr hye hc LY RR RE CIN CLN
      go_wp2
      go_round
      case rel => exact ⟨k + 1, Ay, cy, ys, by omega, by go_num, rfl, OK2, YR, YE, RC⟩
      case measure => simp [RowKit.intOf]; omega
    · obtain rfl : k = us.length := by omega
      have i1 : ¬ (us.length : Int) < (us.length : Int) := by omega
      have ET : (underT es f).take us.length = underT es f := by rw [UED.out.1, List.take_length]
      rw [ET] at OKS RE CIN
      have ER : Hid (R = (0, ((underT es f).map (mvE f g)).foldl layT BASE)) := Lib.hid (DONE.out (fun e he => by
        by_cases q : underL f e.p = true
        · exact OKS.out e (List.mem_filter.2 ⟨he, q⟩)
        · by_cases s : e.p = f
          · rw [mvP_yes (.inl s), s, List.drop_length, List.append_nil]; exact OG.out
          · rw [mvP_no (fun r => r.elim s q)]; exact (OK.out.1 e he).1))
      have OW := Lib.hid (tdown_any wr Az cz zs _ RR.out RE.out (by have := CLN.out; omega) (fun e he => by have := (CIN.out e he).2; omega))
      clear ET
      go_wp2_with fail
      refine OW.out.mono ?_
      rintro r wo ⟨Ao, co, os, rfl, hor, hoe, hc⟩
      have OR := Lib.hid hor
      have OE := Lib.hid hoe
      replace RC := Lib.hid (RC.out.trans hc)
      clear hor hoe hc OW
      go_wp2
      go_ret2
      rw [ER.out]
      exact ⟨Ao, co, os, rfl, OR.out, OE.out, CD.out.trans RC.out⟩
end
section
open Go.RowKit Go.Lib
set_option linter.unusedSimpArgs false
set_option linter.unusedVariables false

set_option maxRecDepth 100000 in
set_option maxHeartbeats 8000000 in
theorem l5wants_any (w : World) (A : Option Addr) (c : Nat) (xs : List EnT) (es : List EnP) (x : AcT) (a : AcP) (h : RdK enTy w A xs.length xs) (hx : EnsR w xs es) (hn : xs.length ≤ 190) (hs : ∀ e ∈ es, EnSm e ∧ e.p.length ≤ 900000) (hy : AcR w x a) (ht : AcSm a) :
    Calls Tryz.prog 22 #[.slice A xs.length c, .agg #[.int .i64 x.kd, .string x.p, .string x.t, .int .i64 x.k, .int .i64 x.m, .slice x.A x.l x.c]] w fun r w' => ∃ (A' : Option Addr) (c' : Nat) (ys : List EnT), r = .returned (.tuple #[.slice A' ys.length c', .int .i64 (doesT es a).1]) ∧ RdK enTy w' A' ys.length ys ∧ EnsR w' ys (doesT es a).2 ∧ Chg [] w w' := by
  obtain ⟨R, hR⟩ : ∃ R, doesT es a = R := ⟨_, rfl⟩
  rw [hR]
  have HRR := Lib.hid hR
  obtain ⟨w1, hw, hc, b0⟩ := news1 w (.cells #[.int .i64 x.kd, .string (strOf a.p), .string (strOf a.t), .int .i64 x.k, .int .i64 x.m, .slice x.A x.l x.c] 27)
  have W1 := Lib.hid hw
  have z0 := cell_of b0 0
  have z1 := cell_of b0 1
  have z2 := cell_of b0 2
  have z3 := cell_of b0 3
  have z4 := cell_of b0 4
  have z5 := cell_of b0 5
  simp only [List.getElem?_toArray, List.getElem?_cons_succ, List.getElem?_cons_zero] at z0 z1 z2 z3 z4 z5
  have C0 := Lib.hid hc
  have HA := Lib.hid (h.chg hc (by simp))
  have HX := Lib.hid (hx.chg hc)
  have HY := Lib.hid (hy.chg hc)
  have HN := Lib.hid hn
  have HS := Lib.hid hs
  have HT := Lib.hid ht
  rw [hy.p, hy.t]
  have KD : Hid (x.kd = a.kd) := Lib.hid hy.kd
  clear hw hc b0 h hx hn hs hy ht hR
  go_enter Tryz.func22, Tryz.ntmps22
  go_upto_region 1 with fail
  rw [← W1.out]
  generalize w.heap.size = g0 at z0 z1 z2 z3 z4 z5 ⊢
  clear W1
  by_cases k0 : x.kd = 0
  · have ER : Hid (R = putT es ⟨a.p, a.k, a.m, a.b⟩) := Lib.hid (by rw [← HRR.out]; unfold doesT; rw [if_pos (by rw [← KD.out]; exact k0)])
    have t0 : ((x.kd == 0) : Bool) = true := by simpa using k0
    have PU := Lib.hid (tdput_any w1 A c xs es ⟨strOf a.p, x.k, x.m, x.A, x.l, x.c⟩ ⟨a.p, a.k, a.m, a.b⟩ HA.out HX.out HN.out HS.out ⟨rfl, HY.out.k, HY.out.m, HY.out.l, HY.out.A⟩ ⟨⟨by have := HT.out.1; show a.p.length ≤ _; omega, by have := HT.out.2.2; show a.b.length ≤ _; omega⟩, HT.out.1⟩)
    go_wp2_with fail
    clear z0 z1 z2 z3 z4 z5
    refine PU.out.mono ?_
    rintro r w2 ⟨A2, c2, ys, rfl, hr, he, hc⟩
    have R2 := Lib.hid hr
    have E2 := Lib.hid he
    have C2 := Lib.hid (C0.out.trans hc)
    clear hr he hc PU
    go_wp2
    go_ret2
    rw [ER.out]
    exact ⟨A2, c2, ys, rfl, R2.out, E2.out, C2.out⟩
  have t0 : ((x.kd == 0) : Bool) = false := by simpa using k0
  by_cases k1 : x.kd = 1
  · have ER : Hid (R = removeT es a.p) := Lib.hid (by rw [← HRR.out]; unfold doesT; rw [if_neg (by rw [← KD.out]; exact k0), if_pos (by rw [← KD.out]; exact k1)])
    have t1 : ((x.kd == 1) : Bool) = true := by simpa using k1
    have PU := Lib.hid (tdremove_any w1 A c xs es a.p HT.out.1 HA.out HX.out HN.out HS.out)
    go_wp2_with fail
    clear z0 z1 z2 z3 z4 z5
    refine PU.out.mono ?_
    rintro r w2 ⟨A2, c2, ys, rfl, hr, he, hc⟩
    have R2 := Lib.hid hr
    have E2 := Lib.hid he
    have C2 := Lib.hid (C0.out.trans hc)
    clear hr he hc PU
    go_wp2
    go_ret2
    rw [ER.out]
    exact ⟨A2, c2, ys, rfl, R2.out, E2.out, C2.out⟩
  have t1 : ((x.kd == 1) : Bool) = false := by simpa using k1
  by_cases k2 : x.kd = 2
  · have ER : Hid (R = moveT es a.p a.t) := Lib.hid (by rw [← HRR.out]; unfold doesT; rw [if_neg (by rw [← KD.out]; exact k0), if_neg (by rw [← KD.out]; exact k1), if_pos (by rw [← KD.out]; exact k2)])
    have t2 : ((x.kd == 2) : Bool) = true := by simpa using k2
    have PU := Lib.hid (tdmove_any w1 A c xs es a.p a.t HT.out.1 HT.out.2.1 HA.out HX.out HN.out HS.out)
    go_wp2_with fail
    clear z0 z1 z2 z3 z4 z5
    refine PU.out.mono ?_
    rintro r w2 ⟨A2, c2, ys, rfl, hr, he, hc⟩
    have R2 := Lib.hid hr
    have E2 := Lib.hid he
    have C2 := Lib.hid (C0.out.trans hc)
    clear hr he hc PU
    go_wp2
    go_ret2
    rw [ER.out]
    exact ⟨A2, c2, ys, rfl, R2.out, E2.out, C2.out⟩
  have t2 : ((x.kd == 2) : Bool) = false := by simpa using k2
  have ER : Hid (R = (0, es)) := Lib.hid (by rw [← HRR.out]; unfold doesT; rw [if_neg (by rw [← KD.out]; exact k0), if_neg (by rw [← KD.out]; exact k1), if_neg (by rw [← KD.out]; exact k2)])
  have NK : Hid (¬ (0 ≤ a.kd ∧ a.kd ≤ 2)) := Lib.hid (by rw [← KD.out]; omega)
  go_wp2
  go_ret2
  rw [ER.out]
  exact ⟨A, c, xs, rfl, HA.out, HX.out, C0.out⟩
end
section
open Go.RowKit Go.Lib
set_option linter.unusedSimpArgs false
set_option linter.unusedVariables false

/-- More of an entry than is gone through. -/
def bigA (x : AcT) : Prop := 100 < x.p.size ∨ 100 < x.t.size ∨ 1200 < x.l
instance (x : AcT) : Decidable (bigA x) := by unfold bigA; exact inferInstance
def longA (xs : List AcT) : Bool := (xs.take 61).any (fun x => decide (bigA x)) || decide (60 < xs.length)
theorem longA_no {xs : List AcT} (h : longA xs = false) : xs.length ≤ 60 ∧ ∀ x ∈ xs, ¬ bigA x := by
  unfold longA at h
  rw [Bool.or_eq_false_iff, decide_eq_false_iff_not, List.any_eq_false] at h
  refine ⟨by omega, fun x hx => ?_⟩
  have := h.1 x (by rw [List.take_of_length_le (by omega)]; exact hx)
  simpa using this
theorem longA_yes {xs : List AcT} {k : Nat} {x : AcT} (hx : xs[k]? = some x) (hk : k ≤ 60) (hb : bigA x) : longA xs = true := by
  unfold longA
  rw [Bool.or_eq_true, List.any_eq_true]
  refine .inl ⟨x, ?_, decide_eq_true hb⟩
  have hl := (List.getElem?_eq_some_iff.1 hx).1
  exact List.mem_of_getElem? (i := k) (by rw [List.getElem?_take, if_pos (by omega)]; exact hx)
set_option maxRecDepth 100000 in
set_option maxHeartbeats 8000000 in
theorem l5long_any (w : World) (A : Option Addr) (c : Nat) (xs : List AcT) (h : RdK acTy w A xs.length xs) (hn : xs.length ≤ 140737488351232) (hs : ∀ x ∈ xs, x.l ≤ 140737488351232) :
    Calls Tryz.prog 9 #[.slice A xs.length c] w fun r w' => r = .returned (.bool (longA xs)) ∧ Chg [] w w' := by
  have H := Lib.hid h
  have HN := Lib.hid hn
  have HS := Lib.hid hs
  clear h hn hs
  generalize hv : longA xs = v
  have HV := Lib.hid hv
  clear hv
  go_enter Tryz.func9, Tryz.ntmps9
  go_wp2
  go_loopw [3] (fun v3 wr => ∃ k : Nat, k ≤ xs.length ∧ k ≤ 61 ∧ v3 = .int .i64 k ∧ Hid (∀ x ∈ xs.take k, ¬ bigA x) ∧ Hid (Chg [] w wr)) (fun v3 _ => xs.length - (RowKit.intOf v3).toNat)
  case atStart => exact ⟨0, Nat.zero_le _, Nat.zero_le _, rfl, Lib.hid (by simp), Chg.refl _ _⟩
  case round =>
    obtain ⟨k, hk, hk2, rfl, NB, RC⟩ := hrel
    have i0 : (0 : Int) ≤ (k : Int) := by omega
    by_cases hlt : k < xs.length
    · have i1 : (k : Int) < (xs.length : Int) := by omega
      by_cases hle : k ≤ 60
      · have i2 : (k : Int) < 61 := by omega
        have i3 : IntKind.i64.wrap ((k : Int) + 1) = (k : Int) + 1 := IntWalk.i64_in _ (by have := HN.out; omega)
        obtain ⟨x, hx⟩ : ∃ x, xs[k]? = some x := ⟨_, List.getElem?_eq_getElem hlt⟩
        obtain ⟨g, o, eA, _⟩ := H.out.line (by omega)
        subst eA
        obtain ⟨z0, z1, z2, z3, z4, z5⟩ := acCells (H.out.chg RC.out (by simp)) hx
        have LY : Hid (bigA x → v = true) := Lib.hid (fun q => by rw [← HV.out]; exact longA_yes hx hle q)
        have NX : Hid (¬ bigA x → ∀ y ∈ xs.take (k + 1), ¬ bigA y) := Lib.hid (fun q y hy => by
          rw [List.take_add_one, hx] at hy
          rcases List.mem_append.1 hy with r | r
          · exact NB.out y r
          · simp at r; subst r; exact q)
        have XS := Lib.hid (HS.out x (List.mem_of_getElem? hx))
        clear hx
        by_cases b1 : 100 < x.p.size
        · have j1 : (100 : Int) < (x.p.size : Int) := by omega
          obtain rfl := LY.out (.inl b1)
          clear LY NX b1
          go_wp2
          go_ret
          exact ⟨rfl, RC.out⟩
        have j1 : ¬ (100 : Int) < (x.p.size : Int) := by omega
        by_cases b0 : 100 < x.t.size
        · have j2 : (100 : Int) < (x.t.size : Int) := by omega
          obtain rfl := LY.out (.inr (.inl b0))
          clear LY NX b1 b0
          go_wp2
          go_ret
          exact ⟨rfl, RC.out⟩
        have j2 : ¬ (100 : Int) < (x.t.size : Int) := by omega
        go_wp2_with fail
        refine (longeff_any wr x.k x.m x.A x.l x.c XS.out).mono ?_
        rintro r w2 ⟨rfl, hc⟩
        have C2 := Lib.hid (RC.out.trans hc)
        clear hc z0 z1 z2 z3 z4 z5 j1 j2
        by_cases b2 : 1200 < x.l
        · rw [decide_eq_true (show (1200 : Int) < (x.l : Int) by omega)]
          obtain rfl := LY.out (.inr (.inr b2))
          clear LY NX b1 b0 b2
          go_wp2
          go_ret
          exact ⟨rfl, C2.out⟩
        rw [decide_eq_false (show ¬ (1200 : Int) < (x.l : Int) by omega)]
        have NN := Lib.hid (NX.out (fun q => by unfold bigA at q; omega))
        clear LY NX b1 b0 b2
        go_wp2
        go_round
        case rel => exact ⟨k + 1, by omega, by omega, by go_num, NN, C2.out⟩
        case measure => simp [RowKit.intOf]; omega
      · have i2 : ¬ (k : Int) < 61 := by omega
        have i4 : (60 : Int) < (xs.length : Int) := by omega
        obtain rfl : v = true := by rw [← HV.out]; unfold longA; rw [decide_eq_true (show 60 < xs.length by omega)]; simp
        clear HV
        go_wp2
        go_ret
        exact ⟨rfl, RC.out⟩
    · obtain rfl : k = xs.length := by omega
      have i1 : ¬ (xs.length : Int) < (xs.length : Int) := by omega
      by_cases hle : 60 < xs.length
      · have i4 : (60 : Int) < (xs.length : Int) := by omega
        obtain rfl : v = true := by rw [← HV.out]; unfold longA; rw [decide_eq_true hle]; simp
        clear HV
        go_wp2
        go_ret
        exact ⟨rfl, RC.out⟩
      · have i4 : ¬ (60 : Int) < (xs.length : Int) := by omega
        obtain rfl : v = false := by
          rw [← HV.out]
          unfold longA
          rw [decide_eq_false hle, Bool.or_false, List.any_eq_false]
          intro x hx
          have q := NB.out x (by rw [List.take_length]; exact List.mem_of_mem_take hx)
          simpa using q
        clear HV
        go_wp2
        go_ret
        exact ⟨rfl, RC.out⟩
end
section
open Go.RowKit Go.Lib
set_option linter.unusedSimpArgs false
set_option linter.unusedVariables false

/-- Those behind the k-th are in memory of their own yet. -/
def RestN (w : World) (k : Nat) (ys : List EnT) (es : List EnP) : Prop := ∀ (i : Nat) (y : EnT) (e : EnP), k ≤ i → ys[i]? = some y → es[i]? = some e → OwnB w y.A y.c e.b
theorem RestN.chg {S : List Nat} {w w' : World} {k : Nat} {ys : List EnT} {es : List EnP} (h : RestN w k ys es) (hc : Chg S w w') (hS : ∀ (i : Nat) (y : EnT), k ≤ i → ys[i]? = some y → ∀ a, y.A = some a → a.block ∉ S) : RestN w' k ys es := fun i y e hi hy he =>
  (h i y e hi hy he).chg hc (fun a ha => hS i y hi hy a ha)
theorem RestN.next {w : World} {k k' : Nat} {ys : List EnT} {es : List EnP} (h : RestN w k ys es) (hk : k ≤ k') : RestN w k' ys es := fun i y e hi => h i y e (by omega)
set_option maxRecDepth 100000 in
set_option maxHeartbeats 8000000 in
theorem overens_own (w : World) (lo hi : Nat) (A : Option Addr) (c : Nat) (ys : List EnT) (es : List EnP) (h : NsF w lo hi A c ys es) (hn : ys.length ≤ 100000) :
    Calls Tryz.prog 23 #[.slice A ys.length c] w fun r w' => r = .returned (.tuple #[]) ∧ Within lo hi w w' := by
  have HL : Hid (∀ (i : Nat) (y : EnT) (e : EnP), ys[i]? = some y → es[i]? = some e → y.l = e.b.length) := Lib.hid (fun i y e hy he => (h.all.ev.2 i y e hy he).l)
  have HE : Hid (ys.length = es.length) := Lib.hid h.all.ev.1
  have R0 : Hid (OwnK enTy w A c ys) := Lib.hid h.row
  have RA := Lib.hid h.rowAt
  have RS0 : Hid (RestN w 0 ys es) := Lib.hid (fun i y e _ hy he => h.all.own i y e hy he)
  have AT := Lib.hid h.all.at_
  have APT := Lib.hid h.all.apart
  have HN := Lib.hid hn
  clear h hn
  go_enter Tryz.func23, Tryz.ntmps23
  go_wp2
  go_loopw [2] (fun v2 wr => ∃ (k : Nat) (zs : List EnT), k ≤ ys.length ∧ v2 = .int .i64 k ∧ Hid (zs.length = ys.length ∧ zs.drop k = ys.drop k) ∧ Hid (OwnK enTy wr A c zs) ∧ Hid (RestN wr k ys es) ∧ Hid (Within lo hi w wr)) (fun v2 _ => ys.length - (RowKit.intOf v2).toNat)
  case atStart => exact ⟨0, ys, Nat.zero_le _, rfl, Lib.hid ⟨rfl, rfl⟩, R0, RS0, Lib.hid (Within.refl _ _ _)⟩
  case round =>
    obtain ⟨k, zs, hk, rfl, ZL, RO, RS, RW⟩ := hrel
    have i0 : (0 : Int) ≤ (k : Int) := by omega
    by_cases hlt : k < ys.length
    · have i1 : (k : Int) < (ys.length : Int) := by omega
      have i3 : IntKind.i64.wrap ((k : Int) + 1) = (k : Int) + 1 := IntWalk.i64_in _ (by have := HN.out; omega)
      obtain ⟨y, hy⟩ : ∃ y, ys[k]? = some y := ⟨_, List.getElem?_eq_getElem hlt⟩
      obtain ⟨e, he⟩ : ∃ e, es[k]? = some e := ⟨_, List.getElem?_eq_getElem (by rw [← HE.out]; exact hlt)⟩
      have hz : zs[k]? = some y := by rw [getElem?_of_drop ZL.out.2 (Nat.le_refl _)]; exact hy
      obtain ⟨q, eq, hg⟩ : ∃ g, A = some ⟨g, 0, none⟩ ∧ g < wr.heap.size := by
        rcases RO.out.shape with ⟨_, q, _⟩ | q
        · rw [q] at hz; simp at hz
        · exact q
      subst eq
      have OA := Lib.hid (RS.out k y e (Nat.le_refl _) hy he)
      have my := List.mem_of_getElem? hy
      have YA : Hid (∀ a, y.A = some a → lo ≤ a.block ∧ a.block < hi ∧ a.block ≠ q) := Lib.hid (fun a ha => ⟨(AT.out y my a ha).1, (AT.out y my a ha).2.1, (AT.out y my a ha).2.2 _ rfl⟩)
      have YO : Hid (∀ (i : Nat) (x : EnT), k + 1 ≤ i → ys[i]? = some x → ∀ a b, y.A = some a → x.A = some b → a.block ≠ b.block) := Lib.hid (fun i x hi hx a b p r => by
        obtain ⟨l1, e1⟩ := List.getElem?_eq_some_iff.1 hy
        obtain ⟨l2, e2⟩ := List.getElem?_eq_some_iff.1 hx
        have := List.pairwise_iff_getElem.1 APT.out k i l1 l2 (by omega)
        rw [e1, e2] at this
        exact this a b p r)
      have YX : Hid (∀ (i : Nat) (x : EnT), k + 1 ≤ i → ys[i]? = some x → ∀ a, x.A = some a → a.block ≠ q) := Lib.hid (fun i x hi hx a ha => (AT.out x (List.mem_of_getElem? hx) a ha).2.2 _ rfl)
      have YL := Lib.hid (HL.out k y e hy he)
      have QA := Lib.hid (RA.out _ rfl)
      replace RS := Lib.hid (RS.out.next (Nat.le_succ k))
      have HZ := Lib.hid hz
      obtain ⟨z0, z1, z2, z3⟩ := enCells RO.out.reads hz
      rw [Nat.zero_add] at z0 z1 z2 z3
      clear my hz hy he
      go_wp2_with fail
      clear z0 z1 z2 z3
      refine (over_own _ y.A y.c y.l e.b OA.out YL.out).mono ?_
      rintro r w2 ⟨rfl, h2⟩
      obtain ⟨S2, hS2, h2⟩ := over_only h2
      have B2 := Lib.hid (RO.out.chg h2 (fun a ha p => by cases ha; obtain ⟨b, hb, e⟩ := hS2 _ p; exact (YA.out b hb).2.2 e))
      have RS2 := Lib.hid (RS.out.chg h2 (fun i x hi hx b hb p => by obtain ⟨a, ha, e⟩ := hS2 _ p; exact YO.out i x hi hx a b ha hb e))
      have W2 := Lib.hid (RW.out.more (fun i hi => by obtain ⟨a, ha, e⟩ := hS2 _ hi; have := YA.out a ha; omega) h2)
      clear h2 hS2 OA RS RW RO
      obtain ⟨z0, z1, z2, z3⟩ := enCells B2.out.reads HZ.out
      rw [Nat.zero_add] at z0 z1 z2 z3
      have F2 : ∀ j, w2.frozen? ⟨q, j, none⟩ = false := fun j => by
        rcases B2.out with ⟨h, _⟩ | ⟨g', full, e, hg, _⟩
        · cases h
        · cases e; exact free_of hg j
      have f0 := F2 (k * 4)
      have f1 := F2 (k * 4 + 1)
      have f2 := F2 (k * 4 + 2)
      have f3 := F2 (k * 4 + 3)
      clear F2
      have B4 := Lib.hid (B2.out.setn4 k _ ⟨⟨#[111, 118, 101, 114]⟩, -7, 0, none, 0, 0⟩ HZ.out)
      have C4 := Lib.hid ((Chg.refl [q] w2).setn4 (g := q) (.inl (by simp)) (k * 4) (.string ⟨#[111, 118, 101, 114]⟩) (.int .i64 (-7)) (.int .i64 0) (.slice none 0 0))
      go_wp2
      clear z0 z1 z2 z3 f0 f1 f2 f3
      generalize ((((w2.setCell ⟨q, k * 4, none⟩ (.string ⟨#[111, 118, 101, 114]⟩)).setCell ⟨q, k * 4 + 1, none⟩ (.int .i64 (-7))).setCell ⟨q, k * 4 + 2, none⟩ (.int .i64 0)).setCell ⟨q, k * 4 + 3, none⟩ (.slice none 0 0)) = w4 at *
      have RS4 := Lib.hid (RS2.out.chg C4.out (fun i x hi hx b hb p => by simp at p; exact YX.out i x hi hx b hb p))
      have W4 := Lib.hid (W2.out.more (fun i hi => by simp at hi; subst hi; exact QA.out) C4.out)
      have ZL4 : Hid ((zs.set k ⟨⟨#[111, 118, 101, 114]⟩, -7, 0, none, 0, 0⟩).length = ys.length ∧ (zs.set k ⟨⟨#[111, 118, 101, 114]⟩, -7, 0, none, 0, 0⟩).drop (k + 1) = ys.drop (k + 1)) := Lib.hid ⟨by rw [List.length_set]; exact ZL.out.1, by
        rw [List.drop_set_of_lt (by omega)]
        have := congrArg (List.drop 1) ZL.out.2
        simpa [List.drop_drop] using this⟩
      go_round
      case rel => exact ⟨k + 1, _, by omega, by go_num, ZL4, B4, RS4, W4⟩
      case measure => simp [RowKit.intOf]; omega
    · obtain rfl : k = ys.length := by omega
      have i1 : ¬ (ys.length : Int) < (ys.length : Int) := by omega
      go_wp2
      first | go_end0 | refine bodyPost_ret (results_none rfl _ _ _) rfl ?_
      exact ⟨rfl, RW.out⟩
end
section
open Go.RowKit Go.WideShapes Go.ChangeShapes Go.Deep Go.Lib
set_option linter.unusedSimpArgs false
set_option linter.unusedVariables false

variable {H : Type} {enc : TypeId × Value → H} {P : Program} {w : World} {base : Nat} {spare : Nat → Bool} {held : Bool}
/-- How large a change is that is handed in. -/
def AcZ (x : AcT) (e : AcP) : Prop := e.b.length ≤ 140737488351232 ∧ e.p.length ≤ 140737488351232 ∧ e.t.length ≤ 140737488351232
set_option maxRecDepth 100000 in
theorem open_act5 {n : Nat} {cs : List Value} {y : DataW H × List MemPlace} (h : DataW.trod enc Tryz.prog w base spare held n 27 cs = some y) (hz : ∀ k ∈ y.1.weights Tryz.prog 27, k ≤ reachBytes) :
    ∃ (x : AcT) (e : AcP), cs = [.int .i64 x.kd, .string x.p, .string x.t, .int .i64 x.k, .int .i64 x.m, .slice x.A x.l x.c] ∧ AcR w x e ∧ AcZ x e := by
  obtain ⟨xs, k, rfl, rfl, hl, hx, hf⟩ := DataW.trod_struct Tryz.underlying27 h
  rw [show Tryz.prog.cellsOf 27 = 6 by kernel_rfl] at hl
  have g0 := hf 0 _ rfl
  have g1 := hf 1 _ rfl
  have g2 := hf 2 _ rfl
  have g3 := hf 3 _ rfl
  change DataW.trod _ _ _ _ _ _ _ 3 ((cs.drop 0).take (Tryz.prog.cellsOf 3)) = _ at g0
  change DataW.trod _ _ _ _ _ _ _ 9 ((cs.drop 1).take (Tryz.prog.cellsOf 9)) = _ at g1
  change DataW.trod _ _ _ _ _ _ _ 9 ((cs.drop 2).take (Tryz.prog.cellsOf 9)) = _ at g2
  change DataW.trod _ _ _ _ _ _ _ 25 ((cs.drop 3).take (Tryz.prog.cellsOf 25)) = _ at g3
  rw [show Tryz.prog.cellsOf 3 = 1 by kernel_rfl] at g0
  rw [show Tryz.prog.cellsOf 9 = 1 by kernel_rfl] at g1 g2
  rw [show Tryz.prog.cellsOf 25 = 3 by kernel_rfl] at g3
  match cs, hl with
  | [v0, v1, v2, v3, v4, v5], _ =>
    match xs, hx with
    | [x0, x1, x2, x3], _ =>
      have w1 := weights_struct Tryz.underlying27 hz (j := 1) (d := x1.1) rfl rfl
      have w2 := weights_struct Tryz.underlying27 hz (j := 2) (d := x2.1) rfl rfl
      have w3 := weights_struct Tryz.underlying27 hz (j := 3) (d := x3.1) rfl rfl
      simp only [List.drop_succ_cons, List.drop_zero, List.take_succ_cons, List.take_zero] at g0 g1 g2
      obtain ⟨a, ha0, _, _⟩ := open_int1 g0
      obtain ⟨s, e1, r1⟩ := open_str g1 w1
      obtain ⟨s2, e2, r2⟩ := open_str g2 w2
      obtain ⟨k, m, A, n, c, ys, e3, r3⟩ := open_effect g3 w3
      simp only [List.drop_succ_cons, List.drop_zero, List.take_succ_cons, List.take_zero, List.cons.injEq, and_true] at e3
      obtain ⟨rfl, rfl, rfl⟩ := e3
      subst e1 e2 ha0
      refine ⟨⟨a, s, s2, k, m, A, n, c⟩, ⟨a, s.data.toList, s2.data.toList, k, m, ys⟩, rfl, ⟨rfl, (strOf_of s).symm, (strOf_of s2).symm, rfl, rfl, r3.1.len.symm, r3.1⟩, ?_⟩
      have hs : s.data.toList.length = s.size := rfl
      have hs2 : s2.data.toList.length = s2.size := rfl
      have l1 := r3.1.len
      refine ⟨?_, ?_, ?_⟩
      all_goals (simp only; omega)
end
section
open Go.RowKit Go.Lib
set_option linter.unusedSimpArgs false
set_option linter.unusedVariables false

theorem join5T {α β γ δ ε : Type} {F R : α → β → γ → δ → ε → Prop} {G : Prop} (h1 : (∀ a b c d e, F a b c d e → R a b c d e) → G) (h2 : ∀ a b c d e, F a b c d e → R a b c d e) : G := h1 h2
theorem rd_oneAc {w : World} {g : Nat} {X : AcT} (h : w.heap[g]? = some (.cells #[.int .i64 X.kd, .string X.p, .string X.t, .int .i64 X.k, .int .i64 X.m, .slice X.A X.l X.c] 27)) : RdK acTy w (some ⟨g, 0, none⟩) 1 [X] :=
  ⟨rfl, fun j v hj => ⟨_, rfl, by rw [add_zero_lit, cell_of h j]; simpa [RowTy.flat, acTy] using hj⟩⟩
theorem setC6 {w : World} {g : Nat} {a0 a1 a2 a3 a4 a5 : Value} {T : TypeId} (v0 v1 v2 v3 v4 v5 : Value) (h : w.heap[g]? = some (.cells #[a0, a1, a2, a3, a4, a5] T (0, 0))) :
    ((((((w.setCell ⟨g, 0, none⟩ v0).setCell ⟨g, 1, none⟩ v1).setCell ⟨g, 2, none⟩ v2).setCell ⟨g, 3, none⟩ v3).setCell ⟨g, 4, none⟩ v4).setCell ⟨g, 5, none⟩ v5).heap[g]? = some (.cells #[v0, v1, v2, v3, v4, v5] T (0, 0)) ∧ Chg [g] w ((((((w.setCell ⟨g, 0, none⟩ v0).setCell ⟨g, 1, none⟩ v1).setCell ⟨g, 2, none⟩ v2).setCell ⟨g, 3, none⟩ v3).setCell ⟨g, 4, none⟩ v4).setCell ⟨g, 5, none⟩ v5) := by
  have p0 := heap_setCell_same _ g 0 _ _ v0 h
  have p1 := heap_setCell_same _ g 1 _ _ v1 p0
  have p2 := heap_setCell_same _ g 2 _ _ v2 p1
  have p3 := heap_setCell_same _ g 3 _ _ v3 p2
  have p4 := heap_setCell_same _ g 4 _ _ v4 p3
  have p5 := heap_setCell_same _ g 5 _ _ v5 p4
  exact ⟨by simpa using p5, ((((((Chg.refl [g] w).setCell (p := ⟨g, 0, none⟩) (.inl (by simp)) v0).setCell (p := ⟨g, 1, none⟩) (.inl (by simp)) v1).setCell (p := ⟨g, 2, none⟩) (.inl (by simp)) v2).setCell (p := ⟨g, 3, none⟩) (.inl (by simp)) v3).setCell (p := ⟨g, 4, none⟩) (.inl (by simp)) v4).setCell (p := ⟨g, 5, none⟩) (.inl (by simp)) v5⟩
theorem box_cellN {w : World} {g : Nat} {cs : Array Value} {T : TypeId} (h : w.heap[g]? = some (.cells cs T (0, 0))) {a : Addr} (ha : a.block = g) {v : Value} (hv : w.cell? a = some v) : cs.toList[a.off]? = some v := by
  simp only [World.cell?, ha, h] at hv
  split at hv
  · cases hv
  · rw [Array.getElem?_toList]; exact hv
/-- What entries point at does not lie in the box of a change. -/
theorem ens_abox {w w' : World} {ys : List EnT} {es : List EnP} {g : Nat} {k1 k2 k3 : Int} {s1 s2 : ByteArray} {B : Option Addr} {l c : Nat} {T : TypeId} (h : EnsR w ys es) (hb : w.heap[g]? = some (.cells #[.int .i64 k1, .string s1, .string s2, .int .i64 k2, .int .i64 k3, .slice B l c] T (0, 0))) (hc : Chg [g] w w') : EnsR w' ys es :=
  ⟨h.1, fun i y e hy he => by
    have r := h.2 i y e hy he
    refine ⟨r.p, r.k, r.m, r.l, ⟨r.A.len, fun j v hj => ?_⟩⟩
    obtain ⟨a, ha, hx⟩ := r.A.cells j v hj
    refine ⟨a, ha, hc.cell hx (fun q => ?_)⟩
    have r := List.mem_of_getElem? (box_cellN hb (by simpa using q) hx)
    simp [bv] at r⟩
theorem setC63 {w : World} {g : Nat} {a0 a1 a2 a3 a4 a5 : Value} {T : TypeId} (v3 v4 v5 : Value) (h : w.heap[g]? = some (.cells #[a0, a1, a2, a3, a4, a5] T (0, 0))) :
    (((w.setCell ⟨g, 3, none⟩ v3).setCell ⟨g, 4, none⟩ v4).setCell ⟨g, 5, none⟩ v5).heap[g]? = some (.cells #[a0, a1, a2, v3, v4, v5] T (0, 0)) ∧ Chg [g] w (((w.setCell ⟨g, 3, none⟩ v3).setCell ⟨g, 4, none⟩ v4).setCell ⟨g, 5, none⟩ v5) := by
  have p3 := heap_setCell_same _ g 3 _ _ v3 h
  have p4 := heap_setCell_same _ g 4 _ _ v4 p3
  have p5 := heap_setCell_same _ g 5 _ _ v5 p4
  exact ⟨by simpa using p5, (((Chg.refl [g] w).setCell (p := ⟨g, 3, none⟩) (.inl (by simp)) v3).setCell (p := ⟨g, 4, none⟩) (.inl (by simp)) v4).setCell (p := ⟨g, 5, none⟩) (.inl (by simp)) v5⟩
theorem ac_small {w : World} {x : AcT} {a : AcP} (r : AcR w x a) (hl : ¬ bigA x) : AcSm a := by
  have q1 := r.l
  have q2 : x.p.size = a.p.length := by rw [r.p, strOf_size]
  have q3 : x.t.size = a.t.length := by rw [r.t, strOf_size]
  unfold bigA at hl
  unfold AcSm
  omega
theorem doesT_len (es : List EnP) (a : AcP) (h : es.length ≤ 60) : (doesT es a).2.length ≤ 1000 := by
  have key : ∀ l : List EnP, (sortTN l).length ≤ l.length := fun l => by
    unfold sortTN
    have := lays_len l []
    simpa using this
  unfold doesT
  split
  · unfold putT
    split
    · simp
    · split
      · simp
      · split
        · simp
        · have := lay_len ⟨a.p, a.k, a.m, a.b⟩ es
          simp only
          omega
  · split
    · unfold removeT
      split
      · simp
      · split
        · simp
        · have := List.length_filter_le (fun e => !(decide (e.p = a.p) || underL a.p e.p)) es
          simp only
          omega
    · split
      · unfold moveT
        repeat' split
        all_goals first | (simp; done) | skip
        have := key (es.map (mvE a.p a.t))
        rw [List.length_map] at this
        simp only
        omega
      · simp only
        omega
set_option maxRecDepth 100000 in
set_option maxHeartbeats 32000000 in
/-- TableTells. -/
theorem tabletells_yes (w : World) (A : Option Addr) (n c : Nat) (xs : List EnT) (es : List EnP) (hb : RdK enTy w A n xs) (hr : EnsR w xs es) (hn : n * 56 ≤ 140737488351232) (hm : n ≤ c) (hz : ∀ (i : Nat) (x : EnT) (e : EnP), xs[i]? = some x → es[i]? = some e → EnZ x e) (x : AcT) (a : AcP) (hy : AcR w x a) (hzy : AcZ x a) :
    Calls Tryz.prog 3 #[.slice A n c, .agg #[.int .i64 x.kd, .string x.p, .string x.t, .int .i64 x.k, .int .i64 x.m, .slice x.A x.l x.c]] w fun r w' => r = .returned (.bool true) ∧ Chg [] w w' := by
  have hl := hb.len
  subst hl
  obtain ⟨w1, hw, hc, b0⟩ := news1 w (.cells #[.int .i64 x.kd, .string (strOf a.p), .string (strOf a.t), .int .i64 x.k, .int .i64 x.m, .slice x.A x.l x.c] 27)
  have W1 := Lib.hid hw
  have HZ := Lib.hid hz
  have HN : Hid (xs.length ≤ 140737488351232) := Lib.hid (by omega)
  have C := Lib.hid hc
  have HA := Lib.hid (hb.chg hc (by simp))
  have HX := Lib.hid (hr.chg hc)
  have HY := Lib.hid (hy.chg hc)
  have B0 := Lib.hid b0
  rw [hy.p, hy.t]
  obtain ⟨g0, hg0⟩ : ∃ g, w.heap.size = g := ⟨_, rfl⟩
  have G0 := Lib.hid hg0
  rw [hg0] at B0
  have LN := Lib.hid (longens_any w1 A c xs HA.out HN.out (fun x hx => by
    obtain ⟨i, hi⟩ := List.getElem?_of_mem hx
    obtain ⟨e, he⟩ : ∃ e, es[i]? = some e := ⟨_, List.getElem?_eq_getElem (by rw [← HX.out.1]; exact (List.getElem?_eq_some_iff.1 hi).1)⟩
    have := (HX.out.2 i x e hi he).l
    have := (HZ.out i x e hi he).1
    omega))
  have HZY := Lib.hid hzy
  clear hw hc b0 hb hr hn hm hz hy hzy hg0
  go_enter Tryz.func3, Tryz.ntmps3
  go_upto_region 1 with fail
  rw [← W1.out, G0.out]
  clear W1 G0
  go_wp2_with fail
  refine LN.out.mono ?_
  rintro r w2 ⟨rfl, hc⟩
  replace C := Lib.hid (C.out.trans hc)
  replace HA := Lib.hid (HA.out.chg hc (by simp))
  replace HX := Lib.hid (HX.out.chg hc)
  replace HY := Lib.hid (HY.out.chg hc)
  replace B0 := Lib.hid (hc.at_ B0.out (by simp))
  clear hc LN
  rcases hlong : longN xs with _ | _
  rotate_left
  · skip
    clear hlong
    go_wp2_with fail
    refine (l5awake_any _).mono ?_
    rintro r wz ⟨rfl, hc⟩
    replace C := Lib.hid (C.out.trans hc)
    clear hc
    go_wp2
    go_ret
    exact ⟨rfl, C.out⟩
  have SM := Lib.hid (ens_small HX.out hlong)
  clear hlong
  have z0 := cell_of B0.out 0
  have z1 := cell_of B0.out 1
  have z2 := cell_of B0.out 2
  have z3 := cell_of B0.out 3
  have z4 := cell_of B0.out 4
  have z5 := cell_of B0.out 5
  simp only [List.getElem?_toArray, List.getElem?_cons_succ, List.getElem?_cons_zero] at z0 z1 z2 z3 z4 z5
  obtain ⟨w3, hw, hc, b1⟩ := news1 w2 (.cells #[.int .i64 x.kd, .string (strOf a.p), .string (strOf a.t), .int .i64 x.k, .int .i64 x.m, .slice x.A x.l x.c] 27)
  have W3 := Lib.hid hw
  rw [← HY.out.p, ← HY.out.t] at b1
  have R1 := Lib.hid (rd_oneAc b1)
  clear hw b1
  replace C := Lib.hid (C.out.trans hc)
  replace HA := Lib.hid (HA.out.chg hc (by simp))
  replace HX := Lib.hid (HX.out.chg hc)
  replace HY := Lib.hid (HY.out.chg hc)
  replace B0 := Lib.hid (hc.at_ B0.out (by simp))
  clear hc
  have LG := l5long_any w3 (some ⟨w2.heap.size, 0, none⟩) 1 [x] R1.out (by simp) (by intro y hy; simp at hy; subst hy; have := HY.out.l; have := HZY.out.1; omega)
  rw [show ([x] : List AcT).length = 1 from rfl] at LG
  have LG2 := Lib.hid LG
  clear LG
  go_wp2_with fail
  rw [← W3.out]
  clear W3
  clear z0 z1 z2 z3 z4 z5
  refine LG2.out.mono ?_
  rintro r w4 ⟨rfl, hc⟩
  replace C := Lib.hid (C.out.trans hc)
  replace HA := Lib.hid (HA.out.chg hc (by simp))
  replace HX := Lib.hid (HX.out.chg hc)
  replace HY := Lib.hid (HY.out.chg hc)
  replace B0 := Lib.hid (hc.at_ B0.out (by simp))
  clear hc LG2 R1
  rcases hlong : longA [x] with _ | _
  rotate_left
  · skip
    clear hlong
    go_wp2_with fail
    refine (l5awake_any _).mono ?_
    rintro r wz ⟨rfl, hc⟩
    replace C := Lib.hid (C.out.trans hc)
    clear hc
    go_wp2
    go_ret
    exact ⟨rfl, C.out⟩
  have SA := Lib.hid (ac_small HY.out ((longA_no hlong).2 x (by simp)))
  have SZ := Lib.hid SM.out.2
  have XN := Lib.hid SM.out.1
  clear hlong HZ HN SM HZY
  have C4 := C
  have HA4 := HA
  have HX4 := HX
  have HY4 := HY
  have B04 := B0
  have DX : Hid (∀ w', Chg [] w4 w' → (w'.cell? ⟨g0, 0, none⟩ = some (.int .i64 x.kd) ∧ w'.cell? ⟨g0, 1, none⟩ = some (.string (strOf a.p)) ∧ w'.cell? ⟨g0, 2, none⟩ = some (.string (strOf a.t)) ∧ w'.cell? ⟨g0, 3, none⟩ = some (.int .i64 x.k) ∧ w'.cell? ⟨g0, 4, none⟩ = some (.int .i64 x.m) ∧ w'.cell? ⟨g0, 5, none⟩ = some (.slice x.A x.l x.c))) := Lib.hid (fun w' hc => by
    have q := hc.at_ B0.out (by simp)
    exact ⟨cell_of q 0, cell_of q 1, cell_of q 2, cell_of q 3, cell_of q 4, cell_of q 5⟩)
  go_upto_region 3 with fail
  refine' join5T (F := fun (A' : Option Addr) (c' : Nat) (ys : List EnT) (p : Nat) (w7 : World) => Hid (ys.length = xs.length) ∧ Hid (OwnK enTy w7 A' c' ys ∧ EnsR w7 ys es) ∧ Hid (w7.heap[p]? = some (.cells #[.int .i64 x.kd, .string (strOf a.p), .string (strOf a.t), .int .i64 x.k, .int .i64 x.m, .slice x.A x.l x.c] 27)) ∧ Hid ((∀ a, A' = some a → a.block ≠ p) ∧ w4.heap.size ≤ p) ∧ Hid (Chg [] w4 w7)) (R := _) (fun JOIN => ?leaf) ?rest
  case leaf =>
    refine wp_region_held_drew (S := fun w' => Chg [] w4 w') (by kernel_rfl) (Chg.refl [] w4).drew (fun hHeld => ?_)
    have CC : Hid (Chg [] w4 w4.drew) := Lib.hid (Chg.refl [] w4).drew
    clear hHeld
    obtain ⟨wc, hwc⟩ : ∃ wc, w4.drew = wc := ⟨_, rfl⟩
    rw [hwc] at CC ⊢
    clear hwc
    refine sy 0 24 rfl rfl ?_
    try simp only [Act.put, sA, s0, s1]
    refine sy 2 26 rfl rfl ?_ (hy := by (intro w hSw; (try dsimp only at hSw); have hq := DX.out _ hSw; obtain ⟨q0, q1, q2, q3, q4, q5⟩ := hq; go_simp; try with_reducible rfl))
    try simp only [Act.put, sA, s0, s1]
    refine wpAnyH_ready (rs := [1, 3]) (by kernel_rfl) (by simp) ?_
    refine AllReadyH.cons rfl (fun K hK => ?_) (AllReadyH.cons rfl (fun K hK => ?_) AllReadyH.nil)
    · skip
      replace hK := Lib.hid hK
      go_simp
      refine (copyens_any wc A c xs es (HA.out.chg CC.out (by simp)) (HX.out.chg CC.out) (by have := XN.out; omega) (fun e he => (SZ.out e he).1.2)).mono ?_
      rintro r wd ⟨A', c', ys, rfl, hyl, ho, he, hap, hne, hc⟩
      have RO := Lib.hid ho
      have RE := Lib.hid he
      have YL := Lib.hid hyl
      have LA : Hid (∀ a, A' = some a → a.block < wd.heap.size) := Lib.hid ho.lt_
      have LB : Hid (∀ y ∈ ys, ∀ a, y.A = some a → a.block < wd.heap.size) := Lib.hid (fun y hy a ha => (hap y hy a ha).1)
      replace CC := Lib.hid (CC.out.trans hc)
      clear ho he hyl hap hne hc
      obtain ⟨wc, hwc⟩ : ∃ wc, wd = wc := ⟨_, rfl⟩
      rw [hwc] at CC RO RE LA LB ⊢
      clear hwc
      refine hK.out _ _ CC.out (fun hHeld => ?_)
      clear hK K
      try simp only [Act.put, sA, s0, s1]
      refine wpAnyH_ready (rs := [3]) (by kernel_rfl) (by simp) ?_
      refine AllReadyH.cons rfl (fun K hK => ?_) AllReadyH.nil
      replace hK := Lib.hid hK
      go_simp
      obtain ⟨p, hp⟩ : ∃ n, n = wc.heap.size := ⟨_, rfl⟩
      have NP : Hid (∀ a, A' = some a → a.block ≠ p) := Lib.hid (fun a ha => by have := LA.out a ha; omega)
      have GP : Hid (w4.heap.size ≤ p) := Lib.hid (by have := CC.out.size; omega)
      obtain ⟨wd, hw, cn, bn⟩ := news1 wc (.cells #[.int .i64 0, .string ⟨#[]⟩, .string ⟨#[]⟩, .int .i64 0, .int .i64 0, .slice none 0 0] 27)
      rw [← hw, ← hp]
      rw [← hp] at bn
      replace RO := Lib.hid (RO.out.chg cn (by simp))
      replace RE := Lib.hid (RE.out.chg cn)
      have BP := Lib.hid bn
      have LP : Hid (p < wd.heap.size) := Lib.hid (lt_of_heap bn)
      replace CC := Lib.hid (CC.out.trans cn)
      clear hw hp cn bn
      obtain ⟨wc, hwc⟩ : ∃ wc, wd = wc := ⟨_, rfl⟩
      rw [hwc] at CC BP LP RO RE ⊢
      clear hwc
      refine hK.out _ _ CC.out (fun hHeld => ?_)
      clear hK K
      try simp only [Act.put, sA, s0, s1]
      refine sy 4 5 rfl rfl ?_
      try simp only [Act.put, sA, s0, s1]
      refine wpAnyH_ready (rs := [5]) (by kernel_rfl) (by simp) ?_
      refine AllReadyH.cons rfl (fun K hK => ?_) AllReadyH.nil
      replace hK := Lib.hid hK
      have f0 := free_of BP.out 0
      have f1 := free_of BP.out 1
      have f2 := free_of BP.out 2
      have f3 := free_of BP.out 3
      have f4 := free_of BP.out 4
      have f5 := free_of BP.out 5
      have v0 := cell_of BP.out 0
      have v1 := cell_of BP.out 1
      have v2 := cell_of BP.out 2
      have v3 := cell_of BP.out 3
      have v4 := cell_of BP.out 4
      have v5 := cell_of BP.out 5
      simp only [List.getElem?_toArray, List.getElem?_cons_succ, List.getElem?_cons_zero] at v0 v1 v2 v3 v4 v5
      go_simp
      clear f0 v0 f1 v1 f2 v2 f3 v3 f4 v4 f5 v5
      obtain ⟨bk, ck⟩ := setC6 (.int .i64 x.kd) (.string (strOf a.p)) (.string (strOf a.t)) (.int .i64 x.k) (.int .i64 x.m) (.slice x.A x.l x.c) BP.out
      replace RO := Lib.hid (RO.out.chg ck (fun a ha => by simpa using NP.out a ha))
      replace RE := Lib.hid (ens_abox RE.out BP.out ck)
      replace CC := Lib.hid (CC.out.trans' ck (fun i hi => .inr (by have := GP.out; simp at hi; omega)))
      replace BP := Lib.hid bk
      clear bk ck
      obtain ⟨wd, hwc⟩ : ∃ w9 : World, w9 = ((((((wc.setCell ⟨p, 0, none⟩ (.int .i64 x.kd)).setCell ⟨p, 1, none⟩ (.string (strOf a.p))).setCell ⟨p, 2, none⟩ (.string (strOf a.t))).setCell ⟨p, 3, none⟩ (.int .i64 x.k)).setCell ⟨p, 4, none⟩ (.int .i64 x.m)).setCell ⟨p, 5, none⟩ (.slice x.A x.l x.c)) := ⟨_, rfl⟩
      rw [← hwc] at BP RO RE CC ⊢
      clear hwc
      refine hK.out _ _ CC.out (fun hHeld => ?_)
      clear hK K
      try simp only [Act.put, sA, s0, s1]
      refine wpAnyH_done (by kernel_rfl) ?_ _
      clear hHeld
      exact JOIN A' c' ys p _ ⟨YL, Lib.hid ⟨RO.out, RE.out⟩, BP, Lib.hid ⟨NP.out, GP.out⟩, CC⟩
    · skip
      replace hK := Lib.hid hK
      go_simp
      obtain ⟨p, hp⟩ : ∃ n, n = wc.heap.size := ⟨_, rfl⟩
      have GP : Hid (w4.heap.size ≤ p) := Lib.hid (by have := CC.out.size; omega)
      obtain ⟨wd, hw, cn, bn⟩ := news1 wc (.cells #[.int .i64 0, .string ⟨#[]⟩, .string ⟨#[]⟩, .int .i64 0, .int .i64 0, .slice none 0 0] 27)
      rw [← hw, ← hp]
      rw [← hp] at bn
      have BP := Lib.hid bn
      have LP : Hid (p < wd.heap.size) := Lib.hid (lt_of_heap bn)
      replace CC := Lib.hid (CC.out.trans cn)
      clear hw hp cn bn
      obtain ⟨wc, hwc⟩ : ∃ wc, wd = wc := ⟨_, rfl⟩
      rw [hwc] at CC BP LP ⊢
      clear hwc
      refine hK.out _ _ CC.out (fun hHeld => ?_)
      clear hK K
      try simp only [Act.put, sA, s0, s1]
      refine wpAnyH_ready (rs := [1]) (by kernel_rfl) (by simp) ?_
      refine AllReadyH.cons rfl (fun K hK => ?_) AllReadyH.nil
      replace hK := Lib.hid hK
      go_simp
      refine (copyens_any wc A c xs es (HA.out.chg CC.out (by simp)) (HX.out.chg CC.out) (by have := XN.out; omega) (fun e he => (SZ.out e he).1.2)).mono ?_
      rintro r wd ⟨A', c', ys, rfl, hyl, ho, he, hap, hne, hc⟩
      have RO := Lib.hid ho
      have RE := Lib.hid he
      have YL := Lib.hid hyl
      have LA : Hid (∀ a, A' = some a → a.block < wd.heap.size) := Lib.hid ho.lt_
      have LB : Hid (∀ y ∈ ys, ∀ a, y.A = some a → a.block < wd.heap.size) := Lib.hid (fun y hy a ha => (hap y hy a ha).1)
      have NP : Hid (∀ a, A' = some a → a.block ≠ p) := Lib.hid (fun a ha => by have h1 := hne a ha; have h2 := LP.out; omega)
      have NQ := Lib.hid hap
      replace BP := Lib.hid (hc.at_ BP.out (by simp))
      replace CC := Lib.hid (CC.out.trans hc)
      clear ho he hyl hap hne hc
      obtain ⟨wc, hwc⟩ : ∃ wc, wd = wc := ⟨_, rfl⟩
      rw [hwc] at CC RO RE LA LB BP ⊢
      clear hwc
      refine hK.out _ _ CC.out (fun hHeld => ?_)
      clear hK K
      try simp only [Act.put, sA, s0, s1]
      refine sy 4 5 rfl rfl ?_
      try simp only [Act.put, sA, s0, s1]
      refine wpAnyH_ready (rs := [5]) (by kernel_rfl) (by simp) ?_
      refine AllReadyH.cons rfl (fun K hK => ?_) AllReadyH.nil
      replace hK := Lib.hid hK
      have f0 := free_of BP.out 0
      have f1 := free_of BP.out 1
      have f2 := free_of BP.out 2
      have f3 := free_of BP.out 3
      have f4 := free_of BP.out 4
      have f5 := free_of BP.out 5
      have v0 := cell_of BP.out 0
      have v1 := cell_of BP.out 1
      have v2 := cell_of BP.out 2
      have v3 := cell_of BP.out 3
      have v4 := cell_of BP.out 4
      have v5 := cell_of BP.out 5
      simp only [List.getElem?_toArray, List.getElem?_cons_succ, List.getElem?_cons_zero] at v0 v1 v2 v3 v4 v5
      go_simp
      clear f0 v0 f1 v1 f2 v2 f3 v3 f4 v4 f5 v5
      obtain ⟨bk, ck⟩ := setC6 (.int .i64 x.kd) (.string (strOf a.p)) (.string (strOf a.t)) (.int .i64 x.k) (.int .i64 x.m) (.slice x.A x.l x.c) BP.out
      replace RO := Lib.hid (RO.out.chg ck (fun a ha => by simpa using NP.out a ha))
      replace RE := Lib.hid (ens_abox RE.out BP.out ck)
      replace CC := Lib.hid (CC.out.trans' ck (fun i hi => .inr (by have := GP.out; simp at hi; omega)))
      replace BP := Lib.hid bk
      clear bk ck
      obtain ⟨wd, hwc⟩ : ∃ w9 : World, w9 = ((((((wc.setCell ⟨p, 0, none⟩ (.int .i64 x.kd)).setCell ⟨p, 1, none⟩ (.string (strOf a.p))).setCell ⟨p, 2, none⟩ (.string (strOf a.t))).setCell ⟨p, 3, none⟩ (.int .i64 x.k)).setCell ⟨p, 4, none⟩ (.int .i64 x.m)).setCell ⟨p, 5, none⟩ (.slice x.A x.l x.c)) := ⟨_, rfl⟩
      rw [← hwc] at BP RO RE CC ⊢
      clear hwc
      refine hK.out _ _ CC.out (fun hHeld => ?_)
      clear hK K
      try simp only [Act.put, sA, s0, s1]
      refine wpAnyH_done (by kernel_rfl) ?_ _
      clear hHeld
      exact JOIN A' c' ys p _ ⟨YL, Lib.hid ⟨RO.out, RE.out⟩, BP, Lib.hid ⟨NP.out, GP.out⟩, CC⟩
  case rest =>
    clear DX
    rintro AI cI ys g6 w5 ⟨YL, OE, B6, NB, hc⟩
    have D46 := hc
    replace hc := hc.out
    have OI := Lib.hid OE.out.1
    have EI := Lib.hid OE.out.2
    clear OE
    replace C := Lib.hid (C.out.trans hc)
    replace HA := Lib.hid (HA.out.chg hc (by simp))
    replace HX := Lib.hid (HX.out.chg hc)
    replace HY := Lib.hid (HY.out.chg hc)
    replace B0 := Lib.hid (hc.at_ B0.out (by simp))
    clear hc
    have z0 := cell_of B0.out 0
    have z1 := cell_of B0.out 1
    have z2 := cell_of B0.out 2
    have z3 := cell_of B0.out 3
    have z4 := cell_of B0.out 4
    have z5 := cell_of B0.out 5
    simp only [List.getElem?_toArray, List.getElem?_cons_succ, List.getElem?_cons_zero] at z0 z1 z2 z3 z4 z5
    go_wp2_with fail
    clear z0 z1 z2 z3 z4 z5
    refine (copyeff_any w5 x.k x.m x.A x.l x.c a.b HY.out.A (by have := HY.out.l; have := SA.out.2.2; omega)).mono ?_
    rintro r w6 ⟨A4, c4, rfl, h4⟩
    have O4 := Lib.hid h4.1
    have N4 := Lib.hid h4.2.1
    have hc := h4.2.2
    have L6 : Hid (g6 < w5.heap.size) := Lib.hid (lt_of_heap B6.out)
    replace C := Lib.hid (C.out.trans hc)
    replace HA := Lib.hid (HA.out.chg hc (by simp))
    replace HX := Lib.hid (HX.out.chg hc)
    replace HY := Lib.hid (HY.out.chg hc)
    replace B0 := Lib.hid (hc.at_ B0.out (by simp))
    replace OI := Lib.hid (OI.out.chg hc (by simp))
    replace EI := Lib.hid (EI.out.chg hc)
    replace B6 := Lib.hid (hc.at_ B6.out (by simp))
    replace D46 := Lib.hid (D46.out.trans hc)
    clear h4 hc
    have z3 := cell_of B6.out 3
    have z4 := cell_of B6.out 4
    have z5 := cell_of B6.out 5
    have f3 := free_of B6.out 3
    have f4 := free_of B6.out 4
    have f5 := free_of B6.out 5
    simp only [List.getElem?_toArray, List.getElem?_cons_succ, List.getElem?_cons_zero] at z3 z4 z5
    go_upto_region 5 with fail
    clear z3 z4 z5 f3 f4 f5
    obtain ⟨bk, ck⟩ := setC63 (.int .i64 x.k) (.int .i64 x.m) (.slice A4 x.l c4) B6.out
    obtain ⟨w7, hW⟩ : ∃ w9 : World, (((w6.setCell ⟨g6, 3, none⟩ (.int .i64 x.k)).setCell ⟨g6, 4, none⟩ (.int .i64 x.m)).setCell ⟨g6, 5, none⟩ (.slice A4 x.l c4)) = w9 := ⟨_, rfl⟩
    rw [hW] at bk ck ⊢
    have EI6 := Lib.hid (ens_abox EI.out B6.out ck)
    replace B6 := Lib.hid bk
    have O4 := Lib.hid (O4.out.chg ck (fun a ha => by have := N4.out a ha; have := L6.out; simp; omega))
    have BY : Hid (AcR w7 ⟨x.kd, x.p, x.t, x.k, x.m, A4, x.l, c4⟩ a) := Lib.hid ⟨HY.out.kd, HY.out.p, HY.out.t, HY.out.k, HY.out.m, HY.out.l, by have q := O4.out.reads; show Bs w7 A4 x.l a.b; rw [HY.out.l]; exact q⟩
    replace OI := Lib.hid (OI.out.chg ck (fun a ha => by simpa using NB.out.1 a ha))
    replace EI := EI6
    have NG : Hid (w4.heap.size ≤ g6) := Lib.hid NB.out.2
    have D47 : Hid (Chg [] w4 w7) := Lib.hid (D46.out.trans' ck (fun i hi => .inr (by have := NG.out; simp at hi; omega)))
    replace HA := Lib.hid (HA4.out.chg D47.out (by simp))
    replace HX := Lib.hid (HX4.out.chg D47.out)
    replace HY := Lib.hid (HY4.out.chg D47.out)
    replace B0 := Lib.hid (D47.out.at_ B04.out (by simp))
    replace C := Lib.hid (C4.out.trans D47.out)
    clear EI6 bk ck hW O4 N4 L6 NB NG D46 HA4 HX4 HY4 B04 C4
    obtain ⟨G, hG⟩ : ∃ G, (getT es a.p).getD ⟨[], 0, 0, []⟩ = G := ⟨_, rfl⟩
    obtain ⟨gb, hgb⟩ : ∃ v, (getT es a.p).isSome = v := ⟨_, rfl⟩
    have z0 := cell_of B0.out 0
    have z1 := cell_of B0.out 1
    have z2 := cell_of B0.out 2
    have z3 := cell_of B0.out 3
    have z4 := cell_of B0.out 4
    have z5 := cell_of B0.out 5
    simp only [List.getElem?_toArray, List.getElem?_cons_succ, List.getElem?_cons_zero] at z0 z1 z2 z3 z4 z5
    have GC := tbget_any w7 AI cI ys es a.p (by have := OI.out.reads; exact this) EI.out (by rw [YL.out]; have := XN.out; omega) (fun e he => (SZ.out e he).1.2)
    rw [hG, hgb] at GC
    have GC2 := Lib.hid GC
    clear GC
    go_wp2_with fail
    clear z0 z1 z2 z3 z4 z5
    refine GC2.out.mono ?_
    rintro r w8 ⟨A5, c5, rfl, hB5, _, hc⟩
    have R5 := Lib.hid hB5.reads
    clear hB5 GC2
    replace C := Lib.hid (C.out.trans hc)
    replace HA := Lib.hid (HA.out.chg hc (by simp))
    replace HX := Lib.hid (HX.out.chg hc)
    replace HY := Lib.hid (HY.out.chg hc)
    replace B0 := Lib.hid (hc.at_ B0.out (by simp))
    replace OI := Lib.hid (OI.out.chg hc (by simp))
    replace EI := Lib.hid (EI.out.chg hc)
    replace B6 := Lib.hid (hc.at_ B6.out (by simp))
    replace BY := Lib.hid (BY.out.chg hc)
    clear hc
    obtain ⟨w9, hw, hc, b7⟩ := news1 w8 (.cells #[.int .i64 G.k, .int .i64 G.m, .slice A5 G.b.length c5] 25)
    have W9 := Lib.hid hw
    have B7 := Lib.hid b7
    clear hw b7
    replace C := Lib.hid (C.out.trans hc)
    replace HA := Lib.hid (HA.out.chg hc (by simp))
    replace HX := Lib.hid (HX.out.chg hc)
    replace HY := Lib.hid (HY.out.chg hc)
    replace B0 := Lib.hid (hc.at_ B0.out (by simp))
    replace OI := Lib.hid (OI.out.chg hc (by simp))
    replace EI := Lib.hid (EI.out.chg hc)
    replace B6 := Lib.hid (hc.at_ B6.out (by simp))
    replace BY := Lib.hid (BY.out.chg hc)
    replace R5 := Lib.hid (R5.out.chg hc (by simp))
    clear hc
    obtain ⟨g7, hg7⟩ : ∃ g, w8.heap.size = g := ⟨_, rfl⟩
    rw [hg7] at B7
    go_upto_region 6 with fail
    rw [← W9.out]
    try rw [hg7]
    clear W9 hg7
    have z0 := cell_of B0.out 0
    have z1 := cell_of B0.out 1
    have z2 := cell_of B0.out 2
    have z3 := cell_of B0.out 3
    have z4 := cell_of B0.out 4
    have z5 := cell_of B0.out 5
    simp only [List.getElem?_toArray, List.getElem?_cons_succ, List.getElem?_cons_zero] at z0 z1 z2 z3 z4 z5
    have GC := tdget_any w9 A c xs es a.p HA.out HX.out (by have := XN.out; omega)
    rw [hG, hgb] at GC
    have GC2 := Lib.hid GC
    clear GC hG
    go_wp2_with fail
    clear z0 z1 z2 z3 z4 z5
    refine GC2.out.mono ?_
    rintro r wa ⟨A7, c7, rfl, hB7, hc⟩
    have R7 := Lib.hid hB7
    clear hB7 GC2
    replace C := Lib.hid (C.out.trans hc)
    replace HA := Lib.hid (HA.out.chg hc (by simp))
    replace HX := Lib.hid (HX.out.chg hc)
    replace HY := Lib.hid (HY.out.chg hc)
    replace B0 := Lib.hid (hc.at_ B0.out (by simp))
    replace OI := Lib.hid (OI.out.chg hc (by simp))
    replace EI := Lib.hid (EI.out.chg hc)
    replace B6 := Lib.hid (hc.at_ B6.out (by simp))
    replace BY := Lib.hid (BY.out.chg hc)
    replace R5 := Lib.hid (R5.out.chg hc (by simp))
    replace B7 := Lib.hid (hc.at_ B7.out (by simp))
    clear hc
    obtain ⟨wb, hw, hc, b9⟩ := news1 wa (.cells #[.int .i64 G.k, .int .i64 G.m, .slice A7 G.b.length c7] 25)
    have WB := Lib.hid hw
    have B9 := Lib.hid b9
    clear hw b9
    replace C := Lib.hid (C.out.trans hc)
    replace HA := Lib.hid (HA.out.chg hc (by simp))
    replace HX := Lib.hid (HX.out.chg hc)
    replace HY := Lib.hid (HY.out.chg hc)
    replace B0 := Lib.hid (hc.at_ B0.out (by simp))
    replace OI := Lib.hid (OI.out.chg hc (by simp))
    replace EI := Lib.hid (EI.out.chg hc)
    replace B6 := Lib.hid (hc.at_ B6.out (by simp))
    replace BY := Lib.hid (BY.out.chg hc)
    replace R5 := Lib.hid (R5.out.chg hc (by simp))
    replace B7 := Lib.hid (hc.at_ B7.out (by simp))
    replace R7 := Lib.hid (R7.out.chg hc (by simp))
    clear hc
    obtain ⟨g9, hg9⟩ : ∃ g, wa.heap.size = g := ⟨_, rfl⟩
    rw [hg9] at B9
    skip
    go_upto_region 7 with fail
    rw [← WB.out]
    try rw [hg9]
    clear WB hg9
    have DX : Hid (∀ w', Chg [] wb w' → ((w'.cell? ⟨g0, 0, none⟩ = some (.int .i64 x.kd) ∧ w'.cell? ⟨g0, 1, none⟩ = some (.string (strOf a.p)) ∧ w'.cell? ⟨g0, 2, none⟩ = some (.string (strOf a.t)) ∧ w'.cell? ⟨g0, 3, none⟩ = some (.int .i64 x.k) ∧ w'.cell? ⟨g0, 4, none⟩ = some (.int .i64 x.m) ∧ w'.cell? ⟨g0, 5, none⟩ = some (.slice x.A x.l x.c)) ∧ (w'.cell? ⟨g7, 0, none⟩ = some (.int .i64 G.k) ∧ w'.cell? ⟨g7, 1, none⟩ = some (.int .i64 G.m) ∧ w'.cell? ⟨g7, 2, none⟩ = some (.slice A5 G.b.length c5)) ∧ (w'.cell? ⟨g9, 0, none⟩ = some (.int .i64 G.k) ∧ w'.cell? ⟨g9, 1, none⟩ = some (.int .i64 G.m) ∧ w'.cell? ⟨g9, 2, none⟩ = some (.slice A7 G.b.length c7)))) := Lib.hid (fun w' hc => by
      have q := hc.at_ B0.out (by simp)
      have r := hc.at_ B7.out (by simp)
      have s := hc.at_ B9.out (by simp)
      exact ⟨⟨cell_of q 0, cell_of q 1, cell_of q 2, cell_of q 3, cell_of q 4, cell_of q 5⟩, ⟨cell_of r 0, cell_of r 1, cell_of r 2⟩, cell_of s 0, cell_of s 1, cell_of s 2⟩)
    have YN : Hid (ys.length ≤ 60) := Lib.hid (by rw [YL.out]; exact XN.out)
    have K1 := Lib.hid (fun (w' : World) (h : Chg [] wb w') => tbcheck_any w' AI cI ys es (OI.out.reads.chg h (by simp)) (EI.out.chg h) (by have := YN.out; omega) (fun e he => (SZ.out e he).1))
    have K2 := Lib.hid (fun (w' : World) (h : Chg [] wb w') => tdcheck_any w' A c xs es (HA.out.chg h (by simp)) (HX.out.chg h) (by have := XN.out; omega) SZ.out)
    have K3 : Hid (∀ w', Chg [] wb w' → Calls Tryz.prog 17 #[.agg #[.int .i64 G.k, .int .i64 G.m, .slice A5 G.b.length c5], .agg #[.int .i64 G.k, .int .i64 G.m, .slice A7 G.b.length c7]] w' fun r w2 => r = .returned (.bool true) ∧ Chg [] w' w2) := Lib.hid (fun w' h => by
      have q := sameeff_any w' G.k G.m G.k G.m A5 A7 G.b.length c5 G.b.length c7 G.b G.b (R5.out.chg h (by simp)) (R7.out.chg h (by simp))
      rwa [show sameX G.k G.m G.b G.k G.m G.b = true by unfold sameX; simp] at q)
    have K4 := Lib.hid (fun (w' : World) (h : Chg [] wb w') => tbunder_any w' AI cI ys es a.p (by have := SA.out.1; omega) (OI.out.reads.chg h (by simp)) (EI.out.chg h) (by have := YN.out; omega) (fun e he => (SZ.out e he).1))
    have K5 := Lib.hid (fun (w' : World) (h : Chg [] wb w') => tdunder_any w' A c xs es a.p SA.out.1 (HA.out.chg h (by simp)) (HX.out.chg h) (by have := XN.out; omega) (fun e he => (SZ.out e he).2))
    have UL : Hid ((underT es a.p).length ≤ 60) := Lib.hid (by have := List.length_filter_le (fun e => underL a.p e.p) es; have := HX.out.1; have := XN.out; unfold underT; omega)
    generalize tabE es = tv at *
    have te : ((tv == tv) : Bool) = true := by simp
    have te2 : ((tv != tv) : Bool) = false := by simp
    have ge : ((gb == gb) : Bool) = true := by simp
    have ge2 : ((gb != gb) : Bool) = false := by simp
    refine wp_region_held_drew (S := fun w' => Chg [] wb w') (by kernel_rfl) (Chg.refl [] wb).drew (fun hHeld => ?_)
    refine sy 0 45 rfl rfl ?_
    try simp only [Act.put, sA, s0, s1]
    refine sy 2 47 rfl rfl ?_
    try simp only [Act.put, sA, s0, s1]
    refine wpAnyH_ready (rs := [1]) (by kernel_rfl) (by simp) ?_
    refine AllReadyH.cons rfl (fun K hK => ?_) AllReadyH.nil
    replace hK := Lib.hid hK
    go_simp
    refine (K1.out _ hHeld).mono ?_
    rintro r wd ⟨rfl, hc⟩
    have Hd := Lib.hid (hHeld.trans hc)
    clear hc hHeld
    refine hK.out _ _ Hd.out (fun hHeld => ?_)
    clear hK K
    try simp only [Act.put, sA, s0, s1]
    refine wpAnyH_ready (rs := [3]) (by kernel_rfl) (by simp) ?_
    refine AllReadyH.cons rfl (fun K hK => ?_) AllReadyH.nil
    replace hK := Lib.hid hK
    go_simp
    refine (K2.out _ hHeld).mono ?_
    rintro r we ⟨rfl, hc⟩
    have He := Lib.hid (hHeld.trans hc)
    clear hc hHeld
    refine hK.out _ _ He.out (fun hHeld => ?_)
    clear hK K
    try simp only [Act.put, sA, s0, s1]
    refine sy 4 49 rfl rfl ?_
    try simp only [Act.put, sA, s0, s1]
    refine sy 5 50 rfl rfl ?_
    try simp only [Act.put, sA, s0, s1]
    refine sy 6 51 rfl rfl ?_ (hy := by (intro w hSw; (try dsimp only at hSw); have hq := DX.out _ hSw; obtain ⟨⟨q0, q1, q2, q3, q4, q5⟩, ⟨r0, r1, r2⟩, v0, v1, v2⟩ := hq; go_simp; try with_reducible rfl))
    try simp only [Act.put, sA, s0, s1]
    refine sy 7 52 rfl rfl ?_ (hy := by (intro w hSw; (try dsimp only at hSw); have hq := DX.out _ hSw; obtain ⟨⟨q0, q1, q2, q3, q4, q5⟩, ⟨r0, r1, r2⟩, v0, v1, v2⟩ := hq; go_simp; try with_reducible rfl))
    try simp only [Act.put, sA, s0, s1]
    refine wpAnyH_ready (rs := [8]) (by kernel_rfl) (by simp) ?_
    refine AllReadyH.cons rfl (fun K hK => ?_) AllReadyH.nil
    replace hK := Lib.hid hK
    go_simp
    refine (K3.out _ hHeld).mono ?_
    rintro r wf ⟨rfl, hc⟩
    have Hf := Lib.hid (hHeld.trans hc)
    clear hc hHeld
    refine hK.out _ _ Hf.out (fun hHeld => ?_)
    clear hK K
    try simp only [Act.put, sA, s0, s1]
    refine sy 9 54 rfl rfl ?_
    try simp only [Act.put, sA, s0, s1]
    refine sy 10 55 rfl rfl ?_
    try simp only [Act.put, sA, s0, s1]
    refine sy 11 56 rfl rfl ?_
    try simp only [Act.put, sA, s0, s1]
    refine sy 12 57 rfl rfl ?_
    try simp only [Act.put, sA, s0, s1]
    refine sy 13 58 rfl rfl ?_
    try simp only [Act.put, sA, s0, s1]
    refine sy 14 59 rfl rfl ?_
    try simp only [Act.put, sA, s0, s1]
    refine sy 15 60 rfl rfl ?_
    try simp only [Act.put, sA, s0, s1]
    refine sy 16 61 rfl rfl ?_
    try simp only [Act.put, sA, s0, s1]
    refine sy 17 62 rfl rfl ?_
    try simp only [Act.put, sA, s0, s1]
    refine sy 18 63 rfl rfl ?_
    try simp only [Act.put, sA, s0, s1]
    refine sy 19 64 rfl rfl ?_ (hy := by (intro w hSw; (try dsimp only at hSw); have hq := DX.out _ hSw; obtain ⟨⟨q0, q1, q2, q3, q4, q5⟩, ⟨r0, r1, r2⟩, v0, v1, v2⟩ := hq; go_simp; try with_reducible rfl))
    try simp only [Act.put, sA, s0, s1]
    refine sy 21 66 rfl rfl ?_
    try simp only [Act.put, sA, s0, s1]
    refine sy 22 67 rfl rfl ?_
    try simp only [Act.put, sA, s0, s1]
    refine sy 23 68 rfl rfl ?_ (hy := by (intro w hSw; (try dsimp only at hSw); have hq := DX.out _ hSw; obtain ⟨⟨q0, q1, q2, q3, q4, q5⟩, ⟨r0, r1, r2⟩, v0, v1, v2⟩ := hq; go_simp; try with_reducible rfl))
    try simp only [Act.put, sA, s0, s1]
    refine wpAnyH_ready (rs := [20]) (by kernel_rfl) (by simp) ?_
    refine AllReadyH.cons rfl (fun K hK => ?_) AllReadyH.nil
    replace hK := Lib.hid hK
    go_simp
    refine (K4.out _ hHeld).mono ?_
    rintro r wh ⟨A8, c8, us, rfl, hf, hc⟩
    have U1 := Lib.hid hf.row.reads
    have U2 := Lib.hid hf.all.ev
    have Hh := Lib.hid (hHeld.trans hc)
    clear hf hc hHeld
    refine hK.out _ _ Hh.out (fun hHeld => ?_)
    clear hK K
    try simp only [Act.put, sA, s0, s1]
    refine wpAnyH_ready (rs := [24]) (by kernel_rfl) (by simp) ?_
    refine AllReadyH.cons rfl (fun K hK => ?_) AllReadyH.nil
    replace hK := Lib.hid hK
    go_simp
    refine (K5.out _ hHeld).mono ?_
    rintro r wi ⟨A9, c9, vs, rfl, hr, he, hc⟩
    have V1 := Lib.hid hr
    have V2 := Lib.hid he
    replace U1 := Lib.hid (U1.out.chg hc (by simp))
    replace U2 := Lib.hid (U2.out.chg hc)
    have Hi := Lib.hid (hHeld.trans hc)
    clear hr he hc hHeld
    refine hK.out _ _ Hi.out (fun hHeld => ?_)
    clear hK K
    try simp only [Act.put, sA, s0, s1]
    refine wpAnyH_ready (rs := [25]) (by kernel_rfl) (by simp) ?_
    refine AllReadyH.cons rfl (fun K hK => ?_) AllReadyH.nil
    replace hK := Lib.hid hK
    go_simp
    have SX := sameens_any wi A8 A9 c8 c9 us vs _ _ U1.out V1.out U2.out V2.out ⟨by have := UL.out; have := U2.out.1; omega, by have := UL.out; have := V2.out.1; omega⟩
    rw [sameNs_refl] at SX
    refine SX.mono ?_
    rintro r wj ⟨rfl, hc⟩
    have Hj := Lib.hid (hHeld.trans hc)
    clear hc hHeld SX U1 U2 V1 V2
    refine hK.out _ _ Hj.out (fun hHeld => ?_)
    clear hK K
    try simp only [Act.put, sA, s0, s1]
    refine sy 26 71 rfl rfl ?_
    try simp only [Act.put, sA, s0, s1]
    refine sy 27 72 rfl rfl ?_
    try simp only [Act.put, sA, s0, s1]
    refine wpAnyH_done (by kernel_rfl) ?_ _
    have hc := hHeld
    clear hHeld DX K1 K2 K3 K4 K5 UL te te2 ge ge2 Hd He Hf Hh Hi Hj
    clear R5 R7 B7 B9
    replace C := Lib.hid (C.out.trans hc)
    replace HA := Lib.hid (HA.out.chg hc (by simp))
    replace HX := Lib.hid (HX.out.chg hc)
    replace HY := Lib.hid (HY.out.chg hc)
    replace B0 := Lib.hid (hc.at_ B0.out (by simp))
    replace OI := Lib.hid (OI.out.chg hc (by simp))
    replace EI := Lib.hid (EI.out.chg hc)
    replace B6 := Lib.hid (hc.at_ B6.out (by simp))
    replace BY := Lib.hid (BY.out.chg hc)
    clear hc
    have z0 := cell_of B6.out 0
    have z1 := cell_of B6.out 1
    have z2 := cell_of B6.out 2
    have z3 := cell_of B6.out 3
    have z4 := cell_of B6.out 4
    have z5 := cell_of B6.out 5
    simp only [List.getElem?_toArray, List.getElem?_cons_succ, List.getElem?_cons_zero] at z0 z1 z2 z3 z4 z5
    have DO := l5does_any wj AI cI ys es ⟨x.kd, x.p, x.t, x.k, x.m, A4, x.l, c4⟩ a (by have := OI.out.reads; exact this) EI.out (by have := YN.out; omega) SZ.out BY.out SA.out
    obtain ⟨R, hR⟩ : ∃ R, doesT es a = R := ⟨_, rfl⟩
    have HRR := Lib.hid hR
    rw [hR] at DO
    simp only at DO
    skip
    have DO2 := Lib.hid DO
    clear DO hR
    have E1 : Hid (x.p = strOf a.p ∧ x.t = strOf a.t) := Lib.hid ⟨HY.out.p, HY.out.t⟩
    rw [← E1.out.1] at z1
    rw [← E1.out.2] at z2
    go_wp2_with fail
    clear z0 z1 z2 z3 z4 z5
    refine DO2.out.mono ?_
    rintro r wk ⟨Ad, cd, ds, rfl, hdr, hde, hc, hdf⟩
    have DR := Lib.hid hdr
    have DE := Lib.hid hde
    have DF := Lib.hid hdf
    have S9 := Lib.hid (Nat.le_refl wj.heap.size)
    have HA9 := HA
    have HX9 := HX
    have HY9 := HY
    have B09 := B0
    have OI9 := OI
    have EI9 := EI
    have B69 := B6
    have BY9 := BY
    have C9 := C
    have Q9 := Lib.hid hc
    clear hdr hde hdf DO2
    replace C := Lib.hid (C.out.trans hc)
    replace HA := Lib.hid (HA.out.chg hc (by simp))
    replace HX := Lib.hid (HX.out.chg hc)
    replace HY := Lib.hid (HY.out.chg hc)
    replace B0 := Lib.hid (hc.at_ B0.out (by simp))
    replace OI := Lib.hid (OI.out.chg hc (by simp))
    replace EI := Lib.hid (EI.out.chg hc)
    replace B6 := Lib.hid (hc.at_ B6.out (by simp))
    replace BY := Lib.hid (BY.out.chg hc)
    clear hc
    have Q11 := Lib.hid (Chg.refl [] wk)
    have z0 := cell_of B0.out 0
    have z1 := cell_of B0.out 1
    have z2 := cell_of B0.out 2
    have z3 := cell_of B0.out 3
    have z4 := cell_of B0.out 4
    have z5 := cell_of B0.out 5
    simp only [List.getElem?_toArray, List.getElem?_cons_succ, List.getElem?_cons_zero] at z0 z1 z2 z3 z4 z5
    have DO := l5wants_any wk A c xs es x a HA.out HX.out (by have := XN.out; omega) SZ.out HY.out SA.out
    rw [HRR.out] at DO
    have DO2 := Lib.hid DO
    clear DO
    rw [← E1.out.1] at z1
    rw [← E1.out.2] at z2
    go_wp2_with fail
    clear z0 z1 z2 z3 z4 z5
    refine DO2.out.mono ?_
    rintro r wl ⟨Aw, cw, ws, rfl, hwr, hwe, hc⟩
    have WR := Lib.hid hwr
    have WE := Lib.hid hwe
    have Q10 := Lib.hid hc
    clear hwr hwe DO2
    replace C := Lib.hid (C.out.trans hc)
    replace HA := Lib.hid (HA.out.chg hc (by simp))
    replace HX := Lib.hid (HX.out.chg hc)
    replace HY := Lib.hid (HY.out.chg hc)
    replace B0 := Lib.hid (hc.at_ B0.out (by simp))
    replace OI := Lib.hid (OI.out.chg hc (by simp))
    replace EI := Lib.hid (EI.out.chg hc)
    replace B6 := Lib.hid (hc.at_ B6.out (by simp))
    replace BY := Lib.hid (BY.out.chg hc)
    replace Q11 := Lib.hid (Q11.out.trans hc)
    replace DR := Lib.hid (DR.out.chg hc (by simp))
    replace DE := Lib.hid (DE.out.chg hc)
    replace Q9 := Lib.hid (Q9.out.trans hc)
    clear hc
    have RL : Hid (R.2.length ≤ 1000) := Lib.hid (by rw [← HRR.out]; exact doesT_len es a (by have := HX.out.1; have := XN.out; omega))
    have SX := sameens_any wl Ad Aw cd cw ds ws _ _ DR.out WR.out DE.out WE.out ⟨by have := RL.out; have := DE.out.1; omega, by have := RL.out; have := WE.out.1; omega⟩
    rw [sameNs_refl] at SX
    have SX2 := Lib.hid SX
    clear SX
    obtain ⟨rv, hrv⟩ : ∃ v, R.1 = v := ⟨_, rfl⟩
    rw [hrv]
    have re : ((rv == rv) : Bool) = true := by simp
    clear hrv
    go_wp2_with fail
    refine SX2.out.mono ?_
    rintro r wm ⟨rfl, hc⟩
    replace C := Lib.hid (C.out.trans hc)
    replace HA := Lib.hid (HA.out.chg hc (by simp))
    replace HX := Lib.hid (HX.out.chg hc)
    replace HY := Lib.hid (HY.out.chg hc)
    replace B0 := Lib.hid (hc.at_ B0.out (by simp))
    replace OI := Lib.hid (OI.out.chg hc (by simp))
    replace EI := Lib.hid (EI.out.chg hc)
    replace B6 := Lib.hid (hc.at_ B6.out (by simp))
    replace BY := Lib.hid (BY.out.chg hc)
    replace Q11 := Lib.hid (Q11.out.trans hc)
    replace DR := Lib.hid (DR.out.chg hc (by simp))
    replace DE := Lib.hid (DE.out.chg hc)
    replace Q9 := Lib.hid (Q9.out.trans hc)
    replace WR := Lib.hid (WR.out.chg hc (by simp))
    replace WE := Lib.hid (WE.out.chg hc)
    clear hc SX2
    have z0 := cell_of B0.out 0
    have z1 := cell_of B0.out 1
    have z2 := cell_of B0.out 2
    have z3 := cell_of B0.out 3
    have z4 := cell_of B0.out 4
    have z5 := cell_of B0.out 5
    simp only [List.getElem?_toArray, List.getElem?_cons_succ, List.getElem?_cons_zero] at z0 z1 z2 z3 z4 z5
    by_cases hk : 0 ≤ x.kd ∧ x.kd ≤ 2
    rotate_left
    · skip
      clear DF
      rcases (show x.kd < 0 ∨ (0 ≤ x.kd ∧ 2 < x.kd) by omega) with hk2 | hk2
      · skip
        have k1 : ¬ (0 : Int) ≤ x.kd := by omega
        have k2 : decide ((0 : Int) ≤ x.kd) = false := decide_eq_false k1
        clear hk hk2
        go_upto_region 14 with fail
        clear k1 k2
        clear z0 z1 z2 z3 z4 z5
        obtain ⟨wn, hwn⟩ : ∃ wn, wm = wn := ⟨_, rfl⟩
        rw [hwn] at C HA HX HY B0 OI EI B6 BY Q11 DR DE Q9 WR WE ⊢
        clear hwn
        have CF := Lib.hid (sameens_any wn AI A cI c ys xs es es (by have := OI.out.reads; exact this) HA.out EI.out HX.out ⟨by have := YN.out; omega, by have := XN.out; omega⟩)
        have z0 := cell_of B0.out 0
        have z1 := cell_of B0.out 1
        have z2 := cell_of B0.out 2
        have z3 := cell_of B0.out 3
        have z4 := cell_of B0.out 4
        have z5 := cell_of B0.out 5
        simp only [List.getElem?_toArray, List.getElem?_cons_succ, List.getElem?_cons_zero] at z0 z1 z2 z3 z4 z5
        have y0 := cell_of B6.out 0
        have y1 := cell_of B6.out 1
        have y2 := cell_of B6.out 2
        have y3 := cell_of B6.out 3
        have y4 := cell_of B6.out 4
        have y5 := cell_of B6.out 5
        simp only [List.getElem?_toArray, List.getElem?_cons_succ, List.getElem?_cons_zero] at y0 y1 y2 y3 y4 y5
        have SX := CF.out
        rw [sameNs_refl] at SX
        have SX2 := Lib.hid SX
        clear SX CF
        go_wp2_with fail
        refine SX2.out.mono ?_
        rintro r wo ⟨rfl, hc⟩
        clear z0 z1 z2 z3 z4 z5
        clear y0 y1 y2 y3 y4 y5
        replace C := Lib.hid (C.out.trans hc)
        replace HA := Lib.hid (HA.out.chg hc (by simp))
        replace HX := Lib.hid (HX.out.chg hc)
        replace HY := Lib.hid (HY.out.chg hc)
        replace B0 := Lib.hid (hc.at_ B0.out (by simp))
        replace OI := Lib.hid (OI.out.chg hc (by simp))
        replace EI := Lib.hid (EI.out.chg hc)
        replace B6 := Lib.hid (hc.at_ B6.out (by simp))
        replace BY := Lib.hid (BY.out.chg hc)
        replace Q11 := Lib.hid (Q11.out.trans hc)
        replace DR := Lib.hid (DR.out.chg hc (by simp))
        replace DE := Lib.hid (DE.out.chg hc)
        replace Q9 := Lib.hid (Q9.out.trans hc)
        replace WR := Lib.hid (WR.out.chg hc (by simp))
        replace WE := Lib.hid (WE.out.chg hc)
        clear hc SX2
        have z0 := cell_of B0.out 0
        have z1 := cell_of B0.out 1
        have z2 := cell_of B0.out 2
        have z3 := cell_of B0.out 3
        have z4 := cell_of B0.out 4
        have z5 := cell_of B0.out 5
        simp only [List.getElem?_toArray, List.getElem?_cons_succ, List.getElem?_cons_zero] at z0 z1 z2 z3 z4 z5
        have y0 := cell_of B6.out 0
        have y1 := cell_of B6.out 1
        have y2 := cell_of B6.out 2
        have y3 := cell_of B6.out 3
        have y4 := cell_of B6.out 4
        have y5 := cell_of B6.out 5
        simp only [List.getElem?_toArray, List.getElem?_cons_succ, List.getElem?_cons_zero] at y0 y1 y2 y3 y4 y5
        have SX := sameeff_any wo x.k x.m x.k x.m A4 x.A x.l c4 x.l x.c a.b a.b BY.out.A HY.out.A
        rw [show sameX x.k x.m a.b x.k x.m a.b = true by unfold sameX; simp] at SX
        have SX2 := Lib.hid SX
        clear SX
        go_wp2_with fail
        refine SX2.out.mono ?_
        rintro r wp ⟨rfl, hc⟩
        clear z0 z1 z2 z3 z4 z5
        clear y0 y1 y2 y3 y4 y5
        replace C := Lib.hid (C.out.trans hc)
        replace HA := Lib.hid (HA.out.chg hc (by simp))
        replace HX := Lib.hid (HX.out.chg hc)
        replace HY := Lib.hid (HY.out.chg hc)
        replace B0 := Lib.hid (hc.at_ B0.out (by simp))
        replace OI := Lib.hid (OI.out.chg hc (by simp))
        replace EI := Lib.hid (EI.out.chg hc)
        replace B6 := Lib.hid (hc.at_ B6.out (by simp))
        replace BY := Lib.hid (BY.out.chg hc)
        replace Q11 := Lib.hid (Q11.out.trans hc)
        replace DR := Lib.hid (DR.out.chg hc (by simp))
        replace DE := Lib.hid (DE.out.chg hc)
        replace Q9 := Lib.hid (Q9.out.trans hc)
        replace WR := Lib.hid (WR.out.chg hc (by simp))
        replace WE := Lib.hid (WE.out.chg hc)
        clear hc SX2
        go_wp2_with fail
        refine (l5awake_any wp).mono ?_
        rintro r wq ⟨rfl, hc⟩
        replace C := Lib.hid (C.out.trans hc)
        replace HA := Lib.hid (HA.out.chg hc (by simp))
        replace HX := Lib.hid (HX.out.chg hc)
        replace HY := Lib.hid (HY.out.chg hc)
        replace B0 := Lib.hid (hc.at_ B0.out (by simp))
        replace OI := Lib.hid (OI.out.chg hc (by simp))
        replace EI := Lib.hid (EI.out.chg hc)
        replace B6 := Lib.hid (hc.at_ B6.out (by simp))
        replace BY := Lib.hid (BY.out.chg hc)
        replace Q11 := Lib.hid (Q11.out.trans hc)
        replace DR := Lib.hid (DR.out.chg hc (by simp))
        replace DE := Lib.hid (DE.out.chg hc)
        replace Q9 := Lib.hid (Q9.out.trans hc)
        replace WR := Lib.hid (WR.out.chg hc (by simp))
        replace WE := Lib.hid (WE.out.chg hc)
        clear hc
        go_wp2
        go_ret
        exact ⟨rfl, C.out⟩
      · skip
        have k1 : (0 : Int) ≤ x.kd := hk2.1
        have k2 : decide ((0 : Int) ≤ x.kd) = true := decide_eq_true k1
        have k3 : ¬ x.kd ≤ (2 : Int) := by omega
        have k4 : decide (x.kd ≤ (2 : Int)) = false := decide_eq_false k3
        clear hk hk2
        go_upto_region 14 with fail
        clear k1 k2 k3 k4
        clear z0 z1 z2 z3 z4 z5
        obtain ⟨wn, hwn⟩ : ∃ wn, wm = wn := ⟨_, rfl⟩
        rw [hwn] at C HA HX HY B0 OI EI B6 BY Q11 DR DE Q9 WR WE ⊢
        clear hwn
        have CF := Lib.hid (sameens_any wn AI A cI c ys xs es es (by have := OI.out.reads; exact this) HA.out EI.out HX.out ⟨by have := YN.out; omega, by have := XN.out; omega⟩)
        have z0 := cell_of B0.out 0
        have z1 := cell_of B0.out 1
        have z2 := cell_of B0.out 2
        have z3 := cell_of B0.out 3
        have z4 := cell_of B0.out 4
        have z5 := cell_of B0.out 5
        simp only [List.getElem?_toArray, List.getElem?_cons_succ, List.getElem?_cons_zero] at z0 z1 z2 z3 z4 z5
        have y0 := cell_of B6.out 0
        have y1 := cell_of B6.out 1
        have y2 := cell_of B6.out 2
        have y3 := cell_of B6.out 3
        have y4 := cell_of B6.out 4
        have y5 := cell_of B6.out 5
        simp only [List.getElem?_toArray, List.getElem?_cons_succ, List.getElem?_cons_zero] at y0 y1 y2 y3 y4 y5
        have SX := CF.out
        rw [sameNs_refl] at SX
        have SX2 := Lib.hid SX
        clear SX CF
        go_wp2_with fail
        refine SX2.out.mono ?_
        rintro r wo ⟨rfl, hc⟩
        clear z0 z1 z2 z3 z4 z5
        clear y0 y1 y2 y3 y4 y5
        replace C := Lib.hid (C.out.trans hc)
        replace HA := Lib.hid (HA.out.chg hc (by simp))
        replace HX := Lib.hid (HX.out.chg hc)
        replace HY := Lib.hid (HY.out.chg hc)
        replace B0 := Lib.hid (hc.at_ B0.out (by simp))
        replace OI := Lib.hid (OI.out.chg hc (by simp))
        replace EI := Lib.hid (EI.out.chg hc)
        replace B6 := Lib.hid (hc.at_ B6.out (by simp))
        replace BY := Lib.hid (BY.out.chg hc)
        replace Q11 := Lib.hid (Q11.out.trans hc)
        replace DR := Lib.hid (DR.out.chg hc (by simp))
        replace DE := Lib.hid (DE.out.chg hc)
        replace Q9 := Lib.hid (Q9.out.trans hc)
        replace WR := Lib.hid (WR.out.chg hc (by simp))
        replace WE := Lib.hid (WE.out.chg hc)
        clear hc SX2
        have z0 := cell_of B0.out 0
        have z1 := cell_of B0.out 1
        have z2 := cell_of B0.out 2
        have z3 := cell_of B0.out 3
        have z4 := cell_of B0.out 4
        have z5 := cell_of B0.out 5
        simp only [List.getElem?_toArray, List.getElem?_cons_succ, List.getElem?_cons_zero] at z0 z1 z2 z3 z4 z5
        have y0 := cell_of B6.out 0
        have y1 := cell_of B6.out 1
        have y2 := cell_of B6.out 2
        have y3 := cell_of B6.out 3
        have y4 := cell_of B6.out 4
        have y5 := cell_of B6.out 5
        simp only [List.getElem?_toArray, List.getElem?_cons_succ, List.getElem?_cons_zero] at y0 y1 y2 y3 y4 y5
        have SX := sameeff_any wo x.k x.m x.k x.m A4 x.A x.l c4 x.l x.c a.b a.b BY.out.A HY.out.A
        rw [show sameX x.k x.m a.b x.k x.m a.b = true by unfold sameX; simp] at SX
        have SX2 := Lib.hid SX
        clear SX
        go_wp2_with fail
        refine SX2.out.mono ?_
        rintro r wp ⟨rfl, hc⟩
        clear z0 z1 z2 z3 z4 z5
        clear y0 y1 y2 y3 y4 y5
        replace C := Lib.hid (C.out.trans hc)
        replace HA := Lib.hid (HA.out.chg hc (by simp))
        replace HX := Lib.hid (HX.out.chg hc)
        replace HY := Lib.hid (HY.out.chg hc)
        replace B0 := Lib.hid (hc.at_ B0.out (by simp))
        replace OI := Lib.hid (OI.out.chg hc (by simp))
        replace EI := Lib.hid (EI.out.chg hc)
        replace B6 := Lib.hid (hc.at_ B6.out (by simp))
        replace BY := Lib.hid (BY.out.chg hc)
        replace Q11 := Lib.hid (Q11.out.trans hc)
        replace DR := Lib.hid (DR.out.chg hc (by simp))
        replace DE := Lib.hid (DE.out.chg hc)
        replace Q9 := Lib.hid (Q9.out.trans hc)
        replace WR := Lib.hid (WR.out.chg hc (by simp))
        replace WE := Lib.hid (WE.out.chg hc)
        clear hc SX2
        go_wp2_with fail
        refine (l5awake_any wp).mono ?_
        rintro r wq ⟨rfl, hc⟩
        replace C := Lib.hid (C.out.trans hc)
        replace HA := Lib.hid (HA.out.chg hc (by simp))
        replace HX := Lib.hid (HX.out.chg hc)
        replace HY := Lib.hid (HY.out.chg hc)
        replace B0 := Lib.hid (hc.at_ B0.out (by simp))
        replace OI := Lib.hid (OI.out.chg hc (by simp))
        replace EI := Lib.hid (EI.out.chg hc)
        replace B6 := Lib.hid (hc.at_ B6.out (by simp))
        replace BY := Lib.hid (BY.out.chg hc)
        replace Q11 := Lib.hid (Q11.out.trans hc)
        replace DR := Lib.hid (DR.out.chg hc (by simp))
        replace DE := Lib.hid (DE.out.chg hc)
        replace Q9 := Lib.hid (Q9.out.trans hc)
        replace WR := Lib.hid (WR.out.chg hc (by simp))
        replace WE := Lib.hid (WE.out.chg hc)
        clear hc
        go_wp2
        go_ret
        exact ⟨rfl, C.out⟩
    have k1 : (0 : Int) ≤ x.kd := hk.1
    have k2 : decide ((0 : Int) ≤ x.kd) = true := decide_eq_true k1
    have k3 : x.kd ≤ (2 : Int) := hk.2
    have k4 : decide (x.kd ≤ (2 : Int)) = true := decide_eq_true k3
    have NF := Lib.hid ((DF.out (by rw [← HY.out.kd]; exact hk.1) (by rw [← HY.out.kd]; exact hk.2)).chg Q11.out (by simp))
    clear DF hk
    have OV := Lib.hid (overens_own wm wj.heap.size wk.heap.size Ad cd ds R.2 NF.out (by have := RL.out; have := DE.out.1; omega))
    go_wp2_with fail
    clear k1 k2 k3 k4
    clear z0 z1 z2 z3 z4 z5
    refine OV.out.mono ?_
    rintro r wn ⟨rfl, S, hS, hv⟩
    have QN : Hid (Chg [] wj wn) := Lib.hid (Q9.out.trans' hv (fun i hi => .inr (hS i hi).1))
    clear hS hv OV NF
    replace C := Lib.hid (C9.out.trans QN.out)
    replace HA := Lib.hid (HA9.out.chg QN.out (by simp))
    replace HX := Lib.hid (HX9.out.chg QN.out)
    replace HY := Lib.hid (HY9.out.chg QN.out)
    replace B0 := Lib.hid (QN.out.at_ B09.out (by simp))
    replace OI := Lib.hid (OI9.out.chg QN.out (by simp))
    replace EI := Lib.hid (EI9.out.chg QN.out)
    replace B6 := Lib.hid (QN.out.at_ B69.out (by simp))
    replace BY := Lib.hid (BY9.out.chg QN.out)
    clear DR DE WR WE Q9 Q11
    have CF := Lib.hid (sameens_any wn AI A cI c ys xs es es (by have := OI.out.reads; exact this) HA.out EI.out HX.out ⟨by have := YN.out; omega, by have := XN.out; omega⟩)
    have z0 := cell_of B0.out 0
    have z1 := cell_of B0.out 1
    have z2 := cell_of B0.out 2
    have z3 := cell_of B0.out 3
    have z4 := cell_of B0.out 4
    have z5 := cell_of B0.out 5
    simp only [List.getElem?_toArray, List.getElem?_cons_succ, List.getElem?_cons_zero] at z0 z1 z2 z3 z4 z5
    have y0 := cell_of B6.out 0
    have y1 := cell_of B6.out 1
    have y2 := cell_of B6.out 2
    have y3 := cell_of B6.out 3
    have y4 := cell_of B6.out 4
    have y5 := cell_of B6.out 5
    simp only [List.getElem?_toArray, List.getElem?_cons_succ, List.getElem?_cons_zero] at y0 y1 y2 y3 y4 y5
    have SX := CF.out
    rw [sameNs_refl] at SX
    have SX2 := Lib.hid SX
    clear SX CF
    go_wp2_with fail
    refine SX2.out.mono ?_
    rintro r wo ⟨rfl, hc⟩
    clear z0 z1 z2 z3 z4 z5
    clear y0 y1 y2 y3 y4 y5
    replace C := Lib.hid (C.out.trans hc)
    replace HA := Lib.hid (HA.out.chg hc (by simp))
    replace HX := Lib.hid (HX.out.chg hc)
    replace HY := Lib.hid (HY.out.chg hc)
    replace B0 := Lib.hid (hc.at_ B0.out (by simp))
    replace OI := Lib.hid (OI.out.chg hc (by simp))
    replace EI := Lib.hid (EI.out.chg hc)
    replace B6 := Lib.hid (hc.at_ B6.out (by simp))
    replace BY := Lib.hid (BY.out.chg hc)
    clear hc SX2
    have z0 := cell_of B0.out 0
    have z1 := cell_of B0.out 1
    have z2 := cell_of B0.out 2
    have z3 := cell_of B0.out 3
    have z4 := cell_of B0.out 4
    have z5 := cell_of B0.out 5
    simp only [List.getElem?_toArray, List.getElem?_cons_succ, List.getElem?_cons_zero] at z0 z1 z2 z3 z4 z5
    have y0 := cell_of B6.out 0
    have y1 := cell_of B6.out 1
    have y2 := cell_of B6.out 2
    have y3 := cell_of B6.out 3
    have y4 := cell_of B6.out 4
    have y5 := cell_of B6.out 5
    simp only [List.getElem?_toArray, List.getElem?_cons_succ, List.getElem?_cons_zero] at y0 y1 y2 y3 y4 y5
    have SX := sameeff_any wo x.k x.m x.k x.m A4 x.A x.l c4 x.l x.c a.b a.b BY.out.A HY.out.A
    rw [show sameX x.k x.m a.b x.k x.m a.b = true by unfold sameX; simp] at SX
    have SX2 := Lib.hid SX
    clear SX
    go_wp2_with fail
    refine SX2.out.mono ?_
    rintro r wp ⟨rfl, hc⟩
    clear z0 z1 z2 z3 z4 z5
    clear y0 y1 y2 y3 y4 y5
    replace C := Lib.hid (C.out.trans hc)
    replace HA := Lib.hid (HA.out.chg hc (by simp))
    replace HX := Lib.hid (HX.out.chg hc)
    replace HY := Lib.hid (HY.out.chg hc)
    replace B0 := Lib.hid (hc.at_ B0.out (by simp))
    replace OI := Lib.hid (OI.out.chg hc (by simp))
    replace EI := Lib.hid (EI.out.chg hc)
    replace B6 := Lib.hid (hc.at_ B6.out (by simp))
    replace BY := Lib.hid (BY.out.chg hc)
    clear hc SX2
    go_wp2_with fail
    refine (l5awake_any wp).mono ?_
    rintro r wq ⟨rfl, hc⟩
    replace C := Lib.hid (C.out.trans hc)
    replace HA := Lib.hid (HA.out.chg hc (by simp))
    replace HX := Lib.hid (HX.out.chg hc)
    replace HY := Lib.hid (HY.out.chg hc)
    replace B0 := Lib.hid (hc.at_ B0.out (by simp))
    replace OI := Lib.hid (OI.out.chg hc (by simp))
    replace EI := Lib.hid (EI.out.chg hc)
    replace B6 := Lib.hid (hc.at_ B6.out (by simp))
    replace BY := Lib.hid (BY.out.chg hc)
    clear hc
    go_wp2
    go_ret
    exact ⟨rfl, C.out⟩
end
end Go.Proofs.YtimdfpejgaidhaaGreatDoor
