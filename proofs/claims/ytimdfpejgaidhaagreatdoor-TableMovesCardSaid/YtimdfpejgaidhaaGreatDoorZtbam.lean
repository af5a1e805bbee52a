/- table.Put. The document's Less. The kit's SameEvent. The document's lay. table.Remove. A row that the library has sorted, or cleared from some place on. slices.SortFunc at structs under a 'cmp' that need not part any two: what was there, in order. slices.SortFunc at structs of which the 'cmp' tells by what they read as. -/
import Derived.Test.YtimdfpejgaidhaaGreatDoorZtbak
import Derived.Test.YtimdfpejgaidhaaGreatDoorZtbal
import Derived.Deep.Cut
import Derived.Test.YtimdfpejgaidhaaGreatDoorZtbac
import Derived.Test.YtimdfpejgaidhaaGreatDoorZtbae
import Derived.Test.YtimdfpejgaidhaaGreatDoorZtbab
import Derived.Deep.RegionHeld3
import Derived.Test.YtimdfpejgaidhaaGreatDoorZtbaa
import Derived.Shelf.SlSortCmp.NoneTotal
import Derived.Lib.SlicesCompact
import Derived.Lib.SliceRun
import Derived.Test.YtimdfpejgaidhaaGreatDoorZtbaj
namespace Go.Proofs.YtimdfpejgaidhaaGreatDoor
section
open Go.RowKit Go.Lib
set_option linter.unusedSimpArgs false
set_option linter.unusedVariables false

set_option maxRecDepth 100000 in
set_option maxHeartbeats 16000000 in
/-- table.Put. -/
theorem tbput_any (w : World) (A : Option Addr) (c : Nat) (xs : List EnT) (es : List EnP) (y : EnT) (f : EnP) (h : RdK enTy w A xs.length xs) (hx : EnsR w xs es) (hn : xs.length ≤ 190) (hs : ∀ e ∈ es, EnSm e) (hy : EnR w y f) (ht : EnSm f) :
    Calls Tryz.prog 34 #[.slice A xs.length c, .string (strOf f.p), .agg #[.int .i64 y.k, .int .i64 y.m, .slice y.A y.l y.c]] w fun r w' => ∃ (A' : Option Addr) (c' : Nat) (ys : List EnT), r = .returned (.tuple #[.slice A' ys.length c', .int .i64 (putT es f).1]) ∧ NsF w' w.heap.size w'.heap.size A' c' ys (putT es f).2 ∧ Chg [] w w' := by
  obtain ⟨R, hR⟩ : ∃ R, putT es f = R := ⟨_, rfl⟩
  rw [hR]
  have HRR := Lib.hid hR
  obtain ⟨w1, hw, hc, b0, b1⟩ := news2 w (.cells #[.int .i64 y.k, .int .i64 y.m, .slice y.A y.l y.c] 25) (.cells #[.string (strOf f.p), .int .i64 y.k, .int .i64 y.m, .slice y.A y.l y.c] 55)
  have W1 := Lib.hid hw
  obtain ⟨g0, hg0⟩ : ∃ g, w.heap.size = g := ⟨_, rfl⟩
  obtain ⟨g1, hg1⟩ : ∃ g, w.heap.size + 1 = g := ⟨_, rfl⟩
  have G1 := Lib.hid hg1
  have G0 := Lib.hid hg0
  rw [hg0] at b0
  rw [hg1] at b1
  have BX : Hid (∀ w', Chg [] w1 w' → (w'.cell? ⟨g0, 0, none⟩ = some (.int .i64 y.k) ∧ w'.cell? ⟨g0, 1, none⟩ = some (.int .i64 y.m) ∧ w'.cell? ⟨g0, 2, none⟩ = some (.slice y.A y.l y.c)) ∧ (w'.cell? ⟨g1, 0, none⟩ = some (.string (strOf f.p)) ∧ w'.cell? ⟨g1, 1, none⟩ = some (.int .i64 y.k) ∧ w'.cell? ⟨g1, 2, none⟩ = some (.int .i64 y.m) ∧ w'.cell? ⟨g1, 3, none⟩ = some (.slice y.A y.l y.c))) := Lib.hid (fun w' hc => by
    have q := hc.at_ b0 (by simp)
    have r := hc.at_ b1 (by simp)
    exact ⟨⟨cell_of q 0, cell_of q 1, cell_of q 2⟩, cell_of r 0, cell_of r 1, cell_of r 2, cell_of r 3⟩)
  have HA := Lib.hid (h.chg hc (by simp))
  have HX := Lib.hid (hx.chg hc)
  have HY := Lib.hid (hy.chg hc)
  have C0 := Lib.hid hc
  have HN := Lib.hid hn
  have HS := Lib.hid hs
  have HT := Lib.hid ht
  have XL : Hid (xs.length = es.length) := Lib.hid hx.1
  have FC : Hid (∀ w', Chg [] w1 w' → Calls Tryz.prog 42 #[.agg #[.string (strOf f.p), .int .i64 y.k, .int .i64 y.m, .slice y.A y.l y.c]] w' fun r w2 => r = .returned (.bool (decide (Stands f))) ∧ Chg [] w' w2) := Lib.hid (fun w' hc2 => by
    have q := tbstands_any w' y f (hy.chg (hc.trans hc2)) ht
    rwa [hy.p] at q)
  have FE : Hid (∀ w', Chg [] w1 w' → Calls Tryz.prog 78 #[.agg #[.string (strOf f.p), .int .i64 y.k, .int .i64 y.m, .slice y.A y.l y.c]] w' fun r w2 => ∃ X : EnT, r = .returned (.agg #[.string X.p, .int .i64 X.k, .int .i64 X.m, .slice X.A X.l X.c]) ∧ EnR w2 X f ∧ OwnB w2 X.A X.c f.b ∧ (∀ a, X.A = some a → w'.heap.size ≤ a.block) ∧ Chg [] w' w2) := Lib.hid (fun w' hc2 => by
    have q := fren_any w' y f (hy.chg (hc.trans hc2)) ht.2
    rwa [hy.p] at q)
  clear hw hc b0 b1 hg0 hg1 h hx hn hs hy ht hR
  go_enter Tryz.func34, Tryz.ntmps34
  go_upto_region 2 with fail
  rw [← W1.out, G1.out, G0.out]
  clear W1
  have CK := Lib.hid (tbcheck_any w1 A c xs es HA.out HX.out (by have := HN.out; omega) HS.out)
  go_wp2_with fail
  refine CK.out.mono ?_
  rintro r w2 ⟨rfl, hc⟩
  have C := Lib.hid hc
  clear hc CK
  rcases tabE_two es with e1 | e1
  rotate_left
  · have ER : Hid (R = (2, [])) := Lib.hid (by rw [← HRR.out]; unfold putT; rw [if_pos (fun q => by rw [tabE_zero.2 q.1] at e1; cases e1)])
    rw [e1]
    clear e1
    go_wp2
    go_ret2
    rw [ER.out]
    exact ⟨none, 0, [], rfl, NsF.nil _ _ _, C0.out.trans C.out⟩
  have OK : Hid (TabOk es) := Lib.hid (tabE_zero.1 e1)
  rw [e1]
  clear e1
  obtain ⟨_, z0, z1, z2, z3⟩ := BX.out _ C.out
  go_wp2_with fail
  clear z0 z1 z2 z3
  refine (FC.out _ C.out).mono ?_
  rintro r w3 ⟨rfl, hc⟩
  replace C := Lib.hid (C.out.trans hc)
  clear hc FC
  by_cases hst : Stands f
  rotate_left
  · have ER : Hid (R = (2, [])) := Lib.hid (by rw [← HRR.out]; unfold putT; rw [if_pos (fun q => hst q.2)])
    rw [decide_eq_false hst]
    clear hst
    go_wp2
    go_ret2
    rw [ER.out]
    exact ⟨none, 0, [], rfl, NsF.nil _ _ _, C0.out.trans C.out⟩
  have ST := Lib.hid hst
  rw [decide_eq_true hst]
  clear hst
  have PX := Lib.hid (tbparent_any w3 A c xs es f.p HT.out.1 (HA.out.chg C.out (by simp)) (HX.out.chg C.out) (by have := HN.out; omega))
  go_wp2_with fail
  refine PX.out.mono ?_
  rintro r w4 ⟨rfl, hc⟩
  replace C := Lib.hid (C.out.trans hc)
  clear hc PX
  by_cases hpp : parT es f.p = 0
  rotate_left
  · have ER : Hid (R = (parT es f.p, [])) := Lib.hid (by rw [← HRR.out]; unfold putT; rw [if_neg (fun q => q ⟨OK.out, ST.out⟩), if_pos hpp])
    generalize parT es f.p = pv at *
    have h1 : ((pv == 0) : Bool) = false := by simpa using hpp
    have h2 : ((pv != 0) : Bool) = true := by unfold bne; rw [h1]; rfl
    clear hpp
    go_wp2
    go_ret2
    rw [ER.out]
    exact ⟨none, 0, [], rfl, NsF.nil _ _ _, C0.out.trans C.out⟩
  have PP := Lib.hid hpp
  rw [hpp]
  clear hpp
  obtain ⟨⟨y0, y1, y2⟩, _⟩ := BX.out _ C.out
  have LAY : Hid (R = (0, layT es f) → R = (0, layT es f)) := Lib.hid id
  have LEN200 : ((xs.length : Int) == 200) = false := by simp; have := HN.out; omega
  have LEN200b : ¬ (xs.length : Int) = 200 := by have := HN.out; omega
  by_cases hk2 : y.k = 2
  · skip
    have h1 : ((y.k == 2) : Bool) = true := by simpa using hk2
    have h3 : ((y.k != 2) : Bool) = false := by unfold bne; rw [h1]; rfl
    have NK : Hid (¬ (f.k ≠ 2 ∧ anyT es f.p = true)) := Lib.hid (fun q => q.1 (by rw [← HY.out.k]; exact hk2))
    clear hk2
    obtain ⟨wk, hwk⟩ : ∃ wk, w4 = wk := ⟨_, rfl⟩
    rw [hwk] at C y0 y1 y2 ⊢
    clear hwk
    have BIN := Lib.hid (binen_any wk A c xs es f.p (HA.out.chg C.out (by simp)) (HX.out.chg C.out) OK.out.2.1 (by have := HN.out; omega) HT.out.1 (fun e he => (HS.out e he).1))
    go_wp2_with fail
    refine BIN.out.mono ?_
    rintro r w5 ⟨i, hi, lo, hi2, rfl, hc⟩
    replace C := Lib.hid (C.out.trans hc)
    have LO := Lib.hid lo
    have HII := Lib.hid hi2
    have IL := Lib.hid hi
    clear lo hi2 hi hc BIN
    have FRS := Lib.hid (frentries_any w5 A c xs es (HA.out.chg C.out (by simp)) (HX.out.chg C.out) (by have := HN.out; omega) (fun e he => (HS.out e he).2))
    rcases hg : getT es f.p with _ | ge
    · skip
      have NEWL := Lib.hid (lay_new LO.out HII.out hg)
      clear hg
      go_wp2_with fail
      clear LEN200 LEN200b
      refine FRS.out.mono ?_
      rintro r w6 ⟨A6, c6, ys, rfl, hyl, hf, hc⟩
      have F6 := Lib.hid hf
      have YL := Lib.hid hyl
      have C56 := Lib.hid hc
      have C6 := Lib.hid (C.out.trans hc)
      clear hyl hf hc FRS
      obtain ⟨_, z0, z1, z2, z3⟩ := BX.out _ C6.out
      go_wp2_with fail
      clear z0 z1 z2 z3
      refine (FE.out _ C6.out).mono ?_
      rintro r w7 ⟨X, rfl, hR, hB, hL, hc⟩
      have XR := Lib.hid hR
      have XB := Lib.hid hB
      have XL7 := Lib.hid hL
      have C67 := Lib.hid hc
      clear hR hB hL hc FE
      obtain ⟨w8, hw, hc, b8⟩ := news1 w7 (.cells #[.string X.p, .int .i64 X.k, .int .i64 X.m, .slice X.A X.l X.c] 55)
      have W8 := Lib.hid hw
      have R8 := Lib.hid (rd_oneEn b8)
      have C78 := Lib.hid hc
      have NB : Hid (∀ a, A6 = some a → a.block ≠ w7.heap.size) := Lib.hid (fun a ha q => by have := (F6.out.rowAt a ha).2; have := C67.out.size; omega)
      have IN := Lib.hid (insen_any w8 A6 c6 ys i w7.heap.size X ((F6.out.row.chg C67.out (by simp)).chg hc (by simp)) (by rw [YL.out]; exact IL.out) (by rw [YL.out]; have := HN.out; omega) (by simpa using b8) NB.out)
      clear hw hc b8
      go_wp2_with fail
      rw [← W8.out]
      clear W8
      refine IN.out.mono ?_
      rintro r w9 ⟨A9, c9, rfl, hO, hA, hc⟩
      have O9 := Lib.hid hO
      have A9L := Lib.hid hA
      have C89 := Lib.hid hc
      clear hO hA hc IN R8 NB
      have ER : Hid (R = (0, layT es f)) := Lib.hid (by rw [← HRR.out]; unfold putT; rw [if_neg (fun q => q ⟨OK.out, ST.out⟩), if_neg (fun q => q PP.out), if_neg NK.out])
      have SZ : Hid (w5.heap.size ≤ w6.heap.size ∧ w6.heap.size ≤ w7.heap.size ∧ w7.heap.size ≤ w8.heap.size ∧ w8.heap.size ≤ w9.heap.size) := Lib.hid ⟨C56.out.size, C67.out.size, C78.out.size, C89.out.size⟩
      have NO : Hid (OwnNs w9 w5.heap.size w9.heap.size A9 (ys.take i ++ X :: ys.drop i) (layT es f)) := Lib.hid (by
        rw [NEWL.out]
        have ch := (C67.out.trans C78.out)
        have a1 := (F6.out.all.chg ch (by simp)).chg C89.out (fun j hj _ => by obtain ⟨b, hb, e⟩ := of_blkOf hj; exact ⟨b, hb, e⟩)
        have s := SZ.out
        refine (a1.row (G' := A9) (fun a ha => (A9L.out a ha).imp id (fun q => by omega))).mid (by rw [YL.out]; exact IL.out) (Nat.le_refl _) ⟨by omega, by omega⟩ ((XR.out.chg C78.out).chgS C89.out (fun a ha q => ?_)) ((XB.out.chg C78.out (by simp)).chg C89.out (fun a ha q => ?_)) (fun q hq => ⟨?_, ?_, fun b hb e => ?_⟩)
        · obtain ⟨b, hb, e⟩ := of_blkOf q; have := XL7.out a ha; have := (F6.out.rowAt b hb).2; omega
        · obtain ⟨b, hb, e⟩ := of_blkOf q; have := XL7.out a ha; have := (F6.out.rowAt b hb).2; omega
        · exact XL7.out q hq
        · have := XB.out.lt q hq; omega
        · have a := XL7.out q hq
          have l := XB.out.lt q hq
          rcases A9L.out b hb with r | r
          · have := (F6.out.rowAt b r).2; omega
          · omega)
      have NL : Hid (ys.length + 1 = (ys.take i ++ X :: ys.drop i).length) := Lib.hid (by have := IL.out; have := YL.out; simp; omega)
      obtain ⟨zs, hzs⟩ : ∃ zs, ys.take i ++ X :: ys.drop i = zs := ⟨_, rfl⟩
      rw [hzs] at NL NO O9
      clear hzs
      rw [NL.out]
      go_wp2
      go_ret2
      rw [ER.out]
      refine ⟨A9, c9, zs, rfl, ⟨O9.out, fun a ha => ⟨?_, O9.out.lt_ a ha⟩, NO.out.low (C0.out.trans C.out).size⟩, ?_⟩
      · have := (C0.out.trans C.out).size
        rcases A9L.out a ha with r | r
        · have := (F6.out.rowAt a r).1; omega
        · have := SZ.out; omega
      · exact ((C0.out.trans C6.out).trans (C67.out.trans C78.out)).trans' C89.out (fun j hj => by obtain ⟨b, hb, e⟩ := of_blkOf hj; have := (F6.out.rowAt b hb).1; have := (C0.out.trans C.out).size; exact .inr (by omega))
    · skip
      have NEWL := Lib.hid (lay_there OK.out.2.1 LO.out HII.out hg)
      clear hg
      go_wp2_with fail
      clear LEN200 LEN200b
      refine FRS.out.mono ?_
      rintro r w6 ⟨A6, c6, ys, rfl, hyl, hf, hc⟩
      have F6 := Lib.hid hf
      have YL := Lib.hid hyl
      have C56 := Lib.hid hc
      have C6 := Lib.hid (C.out.trans hc)
      clear hyl hf hc FRS
      obtain ⟨_, z0, z1, z2, z3⟩ := BX.out _ C6.out
      go_wp2_with fail
      clear z0 z1 z2 z3
      refine (FE.out _ C6.out).mono ?_
      rintro r w7 ⟨X, rfl, hR, hB, hL, hc⟩
      have XR := Lib.hid hR
      have XB := Lib.hid hB
      have XL7 := Lib.hid hL
      have C67 := Lib.hid hc
      clear hR hB hL hc FE

      have IL3 : Hid (i < ys.length) := Lib.hid (by rw [YL.out, XL.out]; exact (List.getElem?_eq_some_iff.1 NEWL.out.1).1)
      have ylp : 0 < ys.length := by have := IL3.out; omega
      obtain ⟨g6, rfl⟩ : ∃ g6, A6 = some ⟨g6, 0, none⟩ := by
        rcases F6.out.row with ⟨a, b, _⟩ | ⟨g, full, a, _⟩
        · rw [b] at ylp; simp at ylp
        · exact ⟨g, a⟩
      obtain ⟨yi, hyi⟩ : ∃ yi, ys[i]? = some yi := ⟨_, List.getElem?_eq_getElem IL3.out⟩
      have RW := F6.out.row.chg C67.out (by simp)
      obtain ⟨z0, z1, z2, z3⟩ := enCells (o := 0) RW.reads hyi
      have hgc := RW
      rcases hgc with ⟨a, _⟩ | ⟨g', full, ea, hgb, hfl, hcm, hnc, hft⟩
      · cases a
      cases ea
      have f0 := free_of hgb
      have k0 : (0 : Int) ≤ (i : Int) := by omega
      have k1 : (i : Int) < (ys.length : Int) := by have := IL3.out; omega
      have OST := Lib.hid (RW.setn4 i yi X hyi)
      have GB := Lib.hid (F6.out.rowAt _ rfl)
      clear ylp hyi RW hfl hcm hnc hft hgb
      simp only [Nat.zero_add] at z0 z1 z2 z3
      go_wp2
      clear z0 z1 z2 z3 f0
      have CST := (Chg.refl [g6] w7).setn4 (g := g6) (.inl (by simp)) (i * 4) (.string X.p) (.int .i64 X.k) (.int .i64 X.m) (.slice X.A X.l X.c)
      obtain ⟨w9, hW⟩ : ∃ w9 : World, ((((w7.setCell ⟨g6, i * 4, none⟩ (.string X.p)).setCell ⟨g6, i * 4 + 1, none⟩ (.int .i64 X.k)).setCell ⟨g6, i * 4 + 2, none⟩ (.int .i64 X.m)).setCell ⟨g6, i * 4 + 3, none⟩ (.slice X.A X.l X.c)) = w9 := ⟨_, rfl⟩
      rw [hW] at CST OST ⊢
      have C79 := Lib.hid CST
      clear CST hW
      have ER : Hid (R = (0, layT es f)) := Lib.hid (by rw [← HRR.out]; unfold putT; rw [if_neg (fun q => q ⟨OK.out, ST.out⟩), if_neg (fun q => q PP.out), if_neg NK.out])
      have SZ : Hid (w5.heap.size ≤ w6.heap.size ∧ w6.heap.size ≤ w7.heap.size ∧ w7.heap.size ≤ w9.heap.size) := Lib.hid ⟨C56.out.size, C67.out.size, C79.out.size⟩
      have NO : Hid (OwnNs w9 w5.heap.size w9.heap.size (some ⟨g6, 0, none⟩) (ys.set i X) (layT es f)) := Lib.hid (by
        rw [NEWL.out.2, set_mid IL3.out, set_mid (show i < es.length by have := IL3.out; rw [YL.out, XL.out] at this; exact this)]
        have a1 := (F6.out.all.chg C67.out (by simp)).chg C79.out (fun j hj _ => by simp at hj; exact ⟨_, rfl, hj.symm⟩)
        have s := SZ.out
        refine a1.mid (Nat.le_of_lt IL3.out) (Nat.le_succ _) ⟨by omega, by omega⟩ (XR.out.chgS C79.out (fun a ha q => ?_)) (XB.out.chg C79.out (fun a ha q => ?_)) (fun q hq => ⟨XL7.out q hq, ?_, fun b hb e => ?_⟩)
        · simp at q; have := XL7.out a ha; have := GB.out.2; (try simp at this); omega
        · simp at q; have := XL7.out a ha; have := GB.out.2; (try simp at this); omega
        · have := XB.out.lt q hq; omega
        · cases hb; have := XL7.out q hq; have := GB.out.2; (try simp at this); simp at e; omega)
      have NL : Hid (ys.length = (ys.set i X).length) := Lib.hid (by simp)
      obtain ⟨zs, hzs⟩ : ∃ zs, ys.set i X = zs := ⟨_, rfl⟩
      rw [hzs] at NL NO OST
      clear hzs
      rw [NL.out]
      go_wp2
      go_ret2
      rw [ER.out]
      refine ⟨some ⟨g6, 0, none⟩, c6, zs, rfl, ⟨OST.out, fun a ha => ⟨?_, OST.out.lt_ a ha⟩, NO.out.low (C0.out.trans C.out).size⟩, ?_⟩
      · have := (C0.out.trans C.out).size
        have := (F6.out.rowAt a ha).1
        omega
      · exact ((C0.out.trans C6.out).trans C67.out).trans' C79.out (fun j hj => by simp at hj; subst hj; have := GB.out.1; (try simp at this); have := (C0.out.trans C.out).size; exact .inr (by omega))
  · skip
    have h1 : ((y.k == 2) : Bool) = false := by simpa using hk2
    have h3 : ((y.k != 2) : Bool) = true := by unfold bne; rw [h1]; rfl
    have FK : Hid (f.k ≠ 2) := Lib.hid (by rw [← HY.out.k]; exact hk2)
    clear hk2
    have AX := Lib.hid (tbany_any w4 A c xs es f.p HT.out.1 (HA.out.chg C.out (by simp)) (HX.out.chg C.out) (by have := HN.out; omega) (fun e he => (HS.out e he).1))
    go_wp2_with fail
    clear y0 y1 y2
    refine AX.out.mono ?_
    rintro r wk ⟨rfl, hc⟩
    replace C := Lib.hid (C.out.trans hc)
    clear hc AX
    rcases hany : anyT es f.p with _ | _
    rotate_left
    · have ER : Hid (R = (12, [])) := Lib.hid (by rw [← HRR.out]; unfold putT; rw [if_neg (fun q => q ⟨OK.out, ST.out⟩), if_neg (fun q => q PP.out), if_pos ⟨FK.out, hany⟩])
      clear hany
      go_wp2
      go_ret2
      rw [ER.out]
      exact ⟨none, 0, [], rfl, NsF.nil _ _ _, C0.out.trans C.out⟩
    have NK : Hid (¬ (f.k ≠ 2 ∧ anyT es f.p = true)) := Lib.hid (fun q => by rw [hany] at q; cases q.2)
    clear hany
    have BIN := Lib.hid (binen_any wk A c xs es f.p (HA.out.chg C.out (by simp)) (HX.out.chg C.out) OK.out.2.1 (by have := HN.out; omega) HT.out.1 (fun e he => (HS.out e he).1))
    go_wp2_with fail
    refine BIN.out.mono ?_
    rintro r w5 ⟨i, hi, lo, hi2, rfl, hc⟩
    replace C := Lib.hid (C.out.trans hc)
    have LO := Lib.hid lo
    have HII := Lib.hid hi2
    have IL := Lib.hid hi
    clear lo hi2 hi hc BIN
    have FRS := Lib.hid (frentries_any w5 A c xs es (HA.out.chg C.out (by simp)) (HX.out.chg C.out) (by have := HN.out; omega) (fun e he => (HS.out e he).2))
    rcases hg : getT es f.p with _ | ge
    · skip
      have NEWL := Lib.hid (lay_new LO.out HII.out hg)
      clear hg
      go_wp2_with fail
      clear LEN200 LEN200b
      refine FRS.out.mono ?_
      rintro r w6 ⟨A6, c6, ys, rfl, hyl, hf, hc⟩
      have F6 := Lib.hid hf
      have YL := Lib.hid hyl
      have C56 := Lib.hid hc
      have C6 := Lib.hid (C.out.trans hc)
      clear hyl hf hc FRS
      obtain ⟨_, z0, z1, z2, z3⟩ := BX.out _ C6.out
      go_wp2_with fail
      clear z0 z1 z2 z3
      refine (FE.out _ C6.out).mono ?_
      rintro r w7 ⟨X, rfl, hR, hB, hL, hc⟩
      have XR := Lib.hid hR
      have XB := Lib.hid hB
      have XL7 := Lib.hid hL
      have C67 := Lib.hid hc
      clear hR hB hL hc FE
      obtain ⟨w8, hw, hc, b8⟩ := news1 w7 (.cells #[.string X.p, .int .i64 X.k, .int .i64 X.m, .slice X.A X.l X.c] 55)
      have W8 := Lib.hid hw
      have R8 := Lib.hid (rd_oneEn b8)
      have C78 := Lib.hid hc
      have NB : Hid (∀ a, A6 = some a → a.block ≠ w7.heap.size) := Lib.hid (fun a ha q => by have := (F6.out.rowAt a ha).2; have := C67.out.size; omega)
      have IN := Lib.hid (insen_any w8 A6 c6 ys i w7.heap.size X ((F6.out.row.chg C67.out (by simp)).chg hc (by simp)) (by rw [YL.out]; exact IL.out) (by rw [YL.out]; have := HN.out; omega) (by simpa using b8) NB.out)
      clear hw hc b8
      go_wp2_with fail
      rw [← W8.out]
      clear W8
      refine IN.out.mono ?_
      rintro r w9 ⟨A9, c9, rfl, hO, hA, hc⟩
      have O9 := Lib.hid hO
      have A9L := Lib.hid hA
      have C89 := Lib.hid hc
      clear hO hA hc IN R8 NB
      have ER : Hid (R = (0, layT es f)) := Lib.hid (by rw [← HRR.out]; unfold putT; rw [if_neg (fun q => q ⟨OK.out, ST.out⟩), if_neg (fun q => q PP.out), if_neg NK.out])
      have SZ : Hid (w5.heap.size ≤ w6.heap.size ∧ w6.heap.size ≤ w7.heap.size ∧ w7.heap.size ≤ w8.heap.size ∧ w8.heap.size ≤ w9.heap.size) := Lib.hid ⟨C56.out.size, C67.out.size, C78.out.size, C89.out.size⟩
      have NO : Hid (OwnNs w9 w5.heap.size w9.heap.size A9 (ys.take i ++ X :: ys.drop i) (layT es f)) := Lib.hid (by
        rw [NEWL.out]
        have ch := (C67.out.trans C78.out)
        have a1 := (F6.out.all.chg ch (by simp)).chg C89.out (fun j hj _ => by obtain ⟨b, hb, e⟩ := of_blkOf hj; exact ⟨b, hb, e⟩)
        have s := SZ.out
        refine (a1.row (G' := A9) (fun a ha => (A9L.out a ha).imp id (fun q => by omega))).mid (by rw [YL.out]; exact IL.out) (Nat.le_refl _) ⟨by omega, by omega⟩ ((XR.out.chg C78.out).chgS C89.out (fun a ha q => ?_)) ((XB.out.chg C78.out (by simp)).chg C89.out (fun a ha q => ?_)) (fun q hq => ⟨?_, ?_, fun b hb e => ?_⟩)
        · obtain ⟨b, hb, e⟩ := of_blkOf q; have := XL7.out a ha; have := (F6.out.rowAt b hb).2; omega
        · obtain ⟨b, hb, e⟩ := of_blkOf q; have := XL7.out a ha; have := (F6.out.rowAt b hb).2; omega
        · exact XL7.out q hq
        · have := XB.out.lt q hq; omega
        · have a := XL7.out q hq
          have l := XB.out.lt q hq
          rcases A9L.out b hb with r | r
          · have := (F6.out.rowAt b r).2; omega
          · omega)
      have NL : Hid (ys.length + 1 = (ys.take i ++ X :: ys.drop i).length) := Lib.hid (by have := IL.out; have := YL.out; simp; omega)
      obtain ⟨zs, hzs⟩ : ∃ zs, ys.take i ++ X :: ys.drop i = zs := ⟨_, rfl⟩
      rw [hzs] at NL NO O9
      clear hzs
      rw [NL.out]
      go_wp2
      go_ret2
      rw [ER.out]
      refine ⟨A9, c9, zs, rfl, ⟨O9.out, fun a ha => ⟨?_, O9.out.lt_ a ha⟩, NO.out.low (C0.out.trans C.out).size⟩, ?_⟩
      · have := (C0.out.trans C.out).size
        rcases A9L.out a ha with r | r
        · have := (F6.out.rowAt a r).1; omega
        · have := SZ.out; omega
      · exact ((C0.out.trans C6.out).trans (C67.out.trans C78.out)).trans' C89.out (fun j hj => by obtain ⟨b, hb, e⟩ := of_blkOf hj; have := (F6.out.rowAt b hb).1; have := (C0.out.trans C.out).size; exact .inr (by omega))
    · skip
      have NEWL := Lib.hid (lay_there OK.out.2.1 LO.out HII.out hg)
      clear hg
      go_wp2_with fail
      clear LEN200 LEN200b
      refine FRS.out.mono ?_
      rintro r w6 ⟨A6, c6, ys, rfl, hyl, hf, hc⟩
      have F6 := Lib.hid hf
      have YL := Lib.hid hyl
      have C56 := Lib.hid hc
      have C6 := Lib.hid (C.out.trans hc)
      clear hyl hf hc FRS
      obtain ⟨_, z0, z1, z2, z3⟩ := BX.out _ C6.out
      go_wp2_with fail
      clear z0 z1 z2 z3
      refine (FE.out _ C6.out).mono ?_
      rintro r w7 ⟨X, rfl, hR, hB, hL, hc⟩
      have XR := Lib.hid hR
      have XB := Lib.hid hB
      have XL7 := Lib.hid hL
      have C67 := Lib.hid hc
      clear hR hB hL hc FE

      have IL3 : Hid (i < ys.length) := Lib.hid (by rw [YL.out, XL.out]; exact (List.getElem?_eq_some_iff.1 NEWL.out.1).1)
      have ylp : 0 < ys.length := by have := IL3.out; omega
      obtain ⟨g6, rfl⟩ : ∃ g6, A6 = some ⟨g6, 0, none⟩ := by
        rcases F6.out.row with ⟨a, b, _⟩ | ⟨g, full, a, _⟩
        · rw [b] at ylp; simp at ylp
        · exact ⟨g, a⟩
      obtain ⟨yi, hyi⟩ : ∃ yi, ys[i]? = some yi := ⟨_, List.getElem?_eq_getElem IL3.out⟩
      have RW := F6.out.row.chg C67.out (by simp)
      obtain ⟨z0, z1, z2, z3⟩ := enCells (o := 0) RW.reads hyi
      have hgc := RW
      rcases hgc with ⟨a, _⟩ | ⟨g', full, ea, hgb, hfl, hcm, hnc, hft⟩
      · cases a
      cases ea
      have f0 := free_of hgb
      have k0 : (0 : Int) ≤ (i : Int) := by omega
      have k1 : (i : Int) < (ys.length : Int) := by have := IL3.out; omega
      have OST := Lib.hid (RW.setn4 i yi X hyi)
      have GB := Lib.hid (F6.out.rowAt _ rfl)
      clear ylp hyi RW hfl hcm hnc hft hgb
      simp only [Nat.zero_add] at z0 z1 z2 z3
      go_wp2
      clear z0 z1 z2 z3 f0
      have CST := (Chg.refl [g6] w7).setn4 (g := g6) (.inl (by simp)) (i * 4) (.string X.p) (.int .i64 X.k) (.int .i64 X.m) (.slice X.A X.l X.c)
      obtain ⟨w9, hW⟩ : ∃ w9 : World, ((((w7.setCell ⟨g6, i * 4, none⟩ (.string X.p)).setCell ⟨g6, i * 4 + 1, none⟩ (.int .i64 X.k)).setCell ⟨g6, i * 4 + 2, none⟩ (.int .i64 X.m)).setCell ⟨g6, i * 4 + 3, none⟩ (.slice X.A X.l X.c)) = w9 := ⟨_, rfl⟩
      rw [hW] at CST OST ⊢
      have C79 := Lib.hid CST
      clear CST hW
      have ER : Hid (R = (0, layT es f)) := Lib.hid (by rw [← HRR.out]; unfold putT; rw [if_neg (fun q => q ⟨OK.out, ST.out⟩), if_neg (fun q => q PP.out), if_neg NK.out])
      have SZ : Hid (w5.heap.size ≤ w6.heap.size ∧ w6.heap.size ≤ w7.heap.size ∧ w7.heap.size ≤ w9.heap.size) := Lib.hid ⟨C56.out.size, C67.out.size, C79.out.size⟩
      have NO : Hid (OwnNs w9 w5.heap.size w9.heap.size (some ⟨g6, 0, none⟩) (ys.set i X) (layT es f)) := Lib.hid (by
        rw [NEWL.out.2, set_mid IL3.out, set_mid (show i < es.length by have := IL3.out; rw [YL.out, XL.out] at this; exact this)]
        have a1 := (F6.out.all.chg C67.out (by simp)).chg C79.out (fun j hj _ => by simp at hj; exact ⟨_, rfl, hj.symm⟩)
        have s := SZ.out
        refine a1.mid (Nat.le_of_lt IL3.out) (Nat.le_succ _) ⟨by omega, by omega⟩ (XR.out.chgS C79.out (fun a ha q => ?_)) (XB.out.chg C79.out (fun a ha q => ?_)) (fun q hq => ⟨XL7.out q hq, ?_, fun b hb e => ?_⟩)
        · simp at q; have := XL7.out a ha; have := GB.out.2; (try simp at this); omega
        · simp at q; have := XL7.out a ha; have := GB.out.2; (try simp at this); omega
        · have := XB.out.lt q hq; omega
        · cases hb; have := XL7.out q hq; have := GB.out.2; (try simp at this); simp at e; omega)
      have NL : Hid (ys.length = (ys.set i X).length) := Lib.hid (by simp)
      obtain ⟨zs, hzs⟩ : ∃ zs, ys.set i X = zs := ⟨_, rfl⟩
      rw [hzs] at NL NO OST
      clear hzs
      rw [NL.out]
      go_wp2
      go_ret2
      rw [ER.out]
      refine ⟨some ⟨g6, 0, none⟩, c6, zs, rfl, ⟨OST.out, fun a ha => ⟨?_, OST.out.lt_ a ha⟩, NO.out.low (C0.out.trans C.out).size⟩, ?_⟩
      · have := (C0.out.trans C.out).size
        have := (F6.out.rowAt a ha).1
        omega
      · exact ((C0.out.trans C6.out).trans C67.out).trans' C79.out (fun j hj => by simp at hj; subst hj; have := GB.out.1; (try simp at this); have := (C0.out.trans C.out).size; exact .inr (by omega))
end
section
open Go.RowKit
set_option linter.unusedSimpArgs false
set_option linter.unusedVariables false
set_option maxRecDepth 100000 in
set_option maxHeartbeats 4000000 in
theorem qhless_any (w : World) (a b : List UInt8) (ha : a.length ≤ 10000000) (hb : b.length ≤ 10000000) :
    Calls Tryz.prog 46 #[.string (strOf a), .string (strOf b)] w fun e w' => e = .returned (.bool (lessL a b)) ∧ Chg [] w w' := by
  have S1 := Lib.hid (fun w => qcut_any w a ha)
  have S2 := Lib.hid (fun w => qcut_any w b hb)
  have L1 := Lib.hid (show (cutL a).length ≤ 100000000 by have := cutA_len a []; show (cutA [] a).length ≤ _; omega)
  have L2 := Lib.hid (show (cutL b).length ≤ 100000000 by have := cutA_len b []; show (cutA [] b).length ≤ _; omega)
  unfold lessL
  generalize cutL a = xs at *
  generalize cutL b = ys at *
  obtain ⟨R, hR⟩ : ∃ R, cmpT xs ys = R := ⟨_, rfl⟩
  rw [hR]
  have HR := Lib.hid hR
  clear hR
  go_enter Tryz.func46, Tryz.ntmps46
  go_wp2_with fail
  refine (S1.out _).mono ?_
  rintro e w1 ⟨A, c, rfl, o1, _, hc1⟩
  have O1 := Lib.hid o1
  have C1 := Lib.hid hc1
  clear o1 hc1
  go_wp2_with fail
  refine (S2.out _).mono ?_
  rintro e w2 ⟨B, d, rfl, o2, _, hc2⟩
  have HA := Lib.hid (O1.out.chg hc2 (by simp)).reads
  have HB := Lib.hid o2.reads
  have C2 := Lib.hid (C1.out.trans hc2)
  clear o2 hc2
  have hx := L1.out
  have hy := L2.out
  go_wp2
  go_loopw [7] (fun v7 wr => ∃ k : Nat, k ≤ xs.length ∧ k ≤ ys.length ∧ v7 = .int .i64 (k : Int) ∧ Hid (cmpT (xs.drop k) (ys.drop k) = R) ∧ Hid (Chg [] w2 wr)) (fun v7 _ => xs.length - (RowKit.intOf v7).toNat)
  case atStart => exact ⟨0, Nat.zero_le _, Nat.zero_le _, rfl, HR, Chg.refl _ _⟩
  case round =>
    obtain ⟨k, hk, hk2, rfl, HC, HI⟩ := hrel
    have k1 : IntKind.i64.wrap ((k : Int) + 1) = (k : Int) + 1 := IntWalk.i64_in _ (by omega)
    have i0 : (0 : Int) ≤ (k : Int) := by omega
    by_cases hlt : k < xs.length
    · have i1 : (k : Int) < (xs.length : Int) := by omega
      by_cases hlt2 : k < ys.length
      · have i2 : (k : Int) < (ys.length : Int) := by omega
        obtain ⟨g, o, eA, _⟩ := HA.out.line (by omega)
        subst eA
        obtain ⟨g2, o2, eB, _⟩ := HB.out.line (by omega)
        subst eB
        have ex := List.getElem?_eq_getElem hlt
        have z := textCells (HA.out.chg HI.out (by simp)) ex
        have ey := List.getElem?_eq_getElem hlt2
        have z2 := textCells (HB.out.chg HI.out (by simp)) ey
        have HT := Lib.hid (cmpT_at xs ys k hlt hlt2)
        generalize xs[k] = x at *
        generalize ys[k] = y at *
        clear ex ey
        by_cases hxy : x = y
        · subst hxy
          have HQ := Lib.hid (HC.out.symm.trans (HT.out.trans (if_pos (cb_self x))))
          have h1 : (x == x) = true := by simp
          go_wp2
          go_quiet (fail)
          go_wp2
          exact ⟨⟨k + 1, by omega, by omega, by simp, Lib.hid HQ.out.symm, Lib.hid (HI.out.drewN _)⟩, by simp [RowKit.intOf]; omega⟩
        · have hcb : ¬ Lib.compareBytes x y = 0 := fun e => hxy (cb_zero x y e)
          have HQ := Lib.hid (HC.out.symm.trans (HT.out.trans (if_neg hcb)))
          have h1 : (x == y) = false := by simpa using hxy
          have h2 := str_ne hxy
          have HL := Lib.hid (cb_less x y)
          clear hcb
          go_wp2
          go_quiet (fail)
          go_wp2
          go_quiet (fail)
          go_wp2
          go_ret
          exact ⟨congrArg (fun v => Ending.returned (Value.bool v)) (by rw [HL.out, HQ.out]), ((C2.out.trans HI.out).drewN _).drewN _⟩
      · have i2 : ¬ ((k : Int) < (ys.length : Int)) := by omega
        have i4 : ¬ ((xs.length : Int) < (ys.length : Int)) := by omega
        have HQ := Lib.hid (HC.out.symm.trans (cmpT_end1 xs ys k hlt (by omega)))
        go_wp2
        go_ret
        exact ⟨by rw [HQ.out]; rfl, C2.out.trans HI.out⟩
    · have i1 : ¬ ((k : Int) < (xs.length : Int)) := by omega
      by_cases hl2 : xs.length < ys.length
      · have i4 : (xs.length : Int) < (ys.length : Int) := by omega
        have HQ := Lib.hid (HC.out.symm.trans (cmpT_endm xs ys k (by omega) (by omega)))
        go_wp2
        go_ret
        exact ⟨by rw [HQ.out]; rfl, C2.out.trans HI.out⟩
      · have i4 : ¬ ((xs.length : Int) < (ys.length : Int)) := by omega
        have HQ := Lib.hid (HC.out.symm.trans (cmpT_end0 xs ys k (by omega) (by omega)))
        go_wp2
        go_ret
        exact ⟨by rw [HQ.out]; rfl, C2.out.trans HI.out⟩
end
section
open Go.RowKit Go.Lib
set_option linter.unusedSimpArgs false
set_option linter.unusedVariables false


def sameX (k m : Int) (xs : List UInt8) (k' m' : Int) (ys : List UInt8) : Bool := decide (k = k' ∧ m = m') && (xs == ys)
theorem strOf_ne {a b : List UInt8} (h : a ≠ b) : (strOf a == strOf b) = false := by
  cases q : strOf a == strOf b with
  | false => rfl
  | true =>
    have q2 : (a.toArray == b.toArray) = true := q
    exact absurd (by simpa using q2) h
theorem strOf_ne2 {a b : List UInt8} (h : a ≠ b) : ¬ strOf a = strOf b := fun q => h (strOf_inj q)

set_option maxRecDepth 100000 in
set_option maxHeartbeats 4000000 in
theorem sameeff_0 (w : World) (k m k' m' : Int) (A B : Option Addr) (n c n2 c2 : Nat) (xs ys : List UInt8) (h : Bs w A n xs) (h2 : Bs w B n2 ys) (hne : k ≠ k') :
    Calls Tryz.prog 17 #[.agg #[.int .i64 k, .int .i64 m, .slice A n c], .agg #[.int .i64 k', .int .i64 m', .slice B n2 c2]] w fun r w' => r = .returned (.bool false) ∧ Chg [] w w' := by
  obtain ⟨w2, hw, hc, b0, b1⟩ := news2 w (.cells #[.int .i64 k, .int .i64 m, .slice A n c] 25) (.cells #[.int .i64 k', .int .i64 m', .slice B n2 c2] 25)
  have W2 := Lib.hid hw
  have C := Lib.hid hc
  have H := Lib.hid (h.chg hc (by simp))
  have H2 := Lib.hid (h2.chg hc (by simp))
  have e1 : (k == k') = false := beq_eq_false_iff_ne.2 hne
  clear hne
  clear hw hc h h2
  go_enter Tryz.func17, Tryz.ntmps17
  go_upto_region 1 with fail
  rw [← W2.out]
  generalize w.heap.size + 1 = g1 at *
  generalize w.heap.size = g0 at *
  have z0 := cell_of b0 0
  have z1 := cell_of b0 1
  have z2 := cell_of b0 2
  have y0 := cell_of b1 0
  have y1 := cell_of b1 1
  have y2 := cell_of b1 2
  simp only [List.getElem?_toArray, List.getElem?_cons_succ, List.getElem?_cons_zero] at z0 z1 z2 y0 y1 y2
  clear b0 b1
  go_wp2
  go_ret
  exact ⟨rfl, C.out⟩
set_option maxRecDepth 100000 in
set_option maxHeartbeats 4000000 in
theorem sameeff_1 (w : World) (k m m' : Int) (A B : Option Addr) (n c n2 c2 : Nat) (xs ys : List UInt8) (h : Bs w A n xs) (h2 : Bs w B n2 ys) (hne : m ≠ m') :
    Calls Tryz.prog 17 #[.agg #[.int .i64 k, .int .i64 m, .slice A n c], .agg #[.int .i64 k, .int .i64 m', .slice B n2 c2]] w fun r w' => r = .returned (.bool false) ∧ Chg [] w w' := by
  obtain ⟨w2, hw, hc, b0, b1⟩ := news2 w (.cells #[.int .i64 k, .int .i64 m, .slice A n c] 25) (.cells #[.int .i64 k, .int .i64 m', .slice B n2 c2] 25)
  have W2 := Lib.hid hw
  have C := Lib.hid hc
  have H := Lib.hid (h.chg hc (by simp))
  have H2 := Lib.hid (h2.chg hc (by simp))
  have e2 : (m == m') = false := beq_eq_false_iff_ne.2 hne
  clear hne
  clear hw hc h h2
  go_enter Tryz.func17, Tryz.ntmps17
  go_upto_region 1 with fail
  rw [← W2.out]
  generalize w.heap.size + 1 = g1 at *
  generalize w.heap.size = g0 at *
  have z0 := cell_of b0 0
  have z1 := cell_of b0 1
  have z2 := cell_of b0 2
  have y0 := cell_of b1 0
  have y1 := cell_of b1 1
  have y2 := cell_of b1 2
  simp only [List.getElem?_toArray, List.getElem?_cons_succ, List.getElem?_cons_zero] at z0 z1 z2 y0 y1 y2
  clear b0 b1
  go_wp2
  go_ret
  exact ⟨rfl, C.out⟩
set_option maxRecDepth 100000 in
set_option maxHeartbeats 4000000 in
theorem sameeff_2 (w : World) (k m : Int) (A B : Option Addr) (n c n2 c2 : Nat) (xs ys : List UInt8) (h : Bs w A n xs) (h2 : Bs w B n2 ys) :
    Calls Tryz.prog 17 #[.agg #[.int .i64 k, .int .i64 m, .slice A n c], .agg #[.int .i64 k, .int .i64 m, .slice B n2 c2]] w fun r w' => r = .returned (.bool (xs == ys)) ∧ Chg [] w w' := by
  obtain ⟨w2, hw, hc, b0, b1⟩ := news2 w (.cells #[.int .i64 k, .int .i64 m, .slice A n c] 25) (.cells #[.int .i64 k, .int .i64 m, .slice B n2 c2] 25)
  have W2 := Lib.hid hw
  have C := Lib.hid hc
  have H := Lib.hid (h.chg hc (by simp))
  have H2 := Lib.hid (h2.chg hc (by simp))
  generalize hv : (xs == ys) = v
  have HV := Lib.hid hv
  clear hv
  clear hw hc h h2
  go_enter Tryz.func17, Tryz.ntmps17
  go_upto_region 1 with fail
  rw [← W2.out]
  generalize w.heap.size + 1 = g1 at *
  generalize w.heap.size = g0 at *
  have z0 := cell_of b0 0
  have z1 := cell_of b0 1
  have z2 := cell_of b0 2
  have y0 := cell_of b1 0
  have y1 := cell_of b1 1
  have y2 := cell_of b1 2
  simp only [List.getElem?_toArray, List.getElem?_cons_succ, List.getElem?_cons_zero] at z0 z1 z2 y0 y1 y2
  clear b0 b1
  go_wp2_with fail
  clear z0 z1 z2 y0 y1 y2
  refine (same_any w2 A B n n2 c c2 xs ys H.out H2.out).mono ?_
  rintro r w3 ⟨rfl, rfl⟩
  rw [HV.out]
  rcases v with _ | _
  all_goals (clear HV; go_wp2; go_ret; exact ⟨rfl, C.out⟩)
theorem sameeff_any (w : World) (k m k' m' : Int) (A B : Option Addr) (n c n2 c2 : Nat) (xs ys : List UInt8) (h : Bs w A n xs) (h2 : Bs w B n2 ys) :
    Calls Tryz.prog 17 #[.agg #[.int .i64 k, .int .i64 m, .slice A n c], .agg #[.int .i64 k', .int .i64 m', .slice B n2 c2]] w fun r w' => r = .returned (.bool (sameX k m xs k' m' ys)) ∧ Chg [] w w' := by
  unfold sameX
  by_cases hk : k = k'
  · subst hk
    by_cases hm : m = m'
    · subst hm
      have q := sameeff_2 w k m A B n c n2 c2 xs ys h h2
      simpa using q
    · have q := sameeff_1 w k m m' A B n c n2 c2 xs ys h h2 hm
      simpa [hm] using q
  · have q := sameeff_0 w k m k' m' A B n c n2 c2 xs ys h h2 hk
    simpa [hk] using q
end
section
open Go.RowKit Go.Lib
set_option linter.unusedSimpArgs false
set_option linter.unusedVariables false

def doneN (f : EnP) (d : Bool) (x : EnP) : Bool := d || !lessL x.p f.p
def midN (f : EnP) (st : Bool × List EnP) (x : EnP) : List EnP := if (!st.1 && !lessL x.p f.p) = true then st.2 ++ [f] else st.2
/-- One step of the document's way through a store. -/
def stepN (f : EnP) (st : Bool × List EnP) (x : EnP) : Bool × List EnP := (doneN f st.1 x, if x.p = f.p then midN f st x else midN f st x ++ [x])
theorem stepN_done (f : EnP) : ∀ (es acc : List EnP), es.foldl (stepN f) (true, acc) = (true, acc ++ es.filter (fun x => !decide (x.p = f.p)))
  | [], acc => by simp
  | x :: l, acc => by
    rw [List.foldl_cons]
    have e : stepN f (true, acc) x = (true, acc ++ [x].filter (fun x => !decide (x.p = f.p))) := by
      unfold stepN doneN midN
      by_cases q : x.p = f.p <;> simp [q]
    rw [e, stepN_done f l, List.append_assoc, ← List.filter_append]
    rfl
def endN (f : EnP) (r : Bool × List EnP) : List EnP := if r.1 = true then r.2 else r.2 ++ [f]
theorem stepN_put (f : EnP) : ∀ (es acc : List EnP), es.Pairwise ltT → endN f (es.foldl (stepN f) (false, acc)) = acc ++ (es.filter (fun x => lessL x.p f.p) ++ ([f] ++ es.filter (fun x => lessL f.p x.p)))
  | [], acc, _ => by simp [endN]
  | x :: l, acc, h => by
    rw [List.foldl_cons]
    have hl := (List.pairwise_cons.1 h).2
    have hx := (List.pairwise_cons.1 h).1
    rcases q : lessL x.p f.p with _ | _
    · have e : stepN f (false, acc) x = (true, (acc ++ [f]) ++ [x].filter (fun x => !decide (x.p = f.p))) := by
        unfold stepN doneN midN
        by_cases t : x.p = f.p <;> simp [q, t, less_self]
      have nl : ∀ y ∈ x :: l, lessL y.p f.p = false := by
        intro y hy
        rcases List.mem_cons.1 hy with r | r
        · rw [r]; exact q
        · have a := hx y r
          rcases b : lessL y.p f.p with _ | _
          · rfl
          · rw [less_trans _ _ _ a b] at q; cases q
      have f1 : (x :: l).filter (fun x => lessL x.p f.p) = [] := List.filter_eq_nil_iff.2 (fun y hy => by rw [nl y hy]; decide)
      have f2 : (x :: l).filter (fun x => !decide (x.p = f.p)) = (x :: l).filter (fun x => lessL f.p x.p) := List.filter_congr (fun y hy => by
        rcases less_tri y.p f.p with a | a | a
        · rw [a, less_self]; simp
        · rw [nl y hy] at a; cases a
        · rw [a]
          have : ¬ y.p = f.p := fun b => less_ne a b.symm
          simp [this])
      rw [e, stepN_done f l, List.append_assoc, ← List.filter_append]
      show endN f (true, acc ++ [f] ++ (x :: l).filter (fun x => !decide (x.p = f.p))) = _
      rw [f1, f2]
      simp [endN]
    · have ne : ¬ x.p = f.p := less_ne q
      have e : stepN f (false, acc) x = (false, acc ++ [x]) := by
        unfold stepN doneN midN
        simp [q, ne]
      rw [e, stepN_put f l _ hl, List.filter_cons_of_pos (by exact q), List.filter_cons_of_neg (by rw [less_not _ _ q]; decide)]
      simp
theorem lay_end {es : List EnP} {f : EnP} (h : es.Pairwise ltT) : endN f (es.foldl (stepN f) (false, [])) = layT es f := by
  rw [stepN_put f es [] h]
  simp [layT]
theorem stepN_snoc {f : EnP} {es : List EnP} {k : Nat} {e : EnP} (h : es[k]? = some e) : (es.take (k + 1)).foldl (stepN f) (false, []) = stepN f ((es.take k).foldl (stepN f) (false, [])) e := by
  rw [List.take_add_one, h, List.foldl_append]
  rfl
theorem str_self (a : List UInt8) : ((strOf a == strOf a) : Bool) = true := by show ((a.toArray == a.toArray) : Bool) = true; simp
set_option maxRecDepth 100000 in
set_option maxHeartbeats 16000000 in
theorem tdlay_any (w : World) (A : Option Addr) (c : Nat) (xs : List EnT) (es : List EnP) (y : EnT) (f : EnP) (h : RdK enTy w A xs.length xs) (hx : EnsR w xs es) (hy : EnR w y f) (hn : xs.length ≤ 100000) (hs : ∀ e ∈ es, e.p.length ≤ 900000) (ht : f.p.length ≤ 900000) (hsrt : es.Pairwise ltT) :
    Calls Tryz.prog 91 #[.slice A xs.length c, .agg #[.string y.p, .int .i64 y.k, .int .i64 y.m, .slice y.A y.l y.c]] w fun r w' => ∃ (A' : Option Addr) (c' : Nat) (ys : List EnT), r = .returned (.slice A' ys.length c') ∧ RdK enTy w' A' ys.length ys ∧ EnsR w' ys (layT es f) ∧ Chg [] w w' := by
  obtain ⟨w1, hw, hc, b0⟩ := news1 w (.cells #[.string y.p, .int .i64 y.k, .int .i64 y.m, .slice y.A y.l y.c] 55)
  have W1 := Lib.hid hw
  obtain ⟨g0, hg0⟩ : ∃ g, w.heap.size = g := ⟨_, rfl⟩
  have SZ := Lib.hid hg0
  rw [hg0, hy.p] at b0
  have BX : Hid (∀ w', Chg [] w1 w' → w'.cell? ⟨g0, 0, none⟩ = some (.string (strOf f.p)) ∧ w'.cell? ⟨g0, 1, none⟩ = some (.int .i64 y.k) ∧ w'.cell? ⟨g0, 2, none⟩ = some (.int .i64 y.m) ∧ w'.cell? ⟨g0, 3, none⟩ = some (.slice y.A y.l y.c)) := Lib.hid (fun w' hc => by
    have q := hc.at_ b0 (by simp)
    exact ⟨cell_of q 0, cell_of q 1, cell_of q 2, cell_of q 3⟩)
  have HA := Lib.hid (h.chg hc (by simp))
  have HX := Lib.hid (hx.chg hc)
  have HY := Lib.hid (hy.chg hc)
  have C0 := Lib.hid hc
  have HN := Lib.hid hn
  have HS := Lib.hid hs
  have HT := Lib.hid ht
  have SRT := Lib.hid hsrt
  have XL : Hid (xs.length = es.length) := Lib.hid hx.1
  clear hw hc b0 hg0 h hx hn hs hy ht hsrt
  go_enter Tryz.func91, Tryz.ntmps91
  go_upto_region 1 with fail
  rw [← W1.out, SZ.out]
  clear W1 SZ
  go_wp2
  go_loopw [5, 6, 7] (fun v5 v6 v7 wr => ∃ (k : Nat) (A2 : Option Addr) (d2 : Nat) (us : List EnT) (dn : Bool) (OUT : List EnP), k ≤ xs.length ∧ v7 = .int .i64 (k : Int) ∧ v5 = .slice A2 us.length d2 ∧ v6 = .bool dn ∧ Hid (us.length ≤ 1 + k ∧ (dn = false → us.length ≤ k)) ∧ Hid ((es.take k).foldl (stepN f) (false, []) = (dn, OUT)) ∧ Hid (OwnK enTy wr A2 d2 us) ∧ Hid (EnsR w1 us OUT) ∧ Hid (∀ a, A2 = some a → w1.heap.size ≤ a.block) ∧ Hid (Chg [] w1 wr)) (fun _ _ v7 _ => xs.length - (RowKit.intOf v7).toNat)
  case atStart => exact ⟨0, none, 0, [], false, [], Nat.zero_le _, rfl, rfl, rfl, Lib.hid ⟨by simp, by simp⟩, Lib.hid rfl, OwnK.none_ _, Lib.hid (EnsR.nil _), Lib.hid (by simp), Chg.refl _ _⟩
  case round =>
    obtain ⟨k, A2, d2, us, dn, OUT, hk, rfl, rfl, rfl, UL, ST, RO, RU, RN, RC⟩ := hrel
    have j0 : (0 : Int) ≤ (k : Int) := by omega
    by_cases hlt : k < xs.length
    · have j1 : (k : Int) < (xs.length : Int) := by omega
      have j3 : IntKind.i64.wrap ((k : Int) + 1) = (k : Int) + 1 := IntWalk.i64_in _ (by have := HN.out; omega)
      obtain ⟨g3, o3, eA, _⟩ := HA.out.line (by omega)
      have EA := Lib.hid eA
      obtain ⟨x, e, ex, ee, rx⟩ := HX.out.at_ hlt
      have EX := Lib.hid ex
      have RX := Lib.hid rx
      have STEP : Hid ((es.take (k + 1)).foldl (stepN f) (false, []) = stepN f (dn, OUT) e) := Lib.hid (by rw [stepN_snoc ee, ST.out])
      have SE := Lib.hid (HS.out e (List.mem_of_getElem? ee))
      clear ex ee rx ST
      rw [eA]
      clear eA
      have HC : Hid (∀ w', Chg [] w1 w' → w'.cell? ⟨g3, o3 + k * 4, none⟩ = some (.string (strOf e.p)) ∧ w'.cell? ⟨g0, 0, none⟩ = some (.string (strOf f.p))) := Lib.hid (fun w' hc => by
        have a := (enCells ((EA.out ▸ HA.out).chg hc (by simp)) EX.out).1
        rw [RX.out.p] at a
        exact ⟨a, (BX.out _ hc).1⟩)
      have KN := Lib.hid hk
      rcases hdn : dn with _ | _
      · skip
        have ULF : Hid (us.length ≤ k) := Lib.hid (UL.out.2 hdn)
        rw [hdn] at STEP
        clear hdn UL
        rcases hl : lessL e.p f.p with _ | _
        · skip
          go_upto_region 6 with fail
          have DR := Lib.hid (Chg.refl [] wr).drew
          refine wp_region_held_drew (S := fun w' => Chg [] w1 w') (by kernel_rfl) (RC.out.trans (Chg.refl [] wr).drew) (fun hHeld => ?_)
          obtain ⟨wd, hwd⟩ : ∃ wd, wr.drew = wd := ⟨_, rfl⟩
          rw [hwd] at hHeld DR ⊢
          clear hwd
          refine sy 0 14 rfl rfl ?_
          try simp only [Act.put, sA, s0, s1]
          refine sy 1 15 rfl rfl ?_
          try simp only [Act.put, sA, s0, s1]
          refine sy 2 16 rfl rfl ?_
          try simp only [Act.put, sA, s0, s1]
          refine sy 3 17 rfl rfl ?_
          try simp only [Act.put, sA, s0, s1]
          refine sy 4 18 rfl rfl ?_
          try simp only [Act.put, sA, s0, s1]
          refine sy 5 19 rfl rfl ?_
          try simp only [Act.put, sA, s0, s1]
          refine sy 6 20 rfl rfl ?_
          try simp only [Act.put, sA, s0, s1]
          refine sy 7 21 rfl rfl ?_ (hy := by (intro w hSw; (try dsimp only at hSw); have hq := HC.out _ hSw; obtain ⟨q0, q1⟩ := hq; go_simp; try with_reducible rfl))
          try simp only [Act.put, sA, s0, s1]
          refine sy 8 22 rfl rfl ?_
          try simp only [Act.put, sA, s0, s1]
          refine sy 9 23 rfl rfl ?_ (hy := by (intro w hSw; (try dsimp only at hSw); have hq := HC.out _ hSw; obtain ⟨q0, q1⟩ := hq; go_simp; try with_reducible rfl))
          try simp only [Act.put, sA, s0, s1]
          refine wpAnyH_ready (rs := [10]) (by kernel_rfl) (by simp) ?_
          refine AllReadyH.cons rfl (fun K hK => ?_) AllReadyH.nil
          replace hK := Lib.hid hK
          go_simp
          refine (qhless_any wd e.p f.p (by have := SE.out; omega) (by have := HT.out; omega)).mono ?_
          rintro r w9 ⟨rfl, hc⟩
          rw [hl]
          replace RO := Lib.hid (RO.out.chg (DR.out.trans hc) (by simp))
          replace RC := Lib.hid (RC.out.trans (DR.out.trans hc))
          clear hc hHeld DR
          refine hK.out _ _ RC.out (fun hHeld => ?_)
          clear hK K
          try simp only [Act.put, sA, s0, s1]
          refine sy 11 25 rfl rfl ?_
          try simp only [Act.put, sA, s0, s1]
          refine sy 12 26 rfl rfl ?_
          try simp only [Act.put, sA, s0, s1]
          refine wpAnyH_done (by kernel_rfl) ?_ _
          clear hHeld
          obtain ⟨z0, z1, z2, z3⟩ := BX.out _ RC.out
          obtain ⟨v1, hw, cn, bn⟩ := news1 w9 (.cells #[.string (strOf f.p), .int .i64 y.k, .int .i64 y.m, .slice y.A y.l y.c] 55)
          have WN := Lib.hid hw
          rw [← HY.out.p] at bn
          have XR := Lib.hid (rd_oneEn bn)
          replace RO := Lib.hid (RO.out.chg cn (by simp))
          replace RC := Lib.hid (RC.out.trans cn)
          have N4 : Hid ((us.length + 1) * 400 ≤ 140737488355327) := Lib.hid (by have := ULF.out; have := HN.out; omega)
          clear hw cn bn
          go_upto_region 9 with (at_builtin; rw [← WN.out]; refine wpList_appK (R := enTy) rfl (.tmp 27) (.tmp 29) rfl rfl (A := A2) (n := us.length) (m := 1) (c := d2) (d := 1) (xs := us) (ys := [y]) RO.out rfl rfl XR.out N4.out ?_; intro A8 c8 w8 o8 g8 e8)
          clear z0 z1 z2 z3 WN XR N4
          have F8 := Lib.hid (fresh_appN RN.out RC.out g8 e8)
          replace RO := Lib.hid o8
          replace RN : Hid (∀ a, A8 = some a → w1.heap.size ≤ a.block) := Lib.hid F8.out.1
          replace RC : Hid (Chg [] w1 w8) := Lib.hid F8.out.2
          replace RU := Lib.hid (RU.out.snoc HY.out)
          obtain ⟨u8, hu8⟩ : ∃ u, us ++ [y] = u := ⟨_, rfl⟩
          have NL8 : Hid (us.length + 1 = u8.length) := Lib.hid (by rw [← hu8]; simp)
          rw [hu8] at RO RU
          have UL8 : Hid (u8.length ≤ k + 1) := Lib.hid (by have := NL8.out; have := ULF.out; omega)
          clear o8 g8 e8 F8 hu8
          rw [NL8.out]
          clear NL8
          by_cases hp : e.p = f.p
          · skip
            have SN : Hid ((es.take (k + 1)).foldl (stepN f) (false, []) = (true, (OUT ++ [f]))) := Lib.hid (by rw [STEP.out]; unfold stepN doneN midN; first | (simp [hl, hp]; done) | (simp [hl, hp, less_self]; done) | (rw [hp, less_self] at hl; cases hl))
            have e4 : (e.p == f.p) = true := by rw [hp]; exact beq_self_eq_true _
            have e5 : ((strOf e.p == strOf f.p) : Bool) = true := by rw [hp]; exact str_self _
            have e6 : ((strOf e.p != strOf f.p) : Bool) = false := by simp only [bne, e5]; rfl
            have e7 : (e.p != f.p) = false := by simp only [bne, e4]; rfl
            clear hp
            have HC9 : Hid (∀ w', Chg [] w8 w' → _) := Lib.hid (fun w' hc => HC.out w' (RC.out.trans hc))
            refine wp_region_held_drew (S := fun w' => Chg [] w8 w') (by kernel_rfl) (Chg.refl [] w8).drew (fun hHeld => ?_)
            refine sy 0 31 rfl rfl ?_
            try simp only [Act.put, sA, s0, s1]
            refine sy 1 32 rfl rfl ?_
            try simp only [Act.put, sA, s0, s1]
            refine sy 2 33 rfl rfl ?_
            try simp only [Act.put, sA, s0, s1]
            refine sy 3 34 rfl rfl ?_
            try simp only [Act.put, sA, s0, s1]
            refine sy 4 35 rfl rfl ?_ (hy := by (intro w hSw; (try dsimp only at hSw); have hq := HC9.out _ hSw; obtain ⟨q0, q1⟩ := hq; go_simp; try with_reducible rfl))
            try simp only [Act.put, sA, s0, s1]
            refine sy 5 36 rfl rfl ?_
            try simp only [Act.put, sA, s0, s1]
            refine sy 6 37 rfl rfl ?_ (hy := by (intro w hSw; (try dsimp only at hSw); have hq := HC9.out _ hSw; obtain ⟨q0, q1⟩ := hq; go_simp; try with_reducible rfl))
            try simp only [Act.put, sA, s0, s1]
            refine sy 7 38 rfl rfl ?_
            try simp only [Act.put, sA, s0, s1]
            refine wpAnyH_done (by kernel_rfl) ?_ _
            replace RO := Lib.hid (RO.out.chg hHeld (by simp))
            replace RC := Lib.hid (RC.out.trans hHeld)
            clear hHeld HC HC9 e4 e5 e6 e7
            go_wp2
            go_round
            case rel => exact ⟨k + 1, A8, c8, u8, true, (OUT ++ [f]), by omega, by go_num, by first | rfl | (simp; done), rfl, Lib.hid (⟨by have := UL8.out; omega, fun q => by cases q⟩), SN, RO, RU, RN, RC⟩
            case measure => simp [RowKit.intOf]; omega
          · skip
            have SN : Hid ((es.take (k + 1)).foldl (stepN f) (false, []) = (true, (OUT ++ [f]) ++ [e])) := Lib.hid (by rw [STEP.out]; unfold stepN doneN midN; first | (simp [hl, hp]; done) | (simp [hl, hp, less_self]; done) | (rw [hp, less_self] at hl; cases hl))
            have e1 := strOf_ne hp
            have e3 := strOf_ne2 hp
            have e4 : (e.p == f.p) = false := beq_eq_false_iff_ne.2 hp
            have e6 : ((strOf e.p != strOf f.p) : Bool) = true := by simp only [bne, e1]; rfl
            have e7 : (e.p != f.p) = true := by simp only [bne, e4]; rfl
            clear hp
            have HC9 : Hid (∀ w', Chg [] w8 w' → _) := Lib.hid (fun w' hc => HC.out w' (RC.out.trans hc))
            refine wp_region_held_drew (S := fun w' => Chg [] w8 w') (by kernel_rfl) (Chg.refl [] w8).drew (fun hHeld => ?_)
            refine sy 0 31 rfl rfl ?_
            try simp only [Act.put, sA, s0, s1]
            refine sy 1 32 rfl rfl ?_
            try simp only [Act.put, sA, s0, s1]
            refine sy 2 33 rfl rfl ?_
            try simp only [Act.put, sA, s0, s1]
            refine sy 3 34 rfl rfl ?_
            try simp only [Act.put, sA, s0, s1]
            refine sy 4 35 rfl rfl ?_ (hy := by (intro w hSw; (try dsimp only at hSw); have hq := HC9.out _ hSw; obtain ⟨q0, q1⟩ := hq; go_simp; try with_reducible rfl))
            try simp only [Act.put, sA, s0, s1]
            refine sy 5 36 rfl rfl ?_
            try simp only [Act.put, sA, s0, s1]
            refine sy 6 37 rfl rfl ?_ (hy := by (intro w hSw; (try dsimp only at hSw); have hq := HC9.out _ hSw; obtain ⟨q0, q1⟩ := hq; go_simp; try with_reducible rfl))
            try simp only [Act.put, sA, s0, s1]
            refine sy 7 38 rfl rfl ?_
            try simp only [Act.put, sA, s0, s1]
            refine wpAnyH_done (by kernel_rfl) ?_ _
            replace RO := Lib.hid (RO.out.chg hHeld (by simp))
            replace RC := Lib.hid (RC.out.trans hHeld)
            clear hHeld HC HC9 e1 e3 e4 e6 e7
            obtain ⟨z0, z1, z2, z3⟩ := enCells ((EA.out ▸ HA.out).chg RC.out (by simp)) EX.out
            obtain ⟨wq, hwq⟩ : ∃ wq, w8.drew = wq := ⟨_, rfl⟩
            rw [hwq] at RO RC z0 z1 z2 z3 ⊢
            clear hwq
            obtain ⟨v1, hw, cn, bn⟩ := news1 wq (.cells #[.string x.p, .int .i64 x.k, .int .i64 x.m, .slice x.A x.l x.c] 55)
            have WN := Lib.hid hw
            have XR := Lib.hid (rd_oneEn bn)
            replace RO := Lib.hid (RO.out.chg cn (by simp))
            replace RC := Lib.hid (RC.out.trans cn)
            have N4 : Hid ((u8.length + 1) * 400 ≤ 140737488355327) := Lib.hid (by have := (UL8.out); have := HN.out; omega)
            clear hw cn bn
            go_wp2_with (at_builtin; rw [← WN.out]; refine wpList_appK (R := enTy) rfl (.tmp 39) (.tmp 44) rfl rfl (A := A8) (n := u8.length) (m := 1) (c := c8) (d := 1) (xs := u8) (ys := [x]) RO.out rfl rfl XR.out N4.out ?_; intro A9 c9 w9 o9 g9 e9)
            clear z0 z1 z2 z3 WN XR N4
            have O9 := Lib.hid o9
            have F9 := Lib.hid (fresh_appN RN.out RC.out g9 e9)
            have RU9 := Lib.hid (RU.out.snoc RX.out)
            have NL : Hid (u8.length + 1 = (u8 ++ [x]).length) := Lib.hid (by simp <;> omega)
            clear o9 g9 e9
            rw [NL.out]
            go_wp2
            go_round
            case rel => exact ⟨k + 1, A9, c9, u8 ++ [x], true, (OUT ++ [f]) ++ [e], by omega, by go_num, by first | rfl | (simp; done), rfl, Lib.hid (⟨by have := UL8.out; simp; omega, fun q => by cases q⟩), SN, O9, RU9, Lib.hid F9.out.1, Lib.hid F9.out.2⟩
            case measure => simp [RowKit.intOf]; omega
        · skip
          go_upto_region 6 with fail
          have DR := Lib.hid (Chg.refl [] wr).drew
          refine wp_region_held_drew (S := fun w' => Chg [] w1 w') (by kernel_rfl) (RC.out.trans (Chg.refl [] wr).drew) (fun hHeld => ?_)
          obtain ⟨wd, hwd⟩ : ∃ wd, wr.drew = wd := ⟨_, rfl⟩
          rw [hwd] at hHeld DR ⊢
          clear hwd
          refine sy 0 14 rfl rfl ?_
          try simp only [Act.put, sA, s0, s1]
          refine sy 1 15 rfl rfl ?_
          try simp only [Act.put, sA, s0, s1]
          refine sy 2 16 rfl rfl ?_
          try simp only [Act.put, sA, s0, s1]
          refine sy 3 17 rfl rfl ?_
          try simp only [Act.put, sA, s0, s1]
          refine sy 4 18 rfl rfl ?_
          try simp only [Act.put, sA, s0, s1]
          refine sy 5 19 rfl rfl ?_
          try simp only [Act.put, sA, s0, s1]
          refine sy 6 20 rfl rfl ?_
          try simp only [Act.put, sA, s0, s1]
          refine sy 7 21 rfl rfl ?_ (hy := by (intro w hSw; (try dsimp only at hSw); have hq := HC.out _ hSw; obtain ⟨q0, q1⟩ := hq; go_simp; try with_reducible rfl))
          try simp only [Act.put, sA, s0, s1]
          refine sy 8 22 rfl rfl ?_
          try simp only [Act.put, sA, s0, s1]
          refine sy 9 23 rfl rfl ?_ (hy := by (intro w hSw; (try dsimp only at hSw); have hq := HC.out _ hSw; obtain ⟨q0, q1⟩ := hq; go_simp; try with_reducible rfl))
          try simp only [Act.put, sA, s0, s1]
          refine wpAnyH_ready (rs := [10]) (by kernel_rfl) (by simp) ?_
          refine AllReadyH.cons rfl (fun K hK => ?_) AllReadyH.nil
          replace hK := Lib.hid hK
          go_simp
          refine (qhless_any wd e.p f.p (by have := SE.out; omega) (by have := HT.out; omega)).mono ?_
          rintro r w9 ⟨rfl, hc⟩
          rw [hl]
          replace RO := Lib.hid (RO.out.chg (DR.out.trans hc) (by simp))
          replace RC := Lib.hid (RC.out.trans (DR.out.trans hc))
          clear hc hHeld DR
          refine hK.out _ _ RC.out (fun hHeld => ?_)
          clear hK K
          try simp only [Act.put, sA, s0, s1]
          refine sy 11 25 rfl rfl ?_
          try simp only [Act.put, sA, s0, s1]
          refine sy 12 26 rfl rfl ?_
          try simp only [Act.put, sA, s0, s1]
          refine wpAnyH_done (by kernel_rfl) ?_ _
          clear hHeld
          go_upto_region 9 with fail
          by_cases hp : e.p = f.p
          · skip
            have SN : Hid ((es.take (k + 1)).foldl (stepN f) (false, []) = (false, OUT)) := Lib.hid (by rw [STEP.out]; unfold stepN doneN midN; first | (simp [hl, hp]; done) | (simp [hl, hp, less_self]; done) | (rw [hp, less_self] at hl; cases hl))
            have e4 : (e.p == f.p) = true := by rw [hp]; exact beq_self_eq_true _
            have e5 : ((strOf e.p == strOf f.p) : Bool) = true := by rw [hp]; exact str_self _
            have e6 : ((strOf e.p != strOf f.p) : Bool) = false := by simp only [bne, e5]; rfl
            have e7 : (e.p != f.p) = false := by simp only [bne, e4]; rfl
            clear hp
            have HC9 : Hid (∀ w', Chg [] w9 w' → _) := Lib.hid (fun w' hc => HC.out w' (RC.out.trans hc))
            refine wp_region_held_drew (S := fun w' => Chg [] w9 w') (by kernel_rfl) (Chg.refl [] w9).drew (fun hHeld => ?_)
            refine sy 0 31 rfl rfl ?_
            try simp only [Act.put, sA, s0, s1]
            refine sy 1 32 rfl rfl ?_
            try simp only [Act.put, sA, s0, s1]
            refine sy 2 33 rfl rfl ?_
            try simp only [Act.put, sA, s0, s1]
            refine sy 3 34 rfl rfl ?_
            try simp only [Act.put, sA, s0, s1]
            refine sy 4 35 rfl rfl ?_ (hy := by (intro w hSw; (try dsimp only at hSw); have hq := HC9.out _ hSw; obtain ⟨q0, q1⟩ := hq; go_simp; try with_reducible rfl))
            try simp only [Act.put, sA, s0, s1]
            refine sy 5 36 rfl rfl ?_
            try simp only [Act.put, sA, s0, s1]
            refine sy 6 37 rfl rfl ?_ (hy := by (intro w hSw; (try dsimp only at hSw); have hq := HC9.out _ hSw; obtain ⟨q0, q1⟩ := hq; go_simp; try with_reducible rfl))
            try simp only [Act.put, sA, s0, s1]
            refine sy 7 38 rfl rfl ?_
            try simp only [Act.put, sA, s0, s1]
            refine wpAnyH_done (by kernel_rfl) ?_ _
            replace RO := Lib.hid (RO.out.chg hHeld (by simp))
            replace RC := Lib.hid (RC.out.trans hHeld)
            clear hHeld HC HC9 e4 e5 e6 e7
            go_wp2
            go_round
            case rel => exact ⟨k + 1, A2, d2, us, false, OUT, by omega, by go_num, by first | rfl | (simp; done), rfl, Lib.hid (⟨by have := ULF.out; omega, fun _ => by have := ULF.out; omega⟩), SN, RO, RU, RN, RC⟩
            case measure => simp [RowKit.intOf]; omega
          · skip
            have SN : Hid ((es.take (k + 1)).foldl (stepN f) (false, []) = (false, OUT ++ [e])) := Lib.hid (by rw [STEP.out]; unfold stepN doneN midN; first | (simp [hl, hp]; done) | (simp [hl, hp, less_self]; done) | (rw [hp, less_self] at hl; cases hl))
            have e1 := strOf_ne hp
            have e3 := strOf_ne2 hp
            have e4 : (e.p == f.p) = false := beq_eq_false_iff_ne.2 hp
            have e6 : ((strOf e.p != strOf f.p) : Bool) = true := by simp only [bne, e1]; rfl
            have e7 : (e.p != f.p) = true := by simp only [bne, e4]; rfl
            clear hp
            have HC9 : Hid (∀ w', Chg [] w9 w' → _) := Lib.hid (fun w' hc => HC.out w' (RC.out.trans hc))
            refine wp_region_held_drew (S := fun w' => Chg [] w9 w') (by kernel_rfl) (Chg.refl [] w9).drew (fun hHeld => ?_)
            refine sy 0 31 rfl rfl ?_
            try simp only [Act.put, sA, s0, s1]
            refine sy 1 32 rfl rfl ?_
            try simp only [Act.put, sA, s0, s1]
            refine sy 2 33 rfl rfl ?_
            try simp only [Act.put, sA, s0, s1]
            refine sy 3 34 rfl rfl ?_
            try simp only [Act.put, sA, s0, s1]
            refine sy 4 35 rfl rfl ?_ (hy := by (intro w hSw; (try dsimp only at hSw); have hq := HC9.out _ hSw; obtain ⟨q0, q1⟩ := hq; go_simp; try with_reducible rfl))
            try simp only [Act.put, sA, s0, s1]
            refine sy 5 36 rfl rfl ?_
            try simp only [Act.put, sA, s0, s1]
            refine sy 6 37 rfl rfl ?_ (hy := by (intro w hSw; (try dsimp only at hSw); have hq := HC9.out _ hSw; obtain ⟨q0, q1⟩ := hq; go_simp; try with_reducible rfl))
            try simp only [Act.put, sA, s0, s1]
            refine sy 7 38 rfl rfl ?_
            try simp only [Act.put, sA, s0, s1]
            refine wpAnyH_done (by kernel_rfl) ?_ _
            replace RO := Lib.hid (RO.out.chg hHeld (by simp))
            replace RC := Lib.hid (RC.out.trans hHeld)
            clear hHeld HC HC9 e1 e3 e4 e6 e7
            obtain ⟨z0, z1, z2, z3⟩ := enCells ((EA.out ▸ HA.out).chg RC.out (by simp)) EX.out
            obtain ⟨wq, hwq⟩ : ∃ wq, w9.drew = wq := ⟨_, rfl⟩
            rw [hwq] at RO RC z0 z1 z2 z3 ⊢
            clear hwq
            obtain ⟨v1, hw, cn, bn⟩ := news1 wq (.cells #[.string x.p, .int .i64 x.k, .int .i64 x.m, .slice x.A x.l x.c] 55)
            have WN := Lib.hid hw
            have XR := Lib.hid (rd_oneEn bn)
            replace RO := Lib.hid (RO.out.chg cn (by simp))
            replace RC := Lib.hid (RC.out.trans cn)
            have N4 : Hid ((us.length + 1) * 400 ≤ 140737488355327) := Lib.hid (by have := (ULF.out); have := HN.out; omega)
            clear hw cn bn
            go_wp2_with (at_builtin; rw [← WN.out]; refine wpList_appK (R := enTy) rfl (.tmp 39) (.tmp 44) rfl rfl (A := A2) (n := us.length) (m := 1) (c := d2) (d := 1) (xs := us) (ys := [x]) RO.out rfl rfl XR.out N4.out ?_; intro A9 c9 w9 o9 g9 e9)
            clear z0 z1 z2 z3 WN XR N4
            have O9 := Lib.hid o9
            have F9 := Lib.hid (fresh_appN RN.out RC.out g9 e9)
            have RU9 := Lib.hid (RU.out.snoc RX.out)
            have NL : Hid (us.length + 1 = (us ++ [x]).length) := Lib.hid (by simp <;> omega)
            clear o9 g9 e9
            rw [NL.out]
            go_wp2
            go_round
            case rel => exact ⟨k + 1, A9, c9, us ++ [x], false, OUT ++ [e], by omega, by go_num, by first | rfl | (simp; done), rfl, Lib.hid (⟨by have := ULF.out; simp; omega, fun _ => by have := ULF.out; simp; omega⟩), SN, O9, RU9, Lib.hid F9.out.1, Lib.hid F9.out.2⟩
            case measure => simp [RowKit.intOf]; omega
      · skip
        have ULT : Hid (us.length ≤ 1 + k) := Lib.hid UL.out.1
        rw [hdn] at STEP
        clear hdn UL
        go_upto_region 6 with fail
        have DR := Lib.hid (Chg.refl [] wr).drew
        refine wp_region_held_drew (S := fun w' => Chg [] w1 w') (by kernel_rfl) (RC.out.trans (Chg.refl [] wr).drew) (fun hHeld => ?_)
        obtain ⟨wd, hwd⟩ : ∃ wd, wr.drew = wd := ⟨_, rfl⟩
        rw [hwd] at hHeld DR ⊢
        clear hwd
        refine sy 0 14 rfl rfl ?_
        try simp only [Act.put, sA, s0, s1]
        refine sy 1 15 rfl rfl ?_
        try simp only [Act.put, sA, s0, s1]
        refine sy 2 16 rfl rfl ?_
        try simp only [Act.put, sA, s0, s1]
        refine sn 3 17 rfl rfl ?_
        try simp only [Act.put, sA, s0, s1]
        refine sn 4 18 rfl rfl ?_
        try simp only [Act.put, sA, s0, s1]
        refine sn 5 19 rfl rfl ?_
        try simp only [Act.put, sA, s0, s1]
        refine sn 6 20 rfl rfl ?_
        try simp only [Act.put, sA, s0, s1]
        refine sn 7 21 rfl rfl ?_
        try simp only [Act.put, sA, s0, s1]
        refine sn 8 22 rfl rfl ?_
        try simp only [Act.put, sA, s0, s1]
        refine sn 9 23 rfl rfl ?_
        try simp only [Act.put, sA, s0, s1]
        refine sn 10 24 rfl rfl ?_
        try simp only [Act.put, sA, s0, s1]
        refine sn 11 25 rfl rfl ?_
        try simp only [Act.put, sA, s0, s1]
        refine sy 12 26 rfl rfl ?_
        try simp only [Act.put, sA, s0, s1]
        refine wpAnyH_done (by kernel_rfl) ?_ _
        replace RO := Lib.hid (RO.out.chg DR.out (by simp))
        replace RC := Lib.hid (RC.out.trans DR.out)
        clear hHeld DR
        go_upto_region 9 with fail
        by_cases hp : e.p = f.p
        · skip
          have SN : Hid ((es.take (k + 1)).foldl (stepN f) (false, []) = (true, OUT)) := Lib.hid (by rw [STEP.out]; unfold stepN doneN midN; first | (simp [hp]; done) | (simp [hl, hp, less_self]; done) | (rw [hp, less_self] at hl; cases hl))
          have e4 : (e.p == f.p) = true := by rw [hp]; exact beq_self_eq_true _
          have e5 : ((strOf e.p == strOf f.p) : Bool) = true := by rw [hp]; exact str_self _
          have e6 : ((strOf e.p != strOf f.p) : Bool) = false := by simp only [bne, e5]; rfl
          have e7 : (e.p != f.p) = false := by simp only [bne, e4]; rfl
          clear hp
          have HC9 : Hid (∀ w', Chg [] wd w' → _) := Lib.hid (fun w' hc => HC.out w' (RC.out.trans hc))
          refine wp_region_held_drew (S := fun w' => Chg [] wd w') (by kernel_rfl) (Chg.refl [] wd).drew (fun hHeld => ?_)
          refine sy 0 31 rfl rfl ?_
          try simp only [Act.put, sA, s0, s1]
          refine sy 1 32 rfl rfl ?_
          try simp only [Act.put, sA, s0, s1]
          refine sy 2 33 rfl rfl ?_
          try simp only [Act.put, sA, s0, s1]
          refine sy 3 34 rfl rfl ?_
          try simp only [Act.put, sA, s0, s1]
          refine sy 4 35 rfl rfl ?_ (hy := by (intro w hSw; (try dsimp only at hSw); have hq := HC9.out _ hSw; obtain ⟨q0, q1⟩ := hq; go_simp; try with_reducible rfl))
          try simp only [Act.put, sA, s0, s1]
          refine sy 5 36 rfl rfl ?_
          try simp only [Act.put, sA, s0, s1]
          refine sy 6 37 rfl rfl ?_ (hy := by (intro w hSw; (try dsimp only at hSw); have hq := HC9.out _ hSw; obtain ⟨q0, q1⟩ := hq; go_simp; try with_reducible rfl))
          try simp only [Act.put, sA, s0, s1]
          refine sy 7 38 rfl rfl ?_
          try simp only [Act.put, sA, s0, s1]
          refine wpAnyH_done (by kernel_rfl) ?_ _
          replace RO := Lib.hid (RO.out.chg hHeld (by simp))
          replace RC := Lib.hid (RC.out.trans hHeld)
          clear hHeld HC HC9 e4 e5 e6 e7
          go_wp2
          go_round
          case rel => exact ⟨k + 1, A2, d2, us, true, OUT, by omega, by go_num, by first | rfl | (simp; done), rfl, Lib.hid (⟨by have := ULT.out; omega, fun q => by cases q⟩), SN, RO, RU, RN, RC⟩
          case measure => simp [RowKit.intOf]; omega
        · skip
          have SN : Hid ((es.take (k + 1)).foldl (stepN f) (false, []) = (true, OUT ++ [e])) := Lib.hid (by rw [STEP.out]; unfold stepN doneN midN; first | (simp [hp]; done) | (simp [hl, hp, less_self]; done) | (rw [hp, less_self] at hl; cases hl))
          have e1 := strOf_ne hp
          have e3 := strOf_ne2 hp
          have e4 : (e.p == f.p) = false := beq_eq_false_iff_ne.2 hp
          have e6 : ((strOf e.p != strOf f.p) : Bool) = true := by simp only [bne, e1]; rfl
          have e7 : (e.p != f.p) = true := by simp only [bne, e4]; rfl
          clear hp
          have HC9 : Hid (∀ w', Chg [] wd w' → _) := Lib.hid (fun w' hc => HC.out w' (RC.out.trans hc))
          refine wp_region_held_drew (S := fun w' => Chg [] wd w') (by kernel_rfl) (Chg.refl [] wd).drew (fun hHeld => ?_)
          refine sy 0 31 rfl rfl ?_
          try simp only [Act.put, sA, s0, s1]
          refine sy 1 32 rfl rfl ?_
          try simp only [Act.put, sA, s0, s1]
          refine sy 2 33 rfl rfl ?_
          try simp only [Act.put, sA, s0, s1]
          refine sy 3 34 rfl rfl ?_
          try simp only [Act.put, sA, s0, s1]
          refine sy 4 35 rfl rfl ?_ (hy := by (intro w hSw; (try dsimp only at hSw); have hq := HC9.out _ hSw; obtain ⟨q0, q1⟩ := hq; go_simp; try with_reducible rfl))
          try simp only [Act.put, sA, s0, s1]
          refine sy 5 36 rfl rfl ?_
          try simp only [Act.put, sA, s0, s1]
          refine sy 6 37 rfl rfl ?_ (hy := by (intro w hSw; (try dsimp only at hSw); have hq := HC9.out _ hSw; obtain ⟨q0, q1⟩ := hq; go_simp; try with_reducible rfl))
          try simp only [Act.put, sA, s0, s1]
          refine sy 7 38 rfl rfl ?_
          try simp only [Act.put, sA, s0, s1]
          refine wpAnyH_done (by kernel_rfl) ?_ _
          replace RO := Lib.hid (RO.out.chg hHeld (by simp))
          replace RC := Lib.hid (RC.out.trans hHeld)
          clear hHeld HC HC9 e1 e3 e4 e6 e7
          obtain ⟨z0, z1, z2, z3⟩ := enCells ((EA.out ▸ HA.out).chg RC.out (by simp)) EX.out
          obtain ⟨wq, hwq⟩ : ∃ wq, wd.drew = wq := ⟨_, rfl⟩
          rw [hwq] at RO RC z0 z1 z2 z3 ⊢
          clear hwq
          obtain ⟨v1, hw, cn, bn⟩ := news1 wq (.cells #[.string x.p, .int .i64 x.k, .int .i64 x.m, .slice x.A x.l x.c] 55)
          have WN := Lib.hid hw
          have XR := Lib.hid (rd_oneEn bn)
          replace RO := Lib.hid (RO.out.chg cn (by simp))
          replace RC := Lib.hid (RC.out.trans cn)
          have N4 : Hid ((us.length + 1) * 400 ≤ 140737488355327) := Lib.hid (by have := (ULT.out); have := HN.out; omega)
          clear hw cn bn
          go_wp2_with (at_builtin; rw [← WN.out]; refine wpList_appK (R := enTy) rfl (.tmp 39) (.tmp 44) rfl rfl (A := A2) (n := us.length) (m := 1) (c := d2) (d := 1) (xs := us) (ys := [x]) RO.out rfl rfl XR.out N4.out ?_; intro A9 c9 w9 o9 g9 e9)
          clear z0 z1 z2 z3 WN XR N4
          have O9 := Lib.hid o9
          have F9 := Lib.hid (fresh_appN RN.out RC.out g9 e9)
          have RU9 := Lib.hid (RU.out.snoc RX.out)
          have NL : Hid (us.length + 1 = (us ++ [x]).length) := Lib.hid (by simp <;> omega)
          clear o9 g9 e9
          rw [NL.out]
          go_wp2
          go_round
          case rel => exact ⟨k + 1, A9, c9, us ++ [x], true, OUT ++ [e], by omega, by go_num, by first | rfl | (simp; done), rfl, Lib.hid (⟨by have := ULT.out; simp; omega, fun q => by cases q⟩), SN, O9, RU9, Lib.hid F9.out.1, Lib.hid F9.out.2⟩
          case measure => simp [RowKit.intOf]; omega
    · obtain rfl : k = xs.length := by omega
      have j1 : ¬ (xs.length : Int) < (xs.length : Int) := by omega
      have EF : es.take xs.length = es := by rw [HX.out.1, List.take_length]
      rw [EF] at ST
      clear EF
      have FIN : Hid (endN f (dn, OUT) = layT es f) := Lib.hid (by rw [← ST.out]; exact lay_end SRT.out)
      clear ST
      rcases dn with _ | _
      · have N5 : Hid ((us.length + 1) * 400 ≤ 140737488355327) := Lib.hid (by have := UL.out.1; have := HN.out; omega)
        have FE : Hid (OUT ++ [f] = layT es f) := Lib.hid (by rw [← FIN.out]; rfl)
        obtain ⟨z0, z1, z2, z3⟩ := BX.out _ RC.out
        obtain ⟨v1, hw, cn, bn⟩ := news1 wr (.cells #[.string (strOf f.p), .int .i64 y.k, .int .i64 y.m, .slice y.A y.l y.c] 55)
        have WN := Lib.hid hw
        rw [← HY.out.p] at bn
        have XR := Lib.hid (rd_oneEn bn)
        replace RO := Lib.hid (RO.out.chg cn (by simp))
        replace RC := Lib.hid (RC.out.trans cn)
        clear hw cn bn
        go_upto_region 13 with (at_builtin; rw [← WN.out]; refine wpList_appK (R := enTy) rfl (.tmp 48) (.tmp 50) rfl rfl (A := A2) (n := us.length) (m := 1) (c := d2) (d := 1) (xs := us) (ys := [y]) RO.out rfl rfl XR.out N5.out ?_; intro A8 c8 w8 o8 g8 e8)
        clear z0 z1 z2 z3 WN XR N5
        have O8 := Lib.hid o8.reads
        have F8 := Lib.hid (fresh_appN RN.out RC.out g8 e8)
        have RU8 := Lib.hid (RU.out.snoc HY.out)
        have NL : Hid (us.length + 1 = (us ++ [y]).length) := Lib.hid (by simp)
        clear o8 g8 e8
        rw [NL.out]
        go_wp2
        go_ret
        exact ⟨A8, c8, us ++ [y], by first | rfl | (rw [List.length_append]; rfl), O8.out, by rw [← FE.out]; exact RU8.out.chg F8.out.2, C0.out.trans F8.out.2⟩
      · have FE : Hid (OUT = layT es f) := Lib.hid (by rw [← FIN.out]; rfl)
        go_wp2
        go_ret
        exact ⟨A2, d2, us, rfl, RO.out.reads, by rw [← FE.out]; exact RU.out.chg RC.out, C0.out.trans RC.out⟩
end
section
open Go.RowKit Go.Lib
set_option linter.unusedSimpArgs false
set_option linter.unusedVariables false

set_option maxRecDepth 100000 in
set_option maxHeartbeats 4000000 in
theorem tbremove1_any (w : World) (x : EnT) (e : EnP) (h : EnR w x e) (hs : e.p.length ≤ 10000000) (gb : Nat) (p : List UInt8) (hpl : p.length ≤ 10000000) (hb : w.heap[gb]? = some (.cells #[.string (strOf p)] 9 (0, 0))) :
    Calls Tryz.prog 80 #[.agg #[.string x.p, .int .i64 x.k, .int .i64 x.m, .slice x.A x.l x.c], .pointer (some ⟨gb, 0, none⟩)] w fun r w' => r = .returned (.bool (decide (e.p = p) || underL p e.p)) ∧ Chg [] w w' := by
  obtain ⟨w1, hw, hc, b0⟩ := news1 w (.cells #[.string (strOf e.p), .int .i64 x.k, .int .i64 x.m, .slice x.A x.l x.c] 55)
  have W1 := Lib.hid hw
  obtain ⟨g0, hg0⟩ : ∃ g, w.heap.size = g := ⟨_, rfl⟩
  have G0 := Lib.hid hg0
  rw [hg0] at b0
  rw [h.p]
  have DX : Hid (∀ w', Chg [] w1 w' → w'.cell? ⟨g0, 0, none⟩ = some (.string (strOf e.p)) ∧ w'.cell? ⟨gb, 0, none⟩ = some (.string (strOf p))) := Lib.hid (fun w' hc2 => ⟨cell_of (hc2.at_ b0 (by simp)) 0, cell_of (hc2.at_ (hc.at_ hb (by simp)) (by simp)) 0⟩)
  have C := Lib.hid hc
  clear hw hc b0 hg0 h hb
  go_enter Tryz.func80, Tryz.ntmps80
  go_upto_region 1 with fail
  rw [← W1.out, G0.out]
  clear W1 G0
  obtain ⟨z0, y0⟩ := DX.out _ (Chg.refl [] w1)
  have UX : Hid (∀ w' : World, Calls Tryz.prog 30 #[.string (strOf p), .string (strOf e.p)] w' fun r w2 => r = .returned (.bool (underL p e.p)) ∧ Chg [] w' w2) := Lib.hid (fun w' => (phunder_any w' p e.p (by omega) (by omega)).mono fun r w2 ⟨a, c⟩ => ⟨a, below_chgN c⟩)
  clear hs hpl DX
  by_cases hp : e.p = p
  · skip
    have DV : Hid ((decide (e.p = p) || underL p e.p) = true) := Lib.hid (by rw [decide_eq_true hp]; rfl)
    have e4 : (e.p == p) = true := by rw [hp]; exact beq_self_eq_true _
    have e5 : ((strOf e.p == strOf p) : Bool) = true := by rw [hp]; exact str_self _
    have e6 : ((strOf e.p != strOf p) : Bool) = false := by simp only [bne, e5]; rfl
    have e7 : (e.p != p) = false := by simp only [bne, e4]; rfl
    clear hp
    go_wp2
    go_ret
    exact ⟨by rw [DV.out]; rfl, C.out⟩
  · skip
    have DV : Hid ((decide (e.p = p) || underL p e.p) = underL p e.p) := Lib.hid (by rw [decide_eq_false hp]; rfl)
    have e1 := strOf_ne hp
    have e3 := strOf_ne2 hp
    have e4 : (e.p == p) = false := beq_eq_false_iff_ne.2 hp
    have e6 : ((strOf e.p != strOf p) : Bool) = true := by simp only [bne, e1]; rfl
    have e7 : (e.p != p) = true := by simp only [bne, e4]; rfl
    clear hp
    go_wp2_with fail
    refine (UX.out w1).mono ?_
    rintro r w5 ⟨rfl, hc⟩
    have C5 := Lib.hid (C.out.trans hc)
    clear hc UX z0 y0 e1 e3 e4 e6 e7
    go_wp2
    go_ret
    exact ⟨by rw [DV.out]; rfl, C5.out⟩
set_option maxRecDepth 100000 in
set_option maxHeartbeats 8000000 in
/-- table.Remove. -/
theorem tbremove_any (w : World) (A : Option Addr) (c : Nat) (xs : List EnT) (es : List EnP) (p : List UInt8) (hp : p.length ≤ 10000000) (h : RdK enTy w A xs.length xs) (hx : EnsR w xs es) (hn : xs.length ≤ 190) (hs : ∀ e ∈ es, EnSm e) :
    Calls Tryz.prog 37 #[.slice A xs.length c, .string (strOf p)] w fun r w' => ∃ (A' : Option Addr) (c' : Nat) (ys : List EnT), r = .returned (.tuple #[.slice A' ys.length c', .int .i64 (removeT es p).1]) ∧ NsF w' w.heap.size w'.heap.size A' c' ys (removeT es p).2 ∧ Chg [] w w' := by
  obtain ⟨R, hR⟩ : ∃ R, removeT es p = R := ⟨_, rfl⟩
  rw [hR]
  have HRR := Lib.hid hR
  obtain ⟨w1, hw, hc, b0⟩ := news1 w (.cells #[.string (strOf p)] 9)
  have W1 := Lib.hid hw
  obtain ⟨g0, hg0⟩ : ∃ g, w.heap.size = g := ⟨_, rfl⟩
  have G0 := Lib.hid hg0
  rw [hg0] at b0
  have B0 := Lib.hid b0
  have HA := Lib.hid (h.chg hc (by simp))
  have HX := Lib.hid (hx.chg hc)
  have C0 := Lib.hid hc
  have HN := Lib.hid hn
  have HS := Lib.hid hs
  have HP := Lib.hid hp
  have CK := Lib.hid (tbcheck_any w1 A c xs es (h.chg hc (by simp)) (hx.chg hc) (by omega) hs)
  clear hw hc b0 hg0 h hx hn hs hR hp
  go_enter Tryz.func37, Tryz.ntmps37
  go_upto_region 1 with fail
  rw [← W1.out, G0.out]
  clear W1
  go_wp2_with fail
  refine CK.out.mono ?_
  rintro r w2 ⟨rfl, hc⟩
  have C := Lib.hid hc
  clear hc CK
  rcases tabE_two es with e1 | e1
  rotate_left
  · have ER : Hid (R = (2, [])) := Lib.hid (by rw [← HRR.out]; unfold removeT; rw [if_pos (fun q => by rw [tabE_zero.2 q.1] at e1; cases e1)])
    rw [e1]
    clear e1
    go_wp2
    go_ret2
    rw [ER.out]
    exact ⟨none, 0, [], rfl, NsF.nil _ _ _, C0.out.trans C.out⟩
  have OK : Hid (TabOk es) := Lib.hid (tabE_zero.1 e1)
  rw [e1]
  clear e1
  have z0 := cell_of (C.out.at_ B0.out (by simp)) 0
  simp only [List.getElem?_toArray, List.getElem?_cons_zero] at z0
  have PC := Lib.hid ((phcheck_any w2 p (by have := HP.out; omega)).mono fun r w3 ⟨a, b⟩ => (⟨a, below_chgN b⟩ : _ ∧ Chg [] w2 w3))
  go_wp2_with fail
  clear z0
  refine PC.out.mono ?_
  rintro r w3 ⟨rfl, hc⟩
  replace C := Lib.hid (C.out.trans hc)
  clear hc PC
  by_cases hok : checkL 6 12 p = true
  rotate_left
  · have ER : Hid (R = (2, [])) := Lib.hid (by rw [← HRR.out]; unfold removeT; rw [if_pos (fun q => hok q.2)])
    rw [if_neg hok]
    clear hok
    go_wp2
    go_ret2
    rw [ER.out]
    exact ⟨none, 0, [], rfl, NsF.nil _ _ _, C0.out.trans C.out⟩
  have OP : Hid (okP p = true) := Lib.hid hok
  rw [if_pos hok]
  clear hok
  have z0 := cell_of (C.out.at_ B0.out (by simp)) 0
  simp only [List.getElem?_toArray, List.getElem?_cons_zero] at z0
  have FI := Lib.hid (tbfind_any w3 A c xs es p (HA.out.chg C.out (by simp)) (HX.out.chg C.out) (by have := HN.out; omega))
  go_wp2_with fail
  clear z0
  refine FI.out.mono ?_
  rintro r w4 ⟨⟨v, rfl, hv⟩, hc⟩
  have FV := Lib.hid (find_get hv)
  replace C := Lib.hid (C.out.trans hc)
  clear hv hc FI
  rcases FV.out with ⟨rfl, hg⟩ | ⟨k, e, rfl, ek, hg⟩
  · have ER : Hid (R = (6, [])) := Lib.hid (by rw [← HRR.out]; unfold removeT; rw [if_neg (fun q => q ⟨OK.out, OP.out⟩), if_pos hg])
    clear hg FV
    go_wp2
    go_ret2
    rw [ER.out]
    exact ⟨none, 0, [], rfl, NsF.nil _ _ _, C0.out.trans C.out⟩
  have ER : Hid (R = (0, es.filter (fun e => !(decide (e.p = p) || underL p e.p)))) := Lib.hid (by rw [← HRR.out]; unfold removeT; rw [if_neg (fun q => q ⟨OK.out, OP.out⟩), if_neg (by rw [hg]; simp)])
  have k2 : ¬ (k : Int) < 0 := by omega
  clear hg FV ek
  have FRS := Lib.hid (frentries_any w4 A c xs es (HA.out.chg C.out (by simp)) (HX.out.chg C.out) (by have := HN.out; omega) (fun e he => (HS.out e he).2))
  go_wp2_with fail
  refine FRS.out.mono ?_
  rintro r w5 ⟨A5, c5, ys, rfl, hyl, hf, hc⟩
  have F5 := Lib.hid hf
  have YL := Lib.hid hyl
  have S4 := Lib.hid (C0.out.trans C.out).size
  have SG : Hid (g0 < w4.heap.size) := Lib.hid (by have := lt_of_heap B0.out; have := C.out.size; omega)
  replace C := Lib.hid (C.out.trans hc)
  clear hyl hf hc FRS
  have BA : Hid (∀ x ∈ ys, ∀ a, x.A = some a → a.block ∉ blkOf A5) := Lib.hid (fun x hx a ha q => by
    obtain ⟨b, hb, e⟩ := of_blkOf q
    exact (F5.out.all.at_ x hx a ha).2.2 b hb e.symm)
  have GA : Hid (g0 ∉ blkOf A5) := Lib.hid (fun q => by
    obtain ⟨b, hb, e⟩ := of_blkOf q
    have := (F5.out.rowAt b hb).1
    have := SG.out
    omega)
  have DE := Lib.hid (enfdel_S (blkOf A5) w5 w5 w5 A5 c5 ys es 80 #[.pointer (some ⟨g0, 0, none⟩)] (fun e => decide (e.p = p) || underL p e.p) (enters_of Tryz.func80 (by kernel_rfl) rfl) F5.out.all.ev (Chg.refl _ _) F5.out.row (fun a ha => .inl (mem_blkOf ha)) F5.out.all.ev (by rw [YL.out]; have := HN.out; omega) (fun wr hcc i x e ex ee => tbremove1_any wr x e ((F5.out.all.ev.2 i x e ex ee).chgS hcc (BA.out x (List.mem_of_getElem? ex))) (HS.out e (List.mem_of_getElem? ee)).1 g0 p HP.out (hcc.at_ (C.out.at_ B0.out (by simp)) GA.out)))
  go_wp2_with fail
  refine DE.out.mono ?_
  rintro r w6 ⟨zs, rfl, hzl, hze, hzs, hzo, hc⟩
  have FIN : Hid (NsF w6 w4.heap.size w6.heap.size A5 c5 zs (es.filter (fun e => !(decide (e.p = p) || underL p e.p)))) := Lib.hid ⟨hzo, fun a ha => ⟨(F5.out.rowAt a ha).1, hzo.lt_ a ha⟩, ((F5.out.all.sub hze hzs).chg hc (fun j hj _ => by obtain ⟨b, hb, e⟩ := of_blkOf hj; exact ⟨b, hb, e⟩)).mono hc.size⟩
  have C6 : Hid (Chg [] w w6) := Lib.hid ((C0.out.trans C.out).trans' hc (fun j hj => by
    obtain ⟨b, hb, e⟩ := of_blkOf hj
    have := (F5.out.rowAt b hb).1
    have := S4.out
    exact .inr (by omega)))
  clear hzl hze hzs hzo hc DE BA GA
  go_wp2
  go_ret2
  rw [ER.out]
  exact ⟨A5, c5, zs, rfl, FIN.out.low S4.out, C6.out⟩
end
section
open Go.RowKit Go.Sort
set_option linter.unusedSimpArgs false
set_option linter.unusedVariables false
section
variable {α : Type} [Inhabited α] {R : RowTy α}

theorem flatK_flat (d : Array α) : (flatK R.enc R.k d).toList = R.flat d.toList := by
  refine R.flat_ext _ _ (by simp) ?_
  intro q i x hx hi
  rw [Array.getElem?_toList] at hx ⊢
  have hq : q < d.size := (Array.getElem?_eq_some_iff.1 hx).1
  have hlt : q * R.k + i < d.size * R.k := by
    have := Nat.mul_le_mul_right R.k (show q + 1 ≤ d.size by omega)
    rw [Nat.succ_mul] at this
    omega
  have e := get_flatK R.enc R.k d (q * R.k + i) hlt
  have h1 : (q * R.k + i) / R.k = q := by
    rw [Nat.add_comm, Nat.add_mul_div_right _ _ R.kpos, Nat.div_eq_of_lt hi, Nat.zero_add]
  have h2 : (q * R.k + i) % R.k = i := by rw [Nat.add_comm, Nat.add_mul_mod_self_right, Nat.mod_eq_of_lt hi]
  rw [h1, h2] at e
  have hd : d[q]! = x := by
    rw [getElem!_pos d q hq]
    rw [Array.getElem?_eq_getElem hq] at hx
    exact Option.some.inj hx
  rw [hd] at e
  have hs : q * R.k + i < (flatK R.enc R.k d).size := by simpa using hlt
  rw [getElem!_pos (flatK R.enc R.k d) _ hs] at e
  have hi2 : i < (R.enc x).length := by rw [R.klen]; exact hi
  rw [getElem!_pos (R.enc x) _ hi2] at e
  rw [Array.getElem?_eq_getElem hs, List.getElem?_eq_getElem hi2, e]
theorem OwnK.holds {w : World} {g c : Nat} {xs : List α} (h : OwnK R w (some ⟨g, 0, none⟩) c xs) : HoldsK R.enc R.k w g 0 xs.toArray := by
  rcases h with ⟨h, _⟩ | ⟨g', full, h, hg, hl, _, hn, ht⟩
  · cases h
  · cases h
    intro j hj
    refine ⟨?_, free_of hg _⟩
    rw [Nat.zero_add, cell_of hg]
    have hs : j < (flatK R.enc R.k xs.toArray).size := hj
    rw [getElem!_pos (flatK R.enc R.k xs.toArray) _ hs]
    have e := flatK_flat (R := R) xs.toArray
    simp only at e
    have e2 : (flatK R.enc R.k xs.toArray)[j]? = (R.flat xs)[j]? := by rw [← Array.getElem?_toList, e]
    rw [Array.getElem?_eq_getElem hs] at e2
    have e3 : (R.flat full)[j]? = (R.flat xs)[j]? := by
      have hj2 : j < xs.length * R.k := by simpa using hj
      conv => rhs; rw [← ht, R.flat_take, List.getElem?_take, if_pos hj2]
    show (R.flat full).toArray[j]? = some (id _)
    rw [List.getElem?_toArray, e3, ← e2]
    rfl
theorem putCells_flat (xs ys full : List α) (hl : ys.length = xs.length) (hf : full.take xs.length = xs) (hn : xs.length ≤ full.length) :
    (putCells id 0 (flatK R.enc R.k ys.toArray) (R.flat full).toArray) = (R.flat (ys ++ full.drop xs.length)).toArray := by
  apply Array.toList_inj.1
  apply List.ext_getElem?
  intro p
  have hsz : (flatK R.enc R.k ys.toArray).size = xs.length * R.k := by simp [hl]
  rw [show (R.flat (ys ++ full.drop xs.length)).toArray.toList = R.flat (ys ++ full.drop xs.length) by simp, R.flat_app, R.flat_drop]
  rw [Array.getElem?_toList]
  unfold putCells
  rw [Array.getElem?_mapIdx, List.getElem?_toArray]
  by_cases hp : p < xs.length * R.k
  · have hs : p < (flatK R.enc R.k ys.toArray).size := by omega
    have hp2 : p < (R.flat full).length := by rw [R.flat_len]; exact Nat.lt_of_lt_of_le hp (Nat.mul_le_mul_right _ hn)
    rw [List.getElem?_append_left (by rw [R.flat_len, hl]; exact hp), List.getElem?_eq_getElem hp2]
    simp only [Option.map_some, Nat.zero_le, true_and, Nat.zero_add]
    rw [if_pos hs, Nat.sub_zero, getElem!_pos (flatK R.enc R.k ys.toArray) _ hs]
    have e := flatK_flat (R := R) ys.toArray
    have e2 : (flatK R.enc R.k ys.toArray)[p]? = (R.flat ys)[p]? := by rw [← Array.getElem?_toList, e]
    rw [← e2, Array.getElem?_eq_getElem hs]
    rfl
  · rw [List.getElem?_append_right (by rw [R.flat_len, hl]; omega), R.flat_len, hl, List.getElem?_drop, show xs.length * R.k + (p - xs.length * R.k) = p by omega]
    cases (R.flat full)[p]? with
    | none => rfl
    | some v =>
      simp only [Option.map_some]
      rw [if_neg (by rw [hsz]; omega)]
theorem OwnK.sorted {w : World} {g c : Nat} {xs ys : List α} (h : OwnK R w (some ⟨g, 0, none⟩) c xs) (hl : ys.length = xs.length) (n : Nat) (os : Array Obj) :
    OwnK R (sortWorldK R.enc R.k w g 0 n ys.toArray os) (some ⟨g, 0, none⟩) c ys ∧ Chg [g] w (sortWorldK R.enc R.k w g 0 n ys.toArray os) := by
  rcases h with ⟨h, _⟩ | ⟨g', full, h, hg, hfl, hm, hn, ht⟩
  · cases h
  · cases h
    have hsz : (sortWorldK R.enc R.k w g 0 n ys.toArray os).heap = (w.heap.modify g (onCells (putCells id 0 (flatK R.enc R.k ys.toArray)))) ++ os := rfl
    have hgl := lt_of_heap hg
    refine ⟨.inr ⟨g, ys ++ full.drop xs.length, rfl, ?_, by simp; omega, hm, by omega, ?_⟩, ⟨rfl, rfl, rfl, by rw [hsz]; simp, fun i hi hne => ?_⟩⟩
    · rw [hsz, Array.getElem?_append_left (by simpa using hgl), Array.getElem?_modify, if_pos rfl, hg]
      simp only [Option.map_some, onCells]
      rw [putCells_flat xs ys full hl ht (by omega)]
    · exact List.take_left
    · rw [hsz, Array.getElem?_append_left (by simpa using hi), Array.getElem?_modify, if_neg (by simp at hne; exact fun h => hne h.symm)]
end
end
section
open Go.RowKit Go.Sort Go.Shelf
set_option linter.unusedSimpArgs false
set_option linter.unusedVariables false

theorem grow_ofp {w w' : World} (h : Chg [] w w') (hd : w.drawn ≤ w'.drawn) : ∃ q os, w' = Sort.grow (w.drewN q) os := by
  refine ⟨w'.drawn - w.drawn, w'.heap.extract w.heap.size w'.heap.size, ?_⟩
  obtain ⟨h1, h2, h3, h4, h5⟩ := h
  obtain ⟨hp, tp, dr, os, ou⟩ := w'
  obtain ⟨hp0, tp0, dr0, os0, ou0⟩ := w
  simp only at h1 h2 h3 h4 h5 hd ⊢
  subst h1 h2 h3
  simp only [Sort.grow, World.drewN, World.mk.injEq, true_and, and_true]
  refine ⟨?_, by omega⟩
  apply Array.ext_getElem?
  intro i
  by_cases hi : i < hp0.size
  · rw [Array.getElem?_append_left hi]
    exact h5 i hi (by simp)
  · rw [Array.getElem?_append_right (by omega), Array.getElem?_extract]
    by_cases hj : i < hp.size
    · rw [if_pos (by omega)]
      congr 1
      omega
    · rw [if_neg (by omega), Array.getElem?_eq_none (by omega)]
end
section
open Go.RowKit Go.Sort Go.Shelf
set_option linter.unusedSimpArgs false
set_option linter.unusedVariables false

theorem flatK_map {α β : Type} [Inhabited α] [Inhabited β] (R : RowTy α) (f : β → α) (ds : List β) : flatK (fun d => R.enc (f d)) R.k ds.toArray = flatK R.enc R.k (ds.map f).toArray := by
  have sz : (flatK (fun d => R.enc (f d)) R.k ds.toArray).size = ds.length * R.k := by simp
  have sz2 : (flatK R.enc R.k (ds.map f).toArray).size = ds.length * R.k := by simp
  apply Array.ext
  · rw [sz, sz2]
  · intro i h1 h2
    have hi : i < ds.length * R.k := by rw [← sz]; exact h1
    have hk := R.kpos
    have hq : i / R.k < ds.length := (Nat.div_lt_iff_lt_mul hk).2 hi
    have e1 := get_flatK (fun d => R.enc (f d)) R.k ds.toArray i (by simpa using hi)
    have e2 := get_flatK R.enc R.k (ds.map f).toArray i (by simpa using hi)
    rw [getElem!_pos _ i h1] at e1
    rw [getElem!_pos _ i h2] at e2
    rw [e1, e2]
    congr 2
    have a1 : ds.toArray[i / R.k]! = ds[i / R.k] := by rw [getElem!_pos _ _ (by simpa using hq)]; simp
    have a2 : (ds.map f).toArray[i / R.k]! = f ds[i / R.k] := by rw [getElem!_pos _ _ (by simpa using hq)]; simp
    rw [a1, a2]
theorem sortq_any {α β : Type} [Inhabited α] [Inhabited β] {R : RowTy α} {ρ : Ren} (L : SlLaysF0.n6 Tryz.prog ρ) (aE : ∀ w, (isAgg (ρ.t 24)).run Tryz.prog w = .ok true w) (zE : ∀ w, (Go.sizeOf (ρ.t 24)).run Tryz.prog w = .ok R.k w) (f : β → α) (cf : β → β → Int) (hO : SWO (ltOf cf)) (g : Nat) (eg : ∀ args w, (callFunc g args).run Tryz.prog w = .ok (.enter g args) w)
    (hcmp : ∀ (W : World) (x y : β), Calls Tryz.prog g #[.agg (R.enc (f x)).toArray, .agg (R.enc (f y)).toArray] W fun e w' => e = .returned (.int .i64 (cf x y)) ∧ Chg [] W w' ∧ W.drawn ≤ w'.drawn) (w : World) (A : Option Addr) (c : Nat) (ds : List β) (h : OwnK R w A c (ds.map f)) (hm : ds.length < 4611686018427387904) :
    Calls Tryz.prog (ρ.f 6) #[.slice A ds.length c, .func (.func g) #[] #[]] w fun e w' => e = .returned (.tuple #[]) ∧ ∃ es : List β, es.Perm ds ∧ es.Pairwise (fun x y => ltOf cf y x = false) ∧ OwnK R w' A c (es.map f) ∧ Chg (blkOf A) w w' := by
  rcases h.shape with ⟨rfl, hz, rfl⟩ | ⟨b, rfl, hblk⟩
  · have hz : ds = [] := by cases ds with | nil => rfl | cons _ _ => cases hz
    subst hz
    have := AnyF.slices_SortFunc_none L none 0 (.func (.func g) #[] #[]) w
    refine Calls.mono this ?_
    rintro e w' ⟨he, rfl⟩
    exact ⟨he, [], List.Perm.refl _, List.Pairwise.nil, OwnK.none_ _, Chg.refl _ _⟩
  · have hh : HoldsK (fun d => R.enc (f d)) R.k w b 0 ds.toArray := by
      have := h.holds
      unfold HoldsK at this ⊢
      rw [flatK_map]
      exact this
    have hc2 : CmpLays Tryz.prog g #[] (fun d => R.enc (f d)) R.k cf b 0 ds.toArray.size w := fun m os dk _ x y => by
      have := (hcmp (sortWorldK (fun d => R.enc (f d)) R.k w b 0 m dk os) x y).mono (fun e w' ⟨he, hc, hd⟩ => (⟨he, grow_ofp hc hd⟩ : e = Ending.returned (.int .i64 (cf x y)) ∧ ∃ q os', w' = grow ((sortWorldK (fun d => R.enc (f d)) R.k w b 0 m dk os).drewN q) os'))
      exact this
    have hcon := AnyQ.slices_SortFunc L R.k aE zE (fun d => R.enc (f d)) (fun d => R.klen (f d)) (fun d => R.one (f d)) cf hO g #[] b 0 c ds.toArray w eg hc2 hh hblk (by simpa using hm)
    refine Calls.mono hcon ?_
    rintro e w' ⟨he, d', n, os, ⟨hsz, _, hp⟩, hs, hw⟩
    have hlen : d'.toList.length = ds.length := by simpa using hsz
    have hsz2 : d'.size = ds.toArray.size := hsz
    have hp2 : d'.toList.Perm ds := by
      rw [← hsz, Array.extract_size] at hp
      rw [hsz, Array.extract_size] at hp
      simpa using hp
    have o := h.sorted (ys := d'.toList.map f) (by simpa using hlen) n os
    have e2 : sortWorldK (fun d => R.enc (f d)) R.k w b 0 n d' os = sortWorldK R.enc R.k w b 0 n (d'.toList.map f).toArray os := by
      have := flatK_map R f d'.toList
      rw [show d'.toList.toArray = d' by simp] at this
      unfold sortWorldK putRowK
      rw [this]
    rw [← e2, ← hw] at o
    refine ⟨he, d'.toList, hp2, ?_, o.1, by simpa [blkOf] using o.2⟩
    rw [List.pairwise_iff_getElem]
    intro i j hi hj hij
    have hi' : i < d'.size := by simpa using hi
    have hj' : j < d'.size := by simpa using hj
    have := hs i j (Nat.zero_le _) hij (by rw [← hsz2]; exact hj')
    rw [getElem!_pos d' j hj', getElem!_pos d' i hi'] at this
    simpa using this
end
end Go.Proofs.YtimdfpejgaidhaaGreatDoor
