/- ShelfOrder. -/
import Derived.Test.YtdfapiffalmjcaaGreatDoorZsaj
import Derived.Test.YtdfapiffalmjcaaGreatDoorZsad
import Derived.Test.YtdfapiffalmjcaaGreatDoorZsba
import Derived.Test.YtdfapiffalmjcaaGreatDoorZsda
import Derived.Test.YtdfapiffalmjcaaGreatDoorZsaa
import Derived.Test.YtdfapiffalmjcaaGreatDoorZsaq
import Derived.Test.YtdfapiffalmjcaaGreatDoorZsai
import Derived.Deep.Cut
import Derived.Deep.RegionHeld3
namespace Go.Proofs.YtdfapiffalmjcaaGreatDoor
section
open Go.RowKit Go.Lib
set_option linter.unusedSimpArgs false
set_option linter.unusedVariables false


set_option maxRecDepth 100000 in
set_option maxHeartbeats 8000000 in
theorem l9has_any (w : World) (A : Option Addr) (c : Nat) (xs : List EvT) (es : List EvP) (y : EvT) (f : EvP) (h : RdK evTy w A xs.length xs) (hx : EvsR w xs es) (hn : xs.length ≤ 1000) (hs : ∀ e ∈ es, e.q.length ≤ 140737488351232) (hy : EvR w y f) (ht : f.q.length ≤ 140737488351232) :
    Calls Tryz.prog 25 #[.slice A xs.length c, .agg #[.int .i64 y.n, .int .i64 y.s, .string y.p, .int .i64 y.k, .int .i64 y.m, .slice y.A y.l y.c, .slice y.B y.bl y.bc]] w fun r w' => r = .returned (.bool (es.any (fun y => sameP y f))) ∧ Chg [] w w' := by

  obtain ⟨w1, hw1, c1, b1⟩ := news1 w (.cells #[.int .i64 y.n, .int .i64 y.s, .string y.p, .int .i64 y.k, .int .i64 y.m, .slice y.A y.l y.c, .slice y.B y.bl y.bc] 30)
  have W1 := Lib.hid hw1
  have C1 := Lib.hid c1
  have B1 := Lib.hid b1
  have HA := Lib.hid (h.chg c1 (by simp))
  have HX := Lib.hid (hx.chg c1)
  have HN := Lib.hid hn
  have HS := Lib.hid hs
  have HY := Lib.hid (hy.chg c1)
  have HT := Lib.hid ht
  clear hw1 c1 b1 h hx hn hs hy ht
  go_enter Tryz.func25, Tryz.ntmps25
  go_upto_region 1 with fail
  rw [← W1.out]
  generalize w.heap.size = g1 at *
  clear W1
  go_wp2
  go_loopw [5] (fun v5 wr => ∃ (k : Nat), k ≤ xs.length ∧ v5 = .int .i64 k ∧ Hid (∀ x ∈ es.take k, sameP x f = false) ∧ Hid (Chg [] w1 wr)) (fun v5 _ => xs.length - (RowKit.intOf v5).toNat)
  case atStart => exact ⟨0, Nat.zero_le _, rfl, Lib.hid (by simp), Chg.refl _ _⟩
  case round =>
    obtain ⟨k, hk, rfl, NS, PC⟩ := hrel
    have j0 : (0 : Int) ≤ (k : Int) := by omega
    by_cases hlt : k < xs.length
    · have j1 : (k : Int) < (xs.length : Int) := by omega
      have j3 : IntKind.i64.wrap ((k : Int) + 1) = (k : Int) + 1 := IntWalk.i64_in _ (by have := HN.out; omega)
      obtain ⟨g3, o3, eA, _⟩ := HA.out.line (by omega)
      subst eA
      obtain ⟨x, e, ex, ee, rx⟩ := HX.out.at_ hlt
      have EX := Lib.hid ex
      have EE := Lib.hid ee
      have EM := Lib.hid (List.mem_of_getElem? ee)
      have HB : Hid (∀ w', Chg [] w1 w' → (w'.cell? ⟨g1, 0, none⟩ = some (.int .i64 y.n) ∧ w'.cell? ⟨g1, 1, none⟩ = some (.int .i64 y.s) ∧ w'.cell? ⟨g1, 2, none⟩ = some (.string y.p) ∧ w'.cell? ⟨g1, 3, none⟩ = some (.int .i64 y.k) ∧ w'.cell? ⟨g1, 4, none⟩ = some (.int .i64 y.m) ∧ w'.cell? ⟨g1, 5, none⟩ = some (.slice y.A y.l y.c) ∧ w'.cell? ⟨g1, 6, none⟩ = some (.slice y.B y.bl y.bc))) := Lib.hid (fun w' hc => by
        have b := hc.at_ B1.out (by simp)
        exact ⟨cell_of b 0, cell_of b 1, cell_of b 2, cell_of b 3, cell_of b 4, cell_of b 5, cell_of b 6⟩)
      have HC : Hid (∀ w', Chg [] w1 w' → _) := Lib.hid (fun w' hc => evCells (HA.out.chg hc (by simp)) EX.out)
      have SE : Hid (∀ w', Chg [] w1 w' → Calls Tryz.prog 62 #[.agg #[.int .i64 x.n, .int .i64 x.s, .string x.p, .int .i64 x.k, .int .i64 x.m, .slice x.A x.l x.c, .slice x.B x.bl x.bc], .agg #[.int .i64 y.n, .int .i64 y.s, .string y.p, .int .i64 y.k, .int .i64 y.m, .slice y.A y.l y.c, .slice y.B y.bl y.bc]] w' fun r w2 => r = .returned (.bool (sameP e f)) ∧ Chg [] w' w2) := Lib.hid (fun w' hc => evsame_any w' x y e f (rx.chg hc) (HY.out.chg hc) ⟨HS.out e EM.out, HT.out⟩)
      clear ex ee rx
      go_upto_region 4 with fail
      refine wp_region_held_drew (S := fun w' => Chg [] w1 w') (by kernel_rfl) (PC.out.trans (Chg.refl [] wr).drew) (fun hHeld => ?_)
      refine sy 0 12 rfl rfl ?_
      try simp only [Act.put, sA, s0, s1]
      refine sy 1 13 rfl rfl ?_
      try simp only [Act.put, sA, s0, s1]
      refine sy 2 14 rfl rfl ?_
      try simp only [Act.put, sA, s0, s1]
      refine sy 3 15 rfl rfl ?_ (hy := by (intro w hSw; (try dsimp only at hSw); have hq := HC.out _ hSw; obtain ⟨q0, q1, q2, q3, q4, q5, q6⟩ := hq; go_simp; try with_reducible rfl))
      try simp only [Act.put, sA, s0, s1]
      refine sy 4 16 rfl rfl ?_ (hy := by (intro w hSw; (try dsimp only at hSw); have hq := HB.out _ hSw; obtain ⟨q0, q1, q2, q3, q4, q5, q6⟩ := hq; go_simp; try with_reducible rfl))
      try simp only [Act.put, sA, s0, s1]
      refine wpAnyH_ready (rs := [5]) (by kernel_rfl) (by simp) ?_
      refine AllReadyH.cons rfl (fun K hK => ?_) AllReadyH.nil
      replace hK := Lib.hid hK
      go_simp
      refine (SE.out _ hHeld).mono ?_
      rintro r w9 ⟨rfl, hc⟩
      have C9 := Lib.hid (hHeld.trans hc)
      clear hc hHeld
      refine hK.out _ _ C9.out (fun hHeld => ?_)
      clear hK K
      try simp only [Act.put, sA, s0, s1]
      refine wpAnyH_done (by kernel_rfl) ?_ _
      clear hHeld HB HC SE PC
      rcases ha : sameP e f with _ | _
      · have NS1 : Hid (∀ x ∈ es.take (k + 1), sameP x f = false) := Lib.hid (fun z hz => by
          rw [List.take_add_one, EE.out] at hz
          rcases List.mem_append.1 hz with q | q
          · exact NS.out z q
          · simp at q; subst q; exact ha)
        clear ha NS
        go_wp2
        go_round
        case rel => exact ⟨k + 1, by omega, by go_num, NS1, C9⟩
        case measure => simp [RowKit.intOf]; omega
      · have YES : Hid (es.any (fun y => sameP y f) = true) := Lib.hid (List.any_eq_true.2 ⟨e, EM.out, ha⟩)
        clear ha
        go_wp2
        go_ret
        rw [YES.out]
        exact ⟨rfl, C1.out.trans C9.out⟩
    · obtain rfl : k = xs.length := by omega
      have j1 : ¬ (xs.length : Int) < (xs.length : Int) := by omega
      have NO : Hid (es.any (fun y => sameP y f) = false) := Lib.hid (by
        rw [List.any_eq_false]
        intro z hz
        have := NS.out z (by rw [HX.out.1, List.take_length]; exact hz)
        rw [this]
        decide)
      go_wp2
      go_ret
      rw [NO.out]
      exact ⟨rfl, C1.out.trans PC.out⟩

theorem joinT9 {α β γ δ ε ζ η θ ι : Type} {F R : α → β → γ → δ → ε → ζ → η → θ → ι → Prop} {G : Prop} (h1 : (∀ a b c d e f g h i, F a b c d e f g h i → R a b c d e f g h i) → G) (h2 : ∀ a b c d e f g h i, F a b c d e f g h i → R a b c d e f g h i) : G := h1 h2
theorem own_emptyE {w : World} {g : Nat} (h : w.heap[g]? = some (.cells #[] 30)) : OwnK evTy w (some ⟨g, 0, none⟩) 0 [] := .of (full := []) h (Nat.le_refl _) (Nat.zero_le _) rfl rfl
theorem sizedE {w2 w : World} {p : Nat} (hC : Chg [] w2 w) (h : w.heap.size = p) : ∀ a, (some ⟨p, 0, none⟩ : Option Addr) = some a → w2.heap.size ≤ a.block := by
  rintro a e; cases e; have := hC.size; show _ ≤ p; omega
theorem rd_overE {w w' : World} {g0 gx : Nat} {x : EvT} (h : RdK evTy w (some ⟨gx, 0, none⟩) 1 [x]) (hne : gx ≠ g0) (g : w.grownBy w' ((some (⟨g0, 0, none⟩ : Addr)).map (·.block))) : RdK evTy w' (some ⟨gx, 0, none⟩) 1 [x] :=
  h.chg ((Chg.refl [g0] w).grown g (by simp)) (by rintro a h; cases h; simpa using hne)
theorem mem_ins {α : Type} {l : List α} {x u : α} {k : Nat} : u ∈ l.take k ++ x :: l.drop k ↔ u ∈ l ∨ u = x := by
  rw [List.mem_append, List.mem_cons]
  have h : u ∈ l ↔ u ∈ l.take k ∨ u ∈ l.drop k := by rw [← List.mem_append, List.take_append_drop]
  rw [h]
  constructor
  · rintro (a | a | a)
    · exact .inl (.inl a)
    · exact .inr a
    · exact .inl (.inr a)
  · rintro ((a | a) | a)
    · exact .inl a
    · exact .inr (.inr a)
    · exact .inr (.inl a)
theorem has_tops {U T : List EvP} (hU : closedE U = true) (hT : ∀ x ∈ T, x ∈ U) {x : EvP} (hx : x ∈ T) : (T.foldl putE []).any (fun y => sameP y x) = !T.any (fun y => aheadP x y) := by
  rw [← top_has hU hT (puts_all hU hT) hx]
  rw [Bool.eq_iff_iff, List.any_eq_true, List.any_eq_true]
  constructor
  · rintro ⟨y, hy, q⟩
    refine ⟨y, hy, ?_⟩
    unfold sameP at q
    simp only [Bool.and_eq_true] at q
    exact q.1.1.1
  · rintro ⟨y, hy, q⟩
    refine ⟨y, hy, ?_⟩
    have d := of_decide_eq_true q
    have m : y ∈ T := (puts_mem hy).elim (fun q => by simp at q) id
    have e : y = x := cl_dot hU (hT y m) (hT x hx) d.1 d.2
    rw [e]
    unfold sameP
    simp
set_option maxRecDepth 100000 in
set_option maxHeartbeats 32000000 in
theorem shelforder_yes (w : World) (A : Option Addr) (n c : Nat) (xs : List EvT) (es : List EvP) (hb : RdK evTy w A n xs) (hr : EvsR w xs es) (hn : n * 96 ≤ 140737488351232) (hm : n ≤ c) (hz : ∀ (i : Nat) (x : EvT) (e : EvP), xs[i]? = some x → es[i]? = some e → EvZ x e) (B : Option Addr) (nb cb0 : Nat) (bs : List Int) (hbs : Is w B nb bs) (hnb : nb * 8 ≤ 140737488351232) (D : Option Addr) (nd cd0 : Nat) (ds : List Bool) (hds : RdK boolTy w D nd ds) (hnd : nd * 1 ≤ 140737488351232) :
    Calls Tryz.prog 4 #[.slice A n c, .slice B nb cb0, .slice D nd cd0] w fun r w' => r = .returned (.bool true) ∧ Chg [] w w' := by

  have hl := hb.len
  subst hl
  have HFT := Lib.hid (fit_args hr hz)
  have HL0 : Hid (xs.length ≤ 140737488351232) := Lib.hid (by omega)
  have XL : Hid (∀ x ∈ xs, x.l ≤ 140737488351232) := Lib.hid (fun x hx => by
    obtain ⟨i, hi⟩ := List.getElem?_of_mem hx
    obtain ⟨x2, e, ex, ee, rx⟩ := hr.at_ (show i < xs.length from (List.getElem?_eq_some_iff.1 hi).1)
    rw [hi] at ex
    cases ex
    have a := rx.l
    have b := (hz i x e hi ee).1
    omega)
  have hlb := hbs.len
  subst hlb
  have hld := hds.len
  subst hld
  have HA := Lib.hid hb
  have HR := Lib.hid hr
  have HB := Lib.hid hbs
  have HD := Lib.hid hds
  have C := Lib.hid (Chg.refl [] w)
  clear hb hr hn hm hz hbs hds hnb hnd
  go_enter Tryz.func4, Tryz.ntmps4
  go_wp2_with fail
  refine (shelfknown_run w).mono ?_
  rintro r w0 ⟨rfl, hc⟩
  replace C := Lib.hid (C.out.trans hc)
  clear hc
  go_wp2_with fail
  have lv := longevs_any w0 A c xs 12 (HA.out.chg C.out (by simp)) HL0.out (by omega) XL.out
  rw [show ((12 : Nat) : Int) = 12 from rfl] at lv
  refine lv.mono ?_
  rintro r w1 ⟨rfl, hc⟩
  clear lv
  replace C := Lib.hid (C.out.trans hc)
  clear hc
  rcases hlong : longE xs 12 with _ | _
  rotate_left
  · go_wp2
    go_ret
    first | exact C.out | exact ⟨rfl, C.out⟩
  have sm := smallEvs HR.out hlong
  have SM : Hid (∀ e ∈ es, EvSm e ∧ e.q.length ≤ 100000) := Lib.hid (fun e he => ⟨(sm.1 e he).1, by have := (sm.1 e he).2.1; omega⟩)
  have LN : Hid (xs.length ≤ 12) := Lib.hid sm.2
  clear sm hlong
  go_wp2_with fail
  refine (evclosed_any w1 A c xs es (HA.out.chg C.out (by simp)) (HR.out.chg C.out) (HFT.out.chg C.out) (by have := LN.out; omega) (fun e he => (SM.out e he).1)).mono ?_
  rintro r w2 ⟨rfl, hc⟩
  replace C := Lib.hid (C.out.trans hc)
  clear hc
  rcases hcl : closedE es with _ | _
  · go_wp2
    go_ret
    first | exact C.out | exact ⟨rfl, C.out⟩
  have CL := Lib.hid hcl
  clear hcl
  go_wp2_with fail
  refine (l9at_any w2 A c xs es (HA.out.chg C.out (by simp)) (HR.out.chg C.out) (by have := LN.out; omega)).mono ?_
  rintro r w3 ⟨A0, c0, ys, fs, rfl, ho, he, hin, hle, hsp, hnw, hc⟩
  have HF := Lib.hid ho.reads
  have FE := Lib.hid (he.chg hc)
  have FIN := Lib.hid hin
  have FSP := Lib.hid hsp
  have FL : Hid (ys.length ≤ 12) := Lib.hid (by have := LN.out; omega)
  replace C := Lib.hid (C.out.trans hc)
  clear hc ho he hin hle hsp hnw
  have CHK : Hid (∀ e ∈ fs, chkEv e = 0) := Lib.hid (fun e he => cl_chk CL.out (FIN.out e he))
  have SMF : Hid (∀ e ∈ fs, EvSm e ∧ e.q.length ≤ 100000) := Lib.hid (fun e he => SM.out e (FIN.out e he))
  have SMQ : Hid (∀ e ∈ fs, e.q.length ≤ 140737488351232) := Lib.hid (fun e he => by have := (SMF.out e he).2; omega)
  have C3 := C
  have D := Lib.hid (Chg.refl [] w3)
  clear C
  go_wp2_with fail
  refine (l9all_any w3 A0 c0 ys fs HF.out FE.out (by have := FL.out; omega) SMF.out CHK.out FSP.out).mono ?_
  rintro r w4 ⟨AA, cA, za, rfl, he, hc⟩
  have GA := Lib.hid he
  replace D := Lib.hid (D.out.trans hc)
  clear hc he
  have D4 := D
  clear D
  go_wp2
  go_loopw [10, 11, 12] (fun v10 v11 v12 wr => ∃ (i : Nat) (A2 : Option Addr) (c2 : Nat) (zs : List EvT) (gs : List EvP), i ≤ ys.length ∧ v11 = .int .i64 (i : Int) ∧ v10 = .slice A2 zs.length c2 ∧ Hid (OwnK evTy wr A2 c2 zs) ∧ Hid (EvsR w3 zs gs) ∧ Hid ((∀ x, x ∈ gs ↔ x ∈ fs.take i) ∧ zs.length ≤ 2 * i) ∧ Hid (∀ a, A2 = some a → w4.heap.size ≤ a.block) ∧ Hid (Chg [] w4 wr)) (fun _ v11 _ _ => ys.length - (RowKit.intOf v11).toNat)
  case atStart => exact ⟨0, none, 0, [], [], Nat.zero_le _, rfl, rfl, OwnK.none_ _, Lib.hid (EvsR.nil _), Lib.hid (by simp), Lib.hid (by simp), Chg.refl _ _⟩
  case round =>
    obtain ⟨i, A2, c2, zs, gs, hi, rfl, rfl, TO, TE, TM, TN, PC⟩ := hrel
    have j0 : (0 : Int) ≤ (i : Int) := by omega
    by_cases hlt : i < ys.length
    · have j1 : (i : Int) < (ys.length : Int) := by omega
      have j3 : IntKind.i64.wrap ((i : Int) + 1) = (i : Int) + 1 := IntWalk.i64_in _ (by have := FL.out; omega)
      obtain ⟨g3, o3, eA, _⟩ := HF.out.line (by omega)
      subst eA
      obtain ⟨x, e, ex, ee, rx⟩ := FE.out.at_ hlt
      have EX := Lib.hid ex
      have RX := Lib.hid rx
      have ET : Hid (fs.take (i + 1) = fs.take i ++ [e]) := Lib.hid (by rw [List.take_add_one, ee]; rfl)
      have ZLN : Hid (zs.length ≤ 24) := Lib.hid (by have := TM.out.2; have := FL.out; omega)
      clear ex ee rx
      by_cases hP : i < bs.length
      rotate_left
      · have P1 : ¬ (i : Int) < (bs.length : Int) := by omega
        obtain ⟨kz, hkz⟩ : ∃ kz : Nat, kz = 0 := ⟨0, rfl⟩
        have KL : Hid (kz ≤ zs.length) := Lib.hid (by omega)
        have KZ : Hid (((0 : Int)) = (kz : Int)) := Lib.hid (by rw [hkz]; rfl)
        clear hkz
        go_upto_region 11 with fail
        rw [KZ.out]
        rcases TO.out.shape with ⟨hA2, hzs, hc2⟩ | ⟨g2, hA2, _⟩
        · subst hA2 hzs hc2
          have hgs : gs = [] := List.length_eq_zero_iff.1 (by have := TE.out.1; simpa using this.symm)
          subst hgs
          have K0 : kz = 0 := by have := KL.out; simpa using this
          subst K0
          go_upto_region 13 with fail
          have XC : Hid (∀ w', Chg [] wr w' → _) := Lib.hid (fun w' hc => evCells (HF.out.chg (D4.out.trans (PC.out.trans hc)) (by simp)) EX.out)
          refine wp_region_held_drew (S := fun w' => w'.cell? ⟨g3, o3 + i * 7, none⟩ = some (.int .i64 x.n) ∧ w'.cell? ⟨g3, o3 + i * 7 + 1, none⟩ = some (.int .i64 x.s) ∧ w'.cell? ⟨g3, o3 + i * 7 + 2, none⟩ = some (.string x.p) ∧ w'.cell? ⟨g3, o3 + i * 7 + 3, none⟩ = some (.int .i64 x.k) ∧ w'.cell? ⟨g3, o3 + i * 7 + 4, none⟩ = some (.int .i64 x.m) ∧ w'.cell? ⟨g3, o3 + i * 7 + 5, none⟩ = some (.slice x.A x.l x.c) ∧ w'.cell? ⟨g3, o3 + i * 7 + 6, none⟩ = some (.slice x.B x.bl x.bc)) (by kernel_rfl) (XC.out _ (Chg.refl [] wr).drew) (fun hHeld => ?_)
          have KD := Lib.hid (Chg.refl [] wr).drew
          clear hHeld
          generalize wr.drew = wd at *
          have DX : Hid (∀ w', Chg [] wd w' → _) := Lib.hid (fun w' hc => XC.out w' (KD.out.trans hc))
          have R1 : Hid (∀ w', Chg [] wd w' → RdK evTy w' none 0 (([] : List EvT).take 0)) := Lib.hid (fun w' hc => RdK.nil w' none)
          have R2 : Hid (∀ w', Chg [] wd w' → RdK evTy w' none 0 (([] : List EvT).drop 0)) := Lib.hid (fun w' hc => RdK.nil w' none)
          have N1 : Hid ((0 + (0)) * 400 ≤ 140737488355327) := Lib.hid (by have := ZLN.out; have := KL.out; omega)
          have N2 : Hid ((0 + 1) * 400 ≤ 140737488355327) := Lib.hid (by have := ZLN.out; have := KL.out; omega)
          have N3 : Hid ((0 + 1 + (0)) * 400 ≤ 140737488355327) := Lib.hid (by have := ZLN.out; have := KL.out; omega)
          have L1 : Hid (([] ++ ([] : List EvT).take (0)).length = 0) := Lib.hid (by have := KL.out; simp; try omega)
          have L2 : Hid (([] ++ ([] : List EvT).take (0) ++ [x]).length = 0 + 1) := Lib.hid (by have := KL.out; simp; try omega)
          obtain ⟨wc, hwc⟩ : ∃ wc, wd = wc := ⟨_, rfl⟩
          have C : Hid (Chg [] wd wc) := Lib.hid (hwc ▸ Chg.refl [] wd)
          rw [hwc]
          clear hwc
          refine' joinT9 (F := fun (p q : Nat) (A5 : Option Addr) (c5 : Nat) (A6 : Option Addr) (c6 : Nat) (A7 : Option Addr) (c7 : Nat) (w7 : World) => Hid (OwnK evTy w7 A7 c7 (([] : List EvT).take (0) ++ x :: ([] : List EvT).drop (0))) ∧ Hid (∀ a, A7 = some a → wd.heap.size ≤ a.block) ∧ Hid (Chg [] wd w7)) (R := _) (fun JOIN => ?leaf) ?rest
          case leaf =>
            refine sy 1 53 rfl rfl ?_ (hS := (DX.out _ C.out))
            try simp only [Act.put, sA, s0, s1]
            refine sy 2 54 rfl rfl ?_ (hS := (DX.out _ C.out))
            try simp only [Act.put, sA, s0, s1]
            refine sy 3 55 rfl rfl ?_ (hS := (DX.out _ C.out))
            try simp only [Act.put, sA, s0, s1]
            refine sy 5 57 rfl rfl ?_ (hS := (DX.out _ C.out))
            try simp only [Act.put, sA, s0, s1]
            refine sy 6 58 rfl rfl ?_ (hS := (DX.out _ C.out))
            try simp only [Act.put, sA, s0, s1]
            refine sy 7 59 rfl rfl ?_ (hS := (DX.out _ C.out))
            try simp only [Act.put, sA, s0, s1]
            refine sy 8 60 rfl rfl ?_ (hS := (DX.out _ C.out)) (hy := by (intro w hSw; (try dsimp only at hSw); obtain ⟨q0, q1, q2, q3, q4, q5, q6⟩ := hSw; go_simp; try with_reducible rfl))
            try simp only [Act.put, sA, s0, s1]
            refine sy 11 63 rfl rfl ?_ (hS := (DX.out _ C.out))
            try simp only [Act.put, sA, s0, s1]
            refine sy 12 64 rfl rfl ?_ (hS := (DX.out _ C.out))
            try simp only [Act.put, sA, s0, s1]
            refine sy 13 65 rfl rfl ?_ (hS := (DX.out _ C.out))
            try simp only [Act.put, sA, s0, s1]
            refine wpAnyH_ready (rs := [0, 9]) (by kernel_rfl) (by simp) ?_
            refine AllReadyH.cons rfl (fun K hK => ?_) (AllReadyH.cons rfl (fun K hK => ?_) AllReadyH.nil)
            · skip
              replace hK := Lib.hid hK
              have hHeld := DX.out _ C.out
              obtain ⟨q0, q1, q2, q3, q4, q5, q6⟩ := hHeld
              obtain ⟨pe, hpp⟩ : ∃ p, wc.heap.size = p := ⟨_, rfl⟩
              have SZpe := Lib.hid (sizedE C.out hpp)
              have NSpe := Lib.hid hpp
              clear hpp
              go_simp
              clear q0 q1 q2 q3 q4 q5 q6
              obtain ⟨wc, hw, cn, bn⟩ := news1 wc (.cells #[] 30)
              rw [← hw, NSpe.out]
              rw [NSpe.out] at bn
              have EO := Lib.hid (own_emptyE bn)
              have LTpe := Lib.hid (lt_of_heap bn)
              replace C := Lib.hid (C.out.trans cn)
              try replace XR := Lib.hid (XR.out.chg cn (by simp))
              try have NE : Hid (px ≠ pe) := Lib.hid (by have := NSpe.out; have := LTpx.out; omega)
              clear hw cn bn
              refine hK.out _ _ (DX.out _ C.out) (fun hHeld => ?_)
              clear hK K
              try simp only [Act.put, sA, s0, s1]
              refine wpAnyH_ready (rs := [4, 9]) (by kernel_rfl) (by simp) ?_
              refine AllReadyH.cons rfl (fun K hK => ?_) (AllReadyH.cons rfl (fun K hK => ?_) AllReadyH.nil)
              · skip
                replace hK := Lib.hid hK
                refine step_appK (R := evTy) rfl (.tmp 52) (.tmp 55) rfl rfl (A := some ⟨pe, 0, none⟩) (B := none) (n := 0) (m := 0) (c := 0) (d := 0) (xs := []) (ys := ([] : List EvT).take (0)) EO.out rfl rfl (R1.out _ C.out) N1.out ?_
                rw [Nat.zero_add]
                intro A5 c5 wc o5 g5 e5
                have O5 := Lib.hid o5
                have F5 := Lib.hid (fresh_appE SZpe.out C.out g5 e5)
                replace C := Lib.hid F5.out.2
                try replace XR := Lib.hid (rd_overE XR.out NE.out g5)
                clear o5 g5 e5
                refine hK.out _ _ (DX.out _ C.out) (fun hHeld => ?_)
                clear hK K
                try simp only [Act.put, sA, s0, s1]
                refine wpAnyH_ready (rs := [9]) (by kernel_rfl) (by simp) ?_
                refine AllReadyH.cons rfl (fun K hK => ?_) AllReadyH.nil
                replace hK := Lib.hid hK
                have hHeld := DX.out _ C.out
                obtain ⟨q0, q1, q2, q3, q4, q5, q6⟩ := hHeld
                obtain ⟨px, hpp⟩ : ∃ p, wc.heap.size = p := ⟨_, rfl⟩
                have SZpx := Lib.hid (sizedE C.out hpp)
                have NSpx := Lib.hid hpp
                clear hpp
                go_simp
                clear q0 q1 q2 q3 q4 q5 q6
                obtain ⟨wc, hw, cn, bn⟩ := news1 wc (.cells #[.int .i64 x.n, .int .i64 x.s, .string x.p, .int .i64 x.k, .int .i64 x.m, .slice x.A x.l x.c, .slice x.B x.bl x.bc] 30)
                rw [← hw, NSpx.out]
                rw [NSpx.out] at bn
                have XR := Lib.hid (rd_oneEc (X := x) bn)
                have LTpx := Lib.hid (lt_of_heap bn)
                replace C := Lib.hid (C.out.trans cn)
                try replace EO := Lib.hid (EO.out.chg cn (by simp))
                try replace O5 := Lib.hid (O5.out.chg cn (by simp))
                try have NE : Hid (px ≠ pe) := Lib.hid (by have := NSpx.out; have := LTpe.out; omega)
                clear hw cn bn
                refine hK.out _ _ (DX.out _ C.out) (fun hHeld => ?_)
                clear hK K
                try simp only [Act.put, sA, s0, s1]
                refine wpAnyH_ready (rs := [10]) (by kernel_rfl) (by simp) ?_
                refine AllReadyH.cons rfl (fun K hK => ?_) AllReadyH.nil
                replace hK := Lib.hid hK
                refine step_appK (R := evTy) rfl (.tmp 56) (.tmp 61) rfl rfl (A := A5) (B := some ⟨px, 0, none⟩) (n := 0) (m := 1) (c := c5) (d := 1) (xs := [] ++ ([] : List EvT).take (0)) (ys := [x]) O5.out L1.out rfl XR.out N2.out ?_
                intro A6 c6 wc o6 g6 e6
                have O6 := Lib.hid o6
                have F6 := Lib.hid (fresh_appE F5.out.1 C.out g6 e6)
                replace C := Lib.hid F6.out.2
                clear o6 g6 e6
                refine hK.out _ _ (DX.out _ C.out) (fun hHeld => ?_)
                clear hK K
                try simp only [Act.put, sA, s0, s1]
                refine wpAnyH_ready (rs := [14]) (by kernel_rfl) (by simp) ?_
                refine AllReadyH.cons rfl (fun K hK => ?_) AllReadyH.nil
                replace hK := Lib.hid hK
                refine step_appK (R := evTy) rfl (.tmp 62) (.tmp 65) rfl rfl (A := A6) (B := none) (n := 0 + 1) (m := 0) (c := c6) (d := 0) (xs := [] ++ ([] : List EvT).take (0) ++ [x]) (ys := ([] : List EvT).drop (0)) O6.out L2.out rfl (R2.out _ C.out) N3.out ?_
                intro A7 c7 wc o7 g7 e7
                have O7 := Lib.hid o7
                have F7 := Lib.hid (fresh_appE F6.out.1 C.out g7 e7)
                replace C := Lib.hid F7.out.2
                clear o7 g7 e7
                refine hK.out _ _ (DX.out _ C.out) (fun hHeld => ?_)
                clear hK K
                try simp only [Act.put, sA, s0, s1]
                refine sy 15 10 rfl rfl ?_ (hS := (DX.out _ C.out))
                try simp only [Act.put, sA, s0, s1]
                refine wpAnyH_done (by kernel_rfl) ?_ _
                clear hHeld
                have O8 : Hid (OwnK evTy wc A7 c7 (([] : List EvT).take (0) ++ x :: ([] : List EvT).drop (0))) := Lib.hid (by have q := O7.out; simpa using q)
                exact JOIN pe px A5 c5 A6 c6 A7 c7 wc ⟨O8, Lib.hid F7.out.1, C⟩
              · skip
                replace hK := Lib.hid hK
                have hHeld := DX.out _ C.out
                obtain ⟨q0, q1, q2, q3, q4, q5, q6⟩ := hHeld
                obtain ⟨px, hpp⟩ : ∃ p, wc.heap.size = p := ⟨_, rfl⟩
                have SZpx := Lib.hid (sizedE C.out hpp)
                have NSpx := Lib.hid hpp
                clear hpp
                go_simp
                clear q0 q1 q2 q3 q4 q5 q6
                obtain ⟨wc, hw, cn, bn⟩ := news1 wc (.cells #[.int .i64 x.n, .int .i64 x.s, .string x.p, .int .i64 x.k, .int .i64 x.m, .slice x.A x.l x.c, .slice x.B x.bl x.bc] 30)
                rw [← hw, NSpx.out]
                rw [NSpx.out] at bn
                have XR := Lib.hid (rd_oneEc (X := x) bn)
                have LTpx := Lib.hid (lt_of_heap bn)
                replace C := Lib.hid (C.out.trans cn)
                try replace EO := Lib.hid (EO.out.chg cn (by simp))
                try replace O5 := Lib.hid (O5.out.chg cn (by simp))
                try have NE : Hid (px ≠ pe) := Lib.hid (by have := NSpx.out; have := LTpe.out; omega)
                clear hw cn bn
                refine hK.out _ _ (DX.out _ C.out) (fun hHeld => ?_)
                clear hK K
                try simp only [Act.put, sA, s0, s1]
                refine wpAnyH_ready (rs := [4]) (by kernel_rfl) (by simp) ?_
                refine AllReadyH.cons rfl (fun K hK => ?_) AllReadyH.nil
                replace hK := Lib.hid hK
                refine step_appK (R := evTy) rfl (.tmp 52) (.tmp 55) rfl rfl (A := some ⟨pe, 0, none⟩) (B := none) (n := 0) (m := 0) (c := 0) (d := 0) (xs := []) (ys := ([] : List EvT).take (0)) EO.out rfl rfl (R1.out _ C.out) N1.out ?_
                rw [Nat.zero_add]
                intro A5 c5 wc o5 g5 e5
                have O5 := Lib.hid o5
                have F5 := Lib.hid (fresh_appE SZpe.out C.out g5 e5)
                replace C := Lib.hid F5.out.2
                try replace XR := Lib.hid (rd_overE XR.out NE.out g5)
                clear o5 g5 e5
                refine hK.out _ _ (DX.out _ C.out) (fun hHeld => ?_)
                clear hK K
                try simp only [Act.put, sA, s0, s1]
                refine wpAnyH_ready (rs := [10]) (by kernel_rfl) (by simp) ?_
                refine AllReadyH.cons rfl (fun K hK => ?_) AllReadyH.nil
                replace hK := Lib.hid hK
                refine step_appK (R := evTy) rfl (.tmp 56) (.tmp 61) rfl rfl (A := A5) (B := some ⟨px, 0, none⟩) (n := 0) (m := 1) (c := c5) (d := 1) (xs := [] ++ ([] : List EvT).take (0)) (ys := [x]) O5.out L1.out rfl XR.out N2.out ?_
                intro A6 c6 wc o6 g6 e6
                have O6 := Lib.hid o6
                have F6 := Lib.hid (fresh_appE F5.out.1 C.out g6 e6)
                replace C := Lib.hid F6.out.2
                clear o6 g6 e6
                refine hK.out _ _ (DX.out _ C.out) (fun hHeld => ?_)
                clear hK K
                try simp only [Act.put, sA, s0, s1]
                refine wpAnyH_ready (rs := [14]) (by kernel_rfl) (by simp) ?_
                refine AllReadyH.cons rfl (fun K hK => ?_) AllReadyH.nil
                replace hK := Lib.hid hK
                refine step_appK (R := evTy) rfl (.tmp 62) (.tmp 65) rfl rfl (A := A6) (B := none) (n := 0 + 1) (m := 0) (c := c6) (d := 0) (xs := [] ++ ([] : List EvT).take (0) ++ [x]) (ys := ([] : List EvT).drop (0)) O6.out L2.out rfl (R2.out _ C.out) N3.out ?_
                intro A7 c7 wc o7 g7 e7
                have O7 := Lib.hid o7
                have F7 := Lib.hid (fresh_appE F6.out.1 C.out g7 e7)
                replace C := Lib.hid F7.out.2
                clear o7 g7 e7
                refine hK.out _ _ (DX.out _ C.out) (fun hHeld => ?_)
                clear hK K
                try simp only [Act.put, sA, s0, s1]
                refine sy 15 10 rfl rfl ?_ (hS := (DX.out _ C.out))
                try simp only [Act.put, sA, s0, s1]
                refine wpAnyH_done (by kernel_rfl) ?_ _
                clear hHeld
                have O8 : Hid (OwnK evTy wc A7 c7 (([] : List EvT).take (0) ++ x :: ([] : List EvT).drop (0))) := Lib.hid (by have q := O7.out; simpa using q)
                exact JOIN pe px A5 c5 A6 c6 A7 c7 wc ⟨O8, Lib.hid F7.out.1, C⟩
            · skip
              replace hK := Lib.hid hK
              have hHeld := DX.out _ C.out
              obtain ⟨q0, q1, q2, q3, q4, q5, q6⟩ := hHeld
              obtain ⟨px, hpp⟩ : ∃ p, wc.heap.size = p := ⟨_, rfl⟩
              have SZpx := Lib.hid (sizedE C.out hpp)
              have NSpx := Lib.hid hpp
              clear hpp
              go_simp
              clear q0 q1 q2 q3 q4 q5 q6
              obtain ⟨wc, hw, cn, bn⟩ := news1 wc (.cells #[.int .i64 x.n, .int .i64 x.s, .string x.p, .int .i64 x.k, .int .i64 x.m, .slice x.A x.l x.c, .slice x.B x.bl x.bc] 30)
              rw [← hw, NSpx.out]
              rw [NSpx.out] at bn
              have XR := Lib.hid (rd_oneEc (X := x) bn)
              have LTpx := Lib.hid (lt_of_heap bn)
              replace C := Lib.hid (C.out.trans cn)
              try replace EO := Lib.hid (EO.out.chg cn (by simp))
              try replace O5 := Lib.hid (O5.out.chg cn (by simp))
              try have NE : Hid (px ≠ pe) := Lib.hid (by have := NSpx.out; have := LTpe.out; omega)
              clear hw cn bn
              refine hK.out _ _ (DX.out _ C.out) (fun hHeld => ?_)
              clear hK K
              try simp only [Act.put, sA, s0, s1]
              refine wpAnyH_ready (rs := [0]) (by kernel_rfl) (by simp) ?_
              refine AllReadyH.cons rfl (fun K hK => ?_) AllReadyH.nil
              replace hK := Lib.hid hK
              have hHeld := DX.out _ C.out
              obtain ⟨q0, q1, q2, q3, q4, q5, q6⟩ := hHeld
              obtain ⟨pe, hpp⟩ : ∃ p, wc.heap.size = p := ⟨_, rfl⟩
              have SZpe := Lib.hid (sizedE C.out hpp)
              have NSpe := Lib.hid hpp
              clear hpp
              go_simp
              clear q0 q1 q2 q3 q4 q5 q6
              obtain ⟨wc, hw, cn, bn⟩ := news1 wc (.cells #[] 30)
              rw [← hw, NSpe.out]
              rw [NSpe.out] at bn
              have EO := Lib.hid (own_emptyE bn)
              have LTpe := Lib.hid (lt_of_heap bn)
              replace C := Lib.hid (C.out.trans cn)
              try replace XR := Lib.hid (XR.out.chg cn (by simp))
              try have NE : Hid (px ≠ pe) := Lib.hid (by have := NSpe.out; have := LTpx.out; omega)
              clear hw cn bn
              refine hK.out _ _ (DX.out _ C.out) (fun hHeld => ?_)
              clear hK K
              try simp only [Act.put, sA, s0, s1]
              refine wpAnyH_ready (rs := [4]) (by kernel_rfl) (by simp) ?_
              refine AllReadyH.cons rfl (fun K hK => ?_) AllReadyH.nil
              replace hK := Lib.hid hK
              refine step_appK (R := evTy) rfl (.tmp 52) (.tmp 55) rfl rfl (A := some ⟨pe, 0, none⟩) (B := none) (n := 0) (m := 0) (c := 0) (d := 0) (xs := []) (ys := ([] : List EvT).take (0)) EO.out rfl rfl (R1.out _ C.out) N1.out ?_
              rw [Nat.zero_add]
              intro A5 c5 wc o5 g5 e5
              have O5 := Lib.hid o5
              have F5 := Lib.hid (fresh_appE SZpe.out C.out g5 e5)
              replace C := Lib.hid F5.out.2
              try replace XR := Lib.hid (rd_overE XR.out NE.out g5)
              clear o5 g5 e5
              refine hK.out _ _ (DX.out _ C.out) (fun hHeld => ?_)
              clear hK K
              try simp only [Act.put, sA, s0, s1]
              refine wpAnyH_ready (rs := [10]) (by kernel_rfl) (by simp) ?_
              refine AllReadyH.cons rfl (fun K hK => ?_) AllReadyH.nil
              replace hK := Lib.hid hK
              refine step_appK (R := evTy) rfl (.tmp 56) (.tmp 61) rfl rfl (A := A5) (B := some ⟨px, 0, none⟩) (n := 0) (m := 1) (c := c5) (d := 1) (xs := [] ++ ([] : List EvT).take (0)) (ys := [x]) O5.out L1.out rfl XR.out N2.out ?_
              intro A6 c6 wc o6 g6 e6
              have O6 := Lib.hid o6
              have F6 := Lib.hid (fresh_appE F5.out.1 C.out g6 e6)
              replace C := Lib.hid F6.out.2
              clear o6 g6 e6
              refine hK.out _ _ (DX.out _ C.out) (fun hHeld => ?_)
              clear hK K
              try simp only [Act.put, sA, s0, s1]
              refine wpAnyH_ready (rs := [14]) (by kernel_rfl) (by simp) ?_
              refine AllReadyH.cons rfl (fun K hK => ?_) AllReadyH.nil
              replace hK := Lib.hid hK
              refine step_appK (R := evTy) rfl (.tmp 62) (.tmp 65) rfl rfl (A := A6) (B := none) (n := 0 + 1) (m := 0) (c := c6) (d := 0) (xs := [] ++ ([] : List EvT).take (0) ++ [x]) (ys := ([] : List EvT).drop (0)) O6.out L2.out rfl (R2.out _ C.out) N3.out ?_
              intro A7 c7 wc o7 g7 e7
              have O7 := Lib.hid o7
              have F7 := Lib.hid (fresh_appE F6.out.1 C.out g7 e7)
              replace C := Lib.hid F7.out.2
              clear o7 g7 e7
              refine hK.out _ _ (DX.out _ C.out) (fun hHeld => ?_)
              clear hK K
              try simp only [Act.put, sA, s0, s1]
              refine sy 15 10 rfl rfl ?_ (hS := (DX.out _ C.out))
              try simp only [Act.put, sA, s0, s1]
              refine wpAnyH_done (by kernel_rfl) ?_ _
              clear hHeld
              have O8 : Hid (OwnK evTy wc A7 c7 (([] : List EvT).take (0) ++ x :: ([] : List EvT).drop (0))) := Lib.hid (by have q := O7.out; simpa using q)
              exact JOIN pe px A5 c5 A6 c6 A7 c7 wc ⟨O8, Lib.hid F7.out.1, C⟩
          case rest =>
            intro pe px A5 c5 A6 c6 A7 c7 w7 FJ
            obtain ⟨O7, F7, C7⟩ := FJ
            have PC7 := Lib.hid (PC.out.trans (KD.out.trans C7.out))
            have FN : Hid (∀ a, A7 = some a → w4.heap.size ≤ a.block) := Lib.hid (fun a ha => by have := F7.out a ha; have := (PC.out.trans KD.out).size; omega)
            clear R1 R2 DX XC N1 N2 N3 L1 L2 C F7 KD C7 TO PC TN
            have TE7 : Hid (EvsR w3 (([] : List EvT).take (0) ++ x :: ([] : List EvT).drop (0)) (([] : List EvP).take (0) ++ e :: ([] : List EvP).drop (0))) := Lib.hid (TE.out.ins RX.out (0))
            obtain ⟨us, hus⟩ : ∃ us, us = ([] : List EvT).take (0) ++ x :: ([] : List EvT).drop (0) := ⟨_, rfl⟩
            obtain ⟨hs, hhs⟩ : ∃ hs, hs = ([] : List EvP).take (0) ++ e :: ([] : List EvP).drop (0) := ⟨_, rfl⟩
            have TM7 : Hid ((∀ u, u ∈ hs ↔ u ∈ fs.take (i + 1)) ∧ us.length + 1 ≤ 2 * (i + 1) ∧ us.length = 0 + 1 + (0)) := Lib.hid ⟨fun u => by
              rw [hhs, ET.out, mem_ins, List.mem_append, List.mem_singleton]
              exact or_congr (TM.out.1 u) Iff.rfl, by have := TM.out.2; have := KL.out; rw [hus]; simp at this ⊢; omega, by have := KL.out; rw [hus]; simp; try omega⟩
            rw [← hus] at O7 TE7
            rw [← hhs] at TE7
            have UL : Hid (0 + 1 + (0) = us.length) := Lib.hid TM7.out.2.2.symm
            clear hus hhs TE TM
            go_upto_region 14 with fail
            skip
            by_cases hQ : i < ds.length
            rotate_left
            · have Q1 : ¬ (i : Int) < (ds.length : Int) := by omega
              go_wp2
              go_round
              case rel => exact ⟨i + 1, A7, c7, us, hs, by omega, by go_num, by first | rfl | rw [TM7.out.2.2], O7, TE7, Lib.hid ⟨TM7.out.1, by have := TM7.out.2.1; omega⟩, FN, PC7⟩
              case measure => simp [RowKit.intOf]; omega
            have Q1 : (i : Int) < (ds.length : Int) := by omega
            obtain ⟨gd, od, eD, _⟩ := HD.out.line (by omega)
            have ED := Lib.hid eD
            obtain ⟨q, hq⟩ : ∃ q, ds[i]? = some q := ⟨_, List.getElem?_eq_getElem hQ⟩
            have zd := boolCells ((eD ▸ HD.out).chg (C3.out.trans (D4.out.trans PC7.out)) (by simp)) hq
            rw [eD]
            clear eD hq
            rcases q with _ | _
            · go_upto_region 9 with fail
              rw [← ED.out]
              clear zd
              go_wp2
              go_round
              case rel => exact ⟨i + 1, A7, c7, us, hs, by omega, by go_num, by first | rfl | rw [TM7.out.2.2], O7, TE7, Lib.hid ⟨TM7.out.1, by have := TM7.out.2.1; omega⟩, FN, PC7⟩
              case measure => simp [RowKit.intOf]; omega
            go_upto_region 15 with fail
            clear zd
            rw [← ED.out]
            obtain ⟨z0, z1, z2, z3, z4, z5, z6⟩ := evCells (HF.out.chg (D4.out.trans PC7.out) (by simp)) EX.out
            obtain ⟨w8, hw, cn, bn⟩ := news1 w7 (.cells #[.int .i64 x.n, .int .i64 x.s, .string x.p, .int .i64 x.k, .int .i64 x.m, .slice x.A x.l x.c, .slice x.B x.bl x.bc] 30)
            have W8 := Lib.hid hw
            have XR := Lib.hid (rd_oneEc bn)
            have O8 := Lib.hid (O7.out.chg cn (by simp))
            have PC8 := Lib.hid (PC7.out.trans cn)
            have N4 : Hid ((1 + 1) * 400 ≤ 140737488355327) := Lib.hid (by have := TM7.out.2.1; have := FL.out; omega)
            clear hw cn bn O7 PC7
            go_wp2_with (at_builtin; rw [← W8.out]; refine wpList_appK (R := evTy) rfl (.tmp 77) (.tmp 82) rfl rfl (A := A7) (n := 1) (m := 1) (c := c7) (d := 1) (xs := us) (ys := [x]) O8.out (by rw [TM7.out.2.2]) rfl XR.out N4.out ?_; intro A9 c9 w9 o9 g9 e9)
            have O9 := Lib.hid o9
            have F9 := Lib.hid (fresh_appE FN.out PC8.out g9 e9)
            have NL : Hid (1 + 1 = (us ++ [x]).length) := Lib.hid (by have := TM7.out.2.2; simp <;> omega)
            have TM9 : Hid ((∀ u, u ∈ hs ++ [e] ↔ u ∈ fs.take (i + 1)) ∧ (us ++ [x]).length ≤ 2 * (i + 1)) := Lib.hid ⟨fun u => by
              rw [List.mem_append, TM7.out.1 u, List.mem_singleton]
              exact ⟨fun h => h.elim id (fun q => by rw [q, ET.out]; simp), .inl⟩, by have := TM7.out.2.1; simp; omega⟩
            clear o9 g9 e9 z0 z1 z2 z3 z4 z5 z6
            try rw [NL.out]
            go_wp2
            go_round
            case rel => exact ⟨i + 1, A9, c9, us ++ [x], hs ++ [e], by omega, by go_num, by first | rfl | rw [← NL.out] | (simp; done) | (simp; have := TM7.out.2.2; omega), O9, Lib.hid (TE7.out.snoc RX.out), TM9, Lib.hid F9.out.1, Lib.hid F9.out.2⟩
            case measure => simp [RowKit.intOf]; omega
        · subst hA2
          have HC2 := TO.out.cap
          have b0 : (0 : Int) ≤ (kz : Nat) := Int.natCast_nonneg _
          have b1 : kz ≤ c2 := by have := KL.out; omega
          have b2 : ((kz : Nat) : Int) ≤ (c2 : Int) := by omega
          have b3 : ((kz : Nat) : Int) ≤ (zs.length : Int) := by have := KL.out; omega
          have b4 : kz ≤ zs.length := KL.out
          obtain ⟨AD, hAD⟩ : ∃ AD : Option Addr, (if c2 = kz then some (⟨g2, 0, none⟩ : Addr) else some ⟨g2, kz * 7, none⟩) = AD := ⟨_, rfl⟩
          have ADR : Hid (∀ w', OwnK evTy w' (some ⟨g2, 0, none⟩) c2 zs → RdK evTy w' AD (zs.length - kz) (zs.drop kz)) := Lib.hid (fun w' ho => by
            rw [← hAD]
            by_cases q : c2 = kz
            · have e : zs.drop kz = [] := List.drop_of_length_le (by have := ho.cap.1; omega)
              rw [e, show zs.length - kz = 0 by have := ho.cap.1; omega]
              exact RdK.nil _ _
            · rw [if_neg q]
              have r := ho.reads.part kz (zs.length - kz) (by have := KL.out; omega)
              rw [List.take_of_length_le (by rw [List.length_drop]; omega), Nat.zero_add] at r
              exact r)
          clear HC2
          go_upto_region 13 with fail
          have XC : Hid (∀ w', Chg [] wr w' → _) := Lib.hid (fun w' hc => evCells (HF.out.chg (D4.out.trans (PC.out.trans hc)) (by simp)) EX.out)
          refine wp_region_held_drew (S := fun w' => w'.cell? ⟨g3, o3 + i * 7, none⟩ = some (.int .i64 x.n) ∧ w'.cell? ⟨g3, o3 + i * 7 + 1, none⟩ = some (.int .i64 x.s) ∧ w'.cell? ⟨g3, o3 + i * 7 + 2, none⟩ = some (.string x.p) ∧ w'.cell? ⟨g3, o3 + i * 7 + 3, none⟩ = some (.int .i64 x.k) ∧ w'.cell? ⟨g3, o3 + i * 7 + 4, none⟩ = some (.int .i64 x.m) ∧ w'.cell? ⟨g3, o3 + i * 7 + 5, none⟩ = some (.slice x.A x.l x.c) ∧ w'.cell? ⟨g3, o3 + i * 7 + 6, none⟩ = some (.slice x.B x.bl x.bc)) (by kernel_rfl) (XC.out _ (Chg.refl [] wr).drew) (fun hHeld => ?_)
          have KD := Lib.hid (Chg.refl [] wr).drew
          clear hHeld
          generalize wr.drew = wd at *
          have DX : Hid (∀ w', Chg [] wd w' → _) := Lib.hid (fun w' hc => XC.out w' (KD.out.trans hc))
          have R1 : Hid (∀ w', Chg [] wd w' → RdK evTy w' (some ⟨g2, 0, none⟩) (kz) (zs.take (kz))) := Lib.hid (fun w' hc => by
            have q := (TO.out.take (kz)).reads.chg (KD.out.trans hc) (by simp)
            rwa [List.length_take, Nat.min_eq_left KL.out] at q)
          have R2 : Hid (∀ w', Chg [] wd w' → RdK evTy w' AD (zs.length - kz) (zs.drop (kz))) := Lib.hid (fun w' hc => ADR.out w' (TO.out.chg (KD.out.trans hc) (by simp)))
          have N1 : Hid ((0 + (kz)) * 400 ≤ 140737488355327) := Lib.hid (by have := ZLN.out; have := KL.out; omega)
          have N2 : Hid ((kz + 1) * 400 ≤ 140737488355327) := Lib.hid (by have := ZLN.out; have := KL.out; omega)
          have N3 : Hid ((kz + 1 + (zs.length - kz)) * 400 ≤ 140737488355327) := Lib.hid (by have := ZLN.out; have := KL.out; omega)
          have L1 : Hid (([] ++ zs.take (kz)).length = kz) := Lib.hid (by have := KL.out; simp; try omega)
          have L2 : Hid (([] ++ zs.take (kz) ++ [x]).length = kz + 1) := Lib.hid (by have := KL.out; simp; try omega)
          obtain ⟨wc, hwc⟩ : ∃ wc, wd = wc := ⟨_, rfl⟩
          have C : Hid (Chg [] wd wc) := Lib.hid (hwc ▸ Chg.refl [] wd)
          rw [hwc]
          clear hwc
          refine' joinT9 (F := fun (p q : Nat) (A5 : Option Addr) (c5 : Nat) (A6 : Option Addr) (c6 : Nat) (A7 : Option Addr) (c7 : Nat) (w7 : World) => Hid (OwnK evTy w7 A7 c7 (zs.take (kz) ++ x :: zs.drop (kz))) ∧ Hid (∀ a, A7 = some a → wd.heap.size ≤ a.block) ∧ Hid (Chg [] wd w7)) (R := _) (fun JOIN => ?leaf) ?rest
          case leaf =>
            refine sy 1 53 rfl rfl ?_ (hS := (DX.out _ C.out))
            try simp only [Act.put, sA, s0, s1]
            refine sy 2 54 rfl rfl ?_ (hS := (DX.out _ C.out))
            try simp only [Act.put, sA, s0, s1]
            refine sy 3 55 rfl rfl ?_ (hS := (DX.out _ C.out))
            try simp only [Act.put, sA, s0, s1]
            refine sy 5 57 rfl rfl ?_ (hS := (DX.out _ C.out))
            try simp only [Act.put, sA, s0, s1]
            refine sy 6 58 rfl rfl ?_ (hS := (DX.out _ C.out))
            try simp only [Act.put, sA, s0, s1]
            refine sy 7 59 rfl rfl ?_ (hS := (DX.out _ C.out))
            try simp only [Act.put, sA, s0, s1]
            refine sy 8 60 rfl rfl ?_ (hS := (DX.out _ C.out)) (hy := by (intro w hSw; (try dsimp only at hSw); obtain ⟨q0, q1, q2, q3, q4, q5, q6⟩ := hSw; go_simp; try with_reducible rfl))
            try simp only [Act.put, sA, s0, s1]
            refine sy 11 63 rfl rfl ?_ (hS := (DX.out _ C.out))
            try simp only [Act.put, sA, s0, s1]
            refine sy 12 64 rfl rfl ?_ (hS := (DX.out _ C.out))
            try simp only [Act.put, sA, s0, s1]
            refine sy 13 65 rfl rfl ?_ (hS := (DX.out _ C.out))
            try simp only [Act.put, sA, s0, s1]
            refine wpAnyH_ready (rs := [0, 9]) (by kernel_rfl) (by simp) ?_
            refine AllReadyH.cons rfl (fun K hK => ?_) (AllReadyH.cons rfl (fun K hK => ?_) AllReadyH.nil)
            · skip
              replace hK := Lib.hid hK
              have hHeld := DX.out _ C.out
              obtain ⟨q0, q1, q2, q3, q4, q5, q6⟩ := hHeld
              obtain ⟨pe, hpp⟩ : ∃ p, wc.heap.size = p := ⟨_, rfl⟩
              have SZpe := Lib.hid (sizedE C.out hpp)
              have NSpe := Lib.hid hpp
              clear hpp
              go_simp
              clear q0 q1 q2 q3 q4 q5 q6
              obtain ⟨wc, hw, cn, bn⟩ := news1 wc (.cells #[] 30)
              rw [← hw, NSpe.out]
              rw [NSpe.out] at bn
              have EO := Lib.hid (own_emptyE bn)
              have LTpe := Lib.hid (lt_of_heap bn)
              replace C := Lib.hid (C.out.trans cn)
              try replace XR := Lib.hid (XR.out.chg cn (by simp))
              try have NE : Hid (px ≠ pe) := Lib.hid (by have := NSpe.out; have := LTpx.out; omega)
              clear hw cn bn
              refine hK.out _ _ (DX.out _ C.out) (fun hHeld => ?_)
              clear hK K
              try simp only [Act.put, sA, s0, s1]
              refine wpAnyH_ready (rs := [4, 9]) (by kernel_rfl) (by simp) ?_
              refine AllReadyH.cons rfl (fun K hK => ?_) (AllReadyH.cons rfl (fun K hK => ?_) AllReadyH.nil)
              · skip
                replace hK := Lib.hid hK
                refine step_appK (R := evTy) rfl (.tmp 52) (.tmp 55) rfl rfl (A := some ⟨pe, 0, none⟩) (B := some ⟨g2, 0, none⟩) (n := 0) (m := kz) (c := 0) (d := c2) (xs := []) (ys := zs.take (kz)) EO.out rfl rfl (R1.out _ C.out) N1.out ?_
                rw [Nat.zero_add]
                intro A5 c5 wc o5 g5 e5
                have O5 := Lib.hid o5
                have F5 := Lib.hid (fresh_appE SZpe.out C.out g5 e5)
                replace C := Lib.hid F5.out.2
                try replace XR := Lib.hid (rd_overE XR.out NE.out g5)
                clear o5 g5 e5
                refine hK.out _ _ (DX.out _ C.out) (fun hHeld => ?_)
                clear hK K
                try simp only [Act.put, sA, s0, s1]
                refine wpAnyH_ready (rs := [9]) (by kernel_rfl) (by simp) ?_
                refine AllReadyH.cons rfl (fun K hK => ?_) AllReadyH.nil
                replace hK := Lib.hid hK
                have hHeld := DX.out _ C.out
                obtain ⟨q0, q1, q2, q3, q4, q5, q6⟩ := hHeld
                obtain ⟨px, hpp⟩ : ∃ p, wc.heap.size = p := ⟨_, rfl⟩
                have SZpx := Lib.hid (sizedE C.out hpp)
                have NSpx := Lib.hid hpp
                clear hpp
                go_simp
                clear q0 q1 q2 q3 q4 q5 q6
                obtain ⟨wc, hw, cn, bn⟩ := news1 wc (.cells #[.int .i64 x.n, .int .i64 x.s, .string x.p, .int .i64 x.k, .int .i64 x.m, .slice x.A x.l x.c, .slice x.B x.bl x.bc] 30)
                rw [← hw, NSpx.out]
                rw [NSpx.out] at bn
                have XR := Lib.hid (rd_oneEc (X := x) bn)
                have LTpx := Lib.hid (lt_of_heap bn)
                replace C := Lib.hid (C.out.trans cn)
                try replace EO := Lib.hid (EO.out.chg cn (by simp))
                try replace O5 := Lib.hid (O5.out.chg cn (by simp))
                try have NE : Hid (px ≠ pe) := Lib.hid (by have := NSpx.out; have := LTpe.out; omega)
                clear hw cn bn
                refine hK.out _ _ (DX.out _ C.out) (fun hHeld => ?_)
                clear hK K
                try simp only [Act.put, sA, s0, s1]
                refine wpAnyH_ready (rs := [10]) (by kernel_rfl) (by simp) ?_
                refine AllReadyH.cons rfl (fun K hK => ?_) AllReadyH.nil
                replace hK := Lib.hid hK
                refine step_appK (R := evTy) rfl (.tmp 56) (.tmp 61) rfl rfl (A := A5) (B := some ⟨px, 0, none⟩) (n := kz) (m := 1) (c := c5) (d := 1) (xs := [] ++ zs.take (kz)) (ys := [x]) O5.out L1.out rfl XR.out N2.out ?_
                intro A6 c6 wc o6 g6 e6
                have O6 := Lib.hid o6
                have F6 := Lib.hid (fresh_appE F5.out.1 C.out g6 e6)
                replace C := Lib.hid F6.out.2
                clear o6 g6 e6
                refine hK.out _ _ (DX.out _ C.out) (fun hHeld => ?_)
                clear hK K
                try simp only [Act.put, sA, s0, s1]
                refine wpAnyH_ready (rs := [14]) (by kernel_rfl) (by simp) ?_
                refine AllReadyH.cons rfl (fun K hK => ?_) AllReadyH.nil
                replace hK := Lib.hid hK
                refine step_appK (R := evTy) rfl (.tmp 62) (.tmp 65) rfl rfl (A := A6) (B := AD) (n := kz + 1) (m := zs.length - kz) (c := c6) (d := c2 - kz) (xs := [] ++ zs.take (kz) ++ [x]) (ys := zs.drop (kz)) O6.out L2.out rfl (R2.out _ C.out) N3.out ?_
                intro A7 c7 wc o7 g7 e7
                have O7 := Lib.hid o7
                have F7 := Lib.hid (fresh_appE F6.out.1 C.out g7 e7)
                replace C := Lib.hid F7.out.2
                clear o7 g7 e7
                refine hK.out _ _ (DX.out _ C.out) (fun hHeld => ?_)
                clear hK K
                try simp only [Act.put, sA, s0, s1]
                refine sy 15 10 rfl rfl ?_ (hS := (DX.out _ C.out))
                try simp only [Act.put, sA, s0, s1]
                refine wpAnyH_done (by kernel_rfl) ?_ _
                clear hHeld
                have O8 : Hid (OwnK evTy wc A7 c7 (zs.take (kz) ++ x :: zs.drop (kz))) := Lib.hid (by have q := O7.out; simpa using q)
                exact JOIN pe px A5 c5 A6 c6 A7 c7 wc ⟨O8, Lib.hid F7.out.1, C⟩
              · skip
                replace hK := Lib.hid hK
                have hHeld := DX.out _ C.out
                obtain ⟨q0, q1, q2, q3, q4, q5, q6⟩ := hHeld
                obtain ⟨px, hpp⟩ : ∃ p, wc.heap.size = p := ⟨_, rfl⟩
                have SZpx := Lib.hid (sizedE C.out hpp)
                have NSpx := Lib.hid hpp
                clear hpp
                go_simp
                clear q0 q1 q2 q3 q4 q5 q6
                obtain ⟨wc, hw, cn, bn⟩ := news1 wc (.cells #[.int .i64 x.n, .int .i64 x.s, .string x.p, .int .i64 x.k, .int .i64 x.m, .slice x.A x.l x.c, .slice x.B x.bl x.bc] 30)
                rw [← hw, NSpx.out]
                rw [NSpx.out] at bn
                have XR := Lib.hid (rd_oneEc (X := x) bn)
                have LTpx := Lib.hid (lt_of_heap bn)
                replace C := Lib.hid (C.out.trans cn)
                try replace EO := Lib.hid (EO.out.chg cn (by simp))
                try replace O5 := Lib.hid (O5.out.chg cn (by simp))
                try have NE : Hid (px ≠ pe) := Lib.hid (by have := NSpx.out; have := LTpe.out; omega)
                clear hw cn bn
                refine hK.out _ _ (DX.out _ C.out) (fun hHeld => ?_)
                clear hK K
                try simp only [Act.put, sA, s0, s1]
                refine wpAnyH_ready (rs := [4]) (by kernel_rfl) (by simp) ?_
                refine AllReadyH.cons rfl (fun K hK => ?_) AllReadyH.nil
                replace hK := Lib.hid hK
                refine step_appK (R := evTy) rfl (.tmp 52) (.tmp 55) rfl rfl (A := some ⟨pe, 0, none⟩) (B := some ⟨g2, 0, none⟩) (n := 0) (m := kz) (c := 0) (d := c2) (xs := []) (ys := zs.take (kz)) EO.out rfl rfl (R1.out _ C.out) N1.out ?_
                rw [Nat.zero_add]
                intro A5 c5 wc o5 g5 e5
                have O5 := Lib.hid o5
                have F5 := Lib.hid (fresh_appE SZpe.out C.out g5 e5)
                replace C := Lib.hid F5.out.2
                try replace XR := Lib.hid (rd_overE XR.out NE.out g5)
                clear o5 g5 e5
                refine hK.out _ _ (DX.out _ C.out) (fun hHeld => ?_)
                clear hK K
                try simp only [Act.put, sA, s0, s1]
                refine wpAnyH_ready (rs := [10]) (by kernel_rfl) (by simp) ?_
                refine AllReadyH.cons rfl (fun K hK => ?_) AllReadyH.nil
                replace hK := Lib.hid hK
                refine step_appK (R := evTy) rfl (.tmp 56) (.tmp 61) rfl rfl (A := A5) (B := some ⟨px, 0, none⟩) (n := kz) (m := 1) (c := c5) (d := 1) (xs := [] ++ zs.take (kz)) (ys := [x]) O5.out L1.out rfl XR.out N2.out ?_
                intro A6 c6 wc o6 g6 e6
                have O6 := Lib.hid o6
                have F6 := Lib.hid (fresh_appE F5.out.1 C.out g6 e6)
                replace C := Lib.hid F6.out.2
                clear o6 g6 e6
                refine hK.out _ _ (DX.out _ C.out) (fun hHeld => ?_)
                clear hK K
                try simp only [Act.put, sA, s0, s1]
                refine wpAnyH_ready (rs := [14]) (by kernel_rfl) (by simp) ?_
                refine AllReadyH.cons rfl (fun K hK => ?_) AllReadyH.nil
                replace hK := Lib.hid hK
                refine step_appK (R := evTy) rfl (.tmp 62) (.tmp 65) rfl rfl (A := A6) (B := AD) (n := kz + 1) (m := zs.length - kz) (c := c6) (d := c2 - kz) (xs := [] ++ zs.take (kz) ++ [x]) (ys := zs.drop (kz)) O6.out L2.out rfl (R2.out _ C.out) N3.out ?_
                intro A7 c7 wc o7 g7 e7
                have O7 := Lib.hid o7
                have F7 := Lib.hid (fresh_appE F6.out.1 C.out g7 e7)
                replace C := Lib.hid F7.out.2
                clear o7 g7 e7
                refine hK.out _ _ (DX.out _ C.out) (fun hHeld => ?_)
                clear hK K
                try simp only [Act.put, sA, s0, s1]
                refine sy 15 10 rfl rfl ?_ (hS := (DX.out _ C.out))
                try simp only [Act.put, sA, s0, s1]
                refine wpAnyH_done (by kernel_rfl) ?_ _
                clear hHeld
                have O8 : Hid (OwnK evTy wc A7 c7 (zs.take (kz) ++ x :: zs.drop (kz))) := Lib.hid (by have q := O7.out; simpa using q)
                exact JOIN pe px A5 c5 A6 c6 A7 c7 wc ⟨O8, Lib.hid F7.out.1, C⟩
            · skip
              replace hK := Lib.hid hK
              have hHeld := DX.out _ C.out
              obtain ⟨q0, q1, q2, q3, q4, q5, q6⟩ := hHeld
              obtain ⟨px, hpp⟩ : ∃ p, wc.heap.size = p := ⟨_, rfl⟩
              have SZpx := Lib.hid (sizedE C.out hpp)
              have NSpx := Lib.hid hpp
              clear hpp
              go_simp
              clear q0 q1 q2 q3 q4 q5 q6
              obtain ⟨wc, hw, cn, bn⟩ := news1 wc (.cells #[.int .i64 x.n, .int .i64 x.s, .string x.p, .int .i64 x.k, .int .i64 x.m, .slice x.A x.l x.c, .slice x.B x.bl x.bc] 30)
              rw [← hw, NSpx.out]
              rw [NSpx.out] at bn
              have XR := Lib.hid (rd_oneEc (X := x) bn)
              have LTpx := Lib.hid (lt_of_heap bn)
              replace C := Lib.hid (C.out.trans cn)
              try replace EO := Lib.hid (EO.out.chg cn (by simp))
              try replace O5 := Lib.hid (O5.out.chg cn (by simp))
              try have NE : Hid (px ≠ pe) := Lib.hid (by have := NSpx.out; have := LTpe.out; omega)
              clear hw cn bn
              refine hK.out _ _ (DX.out _ C.out) (fun hHeld => ?_)
              clear hK K
              try simp only [Act.put, sA, s0, s1]
              refine wpAnyH_ready (rs := [0]) (by kernel_rfl) (by simp) ?_
              refine AllReadyH.cons rfl (fun K hK => ?_) AllReadyH.nil
              replace hK := Lib.hid hK
              have hHeld := DX.out _ C.out
              obtain ⟨q0, q1, q2, q3, q4, q5, q6⟩ := hHeld
              obtain ⟨pe, hpp⟩ : ∃ p, wc.heap.size = p := ⟨_, rfl⟩
              have SZpe := Lib.hid (sizedE C.out hpp)
              have NSpe := Lib.hid hpp
              clear hpp
              go_simp
              clear q0 q1 q2 q3 q4 q5 q6
              obtain ⟨wc, hw, cn, bn⟩ := news1 wc (.cells #[] 30)
              rw [← hw, NSpe.out]
              rw [NSpe.out] at bn
              have EO := Lib.hid (own_emptyE bn)
              have LTpe := Lib.hid (lt_of_heap bn)
              replace C := Lib.hid (C.out.trans cn)
              try replace XR := Lib.hid (XR.out.chg cn (by simp))
              try have NE : Hid (px ≠ pe) := Lib.hid (by have := NSpe.out; have := LTpx.out; omega)
              clear hw cn bn
              refine hK.out _ _ (DX.out _ C.out) (fun hHeld => ?_)
              clear hK K
              try simp only [Act.put, sA, s0, s1]
              refine wpAnyH_ready (rs := [4]) (by kernel_rfl) (by simp) ?_
              refine AllReadyH.cons rfl (fun K hK => ?_) AllReadyH.nil
              replace hK := Lib.hid hK
              refine step_appK (R := evTy) rfl (.tmp 52) (.tmp 55) rfl rfl (A := some ⟨pe, 0, none⟩) (B := some ⟨g2, 0, none⟩) (n := 0) (m := kz) (c := 0) (d := c2) (xs := []) (ys := zs.take (kz)) EO.out rfl rfl (R1.out _ C.out) N1.out ?_
              rw [Nat.zero_add]
              intro A5 c5 wc o5 g5 e5
              have O5 := Lib.hid o5
              have F5 := Lib.hid (fresh_appE SZpe.out C.out g5 e5)
              replace C := Lib.hid F5.out.2
              try replace XR := Lib.hid (rd_overE XR.out NE.out g5)
              clear o5 g5 e5
              refine hK.out _ _ (DX.out _ C.out) (fun hHeld => ?_)
              clear hK K
              try simp only [Act.put, sA, s0, s1]
              refine wpAnyH_ready (rs := [10]) (by kernel_rfl) (by simp) ?_
              refine AllReadyH.cons rfl (fun K hK => ?_) AllReadyH.nil
              replace hK := Lib.hid hK
              refine step_appK (R := evTy) rfl (.tmp 56) (.tmp 61) rfl rfl (A := A5) (B := some ⟨px, 0, none⟩) (n := kz) (m := 1) (c := c5) (d := 1) (xs := [] ++ zs.take (kz)) (ys := [x]) O5.out L1.out rfl XR.out N2.out ?_
              intro A6 c6 wc o6 g6 e6
              have O6 := Lib.hid o6
              have F6 := Lib.hid (fresh_appE F5.out.1 C.out g6 e6)
              replace C := Lib.hid F6.out.2
              clear o6 g6 e6
              refine hK.out _ _ (DX.out _ C.out) (fun hHeld => ?_)
              clear hK K
              try simp only [Act.put, sA, s0, s1]
              refine wpAnyH_ready (rs := [14]) (by kernel_rfl) (by simp) ?_
              refine AllReadyH.cons rfl (fun K hK => ?_) AllReadyH.nil
              replace hK := Lib.hid hK
              refine step_appK (R := evTy) rfl (.tmp 62) (.tmp 65) rfl rfl (A := A6) (B := AD) (n := kz + 1) (m := zs.length - kz) (c := c6) (d := c2 - kz) (xs := [] ++ zs.take (kz) ++ [x]) (ys := zs.drop (kz)) O6.out L2.out rfl (R2.out _ C.out) N3.out ?_
              intro A7 c7 wc o7 g7 e7
              have O7 := Lib.hid o7
              have F7 := Lib.hid (fresh_appE F6.out.1 C.out g7 e7)
              replace C := Lib.hid F7.out.2
              clear o7 g7 e7
              refine hK.out _ _ (DX.out _ C.out) (fun hHeld => ?_)
              clear hK K
              try simp only [Act.put, sA, s0, s1]
              refine sy 15 10 rfl rfl ?_ (hS := (DX.out _ C.out))
              try simp only [Act.put, sA, s0, s1]
              refine wpAnyH_done (by kernel_rfl) ?_ _
              clear hHeld
              have O8 : Hid (OwnK evTy wc A7 c7 (zs.take (kz) ++ x :: zs.drop (kz))) := Lib.hid (by have q := O7.out; simpa using q)
              exact JOIN pe px A5 c5 A6 c6 A7 c7 wc ⟨O8, Lib.hid F7.out.1, C⟩
          case rest =>
            intro pe px A5 c5 A6 c6 A7 c7 w7 FJ
            obtain ⟨O7, F7, C7⟩ := FJ
            have PC7 := Lib.hid (PC.out.trans (KD.out.trans C7.out))
            have FN : Hid (∀ a, A7 = some a → w4.heap.size ≤ a.block) := Lib.hid (fun a ha => by have := F7.out a ha; have := (PC.out.trans KD.out).size; omega)
            clear R1 R2 DX XC N1 N2 N3 L1 L2 C F7 KD C7 TO PC TN
            have TE7 : Hid (EvsR w3 (zs.take (kz) ++ x :: zs.drop (kz)) (gs.take (kz) ++ e :: gs.drop (kz))) := Lib.hid (TE.out.ins RX.out (kz))
            obtain ⟨us, hus⟩ : ∃ us, us = zs.take (kz) ++ x :: zs.drop (kz) := ⟨_, rfl⟩
            obtain ⟨hs, hhs⟩ : ∃ hs, hs = gs.take (kz) ++ e :: gs.drop (kz) := ⟨_, rfl⟩
            have TM7 : Hid ((∀ u, u ∈ hs ↔ u ∈ fs.take (i + 1)) ∧ us.length + 1 ≤ 2 * (i + 1) ∧ us.length = kz + 1 + (zs.length - kz)) := Lib.hid ⟨fun u => by
              rw [hhs, ET.out, mem_ins, List.mem_append, List.mem_singleton]
              exact or_congr (TM.out.1 u) Iff.rfl, by have := TM.out.2; have := KL.out; rw [hus]; simp at this ⊢; omega, by have := KL.out; rw [hus]; simp; try omega⟩
            rw [← hus] at O7 TE7
            rw [← hhs] at TE7
            have UL : Hid (kz + 1 + (zs.length - kz) = us.length) := Lib.hid TM7.out.2.2.symm
            clear hus hhs TE TM
            go_upto_region 14 with fail
            rw [UL.out]
            by_cases hQ : i < ds.length
            rotate_left
            · have Q1 : ¬ (i : Int) < (ds.length : Int) := by omega
              go_wp2
              go_round
              case rel => exact ⟨i + 1, A7, c7, us, hs, by omega, by go_num, by first | rfl | rw [TM7.out.2.2], O7, TE7, Lib.hid ⟨TM7.out.1, by have := TM7.out.2.1; omega⟩, FN, PC7⟩
              case measure => simp [RowKit.intOf]; omega
            have Q1 : (i : Int) < (ds.length : Int) := by omega
            obtain ⟨gd, od, eD, _⟩ := HD.out.line (by omega)
            have ED := Lib.hid eD
            obtain ⟨q, hq⟩ : ∃ q, ds[i]? = some q := ⟨_, List.getElem?_eq_getElem hQ⟩
            have zd := boolCells ((eD ▸ HD.out).chg (C3.out.trans (D4.out.trans PC7.out)) (by simp)) hq
            rw [eD]
            clear eD hq
            rcases q with _ | _
            · go_upto_region 9 with fail
              rw [← ED.out]
              clear zd
              go_wp2
              go_round
              case rel => exact ⟨i + 1, A7, c7, us, hs, by omega, by go_num, by first | rfl | rw [TM7.out.2.2], O7, TE7, Lib.hid ⟨TM7.out.1, by have := TM7.out.2.1; omega⟩, FN, PC7⟩
              case measure => simp [RowKit.intOf]; omega
            go_upto_region 15 with fail
            clear zd
            rw [← ED.out]
            obtain ⟨z0, z1, z2, z3, z4, z5, z6⟩ := evCells (HF.out.chg (D4.out.trans PC7.out) (by simp)) EX.out
            obtain ⟨w8, hw, cn, bn⟩ := news1 w7 (.cells #[.int .i64 x.n, .int .i64 x.s, .string x.p, .int .i64 x.k, .int .i64 x.m, .slice x.A x.l x.c, .slice x.B x.bl x.bc] 30)
            have W8 := Lib.hid hw
            have XR := Lib.hid (rd_oneEc bn)
            have O8 := Lib.hid (O7.out.chg cn (by simp))
            have PC8 := Lib.hid (PC7.out.trans cn)
            have N4 : Hid ((us.length + 1) * 400 ≤ 140737488355327) := Lib.hid (by have := TM7.out.2.1; have := FL.out; omega)
            clear hw cn bn O7 PC7
            go_wp2_with (at_builtin; rw [← W8.out]; refine wpList_appK (R := evTy) rfl (.tmp 77) (.tmp 82) rfl rfl (A := A7) (n := us.length) (m := 1) (c := c7) (d := 1) (xs := us) (ys := [x]) O8.out rfl rfl XR.out N4.out ?_; intro A9 c9 w9 o9 g9 e9)
            have O9 := Lib.hid o9
            have F9 := Lib.hid (fresh_appE FN.out PC8.out g9 e9)
            have NL : Hid (us.length + 1 = (us ++ [x]).length) := Lib.hid (by have := TM7.out.2.2; simp <;> omega)
            have TM9 : Hid ((∀ u, u ∈ hs ++ [e] ↔ u ∈ fs.take (i + 1)) ∧ (us ++ [x]).length ≤ 2 * (i + 1)) := Lib.hid ⟨fun u => by
              rw [List.mem_append, TM7.out.1 u, List.mem_singleton]
              exact ⟨fun h => h.elim id (fun q => by rw [q, ET.out]; simp), .inl⟩, by have := TM7.out.2.1; simp; omega⟩
            clear o9 g9 e9 z0 z1 z2 z3 z4 z5 z6
            try rw [NL.out]
            go_wp2
            go_round
            case rel => exact ⟨i + 1, A9, c9, us ++ [x], hs ++ [e], by omega, by go_num, by first | rfl | rw [← NL.out] | (simp; done) | (simp; have := TM7.out.2.2; omega), O9, Lib.hid (TE7.out.snoc RX.out), TM9, Lib.hid F9.out.1, Lib.hid F9.out.2⟩
            case measure => simp [RowKit.intOf]; omega
      have P1 : (i : Int) < (bs.length : Int) := by omega
      obtain ⟨gb, ob, eB, HBC⟩ := HB.out.line (by omega)
      have zb0 := HBC i hP
      have zb : wr.cell? ⟨gb, ob + i, none⟩ = some (.int .i64 (bs.getD i 0)) := (C3.out.trans (D4.out.trans PC.out)).cell zb0 (by simp)
      have EB := Lib.hid eB
      rw [eB]
      generalize bs.getD i 0 = v at *
      have s1 : IntKind.i64.wrap ((zs.length : Int) + 1) = (zs.length : Int) + 1 := IntWalk.i64_in _ (by have := ZLN.out; omega)
      clear eB HBC zb0
      go_wp2_with fail
      refine (pick_any wr v ((zs.length : Int) + 1) (by omega) (by have := ZLN.out; omega)).mono ?_
      rintro r w5 ⟨rfl, hw5⟩
      subst hw5
      obtain ⟨kk, hkk⟩ : ∃ kk : Nat, v % ((zs.length : Int) + 1) = (kk : Int) := ⟨(v % ((zs.length : Int) + 1)).toNat, (Int.toNat_of_nonneg (Int.emod_nonneg _ (by omega))).symm⟩
      have KL : Hid (kk ≤ zs.length) := Lib.hid (by have := Int.emod_lt_of_pos v (show (0 : Int) < (zs.length : Int) + 1 by omega); omega)
      rw [hkk]
      clear hkk zb s1
      rcases TO.out.shape with ⟨hA2, hzs, hc2⟩ | ⟨g2, hA2, _⟩
      · subst hA2 hzs hc2
        have hgs : gs = [] := List.length_eq_zero_iff.1 (by have := TE.out.1; simpa using this.symm)
        subst hgs
        have K0 : kk = 0 := by have := KL.out; simpa using this
        subst K0
        go_upto_region 13 with fail
        have XC : Hid (∀ w', Chg [] wr w' → _) := Lib.hid (fun w' hc => evCells (HF.out.chg (D4.out.trans (PC.out.trans hc)) (by simp)) EX.out)
        refine wp_region_held_drew (S := fun w' => w'.cell? ⟨g3, o3 + i * 7, none⟩ = some (.int .i64 x.n) ∧ w'.cell? ⟨g3, o3 + i * 7 + 1, none⟩ = some (.int .i64 x.s) ∧ w'.cell? ⟨g3, o3 + i * 7 + 2, none⟩ = some (.string x.p) ∧ w'.cell? ⟨g3, o3 + i * 7 + 3, none⟩ = some (.int .i64 x.k) ∧ w'.cell? ⟨g3, o3 + i * 7 + 4, none⟩ = some (.int .i64 x.m) ∧ w'.cell? ⟨g3, o3 + i * 7 + 5, none⟩ = some (.slice x.A x.l x.c) ∧ w'.cell? ⟨g3, o3 + i * 7 + 6, none⟩ = some (.slice x.B x.bl x.bc)) (by kernel_rfl) (XC.out _ (Chg.refl [] wr).drew) (fun hHeld => ?_)
        have KD := Lib.hid (Chg.refl [] wr).drew
        clear hHeld
        generalize wr.drew = wd at *
        have DX : Hid (∀ w', Chg [] wd w' → _) := Lib.hid (fun w' hc => XC.out w' (KD.out.trans hc))
        have R1 : Hid (∀ w', Chg [] wd w' → RdK evTy w' none 0 (([] : List EvT).take 0)) := Lib.hid (fun w' hc => RdK.nil w' none)
        have R2 : Hid (∀ w', Chg [] wd w' → RdK evTy w' none 0 (([] : List EvT).drop 0)) := Lib.hid (fun w' hc => RdK.nil w' none)
        have N1 : Hid ((0 + (0)) * 400 ≤ 140737488355327) := Lib.hid (by have := ZLN.out; have := KL.out; omega)
        have N2 : Hid ((0 + 1) * 400 ≤ 140737488355327) := Lib.hid (by have := ZLN.out; have := KL.out; omega)
        have N3 : Hid ((0 + 1 + (0)) * 400 ≤ 140737488355327) := Lib.hid (by have := ZLN.out; have := KL.out; omega)
        have L1 : Hid (([] ++ ([] : List EvT).take (0)).length = 0) := Lib.hid (by have := KL.out; simp; try omega)
        have L2 : Hid (([] ++ ([] : List EvT).take (0) ++ [x]).length = 0 + 1) := Lib.hid (by have := KL.out; simp; try omega)
        obtain ⟨wc, hwc⟩ : ∃ wc, wd = wc := ⟨_, rfl⟩
        have C : Hid (Chg [] wd wc) := Lib.hid (hwc ▸ Chg.refl [] wd)
        rw [hwc]
        clear hwc
        refine' joinT9 (F := fun (p q : Nat) (A5 : Option Addr) (c5 : Nat) (A6 : Option Addr) (c6 : Nat) (A7 : Option Addr) (c7 : Nat) (w7 : World) => Hid (OwnK evTy w7 A7 c7 (([] : List EvT).take (0) ++ x :: ([] : List EvT).drop (0))) ∧ Hid (∀ a, A7 = some a → wd.heap.size ≤ a.block) ∧ Hid (Chg [] wd w7)) (R := _) (fun JOIN => ?leaf) ?rest
        case leaf =>
          refine sy 1 53 rfl rfl ?_ (hS := (DX.out _ C.out))
          try simp only [Act.put, sA, s0, s1]
          refine sy 2 54 rfl rfl ?_ (hS := (DX.out _ C.out))
          try simp only [Act.put, sA, s0, s1]
          refine sy 3 55 rfl rfl ?_ (hS := (DX.out _ C.out))
          try simp only [Act.put, sA, s0, s1]
          refine sy 5 57 rfl rfl ?_ (hS := (DX.out _ C.out))
          try simp only [Act.put, sA, s0, s1]
          refine sy 6 58 rfl rfl ?_ (hS := (DX.out _ C.out))
          try simp only [Act.put, sA, s0, s1]
          refine sy 7 59 rfl rfl ?_ (hS := (DX.out _ C.out))
          try simp only [Act.put, sA, s0, s1]
          refine sy 8 60 rfl rfl ?_ (hS := (DX.out _ C.out)) (hy := by (intro w hSw; (try dsimp only at hSw); obtain ⟨q0, q1, q2, q3, q4, q5, q6⟩ := hSw; go_simp; try with_reducible rfl))
          try simp only [Act.put, sA, s0, s1]
          refine sy 11 63 rfl rfl ?_ (hS := (DX.out _ C.out))
          try simp only [Act.put, sA, s0, s1]
          refine sy 12 64 rfl rfl ?_ (hS := (DX.out _ C.out))
          try simp only [Act.put, sA, s0, s1]
          refine sy 13 65 rfl rfl ?_ (hS := (DX.out _ C.out))
          try simp only [Act.put, sA, s0, s1]
          refine wpAnyH_ready (rs := [0, 9]) (by kernel_rfl) (by simp) ?_
          refine AllReadyH.cons rfl (fun K hK => ?_) (AllReadyH.cons rfl (fun K hK => ?_) AllReadyH.nil)
          · skip
            replace hK := Lib.hid hK
            have hHeld := DX.out _ C.out
            obtain ⟨q0, q1, q2, q3, q4, q5, q6⟩ := hHeld
            obtain ⟨pe, hpp⟩ : ∃ p, wc.heap.size = p := ⟨_, rfl⟩
            have SZpe := Lib.hid (sizedE C.out hpp)
            have NSpe := Lib.hid hpp
            clear hpp
            go_simp
            clear q0 q1 q2 q3 q4 q5 q6
            obtain ⟨wc, hw, cn, bn⟩ := news1 wc (.cells #[] 30)
            rw [← hw, NSpe.out]
            rw [NSpe.out] at bn
            have EO := Lib.hid (own_emptyE bn)
            have LTpe := Lib.hid (lt_of_heap bn)
            replace C := Lib.hid (C.out.trans cn)
            try replace XR := Lib.hid (XR.out.chg cn (by simp))
            try have NE : Hid (px ≠ pe) := Lib.hid (by have := NSpe.out; have := LTpx.out; omega)
            clear hw cn bn
            refine hK.out _ _ (DX.out _ C.out) (fun hHeld => ?_)
            clear hK K
            try simp only [Act.put, sA, s0, s1]
            refine wpAnyH_ready (rs := [4, 9]) (by kernel_rfl) (by simp) ?_
            refine AllReadyH.cons rfl (fun K hK => ?_) (AllReadyH.cons rfl (fun K hK => ?_) AllReadyH.nil)
            · skip
              replace hK := Lib.hid hK
              refine step_appK (R := evTy) rfl (.tmp 52) (.tmp 55) rfl rfl (A := some ⟨pe, 0, none⟩) (B := none) (n := 0) (m := 0) (c := 0) (d := 0) (xs := []) (ys := ([] : List EvT).take (0)) EO.out rfl rfl (R1.out _ C.out) N1.out ?_
              rw [Nat.zero_add]
              intro A5 c5 wc o5 g5 e5
              have O5 := Lib.hid o5
              have F5 := Lib.hid (fresh_appE SZpe.out C.out g5 e5)
              replace C := Lib.hid F5.out.2
              try replace XR := Lib.hid (rd_overE XR.out NE.out g5)
              clear o5 g5 e5
              refine hK.out _ _ (DX.out _ C.out) (fun hHeld => ?_)
              clear hK K
              try simp only [Act.put, sA, s0, s1]
              refine wpAnyH_ready (rs := [9]) (by kernel_rfl) (by simp) ?_
              refine AllReadyH.cons rfl (fun K hK => ?_) AllReadyH.nil
              replace hK := Lib.hid hK
              have hHeld := DX.out _ C.out
              obtain ⟨q0, q1, q2, q3, q4, q5, q6⟩ := hHeld
              obtain ⟨px, hpp⟩ : ∃ p, wc.heap.size = p := ⟨_, rfl⟩
              have SZpx := Lib.hid (sizedE C.out hpp)
              have NSpx := Lib.hid hpp
              clear hpp
              go_simp
              clear q0 q1 q2 q3 q4 q5 q6
              obtain ⟨wc, hw, cn, bn⟩ := news1 wc (.cells #[.int .i64 x.n, .int .i64 x.s, .string x.p, .int .i64 x.k, .int .i64 x.m, .slice x.A x.l x.c, .slice x.B x.bl x.bc] 30)
              rw [← hw, NSpx.out]
              rw [NSpx.out] at bn
              have XR := Lib.hid (rd_oneEc (X := x) bn)
              have LTpx := Lib.hid (lt_of_heap bn)
              replace C := Lib.hid (C.out.trans cn)
              try replace EO := Lib.hid (EO.out.chg cn (by simp))
              try replace O5 := Lib.hid (O5.out.chg cn (by simp))
              try have NE : Hid (px ≠ pe) := Lib.hid (by have := NSpx.out; have := LTpe.out; omega)
              clear hw cn bn
              refine hK.out _ _ (DX.out _ C.out) (fun hHeld => ?_)
              clear hK K
              try simp only [Act.put, sA, s0, s1]
              refine wpAnyH_ready (rs := [10]) (by kernel_rfl) (by simp) ?_
              refine AllReadyH.cons rfl (fun K hK => ?_) AllReadyH.nil
              replace hK := Lib.hid hK
              refine step_appK (R := evTy) rfl (.tmp 56) (.tmp 61) rfl rfl (A := A5) (B := some ⟨px, 0, none⟩) (n := 0) (m := 1) (c := c5) (d := 1) (xs := [] ++ ([] : List EvT).take (0)) (ys := [x]) O5.out L1.out rfl XR.out N2.out ?_
              intro A6 c6 wc o6 g6 e6
              have O6 := Lib.hid o6
              have F6 := Lib.hid (fresh_appE F5.out.1 C.out g6 e6)
              replace C := Lib.hid F6.out.2
              clear o6 g6 e6
              refine hK.out _ _ (DX.out _ C.out) (fun hHeld => ?_)
              clear hK K
              try simp only [Act.put, sA, s0, s1]
              refine wpAnyH_ready (rs := [14]) (by kernel_rfl) (by simp) ?_
              refine AllReadyH.cons rfl (fun K hK => ?_) AllReadyH.nil
              replace hK := Lib.hid hK
              refine step_appK (R := evTy) rfl (.tmp 62) (.tmp 65) rfl rfl (A := A6) (B := none) (n := 0 + 1) (m := 0) (c := c6) (d := 0) (xs := [] ++ ([] : List EvT).take (0) ++ [x]) (ys := ([] : List EvT).drop (0)) O6.out L2.out rfl (R2.out _ C.out) N3.out ?_
              intro A7 c7 wc o7 g7 e7
              have O7 := Lib.hid o7
              have F7 := Lib.hid (fresh_appE F6.out.1 C.out g7 e7)
              replace C := Lib.hid F7.out.2
              clear o7 g7 e7
              refine hK.out _ _ (DX.out _ C.out) (fun hHeld => ?_)
              clear hK K
              try simp only [Act.put, sA, s0, s1]
              refine sy 15 10 rfl rfl ?_ (hS := (DX.out _ C.out))
              try simp only [Act.put, sA, s0, s1]
              refine wpAnyH_done (by kernel_rfl) ?_ _
              clear hHeld
              have O8 : Hid (OwnK evTy wc A7 c7 (([] : List EvT).take (0) ++ x :: ([] : List EvT).drop (0))) := Lib.hid (by have q := O7.out; simpa using q)
              exact JOIN pe px A5 c5 A6 c6 A7 c7 wc ⟨O8, Lib.hid F7.out.1, C⟩
            · skip
              replace hK := Lib.hid hK
              have hHeld := DX.out _ C.out
              obtain ⟨q0, q1, q2, q3, q4, q5, q6⟩ := hHeld
              obtain ⟨px, hpp⟩ : ∃ p, wc.heap.size = p := ⟨_, rfl⟩
              have SZpx := Lib.hid (sizedE C.out hpp)
              have NSpx := Lib.hid hpp
              clear hpp
              go_simp
              clear q0 q1 q2 q3 q4 q5 q6
              obtain ⟨wc, hw, cn, bn⟩ := news1 wc (.cells #[.int .i64 x.n, .int .i64 x.s, .string x.p, .int .i64 x.k, .int .i64 x.m, .slice x.A x.l x.c, .slice x.B x.bl x.bc] 30)
              rw [← hw, NSpx.out]
              rw [NSpx.out] at bn
              have XR := Lib.hid (rd_oneEc (X := x) bn)
              have LTpx := Lib.hid (lt_of_heap bn)
              replace C := Lib.hid (C.out.trans cn)
              try replace EO := Lib.hid (EO.out.chg cn (by simp))
              try replace O5 := Lib.hid (O5.out.chg cn (by simp))
              try have NE : Hid (px ≠ pe) := Lib.hid (by have := NSpx.out; have := LTpe.out; omega)
              clear hw cn bn
              refine hK.out _ _ (DX.out _ C.out) (fun hHeld => ?_)
              clear hK K
              try simp only [Act.put, sA, s0, s1]
              refine wpAnyH_ready (rs := [4]) (by kernel_rfl) (by simp) ?_
              refine AllReadyH.cons rfl (fun K hK => ?_) AllReadyH.nil
              replace hK := Lib.hid hK
              refine step_appK (R := evTy) rfl (.tmp 52) (.tmp 55) rfl rfl (A := some ⟨pe, 0, none⟩) (B := none) (n := 0) (m := 0) (c := 0) (d := 0) (xs := []) (ys := ([] : List EvT).take (0)) EO.out rfl rfl (R1.out _ C.out) N1.out ?_
              rw [Nat.zero_add]
              intro A5 c5 wc o5 g5 e5
              have O5 := Lib.hid o5
              have F5 := Lib.hid (fresh_appE SZpe.out C.out g5 e5)
              replace C := Lib.hid F5.out.2
              try replace XR := Lib.hid (rd_overE XR.out NE.out g5)
              clear o5 g5 e5
              refine hK.out _ _ (DX.out _ C.out) (fun hHeld => ?_)
              clear hK K
              try simp only [Act.put, sA, s0, s1]
              refine wpAnyH_ready (rs := [10]) (by kernel_rfl) (by simp) ?_
              refine AllReadyH.cons rfl (fun K hK => ?_) AllReadyH.nil
              replace hK := Lib.hid hK
              refine step_appK (R := evTy) rfl (.tmp 56) (.tmp 61) rfl rfl (A := A5) (B := some ⟨px, 0, none⟩) (n := 0) (m := 1) (c := c5) (d := 1) (xs := [] ++ ([] : List EvT).take (0)) (ys := [x]) O5.out L1.out rfl XR.out N2.out ?_
              intro A6 c6 wc o6 g6 e6
              have O6 := Lib.hid o6
              have F6 := Lib.hid (fresh_appE F5.out.1 C.out g6 e6)
              replace C := Lib.hid F6.out.2
              clear o6 g6 e6
              refine hK.out _ _ (DX.out _ C.out) (fun hHeld => ?_)
              clear hK K
              try simp only [Act.put, sA, s0, s1]
              refine wpAnyH_ready (rs := [14]) (by kernel_rfl) (by simp) ?_
              refine AllReadyH.cons rfl (fun K hK => ?_) AllReadyH.nil
              replace hK := Lib.hid hK
              refine step_appK (R := evTy) rfl (.tmp 62) (.tmp 65) rfl rfl (A := A6) (B := none) (n := 0 + 1) (m := 0) (c := c6) (d := 0) (xs := [] ++ ([] : List EvT).take (0) ++ [x]) (ys := ([] : List EvT).drop (0)) O6.out L2.out rfl (R2.out _ C.out) N3.out ?_
              intro A7 c7 wc o7 g7 e7
              have O7 := Lib.hid o7
              have F7 := Lib.hid (fresh_appE F6.out.1 C.out g7 e7)
              replace C := Lib.hid F7.out.2
              clear o7 g7 e7
              refine hK.out _ _ (DX.out _ C.out) (fun hHeld => ?_)
              clear hK K
              try simp only [Act.put, sA, s0, s1]
              refine sy 15 10 rfl rfl ?_ (hS := (DX.out _ C.out))
              try simp only [Act.put, sA, s0, s1]
              refine wpAnyH_done (by kernel_rfl) ?_ _
              clear hHeld
              have O8 : Hid (OwnK evTy wc A7 c7 (([] : List EvT).take (0) ++ x :: ([] : List EvT).drop (0))) := Lib.hid (by have q := O7.out; simpa using q)
              exact JOIN pe px A5 c5 A6 c6 A7 c7 wc ⟨O8, Lib.hid F7.out.1, C⟩
          · skip
            replace hK := Lib.hid hK
            have hHeld := DX.out _ C.out
            obtain ⟨q0, q1, q2, q3, q4, q5, q6⟩ := hHeld
            obtain ⟨px, hpp⟩ : ∃ p, wc.heap.size = p := ⟨_, rfl⟩
            have SZpx := Lib.hid (sizedE C.out hpp)
            have NSpx := Lib.hid hpp
            clear hpp
            go_simp
            clear q0 q1 q2 q3 q4 q5 q6
            obtain ⟨wc, hw, cn, bn⟩ := news1 wc (.cells #[.int .i64 x.n, .int .i64 x.s, .string x.p, .int .i64 x.k, .int .i64 x.m, .slice x.A x.l x.c, .slice x.B x.bl x.bc] 30)
            rw [← hw, NSpx.out]
            rw [NSpx.out] at bn
            have XR := Lib.hid (rd_oneEc (X := x) bn)
            have LTpx := Lib.hid (lt_of_heap bn)
            replace C := Lib.hid (C.out.trans cn)
            try replace EO := Lib.hid (EO.out.chg cn (by simp))
            try replace O5 := Lib.hid (O5.out.chg cn (by simp))
            try have NE : Hid (px ≠ pe) := Lib.hid (by have := NSpx.out; have := LTpe.out; omega)
            clear hw cn bn
            refine hK.out _ _ (DX.out _ C.out) (fun hHeld => ?_)
            clear hK K
            try simp only [Act.put, sA, s0, s1]
            refine wpAnyH_ready (rs := [0]) (by kernel_rfl) (by simp) ?_
            refine AllReadyH.cons rfl (fun K hK => ?_) AllReadyH.nil
            replace hK := Lib.hid hK
            have hHeld := DX.out _ C.out
            obtain ⟨q0, q1, q2, q3, q4, q5, q6⟩ := hHeld
            obtain ⟨pe, hpp⟩ : ∃ p, wc.heap.size = p := ⟨_, rfl⟩
            have SZpe := Lib.hid (sizedE C.out hpp)
            have NSpe := Lib.hid hpp
            clear hpp
            go_simp
            clear q0 q1 q2 q3 q4 q5 q6
            obtain ⟨wc, hw, cn, bn⟩ := news1 wc (.cells #[] 30)
            rw [← hw, NSpe.out]
            rw [NSpe.out] at bn
            have EO := Lib.hid (own_emptyE bn)
            have LTpe := Lib.hid (lt_of_heap bn)
            replace C := Lib.hid (C.out.trans cn)
            try replace XR := Lib.hid (XR.out.chg cn (by simp))
            try have NE : Hid (px ≠ pe) := Lib.hid (by have := NSpe.out; have := LTpx.out; omega)
            clear hw cn bn
            refine hK.out _ _ (DX.out _ C.out) (fun hHeld => ?_)
            clear hK K
            try simp only [Act.put, sA, s0, s1]
            refine wpAnyH_ready (rs := [4]) (by kernel_rfl) (by simp) ?_
            refine AllReadyH.cons rfl (fun K hK => ?_) AllReadyH.nil
            replace hK := Lib.hid hK
            refine step_appK (R := evTy) rfl (.tmp 52) (.tmp 55) rfl rfl (A := some ⟨pe, 0, none⟩) (B := none) (n := 0) (m := 0) (c := 0) (d := 0) (xs := []) (ys := ([] : List EvT).take (0)) EO.out rfl rfl (R1.out _ C.out) N1.out ?_
            rw [Nat.zero_add]
            intro A5 c5 wc o5 g5 e5
            have O5 := Lib.hid o5
            have F5 := Lib.hid (fresh_appE SZpe.out C.out g5 e5)
            replace C := Lib.hid F5.out.2
            try replace XR := Lib.hid (rd_overE XR.out NE.out g5)
            clear o5 g5 e5
            refine hK.out _ _ (DX.out _ C.out) (fun hHeld => ?_)
            clear hK K
            try simp only [Act.put, sA, s0, s1]
            refine wpAnyH_ready (rs := [10]) (by kernel_rfl) (by simp) ?_
            refine AllReadyH.cons rfl (fun K hK => ?_) AllReadyH.nil
            replace hK := Lib.hid hK
            refine step_appK (R := evTy) rfl (.tmp 56) (.tmp 61) rfl rfl (A := A5) (B := some ⟨px, 0, none⟩) (n := 0) (m := 1) (c := c5) (d := 1) (xs := [] ++ ([] : List EvT).take (0)) (ys := [x]) O5.out L1.out rfl XR.out N2.out ?_
            intro A6 c6 wc o6 g6 e6
            have O6 := Lib.hid o6
            have F6 := Lib.hid (fresh_appE F5.out.1 C.out g6 e6)
            replace C := Lib.hid F6.out.2
            clear o6 g6 e6
            refine hK.out _ _ (DX.out _ C.out) (fun hHeld => ?_)
            clear hK K
            try simp only [Act.put, sA, s0, s1]
            refine wpAnyH_ready (rs := [14]) (by kernel_rfl) (by simp) ?_
            refine AllReadyH.cons rfl (fun K hK => ?_) AllReadyH.nil
            replace hK := Lib.hid hK
            refine step_appK (R := evTy) rfl (.tmp 62) (.tmp 65) rfl rfl (A := A6) (B := none) (n := 0 + 1) (m := 0) (c := c6) (d := 0) (xs := [] ++ ([] : List EvT).take (0) ++ [x]) (ys := ([] : List EvT).drop (0)) O6.out L2.out rfl (R2.out _ C.out) N3.out ?_
            intro A7 c7 wc o7 g7 e7
            have O7 := Lib.hid o7
            have F7 := Lib.hid (fresh_appE F6.out.1 C.out g7 e7)
            replace C := Lib.hid F7.out.2
            clear o7 g7 e7
            refine hK.out _ _ (DX.out _ C.out) (fun hHeld => ?_)
            clear hK K
            try simp only [Act.put, sA, s0, s1]
            refine sy 15 10 rfl rfl ?_ (hS := (DX.out _ C.out))
            try simp only [Act.put, sA, s0, s1]
            refine wpAnyH_done (by kernel_rfl) ?_ _
            clear hHeld
            have O8 : Hid (OwnK evTy wc A7 c7 (([] : List EvT).take (0) ++ x :: ([] : List EvT).drop (0))) := Lib.hid (by have q := O7.out; simpa using q)
            exact JOIN pe px A5 c5 A6 c6 A7 c7 wc ⟨O8, Lib.hid F7.out.1, C⟩
        case rest =>
          intro pe px A5 c5 A6 c6 A7 c7 w7 FJ
          obtain ⟨O7, F7, C7⟩ := FJ
          have PC7 := Lib.hid (PC.out.trans (KD.out.trans C7.out))
          have FN : Hid (∀ a, A7 = some a → w4.heap.size ≤ a.block) := Lib.hid (fun a ha => by have := F7.out a ha; have := (PC.out.trans KD.out).size; omega)
          clear R1 R2 DX XC N1 N2 N3 L1 L2 C F7 KD C7 TO PC TN
          have TE7 : Hid (EvsR w3 (([] : List EvT).take (0) ++ x :: ([] : List EvT).drop (0)) (([] : List EvP).take (0) ++ e :: ([] : List EvP).drop (0))) := Lib.hid (TE.out.ins RX.out (0))
          obtain ⟨us, hus⟩ : ∃ us, us = ([] : List EvT).take (0) ++ x :: ([] : List EvT).drop (0) := ⟨_, rfl⟩
          obtain ⟨hs, hhs⟩ : ∃ hs, hs = ([] : List EvP).take (0) ++ e :: ([] : List EvP).drop (0) := ⟨_, rfl⟩
          have TM7 : Hid ((∀ u, u ∈ hs ↔ u ∈ fs.take (i + 1)) ∧ us.length + 1 ≤ 2 * (i + 1) ∧ us.length = 0 + 1 + (0)) := Lib.hid ⟨fun u => by
            rw [hhs, ET.out, mem_ins, List.mem_append, List.mem_singleton]
            exact or_congr (TM.out.1 u) Iff.rfl, by have := TM.out.2; have := KL.out; rw [hus]; simp at this ⊢; omega, by have := KL.out; rw [hus]; simp; try omega⟩
          rw [← hus] at O7 TE7
          rw [← hhs] at TE7
          have UL : Hid (0 + 1 + (0) = us.length) := Lib.hid TM7.out.2.2.symm
          clear hus hhs TE TM
          go_upto_region 14 with fail
          skip
          by_cases hQ : i < ds.length
          rotate_left
          · have Q1 : ¬ (i : Int) < (ds.length : Int) := by omega
            go_wp2
            go_round
            case rel => exact ⟨i + 1, A7, c7, us, hs, by omega, by go_num, by first | rfl | rw [TM7.out.2.2], O7, TE7, Lib.hid ⟨TM7.out.1, by have := TM7.out.2.1; omega⟩, FN, PC7⟩
            case measure => simp [RowKit.intOf]; omega
          have Q1 : (i : Int) < (ds.length : Int) := by omega
          obtain ⟨gd, od, eD, _⟩ := HD.out.line (by omega)
          have ED := Lib.hid eD
          obtain ⟨q, hq⟩ : ∃ q, ds[i]? = some q := ⟨_, List.getElem?_eq_getElem hQ⟩
          have zd := boolCells ((eD ▸ HD.out).chg (C3.out.trans (D4.out.trans PC7.out)) (by simp)) hq
          rw [eD]
          clear eD hq
          rcases q with _ | _
          · go_upto_region 9 with fail
            rw [← ED.out]
            clear zd
            go_wp2
            go_round
            case rel => exact ⟨i + 1, A7, c7, us, hs, by omega, by go_num, by first | rfl | rw [TM7.out.2.2], O7, TE7, Lib.hid ⟨TM7.out.1, by have := TM7.out.2.1; omega⟩, FN, PC7⟩
            case measure => simp [RowKit.intOf]; omega
          go_upto_region 15 with fail
          clear zd
          rw [← ED.out]
          obtain ⟨z0, z1, z2, z3, z4, z5, z6⟩ := evCells (HF.out.chg (D4.out.trans PC7.out) (by simp)) EX.out
          obtain ⟨w8, hw, cn, bn⟩ := news1 w7 (.cells #[.int .i64 x.n, .int .i64 x.s, .string x.p, .int .i64 x.k, .int .i64 x.m, .slice x.A x.l x.c, .slice x.B x.bl x.bc] 30)
          have W8 := Lib.hid hw
          have XR := Lib.hid (rd_oneEc bn)
          have O8 := Lib.hid (O7.out.chg cn (by simp))
          have PC8 := Lib.hid (PC7.out.trans cn)
          have N4 : Hid ((1 + 1) * 400 ≤ 140737488355327) := Lib.hid (by have := TM7.out.2.1; have := FL.out; omega)
          clear hw cn bn O7 PC7
          go_wp2_with (at_builtin; rw [← W8.out]; refine wpList_appK (R := evTy) rfl (.tmp 77) (.tmp 82) rfl rfl (A := A7) (n := 1) (m := 1) (c := c7) (d := 1) (xs := us) (ys := [x]) O8.out (by rw [TM7.out.2.2]) rfl XR.out N4.out ?_; intro A9 c9 w9 o9 g9 e9)
          have O9 := Lib.hid o9
          have F9 := Lib.hid (fresh_appE FN.out PC8.out g9 e9)
          have NL : Hid (1 + 1 = (us ++ [x]).length) := Lib.hid (by have := TM7.out.2.2; simp <;> omega)
          have TM9 : Hid ((∀ u, u ∈ hs ++ [e] ↔ u ∈ fs.take (i + 1)) ∧ (us ++ [x]).length ≤ 2 * (i + 1)) := Lib.hid ⟨fun u => by
            rw [List.mem_append, TM7.out.1 u, List.mem_singleton]
            exact ⟨fun h => h.elim id (fun q => by rw [q, ET.out]; simp), .inl⟩, by have := TM7.out.2.1; simp; omega⟩
          clear o9 g9 e9 z0 z1 z2 z3 z4 z5 z6
          try rw [NL.out]
          go_wp2
          go_round
          case rel => exact ⟨i + 1, A9, c9, us ++ [x], hs ++ [e], by omega, by go_num, by first | rfl | rw [← NL.out] | (simp; done) | (simp; have := TM7.out.2.2; omega), O9, Lib.hid (TE7.out.snoc RX.out), TM9, Lib.hid F9.out.1, Lib.hid F9.out.2⟩
          case measure => simp [RowKit.intOf]; omega
      · subst hA2
        have HC2 := TO.out.cap
        have b0 : (0 : Int) ≤ (kk : Nat) := Int.natCast_nonneg _
        have b1 : kk ≤ c2 := by have := KL.out; omega
        have b2 : ((kk : Nat) : Int) ≤ (c2 : Int) := by omega
        have b3 : ((kk : Nat) : Int) ≤ (zs.length : Int) := by have := KL.out; omega
        have b4 : kk ≤ zs.length := KL.out
        obtain ⟨AD, hAD⟩ : ∃ AD : Option Addr, (if c2 = kk then some (⟨g2, 0, none⟩ : Addr) else some ⟨g2, kk * 7, none⟩) = AD := ⟨_, rfl⟩
        have ADR : Hid (∀ w', OwnK evTy w' (some ⟨g2, 0, none⟩) c2 zs → RdK evTy w' AD (zs.length - kk) (zs.drop kk)) := Lib.hid (fun w' ho => by
          rw [← hAD]
          by_cases q : c2 = kk
          · have e : zs.drop kk = [] := List.drop_of_length_le (by have := ho.cap.1; omega)
            rw [e, show zs.length - kk = 0 by have := ho.cap.1; omega]
            exact RdK.nil _ _
          · rw [if_neg q]
            have r := ho.reads.part kk (zs.length - kk) (by have := KL.out; omega)
            rw [List.take_of_length_le (by rw [List.length_drop]; omega), Nat.zero_add] at r
            exact r)
        clear HC2
        go_upto_region 13 with fail
        have XC : Hid (∀ w', Chg [] wr w' → _) := Lib.hid (fun w' hc => evCells (HF.out.chg (D4.out.trans (PC.out.trans hc)) (by simp)) EX.out)
        refine wp_region_held_drew (S := fun w' => w'.cell? ⟨g3, o3 + i * 7, none⟩ = some (.int .i64 x.n) ∧ w'.cell? ⟨g3, o3 + i * 7 + 1, none⟩ = some (.int .i64 x.s) ∧ w'.cell? ⟨g3, o3 + i * 7 + 2, none⟩ = some (.string x.p) ∧ w'.cell? ⟨g3, o3 + i * 7 + 3, none⟩ = some (.int .i64 x.k) ∧ w'.cell? ⟨g3, o3 + i * 7 + 4, none⟩ = some (.int .i64 x.m) ∧ w'.cell? ⟨g3, o3 + i * 7 + 5, none⟩ = some (.slice x.A x.l x.c) ∧ w'.cell? ⟨g3, o3 + i * 7 + 6, none⟩ = some (.slice x.B x.bl x.bc)) (by kernel_rfl) (XC.out _ (Chg.refl [] wr).drew) (fun hHeld => ?_)
        have KD := Lib.hid (Chg.refl [] wr).drew
        clear hHeld
        generalize wr.drew = wd at *
        have DX : Hid (∀ w', Chg [] wd w' → _) := Lib.hid (fun w' hc => XC.out w' (KD.out.trans hc))
        have R1 : Hid (∀ w', Chg [] wd w' → RdK evTy w' (some ⟨g2, 0, none⟩) (kk) (zs.take (kk))) := Lib.hid (fun w' hc => by
          have q := (TO.out.take (kk)).reads.chg (KD.out.trans hc) (by simp)
          rwa [List.length_take, Nat.min_eq_left KL.out] at q)
        have R2 : Hid (∀ w', Chg [] wd w' → RdK evTy w' AD (zs.length - kk) (zs.drop (kk))) := Lib.hid (fun w' hc => ADR.out w' (TO.out.chg (KD.out.trans hc) (by simp)))
        have N1 : Hid ((0 + (kk)) * 400 ≤ 140737488355327) := Lib.hid (by have := ZLN.out; have := KL.out; omega)
        have N2 : Hid ((kk + 1) * 400 ≤ 140737488355327) := Lib.hid (by have := ZLN.out; have := KL.out; omega)
        have N3 : Hid ((kk + 1 + (zs.length - kk)) * 400 ≤ 140737488355327) := Lib.hid (by have := ZLN.out; have := KL.out; omega)
        have L1 : Hid (([] ++ zs.take (kk)).length = kk) := Lib.hid (by have := KL.out; simp; try omega)
        have L2 : Hid (([] ++ zs.take (kk) ++ [x]).length = kk + 1) := Lib.hid (by have := KL.out; simp; try omega)
        obtain ⟨wc, hwc⟩ : ∃ wc, wd = wc := ⟨_, rfl⟩
        have C : Hid (Chg [] wd wc) := Lib.hid (hwc ▸ Chg.refl [] wd)
        rw [hwc]
        clear hwc
        refine' joinT9 (F := fun (p q : Nat) (A5 : Option Addr) (c5 : Nat) (A6 : Option Addr) (c6 : Nat) (A7 : Option Addr) (c7 : Nat) (w7 : World) => Hid (OwnK evTy w7 A7 c7 (zs.take (kk) ++ x :: zs.drop (kk))) ∧ Hid (∀ a, A7 = some a → wd.heap.size ≤ a.block) ∧ Hid (Chg [] wd w7)) (R := _) (fun JOIN => ?leaf) ?rest
        case leaf =>
          refine sy 1 53 rfl rfl ?_ (hS := (DX.out _ C.out))
          try simp only [Act.put, sA, s0, s1]
          refine sy 2 54 rfl rfl ?_ (hS := (DX.out _ C.out))
          try simp only [Act.put, sA, s0, s1]
          refine sy 3 55 rfl rfl ?_ (hS := (DX.out _ C.out))
          try simp only [Act.put, sA, s0, s1]
          refine sy 5 57 rfl rfl ?_ (hS := (DX.out _ C.out))
          try simp only [Act.put, sA, s0, s1]
          refine sy 6 58 rfl rfl ?_ (hS := (DX.out _ C.out))
          try simp only [Act.put, sA, s0, s1]
          refine sy 7 59 rfl rfl ?_ (hS := (DX.out _ C.out))
          try simp only [Act.put, sA, s0, s1]
          refine sy 8 60 rfl rfl ?_ (hS := (DX.out _ C.out)) (hy := by (intro w hSw; (try dsimp only at hSw); obtain ⟨q0, q1, q2, q3, q4, q5, q6⟩ := hSw; go_simp; try with_reducible rfl))
          try simp only [Act.put, sA, s0, s1]
          refine sy 11 63 rfl rfl ?_ (hS := (DX.out _ C.out))
          try simp only [Act.put, sA, s0, s1]
          refine sy 12 64 rfl rfl ?_ (hS := (DX.out _ C.out))
          try simp only [Act.put, sA, s0, s1]
          refine sy 13 65 rfl rfl ?_ (hS := (DX.out _ C.out))
          try simp only [Act.put, sA, s0, s1]
          refine wpAnyH_ready (rs := [0, 9]) (by kernel_rfl) (by simp) ?_
          refine AllReadyH.cons rfl (fun K hK => ?_) (AllReadyH.cons rfl (fun K hK => ?_) AllReadyH.nil)
          · skip
            replace hK := Lib.hid hK
            have hHeld := DX.out _ C.out
            obtain ⟨q0, q1, q2, q3, q4, q5, q6⟩ := hHeld
            obtain ⟨pe, hpp⟩ : ∃ p, wc.heap.size = p := ⟨_, rfl⟩
            have SZpe := Lib.hid (sizedE C.out hpp)
            have NSpe := Lib.hid hpp
            clear hpp
            go_simp
            clear q0 q1 q2 q3 q4 q5 q6
            obtain ⟨wc, hw, cn, bn⟩ := news1 wc (.cells #[] 30)
            rw [← hw, NSpe.out]
            rw [NSpe.out] at bn
            have EO := Lib.hid (own_emptyE bn)
            have LTpe := Lib.hid (lt_of_heap bn)
            replace C := Lib.hid (C.out.trans cn)
            try replace XR := Lib.hid (XR.out.chg cn (by simp))
            try have NE : Hid (px ≠ pe) := Lib.hid (by have := NSpe.out; have := LTpx.out; omega)
            clear hw cn bn
            refine hK.out _ _ (DX.out _ C.out) (fun hHeld => ?_)
            clear hK K
            try simp only [Act.put, sA, s0, s1]
            refine wpAnyH_ready (rs := [4, 9]) (by kernel_rfl) (by simp) ?_
            refine AllReadyH.cons rfl (fun K hK => ?_) (AllReadyH.cons rfl (fun K hK => ?_) AllReadyH.nil)
            · skip
              replace hK := Lib.hid hK
              refine step_appK (R := evTy) rfl (.tmp 52) (.tmp 55) rfl rfl (A := some ⟨pe, 0, none⟩) (B := some ⟨g2, 0, none⟩) (n := 0) (m := kk) (c := 0) (d := c2) (xs := []) (ys := zs.take (kk)) EO.out rfl rfl (R1.out _ C.out) N1.out ?_
              rw [Nat.zero_add]
              intro A5 c5 wc o5 g5 e5
              have O5 := Lib.hid o5
              have F5 := Lib.hid (fresh_appE SZpe.out C.out g5 e5)
              replace C := Lib.hid F5.out.2
              try replace XR := Lib.hid (rd_overE XR.out NE.out g5)
              clear o5 g5 e5
              refine hK.out _ _ (DX.out _ C.out) (fun hHeld => ?_)
              clear hK K
              try simp only [Act.put, sA, s0, s1]
              refine wpAnyH_ready (rs := [9]) (by kernel_rfl) (by simp) ?_
              refine AllReadyH.cons rfl (fun K hK => ?_) AllReadyH.nil
              replace hK := Lib.hid hK
              have hHeld := DX.out _ C.out
              obtain ⟨q0, q1, q2, q3, q4, q5, q6⟩ := hHeld
              obtain ⟨px, hpp⟩ : ∃ p, wc.heap.size = p := ⟨_, rfl⟩
              have SZpx := Lib.hid (sizedE C.out hpp)
              have NSpx := Lib.hid hpp
              clear hpp
              go_simp
              clear q0 q1 q2 q3 q4 q5 q6
              obtain ⟨wc, hw, cn, bn⟩ := news1 wc (.cells #[.int .i64 x.n, .int .i64 x.s, .string x.p, .int .i64 x.k, .int .i64 x.m, .slice x.A x.l x.c, .slice x.B x.bl x.bc] 30)
              rw [← hw, NSpx.out]
              rw [NSpx.out] at bn
              have XR := Lib.hid (rd_oneEc (X := x) bn)
              have LTpx := Lib.hid (lt_of_heap bn)
              replace C := Lib.hid (C.out.trans cn)
              try replace EO := Lib.hid (EO.out.chg cn (by simp))
              try replace O5 := Lib.hid (O5.out.chg cn (by simp))
              try have NE : Hid (px ≠ pe) := Lib.hid (by have := NSpx.out; have := LTpe.out; omega)
              clear hw cn bn
              refine hK.out _ _ (DX.out _ C.out) (fun hHeld => ?_)
              clear hK K
              try simp only [Act.put, sA, s0, s1]
              refine wpAnyH_ready (rs := [10]) (by kernel_rfl) (by simp) ?_
              refine AllReadyH.cons rfl (fun K hK => ?_) AllReadyH.nil
              replace hK := Lib.hid hK
              refine step_appK (R := evTy) rfl (.tmp 56) (.tmp 61) rfl rfl (A := A5) (B := some ⟨px, 0, none⟩) (n := kk) (m := 1) (c := c5) (d := 1) (xs := [] ++ zs.take (kk)) (ys := [x]) O5.out L1.out rfl XR.out N2.out ?_
              intro A6 c6 wc o6 g6 e6
              have O6 := Lib.hid o6
              have F6 := Lib.hid (fresh_appE F5.out.1 C.out g6 e6)
              replace C := Lib.hid F6.out.2
              clear o6 g6 e6
              refine hK.out _ _ (DX.out _ C.out) (fun hHeld => ?_)
              clear hK K
              try simp only [Act.put, sA, s0, s1]
              refine wpAnyH_ready (rs := [14]) (by kernel_rfl) (by simp) ?_
              refine AllReadyH.cons rfl (fun K hK => ?_) AllReadyH.nil
              replace hK := Lib.hid hK
              refine step_appK (R := evTy) rfl (.tmp 62) (.tmp 65) rfl rfl (A := A6) (B := AD) (n := kk + 1) (m := zs.length - kk) (c := c6) (d := c2 - kk) (xs := [] ++ zs.take (kk) ++ [x]) (ys := zs.drop (kk)) O6.out L2.out rfl (R2.out _ C.out) N3.out ?_
              intro A7 c7 wc o7 g7 e7
              have O7 := Lib.hid o7
              have F7 := Lib.hid (fresh_appE F6.out.1 C.out g7 e7)
              replace C := Lib.hid F7.out.2
              clear o7 g7 e7
              refine hK.out _ _ (DX.out _ C.out) (fun hHeld => ?_)
              clear hK K
              try simp only [Act.put, sA, s0, s1]
              refine sy 15 10 rfl rfl ?_ (hS := (DX.out _ C.out))
              try simp only [Act.put, sA, s0, s1]
              refine wpAnyH_done (by kernel_rfl) ?_ _
              clear hHeld
              have O8 : Hid (OwnK evTy wc A7 c7 (zs.take (kk) ++ x :: zs.drop (kk))) := Lib.hid (by have q := O7.out; simpa using q)
              exact JOIN pe px A5 c5 A6 c6 A7 c7 wc ⟨O8, Lib.hid F7.out.1, C⟩
            · skip
              replace hK := Lib.hid hK
              have hHeld := DX.out _ C.out
              obtain ⟨q0, q1, q2, q3, q4, q5, q6⟩ := hHeld
              obtain ⟨px, hpp⟩ : ∃ p, wc.heap.size = p := ⟨_, rfl⟩
              have SZpx := Lib.hid (sizedE C.out hpp)
              have NSpx := Lib.hid hpp
              clear hpp
              go_simp
              clear q0 q1 q2 q3 q4 q5 q6
              obtain ⟨wc, hw, cn, bn⟩ := news1 wc (.cells #[.int .i64 x.n, .int .i64 x.s, .string x.p, .int .i64 x.k, .int .i64 x.m, .slice x.A x.l x.c, .slice x.B x.bl x.bc] 30)
              rw [← hw, NSpx.out]
              rw [NSpx.out] at bn
              have XR := Lib.hid (rd_oneEc (X := x) bn)
              have LTpx := Lib.hid (lt_of_heap bn)
              replace C := Lib.hid (C.out.trans cn)
              try replace EO := Lib.hid (EO.out.chg cn (by simp))
              try replace O5 := Lib.hid (O5.out.chg cn (by simp))
              try have NE : Hid (px ≠ pe) := Lib.hid (by have := NSpx.out; have := LTpe.out; omega)
              clear hw cn bn
              refine hK.out _ _ (DX.out _ C.out) (fun hHeld => ?_)
              clear hK K
              try simp only [Act.put, sA, s0, s1]
              refine wpAnyH_ready (rs := [4]) (by kernel_rfl) (by simp) ?_
              refine AllReadyH.cons rfl (fun K hK => ?_) AllReadyH.nil
              replace hK := Lib.hid hK
              refine step_appK (R := evTy) rfl (.tmp 52) (.tmp 55) rfl rfl (A := some ⟨pe, 0, none⟩) (B := some ⟨g2, 0, none⟩) (n := 0) (m := kk) (c := 0) (d := c2) (xs := []) (ys := zs.take (kk)) EO.out rfl rfl (R1.out _ C.out) N1.out ?_
              rw [Nat.zero_add]
              intro A5 c5 wc o5 g5 e5
              have O5 := Lib.hid o5
              have F5 := Lib.hid (fresh_appE SZpe.out C.out g5 e5)
              replace C := Lib.hid F5.out.2
              try replace XR := Lib.hid (rd_overE XR.out NE.out g5)
              clear o5 g5 e5
              refine hK.out _ _ (DX.out _ C.out) (fun hHeld => ?_)
              clear hK K
              try simp only [Act.put, sA, s0, s1]
              refine wpAnyH_ready (rs := [10]) (by kernel_rfl) (by simp) ?_
              refine AllReadyH.cons rfl (fun K hK => ?_) AllReadyH.nil
              replace hK := Lib.hid hK
              refine step_appK (R := evTy) rfl (.tmp 56) (.tmp 61) rfl rfl (A := A5) (B := some ⟨px, 0, none⟩) (n := kk) (m := 1) (c := c5) (d := 1) (xs := [] ++ zs.take (kk)) (ys := [x]) O5.out L1.out rfl XR.out N2.out ?_
              intro A6 c6 wc o6 g6 e6
              have O6 := Lib.hid o6
              have F6 := Lib.hid (fresh_appE F5.out.1 C.out g6 e6)
              replace C := Lib.hid F6.out.2
              clear o6 g6 e6
              refine hK.out _ _ (DX.out _ C.out) (fun hHeld => ?_)
              clear hK K
              try simp only [Act.put, sA, s0, s1]
              refine wpAnyH_ready (rs := [14]) (by kernel_rfl) (by simp) ?_
              refine AllReadyH.cons rfl (fun K hK => ?_) AllReadyH.nil
              replace hK := Lib.hid hK
              refine step_appK (R := evTy) rfl (.tmp 62) (.tmp 65) rfl rfl (A := A6) (B := AD) (n := kk + 1) (m := zs.length - kk) (c := c6) (d := c2 - kk) (xs := [] ++ zs.take (kk) ++ [x]) (ys := zs.drop (kk)) O6.out L2.out rfl (R2.out _ C.out) N3.out ?_
              intro A7 c7 wc o7 g7 e7
              have O7 := Lib.hid o7
              have F7 := Lib.hid (fresh_appE F6.out.1 C.out g7 e7)
              replace C := Lib.hid F7.out.2
              clear o7 g7 e7
              refine hK.out _ _ (DX.out _ C.out) (fun hHeld => ?_)
              clear hK K
              try simp only [Act.put, sA, s0, s1]
              refine sy 15 10 rfl rfl ?_ (hS := (DX.out _ C.out))
              try simp only [Act.put, sA, s0, s1]
              refine wpAnyH_done (by kernel_rfl) ?_ _
              clear hHeld
              have O8 : Hid (OwnK evTy wc A7 c7 (zs.take (kk) ++ x :: zs.drop (kk))) := Lib.hid (by have q := O7.out; simpa using q)
              exact JOIN pe px A5 c5 A6 c6 A7 c7 wc ⟨O8, Lib.hid F7.out.1, C⟩
          · skip
            replace hK := Lib.hid hK
            have hHeld := DX.out _ C.out
            obtain ⟨q0, q1, q2, q3, q4, q5, q6⟩ := hHeld
            obtain ⟨px, hpp⟩ : ∃ p, wc.heap.size = p := ⟨_, rfl⟩
            have SZpx := Lib.hid (sizedE C.out hpp)
            have NSpx := Lib.hid hpp
            clear hpp
            go_simp
            clear q0 q1 q2 q3 q4 q5 q6
            obtain ⟨wc, hw, cn, bn⟩ := news1 wc (.cells #[.int .i64 x.n, .int .i64 x.s, .string x.p, .int .i64 x.k, .int .i64 x.m, .slice x.A x.l x.c, .slice x.B x.bl x.bc] 30)
            rw [← hw, NSpx.out]
            rw [NSpx.out] at bn
            have XR := Lib.hid (rd_oneEc (X := x) bn)
            have LTpx := Lib.hid (lt_of_heap bn)
            replace C := Lib.hid (C.out.trans cn)
            try replace EO := Lib.hid (EO.out.chg cn (by simp))
            try replace O5 := Lib.hid (O5.out.chg cn (by simp))
            try have NE : Hid (px ≠ pe) := Lib.hid (by have := NSpx.out; have := LTpe.out; omega)
            clear hw cn bn
            refine hK.out _ _ (DX.out _ C.out) (fun hHeld => ?_)
            clear hK K
            try simp only [Act.put, sA, s0, s1]
            refine wpAnyH_ready (rs := [0]) (by kernel_rfl) (by simp) ?_
            refine AllReadyH.cons rfl (fun K hK => ?_) AllReadyH.nil
            replace hK := Lib.hid hK
            have hHeld := DX.out _ C.out
            obtain ⟨q0, q1, q2, q3, q4, q5, q6⟩ := hHeld
            obtain ⟨pe, hpp⟩ : ∃ p, wc.heap.size = p := ⟨_, rfl⟩
            have SZpe := Lib.hid (sizedE C.out hpp)
            have NSpe := Lib.hid hpp
            clear hpp
            go_simp
            clear q0 q1 q2 q3 q4 q5 q6
            obtain ⟨wc, hw, cn, bn⟩ := news1 wc (.cells #[] 30)
            rw [← hw, NSpe.out]
            rw [NSpe.out] at bn
            have EO := Lib.hid (own_emptyE bn)
            have LTpe := Lib.hid (lt_of_heap bn)
            replace C := Lib.hid (C.out.trans cn)
            try replace XR := Lib.hid (XR.out.chg cn (by simp))
            try have NE : Hid (px ≠ pe) := Lib.hid (by have := NSpe.out; have := LTpx.out; omega)
            clear hw cn bn
            refine hK.out _ _ (DX.out _ C.out) (fun hHeld => ?_)
            clear hK K
            try simp only [Act.put, sA, s0, s1]
            refine wpAnyH_ready (rs := [4]) (by kernel_rfl) (by simp) ?_
            refine AllReadyH.cons rfl (fun K hK => ?_) AllReadyH.nil
            replace hK := Lib.hid hK
            refine step_appK (R := evTy) rfl (.tmp 52) (.tmp 55) rfl rfl (A := some ⟨pe, 0, none⟩) (B := some ⟨g2, 0, none⟩) (n := 0) (m := kk) (c := 0) (d := c2) (xs := []) (ys := zs.take (kk)) EO.out rfl rfl (R1.out _ C.out) N1.out ?_
            rw [Nat.zero_add]
            intro A5 c5 wc o5 g5 e5
            have O5 := Lib.hid o5
            have F5 := Lib.hid (fresh_appE SZpe.out C.out g5 e5)
            replace C := Lib.hid F5.out.2
            try replace XR := Lib.hid (rd_overE XR.out NE.out g5)
            clear o5 g5 e5
            refine hK.out _ _ (DX.out _ C.out) (fun hHeld => ?_)
            clear hK K
            try simp only [Act.put, sA, s0, s1]
            refine wpAnyH_ready (rs := [10]) (by kernel_rfl) (by simp) ?_
            refine AllReadyH.cons rfl (fun K hK => ?_) AllReadyH.nil
            replace hK := Lib.hid hK
            refine step_appK (R := evTy) rfl (.tmp 56) (.tmp 61) rfl rfl (A := A5) (B := some ⟨px, 0, none⟩) (n := kk) (m := 1) (c := c5) (d := 1) (xs := [] ++ zs.take (kk)) (ys := [x]) O5.out L1.out rfl XR.out N2.out ?_
            intro A6 c6 wc o6 g6 e6
            have O6 := Lib.hid o6
            have F6 := Lib.hid (fresh_appE F5.out.1 C.out g6 e6)
            replace C := Lib.hid F6.out.2
            clear o6 g6 e6
            refine hK.out _ _ (DX.out _ C.out) (fun hHeld => ?_)
            clear hK K
            try simp only [Act.put, sA, s0, s1]
            refine wpAnyH_ready (rs := [14]) (by kernel_rfl) (by simp) ?_
            refine AllReadyH.cons rfl (fun K hK => ?_) AllReadyH.nil
            replace hK := Lib.hid hK
            refine step_appK (R := evTy) rfl (.tmp 62) (.tmp 65) rfl rfl (A := A6) (B := AD) (n := kk + 1) (m := zs.length - kk) (c := c6) (d := c2 - kk) (xs := [] ++ zs.take (kk) ++ [x]) (ys := zs.drop (kk)) O6.out L2.out rfl (R2.out _ C.out) N3.out ?_
            intro A7 c7 wc o7 g7 e7
            have O7 := Lib.hid o7
            have F7 := Lib.hid (fresh_appE F6.out.1 C.out g7 e7)
            replace C := Lib.hid F7.out.2
            clear o7 g7 e7
            refine hK.out _ _ (DX.out _ C.out) (fun hHeld => ?_)
            clear hK K
            try simp only [Act.put, sA, s0, s1]
            refine sy 15 10 rfl rfl ?_ (hS := (DX.out _ C.out))
            try simp only [Act.put, sA, s0, s1]
            refine wpAnyH_done (by kernel_rfl) ?_ _
            clear hHeld
            have O8 : Hid (OwnK evTy wc A7 c7 (zs.take (kk) ++ x :: zs.drop (kk))) := Lib.hid (by have q := O7.out; simpa using q)
            exact JOIN pe px A5 c5 A6 c6 A7 c7 wc ⟨O8, Lib.hid F7.out.1, C⟩
        case rest =>
          intro pe px A5 c5 A6 c6 A7 c7 w7 FJ
          obtain ⟨O7, F7, C7⟩ := FJ
          have PC7 := Lib.hid (PC.out.trans (KD.out.trans C7.out))
          have FN : Hid (∀ a, A7 = some a → w4.heap.size ≤ a.block) := Lib.hid (fun a ha => by have := F7.out a ha; have := (PC.out.trans KD.out).size; omega)
          clear R1 R2 DX XC N1 N2 N3 L1 L2 C F7 KD C7 TO PC TN
          have TE7 : Hid (EvsR w3 (zs.take (kk) ++ x :: zs.drop (kk)) (gs.take (kk) ++ e :: gs.drop (kk))) := Lib.hid (TE.out.ins RX.out (kk))
          obtain ⟨us, hus⟩ : ∃ us, us = zs.take (kk) ++ x :: zs.drop (kk) := ⟨_, rfl⟩
          obtain ⟨hs, hhs⟩ : ∃ hs, hs = gs.take (kk) ++ e :: gs.drop (kk) := ⟨_, rfl⟩
          have TM7 : Hid ((∀ u, u ∈ hs ↔ u ∈ fs.take (i + 1)) ∧ us.length + 1 ≤ 2 * (i + 1) ∧ us.length = kk + 1 + (zs.length - kk)) := Lib.hid ⟨fun u => by
            rw [hhs, ET.out, mem_ins, List.mem_append, List.mem_singleton]
            exact or_congr (TM.out.1 u) Iff.rfl, by have := TM.out.2; have := KL.out; rw [hus]; simp at this ⊢; omega, by have := KL.out; rw [hus]; simp; try omega⟩
          rw [← hus] at O7 TE7
          rw [← hhs] at TE7
          have UL : Hid (kk + 1 + (zs.length - kk) = us.length) := Lib.hid TM7.out.2.2.symm
          clear hus hhs TE TM
          go_upto_region 14 with fail
          rw [UL.out]
          by_cases hQ : i < ds.length
          rotate_left
          · have Q1 : ¬ (i : Int) < (ds.length : Int) := by omega
            go_wp2
            go_round
            case rel => exact ⟨i + 1, A7, c7, us, hs, by omega, by go_num, by first | rfl | rw [TM7.out.2.2], O7, TE7, Lib.hid ⟨TM7.out.1, by have := TM7.out.2.1; omega⟩, FN, PC7⟩
            case measure => simp [RowKit.intOf]; omega
          have Q1 : (i : Int) < (ds.length : Int) := by omega
          obtain ⟨gd, od, eD, _⟩ := HD.out.line (by omega)
          have ED := Lib.hid eD
          obtain ⟨q, hq⟩ : ∃ q, ds[i]? = some q := ⟨_, List.getElem?_eq_getElem hQ⟩
          have zd := boolCells ((eD ▸ HD.out).chg (C3.out.trans (D4.out.trans PC7.out)) (by simp)) hq
          rw [eD]
          clear eD hq
          rcases q with _ | _
          · go_upto_region 9 with fail
            rw [← ED.out]
            clear zd
            go_wp2
            go_round
            case rel => exact ⟨i + 1, A7, c7, us, hs, by omega, by go_num, by first | rfl | rw [TM7.out.2.2], O7, TE7, Lib.hid ⟨TM7.out.1, by have := TM7.out.2.1; omega⟩, FN, PC7⟩
            case measure => simp [RowKit.intOf]; omega
          go_upto_region 15 with fail
          clear zd
          rw [← ED.out]
          obtain ⟨z0, z1, z2, z3, z4, z5, z6⟩ := evCells (HF.out.chg (D4.out.trans PC7.out) (by simp)) EX.out
          obtain ⟨w8, hw, cn, bn⟩ := news1 w7 (.cells #[.int .i64 x.n, .int .i64 x.s, .string x.p, .int .i64 x.k, .int .i64 x.m, .slice x.A x.l x.c, .slice x.B x.bl x.bc] 30)
          have W8 := Lib.hid hw
          have XR := Lib.hid (rd_oneEc bn)
          have O8 := Lib.hid (O7.out.chg cn (by simp))
          have PC8 := Lib.hid (PC7.out.trans cn)
          have N4 : Hid ((us.length + 1) * 400 ≤ 140737488355327) := Lib.hid (by have := TM7.out.2.1; have := FL.out; omega)
          clear hw cn bn O7 PC7
          go_wp2_with (at_builtin; rw [← W8.out]; refine wpList_appK (R := evTy) rfl (.tmp 77) (.tmp 82) rfl rfl (A := A7) (n := us.length) (m := 1) (c := c7) (d := 1) (xs := us) (ys := [x]) O8.out rfl rfl XR.out N4.out ?_; intro A9 c9 w9 o9 g9 e9)
          have O9 := Lib.hid o9
          have F9 := Lib.hid (fresh_appE FN.out PC8.out g9 e9)
          have NL : Hid (us.length + 1 = (us ++ [x]).length) := Lib.hid (by have := TM7.out.2.2; simp <;> omega)
          have TM9 : Hid ((∀ u, u ∈ hs ++ [e] ↔ u ∈ fs.take (i + 1)) ∧ (us ++ [x]).length ≤ 2 * (i + 1)) := Lib.hid ⟨fun u => by
            rw [List.mem_append, TM7.out.1 u, List.mem_singleton]
            exact ⟨fun h => h.elim id (fun q => by rw [q, ET.out]; simp), .inl⟩, by have := TM7.out.2.1; simp; omega⟩
          clear o9 g9 e9 z0 z1 z2 z3 z4 z5 z6
          try rw [NL.out]
          go_wp2
          go_round
          case rel => exact ⟨i + 1, A9, c9, us ++ [x], hs ++ [e], by omega, by go_num, by first | rfl | rw [← NL.out] | (simp; done) | (simp; have := TM7.out.2.2; omega), O9, Lib.hid (TE7.out.snoc RX.out), TM9, Lib.hid F9.out.1, Lib.hid F9.out.2⟩
          case measure => simp [RowKit.intOf]; omega
    · obtain rfl : i = ys.length := by omega
      have j1 : ¬ (ys.length : Int) < (ys.length : Int) := by omega
      have MEM : Hid (∀ x, x ∈ fs ↔ x ∈ gs) := Lib.hid (fun x => by have q := TM.out.1 x; rw [FE.out.1, List.take_length] at q; exact q.symm)
      have ZLN : Hid (zs.length ≤ 24) := Lib.hid (by have := TM.out.2; have := FL.out; omega)
      have D : Hid (Chg [] w3 wr) := Lib.hid (D4.out.trans PC.out)
      have SAME : Hid (fs.foldl putE [] = gs.foldl putE []) := Lib.hid (order_same CL.out FIN.out MEM.out)
      have GA := Lib.hid (GA.out.chg PC.out (by simp))
      clear PC hlt hi TM j1
      generalize wr = wl at *
      clear wr
      go_wp2_with fail
      refine (l9all_any wl A2 c2 zs gs TO.out.reads (TE.out.chg D.out) (by have := ZLN.out; omega) (fun e he => SMF.out e ((MEM.out e).2 he)) (fun e he => CHK.out e ((MEM.out e).2 he)) (fun e he f hf => FSP.out e ((MEM.out e).2 he) f ((MEM.out f).2 hf))).mono ?_
      rintro r w5 ⟨AB, cB, zb, rfl, he, hc⟩
      rw [← SAME.out] at he
      have GB := Lib.hid he
      replace D := Lib.hid (D.out.trans hc)
      replace GA := Lib.hid (GA.out.chg hc (by simp))
      clear hc he TO
      have ZAL : Hid (za.length ≤ 12 ∧ zb.length ≤ 12) := Lib.hid (by have a := GA.out.all.ev.1; have b := GB.out.all.ev.1; have q := puts_len fs []; have := FE.out.1; have := FL.out; simp at q; omega)
      have SQ : Hid (∀ e ∈ fs.foldl putE [], e.q.length ≤ 140737488351232) := Lib.hid (fun e he => (puts_mem he).elim (fun q => by simp at q) (SMQ.out e))
      go_wp2_with fail
      refine (sameevs_any w5 AA AB cA cB za zb _ _ GA.out.row.reads GB.out.row.reads GA.out.all.ev GB.out.all.ev ⟨by have := ZAL.out.1; omega, by have := ZAL.out.2; omega⟩ ⟨SQ.out, SQ.out⟩).mono ?_
      rintro r w6 ⟨rfl, hc⟩
      rw [sameL_refl]
      replace D := Lib.hid (D.out.trans hc)
      replace GA := Lib.hid (GA.out.chg hc (by simp))
      replace GB := Lib.hid (GB.out.chg hc (by simp))
      clear hc GB
      have D6 := D
      clear D
      go_wp2
      go_loopw [15, 16, 17] (fun v15 v16 v17 wr => ∃ (i : Nat), i ≤ ys.length ∧ v15 = .int .i64 (i : Int) ∧ Hid (Chg [] w6 wr)) (fun v15 _ _ _ => ys.length - (RowKit.intOf v15).toNat)
      case atStart => exact ⟨0, Nat.zero_le _, rfl, Chg.refl _ _⟩
      case round =>
        obtain ⟨i, hi, rfl, PC⟩ := hrel
        generalize wr = wo at *
        clear wr
        have i0 : (0 : Int) ≤ (i : Int) := by omega
        by_cases hlt : i < ys.length
        · have i1 : (i : Int) < (ys.length : Int) := by omega
          have i3 : IntKind.i64.wrap ((i : Int) + 1) = (i : Int) + 1 := IntWalk.i64_in _ (by have := FL.out; omega)
          obtain ⟨g3, o3, eA, _⟩ := HF.out.line (by omega)
          have EA := Lib.hid eA
          obtain ⟨x, e, ex, ee, rx⟩ := FE.out.at_ hlt
          have EX := Lib.hid ex
          have RX := Lib.hid rx
          have EM := Lib.hid (List.mem_of_getElem? ee)
          clear ex ee rx
          rw [eA]
          clear eA
          go_wp2
          go_loopw [16, 17] (fun v16 v17 wr => ∃ (k : Nat), k ≤ ys.length ∧ v17 = .int .i64 (k : Int) ∧ v16 = .bool ((fs.take k).any (fun f => aheadP e f)) ∧ Hid (Chg [] w6 wr)) (fun _ v17 _ => ys.length - (RowKit.intOf v17).toNat)
          case atStart => exact ⟨0, Nat.zero_le _, rfl, rfl, PC⟩
          case round =>
            obtain ⟨k, hk, rfl, rfl, QC⟩ := hrel
            have k0 : (0 : Int) ≤ (k : Int) := by omega
            by_cases hkl : k < ys.length
            · have k1 : (k : Int) < (ys.length : Int) := by omega
              have k3 : IntKind.i64.wrap ((k : Int) + 1) = (k : Int) + 1 := IntWalk.i64_in _ (by have := FL.out; omega)
              obtain ⟨y, f, ey, ef, ry⟩ := FE.out.at_ hkl
              have EY := Lib.hid ey
              have ET : Hid ((fs.take (k + 1)).any (fun f => aheadP e f) = ((fs.take k).any (fun f => aheadP e f) || aheadP e f)) := Lib.hid (by rw [List.take_add_one, ef, List.any_append]; simp)
              have AHD : Hid (∀ w', Chg [] wr w' → Calls Tryz.prog 24 #[.agg #[.int .i64 x.n, .int .i64 x.s, .string x.p, .int .i64 x.k, .int .i64 x.m, .slice x.A x.l x.c, .slice x.B x.bl x.bc], .agg #[.int .i64 y.n, .int .i64 y.s, .string y.p, .int .i64 y.k, .int .i64 y.m, .slice y.A y.l y.c, .slice y.B y.bl y.bc]] w' fun r w2 => r = .returned (.bool (aheadP e f)) ∧ Chg [] w' w2) := Lib.hid (fun w' hc => evahead_any w' x y e f (RX.out.chg (D6.out.trans (QC.out.trans hc))) (ry.chg (D6.out.trans (QC.out.trans hc))) (SMF.out e EM.out).1 (SMF.out f (List.mem_of_getElem? ef)).1)
              have HC : Hid (∀ w', Chg [] wr w' → _ ∧ _) := Lib.hid (fun w' hc => And.intro (evCells ((EA.out ▸ HF.out).chg (D6.out.trans (QC.out.trans hc)) (by simp)) EX.out) (evCells ((EA.out ▸ HF.out).chg (D6.out.trans (QC.out.trans hc)) (by simp)) EY.out))
              clear ey ef ry
              rcases hb : (fs.take k).any (fun f => aheadP e f) with _ | _
              · skip
                have EB : Hid ((fs.take (k + 1)).any (fun f => aheadP e f) = aheadP e f) := Lib.hid (by rw [ET.out, hb]; rfl)
                clear hb
                go_upto_region 26 with fail
                refine wp_region_held_drew (S := fun w' => Chg [] wr w') (by kernel_rfl) (Chg.refl [] wr).drew (fun hHeld => ?_)
                refine sy 0 113 rfl rfl ?_
                try simp only [Act.put, sA, s0, s1]
                refine sy 1 114 rfl rfl ?_
                try simp only [Act.put, sA, s0, s1]
                refine sy 2 115 rfl rfl ?_
                try simp only [Act.put, sA, s0, s1]
                refine sy 3 116 rfl rfl ?_
                try simp only [Act.put, sA, s0, s1]
                refine sy 4 117 rfl rfl ?_
                try simp only [Act.put, sA, s0, s1]
                refine sy 5 118 rfl rfl ?_ (hy := by (intro w hSw; (try dsimp only at hSw); have hq := HC.out _ hSw; obtain ⟨⟨q0, q1, q2, q3, q4, q5, q6⟩, p0, p1, p2, p3, p4, p5, p6⟩ := hq; go_simp; try with_reducible rfl))
                try simp only [Act.put, sA, s0, s1]
                refine sy 6 119 rfl rfl ?_
                try simp only [Act.put, sA, s0, s1]
                refine sy 7 120 rfl rfl ?_
                try simp only [Act.put, sA, s0, s1]
                refine sy 8 121 rfl rfl ?_
                try simp only [Act.put, sA, s0, s1]
                refine sy 9 122 rfl rfl ?_ (hy := by (intro w hSw; (try dsimp only at hSw); have hq := HC.out _ hSw; obtain ⟨⟨q0, q1, q2, q3, q4, q5, q6⟩, p0, p1, p2, p3, p4, p5, p6⟩ := hq; go_simp; try with_reducible rfl))
                try simp only [Act.put, sA, s0, s1]
                refine wpAnyH_ready (rs := [10]) (by kernel_rfl) (by simp) ?_
                refine AllReadyH.cons rfl (fun K hK => ?_) AllReadyH.nil
                replace hK := Lib.hid hK
                go_simp
                refine (AHD.out _ hHeld).mono ?_
                rintro r w9 ⟨rfl, hc⟩
                have C9 := Lib.hid (hHeld.trans hc)
                clear hc hHeld
                refine hK.out _ _ C9.out (fun hHeld => ?_)
                clear hK K
                try simp only [Act.put, sA, s0, s1]
                refine sy 11 124 rfl rfl ?_
                try simp only [Act.put, sA, s0, s1]
                refine sy 12 16 rfl rfl ?_
                try simp only [Act.put, sA, s0, s1]
                refine wpAnyH_done (by kernel_rfl) ?_ _
                clear hHeld HC AHD
                replace QC := Lib.hid (QC.out.trans C9.out)
                go_wp2
                go_round
                case rel => exact ⟨k + 1, by omega, by go_num, by rw [EB.out], QC⟩
                case measure => simp [RowKit.intOf]; omega
              · skip
                have EB : Hid ((fs.take (k + 1)).any (fun f => aheadP e f) = true) := Lib.hid (by rw [ET.out, hb]; rfl)
                clear hb
                go_upto_region 26 with fail
                refine wp_region_held_drew (S := fun w' => Chg [] wr w') (by kernel_rfl) (Chg.refl [] wr).drew (fun hHeld => ?_)
                refine sy 0 113 rfl rfl ?_
                try simp only [Act.put, sA, s0, s1]
                refine sy 1 114 rfl rfl ?_
                try simp only [Act.put, sA, s0, s1]
                refine sn 2 115 rfl rfl ?_
                try simp only [Act.put, sA, s0, s1]
                refine sn 3 116 rfl rfl ?_
                try simp only [Act.put, sA, s0, s1]
                refine sn 4 117 rfl rfl ?_
                try simp only [Act.put, sA, s0, s1]
                refine sn 5 118 rfl rfl ?_
                try simp only [Act.put, sA, s0, s1]
                refine sn 6 119 rfl rfl ?_
                try simp only [Act.put, sA, s0, s1]
                refine sn 7 120 rfl rfl ?_
                try simp only [Act.put, sA, s0, s1]
                refine sn 8 121 rfl rfl ?_
                try simp only [Act.put, sA, s0, s1]
                refine sn 9 122 rfl rfl ?_
                try simp only [Act.put, sA, s0, s1]
                refine sn 10 123 rfl rfl ?_
                try simp only [Act.put, sA, s0, s1]
                refine sy 11 124 rfl rfl ?_
                try simp only [Act.put, sA, s0, s1]
                refine sy 12 16 rfl rfl ?_
                try simp only [Act.put, sA, s0, s1]
                refine wpAnyH_done (by kernel_rfl) ?_ _
                replace QC := Lib.hid (QC.out.trans hHeld)
                clear hHeld HC AHD
                go_wp2
                go_round
                case rel => exact ⟨k + 1, by omega, by go_num, by rw [EB.out], QC⟩
                case measure => simp [RowKit.intOf]; omega
            · obtain rfl : k = ys.length := by omega
              have k1 : ¬ (ys.length : Int) < (ys.length : Int) := by omega
              have TH : Hid ((fs.foldl putE []).any (fun y => sameP y e) = !fs.any (fun y => aheadP e y)) := Lib.hid (has_tops CL.out FIN.out EM.out)
              have EF : fs.take ys.length = fs := by rw [FE.out.1, List.take_length]
              rw [EF]
              obtain ⟨z0, z1, z2, z3, z4, z5, z6⟩ := evCells ((EA.out ▸ HF.out).chg (D6.out.trans QC.out) (by simp)) EX.out
              clear EF
              go_wp2_with fail
              clear z0 z1 z2 z3 z4 z5 z6
              refine (l9has_any wr AA cA za _ x e (GA.out.row.reads.chg QC.out (by simp)) (GA.out.all.ev.chg QC.out) (by have := ZAL.out.1; omega) SQ.out (RX.out.chg (D6.out.trans QC.out)) (SMQ.out e EM.out)).mono ?_
              rintro r w9 ⟨rfl, hc⟩
              rw [TH.out]
              replace QC := Lib.hid (QC.out.trans hc)
              clear hc
              generalize fs.any (fun y => aheadP e y) = bv at *
              cases bv
              · go_wp2
                go_round
                case rel => exact ⟨i + 1, by omega, by go_num, QC⟩
                case measure => simp [RowKit.intOf]; omega
              · go_wp2
                go_round
                case rel => exact ⟨i + 1, by omega, by go_num, QC⟩
                case measure => simp [RowKit.intOf]; omega
        · obtain rfl : i = ys.length := by omega
          have i1 : ¬ (ys.length : Int) < (ys.length : Int) := by omega
          go_wp2
          go_ret
          first | exact ⟨rfl, C3.out.trans (D6.out.trans PC.out)⟩ | exact C3.out.trans (D6.out.trans PC.out)
end
end Go.Proofs.YtdfapiffalmjcaaGreatDoor
