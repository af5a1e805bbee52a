/- The document's Walk. order.Of over texts. Where an entry stands in a tree: purely. An entry is looked for by its path. table.whose. table.pairOf. table.together. table.anyUnder, parentIs. -/
import Derived.Test.YtimdfpejgaidhaaGreatDoorZtwk
import Derived.Test.YtimdfpejgaidhaaGreatDoorZtwj
import Derived.Test.YtimdfpejgaidhaaGreatDoorZtwl
import Derived.Test.YtimdfpejgaidhaaGreatDoorZtwm
import Derived.Deep.Cut
import Derived.Deep.RegionHeld3
import Derived.Test.YtimdfpejgaidhaaGreatDoorZtwc
import Derived.Lib.MinMaxS
import Derived.Test.YtimdfpejgaidhaaGreatDoorZtwb
namespace Go.Proofs.YtimdfpejgaidhaaGreatDoor
section
open Go.RowKit Go.Lib
set_option linter.unusedSimpArgs false
set_option linter.unusedVariables false

theorem getD_small {t : List EnP} {M : Nat} (h : ∀ e ∈ t, e.b.length ≤ M) (q : List UInt8) : ((getT t q).getD ⟨[], 0, 0, []⟩).b.length ≤ M := by
  cases r : getT t q with
  | none => simp
  | some e => exact h e (List.mem_of_find?_eq_some r)
theorem fresh_appX {w2 w w' : World} {A A' : Option Addr} (hA : ∀ a, A = some a → w2.heap.size ≤ a.block) (hC : Chg [] w2 w) (g : w.grownBy w' (A.map (·.block))) (e : A' = A ∨ A' = some ⟨w.heap.size, 0, none⟩) : (∀ a, A' = some a → w2.heap.size ≤ a.block) ∧ Chg [] w2 w' := fresh_appN hA hC g e
set_option maxRecDepth 100000 in
set_option maxHeartbeats 32000000 in
/-- The document's Walk. -/
theorem tdwalk_any (w : World) (A B : Option Addr) (c d : Nat) (xs ys : List EnT) (es fs : List EnP) (h : RdK enTy w A xs.length xs) (h' : RdK enTy w B ys.length ys) (hx : EnsR w xs es) (hy : EnsR w ys fs) (hn : xs.length ≤ 200 ∧ ys.length ≤ 200) (hs : (∀ e ∈ es, EnSm e ∧ e.p.length ≤ 900000) ∧ ∀ e ∈ fs, EnSm e ∧ e.p.length ≤ 900000) :
    Calls Tryz.prog 25 #[.slice A xs.length c, .slice B ys.length d] w fun r w' => ∃ (A' : Option Addr) (c' : Nat) (us : List PrT), r = .returned (.tuple #[.slice A' us.length c', .int .i64 (walkT es fs).1]) ∧ OwnK prTy w' A' c' us ∧ PrsR w' us (walkT es fs).2 ∧ (∀ a, A' = some a → w.heap.size ≤ a.block) ∧ Chg [] w w' := by
  obtain ⟨R, hR⟩ : ∃ R, walkT es fs = R := ⟨_, rfl⟩
  rw [hR]
  have HRR := Lib.hid hR
  have HA := Lib.hid h
  have HB := Lib.hid h'
  have HX := Lib.hid hx
  have HY := Lib.hid hy
  have HN := Lib.hid hn
  have HS := Lib.hid hs
  have CE := Lib.hid (fun (w' : World) (hc : Chg [] w w') => tdcheck_any w' A c xs es (h.chg hc (by simp)) (hx.chg hc) hn.1 hs.1)
  have CF := Lib.hid (fun (w' : World) (hc : Chg [] w w') => tdcheck_any w' B d ys fs (h'.chg hc (by simp)) (hy.chg hc) hn.2 hs.2)
  clear h h' hx hy hn hs hR
  go_enter Tryz.func25, Tryz.ntmps25
  go_wp2_with fail
  refine (CE.out w (Chg.refl _ _)).mono ?_
  rintro r w2 ⟨rfl, hc⟩
  have C := Lib.hid hc
  clear hc CE
  rcases tabE_two es with e1 | e1
  rotate_left
  · have ER : Hid (R = (2, [])) := Lib.hid (by rw [← HRR.out]; unfold walkT; rw [if_neg (fun q => by rw [tabE_zero.2 q.1] at e1; cases e1)])
    rw [e1]
    clear e1
    go_wp2
    go_ret2
    rw [ER.out]
    exact ⟨none, 0, [], rfl, OwnK.none_ _, PrsR.nil _, by simp, C.out⟩
  have OK : Hid (TabOk es) := Lib.hid (tabE_zero.1 e1)
  rw [e1]
  clear e1
  go_wp2_with fail
  refine (CF.out w2 C.out).mono ?_
  rintro r w3 ⟨rfl, hc⟩
  replace C := Lib.hid (C.out.trans hc)
  clear hc CF
  rcases tabE_two fs with e1 | e1
  rotate_left
  · have ER : Hid (R = (2, [])) := Lib.hid (by rw [← HRR.out]; unfold walkT; rw [if_neg (fun q => by rw [tabE_zero.2 q.2] at e1; cases e1)])
    rw [e1]
    clear e1
    go_wp2
    go_ret2
    rw [ER.out]
    exact ⟨none, 0, [], rfl, OwnK.none_ _, PrsR.nil _, by simp, C.out⟩
  have OK2 : Hid (TabOk fs) := Lib.hid (tabE_zero.1 e1)
  rw [e1]
  clear e1
  have ER : Hid (R = (0, walkL es fs)) := Lib.hid (by rw [← HRR.out]; unfold walkT; rw [if_pos ⟨OK.out, OK2.out⟩])
  have C3 := Lib.hid C.out
  clear HRR OK OK2 C
  go_wp2
  go_loopw [6, 7] (fun v6 v7 wr => ∃ (k : Nat) (A1 : Option Addr) (d1 : Nat) (ns : List (List UInt8)), k ≤ xs.length ∧ v7 = .int .i64 (k : Int) ∧ v6 = .slice A1 ns.length d1 ∧ Hid (ns = (es.take k).map (·.p)) ∧ Hid (OwnK textTy wr A1 d1 ns) ∧ Hid (∀ a, A1 = some a → w3.heap.size ≤ a.block) ∧ Hid (Chg [] w3 wr)) (fun _ v7 _ => xs.length - (RowKit.intOf v7).toNat)
  case atStart => exact ⟨0, none, 0, [], Nat.zero_le _, rfl, rfl, Lib.hid (by simp), OwnK.none_ _, Lib.hid (by simp), Chg.refl _ _⟩
  case round =>
    obtain ⟨k, A1, d1, ns, hk, rfl, rfl, NS, RO, RN, RC⟩ := hrel
    have i0 : (0 : Int) ≤ (k : Int) := by omega
    by_cases hlt : k < xs.length
    · skip
      have i1 : (k : Int) < (xs.length : Int) := by omega
      have i3 : IntKind.i64.wrap ((k : Int) + 1) = (k : Int) + 1 := IntWalk.i64_in _ (by have := HN.out; omega)
      obtain ⟨x, e, ex, ee, rx⟩ := HX.out.at_ hlt
      have DX : Hid (∃ g o, A = some ⟨g, o, none⟩ ∧ (∀ w', Chg [] w3 w' → w'.cell? ⟨g, o + k * 4, none⟩ = some (.string (strOf e.p)))) := Lib.hid (by
        obtain ⟨g, o, eA, _⟩ := HA.out.line (by omega)
        subst eA
        refine ⟨g, o, rfl, fun w' hc => ?_⟩
        have q := (enCells (HA.out.chg (C3.out.trans hc) (by simp)) ex).1
        rwa [rx.p] at q)
      obtain ⟨g, o, eA, dx⟩ := DX.out
      subst eA
      have z0 := dx wr RC.out
      have NL : Hid (ns.length ≤ 400) := Lib.hid (by rw [NS.out]; simp only [List.length_append, List.length_map, List.length_take]; have := HN.out; have := HX.out.1; have := HY.out.1; omega)
      have N4 : Hid ((ns.length + 1) * 400 ≤ 140737488355327) := Lib.hid (by have := NL.out; omega)
      have NS1 : Hid (ns ++ [e.p] = (es.take (k + 1)).map (·.p)) := Lib.hid (by rw [NS.out, List.take_add_one, ee]; simp)
      clear ex ee rx dx DX
      obtain ⟨wn, hw, hc, b3⟩ := news1 wr (.cells #[.string (strOf e.p)] 9)
      have WN := Lib.hid hw
      have R3 := Lib.hid (rd_text1 b3)
      replace RO := Lib.hid (RO.out.chg hc (by simp))
      replace RC := Lib.hid (RC.out.trans hc)
      clear hw hc b3
      go_wp2_with (at_builtin; rw [← WN.out]; refine wpList_appK (R := textTy) rfl (.tmp 29) (.tmp 35) rfl rfl (A := A1) (n := ns.length) (m := 1) (c := d1) (d := 1) (xs := ns) (ys := [e.p]) RO.out rfl rfl R3.out N4.out ?_; intro A7 c7 w7 o7 g7 e7; have O7 := Lib.hid o7; have F7 := Lib.hid (fresh_appX RN.out RC.out g7 e7); clear o7 g7 e7)
      clear RO
      go_wp2
      go_round
      case rel => exact ⟨k + 1, A7, c7, ns ++ [e.p], by omega, by go_num, by simp, NS1, O7, Lib.hid F7.out.1, F7.out.2⟩
      case measure => simp [RowKit.intOf]; omega
    · skip
      have KE : Hid (k = xs.length) := Lib.hid (by omega)
      have i1 : ¬ (k : Int) < (xs.length : Int) := by omega
      have NSE : Hid (ns = es.map (·.p)) := Lib.hid (by rw [NS.out, KE.out, HX.out.1, List.take_length])
      clear NS hk
      have RO1 := Lib.hid RO.out
      have RN1 := Lib.hid RN.out
      have RC1 := Lib.hid RC.out
      have NE1 := Lib.hid NSE.out
      clear RO RN RC NSE KE i0 i1
      go_wp2
      go_loopw [6, 8] (fun v6 v7 wr => ∃ (k : Nat) (A1 : Option Addr) (d1 : Nat) (ns : List (List UInt8)), k ≤ ys.length ∧ v7 = .int .i64 (k : Int) ∧ v6 = .slice A1 ns.length d1 ∧ Hid (ns = es.map (·.p) ++ (fs.take k).map (·.p)) ∧ Hid (OwnK textTy wr A1 d1 ns) ∧ Hid (∀ a, A1 = some a → w3.heap.size ≤ a.block) ∧ Hid (Chg [] w3 wr)) (fun _ v7 _ => ys.length - (RowKit.intOf v7).toNat)
      case atStart => exact ⟨0, A1, d1, ns, Nat.zero_le _, rfl, rfl, Lib.hid (by rw [NE1.out]; simp), RO1, RN1, RC1⟩
      case round =>
        obtain ⟨k, A1, d1, ns, hk, rfl, rfl, NS, RO, RN, RC⟩ := hrel
        have i0 : (0 : Int) ≤ (k : Int) := by omega
        by_cases hlt : k < ys.length
        · skip
          have i1 : (k : Int) < (ys.length : Int) := by omega
          have i3 : IntKind.i64.wrap ((k : Int) + 1) = (k : Int) + 1 := IntWalk.i64_in _ (by have := HN.out; omega)
          obtain ⟨x, e, ex, ee, rx⟩ := HY.out.at_ hlt
          have DX : Hid (∃ g o, B = some ⟨g, o, none⟩ ∧ (∀ w', Chg [] w3 w' → w'.cell? ⟨g, o + k * 4, none⟩ = some (.string (strOf e.p)))) := Lib.hid (by
            obtain ⟨g, o, eA, _⟩ := HB.out.line (by omega)
            subst eA
            refine ⟨g, o, rfl, fun w' hc => ?_⟩
            have q := (enCells (HB.out.chg (C3.out.trans hc) (by simp)) ex).1
            rwa [rx.p] at q)
          obtain ⟨g, o, eA, dx⟩ := DX.out
          subst eA
          have z0 := dx wr RC.out
          have NL : Hid (ns.length ≤ 400) := Lib.hid (by rw [NS.out]; simp only [List.length_append, List.length_map, List.length_take]; have := HN.out; have := HX.out.1; have := HY.out.1; omega)
          have N4 : Hid ((ns.length + 1) * 400 ≤ 140737488355327) := Lib.hid (by have := NL.out; omega)
          have NS1 : Hid (ns ++ [e.p] = es.map (·.p) ++ (fs.take (k + 1)).map (·.p)) := Lib.hid (by rw [NS.out, List.take_add_one, ee]; simp)
          clear ex ee rx dx DX
          obtain ⟨wn, hw, hc, b3⟩ := news1 wr (.cells #[.string (strOf e.p)] 9)
          have WN := Lib.hid hw
          have R3 := Lib.hid (rd_text1 b3)
          replace RO := Lib.hid (RO.out.chg hc (by simp))
          replace RC := Lib.hid (RC.out.trans hc)
          clear hw hc b3
          go_wp2_with (at_builtin; rw [← WN.out]; refine wpList_appK (R := textTy) rfl (.tmp 43) (.tmp 49) rfl rfl (A := A1) (n := ns.length) (m := 1) (c := d1) (d := 1) (xs := ns) (ys := [e.p]) RO.out rfl rfl R3.out N4.out ?_; intro A7 c7 w7 o7 g7 e7; have O7 := Lib.hid o7; have F7 := Lib.hid (fresh_appX RN.out RC.out g7 e7); clear o7 g7 e7)
          clear RO
          go_wp2
          go_round
          case rel => exact ⟨k + 1, A7, c7, ns ++ [e.p], by omega, by go_num, by simp, NS1, O7, Lib.hid F7.out.1, F7.out.2⟩
          case measure => simp [RowKit.intOf]; omega
        · skip
          have KE : Hid (k = ys.length) := Lib.hid (by omega)
          have i1 : ¬ (k : Int) < (ys.length : Int) := by omega
          have NSE : Hid (ns = es.map (·.p) ++ fs.map (·.p)) := Lib.hid (by rw [NS.out, KE.out, HY.out.1, List.take_length])
          clear NS hk
          have QS := qhsort_any wr A1 d1 ns RO.out.reads (by rw [NSE.out]; simp only [List.length_append, List.length_map]; have := HN.out; have := HX.out.1; have := HY.out.1; omega) (fun x hx => by
            rw [NSE.out, List.mem_append, List.mem_map, List.mem_map] at hx
            rcases hx with ⟨e, he, rfl⟩ | ⟨e, he, rfl⟩
            · have := (HS.out.1 e he).2; omega
            · have := (HS.out.2 e he).2; omega)
          rw [show insAllT lessL ns = namesT es fs by rw [NSE.out]; rfl] at QS
          have QS2 := Lib.hid QS
          clear QS
          go_wp2_with fail
          clear i0 i1
          refine QS2.out.mono ?_
          rintro r w5 ⟨A5, c5, rfl, ho, _, hc⟩
          have NR := Lib.hid ho.reads
          have C5 := Lib.hid (C3.out.trans (RC.out.trans hc))
          have ML := Lib.hid (names_len es fs)
          clear ho hc QS2 RO RN RC NSE KE RO1 RN1 RC1 NE1
          obtain ⟨ms, hms⟩ : ∃ ms, namesT es fs = ms := ⟨_, rfl⟩
          have MS := Lib.hid hms
          rw [hms] at NR ML ⊢
          clear hms
          go_wp2
          go_loopw [9, 10] (fun v9 v10 wr => ∃ (k : Nat) (A2 : Option Addr) (d2 : Nat) (us : List PrT), k ≤ ms.length ∧ us.length = k ∧ v10 = .int .i64 (k : Int) ∧ v9 = .slice A2 us.length d2 ∧ Hid (OwnK prTy wr A2 d2 us) ∧ Hid (PrsR wr us ((ms.take k).map (atT es fs))) ∧ Hid (∀ a, A2 = some a → w5.heap.size ≤ a.block) ∧ Hid (Chg [] w5 wr)) (fun _ v10 _ => ms.length - (RowKit.intOf v10).toNat)
          case atStart => exact ⟨0, none, 0, [], Nat.zero_le _, rfl, rfl, rfl, OwnK.none_ _, Lib.hid (PrsR.nil _), Lib.hid (by simp), Chg.refl _ _⟩
          case round =>
            obtain ⟨k, A2, d2, us, hk, hul, rfl, rfl, RO, RU, RN, RC⟩ := hrel
            have i0 : (0 : Int) ≤ (k : Int) := by omega
            have UL := Lib.hid hul
            clear hul
            by_cases hlt : k < ms.length
            · skip
              have i1 : (k : Int) < (ms.length : Int) := by omega
              have i3 : IntKind.i64.wrap ((k : Int) + 1) = (k : Int) + 1 := IntWalk.i64_in _ (by have := HN.out; have := ML.out; have := HX.out.1; have := HY.out.1; omega)
              obtain ⟨q, eq⟩ : ∃ q, ms[k]? = some q := ⟨_, List.getElem?_eq_getElem hlt⟩
              obtain ⟨g5, o5, eA, hg5⟩ := NR.out.line (by omega)
              have LA2 := Lib.hid RO.out.lt_
              have LG5 := Lib.hid hg5
              clear hg5
              subst eA
              have NC : Hid (∀ w', Chg [] w5 w' → w'.cell? ⟨g5, o5 + k, none⟩ = some (.string (strOf q))) := Lib.hid (fun w' hc => by
                have t := (NR.out.chg hc (by simp)).at_ k 0 q _ eq rfl
                simpa [textTy] using t)
              have MT : Hid ((ms.take (k + 1)).map (atT es fs) = (ms.take k).map (atT es fs) ++ [atT es fs q]) := Lib.hid (by rw [List.take_add_one, eq]; simp)
              have N4 : Hid ((us.length + 1) * 400 ≤ 140737488355327) := Lib.hid (by rw [UL.out]; have := HN.out; have := ML.out; have := HX.out.1; have := HY.out.1; omega)
              have GA := Lib.hid (fun (w' : World) (hc : Chg [] w5 w') => tdget_any w' A c xs es q (HA.out.chg (C5.out.trans hc) (by simp)) (HX.out.chg (C5.out.trans hc)) (by have := HN.out; omega))
              have GB := Lib.hid (fun (w' : World) (hc : Chg [] w5 w') => tdget_any w' B d ys fs q (HB.out.chg (C5.out.trans hc) (by simp)) (HY.out.chg (C5.out.trans hc)) (by have := HN.out; omega))
              have US := Lib.hid (getD_small (fun e he => (HS.out.1 e he).1.2) q)
              have VS := Lib.hid (getD_small (fun e he => (HS.out.2 e he).1.2) q)
              have AT : Hid (atT es fs q = prT q ((getT es q).getD ⟨[], 0, 0, []⟩) ((getT fs q).getD ⟨[], 0, 0, []⟩)) := Lib.hid rfl
              rw [AT.out] at MT
              clear eq AT
              generalize (getT es q).getD ⟨[], 0, 0, []⟩ = u at *
              generalize (getT fs q).getD ⟨[], 0, 0, []⟩ = v at *
              have CW := Lib.hid (Chg.refl [] wr)
              have z0 := NC.out _ (RC.out.trans CW.out)
              go_wp2_with fail
              clear z0
              refine (GA.out _ (RC.out.trans CW.out)).mono ?_
              rintro r w6 ⟨A6, c6, rfl, hb, hc⟩
              have BU := Lib.hid hb

              replace CW := Lib.hid (CW.out.trans hc)
              clear hb hc GA
              obtain ⟨w7, hw, hc, bx⟩ := news1 w6 (.cells #[.int .i64 u.k, .int .i64 u.m, .slice A6 u.b.length c6] 25)
              have WW := Lib.hid hw
              obtain ⟨g7, hg⟩ : ∃ g, w6.heap.size = g := ⟨_, rfl⟩
              rw [hg] at bx
              have Sg7 : Hid (wr.heap.size ≤ g7) := Lib.hid (by rw [← hg]; exact CW.out.size)
              replace BU := Lib.hid (BU.out.chg hc (by simp))

              have XU := Lib.hid bx
              replace CW := Lib.hid (CW.out.trans hc)
              clear hw hc bx
              go_upto_region 18 with fail
              rw [← WW.out]
              try rw [hg]
              clear WW hg
              have z0 := NC.out _ (RC.out.trans CW.out)
              go_wp2_with fail
              clear z0
              refine (GB.out _ (RC.out.trans CW.out)).mono ?_
              rintro r w8 ⟨A8, c8, rfl, hb, hc⟩
              have BV := Lib.hid hb
              replace BU := Lib.hid (BU.out.chg hc (by simp))
              replace XU := Lib.hid (hc.at_ XU.out (by simp))
              replace CW := Lib.hid (CW.out.trans hc)
              clear hb hc GB
              obtain ⟨w9, hw, hc, bx⟩ := news1 w8 (.cells #[.int .i64 v.k, .int .i64 v.m, .slice A8 v.b.length c8] 25)
              have WW := Lib.hid hw
              obtain ⟨g9, hg⟩ : ∃ g, w8.heap.size = g := ⟨_, rfl⟩
              rw [hg] at bx
              have Sg9 : Hid (wr.heap.size ≤ g9) := Lib.hid (by rw [← hg]; exact CW.out.size)
              replace BV := Lib.hid (BV.out.chg hc (by simp))
              have GN := Lib.hid (show g7 ≠ g9 by have := lt_of_heap XU.out; omega)
              replace BU := Lib.hid (BU.out.chg hc (by simp))
              replace XU := Lib.hid (hc.at_ XU.out (by simp))
              have XV := Lib.hid bx
              replace CW := Lib.hid (CW.out.trans hc)
              clear hw hc bx
              go_upto_region 19 with fail
              rw [← WW.out]
              try rw [hg]
              clear WW hg
              obtain ⟨wb1, hwb, cb, bb⟩ := news1 w9 (.cells #[] 5)
              have WB := Lib.hid hwb
              have OB := Lib.hid (show OwnB wb1 (some ⟨w9.heap.size, 0, none⟩) 0 [] from .of (full := []) bb (Nat.zero_le _) (Nat.zero_le _) rfl rfl)
              have RB := Lib.hid (BU.out.chg cb (by simp))
              have CBB := Lib.hid cb
              have BD : Hid (0 + u.b.length ≤ 140737488355327) := Lib.hid (by have := US.out; omega)
              have zb := cell_of (cb.at_ XU.out (by simp)) 2
              simp only [List.getElem?_toArray, List.getElem?_cons_succ, List.getElem?_cons_zero] at zb
              clear hwb cb bb
              go_upto_region 20 with (first | (at_builtin; refine wpList_app rfl (.tmp 77) (.tmp 79) rfl rfl OB.out rfl rfl RB.out BD.out ?_; intro A3 c3 wa3 o3 g3 e3; have h3 : OwnB wa3 A3 c3 u.b ∧ (∀ a, A3 = some a → w9.heap.size ≤ a.block) ∧ Chg [] w9 wa3 := ⟨by simpa using o3, app_ownn (fun a ha => by cases ha; exact Nat.le_refl _) CBB.out g3 e3⟩; have b3 := h3.2.2.at_ XU.out (by simp); have zz := cell_of b3 2; have ff := free_of b3 2; simp only [List.getElem?_toArray, List.getElem?_cons_succ, List.getElem?_cons_zero] at zz; clear b3; clear o3 g3 e3 WB OB RB CBB BD zb; rw [Nat.zero_add]) | rw [← WB.out])
              clear zz ff
              have b3 := h3.2.2.at_ XU.out (by simp)
              have p0 := heap_setCell_same _ g7 2 _ _ (.slice A3 u.b.length c3) b3
              have CS : Chg [g7] wa3 (wa3.setCell ⟨g7, 2, none⟩ (.slice A3 u.b.length c3)) := (Chg.refl [g7] wa3).setCell (p := ⟨g7, 2, none⟩) (.inl (by simp)) _
              have O5 := bs_ebox h3.1.reads b3 CS
              replace XV := Lib.hid (CS.at_ (h3.2.2.at_ XV.out (by simp)) (by have := GN.out; simp; omega))
              replace BV := Lib.hid (bs_ebox (BV.out.chg h3.2.2 (by simp)) b3 CS)
              replace CW := Lib.hid ((CW.out.trans h3.2.2).trans' CS (fun i hi => .inr (by have := Sg7.out; simp at hi; omega)))
              obtain ⟨w11, hW⟩ : ∃ w9 : World, wa3.setCell ⟨g7, 2, none⟩ (.slice A3 u.b.length c3) = w9 := ⟨_, rfl⟩
              rw [hW] at p0 O5 CW XV BV ⊢
              have NU := Lib.hid O5
              replace XU := Lib.hid (show w11.heap[g7]? = some (.cells #[.int .i64 u.k, .int .i64 u.m, .slice A3 u.b.length c3] 25 (0, 0)) by simpa using p0)
              clear b3 p0 CS O5 hW h3 BU
              obtain ⟨wb2, hwb, cb, bb⟩ := news1 w11 (.cells #[] 5)
              have WB := Lib.hid hwb
              have OB := Lib.hid (show OwnB wb2 (some ⟨w11.heap.size, 0, none⟩) 0 [] from .of (full := []) bb (Nat.zero_le _) (Nat.zero_le _) rfl rfl)
              have RB := Lib.hid (BV.out.chg cb (by simp))
              have CBB := Lib.hid cb
              have BD : Hid (0 + v.b.length ≤ 140737488355327) := Lib.hid (by have := VS.out; omega)
              have zb := cell_of (cb.at_ XV.out (by simp)) 2
              simp only [List.getElem?_toArray, List.getElem?_cons_succ, List.getElem?_cons_zero] at zb
              clear hwb cb bb
              go_upto_region 21 with (first | (at_builtin; refine wpList_app rfl (.tmp 82) (.tmp 84) rfl rfl OB.out rfl rfl RB.out BD.out ?_; intro A4 c4 wa4 o3 g3 e3; have h3 : OwnB wa4 A4 c4 v.b ∧ (∀ a, A4 = some a → w11.heap.size ≤ a.block) ∧ Chg [] w11 wa4 := ⟨by simpa using o3, app_ownn (fun a ha => by cases ha; exact Nat.le_refl _) CBB.out g3 e3⟩; have b3 := h3.2.2.at_ XV.out (by simp); have zz := cell_of b3 2; have ff := free_of b3 2; simp only [List.getElem?_toArray, List.getElem?_cons_succ, List.getElem?_cons_zero] at zz; clear b3; clear o3 g3 e3 WB OB RB CBB BD zb; rw [Nat.zero_add]) | rw [← WB.out])
              clear zz ff
              have b3 := h3.2.2.at_ XV.out (by simp)
              have p0 := heap_setCell_same _ g9 2 _ _ (.slice A4 v.b.length c4) b3
              have CS : Chg [g9] wa4 (wa4.setCell ⟨g9, 2, none⟩ (.slice A4 v.b.length c4)) := (Chg.refl [g9] wa4).setCell (p := ⟨g9, 2, none⟩) (.inl (by simp)) _
              have O5 := bs_ebox h3.1.reads b3 CS
              replace XU := Lib.hid (CS.at_ (h3.2.2.at_ XU.out (by simp)) (by have := GN.out; simp; omega))
              replace NU := Lib.hid (bs_ebox (NU.out.chg h3.2.2 (by simp)) b3 CS)
              replace CW := Lib.hid ((CW.out.trans h3.2.2).trans' CS (fun i hi => .inr (by have := Sg9.out; simp at hi; omega)))
              obtain ⟨w13, hW⟩ : ∃ w9 : World, wa4.setCell ⟨g9, 2, none⟩ (.slice A4 v.b.length c4) = w9 := ⟨_, rfl⟩
              rw [hW] at p0 O5 CW XU NU ⊢
              have NV := Lib.hid O5
              replace XV := Lib.hid (show w13.heap[g9]? = some (.cells #[.int .i64 v.k, .int .i64 v.m, .slice A4 v.b.length c4] 25 (0, 0)) by simpa using p0)
              clear b3 p0 CS O5 hW h3 BV
              replace RO := Lib.hid (RO.out.chg CW.out (by simp))
              replace RU := Lib.hid (RU.out.chg CW.out)
              replace RC := Lib.hid (RC.out.trans CW.out)
              have XR : Hid (PrR w13 ⟨strOf q, u.k, u.m, A3, u.b.length, c3, v.k, v.m, A4, v.b.length, c4⟩ (prT q u v)) := Lib.hid ⟨rfl, rfl, rfl, rfl, NU.out, rfl, rfl, rfl, NV.out⟩
              have NA2 : Hid (∀ b, A2 = some b → b.block ≠ g7 ∧ b.block ≠ g9 ∧ b.block ≠ g5) := Lib.hid (fun b hb => by
                have := LA2.out b hb
                have := RN.out b hb
                have := Sg7.out
                have := Sg9.out
                have := LG5.out
                omega)
              have NR13 := Lib.hid (show Chg [] w5 w13 from RC.out)
              have DX : Hid (∀ w', Chg (blkOf A2) w13 w' → w'.cell? ⟨g5, o5 + k, none⟩ = some (.string (strOf q)) ∧ (w'.cell? ⟨g7, 0, none⟩ = some (.int .i64 u.k) ∧ w'.cell? ⟨g7, 1, none⟩ = some (.int .i64 u.m) ∧ w'.cell? ⟨g7, 2, none⟩ = some (.slice A3 u.b.length c3)) ∧ (w'.cell? ⟨g9, 0, none⟩ = some (.int .i64 v.k) ∧ w'.cell? ⟨g9, 1, none⟩ = some (.int .i64 v.m) ∧ w'.cell? ⟨g9, 2, none⟩ = some (.slice A4 v.b.length c4))) := Lib.hid (fun w' hc => by
                have a := hc.at_ XU.out (fun q => by obtain ⟨b, hb, e⟩ := of_blkOf q; exact (NA2.out b hb).1 e)
                have b := hc.at_ XV.out (fun q => by obtain ⟨b, hb, e⟩ := of_blkOf q; exact (NA2.out b hb).2.1 e)
                exact ⟨hc.cell (NC.out _ NR13.out) (fun q => by obtain ⟨b, hb, e⟩ := of_blkOf q; exact (NA2.out b hb).2.2 e), ⟨cell_of a 0, cell_of a 1, cell_of a 2⟩, cell_of b 0, cell_of b 1, cell_of b 2⟩)
              clear NC NU NV XU XV CW
              refine wp_region_held_drew (S := fun w' => Chg (blkOf A2) w13 w') (by kernel_rfl) ((Chg.refl (blkOf A2) w13).drew) (fun hHeld => ?_)
              have CD : Hid (Chg (blkOf A2) w13 w13.drew) := Lib.hid (Chg.refl (blkOf A2) w13).drew
              have CD0 : Hid (Chg [] w13 w13.drew) := Lib.hid (Chg.refl [] w13).drew
              clear hHeld
              replace RO := Lib.hid (RO.out.chg CD0.out (by simp))
              replace RU := Lib.hid (RU.out.chg CD0.out)
              replace RC := Lib.hid (RC.out.trans CD0.out)
              replace XR := Lib.hid (XR.out.chg CD0.out)
              generalize w13.drew = wd at *
              refine sy 0 87 rfl rfl ?_ (hS := CD.out)
              try simp only [Act.put, sA, s0, s1]
              refine sy 1 88 rfl rfl ?_ (hS := CD.out)
              try simp only [Act.put, sA, s0, s1]
              refine sy 2 89 rfl rfl ?_ (hS := CD.out)
              try simp only [Act.put, sA, s0, s1]
              refine sy 3 90 rfl rfl ?_ (hS := CD.out)
              try simp only [Act.put, sA, s0, s1]
              refine sy 4 91 rfl rfl ?_ (hS := CD.out) (hy := by (intro w hSw; (try dsimp only at hSw); have hq := DX.out _ hSw; obtain ⟨q0, ⟨q1, q2, q3⟩, q4, q5, q6⟩ := hq; go_simp; try with_reducible rfl))
              try simp only [Act.put, sA, s0, s1]
              refine sy 5 92 rfl rfl ?_ (hS := CD.out) (hy := by (intro w hSw; (try dsimp only at hSw); have hq := DX.out _ hSw; obtain ⟨q0, ⟨q1, q2, q3⟩, q4, q5, q6⟩ := hq; go_simp; try with_reducible rfl))
              try simp only [Act.put, sA, s0, s1]
              refine sy 6 93 rfl rfl ?_ (hS := CD.out) (hy := by (intro w hSw; (try dsimp only at hSw); have hq := DX.out _ hSw; obtain ⟨q0, ⟨q1, q2, q3⟩, q4, q5, q6⟩ := hq; go_simp; try with_reducible rfl))
              try simp only [Act.put, sA, s0, s1]
              refine sy 7 94 rfl rfl ?_ (hS := CD.out)
              try simp only [Act.put, sA, s0, s1]
              refine wpAnyH_ready (rs := [8]) (by kernel_rfl) (by simp) ?_
              refine AllReadyH.cons rfl (fun K hK => ?_) AllReadyH.nil
              replace hK := Lib.hid hK
              go_simp
              obtain ⟨w15, hw, hc, b3⟩ := news1 wd (.cells #[.string (strOf q), .int .i64 u.k, .int .i64 u.m, .slice A3 u.b.length c3, .int .i64 v.k, .int .i64 v.m, .slice A4 v.b.length c4] 50)
              rw [← hw]
              have R3 := Lib.hid (rd_onePr (X := ⟨strOf q, u.k, u.m, A3, u.b.length, c3, v.k, v.m, A4, v.b.length, c4⟩) b3)
              replace RO := Lib.hid (RO.out.chg hc (by simp))
              replace RU := Lib.hid (RU.out.chg hc)
              replace RC := Lib.hid (RC.out.trans hc)
              replace XR := Lib.hid (XR.out.chg hc)
              replace CD := Lib.hid (CD.out.trans (hc.mono (by simp)))
              clear hw hc b3
              refine hK.out _ _ CD.out (fun hHeld => ?_)
              clear hK K
              try simp only [Act.put, sA, s0, s1]
              refine wpAnyH_ready (rs := [9]) (by kernel_rfl) (by simp) ?_
              refine AllReadyH.cons rfl (fun K hK => ?_) AllReadyH.nil
              replace hK := Lib.hid hK
              refine step_appK (R := prTy) rfl (.tmp 87) (.tmp 95) rfl rfl (A := A2) (B := some ⟨wd.heap.size, 0, none⟩) (n := us.length) (m := 1) (c := d2) (d := 1) (xs := us) (ys := [⟨strOf q, u.k, u.m, A3, u.b.length, c3, v.k, v.m, A4, v.b.length, c4⟩]) RO.out rfl rfl R3.out N4.out ?_
              intro A7 c7 w16 o7 g7x e7
              have O7 := Lib.hid o7
              have F7 := Lib.hid (fresh_appN RN.out RC.out g7x e7)
              have CG : Hid (Chg (blkOf A2) w15 w16) := Lib.hid ((Chg.refl (blkOf A2) w15).grown g7x (fun i hi => by
                cases A2 with
                | none => simp at hi
                | some a => simp at hi; subst hi; exact .inl (mem_blkOf rfl)))
              have HD : Hid (Chg (blkOf A2) w13 w16) := Lib.hid (CD.out.trans CG.out)
              clear o7 g7x e7 hHeld
              refine hK.out _ _ HD.out (fun hHeld => ?_)
              clear hK K
              try simp only [Act.put, sA, s0, s1]
              refine sy 10 9 rfl rfl ?_ (hS := HD.out)
              try simp only [Act.put, sA, s0, s1]
              refine wpAnyH_done (by kernel_rfl) ?_ _
              clear hHeld
              have RU8 : Hid (PrsR w16 (us ++ [⟨strOf q, u.k, u.m, A3, u.b.length, c3, v.k, v.m, A4, v.b.length, c4⟩]) ((ms.take (k + 1)).map (atT es fs))) := Lib.hid (by rw [MT.out]; exact (RU.out.row RO.out CG.out).snoc (XR.out.row RO.out CG.out))
              clear CG RO RU XR R3 N4 DX HD CD CD0
              go_wp2
              go_round
              case rel => exact ⟨k + 1, A7, c7, us ++ [⟨strOf q, u.k, u.m, A3, u.b.length, c3, v.k, v.m, A4, v.b.length, c4⟩], by omega, by simp [UL.out], by go_num, by simp, O7, RU8, Lib.hid F7.out.1, F7.out.2⟩
              case measure => simp [RowKit.intOf]; omega
            · skip
              have i1 : ¬ (k : Int) < (ms.length : Int) := by omega
              have KE : Hid (k = ms.length) := Lib.hid (by omega)
              have RE : Hid (PrsR wr us (walkL es fs)) := Lib.hid (by
                have t := RU.out
                rw [KE.out, List.take_length, ← MS.out] at t
                exact t)
              go_wp2
              go_ret2
              rw [ER.out]
              exact ⟨A2, d2, us, rfl, RO.out, RE.out, fun a ha => Nat.le_trans C5.out.size (RN.out a ha), C5.out.trans RC.out⟩
end
section
open Go.RowKit Go.Lib
set_option linter.unusedSimpArgs false
set_option linter.unusedVariables false


/-- A text beside a text. -/
def cmpL (a b : List UInt8) : Int := if lessL a b = true then -1 else if lessL b a = true then 1 else 0
theorem cmpL_neg {a b : List UInt8} : cmpL a b < 0 ↔ lessL a b = true := by
  unfold cmpL
  split
  · rename_i h; exact ⟨fun _ => h, fun _ => by decide⟩
  · rename_i h; split <;> exact ⟨fun q => absurd q (by decide), fun q => absurd q h⟩
set_option maxRecDepth 100000 in
set_option maxHeartbeats 2000000 in
theorem orderofs_any (w : World) (a b : List UInt8) (ha : a.length ≤ 10000000) (hb : b.length ≤ 10000000) :
    Calls Tryz.prog 94 #[.string (strOf a), .string (strOf b), .func (.func 32) #[] #[]] w fun e w' => e = .returned (.int .i64 (cmpL a b)) ∧ Chg [] w w' := by
  have L1 := Lib.hid (fun w => phless_any w a b ha hb)
  have L2 := Lib.hid (fun w => phless_any w b a hb ha)
  unfold cmpL
  generalize lessL a b = u at *
  generalize lessL b a = v at *
  clear ha hb
  go_enter Tryz.func94, Tryz.ntmps94
  go_wp2_with fail
  refine (L1.out _).mono ?_
  rintro e w1 ⟨rfl, hc⟩
  have C1 := Lib.hid hc
  clear hc
  cases u
  · go_wp2_with fail
    refine (L2.out _).mono ?_
    rintro e w2 ⟨rfl, hc⟩
    have C2 := Lib.hid (C1.out.trans hc)
    clear hc
    cases v
    · go_wp2
      go_ret
      exact ⟨rfl, C2.out⟩
    · go_wp2
      go_ret
      exact ⟨rfl, C2.out⟩
  · go_wp2
    go_ret
    exact ⟨rfl, C1.out⟩
end
section
open Go.RowKit Go.Lib
set_option linter.unusedSimpArgs false
set_option linter.unusedVariables false

theorem cmpL_zero {a b : List UInt8} : cmpL a b = 0 ↔ a = b := by
  unfold cmpL
  constructor
  · intro h
    split at h
    · cases h
    · rename_i h1
      split at h
      · cases h
      · rename_i h2
        rcases less_tri a b with q | q | q
        · exact q
        · exact absurd q h1
        · exact absurd q h2
  · rintro rfl
    rw [less_self]
    rfl
def LoN (es : List EnP) (q : List UInt8) (i : Nat) : Prop := ∀ p x, es[p]? = some x → p < i → lessL x.p q = true
def HiN (es : List EnP) (q : List UInt8) (j : Nat) : Prop := ∀ p x, es[p]? = some x → j ≤ p → lessL x.p q = false
theorem en_at {l : List EnP} (h : l.Pairwise ltT) {p q : Nat} {x y : EnP} (hx : l[p]? = some x) (hy : l[q]? = some y) (hl : p < q) : lessL x.p y.p = true := by
  obtain ⟨l1, e1⟩ := List.getElem?_eq_some_iff.1 hx
  obtain ⟨l2, e2⟩ := List.getElem?_eq_some_iff.1 hy
  have := List.pairwise_iff_getElem.1 h p q l1 l2 hl
  rw [e1, e2] at this
  exact this
theorem loN_next {es : List EnP} {q : List UInt8} (hn : es.Pairwise ltT) {h : Nat} {x : EnP} (hx : es[h]? = some x) (hc : lessL x.p q = true) : LoN es q (h + 1) := by
  intro p y hy hp
  by_cases e : p = h
  · subst e; rw [hx] at hy; cases hy; exact hc
  · exact less_trans _ _ _ (en_at hn hy hx (by omega)) hc
theorem hiN_next {es : List EnP} {q : List UInt8} (hn : es.Pairwise ltT) {h : Nat} {x : EnP} (hx : es[h]? = some x) (hc : lessL x.p q = false) : HiN es q h := by
  intro p y hy hp
  by_cases e : p = h
  · subst e; rw [hx] at hy; cases hy; exact hc
  · rcases r : lessL y.p q with _ | _
    · rfl
    · rw [less_trans _ _ _ (en_at hn hx hy (by omega)) r] at hc
      cases hc
theorem get_here {es : List EnP} {q : List UInt8} (hn : es.Pairwise ltT) {i : Nat} {x : EnP} (hx : es[i]? = some x) (hl : LoN es q i) (hh : HiN es q i) : (getT es q).isSome = decide (cmpL x.p q = 0) := by
  by_cases e : x.p = q
  · rw [decide_eq_true (cmpL_zero.2 e), (get_iff hn).2 ⟨List.mem_of_getElem? hx, e⟩]
    rfl
  · rw [decide_eq_false (fun h => e (cmpL_zero.1 h))]
    rcases h : getT es q with _ | y
    · rfl
    · obtain ⟨hy, hp⟩ := get_some h
      obtain ⟨k, hk, rfl⟩ := List.getElem_of_mem hy
      have ek := List.getElem?_eq_getElem hk
      rcases Nat.lt_trichotomy k i with r | r | r
      · exact absurd hp (less_ne (hl k _ ek r))
      · subst r; rw [hx] at ek; cases ek; exact absurd hp e
      · have a := en_at hn hx ek r
        rw [hp] at a
        rw [hh i _ hx (Nat.le_refl _)] at a
        cases a
theorem get_end {es : List EnP} {q : List UInt8} {i : Nat} (hi : es.length ≤ i) (hl : LoN es q i) : getT es q = none := get_none.2 (fun e he hp => by
  obtain ⟨k, hk, rfl⟩ := List.getElem_of_mem he
  exact less_ne (hl k _ (List.getElem?_eq_getElem hk) (by omega)) hp)
theorem split_at {es : List EnP} {q : List UInt8} {i : Nat} (hl : LoN es q i) (hh : HiN es q i) : es.filter (fun e => lessL e.p q) = es.take i ∧ es.filter (fun e => !lessL e.p q) = es.drop i := by
  have a : ∀ x ∈ es.take i, lessL x.p q = true := fun x hx => by
    obtain ⟨k, hk, rfl⟩ := List.getElem_of_mem hx
    rw [List.length_take] at hk
    rw [List.getElem_take]
    exact hl k _ (List.getElem?_eq_getElem (by omega)) (by omega)
  have b : ∀ x ∈ es.drop i, lessL x.p q = false := fun x hx => by
    obtain ⟨k, hk, rfl⟩ := List.getElem_of_mem hx
    rw [List.length_drop] at hk
    rw [List.getElem_drop]
    exact hh (i + k) _ (List.getElem?_eq_getElem (by omega)) (by omega)
  have e : es = es.take i ++ es.drop i := (List.take_append_drop i es).symm
  constructor
  · conv => lhs; rw [e]
    rw [List.filter_append, List.filter_eq_self.2 a, List.filter_eq_nil_iff.2 (fun x hx => by rw [b x hx]; simp), List.append_nil]
  · conv => lhs; rw [e]
    rw [List.filter_append, List.filter_eq_nil_iff.2 (fun x hx => by rw [a x hx]; simp), List.filter_eq_self.2 (fun x hx => by rw [b x hx]; rfl), List.nil_append]
/-- Where nothing stands at the path. -/
theorem lay_new {es : List EnP} {x : EnP} {i : Nat} (hl : LoN es x.p i) (hh : HiN es x.p i) (hg : getT es x.p = none) : layT es x = es.take i ++ x :: es.drop i := by
  obtain ⟨a, b⟩ := split_at hl hh
  unfold layT
  rw [a, ← b]
  congr 2
  refine List.filter_congr (fun e he => ?_)
  rcases less_tri e.p x.p with q | q | q
  · exact absurd q (get_none.1 hg e he)
  · rw [q, less_not _ _ q]; rfl
  · rw [q, less_not _ _ q]; rfl
/-- Where something stands there. -/
theorem lay_there {es : List EnP} {x e : EnP} {i : Nat} (hn : es.Pairwise ltT) (hl : LoN es x.p i) (hh : HiN es x.p i) (hg : getT es x.p = some e) : es[i]? = some e ∧ layT es x = es.set i x := by
  obtain ⟨a, b⟩ := split_at hl hh
  obtain ⟨he, hp⟩ := get_some hg
  have hi : i < es.length := by
    rcases Nat.lt_or_ge i es.length with q | q
    · exact q
    · rw [get_end q hl] at hg; cases hg
  have ei := List.getElem?_eq_getElem hi
  have hx : es[i] = e := by
    have q := get_here hn ei hl hh
    rw [hg] at q
    have := cmpL_zero.1 (of_decide_eq_true q.symm)
    exact same_path hn (List.mem_of_getElem? ei) he (this.trans hp.symm)
  refine ⟨by rw [ei, hx], ?_⟩
  unfold layT
  rw [a]
  have hd : es.drop i = e :: es.drop (i + 1) := by rw [List.drop_eq_getElem_cons hi, hx]
  have hf : es.filter (fun f => lessL x.p f.p) = es.drop (i + 1) := by
    have e0 : es = es.take i ++ e :: es.drop (i + 1) := by rw [← hd]; exact (List.take_append_drop i es).symm
    have hn2 := hn
    rw [e0, List.pairwise_append, List.pairwise_cons] at hn2
    conv => lhs; rw [e0]
    rw [List.filter_append, List.filter_cons, ← hp, less_self]
    rw [List.filter_eq_nil_iff.2 (fun y hy => by
      have : lessL y.p e.p = true := hn2.2.2 y hy e (by simp)
      rw [less_not _ _ this]; simp), List.filter_eq_self.2 (fun y hy => hn2.2.1.1 y hy)]
    rfl
  rw [hf, List.set_eq_take_append_cons_drop, if_pos hi]
end
section
open Go.RowKit Go.Lib
set_option linter.unusedSimpArgs false
set_option linter.unusedVariables false

set_option maxRecDepth 100000 in
set_option maxHeartbeats 2000000 in
theorem tbbypath_any (w : World) (x : EnT) (a b : List UInt8) (hx : x.p = strOf a) (ha : a.length ≤ 10000000) (hb : b.length ≤ 10000000) :
    Calls Tryz.prog 60 #[.agg #[.string x.p, .int .i64 x.k, .int .i64 x.m, .slice x.A x.l x.c], .string (strOf b)] w fun e w' => e = .returned (.int .i64 (cmpL a b)) ∧ Chg [] w w' := by
  obtain ⟨w1, hw1, c1, b1⟩ := news1 w (.cells #[.string x.p, .int .i64 x.k, .int .i64 x.m, .slice x.A x.l x.c] 55)
  have W1 := Lib.hid hw1
  have C1 := Lib.hid c1
  have CC := Lib.hid (orderofs_any w1 a b ha hb)
  have z0 := cell_of b1 0
  simp only [List.getElem?_toArray, List.getElem?_cons_succ, List.getElem?_cons_zero] at z0
  rw [hx] at z0
  clear hw1 c1 b1 hx ha hb
  go_enter Tryz.func60, Tryz.ntmps60
  go_upto_region 1 with fail
  rw [← W1.out]
  generalize w.heap.size = g1 at *
  clear W1
  go_wp2_with fail
  clear z0
  refine CC.out.mono ?_
  rintro r w2 ⟨rfl, hc⟩
  replace C1 := Lib.hid (C1.out.trans hc)
  clear hc CC
  go_wp2
  go_ret
  exact ⟨rfl, C1.out⟩
set_option maxRecDepth 100000 in
set_option maxHeartbeats 8000000 in
theorem binen_any (w : World) (A : Option Addr) (c : Nat) (xs : List EnT) (es : List EnP) (q : List UInt8) (h : RdK enTy w A xs.length xs) (hx : EnsR w xs es) (hn : es.Pairwise ltT) (hl : xs.length ≤ 100000) (hq : q.length ≤ 10000000) (he : ∀ e ∈ es, e.p.length ≤ 10000000) :
    Calls Tryz.prog 77 #[.slice A xs.length c, .string (strOf q), .func (.func 60) #[] #[]] w fun r w' => ∃ i : Nat, i ≤ xs.length ∧ LoN es q i ∧ HiN es q i ∧ r = .returned (.tuple #[.int .i64 (i : Int), .bool (getT es q).isSome]) ∧ Chg [] w w' := by
  have HA := Lib.hid h
  have HX := Lib.hid hx
  have HNM := Lib.hid hn
  have HL := Lib.hid hl
  have HCMP : Hid (∀ (w' : World) (k : Nat) (x : EnT) (e : EnP), xs[k]? = some x → es[k]? = some e → Calls Tryz.prog 60 #[.agg #[.string x.p, .int .i64 x.k, .int .i64 x.m, .slice x.A x.l x.c], .string (strOf q)] w' fun r w2 => r = .returned (.int .i64 (cmpL e.p q)) ∧ Chg [] w' w2) := Lib.hid (fun w' k x e h1 h2 => tbbypath_any w' x e.p q (hx.2 k x e h1 h2).p (he e (List.mem_of_getElem? h2)) hq)
  have HP := Lib.hid (fun e h => he e h)
  clear h hx hn hl hq he
  go_enter Tryz.func77, Tryz.ntmps77
  go_wp2
  go_loopw [9, 10] (fun v9 v10 wr => ∃ (i j : Nat), i ≤ j ∧ j ≤ xs.length ∧ v9 = .int .i64 (i : Int) ∧ v10 = .int .i64 (j : Int) ∧ Hid (LoN es q i ∧ HiN es q j) ∧ Hid (Chg [] w wr)) (fun v9 v10 _ => (RowKit.intOf v10).toNat - (RowKit.intOf v9).toNat)
  case atStart => exact ⟨0, xs.length, Nat.zero_le _, Nat.le_refl _, rfl, rfl, Lib.hid ⟨fun p x _ h => absurd h (by omega), fun p x hx h => absurd ((List.getElem?_eq_some_iff.1 hx).1) (by have := HX.out.1; omega)⟩, Chg.refl _ _⟩
  case round =>
    obtain ⟨i, j, hij, hj, rfl, rfl, HI, HC⟩ := hrel
    have i0 : (0 : Int) ≤ (i : Int) := by omega
    have hl := HL.out
    have i1 : IntKind.i64.wrap ((i : Int) + (j : Int)) = ((i + j : Nat) : Int) := by rw [IntWalk.i64_in _ (by omega)]; omega
    by_cases hlt : i < j
    · have i2 : (i : Int) < (j : Int) := by omega
      go_upto_region 5 with fail
      obtain ⟨k, hk⟩ : ∃ k : Nat, k = (i + j) / 2 := ⟨_, rfl⟩
      have e1 : ((i : Int) + (j : Int)) / 2 = (k : Int) := by omega
      rw [e1]
      have hk1 : i ≤ k ∧ k < j := by omega
      clear hk e1 i1 i2
      obtain ⟨x, e, ex, ee, _⟩ := HX.out.at_ (show k < xs.length by omega)
      obtain ⟨g, o, eA, _⟩ := HA.out.line (by omega)
      subst eA
      obtain ⟨z0, z1, z2, z3⟩ := enCells (HA.out.chg HC.out (by simp)) ex
      have k0 : (0 : Int) ≤ (k : Int) := by omega
      have k1 : (k : Int) < (xs.length : Int) := by omega
      have EE := Lib.hid ee
      have CL := Lib.hid (HCMP.out wr k x e ex ee)
      clear ex ee
      go_wp2_with fail
      clear z0 z1 z2 z3
      refine CL.out.mono ?_
      rintro r w2 ⟨rfl, hc⟩
      have CE := Lib.hid (HC.out.trans hc)
      clear hc CL
      by_cases hneg : cmpL e.p q < 0
      · have LO := Lib.hid (loN_next HNM.out EE.out (cmpL_neg.1 hneg))
        have dn1 : decide (cmpL e.p q < 0) = true := decide_eq_true hneg
        have w1' : IntKind.i64.wrap ((k : Int) + 1) = (k : Int) + 1 := IntWalk.i64_in _ (by omega)
        go_wp2
        go_round
        case rel => exact ⟨k + 1, j, by omega, hj, by go_num, rfl, Lib.hid ⟨LO.out, HI.out.2⟩, CE⟩
        case measure => simp [RowKit.intOf]; omega
      · have HIN := Lib.hid (hiN_next HNM.out EE.out (by
          rcases t : lessL e.p q with _ | _
          · rfl
          · exact absurd (cmpL_neg.2 t) hneg))
        have dn1 : decide (cmpL e.p q < 0) = false := decide_eq_false hneg
        go_wp2
        go_round
        case rel => exact ⟨i, k, by omega, by omega, rfl, rfl, Lib.hid ⟨HI.out.1, HIN.out⟩, CE⟩
        case measure => simp [RowKit.intOf]; omega
    · obtain rfl : i = j := by omega
      have i2 : ¬ (i : Int) < (i : Int) := by omega
      by_cases hin : i < xs.length
      · have k1 : (i : Int) < (xs.length : Int) := by omega
        obtain ⟨x, e, ex, ee, _⟩ := HX.out.at_ hin
        obtain ⟨g, o, eA, _⟩ := HA.out.line (by omega)
        subst eA
        obtain ⟨z0, z1, z2, z3⟩ := enCells (HA.out.chg HC.out (by simp)) ex
        have CL := Lib.hid (HCMP.out wr i x e ex ee)
        have ANS : Hid ((getT es q).isSome = decide (cmpL e.p q = 0)) := Lib.hid (get_here HNM.out ee HI.out.1 HI.out.2)
        clear ex ee
        go_wp2_with fail
        clear z0 z1 z2 z3
        refine CL.out.mono ?_
        rintro r w2 ⟨rfl, hc⟩
        have CE := Lib.hid (HC.out.trans hc)
        clear hc CL
        by_cases hz : cmpL e.p q = 0
        · have AN : (getT es q).isSome = true := by rw [ANS.out, decide_eq_true hz]
          have dz : ((cmpL e.p q == 0) : Bool) = true := by simpa using hz
          clear ANS
          go_wp2
          go_ret2
          exact ⟨i, by omega, HI.out.1, HI.out.2, by rw [AN]; first | rfl | (rw [dz]), CE.out⟩
        · have AN : (getT es q).isSome = false := by rw [ANS.out, decide_eq_false hz]
          have dz : ((cmpL e.p q == 0) : Bool) = false := by simpa using hz
          clear ANS
          go_wp2
          go_ret2
          exact ⟨i, by omega, HI.out.1, HI.out.2, by rw [AN]; first | rfl | (rw [dz]), CE.out⟩
      · have k1 : ¬ (i : Int) < (xs.length : Int) := by omega
        have k2 : decide ((i : Int) < (xs.length : Int)) = false := by simp; omega
        have AN : (getT es q).isSome = false := by rw [get_end (by have := HX.out.1; omega) HI.out.1]; rfl
        go_wp2
        go_ret2
        exact ⟨i, by omega, HI.out.1, HI.out.2, by first | rfl | (rw [AN]; rfl), HC.out⟩
end
section
open Go.RowKit Go.Lib
set_option linter.unusedSimpArgs false
set_option linter.unusedVariables false

set_option maxRecDepth 100000 in
set_option maxHeartbeats 2000000 in
theorem tbwalk1_any (w : World) (x y : EnT) (a b : List UInt8) (hx : x.p = strOf a) (hy : y.p = strOf b) (ha : a.length ≤ 10000000) (hb : b.length ≤ 10000000) :
    Calls Tryz.prog 59 #[.agg #[.string x.p, .int .i64 x.k, .int .i64 x.m, .slice x.A x.l x.c], .agg #[.string y.p, .int .i64 y.k, .int .i64 y.m, .slice y.A y.l y.c]] w fun e w' => e = .returned (.int .i64 (cmpL a b)) ∧ Chg [] w w' := by
  obtain ⟨w1, hw1, c1, b0, b1⟩ := news2 w (.cells #[.string x.p, .int .i64 x.k, .int .i64 x.m, .slice x.A x.l x.c] 55) (.cells #[.string y.p, .int .i64 y.k, .int .i64 y.m, .slice y.A y.l y.c] 55)
  have W1 := Lib.hid hw1
  have C1 := Lib.hid c1
  have CC := Lib.hid (tbbypath_any w1 x a b hx ha hb)
  have z0 := cell_of b0 0
  have z1 := cell_of b0 1
  have z2 := cell_of b0 2
  have z3 := cell_of b0 3
  have y0 := cell_of b1 0
  simp only [List.getElem?_toArray, List.getElem?_cons_succ, List.getElem?_cons_zero] at z0 z1 z2 z3 y0
  rw [hy] at y0
  clear hw1 c1 b0 b1 hx hy ha hb
  go_enter Tryz.func59, Tryz.ntmps59
  go_upto_region 1 with fail
  rw [← W1.out]
  generalize w.heap.size + 1 = g1 at *
  generalize w.heap.size = g0 at *
  clear W1
  go_wp2_with fail
  clear z0 z1 z2 z3 y0
  refine CC.out.mono ?_
  rintro r w2 ⟨rfl, hc⟩
  have C2 := Lib.hid (C1.out.trans hc)
  clear hc CC
  go_wp2
  go_ret
  exact ⟨rfl, C2.out⟩
def whoV : List EnP → List EnP → Int
  | [], _ => 1
  | _ :: _, [] => -1
  | x :: _, y :: _ => cmpL x.p y.p
theorem EnsR.drop {w : World} {xs : List EnT} {es : List EnP} (h : EnsR w xs es) (k : Nat) : EnsR w (xs.drop k) (es.drop k) :=
  ⟨by simp [h.1], fun i x e hx he => h.2 (k + i) x e (by simpa using hx) (by simpa using he)⟩
set_option maxRecDepth 100000 in
set_option maxHeartbeats 8000000 in
theorem tbwhose_any (w : World) (A B : Option Addr) (c d : Nat) (xs ys : List EnT) (es fs : List EnP) (h : RdK enTy w A xs.length xs) (h' : RdK enTy w B ys.length ys) (hx : EnsR w xs es) (hy : EnsR w ys fs) (hs : (∀ e ∈ es, e.p.length ≤ 10000000) ∧ ∀ e ∈ fs, e.p.length ≤ 10000000) :
    Calls Tryz.prog 93 #[.slice A xs.length c, .slice B ys.length d, .func (.func 59) #[] #[]] w fun r w' => r = .returned (.int .i64 (whoV es fs)) ∧ Chg [] w w' := by
  rcases xs with _ | ⟨x, xs⟩
  · have : es = [] := List.eq_nil_of_length_eq_zero (by rw [← hx.1]; rfl)
    subst this
    show Calls Tryz.prog 93 #[.slice A 0 c, .slice B ys.length d, .func (.func 59) #[] #[]] w fun r w' => r = .returned (.int .i64 1) ∧ Chg [] w w'
    clear h h' hx hy hs
    go_enter Tryz.func93, Tryz.ntmps93
    go_wp2
    go_ret
    exact ⟨rfl, Chg.refl _ _⟩
  rcases es with _ | ⟨e, es⟩
  · exact absurd hx.1 (by simp)
  have n1 : ¬ ((xs.length : Int) + 1 = 0) := by omega
  have n2 : (((xs.length : Int) + 1 == 0) : Bool) = false := by simpa using n1
  have n3 : ((((xs.length + 1 : Nat) : Int) == 0) : Bool) = false := by simp; omega
  rcases ys with _ | ⟨y, ys⟩
  · have : fs = [] := List.eq_nil_of_length_eq_zero (by rw [← hy.1]; rfl)
    subst this
    show Calls Tryz.prog 93 #[.slice A (xs.length + 1) c, .slice B 0 d, .func (.func 59) #[] #[]] w fun r w' => r = .returned (.int .i64 (-1)) ∧ Chg [] w w'
    clear h h' hx hy hs
    go_enter Tryz.func93, Tryz.ntmps93
    go_wp2
    go_ret
    exact ⟨rfl, Chg.refl _ _⟩
  rcases fs with _ | ⟨f, fs⟩
  · exact absurd hy.1 (by simp)
  have m1 : ¬ ((ys.length : Int) + 1 = 0) := by omega
  have m2 : (((ys.length : Int) + 1 == 0) : Bool) = false := by simpa using m1
  have m3 : ((((ys.length + 1 : Nat) : Int) == 0) : Bool) = false := by simp; omega
  have i1 : (0 : Int) < (xs.length : Int) + 1 := by omega
  have j1 : (0 : Int) < (ys.length : Int) + 1 := by omega
  have i2 : (0 : Int) < ((xs.length + 1 : Nat) : Int) := by omega
  have j2 : (0 : Int) < ((ys.length + 1 : Nat) : Int) := by omega
  have HA := Lib.hid h
  have HB := Lib.hid h'
  obtain ⟨g, o, eA, _⟩ := h.line (by simp)
  obtain ⟨g', o', eB, _⟩ := h'.line (by simp)
  subst eA eB
  have XP : Hid (x.p = strOf e.p) := Lib.hid (hx.2 0 x e rfl rfl).p
  have YP : Hid (y.p = strOf f.p) := Lib.hid (hy.2 0 y f rfl rfl).p
  have SP : Hid (e.p.length ≤ 10000000 ∧ f.p.length ≤ 10000000) := Lib.hid ⟨hs.1 e (by simp), hs.2 f (by simp)⟩
  have DX : Hid (∀ w', Chg [] w w' → (w'.cell? ⟨g, o, none⟩ = some (.string x.p) ∧ w'.cell? ⟨g, o + 1, none⟩ = some (.int .i64 x.k) ∧ w'.cell? ⟨g, o + 2, none⟩ = some (.int .i64 x.m) ∧ w'.cell? ⟨g, o + 3, none⟩ = some (.slice x.A x.l x.c)) ∧ (w'.cell? ⟨g', o', none⟩ = some (.string y.p) ∧ w'.cell? ⟨g', o' + 1, none⟩ = some (.int .i64 y.k) ∧ w'.cell? ⟨g', o' + 2, none⟩ = some (.int .i64 y.m) ∧ w'.cell? ⟨g', o' + 3, none⟩ = some (.slice y.A y.l y.c))) := Lib.hid (fun w' hc => by
    have a := enCells (j := 0) (HA.out.chg hc (by simp)) (x := x) rfl
    have b := enCells (j := 0) (HB.out.chg hc (by simp)) (x := y) rfl
    rw [Nat.zero_mul, Nat.add_zero] at a b
    exact ⟨a, b⟩)
  show Calls Tryz.prog 93 #[.slice (some ⟨g, o, none⟩) (xs.length + 1) c, .slice (some ⟨g', o', none⟩) (ys.length + 1) d, .func (.func 59) #[] #[]] w fun r w' => r = .returned (.int .i64 (cmpL e.p f.p)) ∧ Chg [] w w'
  clear h h' hx hy hs HA HB
  go_enter Tryz.func93, Tryz.ntmps93
  go_upto_region 5 with fail
  refine wp_region_held_drew (S := fun w' => Chg [] w w') (by kernel_rfl) (Chg.refl [] w).drew (fun hHeld => ?_)
  refine sy 0 15 rfl rfl ?_
  try simp only [Act.put, sA, s0, s1]
  refine sy 1 16 rfl rfl ?_
  try simp only [Act.put, sA, s0, s1]
  refine sy 2 17 rfl rfl ?_
  try simp only [Act.put, sA, s0, s1]
  refine sy 3 18 rfl rfl ?_ (hy := by (intro w hSw; (try dsimp only at hSw); have hq := DX.out _ hSw; obtain ⟨⟨q0, q1, q2, q3⟩, r0, r1, r2, r3⟩ := hq; go_simp; try with_reducible rfl))
  try simp only [Act.put, sA, s0, s1]
  refine sy 4 19 rfl rfl ?_
  try simp only [Act.put, sA, s0, s1]
  refine sy 5 20 rfl rfl ?_
  try simp only [Act.put, sA, s0, s1]
  refine sy 6 21 rfl rfl ?_ (hy := by (intro w hSw; (try dsimp only at hSw); have hq := DX.out _ hSw; obtain ⟨⟨q0, q1, q2, q3⟩, r0, r1, r2, r3⟩ := hq; go_simp; try with_reducible rfl))
  try simp only [Act.put, sA, s0, s1]
  refine wpAnyH_ready (rs := [7]) (by kernel_rfl) (by simp) ?_
  refine AllReadyH.cons rfl (fun K hK => ?_) AllReadyH.nil
  replace hK := Lib.hid hK
  go_simp
  refine (tbwalk1_any _ x y e.p f.p XP.out YP.out SP.out.1 SP.out.2).mono ?_
  rintro r w5 ⟨rfl, hc⟩
  have D5 := Lib.hid (hHeld.trans hc)
  clear hc hHeld
  refine hK.out _ _ D5.out (fun hHeld => ?_)
  clear hK K
  try simp only [Act.put, sA, s0, s1]
  refine sy 8 6 rfl rfl ?_
  try simp only [Act.put, sA, s0, s1]
  refine wpAnyH_done (by kernel_rfl) ?_ _
  clear hHeld DX
  go_wp2
  go_ret
  exact ⟨rfl, D5.out⟩
end
section
open Go.RowKit Go.Lib
set_option linter.unusedSimpArgs false
set_option linter.unusedVariables false

theorem maxS_left (a : List UInt8) : maxS (strOf a) (strOf []) = strOf a := by
  unfold maxS
  rw [if_neg (by simp [strOf])]
theorem maxS_right {b : List UInt8} (h : b ≠ []) : maxS (strOf []) (strOf b) = strOf b := by
  unfold maxS
  rw [if_pos ?_]
  cases b with
  | nil => exact absurd rfl h
  | cons x l => simp [strOf]
theorem maxS_self (a : List UInt8) : maxS (strOf a) (strOf a) = strOf a := by
  unfold maxS
  split <;> rfl
theorem pr7_all {w : World} {g : Nat} {a0 a1 a2 a3 a4 a5 a6 : Value} {T : TypeId} (v0 v1 v2 v3 v4 v5 v6 : Value) (h : w.heap[g]? = some (.cells #[a0, a1, a2, a3, a4, a5, a6] T (0, 0))) :
    (((((((w.setCell ⟨g, 0, none⟩ v0).setCell ⟨g, 1, none⟩ v1).setCell ⟨g, 2, none⟩ v2).setCell ⟨g, 3, none⟩ v3).setCell ⟨g, 4, none⟩ v4).setCell ⟨g, 5, none⟩ v5).setCell ⟨g, 6, none⟩ v6).heap[g]? = some (.cells #[v0, v1, v2, v3, v4, v5, v6] T (0, 0)) ∧ Chg [g] w (((((((w.setCell ⟨g, 0, none⟩ v0).setCell ⟨g, 1, none⟩ v1).setCell ⟨g, 2, none⟩ v2).setCell ⟨g, 3, none⟩ v3).setCell ⟨g, 4, none⟩ v4).setCell ⟨g, 5, none⟩ v5).setCell ⟨g, 6, none⟩ v6) := by
  have p0 := heap_setCell_same _ g 0 _ _ v0 h
  have p1 := heap_setCell_same _ g 1 _ _ v1 p0
  have p2 := heap_setCell_same _ g 2 _ _ v2 p1
  have p3 := heap_setCell_same _ g 3 _ _ v3 p2
  have p4 := heap_setCell_same _ g 4 _ _ v4 p3
  have p5 := heap_setCell_same _ g 5 _ _ v5 p4
  have p6 := heap_setCell_same _ g 6 _ _ v6 p5
  exact ⟨by simpa using p6, (((((((Chg.refl [g] w).setCell (p := ⟨g, 0, none⟩) (.inl (by simp)) v0).setCell (p := ⟨g, 1, none⟩) (.inl (by simp)) v1).setCell (p := ⟨g, 2, none⟩) (.inl (by simp)) v2).setCell (p := ⟨g, 3, none⟩) (.inl (by simp)) v3).setCell (p := ⟨g, 4, none⟩) (.inl (by simp)) v4).setCell (p := ⟨g, 5, none⟩) (.inl (by simp)) v5).setCell (p := ⟨g, 6, none⟩) (.inl (by simp)) v6⟩
/-- Bytes do not lie in the box of a pair. -/
theorem bs_pbox {w w' : World} {B : Option Addr} {n g : Nat} {bs : List UInt8} {p : ByteArray} {k1 k2 k3 k4 : Int} {S1 S2 : Option Addr} {l1 c1 l2 c2 : Nat} {T : TypeId} (h : Bs w B n bs) (hb : w.heap[g]? = some (.cells #[.string p, .int .i64 k1, .int .i64 k2, .slice S1 l1 c1, .int .i64 k3, .int .i64 k4, .slice S2 l2 c2] T (0, 0))) (hc : Chg [g] w w') : Bs w' B n bs := by
  refine ⟨h.len, fun j v hj => ?_⟩
  obtain ⟨a, ha, hx⟩ := h.cells j v hj
  refine ⟨a, ha, hc.cell hx (fun q => ?_)⟩
  have q : (a.add j).block = g := by simpa using q
  simp only [World.cell?, q, hb] at hx
  split at hx
  · cases hx
  · have r := List.mem_of_getElem? (show ([.string p, .int .i64 k1, .int .i64 k2, .slice S1 l1 c1, .int .i64 k3, .int .i64 k4, .slice S2 l2 c2] : List Value)[(a.add j).off]? = some (bv v) by simpa using hx)
    simp [bv] at r
set_option maxRecDepth 100000 in
set_option maxHeartbeats 8000000 in
/-- table.pairOf. -/
theorem tbpair_any (w : World) (x y : EnT) (e f : EnP) (p : List UInt8) (hx : EnR w x e) (hy : EnR w y f) (hs : e.b.length ≤ 140737488351232 ∧ f.b.length ≤ 140737488351232) (hp : maxS (strOf e.p) (strOf f.p) = strOf p) :
    Calls Tryz.prog 61 #[.agg #[.string x.p, .int .i64 x.k, .int .i64 x.m, .slice x.A x.l x.c], .agg #[.string y.p, .int .i64 y.k, .int .i64 y.m, .slice y.A y.l y.c]] w fun r w' => ∃ X : PrT, r = .returned (.agg #[.string X.p, .int .i64 X.k, .int .i64 X.m, .slice X.A X.l X.c, .int .i64 X.k2, .int .i64 X.m2, .slice X.B X.bl X.bc]) ∧ PrR w' X (prT p e f) ∧ Chg [] w w' := by
  obtain ⟨w1, hw, hc, b0, b1, b2⟩ := news3 w (.cells #[.string (strOf e.p), .int .i64 x.k, .int .i64 x.m, .slice x.A x.l x.c] 55) (.cells #[.string (strOf f.p), .int .i64 y.k, .int .i64 y.m, .slice y.A y.l y.c] 55) (.cells #[.string ⟨#[]⟩, .int .i64 0, .int .i64 0, .slice none 0 0, .int .i64 0, .int .i64 0, .slice none 0 0] 50)
  have W1 := Lib.hid hw
  have hmx := @run_max_strs Tryz.prog
  obtain ⟨g0, hg0⟩ : ∃ g, w.heap.size = g := ⟨_, rfl⟩
  obtain ⟨g1, hg1⟩ : ∃ g, g0 + 1 = g := ⟨_, rfl⟩
  obtain ⟨g2, hg2⟩ : ∃ g, g1 + 1 = g := ⟨_, rfl⟩
  rw [hg0] at b0
  rw [hg0, hg1] at b1
  rw [show w.heap.size + 2 = w.heap.size + 1 + 1 from rfl, hg0, hg1, hg2] at b2
  have GW := Lib.hid (show w.heap.size ≤ g2 by omega)
  have GS : Hid (w.heap.size = g0 ∧ w.heap.size + 1 = g1 ∧ w.heap.size + 2 = g2) := Lib.hid ⟨hg0, by omega, by omega⟩
  have DX : Hid (∀ w', Chg [g2] w1 w' → (w'.cell? ⟨g0, 0, none⟩ = some (.string (strOf e.p)) ∧ w'.cell? ⟨g0, 1, none⟩ = some (.int .i64 x.k) ∧ w'.cell? ⟨g0, 2, none⟩ = some (.int .i64 x.m) ∧ w'.cell? ⟨g0, 3, none⟩ = some (.slice x.A x.l x.c)) ∧ (w'.cell? ⟨g1, 0, none⟩ = some (.string (strOf f.p)) ∧ w'.cell? ⟨g1, 1, none⟩ = some (.int .i64 y.k) ∧ w'.cell? ⟨g1, 2, none⟩ = some (.int .i64 y.m) ∧ w'.cell? ⟨g1, 3, none⟩ = some (.slice y.A y.l y.c))) := Lib.hid (fun w' hc2 => by
    have q := hc2.at_ b0 (by simp; omega)
    have r := hc2.at_ b1 (by simp; omega)
    exact ⟨⟨cell_of q 0, cell_of q 1, cell_of q 2, cell_of q 3⟩, cell_of r 0, cell_of r 1, cell_of r 2, cell_of r 3⟩)
  have B2 := Lib.hid b2
  have XW : Hid (∀ w', Chg [g2] w1 w' → Chg [] w w') := Lib.hid (fun w' q => hc.trans' q (fun i hi => .inr (by simp at hi; omega)))
  have XA := Lib.hid hx.A
  have YA := Lib.hid hy.A
  have XB : Hid (x.l ≤ 140737488351232 ∧ y.l ≤ 140737488351232) := Lib.hid (by rw [hx.l, hy.l]; exact hs)
  have XE := Lib.hid hx
  have YE := Lib.hid hy
  have MX := Lib.hid hp
  rw [hx.p, hy.p]
  clear hw hc b0 b1 b2 hg0 hg1 hg2 hx hy hs hp
  go_enter Tryz.func61, Tryz.ntmps61
  go_upto_region 1 with fail
  rw [← W1.out]
  try rw [GS.out.2.2, GS.out.2.1, GS.out.1]
  clear W1
  have CD := (Chg.refl [] w1).drew
  replace B2 := Lib.hid (CD.at_ B2.out (by simp))
  clear CD
  refine wp_region_held_drew (S := fun w' => Chg [g2] w1 w') (by kernel_rfl) (Chg.refl [g2] w1).drew (fun hHeld => ?_)
  obtain ⟨wd, hwd⟩ : ∃ wd, w1.drew = wd := ⟨_, rfl⟩
  rw [hwd] at B2 hHeld ⊢
  clear hwd
  refine sy 0 5 rfl rfl ?_
  try simp only [Act.put, sA, s0, s1]
  refine sy 1 6 rfl rfl ?_ (hy := by (intro w hSw; (try dsimp only at hSw); have hq := DX.out _ hSw; obtain ⟨⟨q0, q1, q2, q3⟩, r0, r1, r2, r3⟩ := hq; go_simp; try with_reducible rfl))
  try simp only [Act.put, sA, s0, s1]
  refine sy 2 7 rfl rfl ?_
  try simp only [Act.put, sA, s0, s1]
  refine sy 3 8 rfl rfl ?_ (hy := by (intro w hSw; (try dsimp only at hSw); have hq := DX.out _ hSw; obtain ⟨⟨q0, q1, q2, q3⟩, r0, r1, r2, r3⟩ := hq; go_simp; try with_reducible rfl))
  try simp only [Act.put, sA, s0, s1]
  refine sy 4 9 rfl rfl ?_
  try simp only [Act.put, sA, s0, s1]
  refine sy 5 10 rfl rfl ?_
  try simp only [Act.put, sA, s0, s1]
  refine sy 6 11 rfl rfl ?_ (hy := by (intro w hSw; (try dsimp only at hSw); have hq := DX.out _ hSw; obtain ⟨⟨q0, q1, q2, q3⟩, r0, r1, r2, r3⟩ := hq; go_simp; try with_reducible rfl))
  try simp only [Act.put, sA, s0, s1]
  refine sy 8 13 rfl rfl ?_
  try simp only [Act.put, sA, s0, s1]
  refine sy 9 14 rfl rfl ?_ (hy := by (intro w hSw; (try dsimp only at hSw); have hq := DX.out _ hSw; obtain ⟨⟨q0, q1, q2, q3⟩, r0, r1, r2, r3⟩ := hq; go_simp; try with_reducible rfl))
  try simp only [Act.put, sA, s0, s1]
  refine wpAnyH_ready (rs := [7]) (by kernel_rfl) (by simp) ?_
  refine AllReadyH.cons rfl (fun K hK => ?_) AllReadyH.nil
  replace hK := Lib.hid hK
  go_simp
  refine (freff_any wd x.k x.m x.A x.l x.c e.b (XA.out.chg (XW.out _ hHeld) (by simp)) XB.out.1).mono ?_
  rintro r w5 ⟨A5, c5, rfl, h5⟩
  have O5 := Lib.hid h5.1.reads
  replace B2 := Lib.hid (h5.2.2.at_ B2.out (by simp))
  have D5 := Lib.hid (hHeld.trans (h5.2.2.mono (by simp)))
  clear h5 hHeld
  refine hK.out _ _ D5.out (fun hHeld => ?_)
  clear hK K
  try simp only [Act.put, sA, s0, s1]
  refine wpAnyH_ready (rs := [10]) (by kernel_rfl) (by simp) ?_
  refine AllReadyH.cons rfl (fun K hK => ?_) AllReadyH.nil
  replace hK := Lib.hid hK
  go_simp
  refine (freff_any w5 y.k y.m y.A y.l y.c f.b (YA.out.chg (XW.out _ hHeld) (by simp)) XB.out.2).mono ?_
  rintro r w6 ⟨A6, c6, rfl, h6⟩
  have O6 := Lib.hid h6.1.reads
  replace O5 := Lib.hid (O5.out.chg h6.2.2 (by simp))
  replace B2 := Lib.hid (h6.2.2.at_ B2.out (by simp))
  have D6 := Lib.hid (hHeld.trans (h6.2.2.mono (by simp)))
  clear h6 hHeld
  refine hK.out _ _ D6.out (fun hHeld => ?_)
  clear hK K
  try simp only [Act.put, sA, s0, s1]
  refine sy 11 16 rfl rfl ?_
  try simp only [Act.put, sA, s0, s1]
  refine wpAnyH_ready (rs := [12]) (by kernel_rfl) (by simp) ?_
  refine AllReadyH.cons rfl (fun K hK => ?_) AllReadyH.nil
  replace hK := Lib.hid hK
  rw [MX.out]
  have f0 := free_of B2.out 0
  have f1 := free_of B2.out 1
  have f2 := free_of B2.out 2
  have f3 := free_of B2.out 3
  have f4 := free_of B2.out 4
  have f5 := free_of B2.out 5
  have f6 := free_of B2.out 6
  have v0 := cell_of B2.out 0
  have v1 := cell_of B2.out 1
  have v2 := cell_of B2.out 2
  have v3 := cell_of B2.out 3
  have v4 := cell_of B2.out 4
  have v5 := cell_of B2.out 5
  have v6 := cell_of B2.out 6
  simp only [List.getElem?_toArray, List.getElem?_cons_succ, List.getElem?_cons_zero] at v0 v1 v2 v3 v4 v5 v6
  go_simp
  clear f0 v0 f1 v1 f2 v2 f3 v3 f4 v4 f5 v5 f6 v6
  obtain ⟨bk, ck⟩ := pr7_all (.string (strOf p)) (.int .i64 x.k) (.int .i64 x.m) (.slice A5 x.l c5) (.int .i64 y.k) (.int .i64 y.m) (.slice A6 y.l c6) B2.out
  obtain ⟨w7, hW⟩ : ∃ w9 : World, w9 = (((((((w6.setCell ⟨g2, 0, none⟩ (.string (strOf p))).setCell ⟨g2, 1, none⟩ (.int .i64 x.k)).setCell ⟨g2, 2, none⟩ (.int .i64 x.m)).setCell ⟨g2, 3, none⟩ (.slice A5 x.l c5)).setCell ⟨g2, 4, none⟩ (.int .i64 y.k)).setCell ⟨g2, 5, none⟩ (.int .i64 y.m)).setCell ⟨g2, 6, none⟩ (.slice A6 y.l c6)) := ⟨_, rfl⟩
  rw [← hW] at bk ck ⊢
  have XR : Hid (PrR w7 ⟨strOf p, x.k, x.m, A5, x.l, c5, y.k, y.m, A6, y.l, c6⟩ (prT p e f)) := Lib.hid ⟨rfl, XE.out.k, XE.out.m, XE.out.l, by have q := bs_pbox O5.out B2.out ck; rw [show x.l = e.b.length from XE.out.l]; exact q, YE.out.k, YE.out.m, YE.out.l, by have q := bs_pbox O6.out B2.out ck; rw [show y.l = f.b.length from YE.out.l]; exact q⟩
  have SD := Lib.hid (hHeld.trans ck)
  have C7 := Lib.hid (XW.out _ SD.out)
  have B7 := Lib.hid bk
  clear bk ck hW O5 O6 hHeld
  refine hK.out _ _ SD.out (fun hHeld => ?_)
  clear hK K
  try simp only [Act.put, sA, s0, s1]
  refine wpAnyH_done (by kernel_rfl) ?_ _
  clear hHeld
  have v0 := cell_of B7.out 0
  have v1 := cell_of B7.out 1
  have v2 := cell_of B7.out 2
  have v3 := cell_of B7.out 3
  have v4 := cell_of B7.out 4
  have v5 := cell_of B7.out 5
  have v6 := cell_of B7.out 6
  simp only [List.getElem?_toArray, List.getElem?_cons_succ, List.getElem?_cons_zero] at v0 v1 v2 v3 v4 v5 v6
  go_wp2
  refine bodyPost_ret (v := .agg #[.string (strOf p), .int .i64 x.k, .int .i64 x.m, .slice A5 x.l c5, .int .i64 y.k, .int .i64 y.m, .slice A6 y.l c6]) (by simp [results, Tryz.results61, go_sem, v0, v1, v2, v3, v4, v5, v6]) rfl ?_
  exact ⟨⟨strOf p, x.k, x.m, A5, x.l, c5, y.k, y.m, A6, y.l, c6⟩, rfl, XR.out, C7.out⟩
end
section
open Go.RowKit Go.Lib
set_option linter.unusedSimpArgs false
set_option linter.unusedVariables false

/-- The tail of a row of entries. -/
def subN (A : Option Addr) (c i : Nat) : Option Addr := if c = i then A else A.map (fun x => x.add (i * 4))
theorem rd_subN {w : World} {A : Option Addr} {c : Nat} {xs : List EnT} (h : RdK enTy w A xs.length xs) (hc : xs.length ≤ c) {i : Nat} (hi : i ≤ xs.length) : RdK enTy w (subN A c i) (xs.length - i) (xs.drop i) := by
  by_cases q : i < xs.length
  · obtain ⟨g, o, eA, _⟩ := h.line (by omega)
    subst eA
    have r := h.part i (xs.length - i) (by omega)
    rw [List.take_of_length_le (by simp)] at r
    unfold subN
    rw [if_neg (by omega)]
    have k4 : enTy.k = 4 := rfl
    rw [k4] at r
    by_cases z : i = 0
    · subst z
      simpa [Addr.add] using r
    · have z4 : ¬ i * 4 = 0 := by omega
      simpa only [Option.map_some, Addr.add, z4, if_false] using r
  · rw [show xs.length - i = 0 by omega, List.drop_of_length_le (by omega)]
    exact RdK.nil _ _
theorem drop_get {α : Type} {l l' : List α} {x : α} {i : Nat} (h : l.drop i = x :: l') : l[i]? = some x ∧ l.drop (i + 1) = l' := by
  have a : (l.drop i)[0]? = some x := by rw [h]; rfl
  have b : (l.drop i).drop 1 = l' := by rw [h]; rfl
  rw [List.getElem?_drop] at a
  rw [List.drop_drop] at b
  exact ⟨by simpa using a, b⟩
theorem walk_neg {es fs : List EnP} {i j : Nat} (h1 : es.Pairwise ltT) (h2 : fs.Pairwise ltT) (h : whoV (es.drop i) (fs.drop j) < 0) : ∃ e, es[i]? = some e ∧ walkL (es.drop i) (fs.drop j) = prT e.p e noT :: walkL (es.drop (i + 1)) (fs.drop j) := by
  have h1' : (es.drop i).Pairwise ltT := h1.sublist (List.drop_sublist _ _)
  have h2' : (fs.drop j).Pairwise ltT := h2.sublist (List.drop_sublist _ _)
  rcases hA : es.drop i with _ | ⟨e, a⟩
  · rw [hA] at h; exact absurd h (by simp [whoV])
  · obtain ⟨q1, q2⟩ := drop_get hA
    refine ⟨e, q1, ?_⟩
    rw [hA] at h h1'
    rw [q2]
    refine walk_left h1' ?_
    rcases hB : fs.drop j with _ | ⟨f, b⟩
    · simp
    · rw [hB] at h h2'
      exact heads_less h2' (cmpL_neg.1 h)
theorem walk_pos {es fs : List EnP} {i j : Nat} (h1 : es.Pairwise ltT) (h2 : fs.Pairwise ltT) (hn : i < es.length ∨ j < fs.length) (h : 0 < whoV (es.drop i) (fs.drop j)) : ∃ f, fs[j]? = some f ∧ walkL (es.drop i) (fs.drop j) = prT f.p noT f :: walkL (es.drop i) (fs.drop (j + 1)) := by
  have h1' : (es.drop i).Pairwise ltT := h1.sublist (List.drop_sublist _ _)
  have h2' : (fs.drop j).Pairwise ltT := h2.sublist (List.drop_sublist _ _)
  rcases hB : fs.drop j with _ | ⟨f, b⟩
  · rcases hA : es.drop i with _ | ⟨e, a⟩
    · have l1 := congrArg List.length hA
      have l2 := congrArg List.length hB
      simp at l1 l2
      omega
    · rw [hA, hB] at h; exact absurd h (by simp [whoV])
  · obtain ⟨q1, q2⟩ := drop_get hB
    refine ⟨f, q1, ?_⟩
    rw [hB] at h h2'
    rw [q2]
    refine walk_right h2' ?_
    rcases hA : es.drop i with _ | ⟨e, a⟩
    · simp
    · rw [hA] at h h1'
      refine heads_less h1' ?_
      have h : 0 < cmpL e.p f.p := h
      unfold cmpL at h
      split at h
      · exact absurd h (by decide)
      · split at h
        · assumption
        · exact absurd h (by decide)
theorem walk_zero {es fs : List EnP} {i j : Nat} (h1 : es.Pairwise ltT) (h2 : fs.Pairwise ltT) (h : whoV (es.drop i) (fs.drop j) = 0) : ∃ e f, es[i]? = some e ∧ fs[j]? = some f ∧ e.p = f.p ∧ walkL (es.drop i) (fs.drop j) = prT e.p e f :: walkL (es.drop (i + 1)) (fs.drop (j + 1)) := by
  have h1' : (es.drop i).Pairwise ltT := h1.sublist (List.drop_sublist _ _)
  have h2' : (fs.drop j).Pairwise ltT := h2.sublist (List.drop_sublist _ _)
  rcases hA : es.drop i with _ | ⟨e, a⟩
  · rw [hA] at h; exact absurd h (by simp [whoV])
  · rcases hB : fs.drop j with _ | ⟨f, b⟩
    · rw [hA, hB] at h; exact absurd h (by simp [whoV])
    · obtain ⟨q1, q2⟩ := drop_get hA
      obtain ⟨q3, q4⟩ := drop_get hB
      rw [hA, hB] at h
      rw [hA] at h1'
      rw [hB] at h2'
      have h : cmpL e.p f.p = 0 := h
      have he : e.p = f.p := by
        unfold cmpL at h
        split at h
        · exact absurd h (by decide)
        · rename_i n1
          split at h
          · exact absurd h (by decide)
          · rename_i n2
            rcases less_tri e.p f.p with q | q | q
            · exact q
            · exact absurd q n1
            · exact absurd q n2
      exact ⟨e, f, q1, q3, he, by rw [q2, q4]; exact walk_both h1' h2' he⟩
theorem noT_R (w : World) : EnR w ⟨⟨#[]⟩, 0, 0, none, 0, 0⟩ noT := ⟨rfl, rfl, rfl, rfl, ⟨rfl, fun j v hj => by simp [noT] at hj⟩⟩
set_option maxRecDepth 100000 in
set_option maxHeartbeats 16000000 in
/-- table.together of two trees. -/
theorem tbtog_any (w : World) (A B : Option Addr) (c d : Nat) (xs ys : List EnT) (es fs : List EnP) (h : RdK enTy w A xs.length xs) (h' : RdK enTy w B ys.length ys) (hx : EnsR w xs es) (hy : EnsR w ys fs) (hn : xs.length ≤ 100000 ∧ ys.length ≤ 100000 ∧ xs.length ≤ c ∧ ys.length ≤ d) (hsrt : es.Pairwise ltT ∧ fs.Pairwise ltT) (hs : (∀ e ∈ es, EnSm e ∧ e.p ≠ []) ∧ ∀ e ∈ fs, EnSm e ∧ e.p ≠ []) :
    Calls Tryz.prog 58 #[.slice A xs.length c, .slice B ys.length d, .func (.func 59) #[] #[], .func (.func 61) #[] #[]] w fun r w' => ∃ (A' : Option Addr) (c' : Nat) (us : List PrT), r = .returned (.slice A' us.length c') ∧ OwnK prTy w' A' c' us ∧ PrsR w' us (walkL es fs) ∧ (∀ a, A' = some a → w.heap.size ≤ a.block) ∧ Chg [] w w' := by
  obtain ⟨w1, hw, hc0, b0⟩ := news1 w (.cells #[.string ⟨#[]⟩, .int .i64 0, .int .i64 0, .slice none 0 0] 55)
  have W1 := Lib.hid hw
  obtain ⟨g0, hg0⟩ : ∃ g, w.heap.size = g := ⟨_, rfl⟩
  have G0 := Lib.hid hg0
  rw [hg0] at b0
  have DZ : Hid (∀ w', Chg [] w1 w' → w'.cell? ⟨g0, 0, none⟩ = some (.string ⟨#[]⟩) ∧ w'.cell? ⟨g0, 1, none⟩ = some (.int .i64 0) ∧ w'.cell? ⟨g0, 2, none⟩ = some (.int .i64 0) ∧ w'.cell? ⟨g0, 3, none⟩ = some (.slice none 0 0)) := Lib.hid (fun w' hc => by
    have q := hc.at_ b0 (by simp)
    exact ⟨cell_of q 0, cell_of q 1, cell_of q 2, cell_of q 3⟩)
  have HA := Lib.hid (h.chg hc0 (by simp))
  have HB := Lib.hid (h'.chg hc0 (by simp))
  have HX := Lib.hid (hx.chg hc0)
  have HY := Lib.hid (hy.chg hc0)
  have C0 := Lib.hid hc0
  have NA := Lib.hid hn
  have SRT := Lib.hid hsrt
  have SM := Lib.hid hs
  have XE : Hid (xs.length = es.length) := Lib.hid hx.1
  have YE : Hid (ys.length = fs.length) := Lib.hid hy.1
  clear hw hc0 b0 hg0 h h' hx hy hn hsrt hs
  go_enter Tryz.func58, Tryz.ntmps58
  go_wp2
  refine wp_scope_straight ?_
  go_wp2
  refine wp_label ?_
  go_wp2
  rw [← W1.out]
  try rw [G0.out]
  clear W1
  go_loopw [9, 11, 12] (fun v9 v11 v12 wr => ∃ (i j : Nat) (Ao : Option Addr) (co : Nat) (us : List PrT) (OUT : List PrP), i ≤ xs.length ∧ j ≤ ys.length ∧ v11 = .int .i64 (i : Int) ∧ v12 = .int .i64 (j : Int) ∧ v9 = .slice Ao us.length co ∧ Hid (us.length ≤ i + j) ∧ Hid (OUT ++ walkL (es.drop i) (fs.drop j) = walkL es fs) ∧ Hid (OwnK prTy wr Ao co us) ∧ Hid (PrsR wr us OUT) ∧ Hid (∀ a, Ao = some a → w1.heap.size ≤ a.block) ∧ Hid (Chg [] w1 wr)) (fun _ v11 v12 _ => xs.length + ys.length - ((RowKit.intOf v11).toNat + (RowKit.intOf v12).toNat))
  case atStart => exact ⟨0, 0, none, 0, [], [], Nat.zero_le _, Nat.zero_le _, rfl, rfl, rfl, Lib.hid (by simp), Lib.hid (by simp), OwnK.none_ _, Lib.hid (PrsR.nil _), Lib.hid (by simp), Chg.refl _ _⟩
  case round =>
    obtain ⟨i, j, Ao, co, us, OUT, hi, hj, rfl, rfl, rfl, UL, EQ, RO, RU, RN, RC⟩ := hrel
    have i0 : (0 : Int) ≤ (i : Int) := by omega
    have j0 : (0 : Int) ≤ (j : Int) := by omega
    have i3 : IntKind.i64.wrap ((i : Int) + 1) = (i : Int) + 1 := IntWalk.i64_in _ (by have := NA.out.1; omega)
    have j3 : IntKind.i64.wrap ((j : Int) + 1) = (j : Int) + 1 := IntWalk.i64_in _ (by have := NA.out.2.1; omega)
    have n1 : (i : Int) ≤ (xs.length : Int) := by omega
    have n2 : (xs.length : Int) ≤ (c : Int) := by have := NA.out.2.2.1; omega
    have n3 : (j : Int) ≤ (ys.length : Int) := by omega
    have n4 : (ys.length : Int) ≤ (d : Int) := by have := NA.out.2.2.2; omega
    have n5 : (i : Int) ≤ (c : Int) := by omega
    have n6 : (j : Int) ≤ (d : Int) := by omega
    obtain ⟨v, hv⟩ : ∃ v, whoV (es.drop i) (fs.drop j) = v := ⟨_, rfl⟩
    obtain ⟨AS, hAS⟩ : ∃ AS : Option Addr, (if c = i then A else A.map (fun x => x.add (i * 4))) = AS := ⟨_, rfl⟩
    obtain ⟨BS, hBS⟩ : ∃ BS : Option Addr, (if d = j then B else B.map (fun x => x.add (j * 4))) = BS := ⟨_, rfl⟩
    have WHO : Hid (∀ w', Chg [] w1 w' → Calls Tryz.prog 93 #[.slice AS (xs.length - i) (c - i), .slice BS (ys.length - j) (d - j), .func (.func 59) #[] #[]] w' fun r w2 => r = .returned (.int .i64 v) ∧ Chg [] w' w2) := Lib.hid (fun w' hc => by
      have q := tbwhose_any w' AS BS (c - i) (d - j) (xs.drop i) (ys.drop j) (es.drop i) (fs.drop j)
      rw [List.length_drop, List.length_drop, hv] at q
      refine q ?_ ?_ ((HX.out.chg hc).drop i) ((HY.out.chg hc).drop j) ⟨fun e he => (SM.out.1 e (List.mem_of_mem_drop he)).1.1, fun e he => (SM.out.2 e (List.mem_of_mem_drop he)).1.1⟩
      · rw [← hAS]; exact rd_subN (HA.out.chg hc (by simp)) NA.out.2.2.1 hi
      · rw [← hBS]; exact rd_subN (HB.out.chg hc (by simp)) NA.out.2.2.2 hj)
    have VV := Lib.hid hv
    clear hv
    by_cases hlt : i < xs.length
    · have i1 : (i : Int) < (xs.length : Int) := by omega
      have i2 : decide ((i : Int) < (xs.length : Int)) = true := decide_eq_true i1
      go_upto_region 5 with fail
      refine wp_region_held_drew (S := fun w' => Chg [] w1 w') (by kernel_rfl) (RC.out.trans (Chg.refl [] wr).drew) (fun hHeld => ?_)
      have RD : Hid (Chg [] wr wr.drew) := Lib.hid (Chg.refl [] wr).drew
      clear hHeld
      replace RO := Lib.hid (RO.out.chg RD.out (by simp))
      replace RU := Lib.hid (RU.out.chg RD.out)
      replace RC := Lib.hid (RC.out.trans RD.out)
      clear RD
      generalize wr.drew = wc at *
      refine sy 0 24 rfl rfl ?_ (hS := RC.out)
      try simp only [Act.put, sA, s0, s1]
      refine sy 1 25 rfl rfl ?_ (hS := RC.out)
      try simp only [Act.put, sA, s0, s1]
      refine sy 2 26 rfl rfl ?_ (hS := RC.out)
      try simp only [Act.put, sA, s0, s1]
      refine sy 3 27 rfl rfl ?_ (hS := RC.out)
      try simp only [Act.put, sA, s0, s1]
      refine sy 4 28 rfl rfl ?_ (hS := RC.out)
      try simp only [Act.put, sA, s0, s1]
      refine sy 5 29 rfl rfl ?_ (hS := RC.out)
      try simp only [Act.put, sA, s0, s1]
      refine sy 6 30 rfl rfl ?_ (hS := RC.out)
      try simp only [Act.put, sA, s0, s1]
      refine wpAnyH_ready (rs := [7]) (by kernel_rfl) (by simp) ?_
      refine AllReadyH.cons rfl (fun K hK => ?_) AllReadyH.nil
      replace hK := Lib.hid hK
      go_simp
      refine (WHO.out wc RC.out).mono ?_
      rintro r w5 ⟨rfl, hc⟩
      replace RO := Lib.hid (RO.out.chg hc (by simp))
      replace RU := Lib.hid (RU.out.chg hc)
      replace RC := Lib.hid (RC.out.trans hc)
      clear hc
      refine hK.out _ _ RC.out (fun hHeld => ?_)
      clear hK K
      try simp only [Act.put, sA, s0, s1]
      refine sy 8 13 rfl rfl ?_ (hS := RC.out)
      try simp only [Act.put, sA, s0, s1]
      refine wpAnyH_done (by kernel_rfl) ?_ _
      clear hHeld WHO
      rcases Int.lt_trichotomy v 0 with vn | vz | vp
      · skip
        have v1 : decide (v < 0) = true := decide_eq_true vn
        obtain ⟨e, he, hst⟩ := walk_neg SRT.out.1 SRT.out.2 (by rw [VV.out]; exact vn)
        have il : i < xs.length := by rw [XE.out]; exact (List.getElem?_eq_some_iff.1 he).1
        have i1' : (i : Int) < (xs.length : Int) := by omega
        obtain ⟨gA, oA, eA, _⟩ := HA.out.line (by omega)
        subst eA
        obtain ⟨x, e', ex, ee, rx⟩ := HX.out.at_ il
        obtain rfl : e = e' := by rw [he] at ee; exact Option.some.inj ee
        have RX := Lib.hid rx
        have SE := Lib.hid (SM.out.1 _ (List.mem_of_getElem? he))
        have DX : Hid (∀ w', Chg [] w1 w' → w'.cell? ⟨gA, oA + i * 4, none⟩ = some (.string x.p) ∧ w'.cell? ⟨gA, oA + i * 4 + 1, none⟩ = some (.int .i64 x.k) ∧ w'.cell? ⟨gA, oA + i * 4 + 2, none⟩ = some (.int .i64 x.m) ∧ w'.cell? ⟨gA, oA + i * 4 + 3, none⟩ = some (.slice x.A x.l x.c)) := Lib.hid (fun w' hc => enCells (HA.out.chg hc (by simp)) ex)
        clear ee rx he ex il hAS
        have STP := Lib.hid hst
        clear hst
        go_upto_region 7 with fail
        refine wp_region_held_drew (S := fun w' => Chg [] w1 w') (by kernel_rfl) (RC.out.trans (Chg.refl [] w5).drew) (fun hHeld => ?_)
        have RD : Hid (Chg [] w5 w5.drew) := Lib.hid (Chg.refl [] w5).drew
        clear hHeld
        replace RO := Lib.hid (RO.out.chg RD.out (by simp))
        replace RU := Lib.hid (RU.out.chg RD.out)
        replace RC := Lib.hid (RC.out.trans RD.out)
        clear RD
        generalize w5.drew = wd at *
        refine sy 0 35 rfl rfl ?_ (hS := RC.out)
        try simp only [Act.put, sA, s0, s1]
        refine sy 1 36 rfl rfl ?_ (hS := RC.out)
        try simp only [Act.put, sA, s0, s1]
        refine sy 2 37 rfl rfl ?_ (hS := RC.out)
        try simp only [Act.put, sA, s0, s1]
        refine sy 3 38 rfl rfl ?_ (hS := RC.out)
        try simp only [Act.put, sA, s0, s1]
        refine sy 4 39 rfl rfl ?_ (hS := RC.out)
        try simp only [Act.put, sA, s0, s1]
        refine sy 5 40 rfl rfl ?_ (hS := RC.out) (hy := by (intro w hSw; (try dsimp only at hSw); have hq := DX.out _ hSw; obtain ⟨q0, q1, q2, q3⟩ := hq; go_simp; try with_reducible rfl))
        try simp only [Act.put, sA, s0, s1]
        refine sy 6 41 rfl rfl ?_ (hS := RC.out) (hy := by (intro w hSw; (try dsimp only at hSw); have hz := DZ.out _ hSw; obtain ⟨z0, z1, z2, z3⟩ := hz; go_simp; try with_reducible rfl))
        try simp only [Act.put, sA, s0, s1]
        refine wpAnyH_ready (rs := [7]) (by kernel_rfl) (by simp) ?_
        refine AllReadyH.cons rfl (fun K hK => ?_) AllReadyH.nil
        replace hK := Lib.hid hK
        go_simp
        refine (tbpair_any wd x ⟨⟨#[]⟩, 0, 0, none, 0, 0⟩ e noT e.p (RX.out.chg RC.out) (noT_R wd) ⟨SE.out.1.2, by unfold noT; simp⟩ (maxS_left e.p)).mono ?_
        rintro r w6 ⟨X, rfl, xr, hc⟩
        have XR := Lib.hid xr
        replace RO := Lib.hid (RO.out.chg hc (by simp))
        replace RU := Lib.hid (RU.out.chg hc)
        replace RC := Lib.hid (RC.out.trans hc)
        clear xr hc
        refine hK.out _ _ RC.out (fun hHeld => ?_)
        clear hK K
        try simp only [Act.put, sA, s0, s1]
        refine wpAnyH_ready (rs := [8]) (by kernel_rfl) (by simp) ?_
        refine AllReadyH.cons rfl (fun K hK => ?_) AllReadyH.nil
        replace hK := Lib.hid hK
        go_simp
        obtain ⟨w7, hw, hc, b3⟩ := news1 w6 (.cells #[.string X.p, .int .i64 X.k, .int .i64 X.m, .slice X.A X.l X.c, .int .i64 X.k2, .int .i64 X.m2, .slice X.B X.bl X.bc] 50)
        rw [← hw]
        have R3 := Lib.hid (rd_onePr b3)
        replace RO := Lib.hid (RO.out.chg hc (by simp))
        replace RU := Lib.hid (RU.out.chg hc)
        replace RC := Lib.hid (RC.out.trans hc)
        replace XR := Lib.hid (XR.out.chg hc)
        clear hw hc b3 hHeld
        refine hK.out _ _ RC.out (fun hHeld => ?_)
        clear hK K
        try simp only [Act.put, sA, s0, s1]
        refine wpAnyH_ready (rs := [9]) (by kernel_rfl) (by simp) ?_
        refine AllReadyH.cons rfl (fun K hK => ?_) AllReadyH.nil
        replace hK := Lib.hid hK
        have N4 : Hid ((us.length + 1) * 400 ≤ 140737488355327) := Lib.hid (by have := UL.out; have := NA.out; omega)
        refine step_appK (R := prTy) rfl (.tmp 35) (.tmp 43) rfl rfl (A := Ao) (B := some ⟨w6.heap.size, 0, none⟩) (n := us.length) (m := 1) (c := co) (d := 1) (xs := us) (ys := [X]) RO.out rfl rfl R3.out N4.out ?_
        intro A7 c7 w8 o7 g7 e7
        have O7 := Lib.hid o7
        have F7 := Lib.hid (fresh_appN RN.out RC.out g7 e7)
        have G7 := Lib.hid g7
        clear o7 g7 e7 hHeld
        refine hK.out _ _ F7.out.2 (fun hHeld => ?_)
        clear hK K
        try simp only [Act.put, sA, s0, s1]
        refine sy 10 9 rfl rfl ?_ (hS := F7.out.2)
        try simp only [Act.put, sA, s0, s1]
        refine wpAnyH_done (by kernel_rfl) ?_ _
        clear hHeld
        have CG : Hid (Chg (blkOf Ao) w7 w8) := Lib.hid ((Chg.refl (blkOf Ao) w7).grown G7.out (fun i hi => by
          cases Ao with
          | none => simp at hi
          | some a => simp at hi; subst hi; exact .inl (mem_blkOf rfl)))
        have RU8 : Hid (PrsR w8 (us ++ [X]) (OUT ++ [prT e.p e noT])) := Lib.hid ((RU.out.row RO.out CG.out).snoc (XR.out.row RO.out CG.out))
        have EQ8 : Hid ((OUT ++ [prT e.p e noT]) ++ walkL (es.drop (i + 1)) (fs.drop (j)) = walkL es fs) := Lib.hid (by
          rw [← EQ.out, STP.out, List.append_assoc]
          rfl)
        have UL8 : Hid ((us ++ [X]).length ≤ (i + 1) + (j)) := Lib.hid (by have := UL.out; simp; omega)
        clear CG G7 RO RU EQ UL XR R3 N4
        go_wp2
        go_round
        case rel => exact ⟨i + 1, j, A7, c7, us ++ [X], OUT ++ [prT e.p e noT], by omega, by omega, by go_num, by go_num, by simp, UL8, EQ8, O7, RU8, Lib.hid F7.out.1, F7.out.2⟩
        case measure => simp [RowKit.intOf]; omega
      · skip
        have v1 : ¬ v < 0 := by omega
        have v2 : ¬ 0 < v := by omega
        have v3 : ¬ v > 0 := by omega
        obtain ⟨e, f, he, hf, hpe, hst⟩ := walk_zero SRT.out.1 SRT.out.2 (by rw [VV.out]; exact vz)
        have PE := Lib.hid hpe
        clear hpe
        have il : i < xs.length := by rw [XE.out]; exact (List.getElem?_eq_some_iff.1 he).1
        have i1' : (i : Int) < (xs.length : Int) := by omega
        obtain ⟨gA, oA, eA, _⟩ := HA.out.line (by omega)
        subst eA
        obtain ⟨x, e', ex, ee, rx⟩ := HX.out.at_ il
        obtain rfl : e = e' := by rw [he] at ee; exact Option.some.inj ee
        have RX := Lib.hid rx
        have SE := Lib.hid (SM.out.1 _ (List.mem_of_getElem? he))
        have DX : Hid (∀ w', Chg [] w1 w' → w'.cell? ⟨gA, oA + i * 4, none⟩ = some (.string x.p) ∧ w'.cell? ⟨gA, oA + i * 4 + 1, none⟩ = some (.int .i64 x.k) ∧ w'.cell? ⟨gA, oA + i * 4 + 2, none⟩ = some (.int .i64 x.m) ∧ w'.cell? ⟨gA, oA + i * 4 + 3, none⟩ = some (.slice x.A x.l x.c)) := Lib.hid (fun w' hc => enCells (HA.out.chg hc (by simp)) ex)
        clear ee rx he ex il hAS
        have jl : j < ys.length := by rw [YE.out]; exact (List.getElem?_eq_some_iff.1 hf).1
        have j1' : (j : Int) < (ys.length : Int) := by omega
        obtain ⟨gB, oB, eB, _⟩ := HB.out.line (by omega)
        subst eB
        obtain ⟨y, f', ey, ef, ry⟩ := HY.out.at_ jl
        obtain rfl : f = f' := by rw [hf] at ef; exact Option.some.inj ef
        have RY := Lib.hid ry
        have SF := Lib.hid (SM.out.2 _ (List.mem_of_getElem? hf))
        have DY : Hid (∀ w', Chg [] w1 w' → w'.cell? ⟨gB, oB + j * 4, none⟩ = some (.string y.p) ∧ w'.cell? ⟨gB, oB + j * 4 + 1, none⟩ = some (.int .i64 y.k) ∧ w'.cell? ⟨gB, oB + j * 4 + 2, none⟩ = some (.int .i64 y.m) ∧ w'.cell? ⟨gB, oB + j * 4 + 3, none⟩ = some (.slice y.A y.l y.c)) := Lib.hid (fun w' hc => enCells (HB.out.chg hc (by simp)) ey)
        clear ef ry hf ey jl hBS
        have STP := Lib.hid hst
        clear hst
        go_upto_region 12 with fail
        refine wp_region_held_drew (S := fun w' => Chg [] w1 w') (by kernel_rfl) (RC.out.trans (Chg.refl [] w5).drew) (fun hHeld => ?_)
        have RD : Hid (Chg [] w5 w5.drew) := Lib.hid (Chg.refl [] w5).drew
        clear hHeld
        replace RO := Lib.hid (RO.out.chg RD.out (by simp))
        replace RU := Lib.hid (RU.out.chg RD.out)
        replace RC := Lib.hid (RC.out.trans RD.out)
        clear RD
        generalize w5.drew = wd at *
        refine sy 0 62 rfl rfl ?_ (hS := RC.out)
        try simp only [Act.put, sA, s0, s1]
        refine sy 1 63 rfl rfl ?_ (hS := RC.out)
        try simp only [Act.put, sA, s0, s1]
        refine sy 2 64 rfl rfl ?_ (hS := RC.out)
        try simp only [Act.put, sA, s0, s1]
        refine sy 3 65 rfl rfl ?_ (hS := RC.out)
        try simp only [Act.put, sA, s0, s1]
        refine sy 4 66 rfl rfl ?_ (hS := RC.out)
        try simp only [Act.put, sA, s0, s1]
        refine sy 5 67 rfl rfl ?_ (hS := RC.out) (hy := by (intro w hSw; (try dsimp only at hSw); have hq := DX.out _ hSw; obtain ⟨q0, q1, q2, q3⟩ := hq; go_simp; try with_reducible rfl))
        try simp only [Act.put, sA, s0, s1]
        refine sy 6 68 rfl rfl ?_ (hS := RC.out)
        try simp only [Act.put, sA, s0, s1]
        refine sy 7 69 rfl rfl ?_ (hS := RC.out)
        try simp only [Act.put, sA, s0, s1]
        refine sy 8 70 rfl rfl ?_ (hS := RC.out)
        try simp only [Act.put, sA, s0, s1]
        refine sy 9 71 rfl rfl ?_ (hS := RC.out) (hy := by (intro w hSw; (try dsimp only at hSw); have hr := DY.out _ hSw; obtain ⟨r0, r1, r2, r3⟩ := hr; go_simp; try with_reducible rfl))
        try simp only [Act.put, sA, s0, s1]
        refine wpAnyH_ready (rs := [10]) (by kernel_rfl) (by simp) ?_
        refine AllReadyH.cons rfl (fun K hK => ?_) AllReadyH.nil
        replace hK := Lib.hid hK
        go_simp
        refine (tbpair_any wd x y e f e.p (RX.out.chg RC.out) (RY.out.chg RC.out) ⟨SE.out.1.2, SF.out.1.2⟩ (by rw [← PE.out]; exact maxS_self e.p)).mono ?_
        rintro r w6 ⟨X, rfl, xr, hc⟩
        have XR := Lib.hid xr
        replace RO := Lib.hid (RO.out.chg hc (by simp))
        replace RU := Lib.hid (RU.out.chg hc)
        replace RC := Lib.hid (RC.out.trans hc)
        clear xr hc
        refine hK.out _ _ RC.out (fun hHeld => ?_)
        clear hK K
        try simp only [Act.put, sA, s0, s1]
        refine wpAnyH_ready (rs := [11]) (by kernel_rfl) (by simp) ?_
        refine AllReadyH.cons rfl (fun K hK => ?_) AllReadyH.nil
        replace hK := Lib.hid hK
        go_simp
        obtain ⟨w7, hw, hc, b3⟩ := news1 w6 (.cells #[.string X.p, .int .i64 X.k, .int .i64 X.m, .slice X.A X.l X.c, .int .i64 X.k2, .int .i64 X.m2, .slice X.B X.bl X.bc] 50)
        rw [← hw]
        have R3 := Lib.hid (rd_onePr b3)
        replace RO := Lib.hid (RO.out.chg hc (by simp))
        replace RU := Lib.hid (RU.out.chg hc)
        replace RC := Lib.hid (RC.out.trans hc)
        replace XR := Lib.hid (XR.out.chg hc)
        clear hw hc b3 hHeld
        refine hK.out _ _ RC.out (fun hHeld => ?_)
        clear hK K
        try simp only [Act.put, sA, s0, s1]
        refine wpAnyH_ready (rs := [12]) (by kernel_rfl) (by simp) ?_
        refine AllReadyH.cons rfl (fun K hK => ?_) AllReadyH.nil
        replace hK := Lib.hid hK
        have N4 : Hid ((us.length + 1) * 400 ≤ 140737488355327) := Lib.hid (by have := UL.out; have := NA.out; omega)
        refine step_appK (R := prTy) rfl (.tmp 62) (.tmp 73) rfl rfl (A := Ao) (B := some ⟨w6.heap.size, 0, none⟩) (n := us.length) (m := 1) (c := co) (d := 1) (xs := us) (ys := [X]) RO.out rfl rfl R3.out N4.out ?_
        intro A7 c7 w8 o7 g7 e7
        have O7 := Lib.hid o7
        have F7 := Lib.hid (fresh_appN RN.out RC.out g7 e7)
        have G7 := Lib.hid g7
        clear o7 g7 e7 hHeld
        refine hK.out _ _ F7.out.2 (fun hHeld => ?_)
        clear hK K
        try simp only [Act.put, sA, s0, s1]
        refine sy 13 9 rfl rfl ?_ (hS := F7.out.2)
        try simp only [Act.put, sA, s0, s1]
        refine wpAnyH_done (by kernel_rfl) ?_ _
        clear hHeld
        have CG : Hid (Chg (blkOf Ao) w7 w8) := Lib.hid ((Chg.refl (blkOf Ao) w7).grown G7.out (fun i hi => by
          cases Ao with
          | none => simp at hi
          | some a => simp at hi; subst hi; exact .inl (mem_blkOf rfl)))
        have RU8 : Hid (PrsR w8 (us ++ [X]) (OUT ++ [prT e.p e f])) := Lib.hid ((RU.out.row RO.out CG.out).snoc (XR.out.row RO.out CG.out))
        have EQ8 : Hid ((OUT ++ [prT e.p e f]) ++ walkL (es.drop (i + 1)) (fs.drop (j + 1)) = walkL es fs) := Lib.hid (by
          rw [← EQ.out, STP.out, List.append_assoc]
          rfl)
        have UL8 : Hid ((us ++ [X]).length ≤ (i + 1) + (j + 1)) := Lib.hid (by have := UL.out; simp; omega)
        clear CG G7 RO RU EQ UL XR R3 N4
        go_wp2
        go_round
        case rel => exact ⟨i + 1, j + 1, A7, c7, us ++ [X], OUT ++ [prT e.p e f], by omega, by omega, by go_num, by go_num, by simp, UL8, EQ8, O7, RU8, Lib.hid F7.out.1, F7.out.2⟩
        case measure => simp [RowKit.intOf]; omega
      · skip
        have v1 : ¬ v < 0 := by omega
        have v3 : v > 0 := vp
        obtain ⟨f, hf, hst⟩ := walk_pos SRT.out.1 SRT.out.2 (.inl (by rw [← XE.out]; exact hlt)) (by rw [VV.out]; exact vp)
        have jl : j < ys.length := by rw [YE.out]; exact (List.getElem?_eq_some_iff.1 hf).1
        have j1' : (j : Int) < (ys.length : Int) := by omega
        obtain ⟨gB, oB, eB, _⟩ := HB.out.line (by omega)
        subst eB
        obtain ⟨y, f', ey, ef, ry⟩ := HY.out.at_ jl
        obtain rfl : f = f' := by rw [hf] at ef; exact Option.some.inj ef
        have RY := Lib.hid ry
        have SF := Lib.hid (SM.out.2 _ (List.mem_of_getElem? hf))
        have DY : Hid (∀ w', Chg [] w1 w' → w'.cell? ⟨gB, oB + j * 4, none⟩ = some (.string y.p) ∧ w'.cell? ⟨gB, oB + j * 4 + 1, none⟩ = some (.int .i64 y.k) ∧ w'.cell? ⟨gB, oB + j * 4 + 2, none⟩ = some (.int .i64 y.m) ∧ w'.cell? ⟨gB, oB + j * 4 + 3, none⟩ = some (.slice y.A y.l y.c)) := Lib.hid (fun w' hc => enCells (HB.out.chg hc (by simp)) ey)
        clear ef ry hf ey jl hBS
        have STP := Lib.hid hst
        clear hst
        go_upto_region 10 with fail
        refine wp_region_held_drew (S := fun w' => Chg [] w1 w') (by kernel_rfl) (RC.out.trans (Chg.refl [] w5).drew) (fun hHeld => ?_)
        have RD : Hid (Chg [] w5 w5.drew) := Lib.hid (Chg.refl [] w5).drew
        clear hHeld
        replace RO := Lib.hid (RO.out.chg RD.out (by simp))
        replace RU := Lib.hid (RU.out.chg RD.out)
        replace RC := Lib.hid (RC.out.trans RD.out)
        clear RD
        generalize w5.drew = wd at *
        refine sy 0 50 rfl rfl ?_ (hS := RC.out)
        try simp only [Act.put, sA, s0, s1]
        refine sy 1 51 rfl rfl ?_ (hS := RC.out)
        try simp only [Act.put, sA, s0, s1]
        refine sy 2 52 rfl rfl ?_ (hS := RC.out) (hy := by (intro w hSw; (try dsimp only at hSw); have hz := DZ.out _ hSw; obtain ⟨z0, z1, z2, z3⟩ := hz; go_simp; try with_reducible rfl))
        try simp only [Act.put, sA, s0, s1]
        refine sy 3 53 rfl rfl ?_ (hS := RC.out)
        try simp only [Act.put, sA, s0, s1]
        refine sy 4 54 rfl rfl ?_ (hS := RC.out)
        try simp only [Act.put, sA, s0, s1]
        refine sy 5 55 rfl rfl ?_ (hS := RC.out)
        try simp only [Act.put, sA, s0, s1]
        refine sy 6 56 rfl rfl ?_ (hS := RC.out) (hy := by (intro w hSw; (try dsimp only at hSw); have hr := DY.out _ hSw; obtain ⟨r0, r1, r2, r3⟩ := hr; go_simp; try with_reducible rfl))
        try simp only [Act.put, sA, s0, s1]
        refine wpAnyH_ready (rs := [7]) (by kernel_rfl) (by simp) ?_
        refine AllReadyH.cons rfl (fun K hK => ?_) AllReadyH.nil
        replace hK := Lib.hid hK
        go_simp
        refine (tbpair_any wd ⟨⟨#[]⟩, 0, 0, none, 0, 0⟩ y noT f f.p (noT_R wd) (RY.out.chg RC.out) ⟨by unfold noT; simp, SF.out.1.2⟩ (maxS_right SF.out.2)).mono ?_
        rintro r w6 ⟨X, rfl, xr, hc⟩
        have XR := Lib.hid xr
        replace RO := Lib.hid (RO.out.chg hc (by simp))
        replace RU := Lib.hid (RU.out.chg hc)
        replace RC := Lib.hid (RC.out.trans hc)
        clear xr hc
        refine hK.out _ _ RC.out (fun hHeld => ?_)
        clear hK K
        try simp only [Act.put, sA, s0, s1]
        refine wpAnyH_ready (rs := [8]) (by kernel_rfl) (by simp) ?_
        refine AllReadyH.cons rfl (fun K hK => ?_) AllReadyH.nil
        replace hK := Lib.hid hK
        go_simp
        obtain ⟨w7, hw, hc, b3⟩ := news1 w6 (.cells #[.string X.p, .int .i64 X.k, .int .i64 X.m, .slice X.A X.l X.c, .int .i64 X.k2, .int .i64 X.m2, .slice X.B X.bl X.bc] 50)
        rw [← hw]
        have R3 := Lib.hid (rd_onePr b3)
        replace RO := Lib.hid (RO.out.chg hc (by simp))
        replace RU := Lib.hid (RU.out.chg hc)
        replace RC := Lib.hid (RC.out.trans hc)
        replace XR := Lib.hid (XR.out.chg hc)
        clear hw hc b3 hHeld
        refine hK.out _ _ RC.out (fun hHeld => ?_)
        clear hK K
        try simp only [Act.put, sA, s0, s1]
        refine wpAnyH_ready (rs := [9]) (by kernel_rfl) (by simp) ?_
        refine AllReadyH.cons rfl (fun K hK => ?_) AllReadyH.nil
        replace hK := Lib.hid hK
        have N4 : Hid ((us.length + 1) * 400 ≤ 140737488355327) := Lib.hid (by have := UL.out; have := NA.out; omega)
        refine step_appK (R := prTy) rfl (.tmp 50) (.tmp 58) rfl rfl (A := Ao) (B := some ⟨w6.heap.size, 0, none⟩) (n := us.length) (m := 1) (c := co) (d := 1) (xs := us) (ys := [X]) RO.out rfl rfl R3.out N4.out ?_
        intro A7 c7 w8 o7 g7 e7
        have O7 := Lib.hid o7
        have F7 := Lib.hid (fresh_appN RN.out RC.out g7 e7)
        have G7 := Lib.hid g7
        clear o7 g7 e7 hHeld
        refine hK.out _ _ F7.out.2 (fun hHeld => ?_)
        clear hK K
        try simp only [Act.put, sA, s0, s1]
        refine sy 10 9 rfl rfl ?_ (hS := F7.out.2)
        try simp only [Act.put, sA, s0, s1]
        refine wpAnyH_done (by kernel_rfl) ?_ _
        clear hHeld
        have CG : Hid (Chg (blkOf Ao) w7 w8) := Lib.hid ((Chg.refl (blkOf Ao) w7).grown G7.out (fun i hi => by
          cases Ao with
          | none => simp at hi
          | some a => simp at hi; subst hi; exact .inl (mem_blkOf rfl)))
        have RU8 : Hid (PrsR w8 (us ++ [X]) (OUT ++ [prT f.p noT f])) := Lib.hid ((RU.out.row RO.out CG.out).snoc (XR.out.row RO.out CG.out))
        have EQ8 : Hid ((OUT ++ [prT f.p noT f]) ++ walkL (es.drop (i)) (fs.drop (j + 1)) = walkL es fs) := Lib.hid (by
          rw [← EQ.out, STP.out, List.append_assoc]
          rfl)
        have UL8 : Hid ((us ++ [X]).length ≤ (i) + (j + 1)) := Lib.hid (by have := UL.out; simp; omega)
        clear CG G7 RO RU EQ UL XR R3 N4
        go_wp2
        go_round
        case rel => exact ⟨i, j + 1, A7, c7, us ++ [X], OUT ++ [prT f.p noT f], by omega, by omega, by go_num, by go_num, by simp, UL8, EQ8, O7, RU8, Lib.hid F7.out.1, F7.out.2⟩
        case measure => simp [RowKit.intOf]; omega
    · have IE : Hid (i = xs.length) := Lib.hid (by omega)
      have i1 : ¬ (i : Int) < (xs.length : Int) := by omega
      have i2 : decide ((i : Int) < (xs.length : Int)) = false := decide_eq_false i1
      by_cases hjt : j < ys.length
      · have j1 : (j : Int) < (ys.length : Int) := by omega
        have j2 : decide ((j : Int) < (ys.length : Int)) = true := decide_eq_true j1
        have vp : 0 < v := by rw [← VV.out, List.drop_of_length_le (by rw [← XE.out, IE.out]; exact Nat.le_refl _)]; exact Int.zero_lt_one
        go_upto_region 5 with fail
        refine wp_region_held_drew (S := fun w' => Chg [] w1 w') (by kernel_rfl) (RC.out.trans (Chg.refl [] wr).drew) (fun hHeld => ?_)
        have RD : Hid (Chg [] wr wr.drew) := Lib.hid (Chg.refl [] wr).drew
        clear hHeld
        replace RO := Lib.hid (RO.out.chg RD.out (by simp))
        replace RU := Lib.hid (RU.out.chg RD.out)
        replace RC := Lib.hid (RC.out.trans RD.out)
        clear RD
        generalize wr.drew = wc at *
        refine sy 0 24 rfl rfl ?_ (hS := RC.out)
        try simp only [Act.put, sA, s0, s1]
        refine sy 1 25 rfl rfl ?_ (hS := RC.out)
        try simp only [Act.put, sA, s0, s1]
        refine sy 2 26 rfl rfl ?_ (hS := RC.out)
        try simp only [Act.put, sA, s0, s1]
        refine sy 3 27 rfl rfl ?_ (hS := RC.out)
        try simp only [Act.put, sA, s0, s1]
        refine sy 4 28 rfl rfl ?_ (hS := RC.out)
        try simp only [Act.put, sA, s0, s1]
        refine sy 5 29 rfl rfl ?_ (hS := RC.out)
        try simp only [Act.put, sA, s0, s1]
        refine sy 6 30 rfl rfl ?_ (hS := RC.out)
        try simp only [Act.put, sA, s0, s1]
        refine wpAnyH_ready (rs := [7]) (by kernel_rfl) (by simp) ?_
        refine AllReadyH.cons rfl (fun K hK => ?_) AllReadyH.nil
        replace hK := Lib.hid hK
        go_simp
        refine (WHO.out wc RC.out).mono ?_
        rintro r w5 ⟨rfl, hc⟩
        replace RO := Lib.hid (RO.out.chg hc (by simp))
        replace RU := Lib.hid (RU.out.chg hc)
        replace RC := Lib.hid (RC.out.trans hc)
        clear hc
        refine hK.out _ _ RC.out (fun hHeld => ?_)
        clear hK K
        try simp only [Act.put, sA, s0, s1]
        refine sy 8 13 rfl rfl ?_ (hS := RC.out)
        try simp only [Act.put, sA, s0, s1]
        refine wpAnyH_done (by kernel_rfl) ?_ _
        clear hHeld WHO
        have v1 : ¬ v < 0 := by omega
        have v3 : v > 0 := vp
        obtain ⟨f, hf, hst⟩ := walk_pos SRT.out.1 SRT.out.2 (.inr (by rw [← YE.out]; exact hjt)) (by rw [VV.out]; exact vp)
        have jl : j < ys.length := by rw [YE.out]; exact (List.getElem?_eq_some_iff.1 hf).1
        have j1' : (j : Int) < (ys.length : Int) := by omega
        obtain ⟨gB, oB, eB, _⟩ := HB.out.line (by omega)
        subst eB
        obtain ⟨y, f', ey, ef, ry⟩ := HY.out.at_ jl
        obtain rfl : f = f' := by rw [hf] at ef; exact Option.some.inj ef
        have RY := Lib.hid ry
        have SF := Lib.hid (SM.out.2 _ (List.mem_of_getElem? hf))
        have DY : Hid (∀ w', Chg [] w1 w' → w'.cell? ⟨gB, oB + j * 4, none⟩ = some (.string y.p) ∧ w'.cell? ⟨gB, oB + j * 4 + 1, none⟩ = some (.int .i64 y.k) ∧ w'.cell? ⟨gB, oB + j * 4 + 2, none⟩ = some (.int .i64 y.m) ∧ w'.cell? ⟨gB, oB + j * 4 + 3, none⟩ = some (.slice y.A y.l y.c)) := Lib.hid (fun w' hc => enCells (HB.out.chg hc (by simp)) ey)
        clear ef ry hf ey jl hBS
        have STP := Lib.hid hst
        clear hst
        go_upto_region 10 with fail
        refine wp_region_held_drew (S := fun w' => Chg [] w1 w') (by kernel_rfl) (RC.out.trans (Chg.refl [] w5).drew) (fun hHeld => ?_)
        have RD : Hid (Chg [] w5 w5.drew) := Lib.hid (Chg.refl [] w5).drew
        clear hHeld
        replace RO := Lib.hid (RO.out.chg RD.out (by simp))
        replace RU := Lib.hid (RU.out.chg RD.out)
        replace RC := Lib.hid (RC.out.trans RD.out)
        clear RD
        generalize w5.drew = wd at *
        refine sy 0 50 rfl rfl ?_ (hS := RC.out)
        try simp only [Act.put, sA, s0, s1]
        refine sy 1 51 rfl rfl ?_ (hS := RC.out)
        try simp only [Act.put, sA, s0, s1]
        refine sy 2 52 rfl rfl ?_ (hS := RC.out) (hy := by (intro w hSw; (try dsimp only at hSw); have hz := DZ.out _ hSw; obtain ⟨z0, z1, z2, z3⟩ := hz; go_simp; try with_reducible rfl))
        try simp only [Act.put, sA, s0, s1]
        refine sy 3 53 rfl rfl ?_ (hS := RC.out)
        try simp only [Act.put, sA, s0, s1]
        refine sy 4 54 rfl rfl ?_ (hS := RC.out)
        try simp only [Act.put, sA, s0, s1]
        refine sy 5 55 rfl rfl ?_ (hS := RC.out)
        try simp only [Act.put, sA, s0, s1]
        refine sy 6 56 rfl rfl ?_ (hS := RC.out) (hy := by (intro w hSw; (try dsimp only at hSw); have hr := DY.out _ hSw; obtain ⟨r0, r1, r2, r3⟩ := hr; go_simp; try with_reducible rfl))
        try simp only [Act.put, sA, s0, s1]
        refine wpAnyH_ready (rs := [7]) (by kernel_rfl) (by simp) ?_
        refine AllReadyH.cons rfl (fun K hK => ?_) AllReadyH.nil
        replace hK := Lib.hid hK
        go_simp
        refine (tbpair_any wd ⟨⟨#[]⟩, 0, 0, none, 0, 0⟩ y noT f f.p (noT_R wd) (RY.out.chg RC.out) ⟨by unfold noT; simp, SF.out.1.2⟩ (maxS_right SF.out.2)).mono ?_
        rintro r w6 ⟨X, rfl, xr, hc⟩
        have XR := Lib.hid xr
        replace RO := Lib.hid (RO.out.chg hc (by simp))
        replace RU := Lib.hid (RU.out.chg hc)
        replace RC := Lib.hid (RC.out.trans hc)
        clear xr hc
        refine hK.out _ _ RC.out (fun hHeld => ?_)
        clear hK K
        try simp only [Act.put, sA, s0, s1]
        refine wpAnyH_ready (rs := [8]) (by kernel_rfl) (by simp) ?_
        refine AllReadyH.cons rfl (fun K hK => ?_) AllReadyH.nil
        replace hK := Lib.hid hK
        go_simp
        obtain ⟨w7, hw, hc, b3⟩ := news1 w6 (.cells #[.string X.p, .int .i64 X.k, .int .i64 X.m, .slice X.A X.l X.c, .int .i64 X.k2, .int .i64 X.m2, .slice X.B X.bl X.bc] 50)
        rw [← hw]
        have R3 := Lib.hid (rd_onePr b3)
        replace RO := Lib.hid (RO.out.chg hc (by simp))
        replace RU := Lib.hid (RU.out.chg hc)
        replace RC := Lib.hid (RC.out.trans hc)
        replace XR := Lib.hid (XR.out.chg hc)
        clear hw hc b3 hHeld
        refine hK.out _ _ RC.out (fun hHeld => ?_)
        clear hK K
        try simp only [Act.put, sA, s0, s1]
        refine wpAnyH_ready (rs := [9]) (by kernel_rfl) (by simp) ?_
        refine AllReadyH.cons rfl (fun K hK => ?_) AllReadyH.nil
        replace hK := Lib.hid hK
        have N4 : Hid ((us.length + 1) * 400 ≤ 140737488355327) := Lib.hid (by have := UL.out; have := NA.out; omega)
        refine step_appK (R := prTy) rfl (.tmp 50) (.tmp 58) rfl rfl (A := Ao) (B := some ⟨w6.heap.size, 0, none⟩) (n := us.length) (m := 1) (c := co) (d := 1) (xs := us) (ys := [X]) RO.out rfl rfl R3.out N4.out ?_
        intro A7 c7 w8 o7 g7 e7
        have O7 := Lib.hid o7
        have F7 := Lib.hid (fresh_appN RN.out RC.out g7 e7)
        have G7 := Lib.hid g7
        clear o7 g7 e7 hHeld
        refine hK.out _ _ F7.out.2 (fun hHeld => ?_)
        clear hK K
        try simp only [Act.put, sA, s0, s1]
        refine sy 10 9 rfl rfl ?_ (hS := F7.out.2)
        try simp only [Act.put, sA, s0, s1]
        refine wpAnyH_done (by kernel_rfl) ?_ _
        clear hHeld
        have CG : Hid (Chg (blkOf Ao) w7 w8) := Lib.hid ((Chg.refl (blkOf Ao) w7).grown G7.out (fun i hi => by
          cases Ao with
          | none => simp at hi
          | some a => simp at hi; subst hi; exact .inl (mem_blkOf rfl)))
        have RU8 : Hid (PrsR w8 (us ++ [X]) (OUT ++ [prT f.p noT f])) := Lib.hid ((RU.out.row RO.out CG.out).snoc (XR.out.row RO.out CG.out))
        have EQ8 : Hid ((OUT ++ [prT f.p noT f]) ++ walkL (es.drop (i)) (fs.drop (j + 1)) = walkL es fs) := Lib.hid (by
          rw [← EQ.out, STP.out, List.append_assoc]
          rfl)
        have UL8 : Hid ((us ++ [X]).length ≤ (i) + (j + 1)) := Lib.hid (by have := UL.out; simp; omega)
        clear CG G7 RO RU EQ UL XR R3 N4
        go_wp2
        go_round
        case rel => exact ⟨i, j + 1, A7, c7, us ++ [X], OUT ++ [prT f.p noT f], by omega, by omega, by go_num, by go_num, by simp, UL8, EQ8, O7, RU8, Lib.hid F7.out.1, F7.out.2⟩
        case measure => simp [RowKit.intOf]; omega
      · have JE : Hid (j = ys.length) := Lib.hid (by omega)
        have j1 : ¬ (j : Int) < (ys.length : Int) := by omega
        have j2 : decide ((j : Int) < (ys.length : Int)) = false := decide_eq_false j1
        have QU : Hid (PrsR wr us (walkL es fs)) := Lib.hid (by
          have q := EQ.out
          rw [List.drop_of_length_le (by rw [← XE.out, IE.out]; exact Nat.le_refl _), List.drop_of_length_le (by rw [← YE.out, JE.out]; exact Nat.le_refl _), walk_nil, List.append_nil] at q
          rw [← q]
          exact RU.out)
        go_wp2
        go_ret
        exact ⟨Ao, co, us, rfl, RO.out, QU.out, fun a ha => Nat.le_trans C0.out.size (RN.out a ha), C0.out.trans RC.out⟩
end
section
open Go.RowKit Go.Lib
set_option linter.unusedSimpArgs false
set_option linter.unusedVariables false

set_option maxRecDepth 100000 in
set_option maxHeartbeats 4000000 in
theorem tbany1_any (w : World) (x : EnT) (e : EnP) (h : EnR w x e) (hs : e.p.length ≤ 10000000) (gb : Nat) (p : List UInt8) (hp : p.length ≤ 10000000) (hb : w.heap[gb]? = some (.cells #[.string (strOf p)] 9 (0, 0))) :
    Calls Tryz.prog 107 #[.agg #[.string x.p, .int .i64 x.k, .int .i64 x.m, .slice x.A x.l x.c], .pointer (some ⟨gb, 0, none⟩)] w fun r w' => r = .returned (.bool (underL p e.p)) ∧ Chg [] w w' := by
  obtain ⟨w1, hw, hc, b0⟩ := news1 w (.cells #[.string x.p, .int .i64 x.k, .int .i64 x.m, .slice x.A x.l x.c] 55)
  have W1 := Lib.hid hw
  have C := Lib.hid hc
  have y0 := cell_of (hc.at_ hb (by simp)) 0
  have z0 := cell_of b0 0
  have z1 := cell_of b0 1
  have z2 := cell_of b0 2
  have z3 := cell_of b0 3
  simp only [List.getElem?_toArray, List.getElem?_cons_succ, List.getElem?_cons_zero] at y0 z0 z1 z2 z3
  have UX : Hid (∀ w', Calls Tryz.prog 30 #[.string (strOf p), .string x.p] w' fun r w2 => r = .returned (.bool (underL p e.p)) ∧ Chg [] w' w2) := Lib.hid (fun w' => by
    rw [h.p]
    exact (phunder_any w' p e.p (by omega) (by omega)).mono fun r w2 ⟨a, b⟩ => ⟨a, below_chgN b⟩)
  clear hw hc b0 h hb hs hp
  go_enter Tryz.func107, Tryz.ntmps107
  go_upto_region 1 with fail
  rw [← W1.out]
  generalize w.heap.size = g0 at *
  clear W1
  go_wp2_with fail
  refine (UX.out w1).mono ?_
  rintro r w2 ⟨rfl, hc⟩
  replace C := Lib.hid (C.out.trans hc)
  clear hc UX y0 z0 z1 z2 z3
  go_wp2
  go_ret
  exact ⟨rfl, C.out⟩
set_option maxRecDepth 100000 in
set_option maxHeartbeats 4000000 in
theorem tbany_any (w : World) (A : Option Addr) (c : Nat) (xs : List EnT) (es : List EnP) (p : List UInt8) (hp : p.length ≤ 10000000) (h : RdK enTy w A xs.length xs) (hx : EnsR w xs es) (hn : xs.length ≤ 100000) (hs : ∀ e ∈ es, e.p.length ≤ 10000000) :
    Calls Tryz.prog 76 #[.slice A xs.length c, .string (strOf p)] w fun r w' => r = .returned (.bool (anyT es p)) ∧ Chg [] w w' := by
  obtain ⟨w1, hw, hc, b0⟩ := news1 w (.cells #[.string (strOf p)] 9)
  have W1 := Lib.hid hw
  have C := Lib.hid hc
  have IX := Lib.hid (enfcontains_any w1 A c xs es 107 #[.pointer (some ⟨w.heap.size, 0, none⟩)] (fun e => underL p e.p) (enters_of Tryz.func107 (by kernel_rfl) rfl) (h.chg hc (by simp)) (hx.chg hc) hn (fun wr hcc i x e ex ee => tbany1_any wr x e ((hx.2 i x e ex ee).chg (hc.trans hcc)) (hs e (List.mem_of_getElem? ee)) w.heap.size p hp (hcc.at_ b0 (by simp))))
  clear hw hc b0 h hx hn hs hp
  go_enter Tryz.func76, Tryz.ntmps76
  go_upto_region 1 with fail
  rw [← W1.out]
  generalize w.heap.size = g0 at *
  clear W1
  go_wp2_with fail
  refine IX.out.mono ?_
  rintro r w2 ⟨rfl, hc⟩
  have C2 := Lib.hid (C.out.trans hc)
  clear hc IX
  go_wp2
  go_ret
  exact ⟨rfl, C2.out⟩
set_option maxRecDepth 100000 in
set_option maxHeartbeats 4000000 in
theorem tbparent_any (w : World) (A : Option Addr) (c : Nat) (xs : List EnT) (es : List EnP) (p : List UInt8) (hp : p.length ≤ 10000000) (h : RdK enTy w A xs.length xs) (hx : EnsR w xs es) (hn : xs.length ≤ 100000) :
    Calls Tryz.prog 72 #[.slice A xs.length c, .string (strOf p)] w fun r w' => r = .returned (.int .i64 (parT es p)) ∧ Chg [] w w' := by
  have HA := Lib.hid h
  have HX := Lib.hid hx
  have PX : Hid (Calls Tryz.prog 43 #[.string (strOf p)] w fun r w2 => r = .returned (.tuple #[.string (strOf (parentL p)), .bool (hasParent p)]) ∧ Chg [] w w2) := Lib.hid ((phparent_any w p (by omega)).mono fun r w2 ⟨a, b⟩ => ⟨a, below_chgN b⟩)
  have FI : Hid (∀ w', Chg [] w w' → Calls Tryz.prog 40 #[.slice A xs.length c, .string (strOf (parentL p))] w' fun r w2 => (∃ v : Int, r = .returned (.int .i64 v) ∧ findT es (parentL p) v) ∧ Chg [] w' w2) := Lib.hid (fun w' hc => tbfind_any w' A c xs es (parentL p) (h.chg hc (by simp)) (hx.chg hc) hn)
  generalize hv : parT es p = v
  have HV := Lib.hid hv
  clear h hx hn hp hv
  go_enter Tryz.func72, Tryz.ntmps72
  go_wp2_with fail
  refine PX.out.mono ?_
  rintro r w1 ⟨rfl, hc⟩
  have C := Lib.hid hc
  clear hc PX
  rcases hh : hasParent p with _ | _
  · obtain rfl : v = 0 := by rw [← HV.out]; unfold parT; rw [hh]; rfl
    clear hh HV
    go_wp2
    go_ret
    exact ⟨rfl, C.out⟩
  have HP := Lib.hid hh
  clear hh
  go_wp2_with fail
  refine (FI.out w1 C.out).mono ?_
  rintro r w2 ⟨⟨u, rfl, hu⟩, hc⟩
  have FV := Lib.hid (find_get hu)
  replace C := Lib.hid (C.out.trans hc)
  clear hu hc FI
  rcases FV.out with ⟨rfl, hg⟩ | ⟨k, e, rfl, ek, hg⟩
  · obtain rfl : v = 6 := by rw [← HV.out]; unfold parT; rw [HP.out, hg]; rfl
    clear hg FV HV
    go_wp2
    go_ret
    exact ⟨rfl, C.out⟩
  · have kl : k < xs.length := by rw [HX.out.1]; exact (List.getElem?_eq_some_iff.1 ek).1
    obtain ⟨x, e', ex, ee, rx⟩ := HX.out.at_ kl
    rw [ek] at ee
    cases ee
    obtain ⟨g, o, eA, _⟩ := HA.out.line (by omega)
    subst eA
    obtain ⟨z0, z1, z2, z3⟩ := enCells (HA.out.chg C.out (by simp)) ex
    have KE : Hid (x.k = e.k) := Lib.hid rx.k
    have VE : Hid (v = if e.k = 2 then 0 else 12) := Lib.hid (by rw [← HV.out]; unfold parT; rw [HP.out, hg]; rfl)
    have k0 : (0 : Int) ≤ (k : Int) := by omega
    have k1 : (k : Int) < (xs.length : Int) := by omega
    have k2 : ¬ (k : Int) < 0 := by omega
    clear hg FV ek ex rx kl HV
    by_cases hk : x.k = 2
    · have h1 : ((x.k == 2) : Bool) = true := by simpa using hk
      have h2 : ((x.k != 2) : Bool) = false := by unfold bne; rw [h1]; rfl
      obtain rfl : v = 0 := by rw [VE.out, if_pos (KE.out ▸ hk)]
      clear hk VE
      go_wp2
      go_ret
      exact ⟨rfl, C.out⟩
    · have h1 : ((x.k == 2) : Bool) = false := by simpa using hk
      have h2 : ((x.k != 2) : Bool) = true := by unfold bne; rw [h1]; rfl
      obtain rfl : v = 12 := by rw [VE.out, if_neg (fun q => hk (KE.out.trans q))]
      clear hk VE
      go_wp2
      go_ret
      exact ⟨rfl, C.out⟩
end
end Go.Proofs.YtimdfpejgaidhaaGreatDoor
