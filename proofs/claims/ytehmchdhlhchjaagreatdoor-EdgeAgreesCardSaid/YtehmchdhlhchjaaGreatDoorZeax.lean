/- store.Shelf, Near, Missing, Known. store.Put, store.Join. Sixteen letters: a number's digits to the base 16: no memory here. strconv.FormatUint at the base 16, strings.Repeat of '0', print.Text. The fingerprint: through, More, Sum; the document's. print.Mix: the pieces of numbers, eight bytes each. Slices of numbers as arguments. The law's puts (layer 10). What a store misses of another one: purely. What is written is read as it was: no memory here. What is read is written as it was read: no memory here. An effect's bytes read as it; what reads as an effect is its bytes; where faults are: no memory here. Archives, purely. -/
import Derived.Test.YtehmchdhlhchjaaGreatDoorZeaw
import Derived.Test.YtehmchdhlhchjaaGreatDoorZeau
import Derived.Test.YtehmchdhlhchjaaGreatDoorZeam
import Derived.Deep.Cut
import Derived.RangeFuncCalls
import Derived.Test.YtehmchdhlhchjaaGreatDoorZeag
import Derived.Test.YtehmchdhlhchjaaGreatDoorZeaa
import Derived.Test.YtehmchdhlhchjaaGreatDoorZeaq
import Derived.Test.YtehmchdhlhchjaaGreatDoorZeab
import Derived.Test.YtehmchdhlhchjaaGreatDoorZeaf
import Derived.Test.YtehmchdhlhchjaaGreatDoorZeap
import Derived.Test.YtehmchdhlhchjaaGreatDoorZeae
import Derived.Test.YtehmchdhlhchjaaGreatDoorZeas
set_option linter.unusedSimpArgs false
set_option linter.unusedVariables false
set_option maxHeartbeats 32000000
namespace Go.Proofs.YtehmchdhlhchjaaGreatDoor
section
open Go.RowKit Go.Lib


set_option maxRecDepth 100000 in
theorem stmissing_any (w : World) (A : Option Addr) (c : Nat) (xs : List EvT) (es : List EvP) (K : Option Addr) (kc : Nat) (ks : List Sp) (h : RdK evTy w A xs.length xs) (hx : EvsR w xs es) (hn : xs.length ≤ 100000) (hk : RdK spanTy w K ks.length ks) (hkn : ks.length ≤ 140737488351232) (hs : ∀ e ∈ es, EvSm e ∧ e.q.length ≤ 100000) :
  Calls Tryz.prog 35 #[.slice A xs.length c, .slice K ks.length kc] w fun r w' => ∃ (A' : Option Addr) (c' : Nat) (zs : List EvT), r = .returned (.slice A' zs.length c') ∧ EsF w' w.heap.size w'.heap.size A' c' zs (es.filter (fun e => !hasE ks e.n e.s)) ∧ Chg [] w w' := by
 obtain ⟨w1, hw1, c1, b1⟩ := news1 w (.cells #[.slice K ks.length kc] 23)
 have W1 := h_ hw1
 have C1 := h_ c1
 have TH := h_ (stthose_any w1 A c xs es 71 #[.pointer (some ⟨w.heap.size, 0, none⟩)] (fun e => !hasE ks e.n e.s) (h.chg c1 (by simp)) (hx.chg c1) hn (fun e he => ⟨(hs e he).1.2.1, (hs e he).2⟩) (enters_of Tryz.func71 (by kernel_rfl) rfl) (fun w' hc i x e ex ee => stmissing1_any w' w.heap.size K kc ks x e (hc.at_ b1 (by simp)) (hk.chg (c1.trans hc) (by simp)) hkn ⟨(hx.2 i x e ex ee).n, (hx.2 i x e ex ee).s⟩))
 clear hw1 c1 b1 h hx hn hs
 go_enter Tryz.func35, Tryz.ntmps35
 go_upto_region 1 with fail
 rw [← W1.out]
 obtain ⟨g1, hg1⟩ : ∃ g, w.heap.size = g := ⟨_, rfl⟩
 rw [hg1] at TH ⊢
 clear W1; go_wp2_with fail
 refine TH.out.mono ?_
 rintro r w2 ⟨A2, c2, zs, rfl, hl, he, hc⟩
 have P := h_ (And.intro (he.low C1.out.size) (C1.out.trans hc))
 clear hl he hc TH; go_wp2; go_ret
 exact ⟨A2, c2, zs, rfl, P.out.1, P.out.2⟩

def dotsE (es : List EvP) : List (Int × Int) := es.map (fun e => (e.n, e.s))
end
section
open Go.RowKit Go.Lib


theorem putS_in {s : List EvP} {e x : EvP} (h : x ∈ putS s e) : x = e ∨ x ∈ s := by
 unfold putS at h
 rcases List.mem_append.1 h with q | q
 ·
  exact .inr (List.mem_filter.1 q).1
 ·
  rcases List.mem_append.1 q with q | q
  ·
   rcases putE_in q with r | r
   ·
    exact .inr (mem_atS.1 r).1
   ·
    exact .inl r.1
  ·
   exact .inr (List.mem_filter.1 q).1
set_option maxRecDepth 100000 in
theorem stput_any (w : World) (A : Option Addr) (c : Nat) (xs : List EvT) (es : List EvP) (y : EvT) (f : EvP) (h : RdK evTy w A xs.length xs) (hc : xs.length ≤ c ∧ c ≤ maxLen) (ho : xs = [] ∨ ∀ a, A = some a → a.block < w.heap.size) (hx : EvsR w xs es) (hn : xs.length ≤ 1000) (hs : ∀ e ∈ es, EvSm e ∧ e.q.length ≤ 100000) (hy : EvR w y f) (ht : EvSm f ∧ f.q.length ≤ 100000) :
  Calls Tryz.prog 23 #[.slice A xs.length c, .agg #[.int .i64 y.n, .int .i64 y.s, .string y.p, .int .i64 y.k, .int .i64 y.m, .slice y.A y.l y.c, .slice y.B y.bl y.bc]] w fun r w' => ∃ (A' : Option Addr) (c' : Nat) (zs : List EvT), r = .returned (.tuple #[.slice A' zs.length c', .int .i64 (stPut es f).1]) ∧ EsF w' w.heap.size w'.heap.size A' c' zs (stPut es f).2 ∧ Chg [] w w' := by
 obtain ⟨R, hR⟩ : ∃ R, stPut es f = R := ⟨_, rfl⟩
 rw [hR]
 have HR := h_ hR
 obtain ⟨w1, hw1, c1, b1⟩ := news1 w (.cells #[.int .i64 y.n, .int .i64 y.s, .string y.p, .int .i64 y.k, .int .i64 y.m, .slice y.A y.l y.c, .slice y.B y.bl y.bc] 40)
 have W1 := h_ hw1
 have C1 := h_ c1
 have B1 := h_ b1
 have HA := h_ (h.chg c1 (by simp))
 have HX := h_ (hx.chg c1)
 have HC := h_ hc
 have HN := h_ hn
 have HS := h_ hs
 have HY := h_ (hy.chg c1)
 have HT := h_ ht
 have CK := h_ (stcheck_any w1 A c xs es (h.chg c1 (by simp)) hc.1 (ho.imp id (fun q a ha => Nat.lt_of_lt_of_le (q a ha) c1.size)) (hx.chg c1) (by omega) (fun e he => (hs e he).1))
 clear hw1 c1 b1 h hx hc hn hs hy ht ho hR
 go_enter Tryz.func23, Tryz.ntmps23
 go_upto_region 1 with fail
 rw [← W1.out]
 obtain ⟨g1, hg1⟩ : ∃ g, w.heap.size = g := ⟨_, rfl⟩
 rw [hg1] at B1 ⊢
 clear W1; go_wp2_with fail
 refine CK.out.mono ?_
 rintro r w2 ⟨rfl, hc⟩
 have C2 := h_ hc
 clear hc CK
 have NO2 : Hid (¬ (StOk es ∧ chkEv f = 0) → R = (2, [])) := h_ (fun q => by rw [← HR.out]; unfold stPut; rw [if_pos q])
 rcases stE_two es with e1 | e1
 rotate_left
 ·
  have ER := NO2.out (fun q => by rw [stE_zero.2 q.1] at e1; cases e1)
  subst ER
  rw [e1]
  clear e1 NO2 HR; go_wp2; go_ret2
  exact ⟨none, 0, [], rfl, EsF.nil _ _ _, C1.out.trans C2.out⟩
 have SA := h_ (stE_zero.1 e1)
 rw [e1]
 clear e1
 have CELLY : Hid (∀ w', Chg [] w1 w' → (w'.cell? ⟨g1, 0, none⟩ = some (.int .i64 y.n) ∧ w'.cell? ⟨g1, 1, none⟩ = some (.int .i64 y.s) ∧ w'.cell? ⟨g1, 2, none⟩ = some (.string y.p) ∧ w'.cell? ⟨g1, 3, none⟩ = some (.int .i64 y.k) ∧ w'.cell? ⟨g1, 4, none⟩ = some (.int .i64 y.m) ∧ w'.cell? ⟨g1, 5, none⟩ = some (.slice y.A y.l y.c) ∧ w'.cell? ⟨g1, 6, none⟩ = some (.slice y.B y.bl y.bc))) := h_ (fun w' hc => by
  have b := hc.at_ B1.out (by simp)
  exact ⟨cell_of b 0, cell_of b 1, cell_of b 2, cell_of b 3, cell_of b 4, cell_of b 5, cell_of b 6⟩)
 obtain ⟨y0, y1, y2, y3, y4, y5, y6⟩ := CELLY.out w2 C2.out
 go_wp2_with fail; clear y0 y1 y2 y3 y4 y5 y6
 refine (evcheck_any w2 y f (HY.out.chg C2.out) HT.out.1).mono ?_
 rintro r w3 ⟨rfl, hc⟩
 have C3 := h_ (C2.out.trans hc)
 clear hc C2
 rcases chkEv_two f with e1 | e1
 rotate_left
 ·
  have ER := NO2.out (fun q => by rw [q.2] at e1; cases e1)
  subst ER
  rw [e1]
  clear e1 NO2 HR; go_wp2; go_ret2
  exact ⟨none, 0, [], rfl, EsF.nil _ _ _, C1.out.trans C3.out⟩
 have FK := h_ e1
 rw [e1]
 clear e1 NO2
 obtain ⟨y0, y1, y2, y3, y4, y5, y6⟩ := CELLY.out w3 C3.out
 go_wp2_with fail; clear y0 y1 y2 y3 y4 y5 y6
 refine (stputf_any w3 A c xs es y f (HA.out.chg C3.out (by simp)) HC.out (HX.out.chg C3.out) HN.out HS.out (HY.out.chg C3.out) HT.out SA.out.1 (stOk_at SA.out f.p) FK.out).mono ?_
 rintro r w4 ⟨A4, c4, zs, rfl, hcp, hr, he, hc⟩
 have R4 := h_ hr
 have C4 := h_ (C3.out.trans hc)
 clear hcp hr hc
 rcases hel : elseE es f with _ | _
 ·
  have ER : R = (0, putS es f) := by
   rw [← HR.out]
   exact stPut_yes SA.out FK.out hel
  rw [hel, if_neg (by decide : ¬ (false = true))] at he
  rw [if_neg (by decide : ¬ (false = true))]
  have E4 : Hid (EvsR w4 zs (putS es f)) := h_ (by simpa using he)
  subst ER; clear he hel HR
  have FE := h_ (frevents_any w4 A4 c4 zs (putS es f) R4.out E4.out (by have a := E4.out.1; have b := elseE_len es f; have d := HX.out.1; have := HN.out; omega) (fun e he => by
   rcases putS_in he with q | q
   ·
    rw [q]; exact ⟨HT.out.1.2.1, HT.out.2⟩
   ·
    exact ⟨(HS.out e q).1.2.1, (HS.out e q).2⟩))
  go_wp2_with fail
  refine FE.out.mono ?_
  rintro r w5 ⟨A5, c5, us, rfl, hl, he, hc⟩
  have P5 := h_ (And.intro (he.low (lo' := g1) (by rw [← hg1]; exact (C1.out.trans C4.out).size)) (C1.out.trans (C4.out.trans hc)))
  clear hl he hc FE; go_wp2; go_ret2
  exact ⟨A5, c5, us, rfl, P5.out.1, P5.out.2⟩
 ·
  have ER : R = (7, []) := by
   rw [← HR.out]
   unfold stPut
   rw [if_neg (fun q => q ⟨SA.out, FK.out⟩), if_pos hel]
  rw [hel, if_pos (rfl : true = true)] at he
  rw [if_pos (rfl : true = true)]
  have E4 : Hid (EvsR w4 zs []) := h_ (by simpa using he)
  subst ER; clear he hel HR
  have FE := h_ (frevents_any w4 A4 c4 zs [] R4.out E4.out (by have a : zs.length = 0 := E4.out.1; omega) (by simp))
  go_wp2_with fail
  refine FE.out.mono ?_
  rintro r w5 ⟨A5, c5, us, rfl, hl, he, hc⟩
  have P5 := h_ (And.intro (he.low (lo' := g1) (by rw [← hg1]; exact (C1.out.trans C4.out).size)) (C1.out.trans (C4.out.trans hc)))
  clear hl he hc FE; go_wp2; go_ret2
  exact ⟨A5, c5, us, rfl, P5.out.1, P5.out.2⟩
set_option maxRecDepth 100000 in
theorem stjoin_any (w : World) (A B : Option Addr) (c d : Nat) (xs ys : List EvT) (es fs : List EvP) (h : RdK evTy w A xs.length xs) (h' : RdK evTy w B ys.length ys) (hc : (xs.length ≤ c ∧ c ≤ maxLen) ∧ ys.length ≤ d) (ho : (xs = [] ∨ ∀ a, A = some a → a.block < w.heap.size) ∧ (ys = [] ∨ ∀ a, B = some a → a.block < w.heap.size)) (hx : EvsR w xs es) (hy : EvsR w ys fs) (hn : xs.length + ys.length ≤ 1000) (hs : ∀ e ∈ es, EvSm e ∧ e.q.length ≤ 100000) (ht : ∀ e ∈ fs, EvSm e ∧ e.q.length ≤ 100000) :
  Calls Tryz.prog 25 #[.slice A xs.length c, .slice B ys.length d] w fun r w' => ∃ (A' : Option Addr) (c' : Nat) (zs : List EvT), r = .returned (.tuple #[.slice A' zs.length c', .int .i64 (stJoin es fs).1]) ∧ EsF w' w.heap.size w'.heap.size A' c' zs (stJoin es fs).2 ∧ Chg [] w w' := by
 obtain ⟨R, hR⟩ : ∃ R, stJoin es fs = R := ⟨_, rfl⟩
 rw [hR]
 have HR := h_ hR
 have HA := h_ h
 have HB := h_ h'
 have HC := h_ hc
 have HO := h_ ho
 have HX := h_ hx
 have HY := h_ hy
 have HN := h_ hn
 have HS := h_ hs
 have HT := h_ ht
 clear h h' hc ho hx hy hn hs ht hR
 have NO2 : Hid (¬ (StOk es ∧ StOk fs) → R = (2, [])) := h_ (fun q => by rw [← HR.out]; unfold stJoin; rw [if_neg q])
 go_enter Tryz.func25, Tryz.ntmps25
 go_wp2_with fail
 refine (stcheck_any w A c xs es HA.out HC.out.1.1 HO.out.1 HX.out (by have := HN.out; omega) (fun e he => (HS.out e he).1)).mono ?_
 rintro r w1 ⟨rfl, hc⟩
 have C1 := h_ hc
 clear hc
 rcases stE_two es with e1 | e1
 rotate_left
 ·
  have ER := NO2.out (fun q => by rw [stE_zero.2 q.1] at e1; cases e1)
  subst ER
  rw [e1]
  clear e1 NO2 HR; go_wp2; go_ret2
  exact ⟨none, 0, [], rfl, EsF.nil _ _ _, C1.out⟩
 have SA := h_ (stE_zero.1 e1)
 rw [e1]
 clear e1; go_wp2_with fail
 refine (stcheck_any w1 B d ys fs (HB.out.chg C1.out (by simp)) HC.out.2 (HO.out.2.imp id (fun q a ha => Nat.lt_of_lt_of_le (q a ha) C1.out.size)) (HY.out.chg C1.out) (by have := HN.out; omega) (fun e he => (HT.out e he).1)).mono ?_
 rintro r w2 ⟨rfl, hc⟩
 have C2 := h_ (C1.out.trans hc)
 clear hc C1
 rcases stE_two fs with e1 | e1
 rotate_left
 ·
  have ER := NO2.out (fun q => by rw [stE_zero.2 q.2] at e1; cases e1)
  subst ER
  rw [e1]
  clear e1 NO2 HR; go_wp2; go_ret2
  exact ⟨none, 0, [], rfl, EsF.nil _ _ _, C2.out⟩
 have SB := h_ (stE_zero.1 e1)
 have RF : Hid (R = stFold es fs) := h_ (by rw [← HR.out]; unfold stJoin; rw [if_pos ⟨SA.out, SB.out⟩])
 rw [e1]
 clear e1 NO2 HR; go_wp2
 go_loopw [6, 7, 21] (fun v6 v7 v21 wr => ∃ (k : Nat) (A1 : Option Addr) (d1 : Nat) (zs : List EvT) (cs : List EvP) (er : Int), k ≤ ys.length ∧ v21 = .int .i64 (k : Int) ∧ v6 = .slice A1 zs.length d1 ∧ v7 = .int .i64 er ∧ Hid (R = stFold cs (fs.drop k) ∧ StOk cs ∧ cs.length ≤ es.length + k ∧ ∀ e ∈ cs, EvSm e ∧ e.q.length ≤ 100000) ∧ Hid (zs.length ≤ d1 ∧ d1 ≤ maxLen) ∧ Hid (RdK evTy wr A1 zs.length zs) ∧ Hid (EvsR wr zs cs) ∧ Hid (Chg [] w wr)) (fun _ _ v21 _ => ys.length - (RowKit.intOf v21).toNat)
 case atStart => exact ⟨0, A, c, xs, es, 0, Nat.zero_le _, rfl, rfl, rfl, h_ ⟨RF.out, SA.out, by omega, HS.out⟩, h_ HC.out.1, h_ (HA.out.chg C2.out (by simp)), h_ (HX.out.chg C2.out), C2⟩
 case round =>
  obtain ⟨k, A1, d1, zs, cs, er, hk, rfl, rfl, rfl, CS, CP, RZ, EZ, PC⟩ := hrel
  have j0 : (0 : Int) ≤ (k : Int) := by omega
  by_cases hlt : k < ys.length
  ·
   have j1 : (k : Int) < (ys.length : Int) := by omega
   have j3 : IntKind.i64.wrap ((k : Int) + 1) = (k : Int) + 1 := IntWalk.i64_in _ (by have := HN.out; omega)
   obtain ⟨g3, o3, eA, _⟩ := HB.out.line (by omega)
   subst eA
   obtain ⟨x, e, ex, ee, rx⟩ := HY.out.at_ hlt
   obtain ⟨z0, z1, z2, z3, z4, z5, z6⟩ := evCells (HB.out.chg PC.out (by simp)) ex
   have EE := h_ ee
   have RX1 := h_ rx
   have EM := h_ (List.mem_of_getElem? ee)
   clear ex ee rx
   obtain ⟨w5, hw5, c5, b5⟩ := news1 wr (.cells #[.int .i64 x.n, .int .i64 x.s, .string x.p, .int .i64 x.k, .int .i64 x.m, .slice x.A x.l x.c, .slice x.B x.bl x.bc] 40)
   have W5 := h_ hw5
   have CALL := h_ (stputf_any w5 A1 d1 zs cs x e (RZ.out.chg c5 (by simp)) CP.out (EZ.out.chg c5) (by have a := EZ.out.1; have b := CS.out.2.2.1; have d := HX.out.1; have := HN.out; omega) CS.out.2.2.2 (RX1.out.chg (PC.out.trans c5)) (HT.out e EM.out) CS.out.2.1.1 (stOk_at CS.out.2.1 e.p) (stOk_chk SB.out e EM.out))
   replace PC := h_ (PC.out.trans c5)
   obtain ⟨y0, y1, y2, y3, y4, y5, y6⟩ := ce7 b5
   have DK : Hid (fs.drop k = e :: fs.drop (k + 1)) := h_ (by
    obtain ⟨l, q⟩ := List.getElem?_eq_some_iff.1 EE.out
    rw [List.drop_eq_getElem_cons l, q])
   clear hw5 c5 b5
   go_upto_region 7 with fail
   rw [← W5.out]
   generalize wr.heap.size = g6 at *
   clear W5 z0 z1 z2 z3 z4 z5 z6; go_wp2_with fail; clear y0 y1 y2 y3 y4 y5 y6
   refine CALL.out.mono ?_
   rintro r w7 ⟨A7, c7, us, rfl, hcp, hr, he, hc⟩
   replace PC := h_ (PC.out.trans hc)
   have CP7 := h_ hcp
   have R7 := h_ hr
   clear hcp hr hc CALL RZ EZ
   rcases hel : elseE cs e with _ | _
   ·
    have CS1 : Hid (R = stFold (putS cs e) (fs.drop (k + 1)) ∧ StOk (putS cs e) ∧ (putS cs e).length ≤ es.length + (k + 1) ∧ ∀ x ∈ putS cs e, EvSm x ∧ x.q.length ≤ 100000) := h_ ⟨by
      have q := CS.out.1
      rw [DK.out] at q
      unfold stFold at q
      rwa [hel, if_neg (by decide)] at q, stOk_put CS.out.2.1 (stOk_chk SB.out e EM.out) hel, by have a := elseE_len cs e; have b := CS.out.2.2.1; omega, fun x hx => by
      rcases putS_in hx with q | q
      ·
       rw [q]; exact HT.out e EM.out
      ·
       exact CS.out.2.2.2 x q⟩
    rw [hel, if_neg (by decide : ¬ (false = true))] at he
    rw [if_neg (by decide : ¬ (false = true))]
    have E7 : Hid (EvsR w7 us (putS cs e)) := h_ (by simpa using he)
    clear he hel; go_wp2; go_round
    case rel => exact ⟨k + 1, A7, c7, us, putS cs e, 0, by omega, by go_num, rfl, rfl, CS1, CP7, R7, E7, PC⟩
    case measure => simp [RowKit.intOf]; omega
   ·
    have ER : R = (7, []) := by
     have q := CS.out.1
     rw [DK.out] at q
     unfold stFold at q
     rwa [if_pos hel] at q
    rw [if_pos (rfl : true = true)]
    clear he hel CS RF; subst ER; go_wp2; go_ret2
    exact ⟨none, 0, [], rfl, EsF.nil _ _ _, PC.out⟩
  ·
   obtain rfl : k = ys.length := by omega
   have j1 : ¬ (ys.length : Int) < (ys.length : Int) := by omega
   have ER : R = (0, cs) := by
    have q := CS.out.1
    rw [HY.out.1, List.drop_length] at q
    exact q
   have FE := h_ (frevents_any wr A1 d1 zs cs RZ.out EZ.out (by have a := EZ.out.1; have b := CS.out.2.2.1; have d := HX.out.1; have := HN.out; omega) (fun e he => ⟨(CS.out.2.2.2 e he).1.2.1, (CS.out.2.2.2 e he).2⟩))
   clear CS RF; subst ER; go_wp2_with fail
   refine FE.out.mono ?_
   rintro r w5 ⟨A5, c5, us, rfl, hl, he, hc⟩
   have P5 := h_ (And.intro (he.low PC.out.size) (PC.out.trans hc))
   clear hl he hc FE; go_wp2; go_ret2
   exact ⟨A5, c5, us, rfl, P5.out.1, P5.out.2⟩
end
section
open Go.RowKit Go.Lib


theorem foldS_len : ∀ (T s : List EvP), (T.foldl putS s).length ≤ s.length + T.length
 | [], s => by simp
 | e :: T, s => by
  have a := foldS_len T (putS s e)
  have b := elseE_len s e
  simp only [List.foldl_cons, List.length_cons]
  omega
theorem foldS_in : ∀ (T s : List EvP) (x : EvP), x ∈ T.foldl putS s → x ∈ s ∨ x ∈ T
 | [], s, x, h => .inl h
 | e :: T, s, x, h => by
  rcases foldS_in T (putS s e) x h with q | q
  ·
   rcases putS_in q with r | r
   ·
    exact .inr (by simp [r])
   ·
    exact .inl r
  ·
   exact .inr (by simp [q])
end
section
open Go.RowKit Go.Lib

theorem stFold_closed {U : List EvP} (hU : closedE U = true) : ∀ (l s : List EvP), (∀ x ∈ s, x ∈ U) → (∀ x ∈ l, x ∈ U) → stFold s l = (0, l.foldl putS s)
 | [], s, _, _ => rfl
 | e :: l, s, hs, hl => by
  unfold stFold
  rw [else_closed hU hs (hl e (by simp)), if_neg (by decide)]
  exact stFold_closed hU l (putS s e) (fun x hx => (putS_in hx).elim (fun q => by rw [q]; exact hl e (by simp)) (hs x)) (fun x hx => hl x (by simp [hx]))
theorem stJoin_closed {U a b : List EvP} (hU : closedE U = true) (ha : StOk a) (hb : StOk b) (hs : ∀ x ∈ a, x ∈ U) (hl : ∀ x ∈ b, x ∈ U) : stJoin a b = (0, b.foldl putS a) := by
 unfold stJoin
 rw [if_pos ⟨ha, hb⟩]
 exact stFold_closed hU b a hs hl
theorem atS_sub {S T : List EvP} (h : ∀ x ∈ S, x ∈ T) (p : List UInt8) : ∀ x ∈ atS S p, x ∈ atS T p := fun x hx => mem_atS.2 ⟨h x (mem_atS.1 hx).1, (mem_atS.1 hx).2⟩
theorem missing_st {U X Y L a b m : List EvP} (hU : closedE U = true) (hX : ∀ x ∈ X, x ∈ U) (hY : ∀ x ∈ Y, x ∈ U) (hL : ∀ x, x ∈ L ↔ x ∈ X ∨ x ∈ Y) (ha : StOf X a) (hb : StOf Y b) (hm : ∀ x, x ∈ m ↔ x ∈ b ∧ x ∉ X) : StOf L (m.foldl putS a) := by
 have bY := stOf_sub hb
 have mU : ∀ x ∈ m, x ∈ U := fun x hx => hY x (bY x ((hm x).1 hx).1)
 have h := puts_st hU m X a hX mU ha
 have LU : ∀ x ∈ L, x ∈ U := fun x hx => ((hL x).1 hx).elim (hX x) (hY x)
 have S1 : ∀ x, x ∈ m.reverse ++ X ↔ x ∈ m ∨ x ∈ X := fun x => by rw [List.mem_append, List.mem_reverse]
 have S1L : ∀ x ∈ m.reverse ++ X, x ∈ L := fun x hx => (hL x).2 (((S1 x).1 hx).elim (fun q => .inr (bY x ((hm x).1 q).1)) .inl)
 refine ⟨h.1, fun p => ⟨(h.2 p).1, fun x => ((h.2 p).2 x).trans ⟨fun t => ?_, fun t => ?_⟩⟩⟩
 ·
  refine ⟨atS_sub S1L p x t.1, fun y hy => ?_⟩
  have hy1 := mem_atS.1 hy
  by_cases q : y ∈ m.reverse ++ X
  ·
   exact t.2 y (mem_atS.2 ⟨q, hy1.2⟩)
  ·
   have yX : y ∉ X := fun r => q ((S1 y).2 (.inr r))
   have ym : y ∉ m := fun r => q ((S1 y).2 (.inl r))
   have yY : y ∈ Y := ((hL y).1 hy1.1).resolve_left yX
   obtain ⟨z, hz, hyz⟩ := top_over hU (S := atS Y p) (fun u hu => hY u (mem_atS.1 hu).1) _ y (mem_atS.2 ⟨yY, hy1.2⟩) (Nat.le_refl _)
   have zb : z ∈ b := ((stOf_mem hb z).2 (by rw [(mem_atS.1 hz.1).2]; exact hz))
   rcases hyz with e | e
   ·
    rw [e] at zb
    exact absurd ((hm y).2 ⟨zb, yX⟩) ym
   ·
    have zS : z ∈ atS (m.reverse ++ X) p := by
     refine mem_atS.2 ⟨(S1 z).2 ?_, (mem_atS.1 hz.1).2⟩
     by_cases r : z ∈ X
     ·
      exact .inr r
     ·
      exact .inl ((hm z).2 ⟨zb, r⟩)
    rcases c : aheadP x y with _ | _
    ·
     rfl
    ·
     have := cl_tr hU (LU x (S1L x (mem_atS.1 t.1).1)) (hY y yY) (hY z (mem_atS.1 hz.1).1) c e
     rw [t.2 z zS] at this
     cases this
 ·
  have hx1 := mem_atS.1 t.1
  refine ⟨mem_atS.2 ⟨(S1 x).2 ?_, hx1.2⟩, fun y hy => t.2 y (atS_sub S1L p y hy)⟩
  by_cases r : x ∈ X
  ·
   exact .inr r
  ·
   have xY : x ∈ Y := ((hL x).1 hx1.1).resolve_left r
   refine .inl ((hm x).2 ⟨(stOf_mem hb x).2 ⟨mem_atS.2 ⟨xY, rfl⟩, fun y hy => t.2 y ?_⟩, r⟩)
   have hy1 := mem_atS.1 hy
   exact mem_atS.2 ⟨(hL y).2 (.inr hy1.1), hy1.2.trans hx1.2⟩
theorem st_join_all {U L R B : List EvP} (hU : closedE U = true) (hL : ∀ x ∈ L, x ∈ U) (hR : ∀ x ∈ R, x ∈ U) (hB : ∀ x, x ∈ B ↔ x ∈ L ∨ x ∈ R) : stJoin (L.foldl putS []) (R.foldl putS []) = (0, B.foldl putS []) := by
 have sa := puts_store hU hL
 have sb := puts_store hU hR
 rw [stJoin_closed hU (stOf_ok hU hL sa) (stOf_ok hU hR sb) (fun x hx => hL x (stOf_sub sa x hx)) (fun x hx => hR x (stOf_sub sb x hx)), st_joins hU hL hR hB]
end
section
open Go.RowKit Go.Lib


def chkA (n : Int) (q : List Sp) : Int := if 1 ≤ n ∧ n ≤ 200 ∧ chkS q = 0 then 0 else 2
theorem chkA_two (n : Int) (q : List Sp) : chkA n q = 0 ∨ chkA n q = 2 := by unfold chkA; split <;> simp
theorem chkA_ok {n : Int} {q : List Sp} (h : chkA n q = 0) : 1 ≤ n ∧ n ≤ 200 ∧ chkS q = 0 := by
 unfold chkA at h
 split at h
 ·
  assumption
 ·
  exact absurd h (by decide)
theorem chkA_lo {n : Int} {q : List Sp} (h : n < 1) : chkA n q = 2 := if_neg (by omega)
theorem chkA_hi {n : Int} {q : List Sp} (h : 200 < n) : chkA n q = 2 := if_neg (by omega)
theorem chkA_in {n : Int} {q : List Sp} (h1 : 1 ≤ n) (h2 : n ≤ 200) : chkA n q = chkS q := by
 unfold chkA
 rcases chk_two q with h | h <;> rw [h]
 ·
  rw [if_pos ⟨h1, h2, rfl⟩]
 ·
  rw [if_neg (by rintro ⟨_, _, h⟩; cases h)]
def learnA (n : Int) (q : List Sp) (a s : Int) : Int × Int × List Sp := if chkA n q = 0 then (if (joinE q [(a, s, s)]).1 = 0 then (0, n, (joinE q [(a, s, s)]).2) else ((joinE q [(a, s, s)]).1, 0, [])) else (2, 0, [])
def resetA (n : Int) (q : List Sp) (m : Int) (k : List Sp) : Int × Int × List Sp := if chkA n q = 0 ∧ chkA m k = 0 then (0, m, k) else (2, 0, [])
def newA (n : Int) : Int × Int × List Sp := if chkA n [] = 0 then (0, n, []) else (2, 0, [])
def aW0 (n : Int) : List UInt8 × Int := wNum [] 0 n
def aW1 (n : Int) (q : List Sp) : List UInt8 × Int := wRaw (aW0 n).1 (aW0 n).2 (bytesO q)
theorem aW_len (n : Int) (q : List Sp) : (aW0 n).1.length ≤ 1048576 ∧ (aW1 n q).1.length ≤ 1048576 := by
 have h0 : (aW0 n).1.length ≤ 1048576 := wNum_len (by simp)
 exact ⟨h0, wRaw_len h0⟩
def bytesA (n : Int) (q : List Sp) : List UInt8 × Int := if chkA n q = 0 then (outs (aW1 n q).1 (aW1 n q).2, (aW1 n q).2) else ([], 2)
def rN (xs : List UInt8) : Int × Nat × Int × Int := rNum xs 0 0 0 1 200
def rR (xs : List UInt8) : List UInt8 × Nat × Int × Int := rRaw xs (rN xs).2.1 (rN xs).2.2.1 (rN xs).2.2.2 40000
def rF (xs : List UInt8) : Int × Int := endR xs (rR xs).2.1 (rR xs).2.2.1 (rR xs).2.2.2
def readA (xs : List UInt8) : (Int × List Sp) × Int × Int := if (rF xs).1 ≠ 0 then ((0, []), rF xs) else if (readS (rR xs).1).2.1 ≠ 0 then ((0, []), (2, 0)) else (((rN xs).1, (readS (rR xs).1).1), (0, 0))
theorem rN_calm {xs : List UInt8} (h : (rF xs).1 = 0) : (rN xs).2.2.1 = 0 ∧ (rR xs).2.2.1 = 0 ∧ (rF xs).2 = 0 ∧ xs.length ≤ (rR xs).2.1 := by
 unfold rF at h
 obtain ⟨z2, e2, hp⟩ := endR_calm h
 have z1 := z2
 unfold rR at z1
 obtain ⟨z1, _⟩ := rRaw_calm z1
 refine ⟨z1, z2, ?_, hp⟩
 have q1 : (rN xs).2.2.2 = 0 := by
  have := z1
  unfold rN at this ⊢
  exact (rNum_calm this).2
 have q2 : (rR xs).2.2.2 = (rN xs).2.2.2 := by
  have := z2
  unfold rR at this ⊢
  exact (rRaw_calm this).2
 show (endR xs (rR xs).2.1 (rR xs).2.2.1 (rR xs).2.2.2).2 = 0
 rw [e2, q2, q1]
end
end Go.Proofs.YtehmchdhlhchjaaGreatDoor
