/- The law's turn: what is out goes into the air. The law's turn: a call of hand; nothing; an empty air. -/
import Derived.Test.YtmblalcigbghfaaSob
namespace Go.Proofs.Ytmblalcigbghfaa
section
open Go.RowKit Go.Lib
set_option linter.unusedSimpArgs false
set_option linter.unusedVariables false


/-- Packets of a row, whose bodies are among F. -/
def PkP (w : World) (F : List Nat) (l : List PakV) (ps : List PakT) : Prop := l.length = ps.length ∧ ∀ (i : Nat) (x : PakV) (p : PakT) (q : Bool), l[i]? = some x → ps[i]? = some p → FlP w F (x, q) (p, q)
theorem PkP.chg {w w' : World} {S F : List Nat} {l : List PakV} {ps : List PakT} (h : PkP w F l ps) (hc : Chg S w w') (hd : ∀ z ∈ F, z ∉ S) : PkP w' F l ps :=
 ⟨h.1, fun i x p q hx hp => by
  obtain ⟨a1, a2, a3, a4, a5, a6, a7, a8⟩ := h.2 i x p q hx hp
  exact ⟨a1, a2, a3, a4, a5.chg hc (fun y hy => hd _ (a7 y hy)), a6, a7, a8⟩⟩
theorem PaksP.pk {K : Nat} {w : World} {lo : Nat} {l : List PakV} {st : SesT} (h : PaksP w lo l (outL st)) (hi : InvS K st) {F : List Nat} (hF : ∀ z ∈ l.flatMap (fun x => blkOf x.2.2.2.2.1), z ∈ F) : PkP w F l (outL st) :=
 ⟨h.len, fun i x p q hx hp => by
  obtain ⟨a1, a2, a3, a4, a5, a6, a7⟩ := h.at_ i x p hx hp
  exact ⟨a1, a2, a3, a4, by simp only [a5]; exact a6.reads, outL_small hi (List.mem_of_getElem? hp), fun y hy => hF _ (List.mem_flatMap.2 ⟨x, List.mem_of_getElem? hx, mem_blkOf hy⟩), rfl⟩⟩
theorem ap_snoc {w : World} {F F' : List Nat} {l : List FlV} {ps : List (PakT × Bool)} (h : AirP w F l ps) (hf : ∀ z ∈ F, z ∈ F') {x : FlV} {p : PakT × Bool} (hp : FlP w F' x p) : AirP w F' (l ++ [x]) (ps ++ [p]) := by
 have hl := h.1
 refine ⟨by simp [hl], fun i y q hy hq => ?_⟩
 by_cases e : i = l.length
 ·subst e
  rw [List.getElem?_append_right (Nat.le_refl _)] at hy
  rw [hl, List.getElem?_append_right (Nat.le_refl _)] at hq
  simp at hy hq
  subst hy; subst hq
  exact hp
 ·have hi2 : i < l.length + 1 := by simpa using (List.getElem?_eq_some_iff.1 hy).1
  rw [List.getElem?_append_left (by omega)] at hy hq
  exact (h.more hf).2 i y q hy hq
theorem apartPF {w : World} {A A' : Option Addr} {c c' : Nat} {xs : List PakV} {ys : List FlV} (h : OwnK pakTy w A c xs) (k : OwnK flTy w A' c' ys) : ∀ a a', A = some a → A' = some a' → a.block ≠ a'.block := by
 rintro a a' rfl rfl e
 rcases k with ⟨k1, _⟩ | ⟨g, full, k1, k2, _⟩
 ·cases k1
 ·rcases h with ⟨h1, _⟩ | ⟨g', full', h1, h2, _⟩
  ·cases h1
  ·cases h1
   cases k1
   simp at e
   subst e
   rw [h2] at k2
   have q := congrArg (fun o => match o with | some (Obj.cells _ t _) => t | _ => 0) k2
   revert q
   simp [pakTy, flTy]
theorem air_take (air : List (PakT × Bool)) (ps : List PakT) (k : Nat) (p : PakT) (q : Bool) (h : ps[k]? = some p) : air ++ ((ps.take (k + 1)).map (fun p => (p, q))) = (air ++ (ps.take k).map (fun p => (p, q))) ++ [(p, q)] := by
 rw [List.take_add_one, h]
 simp

set_option maxHeartbeats 8000000 in
set_option maxRecDepth 100000 in
theorem turn_out_a (w0 w : World) (g a b kk : Nat) (wo : WoT) (hW : WL w0.heap.size w g a b kk wo) (hc0 : Chg [] w0 w) (hK : kk ≤ 400000) (wh : Int) (Y : Option Addr) (m e : Nat) (ha : wo.air.length ≤ 200) : Calls Try.prog 22 #[.pointer (some ⟨g, 0, none⟩), .agg #[.int .i64 2, .int .i64 wh, .bool false, .slice Y m e]] w fun r w' => r = .returned (.tuple #[]) ∧ ∃ j, WL w0.heap.size w' g a b (kk + 2) { wo with sa := outS wo.sa, air := wo.air ++ ((outL wo.sa).take j).map (fun p => (p, true)) } ∧ wo.air.length + min j (outL wo.sa).length ≤ 200 ∧ Chg [] w0 w' := by
 have HA := Lib.hid ha
 clear ha
 obtain ⟨Ar, cr, lr, P0, c0, l0, P1, c1, l1, Q0, d0, m0, Q1, d1, m1, Aa, Da, Ab, Db, F, h⟩ := hW
 obtain ⟨w1, hw1, c1, b1⟩ := news1 w (.cells #[.int .i64 2, .int .i64 wh, .bool false, .slice Y m e] 58)
 have W1 := Lib.hid hw1
 have HW := Lib.hid (h.off c1 (by simp))
 have C0 := Lib.hid (hc0.trans c1)
 have BX := Lib.hid b1
 have GX := Lib.hid (show w0.heap.size ≤ w.heap.size ∧ g < w.heap.size ∧ w.heap.size < w1.heap.size from ⟨hc0.size, lt_of_heap h.hg, lt_of_heap b1⟩)
 have LOW := Lib.hid (fun l hl z hz => (h.lo l hl z hz).2)
 have HKK := Lib.hid hK
 have y0 := cell_of HW.out.hg 0
 have y1 := cell_of HW.out.hg 1
 simp only [List.getElem?_toArray, List.getElem?_cons_succ, List.getElem?_cons_zero] at y0 y1
 have x0 := cell_of b1 0
 have x2 := cell_of b1 2
 have x3 := cell_of b1 3
 simp only [List.getElem?_toArray, List.getElem?_cons_succ, List.getElem?_cons_zero] at x0 x2 x3
 clear hw1 c1 b1 h hc0 hK
 go_enter Try.func22, Try.ntmps22
 go_upto_region 1 with fail
 rw [← W1.out]
 generalize hgx : w.heap.size = gx at *
 go_wp2_with fail
 refine (outLL HW.out.sa (by have := HKK.out; omega)).mono ?_
 rintro r w2 ⟨B, c, l, rfl, o2, n2, p2, hs, hC⟩
 have WA : WP w0.heap.size w2 g a b (kk + 1) { wo with sa := outS wo.sa } Ar cr lr P0 c0 l0 P1 c1 l1 Q0 d0 m0 Q1 d1 m1 Aa Da Ab Db ((l.flatMap (fun x => blkOf x.2.2.2.2.1)) ++ F) := HW.out.sesa hC (fun z hz => by simp at hz; simp [hz]) (l.flatMap (fun x => blkOf x.2.2.2.2.1)) (K' := kk + 1) (by omega) Aa Da _ hs (fun z hz => .inl hz) (fun z hz => by
   obtain ⟨x, hx, hz⟩ := List.mem_flatMap.1 hz
   obtain ⟨y, hy, rfl⟩ := of_blkOf hz
   obtain ⟨j, hj, rfl⟩ := List.getElem_of_mem hx
   exact p2.lt (List.getElem?_eq_getElem hj) hy) (fun z hz => .inl hz) (fun z hz => Nat.lt_of_lt_of_le (HW.out.lo (a :: blkOf Aa) (by simp) z hz).2 hC.size) (fun z hz hm => by
   obtain ⟨x, hx, hz⟩ := List.mem_flatMap.1 hz
   obtain ⟨y, hy, rfl⟩ := of_blkOf hz
   obtain ⟨j, hj, rfl⟩ := List.getElem_of_mem hx
   have := (p2.lt (List.getElem?_eq_getElem hj) hy).1
   have := (HW.out.lo (a :: blkOf Aa) (by simp) _ hm).2
   omega) C0.out.size
 have PK := Lib.hid (p2.pk HW.out.sa.inv (F := (l.flatMap (fun x => blkOf x.2.2.2.2.1)) ++ F) (fun z hz => List.mem_append_left _ hz))
 have LL := Lib.hid (outL_len HW.out.sa.inv)
 have EL := Lib.hid p2.len
 have O2 := Lib.hid o2
 have N2 := Lib.hid n2
 have C2 := Lib.hid (C0.out.on hC (fun z hz => (HW.out.lo (a :: blkOf Aa) (by simp) z (by simp at hz; simp [hz])).1))
 have GB : Hid (∀ y, B = some y → y.block ≠ g) := Lib.hid (fun y hy q => by have := n2 y hy; have := lt_of_heap HW.out.hg; omega)
 replace HW := Lib.hid WA
 generalize hF2 : (l.flatMap (fun x => blkOf x.2.2.2.2.1)) ++ F = F2 at *
 clear hs hC o2 n2 p2 WA y0 y1 x0 x2 x3 BX hF2
 have e000 : List.map (fun p => (p, true)) (List.take 0 (outL wo.sa)) = [] := by simp
 go_wp2_with fail
 go_loopw [6] (fun v wr => ∃ k Ar cr lr P0 c0 l0 P1 c1 l1 Q0 d0 m0 Q1 d1 m1 Aa Da Ab Db F, k ≤ l.length ∧ v = .int .i64 (k : Int) ∧ Hid (WP w0.heap.size wr g a b (kk + 1) { wo with sa := outS wo.sa, air := wo.air ++ ((outL wo.sa).take k).map (fun p => (p, true)) } Ar cr lr P0 c0 l0 P1 c1 l1 Q0 d0 m0 Q1 d1 m1 Aa Da Ab Db F) ∧ Hid (OwnK pakTy wr B c l) ∧ Hid (PkP wr F l (outL wo.sa)) ∧ Hid (Chg [] w0 wr) ∧ Hid (lr.length ≤ 200)) (fun v _ => l.length - (RowKit.intOf v).toNat)
 case atStart => exact ⟨0, _, _, _, _, _, _, _, _, _, _, _, _, _, _, _, _, _, _, _, _, Nat.zero_le _, rfl, by rw [e000, List.append_nil]; exact HW.out, O2.out, PK.out, C2.out, Lib.hid (by have q : lr.length = wo.air.length := HW.out.pa.1; have := HA.out; omega)⟩
 case round =>
  clear HW O2 PK C2 C0 e000 LOW
  obtain ⟨k, Ar, cr, lr, P0, c0, l0, P1, c1, l1, Q0, d0, m0, Q1, d1, m1, Aa, Da, Ab, Db, F, hk, rfl, HW, O2, PK, C0, LQ⟩ := hrel
  have i0 : (0 : Int) ≤ (k : Int) := by omega
  have i1 : IntKind.i64.wrap ((k : Int) + 1) = (k : Int) + 1 := IntWalk.i64_in _ (by have := LL.out; have := EL.out; omega)
  have z2 := cell_of HW.out.hg 2
  simp only [List.getElem?_toArray, List.getElem?_cons_succ, List.getElem?_cons_zero] at z2
  have FI : Hid (∀ {r : Ending} (w' : World), r = .returned (.tuple #[]) → Chg [] wr w' → r = .returned (.tuple #[]) ∧ ∃ j, WL w0.heap.size w' g a b (kk + 2) { wo with sa := outS wo.sa, air := wo.air ++ ((outL wo.sa).take j).map (fun p => (p, true)) } ∧ wo.air.length + min j (outL wo.sa).length ≤ 200 ∧ Chg [] w0 w') := Lib.hid (fun w' hr hc => ⟨hr, k, ⟨_, _, _, _, _, _, _, _, _, _, _, _, _, _, _, _, _, _, _, _, (HW.out.off hc (by simp)).moreK (by omega)⟩, by have q := HW.out.pa.1; have q2 := LQ.out; simp only [List.length_append, List.length_map, List.length_take] at q; omega, C0.out.trans hc⟩)
  by_cases hlt : k < l.length
  ·have i2 : (k : Int) < (l.length : Int) := by omega
   have e1 : decide ((k : Int) < (l.length : Int)) = true := decide_eq_true i2
   by_cases h200 : lr.length < 200
   ·have i3 : (lr.length : Int) < 200 := by omega
    have e2 : decide ((lr.length : Int) < 200) = true := decide_eq_true i3
    obtain ⟨x, hx⟩ : ∃ x, l[k]? = some x := ⟨_, List.getElem?_eq_getElem hlt⟩
    obtain ⟨p, hp⟩ : ∃ p, (outL wo.sa)[k]? = some p := ⟨_, List.getElem?_eq_getElem (by have := EL.out; omega)⟩
    have FP := Lib.hid (PK.out.2 k x p true hx hp)
    have HP := Lib.hid hp
    have rd := O2.out.reads
    obtain ⟨gB, oB, eB, _⟩ := rd.line (by omega)
    rw [eB] at rd
    have PC := Lib.hid (fun (w' : World) (hc : Chg [] wr w') => pakCells (rd.chg hc (by simp)) hx)
    obtain ⟨x1, x2, x3, x4, xA, xn, xd⟩ := x
    dsimp only at PC
    have HXX := Lib.hid hx
    clear hx hp rd
    subst eB
    go_upto_region 15 with fail
    clear z2
    refine wp_region_held_drew (S := fun w' => w'.cell? ⟨gB, oB + k * 5, none⟩ = some (.int .i64 x1) ∧ w'.cell? ⟨gB, oB + k * 5 + 1, none⟩ = some (.int .i64 x2) ∧ w'.cell? ⟨gB, oB + k * 5 + 2, none⟩ = some (.int .i64 x3) ∧ w'.cell? ⟨gB, oB + k * 5 + 3, none⟩ = some (.int .i64 x4) ∧ w'.cell? ⟨gB, oB + k * 5 + 4, none⟩ = some (.slice xA xn xd)) (by kernel_rfl) (PC.out _ (Chg.refl [] wr).drew) (fun hHeld => ?_)
    have CD := Lib.hid (Chg.refl [] wr).drew
    have PCD := Lib.hid (fun (S : List Nat) (w' : World) (hc : Chg S wr.drew w') (hn : gB ∉ S) => (have q := PC.out _ CD.out; ⟨hc.cell q.1 hn, hc.cell q.2.1 hn, hc.cell q.2.2.1 hn, hc.cell q.2.2.2.1 hn, hc.cell q.2.2.2.2 hn⟩ : w'.cell? ⟨gB, oB + k * 5, none⟩ = some (.int .i64 x1) ∧ w'.cell? ⟨gB, oB + k * 5 + 1, none⟩ = some (.int .i64 x2) ∧ w'.cell? ⟨gB, oB + k * 5 + 2, none⟩ = some (.int .i64 x3) ∧ w'.cell? ⟨gB, oB + k * 5 + 3, none⟩ = some (.int .i64 x4) ∧ w'.cell? ⟨gB, oB + k * 5 + 4, none⟩ = some (.slice xA xn xd)))
    replace HW := Lib.hid (HW.out.off CD.out (by simp))
    replace O2 := Lib.hid (O2.out.chg CD.out (by simp))
    replace PK := Lib.hid (PK.out.chg CD.out (by simp))
    replace C0 := Lib.hid (C0.out.trans CD.out)
    have FPD := Lib.hid (PK.out.2 k (x1, x2, x3, x4, xA, xn, xd) p true HXX.out HP.out)
    have GP : Hid (g ∉ blkOf Ar ∧ gB ∉ blkOf Ar ∧ gB ≠ g) := Lib.hid ⟨fun q => HW.out.pw.pick (i := 0) (j := 1) rfl rfl (by decide) g (by simp) q, fun q => by obtain ⟨y, hy, q2⟩ := of_blkOf q; exact apartPF O2.out HW.out.oa _ y rfl hy q2.symm, GB.out _ rfl⟩
    clear PC FP
    generalize wr.drew = wd at *
    refine sy 0 71 rfl rfl ?_
    try simp only [Act.put, sA, s0, s1]
    refine sy 1 72 rfl rfl ?_
    try simp only [Act.put, sA, s0, s1]
    refine sy 2 73 rfl rfl ?_
    try simp only [Act.put, sA, s0, s1]
    refine sy 3 74 rfl rfl ?_
    try simp only [Act.put, sA, s0, s1]
    refine sy 5 76 rfl rfl ?_
    try simp only [Act.put, sA, s0, s1]
    refine sy 6 77 rfl rfl ?_
    try simp only [Act.put, sA, s0, s1]
    refine sy 7 78 rfl rfl ?_
    try simp only [Act.put, sA, s0, s1]
    refine sy 8 79 rfl rfl ?_ (hy := by (intro w hSw; (try dsimp only at hSw); (obtain ⟨q1, q2, q3, q4, q5⟩ := hSw); go_simp; try with_reducible rfl))
    try simp only [Act.put, sA, s0, s1]
    refine sy 9 80 rfl rfl ?_
    try simp only [Act.put, sA, s0, s1]
    refine sy 10 81 rfl rfl ?_
    try simp only [Act.put, sA, s0, s1]
    refine sy 11 82 rfl rfl ?_
    try simp only [Act.put, sA, s0, s1]
    refine wpAnyH_ready (rs := [4, 12]) (by kernel_rfl) (by simp) ?_
    refine AllReadyH.cons rfl (fun K hK => ?_) (AllReadyH.cons rfl (fun K hK => ?_) AllReadyH.nil)
    ·skip
     replace hK := Lib.hid hK
     have z := cell_of (Chg.at_ (Chg.refl [] wd) HW.out.hg (by simp)) 2
     simp only [List.getElem?_toArray, List.getElem?_cons_succ, List.getElem?_cons_zero] at z
     go_simp
     clear z
     refine hK.out _ _ (PCD.out [] _ (Chg.refl [] wd) (by simp)) (fun hHeld => ?_)
     clear hK K
     try simp only [Act.put, sA, s0, s1]
     refine wpAnyH_ready (rs := [12]) (by kernel_rfl) (by simp) ?_
     refine AllReadyH.cons rfl (fun K hK => ?_) AllReadyH.nil
     replace hK := Lib.hid hK
     obtain ⟨w4, hw4, c4, m4⟩ := news1 wd (.cells #[.int .i64 x1, .int .i64 x2, .int .i64 x3, .int .i64 x4, .slice xA xn xd, .bool true] 63)
     have W4 := Lib.hid hw4
     have M4 : Hid (RdK flTy w4 (some ⟨wd.heap.size, 0, none⟩) 1 [(((x1, x2, x3, x4, xA, xn, xd), true) : FlV)]) := Lib.hid (row_one m4)
     have C4 := Lib.hid c4
     clear hw4 c4 m4
     go_simp
     rw [← W4.out]
     clear hHeld W4
     refine hK.out _ _ (PCD.out [] _ C4.out (by simp)) (fun hHeld => ?_)
     clear hK K
     try simp only [Act.put, sA, s0, s1]
     refine wpAnyH_ready (rs := [13]) (by kernel_rfl) (by simp) ?_
     refine AllReadyH.cons rfl (fun K hK => ?_) AllReadyH.nil
     replace hK := Lib.hid hK
     refine step_appK (R := flTy) rfl (.tmp 75) (.tmp 83) rfl rfl (A := Ar) (B := some ⟨wd.heap.size, 0, none⟩) (n := lr.length) (m := 1) (c := cr) (d := 1) (xs := lr) (ys := [(((x1, x2, x3, x4, xA, xn, xd), true) : FlV)]) (HW.out.oa.chg C4.out (by simp)) rfl rfl M4.out (by omega) ?_
     intro A5 c5 w5 o5 g5 e5
     have O5 := Lib.hid o5
     have C5 : Hid (Chg (blkOf Ar) w4 w5) := Lib.hid ((Chg.refl (blkOf Ar) w4).grown g5 (fun k hk => .inl (by simpa [blkOf] using hk)))
     have E5 := Lib.hid e5
     have HG5 := Lib.hid (C5.out.at_ (C4.out.at_ HW.out.hg (by simp)) GP.out.1)
     clear o5 g5 e5 hHeld
     refine hK.out _ _ (PCD.out (g :: blkOf Ar) _ ((C4.out.mono (S' := g :: blkOf Ar) (by simp)).trans (C5.out.mono (fun z hz => .inl (List.mem_cons_of_mem _ hz)))) (by simp; exact ⟨GP.out.2.2, GP.out.2.1⟩)) (fun hHeld => ?_)
     clear hK K
     try simp only [Act.put, sA, s0, s1]
     refine sy 14 85 rfl rfl ?_
     try simp only [Act.put, sA, s0, s1]
     refine sy 15 86 rfl rfl ?_
     try simp only [Act.put, sA, s0, s1]
     refine wpAnyH_ready (rs := [16]) (by kernel_rfl) (by simp) ?_
     refine AllReadyH.cons rfl (fun K hK => ?_) AllReadyH.nil
     replace hK := Lib.hid hK
     have z := cell_of HG5.out 2
     have fz := free_of HG5.out 2
     simp only [List.getElem?_toArray, List.getElem?_cons_succ, List.getElem?_cons_zero] at z
     go_simp
     clear z fz hHeld
     refine hK.out _ _ (PCD.out (g :: blkOf Ar) _ (((C4.out.mono (S' := g :: blkOf Ar) (by simp)).trans (C5.out.mono (fun z hz => .inl (List.mem_cons_of_mem _ hz)))).trans (((Chg.refl [g] w5).setCell (p := ⟨g, 2, none⟩) (.inl (by simp)) (.slice A5 (lr.length + 1) c5)).mono (fun z hz => .inl (by simp at hz; simp [hz])))) (by simp; exact ⟨GP.out.2.2, GP.out.2.1⟩)) (fun hHeld => ?_)
     clear hK K
     try simp only [Act.put, sA, s0, s1]
     refine wpAnyH_done (by kernel_rfl) ?_ _
     have hg' := heap_setCell_same _ g 2 _ _ (.slice A5 (lr.length + 1) c5) HG5.out
     have cg : Chg [g] w5 (w5.setCell ⟨g, 2, none⟩ (.slice A5 (lr.length + 1) c5)) := (Chg.refl [g] w5).setCell (.inl (by simp)) _
     have hc : Chg (g :: blkOf Ar) wd (w5.setCell ⟨g, 2, none⟩ (.slice A5 (lr.length + 1) c5)) := ((C4.out.mono (S' := g :: blkOf Ar) (by simp)).trans (C5.out.mono (fun z hz => .inl (List.mem_cons_of_mem _ hz)))).trans (cg.mono (fun z hz => .inl (by simp at hz; simp [hz])))
     generalize w5.setCell ⟨g, 2, none⟩ (.slice A5 (lr.length + 1) c5) = w6 at *
     have S56 := cg.size
     have S45 := C5.out.size
     have S34 := C4.out.size
     have A5N : ∀ x, A5 = some x → Ar = some x ∨ wd.heap.size ≤ x.block := fun x hx => by
      rcases E5.out with q | q
      ·exact .inl (q ▸ hx)
      ·right; rw [q] at hx; cases hx; simp only; omega
     have glt : g < wd.heap.size := lt_of_heap HW.out.hg
     have A5g : g ∉ blkOf A5 := fun hm => by
      obtain ⟨x, hx, q⟩ := of_blkOf hm
      rcases A5N x hx with q2 | q2
      ·exact GP.out.1 (by rw [← q]; exact mem_blkOf q2)
      ·omega
     have frz : ∀ z ∈ F, z ∉ g :: blkOf Ar := fun z hz hm => by
      rcases List.mem_cons.1 hm with q | q
      ·exact HW.out.pw.pick (i := 8) (j := 0) rfl rfl (by decide) z hz (by simp [q])
      ·exact HW.out.pw.pick (i := 8) (j := 1) rfl rfl (by decide) z hz q
     have o6 := O5.out.chg cg (fun x hx hm => A5g (by simp at hm; rw [← hm]; exact mem_blkOf hx))
     have PK6 := Lib.hid (PK.out.chg hc frz)
     have fp6 := PK6.out.2 k (x1, x2, x3, x4, xA, xn, xd) p true HXX.out HP.out
     have O26 := Lib.hid (O2.out.chg hc (by rintro y hy hm; cases hy; rcases List.mem_cons.1 hm with q | q; exact GP.out.2.2 q; exact GP.out.2.1 q))
     have C6 := Lib.hid (C0.out.on hc (fun z hz => by
      rcases List.mem_cons.1 hz with q | q
      ·exact (HW.out.lo [g] (by simp) z (by simp [q])).1
      ·exact (HW.out.lo (blkOf Ar) (by simp) z q).1))
     have HW6 := Lib.hid (HW.out.rowA hc (fun z hz => List.mem_cons.1 hz) [] (K' := kk + 1) (by omega) A5 c5 (lr ++ [(((x1, x2, x3, x4, xA, xn, xd), true) : FlV)]) _ (by rw [hg']; simp) o6 (ap_snoc (HW.out.pa.chg hc frz) (fun z hz => List.mem_append_right _ hz) fp6) (by simp) (fun z hz => by obtain ⟨y, hy, rfl⟩ := of_blkOf hz; exact (A5N y hy).imp (fun q => mem_blkOf q) id) (fun z hz => by obtain ⟨y, hy, rfl⟩ := of_blkOf hz; exact o6.lt y hy) (by simp) C0.out.size)
     have AE := Lib.hid (air_take wo.air (outL wo.sa) k p true HP.out)
     clear hg' cg hc S56 S45 S34 A5N glt A5g frz o6 fp6
     go_wp2
     go_round
     case measure => simp [RowKit.intOf]; omega
     refine ⟨k + 1, A5, c5, lr ++ [(((x1, x2, x3, x4, xA, xn, xd), true) : FlV)], P0, c0, l0, P1, c1, l1, Q0, d0, m0, Q1, d1, m1, Aa, Da, Ab, Db, F, by omega, by go_num, ?_, O26.out, PK6.out, C6.out, Lib.hid (by simp; omega)⟩
     rw [AE.out]
     exact HW6.out
    ·skip
     replace hK := Lib.hid hK
     obtain ⟨w4, hw4, c4, m4⟩ := news1 wd (.cells #[.int .i64 x1, .int .i64 x2, .int .i64 x3, .int .i64 x4, .slice xA xn xd, .bool true] 63)
     have W4 := Lib.hid hw4
     have M4 : Hid (RdK flTy w4 (some ⟨wd.heap.size, 0, none⟩) 1 [(((x1, x2, x3, x4, xA, xn, xd), true) : FlV)]) := Lib.hid (row_one m4)
     have C4 := Lib.hid c4
     clear hw4 c4 m4
     go_simp
     rw [← W4.out]
     clear hHeld W4
     refine hK.out _ _ (PCD.out [] _ C4.out (by simp)) (fun hHeld => ?_)
     clear hK K
     try simp only [Act.put, sA, s0, s1]
     refine wpAnyH_ready (rs := [4]) (by kernel_rfl) (by simp) ?_
     refine AllReadyH.cons rfl (fun K hK => ?_) AllReadyH.nil
     replace hK := Lib.hid hK
     have z := cell_of (Chg.at_ C4.out HW.out.hg (by simp)) 2
     simp only [List.getElem?_toArray, List.getElem?_cons_succ, List.getElem?_cons_zero] at z
     go_simp
     clear z
     refine hK.out _ _ (PCD.out [] _ C4.out (by simp)) (fun hHeld => ?_)
     clear hK K
     try simp only [Act.put, sA, s0, s1]
     refine wpAnyH_ready (rs := [13]) (by kernel_rfl) (by simp) ?_
     refine AllReadyH.cons rfl (fun K hK => ?_) AllReadyH.nil
     replace hK := Lib.hid hK
     refine step_appK (R := flTy) rfl (.tmp 75) (.tmp 83) rfl rfl (A := Ar) (B := some ⟨wd.heap.size, 0, none⟩) (n := lr.length) (m := 1) (c := cr) (d := 1) (xs := lr) (ys := [(((x1, x2, x3, x4, xA, xn, xd), true) : FlV)]) (HW.out.oa.chg C4.out (by simp)) rfl rfl M4.out (by omega) ?_
     intro A5 c5 w5 o5 g5 e5
     have O5 := Lib.hid o5
     have C5 : Hid (Chg (blkOf Ar) w4 w5) := Lib.hid ((Chg.refl (blkOf Ar) w4).grown g5 (fun k hk => .inl (by simpa [blkOf] using hk)))
     have E5 := Lib.hid e5
     have HG5 := Lib.hid (C5.out.at_ (C4.out.at_ HW.out.hg (by simp)) GP.out.1)
     clear o5 g5 e5 hHeld
     refine hK.out _ _ (PCD.out (g :: blkOf Ar) _ ((C4.out.mono (S' := g :: blkOf Ar) (by simp)).trans (C5.out.mono (fun z hz => .inl (List.mem_cons_of_mem _ hz)))) (by simp; exact ⟨GP.out.2.2, GP.out.2.1⟩)) (fun hHeld => ?_)
     clear hK K
     try simp only [Act.put, sA, s0, s1]
     refine sy 14 85 rfl rfl ?_
     try simp only [Act.put, sA, s0, s1]
     refine sy 15 86 rfl rfl ?_
     try simp only [Act.put, sA, s0, s1]
     refine wpAnyH_ready (rs := [16]) (by kernel_rfl) (by simp) ?_
     refine AllReadyH.cons rfl (fun K hK => ?_) AllReadyH.nil
     replace hK := Lib.hid hK
     have z := cell_of HG5.out 2
     have fz := free_of HG5.out 2
     simp only [List.getElem?_toArray, List.getElem?_cons_succ, List.getElem?_cons_zero] at z
     go_simp
     clear z fz hHeld
     refine hK.out _ _ (PCD.out (g :: blkOf Ar) _ (((C4.out.mono (S' := g :: blkOf Ar) (by simp)).trans (C5.out.mono (fun z hz => .inl (List.mem_cons_of_mem _ hz)))).trans (((Chg.refl [g] w5).setCell (p := ⟨g, 2, none⟩) (.inl (by simp)) (.slice A5 (lr.length + 1) c5)).mono (fun z hz => .inl (by simp at hz; simp [hz])))) (by simp; exact ⟨GP.out.2.2, GP.out.2.1⟩)) (fun hHeld => ?_)
     clear hK K
     try simp only [Act.put, sA, s0, s1]
     refine wpAnyH_done (by kernel_rfl) ?_ _
     have hg' := heap_setCell_same _ g 2 _ _ (.slice A5 (lr.length + 1) c5) HG5.out
     have cg : Chg [g] w5 (w5.setCell ⟨g, 2, none⟩ (.slice A5 (lr.length + 1) c5)) := (Chg.refl [g] w5).setCell (.inl (by simp)) _
     have hc : Chg (g :: blkOf Ar) wd (w5.setCell ⟨g, 2, none⟩ (.slice A5 (lr.length + 1) c5)) := ((C4.out.mono (S' := g :: blkOf Ar) (by simp)).trans (C5.out.mono (fun z hz => .inl (List.mem_cons_of_mem _ hz)))).trans (cg.mono (fun z hz => .inl (by simp at hz; simp [hz])))
     generalize w5.setCell ⟨g, 2, none⟩ (.slice A5 (lr.length + 1) c5) = w6 at *
     have S56 := cg.size
     have S45 := C5.out.size
     have S34 := C4.out.size
     have A5N : ∀ x, A5 = some x → Ar = some x ∨ wd.heap.size ≤ x.block := fun x hx => by
      rcases E5.out with q | q
      ·exact .inl (q ▸ hx)
      ·right; rw [q] at hx; cases hx; simp only; omega
     have glt : g < wd.heap.size := lt_of_heap HW.out.hg
     have A5g : g ∉ blkOf A5 := fun hm => by
      obtain ⟨x, hx, q⟩ := of_blkOf hm
      rcases A5N x hx with q2 | q2
      ·exact GP.out.1 (by rw [← q]; exact mem_blkOf q2)
      ·omega
     have frz : ∀ z ∈ F, z ∉ g :: blkOf Ar := fun z hz hm => by
      rcases List.mem_cons.1 hm with q | q
      ·exact HW.out.pw.pick (i := 8) (j := 0) rfl rfl (by decide) z hz (by simp [q])
      ·exact HW.out.pw.pick (i := 8) (j := 1) rfl rfl (by decide) z hz q
     have o6 := O5.out.chg cg (fun x hx hm => A5g (by simp at hm; rw [← hm]; exact mem_blkOf hx))
     have PK6 := Lib.hid (PK.out.chg hc frz)
     have fp6 := PK6.out.2 k (x1, x2, x3, x4, xA, xn, xd) p true HXX.out HP.out
     have O26 := Lib.hid (O2.out.chg hc (by rintro y hy hm; cases hy; rcases List.mem_cons.1 hm with q | q; exact GP.out.2.2 q; exact GP.out.2.1 q))
     have C6 := Lib.hid (C0.out.on hc (fun z hz => by
      rcases List.mem_cons.1 hz with q | q
      ·exact (HW.out.lo [g] (by simp) z (by simp [q])).1
      ·exact (HW.out.lo (blkOf Ar) (by simp) z q).1))
     have HW6 := Lib.hid (HW.out.rowA hc (fun z hz => List.mem_cons.1 hz) [] (K' := kk + 1) (by omega) A5 c5 (lr ++ [(((x1, x2, x3, x4, xA, xn, xd), true) : FlV)]) _ (by rw [hg']; simp) o6 (ap_snoc (HW.out.pa.chg hc frz) (fun z hz => List.mem_append_right _ hz) fp6) (by simp) (fun z hz => by obtain ⟨y, hy, rfl⟩ := of_blkOf hz; exact (A5N y hy).imp (fun q => mem_blkOf q) id) (fun z hz => by obtain ⟨y, hy, rfl⟩ := of_blkOf hz; exact o6.lt y hy) (by simp) C0.out.size)
     have AE := Lib.hid (air_take wo.air (outL wo.sa) k p true HP.out)
     clear hg' cg hc S56 S45 S34 A5N glt A5g frz o6 fp6
     go_wp2
     go_round
     case measure => simp [RowKit.intOf]; omega
     refine ⟨k + 1, A5, c5, lr ++ [(((x1, x2, x3, x4, xA, xn, xd), true) : FlV)], P0, c0, l0, P1, c1, l1, Q0, d0, m0, Q1, d1, m1, Aa, Da, Ab, Db, F, by omega, by go_num, ?_, O26.out, PK6.out, C6.out, Lib.hid (by simp; omega)⟩
     rw [AE.out]
     exact HW6.out
   ·have i3 : ¬ (lr.length : Int) < 200 := by omega
    have e2 : decide ((lr.length : Int) < 200) = false := decide_eq_false i3
    go_wp2
    go_end0
    obtain ⟨q1, j, q2, q4, q3⟩ := FI.out _ rfl (Chg.refl _ _)
    exact ⟨q1, j, by simpa only [List.map_take] using q2, q4, q3⟩
  ·have i2 : ¬ (k : Int) < (l.length : Int) := by omega
   have e1 : decide ((k : Int) < (l.length : Int)) = false := decide_eq_false i2
   go_wp2
   go_end0
   obtain ⟨q1, j, q2, q4, q3⟩ := FI.out _ rfl (Chg.refl _ _)
   exact ⟨q1, j, by simpa only [List.map_take] using q2, q4, q3⟩

set_option maxHeartbeats 8000000 in
set_option maxRecDepth 100000 in
theorem turn_out_b (w0 w : World) (g a b kk : Nat) (wo : WoT) (hW : WL w0.heap.size w g a b kk wo) (hc0 : Chg [] w0 w) (hK : kk ≤ 400000) (wh : Int) (Y : Option Addr) (m e : Nat) (ha : wo.air.length ≤ 200) : Calls Try.prog 22 #[.pointer (some ⟨g, 0, none⟩), .agg #[.int .i64 2, .int .i64 wh, .bool true, .slice Y m e]] w fun r w' => r = .returned (.tuple #[]) ∧ ∃ j, WL w0.heap.size w' g a b (kk + 2) { wo with sb := outS wo.sb, air := wo.air ++ ((outL wo.sb).take j).map (fun p => (p, false)) } ∧ wo.air.length + min j (outL wo.sb).length ≤ 200 ∧ Chg [] w0 w' := by
 have HA := Lib.hid ha
 clear ha
 obtain ⟨Ar, cr, lr, P0, c0, l0, P1, c1, l1, Q0, d0, m0, Q1, d1, m1, Aa, Da, Ab, Db, F, h⟩ := hW
 obtain ⟨w1, hw1, c1, b1⟩ := news1 w (.cells #[.int .i64 2, .int .i64 wh, .bool true, .slice Y m e] 58)
 have W1 := Lib.hid hw1
 have HW := Lib.hid (h.off c1 (by simp))
 have C0 := Lib.hid (hc0.trans c1)
 have BX := Lib.hid b1
 have GX := Lib.hid (show w0.heap.size ≤ w.heap.size ∧ g < w.heap.size ∧ w.heap.size < w1.heap.size from ⟨hc0.size, lt_of_heap h.hg, lt_of_heap b1⟩)
 have LOW := Lib.hid (fun l hl z hz => (h.lo l hl z hz).2)
 have HKK := Lib.hid hK
 have y0 := cell_of HW.out.hg 0
 have y1 := cell_of HW.out.hg 1
 simp only [List.getElem?_toArray, List.getElem?_cons_succ, List.getElem?_cons_zero] at y0 y1
 have x0 := cell_of b1 0
 have x2 := cell_of b1 2
 have x3 := cell_of b1 3
 simp only [List.getElem?_toArray, List.getElem?_cons_succ, List.getElem?_cons_zero] at x0 x2 x3
 clear hw1 c1 b1 h hc0 hK
 go_enter Try.func22, Try.ntmps22
 go_upto_region 1 with fail
 rw [← W1.out]
 generalize hgx : w.heap.size = gx at *
 go_wp2_with fail
 refine (outLL HW.out.sb (by have := HKK.out; omega)).mono ?_
 rintro r w2 ⟨B, c, l, rfl, o2, n2, p2, hs, hC⟩
 have WA : WP w0.heap.size w2 g a b (kk + 1) { wo with sb := outS wo.sb } Ar cr lr P0 c0 l0 P1 c1 l1 Q0 d0 m0 Q1 d1 m1 Aa Da Ab Db ((l.flatMap (fun x => blkOf x.2.2.2.2.1)) ++ F) := HW.out.sesb hC (fun z hz => by simp at hz; simp [hz]) (l.flatMap (fun x => blkOf x.2.2.2.2.1)) (K' := kk + 1) (by omega) Ab Db _ hs (fun z hz => .inl hz) (fun z hz => by
   obtain ⟨x, hx, hz⟩ := List.mem_flatMap.1 hz
   obtain ⟨y, hy, rfl⟩ := of_blkOf hz
   obtain ⟨j, hj, rfl⟩ := List.getElem_of_mem hx
   exact p2.lt (List.getElem?_eq_getElem hj) hy) (fun z hz => .inl hz) (fun z hz => Nat.lt_of_lt_of_le (HW.out.lo (b :: blkOf Ab) (by simp) z hz).2 hC.size) (fun z hz hm => by
   obtain ⟨x, hx, hz⟩ := List.mem_flatMap.1 hz
   obtain ⟨y, hy, rfl⟩ := of_blkOf hz
   obtain ⟨j, hj, rfl⟩ := List.getElem_of_mem hx
   have := (p2.lt (List.getElem?_eq_getElem hj) hy).1
   have := (HW.out.lo (b :: blkOf Ab) (by simp) _ hm).2
   omega) C0.out.size
 have PK := Lib.hid (p2.pk HW.out.sb.inv (F := (l.flatMap (fun x => blkOf x.2.2.2.2.1)) ++ F) (fun z hz => List.mem_append_left _ hz))
 have LL := Lib.hid (outL_len HW.out.sb.inv)
 have EL := Lib.hid p2.len
 have O2 := Lib.hid o2
 have N2 := Lib.hid n2
 have C2 := Lib.hid (C0.out.on hC (fun z hz => (HW.out.lo (b :: blkOf Ab) (by simp) z (by simp at hz; simp [hz])).1))
 have GB : Hid (∀ y, B = some y → y.block ≠ g) := Lib.hid (fun y hy q => by have := n2 y hy; have := lt_of_heap HW.out.hg; omega)
 replace HW := Lib.hid WA
 generalize hF2 : (l.flatMap (fun x => blkOf x.2.2.2.2.1)) ++ F = F2 at *
 clear hs hC o2 n2 p2 WA y0 y1 x0 x2 x3 BX hF2
 have e000 : List.map (fun p => (p, false)) (List.take 0 (outL wo.sb)) = [] := by simp
 go_wp2_with fail
 go_loopw [6] (fun v wr => ∃ k Ar cr lr P0 c0 l0 P1 c1 l1 Q0 d0 m0 Q1 d1 m1 Aa Da Ab Db F, k ≤ l.length ∧ v = .int .i64 (k : Int) ∧ Hid (WP w0.heap.size wr g a b (kk + 1) { wo with sb := outS wo.sb, air := wo.air ++ ((outL wo.sb).take k).map (fun p => (p, false)) } Ar cr lr P0 c0 l0 P1 c1 l1 Q0 d0 m0 Q1 d1 m1 Aa Da Ab Db F) ∧ Hid (OwnK pakTy wr B c l) ∧ Hid (PkP wr F l (outL wo.sb)) ∧ Hid (Chg [] w0 wr) ∧ Hid (lr.length ≤ 200)) (fun v _ => l.length - (RowKit.intOf v).toNat)
 case atStart => exact ⟨0, _, _, _, _, _, _, _, _, _, _, _, _, _, _, _, _, _, _, _, _, Nat.zero_le _, rfl, by rw [e000, List.append_nil]; exact HW.out, O2.out, PK.out, C2.out, Lib.hid (by have q : lr.length = wo.air.length := HW.out.pa.1; have := HA.out; omega)⟩
 case round =>
  clear HW O2 PK C2 C0 e000 LOW
  obtain ⟨k, Ar, cr, lr, P0, c0, l0, P1, c1, l1, Q0, d0, m0, Q1, d1, m1, Aa, Da, Ab, Db, F, hk, rfl, HW, O2, PK, C0, LQ⟩ := hrel
  have i0 : (0 : Int) ≤ (k : Int) := by omega
  have i1 : IntKind.i64.wrap ((k : Int) + 1) = (k : Int) + 1 := IntWalk.i64_in _ (by have := LL.out; have := EL.out; omega)
  have z2 := cell_of HW.out.hg 2
  simp only [List.getElem?_toArray, List.getElem?_cons_succ, List.getElem?_cons_zero] at z2
  have FI : Hid (∀ {r : Ending} (w' : World), r = .returned (.tuple #[]) → Chg [] wr w' → r = .returned (.tuple #[]) ∧ ∃ j, WL w0.heap.size w' g a b (kk + 2) { wo with sb := outS wo.sb, air := wo.air ++ ((outL wo.sb).take j).map (fun p => (p, false)) } ∧ wo.air.length + min j (outL wo.sb).length ≤ 200 ∧ Chg [] w0 w') := Lib.hid (fun w' hr hc => ⟨hr, k, ⟨_, _, _, _, _, _, _, _, _, _, _, _, _, _, _, _, _, _, _, _, (HW.out.off hc (by simp)).moreK (by omega)⟩, by have q := HW.out.pa.1; have q2 := LQ.out; simp only [List.length_append, List.length_map, List.length_take] at q; omega, C0.out.trans hc⟩)
  by_cases hlt : k < l.length
  ·have i2 : (k : Int) < (l.length : Int) := by omega
   have e1 : decide ((k : Int) < (l.length : Int)) = true := decide_eq_true i2
   by_cases h200 : lr.length < 200
   ·have i3 : (lr.length : Int) < 200 := by omega
    have e2 : decide ((lr.length : Int) < 200) = true := decide_eq_true i3
    obtain ⟨x, hx⟩ : ∃ x, l[k]? = some x := ⟨_, List.getElem?_eq_getElem hlt⟩
    obtain ⟨p, hp⟩ : ∃ p, (outL wo.sb)[k]? = some p := ⟨_, List.getElem?_eq_getElem (by have := EL.out; omega)⟩
    have FP := Lib.hid (PK.out.2 k x p false hx hp)
    have HP := Lib.hid hp
    have rd := O2.out.reads
    obtain ⟨gB, oB, eB, _⟩ := rd.line (by omega)
    rw [eB] at rd
    have PC := Lib.hid (fun (w' : World) (hc : Chg [] wr w') => pakCells (rd.chg hc (by simp)) hx)
    obtain ⟨x1, x2, x3, x4, xA, xn, xd⟩ := x
    dsimp only at PC
    have HXX := Lib.hid hx
    clear hx hp rd
    subst eB
    go_upto_region 15 with fail
    clear z2
    refine wp_region_held_drew (S := fun w' => w'.cell? ⟨gB, oB + k * 5, none⟩ = some (.int .i64 x1) ∧ w'.cell? ⟨gB, oB + k * 5 + 1, none⟩ = some (.int .i64 x2) ∧ w'.cell? ⟨gB, oB + k * 5 + 2, none⟩ = some (.int .i64 x3) ∧ w'.cell? ⟨gB, oB + k * 5 + 3, none⟩ = some (.int .i64 x4) ∧ w'.cell? ⟨gB, oB + k * 5 + 4, none⟩ = some (.slice xA xn xd)) (by kernel_rfl) (PC.out _ (Chg.refl [] wr).drew) (fun hHeld => ?_)
    have CD := Lib.hid (Chg.refl [] wr).drew
    have PCD := Lib.hid (fun (S : List Nat) (w' : World) (hc : Chg S wr.drew w') (hn : gB ∉ S) => (have q := PC.out _ CD.out; ⟨hc.cell q.1 hn, hc.cell q.2.1 hn, hc.cell q.2.2.1 hn, hc.cell q.2.2.2.1 hn, hc.cell q.2.2.2.2 hn⟩ : w'.cell? ⟨gB, oB + k * 5, none⟩ = some (.int .i64 x1) ∧ w'.cell? ⟨gB, oB + k * 5 + 1, none⟩ = some (.int .i64 x2) ∧ w'.cell? ⟨gB, oB + k * 5 + 2, none⟩ = some (.int .i64 x3) ∧ w'.cell? ⟨gB, oB + k * 5 + 3, none⟩ = some (.int .i64 x4) ∧ w'.cell? ⟨gB, oB + k * 5 + 4, none⟩ = some (.slice xA xn xd)))
    replace HW := Lib.hid (HW.out.off CD.out (by simp))
    replace O2 := Lib.hid (O2.out.chg CD.out (by simp))
    replace PK := Lib.hid (PK.out.chg CD.out (by simp))
    replace C0 := Lib.hid (C0.out.trans CD.out)
    have FPD := Lib.hid (PK.out.2 k (x1, x2, x3, x4, xA, xn, xd) p false HXX.out HP.out)
    have GP : Hid (g ∉ blkOf Ar ∧ gB ∉ blkOf Ar ∧ gB ≠ g) := Lib.hid ⟨fun q => HW.out.pw.pick (i := 0) (j := 1) rfl rfl (by decide) g (by simp) q, fun q => by obtain ⟨y, hy, q2⟩ := of_blkOf q; exact apartPF O2.out HW.out.oa _ y rfl hy q2.symm, GB.out _ rfl⟩
    clear PC FP
    generalize wr.drew = wd at *
    refine sy 0 71 rfl rfl ?_
    try simp only [Act.put, sA, s0, s1]
    refine sy 1 72 rfl rfl ?_
    try simp only [Act.put, sA, s0, s1]
    refine sy 2 73 rfl rfl ?_
    try simp only [Act.put, sA, s0, s1]
    refine sy 3 74 rfl rfl ?_
    try simp only [Act.put, sA, s0, s1]
    refine sy 5 76 rfl rfl ?_
    try simp only [Act.put, sA, s0, s1]
    refine sy 6 77 rfl rfl ?_
    try simp only [Act.put, sA, s0, s1]
    refine sy 7 78 rfl rfl ?_
    try simp only [Act.put, sA, s0, s1]
    refine sy 8 79 rfl rfl ?_ (hy := by (intro w hSw; (try dsimp only at hSw); (obtain ⟨q1, q2, q3, q4, q5⟩ := hSw); go_simp; try with_reducible rfl))
    try simp only [Act.put, sA, s0, s1]
    refine sy 9 80 rfl rfl ?_
    try simp only [Act.put, sA, s0, s1]
    refine sy 10 81 rfl rfl ?_
    try simp only [Act.put, sA, s0, s1]
    refine sy 11 82 rfl rfl ?_
    try simp only [Act.put, sA, s0, s1]
    refine wpAnyH_ready (rs := [4, 12]) (by kernel_rfl) (by simp) ?_
    refine AllReadyH.cons rfl (fun K hK => ?_) (AllReadyH.cons rfl (fun K hK => ?_) AllReadyH.nil)
    ·skip
     replace hK := Lib.hid hK
     have z := cell_of (Chg.at_ (Chg.refl [] wd) HW.out.hg (by simp)) 2
     simp only [List.getElem?_toArray, List.getElem?_cons_succ, List.getElem?_cons_zero] at z
     go_simp
     clear z
     refine hK.out _ _ (PCD.out [] _ (Chg.refl [] wd) (by simp)) (fun hHeld => ?_)
     clear hK K
     try simp only [Act.put, sA, s0, s1]
     refine wpAnyH_ready (rs := [12]) (by kernel_rfl) (by simp) ?_
     refine AllReadyH.cons rfl (fun K hK => ?_) AllReadyH.nil
     replace hK := Lib.hid hK
     obtain ⟨w4, hw4, c4, m4⟩ := news1 wd (.cells #[.int .i64 x1, .int .i64 x2, .int .i64 x3, .int .i64 x4, .slice xA xn xd, .bool false] 63)
     have W4 := Lib.hid hw4
     have M4 : Hid (RdK flTy w4 (some ⟨wd.heap.size, 0, none⟩) 1 [(((x1, x2, x3, x4, xA, xn, xd), false) : FlV)]) := Lib.hid (row_one m4)
     have C4 := Lib.hid c4
     clear hw4 c4 m4
     go_simp
     rw [← W4.out]
     clear hHeld W4
     refine hK.out _ _ (PCD.out [] _ C4.out (by simp)) (fun hHeld => ?_)
     clear hK K
     try simp only [Act.put, sA, s0, s1]
     refine wpAnyH_ready (rs := [13]) (by kernel_rfl) (by simp) ?_
     refine AllReadyH.cons rfl (fun K hK => ?_) AllReadyH.nil
     replace hK := Lib.hid hK
     refine step_appK (R := flTy) rfl (.tmp 75) (.tmp 83) rfl rfl (A := Ar) (B := some ⟨wd.heap.size, 0, none⟩) (n := lr.length) (m := 1) (c := cr) (d := 1) (xs := lr) (ys := [(((x1, x2, x3, x4, xA, xn, xd), false) : FlV)]) (HW.out.oa.chg C4.out (by simp)) rfl rfl M4.out (by omega) ?_
     intro A5 c5 w5 o5 g5 e5
     have O5 := Lib.hid o5
     have C5 : Hid (Chg (blkOf Ar) w4 w5) := Lib.hid ((Chg.refl (blkOf Ar) w4).grown g5 (fun k hk => .inl (by simpa [blkOf] using hk)))
     have E5 := Lib.hid e5
     have HG5 := Lib.hid (C5.out.at_ (C4.out.at_ HW.out.hg (by simp)) GP.out.1)
     clear o5 g5 e5 hHeld
     refine hK.out _ _ (PCD.out (g :: blkOf Ar) _ ((C4.out.mono (S' := g :: blkOf Ar) (by simp)).trans (C5.out.mono (fun z hz => .inl (List.mem_cons_of_mem _ hz)))) (by simp; exact ⟨GP.out.2.2, GP.out.2.1⟩)) (fun hHeld => ?_)
     clear hK K
     try simp only [Act.put, sA, s0, s1]
     refine sy 14 85 rfl rfl ?_
     try simp only [Act.put, sA, s0, s1]
     refine sy 15 86 rfl rfl ?_
     try simp only [Act.put, sA, s0, s1]
     refine wpAnyH_ready (rs := [16]) (by kernel_rfl) (by simp) ?_
     refine AllReadyH.cons rfl (fun K hK => ?_) AllReadyH.nil
     replace hK := Lib.hid hK
     have z := cell_of HG5.out 2
     have fz := free_of HG5.out 2
     simp only [List.getElem?_toArray, List.getElem?_cons_succ, List.getElem?_cons_zero] at z
     go_simp
     clear z fz hHeld
     refine hK.out _ _ (PCD.out (g :: blkOf Ar) _ (((C4.out.mono (S' := g :: blkOf Ar) (by simp)).trans (C5.out.mono (fun z hz => .inl (List.mem_cons_of_mem _ hz)))).trans (((Chg.refl [g] w5).setCell (p := ⟨g, 2, none⟩) (.inl (by simp)) (.slice A5 (lr.length + 1) c5)).mono (fun z hz => .inl (by simp at hz; simp [hz])))) (by simp; exact ⟨GP.out.2.2, GP.out.2.1⟩)) (fun hHeld => ?_)
     clear hK K
     try simp only [Act.put, sA, s0, s1]
     refine wpAnyH_done (by kernel_rfl) ?_ _
     have hg' := heap_setCell_same _ g 2 _ _ (.slice A5 (lr.length + 1) c5) HG5.out
     have cg : Chg [g] w5 (w5.setCell ⟨g, 2, none⟩ (.slice A5 (lr.length + 1) c5)) := (Chg.refl [g] w5).setCell (.inl (by simp)) _
     have hc : Chg (g :: blkOf Ar) wd (w5.setCell ⟨g, 2, none⟩ (.slice A5 (lr.length + 1) c5)) := ((C4.out.mono (S' := g :: blkOf Ar) (by simp)).trans (C5.out.mono (fun z hz => .inl (List.mem_cons_of_mem _ hz)))).trans (cg.mono (fun z hz => .inl (by simp at hz; simp [hz])))
     generalize w5.setCell ⟨g, 2, none⟩ (.slice A5 (lr.length + 1) c5) = w6 at *
     have S56 := cg.size
     have S45 := C5.out.size
     have S34 := C4.out.size
     have A5N : ∀ x, A5 = some x → Ar = some x ∨ wd.heap.size ≤ x.block := fun x hx => by
      rcases E5.out with q | q
      ·exact .inl (q ▸ hx)
      ·right; rw [q] at hx; cases hx; simp only; omega
     have glt : g < wd.heap.size := lt_of_heap HW.out.hg
     have A5g : g ∉ blkOf A5 := fun hm => by
      obtain ⟨x, hx, q⟩ := of_blkOf hm
      rcases A5N x hx with q2 | q2
      ·exact GP.out.1 (by rw [← q]; exact mem_blkOf q2)
      ·omega
     have frz : ∀ z ∈ F, z ∉ g :: blkOf Ar := fun z hz hm => by
      rcases List.mem_cons.1 hm with q | q
      ·exact HW.out.pw.pick (i := 8) (j := 0) rfl rfl (by decide) z hz (by simp [q])
      ·exact HW.out.pw.pick (i := 8) (j := 1) rfl rfl (by decide) z hz q
     have o6 := O5.out.chg cg (fun x hx hm => A5g (by simp at hm; rw [← hm]; exact mem_blkOf hx))
     have PK6 := Lib.hid (PK.out.chg hc frz)
     have fp6 := PK6.out.2 k (x1, x2, x3, x4, xA, xn, xd) p false HXX.out HP.out
     have O26 := Lib.hid (O2.out.chg hc (by rintro y hy hm; cases hy; rcases List.mem_cons.1 hm with q | q; exact GP.out.2.2 q; exact GP.out.2.1 q))
     have C6 := Lib.hid (C0.out.on hc (fun z hz => by
      rcases List.mem_cons.1 hz with q | q
      ·exact (HW.out.lo [g] (by simp) z (by simp [q])).1
      ·exact (HW.out.lo (blkOf Ar) (by simp) z q).1))
     have HW6 := Lib.hid (HW.out.rowA hc (fun z hz => List.mem_cons.1 hz) [] (K' := kk + 1) (by omega) A5 c5 (lr ++ [(((x1, x2, x3, x4, xA, xn, xd), false) : FlV)]) _ (by rw [hg']; simp) o6 (ap_snoc (HW.out.pa.chg hc frz) (fun z hz => List.mem_append_right _ hz) fp6) (by simp) (fun z hz => by obtain ⟨y, hy, rfl⟩ := of_blkOf hz; exact (A5N y hy).imp (fun q => mem_blkOf q) id) (fun z hz => by obtain ⟨y, hy, rfl⟩ := of_blkOf hz; exact o6.lt y hy) (by simp) C0.out.size)
     have AE := Lib.hid (air_take wo.air (outL wo.sb) k p false HP.out)
     clear hg' cg hc S56 S45 S34 A5N glt A5g frz o6 fp6
     go_wp2
     go_round
     case measure => simp [RowKit.intOf]; omega
     refine ⟨k + 1, A5, c5, lr ++ [(((x1, x2, x3, x4, xA, xn, xd), false) : FlV)], P0, c0, l0, P1, c1, l1, Q0, d0, m0, Q1, d1, m1, Aa, Da, Ab, Db, F, by omega, by go_num, ?_, O26.out, PK6.out, C6.out, Lib.hid (by simp; omega)⟩
     rw [AE.out]
     exact HW6.out
    ·skip
     replace hK := Lib.hid hK
     obtain ⟨w4, hw4, c4, m4⟩ := news1 wd (.cells #[.int .i64 x1, .int .i64 x2, .int .i64 x3, .int .i64 x4, .slice xA xn xd, .bool false] 63)
     have W4 := Lib.hid hw4
     have M4 : Hid (RdK flTy w4 (some ⟨wd.heap.size, 0, none⟩) 1 [(((x1, x2, x3, x4, xA, xn, xd), false) : FlV)]) := Lib.hid (row_one m4)
     have C4 := Lib.hid c4
     clear hw4 c4 m4
     go_simp
     rw [← W4.out]
     clear hHeld W4
     refine hK.out _ _ (PCD.out [] _ C4.out (by simp)) (fun hHeld => ?_)
     clear hK K
     try simp only [Act.put, sA, s0, s1]
     refine wpAnyH_ready (rs := [4]) (by kernel_rfl) (by simp) ?_
     refine AllReadyH.cons rfl (fun K hK => ?_) AllReadyH.nil
     replace hK := Lib.hid hK
     have z := cell_of (Chg.at_ C4.out HW.out.hg (by simp)) 2
     simp only [List.getElem?_toArray, List.getElem?_cons_succ, List.getElem?_cons_zero] at z
     go_simp
     clear z
     refine hK.out _ _ (PCD.out [] _ C4.out (by simp)) (fun hHeld => ?_)
     clear hK K
     try simp only [Act.put, sA, s0, s1]
     refine wpAnyH_ready (rs := [13]) (by kernel_rfl) (by simp) ?_
     refine AllReadyH.cons rfl (fun K hK => ?_) AllReadyH.nil
     replace hK := Lib.hid hK
     refine step_appK (R := flTy) rfl (.tmp 75) (.tmp 83) rfl rfl (A := Ar) (B := some ⟨wd.heap.size, 0, none⟩) (n := lr.length) (m := 1) (c := cr) (d := 1) (xs := lr) (ys := [(((x1, x2, x3, x4, xA, xn, xd), false) : FlV)]) (HW.out.oa.chg C4.out (by simp)) rfl rfl M4.out (by omega) ?_
     intro A5 c5 w5 o5 g5 e5
     have O5 := Lib.hid o5
     have C5 : Hid (Chg (blkOf Ar) w4 w5) := Lib.hid ((Chg.refl (blkOf Ar) w4).grown g5 (fun k hk => .inl (by simpa [blkOf] using hk)))
     have E5 := Lib.hid e5
     have HG5 := Lib.hid (C5.out.at_ (C4.out.at_ HW.out.hg (by simp)) GP.out.1)
     clear o5 g5 e5 hHeld
     refine hK.out _ _ (PCD.out (g :: blkOf Ar) _ ((C4.out.mono (S' := g :: blkOf Ar) (by simp)).trans (C5.out.mono (fun z hz => .inl (List.mem_cons_of_mem _ hz)))) (by simp; exact ⟨GP.out.2.2, GP.out.2.1⟩)) (fun hHeld => ?_)
     clear hK K
     try simp only [Act.put, sA, s0, s1]
     refine sy 14 85 rfl rfl ?_
     try simp only [Act.put, sA, s0, s1]
     refine sy 15 86 rfl rfl ?_
     try simp only [Act.put, sA, s0, s1]
     refine wpAnyH_ready (rs := [16]) (by kernel_rfl) (by simp) ?_
     refine AllReadyH.cons rfl (fun K hK => ?_) AllReadyH.nil
     replace hK := Lib.hid hK
     have z := cell_of HG5.out 2
     have fz := free_of HG5.out 2
     simp only [List.getElem?_toArray, List.getElem?_cons_succ, List.getElem?_cons_zero] at z
     go_simp
     clear z fz hHeld
     refine hK.out _ _ (PCD.out (g :: blkOf Ar) _ (((C4.out.mono (S' := g :: blkOf Ar) (by simp)).trans (C5.out.mono (fun z hz => .inl (List.mem_cons_of_mem _ hz)))).trans (((Chg.refl [g] w5).setCell (p := ⟨g, 2, none⟩) (.inl (by simp)) (.slice A5 (lr.length + 1) c5)).mono (fun z hz => .inl (by simp at hz; simp [hz])))) (by simp; exact ⟨GP.out.2.2, GP.out.2.1⟩)) (fun hHeld => ?_)
     clear hK K
     try simp only [Act.put, sA, s0, s1]
     refine wpAnyH_done (by kernel_rfl) ?_ _
     have hg' := heap_setCell_same _ g 2 _ _ (.slice A5 (lr.length + 1) c5) HG5.out
     have cg : Chg [g] w5 (w5.setCell ⟨g, 2, none⟩ (.slice A5 (lr.length + 1) c5)) := (Chg.refl [g] w5).setCell (.inl (by simp)) _
     have hc : Chg (g :: blkOf Ar) wd (w5.setCell ⟨g, 2, none⟩ (.slice A5 (lr.length + 1) c5)) := ((C4.out.mono (S' := g :: blkOf Ar) (by simp)).trans (C5.out.mono (fun z hz => .inl (List.mem_cons_of_mem _ hz)))).trans (cg.mono (fun z hz => .inl (by simp at hz; simp [hz])))
     generalize w5.setCell ⟨g, 2, none⟩ (.slice A5 (lr.length + 1) c5) = w6 at *
     have S56 := cg.size
     have S45 := C5.out.size
     have S34 := C4.out.size
     have A5N : ∀ x, A5 = some x → Ar = some x ∨ wd.heap.size ≤ x.block := fun x hx => by
      rcases E5.out with q | q
      ·exact .inl (q ▸ hx)
      ·right; rw [q] at hx; cases hx; simp only; omega
     have glt : g < wd.heap.size := lt_of_heap HW.out.hg
     have A5g : g ∉ blkOf A5 := fun hm => by
      obtain ⟨x, hx, q⟩ := of_blkOf hm
      rcases A5N x hx with q2 | q2
      ·exact GP.out.1 (by rw [← q]; exact mem_blkOf q2)
      ·omega
     have frz : ∀ z ∈ F, z ∉ g :: blkOf Ar := fun z hz hm => by
      rcases List.mem_cons.1 hm with q | q
      ·exact HW.out.pw.pick (i := 8) (j := 0) rfl rfl (by decide) z hz (by simp [q])
      ·exact HW.out.pw.pick (i := 8) (j := 1) rfl rfl (by decide) z hz q
     have o6 := O5.out.chg cg (fun x hx hm => A5g (by simp at hm; rw [← hm]; exact mem_blkOf hx))
     have PK6 := Lib.hid (PK.out.chg hc frz)
     have fp6 := PK6.out.2 k (x1, x2, x3, x4, xA, xn, xd) p false HXX.out HP.out
     have O26 := Lib.hid (O2.out.chg hc (by rintro y hy hm; cases hy; rcases List.mem_cons.1 hm with q | q; exact GP.out.2.2 q; exact GP.out.2.1 q))
     have C6 := Lib.hid (C0.out.on hc (fun z hz => by
      rcases List.mem_cons.1 hz with q | q
      ·exact (HW.out.lo [g] (by simp) z (by simp [q])).1
      ·exact (HW.out.lo (blkOf Ar) (by simp) z q).1))
     have HW6 := Lib.hid (HW.out.rowA hc (fun z hz => List.mem_cons.1 hz) [] (K' := kk + 1) (by omega) A5 c5 (lr ++ [(((x1, x2, x3, x4, xA, xn, xd), false) : FlV)]) _ (by rw [hg']; simp) o6 (ap_snoc (HW.out.pa.chg hc frz) (fun z hz => List.mem_append_right _ hz) fp6) (by simp) (fun z hz => by obtain ⟨y, hy, rfl⟩ := of_blkOf hz; exact (A5N y hy).imp (fun q => mem_blkOf q) id) (fun z hz => by obtain ⟨y, hy, rfl⟩ := of_blkOf hz; exact o6.lt y hy) (by simp) C0.out.size)
     have AE := Lib.hid (air_take wo.air (outL wo.sb) k p false HP.out)
     clear hg' cg hc S56 S45 S34 A5N glt A5g frz o6 fp6
     go_wp2
     go_round
     case measure => simp [RowKit.intOf]; omega
     refine ⟨k + 1, A5, c5, lr ++ [(((x1, x2, x3, x4, xA, xn, xd), false) : FlV)], P0, c0, l0, P1, c1, l1, Q0, d0, m0, Q1, d1, m1, Aa, Da, Ab, Db, F, by omega, by go_num, ?_, O26.out, PK6.out, C6.out, Lib.hid (by simp; omega)⟩
     rw [AE.out]
     exact HW6.out
   ·have i3 : ¬ (lr.length : Int) < 200 := by omega
    have e2 : decide ((lr.length : Int) < 200) = false := decide_eq_false i3
    go_wp2
    go_end0
    obtain ⟨q1, j, q2, q4, q3⟩ := FI.out _ rfl (Chg.refl _ _)
    exact ⟨q1, j, by simpa only [List.map_take] using q2, q4, q3⟩
  ·have i2 : ¬ (k : Int) < (l.length : Int) := by omega
   have e1 : decide ((k : Int) < (l.length : Int)) = false := decide_eq_false i2
   go_wp2
   go_end0
   obtain ⟨q1, j, q2, q4, q3⟩ := FI.out _ rfl (Chg.refl _ _)
   exact ⟨q1, j, by simpa only [List.map_take] using q2, q4, q3⟩
end
section
open Go.RowKit Go.Lib
set_option linter.unusedSimpArgs false
set_option linter.unusedVariables false


set_option maxHeartbeats 8000000 in
set_option maxRecDepth 100000 in
theorem hand_none (kd : Int) (o : Bool) (w0 w : World) (g a b kk : Nat) (wo : WoT) (hW : WL w0.heap.size w g a b kk wo) (hc0 : Chg [] w0 w) (hK : kk ≤ 400000) (wh : Int) (Y : Option Addr) (m e : Nat) (hl : wo.air.length = 0) : Calls Try.prog 46 #[.pointer (some ⟨g, 0, none⟩), .agg #[.int .i64 kd, .int .i64 wh, .bool o, .slice Y m e]] w fun r w' => r = .returned (.tuple #[]) ∧ WL w0.heap.size w' g a b kk wo ∧ Chg [] w0 w' := by
 obtain ⟨Ar, cr, lr, P0, c0, l0, P1, c1, l1, Q0, d0, m0, Q1, d1, m1, Aa, Da, Ab, Db, F, h⟩ := hW
 have EL : lr.length = 0 := by have := h.pa.1; rw [this]; exact hl
 obtain ⟨w1, hw1, b2, b1⟩ := news1 w (.cells #[.int .i64 kd, .int .i64 wh, .bool o, .slice Y m e] 58)
 have W1 := Lib.hid hw1
 have HW := Lib.hid (h.off b2 (by simp))
 have C0 := Lib.hid (hc0.trans b2)
 have y2 := cell_of HW.out.hg 2
 simp only [List.getElem?_toArray, List.getElem?_cons_succ, List.getElem?_cons_zero] at y2
 rw [EL] at y2
 have FI : Hid (WL w0.heap.size w1 g a b kk wo) := Lib.hid ⟨_, _, _, _, _, _, _, _, _, _, _, _, _, _, _, _, _, _, _, _, HW.out⟩
 clear hw1 b2 b1 h hc0 hK HW
 go_enter Try.func46, Try.ntmps46
 go_upto_region 1 with fail
 rw [← W1.out]
 generalize hgx : w.heap.size = gx at *
 go_wp2
 refine bodyPost_ret (results_none rfl _ _ _) rfl ?_
 exact ⟨rfl, FI.out, C0.out⟩

set_option maxHeartbeats 8000000 in
set_option maxRecDepth 100000 in
theorem turn_hand_3f (w0 w : World) (g a b kk : Nat) (wo : WoT) (hW : WL w0.heap.size w g a b kk wo) (hc0 : Chg [] w0 w) (hK : kk ≤ 400000) (wh : Int) (Y : Option Addr) (m e : Nat) {R : World → Prop} (HH : ∀ w', WL w0.heap.size w' g a b kk wo → Chg [] w0 w' → Calls Try.prog 46 #[.pointer (some ⟨g, 0, none⟩), .agg #[.int .i64 3, .int .i64 wh, .bool false, .slice Y m e]] w' fun r w' => r = .returned (.tuple #[]) ∧ R w') : Calls Try.prog 22 #[.pointer (some ⟨g, 0, none⟩), .agg #[.int .i64 3, .int .i64 wh, .bool false, .slice Y m e]] w fun r w' => r = .returned (.tuple #[]) ∧ R w' := by
 have HH2 := Lib.hid HH
 clear HH
 obtain ⟨Ar, cr, lr, P0, c0, l0, P1, c1, l1, Q0, d0, m0, Q1, d1, m1, Aa, Da, Ab, Db, F, h⟩ := hW
 obtain ⟨w1, hw1, c1, b1⟩ := news1 w (.cells #[.int .i64 3, .int .i64 wh, .bool false, .slice Y m e] 58)
 have W1 := Lib.hid hw1
 have HW := Lib.hid (h.off c1 (by simp))
 have C0 := Lib.hid (hc0.trans c1)
 have BX := Lib.hid b1
 have GX := Lib.hid (show w0.heap.size ≤ w.heap.size ∧ g < w.heap.size ∧ w.heap.size < w1.heap.size from ⟨hc0.size, lt_of_heap h.hg, lt_of_heap b1⟩)
 have LOW := Lib.hid (fun l hl z hz => (h.lo l hl z hz).2)
 have HKK := Lib.hid hK
 have y0 := cell_of HW.out.hg 0
 have y1 := cell_of HW.out.hg 1
 simp only [List.getElem?_toArray, List.getElem?_cons_succ, List.getElem?_cons_zero] at y0 y1
 have x0 := cell_of b1 0
 have x2 := cell_of b1 2
 have x3 := cell_of b1 3
 simp only [List.getElem?_toArray, List.getElem?_cons_succ, List.getElem?_cons_zero] at x0 x2 x3
 clear hw1 c1 b1 h hc0 hK
 go_enter Try.func22, Try.ntmps22
 go_upto_region 1 with fail
 rw [← W1.out]
 generalize hgx : w.heap.size = gx at *
 go_upto_region 19 with fail
 have x0 := cell_of BX.out 0
 have x1 := cell_of BX.out 1
 simp only [List.getElem?_toArray, List.getElem?_cons_succ, List.getElem?_cons_zero] at x0 x1
 go_wp2_with fail
 refine (HH2.out w1 ⟨_, _, _, _, _, _, _, _, _, _, _, _, _, _, _, _, _, _, _, _, HW.out⟩ C0.out).mono ?_
 rintro r w2 ⟨rfl, hR⟩
 have HR := Lib.hid hR
 clear hR
 go_wp2
 go_end0
 exact ⟨rfl, HR.out⟩

set_option maxHeartbeats 8000000 in
set_option maxRecDepth 100000 in
theorem turn_hand_4f (w0 w : World) (g a b kk : Nat) (wo : WoT) (hW : WL w0.heap.size w g a b kk wo) (hc0 : Chg [] w0 w) (hK : kk ≤ 400000) (wh : Int) (Y : Option Addr) (m e : Nat) {R : World → Prop} (HH : ∀ w', WL w0.heap.size w' g a b kk wo → Chg [] w0 w' → Calls Try.prog 46 #[.pointer (some ⟨g, 0, none⟩), .agg #[.int .i64 4, .int .i64 wh, .bool false, .slice Y m e]] w' fun r w' => r = .returned (.tuple #[]) ∧ R w') : Calls Try.prog 22 #[.pointer (some ⟨g, 0, none⟩), .agg #[.int .i64 4, .int .i64 wh, .bool false, .slice Y m e]] w fun r w' => r = .returned (.tuple #[]) ∧ R w' := by
 have HH2 := Lib.hid HH
 clear HH
 obtain ⟨Ar, cr, lr, P0, c0, l0, P1, c1, l1, Q0, d0, m0, Q1, d1, m1, Aa, Da, Ab, Db, F, h⟩ := hW
 obtain ⟨w1, hw1, c1, b1⟩ := news1 w (.cells #[.int .i64 4, .int .i64 wh, .bool false, .slice Y m e] 58)
 have W1 := Lib.hid hw1
 have HW := Lib.hid (h.off c1 (by simp))
 have C0 := Lib.hid (hc0.trans c1)
 have BX := Lib.hid b1
 have GX := Lib.hid (show w0.heap.size ≤ w.heap.size ∧ g < w.heap.size ∧ w.heap.size < w1.heap.size from ⟨hc0.size, lt_of_heap h.hg, lt_of_heap b1⟩)
 have LOW := Lib.hid (fun l hl z hz => (h.lo l hl z hz).2)
 have HKK := Lib.hid hK
 have y0 := cell_of HW.out.hg 0
 have y1 := cell_of HW.out.hg 1
 simp only [List.getElem?_toArray, List.getElem?_cons_succ, List.getElem?_cons_zero] at y0 y1
 have x0 := cell_of b1 0
 have x2 := cell_of b1 2
 have x3 := cell_of b1 3
 simp only [List.getElem?_toArray, List.getElem?_cons_succ, List.getElem?_cons_zero] at x0 x2 x3
 clear hw1 c1 b1 h hc0 hK
 go_enter Try.func22, Try.ntmps22
 go_upto_region 1 with fail
 rw [← W1.out]
 generalize hgx : w.heap.size = gx at *
 go_upto_region 19 with fail
 have x0 := cell_of BX.out 0
 have x1 := cell_of BX.out 1
 simp only [List.getElem?_toArray, List.getElem?_cons_succ, List.getElem?_cons_zero] at x0 x1
 go_wp2_with fail
 refine (HH2.out w1 ⟨_, _, _, _, _, _, _, _, _, _, _, _, _, _, _, _, _, _, _, _, HW.out⟩ C0.out).mono ?_
 rintro r w2 ⟨rfl, hR⟩
 have HR := Lib.hid hR
 clear hR
 go_wp2
 go_end0
 exact ⟨rfl, HR.out⟩

set_option maxHeartbeats 8000000 in
set_option maxRecDepth 100000 in
theorem turn_hand_5f (w0 w : World) (g a b kk : Nat) (wo : WoT) (hW : WL w0.heap.size w g a b kk wo) (hc0 : Chg [] w0 w) (hK : kk ≤ 400000) (wh : Int) (Y : Option Addr) (m e : Nat) {R : World → Prop} (HH : ∀ w', WL w0.heap.size w' g a b kk wo → Chg [] w0 w' → Calls Try.prog 46 #[.pointer (some ⟨g, 0, none⟩), .agg #[.int .i64 5, .int .i64 wh, .bool false, .slice Y m e]] w' fun r w' => r = .returned (.tuple #[]) ∧ R w') : Calls Try.prog 22 #[.pointer (some ⟨g, 0, none⟩), .agg #[.int .i64 5, .int .i64 wh, .bool false, .slice Y m e]] w fun r w' => r = .returned (.tuple #[]) ∧ R w' := by
 have HH2 := Lib.hid HH
 clear HH
 obtain ⟨Ar, cr, lr, P0, c0, l0, P1, c1, l1, Q0, d0, m0, Q1, d1, m1, Aa, Da, Ab, Db, F, h⟩ := hW
 obtain ⟨w1, hw1, c1, b1⟩ := news1 w (.cells #[.int .i64 5, .int .i64 wh, .bool false, .slice Y m e] 58)
 have W1 := Lib.hid hw1
 have HW := Lib.hid (h.off c1 (by simp))
 have C0 := Lib.hid (hc0.trans c1)
 have BX := Lib.hid b1
 have GX := Lib.hid (show w0.heap.size ≤ w.heap.size ∧ g < w.heap.size ∧ w.heap.size < w1.heap.size from ⟨hc0.size, lt_of_heap h.hg, lt_of_heap b1⟩)
 have LOW := Lib.hid (fun l hl z hz => (h.lo l hl z hz).2)
 have HKK := Lib.hid hK
 have y0 := cell_of HW.out.hg 0
 have y1 := cell_of HW.out.hg 1
 simp only [List.getElem?_toArray, List.getElem?_cons_succ, List.getElem?_cons_zero] at y0 y1
 have x0 := cell_of b1 0
 have x2 := cell_of b1 2
 have x3 := cell_of b1 3
 simp only [List.getElem?_toArray, List.getElem?_cons_succ, List.getElem?_cons_zero] at x0 x2 x3
 clear hw1 c1 b1 h hc0 hK
 go_enter Try.func22, Try.ntmps22
 go_upto_region 1 with fail
 rw [← W1.out]
 generalize hgx : w.heap.size = gx at *
 go_upto_region 19 with fail
 have x0 := cell_of BX.out 0
 have x1 := cell_of BX.out 1
 simp only [List.getElem?_toArray, List.getElem?_cons_succ, List.getElem?_cons_zero] at x0 x1
 go_wp2_with fail
 refine (HH2.out w1 ⟨_, _, _, _, _, _, _, _, _, _, _, _, _, _, _, _, _, _, _, _, HW.out⟩ C0.out).mono ?_
 rintro r w2 ⟨rfl, hR⟩
 have HR := Lib.hid hR
 clear hR
 go_wp2
 go_end0
 exact ⟨rfl, HR.out⟩

set_option maxHeartbeats 8000000 in
set_option maxRecDepth 100000 in
theorem turn_none_f (kd : Int) (w0 w : World) (g a b kk : Nat) (wo : WoT) (hW : WL w0.heap.size w g a b kk wo) (hc0 : Chg [] w0 w) (hK : kk ≤ 400000) (wh : Int) (Y : Option Addr) (m e : Nat) (hkd : kd ≠ 0 ∧ kd ≠ 1 ∧ kd ≠ 2 ∧ kd ≠ 3 ∧ kd ≠ 4 ∧ kd ≠ 5) : Calls Try.prog 22 #[.pointer (some ⟨g, 0, none⟩), .agg #[.int .i64 kd, .int .i64 wh, .bool false, .slice Y m e]] w fun r w' => r = .returned (.tuple #[]) ∧ WL w0.heap.size w' g a b kk wo ∧ Chg [] w0 w' := by
 obtain ⟨j0, j1, j2, j3, j4, j5⟩ := hkd
 have e0 : (kd == 0) = false := beq_eq_false_iff_ne.2 j0
 have e1 : (kd == 1) = false := beq_eq_false_iff_ne.2 j1
 have e2 : (kd == 2) = false := beq_eq_false_iff_ne.2 j2
 have e3 : (kd == 3) = false := beq_eq_false_iff_ne.2 j3
 have e4 : (kd == 4) = false := beq_eq_false_iff_ne.2 j4
 have e5 : (kd == 5) = false := beq_eq_false_iff_ne.2 j5
 obtain ⟨Ar, cr, lr, P0, c0, l0, P1, c1, l1, Q0, d0, m0, Q1, d1, m1, Aa, Da, Ab, Db, F, h⟩ := hW
 obtain ⟨w1, hw1, c1, b1⟩ := news1 w (.cells #[.int .i64 kd, .int .i64 wh, .bool false, .slice Y m e] 58)
 have W1 := Lib.hid hw1
 have HW := Lib.hid (h.off c1 (by simp))
 have C0 := Lib.hid (hc0.trans c1)
 have BX := Lib.hid b1
 have GX := Lib.hid (show w0.heap.size ≤ w.heap.size ∧ g < w.heap.size ∧ w.heap.size < w1.heap.size from ⟨hc0.size, lt_of_heap h.hg, lt_of_heap b1⟩)
 have LOW := Lib.hid (fun l hl z hz => (h.lo l hl z hz).2)
 have HKK := Lib.hid hK
 have y0 := cell_of HW.out.hg 0
 have y1 := cell_of HW.out.hg 1
 simp only [List.getElem?_toArray, List.getElem?_cons_succ, List.getElem?_cons_zero] at y0 y1
 have x0 := cell_of b1 0
 have x2 := cell_of b1 2
 have x3 := cell_of b1 3
 simp only [List.getElem?_toArray, List.getElem?_cons_succ, List.getElem?_cons_zero] at x0 x2 x3
 clear hw1 c1 b1 h hc0 hK
 go_enter Try.func22, Try.ntmps22
 go_upto_region 1 with fail
 rw [← W1.out]
 generalize hgx : w.heap.size = gx at *
 have FI : Hid (WL w0.heap.size w1 g a b kk wo) := Lib.hid ⟨_, _, _, _, _, _, _, _, _, _, _, _, _, _, _, _, _, _, _, _, HW.out⟩
 go_wp2
 go_end0
 exact ⟨rfl, FI.out, C0.out⟩

set_option maxHeartbeats 8000000 in
set_option maxRecDepth 100000 in
theorem turn_hand_3t (w0 w : World) (g a b kk : Nat) (wo : WoT) (hW : WL w0.heap.size w g a b kk wo) (hc0 : Chg [] w0 w) (hK : kk ≤ 400000) (wh : Int) (Y : Option Addr) (m e : Nat) {R : World → Prop} (HH : ∀ w', WL w0.heap.size w' g a b kk wo → Chg [] w0 w' → Calls Try.prog 46 #[.pointer (some ⟨g, 0, none⟩), .agg #[.int .i64 3, .int .i64 wh, .bool true, .slice Y m e]] w' fun r w' => r = .returned (.tuple #[]) ∧ R w') : Calls Try.prog 22 #[.pointer (some ⟨g, 0, none⟩), .agg #[.int .i64 3, .int .i64 wh, .bool true, .slice Y m e]] w fun r w' => r = .returned (.tuple #[]) ∧ R w' := by
 have HH2 := Lib.hid HH
 clear HH
 obtain ⟨Ar, cr, lr, P0, c0, l0, P1, c1, l1, Q0, d0, m0, Q1, d1, m1, Aa, Da, Ab, Db, F, h⟩ := hW
 obtain ⟨w1, hw1, c1, b1⟩ := news1 w (.cells #[.int .i64 3, .int .i64 wh, .bool true, .slice Y m e] 58)
 have W1 := Lib.hid hw1
 have HW := Lib.hid (h.off c1 (by simp))
 have C0 := Lib.hid (hc0.trans c1)
 have BX := Lib.hid b1
 have GX := Lib.hid (show w0.heap.size ≤ w.heap.size ∧ g < w.heap.size ∧ w.heap.size < w1.heap.size from ⟨hc0.size, lt_of_heap h.hg, lt_of_heap b1⟩)
 have LOW := Lib.hid (fun l hl z hz => (h.lo l hl z hz).2)
 have HKK := Lib.hid hK
 have y0 := cell_of HW.out.hg 0
 have y1 := cell_of HW.out.hg 1
 simp only [List.getElem?_toArray, List.getElem?_cons_succ, List.getElem?_cons_zero] at y0 y1
 have x0 := cell_of b1 0
 have x2 := cell_of b1 2
 have x3 := cell_of b1 3
 simp only [List.getElem?_toArray, List.getElem?_cons_succ, List.getElem?_cons_zero] at x0 x2 x3
 clear hw1 c1 b1 h hc0 hK
 go_enter Try.func22, Try.ntmps22
 go_upto_region 1 with fail
 rw [← W1.out]
 generalize hgx : w.heap.size = gx at *
 go_upto_region 19 with fail
 have x0 := cell_of BX.out 0
 have x1 := cell_of BX.out 1
 simp only [List.getElem?_toArray, List.getElem?_cons_succ, List.getElem?_cons_zero] at x0 x1
 go_wp2_with fail
 refine (HH2.out w1 ⟨_, _, _, _, _, _, _, _, _, _, _, _, _, _, _, _, _, _, _, _, HW.out⟩ C0.out).mono ?_
 rintro r w2 ⟨rfl, hR⟩
 have HR := Lib.hid hR
 clear hR
 go_wp2
 go_end0
 exact ⟨rfl, HR.out⟩

set_option maxHeartbeats 8000000 in
set_option maxRecDepth 100000 in
theorem turn_hand_4t (w0 w : World) (g a b kk : Nat) (wo : WoT) (hW : WL w0.heap.size w g a b kk wo) (hc0 : Chg [] w0 w) (hK : kk ≤ 400000) (wh : Int) (Y : Option Addr) (m e : Nat) {R : World → Prop} (HH : ∀ w', WL w0.heap.size w' g a b kk wo → Chg [] w0 w' → Calls Try.prog 46 #[.pointer (some ⟨g, 0, none⟩), .agg #[.int .i64 4, .int .i64 wh, .bool true, .slice Y m e]] w' fun r w' => r = .returned (.tuple #[]) ∧ R w') : Calls Try.prog 22 #[.pointer (some ⟨g, 0, none⟩), .agg #[.int .i64 4, .int .i64 wh, .bool true, .slice Y m e]] w fun r w' => r = .returned (.tuple #[]) ∧ R w' := by
 have HH2 := Lib.hid HH
 clear HH
 obtain ⟨Ar, cr, lr, P0, c0, l0, P1, c1, l1, Q0, d0, m0, Q1, d1, m1, Aa, Da, Ab, Db, F, h⟩ := hW
 obtain ⟨w1, hw1, c1, b1⟩ := news1 w (.cells #[.int .i64 4, .int .i64 wh, .bool true, .slice Y m e] 58)
 have W1 := Lib.hid hw1
 have HW := Lib.hid (h.off c1 (by simp))
 have C0 := Lib.hid (hc0.trans c1)
 have BX := Lib.hid b1
 have GX := Lib.hid (show w0.heap.size ≤ w.heap.size ∧ g < w.heap.size ∧ w.heap.size < w1.heap.size from ⟨hc0.size, lt_of_heap h.hg, lt_of_heap b1⟩)
 have LOW := Lib.hid (fun l hl z hz => (h.lo l hl z hz).2)
 have HKK := Lib.hid hK
 have y0 := cell_of HW.out.hg 0
 have y1 := cell_of HW.out.hg 1
 simp only [List.getElem?_toArray, List.getElem?_cons_succ, List.getElem?_cons_zero] at y0 y1
 have x0 := cell_of b1 0
 have x2 := cell_of b1 2
 have x3 := cell_of b1 3
 simp only [List.getElem?_toArray, List.getElem?_cons_succ, List.getElem?_cons_zero] at x0 x2 x3
 clear hw1 c1 b1 h hc0 hK
 go_enter Try.func22, Try.ntmps22
 go_upto_region 1 with fail
 rw [← W1.out]
 generalize hgx : w.heap.size = gx at *
 go_upto_region 19 with fail
 have x0 := cell_of BX.out 0
 have x1 := cell_of BX.out 1
 simp only [List.getElem?_toArray, List.getElem?_cons_succ, List.getElem?_cons_zero] at x0 x1
 go_wp2_with fail
 refine (HH2.out w1 ⟨_, _, _, _, _, _, _, _, _, _, _, _, _, _, _, _, _, _, _, _, HW.out⟩ C0.out).mono ?_
 rintro r w2 ⟨rfl, hR⟩
 have HR := Lib.hid hR
 clear hR
 go_wp2
 go_end0
 exact ⟨rfl, HR.out⟩

set_option maxHeartbeats 8000000 in
set_option maxRecDepth 100000 in
theorem turn_hand_5t (w0 w : World) (g a b kk : Nat) (wo : WoT) (hW : WL w0.heap.size w g a b kk wo) (hc0 : Chg [] w0 w) (hK : kk ≤ 400000) (wh : Int) (Y : Option Addr) (m e : Nat) {R : World → Prop} (HH : ∀ w', WL w0.heap.size w' g a b kk wo → Chg [] w0 w' → Calls Try.prog 46 #[.pointer (some ⟨g, 0, none⟩), .agg #[.int .i64 5, .int .i64 wh, .bool true, .slice Y m e]] w' fun r w' => r = .returned (.tuple #[]) ∧ R w') : Calls Try.prog 22 #[.pointer (some ⟨g, 0, none⟩), .agg #[.int .i64 5, .int .i64 wh, .bool true, .slice Y m e]] w fun r w' => r = .returned (.tuple #[]) ∧ R w' := by
 have HH2 := Lib.hid HH
 clear HH
 obtain ⟨Ar, cr, lr, P0, c0, l0, P1, c1, l1, Q0, d0, m0, Q1, d1, m1, Aa, Da, Ab, Db, F, h⟩ := hW
 obtain ⟨w1, hw1, c1, b1⟩ := news1 w (.cells #[.int .i64 5, .int .i64 wh, .bool true, .slice Y m e] 58)
 have W1 := Lib.hid hw1
 have HW := Lib.hid (h.off c1 (by simp))
 have C0 := Lib.hid (hc0.trans c1)
 have BX := Lib.hid b1
 have GX := Lib.hid (show w0.heap.size ≤ w.heap.size ∧ g < w.heap.size ∧ w.heap.size < w1.heap.size from ⟨hc0.size, lt_of_heap h.hg, lt_of_heap b1⟩)
 have LOW := Lib.hid (fun l hl z hz => (h.lo l hl z hz).2)
 have HKK := Lib.hid hK
 have y0 := cell_of HW.out.hg 0
 have y1 := cell_of HW.out.hg 1
 simp only [List.getElem?_toArray, List.getElem?_cons_succ, List.getElem?_cons_zero] at y0 y1
 have x0 := cell_of b1 0
 have x2 := cell_of b1 2
 have x3 := cell_of b1 3
 simp only [List.getElem?_toArray, List.getElem?_cons_succ, List.getElem?_cons_zero] at x0 x2 x3
 clear hw1 c1 b1 h hc0 hK
 go_enter Try.func22, Try.ntmps22
 go_upto_region 1 with fail
 rw [← W1.out]
 generalize hgx : w.heap.size = gx at *
 go_upto_region 19 with fail
 have x0 := cell_of BX.out 0
 have x1 := cell_of BX.out 1
 simp only [List.getElem?_toArray, List.getElem?_cons_succ, List.getElem?_cons_zero] at x0 x1
 go_wp2_with fail
 refine (HH2.out w1 ⟨_, _, _, _, _, _, _, _, _, _, _, _, _, _, _, _, _, _, _, _, HW.out⟩ C0.out).mono ?_
 rintro r w2 ⟨rfl, hR⟩
 have HR := Lib.hid hR
 clear hR
 go_wp2
 go_end0
 exact ⟨rfl, HR.out⟩

set_option maxHeartbeats 8000000 in
set_option maxRecDepth 100000 in
theorem turn_none_t (kd : Int) (w0 w : World) (g a b kk : Nat) (wo : WoT) (hW : WL w0.heap.size w g a b kk wo) (hc0 : Chg [] w0 w) (hK : kk ≤ 400000) (wh : Int) (Y : Option Addr) (m e : Nat) (hkd : kd ≠ 0 ∧ kd ≠ 1 ∧ kd ≠ 2 ∧ kd ≠ 3 ∧ kd ≠ 4 ∧ kd ≠ 5) : Calls Try.prog 22 #[.pointer (some ⟨g, 0, none⟩), .agg #[.int .i64 kd, .int .i64 wh, .bool true, .slice Y m e]] w fun r w' => r = .returned (.tuple #[]) ∧ WL w0.heap.size w' g a b kk wo ∧ Chg [] w0 w' := by
 obtain ⟨j0, j1, j2, j3, j4, j5⟩ := hkd
 have e0 : (kd == 0) = false := beq_eq_false_iff_ne.2 j0
 have e1 : (kd == 1) = false := beq_eq_false_iff_ne.2 j1
 have e2 : (kd == 2) = false := beq_eq_false_iff_ne.2 j2
 have e3 : (kd == 3) = false := beq_eq_false_iff_ne.2 j3
 have e4 : (kd == 4) = false := beq_eq_false_iff_ne.2 j4
 have e5 : (kd == 5) = false := beq_eq_false_iff_ne.2 j5
 obtain ⟨Ar, cr, lr, P0, c0, l0, P1, c1, l1, Q0, d0, m0, Q1, d1, m1, Aa, Da, Ab, Db, F, h⟩ := hW
 obtain ⟨w1, hw1, c1, b1⟩ := news1 w (.cells #[.int .i64 kd, .int .i64 wh, .bool true, .slice Y m e] 58)
 have W1 := Lib.hid hw1
 have HW := Lib.hid (h.off c1 (by simp))
 have C0 := Lib.hid (hc0.trans c1)
 have BX := Lib.hid b1
 have GX := Lib.hid (show w0.heap.size ≤ w.heap.size ∧ g < w.heap.size ∧ w.heap.size < w1.heap.size from ⟨hc0.size, lt_of_heap h.hg, lt_of_heap b1⟩)
 have LOW := Lib.hid (fun l hl z hz => (h.lo l hl z hz).2)
 have HKK := Lib.hid hK
 have y0 := cell_of HW.out.hg 0
 have y1 := cell_of HW.out.hg 1
 simp only [List.getElem?_toArray, List.getElem?_cons_succ, List.getElem?_cons_zero] at y0 y1
 have x0 := cell_of b1 0
 have x2 := cell_of b1 2
 have x3 := cell_of b1 3
 simp only [List.getElem?_toArray, List.getElem?_cons_succ, List.getElem?_cons_zero] at x0 x2 x3
 clear hw1 c1 b1 h hc0 hK
 go_enter Try.func22, Try.ntmps22
 go_upto_region 1 with fail
 rw [← W1.out]
 generalize hgx : w.heap.size = gx at *
 have FI : Hid (WL w0.heap.size w1 g a b kk wo) := Lib.hid ⟨_, _, _, _, _, _, _, _, _, _, _, _, _, _, _, _, _, _, _, _, HW.out⟩
 go_wp2
 go_end0
 exact ⟨rfl, FI.out, C0.out⟩
end
end Go.Proofs.Ytmblalcigbghfaa
