/- Out. -/
import Derived.Test.YtmblalcigbghfaaSga
namespace Go.Proofs.Ytmblalcigbghfaa
section
open Go.RowKit Go.Lib
set_option linter.unusedSimpArgs false
set_option linter.unusedVariables false


/-- The packets of a row, the bodies in memory of their own from lo on, each behind the one ahead of it. -/
def PakP (w : World) (lo : Nat) (x : PakV) (p : PakT) : Prop := x.1 = p.1 ∧ x.2.1 = p.2.1 ∧ x.2.2.1 = p.2.2.1 ∧ x.2.2.2.1 = p.2.2.2.1 ∧ x.2.2.2.2.2.1 = p.2.2.2.2.length ∧ OwnB w x.2.2.2.2.1 x.2.2.2.2.2.2 p.2.2.2.2 ∧ ∀ a, x.2.2.2.2.1 = some a → lo ≤ a.block
structure PaksP (w : World) (lo : Nat) (l : List PakV) (ps : List PakT) : Prop where
  len : l.length = ps.length
  at_ : ∀ (i : Nat) (x : PakV) (p : PakT), l[i]? = some x → ps[i]? = some p → PakP w lo x p
  up : ∀ (i j : Nat) (x y : PakV) (a a' : Addr), i < j → l[i]? = some x → l[j]? = some y → x.2.2.2.2.1 = some a → y.2.2.2.2.1 = some a' → a.block < a'.block
theorem PaksP.nil (w : World) (lo : Nat) : PaksP w lo [] [] := ⟨rfl, by simp, by simp⟩
theorem PakP.chg {w w' : World} {S : List Nat} {lo : Nat} {x : PakV} {p : PakT} (h : PakP w lo x p) (hc : Chg S w w') (hs : ∀ a, x.2.2.2.2.1 = some a → a.block ∉ S) : PakP w' lo x p :=
  ⟨h.1, h.2.1, h.2.2.1, h.2.2.2.1, h.2.2.2.2.1, h.2.2.2.2.2.1.chg hc hs, h.2.2.2.2.2.2⟩
theorem PaksP.chg {w w' : World} {S : List Nat} {lo : Nat} {l : List PakV} {ps : List PakT} (h : PaksP w lo l ps) (hc : Chg S w w') (hs : ∀ (i : Nat) (x : PakV) (a : Addr), l[i]? = some x → x.2.2.2.2.1 = some a → a.block ∉ S) : PaksP w' lo l ps :=
  ⟨h.len, fun i x p hx hp => (h.at_ i x p hx hp).chg hc (fun a ha => hs i x a hx ha), h.up⟩
theorem PaksP.lt {w : World} {lo : Nat} {l : List PakV} {ps : List PakT} (h : PaksP w lo l ps) {i : Nat} {x : PakV} {a : Addr} (hx : l[i]? = some x) (ha : x.2.2.2.2.1 = some a) : lo ≤ a.block ∧ a.block < w.heap.size := by
  have hi := (List.getElem?_eq_some_iff.1 hx).1
  have := h.at_ i x _ hx (List.getElem?_eq_getElem (by rw [← h.len]; exact hi))
  exact ⟨this.2.2.2.2.2.2 a ha, this.2.2.2.2.2.1.lt a ha⟩
theorem PaksP.snoc {w w' : World} {S : List Nat} {lo : Nat} {l : List PakV} {ps : List PakT} (h : PaksP w lo l ps) (hc : Chg S w w') (hs : ∀ (i : Nat) (x : PakV) (a : Addr), l[i]? = some x → x.2.2.2.2.1 = some a → a.block ∉ S) {x : PakV} {p : PakT} (hp : PakP w' lo x p) (hn : ∀ a, x.2.2.2.2.1 = some a → w.heap.size ≤ a.block) : PaksP w' lo (l ++ [x]) (ps ++ [p]) := by
  have hl := h.len
  refine ⟨by simp [hl], fun i y q hy hq => ?_, fun i j y z a a' hij hy hz ha ha' => ?_⟩
  · have hi : i < l.length + 1 := by simpa using (List.getElem?_eq_some_iff.1 hy).1
    by_cases e : i = l.length
    · subst e
      rw [List.getElem?_append_right (Nat.le_refl _)] at hy
      rw [hl, List.getElem?_append_right (Nat.le_refl _)] at hq
      simp at hy hq
      subst hy; subst hq
      exact hp
    · rw [List.getElem?_append_left (by omega)] at hy hq
      exact (h.at_ i y q hy hq).chg hc (fun a ha => hs i y a hy ha)
  · have hj : j < l.length + 1 := by simpa using (List.getElem?_eq_some_iff.1 hz).1
    rw [List.getElem?_append_left (by omega)] at hy
    by_cases e : j = l.length
    · subst e
      rw [List.getElem?_append_right (Nat.le_refl _)] at hz
      simp at hz
      subst hz
      have := hn a' ha'
      have := (h.lt hy ha).2
      omega
    · rw [List.getElem?_append_left (by omega)] at hz
      exact h.up i j y z a a' hij hy hz ha ha'
def dueV (v : BV) : Bool := !v.2.2.2.1 || decide (4 ≤ v.2.2.2.2)
def outV (v : BV) : BV := if dueV v = true then (v.1, v.2.1, v.2.2.1, true, 0) else v
theorem age_due {K : Nat} {v : BV} {a : Int} (h : AgeR K v a) : dueV v = due a := by
  obtain ⟨vA, vn, vc, vo, vg⟩ := v
  rcases h with ⟨h1, h2, rfl⟩ | ⟨h1, h2, h3, rfl⟩
  · dsimp only at h1 h2
    subst h1; subst h2
    rfl
  · dsimp only at h1 h2 h3
    subst h1
    simp only [dueV, due, Bool.not_true, Bool.false_or]
    rw [Bool.eq_iff_iff, decide_eq_true_eq, decide_eq_true_eq]
    split <;> omega
theorem age_out {K : Nat} {v : BV} {x : List UInt8 × Int} (h : AgeR K v x.2) : AgeR (K + 1) (outV v) (was x).2 := by
  have hd := age_due h
  unfold outV was
  rw [← hd]
  split
  · exact .inr ⟨rfl, Int.le_refl 0, Int.natCast_nonneg _, rfl⟩
  · rcases h with e | ⟨e1, e2, e3, e4⟩
    · exact .inl e
    · exact .inr ⟨e1, e2, by omega, e4⟩
theorem outV_keeps (v : BV) : (outV v).1 = v.1 ∧ (outV v).2.1 = v.2.1 := by unfold outV; split <;> exact ⟨rfl, rfl⟩
theorem was_keeps (x : List UInt8 × Int) : (was x).1 = x.1 := by unfold was; split <;> rfl
theorem outQ_take (ep peer came base : Int) (q : List (List UInt8 × Int)) (j : Nat) (x : List UInt8 × Int) (h : q[j]? = some x) : outQ ep peer came base (q.take (j + 1)) = outQ ep peer came base (q.take j) ++ (if due x.2 then [(ep, peer, base + j, came, x.1)] else []) := by
  have hj := (List.getElem?_eq_some_iff.1 h).1
  have e : q.take (j + 1) = q.take j ++ [x] := by rw [List.take_add_one, h]; rfl
  rw [e, outQ_snoc]
  rw [show ((q.take j).length : Int) = (j : Int) by rw [List.length_take]; omega]

def outL' (s : SQ) (q : List (List UInt8 × Int)) : List PakT := if outQ s.ep s.peer s.came s.base q = [] ∧ (s.owes = true ∨ s.peer = 0) then [(s.ep, s.peer, 0, s.came, [])] else outQ s.ep s.peer s.came s.base q
set_option maxHeartbeats 16000000 in
set_option maxRecDepth 100000 in
theorem seout_any {K : Nat} {w : World} {b : Nat} {A : Option Addr} {D : List Nat} {st : SesT} {s : SQ} {lt : List SlV} (hP : SesP K w b A D st s lt) (hK : K ≤ 1000000) : Calls Try.prog 13 #[.pointer (some ⟨b, 0, none⟩)] w fun e w' => ∃ B c l, e = .returned (.slice B l.length c) ∧ OwnK pakTy w' B c l ∧ (∀ a, B = some a → w.heap.size ≤ a.block) ∧ PaksP w' w.heap.size l (outL' s st.q) ∧ QH w' b { s with q := s.q.map outV, owes := false } ∧ Chg [b] w w' := by
  have MD := Lib.hid (semade_any w b s hP.h)
  have bl := hP.h.lt
  obtain ⟨ring, first, h1, h2⟩ := hP.h
  obtain ⟨_, _, _, _, _, h29, _⟩ := h1.get
  change w.cell? ⟨b, 29, none⟩ = some (.int .i64 (s.q.length : Int)) at h29
  have HL := Lib.hid h2.2.1
  have HF := Lib.hid h2.1
  have HP := Lib.hid hP
  have BL := Lib.hid bl
  have HS0 : Hid (∃ ring', SesH w b (s.v ring' first) ∧ RingP ring' first (turnedTo outV s.q 0)) := Lib.hid ⟨ring, h1, by rw [turnedTo_zero]; exact h2⟩
  have HD : Hid (∀ d ∈ D, d ∉ [b]) := Lib.hid fun d hd hm => hP.nb (by simp at hm; exact hm ▸ hd)
  have HQL := Lib.hid hP.ab.q
  have HBASE := Lib.hid hP.inv.base
  have HKK := Lib.hid hK
  clear h1 h2 hP bl hK
  go_enter Try.func13, Try.ntmps13
  go_wp2_with fail
  refine MD.out.mono ?_
  rintro e w1 ⟨rfl, rfl⟩
  go_wp2_with fail
  clear h29
  go_loopw [3, 15] (fun v3 v wr => ∃ (j : Nat) (B : Option Addr) (c : Nat) (l : List PakV), j ≤ s.q.length ∧ v3 = .slice B l.length c ∧ v = .int .i64 (j : Int) ∧ Hid (∃ ring', SesH wr b (s.v ring' first) ∧ RingP ring' first (turnedTo outV s.q j)) ∧ Hid (OwnK pakTy wr B c l ∧ (∀ a, B = some a → w1.heap.size ≤ a.block) ∧ PaksP wr w1.heap.size l (outQ s.ep s.peer s.came s.base (st.q.take j))) ∧ Hid (Chg [b] w1 wr)) (fun _ v _ => s.q.length - (RowKit.intOf v).toNat)
  case atStart => exact ⟨0, none, 0, [], Nat.zero_le _, rfl, rfl, HS0.out, ⟨OwnK.none_ _, by simp, by rw [List.take_zero]; exact PaksP.nil _ _⟩, Chg.refl _ _⟩
  case round =>
    obtain ⟨j, B, c, l, hj, rfl, rfl, HS, HR, HI⟩ := hrel
    have i0 : (0 : Int) ≤ (j : Int) := by omega
    have i1 : IntKind.i64.wrap ((j : Int) + 1) = (j : Int) + 1 := IntWalk.i64_in _ (by have := HL.out; omega)
    by_cases hlt : j < s.q.length
    · have i2 : (j : Int) < (s.q.length : Int) := by omega
      obtain ⟨x, hx⟩ : ∃ x, s.q[j]? = some x := ⟨_, List.getElem?_eq_getElem hlt⟩
      obtain ⟨y, hy⟩ : ∃ y, st.q[j]? = some y := ⟨_, List.getElem?_eq_getElem (by have := HQL.out; omega)⟩
      have hbp := HP.out.q j x y hx hy
      obtain ⟨r1, hr1, hr2⟩ := HS.out
      obtain ⟨_, _, _, _, z28, _⟩ := hr1.get
      obtain ⟨k, hk⟩ : ∃ k, k = (first + j) % 8 := ⟨_, rfl⟩
      have AT := Lib.hid (at_any wr b first j z28 HF.out (by have := HL.out; omega) k hk)
      have hv := hr2.at_ (turnedTo_at outV s.q j x hx)
      rw [← hk] at hv
      have HV := Lib.hid hv
      have R1 := Lib.hid hr1
      have R2 := Lib.hid hr2
      have KK := Lib.hid hk
      have HX := Lib.hid hx
      have HY := Lib.hid hy
      have DU := Lib.hid (age_due hbp.age)
      have RD := Lib.hid (hbp.rd.chg HI.out (fun a ha => HD.out _ (hbp.blk a ha)))
      have YL : Hid (y.1.length ≤ 400) := Lib.hid (HP.out.inv.ages y (List.mem_of_getElem? hy)).2.2
      have hxn : x.2.1 = y.1.length := hbp.rd.len.symm
      clear HS hr1 hr2 hk z28 hv hx hy hbp
      go_wp2_with fail
      refine AT.out.mono ?_
      rintro e w3 ⟨rfl, hc⟩
      have h1 := R1.out.chg hc (by simp)
      obtain ⟨g0, g1, g2⟩ := h1.body HV.out
      have fr := fun j => h1.free j
      have C3 := Lib.hid (HI.out.trans (hc.mono (S' := [b]) (by simp)))
      have HR3 : Hid (OwnK pakTy w3 B c l ∧ (∀ a, B = some a → w1.heap.size ≤ a.block) ∧ PaksP w3 w1.heap.size l (outQ s.ep s.peer s.came s.base (st.q.take j))) := Lib.hid ⟨HR.out.1.chg hc (by simp), HR.out.2.1, HR.out.2.2.chg hc (by simp)⟩
      replace RD := Lib.hid (RD.out.chg hc (by simp))
      obtain ⟨xA, xn, xc, xo, xg⟩ := x
      dsimp only at g0 g1 g2 hxn
      subst hxn
      have P0 := Lib.hid h1
      clear AT hc h1 HR R1 HI
      cases hdv : due y.2 with
      | false =>
        have hdu := DU.out.trans hdv
        simp only [dueV, Bool.or_eq_false_iff, Bool.not_eq_false', decide_eq_false_iff_not] at hdu
        obtain ⟨rfl, hg⟩ := hdu
        have HO : Hid (outQ s.ep s.peer s.came s.base (st.q.take (j + 1)) = outQ s.ep s.peer s.came s.base (st.q.take j)) := Lib.hid (by rw [outQ_take _ _ _ _ _ j y HY.out, hdv]; simp)
        have HT : Hid (turnedTo outV s.q (j + 1) = turnedTo outV s.q j) := Lib.hid (turnedTo_same outV s.q j _ HX.out (by unfold outV; rw [if_neg]; rw [DU.out, hdv]; simp))
        clear hdv
        go_wp2
        go_round
        case measure => simp [RowKit.intOf]; omega
        exact ⟨j + 1, B, c, l, by omega, rfl, by go_num, ⟨r1, P0.out, by rw [HT.out]; exact R2.out⟩, ⟨HR3.out.1, HR3.out.2.1, by rw [HO.out]; exact HR3.out.2.2⟩, C3.out⟩
      | true =>
      have hdu := DU.out.trans hdv
      have HO : Hid (outQ s.ep s.peer s.came s.base (st.q.take (j + 1)) = outQ s.ep s.peer s.came s.base (st.q.take j) ++ [(s.ep, s.peer, s.base + j, s.came, y.1)]) := Lib.hid (by rw [outQ_take _ _ _ _ _ j y HY.out, hdv]; rfl)
      have hT : outV (xA, y.1.length, xc, xo, xg) = (xA, y.1.length, xc, true, 0) := by unfold outV; rw [if_pos hdu]
      have HT : Hid (turnedTo outV s.q (j + 1) = (turnedTo outV s.q j).set j (xA, y.1.length, xc, true, 0)) := Lib.hid (by rw [← hT]; exact (turnedTo_set outV s.q j _ HX.out).symm)
      have hb2 := P0.out.body2 HV.out true 0
      obtain ⟨w4, hw4⟩ : ∃ w4, w4 = ((w3.setCell ⟨b, 4 + k * 3 + 1, none⟩ (.bool true)).setCell ⟨b, 4 + k * 3 + 2, none⟩ (.int .i64 0)) := ⟨_, rfl⟩
      rw [← hw4] at hb2
      have W4 := Lib.hid hw4
      have C34 : Hid (Chg [b] w3 w4) := Lib.hid (by rw [hw4]; exact ((Chg.refl [b] w3).setCell (.inl (List.mem_singleton.2 rfl)) _).setCell (.inl (List.mem_singleton.2 rfl)) _)
      have HB4 := Lib.hid hb2
      have NB : Hid (∀ a, B = some a → a.block ≠ b) := Lib.hid fun a ha => by have := HR3.out.2.1 a ha; have := BL.out; omega
      have HR4 : Hid (OwnK pakTy w4 B c l ∧ PaksP w4 w1.heap.size l (outQ s.ep s.peer s.came s.base (st.q.take j))) := Lib.hid ⟨HR3.out.1.chg C34.out (fun a ha hm => NB.out a ha (by simpa using hm)), HR3.out.2.2.chg C34.out (fun i x a hx ha hm => by have := (HR3.out.2.2.lt hx ha).1; have := BL.out; simp at hm; omega)⟩
      have HQ4 : Hid (QH w4 b { s with q := turnedTo outV s.q (j + 1) }) := Lib.hid ⟨r1.set k (xA, y.1.length, xc, true, 0), first, by simpa [SQ.v, turnedTo_len] using HB4.out, by rw [HT.out, KK.out]; exact R2.out.set P0.out.2 (by rw [turnedTo_len]; exact hlt) _⟩
      have NX : Hid (∀ a, xA = some a → a.block ∈ D) := Lib.hid (HP.out.q j _ _ HX.out HY.out).blk
      have RD4 := Lib.hid (RD.out.chg C34.out (fun a ha => HD.out _ (NX.out a ha)))
      have HLL : Hid (l.length ≤ 8) := Lib.hid (by
        have e1 := HR4.out.2.len
        have e2 := outQ_len s.ep s.peer s.came s.base (st.q.take j)
        rw [List.length_take] at e2
        have := HL.out
        omega)
      have HV4 : Hid ((r1.set k ((xA, y.1.length, xc, true, 0) : BV))[k]? = some (xA, y.1.length, xc, true, 0)) := Lib.hid (by
        have := List.getElem?_set_self (l := r1) (i := k) (a := ((xA, y.1.length, xc, true, 0) : BV)) (List.getElem?_eq_some_iff.1 HV.out).1
        exact this)
      have e3 : IntKind.i64.wrap (s.base + (j : Int)) = s.base + (j : Int) := IntWalk.i64_in _ (by have := HBASE.out; have := HKK.out; have := HP.out.ab.base; have := HL.out; omega)
      have hdx : xo = false ∨ (xo = true ∧ 4 ≤ xg) := by
        cases xo with
        | false => exact .inl rfl
        | true =>
          simp only [dueV, Bool.not_true, Bool.false_or, decide_eq_true_eq] at hdu
          exact .inr ⟨rfl, hdu⟩
      have FIN := Lib.hid (fun (P : Prop) (h : P) => h)
      clear hb2 hw4 hdv hdu hT
      rcases hdx with rfl | ⟨rfl, hg⟩
      · skip
        go_upto_region 10 with fail
        rw [← W4.out]
        clear W4 g0 g1 g2 fr
        refine wp_region_held_drew (S := fun w' => Chg (blkOf B) w4 w') (by kernel_rfl) (Chg.refl (blkOf B) w4).drew (fun hHeld => ?_)
        have CW := Lib.hid (Chg.refl [] w4).drew
        generalize w4.drew = wd at *
        refine sy 0 41 rfl rfl ?_
        try simp only [Act.put, sA, s0, s1]
        refine sy 1 42 rfl rfl ?_
        try simp only [Act.put, sA, s0, s1]
        refine sy 2 43 rfl rfl ?_
        try simp only [Act.put, sA, s0, s1]
        refine sy 3 44 rfl rfl ?_
        try simp only [Act.put, sA, s0, s1]
        refine sy 4 45 rfl rfl ?_
        try simp only [Act.put, sA, s0, s1]
        refine sy 5 46 rfl rfl ?_
        try simp only [Act.put, sA, s0, s1]
        refine sy 6 47 rfl rfl ?_ (hy := by (intro w hSw; (try dsimp only at hSw); have q := (HQ4.out.chg hSw (fun hm => by obtain ⟨a, ha, e⟩ := of_blkOf hm; exact NB.out a ha e)).get; obtain ⟨_, _, _, _, _, q5, _⟩ := q; go_simp; try with_reducible rfl))
        try simp only [Act.put, sA, s0, s1]
        refine sy 7 48 rfl rfl ?_
        try simp only [Act.put, sA, s0, s1]
        refine sy 8 49 rfl rfl ?_
        try simp only [Act.put, sA, s0, s1]
        refine sy 9 50 rfl rfl ?_
        try simp only [Act.put, sA, s0, s1]
        refine sy 10 51 rfl rfl ?_
        try simp only [Act.put, sA, s0, s1]
        refine sy 11 52 rfl rfl ?_
        try simp only [Act.put, sA, s0, s1]
        refine sy 12 53 rfl rfl ?_ (hy := by (intro w hSw; (try dsimp only at hSw); have q := (HB4.out.chg hSw (fun hm => by obtain ⟨a, ha, e⟩ := of_blkOf hm; exact NB.out a ha e)).body HV4.out; obtain ⟨q0, _, _⟩ := q; dsimp only at q0; go_simp; try with_reducible rfl))
        try simp only [Act.put, sA, s0, s1]
        refine wpAnyH_ready (rs := [13]) (by kernel_rfl) (by simp) ?_
        refine AllReadyH.cons rfl (fun K hK => ?_) AllReadyH.nil
        replace hK := Lib.hid hK
        go_simp
        refine (sepacket_any wd b _ (HQ4.out.chg CW.out (by simp)) (s.base + (j : Int)) xA y.1.length xc y.1 (RD4.out.chg CW.out (by simp)) (by have := YL.out; omega)).mono ?_
        rintro e w5 ⟨A2, c2, rfl, hO, hA, hC⟩
        have O5 := Lib.hid hO
        have N5 := Lib.hid hA
        have C5 := Lib.hid (CW.out.trans hC)
        have S5 := Lib.hid CW.out.size
        clear hO hA hC hHeld
        refine hK.out _ _ (C5.out.mono (S' := blkOf B) (by simp)) (fun hHeld => ?_)
        clear hK K
        try simp only [Act.put, sA, s0, s1]
        refine wpAnyH_ready (rs := [14]) (by kernel_rfl) (by simp) ?_
        refine AllReadyH.cons rfl (fun K hK => ?_) AllReadyH.nil
        replace hK := Lib.hid hK
        obtain ⟨w6, hw6, c6, m6⟩ := news1 w5 (.cells #[.int .i64 s.ep, .int .i64 s.peer, .int .i64 (s.base + (j : Int)), .int .i64 s.came, .slice A2 y.1.length c2] 35)
        have W6 := Lib.hid hw6
        have M6 : Hid (RdK pakTy w6 (some ⟨w5.heap.size, 0, none⟩) 1 [((s.ep, s.peer, s.base + (j : Int), s.came, A2, y.1.length, c2) : PakV)]) := Lib.hid (row_one m6)
        have C6 := Lib.hid c6
        clear hw6 c6 m6
        go_simp
        rw [← W6.out]
        clear hHeld W6
        refine hK.out _ _ ((C5.out.trans C6.out).mono (S' := blkOf B) (by simp)) (fun hHeld => ?_)
        clear hK K
        try simp only [Act.put, sA, s0, s1]
        refine wpAnyH_ready (rs := [15]) (by kernel_rfl) (by simp) ?_
        refine AllReadyH.cons rfl (fun K hK => ?_) AllReadyH.nil
        replace hK := Lib.hid hK
        refine step_appK (R := pakTy) rfl (.tmp 41) (.tmp 55) rfl rfl (A := B) (B := some ⟨w5.heap.size, 0, none⟩) (n := l.length) (m := 1) (c := c) (d := 1) (xs := l) (ys := [((s.ep, s.peer, s.base + (j : Int), s.came, A2, y.1.length, c2) : PakV)]) (HR4.out.1.chg (C5.out.trans C6.out) (by simp)) rfl rfl M6.out (by have := HLL.out; omega) ?_
        intro B2 d2 w7 o2 g2 e2
        have O7 := Lib.hid o2
        have C67 : Hid (Chg (blkOf B) w6 w7) := Lib.hid ((Chg.refl (blkOf B) w6).grown g2 (fun k hk => .inl (by simpa [blkOf] using hk)))
        have E7 := Lib.hid e2
        clear o2 g2 e2 hHeld
        refine hK.out _ _ (((C5.out.trans C6.out).mono (S' := blkOf B) (by simp)).trans C67.out) (fun hHeld => ?_)
        clear hK K
        try simp only [Act.put, sA, s0, s1]
        refine sy 16 3 rfl rfl ?_
        try simp only [Act.put, sA, s0, s1]
        refine wpAnyH_done (by kernel_rfl) ?_ _
        have CC := Lib.hid ((C5.out.trans C6.out).mono (S' := blkOf B) (by simp) |>.trans C67.out)
        have NBX : Hid (b ∉ blkOf B) := Lib.hid (fun hm => by obtain ⟨a, ha, e⟩ := of_blkOf hm; exact NB.out a ha e)
        have FO : Hid (∀ (i : Nat) (x : PakV) (a : Addr), l[i]? = some x → x.2.2.2.2.1 = some a → a.block ∉ blkOf B) := Lib.hid (fun i x a hx ha hm => by
          obtain ⟨a', ha', e⟩ := of_blkOf hm
          rcases HR4.out.1.shape with ⟨e0, _⟩ | ⟨g, e0, _⟩
          · rw [e0] at ha'; cases ha'
          · rw [e0] at ha'
            cases ha'
            obtain ⟨g', full, e1, hg, _⟩ : ∃ (g' : Nat) (full : List PakV), B = some ⟨g', 0, none⟩ ∧ w4.heap[g']? = some (.cells (pakTy.flat full).toArray pakTy.T (0, 0)) ∧ True := by
              rcases HR4.out.1 with ⟨e1, _⟩ | ⟨g', full, e1, hg, _⟩
              · rw [e1] at e0; cases e0
              · exact ⟨g', full, e1, hg, trivial⟩
            rw [e1] at e0
            cases e0
            have hi := (List.getElem?_eq_some_iff.1 hx).1
            have hp := HR4.out.2.at_ i x _ hx (List.getElem?_eq_getElem (by rw [← HR4.out.2.len]; exact hi))
            exact hp.2.2.2.2.2.1.ne hg (by decide) a ha e.symm)
        go_wp2
        go_round
        case measure => simp [RowKit.intOf]; omega
        refine ⟨j + 1, B2, d2, l ++ [((s.ep, s.peer, s.base + (j : Int), s.came, A2, y.1.length, c2) : PakV)], by omega, by simp, by go_num, ⟨r1.set k (xA, y.1.length, xc, true, 0), HB4.out.chg CC.out NBX.out, by rw [HT.out, KK.out]; exact R2.out.set P0.out.2 (by rw [turnedTo_len]; exact hlt) _⟩, ⟨O7.out, ?_, ?_⟩, ?_⟩
        · intro a ha
          rcases E7.out with e | e
          · exact HR3.out.2.1 a (e ▸ ha)
          · rw [e] at ha
            cases ha
            have := C3.out.size
            have := C34.out.size
            have := C5.out.size
            have := C6.out.size
            simp only
            omega
        · rw [HO.out]
          have n1 : ∀ a, A2 = some a → w4.heap.size ≤ a.block := fun a ha => by have := N5.out a ha; have := S5.out; omega
          refine HR4.out.2.snoc CC.out FO.out ⟨rfl, rfl, rfl, rfl, rfl, (O5.out.chg C6.out (by simp)).chg C67.out (fun a ha hm => ?_), fun a ha => ?_⟩ n1
          · obtain ⟨a', ha', e⟩ := of_blkOf hm
            have := HR4.out.1.lt a' ha'
            have := n1 a ha
            omega
          · have := n1 a ha
            have := C3.out.size
            have := C34.out.size
            omega
        · refine (C3.out.trans C34.out).trans' CC.out (fun i hi => .inr ?_)
          obtain ⟨a, ha, rfl⟩ := of_blkOf hi
          exact HR3.out.2.1 a ha
      · skip
        go_upto_region 10 with fail
        rw [← W4.out]
        clear W4 g0 g1 g2 fr
        refine wp_region_held_drew (S := fun w' => Chg (blkOf B) w4 w') (by kernel_rfl) (Chg.refl (blkOf B) w4).drew (fun hHeld => ?_)
        have CW := Lib.hid (Chg.refl [] w4).drew
        generalize w4.drew = wd at *
        refine sy 0 41 rfl rfl ?_
        try simp only [Act.put, sA, s0, s1]
        refine sy 1 42 rfl rfl ?_
        try simp only [Act.put, sA, s0, s1]
        refine sy 2 43 rfl rfl ?_
        try simp only [Act.put, sA, s0, s1]
        refine sy 3 44 rfl rfl ?_
        try simp only [Act.put, sA, s0, s1]
        refine sy 4 45 rfl rfl ?_
        try simp only [Act.put, sA, s0, s1]
        refine sy 5 46 rfl rfl ?_
        try simp only [Act.put, sA, s0, s1]
        refine sy 6 47 rfl rfl ?_ (hy := by (intro w hSw; (try dsimp only at hSw); have q := (HQ4.out.chg hSw (fun hm => by obtain ⟨a, ha, e⟩ := of_blkOf hm; exact NB.out a ha e)).get; obtain ⟨_, _, _, _, _, q5, _⟩ := q; go_simp; try with_reducible rfl))
        try simp only [Act.put, sA, s0, s1]
        refine sy 7 48 rfl rfl ?_
        try simp only [Act.put, sA, s0, s1]
        refine sy 8 49 rfl rfl ?_
        try simp only [Act.put, sA, s0, s1]
        refine sy 9 50 rfl rfl ?_
        try simp only [Act.put, sA, s0, s1]
        refine sy 10 51 rfl rfl ?_
        try simp only [Act.put, sA, s0, s1]
        refine sy 11 52 rfl rfl ?_
        try simp only [Act.put, sA, s0, s1]
        refine sy 12 53 rfl rfl ?_ (hy := by (intro w hSw; (try dsimp only at hSw); have q := (HB4.out.chg hSw (fun hm => by obtain ⟨a, ha, e⟩ := of_blkOf hm; exact NB.out a ha e)).body HV4.out; obtain ⟨q0, _, _⟩ := q; dsimp only at q0; go_simp; try with_reducible rfl))
        try simp only [Act.put, sA, s0, s1]
        refine wpAnyH_ready (rs := [13]) (by kernel_rfl) (by simp) ?_
        refine AllReadyH.cons rfl (fun K hK => ?_) AllReadyH.nil
        replace hK := Lib.hid hK
        go_simp
        refine (sepacket_any wd b _ (HQ4.out.chg CW.out (by simp)) (s.base + (j : Int)) xA y.1.length xc y.1 (RD4.out.chg CW.out (by simp)) (by have := YL.out; omega)).mono ?_
        rintro e w5 ⟨A2, c2, rfl, hO, hA, hC⟩
        have O5 := Lib.hid hO
        have N5 := Lib.hid hA
        have C5 := Lib.hid (CW.out.trans hC)
        have S5 := Lib.hid CW.out.size
        clear hO hA hC hHeld
        refine hK.out _ _ (C5.out.mono (S' := blkOf B) (by simp)) (fun hHeld => ?_)
        clear hK K
        try simp only [Act.put, sA, s0, s1]
        refine wpAnyH_ready (rs := [14]) (by kernel_rfl) (by simp) ?_
        refine AllReadyH.cons rfl (fun K hK => ?_) AllReadyH.nil
        replace hK := Lib.hid hK
        obtain ⟨w6, hw6, c6, m6⟩ := news1 w5 (.cells #[.int .i64 s.ep, .int .i64 s.peer, .int .i64 (s.base + (j : Int)), .int .i64 s.came, .slice A2 y.1.length c2] 35)
        have W6 := Lib.hid hw6
        have M6 : Hid (RdK pakTy w6 (some ⟨w5.heap.size, 0, none⟩) 1 [((s.ep, s.peer, s.base + (j : Int), s.came, A2, y.1.length, c2) : PakV)]) := Lib.hid (row_one m6)
        have C6 := Lib.hid c6
        clear hw6 c6 m6
        go_simp
        rw [← W6.out]
        clear hHeld W6
        refine hK.out _ _ ((C5.out.trans C6.out).mono (S' := blkOf B) (by simp)) (fun hHeld => ?_)
        clear hK K
        try simp only [Act.put, sA, s0, s1]
        refine wpAnyH_ready (rs := [15]) (by kernel_rfl) (by simp) ?_
        refine AllReadyH.cons rfl (fun K hK => ?_) AllReadyH.nil
        replace hK := Lib.hid hK
        refine step_appK (R := pakTy) rfl (.tmp 41) (.tmp 55) rfl rfl (A := B) (B := some ⟨w5.heap.size, 0, none⟩) (n := l.length) (m := 1) (c := c) (d := 1) (xs := l) (ys := [((s.ep, s.peer, s.base + (j : Int), s.came, A2, y.1.length, c2) : PakV)]) (HR4.out.1.chg (C5.out.trans C6.out) (by simp)) rfl rfl M6.out (by have := HLL.out; omega) ?_
        intro B2 d2 w7 o2 g2 e2
        have O7 := Lib.hid o2
        have C67 : Hid (Chg (blkOf B) w6 w7) := Lib.hid ((Chg.refl (blkOf B) w6).grown g2 (fun k hk => .inl (by simpa [blkOf] using hk)))
        have E7 := Lib.hid e2
        clear o2 g2 e2 hHeld
        refine hK.out _ _ (((C5.out.trans C6.out).mono (S' := blkOf B) (by simp)).trans C67.out) (fun hHeld => ?_)
        clear hK K
        try simp only [Act.put, sA, s0, s1]
        refine sy 16 3 rfl rfl ?_
        try simp only [Act.put, sA, s0, s1]
        refine wpAnyH_done (by kernel_rfl) ?_ _
        have CC := Lib.hid ((C5.out.trans C6.out).mono (S' := blkOf B) (by simp) |>.trans C67.out)
        have NBX : Hid (b ∉ blkOf B) := Lib.hid (fun hm => by obtain ⟨a, ha, e⟩ := of_blkOf hm; exact NB.out a ha e)
        have FO : Hid (∀ (i : Nat) (x : PakV) (a : Addr), l[i]? = some x → x.2.2.2.2.1 = some a → a.block ∉ blkOf B) := Lib.hid (fun i x a hx ha hm => by
          obtain ⟨a', ha', e⟩ := of_blkOf hm
          rcases HR4.out.1.shape with ⟨e0, _⟩ | ⟨g, e0, _⟩
          · rw [e0] at ha'; cases ha'
          · rw [e0] at ha'
            cases ha'
            obtain ⟨g', full, e1, hg, _⟩ : ∃ (g' : Nat) (full : List PakV), B = some ⟨g', 0, none⟩ ∧ w4.heap[g']? = some (.cells (pakTy.flat full).toArray pakTy.T (0, 0)) ∧ True := by
              rcases HR4.out.1 with ⟨e1, _⟩ | ⟨g', full, e1, hg, _⟩
              · rw [e1] at e0; cases e0
              · exact ⟨g', full, e1, hg, trivial⟩
            rw [e1] at e0
            cases e0
            have hi := (List.getElem?_eq_some_iff.1 hx).1
            have hp := HR4.out.2.at_ i x _ hx (List.getElem?_eq_getElem (by rw [← HR4.out.2.len]; exact hi))
            exact hp.2.2.2.2.2.1.ne hg (by decide) a ha e.symm)
        go_wp2
        go_round
        case measure => simp [RowKit.intOf]; omega
        refine ⟨j + 1, B2, d2, l ++ [((s.ep, s.peer, s.base + (j : Int), s.came, A2, y.1.length, c2) : PakV)], by omega, by simp, by go_num, ⟨r1.set k (xA, y.1.length, xc, true, 0), HB4.out.chg CC.out NBX.out, by rw [HT.out, KK.out]; exact R2.out.set P0.out.2 (by rw [turnedTo_len]; exact hlt) _⟩, ⟨O7.out, ?_, ?_⟩, ?_⟩
        · intro a ha
          rcases E7.out with e | e
          · exact HR3.out.2.1 a (e ▸ ha)
          · rw [e] at ha
            cases ha
            have := C3.out.size
            have := C34.out.size
            have := C5.out.size
            have := C6.out.size
            simp only
            omega
        · rw [HO.out]
          have n1 : ∀ a, A2 = some a → w4.heap.size ≤ a.block := fun a ha => by have := N5.out a ha; have := S5.out; omega
          refine HR4.out.2.snoc CC.out FO.out ⟨rfl, rfl, rfl, rfl, rfl, (O5.out.chg C6.out (by simp)).chg C67.out (fun a ha hm => ?_), fun a ha => ?_⟩ n1
          · obtain ⟨a', ha', e⟩ := of_blkOf hm
            have := HR4.out.1.lt a' ha'
            have := n1 a ha
            omega
          · have := n1 a ha
            have := C3.out.size
            have := C34.out.size
            omega
        · refine (C3.out.trans C34.out).trans' CC.out (fun i hi => .inr ?_)
          obtain ⟨a, ha, rfl⟩ := of_blkOf hi
          exact HR3.out.2.1 a ha
    · obtain rfl : j = s.q.length := by omega
      have i2 : ¬ (s.q.length : Int) < (s.q.length : Int) := by omega
      obtain ⟨r1, hr1, hr2⟩ := HS.out
      rw [turnedTo_all] at hr2
      have HQ0 : Hid (QH wr b { s with q := s.q.map outV }) := Lib.hid ⟨r1, first, by simpa [SQ.v] using hr1, hr2⟩
      have R1 := Lib.hid hr1
      have R2 := Lib.hid hr2
      have z33 := hr1.get.2.2.2.2.2.2.2.2.2
      have f33 := hr1.free 33
      have BS := Lib.hid (bswap_f wr b 33 s.owes z33 f33)
      have RR : Hid (OwnK pakTy wr B c l ∧ (∀ a, B = some a → w1.heap.size ≤ a.block) ∧ PaksP wr w1.heap.size l (outQ s.ep s.peer s.came s.base st.q)) := Lib.hid ⟨HR.out.1, HR.out.2.1, by have := HR.out.2.2; rwa [HQL.out, List.take_length] at this⟩
      clear HS hr1 hr2 z33 f33 HR
      go_wp2_with fail
      refine BS.out.mono ?_
      rintro e w3 ⟨rfl, rfl⟩
      have hq3 : QH (wr.drew.setCell ⟨b, 33, none⟩ (.int .u32 0)) b { s with q := s.q.map outV, owes := false } := by
        refine ⟨r1, first, ?_, R2.out⟩
        have := (R1.out.chg (Chg.refl [] wr).drew (by simp)).owes false
        simpa [SQ.v, u32b] using this
      have C3 : Hid (Chg [b] wr (wr.drew.setCell ⟨b, 33, none⟩ (.int .u32 0))) := Lib.hid ((Chg.refl [b] wr).drew.setCell (.inl (List.mem_singleton.2 rfl)) _)
      generalize wr.drew.setCell ⟨b, 33, none⟩ (.int .u32 0) = w3 at *
      have HQ3 := Lib.hid hq3
      clear hq3 BS R1
      have R3 : Hid (OwnK pakTy w3 B c l ∧ (∀ a, B = some a → w1.heap.size ≤ a.block) ∧ PaksP w3 w1.heap.size l (outQ s.ep s.peer s.came s.base st.q)) := Lib.hid ⟨RR.out.1.chg C3.out (fun a ha hm => by have := RR.out.2.1 a ha; have := BL.out; simp at hm; omega), RR.out.2.1, RR.out.2.2.chg C3.out (fun i x a hx ha hm => by have := (RR.out.2.2.lt hx ha).1; have := BL.out; simp at hm; omega)⟩
      have z2 := HQ3.out.get.2.2.1
      by_cases hl : l.length = 0
      · obtain rfl : l = [] := List.eq_nil_of_length_eq_zero hl
        have ho : outQ s.ep s.peer s.came s.base st.q = [] := List.eq_nil_of_length_eq_zero R3.out.2.2.len.symm
        have e0 : ((([] : List PakV).length : Nat) : Int) = 0 := rfl
        by_cases hs : s.owes = true ∨ s.peer = 0
        · have HO : Hid (outL' s st.q = [(s.ep, s.peer, 0, s.came, [])]) := Lib.hid (by unfold outL'; rw [if_pos ⟨ho, hs⟩])
          have BN : Hid (B = none ∧ c = 0 ∨ ∃ g, B = some ⟨g, 0, none⟩) := Lib.hid (by
            rcases R3.out.1.shape with ⟨e1, _, e2⟩ | ⟨g, e1, _⟩
            · exact .inl ⟨e1, e2⟩
            · exact .inr ⟨g, e1⟩)
          have PK := Lib.hid (fun (w' : World) (hc : Chg [] w3 w') => sepacket_any w' b _ (HQ3.out.chg hc (by simp)) 0 none 0 0 [] (Bs.nil _ _) (by omega))
          have hcase : s.owes = true ∨ (s.owes = false ∧ s.peer = 0) := by cases h : s.owes <;> simp_all
          clear hs hl
          rcases hcase with hso | ⟨hso, hsp⟩
          · rw [hso]
            go_wp2_with (first | fail)
            refine (PK.out w3 (Chg.refl [] _)).mono ?_
            rintro e w5 ⟨A2, c2, rfl, hO, hA, hC⟩
            obtain ⟨w6, hw6, c6, m6⟩ := news1 w5 (.cells #[.int .i64 s.ep, .int .i64 s.peer, .int .i64 0, .int .i64 s.came, .slice A2 0 c2] 35)
            have W6 := Lib.hid hw6
            have M6 : Hid (RdK pakTy w6 (some ⟨w5.heap.size, 0, none⟩) 1 [((s.ep, s.peer, 0, s.came, A2, 0, c2) : PakV)]) := Lib.hid (row_one m6)
            have C6 := Lib.hid c6
            have C5 := Lib.hid hC
            have O5 := Lib.hid hO
            have N5 := Lib.hid hA
            have OB := Lib.hid (R3.out.1.chg (hC.trans c6) (by simp))
            clear hO hA hC c6 m6 hw6 z2
            go_wp2_with (at_builtin; rw [← W6.out]; refine wpList_appK (R := pakTy) rfl _ _ rfl rfl OB.out rfl rfl M6.out (by simp) ?_; intro B2 d2 w7 o2 g2 e2)
            have C67 : Chg (blkOf B) w6 w7 := ((Chg.refl (blkOf B) w6).grown g2 (fun k hk => .inl (by simpa [blkOf] using hk)))
            have CC := Lib.hid (((C5.out.trans C6.out).mono (S' := blkOf B) (by simp)).trans C67)
            have LTB : ∀ a, B = some a → w1.heap.size ≤ a.block ∧ a.block < w3.heap.size := fun a ha => ⟨R3.out.2.1 a ha, R3.out.1.lt a ha⟩
            go_ret
            refine ⟨B2, d2, [((s.ep, s.peer, 0, s.came, A2, 0, c2) : PakV)], by simp, o2, ?_, ?_, ?_, ?_⟩
            · intro a ha
              rcases e2 with e | e
              · exact R3.out.2.1 a (e ▸ ha)
              · rw [e] at ha
                cases ha
                have := HI.out.size
                have := C3.out.size
                have := C5.out.size
                have := C6.out.size
                simp only
                omega
            · rw [HO.out]
              have hp := (PaksP.nil w3 w1.heap.size).snoc (C5.out.trans C6.out) (by simp) (x := ((s.ep, s.peer, 0, s.came, A2, 0, c2) : PakV)) (p := (s.ep, s.peer, 0, s.came, [])) ⟨rfl, rfl, rfl, rfl, rfl, O5.out.chg C6.out (by simp), fun a ha => by have := N5.out a ha; have := HI.out.size; have := C3.out.size; omega⟩ (fun a ha => N5.out a ha)
              refine hp.chg C67 (fun i x a hx ha hm => ?_)
              have hi : i = 0 := by have := (List.getElem?_eq_some_iff.1 hx).1; simpa using this
              subst hi
              simp at hx
              subst hx
              obtain ⟨a', ha', e⟩ := of_blkOf hm
              have := N5.out a ha
              have := (LTB a' ha').2
              omega
            · refine HQ3.out.chg CC.out (fun hm => ?_)
              obtain ⟨a, ha, e⟩ := of_blkOf hm
              have := (LTB a ha).1
              have := BL.out
              omega
            · refine (HI.out.trans C3.out).trans' CC.out (fun i hi => .inr ?_)
              obtain ⟨a, ha, rfl⟩ := of_blkOf hi
              exact (LTB a ha).1
          · rw [hso]
            rw [hsp] at z2
            clear hsp
            go_wp2_with (first | fail)
            refine (PK.out w3 (Chg.refl [] _)).mono ?_
            rintro e w5 ⟨A2, c2, rfl, hO, hA, hC⟩
            obtain ⟨w6, hw6, c6, m6⟩ := news1 w5 (.cells #[.int .i64 s.ep, .int .i64 s.peer, .int .i64 0, .int .i64 s.came, .slice A2 0 c2] 35)
            have W6 := Lib.hid hw6
            have M6 : Hid (RdK pakTy w6 (some ⟨w5.heap.size, 0, none⟩) 1 [((s.ep, s.peer, 0, s.came, A2, 0, c2) : PakV)]) := Lib.hid (row_one m6)
            have C6 := Lib.hid c6
            have C5 := Lib.hid hC
            have O5 := Lib.hid hO
            have N5 := Lib.hid hA
            have OB := Lib.hid (R3.out.1.chg (hC.trans c6) (by simp))
            clear hO hA hC c6 m6 hw6 z2
            go_wp2_with (at_builtin; rw [← W6.out]; refine wpList_appK (R := pakTy) rfl _ _ rfl rfl OB.out rfl rfl M6.out (by simp) ?_; intro B2 d2 w7 o2 g2 e2)
            have C67 : Chg (blkOf B) w6 w7 := ((Chg.refl (blkOf B) w6).grown g2 (fun k hk => .inl (by simpa [blkOf] using hk)))
            have CC := Lib.hid (((C5.out.trans C6.out).mono (S' := blkOf B) (by simp)).trans C67)
            have LTB : ∀ a, B = some a → w1.heap.size ≤ a.block ∧ a.block < w3.heap.size := fun a ha => ⟨R3.out.2.1 a ha, R3.out.1.lt a ha⟩
            go_ret
            refine ⟨B2, d2, [((s.ep, s.peer, 0, s.came, A2, 0, c2) : PakV)], by simp, o2, ?_, ?_, ?_, ?_⟩
            · intro a ha
              rcases e2 with e | e
              · exact R3.out.2.1 a (e ▸ ha)
              · rw [e] at ha
                cases ha
                have := HI.out.size
                have := C3.out.size
                have := C5.out.size
                have := C6.out.size
                simp only
                omega
            · rw [HO.out]
              have hp := (PaksP.nil w3 w1.heap.size).snoc (C5.out.trans C6.out) (by simp) (x := ((s.ep, s.peer, 0, s.came, A2, 0, c2) : PakV)) (p := (s.ep, s.peer, 0, s.came, [])) ⟨rfl, rfl, rfl, rfl, rfl, O5.out.chg C6.out (by simp), fun a ha => by have := N5.out a ha; have := HI.out.size; have := C3.out.size; omega⟩ (fun a ha => N5.out a ha)
              refine hp.chg C67 (fun i x a hx ha hm => ?_)
              have hi : i = 0 := by have := (List.getElem?_eq_some_iff.1 hx).1; simpa using this
              subst hi
              simp at hx
              subst hx
              obtain ⟨a', ha', e⟩ := of_blkOf hm
              have := N5.out a ha
              have := (LTB a' ha').2
              omega
            · refine HQ3.out.chg CC.out (fun hm => ?_)
              obtain ⟨a, ha, e⟩ := of_blkOf hm
              have := (LTB a ha).1
              have := BL.out
              omega
            · refine (HI.out.trans C3.out).trans' CC.out (fun i hi => .inr ?_)
              obtain ⟨a, ha, rfl⟩ := of_blkOf hi
              exact (LTB a ha).1
        · have HO : Hid (outL' s st.q = []) := Lib.hid (by unfold outL'; rw [if_neg (fun h => hs h.2)]; exact ho)
          have hso : s.owes = false := by cases h : s.owes <;> simp_all
          have hsp : ¬ s.peer = 0 := fun h => hs (.inr h)
          rw [hso]
          clear hs
          go_wp2
          go_ret
          exact ⟨B, c, [], rfl, R3.out.1, R3.out.2.1, by rw [HO.out]; exact ho ▸ R3.out.2.2, HQ3.out, HI.out.trans C3.out⟩
      · have ho : ¬ outQ s.ep s.peer s.came s.base st.q = [] := fun h => hl (by have := R3.out.2.2.len; rw [h] at this; simpa using this)
        have HO : Hid (outL' s st.q = outQ s.ep s.peer s.came s.base st.q) := Lib.hid (by unfold outL'; rw [if_neg (fun h => ho h.1)])
        have e0 : ¬ (l.length : Int) = 0 := by omega
        have hd : decide ((l.length : Int) = 0) = false := decide_eq_false e0
        clear ho
        go_wp2
        go_ret
        exact ⟨B, c, l, rfl, R3.out.1, R3.out.2.1, by rw [HO.out]; exact R3.out.2.2, HQ3.out, HI.out.trans C3.out⟩

theorem outL_eq {s : SQ} {st : SesT} (h : Ab s st) : outL' s st.q = outL st := by
  unfold outL' outL
  rw [h.ep, h.peer, h.came, h.base, h.owes]
theorem outLL {K : Nat} {w : World} {b : Nat} {A : Option Addr} {D : List Nat} {st : SesT} (h : SesL K w b A D st) (hK : K ≤ 1000000) : Calls Try.prog 13 #[.pointer (some ⟨b, 0, none⟩)] w fun e w' => ∃ B c l, e = .returned (.slice B l.length c) ∧ OwnK pakTy w' B c l ∧ (∀ a, B = some a → w.heap.size ≤ a.block) ∧ PaksP w' w.heap.size l (outL st) ∧ SesL (K + 1) w' b A D (outS st) ∧ Chg [b] w w' := by
  obtain ⟨s, lt, h⟩ := h
  refine (seout_any h hK).mono ?_
  rintro e w' ⟨B, c, l, rfl, hO, hB, hp, hq, hc⟩
  rw [outL_eq h.ab] at hp
  have hd : ∀ d ∈ D, d ∉ [b] := fun d hd hm => h.nb (by simp at hm; exact hm ▸ hd)
  have ho := h.own.chg hc (fun a ha hm => (h.far a ha).1 (by simpa using hm))
  refine ⟨B, c, l, rfl, hO, hB, hp, ⟨_, lt, hq, ⟨h.ab.ep, h.ab.peer, h.ab.turns, h.ab.base, h.ab.came, rfl, by simp [outS, h.ab.q], h.ab.n⟩, fun i v x hv hx => ?_, h.eA, ho, h.lst.chg hc hd, h.nb, h.far, fun d hm => Nat.lt_of_lt_of_le (h.lo d hm) hc.size, out_inv h.inv⟩, hc⟩
  simp only [outS, List.getElem?_map, Option.map_eq_some_iff] at hv hx
  obtain ⟨v0, hv0, rfl⟩ := hv
  obtain ⟨x0, hx0, rfl⟩ := hx
  have hb := (h.q i v0 x0 hv0 hx0).chg hc hd
  have e1 := outV_keeps v0
  have e2 := was_keeps x0
  exact ⟨by rw [e1.1, e1.2, e2]; exact hb.rd, age_out hb.age, by rw [e1.1]; exact hb.blk⟩
end
end Go.Proofs.Ytmblalcigbghfaa
