/- The document's Out. The document's Receive: what its parts do. -/
import Derived.Test.YtmblalcigbghfaaSgh
namespace Go.Proofs.Ytmblalcigbghfaa
section
open Go.RowKit Go.Lib
set_option linter.unusedSimpArgs false
set_option linter.unusedVariables false


def wasD (v : SentV) : SentV := if due v.2.2.2 = true then (v.1, v.2.1, v.2.2.1, 0) else v
/-- The bodies of packets lie in no row of packets. -/
theorem PaksP.apart {w : World} {lo : Nat} {l : List PakV} {ps : List PakT} (h : PaksP w lo l ps) {B : Option Addr} {c : Nat} {l' : List PakV} (hB : OwnK pakTy w B c l') : ∀ (i : Nat) (x : PakV) (a : Addr), l[i]? = some x → x.2.2.2.2.1 = some a → a.block ∉ blkOf B := fun i x a hx ha hm => by
  obtain ⟨a', ha', e⟩ := of_blkOf hm
  rcases hB with ⟨e1, _⟩ | ⟨g', full, e1, hg, _⟩
  · rw [e1] at ha'; cases ha'
  · rw [e1] at ha'
    cases ha'
    have hi := (List.getElem?_eq_some_iff.1 hx).1
    have hp := h.at_ i x _ hx (List.getElem?_eq_getElem (by rw [← h.len]; exact hi))
    exact hp.2.2.2.2.2.1.ne hg (by decide) a ha e.symm
def outLD (d : DV) (q : List (List UInt8 × Int)) : List PakT := if outQ d.ep d.ot d.came d.base q = [] ∧ (d.owes = true ∨ d.ot = 0) then [(d.ep, d.ot, 0, d.came, [])] else outQ d.ep d.ot d.came d.base q

set_option maxHeartbeats 16000000 in
set_option maxRecDepth 100000 in
theorem dout_any (w : World) (b : Nat) (d : DV) (h : DH w b d) (lq : List SentV) (ho : OwnO sentTy w d.A d.c lq) (hl : lq.length = d.n) (hf : ∀ x, d.A = some x → x.block ≠ b) (hn : d.n ≤ 8) (sq : List (List UInt8 × Int)) (hsl : sq.length = d.n) (hbs : 0 ≤ d.base ∧ d.base ≤ 4000000)
    (hq : ∀ (i : Nat) (v : SentV) (x : List UInt8 × Int), lq[i]? = some v → sq[i]? = some x → Bs w v.1 v.2.1 x.1 ∧ v.2.2.2 = x.2 ∧ ∀ a, v.1 = some a → a.block ∉ blkOf d.A) (hyy : ∀ x ∈ sq, x.1.length ≤ 400) : Calls Try.prog 14 #[.pointer (some ⟨b, 0, none⟩)] w fun e w' => ∃ B c l, e = .returned (.slice B l.length c) ∧ OwnK pakTy w' B c l ∧ (∀ a, B = some a → w.heap.size ≤ a.block) ∧ PaksP w' w.heap.size l (outLD d sq) ∧ DH w' b { d with owes := false } ∧ OwnO sentTy w' d.A d.c (lq.map wasD) ∧ Chg (b :: blkOf d.A) w w' := by
  have H := Lib.hid h
  have HN := Lib.hid (show lq.length = d.n ∧ d.n ≤ 8 ∧ sq.length = d.n ∧ 0 ≤ d.base ∧ d.base ≤ 4000000 from ⟨hl, hn, hsl, hbs.1, hbs.2⟩)
  have NBA : Hid (b ∉ blkOf d.A) := Lib.hid (fun hm => by obtain ⟨x, hx, e⟩ := of_blkOf hm; exact hf x hx e)
  have HO : Hid (OwnO sentTy w d.A d.c (turnedTo wasD lq 0)) := Lib.hid (by rw [turnedTo_zero]; exact ho)
  have BL := Lib.hid h.lt
  have AL := Lib.hid ho.lt
  have HQ := Lib.hid hq
  clear h ho hl hf hn hsl hbs hq
  go_enter Try.func14, Try.ntmps14
  go_wp2_with fail
  go_loopw [3, 4] (fun v3 v wr => ∃ (j : Nat) (B : Option Addr) (c : Nat) (l : List PakV), j ≤ d.n ∧ v3 = .slice B l.length c ∧ v = .int .i64 (j : Int) ∧ Hid (OwnO sentTy wr d.A d.c (turnedTo wasD lq j)) ∧ Hid (OwnK pakTy wr B c l ∧ (∀ a, B = some a → w.heap.size ≤ a.block) ∧ PaksP wr w.heap.size l (outQ d.ep d.ot d.came d.base (sq.take j))) ∧ Hid (Chg (blkOf d.A) w wr)) (fun _ v _ => d.n - (RowKit.intOf v).toNat)
  case atStart => exact ⟨0, none, 0, [], Nat.zero_le _, rfl, rfl, HO.out, ⟨OwnK.none_ _, by simp, by rw [List.take_zero]; exact PaksP.nil _ _⟩, Chg.refl _ _⟩
  case round =>
    obtain ⟨j, B, c, l, hj, rfl, rfl, HS, HR, HI⟩ := hrel
    have i0 : (0 : Int) ≤ (j : Int) := by omega
    have i1 : IntKind.i64.wrap ((j : Int) + 1) = (j : Int) + 1 := IntWalk.i64_in _ (by have := HN.out; omega)
    have HW := Lib.hid (H.out.chg HI.out NBA.out)
    have z2 := HW.out.get.2.2.1
    by_cases hlt : j < d.n
    · have i2 : (j : Int) < (d.n : Int) := by omega
      obtain ⟨x, hx⟩ : ∃ x, lq[j]? = some x := ⟨_, List.getElem?_eq_getElem (by have := HN.out; omega)⟩
      obtain ⟨y, hy⟩ : ∃ y, sq[j]? = some y := ⟨_, List.getElem?_eq_getElem (by have := HN.out; omega)⟩
      obtain ⟨hb1, hb2, hb3⟩ := HQ.out j x y hx hy
      have hlen : (turnedTo wasD lq j).length = d.n := by rw [turnedTo_len]; exact HN.out.1
      have hrd := HS.out.reads
      rw [hlen] at hrd
      obtain ⟨g, o, hA, hg⟩ := hrd.line (by omega)
      have hxt := turnedTo_at wasD lq j x hx
      rw [hA] at hrd z2
      obtain ⟨q0, q1⟩ := sentCells hrd hxt
      have hS2 := HS.out
      rw [hA] at hS2
      have HX := Lib.hid hx
      have HY := Lib.hid hy
      have HXT := Lib.hid hxt
      have S2 := Lib.hid hS2
      have EA := Lib.hid hA
      have GL : Hid (g < w.heap.size) := Lib.hid (AL.out _ hA)
      have RD := Lib.hid (hb1.chg HI.out (fun a ha hm => hb3 a ha hm))
      have hyl : x.2.1 = y.1.length := hb1.len.symm
      have BI := Lib.hid hb3
      obtain ⟨xA, xn, xc, xg⟩ := x
      dsimp only at q0 q1 hb2 hyl
      subst hyl
      subst hb2
      clear hx hy hxt hS2 hA hg hlen hb1 hb3
      cases hdv : due y.2 with
      | false =>
        have HOQ : Hid (outQ d.ep d.ot d.came d.base (sq.take (j + 1)) = outQ d.ep d.ot d.came d.base (sq.take j)) := Lib.hid (by rw [outQ_take _ _ _ _ _ j y HY.out, hdv]; simp)
        have P1 : Hid (OwnO sentTy wr d.A d.c (turnedTo wasD lq (j + 1))) := Lib.hid (by rw [turnedTo_same wasD lq j _ HX.out (by unfold wasD; rw [if_neg]; simp only; rw [hdv]; simp)]; exact HS.out)
        have hu := hdv
        simp only [due, decide_eq_false_iff_not, not_or] at hu
        obtain ⟨h1, h2⟩ := hu
        have d1 : decide (y.2 < 0) = false := decide_eq_false h1
        have d2 : decide (4 ≤ y.2) = false := decide_eq_false h2
        clear hrd hdv
        go_wp2
        go_round
        case measure => simp [RowKit.intOf]; omega
        exact ⟨j + 1, B, c, l, by omega, rfl, by go_num, P1.out, ⟨HR.out.1, HR.out.2.1, by rw [HOQ.out]; exact HR.out.2.2⟩, HI.out⟩
      | true =>
        have HOQ : Hid (outQ d.ep d.ot d.came d.base (sq.take (j + 1)) = outQ d.ep d.ot d.came d.base (sq.take j) ++ [(d.ep, d.ot, d.base + j, d.came, y.1)]) := Lib.hid (by rw [outQ_take _ _ _ _ _ j y HY.out, hdv]; rfl)
        have HT : Hid (turnedTo wasD lq (j + 1) = (turnedTo wasD lq j).set j (xA, y.1.length, xc, 0)) := Lib.hid (by
          rw [← turnedTo_set wasD lq j _ HX.out]
          congr 1
          unfold wasD
          rw [if_pos hdv])
        have hdx : y.2 < 0 ∨ (¬ y.2 < 0 ∧ 4 ≤ y.2) := by
          have hu := hdv
          simp only [due, decide_eq_true_eq] at hu
          omega
        have e3 : IntKind.i64.wrap (d.base + (j : Int)) = d.base + (j : Int) := IntWalk.i64_in _ (by have := HN.out; omega)
        have HLL : Hid (l.length ≤ 8 ∧ y.1.length ≤ 400) := Lib.hid (by
          have e1 := HR.out.2.2.len
          have e2 := outQ_len d.ep d.ot d.came d.base (sq.take j)
          rw [List.length_take] at e2
          have := HN.out
          exact ⟨by omega, hyy y (List.mem_of_getElem? HY.out)⟩)
        have NBB : Hid (b ∉ blkOf B ∧ g ∉ blkOf B) := Lib.hid ⟨fun hm => by obtain ⟨a, ha, e⟩ := of_blkOf hm; have := HR.out.2.1 a ha; have := BL.out; omega, fun hm => by obtain ⟨a, ha, e⟩ := of_blkOf hm; have := HR.out.2.1 a ha; have := GL.out; omega⟩
        have hd1 : decide (y.2 < 0) = decide (y.2 < 0) := rfl
        clear hrd hdv hd1
        rcases hdx with h1 | ⟨h1, h2⟩
        · skip
          have d1 : decide (y.2 < 0) = true := decide_eq_true h1
          go_upto_region 6 with fail
          clear q0 q1 z2
          refine wp_region_held_drew (S := fun w' => Chg (blkOf B) wr w') (by kernel_rfl) (Chg.refl (blkOf B) wr).drew (fun hHeld => ?_)
          have D := Lib.hid (Chg.refl [] wr).drew
          generalize wr.drew = wd at *
          refine sy 0 34 rfl rfl ?_
          try simp only [Act.put, sA, s0, s1]
          refine sy 1 35 rfl rfl ?_
          try simp only [Act.put, sA, s0, s1]
          refine sy 2 36 rfl rfl ?_
          try simp only [Act.put, sA, s0, s1]
          refine sy 3 37 rfl rfl ?_
          try simp only [Act.put, sA, s0, s1]
          refine sy 4 38 rfl rfl ?_ (hy := by (intro w hSw; (try dsimp only at hSw); have q := (HW.out.chg hSw NBB.out.1).get; rw [EA.out] at q; obtain ⟨q0, q1, q2, q3, q4, _⟩ := q; go_simp; try with_reducible rfl))
          try simp only [Act.put, sA, s0, s1]
          refine sy 5 39 rfl rfl ?_
          try simp only [Act.put, sA, s0, s1]
          refine sy 6 40 rfl rfl ?_
          try simp only [Act.put, sA, s0, s1]
          refine sy 7 41 rfl rfl ?_
          try simp only [Act.put, sA, s0, s1]
          refine sy 8 42 rfl rfl ?_ (hy := by (intro w hSw; (try dsimp only at hSw); have q := (HW.out.chg hSw NBB.out.1).get; rw [EA.out] at q; obtain ⟨q0, q1, q2, q3, q4, _⟩ := q; go_simp; try with_reducible rfl))
          try simp only [Act.put, sA, s0, s1]
          refine sy 9 43 rfl rfl ?_
          try simp only [Act.put, sA, s0, s1]
          refine sy 10 44 rfl rfl ?_
          try simp only [Act.put, sA, s0, s1]
          refine sy 11 45 rfl rfl ?_
          try simp only [Act.put, sA, s0, s1]
          refine sy 12 46 rfl rfl ?_ (hy := by (intro w hSw; (try dsimp only at hSw); have q := (HW.out.chg hSw NBB.out.1).get; rw [EA.out] at q; obtain ⟨q0, q1, q2, q3, q4, _⟩ := q; go_simp; try with_reducible rfl))
          try simp only [Act.put, sA, s0, s1]
          refine sy 13 47 rfl rfl ?_
          try simp only [Act.put, sA, s0, s1]
          refine sy 14 48 rfl rfl ?_
          try simp only [Act.put, sA, s0, s1]
          refine sy 15 49 rfl rfl ?_
          try simp only [Act.put, sA, s0, s1]
          refine sy 16 50 rfl rfl ?_
          try simp only [Act.put, sA, s0, s1]
          refine sy 17 51 rfl rfl ?_
          try simp only [Act.put, sA, s0, s1]
          refine sy 18 52 rfl rfl ?_ (hy := by (intro w hSw; (try dsimp only at hSw); have q := (HW.out.chg hSw NBB.out.1).get; rw [EA.out] at q; obtain ⟨q0, q1, q2, q3, q4, _⟩ := q; go_simp; try with_reducible rfl))
          try simp only [Act.put, sA, s0, s1]
          refine sy 20 54 rfl rfl ?_
          try simp only [Act.put, sA, s0, s1]
          refine sy 21 55 rfl rfl ?_
          try simp only [Act.put, sA, s0, s1]
          refine sy 22 56 rfl rfl ?_
          try simp only [Act.put, sA, s0, s1]
          refine sy 23 57 rfl rfl ?_ (hy := by (intro w hSw; (try dsimp only at hSw); have q := (HW.out.chg hSw NBB.out.1).get; rw [EA.out] at q; obtain ⟨q0, q1, q2, q3, q4, _⟩ := q; go_simp; try with_reducible rfl))
          try simp only [Act.put, sA, s0, s1]
          refine sy 24 58 rfl rfl ?_
          try simp only [Act.put, sA, s0, s1]
          refine sy 25 59 rfl rfl ?_
          try simp only [Act.put, sA, s0, s1]
          refine sy 26 60 rfl rfl ?_
          try simp only [Act.put, sA, s0, s1]
          refine sy 27 61 rfl rfl ?_ (hy := by (intro w hSw; (try dsimp only at hSw); have q := (sentCells (S2.out.chg hSw (by rintro a ha; cases ha; exact NBB.out.2)).reads HXT.out).1; dsimp only at q; go_simp; try with_reducible rfl))
          try simp only [Act.put, sA, s0, s1]
          refine wpAnyH_ready (rs := [19]) (by kernel_rfl) (by simp) ?_
          refine AllReadyH.cons rfl (fun K hK => ?_) AllReadyH.nil
          replace hK := Lib.hid hK
          obtain ⟨w5, hw5, c5, m5⟩ := news1 wd (.cells #[] 5)
          have W5 := Lib.hid hw5
          have O5 := Lib.hid (show OwnB w5 (some ⟨wd.heap.size, 0, none⟩) 0 [] from (by rw [hw5]; exact OwnB.empty wd))
          have C5 := Lib.hid c5
          clear hw5 c5 m5
          go_simp
          rw [← W5.out]
          clear W5 hHeld
          refine hK.out _ _ ((D.out.trans C5.out).mono (S' := blkOf B) (by simp)) (fun hHeld => ?_)
          clear hK K
          try simp only [Act.put, sA, s0, s1]
          refine wpAnyH_ready (rs := [28]) (by kernel_rfl) (by simp) ?_
          refine AllReadyH.cons rfl (fun K hK => ?_) AllReadyH.nil
          replace hK := Lib.hid hK
          refine step_app rfl (.tmp 53) (.tmp 61) rfl rfl (A := some ⟨wd.heap.size, 0, none⟩) (B := xA) (n := 0) (m := y.1.length) (c := 0) (d := xc) (xs := []) (ys := y.1) O5.out rfl rfl (RD.out.chg (D.out.trans C5.out) (by simp)) (by have := HLL.out; omega) ?_
          intro A6 c6 w6 o6 g6 e6
          have O6 : Hid (OwnB w6 A6 c6 y.1) := Lib.hid (by simpa using o6)
          have C6 : Hid (Chg [] wd w6) := Lib.hid (C5.out.grown g6 (fun k hk => .inr (by simp at hk; omega)))
          have N6 : Hid (∀ a, A6 = some a → wr.heap.size ≤ a.block) := Lib.hid (fun a ha => by have := D.out.size; rcases e6 with e | e <;> rw [e] at ha <;> cases ha <;> have := C5.out.size <;> simp <;> omega)
          simp only [Nat.zero_add]
          clear o6 g6 e6 O5 hHeld
          refine hK.out _ _ ((D.out.trans C6.out).mono (S' := blkOf B) (by simp)) (fun hHeld => ?_)
          clear hK K
          try simp only [Act.put, sA, s0, s1]
          refine sy 29 63 rfl rfl ?_
          try simp only [Act.put, sA, s0, s1]
          refine wpAnyH_ready (rs := [30]) (by kernel_rfl) (by simp) ?_
          refine AllReadyH.cons rfl (fun K hK => ?_) AllReadyH.nil
          replace hK := Lib.hid hK
          obtain ⟨w7, hw7, c7, m7⟩ := news1 w6 (.cells #[.int .i64 d.ep, .int .i64 d.ot, .int .i64 (d.base + (j : Int)), .int .i64 d.came, .slice A6 y.1.length c6] 35)
          have W7 := Lib.hid hw7
          have M7 : Hid (RdK pakTy w7 (some ⟨w6.heap.size, 0, none⟩) 1 [((d.ep, d.ot, d.base + (j : Int), d.came, A6, y.1.length, c6) : PakV)]) := Lib.hid (row_one m7)
          have C67 := Lib.hid c7
          have C7 := Lib.hid (C6.out.trans c7)
          clear hw7 c7 m7
          go_simp
          rw [← W7.out]
          clear hHeld W7
          refine hK.out _ _ ((D.out.trans C7.out).mono (S' := blkOf B) (by simp)) (fun hHeld => ?_)
          clear hK K
          try simp only [Act.put, sA, s0, s1]
          refine wpAnyH_ready (rs := [31]) (by kernel_rfl) (by simp) ?_
          refine AllReadyH.cons rfl (fun K hK => ?_) AllReadyH.nil
          replace hK := Lib.hid hK
          refine step_appK (R := pakTy) rfl (.tmp 34) (.tmp 64) rfl rfl (A := B) (B := some ⟨w6.heap.size, 0, none⟩) (n := l.length) (m := 1) (c := c) (d := 1) (xs := l) (ys := [((d.ep, d.ot, d.base + (j : Int), d.came, A6, y.1.length, c6) : PakV)]) (HR.out.1.chg (D.out.trans C7.out) (by simp)) rfl rfl M7.out (by have := HLL.out; omega) ?_
          intro B2 d2 w8 o8 g8 e8
          have O8 := Lib.hid o8
          have C78 : Hid (Chg (blkOf B) w7 w8) := Lib.hid ((Chg.refl (blkOf B) w7).grown g8 (fun k hk => .inl (by simpa [blkOf] using hk)))
          have E8 := Lib.hid e8
          clear o8 g8 e8 hHeld
          refine hK.out _ _ ((((D.out.trans C7.out).mono (S' := blkOf B) (by simp))).trans C78.out) (fun hHeld => ?_)
          clear hK K
          try simp only [Act.put, sA, s0, s1]
          refine sy 32 3 rfl rfl ?_
          try simp only [Act.put, sA, s0, s1]
          refine wpAnyH_done (by kernel_rfl) ?_ _
          have CC : Hid (Chg (blkOf B) wr w8) := Lib.hid (((D.out.trans C7.out).mono (S' := blkOf B) (by simp)).trans C78.out)
          have n6 : ∀ a, A6 = some a → wr.heap.size ≤ a.block := N6.out
          have hsn := HR.out.2.2.snoc CC.out (HR.out.2.2.apart HR.out.1) (x := ((d.ep, d.ot, d.base + (j : Int), d.came, A6, y.1.length, c6) : PakV)) (p := (d.ep, d.ot, d.base + j, d.came, y.1)) ⟨rfl, rfl, rfl, rfl, rfl, (O6.out.chg C67.out (by simp)).chg C78.out (fun a ha hm => by
            obtain ⟨a', ha', e⟩ := of_blkOf hm
            have := HR.out.1.lt a' ha'
            have := n6 a ha
            omega), fun a ha => by have := n6 a ha; have := HI.out.size; omega⟩ n6
          have B2N : ∀ a, B2 = some a → w.heap.size ≤ a.block := fun a ha => by
            rcases E8.out with e | e
            · exact HR.out.2.1 a (e ▸ ha)
            · rw [e] at ha
              cases ha
              have := HI.out.size
              have := D.out.size
              have := C7.out.size
              simp only
              omega
          have S3 := Lib.hid (S2.out.chg CC.out (by rintro a ha; cases ha; exact NBB.out.2))
          have HW3 := Lib.hid (HW.out.chg CC.out NBB.out.1)
          have SN := Lib.hid hsn
          have BN := Lib.hid B2N
          have q2 := HW3.out.get.2.2.1
          rw [EA.out] at q2
          have q1 := (sentCells S3.out.reads HXT.out).2
          have fr := S3.out.frz (o + j * 2 + 1)
          have P1 : Hid (OwnO sentTy (w8.setCell ⟨g, o + j * 2 + 1, none⟩ (.int .i64 0)) d.A d.c (turnedTo wasD lq (j + 1))) := Lib.hid (by
            rw [EA.out, HT.out]
            exact S3.out.put j 1 _ (xA, y.1.length, xc, 0) (.int .i64 0) HXT.out (by decide) rfl)
          clear hsn B2N n6
          go_wp2
          go_round
          case measure => simp [RowKit.intOf]; omega
          have CG : Chg [g] w8 (w8.setCell ⟨g, o + j * 2 + 1, none⟩ (.int .i64 0)) := (Chg.refl [g] w8).setCell (.inl (List.mem_singleton.2 rfl)) _
          refine ⟨j + 1, B2, d2, l ++ [((d.ep, d.ot, d.base + (j : Int), d.came, A6, y.1.length, c6) : PakV)], by omega, by simp, by go_num, P1.out, ⟨O8.out.chg CG (fun a ha hm => by have := BN.out a ha; have := GL.out; simp at hm; omega), BN.out, ?_⟩, ?_⟩
          · rw [HOQ.out]
            exact SN.out.chg CG (fun i x a hx ha hm => by have := (SN.out.lt hx ha).1; have := GL.out; simp at hm; omega)
          · refine (HI.out.trans' CC.out (fun i hi => .inr ?_)).setCell (.inl (Chg.selfB EA.out)) _
            obtain ⟨a, ha, rfl⟩ := of_blkOf hi
            exact HR.out.2.1 a ha
        · skip
          have d1 : decide (y.2 < 0) = false := decide_eq_false h1
          have d2 : decide (4 ≤ y.2) = true := decide_eq_true h2
          go_upto_region 6 with fail
          clear q0 q1 z2
          refine wp_region_held_drew (S := fun w' => Chg (blkOf B) wr w') (by kernel_rfl) (Chg.refl (blkOf B) wr).drew (fun hHeld => ?_)
          have D := Lib.hid (Chg.refl [] wr).drew
          generalize wr.drew = wd at *
          refine sy 0 34 rfl rfl ?_
          try simp only [Act.put, sA, s0, s1]
          refine sy 1 35 rfl rfl ?_
          try simp only [Act.put, sA, s0, s1]
          refine sy 2 36 rfl rfl ?_
          try simp only [Act.put, sA, s0, s1]
          refine sy 3 37 rfl rfl ?_
          try simp only [Act.put, sA, s0, s1]
          refine sy 4 38 rfl rfl ?_ (hy := by (intro w hSw; (try dsimp only at hSw); have q := (HW.out.chg hSw NBB.out.1).get; rw [EA.out] at q; obtain ⟨q0, q1, q2, q3, q4, _⟩ := q; go_simp; try with_reducible rfl))
          try simp only [Act.put, sA, s0, s1]
          refine sy 5 39 rfl rfl ?_
          try simp only [Act.put, sA, s0, s1]
          refine sy 6 40 rfl rfl ?_
          try simp only [Act.put, sA, s0, s1]
          refine sy 7 41 rfl rfl ?_
          try simp only [Act.put, sA, s0, s1]
          refine sy 8 42 rfl rfl ?_ (hy := by (intro w hSw; (try dsimp only at hSw); have q := (HW.out.chg hSw NBB.out.1).get; rw [EA.out] at q; obtain ⟨q0, q1, q2, q3, q4, _⟩ := q; go_simp; try with_reducible rfl))
          try simp only [Act.put, sA, s0, s1]
          refine sy 9 43 rfl rfl ?_
          try simp only [Act.put, sA, s0, s1]
          refine sy 10 44 rfl rfl ?_
          try simp only [Act.put, sA, s0, s1]
          refine sy 11 45 rfl rfl ?_
          try simp only [Act.put, sA, s0, s1]
          refine sy 12 46 rfl rfl ?_ (hy := by (intro w hSw; (try dsimp only at hSw); have q := (HW.out.chg hSw NBB.out.1).get; rw [EA.out] at q; obtain ⟨q0, q1, q2, q3, q4, _⟩ := q; go_simp; try with_reducible rfl))
          try simp only [Act.put, sA, s0, s1]
          refine sy 13 47 rfl rfl ?_
          try simp only [Act.put, sA, s0, s1]
          refine sy 14 48 rfl rfl ?_
          try simp only [Act.put, sA, s0, s1]
          refine sy 15 49 rfl rfl ?_
          try simp only [Act.put, sA, s0, s1]
          refine sy 16 50 rfl rfl ?_
          try simp only [Act.put, sA, s0, s1]
          refine sy 17 51 rfl rfl ?_
          try simp only [Act.put, sA, s0, s1]
          refine sy 18 52 rfl rfl ?_ (hy := by (intro w hSw; (try dsimp only at hSw); have q := (HW.out.chg hSw NBB.out.1).get; rw [EA.out] at q; obtain ⟨q0, q1, q2, q3, q4, _⟩ := q; go_simp; try with_reducible rfl))
          try simp only [Act.put, sA, s0, s1]
          refine sy 20 54 rfl rfl ?_
          try simp only [Act.put, sA, s0, s1]
          refine sy 21 55 rfl rfl ?_
          try simp only [Act.put, sA, s0, s1]
          refine sy 22 56 rfl rfl ?_
          try simp only [Act.put, sA, s0, s1]
          refine sy 23 57 rfl rfl ?_ (hy := by (intro w hSw; (try dsimp only at hSw); have q := (HW.out.chg hSw NBB.out.1).get; rw [EA.out] at q; obtain ⟨q0, q1, q2, q3, q4, _⟩ := q; go_simp; try with_reducible rfl))
          try simp only [Act.put, sA, s0, s1]
          refine sy 24 58 rfl rfl ?_
          try simp only [Act.put, sA, s0, s1]
          refine sy 25 59 rfl rfl ?_
          try simp only [Act.put, sA, s0, s1]
          refine sy 26 60 rfl rfl ?_
          try simp only [Act.put, sA, s0, s1]
          refine sy 27 61 rfl rfl ?_ (hy := by (intro w hSw; (try dsimp only at hSw); have q := (sentCells (S2.out.chg hSw (by rintro a ha; cases ha; exact NBB.out.2)).reads HXT.out).1; dsimp only at q; go_simp; try with_reducible rfl))
          try simp only [Act.put, sA, s0, s1]
          refine wpAnyH_ready (rs := [19]) (by kernel_rfl) (by simp) ?_
          refine AllReadyH.cons rfl (fun K hK => ?_) AllReadyH.nil
          replace hK := Lib.hid hK
          obtain ⟨w5, hw5, c5, m5⟩ := news1 wd (.cells #[] 5)
          have W5 := Lib.hid hw5
          have O5 := Lib.hid (show OwnB w5 (some ⟨wd.heap.size, 0, none⟩) 0 [] from (by rw [hw5]; exact OwnB.empty wd))
          have C5 := Lib.hid c5
          clear hw5 c5 m5
          go_simp
          rw [← W5.out]
          clear W5 hHeld
          refine hK.out _ _ ((D.out.trans C5.out).mono (S' := blkOf B) (by simp)) (fun hHeld => ?_)
          clear hK K
          try simp only [Act.put, sA, s0, s1]
          refine wpAnyH_ready (rs := [28]) (by kernel_rfl) (by simp) ?_
          refine AllReadyH.cons rfl (fun K hK => ?_) AllReadyH.nil
          replace hK := Lib.hid hK
          refine step_app rfl (.tmp 53) (.tmp 61) rfl rfl (A := some ⟨wd.heap.size, 0, none⟩) (B := xA) (n := 0) (m := y.1.length) (c := 0) (d := xc) (xs := []) (ys := y.1) O5.out rfl rfl (RD.out.chg (D.out.trans C5.out) (by simp)) (by have := HLL.out; omega) ?_
          intro A6 c6 w6 o6 g6 e6
          have O6 : Hid (OwnB w6 A6 c6 y.1) := Lib.hid (by simpa using o6)
          have C6 : Hid (Chg [] wd w6) := Lib.hid (C5.out.grown g6 (fun k hk => .inr (by simp at hk; omega)))
          have N6 : Hid (∀ a, A6 = some a → wr.heap.size ≤ a.block) := Lib.hid (fun a ha => by have := D.out.size; rcases e6 with e | e <;> rw [e] at ha <;> cases ha <;> have := C5.out.size <;> simp <;> omega)
          simp only [Nat.zero_add]
          clear o6 g6 e6 O5 hHeld
          refine hK.out _ _ ((D.out.trans C6.out).mono (S' := blkOf B) (by simp)) (fun hHeld => ?_)
          clear hK K
          try simp only [Act.put, sA, s0, s1]
          refine sy 29 63 rfl rfl ?_
          try simp only [Act.put, sA, s0, s1]
          refine wpAnyH_ready (rs := [30]) (by kernel_rfl) (by simp) ?_
          refine AllReadyH.cons rfl (fun K hK => ?_) AllReadyH.nil
          replace hK := Lib.hid hK
          obtain ⟨w7, hw7, c7, m7⟩ := news1 w6 (.cells #[.int .i64 d.ep, .int .i64 d.ot, .int .i64 (d.base + (j : Int)), .int .i64 d.came, .slice A6 y.1.length c6] 35)
          have W7 := Lib.hid hw7
          have M7 : Hid (RdK pakTy w7 (some ⟨w6.heap.size, 0, none⟩) 1 [((d.ep, d.ot, d.base + (j : Int), d.came, A6, y.1.length, c6) : PakV)]) := Lib.hid (row_one m7)
          have C67 := Lib.hid c7
          have C7 := Lib.hid (C6.out.trans c7)
          clear hw7 c7 m7
          go_simp
          rw [← W7.out]
          clear hHeld W7
          refine hK.out _ _ ((D.out.trans C7.out).mono (S' := blkOf B) (by simp)) (fun hHeld => ?_)
          clear hK K
          try simp only [Act.put, sA, s0, s1]
          refine wpAnyH_ready (rs := [31]) (by kernel_rfl) (by simp) ?_
          refine AllReadyH.cons rfl (fun K hK => ?_) AllReadyH.nil
          replace hK := Lib.hid hK
          refine step_appK (R := pakTy) rfl (.tmp 34) (.tmp 64) rfl rfl (A := B) (B := some ⟨w6.heap.size, 0, none⟩) (n := l.length) (m := 1) (c := c) (d := 1) (xs := l) (ys := [((d.ep, d.ot, d.base + (j : Int), d.came, A6, y.1.length, c6) : PakV)]) (HR.out.1.chg (D.out.trans C7.out) (by simp)) rfl rfl M7.out (by have := HLL.out; omega) ?_
          intro B2 d2 w8 o8 g8 e8
          have O8 := Lib.hid o8
          have C78 : Hid (Chg (blkOf B) w7 w8) := Lib.hid ((Chg.refl (blkOf B) w7).grown g8 (fun k hk => .inl (by simpa [blkOf] using hk)))
          have E8 := Lib.hid e8
          clear o8 g8 e8 hHeld
          refine hK.out _ _ ((((D.out.trans C7.out).mono (S' := blkOf B) (by simp))).trans C78.out) (fun hHeld => ?_)
          clear hK K
          try simp only [Act.put, sA, s0, s1]
          refine sy 32 3 rfl rfl ?_
          try simp only [Act.put, sA, s0, s1]
          refine wpAnyH_done (by kernel_rfl) ?_ _
          have CC : Hid (Chg (blkOf B) wr w8) := Lib.hid (((D.out.trans C7.out).mono (S' := blkOf B) (by simp)).trans C78.out)
          have n6 : ∀ a, A6 = some a → wr.heap.size ≤ a.block := N6.out
          have hsn := HR.out.2.2.snoc CC.out (HR.out.2.2.apart HR.out.1) (x := ((d.ep, d.ot, d.base + (j : Int), d.came, A6, y.1.length, c6) : PakV)) (p := (d.ep, d.ot, d.base + j, d.came, y.1)) ⟨rfl, rfl, rfl, rfl, rfl, (O6.out.chg C67.out (by simp)).chg C78.out (fun a ha hm => by
            obtain ⟨a', ha', e⟩ := of_blkOf hm
            have := HR.out.1.lt a' ha'
            have := n6 a ha
            omega), fun a ha => by have := n6 a ha; have := HI.out.size; omega⟩ n6
          have B2N : ∀ a, B2 = some a → w.heap.size ≤ a.block := fun a ha => by
            rcases E8.out with e | e
            · exact HR.out.2.1 a (e ▸ ha)
            · rw [e] at ha
              cases ha
              have := HI.out.size
              have := D.out.size
              have := C7.out.size
              simp only
              omega
          have S3 := Lib.hid (S2.out.chg CC.out (by rintro a ha; cases ha; exact NBB.out.2))
          have HW3 := Lib.hid (HW.out.chg CC.out NBB.out.1)
          have SN := Lib.hid hsn
          have BN := Lib.hid B2N
          have q2 := HW3.out.get.2.2.1
          rw [EA.out] at q2
          have q1 := (sentCells S3.out.reads HXT.out).2
          have fr := S3.out.frz (o + j * 2 + 1)
          have P1 : Hid (OwnO sentTy (w8.setCell ⟨g, o + j * 2 + 1, none⟩ (.int .i64 0)) d.A d.c (turnedTo wasD lq (j + 1))) := Lib.hid (by
            rw [EA.out, HT.out]
            exact S3.out.put j 1 _ (xA, y.1.length, xc, 0) (.int .i64 0) HXT.out (by decide) rfl)
          clear hsn B2N n6
          go_wp2
          go_round
          case measure => simp [RowKit.intOf]; omega
          have CG : Chg [g] w8 (w8.setCell ⟨g, o + j * 2 + 1, none⟩ (.int .i64 0)) := (Chg.refl [g] w8).setCell (.inl (List.mem_singleton.2 rfl)) _
          refine ⟨j + 1, B2, d2, l ++ [((d.ep, d.ot, d.base + (j : Int), d.came, A6, y.1.length, c6) : PakV)], by omega, by simp, by go_num, P1.out, ⟨O8.out.chg CG (fun a ha hm => by have := BN.out a ha; have := GL.out; simp at hm; omega), BN.out, ?_⟩, ?_⟩
          · rw [HOQ.out]
            exact SN.out.chg CG (fun i x a hx ha hm => by have := (SN.out.lt hx ha).1; have := GL.out; simp at hm; omega)
          · refine (HI.out.trans' CC.out (fun i hi => .inr ?_)).setCell (.inl (Chg.selfB EA.out)) _
            obtain ⟨a, ha, rfl⟩ := of_blkOf hi
            exact HR.out.2.1 a ha
    · obtain rfl : j = d.n := by omega
      have i2 : ¬ (d.n : Int) < (d.n : Int) := by omega
      have hfin := HS.out
      rw [← HN.out.1, turnedTo_all] at hfin
      have FI := Lib.hid hfin
      have R3 : Hid (OwnK pakTy wr B c l ∧ (∀ a, B = some a → w.heap.size ≤ a.block) ∧ PaksP wr w.heap.size l (outQ d.ep d.ot d.came d.base sq)) := Lib.hid ⟨HR.out.1, HR.out.2.1, by have := HR.out.2.2; rwa [← HN.out.2.2.1, List.take_length] at this⟩
      have SB := Lib.hid (Chg.refl [b] wr)
      obtain ⟨z0, z1, -, -, z4, -, z6, -⟩ := HW.out.get
      have f6 := HW.out.free 6
      have FINB : Hid (∀ (w9 : World) (B' : Option Addr) (c' : Nat) (l' : List PakV), OwnK pakTy w9 B' c' l' → (∀ a, B' = some a → w.heap.size ≤ a.block) → PaksP w9 w.heap.size l' (outLD d sq) → (Chg (blkOf B) wr w9) → OwnK pakTy (w9.setCell ⟨b, 6, none⟩ (.bool false)) B' c' l' ∧ (∀ a, B' = some a → w.heap.size ≤ a.block) ∧ PaksP (w9.setCell ⟨b, 6, none⟩ (.bool false)) w.heap.size l' (outLD d sq) ∧ DH (w9.setCell ⟨b, 6, none⟩ (.bool false)) b { d with owes := false } ∧ OwnO sentTy (w9.setCell ⟨b, 6, none⟩ (.bool false)) d.A d.c (lq.map wasD) ∧ Chg (b :: blkOf d.A) w (w9.setCell ⟨b, 6, none⟩ (.bool false))) := Lib.hid (by
        intro w9 B' c' l' h1 h2 h3 h4
        have cb : Chg [b] w9 (w9.setCell ⟨b, 6, none⟩ (.bool false)) := (Chg.refl [b] w9).setCell (.inl (List.mem_singleton.2 rfl)) _
        have nb : b ∉ blkOf B := fun hm => by obtain ⟨a, ha, e⟩ := of_blkOf hm; have := R3.out.2.1 a ha; have := BL.out; omega
        refine ⟨h1.chg cb (fun a ha hm => by have := h2 a ha; have := BL.out; simp at hm; omega), h2, h3.chg cb (fun i x a hx ha hm => by have := (h3.lt hx ha).1; have := BL.out; simp at hm; omega), (HW.out.chg h4 nb).sOwes false, (FI.out.chg h4 (fun a ha hm => ?_)).chg cb (fun a ha hm => NBA.out (by simp at hm; rw [← hm]; exact mem_blkOf ha)), ?_⟩
        · obtain ⟨a', ha', e⟩ := of_blkOf hm
          have := R3.out.2.1 a' ha'
          have := AL.out a ha
          omega
        · refine ((HI.out.trans' h4 (fun i hi => .inr ?_)).mono (fun i hi => .inl (List.mem_cons_of_mem _ hi))).trans (cb.mono (fun i hi => .inl (by simp at hi; simp [hi])))
          obtain ⟨a, ha, rfl⟩ := of_blkOf hi
          exact R3.out.2.1 a ha)
      clear hfin HS HR
      by_cases hl : l.length = 0
      · obtain rfl : l = [] := List.eq_nil_of_length_eq_zero hl
        have ho : outQ d.ep d.ot d.came d.base sq = [] := List.eq_nil_of_length_eq_zero R3.out.2.2.len.symm
        have e0 : (((([] : List PakV).length : Nat) : Int)) = 0 := rfl
        have e00 : ((0 : Nat) : Int) = 0 := rfl
        by_cases hs : d.owes = true ∨ d.ot = 0
        · have HO2 : Hid (outLD d sq = [(d.ep, d.ot, 0, d.came, [])]) := Lib.hid (by unfold outLD; rw [if_pos ⟨ho, hs⟩])
          have hcase : d.owes = true ∨ (d.owes = false ∧ d.ot = 0) := by cases h : d.owes <;> simp_all
          clear hs hl
          rcases hcase with hso | ⟨hso, hsp⟩
          · skip
            rw [hso] at z6
            clear hso
            go_upto_region 9 with fail
            refine wp_region_held_drew (S := fun w' => Chg (blkOf B) wr w') (by kernel_rfl) (Chg.refl (blkOf B) wr).drew (fun hHeld => ?_)
            have D := Lib.hid (Chg.refl [] wr).drew
            have NBB : Hid (b ∉ blkOf B) := Lib.hid (fun hm => by obtain ⟨a, ha, e⟩ := of_blkOf hm; have := R3.out.2.1 a ha; have := BL.out; omega)
            clear z0 z1 z4 z6 f6
            generalize wr.drew = wd at *
            refine sy 0 89 rfl rfl ?_
            try simp only [Act.put, sA, s0, s1]
            refine sy 1 90 rfl rfl ?_
            try simp only [Act.put, sA, s0, s1]
            refine sy 2 91 rfl rfl ?_
            try simp only [Act.put, sA, s0, s1]
            refine sy 3 92 rfl rfl ?_
            try simp only [Act.put, sA, s0, s1]
            refine sy 4 93 rfl rfl ?_ (hy := by (intro w hSw; (try dsimp only at hSw); have q := (HW.out.chg hSw NBB.out).get; obtain ⟨q0, q1, q2, q3, q4, _⟩ := q; go_simp; try with_reducible rfl))
            try simp only [Act.put, sA, s0, s1]
            refine sy 5 94 rfl rfl ?_
            try simp only [Act.put, sA, s0, s1]
            refine sy 6 95 rfl rfl ?_
            try simp only [Act.put, sA, s0, s1]
            refine sy 7 96 rfl rfl ?_
            try simp only [Act.put, sA, s0, s1]
            refine sy 8 97 rfl rfl ?_ (hy := by (intro w hSw; (try dsimp only at hSw); have q := (HW.out.chg hSw NBB.out).get; obtain ⟨q0, q1, q2, q3, q4, _⟩ := q; go_simp; try with_reducible rfl))
            try simp only [Act.put, sA, s0, s1]
            refine sy 9 98 rfl rfl ?_
            try simp only [Act.put, sA, s0, s1]
            refine sy 10 99 rfl rfl ?_
            try simp only [Act.put, sA, s0, s1]
            refine sy 11 100 rfl rfl ?_
            try simp only [Act.put, sA, s0, s1]
            refine sy 12 101 rfl rfl ?_ (hy := by (intro w hSw; (try dsimp only at hSw); have q := (HW.out.chg hSw NBB.out).get; obtain ⟨q0, q1, q2, q3, q4, _⟩ := q; go_simp; try with_reducible rfl))
            try simp only [Act.put, sA, s0, s1]
            refine sy 13 102 rfl rfl ?_
            try simp only [Act.put, sA, s0, s1]
            refine wpAnyH_ready (rs := [14]) (by kernel_rfl) (by simp) ?_
            refine AllReadyH.cons rfl (fun K hK => ?_) AllReadyH.nil
            replace hK := Lib.hid hK
            obtain ⟨w7, hw7, c7, m7⟩ := news1 wd (.cells #[.int .i64 d.ep, .int .i64 d.ot, .int .i64 0, .int .i64 d.came, .slice none 0 0] 35)
            have W7 := Lib.hid hw7
            have M7 : Hid (RdK pakTy w7 (some ⟨wd.heap.size, 0, none⟩) 1 [((d.ep, d.ot, 0, d.came, none, 0, 0) : PakV)]) := Lib.hid (row_one m7)
            have C7 := Lib.hid c7
            clear hw7 c7 m7
            go_simp
            rw [← W7.out]
            clear hHeld W7
            refine hK.out _ _ ((D.out.trans C7.out).mono (S' := blkOf B) (by simp)) (fun hHeld => ?_)
            clear hK K
            try simp only [Act.put, sA, s0, s1]
            refine wpAnyH_ready (rs := [15]) (by kernel_rfl) (by simp) ?_
            refine AllReadyH.cons rfl (fun K hK => ?_) AllReadyH.nil
            replace hK := Lib.hid hK
            refine step_appK (R := pakTy) rfl (.tmp 89) (.tmp 103) rfl rfl (A := B) (B := some ⟨wd.heap.size, 0, none⟩) (n := 0) (m := 1) (c := c) (d := 1) (xs := []) (ys := [((d.ep, d.ot, 0, d.came, none, 0, 0) : PakV)]) (R3.out.1.chg (D.out.trans C7.out) (by simp)) rfl rfl M7.out (by omega) ?_
            intro B2 d2 w8 o8 g8 e8
            have O8 := Lib.hid o8
            have C78 : Hid (Chg (blkOf B) w7 w8) := Lib.hid ((Chg.refl (blkOf B) w7).grown g8 (fun k hk => .inl (by simpa [blkOf] using hk)))
            have E8 := Lib.hid e8
            clear o8 g8 e8 hHeld
            refine hK.out _ _ (((D.out.trans C7.out).mono (S' := blkOf B) (by simp)).trans C78.out) (fun hHeld => ?_)
            clear hK K
            try simp only [Act.put, sA, s0, s1]
            refine sy 16 3 rfl rfl ?_
            try simp only [Act.put, sA, s0, s1]
            refine wpAnyH_done (by kernel_rfl) ?_ _
            have CC : Hid (Chg (blkOf B) wr w8) := Lib.hid (((D.out.trans C7.out).mono (S' := blkOf B) (by simp)).trans C78.out)
            have B2N : ∀ a, B2 = some a → w.heap.size ≤ a.block := fun a ha => by
              rcases E8.out with e | e
              · exact R3.out.2.1 a (e ▸ ha)
              · rw [e] at ha
                cases ha
                have := HI.out.size
                have := D.out.size
                have := C7.out.size
                simp only
                omega
            have hp : PaksP w8 w.heap.size [((d.ep, d.ot, 0, d.came, none, 0, 0) : PakV)] [(d.ep, d.ot, 0, d.came, [])] := (PaksP.nil w8 w.heap.size).snoc (Chg.refl [] _) (by simp) ⟨rfl, rfl, rfl, rfl, rfl, OwnB.none_ _, by simp⟩ (by simp)
            have FH := Lib.hid (FINB.out w8 B2 d2 _ O8.out B2N (by rw [HO2.out]; exact hp) CC.out)
            have q6 := (HW.out.chg CC.out NBB.out).get.2.2.2.2.2.2.1
            have f6 := (HW.out.chg CC.out NBB.out).free 6
            clear B2N hp
            go_wp2
            go_ret
            refine ⟨B2, d2, _, ?_, FH.out⟩
            rfl
          · skip
            rw [hso] at z6
            rw [hsp] at z1
            clear hso hsp
            go_upto_region 9 with fail
            refine wp_region_held_drew (S := fun w' => Chg (blkOf B) wr w') (by kernel_rfl) (Chg.refl (blkOf B) wr).drew (fun hHeld => ?_)
            have D := Lib.hid (Chg.refl [] wr).drew
            have NBB : Hid (b ∉ blkOf B) := Lib.hid (fun hm => by obtain ⟨a, ha, e⟩ := of_blkOf hm; have := R3.out.2.1 a ha; have := BL.out; omega)
            clear z0 z1 z4 z6 f6
            generalize wr.drew = wd at *
            refine sy 0 89 rfl rfl ?_
            try simp only [Act.put, sA, s0, s1]
            refine sy 1 90 rfl rfl ?_
            try simp only [Act.put, sA, s0, s1]
            refine sy 2 91 rfl rfl ?_
            try simp only [Act.put, sA, s0, s1]
            refine sy 3 92 rfl rfl ?_
            try simp only [Act.put, sA, s0, s1]
            refine sy 4 93 rfl rfl ?_ (hy := by (intro w hSw; (try dsimp only at hSw); have q := (HW.out.chg hSw NBB.out).get; obtain ⟨q0, q1, q2, q3, q4, _⟩ := q; go_simp; try with_reducible rfl))
            try simp only [Act.put, sA, s0, s1]
            refine sy 5 94 rfl rfl ?_
            try simp only [Act.put, sA, s0, s1]
            refine sy 6 95 rfl rfl ?_
            try simp only [Act.put, sA, s0, s1]
            refine sy 7 96 rfl rfl ?_
            try simp only [Act.put, sA, s0, s1]
            refine sy 8 97 rfl rfl ?_ (hy := by (intro w hSw; (try dsimp only at hSw); have q := (HW.out.chg hSw NBB.out).get; obtain ⟨q0, q1, q2, q3, q4, _⟩ := q; go_simp; try with_reducible rfl))
            try simp only [Act.put, sA, s0, s1]
            refine sy 9 98 rfl rfl ?_
            try simp only [Act.put, sA, s0, s1]
            refine sy 10 99 rfl rfl ?_
            try simp only [Act.put, sA, s0, s1]
            refine sy 11 100 rfl rfl ?_
            try simp only [Act.put, sA, s0, s1]
            refine sy 12 101 rfl rfl ?_ (hy := by (intro w hSw; (try dsimp only at hSw); have q := (HW.out.chg hSw NBB.out).get; obtain ⟨q0, q1, q2, q3, q4, _⟩ := q; go_simp; try with_reducible rfl))
            try simp only [Act.put, sA, s0, s1]
            refine sy 13 102 rfl rfl ?_
            try simp only [Act.put, sA, s0, s1]
            refine wpAnyH_ready (rs := [14]) (by kernel_rfl) (by simp) ?_
            refine AllReadyH.cons rfl (fun K hK => ?_) AllReadyH.nil
            replace hK := Lib.hid hK
            obtain ⟨w7, hw7, c7, m7⟩ := news1 wd (.cells #[.int .i64 d.ep, .int .i64 d.ot, .int .i64 0, .int .i64 d.came, .slice none 0 0] 35)
            have W7 := Lib.hid hw7
            have M7 : Hid (RdK pakTy w7 (some ⟨wd.heap.size, 0, none⟩) 1 [((d.ep, d.ot, 0, d.came, none, 0, 0) : PakV)]) := Lib.hid (row_one m7)
            have C7 := Lib.hid c7
            clear hw7 c7 m7
            go_simp
            rw [← W7.out]
            clear hHeld W7
            refine hK.out _ _ ((D.out.trans C7.out).mono (S' := blkOf B) (by simp)) (fun hHeld => ?_)
            clear hK K
            try simp only [Act.put, sA, s0, s1]
            refine wpAnyH_ready (rs := [15]) (by kernel_rfl) (by simp) ?_
            refine AllReadyH.cons rfl (fun K hK => ?_) AllReadyH.nil
            replace hK := Lib.hid hK
            refine step_appK (R := pakTy) rfl (.tmp 89) (.tmp 103) rfl rfl (A := B) (B := some ⟨wd.heap.size, 0, none⟩) (n := 0) (m := 1) (c := c) (d := 1) (xs := []) (ys := [((d.ep, d.ot, 0, d.came, none, 0, 0) : PakV)]) (R3.out.1.chg (D.out.trans C7.out) (by simp)) rfl rfl M7.out (by omega) ?_
            intro B2 d2 w8 o8 g8 e8
            have O8 := Lib.hid o8
            have C78 : Hid (Chg (blkOf B) w7 w8) := Lib.hid ((Chg.refl (blkOf B) w7).grown g8 (fun k hk => .inl (by simpa [blkOf] using hk)))
            have E8 := Lib.hid e8
            clear o8 g8 e8 hHeld
            refine hK.out _ _ (((D.out.trans C7.out).mono (S' := blkOf B) (by simp)).trans C78.out) (fun hHeld => ?_)
            clear hK K
            try simp only [Act.put, sA, s0, s1]
            refine sy 16 3 rfl rfl ?_
            try simp only [Act.put, sA, s0, s1]
            refine wpAnyH_done (by kernel_rfl) ?_ _
            have CC : Hid (Chg (blkOf B) wr w8) := Lib.hid (((D.out.trans C7.out).mono (S' := blkOf B) (by simp)).trans C78.out)
            have B2N : ∀ a, B2 = some a → w.heap.size ≤ a.block := fun a ha => by
              rcases E8.out with e | e
              · exact R3.out.2.1 a (e ▸ ha)
              · rw [e] at ha
                cases ha
                have := HI.out.size
                have := D.out.size
                have := C7.out.size
                simp only
                omega
            have hp : PaksP w8 w.heap.size [((d.ep, d.ot, 0, d.came, none, 0, 0) : PakV)] [(d.ep, d.ot, 0, d.came, [])] := (PaksP.nil w8 w.heap.size).snoc (Chg.refl [] _) (by simp) ⟨rfl, rfl, rfl, rfl, rfl, OwnB.none_ _, by simp⟩ (by simp)
            have FH := Lib.hid (FINB.out w8 B2 d2 _ O8.out B2N (by rw [HO2.out]; exact hp) CC.out)
            have q6 := (HW.out.chg CC.out NBB.out).get.2.2.2.2.2.2.1
            have f6 := (HW.out.chg CC.out NBB.out).free 6
            clear B2N hp
            go_wp2
            go_ret
            refine ⟨B2, d2, _, ?_, FH.out⟩
            rfl
        · have HO2 : Hid (outLD d sq = []) := Lib.hid (by unfold outLD; rw [if_neg (fun h => hs h.2)]; exact ho)
          have hso : d.owes = false := by cases h : d.owes <;> simp_all
          have hsp : ¬ d.ot = 0 := fun h => hs (.inr h)
          have hdt : decide (d.ot = 0) = false := decide_eq_false hsp
          rw [hso] at z6
          have FF := FINB.out wr B c [] R3.out.1 R3.out.2.1 (by rw [HO2.out]; exact ho ▸ R3.out.2.2) (Chg.refl _ _)
          have FH := Lib.hid FF
          clear hs FF hso
          go_wp2
          go_ret
          exact ⟨B, c, [], rfl, FH.out⟩
      · have ho : ¬ outQ d.ep d.ot d.came d.base sq = [] := fun h => hl (by have := R3.out.2.2.len; rw [h] at this; simpa using this)
        have HO2 : Hid (outLD d sq = outQ d.ep d.ot d.came d.base sq) := Lib.hid (by unfold outLD; rw [if_neg (fun h => ho h.1)])
        have e0 : ¬ (l.length : Int) = 0 := by omega
        have hd : decide ((l.length : Int) = 0) = false := decide_eq_false e0
        have FH := Lib.hid (FINB.out wr B c l R3.out.1 R3.out.2.1 (by rw [HO2.out]; exact R3.out.2.2) (Chg.refl _ _))
        clear ho
        go_wp2
        go_ret
        exact ⟨B, c, l, rfl, FH.out⟩
end
section
open Go.RowKit Go.Lib
set_option linter.unusedSimpArgs false
set_option linter.unusedVariables false


def turnD (d : DV) (f : Int) : DV := { d with ot := f, A := none, n := 0, c := 0, base := 1, came := 0, owes := true, turned := d.turned + 1 }
def meetD (d : DV) (f : Int) : DV := if d.ot < f then turnD d f else d
def dropD (d : DV) (a : Int) : DV := if d.base ≤ a ∧ a < d.base + d.n then { d with A := (if d.c = (a - d.base + 1).toNat then d.A else d.A.map (·.add ((a - d.base + 1).toNat * 2))), n := d.n - (a - d.base + 1).toNat, c := d.c - (a - d.base + 1).toNat, base := a + 1 } else d
theorem dropD_same (s : DV) (a : Int) : (dropD s a).ep = s.ep ∧ (dropD s a).ot = s.ot ∧ (dropD s a).turned = s.turned ∧ (dropD s a).iA = s.iA ∧ (dropD s a).iN = s.iN ∧ (dropD s a).iC = s.iC ∧ (dropD s a).came = s.came ∧ (dropD s a).owes = s.owes := by unfold dropD; split <;> simp
theorem meetD_same (s : DV) (f : Int) : (meetD s f).ep = s.ep ∧ (meetD s f).iA = s.iA ∧ (meetD s f).iN = s.iN ∧ (meetD s f).iC = s.iC := by unfold meetD; split <;> simp [turnD]
end
end Go.Proofs.Ytmblalcigbghfaa
