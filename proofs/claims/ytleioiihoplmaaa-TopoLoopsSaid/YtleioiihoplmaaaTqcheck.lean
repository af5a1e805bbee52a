/- Topologies: the document's Check is the program's. -/
import Derived.Test.YtleioiihoplmaaaTqup
import Derived.Test.YtleioiihoplmaaaTonames
namespace Go.Proofs.Ytleioiihoplmaaa
open Go.RowKit
set_option linter.unusedSimpArgs false
set_option linter.unusedVariables false
def hangsQ (t : List MemT) (n : Int) : Bool :=
  ((memT t n).1 == 2 || (memT t n).1 == 3) && thereT t (memT t n).2.1 && !((memT t (memT t n).2.1).1 == 3) && ((chainT t (t.length + 1) n).getLast? == some 1)
theorem hangsQ_eq {t : List MemT} (hr : RootT t) (n : Int) : hangsQ t n = hangsT t n := by
  unfold hangsQ hangsT
  congr 1
  rw [way_chain hr, Bool.eq_iff_iff, List.contains_iff_mem, beq_iff_eq]
  constructor
  · intro h
    have h1 := List.mem_of_getLast? h
    rw [chain_fits hr h1]
    exact h1
  · intro h
    rw [chain_more hr h (t.length + 1) (by omega)]
    exact chain_last hr h
theorem checkQ_rest {t : List MemT} (h1 : 1 ≤ t.length) (h2 : t.length ≤ 200) (h : t[0]? = some (1, 0, false)) : checkT t = (List.range (t.length - 1)).all (fun i => hangsQ t ((i : Int) + 2)) := by
  rw [check_rest h1 h2 h]
  congr 1
  funext i
  exact (hangsQ_eq h _).symm
/-- Where Check is passed, a node's way is the document's. -/
theorem check_way {t : List MemT} (h : checkT t = true) {n : Int} (hn : thereT t n = true) : RootT t ∧ wayT t t.length n = chainT t (t.length + 1) n ∧ (1 : Int) ∈ chainT t t.length n := by
  have h' := h
  unfold checkT at h
  simp only [Bool.and_eq_true, decide_eq_true_eq, beq_iff_eq] at h
  obtain ⟨⟨⟨h1, h2⟩, h3⟩, h4⟩ := h
  have hr : RootT t := h3
  obtain ⟨n1, n2⟩ := there_iff.1 hn
  have key : (1 : Int) ∈ chainT t t.length n := by
    by_cases e : n = 1
    · subst e
      obtain ⟨f, hf⟩ : ∃ f, t.length = f + 1 := ⟨t.length - 1, by omega⟩
      rw [hf, chainT_succ, if_pos hn]
      simp
    · have := List.all_eq_true.1 h4 (n - 2).toNat (List.mem_range.2 (by omega))
      rw [show (((n - 2).toNat : Nat) : Int) + 2 = n by omega] at this
      unfold hangsT at this
      simp only [Bool.and_eq_true] at this
      rw [way_chain hr, List.contains_iff_mem] at this
      exact this.2
  exact ⟨hr, by rw [way_chain hr]; exact (chain_more hr key (t.length + 1) (by omega)).symm, key⟩
set_option maxRecDepth 100000 in
set_option maxHeartbeats 8000000 in
theorem tqcheck_any (w : World) (A : Option Addr) (c : Nat) (t : List MemT) (h : RdK memTy w A t.length t) (hN : t.length ≤ 100000000) :
    Calls Try.prog 17 #[.slice A t.length c] w fun e w' => e = .returned (.int .i64 (if checkT t then 0 else 2)) ∧ Chg [] w w' := by
  by_cases h0 : t.length < 1
  · rw [check_bad (.inl h0)]
    have i1 : (t.length : Int) < 1 := by omega
    clear h hN
    go_enter Try.func17, Try.ntmps17
    go_wp2
    go_ret
    exact ⟨rfl, Chg.refl _ _⟩
  have i1 : ¬ (t.length : Int) < 1 := by omega
  by_cases h200 : 200 < t.length
  · rw [check_bad (.inr h200)]
    have i2 : (200 : Int) < (t.length : Int) := by omega
    clear h hN
    go_enter Try.func17, Try.ntmps17
    go_wp2
    go_ret
    exact ⟨rfl, Chg.refl _ _⟩
  have i2 : ¬ (200 : Int) < (t.length : Int) := by omega
  have hlt0 : 0 < t.length := by omega
  have i3 : (0 : Int) < (t.length : Int) := by omega
  obtain ⟨g, o, eA, hgl⟩ := h.line (by omega)
  subst eA
  have ex := List.getElem?_eq_getElem hlt0
  generalize hx : t[0] = x at *
  have hp := memCells h ex
  simp only [Nat.zero_mul, Nat.add_zero] at hp
  have HR := Lib.hid h
  have EX := Lib.hid ex
  obtain ⟨x0, x1, x2⟩ := x
  obtain ⟨p0, p1, p2⟩ := hp
  simp only at p0 p1 p2
  clear h ex hx
  by_cases hr : t[0]? = some (1, 0, false)
  · have e3 : x0 = 1 ∧ x1 = 0 ∧ x2 = false := by
      have := EX.out
      rw [hr] at this
      cases this
      exact ⟨rfl, rfl, rfl⟩
    obtain ⟨rfl, rfl, rfl⟩ := e3
    rw [checkQ_rest (by omega) (by omega) hr]
    obtain ⟨V, hV⟩ : ∃ V : Int, (if (List.range (t.length - 1)).all (fun i => hangsQ t ((i : Int) + 2)) = true then 0 else 2) = V := ⟨_, rfl⟩
    rw [hV]
    have HV := Lib.hid hV
    clear hV hr
    go_enter Try.func17, Try.ntmps17
    go_wp2
    go_loopw [3, 4, 5] (fun v3 v4 v5 wr => ∃ k : Nat, 1 ≤ k ∧ k ≤ t.length ∧ v3 = .int .i64 (k : Int) ∧ Hid ((List.range (k - 1)).all (fun i => hangsQ t ((i : Int) + 2)) = true) ∧ Hid (Chg [] w wr)) (fun v3 _ _ _ => t.length - (RowKit.intOf v3).toNat)
    case atStart => exact ⟨1, Nat.le_refl _, by omega, rfl, Lib.hid rfl, Lib.hid (Chg.refl _ _)⟩
    case round =>
      obtain ⟨k, hk1, hk, rfl, HC, HI⟩ := hrel
      have k1 : IntKind.i64.wrap ((k : Int) + 1) = (k : Int) + 1 := IntWalk.i64_in _ (by omega)
      have j0 : (0 : Int) ≤ (k : Int) := by omega
      by_cases hlt : k < t.length
      · have j1 : (k : Int) < (t.length : Int) := by omega
        have hth : thereT t ((k : Int) + 1) = true := there_iff.2 ⟨by omega, by omega⟩
        obtain ⟨e1, e2, e3, e4, e5⟩ := there_at hth
        have hk0 : ((k : Int) + 1 - 1).toNat = k := by omega
        rw [hk0] at e5
        obtain ⟨r0, r1, r2⟩ := memCells (HR.out.chg HI.out (by simp)) e5
        have HB := Lib.hid (show hangsQ t ((k : Int) + 1) = false → V = 2 from fun hf => by
          rw [← HV.out, all_range_no (k := k - 1) (by omega) (by rw [show ((k - 1 : Nat) : Int) + 2 = (k : Int) + 1 by omega]; exact hf)]
          rfl)
        have HG := Lib.hid (show hangsQ t ((k : Int) + 1) = true → (List.range (k + 1 - 1)).all (fun i => hangsQ t ((i : Int) + 2)) = true from fun hf => by
          rw [show k + 1 - 1 = (k - 1) + 1 by omega, List.range_succ, List.all_append, HC.out]
          simp only [List.all_cons, List.all_nil, Bool.and_true, Bool.true_and]
          rw [show ((k - 1 : Nat) : Int) + 2 = (k : Int) + 1 by omega]
          exact hf)
        unfold hangsQ at HB HG
        have UP := Lib.hid (fun w' (hc : Chg [] w w') => tqup_any w' (some ⟨g, o, none⟩) c t ((k : Int) + 1) (HR.out.chg hc (by simp)) hN)
        have UL := Lib.hid (chain_len t (t.length + 1) ((k : Int) + 1))
        have hne : chainT t (t.length + 1) ((k : Int) + 1) ≠ [] := by rw [chainT_succ, if_pos hth]; simp
        generalize hm : memT t ((k : Int) + 1) = m at *
        obtain ⟨m0, mu, md⟩ := m
        simp only at r0 r1 r2 HB HG
        obtain ⟨w1, hw1, C1, b1⟩ := news1 wr (.cells #[.int .i64 m0, .int .i64 mu, .bool md] 50)
        have HW := Lib.hid hw1
        have CW := Lib.hid (HI.out.trans C1)
        have d0 := cell_of b1 0
        have d1 := cell_of b1 1
        have d2 := cell_of b1 2
        simp only [List.getElem?_toArray, List.getElem?_cons_zero, List.getElem?_cons_succ] at d0 d1 d2
        have HNE := Lib.hid hne
        clear e1 e2 e3 e4 e5 hm hk0 C1 b1 hw1 hth hne
        have TH := Lib.hid (fun w => tqthere_any w (some ⟨g, o, none⟩) c t mu)
        by_cases hkind : m0 = 2 ∨ m0 = 3
        · have hok : (m0 == 2 || m0 == 3) = true := by rcases hkind with rfl | rfl <;> rfl
          rw [hok] at HB HG
          simp only [Bool.true_and] at HB HG
          clear hok
          cases hu : thereT t mu with
          | false =>
            rw [hu] at TH HB
            simp only [Bool.false_and] at HB
            have hv := HB.out trivial
            subst hv
            clear hu
            rcases hkind with rfl | rfl
            all_goals
              go_upto_region 7 with fail
              (try rw [← HW.out])
              go_wp2_with fail
              refine (TH.out _).mono ?_
              rintro e w2 ⟨rfl, rfl⟩
              go_wp2
              go_ret
              exact ⟨rfl, CW.out⟩
          | true =>
            rw [hu] at TH HB HG
            simp only [Bool.true_and] at HB HG
            obtain ⟨f1, f2, f3, f4, f5⟩ := there_at hu
            obtain ⟨s0, s1, s2⟩ := memCells (HR.out.chg CW.out (by simp)) f5
            obtain ⟨j, hj⟩ : ∃ j : Nat, mu = (j : Int) + 1 := ⟨(mu - 1).toNat, by omega⟩
            have hj0 : (mu - 1).toNat = j := by omega
            rw [hj0] at s0 s1 s2
            generalize memT t mu = m' at *
            obtain ⟨u0, uu, ud⟩ := m'
            simp only at s0 s1 s2 HB HG
            have t1 : IntKind.i64.wrap ((j : Int)) = (j : Int) := IntWalk.i64_in _ (by omega)
            have t2 : (0 : Int) ≤ (j : Int) := by omega
            have t3 : (j : Int) < (t.length : Int) := by omega
            clear f1 f2 f3 f4 f5 hj0 hu
            by_cases h3 : u0 = 3
            · subst h3
              have hv := HB.out rfl
              subst hv
              rcases hkind with rfl | rfl
              all_goals
                subst hj
                go_upto_region 7 with fail
                (try rw [← HW.out])
                go_wp2_with fail
                refine (TH.out _).mono ?_
                rintro e w2 ⟨rfl, rfl⟩
                go_wp2
                go_ret
                exact ⟨rfl, CW.out⟩
            · have h3b : (u0 == 3) = false := by simpa using h3
              rw [h3b] at HB HG
              simp only [Bool.not_false, Bool.true_and] at HB HG
              clear h3b
              have hl1 : 1 ≤ (chainT t (t.length + 1) ((k : Int) + 1)).length := List.length_pos_iff.2 HNE.out
              have hl2 := UL.out
              have hlast := List.getLast?_eq_getElem? (l := chainT t (t.length + 1) ((k : Int) + 1))
              rw [hlast] at HB HG
              obtain ⟨y, hy⟩ : ∃ y, (chainT t (t.length + 1) ((k : Int) + 1))[(chainT t (t.length + 1) ((k : Int) + 1)).length - 1]? = some y := ⟨_, List.getElem?_eq_getElem (by omega)⟩
              rw [hy] at HB HG
              generalize chainT t (t.length + 1) ((k : Int) + 1) = ch at *
              have HY := Lib.hid hy
              have l1 : IntKind.i64.wrap ((ch.length : Int) - 1) = ((ch.length - 1 : Nat) : Int) := by rw [IntWalk.i64_in _ (by omega)]; omega
              have l2 : ((ch.length - 1 : Nat) : Int) < (ch.length : Int) := by omega
              have l3 : (0 : Int) ≤ ((ch.length - 1 : Nat) : Int) := by omega
              clear hlast hy
              by_cases hy1 : y = 1
              · subst hy1
                have hg := HG.out rfl
                have HGG := Lib.hid hg
                clear hg
                rcases hkind with rfl | rfl
                all_goals
                  subst hj
                  go_upto_region 7 with fail
                  (try rw [← HW.out])
                  go_wp2_with fail
                  refine (TH.out _).mono ?_
                  rintro e w2 ⟨rfl, rfl⟩
                  go_wp2_with fail
                  refine (UP.out _ CW.out).mono ?_
                  rintro e w3 ⟨B, d, rfl, hO, hB, hc⟩
                  obtain ⟨g3, o3, eB, _⟩ := hO.reads.line (by omega)
                  subst eB
                  have z := intCells hO.reads HY.out
                  have K3 := Lib.hid (CW.out.trans hc)
                  clear hO hB hc
                  go_wp2
                  exact ⟨⟨k + 1, by omega, by omega, by simp, HGG, K3⟩, by simp [RowKit.intOf]; omega⟩
              · have hv := HB.out (by simpa using hy1)
                subst hv
                have hyb : (y == 1) = false := by simpa using hy1
                rcases hkind with rfl | rfl
                all_goals
                  subst hj
                  go_upto_region 7 with fail
                  (try rw [← HW.out])
                  go_wp2_with fail
                  refine (TH.out _).mono ?_
                  rintro e w2 ⟨rfl, rfl⟩
                  go_wp2_with fail
                  refine (UP.out _ CW.out).mono ?_
                  rintro e w3 ⟨B, d, rfl, hO, hB, hc⟩
                  obtain ⟨g3, o3, eB, _⟩ := hO.reads.line (by omega)
                  subst eB
                  have z := intCells hO.reads HY.out
                  have K3 := Lib.hid (CW.out.trans hc)
                  clear hO hB hc
                  go_wp2
                  go_ret
                  exact ⟨rfl, K3.out⟩
        · have n2 : ¬ m0 = 2 := fun e => hkind (.inl e)
          have n3 : ¬ m0 = 3 := fun e => hkind (.inr e)
          have n2b : (m0 == 2) = false := by simpa using n2
          have n3b : (m0 == 3) = false := by simpa using n3
          have hv := HB.out (by simp [n2b, n3b])
          subst hv
          clear hkind
          go_upto_region 7 with fail
          (try rw [← HW.out])
          go_wp2
          go_ret
          exact ⟨rfl, CW.out⟩
      · obtain rfl : k = t.length := by omega
        have hv : V = 0 := by rw [← HV.out, HC.out]; rfl
        subst hv
        go_wp2
        go_ret
        exact ⟨rfl, HI.out⟩
  · rw [check_root hr]
    have hd : ¬ (x0 = 1 ∧ x1 = 0 ∧ x2 = false) := fun e => hr (by rw [EX.out, e.1, e.2.1, e.2.2])
    clear hr HR
    by_cases d0 : x0 = 1
    · subst d0
      by_cases d1 : x1 = 0
      · subst d1
        have d2 : x2 = true := by cases x2 <;> simp_all
        subst d2
        clear hd
        go_enter Try.func17, Try.ntmps17
        go_wp2
        go_ret
        exact ⟨rfl, Chg.refl _ _⟩
      · clear hd
        go_enter Try.func17, Try.ntmps17
        go_wp2
        go_ret
        exact ⟨rfl, Chg.refl _ _⟩
    · clear hd
      go_enter Try.func17, Try.ntmps17
      go_wp2
      go_ret
      exact ⟨rfl, Chg.refl _ _⟩
end Go.Proofs.Ytleioiihoplmaaa
