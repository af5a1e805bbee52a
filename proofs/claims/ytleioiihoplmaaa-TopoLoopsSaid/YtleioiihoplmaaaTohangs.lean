/- Topologies: is a number among some; may a node hang where it does. -/
import Derived.Test.YtleioiihoplmaaaToway
namespace Go.Proofs.Ytleioiihoplmaaa
open Go.RowKit
set_option linter.unusedSimpArgs false
set_option linter.unusedVariables false
set_option maxHeartbeats 1000000 in
theorem indexint_any (w : World) (A : Option Addr) (c : Nat) (xs : List Int) (x : Int) (h : RdK intTy w A xs.length xs) (hn : xs.length ≤ 140737488351232) :
    Calls Try.prog 45 #[.slice A xs.length c, .int .i64 x] w fun e w' => (∃ k : Int, e = .returned (.int .i64 k) ∧ (0 ≤ k ↔ xs.contains x = true)) ∧ w' = w := by
  have HA := Lib.hid h
  clear h
  go_enter Try.func45, Try.ntmps45
  go_wp2
  go_loopw [8, 5] (fun v8 v5 wr => ∃ k : Nat, k ≤ xs.length ∧ v8 = .int .i64 (k : Int) ∧ Hid ((xs.take k).contains x = false) ∧ wr = w) (fun v8 _ _ => xs.length - (RowKit.intOf v8).toNat)
  case atStart => exact ⟨0, Nat.zero_le _, rfl, Lib.hid rfl, rfl⟩
  case round =>
    obtain ⟨k, hk, rfl, HC, rfl⟩ := hrel
    have k1 : IntKind.i64.wrap ((k : Int) + 1) = (k : Int) + 1 := IntWalk.i64_in _ (by omega)
    have i0 : (0 : Int) ≤ (k : Int) := by omega
    by_cases hlt : k < xs.length
    · have i1 : (k : Int) < (xs.length : Int) := by omega
      obtain ⟨g, o, eA, _⟩ := HA.out.line (by omega)
      subst eA
      have ex := List.getElem?_eq_getElem hlt
      have z := intCells HA.out ex
      have HT := Lib.hid (List.take_succ_eq_append_getElem hlt)
      have HM := Lib.hid (List.getElem_mem hlt)
      generalize xs[k] = y at *
      clear ex
      refine (Decidable.em (x = y)).elim (fun hxy => ?EQ) (fun hxy => ?NE)
      case EQ =>
        subst hxy
        have hq : (x == x) = true := by simp
        go_wp2
        go_ret
        exact ⟨⟨_, rfl, by simp [HM.out]⟩, rfl⟩
      case NE =>
        have hq : (x == y) = false := by simpa using hxy
        have HN := Lib.hid hxy
        go_wp2
        exact ⟨⟨k + 1, by omega, by simp, Lib.hid (by rw [HT.out]; have := HC.out; simp at this ⊢; exact ⟨this, fun e => HN.out e⟩), trivial⟩, by simp [RowKit.intOf]; omega⟩
    · obtain rfl : k = xs.length := by omega
      have HQ := Lib.hid (show xs.contains x = false by have := HC.out; rwa [List.take_length] at this)
      go_wp2
      go_ret
      exact ⟨⟨-1, rfl, by rw [HQ.out]; simp⟩, rfl⟩
theorem contains_any (w : World) (A : Option Addr) (c : Nat) (xs : List Int) (x : Int) (h : RdK intTy w A xs.length xs) (hn : xs.length ≤ 140737488351232) :
    Calls Try.prog 37 #[.slice A xs.length c, .int .i64 x] w fun e w' => e = .returned (.bool (xs.contains x)) ∧ w' = w := by
  have HI := Lib.hid (indexint_any w A c xs x h hn)
  clear h
  obtain ⟨R, hR⟩ : ∃ R, xs.contains x = R := ⟨_, rfl⟩
  rw [hR] at HI ⊢
  clear hR
  cases R with
  | true =>
    go_enter Try.func37, Try.ntmps37
    go_wp2_with fail
    refine HI.out.mono ?_
    rintro e w1 ⟨⟨k, rfl, hk⟩, rfl⟩
    have : (0 : Int) ≤ k := by simpa using hk
    clear hk
    go_wp2
    go_ret
    exact ⟨rfl, rfl⟩
  | false =>
    go_enter Try.func37, Try.ntmps37
    go_wp2_with fail
    refine HI.out.mono ?_
    rintro e w1 ⟨⟨k, rfl, hk⟩, rfl⟩
    have h7 : ¬ (0 : Int) ≤ k := by simpa using hk
    have h8 : decide ((0 : Int) ≤ k) = false := by simpa using h7
    clear hk
    go_wp2
    go_ret
    exact ⟨rfl, rfl⟩
/-- May a node that is not the root hang where it does? -/
def hangsT (t : List MemT) (n : Int) : Bool :=
  ((memT t n).1 == 2 || (memT t n).1 == 3) && thereT t (memT t n).2.1 && !((memT t (memT t n).2.1).1 == 3) && (wayT t t.length n).contains 1
set_option maxRecDepth 100000 in
set_option maxHeartbeats 2000000 in
theorem tohangs_any (w : World) (A : Option Addr) (c : Nat) (t : List MemT) (n : Int) (h : RdK memTy w A t.length t) (hA : ∀ a, A = some a → a.block < w.heap.size) (hN : t.length ≤ 100000000) (hth : thereT t n = true) :
    Calls Try.prog 40 #[.slice A t.length c, .int .i64 n] w fun e w' => e = .returned (.bool (hangsT t n)) ∧ Chg [] w w' := by
  obtain ⟨e1, e2, e3, e4, e5⟩ := there_at hth
  obtain ⟨g, o, eA, hgl⟩ := h.line (by omega)
  subst eA
  obtain ⟨p0, p1, p2⟩ := memCells h e5
  obtain ⟨k, hk⟩ : ∃ k : Nat, n = (k : Int) + 1 := ⟨(n - 1).toNat, by omega⟩
  have hk0 : (n - 1).toNat = k := by omega
  rw [hk0] at p0 p1 p2 e3
  have HR := Lib.hid h
  obtain ⟨R, hR⟩ : ∃ R, hangsT t n = R := ⟨_, rfl⟩
  rw [hR]
  unfold hangsT at hR
  generalize hm : memT t n = m at *
  obtain ⟨m0, mu, md⟩ := m
  simp only at p0 p1 p2 hR
  have WL := Lib.hid (fun w' (hc : Chg [] w w') => wayl_any w' (some ⟨g, o, none⟩) c t n (h.chg hc (by simp)) (fun a ha => by cases ha; exact Nat.lt_of_lt_of_le hgl hc.size) hN)
  have q1 : IntKind.i64.wrap ((k : Int)) = (k : Int) := IntWalk.i64_in _ (by omega)
  have q2 : (0 : Int) ≤ (k : Int) := by omega
  have q3 : (k : Int) < (t.length : Int) := by omega
  obtain ⟨w1, hw1, C1, b1⟩ := news1 w (.cells #[.int .i64 m0, .int .i64 mu, .bool md] 50)
  have HW := Lib.hid hw1
  have CW := Lib.hid C1
  have d0 := cell_of b1 0
  have d1 := cell_of b1 1
  have d2 := cell_of b1 2
  simp only [List.getElem?_toArray, List.getElem?_cons_zero, List.getElem?_cons_succ] at d0 d1 d2
  have WY := Lib.hid (chain_len t t.length n)
  have WZ := Lib.hid (show (wayT t t.length n).length ≤ t.length from by
    have : ∀ f n, (wayT t f n).length ≤ f := by
      intro f
      induction f with
      | zero => intro n; simp [wayT]
      | succ f ih => intro n; rw [wayT_succ]; split
                     · simp; split
                       · simp
                       · have := ih (memT t n).2.1; omega
                     · simp
    exact this _ _)
  have hrow := C1.cell (a := ⟨g, o + k * 3, none⟩) p0 (by simp)
  clear e1 e2 e4 e5 hm hk0 C1 b1 hw1 h hA hrow
  by_cases hkind : m0 = 2 ∨ m0 = 3
  · have hok : (m0 == 2 || m0 == 3) = true := by rcases hkind with rfl | rfl <;> rfl
    rw [hok, Bool.true_and] at hR
    clear hok
    have TH := Lib.hid (fun w => tohas_any w (some ⟨g, o, none⟩) c t mu)
    cases hu : thereT t mu with
    | false =>
      rw [hu] at hR TH
      simp only [Bool.false_and] at hR
      subst hR
      clear hu
      rcases hkind with rfl | rfl
      all_goals
        subst hk
        go_enter Try.func40, Try.ntmps40
        go_upto_region 2 with fail
        (try rw [← HW.out])
        go_wp2_with fail
        refine (TH.out _).mono ?_
        rintro e w2 ⟨rfl, rfl⟩
        go_wp2
        go_ret
        exact ⟨rfl, CW.out⟩
    | true =>
      rw [hu] at hR TH
      simp only [Bool.true_and] at hR
      obtain ⟨f1, f2, f3, f4, f5⟩ := there_at hu
      obtain ⟨r0, r1, r2⟩ := memCells (HR.out.chg CW.out (by simp)) f5
      obtain ⟨j, hj⟩ : ∃ j : Nat, mu = (j : Int) + 1 := ⟨(mu - 1).toNat, by omega⟩
      have hj0 : (mu - 1).toNat = j := by omega
      rw [hj0] at r0 r1 r2
      generalize memT t mu = m' at *
      obtain ⟨u0, uu, ud⟩ := m'
      simp only at r0 r1 r2 hR
      have s1 : IntKind.i64.wrap ((j : Int)) = (j : Int) := IntWalk.i64_in _ (by omega)
      have s2 : (0 : Int) ≤ (j : Int) := by omega
      have s3 : (j : Int) < (t.length : Int) := by omega
      clear f1 f2 f3 f4 f5 hj0 hu
      by_cases h3 : u0 = 3
      · subst h3
        have : R = false := by rw [← hR]; rfl
        subst this
        clear hR
        rcases hkind with rfl | rfl
        all_goals
          subst hk hj
          go_enter Try.func40, Try.ntmps40
          go_upto_region 2 with fail
          (try rw [← HW.out])
          go_wp2_with fail
          refine (TH.out _).mono ?_
          rintro e w2 ⟨rfl, rfl⟩
          go_wp2
          go_ret
          exact ⟨rfl, CW.out⟩
      · have h3b : (u0 == 3) = false := by simpa using h3
        rw [h3b] at hR
        simp only [Bool.not_false, Bool.true_and] at hR
        have HRR := Lib.hid hR
        clear hR h3b
        rcases hkind with rfl | rfl
        all_goals
          subst hk hj
          go_enter Try.func40, Try.ntmps40
          go_upto_region 2 with fail
          (try rw [← HW.out])
          go_wp2_with fail
          refine (TH.out _).mono ?_
          rintro e w2 ⟨rfl, rfl⟩
          go_wp2_with fail
          refine (WL.out _ CW.out).mono ?_
          rintro e w3 ⟨B, d, rfl, hO, hB, hc⟩
          have O3 := Lib.hid hO
          have K3 := Lib.hid (CW.out.trans hc)
          clear hO hB hc
          go_wp2_with fail
          refine (contains_any _ _ _ _ 1 O3.out.reads (by have := WZ.out; omega)).mono ?_
          rintro e w4 ⟨rfl, rfl⟩
          have HQ := HRR.out
          generalize (wayT t t.length ((k : Int) + 1)).contains 1 = bb at *
          subst HQ
          go_wp2
          go_ret
          exact ⟨rfl, K3.out⟩
  · have n2 : ¬ m0 = 2 := fun e => hkind (.inl e)
    have n3 : ¬ m0 = 3 := fun e => hkind (.inr e)
    have : R = false := by rw [← hR]; simp [n2, n3]
    subst this
    have n2b : (m0 == 2) = false := by simpa using n2
    have n3b : (m0 == 3) = false := by simpa using n3
    clear hR hkind
    subst hk
    go_enter Try.func40, Try.ntmps40
    go_upto_region 2 with fail
    (try rw [← HW.out])
    go_wp2
    go_ret
    exact ⟨rfl, CW.out⟩
end Go.Proofs.Ytleioiihoplmaaa
