/- Topologies: Move, the program's. -/
import Derived.Test.YtleioiihoplmaaaTochg0
import Derived.Deep.Cut
namespace Go.Proofs.Ytleioiihoplmaaa
open Go.RowKit
set_option linter.unusedSimpArgs false
set_option linter.unusedVariables false



set_option maxRecDepth 100000 in
set_option maxHeartbeats 4000000 in
theorem tomove_any (w : World) (A : Option Addr) (c : Nat) (t : List MemT) (n up : Int) (h : RdK memTy w A t.length t) (hA : ∀ a, A = some a → a.block < w.heap.size) (hN : t.length ≤ 100000000) :
    Calls Try.prog 13 #[.slice A t.length c, .int .i64 n, .int .i64 up] w fun e w' => ∃ B d, e = .returned (.tuple #[.slice B (moveR t n up).1.length d, .int .i64 (moveR t n up).2]) ∧ OwnK memTy w' B d (moveR t n up).1 ∧ (∀ a, B = some a → w.heap.size ≤ a.block) ∧ Chg [] w w' := by
  obtain ⟨R, hR⟩ : ∃ R, moveR t n up = R := ⟨_, rfl⟩
  rw [hR]
  unfold moveR at hR
  obtain ⟨w1, hw1, C1, b1⟩ := news1 w (.cells #[.int .i64 n, .int .i64 up] 3)
  have HW1 := Lib.hid hw1
  have CW := Lib.hid C1
  have R1 := show RdK intTy w1 (some ⟨w.heap.size, 0, none⟩) 2 [n, up] from (OwnK.of (R := intTy) (c := 2) (full := [n, up]) (xs := [n, up]) b1 (Nat.le_refl _) (by decide) rfl rfl).reads
  have hlb := lt_of_heap b1
  have NM := Lib.hid (tonames_any w1 A (some ⟨w.heap.size, 0, none⟩) c 2 t [n, up] (h.chg C1 (by simp)) (fun a ha => Nat.lt_of_lt_of_le (hA a ha) C1.size) R1 (fun a ha => by cases ha; exact hlb) hN (by simp))
  clear hw1 C1 b1 R1 hlb
  have hz := names_two t n up
  rw [hz] at NM
  have WL := Lib.hid (fun (w' : World) (hc : Chg [] w w') => wayl_any w' A c t up (h.chg hc (by simp)) (fun a ha => Nat.lt_of_lt_of_le (hA a ha) hc.size) hN)
  have LW := way_len' t t.length up
  generalize wayT t t.length up = wl at *
  have HR := Lib.hid h
  cases hb : (thereT t n && thereT t up && checkT t) with
  | false =>
    rw [hb] at NM
    have hr : R = ([], 2) := by rw [← hR]; simp [hb]
    subst hr
    clear hR
    go_enter Try.func13, Try.ntmps13
    go_wp2_with fail
    (try rw [← HW1.out])
    refine NM.out.mono ?_
    rintro e w2 ⟨rfl, h2⟩
    have K2 := Lib.hid (CW.out.trans h2)
    clear h2
    go_wp2
    go_ret2
    exact ⟨none, 0, rfl, OwnK.none_ _, by simp, K2.out⟩
  | true =>
    rw [hb] at NM hR
    have hb2 := hb
    simp only [Bool.and_eq_true] at hb2
    have htha := hb2.1.1
    have hthb := hb2.1.2
    simp only [Bool.not_true, Bool.false_eq_true, if_false] at hR
    by_cases h1 : n = 1
    · subst h1
      have h1b : ((1 : Int) == 1) = true := by decide
      have hr : R = ([], 2) := by rw [← hR]; simp []
      subst hr
      clear hR
      go_enter Try.func13, Try.ntmps13
      go_wp2_with fail
      (try rw [← HW1.out])
      refine NM.out.mono ?_
      rintro e w2 ⟨rfl, h2⟩
      have K2 := Lib.hid (CW.out.trans h2)
      clear h2
      go_wp2
      go_ret2
      exact ⟨none, 0, rfl, OwnK.none_ _, by simp, K2.out⟩
    have h1b : (n == 1) = false := by simpa using h1
    rw [h1b] at hR
    simp only [Bool.false_eq_true, if_false] at hR
    have hEa := there_at htha
    obtain ⟨g, o, eA, _⟩ := h.line (by omega)
    subst eA
    obtain ⟨ka, hka⟩ : ∃ k : Nat, n = (k : Int) + 1 := ⟨(n - 1).toNat, by omega⟩
    have hk0a : (n - 1).toNat = ka := by omega
    have PMa := Lib.hid (fun (w' : World) (hc : Chg [] w w') => memCells (h.chg hc (by simp)) hEa.2.2.2.2)
    have EXa := Lib.hid hEa.2.2.2.2
    rw [hk0a] at PMa EXa
    (try rw [hk0a] at hR)
    have KLa : ka < t.length := by omega
    generalize memT t n = ma at *
    obtain ⟨x0a, xua, xda⟩ := ma
    (try simp only at PMa hR)
    have qaa : IntKind.i64.wrap ((ka : Int)) = (ka : Int) := IntWalk.i64_in _ (by omega)
    have qba : (0 : Int) ≤ (ka : Int) := by omega
    have qca : (ka : Int) < (t.length : Int) := by omega
    clear hEa hk0a
    have hEb := there_at hthb
    skip
    skip
    obtain ⟨kb, hkb⟩ : ∃ k : Nat, up = (k : Int) + 1 := ⟨(up - 1).toNat, by omega⟩
    have hk0b : (up - 1).toNat = kb := by omega
    have PMb := Lib.hid (fun (w' : World) (hc : Chg [] w w') => memCells (h.chg hc (by simp)) hEb.2.2.2.2)
    have EXb := Lib.hid hEb.2.2.2.2
    rw [hk0b] at PMb EXb
    (try rw [hk0b] at hR)
    have KLb : kb < t.length := by omega
    generalize memT t up = mb at *
    obtain ⟨x0b, xub, xdb⟩ := mb
    (try simp only at PMb hR)
    have qab : IntKind.i64.wrap ((kb : Int)) = (kb : Int) := IntWalk.i64_in _ (by omega)
    have qbb : (0 : Int) ≤ (kb : Int) := by omega
    have qcb : (kb : Int) < (t.length : Int) := by omega
    clear hEb hk0b
    cases xda with
    | true =>
      have hr : R = ([], 14) := by rw [← hR]; simp []
      subst hr
      clear hR
      subst hka
      subst hkb
      go_enter Try.func13, Try.ntmps13
      go_wp2_with fail
      (try rw [← HW1.out])
      refine NM.out.mono ?_
      rintro e w2 ⟨rfl, h2⟩
      have K2 := Lib.hid (CW.out.trans h2)
      clear h2
      obtain ⟨p0a, p1a, p2a⟩ := PMa.out _ K2.out
      (try simp only at p0a p1a p2a)
      obtain ⟨p0b, p1b, p2b⟩ := PMb.out _ K2.out
      (try simp only at p0b p1b p2b)
      go_wp2
      go_ret2
      exact ⟨none, 0, rfl, OwnK.none_ _, by simp, K2.out⟩
    | false =>
      cases xdb with
      | true =>
        have hr : R = ([], 14) := by rw [← hR]; simp []
        subst hr
        clear hR
        subst hka
        subst hkb
        go_enter Try.func13, Try.ntmps13
        go_wp2_with fail
        (try rw [← HW1.out])
        refine NM.out.mono ?_
        rintro e w2 ⟨rfl, h2⟩
        have K2 := Lib.hid (CW.out.trans h2)
        clear h2
        obtain ⟨p0a, p1a, p2a⟩ := PMa.out _ K2.out
        (try simp only at p0a p1a p2a)
        obtain ⟨p0b, p1b, p2b⟩ := PMb.out _ K2.out
        (try simp only at p0b p1b p2b)
        go_wp2
        go_ret2
        exact ⟨none, 0, rfl, OwnK.none_ _, by simp, K2.out⟩
      | false =>
        simp only [Bool.or_false, Bool.false_eq_true, if_false] at hR
        by_cases h3 : x0b = 3
        · subst h3
          have hr : R = ([], 15) := by rw [← hR]; simp []
          subst hr
          clear hR
          subst hka
          subst hkb
          go_enter Try.func13, Try.ntmps13
          go_wp2_with fail
          (try rw [← HW1.out])
          refine NM.out.mono ?_
          rintro e w2 ⟨rfl, h2⟩
          have K2 := Lib.hid (CW.out.trans h2)
          clear h2
          obtain ⟨p0a, p1a, p2a⟩ := PMa.out _ K2.out
          (try simp only at p0a p1a p2a)
          obtain ⟨p0b, p1b, p2b⟩ := PMb.out _ K2.out
          (try simp only at p0b p1b p2b)
          go_wp2
          go_ret2
          exact ⟨none, 0, rfl, OwnK.none_ _, by simp, K2.out⟩
        have h3b : (x0b == 3) = false := by simpa using h3
        rw [h3b] at hR
        simp only [Bool.false_eq_true, if_false] at hR
        cases hct : wl.contains n with
        | true =>
          rw [hct] at hR
          have hr : R = ([], 13) := by rw [← hR]; simp []
          subst hr
          clear hR
          subst hka
          subst hkb
          go_enter Try.func13, Try.ntmps13
          go_wp2_with fail
          (try rw [← HW1.out])
          refine NM.out.mono ?_
          rintro e w2 ⟨rfl, h2⟩
          have K2 := Lib.hid (CW.out.trans h2)
          clear h2
          obtain ⟨p0a, p1a, p2a⟩ := PMa.out _ K2.out
          (try simp only at p0a p1a p2a)
          obtain ⟨p0b, p1b, p2b⟩ := PMb.out _ K2.out
          (try simp only at p0b p1b p2b)
          go_wp2_with fail
          refine (WL.out _ K2.out).mono ?_
          rintro e w3 ⟨B3, d3, rfl, o3, n3, h3⟩
          have K3 := Lib.hid (K2.out.trans h3)
          have R3 := Lib.hid o3.reads
          clear o3 n3 h3 p0a p1a p2a p0b p1b p2b
          go_wp2_with fail
          refine (contains_any _ _ _ _ _ R3.out (by omega)).mono ?_
          rw [hct]
          rintro e w4 ⟨rfl, rfl⟩
          clear R3
          go_wp2
          go_ret2
          exact ⟨none, 0, rfl, OwnK.none_ _, by simp, K3.out⟩
        | false =>
          rw [hct] at hR
          have hr : R = (t.set ka (x0a, up, false), 0) := by rw [← hR]; simp []
          subst hr
          clear hR
          subst hka
          subst hkb
          go_enter Try.func13, Try.ntmps13
          go_wp2_with fail
          (try rw [← HW1.out])
          refine NM.out.mono ?_
          rintro e w2 ⟨rfl, h2⟩
          have K2 := Lib.hid (CW.out.trans h2)
          clear h2
          obtain ⟨p0a, p1a, p2a⟩ := PMa.out _ K2.out
          (try simp only at p0a p1a p2a)
          obtain ⟨p0b, p1b, p2b⟩ := PMb.out _ K2.out
          (try simp only at p0b p1b p2b)
          go_wp2_with fail
          refine (WL.out _ K2.out).mono ?_
          rintro e w3 ⟨B3, d3, rfl, o3, n3, h3⟩
          have K3 := Lib.hid (K2.out.trans h3)
          have R3 := Lib.hid o3.reads
          clear o3 n3 h3 p0a p1a p2a p0b p1b p2b
          go_wp2_with fail
          refine (contains_any _ _ _ _ _ R3.out (by omega)).mono ?_
          rw [hct]
          rintro e w4 ⟨rfl, rfl⟩
          clear R3
          go_wp2_with fail
          refine (clonemem_any _ (some ⟨g, o, none⟩) t.length c t (HR.out.chg K3.out (by simp)) (by omega)).mono ?_
          rintro e w5 ⟨A5, c5, rfl, o5, n5, h5⟩
          have O5 := Lib.hid o5
          have F5 := Lib.hid (show ∀ a, A5 = some a → w.heap.size ≤ a.block from fun a ha => Nat.le_trans K3.out.size (n5 a ha))
          have K5 := Lib.hid (K3.out.trans h5)
          clear o5 n5 h5
          obtain ⟨g5, eg5⟩ : ∃ g5, A5 = some ⟨g5, 0, none⟩ := by
            rcases O5.out.shape with ⟨_, e, _⟩ | ⟨g5, e, _⟩
            · rw [e] at KLa; simp at KLa
            · exact ⟨g5, e⟩
          subst eg5
          have OP := Lib.hid (O5.out.put1 (i := 1) (v := .int .i64 ((kb : Int) + 1)) (y := (x0a, (kb : Int) + 1, false)) EXa.out (by decide) rfl)
          have z := (memCells O5.out.reads EXa.out).2.1
          (try simp only [Nat.zero_add] at z)
          have hfz : w5.frozen? ⟨g5, ka * 3 + 1, none⟩ = false := by rcases O5.out with ⟨h, _⟩ | ⟨g', full, h, hg, _⟩; cases h; cases h; exact free_of hg _
          have KS := Lib.hid (K5.out.setCell (p := ⟨g5, ka * 3 + 1, none⟩) (.inr (F5.out ⟨g5, 0, none⟩ rfl)) (.int .i64 ((kb : Int) + 1)))
          rw [show memTy.k = 3 from rfl] at OP
          go_wp2
          go_ret2
          exact ⟨some ⟨g5, 0, none⟩, c5, by simp, OP.out, F5.out, KS.out⟩
end Go.Proofs.Ytleioiihoplmaaa
