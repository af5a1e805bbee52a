/- x -/
import Derived.Test.YtleioiihoplmaaaTochg0
namespace Go.Proofs.Ytleioiihoplmaaa
open Go.RowKit
set_option linter.unusedSimpArgs false
set_option linter.unusedVariables false
set_option maxRecDepth 100000 in
set_option maxHeartbeats 4000000 in
theorem toenrol_any (w : World) (A : Option Addr) (c : Nat) (t : List MemT) (kind up : Int) (h : RdK memTy w A t.length t) (hA : ∀ a, A = some a → a.block < w.heap.size) (hN : t.length ≤ 100000000) :
    Calls Try.prog 9 #[.slice A t.length c, .int .i64 kind, .int .i64 up] w fun e w' => ∃ B d, e = .returned (.tuple #[.slice B (enrolR t kind up).1.length d, .int .i64 (enrolR t kind up).2.1, .int .i64 (enrolR t kind up).2.2]) ∧ OwnK memTy w' B d (enrolR t kind up).1 ∧ (∀ a, B = some a → w.heap.size ≤ a.block) ∧ Chg [] w w' := by
  obtain ⟨R, hR⟩ : ∃ R, enrolR t kind up = R := ⟨_, rfl⟩
  rw [hR]
  unfold enrolR at hR
  obtain ⟨w1, hw1, C1, b1⟩ := news1 w (.cells #[.int .i64 up] 3)
  have HW1 := Lib.hid hw1
  have CW := Lib.hid C1
  have R1 := show RdK intTy w1 (some ⟨w.heap.size, 0, none⟩) 1 [up] from (OwnK.of (R := intTy) (c := 1) (full := [up]) (xs := [up]) b1 (Nat.le_refl _) (by decide) rfl rfl).reads
  have hlb := lt_of_heap b1
  have NM := Lib.hid (tonames_any w1 A (some ⟨w.heap.size, 0, none⟩) c 1 t [up] (h.chg C1 (by simp)) (fun a ha => Nat.lt_of_lt_of_le (hA a ha) C1.size) R1 (fun a ha => by cases ha; exact hlb) hN (by simp))
  clear hw1 C1 b1 R1 hlb
  have hz := names_one t up
  rw [hz] at NM
  have HR := Lib.hid h
  cases hb : (thereT t up && checkT t) with
  | false =>
    rw [hb] at NM
    have hr : R = ([], 0, 2) := by rw [← hR]; simp [hb]
    subst hr
    clear hR
    go_enter Try.func9, Try.ntmps9
    go_wp2_with fail
    (try rw [← HW1.out])
    refine NM.out.mono ?_
    rintro e w2 ⟨rfl, h2⟩
    have K2 := Lib.hid (CW.out.trans h2)
    clear h2
    go_wp2
    go_ret3
    exact ⟨none, 0, rfl, OwnK.none_ _, by simp, K2.out⟩
  | true =>
    rw [hb] at NM hR
    have hb2 := hb
    rw [Bool.and_eq_true] at hb2
    have htha := hb2.1
    have hck := hb2.2
    have hlen := check_len hck
    simp only [Bool.not_true, Bool.false_eq_true, if_false] at hR
    by_cases hkd : kind = 2 ∨ kind = 3
    · skip
      have hkb : (kind == 2 || kind == 3) = true := by rcases hkd with rfl | rfl <;> rfl
      rw [hkb] at hR
      simp only [Bool.not_true, Bool.false_eq_true, if_false] at hR
      have hEa := there_at htha
      obtain ⟨g, o, eA, _⟩ := h.line (by omega)
      subst eA
      obtain ⟨ka, hka⟩ : ∃ k : Nat, up = (k : Int) + 1 := ⟨(up - 1).toNat, by omega⟩
      have hk0a : (up - 1).toNat = ka := by omega
      have PMa := Lib.hid (fun (w' : World) (hc : Chg [] w w') => memCells (h.chg hc (by simp)) hEa.2.2.2.2)
      have EXa := Lib.hid hEa.2.2.2.2
      rw [hk0a] at PMa EXa
      (try rw [hk0a] at hR)
      have KLa : ka < t.length := by omega
      generalize memT t up = ma at *
      obtain ⟨x0a, xua, xda⟩ := ma
      (try simp only at PMa hR)
      have qaa : IntKind.i64.wrap ((ka : Int)) = (ka : Int) := IntWalk.i64_in _ (by omega)
      have qba : (0 : Int) ≤ (ka : Int) := by omega
      have qca : (ka : Int) < (t.length : Int) := by omega
      clear hEa hk0a
      by_cases h3 : x0a = 3
      · subst h3
        have hr : R = ([], 0, 15) := by rw [← hR]; rfl
        subst hr
        clear hR
        subst hka
        rcases hkd with rfl | rfl
        · skip
          go_enter Try.func9, Try.ntmps9
          go_wp2_with fail
          (try rw [← HW1.out])
          refine NM.out.mono ?_
          rintro e w2 ⟨rfl, h2⟩
          have K2 := Lib.hid (CW.out.trans h2)
          clear h2
          obtain ⟨p0a, p1a, p2a⟩ := PMa.out _ K2.out
          (try simp only at p0a p1a p2a)
          go_wp2
          go_ret3
          exact ⟨none, 0, rfl, OwnK.none_ _, by simp, K2.out⟩
        · skip
          go_enter Try.func9, Try.ntmps9
          go_wp2_with fail
          (try rw [← HW1.out])
          refine NM.out.mono ?_
          rintro e w2 ⟨rfl, h2⟩
          have K2 := Lib.hid (CW.out.trans h2)
          clear h2
          obtain ⟨p0a, p1a, p2a⟩ := PMa.out _ K2.out
          (try simp only at p0a p1a p2a)
          go_wp2
          go_ret3
          exact ⟨none, 0, rfl, OwnK.none_ _, by simp, K2.out⟩
      have h3b : (x0a == 3) = false := by simpa using h3
      rw [h3b] at hR
      simp only [Bool.false_eq_true, if_false] at hR
      cases xda with
      | true =>
        have hr : R = ([], 0, 14) := by rw [← hR]; rfl
        subst hr
        clear hR
        subst hka
        rcases hkd with rfl | rfl
        · skip
          go_enter Try.func9, Try.ntmps9
          go_wp2_with fail
          (try rw [← HW1.out])
          refine NM.out.mono ?_
          rintro e w2 ⟨rfl, h2⟩
          have K2 := Lib.hid (CW.out.trans h2)
          clear h2
          obtain ⟨p0a, p1a, p2a⟩ := PMa.out _ K2.out
          (try simp only at p0a p1a p2a)
          go_wp2
          go_ret3
          exact ⟨none, 0, rfl, OwnK.none_ _, by simp, K2.out⟩
        · skip
          go_enter Try.func9, Try.ntmps9
          go_wp2_with fail
          (try rw [← HW1.out])
          refine NM.out.mono ?_
          rintro e w2 ⟨rfl, h2⟩
          have K2 := Lib.hid (CW.out.trans h2)
          clear h2
          obtain ⟨p0a, p1a, p2a⟩ := PMa.out _ K2.out
          (try simp only at p0a p1a p2a)
          go_wp2
          go_ret3
          exact ⟨none, 0, rfl, OwnK.none_ _, by simp, K2.out⟩
      | false =>
        simp only [Bool.false_eq_true, if_false] at hR
        by_cases h200 : t.length = 200
        · skip
          have l1 : ((t.length : Int) == 200) = true := by rw [beq_iff_eq]; omega
          have l3 : (200 : Int) ≤ (t.length : Int) := by omega
          have hr : R = ([], 0, 8) := by rw [← hR]; simp [h200]
          subst hr
          clear hR h200
          subst hka
          rcases hkd with rfl | rfl
          · skip
            go_enter Try.func9, Try.ntmps9
            go_wp2_with fail
            (try rw [← HW1.out])
            refine NM.out.mono ?_
            rintro e w2 ⟨rfl, h2⟩
            have K2 := Lib.hid (CW.out.trans h2)
            clear h2
            obtain ⟨p0a, p1a, p2a⟩ := PMa.out _ K2.out
            (try simp only at p0a p1a p2a)
            go_wp2
            go_ret3
            exact ⟨none, 0, rfl, OwnK.none_ _, by simp, K2.out⟩
          · skip
            go_enter Try.func9, Try.ntmps9
            go_wp2_with fail
            (try rw [← HW1.out])
            refine NM.out.mono ?_
            rintro e w2 ⟨rfl, h2⟩
            have K2 := Lib.hid (CW.out.trans h2)
            clear h2
            obtain ⟨p0a, p1a, p2a⟩ := PMa.out _ K2.out
            (try simp only at p0a p1a p2a)
            go_wp2
            go_ret3
            exact ⟨none, 0, rfl, OwnK.none_ _, by simp, K2.out⟩
        have l1 : ((t.length : Int) == 200) = false := by rw [beq_eq_false_iff_ne]; omega
        have l2 : ¬ (t.length : Int) = 200 := by omega
        have l3 : ¬ (200 : Int) ≤ (t.length : Int) := by omega
        have l4 : IntKind.i64.wrap ((t.length : Int) + 1) = (t.length : Int) + 1 := IntWalk.i64_in _ (by omega)
        have hr : R = (t ++ [(kind, up, false)], (t.length : Int) + 1, 0) := by rw [← hR]; simp [h200]
        subst hr
        clear hR h200
        subst hka
        rcases hkd with rfl | rfl
        · skip
          go_enter Try.func9, Try.ntmps9
          go_wp2_with fail
          (try rw [← HW1.out])
          refine NM.out.mono ?_
          rintro e w2 ⟨rfl, h2⟩
          have K2 := Lib.hid (CW.out.trans h2)
          clear h2
          obtain ⟨p0a, p1a, p2a⟩ := PMa.out _ K2.out
          (try simp only at p0a p1a p2a)
          go_wp2_with fail
          refine (clonemem_any _ (some ⟨g, o, none⟩) t.length c t (HR.out.chg K2.out (by simp)) (by omega)).mono ?_
          rintro e w5 ⟨A5, c5, rfl, o5, n5, h5⟩
          have O5 := Lib.hid o5
          have F5 := Lib.hid (show ∀ a, A5 = some a → w.heap.size ≤ a.block from fun a ha => Nat.le_trans K2.out.size (n5 a ha))
          have K5 := Lib.hid (K2.out.trans h5)
          clear o5 n5 h5
          obtain ⟨g5, eg5⟩ : ∃ g5, A5 = some ⟨g5, 0, none⟩ := by
            rcases O5.out.shape with ⟨_, e, _⟩ | ⟨g5, e, _⟩
            · rw [e] at KLa; simp at KLa
            · exact ⟨g5, e⟩
          subst eg5
          have KO := Lib.hid K5.out
          go_wp2_with (at_builtin; refine wpList_appK (R := memTy) rfl _ _ rfl rfl (O5.out.chg ((Chg.refl [] _).alloc _) (by simp)) rfl rfl (show RdK memTy _ (some ⟨w5.heap.size, 0, none⟩) 1 [(2, (ka : Int) + 1, false)] from (OwnK.of (R := memTy) (c := 1) (full := [(2, (ka : Int) + 1, false)]) (xs := [(2, (ka : Int) + 1, false)]) (heap_alloc_new _ _) (Nat.le_refl _) (by decide) rfl rfl).reads) (by omega) ?_; intro A6 c6 w6 o6 d6 e6; have O6 := Lib.hid o6; have K6 := Lib.hid ((K5.out.trans ((Chg.refl [] _).alloc _)).grown d6 (fun k hk => by simp at hk; subst hk; exact .inr (F5.out ⟨g5, 0, none⟩ rfl))); have F6 := Lib.hid (show ∀ a, A6 = some a → w.heap.size ≤ a.block by rintro a rfl; rcases e6 with e | e; cases e; exact F5.out _ rfl; cases e; simp; exact Nat.le_succ_of_le K5.out.size); clear o6 d6 e6)
          go_ret3
          exact ⟨A6, c6, by simp, O6.out, F6.out, K6.out⟩
        · skip
          go_enter Try.func9, Try.ntmps9
          go_wp2_with fail
          (try rw [← HW1.out])
          refine NM.out.mono ?_
          rintro e w2 ⟨rfl, h2⟩
          have K2 := Lib.hid (CW.out.trans h2)
          clear h2
          obtain ⟨p0a, p1a, p2a⟩ := PMa.out _ K2.out
          (try simp only at p0a p1a p2a)
          go_wp2_with fail
          refine (clonemem_any _ (some ⟨g, o, none⟩) t.length c t (HR.out.chg K2.out (by simp)) (by omega)).mono ?_
          rintro e w5 ⟨A5, c5, rfl, o5, n5, h5⟩
          have O5 := Lib.hid o5
          have F5 := Lib.hid (show ∀ a, A5 = some a → w.heap.size ≤ a.block from fun a ha => Nat.le_trans K2.out.size (n5 a ha))
          have K5 := Lib.hid (K2.out.trans h5)
          clear o5 n5 h5
          obtain ⟨g5, eg5⟩ : ∃ g5, A5 = some ⟨g5, 0, none⟩ := by
            rcases O5.out.shape with ⟨_, e, _⟩ | ⟨g5, e, _⟩
            · rw [e] at KLa; simp at KLa
            · exact ⟨g5, e⟩
          subst eg5
          have KO := Lib.hid K5.out
          go_wp2_with (at_builtin; refine wpList_appK (R := memTy) rfl _ _ rfl rfl (O5.out.chg ((Chg.refl [] _).alloc _) (by simp)) rfl rfl (show RdK memTy _ (some ⟨w5.heap.size, 0, none⟩) 1 [(3, (ka : Int) + 1, false)] from (OwnK.of (R := memTy) (c := 1) (full := [(3, (ka : Int) + 1, false)]) (xs := [(3, (ka : Int) + 1, false)]) (heap_alloc_new _ _) (Nat.le_refl _) (by decide) rfl rfl).reads) (by omega) ?_; intro A6 c6 w6 o6 d6 e6; have O6 := Lib.hid o6; have K6 := Lib.hid ((K5.out.trans ((Chg.refl [] _).alloc _)).grown d6 (fun k hk => by simp at hk; subst hk; exact .inr (F5.out ⟨g5, 0, none⟩ rfl))); have F6 := Lib.hid (show ∀ a, A6 = some a → w.heap.size ≤ a.block by rintro a rfl; rcases e6 with e | e; cases e; exact F5.out _ rfl; cases e; simp; exact Nat.le_succ_of_le K5.out.size); clear o6 d6 e6)
          go_ret3
          exact ⟨A6, c6, by simp, O6.out, F6.out, K6.out⟩
    · skip
      have n2 : ¬ kind = 2 := fun e => hkd (.inl e)
      have n3 : ¬ kind = 3 := fun e => hkd (.inr e)
      have n2b : (kind == 2) = false := by simpa using n2
      have n3b : (kind == 3) = false := by simpa using n3
      have m2b : (kind != 2) = true := by simp [n2]
      have m3b : (kind != 3) = true := by simp [n3]
      have hr : R = ([], 0, 2) := by rw [← hR]; simp [n2b, n3b]
      subst hr
      clear hR
      go_enter Try.func9, Try.ntmps9
      go_wp2_with fail
      (try rw [← HW1.out])
      refine NM.out.mono ?_
      rintro e w2 ⟨rfl, h2⟩
      have K2 := Lib.hid (CW.out.trans h2)
      clear h2
      go_wp2
      go_ret3
      exact ⟨none, 0, rfl, OwnK.none_ _, by simp, K2.out⟩

end Go.Proofs.Ytleioiihoplmaaa
