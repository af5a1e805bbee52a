/- x -/
import Derived.Test.YtleioiihoplmaaaTochg0
namespace Go.Proofs.Ytleioiihoplmaaa
open Go.RowKit
set_option linter.unusedSimpArgs false
set_option linter.unusedVariables false
set_option maxRecDepth 100000 in
set_option maxHeartbeats 4000000 in
theorem tqkill_any (w : World) (A : Option Addr) (c : Nat) (t : List MemT) (n : Int) (h : RdK memTy w A t.length t) (hN : t.length ≤ 100000000) :
    Calls Try.prog 12 #[.slice A t.length c, .int .i64 n] w fun e w' => ∃ B d, e = .returned (.tuple #[.slice B (killR t n).1.length d, .int .i64 (killR t n).2]) ∧ OwnK memTy w' B d (killR t n).1 ∧ (∀ a, B = some a → w.heap.size ≤ a.block) ∧ Chg [] w w' := by
  obtain ⟨R, hR⟩ : ∃ R, killR t n = R := ⟨_, rfl⟩
  rw [hR]
  unfold killR at hR
  have CK := Lib.hid (tqcheck_any w A c t h hN)
  have TH := Lib.hid (fun w => tqthere_any w A c t n)
  have HR := Lib.hid h
  cases hck : checkT t with
  | false =>
    rw [hck] at CK
    have hr : R = ([], 2) := by rw [← hR]; simp [hck]
    subst hr
    clear hR
    go_enter Try.func12, Try.ntmps12
    go_wp2_with fail
    refine CK.out.mono ?_
    rintro e w2 ⟨rfl, h2⟩
    have K2 := Lib.hid h2
    clear h2
    go_wp2
    go_ret2
    exact ⟨none, 0, rfl, OwnK.none_ _, by simp, K2.out⟩
  | true =>
    rw [hck] at CK
    cases htha : thereT t n with
    | false =>
      rw [htha] at TH
      have hr : R = ([], 2) := by rw [← hR]; simp [htha]
      subst hr
      clear hR
      go_enter Try.func12, Try.ntmps12
      go_wp2_with fail
      refine CK.out.mono ?_
      rintro e w2 ⟨rfl, h2⟩
      have K2 := Lib.hid h2
      clear h2
      go_wp2_with fail
      refine (TH.out _).mono ?_
      rintro e v2 ⟨rfl, hv⟩
      subst hv
      go_wp2
      go_ret2
      exact ⟨none, 0, rfl, OwnK.none_ _, by simp, K2.out⟩
    | true =>
      have hb : (thereT t n && checkT t) = true := by rw [htha, hck]; rfl
      rw [hb] at hR
      rw [htha] at TH
      simp only [Bool.not_true, Bool.false_eq_true, if_false] at hR
      by_cases h1 : n = 1
      · subst h1
        have h1b : ((1 : Int) == 1) = true := by decide
        have hr : R = ([], 2) := by rw [← hR]; simp []
        subst hr
        clear hR
        go_enter Try.func12, Try.ntmps12
        go_wp2_with fail
        refine CK.out.mono ?_
        rintro e w2 ⟨rfl, h2⟩
        have K2 := Lib.hid h2
        clear h2
        go_wp2_with fail
        refine (TH.out _).mono ?_
        rintro e v2 ⟨rfl, hv⟩
        subst hv
        go_wp2
        go_ret2
        exact ⟨none, 0, rfl, OwnK.none_ _, by simp, K2.out⟩
      have h1b : (n == 1) = false := by simpa using h1
      rw [h1b] at hR
      simp only [Bool.false_eq_true, if_false] at hR
      have hEa := there_at htha
      obtain ⟨g, o, eA, _⟩ := h.line (by omega)
      subst eA
      obtain ⟨ka, hka⟩ : ∃ k : Nat, n = (k : Int) + 1 := ⟨(n - 1).toNat, by omega⟩
      have hk0a : (n - 1).toNat = ka := by omega
      have PMa := Lib.hid (fun (w' : World) (hc : Chg [] w w') => memCells (h.chg hc (by simp)) hEa.2.2.2.2)
      have EXa := Lib.hid hEa.2.2.2.2
      rw [hk0a] at PMa EXa
      (try rw [hk0a] at hR)
      have KLa : ka < t.length := by omega
      generalize memT t n = ma at *
      obtain ⟨x0a, xua, xda⟩ := ma
      (try simp only at PMa hR)
      have qaa : IntKind.i64.wrap ((ka : Int)) = (ka : Int) := IntWalk.i64_in _ (by omega)
      have qba : (0 : Int) ≤ (ka : Int) := by omega
      have qca : (ka : Int) < (t.length : Int) := by omega
      clear hEa hk0a
      cases xda with
      | true =>
        have hr : R = ([], 14) := by rw [← hR]; simp []
        subst hr
        clear hR
        subst hka
        go_enter Try.func12, Try.ntmps12
        go_wp2_with fail
        refine CK.out.mono ?_
        rintro e w2 ⟨rfl, h2⟩
        have K2 := Lib.hid h2
        clear h2
        go_wp2_with fail
        refine (TH.out _).mono ?_
        rintro e v2 ⟨rfl, hv⟩
        subst hv
        obtain ⟨p0a, p1a, p2a⟩ := PMa.out _ K2.out
        (try simp only at p0a p1a p2a)
        go_wp2
        go_ret2
        exact ⟨none, 0, rfl, OwnK.none_ _, by simp, K2.out⟩
      | false =>
        have hr : R = (t.set ka (x0a, xua, true), 0) := by rw [← hR]; simp []
        subst hr
        clear hR
        subst hka
        go_enter Try.func12, Try.ntmps12
        go_wp2_with fail
        refine CK.out.mono ?_
        rintro e w2 ⟨rfl, h2⟩
        have K2 := Lib.hid h2
        clear h2
        go_wp2_with fail
        refine (TH.out _).mono ?_
        rintro e v2 ⟨rfl, hv⟩
        subst hv
        obtain ⟨p0a, p1a, p2a⟩ := PMa.out _ K2.out
        (try simp only at p0a p1a p2a)
        skip
        go_upto_region 6 with (at_builtin; refine wpList_appK (R := memTy) rfl _ _ rfl rfl (OwnK.of (R := memTy) (full := []) (xs := []) (heap_alloc_new _ _) (Nat.le_refl _) (by decide) rfl rfl) rfl rfl ((HR.out.chg K2.out (by simp)).chg ((Chg.refl [] _).alloc _) (by simp)) (by omega) ?_; rw [Nat.zero_add]; intro A5 c5 w5 o5 d5 e5; rw [List.nil_append] at o5; have O5 := Lib.hid o5; have K5 := Lib.hid ((K2.out.trans ((Chg.refl [] _).alloc _)).grown d5 (fun k hk => by simp at hk; subst hk; exact .inr K2.out.size)); have F5 := Lib.hid (show ∀ a, A5 = some a → w.heap.size ≤ a.block by rintro a rfl; rcases e5 with e | e; cases e; exact K2.out.size; cases e; simp; exact Nat.le_succ_of_le K2.out.size); clear o5 d5 e5)
        obtain ⟨g5, eg5⟩ : ∃ g5, A5 = some ⟨g5, 0, none⟩ := by
          rcases O5.out.shape with ⟨_, e, _⟩ | ⟨g5, e, _⟩
          · rw [e] at KLa; simp at KLa
          · exact ⟨g5, e⟩
        subst eg5
        clear p0a p1a p2a
        have OP := Lib.hid (O5.out.put1 (i := 2) (v := .bool true) (y := (x0a, xua, true)) EXa.out (by decide) rfl)
        have z := (memCells O5.out.reads EXa.out).2.2
        (try simp only [Nat.zero_add] at z)
        have hfz : w5.frozen? ⟨g5, ka * 3 + 2, none⟩ = false := by rcases O5.out with ⟨h, _⟩ | ⟨g', full, h, hg, _⟩; cases h; cases h; exact free_of hg _
        have KS := Lib.hid (K5.out.setCell (p := ⟨g5, ka * 3 + 2, none⟩) (.inr (F5.out ⟨g5, 0, none⟩ rfl)) (.bool true))
        rw [show memTy.k = 3 from rfl] at OP
        go_wp2
        go_ret2
        exact ⟨some ⟨g5, 0, none⟩, c5, by simp, OP.out, F5.out, KS.out⟩

end Go.Proofs.Ytleioiihoplmaaa
