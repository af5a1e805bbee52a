/- Topologies: the document's way up. -/
import Derived.Test.YtleioiihoplmaaaTohangs
namespace Go.Proofs.Ytleioiihoplmaaa
open Go.RowKit
set_option linter.unusedSimpArgs false
set_option linter.unusedVariables false
theorem chainT_succ (t : List MemT) (f : Nat) (n : Int) : chainT t (f + 1) n = if thereT t n then n :: chainT t f (memT t n).2.1 else [] := rfl
set_option maxRecDepth 100000 in
set_option maxHeartbeats 4000000 in
theorem tqup_any (w : World) (A : Option Addr) (c : Nat) (t : List MemT) (n : Int) (h : RdK memTy w A t.length t) (hN : t.length ≤ 100000000) :
    Calls Try.prog 39 #[.slice A t.length c, .int .i64 n] w fun e w' => ∃ B d, e = .returned (.slice B (chainT t (t.length + 1) n).length d) ∧ OwnK intTy w' B d (chainT t (t.length + 1) n) ∧ (∀ a, B = some a → w.heap.size ≤ a.block) ∧ Chg [] w w' := by
  obtain ⟨R, hR⟩ : ∃ R, chainT t (t.length + 1) n = R := ⟨_, rfl⟩
  rw [hR]
  have HR := Lib.hid h
  have H0 := Lib.hid hR
  clear h hR
  go_enter Try.func39, Try.ntmps39
  go_wp2
  go_loopw [1, 5, 6] (fun v1 v5 v6 wr => ∃ (pre : List Int) (x : Int) (B : Option Addr) (d : Nat), pre.length ≤ t.length + 1 ∧ v1 = .int .i64 x ∧ v5 = .slice B pre.length d ∧ v6 = .int .i64 (pre.length : Int) ∧
      Hid (pre ++ chainT t (t.length + 1 - pre.length) x = R) ∧ Hid (OwnK intTy wr B d pre) ∧ Hid (∀ a, B = some a → w.heap.size ≤ a.block) ∧ Hid (Chg [] w wr)) (fun _ _ v6 _ => t.length + 1 - (RowKit.intOf v6).toNat)
  case atStart => exact ⟨[], n, none, 0, by simp, rfl, rfl, rfl, H0, Lib.hid (OwnK.none_ _), Lib.hid (by simp), Lib.hid (Chg.refl _ _)⟩
  case round =>
    obtain ⟨pre, x, B, d, hp, rfl, rfl, rfl, HE, HO, HB, HC⟩ := hrel
    have k1 : IntKind.i64.wrap ((pre.length : Int) + 1) = (pre.length : Int) + 1 := IntWalk.i64_in _ (by omega)
    by_cases hi : pre.length ≤ t.length
    · have i1 : (pre.length : Int) ≤ (t.length : Int) := by omega
      have TH := Lib.hid (fun w => (tqthere_any w A c t x).mono (fun e w' ⟨a, b⟩ => (⟨a, b.symm⟩ : e = _ ∧ w = w')))
      cases hth : thereT t x with
      | false =>
        rw [hth] at TH
        have hr : R = pre := by rw [← HE.out, chain_none hth, List.append_nil]
        subst hr
        clear hth
        go_wp2_with fail
        refine (TH.out _).mono ?_
        rintro e w2 ⟨rfl, rfl⟩
        go_wp2
        go_ret
        exact ⟨B, d, rfl, HO.out, HB.out, HC.out⟩
      | true =>
        rw [hth] at TH
        obtain ⟨e1, e2, e3, e4, e5⟩ := there_at hth
        have hE2 : (pre ++ [x]) ++ chainT t (t.length + 1 - (pre.length + 1)) (memT t x).2.1 = R := by
          rw [← HE.out, show t.length + 1 - pre.length = (t.length + 1 - (pre.length + 1)) + 1 by omega, chainT_succ, if_pos hth]
          simp
        have HE2 := Lib.hid hE2
        obtain ⟨W1, hW1, CW1, bW1⟩ := news1 wr (.cells #[.int .i64 x] 3)
        have HW := Lib.hid hW1
        have R1 := Lib.hid (show RdK intTy W1 (some ⟨wr.heap.size, 0, none⟩) 1 [x] from (OwnK.of (R := intTy) (c := 1) (full := [x]) (xs := [x]) bW1 (Nat.le_refl _) (by decide) rfl rfl).reads)
        have O1 := Lib.hid (HO.out.chg CW1 (by simp))
        have CC := Lib.hid (HC.out.trans CW1)
        have N1 := Lib.hid (show (pre.length + 1) * 400 ≤ 140737488355327 by omega)
        obtain ⟨k, hk⟩ : ∃ k : Nat, x = (k : Int) + 1 := ⟨(x - 1).toNat, by omega⟩
        have hk0 : (x - 1).toNat = k := by omega
        obtain ⟨g, o, eA, _⟩ := HR.out.line (by omega)
        subst eA
        have PM := Lib.hid (fun (w' : World) (hc : Chg [] w w') => (memCells (HR.out.chg hc (by simp)) e5).2.1)
        rw [hk0] at PM
        generalize memT t x = m at *
        obtain ⟨m0, mu, md⟩ := m
        have q1 : IntKind.i64.wrap ((k : Int)) = (k : Int) := IntWalk.i64_in _ (by omega)
        have q2 : (0 : Int) ≤ (k : Int) := by omega
        have q3 : (k : Int) < (t.length : Int) := by omega
        clear hth e1 e2 e3 e4 e5 hE2 hW1 CW1 bW1 hk0
        subst hk
        go_wp2_with (first | (at_builtin; rw [← HW.out]; refine wpList_appK (R := intTy) rfl _ _ rfl rfl O1.out rfl rfl R1.out N1.out ?_; intro B2 d2 W2 o2 g2 e2; have O2 := Lib.hid o2; have E2 := Lib.hid e2; have C2 := Lib.hid (CC.out.grown g2 (fun kk hkk => .inr (by
            cases B with
            | none => cases hkk
            | some a => simp at hkk; have := HB.out a rfl; omega))); have pm : W2.cell? ⟨g, o + k * 3 + 1, none⟩ = some (.int .i64 mu) := PM.out _ C2.out; clear o2 e2 g2) | ((with_reducible refine (TH.out _).mono ?_); rintro e w2 ⟨rfl, rfl⟩))
        refine ⟨⟨pre ++ [(k : Int) + 1], mu, B2, d2, by simp; omega, rfl, by simp, by simp, Lib.hid (by have := HE2.out; rwa [List.length_append]), O2, Lib.hid ?_, C2⟩, by simp [RowKit.intOf]; omega⟩
        rintro a rfl
        rcases E2.out with e | e
        · exact HB.out a e.symm
        · cases e; exact CC.out.size
    · have i1 : ¬ (pre.length : Int) ≤ (t.length : Int) := by omega
      have hr : R = pre := by rw [← HE.out, show t.length + 1 - pre.length = 0 by omega]; simp [chainT]
      subst hr
      go_wp2_with (refine ⟨trivial, ?_⟩)
      go_ret
      exact ⟨B, d, rfl, HO.out, HB.out, HC.out⟩
end Go.Proofs.Ytleioiihoplmaaa
