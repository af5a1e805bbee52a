/- Topologies: who is right under a node; who is live. -/
import Derived.Test.YtleioiihoplmaaaTqcheck
import Derived.Deep.Cut
namespace Go.Proofs.Ytleioiihoplmaaa
open Go.RowKit
set_option linter.unusedSimpArgs false
set_option linter.unusedVariables false



/-- The numbers (from 1 on) of those that a test says yes to. -/
def accT (p : Nat → Bool) (k : Nat) : List Int := ((List.range k).filter p).map (fun i : Nat => (i : Int) + 1)
theorem accT_yes {p : Nat → Bool} {k : Nat} (h : p k = true) : accT p (k + 1) = accT p k ++ [(k : Int) + 1] := by
  unfold accT; rw [List.range_succ, List.filter_append, List.map_append]; simp [h]
theorem accT_no {p : Nat → Bool} {k : Nat} (h : p k = false) : accT p (k + 1) = accT p k := by
  unfold accT; rw [List.range_succ, List.filter_append, List.map_append]; simp [h]
theorem accT_len (p : Nat → Bool) (k : Nat) : (accT p k).length ≤ k := by
  unfold accT; rw [List.length_map]; have := List.length_filter_le p (List.range k); simpa using this
theorem accT_congr {p q : Nat → Bool} {k : Nat} (h : ∀ i, i < k → p i = q i) : accT p k = accT q k := by
  unfold accT
  congr 1
  exact List.filter_congr (fun i hi => h i (List.mem_range.1 hi))
theorem there_succ {t : List MemT} {k : Nat} (h : k < t.length) : thereT t ((k : Int) + 1) = true := there_iff.2 ⟨by omega, by omega⟩
theorem mem_succ {t : List MemT} {k : Nat} (h : k < t.length) : t[k]? = some (memT t ((k : Int) + 1)) := by
  have := (there_at (there_succ h)).2.2.2.2
  rwa [show ((k : Int) + 1 - 1).toNat = k by omega] at this
def underT (t : List MemT) (n : Int) : List Int := accT (fun i => (memT t ((i : Int) + 1)).2.1 == n) t.length
def deadT (t : List MemT) (n : Int) : Bool := (wayT t t.length n).any (fun x => (memT t x).2.2)
def liveT (t : List MemT) : List Int := if checkT t then accT (fun i => !deadT t ((i : Int) + 1)) t.length else []
theorem way_len' (t : List MemT) : ∀ f n, (wayT t f n).length ≤ f := by
  intro f
  induction f with
  | zero => intro n; simp [wayT]
  | succ f ih => intro n; rw [wayT_succ]; split
                 · simp; split
                   · simp
                   · have := ih (memT t n).2.1; omega
                 · simp
theorem way_there {t : List MemT} {x : Int} : ∀ {f n}, x ∈ wayT t f n → thereT t x = true
  | 0, n, h => by simp [wayT] at h
  | f + 1, n, h => by
    rw [wayT_succ] at h
    split at h
    · rename_i ht
      rcases List.mem_cons.1 h with rfl | h
      · exact ht
      · split at h
        · simp at h
        · exact way_there h
    · simp at h

set_option maxRecDepth 100000 in
set_option maxHeartbeats 4000000 in
theorem tounder_any (w : World) (A : Option Addr) (c : Nat) (t : List MemT) (n : Int) (h : RdK memTy w A t.length t) (hN : t.length ≤ 100000000) :
    Calls Try.prog 24 #[.slice A t.length c, .int .i64 n] w fun e w' => ∃ B d, e = .returned (.slice B (underT t n).length d) ∧ OwnK intTy w' B d (underT t n) ∧ (∀ a, B = some a → w.heap.size ≤ a.block) ∧ Chg [] w w' := by
  unfold underT
  obtain ⟨p, hp⟩ : ∃ p : Nat → Bool, (fun i : Nat => (memT t ((i : Int) + 1)).2.1 == n) = p := ⟨_, rfl⟩
  rw [hp]
  have HP := Lib.hid (fun i => (congrFun hp i).symm)
  have HR := Lib.hid h
  clear h hp
  go_enter Try.func24, Try.ntmps24
  go_wp2
  go_loopw [9, 5, 6] (fun v9 v5 v6 wr => ∃ (k : Nat) (B : Option Addr) (d : Nat), k ≤ t.length ∧ v9 = .int .i64 (k : Int) ∧ v5 = .slice B (accT p k).length d ∧ Hid (OwnK intTy wr B d (accT p k)) ∧ Hid (∀ a, B = some a → w.heap.size ≤ a.block) ∧ Hid (Chg [] w wr)) (fun v9 _ _ _ => t.length - (RowKit.intOf v9).toNat)
  case atStart => exact ⟨0, none, 0, Nat.zero_le _, rfl, rfl, Lib.hid (OwnK.none_ _), Lib.hid (by simp), Lib.hid (Chg.refl _ _)⟩
  case round =>
    obtain ⟨k, B, d, hk, rfl, rfl, HO, HB, HC⟩ := hrel
    have k1 : IntKind.i64.wrap ((k : Int) + 1) = (k : Int) + 1 := IntWalk.i64_in _ (by omega)
    have j0 : (0 : Int) ≤ (k : Int) := by omega
    by_cases hlt : k < t.length
    · have j1 : (k : Int) < (t.length : Int) := by omega
      obtain ⟨g, o, eA, _⟩ := HR.out.line (by omega)
      subst eA
      obtain ⟨_, r1, _⟩ := memCells (HR.out.chg HC.out (by simp)) (mem_succ hlt)
      have hpk := HP.out k
      generalize (memT t ((k : Int) + 1)).2.1 = mu at *
      by_cases hmu : mu = n
      · subst hmu
        have HEL := Lib.hid (accT_yes (p := p) (k := k) (by rw [hpk]; simp))
        have hq : (mu == mu) = true := by simp
        clear hpk
        obtain ⟨W1, hW1, CW1, bW1⟩ := news1 wr (.cells #[.int .i64 ((k : Int) + 1)] 3)
        have HW := Lib.hid hW1
        have R1 := Lib.hid (show RdK intTy W1 (some ⟨wr.heap.size, 0, none⟩) 1 [(k : Int) + 1] from (OwnK.of (R := intTy) (c := 1) (full := [(k : Int) + 1]) (xs := [(k : Int) + 1]) bW1 (Nat.le_refl _) (by decide) rfl rfl).reads)
        have O1 := Lib.hid (HO.out.chg CW1 (by simp))
        have CC := Lib.hid (HC.out.trans CW1)
        have N1 := Lib.hid (show ((accT p k).length + 1) * 400 ≤ 140737488355327 by have := accT_len p k; omega)
        clear hW1 CW1 bW1
        go_wp2_with (at_builtin; rw [← HW.out]; refine wpList_appK (R := intTy) rfl _ _ rfl rfl O1.out rfl rfl R1.out N1.out ?_; intro B2 d2 W2 o2 g2 e2; have O2 := Lib.hid o2; have C2 := Lib.hid (CC.out.grown g2 (fun kk hkk => .inr (by
                  cases B with
                  | none => cases hkk
                  | some a => simp at hkk; have := HB.out a rfl; omega))); have HB2 := Lib.hid (show ∀ a, B2 = some a → w.heap.size ≤ a.block by
                  rintro a rfl
                  rcases e2 with e | e
                  · exact HB.out a e.symm
                  · cases e; exact CC.out.size); clear o2 g2 e2)
        refine ⟨⟨k + 1, B2, d2, by omega, by simp, by rw [HEL.out, List.length_append]; rfl, Lib.hid (by rw [HEL.out]; exact O2.out), HB2, C2⟩, by simp [RowKit.intOf]; omega⟩
      · have hq : (mu == n) = false := by simpa using hmu
        have HEL := Lib.hid (accT_no (p := p) (k := k) (by rw [hpk]; exact hq))
        clear hpk
        go_wp2
        exact ⟨⟨k + 1, B, d, by omega, by simp, by rw [HEL.out], Lib.hid (by rw [HEL.out]; exact HO.out), HB, HC⟩, by simp [RowKit.intOf]; omega⟩
    · obtain rfl : k = t.length := by omega
      go_wp2
      go_ret
      exact ⟨B, d, rfl, HO.out, HB.out, HC.out⟩

set_option maxRecDepth 100000 in
set_option maxHeartbeats 4000000 in
theorem tqunder_any (w : World) (A : Option Addr) (c : Nat) (t : List MemT) (n : Int) (h : RdK memTy w A t.length t) (hN : t.length ≤ 100000000) :
    Calls Try.prog 25 #[.slice A t.length c, .int .i64 n] w fun e w' => ∃ B d, e = .returned (.slice B (underT t n).length d) ∧ OwnK intTy w' B d (underT t n) ∧ (∀ a, B = some a → w.heap.size ≤ a.block) ∧ Chg [] w w' := by
  unfold underT
  obtain ⟨p, hp⟩ : ∃ p : Nat → Bool, (fun i : Nat => (memT t ((i : Int) + 1)).2.1 == n) = p := ⟨_, rfl⟩
  rw [hp]
  have HP := Lib.hid (fun i => (congrFun hp i).symm)
  have HR := Lib.hid h
  clear h hp
  go_enter Try.func25, Try.ntmps25
  go_wp2
  go_loopw [6, 5] (fun v6 v5 wr => ∃ (k : Nat) (B : Option Addr) (d : Nat), k ≤ t.length ∧ v6 = .int .i64 (k : Int) ∧ v5 = .slice B (accT p k).length d ∧ Hid (OwnK intTy wr B d (accT p k)) ∧ Hid (∀ a, B = some a → w.heap.size ≤ a.block) ∧ Hid (Chg [] w wr)) (fun v6 _ _ => t.length - (RowKit.intOf v6).toNat)
  case atStart => exact ⟨0, none, 0, Nat.zero_le _, rfl, rfl, Lib.hid (OwnK.none_ _), Lib.hid (by simp), Lib.hid (Chg.refl _ _)⟩
  case round =>
    obtain ⟨k, B, d, hk, rfl, rfl, HO, HB, HC⟩ := hrel
    have k1 : IntKind.i64.wrap ((k : Int) + 1) = (k : Int) + 1 := IntWalk.i64_in _ (by omega)
    have j0 : (0 : Int) ≤ (k : Int) := by omega
    by_cases hlt : k < t.length
    · have j1 : (k : Int) < (t.length : Int) := by omega
      obtain ⟨g, o, eA, _⟩ := HR.out.line (by omega)
      subst eA
      obtain ⟨_, r1, _⟩ := memCells (HR.out.chg HC.out (by simp)) (mem_succ hlt)
      have hpk := HP.out k
      generalize (memT t ((k : Int) + 1)).2.1 = mu at *
      by_cases hmu : mu = n
      · subst hmu
        have HEL := Lib.hid (accT_yes (p := p) (k := k) (by rw [hpk]; simp))
        have hq : (mu == mu) = true := by simp
        clear hpk
        obtain ⟨W1, hW1, CW1, bW1⟩ := news1 wr (.cells #[.int .i64 ((k : Int) + 1)] 3)
        have HW := Lib.hid hW1
        have R1 := Lib.hid (show RdK intTy W1 (some ⟨wr.heap.size, 0, none⟩) 1 [(k : Int) + 1] from (OwnK.of (R := intTy) (c := 1) (full := [(k : Int) + 1]) (xs := [(k : Int) + 1]) bW1 (Nat.le_refl _) (by decide) rfl rfl).reads)
        have O1 := Lib.hid (HO.out.chg CW1 (by simp))
        have CC := Lib.hid (HC.out.trans CW1)
        have N1 := Lib.hid (show ((accT p k).length + 1) * 400 ≤ 140737488355327 by have := accT_len p k; omega)
        clear hW1 CW1 bW1
        go_wp2_with (at_builtin; rw [← HW.out]; refine wpList_appK (R := intTy) rfl _ _ rfl rfl O1.out rfl rfl R1.out N1.out ?_; intro B2 d2 W2 o2 g2 e2; have O2 := Lib.hid o2; have C2 := Lib.hid (CC.out.grown g2 (fun kk hkk => .inr (by
                  cases B with
                  | none => cases hkk
                  | some a => simp at hkk; have := HB.out a rfl; omega))); have HB2 := Lib.hid (show ∀ a, B2 = some a → w.heap.size ≤ a.block by
                  rintro a rfl
                  rcases e2 with e | e
                  · exact HB.out a e.symm
                  · cases e; exact CC.out.size); clear o2 g2 e2)
        refine ⟨⟨k + 1, B2, d2, by omega, by simp, by rw [HEL.out, List.length_append]; rfl, Lib.hid (by rw [HEL.out]; exact O2.out), HB2, C2⟩, by simp [RowKit.intOf]; omega⟩
      · have hq : (mu == n) = false := by simpa using hmu
        have HEL := Lib.hid (accT_no (p := p) (k := k) (by rw [hpk]; exact hq))
        clear hpk
        go_wp2
        exact ⟨⟨k + 1, B, d, by omega, by simp, by rw [HEL.out], Lib.hid (by rw [HEL.out]; exact HO.out), HB, HC⟩, by simp [RowKit.intOf]; omega⟩
    · obtain rfl : k = t.length := by omega
      go_wp2
      go_ret
      exact ⟨B, d, rfl, HO.out, HB.out, HC.out⟩

set_option maxRecDepth 100000 in
set_option maxHeartbeats 4000000 in
theorem tolive_any (w : World) (A : Option Addr) (c : Nat) (t : List MemT) (h : RdK memTy w A t.length t) (hA : ∀ a, A = some a → a.block < w.heap.size) (hN : t.length ≤ 100000000) :
    Calls Try.prog 26 #[.slice A t.length c] w fun e w' => ∃ B d, e = .returned (.slice B (liveT t).length d) ∧ OwnK intTy w' B d (liveT t) ∧ (∀ a, B = some a → w.heap.size ≤ a.block) ∧ Chg [] w w' := by
  obtain ⟨w1, hw1, C1, b1⟩ := news1 w (.cells #[.slice A t.length c] 22)
  have HW1 := Lib.hid hw1
  have c0 := cell_of b1 0
  simp only [List.getElem?_toArray, List.getElem?_cons_zero] at c0
  have HR := Lib.hid (h.chg C1 (by simp))
  have HA := Lib.hid (show ∀ a, A = some a → a.block < w1.heap.size from fun a ha => Nat.lt_of_lt_of_le (hA a ha) C1.size)
  have B1 := Lib.hid b1
  have CW := Lib.hid C1
  have hlb := lt_of_heap b1
  have LB1 := Lib.hid hlb
  have CK := Lib.hid (tocheck_any w1 A c t HR.out HA.out hN)
  clear hw1 C1 b1 h hA hlb
  unfold liveT
  cases hck : checkT t with
  | false =>
    rw [hck] at CK
    clear hck
    go_enter Try.func26, Try.ntmps26
    go_wp2_with fail
    (try rw [← HW1.out])
    refine CK.out.mono ?_
    rintro e w2 ⟨rfl, h2⟩
    have K2 := Lib.hid (CW.out.trans h2)
    clear h2
    go_wp2
    go_ret
    exact ⟨none, 0, rfl, OwnK.none_ _, by simp, K2.out⟩
  | true =>
    rw [hck] at CK
    obtain ⟨p, hp⟩ : ∃ p : Nat → Bool, (fun i : Nat => !deadT t ((i : Int) + 1)) = p := ⟨_, rfl⟩
    simp only [if_true]
    rw [hp]
    have HP := Lib.hid (fun i => (congrFun hp i).symm)
    clear hck hp
    go_enter Try.func26, Try.ntmps26
    go_wp2_with fail
    (try rw [← HW1.out])
    refine CK.out.mono ?_
    rintro e w2 ⟨rfl, h2⟩
    have K2 := Lib.hid h2
    have z := h2.cell c0 (by simp)
    clear h2
    go_wp2
    go_loopw [10, 3, 4] (fun v10 v3 v4 wr => ∃ (k : Nat) (B : Option Addr) (d : Nat), k ≤ t.length ∧ v10 = .int .i64 (k : Int) ∧ v3 = .slice B (accT p k).length d ∧ Hid (OwnK intTy wr B d (accT p k)) ∧ Hid (∀ a, B = some a → w1.heap.size ≤ a.block) ∧ Hid (Chg [] w1 wr)) (fun v10 _ _ _ => t.length - (RowKit.intOf v10).toNat)
    case atStart => exact ⟨0, none, 0, Nat.zero_le _, rfl, rfl, Lib.hid (OwnK.none_ _), Lib.hid (by simp), K2⟩
    case round =>
      clear z
      obtain ⟨k, B, d, hk, rfl, rfl, HO, HB, HC⟩ := hrel
      have k1 : IntKind.i64.wrap ((k : Int) + 1) = (k : Int) + 1 := IntWalk.i64_in _ (by omega)
      have j0 : (0 : Int) ≤ (k : Int) := by omega
      have z := HC.out.cell c0 (by simp)
      by_cases hlt : k < t.length
      · have j1 : (k : Int) < (t.length : Int) := by omega
        have hpk := HP.out k
        unfold deadT at hpk
        have WL := Lib.hid (wayl_any wr A c t ((k : Int) + 1) (HR.out.chg HC.out (by simp)) (fun a ha => Nat.lt_of_lt_of_le (HA.out a ha) HC.out.size) hN)
        have WZ := Lib.hid (way_len' t t.length ((k : Int) + 1))
        have WT := Lib.hid (fun x (hx : x ∈ wayT t t.length ((k : Int) + 1)) => way_there hx)
        generalize wayT t t.length ((k : Int) + 1) = ys at *
        obtain ⟨b, hb⟩ : ∃ b, ys.any (fun x => (memT t x).2.2) = b := ⟨_, rfl⟩
        rw [hb] at hpk
        have HBB := Lib.hid hb
        clear hb
        cases b with
        | true =>
          have HEL := Lib.hid (accT_no (p := p) (k := k) (by rw [hpk]; rfl))
          clear hpk
          go_wp2_with fail
          refine WL.out.mono ?_
          rintro e w3 ⟨B3, d3, rfl, hO3, hB3, hc3⟩
          have O3 := Lib.hid hO3
          have K3 := Lib.hid (HC.out.trans hc3)
          have z3 := hc3.cell z (by simp)
          have OO := Lib.hid (HO.out.chg hc3 (by simp))
          have CF := Lib.hid (containsfunc_live w3 B3 d3 w.heap.size ys (fun x => (memT t x).2.2) hO3.reads (by have := WZ.out; omega) (fun x hx => tolivea_any w3 A c w.heap.size t x z3 (HR.out.chg K3.out (by simp)) hN (WT.out x hx)))
          rw [HBB.out] at CF
          clear hO3 hB3 hc3
          go_wp2_with fail
          refine CF.out.mono ?_
          rintro e w4 ⟨rfl, rfl⟩
          go_wp2
          exact ⟨⟨k + 1, B, d, by omega, by simp, by rw [HEL.out], Lib.hid (by rw [HEL.out]; exact OO.out), HB, K3⟩, by simp [RowKit.intOf]; omega⟩
        | false =>
          have HEL := Lib.hid (accT_yes (p := p) (k := k) (by rw [hpk]; rfl))
          clear hpk
          go_wp2_with fail
          refine WL.out.mono ?_
          rintro e w3 ⟨B3, d3, rfl, hO3, hB3, hc3⟩
          have O3 := Lib.hid hO3
          have K3 := Lib.hid (HC.out.trans hc3)
          have z3 := hc3.cell z (by simp)
          have OO := Lib.hid (HO.out.chg hc3 (by simp))
          have CF := Lib.hid (containsfunc_live w3 B3 d3 w.heap.size ys (fun x => (memT t x).2.2) hO3.reads (by have := WZ.out; omega) (fun x hx => tolivea_any w3 A c w.heap.size t x z3 (HR.out.chg K3.out (by simp)) hN (WT.out x hx)))
          rw [HBB.out] at CF
          clear hO3 hB3 hc3
          obtain ⟨W1, hW1, CW1, bW1⟩ := news1 w3 (.cells #[.int .i64 ((k : Int) + 1)] 3)
          have HW := Lib.hid hW1
          have R1 := Lib.hid (show RdK intTy W1 (some ⟨w3.heap.size, 0, none⟩) 1 [(k : Int) + 1] from (OwnK.of (R := intTy) (c := 1) (full := [(k : Int) + 1]) (xs := [(k : Int) + 1]) bW1 (Nat.le_refl _) (by decide) rfl rfl).reads)
          have O1 := Lib.hid (OO.out.chg CW1 (by simp))
          have CC := Lib.hid (K3.out.trans CW1)
          have N1 := Lib.hid (show ((accT p k).length + 1) * 400 ≤ 140737488355327 by have := accT_len p k; omega)
          clear hW1 CW1 bW1
          go_wp2_with fail
          refine CF.out.mono ?_
          rintro e w4 ⟨rfl, rfl⟩
          go_wp2_with (at_builtin; rw [← HW.out]; refine wpList_appK (R := intTy) rfl _ _ rfl rfl O1.out rfl rfl R1.out N1.out ?_; intro B2 d2 W2 o2 g2 e2; have O2 := Lib.hid o2; have C2 := Lib.hid (CC.out.grown g2 (fun kk hkk => .inr (by
                      cases B with
                      | none => cases hkk
                      | some a => simp at hkk; have := HB.out a rfl; omega))); have HB2 := Lib.hid (show ∀ a, B2 = some a → w1.heap.size ≤ a.block by
                      rintro a rfl
                      rcases e2 with e | e
                      · exact HB.out a e.symm
                      · cases e; exact CC.out.size); clear o2 g2 e2)
          refine ⟨⟨k + 1, B2, d2, by omega, by simp, by rw [HEL.out, List.length_append]; rfl, Lib.hid (by rw [HEL.out]; exact O2.out), HB2, C2⟩, by simp [RowKit.intOf]; omega⟩
      · obtain rfl : k = t.length := by omega
        go_wp2
        go_ret
        exact ⟨B, d, rfl, HO.out, fun a ha => Nat.le_trans CW.out.size (HB.out a ha), CW.out.trans HC.out⟩
end Go.Proofs.Ytleioiihoplmaaa
