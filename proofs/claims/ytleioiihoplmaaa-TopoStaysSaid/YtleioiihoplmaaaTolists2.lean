/- Topologies: the document's Live; Height; Way. -/
import Derived.Test.YtleioiihoplmaaaTolists
import Derived.Deep.Cut
namespace Go.Proofs.Ytleioiihoplmaaa
open Go.RowKit
set_option linter.unusedSimpArgs false
set_option linter.unusedVariables false



set_option maxRecDepth 100000 in
set_option maxHeartbeats 4000000 in
theorem tqlive_any (w : World) (A : Option Addr) (c : Nat) (t : List MemT) (h : RdK memTy w A t.length t) (hN : t.length ≤ 100000000) :
    Calls Try.prog 27 #[.slice A t.length c] w fun e w' => ∃ B d, e = .returned (.slice B (liveT t).length d) ∧ OwnK intTy w' B d (liveT t) ∧ (∀ a, B = some a → w.heap.size ≤ a.block) ∧ Chg [] w w' := by
  have HR := Lib.hid h
  have CK := Lib.hid (tqcheck_any w A c t h hN)
  clear h
  unfold liveT
  cases hck : checkT t with
  | false =>
    rw [hck] at CK
    clear hck
    go_enter Try.func27, Try.ntmps27
    go_wp2_with fail
    refine CK.out.mono ?_
    rintro e w2 ⟨rfl, h2⟩
    have K2 := Lib.hid h2
    clear h2
    go_wp2
    go_ret
    exact ⟨none, 0, rfl, OwnK.none_ _, by simp, K2.out⟩
  | true =>
    rw [hck] at CK
    have HCK := Lib.hid hck
    obtain ⟨p, hp⟩ : ∃ p : Nat → Bool, (fun i : Nat => !deadT t ((i : Int) + 1)) = p := ⟨_, rfl⟩
    simp only [if_true]
    rw [hp]
    have HP := Lib.hid (fun i => (congrFun hp i).symm)
    clear hck hp
    go_enter Try.func27, Try.ntmps27
    go_wp2_with fail
    refine CK.out.mono ?_
    rintro e w2 ⟨rfl, h2⟩
    have K2 := Lib.hid h2
    clear h2
    go_wp2
    go_loopw [3, 4, 5, 6, 7] (fun v3 v4 v5 v6 v7 wr => ∃ (k : Nat) (B : Option Addr) (d : Nat), k ≤ t.length ∧ v4 = .int .i64 ((k : Int) + 1) ∧ v3 = .slice B (accT p k).length d ∧ Hid (OwnK intTy wr B d (accT p k)) ∧ Hid (∀ a, B = some a → w.heap.size ≤ a.block) ∧ Hid (Chg [] w wr)) (fun _ v4 _ _ _ _ => t.length + 1 - (RowKit.intOf v4).toNat)
    case atStart => exact ⟨0, none, 0, Nat.zero_le _, rfl, rfl, Lib.hid (OwnK.none_ _), Lib.hid (by simp), K2⟩
    case round =>
      obtain ⟨k, B, d, hk, rfl, rfl, HO, HB, HC⟩ := hrel
      generalize wr = w1 at *
      clear wr
      have k1 : IntKind.i64.wrap ((k : Int) + 1) = (k : Int) + 1 := IntWalk.i64_in _ (by omega)
      have k2 : IntKind.i64.wrap ((k : Int) + 1 + 1) = (k : Int) + 1 + 1 := IntWalk.i64_in _ (by omega)
      by_cases hlt : k < t.length
      · have j1 : (k : Int) + 1 ≤ (t.length : Int) := by omega
        have hpk := HP.out k
        unfold deadT at hpk
        rw [(check_way HCK.out (there_succ hlt)).2.1] at hpk
        have UP := Lib.hid (tqup_any w1 A c t ((k : Int) + 1) (HR.out.chg HC.out (by simp)) hN)
        have WZ := Lib.hid (chain_len t (t.length + 1) ((k : Int) + 1))
        have WT := Lib.hid (fun x (hx : x ∈ chainT t (t.length + 1) ((k : Int) + 1)) => chain_there hx)
        generalize chainT t (t.length + 1) ((k : Int) + 1) = ys at *
        have HPK := Lib.hid hpk
        clear hpk
        go_wp2_with fail
        refine UP.out.mono ?_
        rintro e w3 ⟨B3, d3, rfl, hO3, hB3, hc3⟩
        have O3 := Lib.hid hO3.reads
        have K3 := Lib.hid (HC.out.trans hc3)
        have OO := Lib.hid (HO.out.chg hc3 (by simp))
        have R3 := Lib.hid (HR.out.chg K3.out (by simp))
        clear hO3 hB3 hc3
        have wz := WZ.out
        go_wp2
        go_loopw [6, 7] (fun v6 v7 wr => ∃ j : Nat, j ≤ ys.length ∧ v7 = .int .i64 (j : Int) ∧ v6 = .bool ((ys.take j).any (fun x => (memT t x).2.2)) ∧ wr = w3) (fun _ v7 _ => ys.length - (RowKit.intOf v7).toNat)
        case atStart => exact ⟨0, Nat.zero_le _, rfl, rfl, rfl⟩
        case round =>
          obtain ⟨j, hj, rfl, rfl, rfl⟩ := hrel
          have l1 : IntKind.i64.wrap ((j : Int) + 1) = (j : Int) + 1 := IntWalk.i64_in _ (by omega)
          have l0 : (0 : Int) ≤ (j : Int) := by omega
          by_cases hjl : j < ys.length
          · have l2 : (j : Int) < (ys.length : Int) := by omega
            have HT := Lib.hid (List.take_succ_eq_append_getElem hjl)
            have hx := WT.out ys[j] (List.getElem_mem hjl)
            have ey := List.getElem?_eq_getElem hjl
            generalize ys[j] = x at *
            obtain ⟨g3, o3, eB, _⟩ := O3.out.line (by omega)
            subst eB
            have z := intCells O3.out ey
            obtain ⟨e1, e2, e3, e4, e5⟩ := there_at hx
            obtain ⟨g, o, eA, _⟩ := R3.out.line (by omega)
            subst eA
            obtain ⟨_, _, p2⟩ := memCells R3.out e5
            obtain ⟨m, hm⟩ : ∃ m : Nat, x = (m : Int) + 1 := ⟨(x - 1).toNat, by omega⟩
            have hm0 : (x - 1).toNat = m := by omega
            rw [hm0] at p2
            have q1 : IntKind.i64.wrap ((m : Int)) = (m : Int) := IntWalk.i64_in _ (by omega)
            have q2 : (0 : Int) ≤ (m : Int) := by omega
            have q3 : (m : Int) < (t.length : Int) := by omega
            have hstep : (ys.take (j + 1)).any (fun x => (memT t x).2.2) = ((ys.take j).any (fun x => (memT t x).2.2) || (memT t x).2.2) := by rw [HT.out, List.any_append]; simp
            have HS := Lib.hid hstep
            clear hstep
            generalize (memT t x).2.2 = f at *
            obtain ⟨b1, hb1⟩ : ∃ b1, (ys.take j).any (fun x => (memT t x).2.2) = b1 := ⟨_, rfl⟩
            skip
            generalize hb1 : (ys.take j).any (fun x => (memT t x).2.2) = b1 at *
            clear hb1 e1 e2 e3 e4 e5 hm0 ey hx
            subst hm
            cases b1 <;>
            · go_wp2
              exact ⟨⟨j + 1, by omega, by simp, by rw [HS.out]; rfl, trivial⟩, by simp [RowKit.intOf]; omega⟩
          · obtain rfl : j = ys.length := by omega
            rw [List.take_length]
            skip
            have hpk := HPK.out
            generalize ys.any (fun x => (memT t x).2.2) = b at *
            cases b with
            | true =>
              have HEL := Lib.hid (accT_no (p := p) (k := k) (by rw [hpk]; rfl))
              clear hpk
              go_wp2
              exact ⟨⟨k + 1, B, d, by omega, congrArg (Value.int .i64) (by omega), by rw [HEL.out], Lib.hid (by rw [HEL.out]; exact OO.out), HB, K3⟩, by simp [RowKit.intOf]; omega⟩
            | false =>
              have HEL := Lib.hid (accT_yes (p := p) (k := k) (by rw [hpk]; rfl))
              clear hpk
              obtain ⟨W1, hW1, CW1, bW1⟩ := news1 wr (.cells #[.int .i64 ((k : Int) + 1)] 3)
              have HW := Lib.hid hW1
              have R1 := Lib.hid (show RdK intTy W1 (some ⟨wr.heap.size, 0, none⟩) 1 [(k : Int) + 1] from (OwnK.of (R := intTy) (c := 1) (full := [(k : Int) + 1]) (xs := [(k : Int) + 1]) bW1 (Nat.le_refl _) (by decide) rfl rfl).reads)
              have O1 := Lib.hid (OO.out.chg CW1 (by simp))
              have CC := Lib.hid (K3.out.trans CW1)
              have N1 := Lib.hid (show ((accT p k).length + 1) * 400 ≤ 140737488355327 by have := accT_len p k; omega)
              clear hW1 CW1 bW1
              go_wp2_with (at_builtin; rw [← HW.out]; refine wpList_appK (R := intTy) rfl _ _ rfl rfl O1.out rfl rfl R1.out N1.out ?_; intro B2 d2 W2 o2 g2 e2; have O2 := Lib.hid o2; have C2 := Lib.hid (CC.out.grown g2 (fun kk hkk => .inr (by
                              cases B with
                              | none => cases hkk
                              | some a => simp at hkk; have := HB.out a rfl; omega))); have HB2 := Lib.hid (show ∀ a, B2 = some a → w.heap.size ≤ a.block by
                              rintro a rfl
                              rcases e2 with e | e
                              · exact HB.out a e.symm
                              · cases e; exact CC.out.size); clear o2 g2 e2)
              refine ⟨⟨k + 1, B2, d2, by omega, congrArg (Value.int .i64) (by omega), by rw [HEL.out, List.length_append]; rfl, Lib.hid (by rw [HEL.out]; exact O2.out), HB2, C2⟩, by simp [RowKit.intOf]; omega⟩
      · obtain rfl : k = t.length := by omega
        have j1 : ¬ (t.length : Int) + 1 ≤ (t.length : Int) := by omega
        go_wp2
        go_ret
        exact ⟨B, d, rfl, HO.out, HB.out, HC.out⟩

def hgtT (t : List MemT) (l : List Int) : Int := l.foldl (fun m n => max m (((wayT t t.length n).length : Int) - 1)) 0
def heightT (t : List MemT) : Int := hgtT t (liveT t)
theorem hgt_snoc (t : List MemT) (l : List Int) (n : Int) : hgtT t (l ++ [n]) = max (hgtT t l) (((wayT t t.length n).length : Int) - 1) := by simp [hgtT]
theorem live_there {t : List MemT} {x : Int} (h : x ∈ liveT t) : checkT t = true ∧ thereT t x = true := by
  unfold liveT at h
  split at h
  · rename_i hc
    refine ⟨hc, ?_⟩
    unfold accT at h
    rw [List.mem_map] at h
    obtain ⟨i, hi, rfl⟩ := h
    rw [List.mem_filter, List.mem_range] at hi
    exact there_succ hi.1
  · simp at h
theorem live_len (t : List MemT) : (liveT t).length ≤ t.length := by
  unfold liveT
  split
  · exact accT_len _ _
  · simp

set_option maxRecDepth 100000 in
set_option maxHeartbeats 4000000 in
theorem toheight_any (w : World) (A : Option Addr) (c : Nat) (t : List MemT) (h : RdK memTy w A t.length t) (hA : ∀ a, A = some a → a.block < w.heap.size) (hN : t.length ≤ 100000000) :
    Calls Try.prog 28 #[.slice A t.length c] w fun e w' => e = .returned (.int .i64 (heightT t)) ∧ Chg [] w w' := by
  have HR := Lib.hid h
  have HA := Lib.hid hA
  have LV := Lib.hid (tolive_any w A c t h hA hN)
  have LL := Lib.hid (live_len t)
  have LT := Lib.hid (fun x (hx : x ∈ liveT t) => live_there hx)
  unfold heightT
  generalize liveT t = L at *
  clear h hA
  obtain ⟨V, hV⟩ : ∃ V, hgtT t L = V := ⟨_, rfl⟩
  rw [hV]
  have HV := Lib.hid hV
  clear hV
  go_enter Try.func28, Try.ntmps28
  go_wp2_with fail
  refine LV.out.mono ?_
  rintro e w2 ⟨B, d, rfl, hO, hB, hc⟩
  have O2 := Lib.hid hO.reads
  have K2 := Lib.hid hc
  clear hO hB hc
  have ll := LL.out
  go_wp2
  go_loopw [9, 3, 5] (fun v9 v3 v5 wr => ∃ k : Nat, k ≤ L.length ∧ v9 = .int .i64 (k : Int) ∧ v3 = .int .i64 (hgtT t (L.take k)) ∧ Hid (Chg [] w2 wr)) (fun v9 _ _ _ => L.length - (RowKit.intOf v9).toNat)
  case atStart => exact ⟨0, Nat.zero_le _, rfl, rfl, Lib.hid (Chg.refl _ _)⟩
  case round =>
    obtain ⟨k, hk, rfl, rfl, HC⟩ := hrel
    have k1 : IntKind.i64.wrap ((k : Int) + 1) = (k : Int) + 1 := IntWalk.i64_in _ (by omega)
    have j0 : (0 : Int) ≤ (k : Int) := by omega
    by_cases hlt : k < L.length
    · have j1 : (k : Int) < (L.length : Int) := by omega
      have HT := Lib.hid (List.take_succ_eq_append_getElem hlt)
      have hx := LT.out L[k] (List.getElem_mem hlt)
      have ey := List.getElem?_eq_getElem hlt
      generalize L[k] = x at *
      obtain ⟨g3, o3, eB, _⟩ := O2.out.line (by omega)
      subst eB
      have z := intCells (O2.out.chg HC.out (by simp)) ey
      have CW := Lib.hid (K2.out.trans HC.out)
      have WL := Lib.hid (wayl_any wr A c t x (HR.out.chg CW.out (by simp)) (fun a ha => Nat.lt_of_lt_of_le (HA.out a ha) CW.out.size) hN)
      have WZ := Lib.hid (way_len' t t.length x)
      have HS := Lib.hid ((congrArg (hgtT t) HT.out).trans (hgt_snoc t (L.take k) x))
      generalize wayT t t.length x = ys at *
      generalize hgtT t (L.take k) = mo at *
      have wz := WZ.out
      have q1 : IntKind.i64.wrap ((ys.length : Int) - 1) = (ys.length : Int) - 1 := IntWalk.i64_in _ (by omega)
      clear ey hx
      go_wp2_with fail
      refine WL.out.mono ?_
      rintro e w3 ⟨B3, d3, rfl, hO3, hB3, hc3⟩
      have K3 := Lib.hid (HC.out.trans hc3)
      clear hO3 hB3 hc3 z
      go_wp2
      refine ⟨⟨k + 1, by omega, by simp, ?_, K3⟩, by simp [RowKit.intOf]; omega⟩
      rw [HS.out]
      refine congrArg (Value.int .i64) ?_
      split <;> omega
    · obtain rfl : k = L.length := by omega
      rw [List.take_length]
      have hv := HV.out
      generalize hgtT t L = hh at *
      subst hv
      have CW := Lib.hid (K2.out.trans HC.out)
      go_wp2
      go_ret
      exact ⟨rfl, CW.out⟩

set_option maxRecDepth 100000 in
set_option maxHeartbeats 4000000 in
theorem tqheight_any (w : World) (A : Option Addr) (c : Nat) (t : List MemT) (h : RdK memTy w A t.length t) (hN : t.length ≤ 100000000) :
    Calls Try.prog 29 #[.slice A t.length c] w fun e w' => e = .returned (.int .i64 (heightT t)) ∧ Chg [] w w' := by
  have HR := Lib.hid h
  have LV := Lib.hid (tqlive_any w A c t h hN)
  have LL := Lib.hid (live_len t)
  have LT := Lib.hid (fun x (hx : x ∈ liveT t) => live_there hx)
  unfold heightT
  generalize liveT t = L at *
  clear h
  obtain ⟨V, hV⟩ : ∃ V, hgtT t L = V := ⟨_, rfl⟩
  rw [hV]
  have HV := Lib.hid hV
  clear hV
  go_enter Try.func29, Try.ntmps29
  go_wp2_with fail
  refine LV.out.mono ?_
  rintro e w2 ⟨B, d, rfl, hO, hB, hc⟩
  have O2 := Lib.hid hO.reads
  have K2 := Lib.hid hc
  clear hO hB hc
  have ll := LL.out
  go_wp2
  go_loopw [3, 5] (fun v3 v5 wr => ∃ k : Nat, k ≤ L.length ∧ v5 = .int .i64 (k : Int) ∧ v3 = .int .i64 (hgtT t (L.take k)) ∧ Hid (Chg [] w2 wr)) (fun _ v5 _ => L.length - (RowKit.intOf v5).toNat)
  case atStart => exact ⟨0, Nat.zero_le _, rfl, rfl, Lib.hid (Chg.refl _ _)⟩
  case round =>
    obtain ⟨k, hk, rfl, rfl, HC⟩ := hrel
    have k1 : IntKind.i64.wrap ((k : Int) + 1) = (k : Int) + 1 := IntWalk.i64_in _ (by omega)
    have j0 : (0 : Int) ≤ (k : Int) := by omega
    by_cases hlt : k < L.length
    · have j1 : (k : Int) < (L.length : Int) := by omega
      have HT := Lib.hid (List.take_succ_eq_append_getElem hlt)
      have hx := LT.out L[k] (List.getElem_mem hlt)
      have ey := List.getElem?_eq_getElem hlt
      generalize L[k] = x at *
      obtain ⟨g3, o3, eB, _⟩ := O2.out.line (by omega)
      subst eB
      have z := intCells (O2.out.chg HC.out (by simp)) ey
      have CW := Lib.hid (K2.out.trans HC.out)
      have WL := Lib.hid (tqup_any wr A c t x (HR.out.chg CW.out (by simp)) hN)
      rw [← (check_way hx.1 hx.2).2.1] at WL
      have WZ := Lib.hid (way_len' t t.length x)
      have HS := Lib.hid ((congrArg (hgtT t) HT.out).trans (hgt_snoc t (L.take k) x))
      generalize wayT t t.length x = ys at *
      generalize hgtT t (L.take k) = mo at *
      have wz := WZ.out
      have q1 : IntKind.i64.wrap ((ys.length : Int) - 1) = (ys.length : Int) - 1 := IntWalk.i64_in _ (by omega)
      clear ey hx
      go_wp2_with fail
      refine WL.out.mono ?_
      rintro e w3 ⟨B3, d3, rfl, hO3, hB3, hc3⟩
      have K3 := Lib.hid (HC.out.trans hc3)
      clear hO3 hB3 hc3 z
      go_wp2
      refine ⟨⟨k + 1, by omega, by simp, ?_, K3⟩, by simp [RowKit.intOf]; omega⟩
      rw [HS.out]
      refine congrArg (Value.int .i64) ?_
      split <;> omega
    · obtain rfl : k = L.length := by omega
      rw [List.take_length]
      have hv := HV.out
      generalize hgtT t L = hh at *
      subst hv
      have CW := Lib.hid (K2.out.trans HC.out)
      go_wp2
      go_ret
      exact ⟨rfl, CW.out⟩

def wayR (t : List MemT) (n : Int) : List Int := if namesR t [n] = 0 then wayT t t.length n else []
theorem names_one (t : List MemT) (n : Int) : namesR t [n] = if thereT t n && checkT t then 0 else 2 := by
  unfold namesR
  simp only [List.any_cons, List.any_nil, Bool.or_false]
  cases thereT t n <;> cases checkT t <;> rfl
set_option maxRecDepth 100000 in
set_option maxHeartbeats 4000000 in
theorem toway_any (w : World) (A : Option Addr) (c : Nat) (t : List MemT) (n : Int) (h : RdK memTy w A t.length t) (hA : ∀ a, A = some a → a.block < w.heap.size) (hN : t.length ≤ 100000000) :
    Calls Try.prog 21 #[.slice A t.length c, .int .i64 n] w fun e w' => ∃ B d, e = .returned (.tuple #[.slice B (wayR t n).length d, .int .i64 (namesR t [n])]) ∧ OwnK intTy w' B d (wayR t n) ∧ (∀ a, B = some a → w.heap.size ≤ a.block) ∧ Chg [] w w' := by
  obtain ⟨w1, hw1, C1, b1⟩ := news1 w (.cells #[.int .i64 n] 3)
  have HW1 := Lib.hid hw1
  have CW := Lib.hid C1
  have R1 := show RdK intTy w1 (some ⟨w.heap.size, 0, none⟩) 1 [n] from (OwnK.of (R := intTy) (c := 1) (full := [n]) (xs := [n]) b1 (Nat.le_refl _) (by decide) rfl rfl).reads
  have hlb := lt_of_heap b1
  have NM := Lib.hid (tonames_any w1 A (some ⟨w.heap.size, 0, none⟩) c 1 t [n] (h.chg C1 (by simp)) (fun a ha => Nat.lt_of_lt_of_le (hA a ha) C1.size) R1 (fun a ha => by cases ha; exact hlb) hN (by simp))
  have WL := Lib.hid (fun w' (hc : Chg [] w w') => wayl_any w' A c t n (h.chg hc (by simp)) (fun a ha => Nat.lt_of_lt_of_le (hA a ha) hc.size) hN)
  unfold wayR
  have hz := names_one t n
  clear hw1 C1 b1 R1 hlb h hA
  generalize (thereT t n && checkT t) = b at *
  generalize namesR t [n] = N at *
  generalize wayT t t.length n = ys at *
  cases b with
  | true =>
    have : N = 0 := hz
    subst this
    clear hz
    simp only [if_true]
    go_enter Try.func21, Try.ntmps21
    go_wp2_with fail
    (try rw [← HW1.out])
    refine NM.out.mono ?_
    rintro e w2 ⟨rfl, h2⟩
    have K2 := Lib.hid (CW.out.trans h2)
    clear h2
    go_wp2_with fail
    refine (WL.out _ K2.out).mono ?_
    rintro e w3 ⟨B, d, rfl, hO, hB, hc⟩
    have O3 := Lib.hid hO
    have B3 := Lib.hid (fun a ha => Nat.le_trans K2.out.size (hB a ha))
    have K3 := Lib.hid (K2.out.trans hc)
    clear hO hB hc
    go_wp2
    go_ret2
    exact ⟨B, d, rfl, O3.out, B3.out, K3.out⟩
  | false =>
    have : N = 2 := hz
    subst this
    clear hz
    rw [if_neg (by decide)]
    go_enter Try.func21, Try.ntmps21
    go_wp2_with fail
    (try rw [← HW1.out])
    refine NM.out.mono ?_
    rintro e w2 ⟨rfl, h2⟩
    have K2 := Lib.hid (CW.out.trans h2)
    clear h2
    go_wp2
    go_ret2
    exact ⟨none, 0, rfl, OwnK.none_ _, by simp, K2.out⟩
set_option maxRecDepth 100000 in
set_option maxHeartbeats 4000000 in
theorem tqway_any (w : World) (A : Option Addr) (c : Nat) (t : List MemT) (n : Int) (h : RdK memTy w A t.length t) (hN : t.length ≤ 100000000) :
    Calls Try.prog 22 #[.slice A t.length c, .int .i64 n] w fun e w' => ∃ B d, e = .returned (.tuple #[.slice B (wayR t n).length d, .int .i64 (namesR t [n])]) ∧ OwnK intTy w' B d (wayR t n) ∧ (∀ a, B = some a → w.heap.size ≤ a.block) ∧ Chg [] w w' := by
  have CK := Lib.hid (tqcheck_any w A c t h hN)
  have TH := Lib.hid (fun w => tqthere_any w A c t n)
  have UP := Lib.hid (fun w' (hc : Chg [] w w') => tqup_any w' A c t n (h.chg hc (by simp)) hN)
  unfold wayR
  have hz := names_one t n
  clear h
  cases hck : checkT t with
  | false =>
    rw [hck] at CK hz
    have hz2 : namesR t [n] = 2 := by rw [hz, Bool.and_false]; rfl
    rw [hz2, if_neg (by decide)]
    clear hz hz2 hck
    go_enter Try.func22, Try.ntmps22
    go_wp2_with fail
    refine CK.out.mono ?_
    rintro e w2 ⟨rfl, h2⟩
    have K2 := Lib.hid h2
    clear h2
    go_wp2
    go_ret2
    exact ⟨none, 0, rfl, OwnK.none_ _, by simp, K2.out⟩
  | true =>
    rw [hck] at CK hz
    cases hth : thereT t n with
    | false =>
      rw [hth] at TH hz
      have hz2 : namesR t [n] = 2 := hz
      rw [hz2, if_neg (by decide)]
      clear hz hz2 hck hth
      go_enter Try.func22, Try.ntmps22
      go_wp2_with fail
      refine CK.out.mono ?_
      rintro e w2 ⟨rfl, h2⟩
      have K2 := Lib.hid h2
      clear h2
      go_wp2_with fail
      refine (TH.out _).mono ?_
      rintro e w3 ⟨rfl, rfl⟩
      go_wp2
      go_ret2
      exact ⟨none, 0, rfl, OwnK.none_ _, by simp, K2.out⟩
    | true =>
      rw [hth] at TH hz
      have hz2 : namesR t [n] = 0 := hz
      rw [hz2, if_pos rfl, (check_way hck hth).2.1]
      generalize chainT t (t.length + 1) n = ys at *
      clear hz hz2 hck hth
      go_enter Try.func22, Try.ntmps22
      go_wp2_with fail
      refine CK.out.mono ?_
      rintro e w2 ⟨rfl, h2⟩
      have K2 := Lib.hid h2
      clear h2
      go_wp2_with fail
      refine (TH.out _).mono ?_
      rintro e w3 ⟨rfl, rfl⟩
      go_wp2_with fail
      refine (UP.out _ K2.out).mono ?_
      rintro e w4 ⟨B, d, rfl, hO, hB, hc⟩
      have O3 := Lib.hid hO
      have B3 := Lib.hid (fun a ha => Nat.le_trans K2.out.size (hB a ha))
      have K3 := Lib.hid (K2.out.trans hc)
      clear hO hB hc
      go_wp2
      go_ret2
      exact ⟨B, d, rfl, O3.out, B3.out, K3.out⟩
end Go.Proofs.Ytleioiihoplmaaa
