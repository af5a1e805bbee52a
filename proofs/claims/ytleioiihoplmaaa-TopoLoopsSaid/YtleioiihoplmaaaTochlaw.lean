/- TopoChanges, walked. -/
import Derived.Test.YtleioiihoplmaaaTochg1
import Derived.Test.YtleioiihoplmaaaTochg2
import Derived.Test.YtleioiihoplmaaaTochg3
import Derived.Test.YtleioiihoplmaaaTochg4
import Derived.Test.YtleioiihoplmaaaTomove
import Derived.Test.YtleioiihoplmaaaTqmove
import Derived.Deep.Cut
namespace Go.Proofs.Ytleioiihoplmaaa
open Go.RowKit
set_option linter.unusedSimpArgs false
set_option linter.unusedVariables false



theorem memSet (full : List (Int × Int × Bool)) (j : Nat) (hj : j < full.length) : ((((memTy.flat full).toArray.setIfInBounds (j * 3) (.int .i64 (-7))).setIfInBounds (j * 3 + 1) (.int .i64 0)).setIfInBounds (j * 3 + 2) (.bool false)) = (memTy.flat (full.set j (-7, 0, false))).toArray := by
  apply Array.toList_inj.1
  refine (memTy.flat_ext _ (full.set j (-7, 0, false)) ?_ ?_)
  · simp [RowTy.flat_len]
  · intro q i y hy hi
    have hk : memTy.k = 3 := rfl
    rw [hk] at hi ⊢
    have hlen : (memTy.flat full).length = full.length * 3 := memTy.flat_len full
    simp only [Array.toList_setIfInBounds, List.getElem?_set, List.length_set]
    rw [List.getElem?_set] at hy
    by_cases hq : j = q
    · subst hq
      rw [if_pos rfl, if_pos hj] at hy
      cases hy
      rcases (show i = 0 ∨ i = 1 ∨ i = 2 by omega) with rfl | rfl | rfl
      · rw [if_neg (by omega)]; rw [if_neg (by omega)]; rw [if_pos (by omega), if_pos (by simp [hlen]; omega)]; rfl
      · rw [if_neg (by omega)]; rw [if_pos (by omega), if_pos (by simp [hlen]; omega)]; rfl
      · rw [if_pos (by omega), if_pos (by simp [hlen]; omega)]; rfl
    · rw [if_neg hq] at hy
      have hql := (List.getElem?_eq_some_iff.1 hy).1
      rw [if_neg (by omega), if_neg (by omega), if_neg (by omega)]
      have e := memTy.flat_at full q i y hy (by rw [hk]; exact hi)
      rw [hk] at e
      simpa using e
theorem memPut (w : World) (g j : Nat) (full : List (Int × Int × Bool)) (h : w.heap[g]? = some (.cells (memTy.flat full).toArray 50 (0, 0))) (hj : j < full.length) : (((w.setCell ⟨g, j * 3, none⟩ (.int .i64 (-7))).setCell ⟨g, j * 3 + 1, none⟩ (.int .i64 0)).setCell ⟨g, j * 3 + 2, none⟩ (.bool false)).heap[g]? = some (.cells (memTy.flat (full.set j (-7, 0, false))).toArray 50 (0, 0)) := by
  have h0 := heap_setCell_same _ g (j * 3) _ _ (.int .i64 (-7)) h
  have h1 := heap_setCell_same _ g (j * 3 + 1) _ _ (.int .i64 0) h0
  have h2 := heap_setCell_same _ g (j * 3 + 2) _ _ (.bool false) h1
  rw [memSet full j hj] at h2
  exact h2
set_option maxHeartbeats 1000000 in
theorem overmem_row (w : World) (g n c : Nat) (full : List (Int × Int × Bool)) (hg : w.heap[g]? = some (.cells (memTy.flat full).toArray 50 (0, 0))) (hl : full.length = c) (hn : n ≤ c) (hc : c ≤ 9223372036854775807) :
    Calls Try.prog 18 #[.slice (some ⟨g, 0, none⟩) n c] w fun e w' => e = .returned (.tuple #[]) ∧ Chg [g] w w' := by
  have HG := Lib.hid hg
  clear hg
  have i1 : (0 : Int) ≤ (c : Int) := by omega
  have hcc : (n : Int) ≤ (c : Int) := by omega
  go_enter Try.func18, Try.ntmps18
  go_wp2
  go_loopw [3] (fun i wr => ∃ (k : Nat) (cur : List (Int × Int × Bool)), k ≤ c ∧ i = .int .i64 k ∧ Hid (cur.length = c ∧ wr.heap[g]? = some (.cells (memTy.flat cur).toArray 50 (0, 0)) ∧ Chg [g] w wr)) (fun i _ => c - (RowKit.intOf i).toNat)
  case atStart => exact ⟨0, full, Nat.zero_le _, rfl, hl, HG.out, Chg.refl _ _⟩
  case round =>
    obtain ⟨k, cur, hk, rfl, HI⟩ := hrel
    by_cases hlt : k < c
    · have hcl : k < cur.length := by have := HI.out.1; omega
      have hrd : RdK memTy wr (some ⟨g, 0, none⟩) cur.length cur := (OwnK.of (c := cur.length) (xs := cur) HI.out.2.1 (Nat.le_refl _) (by have := HI.out.1; unfold maxLen; omega) rfl (List.take_length)).reads
      have ex := List.getElem?_eq_getElem hcl
      obtain ⟨p0, p1, p2⟩ := memCells hrd ex
      simp only [Nat.zero_add] at p0 p1 p2
      have f0 := free_of HI.out.2.1 (k * 3)
      have f1 := free_of HI.out.2.1 (k * 3 + 1)
      have f2 := free_of HI.out.2.1 (k * 3 + 2)
      have i2 : (0 : Int) ≤ (k : Int) := by omega
      have i3 : (k : Int) < (c : Int) := by omega
      have k1 : IntKind.i64.wrap ((k : Int) + 1) = (k : Int) + 1 := IntWalk.i64_in _ (by omega)
      have hput := memPut wr g k cur HI.out.2.1 hcl
      have hch := HI.out.2.2.trans ((((Chg.refl [g] wr).setCell (p := ⟨g, k * 3, none⟩) (.inl (by simp)) (.int .i64 (-7))).setCell (p := ⟨g, k * 3 + 1, none⟩) (.inl (by simp)) (.int .i64 0)).setCell (p := ⟨g, k * 3 + 2, none⟩) (.inl (by simp)) (.bool false))
      have HP := Lib.hid (And.intro hput hch)
      clear hput hch hrd ex
      go_wp2
      refine ⟨⟨k + 1, cur.set k (-7, 0, false), by omega, by simp, by rw [List.length_set]; exact HI.out.1, HP.out.1, HP.out.2⟩, by simp [RowKit.intOf]; omega⟩
    · obtain rfl : k = c := by omega
      go_wp2
      go_end0
      exact ⟨rfl, HI.out.2.2⟩
set_option maxHeartbeats 1000000 in
theorem overmem_own (w : World) (A : Option Addr) (n c : Nat) (xs : List (Int × Int × Bool)) (h : OwnK memTy w A c xs) (hn : n = xs.length) :
    Calls Try.prog 18 #[.slice A n c] w fun e w' => e = .returned (.tuple #[]) ∧ ∀ S : List Nat, (∀ a, A = some a → a.block ∈ S) → Chg S w w' := by
  subst hn
  rcases h with ⟨rfl, rfl, rfl⟩ | ⟨g, full, rfl, hg, hl, hm, hn, _⟩
  · go_enter Try.func18, Try.ntmps18
    go_wp2
    refine wp_loop_rounds 1 ?_
    rw [rounds_succ]
    go_wp2
    go_end0
    exact ⟨rfl, fun S _ => Chg.refl _ _⟩
  · unfold maxLen at hm
    exact (overmem_row w g _ c full hg hl hn (by omega)).mono fun e w' ⟨h1, h2⟩ => ⟨h1, fun S hS => h2.mono (fun i hi => by simp at hi; subst hi; exact .inl (hS _ rfl))⟩

set_option maxRecDepth 100000 in
theorem tqnew_any (w : World) : Calls Try.prog 20 #[] w fun e w' => e = .returned (.slice (some ⟨w.heap.size, 0, none⟩) 1 1) ∧ w'.heap[w.heap.size]? = some (.cells #[.int .i64 1, .int .i64 0, .bool false] 50 (0, 0)) ∧ Chg [] w w' := by
  obtain ⟨w1, hw1, c1, b1⟩ := news1 w (.cells #[.int .i64 1, .int .i64 0, .bool false] 50)
  have W1 := Lib.hid hw1
  have B1 := Lib.hid b1
  have C1 := Lib.hid c1
  clear hw1 b1 c1
  go_enter Try.func20, Try.ntmps20
  go_wp2
  go_ret
  rw [← W1.out]
  exact ⟨rfl, B1.out, C1.out⟩

theorem enrol_len (t : List MemT) (kind up : Int) : (enrolR t kind up).1.length ≤ t.length + 1 := by
  unfold enrolR
  repeat' split
  all_goals simp
theorem kill_len (t : List MemT) (n : Int) : (killR t n).1.length ≤ t.length + 1 := by
  unfold killR
  repeat' split
  all_goals simp
theorem move_len (t : List MemT) (n up : Int) : (moveR t n up).1.length ≤ t.length + 1 := by
  unfold moveR
  repeat' split
  all_goals simp

set_option maxRecDepth 100000 in
set_option maxHeartbeats 8000000 in
theorem topochanges_walk (w : World) (A : Option Addr) (c : Nat) (t : List MemT) (n up kind : Int) (h : RdK memTy w A t.length t) (hN : t.length ≤ 140737488351232) :
    Calls Try.prog 3 #[.slice A t.length c, .int .i64 n, .int .i64 up, .int .i64 kind] w fun e w' => e = .returned (.bool true) ∧ Chg [] w w' := by
  have AW := Lib.hid (fun W => topoAwake_run W)
  by_cases hl : 210 < t.length
  · have i1 : (210 : Int) < (t.length : Int) := by omega
    clear h hl
    go_enter Try.func3, Try.ntmps3
    go_wp2_with fail
    refine (AW.out _).mono ?_
    rintro e w1 ⟨rfl, h1⟩
    have K1 := Lib.hid h1
    clear h1
    go_wp2
    go_ret
    exact ⟨rfl, K1.out⟩
  have i1 : ¬ (210 : Int) < (t.length : Int) := by omega
  have HX := Lib.hid h
  obtain ⟨w1, hw1, c1, b1⟩ := news1 w (.cells #[] 50)
  have W1 := Lib.hid hw1
  have HO := Lib.hid (show OwnK memTy w1 (some ⟨w.heap.size, 0, none⟩) 0 [] from .of (full := []) b1 (Nat.le_refl _) (Nat.zero_le _) rfl rfl)
  have H1 := Lib.hid (h.chg c1 (by simp))
  have C1 := Lib.hid c1
  have HN := Lib.hid (show (0 + t.length) * 400 ≤ 140737488355327 by omega)
  have hn : t.length ≤ 100000000 := by omega
  clear hw1 c1 b1 h hl hN
  have PE := Lib.hid (fun w' A c h hA => toenrol_any w' A c t kind up h hA hn)
  have PK := Lib.hid (fun w' A c h hA => tokill_any w' A c t n h hA hn)
  have PM := Lib.hid (fun w' A c h hA => tomove_any w' A c t n up h hA hn)
  have PC := Lib.hid (fun w' A c h hA => tocheck_any w' A c t h hA hn)
  have QE := Lib.hid (fun w' h => tqenrol_any w' A c t kind up h hn)
  have QK := Lib.hid (fun w' h => tqkill_any w' A c t n h hn)
  have QM := Lib.hid (fun w' h => tqmove_any w' A c t n up h hn)
  have QC := Lib.hid (fun w' h => tqcheck_any w' A c t h hn)
  have L1 := enrol_len t kind up
  have L2 := kill_len t n
  have L3 := move_len t n up
  generalize enrolR t kind up = ra at *
  generalize killR t n = rb at *
  generalize moveR t n up = rc at *
  generalize (if checkT t then (0 : Int) else 2) = rd at *
  obtain ⟨ra, rx, re⟩ := ra
  obtain ⟨rb, rf⟩ := rb
  obtain ⟨rc, rg⟩ := rc
  simp only at PE PK PM QE QK QM L1 L2 L3
  have e1 : (rx == rx) = true := by simp
  have e2 : (re == re) = true := by simp
  have e3 : (rf == rf) = true := by simp
  have e4 : (rg == rg) = true := by simp
  have e5 : (rd == rd) = true := by simp
  go_enter Try.func3, Try.ntmps3
  go_wp2_with (at_builtin; rw [← W1.out]; refine wpList_appK (R := memTy) rfl _ _ rfl rfl HO.out rfl rfl H1.out HN.out ?_; rw [List.nil_append, Nat.zero_add]; intro A2 c2 w2 u2 d2 e2; have U2 := Lib.hid u2; have D2 := Lib.hid (C1.out.grown d2 (fun k hk => by simp at hk; subst hk; exact .inr (Nat.le_refl _))); clear u2 d2 e2; have HI := Lib.hid (fun (w' : World) (hc : Chg [] w2 w') => U2.out.reads.chg hc (by simp)); have HL := Lib.hid (fun (w' : World) (hc : Chg [] w2 w') => (fun a ha => Nat.lt_of_lt_of_le (U2.out.lt a ha) hc.size : ∀ a, A2 = some a → a.block < w'.heap.size)); have HT := Lib.hid (fun (w' : World) (hc : Chg [] w2 w') => HX.out.chg (D2.out.trans hc) (by simp)); have K2 := Lib.hid (Chg.refl [] w2))
  refine (PE.out w2 A2 c2 (HI.out _ K2.out) (HL.out _ K2.out)).mono ?_
  rintro e w3 ⟨B3, d3, rfl, hO, hB, hc⟩
  have K3 := Lib.hid (K2.out.trans hc)
  have R3 := Lib.hid hO
  have N3 := Lib.hid (fun a ha => Nat.le_trans K2.out.size (hB a ha))
  clear hO hB hc
  go_wp2_with fail
  refine (QE.out w3 (HT.out _ K3.out)).mono ?_
  rintro e w4 ⟨B4, d4, rfl, hO, hB, hc⟩
  have K4 := Lib.hid (K3.out.trans hc)
  have R4 := Lib.hid hO
  have N4 := Lib.hid (fun a ha => Nat.le_trans K3.out.size (hB a ha))
  replace R3 := Lib.hid (R3.out.chg hc (by simp))
  clear hO hB hc
  go_wp2_with fail
  refine (PK.out w4 A2 c2 (HI.out _ K4.out) (HL.out _ K4.out)).mono ?_
  rintro e w5 ⟨B5, d5, rfl, hO, hB, hc⟩
  have K5 := Lib.hid (K4.out.trans hc)
  have R5 := Lib.hid hO
  have N5 := Lib.hid (fun a ha => Nat.le_trans K4.out.size (hB a ha))
  have AP35 := Lib.hid (fun (a : Addr) (ha : B5 = some a) => (fun hm => by obtain ⟨b, eb, hb⟩ := of_blkOf hm; have := R3.out.lt b eb; have := hB a ha; have := hc.size; omega : a.block ∉ blkOf B3))
  have AP53 := Lib.hid (fun (a : Addr) (ha : B3 = some a) => (fun hm => by obtain ⟨b, eb, hb⟩ := of_blkOf hm; have := R3.out.lt a ha; have := hB b eb; omega : a.block ∉ blkOf B5))
  replace R3 := Lib.hid (R3.out.chg hc (by simp))
  replace R4 := Lib.hid (R4.out.chg hc (by simp))
  clear hO hB hc
  go_wp2_with fail
  refine (QK.out w5 (HT.out _ K5.out)).mono ?_
  rintro e w6 ⟨B6, d6, rfl, hO, hB, hc⟩
  have K6 := Lib.hid (K5.out.trans hc)
  have R6 := Lib.hid hO
  have N6 := Lib.hid (fun a ha => Nat.le_trans K5.out.size (hB a ha))
  replace R3 := Lib.hid (R3.out.chg hc (by simp))
  replace R4 := Lib.hid (R4.out.chg hc (by simp))
  replace R5 := Lib.hid (R5.out.chg hc (by simp))
  clear hO hB hc
  go_wp2_with fail
  refine (PM.out w6 A2 c2 (HI.out _ K6.out) (HL.out _ K6.out)).mono ?_
  rintro e w7 ⟨B7, d7, rfl, hO, hB, hc⟩
  have K7 := Lib.hid (K6.out.trans hc)
  have R7 := Lib.hid hO
  have N7 := Lib.hid (fun a ha => Nat.le_trans K6.out.size (hB a ha))
  have AP37 := Lib.hid (fun (a : Addr) (ha : B7 = some a) => (fun hm => by obtain ⟨b, eb, hb⟩ := of_blkOf hm; have := R3.out.lt b eb; have := hB a ha; have := hc.size; omega : a.block ∉ blkOf B3))
  have AP73 := Lib.hid (fun (a : Addr) (ha : B3 = some a) => (fun hm => by obtain ⟨b, eb, hb⟩ := of_blkOf hm; have := R3.out.lt a ha; have := hB b eb; omega : a.block ∉ blkOf B7))
  have AP57 := Lib.hid (fun (a : Addr) (ha : B7 = some a) => (fun hm => by obtain ⟨b, eb, hb⟩ := of_blkOf hm; have := R5.out.lt b eb; have := hB a ha; have := hc.size; omega : a.block ∉ blkOf B5))
  have AP75 := Lib.hid (fun (a : Addr) (ha : B5 = some a) => (fun hm => by obtain ⟨b, eb, hb⟩ := of_blkOf hm; have := R5.out.lt a ha; have := hB b eb; omega : a.block ∉ blkOf B7))
  replace R3 := Lib.hid (R3.out.chg hc (by simp))
  replace R4 := Lib.hid (R4.out.chg hc (by simp))
  replace R5 := Lib.hid (R5.out.chg hc (by simp))
  replace R6 := Lib.hid (R6.out.chg hc (by simp))
  clear hO hB hc
  go_wp2_with fail
  refine (QM.out w7 (HT.out _ K7.out)).mono ?_
  rintro e w8 ⟨B8, d8, rfl, hO, hB, hc⟩
  have K8 := Lib.hid (K7.out.trans hc)
  have R8 := Lib.hid hO
  have N8 := Lib.hid (fun a ha => Nat.le_trans K7.out.size (hB a ha))
  replace R3 := Lib.hid (R3.out.chg hc (by simp))
  replace R4 := Lib.hid (R4.out.chg hc (by simp))
  replace R5 := Lib.hid (R5.out.chg hc (by simp))
  replace R6 := Lib.hid (R6.out.chg hc (by simp))
  replace R7 := Lib.hid (R7.out.chg hc (by simp))
  clear hO hB hc
  go_wp2_with fail
  refine (samemem_any _ _ _ _ _ _ _ ra ra R3.out.reads R4.out.reads (by omega) (by omega)).mono ?_
  rw [show (ra == ra) = true by simp]
  rintro e w9 ⟨rfl, hc⟩
  have K9 := Lib.hid (K8.out.trans hc)
  replace R3 := Lib.hid (R3.out.chg hc (by simp))
  replace R4 := Lib.hid (R4.out.chg hc (by simp))
  replace R5 := Lib.hid (R5.out.chg hc (by simp))
  replace R6 := Lib.hid (R6.out.chg hc (by simp))
  replace R7 := Lib.hid (R7.out.chg hc (by simp))
  replace R8 := Lib.hid (R8.out.chg hc (by simp))
  clear hc
  go_wp2_with fail
  refine (samemem_any _ _ _ _ _ _ _ rb rb R5.out.reads R6.out.reads (by omega) (by omega)).mono ?_
  rw [show (rb == rb) = true by simp]
  rintro e w10 ⟨rfl, hc⟩
  have K10 := Lib.hid (K9.out.trans hc)
  replace R3 := Lib.hid (R3.out.chg hc (by simp))
  replace R4 := Lib.hid (R4.out.chg hc (by simp))
  replace R5 := Lib.hid (R5.out.chg hc (by simp))
  replace R6 := Lib.hid (R6.out.chg hc (by simp))
  replace R7 := Lib.hid (R7.out.chg hc (by simp))
  replace R8 := Lib.hid (R8.out.chg hc (by simp))
  clear hc
  go_wp2_with fail
  refine (samemem_any _ _ _ _ _ _ _ rc rc R7.out.reads R8.out.reads (by omega) (by omega)).mono ?_
  rw [show (rc == rc) = true by simp]
  rintro e w11 ⟨rfl, hc⟩
  have K11 := Lib.hid (K10.out.trans hc)
  replace R3 := Lib.hid (R3.out.chg hc (by simp))
  replace R4 := Lib.hid (R4.out.chg hc (by simp))
  replace R5 := Lib.hid (R5.out.chg hc (by simp))
  replace R6 := Lib.hid (R6.out.chg hc (by simp))
  replace R7 := Lib.hid (R7.out.chg hc (by simp))
  replace R8 := Lib.hid (R8.out.chg hc (by simp))
  clear hc
  go_wp2_with fail
  refine (PC.out w11 A2 c2 (HI.out _ K11.out) (HL.out _ K11.out)).mono ?_
  rintro e w12 ⟨rfl, hc⟩
  have K12 := Lib.hid (K11.out.trans hc)
  replace R3 := Lib.hid (R3.out.chg hc (by simp))
  replace R4 := Lib.hid (R4.out.chg hc (by simp))
  replace R5 := Lib.hid (R5.out.chg hc (by simp))
  replace R6 := Lib.hid (R6.out.chg hc (by simp))
  replace R7 := Lib.hid (R7.out.chg hc (by simp))
  replace R8 := Lib.hid (R8.out.chg hc (by simp))
  clear hc
  go_wp2_with fail
  refine (QC.out w12 (HT.out _ K12.out)).mono ?_
  rintro e w13 ⟨rfl, hc⟩
  have K13 := Lib.hid (K12.out.trans hc)
  replace R3 := Lib.hid (R3.out.chg hc (by simp))
  replace R4 := Lib.hid (R4.out.chg hc (by simp))
  replace R5 := Lib.hid (R5.out.chg hc (by simp))
  replace R6 := Lib.hid (R6.out.chg hc (by simp))
  replace R7 := Lib.hid (R7.out.chg hc (by simp))
  replace R8 := Lib.hid (R8.out.chg hc (by simp))
  clear hc
  go_wp2_with fail
  refine (overmem_own _ _ _ _ ra R3.out rfl).mono ?_
  rintro e w14 ⟨rfl, hs⟩
  have hs := hs (blkOf B3) (fun a ha => mem_blkOf ha)
  have hk := hs
  have K14 := Lib.hid (K13.out.trans' hs (fun i hi => .inr (blkOf_new N3.out i hi)))
  replace R5 := Lib.hid (R5.out.chg hs (AP35.out))
  replace R7 := Lib.hid (R7.out.chg hs (AP37.out))
  clear hs hk
  go_wp2_with fail
  refine (overmem_own _ _ _ _ rb R5.out rfl).mono ?_
  rintro e w15 ⟨rfl, hs⟩
  have hs := hs (blkOf B5) (fun a ha => mem_blkOf ha)
  have hk := hs
  have K15 := Lib.hid (K14.out.trans' hs (fun i hi => .inr (blkOf_new N5.out i hi)))
  replace R7 := Lib.hid (R7.out.chg hs (AP57.out))
  clear hs hk
  go_wp2_with fail
  refine (overmem_own _ _ _ _ rc R7.out rfl).mono ?_
  rintro e w16 ⟨rfl, hs⟩
  have hs := hs (blkOf B7) (fun a ha => mem_blkOf ha)
  have hk := hs
  have K16 := Lib.hid (K15.out.trans' hs (fun i hi => .inr (blkOf_new N7.out i hi)))
  clear hs hk
  go_wp2_with fail
  refine (samemem_any _ _ _ _ _ _ _ t t (HI.out _ K16.out) (HT.out _ K16.out) (by omega) (by omega)).mono ?_
  rw [show (t == t) = true by simp]
  rintro e w17 ⟨rfl, hc⟩
  have K17 := Lib.hid (K16.out.trans hc)
  clear hc
  go_wp2_with fail
  refine (tonew_any _).mono ?_
  rintro e w18 ⟨rfl, hg, hc⟩
  have K18 := Lib.hid (K17.out.trans hc)
  have G18 := Lib.hid (show OwnK memTy w18 (some ⟨w17.heap.size, 0, none⟩) 1 [(1, 0, false)] from .of (full := [(1, 0, false)]) hg (Nat.le_refl _) (by decide) rfl rfl)
  clear hg hc
  go_wp2_with fail
  refine (tqnew_any _).mono ?_
  rintro e w19 ⟨rfl, hg, hc⟩
  have K19 := Lib.hid (K18.out.trans hc)
  replace G18 := Lib.hid (G18.out.chg hc (by simp))
  have G19 := Lib.hid (show OwnK memTy w19 (some ⟨w18.heap.size, 0, none⟩) 1 [(1, 0, false)] from .of (full := [(1, 0, false)]) hg (Nat.le_refl _) (by decide) rfl rfl)
  clear hg hc
  go_wp2_with fail
  refine (samemem_any _ _ _ _ _ _ _ [(1, 0, false)] [(1, 0, false)] G18.out.reads G19.out.reads (by decide) (by decide)).mono ?_
  rw [show (([(1, 0, false)] : List MemT) == [(1, 0, false)]) = true by decide]
  rintro e w20 ⟨rfl, hc⟩
  have K20 := Lib.hid (K19.out.trans hc)
  clear hc
  go_wp2_with fail
  refine (AW.out _).mono ?_
  rintro e w21 ⟨rfl, hc⟩
  have K21 := Lib.hid (K20.out.trans hc)
  clear hc
  go_wp2
  go_ret
  exact ⟨rfl, D2.out.trans K21.out⟩

theorem topochanges_yes (w : World) (A : Option Addr) (m c : Nat) (t : List MemT) (n up kind : Int) (h : RdK memTy w A m t) (hm : m * 24 ≤ 140737488351232) :
    Calls Try.prog 3 #[.slice A m c, .int .i64 n, .int .i64 up, .int .i64 kind] w fun e w' => e = .returned (.bool true) ∧ Chg [] w w' := by
  have hl := h.len
  subst hl
  exact topochanges_walk w A c t n up kind h (by omega)
end Go.Proofs.Ytleioiihoplmaaa
