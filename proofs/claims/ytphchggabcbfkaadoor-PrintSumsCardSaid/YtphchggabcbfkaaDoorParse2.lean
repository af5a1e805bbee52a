/- print.Parse, whole. -/
import Derived.Test.YtphchggabcbfkaaDoorParse
namespace Go.Proofs.YtphchggabcbfkaaDoor
open Go.RowKit Go.Shelf
set_option linter.unusedSimpArgs false
set_option linter.unusedVariables false

/-- What a text tells: the number, what is wrong, where. -/
def parseR (xs : List UInt8) : Int × Int × Int :=
  if xs.length < 16 then (0, 4, xs.length) else if 16 < xs.length then (0, 4, 16) else if badAt xs < 16 then (0, 2, badAt xs) else (unhexs xs, 0, 0)
def faultV (r : Int × Int × Int) : Value := .tuple #[.int .u64 r.1, .agg #[.int .i64 r.2.1, .int .i64 r.2.2]]
theorem parseR_lt {xs : List UInt8} (h : xs.length < 16) : parseR xs = (0, 4, (xs.length : Int)) := by unfold parseR; rw [if_pos h]
theorem parseR_gt {xs : List UInt8} (h : 16 < xs.length) : parseR xs = (0, 4, 16) := by unfold parseR; rw [if_neg (by omega), if_pos h]
theorem parseR_bad {xs : List UInt8} (h : xs.length = 16) (hb : badAt xs < 16) : parseR xs = (0, 2, (badAt xs : Int)) := by unfold parseR; rw [if_neg (by omega), if_neg (by omega), if_pos hb]
theorem parseR_ok {xs : List UInt8} (h : xs.length = 16) (hb : ¬ badAt xs < 16) : parseR xs = ((unhexs xs : Int), 0, 0) := by unfold parseR; rw [if_neg (by omega), if_neg (by omega), if_neg hb]
/-- A string's bytes in a block of their own. -/
theorem run_sb (w : World) (s : ByteArray) : ∃ w1 c, (convert 9 22 (.string s)).run Tryd.prog w = .ok (.slice (some ⟨w.heap.size, 0, none⟩) s.size c) w1 ∧ Chg [] w w1 ∧ Bs w1 (some ⟨w.heap.size, 0, none⟩) s.size s.data.toList :=
  ⟨_, _, run_bytes_of_string (P := Tryd.prog) w 9 22 5 s Tryd.underlying9 Tryd.underlying22 Tryd.underlying5, ((Chg.refl [] w).alloc _).drew, Bs.str w s _ _⟩
set_option maxHeartbeats 1000000 in
theorem parse_any (w : World) (s : ByteArray) (hs : s.size ≤ 140737488351232) :
    Calls Tryd.prog 20 #[.string s] w fun e w' => e = .returned (faultV (parseR s.data.toList)) ∧ Chg [] w w' := by
  have hl : s.data.toList.length = s.size := by rw [Array.length_toList]; rfl
  obtain ⟨V, hV, hcV, hb⟩ := news1 w (.cells #[.int .i64 0, .int .i64 0] 35)
  have hsV : V.heap.size = w.heap.size + 1 := by rw [hV]; simp
  refine (Decidable.em (s.size < 16)).elim (fun h1 => ?short) (fun h1 => (Decidable.em (16 < s.size)).elim (fun h2 => ?long) (fun h2 => (Decidable.em (badAt s.data.toList < 16)).elim (fun h3 => ?wrong) (fun h3 => ?right)))
  case short =>
    rw [parseR_lt (by omega), hl]
    have e1 : ((s.size : Int) == 16) = false := by simp; omega
    have e2 : min (s.size : Int) 16 = (s.size : Int) := by omega
    have HC := Lib.hid hcV
    clear hcV hV hb
    go_enter Tryd.func20, Tryd.ntmps20
    go_wp2
    refine bodyPost_ret (by simp [results, Tryd.results20, go_sem]; try rfl) rfl ?_
    exact ⟨rfl, (Chg.refl [] w).alloc _⟩
  case long =>
    rw [parseR_gt (by omega)]
    have e1 : ((s.size : Int) == 16) = false := by simp; omega
    have e2 : min (s.size : Int) 16 = 16 := by omega
    clear hcV hV hb
    go_enter Tryd.func20, Tryd.ntmps20
    go_wp2
    refine bodyPost_ret (by simp [results, Tryd.results20, go_sem]; try rfl) rfl ?_
    exact ⟨rfl, (Chg.refl [] w).alloc _⟩
  case wrong =>
    have h16 : s.size = 16 := by omega
    rw [parseR_bad (by omega) h3]
    obtain ⟨w1, c1, r1, d1, b1⟩ := run_sb V s
    rw [hsV, h16] at r1 b1
    rw [hV] at r1
    have hb1 := d1.at_ hb (by simp)
    have k0 := cell_of hb1 0
    have k1 := cell_of hb1 1
    have f0 := free_of hb1 0
    have f1 := free_of hb1 1
    simp at k0 k1
    have hC1 := hcV.trans d1
    have hix := index_any w1 _ _ c1 _ b1 (by omega)
    rw [if_pos (by omega)] at hix
    have HI := Lib.hid hix
    have HC := Lib.hid hC1
    have e0 : ((s.size : Int) == 16) = true := by simp; omega
    have hge : (0 : Int) ≤ (badAt s.data.toList : Int) := by omega
    generalize badAt s.data.toList = q at *
    have HB1 := Lib.hid hb1
    clear hix hC1 d1 hb hb1 hV hcV b1
    go_enter Tryd.func20, Tryd.ntmps20
    go_wp2_with (go_at_call 30; refine HI.out.mono ?_; rintro e w2 ⟨rfl, rfl⟩)
    have hb2 := heap_setCell_same _ w.heap.size 1 _ _ (.int .i64 (q : Int)) (heap_setCell_same _ w.heap.size 0 _ _ (.int .i64 2) HB1.out)
    have z0 := cell_of hb2 0
    have z1 := cell_of hb2 1
    simp at z0 z1
    refine bodyPost_ret (v := faultV (0, 2, (q : Int))) (by simp [results, Tryd.results20, go_sem, faultV, z0, z1]) rfl ⟨rfl, (HC.out.put (Nat.le_refl _) 0 _).put (Nat.le_refl _) 1 _⟩
  case right =>
    have h16 : s.size = 16 := by omega
    rw [parseR_ok (by omega) h3]
    obtain ⟨w1, c1, r1, d1, b1⟩ := run_sb V s
    rw [hsV, h16] at r1 b1
    rw [hV] at r1
    have hb1 := d1.at_ hb (by simp)
    have hC1 := hcV.trans d1
    have hlen16 : s.data.toList.length = 16 := by omega
    have hbl : badAt s.data.toList = 16 := by have := badAt_le s.data.toList; omega
    have hix := index_any w1 _ _ c1 _ b1 (by omega)
    rw [if_neg (by omega)] at hix
    obtain ⟨w2, c2, r2, d2, b2⟩ := run_sb w1 s
    rw [h16] at r2 b2
    have hb2 := d2.at_ hb1 (by simp)
    obtain ⟨V2, hV2, hcV2, hbx⟩ := news1 w2 (.cells #[.slice (some ⟨w1.heap.size, 0, none⟩) 16 c2] 22)
    have hsV2 : V2.heap.size = w2.heap.size + 1 := by rw [hV2]; simp
    have hfo := fold1_values V2 w2.heap.size w1.heap.size 0 c2 _ (b2.chg hcV2 (by simp)) hlen16 (good_of _ (by omega)) (by rw [cell_of hbx]; rfl)
    have hb3 := hcV2.at_ hb2 (by simp)
    have HFo := Lib.hid hfo
    have HI := Lib.hid hix
    have HC := Lib.hid ((hC1.trans d2).trans hcV2)
    have HB3 := Lib.hid hb3
    have HV2 := Lib.hid hV2
    have hsz2 := ((hC1.trans d2).trans hcV2).size
    have hws : w.heap.size < V2.heap.size := lt_of_heap hb3
    have e0 : ((s.size : Int) == 16) = true := by simp; omega
    generalize unhexs s.data.toList = q at *
    clear hix hC1 d1 hb hb1 hV hcV b1 hfo hb3 hb2 d2 b2 hbx hcV2 hV2 hbl hlen16
    go_enter Tryd.func20, Tryd.ntmps20
    go_wp2_with (first
      | (go_at_call 30; refine HI.out.mono ?_; rintro e w2 ⟨rfl, rfl⟩)
      | (go_at_call 33; refine (values_any _ _ _ _).mono ?_; rintro e w3 ⟨rfl, hw3⟩; rw [← HV2.out] at hw3; subst hw3)
      | (go_at_call 32; refine HFo.out.mono ?_; rintro e w4 ⟨rfl, hw4⟩; have hb4 := (hw4.block _ hws).trans HB3.out; have k0 := cell_of hb4 0; have k1 := cell_of hb4 1; have f0 := free_of hb4 0; have f1 := free_of hb4 1; simp at k0 k1; have HB4 := Lib.hid hb4; have HC4 := Lib.hid (HC.out.trans (Chg.of_below hw4)); clear hb4 hw4))
    have hb5 := heap_setCell_same _ w.heap.size 1 _ _ (.int .i64 0) (heap_setCell_same _ w.heap.size 0 _ _ (.int .i64 0) HB4.out)
    have z0 := cell_of hb5 0
    have z1 := cell_of hb5 1
    simp at z0 z1
    refine bodyPost_ret (v := faultV ((q : Int), 0, 0)) (by simp [results, Tryd.results20, go_sem, faultV, z0, z1]) rfl ⟨rfl, (HC4.out.put (Nat.le_refl _) 0 _).put (Nat.le_refl _) 1 _⟩
end Go.Proofs.YtphchggabcbfkaaDoor
