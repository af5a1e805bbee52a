/- PrintKnown: the chapter's examples. -/
import Derived.Test.YtphchggabcbfkaaDoorParse2
namespace Go.Proofs.YtphchggabcbfkaaDoor
open Go.RowKit
set_option linter.unusedSimpArgs false
set_option linter.unusedVariables false

theorem Bs.lits_ (w : World) (C : Array Value) (fr : Nat × Nat) (xs : List UInt8) (h : C.toList = xs.map bv) : Bs (w.alloc (.cells C 5 fr)) (some ⟨w.heap.size, 0, none⟩) xs.length xs :=
  ⟨rfl, fun j u hj => ⟨_, rfl, by
    rw [add_zero_lit, cell_of (heap_alloc_new w (.cells C 5 fr)) j, ← Array.getElem?_toList, h, List.getElem?_map, hj]; rfl⟩⟩
theorem Us.one (w : World) (u : Nat) (hu : u < 18446744073709551616) : Us (w.alloc (.cells #[.int .u64 (u : Int)] 23)) (some ⟨w.heap.size, 0, none⟩) 1 [u] := by
  refine ⟨rfl, fun j v hj => ⟨_, rfl, ?_⟩, by simpa using hu⟩
  have hj0 : j = 0 := by have := (List.getElem?_eq_some_iff.1 hj).1; simp at this; omega
  subst hj0
  simp at hj
  subst hj
  rw [add_zero_lit, cell_of (heap_alloc_new w _) 0]
  rfl
theorem parse_nil (w : World) : Calls Tryd.prog 20 #[.string ⟨#[]⟩] w fun e w' => e = .returned (.tuple #[.int .u64 0, .agg #[.int .i64 4, .int .i64 0]]) ∧ Chg [] w w' := by
  have h := parse_any w ⟨#[]⟩ (by decide)
  have e : parseR (⟨#[]⟩ : ByteArray).data.toList = (0, 4, 0) := by decide +kernel
  rw [e] at h
  exact h
theorem parse_odd (w : World) : Calls Tryd.prog 20 #[.string (strOf [71, 71, 71, 71, 71, 71, 71, 71, 71, 71, 71, 71, 71, 71, 71, 71])] w fun e w' => e = .returned (.tuple #[.int .u64 0, .agg #[.int .i64 2, .int .i64 0]]) ∧ Chg [] w w' := by
  have h := parse_any w (strOf (List.replicate 16 71)) (by decide)
  have e : parseR (strOf (List.replicate 16 71)).data.toList = (0, 2, 0) := by decide +kernel
  rw [e] at h
  exact h
theorem parse_long (w : World) : Calls Tryd.prog 20 #[.string (strOf [48, 48, 48, 48, 48, 48, 48, 48, 48, 48, 48, 48, 48, 48, 48, 48, 48])] w fun e w' => e = .returned (.tuple #[.int .u64 0, .agg #[.int .i64 4, .int .i64 16]]) ∧ Chg [] w w' := by
  have h := parse_any w (strOf (List.replicate 17 48)) (by decide)
  have e : parseR (strOf (List.replicate 17 48)).data.toList = (0, 4, 16) := by decide +kernel
  rw [e] at h
  exact h
theorem sum_a (w : World) (p : Nat) (hp : p = w.heap.size) : Calls Tryd.prog 11 #[.slice (some ⟨p, 0, none⟩) 1 1] (w.alloc (.cells #[.int .u8 97] 5 (1, 2))) fun e w' =>
    e = .returned (.int .u64 12638187200555641996) ∧ (w.alloc (.cells #[.int .u8 97] 5 (1, 2))) = w' := by
  subst hp
  have h := sum_any _ _ 1 1 _ (Bs.lits_ w #[.int .u8 97] (1, 2) [97] rfl) (by decide)
  have e : fnvS [97] = 12638187200555641996 := by decide +kernel
  rw [e] at h
  exact h
theorem text_a (w : World) (hT : Tab w) : Calls Tryd.prog 22 #[.int .u64 12638187200555641996] w fun e w' => e = .returned (.string ⟨#[97, 102, 54, 51, 100, 99, 52, 99, 56, 54, 48, 49, 101, 99, 56, 99]⟩) ∧ Chg [] w w' := by
  have h := text_ok w 12638187200555641996 (by decide) hT
  have e : strOf (hexs 16 12638187200555641996) = ⟨#[97, 102, 54, 51, 100, 99, 52, 99, 56, 54, 48, 49, 101, 99, 56, 99]⟩ := by decide +kernel
  rw [e] at h
  exact h
theorem mix_a (w : World) : Calls Tryd.prog 17 #[.slice (some ⟨w.heap.size, 0, none⟩) 1 1] (w.alloc (.cells #[.int .u64 97] 23)) fun e w' =>
    e = .returned (.int .u64 12161996297902648946) ∧ Chg [] (w.alloc (.cells #[.int .u64 97] 23)) w' := by
  have h := mix_any _ _ 1 1 _ (Us.one w 97 (by decide)) (by decide)
  have e : fnvS (mixB [97]) = 12161996297902648946 := by decide +kernel
  rw [e] at h
  exact h.mono fun e w' h => ⟨h.1, Chg.of_below h.2⟩
theorem sum_8 (w : World) : Calls Tryd.prog 11 #[.slice (some ⟨w.heap.size, 0, none⟩) 8 8] (w.alloc (.cells #[.int .u8 0, .int .u8 0, .int .u8 0, .int .u8 0, .int .u8 0, .int .u8 0, .int .u8 0, .int .u8 97] 5)) fun e w' =>
    e = .returned (.int .u64 12161996297902648946) ∧ (w.alloc (.cells #[.int .u8 0, .int .u8 0, .int .u8 0, .int .u8 0, .int .u8 0, .int .u8 0, .int .u8 0, .int .u8 97] 5)) = w' := by
  have h := sum_any _ _ 8 8 _ (Bs.lits_ w #[.int .u8 0, .int .u8 0, .int .u8 0, .int .u8 0, .int .u8 0, .int .u8 0, .int .u8 0, .int .u8 97] (0, 0) [0, 0, 0, 0, 0, 0, 0, 97] rfl) (by decide)
  have e : fnvS [0, 0, 0, 0, 0, 0, 0, 97] = 12161996297902648946 := by decide +kernel
  rw [e] at h
  exact h
theorem rep_more (k : Nat) (c : UInt8) : strOf (List.replicate k c) ++ ⟨#[c]⟩ = strOf (List.replicate (k + 1) c) := by
  have := strOf_app (List.replicate k c) [c]
  rw [List.replicate_succ']
  exact this
set_option maxRecDepth 100000 in
set_option maxHeartbeats 2000000 in
theorem known_true (w : World) (hT : Tab w) : Calls Tryd.prog 5 #[] w fun r w' => r = .returned (.bool true) ∧ Chg [] w w' := by
  have HT := Lib.hid hT
  clear hT
  have kc := fun (w : World) (C : Array Value) (n c : Nat) => Lib.run_convert_bytes_const (P := Tryd.prog) w 22 5 C n c rfl rfl
  have kc2 : ∀ (w : World) (o : Obj) (C : Array Value) (n c : Nat), (convert 22 22 (.slice (some ⟨w.heap.size + 1, 0, none⟩) n c)).run Tryd.prog ((w.alloc o).alloc (.cells C 5)) = .ok (.slice (some ⟨w.heap.size + 1, 0, none⟩) n c) ((w.alloc o).alloc (.cells C 5 (C.size, C.size + 1))) := fun w o C n c => by
    have := kc (w.alloc o) C n c
    rwa [World.size_alloc] at this
  clear kc
  go_enter Tryd.func5, Tryd.ntmps5
  go_wp2
  go_loop [1, 2, 3] (fun o l i => ∃ k : Nat, k ≤ 17 ∧ i = .int .i64 k ∧ l = .string (strOf (List.replicate k 48)) ∧ o = .string (strOf (List.replicate (min k 16) 71))) (fun _ _ i => 17 - (intOf i).toNat)
  case atStart => exact ⟨0, by omega, rfl, rfl, rfl⟩
  case round =>
    obtain ⟨k, hk, rfl, rfl, rfl⟩ := hrel
    have z1 : (strOf (List.replicate k 48)).size = k := by rw [strOf_size, List.length_replicate]
    have z2 : (strOf (List.replicate (min k 16) 71)).size = min k 16 := by rw [strOf_size, List.length_replicate]
    have a1 := rep_more k 48
    refine (Decidable.em (k < 16)).elim (fun h1 => ?both) (fun h1 => (Decidable.em (k < 17)).elim (fun h2 => ?one) (fun h2 => ?none))
    case both =>
      rw [show min k 16 = k by omega] at z2 ⊢
      have a2 := rep_more k 71
      go_wp2
      go_round
      case rel => exact ⟨k + 1, by omega, by go_num, rfl, by rw [show min (k + 1) 16 = k + 1 by omega]⟩
      case measure => simp [intOf]; omega
    case one =>
      obtain rfl : k = 16 := by omega
      go_wp2
      go_round
      case rel => exact ⟨17, by omega, rfl, rfl, rfl⟩
      case measure => simp [intOf]
    case none =>
      obtain rfl : k = 17 := by omega
      go_wp2_with fail
      refine (parse_nil _).mono ?_
      rintro r w1 ⟨rfl, c1⟩
      have C1 := Lib.hid (c1.alloc (.cells #[.int .i64 4, .int .i64 0] 35))
      have B1 := Lib.hid (heap_alloc_new w1 (.cells #[.int .i64 4, .int .i64 0] 35))
      clear c1
      go_wp2_with fail
      refine (parse_odd _).mono ?_
      rintro r w2 ⟨rfl, c2⟩
      have C2 := Lib.hid ((C1.out.trans c2).alloc (.cells #[.int .i64 2, .int .i64 0] 35))
      have A2 := Lib.hid ((c2.alloc (.cells #[.int .i64 2, .int .i64 0] 35)).at_ B1.out (by simp))
      have B2 := Lib.hid (heap_alloc_new w2 (.cells #[.int .i64 2, .int .i64 0] 35))
      clear c2 B1 C1
      go_wp2_with fail
      refine (parse_long _).mono ?_
      rintro r w3 ⟨rfl, c3⟩
      have C3 := Lib.hid ((C2.out.trans c3).alloc (.cells #[.int .i64 4, .int .i64 16] 35))
      have A3 := Lib.hid ((c3.alloc (.cells #[.int .i64 4, .int .i64 16] 35)).at_ A2.out (by simp))
      have D3 := Lib.hid ((c3.alloc (.cells #[.int .i64 4, .int .i64 16] 35)).at_ B2.out (by simp))
      have B3 := Lib.hid (heap_alloc_new w3 (.cells #[.int .i64 4, .int .i64 16] 35))
      clear c3 A2 B2 C2
      go_wp2_with fail
      refine (sum_a _ _ (World.size_alloc _ _).symm).mono ?_
      rintro r w4 ⟨rfl, rfl⟩
      go_wp2_with fail
      refine (text_a _ ((HT.out.chg C3.out).chg ((Chg.refl [] _).alloc _))).mono ?_
      rintro r w5 ⟨rfl, c5⟩
      have c5' := ((Chg.refl [] _).alloc _).trans c5
      have C5 := Lib.hid (C3.out.trans c5')
      have A5 := Lib.hid (c5'.at_ A3.out (by simp))
      have D5 := Lib.hid (c5'.at_ D3.out (by simp))
      have B5 := Lib.hid (c5'.at_ B3.out (by simp))
      clear c5 c5' A3 D3 B3 C3
      go_wp2_with fail
      refine (mix_a _).mono ?_
      rintro r w6 ⟨rfl, c6⟩
      have c6' := (((Chg.refl [] _).alloc _).trans c6).alloc (.cells #[.int .u8 0, .int .u8 0, .int .u8 0, .int .u8 0, .int .u8 0, .int .u8 0, .int .u8 0, .int .u8 97] 5)
      have C6 := Lib.hid (C5.out.trans c6')
      have A6 := Lib.hid (c6'.at_ A5.out (by simp))
      have D6 := Lib.hid (c6'.at_ D5.out (by simp))
      have B6 := Lib.hid (c6'.at_ B5.out (by simp))
      clear c6 c6' A5 D5 B5 C5
      go_wp2_with fail
      refine (sum_8 _).mono ?_
      rintro r w7 ⟨rfl, rfl⟩
      go_wp2_with fail
      refine (awake2 _ (HT.out.chg C6.out)).mono ?_
      rintro r w8 ⟨rfl, c8⟩
      have C8 := Lib.hid (C6.out.trans c8)
      have a8 := c8.at_ A6.out (by simp)
      have d8 := c8.at_ D6.out (by simp)
      have b8 := c8.at_ B6.out (by simp)
      have k1 := cell_of a8 0
      have k2 := cell_of a8 1
      have k3 := cell_of d8 0
      have k4 := cell_of d8 1
      have k5 := cell_of b8 0
      have k6 := cell_of b8 1
      simp at k1 k2 k3 k4 k5 k6
      clear a8 d8 b8 c8
      go_wp2
      go_ret
      exact ⟨rfl, C8.out⟩
end Go.Proofs.YtphchggabcbfkaaDoor
