/- print is awake: layer 2. -/
import Derived.Test.YtphchggabcbfkaaDoorText
import Derived.Test.YtphchggabcbfkaaDoorMix
import Derived.Test.YtphchggabcbfkaaDoorFsum
import Derived.Test.YtphchggabcbfkaaDoorKit
import Derived.Lib.SlBytesConst
namespace Go.Proofs.YtphchggabcbfkaaDoor
open Go.RowKit
set_option linter.unusedSimpArgs false
set_option linter.unusedVariables false

theorem Chg.of_below {w w' : World} (h : Below w.heap.size w w') : Chg [] w w' := ⟨h.os, h.tape, h.output, h.size, fun k hk _ => h.block k hk⟩
theorem U64s.nil (w : World) (A : Option Addr) : U64s w A 0 [] := ⟨rfl, by simp, by simp⟩
set_option maxHeartbeats 400000 in
theorem start_any (w : World) : Calls Tryd.prog 15 #[] w fun e w' => e = .returned (.int .u64 14695981039346656037) ∧ w = w' := by
  go_enter Tryd.func15, Tryd.ntmps15
  go_wp2
  go_ret
  exact ⟨rfl, rfl⟩
def t0 : List UInt8 := [99, 98, 102, 50, 57, 99, 101, 52, 56, 52, 50, 50, 50, 51, 50, 53]
def t6 : List UInt8 := [56, 53, 57, 52, 52, 49, 55, 49, 102, 55, 51, 57, 54, 55, 101, 56]
theorem Bs.lit6 (w : World) : Bs (w.alloc (.cells #[.int .u8 102, .int .u8 111, .int .u8 111, .int .u8 98, .int .u8 97, .int .u8 114] 5 (6, 7))) (some ⟨w.heap.size, 0, none⟩) 6 [102, 111, 111, 98, 97, 114] :=
  ⟨rfl, fun j u hj => ⟨_, rfl, by
    rw [add_zero_lit, cell_of (heap_alloc_new w _) j, ← Array.getElem?_toList, show (#[.int .u8 102, .int .u8 111, .int .u8 111, .int .u8 98, .int .u8 97, .int .u8 114] : Array Value).toList = [102, 111, 111, 98, 97, 114].map bv by rfl, List.getElem?_map, hj]; rfl⟩⟩
theorem text_0 (w : World) (hT : Tab w) : Calls Tryd.prog 22 #[.int .u64 14695981039346656037] w fun e w' => e = .returned (.string ⟨#[99, 98, 102, 50, 57, 99, 101, 52, 56, 52, 50, 50, 50, 51, 50, 53]⟩) ∧ Chg [] w w' := by
  have h := text_ok w 14695981039346656037 (by decide) hT
  have e : strOf (hexs 16 14695981039346656037) = ⟨#[99, 98, 102, 50, 57, 99, 101, 52, 56, 52, 50, 50, 50, 51, 50, 53]⟩ := by decide +kernel
  rw [e] at h
  exact h
theorem text_6 (w : World) (hT : Tab w) : Calls Tryd.prog 22 #[.int .u64 9625390261332436968] w fun e w' => e = .returned (.string ⟨#[56, 53, 57, 52, 52, 49, 55, 49, 102, 55, 51, 57, 54, 55, 101, 56]⟩) ∧ Chg [] w w' := by
  have h := text_ok w 9625390261332436968 (by decide) hT
  have e : strOf (hexs 16 9625390261332436968) = ⟨#[56, 53, 57, 52, 52, 49, 55, 49, 102, 55, 51, 57, 54, 55, 101, 56]⟩ := by decide +kernel
  rw [e] at h
  exact h
theorem sum_nil (w : World) : Calls Tryd.prog 11 #[.slice none 0 0] w fun e w' => e = .returned (.int .u64 14695981039346656037) ∧ w = w' := sum_any w none 0 0 [] (Bs.nil _ _) (by decide)
theorem sum_6 (w : World) : Calls Tryd.prog 11 #[.slice (some ⟨w.heap.size, 0, none⟩) 6 6] (w.alloc (.cells #[.int .u8 102, .int .u8 111, .int .u8 111, .int .u8 98, .int .u8 97, .int .u8 114] 5 (6, 7))) fun e w' =>
    e = .returned (.int .u64 9625390261332436968) ∧ (w.alloc (.cells #[.int .u8 102, .int .u8 111, .int .u8 111, .int .u8 98, .int .u8 97, .int .u8 114] 5 (6, 7))) = w' := by
  have h := sum_any _ _ 6 6 _ (Bs.lit6 w) (by decide)
  have e : fnvS [102, 111, 111, 98, 97, 114] = 9625390261332436968 := by decide +kernel
  rw [e] at h
  exact h
theorem mix_nil (w : World) : Calls Tryd.prog 17 #[.slice none 0 0] w fun e w' => e = .returned (.int .u64 14695981039346656037) ∧ Chg [] w w' :=
  (mix_any w none 0 0 [] (U64s.nil _ _) (by decide)).mono fun e w' h => ⟨h.1, Chg.of_below h.2⟩
set_option maxRecDepth 100000 in
set_option maxHeartbeats 1000000 in
theorem awake2 (w : World) (hT : Tab w) : Calls Tryd.prog 9 #[] w fun e w' => e = .returned (.bool true) ∧ Chg [] w w' := by
  have HT := Lib.hid hT
  clear hT
  have kc := fun (w : World) (C : Array Value) (n c : Nat) => Lib.run_convert_bytes_const (P := Tryd.prog) w 22 5 C n c rfl rfl
  go_enter Tryd.func9, Tryd.ntmps9
  go_wp2_with fail
  refine (sum_nil _).mono ?_
  rintro e w1 ⟨rfl, rfl⟩
  go_wp2_with fail
  refine (text_0 _ HT.out).mono ?_
  rintro e w2 ⟨rfl, c2⟩
  have T2 := Lib.hid (HT.out.chg (c2.alloc (.cells #[.int .u8 102, .int .u8 111, .int .u8 111, .int .u8 98, .int .u8 97, .int .u8 114] 5 (6, 7))))
  have C2 := Lib.hid (c2.alloc (.cells #[.int .u8 102, .int .u8 111, .int .u8 111, .int .u8 98, .int .u8 97, .int .u8 114] 5 (6, 7)))
  clear c2
  go_wp2_with fail
  refine (sum_6 _).mono ?_
  rintro e w3 ⟨rfl, rfl⟩
  go_wp2_with fail
  refine (text_6 _ T2.out).mono ?_
  rintro e w4 ⟨rfl, c4⟩
  have C4 := Lib.hid (C2.out.trans c4)
  clear c4
  go_wp2_with fail
  refine (mix_nil _).mono ?_
  rintro e w5 ⟨rfl, c5⟩
  have C5 := Lib.hid (C4.out.trans c5)
  clear c5
  go_wp2_with fail
  refine (start_any _).mono ?_
  rintro e w6 ⟨rfl, rfl⟩
  go_wp2
  go_ret
  exact ⟨rfl, C5.out⟩
end Go.Proofs.YtphchggabcbfkaaDoor
