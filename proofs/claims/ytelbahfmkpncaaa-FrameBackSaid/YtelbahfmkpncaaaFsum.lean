/- The fingerprint's bytes. -/
import Derived.Test.YtelbahfmkpncaaaFnv
import Derived.Test.YtelbahfmkpncaaaSince
namespace Go.Proofs.Ytelbahfmkpncaaa
open Go.RowKit
set_option linter.unusedSimpArgs false

theorem fnv0_lt : fnv0 < 18446744073709551616 := by unfold fnv0; omega
set_option maxHeartbeats 400000 in
theorem more_any (w : World) (s : Nat) (hs : s < 18446744073709551616) (A : Option Addr) (n c : Nat) (xs : List UInt8) (h : Bs w A n xs) (hn : n ≤ 140737488351232) :
    Calls Try.prog 71 #[.int .u64 (s : Int), .slice A n c] w fun e w' => e = .returned (.int .u64 (fnv s xs : Int)) ∧ w = w' := by
  have HC := Lib.hid (through_any w s hs A n c xs h hn)
  clear h
  go_enter Try.func71, Try.ntmps71
  go_wp2_with (go_at_call 75; refine HC.out.mono ?_; rintro e w1 ⟨rfl, rfl⟩)
  go_ret
  exact ⟨rfl, rfl⟩
set_option maxHeartbeats 400000 in
theorem sum_any (w : World) (A : Option Addr) (n c : Nat) (xs : List UInt8) (h : Bs w A n xs) (hn : n ≤ 140737488351232) :
    Calls Try.prog 59 #[.slice A n c] w fun e w' => e = .returned (.int .u64 (fnvS xs : Int)) ∧ w = w' := by
  have hc := more_any w fnv0 fnv0_lt A n c xs h hn
  change Calls _ _ _ _ (fun e w' => e = .returned (.int .u64 (fnvS xs : Int)) ∧ w = w') at hc
  have HC := Lib.hid hc
  clear h hc
  generalize fnvS xs = S at *
  go_enter Try.func59, Try.ntmps59
  go_wp2_with (go_at_call 71; refine HC.out.mono ?_; rintro e w1 ⟨rfl, rfl⟩)
  go_ret
  exact ⟨rfl, rfl⟩

/-- A fingerprint's bytes. -/
def sumB (xs : List UInt8) : List UInt8 := be 8 (fnvS xs)
theorem sumB_len (xs : List UInt8) : (sumB xs).length = 8 := be_len _ _
theorem sumB_take (n k : Nat) (h : k < 8) : (be 8 n).take (k + 1) = (be 8 n).take k ++ [UInt8.ofNat (n / 256 ^ (7 - k))] := by
  rcases k with _ | _ | _ | _ | _ | _ | _ | _ | k
  all_goals first | omega | simp [be]

/-- Bytes of one's own behind which something was written. -/
theorem app_fresh {w wr w1 : World} {A A' : Option Addr} {c' : Nat} {o : Obj} {zs : List UInt8} (own1 : OwnB w1 A' c' zs) (f2 : ∀ a, A = some a → w.heap.size ≤ a.block) (hc : Chg [] w wr) (hg1 : (wr.alloc o).grownBy w1 (A.map (·.block)))
    (hA1 : A' = A ∨ A' = some ⟨(wr.alloc o).heap.size, 0, none⟩) : Fresh w w1 A' c' zs := by
  have hs := hc.size
  refine ⟨own1, ?_, (hc.alloc _).grown hg1 (fun k hk => ?_)⟩
  · rintro a rfl
    rcases hA1 with h | h
    · exact f2 a h.symm
    · cases h; simp; omega
  · cases A with
    | none => cases hk
    | some a => simp at hk; subst hk; exact .inr (f2 a rfl)

set_option maxHeartbeats 1000000 in
theorem pcheck_any (w : World) (A : Option Addr) (n c : Nat) (xs : List UInt8) (h : Bs w A n xs) (hn : n ≤ 140737488351232) :
    Calls Try.prog 36 #[.slice A n c] w fun e w' => ∃ A' c', e = .returned (.slice A' 8 c') ∧ Fresh w w' A' c' (sumB xs) := by
  have HC := Lib.hid (sum_any w A n c xs h hn)
  clear h
  unfold sumB
  have hlt : fnvS xs < 18446744073709551616 := fnv_lt _ _ fnv0_lt
  generalize fnvS xs = S at *
  have hmk : ∀ w, (Instr.makeSlice 22 (.int .i64 0) (.int .i64 8)).run Try.prog w = .ok (.slice (some ⟨w.heap.size, 0, none⟩) 0 8) (w.alloc (.cells #[.int .u8 0, .int .u8 0, .int .u8 0, .int .u8 0, .int .u8 0, .int .u8 0, .int .u8 0, .int .u8 0] 5)) := fun _ => by kernel_rfl
  go_enter Try.func36, Try.ntmps36
  go_wp2_with (go_at_call 59; refine HC.out.mono ?_; rintro e w1 ⟨rfl, rfl⟩)
  have o0 : OwnB (w.alloc (.cells #[.int .u8 0, .int .u8 0, .int .u8 0, .int .u8 0, .int .u8 0, .int .u8 0, .int .u8 0, .int .u8 0] 5)) (some ⟨w.heap.size, 0, none⟩) 8 [] := OwnB.of (full := List.replicate 8 0) (heap_alloc_new w _) (by simp) (by simp [maxLen]) (by simp) (by simp)
  go_loopw [4, 9] (fun s v wr => ∃ (p : List UInt8) (A' : Option Addr) (c' : Nat), p.length ≤ 8 ∧ v = .int .i64 (p.length : Int) ∧ s = .slice A' p.length c' ∧ Fresh w wr A' c' p ∧ p = (be 8 S).take p.length) (fun _ v _ => 8 - (intOf v).toNat)
  case atStart => exact ⟨[], _, 8, by simp, rfl, rfl, ⟨o0, by simp, (Chg.refl _ _).alloc _⟩, rfl⟩
  case round =>
    obtain ⟨p, A1, c1, hk, rfl, rfl, ⟨f1, f2, f3⟩, hp⟩ := hrel
    have F2 := Lib.hid f2
    have HP := Lib.hid hp
    clear f2 hp
    by_cases hz : p.length < 8
    · have ht := sumB_take S p.length hz
      rw [← HP.out] at ht
      have HT := Lib.hid ht
      clear ht
      go_wp2_with (at_builtin; refine wpList_app rfl _ _ rfl rfl (f1.chg ((Chg.refl [] wr).alloc _) (by simp)) rfl rfl (Bs.one wr (UInt8.ofNat (S / 256 ^ (7 - p.length))) _ (u8_shift S (7 - p.length))) (by omega) ?_; intro A' c' w1 own1 hg1 hA1)
      have Hh := Lib.hid (app_fresh own1 F2.out f3 hg1 hA1)
      clear own1 hg1 hA1
      go_roundw
      case rel => exact ⟨p ++ [UInt8.ofNat (S / 256 ^ (7 - p.length))], A', c', by simp; omega, by simp, by simp, Hh.out, by rw [List.length_append]; exact HT.out.symm⟩
      case measure => simp [intOf]; omega
    · go_wp2
      go_ret
      have e8 : p.length = 8 := by omega
      rw [e8, List.take_of_length_le (by rw [be_len]; omega)] at HP
      have := HP.out
      subst this
      rw [e8]
      exact ⟨A1, c1, rfl, f1, F2.out, f3⟩
end Go.Proofs.Ytelbahfmkpncaaa
