/- The fingerprint's bytes. -/
import Derived.Test.YtphchggabcbfkaaDoorFnv
import Derived.Test.YtphchggabcbfkaaDoorSince
namespace Go.Proofs.YtphchggabcbfkaaDoor
open Go.RowKit
set_option linter.unusedSimpArgs false

theorem fnv0_lt : fnv0 < 18446744073709551616 := by unfold fnv0; omega
set_option maxHeartbeats 400000 in
theorem more_any (w : World) (s : Nat) (hs : s < 18446744073709551616) (A : Option Addr) (n c : Nat) (xs : List UInt8) (h : Bs w A n xs) (hn : n ≤ 140737488351232) :
    Calls Tryd.prog 13 #[.int .u64 (s : Int), .slice A n c] w fun e w' => e = .returned (.int .u64 (fnv s xs : Int)) ∧ w = w' := by
  have HC := Lib.hid (through_any w s hs A n c xs h hn)
  clear h
  go_enter Tryd.func13, Tryd.ntmps13
  go_wp2_with (go_at_call 26; refine HC.out.mono ?_; rintro e w1 ⟨rfl, rfl⟩)
  go_ret
  exact ⟨rfl, rfl⟩
set_option maxHeartbeats 400000 in
theorem sum_any (w : World) (A : Option Addr) (n c : Nat) (xs : List UInt8) (h : Bs w A n xs) (hn : n ≤ 140737488351232) :
    Calls Tryd.prog 11 #[.slice A n c] w fun e w' => e = .returned (.int .u64 (fnvS xs : Int)) ∧ w = w' := by
  have hc := more_any w fnv0 fnv0_lt A n c xs h hn
  change Calls _ _ _ _ (fun e w' => e = .returned (.int .u64 (fnvS xs : Int)) ∧ w = w') at hc
  have HC := Lib.hid hc
  clear h hc
  generalize fnvS xs = S at *
  go_enter Tryd.func11, Tryd.ntmps11
  go_wp2_with (go_at_call 13; refine HC.out.mono ?_; rintro e w1 ⟨rfl, rfl⟩)
  go_ret
  exact ⟨rfl, rfl⟩

/-- A fingerprint's bytes. -/
def sumB (xs : List UInt8) : List UInt8 := be 8 (fnvS xs)
theorem sumB_len (xs : List UInt8) : (sumB xs).length = 8 := be_len _ _
theorem sumB_take (n k : Nat) (h : k < 8) : (be 8 n).take (k + 1) = (be 8 n).take k ++ [UInt8.ofNat (n / 256 ^ (7 - k))] := by
  rcases k with _ | _ | _ | _ | _ | _ | _ | _ | k
  all_goals first | omega | simp [be]

/-- Bytes of one's own behind which something was written. -/
theorem app_fresh {w wr w1 : World} {A A' : Option Addr} {c' : Nat} {o : Obj} {zs : List UInt8} (own1 : OwnB w1 A' c' zs) (f2 : ∀ a, A = some a → w.heap.size ≤ a.block) (hc : Chg [] w wr) (hg1 : (wr.alloc o).grownBy w1 (A.map (·.block)))
    (hA1 : A' = A ∨ A' = some ⟨(wr.alloc o).heap.size, 0, none⟩) : Fresh w w1 A' c' zs := by
  have hs := hc.size
  refine ⟨own1, ?_, (hc.alloc _).grown hg1 (fun k hk => ?_)⟩
  · rintro a rfl
    rcases hA1 with h | h
    · exact f2 a h.symm
    · cases h; simp; omega
  · cases A with
    | none => cases hk
    | some a => simp at hk; subst hk; exact .inr (f2 a rfl)

end Go.Proofs.YtphchggabcbfkaaDoor
