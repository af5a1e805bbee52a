/- cmp.Compare at int, bytes.Compare, cmp.Or at three ints. -/
import Derived.Test.YtgafkphhnlifiaaBase
import Derived.Lib.BytesEntry
namespace Go.Proofs.Ytgafkphhnlifiaa
open Go.RowKit

/-- Which of two numbers is less: -1, 0, 1. -/
def cmpI (a b : Int) : Int := if a < b then -1 else if b < a then 1 else 0

set_option maxHeartbeats 400000 in
theorem isnan_any (x : Int) (w : World) : Calls Try.prog 93 #[.int .i64 x] w fun e w' => e = .returned (.bool false) ∧ w = w' := by
  have h : (x != x) = false := by simp
  go_enter Try.func93, Try.ntmps93
  go_wp2
  go_ret
  exact ⟨rfl, rfl⟩
set_option maxHeartbeats 400000 in
theorem cmpint_any (a b : Int) (w : World) : Calls Try.prog 77 #[.int .i64 a, .int .i64 b] w fun e w' => e = .returned (.int .i64 (cmpI a b)) ∧ w = w' := by
  unfold cmpI
  rcases Int.lt_trichotomy a b with h | h | h
  · rw [if_pos h]
    go_enter Try.func77, Try.ntmps77
    go_wp2_with (go_at_call 93; refine (isnan_any _ _).mono ?_; rintro e w' ⟨rfl, rfl⟩)
    go_ret
    exact ⟨rfl, rfl⟩
  · subst h
    rw [if_neg (by omega), if_neg (by omega)]
    go_enter Try.func77, Try.ntmps77
    go_wp2_with (go_at_call 93; refine (isnan_any _ _).mono ?_; rintro e w' ⟨rfl, rfl⟩)
    go_ret
    exact ⟨rfl, rfl⟩
  · rw [if_neg (by omega), if_pos h]
    have h' : ¬ a < b := by omega
    go_enter Try.func77, Try.ntmps77
    go_wp2_with (go_at_call 93; refine (isnan_any _ _).mono ?_; rintro e w' ⟨rfl, rfl⟩)
    go_ret
    exact ⟨rfl, rfl⟩

/-- What the model's reader of bytes reads. -/
theorem run_loadBs (w : World) {A : Option Addr} {n c : Nat} {xs : List UInt8} (h : Bs w A n xs) :
    (Extern.Bytes.bytesOf (.slice A n c)).run Try.prog w = .ok ⟨xs.toArray⟩ w := by
  have hl := h.len
  subst hl
  rcases A with _ | a
  · have hx : xs = [] := by
      cases xs with
      | nil => rfl
      | cons y ys => obtain ⟨a, h, _⟩ := h.cells 0 y rfl; cases h
    subst hx
    simp [Extern.Bytes.bytesOf]
    rfl
  · have e := Lib.run_loadBytesX (P := Try.prog) w (xs.map (fun c => (c.toNat : Int))) a .empty (fun j x hj => by
      rw [List.getElem?_map, Option.map_eq_some_iff] at hj
      obtain ⟨c, hc, rfl⟩ := hj
      obtain ⟨a', ea, h2⟩ := h.cells j c hc
      cases ea
      exact h2)
    rw [List.length_map] at e
    have eb : Lib.bytesOf (xs.map (fun c => (c.toNat : Int))) = xs := by
      unfold Lib.bytesOf
      rw [List.map_map]
      have : ((fun n : Int => UInt8.ofNat n.toNat) ∘ fun c : UInt8 => (c.toNat : Int)) = id := by
        funext c
        simp
      rw [this, List.map_id]
    rw [eb] at e
    show (Extern.Bytes.loadBytes a xs.length .empty).run Try.prog w = _
    rw [e]
    congr 1
    apply ByteArray.ext
    show (#[] : Array UInt8) ++ xs.toArray = xs.toArray
    simp

/-- The first of three numbers that is none 0. -/
def or3 (a b c : Int) : Int := if a ≠ 0 then a else if b ≠ 0 then b else c
end Go.Proofs.Ytgafkphhnlifiaa
