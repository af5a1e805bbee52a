/- cmp.Compare at int, bytes.Compare, cmp.Or at three ints. -/
import Derived.Test.YtbihcoidbfoaoaaBase
import Derived.Lib.BytesEntry
namespace Go.Proofs.Ytbihcoidbfoaoaa
open Go.RowKit

/-- Which of two numbers is less: -1, 0, 1. -/
def cmpI (a b : Int) : Int := if a < b then -1 else if b < a then 1 else 0

set_option maxHeartbeats 400000 in
theorem isnan_any (x : Int) (w : World) : Calls Try.prog 65 #[.int .i64 x] w fun e w' => e = .returned (.bool false) ∧ w = w' := by
  have h : (x != x) = false := by simp
  go_enter Try.func65, Try.ntmps65
  go_wp2
  go_ret
  exact ⟨rfl, rfl⟩
set_option maxHeartbeats 400000 in
theorem cmpint_any (a b : Int) (w : World) : Calls Try.prog 56 #[.int .i64 a, .int .i64 b] w fun e w' => e = .returned (.int .i64 (cmpI a b)) ∧ w = w' := by
  unfold cmpI
  rcases Int.lt_trichotomy a b with h | h | h
  · rw [if_pos h]
    go_enter Try.func56, Try.ntmps56
    go_wp2_with (go_at_call 65; refine (isnan_any _ _).mono ?_; rintro e w' ⟨rfl, rfl⟩)
    go_ret
    exact ⟨rfl, rfl⟩
  · subst h
    rw [if_neg (by omega), if_neg (by omega)]
    go_enter Try.func56, Try.ntmps56
    go_wp2_with (go_at_call 65; refine (isnan_any _ _).mono ?_; rintro e w' ⟨rfl, rfl⟩)
    go_ret
    exact ⟨rfl, rfl⟩
  · rw [if_neg (by omega), if_pos h]
    have h' : ¬ a < b := by omega
    go_enter Try.func56, Try.ntmps56
    go_wp2_with (go_at_call 65; refine (isnan_any _ _).mono ?_; rintro e w' ⟨rfl, rfl⟩)
    go_ret
    exact ⟨rfl, rfl⟩

/-- What the model's reader of bytes reads. -/
theorem run_loadBs (w : World) {A : Option Addr} {n c : Nat} {xs : List UInt8} (h : Bs w A n xs) :
    (Extern.Bytes.bytesOf (.slice A n c)).run Try.prog w = .ok ⟨xs.toArray⟩ w := by
  have hl := h.len
  subst hl
  rcases A with _ | a
  · have hx : xs = [] := by
      cases xs with
      | nil => rfl
      | cons y ys => obtain ⟨a, h, _⟩ := h.cells 0 y rfl; cases h
    subst hx
    simp [Extern.Bytes.bytesOf]
    rfl
  · have e := Lib.run_loadBytesX (P := Try.prog) w (xs.map (fun c => (c.toNat : Int))) a .empty (fun j x hj => by
      rw [List.getElem?_map, Option.map_eq_some_iff] at hj
      obtain ⟨c, hc, rfl⟩ := hj
      obtain ⟨a', ea, h2⟩ := h.cells j c hc
      cases ea
      exact h2)
    rw [List.length_map] at e
    have eb : Lib.bytesOf (xs.map (fun c => (c.toNat : Int))) = xs := by
      unfold Lib.bytesOf
      rw [List.map_map]
      have : ((fun n : Int => UInt8.ofNat n.toNat) ∘ fun c : UInt8 => (c.toNat : Int)) = id := by
        funext c
        simp
      rw [this, List.map_id]
    rw [eb] at e
    show (Extern.Bytes.loadBytes a xs.length .empty).run Try.prog w = _
    rw [e]
    congr 1
    apply ByteArray.ext
    show (#[] : Array UInt8) ++ xs.toArray = xs.toArray
    simp

theorem run_bcmp (w : World) {A B : Option Addr} {n m c d : Nat} {xs ys : List UInt8} (h : Bs w A n xs) (k : Bs w B m ys) :
    (callFunc 66 #[.slice A n c, .slice B m d]).run Try.prog w = .ok (.value (.int .i64 (Lib.compareBytes xs ys))) w := by
  rw [run_callFunc_extern (e := Extern.BytealgCompare.compare) Try.func66 (by kernel_rfl) (by kernel_rfl) (by kernel_rfl) (by kernel_rfl)]
  have e : (Extern.BytealgCompare.compare #[.slice A n c, .slice B m d]).run Try.prog w = .ok (.int .i64 (Lib.compareBytes xs ys)) w := by
    change Sem.run Try.prog (do pure (goInt (Extern.BytealgCompare.cmp (← Extern.Bytes.bytesOf (.slice A n c)) (← Extern.Bytes.bytesOf (.slice B m d))))) w = _
    simp only [Sem.run_bind, run_loadBs w h, run_loadBs w k, Result.andThen, Sem.run_pure]
    rw [Lib.cmp_eq]
    simp [goInt]
  rw [e]
  rfl
set_option maxHeartbeats 400000 in
theorem bcmp_any (w : World) (A B : Option Addr) (n m c d : Nat) (xs ys : List UInt8) (h : Bs w A n xs) (k : Bs w B m ys) :
    Calls Try.prog 57 #[.slice A n c, .slice B m d] w fun e w' => e = .returned (.int .i64 (Lib.compareBytes xs ys)) ∧ w = w' := by
  have e := run_bcmp w (c := c) (d := d) h k
  clear h k
  go_enter Try.func57, Try.ntmps57
  go_wp2
  go_ret
  exact ⟨rfl, rfl⟩

/-- The first of three numbers that is none 0. -/
def or3 (a b c : Int) : Int := if a ≠ 0 then a else if b ≠ 0 then b else c
set_option maxHeartbeats 1000000 in
theorem or3_any (w : World) (g : Nat) (a b c : Int) (h : w.heap[g]? = some (.cells #[.int .i64 a, .int .i64 b, .int .i64 c] 73 (0, 0))) :
    Calls Try.prog 58 #[.slice (some ⟨g, 0, none⟩) 3 3] w fun e w' => e = .returned (.int .i64 (or3 a b c)) ∧ w = w' := by
  have k0 := cell_of h 0
  have k1 := cell_of h 1
  have k2 := cell_of h 2
  simp only [List.getElem?_toArray, List.getElem?_cons_succ, List.getElem?_cons_zero] at k0 k1 k2
  have H := Lib.hid h
  clear h H
  unfold or3
  by_cases ha : a = 0
  · subst ha
    by_cases hb : b = 0
    · subst hb
      by_cases hc : c = 0
      · subst hc
        go_enter Try.func58, Try.ntmps58
        go_wp2
        refine wp_loop_rounds 4 ?_
        rw [rounds_succ]
        go_wp2
        rw [rounds_succ]
        go_wp2
        rw [rounds_succ]
        go_wp2
        rw [rounds_succ]
        go_wp2
        go_ret
        exact ⟨rfl, rfl⟩
      · have hc' : (c != 0) = true := by simpa using hc
        go_enter Try.func58, Try.ntmps58
        go_wp2
        refine wp_loop_rounds 3 ?_
        rw [rounds_succ]
        go_wp2
        rw [rounds_succ]
        go_wp2
        rw [rounds_succ]
        go_wp2
        go_ret
        exact ⟨rfl, rfl⟩
    · have hb' : (b != 0) = true := by simpa using hb
      rw [if_neg (by simp), if_pos hb]
      clear hb
      go_enter Try.func58, Try.ntmps58
      go_wp2
      refine wp_loop_rounds 2 ?_
      rw [rounds_succ]
      go_wp2
      rw [rounds_succ]
      go_wp2
      go_ret
      exact ⟨rfl, rfl⟩
  · have ha' : (a != 0) = true := by simpa using ha
    rw [if_pos ha]
    clear ha
    go_enter Try.func58, Try.ntmps58
    go_wp2
    refine wp_loop_rounds 1 ?_
    rw [rounds_succ]
    go_wp2
    go_ret
    exact ⟨rfl, rfl⟩
end Go.Proofs.Ytbihcoidbfoaoaa
