/- strings.SplitSeq at the byte 47: what its iterator hands over. -/
import Derived.Test.YtibdeiahmgkbhaaDoorPhpure
import Derived.Test.YtibdeiahmgkbhaaDoorTextk
import Derived.Test.YtibdeiahmgkbhaaDoorShelf
import Derived.Test.YtibdeiahmgkbhaaDoorRangeb
import Derived.Shelf.Strings.Search3
import Derived.Deep.QuietTactic
import Derived.BigQuiet
namespace Go.Proofs.YtibdeiahmgkbhaaDoor
open Go.RowKit
set_option linter.unusedSimpArgs false
set_option linter.unusedVariables false
attribute [local go_sem] Oper.semAt_some

theorem idx_no : ∀ (l : List UInt8), 47 ∉ l → Lib.indexByte l 47 = -1
  | [], _ => rfl
  | b :: l, h => by
    simp only [List.mem_cons, not_or] at h
    have hb : (b == 47) = false := by simpa using fun e => h.1 e.symm
    simp [Lib.indexByte, hb, idx_no l h.2]
theorem idx_at : ∀ (a b : List UInt8), 47 ∉ a → Lib.indexByte (a ++ 47 :: b) 47 = (a.length : Int)
  | [], b, _ => by simp [Lib.indexByte]
  | x :: a, b, h => by
    simp only [List.mem_cons, not_or] at h
    have hb : (x == 47) = false := by simpa using fun e => h.1 e.symm
    have := idx_at a b h.2
    simp only [List.cons_append, Lib.indexByte, hb, this]
    have h2 : ((a.length : Int) == -1) = false := by simp
    simp [h2]
theorem at47 (l : List UInt8) : 47 ∉ l ∨ ∃ a b, l = a ++ 47 :: b ∧ 47 ∉ a := by
  by_cases h : 47 ∈ l
  · right
    induction l with
    | nil => simp at h
    | cons x l ih =>
      by_cases hx : x = 47
      · subst hx; exact ⟨[], l, rfl, by simp⟩
      · have : 47 ∈ l := by
          rcases List.mem_cons.1 h with h | h
          · exact absurd h.symm hx
          · exact h
        obtain ⟨a, b, e, ha⟩ := ih this
        refine ⟨x :: a, b, by rw [e]; rfl, ?_⟩
        simp only [List.mem_cons, not_or]
        exact ⟨fun e => hx e.symm, ha⟩
  · exact .inl h
theorem index_no (w : World) (l : List UInt8) (h : 47 ∉ l) : Calls Tryd.prog 67 #[.string (strOf l), .string ⟨#[47]⟩] w fun e w' => e = .returned (.int .i64 (-1)) ∧ w' = w := by
  refine (Any.strings_Index_one Tryd.lays143 (strOf l) 47 w).mono ?_
  rintro e w' ⟨rfl, rfl⟩
  rw [strOf_data, idx_no l h]
  exact ⟨rfl, rfl⟩
theorem index_at (w : World) (a b : List UInt8) (h : 47 ∉ a) : Calls Tryd.prog 67 #[.string (strOf (a ++ 47 :: b)), .string ⟨#[47]⟩] w fun e w' => e = .returned (.int .i64 (a.length : Int)) ∧ w' = w := by
  refine (Any.strings_Index_one Tryd.lays143 (strOf (a ++ 47 :: b)) 47 w).mono ?_
  rintro e w' ⟨rfl, rfl⟩
  rw [strOf_data, idx_at a b h]
  exact ⟨rfl, rfl⟩
set_option maxRecDepth 100000 in
set_option maxHeartbeats 2000000 in
theorem split1_gives (n : Nat) (l n₁ bs bp bv : Nat) (T : List Nat) (xs : List UInt8) (hlen : xs.length ≤ 140737488351232)
    (J Jx : List (List UInt8) → World → Prop) (W : World) (hs1 : bs < n₁) (hp1 : bp < n₁) (hv1 : bv < n₁) (hsp : bs ≠ bp) (hsv : bs ≠ bv) (hTs : bs ∉ T) (hTp : bp ∉ T) (hTv : bv ∉ T) (hn₁ : n₁ ≤ W.heap.size)
    (hJ : ∀ pre A B, J pre A → Kpt W.heap.size [bs] A B → J pre B)
    (hY : ∀ pre x W1, J pre W1 → (pre ++ [x]) <+: cutL xs → YieldAt Fence.wide n Tryd.prog l #[.string (strOf x)] W1 fun e W' => (e = .returned (.bool true) ∧ J (pre ++ [x]) W' ∧ Kpt n₁ T W1 W') ∨ (e = .returned (.bool false) ∧ Jx (pre ++ [x]) W'))
    (hp : W.cell? ⟨bp, 0, none⟩ = some (.string ⟨#[47]⟩)) (hs : W.heap[bs]? = some (.cells #[.string (strOf xs)] 9 (0, 0))) (hv : W.cell? ⟨bv, 0, none⟩ = some (.int .i64 0)) (h0 : J [] W) :
    CallsIn Fence.wide (n + 1) Tryd.prog 72 #[.func (.yield l) #[] #[], .pointer (some ⟨bp, 0, none⟩), .pointer (some ⟨bs, 0, none⟩), .pointer (some ⟨bv, 0, none⟩)] W fun e W' => (∃ v, e = .returned v) ∧ ((∃ ys, ys = cutL xs ∧ J ys W') ∨ ∃ ys, True ∧ Jx ys W') := by
  have h1 : 1 ≤ n + 1 := by omega
  have hro : Fence.wide.round = none := rfl
  refine callsIn_of_wp Tryd.func72 rfl trivial ?_ hro
  simp only [Tryd.ntmps72, List.size_toArray, List.length_cons, List.length_nil, Nat.reduceAdd, Nat.reduceSub, Array.replicate_succ, Array.replicate_zero, List.push_toArray, List.append_toArray, List.nil_append, List.cons_append]
  gi_wp2
  gi_loopw [7, 8] (fun v7 v8 wr => ∃ (pre : List (List UInt8)) (rest : List UInt8), pre ++ cutA [] rest = cutL xs ∧ rest.length ≤ xs.length ∧ wr.heap[bs]? = some (.cells #[.string (strOf rest)] 9 (0, 0)) ∧ J pre wr ∧ Kpt n₁ (bs :: T) W wr)
    (fun _ _ wr => match wr.cell? ⟨bs, 0, none⟩ with | some (.string s) => s.size | _ => 0)
  case atStart => exact ⟨[], xs, rfl, Nat.le_refl _, hs, h0, Kpt.refl _ _ _⟩
  case round =>
    obtain ⟨pre, rest, hcut, hrl, hcell, hJs, hk⟩ := hrel
    have hbs := lt_of_heap hcell
    have cs := cell_of hcell 0
    simp only [List.getElem?_toArray, List.getElem?_cons_zero] at cs
    have cf := free_of hcell 0
    have cp := ((by rw [World.cell?, World.cell?, hk.block bp hp1 (by simp; exact ⟨fun e => hsp e.symm, hTp⟩)] : wr.cell? ⟨bp, 0, none⟩ = W.cell? ⟨bp, 0, none⟩)).trans hp
    have cv := ((by rw [World.cell?, World.cell?, hk.block bv hv1 (by simp; exact ⟨fun e => hsv e.symm, hTv⟩)] : wr.cell? ⟨bv, 0, none⟩ = W.cell? ⟨bv, 0, none⟩)).trans hv
    rcases at47 rest with hno | ⟨a, b, rfl, hno⟩
    · -- the last piece
      rw [cutA_no _ _ hno, List.nil_append] at hcut
      obtain ⟨fn, tmps, assign, body, hy, hR⟩ := hY pre rest wr hJs (by rw [hcut]; exact List.prefix_refl _)
      gi_wp2_with (refine ⟨trivial, ?_⟩; gi_at_call 67; refine (callsIn_wide.2 (index_no _ rest hno)).mono ?_; rintro e w1 ⟨rfl, rfl⟩)
      refine hR.mono ?_
      rintro e W3 (⟨rfl, hJ3, hk3⟩ | ⟨rfl, hx⟩)
      · gi_wp2
        go_end0
        exact ⟨⟨_, rfl⟩, .inl ⟨_, hcut, hJ3⟩⟩
      · gi_wp2
        go_end0
        exact ⟨⟨_, rfl⟩, .inr ⟨_, trivial, hx⟩⟩
    · -- a piece, and more behind it
      rw [cutA_at _ _ _ hno, List.nil_append] at hcut
      obtain ⟨fn, tmps, assign, body, hy, hR⟩ := hY pre a wr hJs ⟨cutA [] b, by rw [← hcut]; simp⟩
      have ez : (strOf (a ++ 47 :: b)).size = a.length + 1 + b.length := by rw [strOf_size]; simp; omega
      have hrl' : a.length + 1 + b.length ≤ xs.length := by rw [← strOf_size, ez] at hrl; exact hrl
      have i0 : (0 : Int) ≤ (a.length : Int) := by omega
      have i4 : a.length + 1 ≤ 140737488351232 := by omega
      have i1 : ¬ ((a.length : Int) < 0) := by omega
      have i2 : (a.length : Int) ≤ ((strOf (a ++ 47 :: b)).size : Int) := by rw [ez]; omega
      have i3 : (a.length : Int) + 1 ≤ ((strOf (a ++ 47 :: b)).size : Int) := by rw [ez]; omega
      have e1 : (strOf (a ++ 47 :: b)).extract 0 a.length = strOf a := by rw [strOf_ext]; simp
      have e2 : (strOf (a ++ 47 :: b)).extract (a.length + 1) (strOf (a ++ 47 :: b)).size = strOf b := by
        rw [strOf_ext, ez]
        congr 1
        rw [show (a ++ 47 :: b).drop (a.length + 1) = b by rw [show a ++ 47 :: b = (a ++ [47]) ++ b by simp]; exact List.drop_left' (by simp)]
        exact List.take_of_length_le (by omega)
      gi_wp2_with (refine ⟨trivial, ?_⟩; gi_at_call 67; refine (callsIn_wide.2 (index_at _ a b hno)).mono ?_; rintro e w1 ⟨rfl, rfl⟩)
      refine hR.mono ?_
      rintro e W3 (⟨rfl, hJ3, hk3⟩ | ⟨rfl, hx⟩)
      · have hc3 : W3.heap[bs]? = some (.cells #[.string (strOf (a ++ 47 :: b))] 9 (0, 0)) := (hk3.block bs hs1 hTs).trans hcell
        have cs3 := cell_of hc3 0
        simp only [List.getElem?_toArray, List.getElem?_cons_zero] at cs3
        have cf3 := free_of hc3 0
        have cp3 : W3.cell? ⟨bp, 0, none⟩ = some (.string ⟨#[47]⟩) := ((by rw [World.cell?, World.cell?, hk3.block bp hp1 hTp] : W3.cell? ⟨bp, 0, none⟩ = w1.cell? ⟨bp, 0, none⟩)).trans cp
        have e3 : (W3.setCell ⟨bs, 0, none⟩ (.string (strOf b))).heap[bs]? = some (.cells #[.string (strOf b)] 9 (0, 0)) := by simpa using heap_setCell_same W3 bs 0 _ _ (.string (strOf b)) hc3
        have E2 := Lib.hid (show (strOf (a ++ 47 :: b)).extract (a.length + 1) (a.length + 1 + b.length) = strOf b by rw [← ez]; exact e2)
        have K3 := Lib.hid hc3
        have JJ := Lib.hid (hJ _ _ (W3.setCell ⟨bs, 0, none⟩ (.string (strOf b))) hJ3 (Kpt.of_chg ((Chg.refl [bs] W3).setCell (p := ⟨bs, 0, none⟩) (.inl (by simp)) _) (by have := hk.size; have := hk3.size; omega)))
        clear hc3
        gi_wp2
        go_roundw
        case rel =>
          rw [E2.out]
          exact ⟨pre ++ [a], b, by rw [← hcut]; simp, by omega, e3, JJ.out, (hk.trans (hk3.mono (Nat.le_refl _) (fun x h => List.mem_cons_of_mem _ h))).trans (Kpt.of_chg ((Chg.refl [bs] W3).setCell (p := ⟨bs, 0, none⟩) (.inl (by simp)) _) (by have := hk.size; have := hk3.size; omega) |>.mono (Nat.le_refl _) (by simp))⟩
        case measure =>
          have e4 := cell_of e3 0
          simp only [List.getElem?_toArray, List.getElem?_cons_zero] at e4
          rw [E2.out, e4, cs]
          show (strOf b).size < (strOf (a ++ 47 :: b)).size
          rw [strOf_size, ez]
          omega
      · gi_wp2
        refine bodyPost_ret (results_none rfl _ _ _) rfl ?_
        exact ⟨⟨_, rfl⟩, .inr ⟨_, trivial, hx⟩⟩
end Go.Proofs.YtibdeiahmgkbhaaDoor
