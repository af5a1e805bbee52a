/- The kit's functions on bytes: same, lent, kept, written over. -/
import Derived.Test.YtpgelolchfglbaaWr4
namespace Go.Proofs.Ytpgelolchfglbaa
open Go.RowKit

set_option maxHeartbeats 400000 in
theorem same_any (w : World) (A B : Option Addr) (n m c d : Nat) (xs ys : List UInt8) (h : Bs w A n xs) (k : Bs w B m ys) :
    Calls Try.prog 39 #[.slice A n c, .slice B m d] w fun e w' => e = .returned (.bool (xs == ys)) ∧ w = w' := by
  have h1 := run_str w (c := c) h
  have k1 := run_str w (c := d) k
  go_enter Try.func39, Try.ntmps39
  go_wp2
  go_ret
  exact ⟨rfl, rfl⟩
theorem same_yes (w : World) (A B : Option Addr) (n m c d : Nat) (xs ys : List UInt8) (h : Bs w A n xs) (k : Bs w B m ys) (e : xs = ys) :
    Calls Try.prog 39 #[.slice A n c, .slice B m d] w fun e w' => e = .returned (.bool true) ∧ w = w' := by
  have := same_any w A B n m c d xs ys h k
  rwa [show (xs == ys) = true by simpa using e] at this

/-- The marks that stand behind what is lent. -/
def marks : List UInt8 := [201, 17, 99]
/-- What is lent: bytes at the head of row g, marks behind them. -/
def Lent (w : World) (g : Nat) (xs : List UInt8) : Prop := ∃ full : List UInt8, w.heap[g]? = some (.cells (full.map bv).toArray 5 (0, 0)) ∧ full.take (xs.length + 3) = xs ++ marks

theorem Bs.three (w : World) : Bs (w.alloc (.cells #[.int .u8 201, .int .u8 17, .int .u8 99] 5)) (some ⟨w.heap.size, 0, none⟩) 3 marks := by
  refine ⟨rfl, fun j u hj => ⟨_, rfl, ?_⟩⟩
  have hl := (List.getElem?_eq_some_iff.1 hj).1
  rw [add_zero_lit, cell_of (heap_alloc_new w (.cells #[.int .u8 201, .int .u8 17, .int .u8 99] 5)) j]
  match j, hj, hl with
  | 0, hj, _ => cases hj; rfl
  | 1, hj, _ => cases hj; rfl
  | 2, hj, _ => cases hj; rfl

theorem OwnB.lent {w : World} {A : Option Addr} {c : Nat} {xs : List UInt8} (h : OwnB w A c (xs ++ marks)) : ∃ g, A = some ⟨g, 0, none⟩ ∧ Lent w g xs := by
  rcases h with ⟨_, h, _⟩ | ⟨g, full, rfl, h1, _, _, _, h5⟩
  · simp [marks] at h
  · exact ⟨g, rfl, full, h1, by rw [← h5]; simp [marks]⟩

theorem Lent.reads {w : World} {g : Nat} {xs : List UInt8} (h : Lent w g xs) : Bs w (some ⟨g, 0, none⟩) xs.length xs := by
  obtain ⟨full, h1, h2⟩ := h
  refine ⟨rfl, fun j u hj => ⟨_, rfl, ?_⟩⟩
  have hl := (List.getElem?_eq_some_iff.1 hj).1
  rw [add_zero_lit, cell_of h1 j]
  have e : full[j]? = some u := by
    have := congrArg (fun l => l[j]?) h2
    simp only [List.getElem?_take, List.getElem?_append] at this
    rw [if_pos (by omega), if_pos hl, hj] at this
    exact this
  simp [e]
theorem Lent.marks {w : World} {g : Nat} {xs : List UInt8} (h : Lent w g xs) : Bs w (some ⟨g, xs.length, none⟩) 3 marks := by
  obtain ⟨full, h1, h2⟩ := h
  refine ⟨rfl, fun j u hj => ⟨_, rfl, ?_⟩⟩
  have hl : j < 3 := (List.getElem?_eq_some_iff.1 hj).1
  rw [add_lit, cell_of h1]
  have e : full[xs.length + j]? = some u := by
    have := congrArg (fun l => l[xs.length + j]?) h2
    simp only [List.getElem?_take, List.getElem?_append] at this
    rw [if_pos (by omega), if_neg (by omega), show xs.length + j - xs.length = j by omega, hj] at this
    exact this
  simp [e]
theorem Lent.chg {S : List Nat} {w w' : World} {g : Nat} {xs : List UInt8} (h : Lent w g xs) (hc : Chg S w w') (hg : g ∉ S) : Lent w' g xs := by
  obtain ⟨full, h1, h2⟩ := h
  exact ⟨full, hc.at_ h1 hg, h2⟩

set_option maxHeartbeats 400000 in
theorem lent_any (w : World) (B : Option Addr) (m d : Nat) (xs : List UInt8) (hr : Bs w B m xs) (hm : m ≤ 140737488351232) :
    Calls Try.prog 34 #[.slice B m d] w fun e w' => ∃ g, e = .returned (.slice (some ⟨g, 0, none⟩) m (m + 3)) ∧ Lent w' g xs ∧ w.heap.size ≤ g ∧ Chg [] w w' := by
  have hl := hr.len
  subst hl
  go_enter Try.func34, Try.ntmps34
  go_wp2_with (first
    | (go_at_call 70; refine (copy_any _ _ _ _ xs hr hm).mono ?_; rintro e w1 ⟨A1, c1, rfl, f1, f2, f3⟩; have F2 := Lib.hid f2; clear f2)
    | (at_builtin; refine wpList_app rfl _ _ rfl rfl (f1.chg ((Chg.refl [] w1).alloc _) (by simp)) rfl rfl (Bs.three w1) (by omega) ?_; intro A2 c2 w2 own2 hg2 hA2; obtain ⟨g, rfl, hL⟩ := own2.lent; have hcap := own2.cap; simp only [List.length_append, marks, List.length_cons, List.length_nil, maxLen] at hcap))
  go_ret
  have hs := f3.size
  have F3 := f3.alloc (.cells #[.int .u8 201, .int .u8 17, .int .u8 99] 5)
  refine ⟨g, rfl, hL, ?_, F3.grown hg2 (fun k hk => ?_)⟩
  · rcases hA2 with h | h
    · exact F2.out _ h.symm
    · cases h
      simp; omega
  · cases A1 with
    | none => cases hk
    | some a =>
      simp at hk
      subst hk
      exact .inr (F2.out _ rfl)

set_option maxHeartbeats 400000 in
theorem kept_any (w : World) (g : Nat) (B : Option Addr) (m d : Nat) (xs : List UInt8) (hL : Lent w g xs) (hr : Bs w B m xs) (hm : m ≤ 140737488351232) :
    Calls Try.prog 41 #[.slice (some ⟨g, 0, none⟩) m (m + 3), .slice B m d] w fun e w' => e = .returned (.bool true) ∧ Chg [] w w' := by
  have hl := hr.len
  subst hl
  go_enter Try.func41, Try.ntmps41
  go_wp2_with fail
  refine (same_yes _ _ _ _ _ _ _ xs xs hL.reads hr rfl).mono ?_
  rintro e w1 ⟨rfl, rfl⟩
  have h0 : ¬ xs.length + 3 = xs.length := by omega
  have hM := Lent.marks (hL.chg ((Chg.refl [] w).alloc (.cells #[.int .u8 201, .int .u8 17, .int .u8 99] 5)) (by simp))
  go_wp2_with fail
  refine (same_yes _ _ _ _ _ _ _ marks marks hM (Bs.three w) rfl).mono ?_
  rintro e w1 ⟨rfl, rfl⟩
  go_wp2
  go_ret
  exact ⟨rfl, (Chg.refl _ _).alloc _⟩

/-- A row of bytes, whole. -/
def Row (w : World) (g : Nat) (full : List UInt8) : Prop := w.heap[g]? = some (.cells (full.map bv).toArray 5 (0, 0))
theorem Row.cell {w : World} {g : Nat} {full : List UInt8} (h : Row w g full) (j : Nat) (hj : j < full.length) : w.cell? ⟨g, j, none⟩ = some (.int .u8 ((full.getD j 0).toNat : Int)) := by
  rw [cell_of h j]
  simp [List.getD, hj, bv]
theorem Row.set {w : World} {g : Nat} {full : List UInt8} (h : Row w g full) (j : Nat) (x : Int) (c : UInt8) (hx : x = (c.toNat : Int)) : Row (w.setCell ⟨g, j, none⟩ (.int .u8 x)) g (full.set j c) := by
  have := heap_setCell_same w g j _ _ (.int .u8 x) h
  unfold Row
  rw [this]
  subst hx
  congr 2
  simp [bv]
def byteAt (full : List UInt8) (j : Nat) : Nat := (full.getD j 0).toNat
theorem byteAt_lt (full : List UInt8) (j : Nat) : byteAt full j < 256 := (full.getD j 0).toNat_lt

set_option maxHeartbeats 400000 in
theorem over_row (w : World) (g n c : Nat) (full : List UInt8) (hg : Row w g full) (hc : c ≤ full.length) (hm : c ≤ 9223372036854775807) :
    Calls Try.prog 40 #[.slice (some ⟨g, 0, none⟩) n c] w fun e w' => e = .returned (.tuple #[]) ∧ Chg [g] w w' := by
  have HG := Lib.hid hg
  clear hg
  go_enter Try.func40, Try.ntmps40
  go_wp2
  go_loopw [3] (fun i wr => ∃ (j : Nat) (fl : List UInt8), j ≤ c ∧ i = .int .i64 j ∧ Row wr g fl ∧ fl.length = full.length ∧ Chg [g] w wr) (fun i _ => c - (intOf i).toNat)
  case atStart => exact ⟨0, full, by omega, rfl, HG.out, rfl, Chg.refl _ _⟩
  case round =>
    obtain ⟨j, fl, hj, rfl, hr, hl, hch⟩ := hrel
    have HR := Lib.hid hr
    have HL := Lib.hid hl
    by_cases hlt : j < c
    · have hcj := hr.cell j (by omega)
      have hfj := free_of hr j
      have hb := byteAt_lt fl j
      rw [show (fl.getD j 0).toNat = byteAt fl j from rfl] at hcj
      clear hr hl
      go_wp2
      refine ⟨⟨j + 1, fl.set j (UInt8.ofNat ((byteAt fl j + 101) % 256)), by omega, by go_num, HR.out.set j _ _ (u8_of _ _ (by omega) (by omega)), by rw [List.length_set]; exact HL.out, hch.setCell (by simp) _⟩, by simp [intOf]; omega⟩
    · clear hr hl
      go_wp2
      go_end0
      exact ⟨rfl, hch⟩

set_option maxHeartbeats 400000 in
theorem over_nil (w : World) (n : Nat) : Calls Try.prog 40 #[.slice none n 0] w fun e w' => e = .returned (.tuple #[]) ∧ w = w' := by
  go_enter Try.func40, Try.ntmps40
  go_wp2
  refine wp_loop_rounds 1 ?_
  rw [rounds_succ]
  go_wp2
  go_end0
  exact ⟨rfl, rfl⟩

/-- The bytes of an answer, written over. -/
theorem over_own (w : World) (A : Option Addr) (c n : Nat) (xs : List UInt8) (h : OwnB w A c xs) (hn : n = xs.length) :
    Calls Try.prog 40 #[.slice A n c] w fun e w' => e = .returned (.tuple #[]) ∧ ∀ S : List Nat, (∀ a, A = some a → a.block ∈ S) → Chg S w w' := by
  subst hn
  rcases h with ⟨rfl, rfl, rfl⟩ | ⟨g, full, rfl, hg, hl, hm, hn, _⟩
  · exact (over_nil w 0).mono fun e w' ⟨h1, h2⟩ => ⟨h1, fun S _ => h2 ▸ Chg.refl _ _⟩
  · refine (over_row w g xs.length c full hg (by omega) (by unfold maxLen at hm; omega)).mono fun e w' ⟨h1, h2⟩ => ⟨h1, fun S hS => h2.mono ?_⟩
    intro i hi
    simp at hi
    subst hi
    exact .inl (hS _ rfl)
/-- What was lent, written over. -/
theorem over_lent (w : World) (g m : Nat) (xs : List UInt8) (h : Lent w g xs) (hm : m = xs.length) (hb : m ≤ 140737488351232) :
    Calls Try.prog 40 #[.slice (some ⟨g, 0, none⟩) m (m + 3)] w fun e w' => e = .returned (.tuple #[]) ∧ Chg [g] w w' := by
  subst hm
  obtain ⟨full, h1, h2⟩ := h
  have hl : xs.length + 3 ≤ full.length := by
    have := congrArg List.length h2
    simp [marks] at this
    omega
  exact over_row w g xs.length (xs.length + 3) full h1 hl (by omega)

theorem pick_t (x n : Int) (hn : 1 ≤ n) : x.tmod n = x % n ∨ x.tmod n = x % n - n := by
  rw [Int.tmod_eq_emod]
  split
  · left; omega
  · right; omega
theorem pick_math (x n : Int) (hn : 1 ≤ n) : (x.tmod n + n) % n = x % n := by
  rcases pick_t x n hn with h | h
  · rw [h, Int.add_emod_right, Int.emod_emod]
  · rw [h, show x % n - n + n = x % n by omega, Int.emod_emod]

end Go.Proofs.Ytpgelolchfglbaa
