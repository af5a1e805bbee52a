/- Bytes and messages of the kit: no wire here. -/
import Derived.Test.YtmblalcigbghfaaMem
import Derived.Deep.QuietTactic
import Derived.BigQuiet
import Derived.RegionTactic
import Derived.Deep.RegionHeld3
import Derived.Deep.Cut
namespace Go.Proofs.Ytmblalcigbghfaa
open Go.RowKit
set_option linter.unusedSimpArgs false
set_option linter.unusedVariables false
theorem u8_of (x : Int) (k : Nat) (h : x = (k : Int)) (hk : k < 256) : x = ((UInt8.ofNat k).toNat : Int) := by
  rw [UInt8.toNat_ofNat', Nat.mod_eq_of_lt hk]; exact h


/-- append of bytes, at a step of a region that draws its order. -/
theorem step_app {ops : Array Oper} {o : Oper} {a : Act} {w : World} {K : Act → World → Prop} {Q : Exit → Act → World → Prop} {E : Prop} (hgd : o.guard = none) (s x : Operand)
    (ho : o.op = .call { callee := .builtin .append, args := #[s, x], argTypes := #[33, 33] })
    {A : Option Addr} {c n : Nat} {xs : List UInt8} (hs : a.eval s = .slice A n c) (hown : OwnB w A c xs) (hn : xs.length = n) {B : Option Addr} {m d : Nat} {ys : List UInt8} (hx : a.eval x = .slice B m d) (hr : Bs w B m ys) (hlen : n + m ≤ 140737488355327)
    (h : ∀ A' c' w', OwnB w' A' c' (xs ++ ys) → w.grownBy w' (A.map (·.block)) → (A' = A ∨ A' = some ⟨w.heap.size, 0, none⟩) → K (a.put o.dst (.slice A' (n + m) c')) w') :
    if Region.wanted o (yielded ops a.tmps) = true then Oper.wp Try.prog o a w K Q else E := by
  have hw : Region.wanted o (yielded ops a.tmps) = true := by simp [Region.wanted, hgd]
  rw [if_pos hw]
  subst hn
  obtain ⟨A', c', w', hrun, h2, h3, h4⟩ := run_app w o.type hown (d := d) hr hlen
  unfold Oper.wp execOp
  simp only [ho, resolve, invoke, builtin, Sem.run_bind, Sem.run_pure, Result.andThen_ok, List.map_toArray, List.map_cons, List.map_nil, hs, hx, hrun]
  exact h A' c' w' h2 h3 h4




/-- Bytes in memory of their own, which was not there at first. -/
def Fresh (w w' : World) (A : Option Addr) (c : Nat) (ys : List UInt8) : Prop := OwnB w' A c ys ∧ (∀ a, A = some a → w.heap.size ≤ a.block) ∧ Chg [] w w'

theorem OwnB.empty (w : World) : OwnB (w.alloc (.cells #[] 5)) (some ⟨w.heap.size, 0, none⟩) 0 [] := .of (full := []) (heap_alloc_new w _) (by simp) (by simp [maxLen]) rfl (by simp)

theorem fresh_app {w w1 : World} {A' : Option Addr} {c' : Nat} {ys : List UInt8} (own1 : OwnB w1 A' c' ([] ++ ys)) (hg1 : (w.alloc (.cells #[] 5)).grownBy w1 (Option.map (·.block) (some (⟨w.heap.size, 0, none⟩ : Addr))))
    (hA1 : A' = some ⟨w.heap.size, 0, none⟩ ∨ A' = some ⟨(w.alloc (.cells #[] 5)).heap.size, 0, none⟩) : Fresh w w1 A' c' ys := by
  refine ⟨own1, ?_, ((Chg.refl [] w).alloc _).grown hg1 (by simp)⟩
  rintro a rfl
  rcases hA1 with h | h <;> cases h <;> simp

set_option maxHeartbeats 400000 in
theorem clone_any (w : World) (B : Option Addr) (m d : Nat) (ys : List UInt8) (hr : Bs w B m ys) (hm : m ≤ 140737488351232) :
    Calls Try.prog 52 #[.slice B m d] w fun r w' => ∃ A c, r = .returned (.slice A m c) ∧ Fresh w w' A c ys := by
  rcases B with _ | a
  · have hy : ys = [] := by
      cases ys with
      | nil => rfl
      | cons y ys => obtain ⟨a, h, _⟩ := hr.cells 0 y rfl; cases h
    have hm0 := hr.len
    subst hy
    simp at hm0
    subst hm0
    have h0 := fun w => Lib.run_eql_slice_nil (P := Try.prog) w 33 5 none 0 d 0 0 Try.underlying33
    go_enter Try.func52, Try.ntmps52
    go_wp2
    go_ret
    exact ⟨none, 0, rfl, OwnB.none_ _, by simp, Chg.refl _ _⟩
  · have h0 := fun w => Lib.run_eql_slice_nil (P := Try.prog) w 33 5 (some a) m d 0 0 Try.underlying33
    go_enter Try.func52, Try.ntmps52
    go_wp2_with (at_builtin; refine wpList_app rfl _ _ rfl rfl (OwnB.empty w) rfl rfl (hr.chg ((Chg.refl [] w).alloc _) (by simp)) (by simp; omega) ?_; intro A' c' w1 own1 hg1 hA1)
    go_ret
    exact ⟨A', c', by simp, fresh_app own1 hg1 hA1⟩

set_option maxHeartbeats 400000 in
theorem copy_any (w : World) (B : Option Addr) (m d : Nat) (ys : List UInt8) (hr : Bs w B m ys) (hm : m ≤ 140737488351232) :
    Calls Try.prog 45 #[.slice B m d] w fun r w' => ∃ A c, r = .returned (.slice A m c) ∧ Fresh w w' A c ys := by
  go_enter Try.func45, Try.ntmps45
  go_wp2_with (at_builtin; refine wpList_app rfl _ _ rfl rfl (OwnB.empty w) rfl rfl (hr.chg ((Chg.refl [] w).alloc _) (by simp)) (by simp; omega) ?_; intro A' c' w1 own1 hg1 hA1)
  go_ret
  exact ⟨A', c', by simp, fresh_app own1 hg1 hA1⟩




set_option maxHeartbeats 400000 in
theorem same_any (w : World) (A B : Option Addr) (n m c d : Nat) (xs ys : List UInt8) (h : Bs w A n xs) (k : Bs w B m ys) :
    Calls Try.prog 40 #[.slice A n c, .slice B m d] w fun e w' => e = .returned (.bool (xs == ys)) ∧ w = w' := by
  have h1 := run_str w (c := c) h
  have k1 := run_str w (c := d) k
  go_enter Try.func40, Try.ntmps40
  go_wp2
  go_ret
  exact ⟨rfl, rfl⟩
theorem same_yes (w : World) (A B : Option Addr) (n m c d : Nat) (xs ys : List UInt8) (h : Bs w A n xs) (k : Bs w B m ys) (e : xs = ys) :
    Calls Try.prog 40 #[.slice A n c, .slice B m d] w fun e w' => e = .returned (.bool true) ∧ w = w' := by
  have := same_any w A B n m c d xs ys h k
  rwa [show (xs == ys) = true by simpa using e] at this

/-- The marks that stand behind what is lent. -/
def marks : List UInt8 := [201, 17, 99]
/-- What is lent: bytes at the head of row g, marks behind them. -/
def Lent (w : World) (g : Nat) (xs : List UInt8) : Prop := ∃ full : List UInt8, w.heap[g]? = some (.cells (full.map bv).toArray 5 (0, 0)) ∧ full.take (xs.length + 3) = xs ++ marks

theorem Bs.three (w : World) : Bs (w.alloc (.cells #[.int .u8 201, .int .u8 17, .int .u8 99] 5)) (some ⟨w.heap.size, 0, none⟩) 3 marks := by
  refine ⟨rfl, fun j u hj => ⟨_, rfl, ?_⟩⟩
  have hl := (List.getElem?_eq_some_iff.1 hj).1
  rw [add_zero_lit, cell_of (heap_alloc_new w (.cells #[.int .u8 201, .int .u8 17, .int .u8 99] 5)) j]
  match j, hj, hl with
  | 0, hj, _ => cases hj; rfl
  | 1, hj, _ => cases hj; rfl
  | 2, hj, _ => cases hj; rfl

theorem OwnB.lent {w : World} {A : Option Addr} {c : Nat} {xs : List UInt8} (h : OwnB w A c (xs ++ marks)) : ∃ g, A = some ⟨g, 0, none⟩ ∧ Lent w g xs := by
  rcases h with ⟨_, h, _⟩ | ⟨g, full, rfl, h1, _, _, _, h5⟩
  · simp [marks] at h
  · exact ⟨g, rfl, full, h1, by rw [← h5]; simp [marks]⟩

theorem Lent.reads {w : World} {g : Nat} {xs : List UInt8} (h : Lent w g xs) : Bs w (some ⟨g, 0, none⟩) xs.length xs := by
  obtain ⟨full, h1, h2⟩ := h
  refine ⟨rfl, fun j u hj => ⟨_, rfl, ?_⟩⟩
  have hl := (List.getElem?_eq_some_iff.1 hj).1
  rw [add_zero_lit, cell_of h1 j]
  have e : full[j]? = some u := by
    have := congrArg (fun l => l[j]?) h2
    simp only [List.getElem?_take, List.getElem?_append] at this
    rw [if_pos (by omega), if_pos hl, hj] at this
    exact this
  simp [e]
theorem Lent.marks {w : World} {g : Nat} {xs : List UInt8} (h : Lent w g xs) : Bs w (some ⟨g, xs.length, none⟩) 3 marks := by
  obtain ⟨full, h1, h2⟩ := h
  refine ⟨rfl, fun j u hj => ⟨_, rfl, ?_⟩⟩
  have hl : j < 3 := (List.getElem?_eq_some_iff.1 hj).1
  rw [add_lit, cell_of h1]
  have e : full[xs.length + j]? = some u := by
    have := congrArg (fun l => l[xs.length + j]?) h2
    simp only [List.getElem?_take, List.getElem?_append] at this
    rw [if_pos (by omega), if_neg (by omega), show xs.length + j - xs.length = j by omega, hj] at this
    exact this
  simp [e]
theorem Lent.chg {S : List Nat} {w w' : World} {g : Nat} {xs : List UInt8} (h : Lent w g xs) (hc : Chg S w w') (hg : g ∉ S) : Lent w' g xs := by
  obtain ⟨full, h1, h2⟩ := h
  exact ⟨full, hc.at_ h1 hg, h2⟩

set_option maxHeartbeats 400000 in
theorem lent_any (w : World) (B : Option Addr) (m d : Nat) (xs : List UInt8) (hr : Bs w B m xs) (hm : m ≤ 140737488351232) :
    Calls Try.prog 33 #[.slice B m d] w fun e w' => ∃ g, e = .returned (.slice (some ⟨g, 0, none⟩) m (m + 3)) ∧ Lent w' g xs ∧ w.heap.size ≤ g ∧ Chg [] w w' := by
  have hl := hr.len
  subst hl
  go_enter Try.func33, Try.ntmps33
  go_wp2_with (first
    | (go_at_call 45; refine (copy_any _ _ _ _ xs hr hm).mono ?_; rintro e w1 ⟨A1, c1, rfl, f1, f2, f3⟩; have F2 := Lib.hid f2; clear f2)
    | (at_builtin; refine wpList_app rfl _ _ rfl rfl (f1.chg ((Chg.refl [] w1).alloc _) (by simp)) rfl rfl (Bs.three w1) (by omega) ?_; intro A2 c2 w2 own2 hg2 hA2; obtain ⟨g, rfl, hL⟩ := own2.lent; have hcap := own2.cap; simp only [List.length_append, marks, List.length_cons, List.length_nil, maxLen] at hcap))
  go_ret
  have hs := f3.size
  have F3 := f3.alloc (.cells #[.int .u8 201, .int .u8 17, .int .u8 99] 5)
  refine ⟨g, rfl, hL, ?_, F3.grown hg2 (fun k hk => ?_)⟩
  · rcases hA2 with h | h
    · exact F2.out _ h.symm
    · cases h
      simp; omega
  · cases A1 with
    | none => cases hk
    | some a =>
      simp at hk
      subst hk
      exact .inr (F2.out _ rfl)

set_option maxHeartbeats 400000 in
theorem kept_any (w : World) (g : Nat) (B : Option Addr) (m d : Nat) (xs : List UInt8) (hL : Lent w g xs) (hr : Bs w B m xs) (hm : m ≤ 140737488351232) :
    Calls Try.prog 39 #[.slice (some ⟨g, 0, none⟩) m (m + 3), .slice B m d] w fun e w' => e = .returned (.bool true) ∧ Chg [] w w' := by
  have hl := hr.len
  subst hl
  go_enter Try.func39, Try.ntmps39
  go_wp2_with fail
  refine (same_yes _ _ _ _ _ _ _ xs xs hL.reads hr rfl).mono ?_
  rintro e w1 ⟨rfl, rfl⟩
  have h0 : ¬ xs.length + 3 = xs.length := by omega
  have hM := Lent.marks (hL.chg ((Chg.refl [] w).alloc (.cells #[.int .u8 201, .int .u8 17, .int .u8 99] 5)) (by simp))
  go_wp2_with fail
  refine (same_yes _ _ _ _ _ _ _ marks marks hM (Bs.three w) rfl).mono ?_
  rintro e w1 ⟨rfl, rfl⟩
  go_wp2
  go_ret
  exact ⟨rfl, (Chg.refl _ _).alloc _⟩

/-- A row of bytes, whole. -/
def Row (w : World) (g : Nat) (full : List UInt8) : Prop := w.heap[g]? = some (.cells (full.map bv).toArray 5 (0, 0))
theorem Row.cell {w : World} {g : Nat} {full : List UInt8} (h : Row w g full) (j : Nat) (hj : j < full.length) : w.cell? ⟨g, j, none⟩ = some (.int .u8 ((full.getD j 0).toNat : Int)) := by
  rw [cell_of h j]
  simp [List.getD, hj, bv]
theorem Row.set {w : World} {g : Nat} {full : List UInt8} (h : Row w g full) (j : Nat) (x : Int) (c : UInt8) (hx : x = (c.toNat : Int)) : Row (w.setCell ⟨g, j, none⟩ (.int .u8 x)) g (full.set j c) := by
  have := heap_setCell_same w g j _ _ (.int .u8 x) h
  unfold Row
  rw [this]
  subst hx
  congr 2
  simp [bv]
def byteAt (full : List UInt8) (j : Nat) : Nat := (full.getD j 0).toNat
theorem byteAt_lt (full : List UInt8) (j : Nat) : byteAt full j < 256 := (full.getD j 0).toNat_lt

set_option maxHeartbeats 400000 in
theorem over_row (w : World) (g n c : Nat) (full : List UInt8) (hg : Row w g full) (hc : c ≤ full.length) (hm : c ≤ 9223372036854775807) :
    Calls Try.prog 36 #[.slice (some ⟨g, 0, none⟩) n c] w fun e w' => e = .returned (.tuple #[]) ∧ Chg [g] w w' := by
  have HG := Lib.hid hg
  clear hg
  go_enter Try.func36, Try.ntmps36
  go_wp2
  go_loopw [3] (fun i wr => ∃ (j : Nat) (fl : List UInt8), j ≤ c ∧ i = .int .i64 j ∧ Row wr g fl ∧ fl.length = full.length ∧ Chg [g] w wr) (fun i _ => c - (intOf i).toNat)
  case atStart => exact ⟨0, full, by omega, rfl, HG.out, rfl, Chg.refl _ _⟩
  case round =>
    obtain ⟨j, fl, hj, rfl, hr, hl, hch⟩ := hrel
    have HR := Lib.hid hr
    have HL := Lib.hid hl
    by_cases hlt : j < c
    · have hcj := hr.cell j (by omega)
      have hfj := free_of hr j
      have hb := byteAt_lt fl j
      rw [show (fl.getD j 0).toNat = byteAt fl j from rfl] at hcj
      clear hr hl
      go_wp2
      refine ⟨⟨j + 1, fl.set j (UInt8.ofNat ((byteAt fl j + 101) % 256)), by omega, by go_num, HR.out.set j _ _ (u8_of _ _ (by omega) (by omega)), by rw [List.length_set]; exact HL.out, hch.setCell (by simp) _⟩, by simp [intOf]; omega⟩
    · clear hr hl
      go_wp2
      go_end0
      exact ⟨rfl, hch⟩

set_option maxHeartbeats 400000 in
theorem over_nil (w : World) (n : Nat) : Calls Try.prog 36 #[.slice none n 0] w fun e w' => e = .returned (.tuple #[]) ∧ w = w' := by
  go_enter Try.func36, Try.ntmps36
  go_wp2
  refine wp_loop_rounds 1 ?_
  rw [rounds_succ]
  go_wp2
  go_end0
  exact ⟨rfl, rfl⟩

/-- The bytes of an answer, written over. -/
theorem over_own (w : World) (A : Option Addr) (c n : Nat) (xs : List UInt8) (h : OwnB w A c xs) (hn : n = xs.length) :
    Calls Try.prog 36 #[.slice A n c] w fun e w' => e = .returned (.tuple #[]) ∧ ∀ S : List Nat, (∀ a, A = some a → a.block ∈ S) → Chg S w w' := by
  subst hn
  rcases h with ⟨rfl, rfl, rfl⟩ | ⟨g, full, rfl, hg, hl, hm, hn, _⟩
  · exact (over_nil w 0).mono fun e w' ⟨h1, h2⟩ => ⟨h1, fun S _ => h2 ▸ Chg.refl _ _⟩
  · refine (over_row w g xs.length c full hg (by omega) (by unfold maxLen at hm; omega)).mono fun e w' ⟨h1, h2⟩ => ⟨h1, fun S hS => h2.mono ?_⟩
    intro i hi
    simp at hi
    subst hi
    exact .inl (hS _ rfl)
/-- What was lent, written over. -/
theorem over_lent (w : World) (g m : Nat) (xs : List UInt8) (h : Lent w g xs) (hm : m = xs.length) (hb : m ≤ 140737488351232) :
    Calls Try.prog 36 #[.slice (some ⟨g, 0, none⟩) m (m + 3)] w fun e w' => e = .returned (.tuple #[]) ∧ Chg [g] w w' := by
  subst hm
  obtain ⟨full, h1, h2⟩ := h
  have hl : xs.length + 3 ≤ full.length := by
    have := congrArg List.length h2
    simp [marks] at this
    omega
  exact over_row w g xs.length (xs.length + 3) full h1 hl (by omega)

theorem pick_t (x n : Int) (hn : 1 ≤ n) : x.tmod n = x % n ∨ x.tmod n = x % n - n := by
  rw [Int.tmod_eq_emod]
  split
  · left; omega
  · right; omega
theorem pick_math (x n : Int) (hn : 1 ≤ n) : (x.tmod n + n) % n = x % n := by
  rcases pick_t x n hn with h | h
  · rw [h, Int.add_emod_right, Int.emod_emod]
  · rw [h, show x % n - n + n = x % n by omega, Int.emod_emod]

set_option maxHeartbeats 400000 in
theorem pick_any (w : World) (x n : Int) (hn : 1 ≤ n) (h2 : n ≤ 4611686018427387904) : Calls Try.prog 20 #[.int .i64 x, .int .i64 n] w fun e w' => e = .returned (.int .i64 (x % n)) ∧ w = w' := by
  rw [← pick_math x n hn]
  have h0 := Int.emod_nonneg x (show n ≠ 0 by omega)
  have h1 := Int.emod_lt_of_pos x (show 0 < n by omega)
  have b1 : -n ≤ x.tmod n := by rcases pick_t x n hn with h | h <;> omega
  have b2 : x.tmod n < n := by rcases pick_t x n hn with h | h <;> omega
  clear h0 h1
  go_enter Try.func20, Try.ntmps20
  go_wp2
  go_ret
  exact ⟨rfl, rfl⟩

theorem put5_0 {w : World} {s0 : Nat} {a0 a1 a2 a3 a4 : Value} {T : TypeId} (v0 v1 v2 v3 v4 : Value) (q0 : w.heap[s0]? = some (.cells #[a0, a1, a2, a3, a4] T (0, 0))) :
    (((((w.setCell ⟨s0, 0, none⟩ v0).setCell ⟨s0, 1, none⟩ v1).setCell ⟨s0, 2, none⟩ v2).setCell ⟨s0, 3, none⟩ v3).setCell ⟨s0, 4, none⟩ v4).heap[s0]? = some (.cells #[v0, v1, v2, v3, v4] T (0, 0)) := by
  have p0 := heap_setCell_same _ s0 0 _ _ v0 q0
  have p1 := heap_setCell_same _ s0 1 _ _ v1 p0
  have p2 := heap_setCell_same _ s0 2 _ _ v2 p1
  have p3 := heap_setCell_same _ s0 3 _ _ v3 p2
  have p4 := heap_setCell_same _ s0 4 _ _ v4 p3
  exact p4





/-- Which parts may be. -/
def PartP (s a : Int) (len : Nat) : Prop := 1 ≤ s ∧ s ≤ 60000 ∧ 0 ≤ a ∧ a < s ∧ 1 ≤ len ∧ len ≤ 200 ∧ (len : Int) ≤ s - a
instance (s a : Int) (len : Nat) : Decidable (PartP s a len) := by unfold PartP; exact inferInstance
/-- Which messages may be. -/
def FineM (k i s a : Int) (len : Nat) : Prop := 1 ≤ i ∧ i ≤ 1099511627776 ∧ ((k = 1 ∧ PartP s a len) ∨ ((k = 2 ∨ k = 3) ∧ s = 0 ∧ a = 0 ∧ len = 0))
instance (k i s a : Int) (len : Nat) : Decidable (FineM k i s a len) := by unfold FineM; exact inferInstance
def chkM (k i s a : Int) (len : Nat) : Int := if FineM k i s a len then 0 else 2
theorem chkM_fine {k i s a : Int} {len : Nat} (h : FineM k i s a len) : chkM k i s a len = 0 := if_pos h
theorem chkM_odd {k i s a : Int} {len : Nat} (h : ¬ FineM k i s a len) : chkM k i s a len = 2 := if_neg h

end Go.Proofs.Ytmblalcigbghfaa
