/- Words on memory that the walks over this seat share: bytes read, bytes owned, what a step leaves alone. No function of the program is named here. -/
import Derived.Test.YtleioiihoplmaaaRows
import Derived.WalkKit
import Derived.WalkSpells
import Derived.WalkLawsBesides
import Derived.LaidEqlPtr
import Derived.Lib.Hide
import Derived.Maps.AppendAt
namespace Go.Proofs.Ytleioiihoplmaaa
open Go.RowKit

/-- A byte as a value. -/
def bv (c : UInt8) : Value := .int .u8 (c.toNat : Int)

theorem bv_one (c : UInt8) : (bv c).oneCell' = true := rfl

/-- Outside the blocks S nothing that was there has turned. -/
structure Chg (S : List Nat) (w w' : World) : Prop where
  os : w'.os = w.os
  tape : w'.tape = w.tape
  output : w'.output = w.output
  size : w.heap.size ≤ w'.heap.size
  block : ∀ k, k < w.heap.size → k ∉ S → w'.heap[k]? = w.heap[k]?

theorem Chg.refl (S : List Nat) (w : World) : Chg S w w := ⟨rfl, rfl, rfl, Nat.le_refl _, fun _ _ _ => rfl⟩
theorem Chg.trans {S : List Nat} {a b c : World} (h : Chg S a b) (k : Chg S b c) : Chg S a c :=
  ⟨k.os.trans h.os, k.tape.trans h.tape, k.output.trans h.output, Nat.le_trans h.size k.size, fun i hi hn => (k.block i (Nat.lt_of_lt_of_le hi h.size) hn).trans (h.block i hi hn)⟩
/-- A later step may turn blocks that were not there at first. -/
theorem Chg.trans' {S S' : List Nat} {a b c : World} (h : Chg S a b) (k : Chg S' b c) (hs : ∀ i ∈ S', i ∈ S ∨ a.heap.size ≤ i) : Chg S a c :=
  ⟨k.os.trans h.os, k.tape.trans h.tape, k.output.trans h.output, Nat.le_trans h.size k.size, fun i hi hn => (k.block i (Nat.lt_of_lt_of_le hi h.size) (fun hm => by
    rcases hs i hm with h1 | h1
    · exact hn h1
    · omega)).trans (h.block i hi hn)⟩
theorem Chg.mono {S S' : List Nat} {a b : World} (h : Chg S a b) (hs : ∀ i ∈ S, i ∈ S' ∨ a.heap.size ≤ i) : Chg S' a b :=
  ⟨h.os, h.tape, h.output, h.size, fun i hi hn => h.block i hi (fun hm => by
    rcases hs i hm with h1 | h1
    · exact hn h1
    · omega)⟩
theorem Chg.drew {S : List Nat} {a w : World} (h : Chg S a w) : Chg S a w.drew := ⟨h.os, h.tape, h.output, h.size, h.block⟩
theorem Chg.drewN {S : List Nat} {a w : World} (h : Chg S a w) (n : Nat) : Chg S a (w.drewN n) := ⟨h.os, h.tape, h.output, h.size, h.block⟩
theorem Chg.alloc {S : List Nat} {a w : World} (h : Chg S a w) (o : Obj) : Chg S a (w.alloc o) :=
  h.trans ⟨rfl, rfl, rfl, by simp, fun k hk _ => Below.heap_alloc _ _ _ hk⟩
theorem Chg.setCell {S : List Nat} {a w : World} (h : Chg S a w) {p : Addr} (hp : p.block ∈ S ∨ a.heap.size ≤ p.block) (u : Value) : Chg S a (w.setCell p u) :=
  ⟨h.os, h.tape, h.output, by simpa [World.setCell] using h.size, fun k hk hn => (Below.heap_setCell _ _ _ _ (by
    rintro rfl
    rcases hp with h1 | h1
    · exact hn h1
    · omega)).trans (h.block k hk hn)⟩
theorem Chg.grown {S : List Nat} {a w w' : World} {row : Option Nat} (h : Chg S a w) (hg : w.grownBy w' row) (hr : ∀ k, row = some k → k ∈ S ∨ a.heap.size ≤ k) : Chg S a w' :=
  ⟨hg.os.trans h.os, hg.tape.trans h.tape, hg.output.trans h.output, Nat.le_trans h.size hg.size, fun k hk hn => (hg.block k (Nat.lt_of_lt_of_le hk h.size) (fun e => by
    rcases hr k e.symm with h1 | h1
    · exact hn h1
    · omega)).trans (h.block k hk hn)⟩
theorem Chg.below {S : List Nat} {a b w : World} {B : Nat} (h : Below B a b) (hc : Chg S b w) (hs : ∀ i ∈ S, B ≤ i) (hB : B ≤ a.heap.size) : Below B a w :=
  ⟨hc.os.trans h.os, hc.tape.trans h.tape, hc.output.trans h.output, Nat.le_trans h.size hc.size, fun k hk => (hc.block k (by have := h.size; omega) (fun hm => by have := hs k hm; omega)).trans (h.block k hk)⟩
theorem Chg.ofBelow {B : Nat} {a b : World} (h : Below B a b) (hB : a.heap.size ≤ B) (S : List Nat) : Chg S a b :=
  ⟨h.os, h.tape, h.output, h.size, fun k hk _ => h.block k (by omega)⟩
theorem Chg.toBelow {a b : World} (h : Chg [] a b) : Below a.heap.size a b := ⟨h.os, h.tape, h.output, h.size, fun k hk => h.block k hk (by simp)⟩

theorem heap_alloc_two (w : World) (o o' : Obj) : ((w.alloc o).alloc o').heap[w.heap.size + 1]? = some o' := by
  have := heap_alloc_new (w.alloc o) o'
  rwa [World.size_alloc] at this
theorem lt_of_heap {w : World} {b : Nat} {o : Obj} (h : w.heap[b]? = some o) : b < w.heap.size := (Array.getElem?_eq_some_iff.1 h).1
theorem Chg.at_ {S : List Nat} {w w' : World} {b : Nat} {o : Obj} (h : Chg S w w') (hb : w.heap[b]? = some o) (hn : b ∉ S) : w'.heap[b]? = some o :=
  (h.block b (lt_of_heap hb) hn).trans hb
theorem lt_of_cell {w : World} {a : Addr} {v : Value} (h : w.cell? a = some v) : a.block < w.heap.size := by
  unfold World.cell? at h
  split at h
  · rename_i hb; exact lt_of_heap hb
  · cases h
theorem Chg.cell {S : List Nat} {w w' : World} {a : Addr} {v : Value} (h : Chg S w w') (hc : w.cell? a = some v) (hn : a.block ∉ S) : w'.cell? a = some v :=
  (World.cell?_of_block (w := w) (h.block _ (lt_of_cell hc) hn)).trans hc

/-- The slice '.slice A n _' reads as these bytes. -/
structure Bs (w : World) (A : Option Addr) (n : Nat) (xs : List UInt8) : Prop where
  len : xs.length = n
  cells : ∀ j c, xs[j]? = some c → ∃ a, A = some a ∧ w.cell? (a.add j) = some (bv c)

theorem cell_of' {w : World} {b : Nat} {cs : Array Value} {t : TypeId} {fr : Nat × Nat} (h : w.heap[b]? = some (.cells cs t fr)) (j : Nat) : w.cell? ⟨b, j, none⟩ = cs[j]? := by simp [World.cell?, h]
/-- One byte in a new block. -/
theorem Bs.one (w : World) (c : UInt8) (x : Int) (hx : x = (c.toNat : Int)) : Bs (w.alloc (.cells #[.int .u8 x] 5)) (some ⟨w.heap.size, 0, none⟩) 1 [c] :=
  ⟨rfl, fun j u hj => by
    cases j with
    | zero =>
      simp at hj
      subst hj hx
      refine ⟨_, rfl, ?_⟩
      have e := cell_of' (heap_alloc_new w (.cells #[.int .u8 (c.toNat : Int)] 5)) 0
      have ea : (⟨w.heap.size, 0, none⟩ : Addr).add 0 = ⟨w.heap.size, 0, none⟩ := by unfold Addr.add; split <;> simp_all
      rw [ea, e]; rfl
    | succ j => simp at hj⟩

theorem block_add (a : Addr) (n : Nat) : (a.add n).block = a.block := by unfold Addr.add; split <;> rfl
theorem add_zero_lit (g j : Nat) : (⟨g, 0, none⟩ : Addr).add j = ⟨g, j, none⟩ := by unfold Addr.add; split <;> simp_all
theorem add_lit (g o j : Nat) : (⟨g, o, none⟩ : Addr).add j = ⟨g, o + j, none⟩ := by unfold Addr.add; split <;> simp_all

/-- A string's bytes in the block that a conversion lays. -/
theorem Bs.str (w : World) (s : ByteArray) (k : Nat) (fr : Nat × Nat) : Bs (w.alloc (.cells (bytesRow s k) 5 fr)).drew (some ⟨w.heap.size, 0, none⟩) s.size s.data.toList :=
  ⟨by rw [Array.length_toList]; rfl, fun j u hj => by
    refine ⟨_, rfl, ?_⟩
    have hl := (List.getElem?_eq_some_iff.1 hj).1
    rw [Array.length_toList] at hl
    have e : (w.alloc (.cells (bytesRow s k) 5 fr)).cell? ⟨w.heap.size, j, none⟩ = (bytesRow s k)[j]? := cell_of' (heap_alloc_new w _) j
    rw [add_zero_lit]
    refine Eq.trans ?_ (e.trans (bytesRow_at s k j hl) |>.trans ?_)
    · rfl
    · simp at hj
      obtain ⟨_, rfl⟩ := Array.getElem?_eq_some_iff.1 hj
      rfl⟩

theorem Bs.nil (w : World) (A : Option Addr) : Bs w A 0 [] := ⟨rfl, by simp⟩
theorem Bs.keep {w w' : World} {A : Option Addr} {n : Nat} {xs : List UInt8} (h : Bs w A n xs) (hk : ∀ (p : Addr) v, (∀ a, A = some a → p.block = a.block) → w.cell? p = some v → w'.cell? p = some v) : Bs w' A n xs :=
  ⟨h.len, fun j c hj => by
    obtain ⟨a, rfl, hc⟩ := h.cells j c hj
    exact ⟨a, rfl, hk _ _ (fun a' e => by cases e; exact block_add _ _) hc⟩⟩
theorem Bs.chg {S : List Nat} {w w' : World} {A : Option Addr} {n : Nat} {xs : List UInt8} (h : Bs w A n xs) (hc : Chg S w w') (hn : ∀ a, A = some a → a.block ∉ S) : Bs w' A n xs :=
  ⟨h.len, fun j c hj => by
    obtain ⟨a, rfl, hx⟩ := h.cells j c hj
    exact ⟨a, rfl, hc.cell hx (by rw [block_add]; exact hn a rfl)⟩⟩
/-- Bytes that lie apart from two blocks (or are none). -/
def Apart (B : Option Addr) (ys : List UInt8) (b g : Nat) : Prop := ys = [] ∨ ∀ a, B = some a → a.block ≠ b ∧ a.block ≠ g
theorem Bs.old {w : World} {A : Option Addr} {n : Nat} {xs : List UInt8} (h : Bs w A n xs) : xs = [] ∨ ∀ a, A = some a → a.block < w.heap.size := by
  cases xs with
  | nil => exact .inl rfl
  | cons x xs =>
    right
    rintro a rfl
    obtain ⟨a', e, hc⟩ := h.cells 0 x rfl
    cases e
    have := lt_of_cell hc
    rwa [block_add] at this
theorem Bs.apart {w : World} {A : Option Addr} {n : Nat} {xs : List UInt8} (h : Bs w A n xs) {b g : Nat} (hb : w.heap.size ≤ b) (hg : w.heap.size ≤ g) : Apart A xs b g := by
  rcases h.old with h | h
  · exact .inl h
  · exact .inr fun a e => by have := h a e; omega
theorem Bs.past {w w1 : World} {b g : Nat} {B : Option Addr} {m : Nat} {ys : List UInt8} (hr : Bs w B m ys) (hc : Chg [b, g] w w1) (hB : Apart B ys b g) : Bs w1 B m ys := by
  rcases hB with rfl | hB
  · have := hr.len
    subst this
    exact Bs.nil w1 B
  · exact hr.chg hc (fun a e => by have := hB a e; simp; exact this)
theorem Bs.below {w w' : World} {B : Nat} {A : Option Addr} {n : Nat} {xs : List UInt8} (h : Bs w A n xs) (hb : Below B w w') (hn : ∀ a, A = some a → a.block < B) : Bs w' A n xs :=
  ⟨h.len, fun j c hj => by
    obtain ⟨a, rfl, hx⟩ := h.cells j c hj
    exact ⟨a, rfl, (hb.cell (by rw [block_add]; exact hn a rfl)).trans hx⟩⟩

/-- The slice '.slice A xs.length c' owns a row of bytes that begins with these. -/
def OwnB (w : World) (A : Option Addr) (c : Nat) (xs : List UInt8) : Prop :=
  (A = none ∧ xs = [] ∧ c = 0) ∨ ∃ (g : Nat) (full : List UInt8), A = some ⟨g, 0, none⟩ ∧ w.heap[g]? = some (.cells (full.map bv).toArray 5 (0, 0)) ∧ full.length = c ∧ c ≤ maxLen ∧ xs.length ≤ c ∧ full.take xs.length = xs

theorem OwnB.none_ (w : World) : OwnB w none 0 [] := .inl ⟨rfl, rfl, rfl⟩
theorem OwnB.form {w : World} {A : Option Addr} {c : Nat} {xs : List UInt8} (h : OwnB w A c xs) :
    (A = none ∧ xs = [] ∧ c = 0) ∨ ∃ g cur, A = some ⟨g, 0, none⟩ ∧ w.heap[g]? = some (.cells cur 5 (0, 0)) ∧ xs.length ≤ c ∧ c ≤ maxLen ∧ cur.size = c ∧ cur.toList.take xs.length = xs.map bv := by
  rcases h with h | ⟨g, full, h1, h2, h3, h4, h5, h6⟩
  · exact .inl h
  · refine .inr ⟨g, _, h1, h2, h5, h4, by simpa using h3, ?_⟩
    show (full.map bv).take xs.length = _
    rw [← List.map_take, h6]
theorem OwnB.of {w : World} {g c : Nat} {full xs : List UInt8} (hg : w.heap[g]? = some (.cells (full.map bv).toArray 5 (0, 0))) (h1 : xs.length ≤ c) (h2 : c ≤ maxLen) (h3 : full.length = c) (h4 : full.take xs.length = xs) :
    OwnB w (some ⟨g, 0, none⟩) c xs := .inr ⟨g, full, rfl, hg, h3, h2, h1, h4⟩
theorem OwnB.cap {w : World} {A : Option Addr} {c : Nat} {xs : List UInt8} (h : OwnB w A c xs) : xs.length ≤ c ∧ c ≤ maxLen := by
  rcases h.form with ⟨_, rfl, rfl⟩ | ⟨_, _, _, _, h1, h2, _⟩
  · simp [maxLen]
  · exact ⟨h1, h2⟩
theorem OwnB.reads {w : World} {A : Option Addr} {c : Nat} {xs : List UInt8} (h : OwnB w A c xs) : Bs w A xs.length xs := by
  refine ⟨rfl, fun j u hj => ?_⟩
  rcases h.form with ⟨_, rfl, _⟩ | ⟨g, cur, rfl, hg, _, _, _, ht⟩
  · simp at hj
  · refine ⟨_, rfl, ?_⟩
    have hl : j < xs.length := (List.getElem?_eq_some_iff.1 hj).1
    have e : (cur.toList.take xs.length)[j]? = some (bv u) := by rw [ht]; simp [hj]
    rw [List.getElem?_take, if_pos hl] at e
    rw [add_zero_lit]
    simp [World.cell?, hg] at e ⊢
    exact e
theorem OwnB.keep {w w' : World} {A : Option Addr} {c : Nat} {xs : List UInt8} (h : OwnB w A c xs) (hk : ∀ g o, A = some ⟨g, 0, none⟩ → w.heap[g]? = some o → w'.heap[g]? = some o) : OwnB w' A c xs := by
  rcases h with h | ⟨g, full, h1, h2, r⟩
  · exact .inl h
  · exact .inr ⟨g, full, h1, hk g _ h1 h2, r⟩
theorem OwnB.chg {S : List Nat} {w w' : World} {A : Option Addr} {c : Nat} {xs : List UInt8} (h : OwnB w A c xs) (hc : Chg S w w') (hn : ∀ a, A = some a → a.block ∉ S) : OwnB w' A c xs :=
  h.keep fun _ _ e ho => hc.at_ ho (hn _ e)

theorem OwnB.ne {w : World} {A : Option Addr} {c : Nat} {xs : List UInt8} (h : OwnB w A c xs) {b : Nat} {cs : Array Value} {t : TypeId} {fr : Nat × Nat} (hb : w.heap[b]? = some (.cells cs t fr)) (ht : t ≠ 5) : ∀ a, A = some a → a.block ≠ b := by
  rintro a rfl e
  rcases h.form with ⟨h, _⟩ | ⟨g', cur, h, h4, _⟩
  · cases h
  · cases h
    subst e
    rw [hb] at h4
    cases h4
    exact ht rfl
/-- A block is as it was behind a step that turned one row alone. -/
theorem grown_at {w w' : World} {A : Option Addr} {b : Nat} {o : Obj} (hg : w.grownBy w' (A.map (·.block))) (hb : w.heap[b]? = some o) (hn : ∀ a, A = some a → a.block ≠ b) : w'.heap[b]? = some o :=
  (hg.block b (lt_of_heap hb) (fun e => by
    cases A with
    | none => cases e
    | some a => simp at e; exact hn a rfl e.symm)).trans hb
theorem cell_of {w : World} {b : Nat} {cs : Array Value} {t : TypeId} {fr : Nat × Nat} (h : w.heap[b]? = some (.cells cs t fr)) (j : Nat) : w.cell? ⟨b, j, none⟩ = cs[j]? := by simp [World.cell?, h]
theorem free_of {w : World} {b : Nat} {cs : Array Value} {t : TypeId} (h : w.heap[b]? = some (.cells cs t (0, 0))) (j : Nat) : w.frozen? ⟨b, j, none⟩ = false := by simp [World.frozen?, h]

/-- A string of bytes. -/
def strOf (ys : List UInt8) : ByteArray := ⟨ys.toArray⟩
theorem strOf_data (ys : List UInt8) : (strOf ys).data.toList = ys := by simp [strOf]
theorem strOf_size (ys : List UInt8) : (strOf ys).size = ys.length := by simp [strOf, ByteArray.size]
@[go_sem] theorem strOf_toList (ys : List UInt8) : (strOf ys).toList = ys := ByteArray.toList_mk ys
theorem info8 : (Try.prog.info? 5).map (fun i => (i.zero, i.size, i.bytes)) = some (some (.int .u8 0), 1, 1) := by kernel_rfl

/-- Bytes, then zeros. -/
theorem zeros_bv (n : Nat) : Builtin.zeroCells (Value.int .u8 0).cells n = ((List.replicate n (0 : UInt8)).map bv).toArray := by
  apply Array.toList_inj.1
  rw [List.map_replicate]
  have hz : bv 0 = .int .u8 0 := rfl
  rw [hz]
  apply List.ext_getElem
  · simp [Builtin.zeroCells, Value.cells]
  · intro i h1 h2
    simp [Builtin.zeroCells, Value.cells, Nat.mod_one]

end Go.Proofs.Ytleioiihoplmaaa
