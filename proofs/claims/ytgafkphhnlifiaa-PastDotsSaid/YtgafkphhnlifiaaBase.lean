/- Words on memory that the walks over this seat share: bytes read, bytes owned, what a step leaves alone. No function of the program is named here. -/
import Derived.Test.YtgafkphhnlifiaaRows
import Derived.WalkKit
import Derived.WalkSpells
import Derived.WalkLawsBesides
import Derived.LaidEqlPtr
import Derived.Lib.Hide
import Derived.Maps.AppendAt
namespace Go.Proofs.Ytgafkphhnlifiaa
open Go.RowKit

/-- A byte as a value. -/
def bv (c : UInt8) : Value := .int .u8 (c.toNat : Int)

theorem bv_one (c : UInt8) : (bv c).oneCell' = true := rfl

/-- Outside the blocks S nothing that was there has turned. -/
structure Chg (S : List Nat) (w w' : World) : Prop where
  os : w'.os = w.os
  tape : w'.tape = w.tape
  output : w'.output = w.output
  size : w.heap.size ≤ w'.heap.size
  block : ∀ k, k < w.heap.size → k ∉ S → w'.heap[k]? = w.heap[k]?

theorem Chg.refl (S : List Nat) (w : World) : Chg S w w := ⟨rfl, rfl, rfl, Nat.le_refl _, fun _ _ _ => rfl⟩
theorem Chg.trans {S : List Nat} {a b c : World} (h : Chg S a b) (k : Chg S b c) : Chg S a c :=
  ⟨k.os.trans h.os, k.tape.trans h.tape, k.output.trans h.output, Nat.le_trans h.size k.size, fun i hi hn => (k.block i (Nat.lt_of_lt_of_le hi h.size) hn).trans (h.block i hi hn)⟩
/-- A later step may turn blocks that were not there at first. -/
theorem Chg.trans' {S S' : List Nat} {a b c : World} (h : Chg S a b) (k : Chg S' b c) (hs : ∀ i ∈ S', i ∈ S ∨ a.heap.size ≤ i) : Chg S a c :=
  ⟨k.os.trans h.os, k.tape.trans h.tape, k.output.trans h.output, Nat.le_trans h.size k.size, fun i hi hn => (k.block i (Nat.lt_of_lt_of_le hi h.size) (fun hm => by
    rcases hs i hm with h1 | h1
    · exact hn h1
    · omega)).trans (h.block i hi hn)⟩
theorem Chg.mono {S S' : List Nat} {a b : World} (h : Chg S a b) (hs : ∀ i ∈ S, i ∈ S' ∨ a.heap.size ≤ i) : Chg S' a b :=
  ⟨h.os, h.tape, h.output, h.size, fun i hi hn => h.block i hi (fun hm => by
    rcases hs i hm with h1 | h1
    · exact hn h1
    · omega)⟩
theorem Chg.drew {S : List Nat} {a w : World} (h : Chg S a w) : Chg S a w.drew := ⟨h.os, h.tape, h.output, h.size, h.block⟩
theorem Chg.drewN {S : List Nat} {a w : World} (h : Chg S a w) (n : Nat) : Chg S a (w.drewN n) := ⟨h.os, h.tape, h.output, h.size, h.block⟩
theorem Chg.alloc {S : List Nat} {a w : World} (h : Chg S a w) (o : Obj) : Chg S a (w.alloc o) :=
  h.trans ⟨rfl, rfl, rfl, by simp, fun k hk _ => Below.heap_alloc _ _ _ hk⟩
theorem Chg.setCell {S : List Nat} {a w : World} (h : Chg S a w) {p : Addr} (hp : p.block ∈ S ∨ a.heap.size ≤ p.block) (u : Value) : Chg S a (w.setCell p u) :=
  ⟨h.os, h.tape, h.output, by simpa [World.setCell] using h.size, fun k hk hn => (Below.heap_setCell _ _ _ _ (by
    rintro rfl
    rcases hp with h1 | h1
    · exact hn h1
    · omega)).trans (h.block k hk hn)⟩
theorem Chg.grown {S : List Nat} {a w w' : World} {row : Option Nat} (h : Chg S a w) (hg : w.grownBy w' row) (hr : ∀ k, row = some k → k ∈ S ∨ a.heap.size ≤ k) : Chg S a w' :=
  ⟨hg.os.trans h.os, hg.tape.trans h.tape, hg.output.trans h.output, Nat.le_trans h.size hg.size, fun k hk hn => (hg.block k (Nat.lt_of_lt_of_le hk h.size) (fun e => by
    rcases hr k e.symm with h1 | h1
    · exact hn h1
    · omega)).trans (h.block k hk hn)⟩
theorem Chg.below {S : List Nat} {a b w : World} {B : Nat} (h : Below B a b) (hc : Chg S b w) (hs : ∀ i ∈ S, B ≤ i) (hB : B ≤ a.heap.size) : Below B a w :=
  ⟨hc.os.trans h.os, hc.tape.trans h.tape, hc.output.trans h.output, Nat.le_trans h.size hc.size, fun k hk => (hc.block k (by have := h.size; omega) (fun hm => by have := hs k hm; omega)).trans (h.block k hk)⟩
theorem Chg.ofBelow {B : Nat} {a b : World} (h : Below B a b) (hB : a.heap.size ≤ B) (S : List Nat) : Chg S a b :=
  ⟨h.os, h.tape, h.output, h.size, fun k hk _ => h.block k (by omega)⟩
theorem Chg.toBelow {a b : World} (h : Chg [] a b) : Below a.heap.size a b := ⟨h.os, h.tape, h.output, h.size, fun k hk => h.block k hk (by simp)⟩

theorem heap_alloc_two (w : World) (o o' : Obj) : ((w.alloc o).alloc o').heap[w.heap.size + 1]? = some o' := by
  have := heap_alloc_new (w.alloc o) o'
  rwa [World.size_alloc] at this
theorem lt_of_heap {w : World} {b : Nat} {o : Obj} (h : w.heap[b]? = some o) : b < w.heap.size := (Array.getElem?_eq_some_iff.1 h).1
theorem Chg.at_ {S : List Nat} {w w' : World} {b : Nat} {o : Obj} (h : Chg S w w') (hb : w.heap[b]? = some o) (hn : b ∉ S) : w'.heap[b]? = some o :=
  (h.block b (lt_of_heap hb) hn).trans hb
theorem lt_of_cell {w : World} {a : Addr} {v : Value} (h : w.cell? a = some v) : a.block < w.heap.size := by
  unfold World.cell? at h
  split at h
  · rename_i hb; exact lt_of_heap hb
  · cases h
theorem Chg.cell {S : List Nat} {w w' : World} {a : Addr} {v : Value} (h : Chg S w w') (hc : w.cell? a = some v) (hn : a.block ∉ S) : w'.cell? a = some v :=
  (World.cell?_of_block (w := w) (h.block _ (lt_of_cell hc) hn)).trans hc

/-- The slice '.slice A n _' reads as these bytes. -/
structure Bs (w : World) (A : Option Addr) (n : Nat) (xs : List UInt8) : Prop where
  len : xs.length = n
  cells : ∀ j c, xs[j]? = some c → ∃ a, A = some a ∧ w.cell? (a.add j) = some (bv c)

theorem cell_of' {w : World} {b : Nat} {cs : Array Value} {t : TypeId} {fr : Nat × Nat} (h : w.heap[b]? = some (.cells cs t fr)) (j : Nat) : w.cell? ⟨b, j, none⟩ = cs[j]? := by simp [World.cell?, h]
/-- One byte in a new block. -/
theorem Bs.one (w : World) (c : UInt8) (x : Int) (hx : x = (c.toNat : Int)) : Bs (w.alloc (.cells #[.int .u8 x] 5)) (some ⟨w.heap.size, 0, none⟩) 1 [c] :=
  ⟨rfl, fun j u hj => by
    cases j with
    | zero =>
      simp at hj
      subst hj hx
      refine ⟨_, rfl, ?_⟩
      have e := cell_of' (heap_alloc_new w (.cells #[.int .u8 (c.toNat : Int)] 5)) 0
      have ea : (⟨w.heap.size, 0, none⟩ : Addr).add 0 = ⟨w.heap.size, 0, none⟩ := by unfold Addr.add; split <;> simp_all
      rw [ea, e]; rfl
    | succ j => simp at hj⟩

theorem block_add (a : Addr) (n : Nat) : (a.add n).block = a.block := by unfold Addr.add; split <;> rfl
theorem add_zero_lit (g j : Nat) : (⟨g, 0, none⟩ : Addr).add j = ⟨g, j, none⟩ := by unfold Addr.add; split <;> simp_all
theorem add_lit (g o j : Nat) : (⟨g, o, none⟩ : Addr).add j = ⟨g, o + j, none⟩ := by unfold Addr.add; split <;> simp_all

/-- A string's bytes in the block that a conversion lays. -/
theorem Bs.str (w : World) (s : ByteArray) (k : Nat) (fr : Nat × Nat) : Bs (w.alloc (.cells (bytesRow s k) 5 fr)).drew (some ⟨w.heap.size, 0, none⟩) s.size s.data.toList :=
  ⟨by rw [Array.length_toList]; rfl, fun j u hj => by
    refine ⟨_, rfl, ?_⟩
    have hl := (List.getElem?_eq_some_iff.1 hj).1
    rw [Array.length_toList] at hl
    have e : (w.alloc (.cells (bytesRow s k) 5 fr)).cell? ⟨w.heap.size, j, none⟩ = (bytesRow s k)[j]? := cell_of' (heap_alloc_new w _) j
    rw [add_zero_lit]
    refine Eq.trans ?_ (e.trans (bytesRow_at s k j hl) |>.trans ?_)
    · rfl
    · simp at hj
      obtain ⟨_, rfl⟩ := Array.getElem?_eq_some_iff.1 hj
      rfl⟩

theorem Bs.nil (w : World) (A : Option Addr) : Bs w A 0 [] := ⟨rfl, by simp⟩
theorem Bs.keep {w w' : World} {A : Option Addr} {n : Nat} {xs : List UInt8} (h : Bs w A n xs) (hk : ∀ (p : Addr) v, (∀ a, A = some a → p.block = a.block) → w.cell? p = some v → w'.cell? p = some v) : Bs w' A n xs :=
  ⟨h.len, fun j c hj => by
    obtain ⟨a, rfl, hc⟩ := h.cells j c hj
    exact ⟨a, rfl, hk _ _ (fun a' e => by cases e; exact block_add _ _) hc⟩⟩
theorem Bs.chg {S : List Nat} {w w' : World} {A : Option Addr} {n : Nat} {xs : List UInt8} (h : Bs w A n xs) (hc : Chg S w w') (hn : ∀ a, A = some a → a.block ∉ S) : Bs w' A n xs :=
  ⟨h.len, fun j c hj => by
    obtain ⟨a, rfl, hx⟩ := h.cells j c hj
    exact ⟨a, rfl, hc.cell hx (by rw [block_add]; exact hn a rfl)⟩⟩
/-- Bytes that lie apart from two blocks (or are none). -/
def Apart (B : Option Addr) (ys : List UInt8) (b g : Nat) : Prop := ys = [] ∨ ∀ a, B = some a → a.block ≠ b ∧ a.block ≠ g
theorem Bs.old {w : World} {A : Option Addr} {n : Nat} {xs : List UInt8} (h : Bs w A n xs) : xs = [] ∨ ∀ a, A = some a → a.block < w.heap.size := by
  cases xs with
  | nil => exact .inl rfl
  | cons x xs =>
    right
    rintro a rfl
    obtain ⟨a', e, hc⟩ := h.cells 0 x rfl
    cases e
    have := lt_of_cell hc
    rwa [block_add] at this
theorem Bs.apart {w : World} {A : Option Addr} {n : Nat} {xs : List UInt8} (h : Bs w A n xs) {b g : Nat} (hb : w.heap.size ≤ b) (hg : w.heap.size ≤ g) : Apart A xs b g := by
  rcases h.old with h | h
  · exact .inl h
  · exact .inr fun a e => by have := h a e; omega
theorem Bs.past {w w1 : World} {b g : Nat} {B : Option Addr} {m : Nat} {ys : List UInt8} (hr : Bs w B m ys) (hc : Chg [b, g] w w1) (hB : Apart B ys b g) : Bs w1 B m ys := by
  rcases hB with rfl | hB
  · have := hr.len
    subst this
    exact Bs.nil w1 B
  · exact hr.chg hc (fun a e => by have := hB a e; simp; exact this)
theorem Bs.below {w w' : World} {B : Nat} {A : Option Addr} {n : Nat} {xs : List UInt8} (h : Bs w A n xs) (hb : Below B w w') (hn : ∀ a, A = some a → a.block < B) : Bs w' A n xs :=
  ⟨h.len, fun j c hj => by
    obtain ⟨a, rfl, hx⟩ := h.cells j c hj
    exact ⟨a, rfl, (hb.cell (by rw [block_add]; exact hn a rfl)).trans hx⟩⟩

/-- The slice '.slice A xs.length c' owns a row of bytes that begins with these. -/
def OwnB (w : World) (A : Option Addr) (c : Nat) (xs : List UInt8) : Prop :=
  (A = none ∧ xs = [] ∧ c = 0) ∨ ∃ (g : Nat) (full : List UInt8), A = some ⟨g, 0, none⟩ ∧ w.heap[g]? = some (.cells (full.map bv).toArray 5 (0, 0)) ∧ full.length = c ∧ c ≤ maxLen ∧ xs.length ≤ c ∧ full.take xs.length = xs

theorem OwnB.none_ (w : World) : OwnB w none 0 [] := .inl ⟨rfl, rfl, rfl⟩
theorem OwnB.form {w : World} {A : Option Addr} {c : Nat} {xs : List UInt8} (h : OwnB w A c xs) :
    (A = none ∧ xs = [] ∧ c = 0) ∨ ∃ g cur, A = some ⟨g, 0, none⟩ ∧ w.heap[g]? = some (.cells cur 5 (0, 0)) ∧ xs.length ≤ c ∧ c ≤ maxLen ∧ cur.size = c ∧ cur.toList.take xs.length = xs.map bv := by
  rcases h with h | ⟨g, full, h1, h2, h3, h4, h5, h6⟩
  · exact .inl h
  · refine .inr ⟨g, _, h1, h2, h5, h4, by simpa using h3, ?_⟩
    show (full.map bv).take xs.length = _
    rw [← List.map_take, h6]
theorem OwnB.of {w : World} {g c : Nat} {full xs : List UInt8} (hg : w.heap[g]? = some (.cells (full.map bv).toArray 5 (0, 0))) (h1 : xs.length ≤ c) (h2 : c ≤ maxLen) (h3 : full.length = c) (h4 : full.take xs.length = xs) :
    OwnB w (some ⟨g, 0, none⟩) c xs := .inr ⟨g, full, rfl, hg, h3, h2, h1, h4⟩
theorem OwnB.cap {w : World} {A : Option Addr} {c : Nat} {xs : List UInt8} (h : OwnB w A c xs) : xs.length ≤ c ∧ c ≤ maxLen := by
  rcases h.form with ⟨_, rfl, rfl⟩ | ⟨_, _, _, _, h1, h2, _⟩
  · simp [maxLen]
  · exact ⟨h1, h2⟩
theorem OwnB.reads {w : World} {A : Option Addr} {c : Nat} {xs : List UInt8} (h : OwnB w A c xs) : Bs w A xs.length xs := by
  refine ⟨rfl, fun j u hj => ?_⟩
  rcases h.form with ⟨_, rfl, _⟩ | ⟨g, cur, rfl, hg, _, _, _, ht⟩
  · simp at hj
  · refine ⟨_, rfl, ?_⟩
    have hl : j < xs.length := (List.getElem?_eq_some_iff.1 hj).1
    have e : (cur.toList.take xs.length)[j]? = some (bv u) := by rw [ht]; simp [hj]
    rw [List.getElem?_take, if_pos hl] at e
    rw [add_zero_lit]
    simp [World.cell?, hg] at e ⊢
    exact e
theorem OwnB.keep {w w' : World} {A : Option Addr} {c : Nat} {xs : List UInt8} (h : OwnB w A c xs) (hk : ∀ g o, A = some ⟨g, 0, none⟩ → w.heap[g]? = some o → w'.heap[g]? = some o) : OwnB w' A c xs := by
  rcases h with h | ⟨g, full, h1, h2, r⟩
  · exact .inl h
  · exact .inr ⟨g, full, h1, hk g _ h1 h2, r⟩
theorem OwnB.chg {S : List Nat} {w w' : World} {A : Option Addr} {c : Nat} {xs : List UInt8} (h : OwnB w A c xs) (hc : Chg S w w') (hn : ∀ a, A = some a → a.block ∉ S) : OwnB w' A c xs :=
  h.keep fun _ _ e ho => hc.at_ ho (hn _ e)

theorem OwnB.ne {w : World} {A : Option Addr} {c : Nat} {xs : List UInt8} (h : OwnB w A c xs) {b : Nat} {cs : Array Value} {t : TypeId} {fr : Nat × Nat} (hb : w.heap[b]? = some (.cells cs t fr)) (ht : t ≠ 5) : ∀ a, A = some a → a.block ≠ b := by
  rintro a rfl e
  rcases h.form with ⟨h, _⟩ | ⟨g', cur, h, h4, _⟩
  · cases h
  · cases h
    subst e
    rw [hb] at h4
    cases h4
    exact ht rfl
/-- A block is as it was behind a step that turned one row alone. -/
theorem grown_at {w w' : World} {A : Option Addr} {b : Nat} {o : Obj} (hg : w.grownBy w' (A.map (·.block))) (hb : w.heap[b]? = some o) (hn : ∀ a, A = some a → a.block ≠ b) : w'.heap[b]? = some o :=
  (hg.block b (lt_of_heap hb) (fun e => by
    cases A with
    | none => cases e
    | some a => simp at e; exact hn a rfl e.symm)).trans hb
theorem cell_of {w : World} {b : Nat} {cs : Array Value} {t : TypeId} {fr : Nat × Nat} (h : w.heap[b]? = some (.cells cs t fr)) (j : Nat) : w.cell? ⟨b, j, none⟩ = cs[j]? := by simp [World.cell?, h]
theorem free_of {w : World} {b : Nat} {cs : Array Value} {t : TypeId} (h : w.heap[b]? = some (.cells cs t (0, 0))) (j : Nat) : w.frozen? ⟨b, j, none⟩ = false := by simp [World.frozen?, h]

/-- A string of bytes. -/
def strOf (ys : List UInt8) : ByteArray := ⟨ys.toArray⟩
theorem strOf_data (ys : List UInt8) : (strOf ys).data.toList = ys := by simp [strOf]
theorem strOf_size (ys : List UInt8) : (strOf ys).size = ys.length := by simp [strOf, ByteArray.size]
@[go_sem] theorem strOf_toList (ys : List UInt8) : (strOf ys).toList = ys := ByteArray.toList_mk ys
theorem run_str (w : World) {A : Option Addr} {n c : Nat} {ys : List UInt8} (h : Bs w A n ys) : (convert 43 9 (.slice A n c)).run Try.prog w = .ok (.string (strOf ys)) w := by
  have hn := h.len
  subst hn
  cases A with
  | none =>
    have hy : ys = [] := by
      cases ys with
      | nil => rfl
      | cons y ys => obtain ⟨a, h, _⟩ := h.cells 0 y rfl; cases h
    subst hy
    exact run_convert_bytes_nil w 43 5 Try.underlying43 Try.underlying5 _ c 9 Try.underlying9
  | some a =>
    refine run_convert_bytes_back w 43 9 5 a c ys Try.underlying43 Try.underlying5 Try.underlying9 (fun j hj => ?_)
    obtain ⟨a', e, hc⟩ := h.cells j _ (List.getElem?_eq_getElem hj)
    cases e
    exact hc

theorem info8 : (Try.prog.info? 5).map (fun i => (i.zero, i.size, i.bytes)) = some (some (.int .u8 0), 1, 1) := by kernel_rfl

/-- Bytes, then zeros. -/
theorem zeros_bv (n : Nat) : Builtin.zeroCells (Value.int .u8 0).cells n = ((List.replicate n (0 : UInt8)).map bv).toArray := by
  apply Array.toList_inj.1
  rw [List.map_replicate]
  have hz : bv 0 = .int .u8 0 := rfl
  rw [hz]
  apply List.ext_getElem
  · simp [Builtin.zeroCells, Value.cells]
  · intro i h1 h2
    simp [Builtin.zeroCells, Value.cells, Nat.mod_one]

set_option maxRecDepth 100000 in
/-- append of bytes to a row that is owned. -/
theorem run_app (w : World) (ty : TypeId) {A : Option Addr} {c : Nat} {xs : List UInt8} (hown : OwnB w A c xs) {B : Option Addr} {m d : Nat} {ys : List UInt8} (hr : Bs w B m ys) (hlen : xs.length + m ≤ 140737488355327) :
    ∃ A' c' w', (Builtin.append_ #[43, 43] ty #[.slice A xs.length c, .slice B m d]).run Try.prog w = .ok (.slice A' (xs.length + m) c') w' ∧ OwnB w' A' c' (xs ++ ys) ∧
      w.grownBy w' (A.map (·.block)) ∧ (A' = A ∨ A' = some ⟨w.heap.size, 0, none⟩) := by
  obtain ⟨i0, hi, hz0, hz1, hz2⟩ := info_parts info8
  have hm := hr.len
  subst hm
  rcases B with _ | ad
  · have hy : ys = [] := by
      cases ys with
      | nil => rfl
      | cons y ys => obtain ⟨a, h, _⟩ := hr.cells 0 y rfl; cases h
    subst hy
    have h0 : (Builtin.append_ #[43, 43] ty #[.slice A xs.length c, .slice none 0 d]).run Try.prog w = .ok (.slice A xs.length c) w := by
      rcases hown.form with ⟨rfl, rfl, rfl⟩ | ⟨g, cur, rfl, _, hnc, _⟩
      · simp [Builtin.append_, run_underlying Try.underlying43, sizeOf, typeInfo, hi, Builtin.lenOf, Builtin.firstCells]
      · simp [Builtin.append_, run_underlying Try.underlying43, sizeOf, typeInfo, hi, Builtin.lenOf, Builtin.firstCells, hnc, storeCells]
    exact ⟨A, c, w, h0, by simpa using hown, World.grownBy.refl w _, .inl rfl⟩
  have hnews : ∀ j u, (ys.map bv)[j]? = some u → w.cell? (ad.add j) = some u := by
    intro j u hu
    rw [List.getElem?_map, Option.map_eq_some_iff] at hu
    obtain ⟨y, hy, rfl⟩ := hu
    obtain ⟨a, e, hc⟩ := hr.cells j y hy
    cases e
    exact hc
  have hl : (ys.map bv).length = ys.length * i0.size := by rw [hz1]; simp
  have h1 : ∀ u ∈ ys.map bv, u.oneCell' = true := by intro u hu; rw [List.mem_map] at hu; obtain ⟨c, _, rfl⟩ := hu; rfl
  have grown : ∀ (old : Nat) (row : Option Nat), let cap' := grownCap w (xs.length + ys.length) old 5
      OwnB (w.drew.alloc (.cells ((xs.map bv).toArray ++ (ys.map bv).toArray ++ Builtin.zeroCells (Value.int .u8 0).cells (cap' - (xs.length + ys.length))) 5)) (some ⟨w.heap.size, 0, none⟩) cap' (xs ++ ys) ∧
      w.grownBy (w.drew.alloc (.cells ((xs.map bv).toArray ++ (ys.map bv).toArray ++ Builtin.zeroCells (Value.int .u8 0).cells (cap' - (xs.length + ys.length))) 5)) row := by
    intro old row cap'
    have hge : xs.length + ys.length ≤ cap' := grownCap_ge w _ old _
    have hcm : cap' ≤ maxLen := grownCap_le_maxLen w _ old _ (by simp only [maxLen]; omega)
    have e : ((xs ++ ys ++ List.replicate (cap' - (xs.length + ys.length)) (0 : UInt8)).map bv).toArray = (xs.map bv).toArray ++ (ys.map bv).toArray ++ ((List.replicate (cap' - (xs.length + ys.length)) (0 : UInt8)).map bv).toArray := by
      simp only [List.map_append, List.append_toArray]
    refine ⟨.of (full := xs ++ ys ++ List.replicate (cap' - (xs.length + ys.length)) 0) ?_ (by simpa using hge) hcm (by simp; omega) List.take_left, ⟨rfl, rfl, rfl, by simp, fun k hk _ => Below.heap_alloc w.drew _ k hk⟩⟩
    rw [zeros_bv, e]
    exact heap_alloc_new w.drew _
  rcases hown with ⟨rfl, rfl, rfl⟩ | ⟨g, full, rfl, hg, hfl, hcm, hnc, htake⟩
  · by_cases hy : ys.length = 0
    · have hn : ys = [] := List.eq_nil_of_length_eq_zero hy
      subst hn
      refine ⟨none, 0, w, ?_, OwnB.none_ w, World.grownBy.refl w _, .inl rfl⟩
      simp [Builtin.append_, run_underlying Try.underlying43, sizeOf, typeInfo, hi, Builtin.lenOf, Builtin.firstCells, loadCells, loadCellsFrom]
    · have hr := run_append_nil (P := Try.prog) w 43 ty 5 i0 (.int .u8 0) Try.underlying43 hi hz0 ad ys.length d (ys.map bv) hl hnews (by omega) (by simp at hlen; omega) (by rw [hz2]; simp at hlen; omega)
      have hgr := grown 0 none
      simp only [List.length_nil, Nat.zero_add, List.map_nil, List.nil_append, Array.empty_append] at hgr ⊢
      exact ⟨_, _, _, hr, hgr.1, hgr.2, .inr rfl⟩
  · by_cases hroom : xs.length + ys.length ≤ c
    · have hfit : xs.length * i0.size + (ys.map bv).length ≤ (full.map bv).toArray.size := by rw [hz1]; simp; omega
      have hr := run_append_room (P := Try.prog) w 43 ty 5 i0 Try.underlying43 hi g xs.length c _ hg ad ys.length d (ys.map bv) hl hnews h1 hroom hfit
      refine ⟨_, _, _, hr, .of (full := full.take xs.length ++ ys ++ full.drop (xs.length + ys.length)) ?_ (by simpa using hroom) hcm (by simp; omega) (by rw [htake, ← List.length_append]; exact List.take_left), ⟨rfl, rfl, rfl, by simp, fun k hk hne => setRow_other w g k _ (fun e => hne (by simp [e]))⟩, .inl rfl⟩
      have hs := setRow_heap w g _ ((full.map bv).toArray.toList.take (xs.length * i0.size) ++ ys.map bv ++ (full.map bv).toArray.toList.drop (xs.length * i0.size + (ys.map bv).length)).toArray _ _ hg
      rw [hs]
      congr 2
      rw [hz1]
      simp
    · have holds : ∀ j u, (xs.map bv)[j]? = some u → w.cell? ((⟨g, 0, none⟩ : Addr).add j) = some u := by
        intro j u hu
        rw [List.getElem?_map, Option.map_eq_some_iff] at hu
        obtain ⟨y, hy, rfl⟩ := hu
        obtain ⟨a, e, hc⟩ := (OwnB.of hg hnc hcm hfl htake).reads.cells j y hy
        cases e
        exact hc
      have hr := run_append_grow (P := Try.prog) w 43 ty 5 i0 (.int .u8 0) Try.underlying43 hi hz0 ⟨g, 0, none⟩ xs.length c (xs.map bv) (by rw [hz1]; simp) holds ad ys.length d (ys.map bv) hl hnews (by omega) (by omega)
        (growslice_fits (by omega) (by rw [hz2]; omega))
      have hgr := grown c (some g)
      exact ⟨_, _, _, hr, hgr.1, hgr.2, .inr rfl⟩

theorem wpList_app {ops : Array Oper} {rest : List Oper} {o : Oper} {a : Act} {w : World} {Q : Exit → Act → World → Prop} (hgd : o.guard = none) (s x : Operand)
    (ho : o.op = .call { callee := .builtin .append, args := #[s, x], argTypes := #[43, 43] })
    {A : Option Addr} {c n : Nat} {xs : List UInt8} (hs : a.eval s = .slice A n c) (hown : OwnB w A c xs) (hn : xs.length = n) {B : Option Addr} {m d : Nat} {ys : List UInt8} (hx : a.eval x = .slice B m d) (hr : Bs w B m ys) (hlen : n + m ≤ 140737488355327)
    (h : ∀ A' c' w', OwnB w' A' c' (xs ++ ys) → w.grownBy w' (A.map (·.block)) → (A' = A ∨ A' = some ⟨w.heap.size, 0, none⟩) → wpList Try.prog ops Q rest (a.put o.dst (.slice A' (n + m) c')) w') : wpList Try.prog ops Q (o :: rest) a w :=
  wpList_plain hgd fun _ hK => by
    subst hn
    obtain ⟨A', c', w', hrun, h2, h3, h4⟩ := run_app w o.type hown (d := d) hr hlen
    unfold Oper.wp execOp
    simp only [ho, resolve, invoke, builtin, Sem.run_bind, Sem.run_pure, Result.andThen_ok, List.map_toArray, List.map_cons, List.map_nil, hs, hx, hrun]
    exact hK _ _ (h A' c' w' h2 h3 h4)
end Go.Proofs.Ytgafkphhnlifiaa
