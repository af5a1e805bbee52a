/- Words on memory that the walks over this seat share: bytes read, bytes owned, what a step leaves alone. No function of the program is named here. cmp.Compare at int, bytes.Compare, cmp.Or at three ints. math/bits.Len64 and wire.width: how many bytes a number takes. The writer of package wire: what each of its calls does. The writer's exported calls: Num, Text, Raw, Out. The writer's Raw, Text and Out. bytes.Clone, the kit's copy, and the writer's Out; the writer's calls whatever came ahead. The reader of package wire: Open, and what tells without reading. The reader's number: what it tells, and what is wrong. The reader's number where no digit follows. The reader's number where digits follow. The reader's number, whatever stands there; Num, Text and Raw. -/
import Derived.Test.YtcnbgdplkobenaaGreatDoorRows
import Derived.WalkKit
import Derived.WalkSpells
import Derived.WalkLawsBesides
import Derived.LaidEqlPtr
import Derived.Lib.Hide
import Derived.Maps.AppendAt
import Derived.Lib.BytesEntry
import Derived.Lib.BitFns
import Derived.Deep.QuietTactic
import Derived.BigQuiet
import Derived.ScopeJumps
namespace Go.Proofs.YtcnbgdplkobenaaGreatDoor
section
open Go.RowKit

/-- A byte as a value. -/
def bv (c : UInt8) : Value := .int .u8 (c.toNat : Int)

/-- Outside the blocks S nothing that was there has turned. -/
structure Chg (S : List Nat) (w w' : World) : Prop where
  os : w'.os = w.os
  tape : w'.tape = w.tape
  output : w'.output = w.output
  size : w.heap.size ≤ w'.heap.size
  block : ∀ k, k < w.heap.size → k ∉ S → w'.heap[k]? = w.heap[k]?

theorem Chg.refl (S : List Nat) (w : World) : Chg S w w := ⟨rfl, rfl, rfl, Nat.le_refl _, fun _ _ _ => rfl⟩
theorem Chg.trans {S : List Nat} {a b c : World} (h : Chg S a b) (k : Chg S b c) : Chg S a c :=
  ⟨k.os.trans h.os, k.tape.trans h.tape, k.output.trans h.output, Nat.le_trans h.size k.size, fun i hi hn => (k.block i (Nat.lt_of_lt_of_le hi h.size) hn).trans (h.block i hi hn)⟩
/-- A later step may turn blocks that were not there at first. -/
theorem Chg.trans' {S S' : List Nat} {a b c : World} (h : Chg S a b) (k : Chg S' b c) (hs : ∀ i ∈ S', i ∈ S ∨ a.heap.size ≤ i) : Chg S a c :=
  ⟨k.os.trans h.os, k.tape.trans h.tape, k.output.trans h.output, Nat.le_trans h.size k.size, fun i hi hn => (k.block i (Nat.lt_of_lt_of_le hi h.size) (fun hm => by
    rcases hs i hm with h1 | h1
    · exact hn h1
    · omega)).trans (h.block i hi hn)⟩
theorem Chg.mono {S S' : List Nat} {a b : World} (h : Chg S a b) (hs : ∀ i ∈ S, i ∈ S' ∨ a.heap.size ≤ i) : Chg S' a b :=
  ⟨h.os, h.tape, h.output, h.size, fun i hi hn => h.block i hi (fun hm => by
    rcases hs i hm with h1 | h1
    · exact hn h1
    · omega)⟩
theorem Chg.drew {S : List Nat} {a w : World} (h : Chg S a w) : Chg S a w.drew := ⟨h.os, h.tape, h.output, h.size, h.block⟩
theorem Chg.drewN {S : List Nat} {a w : World} (h : Chg S a w) (n : Nat) : Chg S a (w.drewN n) := ⟨h.os, h.tape, h.output, h.size, h.block⟩
theorem Chg.alloc {S : List Nat} {a w : World} (h : Chg S a w) (o : Obj) : Chg S a (w.alloc o) :=
  h.trans ⟨rfl, rfl, rfl, by simp, fun k hk _ => Below.heap_alloc _ _ _ hk⟩
theorem Chg.setCell {S : List Nat} {a w : World} (h : Chg S a w) {p : Addr} (hp : p.block ∈ S ∨ a.heap.size ≤ p.block) (u : Value) : Chg S a (w.setCell p u) :=
  ⟨h.os, h.tape, h.output, by simpa [World.setCell] using h.size, fun k hk hn => (Below.heap_setCell _ _ _ _ (by
    rintro rfl
    rcases hp with h1 | h1
    · exact hn h1
    · omega)).trans (h.block k hk hn)⟩
theorem Chg.grown {S : List Nat} {a w w' : World} {row : Option Nat} (h : Chg S a w) (hg : w.grownBy w' row) (hr : ∀ k, row = some k → k ∈ S ∨ a.heap.size ≤ k) : Chg S a w' :=
  ⟨hg.os.trans h.os, hg.tape.trans h.tape, hg.output.trans h.output, Nat.le_trans h.size hg.size, fun k hk hn => (hg.block k (Nat.lt_of_lt_of_le hk h.size) (fun e => by
    rcases hr k e.symm with h1 | h1
    · exact hn h1
    · omega)).trans (h.block k hk hn)⟩
theorem Chg.ofBelow {B : Nat} {a b : World} (h : Below B a b) (hB : a.heap.size ≤ B) (S : List Nat) : Chg S a b :=
  ⟨h.os, h.tape, h.output, h.size, fun k hk _ => h.block k (by omega)⟩
theorem Chg.toBelow {a b : World} (h : Chg [] a b) : Below a.heap.size a b := ⟨h.os, h.tape, h.output, h.size, fun k hk => h.block k hk (by simp)⟩

theorem heap_alloc_two (w : World) (o o' : Obj) : ((w.alloc o).alloc o').heap[w.heap.size + 1]? = some o' := by
  have := heap_alloc_new (w.alloc o) o'
  rwa [World.size_alloc] at this
theorem lt_of_heap {w : World} {b : Nat} {o : Obj} (h : w.heap[b]? = some o) : b < w.heap.size := (Array.getElem?_eq_some_iff.1 h).1
theorem Chg.at_ {S : List Nat} {w w' : World} {b : Nat} {o : Obj} (h : Chg S w w') (hb : w.heap[b]? = some o) (hn : b ∉ S) : w'.heap[b]? = some o :=
  (h.block b (lt_of_heap hb) hn).trans hb
theorem lt_of_cell {w : World} {a : Addr} {v : Value} (h : w.cell? a = some v) : a.block < w.heap.size := by
  unfold World.cell? at h
  split at h
  · rename_i hb; exact lt_of_heap hb
  · cases h
theorem Chg.cell {S : List Nat} {w w' : World} {a : Addr} {v : Value} (h : Chg S w w') (hc : w.cell? a = some v) (hn : a.block ∉ S) : w'.cell? a = some v :=
  (World.cell?_of_block (w := w) (h.block _ (lt_of_cell hc) hn)).trans hc

/-- The slice '.slice A n _' reads as these bytes. -/
structure Bs (w : World) (A : Option Addr) (n : Nat) (xs : List UInt8) : Prop where
  len : xs.length = n
  cells : ∀ j c, xs[j]? = some c → ∃ a, A = some a ∧ w.cell? (a.add j) = some (bv c)

theorem cell_of' {w : World} {b : Nat} {cs : Array Value} {t : TypeId} {fr : Nat × Nat} (h : w.heap[b]? = some (.cells cs t fr)) (j : Nat) : w.cell? ⟨b, j, none⟩ = cs[j]? := by simp [World.cell?, h]
/-- One byte in a new block. -/
theorem Bs.one (w : World) (c : UInt8) (x : Int) (hx : x = (c.toNat : Int)) : Bs (w.alloc (.cells #[.int .u8 x] 5)) (some ⟨w.heap.size, 0, none⟩) 1 [c] :=
  ⟨rfl, fun j u hj => by
    cases j with
    | zero =>
      simp at hj
      subst hj hx
      refine ⟨_, rfl, ?_⟩
      have e := cell_of' (heap_alloc_new w (.cells #[.int .u8 (c.toNat : Int)] 5)) 0
      have ea : (⟨w.heap.size, 0, none⟩ : Addr).add 0 = ⟨w.heap.size, 0, none⟩ := by unfold Addr.add; split <;> simp_all
      rw [ea, e]; rfl
    | succ j => simp at hj⟩

theorem block_add (a : Addr) (n : Nat) : (a.add n).block = a.block := by unfold Addr.add; split <;> rfl
theorem add_zero_lit (g j : Nat) : (⟨g, 0, none⟩ : Addr).add j = ⟨g, j, none⟩ := by unfold Addr.add; split <;> simp_all
theorem add_lit (g o j : Nat) : (⟨g, o, none⟩ : Addr).add j = ⟨g, o + j, none⟩ := by unfold Addr.add; split <;> simp_all

/-- A string's bytes in the block that a conversion lays. -/
theorem Bs.str (w : World) (s : ByteArray) (k : Nat) (fr : Nat × Nat) : Bs (w.alloc (.cells (bytesRow s k) 5 fr)).drew (some ⟨w.heap.size, 0, none⟩) s.size s.data.toList :=
  ⟨by rw [Array.length_toList]; rfl, fun j u hj => by
    refine ⟨_, rfl, ?_⟩
    have hl := (List.getElem?_eq_some_iff.1 hj).1
    rw [Array.length_toList] at hl
    have e : (w.alloc (.cells (bytesRow s k) 5 fr)).cell? ⟨w.heap.size, j, none⟩ = (bytesRow s k)[j]? := cell_of' (heap_alloc_new w _) j
    rw [add_zero_lit]
    refine Eq.trans ?_ (e.trans (bytesRow_at s k j hl) |>.trans ?_)
    · rfl
    · simp at hj
      obtain ⟨_, rfl⟩ := Array.getElem?_eq_some_iff.1 hj
      rfl⟩

theorem Bs.nil (w : World) (A : Option Addr) : Bs w A 0 [] := ⟨rfl, by simp⟩
theorem Bs.keep {w w' : World} {A : Option Addr} {n : Nat} {xs : List UInt8} (h : Bs w A n xs) (hk : ∀ (p : Addr) v, (∀ a, A = some a → p.block = a.block) → w.cell? p = some v → w'.cell? p = some v) : Bs w' A n xs :=
  ⟨h.len, fun j c hj => by
    obtain ⟨a, rfl, hc⟩ := h.cells j c hj
    exact ⟨a, rfl, hk _ _ (fun a' e => by cases e; exact block_add _ _) hc⟩⟩
theorem Bs.chg {S : List Nat} {w w' : World} {A : Option Addr} {n : Nat} {xs : List UInt8} (h : Bs w A n xs) (hc : Chg S w w') (hn : ∀ a, A = some a → a.block ∉ S) : Bs w' A n xs :=
  ⟨h.len, fun j c hj => by
    obtain ⟨a, rfl, hx⟩ := h.cells j c hj
    exact ⟨a, rfl, hc.cell hx (by rw [block_add]; exact hn a rfl)⟩⟩
/-- Bytes that lie apart from two blocks (or are none). -/
def Apart (B : Option Addr) (ys : List UInt8) (b g : Nat) : Prop := ys = [] ∨ ∀ a, B = some a → a.block ≠ b ∧ a.block ≠ g
theorem Bs.old {w : World} {A : Option Addr} {n : Nat} {xs : List UInt8} (h : Bs w A n xs) : xs = [] ∨ ∀ a, A = some a → a.block < w.heap.size := by
  cases xs with
  | nil => exact .inl rfl
  | cons x xs =>
    right
    rintro a rfl
    obtain ⟨a', e, hc⟩ := h.cells 0 x rfl
    cases e
    have := lt_of_cell hc
    rwa [block_add] at this
theorem Bs.apart {w : World} {A : Option Addr} {n : Nat} {xs : List UInt8} (h : Bs w A n xs) {b g : Nat} (hb : w.heap.size ≤ b) (hg : w.heap.size ≤ g) : Apart A xs b g := by
  rcases h.old with h | h
  · exact .inl h
  · exact .inr fun a e => by have := h a e; omega
theorem Bs.past {w w1 : World} {b g : Nat} {B : Option Addr} {m : Nat} {ys : List UInt8} (hr : Bs w B m ys) (hc : Chg [b, g] w w1) (hB : Apart B ys b g) : Bs w1 B m ys := by
  rcases hB with rfl | hB
  · have := hr.len
    subst this
    exact Bs.nil w1 B
  · exact hr.chg hc (fun a e => by have := hB a e; simp; exact this)
/-- The slice '.slice A xs.length c' owns a row of bytes that begins with these. -/
def OwnB (w : World) (A : Option Addr) (c : Nat) (xs : List UInt8) : Prop :=
  (A = none ∧ xs = [] ∧ c = 0) ∨ ∃ (g : Nat) (full : List UInt8), A = some ⟨g, 0, none⟩ ∧ w.heap[g]? = some (.cells (full.map bv).toArray 5 (0, 0)) ∧ full.length = c ∧ c ≤ maxLen ∧ xs.length ≤ c ∧ full.take xs.length = xs

theorem OwnB.none_ (w : World) : OwnB w none 0 [] := .inl ⟨rfl, rfl, rfl⟩
theorem OwnB.form {w : World} {A : Option Addr} {c : Nat} {xs : List UInt8} (h : OwnB w A c xs) :
    (A = none ∧ xs = [] ∧ c = 0) ∨ ∃ g cur, A = some ⟨g, 0, none⟩ ∧ w.heap[g]? = some (.cells cur 5 (0, 0)) ∧ xs.length ≤ c ∧ c ≤ maxLen ∧ cur.size = c ∧ cur.toList.take xs.length = xs.map bv := by
  rcases h with h | ⟨g, full, h1, h2, h3, h4, h5, h6⟩
  · exact .inl h
  · refine .inr ⟨g, _, h1, h2, h5, h4, by simpa using h3, ?_⟩
    show (full.map bv).take xs.length = _
    rw [← List.map_take, h6]
theorem OwnB.of {w : World} {g c : Nat} {full xs : List UInt8} (hg : w.heap[g]? = some (.cells (full.map bv).toArray 5 (0, 0))) (h1 : xs.length ≤ c) (h2 : c ≤ maxLen) (h3 : full.length = c) (h4 : full.take xs.length = xs) :
    OwnB w (some ⟨g, 0, none⟩) c xs := .inr ⟨g, full, rfl, hg, h3, h2, h1, h4⟩
theorem OwnB.cap {w : World} {A : Option Addr} {c : Nat} {xs : List UInt8} (h : OwnB w A c xs) : xs.length ≤ c ∧ c ≤ maxLen := by
  rcases h.form with ⟨_, rfl, rfl⟩ | ⟨_, _, _, _, h1, h2, _⟩
  · simp [maxLen]
  · exact ⟨h1, h2⟩
theorem OwnB.reads {w : World} {A : Option Addr} {c : Nat} {xs : List UInt8} (h : OwnB w A c xs) : Bs w A xs.length xs := by
  refine ⟨rfl, fun j u hj => ?_⟩
  rcases h.form with ⟨_, rfl, _⟩ | ⟨g, cur, rfl, hg, _, _, _, ht⟩
  · simp at hj
  · refine ⟨_, rfl, ?_⟩
    have hl : j < xs.length := (List.getElem?_eq_some_iff.1 hj).1
    have e : (cur.toList.take xs.length)[j]? = some (bv u) := by rw [ht]; simp [hj]
    rw [List.getElem?_take, if_pos hl] at e
    rw [add_zero_lit]
    simp [World.cell?, hg] at e ⊢
    exact e
theorem OwnB.keep {w w' : World} {A : Option Addr} {c : Nat} {xs : List UInt8} (h : OwnB w A c xs) (hk : ∀ g o, A = some ⟨g, 0, none⟩ → w.heap[g]? = some o → w'.heap[g]? = some o) : OwnB w' A c xs := by
  rcases h with h | ⟨g, full, h1, h2, r⟩
  · exact .inl h
  · exact .inr ⟨g, full, h1, hk g _ h1 h2, r⟩
theorem OwnB.chg {S : List Nat} {w w' : World} {A : Option Addr} {c : Nat} {xs : List UInt8} (h : OwnB w A c xs) (hc : Chg S w w') (hn : ∀ a, A = some a → a.block ∉ S) : OwnB w' A c xs :=
  h.keep fun _ _ e ho => hc.at_ ho (hn _ e)

theorem OwnB.ne {w : World} {A : Option Addr} {c : Nat} {xs : List UInt8} (h : OwnB w A c xs) {b : Nat} {cs : Array Value} {t : TypeId} {fr : Nat × Nat} (hb : w.heap[b]? = some (.cells cs t fr)) (ht : t ≠ 5) : ∀ a, A = some a → a.block ≠ b := by
  rintro a rfl e
  rcases h.form with ⟨h, _⟩ | ⟨g', cur, h, h4, _⟩
  · cases h
  · cases h
    subst e
    rw [hb] at h4
    cases h4
    exact ht rfl
/-- A block is as it was behind a step that turned one row alone. -/
theorem grown_at {w w' : World} {A : Option Addr} {b : Nat} {o : Obj} (hg : w.grownBy w' (A.map (·.block))) (hb : w.heap[b]? = some o) (hn : ∀ a, A = some a → a.block ≠ b) : w'.heap[b]? = some o :=
  (hg.block b (lt_of_heap hb) (fun e => by
    cases A with
    | none => cases e
    | some a => simp at e; exact hn a rfl e.symm)).trans hb
theorem cell_of {w : World} {b : Nat} {cs : Array Value} {t : TypeId} {fr : Nat × Nat} (h : w.heap[b]? = some (.cells cs t fr)) (j : Nat) : w.cell? ⟨b, j, none⟩ = cs[j]? := by simp [World.cell?, h]
theorem free_of {w : World} {b : Nat} {cs : Array Value} {t : TypeId} (h : w.heap[b]? = some (.cells cs t (0, 0))) (j : Nat) : w.frozen? ⟨b, j, none⟩ = false := by simp [World.frozen?, h]

/-- A string of bytes. -/
def strOf (ys : List UInt8) : ByteArray := ⟨ys.toArray⟩
theorem strOf_data (ys : List UInt8) : (strOf ys).data.toList = ys := by simp [strOf]
theorem strOf_size (ys : List UInt8) : (strOf ys).size = ys.length := by simp [strOf, ByteArray.size]
@[go_sem] theorem strOf_toList (ys : List UInt8) : (strOf ys).toList = ys := ByteArray.toList_mk ys
theorem run_str (w : World) {A : Option Addr} {n c : Nat} {ys : List UInt8} (h : Bs w A n ys) : (convert 22 9 (.slice A n c)).run Tryz.prog w = .ok (.string (strOf ys)) w := by
  have hn := h.len
  subst hn
  cases A with
  | none =>
    have hy : ys = [] := by
      cases ys with
      | nil => rfl
      | cons y ys => obtain ⟨a, h, _⟩ := h.cells 0 y rfl; cases h
    subst hy
    exact run_convert_bytes_nil w 22 5 Tryz.underlying22 Tryz.underlying5 _ c 9 Tryz.underlying9
  | some a =>
    refine run_convert_bytes_back w 22 9 5 a c ys Tryz.underlying22 Tryz.underlying5 Tryz.underlying9 (fun j hj => ?_)
    obtain ⟨a', e, hc⟩ := h.cells j _ (List.getElem?_eq_getElem hj)
    cases e
    exact hc

theorem info8 : (Tryz.prog.info? 5).map (fun i => (i.zero, i.size, i.bytes)) = some (some (.int .u8 0), 1, 1) := by kernel_rfl

/-- Bytes, then zeros. -/
theorem zeros_bv (n : Nat) : Builtin.zeroCells (Value.int .u8 0).cells n = ((List.replicate n (0 : UInt8)).map bv).toArray := by
  apply Array.toList_inj.1
  rw [List.map_replicate]
  have hz : bv 0 = .int .u8 0 := rfl
  rw [hz]
  apply List.ext_getElem
  · simp [Builtin.zeroCells, Value.cells]
  · intro i h1 h2
    simp [Builtin.zeroCells, Value.cells, Nat.mod_one]

set_option maxRecDepth 100000 in
/-- append of bytes to a row that is owned. -/
theorem run_app (w : World) (ty : TypeId) {A : Option Addr} {c : Nat} {xs : List UInt8} (hown : OwnB w A c xs) {B : Option Addr} {m d : Nat} {ys : List UInt8} (hr : Bs w B m ys) (hlen : xs.length + m ≤ 140737488355327) :
    ∃ A' c' w', (Builtin.append_ #[22, 22] ty #[.slice A xs.length c, .slice B m d]).run Tryz.prog w = .ok (.slice A' (xs.length + m) c') w' ∧ OwnB w' A' c' (xs ++ ys) ∧
      w.grownBy w' (A.map (·.block)) ∧ (A' = A ∨ A' = some ⟨w.heap.size, 0, none⟩) := by
  obtain ⟨i0, hi, hz0, hz1, hz2⟩ := info_parts info8
  have hm := hr.len
  subst hm
  rcases B with _ | ad
  · have hy : ys = [] := by
      cases ys with
      | nil => rfl
      | cons y ys => obtain ⟨a, h, _⟩ := hr.cells 0 y rfl; cases h
    subst hy
    have h0 : (Builtin.append_ #[22, 22] ty #[.slice A xs.length c, .slice none 0 d]).run Tryz.prog w = .ok (.slice A xs.length c) w := by
      rcases hown.form with ⟨rfl, rfl, rfl⟩ | ⟨g, cur, rfl, _, hnc, _⟩
      · simp [Builtin.append_, run_underlying Tryz.underlying22, sizeOf, typeInfo, hi, Builtin.lenOf, Builtin.firstCells]
      · simp [Builtin.append_, run_underlying Tryz.underlying22, sizeOf, typeInfo, hi, Builtin.lenOf, Builtin.firstCells, hnc, storeCells]
    exact ⟨A, c, w, h0, by simpa using hown, World.grownBy.refl w _, .inl rfl⟩
  have hnews : ∀ j u, (ys.map bv)[j]? = some u → w.cell? (ad.add j) = some u := by
    intro j u hu
    rw [List.getElem?_map, Option.map_eq_some_iff] at hu
    obtain ⟨y, hy, rfl⟩ := hu
    obtain ⟨a, e, hc⟩ := hr.cells j y hy
    cases e
    exact hc
  have hl : (ys.map bv).length = ys.length * i0.size := by rw [hz1]; simp
  have h1 : ∀ u ∈ ys.map bv, u.oneCell' = true := by intro u hu; rw [List.mem_map] at hu; obtain ⟨c, _, rfl⟩ := hu; rfl
  have grown : ∀ (old : Nat) (row : Option Nat), let cap' := grownCap w (xs.length + ys.length) old 5
      OwnB (w.drew.alloc (.cells ((xs.map bv).toArray ++ (ys.map bv).toArray ++ Builtin.zeroCells (Value.int .u8 0).cells (cap' - (xs.length + ys.length))) 5)) (some ⟨w.heap.size, 0, none⟩) cap' (xs ++ ys) ∧
      w.grownBy (w.drew.alloc (.cells ((xs.map bv).toArray ++ (ys.map bv).toArray ++ Builtin.zeroCells (Value.int .u8 0).cells (cap' - (xs.length + ys.length))) 5)) row := by
    intro old row cap'
    have hge : xs.length + ys.length ≤ cap' := grownCap_ge w _ old _
    have hcm : cap' ≤ maxLen := grownCap_le_maxLen w _ old _ (by simp only [maxLen]; omega)
    have e : ((xs ++ ys ++ List.replicate (cap' - (xs.length + ys.length)) (0 : UInt8)).map bv).toArray = (xs.map bv).toArray ++ (ys.map bv).toArray ++ ((List.replicate (cap' - (xs.length + ys.length)) (0 : UInt8)).map bv).toArray := by
      simp only [List.map_append, List.append_toArray]
    refine ⟨.of (full := xs ++ ys ++ List.replicate (cap' - (xs.length + ys.length)) 0) ?_ (by simpa using hge) hcm (by simp; omega) List.take_left, ⟨rfl, rfl, rfl, by simp, fun k hk _ => Below.heap_alloc w.drew _ k hk⟩⟩
    rw [zeros_bv, e]
    exact heap_alloc_new w.drew _
  rcases hown with ⟨rfl, rfl, rfl⟩ | ⟨g, full, rfl, hg, hfl, hcm, hnc, htake⟩
  · by_cases hy : ys.length = 0
    · have hn : ys = [] := List.eq_nil_of_length_eq_zero hy
      subst hn
      refine ⟨none, 0, w, ?_, OwnB.none_ w, World.grownBy.refl w _, .inl rfl⟩
      simp [Builtin.append_, run_underlying Tryz.underlying22, sizeOf, typeInfo, hi, Builtin.lenOf, Builtin.firstCells, loadCells, loadCellsFrom]
    · have hr := run_append_nil (P := Tryz.prog) w 22 ty 5 i0 (.int .u8 0) Tryz.underlying22 hi hz0 ad ys.length d (ys.map bv) hl hnews (by omega) (by simp at hlen; omega) (by rw [hz2]; simp at hlen; omega)
      have hgr := grown 0 none
      simp only [List.length_nil, Nat.zero_add, List.map_nil, List.nil_append, Array.empty_append] at hgr ⊢
      exact ⟨_, _, _, hr, hgr.1, hgr.2, .inr rfl⟩
  · by_cases hroom : xs.length + ys.length ≤ c
    · have hfit : xs.length * i0.size + (ys.map bv).length ≤ (full.map bv).toArray.size := by rw [hz1]; simp; omega
      have hr := run_append_room (P := Tryz.prog) w 22 ty 5 i0 Tryz.underlying22 hi g xs.length c _ hg ad ys.length d (ys.map bv) hl hnews h1 hroom hfit
      refine ⟨_, _, _, hr, .of (full := full.take xs.length ++ ys ++ full.drop (xs.length + ys.length)) ?_ (by simpa using hroom) hcm (by simp; omega) (by rw [htake, ← List.length_append]; exact List.take_left), ⟨rfl, rfl, rfl, by simp, fun k hk hne => setRow_other w g k _ (fun e => hne (by simp [e]))⟩, .inl rfl⟩
      have hs := setRow_heap w g _ ((full.map bv).toArray.toList.take (xs.length * i0.size) ++ ys.map bv ++ (full.map bv).toArray.toList.drop (xs.length * i0.size + (ys.map bv).length)).toArray _ _ hg
      rw [hs]
      congr 2
      rw [hz1]
      simp
    · have holds : ∀ j u, (xs.map bv)[j]? = some u → w.cell? ((⟨g, 0, none⟩ : Addr).add j) = some u := by
        intro j u hu
        rw [List.getElem?_map, Option.map_eq_some_iff] at hu
        obtain ⟨y, hy, rfl⟩ := hu
        obtain ⟨a, e, hc⟩ := (OwnB.of hg hnc hcm hfl htake).reads.cells j y hy
        cases e
        exact hc
      have hr := run_append_grow (P := Tryz.prog) w 22 ty 5 i0 (.int .u8 0) Tryz.underlying22 hi hz0 ⟨g, 0, none⟩ xs.length c (xs.map bv) (by rw [hz1]; simp) holds ad ys.length d (ys.map bv) hl hnews (by omega) (by omega)
        (growslice_fits (by omega) (by rw [hz2]; omega))
      have hgr := grown c (some g)
      exact ⟨_, _, _, hr, hgr.1, hgr.2, .inr rfl⟩

theorem wpList_app {ops : Array Oper} {rest : List Oper} {o : Oper} {a : Act} {w : World} {Q : Exit → Act → World → Prop} (hgd : o.guard = none) (s x : Operand)
    (ho : o.op = .call { callee := .builtin .append, args := #[s, x], argTypes := #[22, 22] })
    {A : Option Addr} {c n : Nat} {xs : List UInt8} (hs : a.eval s = .slice A n c) (hown : OwnB w A c xs) (hn : xs.length = n) {B : Option Addr} {m d : Nat} {ys : List UInt8} (hx : a.eval x = .slice B m d) (hr : Bs w B m ys) (hlen : n + m ≤ 140737488355327)
    (h : ∀ A' c' w', OwnB w' A' c' (xs ++ ys) → w.grownBy w' (A.map (·.block)) → (A' = A ∨ A' = some ⟨w.heap.size, 0, none⟩) → wpList Tryz.prog ops Q rest (a.put o.dst (.slice A' (n + m) c')) w') : wpList Tryz.prog ops Q (o :: rest) a w :=
  wpList_plain hgd fun _ hK => by
    subst hn
    obtain ⟨A', c', w', hrun, h2, h3, h4⟩ := run_app w o.type hown (d := d) hr hlen
    unfold Oper.wp execOp
    simp only [ho, resolve, invoke, builtin, Sem.run_bind, Sem.run_pure, Result.andThen_ok, List.map_toArray, List.map_cons, List.map_nil, hs, hx, hrun]
    exact hK _ _ (h A' c' w' h2 h3 h4)
end
section
open Go.RowKit
end
section
open Go.RowKit

theorem tab_get (i : Nat) (h : i < Lib.len8tab.size) : ((Lib.len8tab[i]).toNat : Int) = (Lib.bitLen i : Int) := by
  have hi : i < 256 := by rw [Lib.len8tab_size] at h; exact h
  have e := Lib.len8_of (i : Int) (by omega) (by omega)
  simp only [Lib.len8, Int.toNat_natCast] at e
  rw [← e, ByteArray.getElem?_lt' _ _ h, Option.getD_some]

theorem len_way (k : Nat) (x y : Int) (h0 : 0 ≤ x) (h1 : x ≤ 18446744073709551615) (hy : y = x / (2 ^ k : Nat)) (hk : k = 0 ∨ 1 ≤ y) (h2 : y < 256) (h : y.toNat < Lib.len8tab.size) :
    wrap64 ((k : Int) + wrap64 ((Lib.len8tab[y.toNat]).toNat : Int)) = (Lib.bitLen x.toNat : Int) := by
  have hb := Lib.bitLen_le8' y (by rw [hy]; exact Int.ediv_nonneg h0 (Int.natCast_nonneg _)) (by omega)
  rw [tab_get]
  have e : Lib.bitLen x.toNat = k + Lib.bitLen y.toNat := by
    rcases hk with rfl | hk
    · simp at hy; subst hy; simp
    · have hd : y.toNat = x.toNat / 2 ^ k := by
        subst hy
        obtain ⟨n, rfl⟩ := Int.eq_ofNat_of_zero_le h0
        rw [← Int.natCast_ediv]; exact Int.toNat_natCast _
      have hle : 2 ^ k ≤ x.toNat := by
        rcases Nat.lt_or_ge x.toNat (2 ^ k) with hlt | hge
        · rw [Nat.div_eq_of_lt hlt] at hd; omega
        · exact hge
      rw [hd]
      exact Lib.bitLen_shift k x.toNat hle (by omega)
  have hx := Lib.bitLen_le x.toNat 64 (by omega) (by omega)
  rw [e] at hx ⊢
  unfold wrap64
  omega

set_option maxHeartbeats 1000000 in
set_option maxRecDepth 100000 in
theorem len64_any (x : Int) (w : World) (h0 : 0 ≤ x) (h1 : x ≤ 18446744073709551615) :
    Calls Tryz.prog 115 #[.int .u64 x] w fun e w' => e = .returned (.int .i64 (Lib.bitLen x.toNat)) ∧ w = w' := by
  have hz : Lib.len8tab.size = 256 := by decide +kernel
  go_enter Tryz.func115, Tryz.ntmps115
  go_wp2
  all_goals (go_ret; refine ⟨congrArg Ending.returned (congrArg (Value.int IntKind.i64) ?_), rfl⟩)
  · exact len_way 56 x _ h0 h1 (by omega) (by omega) (by omega) _
  · exact len_way 48 x _ h0 h1 (by omega) (by omega) (by omega) _
  · exact len_way 40 x _ h0 h1 (by omega) (by omega) (by omega) _
  · exact len_way 32 x _ h0 h1 (by omega) (by omega) (by omega) _
  · exact len_way 24 x _ h0 h1 (by omega) (by omega) (by omega) _
  · exact len_way 16 x _ h0 h1 (by omega) (by omega) (by omega) _
  · exact len_way 8 x _ h0 h1 (by omega) (by omega) (by omega) _
  · have e := len_way 0 x _ h0 h1 (by omega) (by omega) (by omega) (by omega : x.toNat < Lib.len8tab.size)
    simpa using e
/-- How many bytes follow the one that counts them. -/
def nb (n : Nat) : Nat := (Lib.bitLen n + 7) / 8

theorem nb_le (n : Nat) (h : n < 18446744073709551616) : nb n ≤ 8 := by
  have := Lib.bitLen_le n 64 (by omega) (by omega)
  unfold nb; omega

/-- The lowest k digits to the base 256, the highest first. -/
def be : Nat → Nat → List UInt8
  | 0, _ => []
  | k + 1, n => UInt8.ofNat (n / 256 ^ k) :: be k n
theorem be_len : ∀ (k n : Nat), (be k n).length = k
  | 0, _ => rfl
  | k + 1, n => by simp [be, be_len k n]
/-- A number's form. -/
def enc (n : Nat) : List UInt8 := UInt8.ofNat (nb n) :: be (nb n) n
theorem enc_len (n : Nat) : (enc n).length = 1 + nb n := by simp [enc, be_len]; omega

set_option maxHeartbeats 400000 in
theorem width_any (x : Int) (w : World) (h0 : 0 ≤ x) (h1 : x ≤ 9223372036854775807) :
    Calls Tryz.prog 74 #[.int .i64 x] w fun e w' => e = .returned (.int .i64 (1 + (nb x.toNat : Int))) ∧ w = w' := by
  have hx := Lib.bitLen_le x.toNat 64 (by omega) (by omega)
  go_enter Tryz.func74, Tryz.ntmps74
  go_wp2_with (go_at_call 115; refine (len64_any _ _ (by omega) (by omega)).mono ?_; rintro e w' ⟨rfl, rfl⟩)
  go_ret
  refine ⟨congrArg Ending.returned (congrArg (Value.int IntKind.i64) ?_), rfl⟩
  unfold nb
  omega
end
section
open Go.RowKit

/-- A writer at block b that has written xs (in row g; g = b: in none yet) and found the error e. -/
def Wrt (w : World) (b g : Nat) (xs : List UInt8) (e : Int) : Prop :=
  ∃ A c, w.heap[b]? = some (.cells #[.pointer (some ⟨b, 0, none⟩), .slice A xs.length c, .int .i64 e] 113 (0, 0)) ∧ OwnB w A c xs ∧ (A = none ∧ g = b ∨ A = some ⟨g, 0, none⟩)

theorem Wrt.chg {S : List Nat} {w w' : World} {b g : Nat} {xs : List UInt8} {e : Int} (h : Wrt w b g xs e) (hc : Chg S w w') (hb : b ∉ S) (hg : g ∉ S) : Wrt w' b g xs e := by
  obtain ⟨A, c, h1, h2, h3⟩ := h
  refine ⟨A, c, hc.at_ h1 hb, h2.chg hc ?_, h3⟩
  rintro a rfl
  rcases h3 with ⟨h3, _⟩ | h3
  · cases h3
  · cases h3; exact hg
theorem Wrt.lt {w : World} {b g : Nat} {xs : List UInt8} {e : Int} (h : Wrt w b g xs e) : b < w.heap.size ∧ g < w.heap.size := by
  obtain ⟨A, c, h1, h2, h3⟩ := h
  have hb := lt_of_heap h1
  rcases h3 with ⟨_, rfl⟩ | rfl
  · exact ⟨hb, hb⟩
  · rcases h2.form with ⟨h, _⟩ | ⟨g', cur, h, h4, _⟩
    · cases h
    · cases h; exact ⟨hb, lt_of_heap h4⟩

theorem someW : (Tryz.prog.info? 113).isSome = true := by kernel_rfl
theorem eqlPW (a : Addr) (w : World) : (binOp .eql 62 (.pointer (some a)) (.pointer (some a))).run Tryz.prog w = .ok (.bool true) w := by
  obtain ⟨j, hj⟩ := Option.isSome_iff_exists.1 someW
  exact run_eql_ptr_same w a Tryz.underlying62 hj

/-- What an append that is stored in the writer's field leaves. -/
theorem wrt_put {w w1 : World} {b g : Nat} {xs zs : List UInt8} {e : Int} {A A' : Option Addr} {c c' n : Nat} (h1 : w.heap[b]? = some (.cells #[.pointer (some ⟨b, 0, none⟩), .slice A xs.length c, .int .i64 e] 113 (0, 0))) (h2 : OwnB w A c xs)
    (h3 : A = none ∧ g = b ∨ A = some ⟨g, 0, none⟩) (own1 : OwnB w1 A' c' zs) (hg1 : w.grownBy w1 (A.map (·.block))) (hA1 : A' = A ∨ A' = some ⟨w.heap.size, 0, none⟩) (hn : n = zs.length) :
    ∃ g', Wrt (w1.setCell ⟨b, 1, none⟩ (.slice A' n c')) b g' zs e ∧ Chg [b, g] w (w1.setCell ⟨b, 1, none⟩ (.slice A' n c')) ∧ (g' = g ∨ w.heap.size ≤ g') := by
  subst hn
  have hne := h2.ne h1 (by decide)
  have hb := lt_of_heap h1
  have q1 := grown_at hg1 h1 hne
  have q2 := heap_setCell_same w1 b 1 _ _ (.slice A' zs.length c') q1
  have hne' := own1.ne q1 (by decide)
  have own2 : OwnB (w1.setCell ⟨b, 1, none⟩ (.slice A' zs.length c')) A' c' zs := own1.keep fun g o eA ho => by
    rw [Below.heap_setCell _ _ _ _ (by have := hne' _ eA; exact this)]; exact ho
  have hc : Chg [b, g] w (w1.setCell ⟨b, 1, none⟩ (.slice A' zs.length c')) :=
    ((Chg.refl _ _).grown hg1 (fun k hk => by
      rcases h3 with ⟨rfl, _⟩ | rfl
      · cases hk
      · simp at hk; subst hk; simp)).setCell (by simp) _
  rcases hA1 with rfl | rfl
  · exact ⟨g, ⟨A', c', by simpa using q2, own2, h3⟩, hc, .inl rfl⟩
  · exact ⟨w.heap.size, ⟨_, c', by simpa using q2, own2, .inr rfl⟩, hc, .inr (Nat.le_refl _)⟩

set_option maxHeartbeats 400000 in
theorem put_any (w : World) (b g : Nat) (xs : List UInt8) (e : Int) (B : Option Addr) (m d : Nat) (ys : List UInt8) (h : Wrt w b g xs e) (hr : Bs w B m ys) (hlen : xs.length + m ≤ 140737488355327) :
    Calls Tryz.prog 75 #[.pointer (some ⟨b, 0, none⟩), .slice B m d] w fun r w' => r = .returned (.tuple #[]) ∧ ∃ g', Wrt w' b g' (xs ++ ys) e ∧ Chg [b, g] w w' ∧ (g' = g ∨ w.heap.size ≤ g') := by
  obtain ⟨A, c, h1, h2, h3⟩ := h
  have hne := h2.ne h1 (by decide)
  have k1 := cell_of h1 1
  simp only [List.getElem?_toArray, List.getElem?_cons_succ, List.getElem?_cons_zero] at k1
  have H1 := Lib.hid h1
  have H3 := Lib.hid h3
  clear h1 h3
  go_enter Tryz.func75, Tryz.ntmps75
  go_wp2_with (at_builtin; refine wpList_app rfl _ _ rfl rfl h2 rfl rfl hr hlen ?_; intro A' c' w1 own1 hg1 hA1; have q1 := grown_at hg1 H1.out hne; have Q1 := Lib.hid q1; have q2 := cell_of q1 1; have q3 := free_of q1 1; simp only [List.getElem?_toArray, List.getElem?_cons_succ, List.getElem?_cons_zero] at q2; clear q1)
  go_end0
  exact ⟨rfl, wrt_put H1.out h2 H3.out own1 hg1 hA1 (by simp [hr.len])⟩

set_option maxHeartbeats 400000 in
theorem new_any (w : World) :
    Calls Tryz.prog 31 #[] w fun r w' => r = .returned (.pointer (some ⟨w.heap.size, 0, none⟩)) ∧ Wrt w' w.heap.size w.heap.size [] 0 ∧ Chg [] w w' := by
  go_enter Tryz.func31, Tryz.ntmps31
  go_wp2
  go_ret
  exact ⟨rfl, ⟨none, 0, heap_alloc_new w _, OwnB.none_ _, .inl ⟨rfl, rfl⟩⟩, (Chg.refl _ _).alloc _⟩

set_option maxHeartbeats 400000 in
theorem made_yes (w : World) (b g : Nat) (xs : List UInt8) (e : Int) (h : Wrt w b g xs e) :
    Calls Tryz.prog 72 #[.pointer (some ⟨b, 0, none⟩)] w fun e w' => e = .returned (.bool true) ∧ w = w' := by
  obtain ⟨A, c, h1, _, _⟩ := h
  have h0 := cell_of h1 0
  simp only [List.getElem?_toArray, List.getElem?_cons_zero] at h0
  have H := Lib.hid h1
  clear h1
  have h1 := eqlPW ⟨b, 0, none⟩
  go_enter Tryz.func72, Tryz.ntmps72
  go_wp2
  go_ret
  exact ⟨rfl, rfl⟩

theorem u8_of (x : Int) (k : Nat) (h : x = (k : Int)) (hk : k < 256) : x = ((UInt8.ofNat k).toNat : Int) := by
  rw [UInt8.toNat_ofNat', Nat.mod_eq_of_lt hk]; exact h

theorem u8_shift (n k : Nat) : ((n : Int) / 2 ^ (8 * k) % 256) = ((UInt8.ofNat (n / 256 ^ k)).toNat : Int) := by
  rw [UInt8.toNat_ofNat']
  have e : (2 : Int) ^ (8 * k) = ((256 ^ k : Nat) : Int) := by
    rw [Int.pow_mul, show (2 : Int) ^ 8 = ((256 : Nat) : Int) from rfl, ← Int.natCast_pow]
  rw [e]
  omega

/-- What is known of a world between two bytes of a number. -/
def Between (w wr : World) (b g : Nat) (xs : List UInt8) (e : Int) : Prop := ∃ g', Wrt wr b g' xs e ∧ Chg [b, g] w wr ∧ (g' = g ∨ w.heap.size ≤ g')

theorem Between.put {w wr w' : World} {b g g' : Nat} {xs ys : List UInt8} {e : Int} (hc : Chg [b, g] w wr) (hg : g' = g ∨ w.heap.size ≤ g') {o : Obj}
    (h : ∃ g2, Wrt w' b g2 (xs ++ ys) e ∧ Chg [b, g'] (wr.alloc o) w' ∧ (g2 = g' ∨ (wr.alloc o).heap.size ≤ g2)) : Between w w' b g (xs ++ ys) e := by
  obtain ⟨g2, h1, h2, h3⟩ := h
  refine ⟨g2, h1, (hc.alloc o).trans' h2 ?_, ?_⟩
  · intro i hi
    simp at hi ⊢
    rcases hi with rfl | rfl
    · exact .inl (.inl rfl)
    · rcases hg with rfl | hg
      · exact .inl (.inr rfl)
      · exact .inr hg
  · have := hc.size
    rcases h3 with rfl | h3
    · exact hg
    · simp at h3; right; omega

set_option maxHeartbeats 400000 in
theorem number_any (w : World) (b g : Nat) (xs : List UInt8) (e : Int) (x : Int) (h0 : 0 ≤ x) (hn : x ≤ 9223372036854775807) (h : Wrt w b g xs e) (hlen : xs.length ≤ 1099511627776) :
    Calls Tryz.prog 76 #[.func (.func 75) #[.pointer (some ⟨b, 0, none⟩)] #[], .int .i64 x] w fun r w' => r = .returned (.tuple #[]) ∧ Between w w' b g (xs ++ enc x.toNat) e := by
  obtain ⟨n, rfl⟩ := Int.eq_ofNat_of_zero_le h0
  have hb := nb_le n (by omega)
  go_enter Tryz.func76, Tryz.ntmps76
  go_wp2_with (first
    | (go_at_call 74; refine (width_any _ _ (by omega) (by omega)).mono ?_; rintro e w' ⟨rfl, rfl⟩)
    | (go_at_call 75; refine (put_any _ b g xs e _ _ _ [UInt8.ofNat (nb n)] (h.chg ((Chg.refl [] w).alloc _) (by simp) (by simp)) (Bs.one _ _ _ (u8_of _ _ (by omega) (by omega))) (by omega)).mono ?_; rintro e1 w1 ⟨rfl, hp⟩; have hq := Lib.hid (Between.put (Chg.refl _ _) (.inl rfl) hp); clear hp))
  go_loopw [5] (fun v wr => ∃ (k : Nat) (p : List UInt8), k ≤ nb n ∧ v = .int .i64 ((k : Int) - 1) ∧ p ++ be k n = be (nb n) n ∧ Between w wr b g (xs ++ UInt8.ofNat (nb n) :: p) e) (fun v _ => (intOf v + 1).toNat)
  case atStart => exact ⟨nb n, [], by omega, by simp; omega, by simp, by simpa using hq.out⟩
  case round =>
    obtain ⟨k, p, hk, rfl, hp, hbt⟩ := hrel
    have Hp := Lib.hid hp
    have Hb := Lib.hid hbt
    clear hp hbt
    rcases k with _ | k
    · go_wp2
      go_end0
      refine ⟨rfl, ?_⟩
      have hp := Hp.out
      simp only [be, List.append_nil] at hp
      have hb := Hb.out
      rw [hp] at hb
      exact hb
    · obtain ⟨g', hw, hc, hg⟩ := Hb.out
      have hlw : (xs ++ UInt8.ofNat (nb n) :: p).length + 1 ≤ 140737488355327 := by
        have hl := congrArg List.length Hp.out
        simp only [List.length_append, be_len, List.length_cons] at hl ⊢
        omega
      have Hg := Lib.hid hg
      clear hg
      go_wp2_with (go_at_call 75; refine (put_any _ b g' _ e _ _ _ [UInt8.ofNat (n / 256 ^ k)] (hw.chg ((Chg.refl [] wr).alloc _) (by simp) (by simp)) (Bs.one _ _ _ (u8_shift n k)) hlw).mono ?_; rintro e1 w2 ⟨rfl, hp2⟩; have hq2 := Lib.hid (Between.put hc Hg.out hp2); clear hp2)
      go_roundw
      case rel =>
        refine ⟨k, p ++ [UInt8.ofNat (n / 256 ^ k)], by omega, by go_num, ?_, ?_⟩
        · rw [← Hp.out]; simp [be]
        · have := hq2.out; simpa using this
      case measure => simp [intOf]

set_option maxHeartbeats 400000 in
theorem fits_yes (w : World) (b g : Nat) (xs : List UInt8) (n : Int) (h : Wrt w b g xs 0) (hlen : xs.length ≤ 1099511627776) (hn2 : n + xs.length ≤ 1048576) :
    Calls Tryz.prog 73 #[.pointer (some ⟨b, 0, none⟩), .int .i64 n] w fun r w' => r = .returned (.bool true) ∧ w = w' := by
  obtain ⟨A, c, h1, _, _⟩ := h
  have k1 := cell_of h1 1
  have k2 := cell_of h1 2
  simp only [List.getElem?_toArray, List.getElem?_cons_succ, List.getElem?_cons_zero] at k1 k2
  have H := Lib.hid h1
  clear h1
  go_enter Tryz.func73, Tryz.ntmps73
  go_wp2
  go_ret
  exact ⟨rfl, rfl⟩
set_option maxHeartbeats 400000 in
theorem fits_no (w : World) (b g : Nat) (xs : List UInt8) (n : Int) (h : Wrt w b g xs 0) (hlen : xs.length ≤ 1099511627776) (hn2 : 1048576 < n + xs.length) :
    Calls Tryz.prog 73 #[.pointer (some ⟨b, 0, none⟩), .int .i64 n] w fun r w' => r = .returned (.bool false) ∧ Between w w' b g xs 3 := by
  obtain ⟨A, c, h1, h2, h3⟩ := h
  have k1 := cell_of h1 1
  have k2 := cell_of h1 2
  have k3 := free_of h1 2
  simp only [List.getElem?_toArray, List.getElem?_cons_succ, List.getElem?_cons_zero] at k1 k2
  have H := Lib.hid h1
  have H3 := Lib.hid h3
  clear h1 h3
  go_enter Tryz.func73, Tryz.ntmps73
  go_wp2
  go_ret
  have q := heap_setCell_same w b 2 _ _ (.int .i64 3) H.out
  have hne := h2.ne H.out (by decide)
  refine ⟨rfl, g, ⟨A, c, by simpa using q, h2.keep fun g o eA ho => ?_, H3.out⟩, (Chg.refl _ _).setCell (by simp) _, .inl rfl⟩
  rw [Below.heap_setCell _ _ _ _ (by have := hne _ eA; exact this)]; exact ho
end
section
open Go.RowKit

/-- What a writer has behind a number that is written. -/
def wNum (xs : List UInt8) (e : Int) (x : Int) : List UInt8 × Int :=
  if e ≠ 0 then (xs, e) else if x < 0 ∨ 4611686018427387903 < x then (xs, 5) else if 1048576 < 1 + nb x.toNat + xs.length then (xs, 3) else (xs ++ enc x.toNat, 0)
/-- What a writer has behind bytes that are written. -/
def wRaw (xs : List UInt8) (e : Int) (ys : List UInt8) : List UInt8 × Int :=
  if e ≠ 0 then (xs, e) else if 1048576 < 1 + nb ys.length + ys.length + xs.length then (xs, 3) else (xs ++ enc ys.length ++ ys, 0)

theorem Between.refl {w : World} {b g : Nat} {xs : List UInt8} {e : Int} (h : Wrt w b g xs e) : Between w w b g xs e := ⟨g, h, Chg.refl _ _, .inl rfl⟩
theorem Between.trans {a b c : World} {p g g' : Nat} {xs ys : List UInt8} {e e' : Int} (_h : Wrt b p g' xs e) (hc : Chg [p, g] a b) (hg : g' = g ∨ a.heap.size ≤ g') (k : Between b c p g' ys e') : Between a c p g ys e' := by
  obtain ⟨g2, h1, h2, h3⟩ := k
  have := hc.size
  refine ⟨g2, h1, hc.trans' h2 ?_, ?_⟩
  · intro i hi
    simp at hi ⊢
    rcases hi with rfl | rfl
    · exact .inl (.inl rfl)
    · rcases hg with rfl | hg
      · exact .inl (.inr rfl)
      · exact .inr hg
  · rcases h3 with rfl | h3
    · exact hg
    · right; omega

set_option maxHeartbeats 400000 in
theorem wnum_err (w : World) (b g : Nat) (xs : List UInt8) (e : Int) (x : Int) (h : Wrt w b g xs e) (he : (e != 0) = true) :
    Calls Tryz.prog 34 #[.pointer (some ⟨b, 0, none⟩), .int .i64 x] w fun r w' => r = .returned (.tuple #[]) ∧ w = w' := by
  obtain ⟨A, c, h1, _, _⟩ := id h
  have h0 := cell_of h1 2
  simp only [List.getElem?_toArray, List.getElem?_cons_zero, List.getElem?_cons_succ] at h0
  have H := Lib.hid h1
  clear h1
  go_enter Tryz.func34, Tryz.ntmps34
  go_wp2_with (go_at_call 72; refine (made_yes _ b g xs e h).mono ?_; rintro r w' ⟨rfl, rfl⟩)
  refine bodyPost_ret (results_none rfl _ _ _) rfl ?_
  exact ⟨rfl, rfl⟩

/-- What the range's error leaves. -/
def r_fin (w : World) (b g : Nat) (xs : List UInt8) : Prop := Between w (w.setCell ⟨b, 2, none⟩ (.int .i64 5)) b g xs 5

set_option maxHeartbeats 400000 in
theorem wnum_range (w : World) (b g : Nat) (xs : List UInt8) (x : Int) (h : Wrt w b g xs 0) (hx : x < 0 ∨ 4611686018427387903 < x) :
    Calls Tryz.prog 34 #[.pointer (some ⟨b, 0, none⟩), .int .i64 x] w fun r w' => r = .returned (.tuple #[]) ∧ Between w w' b g xs 5 := by
  obtain ⟨A, c, h1, h2, h3⟩ := id h
  have h0 := cell_of h1 2
  have k3 := free_of h1 2
  simp only [List.getElem?_toArray, List.getElem?_cons_zero, List.getElem?_cons_succ] at h0
  have H := Lib.hid h1
  have H3 := Lib.hid h3
  clear h1 h3
  have fin : r_fin w b g xs := by
    have q := heap_setCell_same w b 2 _ _ (.int .i64 5) H.out
    have hne := h2.ne H.out (by decide)
    refine ⟨g, ⟨A, c, by simpa using q, h2.keep fun g o eA ho => ?_, H3.out⟩, (Chg.refl _ _).setCell (by simp) _, .inl rfl⟩
    rw [Below.heap_setCell _ _ _ _ (by have := hne _ eA; exact this)]; exact ho
  have Fin := Lib.hid fin
  clear fin
  rcases hx with hx | hx
  all_goals
    go_enter Tryz.func34, Tryz.ntmps34
    go_wp2_with (go_at_call 72; refine (made_yes _ b g xs 0 h).mono ?_; rintro r w' ⟨rfl, rfl⟩)
    refine bodyPost_ret (results_none rfl _ _ _) rfl ?_
    exact ⟨rfl, Fin.out⟩

set_option maxHeartbeats 400000 in
theorem wnum_long (w : World) (b g : Nat) (xs : List UInt8) (x : Int) (h : Wrt w b g xs 0) (hlen : xs.length ≤ 1048576) (hx : 0 ≤ x) (hx2 : x ≤ 4611686018427387903) (hl : 1048576 < 1 + nb x.toNat + xs.length) :
    Calls Tryz.prog 34 #[.pointer (some ⟨b, 0, none⟩), .int .i64 x] w fun r w' => r = .returned (.tuple #[]) ∧ Between w w' b g xs 3 := by
  obtain ⟨A, c, h1, h2, h3⟩ := id h
  have h0 := cell_of h1 2
  simp only [List.getElem?_toArray, List.getElem?_cons_zero, List.getElem?_cons_succ] at h0
  have H := Lib.hid h1
  have H3 := Lib.hid h3
  clear h1 h3
  go_enter Tryz.func34, Tryz.ntmps34
  go_wp2_with (first
    | (go_at_call 72; refine (made_yes _ b g xs 0 h).mono ?_; rintro r w' ⟨rfl, rfl⟩)
    | (go_at_call 74; refine (width_any _ _ (by omega) (by omega)).mono ?_; rintro r w' ⟨rfl, rfl⟩)
    | (go_at_call 73; refine (fits_no _ b g xs _ h (by omega) (by omega)).mono ?_; rintro r w' ⟨rfl, hB⟩))
  go_end0
  exact ⟨rfl, hB⟩

set_option maxHeartbeats 400000 in
theorem wnum_fine (w : World) (b g : Nat) (xs : List UInt8) (x : Int) (h : Wrt w b g xs 0) (hlen : xs.length ≤ 1048576) (hx : 0 ≤ x) (hx2 : x ≤ 4611686018427387903) (hl : 1 + nb x.toNat + xs.length ≤ 1048576) :
    Calls Tryz.prog 34 #[.pointer (some ⟨b, 0, none⟩), .int .i64 x] w fun r w' => r = .returned (.tuple #[]) ∧ Between w w' b g (xs ++ enc x.toNat) 0 := by
  obtain ⟨A, c, h1, h2, h3⟩ := id h
  have h0 := cell_of h1 2
  simp only [List.getElem?_toArray, List.getElem?_cons_zero, List.getElem?_cons_succ] at h0
  have H := Lib.hid h1
  have H3 := Lib.hid h3
  clear h1 h3
  go_enter Tryz.func34, Tryz.ntmps34
  go_wp2_with (first
    | (go_at_call 72; refine (made_yes _ b g xs 0 h).mono ?_; rintro r w' ⟨rfl, rfl⟩)
    | (go_at_call 74; refine (width_any _ _ (by omega) (by omega)).mono ?_; rintro r w' ⟨rfl, rfl⟩)
    | (go_at_call 73; refine (fits_yes _ b g xs _ h (by omega) (by omega)).mono ?_; rintro r w' ⟨rfl, rfl⟩)
    | (go_at_call 76; refine (number_any _ b g xs 0 _ (by omega) (by omega) h (by omega)).mono ?_; rintro r w' ⟨rfl, hB⟩))
  go_end0
  exact ⟨rfl, hB⟩

/-- Num, whatever came ahead. -/
theorem wnum_any (w : World) (b g : Nat) (xs : List UInt8) (e x : Int) (h : Wrt w b g xs e) (hlen : xs.length ≤ 1048576) :
    Calls Tryz.prog 34 #[.pointer (some ⟨b, 0, none⟩), .int .i64 x] w fun r w' => r = .returned (.tuple #[]) ∧ Between w w' b g (wNum xs e x).1 (wNum xs e x).2 := by
  unfold wNum
  by_cases he : e = 0
  · subst he
    by_cases h1 : x < 0 ∨ 4611686018427387903 < x
    · simp only [ne_eq, not_true_eq_false, if_false, if_pos h1]; exact wnum_range w b g xs x h h1
    · by_cases h2 : 1048576 < 1 + nb x.toNat + xs.length
      · simp only [ne_eq, not_true_eq_false, if_false, if_neg h1, if_pos h2]; exact wnum_long w b g xs x h hlen (by omega) (by omega) h2
      · simp only [ne_eq, not_true_eq_false, if_false, if_neg h1, if_neg h2]; exact wnum_fine w b g xs x h hlen (by omega) (by omega) (by omega)
  · simp only [ne_eq, he, not_false_eq_true, if_true]
    exact (wnum_err w b g xs e x h (by simpa using he)).mono fun r w' ⟨h1, h2⟩ => ⟨h1, h2 ▸ Between.refl h⟩
end
section
open Go.RowKit

theorem enc_room (xs : List UInt8) (m : Nat) (_h : xs.length ≤ 1048576) (hl : 1 + nb m + m + xs.length ≤ 1048576) : (xs ++ enc (m : Int).toNat).length + m ≤ 140737488355327 := by
  rw [List.length_append, enc_len, Int.toNat_natCast]; omega

set_option maxHeartbeats 400000 in
theorem wraw_err (w : World) (b g : Nat) (xs : List UInt8) (e : Int) (B : Option Addr) (m d : Nat) (h : Wrt w b g xs e) (he : (e == 0) = false) :
    Calls Tryz.prog 33 #[.pointer (some ⟨b, 0, none⟩), .slice B m d] w fun r w' => r = .returned (.tuple #[]) ∧ w = w' := by
  obtain ⟨A, c, h1, _, _⟩ := id h
  have h0 := cell_of h1 2
  simp only [List.getElem?_toArray, List.getElem?_cons_zero, List.getElem?_cons_succ] at h0
  have H := Lib.hid h1
  clear h1
  go_enter Tryz.func33, Tryz.ntmps33
  go_wp2_with (go_at_call 72; refine (made_yes _ b g xs e h).mono ?_; rintro r w' ⟨rfl, rfl⟩)
  go_end0
  exact ⟨rfl, rfl⟩
set_option maxHeartbeats 400000 in
theorem wtext_err (w : World) (b g : Nat) (xs : List UInt8) (e : Int) (s : ByteArray) (h : Wrt w b g xs e) (he : (e == 0) = false) :
    Calls Tryz.prog 32 #[.pointer (some ⟨b, 0, none⟩), .string s] w fun r w' => r = .returned (.tuple #[]) ∧ w = w' := by
  obtain ⟨A, c, h1, _, _⟩ := id h
  have h0 := cell_of h1 2
  simp only [List.getElem?_toArray, List.getElem?_cons_zero, List.getElem?_cons_succ] at h0
  have H := Lib.hid h1
  clear h1
  go_enter Tryz.func32, Tryz.ntmps32
  go_wp2_with (go_at_call 72; refine (made_yes _ b g xs e h).mono ?_; rintro r w' ⟨rfl, rfl⟩)
  go_end0
  exact ⟨rfl, rfl⟩

set_option maxHeartbeats 400000 in
theorem wraw_long (w : World) (b g : Nat) (xs : List UInt8) (B : Option Addr) (m d : Nat) (h : Wrt w b g xs 0) (hlen : xs.length ≤ 1048576) (hm : m ≤ 140737488351232) (hl : 1048576 < 1 + nb m + m + xs.length) :
    Calls Tryz.prog 33 #[.pointer (some ⟨b, 0, none⟩), .slice B m d] w fun r w' => r = .returned (.tuple #[]) ∧ Between w w' b g xs 3 := by
  obtain ⟨A, c, h1, _, _⟩ := id h
  have h0 := cell_of h1 2
  simp only [List.getElem?_toArray, List.getElem?_cons_zero, List.getElem?_cons_succ] at h0
  have H := Lib.hid h1
  clear h1
  have hb := nb_le m (by omega)
  go_enter Tryz.func33, Tryz.ntmps33
  go_wp2_with (first
    | (go_at_call 72; refine (made_yes _ b g xs 0 h).mono ?_; rintro r w' ⟨rfl, rfl⟩)
    | (go_at_call 74; refine (width_any _ _ (by omega) (by omega)).mono ?_; rintro r w' ⟨rfl, rfl⟩)
    | (go_at_call 73; refine (fits_no _ b g xs _ h (by omega) (by omega)).mono ?_; rintro r w' ⟨rfl, hB⟩))
  go_end0
  exact ⟨rfl, hB⟩

set_option maxHeartbeats 400000 in
theorem wraw_fine (w : World) (b g : Nat) (xs : List UInt8) (B : Option Addr) (m d : Nat) (ys : List UInt8) (h : Wrt w b g xs 0) (hlen : xs.length ≤ 1048576) (hr : Bs w B m ys) (hB : Apart B ys b g) (hl : 1 + nb m + m + xs.length ≤ 1048576) :
    Calls Tryz.prog 33 #[.pointer (some ⟨b, 0, none⟩), .slice B m d] w fun r w' => r = .returned (.tuple #[]) ∧ Between w w' b g (xs ++ enc m ++ ys) 0 := by
  obtain ⟨A, c, h1, _, _⟩ := id h
  have h0 := cell_of h1 2
  simp only [List.getElem?_toArray, List.getElem?_cons_zero, List.getElem?_cons_succ] at h0
  have H := Lib.hid h1
  have HB := Lib.hid hB
  clear h1 hB
  have hb := nb_le m (by omega)
  go_enter Tryz.func33, Tryz.ntmps33
  go_wp2_with (first
    | (go_at_call 72; refine (made_yes _ b g xs 0 h).mono ?_; rintro r w' ⟨rfl, rfl⟩)
    | (go_at_call 74; refine (width_any _ _ (by omega) (by omega)).mono ?_; rintro r w' ⟨rfl, rfl⟩)
    | (go_at_call 73; refine (fits_yes _ b g xs _ h (by omega) (by omega)).mono ?_; rintro r w' ⟨rfl, rfl⟩)
    | (go_at_call 76; refine (number_any _ b g xs 0 _ (by omega) (by omega) h (by omega)).mono ?_; rintro r w1 ⟨rfl, g1, hw1, hc1, hg1⟩; have Hg1 := Lib.hid hg1; clear hg1; have hr1 := hr.past hc1 HB.out)
    | (go_at_call 75; refine (put_any _ b g1 _ 0 _ _ _ ys hw1 hr1 (enc_room xs m hlen hl)).mono ?_; rintro r w2 ⟨rfl, hp⟩))
  go_end0
  exact ⟨rfl, Between.trans hw1 hc1 Hg1.out hp⟩

set_option maxHeartbeats 400000 in
theorem wtext_long (w : World) (b g : Nat) (xs : List UInt8) (s : ByteArray) (h : Wrt w b g xs 0) (hlen : xs.length ≤ 1048576) (hm : s.size ≤ 140737488351232) (hl : 1048576 < 1 + nb s.size + s.size + xs.length) :
    Calls Tryz.prog 32 #[.pointer (some ⟨b, 0, none⟩), .string s] w fun r w' => r = .returned (.tuple #[]) ∧ Between w w' b g xs 3 := by
  obtain ⟨A, c, h1, _, _⟩ := id h
  have h0 := cell_of h1 2
  simp only [List.getElem?_toArray, List.getElem?_cons_zero, List.getElem?_cons_succ] at h0
  have H := Lib.hid h1
  clear h1
  have hb := nb_le s.size (by omega)
  go_enter Tryz.func32, Tryz.ntmps32
  go_wp2_with (first
    | (go_at_call 72; refine (made_yes _ b g xs 0 h).mono ?_; rintro r w' ⟨rfl, rfl⟩)
    | (go_at_call 74; refine (width_any _ _ (by omega) (by omega)).mono ?_; rintro r w' ⟨rfl, rfl⟩)
    | (go_at_call 73; refine (fits_no _ b g xs _ h (by omega) (by omega)).mono ?_; rintro r w' ⟨rfl, hB⟩))
  go_end0
  exact ⟨rfl, hB⟩

set_option maxHeartbeats 400000 in
theorem wtext_fine (w : World) (b g : Nat) (xs : List UInt8) (s : ByteArray) (h : Wrt w b g xs 0) (hlen : xs.length ≤ 1048576) (hl : 1 + nb s.size + s.size + xs.length ≤ 1048576) :
    Calls Tryz.prog 32 #[.pointer (some ⟨b, 0, none⟩), .string s] w fun r w' => r = .returned (.tuple #[]) ∧ Between w w' b g (xs ++ enc s.size ++ s.data.toList) 0 := by
  obtain ⟨A, c, h1, _, _⟩ := id h
  have h0 := cell_of h1 2
  simp only [List.getElem?_toArray, List.getElem?_cons_zero, List.getElem?_cons_succ] at h0
  have H := Lib.hid h1
  clear h1
  have hb := nb_le s.size (by omega)
  have hcv := fun w => run_bytes_of_string (P := Tryz.prog) w 9 22 5 s Tryz.underlying9 Tryz.underlying22 Tryz.underlying5
  go_enter Tryz.func32, Tryz.ntmps32
  go_wp2_with (first
    | (go_at_call 72; refine (made_yes _ b g xs 0 h).mono ?_; rintro r w' ⟨rfl, rfl⟩)
    | (go_at_call 74; refine (width_any _ _ (by omega) (by omega)).mono ?_; rintro r w' ⟨rfl, rfl⟩)
    | (go_at_call 73; refine (fits_yes _ b g xs _ h (by omega) (by omega)).mono ?_; rintro r w' ⟨rfl, rfl⟩)
    | (go_at_call 76; refine (number_any _ b g xs 0 _ (by omega) (by omega) h (by omega)).mono ?_; rintro r w1 ⟨rfl, g1, hw1, hc1, hg1⟩; have Hg1 := Lib.hid hg1; clear hg1)
    | (go_at_call 75; refine (put_any _ b g1 _ 0 _ _ _ s.data.toList (hw1.chg (((Chg.refl [] w1).alloc _).drew) (by simp) (by simp)) (Bs.str _ _ _ _) (enc_room xs s.size hlen hl)).mono ?_; rintro r w2 ⟨rfl, hp⟩; have Hp := Lib.hid hp; clear hp))
  go_end0
  exact ⟨rfl, Between.put hc1.drew Hg1.out (o := .cells (bytesRow s (grownCap w1 s.size 0 5)) 5 ((bytesRow s (grownCap w1 s.size 0 5)).size, (bytesRow s (grownCap w1 s.size 0 5)).size + 1)) Hp.out⟩
end
section
open Go.RowKit

/-- Bytes in memory of their own, which was not there at first. -/
def Fresh (w w' : World) (A : Option Addr) (c : Nat) (ys : List UInt8) : Prop := OwnB w' A c ys ∧ (∀ a, A = some a → w.heap.size ≤ a.block) ∧ Chg [] w w'

theorem OwnB.empty (w : World) : OwnB (w.alloc (.cells #[] 5)) (some ⟨w.heap.size, 0, none⟩) 0 [] := .of (full := []) (heap_alloc_new w _) (by simp) (by simp [maxLen]) rfl (by simp)

theorem fresh_app {w w1 : World} {A' : Option Addr} {c' : Nat} {ys : List UInt8} (own1 : OwnB w1 A' c' ([] ++ ys)) (hg1 : (w.alloc (.cells #[] 5)).grownBy w1 (Option.map (·.block) (some (⟨w.heap.size, 0, none⟩ : Addr))))
    (hA1 : A' = some ⟨w.heap.size, 0, none⟩ ∨ A' = some ⟨(w.alloc (.cells #[] 5)).heap.size, 0, none⟩) : Fresh w w1 A' c' ys := by
  refine ⟨own1, ?_, ((Chg.refl [] w).alloc _).grown hg1 (by simp)⟩
  rintro a rfl
  rcases hA1 with h | h <;> cases h <;> simp

set_option maxHeartbeats 400000 in
theorem clone_any (w : World) (B : Option Addr) (m d : Nat) (ys : List UInt8) (hr : Bs w B m ys) (hm : m ≤ 140737488351232) :
    Calls Tryz.prog 77 #[.slice B m d] w fun r w' => ∃ A c, r = .returned (.slice A m c) ∧ Fresh w w' A c ys := by
  rcases B with _ | a
  · have hy : ys = [] := by
      cases ys with
      | nil => rfl
      | cons y ys => obtain ⟨a, h, _⟩ := hr.cells 0 y rfl; cases h
    have hm0 := hr.len
    subst hy
    simp at hm0
    subst hm0
    have h0 := fun w => Lib.run_eql_slice_nil (P := Tryz.prog) w 22 5 none 0 d 0 0 Tryz.underlying22
    go_enter Tryz.func77, Tryz.ntmps77
    go_wp2
    go_ret
    exact ⟨none, 0, rfl, OwnB.none_ _, by simp, Chg.refl _ _⟩
  · have h0 := fun w => Lib.run_eql_slice_nil (P := Tryz.prog) w 22 5 (some a) m d 0 0 Tryz.underlying22
    go_enter Tryz.func77, Tryz.ntmps77
    go_wp2_with (at_builtin; refine wpList_app rfl _ _ rfl rfl (OwnB.empty w) rfl rfl (hr.chg ((Chg.refl [] w).alloc _) (by simp)) (by simp; omega) ?_; intro A' c' w1 own1 hg1 hA1)
    go_ret
    exact ⟨A', c', by simp, fresh_app own1 hg1 hA1⟩

set_option maxHeartbeats 400000 in
theorem copy_any (w : World) (B : Option Addr) (m d : Nat) (ys : List UInt8) (hr : Bs w B m ys) (hm : m ≤ 140737488351232) :
    Calls Tryz.prog 28 #[.slice B m d] w fun r w' => ∃ A c, r = .returned (.slice A m c) ∧ Fresh w w' A c ys := by
  go_enter Tryz.func28, Tryz.ntmps28
  go_wp2_with (at_builtin; refine wpList_app rfl _ _ rfl rfl (OwnB.empty w) rfl rfl (hr.chg ((Chg.refl [] w).alloc _) (by simp)) (by simp; omega) ?_; intro A' c' w1 own1 hg1 hA1)
  go_ret
  exact ⟨A', c', by simp, fresh_app own1 hg1 hA1⟩

set_option maxHeartbeats 400000 in
theorem wout_ok (w : World) (b g : Nat) (xs : List UInt8) (h : Wrt w b g xs 0) (hlen : xs.length ≤ 1048576) :
    Calls Tryz.prog 35 #[.pointer (some ⟨b, 0, none⟩)] w fun r w' => ∃ A c, r = .returned (.tuple #[.slice A xs.length c, .int .i64 0]) ∧ Fresh w w' A c xs := by
  obtain ⟨A, c, h1, h2, _⟩ := id h
  have k1 := cell_of h1 1
  have k2 := cell_of h1 2
  simp only [List.getElem?_toArray, List.getElem?_cons_zero, List.getElem?_cons_succ] at k1 k2
  have H := Lib.hid h1
  clear h1
  go_enter Tryz.func35, Tryz.ntmps35
  go_wp2_with (first
    | (go_at_call 72; refine (made_yes _ b g xs 0 h).mono ?_; rintro r w' ⟨rfl, rfl⟩)
    | (go_at_call 77; refine (clone_any _ _ _ _ xs h2.reads (by omega)).mono ?_; rintro r w1 ⟨A1, c1, rfl, hF⟩))
  go_ret2
  exact ⟨A1, c1, rfl, hF⟩

set_option maxHeartbeats 400000 in
theorem wout_err (w : World) (b g : Nat) (xs : List UInt8) (e : Int) (h : Wrt w b g xs e) (he : (e != 0) = true) :
    Calls Tryz.prog 35 #[.pointer (some ⟨b, 0, none⟩)] w fun r w' => r = .returned (.tuple #[.slice none 0 0, .int .i64 e]) ∧ Chg [] w w' := by
  obtain ⟨A, c, h1, h2, _⟩ := id h
  have k2 := cell_of h1 2
  simp only [List.getElem?_toArray, List.getElem?_cons_zero, List.getElem?_cons_succ] at k2
  have H := Lib.hid h1
  clear h1
  go_enter Tryz.func35, Tryz.ntmps35
  go_wp2_with (go_at_call 72; refine (made_yes _ b g xs e h).mono ?_; rintro r w' ⟨rfl, rfl⟩)
  go_region
  all_goals (go_wp2; go_ret2; exact ⟨rfl, (Chg.refl _ _).drew⟩)

theorem wNum_len {xs : List UInt8} {e x : Int} (h : xs.length ≤ 1048576) : (wNum xs e x).1.length ≤ 1048576 := by
  unfold wNum
  split
  · exact h
  · split
    · exact h
    · split
      · exact h
      · simp [enc_len]; omega
theorem wRaw_len {xs ys : List UInt8} {e : Int} (h : xs.length ≤ 1048576) : (wRaw xs e ys).1.length ≤ 1048576 := by
  unfold wRaw
  split
  · exact h
  · split
    · exact h
    · simp [enc_len]; omega

/-- Raw, whatever came ahead. -/
theorem wraw_any (w : World) (b g : Nat) (xs : List UInt8) (e : Int) (B : Option Addr) (m d : Nat) (ys : List UInt8) (h : Wrt w b g xs e) (hlen : xs.length ≤ 1048576) (hm : m ≤ 140737488351232) (hr : Bs w B m ys) (hB : Apart B ys b g) :
    Calls Tryz.prog 33 #[.pointer (some ⟨b, 0, none⟩), .slice B m d] w fun r w' => r = .returned (.tuple #[]) ∧ Between w w' b g (wRaw xs e ys).1 (wRaw xs e ys).2 := by
  have hl := hr.len
  subst hl
  unfold wRaw
  by_cases he : e = 0
  · subst he
    by_cases h1 : 1048576 < 1 + nb ys.length + ys.length + xs.length
    · simp only [ne_eq, not_true_eq_false, if_false, if_pos h1]; exact wraw_long w b g xs B _ d h hlen hm h1
    · simp only [ne_eq, not_true_eq_false, if_false, if_neg h1]; exact wraw_fine w b g xs B _ d ys h hlen hr hB (by omega)
  · simp only [ne_eq, he, not_false_eq_true, if_true]
    exact (wraw_err w b g xs e B _ d h (by simpa using he)).mono fun r w' ⟨h1, h2⟩ => ⟨h1, h2 ▸ Between.refl h⟩
/-- Text, whatever came ahead. -/
theorem wtext_any (w : World) (b g : Nat) (xs : List UInt8) (e : Int) (s : ByteArray) (h : Wrt w b g xs e) (hlen : xs.length ≤ 1048576) (hm : s.size ≤ 140737488351232) :
    Calls Tryz.prog 32 #[.pointer (some ⟨b, 0, none⟩), .string s] w fun r w' => r = .returned (.tuple #[]) ∧ Between w w' b g (wRaw xs e s.data.toList).1 (wRaw xs e s.data.toList).2 := by
  have hl : s.data.toList.length = s.size := by rw [Array.length_toList]; rfl
  unfold wRaw
  rw [hl]
  by_cases he : e = 0
  · subst he
    by_cases h1 : 1048576 < 1 + nb s.size + s.size + xs.length
    · simp only [ne_eq, not_true_eq_false, if_false, if_pos h1]; exact wtext_long w b g xs s h hlen hm h1
    · simp only [ne_eq, not_true_eq_false, if_false, if_neg h1]; exact wtext_fine w b g xs s h hlen (by omega)
  · simp only [ne_eq, he, not_false_eq_true, if_true]
    exact (wtext_err w b g xs e s h (by simpa using he)).mono fun r w' ⟨h1, h2⟩ => ⟨h1, h2 ▸ Between.refl h⟩
/-- What Out tells: the bytes, or the error alone. -/
def outs (xs : List UInt8) (e : Int) : List UInt8 := if e = 0 then xs else []
theorem wout_any (w : World) (b g : Nat) (xs : List UInt8) (e : Int) (h : Wrt w b g xs e) (hlen : xs.length ≤ 1048576) :
    Calls Tryz.prog 35 #[.pointer (some ⟨b, 0, none⟩)] w fun r w' => ∃ A c, r = .returned (.tuple #[.slice A (outs xs e).length c, .int .i64 e]) ∧ Fresh w w' A c (outs xs e) := by
  unfold outs
  by_cases he : e = 0
  · subst he
    simp only [if_true]
    exact wout_ok w b g xs h hlen
  · simp only [if_neg he]
    exact (wout_err w b g xs e h (by simpa using he)).mono fun r w' ⟨h1, h2⟩ => ⟨none, 0, h1, OwnB.none_ _, by simp, h2⟩
end
section
open Go.RowKit

/-- A reader at block b of the bytes xs (in row g; g = b: in none), at the place p, with the fault fe at fa. -/
def Rdr (w : World) (b g : Nat) (xs : List UInt8) (p : Nat) (fe fa : Int) : Prop :=
  ∃ A c, w.heap[b]? = some (.cells #[.pointer (some ⟨b, 0, none⟩), .slice A xs.length c, .int .i64 p, .int .i64 fe, .int .i64 fa] 120 (0, 0)) ∧ OwnB w A c xs ∧ (A = none ∧ g = b ∨ A = some ⟨g, 0, none⟩)

theorem Rdr.chg {S : List Nat} {w w' : World} {b g : Nat} {xs : List UInt8} {p : Nat} {fe fa : Int} (h : Rdr w b g xs p fe fa) (hc : Chg S w w') (hb : b ∉ S) (hg : g ∉ S) : Rdr w' b g xs p fe fa := by
  obtain ⟨A, c, h1, h2, h3⟩ := h
  refine ⟨A, c, hc.at_ h1 hb, h2.chg hc ?_, h3⟩
  rintro a rfl
  rcases h3 with ⟨h3, _⟩ | h3
  · cases h3
  · cases h3; exact hg
theorem Rdr.lt {w : World} {b g : Nat} {xs : List UInt8} {p : Nat} {fe fa : Int} (h : Rdr w b g xs p fe fa) : b < w.heap.size ∧ g < w.heap.size := by
  obtain ⟨A, c, h1, h2, h3⟩ := h
  have hb := lt_of_heap h1
  rcases h3 with ⟨_, rfl⟩ | rfl
  · exact ⟨hb, hb⟩
  · rcases h2.form with ⟨h, _⟩ | ⟨g', cur, h, h4, _⟩
    · cases h
    · cases h; exact ⟨hb, lt_of_heap h4⟩

theorem someR : (Tryz.prog.info? 120).isSome = true := by kernel_rfl
theorem eqlPR (a : Addr) (w : World) : (binOp .eql 70 (.pointer (some a)) (.pointer (some a))).run Tryz.prog w = .ok (.bool true) w := by
  obtain ⟨j, hj⟩ := Option.isSome_iff_exists.1 someR
  exact run_eql_ptr_same w a Tryz.underlying70 hj

theorem flipw {P : Program} {f : FuncId} {args : Array Value} {w : World} {v : Value} (h : Calls P f args w fun e w' => e = .returned v ∧ w = w') : Calls P f args w fun e w' => e = .returned v ∧ w' = w :=
  h.mono fun _ _ hh => ⟨hh.1, hh.2.symm⟩
theorem Rdr.drewN {w : World} {b g : Nat} {xs : List UInt8} {p : Nat} {fe fa : Int} (h : Rdr w b g xs p fe fa) (n : Nat) : Rdr (w.drewN n) b g xs p fe fa := h.chg ((Chg.refl [] w).drewN n) (by simp) (by simp)

set_option maxHeartbeats 400000 in
theorem open_any (w : World) (B : Option Addr) (m d : Nat) (ys : List UInt8) (hr : Bs w B m ys) (hm : m ≤ 140737488351232) :
    Calls Tryz.prog 42 #[.slice B m d] w fun r w' => ∃ b g, r = .returned (.pointer (some ⟨b, 0, none⟩)) ∧ Rdr w' b g ys 0 0 0 ∧ Chg [] w w' ∧ w.heap.size ≤ b ∧ w.heap.size ≤ g := by
  have hl := hr.len
  go_enter Tryz.func42, Tryz.ntmps42
  go_wp2_with (go_at_call 77; refine (clone_any _ _ _ _ ys hr hm).mono ?_; rintro r w1 ⟨A1, c1, rfl, hF⟩)
  go_ret
  subst hl
  obtain ⟨h1, h2, h3⟩ := hF
  have h4 := h3.alloc (.cells #[.pointer (some ⟨w1.heap.size, 0, none⟩), .slice A1 ys.length c1, .int .i64 0, .int .i64 0, .int .i64 0] 120)
  have hs := h3.size
  have own : OwnB (w1.alloc (.cells #[.pointer (some ⟨w1.heap.size, 0, none⟩), .slice A1 ys.length c1, .int .i64 0, .int .i64 0, .int .i64 0] 120)) A1 c1 ys := h1.chg ((Chg.refl [] w1).alloc _) (by simp)
  rcases h1.form with ⟨rfl, _⟩ | ⟨g, cur, rfl, _⟩
  · exact ⟨_, _, rfl, ⟨none, c1, heap_alloc_new w1 _, own, .inl ⟨rfl, rfl⟩⟩, h4, hs, hs⟩
  · exact ⟨_, g, rfl, ⟨_, c1, heap_alloc_new w1 _, own, .inr rfl⟩, h4, hs, h2 _ rfl⟩

set_option maxHeartbeats 400000 in
theorem rmade_yes (w : World) (b g : Nat) (xs : List UInt8) (p : Nat) (fe fa : Int) (h : Rdr w b g xs p fe fa) :
    Calls Tryz.prog 116 #[.pointer (some ⟨b, 0, none⟩)] w fun e w' => e = .returned (.bool true) ∧ w = w' := by
  obtain ⟨A, c, h1, _, _⟩ := h
  have h0 := cell_of h1 0
  simp only [List.getElem?_toArray, List.getElem?_cons_zero] at h0
  have H := Lib.hid h1
  clear h1
  have h1 := eqlPR ⟨b, 0, none⟩
  go_enter Tryz.func116, Tryz.ntmps116
  go_wp2
  go_ret
  exact ⟨rfl, rfl⟩
set_option maxHeartbeats 400000 in
theorem rreads_any (w : World) (b g : Nat) (xs : List UInt8) (p : Nat) (fe fa : Int) (h : Rdr w b g xs p fe fa) :
    Calls Tryz.prog 81 #[.pointer (some ⟨b, 0, none⟩)] w fun e w' => e = .returned (.bool (fe == 0)) ∧ w = w' := by
  obtain ⟨A, c, h1, _, _⟩ := id h
  have h0 := cell_of h1 3
  simp only [List.getElem?_toArray, List.getElem?_cons_zero, List.getElem?_cons_succ] at h0
  have H := Lib.hid h1
  clear h1
  go_enter Tryz.func81, Tryz.ntmps81
  go_wp2_with (go_at_call 116; refine (rmade_yes _ b g xs p fe fa h).mono ?_; rintro r w' ⟨rfl, rfl⟩)
  go_ret
  exact ⟨rfl, rfl⟩
set_option maxHeartbeats 400000 in
theorem rfault_any (w : World) (b g : Nat) (xs : List UInt8) (p : Nat) (fe fa : Int) (h : Rdr w b g xs p fe fa) :
    Calls Tryz.prog 83 #[.pointer (some ⟨b, 0, none⟩)] w fun e w' => e = .returned (.agg #[.int .i64 fe, .int .i64 fa]) ∧ Chg [] w w' := by
  obtain ⟨A, c, h1, _, _⟩ := id h
  have h0 := cell_of h1 3
  have h2 := cell_of h1 4
  simp only [List.getElem?_toArray, List.getElem?_cons_zero, List.getElem?_cons_succ] at h0 h2
  have hb := lt_of_heap h1
  have H := Lib.hid h1
  clear h1
  have h' := h.chg ((Chg.refl [] w).alloc (.cells #[.int .i64 0, .int .i64 0] 36)) (by simp) (by simp)
  go_enter Tryz.func83, Tryz.ntmps83
  go_wp2_with (go_at_call 116; refine (rmade_yes _ b g xs p fe fa h').mono ?_; rintro r w' ⟨rfl, rfl⟩)
  refine bodyPost_ret (v := .agg #[.int .i64 fe, .int .i64 fa]) (by simp [results, Tryz.results83, go_sem]) rfl ?_
  exact ⟨rfl, (Chg.refl _ _).alloc _⟩

set_option maxHeartbeats 400000 in
theorem rend_left (w : World) (b g : Nat) (xs : List UInt8) (p : Nat) (fa : Int) (h : Rdr w b g xs p 0 fa) (hp : p < xs.length) (_hx : xs.length ≤ 140737488351232) :
    Calls Tryz.prog 46 #[.pointer (some ⟨b, 0, none⟩)] w fun e w' => e = .returned (.agg #[.int .i64 4, .int .i64 p]) ∧ Chg [] w w' := by
  obtain ⟨A, c, h1, _, _⟩ := id h
  have h0 := cell_of h1 2
  have h2 := cell_of h1 1
  simp only [List.getElem?_toArray, List.getElem?_cons_zero, List.getElem?_cons_succ] at h0 h2
  have hb := lt_of_heap h1
  have H := Lib.hid h1
  clear h1
  have h' := h.chg ((Chg.refl [] w).alloc (.cells #[.int .i64 0, .int .i64 0] 36)) (by simp) (by simp)
  go_enter Tryz.func46, Tryz.ntmps46
  go_wp2
  go_quiet ((go_at_call 81; exact Calls.quiet_of_same (flipw (rreads_any _ b g xs p 0 fa (h'.drewN _)))))
  go_wp2
  refine bodyPost_ret (v := .agg #[.int .i64 4, .int .i64 p]) (by simp [results, Tryz.results46, go_sem]) rfl ?_
  exact ⟨rfl, ((((Chg.refl _ _).alloc _).drewN _).setCell (.inr (Nat.le_refl _)) _).setCell (.inr (Nat.le_refl _)) _⟩
set_option maxHeartbeats 400000 in
theorem rend_done (w : World) (b g : Nat) (xs : List UInt8) (p : Nat) (fe fa : Int) (h : Rdr w b g xs p fe fa) (hp : fe = 0 → p = xs.length) (_hx : xs.length ≤ 140737488351232) :
    Calls Tryz.prog 46 #[.pointer (some ⟨b, 0, none⟩)] w fun e w' => e = .returned (.agg #[.int .i64 fe, .int .i64 fa]) ∧ Chg [] w w' := by
  obtain ⟨A, c, h1, _, _⟩ := id h
  have h0 := cell_of h1 2
  have h2 := cell_of h1 1
  simp only [List.getElem?_toArray, List.getElem?_cons_zero, List.getElem?_cons_succ] at h0 h2
  have hb := lt_of_heap h1
  have H := Lib.hid h1
  clear h1
  have hc := (Chg.refl [] w).alloc (.cells #[.int .i64 0, .int .i64 0] 36)
  have h' := h.chg hc (by simp) (by simp)
  have Hh := Lib.hid h'
  by_cases he : fe = 0
  · have hp' := hp he
    subst he hp'
    clear hp
    go_enter Tryz.func46, Tryz.ntmps46
    go_wp2
    go_quiet ((go_at_call 81; exact Calls.quiet_of_same (flipw (rreads_any _ b g xs xs.length 0 fa (Hh.out.drewN _)))))
    go_wp2_with (go_at_call 83; refine (rfault_any _ b g xs xs.length 0 fa (Hh.out.drewN _)).mono ?_; rintro r w1 ⟨rfl, hc1⟩; have q := hc1.at_ (heap_alloc_new w (.cells #[.int .i64 0, .int .i64 0] 36)) (by simp); have q0 := cell_of q 0; have q1 := cell_of q 1; have f0 := free_of q 0; have f1 := free_of q 1; simp only [List.getElem?_toArray, List.getElem?_cons_zero, List.getElem?_cons_succ] at q0 q1; have Q := Lib.hid q; clear q; have C1 := Lib.hid hc1; clear hc1)
    refine bodyPost_ret (v := .agg #[.int .i64 0, .int .i64 fa]) (by simp [results, Tryz.results46, go_sem, q0, q1]) rfl ?_
    exact ⟨rfl, (((hc.drewN nq).trans C1.out).setCell (.inr (Nat.le_refl _)) _).setCell (.inr (Nat.le_refl _)) _⟩
  · have he' : (fe == 0) = false := by simpa using he
    clear hp
    have hr : ∀ n, Calls Tryz.prog 81 #[.pointer (some ⟨b, 0, none⟩)] ((w.alloc (.cells #[.int .i64 0, .int .i64 0] 36)).drewN n) fun e w' => e = .returned (.bool false) ∧ w' = ((w.alloc (.cells #[.int .i64 0, .int .i64 0] 36)).drewN n) := fun n => by
      have := flipw (rreads_any _ b g xs p fe fa (Hh.out.drewN n))
      rwa [he'] at this
    have Hr := Lib.hid hr
    clear hr
    go_enter Tryz.func46, Tryz.ntmps46
    go_wp2
    go_quiet ((go_at_call 81; exact Calls.quiet_of_same (Hr.out _)))
    go_wp2_with (go_at_call 83; refine (rfault_any _ b g xs p fe fa (Hh.out.drewN _)).mono ?_; rintro r w1 ⟨rfl, hc1⟩; have q := hc1.at_ (heap_alloc_new w (.cells #[.int .i64 0, .int .i64 0] 36)) (by simp); have q0 := cell_of q 0; have q1 := cell_of q 1; have f0 := free_of q 0; have f1 := free_of q 1; simp only [List.getElem?_toArray, List.getElem?_cons_zero, List.getElem?_cons_succ] at q0 q1; have Q := Lib.hid q; clear q; have C1 := Lib.hid hc1; clear hc1)
    refine bodyPost_ret (v := .agg #[.int .i64 fe, .int .i64 fa]) (by simp [results, Tryz.results46, go_sem, q0, q1]) rfl ?_
    exact ⟨rfl, (((hc.drewN nq).trans C1.out).setCell (.inr (Nat.le_refl _)) _).setCell (.inr (Nat.le_refl _)) _⟩
end
section
open Go.RowKit

/-- A scope whose jumps all go forward to one label: what stands there is walked from each of them. -/
theorem wp_scope_fwd {P : Program} {a : Act} {w : World} {Q : Exit → Act → World → Prop} {c rest : Code} (l : Nat) (hf : findLabel c l = some rest)
    (first : c.wp P (Exit.jump l (fun a' w' => rest.wp P (Exit.jump l (fun _ _ => False) Q) a' w') Q) a w) : (Code.scope c).wp P Q a w := by
  refine wp_scope_jumps l _ (fun _ _ => 0) hf first ?_
  intro a w h b k cs
  obtain ⟨e, a', w', hq, harr⟩ := h b k cs
  refine ⟨e, a', w', ?_, harr⟩
  cases e with
  | goto l' => exact absurd hq.2 (by simp)
  | _ => exact hq

/-- The number of bytes, the highest first. -/
def val (l : List UInt8) : Nat := l.foldl (fun n x => n * 256 + x.toNat) 0

/-- Behind a fault. -/
def Failed (w w' : World) (b g : Nat) (xs : List UInt8) (p : Nat) (fe fa : Int) : Prop := Rdr w' b g xs p fe fa ∧ Chg [b] w w'

theorem failed_of {w : World} {b g : Nat} {xs : List UInt8} {p : Nat} {A : Option Addr} {c : Nat} {fe0 fa0 : Int} (h1 : w.heap[b]? = some (.cells #[.pointer (some ⟨b, 0, none⟩), .slice A xs.length c, .int .i64 p, .int .i64 fe0, .int .i64 fa0] 120 (0, 0)))
    (h2 : OwnB w A c xs) (h3 : A = none ∧ g = b ∨ A = some ⟨g, 0, none⟩) (n m : Nat) (fe fa : Int) :
    Failed w ((((w.drewN n).setCell ⟨b, 3, none⟩ (.int .i64 fe)).setCell ⟨b, 4, none⟩ (.int .i64 fa)).drewN m) b g xs p fe fa := by
  have hne := h2.ne h1 (by decide)
  have q1 := heap_setCell_same (w.drewN n) b 3 _ _ (.int .i64 fe) h1
  have q2 := heap_setCell_same _ b 4 _ _ (.int .i64 fa) q1
  refine ⟨⟨A, c, by simpa using q2, h2.keep fun g o eA ho => ?_, h3⟩, ((((Chg.refl _ _).drewN _).setCell (by simp) _).setCell (by simp) _).drewN _⟩
  have hn := hne _ eA
  show (((w.drewN n).setCell ⟨b, 3, none⟩ (.int .i64 fe)).setCell ⟨b, 4, none⟩ (.int .i64 fa)).heap[g]? = _
  rw [Below.heap_setCell _ _ _ _ hn, Below.heap_setCell _ _ _ _ hn]; exact ho

set_option maxHeartbeats 400000 in
theorem num_end (w : World) (b g : Nat) (xs : List UInt8) (fa low high : Int) (h : Rdr w b g xs xs.length 0 fa) :
    Calls Tryz.prog 82 #[.pointer (some ⟨b, 0, none⟩), .int .i64 low, .int .i64 high] w fun e w' => e = .returned (.tuple #[.int .i64 0, .int .i64 xs.length]) ∧ Failed w w' b g xs xs.length 4 xs.length := by
  obtain ⟨A, c, h1, h2, h3⟩ := h
  have k1 := cell_of h1 1
  have k2 := cell_of h1 2
  have k3 := cell_of h1 3
  have k4 := cell_of h1 4
  have f3 := free_of h1 3
  have f4 := free_of h1 4
  simp only [List.getElem?_toArray, List.getElem?_cons_zero, List.getElem?_cons_succ] at k1 k2 k3 k4
  have H := Lib.hid h1
  have H3 := Lib.hid h3
  clear h1 h3
  go_enter Tryz.func82, Tryz.ntmps82
  go_wp2
  refine wp_scope_fwd 0 rfl ?_
  go_wp2
  go_quiet (fail)
  go_wp2
  go_quiet (fail)
  go_wp2
  go_step3
  refine And.intro rfl ?_
  show Code.wp _ _ _ _ _
  go_wp2
  go_quiet (fail)
  go_wp2
  simp only [Exit.jump]
  go_ret2
  exact ⟨rfl, failed_of H.out h2 H3.out _ _ _ _⟩

theorem OwnB.at_ {w : World} {A : Option Addr} {c g : Nat} {xs : List UInt8} (h : OwnB w A c xs) {b p : Nat} (h3 : A = none ∧ g = b ∨ A = some ⟨g, 0, none⟩) {x : UInt8} (hx : xs[p]? = some x) : A = some ⟨g, 0, none⟩ ∧ w.cell? ⟨g, p, none⟩ = some (.int .u8 (x.toNat : Int)) := by
  obtain ⟨a, e, hc⟩ := h.reads.cells p x hx
  rcases h3 with ⟨h3, _⟩ | h3
  · rw [h3] at e; cases e
  · rw [h3] at e; cases e
    rw [add_zero_lit] at hc
    exact ⟨h3, hc⟩

set_option maxHeartbeats 400000 in
theorem num_arg (w : World) (b g : Nat) (xs : List UInt8) (p : Nat) (fa low high : Int) (h : Rdr w b g xs p 0 fa) (x : UInt8) (hx : xs[p]? = some x) (h8 : 8 < (x.toNat : Int)) :
    Calls Tryz.prog 82 #[.pointer (some ⟨b, 0, none⟩), .int .i64 low, .int .i64 high] w fun e w' => e = .returned (.tuple #[.int .i64 0, .int .i64 p]) ∧ Failed w w' b g xs p 2 p := by
  obtain ⟨A, c, h1, h2, h3⟩ := h
  have hp : p < xs.length := (List.getElem?_eq_some_iff.1 hx).1
  have hne : ((p : Int) == xs.length) = false := by simp; omega
  obtain ⟨rfl, hc⟩ := h2.at_ h3 hx
  have k1 := cell_of h1 1
  have k2 := cell_of h1 2
  have k3 := cell_of h1 3
  have k4 := cell_of h1 4
  have f3 := free_of h1 3
  have f4 := free_of h1 4
  simp only [List.getElem?_toArray, List.getElem?_cons_zero, List.getElem?_cons_succ] at k1 k2 k3 k4
  have H := Lib.hid h1
  have H3 := Lib.hid h3
  have Hx := Lib.hid hx
  clear h1 h3 hx
  go_enter Tryz.func82, Tryz.ntmps82
  go_wp2
  refine wp_scope_fwd 0 rfl ?_
  go_wp2
  iterate 4 (go_quiet (fail); go_wp2)
  go_step3
  refine And.intro rfl ?_
  show Code.wp _ _ _ _ _
  go_wp2
  go_quiet (fail)
  go_wp2
  simp only [Exit.jump]
  go_ret2
  exact ⟨rfl, failed_of H.out h2 (.inr rfl) _ _ _ _⟩

set_option maxHeartbeats 400000 in
theorem num_short (w : World) (b g : Nat) (xs : List UInt8) (p : Nat) (fa low high : Int) (h : Rdr w b g xs p 0 fa) (hl : xs.length ≤ 140737488351232) (x : UInt8) (hx : xs[p]? = some x) (h8 : (x.toNat : Int) ≤ 8) (hs : xs.length - (p + 1) < x.toNat) :
    Calls Tryz.prog 82 #[.pointer (some ⟨b, 0, none⟩), .int .i64 low, .int .i64 high] w fun e w' => e = .returned (.tuple #[.int .i64 0, .int .i64 p]) ∧ Failed w w' b g xs p 4 xs.length := by
  obtain ⟨A, c, h1, h2, h3⟩ := h
  have hp : p < xs.length := (List.getElem?_eq_some_iff.1 hx).1
  have hcap := h2.cap
  unfold maxLen at hcap
  have hne : ((p : Int) == xs.length) = false := by simp; omega
  obtain ⟨rfl, hc⟩ := h2.at_ h3 hx
  have k1 := cell_of h1 1
  have k2 := cell_of h1 2
  have k3 := cell_of h1 3
  have k4 := cell_of h1 4
  have f3 := free_of h1 3
  have f4 := free_of h1 4
  simp only [List.getElem?_toArray, List.getElem?_cons_zero, List.getElem?_cons_succ] at k1 k2 k3 k4
  have H := Lib.hid h1
  have Hx := Lib.hid hx
  clear h1 h3 hx
  go_enter Tryz.func82, Tryz.ntmps82
  go_wp2
  refine wp_scope_fwd 0 rfl ?_
  go_wp2
  iterate 4 (go_quiet (fail); go_wp2)
  all_goals
    go_quiet (fail)
    go_wp2
    go_step3
    refine And.intro rfl ?_
    show Code.wp _ _ _ _ _
    go_wp2
    go_quiet (fail)
    go_wp2
    simp only [Exit.jump]
    go_ret2
    exact ⟨rfl, failed_of H.out h2 (.inr rfl) _ _ _ _⟩

set_option maxHeartbeats 400000 in
theorem num_zero (w : World) (b g : Nat) (xs : List UInt8) (p : Nat) (fa low high : Int) (h : Rdr w b g xs p 0 fa) (hl : xs.length ≤ 140737488351232) (x : UInt8) (hx : xs[p]? = some x) (h8 : (x.toNat : Int) ≤ 8) (hs : x.toNat ≤ xs.length - (p + 1)) (h1 : 0 < x.toNat) (hz : xs[p + 1]? = some 0) :
    Calls Tryz.prog 82 #[.pointer (some ⟨b, 0, none⟩), .int .i64 low, .int .i64 high] w fun e w' => e = .returned (.tuple #[.int .i64 0, .int .i64 p]) ∧ Failed w w' b g xs p 2 p := by
  obtain ⟨A, c, h1, h2, h3⟩ := h
  have hp : p < xs.length := (List.getElem?_eq_some_iff.1 hx).1
  have hcap := h2.cap
  unfold maxLen at hcap
  have hne : ((p : Int) == xs.length) = false := by simp; omega
  have hcc : ¬ c = p + 1 := by omega
  obtain ⟨rfl, hc⟩ := h2.at_ h3 hx
  obtain ⟨_, hc2⟩ := h2.at_ h3 hz
  have k1 := cell_of h1 1
  have k2 := cell_of h1 2
  have k3 := cell_of h1 3
  have k4 := cell_of h1 4
  have f3 := free_of h1 3
  have f4 := free_of h1 4
  simp only [List.getElem?_toArray, List.getElem?_cons_zero, List.getElem?_cons_succ] at k1 k2 k3 k4
  have H := Lib.hid h1
  have Hx := Lib.hid hx
  have Hz := Lib.hid hz
  clear h1 h3 hx hz
  go_enter Tryz.func82, Tryz.ntmps82
  go_wp2
  refine wp_scope_fwd 0 rfl ?_
  go_wp2
  iterate 7 (go_quiet (fail); go_wp2)
  go_step3
  refine And.intro rfl ?_
  show Code.wp _ _ _ _ _
  go_wp2
  go_quiet (fail)
  go_wp2
  simp only [Exit.jump]
  go_ret2
  exact ⟨rfl, failed_of H.out h2 (.inr rfl) _ _ _ _⟩
end
section
open Go.RowKit

set_option maxHeartbeats 1000000 in
theorem num_none (w : World) (b g : Nat) (xs : List UInt8) (p : Nat) (fa low high : Int) (h : Rdr w b g xs p 0 fa) (hl : xs.length ≤ 140737488351232) (x : UInt8) (hx : xs[p]? = some x) (h0 : x.toNat = 0) (hr : low ≤ 0) (hr2 : 0 ≤ high) :
    Calls Tryz.prog 82 #[.pointer (some ⟨b, 0, none⟩), .int .i64 low, .int .i64 high] w fun e w' => e = .returned (.tuple #[.int .i64 0, .int .i64 ((p : Int) + 1)]) ∧ Chg [] w w' := by
  obtain ⟨A, c, h1, h2, h3⟩ := h
  have hp : p < xs.length := (List.getElem?_eq_some_iff.1 hx).1
  have hcap := h2.cap
  unfold maxLen at hcap
  have hne : ((p : Int) == xs.length) = false := by simp; omega
  obtain ⟨rfl, hc⟩ := h2.at_ h3 hx
  rw [h0] at hc
  have k1 := cell_of h1 1
  have k2 := cell_of h1 2
  simp only [List.getElem?_toArray, List.getElem?_cons_zero, List.getElem?_cons_succ] at k1 k2
  have H := Lib.hid h1
  have Hx := Lib.hid hx
  have H0 := Lib.hid h0
  clear h1 h3 hx h0
  go_enter Tryz.func82, Tryz.ntmps82
  go_wp2
  refine wp_scope_fwd 0 rfl ?_
  go_wp2
  iterate 4 (go_quiet (fail); go_wp2)
  all_goals
    iterate 2 (go_quiet (fail); go_wp2)
    refine wp_loop_rounds 1 ?_
    rw [rounds_succ]
    go_wp2
    go_quiet (fail)
    go_wp2
    simp only [Exit.jump]
    go_ret2
    exact ⟨rfl, ((Chg.refl _ _).drewN _).drewN _⟩

set_option maxHeartbeats 1000000 in
theorem num_none_out (w : World) (b g : Nat) (xs : List UInt8) (p : Nat) (fa low high : Int) (h : Rdr w b g xs p 0 fa) (x : UInt8) (hx : xs[p]? = some x) (h0 : x.toNat = 0) (hr : 0 < low ∨ low ≤ 0 ∧ high < 0) :
    Calls Tryz.prog 82 #[.pointer (some ⟨b, 0, none⟩), .int .i64 low, .int .i64 high] w fun e w' => e = .returned (.tuple #[.int .i64 0, .int .i64 p]) ∧ Failed w w' b g xs p 5 p := by
  obtain ⟨A, c, h1, h2, h3⟩ := h
  have hp : p < xs.length := (List.getElem?_eq_some_iff.1 hx).1
  have hcap := h2.cap
  unfold maxLen at hcap
  have hne : ((p : Int) == xs.length) = false := by simp; omega
  obtain ⟨rfl, hc⟩ := h2.at_ h3 hx
  rw [h0] at hc
  have k1 := cell_of h1 1
  have k2 := cell_of h1 2
  have k3 := cell_of h1 3
  have k4 := cell_of h1 4
  have f3 := free_of h1 3
  have f4 := free_of h1 4
  simp only [List.getElem?_toArray, List.getElem?_cons_zero, List.getElem?_cons_succ] at k1 k2 k3 k4
  have H := Lib.hid h1
  have Hx := Lib.hid hx
  have H0 := Lib.hid h0
  clear h1 h3 hx h0
  rcases hr with hr | ⟨hr, hr2⟩
  all_goals
    go_enter Tryz.func82, Tryz.ntmps82
    go_wp2
    refine wp_scope_fwd 0 rfl ?_
    go_wp2
    iterate 4 (go_quiet (fail); go_wp2)
    all_goals
      iterate 2 (go_quiet (fail); go_wp2)
      refine wp_loop_rounds 1 ?_
      rw [rounds_succ]
      go_wp2
      go_quiet (fail)
      go_wp2
      go_step3
      refine And.intro rfl ?_
      show Code.wp _ _ _ _ _
      go_wp2
      go_quiet (fail)
      go_wp2
      simp only [Exit.jump]
      go_ret2
      exact ⟨rfl, failed_of H.out h2 (.inr rfl) _ _ _ _⟩
end
section
open Go.RowKit

theorem val_snoc (l : List UInt8) (c : UInt8) : val (l ++ [c]) = val l * 256 + c.toNat := by simp [val, List.foldl_append]
theorem val_nil : val [] = 0 := rfl
theorem val_lt : ∀ (k : Nat) (l : List UInt8), l.length = k → val l < 256 ^ k
  | 0, l, h => by
    have : l = [] := List.eq_nil_of_length_eq_zero h
    subst this; decide
  | k + 1, l, h => by
    obtain ⟨c, hc⟩ : ∃ c, l = l.take k ++ [c] := ⟨l[k]'(by omega), by rw [List.take_append_getElem]; exact (List.take_of_length_le (by omega)).symm⟩
    have hk := val_lt k (l.take k) (by simp; omega)
    have hb := c.toNat_lt
    rw [hc, val_snoc, Nat.pow_succ]
    omega
theorem take_more (l : List UInt8) (j : Nat) (h : j < l.length) : l.take (j + 1) = l.take j ++ [l.getD j 0] := by
  rw [List.take_succ_eq_append_getElem h]
  simp [List.getD, h]

/-- The number of the first j bytes behind the place. -/
def dv (xs : List UInt8) (p j : Nat) : Nat := val ((xs.drop (p + 1)).take j)
theorem dv_zero (xs : List UInt8) (p : Nat) : dv xs p 0 = 0 := by simp [dv, val_nil]
/-- The byte at a place. -/
def bt (xs : List UInt8) (j : Nat) : Nat := (xs.getD j 0).toNat
theorem bt_lt (xs : List UInt8) (j : Nat) : bt xs j < 256 := (xs.getD j 0).toNat_lt
theorem dv_succ (xs : List UInt8) (p j : Nat) (h : p + 1 + j < xs.length) : dv xs p (j + 1) = dv xs p j * 256 + bt xs (p + 1 + j) := by
  unfold dv bt
  rw [take_more _ _ (by simp; omega), val_snoc]
  congr 2
  simp [List.getD, List.getElem?_drop]
theorem dv_lt (xs : List UInt8) (p j : Nat) (h : p + 1 + j ≤ xs.length) : dv xs p j < 256 ^ j := val_lt j _ (by simp; omega)
theorem dv_lt8 (xs : List UInt8) (p j : Nat) (h : p + 1 + j ≤ xs.length) (hj : j ≤ 8) : dv xs p j ≤ 18446744073709551615 := by
  have h1 := dv_lt xs p j h
  have h2 : 256 ^ j ≤ 256 ^ 8 := Nat.pow_le_pow_right (by omega) hj
  have h3 : 256 ^ 8 = 18446744073709551616 := by decide
  omega

theorem or_join (a b : Nat) (h : a * 256 + b ≤ 18446744073709551615) (hb : b < 256) : bits .or .u64 ((a : Int) * 256) (b : Int) = ((a * 256 + b : Nat) : Int) := by
  rw [show (a : Int) * 256 = ((a * 256 : Nat) : Int) by omega, u64_or_nat _ _ (by omega) (by omega), nat_join 8 _ _ (by omega) (by omega)]

set_option maxHeartbeats 1000000 in
theorem num_digits (w : World) (b g : Nat) (xs : List UInt8) (p : Nat) (fa low high : Int) (h : Rdr w b g xs p 0 fa) (hl : xs.length ≤ 140737488351232) (x : UInt8) (hx : xs[p]? = some x) (h8 : (x.toNat : Int) ≤ 8) (hs : x.toNat ≤ xs.length - (p + 1)) (h0 : 0 < x.toNat) (hz : bt xs (p + 1) ≠ 0)
    (hv : dv xs p x.toNat ≤ 4611686018427387903) (hr : low ≤ dv xs p x.toNat) (hr2 : dv xs p x.toNat ≤ high) :
    Calls Tryz.prog 82 #[.pointer (some ⟨b, 0, none⟩), .int .i64 low, .int .i64 high] w fun e w' => e = .returned (.tuple #[.int .i64 (dv xs p x.toNat), .int .i64 ((p : Int) + 1 + x.toNat)]) ∧ Chg [] w w' := by
  obtain ⟨A, c, h1, h2, h3⟩ := h
  have hp : p < xs.length := (List.getElem?_eq_some_iff.1 hx).1
  have hcap := h2.cap
  unfold maxLen at hcap
  have hne : ((p : Int) == xs.length) = false := by simp; omega
  have hcc : ¬ c = p + 1 := by omega
  obtain ⟨rfl, hc⟩ := h2.at_ h3 hx
  have hcell : ∀ j, p + 1 + j < xs.length → w.cell? ⟨g, p + 1 + j, none⟩ = some (.int .u8 (bt xs (p + 1 + j) : Int)) := fun j hj => by
    have e : xs[p + 1 + j]? = some (xs.getD (p + 1 + j) 0) := by simp [List.getD, hj]
    exact (h2.at_ h3 e).2
  have hc2 := hcell 0 (by omega)
  rw [Nat.add_zero] at hc2
  have hz0 : ((bt xs (p + 1) : Int) == 0) = false := by simp only [beq_eq_false_iff_ne, ne_eq]; omega
  have k1 := cell_of h1 1
  have k2 := cell_of h1 2
  simp only [List.getElem?_toArray, List.getElem?_cons_zero, List.getElem?_cons_succ] at k1 k2
  have H := Lib.hid h1
  have Hx := Lib.hid hx
  have Hc := Lib.hid hcell
  clear h1 h3 hx hz hcell
  go_enter Tryz.func82, Tryz.ntmps82
  go_wp2
  refine wp_scope_fwd 0 rfl ?_
  go_wp2
  iterate 6 (go_quiet (fail); go_wp2)
  clear hc2 hz0
  go_loop [8, 95] (fun n i => ∃ j : Nat, j ≤ x.toNat ∧ i = .int .i64 j ∧ n = .int .u64 (dv xs p j)) (fun _ i => x.toNat - (intOf i).toNat)
  case atStart => exact ⟨0, by omega, rfl, by rw [dv_zero]; rfl⟩
  case round =>
    obtain ⟨j, hj, rfl, rfl⟩ := hrel
    by_cases hlt : j < x.toNat
    · have hcj := Hc.out j (by omega)
      have hbj := dv_lt8 xs p (j + 1) (by omega) (by omega)
      rw [dv_succ xs p j (by omega)] at hbj
      have hbb := bt_lt xs (p + 1 + j)
      go_wp2
      go_round
      case rel => exact ⟨j + 1, by omega, by go_num, by rw [or_join _ _ hbj hbb, ← dv_succ xs p j (by omega)]⟩
      case measure => simp [intOf]; omega
    · obtain rfl : j = x.toNat := by omega
      go_wp2
      go_quiet (fail)
      go_wp2
      simp only [Exit.jump]
      go_ret2
      exact ⟨rfl, ((Chg.refl _ _).drewN _).drewN _⟩
set_option maxHeartbeats 1000000 in
theorem num_digits_out (w : World) (b g : Nat) (xs : List UInt8) (p : Nat) (fa low high : Int) (h : Rdr w b g xs p 0 fa) (hl : xs.length ≤ 140737488351232) (x : UInt8) (hx : xs[p]? = some x) (h8 : (x.toNat : Int) ≤ 8) (hs : x.toNat ≤ xs.length - (p + 1)) (h0 : 0 < x.toNat) (hz : bt xs (p + 1) ≠ 0)
    (hv : 4611686018427387903 < dv xs p x.toNat ∨ dv xs p x.toNat ≤ 4611686018427387903 ∧ (dv xs p x.toNat : Int) < low ∨ dv xs p x.toNat ≤ 4611686018427387903 ∧ low ≤ dv xs p x.toNat ∧ high < dv xs p x.toNat) :
    Calls Tryz.prog 82 #[.pointer (some ⟨b, 0, none⟩), .int .i64 low, .int .i64 high] w fun e w' => e = .returned (.tuple #[.int .i64 0, .int .i64 p]) ∧ Failed w w' b g xs p 5 p := by
  obtain ⟨A, c, h1, h2, h3⟩ := h
  have hp : p < xs.length := (List.getElem?_eq_some_iff.1 hx).1
  have hcap := h2.cap
  unfold maxLen at hcap
  have hne : ((p : Int) == xs.length) = false := by simp; omega
  have hcc : ¬ c = p + 1 := by omega
  obtain ⟨rfl, hc⟩ := h2.at_ h3 hx
  have hcell : ∀ j, p + 1 + j < xs.length → w.cell? ⟨g, p + 1 + j, none⟩ = some (.int .u8 (bt xs (p + 1 + j) : Int)) := fun j hj => by
    have e : xs[p + 1 + j]? = some (xs.getD (p + 1 + j) 0) := by simp [List.getD, hj]
    exact (h2.at_ h3 e).2
  have hc2 := hcell 0 (by omega)
  rw [Nat.add_zero] at hc2
  have hz0 : ((bt xs (p + 1) : Int) == 0) = false := by simp only [beq_eq_false_iff_ne, ne_eq]; omega
  have k1 := cell_of h1 1
  have k2 := cell_of h1 2
  have k3 := cell_of h1 3
  have k4 := cell_of h1 4
  have f3 := free_of h1 3
  have f4 := free_of h1 4
  simp only [List.getElem?_toArray, List.getElem?_cons_zero, List.getElem?_cons_succ] at k1 k2 k3 k4
  have H := Lib.hid h1
  have Hx := Lib.hid hx
  have Hc := Lib.hid hcell
  clear h1 h3 hx hz hcell
  go_enter Tryz.func82, Tryz.ntmps82
  go_wp2
  refine wp_scope_fwd 0 rfl ?_
  go_wp2
  iterate 6 (go_quiet (fail); go_wp2)
  clear hc2 hz0
  go_loop [8, 95] (fun n i => ∃ j : Nat, j ≤ x.toNat ∧ i = .int .i64 j ∧ n = .int .u64 (dv xs p j)) (fun _ i => x.toNat - (intOf i).toNat)
  case atStart => exact ⟨0, by omega, rfl, by rw [dv_zero]; rfl⟩
  case round =>
    obtain ⟨j, hj, rfl, rfl⟩ := hrel
    by_cases hlt : j < x.toNat
    · have hcj := Hc.out j (by omega)
      have hbj := dv_lt8 xs p (j + 1) (by omega) (by omega)
      rw [dv_succ xs p j (by omega)] at hbj
      have hbb := bt_lt xs (p + 1 + j)
      go_wp2
      go_round
      case rel => exact ⟨j + 1, by omega, by go_num, by rw [or_join _ _ hbj hbb, ← dv_succ xs p j (by omega)]⟩
      case measure => simp [intOf]; omega
    · obtain rfl : j = x.toNat := by omega
      rcases hv with hv | ⟨hv, hv2⟩ | ⟨hv, hv2, hv3⟩
      all_goals
        go_wp2
        go_quiet (fail)
        go_wp2
        go_step3
        refine And.intro rfl ?_
        show Code.wp _ _ _ _ _
        go_wp2
        go_quiet (fail)
        go_wp2
        simp only [Exit.jump]
        go_ret2
        exact ⟨rfl, failed_of H.out h2 (.inr rfl) _ _ _ _⟩
end
section
open Go.RowKit

/-- What is read at a place: a fault and where, or a number and where it ends. -/
def numAt (xs : List UInt8) (p : Nat) (low high : Int) : Except (Nat × Nat) (Nat × Nat) :=
  if p = xs.length then .error (4, xs.length)
  else if 8 < bt xs p then .error (2, p)
  else if xs.length - (p + 1) < bt xs p then .error (4, xs.length)
  else if 0 < bt xs p ∧ bt xs (p + 1) = 0 then .error (2, p)
  else if 4611686018427387903 < dv xs p (bt xs p) ∨ (dv xs p (bt xs p) : Int) < low ∨ high < (dv xs p (bt xs p) : Int) then .error (5, p)
  else .ok (dv xs p (bt xs p), p + 1 + bt xs p)

/-- What the inner number leaves. -/
def NumPost (w : World) (b g : Nat) (xs : List UInt8) (p : Nat) (low high : Int) (e : Ending) (w' : World) : Prop :=
  (∀ f q, numAt xs p low high = .error (f, q) → e = .returned (.tuple #[.int .i64 0, .int .i64 p]) ∧ Failed w w' b g xs p f q) ∧
  (∀ v q, numAt xs p low high = .ok (v, q) → e = .returned (.tuple #[.int .i64 v, .int .i64 q]) ∧ Chg [] w w')

theorem post_err {w w' : World} {b g : Nat} {xs : List UInt8} {p : Nat} {low high : Int} {e : Ending} {f q : Nat} (h : numAt xs p low high = .error (f, q)) (he : e = .returned (.tuple #[.int .i64 0, .int .i64 p]) ∧ Failed w w' b g xs p f q) : NumPost w b g xs p low high e w' :=
  ⟨fun f' q' h' => (by rw [h] at h'; cases h'; exact he), fun v q' h' => (by rw [h] at h'; cases h')⟩
theorem post_ok {w w' : World} {b g : Nat} {xs : List UInt8} {p : Nat} {low high : Int} {e : Ending} {v q : Nat} (h : numAt xs p low high = .ok (v, q)) (he : e = .returned (.tuple #[.int .i64 v, .int .i64 q]) ∧ Chg [] w w') : NumPost w b g xs p low high e w' :=
  ⟨fun f' q' h' => (by rw [h] at h'; cases h'), fun v' q' h' => (by rw [h] at h'; cases h'; exact he)⟩

theorem rnumber_any (w : World) (b g : Nat) (xs : List UInt8) (p : Nat) (fa low high : Int) (h : Rdr w b g xs p 0 fa) (hp : p ≤ xs.length) (hl : xs.length ≤ 140737488351232) :
    Calls Tryz.prog 82 #[.pointer (some ⟨b, 0, none⟩), .int .i64 low, .int .i64 high] w (NumPost w b g xs p low high) := by
  by_cases h1 : p = xs.length
  · subst h1
    refine (num_end w b g xs fa low high h).mono fun e w' he => post_err (f := 4) (q := xs.length) ?_ he
    simp only [numAt, if_pos]
  obtain ⟨x, hx⟩ : ∃ x, xs[p]? = some x := ⟨xs[p]'(by omega), List.getElem?_eq_getElem (by omega)⟩
  have hb : bt xs p = x.toNat := by simp [bt, List.getD, hx]
  by_cases h2 : 8 < bt xs p
  · refine (num_arg w b g xs p fa low high h x hx (by omega)).mono fun e w' he => post_err (f := 2) (q := p) ?_ he
    simp only [numAt, if_neg h1, if_pos h2]
  by_cases h3 : xs.length - (p + 1) < bt xs p
  · refine (num_short w b g xs p fa low high h hl x hx (by omega) (by omega)).mono fun e w' he => post_err (f := 4) (q := xs.length) ?_ he
    simp only [numAt, if_neg h1, if_neg h2, if_pos h3]
  by_cases h4 : 0 < bt xs p ∧ bt xs (p + 1) = 0
  · have hz : xs[p + 1]? = some 0 := by
      have hlt : p + 1 < xs.length := by omega
      rw [List.getElem?_eq_getElem hlt]
      have := h4.2
      simp only [bt, List.getD, List.getElem?_eq_getElem hlt, Option.getD_some] at this
      congr 1
      exact UInt8.toNat_inj.1 this
    refine (num_zero w b g xs p fa low high h hl x hx (by omega) (by omega) (by omega) hz).mono fun e w' he => post_err (f := 2) (q := p) ?_ he
    simp only [numAt, if_neg h1, if_neg h2, if_neg h3, if_pos h4]
  by_cases h5 : 4611686018427387903 < dv xs p (bt xs p) ∨ (dv xs p (bt xs p) : Int) < low ∨ high < (dv xs p (bt xs p) : Int)
  · have hn : numAt xs p low high = .error (5, p) := by simp only [numAt, if_neg h1, if_neg h2, if_neg h3, if_neg h4, if_pos h5]
    by_cases h6 : bt xs p = 0
    · rw [h6, dv_zero] at h5
      exact (num_none_out w b g xs p fa low high h x hx (by omega) (by omega)).mono fun e w' he => post_err hn he
    · rw [hb] at h5
      exact (num_digits_out w b g xs p fa low high h hl x hx (by omega) (by omega) (by omega) (by omega) (by omega)).mono fun e w' he => post_err hn he
  · have hn : numAt xs p low high = .ok (dv xs p (bt xs p), p + 1 + bt xs p) := by simp only [numAt, if_neg h1, if_neg h2, if_neg h3, if_neg h4, if_neg h5]
    by_cases h6 : bt xs p = 0
    · rw [h6, dv_zero] at h5 hn
      exact (num_none w b g xs p fa low high h hl x hx (by omega) (by omega) (by omega)).mono fun e w' he => post_ok hn (by simpa using he)
    · rw [hb] at h5 hn
      exact (num_digits w b g xs p fa low high h hl x hx (by omega) (by omega) (by omega) (by omega) (by omega) (by omega) (by omega)).mono fun e w' he => post_ok hn (by simpa using he)

theorem numAt_ok {xs : List UInt8} {p : Nat} {low high : Int} {v q : Nat} (h : numAt xs p low high = .ok (v, q)) (hp : p ≤ xs.length) : q ≤ xs.length ∧ p < q ∧ v ≤ 4611686018427387903 ∧ low ≤ v ∧ v ≤ high := by
  unfold numAt at h
  repeat (split at h; · cases h)
  cases h
  omega

theorem numAt_err {xs : List UInt8} {p : Nat} {low high : Int} {f q : Nat} (h : numAt xs p low high = .error (f, q)) : f ≠ 0 := by
  unfold numAt at h
  repeat (split at h; · (cases h; decide))
  cases h

/-- What a reader is behind a number that is asked for: its place, its fault. -/
def rNum (xs : List UInt8) (p : Nat) (fe fa : Int) (low high : Int) : Int × Nat × Int × Int :=
  if fe ≠ 0 then (0, p, fe, fa) else match numAt xs p low high with
    | .error (f, q) => (0, p, (f : Int), (q : Int))
    | .ok (v, q) => ((v : Int), q, 0, fa)

theorem Rdr.place {w : World} {b g : Nat} {xs : List UInt8} {p q : Nat} {fe fa : Int} (h : Rdr w b g xs p fe fa) : Rdr (w.setCell ⟨b, 2, none⟩ (.int .i64 q)) b g xs q fe fa ∧ Chg [b] w (w.setCell ⟨b, 2, none⟩ (.int .i64 q)) := by
  obtain ⟨A, c, h1, h2, h3⟩ := h
  have hne := h2.ne h1 (by decide)
  have q1 := heap_setCell_same w b 2 _ _ (.int .i64 q) h1
  refine ⟨⟨A, c, by simpa using q1, h2.keep fun g o eA ho => ?_, h3⟩, (Chg.refl _ _).setCell (by simp) _⟩
  rw [Below.heap_setCell _ _ _ _ (hne _ eA)]; exact ho

theorem rreads_yes (w : World) (b g : Nat) (xs : List UInt8) (p : Nat) (fa : Int) (h : Rdr w b g xs p 0 fa) :
    Calls Tryz.prog 81 #[.pointer (some ⟨b, 0, none⟩)] w fun e w' => e = .returned (.bool true) ∧ w = w' := rreads_any w b g xs p 0 fa h
theorem rreads_no (w : World) (b g : Nat) (xs : List UInt8) (p : Nat) (fe fa : Int) (h : Rdr w b g xs p fe fa) (he : fe ≠ 0) :
    Calls Tryz.prog 81 #[.pointer (some ⟨b, 0, none⟩)] w fun e w' => e = .returned (.bool false) ∧ w = w' := by
  have := rreads_any w b g xs p fe fa h
  rwa [show (fe == 0) = false by simpa using he] at this

set_option maxHeartbeats 400000 in
theorem rnum_no (w : World) (b g : Nat) (xs : List UInt8) (p : Nat) (fe fa low high : Int) (h : Rdr w b g xs p fe fa) (he : fe ≠ 0) :
    Calls Tryz.prog 45 #[.pointer (some ⟨b, 0, none⟩), .int .i64 low, .int .i64 high] w fun e w' => e = .returned (.int .i64 0) ∧ w = w' := by
  have H := Lib.hid he
  clear he
  go_enter Tryz.func45, Tryz.ntmps45
  go_wp2_with (go_at_call 81; refine (rreads_no _ b g xs p fe fa h H.out).mono ?_; rintro r w' ⟨rfl, rfl⟩)
  go_ret
  exact ⟨rfl, rfl⟩

set_option maxHeartbeats 400000 in
theorem rnum_err (w : World) (b g : Nat) (xs : List UInt8) (p : Nat) (fa low high : Int) (h : Rdr w b g xs p 0 fa) (hp : p ≤ xs.length) (hl : xs.length ≤ 140737488351232) (f q : Nat) (hn : numAt xs p low high = .error (f, q)) :
    Calls Tryz.prog 45 #[.pointer (some ⟨b, 0, none⟩), .int .i64 low, .int .i64 high] w fun e w' => e = .returned (.int .i64 0) ∧ Failed w w' b g xs p f q := by
  have H := Lib.hid hn
  clear hn
  go_enter Tryz.func45, Tryz.ntmps45
  go_wp2_with (first
    | (go_at_call 81; refine (rreads_yes _ b g xs p fa h).mono ?_; rintro r w' ⟨rfl, rfl⟩)
    | (go_at_call 82; refine (rnumber_any _ b g xs p fa low high h hp hl).mono ?_; rintro r w1 hpost; obtain ⟨rfl, hf⟩ := hpost.1 _ _ H.out; clear hpost; obtain ⟨A1, c1, i1, i2, i3⟩ := id hf.1; have k2 := cell_of i1 2; have k3 := free_of i1 2; simp only [List.getElem?_toArray, List.getElem?_cons_zero, List.getElem?_cons_succ] at k2; have HF := Lib.hid hf; have I3 := Lib.hid i3; have I1 := Lib.hid i1; clear hf i1 i3))
  go_ret
  have hp2 := (HF.out.1.place (q := p))
  exact ⟨rfl, hp2.1, HF.out.2.trans hp2.2⟩

set_option maxHeartbeats 400000 in
theorem rnum_ok (w : World) (b g : Nat) (xs : List UInt8) (p : Nat) (fa low high : Int) (h : Rdr w b g xs p 0 fa) (hp : p ≤ xs.length) (hl : xs.length ≤ 140737488351232) (v q : Nat) (hn : numAt xs p low high = .ok (v, q)) :
    Calls Tryz.prog 45 #[.pointer (some ⟨b, 0, none⟩), .int .i64 low, .int .i64 high] w fun e w' => e = .returned (.int .i64 v) ∧ Rdr w' b g xs q 0 fa ∧ Chg [b] w w' := by
  have H := Lib.hid hn
  clear hn
  go_enter Tryz.func45, Tryz.ntmps45
  go_wp2_with (first
    | (go_at_call 81; refine (rreads_yes _ b g xs p fa h).mono ?_; rintro r w' ⟨rfl, rfl⟩)
    | (go_at_call 82; refine (rnumber_any _ b g xs p fa low high h hp hl).mono ?_; rintro r w1 hpost; obtain ⟨rfl, hf⟩ := hpost.2 _ _ H.out; clear hpost; have hr1 := h.chg hf (by simp) (by simp); obtain ⟨A1, c1, i1, i2, i3⟩ := id hr1; have k2 := cell_of i1 2; have k3 := free_of i1 2; simp only [List.getElem?_toArray, List.getElem?_cons_zero, List.getElem?_cons_succ] at k2; have HF := Lib.hid hf; have I3 := Lib.hid i3; have I1 := Lib.hid i1; clear hf i1 i3))
  go_ret
  have hp2 := hr1.place (q := q)
  exact ⟨rfl, hp2.1, (HF.out.mono (by simp)).trans hp2.2⟩

/-- Num, whatever came ahead. -/
theorem rnum_any (w : World) (b g : Nat) (xs : List UInt8) (p : Nat) (fe fa low high : Int) (h : Rdr w b g xs p fe fa) (hp : p ≤ xs.length) (hl : xs.length ≤ 140737488351232) :
    Calls Tryz.prog 45 #[.pointer (some ⟨b, 0, none⟩), .int .i64 low, .int .i64 high] w fun e w' => e = .returned (.int .i64 (rNum xs p fe fa low high).1) ∧ Rdr w' b g xs (rNum xs p fe fa low high).2.1 (rNum xs p fe fa low high).2.2.1 (rNum xs p fe fa low high).2.2.2 ∧ Chg [b] w w' := by
  unfold rNum
  by_cases he : fe = 0
  · subst he
    simp only [ne_eq, not_true_eq_false, if_false]
    cases hn : numAt xs p low high with
    | error x => obtain ⟨f, q⟩ := x; exact (rnum_err w b g xs p fa low high h hp hl f q hn).mono fun e w' he => ⟨he.1, he.2.1, he.2.2⟩
    | ok x => obtain ⟨v, q⟩ := x; exact rnum_ok w b g xs p fa low high h hp hl v q hn
  · simp only [ne_eq, he, not_false_eq_true, if_true]
    exact (rnum_no w b g xs p fe fa low high h he).mono fun e w' ⟨h1, h2⟩ => ⟨h1, h2 ▸ h, h2 ▸ Chg.refl _ _⟩
end
end Go.Proofs.YtcnbgdplkobenaaGreatDoor
