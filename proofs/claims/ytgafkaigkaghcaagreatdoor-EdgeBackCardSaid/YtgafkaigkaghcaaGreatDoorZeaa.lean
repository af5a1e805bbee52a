/- Words on memory that the walks over this seat share: bytes read, bytes owned, what a step leaves alone. No function of the program is named here. Sets of dots as lists of spans: plain functions. No function of the program is named here. Two sets of dots gone through at a time: plain functions. No function of the program is named here. Spans in any order made a past, as the document does it: plain functions. No function of the program is named here. New blocks, and the world behind them, under one name. Rows of elements of several cells each (structs): read, owned, appended to. No function of the program is named here. math/bits.Len64 and wire.width: how many bytes a number takes. The writer of package wire: what each of its calls does. The writer's exported calls: Num, Text, Raw, Out. -/
import Derived.Test.YtgafkaigkaghcaaGreatDoorRows
import Derived.WalkKit
import Derived.WalkSpells
import Derived.WalkLawsBesides
import Derived.LaidEqlPtr
import Derived.Lib.Hide
import Derived.Maps.AppendAt
import Derived.OrdersHeld
import Derived.Deep.DeepAppendWide
import Derived.Lib.BitFns
namespace Go.Proofs.YtgafkaigkaghcaaGreatDoor
section
open Go.RowKit

/-- A byte as a value. -/
def bv (c : UInt8) : Value := .int .u8 (c.toNat : Int)

/-- Outside the blocks S nothing that was there has turned. -/
structure Chg (S : List Nat) (w w' : World) : Prop where
  os : w'.os = w.os
  tape : w'.tape = w.tape
  output : w'.output = w.output
  size : w.heap.size ≤ w'.heap.size
  block : ∀ k, k < w.heap.size → k ∉ S → w'.heap[k]? = w.heap[k]?

theorem Chg.refl (S : List Nat) (w : World) : Chg S w w := ⟨rfl, rfl, rfl, Nat.le_refl _, fun _ _ _ => rfl⟩
theorem Chg.trans {S : List Nat} {a b c : World} (h : Chg S a b) (k : Chg S b c) : Chg S a c :=
  ⟨k.os.trans h.os, k.tape.trans h.tape, k.output.trans h.output, Nat.le_trans h.size k.size, fun i hi hn => (k.block i (Nat.lt_of_lt_of_le hi h.size) hn).trans (h.block i hi hn)⟩
/-- A later step may turn blocks that were not there at first. -/
theorem Chg.trans' {S S' : List Nat} {a b c : World} (h : Chg S a b) (k : Chg S' b c) (hs : ∀ i ∈ S', i ∈ S ∨ a.heap.size ≤ i) : Chg S a c :=
  ⟨k.os.trans h.os, k.tape.trans h.tape, k.output.trans h.output, Nat.le_trans h.size k.size, fun i hi hn => (k.block i (Nat.lt_of_lt_of_le hi h.size) (fun hm => by
    rcases hs i hm with h1 | h1
    · exact hn h1
    · omega)).trans (h.block i hi hn)⟩
theorem Chg.mono {S S' : List Nat} {a b : World} (h : Chg S a b) (hs : ∀ i ∈ S, i ∈ S' ∨ a.heap.size ≤ i) : Chg S' a b :=
  ⟨h.os, h.tape, h.output, h.size, fun i hi hn => h.block i hi (fun hm => by
    rcases hs i hm with h1 | h1
    · exact hn h1
    · omega)⟩
theorem Chg.drew {S : List Nat} {a w : World} (h : Chg S a w) : Chg S a w.drew := ⟨h.os, h.tape, h.output, h.size, h.block⟩
theorem Chg.drewN {S : List Nat} {a w : World} (h : Chg S a w) (n : Nat) : Chg S a (w.drewN n) := ⟨h.os, h.tape, h.output, h.size, h.block⟩
theorem Chg.alloc {S : List Nat} {a w : World} (h : Chg S a w) (o : Obj) : Chg S a (w.alloc o) :=
  h.trans ⟨rfl, rfl, rfl, by simp, fun k hk _ => Below.heap_alloc _ _ _ hk⟩
theorem Chg.setCell {S : List Nat} {a w : World} (h : Chg S a w) {p : Addr} (hp : p.block ∈ S ∨ a.heap.size ≤ p.block) (u : Value) : Chg S a (w.setCell p u) :=
  ⟨h.os, h.tape, h.output, by simpa [World.setCell] using h.size, fun k hk hn => (Below.heap_setCell _ _ _ _ (by
    rintro rfl
    rcases hp with h1 | h1
    · exact hn h1
    · omega)).trans (h.block k hk hn)⟩
theorem Chg.grown {S : List Nat} {a w w' : World} {row : Option Nat} (h : Chg S a w) (hg : w.grownBy w' row) (hr : ∀ k, row = some k → k ∈ S ∨ a.heap.size ≤ k) : Chg S a w' :=
  ⟨hg.os.trans h.os, hg.tape.trans h.tape, hg.output.trans h.output, Nat.le_trans h.size hg.size, fun k hk hn => (hg.block k (Nat.lt_of_lt_of_le hk h.size) (fun e => by
    rcases hr k e.symm with h1 | h1
    · exact hn h1
    · omega)).trans (h.block k hk hn)⟩
theorem Chg.ofBelow {B : Nat} {a b : World} (h : Below B a b) (hB : a.heap.size ≤ B) (S : List Nat) : Chg S a b :=
  ⟨h.os, h.tape, h.output, h.size, fun k hk _ => h.block k (by omega)⟩
theorem Chg.toBelow {a b : World} (h : Chg [] a b) : Below a.heap.size a b := ⟨h.os, h.tape, h.output, h.size, fun k hk => h.block k hk (by simp)⟩

theorem heap_alloc_two (w : World) (o o' : Obj) : ((w.alloc o).alloc o').heap[w.heap.size + 1]? = some o' := by
  have := heap_alloc_new (w.alloc o) o'
  rwa [World.size_alloc] at this
theorem lt_of_heap {w : World} {b : Nat} {o : Obj} (h : w.heap[b]? = some o) : b < w.heap.size := (Array.getElem?_eq_some_iff.1 h).1
theorem Chg.at_ {S : List Nat} {w w' : World} {b : Nat} {o : Obj} (h : Chg S w w') (hb : w.heap[b]? = some o) (hn : b ∉ S) : w'.heap[b]? = some o :=
  (h.block b (lt_of_heap hb) hn).trans hb
theorem lt_of_cell {w : World} {a : Addr} {v : Value} (h : w.cell? a = some v) : a.block < w.heap.size := by
  unfold World.cell? at h
  split at h
  · rename_i hb; exact lt_of_heap hb
  · cases h
theorem Chg.cell {S : List Nat} {w w' : World} {a : Addr} {v : Value} (h : Chg S w w') (hc : w.cell? a = some v) (hn : a.block ∉ S) : w'.cell? a = some v :=
  (World.cell?_of_block (w := w) (h.block _ (lt_of_cell hc) hn)).trans hc

/-- The slice '.slice A n _' reads as these bytes. -/
structure Bs (w : World) (A : Option Addr) (n : Nat) (xs : List UInt8) : Prop where
  len : xs.length = n
  cells : ∀ j c, xs[j]? = some c → ∃ a, A = some a ∧ w.cell? (a.add j) = some (bv c)

theorem cell_of' {w : World} {b : Nat} {cs : Array Value} {t : TypeId} {fr : Nat × Nat} (h : w.heap[b]? = some (.cells cs t fr)) (j : Nat) : w.cell? ⟨b, j, none⟩ = cs[j]? := by simp [World.cell?, h]
/-- One byte in a new block. -/
theorem Bs.one (w : World) (c : UInt8) (x : Int) (hx : x = (c.toNat : Int)) : Bs (w.alloc (.cells #[.int .u8 x] 5)) (some ⟨w.heap.size, 0, none⟩) 1 [c] :=
  ⟨rfl, fun j u hj => by
    cases j with
    | zero =>
      simp at hj
      subst hj hx
      refine ⟨_, rfl, ?_⟩
      have e := cell_of' (heap_alloc_new w (.cells #[.int .u8 (c.toNat : Int)] 5)) 0
      have ea : (⟨w.heap.size, 0, none⟩ : Addr).add 0 = ⟨w.heap.size, 0, none⟩ := by unfold Addr.add; split <;> simp_all
      rw [ea, e]; rfl
    | succ j => simp at hj⟩

theorem block_add (a : Addr) (n : Nat) : (a.add n).block = a.block := by unfold Addr.add; split <;> rfl
theorem add_zero_lit (g j : Nat) : (⟨g, 0, none⟩ : Addr).add j = ⟨g, j, none⟩ := by unfold Addr.add; split <;> simp_all
theorem add_lit (g o j : Nat) : (⟨g, o, none⟩ : Addr).add j = ⟨g, o + j, none⟩ := by unfold Addr.add; split <;> simp_all

/-- A string's bytes in the block that a conversion lays. -/
theorem Bs.str (w : World) (s : ByteArray) (k : Nat) (fr : Nat × Nat) : Bs (w.alloc (.cells (bytesRow s k) 5 fr)).drew (some ⟨w.heap.size, 0, none⟩) s.size s.data.toList :=
  ⟨by rw [Array.length_toList]; rfl, fun j u hj => by
    refine ⟨_, rfl, ?_⟩
    have hl := (List.getElem?_eq_some_iff.1 hj).1
    rw [Array.length_toList] at hl
    have e : (w.alloc (.cells (bytesRow s k) 5 fr)).cell? ⟨w.heap.size, j, none⟩ = (bytesRow s k)[j]? := cell_of' (heap_alloc_new w _) j
    rw [add_zero_lit]
    refine Eq.trans ?_ (e.trans (bytesRow_at s k j hl) |>.trans ?_)
    · rfl
    · simp at hj
      obtain ⟨_, rfl⟩ := Array.getElem?_eq_some_iff.1 hj
      rfl⟩

theorem Bs.nil (w : World) (A : Option Addr) : Bs w A 0 [] := ⟨rfl, by simp⟩
theorem Bs.keep {w w' : World} {A : Option Addr} {n : Nat} {xs : List UInt8} (h : Bs w A n xs) (hk : ∀ (p : Addr) v, (∀ a, A = some a → p.block = a.block) → w.cell? p = some v → w'.cell? p = some v) : Bs w' A n xs :=
  ⟨h.len, fun j c hj => by
    obtain ⟨a, rfl, hc⟩ := h.cells j c hj
    exact ⟨a, rfl, hk _ _ (fun a' e => by cases e; exact block_add _ _) hc⟩⟩
theorem Bs.chg {S : List Nat} {w w' : World} {A : Option Addr} {n : Nat} {xs : List UInt8} (h : Bs w A n xs) (hc : Chg S w w') (hn : ∀ a, A = some a → a.block ∉ S) : Bs w' A n xs :=
  ⟨h.len, fun j c hj => by
    obtain ⟨a, rfl, hx⟩ := h.cells j c hj
    exact ⟨a, rfl, hc.cell hx (by rw [block_add]; exact hn a rfl)⟩⟩
/-- Bytes that lie apart from two blocks (or are none). -/
def Apart (B : Option Addr) (ys : List UInt8) (b g : Nat) : Prop := ys = [] ∨ ∀ a, B = some a → a.block ≠ b ∧ a.block ≠ g
theorem Bs.old {w : World} {A : Option Addr} {n : Nat} {xs : List UInt8} (h : Bs w A n xs) : xs = [] ∨ ∀ a, A = some a → a.block < w.heap.size := by
  cases xs with
  | nil => exact .inl rfl
  | cons x xs =>
    right
    rintro a rfl
    obtain ⟨a', e, hc⟩ := h.cells 0 x rfl
    cases e
    have := lt_of_cell hc
    rwa [block_add] at this
theorem Bs.apart {w : World} {A : Option Addr} {n : Nat} {xs : List UInt8} (h : Bs w A n xs) {b g : Nat} (hb : w.heap.size ≤ b) (hg : w.heap.size ≤ g) : Apart A xs b g := by
  rcases h.old with h | h
  · exact .inl h
  · exact .inr fun a e => by have := h a e; omega
theorem Bs.past {w w1 : World} {b g : Nat} {B : Option Addr} {m : Nat} {ys : List UInt8} (hr : Bs w B m ys) (hc : Chg [b, g] w w1) (hB : Apart B ys b g) : Bs w1 B m ys := by
  rcases hB with rfl | hB
  · have := hr.len
    subst this
    exact Bs.nil w1 B
  · exact hr.chg hc (fun a e => by have := hB a e; simp; exact this)
/-- The slice '.slice A xs.length c' owns a row of bytes that begins with these. -/
def OwnB (w : World) (A : Option Addr) (c : Nat) (xs : List UInt8) : Prop :=
  (A = none ∧ xs = [] ∧ c = 0) ∨ ∃ (g : Nat) (full : List UInt8), A = some ⟨g, 0, none⟩ ∧ w.heap[g]? = some (.cells (full.map bv).toArray 5 (0, 0)) ∧ full.length = c ∧ c ≤ maxLen ∧ xs.length ≤ c ∧ full.take xs.length = xs

theorem OwnB.none_ (w : World) : OwnB w none 0 [] := .inl ⟨rfl, rfl, rfl⟩
theorem OwnB.form {w : World} {A : Option Addr} {c : Nat} {xs : List UInt8} (h : OwnB w A c xs) :
    (A = none ∧ xs = [] ∧ c = 0) ∨ ∃ g cur, A = some ⟨g, 0, none⟩ ∧ w.heap[g]? = some (.cells cur 5 (0, 0)) ∧ xs.length ≤ c ∧ c ≤ maxLen ∧ cur.size = c ∧ cur.toList.take xs.length = xs.map bv := by
  rcases h with h | ⟨g, full, h1, h2, h3, h4, h5, h6⟩
  · exact .inl h
  · refine .inr ⟨g, _, h1, h2, h5, h4, by simpa using h3, ?_⟩
    show (full.map bv).take xs.length = _
    rw [← List.map_take, h6]
theorem OwnB.of {w : World} {g c : Nat} {full xs : List UInt8} (hg : w.heap[g]? = some (.cells (full.map bv).toArray 5 (0, 0))) (h1 : xs.length ≤ c) (h2 : c ≤ maxLen) (h3 : full.length = c) (h4 : full.take xs.length = xs) :
    OwnB w (some ⟨g, 0, none⟩) c xs := .inr ⟨g, full, rfl, hg, h3, h2, h1, h4⟩
theorem OwnB.cap {w : World} {A : Option Addr} {c : Nat} {xs : List UInt8} (h : OwnB w A c xs) : xs.length ≤ c ∧ c ≤ maxLen := by
  rcases h.form with ⟨_, rfl, rfl⟩ | ⟨_, _, _, _, h1, h2, _⟩
  · simp [maxLen]
  · exact ⟨h1, h2⟩
theorem OwnB.reads {w : World} {A : Option Addr} {c : Nat} {xs : List UInt8} (h : OwnB w A c xs) : Bs w A xs.length xs := by
  refine ⟨rfl, fun j u hj => ?_⟩
  rcases h.form with ⟨_, rfl, _⟩ | ⟨g, cur, rfl, hg, _, _, _, ht⟩
  · simp at hj
  · refine ⟨_, rfl, ?_⟩
    have hl : j < xs.length := (List.getElem?_eq_some_iff.1 hj).1
    have e : (cur.toList.take xs.length)[j]? = some (bv u) := by rw [ht]; simp [hj]
    rw [List.getElem?_take, if_pos hl] at e
    rw [add_zero_lit]
    simp [World.cell?, hg] at e ⊢
    exact e
theorem OwnB.keep {w w' : World} {A : Option Addr} {c : Nat} {xs : List UInt8} (h : OwnB w A c xs) (hk : ∀ g o, A = some ⟨g, 0, none⟩ → w.heap[g]? = some o → w'.heap[g]? = some o) : OwnB w' A c xs := by
  rcases h with h | ⟨g, full, h1, h2, r⟩
  · exact .inl h
  · exact .inr ⟨g, full, h1, hk g _ h1 h2, r⟩
theorem OwnB.chg {S : List Nat} {w w' : World} {A : Option Addr} {c : Nat} {xs : List UInt8} (h : OwnB w A c xs) (hc : Chg S w w') (hn : ∀ a, A = some a → a.block ∉ S) : OwnB w' A c xs :=
  h.keep fun _ _ e ho => hc.at_ ho (hn _ e)

theorem OwnB.ne {w : World} {A : Option Addr} {c : Nat} {xs : List UInt8} (h : OwnB w A c xs) {b : Nat} {cs : Array Value} {t : TypeId} {fr : Nat × Nat} (hb : w.heap[b]? = some (.cells cs t fr)) (ht : t ≠ 5) : ∀ a, A = some a → a.block ≠ b := by
  rintro a rfl e
  rcases h.form with ⟨h, _⟩ | ⟨g', cur, h, h4, _⟩
  · cases h
  · cases h
    subst e
    rw [hb] at h4
    cases h4
    exact ht rfl
/-- A block is as it was behind a step that turned one row alone. -/
theorem grown_at {w w' : World} {A : Option Addr} {b : Nat} {o : Obj} (hg : w.grownBy w' (A.map (·.block))) (hb : w.heap[b]? = some o) (hn : ∀ a, A = some a → a.block ≠ b) : w'.heap[b]? = some o :=
  (hg.block b (lt_of_heap hb) (fun e => by
    cases A with
    | none => cases e
    | some a => simp at e; exact hn a rfl e.symm)).trans hb
theorem cell_of {w : World} {b : Nat} {cs : Array Value} {t : TypeId} {fr : Nat × Nat} (h : w.heap[b]? = some (.cells cs t fr)) (j : Nat) : w.cell? ⟨b, j, none⟩ = cs[j]? := by simp [World.cell?, h]
theorem free_of {w : World} {b : Nat} {cs : Array Value} {t : TypeId} (h : w.heap[b]? = some (.cells cs t (0, 0))) (j : Nat) : w.frozen? ⟨b, j, none⟩ = false := by simp [World.frozen?, h]

/-- A string of bytes. -/
def strOf (ys : List UInt8) : ByteArray := ⟨ys.toArray⟩
@[go_sem] theorem strOf_toList (ys : List UInt8) : (strOf ys).toList = ys := ByteArray.toList_mk ys
theorem run_str (w : World) {A : Option Addr} {n c : Nat} {ys : List UInt8} (h : Bs w A n ys) : (convert 34 9 (.slice A n c)).run Tryz.prog w = .ok (.string (strOf ys)) w := by
  have hn := h.len
  subst hn
  cases A with
  | none =>
    have hy : ys = [] := by
      cases ys with
      | nil => rfl
      | cons y ys => obtain ⟨a, h, _⟩ := h.cells 0 y rfl; cases h
    subst hy
    exact run_convert_bytes_nil w 34 5 Tryz.underlying34 Tryz.underlying5 _ c 9 Tryz.underlying9
  | some a =>
    refine run_convert_bytes_back w 34 9 5 a c ys Tryz.underlying34 Tryz.underlying5 Tryz.underlying9 (fun j hj => ?_)
    obtain ⟨a', e, hc⟩ := h.cells j _ (List.getElem?_eq_getElem hj)
    cases e
    exact hc

theorem info8 : (Tryz.prog.info? 5).map (fun i => (i.zero, i.size, i.bytes)) = some (some (.int .u8 0), 1, 1) := by kernel_rfl

/-- Bytes, then zeros. -/
theorem zeros_bv (n : Nat) : Builtin.zeroCells (Value.int .u8 0).cells n = ((List.replicate n (0 : UInt8)).map bv).toArray := by
  apply Array.toList_inj.1
  rw [List.map_replicate]
  have hz : bv 0 = .int .u8 0 := rfl
  rw [hz]
  apply List.ext_getElem
  · simp [Builtin.zeroCells, Value.cells]
  · intro i h1 h2
    simp [Builtin.zeroCells, Value.cells, Nat.mod_one]

set_option maxRecDepth 100000 in
/-- append of bytes to a row that is owned. -/
theorem run_app (w : World) (ty : TypeId) {A : Option Addr} {c : Nat} {xs : List UInt8} (hown : OwnB w A c xs) {B : Option Addr} {m d : Nat} {ys : List UInt8} (hr : Bs w B m ys) (hlen : xs.length + m ≤ 140737488355327) :
    ∃ A' c' w', (Builtin.append_ #[34, 34] ty #[.slice A xs.length c, .slice B m d]).run Tryz.prog w = .ok (.slice A' (xs.length + m) c') w' ∧ OwnB w' A' c' (xs ++ ys) ∧
      w.grownBy w' (A.map (·.block)) ∧ (A' = A ∨ A' = some ⟨w.heap.size, 0, none⟩) := by
  obtain ⟨i0, hi, hz0, hz1, hz2⟩ := info_parts info8
  have hm := hr.len
  subst hm
  rcases B with _ | ad
  · have hy : ys = [] := by
      cases ys with
      | nil => rfl
      | cons y ys => obtain ⟨a, h, _⟩ := hr.cells 0 y rfl; cases h
    subst hy
    have h0 : (Builtin.append_ #[34, 34] ty #[.slice A xs.length c, .slice none 0 d]).run Tryz.prog w = .ok (.slice A xs.length c) w := by
      rcases hown.form with ⟨rfl, rfl, rfl⟩ | ⟨g, cur, rfl, _, hnc, _⟩
      · simp [Builtin.append_, run_underlying Tryz.underlying34, sizeOf, typeInfo, hi, Builtin.lenOf, Builtin.firstCells]
      · simp [Builtin.append_, run_underlying Tryz.underlying34, sizeOf, typeInfo, hi, Builtin.lenOf, Builtin.firstCells, hnc, storeCells]
    exact ⟨A, c, w, h0, by simpa using hown, World.grownBy.refl w _, .inl rfl⟩
  have hnews : ∀ j u, (ys.map bv)[j]? = some u → w.cell? (ad.add j) = some u := by
    intro j u hu
    rw [List.getElem?_map, Option.map_eq_some_iff] at hu
    obtain ⟨y, hy, rfl⟩ := hu
    obtain ⟨a, e, hc⟩ := hr.cells j y hy
    cases e
    exact hc
  have hl : (ys.map bv).length = ys.length * i0.size := by rw [hz1]; simp
  have h1 : ∀ u ∈ ys.map bv, u.oneCell' = true := by intro u hu; rw [List.mem_map] at hu; obtain ⟨c, _, rfl⟩ := hu; rfl
  have grown : ∀ (old : Nat) (row : Option Nat), let cap' := grownCap w (xs.length + ys.length) old 5
      OwnB (w.drew.alloc (.cells ((xs.map bv).toArray ++ (ys.map bv).toArray ++ Builtin.zeroCells (Value.int .u8 0).cells (cap' - (xs.length + ys.length))) 5)) (some ⟨w.heap.size, 0, none⟩) cap' (xs ++ ys) ∧
      w.grownBy (w.drew.alloc (.cells ((xs.map bv).toArray ++ (ys.map bv).toArray ++ Builtin.zeroCells (Value.int .u8 0).cells (cap' - (xs.length + ys.length))) 5)) row := by
    intro old row cap'
    have hge : xs.length + ys.length ≤ cap' := grownCap_ge w _ old _
    have hcm : cap' ≤ maxLen := grownCap_le_maxLen w _ old _ (by simp only [maxLen]; omega)
    have e : ((xs ++ ys ++ List.replicate (cap' - (xs.length + ys.length)) (0 : UInt8)).map bv).toArray = (xs.map bv).toArray ++ (ys.map bv).toArray ++ ((List.replicate (cap' - (xs.length + ys.length)) (0 : UInt8)).map bv).toArray := by
      simp only [List.map_append, List.append_toArray]
    refine ⟨.of (full := xs ++ ys ++ List.replicate (cap' - (xs.length + ys.length)) 0) ?_ (by simpa using hge) hcm (by simp; omega) List.take_left, ⟨rfl, rfl, rfl, by simp, fun k hk _ => Below.heap_alloc w.drew _ k hk⟩⟩
    rw [zeros_bv, e]
    exact heap_alloc_new w.drew _
  rcases hown with ⟨rfl, rfl, rfl⟩ | ⟨g, full, rfl, hg, hfl, hcm, hnc, htake⟩
  · by_cases hy : ys.length = 0
    · have hn : ys = [] := List.eq_nil_of_length_eq_zero hy
      subst hn
      refine ⟨none, 0, w, ?_, OwnB.none_ w, World.grownBy.refl w _, .inl rfl⟩
      simp [Builtin.append_, run_underlying Tryz.underlying34, sizeOf, typeInfo, hi, Builtin.lenOf, Builtin.firstCells, loadCells, loadCellsFrom]
    · have hr := run_append_nil (P := Tryz.prog) w 34 ty 5 i0 (.int .u8 0) Tryz.underlying34 hi hz0 ad ys.length d (ys.map bv) hl hnews (by omega) (by simp at hlen; omega) (by rw [hz2]; simp at hlen; omega)
      have hgr := grown 0 none
      simp only [List.length_nil, Nat.zero_add, List.map_nil, List.nil_append, Array.empty_append] at hgr ⊢
      exact ⟨_, _, _, hr, hgr.1, hgr.2, .inr rfl⟩
  · by_cases hroom : xs.length + ys.length ≤ c
    · have hfit : xs.length * i0.size + (ys.map bv).length ≤ (full.map bv).toArray.size := by rw [hz1]; simp; omega
      have hr := run_append_room (P := Tryz.prog) w 34 ty 5 i0 Tryz.underlying34 hi g xs.length c _ hg ad ys.length d (ys.map bv) hl hnews h1 hroom hfit
      refine ⟨_, _, _, hr, .of (full := full.take xs.length ++ ys ++ full.drop (xs.length + ys.length)) ?_ (by simpa using hroom) hcm (by simp; omega) (by rw [htake, ← List.length_append]; exact List.take_left), ⟨rfl, rfl, rfl, by simp, fun k hk hne => setRow_other w g k _ (fun e => hne (by simp [e]))⟩, .inl rfl⟩
      have hs := setRow_heap w g _ ((full.map bv).toArray.toList.take (xs.length * i0.size) ++ ys.map bv ++ (full.map bv).toArray.toList.drop (xs.length * i0.size + (ys.map bv).length)).toArray _ _ hg
      rw [hs]
      congr 2
      rw [hz1]
      simp
    · have holds : ∀ j u, (xs.map bv)[j]? = some u → w.cell? ((⟨g, 0, none⟩ : Addr).add j) = some u := by
        intro j u hu
        rw [List.getElem?_map, Option.map_eq_some_iff] at hu
        obtain ⟨y, hy, rfl⟩ := hu
        obtain ⟨a, e, hc⟩ := (OwnB.of hg hnc hcm hfl htake).reads.cells j y hy
        cases e
        exact hc
      have hr := run_append_grow (P := Tryz.prog) w 34 ty 5 i0 (.int .u8 0) Tryz.underlying34 hi hz0 ⟨g, 0, none⟩ xs.length c (xs.map bv) (by rw [hz1]; simp) holds ad ys.length d (ys.map bv) hl hnews (by omega) (by omega)
        (growslice_fits (by omega) (by rw [hz2]; omega))
      have hgr := grown c (some g)
      exact ⟨_, _, _, hr, hgr.1, hgr.2, .inr rfl⟩

theorem wpList_app {ops : Array Oper} {rest : List Oper} {o : Oper} {a : Act} {w : World} {Q : Exit → Act → World → Prop} (hgd : o.guard = none) (s x : Operand)
    (ho : o.op = .call { callee := .builtin .append, args := #[s, x], argTypes := #[34, 34] })
    {A : Option Addr} {c n : Nat} {xs : List UInt8} (hs : a.eval s = .slice A n c) (hown : OwnB w A c xs) (hn : xs.length = n) {B : Option Addr} {m d : Nat} {ys : List UInt8} (hx : a.eval x = .slice B m d) (hr : Bs w B m ys) (hlen : n + m ≤ 140737488355327)
    (h : ∀ A' c' w', OwnB w' A' c' (xs ++ ys) → w.grownBy w' (A.map (·.block)) → (A' = A ∨ A' = some ⟨w.heap.size, 0, none⟩) → wpList Tryz.prog ops Q rest (a.put o.dst (.slice A' (n + m) c')) w') : wpList Tryz.prog ops Q (o :: rest) a w :=
  wpList_plain hgd fun _ hK => by
    subst hn
    obtain ⟨A', c', w', hrun, h2, h3, h4⟩ := run_app w o.type hown (d := d) hr hlen
    unfold Oper.wp execOp
    simp only [ho, resolve, invoke, builtin, Sem.run_bind, Sem.run_pure, Result.andThen_ok, List.map_toArray, List.map_cons, List.map_nil, hs, hx, hrun]
    exact hK _ _ (h A' c' w' h2 h3 h4)
end
section
set_option linter.unusedSimpArgs false
set_option linter.unusedVariables false

abbrev Sp := Int × Int × Int
/-- The first is ahead of the second, and does not touch it. -/
def Ap (x y : Sp) : Prop := x.1 < y.1 ∨ x.1 = y.1 ∧ x.2.2 + 1 < y.2.1
instance (x y : Sp) : Decidable (Ap x y) := by unfold Ap; exact inferInstance
def SpOk (x : Sp) : Prop := x.2.1 ≤ x.2.2
/-- Spans in order, none empty, no two touch. -/
def Norm (l : List Sp) : Prop := (∀ x ∈ l, SpOk x) ∧ l.Pairwise Ap
def InS (x : Sp) (n s : Int) : Prop := x.1 = n ∧ x.2.1 ≤ s ∧ s ≤ x.2.2
instance (x : Sp) (n s : Int) : Decidable (InS x n s) := by unfold InS; exact inferInstance
def Mem (l : List Sp) (n s : Int) : Prop := ∃ x ∈ l, InS x n s
instance (l : List Sp) (n s : Int) : Decidable (Mem l n s) := by unfold Mem; exact inferInstance
theorem mem_nil {n s : Int} : ¬ Mem [] n s := by rintro ⟨x, h, _⟩; exact absurd h (by simp)
theorem mem_cons {x : Sp} {l : List Sp} {n s : Int} : Mem (x :: l) n s ↔ InS x n s ∨ Mem l n s := by
  unfold Mem
  constructor
  · rintro ⟨y, hy, hi⟩
    rcases List.mem_cons.1 hy with rfl | h
    · exact .inl hi
    · exact .inr ⟨y, h, hi⟩
  · rintro (h | ⟨y, hy, hi⟩)
    · exact ⟨x, by simp, h⟩
    · exact ⟨y, by simp [hy], hi⟩
theorem mem_append {l m : List Sp} {n s : Int} : Mem (l ++ m) n s ↔ Mem l n s ∨ Mem m n s := by
  unfold Mem
  constructor
  · rintro ⟨y, hy, hi⟩
    rcases List.mem_append.1 hy with h | h
    · exact .inl ⟨y, h, hi⟩
    · exact .inr ⟨y, h, hi⟩
  · rintro (⟨y, hy, hi⟩ | ⟨y, hy, hi⟩)
    · exact ⟨y, by simp [hy], hi⟩
    · exact ⟨y, by simp [hy], hi⟩
theorem Norm.tail {x : Sp} {l : List Sp} (h : Norm (x :: l)) : Norm l := ⟨fun y hy => h.1 y (by simp [hy]), (List.pairwise_cons.1 h.2).2⟩
theorem Norm.head {x : Sp} {l : List Sp} (h : Norm (x :: l)) : SpOk x ∧ ∀ y ∈ l, Ap x y := ⟨h.1 x (by simp), (List.pairwise_cons.1 h.2).1⟩
theorem norm_nil : Norm [] := ⟨by simp, List.Pairwise.nil⟩
theorem norm_cons {x : Sp} {l : List Sp} (hx : SpOk x) (h : Norm l) (ha : ∀ y ∈ l, Ap x y) : Norm (x :: l) := ⟨fun y hy => by
  rcases List.mem_cons.1 hy with rfl | q
  · exact hx
  · exact h.1 y q, List.pairwise_cons.2 ⟨ha, h.2⟩⟩
theorem Ap.trans {x y z : Sp} (h : Ap x y) (k : Ap y z) (o : SpOk y) : Ap x z := by
  unfold Ap SpOk at *
  omega
/-- What is behind the head is not in it. -/
theorem Norm.out {x : Sp} {l : List Sp} (h : Norm (x :: l)) {n s : Int} (hi : InS x n s) : ¬ Mem l n s := by
  rintro ⟨y, hy, hj⟩
  have a := h.head.2 y hy
  unfold Ap InS at *
  omega
theorem norm_first {x y : Sp} {xs ys : List Sp} (hx : Norm (x :: xs)) (hy : Norm (y :: ys)) (he : ∀ n s, Mem (x :: xs) n s → Mem (y :: ys) n s) : y.1 < x.1 ∨ y.1 = x.1 ∧ y.2.1 ≤ x.2.1 := by
  have ox := hx.head.1
  obtain ⟨z, hz, hi⟩ := he x.1 x.2.1 ⟨x, by simp, rfl, Int.le_refl _, ox⟩
  rcases List.mem_cons.1 hz with rfl | q
  · unfold InS at hi; omega
  · have a := hy.head.2 z q
    have oy := hy.head.1
    unfold Ap InS SpOk at *
    omega
theorem norm_end {x y : Sp} {xs ys : List Sp} (hx : Norm (x :: xs)) (hy : Norm (y :: ys)) (he : ∀ n s, Mem (y :: ys) n s → Mem (x :: xs) n s) (e1 : x.1 = y.1) (e2 : x.2.1 = y.2.1) : y.2.2 ≤ x.2.2 := by
  refine Int.not_lt.1 (fun hlt => ?_)
  have ox := hx.head.1
  obtain ⟨z, hz, hi⟩ := he y.1 (x.2.2 + 1) ⟨y, by simp, rfl, by unfold SpOk at ox; omega, by omega⟩
  rcases List.mem_cons.1 hz with rfl | q
  · unfold InS at hi; omega
  · have a := hx.head.2 z q
    unfold Ap InS at *
    omega
/-- Two such lists with the same dots are one. -/
theorem norm_ext : ∀ {l m : List Sp}, Norm l → Norm m → (∀ n s, Mem l n s ↔ Mem m n s) → l = m
  | [], [], _, _, _ => rfl
  | [], y :: ys, _, hm, he => absurd ((he y.1 y.2.1).2 ⟨y, by simp, rfl, Int.le_refl _, hm.head.1⟩) mem_nil
  | x :: xs, [], hl, _, he => absurd ((he x.1 x.2.1).1 ⟨x, by simp, rfl, Int.le_refl _, hl.head.1⟩) mem_nil
  | x :: xs, y :: ys, hl, hm, he => by
    have a := norm_first hl hm (fun n s => (he n s).1)
    have b := norm_first hm hl (fun n s => (he n s).2)
    have e1 : x.1 = y.1 := by omega
    have e2 : x.2.1 = y.2.1 := by omega
    have c := norm_end hl hm (fun n s => (he n s).2) e1 e2
    have d := norm_end hm hl (fun n s => (he n s).1) e1.symm e2.symm
    have exy : x = y := Prod.ext e1 (Prod.ext e2 (by omega))
    subst exy
    rw [norm_ext hl.tail hm.tail (fun n s => ?_)]
    have q := he n s
    rw [mem_cons, mem_cons] at q
    by_cases hi : InS x n s
    · exact ⟨fun z => absurd z (hl.out hi), fun z => absurd z (hm.out hi)⟩
    · constructor
      · intro z; exact (q.1 (.inr z)).resolve_left hi
      · intro z; exact (q.2 (.inr z)).resolve_left hi
/-- A span comes behind the others, or lengthens the last one. -/
def pushP (out : List Sp) (z : Sp) : List Sp :=
  match out.getLast? with
  | none => [z]
  | some y => if Ap y z then out ++ [z] else out.dropLast ++ [(y.1, y.2.1, max y.2.2 z.2.2)]
/-- The first one's beginning is not behind the second one's. -/
def Le (x y : Sp) : Prop := x.1 < y.1 ∨ x.1 = y.1 ∧ x.2.1 ≤ y.2.1
theorem Le.trans {x y z : Sp} (h : Le x y) (k : Le y z) : Le x z := by unfold Le at *; omega
theorem last_split {l : List Sp} {y : Sp} (h : l.getLast? = some y) : l = l.dropLast ++ [y] := by
  obtain ⟨ys, e⟩ := List.getLast?_eq_some_iff.1 h
  rw [e]; simp
theorem mem_one {z : Sp} {n s : Int} : Mem [z] n s ↔ InS z n s := by
  rw [mem_cons]
  exact ⟨fun q => q.resolve_right mem_nil, .inl⟩
theorem norm_app {l : List Sp} {z : Sp} (h : Norm l) (hz : SpOk z) (ha : ∀ y ∈ l, Ap y z) : Norm (l ++ [z]) := by
  refine ⟨fun x hx => ?_, List.pairwise_append.2 ⟨h.2, by simp, fun a ha' b hb => ?_⟩⟩
  · rcases List.mem_append.1 hx with q | q
    · exact h.1 x q
    · simp at q; subst q; exact hz
  · simp at hb; subst hb; exact ha a ha'
theorem push_norm {out : List Sp} {z : Sp} (h : Norm out) (hz : SpOk z) (hl : ∀ y, out.getLast? = some y → Le y z) : Norm (pushP out z) ∧ (∀ n s, Mem (pushP out z) n s ↔ Mem out n s ∨ InS z n s) ∧ ∃ y, (pushP out z).getLast? = some y ∧ Le y z := by
  unfold pushP
  cases hg : out.getLast? with
  | none =>
    have e : out = [] := List.getLast?_eq_none_iff.1 hg
    subst e
    refine ⟨norm_cons hz norm_nil (by simp), fun n s => ?_, z, rfl, .inr ⟨rfl, Int.le_refl _⟩⟩
    show Mem [z] n s ↔ _
    rw [mem_one]
    exact ⟨.inr, fun q => q.resolve_left mem_nil⟩
  | some y =>
    have es := last_split hg
    have le := hl y hg
    have hym : y ∈ out := by rw [es]; simp
    have hd : ∀ x ∈ out.dropLast, Ap x y := by
      have := h.2
      rw [es] at this
      exact fun x hx => (List.pairwise_append.1 this).2.2 x hx y (by simp)
    simp only
    split
    · rename_i ha
      refine ⟨norm_app h hz (fun x hx => ?_), fun n s => by rw [mem_append, mem_one], z, by simp, .inr ⟨rfl, Int.le_refl _⟩⟩
      rw [es] at hx
      rcases List.mem_append.1 hx with q | q
      · exact (hd x q).trans ha (h.1 y hym)
      · simp at q; subst q; exact ha
    · rename_i ha
      have nd : Norm out.dropLast := by
        have := h
        rw [es] at this
        exact ⟨fun x hx => this.1 x (List.mem_append_left _ hx), (List.pairwise_append.1 this.2).1⟩
      have oy := h.1 y hym
      have fact : y.1 = z.1 ∧ y.2.1 ≤ z.2.1 ∧ z.2.1 ≤ y.2.2 + 1 := by unfold Ap Le at *; omega
      have mx : y.2.2 ≤ max y.2.2 z.2.2 ∧ z.2.2 ≤ max y.2.2 z.2.2 ∧ (max y.2.2 z.2.2 = y.2.2 ∨ max y.2.2 z.2.2 = z.2.2) := by omega
      refine ⟨norm_app nd (by unfold SpOk at *; simp only; omega) (fun x hx => by have := hd x hx; unfold Ap at *; simp only; omega), fun n s => ?_, (y.1, y.2.1, max y.2.2 z.2.2), by simp, by unfold Le at *; simp only; omega⟩
      have e2 : Mem out n s ↔ Mem out.dropLast n s ∨ InS y n s := by
        conv => lhs; rw [es]
        rw [mem_append, mem_one]
      have e3 : InS (y.1, y.2.1, max y.2.2 z.2.2) n s ↔ InS y n s ∨ InS z n s := by unfold InS SpOk at *; simp only; omega
      rw [mem_append, mem_one, e2, e3, or_assoc]
/-- Rising spans, pushed one by one. -/
theorem fold_norm : ∀ {zs out : List Sp}, Norm out → (∀ z ∈ zs, SpOk z) → zs.Pairwise Le → (∀ y z, out.getLast? = some y → z ∈ zs → Le y z) → Norm (zs.foldl pushP out) ∧ ∀ n s, Mem (zs.foldl pushP out) n s ↔ Mem out n s ∨ Mem zs n s
  | [], out, h, _, _, _ => ⟨h, fun n s => ⟨.inl, fun q => q.resolve_right mem_nil⟩⟩
  | z :: zs, out, h, ho, hp, hl => by
    obtain ⟨a, b, y, e, le⟩ := push_norm h (ho z (by simp)) (fun y hy => hl y z hy (by simp))
    have hp' := List.pairwise_cons.1 hp
    obtain ⟨c, d⟩ := fold_norm (zs := zs) a (fun x hx => ho x (by simp [hx])) hp'.2 (fun y' x hy' hx => by rw [e] at hy'; cases hy'; exact le.trans (hp'.1 x hx))
    rw [List.foldl_cons]
    refine ⟨c, fun n s => ?_⟩
    rw [d n s, b n s, mem_cons, or_assoc]
end
section
set_option linter.unusedSimpArgs false
set_option linter.unusedVariables false

/-- A place in a past: what is left of it; behind all spans there is the node 201. -/
def hdP (l : List Sp) : Sp := l.headD (201, 0, 0)
def passP (l : List Sp) (tt : Int) : List Sp :=
  match l with
  | [] => []
  | x :: r => if tt < x.2.2 then (x.1, tt + 1, x.2.2) :: r else r
def untilP (s nx : Sp) : Sp := if s.1 = nx.1 then (s.1, s.2.1, min s.2.2 (nx.2.1 - 1)) else s
def inP (x y : Sp) : Bool := decide (x.1 < y.1 ∨ x.1 = y.1 ∧ x.2.1 ≤ y.2.1)
def pieceP (x y : Sp) : Sp := if inP x y = true ∧ inP y x = true then (x.1, x.2.1, min x.2.2 y.2.2) else if inP x y = true then untilP x y else untilP y x
/-- A past of nodes 1 to 200. -/
def WfC (l : List Sp) : Prop := Norm l ∧ ∀ x ∈ l, 1 ≤ x.1 ∧ x.1 ≤ 200 ∧ 1 ≤ x.2.1 ∧ x.2.2 ≤ 2147483647
/-- All of the second lies behind the end of the first. -/
def Bh (p : Sp) (l : List Sp) : Prop := ∀ z ∈ l, p.1 < z.1 ∨ p.1 = z.1 ∧ p.2.2 < z.2.1
def dotsN (l : List Sp) : Nat := (l.map (fun x => (x.2.2 - x.2.1 + 1).toNat)).sum
/-- How many steps there may be yet. -/
def potP (la lb : List Sp) : Nat := 2 * (la.length + lb.length) + (if (hdP la).1 = (hdP lb).1 ∧ (hdP la).2.1 = (hdP lb).2.1 then 0 else 1)
theorem pot_le (la lb : List Sp) : potP la lb ≤ 2 * (la.length + lb.length) + 1 := by unfold potP; split <;> omega
theorem dots_cons (x : Sp) (l : List Sp) : dotsN (x :: l) = (x.2.2 - x.2.1 + 1).toNat + dotsN l := by simp [dotsN]
theorem bh_out {p : Sp} {l : List Sp} (h : Bh p l) {n s : Int} (hi : InS p n s) : ¬ Mem l n s := by
  rintro ⟨z, hz, hj⟩
  have := h z hz
  unfold InS at *
  omega
theorem bh_head {p y : Sp} {l : List Sp} (h : WfC (y :: l)) (hy : p.1 < y.1 ∨ p.1 = y.1 ∧ p.2.2 < y.2.1) : Bh p (y :: l) := by
  intro z hz
  rcases List.mem_cons.1 hz with rfl | q
  · exact hy
  · have a := h.1.head.2 z q
    have o := h.1.head.1
    unfold Ap SpOk at *
    omega
theorem pass_ok {x : Sp} {r : List Sp} (h : WfC (x :: r)) {tt : Int} (h1 : x.2.1 ≤ tt) (h2 : tt ≤ x.2.2) :
    WfC (passP (x :: r) tt) ∧ (∀ n s, Mem (passP (x :: r) tt) n s ↔ Mem (x :: r) n s ∧ ¬ InS (x.1, x.2.1, tt) n s) ∧ Bh (x.1, x.2.1, tt) (passP (x :: r) tt) ∧ (∀ n s, InS (x.1, x.2.1, tt) n s → Mem (x :: r) n s) ∧ dotsN (passP (x :: r) tt) < dotsN (x :: r) := by
  have hx := h.1.head
  have hb := h.2 x (by simp)
  have br : Bh x r := fun z hz => by
    have := hx.2 z hz
    unfold Ap at this
    omega
  have up : ∀ n s, InS (x.1, x.2.1, tt) n s → InS x n s := fun n s q => by unfold InS at *; simp only at q; omega
  refine ⟨?_, fun n s => ?_, ?_, fun n s q => mem_cons.2 (.inl (up n s q)), ?_⟩
  · unfold passP
    simp only
    split
    · rename_i hlt
      refine ⟨norm_cons (by unfold SpOk; simp only; omega) h.1.tail (fun z hz => by have := hx.2 z hz; unfold Ap at *; simp only; omega), fun z hz => ?_⟩
      rcases List.mem_cons.1 hz with rfl | q
      · simp only; omega
      · exact h.2 z (by simp [q])
    · exact ⟨h.1.tail, fun z hz => h.2 z (by simp [hz])⟩
  · unfold passP
    simp only
    split
    · rename_i hlt
      rw [mem_cons, mem_cons]
      constructor
      · rintro (q | q)
        · exact ⟨.inl (by unfold InS at *; simp only at q; omega), by unfold InS at *; simp only at q ⊢; omega⟩
        · exact ⟨.inr q, fun z => bh_out br (up n s z) q⟩
      · rintro ⟨q | q, z⟩
        · exact .inl (by unfold InS at *; simp only at z ⊢; omega)
        · exact .inr q
    · rename_i hlt
      have e : tt = x.2.2 := by omega
      subst e
      rw [mem_cons]
      constructor
      · intro q
        exact ⟨.inr q, fun z => bh_out br z q⟩
      · rintro ⟨q | q, z⟩
        · exact absurd q z
        · exact q
  · unfold passP
    simp only
    intro z hz
    split at hz
    · rcases List.mem_cons.1 hz with rfl | q
      · exact .inr ⟨rfl, by simp only; omega⟩
      · have := br z q; simp only; omega
    · have := br z hz; simp only; omega
  · unfold passP
    simp only
    have o := hx.1
    unfold SpOk at o
    split
    · rw [dots_cons, dots_cons]; simp only; omega
    · rw [dots_cons]; omega
theorem pass_len (x : Sp) (r : List Sp) (tt : Int) : (passP (x :: r) tt).length = if tt < x.2.2 then r.length + 1 else r.length := by unfold passP; simp only; split <;> simp
theorem hd_nil : hdP [] = (201, 0, 0) := rfl
theorem hd_cons (x : Sp) (l : List Sp) : hdP (x :: l) = x := rfl
/-- What a step leaves of a past that has, or has not, the piece. -/
def leftP (l : List Sp) (i : Bool) (tt : Int) : List Sp := if i = true then passP l tt else l
structure StepOk (la lb : List Sp) (p : Sp) (ia ib : Bool) (la' lb' : List Sp) : Prop where
  ok : SpOk p ∧ 1 ≤ p.1 ∧ p.1 ≤ 200 ∧ 1 ≤ p.2.1 ∧ p.2.2 ≤ 2147483647
  wa : WfC la'
  wb : WfC lb'
  ina : ∀ n s, InS p n s → (Mem la n s ↔ ia = true)
  inb : ∀ n s, InS p n s → (Mem lb n s ↔ ib = true)
  ma : ∀ n s, Mem la' n s ↔ Mem la n s ∧ ¬ InS p n s
  mb : ∀ n s, Mem lb' n s ↔ Mem lb n s ∧ ¬ InS p n s
  ba : Bh p la'
  bb : Bh p lb'
  dec : dotsN la' + dotsN lb' < dotsN la + dotsN lb
  pot : potP la' lb' < potP la lb
  sub : (∃ z ∈ la, z.1 = p.1 ∧ z.2.1 ≤ p.2.1 ∧ p.2.2 ≤ z.2.2) ∨ ∃ z ∈ lb, z.1 = p.1 ∧ z.2.1 ≤ p.2.1 ∧ p.2.2 ≤ z.2.2
theorem pot_comm (la lb : List Sp) : potP la lb = potP lb la := by
  unfold potP
  have e : ((hdP la).1 = (hdP lb).1 ∧ (hdP la).2.1 = (hdP lb).2.1) = ((hdP lb).1 = (hdP la).1 ∧ (hdP lb).2.1 = (hdP la).2.1) := propext ⟨fun h => ⟨h.1.symm, h.2.symm⟩, fun h => ⟨h.1.symm, h.2.symm⟩⟩
  simp only [e, Nat.add_comm la.length]
theorem StepOk.swap {la lb : List Sp} {p : Sp} {ia ib : Bool} {la' lb' : List Sp} (h : StepOk la lb p ia ib la' lb') : StepOk lb la p ib ia lb' la' :=
  ⟨h.ok, h.wb, h.wa, h.inb, h.ina, h.mb, h.ma, h.bb, h.ba, by have := h.dec; omega, by rw [pot_comm, pot_comm lb]; exact h.pot, h.sub.symm⟩
theorem step_both {x y : Sp} {xs ys : List Sp} (ha : WfC (x :: xs)) (hb : WfC (y :: ys)) (e1 : x.1 = y.1) (e2 : x.2.1 = y.2.1) :
    StepOk (x :: xs) (y :: ys) (x.1, x.2.1, min x.2.2 y.2.2) true true (passP (x :: xs) (min x.2.2 y.2.2)) (passP (y :: ys) (min x.2.2 y.2.2)) := by
  have ox := ha.1.head.1
  have oy := hb.1.head.1
  have bx := ha.2 x (by simp)
  unfold SpOk at ox oy
  obtain ⟨a1, a2, a3, a4, a5⟩ := pass_ok ha (tt := min x.2.2 y.2.2) (by omega) (by omega)
  obtain ⟨b1, b2, b3, b4, b5⟩ := pass_ok hb (tt := min x.2.2 y.2.2) (by omega) (by omega)
  have PB : potP (passP (x :: xs) (min x.2.2 y.2.2)) (passP (y :: ys) (min x.2.2 y.2.2)) < potP (x :: xs) (y :: ys) := by
    have e0 : potP (x :: xs) (y :: ys) = 2 * (xs.length + 1 + (ys.length + 1)) := by unfold potP; rw [hd_cons, hd_cons, if_pos ⟨e1, e2⟩]; rfl
    refine Nat.lt_of_le_of_lt (pot_le _ _) ?_
    rw [e0, pass_len, pass_len]
    split <;> split <;> omega
  rw [← e1, ← e2] at b2 b3 b4
  exact ⟨⟨by unfold SpOk; simp only; omega, bx.1, bx.2.1, bx.2.2.1, by simp only; omega⟩, a1, b1, fun n s q => ⟨fun _ => rfl, fun _ => a4 n s q⟩, fun n s q => ⟨fun _ => rfl, fun _ => b4 n s q⟩, a2, b2, a3, b3, by omega, PB, .inl ⟨x, by simp, rfl, Int.le_refl _, by simp only; omega⟩⟩
theorem step_one {x : Sp} {xs lb : List Sp} (ha : WfC (x :: xs)) (hb : WfC lb) (tt : Int) (h1 : x.2.1 ≤ tt) (h2 : tt ≤ x.2.2) (hl : Bh (x.1, x.2.1, tt) lb) (hu : ¬ (x.1 = (hdP lb).1 ∧ x.2.1 = (hdP lb).2.1)) (hal : tt = x.2.2 ∨ x.1 = (hdP lb).1 ∧ tt + 1 = (hdP lb).2.1) : StepOk (x :: xs) lb (x.1, x.2.1, tt) true false (passP (x :: xs) tt) lb := by
  have bx := ha.2 x (by simp)
  obtain ⟨a1, a2, a3, a4, a5⟩ := pass_ok ha h1 h2
  have PB : potP (passP (x :: xs) tt) lb < potP (x :: xs) lb := by
    have e0 : potP (x :: xs) lb = 2 * (xs.length + 1 + lb.length) + 1 := by unfold potP; rw [hd_cons, if_neg hu]; rfl
    rw [e0]
    by_cases hlt : tt < x.2.2
    · have hp : passP (x :: xs) tt = (x.1, tt + 1, x.2.2) :: xs := by unfold passP; simp only; rw [if_pos hlt]
      rw [hp]
      unfold potP
      rw [hd_cons, if_pos (by rcases hal with h | h; exact absurd h (by omega); exact h)]
      simp only [List.length_cons]
      omega
    · refine Nat.lt_of_le_of_lt (pot_le _ _) ?_
      rw [pass_len, if_neg hlt]
      omega
  exact ⟨⟨by unfold SpOk; exact h1, bx.1, bx.2.1, bx.2.2.1, by simp only; omega⟩, a1, hb, fun n s q => ⟨fun _ => rfl, fun _ => a4 n s q⟩, fun n s q => ⟨fun z => absurd z (bh_out hl q), fun z => absurd z (by simp)⟩, a2, fun n s => ⟨fun z => ⟨z, fun q => bh_out hl q z⟩, fun z => z.1⟩, a3, hl, by omega, PB, .inl ⟨x, by simp, rfl, Int.le_refl _, h2⟩⟩
theorem piece_one {x y : Sp} (h : inP x y = true) (h' : inP y x = false) : pieceP x y = (x.1, x.2.1, if x.1 = y.1 then min x.2.2 (y.2.1 - 1) else x.2.2) := by
  unfold pieceP
  rw [if_neg (by simp [h']), if_pos h]
  unfold untilP
  split <;> rfl
theorem piece_other {x y : Sp} (h : inP x y = false) (h' : inP y x = true) : pieceP x y = pieceP y x := by
  unfold pieceP
  rw [if_neg (by simp [h]), if_neg (by simp [h]), if_neg (by simp [h]), if_pos h']
theorem step_first {x : Sp} {xs lb : List Sp} (ha : WfC (x :: xs)) (hb : WfC lb) (h : inP x (hdP lb) = true) (h' : inP (hdP lb) x = false) :
    StepOk (x :: xs) lb (pieceP x (hdP lb)) true false (passP (x :: xs) (pieceP x (hdP lb)).2.2) lb := by
  rw [piece_one h h']
  have ox := ha.1.head.1
  have bx := ha.2 x (by simp)
  unfold SpOk at ox
  simp only [inP, decide_eq_true_eq, decide_eq_false_iff_not] at h h'
  cases lb with
  | nil =>
    rw [hd_nil] at *
    rw [if_neg (by simp only; omega)]
    exact step_one ha hb _ ox (Int.le_refl _) (fun z hz => absurd hz (by simp)) (by rw [hd_nil]; simp only; omega) (.inl rfl)
  | cons y ys =>
    rw [hd_cons] at *
    refine step_one ha hb _ ?_ ?_ (bh_head hb ?_) (by rw [hd_cons]; omega) (by rw [hd_cons]; split <;> omega)
    · split <;> omega
    · split <;> omega
    · simp only
      split <;> omega
/-- A step: the next dots that are all in the same ones of both pasts. -/
theorem step_ok {la lb : List Sp} (ha : WfC la) (hb : WfC lb) (hne : la ≠ [] ∨ lb ≠ []) :
    StepOk la lb (pieceP (hdP la) (hdP lb)) (inP (hdP la) (hdP lb)) (inP (hdP lb) (hdP la)) (leftP la (inP (hdP la) (hdP lb)) (pieceP (hdP la) (hdP lb)).2.2) (leftP lb (inP (hdP lb) (hdP la)) (pieceP (hdP la) (hdP lb)).2.2) := by
  have tri : inP (hdP la) (hdP lb) = true ∨ inP (hdP lb) (hdP la) = true := by
    simp only [inP, decide_eq_true_eq]; omega
  cases h1 : inP (hdP la) (hdP lb) with
  | true =>
    cases h2 : inP (hdP lb) (hdP la) with
    | true =>
      have q1 := h1
      have q2 := h2
      simp only [inP, decide_eq_true_eq] at q1 q2
      cases la with
      | nil =>
        cases lb with
        | nil => exact absurd rfl (hne.elim id id)
        | cons y ys => have := hb.2 y (by simp); rw [hd_nil, hd_cons] at q1 q2; simp only at q1 q2; omega
      | cons x xs =>
        cases lb with
        | nil => have := ha.2 x (by simp); rw [hd_nil, hd_cons] at q1 q2; simp only at q1 q2; omega
        | cons y ys =>
          rw [hd_cons, hd_cons] at *
          have e : pieceP x y = (x.1, x.2.1, min x.2.2 y.2.2) := by unfold pieceP; rw [if_pos ⟨h1, h2⟩]
          rw [e]
          exact step_both ha hb (by omega) (by omega)
    | false =>
      cases la with
      | nil =>
        have q1 := h1
        have q2 := h2
        simp only [inP, decide_eq_true_eq, decide_eq_false_iff_not] at q1 q2
        cases lb with
        | nil => exact absurd rfl (hne.elim id id)
        | cons y ys => have := hb.2 y (by simp); rw [hd_nil, hd_cons] at q1 q2; simp only at q1 q2; omega
      | cons x xs => exact step_first ha hb h1 h2
  | false =>
    have h2 := tri.resolve_left (by simp [h1])
    rw [h2]
    cases lb with
    | nil =>
      have q1 := h1
      have q2 := h2
      simp only [inP, decide_eq_true_eq, decide_eq_false_iff_not] at q1 q2
      cases la with
      | nil => exact absurd rfl (hne.elim id id)
      | cons y ys => have := ha.2 y (by simp); rw [hd_nil, hd_cons] at q1 q2; simp only at q1 q2; omega
    | cons y ys =>
      rw [hd_cons] at *
      rw [piece_other h1 h2]
      exact (step_first hb ha h2 h1).swap
def memb (l : List Sp) (n s : Int) : Bool := decide (Mem l n s)
/-- Where a sweep stands: what was kept, what is left. -/
structure SwInv (k : Bool → Bool → Bool) (a b la lb pre : List Sp) : Prop where
  wa : WfC la
  wb : WfC lb
  ok : ∀ z ∈ pre, SpOk z
  up : pre.Pairwise Le
  ba : ∀ p ∈ pre, Bh p la
  bb : ∀ p ∈ pre, Bh p lb
  cnt : pre.length + potP la lb ≤ potP a b
  m : ∀ n s, k (memb a n s) (memb b n s) = true ↔ Mem pre n s ∨ k (memb la n s) (memb lb n s) = true
theorem SwInv.begin {k : Bool → Bool → Bool} {a b : List Sp} (ha : WfC a) (hb : WfC b) : SwInv k a b a b [] :=
  ⟨ha, hb, by simp, List.Pairwise.nil, by simp, by simp, by simp, fun n s => ⟨.inr, fun q => q.resolve_left mem_nil⟩⟩
theorem bh_mono {p : Sp} {l l' : List Sp} (hp : SpOk p) (h : Bh p l) (hn : WfC l') (hs : ∀ n s, Mem l' n s → Mem l n s) : Bh p l' := by
  intro z hz
  have oz := hn.1.1 z hz
  obtain ⟨y, hy, hi⟩ := hs z.1 z.2.1 ⟨z, hz, rfl, Int.le_refl _, oz⟩
  have := h y hy
  unfold InS SpOk at *
  omega
theorem SwInv.step {k : Bool → Bool → Bool} (hk : k false false = false) {a b la lb pre : List Sp} (h : SwInv k a b la lb pre) {p : Sp} {ia ib : Bool} {la' lb' : List Sp} (q : StepOk la lb p ia ib la' lb') : SwInv k a b la' lb' (if k ia ib = true then pre ++ [p] else pre) := by
  have core : ∀ n s, (k (memb la n s) (memb lb n s) = true) ↔ (k ia ib = true ∧ InS p n s) ∨ k (memb la' n s) (memb lb' n s) = true := by
    intro n s
    have ma := q.ma n s
    have mb := q.mb n s
    by_cases hi : InS p n s
    · have ea : memb la n s = ia := by
        have := q.ina n s hi
        unfold memb
        cases ia <;> simp_all
      have eb : memb lb n s = ib := by
        have := q.inb n s hi
        unfold memb
        cases ib <;> simp_all
      have ea' : memb la' n s = false := by unfold memb; simp [ma, hi]
      have eb' : memb lb' n s = false := by unfold memb; simp [mb, hi]
      rw [ea, eb, ea', eb', hk]
      exact ⟨fun z => .inl ⟨z, hi⟩, fun z => z.elim (fun y => y.1) (fun y => absurd y (by simp))⟩
    · have ea' : memb la' n s = memb la n s := by unfold memb; simp [ma, hi]
      have eb' : memb lb' n s = memb lb n s := by unfold memb; simp [mb, hi]
      rw [ea', eb']
      exact ⟨.inr, fun z => z.elim (fun y => absurd y.2 hi) id⟩
  have subA : ∀ n s, Mem la' n s → Mem la n s := fun n s z => ((q.ma n s).1 z).1
  have subB : ∀ n s, Mem lb' n s → Mem lb n s := fun n s z => ((q.mb n s).1 z).1
  have oldA : ∀ x ∈ pre, Bh x la' := fun x hx => bh_mono (h.ok x hx) (h.ba x hx) q.wa subA
  have oldB : ∀ x ∈ pre, Bh x lb' := fun x hx => bh_mono (h.ok x hx) (h.bb x hx) q.wb subB
  by_cases hkk : k ia ib = true
  · rw [if_pos hkk]
    have le : ∀ x ∈ pre, Le x p := fun x hx => by
      have ox := h.ok x hx
      rcases q.sub with ⟨z, hz, e1, e2, e3⟩ | ⟨z, hz, e1, e2, e3⟩
      · have := h.ba x hx z hz; unfold Le SpOk at *; omega
      · have := h.bb x hx z hz; unfold Le SpOk at *; omega
    refine ⟨q.wa, q.wb, fun z hz => ?_, List.pairwise_append.2 ⟨h.up, by simp, fun x hx y hy => by simp at hy; subst hy; exact le x hx⟩, fun x hx => ?_, fun x hx => ?_, by have := q.pot; have := h.cnt; simp; omega, fun n s => ?_⟩
    · rcases List.mem_append.1 hz with w | w
      · exact h.ok z w
      · simp at w; subst w; exact q.ok.1
    · rcases List.mem_append.1 hx with w | w
      · exact oldA x w
      · simp at w; subst w; exact q.ba
    · rcases List.mem_append.1 hx with w | w
      · exact oldB x w
      · simp at w; subst w; exact q.bb
    · rw [h.m n s, core n s, mem_append, mem_one]
      constructor
      · rintro (z | z | z); exact .inl (.inl z); exact .inl (.inr z.2); exact .inr z
      · rintro ((z | z) | z); exact .inl z; exact .inr (.inl ⟨hkk, z⟩); exact .inr (.inr z)
  · rw [if_neg hkk]
    refine ⟨q.wa, q.wb, h.ok, h.up, oldA, oldB, by have := q.pot; have := h.cnt; omega, fun n s => ?_⟩
    rw [h.m n s, core n s]
    constructor
    · rintro (z | z | z); exact .inl z; exact absurd z.1 hkk; exact .inr z
    · rintro (z | z); exact .inl z; exact .inr (.inr z)
/-- Behind all: just the dots of which the func says yes, in order. -/
theorem SwInv.done {k : Bool → Bool → Bool} (hk : k false false = false) {a b pre : List Sp} (h : SwInv k a b [] [] pre) : Norm (pre.foldl pushP []) ∧ ∀ n s, Mem (pre.foldl pushP []) n s ↔ k (memb a n s) (memb b n s) = true := by
  obtain ⟨c, d⟩ := fold_norm (zs := pre) norm_nil h.ok h.up (by simp)
  refine ⟨c, fun n s => ?_⟩
  rw [d n s, h.m n s]
  have e : memb [] n s = false := by unfold memb; simp [mem_nil]
  rw [e, hk]
  exact ⟨fun q => .inl (q.resolve_left mem_nil), fun q => .inr (q.resolve_right (by simp))⟩
end
section
set_option linter.unusedSimpArgs false
set_option linter.unusedVariables false

/-- One comes ahead of the other one. -/
def Lt3 (x y : Sp) : Prop := x.1 < y.1 ∨ x.1 = y.1 ∧ (x.2.1 < y.2.1 ∨ x.2.1 = y.2.1 ∧ x.2.2 < y.2.2)
instance (x y : Sp) : Decidable (Lt3 x y) := by unfold Lt3; exact inferInstance
def cntS (x : Sp) : List Sp → Nat
  | [] => 0
  | y :: l => if Lt3 y x then cntS x l + 1 else 0
def insS (x : Sp) (l : List Sp) : List Sp := l.take (cntS x l) ++ x :: l.drop (cntS x l)
def riseS (l : List Sp) : List Sp := l.foldl (fun r x => insS x r) []
def tidyS (l : List Sp) : List Sp := (riseS l).foldl pushP []
theorem cntS_le (x : Sp) : ∀ l, cntS x l ≤ l.length
  | [] => Nat.le_refl _
  | y :: l => by unfold cntS; split <;> have := cntS_le x l <;> simp <;> omega
theorem cntS_lt (x : Sp) : ∀ (l : List Sp) (i : Nat) (y : Sp), l[i]? = some y → i < cntS x l → Lt3 y x
  | [], i, y, h, _ => by simp at h
  | z :: l, 0, y, h, hi => by
    simp at h; subst h
    unfold cntS at hi
    split at hi
    · assumption
    · omega
  | z :: l, i + 1, y, h, hi => by
    unfold cntS at hi
    split at hi
    · exact cntS_lt x l i y (by simpa using h) (by omega)
    · omega
theorem cntS_at (x : Sp) : ∀ (l : List Sp) (y : Sp), l[cntS x l]? = some y → ¬ Lt3 y x
  | [], y, h => by simp at h
  | z :: l, y, h => by
    unfold cntS at h
    split at h
    · exact cntS_at x l y (by simpa using h)
    · simp at h; subst h; assumption
theorem cntS_is (x : Sp) (l : List Sp) (k : Nat) (h1 : ∀ i y, l[i]? = some y → i < k → Lt3 y x) (hk : k ≤ l.length) (h2 : ∀ y, l[k]? = some y → ¬ Lt3 y x) : cntS x l = k := by
  rcases Nat.lt_trichotomy (cntS x l) k with h | h | h
  · have hlt : cntS x l < l.length := by omega
    exact absurd (h1 _ _ (List.getElem?_eq_getElem hlt) h) (cntS_at x l _ (List.getElem?_eq_getElem hlt))
  · exact h
  · have hlt : k < l.length := by have := cntS_le x l; omega
    exact absurd (cntS_lt x l k _ (List.getElem?_eq_getElem hlt) h) (h2 _ (List.getElem?_eq_getElem hlt))
theorem insS_len (x : Sp) (l : List Sp) : (insS x l).length = l.length + 1 := by
  unfold insS
  have := cntS_le x l
  simp; omega
theorem insS_mem (x y : Sp) (l : List Sp) : y ∈ insS x l ↔ y = x ∨ y ∈ l := by
  unfold insS
  rw [List.mem_append, List.mem_cons]
  conv => rhs; rw [← List.take_append_drop (cntS x l) l, List.mem_append]
  constructor
  · rintro (h | h | h)
    · exact .inr (.inl h)
    · exact .inl h
    · exact .inr (.inr h)
  · rintro (h | h | h)
    · exact .inr (.inl h)
    · exact .inl h
    · exact .inr (.inr h)
def Ge3 (x y : Sp) : Prop := ¬ Lt3 y x
theorem Ge3.le {x y : Sp} (h : Ge3 x y) : Le x y := by unfold Ge3 Lt3 Le at *; omega
theorem insS_up (x : Sp) (l : List Sp) (h : l.Pairwise Ge3) : (insS x l).Pairwise Ge3 := by
  unfold insS
  have hs : (l.take (cntS x l) ++ l.drop (cntS x l)).Pairwise Ge3 := by rw [List.take_append_drop]; exact h
  rw [List.pairwise_append] at hs ⊢
  obtain ⟨a, b, c⟩ := hs
  have hd : ∀ y ∈ l.drop (cntS x l), Ge3 x y := by
    cases hdr : l.drop (cntS x l) with
    | nil => simp
    | cons z r =>
      have hz : l[cntS x l]? = some z := by
        have : (l.drop (cntS x l))[0]? = some z := by rw [hdr]; rfl
        simpa using this
      have hg : Ge3 x z := cntS_at x l z hz
      rw [hdr] at b
      intro y hy
      rcases List.mem_cons.1 hy with rfl | q
      · exact hg
      · have := (List.pairwise_cons.1 b).1 y q
        unfold Ge3 Lt3 at *
        omega
  have ht : ∀ y ∈ l.take (cntS x l), Lt3 y x := fun y hy => by
    obtain ⟨i, hi, rfl⟩ := List.getElem_of_mem hy
    rw [List.length_take] at hi
    rw [List.getElem_take]
    exact cntS_lt x l i _ (List.getElem?_eq_getElem (by omega)) (by omega)
  refine ⟨a, List.pairwise_cons.2 ⟨hd, b⟩, fun y hy z hz => ?_⟩
  rcases List.mem_cons.1 hz with rfl | q
  · have := ht y hy
    unfold Ge3 Lt3 at *
    omega
  · exact c y hy z q
theorem fold_ins : ∀ (l r : List Sp), r.Pairwise Ge3 → (l.foldl (fun r x => insS x r) r).Pairwise Ge3 ∧ (∀ y, y ∈ l.foldl (fun r x => insS x r) r ↔ y ∈ l ∨ y ∈ r) ∧ (l.foldl (fun r x => insS x r) r).length = l.length + r.length
  | [], r, h => ⟨h, by simp, by simp⟩
  | x :: l, r, h => by
    obtain ⟨a, b, c⟩ := fold_ins l (insS x r) (insS_up x r h)
    rw [List.foldl_cons]
    refine ⟨a, fun y => ?_, by rw [c, insS_len]; simp; omega⟩
    rw [b y, insS_mem, List.mem_cons]
    constructor
    · rintro (q | q | q); exact .inl (.inr q); exact .inl (.inl q); exact .inr q
    · rintro ((q | q) | q); exact .inr (.inl q); exact .inl q; exact .inr (.inr q)
theorem rise_props (l : List Sp) : (riseS l).Pairwise Ge3 ∧ (∀ y, y ∈ riseS l ↔ y ∈ l) ∧ (riseS l).length = l.length := by
  obtain ⟨a, b, c⟩ := fold_ins l [] List.Pairwise.nil
  exact ⟨a, fun y => by rw [show riseS l = l.foldl (fun r x => insS x r) [] from rfl, b y]; simp, by rw [show riseS l = l.foldl (fun r x => insS x r) [] from rfl, c]; simp⟩
theorem pair_le {l : List Sp} (h : l.Pairwise Ge3) : l.Pairwise Le := h.imp (fun q => q.le)
theorem mem_same {l m : List Sp} (h : ∀ y, y ∈ l ↔ y ∈ m) (n s : Int) : Mem l n s ↔ Mem m n s := ⟨fun ⟨x, hx, hi⟩ => ⟨x, (h x).1 hx, hi⟩, fun ⟨x, hx, hi⟩ => ⟨x, (h x).2 hx, hi⟩⟩
theorem tidy_norm {l : List Sp} (h : ∀ x ∈ l, SpOk x) : Norm (tidyS l) ∧ ∀ n s, Mem (tidyS l) n s ↔ Mem l n s := by
  obtain ⟨a, b, c⟩ := rise_props l
  obtain ⟨d, e⟩ := fold_norm (zs := riseS l) norm_nil (fun z hz => h z ((b z).1 hz)) (pair_le a) (by simp)
  exact ⟨d, fun n s => by rw [show tidyS l = (riseS l).foldl pushP [] from rfl, e n s, mem_same b n s]; exact ⟨fun q => q.resolve_left mem_nil, .inr⟩⟩
/-- All numbers are small. -/
def B3 (x : Sp) : Prop := 1 ≤ x.1 ∧ x.1 ≤ 200 ∧ 1 ≤ x.2.1 ∧ x.2.1 ≤ x.2.2 ∧ x.2.2 ≤ 2147483647
theorem drop_set {l : List Sp} {y : Sp} (h : l.getLast? = some y) (z : Sp) : l.dropLast ++ [z] = l.set (l.length - 1) z := by
  have es := last_split h
  rw [es]
  simp
theorem push_props {out : List Sp} {z : Sp} (h : ∀ x ∈ out, B3 x) (hz : B3 z) : (∀ x ∈ pushP out z, B3 x) ∧ (pushP out z).length ≤ out.length + 1 := by
  unfold pushP
  cases hg : out.getLast? with
  | none => exact ⟨fun x hx => by simp at hx; subst hx; exact hz, by simp⟩
  | some y =>
    have es := last_split hg
    have hy : B3 y := h y (by rw [es]; simp)
    simp only
    split
    · refine ⟨fun x hx => ?_, by simp⟩
      rcases List.mem_append.1 hx with q | q
      · exact h x q
      · simp at q; subst q; exact hz
    · refine ⟨fun x hx => ?_, by rw [drop_set hg, List.length_set]; omega⟩
      rcases List.mem_append.1 hx with q | q
      · exact h x (List.dropLast_subset _ q)
      · simp at q; subst q; unfold B3 at *; simp only; omega
theorem fold_props : ∀ (zs out : List Sp), (∀ x ∈ out, B3 x) → (∀ x ∈ zs, B3 x) → (∀ x ∈ zs.foldl pushP out, B3 x) ∧ (zs.foldl pushP out).length ≤ out.length + zs.length
  | [], out, h, _ => ⟨h, by simp⟩
  | z :: zs, out, h, hz => by
    obtain ⟨a, b⟩ := push_props h (hz z (by simp))
    obtain ⟨c, d⟩ := fold_props zs (pushP out z) a (fun x hx => hz x (by simp [hx]))
    rw [List.foldl_cons]
    exact ⟨c, by simp; omega⟩
/-- The last of what was pushed begins no later than the next. -/
theorem fold_last : ∀ (zs out : List Sp) (z : Sp), Norm out → (∀ x ∈ zs, SpOk x) → zs.Pairwise Le → (∀ x ∈ zs, Le x z) → (∀ y x, out.getLast? = some y → x ∈ zs → Le y x) → (∀ y, out.getLast? = some y → Le y z) → ∀ y, (zs.foldl pushP out).getLast? = some y → Le y z
  | [], out, z, _, _, _, _, _, h => h
  | x :: zs, out, z, hn, ho, hp, hz, hl, _ => by
    obtain ⟨a, b, y, e, le⟩ := push_norm hn (ho x (by simp)) (fun y hy => hl y x hy (by simp))
    have hp' := List.pairwise_cons.1 hp
    rw [List.foldl_cons]
    exact fold_last zs _ z a (fun u hu => ho u (by simp [hu])) hp'.2 (fun u hu => hz u (by simp [hu])) (fun y' u hy' hu => by rw [e] at hy'; cases hy'; exact le.trans (hp'.1 u hu)) (fun y' hy' => by rw [e] at hy'; cases hy'; exact le.trans (hz x (by simp)))
theorem last_at {l : List Sp} {y : Sp} (h : l[l.length - 1]? = some y) : l.getLast? = some y := by rw [List.getLast?_eq_getElem?]; exact h
theorem push_apart' {out : List Sp} {y z : Sp} (h : out[out.length - 1]? = some y) (ha : Ap y z) : pushP out z = out ++ [z] := by
  unfold pushP; rw [last_at h]; simp only; rw [if_pos ha]
theorem push_touch {out : List Sp} {y z : Sp} (h : out[out.length - 1]? = some y) (ha : ¬ Ap y z) : pushP out z = out.set (out.length - 1) (y.1, y.2.1, max y.2.2 z.2.2) := by
  unfold pushP; rw [last_at h]; simp only; rw [if_neg ha, drop_set (last_at h)]
theorem push_none (z : Sp) : pushP [] z = [z] := rfl
end
section
open Go.RowKit

theorem news1 (w : World) (o : Obj) : ∃ w' : World, w' = w.alloc o ∧ Chg [] w w' ∧ w'.heap[w.heap.size]? = some o := ⟨_, rfl, (Chg.refl [] w).alloc _, heap_alloc_new w o⟩
theorem news2 (w : World) (o o' : Obj) : ∃ w' : World, w' = (w.alloc o).alloc o' ∧ Chg [] w w' ∧ w'.heap[w.heap.size]? = some o ∧ w'.heap[w.heap.size + 1]? = some o' :=
  ⟨_, rfl, ((Chg.refl [] w).alloc _).alloc _, ((Chg.refl [] _).alloc o').at_ (heap_alloc_new w o) (by simp), heap_alloc_two w o o'⟩
theorem news3 (w : World) (o o' o'' : Obj) : ∃ w' : World, w' = ((w.alloc o).alloc o').alloc o'' ∧ Chg [] w w' ∧ w'.heap[w.heap.size]? = some o ∧ w'.heap[w.heap.size + 1]? = some o' ∧ w'.heap[w.heap.size + 2]? = some o'' := by
  refine ⟨_, rfl, (((Chg.refl [] w).alloc _).alloc _).alloc _, ?_, ?_, ?_⟩
  · exact ((Chg.refl [] _).alloc o'').at_ (((Chg.refl [] _).alloc o').at_ (heap_alloc_new w o) (by simp)) (by simp)
  · exact ((Chg.refl [] _).alloc o'').at_ (heap_alloc_two w o o') (by simp)
  · have := heap_alloc_two (w.alloc o) o' o''
    rwa [World.size_alloc] at this
/-- A store into a block that is new since w. -/
theorem Chg.put {w w' : World} {s : Nat} (h : Chg [] w w') (hs : w.heap.size ≤ s) (j : Nat) (v : Value) : Chg [] w (w'.setCell ⟨s, j, none⟩ v) := h.setCell (.inr hs) _
theorem Chg.put' {w w' : World} {s : Nat} (h : Chg [s] w w') (j : Nat) (v : Value) : Chg [s] w (w'.setCell ⟨s, j, none⟩ v) := h.setCell (.inl (by simp)) _

/-- The block of an address, if there is one. -/
def blkOf (A : Option Addr) : List Nat := A.toList.map (·.block)
theorem mem_blkOf {A : Option Addr} {a : Addr} (h : A = some a) : a.block ∈ blkOf A := by subst h; simp [blkOf]
theorem of_blkOf {A : Option Addr} {i : Nat} (h : i ∈ blkOf A) : ∃ a, A = some a ∧ a.block = i := by
  cases A with
  | none => simp [blkOf] at h
  | some a => simp [blkOf] at h; exact ⟨a, rfl, h.symm⟩
theorem OwnB.lt {w : World} {A : Option Addr} {c : Nat} {xs : List UInt8} (h : OwnB w A c xs) : ∀ a, A = some a → a.block < w.heap.size := by
  rintro a rfl
  rcases h with ⟨h, _, _⟩ | ⟨g, full, h, hg, _⟩
  · cases h
  · cases h; exact lt_of_heap hg
section
variable {P : Program} {ops : Array Oper} {Q : Exit → Act → World → Prop} {md : Region.Mode} {S : World → Prop}
/-- A step that yields at once, its slot written out. -/
theorem step_yes (i d : Nat) (v : Value) {oi : Oper} {fuel : Nat} {listed : Array Bool} {a : Act} {w : World} (hS : S w) (hi : ops[i]? = some oi) (hd : oi.dst = some d)
    (hs : Region.noSelect ops = true) (hf : Region.free md ops listed i = true) (hr : (Region.ready md ops listed).contains i = true)
    (hQ : ∀ c a w, Q (.panic c) (a.put (some d) v) w → Q (.panic c) a w) (hw : Region.wanted oi (yielded ops a.tmps) = true) (hy : ∀ w, S w → (execOp a.eval oi).run P w = .ok (.value v) w)
    (h : wpAnyH P md ops Q S fuel (listed.setIfInBounds i true) (a.put (some d) v) w) : wpAnyH P md ops Q S (fuel + 1) listed a w :=
  wpAnyH_take hi hs hf hr (by rw [hd]; exact hQ) (.inl ⟨hw, hy⟩) hS (by rw [hd]; exact h)
/-- A step that is not wanted. -/
theorem step_no (i d : Nat) {oi : Oper} {fuel : Nat} {listed : Array Bool} {a : Act} {w : World} (hS : S w) (hi : ops[i]? = some oi) (hd : oi.dst = some d)
    (hs : Region.noSelect ops = true) (hf : Region.free md ops listed i = true) (hr : (Region.ready md ops listed).contains i = true)
    (hQ : ∀ c a w, Q (.panic c) (a.put (some d) undef) w → Q (.panic c) a w) (hw : Region.wanted oi (yielded ops a.tmps) = false)
    (h : wpAnyH P md ops Q S fuel (listed.setIfInBounds i true) (a.put (some d) undef) w) : wpAnyH P md ops Q S (fuel + 1) listed a w :=
  wpAnyH_take hi hs hf hr (by rw [hd]; exact hQ) (.inr ⟨hw, rfl⟩) hS (by rw [hd]; exact h)
/-- 'step_yes', short: what is closed is proved by itself. -/
theorem sy (i d : Nat) {v : Value} {oi : Oper} {fuel : Nat} {listed : Array Bool} {a : Act} {w : World} (hi : ops[i]? = some oi) (hd : oi.dst = some d)
    (h : wpAnyH P md ops Q S fuel (listed.setIfInBounds i true) (a.put (some d) v) w)
    (hS : S w := by assumption) (hs : Region.noSelect ops = true := by kernel_rfl) (hf : Region.free md ops listed i = true := by kernel_rfl) (hr : (Region.ready md ops listed).contains i = true := by kernel_rfl)
    (hQ : ∀ c a w, Q (.panic c) (a.put (some d) v) w → Q (.panic c) a w := by exact fun _ _ _ h => h) (hw : Region.wanted oi (yielded ops a.tmps) = true := by rfl)
    (hy : ∀ w, S w → (execOp a.eval oi).run P w = .ok (.value v) w := by intro w hSw; (try dsimp only at hSw); go_simp; try with_reducible rfl) : wpAnyH P md ops Q S (fuel + 1) listed a w :=
  step_yes i d v hS hi hd hs hf hr hQ hw hy h
end
theorem sA {α : Type} (l : List α) (i : Nat) (a : α) : l.toArray.setIfInBounds i a = (l.set i a).toArray := List.setIfInBounds_toArray ..
theorem s0 {α : Type} (x y : α) (l : List α) : (x :: l).set 0 y = y :: l := rfl
theorem s1 {α : Type} (x y : α) (l : List α) (n : Nat) : (x :: l).set (n + 1) y = x :: l.set n y := rfl
end
section
open Go.RowKit
set_option linter.unusedSimpArgs false
set_option linter.unusedVariables false

/-- A type of elements: its cells, its slices, its zero. -/
structure RowTy (α : Type) where
  enc : α → List Value
  k : Nat
  T : TypeId
  TS : TypeId
  z : α
  zv : Value
  bytes : Nat
  klen : ∀ x, (enc x).length = k
  one : ∀ x, ∀ v ∈ enc x, v.oneCell' = true
  zc : zv.cells.toList = enc z
  kpos : 0 < k
  bpos : bytes ≤ 200
  under : Tryz.prog.underlying TS = some (.slice T)
  info : (Tryz.prog.info? T).map (fun i => (i.zero, i.size, i.bytes)) = some (some zv, k, bytes)

section
variable {α : Type} (R : RowTy α)
def RowTy.flat (xs : List α) : List Value := xs.flatMap R.enc
theorem RowTy.flat_nil : R.flat [] = [] := rfl
theorem RowTy.flat_app (xs ys : List α) : R.flat (xs ++ ys) = R.flat xs ++ R.flat ys := by simp [RowTy.flat]
theorem RowTy.flat_cons (x : α) (ys : List α) : R.flat (x :: ys) = R.enc x ++ R.flat ys := by simp [RowTy.flat]
theorem RowTy.flat_len (xs : List α) : (R.flat xs).length = xs.length * R.k := by
  induction xs with
  | nil => simp [RowTy.flat]
  | cons x xs ih => rw [R.flat_cons, List.length_append, R.klen, ih, List.length_cons, Nat.succ_mul]; omega
theorem RowTy.flat_one (xs : List α) : ∀ v ∈ R.flat xs, v.oneCell' = true := by
  intro v hv
  simp only [RowTy.flat, List.mem_flatMap] at hv
  obtain ⟨x, _, hx⟩ := hv
  exact R.one x v hx
theorem RowTy.flat_at : ∀ (xs : List α) (j i : Nat) (x : α), xs[j]? = some x → i < R.k → (R.flat xs)[j * R.k + i]? = (R.enc x)[i]?
  | [], j, i, x, h, _ => by simp at h
  | y :: ys, 0, i, x, h, hi => by
    simp at h
    subst h
    rw [R.flat_cons, Nat.zero_mul, Nat.zero_add, List.getElem?_append_left (by rw [R.klen]; exact hi)]
  | y :: ys, j + 1, i, x, h, hi => by
    have h' : ys[j]? = some x := by simpa using h
    rw [R.flat_cons, List.getElem?_append_right (by rw [R.klen, Nat.succ_mul]; omega), R.klen]
    rw [show (j + 1) * R.k + i - R.k = j * R.k + i by rw [Nat.succ_mul]; omega]
    exact RowTy.flat_at ys j i x h' hi
theorem RowTy.flat_take (xs : List α) (j : Nat) : R.flat (xs.take j) = (R.flat xs).take (j * R.k) := by
  by_cases h : j ≤ xs.length
  · have e : (R.flat (xs.take j)).length = j * R.k := by rw [R.flat_len, List.length_take, Nat.min_eq_left h]
    have e2 : R.flat xs = R.flat (xs.take j) ++ R.flat (xs.drop j) := by rw [← R.flat_app, List.take_append_drop]
    rw [e2, ← e, List.take_left]
  · rw [List.take_of_length_le (l := xs) (by omega), List.take_of_length_le]
    rw [R.flat_len]
    exact Nat.mul_le_mul_right _ (by omega)
theorem RowTy.flat_drop (xs : List α) (j : Nat) : R.flat (xs.drop j) = (R.flat xs).drop (j * R.k) := by
  by_cases h : j ≤ xs.length
  · have e : (R.flat (xs.take j)).length = j * R.k := by rw [R.flat_len, List.length_take, Nat.min_eq_left h]
    have e2 : R.flat xs = R.flat (xs.take j) ++ R.flat (xs.drop j) := by rw [← R.flat_app, List.take_append_drop]
    rw [e2, ← e, List.drop_left]
  · rw [List.drop_of_length_le (by omega), R.flat_nil, List.drop_of_length_le]
    rw [R.flat_len]
    exact Nat.mul_le_mul_right _ (by omega)
theorem RowTy.flat_ext (l : List Value) (ys : List α) (hl : l.length = ys.length * R.k) (h : ∀ q i x, ys[q]? = some x → i < R.k → l[q * R.k + i]? = (R.enc x)[i]?) : l = R.flat ys := by
  apply List.ext_getElem?
  intro p
  by_cases hp : p < ys.length * R.k
  · have hq : p / R.k < ys.length := (Nat.div_lt_iff_lt_mul R.kpos).2 hp
    have hm : p % R.k < R.k := Nat.mod_lt _ R.kpos
    have e := h (p / R.k) (p % R.k) _ (List.getElem?_eq_getElem hq) hm
    have e2 := R.flat_at ys (p / R.k) (p % R.k) _ (List.getElem?_eq_getElem hq) hm
    rw [Nat.div_add_mod' p R.k] at e e2
    rw [e, e2]
  · rw [List.getElem?_eq_none (by omega), List.getElem?_eq_none (by rw [R.flat_len]; omega)]
theorem RowTy.zeros (n : Nat) : Builtin.zeroCells R.zv.cells n = (R.flat (List.replicate n R.z)).toArray := by
  have hk : R.zv.cells.size = R.k := by rw [← Array.length_toList, R.zc, R.klen]
  apply Array.toList_inj.1
  apply List.ext_getElem?
  intro i
  by_cases hi : i < n * R.k
  · have hd : i / R.k < n := (Nat.div_lt_iff_lt_mul R.kpos).2 hi
    have hm : i % R.k < R.k := Nat.mod_lt _ R.kpos
    have h2 := R.flat_at (List.replicate n R.z) (i / R.k) (i % R.k) R.z (by simp [hd]) hm
    rw [Nat.div_add_mod' i R.k] at h2
    rw [show (R.flat (List.replicate n R.z)).toArray.toList = R.flat (List.replicate n R.z) by simp, h2, ← R.zc]
    simp [Builtin.zeroCells, hk, hi, getElem!_pos, hm]
  · rw [List.getElem?_eq_none (by simp [Builtin.zeroCells, hk]; omega), List.getElem?_eq_none (by simp [R.flat_len]; omega)]

/-- The slice '.slice A n _' reads as these elements. -/
structure RdK (w : World) (A : Option Addr) (n : Nat) (xs : List α) : Prop where
  len : xs.length = n
  cells : ∀ j v, (R.flat xs)[j]? = some v → ∃ a, A = some a ∧ w.cell? (a.add j) = some v
/-- The slice '.slice A xs.length c' owns a row that begins with these. -/
def OwnK (w : World) (A : Option Addr) (c : Nat) (xs : List α) : Prop :=
  (A = none ∧ xs = [] ∧ c = 0) ∨ ∃ (g : Nat) (full : List α), A = some ⟨g, 0, none⟩ ∧ w.heap[g]? = some (.cells (R.flat full).toArray R.T (0, 0)) ∧ full.length = c ∧ c ≤ maxLen ∧ xs.length ≤ c ∧ full.take xs.length = xs
end
section
variable {α : Type} {R : RowTy α}
theorem RdK.nil (w : World) (A : Option Addr) : RdK R w A 0 [] := ⟨rfl, by simp [RowTy.flat]⟩
theorem RdK.chg {S : List Nat} {w w' : World} {A : Option Addr} {n : Nat} {xs : List α} (h : RdK R w A n xs) (hc : Chg S w w') (hn : ∀ a, A = some a → a.block ∉ S) : RdK R w' A n xs :=
  ⟨h.len, fun j u hj => by
    obtain ⟨a, ha, hcell⟩ := h.cells j u hj
    exact ⟨a, ha, hc.cell hcell (by rw [block_add]; exact hn a ha)⟩⟩
theorem RdK.old {w : World} {A : Option Addr} {n : Nat} {xs : List α} (h : RdK R w A n xs) : xs = [] ∨ ∀ a, A = some a → a.block < w.heap.size := by
  cases xs with
  | nil => exact .inl rfl
  | cons x xs =>
    right
    rintro a rfl
    have h0 : ∃ v, (R.flat (x :: xs))[0]? = some v := by
      have : 0 < (R.flat (x :: xs)).length := by rw [R.flat_len, List.length_cons]; exact Nat.mul_pos (by omega) R.kpos
      exact ⟨_, List.getElem?_eq_getElem this⟩
    obtain ⟨v, hv⟩ := h0
    obtain ⟨a', e, hc⟩ := h.cells 0 v hv
    cases e
    have := lt_of_cell hc
    rwa [block_add] at this
/-- One element's cells. -/
theorem RdK.at_ {w : World} {g o n : Nat} {xs : List α} (h : RdK R w (some ⟨g, o, none⟩) n xs) (j i : Nat) (x : α) (v : Value) (hx : xs[j]? = some x) (hi : (R.enc x)[i]? = some v) : w.cell? ⟨g, o + (j * R.k + i), none⟩ = some v := by
  have hik : i < R.k := by rw [← R.klen x]; exact (List.getElem?_eq_some_iff.1 hi).1
  obtain ⟨a, e, hc⟩ := h.cells _ v ((R.flat_at xs j i x hx hik).trans hi)
  cases e
  rwa [add_lit] at hc
theorem RdK.line {w : World} {A : Option Addr} {n : Nat} {xs : List α} (h : RdK R w A n xs) (h0 : 0 < n) : ∃ g o, A = some ⟨g, o, none⟩ ∧ g < w.heap.size := by
  have hl := h.len
  have hp : 0 < (R.flat xs).length := by rw [R.flat_len]; exact Nat.mul_pos (by omega) R.kpos
  obtain ⟨a, rfl, hc⟩ := h.cells 0 _ (List.getElem?_eq_getElem hp)
  have hsp := World.cell?_spot hc
  have hb := lt_of_cell hc
  obtain ⟨g, o, sp⟩ := a
  have hsp : sp = none := by simpa [Addr.add] using hsp
  subst hsp
  rw [block_add] at hb
  exact ⟨g, o, rfl, hb⟩
theorem OwnK.none_ (w : World) : OwnK R w none 0 [] := .inl ⟨rfl, rfl, rfl⟩
theorem OwnK.of {w : World} {g c : Nat} {full xs : List α} (hg : w.heap[g]? = some (.cells (R.flat full).toArray R.T (0, 0))) (h1 : xs.length ≤ c) (h2 : c ≤ maxLen) (h3 : full.length = c) (h4 : full.take xs.length = xs) :
    OwnK R w (some ⟨g, 0, none⟩) c xs := .inr ⟨g, full, rfl, hg, h3, h2, h1, h4⟩
theorem OwnK.cap {w : World} {A : Option Addr} {c : Nat} {xs : List α} (h : OwnK R w A c xs) : xs.length ≤ c ∧ c ≤ maxLen := by
  rcases h with ⟨_, rfl, rfl⟩ | ⟨_, _, _, _, _, h1, h2, _⟩
  · simp [maxLen]
  · exact ⟨h2, h1⟩
theorem OwnK.reads {w : World} {A : Option Addr} {c : Nat} {xs : List α} (h : OwnK R w A c xs) : RdK R w A xs.length xs := by
  refine ⟨rfl, fun j u hj => ?_⟩
  rcases h with ⟨_, rfl, _⟩ | ⟨g, full, rfl, hg, _, _, _, ht⟩
  · simp [RowTy.flat] at hj
  · refine ⟨_, rfl, ?_⟩
    rw [← ht, R.flat_take, List.getElem?_take] at hj
    split at hj
    · rw [add_zero_lit, cell_of hg]; simpa using hj
    · cases hj
theorem OwnK.chg {S : List Nat} {w w' : World} {A : Option Addr} {c : Nat} {xs : List α} (h : OwnK R w A c xs) (hc : Chg S w w') (hn : ∀ a, A = some a → a.block ∉ S) : OwnK R w' A c xs := by
  rcases h with h | ⟨g, full, h1, h2, r⟩
  · exact .inl h
  · exact .inr ⟨g, full, h1, hc.at_ h2 (hn _ h1), r⟩
theorem OwnK.lt {w : World} {A : Option Addr} {c : Nat} {xs : List α} (h : OwnK R w A c xs) : ∀ a, A = some a → a.block < w.heap.size := by
  rintro a rfl
  rcases h with ⟨h, _, _⟩ | ⟨g, full, h, hg, _⟩
  · cases h
  · cases h; exact lt_of_heap hg
theorem OwnK.shape {w : World} {A : Option Addr} {c : Nat} {xs : List α} (h : OwnK R w A c xs) : A = none ∧ xs = [] ∧ c = 0 ∨ ∃ g, A = some ⟨g, 0, none⟩ ∧ g < w.heap.size := by
  rcases h with h | ⟨g, full, h, hg, _⟩
  · exact .inl h
  · exact .inr ⟨g, h, lt_of_heap hg⟩
/-- A prefix of what is owned is owned. -/
theorem OwnK.take {w : World} {A : Option Addr} {c : Nat} {xs : List α} (h : OwnK R w A c xs) (j : Nat) : OwnK R w A c (xs.take j) := by
  rcases h with ⟨h1, rfl, h3⟩ | ⟨g, full, h1, h2, h3, h4, h5, h6⟩
  · exact .inl ⟨h1, by simp, h3⟩
  · refine .inr ⟨g, full, h1, h2, h3, h4, by rw [List.length_take]; omega, ?_⟩
    rw [List.length_take]
    conv => rhs; rw [← h6, List.take_take]
theorem RdK.part {w : World} {g o n : Nat} {xs : List α} (h : RdK R w (some ⟨g, o, none⟩) n xs) (q m : Nat) (hq : q + m ≤ n) : RdK R w (some ⟨g, o + q * R.k, none⟩) m ((xs.drop q).take m) := by
  have hl := h.len
  refine ⟨by simp; omega, fun j v hj => ⟨_, rfl, ?_⟩⟩
  rw [R.flat_take, R.flat_drop, List.getElem?_take] at hj
  split at hj
  · rw [List.getElem?_drop] at hj
    obtain ⟨a, e, hc⟩ := h.cells _ v hj
    cases e
    rw [add_lit] at hc ⊢
    rwa [Nat.add_assoc]
  · cases hj

set_option maxRecDepth 100000 in
/-- append of elements to a row that is owned. -/
theorem run_appK (w : World) (ty : TypeId) {A : Option Addr} {c : Nat} {xs : List α} (hown : OwnK R w A c xs) {B : Option Addr} {m d : Nat} {ys : List α} (hr : RdK R w B m ys) (hlen : (xs.length + m) * 400 ≤ 140737488355327) :
    ∃ A' c' w', (Builtin.append_ #[R.TS, R.TS] ty #[.slice A xs.length c, .slice B m d]).run Tryz.prog w = .ok (.slice A' (xs.length + m) c') w' ∧ OwnK R w' A' c' (xs ++ ys) ∧
      w.grownBy w' (A.map (·.block)) ∧ (A' = A ∨ A' = some ⟨w.heap.size, 0, none⟩) := by
  obtain ⟨i0, hi, hz0, hz1, hz2⟩ := info_parts R.info
  have hbp := R.bpos
  have hzs : R.zv.cells.size = R.k := by rw [← Array.length_toList, R.zc, R.klen]
  have hm := hr.len
  subst hm
  rcases B with _ | ad
  · have hy : ys = [] := by
      cases ys with
      | nil => rfl
      | cons y ys =>
        have : 0 < (R.flat (y :: ys)).length := by rw [R.flat_len, List.length_cons]; exact Nat.mul_pos (by omega) R.kpos
        obtain ⟨a, h, _⟩ := hr.cells 0 _ (List.getElem?_eq_getElem this); cases h
    subst hy
    have h0 : (Builtin.append_ #[R.TS, R.TS] ty #[.slice A xs.length c, .slice none 0 d]).run Tryz.prog w = .ok (.slice A xs.length c) w := by
      rcases hown with ⟨rfl, rfl, rfl⟩ | ⟨g, full, rfl, _, _, _, hnc, _⟩
      · simp [Builtin.append_, run_underlying R.under, sizeOf, typeInfo, hi, Builtin.lenOf, Builtin.firstCells]
      · simp [Builtin.append_, run_underlying R.under, sizeOf, typeInfo, hi, Builtin.lenOf, Builtin.firstCells, hnc, storeCells]
    exact ⟨A, c, w, h0, by simpa using hown, World.grownBy.refl w _, .inl rfl⟩
  have hnews : ∀ j u, (R.flat ys)[j]? = some u → w.cell? (ad.add j) = some u := by
    intro j u hu
    obtain ⟨a, e, hc⟩ := hr.cells j u hu
    cases e
    exact hc
  have hl : (R.flat ys).length = ys.length * i0.size := by rw [hz1, R.flat_len]
  have h1 := R.flat_one ys
  have hbnd : ∀ q, q * 400 ≤ 140737488355327 → (q * 2) * i0.bytes ≤ 281474976710656 := fun q hq => by
    rw [hz2]
    have := Nat.mul_le_mul_left (q * 2) hbp
    omega
  have grown : ∀ (old : Nat) (row : Option Nat), let cap' := grownCap w (xs.length + ys.length) old R.T
      OwnK R (w.drew.alloc (.cells ((R.flat xs).toArray ++ (R.flat ys).toArray ++ Builtin.zeroCells R.zv.cells (cap' - (xs.length + ys.length))) R.T)) (some ⟨w.heap.size, 0, none⟩) cap' (xs ++ ys) ∧
      w.grownBy (w.drew.alloc (.cells ((R.flat xs).toArray ++ (R.flat ys).toArray ++ Builtin.zeroCells R.zv.cells (cap' - (xs.length + ys.length))) R.T)) row := by
    intro old row cap'
    have hge : xs.length + ys.length ≤ cap' := grownCap_ge w _ old _
    have hcm : cap' ≤ maxLen := grownCap_le_maxLen w _ old _ (by simp only [maxLen]; omega)
    have e : (R.flat (xs ++ ys ++ List.replicate (cap' - (xs.length + ys.length)) R.z)).toArray = (R.flat xs).toArray ++ (R.flat ys).toArray ++ (R.flat (List.replicate (cap' - (xs.length + ys.length)) R.z)).toArray := by
      rw [R.flat_app, R.flat_app, List.append_toArray, List.append_toArray]
    refine ⟨.of (full := xs ++ ys ++ List.replicate (cap' - (xs.length + ys.length)) R.z) ?_ (by simpa using hge) hcm (by simp; omega) List.take_left, ⟨rfl, rfl, rfl, by simp, fun k hk _ => Below.heap_alloc w.drew _ k hk⟩⟩
    rw [R.zeros, e]
    exact heap_alloc_new w.drew _
  rcases hown with ⟨rfl, rfl, rfl⟩ | ⟨g, full, rfl, hg, hfl, hcm, hnc, htake⟩
  · by_cases hy : ys.length = 0
    · have hn : ys = [] := List.eq_nil_of_length_eq_zero hy
      subst hn
      refine ⟨none, 0, w, ?_, OwnK.none_ w, World.grownBy.refl w _, .inl rfl⟩
      simp [Builtin.append_, run_underlying R.under, sizeOf, typeInfo, hi, Builtin.lenOf, Builtin.firstCells, loadCells, loadCellsFrom]
    · have hbn := hbnd ys.length (by simpa using hlen)
      have hr := run_append_nil (P := Tryz.prog) w R.TS ty R.T i0 R.zv R.under hi hz0 ad ys.length d (R.flat ys) hl hnews (by omega) (by simp at hlen; omega) (Nat.le_trans (Nat.mul_le_mul_right _ (by omega)) hbn)
      have hgr := grown 0 none
      simp only [List.length_nil, Nat.zero_add, RowTy.flat_nil, List.nil_append, Array.empty_append] at hgr ⊢
      exact ⟨_, _, _, hr, hgr.1, hgr.2, .inr rfl⟩
  · by_cases hroom : xs.length + ys.length ≤ c
    · have hfit : xs.length * i0.size + (R.flat ys).length ≤ (R.flat full).toArray.size := by
        rw [hz1, R.flat_len, List.size_toArray, R.flat_len, ← Nat.add_mul]; exact Nat.mul_le_mul_right _ (by omega)
      have hr := run_append_room (P := Tryz.prog) w R.TS ty R.T i0 R.under hi g xs.length c _ hg ad ys.length d (R.flat ys) hl hnews h1 hroom hfit
      refine ⟨_, _, _, hr, .of (full := full.take xs.length ++ ys ++ full.drop (xs.length + ys.length)) ?_ (by simpa using hroom) hcm (by simp; omega) (by rw [htake, ← List.length_append]; exact List.take_left), ⟨rfl, rfl, rfl, by simp, fun k hk hne => setRow_other w g k _ (fun e => hne (by simp [e]))⟩, .inl rfl⟩
      have hs := setRow_heap w g _ ((R.flat full).toArray.toList.take (xs.length * i0.size) ++ R.flat ys ++ (R.flat full).toArray.toList.drop (xs.length * i0.size + (R.flat ys).length)).toArray _ _ hg
      rw [hs, R.flat_app, R.flat_app, R.flat_take, R.flat_drop, hz1, R.flat_len, Nat.add_mul]
    · have holds : ∀ j u, (R.flat xs)[j]? = some u → w.cell? ((⟨g, 0, none⟩ : Addr).add j) = some u := by
        intro j u hu
        obtain ⟨a, e, hc⟩ := (OwnK.of hg hnc hcm hfl htake).reads.cells j u hu
        cases e
        exact hc
      have hr := run_append_grow (P := Tryz.prog) w R.TS ty R.T i0 R.zv R.under hi hz0 ⟨g, 0, none⟩ xs.length c (R.flat xs) (by rw [hz1, R.flat_len]) holds ad ys.length d (R.flat ys) hl hnews (by omega) (by omega)
        (growslice_fits (by omega) (by rw [hz2]; have := Nat.mul_le_mul_left (xs.length + ys.length) hbp; omega))
      have hgr := grown c (some g)
      exact ⟨_, _, _, hr, hgr.1, hgr.2, .inr rfl⟩
theorem wpList_appK {ops : Array Oper} {rest : List Oper} {o : Oper} {a : Act} {w : World} {Q : Exit → Act → World → Prop} (hgd : o.guard = none) (s x : Operand)
    (ho : o.op = .call { callee := .builtin .append, args := #[s, x], argTypes := #[R.TS, R.TS] })
    {A : Option Addr} {c n : Nat} {xs : List α} (hs : a.eval s = .slice A n c) (hown : OwnK R w A c xs) (hn : xs.length = n) {B : Option Addr} {m d : Nat} {ys : List α} (hx : a.eval x = .slice B m d) (hr : RdK R w B m ys) (hlen : (n + m) * 400 ≤ 140737488355327)
    (h : ∀ A' c' w', OwnK R w' A' c' (xs ++ ys) → w.grownBy w' (A.map (·.block)) → (A' = A ∨ A' = some ⟨w.heap.size, 0, none⟩) → wpList Tryz.prog ops Q rest (a.put o.dst (.slice A' (n + m) c')) w') : wpList Tryz.prog ops Q (o :: rest) a w :=
  wpList_plain hgd fun _ hK => by
    subst hn
    obtain ⟨A', c', w', hrun, h2, h3, h4⟩ := run_appK w o.type hown (d := d) hr hlen
    unfold Oper.wp execOp
    simp only [ho, resolve, invoke, builtin, Sem.run_bind, Sem.run_pure, Result.andThen_ok, List.map_toArray, List.map_cons, List.map_nil, hs, hx, hrun]
    exact hK _ _ (h A' c' w' h2 h3 h4)
theorem step_appK {ops : Array Oper} {o : Oper} {a : Act} {w : World} {K : Act → World → Prop} {Q : Exit → Act → World → Prop} {E : Prop} (hgd : o.guard = none) (s x : Operand)
    (ho : o.op = .call { callee := .builtin .append, args := #[s, x], argTypes := #[R.TS, R.TS] })
    {A : Option Addr} {c n : Nat} {xs : List α} (hs : a.eval s = .slice A n c) (hown : OwnK R w A c xs) (hn : xs.length = n) {B : Option Addr} {m d : Nat} {ys : List α} (hx : a.eval x = .slice B m d) (hr : RdK R w B m ys) (hlen : (n + m) * 400 ≤ 140737488355327)
    (h : ∀ A' c' w', OwnK R w' A' c' (xs ++ ys) → w.grownBy w' (A.map (·.block)) → (A' = A ∨ A' = some ⟨w.heap.size, 0, none⟩) → K (a.put o.dst (.slice A' (n + m) c')) w') :
    if Region.wanted o (yielded ops a.tmps) = true then Oper.wp Tryz.prog o a w K Q else E := by
  have hw : Region.wanted o (yielded ops a.tmps) = true := by simp [Region.wanted, hgd]
  rw [if_pos hw]
  subst hn
  obtain ⟨A', c', w', hrun, h2, h3, h4⟩ := run_appK w o.type hown (d := d) hr hlen
  unfold Oper.wp execOp
  simp only [ho, resolve, invoke, builtin, Sem.run_bind, Sem.run_pure, Result.andThen_ok, List.map_toArray, List.map_cons, List.map_nil, hs, hx, hrun]
  exact h A' c' w' h2 h3 h4
end
end
section
open Go.RowKit

theorem tab_get (i : Nat) (h : i < Lib.len8tab.size) : ((Lib.len8tab[i]).toNat : Int) = (Lib.bitLen i : Int) := by
  have hi : i < 256 := by rw [Lib.len8tab_size] at h; exact h
  have e := Lib.len8_of (i : Int) (by omega) (by omega)
  simp only [Lib.len8, Int.toNat_natCast] at e
  rw [← e, ByteArray.getElem?_lt' _ _ h, Option.getD_some]

theorem len_way (k : Nat) (x y : Int) (h0 : 0 ≤ x) (h1 : x ≤ 18446744073709551615) (hy : y = x / (2 ^ k : Nat)) (hk : k = 0 ∨ 1 ≤ y) (h2 : y < 256) (h : y.toNat < Lib.len8tab.size) :
    wrap64 ((k : Int) + wrap64 ((Lib.len8tab[y.toNat]).toNat : Int)) = (Lib.bitLen x.toNat : Int) := by
  have hb := Lib.bitLen_le8' y (by rw [hy]; exact Int.ediv_nonneg h0 (Int.natCast_nonneg _)) (by omega)
  rw [tab_get]
  have e : Lib.bitLen x.toNat = k + Lib.bitLen y.toNat := by
    rcases hk with rfl | hk
    · simp at hy; subst hy; simp
    · have hd : y.toNat = x.toNat / 2 ^ k := by
        subst hy
        obtain ⟨n, rfl⟩ := Int.eq_ofNat_of_zero_le h0
        rw [← Int.natCast_ediv]; exact Int.toNat_natCast _
      have hle : 2 ^ k ≤ x.toNat := by
        rcases Nat.lt_or_ge x.toNat (2 ^ k) with hlt | hge
        · rw [Nat.div_eq_of_lt hlt] at hd; omega
        · exact hge
      rw [hd]
      exact Lib.bitLen_shift k x.toNat hle (by omega)
  have hx := Lib.bitLen_le x.toNat 64 (by omega) (by omega)
  rw [e] at hx ⊢
  unfold wrap64
  omega

set_option maxHeartbeats 1000000 in
set_option maxRecDepth 100000 in
theorem len64_any (x : Int) (w : World) (h0 : 0 ≤ x) (h1 : x ≤ 18446744073709551615) :
    Calls Tryz.prog 100 #[.int .u64 x] w fun e w' => e = .returned (.int .i64 (Lib.bitLen x.toNat)) ∧ w = w' := by
  have hz : Lib.len8tab.size = 256 := by decide +kernel
  go_enter Tryz.func100, Tryz.ntmps100
  go_wp2
  all_goals (go_ret; refine ⟨congrArg Ending.returned (congrArg (Value.int IntKind.i64) ?_), rfl⟩)
  · exact len_way 56 x _ h0 h1 (by omega) (by omega) (by omega) _
  · exact len_way 48 x _ h0 h1 (by omega) (by omega) (by omega) _
  · exact len_way 40 x _ h0 h1 (by omega) (by omega) (by omega) _
  · exact len_way 32 x _ h0 h1 (by omega) (by omega) (by omega) _
  · exact len_way 24 x _ h0 h1 (by omega) (by omega) (by omega) _
  · exact len_way 16 x _ h0 h1 (by omega) (by omega) (by omega) _
  · exact len_way 8 x _ h0 h1 (by omega) (by omega) (by omega) _
  · have e := len_way 0 x _ h0 h1 (by omega) (by omega) (by omega) (by omega : x.toNat < Lib.len8tab.size)
    simpa using e
/-- How many bytes follow the one that counts them. -/
def nb (n : Nat) : Nat := (Lib.bitLen n + 7) / 8

theorem nb_le (n : Nat) (h : n < 18446744073709551616) : nb n ≤ 8 := by
  have := Lib.bitLen_le n 64 (by omega) (by omega)
  unfold nb; omega

/-- The lowest k digits to the base 256, the highest first. -/
def be : Nat → Nat → List UInt8
  | 0, _ => []
  | k + 1, n => UInt8.ofNat (n / 256 ^ k) :: be k n
theorem be_len : ∀ (k n : Nat), (be k n).length = k
  | 0, _ => rfl
  | k + 1, n => by simp [be, be_len k n]
/-- A number's form. -/
def enc (n : Nat) : List UInt8 := UInt8.ofNat (nb n) :: be (nb n) n
theorem enc_len (n : Nat) : (enc n).length = 1 + nb n := by simp [enc, be_len]; omega

set_option maxHeartbeats 400000 in
theorem width_any (x : Int) (w : World) (h0 : 0 ≤ x) (h1 : x ≤ 9223372036854775807) :
    Calls Tryz.prog 70 #[.int .i64 x] w fun e w' => e = .returned (.int .i64 (1 + (nb x.toNat : Int))) ∧ w = w' := by
  have hx := Lib.bitLen_le x.toNat 64 (by omega) (by omega)
  go_enter Tryz.func70, Tryz.ntmps70
  go_wp2_with (go_at_call 100; refine (len64_any _ _ (by omega) (by omega)).mono ?_; rintro e w' ⟨rfl, rfl⟩)
  go_ret
  refine ⟨congrArg Ending.returned (congrArg (Value.int IntKind.i64) ?_), rfl⟩
  unfold nb
  omega
end
section
open Go.RowKit

/-- A writer at block b that has written xs (in row g; g = b: in none yet) and found the error e. -/
def Wrt (w : World) (b g : Nat) (xs : List UInt8) (e : Int) : Prop :=
  ∃ A c, w.heap[b]? = some (.cells #[.pointer (some ⟨b, 0, none⟩), .slice A xs.length c, .int .i64 e] 99 (0, 0)) ∧ OwnB w A c xs ∧ (A = none ∧ g = b ∨ A = some ⟨g, 0, none⟩)

theorem Wrt.chg {S : List Nat} {w w' : World} {b g : Nat} {xs : List UInt8} {e : Int} (h : Wrt w b g xs e) (hc : Chg S w w') (hb : b ∉ S) (hg : g ∉ S) : Wrt w' b g xs e := by
  obtain ⟨A, c, h1, h2, h3⟩ := h
  refine ⟨A, c, hc.at_ h1 hb, h2.chg hc ?_, h3⟩
  rintro a rfl
  rcases h3 with ⟨h3, _⟩ | h3
  · cases h3
  · cases h3; exact hg
theorem Wrt.lt {w : World} {b g : Nat} {xs : List UInt8} {e : Int} (h : Wrt w b g xs e) : b < w.heap.size ∧ g < w.heap.size := by
  obtain ⟨A, c, h1, h2, h3⟩ := h
  have hb := lt_of_heap h1
  rcases h3 with ⟨_, rfl⟩ | rfl
  · exact ⟨hb, hb⟩
  · rcases h2.form with ⟨h, _⟩ | ⟨g', cur, h, h4, _⟩
    · cases h
    · cases h; exact ⟨hb, lt_of_heap h4⟩

theorem someW : (Tryz.prog.info? 99).isSome = true := by kernel_rfl
theorem eqlPW (a : Addr) (w : World) : (binOp .eql 69 (.pointer (some a)) (.pointer (some a))).run Tryz.prog w = .ok (.bool true) w := by
  obtain ⟨j, hj⟩ := Option.isSome_iff_exists.1 someW
  exact run_eql_ptr_same w a Tryz.underlying69 hj

/-- What an append that is stored in the writer's field leaves. -/
theorem wrt_put {w w1 : World} {b g : Nat} {xs zs : List UInt8} {e : Int} {A A' : Option Addr} {c c' n : Nat} (h1 : w.heap[b]? = some (.cells #[.pointer (some ⟨b, 0, none⟩), .slice A xs.length c, .int .i64 e] 99 (0, 0))) (h2 : OwnB w A c xs)
    (h3 : A = none ∧ g = b ∨ A = some ⟨g, 0, none⟩) (own1 : OwnB w1 A' c' zs) (hg1 : w.grownBy w1 (A.map (·.block))) (hA1 : A' = A ∨ A' = some ⟨w.heap.size, 0, none⟩) (hn : n = zs.length) :
    ∃ g', Wrt (w1.setCell ⟨b, 1, none⟩ (.slice A' n c')) b g' zs e ∧ Chg [b, g] w (w1.setCell ⟨b, 1, none⟩ (.slice A' n c')) ∧ (g' = g ∨ w.heap.size ≤ g') := by
  subst hn
  have hne := h2.ne h1 (by decide)
  have hb := lt_of_heap h1
  have q1 := grown_at hg1 h1 hne
  have q2 := heap_setCell_same w1 b 1 _ _ (.slice A' zs.length c') q1
  have hne' := own1.ne q1 (by decide)
  have own2 : OwnB (w1.setCell ⟨b, 1, none⟩ (.slice A' zs.length c')) A' c' zs := own1.keep fun g o eA ho => by
    rw [Below.heap_setCell _ _ _ _ (by have := hne' _ eA; exact this)]; exact ho
  have hc : Chg [b, g] w (w1.setCell ⟨b, 1, none⟩ (.slice A' zs.length c')) :=
    ((Chg.refl _ _).grown hg1 (fun k hk => by
      rcases h3 with ⟨rfl, _⟩ | rfl
      · cases hk
      · simp at hk; subst hk; simp)).setCell (by simp) _
  rcases hA1 with rfl | rfl
  · exact ⟨g, ⟨A', c', by simpa using q2, own2, h3⟩, hc, .inl rfl⟩
  · exact ⟨w.heap.size, ⟨_, c', by simpa using q2, own2, .inr rfl⟩, hc, .inr (Nat.le_refl _)⟩

set_option maxHeartbeats 400000 in
theorem put_any (w : World) (b g : Nat) (xs : List UInt8) (e : Int) (B : Option Addr) (m d : Nat) (ys : List UInt8) (h : Wrt w b g xs e) (hr : Bs w B m ys) (hlen : xs.length + m ≤ 140737488355327) :
    Calls Tryz.prog 71 #[.pointer (some ⟨b, 0, none⟩), .slice B m d] w fun r w' => r = .returned (.tuple #[]) ∧ ∃ g', Wrt w' b g' (xs ++ ys) e ∧ Chg [b, g] w w' ∧ (g' = g ∨ w.heap.size ≤ g') := by
  obtain ⟨A, c, h1, h2, h3⟩ := h
  have hne := h2.ne h1 (by decide)
  have k1 := cell_of h1 1
  simp only [List.getElem?_toArray, List.getElem?_cons_succ, List.getElem?_cons_zero] at k1
  have H1 := Lib.hid h1
  have H3 := Lib.hid h3
  clear h1 h3
  go_enter Tryz.func71, Tryz.ntmps71
  go_wp2_with (at_builtin; refine wpList_app rfl _ _ rfl rfl h2 rfl rfl hr hlen ?_; intro A' c' w1 own1 hg1 hA1; have q1 := grown_at hg1 H1.out hne; have Q1 := Lib.hid q1; have q2 := cell_of q1 1; have q3 := free_of q1 1; simp only [List.getElem?_toArray, List.getElem?_cons_succ, List.getElem?_cons_zero] at q2; clear q1)
  go_end0
  exact ⟨rfl, wrt_put H1.out h2 H3.out own1 hg1 hA1 (by simp [hr.len])⟩

set_option maxHeartbeats 400000 in
theorem new_any (w : World) :
    Calls Tryz.prog 37 #[] w fun r w' => r = .returned (.pointer (some ⟨w.heap.size, 0, none⟩)) ∧ Wrt w' w.heap.size w.heap.size [] 0 ∧ Chg [] w w' := by
  go_enter Tryz.func37, Tryz.ntmps37
  go_wp2
  go_ret
  exact ⟨rfl, ⟨none, 0, heap_alloc_new w _, OwnB.none_ _, .inl ⟨rfl, rfl⟩⟩, (Chg.refl _ _).alloc _⟩

set_option maxHeartbeats 400000 in
theorem made_yes (w : World) (b g : Nat) (xs : List UInt8) (e : Int) (h : Wrt w b g xs e) :
    Calls Tryz.prog 68 #[.pointer (some ⟨b, 0, none⟩)] w fun e w' => e = .returned (.bool true) ∧ w = w' := by
  obtain ⟨A, c, h1, _, _⟩ := h
  have h0 := cell_of h1 0
  simp only [List.getElem?_toArray, List.getElem?_cons_zero] at h0
  have H := Lib.hid h1
  clear h1
  have h1 := eqlPW ⟨b, 0, none⟩
  go_enter Tryz.func68, Tryz.ntmps68
  go_wp2
  go_ret
  exact ⟨rfl, rfl⟩

theorem u8_of (x : Int) (k : Nat) (h : x = (k : Int)) (hk : k < 256) : x = ((UInt8.ofNat k).toNat : Int) := by
  rw [UInt8.toNat_ofNat', Nat.mod_eq_of_lt hk]; exact h

theorem u8_shift (n k : Nat) : ((n : Int) / 2 ^ (8 * k) % 256) = ((UInt8.ofNat (n / 256 ^ k)).toNat : Int) := by
  rw [UInt8.toNat_ofNat']
  have e : (2 : Int) ^ (8 * k) = ((256 ^ k : Nat) : Int) := by
    rw [Int.pow_mul, show (2 : Int) ^ 8 = ((256 : Nat) : Int) from rfl, ← Int.natCast_pow]
  rw [e]
  omega

/-- What is known of a world between two bytes of a number. -/
def Between (w wr : World) (b g : Nat) (xs : List UInt8) (e : Int) : Prop := ∃ g', Wrt wr b g' xs e ∧ Chg [b, g] w wr ∧ (g' = g ∨ w.heap.size ≤ g')

theorem Between.put {w wr w' : World} {b g g' : Nat} {xs ys : List UInt8} {e : Int} (hc : Chg [b, g] w wr) (hg : g' = g ∨ w.heap.size ≤ g') {o : Obj}
    (h : ∃ g2, Wrt w' b g2 (xs ++ ys) e ∧ Chg [b, g'] (wr.alloc o) w' ∧ (g2 = g' ∨ (wr.alloc o).heap.size ≤ g2)) : Between w w' b g (xs ++ ys) e := by
  obtain ⟨g2, h1, h2, h3⟩ := h
  refine ⟨g2, h1, (hc.alloc o).trans' h2 ?_, ?_⟩
  · intro i hi
    simp at hi ⊢
    rcases hi with rfl | rfl
    · exact .inl (.inl rfl)
    · rcases hg with rfl | hg
      · exact .inl (.inr rfl)
      · exact .inr hg
  · have := hc.size
    rcases h3 with rfl | h3
    · exact hg
    · simp at h3; right; omega

set_option maxHeartbeats 400000 in
theorem number_any (w : World) (b g : Nat) (xs : List UInt8) (e : Int) (x : Int) (h0 : 0 ≤ x) (hn : x ≤ 9223372036854775807) (h : Wrt w b g xs e) (hlen : xs.length ≤ 1099511627776) :
    Calls Tryz.prog 72 #[.func (.func 71) #[.pointer (some ⟨b, 0, none⟩)] #[], .int .i64 x] w fun r w' => r = .returned (.tuple #[]) ∧ Between w w' b g (xs ++ enc x.toNat) e := by
  obtain ⟨n, rfl⟩ := Int.eq_ofNat_of_zero_le h0
  have hb := nb_le n (by omega)
  go_enter Tryz.func72, Tryz.ntmps72
  go_wp2_with (first
    | (go_at_call 70; refine (width_any _ _ (by omega) (by omega)).mono ?_; rintro e w' ⟨rfl, rfl⟩)
    | (go_at_call 71; refine (put_any _ b g xs e _ _ _ [UInt8.ofNat (nb n)] (h.chg ((Chg.refl [] w).alloc _) (by simp) (by simp)) (Bs.one _ _ _ (u8_of _ _ (by omega) (by omega))) (by omega)).mono ?_; rintro e1 w1 ⟨rfl, hp⟩; have hq := Lib.hid (Between.put (Chg.refl _ _) (.inl rfl) hp); clear hp))
  go_loopw [5] (fun v wr => ∃ (k : Nat) (p : List UInt8), k ≤ nb n ∧ v = .int .i64 ((k : Int) - 1) ∧ p ++ be k n = be (nb n) n ∧ Between w wr b g (xs ++ UInt8.ofNat (nb n) :: p) e) (fun v _ => (intOf v + 1).toNat)
  case atStart => exact ⟨nb n, [], by omega, by simp; omega, by simp, by simpa using hq.out⟩
  case round =>
    obtain ⟨k, p, hk, rfl, hp, hbt⟩ := hrel
    have Hp := Lib.hid hp
    have Hb := Lib.hid hbt
    clear hp hbt
    rcases k with _ | k
    · go_wp2
      go_end0
      refine ⟨rfl, ?_⟩
      have hp := Hp.out
      simp only [be, List.append_nil] at hp
      have hb := Hb.out
      rw [hp] at hb
      exact hb
    · obtain ⟨g', hw, hc, hg⟩ := Hb.out
      have hlw : (xs ++ UInt8.ofNat (nb n) :: p).length + 1 ≤ 140737488355327 := by
        have hl := congrArg List.length Hp.out
        simp only [List.length_append, be_len, List.length_cons] at hl ⊢
        omega
      have Hg := Lib.hid hg
      clear hg
      go_wp2_with (go_at_call 71; refine (put_any _ b g' _ e _ _ _ [UInt8.ofNat (n / 256 ^ k)] (hw.chg ((Chg.refl [] wr).alloc _) (by simp) (by simp)) (Bs.one _ _ _ (u8_shift n k)) hlw).mono ?_; rintro e1 w2 ⟨rfl, hp2⟩; have hq2 := Lib.hid (Between.put hc Hg.out hp2); clear hp2)
      go_roundw
      case rel =>
        refine ⟨k, p ++ [UInt8.ofNat (n / 256 ^ k)], by omega, by go_num, ?_, ?_⟩
        · rw [← Hp.out]; simp [be]
        · have := hq2.out; simpa using this
      case measure => simp [intOf]

set_option maxHeartbeats 400000 in
theorem fits_yes (w : World) (b g : Nat) (xs : List UInt8) (n : Int) (h : Wrt w b g xs 0) (hlen : xs.length ≤ 1099511627776) (hn2 : n + xs.length ≤ 1048576) :
    Calls Tryz.prog 69 #[.pointer (some ⟨b, 0, none⟩), .int .i64 n] w fun r w' => r = .returned (.bool true) ∧ w = w' := by
  obtain ⟨A, c, h1, _, _⟩ := h
  have k1 := cell_of h1 1
  have k2 := cell_of h1 2
  simp only [List.getElem?_toArray, List.getElem?_cons_succ, List.getElem?_cons_zero] at k1 k2
  have H := Lib.hid h1
  clear h1
  go_enter Tryz.func69, Tryz.ntmps69
  go_wp2
  go_ret
  exact ⟨rfl, rfl⟩
set_option maxHeartbeats 400000 in
theorem fits_no (w : World) (b g : Nat) (xs : List UInt8) (n : Int) (h : Wrt w b g xs 0) (hlen : xs.length ≤ 1099511627776) (hn2 : 1048576 < n + xs.length) :
    Calls Tryz.prog 69 #[.pointer (some ⟨b, 0, none⟩), .int .i64 n] w fun r w' => r = .returned (.bool false) ∧ Between w w' b g xs 3 := by
  obtain ⟨A, c, h1, h2, h3⟩ := h
  have k1 := cell_of h1 1
  have k2 := cell_of h1 2
  have k3 := free_of h1 2
  simp only [List.getElem?_toArray, List.getElem?_cons_succ, List.getElem?_cons_zero] at k1 k2
  have H := Lib.hid h1
  have H3 := Lib.hid h3
  clear h1 h3
  go_enter Tryz.func69, Tryz.ntmps69
  go_wp2
  go_ret
  have q := heap_setCell_same w b 2 _ _ (.int .i64 3) H.out
  have hne := h2.ne H.out (by decide)
  refine ⟨rfl, g, ⟨A, c, by simpa using q, h2.keep fun g o eA ho => ?_, H3.out⟩, (Chg.refl _ _).setCell (by simp) _, .inl rfl⟩
  rw [Below.heap_setCell _ _ _ _ (by have := hne _ eA; exact this)]; exact ho
end
section
open Go.RowKit

/-- What a writer has behind a number that is written. -/
def wNum (xs : List UInt8) (e : Int) (x : Int) : List UInt8 × Int :=
  if e ≠ 0 then (xs, e) else if x < 0 ∨ 4611686018427387903 < x then (xs, 5) else if 1048576 < 1 + nb x.toNat + xs.length then (xs, 3) else (xs ++ enc x.toNat, 0)
/-- What a writer has behind bytes that are written. -/
def wRaw (xs : List UInt8) (e : Int) (ys : List UInt8) : List UInt8 × Int :=
  if e ≠ 0 then (xs, e) else if 1048576 < 1 + nb ys.length + ys.length + xs.length then (xs, 3) else (xs ++ enc ys.length ++ ys, 0)

theorem Between.refl {w : World} {b g : Nat} {xs : List UInt8} {e : Int} (h : Wrt w b g xs e) : Between w w b g xs e := ⟨g, h, Chg.refl _ _, .inl rfl⟩
theorem Between.trans {a b c : World} {p g g' : Nat} {xs ys : List UInt8} {e e' : Int} (_h : Wrt b p g' xs e) (hc : Chg [p, g] a b) (hg : g' = g ∨ a.heap.size ≤ g') (k : Between b c p g' ys e') : Between a c p g ys e' := by
  obtain ⟨g2, h1, h2, h3⟩ := k
  have := hc.size
  refine ⟨g2, h1, hc.trans' h2 ?_, ?_⟩
  · intro i hi
    simp at hi ⊢
    rcases hi with rfl | rfl
    · exact .inl (.inl rfl)
    · rcases hg with rfl | hg
      · exact .inl (.inr rfl)
      · exact .inr hg
  · rcases h3 with rfl | h3
    · exact hg
    · right; omega

set_option maxHeartbeats 400000 in
theorem wnum_err (w : World) (b g : Nat) (xs : List UInt8) (e : Int) (x : Int) (h : Wrt w b g xs e) (he : (e != 0) = true) :
    Calls Tryz.prog 38 #[.pointer (some ⟨b, 0, none⟩), .int .i64 x] w fun r w' => r = .returned (.tuple #[]) ∧ w = w' := by
  obtain ⟨A, c, h1, _, _⟩ := id h
  have h0 := cell_of h1 2
  simp only [List.getElem?_toArray, List.getElem?_cons_zero, List.getElem?_cons_succ] at h0
  have H := Lib.hid h1
  clear h1
  go_enter Tryz.func38, Tryz.ntmps38
  go_wp2_with (go_at_call 68; refine (made_yes _ b g xs e h).mono ?_; rintro r w' ⟨rfl, rfl⟩)
  refine bodyPost_ret (results_none rfl _ _ _) rfl ?_
  exact ⟨rfl, rfl⟩

/-- What the range's error leaves. -/
def r_fin (w : World) (b g : Nat) (xs : List UInt8) : Prop := Between w (w.setCell ⟨b, 2, none⟩ (.int .i64 5)) b g xs 5

set_option maxHeartbeats 400000 in
theorem wnum_range (w : World) (b g : Nat) (xs : List UInt8) (x : Int) (h : Wrt w b g xs 0) (hx : x < 0 ∨ 4611686018427387903 < x) :
    Calls Tryz.prog 38 #[.pointer (some ⟨b, 0, none⟩), .int .i64 x] w fun r w' => r = .returned (.tuple #[]) ∧ Between w w' b g xs 5 := by
  obtain ⟨A, c, h1, h2, h3⟩ := id h
  have h0 := cell_of h1 2
  have k3 := free_of h1 2
  simp only [List.getElem?_toArray, List.getElem?_cons_zero, List.getElem?_cons_succ] at h0
  have H := Lib.hid h1
  have H3 := Lib.hid h3
  clear h1 h3
  have fin : r_fin w b g xs := by
    have q := heap_setCell_same w b 2 _ _ (.int .i64 5) H.out
    have hne := h2.ne H.out (by decide)
    refine ⟨g, ⟨A, c, by simpa using q, h2.keep fun g o eA ho => ?_, H3.out⟩, (Chg.refl _ _).setCell (by simp) _, .inl rfl⟩
    rw [Below.heap_setCell _ _ _ _ (by have := hne _ eA; exact this)]; exact ho
  have Fin := Lib.hid fin
  clear fin
  rcases hx with hx | hx
  all_goals
    go_enter Tryz.func38, Tryz.ntmps38
    go_wp2_with (go_at_call 68; refine (made_yes _ b g xs 0 h).mono ?_; rintro r w' ⟨rfl, rfl⟩)
    refine bodyPost_ret (results_none rfl _ _ _) rfl ?_
    exact ⟨rfl, Fin.out⟩

set_option maxHeartbeats 400000 in
theorem wnum_long (w : World) (b g : Nat) (xs : List UInt8) (x : Int) (h : Wrt w b g xs 0) (hlen : xs.length ≤ 1048576) (hx : 0 ≤ x) (hx2 : x ≤ 4611686018427387903) (hl : 1048576 < 1 + nb x.toNat + xs.length) :
    Calls Tryz.prog 38 #[.pointer (some ⟨b, 0, none⟩), .int .i64 x] w fun r w' => r = .returned (.tuple #[]) ∧ Between w w' b g xs 3 := by
  obtain ⟨A, c, h1, h2, h3⟩ := id h
  have h0 := cell_of h1 2
  simp only [List.getElem?_toArray, List.getElem?_cons_zero, List.getElem?_cons_succ] at h0
  have H := Lib.hid h1
  have H3 := Lib.hid h3
  clear h1 h3
  go_enter Tryz.func38, Tryz.ntmps38
  go_wp2_with (first
    | (go_at_call 68; refine (made_yes _ b g xs 0 h).mono ?_; rintro r w' ⟨rfl, rfl⟩)
    | (go_at_call 70; refine (width_any _ _ (by omega) (by omega)).mono ?_; rintro r w' ⟨rfl, rfl⟩)
    | (go_at_call 69; refine (fits_no _ b g xs _ h (by omega) (by omega)).mono ?_; rintro r w' ⟨rfl, hB⟩))
  go_end0
  exact ⟨rfl, hB⟩

set_option maxHeartbeats 400000 in
theorem wnum_fine (w : World) (b g : Nat) (xs : List UInt8) (x : Int) (h : Wrt w b g xs 0) (hlen : xs.length ≤ 1048576) (hx : 0 ≤ x) (hx2 : x ≤ 4611686018427387903) (hl : 1 + nb x.toNat + xs.length ≤ 1048576) :
    Calls Tryz.prog 38 #[.pointer (some ⟨b, 0, none⟩), .int .i64 x] w fun r w' => r = .returned (.tuple #[]) ∧ Between w w' b g (xs ++ enc x.toNat) 0 := by
  obtain ⟨A, c, h1, h2, h3⟩ := id h
  have h0 := cell_of h1 2
  simp only [List.getElem?_toArray, List.getElem?_cons_zero, List.getElem?_cons_succ] at h0
  have H := Lib.hid h1
  have H3 := Lib.hid h3
  clear h1 h3
  go_enter Tryz.func38, Tryz.ntmps38
  go_wp2_with (first
    | (go_at_call 68; refine (made_yes _ b g xs 0 h).mono ?_; rintro r w' ⟨rfl, rfl⟩)
    | (go_at_call 70; refine (width_any _ _ (by omega) (by omega)).mono ?_; rintro r w' ⟨rfl, rfl⟩)
    | (go_at_call 69; refine (fits_yes _ b g xs _ h (by omega) (by omega)).mono ?_; rintro r w' ⟨rfl, rfl⟩)
    | (go_at_call 72; refine (number_any _ b g xs 0 _ (by omega) (by omega) h (by omega)).mono ?_; rintro r w' ⟨rfl, hB⟩))
  go_end0
  exact ⟨rfl, hB⟩

/-- Num, whatever came ahead. -/
theorem wnum_any (w : World) (b g : Nat) (xs : List UInt8) (e x : Int) (h : Wrt w b g xs e) (hlen : xs.length ≤ 1048576) :
    Calls Tryz.prog 38 #[.pointer (some ⟨b, 0, none⟩), .int .i64 x] w fun r w' => r = .returned (.tuple #[]) ∧ Between w w' b g (wNum xs e x).1 (wNum xs e x).2 := by
  unfold wNum
  by_cases he : e = 0
  · subst he
    by_cases h1 : x < 0 ∨ 4611686018427387903 < x
    · simp only [ne_eq, not_true_eq_false, if_false, if_pos h1]; exact wnum_range w b g xs x h h1
    · by_cases h2 : 1048576 < 1 + nb x.toNat + xs.length
      · simp only [ne_eq, not_true_eq_false, if_false, if_neg h1, if_pos h2]; exact wnum_long w b g xs x h hlen (by omega) (by omega) h2
      · simp only [ne_eq, not_true_eq_false, if_false, if_neg h1, if_neg h2]; exact wnum_fine w b g xs x h hlen (by omega) (by omega) (by omega)
  · simp only [ne_eq, he, not_false_eq_true, if_true]
    exact (wnum_err w b g xs e x h (by simpa using he)).mono fun r w' ⟨h1, h2⟩ => ⟨h1, h2 ▸ Between.refl h⟩
end
end Go.Proofs.YtgafkaigkaghcaaGreatDoor
