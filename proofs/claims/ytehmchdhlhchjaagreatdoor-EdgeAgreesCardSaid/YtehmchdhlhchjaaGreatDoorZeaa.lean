/- Words on memory that the walks over this seat share: bytes read, bytes owned, what a step leaves alone. No function of the program is named here. New blocks, and the world behind them, under one name. A range over a function whose iterator hands over what it has laid itself; the body always goes on: no program here. A range over a function whose iterator writes cells of its own (blocks Si), with a body that writes cells of its caller's (blocks T) and may leave: no program here. A range over a function whose body also makes memory of its own (a row that grows): the iterator promises to leave alone all that there is but its own blocks. No program here. Rows of elements of several cells each (structs): read, owned, appended to. No function of the program is named here. Rows in the body of a range over a function (taken from XToway by gen/Ckcut2.py). math/bits.Len64 and wire.width: how many bytes a number takes. The writer of package wire: what each of its calls does. The writer's exported calls: Num, Text, Raw, Out. The writer's Raw, Text and Out. -/
import Derived.Test.YtehmchdhlhchjaaGreatDoorRows
import Derived.WalkKit
import Derived.WalkSpells
import Derived.WalkLawsBesides
import Derived.LaidEqlPtr
import Derived.Lib.Hide
import Derived.Maps.AppendAt
import Derived.OrdersHeld
import Derived.RangeFuncNested
import Derived.RangeFuncBound
import Derived.RangeFuncCalls
import Derived.RangeFuncLeaves
import Derived.Shelf.Abstract
import Derived.Shelf.RegionOpen
import Derived.OwnWalkIn
import Derived.TacticsInMore
import Derived.LoopNIn
import Derived.LoopIn
import Derived.Deep.DeepAppendWide
import Derived.Lib.BitFns
set_option linter.unusedSimpArgs false
set_option linter.unusedVariables false
set_option maxHeartbeats 32000000
namespace Go.Proofs.YtehmchdhlhchjaaGreatDoor
theorem h_ {p : Prop} (h : p) : Go.RowKit.Hid p := h
theorem gA {α : Type} (l : List α) (i : Nat) : l.toArray[i]? = l[i]? := List.getElem?_toArray
theorem gY {α : Type} (a : α) (l : List α) (i : Nat) : (a :: l)[i + 1]? = l[i]? := List.getElem?_cons_succ
theorem gZ {α : Type} (a : α) (l : List α) : (a :: l)[0]? = some a := List.getElem?_cons_zero
section
open Go.RowKit

def bv (c : UInt8) : Value := .int .u8 (c.toNat : Int)

theorem bv_one (c : UInt8) : (bv c).oneCell' = true := rfl

structure Chg (S : List Nat) (w w' : World) : Prop where
 os : w'.os = w.os
 tape : w'.tape = w.tape
 output : w'.output = w.output
 size : w.heap.size ≤ w'.heap.size
 block : ∀ k, k < w.heap.size → k ∉ S → w'.heap[k]? = w.heap[k]?

theorem Chg.refl (S : List Nat) (w : World) : Chg S w w := ⟨rfl, rfl, rfl, Nat.le_refl _, fun _ _ _ => rfl⟩
theorem Chg.trans {S : List Nat} {a b c : World} (h : Chg S a b) (k : Chg S b c) : Chg S a c :=
 ⟨k.os.trans h.os, k.tape.trans h.tape, k.output.trans h.output, Nat.le_trans h.size k.size, fun i hi hn => (k.block i (Nat.lt_of_lt_of_le hi h.size) hn).trans (h.block i hi hn)⟩
theorem Chg.trans' {S S' : List Nat} {a b c : World} (h : Chg S a b) (k : Chg S' b c) (hs : ∀ i ∈ S', i ∈ S ∨ a.heap.size ≤ i) : Chg S a c :=
 ⟨k.os.trans h.os, k.tape.trans h.tape, k.output.trans h.output, Nat.le_trans h.size k.size, fun i hi hn => (k.block i (Nat.lt_of_lt_of_le hi h.size) (fun hm => by
  rcases hs i hm with h1 | h1
  ·
   exact hn h1
  ·
   omega)).trans (h.block i hi hn)⟩
theorem Chg.mono {S S' : List Nat} {a b : World} (h : Chg S a b) (hs : ∀ i ∈ S, i ∈ S' ∨ a.heap.size ≤ i) : Chg S' a b :=
 ⟨h.os, h.tape, h.output, h.size, fun i hi hn => h.block i hi (fun hm => by
  rcases hs i hm with h1 | h1
  ·
   exact hn h1
  ·
   omega)⟩
theorem Chg.drew {S : List Nat} {a w : World} (h : Chg S a w) : Chg S a w.drew := ⟨h.os, h.tape, h.output, h.size, h.block⟩
theorem Chg.drewN {S : List Nat} {a w : World} (h : Chg S a w) (n : Nat) : Chg S a (w.drewN n) := ⟨h.os, h.tape, h.output, h.size, h.block⟩
theorem Chg.alloc {S : List Nat} {a w : World} (h : Chg S a w) (o : Obj) : Chg S a (w.alloc o) :=
 h.trans ⟨rfl, rfl, rfl, by simp, fun k hk _ => Below.heap_alloc _ _ _ hk⟩
theorem Chg.setCell {S : List Nat} {a w : World} (h : Chg S a w) {p : Addr} (hp : p.block ∈ S ∨ a.heap.size ≤ p.block) (u : Value) : Chg S a (w.setCell p u) :=
 ⟨h.os, h.tape, h.output, by simpa [World.setCell] using h.size, fun k hk hn => (Below.heap_setCell _ _ _ _ (by
  rintro rfl
  rcases hp with h1 | h1
  ·
   exact hn h1
  ·
   omega)).trans (h.block k hk hn)⟩
theorem Chg.grown {S : List Nat} {a w w' : World} {row : Option Nat} (h : Chg S a w) (hg : w.grownBy w' row) (hr : ∀ k, row = some k → k ∈ S ∨ a.heap.size ≤ k) : Chg S a w' :=
 ⟨hg.os.trans h.os, hg.tape.trans h.tape, hg.output.trans h.output, Nat.le_trans h.size hg.size, fun k hk hn => (hg.block k (Nat.lt_of_lt_of_le hk h.size) (fun e => by
  rcases hr k e.symm with h1 | h1
  ·
   exact hn h1
  ·
   omega)).trans (h.block k hk hn)⟩
theorem Chg.ofBelow {B : Nat} {a b : World} (h : Below B a b) (hB : a.heap.size ≤ B) (S : List Nat) : Chg S a b :=
 ⟨h.os, h.tape, h.output, h.size, fun k hk _ => h.block k (by omega)⟩
theorem Chg.toBelow {a b : World} (h : Chg [] a b) : Below a.heap.size a b := ⟨h.os, h.tape, h.output, h.size, fun k hk => h.block k hk (by simp)⟩

theorem heap_alloc_two (w : World) (o o' : Obj) : ((w.alloc o).alloc o').heap[w.heap.size + 1]? = some o' := by
 have := heap_alloc_new (w.alloc o) o'
 rwa [World.size_alloc] at this
theorem lt_of_heap {w : World} {b : Nat} {o : Obj} (h : w.heap[b]? = some o) : b < w.heap.size := (Array.getElem?_eq_some_iff.1 h).1
theorem Chg.at_ {S : List Nat} {w w' : World} {b : Nat} {o : Obj} (h : Chg S w w') (hb : w.heap[b]? = some o) (hn : b ∉ S) : w'.heap[b]? = some o :=
 (h.block b (lt_of_heap hb) hn).trans hb
theorem lt_of_cell {w : World} {a : Addr} {v : Value} (h : w.cell? a = some v) : a.block < w.heap.size := by
 unfold World.cell? at h
 split at h
 ·
  rename_i hb; exact lt_of_heap hb
 ·
  cases h
theorem Chg.cell {S : List Nat} {w w' : World} {a : Addr} {v : Value} (h : Chg S w w') (hc : w.cell? a = some v) (hn : a.block ∉ S) : w'.cell? a = some v :=
 (World.cell?_of_block (w := w) (h.block _ (lt_of_cell hc) hn)).trans hc

structure Bs (w : World) (A : Option Addr) (n : Nat) (xs : List UInt8) : Prop where
 len : xs.length = n
 cells : ∀ j c, xs[j]? = some c → ∃ a, A = some a ∧ w.cell? (a.add j) = some (bv c)

theorem cell_of' {w : World} {b : Nat} {cs : Array Value} {t : TypeId} {fr : Nat × Nat} (h : w.heap[b]? = some (.cells cs t fr)) (j : Nat) : w.cell? ⟨b, j, none⟩ = cs[j]? := by simp [World.cell?, h]
theorem Bs.one (w : World) (c : UInt8) (x : Int) (hx : x = (c.toNat : Int)) : Bs (w.alloc (.cells #[.int .u8 x] 5)) (some ⟨w.heap.size, 0, none⟩) 1 [c] :=
 ⟨rfl, fun j u hj => by
  cases j with
  | zero =>
   simp at hj
   subst hj hx
   refine ⟨_, rfl, ?_⟩
   have e := cell_of' (heap_alloc_new w (.cells #[.int .u8 (c.toNat : Int)] 5)) 0
   have ea : (⟨w.heap.size, 0, none⟩ : Addr).add 0 = ⟨w.heap.size, 0, none⟩ := by unfold Addr.add; split <;> simp_all
   rw [ea, e]; rfl
  | succ j => simp at hj⟩

theorem block_add (a : Addr) (n : Nat) : (a.add n).block = a.block := by unfold Addr.add; split <;> rfl
theorem add_zero_lit (g j : Nat) : (⟨g, 0, none⟩ : Addr).add j = ⟨g, j, none⟩ := by unfold Addr.add; split <;> simp_all
theorem add_lit (g o j : Nat) : (⟨g, o, none⟩ : Addr).add j = ⟨g, o + j, none⟩ := by unfold Addr.add; split <;> simp_all

theorem Bs.nil (w : World) (A : Option Addr) : Bs w A 0 [] := ⟨rfl, by simp⟩
theorem Bs.chg {S : List Nat} {w w' : World} {A : Option Addr} {n : Nat} {xs : List UInt8} (h : Bs w A n xs) (hc : Chg S w w') (hn : ∀ a, A = some a → a.block ∉ S) : Bs w' A n xs :=
 ⟨h.len, fun j c hj => by
  obtain ⟨a, rfl, hx⟩ := h.cells j c hj
  exact ⟨a, rfl, hc.cell hx (by rw [block_add]; exact hn a rfl)⟩⟩
def Apart (B : Option Addr) (ys : List UInt8) (b g : Nat) : Prop := ys = [] ∨ ∀ a, B = some a → a.block ≠ b ∧ a.block ≠ g
theorem Bs.old {w : World} {A : Option Addr} {n : Nat} {xs : List UInt8} (h : Bs w A n xs) : xs = [] ∨ ∀ a, A = some a → a.block < w.heap.size := by
 cases xs with
 | nil => exact .inl rfl
 | cons x xs =>
  right
  rintro a rfl
  obtain ⟨a', e, hc⟩ := h.cells 0 x rfl
  cases e
  have := lt_of_cell hc
  rwa [block_add] at this
theorem Bs.apart {w : World} {A : Option Addr} {n : Nat} {xs : List UInt8} (h : Bs w A n xs) {b g : Nat} (hb : w.heap.size ≤ b) (hg : w.heap.size ≤ g) : Apart A xs b g := by
 rcases h.old with h | h
 ·
  exact .inl h
 ·
  exact .inr fun a e => by have := h a e; omega
theorem Bs.past {w w1 : World} {b g : Nat} {B : Option Addr} {m : Nat} {ys : List UInt8} (hr : Bs w B m ys) (hc : Chg [b, g] w w1) (hB : Apart B ys b g) : Bs w1 B m ys := by
 rcases hB with rfl | hB
 ·
  have := hr.len
  subst this
  exact Bs.nil w1 B
 ·
  exact hr.chg hc (fun a e => by have := hB a e; simp; exact this)
def OwnB (w : World) (A : Option Addr) (c : Nat) (xs : List UInt8) : Prop :=
 (A = none ∧ xs = [] ∧ c = 0) ∨ ∃ (g : Nat) (full : List UInt8), A = some ⟨g, 0, none⟩ ∧ w.heap[g]? = some (.cells (full.map bv).toArray 5 (0, 0)) ∧ full.length = c ∧ c ≤ maxLen ∧ xs.length ≤ c ∧ full.take xs.length = xs

theorem OwnB.none_ (w : World) : OwnB w none 0 [] := .inl ⟨rfl, rfl, rfl⟩
theorem OwnB.form {w : World} {A : Option Addr} {c : Nat} {xs : List UInt8} (h : OwnB w A c xs) :
  (A = none ∧ xs = [] ∧ c = 0) ∨ ∃ g cur, A = some ⟨g, 0, none⟩ ∧ w.heap[g]? = some (.cells cur 5 (0, 0)) ∧ xs.length ≤ c ∧ c ≤ maxLen ∧ cur.size = c ∧ cur.toList.take xs.length = xs.map bv := by
 rcases h with h | ⟨g, full, h1, h2, h3, h4, h5, h6⟩
 ·
  exact .inl h
 ·
  refine .inr ⟨g, _, h1, h2, h5, h4, by simpa using h3, ?_⟩
  show (full.map bv).take xs.length = _
  rw [← List.map_take, h6]
theorem OwnB.of {w : World} {g c : Nat} {full xs : List UInt8} (hg : w.heap[g]? = some (.cells (full.map bv).toArray 5 (0, 0))) (h1 : xs.length ≤ c) (h2 : c ≤ maxLen) (h3 : full.length = c) (h4 : full.take xs.length = xs) :
 OwnB w (some ⟨g, 0, none⟩) c xs := .inr ⟨g, full, rfl, hg, h3, h2, h1, h4⟩
theorem OwnB.cap {w : World} {A : Option Addr} {c : Nat} {xs : List UInt8} (h : OwnB w A c xs) : xs.length ≤ c ∧ c ≤ maxLen := by
 rcases h.form with ⟨_, rfl, rfl⟩ | ⟨_, _, _, _, h1, h2, _⟩
 ·
  simp [maxLen]
 ·
  exact ⟨h1, h2⟩
theorem OwnB.reads {w : World} {A : Option Addr} {c : Nat} {xs : List UInt8} (h : OwnB w A c xs) : Bs w A xs.length xs := by
 refine ⟨rfl, fun j u hj => ?_⟩
 rcases h.form with ⟨_, rfl, _⟩ | ⟨g, cur, rfl, hg, _, _, _, ht⟩
 ·
  simp at hj
 ·
  refine ⟨_, rfl, ?_⟩
  have hl : j < xs.length := (List.getElem?_eq_some_iff.1 hj).1
  have e : (cur.toList.take xs.length)[j]? = some (bv u) := by rw [ht]; simp [hj]
  rw [List.getElem?_take, if_pos hl] at e
  rw [add_zero_lit]
  simp [World.cell?, hg] at e ⊢
  exact e
theorem OwnB.keep {w w' : World} {A : Option Addr} {c : Nat} {xs : List UInt8} (h : OwnB w A c xs) (hk : ∀ g o, A = some ⟨g, 0, none⟩ → w.heap[g]? = some o → w'.heap[g]? = some o) : OwnB w' A c xs := by
 rcases h with h | ⟨g, full, h1, h2, r⟩
 ·
  exact .inl h
 ·
  exact .inr ⟨g, full, h1, hk g _ h1 h2, r⟩
theorem OwnB.chg {S : List Nat} {w w' : World} {A : Option Addr} {c : Nat} {xs : List UInt8} (h : OwnB w A c xs) (hc : Chg S w w') (hn : ∀ a, A = some a → a.block ∉ S) : OwnB w' A c xs :=
 h.keep fun _ _ e ho => hc.at_ ho (hn _ e)

theorem OwnB.ne {w : World} {A : Option Addr} {c : Nat} {xs : List UInt8} (h : OwnB w A c xs) {b : Nat} {cs : Array Value} {t : TypeId} {fr : Nat × Nat} (hb : w.heap[b]? = some (.cells cs t fr)) (ht : t ≠ 5) : ∀ a, A = some a → a.block ≠ b := by
 rintro a rfl e
 rcases h.form with ⟨h, _⟩ | ⟨g', cur, h, h4, _⟩
 ·
  cases h
 ·
  cases h
  subst e
  rw [hb] at h4
  cases h4
  exact ht rfl
theorem grown_at {w w' : World} {A : Option Addr} {b : Nat} {o : Obj} (hg : w.grownBy w' (A.map (·.block))) (hb : w.heap[b]? = some o) (hn : ∀ a, A = some a → a.block ≠ b) : w'.heap[b]? = some o :=
 (hg.block b (lt_of_heap hb) (fun e => by
  cases A with
  | none => cases e
  | some a => simp at e; exact hn a rfl e.symm)).trans hb
theorem cell_of {w : World} {b : Nat} {cs : Array Value} {t : TypeId} {fr : Nat × Nat} (h : w.heap[b]? = some (.cells cs t fr)) (j : Nat) : w.cell? ⟨b, j, none⟩ = cs[j]? := by simp [World.cell?, h]
theorem ce1 {w : World} {g : Nat} {xa : Value} {r : List Value} {T : TypeId} {q : Nat × Nat} (h : w.heap[g]? = some (.cells (xa :: r).toArray T q)) : w.cell? ⟨g, 0, none⟩ = some xa := cell_of h 0
theorem ce2 {w : World} {g : Nat} {xa xb : Value} {r : List Value} {T : TypeId} {q : Nat × Nat} (h : w.heap[g]? = some (.cells (xa :: xb :: r).toArray T q)) : w.cell? ⟨g, 0, none⟩ = some xa ∧ w.cell? ⟨g, 1, none⟩ = some xb := ⟨cell_of h 0, cell_of h 1⟩
theorem ce3 {w : World} {g : Nat} {xa xb xc : Value} {r : List Value} {T : TypeId} {q : Nat × Nat} (h : w.heap[g]? = some (.cells (xa :: xb :: xc :: r).toArray T q)) : w.cell? ⟨g, 0, none⟩ = some xa ∧ w.cell? ⟨g, 1, none⟩ = some xb ∧ w.cell? ⟨g, 2, none⟩ = some xc := ⟨cell_of h 0, cell_of h 1, cell_of h 2⟩
theorem ce4 {w : World} {g : Nat} {xa xb xc xd : Value} {r : List Value} {T : TypeId} {q : Nat × Nat} (h : w.heap[g]? = some (.cells (xa :: xb :: xc :: xd :: r).toArray T q)) : w.cell? ⟨g, 0, none⟩ = some xa ∧ w.cell? ⟨g, 1, none⟩ = some xb ∧ w.cell? ⟨g, 2, none⟩ = some xc ∧ w.cell? ⟨g, 3, none⟩ = some xd := ⟨cell_of h 0, cell_of h 1, cell_of h 2, cell_of h 3⟩
theorem ce7 {w : World} {g : Nat} {xa xb xc xd xe xf xg : Value} {r : List Value} {T : TypeId} {q : Nat × Nat} (h : w.heap[g]? = some (.cells (xa :: xb :: xc :: xd :: xe :: xf :: xg :: r).toArray T q)) : w.cell? ⟨g, 0, none⟩ = some xa ∧ w.cell? ⟨g, 1, none⟩ = some xb ∧ w.cell? ⟨g, 2, none⟩ = some xc ∧ w.cell? ⟨g, 3, none⟩ = some xd ∧ w.cell? ⟨g, 4, none⟩ = some xe ∧ w.cell? ⟨g, 5, none⟩ = some xf ∧ w.cell? ⟨g, 6, none⟩ = some xg := ⟨cell_of h 0, cell_of h 1, cell_of h 2, cell_of h 3, cell_of h 4, cell_of h 5, cell_of h 6⟩
theorem free_of {w : World} {b : Nat} {cs : Array Value} {t : TypeId} (h : w.heap[b]? = some (.cells cs t (0, 0))) (j : Nat) : w.frozen? ⟨b, j, none⟩ = false := by simp [World.frozen?, h]

def strOf (ys : List UInt8) : ByteArray := ⟨ys.toArray⟩
theorem strOf_data (ys : List UInt8) : (strOf ys).data.toList = ys := by simp [strOf]
theorem strOf_size (ys : List UInt8) : (strOf ys).size = ys.length := by simp [strOf, ByteArray.size]
@[go_sem] theorem strOf_toList (ys : List UInt8) : (strOf ys).toList = ys := ByteArray.toList_mk ys
theorem run_str (w : World) {A : Option Addr} {n c : Nat} {ys : List UInt8} (h : Bs w A n ys) : (convert 36 9 (.slice A n c)).run Tryz.prog w = .ok (.string (strOf ys)) w := by
 have hn := h.len
 subst hn
 cases A with
 | none =>
  have hy : ys = [] := by
   cases ys with
   | nil => rfl
   | cons y ys => obtain ⟨a, h, _⟩ := h.cells 0 y rfl; cases h
  subst hy
  exact run_convert_bytes_nil w 36 5 Tryz.underlying36 Tryz.underlying5 _ c 9 Tryz.underlying9
 | some a =>
  refine run_convert_bytes_back w 36 9 5 a c ys Tryz.underlying36 Tryz.underlying5 Tryz.underlying9 (fun j hj => ?_)
  obtain ⟨a', e, hc⟩ := h.cells j _ (List.getElem?_eq_getElem hj)
  cases e
  exact hc

theorem info8 : (Tryz.prog.info? 5).map (fun i => (i.zero, i.size, i.bytes)) = some (some (.int .u8 0), 1, 1) := by kernel_rfl

theorem zeros_bv (n : Nat) : Builtin.zeroCells (Value.int .u8 0).cells n = ((List.replicate n (0 : UInt8)).map bv).toArray := by
 apply Array.toList_inj.1
 rw [List.map_replicate]
 have hz : bv 0 = .int .u8 0 := rfl
 rw [hz]
 apply List.ext_getElem
 ·
  simp [Builtin.zeroCells, Value.cells]
 ·
  intro i h1 h2
  simp [Builtin.zeroCells, Value.cells, Nat.mod_one]

set_option maxRecDepth 100000 in
theorem run_app (w : World) (ty : TypeId) {A : Option Addr} {c : Nat} {xs : List UInt8} (hown : OwnB w A c xs) {B : Option Addr} {m d : Nat} {ys : List UInt8} (hr : Bs w B m ys) (hlen : xs.length + m ≤ 140737488355327) :
  ∃ A' c' w', (Builtin.append_ #[36, 36] ty #[.slice A xs.length c, .slice B m d]).run Tryz.prog w = .ok (.slice A' (xs.length + m) c') w' ∧ OwnB w' A' c' (xs ++ ys) ∧
   w.grownBy w' (A.map (·.block)) ∧ (A' = A ∨ A' = some ⟨w.heap.size, 0, none⟩) := by
 obtain ⟨i0, hi, hz0, hz1, hz2⟩ := info_parts info8
 have hm := hr.len
 subst hm
 rcases B with _ | ad
 ·
  have hy : ys = [] := by
   cases ys with
   | nil => rfl
   | cons y ys => obtain ⟨a, h, _⟩ := hr.cells 0 y rfl; cases h
  subst hy
  have h0 : (Builtin.append_ #[36, 36] ty #[.slice A xs.length c, .slice none 0 d]).run Tryz.prog w = .ok (.slice A xs.length c) w := by
   rcases hown.form with ⟨rfl, rfl, rfl⟩ | ⟨g, cur, rfl, _, hnc, _⟩
   ·
    simp [Builtin.append_, run_underlying Tryz.underlying36, sizeOf, typeInfo, hi, Builtin.lenOf, Builtin.firstCells]
   ·
    simp [Builtin.append_, run_underlying Tryz.underlying36, sizeOf, typeInfo, hi, Builtin.lenOf, Builtin.firstCells, hnc, storeCells]
  exact ⟨A, c, w, h0, by simpa using hown, World.grownBy.refl w _, .inl rfl⟩
 have hnews : ∀ j u, (ys.map bv)[j]? = some u → w.cell? (ad.add j) = some u := by
  intro j u hu
  rw [List.getElem?_map, Option.map_eq_some_iff] at hu
  obtain ⟨y, hy, rfl⟩ := hu
  obtain ⟨a, e, hc⟩ := hr.cells j y hy
  cases e
  exact hc
 have hl : (ys.map bv).length = ys.length * i0.size := by rw [hz1]; simp
 have h1 : ∀ u ∈ ys.map bv, u.oneCell' = true := by intro u hu; rw [List.mem_map] at hu; obtain ⟨c, _, rfl⟩ := hu; rfl
 have grown : ∀ (old : Nat) (row : Option Nat), let cap' := grownCap w (xs.length + ys.length) old 5
   OwnB (w.drew.alloc (.cells ((xs.map bv).toArray ++ (ys.map bv).toArray ++ Builtin.zeroCells (Value.int .u8 0).cells (cap' - (xs.length + ys.length))) 5)) (some ⟨w.heap.size, 0, none⟩) cap' (xs ++ ys) ∧
   w.grownBy (w.drew.alloc (.cells ((xs.map bv).toArray ++ (ys.map bv).toArray ++ Builtin.zeroCells (Value.int .u8 0).cells (cap' - (xs.length + ys.length))) 5)) row := by
  intro old row cap'
  have hge : xs.length + ys.length ≤ cap' := grownCap_ge w _ old _
  have hcm : cap' ≤ maxLen := grownCap_le_maxLen w _ old _ (by simp only [maxLen]; omega)
  have e : ((xs ++ ys ++ List.replicate (cap' - (xs.length + ys.length)) (0 : UInt8)).map bv).toArray = (xs.map bv).toArray ++ (ys.map bv).toArray ++ ((List.replicate (cap' - (xs.length + ys.length)) (0 : UInt8)).map bv).toArray := by
   simp only [List.map_append, List.append_toArray]
  refine ⟨.of (full := xs ++ ys ++ List.replicate (cap' - (xs.length + ys.length)) 0) ?_ (by simpa using hge) hcm (by simp; omega) List.take_left, ⟨rfl, rfl, rfl, by simp, fun k hk _ => Below.heap_alloc w.drew _ k hk⟩⟩
  rw [zeros_bv, e]
  exact heap_alloc_new w.drew _
 rcases hown with ⟨rfl, rfl, rfl⟩ | ⟨g, full, rfl, hg, hfl, hcm, hnc, htake⟩
 ·
  by_cases hy : ys.length = 0
  ·
   have hn : ys = [] := List.eq_nil_of_length_eq_zero hy
   subst hn
   refine ⟨none, 0, w, ?_, OwnB.none_ w, World.grownBy.refl w _, .inl rfl⟩
   simp [Builtin.append_, run_underlying Tryz.underlying36, sizeOf, typeInfo, hi, Builtin.lenOf, Builtin.firstCells, loadCells, loadCellsFrom]
  ·
   have hr := run_append_nil (P := Tryz.prog) w 36 ty 5 i0 (.int .u8 0) Tryz.underlying36 hi hz0 ad ys.length d (ys.map bv) hl hnews (by omega) (by simp at hlen; omega) (by rw [hz2]; simp at hlen; omega)
   have hgr := grown 0 none
   simp only [List.length_nil, Nat.zero_add, List.map_nil, List.nil_append, Array.empty_append] at hgr ⊢
   exact ⟨_, _, _, hr, hgr.1, hgr.2, .inr rfl⟩
 ·
  by_cases hroom : xs.length + ys.length ≤ c
  ·
   have hfit : xs.length * i0.size + (ys.map bv).length ≤ (full.map bv).toArray.size := by rw [hz1]; simp; omega
   have hr := run_append_room (P := Tryz.prog) w 36 ty 5 i0 Tryz.underlying36 hi g xs.length c _ hg ad ys.length d (ys.map bv) hl hnews h1 hroom hfit
   refine ⟨_, _, _, hr, .of (full := full.take xs.length ++ ys ++ full.drop (xs.length + ys.length)) ?_ (by simpa using hroom) hcm (by simp; omega) (by rw [htake, ← List.length_append]; exact List.take_left), ⟨rfl, rfl, rfl, by simp, fun k hk hne => setRow_other w g k _ (fun e => hne (by simp [e]))⟩, .inl rfl⟩
   have hs := setRow_heap w g _ ((full.map bv).toArray.toList.take (xs.length * i0.size) ++ ys.map bv ++ (full.map bv).toArray.toList.drop (xs.length * i0.size + (ys.map bv).length)).toArray _ _ hg
   rw [hs]
   congr 2
   rw [hz1]
   simp
  ·
   have holds : ∀ j u, (xs.map bv)[j]? = some u → w.cell? ((⟨g, 0, none⟩ : Addr).add j) = some u := by
    intro j u hu
    rw [List.getElem?_map, Option.map_eq_some_iff] at hu
    obtain ⟨y, hy, rfl⟩ := hu
    obtain ⟨a, e, hc⟩ := (OwnB.of hg hnc hcm hfl htake).reads.cells j y hy
    cases e
    exact hc
   have hr := run_append_grow (P := Tryz.prog) w 36 ty 5 i0 (.int .u8 0) Tryz.underlying36 hi hz0 ⟨g, 0, none⟩ xs.length c (xs.map bv) (by rw [hz1]; simp) holds ad ys.length d (ys.map bv) hl hnews (by omega) (by omega)
    (growslice_fits (by omega) (by rw [hz2]; omega))
   have hgr := grown c (some g)
   exact ⟨_, _, _, hr, hgr.1, hgr.2, .inr rfl⟩

theorem wpList_app {ops : Array Oper} {rest : List Oper} {o : Oper} {a : Act} {w : World} {Q : Exit → Act → World → Prop} (hgd : o.guard = none) (s x : Operand)
  (ho : o.op = .call { callee := .builtin .append, args := #[s, x], argTypes := #[36, 36] })
  {A : Option Addr} {c n : Nat} {xs : List UInt8} (hs : a.eval s = .slice A n c) (hown : OwnB w A c xs) (hn : xs.length = n) {B : Option Addr} {m d : Nat} {ys : List UInt8} (hx : a.eval x = .slice B m d) (hr : Bs w B m ys) (hlen : n + m ≤ 140737488355327)
  (h : ∀ A' c' w', OwnB w' A' c' (xs ++ ys) → w.grownBy w' (A.map (·.block)) → (A' = A ∨ A' = some ⟨w.heap.size, 0, none⟩) → wpList Tryz.prog ops Q rest (a.put o.dst (.slice A' (n + m) c')) w') : wpList Tryz.prog ops Q (o :: rest) a w :=
 wpList_plain hgd fun _ hK => by
  subst hn
  obtain ⟨A', c', w', hrun, h2, h3, h4⟩ := run_app w o.type hown (d := d) hr hlen
  unfold Oper.wp execOp
  simp only [ho, resolve, invoke, builtin, Sem.run_bind, Sem.run_pure, Result.andThen_ok, List.map_toArray, List.map_cons, List.map_nil, hs, hx, hrun]
  exact hK _ _ (h A' c' w' h2 h3 h4)
end
section
open Go.RowKit

theorem news1 (w : World) (o : Obj) : ∃ w' : World, w' = w.alloc o ∧ Chg [] w w' ∧ w'.heap[w.heap.size]? = some o := ⟨_, rfl, (Chg.refl [] w).alloc _, heap_alloc_new w o⟩
theorem news2 (w : World) (o o' : Obj) : ∃ w' : World, w' = (w.alloc o).alloc o' ∧ Chg [] w w' ∧ w'.heap[w.heap.size]? = some o ∧ w'.heap[w.heap.size + 1]? = some o' :=
 ⟨_, rfl, ((Chg.refl [] w).alloc _).alloc _, ((Chg.refl [] _).alloc o').at_ (heap_alloc_new w o) (by simp), heap_alloc_two w o o'⟩
theorem news3 (w : World) (o o' o'' : Obj) : ∃ w' : World, w' = ((w.alloc o).alloc o').alloc o'' ∧ Chg [] w w' ∧ w'.heap[w.heap.size]? = some o ∧ w'.heap[w.heap.size + 1]? = some o' ∧ w'.heap[w.heap.size + 2]? = some o'' := by
 refine ⟨_, rfl, (((Chg.refl [] w).alloc _).alloc _).alloc _, ?_, ?_, ?_⟩
 ·
  exact ((Chg.refl [] _).alloc o'').at_ (((Chg.refl [] _).alloc o').at_ (heap_alloc_new w o) (by simp)) (by simp)
 ·
  exact ((Chg.refl [] _).alloc o'').at_ (heap_alloc_two w o o') (by simp)
 ·
  have := heap_alloc_two (w.alloc o) o' o''
  rwa [World.size_alloc] at this
theorem Chg.put {w w' : World} {s : Nat} (h : Chg [] w w') (hs : w.heap.size ≤ s) (j : Nat) (v : Value) : Chg [] w (w'.setCell ⟨s, j, none⟩ v) := h.setCell (.inr hs) _
theorem Chg.put' {w w' : World} {s : Nat} (h : Chg [s] w w') (j : Nat) (v : Value) : Chg [s] w (w'.setCell ⟨s, j, none⟩ v) := h.setCell (.inl (by simp)) _

def blkOf (A : Option Addr) : List Nat := A.toList.map (·.block)
theorem mem_blkOf {A : Option Addr} {a : Addr} (h : A = some a) : a.block ∈ blkOf A := by subst h; simp [blkOf]
theorem of_blkOf {A : Option Addr} {i : Nat} (h : i ∈ blkOf A) : ∃ a, A = some a ∧ a.block = i := by
 cases A with
 | none => simp [blkOf] at h
 | some a => simp [blkOf] at h; exact ⟨a, rfl, h.symm⟩
theorem notin_hi {A : Option Addr} {n s : Nat} (h : ∀ a, A = some a → a.block < n) (hs : n ≤ s) : s ∉ blkOf A := fun hm => by
 obtain ⟨a, e, rfl⟩ := of_blkOf hm
 have := h a e
 omega
theorem blkOf_new {A : Option Addr} {n : Nat} (h : ∀ a, A = some a → n ≤ a.block) : ∀ i ∈ blkOf A, n ≤ i := fun i hm => by
 obtain ⟨a, e, rfl⟩ := of_blkOf hm
 exact h a e
theorem OwnB.lt {w : World} {A : Option Addr} {c : Nat} {xs : List UInt8} (h : OwnB w A c xs) : ∀ a, A = some a → a.block < w.heap.size := by
 rintro a rfl
 rcases h with ⟨h, _, _⟩ | ⟨g, full, h, hg, _⟩
 ·
  cases h
 ·
  cases h; exact lt_of_heap hg
section
variable {P : Program} {ops : Array Oper} {Q : Exit → Act → World → Prop} {md : Region.Mode} {S : World → Prop}
theorem step_yes (i d : Nat) (v : Value) {oi : Oper} {fuel : Nat} {listed : Array Bool} {a : Act} {w : World} (hS : S w) (hi : ops[i]? = some oi) (hd : oi.dst = some d)
  (hs : Region.noSelect ops = true) (hf : Region.free md ops listed i = true) (hr : (Region.ready md ops listed).contains i = true)
  (hQ : ∀ c a w, Q (.panic c) (a.put (some d) v) w → Q (.panic c) a w) (hw : Region.wanted oi (yielded ops a.tmps) = true) (hy : ∀ w, S w → (execOp a.eval oi).run P w = .ok (.value v) w)
  (h : wpAnyH P md ops Q S fuel (listed.setIfInBounds i true) (a.put (some d) v) w) : wpAnyH P md ops Q S (fuel + 1) listed a w :=
 wpAnyH_take hi hs hf hr (by rw [hd]; exact hQ) (.inl ⟨hw, hy⟩) hS (by rw [hd]; exact h)
theorem step_no (i d : Nat) {oi : Oper} {fuel : Nat} {listed : Array Bool} {a : Act} {w : World} (hS : S w) (hi : ops[i]? = some oi) (hd : oi.dst = some d)
  (hs : Region.noSelect ops = true) (hf : Region.free md ops listed i = true) (hr : (Region.ready md ops listed).contains i = true)
  (hQ : ∀ c a w, Q (.panic c) (a.put (some d) undef) w → Q (.panic c) a w) (hw : Region.wanted oi (yielded ops a.tmps) = false)
  (h : wpAnyH P md ops Q S fuel (listed.setIfInBounds i true) (a.put (some d) undef) w) : wpAnyH P md ops Q S (fuel + 1) listed a w :=
 wpAnyH_take hi hs hf hr (by rw [hd]; exact hQ) (.inr ⟨hw, rfl⟩) hS (by rw [hd]; exact h)
theorem sy (i d : Nat) {v : Value} {oi : Oper} {fuel : Nat} {listed : Array Bool} {a : Act} {w : World} (hi : ops[i]? = some oi) (hd : oi.dst = some d)
  (h : wpAnyH P md ops Q S fuel (listed.setIfInBounds i true) (a.put (some d) v) w)
  (hS : S w := by assumption) (hs : Region.noSelect ops = true := by kernel_rfl) (hf : Region.free md ops listed i = true := by kernel_rfl) (hr : (Region.ready md ops listed).contains i = true := by kernel_rfl)
  (hQ : ∀ c a w, Q (.panic c) (a.put (some d) v) w → Q (.panic c) a w := by exact fun _ _ _ h => h) (hw : Region.wanted oi (yielded ops a.tmps) = true := by rfl)
  (hy : ∀ w, S w → (execOp a.eval oi).run P w = .ok (.value v) w := by intro w hSw; (try dsimp only at hSw); go_simp; try with_reducible rfl) : wpAnyH P md ops Q S (fuel + 1) listed a w :=
 step_yes i d v hS hi hd hs hf hr hQ hw hy h
theorem sn (i d : Nat) {oi : Oper} {fuel : Nat} {listed : Array Bool} {a : Act} {w : World} (hi : ops[i]? = some oi) (hd : oi.dst = some d)
  (h : wpAnyH P md ops Q S fuel (listed.setIfInBounds i true) (a.put (some d) undef) w)
  (hS : S w := by assumption) (hs : Region.noSelect ops = true := by kernel_rfl) (hf : Region.free md ops listed i = true := by kernel_rfl) (hr : (Region.ready md ops listed).contains i = true := by kernel_rfl)
  (hQ : ∀ c a w, Q (.panic c) (a.put (some d) undef) w → Q (.panic c) a w := by exact fun _ _ _ h => h) (hw : Region.wanted oi (yielded ops a.tmps) = false := by rfl) : wpAnyH P md ops Q S (fuel + 1) listed a w :=
 step_no i d hS hi hd hs hf hr hQ hw h
end
theorem sA {α : Type} (l : List α) (i : Nat) (a : α) : l.toArray.setIfInBounds i a = (l.set i a).toArray := List.setIfInBounds_toArray ..
theorem s0 {α : Type} (x y : α) (l : List α) : (x :: l).set 0 y = y :: l := rfl
theorem s1 {α : Type} (x y : α) (l : List α) (n : Nat) : (x :: l).set (n + 1) y = x :: l.set n y := rfl
end
section
open Go.RowKit

structure Kpt (n : Nat) (T : List Nat) (w w' : World) : Prop where
 os : w'.os = w.os
 tape : w'.tape = w.tape
 output : w'.output = w.output
 size : w.heap.size ≤ w'.heap.size
 block : ∀ k, k < n → k ∉ T → w'.heap[k]? = w.heap[k]?
theorem Kpt.refl (n : Nat) (T : List Nat) (w : World) : Kpt n T w w := ⟨rfl, rfl, rfl, Nat.le_refl _, fun _ _ _ => rfl⟩
theorem Kpt.trans {n : Nat} {T : List Nat} {a b c : World} (h : Kpt n T a b) (k : Kpt n T b c) : Kpt n T a c :=
 ⟨k.os.trans h.os, k.tape.trans h.tape, k.output.trans h.output, Nat.le_trans h.size k.size, fun i hi hn => (k.block i hi hn).trans (h.block i hi hn)⟩
theorem Kpt.of_chg {n : Nat} {T : List Nat} {a b : World} (h : Chg T a b) (hn : n ≤ a.heap.size) : Kpt n T a b :=
 ⟨h.os, h.tape, h.output, h.size, fun k hk hT => h.block k (by omega) hT⟩
theorem Kpt.of_below {n m : Nat} {T : List Nat} {a b : World} (h : Below m a b) (hn : n ≤ m) : Kpt n T a b :=
 ⟨h.os, h.tape, h.output, h.size, fun k hk _ => h.block k (by omega)⟩
theorem Kpt.mono {n m : Nat} {S T : List Nat} {a b : World} (h : Kpt m S a b) (hn : n ≤ m) (hS : ∀ x ∈ S, x ∈ T) : Kpt n T a b :=
 ⟨h.os, h.tape, h.output, h.size, fun k hk hT => h.block k (by omega) (fun hs => hT (hS k hs))⟩
theorem Kpt.chg {T : List Nat} {a b : World} (h : Kpt a.heap.size T a b) : Chg T a b := ⟨h.os, h.tape, h.output, h.size, fun k hk hT => h.block k hk hT⟩

def brkPost {α : Type} (I : List α → World → Prop) (Ix : Code → List α → World → Prop) (n₁ : Nat) (T : List Nat) (xs : List α) (W : World) : Exit → Act → World → Prop
 | .normal, _, W' => KeepsOthers W W' ∧ Kpt n₁ T W W' ∧ I xs W'
 | .ret, _, W' => KeepsOthers W W' ∧ Ix .ret xs W'
 | .exit id, _, W' => KeepsOthers W W' ∧ Ix (.exit id) xs W'
 | _, _, _ => False

theorem range_brk {α : Type} {P : Program} {n : Nat} {g : Operand} {ps : Array Tmp} {assign body : Code} {Q : Exit → Act → World → Prop} {a : Act} {w : World} {gf : Nat} {lb : Array Value}
  (hg : a.eval g = .func (.func gf) #[] lb) (eg : ∀ args w, (callFunc gf args).run P w = .ok (.enter gf args) w) {encs : α → Array Value} {S Sp : List α → Prop} {Ex : List α → α → World → Prop} {n₁ : Nat} (hn₁ : n₁ ≤ w.heap.size) {Si T : List Nat} (hSi : ∀ x ∈ Si, x < w.heap.size)
  (hseq : ∀ (l : Nat) (J Jx : List α → World → Prop) (W : World), Below w.heap.size w W → (∀ pre A B, J pre A → Kpt W.heap.size Si A B → J pre B) → (∀ pre A B, Jx pre A → Kpt W.heap.size Si A B → Jx pre B) →
   (∀ pre x W1, J pre W1 → Ex pre x W1 → YieldAt Fence.wide (n - 1 - 1) P l (encs x) W1 fun e W' => (e = .returned (.bool true) ∧ J (pre ++ [x]) W' ∧ Kpt n₁ T W1 W') ∨ (e = .returned (.bool false) ∧ Jx (pre ++ [x]) W')) →
   J [] W → CallsIn Fence.wide (n - 1) P gf (#[.func (.yield l) #[] #[]] ++ lb) W fun e W' => (∃ v, e = .returned v) ∧ ((∃ xs, S xs ∧ J xs W') ∨ ∃ xs, Sp xs ∧ Jx xs W'))
  (hps : ∀ x, (encs x).size = ps.size) (I : List α → World → Prop) (Ix : Code → List α → World → Prop) (hI : ∀ pre A B, I pre A → Kpt w.heap.size Si A B → I pre B) (hIx : ∀ c pre A B, Ix c pre A → Kpt w.heap.size Si A B → Ix c pre B) (h0 : I [] w)
  (hEx : ∀ pre x W l o o', W.heap[l]? = some o → o.isCells = false → Ex pre x W → Ex pre x (W.putObj l o')) (a₁ : α → Act)
  (hassign : ∀ (l : Nat) (x : α) (W : World) (K : Act → World → Prop), K (a₁ x) W →
   assign.wpIn (Fence.wide.inRound l) (n - 1 - 1) P (Exit.then K (fun _ _ _ => False)) { tmps := (ps.zip (encs x)).foldl (fun t (p, v) => t.setIfInBounds p v) a.tmps, defers := [] } W)
  (hbody : ∀ (l : Nat) (pre : List α) (x : α) (W : World), I pre W → Ex pre x W → body.wpIn (Fence.wide.inRound l) (n - 1 - 1) P (brkPost I Ix n₁ T (pre ++ [x]) W) (a₁ x) W)
  (hdone : ∀ (D : Nat) (xs : List α) (W : World), w.heap.size ≤ D → S xs → I xs W → W.heap[D]? = some (.deferred (some [])) → Q .normal { a with defers := { target := .collected D, args := #[] } :: a.defers } W)
  (hstop : ∀ (D : Nat) (c : Code) (xs : List α) (W : World), w.heap.size ≤ D → Sp xs → Ix c xs W → W.heap[D]? = some (.deferred (some [])) → c.wpIn Fence.wide n P Q { a with defers := { target := .collected D, args := #[] } :: a.defers } W) :
  (Code.rangeFunc g ps assign body).wpIn Fence.wide n P Q a w := by
 refine wpIn_rangeFunc ?_
 intro fn hfn
 obtain ⟨rc, hrc⟩ : ∃ rc : LoopState → Option Code → Loop, rc = fun st pe => { state := st, pending := pe, fn, tmps := a.tmps, params := ps, assign, body, defers := w.heap.size } := ⟨_, rfl⟩
 obtain ⟨V, hV, hcV, hD0, hL0⟩ := news2 w (.deferred (some [])) (.loop (rc .ready none))
 have hsV : V.heap.size = w.heap.size + 2 := by rw [hV]; simp
 have bV : Below w.heap.size w V := by rw [hV]; exact ((Below.refl _ w).alloc (Nat.le_refl _) _).alloc (by simp) _
 refine ⟨w.heap.size + 1, [{ target := .collected w.heap.size, args := #[] }], V, { target := .fn (.func gf) lb, args := #[.func (.yield (w.heap.size + 1)) #[] #[]] }, V, gf,
  #[.func (.yield (w.heap.size + 1)) #[] #[]] ++ lb, V, ?_, ?_, fun _ _ => trivial, ?_, fun h => by simp [Fence.wide] at h, ?_⟩
 ·
  rw [hV, hrc]; exact run_enterLoop_outer _ _ _ _ _
 ·
  simp only [resolve, hg]
  simp [go_sem]
 ·
  simp [invoke, go_sem, eg]
 ·
  -- the record and the row of deferred calls, turned or not, lie at or behind w's end
  have turn : ∀ (W : World) (o : Obj) (o' : Obj), W.heap[w.heap.size + 1]? = some o → o.isCells = false → o.isWalk = false → ∀ m, m ≤ w.heap.size → Below m W (W.putObj (w.heap.size + 1) o') :=
   fun W o o' h hc hw m hm => belowK_b (w := w) hm W _ o o' (by omega) h hc hw
  have far : ∀ k, w.heap.size ≤ k → k ∉ Si := fun k hk h => by have := hSi k h; omega
  refine (hseq (w.heap.size + 1) (fun pre W => I pre W ∧ W.heap[w.heap.size + 1]? = some (.loop (rc .ready none)) ∧ W.heap[w.heap.size]? = some (.deferred (some [])))
   (fun pre W => ∃ c, Ix c pre W ∧ W.heap[w.heap.size + 1]? = some (.loop (rc .done (some c))) ∧ W.heap[w.heap.size]? = some (.deferred (some []))) V bV ?_ ?_ ?_
   ⟨hI _ _ _ h0 (Kpt.of_below bV (Nat.le_refl _)), hL0, hD0⟩).mono ?_
  ·
   rintro pre A B ⟨hi, hl, hk⟩ hb
   exact ⟨hI _ _ _ hi (hb.mono (by omega) (fun _ h => h)), (hb.block _ (by omega) (far _ (by omega))).trans hl, (hb.block _ (by omega) (far _ (Nat.le_refl _))).trans hk⟩
  ·
   rintro pre A B ⟨c, hi, hl, hk⟩ hb
   exact ⟨c, hIx _ _ _ _ hi (hb.mono (by omega) (fun _ h => h)), (hb.block _ (by omega) (far _ (by omega))).trans hl, (hb.block _ (by omega) (far _ (Nat.le_refl _))).trans hk⟩
  ·
   rintro pre x W ⟨hi, hl, hk⟩ hx
   have hlt := lt_of_heap hl
   have hy := run_yield (P := P) (args := encs x) hl (by rw [hrc]; exact hps x)
   rw [hrc] at hy
   refine ⟨fn, _, assign, body, hy, roundIn_of_wpIn hfn (hassign _ x W _ ⟨_, run_beginRound hl (by rw [hrc]), ?_⟩)⟩
   have hl2 : (W.putObj (w.heap.size + 1) (.loop { rc .ready none with state := .busy })).heap[w.heap.size + 1]? = some (.loop { rc .ready none with state := .busy }) := World.putObj_heap_same hlt
   have hk2 : (W.putObj (w.heap.size + 1) (.loop { rc .ready none with state := .busy })).heap[w.heap.size]? = some (.deferred (some [])) := (World.putObj_heap_other (by omega)).trans hk
   have b2 := turn W _ (.loop { rc .ready none with state := .busy }) hl rfl rfl
   refine wpIn_mono (hbody _ pre x _ (hI _ _ _ hi (Kpt.of_below (b2 _ (Nat.le_refl _)) (Nat.le_refl _))) (hEx pre x W _ _ _ hl rfl hx)) ?_
   have fin : ∀ (c : Code) (W3 : World), KeepsOthers (W.putObj (w.heap.size + 1) (.loop { rc .ready none with state := .busy })) W3 → Ix c (pre ++ [x]) W3 →
     ∃ v w', (Instr.endRound (w.heap.size + 1) (some c)).run P W3 = .ok v w' ∧ ((Ending.returned v = .returned (.bool true) ∧ (I (pre ++ [x]) w' ∧ w'.heap[w.heap.size + 1]? = some (.loop (rc .ready none)) ∧ w'.heap[w.heap.size]? = some (.deferred (some []))) ∧ Kpt n₁ T W w') ∨
      (Ending.returned v = .returned (.bool false) ∧ ∃ c, Ix c (pre ++ [x]) w' ∧ w'.heap[w.heap.size + 1]? = some (.loop (rc .done (some c))) ∧ w'.heap[w.heap.size]? = some (.deferred (some [])))) := by
    intro c W3 hk3 hi3
    have hl3 := hk3.same _ _ hl2 rfl
    have hd3 := hk3.same _ _ hk2 rfl
    have hr := run_endRound (P := P) (some c) hl3
    have b4 := turn W3 _ (.loop (rc .done (some c))) hl3 rfl rfl
    refine ⟨_, _, hr, .inr ⟨rfl, c, ?_, ?_, ?_⟩⟩
    ·
     have := hIx _ _ _ _ hi3 (Kpt.of_below (b4 _ (Nat.le_refl _)) (Nat.le_refl _))
     rw [hrc] at this ⊢
     exact this
    ·
     rw [hrc]; exact World.putObj_heap_same (lt_of_heap hl3)
    ·
     exact (World.putObj_heap_other (by omega)).trans hd3
   rintro e a3 W3 hp
   cases e with
   | normal =>
    obtain ⟨hk3, hb3, hi3⟩ := hp
    have hl3 := hk3.same _ _ hl2 rfl
    have hd3 := hk3.same _ _ hk2 rfl
    have hr := run_endRound (P := P) none hl3
    have b4 := turn W3 _ (.loop (rc .ready none)) hl3 rfl rfl
    refine ⟨_, _, hr, .inl ⟨rfl, ⟨?_, ?_, ?_⟩, ?_⟩⟩
    ·
     have := hI _ _ _ hi3 (Kpt.of_below (b4 _ (Nat.le_refl _)) (Nat.le_refl _))
     rw [hrc] at this ⊢
     exact this
    ·
     rw [hrc]; exact World.putObj_heap_same (lt_of_heap hl3)
    ·
     exact (World.putObj_heap_other (by omega)).trans hd3
    ·
     have := ((Kpt.of_below (T := T) (b2 _ hn₁) (Nat.le_refl _)).trans hb3).trans (Kpt.of_below (b4 _ hn₁) (Nat.le_refl _))
     rw [hrc] at this ⊢
     exact this
   | ret => exact fin .ret W3 hp.1 hp.2
   | exit id => exact fin (.exit id) W3 hp.1 hp.2
   | goto t => exact hp.elim
   | panic ch => exact hp.elim
   | outgrown => exact hp.elim
  ·
   rintro e W2 ⟨⟨v, rfl⟩, (⟨xs, hS, hi, hl, hk⟩ | ⟨xs, hS, c, hi, hl, hk⟩)⟩
   ·
    refine ⟨none, _, by have := run_endLoop (P := P) hl (by rw [hrc]; simp); rw [hrc] at this; exact this, hdone _ xs _ (Nat.le_refl _) hS ?_ ((World.putObj_heap_other (by omega)).trans hk)⟩
    exact hI _ _ _ hi (Kpt.of_below (turn W2 _ _ hl rfl rfl _ (Nat.le_refl _)) (Nat.le_refl _))
   ·
    refine ⟨some c, _, by have := run_endLoop (P := P) hl (by rw [hrc]; simp); rw [hrc] at this; exact this, hstop _ c xs _ (Nat.le_refl _) hS ?_ ((World.putObj_heap_other (by omega)).trans hk)⟩
    exact hIx _ _ _ _ hi (Kpt.of_below (turn W2 _ _ hl rfl rfl _ (Nat.le_refl _)) (Nat.le_refl _))
end
section
open Go.RowKit

structure RowTy (α : Type) where
 enc : α → List Value
 k : Nat
 T : TypeId
 TS : TypeId
 z : α
 zv : Value
 bytes : Nat
 klen : ∀ x, (enc x).length = k
 one : ∀ x, ∀ v ∈ enc x, v.oneCell' = true
 zc : zv.cells.toList = enc z
 kpos : 0 < k
 bpos : bytes ≤ 200
 under : Tryz.prog.underlying TS = some (.slice T)
 info : (Tryz.prog.info? T).map (fun i => (i.zero, i.size, i.bytes)) = some (some zv, k, bytes)

section
variable {α : Type} (R : RowTy α)
def RowTy.flat (xs : List α) : List Value := xs.flatMap R.enc
theorem RowTy.flat_nil : R.flat [] = [] := rfl
theorem RowTy.flat_app (xs ys : List α) : R.flat (xs ++ ys) = R.flat xs ++ R.flat ys := by simp [RowTy.flat]
theorem RowTy.flat_cons (x : α) (ys : List α) : R.flat (x :: ys) = R.enc x ++ R.flat ys := by simp [RowTy.flat]
theorem RowTy.flat_len (xs : List α) : (R.flat xs).length = xs.length * R.k := by
 induction xs with
 | nil => simp [RowTy.flat]
 | cons x xs ih => rw [R.flat_cons, List.length_append, R.klen, ih, List.length_cons, Nat.succ_mul]; omega
theorem RowTy.flat_one (xs : List α) : ∀ v ∈ R.flat xs, v.oneCell' = true := by
 intro v hv
 simp only [RowTy.flat, List.mem_flatMap] at hv
 obtain ⟨x, _, hx⟩ := hv
 exact R.one x v hx
theorem RowTy.flat_at : ∀ (xs : List α) (j i : Nat) (x : α), xs[j]? = some x → i < R.k → (R.flat xs)[j * R.k + i]? = (R.enc x)[i]?
 | [], j, i, x, h, _ => by simp at h
 | y :: ys, 0, i, x, h, hi => by
  simp at h
  subst h
  rw [R.flat_cons, Nat.zero_mul, Nat.zero_add, List.getElem?_append_left (by rw [R.klen]; exact hi)]
 | y :: ys, j + 1, i, x, h, hi => by
  have h' : ys[j]? = some x := by simpa using h
  rw [R.flat_cons, List.getElem?_append_right (by rw [R.klen, Nat.succ_mul]; omega), R.klen]
  rw [show (j + 1) * R.k + i - R.k = j * R.k + i by rw [Nat.succ_mul]; omega]
  exact RowTy.flat_at ys j i x h' hi
theorem RowTy.flat_take (xs : List α) (j : Nat) : R.flat (xs.take j) = (R.flat xs).take (j * R.k) := by
 by_cases h : j ≤ xs.length
 ·
  have e : (R.flat (xs.take j)).length = j * R.k := by rw [R.flat_len, List.length_take, Nat.min_eq_left h]
  have e2 : R.flat xs = R.flat (xs.take j) ++ R.flat (xs.drop j) := by rw [← R.flat_app, List.take_append_drop]
  rw [e2, ← e, List.take_left]
 ·
  rw [List.take_of_length_le (l := xs) (by omega), List.take_of_length_le]
  rw [R.flat_len]
  exact Nat.mul_le_mul_right _ (by omega)
theorem RowTy.flat_drop (xs : List α) (j : Nat) : R.flat (xs.drop j) = (R.flat xs).drop (j * R.k) := by
 by_cases h : j ≤ xs.length
 ·
  have e : (R.flat (xs.take j)).length = j * R.k := by rw [R.flat_len, List.length_take, Nat.min_eq_left h]
  have e2 : R.flat xs = R.flat (xs.take j) ++ R.flat (xs.drop j) := by rw [← R.flat_app, List.take_append_drop]
  rw [e2, ← e, List.drop_left]
 ·
  rw [List.drop_of_length_le (by omega), R.flat_nil, List.drop_of_length_le]
  rw [R.flat_len]
  exact Nat.mul_le_mul_right _ (by omega)
theorem RowTy.flat_ext (l : List Value) (ys : List α) (hl : l.length = ys.length * R.k) (h : ∀ q i x, ys[q]? = some x → i < R.k → l[q * R.k + i]? = (R.enc x)[i]?) : l = R.flat ys := by
 apply List.ext_getElem?
 intro p
 by_cases hp : p < ys.length * R.k
 ·
  have hq : p / R.k < ys.length := (Nat.div_lt_iff_lt_mul R.kpos).2 hp
  have hm : p % R.k < R.k := Nat.mod_lt _ R.kpos
  have e := h (p / R.k) (p % R.k) _ (List.getElem?_eq_getElem hq) hm
  have e2 := R.flat_at ys (p / R.k) (p % R.k) _ (List.getElem?_eq_getElem hq) hm
  rw [Nat.div_add_mod' p R.k] at e e2
  rw [e, e2]
 ·
  rw [List.getElem?_eq_none (by omega), List.getElem?_eq_none (by rw [R.flat_len]; omega)]
theorem RowTy.zeros (n : Nat) : Builtin.zeroCells R.zv.cells n = (R.flat (List.replicate n R.z)).toArray := by
 have hk : R.zv.cells.size = R.k := by rw [← Array.length_toList, R.zc, R.klen]
 apply Array.toList_inj.1
 apply List.ext_getElem?
 intro i
 by_cases hi : i < n * R.k
 ·
  have hd : i / R.k < n := (Nat.div_lt_iff_lt_mul R.kpos).2 hi
  have hm : i % R.k < R.k := Nat.mod_lt _ R.kpos
  have h2 := R.flat_at (List.replicate n R.z) (i / R.k) (i % R.k) R.z (by simp [hd]) hm
  rw [Nat.div_add_mod' i R.k] at h2
  rw [show (R.flat (List.replicate n R.z)).toArray.toList = R.flat (List.replicate n R.z) by simp, h2, ← R.zc]
  simp [Builtin.zeroCells, hk, hi, getElem!_pos, hm]
 ·
  rw [List.getElem?_eq_none (by simp [Builtin.zeroCells, hk]; omega), List.getElem?_eq_none (by simp [R.flat_len]; omega)]

structure RdK (w : World) (A : Option Addr) (n : Nat) (xs : List α) : Prop where
 len : xs.length = n
 cells : ∀ j v, (R.flat xs)[j]? = some v → ∃ a, A = some a ∧ w.cell? (a.add j) = some v
def OwnK (w : World) (A : Option Addr) (c : Nat) (xs : List α) : Prop :=
 (A = none ∧ xs = [] ∧ c = 0) ∨ ∃ (g : Nat) (full : List α), A = some ⟨g, 0, none⟩ ∧ w.heap[g]? = some (.cells (R.flat full).toArray R.T (0, 0)) ∧ full.length = c ∧ c ≤ maxLen ∧ xs.length ≤ c ∧ full.take xs.length = xs
end
section
variable {α : Type} {R : RowTy α}
theorem RdK.nil (w : World) (A : Option Addr) : RdK R w A 0 [] := ⟨rfl, by simp [RowTy.flat]⟩
theorem RdK.chg {S : List Nat} {w w' : World} {A : Option Addr} {n : Nat} {xs : List α} (h : RdK R w A n xs) (hc : Chg S w w') (hn : ∀ a, A = some a → a.block ∉ S) : RdK R w' A n xs :=
 ⟨h.len, fun j u hj => by
  obtain ⟨a, ha, hcell⟩ := h.cells j u hj
  exact ⟨a, ha, hc.cell hcell (by rw [block_add]; exact hn a ha)⟩⟩
theorem RdK.old {w : World} {A : Option Addr} {n : Nat} {xs : List α} (h : RdK R w A n xs) : xs = [] ∨ ∀ a, A = some a → a.block < w.heap.size := by
 cases xs with
 | nil => exact .inl rfl
 | cons x xs =>
  right
  rintro a rfl
  have h0 : ∃ v, (R.flat (x :: xs))[0]? = some v := by
   have : 0 < (R.flat (x :: xs)).length := by rw [R.flat_len, List.length_cons]; exact Nat.mul_pos (by omega) R.kpos
   exact ⟨_, List.getElem?_eq_getElem this⟩
  obtain ⟨v, hv⟩ := h0
  obtain ⟨a', e, hc⟩ := h.cells 0 v hv
  cases e
  have := lt_of_cell hc
  rwa [block_add] at this
theorem RdK.at_ {w : World} {g o n : Nat} {xs : List α} (h : RdK R w (some ⟨g, o, none⟩) n xs) (j i : Nat) (x : α) (v : Value) (hx : xs[j]? = some x) (hi : (R.enc x)[i]? = some v) : w.cell? ⟨g, o + (j * R.k + i), none⟩ = some v := by
 have hik : i < R.k := by rw [← R.klen x]; exact (List.getElem?_eq_some_iff.1 hi).1
 obtain ⟨a, e, hc⟩ := h.cells _ v ((R.flat_at xs j i x hx hik).trans hi)
 cases e
 rwa [add_lit] at hc
theorem RdK.line {w : World} {A : Option Addr} {n : Nat} {xs : List α} (h : RdK R w A n xs) (h0 : 0 < n) : ∃ g o, A = some ⟨g, o, none⟩ ∧ g < w.heap.size := by
 have hl := h.len
 have hp : 0 < (R.flat xs).length := by rw [R.flat_len]; exact Nat.mul_pos (by omega) R.kpos
 obtain ⟨a, rfl, hc⟩ := h.cells 0 _ (List.getElem?_eq_getElem hp)
 have hsp := World.cell?_spot hc
 have hb := lt_of_cell hc
 obtain ⟨g, o, sp⟩ := a
 have hsp : sp = none := by simpa [Addr.add] using hsp
 subst hsp
 rw [block_add] at hb
 exact ⟨g, o, rfl, hb⟩
theorem OwnK.none_ (w : World) : OwnK R w none 0 [] := .inl ⟨rfl, rfl, rfl⟩
theorem OwnK.of {w : World} {g c : Nat} {full xs : List α} (hg : w.heap[g]? = some (.cells (R.flat full).toArray R.T (0, 0))) (h1 : xs.length ≤ c) (h2 : c ≤ maxLen) (h3 : full.length = c) (h4 : full.take xs.length = xs) :
 OwnK R w (some ⟨g, 0, none⟩) c xs := .inr ⟨g, full, rfl, hg, h3, h2, h1, h4⟩
theorem OwnK.cap {w : World} {A : Option Addr} {c : Nat} {xs : List α} (h : OwnK R w A c xs) : xs.length ≤ c ∧ c ≤ maxLen := by
 rcases h with ⟨_, rfl, rfl⟩ | ⟨_, _, _, _, _, h1, h2, _⟩
 ·
  simp [maxLen]
 ·
  exact ⟨h2, h1⟩
theorem OwnK.reads {w : World} {A : Option Addr} {c : Nat} {xs : List α} (h : OwnK R w A c xs) : RdK R w A xs.length xs := by
 refine ⟨rfl, fun j u hj => ?_⟩
 rcases h with ⟨_, rfl, _⟩ | ⟨g, full, rfl, hg, _, _, _, ht⟩
 ·
  simp [RowTy.flat] at hj
 ·
  refine ⟨_, rfl, ?_⟩
  rw [← ht, R.flat_take, List.getElem?_take] at hj
  split at hj
  ·
   rw [add_zero_lit, cell_of hg]; simpa using hj
  ·
   cases hj
theorem OwnK.chg {S : List Nat} {w w' : World} {A : Option Addr} {c : Nat} {xs : List α} (h : OwnK R w A c xs) (hc : Chg S w w') (hn : ∀ a, A = some a → a.block ∉ S) : OwnK R w' A c xs := by
 rcases h with h | ⟨g, full, h1, h2, r⟩
 ·
  exact .inl h
 ·
  exact .inr ⟨g, full, h1, hc.at_ h2 (hn _ h1), r⟩
theorem OwnK.lt {w : World} {A : Option Addr} {c : Nat} {xs : List α} (h : OwnK R w A c xs) : ∀ a, A = some a → a.block < w.heap.size := by
 rintro a rfl
 rcases h with ⟨h, _, _⟩ | ⟨g, full, h, hg, _⟩
 ·
  cases h
 ·
  cases h; exact lt_of_heap hg
theorem OwnK.shape {w : World} {A : Option Addr} {c : Nat} {xs : List α} (h : OwnK R w A c xs) : A = none ∧ xs = [] ∧ c = 0 ∨ ∃ g, A = some ⟨g, 0, none⟩ ∧ g < w.heap.size := by
 rcases h with h | ⟨g, full, h, hg, _⟩
 ·
  exact .inl h
 ·
  exact .inr ⟨g, h, lt_of_heap hg⟩
theorem OwnK.take {w : World} {A : Option Addr} {c : Nat} {xs : List α} (h : OwnK R w A c xs) (j : Nat) : OwnK R w A c (xs.take j) := by
 rcases h with ⟨h1, rfl, h3⟩ | ⟨g, full, h1, h2, h3, h4, h5, h6⟩
 ·
  exact .inl ⟨h1, by simp, h3⟩
 ·
  refine .inr ⟨g, full, h1, h2, h3, h4, by rw [List.length_take]; omega, ?_⟩
  rw [List.length_take]
  conv => rhs; rw [← h6, List.take_take]
theorem RdK.part {w : World} {g o n : Nat} {xs : List α} (h : RdK R w (some ⟨g, o, none⟩) n xs) (q m : Nat) (hq : q + m ≤ n) : RdK R w (some ⟨g, o + q * R.k, none⟩) m ((xs.drop q).take m) := by
 have hl := h.len
 refine ⟨by simp; omega, fun j v hj => ⟨_, rfl, ?_⟩⟩
 rw [R.flat_take, R.flat_drop, List.getElem?_take] at hj
 split at hj
 ·
  rw [List.getElem?_drop] at hj
  obtain ⟨a, e, hc⟩ := h.cells _ v hj
  cases e
  rw [add_lit] at hc ⊢
  rwa [Nat.add_assoc]
 ·
  cases hj

set_option maxRecDepth 100000 in
theorem run_appK (w : World) (ty : TypeId) {A : Option Addr} {c : Nat} {xs : List α} (hown : OwnK R w A c xs) {B : Option Addr} {m d : Nat} {ys : List α} (hr : RdK R w B m ys) (hlen : (xs.length + m) * 400 ≤ 140737488355327) :
  ∃ A' c' w', (Builtin.append_ #[R.TS, R.TS] ty #[.slice A xs.length c, .slice B m d]).run Tryz.prog w = .ok (.slice A' (xs.length + m) c') w' ∧ OwnK R w' A' c' (xs ++ ys) ∧
   w.grownBy w' (A.map (·.block)) ∧ (A' = A ∨ A' = some ⟨w.heap.size, 0, none⟩) := by
 obtain ⟨i0, hi, hz0, hz1, hz2⟩ := info_parts R.info
 have hbp := R.bpos
 have hzs : R.zv.cells.size = R.k := by rw [← Array.length_toList, R.zc, R.klen]
 have hm := hr.len
 subst hm
 rcases B with _ | ad
 ·
  have hy : ys = [] := by
   cases ys with
   | nil => rfl
   | cons y ys =>
    have : 0 < (R.flat (y :: ys)).length := by rw [R.flat_len, List.length_cons]; exact Nat.mul_pos (by omega) R.kpos
    obtain ⟨a, h, _⟩ := hr.cells 0 _ (List.getElem?_eq_getElem this); cases h
  subst hy
  have h0 : (Builtin.append_ #[R.TS, R.TS] ty #[.slice A xs.length c, .slice none 0 d]).run Tryz.prog w = .ok (.slice A xs.length c) w := by
   rcases hown with ⟨rfl, rfl, rfl⟩ | ⟨g, full, rfl, _, _, _, hnc, _⟩
   ·
    simp [Builtin.append_, run_underlying R.under, sizeOf, typeInfo, hi, Builtin.lenOf, Builtin.firstCells]
   ·
    simp [Builtin.append_, run_underlying R.under, sizeOf, typeInfo, hi, Builtin.lenOf, Builtin.firstCells, hnc, storeCells]
  exact ⟨A, c, w, h0, by simpa using hown, World.grownBy.refl w _, .inl rfl⟩
 have hnews : ∀ j u, (R.flat ys)[j]? = some u → w.cell? (ad.add j) = some u := by
  intro j u hu
  obtain ⟨a, e, hc⟩ := hr.cells j u hu
  cases e
  exact hc
 have hl : (R.flat ys).length = ys.length * i0.size := by rw [hz1, R.flat_len]
 have h1 := R.flat_one ys
 have hbnd : ∀ q, q * 400 ≤ 140737488355327 → (q * 2) * i0.bytes ≤ 281474976710656 := fun q hq => by
  rw [hz2]
  have := Nat.mul_le_mul_left (q * 2) hbp
  omega
 have grown : ∀ (old : Nat) (row : Option Nat), let cap' := grownCap w (xs.length + ys.length) old R.T
   OwnK R (w.drew.alloc (.cells ((R.flat xs).toArray ++ (R.flat ys).toArray ++ Builtin.zeroCells R.zv.cells (cap' - (xs.length + ys.length))) R.T)) (some ⟨w.heap.size, 0, none⟩) cap' (xs ++ ys) ∧
   w.grownBy (w.drew.alloc (.cells ((R.flat xs).toArray ++ (R.flat ys).toArray ++ Builtin.zeroCells R.zv.cells (cap' - (xs.length + ys.length))) R.T)) row := by
  intro old row cap'
  have hge : xs.length + ys.length ≤ cap' := grownCap_ge w _ old _
  have hcm : cap' ≤ maxLen := grownCap_le_maxLen w _ old _ (by simp only [maxLen]; omega)
  have e : (R.flat (xs ++ ys ++ List.replicate (cap' - (xs.length + ys.length)) R.z)).toArray = (R.flat xs).toArray ++ (R.flat ys).toArray ++ (R.flat (List.replicate (cap' - (xs.length + ys.length)) R.z)).toArray := by
   rw [R.flat_app, R.flat_app, List.append_toArray, List.append_toArray]
  refine ⟨.of (full := xs ++ ys ++ List.replicate (cap' - (xs.length + ys.length)) R.z) ?_ (by simpa using hge) hcm (by simp; omega) List.take_left, ⟨rfl, rfl, rfl, by simp, fun k hk _ => Below.heap_alloc w.drew _ k hk⟩⟩
  rw [R.zeros, e]
  exact heap_alloc_new w.drew _
 rcases hown with ⟨rfl, rfl, rfl⟩ | ⟨g, full, rfl, hg, hfl, hcm, hnc, htake⟩
 ·
  by_cases hy : ys.length = 0
  ·
   have hn : ys = [] := List.eq_nil_of_length_eq_zero hy
   subst hn
   refine ⟨none, 0, w, ?_, OwnK.none_ w, World.grownBy.refl w _, .inl rfl⟩
   simp [Builtin.append_, run_underlying R.under, sizeOf, typeInfo, hi, Builtin.lenOf, Builtin.firstCells, loadCells, loadCellsFrom]
  ·
   have hbn := hbnd ys.length (by simpa using hlen)
   have hr := run_append_nil (P := Tryz.prog) w R.TS ty R.T i0 R.zv R.under hi hz0 ad ys.length d (R.flat ys) hl hnews (by omega) (by simp at hlen; omega) (Nat.le_trans (Nat.mul_le_mul_right _ (by omega)) hbn)
   have hgr := grown 0 none
   simp only [List.length_nil, Nat.zero_add, RowTy.flat_nil, List.nil_append, Array.empty_append] at hgr ⊢
   exact ⟨_, _, _, hr, hgr.1, hgr.2, .inr rfl⟩
 ·
  by_cases hroom : xs.length + ys.length ≤ c
  ·
   have hfit : xs.length * i0.size + (R.flat ys).length ≤ (R.flat full).toArray.size := by
    rw [hz1, R.flat_len, List.size_toArray, R.flat_len, ← Nat.add_mul]; exact Nat.mul_le_mul_right _ (by omega)
   have hr := run_append_room (P := Tryz.prog) w R.TS ty R.T i0 R.under hi g xs.length c _ hg ad ys.length d (R.flat ys) hl hnews h1 hroom hfit
   refine ⟨_, _, _, hr, .of (full := full.take xs.length ++ ys ++ full.drop (xs.length + ys.length)) ?_ (by simpa using hroom) hcm (by simp; omega) (by rw [htake, ← List.length_append]; exact List.take_left), ⟨rfl, rfl, rfl, by simp, fun k hk hne => setRow_other w g k _ (fun e => hne (by simp [e]))⟩, .inl rfl⟩
   have hs := setRow_heap w g _ ((R.flat full).toArray.toList.take (xs.length * i0.size) ++ R.flat ys ++ (R.flat full).toArray.toList.drop (xs.length * i0.size + (R.flat ys).length)).toArray _ _ hg
   rw [hs, R.flat_app, R.flat_app, R.flat_take, R.flat_drop, hz1, R.flat_len, Nat.add_mul]
  ·
   have holds : ∀ j u, (R.flat xs)[j]? = some u → w.cell? ((⟨g, 0, none⟩ : Addr).add j) = some u := by
    intro j u hu
    obtain ⟨a, e, hc⟩ := (OwnK.of hg hnc hcm hfl htake).reads.cells j u hu
    cases e
    exact hc
   have hr := run_append_grow (P := Tryz.prog) w R.TS ty R.T i0 R.zv R.under hi hz0 ⟨g, 0, none⟩ xs.length c (R.flat xs) (by rw [hz1, R.flat_len]) holds ad ys.length d (R.flat ys) hl hnews (by omega) (by omega)
    (growslice_fits (by omega) (by rw [hz2]; have := Nat.mul_le_mul_left (xs.length + ys.length) hbp; omega))
   have hgr := grown c (some g)
   exact ⟨_, _, _, hr, hgr.1, hgr.2, .inr rfl⟩
theorem wpList_appK {ops : Array Oper} {rest : List Oper} {o : Oper} {a : Act} {w : World} {Q : Exit → Act → World → Prop} (hgd : o.guard = none) (s x : Operand)
  (ho : o.op = .call { callee := .builtin .append, args := #[s, x], argTypes := #[R.TS, R.TS] })
  {A : Option Addr} {c n : Nat} {xs : List α} (hs : a.eval s = .slice A n c) (hown : OwnK R w A c xs) (hn : xs.length = n) {B : Option Addr} {m d : Nat} {ys : List α} (hx : a.eval x = .slice B m d) (hr : RdK R w B m ys) (hlen : (n + m) * 400 ≤ 140737488355327)
  (h : ∀ A' c' w', OwnK R w' A' c' (xs ++ ys) → w.grownBy w' (A.map (·.block)) → (A' = A ∨ A' = some ⟨w.heap.size, 0, none⟩) → wpList Tryz.prog ops Q rest (a.put o.dst (.slice A' (n + m) c')) w') : wpList Tryz.prog ops Q (o :: rest) a w :=
 wpList_plain hgd fun _ hK => by
  subst hn
  obtain ⟨A', c', w', hrun, h2, h3, h4⟩ := run_appK w o.type hown (d := d) hr hlen
  unfold Oper.wp execOp
  simp only [ho, resolve, invoke, builtin, Sem.run_bind, Sem.run_pure, Result.andThen_ok, List.map_toArray, List.map_cons, List.map_nil, hs, hx, hrun]
  exact hK _ _ (h A' c' w' h2 h3 h4)
theorem step_appK {ops : Array Oper} {o : Oper} {a : Act} {w : World} {K : Act → World → Prop} {Q : Exit → Act → World → Prop} {E : Prop} (hgd : o.guard = none) (s x : Operand)
  (ho : o.op = .call { callee := .builtin .append, args := #[s, x], argTypes := #[R.TS, R.TS] })
  {A : Option Addr} {c n : Nat} {xs : List α} (hs : a.eval s = .slice A n c) (hown : OwnK R w A c xs) (hn : xs.length = n) {B : Option Addr} {m d : Nat} {ys : List α} (hx : a.eval x = .slice B m d) (hr : RdK R w B m ys) (hlen : (n + m) * 400 ≤ 140737488355327)
  (h : ∀ A' c' w', OwnK R w' A' c' (xs ++ ys) → w.grownBy w' (A.map (·.block)) → (A' = A ∨ A' = some ⟨w.heap.size, 0, none⟩) → K (a.put o.dst (.slice A' (n + m) c')) w') :
  if Region.wanted o (yielded ops a.tmps) = true then Oper.wp Tryz.prog o a w K Q else E := by
 have hw : Region.wanted o (yielded ops a.tmps) = true := by simp [Region.wanted, hgd]
 rw [if_pos hw]
 subst hn
 obtain ⟨A', c', w', hrun, h2, h3, h4⟩ := run_appK w o.type hown (d := d) hr hlen
 unfold Oper.wp execOp
 simp only [ho, resolve, invoke, builtin, Sem.run_bind, Sem.run_pure, Result.andThen_ok, List.map_toArray, List.map_cons, List.map_nil, hs, hx, hrun]
 exact h A' c' w' h2 h3 h4
end
end
section
open Go.RowKit
attribute [local go_sem] Oper.semAt_some
theorem wpListIn_appK {α : Type} {R : RowTy α} {F : Fence} {nF : Nat} {ops : Array Oper} {rest : List Oper} {o : Oper} {a : Act} {w : World} {Q : Exit → Act → World → Prop} (hgd : o.guard = none) (s x : Operand)
  (ho : o.op = .call { callee := .builtin .append, args := #[s, x], argTypes := #[R.TS, R.TS] })
  {A : Option Addr} {c n : Nat} {xs : List α} (hs : a.eval s = .slice A n c) (hown : OwnK R w A c xs) (hn : xs.length = n) {B : Option Addr} {m d : Nat} {ys : List α} (hx : a.eval x = .slice B m d) (hr : RdK R w B m ys) (hlen : (n + m) * 400 ≤ 140737488355327)
  (h : ∀ A' c' w', OwnK R w' A' c' (xs ++ ys) → w.grownBy w' (A.map (·.block)) → (A' = A ∨ A' = some ⟨w.heap.size, 0, none⟩) → wpListIn F nF Tryz.prog ops Q rest (a.put o.dst (.slice A' (n + m) c')) w') : wpListIn F nF Tryz.prog ops Q (o :: rest) a w := by
 refine wpListIn_plain hgd fun K hK' => ?_
 subst hn
 obtain ⟨A', c', w', hrun, h2, h3, h4⟩ := run_appK w o.type hown (d := d) hr hlen
 unfold Oper.wpIn
 refine ⟨?_, ?_⟩
 ·
  simp [Oper.about, ho, resolve, Target.leads, Sem.run_pure]
 ·
  rw [Oper.semAt_plain F _ _ (by rw [ho]; intro c hc'; cases hc')]
  simp [execOp, ho, resolve, invoke, builtin, hs, hx, hrun, Result.andThen]
  exact hK' _ _ (h A' c' w' h2 h3 h4)
theorem KeepsOthers.grown {w w' : World} {row : Option Nat} (h : w.grownBy w' row) (hr : ∀ k o, row = some k → w.heap[k]? = some o → o.isCells = true) : KeepsOthers w w' :=
 ⟨h.size, fun k o hk ho => (h.block k (lt_of_heap hk) (fun e => by rw [hr k o e.symm hk] at ho; cases ho)).trans hk⟩
theorem KeepsOthers.alloc1 (w : World) (o : Obj) : KeepsOthers w (w.alloc o) := ⟨by simp, fun k o' hk _ => (Below.heap_alloc _ _ _ (lt_of_heap hk)).trans hk⟩
theorem OwnK.cells {α : Type} {R : RowTy α} {w : World} {A : Option Addr} {c : Nat} {xs : List α} (h : OwnK R w A c xs) : ∀ k o, A.map (·.block) = some k → w.heap[k]? = some o → o.isCells = true := by
 intro k o hk ho
 rcases h with ⟨rfl, _, _⟩ | ⟨g, full, rfl, hg, _⟩
 ·
  cases hk
 ·
  simp at hk; subst hk; rw [hg] at ho; cases ho; rfl
theorem OwnK.putl {α : Type} {R : RowTy α} {w : World} {A : Option Addr} {c : Nat} {xs : List α} (h : OwnK R w A c xs) {l : Nat} {o o' : Obj} (hl : w.heap[l]? = some o) (ho : o.isCells = false) : OwnK R (w.putObj l o') A c xs := by
 rcases h with h | ⟨g, full, h1, h2, r⟩
 ·
  exact .inl h
 ·
  refine .inr ⟨g, full, h1, ?_, r⟩
  rw [World.putObj_heap_other (fun e => by subst e; rw [h2] at hl; cases hl; cases ho)]
  exact h2
theorem Chg.putl {S : List Nat} {a w : World} (h : Chg S a w) {l : Nat} {o' : Obj} (hl : a.heap.size ≤ l) : Chg S a (w.putObj l o') :=
 ⟨h.os, h.tape, h.output, by have := h.size; simp [World.putObj]; omega, fun k hk hn => (World.putObj_heap_other (by omega)).trans (h.block k hk hn)⟩
theorem Kpt.grown {n : Nat} {T : List Nat} {w w' : World} {row : Option Nat} (g : w.grownBy w' row) (hn : n ≤ w.heap.size) (hr : ∀ k, row = some k → n ≤ k ∨ k ∈ T) : Kpt n T w w' :=
 ⟨g.os, g.tape, g.output, g.size, fun k hk hT => g.block k (by omega) (fun e => by
  rcases hr k e.symm with h | h
  ·
   omega
  ·
   exact hT h)⟩
end
section
open Go.RowKit

theorem tab_get (i : Nat) (h : i < Lib.len8tab.size) : ((Lib.len8tab[i]).toNat : Int) = (Lib.bitLen i : Int) := by
 have hi : i < 256 := by rw [Lib.len8tab_size] at h; exact h
 have e := Lib.len8_of (i : Int) (by omega) (by omega)
 simp only [Lib.len8, Int.toNat_natCast] at e
 rw [← e, ByteArray.getElem?_lt' _ _ h, Option.getD_some]

theorem len_way (k : Nat) (x y : Int) (h0 : 0 ≤ x) (h1 : x ≤ 18446744073709551615) (hy : y = x / (2 ^ k : Nat)) (hk : k = 0 ∨ 1 ≤ y) (h2 : y < 256) (h : y.toNat < Lib.len8tab.size) :
  wrap64 ((k : Int) + wrap64 ((Lib.len8tab[y.toNat]).toNat : Int)) = (Lib.bitLen x.toNat : Int) := by
 have hb := Lib.bitLen_le8' y (by rw [hy]; exact Int.ediv_nonneg h0 (Int.natCast_nonneg _)) (by omega)
 rw [tab_get]
 have e : Lib.bitLen x.toNat = k + Lib.bitLen y.toNat := by
  rcases hk with rfl | hk
  ·
   simp at hy; subst hy; simp
  ·
   have hd : y.toNat = x.toNat / 2 ^ k := by
    subst hy
    obtain ⟨n, rfl⟩ := Int.eq_ofNat_of_zero_le h0
    rw [← Int.natCast_ediv]; exact Int.toNat_natCast _
   have hle : 2 ^ k ≤ x.toNat := by
    rcases Nat.lt_or_ge x.toNat (2 ^ k) with hlt | hge
    ·
     rw [Nat.div_eq_of_lt hlt] at hd; omega
    ·
     exact hge
   rw [hd]
   exact Lib.bitLen_shift k x.toNat hle (by omega)
 have hx := Lib.bitLen_le x.toNat 64 (by omega) (by omega)
 rw [e] at hx ⊢
 unfold wrap64
 omega

set_option maxRecDepth 100000 in
theorem len64_any (x : Int) (w : World) (h0 : 0 ≤ x) (h1 : x ≤ 18446744073709551615) :
  Calls Tryz.prog 148 #[.int .u64 x] w fun e w' => e = .returned (.int .i64 (Lib.bitLen x.toNat)) ∧ w = w' := by
 have hz : Lib.len8tab.size = 256 := by decide +kernel
 go_enter Tryz.func148, Tryz.ntmps148
 go_wp2
 all_goals (go_ret; refine ⟨congrArg Ending.returned (congrArg (Value.int IntKind.i64) ?_), rfl⟩)
 ·
  exact len_way 56 x _ h0 h1 (by omega) (by omega) (by omega) _
 ·
  exact len_way 48 x _ h0 h1 (by omega) (by omega) (by omega) _
 ·
  exact len_way 40 x _ h0 h1 (by omega) (by omega) (by omega) _
 ·
  exact len_way 32 x _ h0 h1 (by omega) (by omega) (by omega) _
 ·
  exact len_way 24 x _ h0 h1 (by omega) (by omega) (by omega) _
 ·
  exact len_way 16 x _ h0 h1 (by omega) (by omega) (by omega) _
 ·
  exact len_way 8 x _ h0 h1 (by omega) (by omega) (by omega) _
 ·
  have e := len_way 0 x _ h0 h1 (by omega) (by omega) (by omega) (by omega : x.toNat < Lib.len8tab.size)
  simpa using e
def nb (n : Nat) : Nat := (Lib.bitLen n + 7) / 8

theorem nb_le (n : Nat) (h : n < 18446744073709551616) : nb n ≤ 8 := by
 have := Lib.bitLen_le n 64 (by omega) (by omega)
 unfold nb; omega

def be : Nat → Nat → List UInt8
 | 0, _ => []
 | k + 1, n => UInt8.ofNat (n / 256 ^ k) :: be k n
theorem be_len : ∀ (k n : Nat), (be k n).length = k
 | 0, _ => rfl
 | k + 1, n => by simp [be, be_len k n]
def enc (n : Nat) : List UInt8 := UInt8.ofNat (nb n) :: be (nb n) n
theorem enc_len (n : Nat) : (enc n).length = 1 + nb n := by simp [enc, be_len]; omega

theorem width_any (x : Int) (w : World) (h0 : 0 ≤ x) (h1 : x ≤ 9223372036854775807) :
  Calls Tryz.prog 130 #[.int .i64 x] w fun e w' => e = .returned (.int .i64 (1 + (nb x.toNat : Int))) ∧ w = w' := by
 have hx := Lib.bitLen_le x.toNat 64 (by omega) (by omega)
 go_enter Tryz.func130, Tryz.ntmps130
 go_wp2_with (go_at_call 148; refine (len64_any _ _ (by omega) (by omega)).mono ?_; rintro e w' ⟨rfl, rfl⟩)
 go_ret
 refine ⟨congrArg Ending.returned (congrArg (Value.int IntKind.i64) ?_), rfl⟩
 unfold nb
 omega
end
section
open Go.RowKit

def Wrt (w : World) (b g : Nat) (xs : List UInt8) (e : Int) : Prop :=
 ∃ A c, w.heap[b]? = some (.cells #[.pointer (some ⟨b, 0, none⟩), .slice A xs.length c, .int .i64 e] 152 (0, 0)) ∧ OwnB w A c xs ∧ (A = none ∧ g = b ∨ A = some ⟨g, 0, none⟩)

theorem Wrt.chg {S : List Nat} {w w' : World} {b g : Nat} {xs : List UInt8} {e : Int} (h : Wrt w b g xs e) (hc : Chg S w w') (hb : b ∉ S) (hg : g ∉ S) : Wrt w' b g xs e := by
 obtain ⟨A, c, h1, h2, h3⟩ := h
 refine ⟨A, c, hc.at_ h1 hb, h2.chg hc ?_, h3⟩
 rintro a rfl
 rcases h3 with ⟨h3, _⟩ | h3
 ·
  cases h3
 ·
  cases h3; exact hg
theorem someW : (Tryz.prog.info? 152).isSome = true := by kernel_rfl
theorem eqlPW (a : Addr) (w : World) : (binOp .eql 115 (.pointer (some a)) (.pointer (some a))).run Tryz.prog w = .ok (.bool true) w := by
 obtain ⟨j, hj⟩ := Option.isSome_iff_exists.1 someW
 exact run_eql_ptr_same w a Tryz.underlying115 hj

theorem wrt_put {w w1 : World} {b g : Nat} {xs zs : List UInt8} {e : Int} {A A' : Option Addr} {c c' n : Nat} (h1 : w.heap[b]? = some (.cells #[.pointer (some ⟨b, 0, none⟩), .slice A xs.length c, .int .i64 e] 152 (0, 0))) (h2 : OwnB w A c xs)
    (h3 : A = none ∧ g = b ∨ A = some ⟨g, 0, none⟩) (own1 : OwnB w1 A' c' zs) (hg1 : w.grownBy w1 (A.map (·.block))) (hA1 : A' = A ∨ A' = some ⟨w.heap.size, 0, none⟩) (hn : n = zs.length) :
    ∃ g', Wrt (w1.setCell ⟨b, 1, none⟩ (.slice A' n c')) b g' zs e ∧ Chg [b, g] w (w1.setCell ⟨b, 1, none⟩ (.slice A' n c')) ∧ (g' = g ∨ w.heap.size ≤ g') := by
  subst hn
  have hne := h2.ne h1 (by decide)
  have hb := lt_of_heap h1
  have q1 := grown_at hg1 h1 hne
  have q2 := heap_setCell_same w1 b 1 _ _ (.slice A' zs.length c') q1
  have hne' := own1.ne q1 (by decide)
  have own2 : OwnB (w1.setCell ⟨b, 1, none⟩ (.slice A' zs.length c')) A' c' zs := own1.keep fun g o eA ho => by
    rw [Below.heap_setCell _ _ _ _ (by have := hne' _ eA; exact this)]; exact ho
  have hc : Chg [b, g] w (w1.setCell ⟨b, 1, none⟩ (.slice A' zs.length c')) :=
    ((Chg.refl _ _).grown hg1 (fun k hk => by
      rcases h3 with ⟨rfl, _⟩ | rfl
      · cases hk
      · simp at hk; subst hk; simp)).setCell (by simp) _
  rcases hA1 with rfl | rfl
  · exact ⟨g, ⟨A', c', by simpa using q2, own2, h3⟩, hc, .inl rfl⟩
  · exact ⟨w.heap.size, ⟨_, c', by simpa using q2, own2, .inr rfl⟩, hc, .inr (Nat.le_refl _)⟩

theorem put_any (w : World) (b g : Nat) (xs : List UInt8) (e : Int) (B : Option Addr) (m d : Nat) (ys : List UInt8) (h : Wrt w b g xs e) (hr : Bs w B m ys) (hlen : xs.length + m ≤ 140737488355327) :
  Calls Tryz.prog 131 #[.pointer (some ⟨b, 0, none⟩), .slice B m d] w fun r w' => r = .returned (.tuple #[]) ∧ ∃ g', Wrt w' b g' (xs ++ ys) e ∧ Chg [b, g] w w' ∧ (g' = g ∨ w.heap.size ≤ g') := by
 obtain ⟨A, c, h1, h2, h3⟩ := h
 have hne := h2.ne h1 (by decide)
 have k1 := cell_of h1 1
 simp only [gA, gY, gZ] at k1
 have H1 := h_ h1
 have H3 := h_ h3
 clear h1 h3
 go_enter Tryz.func131, Tryz.ntmps131
 go_wp2_with (at_builtin; refine wpList_app rfl _ _ rfl rfl h2 rfl rfl hr hlen ?_; intro A' c' w1 own1 hg1 hA1; have q1 := grown_at hg1 H1.out hne; have Q1 := h_ q1; have q2 := cell_of q1 1; have q3 := free_of q1 1; simp only [gA, gY, gZ] at q2; clear q1)
 go_end0
 exact ⟨rfl, wrt_put H1.out h2 H3.out own1 hg1 hA1 (by simp [hr.len])⟩

theorem new_any (w : World) :
  Calls Tryz.prog 86 #[] w fun r w' => r = .returned (.pointer (some ⟨w.heap.size, 0, none⟩)) ∧ Wrt w' w.heap.size w.heap.size [] 0 ∧ Chg [] w w' := by
 go_enter Tryz.func86, Tryz.ntmps86
 go_wp2; go_ret
 exact ⟨rfl, ⟨none, 0, heap_alloc_new w _, OwnB.none_ _, .inl ⟨rfl, rfl⟩⟩, (Chg.refl _ _).alloc _⟩

theorem made_yes (w : World) (b g : Nat) (xs : List UInt8) (e : Int) (h : Wrt w b g xs e) :
  Calls Tryz.prog 128 #[.pointer (some ⟨b, 0, none⟩)] w fun e w' => e = .returned (.bool true) ∧ w = w' := by
 obtain ⟨A, c, h1, _, _⟩ := h
 have h0 := ce1 h1
 have H := h_ h1
 clear h1
 have h1 := eqlPW ⟨b, 0, none⟩
 go_enter Tryz.func128, Tryz.ntmps128
 go_wp2; go_ret
 exact ⟨rfl, rfl⟩

theorem u8_of (x : Int) (k : Nat) (h : x = (k : Int)) (hk : k < 256) : x = ((UInt8.ofNat k).toNat : Int) := by
 rw [UInt8.toNat_ofNat', Nat.mod_eq_of_lt hk]; exact h

theorem u8_shift (n k : Nat) : ((n : Int) / 2 ^ (8 * k) % 256) = ((UInt8.ofNat (n / 256 ^ k)).toNat : Int) := by
 rw [UInt8.toNat_ofNat']
 have e : (2 : Int) ^ (8 * k) = ((256 ^ k : Nat) : Int) := by
  rw [Int.pow_mul, show (2 : Int) ^ 8 = ((256 : Nat) : Int) from rfl, ← Int.natCast_pow]
 rw [e]
 omega

def Between (w wr : World) (b g : Nat) (xs : List UInt8) (e : Int) : Prop := ∃ g', Wrt wr b g' xs e ∧ Chg [b, g] w wr ∧ (g' = g ∨ w.heap.size ≤ g')

theorem Between.put {w wr w' : World} {b g g' : Nat} {xs ys : List UInt8} {e : Int} (hc : Chg [b, g] w wr) (hg : g' = g ∨ w.heap.size ≤ g') {o : Obj}
  (h : ∃ g2, Wrt w' b g2 (xs ++ ys) e ∧ Chg [b, g'] (wr.alloc o) w' ∧ (g2 = g' ∨ (wr.alloc o).heap.size ≤ g2)) : Between w w' b g (xs ++ ys) e := by
 obtain ⟨g2, h1, h2, h3⟩ := h
 refine ⟨g2, h1, (hc.alloc o).trans' h2 ?_, ?_⟩
 ·
  intro i hi
  simp at hi ⊢
  rcases hi with rfl | rfl
  ·
   exact .inl (.inl rfl)
  ·
   rcases hg with rfl | hg
   ·
    exact .inl (.inr rfl)
   ·
    exact .inr hg
 ·
  have := hc.size
  rcases h3 with rfl | h3
  ·
   exact hg
  ·
   simp at h3; right; omega

theorem number_any (w : World) (b g : Nat) (xs : List UInt8) (e : Int) (x : Int) (h0 : 0 ≤ x) (hn : x ≤ 9223372036854775807) (h : Wrt w b g xs e) (hlen : xs.length ≤ 1099511627776) :
  Calls Tryz.prog 132 #[.func (.func 131) #[.pointer (some ⟨b, 0, none⟩)] #[], .int .i64 x] w fun r w' => r = .returned (.tuple #[]) ∧ Between w w' b g (xs ++ enc x.toNat) e := by
 obtain ⟨n, rfl⟩ := Int.eq_ofNat_of_zero_le h0
 have hb := nb_le n (by omega)
 go_enter Tryz.func132, Tryz.ntmps132
 go_wp2_with (first
  | (go_at_call 130; refine (width_any _ _ (by omega) (by omega)).mono ?_; rintro e w' ⟨rfl, rfl⟩)
  | (go_at_call 131; refine (put_any _ b g xs e _ _ _ [UInt8.ofNat (nb n)] (h.chg ((Chg.refl [] w).alloc _) (by simp) (by simp)) (Bs.one _ _ _ (u8_of _ _ (by omega) (by omega))) (by omega)).mono ?_; rintro e1 w1 ⟨rfl, hp⟩; have hq := h_ (Between.put (Chg.refl _ _) (.inl rfl) hp); clear hp))
 go_loopw [5] (fun v wr => ∃ (k : Nat) (p : List UInt8), k ≤ nb n ∧ v = .int .i64 ((k : Int) - 1) ∧ p ++ be k n = be (nb n) n ∧ Between w wr b g (xs ++ UInt8.ofNat (nb n) :: p) e) (fun v _ => (intOf v + 1).toNat)
 case atStart => exact ⟨nb n, [], by omega, by simp; omega, by simp, by simpa using hq.out⟩
 case round =>
  obtain ⟨k, p, hk, rfl, hp, hbt⟩ := hrel
  have Hp := h_ hp
  have Hb := h_ hbt
  clear hp hbt
  rcases k with _ | k
  ·
   go_wp2
   go_end0
   refine ⟨rfl, ?_⟩
   have hp := Hp.out
   simp only [be, List.append_nil] at hp
   have hb := Hb.out
   rw [hp] at hb
   exact hb
  ·
   obtain ⟨g', hw, hc, hg⟩ := Hb.out
   have hlw : (xs ++ UInt8.ofNat (nb n) :: p).length + 1 ≤ 140737488355327 := by
    have hl := congrArg List.length Hp.out
    simp only [List.length_append, be_len, List.length_cons] at hl ⊢
    omega
   have Hg := h_ hg
   clear hg
   go_wp2_with (go_at_call 131; refine (put_any _ b g' _ e _ _ _ [UInt8.ofNat (n / 256 ^ k)] (hw.chg ((Chg.refl [] wr).alloc _) (by simp) (by simp)) (Bs.one _ _ _ (u8_shift n k)) hlw).mono ?_; rintro e1 w2 ⟨rfl, hp2⟩; have hq2 := h_ (Between.put hc Hg.out hp2); clear hp2)
   go_roundw
   case rel =>
    refine ⟨k, p ++ [UInt8.ofNat (n / 256 ^ k)], by omega, by go_num, ?_, ?_⟩
    ·
     rw [← Hp.out]; simp [be]
    ·
     have := hq2.out; simpa using this
   case measure => simp [intOf]

theorem fits_yes (w : World) (b g : Nat) (xs : List UInt8) (n : Int) (h : Wrt w b g xs 0) (hlen : xs.length ≤ 1099511627776) (hn2 : n + xs.length ≤ 1048576) :
  Calls Tryz.prog 129 #[.pointer (some ⟨b, 0, none⟩), .int .i64 n] w fun r w' => r = .returned (.bool true) ∧ w = w' := by
 obtain ⟨A, c, h1, _, _⟩ := h
 have k1 := cell_of h1 1
 have k2 := cell_of h1 2
 simp only [gA, gY, gZ] at k1 k2
 have H := h_ h1
 clear h1
 go_enter Tryz.func129, Tryz.ntmps129
 go_wp2; go_ret
 exact ⟨rfl, rfl⟩
theorem fits_no (w : World) (b g : Nat) (xs : List UInt8) (n : Int) (h : Wrt w b g xs 0) (hlen : xs.length ≤ 1099511627776) (hn2 : 1048576 < n + xs.length) :
  Calls Tryz.prog 129 #[.pointer (some ⟨b, 0, none⟩), .int .i64 n] w fun r w' => r = .returned (.bool false) ∧ Between w w' b g xs 3 := by
 obtain ⟨A, c, h1, h2, h3⟩ := h
 have k1 := cell_of h1 1
 have k2 := cell_of h1 2
 have k3 := free_of h1 2
 simp only [gA, gY, gZ] at k1 k2
 have H := h_ h1
 have H3 := h_ h3
 clear h1 h3
 go_enter Tryz.func129, Tryz.ntmps129
 go_wp2; go_ret
 have q := heap_setCell_same w b 2 _ _ (.int .i64 3) H.out
 have hne := h2.ne H.out (by decide)
 refine ⟨rfl, g, ⟨A, c, by simpa using q, h2.keep fun g o eA ho => ?_, H3.out⟩, (Chg.refl _ _).setCell (by simp) _, .inl rfl⟩
 rw [Below.heap_setCell _ _ _ _ (by have := hne _ eA; exact this)]; exact ho
end
section
open Go.RowKit

def wNum (xs : List UInt8) (e : Int) (x : Int) : List UInt8 × Int :=
 if e ≠ 0 then (xs, e) else if x < 0 ∨ 4611686018427387903 < x then (xs, 5) else if 1048576 < 1 + nb x.toNat + xs.length then (xs, 3) else (xs ++ enc x.toNat, 0)
def wRaw (xs : List UInt8) (e : Int) (ys : List UInt8) : List UInt8 × Int :=
 if e ≠ 0 then (xs, e) else if 1048576 < 1 + nb ys.length + ys.length + xs.length then (xs, 3) else (xs ++ enc ys.length ++ ys, 0)

theorem Between.refl {w : World} {b g : Nat} {xs : List UInt8} {e : Int} (h : Wrt w b g xs e) : Between w w b g xs e := ⟨g, h, Chg.refl _ _, .inl rfl⟩
theorem Between.trans {a b c : World} {p g g' : Nat} {xs ys : List UInt8} {e e' : Int} (_h : Wrt b p g' xs e) (hc : Chg [p, g] a b) (hg : g' = g ∨ a.heap.size ≤ g') (k : Between b c p g' ys e') : Between a c p g ys e' := by
 obtain ⟨g2, h1, h2, h3⟩ := k
 have := hc.size
 refine ⟨g2, h1, hc.trans' h2 ?_, ?_⟩
 ·
  intro i hi
  simp at hi ⊢
  rcases hi with rfl | rfl
  ·
   exact .inl (.inl rfl)
  ·
   rcases hg with rfl | hg
   ·
    exact .inl (.inr rfl)
   ·
    exact .inr hg
 ·
  rcases h3 with rfl | h3
  ·
   exact hg
  ·
   right; omega

theorem wnum_err (w : World) (b g : Nat) (xs : List UInt8) (e : Int) (x : Int) (h : Wrt w b g xs e) (he : (e != 0) = true) :
  Calls Tryz.prog 87 #[.pointer (some ⟨b, 0, none⟩), .int .i64 x] w fun r w' => r = .returned (.tuple #[]) ∧ w = w' := by
 obtain ⟨A, c, h1, _, _⟩ := id h
 have h0 := cell_of h1 2
 simp only [List.getElem?_toArray, List.getElem?_cons_zero, List.getElem?_cons_succ] at h0
 have H := h_ h1
 clear h1
 go_enter Tryz.func87, Tryz.ntmps87
 go_wp2_with (go_at_call 128; refine (made_yes _ b g xs e h).mono ?_; rintro r w' ⟨rfl, rfl⟩)
 refine bodyPost_ret (results_none rfl _ _ _) rfl ?_
 exact ⟨rfl, rfl⟩

def r_fin (w : World) (b g : Nat) (xs : List UInt8) : Prop := Between w (w.setCell ⟨b, 2, none⟩ (.int .i64 5)) b g xs 5

theorem wnum_range (w : World) (b g : Nat) (xs : List UInt8) (x : Int) (h : Wrt w b g xs 0) (hx : x < 0 ∨ 4611686018427387903 < x) :
  Calls Tryz.prog 87 #[.pointer (some ⟨b, 0, none⟩), .int .i64 x] w fun r w' => r = .returned (.tuple #[]) ∧ Between w w' b g xs 5 := by
 obtain ⟨A, c, h1, h2, h3⟩ := id h
 have h0 := cell_of h1 2
 have k3 := free_of h1 2
 simp only [List.getElem?_toArray, List.getElem?_cons_zero, List.getElem?_cons_succ] at h0
 have H := h_ h1
 have H3 := h_ h3
 clear h1 h3
 have fin : r_fin w b g xs := by
  have q := heap_setCell_same w b 2 _ _ (.int .i64 5) H.out
  have hne := h2.ne H.out (by decide)
  refine ⟨g, ⟨A, c, by simpa using q, h2.keep fun g o eA ho => ?_, H3.out⟩, (Chg.refl _ _).setCell (by simp) _, .inl rfl⟩
  rw [Below.heap_setCell _ _ _ _ (by have := hne _ eA; exact this)]; exact ho
 have Fin := h_ fin
 clear fin
 rcases hx with hx | hx
 all_goals
  go_enter Tryz.func87, Tryz.ntmps87
  go_wp2_with (go_at_call 128; refine (made_yes _ b g xs 0 h).mono ?_; rintro r w' ⟨rfl, rfl⟩)
  refine bodyPost_ret (results_none rfl _ _ _) rfl ?_
  exact ⟨rfl, Fin.out⟩

theorem wnum_long (w : World) (b g : Nat) (xs : List UInt8) (x : Int) (h : Wrt w b g xs 0) (hlen : xs.length ≤ 1048576) (hx : 0 ≤ x) (hx2 : x ≤ 4611686018427387903) (hl : 1048576 < 1 + nb x.toNat + xs.length) :
  Calls Tryz.prog 87 #[.pointer (some ⟨b, 0, none⟩), .int .i64 x] w fun r w' => r = .returned (.tuple #[]) ∧ Between w w' b g xs 3 := by
 obtain ⟨A, c, h1, h2, h3⟩ := id h
 have h0 := cell_of h1 2
 simp only [List.getElem?_toArray, List.getElem?_cons_zero, List.getElem?_cons_succ] at h0
 have H := h_ h1
 have H3 := h_ h3
 clear h1 h3
 go_enter Tryz.func87, Tryz.ntmps87
 go_wp2_with (first
  | (go_at_call 128; refine (made_yes _ b g xs 0 h).mono ?_; rintro r w' ⟨rfl, rfl⟩)
  | (go_at_call 130; refine (width_any _ _ (by omega) (by omega)).mono ?_; rintro r w' ⟨rfl, rfl⟩)
  | (go_at_call 129; refine (fits_no _ b g xs _ h (by omega) (by omega)).mono ?_; rintro r w' ⟨rfl, hB⟩))
 go_end0
 exact ⟨rfl, hB⟩

theorem wnum_fine (w : World) (b g : Nat) (xs : List UInt8) (x : Int) (h : Wrt w b g xs 0) (hlen : xs.length ≤ 1048576) (hx : 0 ≤ x) (hx2 : x ≤ 4611686018427387903) (hl : 1 + nb x.toNat + xs.length ≤ 1048576) :
  Calls Tryz.prog 87 #[.pointer (some ⟨b, 0, none⟩), .int .i64 x] w fun r w' => r = .returned (.tuple #[]) ∧ Between w w' b g (xs ++ enc x.toNat) 0 := by
 obtain ⟨A, c, h1, h2, h3⟩ := id h
 have h0 := cell_of h1 2
 simp only [List.getElem?_toArray, List.getElem?_cons_zero, List.getElem?_cons_succ] at h0
 have H := h_ h1
 have H3 := h_ h3
 clear h1 h3
 go_enter Tryz.func87, Tryz.ntmps87
 go_wp2_with (first
  | (go_at_call 128; refine (made_yes _ b g xs 0 h).mono ?_; rintro r w' ⟨rfl, rfl⟩)
  | (go_at_call 130; refine (width_any _ _ (by omega) (by omega)).mono ?_; rintro r w' ⟨rfl, rfl⟩)
  | (go_at_call 129; refine (fits_yes _ b g xs _ h (by omega) (by omega)).mono ?_; rintro r w' ⟨rfl, rfl⟩)
  | (go_at_call 132; refine (number_any _ b g xs 0 _ (by omega) (by omega) h (by omega)).mono ?_; rintro r w' ⟨rfl, hB⟩))
 go_end0
 exact ⟨rfl, hB⟩

theorem wnum_any (w : World) (b g : Nat) (xs : List UInt8) (e x : Int) (h : Wrt w b g xs e) (hlen : xs.length ≤ 1048576) :
  Calls Tryz.prog 87 #[.pointer (some ⟨b, 0, none⟩), .int .i64 x] w fun r w' => r = .returned (.tuple #[]) ∧ Between w w' b g (wNum xs e x).1 (wNum xs e x).2 := by
 unfold wNum
 by_cases he : e = 0
 ·
  subst he
  by_cases h1 : x < 0 ∨ 4611686018427387903 < x
  ·
   simp only [ne_eq, not_true_eq_false, if_false, if_pos h1]; exact wnum_range w b g xs x h h1
  ·
   by_cases h2 : 1048576 < 1 + nb x.toNat + xs.length
   ·
    simp only [ne_eq, not_true_eq_false, if_false, if_neg h1, if_pos h2]; exact wnum_long w b g xs x h hlen (by omega) (by omega) h2
   ·
    simp only [ne_eq, not_true_eq_false, if_false, if_neg h1, if_neg h2]; exact wnum_fine w b g xs x h hlen (by omega) (by omega) (by omega)
 ·
  simp only [ne_eq, he, not_false_eq_true, if_true]
  exact (wnum_err w b g xs e x h (by simpa using he)).mono fun r w' ⟨h1, h2⟩ => ⟨h1, h2 ▸ Between.refl h⟩
end
section
open Go.RowKit

theorem enc_room (xs : List UInt8) (m : Nat) (_h : xs.length ≤ 1048576) (hl : 1 + nb m + m + xs.length ≤ 1048576) : (xs ++ enc (m : Int).toNat).length + m ≤ 140737488355327 := by
 rw [List.length_append, enc_len, Int.toNat_natCast]; omega

theorem wraw_err (w : World) (b g : Nat) (xs : List UInt8) (e : Int) (B : Option Addr) (m d : Nat) (h : Wrt w b g xs e) (he : (e == 0) = false) :
  Calls Tryz.prog 88 #[.pointer (some ⟨b, 0, none⟩), .slice B m d] w fun r w' => r = .returned (.tuple #[]) ∧ w = w' := by
 obtain ⟨A, c, h1, _, _⟩ := id h
 have h0 := cell_of h1 2
 simp only [List.getElem?_toArray, List.getElem?_cons_zero, List.getElem?_cons_succ] at h0
 have H := h_ h1
 clear h1
 go_enter Tryz.func88, Tryz.ntmps88
 go_wp2_with (go_at_call 128; refine (made_yes _ b g xs e h).mono ?_; rintro r w' ⟨rfl, rfl⟩)
 go_end0
 exact ⟨rfl, rfl⟩
theorem wraw_long (w : World) (b g : Nat) (xs : List UInt8) (B : Option Addr) (m d : Nat) (h : Wrt w b g xs 0) (hlen : xs.length ≤ 1048576) (hm : m ≤ 140737488351232) (hl : 1048576 < 1 + nb m + m + xs.length) :
  Calls Tryz.prog 88 #[.pointer (some ⟨b, 0, none⟩), .slice B m d] w fun r w' => r = .returned (.tuple #[]) ∧ Between w w' b g xs 3 := by
 obtain ⟨A, c, h1, _, _⟩ := id h
 have h0 := cell_of h1 2
 simp only [List.getElem?_toArray, List.getElem?_cons_zero, List.getElem?_cons_succ] at h0
 have H := h_ h1
 clear h1
 have hb := nb_le m (by omega)
 go_enter Tryz.func88, Tryz.ntmps88
 go_wp2_with (first
  | (go_at_call 128; refine (made_yes _ b g xs 0 h).mono ?_; rintro r w' ⟨rfl, rfl⟩)
  | (go_at_call 130; refine (width_any _ _ (by omega) (by omega)).mono ?_; rintro r w' ⟨rfl, rfl⟩)
  | (go_at_call 129; refine (fits_no _ b g xs _ h (by omega) (by omega)).mono ?_; rintro r w' ⟨rfl, hB⟩))
 go_end0
 exact ⟨rfl, hB⟩

theorem wraw_fine (w : World) (b g : Nat) (xs : List UInt8) (B : Option Addr) (m d : Nat) (ys : List UInt8) (h : Wrt w b g xs 0) (hlen : xs.length ≤ 1048576) (hr : Bs w B m ys) (hB : Apart B ys b g) (hl : 1 + nb m + m + xs.length ≤ 1048576) :
  Calls Tryz.prog 88 #[.pointer (some ⟨b, 0, none⟩), .slice B m d] w fun r w' => r = .returned (.tuple #[]) ∧ Between w w' b g (xs ++ enc m ++ ys) 0 := by
 obtain ⟨A, c, h1, _, _⟩ := id h
 have h0 := cell_of h1 2
 simp only [List.getElem?_toArray, List.getElem?_cons_zero, List.getElem?_cons_succ] at h0
 have H := h_ h1
 have HB := h_ hB
 clear h1 hB
 have hb := nb_le m (by omega)
 go_enter Tryz.func88, Tryz.ntmps88
 go_wp2_with (first
  | (go_at_call 128; refine (made_yes _ b g xs 0 h).mono ?_; rintro r w' ⟨rfl, rfl⟩)
  | (go_at_call 130; refine (width_any _ _ (by omega) (by omega)).mono ?_; rintro r w' ⟨rfl, rfl⟩)
  | (go_at_call 129; refine (fits_yes _ b g xs _ h (by omega) (by omega)).mono ?_; rintro r w' ⟨rfl, rfl⟩)
  | (go_at_call 132; refine (number_any _ b g xs 0 _ (by omega) (by omega) h (by omega)).mono ?_; rintro r w1 ⟨rfl, g1, hw1, hc1, hg1⟩; have Hg1 := h_ hg1; clear hg1; have hr1 := hr.past hc1 HB.out)
  | (go_at_call 131; refine (put_any _ b g1 _ 0 _ _ _ ys hw1 hr1 (enc_room xs m hlen hl)).mono ?_; rintro r w2 ⟨rfl, hp⟩))
 go_end0
 exact ⟨rfl, Between.trans hw1 hc1 Hg1.out hp⟩
end
end Go.Proofs.YtehmchdhlhchjaaGreatDoor
