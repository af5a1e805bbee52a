/- Words on memory that the walks over this seat share: bytes read, bytes owned, what a step leaves alone. No function of the program is named here. New blocks, and the world behind them, under one name. Rows of elements of several cells each (structs): read, owned, appended to. No function of the program is named here. math/bits.Len64 and wire.width: how many bytes a number takes. The writer of package wire: what each of its calls does. The writer's exported calls: Num, Text, Raw, Out. The writer's Raw, Text and Out. bytes.Clone, the kit's copy, and the writer's Out; the writer's calls whatever came ahead. The reader of package wire: Open, and what tells without reading. The reader's number: what it tells, and what is wrong. The reader's number where no digit follows. -/
import Derived.Test.YtimdfpejgaidhaaGreatDoorRows
import Derived.WalkKit
import Derived.WalkSpells
import Derived.WalkLawsBesides
import Derived.LaidEqlPtr
import Derived.Lib.Hide
import Derived.Maps.AppendAt
import Derived.OrdersHeld
import Derived.Deep.DeepAppendWide
import Derived.Lib.BitFns
import Derived.Deep.QuietTactic
import Derived.BigQuiet
import Derived.ScopeJumps
namespace Go.Proofs.YtimdfpejgaidhaaGreatDoor
section
open Go.RowKit

/-- A byte as a value. -/
def bv (c : UInt8) : Value := .int .u8 (c.toNat : Int)

theorem bv_one (c : UInt8) : (bv c).oneCell' = true := rfl

/-- Outside the blocks S nothing that was there has turned. -/
structure Chg (S : List Nat) (w w' : World) : Prop where
  os : w'.os = w.os
  tape : w'.tape = w.tape
  output : w'.output = w.output
  size : w.heap.size ≤ w'.heap.size
  block : ∀ k, k < w.heap.size → k ∉ S → w'.heap[k]? = w.heap[k]?

theorem Chg.refl (S : List Nat) (w : World) : Chg S w w := ⟨rfl, rfl, rfl, Nat.le_refl _, fun _ _ _ => rfl⟩
theorem Chg.trans {S : List Nat} {a b c : World} (h : Chg S a b) (k : Chg S b c) : Chg S a c :=
  ⟨k.os.trans h.os, k.tape.trans h.tape, k.output.trans h.output, Nat.le_trans h.size k.size, fun i hi hn => (k.block i (Nat.lt_of_lt_of_le hi h.size) hn).trans (h.block i hi hn)⟩
/-- A later step may turn blocks that were not there at first. -/
theorem Chg.trans' {S S' : List Nat} {a b c : World} (h : Chg S a b) (k : Chg S' b c) (hs : ∀ i ∈ S', i ∈ S ∨ a.heap.size ≤ i) : Chg S a c :=
  ⟨k.os.trans h.os, k.tape.trans h.tape, k.output.trans h.output, Nat.le_trans h.size k.size, fun i hi hn => (k.block i (Nat.lt_of_lt_of_le hi h.size) (fun hm => by
    rcases hs i hm with h1 | h1
    · exact hn h1
    · omega)).trans (h.block i hi hn)⟩
theorem Chg.mono {S S' : List Nat} {a b : World} (h : Chg S a b) (hs : ∀ i ∈ S, i ∈ S' ∨ a.heap.size ≤ i) : Chg S' a b :=
  ⟨h.os, h.tape, h.output, h.size, fun i hi hn => h.block i hi (fun hm => by
    rcases hs i hm with h1 | h1
    · exact hn h1
    · omega)⟩
theorem Chg.drew {S : List Nat} {a w : World} (h : Chg S a w) : Chg S a w.drew := ⟨h.os, h.tape, h.output, h.size, h.block⟩
theorem Chg.drewN {S : List Nat} {a w : World} (h : Chg S a w) (n : Nat) : Chg S a (w.drewN n) := ⟨h.os, h.tape, h.output, h.size, h.block⟩
theorem Chg.alloc {S : List Nat} {a w : World} (h : Chg S a w) (o : Obj) : Chg S a (w.alloc o) :=
  h.trans ⟨rfl, rfl, rfl, by simp, fun k hk _ => Below.heap_alloc _ _ _ hk⟩
theorem Chg.setCell {S : List Nat} {a w : World} (h : Chg S a w) {p : Addr} (hp : p.block ∈ S ∨ a.heap.size ≤ p.block) (u : Value) : Chg S a (w.setCell p u) :=
  ⟨h.os, h.tape, h.output, by simpa [World.setCell] using h.size, fun k hk hn => (Below.heap_setCell _ _ _ _ (by
    rintro rfl
    rcases hp with h1 | h1
    · exact hn h1
    · omega)).trans (h.block k hk hn)⟩
theorem Chg.grown {S : List Nat} {a w w' : World} {row : Option Nat} (h : Chg S a w) (hg : w.grownBy w' row) (hr : ∀ k, row = some k → k ∈ S ∨ a.heap.size ≤ k) : Chg S a w' :=
  ⟨hg.os.trans h.os, hg.tape.trans h.tape, hg.output.trans h.output, Nat.le_trans h.size hg.size, fun k hk hn => (hg.block k (Nat.lt_of_lt_of_le hk h.size) (fun e => by
    rcases hr k e.symm with h1 | h1
    · exact hn h1
    · omega)).trans (h.block k hk hn)⟩
theorem Chg.ofBelow {B : Nat} {a b : World} (h : Below B a b) (hB : a.heap.size ≤ B) (S : List Nat) : Chg S a b :=
  ⟨h.os, h.tape, h.output, h.size, fun k hk _ => h.block k (by omega)⟩
theorem Chg.toBelow {a b : World} (h : Chg [] a b) : Below a.heap.size a b := ⟨h.os, h.tape, h.output, h.size, fun k hk => h.block k hk (by simp)⟩

theorem heap_alloc_two (w : World) (o o' : Obj) : ((w.alloc o).alloc o').heap[w.heap.size + 1]? = some o' := by
  have := heap_alloc_new (w.alloc o) o'
  rwa [World.size_alloc] at this
theorem lt_of_heap {w : World} {b : Nat} {o : Obj} (h : w.heap[b]? = some o) : b < w.heap.size := (Array.getElem?_eq_some_iff.1 h).1
theorem Chg.at_ {S : List Nat} {w w' : World} {b : Nat} {o : Obj} (h : Chg S w w') (hb : w.heap[b]? = some o) (hn : b ∉ S) : w'.heap[b]? = some o :=
  (h.block b (lt_of_heap hb) hn).trans hb
theorem lt_of_cell {w : World} {a : Addr} {v : Value} (h : w.cell? a = some v) : a.block < w.heap.size := by
  unfold World.cell? at h
  split at h
  · rename_i hb; exact lt_of_heap hb
  · cases h
theorem Chg.cell {S : List Nat} {w w' : World} {a : Addr} {v : Value} (h : Chg S w w') (hc : w.cell? a = some v) (hn : a.block ∉ S) : w'.cell? a = some v :=
  (World.cell?_of_block (w := w) (h.block _ (lt_of_cell hc) hn)).trans hc

/-- The slice '.slice A n _' reads as these bytes. -/
structure Bs (w : World) (A : Option Addr) (n : Nat) (xs : List UInt8) : Prop where
  len : xs.length = n
  cells : ∀ j c, xs[j]? = some c → ∃ a, A = some a ∧ w.cell? (a.add j) = some (bv c)

theorem cell_of' {w : World} {b : Nat} {cs : Array Value} {t : TypeId} {fr : Nat × Nat} (h : w.heap[b]? = some (.cells cs t fr)) (j : Nat) : w.cell? ⟨b, j, none⟩ = cs[j]? := by simp [World.cell?, h]
/-- One byte in a new block. -/
theorem Bs.one (w : World) (c : UInt8) (x : Int) (hx : x = (c.toNat : Int)) : Bs (w.alloc (.cells #[.int .u8 x] 5)) (some ⟨w.heap.size, 0, none⟩) 1 [c] :=
  ⟨rfl, fun j u hj => by
    cases j with
    | zero =>
      simp at hj
      subst hj hx
      refine ⟨_, rfl, ?_⟩
      have e := cell_of' (heap_alloc_new w (.cells #[.int .u8 (c.toNat : Int)] 5)) 0
      have ea : (⟨w.heap.size, 0, none⟩ : Addr).add 0 = ⟨w.heap.size, 0, none⟩ := by unfold Addr.add; split <;> simp_all
      rw [ea, e]; rfl
    | succ j => simp at hj⟩

theorem block_add (a : Addr) (n : Nat) : (a.add n).block = a.block := by unfold Addr.add; split <;> rfl
theorem add_zero_lit (g j : Nat) : (⟨g, 0, none⟩ : Addr).add j = ⟨g, j, none⟩ := by unfold Addr.add; split <;> simp_all
theorem add_lit (g o j : Nat) : (⟨g, o, none⟩ : Addr).add j = ⟨g, o + j, none⟩ := by unfold Addr.add; split <;> simp_all

theorem Bs.nil (w : World) (A : Option Addr) : Bs w A 0 [] := ⟨rfl, by simp⟩
theorem Bs.chg {S : List Nat} {w w' : World} {A : Option Addr} {n : Nat} {xs : List UInt8} (h : Bs w A n xs) (hc : Chg S w w') (hn : ∀ a, A = some a → a.block ∉ S) : Bs w' A n xs :=
  ⟨h.len, fun j c hj => by
    obtain ⟨a, rfl, hx⟩ := h.cells j c hj
    exact ⟨a, rfl, hc.cell hx (by rw [block_add]; exact hn a rfl)⟩⟩
/-- The slice '.slice A xs.length c' owns a row of bytes that begins with these. -/
def OwnB (w : World) (A : Option Addr) (c : Nat) (xs : List UInt8) : Prop :=
  (A = none ∧ xs = [] ∧ c = 0) ∨ ∃ (g : Nat) (full : List UInt8), A = some ⟨g, 0, none⟩ ∧ w.heap[g]? = some (.cells (full.map bv).toArray 5 (0, 0)) ∧ full.length = c ∧ c ≤ maxLen ∧ xs.length ≤ c ∧ full.take xs.length = xs

theorem OwnB.none_ (w : World) : OwnB w none 0 [] := .inl ⟨rfl, rfl, rfl⟩
theorem OwnB.form {w : World} {A : Option Addr} {c : Nat} {xs : List UInt8} (h : OwnB w A c xs) :
    (A = none ∧ xs = [] ∧ c = 0) ∨ ∃ g cur, A = some ⟨g, 0, none⟩ ∧ w.heap[g]? = some (.cells cur 5 (0, 0)) ∧ xs.length ≤ c ∧ c ≤ maxLen ∧ cur.size = c ∧ cur.toList.take xs.length = xs.map bv := by
  rcases h with h | ⟨g, full, h1, h2, h3, h4, h5, h6⟩
  · exact .inl h
  · refine .inr ⟨g, _, h1, h2, h5, h4, by simpa using h3, ?_⟩
    show (full.map bv).take xs.length = _
    rw [← List.map_take, h6]
theorem OwnB.of {w : World} {g c : Nat} {full xs : List UInt8} (hg : w.heap[g]? = some (.cells (full.map bv).toArray 5 (0, 0))) (h1 : xs.length ≤ c) (h2 : c ≤ maxLen) (h3 : full.length = c) (h4 : full.take xs.length = xs) :
    OwnB w (some ⟨g, 0, none⟩) c xs := .inr ⟨g, full, rfl, hg, h3, h2, h1, h4⟩
theorem OwnB.reads {w : World} {A : Option Addr} {c : Nat} {xs : List UInt8} (h : OwnB w A c xs) : Bs w A xs.length xs := by
  refine ⟨rfl, fun j u hj => ?_⟩
  rcases h.form with ⟨_, rfl, _⟩ | ⟨g, cur, rfl, hg, _, _, _, ht⟩
  · simp at hj
  · refine ⟨_, rfl, ?_⟩
    have hl : j < xs.length := (List.getElem?_eq_some_iff.1 hj).1
    have e : (cur.toList.take xs.length)[j]? = some (bv u) := by rw [ht]; simp [hj]
    rw [List.getElem?_take, if_pos hl] at e
    rw [add_zero_lit]
    simp [World.cell?, hg] at e ⊢
    exact e
theorem OwnB.keep {w w' : World} {A : Option Addr} {c : Nat} {xs : List UInt8} (h : OwnB w A c xs) (hk : ∀ g o, A = some ⟨g, 0, none⟩ → w.heap[g]? = some o → w'.heap[g]? = some o) : OwnB w' A c xs := by
  rcases h with h | ⟨g, full, h1, h2, r⟩
  · exact .inl h
  · exact .inr ⟨g, full, h1, hk g _ h1 h2, r⟩
theorem OwnB.chg {S : List Nat} {w w' : World} {A : Option Addr} {c : Nat} {xs : List UInt8} (h : OwnB w A c xs) (hc : Chg S w w') (hn : ∀ a, A = some a → a.block ∉ S) : OwnB w' A c xs :=
  h.keep fun _ _ e ho => hc.at_ ho (hn _ e)

theorem cell_of {w : World} {b : Nat} {cs : Array Value} {t : TypeId} {fr : Nat × Nat} (h : w.heap[b]? = some (.cells cs t fr)) (j : Nat) : w.cell? ⟨b, j, none⟩ = cs[j]? := by simp [World.cell?, h]
theorem free_of {w : World} {b : Nat} {cs : Array Value} {t : TypeId} (h : w.heap[b]? = some (.cells cs t (0, 0))) (j : Nat) : w.frozen? ⟨b, j, none⟩ = false := by simp [World.frozen?, h]

/-- A string of bytes. -/
def strOf (ys : List UInt8) : ByteArray := ⟨ys.toArray⟩
theorem strOf_data (ys : List UInt8) : (strOf ys).data.toList = ys := by simp [strOf]
theorem strOf_size (ys : List UInt8) : (strOf ys).size = ys.length := by simp [strOf, ByteArray.size]
@[go_sem] theorem strOf_toList (ys : List UInt8) : (strOf ys).toList = ys := ByteArray.toList_mk ys
theorem run_str (w : World) {A : Option Addr} {n c : Nat} {ys : List UInt8} (h : Bs w A n ys) : (convert 23 9 (.slice A n c)).run Tryz.prog w = .ok (.string (strOf ys)) w := by
  have hn := h.len
  subst hn
  cases A with
  | none =>
    have hy : ys = [] := by
      cases ys with
      | nil => rfl
      | cons y ys => obtain ⟨a, h, _⟩ := h.cells 0 y rfl; cases h
    subst hy
    exact run_convert_bytes_nil w 23 5 Tryz.underlying23 Tryz.underlying5 _ c 9 Tryz.underlying9
  | some a =>
    refine run_convert_bytes_back w 23 9 5 a c ys Tryz.underlying23 Tryz.underlying5 Tryz.underlying9 (fun j hj => ?_)
    obtain ⟨a', e, hc⟩ := h.cells j _ (List.getElem?_eq_getElem hj)
    cases e
    exact hc

theorem info8 : (Tryz.prog.info? 5).map (fun i => (i.zero, i.size, i.bytes)) = some (some (.int .u8 0), 1, 1) := by kernel_rfl

/-- Bytes, then zeros. -/
theorem zeros_bv (n : Nat) : Builtin.zeroCells (Value.int .u8 0).cells n = ((List.replicate n (0 : UInt8)).map bv).toArray := by
  apply Array.toList_inj.1
  rw [List.map_replicate]
  have hz : bv 0 = .int .u8 0 := rfl
  rw [hz]
  apply List.ext_getElem
  · simp [Builtin.zeroCells, Value.cells]
  · intro i h1 h2
    simp [Builtin.zeroCells, Value.cells, Nat.mod_one]

set_option maxRecDepth 100000 in
/-- append of bytes to a row that is owned. -/
theorem run_app (w : World) (ty : TypeId) {A : Option Addr} {c : Nat} {xs : List UInt8} (hown : OwnB w A c xs) {B : Option Addr} {m d : Nat} {ys : List UInt8} (hr : Bs w B m ys) (hlen : xs.length + m ≤ 140737488355327) :
    ∃ A' c' w', (Builtin.append_ #[23, 23] ty #[.slice A xs.length c, .slice B m d]).run Tryz.prog w = .ok (.slice A' (xs.length + m) c') w' ∧ OwnB w' A' c' (xs ++ ys) ∧
      w.grownBy w' (A.map (·.block)) ∧ (A' = A ∨ A' = some ⟨w.heap.size, 0, none⟩) := by
  obtain ⟨i0, hi, hz0, hz1, hz2⟩ := info_parts info8
  have hm := hr.len
  subst hm
  rcases B with _ | ad
  · have hy : ys = [] := by
      cases ys with
      | nil => rfl
      | cons y ys => obtain ⟨a, h, _⟩ := hr.cells 0 y rfl; cases h
    subst hy
    have h0 : (Builtin.append_ #[23, 23] ty #[.slice A xs.length c, .slice none 0 d]).run Tryz.prog w = .ok (.slice A xs.length c) w := by
      rcases hown.form with ⟨rfl, rfl, rfl⟩ | ⟨g, cur, rfl, _, hnc, _⟩
      · simp [Builtin.append_, run_underlying Tryz.underlying23, sizeOf, typeInfo, hi, Builtin.lenOf, Builtin.firstCells]
      · simp [Builtin.append_, run_underlying Tryz.underlying23, sizeOf, typeInfo, hi, Builtin.lenOf, Builtin.firstCells, hnc, storeCells]
    exact ⟨A, c, w, h0, by simpa using hown, World.grownBy.refl w _, .inl rfl⟩
  have hnews : ∀ j u, (ys.map bv)[j]? = some u → w.cell? (ad.add j) = some u := by
    intro j u hu
    rw [List.getElem?_map, Option.map_eq_some_iff] at hu
    obtain ⟨y, hy, rfl⟩ := hu
    obtain ⟨a, e, hc⟩ := hr.cells j y hy
    cases e
    exact hc
  have hl : (ys.map bv).length = ys.length * i0.size := by rw [hz1]; simp
  have h1 : ∀ u ∈ ys.map bv, u.oneCell' = true := by intro u hu; rw [List.mem_map] at hu; obtain ⟨c, _, rfl⟩ := hu; rfl
  have grown : ∀ (old : Nat) (row : Option Nat), let cap' := grownCap w (xs.length + ys.length) old 5
      OwnB (w.drew.alloc (.cells ((xs.map bv).toArray ++ (ys.map bv).toArray ++ Builtin.zeroCells (Value.int .u8 0).cells (cap' - (xs.length + ys.length))) 5)) (some ⟨w.heap.size, 0, none⟩) cap' (xs ++ ys) ∧
      w.grownBy (w.drew.alloc (.cells ((xs.map bv).toArray ++ (ys.map bv).toArray ++ Builtin.zeroCells (Value.int .u8 0).cells (cap' - (xs.length + ys.length))) 5)) row := by
    intro old row cap'
    have hge : xs.length + ys.length ≤ cap' := grownCap_ge w _ old _
    have hcm : cap' ≤ maxLen := grownCap_le_maxLen w _ old _ (by simp only [maxLen]; omega)
    have e : ((xs ++ ys ++ List.replicate (cap' - (xs.length + ys.length)) (0 : UInt8)).map bv).toArray = (xs.map bv).toArray ++ (ys.map bv).toArray ++ ((List.replicate (cap' - (xs.length + ys.length)) (0 : UInt8)).map bv).toArray := by
      simp only [List.map_append, List.append_toArray]
    refine ⟨.of (full := xs ++ ys ++ List.replicate (cap' - (xs.length + ys.length)) 0) ?_ (by simpa using hge) hcm (by simp; omega) List.take_left, ⟨rfl, rfl, rfl, by simp, fun k hk _ => Below.heap_alloc w.drew _ k hk⟩⟩
    rw [zeros_bv, e]
    exact heap_alloc_new w.drew _
  rcases hown with ⟨rfl, rfl, rfl⟩ | ⟨g, full, rfl, hg, hfl, hcm, hnc, htake⟩
  · by_cases hy : ys.length = 0
    · have hn : ys = [] := List.eq_nil_of_length_eq_zero hy
      subst hn
      refine ⟨none, 0, w, ?_, OwnB.none_ w, World.grownBy.refl w _, .inl rfl⟩
      simp [Builtin.append_, run_underlying Tryz.underlying23, sizeOf, typeInfo, hi, Builtin.lenOf, Builtin.firstCells, loadCells, loadCellsFrom]
    · have hr := run_append_nil (P := Tryz.prog) w 23 ty 5 i0 (.int .u8 0) Tryz.underlying23 hi hz0 ad ys.length d (ys.map bv) hl hnews (by omega) (by simp at hlen; omega) (by rw [hz2]; simp at hlen; omega)
      have hgr := grown 0 none
      simp only [List.length_nil, Nat.zero_add, List.map_nil, List.nil_append, Array.empty_append] at hgr ⊢
      exact ⟨_, _, _, hr, hgr.1, hgr.2, .inr rfl⟩
  · by_cases hroom : xs.length + ys.length ≤ c
    · have hfit : xs.length * i0.size + (ys.map bv).length ≤ (full.map bv).toArray.size := by rw [hz1]; simp; omega
      have hr := run_append_room (P := Tryz.prog) w 23 ty 5 i0 Tryz.underlying23 hi g xs.length c _ hg ad ys.length d (ys.map bv) hl hnews h1 hroom hfit
      refine ⟨_, _, _, hr, .of (full := full.take xs.length ++ ys ++ full.drop (xs.length + ys.length)) ?_ (by simpa using hroom) hcm (by simp; omega) (by rw [htake, ← List.length_append]; exact List.take_left), ⟨rfl, rfl, rfl, by simp, fun k hk hne => setRow_other w g k _ (fun e => hne (by simp [e]))⟩, .inl rfl⟩
      have hs := setRow_heap w g _ ((full.map bv).toArray.toList.take (xs.length * i0.size) ++ ys.map bv ++ (full.map bv).toArray.toList.drop (xs.length * i0.size + (ys.map bv).length)).toArray _ _ hg
      rw [hs]
      congr 2
      rw [hz1]
      simp
    · have holds : ∀ j u, (xs.map bv)[j]? = some u → w.cell? ((⟨g, 0, none⟩ : Addr).add j) = some u := by
        intro j u hu
        rw [List.getElem?_map, Option.map_eq_some_iff] at hu
        obtain ⟨y, hy, rfl⟩ := hu
        obtain ⟨a, e, hc⟩ := (OwnB.of hg hnc hcm hfl htake).reads.cells j y hy
        cases e
        exact hc
      have hr := run_append_grow (P := Tryz.prog) w 23 ty 5 i0 (.int .u8 0) Tryz.underlying23 hi hz0 ⟨g, 0, none⟩ xs.length c (xs.map bv) (by rw [hz1]; simp) holds ad ys.length d (ys.map bv) hl hnews (by omega) (by omega)
        (growslice_fits (by omega) (by rw [hz2]; omega))
      have hgr := grown c (some g)
      exact ⟨_, _, _, hr, hgr.1, hgr.2, .inr rfl⟩

theorem wpList_app {ops : Array Oper} {rest : List Oper} {o : Oper} {a : Act} {w : World} {Q : Exit → Act → World → Prop} (hgd : o.guard = none) (s x : Operand)
    (ho : o.op = .call { callee := .builtin .append, args := #[s, x], argTypes := #[23, 23] })
    {A : Option Addr} {c n : Nat} {xs : List UInt8} (hs : a.eval s = .slice A n c) (hown : OwnB w A c xs) (hn : xs.length = n) {B : Option Addr} {m d : Nat} {ys : List UInt8} (hx : a.eval x = .slice B m d) (hr : Bs w B m ys) (hlen : n + m ≤ 140737488355327)
    (h : ∀ A' c' w', OwnB w' A' c' (xs ++ ys) → w.grownBy w' (A.map (·.block)) → (A' = A ∨ A' = some ⟨w.heap.size, 0, none⟩) → wpList Tryz.prog ops Q rest (a.put o.dst (.slice A' (n + m) c')) w') : wpList Tryz.prog ops Q (o :: rest) a w :=
  wpList_plain hgd fun _ hK => by
    subst hn
    obtain ⟨A', c', w', hrun, h2, h3, h4⟩ := run_app w o.type hown (d := d) hr hlen
    unfold Oper.wp execOp
    simp only [ho, resolve, invoke, builtin, Sem.run_bind, Sem.run_pure, Result.andThen_ok, List.map_toArray, List.map_cons, List.map_nil, hs, hx, hrun]
    exact hK _ _ (h A' c' w' h2 h3 h4)
end
section
open Go.RowKit

theorem news1 (w : World) (o : Obj) : ∃ w' : World, w' = w.alloc o ∧ Chg [] w w' ∧ w'.heap[w.heap.size]? = some o := ⟨_, rfl, (Chg.refl [] w).alloc _, heap_alloc_new w o⟩
theorem news2 (w : World) (o o' : Obj) : ∃ w' : World, w' = (w.alloc o).alloc o' ∧ Chg [] w w' ∧ w'.heap[w.heap.size]? = some o ∧ w'.heap[w.heap.size + 1]? = some o' :=
  ⟨_, rfl, ((Chg.refl [] w).alloc _).alloc _, ((Chg.refl [] _).alloc o').at_ (heap_alloc_new w o) (by simp), heap_alloc_two w o o'⟩
theorem news3 (w : World) (o o' o'' : Obj) : ∃ w' : World, w' = ((w.alloc o).alloc o').alloc o'' ∧ Chg [] w w' ∧ w'.heap[w.heap.size]? = some o ∧ w'.heap[w.heap.size + 1]? = some o' ∧ w'.heap[w.heap.size + 2]? = some o'' := by
  refine ⟨_, rfl, (((Chg.refl [] w).alloc _).alloc _).alloc _, ?_, ?_, ?_⟩
  · exact ((Chg.refl [] _).alloc o'').at_ (((Chg.refl [] _).alloc o').at_ (heap_alloc_new w o) (by simp)) (by simp)
  · exact ((Chg.refl [] _).alloc o'').at_ (heap_alloc_two w o o') (by simp)
  · have := heap_alloc_two (w.alloc o) o' o''
    rwa [World.size_alloc] at this
/-- A store into a block that is new since w. -/
theorem Chg.put {w w' : World} {s : Nat} (h : Chg [] w w') (hs : w.heap.size ≤ s) (j : Nat) (v : Value) : Chg [] w (w'.setCell ⟨s, j, none⟩ v) := h.setCell (.inr hs) _
theorem Chg.put' {w w' : World} {s : Nat} (h : Chg [s] w w') (j : Nat) (v : Value) : Chg [s] w (w'.setCell ⟨s, j, none⟩ v) := h.setCell (.inl (by simp)) _

/-- The block of an address, if there is one. -/
def blkOf (A : Option Addr) : List Nat := A.toList.map (·.block)
theorem mem_blkOf {A : Option Addr} {a : Addr} (h : A = some a) : a.block ∈ blkOf A := by subst h; simp [blkOf]
theorem of_blkOf {A : Option Addr} {i : Nat} (h : i ∈ blkOf A) : ∃ a, A = some a ∧ a.block = i := by
  cases A with
  | none => simp [blkOf] at h
  | some a => simp [blkOf] at h; exact ⟨a, rfl, h.symm⟩
theorem OwnB.lt {w : World} {A : Option Addr} {c : Nat} {xs : List UInt8} (h : OwnB w A c xs) : ∀ a, A = some a → a.block < w.heap.size := by
  rintro a rfl
  rcases h with ⟨h, _, _⟩ | ⟨g, full, h, hg, _⟩
  · cases h
  · cases h; exact lt_of_heap hg
section
variable {P : Program} {ops : Array Oper} {Q : Exit → Act → World → Prop} {md : Region.Mode} {S : World → Prop}
/-- A step that yields at once, its slot written out. -/
theorem step_yes (i d : Nat) (v : Value) {oi : Oper} {fuel : Nat} {listed : Array Bool} {a : Act} {w : World} (hS : S w) (hi : ops[i]? = some oi) (hd : oi.dst = some d)
    (hs : Region.noSelect ops = true) (hf : Region.free md ops listed i = true) (hr : (Region.ready md ops listed).contains i = true)
    (hQ : ∀ c a w, Q (.panic c) (a.put (some d) v) w → Q (.panic c) a w) (hw : Region.wanted oi (yielded ops a.tmps) = true) (hy : ∀ w, S w → (execOp a.eval oi).run P w = .ok (.value v) w)
    (h : wpAnyH P md ops Q S fuel (listed.setIfInBounds i true) (a.put (some d) v) w) : wpAnyH P md ops Q S (fuel + 1) listed a w :=
  wpAnyH_take hi hs hf hr (by rw [hd]; exact hQ) (.inl ⟨hw, hy⟩) hS (by rw [hd]; exact h)
/-- A step that is not wanted. -/
theorem step_no (i d : Nat) {oi : Oper} {fuel : Nat} {listed : Array Bool} {a : Act} {w : World} (hS : S w) (hi : ops[i]? = some oi) (hd : oi.dst = some d)
    (hs : Region.noSelect ops = true) (hf : Region.free md ops listed i = true) (hr : (Region.ready md ops listed).contains i = true)
    (hQ : ∀ c a w, Q (.panic c) (a.put (some d) undef) w → Q (.panic c) a w) (hw : Region.wanted oi (yielded ops a.tmps) = false)
    (h : wpAnyH P md ops Q S fuel (listed.setIfInBounds i true) (a.put (some d) undef) w) : wpAnyH P md ops Q S (fuel + 1) listed a w :=
  wpAnyH_take hi hs hf hr (by rw [hd]; exact hQ) (.inr ⟨hw, rfl⟩) hS (by rw [hd]; exact h)
/-- 'step_yes', short: what is closed is proved by itself. -/
theorem sy (i d : Nat) {v : Value} {oi : Oper} {fuel : Nat} {listed : Array Bool} {a : Act} {w : World} (hi : ops[i]? = some oi) (hd : oi.dst = some d)
    (h : wpAnyH P md ops Q S fuel (listed.setIfInBounds i true) (a.put (some d) v) w)
    (hS : S w := by assumption) (hs : Region.noSelect ops = true := by kernel_rfl) (hf : Region.free md ops listed i = true := by kernel_rfl) (hr : (Region.ready md ops listed).contains i = true := by kernel_rfl)
    (hQ : ∀ c a w, Q (.panic c) (a.put (some d) v) w → Q (.panic c) a w := by exact fun _ _ _ h => h) (hw : Region.wanted oi (yielded ops a.tmps) = true := by rfl)
    (hy : ∀ w, S w → (execOp a.eval oi).run P w = .ok (.value v) w := by intro w hSw; (try dsimp only at hSw); go_simp; try with_reducible rfl) : wpAnyH P md ops Q S (fuel + 1) listed a w :=
  step_yes i d v hS hi hd hs hf hr hQ hw hy h
theorem sn (i d : Nat) {oi : Oper} {fuel : Nat} {listed : Array Bool} {a : Act} {w : World} (hi : ops[i]? = some oi) (hd : oi.dst = some d)
    (h : wpAnyH P md ops Q S fuel (listed.setIfInBounds i true) (a.put (some d) undef) w)
    (hS : S w := by assumption) (hs : Region.noSelect ops = true := by kernel_rfl) (hf : Region.free md ops listed i = true := by kernel_rfl) (hr : (Region.ready md ops listed).contains i = true := by kernel_rfl)
    (hQ : ∀ c a w, Q (.panic c) (a.put (some d) undef) w → Q (.panic c) a w := by exact fun _ _ _ h => h) (hw : Region.wanted oi (yielded ops a.tmps) = false := by rfl) : wpAnyH P md ops Q S (fuel + 1) listed a w :=
  step_no i d hS hi hd hs hf hr hQ hw h
end
theorem sA {α : Type} (l : List α) (i : Nat) (a : α) : l.toArray.setIfInBounds i a = (l.set i a).toArray := List.setIfInBounds_toArray ..
theorem s0 {α : Type} (x y : α) (l : List α) : (x :: l).set 0 y = y :: l := rfl
theorem s1 {α : Type} (x y : α) (l : List α) (n : Nat) : (x :: l).set (n + 1) y = x :: l.set n y := rfl
end
section
open Go.RowKit
set_option linter.unusedSimpArgs false
set_option linter.unusedVariables false

/-- A type of elements: its cells, its slices, its zero. -/
structure RowTy (α : Type) where
  enc : α → List Value
  k : Nat
  T : TypeId
  TS : TypeId
  z : α
  zv : Value
  bytes : Nat
  klen : ∀ x, (enc x).length = k
  one : ∀ x, ∀ v ∈ enc x, v.oneCell' = true
  zc : zv.cells.toList = enc z
  kpos : 0 < k
  bpos : bytes ≤ 200
  under : Tryz.prog.underlying TS = some (.slice T)
  info : (Tryz.prog.info? T).map (fun i => (i.zero, i.size, i.bytes)) = some (some zv, k, bytes)

section
variable {α : Type} (R : RowTy α)
def RowTy.flat (xs : List α) : List Value := xs.flatMap R.enc
theorem RowTy.flat_nil : R.flat [] = [] := rfl
theorem RowTy.flat_app (xs ys : List α) : R.flat (xs ++ ys) = R.flat xs ++ R.flat ys := by simp [RowTy.flat]
theorem RowTy.flat_cons (x : α) (ys : List α) : R.flat (x :: ys) = R.enc x ++ R.flat ys := by simp [RowTy.flat]
theorem RowTy.flat_len (xs : List α) : (R.flat xs).length = xs.length * R.k := by
  induction xs with
  | nil => simp [RowTy.flat]
  | cons x xs ih => rw [R.flat_cons, List.length_append, R.klen, ih, List.length_cons, Nat.succ_mul]; omega
theorem RowTy.flat_one (xs : List α) : ∀ v ∈ R.flat xs, v.oneCell' = true := by
  intro v hv
  simp only [RowTy.flat, List.mem_flatMap] at hv
  obtain ⟨x, _, hx⟩ := hv
  exact R.one x v hx
theorem RowTy.flat_at : ∀ (xs : List α) (j i : Nat) (x : α), xs[j]? = some x → i < R.k → (R.flat xs)[j * R.k + i]? = (R.enc x)[i]?
  | [], j, i, x, h, _ => by simp at h
  | y :: ys, 0, i, x, h, hi => by
    simp at h
    subst h
    rw [R.flat_cons, Nat.zero_mul, Nat.zero_add, List.getElem?_append_left (by rw [R.klen]; exact hi)]
  | y :: ys, j + 1, i, x, h, hi => by
    have h' : ys[j]? = some x := by simpa using h
    rw [R.flat_cons, List.getElem?_append_right (by rw [R.klen, Nat.succ_mul]; omega), R.klen]
    rw [show (j + 1) * R.k + i - R.k = j * R.k + i by rw [Nat.succ_mul]; omega]
    exact RowTy.flat_at ys j i x h' hi
theorem RowTy.flat_take (xs : List α) (j : Nat) : R.flat (xs.take j) = (R.flat xs).take (j * R.k) := by
  by_cases h : j ≤ xs.length
  · have e : (R.flat (xs.take j)).length = j * R.k := by rw [R.flat_len, List.length_take, Nat.min_eq_left h]
    have e2 : R.flat xs = R.flat (xs.take j) ++ R.flat (xs.drop j) := by rw [← R.flat_app, List.take_append_drop]
    rw [e2, ← e, List.take_left]
  · rw [List.take_of_length_le (l := xs) (by omega), List.take_of_length_le]
    rw [R.flat_len]
    exact Nat.mul_le_mul_right _ (by omega)
theorem RowTy.flat_drop (xs : List α) (j : Nat) : R.flat (xs.drop j) = (R.flat xs).drop (j * R.k) := by
  by_cases h : j ≤ xs.length
  · have e : (R.flat (xs.take j)).length = j * R.k := by rw [R.flat_len, List.length_take, Nat.min_eq_left h]
    have e2 : R.flat xs = R.flat (xs.take j) ++ R.flat (xs.drop j) := by rw [← R.flat_app, List.take_append_drop]
    rw [e2, ← e, List.drop_left]
  · rw [List.drop_of_length_le (by omega), R.flat_nil, List.drop_of_length_le]
    rw [R.flat_len]
    exact Nat.mul_le_mul_right _ (by omega)
theorem RowTy.flat_ext (l : List Value) (ys : List α) (hl : l.length = ys.length * R.k) (h : ∀ q i x, ys[q]? = some x → i < R.k → l[q * R.k + i]? = (R.enc x)[i]?) : l = R.flat ys := by
  apply List.ext_getElem?
  intro p
  by_cases hp : p < ys.length * R.k
  · have hq : p / R.k < ys.length := (Nat.div_lt_iff_lt_mul R.kpos).2 hp
    have hm : p % R.k < R.k := Nat.mod_lt _ R.kpos
    have e := h (p / R.k) (p % R.k) _ (List.getElem?_eq_getElem hq) hm
    have e2 := R.flat_at ys (p / R.k) (p % R.k) _ (List.getElem?_eq_getElem hq) hm
    rw [Nat.div_add_mod' p R.k] at e e2
    rw [e, e2]
  · rw [List.getElem?_eq_none (by omega), List.getElem?_eq_none (by rw [R.flat_len]; omega)]
theorem RowTy.zeros (n : Nat) : Builtin.zeroCells R.zv.cells n = (R.flat (List.replicate n R.z)).toArray := by
  have hk : R.zv.cells.size = R.k := by rw [← Array.length_toList, R.zc, R.klen]
  apply Array.toList_inj.1
  apply List.ext_getElem?
  intro i
  by_cases hi : i < n * R.k
  · have hd : i / R.k < n := (Nat.div_lt_iff_lt_mul R.kpos).2 hi
    have hm : i % R.k < R.k := Nat.mod_lt _ R.kpos
    have h2 := R.flat_at (List.replicate n R.z) (i / R.k) (i % R.k) R.z (by simp [hd]) hm
    rw [Nat.div_add_mod' i R.k] at h2
    rw [show (R.flat (List.replicate n R.z)).toArray.toList = R.flat (List.replicate n R.z) by simp, h2, ← R.zc]
    simp [Builtin.zeroCells, hk, hi, getElem!_pos, hm]
  · rw [List.getElem?_eq_none (by simp [Builtin.zeroCells, hk]; omega), List.getElem?_eq_none (by simp [R.flat_len]; omega)]

/-- The slice '.slice A n _' reads as these elements. -/
structure RdK (w : World) (A : Option Addr) (n : Nat) (xs : List α) : Prop where
  len : xs.length = n
  cells : ∀ j v, (R.flat xs)[j]? = some v → ∃ a, A = some a ∧ w.cell? (a.add j) = some v
/-- The slice '.slice A xs.length c' owns a row that begins with these. -/
def OwnK (w : World) (A : Option Addr) (c : Nat) (xs : List α) : Prop :=
  (A = none ∧ xs = [] ∧ c = 0) ∨ ∃ (g : Nat) (full : List α), A = some ⟨g, 0, none⟩ ∧ w.heap[g]? = some (.cells (R.flat full).toArray R.T (0, 0)) ∧ full.length = c ∧ c ≤ maxLen ∧ xs.length ≤ c ∧ full.take xs.length = xs
end
section
variable {α : Type} {R : RowTy α}
theorem RdK.nil (w : World) (A : Option Addr) : RdK R w A 0 [] := ⟨rfl, by simp [RowTy.flat]⟩
theorem RdK.chg {S : List Nat} {w w' : World} {A : Option Addr} {n : Nat} {xs : List α} (h : RdK R w A n xs) (hc : Chg S w w') (hn : ∀ a, A = some a → a.block ∉ S) : RdK R w' A n xs :=
  ⟨h.len, fun j u hj => by
    obtain ⟨a, ha, hcell⟩ := h.cells j u hj
    exact ⟨a, ha, hc.cell hcell (by rw [block_add]; exact hn a ha)⟩⟩
/-- One element's cells. -/
theorem RdK.at_ {w : World} {g o n : Nat} {xs : List α} (h : RdK R w (some ⟨g, o, none⟩) n xs) (j i : Nat) (x : α) (v : Value) (hx : xs[j]? = some x) (hi : (R.enc x)[i]? = some v) : w.cell? ⟨g, o + (j * R.k + i), none⟩ = some v := by
  have hik : i < R.k := by rw [← R.klen x]; exact (List.getElem?_eq_some_iff.1 hi).1
  obtain ⟨a, e, hc⟩ := h.cells _ v ((R.flat_at xs j i x hx hik).trans hi)
  cases e
  rwa [add_lit] at hc
theorem RdK.line {w : World} {A : Option Addr} {n : Nat} {xs : List α} (h : RdK R w A n xs) (h0 : 0 < n) : ∃ g o, A = some ⟨g, o, none⟩ ∧ g < w.heap.size := by
  have hl := h.len
  have hp : 0 < (R.flat xs).length := by rw [R.flat_len]; exact Nat.mul_pos (by omega) R.kpos
  obtain ⟨a, rfl, hc⟩ := h.cells 0 _ (List.getElem?_eq_getElem hp)
  have hsp := World.cell?_spot hc
  have hb := lt_of_cell hc
  obtain ⟨g, o, sp⟩ := a
  have hsp : sp = none := by simpa [Addr.add] using hsp
  subst hsp
  rw [block_add] at hb
  exact ⟨g, o, rfl, hb⟩
theorem OwnK.none_ (w : World) : OwnK R w none 0 [] := .inl ⟨rfl, rfl, rfl⟩
theorem OwnK.of {w : World} {g c : Nat} {full xs : List α} (hg : w.heap[g]? = some (.cells (R.flat full).toArray R.T (0, 0))) (h1 : xs.length ≤ c) (h2 : c ≤ maxLen) (h3 : full.length = c) (h4 : full.take xs.length = xs) :
    OwnK R w (some ⟨g, 0, none⟩) c xs := .inr ⟨g, full, rfl, hg, h3, h2, h1, h4⟩
theorem OwnK.cap {w : World} {A : Option Addr} {c : Nat} {xs : List α} (h : OwnK R w A c xs) : xs.length ≤ c ∧ c ≤ maxLen := by
  rcases h with ⟨_, rfl, rfl⟩ | ⟨_, _, _, _, _, h1, h2, _⟩
  · simp [maxLen]
  · exact ⟨h2, h1⟩
theorem OwnK.reads {w : World} {A : Option Addr} {c : Nat} {xs : List α} (h : OwnK R w A c xs) : RdK R w A xs.length xs := by
  refine ⟨rfl, fun j u hj => ?_⟩
  rcases h with ⟨_, rfl, _⟩ | ⟨g, full, rfl, hg, _, _, _, ht⟩
  · simp [RowTy.flat] at hj
  · refine ⟨_, rfl, ?_⟩
    rw [← ht, R.flat_take, List.getElem?_take] at hj
    split at hj
    · rw [add_zero_lit, cell_of hg]; simpa using hj
    · cases hj
theorem OwnK.chg {S : List Nat} {w w' : World} {A : Option Addr} {c : Nat} {xs : List α} (h : OwnK R w A c xs) (hc : Chg S w w') (hn : ∀ a, A = some a → a.block ∉ S) : OwnK R w' A c xs := by
  rcases h with h | ⟨g, full, h1, h2, r⟩
  · exact .inl h
  · exact .inr ⟨g, full, h1, hc.at_ h2 (hn _ h1), r⟩
theorem OwnK.shape {w : World} {A : Option Addr} {c : Nat} {xs : List α} (h : OwnK R w A c xs) : A = none ∧ xs = [] ∧ c = 0 ∨ ∃ g, A = some ⟨g, 0, none⟩ ∧ g < w.heap.size := by
  rcases h with h | ⟨g, full, h, hg, _⟩
  · exact .inl h
  · exact .inr ⟨g, h, lt_of_heap hg⟩
/-- A prefix of what is owned is owned. -/
theorem OwnK.take {w : World} {A : Option Addr} {c : Nat} {xs : List α} (h : OwnK R w A c xs) (j : Nat) : OwnK R w A c (xs.take j) := by
  rcases h with ⟨h1, rfl, h3⟩ | ⟨g, full, h1, h2, h3, h4, h5, h6⟩
  · exact .inl ⟨h1, by simp, h3⟩
  · refine .inr ⟨g, full, h1, h2, h3, h4, by rw [List.length_take]; omega, ?_⟩
    rw [List.length_take]
    conv => rhs; rw [← h6, List.take_take]
theorem RdK.part {w : World} {g o n : Nat} {xs : List α} (h : RdK R w (some ⟨g, o, none⟩) n xs) (q m : Nat) (hq : q + m ≤ n) : RdK R w (some ⟨g, o + q * R.k, none⟩) m ((xs.drop q).take m) := by
  have hl := h.len
  refine ⟨by simp; omega, fun j v hj => ⟨_, rfl, ?_⟩⟩
  rw [R.flat_take, R.flat_drop, List.getElem?_take] at hj
  split at hj
  · rw [List.getElem?_drop] at hj
    obtain ⟨a, e, hc⟩ := h.cells _ v hj
    cases e
    rw [add_lit] at hc ⊢
    rwa [Nat.add_assoc]
  · cases hj

set_option maxRecDepth 100000 in
/-- append of elements to a row that is owned. -/
theorem run_appK (w : World) (ty : TypeId) {A : Option Addr} {c : Nat} {xs : List α} (hown : OwnK R w A c xs) {B : Option Addr} {m d : Nat} {ys : List α} (hr : RdK R w B m ys) (hlen : (xs.length + m) * 400 ≤ 140737488355327) :
    ∃ A' c' w', (Builtin.append_ #[R.TS, R.TS] ty #[.slice A xs.length c, .slice B m d]).run Tryz.prog w = .ok (.slice A' (xs.length + m) c') w' ∧ OwnK R w' A' c' (xs ++ ys) ∧
      w.grownBy w' (A.map (·.block)) ∧ (A' = A ∨ A' = some ⟨w.heap.size, 0, none⟩) := by
  obtain ⟨i0, hi, hz0, hz1, hz2⟩ := info_parts R.info
  have hbp := R.bpos
  have hzs : R.zv.cells.size = R.k := by rw [← Array.length_toList, R.zc, R.klen]
  have hm := hr.len
  subst hm
  rcases B with _ | ad
  · have hy : ys = [] := by
      cases ys with
      | nil => rfl
      | cons y ys =>
        have : 0 < (R.flat (y :: ys)).length := by rw [R.flat_len, List.length_cons]; exact Nat.mul_pos (by omega) R.kpos
        obtain ⟨a, h, _⟩ := hr.cells 0 _ (List.getElem?_eq_getElem this); cases h
    subst hy
    have h0 : (Builtin.append_ #[R.TS, R.TS] ty #[.slice A xs.length c, .slice none 0 d]).run Tryz.prog w = .ok (.slice A xs.length c) w := by
      rcases hown with ⟨rfl, rfl, rfl⟩ | ⟨g, full, rfl, _, _, _, hnc, _⟩
      · simp [Builtin.append_, run_underlying R.under, sizeOf, typeInfo, hi, Builtin.lenOf, Builtin.firstCells]
      · simp [Builtin.append_, run_underlying R.under, sizeOf, typeInfo, hi, Builtin.lenOf, Builtin.firstCells, hnc, storeCells]
    exact ⟨A, c, w, h0, by simpa using hown, World.grownBy.refl w _, .inl rfl⟩
  have hnews : ∀ j u, (R.flat ys)[j]? = some u → w.cell? (ad.add j) = some u := by
    intro j u hu
    obtain ⟨a, e, hc⟩ := hr.cells j u hu
    cases e
    exact hc
  have hl : (R.flat ys).length = ys.length * i0.size := by rw [hz1, R.flat_len]
  have h1 := R.flat_one ys
  have hbnd : ∀ q, q * 400 ≤ 140737488355327 → (q * 2) * i0.bytes ≤ 281474976710656 := fun q hq => by
    rw [hz2]
    have := Nat.mul_le_mul_left (q * 2) hbp
    omega
  have grown : ∀ (old : Nat) (row : Option Nat), let cap' := grownCap w (xs.length + ys.length) old R.T
      OwnK R (w.drew.alloc (.cells ((R.flat xs).toArray ++ (R.flat ys).toArray ++ Builtin.zeroCells R.zv.cells (cap' - (xs.length + ys.length))) R.T)) (some ⟨w.heap.size, 0, none⟩) cap' (xs ++ ys) ∧
      w.grownBy (w.drew.alloc (.cells ((R.flat xs).toArray ++ (R.flat ys).toArray ++ Builtin.zeroCells R.zv.cells (cap' - (xs.length + ys.length))) R.T)) row := by
    intro old row cap'
    have hge : xs.length + ys.length ≤ cap' := grownCap_ge w _ old _
    have hcm : cap' ≤ maxLen := grownCap_le_maxLen w _ old _ (by simp only [maxLen]; omega)
    have e : (R.flat (xs ++ ys ++ List.replicate (cap' - (xs.length + ys.length)) R.z)).toArray = (R.flat xs).toArray ++ (R.flat ys).toArray ++ (R.flat (List.replicate (cap' - (xs.length + ys.length)) R.z)).toArray := by
      rw [R.flat_app, R.flat_app, List.append_toArray, List.append_toArray]
    refine ⟨.of (full := xs ++ ys ++ List.replicate (cap' - (xs.length + ys.length)) R.z) ?_ (by simpa using hge) hcm (by simp; omega) List.take_left, ⟨rfl, rfl, rfl, by simp, fun k hk _ => Below.heap_alloc w.drew _ k hk⟩⟩
    rw [R.zeros, e]
    exact heap_alloc_new w.drew _
  rcases hown with ⟨rfl, rfl, rfl⟩ | ⟨g, full, rfl, hg, hfl, hcm, hnc, htake⟩
  · by_cases hy : ys.length = 0
    · have hn : ys = [] := List.eq_nil_of_length_eq_zero hy
      subst hn
      refine ⟨none, 0, w, ?_, OwnK.none_ w, World.grownBy.refl w _, .inl rfl⟩
      simp [Builtin.append_, run_underlying R.under, sizeOf, typeInfo, hi, Builtin.lenOf, Builtin.firstCells, loadCells, loadCellsFrom]
    · have hbn := hbnd ys.length (by simpa using hlen)
      have hr := run_append_nil (P := Tryz.prog) w R.TS ty R.T i0 R.zv R.under hi hz0 ad ys.length d (R.flat ys) hl hnews (by omega) (by simp at hlen; omega) (Nat.le_trans (Nat.mul_le_mul_right _ (by omega)) hbn)
      have hgr := grown 0 none
      simp only [List.length_nil, Nat.zero_add, RowTy.flat_nil, List.nil_append, Array.empty_append] at hgr ⊢
      exact ⟨_, _, _, hr, hgr.1, hgr.2, .inr rfl⟩
  · by_cases hroom : xs.length + ys.length ≤ c
    · have hfit : xs.length * i0.size + (R.flat ys).length ≤ (R.flat full).toArray.size := by
        rw [hz1, R.flat_len, List.size_toArray, R.flat_len, ← Nat.add_mul]; exact Nat.mul_le_mul_right _ (by omega)
      have hr := run_append_room (P := Tryz.prog) w R.TS ty R.T i0 R.under hi g xs.length c _ hg ad ys.length d (R.flat ys) hl hnews h1 hroom hfit
      refine ⟨_, _, _, hr, .of (full := full.take xs.length ++ ys ++ full.drop (xs.length + ys.length)) ?_ (by simpa using hroom) hcm (by simp; omega) (by rw [htake, ← List.length_append]; exact List.take_left), ⟨rfl, rfl, rfl, by simp, fun k hk hne => setRow_other w g k _ (fun e => hne (by simp [e]))⟩, .inl rfl⟩
      have hs := setRow_heap w g _ ((R.flat full).toArray.toList.take (xs.length * i0.size) ++ R.flat ys ++ (R.flat full).toArray.toList.drop (xs.length * i0.size + (R.flat ys).length)).toArray _ _ hg
      rw [hs, R.flat_app, R.flat_app, R.flat_take, R.flat_drop, hz1, R.flat_len, Nat.add_mul]
    · have holds : ∀ j u, (R.flat xs)[j]? = some u → w.cell? ((⟨g, 0, none⟩ : Addr).add j) = some u := by
        intro j u hu
        obtain ⟨a, e, hc⟩ := (OwnK.of hg hnc hcm hfl htake).reads.cells j u hu
        cases e
        exact hc
      have hr := run_append_grow (P := Tryz.prog) w R.TS ty R.T i0 R.zv R.under hi hz0 ⟨g, 0, none⟩ xs.length c (R.flat xs) (by rw [hz1, R.flat_len]) holds ad ys.length d (R.flat ys) hl hnews (by omega) (by omega)
        (growslice_fits (by omega) (by rw [hz2]; have := Nat.mul_le_mul_left (xs.length + ys.length) hbp; omega))
      have hgr := grown c (some g)
      exact ⟨_, _, _, hr, hgr.1, hgr.2, .inr rfl⟩
theorem wpList_appK {ops : Array Oper} {rest : List Oper} {o : Oper} {a : Act} {w : World} {Q : Exit → Act → World → Prop} (hgd : o.guard = none) (s x : Operand)
    (ho : o.op = .call { callee := .builtin .append, args := #[s, x], argTypes := #[R.TS, R.TS] })
    {A : Option Addr} {c n : Nat} {xs : List α} (hs : a.eval s = .slice A n c) (hown : OwnK R w A c xs) (hn : xs.length = n) {B : Option Addr} {m d : Nat} {ys : List α} (hx : a.eval x = .slice B m d) (hr : RdK R w B m ys) (hlen : (n + m) * 400 ≤ 140737488355327)
    (h : ∀ A' c' w', OwnK R w' A' c' (xs ++ ys) → w.grownBy w' (A.map (·.block)) → (A' = A ∨ A' = some ⟨w.heap.size, 0, none⟩) → wpList Tryz.prog ops Q rest (a.put o.dst (.slice A' (n + m) c')) w') : wpList Tryz.prog ops Q (o :: rest) a w :=
  wpList_plain hgd fun _ hK => by
    subst hn
    obtain ⟨A', c', w', hrun, h2, h3, h4⟩ := run_appK w o.type hown (d := d) hr hlen
    unfold Oper.wp execOp
    simp only [ho, resolve, invoke, builtin, Sem.run_bind, Sem.run_pure, Result.andThen_ok, List.map_toArray, List.map_cons, List.map_nil, hs, hx, hrun]
    exact hK _ _ (h A' c' w' h2 h3 h4)
theorem step_appK {ops : Array Oper} {o : Oper} {a : Act} {w : World} {K : Act → World → Prop} {Q : Exit → Act → World → Prop} {E : Prop} (hgd : o.guard = none) (s x : Operand)
    (ho : o.op = .call { callee := .builtin .append, args := #[s, x], argTypes := #[R.TS, R.TS] })
    {A : Option Addr} {c n : Nat} {xs : List α} (hs : a.eval s = .slice A n c) (hown : OwnK R w A c xs) (hn : xs.length = n) {B : Option Addr} {m d : Nat} {ys : List α} (hx : a.eval x = .slice B m d) (hr : RdK R w B m ys) (hlen : (n + m) * 400 ≤ 140737488355327)
    (h : ∀ A' c' w', OwnK R w' A' c' (xs ++ ys) → w.grownBy w' (A.map (·.block)) → (A' = A ∨ A' = some ⟨w.heap.size, 0, none⟩) → K (a.put o.dst (.slice A' (n + m) c')) w') :
    if Region.wanted o (yielded ops a.tmps) = true then Oper.wp Tryz.prog o a w K Q else E := by
  have hw : Region.wanted o (yielded ops a.tmps) = true := by simp [Region.wanted, hgd]
  rw [if_pos hw]
  subst hn
  obtain ⟨A', c', w', hrun, h2, h3, h4⟩ := run_appK w o.type hown (d := d) hr hlen
  unfold Oper.wp execOp
  simp only [ho, resolve, invoke, builtin, Sem.run_bind, Sem.run_pure, Result.andThen_ok, List.map_toArray, List.map_cons, List.map_nil, hs, hx, hrun]
  exact h A' c' w' h2 h3 h4
end
end
section
open Go.RowKit

/-- Bytes in memory of their own, which was not there at first. -/
def Fresh (w w' : World) (A : Option Addr) (c : Nat) (ys : List UInt8) : Prop := OwnB w' A c ys ∧ (∀ a, A = some a → w.heap.size ≤ a.block) ∧ Chg [] w w'

theorem OwnB.empty (w : World) : OwnB (w.alloc (.cells #[] 5)) (some ⟨w.heap.size, 0, none⟩) 0 [] := .of (full := []) (heap_alloc_new w _) (by simp) (by simp [maxLen]) rfl (by simp)

theorem fresh_app {w w1 : World} {A' : Option Addr} {c' : Nat} {ys : List UInt8} (own1 : OwnB w1 A' c' ([] ++ ys)) (hg1 : (w.alloc (.cells #[] 5)).grownBy w1 (Option.map (·.block) (some (⟨w.heap.size, 0, none⟩ : Addr))))
    (hA1 : A' = some ⟨w.heap.size, 0, none⟩ ∨ A' = some ⟨(w.alloc (.cells #[] 5)).heap.size, 0, none⟩) : Fresh w w1 A' c' ys := by
  refine ⟨own1, ?_, ((Chg.refl [] w).alloc _).grown hg1 (by simp)⟩
  rintro a rfl
  rcases hA1 with h | h <;> cases h <;> simp

set_option maxHeartbeats 400000 in
theorem clone_any (w : World) (B : Option Addr) (m d : Nat) (ys : List UInt8) (hr : Bs w B m ys) (hm : m ≤ 140737488351232) :
    Calls Tryz.prog 83 #[.slice B m d] w fun r w' => ∃ A c, r = .returned (.slice A m c) ∧ Fresh w w' A c ys := by
  rcases B with _ | a
  · have hy : ys = [] := by
      cases ys with
      | nil => rfl
      | cons y ys => obtain ⟨a, h, _⟩ := hr.cells 0 y rfl; cases h
    have hm0 := hr.len
    subst hy
    simp at hm0
    subst hm0
    have h0 := fun w => Lib.run_eql_slice_nil (P := Tryz.prog) w 23 5 none 0 d 0 0 Tryz.underlying23
    go_enter Tryz.func83, Tryz.ntmps83
    go_wp2
    go_ret
    exact ⟨none, 0, rfl, OwnB.none_ _, by simp, Chg.refl _ _⟩
  · have h0 := fun w => Lib.run_eql_slice_nil (P := Tryz.prog) w 23 5 (some a) m d 0 0 Tryz.underlying23
    go_enter Tryz.func83, Tryz.ntmps83
    go_wp2_with (at_builtin; refine wpList_app rfl _ _ rfl rfl (OwnB.empty w) rfl rfl (hr.chg ((Chg.refl [] w).alloc _) (by simp)) (by simp; omega) ?_; intro A' c' w1 own1 hg1 hA1)
    go_ret
    exact ⟨A', c', by simp, fresh_app own1 hg1 hA1⟩

set_option maxHeartbeats 400000 in
theorem copy_any (w : World) (B : Option Addr) (m d : Nat) (ys : List UInt8) (hr : Bs w B m ys) (hm : m ≤ 140737488351232) :
    Calls Tryz.prog 39 #[.slice B m d] w fun r w' => ∃ A c, r = .returned (.slice A m c) ∧ Fresh w w' A c ys := by
  go_enter Tryz.func39, Tryz.ntmps39
  go_wp2_with (at_builtin; refine wpList_app rfl _ _ rfl rfl (OwnB.empty w) rfl rfl (hr.chg ((Chg.refl [] w).alloc _) (by simp)) (by simp; omega) ?_; intro A' c' w1 own1 hg1 hA1)
  go_ret
  exact ⟨A', c', by simp, fresh_app own1 hg1 hA1⟩
end
end Go.Proofs.YtimdfpejgaidhaaGreatDoor
