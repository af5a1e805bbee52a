/- Words on memory that the walks over this seat share: bytes read, bytes owned, what a step leaves alone. No function of the program is named here. Sets of dots as lists of spans: plain functions. No function of the program is named here. Two sets of dots gone through at a time: plain functions. No function of the program is named here. New blocks, and the world behind them, under one name. Rows of elements of several cells each (structs): read, owned, appended to. No function of the program is named here. math/bits.Len64 and wire.width: how many bytes a number takes. The writer of package wire: what each of its calls does. The writer's exported calls: Num, Text, Raw, Out. The writer's Raw, Text and Out. -/
import Derived.Test.YtdfapiffalmjcaaGreatDoorRows
import Derived.WalkKit
import Derived.WalkSpells
import Derived.WalkLawsBesides
import Derived.LaidEqlPtr
import Derived.Lib.Hide
import Derived.Maps.AppendAt
import Derived.OrdersHeld
import Derived.Deep.DeepAppendWide
import Derived.Lib.BitFns
namespace Go.Proofs.YtdfapiffalmjcaaGreatDoor
section
open Go.RowKit

/-- A byte as a value. -/
def bv (c : UInt8) : Value := .int .u8 (c.toNat : Int)

/-- Outside the blocks S nothing that was there has turned. -/
structure Chg (S : List Nat) (w w' : World) : Prop where
  os : w'.os = w.os
  tape : w'.tape = w.tape
  output : w'.output = w.output
  size : w.heap.size ≤ w'.heap.size
  block : ∀ k, k < w.heap.size → k ∉ S → w'.heap[k]? = w.heap[k]?

theorem Chg.refl (S : List Nat) (w : World) : Chg S w w := ⟨rfl, rfl, rfl, Nat.le_refl _, fun _ _ _ => rfl⟩
theorem Chg.trans {S : List Nat} {a b c : World} (h : Chg S a b) (k : Chg S b c) : Chg S a c :=
  ⟨k.os.trans h.os, k.tape.trans h.tape, k.output.trans h.output, Nat.le_trans h.size k.size, fun i hi hn => (k.block i (Nat.lt_of_lt_of_le hi h.size) hn).trans (h.block i hi hn)⟩
/-- A later step may turn blocks that were not there at first. -/
theorem Chg.trans' {S S' : List Nat} {a b c : World} (h : Chg S a b) (k : Chg S' b c) (hs : ∀ i ∈ S', i ∈ S ∨ a.heap.size ≤ i) : Chg S a c :=
  ⟨k.os.trans h.os, k.tape.trans h.tape, k.output.trans h.output, Nat.le_trans h.size k.size, fun i hi hn => (k.block i (Nat.lt_of_lt_of_le hi h.size) (fun hm => by
    rcases hs i hm with h1 | h1
    · exact hn h1
    · omega)).trans (h.block i hi hn)⟩
theorem Chg.mono {S S' : List Nat} {a b : World} (h : Chg S a b) (hs : ∀ i ∈ S, i ∈ S' ∨ a.heap.size ≤ i) : Chg S' a b :=
  ⟨h.os, h.tape, h.output, h.size, fun i hi hn => h.block i hi (fun hm => by
    rcases hs i hm with h1 | h1
    · exact hn h1
    · omega)⟩
theorem Chg.drew {S : List Nat} {a w : World} (h : Chg S a w) : Chg S a w.drew := ⟨h.os, h.tape, h.output, h.size, h.block⟩
theorem Chg.drewN {S : List Nat} {a w : World} (h : Chg S a w) (n : Nat) : Chg S a (w.drewN n) := ⟨h.os, h.tape, h.output, h.size, h.block⟩
theorem Chg.alloc {S : List Nat} {a w : World} (h : Chg S a w) (o : Obj) : Chg S a (w.alloc o) :=
  h.trans ⟨rfl, rfl, rfl, by simp, fun k hk _ => Below.heap_alloc _ _ _ hk⟩
theorem Chg.setCell {S : List Nat} {a w : World} (h : Chg S a w) {p : Addr} (hp : p.block ∈ S ∨ a.heap.size ≤ p.block) (u : Value) : Chg S a (w.setCell p u) :=
  ⟨h.os, h.tape, h.output, by simpa [World.setCell] using h.size, fun k hk hn => (Below.heap_setCell _ _ _ _ (by
    rintro rfl
    rcases hp with h1 | h1
    · exact hn h1
    · omega)).trans (h.block k hk hn)⟩
theorem Chg.grown {S : List Nat} {a w w' : World} {row : Option Nat} (h : Chg S a w) (hg : w.grownBy w' row) (hr : ∀ k, row = some k → k ∈ S ∨ a.heap.size ≤ k) : Chg S a w' :=
  ⟨hg.os.trans h.os, hg.tape.trans h.tape, hg.output.trans h.output, Nat.le_trans h.size hg.size, fun k hk hn => (hg.block k (Nat.lt_of_lt_of_le hk h.size) (fun e => by
    rcases hr k e.symm with h1 | h1
    · exact hn h1
    · omega)).trans (h.block k hk hn)⟩
theorem Chg.ofBelow {B : Nat} {a b : World} (h : Below B a b) (hB : a.heap.size ≤ B) (S : List Nat) : Chg S a b :=
  ⟨h.os, h.tape, h.output, h.size, fun k hk _ => h.block k (by omega)⟩
theorem Chg.toBelow {a b : World} (h : Chg [] a b) : Below a.heap.size a b := ⟨h.os, h.tape, h.output, h.size, fun k hk => h.block k hk (by simp)⟩

theorem heap_alloc_two (w : World) (o o' : Obj) : ((w.alloc o).alloc o').heap[w.heap.size + 1]? = some o' := by
  have := heap_alloc_new (w.alloc o) o'
  rwa [World.size_alloc] at this
theorem lt_of_heap {w : World} {b : Nat} {o : Obj} (h : w.heap[b]? = some o) : b < w.heap.size := (Array.getElem?_eq_some_iff.1 h).1
theorem Chg.at_ {S : List Nat} {w w' : World} {b : Nat} {o : Obj} (h : Chg S w w') (hb : w.heap[b]? = some o) (hn : b ∉ S) : w'.heap[b]? = some o :=
  (h.block b (lt_of_heap hb) hn).trans hb
theorem lt_of_cell {w : World} {a : Addr} {v : Value} (h : w.cell? a = some v) : a.block < w.heap.size := by
  unfold World.cell? at h
  split at h
  · rename_i hb; exact lt_of_heap hb
  · cases h
theorem Chg.cell {S : List Nat} {w w' : World} {a : Addr} {v : Value} (h : Chg S w w') (hc : w.cell? a = some v) (hn : a.block ∉ S) : w'.cell? a = some v :=
  (World.cell?_of_block (w := w) (h.block _ (lt_of_cell hc) hn)).trans hc

/-- The slice '.slice A n _' reads as these bytes. -/
structure Bs (w : World) (A : Option Addr) (n : Nat) (xs : List UInt8) : Prop where
  len : xs.length = n
  cells : ∀ j c, xs[j]? = some c → ∃ a, A = some a ∧ w.cell? (a.add j) = some (bv c)

theorem block_add (a : Addr) (n : Nat) : (a.add n).block = a.block := by unfold Addr.add; split <;> rfl
theorem add_zero_lit (g j : Nat) : (⟨g, 0, none⟩ : Addr).add j = ⟨g, j, none⟩ := by unfold Addr.add; split <;> simp_all
theorem add_lit (g o j : Nat) : (⟨g, o, none⟩ : Addr).add j = ⟨g, o + j, none⟩ := by unfold Addr.add; split <;> simp_all

theorem Bs.nil (w : World) (A : Option Addr) : Bs w A 0 [] := ⟨rfl, by simp⟩
theorem Bs.chg {S : List Nat} {w w' : World} {A : Option Addr} {n : Nat} {xs : List UInt8} (h : Bs w A n xs) (hc : Chg S w w') (hn : ∀ a, A = some a → a.block ∉ S) : Bs w' A n xs :=
  ⟨h.len, fun j c hj => by
    obtain ⟨a, rfl, hx⟩ := h.cells j c hj
    exact ⟨a, rfl, hc.cell hx (by rw [block_add]; exact hn a rfl)⟩⟩
/-- The slice '.slice A xs.length c' owns a row of bytes that begins with these. -/
def OwnB (w : World) (A : Option Addr) (c : Nat) (xs : List UInt8) : Prop :=
  (A = none ∧ xs = [] ∧ c = 0) ∨ ∃ (g : Nat) (full : List UInt8), A = some ⟨g, 0, none⟩ ∧ w.heap[g]? = some (.cells (full.map bv).toArray 5 (0, 0)) ∧ full.length = c ∧ c ≤ maxLen ∧ xs.length ≤ c ∧ full.take xs.length = xs

theorem OwnB.none_ (w : World) : OwnB w none 0 [] := .inl ⟨rfl, rfl, rfl⟩
theorem OwnB.form {w : World} {A : Option Addr} {c : Nat} {xs : List UInt8} (h : OwnB w A c xs) :
    (A = none ∧ xs = [] ∧ c = 0) ∨ ∃ g cur, A = some ⟨g, 0, none⟩ ∧ w.heap[g]? = some (.cells cur 5 (0, 0)) ∧ xs.length ≤ c ∧ c ≤ maxLen ∧ cur.size = c ∧ cur.toList.take xs.length = xs.map bv := by
  rcases h with h | ⟨g, full, h1, h2, h3, h4, h5, h6⟩
  · exact .inl h
  · refine .inr ⟨g, _, h1, h2, h5, h4, by simpa using h3, ?_⟩
    show (full.map bv).take xs.length = _
    rw [← List.map_take, h6]
theorem OwnB.of {w : World} {g c : Nat} {full xs : List UInt8} (hg : w.heap[g]? = some (.cells (full.map bv).toArray 5 (0, 0))) (h1 : xs.length ≤ c) (h2 : c ≤ maxLen) (h3 : full.length = c) (h4 : full.take xs.length = xs) :
    OwnB w (some ⟨g, 0, none⟩) c xs := .inr ⟨g, full, rfl, hg, h3, h2, h1, h4⟩
theorem OwnB.reads {w : World} {A : Option Addr} {c : Nat} {xs : List UInt8} (h : OwnB w A c xs) : Bs w A xs.length xs := by
  refine ⟨rfl, fun j u hj => ?_⟩
  rcases h.form with ⟨_, rfl, _⟩ | ⟨g, cur, rfl, hg, _, _, _, ht⟩
  · simp at hj
  · refine ⟨_, rfl, ?_⟩
    have hl : j < xs.length := (List.getElem?_eq_some_iff.1 hj).1
    have e : (cur.toList.take xs.length)[j]? = some (bv u) := by rw [ht]; simp [hj]
    rw [List.getElem?_take, if_pos hl] at e
    rw [add_zero_lit]
    simp [World.cell?, hg] at e ⊢
    exact e
theorem OwnB.keep {w w' : World} {A : Option Addr} {c : Nat} {xs : List UInt8} (h : OwnB w A c xs) (hk : ∀ g o, A = some ⟨g, 0, none⟩ → w.heap[g]? = some o → w'.heap[g]? = some o) : OwnB w' A c xs := by
  rcases h with h | ⟨g, full, h1, h2, r⟩
  · exact .inl h
  · exact .inr ⟨g, full, h1, hk g _ h1 h2, r⟩
theorem OwnB.chg {S : List Nat} {w w' : World} {A : Option Addr} {c : Nat} {xs : List UInt8} (h : OwnB w A c xs) (hc : Chg S w w') (hn : ∀ a, A = some a → a.block ∉ S) : OwnB w' A c xs :=
  h.keep fun _ _ e ho => hc.at_ ho (hn _ e)

theorem cell_of {w : World} {b : Nat} {cs : Array Value} {t : TypeId} {fr : Nat × Nat} (h : w.heap[b]? = some (.cells cs t fr)) (j : Nat) : w.cell? ⟨b, j, none⟩ = cs[j]? := by simp [World.cell?, h]
theorem free_of {w : World} {b : Nat} {cs : Array Value} {t : TypeId} (h : w.heap[b]? = some (.cells cs t (0, 0))) (j : Nat) : w.frozen? ⟨b, j, none⟩ = false := by simp [World.frozen?, h]

/-- A string of bytes. -/
def strOf (ys : List UInt8) : ByteArray := ⟨ys.toArray⟩
theorem strOf_data (ys : List UInt8) : (strOf ys).data.toList = ys := by simp [strOf]
theorem strOf_size (ys : List UInt8) : (strOf ys).size = ys.length := by simp [strOf, ByteArray.size]
@[go_sem] theorem strOf_toList (ys : List UInt8) : (strOf ys).toList = ys := ByteArray.toList_mk ys
theorem run_str (w : World) {A : Option Addr} {n c : Nat} {ys : List UInt8} (h : Bs w A n ys) : (convert 25 9 (.slice A n c)).run Tryz.prog w = .ok (.string (strOf ys)) w := by
  have hn := h.len
  subst hn
  cases A with
  | none =>
    have hy : ys = [] := by
      cases ys with
      | nil => rfl
      | cons y ys => obtain ⟨a, h, _⟩ := h.cells 0 y rfl; cases h
    subst hy
    exact run_convert_bytes_nil w 25 5 Tryz.underlying25 Tryz.underlying5 _ c 9 Tryz.underlying9
  | some a =>
    refine run_convert_bytes_back w 25 9 5 a c ys Tryz.underlying25 Tryz.underlying5 Tryz.underlying9 (fun j hj => ?_)
    obtain ⟨a', e, hc⟩ := h.cells j _ (List.getElem?_eq_getElem hj)
    cases e
    exact hc

theorem info8 : (Tryz.prog.info? 5).map (fun i => (i.zero, i.size, i.bytes)) = some (some (.int .u8 0), 1, 1) := by kernel_rfl

/-- Bytes, then zeros. -/
theorem zeros_bv (n : Nat) : Builtin.zeroCells (Value.int .u8 0).cells n = ((List.replicate n (0 : UInt8)).map bv).toArray := by
  apply Array.toList_inj.1
  rw [List.map_replicate]
  have hz : bv 0 = .int .u8 0 := rfl
  rw [hz]
  apply List.ext_getElem
  · simp [Builtin.zeroCells, Value.cells]
  · intro i h1 h2
    simp [Builtin.zeroCells, Value.cells, Nat.mod_one]

set_option maxRecDepth 100000 in
/-- append of bytes to a row that is owned. -/
theorem run_app (w : World) (ty : TypeId) {A : Option Addr} {c : Nat} {xs : List UInt8} (hown : OwnB w A c xs) {B : Option Addr} {m d : Nat} {ys : List UInt8} (hr : Bs w B m ys) (hlen : xs.length + m ≤ 140737488355327) :
    ∃ A' c' w', (Builtin.append_ #[25, 25] ty #[.slice A xs.length c, .slice B m d]).run Tryz.prog w = .ok (.slice A' (xs.length + m) c') w' ∧ OwnB w' A' c' (xs ++ ys) ∧
      w.grownBy w' (A.map (·.block)) ∧ (A' = A ∨ A' = some ⟨w.heap.size, 0, none⟩) := by
  obtain ⟨i0, hi, hz0, hz1, hz2⟩ := info_parts info8
  have hm := hr.len
  subst hm
  rcases B with _ | ad
  · have hy : ys = [] := by
      cases ys with
      | nil => rfl
      | cons y ys => obtain ⟨a, h, _⟩ := hr.cells 0 y rfl; cases h
    subst hy
    have h0 : (Builtin.append_ #[25, 25] ty #[.slice A xs.length c, .slice none 0 d]).run Tryz.prog w = .ok (.slice A xs.length c) w := by
      rcases hown.form with ⟨rfl, rfl, rfl⟩ | ⟨g, cur, rfl, _, hnc, _⟩
      · simp [Builtin.append_, run_underlying Tryz.underlying25, sizeOf, typeInfo, hi, Builtin.lenOf, Builtin.firstCells]
      · simp [Builtin.append_, run_underlying Tryz.underlying25, sizeOf, typeInfo, hi, Builtin.lenOf, Builtin.firstCells, hnc, storeCells]
    exact ⟨A, c, w, h0, by simpa using hown, World.grownBy.refl w _, .inl rfl⟩
  have hnews : ∀ j u, (ys.map bv)[j]? = some u → w.cell? (ad.add j) = some u := by
    intro j u hu
    rw [List.getElem?_map, Option.map_eq_some_iff] at hu
    obtain ⟨y, hy, rfl⟩ := hu
    obtain ⟨a, e, hc⟩ := hr.cells j y hy
    cases e
    exact hc
  have hl : (ys.map bv).length = ys.length * i0.size := by rw [hz1]; simp
  have h1 : ∀ u ∈ ys.map bv, u.oneCell' = true := by intro u hu; rw [List.mem_map] at hu; obtain ⟨c, _, rfl⟩ := hu; rfl
  have grown : ∀ (old : Nat) (row : Option Nat), let cap' := grownCap w (xs.length + ys.length) old 5
      OwnB (w.drew.alloc (.cells ((xs.map bv).toArray ++ (ys.map bv).toArray ++ Builtin.zeroCells (Value.int .u8 0).cells (cap' - (xs.length + ys.length))) 5)) (some ⟨w.heap.size, 0, none⟩) cap' (xs ++ ys) ∧
      w.grownBy (w.drew.alloc (.cells ((xs.map bv).toArray ++ (ys.map bv).toArray ++ Builtin.zeroCells (Value.int .u8 0).cells (cap' - (xs.length + ys.length))) 5)) row := by
    intro old row cap'
    have hge : xs.length + ys.length ≤ cap' := grownCap_ge w _ old _
    have hcm : cap' ≤ maxLen := grownCap_le_maxLen w _ old _ (by simp only [maxLen]; omega)
    have e : ((xs ++ ys ++ List.replicate (cap' - (xs.length + ys.length)) (0 : UInt8)).map bv).toArray = (xs.map bv).toArray ++ (ys.map bv).toArray ++ ((List.replicate (cap' - (xs.length + ys.length)) (0 : UInt8)).map bv).toArray := by
      simp only [List.map_append, List.append_toArray]
    refine ⟨.of (full := xs ++ ys ++ List.replicate (cap' - (xs.length + ys.length)) 0) ?_ (by simpa using hge) hcm (by simp; omega) List.take_left, ⟨rfl, rfl, rfl, by simp, fun k hk _ => Below.heap_alloc w.drew _ k hk⟩⟩
    rw [zeros_bv, e]
    exact heap_alloc_new w.drew _
  rcases hown with ⟨rfl, rfl, rfl⟩ | ⟨g, full, rfl, hg, hfl, hcm, hnc, htake⟩
  · by_cases hy : ys.length = 0
    · have hn : ys = [] := List.eq_nil_of_length_eq_zero hy
      subst hn
      refine ⟨none, 0, w, ?_, OwnB.none_ w, World.grownBy.refl w _, .inl rfl⟩
      simp [Builtin.append_, run_underlying Tryz.underlying25, sizeOf, typeInfo, hi, Builtin.lenOf, Builtin.firstCells, loadCells, loadCellsFrom]
    · have hr := run_append_nil (P := Tryz.prog) w 25 ty 5 i0 (.int .u8 0) Tryz.underlying25 hi hz0 ad ys.length d (ys.map bv) hl hnews (by omega) (by simp at hlen; omega) (by rw [hz2]; simp at hlen; omega)
      have hgr := grown 0 none
      simp only [List.length_nil, Nat.zero_add, List.map_nil, List.nil_append, Array.empty_append] at hgr ⊢
      exact ⟨_, _, _, hr, hgr.1, hgr.2, .inr rfl⟩
  · by_cases hroom : xs.length + ys.length ≤ c
    · have hfit : xs.length * i0.size + (ys.map bv).length ≤ (full.map bv).toArray.size := by rw [hz1]; simp; omega
      have hr := run_append_room (P := Tryz.prog) w 25 ty 5 i0 Tryz.underlying25 hi g xs.length c _ hg ad ys.length d (ys.map bv) hl hnews h1 hroom hfit
      refine ⟨_, _, _, hr, .of (full := full.take xs.length ++ ys ++ full.drop (xs.length + ys.length)) ?_ (by simpa using hroom) hcm (by simp; omega) (by rw [htake, ← List.length_append]; exact List.take_left), ⟨rfl, rfl, rfl, by simp, fun k hk hne => setRow_other w g k _ (fun e => hne (by simp [e]))⟩, .inl rfl⟩
      have hs := setRow_heap w g _ ((full.map bv).toArray.toList.take (xs.length * i0.size) ++ ys.map bv ++ (full.map bv).toArray.toList.drop (xs.length * i0.size + (ys.map bv).length)).toArray _ _ hg
      rw [hs]
      congr 2
      rw [hz1]
      simp
    · have holds : ∀ j u, (xs.map bv)[j]? = some u → w.cell? ((⟨g, 0, none⟩ : Addr).add j) = some u := by
        intro j u hu
        rw [List.getElem?_map, Option.map_eq_some_iff] at hu
        obtain ⟨y, hy, rfl⟩ := hu
        obtain ⟨a, e, hc⟩ := (OwnB.of hg hnc hcm hfl htake).reads.cells j y hy
        cases e
        exact hc
      have hr := run_append_grow (P := Tryz.prog) w 25 ty 5 i0 (.int .u8 0) Tryz.underlying25 hi hz0 ⟨g, 0, none⟩ xs.length c (xs.map bv) (by rw [hz1]; simp) holds ad ys.length d (ys.map bv) hl hnews (by omega) (by omega)
        (growslice_fits (by omega) (by rw [hz2]; omega))
      have hgr := grown c (some g)
      exact ⟨_, _, _, hr, hgr.1, hgr.2, .inr rfl⟩

theorem wpList_app {ops : Array Oper} {rest : List Oper} {o : Oper} {a : Act} {w : World} {Q : Exit → Act → World → Prop} (hgd : o.guard = none) (s x : Operand)
    (ho : o.op = .call { callee := .builtin .append, args := #[s, x], argTypes := #[25, 25] })
    {A : Option Addr} {c n : Nat} {xs : List UInt8} (hs : a.eval s = .slice A n c) (hown : OwnB w A c xs) (hn : xs.length = n) {B : Option Addr} {m d : Nat} {ys : List UInt8} (hx : a.eval x = .slice B m d) (hr : Bs w B m ys) (hlen : n + m ≤ 140737488355327)
    (h : ∀ A' c' w', OwnB w' A' c' (xs ++ ys) → w.grownBy w' (A.map (·.block)) → (A' = A ∨ A' = some ⟨w.heap.size, 0, none⟩) → wpList Tryz.prog ops Q rest (a.put o.dst (.slice A' (n + m) c')) w') : wpList Tryz.prog ops Q (o :: rest) a w :=
  wpList_plain hgd fun _ hK => by
    subst hn
    obtain ⟨A', c', w', hrun, h2, h3, h4⟩ := run_app w o.type hown (d := d) hr hlen
    unfold Oper.wp execOp
    simp only [ho, resolve, invoke, builtin, Sem.run_bind, Sem.run_pure, Result.andThen_ok, List.map_toArray, List.map_cons, List.map_nil, hs, hx, hrun]
    exact hK _ _ (h A' c' w' h2 h3 h4)
end
section
set_option linter.unusedSimpArgs false
set_option linter.unusedVariables false

abbrev Sp := Int × Int × Int
/-- The first is ahead of the second, and does not touch it. -/
def Ap (x y : Sp) : Prop := x.1 < y.1 ∨ x.1 = y.1 ∧ x.2.2 + 1 < y.2.1
instance (x y : Sp) : Decidable (Ap x y) := by unfold Ap; exact inferInstance
def SpOk (x : Sp) : Prop := x.2.1 ≤ x.2.2
/-- Spans in order, none empty, no two touch. -/
def Norm (l : List Sp) : Prop := (∀ x ∈ l, SpOk x) ∧ l.Pairwise Ap
def InS (x : Sp) (n s : Int) : Prop := x.1 = n ∧ x.2.1 ≤ s ∧ s ≤ x.2.2
instance (x : Sp) (n s : Int) : Decidable (InS x n s) := by unfold InS; exact inferInstance
def Mem (l : List Sp) (n s : Int) : Prop := ∃ x ∈ l, InS x n s
instance (l : List Sp) (n s : Int) : Decidable (Mem l n s) := by unfold Mem; exact inferInstance
theorem mem_nil {n s : Int} : ¬ Mem [] n s := by rintro ⟨x, h, _⟩; exact absurd h (by simp)
theorem mem_cons {x : Sp} {l : List Sp} {n s : Int} : Mem (x :: l) n s ↔ InS x n s ∨ Mem l n s := by
  unfold Mem
  constructor
  · rintro ⟨y, hy, hi⟩
    rcases List.mem_cons.1 hy with rfl | h
    · exact .inl hi
    · exact .inr ⟨y, h, hi⟩
  · rintro (h | ⟨y, hy, hi⟩)
    · exact ⟨x, by simp, h⟩
    · exact ⟨y, by simp [hy], hi⟩
theorem mem_append {l m : List Sp} {n s : Int} : Mem (l ++ m) n s ↔ Mem l n s ∨ Mem m n s := by
  unfold Mem
  constructor
  · rintro ⟨y, hy, hi⟩
    rcases List.mem_append.1 hy with h | h
    · exact .inl ⟨y, h, hi⟩
    · exact .inr ⟨y, h, hi⟩
  · rintro (⟨y, hy, hi⟩ | ⟨y, hy, hi⟩)
    · exact ⟨y, by simp [hy], hi⟩
    · exact ⟨y, by simp [hy], hi⟩
theorem Norm.tail {x : Sp} {l : List Sp} (h : Norm (x :: l)) : Norm l := ⟨fun y hy => h.1 y (by simp [hy]), (List.pairwise_cons.1 h.2).2⟩
theorem Norm.head {x : Sp} {l : List Sp} (h : Norm (x :: l)) : SpOk x ∧ ∀ y ∈ l, Ap x y := ⟨h.1 x (by simp), (List.pairwise_cons.1 h.2).1⟩
theorem norm_nil : Norm [] := ⟨by simp, List.Pairwise.nil⟩
theorem norm_cons {x : Sp} {l : List Sp} (hx : SpOk x) (h : Norm l) (ha : ∀ y ∈ l, Ap x y) : Norm (x :: l) := ⟨fun y hy => by
  rcases List.mem_cons.1 hy with rfl | q
  · exact hx
  · exact h.1 y q, List.pairwise_cons.2 ⟨ha, h.2⟩⟩
theorem Ap.trans {x y z : Sp} (h : Ap x y) (k : Ap y z) (o : SpOk y) : Ap x z := by
  unfold Ap SpOk at *
  omega
/-- What is behind the head is not in it. -/
theorem Norm.out {x : Sp} {l : List Sp} (h : Norm (x :: l)) {n s : Int} (hi : InS x n s) : ¬ Mem l n s := by
  rintro ⟨y, hy, hj⟩
  have a := h.head.2 y hy
  unfold Ap InS at *
  omega
theorem norm_first {x y : Sp} {xs ys : List Sp} (hx : Norm (x :: xs)) (hy : Norm (y :: ys)) (he : ∀ n s, Mem (x :: xs) n s → Mem (y :: ys) n s) : y.1 < x.1 ∨ y.1 = x.1 ∧ y.2.1 ≤ x.2.1 := by
  have ox := hx.head.1
  obtain ⟨z, hz, hi⟩ := he x.1 x.2.1 ⟨x, by simp, rfl, Int.le_refl _, ox⟩
  rcases List.mem_cons.1 hz with rfl | q
  · unfold InS at hi; omega
  · have a := hy.head.2 z q
    have oy := hy.head.1
    unfold Ap InS SpOk at *
    omega
theorem norm_end {x y : Sp} {xs ys : List Sp} (hx : Norm (x :: xs)) (hy : Norm (y :: ys)) (he : ∀ n s, Mem (y :: ys) n s → Mem (x :: xs) n s) (e1 : x.1 = y.1) (e2 : x.2.1 = y.2.1) : y.2.2 ≤ x.2.2 := by
  refine Int.not_lt.1 (fun hlt => ?_)
  have ox := hx.head.1
  obtain ⟨z, hz, hi⟩ := he y.1 (x.2.2 + 1) ⟨y, by simp, rfl, by unfold SpOk at ox; omega, by omega⟩
  rcases List.mem_cons.1 hz with rfl | q
  · unfold InS at hi; omega
  · have a := hx.head.2 z q
    unfold Ap InS at *
    omega
/-- Two such lists with the same dots are one. -/
theorem norm_ext : ∀ {l m : List Sp}, Norm l → Norm m → (∀ n s, Mem l n s ↔ Mem m n s) → l = m
  | [], [], _, _, _ => rfl
  | [], y :: ys, _, hm, he => absurd ((he y.1 y.2.1).2 ⟨y, by simp, rfl, Int.le_refl _, hm.head.1⟩) mem_nil
  | x :: xs, [], hl, _, he => absurd ((he x.1 x.2.1).1 ⟨x, by simp, rfl, Int.le_refl _, hl.head.1⟩) mem_nil
  | x :: xs, y :: ys, hl, hm, he => by
    have a := norm_first hl hm (fun n s => (he n s).1)
    have b := norm_first hm hl (fun n s => (he n s).2)
    have e1 : x.1 = y.1 := by omega
    have e2 : x.2.1 = y.2.1 := by omega
    have c := norm_end hl hm (fun n s => (he n s).2) e1 e2
    have d := norm_end hm hl (fun n s => (he n s).1) e1.symm e2.symm
    have exy : x = y := Prod.ext e1 (Prod.ext e2 (by omega))
    subst exy
    rw [norm_ext hl.tail hm.tail (fun n s => ?_)]
    have q := he n s
    rw [mem_cons, mem_cons] at q
    by_cases hi : InS x n s
    · exact ⟨fun z => absurd z (hl.out hi), fun z => absurd z (hm.out hi)⟩
    · constructor
      · intro z; exact (q.1 (.inr z)).resolve_left hi
      · intro z; exact (q.2 (.inr z)).resolve_left hi
/-- A span comes behind the others, or lengthens the last one. -/
def pushP (out : List Sp) (z : Sp) : List Sp :=
  match out.getLast? with
  | none => [z]
  | some y => if Ap y z then out ++ [z] else out.dropLast ++ [(y.1, y.2.1, max y.2.2 z.2.2)]
/-- The first one's beginning is not behind the second one's. -/
def Le (x y : Sp) : Prop := x.1 < y.1 ∨ x.1 = y.1 ∧ x.2.1 ≤ y.2.1
theorem Le.trans {x y z : Sp} (h : Le x y) (k : Le y z) : Le x z := by unfold Le at *; omega
theorem last_split {l : List Sp} {y : Sp} (h : l.getLast? = some y) : l = l.dropLast ++ [y] := by
  obtain ⟨ys, e⟩ := List.getLast?_eq_some_iff.1 h
  rw [e]; simp
theorem mem_one {z : Sp} {n s : Int} : Mem [z] n s ↔ InS z n s := by
  rw [mem_cons]
  exact ⟨fun q => q.resolve_right mem_nil, .inl⟩
theorem norm_app {l : List Sp} {z : Sp} (h : Norm l) (hz : SpOk z) (ha : ∀ y ∈ l, Ap y z) : Norm (l ++ [z]) := by
  refine ⟨fun x hx => ?_, List.pairwise_append.2 ⟨h.2, by simp, fun a ha' b hb => ?_⟩⟩
  · rcases List.mem_append.1 hx with q | q
    · exact h.1 x q
    · simp at q; subst q; exact hz
  · simp at hb; subst hb; exact ha a ha'
theorem push_norm {out : List Sp} {z : Sp} (h : Norm out) (hz : SpOk z) (hl : ∀ y, out.getLast? = some y → Le y z) : Norm (pushP out z) ∧ (∀ n s, Mem (pushP out z) n s ↔ Mem out n s ∨ InS z n s) ∧ ∃ y, (pushP out z).getLast? = some y ∧ Le y z := by
  unfold pushP
  cases hg : out.getLast? with
  | none =>
    have e : out = [] := List.getLast?_eq_none_iff.1 hg
    subst e
    refine ⟨norm_cons hz norm_nil (by simp), fun n s => ?_, z, rfl, .inr ⟨rfl, Int.le_refl _⟩⟩
    show Mem [z] n s ↔ _
    rw [mem_one]
    exact ⟨.inr, fun q => q.resolve_left mem_nil⟩
  | some y =>
    have es := last_split hg
    have le := hl y hg
    have hym : y ∈ out := by rw [es]; simp
    have hd : ∀ x ∈ out.dropLast, Ap x y := by
      have := h.2
      rw [es] at this
      exact fun x hx => (List.pairwise_append.1 this).2.2 x hx y (by simp)
    simp only
    split
    · rename_i ha
      refine ⟨norm_app h hz (fun x hx => ?_), fun n s => by rw [mem_append, mem_one], z, by simp, .inr ⟨rfl, Int.le_refl _⟩⟩
      rw [es] at hx
      rcases List.mem_append.1 hx with q | q
      · exact (hd x q).trans ha (h.1 y hym)
      · simp at q; subst q; exact ha
    · rename_i ha
      have nd : Norm out.dropLast := by
        have := h
        rw [es] at this
        exact ⟨fun x hx => this.1 x (List.mem_append_left _ hx), (List.pairwise_append.1 this.2).1⟩
      have oy := h.1 y hym
      have fact : y.1 = z.1 ∧ y.2.1 ≤ z.2.1 ∧ z.2.1 ≤ y.2.2 + 1 := by unfold Ap Le at *; omega
      have mx : y.2.2 ≤ max y.2.2 z.2.2 ∧ z.2.2 ≤ max y.2.2 z.2.2 ∧ (max y.2.2 z.2.2 = y.2.2 ∨ max y.2.2 z.2.2 = z.2.2) := by omega
      refine ⟨norm_app nd (by unfold SpOk at *; simp only; omega) (fun x hx => by have := hd x hx; unfold Ap at *; simp only; omega), fun n s => ?_, (y.1, y.2.1, max y.2.2 z.2.2), by simp, by unfold Le at *; simp only; omega⟩
      have e2 : Mem out n s ↔ Mem out.dropLast n s ∨ InS y n s := by
        conv => lhs; rw [es]
        rw [mem_append, mem_one]
      have e3 : InS (y.1, y.2.1, max y.2.2 z.2.2) n s ↔ InS y n s ∨ InS z n s := by unfold InS SpOk at *; simp only; omega
      rw [mem_append, mem_one, e2, e3, or_assoc]
/-- Rising spans, pushed one by one. -/
theorem fold_norm : ∀ {zs out : List Sp}, Norm out → (∀ z ∈ zs, SpOk z) → zs.Pairwise Le → (∀ y z, out.getLast? = some y → z ∈ zs → Le y z) → Norm (zs.foldl pushP out) ∧ ∀ n s, Mem (zs.foldl pushP out) n s ↔ Mem out n s ∨ Mem zs n s
  | [], out, h, _, _, _ => ⟨h, fun n s => ⟨.inl, fun q => q.resolve_right mem_nil⟩⟩
  | z :: zs, out, h, ho, hp, hl => by
    obtain ⟨a, b, y, e, le⟩ := push_norm h (ho z (by simp)) (fun y hy => hl y z hy (by simp))
    have hp' := List.pairwise_cons.1 hp
    obtain ⟨c, d⟩ := fold_norm (zs := zs) a (fun x hx => ho x (by simp [hx])) hp'.2 (fun y' x hy' hx => by rw [e] at hy'; cases hy'; exact le.trans (hp'.1 x hx))
    rw [List.foldl_cons]
    refine ⟨c, fun n s => ?_⟩
    rw [d n s, b n s, mem_cons, or_assoc]
/-- What is left of a span behind another one is taken from it. -/
def wiP (x y : Sp) : List Sp := if y.1 ≠ x.1 ∨ y.2.2 < x.2.1 ∨ x.2.2 < y.2.1 then [y] else (if y.2.1 < x.2.1 then [(y.1, y.2.1, x.2.1 - 1)] else []) ++ (if x.2.2 < y.2.2 then [(y.1, x.2.2 + 1, y.2.2)] else [])
def withoutP (l : List Sp) (x : Sp) : List Sp := l.flatMap (wiP x)
theorem wi_mem {x y : Sp} (hx : SpOk x) {n s : Int} : Mem (wiP x y) n s ↔ InS y n s ∧ ¬ InS x n s := by
  unfold wiP
  have one : ∀ z : Sp, Mem [z] n s ↔ InS z n s := fun z => by rw [mem_cons]; exact ⟨fun q => q.resolve_right mem_nil, .inl⟩
  split
  · rw [one]; unfold InS at *; constructor
    · intro q; exact ⟨q, by omega⟩
    · exact fun q => q.1
  · rw [mem_append]
    have a : Mem (if y.2.1 < x.2.1 then [(y.1, y.2.1, x.2.1 - 1)] else []) n s ↔ y.2.1 < x.2.1 ∧ InS (y.1, y.2.1, x.2.1 - 1) n s := by
      split
      · rename_i h; rw [one]; exact ⟨fun q => ⟨h, q⟩, fun q => q.2⟩
      · rename_i h; exact ⟨fun q => absurd q mem_nil, fun q => absurd q.1 h⟩
    have b : Mem (if x.2.2 < y.2.2 then [(y.1, x.2.2 + 1, y.2.2)] else []) n s ↔ x.2.2 < y.2.2 ∧ InS (y.1, x.2.2 + 1, y.2.2) n s := by
      split
      · rename_i h; rw [one]; exact ⟨fun q => ⟨h, q⟩, fun q => q.2⟩
      · rename_i h; exact ⟨fun q => absurd q mem_nil, fun q => absurd q.1 h⟩
    rw [a, b]
    unfold InS SpOk at *
    simp only
    omega
theorem wi_sub {x y z : Sp} (hx : SpOk x) (hy : SpOk y) (h : z ∈ wiP x y) : SpOk z ∧ z.1 = y.1 ∧ y.2.1 ≤ z.2.1 ∧ z.2.2 ≤ y.2.2 := by
  unfold wiP at h
  unfold SpOk at *
  split at h
  · simp at h; subst h; exact ⟨hy, rfl, Int.le_refl _, Int.le_refl _⟩
  · rename_i hc
    simp only [not_or, Int.not_lt, Decidable.not_not, ne_eq] at hc
    rcases List.mem_append.1 h with q | q
    · split at q
      · simp at q; subst q
        exact ⟨by show y.2.1 ≤ x.2.1 - 1; omega, rfl, Int.le_refl _, by show x.2.1 - 1 ≤ y.2.2; omega⟩
      · simp at q
    · split at q
      · simp at q; subst q
        exact ⟨by show x.2.2 + 1 ≤ y.2.2; omega, rfl, by show y.2.1 ≤ x.2.2 + 1; omega, Int.le_refl _⟩
      · simp at q
theorem wi_norm {x y : Sp} (hx : SpOk x) (hy : SpOk y) : Norm (wiP x y) := by
  refine ⟨fun z hz => (wi_sub hx hy hz).1, ?_⟩
  unfold wiP
  split
  · simp
  · rename_i hc
    simp only [not_or, Int.not_lt, Decidable.not_not, ne_eq] at hc
    refine List.pairwise_append.2 ⟨by split <;> simp, by split <;> simp, fun a ha b hb => ?_⟩
    have ea : a = (y.1, y.2.1, x.2.1 - 1) := by split at ha <;> simp at ha; exact ha
    have eb : b = (y.1, x.2.2 + 1, y.2.2) := by split at hb <;> simp at hb; exact hb
    rw [ea, eb]
    unfold SpOk at hx hy
    exact .inr ⟨rfl, by show x.2.1 - 1 + 1 < x.2.2 + 1; omega⟩
theorem without_norm {x : Sp} (hx : SpOk x) : ∀ {l : List Sp}, Norm l → Norm (withoutP l x) ∧ ∀ n s, Mem (withoutP l x) n s ↔ Mem l n s ∧ ¬ InS x n s
  | [], _ => ⟨norm_nil, fun n s => ⟨fun q => absurd q mem_nil, fun q => absurd q.1 mem_nil⟩⟩
  | y :: l, h => by
    obtain ⟨a, b⟩ := without_norm hx h.tail
    have hy := h.head.1
    have e : withoutP (y :: l) x = wiP x y ++ withoutP l x := rfl
    have inl : ∀ z ∈ withoutP l x, ∃ u ∈ l, z ∈ wiP x u := fun z hz => by
      obtain ⟨u, hu, hz⟩ := List.mem_flatMap.1 hz
      exact ⟨u, hu, hz⟩
    rw [e]
    refine ⟨⟨fun z hz => ?_, List.pairwise_append.2 ⟨(wi_norm hx hy).2, a.2, fun p hp q hq => ?_⟩⟩, fun n s => ?_⟩
    · rcases List.mem_append.1 hz with q | q
      · exact (wi_norm hx hy).1 z q
      · exact a.1 z q
    · obtain ⟨u, hu, hq⟩ := inl q hq
      obtain ⟨_, s1, _, s2⟩ := wi_sub hx hy hp
      obtain ⟨_, t1, t2, _⟩ := wi_sub hx (h.tail.1 u hu) hq
      rcases h.head.2 u hu with ap | ⟨ap, ap2⟩
      · exact .inl (by omega)
      · exact .inr ⟨by omega, by omega⟩
    · rw [mem_append, wi_mem hx, b n s, mem_cons]
      constructor
      · rintro (q | q); exact ⟨.inl q.1, q.2⟩; exact ⟨.inr q.1, q.2⟩
      · rintro ⟨q | q, r⟩; exact .inl ⟨q, r⟩; exact .inr ⟨q, r⟩
theorem withouts_norm : ∀ {b a : List Sp}, (∀ x ∈ b, SpOk x) → Norm a → Norm (b.foldl withoutP a) ∧ ∀ n s, Mem (b.foldl withoutP a) n s ↔ Mem a n s ∧ ¬ Mem b n s
  | [], a, _, h => ⟨h, fun n s => ⟨fun q => ⟨q, mem_nil⟩, fun q => q.1⟩⟩
  | x :: b, a, ho, h => by
    obtain ⟨c, d⟩ := without_norm (ho x (by simp)) h
    obtain ⟨e, f⟩ := withouts_norm (b := b) (fun y hy => ho y (by simp [hy])) c
    rw [List.foldl_cons]
    refine ⟨e, fun n s => ?_⟩
    rw [f n s, d n s, mem_cons]
    constructor
    · rintro ⟨⟨q, r⟩, t⟩; exact ⟨q, by rintro (z | z); exact r z; exact t z⟩
    · rintro ⟨q, r⟩; exact ⟨⟨q, fun z => r (.inl z)⟩, fun z => r (.inr z)⟩
end
section
set_option linter.unusedSimpArgs false
set_option linter.unusedVariables false

/-- A place in a past: what is left of it; behind all spans there is the node 201. -/
def hdP (l : List Sp) : Sp := l.headD (201, 0, 0)
def passP (l : List Sp) (tt : Int) : List Sp :=
  match l with
  | [] => []
  | x :: r => if tt < x.2.2 then (x.1, tt + 1, x.2.2) :: r else r
def untilP (s nx : Sp) : Sp := if s.1 = nx.1 then (s.1, s.2.1, min s.2.2 (nx.2.1 - 1)) else s
def inP (x y : Sp) : Bool := decide (x.1 < y.1 ∨ x.1 = y.1 ∧ x.2.1 ≤ y.2.1)
def pieceP (x y : Sp) : Sp := if inP x y = true ∧ inP y x = true then (x.1, x.2.1, min x.2.2 y.2.2) else if inP x y = true then untilP x y else untilP y x
/-- A past of nodes 1 to 200. -/
def WfC (l : List Sp) : Prop := Norm l ∧ ∀ x ∈ l, 1 ≤ x.1 ∧ x.1 ≤ 200 ∧ 1 ≤ x.2.1 ∧ x.2.2 ≤ 2147483647
/-- All of the second lies behind the end of the first. -/
def Bh (p : Sp) (l : List Sp) : Prop := ∀ z ∈ l, p.1 < z.1 ∨ p.1 = z.1 ∧ p.2.2 < z.2.1
def dotsN (l : List Sp) : Nat := (l.map (fun x => (x.2.2 - x.2.1 + 1).toNat)).sum
/-- How many steps there may be yet. -/
def potP (la lb : List Sp) : Nat := 2 * (la.length + lb.length) + (if (hdP la).1 = (hdP lb).1 ∧ (hdP la).2.1 = (hdP lb).2.1 then 0 else 1)
theorem pot_le (la lb : List Sp) : potP la lb ≤ 2 * (la.length + lb.length) + 1 := by unfold potP; split <;> omega
theorem dots_cons (x : Sp) (l : List Sp) : dotsN (x :: l) = (x.2.2 - x.2.1 + 1).toNat + dotsN l := by simp [dotsN]
theorem bh_out {p : Sp} {l : List Sp} (h : Bh p l) {n s : Int} (hi : InS p n s) : ¬ Mem l n s := by
  rintro ⟨z, hz, hj⟩
  have := h z hz
  unfold InS at *
  omega
theorem bh_head {p y : Sp} {l : List Sp} (h : WfC (y :: l)) (hy : p.1 < y.1 ∨ p.1 = y.1 ∧ p.2.2 < y.2.1) : Bh p (y :: l) := by
  intro z hz
  rcases List.mem_cons.1 hz with rfl | q
  · exact hy
  · have a := h.1.head.2 z q
    have o := h.1.head.1
    unfold Ap SpOk at *
    omega
theorem pass_ok {x : Sp} {r : List Sp} (h : WfC (x :: r)) {tt : Int} (h1 : x.2.1 ≤ tt) (h2 : tt ≤ x.2.2) :
    WfC (passP (x :: r) tt) ∧ (∀ n s, Mem (passP (x :: r) tt) n s ↔ Mem (x :: r) n s ∧ ¬ InS (x.1, x.2.1, tt) n s) ∧ Bh (x.1, x.2.1, tt) (passP (x :: r) tt) ∧ (∀ n s, InS (x.1, x.2.1, tt) n s → Mem (x :: r) n s) ∧ dotsN (passP (x :: r) tt) < dotsN (x :: r) := by
  have hx := h.1.head
  have hb := h.2 x (by simp)
  have br : Bh x r := fun z hz => by
    have := hx.2 z hz
    unfold Ap at this
    omega
  have up : ∀ n s, InS (x.1, x.2.1, tt) n s → InS x n s := fun n s q => by unfold InS at *; simp only at q; omega
  refine ⟨?_, fun n s => ?_, ?_, fun n s q => mem_cons.2 (.inl (up n s q)), ?_⟩
  · unfold passP
    simp only
    split
    · rename_i hlt
      refine ⟨norm_cons (by unfold SpOk; simp only; omega) h.1.tail (fun z hz => by have := hx.2 z hz; unfold Ap at *; simp only; omega), fun z hz => ?_⟩
      rcases List.mem_cons.1 hz with rfl | q
      · simp only; omega
      · exact h.2 z (by simp [q])
    · exact ⟨h.1.tail, fun z hz => h.2 z (by simp [hz])⟩
  · unfold passP
    simp only
    split
    · rename_i hlt
      rw [mem_cons, mem_cons]
      constructor
      · rintro (q | q)
        · exact ⟨.inl (by unfold InS at *; simp only at q; omega), by unfold InS at *; simp only at q ⊢; omega⟩
        · exact ⟨.inr q, fun z => bh_out br (up n s z) q⟩
      · rintro ⟨q | q, z⟩
        · exact .inl (by unfold InS at *; simp only at z ⊢; omega)
        · exact .inr q
    · rename_i hlt
      have e : tt = x.2.2 := by omega
      subst e
      rw [mem_cons]
      constructor
      · intro q
        exact ⟨.inr q, fun z => bh_out br z q⟩
      · rintro ⟨q | q, z⟩
        · exact absurd q z
        · exact q
  · unfold passP
    simp only
    intro z hz
    split at hz
    · rcases List.mem_cons.1 hz with rfl | q
      · exact .inr ⟨rfl, by simp only; omega⟩
      · have := br z q; simp only; omega
    · have := br z hz; simp only; omega
  · unfold passP
    simp only
    have o := hx.1
    unfold SpOk at o
    split
    · rw [dots_cons, dots_cons]; simp only; omega
    · rw [dots_cons]; omega
theorem pass_len (x : Sp) (r : List Sp) (tt : Int) : (passP (x :: r) tt).length = if tt < x.2.2 then r.length + 1 else r.length := by unfold passP; simp only; split <;> simp
theorem hd_nil : hdP [] = (201, 0, 0) := rfl
theorem hd_cons (x : Sp) (l : List Sp) : hdP (x :: l) = x := rfl
/-- What a step leaves of a past that has, or has not, the piece. -/
def leftP (l : List Sp) (i : Bool) (tt : Int) : List Sp := if i = true then passP l tt else l
structure StepOk (la lb : List Sp) (p : Sp) (ia ib : Bool) (la' lb' : List Sp) : Prop where
  ok : SpOk p ∧ 1 ≤ p.1 ∧ p.1 ≤ 200 ∧ 1 ≤ p.2.1 ∧ p.2.2 ≤ 2147483647
  wa : WfC la'
  wb : WfC lb'
  ina : ∀ n s, InS p n s → (Mem la n s ↔ ia = true)
  inb : ∀ n s, InS p n s → (Mem lb n s ↔ ib = true)
  ma : ∀ n s, Mem la' n s ↔ Mem la n s ∧ ¬ InS p n s
  mb : ∀ n s, Mem lb' n s ↔ Mem lb n s ∧ ¬ InS p n s
  ba : Bh p la'
  bb : Bh p lb'
  dec : dotsN la' + dotsN lb' < dotsN la + dotsN lb
  pot : potP la' lb' < potP la lb
  sub : (∃ z ∈ la, z.1 = p.1 ∧ z.2.1 ≤ p.2.1 ∧ p.2.2 ≤ z.2.2) ∨ ∃ z ∈ lb, z.1 = p.1 ∧ z.2.1 ≤ p.2.1 ∧ p.2.2 ≤ z.2.2
theorem pot_comm (la lb : List Sp) : potP la lb = potP lb la := by
  unfold potP
  have e : ((hdP la).1 = (hdP lb).1 ∧ (hdP la).2.1 = (hdP lb).2.1) = ((hdP lb).1 = (hdP la).1 ∧ (hdP lb).2.1 = (hdP la).2.1) := propext ⟨fun h => ⟨h.1.symm, h.2.symm⟩, fun h => ⟨h.1.symm, h.2.symm⟩⟩
  simp only [e, Nat.add_comm la.length]
theorem StepOk.swap {la lb : List Sp} {p : Sp} {ia ib : Bool} {la' lb' : List Sp} (h : StepOk la lb p ia ib la' lb') : StepOk lb la p ib ia lb' la' :=
  ⟨h.ok, h.wb, h.wa, h.inb, h.ina, h.mb, h.ma, h.bb, h.ba, by have := h.dec; omega, by rw [pot_comm, pot_comm lb]; exact h.pot, h.sub.symm⟩
theorem step_both {x y : Sp} {xs ys : List Sp} (ha : WfC (x :: xs)) (hb : WfC (y :: ys)) (e1 : x.1 = y.1) (e2 : x.2.1 = y.2.1) :
    StepOk (x :: xs) (y :: ys) (x.1, x.2.1, min x.2.2 y.2.2) true true (passP (x :: xs) (min x.2.2 y.2.2)) (passP (y :: ys) (min x.2.2 y.2.2)) := by
  have ox := ha.1.head.1
  have oy := hb.1.head.1
  have bx := ha.2 x (by simp)
  unfold SpOk at ox oy
  obtain ⟨a1, a2, a3, a4, a5⟩ := pass_ok ha (tt := min x.2.2 y.2.2) (by omega) (by omega)
  obtain ⟨b1, b2, b3, b4, b5⟩ := pass_ok hb (tt := min x.2.2 y.2.2) (by omega) (by omega)
  have PB : potP (passP (x :: xs) (min x.2.2 y.2.2)) (passP (y :: ys) (min x.2.2 y.2.2)) < potP (x :: xs) (y :: ys) := by
    have e0 : potP (x :: xs) (y :: ys) = 2 * (xs.length + 1 + (ys.length + 1)) := by unfold potP; rw [hd_cons, hd_cons, if_pos ⟨e1, e2⟩]; rfl
    refine Nat.lt_of_le_of_lt (pot_le _ _) ?_
    rw [e0, pass_len, pass_len]
    split <;> split <;> omega
  rw [← e1, ← e2] at b2 b3 b4
  exact ⟨⟨by unfold SpOk; simp only; omega, bx.1, bx.2.1, bx.2.2.1, by simp only; omega⟩, a1, b1, fun n s q => ⟨fun _ => rfl, fun _ => a4 n s q⟩, fun n s q => ⟨fun _ => rfl, fun _ => b4 n s q⟩, a2, b2, a3, b3, by omega, PB, .inl ⟨x, by simp, rfl, Int.le_refl _, by simp only; omega⟩⟩
theorem step_one {x : Sp} {xs lb : List Sp} (ha : WfC (x :: xs)) (hb : WfC lb) (tt : Int) (h1 : x.2.1 ≤ tt) (h2 : tt ≤ x.2.2) (hl : Bh (x.1, x.2.1, tt) lb) (hu : ¬ (x.1 = (hdP lb).1 ∧ x.2.1 = (hdP lb).2.1)) (hal : tt = x.2.2 ∨ x.1 = (hdP lb).1 ∧ tt + 1 = (hdP lb).2.1) : StepOk (x :: xs) lb (x.1, x.2.1, tt) true false (passP (x :: xs) tt) lb := by
  have bx := ha.2 x (by simp)
  obtain ⟨a1, a2, a3, a4, a5⟩ := pass_ok ha h1 h2
  have PB : potP (passP (x :: xs) tt) lb < potP (x :: xs) lb := by
    have e0 : potP (x :: xs) lb = 2 * (xs.length + 1 + lb.length) + 1 := by unfold potP; rw [hd_cons, if_neg hu]; rfl
    rw [e0]
    by_cases hlt : tt < x.2.2
    · have hp : passP (x :: xs) tt = (x.1, tt + 1, x.2.2) :: xs := by unfold passP; simp only; rw [if_pos hlt]
      rw [hp]
      unfold potP
      rw [hd_cons, if_pos (by rcases hal with h | h; exact absurd h (by omega); exact h)]
      simp only [List.length_cons]
      omega
    · refine Nat.lt_of_le_of_lt (pot_le _ _) ?_
      rw [pass_len, if_neg hlt]
      omega
  exact ⟨⟨by unfold SpOk; exact h1, bx.1, bx.2.1, bx.2.2.1, by simp only; omega⟩, a1, hb, fun n s q => ⟨fun _ => rfl, fun _ => a4 n s q⟩, fun n s q => ⟨fun z => absurd z (bh_out hl q), fun z => absurd z (by simp)⟩, a2, fun n s => ⟨fun z => ⟨z, fun q => bh_out hl q z⟩, fun z => z.1⟩, a3, hl, by omega, PB, .inl ⟨x, by simp, rfl, Int.le_refl _, h2⟩⟩
theorem piece_one {x y : Sp} (h : inP x y = true) (h' : inP y x = false) : pieceP x y = (x.1, x.2.1, if x.1 = y.1 then min x.2.2 (y.2.1 - 1) else x.2.2) := by
  unfold pieceP
  rw [if_neg (by simp [h']), if_pos h]
  unfold untilP
  split <;> rfl
theorem piece_other {x y : Sp} (h : inP x y = false) (h' : inP y x = true) : pieceP x y = pieceP y x := by
  unfold pieceP
  rw [if_neg (by simp [h]), if_neg (by simp [h]), if_neg (by simp [h]), if_pos h']
theorem step_first {x : Sp} {xs lb : List Sp} (ha : WfC (x :: xs)) (hb : WfC lb) (h : inP x (hdP lb) = true) (h' : inP (hdP lb) x = false) :
    StepOk (x :: xs) lb (pieceP x (hdP lb)) true false (passP (x :: xs) (pieceP x (hdP lb)).2.2) lb := by
  rw [piece_one h h']
  have ox := ha.1.head.1
  have bx := ha.2 x (by simp)
  unfold SpOk at ox
  simp only [inP, decide_eq_true_eq, decide_eq_false_iff_not] at h h'
  cases lb with
  | nil =>
    rw [hd_nil] at *
    rw [if_neg (by simp only; omega)]
    exact step_one ha hb _ ox (Int.le_refl _) (fun z hz => absurd hz (by simp)) (by rw [hd_nil]; simp only; omega) (.inl rfl)
  | cons y ys =>
    rw [hd_cons] at *
    refine step_one ha hb _ ?_ ?_ (bh_head hb ?_) (by rw [hd_cons]; omega) (by rw [hd_cons]; split <;> omega)
    · split <;> omega
    · split <;> omega
    · simp only
      split <;> omega
/-- A step: the next dots that are all in the same ones of both pasts. -/
theorem step_ok {la lb : List Sp} (ha : WfC la) (hb : WfC lb) (hne : la ≠ [] ∨ lb ≠ []) :
    StepOk la lb (pieceP (hdP la) (hdP lb)) (inP (hdP la) (hdP lb)) (inP (hdP lb) (hdP la)) (leftP la (inP (hdP la) (hdP lb)) (pieceP (hdP la) (hdP lb)).2.2) (leftP lb (inP (hdP lb) (hdP la)) (pieceP (hdP la) (hdP lb)).2.2) := by
  have tri : inP (hdP la) (hdP lb) = true ∨ inP (hdP lb) (hdP la) = true := by
    simp only [inP, decide_eq_true_eq]; omega
  cases h1 : inP (hdP la) (hdP lb) with
  | true =>
    cases h2 : inP (hdP lb) (hdP la) with
    | true =>
      have q1 := h1
      have q2 := h2
      simp only [inP, decide_eq_true_eq] at q1 q2
      cases la with
      | nil =>
        cases lb with
        | nil => exact absurd rfl (hne.elim id id)
        | cons y ys => have := hb.2 y (by simp); rw [hd_nil, hd_cons] at q1 q2; simp only at q1 q2; omega
      | cons x xs =>
        cases lb with
        | nil => have := ha.2 x (by simp); rw [hd_nil, hd_cons] at q1 q2; simp only at q1 q2; omega
        | cons y ys =>
          rw [hd_cons, hd_cons] at *
          have e : pieceP x y = (x.1, x.2.1, min x.2.2 y.2.2) := by unfold pieceP; rw [if_pos ⟨h1, h2⟩]
          rw [e]
          exact step_both ha hb (by omega) (by omega)
    | false =>
      cases la with
      | nil =>
        have q1 := h1
        have q2 := h2
        simp only [inP, decide_eq_true_eq, decide_eq_false_iff_not] at q1 q2
        cases lb with
        | nil => exact absurd rfl (hne.elim id id)
        | cons y ys => have := hb.2 y (by simp); rw [hd_nil, hd_cons] at q1 q2; simp only at q1 q2; omega
      | cons x xs => exact step_first ha hb h1 h2
  | false =>
    have h2 := tri.resolve_left (by simp [h1])
    rw [h2]
    cases lb with
    | nil =>
      have q1 := h1
      have q2 := h2
      simp only [inP, decide_eq_true_eq, decide_eq_false_iff_not] at q1 q2
      cases la with
      | nil => exact absurd rfl (hne.elim id id)
      | cons y ys => have := ha.2 y (by simp); rw [hd_nil, hd_cons] at q1 q2; simp only at q1 q2; omega
    | cons y ys =>
      rw [hd_cons] at *
      rw [piece_other h1 h2]
      exact (step_first hb ha h2 h1).swap
def memb (l : List Sp) (n s : Int) : Bool := decide (Mem l n s)
/-- Where a sweep stands: what was kept, what is left. -/
structure SwInv (k : Bool → Bool → Bool) (a b la lb pre : List Sp) : Prop where
  wa : WfC la
  wb : WfC lb
  ok : ∀ z ∈ pre, SpOk z
  up : pre.Pairwise Le
  ba : ∀ p ∈ pre, Bh p la
  bb : ∀ p ∈ pre, Bh p lb
  cnt : pre.length + potP la lb ≤ potP a b
  m : ∀ n s, k (memb a n s) (memb b n s) = true ↔ Mem pre n s ∨ k (memb la n s) (memb lb n s) = true
theorem SwInv.begin {k : Bool → Bool → Bool} {a b : List Sp} (ha : WfC a) (hb : WfC b) : SwInv k a b a b [] :=
  ⟨ha, hb, by simp, List.Pairwise.nil, by simp, by simp, by simp, fun n s => ⟨.inr, fun q => q.resolve_left mem_nil⟩⟩
theorem bh_mono {p : Sp} {l l' : List Sp} (hp : SpOk p) (h : Bh p l) (hn : WfC l') (hs : ∀ n s, Mem l' n s → Mem l n s) : Bh p l' := by
  intro z hz
  have oz := hn.1.1 z hz
  obtain ⟨y, hy, hi⟩ := hs z.1 z.2.1 ⟨z, hz, rfl, Int.le_refl _, oz⟩
  have := h y hy
  unfold InS SpOk at *
  omega
theorem SwInv.step {k : Bool → Bool → Bool} (hk : k false false = false) {a b la lb pre : List Sp} (h : SwInv k a b la lb pre) {p : Sp} {ia ib : Bool} {la' lb' : List Sp} (q : StepOk la lb p ia ib la' lb') : SwInv k a b la' lb' (if k ia ib = true then pre ++ [p] else pre) := by
  have core : ∀ n s, (k (memb la n s) (memb lb n s) = true) ↔ (k ia ib = true ∧ InS p n s) ∨ k (memb la' n s) (memb lb' n s) = true := by
    intro n s
    have ma := q.ma n s
    have mb := q.mb n s
    by_cases hi : InS p n s
    · have ea : memb la n s = ia := by
        have := q.ina n s hi
        unfold memb
        cases ia <;> simp_all
      have eb : memb lb n s = ib := by
        have := q.inb n s hi
        unfold memb
        cases ib <;> simp_all
      have ea' : memb la' n s = false := by unfold memb; simp [ma, hi]
      have eb' : memb lb' n s = false := by unfold memb; simp [mb, hi]
      rw [ea, eb, ea', eb', hk]
      exact ⟨fun z => .inl ⟨z, hi⟩, fun z => z.elim (fun y => y.1) (fun y => absurd y (by simp))⟩
    · have ea' : memb la' n s = memb la n s := by unfold memb; simp [ma, hi]
      have eb' : memb lb' n s = memb lb n s := by unfold memb; simp [mb, hi]
      rw [ea', eb']
      exact ⟨.inr, fun z => z.elim (fun y => absurd y.2 hi) id⟩
  have subA : ∀ n s, Mem la' n s → Mem la n s := fun n s z => ((q.ma n s).1 z).1
  have subB : ∀ n s, Mem lb' n s → Mem lb n s := fun n s z => ((q.mb n s).1 z).1
  have oldA : ∀ x ∈ pre, Bh x la' := fun x hx => bh_mono (h.ok x hx) (h.ba x hx) q.wa subA
  have oldB : ∀ x ∈ pre, Bh x lb' := fun x hx => bh_mono (h.ok x hx) (h.bb x hx) q.wb subB
  by_cases hkk : k ia ib = true
  · rw [if_pos hkk]
    have le : ∀ x ∈ pre, Le x p := fun x hx => by
      have ox := h.ok x hx
      rcases q.sub with ⟨z, hz, e1, e2, e3⟩ | ⟨z, hz, e1, e2, e3⟩
      · have := h.ba x hx z hz; unfold Le SpOk at *; omega
      · have := h.bb x hx z hz; unfold Le SpOk at *; omega
    refine ⟨q.wa, q.wb, fun z hz => ?_, List.pairwise_append.2 ⟨h.up, by simp, fun x hx y hy => by simp at hy; subst hy; exact le x hx⟩, fun x hx => ?_, fun x hx => ?_, by have := q.pot; have := h.cnt; simp; omega, fun n s => ?_⟩
    · rcases List.mem_append.1 hz with w | w
      · exact h.ok z w
      · simp at w; subst w; exact q.ok.1
    · rcases List.mem_append.1 hx with w | w
      · exact oldA x w
      · simp at w; subst w; exact q.ba
    · rcases List.mem_append.1 hx with w | w
      · exact oldB x w
      · simp at w; subst w; exact q.bb
    · rw [h.m n s, core n s, mem_append, mem_one]
      constructor
      · rintro (z | z | z); exact .inl (.inl z); exact .inl (.inr z.2); exact .inr z
      · rintro ((z | z) | z); exact .inl z; exact .inr (.inl ⟨hkk, z⟩); exact .inr (.inr z)
  · rw [if_neg hkk]
    refine ⟨q.wa, q.wb, h.ok, h.up, oldA, oldB, by have := q.pot; have := h.cnt; omega, fun n s => ?_⟩
    rw [h.m n s, core n s]
    constructor
    · rintro (z | z | z); exact .inl z; exact absurd z.1 hkk; exact .inr z
    · rintro (z | z); exact .inl z; exact .inr (.inr z)
/-- Behind all: just the dots of which the func says yes, in order. -/
theorem SwInv.done {k : Bool → Bool → Bool} (hk : k false false = false) {a b pre : List Sp} (h : SwInv k a b [] [] pre) : Norm (pre.foldl pushP []) ∧ ∀ n s, Mem (pre.foldl pushP []) n s ↔ k (memb a n s) (memb b n s) = true := by
  obtain ⟨c, d⟩ := fold_norm (zs := pre) norm_nil h.ok h.up (by simp)
  refine ⟨c, fun n s => ?_⟩
  rw [d n s, h.m n s]
  have e : memb [] n s = false := by unfold memb; simp [mem_nil]
  rw [e, hk]
  exact ⟨fun q => .inl (q.resolve_left mem_nil), fun q => .inr (q.resolve_right (by simp))⟩
end
section
open Go.RowKit

theorem news1 (w : World) (o : Obj) : ∃ w' : World, w' = w.alloc o ∧ Chg [] w w' ∧ w'.heap[w.heap.size]? = some o := ⟨_, rfl, (Chg.refl [] w).alloc _, heap_alloc_new w o⟩
theorem news2 (w : World) (o o' : Obj) : ∃ w' : World, w' = (w.alloc o).alloc o' ∧ Chg [] w w' ∧ w'.heap[w.heap.size]? = some o ∧ w'.heap[w.heap.size + 1]? = some o' :=
  ⟨_, rfl, ((Chg.refl [] w).alloc _).alloc _, ((Chg.refl [] _).alloc o').at_ (heap_alloc_new w o) (by simp), heap_alloc_two w o o'⟩
theorem news3 (w : World) (o o' o'' : Obj) : ∃ w' : World, w' = ((w.alloc o).alloc o').alloc o'' ∧ Chg [] w w' ∧ w'.heap[w.heap.size]? = some o ∧ w'.heap[w.heap.size + 1]? = some o' ∧ w'.heap[w.heap.size + 2]? = some o'' := by
  refine ⟨_, rfl, (((Chg.refl [] w).alloc _).alloc _).alloc _, ?_, ?_, ?_⟩
  · exact ((Chg.refl [] _).alloc o'').at_ (((Chg.refl [] _).alloc o').at_ (heap_alloc_new w o) (by simp)) (by simp)
  · exact ((Chg.refl [] _).alloc o'').at_ (heap_alloc_two w o o') (by simp)
  · have := heap_alloc_two (w.alloc o) o' o''
    rwa [World.size_alloc] at this
/-- A store into a block that is new since w. -/
theorem Chg.put {w w' : World} {s : Nat} (h : Chg [] w w') (hs : w.heap.size ≤ s) (j : Nat) (v : Value) : Chg [] w (w'.setCell ⟨s, j, none⟩ v) := h.setCell (.inr hs) _
theorem Chg.put' {w w' : World} {s : Nat} (h : Chg [s] w w') (j : Nat) (v : Value) : Chg [s] w (w'.setCell ⟨s, j, none⟩ v) := h.setCell (.inl (by simp)) _

/-- The block of an address, if there is one. -/
def blkOf (A : Option Addr) : List Nat := A.toList.map (·.block)
theorem mem_blkOf {A : Option Addr} {a : Addr} (h : A = some a) : a.block ∈ blkOf A := by subst h; simp [blkOf]
theorem of_blkOf {A : Option Addr} {i : Nat} (h : i ∈ blkOf A) : ∃ a, A = some a ∧ a.block = i := by
  cases A with
  | none => simp [blkOf] at h
  | some a => simp [blkOf] at h; exact ⟨a, rfl, h.symm⟩
theorem notin_hi {A : Option Addr} {n s : Nat} (h : ∀ a, A = some a → a.block < n) (hs : n ≤ s) : s ∉ blkOf A := fun hm => by
  obtain ⟨a, e, rfl⟩ := of_blkOf hm
  have := h a e
  omega
theorem blkOf_new {A : Option Addr} {n : Nat} (h : ∀ a, A = some a → n ≤ a.block) : ∀ i ∈ blkOf A, n ≤ i := fun i hm => by
  obtain ⟨a, e, rfl⟩ := of_blkOf hm
  exact h a e
theorem OwnB.lt {w : World} {A : Option Addr} {c : Nat} {xs : List UInt8} (h : OwnB w A c xs) : ∀ a, A = some a → a.block < w.heap.size := by
  rintro a rfl
  rcases h with ⟨h, _, _⟩ | ⟨g, full, h, hg, _⟩
  · cases h
  · cases h; exact lt_of_heap hg
section
variable {P : Program} {ops : Array Oper} {Q : Exit → Act → World → Prop} {md : Region.Mode} {S : World → Prop}
/-- A step that yields at once, its slot written out. -/
theorem step_yes (i d : Nat) (v : Value) {oi : Oper} {fuel : Nat} {listed : Array Bool} {a : Act} {w : World} (hS : S w) (hi : ops[i]? = some oi) (hd : oi.dst = some d)
    (hs : Region.noSelect ops = true) (hf : Region.free md ops listed i = true) (hr : (Region.ready md ops listed).contains i = true)
    (hQ : ∀ c a w, Q (.panic c) (a.put (some d) v) w → Q (.panic c) a w) (hw : Region.wanted oi (yielded ops a.tmps) = true) (hy : ∀ w, S w → (execOp a.eval oi).run P w = .ok (.value v) w)
    (h : wpAnyH P md ops Q S fuel (listed.setIfInBounds i true) (a.put (some d) v) w) : wpAnyH P md ops Q S (fuel + 1) listed a w :=
  wpAnyH_take hi hs hf hr (by rw [hd]; exact hQ) (.inl ⟨hw, hy⟩) hS (by rw [hd]; exact h)
/-- A step that is not wanted. -/
theorem step_no (i d : Nat) {oi : Oper} {fuel : Nat} {listed : Array Bool} {a : Act} {w : World} (hS : S w) (hi : ops[i]? = some oi) (hd : oi.dst = some d)
    (hs : Region.noSelect ops = true) (hf : Region.free md ops listed i = true) (hr : (Region.ready md ops listed).contains i = true)
    (hQ : ∀ c a w, Q (.panic c) (a.put (some d) undef) w → Q (.panic c) a w) (hw : Region.wanted oi (yielded ops a.tmps) = false)
    (h : wpAnyH P md ops Q S fuel (listed.setIfInBounds i true) (a.put (some d) undef) w) : wpAnyH P md ops Q S (fuel + 1) listed a w :=
  wpAnyH_take hi hs hf hr (by rw [hd]; exact hQ) (.inr ⟨hw, rfl⟩) hS (by rw [hd]; exact h)
/-- 'step_yes', short: what is closed is proved by itself. -/
theorem sy (i d : Nat) {v : Value} {oi : Oper} {fuel : Nat} {listed : Array Bool} {a : Act} {w : World} (hi : ops[i]? = some oi) (hd : oi.dst = some d)
    (h : wpAnyH P md ops Q S fuel (listed.setIfInBounds i true) (a.put (some d) v) w)
    (hS : S w := by assumption) (hs : Region.noSelect ops = true := by kernel_rfl) (hf : Region.free md ops listed i = true := by kernel_rfl) (hr : (Region.ready md ops listed).contains i = true := by kernel_rfl)
    (hQ : ∀ c a w, Q (.panic c) (a.put (some d) v) w → Q (.panic c) a w := by exact fun _ _ _ h => h) (hw : Region.wanted oi (yielded ops a.tmps) = true := by rfl)
    (hy : ∀ w, S w → (execOp a.eval oi).run P w = .ok (.value v) w := by intro w hSw; (try dsimp only at hSw); go_simp; try with_reducible rfl) : wpAnyH P md ops Q S (fuel + 1) listed a w :=
  step_yes i d v hS hi hd hs hf hr hQ hw hy h
theorem sn (i d : Nat) {oi : Oper} {fuel : Nat} {listed : Array Bool} {a : Act} {w : World} (hi : ops[i]? = some oi) (hd : oi.dst = some d)
    (h : wpAnyH P md ops Q S fuel (listed.setIfInBounds i true) (a.put (some d) undef) w)
    (hS : S w := by assumption) (hs : Region.noSelect ops = true := by kernel_rfl) (hf : Region.free md ops listed i = true := by kernel_rfl) (hr : (Region.ready md ops listed).contains i = true := by kernel_rfl)
    (hQ : ∀ c a w, Q (.panic c) (a.put (some d) undef) w → Q (.panic c) a w := by exact fun _ _ _ h => h) (hw : Region.wanted oi (yielded ops a.tmps) = false := by rfl) : wpAnyH P md ops Q S (fuel + 1) listed a w :=
  step_no i d hS hi hd hs hf hr hQ hw h
end
theorem sA {α : Type} (l : List α) (i : Nat) (a : α) : l.toArray.setIfInBounds i a = (l.set i a).toArray := List.setIfInBounds_toArray ..
end
section
open Go.RowKit
set_option linter.unusedSimpArgs false
set_option linter.unusedVariables false

/-- A type of elements: its cells, its slices, its zero. -/
structure RowTy (α : Type) where
  enc : α → List Value
  k : Nat
  T : TypeId
  TS : TypeId
  z : α
  zv : Value
  bytes : Nat
  klen : ∀ x, (enc x).length = k
  one : ∀ x, ∀ v ∈ enc x, v.oneCell' = true
  zc : zv.cells.toList = enc z
  kpos : 0 < k
  bpos : bytes ≤ 200
  under : Tryz.prog.underlying TS = some (.slice T)
  info : (Tryz.prog.info? T).map (fun i => (i.zero, i.size, i.bytes)) = some (some zv, k, bytes)

section
variable {α : Type} (R : RowTy α)
def RowTy.flat (xs : List α) : List Value := xs.flatMap R.enc
theorem RowTy.flat_nil : R.flat [] = [] := rfl
theorem RowTy.flat_app (xs ys : List α) : R.flat (xs ++ ys) = R.flat xs ++ R.flat ys := by simp [RowTy.flat]
theorem RowTy.flat_cons (x : α) (ys : List α) : R.flat (x :: ys) = R.enc x ++ R.flat ys := by simp [RowTy.flat]
theorem RowTy.flat_len (xs : List α) : (R.flat xs).length = xs.length * R.k := by
  induction xs with
  | nil => simp [RowTy.flat]
  | cons x xs ih => rw [R.flat_cons, List.length_append, R.klen, ih, List.length_cons, Nat.succ_mul]; omega
theorem RowTy.flat_one (xs : List α) : ∀ v ∈ R.flat xs, v.oneCell' = true := by
  intro v hv
  simp only [RowTy.flat, List.mem_flatMap] at hv
  obtain ⟨x, _, hx⟩ := hv
  exact R.one x v hx
theorem RowTy.flat_at : ∀ (xs : List α) (j i : Nat) (x : α), xs[j]? = some x → i < R.k → (R.flat xs)[j * R.k + i]? = (R.enc x)[i]?
  | [], j, i, x, h, _ => by simp at h
  | y :: ys, 0, i, x, h, hi => by
    simp at h
    subst h
    rw [R.flat_cons, Nat.zero_mul, Nat.zero_add, List.getElem?_append_left (by rw [R.klen]; exact hi)]
  | y :: ys, j + 1, i, x, h, hi => by
    have h' : ys[j]? = some x := by simpa using h
    rw [R.flat_cons, List.getElem?_append_right (by rw [R.klen, Nat.succ_mul]; omega), R.klen]
    rw [show (j + 1) * R.k + i - R.k = j * R.k + i by rw [Nat.succ_mul]; omega]
    exact RowTy.flat_at ys j i x h' hi
theorem RowTy.flat_take (xs : List α) (j : Nat) : R.flat (xs.take j) = (R.flat xs).take (j * R.k) := by
  by_cases h : j ≤ xs.length
  · have e : (R.flat (xs.take j)).length = j * R.k := by rw [R.flat_len, List.length_take, Nat.min_eq_left h]
    have e2 : R.flat xs = R.flat (xs.take j) ++ R.flat (xs.drop j) := by rw [← R.flat_app, List.take_append_drop]
    rw [e2, ← e, List.take_left]
  · rw [List.take_of_length_le (l := xs) (by omega), List.take_of_length_le]
    rw [R.flat_len]
    exact Nat.mul_le_mul_right _ (by omega)
theorem RowTy.flat_drop (xs : List α) (j : Nat) : R.flat (xs.drop j) = (R.flat xs).drop (j * R.k) := by
  by_cases h : j ≤ xs.length
  · have e : (R.flat (xs.take j)).length = j * R.k := by rw [R.flat_len, List.length_take, Nat.min_eq_left h]
    have e2 : R.flat xs = R.flat (xs.take j) ++ R.flat (xs.drop j) := by rw [← R.flat_app, List.take_append_drop]
    rw [e2, ← e, List.drop_left]
  · rw [List.drop_of_length_le (by omega), R.flat_nil, List.drop_of_length_le]
    rw [R.flat_len]
    exact Nat.mul_le_mul_right _ (by omega)
theorem RowTy.flat_ext (l : List Value) (ys : List α) (hl : l.length = ys.length * R.k) (h : ∀ q i x, ys[q]? = some x → i < R.k → l[q * R.k + i]? = (R.enc x)[i]?) : l = R.flat ys := by
  apply List.ext_getElem?
  intro p
  by_cases hp : p < ys.length * R.k
  · have hq : p / R.k < ys.length := (Nat.div_lt_iff_lt_mul R.kpos).2 hp
    have hm : p % R.k < R.k := Nat.mod_lt _ R.kpos
    have e := h (p / R.k) (p % R.k) _ (List.getElem?_eq_getElem hq) hm
    have e2 := R.flat_at ys (p / R.k) (p % R.k) _ (List.getElem?_eq_getElem hq) hm
    rw [Nat.div_add_mod' p R.k] at e e2
    rw [e, e2]
  · rw [List.getElem?_eq_none (by omega), List.getElem?_eq_none (by rw [R.flat_len]; omega)]
theorem RowTy.zeros (n : Nat) : Builtin.zeroCells R.zv.cells n = (R.flat (List.replicate n R.z)).toArray := by
  have hk : R.zv.cells.size = R.k := by rw [← Array.length_toList, R.zc, R.klen]
  apply Array.toList_inj.1
  apply List.ext_getElem?
  intro i
  by_cases hi : i < n * R.k
  · have hd : i / R.k < n := (Nat.div_lt_iff_lt_mul R.kpos).2 hi
    have hm : i % R.k < R.k := Nat.mod_lt _ R.kpos
    have h2 := R.flat_at (List.replicate n R.z) (i / R.k) (i % R.k) R.z (by simp [hd]) hm
    rw [Nat.div_add_mod' i R.k] at h2
    rw [show (R.flat (List.replicate n R.z)).toArray.toList = R.flat (List.replicate n R.z) by simp, h2, ← R.zc]
    simp [Builtin.zeroCells, hk, hi, getElem!_pos, hm]
  · rw [List.getElem?_eq_none (by simp [Builtin.zeroCells, hk]; omega), List.getElem?_eq_none (by simp [R.flat_len]; omega)]

/-- The slice '.slice A n _' reads as these elements. -/
structure RdK (w : World) (A : Option Addr) (n : Nat) (xs : List α) : Prop where
  len : xs.length = n
  cells : ∀ j v, (R.flat xs)[j]? = some v → ∃ a, A = some a ∧ w.cell? (a.add j) = some v
/-- The slice '.slice A xs.length c' owns a row that begins with these. -/
def OwnK (w : World) (A : Option Addr) (c : Nat) (xs : List α) : Prop :=
  (A = none ∧ xs = [] ∧ c = 0) ∨ ∃ (g : Nat) (full : List α), A = some ⟨g, 0, none⟩ ∧ w.heap[g]? = some (.cells (R.flat full).toArray R.T (0, 0)) ∧ full.length = c ∧ c ≤ maxLen ∧ xs.length ≤ c ∧ full.take xs.length = xs
end
section
variable {α : Type} {R : RowTy α}
theorem RdK.nil (w : World) (A : Option Addr) : RdK R w A 0 [] := ⟨rfl, by simp [RowTy.flat]⟩
theorem RdK.chg {S : List Nat} {w w' : World} {A : Option Addr} {n : Nat} {xs : List α} (h : RdK R w A n xs) (hc : Chg S w w') (hn : ∀ a, A = some a → a.block ∉ S) : RdK R w' A n xs :=
  ⟨h.len, fun j u hj => by
    obtain ⟨a, ha, hcell⟩ := h.cells j u hj
    exact ⟨a, ha, hc.cell hcell (by rw [block_add]; exact hn a ha)⟩⟩
/-- One element's cells. -/
theorem RdK.at_ {w : World} {g o n : Nat} {xs : List α} (h : RdK R w (some ⟨g, o, none⟩) n xs) (j i : Nat) (x : α) (v : Value) (hx : xs[j]? = some x) (hi : (R.enc x)[i]? = some v) : w.cell? ⟨g, o + (j * R.k + i), none⟩ = some v := by
  have hik : i < R.k := by rw [← R.klen x]; exact (List.getElem?_eq_some_iff.1 hi).1
  obtain ⟨a, e, hc⟩ := h.cells _ v ((R.flat_at xs j i x hx hik).trans hi)
  cases e
  rwa [add_lit] at hc
theorem RdK.line {w : World} {A : Option Addr} {n : Nat} {xs : List α} (h : RdK R w A n xs) (h0 : 0 < n) : ∃ g o, A = some ⟨g, o, none⟩ ∧ g < w.heap.size := by
  have hl := h.len
  have hp : 0 < (R.flat xs).length := by rw [R.flat_len]; exact Nat.mul_pos (by omega) R.kpos
  obtain ⟨a, rfl, hc⟩ := h.cells 0 _ (List.getElem?_eq_getElem hp)
  have hsp := World.cell?_spot hc
  have hb := lt_of_cell hc
  obtain ⟨g, o, sp⟩ := a
  have hsp : sp = none := by simpa [Addr.add] using hsp
  subst hsp
  rw [block_add] at hb
  exact ⟨g, o, rfl, hb⟩
theorem OwnK.none_ (w : World) : OwnK R w none 0 [] := .inl ⟨rfl, rfl, rfl⟩
theorem OwnK.of {w : World} {g c : Nat} {full xs : List α} (hg : w.heap[g]? = some (.cells (R.flat full).toArray R.T (0, 0))) (h1 : xs.length ≤ c) (h2 : c ≤ maxLen) (h3 : full.length = c) (h4 : full.take xs.length = xs) :
    OwnK R w (some ⟨g, 0, none⟩) c xs := .inr ⟨g, full, rfl, hg, h3, h2, h1, h4⟩
theorem OwnK.cap {w : World} {A : Option Addr} {c : Nat} {xs : List α} (h : OwnK R w A c xs) : xs.length ≤ c ∧ c ≤ maxLen := by
  rcases h with ⟨_, rfl, rfl⟩ | ⟨_, _, _, _, _, h1, h2, _⟩
  · simp [maxLen]
  · exact ⟨h2, h1⟩
theorem OwnK.reads {w : World} {A : Option Addr} {c : Nat} {xs : List α} (h : OwnK R w A c xs) : RdK R w A xs.length xs := by
  refine ⟨rfl, fun j u hj => ?_⟩
  rcases h with ⟨_, rfl, _⟩ | ⟨g, full, rfl, hg, _, _, _, ht⟩
  · simp [RowTy.flat] at hj
  · refine ⟨_, rfl, ?_⟩
    rw [← ht, R.flat_take, List.getElem?_take] at hj
    split at hj
    · rw [add_zero_lit, cell_of hg]; simpa using hj
    · cases hj
theorem OwnK.chg {S : List Nat} {w w' : World} {A : Option Addr} {c : Nat} {xs : List α} (h : OwnK R w A c xs) (hc : Chg S w w') (hn : ∀ a, A = some a → a.block ∉ S) : OwnK R w' A c xs := by
  rcases h with h | ⟨g, full, h1, h2, r⟩
  · exact .inl h
  · exact .inr ⟨g, full, h1, hc.at_ h2 (hn _ h1), r⟩
theorem OwnK.lt {w : World} {A : Option Addr} {c : Nat} {xs : List α} (h : OwnK R w A c xs) : ∀ a, A = some a → a.block < w.heap.size := by
  rintro a rfl
  rcases h with ⟨h, _, _⟩ | ⟨g, full, h, hg, _⟩
  · cases h
  · cases h; exact lt_of_heap hg
theorem OwnK.shape {w : World} {A : Option Addr} {c : Nat} {xs : List α} (h : OwnK R w A c xs) : A = none ∧ xs = [] ∧ c = 0 ∨ ∃ g, A = some ⟨g, 0, none⟩ ∧ g < w.heap.size := by
  rcases h with h | ⟨g, full, h, hg, _⟩
  · exact .inl h
  · exact .inr ⟨g, h, lt_of_heap hg⟩
/-- A prefix of what is owned is owned. -/
theorem OwnK.take {w : World} {A : Option Addr} {c : Nat} {xs : List α} (h : OwnK R w A c xs) (j : Nat) : OwnK R w A c (xs.take j) := by
  rcases h with ⟨h1, rfl, h3⟩ | ⟨g, full, h1, h2, h3, h4, h5, h6⟩
  · exact .inl ⟨h1, by simp, h3⟩
  · refine .inr ⟨g, full, h1, h2, h3, h4, by rw [List.length_take]; omega, ?_⟩
    rw [List.length_take]
    conv => rhs; rw [← h6, List.take_take]
theorem RdK.part {w : World} {g o n : Nat} {xs : List α} (h : RdK R w (some ⟨g, o, none⟩) n xs) (q m : Nat) (hq : q + m ≤ n) : RdK R w (some ⟨g, o + q * R.k, none⟩) m ((xs.drop q).take m) := by
  have hl := h.len
  refine ⟨by simp; omega, fun j v hj => ⟨_, rfl, ?_⟩⟩
  rw [R.flat_take, R.flat_drop, List.getElem?_take] at hj
  split at hj
  · rw [List.getElem?_drop] at hj
    obtain ⟨a, e, hc⟩ := h.cells _ v hj
    cases e
    rw [add_lit] at hc ⊢
    rwa [Nat.add_assoc]
  · cases hj

set_option maxRecDepth 100000 in
/-- append of elements to a row that is owned. -/
theorem run_appK (w : World) (ty : TypeId) {A : Option Addr} {c : Nat} {xs : List α} (hown : OwnK R w A c xs) {B : Option Addr} {m d : Nat} {ys : List α} (hr : RdK R w B m ys) (hlen : (xs.length + m) * 400 ≤ 140737488355327) :
    ∃ A' c' w', (Builtin.append_ #[R.TS, R.TS] ty #[.slice A xs.length c, .slice B m d]).run Tryz.prog w = .ok (.slice A' (xs.length + m) c') w' ∧ OwnK R w' A' c' (xs ++ ys) ∧
      w.grownBy w' (A.map (·.block)) ∧ (A' = A ∨ A' = some ⟨w.heap.size, 0, none⟩) := by
  obtain ⟨i0, hi, hz0, hz1, hz2⟩ := info_parts R.info
  have hbp := R.bpos
  have hzs : R.zv.cells.size = R.k := by rw [← Array.length_toList, R.zc, R.klen]
  have hm := hr.len
  subst hm
  rcases B with _ | ad
  · have hy : ys = [] := by
      cases ys with
      | nil => rfl
      | cons y ys =>
        have : 0 < (R.flat (y :: ys)).length := by rw [R.flat_len, List.length_cons]; exact Nat.mul_pos (by omega) R.kpos
        obtain ⟨a, h, _⟩ := hr.cells 0 _ (List.getElem?_eq_getElem this); cases h
    subst hy
    have h0 : (Builtin.append_ #[R.TS, R.TS] ty #[.slice A xs.length c, .slice none 0 d]).run Tryz.prog w = .ok (.slice A xs.length c) w := by
      rcases hown with ⟨rfl, rfl, rfl⟩ | ⟨g, full, rfl, _, _, _, hnc, _⟩
      · simp [Builtin.append_, run_underlying R.under, sizeOf, typeInfo, hi, Builtin.lenOf, Builtin.firstCells]
      · simp [Builtin.append_, run_underlying R.under, sizeOf, typeInfo, hi, Builtin.lenOf, Builtin.firstCells, hnc, storeCells]
    exact ⟨A, c, w, h0, by simpa using hown, World.grownBy.refl w _, .inl rfl⟩
  have hnews : ∀ j u, (R.flat ys)[j]? = some u → w.cell? (ad.add j) = some u := by
    intro j u hu
    obtain ⟨a, e, hc⟩ := hr.cells j u hu
    cases e
    exact hc
  have hl : (R.flat ys).length = ys.length * i0.size := by rw [hz1, R.flat_len]
  have h1 := R.flat_one ys
  have hbnd : ∀ q, q * 400 ≤ 140737488355327 → (q * 2) * i0.bytes ≤ 281474976710656 := fun q hq => by
    rw [hz2]
    have := Nat.mul_le_mul_left (q * 2) hbp
    omega
  have grown : ∀ (old : Nat) (row : Option Nat), let cap' := grownCap w (xs.length + ys.length) old R.T
      OwnK R (w.drew.alloc (.cells ((R.flat xs).toArray ++ (R.flat ys).toArray ++ Builtin.zeroCells R.zv.cells (cap' - (xs.length + ys.length))) R.T)) (some ⟨w.heap.size, 0, none⟩) cap' (xs ++ ys) ∧
      w.grownBy (w.drew.alloc (.cells ((R.flat xs).toArray ++ (R.flat ys).toArray ++ Builtin.zeroCells R.zv.cells (cap' - (xs.length + ys.length))) R.T)) row := by
    intro old row cap'
    have hge : xs.length + ys.length ≤ cap' := grownCap_ge w _ old _
    have hcm : cap' ≤ maxLen := grownCap_le_maxLen w _ old _ (by simp only [maxLen]; omega)
    have e : (R.flat (xs ++ ys ++ List.replicate (cap' - (xs.length + ys.length)) R.z)).toArray = (R.flat xs).toArray ++ (R.flat ys).toArray ++ (R.flat (List.replicate (cap' - (xs.length + ys.length)) R.z)).toArray := by
      rw [R.flat_app, R.flat_app, List.append_toArray, List.append_toArray]
    refine ⟨.of (full := xs ++ ys ++ List.replicate (cap' - (xs.length + ys.length)) R.z) ?_ (by simpa using hge) hcm (by simp; omega) List.take_left, ⟨rfl, rfl, rfl, by simp, fun k hk _ => Below.heap_alloc w.drew _ k hk⟩⟩
    rw [R.zeros, e]
    exact heap_alloc_new w.drew _
  rcases hown with ⟨rfl, rfl, rfl⟩ | ⟨g, full, rfl, hg, hfl, hcm, hnc, htake⟩
  · by_cases hy : ys.length = 0
    · have hn : ys = [] := List.eq_nil_of_length_eq_zero hy
      subst hn
      refine ⟨none, 0, w, ?_, OwnK.none_ w, World.grownBy.refl w _, .inl rfl⟩
      simp [Builtin.append_, run_underlying R.under, sizeOf, typeInfo, hi, Builtin.lenOf, Builtin.firstCells, loadCells, loadCellsFrom]
    · have hbn := hbnd ys.length (by simpa using hlen)
      have hr := run_append_nil (P := Tryz.prog) w R.TS ty R.T i0 R.zv R.under hi hz0 ad ys.length d (R.flat ys) hl hnews (by omega) (by simp at hlen; omega) (Nat.le_trans (Nat.mul_le_mul_right _ (by omega)) hbn)
      have hgr := grown 0 none
      simp only [List.length_nil, Nat.zero_add, RowTy.flat_nil, List.nil_append, Array.empty_append] at hgr ⊢
      exact ⟨_, _, _, hr, hgr.1, hgr.2, .inr rfl⟩
  · by_cases hroom : xs.length + ys.length ≤ c
    · have hfit : xs.length * i0.size + (R.flat ys).length ≤ (R.flat full).toArray.size := by
        rw [hz1, R.flat_len, List.size_toArray, R.flat_len, ← Nat.add_mul]; exact Nat.mul_le_mul_right _ (by omega)
      have hr := run_append_room (P := Tryz.prog) w R.TS ty R.T i0 R.under hi g xs.length c _ hg ad ys.length d (R.flat ys) hl hnews h1 hroom hfit
      refine ⟨_, _, _, hr, .of (full := full.take xs.length ++ ys ++ full.drop (xs.length + ys.length)) ?_ (by simpa using hroom) hcm (by simp; omega) (by rw [htake, ← List.length_append]; exact List.take_left), ⟨rfl, rfl, rfl, by simp, fun k hk hne => setRow_other w g k _ (fun e => hne (by simp [e]))⟩, .inl rfl⟩
      have hs := setRow_heap w g _ ((R.flat full).toArray.toList.take (xs.length * i0.size) ++ R.flat ys ++ (R.flat full).toArray.toList.drop (xs.length * i0.size + (R.flat ys).length)).toArray _ _ hg
      rw [hs, R.flat_app, R.flat_app, R.flat_take, R.flat_drop, hz1, R.flat_len, Nat.add_mul]
    · have holds : ∀ j u, (R.flat xs)[j]? = some u → w.cell? ((⟨g, 0, none⟩ : Addr).add j) = some u := by
        intro j u hu
        obtain ⟨a, e, hc⟩ := (OwnK.of hg hnc hcm hfl htake).reads.cells j u hu
        cases e
        exact hc
      have hr := run_append_grow (P := Tryz.prog) w R.TS ty R.T i0 R.zv R.under hi hz0 ⟨g, 0, none⟩ xs.length c (R.flat xs) (by rw [hz1, R.flat_len]) holds ad ys.length d (R.flat ys) hl hnews (by omega) (by omega)
        (growslice_fits (by omega) (by rw [hz2]; have := Nat.mul_le_mul_left (xs.length + ys.length) hbp; omega))
      have hgr := grown c (some g)
      exact ⟨_, _, _, hr, hgr.1, hgr.2, .inr rfl⟩
theorem wpList_appK {ops : Array Oper} {rest : List Oper} {o : Oper} {a : Act} {w : World} {Q : Exit → Act → World → Prop} (hgd : o.guard = none) (s x : Operand)
    (ho : o.op = .call { callee := .builtin .append, args := #[s, x], argTypes := #[R.TS, R.TS] })
    {A : Option Addr} {c n : Nat} {xs : List α} (hs : a.eval s = .slice A n c) (hown : OwnK R w A c xs) (hn : xs.length = n) {B : Option Addr} {m d : Nat} {ys : List α} (hx : a.eval x = .slice B m d) (hr : RdK R w B m ys) (hlen : (n + m) * 400 ≤ 140737488355327)
    (h : ∀ A' c' w', OwnK R w' A' c' (xs ++ ys) → w.grownBy w' (A.map (·.block)) → (A' = A ∨ A' = some ⟨w.heap.size, 0, none⟩) → wpList Tryz.prog ops Q rest (a.put o.dst (.slice A' (n + m) c')) w') : wpList Tryz.prog ops Q (o :: rest) a w :=
  wpList_plain hgd fun _ hK => by
    subst hn
    obtain ⟨A', c', w', hrun, h2, h3, h4⟩ := run_appK w o.type hown (d := d) hr hlen
    unfold Oper.wp execOp
    simp only [ho, resolve, invoke, builtin, Sem.run_bind, Sem.run_pure, Result.andThen_ok, List.map_toArray, List.map_cons, List.map_nil, hs, hx, hrun]
    exact hK _ _ (h A' c' w' h2 h3 h4)
end
end
section
open Go.RowKit

theorem u8_of (x : Int) (k : Nat) (h : x = (k : Int)) (hk : k < 256) : x = ((UInt8.ofNat k).toNat : Int) := by
  rw [UInt8.toNat_ofNat', Nat.mod_eq_of_lt hk]; exact h
end
end Go.Proofs.YtdfapiffalmjcaaGreatDoor
