/- Rows of elements of several cells each (structs): read, owned, appended to. No function of the program is named here. -/
import Derived.Test.YtgafkphhnlifiaaMem
import Derived.Deep.DeepAppendWide
namespace Go.Proofs.Ytgafkphhnlifiaa
open Go.RowKit
set_option linter.unusedSimpArgs false
set_option linter.unusedVariables false

/-- A type of elements: its cells, its slices, its zero. -/
structure RowTy (α : Type) where
  enc : α → List Value
  k : Nat
  T : TypeId
  TS : TypeId
  z : α
  zv : Value
  bytes : Nat
  klen : ∀ x, (enc x).length = k
  one : ∀ x, ∀ v ∈ enc x, v.oneCell' = true
  zc : zv.cells.toList = enc z
  kpos : 0 < k
  bpos : bytes ≤ 200
  under : Try.prog.underlying TS = some (.slice T)
  info : (Try.prog.info? T).map (fun i => (i.zero, i.size, i.bytes)) = some (some zv, k, bytes)

section
variable {α : Type} (R : RowTy α)
def RowTy.flat (xs : List α) : List Value := xs.flatMap R.enc
theorem RowTy.flat_nil : R.flat [] = [] := rfl
theorem RowTy.flat_app (xs ys : List α) : R.flat (xs ++ ys) = R.flat xs ++ R.flat ys := by simp [RowTy.flat]
theorem RowTy.flat_cons (x : α) (ys : List α) : R.flat (x :: ys) = R.enc x ++ R.flat ys := by simp [RowTy.flat]
theorem RowTy.flat_len (xs : List α) : (R.flat xs).length = xs.length * R.k := by
  induction xs with
  | nil => simp [RowTy.flat]
  | cons x xs ih => rw [R.flat_cons, List.length_append, R.klen, ih, List.length_cons, Nat.succ_mul]; omega
theorem RowTy.flat_one (xs : List α) : ∀ v ∈ R.flat xs, v.oneCell' = true := by
  intro v hv
  simp only [RowTy.flat, List.mem_flatMap] at hv
  obtain ⟨x, _, hx⟩ := hv
  exact R.one x v hx
theorem RowTy.flat_at : ∀ (xs : List α) (j i : Nat) (x : α), xs[j]? = some x → i < R.k → (R.flat xs)[j * R.k + i]? = (R.enc x)[i]?
  | [], j, i, x, h, _ => by simp at h
  | y :: ys, 0, i, x, h, hi => by
    simp at h
    subst h
    rw [R.flat_cons, Nat.zero_mul, Nat.zero_add, List.getElem?_append_left (by rw [R.klen]; exact hi)]
  | y :: ys, j + 1, i, x, h, hi => by
    have h' : ys[j]? = some x := by simpa using h
    rw [R.flat_cons, List.getElem?_append_right (by rw [R.klen, Nat.succ_mul]; omega), R.klen]
    rw [show (j + 1) * R.k + i - R.k = j * R.k + i by rw [Nat.succ_mul]; omega]
    exact RowTy.flat_at ys j i x h' hi
theorem RowTy.flat_take (xs : List α) (j : Nat) : R.flat (xs.take j) = (R.flat xs).take (j * R.k) := by
  by_cases h : j ≤ xs.length
  · have e : (R.flat (xs.take j)).length = j * R.k := by rw [R.flat_len, List.length_take, Nat.min_eq_left h]
    have e2 : R.flat xs = R.flat (xs.take j) ++ R.flat (xs.drop j) := by rw [← R.flat_app, List.take_append_drop]
    rw [e2, ← e, List.take_left]
  · rw [List.take_of_length_le (l := xs) (by omega), List.take_of_length_le]
    rw [R.flat_len]
    exact Nat.mul_le_mul_right _ (by omega)
theorem RowTy.flat_drop (xs : List α) (j : Nat) : R.flat (xs.drop j) = (R.flat xs).drop (j * R.k) := by
  by_cases h : j ≤ xs.length
  · have e : (R.flat (xs.take j)).length = j * R.k := by rw [R.flat_len, List.length_take, Nat.min_eq_left h]
    have e2 : R.flat xs = R.flat (xs.take j) ++ R.flat (xs.drop j) := by rw [← R.flat_app, List.take_append_drop]
    rw [e2, ← e, List.drop_left]
  · rw [List.drop_of_length_le (by omega), R.flat_nil, List.drop_of_length_le]
    rw [R.flat_len]
    exact Nat.mul_le_mul_right _ (by omega)
theorem RowTy.flat_ext (l : List Value) (ys : List α) (hl : l.length = ys.length * R.k) (h : ∀ q i x, ys[q]? = some x → i < R.k → l[q * R.k + i]? = (R.enc x)[i]?) : l = R.flat ys := by
  apply List.ext_getElem?
  intro p
  by_cases hp : p < ys.length * R.k
  · have hq : p / R.k < ys.length := (Nat.div_lt_iff_lt_mul R.kpos).2 hp
    have hm : p % R.k < R.k := Nat.mod_lt _ R.kpos
    have e := h (p / R.k) (p % R.k) _ (List.getElem?_eq_getElem hq) hm
    have e2 := R.flat_at ys (p / R.k) (p % R.k) _ (List.getElem?_eq_getElem hq) hm
    rw [Nat.div_add_mod' p R.k] at e e2
    rw [e, e2]
  · rw [List.getElem?_eq_none (by omega), List.getElem?_eq_none (by rw [R.flat_len]; omega)]
theorem RowTy.zeros (n : Nat) : Builtin.zeroCells R.zv.cells n = (R.flat (List.replicate n R.z)).toArray := by
  have hk : R.zv.cells.size = R.k := by rw [← Array.length_toList, R.zc, R.klen]
  apply Array.toList_inj.1
  apply List.ext_getElem?
  intro i
  by_cases hi : i < n * R.k
  · have hd : i / R.k < n := (Nat.div_lt_iff_lt_mul R.kpos).2 hi
    have hm : i % R.k < R.k := Nat.mod_lt _ R.kpos
    have h2 := R.flat_at (List.replicate n R.z) (i / R.k) (i % R.k) R.z (by simp [hd]) hm
    rw [Nat.div_add_mod' i R.k] at h2
    rw [show (R.flat (List.replicate n R.z)).toArray.toList = R.flat (List.replicate n R.z) by simp, h2, ← R.zc]
    simp [Builtin.zeroCells, hk, hi, getElem!_pos, hm]
  · rw [List.getElem?_eq_none (by simp [Builtin.zeroCells, hk]; omega), List.getElem?_eq_none (by simp [R.flat_len]; omega)]

/-- The slice '.slice A n _' reads as these elements. -/
structure RdK (w : World) (A : Option Addr) (n : Nat) (xs : List α) : Prop where
  len : xs.length = n
  cells : ∀ j v, (R.flat xs)[j]? = some v → ∃ a, A = some a ∧ w.cell? (a.add j) = some v
/-- The slice '.slice A xs.length c' owns a row that begins with these. -/
def OwnK (w : World) (A : Option Addr) (c : Nat) (xs : List α) : Prop :=
  (A = none ∧ xs = [] ∧ c = 0) ∨ ∃ (g : Nat) (full : List α), A = some ⟨g, 0, none⟩ ∧ w.heap[g]? = some (.cells (R.flat full).toArray R.T (0, 0)) ∧ full.length = c ∧ c ≤ maxLen ∧ xs.length ≤ c ∧ full.take xs.length = xs
end
section
variable {α : Type} {R : RowTy α}
theorem RdK.nil (w : World) (A : Option Addr) : RdK R w A 0 [] := ⟨rfl, by simp [RowTy.flat]⟩
theorem RdK.chg {S : List Nat} {w w' : World} {A : Option Addr} {n : Nat} {xs : List α} (h : RdK R w A n xs) (hc : Chg S w w') (hn : ∀ a, A = some a → a.block ∉ S) : RdK R w' A n xs :=
  ⟨h.len, fun j u hj => by
    obtain ⟨a, ha, hcell⟩ := h.cells j u hj
    exact ⟨a, ha, hc.cell hcell (by rw [block_add]; exact hn a ha)⟩⟩
theorem RdK.old {w : World} {A : Option Addr} {n : Nat} {xs : List α} (h : RdK R w A n xs) : xs = [] ∨ ∀ a, A = some a → a.block < w.heap.size := by
  cases xs with
  | nil => exact .inl rfl
  | cons x xs =>
    right
    rintro a rfl
    have h0 : ∃ v, (R.flat (x :: xs))[0]? = some v := by
      have : 0 < (R.flat (x :: xs)).length := by rw [R.flat_len, List.length_cons]; exact Nat.mul_pos (by omega) R.kpos
      exact ⟨_, List.getElem?_eq_getElem this⟩
    obtain ⟨v, hv⟩ := h0
    obtain ⟨a', e, hc⟩ := h.cells 0 v hv
    cases e
    have := lt_of_cell hc
    rwa [block_add] at this
/-- One element's cells. -/
theorem RdK.at_ {w : World} {g o n : Nat} {xs : List α} (h : RdK R w (some ⟨g, o, none⟩) n xs) (j i : Nat) (x : α) (v : Value) (hx : xs[j]? = some x) (hi : (R.enc x)[i]? = some v) : w.cell? ⟨g, o + (j * R.k + i), none⟩ = some v := by
  have hik : i < R.k := by rw [← R.klen x]; exact (List.getElem?_eq_some_iff.1 hi).1
  obtain ⟨a, e, hc⟩ := h.cells _ v ((R.flat_at xs j i x hx hik).trans hi)
  cases e
  rwa [add_lit] at hc
theorem RdK.line {w : World} {A : Option Addr} {n : Nat} {xs : List α} (h : RdK R w A n xs) (h0 : 0 < n) : ∃ g o, A = some ⟨g, o, none⟩ ∧ g < w.heap.size := by
  have hl := h.len
  have hp : 0 < (R.flat xs).length := by rw [R.flat_len]; exact Nat.mul_pos (by omega) R.kpos
  obtain ⟨a, rfl, hc⟩ := h.cells 0 _ (List.getElem?_eq_getElem hp)
  have hsp := World.cell?_spot hc
  have hb := lt_of_cell hc
  obtain ⟨g, o, sp⟩ := a
  have hsp : sp = none := by simpa [Addr.add] using hsp
  subst hsp
  rw [block_add] at hb
  exact ⟨g, o, rfl, hb⟩
theorem OwnK.none_ (w : World) : OwnK R w none 0 [] := .inl ⟨rfl, rfl, rfl⟩
theorem OwnK.of {w : World} {g c : Nat} {full xs : List α} (hg : w.heap[g]? = some (.cells (R.flat full).toArray R.T (0, 0))) (h1 : xs.length ≤ c) (h2 : c ≤ maxLen) (h3 : full.length = c) (h4 : full.take xs.length = xs) :
    OwnK R w (some ⟨g, 0, none⟩) c xs := .inr ⟨g, full, rfl, hg, h3, h2, h1, h4⟩
theorem OwnK.cap {w : World} {A : Option Addr} {c : Nat} {xs : List α} (h : OwnK R w A c xs) : xs.length ≤ c ∧ c ≤ maxLen := by
  rcases h with ⟨_, rfl, rfl⟩ | ⟨_, _, _, _, _, h1, h2, _⟩
  · simp [maxLen]
  · exact ⟨h2, h1⟩
theorem OwnK.reads {w : World} {A : Option Addr} {c : Nat} {xs : List α} (h : OwnK R w A c xs) : RdK R w A xs.length xs := by
  refine ⟨rfl, fun j u hj => ?_⟩
  rcases h with ⟨_, rfl, _⟩ | ⟨g, full, rfl, hg, _, _, _, ht⟩
  · simp [RowTy.flat] at hj
  · refine ⟨_, rfl, ?_⟩
    rw [← ht, R.flat_take, List.getElem?_take] at hj
    split at hj
    · rw [add_zero_lit, cell_of hg]; simpa using hj
    · cases hj
theorem OwnK.chg {S : List Nat} {w w' : World} {A : Option Addr} {c : Nat} {xs : List α} (h : OwnK R w A c xs) (hc : Chg S w w') (hn : ∀ a, A = some a → a.block ∉ S) : OwnK R w' A c xs := by
  rcases h with h | ⟨g, full, h1, h2, r⟩
  · exact .inl h
  · exact .inr ⟨g, full, h1, hc.at_ h2 (hn _ h1), r⟩
theorem OwnK.lt {w : World} {A : Option Addr} {c : Nat} {xs : List α} (h : OwnK R w A c xs) : ∀ a, A = some a → a.block < w.heap.size := by
  rintro a rfl
  rcases h with ⟨h, _, _⟩ | ⟨g, full, h, hg, _⟩
  · cases h
  · cases h; exact lt_of_heap hg
theorem OwnK.shape {w : World} {A : Option Addr} {c : Nat} {xs : List α} (h : OwnK R w A c xs) : A = none ∧ xs = [] ∧ c = 0 ∨ ∃ g, A = some ⟨g, 0, none⟩ ∧ g < w.heap.size := by
  rcases h with h | ⟨g, full, h, hg, _⟩
  · exact .inl h
  · exact .inr ⟨g, h, lt_of_heap hg⟩
/-- A prefix of what is owned is owned. -/
theorem OwnK.take {w : World} {A : Option Addr} {c : Nat} {xs : List α} (h : OwnK R w A c xs) (j : Nat) : OwnK R w A c (xs.take j) := by
  rcases h with ⟨h1, rfl, h3⟩ | ⟨g, full, h1, h2, h3, h4, h5, h6⟩
  · exact .inl ⟨h1, by simp, h3⟩
  · refine .inr ⟨g, full, h1, h2, h3, h4, by rw [List.length_take]; omega, ?_⟩
    rw [List.length_take]
    conv => rhs; rw [← h6, List.take_take]
theorem RdK.part {w : World} {g o n : Nat} {xs : List α} (h : RdK R w (some ⟨g, o, none⟩) n xs) (q m : Nat) (hq : q + m ≤ n) : RdK R w (some ⟨g, o + q * R.k, none⟩) m ((xs.drop q).take m) := by
  have hl := h.len
  refine ⟨by simp; omega, fun j v hj => ⟨_, rfl, ?_⟩⟩
  rw [R.flat_take, R.flat_drop, List.getElem?_take] at hj
  split at hj
  · rw [List.getElem?_drop] at hj
    obtain ⟨a, e, hc⟩ := h.cells _ v hj
    cases e
    rw [add_lit] at hc ⊢
    rwa [Nat.add_assoc]
  · cases hj

set_option maxRecDepth 100000 in
/-- append of elements to a row that is owned. -/
theorem run_appK (w : World) (ty : TypeId) {A : Option Addr} {c : Nat} {xs : List α} (hown : OwnK R w A c xs) {B : Option Addr} {m d : Nat} {ys : List α} (hr : RdK R w B m ys) (hlen : (xs.length + m) * 400 ≤ 140737488355327) :
    ∃ A' c' w', (Builtin.append_ #[R.TS, R.TS] ty #[.slice A xs.length c, .slice B m d]).run Try.prog w = .ok (.slice A' (xs.length + m) c') w' ∧ OwnK R w' A' c' (xs ++ ys) ∧
      w.grownBy w' (A.map (·.block)) ∧ (A' = A ∨ A' = some ⟨w.heap.size, 0, none⟩) := by
  obtain ⟨i0, hi, hz0, hz1, hz2⟩ := info_parts R.info
  have hbp := R.bpos
  have hzs : R.zv.cells.size = R.k := by rw [← Array.length_toList, R.zc, R.klen]
  have hm := hr.len
  subst hm
  rcases B with _ | ad
  · have hy : ys = [] := by
      cases ys with
      | nil => rfl
      | cons y ys =>
        have : 0 < (R.flat (y :: ys)).length := by rw [R.flat_len, List.length_cons]; exact Nat.mul_pos (by omega) R.kpos
        obtain ⟨a, h, _⟩ := hr.cells 0 _ (List.getElem?_eq_getElem this); cases h
    subst hy
    have h0 : (Builtin.append_ #[R.TS, R.TS] ty #[.slice A xs.length c, .slice none 0 d]).run Try.prog w = .ok (.slice A xs.length c) w := by
      rcases hown with ⟨rfl, rfl, rfl⟩ | ⟨g, full, rfl, _, _, _, hnc, _⟩
      · simp [Builtin.append_, run_underlying R.under, sizeOf, typeInfo, hi, Builtin.lenOf, Builtin.firstCells]
      · simp [Builtin.append_, run_underlying R.under, sizeOf, typeInfo, hi, Builtin.lenOf, Builtin.firstCells, hnc, storeCells]
    exact ⟨A, c, w, h0, by simpa using hown, World.grownBy.refl w _, .inl rfl⟩
  have hnews : ∀ j u, (R.flat ys)[j]? = some u → w.cell? (ad.add j) = some u := by
    intro j u hu
    obtain ⟨a, e, hc⟩ := hr.cells j u hu
    cases e
    exact hc
  have hl : (R.flat ys).length = ys.length * i0.size := by rw [hz1, R.flat_len]
  have h1 := R.flat_one ys
  have hbnd : ∀ q, q * 400 ≤ 140737488355327 → (q * 2) * i0.bytes ≤ 281474976710656 := fun q hq => by
    rw [hz2]
    have := Nat.mul_le_mul_left (q * 2) hbp
    omega
  have grown : ∀ (old : Nat) (row : Option Nat), let cap' := grownCap w (xs.length + ys.length) old R.T
      OwnK R (w.drew.alloc (.cells ((R.flat xs).toArray ++ (R.flat ys).toArray ++ Builtin.zeroCells R.zv.cells (cap' - (xs.length + ys.length))) R.T)) (some ⟨w.heap.size, 0, none⟩) cap' (xs ++ ys) ∧
      w.grownBy (w.drew.alloc (.cells ((R.flat xs).toArray ++ (R.flat ys).toArray ++ Builtin.zeroCells R.zv.cells (cap' - (xs.length + ys.length))) R.T)) row := by
    intro old row cap'
    have hge : xs.length + ys.length ≤ cap' := grownCap_ge w _ old _
    have hcm : cap' ≤ maxLen := grownCap_le_maxLen w _ old _ (by simp only [maxLen]; omega)
    have e : (R.flat (xs ++ ys ++ List.replicate (cap' - (xs.length + ys.length)) R.z)).toArray = (R.flat xs).toArray ++ (R.flat ys).toArray ++ (R.flat (List.replicate (cap' - (xs.length + ys.length)) R.z)).toArray := by
      rw [R.flat_app, R.flat_app, List.append_toArray, List.append_toArray]
    refine ⟨.of (full := xs ++ ys ++ List.replicate (cap' - (xs.length + ys.length)) R.z) ?_ (by simpa using hge) hcm (by simp; omega) List.take_left, ⟨rfl, rfl, rfl, by simp, fun k hk _ => Below.heap_alloc w.drew _ k hk⟩⟩
    rw [R.zeros, e]
    exact heap_alloc_new w.drew _
  rcases hown with ⟨rfl, rfl, rfl⟩ | ⟨g, full, rfl, hg, hfl, hcm, hnc, htake⟩
  · by_cases hy : ys.length = 0
    · have hn : ys = [] := List.eq_nil_of_length_eq_zero hy
      subst hn
      refine ⟨none, 0, w, ?_, OwnK.none_ w, World.grownBy.refl w _, .inl rfl⟩
      simp [Builtin.append_, run_underlying R.under, sizeOf, typeInfo, hi, Builtin.lenOf, Builtin.firstCells, loadCells, loadCellsFrom]
    · have hbn := hbnd ys.length (by simpa using hlen)
      have hr := run_append_nil (P := Try.prog) w R.TS ty R.T i0 R.zv R.under hi hz0 ad ys.length d (R.flat ys) hl hnews (by omega) (by simp at hlen; omega) (Nat.le_trans (Nat.mul_le_mul_right _ (by omega)) hbn)
      have hgr := grown 0 none
      simp only [List.length_nil, Nat.zero_add, RowTy.flat_nil, List.nil_append, Array.empty_append] at hgr ⊢
      exact ⟨_, _, _, hr, hgr.1, hgr.2, .inr rfl⟩
  · by_cases hroom : xs.length + ys.length ≤ c
    · have hfit : xs.length * i0.size + (R.flat ys).length ≤ (R.flat full).toArray.size := by
        rw [hz1, R.flat_len, List.size_toArray, R.flat_len, ← Nat.add_mul]; exact Nat.mul_le_mul_right _ (by omega)
      have hr := run_append_room (P := Try.prog) w R.TS ty R.T i0 R.under hi g xs.length c _ hg ad ys.length d (R.flat ys) hl hnews h1 hroom hfit
      refine ⟨_, _, _, hr, .of (full := full.take xs.length ++ ys ++ full.drop (xs.length + ys.length)) ?_ (by simpa using hroom) hcm (by simp; omega) (by rw [htake, ← List.length_append]; exact List.take_left), ⟨rfl, rfl, rfl, by simp, fun k hk hne => setRow_other w g k _ (fun e => hne (by simp [e]))⟩, .inl rfl⟩
      have hs := setRow_heap w g _ ((R.flat full).toArray.toList.take (xs.length * i0.size) ++ R.flat ys ++ (R.flat full).toArray.toList.drop (xs.length * i0.size + (R.flat ys).length)).toArray _ _ hg
      rw [hs, R.flat_app, R.flat_app, R.flat_take, R.flat_drop, hz1, R.flat_len, Nat.add_mul]
    · have holds : ∀ j u, (R.flat xs)[j]? = some u → w.cell? ((⟨g, 0, none⟩ : Addr).add j) = some u := by
        intro j u hu
        obtain ⟨a, e, hc⟩ := (OwnK.of hg hnc hcm hfl htake).reads.cells j u hu
        cases e
        exact hc
      have hr := run_append_grow (P := Try.prog) w R.TS ty R.T i0 R.zv R.under hi hz0 ⟨g, 0, none⟩ xs.length c (R.flat xs) (by rw [hz1, R.flat_len]) holds ad ys.length d (R.flat ys) hl hnews (by omega) (by omega)
        (growslice_fits (by omega) (by rw [hz2]; have := Nat.mul_le_mul_left (xs.length + ys.length) hbp; omega))
      have hgr := grown c (some g)
      exact ⟨_, _, _, hr, hgr.1, hgr.2, .inr rfl⟩
theorem wpList_appK {ops : Array Oper} {rest : List Oper} {o : Oper} {a : Act} {w : World} {Q : Exit → Act → World → Prop} (hgd : o.guard = none) (s x : Operand)
    (ho : o.op = .call { callee := .builtin .append, args := #[s, x], argTypes := #[R.TS, R.TS] })
    {A : Option Addr} {c n : Nat} {xs : List α} (hs : a.eval s = .slice A n c) (hown : OwnK R w A c xs) (hn : xs.length = n) {B : Option Addr} {m d : Nat} {ys : List α} (hx : a.eval x = .slice B m d) (hr : RdK R w B m ys) (hlen : (n + m) * 400 ≤ 140737488355327)
    (h : ∀ A' c' w', OwnK R w' A' c' (xs ++ ys) → w.grownBy w' (A.map (·.block)) → (A' = A ∨ A' = some ⟨w.heap.size, 0, none⟩) → wpList Try.prog ops Q rest (a.put o.dst (.slice A' (n + m) c')) w') : wpList Try.prog ops Q (o :: rest) a w :=
  wpList_plain hgd fun _ hK => by
    subst hn
    obtain ⟨A', c', w', hrun, h2, h3, h4⟩ := run_appK w o.type hown (d := d) hr hlen
    unfold Oper.wp execOp
    simp only [ho, resolve, invoke, builtin, Sem.run_bind, Sem.run_pure, Result.andThen_ok, List.map_toArray, List.map_cons, List.map_nil, hs, hx, hrun]
    exact hK _ _ (h A' c' w' h2 h3 h4)
theorem step_appK {ops : Array Oper} {o : Oper} {a : Act} {w : World} {K : Act → World → Prop} {Q : Exit → Act → World → Prop} {E : Prop} (hgd : o.guard = none) (s x : Operand)
    (ho : o.op = .call { callee := .builtin .append, args := #[s, x], argTypes := #[R.TS, R.TS] })
    {A : Option Addr} {c n : Nat} {xs : List α} (hs : a.eval s = .slice A n c) (hown : OwnK R w A c xs) (hn : xs.length = n) {B : Option Addr} {m d : Nat} {ys : List α} (hx : a.eval x = .slice B m d) (hr : RdK R w B m ys) (hlen : (n + m) * 400 ≤ 140737488355327)
    (h : ∀ A' c' w', OwnK R w' A' c' (xs ++ ys) → w.grownBy w' (A.map (·.block)) → (A' = A ∨ A' = some ⟨w.heap.size, 0, none⟩) → K (a.put o.dst (.slice A' (n + m) c')) w') :
    if Region.wanted o (yielded ops a.tmps) = true then Oper.wp Try.prog o a w K Q else E := by
  have hw : Region.wanted o (yielded ops a.tmps) = true := by simp [Region.wanted, hgd]
  rw [if_pos hw]
  subst hn
  obtain ⟨A', c', w', hrun, h2, h3, h4⟩ := run_appK w o.type hown (d := d) hr hlen
  unfold Oper.wp execOp
  simp only [ho, resolve, invoke, builtin, Sem.run_bind, Sem.run_pure, Result.andThen_ok, List.map_toArray, List.map_cons, List.map_nil, hs, hx, hrun]
  exact h A' c' w' h2 h3 h4
end
end Go.Proofs.Ytgafkphhnlifiaa
