/- Single operations on marks, and what the model makes of them: reading, writing, making. No program is named here. -/
import Derived.Test.YtgafkphhnlifiaaEv2
namespace Go.Proofs.Ytgafkphhnlifiaa
namespace Ev
set_option linter.unusedVariables false
set_option linter.unusedSimpArgs false
open Go.RowKit
variable {P : Program} {G : Cx} {r : Ren} {st : St} {w : World}

theorem run_isAggP {t : TypeId} {g : Bool} (h : isAggP P t = some g) (w : World) : (isAgg t).run P w = .ok g w := by
  unfold isAggP at h
  obtain ⟨d, hd, h⟩ := Option.bind_eq_some_iff.1 h
  simp only [isAgg, Sem.run_bind, run_underlying hd, Result.andThen_ok]
  cases d <;> simp_all
theorem sizeP_info {t : TypeId} {n : Nat} (h : sizeP P t = some n) : ∃ i, P.info? t = some i ∧ i.size = n := by
  unfold sizeP at h
  obtain ⟨i, hi, h⟩ := Option.bind_eq_some_iff.1 h
  exact ⟨i, hi, by simpa using h⟩
theorem run_sizeP {t : TypeId} {n : Nat} (h : sizeP P t = some n) (w : World) : (sizeOf t).run P w = .ok n w := by
  obtain ⟨i, hi, rfl⟩ := sizeP_info h
  simp [sizeOf, typeInfo, hi]
theorem zeroP_info {t : TypeId} {z : Value} (h : zeroP P t = some z) : (∃ i, P.info? t = some i ∧ i.zero = some z) ∧ closedV z = true := by
  unfold zeroP at h
  obtain ⟨i, hi, h⟩ := Option.bind_eq_some_iff.1 h
  obtain ⟨z', hz, h⟩ := Option.bind_eq_some_iff.1 h
  simp only [cond_eq_ite] at h
  split at h
  · cases h; exact ⟨⟨i, hi, hz⟩, ‹_›⟩
  · cases h
theorem run_zeroP {t : TypeId} {z : Value} (h : zeroP P t = some z) (w : World) : (zeroValue t).run P w = .ok z w := by
  obtain ⟨⟨i, hi, hz⟩, _⟩ := zeroP_info h
  simp [zeroValue, typeInfo, hi, hz]
theorem cell_row {w : World} {b : Nat} {row : List Value} {T fr} (h : w.heap[b]? = some (.cells row.toArray T fr)) (j : Nat) : w.cell? ⟨b, j, none⟩ = row[j]? := by simp [World.cell?, h]
theorem cond_none {α : Type} {c : Bool} {x : Option α} {y : α} (h : (bif c then x else none) = some y) : c = true ∧ x = some y := by
  cases c
  · cases h
  · exact ⟨rfl, h⟩

theorem load_ok {t a v a'} (hR : Rel G r st w) (h : loadP P t a st = some v) (ha : VR r a a') : ∃ v', (Instr.loadAt t a').run P w = .ok v' w ∧ VR r v v' := by
  unfold loadP at h
  split at h
  · rename_i i off
    obtain ⟨⟨cs, T, m⟩, hc, h⟩ := Option.bind_eq_some_iff.1 h
    obtain ⟨g, hg, h⟩ := Option.bind_eq_some_iff.1 h
    obtain ⟨hgi, b, k, hr, cs', rest, fz, hl, hb, _⟩ := hR.cells hc
    cases ha with
    | ptr _ _ hr2 =>
    rw [hr] at hr2
    cases hr2
    have hcell := cell_row hb
    simp only [Instr.loadAt, Instr.sureAddr, Sem.run_bind, Sem.run_pure, Result.andThen_ok, loadVar, run_isAggP hg]
    cases g with
    | true =>
      obtain ⟨n, hn, h⟩ := Option.bind_eq_some_iff.1 h
      obtain ⟨l, hs, h⟩ := Option.bind_eq_some_iff.1 h
      cases h
      obtain ⟨hl2, hle, hlen⟩ := hl.sub hs
      have hll := hl.length
      have hl' : ((cs'.drop off).take n).length = n := by simp; omega
      have hload := run_loadCells_list (P := P) w ⟨b, off, none⟩ ((cs'.drop off).take n) (by
        intro j v hj
        rw [Addr.add_lit, hcell]
        rw [List.getElem?_take] at hj
        split at hj
        · rw [List.getElem?_drop] at hj
          rw [List.getElem?_append_left (by have := (List.getElem?_eq_some_iff.1 hj).1; exact this)]
          exact hj
        · cases hj)
      rw [hl'] at hload
      refine ⟨.agg ((cs'.drop off).take n).toArray, ?_, .agg hl2⟩
      simp [run_sizeP hn, hload]
    | false =>
      simp at h
      obtain ⟨v', hv', hvr⟩ := hl.at_ off h
      refine ⟨v', ?_, hvr⟩
      have : w.cell? ⟨b, off, none⟩ = some v' := by rw [hcell, List.getElem?_append_left (List.getElem?_eq_some_iff.1 hv').1]; exact hv'
      simp [this]
  · cases h

theorem run_storeCells_atE (P : Program) (g o : Nat) (t : TypeId) (fz : Nat × Nat) : ∀ (vs : List Value) (i : Nat) (cur : Array Value) (w : World), w.heap[g]? = some (.cells cur t fz) → (fz = (0, 0) ∨ cur.size ≤ fz.1) → o + i + vs.length ≤ cur.size → (∀ v ∈ vs, v.oneCell' = true) →
    (storeCells ⟨g, o, none⟩ vs i).run P w = .ok () (w.setRow g (cur.toList.take (o + i) ++ vs ++ cur.toList.drop (o + i + vs.length)).toArray)
  | [], i, cur, w, hg, _, _, _ => by
    simp only [storeCells, List.append_nil, List.length_nil, Nat.add_zero, List.take_append_drop, Array.toArray_toList]
    rw [setRow_self w g cur t fz hg]
    rfl
  | v :: rest, i, cur, w, hg, hfz, hl, h1 => by
    have hi : o + i < cur.size := by simp at hl; omega
    have hadd : (⟨g, o, none⟩ : Addr).add i = ⟨g, o + i, none⟩ := by unfold Addr.add; split <;> simp_all
    have hcell : w.cell? ⟨g, o + i, none⟩ = some cur[o + i] := by simp [World.cell?, hg, hi]
    have hfro : w.frozen? ⟨g, o + i, none⟩ = false := by
      obtain ⟨lo, hi'⟩ := fz
      simp only [World.frozen?, hg, Bool.and_eq_false_iff, decide_eq_false_iff_not]
      rcases hfz with hfz | hfz
      · cases hfz
        exact .inr (by omega)
      · simp only at hfz
        exact .inl (by omega)
    have hst : (store ((⟨g, o, none⟩ : Addr).add i) v).run P w = .ok () (w.setRow g (cur.setIfInBounds (o + i) v)) := by
      rw [hadd, run_store P w _ v _ (h1 v (by simp)), hcell]
      simp [hfro, setCell_eq_setRow w g (o + i) cur t fz v hg]
    have ih := run_storeCells_atE P g o t fz rest (i + 1) (cur.setIfInBounds (o + i) v) (w.setRow g (cur.setIfInBounds (o + i) v)) (setRow_heap w g cur _ t _ hg) (by simpa using hfz) (by simp at hl ⊢; omega) (fun x hx => h1 x (by simp [hx]))
    simp only [storeCells, Sem.run_bind, hst, Result.andThen_ok, ih, setRow_setRow]
    congr 3
    have e := list_seg_step cur.toList (o + i) v rest (by simp at hl ⊢; omega)
    simpa [Array.toList_setIfInBounds, Nat.add_assoc] using e
theorem one_ok {v v' : Value} (h : VR r v v') (ho : one v = true) : v'.oneCell' = true := by cases h <;> first | rfl | cases ho
theorem allOne_ok : ∀ {l l' : List Value}, LR r l l' → allOne l = true → ∀ v ∈ l', v.oneCell' = true
  | _, _, .nil, _ => by simp
  | _, _, .cons h hl, ho => by
    simp [allOne] at ho
    intro v hv
    rcases List.mem_cons.1 hv with rfl | hv
    · exact one_ok h ho.1
    · exact allOne_ok hl ho.2 v hv
theorem LR.over {l l' : List Value} {off : Nat} {vs vs' s : List Value} (h : LR r l l') (hv : LR r vs vs') (hs : over l off vs = some s) :
    LR r s (l'.take off ++ (vs' ++ l'.drop (off + vs.length))) ∧ off + vs.length ≤ l.length := by
  unfold Ev.over at hs
  obtain ⟨hb, hs⟩ := cond_none hs
  cases hs
  exact ⟨(h.take off).append (hv.append (h.drop _)), Nat.le_of_ble_eq_true hb⟩
/-- Cells are written over. -/
theorem write_ok {i cs T m b k off vs vs' cs2} (hR : Rel G r st w) (hc : st.cells i = some (cs, T, m)) (hr : r i = some (b, k)) (ho : over cs off vs = some cs2) (hv : LR r vs vs') (h1 : allOne vs = true) :
    ∃ w', (storeCells ⟨b, off, none⟩ vs').run P w = .ok () w' ∧ Step G r st w r (st.upd i (.cells cs2 T m)) w' := by
  obtain ⟨hgi, b2, k2, hr2, cs', rest, fz, hl, hb, hfz, hm⟩ := hR.cells hc
  rw [hr] at hr2
  cases hr2
  obtain ⟨hl2, hle⟩ := hl.over hv ho
  have hlen := hl.length
  have hvl := hv.length
  have hst := run_storeCells_atE P b off T fz vs' 0 (cs' ++ rest).toArray w hb (by simpa using hfz.or) (by simp; omega) (allOne_ok hv h1)
  refine ⟨_, hst, Step.turn hR hgi hr ⟨cs'.take off ++ (vs' ++ cs'.drop (off + vs.length)), rest, fz, hl2, ?_, ?_, ?_⟩ (fun c hcb => setRow_other w b c _ hcb) (by simp) rfl rfl rfl⟩
  · rw [setRow_heap w b _ _ T fz hb]
    have e : ((cs' ++ rest).toArray.toList.take (off + 0) ++ vs' ++ (cs' ++ rest).toArray.toList.drop (off + 0 + vs'.length)) = cs'.take off ++ (vs' ++ cs'.drop (off + vs.length)) ++ rest := by
      rw [List.toList_toArray, Nat.add_zero, List.take_append_of_le_length (by omega), List.drop_append_of_le_length (by omega), hvl]
      simp [List.append_assoc]
    rw [e]
  · have e : (cs'.take off ++ (vs' ++ cs'.drop (off + vs.length)) ++ rest).length = (cs' ++ rest).length := by
      simp
      omega
    rw [e]
    exact hfz
  · cases m with
    | none => exact hm
    | some sz =>
      refine ⟨?_, hm.2⟩
      rw [← hm.1]
      simp
      omega
theorem store_ok {t a v a' v' st'} (hR : Rel G r st w) (h : storeP P t a v st = some st') (ha : VR r a a') (hv : VR r v v') :
    ∃ w', (Instr.storeAt t a' v').run P w = .ok () w' ∧ Step G r st w r st' w' := by
  unfold storeP at h
  split at h
  · rename_i i off
    obtain ⟨⟨cs, T, m⟩, hc, h⟩ := Option.bind_eq_some_iff.1 h
    obtain ⟨n, hn, h⟩ := Option.bind_eq_some_iff.1 h
    obtain ⟨hb, h⟩ := cond_none h
    obtain ⟨cs2, ho, h⟩ := Option.bind_eq_some_iff.1 h
    cases h
    simp only [Bool.and_eq_true] at hb
    have hn2 := Nat.eq_of_beq_eq_true hb.1
    cases ha with
    | @ptr _ b k _ _ hr =>
    obtain ⟨w', hw, hs⟩ := write_ok (P := P) hR hc hr ho hv.cells hb.2
    refine ⟨w', ?_, hs⟩
    have hsz : v'.cells.size = n := by rw [← hn2, ← Array.length_toList, hv.cells.length]
    simp [Instr.storeAt, Instr.sureAddr, storeVar, run_sizeP hn, hsz, hw]
  · cases h

/-- Something new, its cells all known. -/
theorem new_ok {cs cs' T} (hR : Rel G r st w) (hf : r st.n = none) (hl : LR r cs cs') :
    Step G r st w (r.set st.n (w.heap.size, 0)) (st.new (.cells cs T none)) (w.alloc (.cells cs'.toArray T)) :=
  Step.alloc hR hf (fun r' hr' => ⟨cs', [], (0, 0), hl.mono hr', by rw [List.append_nil]; exact heap_alloc_new w _, fzOk.zero _ _, rfl⟩) (fun b hb => Below.heap_alloc _ _ _ hb) (by simp) rfl rfl rfl
theorem set_new (r : Ren) (i : Nat) (x : Nat × Nat) : (r.set i x) i = some x := by simp [Ren.set]

theorem Fill.step {f g : List Value} {cells cells' : Array Value} {v v' : Value} (off : Nat) (h : LR r cells.toList cells'.toList) (hv : VR r v v') :
    LR r (v.cells.zipIdx.foldl (fun cs (c, j) => cs.setIfInBounds (off + j) c) cells).toList (v'.cells.zipIdx.foldl (fun cs (c, j) => cs.setIfInBounds (off + j) c) cells').toList := by
  have hset : ∀ (l l' : List Value) (n : Nat) (u u' : Value), LR r l l' → VR r u u' → LR r (l.set n u) (l'.set n u') := by
    intro l
    induction l with
    | nil => intro l' n u u' h hu; cases h; exact .nil
    | cons x l ih =>
      intro l' n u u' h hu
      cases h with
      | cons hx hl =>
        cases n with
        | zero => exact .cons hu hl
        | succ n => exact .cons hx (ih _ n u u' hl hu)
  have hc := hv.cells
  have key : ∀ (l l' : List Value), LR r l l' → ∀ (s : Nat) (cs cs' : Array Value), LR r cs.toList cs'.toList →
      LR r ((l.zipIdx s).foldl (fun (cs : Array Value) (x : Value × Nat) => cs.setIfInBounds (off + x.2) x.1) cs).toList ((l'.zipIdx s).foldl (fun (cs : Array Value) (x : Value × Nat) => cs.setIfInBounds (off + x.2) x.1) cs').toList := by
    intro l
    induction l with
    | nil => intro l' h s cs cs' hcs; cases h; exact hcs
    | cons x l ih =>
      intro l' h s cs cs' hcs
      cases h with
      | cons hx hl =>
        simp only [List.zipIdx_cons, List.foldl_cons]
        exact ih _ hl (s + 1) _ _ (by rw [Array.toList_setIfInBounds, Array.toList_setIfInBounds]; exact hset _ _ _ _ _ hcs hx)
  have e : ∀ (u : Value) (cs : Array Value), (u.cells.zipIdx.foldl (fun cs (c, j) => cs.setIfInBounds (off + j) c) cs) = ((u.cells.toList.zipIdx 0).foldl (fun (cs : Array Value) (x : Value × Nat) => cs.setIfInBounds (off + x.2) x.1) cs) := by
    intro u cs
    rw [← Array.foldl_toList, Array.toList_zipIdx]
  rw [e, e]
  exact key _ _ hc 0 _ _ h
/-- Related parts. -/
inductive PR (r : Ren) : List (Nat × Value) → List (Nat × Value) → Prop
  | nil : PR r [] []
  | cons {i v v' l l'} (h : VR r v v') (hl : PR r l l') : PR r ((i, v) :: l) ((i, v') :: l')
theorem fill_ok {place : Nat → Option (Nat × Nat)} : ∀ {ps ps' : List (Nat × Value)} {cells cells' out : Array Value}, PR r ps ps' → LR r cells.toList cells'.toList → Instr.fill place cells ps = some out →
    ∃ out', Instr.fill place cells' ps' = some out' ∧ LR r out.toList out'.toList
  | _, _, cells, cells', out, .nil, hc, h => by simp [Instr.fill] at h; subst h; exact ⟨cells', rfl, hc⟩
  | _, _, cells, cells', out, .cons (i := i) (v := v) (v' := v') hv hl, hc, h => by
    simp only [Instr.fill] at h ⊢
    cases hp : place i with
    | none => rw [hp] at h; cases h
    | some x =>
      obtain ⟨off, size⟩ := x
      rw [hp] at h
      simp only at h ⊢
      have e1 : v'.cells.size = v.cells.size := by have := hv.cells.length; simpa using this
      have e2 : cells'.size = cells.size := by have := hc.length; simpa using this
      rw [e1, e2]
      split at h
      · cases h
      · rename_i hcond
        rw [if_neg hcond]
        exact fill_ok hl (Fill.step (f := []) (g := []) off hc hv) h
end Ev
end Go.Proofs.Ytgafkphhnlifiaa
