/- append, copy, bytes to a string, on marks, and what the model makes of them. No program is named here. The other operations on marks, and what the model makes of them. No program is named here. Maps on marks, and what the model makes of them. No program is named here. -/
import Derived.Test.YtcnbgdplkobenaaGreatDoorZik
import Derived.Laws.AppendOwn
import Derived.Lib.AppendStr
import Derived.Laws.MakeOwn
import Derived.Laws.IdiomStrings
import Derived.Great.BuildSlice
import Derived.Orders
import Derived.LaidEql
import Derived.RangeFuncRecord
namespace Go.Proofs.YtcnbgdplkobenaaGreatDoor
section
namespace Ev
set_option linter.unusedVariables false
set_option linter.unusedSimpArgs false
open Go.RowKit
variable {P : Program} {G : Cx} {r : Ren} {st : St} {w : World}

theorem len_ok {x x' : Value} {n : Nat} (h : lenP x = some n) (hx : VR r x x') (w : World) : (Builtin.lenOf x').run P w = .ok n w := by
  cases hx <;> simp [lenP] at h <;> subst h <;> first | rfl | simp [Builtin.lenOf, ByteArray.size]
theorem first_ok {x x' : Value} {size n : Nat} {l : List Value} (hR : Rel G r st w) (h : firstP size n x st = some l) (hx : VR r x x') :
    ∃ l', (Builtin.firstCells size n x').run P w = .ok l'.toArray w ∧ LR r l l' := by
  unfold firstP at h
  split at h
  · rename_i i off nn cc
    obtain ⟨⟨cs, T, m⟩, hc, h⟩ := Option.bind_eq_some_iff.1 h
    obtain ⟨hgi, b, k, hr, cs', rest, fz, hl, hb, _⟩ := hR.cells hc
    obtain ⟨hl2, hle, hlen⟩ := hl.sub h
    have hll := hl.length
    have hl' : ((cs'.drop off).take (n * size)).length = n * size := by simp; omega
    have hh : ∀ j v, ((cs'.drop off).take (n * size))[j]? = some v → w.cell? ((⟨b, off, none⟩ : Addr).add j) = some v := by
      intro j v hj
      rw [Addr.add_lit, cell_row hb]
      rw [List.getElem?_take] at hj
      split at hj
      · rw [List.getElem?_drop] at hj
        rw [List.getElem?_append_left (List.getElem?_eq_some_iff.1 hj).1]
        exact hj
      · cases hj
    cases hx with
    | slice _ _ _ hr2 _ => rw [hr] at hr2; cases hr2; exact ⟨_, run_firstCells_some w size n _ _ _ _ hl' hh, hl2⟩
    | sliceBig _ _ _ hr2 _ => rw [hr] at hr2; cases hr2; exact ⟨_, run_firstCells_some w size n _ _ _ _ hl' hh, hl2⟩
  · obtain ⟨hn, h⟩ := cond_none h
    cases h
    cases hx
    exact ⟨[], run_firstCells_none w _ _ _ _, .nil⟩
  · obtain ⟨hn, h⟩ := cond_none h
    cases h
    have hn := Nat.eq_of_beq_eq_true hn
    subst hn
    cases hx with
    | sliceEnd _ _ _ _ _ => exact ⟨[], run_firstCells_some w size 0 _ _ _ _ (by simp) (by simp), .nil⟩
  · rename_i s
    obtain ⟨hn, h⟩ := cond_none h
    cases h
    cases hx
    simp only [Bool.and_eq_true] at hn
    have e1 := Nat.eq_of_beq_eq_true hn.1
    have e2 := Nat.eq_of_beq_eq_true hn.2
    subst e1
    have e3 : n = s.size := by rw [e2, Array.length_toList]; rfl
    subst e3
    have := Lib.run_firstCells_string (P := P) w 1 s
    refine ⟨_, this, ?_⟩
    unfold Lib.strCells
    generalize s.data.toList = l
    induction l with
    | nil => exact .nil
    | cons b l ih => exact .cons (.int _ _) ih
  · cases h

theorem zeros_get (l : List Value) : ∀ n i, (zeros l n)[i]? = if i < n * l.length then l[i % l.length]? else none
  | 0, i => by simp [zeros]
  | n + 1, i => by
    rw [zeros]
    by_cases h : i < l.length
    · rw [List.getElem?_append_left h, Nat.mod_eq_of_lt h, if_pos (by rw [Nat.add_mul]; omega)]
    · rw [List.getElem?_append_right (by omega), zeros_get l n, Nat.add_mul, Nat.one_mul, ← Nat.mod_eq_sub_mod (by omega)]
      by_cases h2 : i - l.length < n * l.length
      · rw [if_pos h2, if_pos (by omega)]
      · rw [if_neg h2, if_neg (by omega)]
theorem zeros_eq (z : Array Value) (n : Nat) : (Array.range (n * z.size)).map (fun i => z[i % z.size]!) = (zeros z.toList n).toArray := by
  apply Array.toList_inj.1
  apply List.ext_getElem?
  intro i
  rw [List.toList_toArray, zeros_get, Array.length_toList]
  by_cases h : i < n * z.size
  · have hz : 0 < z.size := by
      rcases Nat.eq_zero_or_pos z.size with h0 | h0
      · rw [h0] at h; simp at h
      · exact h0
    have hm : i % z.size < z.size := Nat.mod_lt _ hz
    simp [h, getElem!_pos, hm]
  · simp [h]
theorem closed_cells {z : Value} (h : closedV z = true) : LR r z.cells.toList z.cells.toList := (VR.closed z h).cells
theorem LR.zeros {l : List Value} (h : LR r l l) : ∀ n, LR r (zeros l n) (Ev.zeros l n)
  | 0 => .nil
  | n + 1 => h.append (LR.zeros h n)
set_option maxHeartbeats 4000000 in
theorem append_room_run {t tx elem : TypeId} {dx : TypeDesc} {i : TypeInfo} {l : List TypeId} {ty : TypeId} {base : Option Addr} {sLen sCap n : Nat} {x' : Value} {new : Array Value} (ht : P.underlying t = some (.slice elem))
    (hx : P.underlying tx = some dx) (hd : isIntD dx = false) (hi : P.info? elem = some i) (hlen : (Builtin.lenOf x').run P w = .ok n w) (hfirst : (Builtin.firstCells i.size n x').run P w = .ok new w) (hroom : sLen + n ≤ sCap) :
    (Builtin.append_ ⟨t :: tx :: l⟩ ty #[.slice base sLen sCap, x']).run P w =
      ((match base with | some a => storeCells (a.add (sLen * i.size)) new.toList | none => pure ()).run P w).andThen fun _ w' => .ok (.slice base (sLen + n) sCap) w' := by
  have hu := run_underlying ht w
  have hu2 := run_underlying hx w
  have hs : (sizeOf elem).run P w = .ok i.size w := by simp [sizeOf, typeInfo, hi]
  unfold Builtin.append_
  simp only [List.getElem?_toArray, List.getElem?_cons_zero, List.getElem?_cons_succ, Sem.run_bind, hu, hu2, hs, Result.andThen_ok, Sem.run_pure]
  cases dx with
  | int k => cases hd
  | _ => cases base <;> simp [hlen, hfirst, hroom]
set_option maxHeartbeats 4000000 in
theorem append_grow_run {t tx elem : TypeId} {dx : TypeDesc} {i : TypeInfo} {z : Value} {l : List TypeId} {ty : TypeId} {base : Option Addr} {sLen sCap n : Nat} {x' : Value} {old new : Array Value} (ht : P.underlying t = some (.slice elem))
    (hx : P.underlying tx = some dx) (hd : isIntD dx = false) (hi : P.info? elem = some i) (hz : i.zero = some z) (hlen : (Builtin.lenOf x').run P w = .ok n w) (hold : (Builtin.firstCells i.size sLen (.slice base sLen sCap)).run P w.drew = .ok old w.drew)
    (hfirst : (Builtin.firstCells i.size n x').run P w.drew = .ok new w.drew) (hroom : ¬ sLen + n ≤ sCap) (h63 : sLen + n ≤ 9223372036854775807) (hfit : Builtin.nextslicecap (sLen + n) sCap * i.bytes ≤ 281474976710656) :
    (Builtin.append_ ⟨t :: tx :: l⟩ ty #[.slice base sLen sCap, x']).run P w =
      .ok (.slice (some ⟨w.heap.size, 0, none⟩) (sLen + n) (grownCap w (sLen + n) sCap elem)) (w.drew.alloc (.cells (old ++ new ++ Builtin.zeroCells z.cells (grownCap w (sLen + n) sCap elem - (sLen + n))) elem)) := by
  have h63' : ¬ (9223372036854775807 < ((sLen : Int) + (n : Int))) := by omega
  have h48' : ¬ (281474976710656 < Builtin.nextslicecap (sLen + n) sCap * i.bytes) := by omega
  have hu := run_underlying ht w
  have hu2 := run_underlying hx w
  have hs : (sizeOf elem).run P w = .ok i.size w := by simp [sizeOf, typeInfo, hi]
  unfold Builtin.append_
  simp only [List.getElem?_toArray, List.getElem?_cons_zero, List.getElem?_cons_succ, Sem.run_bind, hu, hu2, hs, Result.andThen_ok, Sem.run_pure]
  cases dx with
  | int k => cases hd
  | _ => simp [typeInfo, zeroValue, hi, hz, hlen, hroom, h63', h48', Question.forced, hold, hfirst, newRow, grownCap]

theorem wrap_small {n : Nat} (h : n ≤ 70368744177664) : IntKind.i64.wrap (n : Int) = (n : Int) := by
  simp [IntKind.wrap, IntKind.bits, IntKind.signed, Int.bmod]
  omega
set_option maxHeartbeats 4000000 in
theorem append_room_run0 {t tx elem : TypeId} {dx : TypeDesc} {i : TypeInfo} {z : Value} {l : List TypeId} {ty : TypeId} {base : Option Addr} {sLen sCap n : Nat} (ht : P.underlying t = some (.slice elem))
    (hx : P.underlying tx = some dx) (hd : isIntD dx = true) (hi : P.info? elem = some i) (hz : i.zero = some z) (hn : n ≤ 70368744177664) (hb : n * i.bytes ≤ 70368744177664) (hs0 : i.size ≠ 0) (hroom : sLen + n ≤ sCap) :
    (Builtin.append_ ⟨t :: tx :: l⟩ ty #[.slice base sLen sCap, .int .i64 (n : Int)]).run P w =
      ((match base with | some a => storeCells (a.add (sLen * i.size)) (zeros z.cells.toList n) | none => pure ()).run P w).andThen fun _ w' => .ok (.slice base (sLen + n) sCap) w' := by
  have hu := run_underlying ht w
  have hu2 := run_underlying hx w
  have hs : (sizeOf elem).run P w = .ok i.size w := by simp [sizeOf, typeInfo, hi]
  have hwr := wrap_small hn
  have hb' : ¬ (281474976710656 < (n : Int) * (i.bytes : Int)) := by
    rw [← Int.natCast_mul]
    generalize n * i.bytes = q at hb ⊢
    omega
  have hn0 : ¬ ((n : Int) < 0) := by omega
  unfold Builtin.append_
  simp only [List.getElem?_toArray, List.getElem?_cons_zero, List.getElem?_cons_succ, Sem.run_bind, hu, hu2, hs, Result.andThen_ok, Sem.run_pure]
  cases dx with
  | int k =>
    by_cases h0 : n = 0
    · subst h0
      cases base <;> simp [asInt, asIntOf, typeInfo, hi, zeros, hroom] <;> simp_all
    · have hne : ¬ (n = 0 ∨ i.size = 0) := by omega
      have hnm : ¬ (n * i.size = 0) := fun h => hne (Nat.mul_eq_zero.1 h)
      have hzc : Builtin.zeroCells z.cells n = (zeros z.cells.toList n).toArray := zeros_eq z.cells n
      cases base <;> simp [asInt, asIntOf, typeInfo, zeroValue, hi, hz, hwr, hb', hroom, hne, hzc, hn0, hnm]
  | _ => cases hd
set_option maxHeartbeats 4000000 in
theorem append_grow_run0 {t tx elem : TypeId} {dx : TypeDesc} {i : TypeInfo} {z : Value} {l : List TypeId} {ty : TypeId} {base : Option Addr} {sLen sCap n : Nat} {old : Array Value} (ht : P.underlying t = some (.slice elem))
    (hx : P.underlying tx = some dx) (hd : isIntD dx = true) (hi : P.info? elem = some i) (hz : i.zero = some z) (hn : n ≤ 70368744177664) (hb : n * i.bytes ≤ 70368744177664) (hs0 : i.size ≠ 0) (hold : (Builtin.firstCells i.size sLen (.slice base sLen sCap)).run P w.drew = .ok old w.drew)
    (hroom : ¬ sLen + n ≤ sCap) (hle : sLen ≤ sCap) (h63 : sLen + n ≤ 9223372036854775807) (hfit : Builtin.nextslicecap (sLen + n) sCap * i.bytes ≤ 281474976710656) :
    (Builtin.append_ ⟨t :: tx :: l⟩ ty #[.slice base sLen sCap, .int .i64 (n : Int)]).run P w =
      .ok (.slice (some ⟨w.heap.size, 0, none⟩) (sLen + n) (grownCap w (sLen + n) sCap elem)) (w.drew.alloc (.cells (old ++ (zeros z.cells.toList n).toArray ++ Builtin.zeroCells z.cells (grownCap w (sLen + n) sCap elem - (sLen + n))) elem)) := by
  have h63' : ¬ (9223372036854775807 < ((sLen : Int) + (n : Int))) := by omega
  have h48' : ¬ (281474976710656 < Builtin.nextslicecap (sLen + n) sCap * i.bytes) := by omega
  have hu := run_underlying ht w
  have hu2 := run_underlying hx w
  have hs : (sizeOf elem).run P w = .ok i.size w := by simp [sizeOf, typeInfo, hi]
  have hwr := wrap_small hn
  have hb' : ¬ (281474976710656 < (n : Int) * (i.bytes : Int)) := by
    rw [← Int.natCast_mul]
    generalize n * i.bytes = q at hb ⊢
    omega
  have hn0 : ¬ ((n : Int) < 0) := by omega
  unfold Builtin.append_
  simp only [List.getElem?_toArray, List.getElem?_cons_zero, List.getElem?_cons_succ, Sem.run_bind, hu, hu2, hs, Result.andThen_ok, Sem.run_pure]
  cases dx with
  | int k =>
    have hzc : Builtin.zeroCells z.cells n = (zeros z.cells.toList n).toArray := zeros_eq z.cells n
    by_cases h0 : n = 0
    · subst h0
      simp [asInt, asIntOf, typeInfo, zeroValue, hi, hz, hwr, hb', hroom, h63', h48', Question.forced, hold, newRow, grownCap, hn0, zeros] <;> simp_all
    · have hnm : ¬ (n * i.size = 0) := fun h => (show ¬ (n = 0 ∨ i.size = 0) by omega) (Nat.mul_eq_zero.1 h)
      simp [asInt, asIntOf, typeInfo, zeroValue, hi, hz, hwr, hb', hroom, h63', h48', Question.forced, hold, newRow, grownCap, hn0, hnm, hzc]
  | _ => cases hd
theorem new_run {t tx elem : TypeId} {dx : TypeDesc} {i : TypeInfo} {z x x' : Value} {l : List TypeId} {ty : TypeId} {n : Nat} {news : List Value} (hR : Rel G r st w) (ht : P.underlying t = some (.slice elem)) (hxd : P.underlying tx = some dx) (hi : P.info? elem = some i) (hz : i.zero = some z) (hzc : closedV z = true)
    (hs0 : i.size ≠ 0) (h : newP i.bytes i.size z dx x st = some (n, news)) (hx : VR r x x') :
    ∃ news' newsD, LR r news news' ∧ LR r news newsD ∧
      (∀ {base : Option Addr} {sLen sCap : Nat}, sLen + n ≤ sCap → (Builtin.append_ ⟨t :: tx :: l⟩ ty #[.slice base sLen sCap, x']).run P w =
        ((match base with | some a => storeCells (a.add (sLen * i.size)) news' | none => pure ()).run P w).andThen fun _ w' => .ok (.slice base (sLen + n) sCap) w') ∧
      (∀ {base : Option Addr} {sLen sCap : Nat} {old : Array Value}, (Builtin.firstCells i.size sLen (.slice base sLen sCap)).run P w.drew = .ok old w.drew → ¬ sLen + n ≤ sCap → sLen ≤ sCap → sLen + n ≤ 9223372036854775807 → Builtin.nextslicecap (sLen + n) sCap * i.bytes ≤ 281474976710656 →
        (Builtin.append_ ⟨t :: tx :: l⟩ ty #[.slice base sLen sCap, x']).run P w =
          .ok (.slice (some ⟨w.heap.size, 0, none⟩) (sLen + n) (grownCap w (sLen + n) sCap elem)) (w.drew.alloc (.cells (old ++ newsD.toArray ++ Builtin.zeroCells z.cells (grownCap w (sLen + n) sCap elem - (sLen + n))) elem))) := by
  unfold newP at h
  simp only [cond_eq_ite (b := isIntD dx)] at h
  split at h
  · rename_i hd
    split at h
    · rename_i q
      obtain ⟨hb, h1⟩ := cond_none h
      simp only [Bool.and_eq_true] at hb
      have hb1 := Nat.le_of_ble_eq_true hb.1
      have hb2 := Nat.le_of_ble_eq_true hb.2
      cases h1
      cases hx
      have hzr : LR r (zeros z.cells.toList n) (Ev.zeros z.cells.toList n) := LR.zeros (closed_cells hzc) n
      exact ⟨_, _, hzr, hzr, fun hroom => append_room_run0 ht hxd hd hi hz hb2 hb1 hs0 hroom, fun hold hroom hle h63 hfit => append_grow_run0 ht hxd hd hi hz hb2 hb1 hs0 hold hroom hle h63 hfit⟩
    · cases h
  · rename_i hd
    have hd : isIntD dx = false := by simpa using hd
    rw [Option.bind_eq_some_iff] at h; obtain ⟨n0, hlen, h⟩ := h
    rw [Option.bind_eq_some_iff] at h; obtain ⟨news0, hnews, h⟩ := h
    cases h
    have hl0 := fun w => len_ok (P := P) hlen hx w
    obtain ⟨news', hfirst, hnr⟩ := first_ok (P := P) hR hnews hx
    obtain ⟨newsD, hfirstD, hnrD⟩ := first_ok (P := P) (w := w.drew) hR.drawn hnews hx
    exact ⟨news', newsD, hnr, hnrD, fun hroom => append_room_run ht hxd hd hi (hl0 w) hfirst hroom, fun hold hroom hle h63 hfit => append_grow_run ht hxd hd hi hz (hl0 w) hold hfirstD hroom h63 hfit⟩

/-- A grown row: what was there, what is new, zeros. -/
theorem grown_objR {w : World} {olds news olds' news' : List Value} {elem : TypeId} {z : Value} {size need old : Nat} (hl : LR r (olds ++ news) (olds' ++ news')) (hlen : (olds' ++ news').length = need * size) (hz : z.cells.size = size)
    (h63 : need ≤ 9223372036854775807) (r' : Ren) (hr : r.le r') :
    objR r' (w.drew.alloc (.cells (olds'.toArray ++ news'.toArray ++ Builtin.zeroCells z.cells (grownCap w need old elem - need)) elem)) w.heap.size (grownCap w need old elem) (.cells (olds ++ news) elem (some size)) := by
  refine ⟨olds' ++ news', (Builtin.zeroCells z.cells (grownCap w need old elem - need)).toList, (0, 0), hl.mono hr, ?_, fzOk.zero _ _, ?_⟩
  · have := heap_alloc_new w.drew (.cells (olds'.toArray ++ news'.toArray ++ Builtin.zeroCells z.cells (grownCap w need old elem - need)) elem)
    refine Eq.trans this ?_
    congr 2
    apply Array.ext'
    simp
  · have h1 := grownCap_ge w need old elem
    have h2 := grownCap_le_maxLen w need old elem (by unfold maxLen; exact h63)
    refine ⟨?_, by unfold maxLen at h2; exact h2⟩
    have e : (Builtin.zeroCells z.cells (grownCap w need old elem - need)).toList.length = (grownCap w need old elem - need) * size := by rw [Array.length_toList, size_zeroCells, hz]
    rw [e, hlen, ← Nat.add_mul]
    congr 1
    omega

theorem Step.alloc_drew {G r st w k} {o : SObj} {ob : Obj} (hR : Rel G r st w) (hf : r st.n = none) (ho : ∀ r', r.le r' → objR r' (w.drew.alloc ob) w.heap.size k o) :
    Step G r st w (r.set st.n (w.heap.size, k)) (st.new o) (w.drew.alloc ob) :=
  Step.alloc hR hf ho (fun b hb => Below.heap_alloc w.drew _ _ hb) (by simp) rfl rfl rfl

set_option maxHeartbeats 1000000 in
theorem append_ok {ts : List TypeId} {ty : TypeId} {s x s' x' v : Value} {st' : St} (hR : Rel G r st w) (hf : ∀ i, st.n ≤ i → i < st'.n → r i = none) (h : appendP P ts s x st = some (v, st')) (hs : VR r s s') (hx : VR r x x') :
    ∃ r' w' v', (Builtin.append_ ts.toArray ty #[s', x']).run P w = .ok v' w' ∧ VR r' v v' ∧ Step G r st w r' st' w' := by
  unfold appendP at h
  split at h
  case h_2 => cases h
  rename_i t tx tl
  rw [Option.bind_eq_some_iff] at h; obtain ⟨d, ht, h⟩ := h
  rw [Option.bind_eq_some_iff] at h; obtain ⟨dx, htx, h⟩ := h
  obtain ⟨elem, rfl⟩ : ∃ elem, d = .slice elem := by
    cases d <;> first | exact ⟨_, rfl⟩ | cases h
  dsimp only at h
  rw [Option.bind_eq_some_iff] at h; obtain ⟨i, hi, h⟩ := h
  rw [Option.bind_eq_some_iff] at h; obtain ⟨z, hz0, h⟩ := h
  rw [Option.bind_eq_some_iff] at h; obtain ⟨⟨n, news⟩, hnews, h⟩ := h
  dsimp only at h
  obtain ⟨⟨i', hi', hz⟩, hzc⟩ := zeroP_info hz0
  rw [hi] at hi'
  cases hi'
  simp only [cond_eq_ite] at h
  split at h
  · cases h
  rename_i hguard
  simp only [Bool.or_eq_true, Bool.not_eq_true', not_or, Bool.not_eq_true, Bool.not_eq_false] at hguard
  obtain ⟨⟨⟨hsz, hzs⟩, hone⟩, hnl⟩ := hguard
  have hsz := Nat.ne_of_beq_eq_false hsz
  have hzs := Nat.eq_of_beq_eq_true hzs
  have hnl := Nat.eq_of_beq_eq_true hnl
  have hpos : 0 < i.size := by omega
  obtain ⟨news', newsD, hnr, hnrD, hRoom, hGrow⟩ := new_run (l := tl) (ty := ty) hR ht htx hi hz hzc hsz hnews hx
  split at h
  · -- onto nil
    cases hs
    split at h
    · rename_i hn0
      have hn0 := Nat.eq_of_beq_eq_true hn0
      cases h
      refine ⟨r, w, .slice none 0 0, ?_, .sliceNil 0 0, Step.refl hR⟩
      rw [hRoom (by omega)]
      simp [hn0]
    · rename_i hn0
      have hn0 : n ≠ 0 := by rintro rfl; exact hn0 rfl
      split at h
      case isFalse => cases h
      rename_i hb
      simp only [Bool.and_eq_true] at hb
      have hb1 := Nat.le_of_ble_eq_true hb.1
      have hb2 := Nat.le_of_ble_eq_true hb.2
      cases h
      have hrun := hGrow (old := #[]) (base := none) (sLen := 0) (sCap := 0) (run_firstCells_none w.drew _ _ _ _) (by omega) (by omega) (by omega) (growslice_fits (by omega) (by rw [Nat.zero_add]; omega))
      rw [Nat.zero_add] at hrun
      refine ⟨_, _, _, hrun, ?_, Step.alloc_drew hR (hf _ (Nat.le_refl _) (by simp [St.new])) (fun r' hr' => grown_objR (olds := []) (olds' := []) hnrD (by have := hnrD.length; simp; omega) hzs (by omega) r' hr')⟩
      have := VR.sliceBig (r := r.set st.n (w.heap.size, grownCap w n 0 elem)) 0 n big (set_new _ _ _) (Nat.le_refl _)
      simpa using this
  · rename_i b off len cap
    rw [Option.bind_eq_some_iff] at h; obtain ⟨⟨cs, T, m⟩, hc, h⟩ := h
    obtain ⟨hgi, b', k, hr, hobj⟩ := hR.cells hc
    obtain ⟨cs', rest, fz, hl, hb, hfz, hm⟩ := hobj
    have hll := hl.length
    split at h
    · -- the room is not known
      rename_i hbig
      have hbig := Nat.le_of_ble_eq_true hbig
      split at h
      case isFalse => cases h
      rename_i hg
      simp only [Bool.and_eq_true] at hg
      obtain ⟨⟨⟨h1, h2⟩, h3⟩, h4⟩ := hg
      have h1 := Nat.eq_of_beq_eq_true h1
      have h2 := Nat.eq_of_beq_eq_true h2
      have h3 := Nat.le_of_ble_eq_true h3
      have h4 := Nat.eq_of_beq_eq_true h4
      subst h1 h2 h4
      obtain ⟨n', rfl⟩ : ∃ n', m = some n' := by
        cases m with
        | none => cases h
        | some x => exact ⟨x, rfl⟩
      dsimp only at h
      split at h
      case isFalse => cases h
      rename_i hn'
      have hn' := Nat.eq_of_beq_eq_true hn'
      subst hn'
      obtain ⟨hm1, hm2⟩ := hm
      have hlk : len ≤ k := by
        have : len * i.size ≤ k * i.size := by omega
        exact Nat.le_of_mul_le_mul_right this hpos
      cases hs with
      | slice _ _ _ _ hc => exact absurd hc (by omega)
      | sliceBig _ _ _ hr2 _ =>
      rw [hr] at hr2
      cases hr2
      simp only [Nat.sub_self, Nat.sub_zero]
      split at h
      · rename_i hn0
        have hn0 := Nat.eq_of_beq_eq_true hn0
        cases h
        have e : news' = [] := by have := hnr.length; rw [hnl, hn0] at this; simpa using this
        subst e
        refine ⟨r, w, .slice (some ⟨b', 0, none⟩) len k, ?_, ?_, Step.refl hR⟩
        · rw [hRoom (by omega)]
          simp [hn0, storeCells]
        · have := VR.sliceBig (r := r) 0 len big hr (Nat.le_refl _)
          simpa using this
      · rename_i hn0
        have hn0 : n ≠ 0 := by rintro rfl; exact hn0 rfl
        split at h
        case isFalse => cases h
        rename_i hbb
        simp only [Bool.and_eq_true] at hbb
        have hb1 := Nat.le_of_ble_eq_true hbb.1
        have hb2 := Nat.le_of_ble_eq_true hbb.2
        cases h
        have hfr : r st.n = none := hf _ (Nat.le_refl _) (by simp)
        have htl : LR r (cs.take (len * i.size)) (cs'.take (len * i.size)) := hl.take _
        by_cases hroom : len + n ≤ k
        · have hnlen := hnr.length
          have hmul : len * i.size + n * i.size ≤ k * i.size := by rw [← Nat.add_mul]; exact Nat.mul_le_mul_right _ hroom
          have hst := run_storeCells_atE P b' (len * i.size) T fz news' 0 (cs' ++ rest).toArray w hb (by simpa using hfz.or) (by simp; omega) (allOne_ok hnr hone)
          have hres : VR (r.set st.n (b', k)) (.slice (some ⟨st.n, 0, none⟩) (len + n) big) (.slice (some ⟨b', 0, none⟩) (len + n) k) := by
            have := VR.sliceBig (r := r.set st.n (b', k)) 0 (len + n) big (set_new _ _ _) (Nat.le_refl _)
            simpa using this
          refine ⟨r.set st.n (b', k), w.setRow b' ((cs' ++ rest).toArray.toList.take (len * i.size + 0) ++ news' ++ (cs' ++ rest).toArray.toList.drop (len * i.size + 0 + news'.length)).toArray, .slice (some ⟨b', 0, none⟩) (len + n) k, ?_, hres, Step.moved hR hgi hr hfr ?_ (.inl rfl) (fun c hcb _ => setRow_other w b' c _ hcb) (by simp) rfl rfl rfl⟩
          · rw [hRoom hroom]
            simp only [Addr.add_lit, Nat.zero_add]
            rw [hst]
            simp only [Result.andThen_ok]
          · intro r' hr'
            refine ⟨cs'.take (len * i.size) ++ news', (cs' ++ rest).drop (len * i.size + news'.length), fz, (htl.append hnr).mono hr', ?_, ?_, ?_, hm2⟩
            · rw [setRow_heap w b' _ _ T fz hb]
              have e : (cs' ++ rest).toArray.toList.take (len * i.size + 0) ++ news' ++ (cs' ++ rest).toArray.toList.drop (len * i.size + 0 + news'.length) = cs'.take (len * i.size) ++ news' ++ (cs' ++ rest).drop (len * i.size + news'.length) := by
                rw [List.toList_toArray, Nat.add_zero, List.take_append_of_le_length (by omega)]
              rw [e]
            · have e : (cs'.take (len * i.size) ++ news' ++ (cs' ++ rest).drop (len * i.size + news'.length)).length = (cs' ++ rest).length := by
                simp
                omega
              rw [e]
              exact hfz
            · simp
              omega
        · have hold : (Builtin.firstCells i.size len (.slice (some ⟨b', 0, none⟩) len k)).run P w.drew = .ok (cs'.take (len * i.size)).toArray w.drew := by
            refine run_firstCells_some w.drew i.size len _ _ _ _ (by simp; omega) ?_
            intro j u hj
            rw [List.getElem?_take] at hj
            split at hj
            · rw [Addr.add_lit, Nat.zero_add, cell_row (w := w.drew) (T := T) (fr := fz) hb, List.getElem?_append_left (List.getElem?_eq_some_iff.1 hj).1]
              exact hj
            · cases hj
          have hrun := hGrow hold hroom (by omega) (by omega) (growslice_fits (by omega) (by omega))
          have hres : VR (r.set st.n (w.heap.size, grownCap w (len + n) k T)) (.slice (some ⟨st.n, 0, none⟩) (len + n) big) (.slice (some ⟨w.heap.size, 0, none⟩) (len + n) (grownCap w (len + n) k T)) := by
            have := VR.sliceBig (r := r.set st.n (w.heap.size, grownCap w (len + n) k T)) 0 (len + n) big (set_new _ _ _) (Nat.le_refl _)
            simpa using this
          have hlenD := hnrD.length
          exact ⟨_, _, _, hrun, hres, Step.moved hR hgi hr hfr (fun r' hr' => grown_objR (htl.append hnrD) (by simp; rw [Nat.add_mul]; omega) hzs (by omega) r' hr') (.inr rfl) (fun c _ hc => Below.heap_alloc w.drew _ _ hc) (by simp) rfl rfl rfl⟩
    · rename_i hbig
      have hbig : cap < big := Nat.lt_of_not_le fun h => hbig (Nat.ble_eq_true_of_le h)
      cases hs with
      | sliceBig _ _ _ _ hc => exact absurd hc (by omega)
      | slice _ _ _ hr2 _ =>
      rw [hr] at hr2
      cases hr2
      split at h
      · rename_i hroom
        have hroom := Nat.le_of_ble_eq_true hroom
        split at h
        · rename_i hn0
          have hn0 := Nat.eq_of_beq_eq_true hn0
          cases h
          have e : news' = [] := by have := hnr.length; rw [hnl, hn0] at this; simpa using this
          subst e
          refine ⟨r, w, .slice (some ⟨b', off, none⟩) len cap, ?_, .slice _ _ _ hr hbig, Step.refl hR⟩
          rw [hRoom (by omega)]
          simp [hn0, storeCells]
        · rw [Option.bind_eq_some_iff] at h; obtain ⟨cs2, ho, h⟩ := h
          cases h
          obtain ⟨w', hw, hstep⟩ := write_ok (P := P) hR hc hr ho hnr hone
          refine ⟨r, w', .slice (some ⟨b', off, none⟩) (len + n) cap, ?_, .slice _ _ _ hr hbig, hstep⟩
          rw [hRoom hroom]
          simp only [Addr.add_lit]
          rw [hw]
          rfl
      · rename_i hroom
        have hroom : ¬ len + n ≤ cap := fun h => hroom (Nat.ble_eq_true_of_le h)
        rw [Option.bind_eq_some_iff] at h; obtain ⟨olds, holds, h⟩ := h
        obtain ⟨hbb, h⟩ := cond_none (show (bif _ then _ else none) = _ by rw [cond_eq_ite]; exact h)
        simp only [Bool.and_eq_true] at hbb
        have hb1 := Nat.le_of_ble_eq_true hbb.1.1
        have hb2 := Nat.le_of_ble_eq_true hbb.1.2
        have hb3 := Nat.le_of_ble_eq_true hbb.2
        cases h
        obtain ⟨hlo, hle, holen⟩ := hl.sub holds
        have hold : (Builtin.firstCells i.size len (.slice (some ⟨b', off, none⟩) len cap)).run P w.drew = .ok ((cs'.drop off).take (len * i.size)).toArray w.drew := by
          refine run_firstCells_some w.drew i.size len _ _ _ _ (by simp; omega) ?_
          intro j u hj
          rw [List.getElem?_take] at hj
          split at hj
          · rw [List.getElem?_drop] at hj
            rw [Addr.add_lit, cell_row (w := w.drew) (T := T) (fr := fz) hb, List.getElem?_append_left (List.getElem?_eq_some_iff.1 hj).1]
            exact hj
          · cases hj
        have hrun := hGrow hold hroom (by omega) (by omega) (growslice_fits (by omega) (by omega))
        have hres : VR (r.set st.n (w.heap.size, grownCap w (len + n) cap elem)) (.slice (some ⟨st.n, 0, none⟩) (len + n) big) (.slice (some ⟨w.heap.size, 0, none⟩) (len + n) (grownCap w (len + n) cap elem)) := by
          have := VR.sliceBig (r := r.set st.n (w.heap.size, grownCap w (len + n) cap elem)) 0 (len + n) big (set_new _ _ _) (Nat.le_refl _)
          simpa using this
        have hlenD := hnrD.length
        have hlol := hlo.length
        exact ⟨_, _, _, hrun, hres, Step.alloc_drew hR (hf _ (Nat.le_refl _) (by simp [St.new])) (fun r' hr' => grown_objR (hlo.append hnrD) (by rw [List.length_append, hlol, hlenD, holen, hnl, ← Nat.add_mul]) hzs (by omega) r' hr')⟩
  · cases h
end Ev
end
section
namespace Ev
set_option linter.unusedVariables false
set_option linter.unusedSimpArgs false
open Go.RowKit
variable {P : Program} {G : Cx} {r : Ren} {st : St} {w : World}

theorem blt_lt {a b : Nat} (h : Nat.blt a b = true) : a < b := by simpa [Nat.blt_eq] using h
theorem lt_blt {a b : Nat} (h : a < b) : Nat.blt a b = true := by simpa [Nat.blt_eq] using h

theorem alloc_ok {T : TypeId} {z : Value} (hR : Rel G r st w) (hf : r st.n = none) (hz : zeroP P T = some z) :
    ∃ r' w' v', (Instr.alloc T true (.tuple #[])).run P w = .ok v' w' ∧ VR r' (.pointer (some ⟨st.n, 0, none⟩)) v' ∧ Step G r st w r' (st.new (.cells z.cells.toList T none)) w' := by
  refine ⟨_, _, _, ?_, .ptr 0 none (set_new _ _ _), new_ok hR hf (closed_cells (zeroP_info hz).2)⟩
  simp [Instr.alloc, run_zeroP hz, newVar, newRow]
theorem box_ok {T : TypeId} {v v' : Value} (hR : Rel G r st w) (hf : r st.n = none) (hv : VR r v v') :
    ∃ r' w' u', (Instr.box T v').run P w = .ok u' w' ∧ VR r' (.pointer (some ⟨st.n, 0, none⟩)) u' ∧ Step G r st w r' (st.new (.cells v.cells.toList T none)) w' := by
  refine ⟨_, _, _, ?_, .ptr 0 none (set_new _ _ _), new_ok hR hf hv.cells⟩
  simp [Instr.box, newVar, newRow]
theorem places_ok : ∀ {l : List Field} {ps : List (Nat × Nat)}, places P l = some ps → (l.mapM fun f => do pure (f.offset, ← sizeOf f.type) : Sem (List (Nat × Nat))).run P w = .ok ps w
  | [], ps, h => by simp [places] at h; subst h; rfl
  | f :: l, ps, h => by
    unfold places at h
    obtain ⟨n, hn, h⟩ := Option.bind_eq_some_iff.1 h
    obtain ⟨ps', hps, h⟩ := Option.bind_eq_some_iff.1 h
    cases h
    rw [List.mapM_cons]
    simp only [Sem.run_bind, run_sizeP hn, Result.andThen_ok, Sem.run_pure, places_ok hps]
theorem build_ok {t : TypeId} {ps ps' : List (Nat × Value)} {v : Value} (h : buildP P t ps = some v) (hp : PR r ps ps') : ∃ v', (Instr.build t ps'.toArray).run P w = .ok v' w ∧ VR r v v' := by
  unfold buildP at h
  rw [Option.bind_eq_some_iff] at h; obtain ⟨z, hz, h⟩ := h
  rw [Option.bind_eq_some_iff] at h; obtain ⟨d, hd, h⟩ := h
  have hzc := closed_cells (r := r) (zeroP_info hz).2
  split at h
  · rename_i fields
    rw [Option.bind_eq_some_iff] at h; obtain ⟨pl, hpl, h⟩ := h
    rw [Option.bind_eq_some_iff] at h; obtain ⟨cs, hcs, h⟩ := h
    cases h
    obtain ⟨cs', hcs', hl⟩ := fill_ok hp hzc hcs
    refine ⟨.agg cs', ?_, .agg hl⟩
    have hm : (fields.mapM fun f => do pure (f.offset, ← sizeOf f.type) : Sem (Array (Nat × Nat))).run P w = .ok pl.toArray w := by
      rw [Array.mapM_eq_mapM_toList]
      simp only [Sem.run_map, places_ok hpl, Result.andThen_ok]
    simp only [Instr.build, Sem.run_bind, run_zeroP hz, run_underlying hd, Result.andThen_ok, hm, List.getElem?_toArray, hcs']
    rfl
  · rename_i n elem
    rw [Option.bind_eq_some_iff] at h; obtain ⟨s, hs, h⟩ := h
    rw [Option.bind_eq_some_iff] at h; obtain ⟨cs, hcs, h⟩ := h
    cases h
    obtain ⟨cs', hcs', hl⟩ := fill_ok hp hzc hcs
    refine ⟨.agg cs', ?_, .agg hl⟩
    simp only [Instr.build, Sem.run_bind, run_zeroP hz, run_underlying hd, Result.andThen_ok, run_sizeP hs, hcs']
    rfl
  · cases h
theorem buildSlice_ok {t : TypeId} {len : Nat} {ps ps' : List (Nat × Value)} {v : Value} {st' : St} (hR : Rel G r st w) (hf : ∀ i, st.n ≤ i → i < st'.n → r i = none) (h : buildSliceP P t len ps st = some (v, st')) (hp : PR r ps ps') :
    ∃ r' w' v', (Instr.buildSlice t len ps'.toArray).run P w = .ok v' w' ∧ VR r' v v' ∧ Step G r st w r' st' w' := by
  unfold buildSliceP at h
  rw [Option.bind_eq_some_iff] at h; obtain ⟨d, hd, h⟩ := h
  split at h
  · rename_i elem
    rw [Option.bind_eq_some_iff] at h; obtain ⟨n, hn, h⟩ := h
    rw [Option.bind_eq_some_iff] at h; obtain ⟨z, hz, h⟩ := h
    obtain ⟨hb, h⟩ := cond_none h
    rw [Option.bind_eq_some_iff] at h; obtain ⟨cs, hcs, h⟩ := h
    cases h
    simp only [Bool.and_eq_true] at hb
    have h1 := Nat.le_of_ble_eq_true hb.1.1
    have h2 := Nat.eq_of_beq_eq_true hb.1.2
    obtain ⟨cs', hcs', hl⟩ := fill_ok (r := r) hp (by rw [List.toList_toArray]; exact LR.zeros (closed_cells (zeroP_info hz).2) len) hcs
    refine ⟨_, w.alloc (.cells cs' elem), .slice (some ⟨w.heap.size, 0, none⟩) len len, ?_, .slice 0 len len (set_new _ _ _) ?_, new_ok hR (hf _ (Nat.le_refl _) (by simp [St.new])) hl⟩
    · have hbig : ¬ len * n > 2 ^ 24 := by omega
      by_cases h0 : len * n = 0
      · have hz0 : zeros z.cells.toList len = [] := by
          apply List.eq_nil_of_length_eq_zero
          have := congrArg Array.size (zeros_eq z.cells len)
          simp at this
          rw [h2, h0] at this
          exact this.symm
        rw [hz0] at hcs'
        simp only [Instr.buildSlice, Sem.run_bind, run_underlying hd, run_sizeP hn, Result.andThen_ok, h0]
        simp [hcs', newRow, Array.range_zero']
      · have hze := zeros_eq z.cells len
        rw [h2] at hze
        simp only [Instr.buildSlice, Sem.run_bind, run_underlying hd, run_sizeP hn, Result.andThen_ok, if_neg hbig, if_neg h0, run_zeroP hz, Sem.run_pure, h2, hze, hcs']
        simp [newRow]
    · have := blt_lt hb.2
      exact this
  · cases h
theorem makeSlice_ok {t : TypeId} {l c l' c' v : Value} {st' : St} (hR : Rel G r st w) (hf : ∀ i, st.n ≤ i → i < st'.n → r i = none) (h : makeSliceP P t l c st = some (v, st')) (hl : VR r l l') (hc : VR r c c') :
    ∃ r' w' v', (Instr.makeSlice t l' c').run P w = .ok v' w' ∧ VR r' v v' ∧ Step G r st w r' st' w' := by
  unfold makeSliceP at h
  rw [Option.bind_eq_some_iff] at h; obtain ⟨d, hd, h⟩ := h
  split at h
  · rename_i elem ln cn
    rw [Option.bind_eq_some_iff] at h; obtain ⟨i, hi, h⟩ := h
    rw [Option.bind_eq_some_iff] at h; obtain ⟨z, hz, h⟩ := h
    obtain ⟨hb, h⟩ := cond_none h
    cases h
    simp only [Bool.and_eq_true] at hb
    obtain ⟨⟨⟨h1, h2⟩, h3⟩, h4⟩ := hb
    have h1 := Nat.le_of_ble_eq_true h1
    have h2 := Nat.le_of_ble_eq_true h2
    have h3 := blt_lt h3
    have h4 := Nat.eq_of_beq_eq_true h4
    obtain ⟨⟨i', hi', hz'⟩, hzc⟩ := zeroP_info hz
    rw [hi] at hi'
    cases hi'
    cases hl
    cases hc
    have hr := run_make (P := P) w t elem i z hd hi hz' .i64 .i64 ln cn (by omega) (by omega) (by have : ((i.bytes * cn : Nat) : Int) ≤ 140737488355328 := by rw [Nat.mul_comm]; omega
                                                                                                  rw [Int.natCast_mul] at this; omega) (by unfold big at h3; omega)
    have hze := zeros_eq z.cells cn
    simp only [Int.toNat_natCast, madeCells] at hr
    rw [← h4, hze] at hr
    exact ⟨_, _, _, hr, .slice 0 ln cn (set_new _ _ _) h3, new_ok hR (hf _ (Nat.le_refl _) (by simp [St.new])) (LR.zeros (closed_cells hzc) cn)⟩
  · cases h
theorem part_ok {T : TypeId} {cs cs' : List Value} {off : Nat} {v : Value} (hl : LR r cs cs')
    (h : partP P T cs off = some v) : ∃ v', (part T cs'.toArray off).run P w = .ok v' w ∧ VR r v v' := by
  unfold partP at h
  rw [Option.bind_eq_some_iff] at h; obtain ⟨g, hg, h⟩ := h
  cases g with
  | true =>
    dsimp only at h
    rw [Option.bind_eq_some_iff] at h; obtain ⟨n, hn, h⟩ := h
    rw [Option.bind_eq_some_iff] at h; obtain ⟨l, hs, h⟩ := h
    cases h
    obtain ⟨hl2, hle, hlen⟩ := hl.sub hs
    refine ⟨.agg ((cs'.drop off).take n).toArray, ?_, .agg hl2⟩
    have e : cs'.toArray.extract off (off + n) = ((cs'.drop off).take n).toArray := by
      apply Array.toList_inj.1
      simp [List.take_drop]
    simp [part, run_isAggP hg, run_sizeP hn, e]
  | false =>
    dsimp only at h
    obtain ⟨v', hv', hvr⟩ := hl.at_ off h
    exact ⟨v', by simp [part, run_isAggP hg, hv'], hvr⟩
theorem field_ok {t : TypeId} {x x' v : Value} {f : Nat} (h : fieldP P t x f = some v) (hx : VR r x x') : ∃ v', (Instr.field t x' f).run P w = .ok v' w ∧ VR r v v' := by
  unfold fieldP at h
  rw [Option.bind_eq_some_iff] at h; obtain ⟨d, hd, h⟩ := h
  split at h
  · rename_i fields cs
    rw [Option.bind_eq_some_iff] at h; obtain ⟨fd, hfd, h⟩ := h
    cases hx with
    | @agg xs xs' hl =>
    obtain ⟨v', hv, hvr⟩ := part_ok (P := P) (w := w) (T := fd.type) (off := fd.offset) hl h
    exact ⟨v', by simp [Instr.field, run_underlying hd, hfd, asAgg, hv], hvr⟩
  · cases h
theorem fieldAddr_ok {t : TypeId} {x x' v : Value} {f : Nat} (h : fieldAddrP P t x f = some v) (hx : VR r x x') : ∃ v', (Instr.fieldAt t x' f).run P w = .ok v' w ∧ VR r v v' := by
  unfold fieldAddrP at h
  rw [Option.bind_eq_some_iff] at h; obtain ⟨d, hd, h⟩ := h
  split at h
  · rename_i fields i off
    rw [Option.bind_eq_some_iff] at h; obtain ⟨fd, hfd, h⟩ := h
    rw [Option.bind_eq_some_iff] at h; obtain ⟨n, hn, h⟩ := h
    simp only [cond_eq_ite] at h
    split at h
    · cases h
    rename_i h0
    have h0 : ¬ n = 0 := by rintro rfl; exact h0 rfl
    cases h
    cases hx with
    | ptr _ _ hr =>
    exact ⟨_, by simp [Instr.fieldAt, run_underlying hd, hfd, Instr.sureAddr, fieldPlace, run_sizeP hn, h0, Addr.add_lit], .ptr _ _ hr⟩
  · cases h
theorem indexAddr_ok {t : TypeId} {x x' ix ix' v : Value} (h : indexAddrP P t x ix = some v) (hx : VR r x x') (hi : VR r ix ix') : ∃ v', (Instr.indexAt t x' ix').run P w = .ok v' w ∧ VR r v v' := by
  unfold indexAddrP at h
  rw [Option.bind_eq_some_iff] at h; obtain ⟨d, hd, h⟩ := h
  split at h
  · rename_i elem i off len cap ki k
    rw [Option.bind_eq_some_iff] at h; obtain ⟨n, hn, h⟩ := h
    obtain ⟨hb, h⟩ := cond_none h
    have hb := blt_lt hb
    cases h
    cases hi
    cases hx with
    | slice _ _ _ hr _ => exact ⟨_, by simp [Instr.indexAt, asIntOf, run_underlying hd, run_sizeP hn, hb, Addr.add_lit], .ptr _ _ hr⟩
    | sliceBig _ _ _ hr _ => exact ⟨_, by simp [Instr.indexAt, asIntOf, run_underlying hd, run_sizeP hn, hb, Addr.add_lit], .ptr _ _ hr⟩
  · rename_i len elem i off ki k
    rw [Option.bind_eq_some_iff] at h; obtain ⟨n, hn, h⟩ := h
    obtain ⟨hb, h⟩ := cond_none h
    have hb := blt_lt hb
    cases h
    cases hi
    cases hx with
    | ptr _ _ hr => exact ⟨_, by simp [Instr.indexAt, asIntOf, run_underlying hd, run_sizeP hn, hb, Addr.add_lit, Instr.sureAddr], .ptr _ _ hr⟩
  · cases h
/-- Related bounds. -/
inductive OR (r : Ren) : Option Value → Option Value → Prop
  | none : OR r none none
  | some {v v'} (h : VR r v v') : OR r (some v) (some v')
theorem bound_ok {lo lo' : Option Value} {d n : Nat} (h : bound lo d = some n) (hl : OR r lo lo') : (lo = none ∧ lo' = none ∧ n = d) ∨ ∃ k, lo' = some (.int k (n : Int)) := by
  cases hl with
  | none => simp [bound] at h; exact .inl ⟨rfl, rfl, h.symm⟩
  | some hv =>
    unfold bound at h
    split at h
    · rename_i e; cases e
    · cases h; rename_i e; cases e; cases hv; exact .inr ⟨_, rfl⟩
    · cases h
theorem slice_run {t elem : TypeId} {a : Option Addr} {len cap n l h : Nat} {lo hi : Option Value} (hd : P.underlying t = some (.slice elem)) (hn : sizeP P elem = some n)
    (hlo : (lo = none ∧ l = 0) ∨ ∃ k, lo = some (.int k (l : Int))) (hhi : (hi = none ∧ h = len) ∨ ∃ k, hi = some (.int k (h : Int))) (h1 : l ≤ h) (h2 : h ≤ cap) :
    (Instr.sliceAt t (.slice a len cap) lo hi none).run P w = .ok (.slice (if cap = l then a else a.map (·.add (l * n))) (h - l) (cap - l)) w := by
  rcases hlo with ⟨rfl, rfl⟩ | ⟨k1, rfl⟩ <;> rcases hhi with ⟨rfl, rfl⟩ | ⟨k2, rfl⟩ <;>
    simp [Instr.sliceAt, Instr.slice, Instr.sliceBounds, Instr.sliceBound, asIntOf, run_underlying hd, run_sizeP hn, h1, h2]
theorem slice3_run {t elem : TypeId} {a : Option Addr} {len cap n l h m : Nat} {lo hi mx : Option Value} (hd : P.underlying t = some (.slice elem)) (hn : sizeP P elem = some n)
    (hlo : (lo = none ∧ l = 0) ∨ ∃ k, lo = some (.int k (l : Int))) (hhi : ∃ k, hi = some (.int k (h : Int))) (hmx : ∃ k, mx = some (.int k (m : Int))) (h1 : l ≤ h) (h2 : h ≤ m) (h3 : m ≤ cap) :
    (Instr.sliceAt t (.slice a len cap) lo hi mx).run P w = .ok (.slice (if m = l then a else a.map (·.add (l * n))) (h - l) (m - l)) w := by
  obtain ⟨k2, rfl⟩ := hhi
  obtain ⟨k3, rfl⟩ := hmx
  rcases hlo with ⟨rfl, rfl⟩ | ⟨k1, rfl⟩ <;>
    simp [Instr.sliceAt, Instr.slice, Instr.sliceBounds, Instr.sliceBound, asIntOf, run_underlying hd, run_sizeP hn, h1, h2, h3]
theorem slice3_ok {t elem : TypeId} {n i off len cap : Nat} {x' v : Value} {lo hi mx lo' hi' mx' : Option Value} (hR : Rel G r st w) (hd : P.underlying t = some (.slice elem)) (hn : sizeP P elem = some n) (h : slice3P n i off cap lo hi mx st = some v)
    (hx : VR r (.slice (some ⟨i, off, none⟩) len cap) x') (hlo : OR r lo lo') (hhi : OR r hi hi') (hmx : OR r mx mx') (hsm : mx ≠ none) :
    ∃ v', (Instr.sliceAt t x' lo' hi' mx').run P w = .ok v' w ∧ VR r v v' := by
  unfold slice3P at h
  rw [Option.bind_eq_some_iff] at h; obtain ⟨l, hl, h⟩ := h
  split at h
  case h_1 => cases h
  rw [Option.bind_eq_some_iff] at h; obtain ⟨hh, hhh, h⟩ := h
  rw [Option.bind_eq_some_iff] at h; obtain ⟨m, hm, h⟩ := h
  obtain ⟨hle, h⟩ := cond_none h
  simp only [Bool.and_eq_true] at hle
  obtain ⟨⟨hle1, hle2⟩, hle3⟩ := hle
  have hle1 := Nat.le_of_ble_eq_true hle1
  have hle2 := Nat.le_of_ble_eq_true hle2
  have hle3 := blt_lt hle3
  have hl' : (lo' = none ∧ l = 0) ∨ ∃ k, lo' = some (.int k (l : Int)) := by
    rcases bound_ok hl hlo with ⟨_, h1, h2⟩ | h1
    · exact .inl ⟨h1, h2⟩
    · exact .inr h1
  have hh' : ∃ k, hi' = some (.int k (hh : Int)) := by
    rcases bound_ok hhh hhi with ⟨h0, _, _⟩ | h1
    · cases h0
    · exact h1
  have hm' : ∃ k, mx' = some (.int k (m : Int)) := by
    rcases bound_ok hm hmx with ⟨h0, _, _⟩ | h1
    · exact absurd h0 hsm
    · exact h1
  have fin : ∀ b k cap', r i = some (b, k) → m ≤ cap' → some (Value.slice (some ⟨i, bif Nat.beq m l then off else off + l * n, none⟩) (hh - l) (m - l)) = some v →
      ∃ v', (Instr.sliceAt t (.slice (some ⟨b, off, none⟩) len cap') lo' hi' mx').run P w = .ok v' w ∧ VR r v v' := by
    intro b k cap' hr hc e
    cases e
    refine ⟨_, slice3_run (w := w) (a := some ⟨b, off, none⟩) hd hn hl' hh' hm' hle1 hle2 hc, ?_⟩
    have := VR.slice (r := r) (bif Nat.beq m l then off else off + l * n) (hh - l) (m - l) hr (by omega)
    by_cases hq : m = l
    · subst hq
      rw [Nat.beq_refl] at this ⊢
      rw [if_pos rfl]
      exact this
    · have hq2 : Nat.beq m l = false := by
        cases hbq : Nat.beq m l with
        | false => rfl
        | true => exact absurd (Nat.eq_of_beq_eq_true hbq) hq
      rw [hq2] at this ⊢
      rw [if_neg hq]
      simpa [Addr.add_lit] using this
  simp only [cond_eq_ite (b := Nat.ble big cap), cond_eq_ite (b := Nat.ble m cap)] at h
  split at h
  · rename_i hbig
    have hbig := Nat.le_of_ble_eq_true hbig
    rw [Option.bind_eq_some_iff] at h; obtain ⟨⟨cs, T, mo⟩, hc, h⟩ := h
    dsimp only at h
    cases mo with
    | none => cases h
    | some n' =>
    dsimp only at h
    obtain ⟨hb, hv⟩ := cond_none h
    simp only [Bool.and_eq_true] at hb
    obtain ⟨⟨⟨hb1, hb2⟩, hb3⟩, hb4⟩ := hb
    have hb1 := Nat.eq_of_beq_eq_true hb1
    have hb2 := Nat.eq_of_beq_eq_true hb2
    have hb3 := Nat.le_of_ble_eq_true hb3
    have hb4 := blt_lt hb4
    subst hb1
    obtain ⟨hgi, b, k, hr, cs', rest, fz, hlr, hbk, _, hm1, hm2⟩ := hR.cells hc
    cases hx with
    | slice _ _ _ _ hc => exact absurd hc (by omega)
    | sliceBig _ _ _ hr2 _ =>
    rw [hr] at hr2
    cases hr2
    refine fin b k _ hr ?_ hv
    have h1 := hlr.length
    have : (cap - big + m) * n ≤ k * n := by rw [Nat.add_mul]; omega
    have := Nat.le_of_mul_le_mul_right this hb4
    omega
  · rename_i hbig
    have hbig : cap < big := Nat.lt_of_not_le fun h => hbig (Nat.ble_eq_true_of_le h)
    split at h
    case isFalse => cases h
    rename_i hb
    have hb := Nat.le_of_ble_eq_true hb
    cases hx with
    | sliceBig _ _ _ _ hc => exact absurd hc (by omega)
    | @slice _ b k _ _ _ hr _ => exact fin b k cap hr hb h
theorem slice_ok {t : TypeId} {x x' v : Value} {lo hi mx lo' hi' mx' : Option Value} (hR : Rel G r st w) (h : sliceP P t x lo hi mx st = some v) (hx : VR r x x') (hlo : OR r lo lo') (hhi : OR r hi hi') (hmx : OR r mx mx') :
    ∃ v', (Instr.sliceAt t x' lo' hi' mx').run P w = .ok v' w ∧ VR r v v' := by
  unfold sliceP at h
  rw [Option.bind_eq_some_iff] at h; obtain ⟨d, hd, h⟩ := h
  split at h
  · rename_i elem i off len cap
    cases hmx
    rw [Option.bind_eq_some_iff] at h; obtain ⟨n, hn, h⟩ := h
    rw [Option.bind_eq_some_iff] at h; obtain ⟨l, hl, h⟩ := h
    rw [Option.bind_eq_some_iff] at h; obtain ⟨hh, hhh, h⟩ := h
    obtain ⟨hle, h⟩ := cond_none h
    have hle := Nat.le_of_ble_eq_true hle
    have hl' : (lo' = none ∧ l = 0) ∨ ∃ k, lo' = some (.int k (l : Int)) := by
      rcases bound_ok hl hlo with ⟨_, h1, h2⟩ | h1
      · exact .inl ⟨h1, h2⟩
      · exact .inr h1
    have hh' : (hi' = none ∧ hh = len) ∨ ∃ k, hi' = some (.int k (hh : Int)) := by
      rcases bound_ok hhh hhi with ⟨_, h1, h2⟩ | h1
      · exact .inl ⟨h1, h2⟩
      · exact .inr h1
    simp only [cond_eq_ite] at h
    split at h
    · rename_i hbig
      have hbig := Nat.le_of_ble_eq_true hbig
      rw [Option.bind_eq_some_iff] at h; obtain ⟨⟨cs, T, m⟩, hc, h⟩ := h
      dsimp only at h
      cases m with
      | none => cases h
      | some n' =>
      dsimp only at h
      split at h
      case isFalse => cases h
      rename_i hb
      simp only [Bool.and_eq_true] at hb
      obtain ⟨⟨⟨hb1, hb2⟩, hb3⟩, hb4⟩ := hb
      have hb1 := Nat.eq_of_beq_eq_true hb1
      have hb2 := Nat.eq_of_beq_eq_true hb2
      have hb3 := Nat.le_of_ble_eq_true hb3
      have hb4 := blt_lt hb4
      subst hb1
      obtain ⟨hgi, b, k, hr, cs', rest, fz, hlr, hbk, _, hm1, hm2⟩ := hR.cells hc
      cases hx with
      | slice _ _ _ _ hc => exact absurd hc (by omega)
      | sliceBig _ _ _ hr2 _ =>
      rw [hr] at hr2
      cases hr2
      have hcap : hh ≤ k - (cap - big) := by
        have h1 := hlr.length
        have : (cap - big + hh) * n ≤ k * n := by rw [Nat.add_mul]; omega
        have := Nat.le_of_mul_le_mul_right this hb4
        omega
      have hrun := slice_run (w := w) (a := some ⟨b, off, none⟩) hd hn hl' hh' hle hcap
      split at h
      · rename_i hlt
        have hlt := blt_lt hlt
        cases h
        refine ⟨_, hrun, ?_⟩
        rw [if_neg (by omega)]
        have := VR.sliceBig (r := r) (off + l * n) (hh - l) (cap + l) hr (by omega)
        have e : k - (cap - big) - l = k - (cap + l - big) := by omega
        rw [e]
        simpa [Addr.add_lit] using this
      · rename_i hlt
        have hlt : ¬ l < hh := fun h => hlt (lt_blt h)
        have ehl : hh - l = 0 := by omega
        rw [ehl] at hrun
        split at h
        · rename_i hl0
          have hl0 := Nat.eq_of_beq_eq_true hl0
          obtain rfl := Option.some.inj h
          subst hl0
          refine ⟨_, hrun, ?_⟩
          have e : (if k - (cap - big) = 0 then (some ⟨b, off, none⟩ : Option Addr) else (some (⟨b, off, none⟩ : Addr)).map (·.add (0 * n))) = some ⟨b, off, none⟩ := by
            split <;> simp [Addr.add]
          rw [e, Nat.sub_zero]
          exact .sliceBig _ _ _ hr hbig
        · cases h
          refine ⟨_, hrun, ?_⟩
          have := VR.sliceEnd (r := r) (off + l * n) off (cap + l) hr (by omega)
          have e1 : k - (cap - big) - l = k - (cap + l - big) := by omega
          have e2 : (if k - (cap - big) = l then (some ⟨b, off, none⟩ : Option Addr) else (some (⟨b, off, none⟩ : Addr)).map (·.add (l * n))) = some ⟨b, if k ≤ cap + l - big then off else off + l * n, none⟩ := by
            by_cases hq : k - (cap - big) = l
            · rw [if_pos hq, if_pos (by omega)]
            · rw [if_neg hq, if_neg (by omega)]; simp [Addr.add_lit]
          rw [e1, e2]
          exact this
    · rename_i hbig
      have hbig : cap < big := Nat.lt_of_not_le fun h => hbig (Nat.ble_eq_true_of_le h)
      split at h
      case isFalse => cases h
      rename_i hb
      have hb := Nat.le_of_ble_eq_true hb
      cases hx with
      | sliceBig _ _ _ _ hc => exact absurd hc (by omega)
      | @slice _ b k _ _ _ hr _ =>
      obtain rfl := Option.some.inj h
      have hrun := slice_run (w := w) (a := some ⟨b, off, none⟩) hd hn hl' hh' hle hb
      refine ⟨_, hrun, ?_⟩
      by_cases hq : l = cap
      · subst hq
        have : Nat.beq l l = true := Nat.beq_refl l
        rw [this, if_pos rfl, if_pos rfl]
        exact .slice _ _ _ hr (by omega)
      · have hq2 : Nat.beq l cap = false := by
          cases hbq : Nat.beq l cap with
          | false => rfl
          | true => exact absurd (Nat.eq_of_beq_eq_true hbq) hq
        rw [hq2, if_neg (by simp), if_neg (by omega)]
        simpa [Addr.add_lit] using VR.slice (r := r) (off + l * n) (hh - l) (cap - l) hr (by omega)
  · rw [Option.bind_eq_some_iff] at h; obtain ⟨n, hn, h⟩ := h
    exact slice3_ok hR hd hn h hx hlo hhi hmx (by simp)
  · rename_i len elem i off
    cases hmx
    rw [Option.bind_eq_some_iff] at h; obtain ⟨n, hn, h⟩ := h
    unfold sliceA at h
    rw [Option.bind_eq_some_iff] at h; obtain ⟨l, hl, h⟩ := h
    rw [Option.bind_eq_some_iff] at h; obtain ⟨hh, hhh, h⟩ := h
    obtain ⟨hle, hv⟩ := cond_none h
    simp only [Bool.and_eq_true] at hle
    obtain ⟨⟨hle1, hle2⟩, hle3⟩ := hle
    have hle1 := Nat.le_of_ble_eq_true hle1
    have hle2 := Nat.le_of_ble_eq_true hle2
    have hle3 := blt_lt hle3
    have hl' : (lo' = none ∧ l = 0) ∨ ∃ k, lo' = some (.int k (l : Int)) := by
      rcases bound_ok hl hlo with ⟨_, h1, h2⟩ | h1
      · exact .inl ⟨h1, h2⟩
      · exact .inr h1
    have hh' : (hi' = none ∧ hh = len) ∨ ∃ k, hi' = some (.int k (hh : Int)) := by
      rcases bound_ok hhh hhi with ⟨_, h1, h2⟩ | h1
      · exact .inl ⟨h1, h2⟩
      · exact .inr h1
    cases hx with
    | @ptr _ b k _ _ hr =>
    obtain rfl := Option.some.inj hv
    have hrun : (Instr.sliceAt t (.pointer (some ⟨b, off, none⟩)) lo' hi' none).run P w = .ok (.slice (some (if len = l then ⟨b, off, none⟩ else (⟨b, off, none⟩ : Addr).add (l * n))) (hh - l) (len - l)) w := by
      rcases hl' with ⟨rfl, rfl⟩ | ⟨k1, rfl⟩ <;> rcases hh' with ⟨rfl, rfl⟩ | ⟨k2, rfl⟩ <;>
        simp [Instr.sliceAt, Instr.sureAddr, Instr.sliceBounds, Instr.sliceBound, asIntOf, run_underlying hd, run_sizeP hn, hle1, hle2]
    refine ⟨_, hrun, ?_⟩
    have := VR.slice (r := r) (bif Nat.beq len l then off else off + l * n) (hh - l) (len - l) hr (by omega)
    by_cases hq : len = l
    · subst hq
      rw [Nat.beq_refl] at this ⊢
      rw [if_pos rfl]
      exact this
    · have hq2 : Nat.beq len l = false := by
        cases hbq : Nat.beq len l with
        | false => rfl
        | true => exact absurd (Nat.eq_of_beq_eq_true hbq) hq
      rw [hq2] at this ⊢
      rw [if_neg hq]
      simpa [Addr.add_lit] using this
  · rename_i elem i off o2 len cap
    cases hmx
    rw [Option.bind_eq_some_iff] at h; obtain ⟨n, hn, h⟩ := h
    rw [Option.bind_eq_some_iff] at h; obtain ⟨l, hl, h⟩ := h
    rw [Option.bind_eq_some_iff] at h; obtain ⟨hh, hhh, h⟩ := h
    obtain ⟨hle, hv⟩ := cond_none h
    simp only [Bool.and_eq_true] at hle
    have e1 := Nat.eq_of_beq_eq_true hle.1
    have e2 := Nat.eq_of_beq_eq_true hle.2
    subst e1 e2
    have hl' : (lo' = none ∧ (0 : Nat) = 0) ∨ ∃ k, lo' = some (.int k ((0 : Nat) : Int)) := by
      rcases bound_ok hl hlo with ⟨_, h1, h2⟩ | h1
      · exact .inl ⟨h1, h2⟩
      · exact .inr h1
    have hh' : (hi' = none ∧ (0 : Nat) = len) ∨ ∃ k, hi' = some (.int k ((0 : Nat) : Int)) := by
      rcases bound_ok hhh hhi with ⟨_, h1, h2⟩ | h1
      · exact .inl ⟨h1, h2⟩
      · exact .inr h1
    cases hx with
    | @sliceEnd _ b k _ _ _ hr hc =>
    obtain rfl := Option.some.inj hv
    generalize hq : (if k ≤ cap - big then o2 else off) = q
    have hrun := slice_run (w := w) (a := some ⟨b, q, none⟩) (cap := k - (cap - big)) hd hn hl' hh' (Nat.le_refl 0) (Nat.zero_le _)
    refine ⟨_, hrun, ?_⟩
    have e : (if k - (cap - big) = 0 then (some ⟨b, q, none⟩ : Option Addr) else (some (⟨b, q, none⟩ : Addr)).map (·.add (0 * n))) = some ⟨b, q, none⟩ := by
      split <;> simp [Addr.add]
    rw [e, Nat.sub_zero, Nat.sub_zero, ← hq]
    exact .sliceEnd _ _ _ hr hc
  · cases h
theorem bytesOf_ok : ∀ {l l' : List Value} {bs : List UInt8}, bytesOf l = some bs → LR r l l' → l' = bs.map fun b => .int .u8 (b.toNat : Int)
  | _, _, bs, h, .nil => by simp [bytesOf] at h; subst h; rfl
  | v :: l, v' :: l', bs, h, .cons hv hl => by
    unfold bytesOf at h
    split at h
    · rename_i e; cases e
    · rename_i n l0 e
      cases e
      obtain ⟨hb, h⟩ := cond_none h
      rw [Option.bind_eq_some_iff] at h; obtain ⟨bs', hbs, h⟩ := h
      cases h
      have hb := blt_lt hb
      cases hv
      rw [bytesOf_ok hbs hl]
      have : (UInt8.ofNat n).toNat = n := by rw [UInt8.toNat_ofNat']; omega
      simp [this]
    · cases h
theorem getObj_run {b : Nat} {o : Obj} (h : w.heap[b]? = some o) (hc : ∀ a b c, o ≠ .cells a b c) : (getObj b).run P w = .ok o w := by
  unfold getObj
  simp only [Sem.run, h]
theorem setObj_run {b : Nat} {o o' : Obj} (h : w.heap[b]? = some o) (hc : ∀ a b c, o ≠ .cells a b c) : (setObj b o').run P w = .ok () (w.putObj b o') := by
  unfold setObj
  simp only [Sem.run, h]
  rfl
theorem rangeS_ok {t : TypeId} {x x' v : Value} {st' : St} (hR : Rel G r st w) (hf : ∀ i, st.n ≤ i → i < st'.n → r i = none) (h : rangeP P t x st = some (v, st')) (hx : VR r x x') :
    ∃ r' w' v', (Instr.range t x').run P w = .ok v' w' ∧ VR r' v v' ∧ Step G r st w r' st' w' := by
  unfold rangeP at h
  rw [Option.bind_eq_some_iff] at h; obtain ⟨d, hd, h⟩ := h
  split at h
  case h_2 => cases h
  rename_i s
  cases h
  cases hx
  refine ⟨r.set st.n (w.heap.size, 0), w.alloc (.stringIter s 0), .pointer (some ⟨w.heap.size, 0, none⟩), ?_, .ptr 0 none (set_new _ _ _), ?_⟩
  · simp only [Instr.range, Sem.run_bind, run_underlying hd, Result.andThen_ok, Sem.run_pure, newObj, Sem.run]
    rfl
  · exact Step.alloc hR (hf _ (Nat.le_refl _) (by simp [St.new])) (fun r' hr' => heap_alloc_new w _) (fun b hb => Below.heap_alloc _ _ _ hb) (by simp) rfl rfl rfl
theorem nextS_ok {it it' v : Value} {ty : TypeId} {st' : St} (hR : Rel G r st w) (h : nextSP it st = some (v, st')) (hx : VR r it it') :
    ∃ r' w' v', (Instr.next it' true ty).run P w = .ok v' w' ∧ VR r' v v' ∧ Step G r st w r' st' w' := by
  unfold nextSP at h
  split at h
  case h_2 => cases h
  rename_i i
  rw [Option.bind_eq_some_iff] at h; obtain ⟨o, ho, h⟩ := h
  split at h
  case h_2 => cases h
  rename_i bs pos
  cases hx with
  | ptr _ _ hr =>
  rename_i b k
  obtain ⟨b2, k2, hr2, hob⟩ := hR.obj i _ ho
  rw [hr] at hr2
  cases hr2
  have hob : w.heap[b]? = some (.stringIter bs pos) := hob
  have hnc : ∀ x y z, Obj.stringIter bs pos ≠ .cells x y z := fun _ _ _ h => by cases h
  have hget := getObj_run (P := P) hob hnc
  have hsz : bs.data.toList.length = bs.size := by rw [Array.length_toList]; rfl
  simp only [cond_eq_ite] at h
  split at h
  · rename_i hlt
    have hlt : pos < bs.size := by
      rw [hsz] at hlt
      simpa [Nat.blt_eq] using hlt
    cases h
    have hset := setObj_run (P := P) (o' := .stringIter bs (pos + (Utf8.decode bs pos).2)) hob hnc
    refine ⟨r, _, .tuple #[.bool true, .int .i64 (pos : Nat), .int .i32 ((Utf8.decode bs pos).1 : Nat)], ?_, .tuple (.cons (.bool _) (.cons (.int _ _) (.cons (.int _ _) .nil))),
      Step.turn hR ho hr (World.putObj_heap_same (Array.getElem?_eq_some_iff.1 hob).1) (fun c hc => World.putObj_heap_other hc) (by simp) rfl rfl rfl⟩
    simp [Instr.next, hget, hlt, hset, goInt]
  · rename_i hlt
    have hlt : ¬ pos < bs.size := by
      rw [hsz] at hlt
      simpa [Nat.blt_eq] using hlt
    cases h
    exact ⟨r, w, .tuple #[.bool false], by simp [Instr.next, hget, hlt], .tuple (.cons (.bool _) .nil), Step.refl hR⟩
theorem clear_ok {ts : List TypeId} {ty : TypeId} {x x' v : Value} {st' : St} (hR : Rel G r st w) (h : clearP P ts x st = some (v, st')) (hx : VR r x x') :
    ∃ r' w' v', (Builtin.clear_ ts.toArray ty #[x']).run P w = .ok v' w' ∧ VR r' v v' ∧ Step G r st w r' st' w' := by
  unfold clearP at h
  split at h
  case h_2 => cases h
  rename_i t tl
  rw [Option.bind_eq_some_iff] at h; obtain ⟨d, hd, h⟩ := h
  split at h
  case h_2 => cases h
  rename_i elem i off n cap
  rw [Option.bind_eq_some_iff] at h; obtain ⟨z, hz, h⟩ := h
  obtain ⟨hone, h⟩ := cond_none h
  rw [Option.bind_eq_some_iff] at h; obtain ⟨⟨cs, T, m⟩, hc, h⟩ := h
  rw [Option.bind_eq_some_iff] at h; obtain ⟨cs2, ho, h⟩ := h
  cases h
  have hall : allOne (zeros z.cells.toList (n + 1)) = true := by
    have happ : ∀ a b : List Value, allOne a = true → allOne b = true → allOne (a ++ b) = true := by
      intro a b ha hb
      induction a with
      | nil => exact hb
      | cons x a ih => simp [allOne] at ha ⊢; exact ⟨ha.1, ih ha.2⟩
    generalize n + 1 = q
    induction q with
    | zero => rfl
    | succ q ih => exact happ _ _ hone ih
  have hzr : LR r (zeros z.cells.toList (n + 1)) (zeros z.cells.toList (n + 1)) := LR.zeros (closed_cells (zeroP_info hz).2) _
  have hze : (Builtin.zeroCells z.cells (n + 1)).toList = zeros z.cells.toList (n + 1) := by
    have := zeros_eq z.cells (n + 1)
    unfold Builtin.zeroCells
    rw [this]
  have key : ∀ b c', r i = some (b, c') → ∀ cap', ∃ r' w' v', (Builtin.clear_ ⟨t :: tl⟩ ty #[.slice (some ⟨b, off, none⟩) (n + 1) cap']).run P w = .ok v' w' ∧ VR r' (.tuple #[]) v' ∧ Step G r st w r' (st.upd i (.cells cs2 T m)) w' := by
    intro b c' hr cap'
    obtain ⟨w', hw, hstep⟩ := write_ok (P := P) hR hc hr ho hzr hall
    refine ⟨r, w', .tuple #[], ?_, .tuple .nil, hstep⟩
    simp only [Builtin.clear_, List.getElem?_toArray, List.getElem?_cons_zero, Sem.run_bind, run_underlying hd, Result.andThen_ok, Sem.run_pure]
    simp [run_zeroP hz, hze, hw]
  cases hx with
  | slice _ _ _ hr _ => exact key _ _ hr _
  | sliceBig _ _ _ hr _ => exact key _ _ hr _
theorem conv_ok {src dst : TypeId} {x x' v : Value} {st' : St} (hR : Rel G r st w) (hf : ∀ i, st.n ≤ i → i < st'.n → r i = none) (h : convP P src dst x st = some (v, st')) (hx : VR r x x') :
    ∃ r' w' v', (convert src dst x').run P w = .ok v' w' ∧ VR r' v v' ∧ Step G r st w r' st' w' := by
  unfold convP at h
  rw [Option.bind_eq_some_iff] at h; obtain ⟨d, hd, h⟩ := h
  rw [Option.bind_eq_some_iff] at h; obtain ⟨d', hd', h⟩ := h
  split at h
  · rename_i e i off n cap
    rw [Option.bind_eq_some_iff] at h; obtain ⟨de, hde, h⟩ := h
    split at h
    · rw [Option.bind_eq_some_iff] at h; obtain ⟨⟨cs, T, m⟩, hc, h⟩ := h
      rw [Option.bind_eq_some_iff] at h; obtain ⟨l, hs, h⟩ := h
      rw [Option.bind_eq_some_iff] at h; obtain ⟨bs, hbs, h⟩ := h
      cases h
      obtain ⟨hgi, b, k, hr, cs', rest, fz, hl, hb, _⟩ := hR.cells hc
      obtain ⟨hl2, hle, hlen⟩ := hl.sub hs
      have hll := hl.length
      have he := bytesOf_ok hbs hl2
      have hbl : bs.length = n := by
        have := congrArg List.length he
        simp at this
        omega
      have hcells : ∀ j (hj : j < bs.length), w.cell? ((⟨b, off, none⟩ : Addr).add j) = some (.int .u8 (bs[j].toNat : Int)) := by
        intro j hj
        have h1 : ((cs'.drop off).take n)[j]? = some (.int .u8 (bs[j].toNat : Int)) := by rw [he]; simp [hj]
        rw [List.getElem?_take] at h1
        split at h1
        · rw [List.getElem?_drop] at h1
          rw [Addr.add_lit, cell_row hb, List.getElem?_append_left (List.getElem?_eq_some_iff.1 h1).1]
          exact h1
        · cases h1
      refine ⟨r, w, .string ⟨bs.toArray⟩, ?_, .string _, Step.refl hR⟩
      cases hx with
      | slice _ _ _ hr2 _ => rw [hr] at hr2; cases hr2; have := run_convert_bytes_back w src dst e ⟨b, off, none⟩ cap bs hd hde hd' hcells; rwa [hbl] at this
      | sliceBig _ _ _ hr2 _ => rw [hr] at hr2; cases hr2; have := run_convert_bytes_back w src dst e ⟨b, off, none⟩ (k - (cap - big)) bs hd hde hd' hcells; rwa [hbl] at this
    · cases h
  · rename_i e s
    rw [Option.bind_eq_some_iff] at h; obtain ⟨de, hde, h⟩ := h
    split at h
    · obtain ⟨hlt, h⟩ := cond_none h
      have hsz : s.data.toList.length = s.size := by rw [Array.length_toList]; rfl
      rw [hsz] at hlt h
      have hlt : s.size < 70368744177664 := by simpa [Nat.blt_eq] using hlt
      cases h
      cases hx
      have hrun := run_bytes_of_string (P := P) w src dst e s hd hd' hde
      have h1 := grownCap_ge w s.size 0 e
      have h2 := grownCap_le_maxLen w s.size 0 e (by unfold maxLen; omega)
      have hcells : LR r (s.data.toList.map fun (b : UInt8) => Value.int .u8 (b.toNat : Int)) (s.data.toList.map fun (b : UInt8) => Value.int .u8 (b.toNat : Int)) := by
        generalize s.data.toList = l
        induction l with
        | nil => exact .nil
        | cons b l ih => exact .cons (.int _ _) ih
      have hrow : bytesRow s (grownCap w s.size 0 e) = ((s.data.toList.map fun (b : UInt8) => Value.int .u8 (b.toNat : Int)) ++ List.replicate (grownCap w s.size 0 e - s.size) (Value.int .u8 0)).toArray := by
        unfold bytesRow
        apply Array.ext'
        simp
      refine ⟨_, _, _, hrun, ?_, Step.alloc_drew (k := grownCap w s.size 0 e) hR (hf _ (Nat.le_refl _) (by simp [St.new])) (fun r' hr' => ?_)⟩
      · have := VR.sliceBig (r := r.set st.n (w.heap.size, grownCap w s.size 0 e)) 0 s.size big (set_new _ _ _) (Nat.le_refl _)
        simpa using this
      · refine ⟨_, List.replicate (grownCap w s.size 0 e - s.size) (Value.int .u8 0), ((bytesRow s (grownCap w s.size 0 e)).size, (bytesRow s (grownCap w s.size 0 e)).size + 1), hcells.mono hr', (heap_alloc_new w.drew _).trans ?_, ?_, ?_⟩
        · rw [hrow]
        · refine .inr ⟨rfl, ?_⟩
          rw [hrow]
          simp
        · refine ⟨?_, by unfold maxLen at h2; exact h2⟩
          simp
          have : s.data.size = s.size := rfl
          omega
    · cases h
  · cases h

theorem pureRun_ok {α : Type} : ∀ {s : Sem α} {a : α}, pureRun P s = some a → ∀ w, s.run P w = .ok a w
  | .pure a, _, h, w => by simp [pureRun] at h; subst h; rfl
  | .program k, _, h, w => by simp only [Sem.run]; exact pureRun_ok (s := k P) (by simpa [pureRun] using h) w
  | .mark m k, _, h, w => by simp only [Sem.run]; exact pureRun_ok (s := k) (by simpa [pureRun] using h) w
  | .load .., _, h, _ => by simp [pureRun] at h
  | .store .., _, h, _ => by simp [pureRun] at h
  | .new .., _, h, _ => by simp [pureRun] at h
  | .shape .., _, h, _ => by simp [pureRun] at h
  | .freeze .., _, h, _ => by simp [pureRun] at h
  | .frozen .., _, h, _ => by simp [pureRun] at h
  | .getObj .., _, h, _ => by simp [pureRun] at h
  | .setObj .., _, h, _ => by simp [pureRun] at h
  | .choose .., _, h, _ => by simp [pureRun] at h
  | .sys .., _, h, _ => by simp [pureRun] at h
  | .halt _, _, h, _ => by simp [pureRun] at h
theorem plain_ok {ev : Operand → Option Value} {ρ : Operand → Value} {o : Oper} {v : Value} (h : plainP P ev o = some v) (hT : ∀ x v, ev x = some v → VR r v (ρ x)) (w : World) :
    (execOp ρ o).run P w = .ok (.value v) w ∧ closedV v = true := by
  unfold plainP at h
  obtain ⟨hc, h⟩ := cond_none h
  simp only [Bool.and_eq_true] at hc
  obtain ⟨hs, hc⟩ := hc
  have e : execOp ρ o = execOp (fun x => (ev x).getD undef) o := by
    refine execOp_congr o (fun cs b he => by rw [he] at hs; cases hs) fun x hx => ?_
    have := List.all_eq_true.1 hc x (by simpa using hx)
    cases hev : ev x with
    | none => rw [hev] at this; cases this
    | some u =>
      rw [hev] at this
      exact VR.closed_eq (hT x u hev) this
  split at h
  · rename_i u hp
    obtain ⟨hcl, h⟩ := cond_none h
    cases h
    exact ⟨by rw [e]; exact pureRun_ok hp w, hcl⟩
  · cases h
  · cases h
theorem nilEq_ok {x y x' y' : Value} (hx : VR r x x') (hy : VR r y y') : nilEq x' y' = nilEq x y := by
  cases hx <;> cases hy <;> rfl
theorem nilKind_ok {d : TypeDesc} {x x' : Value} (hx : VR r x x') : nilKind d x' = nilKind d x := by
  cases hx <;> cases d <;> rfl
theorem equal_nil {t : TypeId} {d : TypeDesc} {x y : Value} (hd : P.underlying t = some d) (hk : nilKind d x = true) (hn : (nilEq x y || nilEq y x) = true) (w : World) : (Op.equal t x y).run P w = .ok false w := by
  obtain ⟨m, hm⟩ : ∃ m, Op.equal t x y = Op.equalIn (m + 1) t x y := ⟨9999, rfl⟩
  rw [hm]
  simp only [Bool.or_eq_true] at hn
  rcases hn with hn | hn <;> unfold nilEq at hn <;> split at hn <;> (try (cases hn; done)) <;> cases d <;> (try (cases hk; done)) <;> simp only [Op.equalIn, Sem.run_bind, run_underlying hd, Result.andThen_ok, Sem.run_pure, Option.isNone]
theorem guard_nil {op : BinOp} {t : TypeId} {x y : Value} {a b : Operand} (hn : (nilEq x y || nilEq y x) = true) : eqGuard op t a b x y = pure () := by
  simp only [Bool.or_eq_true] at hn
  rcases hn with hn | hn <;> unfold nilEq at hn <;> split at hn <;> (try (cases hn; done)) <;> cases op <;> rfl
theorem binOp_nil {op : BinOp} {t : TypeId} {x y : Value} (hn : (nilEq x y || nilEq y x) = true) (ho : op = .eql ∨ op = .neq) : binOp op t x y = (if op = .eql then do pure (.bool (← Op.equal t x y)) else do pure (.bool (!(← Op.equal t x y)))) := by
  simp only [Bool.or_eq_true] at hn
  rcases ho with rfl | rfl <;> rcases hn with hn | hn <;> unfold nilEq at hn <;> split at hn <;> (try (cases hn; done)) <;> rfl
theorem eq_ok {op : BinOp} {t : TypeId} {x y x' y' v : Value} {a b : Operand} (h : eqP P op t x y = some v) (hx : VR r x x') (hy : VR r y y') (w : World) :
    (do eqGuard op t a b x' y'; binOp op t x' y' : Sem Value).run P w = .ok v w ∧ closedV v = true := by
  unfold eqP at h
  obtain ⟨hn, h⟩ := cond_none h
  rw [Option.bind_eq_some_iff] at h; obtain ⟨d, hd, h⟩ := h
  obtain ⟨hk, h⟩ := cond_none h
  rw [← nilEq_ok hx hy, ← nilEq_ok hy hx] at hn
  rw [← nilKind_ok hx] at hk
  have he := equal_nil (P := P) hd hk hn w
  rw [guard_nil hn]
  cases op <;> first | (cases h; done) | skip
  · cases h
    rw [binOp_nil hn (.inl rfl)]
    simp [he, closedV]
  · cases h
    rw [binOp_nil hn (.inr rfl)]
    simp [he, closedV]
theorem ltI_eq : ∀ a b : Int, ltI a b = decide (a < b)
  | .ofNat a, .ofNat b => by
    rw [Bool.eq_iff_iff, decide_eq_true_eq]
    show Nat.blt a b = true ↔ _
    simp [Nat.blt_eq]
  | .ofNat a, .negSucc b => by
    rw [Bool.eq_iff_iff, decide_eq_true_eq]
    exact ⟨fun h => (by cases h), fun h => (by simp only [Int.ofNat_eq_natCast] at h; omega)⟩
  | .negSucc a, .ofNat b => by
    rw [Bool.eq_iff_iff, decide_eq_true_eq]
    exact ⟨fun h => (by simp only [Int.ofNat_eq_natCast]; omega), fun h => rfl⟩
  | .negSucc a, .negSucc b => by
    rw [Bool.eq_iff_iff, decide_eq_true_eq]
    show Nat.blt b a = true ↔ _
    simp only [Nat.blt_eq]
    omega
theorem eqI_eq : ∀ a b : Int, eqI a b = decide (a = b)
  | .ofNat a, .ofNat b => by
    rw [Bool.eq_iff_iff, decide_eq_true_eq]
    show Nat.beq a b = true ↔ _
    simp only [Nat.beq_eq, Int.ofNat_eq_natCast]
    omega
  | .ofNat a, .negSucc b => by
    rw [Bool.eq_iff_iff, decide_eq_true_eq]
    exact ⟨fun h => (by cases h), fun h => (by cases h)⟩
  | .negSucc a, .ofNat b => by
    rw [Bool.eq_iff_iff, decide_eq_true_eq]
    exact ⟨fun h => (by cases h), fun h => (by cases h)⟩
  | .negSucc a, .negSucc b => by
    rw [Bool.eq_iff_iff, decide_eq_true_eq]
    show Nat.beq a b = true ↔ _
    simp only [Nat.beq_eq]
    omega
theorem wrap64_in {n : Int} (h1 : -9223372036854775808 ≤ n) (h2 : n < 9223372036854775808) : IntKind.i64.wrap n = n := by
  simp [IntKind.wrap, IntKind.bits, IntKind.signed]
  omega
theorem lim_eq : lim = 9223372036854775808 := by unfold lim; exact Eq.refl _
theorem wrapQ_eq (k : IntKind) (n : Int) : wrapQ k n = k.wrap n := by
  unfold wrapQ
  split
  · rename_i m
    cases h : Nat.blt m lim with
    | false => rw [cond_false]
    | true =>
      have h := blt_lt h
      rw [lim_eq] at h
      rw [cond_true]
      exact (wrap64_in (by simp only [Int.ofNat_eq_natCast]; omega) (by simp only [Int.ofNat_eq_natCast]; omega)).symm
  · rename_i m
    cases h : Nat.blt m lim with
    | false => rw [cond_false]
    | true =>
      have h := blt_lt h
      rw [lim_eq] at h
      rw [cond_true]
      exact (wrap64_in (by omega) (by omega)).symm
  · exact Eq.refl _
theorem int_ok {op : BinOp} {t : TypeId} {x y x' y' v : Value} {a b : Operand} (h : intP op x y = some v) (hx : VR r x x') (hy : VR r y y') (w : World) :
    (do eqGuard op t a b x' y'; binOp op t x' y' : Sem Value).run P w = .ok v w ∧ closedV v = true := by
  unfold intP at h
  split at h
  case h_2 => cases h
  rename_i k p k' q
  obtain ⟨hk, h1⟩ := cond_none h
  have hk : k = k' := by simpa using hk
  subst hk
  cases hx
  cases hy
  have hgd : eqGuard op t a b (.int k p) (.int k q) = pure () := by cases op <;> rfl
  rw [hgd]
  cases op <;> first | (cases h1; done) | (cases h1; refine ⟨?_, rfl⟩; simp only [binOp, wrapQ_eq, ltI_eq, eqI_eq]; simp [Op.intArith, Op.intCmp, Int.not_lt, bne] <;> first | rfl | (rw [Bool.eq_iff_iff]; simp))
theorem ptrEq_ok {op : BinOp} {t : TypeId} {x y x' y' v : Value} {a b : Operand} (hR : Rel G r st w) (h : ptrEqP P op t x y st = some v) (hx : VR r x x') (hy : VR r y y') :
    (do eqGuard op t a b x' y'; binOp op t x' y' : Sem Value).run P w = .ok v w ∧ closedV v = true := by
  unfold ptrEqP at h
  split at h
  case h_2 => cases h
  rename_i i o1 j o2
  rw [Option.bind_eq_some_iff] at h; obtain ⟨d, hd, h⟩ := h
  split at h
  case h_2 => cases h
  rename_i elem
  rw [Option.bind_eq_some_iff] at h; obtain ⟨n, hn, h⟩ := h
  simp only [cond_eq_ite] at h
  split at h
  · cases h
  rename_i hn0
  have hn0 : n ≠ 0 := fun e => hn0 (by rw [e]; rfl)
  rw [Option.bind_eq_some_iff] at h; obtain ⟨⟨cs1, T1, m1⟩, hc1, h⟩ := h
  rw [Option.bind_eq_some_iff] at h; obtain ⟨⟨cs2, T2, m2⟩, hc2, h⟩ := h
  dsimp only at h
  have hum : (unmarked m1 && unmarked m2) = true := by
    cases hq : (unmarked m1 && unmarked m2) with
    | true => rfl
    | false => rw [hq] at h; cases h
  rw [hum, if_pos rfl] at h
  simp only [Bool.and_eq_true] at hum
  obtain ⟨hg1, b1, k1, hr1, h1⟩ := hR.cells hc1
  obtain ⟨hg2, b2, k2, hr2, h2⟩ := hR.cells hc2
  obtain ⟨e1, f1, z1, _, hb1, hz1, _⟩ := h1
  obtain ⟨e2, f2, z2, _, hb2, hz2, _⟩ := h2
  have hz1 : z1 = (0, 0) := hz1.plain hum.1
  have hz2 : z2 = (0, 0) := hz2.plain hum.2
  subst hz1
  subst hz2
  cases hx with
  | ptr _ _ hx =>
  rw [hr1] at hx; cases hx
  cases hy with
  | ptr _ _ hy =>
  rw [hr2] at hy; cases hy
  have hsame : (sameAddr ⟨b1, o1, none⟩ ⟨b2, o2, none⟩).run P w = .ok (Nat.beq i j && Nat.beq o1 o2) w := by
    by_cases e : i = j
    · subst e
      rw [hr1] at hr2; cases hr2
      simp only [Nat.beq_refl, Bool.true_and]
      by_cases e2 : o1 = o2
      · subst e2; rw [Nat.beq_refl]; exact run_sameAddr_same w _
      · have : Nat.beq o1 o2 = false := by
          cases hq : Nat.beq o1 o2 with
          | false => rfl
          | true => exact absurd (Nat.eq_of_beq_eq_true hq) e2
        rw [this]
        exact run_sameAddr_other w (fun hh => e2 (Addr.mk.inj hh).2.1) hb1 hb1
    · have hij : Nat.beq i j = false := by
        cases hq : Nat.beq i j with
        | false => rfl
        | true => exact absurd (Nat.eq_of_beq_eq_true hq) e
      rw [hij, Bool.false_and]
      refine run_sameAddr_other w ?_ hb1 hb2
      intro hh
      simp only [Addr.mk.injEq] at hh
      obtain ⟨rfl, -, -⟩ := hh
      exact e (hR.inj i j _ _ b1 k1 k2 hg1 hg2 hr1 hr2)
  have he : (Op.equal t (.pointer (some ⟨b1, o1, none⟩)) (.pointer (some ⟨b2, o2, none⟩))).run P w = .ok (Nat.beq i j && Nat.beq o1 o2) w := by
    obtain ⟨m, hm⟩ : ∃ m, Op.equal t (.pointer (some ⟨b1, o1, none⟩)) (.pointer (some ⟨b2, o2, none⟩)) = Op.equalIn (m + 1) t (.pointer (some ⟨b1, o1, none⟩)) (.pointer (some ⟨b2, o2, none⟩)) := ⟨9999, rfl⟩
    rw [hm]
    simp [Op.equalIn, run_underlying hd, run_sizeP hn, hn0, hsame]
  have hgd : eqGuard op t a b (.pointer (some ⟨b1, o1, none⟩)) (.pointer (some ⟨b2, o2, none⟩)) = pure () := by cases op <;> rfl
  rw [hgd]
  cases op <;> first | (cases h; done) | skip
  · cases h
    rw [show binOp .eql t (.pointer (some ⟨b1, o1, none⟩)) (.pointer (some ⟨b2, o2, none⟩)) = (do pure (.bool (← Op.equal t (.pointer (some ⟨b1, o1, none⟩)) (.pointer (some ⟨b2, o2, none⟩))))) from rfl]
    simp [he, closedV]
  · cases h
    rw [show binOp .neq t (.pointer (some ⟨b1, o1, none⟩)) (.pointer (some ⟨b2, o2, none⟩)) = (do pure (.bool (!(← Op.equal t (.pointer (some ⟨b1, o1, none⟩)) (.pointer (some ⟨b2, o2, none⟩)))))) from rfl]
    simp [he, closedV]
theorem assert_ok {x x' v : Value} {xt T : TypeId} {ok : Bool} (h : assertP P x T ok = some v) (hx : VR r x x') : ∃ v', (Instr.typeAssert x' xt T ok).run P w = .ok v' w ∧ VR r v v' := by
  unfold assertP at h
  split at h
  · rename_i t u
    rw [Option.bind_eq_some_iff] at h; obtain ⟨d, hd, h⟩ := h
    cases hx with
    | iface _ hu =>
    rename_i u'
    split at h
    · cases h
    · rename_i hni
      obtain ⟨hb, h2⟩ := cond_none h
      clear h
      have hb := Nat.eq_of_beq_eq_true hb
      subst hb
      have h := h2
      clear h2
      have hrun : (Instr.typeAssert (.iface t u') xt t ok).run P w = .ok (if ok then .tuple #[u', .bool true] else u') w := by
        simp only [Instr.typeAssert, Sem.run_bind, run_underlying hd, Result.andThen_ok]
        cases d <;> first | exact absurd rfl (hni _) | simp
      cases ok with
      | true => cases h; exact ⟨_, hrun, .tuple (.cons hu (.cons (.bool _) .nil))⟩
      | false => cases h; exact ⟨_, hrun, hu⟩
  · cases h
theorem copy_ok {ts : List TypeId} {ty : TypeId} {d s d' s' v : Value} {st' : St} (hR : Rel G r st w) (h : copyP P ts d s st = some (v, st')) (hd : VR r d d') (hs : VR r s s') :
    ∃ w' v', (Builtin.copy_ ts.toArray ty #[d', s']).run P w = .ok v' w' ∧ VR r v v' ∧ Step G r st w r st' w' := by
  unfold copyP at h
  split at h
  case h_2 => cases h
  rename_i t tl
  rw [Option.bind_eq_some_iff] at h; obtain ⟨dt, hdt, h⟩ := h
  split at h
  · rename_i elem b off len cap
    rw [Option.bind_eq_some_iff] at h; obtain ⟨size, hsz, h⟩ := h
    rw [Option.bind_eq_some_iff] at h; obtain ⟨m, hm, h⟩ := h
    rw [Option.bind_eq_some_iff] at h; obtain ⟨l, hl, h⟩ := h
    simp only [cond_eq_ite] at h
    split at h
    · cases h
    rename_i hone
    rw [Option.bind_eq_some_iff] at h; obtain ⟨⟨cs, T, mo⟩, hc, h⟩ := h
    rw [Option.bind_eq_some_iff] at h; obtain ⟨cs2, ho, h⟩ := h
    cases h
    obtain ⟨l', hfirst, hlr⟩ := first_ok (P := P) hR hl hs
    have hlen := len_ok (P := P) hm hs w
    have hone : allOne l = true := by simpa using hone
    cases hd with
    | slice _ _ _ hr _ =>
      obtain ⟨w', hw, hstep⟩ := write_ok (P := P) hR hc hr ho hlr hone
      exact ⟨w', .int .i64 (Nat.min m len : Nat), by simp [Builtin.copy_, run_underlying hdt, hlen, run_sizeP hsz, hfirst, hw, goInt], .int _ _, hstep⟩
    | sliceBig _ _ _ hr _ =>
      obtain ⟨w', hw, hstep⟩ := write_ok (P := P) hR hc hr ho hlr hone
      exact ⟨w', .int .i64 (Nat.min m len : Nat), by simp [Builtin.copy_, run_underlying hdt, hlen, run_sizeP hsz, hfirst, hw, goInt], .int _ _, hstep⟩
  · cases h
end Ev
end
section
namespace Ev
set_option linter.unusedVariables false
set_option linter.unusedSimpArgs false
open Go.RowKit
variable {P : Program} {G : Cx} {r : Ren} {st : St} {w : World}

theorem ER.length {l : List (Value × Value × Nat)} {l' : List MapEntry} (h : ER r l l') : l'.length = l.length := by
  induction h with
  | nil => rfl
  | cons _ _ _ ih => simp [ih]
theorem ER.keys {l : List (Value × Value × Nat)} {l' : List MapEntry} (h : ER r l l') : (dumb l).map (·.key) = l'.map (·.key) := by
  induction h with
  | nil => rfl
  | cons _ _ _ ih => simp [dumb, ih]
theorem ER.at_ {l : List (Value × Value × Nat)} {l' : List MapEntry} (h : ER r l l') : ∀ (j : Nat) (e' : MapEntry), l'[j]? = some e' → ∃ e : Value × Value × Nat, l[j]? = some e ∧ closedV e.1 = true ∧ e'.key = e.1 ∧ VR r e.2.1 e'.val ∧ e'.born = e.2.2 := by
  induction h with
  | nil => intro j e' he; simp at he
  | cons hk hv _ ih =>
    intro j e' he
    cases j with
    | zero => simp at he; subst he; exact ⟨_, rfl, hk, rfl, hv, rfl⟩
    | succ j => simpa using ih j e' (by simpa using he)
theorem ER.append {a b : List (Value × Value × Nat)} {a' b' : List MapEntry} (h : ER r a a') (k : ER r b b') : ER r (a ++ b) (a' ++ b') := by
  induction h with
  | nil => exact k
  | cons hk hv _ ih => exact .cons hk hv ih
theorem ER.erase {l : List (Value × Value × Nat)} {l' : List MapEntry} (h : ER r l l') : ∀ j : Nat, ER r (l.eraseIdx j) (l'.eraseIdx j) := by
  induction h with
  | nil => intro j; exact .nil
  | cons hk hv hl ih =>
    intro j
    cases j with
    | zero => exact hl
    | succ j => exact .cons hk hv (ih j)
theorem ER.set {l : List (Value × Value × Nat)} {l' : List MapEntry} (h : ER r l l') {k x x' : Value} (hk : closedV k = true) (hx : VR r x x') : ∀ (j : Nat) (e : Value × Value × Nat) (e' : MapEntry), l[j]? = some e → l'[j]? = some e' → ER r (l.set j (k, x, e.2.2)) (l'.modify j fun e => { e with key := k, val := x' }) := by
  induction h with
  | nil => intro j e e' he; simp at he
  | cons hk0 hv hl ih =>
    intro j e e' he he'
    cases j with
    | zero => simp at he he'; subst he; subst he'; exact .cons hk hx hl
    | succ j => simpa using ER.cons hk0 hv (ih j e e' (by simpa using he) (by simpa using he'))

theorem findNow_ok {d : TypeDesc} {k : Value} : ∀ (l l' : List MapEntry) (i : Nat), l.map (·.key) = l'.map (·.key) →
    (Instr.findNow d k l i = none → Instr.findNow d k l' i = none) ∧ (Instr.findNow d k l i = some none → Instr.findNow d k l' i = some none) ∧
    (∀ j v, Instr.findNow d k l i = some (some (j, v)) → ∃ j0 e', j = i + j0 ∧ l'[j0]? = some e' ∧ Instr.findNow d k l' i = some (some (j, e'.val)))
  | [], [], i, _ => ⟨fun h => h, fun h => h, fun j v h => by simp [Instr.findNow] at h⟩
  | [], _ :: _, _, h => by simp at h
  | _ :: _, [], _, h => by simp at h
  | e :: l, e' :: l', i, h => by
    simp only [List.map_cons, List.cons.injEq] at h
    obtain ⟨h1, h2⟩ := h
    have ih := findNow_ok (d := d) (k := k) l l' (i + 1) h2
    have hs1 : Instr.sameNow d k e'.key = Instr.sameNow d k e.key := by rw [h1]
    cases hs : Instr.sameNow d k e.key with
    | none =>
      rw [hs] at hs1
      refine ⟨fun h => by simp [Instr.findNow, hs1], fun h => ?_, fun j v h => ?_⟩ <;> simp [Instr.findNow, hs] at h
    | some b =>
      rw [hs] at hs1
      cases b with
      | true =>
        refine ⟨fun h => ?_, fun h => ?_, fun j v h => ?_⟩ <;> simp [Instr.findNow, hs] at h
        obtain ⟨rfl, rfl⟩ := h
        exact ⟨0, e', by simp, by simp, by simp [Instr.findNow, hs1]⟩
      | false =>
        have e1 : Instr.findNow d k (e :: l) i = Instr.findNow d k l (i + 1) := by simp [Instr.findNow, hs]
        have e2 : Instr.findNow d k (e' :: l') i = Instr.findNow d k l' (i + 1) := by simp [Instr.findNow, hs1]
        rw [e1, e2]
        refine ⟨ih.1, ih.2.1, fun j v h => ?_⟩
        obtain ⟨j0, e3, h3, h4, h5⟩ := ih.2.2 j v h
        exact ⟨j0 + 1, e3, by omega, by simpa using h4, h5⟩
theorem findAsking_ok {kt : TypeId} {k : Value} : ∀ (l l' : List MapEntry) (i : Nat) (w w1 : World) (x : Option (Nat × Value)), l.map (·.key) = l'.map (·.key) → (Instr.findAsking kt k l i).run P w = .ok x w1 →
    match x with
    | none => (Instr.findAsking kt k l' i).run P w = .ok none w1
    | some (j, v) => ∃ j0 e', j = i + j0 ∧ l'[j0]? = some e' ∧ (Instr.findAsking kt k l' i).run P w = .ok (some (j, e'.val)) w1
  | [], [], i, w, w1, x, _, h => by
    simp [Instr.findAsking] at h
    obtain ⟨rfl, rfl⟩ := h
    simp [Instr.findAsking]
  | [], _ :: _, _, _, _, _, h, _ => by simp at h
  | _ :: _, [], _, _, _, _, h, _ => by simp at h
  | e :: l, e' :: l', i, w, w1, x, h, hr => by
    simp only [List.map_cons, List.cons.injEq] at h
    obtain ⟨h1, h2⟩ := h
    simp only [Instr.findAsking, Sem.run_bind] at hr ⊢
    rw [← h1]
    cases hq : (Op.equal kt k e.key).run P w with
    | halt _ _ => rw [hq] at hr; simp at hr
    | ok b w2 =>
      rw [hq] at hr
      simp only [Result.andThen_ok] at hr
      cases b with
      | true =>
        simp at hr
        obtain ⟨rfl, rfl⟩ := hr
        exact ⟨0, e', by simp, by simp, by simp⟩
      | false =>
        have ih := findAsking_ok l l' (i + 1) w2 w1 x h2 (by simpa using hr)
        cases x with
        | none => simpa using ih
        | some jv =>
          obtain ⟨j, v⟩ := jv
          obtain ⟨j0, e2, h3, h4, h5⟩ := ih
          exact ⟨j0 + 1, e2, by omega, by simpa using h4, by simpa using h5⟩
theorem findKey_ok {kt : TypeId} {d : TypeDesc} {k : Value} {l l' : List MapEntry} {w w1 : World} {x : Option (Nat × Value)} (hd : P.underlying kt = some d) (hk : l.map (·.key) = l'.map (·.key)) (h : (Instr.findKey kt k l).run P w = .ok x w1) :
    match x with
    | none => (Instr.findKey kt k l').run P w = .ok none w1
    | some (j, v) => ∃ e', l'[j]? = some e' ∧ (Instr.findKey kt k l').run P w = .ok (some (j, e'.val)) w1 := by
  simp only [Instr.findKey, Sem.run_bind, run_underlying hd, Result.andThen_ok] at h ⊢
  obtain ⟨f1, f2, f3⟩ := findNow_ok (d := d) (k := k) l l' 0 hk
  cases hq : Instr.findNow d k l 0 with
  | none =>
    rw [hq] at h
    rw [f1 hq]
    have := findAsking_ok l l' 0 w w1 x hk h
    cases x with
    | none => exact this
    | some jv =>
      obtain ⟨j, v⟩ := jv
      obtain ⟨j0, e2, h3, h4, h5⟩ := this
      exact ⟨e2, by rw [h3, Nat.zero_add]; exact h4, h5⟩
  | some y =>
    rw [hq] at h
    simp at h
    obtain ⟨rfl, rfl⟩ := h
    cases y with
    | none => rw [f2 hq]; simp
    | some jv =>
      obtain ⟨j, v⟩ := jv
      obtain ⟨j0, e2, h3, h4, h5⟩ := f3 j v hq
      rw [h5]
      exact ⟨e2, by rw [h3, Nat.zero_add]; exact h4, by simp⟩
theorem find_ok {kt : TypeId} {empty : Bool} {k k' : Value} {es : List (Value × Value × Nat)} {es' : List MapEntry} {x : Option Nat} (hE : ER r es es') (hk : VR r k k') (h : findP P kt empty k es = some x) (w : World) :
    closedV k = true ∧ k' = k ∧ (Instr.checkKey empty 10000 kt k).run P w = .ok () w ∧
      (match x with
       | none => (Instr.findKey kt k es').run P w = .ok none w
       | some j => ∃ e', es'[j]? = some e' ∧ (Instr.findKey kt k es').run P w = .ok (some (j, e'.val)) w) := by
  unfold findP at h
  obtain ⟨hc, h1⟩ := cond_none h
  rw [Option.bind_eq_some_iff] at h1; obtain ⟨d, hd, h1⟩ := h1
  split at h1
  case h_2 => cases h1
  rename_i u hu
  rw [Option.bind_eq_some_iff] at h1; obtain ⟨y, hy, h1⟩ := h1
  have hx : y.map (·.1) = x := Option.some.inj h1
  have hck := pureRun_ok hu w
  have hf := pureRun_ok hy w
  have := findKey_ok hd hE.keys hf
  refine ⟨hc, VR.closed_eq hk hc, hck, ?_⟩
  cases y with
  | none => subst hx; exact this
  | some jv => obtain ⟨j, v⟩ := jv; subst hx; exact this
theorem nilL_ok {es : List (Value × Value × Nat)} {es' : List MapEntry} (h : ER r es es') : nilL es = es'.isEmpty := by cases h <;> rfl
theorem mapDesc_ok {t : TypeId} {k e : TypeId} (h : mapDesc P t = some (k, e)) : P.underlying t = some (.map k e) := by
  unfold mapDesc at h
  rw [Option.bind_eq_some_iff] at h; obtain ⟨d, hd, h⟩ := h
  split at h
  · cases h; exact hd
  · cases h
theorem map_at {i : Nat} {es : List (Value × Value × Nat)} {c : Nat} (hR : Rel G r st w) (h : st.map i = some (es, c)) :
    st.H.get i = some (.map es c) ∧ ∃ b k es', r i = some (b, k) ∧ ER r es es' ∧ w.heap[b]? = some (.map es'.toArray c) := by
  unfold St.map at h
  split at h
  · rename_i hg
    cases h
    obtain ⟨b, k, hr, es', h1, h2⟩ := hR.obj i _ hg
    exact ⟨hg, b, k, es', hr, h1, h2⟩
  · cases h
theorem map_turn {i : Nat} {es es2 : List (Value × Value × Nat)} {c c2 b k : Nat} {es' es2' : List MapEntry} (hR : Rel G r st w) (hg : st.H.get i = some (.map es c)) (hr : r i = some (b, k)) (hb : w.heap[b]? = some (.map es'.toArray c)) (hE : ER r es2 es2') :
    (setObj b (.map es2'.toArray c2)).run P w = .ok () (w.putObj b (.map es2'.toArray c2)) ∧ Step G r st w r (st.upd i (.map es2 c2)) (w.putObj b (.map es2'.toArray c2)) :=
  ⟨setObj_run hb (fun _ _ _ h => by cases h), Step.turn hR hg hr ⟨es2', hE, World.putObj_heap_same (Array.getElem?_eq_some_iff.1 hb).1⟩ (fun c hc => World.putObj_heap_other hc) (by simp) rfl rfl rfl⟩
theorem makeMap_ok {t : TypeId} {x x' : Option Value} {v : Value} {st' : St} (hR : Rel G r st w) (hf : ∀ i, st.n ≤ i → i < st'.n → r i = none) (h : makeMapP P t x st = some (v, st')) (hx : OR r x x') :
    ∃ r' w' v', (Instr.makeMap t x').run P w = .ok v' w' ∧ VR r' v v' ∧ Step G r st w r' st' w' := by
  have fin : (v, st') = (Value.map (some st.n), st.new (.map [] 0)) → ∃ r' w' v', (do pure (.map (some (← newObj (.map #[] 0)))) : Sem Value).run P w = .ok v' w' ∧ VR r' v v' ∧ Step G r st w r' st' w' := by
    intro e
    cases e
    refine ⟨r.set st.n (w.heap.size, 0), w.alloc (.map #[] 0), .map (some w.heap.size), ?_, .map (set_new _ _ _), ?_⟩
    · simp only [Sem.run_bind, Sem.run_pure, newObj, Sem.run, Result.andThen_ok]
      rfl
    · exact Step.alloc hR (hf _ (Nat.le_refl _) (by simp [St.new])) (fun r' hr' => ⟨[], .nil, heap_alloc_new w _⟩) (fun b hb => Below.heap_alloc _ _ _ hb) (by simp) rfl rfl rfl
  unfold makeMapP at h
  split at h
  · cases hx
    obtain ⟨r', w', v', h1, h2⟩ := fin (Option.some.inj h).symm
    exact ⟨r', w', v', by simpa [Instr.makeMap] using h1, h2⟩
  · rw [Option.bind_eq_some_iff] at h; obtain ⟨⟨k, e⟩, hd, h⟩ := h
    have hd := mapDesc_ok hd
    cases hx with
    | some hv =>
    cases hv
    obtain ⟨r', w', v', h1, h2⟩ := fin (Option.some.inj h).symm
    exact ⟨r', w', v', by simpa [Instr.makeMap, run_underlying hd, asInt, asIntOf] using h1, h2⟩
  · cases h
theorem lookup_ok {t : TypeId} {m k m' k' v : Value} {ok : Bool} (hR : Rel G r st w) (h : lookupP P t m k ok st = some v) (hm : VR r m m') (hk : VR r k k') :
    ∃ v', (Instr.lookup t m' k' ok).run P w = .ok v' w ∧ VR r v v' := by
  unfold lookupP at h
  rw [Option.bind_eq_some_iff] at h; obtain ⟨⟨kt, elem⟩, hd, h⟩ := h
  have hd := mapDesc_ok hd
  rw [Option.bind_eq_some_iff] at h; obtain ⟨es, hes, h⟩ := h
  rw [Option.bind_eq_some_iff] at h; obtain ⟨x, hx, h⟩ := h
  rw [Option.bind_eq_some_iff] at h; obtain ⟨⟨u, b⟩, hu, h⟩ := h
  have fin : ∀ (es' : List MapEntry), ER r es es' → (m' = .map none ∧ es' = [] ∨ ∃ b c, m' = .map (some b) ∧ (getObj b).run P w = .ok (.map es'.toArray c) w) → ∃ v', (Instr.lookup t m' k' ok).run P w = .ok v' w ∧ VR r v v' := by
    intro es' hE hm'
    obtain ⟨hc, rfl, hck, hfind⟩ := find_ok hE hk hx w
    rw [nilL_ok hE] at hck
    cases x with
    | none =>
      have hfind : (Instr.findKey kt k' es').run P w = .ok none w := hfind
      rw [Option.bind_eq_some_iff] at hu; obtain ⟨z, hz, hu⟩ := hu
      cases hu
      have hfin : (Instr.lookup t m' k' ok).run P w = .ok (if ok then .tuple #[u, .bool false] else u) w := by
        rcases hm' with ⟨rfl, rfl⟩ | ⟨b, c, rfl, hget⟩
        · have hck : (Instr.checkKey true 10000 kt k').run P w = .ok () w := hck
          simp only [Instr.lookup, Sem.run_bind, run_underlying hd, Result.andThen_ok, Sem.run_pure]
          simp [hck, hfind, run_zeroP hz]
        · simp only [Instr.lookup, Sem.run_bind, run_underlying hd, Result.andThen_ok, hget]
          simp [hck, hfind, run_zeroP hz]
      have hvr := VR.closed (r := r) u (zeroP_info hz).2
      cases ok with
      | true => cases h; exact ⟨_, hfin, .tuple (.cons hvr (.cons (.bool _) .nil))⟩
      | false => cases h; exact ⟨_, hfin, hvr⟩
    | some j =>
      rw [Option.bind_eq_some_iff] at hu; obtain ⟨e, he, hu⟩ := hu
      cases hu
      have hfind : ∃ e', es'[j]? = some e' ∧ (Instr.findKey kt k' es').run P w = .ok (some (j, e'.val)) w := hfind
      obtain ⟨e', he', hfind⟩ := hfind
      obtain ⟨e2, h2, _, _, hvr, _⟩ := hE.at_ j e' he'
      rw [he] at h2
      cases h2
      have hfin : (Instr.lookup t m' k' ok).run P w = .ok (if ok then .tuple #[e'.val, .bool true] else e'.val) w := by
        rcases hm' with ⟨rfl, rfl⟩ | ⟨b, c, rfl, hget⟩
        · simp at he'
        · simp only [Instr.lookup, Sem.run_bind, run_underlying hd, Result.andThen_ok, hget]
          simp [hck, hfind]
      cases ok with
      | true => cases h; exact ⟨_, hfin, .tuple (.cons hvr (.cons (.bool _) .nil))⟩
      | false => cases h; exact ⟨_, hfin, hvr⟩
  unfold entries at hes
  split at hes
  · cases hes
    cases hm
    exact fin [] .nil (.inl ⟨rfl, rfl⟩)
  · rw [Option.bind_eq_some_iff] at hes; obtain ⟨⟨es0, c⟩, hmp, hes⟩ := hes
    cases hes
    obtain ⟨hg, b, kk, es', hr, hE, hb⟩ := map_at hR hmp
    cases hm with
    | map hr2 =>
    rw [hr] at hr2
    cases hr2
    exact fin es' hE (.inr ⟨b, c, rfl, getObj_run (P := P) hb (fun _ _ _ h => by cases h)⟩)
  · cases hes
theorem mapUpdate_ok {t : TypeId} {m k x m' k' x' : Value} {st' : St} (hR : Rel G r st w) (h : mapUpdateP P t m k x st = some st') (hm : VR r m m') (hk : VR r k k') (hx : VR r x x') :
    ∃ w', (Instr.mapUpdate t m' k' x').run P w = .ok () w' ∧ Step G r st w r st' w' := by
  unfold mapUpdateP at h
  split at h
  case h_2 => cases h
  rename_i i
  rw [Option.bind_eq_some_iff] at h; obtain ⟨⟨kt, elem⟩, hd, h⟩ := h
  have hd := mapDesc_ok hd
  rw [Option.bind_eq_some_iff] at h; obtain ⟨⟨es, c⟩, hmp, h⟩ := h
  rw [Option.bind_eq_some_iff] at h; obtain ⟨y, hy, h⟩ := h
  obtain ⟨hg, b, kk, es', hr, hE, hb⟩ := map_at hR hmp
  cases hm with
  | map hr2 =>
  rw [hr] at hr2
  cases hr2
  have hget := getObj_run (P := P) hb (fun _ _ _ h => by cases h)
  obtain ⟨hc, rfl, hck, hfind⟩ := find_ok hE hk hy w
  cases y with
  | none =>
    cases h
    obtain ⟨h1, h2⟩ := map_turn (P := P) (c2 := c + 1) hR hg hr hb (hE.append (.cons hc hx .nil (n := c)))
    refine ⟨_, ?_, h2⟩
    simp only [Instr.mapUpdate, Sem.run_bind, run_underlying hd, Result.andThen_ok, hget, hck, hfind]
    simpa using h1
  | some j =>
    dsimp only at h
    rw [Option.bind_eq_some_iff] at h; obtain ⟨e, he, h⟩ := h
    rw [Option.bind_eq_some_iff] at h; obtain ⟨k2, hk2, h⟩ := h
    cases h
    obtain ⟨e', he', hfind⟩ := hfind
    obtain ⟨e2, hh, _, hkey, hv, hborn⟩ := hE.at_ j e' he'
    rw [he] at hh
    cases hh
    unfold stays at hk2
    rw [Option.bind_eq_some_iff] at hk2; obtain ⟨k3, hk3, hk2⟩ := hk2
    obtain ⟨hcl, hk2⟩ := cond_none hk2
    cases hk2
    have hst := pureRun_ok hk3 w
    obtain ⟨h1, h2⟩ := map_turn (P := P) (c2 := c) hR hg hr hb (hE.set hcl hx j e e' he he')
    refine ⟨_, ?_, h2⟩
    simp only [Instr.mapUpdate, Sem.run_bind, run_underlying hd, Result.andThen_ok, hget, hck, hfind]
    simp only [List.getElem?_toArray, he', Option.map_some, Option.getD_some, hkey, hst, Result.andThen_ok]
    simpa using h1
theorem delete_ok {ts : List TypeId} {ty : TypeId} {m k m' k' v : Value} {st' : St} (hR : Rel G r st w) (h : deleteP P ts m k st = some (v, st')) (hm : VR r m m') (hk : VR r k k') :
    ∃ r' w' v', (Builtin.delete_ ts.toArray ty #[m', k']).run P w = .ok v' w' ∧ VR r' v v' ∧ Step G r st w r' st' w' := by
  unfold deleteP at h
  split at h
  case h_2 => cases h
  rename_i t tl i
  rw [Option.bind_eq_some_iff] at h; obtain ⟨⟨kt, elem⟩, hd, h⟩ := h
  have hd := mapDesc_ok hd
  rw [Option.bind_eq_some_iff] at h; obtain ⟨⟨es, c⟩, hmp, h⟩ := h
  rw [Option.bind_eq_some_iff] at h; obtain ⟨y, hy, h⟩ := h
  obtain ⟨hg, b, kk, es', hr, hE, hb⟩ := map_at hR hmp
  cases hm with
  | map hr2 =>
  rw [hr] at hr2
  cases hr2
  have hget := getObj_run (P := P) hb (fun _ _ _ h => by cases h)
  obtain ⟨hc, rfl, hck, hfind⟩ := find_ok hE hk hy w
  rw [nilL_ok hE] at hck
  cases y with
  | none =>
    have hfind : (Instr.findKey kt k' es').run P w = .ok none w := hfind
    cases h
    obtain ⟨h1, h2⟩ := map_turn (P := P) (c2 := c) hR hg hr hb hE
    refine ⟨r, _, .tuple #[], ?_, .tuple .nil, h2⟩
    simp only [Builtin.delete_, List.getElem?_toArray, List.getElem?_cons_zero, Sem.run_bind, run_underlying hd, Result.andThen_ok, hget]
    simp [run_underlying hd, hget, hck, hfind, h1]
  | some j =>
    cases h
    obtain ⟨e', he', hfind⟩ := hfind
    obtain ⟨h1, h2⟩ := map_turn (P := P) (c2 := c) hR hg hr hb (hE.erase j)
    refine ⟨r, _, .tuple #[], ?_, .tuple .nil, h2⟩
    simp only [Builtin.delete_, List.getElem?_toArray, List.getElem?_cons_zero, Sem.run_bind, run_underlying hd, Result.andThen_ok, hget]
    simp [run_underlying hd, hget, hck, hfind, h1]
theorem ER.filter {l : List (Value × Value × Nat)} {l' : List MapEntry} (h : ER r l l') (p : Nat → Bool) : ER r (l.filter fun e => p e.2.2) (l'.filter fun e => p e.born) := by
  induction h with
  | nil => exact .nil
  | @cons k v v' n l l' hk hv hl ih =>
    simp only [List.filter_cons]
    cases p n with
    | false => exact ih
    | true => exact .cons hk hv ih
theorem ER.all {l : List (Value × Value × Nat)} {l' : List MapEntry} (h : ER r l l') (p : Nat → Bool) : l'.all (fun e => p e.born) = l.all (fun e => p e.2.2) := by
  induction h with
  | nil => rfl
  | cons hk hv hl ih => simp only [List.all_cons, ih]
theorem rangeM_ok {t : TypeId} {x x' v : Value} {st' : St} (hR : Rel G r st w) (hf : ∀ i, st.n ≤ i → i < st'.n → r i = none) (h : rangeMP P t x st = some (v, st')) (hx : VR r x x') :
    ∃ r' w' v', (Instr.range t x').run P w = .ok v' w' ∧ VR r' v v' ∧ Step G r st w r' st' w' := by
  unfold rangeMP at h
  rw [Option.bind_eq_some_iff] at h; obtain ⟨d, hd, h⟩ := h
  split at h
  · cases h
    cases hx
    refine ⟨r.set st.n (w.heap.size, 0), w.alloc (.mapIter none 0 #[] 0), .pointer (some ⟨w.heap.size, 0, none⟩), ?_, .ptr 0 none (set_new _ _ _), ?_⟩
    · simp only [Instr.range, Sem.run_bind, run_underlying hd, Result.andThen_ok, Sem.run_pure, newObj, Sem.run]
      rfl
    · exact Step.alloc hR (hf _ (Nat.le_refl _) (by simp [St.new])) (fun r' hr' => ⟨none, .none, heap_alloc_new w _⟩) (fun b hb => Below.heap_alloc _ _ _ hb) (by simp) rfl rfl rfl
  · rename_i i
    rw [Option.bind_eq_some_iff] at h; obtain ⟨⟨es, c⟩, hmp, h⟩ := h
    cases h
    obtain ⟨hg, b, kk, es', hr, hE, hb⟩ := map_at hR hmp
    cases hx with
    | map hr2 =>
    rw [hr] at hr2
    cases hr2
    have hget := getObj_run (P := P) hb (fun _ _ _ h => by cases h)
    refine ⟨r.set st.n (w.heap.size, 0), w.alloc (.mapIter (some b) c #[] c), .pointer (some ⟨w.heap.size, 0, none⟩), ?_, .ptr 0 none (set_new _ _ _), ?_⟩
    · simp only [Instr.range, Sem.run_bind, run_underlying hd, Result.andThen_ok, Sem.run_pure, newObj, hget]
      simp only [Sem.run]
      rfl
    · exact Step.alloc hR (hf _ (Nat.le_refl _) (by simp [St.new])) (fun r' hr' => ⟨some b, .some (hr' _ _ hr), heap_alloc_new w _⟩) (fun b hb => Below.heap_alloc _ _ _ hb) (by simp) rfl rfl rfl
  · cases h
theorem next_ok {it it' v : Value} {s : Bool} {ty : TypeId} {st' : St} (hR : Rel G r st w) (h : nextP it s st = some (v, st')) (hx : VR r it it') :
    ∃ r' w' v', (Instr.next it' s ty).run P w = .ok v' w' ∧ VR r' v v' ∧ Step G r st w r' st' w' := by
  cases s with
  | true => exact nextS_ok hR h hx
  | false =>
  unfold nextP nextMP at h
  dsimp only at h
  split at h
  case h_2 => cases h
  rename_i i
  rw [Option.bind_eq_some_iff] at h; obtain ⟨o, ho, h⟩ := h
  split at h
  case h_2 => cases h
  rename_i m since seen last
  cases hx with
  | ptr _ _ hr =>
  rename_i b k
  obtain ⟨b2, k2, hr2, m', hm, hob⟩ := hR.obj i _ ho
  rw [hr] at hr2
  cases hr2
  have hget := getObj_run (P := P) hob (fun _ _ _ h => by cases h)
  split at h
  · cases h
    cases hm
    exact ⟨r, w, .tuple #[.bool false], by simp [Instr.next, hget], .tuple (.cons (.bool _) .nil), Step.refl hR⟩
  · rename_i j
    rw [Option.bind_eq_some_iff] at h; obtain ⟨⟨es, clock⟩, hmp, h⟩ := h
    dsimp only at h
    obtain ⟨hg, bm, kk, es', hrm, hE, hb⟩ := map_at hR hmp
    cases hm with
    | some hm2 =>
    rw [hrm] at hm2
    cases hm2
    have hgetm := getObj_run (P := P) hb (fun _ _ _ h => by cases h)
    rw [cond_eq_ite] at h
    split at h
    case isTrue => cases h
    rename_i hguard
    have hguard' : ¬ ((!seen.toArray.isEmpty && !es'.toArray.isEmpty && es'.toArray.all (fun e => decide (e.born ≥ last))) = true) := by
      intro hh
      apply hguard
      have e1 : seen.toArray.isEmpty = nilL seen := by cases seen <;> simp [nilL]
      have e2 : es'.toArray.isEmpty = nilL es := by
        have := hE.length
        cases es <;> cases es' <;> simp [nilL] at this ⊢
      have e3 : es'.toArray.all (fun e => decide (e.born ≥ last)) = es.all (fun e => Nat.ble last e.2.2) := by
        rw [List.all_toArray, ← hE.all (fun n => Nat.ble last n)]
        congr 1
        funext e
        by_cases hq : last ≤ e.born
        · rw [Nat.ble_eq_true_of_le hq, decide_eq_true hq]
        · rw [decide_eq_false hq]
          cases hbq : Nat.ble last e.born with
          | false => rfl
          | true => exact absurd (Nat.le_of_ble_eq_true hbq) hq
      rw [e1, e2, e3, Bool.and_assoc] at hh
      exact hh
    have hF := hE.filter (fun n => !(seen.contains n))
    have hleft : es'.toArray.filter (fun e => !(seen.toArray.contains e.born)) = (es'.filter (fun e => !(seen.contains e.born))).toArray := by
      simp
    generalize hl : es.filter (fun e => !(seen.contains e.2.2)) = left at h hF
    generalize hl' : es'.filter (fun e => !(seen.contains e.born)) = left' at hF hleft
    split at h
    · cases h
      cases hF
      refine ⟨r, w, .tuple #[.bool false], ?_, .tuple (.cons (.bool _) .nil), Step.refl hR⟩
      unfold Instr.next
      simp only [Sem.run_bind, hget, hgetm, Result.andThen_ok, if_neg hguard', hleft]
      simp [choose, Sem.run, Question.forced]
    · rename_i e
      obtain ⟨hlt, h⟩ := cond_none h
      cases h
      have hlt := blt_lt hlt
      cases hF with
      | @cons k0 v0 v0' n0 l l' hk hv hl0 =>
      cases hl0
      dsimp only at hlt
      have hnl : ¬ since ≤ n0 := by omega
      have hset := setObj_run (P := P) (o' := .mapIter (some bm) since (seen ++ [n0]).toArray clock) hob (fun _ _ _ h => by cases h)
      refine ⟨r, w.putObj b (.mapIter (some bm) since (seen ++ [n0]).toArray clock), .tuple #[.bool true, k0, v0'], ?_, .tuple (.cons (.bool _) (.cons (VR.closed _ hk) (.cons hv .nil))),
        Step.turn hR ho hr ⟨some bm, .some hrm, ?_⟩ (fun c hc => World.putObj_heap_other hc) (by simp) rfl rfl rfl⟩
      · unfold Instr.next
        simp only [Sem.run_bind, hget, hgetm, Result.andThen_ok, if_neg hguard', hleft]
        simp [choose, Sem.run, Question.forced, hlt, hnl, hset]
      · rw [World.putObj_heap_same (Array.getElem?_eq_some_iff.1 hob).1]
    · cases h
theorem choose_map (w : World) (n : Nat) (hn : 0 < n) : ∃ i d, i < n ∧ (choose (.mapNext n)).run P w = .ok i { w with drawn := d } := by
  by_cases h : n ≤ 1
  · exact ⟨0, w.drawn, hn, by simp [choose, Sem.run, Question.forced, h]⟩
  · exact ⟨_, w.drawn + 1, Nat.mod_lt (w.tape w.drawn (.mapNext n)) hn, by simp [choose, Sem.run, Question.forced, h, Question.cut]⟩
theorem ER.born {l : List (Value × Value × Nat)} {l' : List MapEntry} (h : ER r l l') {c : Nat} (ha : l.all (fun e => Nat.blt e.2.2 c) = true) : ∀ e ∈ l', e.born < c := by
  intro e he
  have h1 := h.all (fun n => Nat.blt n c)
  rw [ha] at h1
  exact blt_lt (List.all_eq_true.1 h1 e he)
theorem nextN_ok {it it' : Value} {ty : TypeId} {L : List (Value × St)} (hR : Rel G r st w) (h : nextMN it st = some L) (hx : VR r it it') :
    ∃ x ∈ L, ∃ r' w' v', (Instr.next it' false ty).run P w = .ok v' w' ∧ VR r' x.1 v' ∧ Step G r st w r' x.2 w' := by
  unfold nextMN at h
  split at h
  case h_2 => cases h
  rename_i i
  rw [Option.bind_eq_some_iff] at h; obtain ⟨o, ho, h⟩ := h
  split at h
  case h_2 => cases h
  rename_i m since seen last
  cases hx with
  | ptr _ _ hr =>
  rename_i b k
  obtain ⟨b2, k2, hr2, m', hm, hob⟩ := hR.obj i _ ho
  rw [hr] at hr2
  cases hr2
  have hget := getObj_run (P := P) hob (fun _ _ _ h => by cases h)
  split at h
  · cases h
    cases hm
    exact ⟨_, List.mem_singleton.2 rfl, r, w, .tuple #[.bool false], by simp [Instr.next, hget], .tuple (.cons (.bool _) .nil), Step.refl hR⟩
  · rename_i j
    rw [Option.bind_eq_some_iff] at h; obtain ⟨⟨es, clock⟩, hmp, h⟩ := h
    dsimp only at h
    obtain ⟨hg, bm, kk, es', hrm, hE, hb⟩ := map_at hR hmp
    cases hm with
    | some hm2 =>
    rw [hrm] at hm2
    cases hm2
    have hgetm := getObj_run (P := P) hb (fun _ _ _ h => by cases h)
    rw [cond_eq_ite] at h
    split at h
    case isTrue => cases h
    rename_i hguard
    have hguard' : ¬ ((!seen.toArray.isEmpty && !es'.toArray.isEmpty && es'.toArray.all (fun e => decide (e.born ≥ last))) = true) := by
      intro hh
      apply hguard
      have e1 : seen.toArray.isEmpty = nilL seen := by cases seen <;> simp [nilL]
      have e2 : es'.toArray.isEmpty = nilL es := by
        have := hE.length
        cases es <;> cases es' <;> simp [nilL] at this ⊢
      have e3 : es'.toArray.all (fun e => decide (e.born ≥ last)) = es.all (fun e => Nat.ble last e.2.2) := by
        rw [List.all_toArray, ← hE.all (fun n => Nat.ble last n)]
        congr 1
        funext e
        by_cases hq : last ≤ e.born
        · rw [Nat.ble_eq_true_of_le hq, decide_eq_true hq]
        · rw [decide_eq_false hq]
          cases hbq : Nat.ble last e.born with
          | false => rfl
          | true => exact absurd (Nat.le_of_ble_eq_true hbq) hq
      rw [e1, e2, e3, Bool.and_assoc] at hh
      exact hh
    have hF := hE.filter (fun n => !(seen.contains n))
    have hleft : es'.toArray.filter (fun e => !(seen.toArray.contains e.born)) = (es'.filter (fun e => !(seen.contains e.born))).toArray := by
      simp
    generalize hl : es.filter (fun e => !(seen.contains e.2.2)) = left at h hF
    generalize hl' : es'.filter (fun e => !(seen.contains e.born)) = left' at hF hleft
    cases left with
    | nil =>
      cases h
      cases hF
      refine ⟨_, List.mem_singleton.2 rfl, r, w, .tuple #[.bool false], ?_, .tuple (.cons (.bool _) .nil), Step.refl hR⟩
      unfold Instr.next
      simp only [Sem.run_bind, hget, hgetm, Result.andThen_ok, if_neg hguard', hleft]
      simp [choose, Sem.run, Question.forced]
    | cons e0 rest =>
      obtain ⟨hall, h⟩ := cond_none h
      cases h
      have hlen := hF.length
      have hborn := hF.born hall
      have hpos : 0 < left'.length := by rw [hlen]; simp
      have hold : left'.toArray.filter (fun e => decide (e.born < since)) = left'.toArray := by
        rw [Array.filter_eq_self]
        intro e he
        exact decide_eq_true (hborn e (by simpa using he))
      have hnew : left'.toArray.filter (fun e => decide (e.born ≥ since)) = #[] := by
        rw [Array.filter_eq_empty_iff]
        intro e he hh
        have h1 := hborn e (by simpa using he)
        have h2 := of_decide_eq_true hh
        omega
      have hne : left'.toArray.isEmpty = false := by cases left' <;> simp at hpos ⊢
      obtain ⟨q, d, hq, hch⟩ := choose_map (P := P) w left'.length hpos
      obtain ⟨e1, he1, hk1, hk2, hv1, hb1⟩ := hF.at_ q _ (List.getElem?_eq_getElem hq)
      have hset := setObj_run (P := P) (w := { w with drawn := d }) (o' := .mapIter (some bm) since (seen ++ [e1.2.2]).toArray clock) hob (fun _ _ _ h => by cases h)
      refine ⟨_, List.mem_map.2 ⟨e1, List.mem_of_getElem? he1, rfl⟩, r, ({ w with drawn := d } : World).putObj b (.mapIter (some bm) since (seen ++ [e1.2.2]).toArray clock), .tuple #[.bool true, e1.1, left'[q].val], ?_, .tuple (.cons (.bool _) (.cons (VR.closed _ hk1) (.cons hv1 .nil))),
        (Step.drawn (n := d) hR).trans (Step.turn hR.drawn ho hr ⟨some bm, .some hrm, ?_⟩ (fun c hc => World.putObj_heap_other hc) (by simp) rfl rfl rfl)⟩
      · unfold Instr.next
        simp only [Sem.run_bind, hget, hgetm, Result.andThen_ok, if_neg hguard', hleft, hold, hnew]
        have hcs : ((if left'.toArray.isEmpty = true then #[none] else #[]) ++ Array.map some (left'.toArray ++ #[])) = (left'.map some).toArray := by simp [hne]
        rw [hcs]
        simp only [List.size_toArray, List.length_map, hch, Result.andThen_ok]
        have hat : (left'.map some).toArray[q]? = some (some left'[q]) := by simp [hq]
        rw [hat]
        simp only [Sem.run_bind]
        rw [show seen.toArray.push left'[q].born = (seen ++ [e1.2.2]).toArray by rw [hb1]; simp, hset, hk2]
        simp
      · exact World.putObj_heap_same (w := { w with drawn := d }) (Array.getElem?_eq_some_iff.1 hob).1
theorem ER.find {l : List (Value × Value × Nat)} {l' : List MapEntry} (h : ER r l l') (p : Nat → Bool) {e : Value × Value × Nat} (hf : l.find? (fun e => p e.2.2) = some e) :
    ∃ e' : MapEntry, l'.find? (fun e => p e.born) = some e' ∧ closedV e.1 = true ∧ e'.key = e.1 ∧ VR r e.2.1 e'.val := by
  induction h with
  | nil => cases hf
  | @cons k v v' n l l' hk hv hl ih =>
    simp only [List.find?_cons] at hf ⊢
    cases hp : p n with
    | true =>
      rw [hp] at hf
      cases hf
      exact ⟨_, rfl, hk, rfl, hv⟩
    | false =>
      rw [hp] at hf
      exact ih hf
theorem entry_ok {it it' v : Value} (hR : Rel G r st w) (h : entryP it st = some v) (hx : VR r it it') :
    ∃ v', (Instr.entry it').run P w = .ok v' w ∧ VR r v v' := by
  unfold entryP at h
  split at h
  case h_2 => cases h
  rename_i i
  rw [Option.bind_eq_some_iff] at h; obtain ⟨o, ho, h⟩ := h
  split at h
  case h_2 => cases h
  rename_i j since seen last
  rw [Option.bind_eq_some_iff] at h; obtain ⟨stamp, hst, h⟩ := h
  rw [Option.bind_eq_some_iff] at h; obtain ⟨⟨es, clock⟩, hmp, h⟩ := h
  dsimp only at h
  obtain ⟨hcl, h2⟩ := cond_none h
  have hcl := Nat.eq_of_beq_eq_true hcl
  subst hcl
  rw [Option.bind_eq_some_iff] at h2; obtain ⟨e, he, h2⟩ := h2
  cases h2
  cases hx with
  | ptr _ _ hr =>
  rename_i b k
  obtain ⟨b2, k2, hr2, m', hm, hob⟩ := hR.obj i _ ho
  rw [hr] at hr2
  cases hr2
  have hget := getObj_run (P := P) hob (fun _ _ _ h => by cases h)
  obtain ⟨hg, bm, kk, es', hrm, hE, hb⟩ := map_at hR hmp
  cases hm with
  | some hm2 =>
  rw [hrm] at hm2
  cases hm2
  have hgetm := getObj_run (P := P) hb (fun _ _ _ h => by cases h)
  obtain ⟨e', hf, hk, hk2, hv⟩ := hE.find (fun n => Nat.beq n stamp) he
  have hback : seen.toArray.back? = some stamp := by simpa using hst
  have hfind : es'.toArray.find? (fun e => e.born == stamp) = some e' := by
    rw [List.find?_toArray, ← hf]
    congr 1
    funext e
    rw [beq_dec]
    by_cases hq : e.born = stamp <;> simp [hq]
  refine ⟨.tuple #[e'.key, e'.val], ?_, .tuple (.cons (by rw [hk2]; exact VR.closed _ hk) (.cons hv .nil))⟩
  unfold Instr.entry
  simp [hget, hgetm, hback, hfind]
end Ev
end
end Go.Proofs.YtcnbgdplkobenaaGreatDoor
