/- append, copy, bytes to a string, on marks, and what the model makes of them. No program is named here. -/
import Derived.Test.YtgafkphhnlifiaaEv3
import Derived.Laws.AppendOwn
import Derived.Lib.AppendStr
namespace Go.Proofs.Ytgafkphhnlifiaa
namespace Ev
set_option linter.unusedVariables false
set_option linter.unusedSimpArgs false
open Go.RowKit
variable {P : Program} {G : Cx} {r : Ren} {st : St} {w : World}

theorem len_ok {x x' : Value} {n : Nat} (h : lenP x = some n) (hx : VR r x x') (w : World) : (Builtin.lenOf x').run P w = .ok n w := by
  cases hx <;> simp [lenP] at h <;> subst h <;> first | rfl | simp [Builtin.lenOf, ByteArray.size]
theorem first_ok {x x' : Value} {size n : Nat} {l : List Value} (hR : Rel G r st w) (h : firstP size n x st = some l) (hx : VR r x x') :
    ∃ l', (Builtin.firstCells size n x').run P w = .ok l'.toArray w ∧ LR r l l' := by
  unfold firstP at h
  split at h
  · rename_i i off nn cc
    obtain ⟨⟨cs, T, m⟩, hc, h⟩ := Option.bind_eq_some_iff.1 h
    obtain ⟨hgi, b, k, hr, cs', rest, fz, hl, hb, _⟩ := hR.cells hc
    obtain ⟨hl2, hle, hlen⟩ := hl.sub h
    have hll := hl.length
    have hl' : ((cs'.drop off).take (n * size)).length = n * size := by simp; omega
    have hh : ∀ j v, ((cs'.drop off).take (n * size))[j]? = some v → w.cell? ((⟨b, off, none⟩ : Addr).add j) = some v := by
      intro j v hj
      rw [Addr.add_lit, cell_row hb]
      rw [List.getElem?_take] at hj
      split at hj
      · rw [List.getElem?_drop] at hj
        rw [List.getElem?_append_left (List.getElem?_eq_some_iff.1 hj).1]
        exact hj
      · cases hj
    cases hx with
    | slice _ _ _ hr2 _ => rw [hr] at hr2; cases hr2; exact ⟨_, run_firstCells_some w size n _ _ _ _ hl' hh, hl2⟩
    | sliceBig _ _ _ hr2 _ => rw [hr] at hr2; cases hr2; exact ⟨_, run_firstCells_some w size n _ _ _ _ hl' hh, hl2⟩
  · obtain ⟨hn, h⟩ := cond_none h
    cases h
    cases hx
    exact ⟨[], run_firstCells_none w _ _ _ _, .nil⟩
  · obtain ⟨hn, h⟩ := cond_none h
    cases h
    have hn := Nat.eq_of_beq_eq_true hn
    subst hn
    cases hx with
    | sliceEnd _ _ _ _ _ => exact ⟨[], run_firstCells_some w size 0 _ _ _ _ (by simp) (by simp), .nil⟩
  · rename_i s
    obtain ⟨hn, h⟩ := cond_none h
    cases h
    cases hx
    simp only [Bool.and_eq_true] at hn
    have e1 := Nat.eq_of_beq_eq_true hn.1
    have e2 := Nat.eq_of_beq_eq_true hn.2
    subst e1
    have e3 : n = s.size := by rw [e2, Array.length_toList]; rfl
    subst e3
    have := Lib.run_firstCells_string (P := P) w 1 s
    refine ⟨_, this, ?_⟩
    unfold Lib.strCells
    generalize s.data.toList = l
    induction l with
    | nil => exact .nil
    | cons b l ih => exact .cons (.int _ _) ih
  · cases h

theorem zeros_get (l : List Value) : ∀ n i, (zeros l n)[i]? = if i < n * l.length then l[i % l.length]? else none
  | 0, i => by simp [zeros]
  | n + 1, i => by
    rw [zeros]
    by_cases h : i < l.length
    · rw [List.getElem?_append_left h, Nat.mod_eq_of_lt h, if_pos (by rw [Nat.add_mul]; omega)]
    · rw [List.getElem?_append_right (by omega), zeros_get l n, Nat.add_mul, Nat.one_mul, ← Nat.mod_eq_sub_mod (by omega)]
      by_cases h2 : i - l.length < n * l.length
      · rw [if_pos h2, if_pos (by omega)]
      · rw [if_neg h2, if_neg (by omega)]
theorem zeros_eq (z : Array Value) (n : Nat) : (Array.range (n * z.size)).map (fun i => z[i % z.size]!) = (zeros z.toList n).toArray := by
  apply Array.toList_inj.1
  apply List.ext_getElem?
  intro i
  rw [List.toList_toArray, zeros_get, Array.length_toList]
  by_cases h : i < n * z.size
  · have hz : 0 < z.size := by
      rcases Nat.eq_zero_or_pos z.size with h0 | h0
      · rw [h0] at h; simp at h
      · exact h0
    have hm : i % z.size < z.size := Nat.mod_lt _ hz
    simp [h, getElem!_pos, hm]
  · simp [h]
theorem LR.self {l : List Value} (h : closedL l = true) : LR r l l := LR.closed l h
theorem closed_cells {z : Value} (h : closedV z = true) : LR r z.cells.toList z.cells.toList := (VR.closed z h).cells
theorem LR.zeros {l : List Value} (h : LR r l l) : ∀ n, LR r (zeros l n) (Ev.zeros l n)
  | 0 => .nil
  | n + 1 => h.append (LR.zeros h n)
theorem notInt (dx : TypeDesc) : isIntD dx = false → (dx matches .int _) = false := by cases dx <;> first | (intro _; rfl) | (intro h; cases h)
set_option maxHeartbeats 4000000 in
theorem append_room_run {t tx elem : TypeId} {dx : TypeDesc} {i : TypeInfo} {l : List TypeId} {ty : TypeId} {base : Option Addr} {sLen sCap n : Nat} {x' : Value} {new : Array Value} (ht : P.underlying t = some (.slice elem))
    (hx : P.underlying tx = some dx) (hd : isIntD dx = false) (hi : P.info? elem = some i) (hlen : (Builtin.lenOf x').run P w = .ok n w) (hfirst : (Builtin.firstCells i.size n x').run P w = .ok new w) (hroom : sLen + n ≤ sCap) :
    (Builtin.append_ ⟨t :: tx :: l⟩ ty #[.slice base sLen sCap, x']).run P w =
      ((match base with | some a => storeCells (a.add (sLen * i.size)) new.toList | none => pure ()).run P w).andThen fun _ w' => .ok (.slice base (sLen + n) sCap) w' := by
  have hu := run_underlying ht w
  have hu2 := run_underlying hx w
  have hs : (sizeOf elem).run P w = .ok i.size w := by simp [sizeOf, typeInfo, hi]
  unfold Builtin.append_
  simp only [List.getElem?_toArray, List.getElem?_cons_zero, List.getElem?_cons_succ, Sem.run_bind, hu, hu2, hs, Result.andThen_ok, Sem.run_pure]
  cases dx with
  | int k => cases hd
  | _ => cases base <;> simp [hlen, hfirst, hroom]
set_option maxHeartbeats 4000000 in
theorem append_grow_run {t tx elem : TypeId} {dx : TypeDesc} {i : TypeInfo} {z : Value} {l : List TypeId} {ty : TypeId} {base : Option Addr} {sLen sCap n : Nat} {x' : Value} {old new : Array Value} (ht : P.underlying t = some (.slice elem))
    (hx : P.underlying tx = some dx) (hd : isIntD dx = false) (hi : P.info? elem = some i) (hz : i.zero = some z) (hlen : (Builtin.lenOf x').run P w = .ok n w) (hold : (Builtin.firstCells i.size sLen (.slice base sLen sCap)).run P w.drew = .ok old w.drew)
    (hfirst : (Builtin.firstCells i.size n x').run P w.drew = .ok new w.drew) (hroom : ¬ sLen + n ≤ sCap) (h63 : sLen + n ≤ 9223372036854775807) (hfit : Builtin.nextslicecap (sLen + n) sCap * i.bytes ≤ 281474976710656) :
    (Builtin.append_ ⟨t :: tx :: l⟩ ty #[.slice base sLen sCap, x']).run P w =
      .ok (.slice (some ⟨w.heap.size, 0, none⟩) (sLen + n) (grownCap w (sLen + n) sCap elem)) (w.drew.alloc (.cells (old ++ new ++ Builtin.zeroCells z.cells (grownCap w (sLen + n) sCap elem - (sLen + n))) elem)) := by
  have h63' : ¬ (9223372036854775807 < ((sLen : Int) + (n : Int))) := by omega
  have h48' : ¬ (281474976710656 < Builtin.nextslicecap (sLen + n) sCap * i.bytes) := by omega
  have hu := run_underlying ht w
  have hu2 := run_underlying hx w
  have hs : (sizeOf elem).run P w = .ok i.size w := by simp [sizeOf, typeInfo, hi]
  unfold Builtin.append_
  simp only [List.getElem?_toArray, List.getElem?_cons_zero, List.getElem?_cons_succ, Sem.run_bind, hu, hu2, hs, Result.andThen_ok, Sem.run_pure]
  cases dx with
  | int k => cases hd
  | _ => simp [typeInfo, zeroValue, hi, hz, hlen, hroom, h63', h48', Question.forced, hold, hfirst, newRow, grownCap]

theorem wrap_small {n : Nat} (h : n ≤ 70368744177664) : IntKind.i64.wrap (n : Int) = (n : Int) := by
  simp [IntKind.wrap, IntKind.bits, IntKind.signed, Int.bmod]
  omega
set_option maxHeartbeats 4000000 in
theorem append_room_run0 {t tx elem : TypeId} {dx : TypeDesc} {i : TypeInfo} {z : Value} {l : List TypeId} {ty : TypeId} {base : Option Addr} {sLen sCap n : Nat} (ht : P.underlying t = some (.slice elem))
    (hx : P.underlying tx = some dx) (hd : isIntD dx = true) (hi : P.info? elem = some i) (hz : i.zero = some z) (hn : n ≤ 70368744177664) (hb : n * i.bytes ≤ 70368744177664) (hs0 : i.size ≠ 0) (hroom : sLen + n ≤ sCap) :
    (Builtin.append_ ⟨t :: tx :: l⟩ ty #[.slice base sLen sCap, .int .i64 (n : Int)]).run P w =
      ((match base with | some a => storeCells (a.add (sLen * i.size)) (zeros z.cells.toList n) | none => pure ()).run P w).andThen fun _ w' => .ok (.slice base (sLen + n) sCap) w' := by
  have hu := run_underlying ht w
  have hu2 := run_underlying hx w
  have hs : (sizeOf elem).run P w = .ok i.size w := by simp [sizeOf, typeInfo, hi]
  have hwr := wrap_small hn
  have hb' : ¬ (281474976710656 < (n : Int) * (i.bytes : Int)) := by
    rw [← Int.natCast_mul]
    generalize n * i.bytes = q at hb ⊢
    omega
  have hn0 : ¬ ((n : Int) < 0) := by omega
  unfold Builtin.append_
  simp only [List.getElem?_toArray, List.getElem?_cons_zero, List.getElem?_cons_succ, Sem.run_bind, hu, hu2, hs, Result.andThen_ok, Sem.run_pure]
  cases dx with
  | int k =>
    by_cases h0 : n = 0
    · subst h0
      cases base <;> simp [asInt, asIntOf, typeInfo, hi, zeros, hroom] <;> simp_all
    · have hne : ¬ (n = 0 ∨ i.size = 0) := by omega
      have hnm : ¬ (n * i.size = 0) := fun h => hne (Nat.mul_eq_zero.1 h)
      have hzc : Builtin.zeroCells z.cells n = (zeros z.cells.toList n).toArray := zeros_eq z.cells n
      cases base <;> simp [asInt, asIntOf, typeInfo, zeroValue, hi, hz, hwr, hb', hroom, hne, hzc, hn0, hnm]
  | _ => cases hd
set_option maxHeartbeats 4000000 in
theorem append_grow_run0 {t tx elem : TypeId} {dx : TypeDesc} {i : TypeInfo} {z : Value} {l : List TypeId} {ty : TypeId} {base : Option Addr} {sLen sCap n : Nat} {old : Array Value} (ht : P.underlying t = some (.slice elem))
    (hx : P.underlying tx = some dx) (hd : isIntD dx = true) (hi : P.info? elem = some i) (hz : i.zero = some z) (hn : n ≤ 70368744177664) (hb : n * i.bytes ≤ 70368744177664) (hs0 : i.size ≠ 0) (hold : (Builtin.firstCells i.size sLen (.slice base sLen sCap)).run P w.drew = .ok old w.drew)
    (hroom : ¬ sLen + n ≤ sCap) (hle : sLen ≤ sCap) (h63 : sLen + n ≤ 9223372036854775807) (hfit : Builtin.nextslicecap (sLen + n) sCap * i.bytes ≤ 281474976710656) :
    (Builtin.append_ ⟨t :: tx :: l⟩ ty #[.slice base sLen sCap, .int .i64 (n : Int)]).run P w =
      .ok (.slice (some ⟨w.heap.size, 0, none⟩) (sLen + n) (grownCap w (sLen + n) sCap elem)) (w.drew.alloc (.cells (old ++ (zeros z.cells.toList n).toArray ++ Builtin.zeroCells z.cells (grownCap w (sLen + n) sCap elem - (sLen + n))) elem)) := by
  have h63' : ¬ (9223372036854775807 < ((sLen : Int) + (n : Int))) := by omega
  have h48' : ¬ (281474976710656 < Builtin.nextslicecap (sLen + n) sCap * i.bytes) := by omega
  have hu := run_underlying ht w
  have hu2 := run_underlying hx w
  have hs : (sizeOf elem).run P w = .ok i.size w := by simp [sizeOf, typeInfo, hi]
  have hwr := wrap_small hn
  have hb' : ¬ (281474976710656 < (n : Int) * (i.bytes : Int)) := by
    rw [← Int.natCast_mul]
    generalize n * i.bytes = q at hb ⊢
    omega
  have hn0 : ¬ ((n : Int) < 0) := by omega
  unfold Builtin.append_
  simp only [List.getElem?_toArray, List.getElem?_cons_zero, List.getElem?_cons_succ, Sem.run_bind, hu, hu2, hs, Result.andThen_ok, Sem.run_pure]
  cases dx with
  | int k =>
    have hzc : Builtin.zeroCells z.cells n = (zeros z.cells.toList n).toArray := zeros_eq z.cells n
    by_cases h0 : n = 0
    · subst h0
      simp [asInt, asIntOf, typeInfo, zeroValue, hi, hz, hwr, hb', hroom, h63', h48', Question.forced, hold, newRow, grownCap, hn0, zeros] <;> simp_all
    · have hnm : ¬ (n * i.size = 0) := fun h => (show ¬ (n = 0 ∨ i.size = 0) by omega) (Nat.mul_eq_zero.1 h)
      simp [asInt, asIntOf, typeInfo, zeroValue, hi, hz, hwr, hb', hroom, h63', h48', Question.forced, hold, newRow, grownCap, hn0, hnm, hzc]
  | _ => cases hd
theorem new_run {t tx elem : TypeId} {dx : TypeDesc} {i : TypeInfo} {z x x' : Value} {l : List TypeId} {ty : TypeId} {n : Nat} {news : List Value} (hR : Rel G r st w) (ht : P.underlying t = some (.slice elem)) (hxd : P.underlying tx = some dx) (hi : P.info? elem = some i) (hz : i.zero = some z) (hzc : closedV z = true)
    (hs0 : i.size ≠ 0) (h : newP i.bytes i.size z dx x st = some (n, news)) (hx : VR r x x') :
    ∃ news' newsD, LR r news news' ∧ LR r news newsD ∧
      (∀ {base : Option Addr} {sLen sCap : Nat}, sLen + n ≤ sCap → (Builtin.append_ ⟨t :: tx :: l⟩ ty #[.slice base sLen sCap, x']).run P w =
        ((match base with | some a => storeCells (a.add (sLen * i.size)) news' | none => pure ()).run P w).andThen fun _ w' => .ok (.slice base (sLen + n) sCap) w') ∧
      (∀ {base : Option Addr} {sLen sCap : Nat} {old : Array Value}, (Builtin.firstCells i.size sLen (.slice base sLen sCap)).run P w.drew = .ok old w.drew → ¬ sLen + n ≤ sCap → sLen ≤ sCap → sLen + n ≤ 9223372036854775807 → Builtin.nextslicecap (sLen + n) sCap * i.bytes ≤ 281474976710656 →
        (Builtin.append_ ⟨t :: tx :: l⟩ ty #[.slice base sLen sCap, x']).run P w =
          .ok (.slice (some ⟨w.heap.size, 0, none⟩) (sLen + n) (grownCap w (sLen + n) sCap elem)) (w.drew.alloc (.cells (old ++ newsD.toArray ++ Builtin.zeroCells z.cells (grownCap w (sLen + n) sCap elem - (sLen + n))) elem))) := by
  unfold newP at h
  simp only [cond_eq_ite (b := isIntD dx)] at h
  split at h
  · rename_i hd
    split at h
    · rename_i q
      obtain ⟨hb, h1⟩ := cond_none h
      simp only [Bool.and_eq_true] at hb
      have hb1 := Nat.le_of_ble_eq_true hb.1
      have hb2 := Nat.le_of_ble_eq_true hb.2
      cases h1
      cases hx
      have hzr : LR r (zeros z.cells.toList n) (Ev.zeros z.cells.toList n) := LR.zeros (closed_cells hzc) n
      exact ⟨_, _, hzr, hzr, fun hroom => append_room_run0 ht hxd hd hi hz hb2 hb1 hs0 hroom, fun hold hroom hle h63 hfit => append_grow_run0 ht hxd hd hi hz hb2 hb1 hs0 hold hroom hle h63 hfit⟩
    · cases h
  · rename_i hd
    have hd : isIntD dx = false := by simpa using hd
    rw [Option.bind_eq_some_iff] at h; obtain ⟨n0, hlen, h⟩ := h
    rw [Option.bind_eq_some_iff] at h; obtain ⟨news0, hnews, h⟩ := h
    cases h
    have hl0 := fun w => len_ok (P := P) hlen hx w
    obtain ⟨news', hfirst, hnr⟩ := first_ok (P := P) hR hnews hx
    obtain ⟨newsD, hfirstD, hnrD⟩ := first_ok (P := P) (w := w.drew) hR.drawn hnews hx
    exact ⟨news', newsD, hnr, hnrD, fun hroom => append_room_run ht hxd hd hi (hl0 w) hfirst hroom, fun hold hroom hle h63 hfit => append_grow_run ht hxd hd hi hz (hl0 w) hold hfirstD hroom h63 hfit⟩

/-- A grown row: what was there, what is new, zeros. -/
theorem grown_objR {w : World} {olds news olds' news' : List Value} {elem : TypeId} {z : Value} {size need old : Nat} (hl : LR r (olds ++ news) (olds' ++ news')) (hlen : (olds' ++ news').length = need * size) (hz : z.cells.size = size)
    (h63 : need ≤ 9223372036854775807) (r' : Ren) (hr : r.le r') :
    objR r' (w.drew.alloc (.cells (olds'.toArray ++ news'.toArray ++ Builtin.zeroCells z.cells (grownCap w need old elem - need)) elem)) w.heap.size (grownCap w need old elem) (.cells (olds ++ news) elem (some size)) := by
  refine ⟨olds' ++ news', (Builtin.zeroCells z.cells (grownCap w need old elem - need)).toList, (0, 0), hl.mono hr, ?_, fzOk.zero _ _, ?_⟩
  · have := heap_alloc_new w.drew (.cells (olds'.toArray ++ news'.toArray ++ Builtin.zeroCells z.cells (grownCap w need old elem - need)) elem)
    refine Eq.trans this ?_
    congr 2
    apply Array.ext'
    simp
  · have h1 := grownCap_ge w need old elem
    have h2 := grownCap_le_maxLen w need old elem (by unfold maxLen; exact h63)
    refine ⟨?_, by unfold maxLen at h2; exact h2⟩
    have e : (Builtin.zeroCells z.cells (grownCap w need old elem - need)).toList.length = (grownCap w need old elem - need) * size := by rw [Array.length_toList, size_zeroCells, hz]
    rw [e, hlen, ← Nat.add_mul]
    congr 1
    omega

theorem Step.alloc_drew {G r st w k} {o : SObj} {ob : Obj} (hR : Rel G r st w) (hf : r st.n = none) (ho : ∀ r', r.le r' → objR r' (w.drew.alloc ob) w.heap.size k o) :
    Step G r st w (r.set st.n (w.heap.size, k)) (st.new o) (w.drew.alloc ob) :=
  Step.alloc hR hf ho (fun b hb => Below.heap_alloc w.drew _ _ hb) (by simp) rfl rfl rfl

set_option maxHeartbeats 1000000 in
theorem append_ok {ts : List TypeId} {ty : TypeId} {s x s' x' v : Value} {st' : St} (hR : Rel G r st w) (hf : ∀ i, st.n ≤ i → i < st'.n → r i = none) (h : appendP P ts s x st = some (v, st')) (hs : VR r s s') (hx : VR r x x') :
    ∃ r' w' v', (Builtin.append_ ts.toArray ty #[s', x']).run P w = .ok v' w' ∧ VR r' v v' ∧ Step G r st w r' st' w' := by
  unfold appendP at h
  split at h
  case h_2 => cases h
  rename_i t tx tl
  rw [Option.bind_eq_some_iff] at h; obtain ⟨d, ht, h⟩ := h
  rw [Option.bind_eq_some_iff] at h; obtain ⟨dx, htx, h⟩ := h
  obtain ⟨elem, rfl⟩ : ∃ elem, d = .slice elem := by
    cases d <;> first | exact ⟨_, rfl⟩ | cases h
  dsimp only at h
  rw [Option.bind_eq_some_iff] at h; obtain ⟨i, hi, h⟩ := h
  rw [Option.bind_eq_some_iff] at h; obtain ⟨z, hz0, h⟩ := h
  rw [Option.bind_eq_some_iff] at h; obtain ⟨⟨n, news⟩, hnews, h⟩ := h
  dsimp only at h
  obtain ⟨⟨i', hi', hz⟩, hzc⟩ := zeroP_info hz0
  rw [hi] at hi'
  cases hi'
  simp only [cond_eq_ite] at h
  split at h
  · cases h
  rename_i hguard
  simp only [Bool.or_eq_true, Bool.not_eq_true', not_or, Bool.not_eq_true, Bool.not_eq_false] at hguard
  obtain ⟨⟨⟨hsz, hzs⟩, hone⟩, hnl⟩ := hguard
  have hsz := Nat.ne_of_beq_eq_false hsz
  have hzs := Nat.eq_of_beq_eq_true hzs
  have hnl := Nat.eq_of_beq_eq_true hnl
  have hpos : 0 < i.size := by omega
  obtain ⟨news', newsD, hnr, hnrD, hRoom, hGrow⟩ := new_run (l := tl) (ty := ty) hR ht htx hi hz hzc hsz hnews hx
  split at h
  · -- onto nil
    cases hs
    split at h
    · rename_i hn0
      have hn0 := Nat.eq_of_beq_eq_true hn0
      cases h
      refine ⟨r, w, .slice none 0 0, ?_, .sliceNil 0 0, Step.refl hR⟩
      rw [hRoom (by omega)]
      simp [hn0]
    · rename_i hn0
      have hn0 : n ≠ 0 := by rintro rfl; exact hn0 rfl
      split at h
      case isFalse => cases h
      rename_i hb
      simp only [Bool.and_eq_true] at hb
      have hb1 := Nat.le_of_ble_eq_true hb.1
      have hb2 := Nat.le_of_ble_eq_true hb.2
      cases h
      have hrun := hGrow (old := #[]) (base := none) (sLen := 0) (sCap := 0) (run_firstCells_none w.drew _ _ _ _) (by omega) (by omega) (by omega) (growslice_fits (by omega) (by rw [Nat.zero_add]; omega))
      rw [Nat.zero_add] at hrun
      refine ⟨_, _, _, hrun, ?_, Step.alloc_drew hR (hf _ (Nat.le_refl _) (by simp [St.new])) (fun r' hr' => grown_objR (olds := []) (olds' := []) hnrD (by have := hnrD.length; simp; omega) hzs (by omega) r' hr')⟩
      have := VR.sliceBig (r := r.set st.n (w.heap.size, grownCap w n 0 elem)) 0 n big (set_new _ _ _) (Nat.le_refl _)
      simpa using this
  · rename_i b off len cap
    rw [Option.bind_eq_some_iff] at h; obtain ⟨⟨cs, T, m⟩, hc, h⟩ := h
    obtain ⟨hgi, b', k, hr, hobj⟩ := hR.cells hc
    obtain ⟨cs', rest, fz, hl, hb, hfz, hm⟩ := hobj
    have hll := hl.length
    split at h
    · -- the room is not known
      rename_i hbig
      have hbig := Nat.le_of_ble_eq_true hbig
      split at h
      case isFalse => cases h
      rename_i hg
      simp only [Bool.and_eq_true] at hg
      obtain ⟨⟨⟨h1, h2⟩, h3⟩, h4⟩ := hg
      have h1 := Nat.eq_of_beq_eq_true h1
      have h2 := Nat.eq_of_beq_eq_true h2
      have h3 := Nat.le_of_ble_eq_true h3
      have h4 := Nat.eq_of_beq_eq_true h4
      subst h1 h2 h4
      obtain ⟨n', rfl⟩ : ∃ n', m = some n' := by
        cases m with
        | none => cases h
        | some x => exact ⟨x, rfl⟩
      dsimp only at h
      split at h
      case isFalse => cases h
      rename_i hn'
      have hn' := Nat.eq_of_beq_eq_true hn'
      subst hn'
      obtain ⟨hm1, hm2⟩ := hm
      have hlk : len ≤ k := by
        have : len * i.size ≤ k * i.size := by omega
        exact Nat.le_of_mul_le_mul_right this hpos
      cases hs with
      | slice _ _ _ _ hc => exact absurd hc (by omega)
      | sliceBig _ _ _ hr2 _ =>
      rw [hr] at hr2
      cases hr2
      simp only [Nat.sub_self, Nat.sub_zero]
      split at h
      · rename_i hn0
        have hn0 := Nat.eq_of_beq_eq_true hn0
        cases h
        have e : news' = [] := by have := hnr.length; rw [hnl, hn0] at this; simpa using this
        subst e
        refine ⟨r, w, .slice (some ⟨b', 0, none⟩) len k, ?_, ?_, Step.refl hR⟩
        · rw [hRoom (by omega)]
          simp [hn0, storeCells]
        · have := VR.sliceBig (r := r) 0 len big hr (Nat.le_refl _)
          simpa using this
      · rename_i hn0
        have hn0 : n ≠ 0 := by rintro rfl; exact hn0 rfl
        split at h
        case isFalse => cases h
        rename_i hbb
        simp only [Bool.and_eq_true] at hbb
        have hb1 := Nat.le_of_ble_eq_true hbb.1
        have hb2 := Nat.le_of_ble_eq_true hbb.2
        cases h
        have hfr : r st.n = none := hf _ (Nat.le_refl _) (by simp)
        have htl : LR r (cs.take (len * i.size)) (cs'.take (len * i.size)) := hl.take _
        by_cases hroom : len + n ≤ k
        · have hnlen := hnr.length
          have hmul : len * i.size + n * i.size ≤ k * i.size := by rw [← Nat.add_mul]; exact Nat.mul_le_mul_right _ hroom
          have hst := run_storeCells_atE P b' (len * i.size) T fz news' 0 (cs' ++ rest).toArray w hb (by simpa using hfz.or) (by simp; omega) (allOne_ok hnr hone)
          have hres : VR (r.set st.n (b', k)) (.slice (some ⟨st.n, 0, none⟩) (len + n) big) (.slice (some ⟨b', 0, none⟩) (len + n) k) := by
            have := VR.sliceBig (r := r.set st.n (b', k)) 0 (len + n) big (set_new _ _ _) (Nat.le_refl _)
            simpa using this
          refine ⟨r.set st.n (b', k), w.setRow b' ((cs' ++ rest).toArray.toList.take (len * i.size + 0) ++ news' ++ (cs' ++ rest).toArray.toList.drop (len * i.size + 0 + news'.length)).toArray, .slice (some ⟨b', 0, none⟩) (len + n) k, ?_, hres, Step.moved hR hgi hr hfr ?_ (.inl rfl) (fun c hcb _ => setRow_other w b' c _ hcb) (by simp) rfl rfl rfl⟩
          · rw [hRoom hroom]
            simp only [Addr.add_lit, Nat.zero_add]
            rw [hst]
            simp only [Result.andThen_ok]
          · intro r' hr'
            refine ⟨cs'.take (len * i.size) ++ news', (cs' ++ rest).drop (len * i.size + news'.length), fz, (htl.append hnr).mono hr', ?_, ?_, ?_, hm2⟩
            · rw [setRow_heap w b' _ _ T fz hb]
              have e : (cs' ++ rest).toArray.toList.take (len * i.size + 0) ++ news' ++ (cs' ++ rest).toArray.toList.drop (len * i.size + 0 + news'.length) = cs'.take (len * i.size) ++ news' ++ (cs' ++ rest).drop (len * i.size + news'.length) := by
                rw [List.toList_toArray, Nat.add_zero, List.take_append_of_le_length (by omega)]
              rw [e]
            · have e : (cs'.take (len * i.size) ++ news' ++ (cs' ++ rest).drop (len * i.size + news'.length)).length = (cs' ++ rest).length := by
                simp
                omega
              rw [e]
              exact hfz
            · simp
              omega
        · have hold : (Builtin.firstCells i.size len (.slice (some ⟨b', 0, none⟩) len k)).run P w.drew = .ok (cs'.take (len * i.size)).toArray w.drew := by
            refine run_firstCells_some w.drew i.size len _ _ _ _ (by simp; omega) ?_
            intro j u hj
            rw [List.getElem?_take] at hj
            split at hj
            · rw [Addr.add_lit, Nat.zero_add, cell_row (w := w.drew) (T := T) (fr := fz) hb, List.getElem?_append_left (List.getElem?_eq_some_iff.1 hj).1]
              exact hj
            · cases hj
          have hrun := hGrow hold hroom (by omega) (by omega) (growslice_fits (by omega) (by omega))
          have hres : VR (r.set st.n (w.heap.size, grownCap w (len + n) k T)) (.slice (some ⟨st.n, 0, none⟩) (len + n) big) (.slice (some ⟨w.heap.size, 0, none⟩) (len + n) (grownCap w (len + n) k T)) := by
            have := VR.sliceBig (r := r.set st.n (w.heap.size, grownCap w (len + n) k T)) 0 (len + n) big (set_new _ _ _) (Nat.le_refl _)
            simpa using this
          have hlenD := hnrD.length
          exact ⟨_, _, _, hrun, hres, Step.moved hR hgi hr hfr (fun r' hr' => grown_objR (htl.append hnrD) (by simp; rw [Nat.add_mul]; omega) hzs (by omega) r' hr') (.inr rfl) (fun c _ hc => Below.heap_alloc w.drew _ _ hc) (by simp) rfl rfl rfl⟩
    · rename_i hbig
      have hbig : cap < big := Nat.lt_of_not_le fun h => hbig (Nat.ble_eq_true_of_le h)
      cases hs with
      | sliceBig _ _ _ _ hc => exact absurd hc (by omega)
      | slice _ _ _ hr2 _ =>
      rw [hr] at hr2
      cases hr2
      split at h
      · rename_i hroom
        have hroom := Nat.le_of_ble_eq_true hroom
        split at h
        · rename_i hn0
          have hn0 := Nat.eq_of_beq_eq_true hn0
          cases h
          have e : news' = [] := by have := hnr.length; rw [hnl, hn0] at this; simpa using this
          subst e
          refine ⟨r, w, .slice (some ⟨b', off, none⟩) len cap, ?_, .slice _ _ _ hr hbig, Step.refl hR⟩
          rw [hRoom (by omega)]
          simp [hn0, storeCells]
        · rw [Option.bind_eq_some_iff] at h; obtain ⟨cs2, ho, h⟩ := h
          cases h
          obtain ⟨w', hw, hstep⟩ := write_ok (P := P) hR hc hr ho hnr hone
          refine ⟨r, w', .slice (some ⟨b', off, none⟩) (len + n) cap, ?_, .slice _ _ _ hr hbig, hstep⟩
          rw [hRoom hroom]
          simp only [Addr.add_lit]
          rw [hw]
          rfl
      · rename_i hroom
        have hroom : ¬ len + n ≤ cap := fun h => hroom (Nat.ble_eq_true_of_le h)
        rw [Option.bind_eq_some_iff] at h; obtain ⟨olds, holds, h⟩ := h
        obtain ⟨hbb, h⟩ := cond_none (show (bif _ then _ else none) = _ by rw [cond_eq_ite]; exact h)
        simp only [Bool.and_eq_true] at hbb
        have hb1 := Nat.le_of_ble_eq_true hbb.1.1
        have hb2 := Nat.le_of_ble_eq_true hbb.1.2
        have hb3 := Nat.le_of_ble_eq_true hbb.2
        cases h
        obtain ⟨hlo, hle, holen⟩ := hl.sub holds
        have hold : (Builtin.firstCells i.size len (.slice (some ⟨b', off, none⟩) len cap)).run P w.drew = .ok ((cs'.drop off).take (len * i.size)).toArray w.drew := by
          refine run_firstCells_some w.drew i.size len _ _ _ _ (by simp; omega) ?_
          intro j u hj
          rw [List.getElem?_take] at hj
          split at hj
          · rw [List.getElem?_drop] at hj
            rw [Addr.add_lit, cell_row (w := w.drew) (T := T) (fr := fz) hb, List.getElem?_append_left (List.getElem?_eq_some_iff.1 hj).1]
            exact hj
          · cases hj
        have hrun := hGrow hold hroom (by omega) (by omega) (growslice_fits (by omega) (by omega))
        have hres : VR (r.set st.n (w.heap.size, grownCap w (len + n) cap elem)) (.slice (some ⟨st.n, 0, none⟩) (len + n) big) (.slice (some ⟨w.heap.size, 0, none⟩) (len + n) (grownCap w (len + n) cap elem)) := by
          have := VR.sliceBig (r := r.set st.n (w.heap.size, grownCap w (len + n) cap elem)) 0 (len + n) big (set_new _ _ _) (Nat.le_refl _)
          simpa using this
        have hlenD := hnrD.length
        have hlol := hlo.length
        exact ⟨_, _, _, hrun, hres, Step.alloc_drew hR (hf _ (Nat.le_refl _) (by simp [St.new])) (fun r' hr' => grown_objR (hlo.append hnrD) (by rw [List.length_append, hlol, hlenD, holen, hnl, ← Nat.add_mul]) hzs (by omega) r' hr')⟩
  · cases h
end Ev
end Go.Proofs.Ytgafkphhnlifiaa
