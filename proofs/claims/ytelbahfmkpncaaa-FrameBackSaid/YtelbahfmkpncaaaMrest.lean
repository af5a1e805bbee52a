/- Messages: the rest of a part, the map of rests. -/
import Derived.Test.YtelbahfmkpncaaaMput
import Derived.Test.YtelbahfmkpncaaaKnown17
namespace Go.Proofs.Ytelbahfmkpncaaa
open Go.RowKit
set_option linter.unusedSimpArgs false
set_option linter.unusedVariables false


/-- What is read of a message's bytes. -/
def mN1 (xs : List UInt8) : Int × Nat × Int × Int := rNum xs 0 0 0 1 3
def mN2 (xs : List UInt8) : Int × Nat × Int × Int := rNum xs (mN1 xs).2.1 (mN1 xs).2.2.1 (mN1 xs).2.2.2 1 1099511627776
def mN3 (xs : List UInt8) : Int × Nat × Int × Int := rNum xs (mN2 xs).2.1 (mN2 xs).2.2.1 (mN2 xs).2.2.2 1 60000
def mN4 (xs : List UInt8) : Int × Nat × Int × Int := rNum xs (mN3 xs).2.1 (mN3 xs).2.2.1 (mN3 xs).2.2.2 0 60000
def mR5 (xs : List UInt8) : List UInt8 × Nat × Int × Int := rRaw xs (mN4 xs).2.1 (mN4 xs).2.2.1 (mN4 xs).2.2.2 200
/-- The rest: what parts have besides. -/
def mS (xs : List UInt8) : Int × Int × List UInt8 := if (mN1 xs).1 = 1 then ((mN3 xs).1, (mN4 xs).1, (mR5 xs).1) else (0, 0, [])
def mE (xs : List UInt8) : Nat × Int × Int := if (mN1 xs).1 = 1 then (mR5 xs).2 else (mN2 xs).2
def mF (xs : List UInt8) : Int × Int := endR xs (mE xs).1 (mE xs).2.1 (mE xs).2.2
/-- What a message's bytes read as: the message; the fault. -/
def readM (xs : List UInt8) : (Int × Int × Int × Int × List UInt8) × Int × Int :=
  if (mF xs).1 ≠ 0 then ((0, 0, 0, 0, []), mF xs) else if FineM (mN1 xs).1 (mN2 xs).1 (mS xs).1 (mS xs).2.1 (mS xs).2.2.length then (((mN1 xs).1, (mN2 xs).1, (mS xs).1, (mS xs).2.1, (mS xs).2.2), (0, 0)) else ((0, 0, 0, 0, []), (2, 0))
theorem mF_zero {xs : List UInt8} (h : (mF xs).1 = 0) : (mF xs).2 = 0 := by
  unfold mF at h ⊢
  obtain ⟨h1, h2, _⟩ := endR_calm h
  rw [h2]
  have two : (mN2 xs).2.2.1 = 0 → (mN2 xs).2.2.2 = 0 := by
    intro h
    unfold mN2 at h ⊢
    obtain ⟨h5, h6⟩ := rNum_calm h
    rw [h6]
    unfold mN1 at h5 ⊢
    exact (rNum_calm h5).2
  unfold mE at h1 ⊢
  by_cases hk : (mN1 xs).1 = 1
  · rw [if_pos hk] at h1 ⊢
    unfold mR5 at h1 ⊢
    obtain ⟨h3, h4⟩ := rRaw_calm h1
    rw [h4]
    unfold mN4 at h3 ⊢
    obtain ⟨h5, h6⟩ := rNum_calm h3
    rw [h6]
    unfold mN3 at h5 ⊢
    obtain ⟨h7, h8⟩ := rNum_calm h5
    rw [h8]
    exact two h7
  · rw [if_neg hk] at h1 ⊢
    exact two h1
theorem mR5_small (xs : List UInt8) : (mS xs).2.2.length ≤ xs.length := by
  unfold mS
  split
  · change (mR5 xs).1.length ≤ xs.length
    unfold mR5
    have h1 : (mN1 xs).2.1 ≤ xs.length := by unfold mN1; exact rNum_le (Nat.zero_le _)
    have h2 : (mN2 xs).2.1 ≤ xs.length := by unfold mN2; exact rNum_le h1
    have h3 : (mN3 xs).2.1 ≤ xs.length := by unfold mN3; exact rNum_le h2
    have h4 : (mN4 xs).2.1 ≤ xs.length := by unfold mN4; exact rNum_le h3
    have := rRaw_le (xs := xs) (fe := (mN4 xs).2.2.1) (fa := (mN4 xs).2.2.2) (most := 200) (p := (mN4 xs).2.1) h4
    omega
  · simp
theorem run_look (w : World) (r clock : Nat) (es : Array MapEntry) (k : Int) (i : Nat) (val : Value) (hb : w.heap[r]? = some (.map es clock)) (hf : Instr.findNow (.int .i64) (.int .i64 k) es.toList 0 = some (some (i, val))) :
    (Instr.lookup 69 (.map (some r)) (.int .i64 k) false).run Try.prog w = .ok val w := by
  have hc : (Instr.checkKey es.isEmpty 10000 68 (.int .i64 k)).run Try.prog w = .ok () w := MapKept.run_checkKey (k := .int .i64 k) Try.underlying68 (by simp [MapKept.IsKey]) _ 9999
  simp [Instr.lookup, run_underlying Try.underlying69, MapKept.run_getObj_map hb, hc, MapKept.run_findKey Try.underlying68 hf, Result.andThen]

/-- What the rest of a part leaves. -/
def RestPost (w w1 w' : World) (b : Nat) (xs : List UInt8) (p : Nat) (fe fa : Int) (s5 : Nat) (v0 v1 : Value) (A : Option Addr) (c : Nat) : Prop :=
  OwnB w' A c (rRaw xs (rNum xs (rNum xs p fe fa 1 60000).2.1 (rNum xs p fe fa 1 60000).2.2.1 (rNum xs p fe fa 1 60000).2.2.2 0 60000).2.1 (rNum xs (rNum xs p fe fa 1 60000).2.1 (rNum xs p fe fa 1 60000).2.2.1 (rNum xs p fe fa 1 60000).2.2.2 0 60000).2.2.1 (rNum xs (rNum xs p fe fa 1 60000).2.1 (rNum xs p fe fa 1 60000).2.2.1 (rNum xs p fe fa 1 60000).2.2.2 0 60000).2.2.2 200).1 ∧
  (∀ a, A = some a → w1.heap.size ≤ a.block) ∧
  Rs w w' b xs (rRaw xs (rNum xs (rNum xs p fe fa 1 60000).2.1 (rNum xs p fe fa 1 60000).2.2.1 (rNum xs p fe fa 1 60000).2.2.2 0 60000).2.1 (rNum xs (rNum xs p fe fa 1 60000).2.1 (rNum xs p fe fa 1 60000).2.2.1 (rNum xs p fe fa 1 60000).2.2.2 0 60000).2.2.1 (rNum xs (rNum xs p fe fa 1 60000).2.1 (rNum xs p fe fa 1 60000).2.2.1 (rNum xs p fe fa 1 60000).2.2.2 0 60000).2.2.2 200).2.1 (rRaw xs (rNum xs (rNum xs p fe fa 1 60000).2.1 (rNum xs p fe fa 1 60000).2.2.1 (rNum xs p fe fa 1 60000).2.2.2 0 60000).2.1 (rNum xs (rNum xs p fe fa 1 60000).2.1 (rNum xs p fe fa 1 60000).2.2.1 (rNum xs p fe fa 1 60000).2.2.2 0 60000).2.2.1 (rNum xs (rNum xs p fe fa 1 60000).2.1 (rNum xs p fe fa 1 60000).2.2.1 (rNum xs p fe fa 1 60000).2.2.2 0 60000).2.2.2 200).2.2.1 (rRaw xs (rNum xs (rNum xs p fe fa 1 60000).2.1 (rNum xs p fe fa 1 60000).2.2.1 (rNum xs p fe fa 1 60000).2.2.2 0 60000).2.1 (rNum xs (rNum xs p fe fa 1 60000).2.1 (rNum xs p fe fa 1 60000).2.2.1 (rNum xs p fe fa 1 60000).2.2.2 0 60000).2.2.1 (rNum xs (rNum xs p fe fa 1 60000).2.1 (rNum xs p fe fa 1 60000).2.2.1 (rNum xs p fe fa 1 60000).2.2.2 0 60000).2.2.2 200).2.2.2 ∧
  w'.heap[s5]? = some (.cells #[v0, v1, .int .i64 (rNum xs p fe fa 1 60000).1, .int .i64 (rNum xs (rNum xs p fe fa 1 60000).2.1 (rNum xs p fe fa 1 60000).2.2.1 (rNum xs p fe fa 1 60000).2.2.2 0 60000).1, .slice A (rRaw xs (rNum xs (rNum xs p fe fa 1 60000).2.1 (rNum xs p fe fa 1 60000).2.2.1 (rNum xs p fe fa 1 60000).2.2.2 0 60000).2.1 (rNum xs (rNum xs p fe fa 1 60000).2.1 (rNum xs p fe fa 1 60000).2.2.1 (rNum xs p fe fa 1 60000).2.2.2 0 60000).2.2.1 (rNum xs (rNum xs p fe fa 1 60000).2.1 (rNum xs p fe fa 1 60000).2.2.1 (rNum xs p fe fa 1 60000).2.2.2 0 60000).2.2.2 200).1.length c] 41 (0, 0)) ∧
  Chg [b, s5] w1 w'
/-- A block of another kind is not the reader's. -/
theorem rs_apart {w w1 : World} {b s : Nat} {xs : List UInt8} {p : Nat} {fe fa : Int} {cs : Array Value} {T : TypeId} {fr : Nat × Nat} (h : Rs w w1 b xs p fe fa) (hb : w1.heap[s]? = some (.cells cs T fr)) (hT : T ≠ 83) : s ≠ b := by
  rintro rfl
  obtain ⟨g, ⟨A, c, k1, _⟩, _⟩ := h
  rw [k1] at hb
  simp at hb
  exact hT hb.2.1.symm
theorem rs_set {w w1 w2 : World} {b s : Nat} {xs : List UInt8} {p : Nat} {fe fa : Int} {cs : Array Value} {T : TypeId} {fr : Nat × Nat} (h : Rs w w1 b xs p fe fa) (hb : w1.heap[s]? = some (.cells cs T fr)) (hc : Chg [s] w1 w2) (hs : w.heap.size ≤ s) (hT : T ≠ 83 ∧ T ≠ 5) : Rs w w2 b xs p fe fa := by
  have hne := rs_apart h hb hT.1
  obtain ⟨g, h1, h2, h3, h4, h5⟩ := h
  have hg : g ≠ s := by
    obtain ⟨A, c, k1, k2, k3⟩ := h1
    rcases k3 with ⟨_, rfl⟩ | rfl
    · exact fun e => hne e.symm
    · exact k2.ne hb hT.2 _ rfl
  exact ⟨g, h1.chg hc (by simpa using fun e => hne e.symm) (by simpa using hg), h2, h3, h4.both hc (by simpa using hs), h5⟩
set_option maxHeartbeats 400000 in
theorem rest0_any (w : World) (v u : Value) : Calls Try.prog 68 #[v, u] w fun e w' => e = .returned (.tuple #[]) ∧ w = w' := by
  go_enter Try.func68, Try.ntmps68
  go_wp2
  go_end0
  exact ⟨rfl, rfl⟩

set_option maxHeartbeats 4000000 in
theorem rests_map (w : World) : Calls Try.prog 51 #[] w fun e w' => ∃ r n, e = .returned (.map (some r)) ∧ w'.heap[r]? = some (.map (((#[].push { key := .int .i64 1, val := .func (.func 69) #[] #[], born := 0 }).push { key := .int .i64 2, val := .func (.func 68) #[] #[], born := 0 + 1 }).push { key := .int .i64 3, val := .func (.func 68) #[] #[], born := 0 + 1 + 1 }) n) ∧ Chg [] w w' := by
  have hmk : ∀ w : World, (Instr.makeMap 69 none).run Try.prog w = .ok (.map (some w.heap.size)) (w.alloc (.map #[] 0)) := fun _ => rfl
  obtain ⟨w1, hw1⟩ : ∃ w1 : World, w1 = w.alloc (.map #[] 0) := ⟨_, rfl⟩
  have h1 : w1.heap[w.heap.size]? = some (.map #[] 0) := hw1 ▸ heap_alloc_new w _
  have c1 : Chg [] w w1 := hw1 ▸ (Chg.refl [] w).alloc _
  have u1 := run_up w1 w.heap.size 0 #[] 1 (.func (.func 69) #[] #[]) h1 rfl
  have c2 := chg_obj (.map (#[].push { key := .int .i64 1, val := .func (.func 69) #[] #[], born := 0 }) (0 + 1)) c1 (Nat.le_refl _)
  have h2 := obj_put (o' := .map (#[].push { key := .int .i64 1, val := .func (.func 69) #[] #[], born := 0 }) (0 + 1)) h1
  have u2 := run_up _ w.heap.size _ _ 2 (.func (.func 68) #[] #[]) h2 rfl
  have c3 := chg_obj (.map ((#[].push { key := .int .i64 1, val := .func (.func 69) #[] #[], born := 0 }).push { key := .int .i64 2, val := .func (.func 68) #[] #[], born := 0 + 1 }) (0 + 1 + 1)) c2 (Nat.le_refl _)
  have h3 := obj_put (o' := .map ((#[].push { key := .int .i64 1, val := .func (.func 69) #[] #[], born := 0 }).push { key := .int .i64 2, val := .func (.func 68) #[] #[], born := 0 + 1 }) (0 + 1 + 1)) h2
  have u3 := run_up _ w.heap.size _ _ 3 (.func (.func 68) #[] #[]) h3 rfl
  have c4 := chg_obj (.map (((#[].push { key := .int .i64 1, val := .func (.func 69) #[] #[], born := 0 }).push { key := .int .i64 2, val := .func (.func 68) #[] #[], born := 0 + 1 }).push { key := .int .i64 3, val := .func (.func 68) #[] #[], born := 0 + 1 + 1 }) (0 + 1 + 1 + 1)) c3 (Nat.le_refl _)
  have h4 := obj_put (o' := .map (((#[].push { key := .int .i64 1, val := .func (.func 69) #[] #[], born := 0 }).push { key := .int .i64 2, val := .func (.func 68) #[] #[], born := 0 + 1 }).push { key := .int .i64 3, val := .func (.func 68) #[] #[], born := 0 + 1 + 1 }) (0 + 1 + 1 + 1)) h3
  have H4 := Lib.hid h4
  have C4 := Lib.hid c4
  have W1 := Lib.hid hw1
  clear c4 c3 c2 c1 h1 h2 h3 h4 hw1
  generalize ({ w1 with heap := w1.heap.setIfInBounds w.heap.size (.map (#[].push { key := .int .i64 1, val := .func (.func 69) #[] #[], born := 0 }) (0 + 1)) } : World) = w2 at *
  generalize ({ w2 with heap := w2.heap.setIfInBounds w.heap.size (.map ((#[].push { key := .int .i64 1, val := .func (.func 69) #[] #[], born := 0 }).push { key := .int .i64 2, val := .func (.func 68) #[] #[], born := 0 + 1 }) (0 + 1 + 1)) } : World) = w3 at *
  generalize ({ w3 with heap := w3.heap.setIfInBounds w.heap.size (.map (((#[].push { key := .int .i64 1, val := .func (.func 69) #[] #[], born := 0 }).push { key := .int .i64 2, val := .func (.func 68) #[] #[], born := 0 + 1 }).push { key := .int .i64 3, val := .func (.func 68) #[] #[], born := 0 + 1 + 1 }) (0 + 1 + 1 + 1)) } : World) = w4 at *
  go_enter Try.func51, Try.ntmps51
  have hmk1 := hmk w
  rw [← W1.out] at hmk1
  clear hmk
  go_wp2
  go_ret
  exact ⟨_, _, rfl, H4.out, C4.out⟩

set_option maxHeartbeats 8000000 in
theorem rest1_any (w w1 : World) (b : Nat) (xs : List UInt8) (p : Nat) (fe fa : Int) (h : Rs w w1 b xs p fe fa) (s5 : Nat) (v0 v1 v2 v3 v4 : Value) (hb : w1.heap[s5]? = some (.cells #[v0, v1, v2, v3, v4] 41 (0, 0))) (hs : w.heap.size ≤ s5) :
    Calls Try.prog 69 #[.pointer (some ⟨b, 0, none⟩), .pointer (some ⟨s5, 0, none⟩)] w1 fun e w' => ∃ A c, e = .returned (.tuple #[]) ∧ RestPost w w1 w' b xs p fe fa s5 v0 v1 A c := by
  unfold RestPost
  have K := Lib.hid h
  have B5 := Lib.hid hb
  have hne := rs_apart h hb (by decide)
  have hsz := h.chg.size
  have hlt := lt_of_heap hb
  have C1 := Lib.hid (Chg.refl [b, s5] w1)
  have hbs : b ≠ s5 := fun e => hne e.symm
  clear h hb
  generalize hN3 : rNum xs p fe fa 1 60000 = N3 at *
  generalize hN4 : rNum xs N3.2.1 N3.2.2.1 N3.2.2.2 0 60000 = N4 at *
  generalize hR5 : rRaw xs N4.2.1 N4.2.2.1 N4.2.2.2 200 = R5 at *
  have HN3 := Lib.hid hN3
  have HN4 := Lib.hid hN4
  have HR5 := Lib.hid hR5
  clear hN3 hN4 hR5
  go_enter Try.func69, Try.ntmps69
  go_wp2_with fail
  have r1 := rs_num w w1 b xs p fe fa 1 60000 K.out
  rw [HN3.out] at r1
  refine r1.mono ?_
  rintro e x1 ⟨rfl, h2, c2⟩
  replace K := Lib.hid h2
  replace B5 := Lib.hid (c2.at_ B5.out (by simpa using hne))
  replace C1 := Lib.hid (C1.out.trans (c2.mono (by simp)))
  have z1 := C1.out.size
  clear h2 c2 r1
  go_wp2_with fail
  have r1 := rs_num w x1 b xs _ _ _ 0 60000 K.out
  rw [HN4.out] at r1
  refine r1.mono ?_
  rintro e x2 ⟨rfl, h2, c2⟩
  replace K := Lib.hid h2
  replace B5 := Lib.hid (c2.at_ B5.out (by simpa using hne))
  replace C1 := Lib.hid (C1.out.trans (c2.mono (by simp)))
  have z2 := C1.out.size
  clear h2 c2 r1
  go_wp2_with fail
  have r1 := rs_raw w x2 b xs _ _ _ 200 K.out
  rw [HR5.out] at r1
  refine r1.mono ?_
  rintro e x3 ⟨A4, c4, rfl, o4, n4, h2, c2⟩
  replace K := Lib.hid h2
  replace B5 := Lib.hid (c2.at_ B5.out (by simpa using hne))
  replace C1 := Lib.hid (C1.out.trans (c2.mono (by simp)))
  have O4 := Lib.hid o4
  have n4' : ∀ a, A4 = some a → w1.heap.size ≤ a.block := fun a e => by have := n4 a e; have := z2; omega
  have N4' := Lib.hid n4'
  have ns : ∀ a, A4 = some a → a.block ∉ [s5] := fun a e => by have := n4' a e; simp; omega
  have NS := Lib.hid ns
  clear o4 n4 n4' ns
  clear h2 c2 r1
  have z2_ := cell_of B5.out 2
  have z3_ := cell_of B5.out 3
  have z4_ := cell_of B5.out 4
  have f2_ := free_of B5.out 2
  have f3_ := free_of B5.out 3
  have f4_ := free_of B5.out 4
  simp only [List.getElem?_toArray, List.getElem?_cons_succ, List.getElem?_cons_zero] at z2_ z3_ z4_
  have cs := (((Chg.refl [s5] x3).put' 2 (.int .i64 N3.1)).put' 3 (.int .i64 N4.1)).put' 4 (.slice A4 R5.1.length c4)
  have p2 := heap_setCell_same x3 s5 2 _ _ (.int .i64 N3.1) B5.out
  have p3 := heap_setCell_same _ s5 3 _ _ (.int .i64 N4.1) p2
  have p4 := heap_setCell_same _ s5 4 _ _ (.slice A4 R5.1.length c4) p3
  simp only [List.setIfInBounds_toArray, List.set_cons_zero, List.set_cons_succ] at p4
  have P4 := Lib.hid p4
  have OO := Lib.hid (O4.out.chg cs NS.out)
  have KK := Lib.hid (rs_set K.out B5.out cs hs (by decide))
  have CC := Lib.hid (C1.out.trans (cs.mono (by simp)))
  clear cs p2 p3 p4
  go_wp2
  go_end0
  exact ⟨A4, c4, rfl, OO.out, N4'.out, KK.out, P4.out, CC.out⟩
end Go.Proofs.Ytelbahfmkpncaaa
