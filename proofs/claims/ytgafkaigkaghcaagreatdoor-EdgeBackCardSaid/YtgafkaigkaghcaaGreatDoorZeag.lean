/- The document's without. Sets of dots as lists of spans: how many dots they have, what is the last one, what is joined, left, within. Plain. A past's bytes are read as it; what is read has just these bytes. Plain. edge.Read. The document's Read of all bytes. The document's writer (tributaryref01): form, put, Num, Raw, Text, Out. The document's writer, call by call. The document's writer: Raw, Text, Out. -/
import Derived.Test.YtgafkaigkaghcaaGreatDoorZeaf
import Derived.Deep.Cut
import Derived.Test.YtgafkaigkaghcaaGreatDoorZeae
import Derived.Test.YtgafkaigkaghcaaGreatDoorZeab
import Derived.Test.YtgafkaigkaghcaaGreatDoorZeac
import Derived.Test.YtgafkaigkaghcaaGreatDoorZead
import Derived.Deep.RegionHeld3
import Derived.Deep.QuietTactic
import Derived.BigQuiet
namespace Go.Proofs.YtgafkaigkaghcaaGreatDoor
section
open Go.RowKit Go.Lib
set_option linter.unusedSimpArgs false
set_option linter.unusedVariables false
end
section
set_option linter.unusedSimpArgs false
set_option linter.unusedVariables false

theorem wf_mem {xs : List Sp} (h : WfC xs) {n s : Int} (hm : Mem xs n s) : 1 ≤ n ∧ n ≤ 200 ∧ 1 ≤ s ∧ s ≤ 2147483647 := by
  obtain ⟨x, hx, e, l, r⟩ := hm
  have := h.2 x hx
  omega
theorem wf_sub {m : List Sp} (h : Norm m) (hb : ∀ n s, Mem m n s → 1 ≤ n ∧ n ≤ 200 ∧ 1 ≤ s ∧ s ≤ 2147483647) : WfC m :=
  ⟨h, fun x hx => by
    have o := h.1 x hx
    unfold SpOk at o
    have a := hb x.1 x.2.1 ⟨x, hx, rfl, Int.le_refl _, o⟩
    have b := hb x.1 x.2.2 ⟨x, hx, rfl, o, Int.le_refl _⟩
    omega⟩
theorem push_len (out : List Sp) (z : Sp) : (pushP out z).length ≤ out.length + 1 := by
  unfold pushP
  split <;> (try split) <;> simp <;> omega
theorem fold_len : ∀ (zs out : List Sp), (zs.foldl pushP out).length ≤ out.length + zs.length
  | [], out => by simp
  | z :: zs, out => by
    have h1 := fold_len zs (pushP out z)
    have h2 := push_len out z
    rw [List.foldl_cons, List.length_cons]
    omega
theorem tidy_len (l : List Sp) : (tidyS l).length ≤ l.length := by
  have := fold_len (riseS l) []
  rw [(rise_props l).2.2] at this
  simpa [tidyS] using this
theorem bound_le {l : List Sp} (h : l.length ≤ 4000) : boundP l = (0, l) := by unfold boundP; rw [if_neg (by omega)]
/-- What is joined of two short pasts. -/
theorem join_ok {a b : List Sp} (ha : chkS a = 0) (hb : chkS b = 0) (hl : a.length + b.length ≤ 4000) : joinE a b = (0, tidyS (a ++ b)) ∧ chkS (tidyS (a ++ b)) = 0 ∧ (tidyS (a ++ b)).length ≤ a.length + b.length ∧ ∀ n s, Mem (tidyS (a ++ b)) n s ↔ Mem a n s ∨ Mem b n s := by
  have wa := (wf_of_chk ha).1
  have wb := (wf_of_chk hb).1
  have t := tidy_norm (l := a ++ b) (fun x hx => by
    rcases List.mem_append.1 hx with q | q
    · exact wa.1.1 x q
    · exact wb.1.1 x q)
  have tl := tidy_len (a ++ b)
  rw [List.length_append] at tl
  have tm : ∀ n s, Mem (tidyS (a ++ b)) n s ↔ Mem a n s ∨ Mem b n s := fun n s => (t.2 n s).trans mem_append
  have wt : WfC (tidyS (a ++ b)) := wf_sub t.1 (fun n s h => by
    rcases (tm n s).1 h with q | q
    · exact wf_mem wa q
    · exact wf_mem wb q)
  refine ⟨?_, chk_of_wf wt (by omega), tl, tm⟩
  unfold joinE
  rw [if_pos ⟨ha, hb⟩, bound_le (by omega)]
end
section
set_option linter.unusedSimpArgs false
set_option linter.unusedVariables false

theorem numB_from : ∀ (l : List UInt8) (a : Nat), l.foldl (fun n x => n * 256 + x.toNat) a = a * 256 ^ l.length + numB l
  | [], a => by simp [numB]
  | x :: l, a => by
    have h1 := numB_from l (a * 256 + x.toNat)
    have h2 := numB_from l (0 * 256 + x.toNat)
    have e : numB (x :: l) = l.foldl (fun n x => n * 256 + x.toNat) (0 * 256 + x.toNat) := rfl
    rw [List.foldl_cons, h1, e, h2, List.length_cons, Nat.pow_succ, Nat.add_mul, Nat.zero_mul, Nat.zero_add, Nat.mul_assoc, Nat.mul_comm 256]
    omega
theorem numB_cons (x : UInt8) (l : List UInt8) : numB (x :: l) = x.toNat * 256 ^ l.length + numB l := by
  have := numB_from l (0 * 256 + x.toNat)
  rw [Nat.zero_mul, Nat.zero_add] at this
  rw [← this]
  show (x :: l).foldl _ 0 = _
  rw [List.foldl_cons, Nat.zero_mul, Nat.zero_add]
theorem num_be : ∀ (k n : Nat), numB (be k n) = n % 256 ^ k
  | 0, n => by simp [be, numB, Nat.mod_one]
  | k + 1, n => by
    show numB (UInt8.ofNat (n / 256 ^ k) :: be k n) = _
    have e : n % 256 ^ (k + 1) = n % 256 ^ k + 256 ^ k * (n / 256 ^ k % 256) := by rw [Nat.pow_succ, Nat.mod_mul]
    rw [numB_cons, num_be k n, be_len, UInt8.toNat_ofNat', e, Nat.mul_comm, Nat.add_comm]
theorem be_modP : ∀ (k a m : Nat), be k (a * 256 ^ k + m) = be k m
  | 0, _, _ => rfl
  | k + 1, a, m => by
    show UInt8.ofNat ((a * 256 ^ (k + 1) + m) / 256 ^ k) :: be k (a * 256 ^ (k + 1) + m) = UInt8.ofNat (m / 256 ^ k) :: be k m
    have e : a * 256 ^ (k + 1) + m = a * 256 * 256 ^ k + m := by rw [Nat.pow_succ, Nat.mul_assoc, Nat.mul_comm 256]
    have hp : 0 < 256 ^ k := Nat.pow_pos (by omega)
    rw [e, be_modP k (a * 256) m]
    congr 1
    apply UInt8.toNat_inj.1
    rw [UInt8.toNat_ofNat', UInt8.toNat_ofNat', Nat.add_comm, Nat.add_mul_div_right _ _ hp]
    omega
theorem be_num : ∀ (l : List UInt8), be l.length (numB l) = l
  | [] => rfl
  | x :: l => by
    have h := numB_lt l.length l (Nat.le_refl _)
    have hp : 0 < 256 ^ l.length := Nat.pow_pos (by omega)
    show UInt8.ofNat (numB (x :: l) / 256 ^ l.length) :: be l.length (numB (x :: l)) = x :: l
    rw [numB_cons, be_modP, be_num l]
    congr 1
    apply UInt8.toNat_inj.1
    rw [UInt8.toNat_ofNat', Nat.add_comm, Nat.add_mul_div_right _ _ hp, Nat.div_eq_of_lt h]
    have := x.toNat_lt
    omega
def spanT (t : List UInt8) : Int × Int × Int := ((numB (t.take 1) : Int), (numB ((t.drop 1).take 4) : Int), (numB ((t.drop 5).take 4) : Int))
theorem spanAt_T (ys : List UInt8) (i : Nat) : spanAt ys i = spanT (ys.drop i) := by
  unfold spanAt spanT
  rw [List.drop_drop, List.drop_drop]
theorem spanT_back {x : Int × Int × Int} (h : FineS x.1 x.2.1 x.2.2) (t : List UInt8) : spanT (spanB x ++ t) = x := by
  obtain ⟨h1, h2, h3, h4, h5⟩ := h
  have e : spanB x ++ t = UInt8.ofNat x.1.toNat :: (be 4 x.2.1.toNat ++ (be 4 x.2.2.toNat ++ t)) := by simp [spanB]
  have d5 : (be 4 x.2.1.toNat ++ (be 4 x.2.2.toNat ++ t)).drop 4 = be 4 x.2.2.toNat ++ t := by
    rw [List.drop_append_of_le_length (by rw [be_len]; omega), List.drop_eq_nil_of_le (by rw [be_len]; omega), List.nil_append]
  have t4 : ∀ (n : Nat) (r : List UInt8), (be 4 n ++ r).take 4 = be 4 n := fun n r => by
    rw [List.take_append_of_le_length (by rw [be_len]; omega), List.take_of_length_le (by rw [be_len]; omega)]
  unfold spanT
  rw [e]
  show ((numB [UInt8.ofNat x.1.toNat] : Int), (numB ((be 4 x.2.1.toNat ++ (be 4 x.2.2.toNat ++ t)).take 4) : Int), (numB (((be 4 x.2.1.toNat ++ (be 4 x.2.2.toNat ++ t)).drop 4).take 4) : Int)) = x
  rw [d5, t4, t4, num_be, num_be]
  have e1 : numB [UInt8.ofNat x.1.toNat] = x.1.toNat % 256 := by rw [numB_cons]; simp [numB, UInt8.toNat_ofNat']
  rw [e1]
  refine Prod.ext ?_ (Prod.ext ?_ ?_)
  · show ((x.1.toNat % 256 : Nat) : Int) = x.1
    omega
  · show ((x.2.1.toNat % 256 ^ 4 : Nat) : Int) = x.2.1
    omega
  · show ((x.2.2.toNat % 256 ^ 4 : Nat) : Int) = x.2.2
    omega
theorem T_back {t : List UInt8} (h : 9 ≤ t.length) : spanB (spanT t) = t.take 9 := by
  match t, h with
  | a :: b :: c :: d :: e :: f :: g :: i :: j :: r, _ =>
    have q1 := be_num [b, c, d, e]
    have q2 := be_num [f, g, i, j]
    have e1 : numB [a] = a.toNat := by rw [numB_cons]; simp [numB]
    show UInt8.ofNat ((numB [a] : Nat) : Int).toNat :: (be 4 ((numB [b, c, d, e] : Nat) : Int).toNat ++ be 4 ((numB [f, g, i, j] : Nat) : Int).toNat) = _
    rw [Int.toNat_natCast, Int.toNat_natCast, Int.toNat_natCast, e1]
    rw [show be 4 (numB [b, c, d, e]) = [b, c, d, e] from q1, show be 4 (numB [f, g, i, j]) = [f, g, i, j] from q2]
    simp
theorem flat_drop : ∀ (xs : List (Int × Int × Int)) (i : Nat), (xs.flatMap spanB).drop (9 * i) = (xs.drop i).flatMap spanB
  | xs, 0 => by simp
  | [], i + 1 => by simp
  | x :: xs, i + 1 => by
    rw [List.flatMap_cons, List.drop_succ_cons, ← flat_drop xs i, Nat.mul_succ, Nat.add_comm, ← List.drop_drop]
    congr 1
theorem head_num (n : Nat) (h : n < 65536) : numB [UInt8.ofNat (n / 256), UInt8.ofNat n] = n := by
  have := num_be 2 n
  rw [show be 2 n = [UInt8.ofNat (n / 256), UInt8.ofNat n] by simp [be]] at this
  rw [this]
  exact Nat.mod_eq_of_lt h
theorem spansR_back {xs : List (Int × Int × Int)} (h : ∀ x ∈ xs, FineS x.1 x.2.1 x.2.2) : spansR (spansB xs) xs.length = xs := by
  show (List.range xs.length).map (fun i => spanAt (spansB xs) (2 + 9 * i)) = xs
  refine List.ext_getElem (by simp) (fun i h1 h2 => ?_)
  rw [List.getElem_map, List.getElem_range, spanAt_T]
  have e : (spansB xs).drop (2 + 9 * i) = (xs.drop i).flatMap spanB := by
    rw [← flat_drop, show 2 + 9 * i = (9 * i + 1) + 1 by omega]
    rfl
  rw [e, List.drop_eq_getElem_cons h2, List.flatMap_cons]
  exact spanT_back (h _ (List.getElem_mem h2)) _
/-- A past's bytes are read as it. -/
theorem read_back {xs : List (Int × Int × Int)} (h : chkS xs = 0) : readS (bytesO xs) = (xs, (0, 0)) := by
  obtain ⟨hl, hf⟩ := chkS_zero h
  have eB : bytesO xs = spansB xs := by unfold bytesO; rw [if_pos h]
  have el : (spansB xs).length = 2 + 9 * xs.length := by
    show (UInt8.ofNat (xs.length / 256) :: UInt8.ofNat xs.length :: xs.flatMap spanB).length = _
    rw [List.length_cons, List.length_cons, flat_len]
    omega
  have en : numB ((spansB xs).take 2) = xs.length := head_num xs.length (by omega)
  rw [eB]
  unfold readS
  rw [if_neg (by omega), en, if_pos el, spansR_back hf, if_pos h]
theorem flat_spansR (ys : List UInt8) : ∀ (k : Nat), 2 + 9 * k ≤ ys.length → (spansR ys k).flatMap spanB = (ys.drop 2).take (9 * k)
  | 0, _ => by simp [spansR]
  | k + 1, h => by
    rw [spansR_succ, List.flatMap_append, flat_spansR ys k (by omega), List.flatMap_singleton, spanAt_T, T_back (by rw [List.length_drop]; omega)]
    rw [show 9 * (k + 1) = 9 * k + 9 by omega, List.take_add, List.drop_drop]
/-- What is read has just these bytes. -/
theorem bytes_back {ys : List UInt8} (h : (readS ys).2.1 = 0) : bytesO (readS ys).1 = ys ∧ chkS (readS ys).1 = 0 := by
  unfold readS at h ⊢
  by_cases h2 : ys.length < 2
  · rw [if_pos h2] at h
    exact absurd (show (4 : Int) = 0 from h) (by decide)
  · rw [if_neg h2] at h ⊢
    by_cases h3 : ys.length = 2 + 9 * numB (ys.take 2)
    · rw [if_pos h3] at h ⊢
      by_cases h4 : chkS (spansR ys (numB (ys.take 2))) = 0
      · rw [if_pos h4]
        refine ⟨?_, h4⟩
        show bytesO (spansR ys (numB (ys.take 2))) = ys
        unfold bytesO
        rw [if_pos h4]
        unfold spansB
        have tk : (ys.drop 2).take (9 * numB (ys.take 2)) = ys.drop 2 := List.take_of_length_le (by simp only [List.length_drop]; omega)
        rw [spansR_len, flat_spansR ys _ (by omega), tk]
        match ys, h2 with
        | a :: b :: r, _ =>
          have q := be_num [a, b]
          have q2 : [UInt8.ofNat (numB [a, b] / 256), UInt8.ofNat (numB [a, b])] = [a, b] := by
            rw [← show be 2 (numB [a, b]) = [UInt8.ofNat (numB [a, b] / 256), UInt8.ofNat (numB [a, b])] by simp [be]]
            exact q
          injection q2 with q3 q4
          injection q4 with q5 q6
          show UInt8.ofNat (numB [a, b] / 256) :: UInt8.ofNat (numB [a, b]) :: r = a :: b :: r
          rw [q3, q5]
        | [_], h2 => exact absurd (by simp) h2
        | [], h2 => exact absurd (by simp) h2
      · rw [if_neg h4] at h
        exact absurd h (by decide)
    · rw [if_neg h3] at h
      exact absurd h (by simp)
theorem readS_bytes (ys : List UInt8) : (readS ys).1.length ≤ ys.length := by
  unfold readS
  split
  · simp
  · split
    · split
      · rw [spansR_len]; omega
      · simp
    · simp
end
section
open Go.RowKit Go.Lib
set_option linter.unusedSimpArgs false
set_option linter.unusedVariables false


set_option maxHeartbeats 4000000 in
theorem put22 {w : World} {s0 s1 : Nat} {a0 a1 b0 b1 : Value} {T T' : TypeId} (v0 v1 u0 u1 : Value) (q0 : w.heap[s0]? = some (.cells #[a0, a1] T (0, 0))) (q1 : w.heap[s1]? = some (.cells #[b0, b1] T' (0, 0))) (h : s0 ≠ s1) :
    ((((w.setCell ⟨s0, 0, none⟩ v0).setCell ⟨s0, 1, none⟩ v1).setCell ⟨s1, 0, none⟩ u0).setCell ⟨s1, 1, none⟩ u1).heap[s0]? = some (.cells #[v0, v1] T (0, 0)) ∧
    ((((w.setCell ⟨s0, 0, none⟩ v0).setCell ⟨s0, 1, none⟩ v1).setCell ⟨s1, 0, none⟩ u0).setCell ⟨s1, 1, none⟩ u1).heap[s1]? = some (.cells #[u0, u1] T' (0, 0)) := by
  have p0 := heap_setCell_same _ s0 0 _ _ v0 q0
  have p1 := heap_setCell_same _ s0 1 _ _ v1 p0
  have h' : s1 ≠ s0 := fun e => h e.symm
  have r : ((w.setCell ⟨s0, 0, none⟩ v0).setCell ⟨s0, 1, none⟩ v1).heap[s1]? = some (.cells #[b0, b1] T' (0, 0)) := by
    rw [Below.heap_setCell _ _ _ _ (by simpa using h'), Below.heap_setCell _ _ _ _ (by simpa using h')]
    exact q1
  have r0 := heap_setCell_same _ s1 0 _ _ u0 r
  have r1 := heap_setCell_same _ s1 1 _ _ u1 r0
  refine ⟨?_, r1⟩
  rw [Below.heap_setCell _ _ _ _ (by simpa using h), Below.heap_setCell _ _ _ _ (by simpa using h)]
  exact p1

set_option maxHeartbeats 4000000 in
theorem setE2 {w : World} {s0 : Nat} {a0 a1 : Value} {T : TypeId} (v0 v1 : Value) (q0 : w.heap[s0]? = some (.cells #[a0, a1] T (0, 0))) :
    ((w.setCell ⟨s0, 0, none⟩ v0).setCell ⟨s0, 1, none⟩ v1).heap[s0]? = some (.cells #[v0, v1] T (0, 0)) ∧ (∀ (s1 : Nat) (o : Obj), s0 ≠ s1 → w.heap[s1]? = some o → ((w.setCell ⟨s0, 0, none⟩ v0).setCell ⟨s0, 1, none⟩ v1).heap[s1]? = some o) ∧ Chg [s0] w ((w.setCell ⟨s0, 0, none⟩ v0).setCell ⟨s0, 1, none⟩ v1) := by
  have p0 := heap_setCell_same _ s0 0 _ _ v0 q0
  have p1 := heap_setCell_same _ s0 1 _ _ v1 p0
  refine ⟨p1, fun s1 o h q1 => ?_, ?_⟩
  · rw [Below.heap_setCell _ _ _ _ (by simp; exact fun e => h e.symm), Below.heap_setCell _ _ _ _ (by simp; exact fun e => h e.symm)]
    exact q1
  · exact (((Chg.refl [s0] w).put' 0 v0).put' 1 v1)

theorem Rs.ple_ {w w' : World} {b : Nat} {xs : List UInt8} {p : Nat} {fe fa : Int} (h : Rs w w' b xs p fe fa) : p ≤ xs.length := by
  obtain ⟨g, _, _, _, _, h5, _⟩ := h
  exact h5
theorem readA_bad {xs : List UInt8} (h : (rF xs).1 ≠ 0) : readA xs = ((0, []), rF xs) := if_pos h
theorem readA_odd {xs : List UInt8} (h : (rF xs).1 = 0) (h2 : (readS (rR xs).1).2.1 ≠ 0) : readA xs = ((0, []), (2, 0)) := by unfold readA; rw [if_neg (fun q => q h), if_pos h2]
theorem readA_yes {xs : List UInt8} (h : (rF xs).1 = 0) (h2 : (readS (rR xs).1).2.1 = 0) : readA xs = (((rN xs).1, (readS (rR xs).1).1), (0, 0)) := by unfold readA; rw [if_neg (fun q => q h), if_neg (fun q => q h2)]

set_option maxRecDepth 100000 in
set_option maxHeartbeats 8000000 in
theorem edread_any (w : World) (A : Option Addr) (n c : Nat) (xs : List UInt8) (h : Bs w A n xs) (hn : n ≤ 100000) :
    Calls Tryz.prog 24 #[.slice A n c] w fun r w' => ∃ A' c', r = .returned (.tuple #[.agg #[.int .i64 (readA xs).1.1, .slice A' (readA xs).1.2.length c'], .agg #[.int .i64 (readA xs).2.1, .int .i64 (readA xs).2.2]]) ∧ OwnK spanTy w' A' c' (readA xs).1.2 ∧ (∀ a, A' = some a → w.heap.size ≤ a.block) ∧ Chg [] w w' := by
  have hl := h.len
  subst hl
  obtain ⟨w0, hw, hc, b0, b1⟩ := news2 w (.cells #[.int .i64 0, .slice none 0 0] 24) (.cells #[.int .i64 0, .int .i64 0] 46)
  have W1 := Lib.hid hw
  have H := Lib.hid (h.chg hc (by simp))
  have C := Lib.hid (hc)
  have B0 := Lib.hid (b0)
  have B1 := Lib.hid (b1)
  have HN := Lib.hid (hn)
  generalize hv : readA xs = v
  have HV := Lib.hid hv
  clear hw hc b0 b1 h hn hv
  go_enter Tryz.func24, Tryz.ntmps24
  go_upto_region 1 with fail
  rw [← W1.out]
  generalize hz1 : w.heap.size + 1 = g1 at *
  generalize hz0 : w.heap.size = g0 at *
  have Z := Lib.hid (And.intro hz0 (hz1))
  have n01 : ¬ g0 = g1 := by omega
  have n10 : ¬ g1 = g0 := by omega
  clear W1 hz0 hz1
  go_wp2_with fail
  refine (rs_open w0 w0 A xs.length c xs (Chg.refl _ _) H.out (by have := HN.out; omega)).mono ?_
  rintro e w1 ⟨b, rfl, h1⟩
  have K := Lib.hid h1
  clear h1
  go_wp2_with fail
  have r1 := rs_num w0 w1 b xs 0 0 0 1 200 K.out
  change Calls _ _ _ _ (fun r w' => r = .returned (.int .i64 (rN xs).1) ∧ Rs w0 w' b xs (rN xs).2.1 (rN xs).2.2.1 (rN xs).2.2.2 ∧ _) at r1
  refine r1.mono ?_
  rintro e w2 ⟨rfl, h2, -⟩
  replace K := Lib.hid h2
  clear h2 r1
  have LR : Hid ((rR xs).1.length ≤ xs.length) := Lib.hid (rRaw_le K.out.ple_).1
  go_wp2_with fail
  have r1 := rs_raw w0 w2 b xs _ _ _ 40000 K.out
  change Calls _ _ _ _ (fun r w' => ∃ A1 c1, r = .returned (.slice A1 (rR xs).1.length c1) ∧ OwnB w' A1 c1 (rR xs).1 ∧ (∀ a, A1 = some a → w2.heap.size ≤ a.block) ∧ Rs w0 w' b xs (rR xs).2.1 (rR xs).2.2.1 (rR xs).2.2.2 ∧ _) at r1
  refine r1.mono ?_
  rintro e w3 ⟨A3, c3, rfl, o3, n3, h3, -⟩
  have O3 := Lib.hid o3
  replace K := Lib.hid h3
  clear h3 r1 o3 n3
  go_wp2_with fail
  have r1 := rs_end w0 w3 b xs _ _ _ K.out
  change Calls _ _ _ _ (fun r w' => r = .returned (.agg #[.int .i64 (rF xs).1, .int .i64 (rF xs).2]) ∧ _) at r1
  refine r1.mono ?_
  rintro e w4 ⟨rfl, hc⟩
  have hd := K.out.chg.trans hc
  replace O3 := Lib.hid (O3.out.chg hc (by simp))
  replace C := Lib.hid (C.out.trans hd)
  replace B0 := Lib.hid (hd.at_ B0.out (by simp))
  replace B1 := Lib.hid (hd.at_ B1.out (by simp))
  clear hc hd r1 K
  obtain ⟨w5, hw, hc, b7⟩ := news1 w4 (.cells #[.int .i64 (rF xs).1, .int .i64 (rF xs).2] 46)
  have W5 := Lib.hid hw
  have B7 := Lib.hid b7
  have NS : Hid (¬ g0 = w4.heap.size ∧ ¬ g1 = w4.heap.size) := Lib.hid (by have := lt_of_heap B0.out; have := lt_of_heap B1.out; omega)
  replace O3 := Lib.hid (O3.out.chg hc (by simp))
  replace C := Lib.hid (C.out.trans hc)
  replace B0 := Lib.hid (hc.at_ B0.out (by simp))
  replace B1 := Lib.hid (hc.at_ B1.out (by simp))
  clear hw hc b7
  go_upto_region 4 with fail
  rw [← W5.out]
  generalize w4.heap.size = s7 at *
  clear W5
  have y0 := cell_of B7.out 0
  have y1 := cell_of B7.out 1
  simp only [List.getElem?_toArray, List.getElem?_cons_succ, List.getElem?_cons_zero] at y0 y1
  by_cases he : (rF xs).1 = 0
  rotate_left
  · skip
    have he' : ((rF xs).1 != 0) = true := bne_iff_ne.2 he
    have e3 : ((rF xs).1 == 0) = false := beq_eq_false_iff_ne.2 he
    obtain rfl : v = ((0, []), rF xs) := by rw [← HV.out]; exact readA_bad he
    go_upto_region 5 with fail
    clear HV he he' e3
    have n07 : ¬ g0 = s7 := NS.out.1
    have n17 : ¬ g1 = s7 := NS.out.2
    refine wp_region_held_drew (S := fun w' => w'.cell? ⟨s7, 0, none⟩ = some (.int .i64 (rF xs).1) ∧ w'.cell? ⟨s7, 1, none⟩ = some (.int .i64 (rF xs).2)) (by kernel_rfl) ⟨y0, y1⟩ (fun hHeld => ?_)
    have CD := Lib.hid (Chg.refl [] w5).drew
    replace C := Lib.hid (C.out.trans CD.out)
    replace B0 := Lib.hid (CD.out.at_ B0.out (by simp))
    replace B1 := Lib.hid (CD.out.at_ B1.out (by simp))
    replace B7 := Lib.hid (CD.out.at_ B7.out (by simp))
    clear CD hHeld y0 y1
    generalize w5.drew = wc at *
    refine sy 0 21 rfl rfl ?_ (hS := ⟨cell_of B7.out 0, cell_of B7.out 1⟩)
    try simp only [Act.put, sA, s0, s1]
    refine sy 1 22 rfl rfl ?_ (hS := ⟨cell_of B7.out 0, cell_of B7.out 1⟩) (hy := by (intro w hSw; (try dsimp only at hSw); obtain ⟨q0, q1⟩ := hSw; go_simp; try with_reducible rfl))
    try simp only [Act.put, sA, s0, s1]
    refine wpAnyH_ready (rs := [2]) (by kernel_rfl) (by simp) ?_
    refine AllReadyH.cons rfl (fun K hK => ?_) AllReadyH.nil
    replace hK := Lib.hid hK
    have t0 := cell_of B0.out 0
    have t1 := cell_of B0.out 1
    have ft0 := free_of B0.out 0
    have ft1 := free_of B0.out 1
    simp only [List.getElem?_toArray, List.getElem?_cons_succ, List.getElem?_cons_zero] at t0 t1
    go_simp
    clear t0 t1 ft0 ft1
    obtain ⟨p0, p1, p2⟩ := setE2 (.int .i64 0) (.slice none 0 0) B0.out
    generalize ((wc.setCell ⟨g0, 0, none⟩ (.int .i64 0)).setCell ⟨g0, 1, none⟩ (.slice none 0 0)) = wa at *
    have Q0 := Lib.hid p0
    have Q1 := Lib.hid (p1 g1 _ n01 B1.out)
    have Q7 := Lib.hid (p1 s7 _ n07 B7.out)
    have CA := Lib.hid p2
    clear p0 p1 p2
    refine hK.out _ _ ⟨cell_of Q7.out 0, cell_of Q7.out 1⟩ (fun hHeld => ?_)
    clear hK K
    try simp only [Act.put, sA, s0, s1]
    refine wpAnyH_ready (rs := [3]) (by kernel_rfl) (by simp) ?_
    refine AllReadyH.cons rfl (fun K hK => ?_) AllReadyH.nil
    replace hK := Lib.hid hK
    have u0 := cell_of Q1.out 0
    have u1 := cell_of Q1.out 1
    have fu0 := free_of Q1.out 0
    have fu1 := free_of Q1.out 1
    simp only [List.getElem?_toArray, List.getElem?_cons_succ, List.getElem?_cons_zero] at u0 u1
    go_simp
    clear u0 u1 fu0 fu1
    obtain ⟨p0, p1, p2⟩ := setE2 (.int .i64 (rF xs).1) (.int .i64 (rF xs).2) Q1.out
    generalize ((wa.setCell ⟨g1, 0, none⟩ (.int .i64 (rF xs).1)).setCell ⟨g1, 1, none⟩ (.int .i64 (rF xs).2)) = wz at *
    have P9 := And.intro (p1 g0 _ n10 Q0.out) p0
    have R7 := Lib.hid (p1 s7 _ n17 Q7.out)
    have C9 : Chg [g0, g1] wc wz := (CA.out.mono (fun i hi => .inl (by simp at hi; simp [hi]))).trans (p2.mono (fun i hi => .inl (by simp at hi; simp [hi])))
    clear p0 p1 p2
    refine hK.out _ _ ⟨cell_of R7.out 0, cell_of R7.out 1⟩ (fun hHeld => ?_)
    clear hK K
    try simp only [Act.put, sA, s0, s1]
    refine wpAnyH_done (by kernel_rfl) ?_ _
    clear hHeld
    go_wp2
    have P0 := Lib.hid P9.1
    have P1 := Lib.hid P9.2
    have t0 := cell_of P0.out 0
    have t1 := cell_of P0.out 1
    simp only [List.getElem?_toArray, List.getElem?_cons_succ, List.getElem?_cons_zero] at t0 t1
    have u0 := cell_of P1.out 0
    have u1 := cell_of P1.out 1
    simp only [List.getElem?_toArray, List.getElem?_cons_succ, List.getElem?_cons_zero] at u0 u1
    refine bodyPost_ret (v := .tuple #[.agg #[.int .i64 0, .slice none 0 0], .agg #[.int .i64 (rF xs).1, .int .i64 (rF xs).2]]) (by simp [results, Tryz.results24, go_sem, t0, t1, u0, u1]) rfl ?_
    exact ⟨none, 0, rfl, OwnK.none_ _, by simp, C.out.trans' C9 (fun i hi => .inr (by have := Z.out; simp at hi; omega))⟩
  have he' : ((rF xs).1 != 0) = false := by simpa using he
  have FZ := Lib.hid (rN_calm he).2.2.1
  have HE := Lib.hid he
  clear he
  go_wp2_with fail
  clear he'
  clear y0 y1
  refine (paread_any w5 A3 _ c3 (rR xs).1 O3.out.reads (by have := LR.out; have := HN.out; omega) O3.out.cap.1 (by have := O3.out.cap.2; unfold maxLen at this; omega)).mono ?_
  rintro e w6 ⟨A6, c6, rfl, ho, hnw, hc⟩
  have N6 : Hid (∀ a, A6 = some a → w5.heap.size ≤ a.block) := Lib.hid hnw
  have O := Lib.hid ho
  have L5 : Hid (g0 < w5.heap.size ∧ g1 < w5.heap.size) := Lib.hid ⟨lt_of_heap B0.out, lt_of_heap B1.out⟩
  replace C := Lib.hid (C.out.trans hc)
  replace B0 := Lib.hid (hc.at_ B0.out (by simp))
  replace B1 := Lib.hid (hc.at_ B1.out (by simp))
  replace B7 := Lib.hid (hc.at_ B7.out (by simp))
  clear hc ho hnw O3
  obtain ⟨QE, hQE⟩ : ∃ x, readS (rR xs).1 = x := ⟨_, rfl⟩
  have HQE := Lib.hid hQE
  rw [hQE] at O ⊢
  clear hQE
  obtain ⟨w7, hw, hc, b9⟩ := news1 w6 (.cells #[.int .i64 QE.2.1, .int .i64 QE.2.2] 46)
  have W7 := Lib.hid hw
  have B9 := Lib.hid b9
  replace O := Lib.hid (O.out.chg hc (by simp))
  replace C := Lib.hid (C.out.trans hc)
  replace B0 := Lib.hid (hc.at_ B0.out (by simp))
  replace B1 := Lib.hid (hc.at_ B1.out (by simp))
  replace B7 := Lib.hid (hc.at_ B7.out (by simp))
  clear hw hc b9
  go_upto_region 7 with fail
  rw [← W7.out]
  generalize w6.heap.size = s9 at *
  clear W7
  have y0 := cell_of B9.out 0
  have y1 := cell_of B9.out 1
  simp only [List.getElem?_toArray, List.getElem?_cons_succ, List.getElem?_cons_zero] at y0 y1
  by_cases hq : QE.2.1 = 0
  rotate_left
  · skip
    have q1 : (QE.2.1 != 0) = true := bne_iff_ne.2 hq
    have q2 : (QE.2.1 == 0) = false := beq_eq_false_iff_ne.2 hq
    obtain rfl : v = ((0, []), (2, 0)) := by rw [← HV.out]; exact readA_odd HE.out (by rw [HQE.out]; exact hq)
    go_upto_region 8 with fail
    clear HV hq q1 q2
    clear y0 y1
    have t0 := cell_of B0.out 0
    have t1 := cell_of B0.out 1
    have ft0 := free_of B0.out 0
    have ft1 := free_of B0.out 1
    simp only [List.getElem?_toArray, List.getElem?_cons_succ, List.getElem?_cons_zero] at t0 t1
    have u0 := cell_of B1.out 0
    have u1 := cell_of B1.out 1
    have fu0 := free_of B1.out 0
    have fu1 := free_of B1.out 1
    simp only [List.getElem?_toArray, List.getElem?_cons_succ, List.getElem?_cons_zero] at u0 u1
    go_wp2
    clear t0 t1 ft0 ft1
    clear u0 u1 fu0 fu1
    have P9 := put22 (.int .i64 0) (.slice none 0 0) (.int .i64 2) (.int .i64 0) B0.out B1.out n01
    have C9 : Chg [g0, g1] w7 ((((w7.setCell ⟨g0, 0, none⟩ (.int .i64 0)).setCell ⟨g0, 1, none⟩ (.slice none 0 0)).setCell ⟨g1, 0, none⟩ (.int .i64 2)).setCell ⟨g1, 1, none⟩ (.int .i64 0)) := (((((Chg.refl [g0, g1] w7).setCell (p := ⟨g0, 0, none⟩) (.inl (by simp)) _).setCell (p := ⟨g0, 1, none⟩) (.inl (by simp)) _).setCell (p := ⟨g1, 0, none⟩) (.inl (by simp)) _).setCell (p := ⟨g1, 1, none⟩) (.inl (by simp)) _)
    generalize ((((w7.setCell ⟨g0, 0, none⟩ (.int .i64 0)).setCell ⟨g0, 1, none⟩ (.slice none 0 0)).setCell ⟨g1, 0, none⟩ (.int .i64 2)).setCell ⟨g1, 1, none⟩ (.int .i64 0)) = wz at *
    have P0 := Lib.hid P9.1
    have P1 := Lib.hid P9.2
    have t0 := cell_of P0.out 0
    have t1 := cell_of P0.out 1
    simp only [List.getElem?_toArray, List.getElem?_cons_succ, List.getElem?_cons_zero] at t0 t1
    have u0 := cell_of P1.out 0
    have u1 := cell_of P1.out 1
    simp only [List.getElem?_toArray, List.getElem?_cons_succ, List.getElem?_cons_zero] at u0 u1
    refine bodyPost_ret (v := .tuple #[.agg #[.int .i64 0, .slice none 0 0], .agg #[.int .i64 2, .int .i64 0]]) (by simp [results, Tryz.results24, go_sem, t0, t1, u0, u1]) rfl ?_
    exact ⟨none, 0, rfl, OwnK.none_ _, by simp, C.out.trans' C9 (fun i hi => .inr (by have := Z.out; simp at hi; omega))⟩
  have q1 : (QE.2.1 != 0) = false := by simpa using hq
  obtain rfl : v = (((rN xs).1, QE.1), (0, 0)) := by rw [← HV.out, readA_yes HE.out (by rw [HQE.out]; exact hq), HQE.out]
  rw [hq] at y0
  go_upto_region 9 with fail
  clear HV hq q1
  clear y0 y1
  have t0 := cell_of B0.out 0
  have t1 := cell_of B0.out 1
  have ft0 := free_of B0.out 0
  have ft1 := free_of B0.out 1
  simp only [List.getElem?_toArray, List.getElem?_cons_succ, List.getElem?_cons_zero] at t0 t1
  have u0 := cell_of B1.out 0
  have u1 := cell_of B1.out 1
  have fu0 := free_of B1.out 0
  have fu1 := free_of B1.out 1
  simp only [List.getElem?_toArray, List.getElem?_cons_succ, List.getElem?_cons_zero] at u0 u1
  go_wp2
  clear t0 t1 ft0 ft1
  clear u0 u1 fu0 fu1
  have P9 := put22 (.int .i64 (rN xs).1) (.slice A6 QE.1.length c6) (.int .i64 0) (.int .i64 0) B0.out B1.out n01
  have C9 : Chg [g0, g1] w7 ((((w7.setCell ⟨g0, 0, none⟩ (.int .i64 (rN xs).1)).setCell ⟨g0, 1, none⟩ (.slice A6 QE.1.length c6)).setCell ⟨g1, 0, none⟩ (.int .i64 0)).setCell ⟨g1, 1, none⟩ (.int .i64 0)) := (((((Chg.refl [g0, g1] w7).setCell (p := ⟨g0, 0, none⟩) (.inl (by simp)) _).setCell (p := ⟨g0, 1, none⟩) (.inl (by simp)) _).setCell (p := ⟨g1, 0, none⟩) (.inl (by simp)) _).setCell (p := ⟨g1, 1, none⟩) (.inl (by simp)) _)
  generalize ((((w7.setCell ⟨g0, 0, none⟩ (.int .i64 (rN xs).1)).setCell ⟨g0, 1, none⟩ (.slice A6 QE.1.length c6)).setCell ⟨g1, 0, none⟩ (.int .i64 0)).setCell ⟨g1, 1, none⟩ (.int .i64 0)) = wz at *
  have P0 := Lib.hid P9.1
  have P1 := Lib.hid P9.2
  have t0 := cell_of P0.out 0
  have t1 := cell_of P0.out 1
  simp only [List.getElem?_toArray, List.getElem?_cons_succ, List.getElem?_cons_zero] at t0 t1
  have u0 := cell_of P1.out 0
  have u1 := cell_of P1.out 1
  simp only [List.getElem?_toArray, List.getElem?_cons_succ, List.getElem?_cons_zero] at u0 u1
  refine bodyPost_ret (v := .tuple #[.agg #[.int .i64 (rN xs).1, .slice A6 QE.1.length c6], .agg #[.int .i64 0, .int .i64 0]]) (by simp [results, Tryz.results24, go_sem, t0, t1, u0, u1]) rfl ?_
  exact ⟨A6, c6, rfl, O.out.chg C9 (fun a ha => by have := N6.out a ha; have := L5.out; simp; omega), (fun a ha => by have := N6.out a ha; have := L5.out; have := Z.out; omega), C.out.trans' C9 (fun i hi => .inr (by have := Z.out; simp at hi; omega))⟩
end
section
open Go.RowKit Go.Lib
set_option linter.unusedSimpArgs false
set_option linter.unusedVariables false


theorem qfour_at {w : World} {g o n : Nat} {ys : List UInt8} (h : Bs w (some ⟨g, o, none⟩) n ys) (p n' c' : Nat) (hp : p + 4 ≤ n) (hn : 4 ≤ n') :
    Calls Tryz.prog 84 #[.slice (some ⟨g, o + p, none⟩) n' c'] w fun e w' => e = .returned (.int .i64 (numB ((ys.drop p).take 4) : Int)) ∧ Chg [] w w' := by
  have hl := h.len
  obtain ⟨g2, o2, e, k0, k1, k2, k3⟩ := h.at4 p ys[p] ys[p + 1] ys[p + 2] ys[p + 3] (List.getElem?_eq_getElem (by omega)) (List.getElem?_eq_getElem (by omega)) (List.getElem?_eq_getElem (by omega)) (List.getElem?_eq_getElem (by omega))
  cases e
  have e4 : (ys.drop p).take 4 = [ys[p], ys[p + 1], ys[p + 2], ys[p + 3]] := by
    rw [List.drop_eq_getElem_cons (by omega), List.drop_eq_getElem_cons (by omega), List.drop_eq_getElem_cons (by omega), List.drop_eq_getElem_cons (by omega)]
    rfl
  rw [e4, numB_four]
  exact qfour_cells w g (o + p) n' c' _ _ _ _ (UInt8.toNat_lt _) (UInt8.toNat_lt _) (UInt8.toNat_lt _) (UInt8.toNat_lt _) hn k0 k1 k2 k3
theorem numB_two {ys : List UInt8} {a b : UInt8} (h0 : ys[0]? = some a) (h1 : ys[1]? = some b) : numB (ys.take 2) = 256 * a.toNat + b.toNat := by
  match ys, h0, h1 with
  | x :: y :: l, h0, h1 =>
    simp at h0 h1
    subst h0 h1
    simp [numB]
    omega

theorem qread_short (w : World) (A : Option Addr) (n c : Nat) (ys : List UInt8) (h : Bs w A n ys) (h2 : ys.length < 2) :
    Calls Tryz.prog 57 #[.slice A n c] w fun e w' => ∃ A' c', e = .returned (.tuple #[.slice A' (readS ys).1.length c', .agg #[.int .i64 (readS ys).2.1, .int .i64 (readS ys).2.2]]) ∧ OwnK spanTy w' A' c' (readS ys).1 ∧ (∀ a, A' = some a → w.heap.size ≤ a.block) ∧ Chg [] w w' := by
  rw [readS_short h2]
  have hl := h.len
  subst hl
  have h3 : (ys.length : Int) < 2 := by omega
  clear h h2
  go_enter Tryz.func57, Tryz.ntmps57
  go_wp2
  refine bodyPost_ret (v := .tuple #[.slice none 0 0, .agg #[.int .i64 4, .int .i64 ys.length]]) (by simp [results, Tryz.results57, go_sem]) rfl ?_
  exact ⟨none, 0, rfl, OwnK.none_ _, by simp, (Chg.refl _ _).alloc _⟩

set_option maxHeartbeats 2000000 in
set_option maxRecDepth 100000 in
theorem qread_odd (w : World) (g o n c : Nat) (ys : List UInt8) (h : Bs w (some ⟨g, o, none⟩) n ys) (hn : n ≤ 140737488351232) (hc : n ≤ c) (hc2 : c ≤ 9223372036854775807) (hs : ¬ ys.length < 2) (many : Nat) (hm : many = numB (ys.take 2)) (hl : ys.length ≠ 2 + 9 * many) (V : Int) (hV : (ys.length < 2 + 9 * many ∧ V = ys.length) ∨ (2 + 9 * many < ys.length ∧ V = ((2 + 9 * many : Nat) : Int))) :
    Calls Tryz.prog 57 #[.slice (some ⟨g, o, none⟩) n c] w fun e w' => ∃ A' c', e = .returned (.tuple #[.slice A' 0 c', .agg #[.int .i64 4, .int .i64 V]]) ∧ OwnK spanTy w' A' c' [] ∧ (∀ a, A' = some a → w.heap.size ≤ a.block) ∧ Chg [] w w' := by
  have hl0 := h.len
  subst hl0
  have hx0 := List.getElem?_eq_getElem (l := ys) (i := 0) (by omega)
  have hx1 := List.getElem?_eq_getElem (l := ys) (i := 1) (by omega)
  obtain ⟨w1, hw1, c1, b1⟩ := news1 w (.cells #[.int .i64 0, .int .i64 0] 46)
  have W1 := Lib.hid hw1
  have HX := Lib.hid (h.chg c1 (by simp))
  have C1 := Lib.hid c1
  have F1 := Lib.hid b1
  have hg0 : g < w.heap.size := by
    obtain ⟨a, e, hc⟩ := h.cells 0 _ (List.getElem?_eq_getElem (by omega))
    cases e
    have := lt_of_cell hc
    rwa [block_add] at this
  have HG1 := Lib.hid (Nat.lt_of_lt_of_le hg0 c1.size)
  obtain ⟨_, e0, k0⟩ := (h.chg c1 (by simp)).cells 0 _ hx0
  cases e0
  obtain ⟨_, e1, k1⟩ := (h.chg c1 (by simp)).cells 1 _ hx1
  cases e1
  rw [add_lit] at k0 k1
  unfold bv at k0 k1
  simp only [Nat.add_zero] at k0
  have hmm := hm.trans (numB_two hx0 hx1)
  generalize ys[0] = x0 at *
  generalize ys[1] = x1 at *
  have b0l := x0.toNat_lt
  have b1l := x1.toNat_lt
  have h2 : (2 : Int) ≤ (ys.length : Int) := by omega
  have h3 : ¬ ((ys.length : Int) < 2) := by omega
  have h30 : (0 : Int) < (ys.length : Int) := by omega
  have h31 : (1 : Int) < (ys.length : Int) := by omega
  have hwb0 : IntKind.i64.wrap (x0.toNat : Int) = (x0.toNat : Int) := IntWalk.i64_in _ (by omega)
  have hwb1 : IntKind.i64.wrap (x1.toNat : Int) = (x1.toNat : Int) := IntWalk.i64_in _ (by omega)
  have hwm : IntKind.i64.wrap (256 * (x0.toNat : Int)) = 256 * (x0.toNat : Int) := IntWalk.i64_in _ (by omega)
  have hws : IntKind.i64.wrap (256 * (x0.toNat : Int) + (x1.toNat : Int)) = (many : Int) := by rw [IntWalk.i64_in _ (by omega)]; omega
  have hmk : many < 65536 := by omega
  have HM := Lib.hid hm
  clear hw1 c1 b1 h hg0 hx0 hx1 hm
  rcases hV with ⟨hv, rfl⟩ | ⟨hv, rfl⟩
  · have hlt : (ys.length : Int) < 2 + 9 * (many : Int) := by omega
    clear hv hl hmm
    go_enter Tryz.func57, Tryz.ntmps57
    go_upto_region 3 with fail
    rw [← W1.out]
    clear W1
    go_quiet (fail)
    generalize hw2 : w1.drewN _ = w2 at *
    have C2 := Lib.hid (show Chg [] w w2 by rw [← hw2]; exact C1.out.drewN _)
    have F2 := Lib.hid (show w2.heap[w.heap.size]? = some (.cells #[.int .i64 0, .int .i64 0] 46 (0, 0)) by rw [← hw2]; exact F1.out)
    clear hw2 k0 k1 hwb0 hwb1 hwm hws
    generalize hs0 : w.heap.size = s0 at *
    have HS0 := Lib.hid (Nat.le_of_eq hs0)
    clear hs0
    have hb := F2.out
    have z0 := cell_of hb 0
    have z1 := cell_of hb 1
    have f0 := free_of hb 0
    have f1 := free_of hb 1
    simp only [List.getElem?_toArray, List.getElem?_cons_succ, List.getElem?_cons_zero] at z0 z1
    have e0 := heap_setCell_same _ s0 0 _ _ (.int .i64 4) hb
    have e1 := heap_setCell_same _ s0 1 _ _ (.int .i64 ys.length) e0
    have HE : Hid (((w2.setCell ⟨s0, 0, none⟩ (.int .i64 4)).setCell ⟨s0, 1, none⟩ (.int .i64 ys.length)).heap[s0]? = some (.cells #[.int .i64 4, .int .i64 ys.length] 46 (0, 0))) := Lib.hid (by simpa using e1)
    have CW := Lib.hid (Chg.put (Chg.put C2.out HS0.out 0 (.int .i64 4)) HS0.out 1 (.int .i64 ys.length))
    clear hb e0 e1
    go_wp2
    generalize (w2.setCell ⟨s0, 0, none⟩ (.int .i64 4)).setCell ⟨s0, 1, none⟩ (.int .i64 ys.length) = W at *
    clear z0 z1 f0 f1
    have z0 := cell_of HE.out 0
    have z1 := cell_of HE.out 1
    simp only [List.getElem?_toArray, List.getElem?_cons_succ, List.getElem?_cons_zero] at z0 z1
    refine bodyPost_ret (v := .tuple #[.slice none 0 0, .agg #[.int .i64 4, .int .i64 ys.length]]) (by simp [results, Tryz.results57, go_sem, z0, z1]) rfl ?_
    exact ⟨none, 0, rfl, OwnK.none_ _, by simp, CW.out⟩
  · have hlt : ¬ (ys.length : Int) < 2 + 9 * (many : Int) := by omega
    have hlt2 : 2 + 9 * (many : Int) < (ys.length : Int) := by omega
    clear hv hl hmm
    go_enter Tryz.func57, Tryz.ntmps57
    go_upto_region 3 with fail
    rw [← W1.out]
    clear W1
    go_quiet (fail)
    generalize hw2 : w1.drewN _ = w2 at *
    have C2 := Lib.hid (show Chg [] w w2 by rw [← hw2]; exact C1.out.drewN _)
    have F2 := Lib.hid (show w2.heap[w.heap.size]? = some (.cells #[.int .i64 0, .int .i64 0] 46 (0, 0)) by rw [← hw2]; exact F1.out)
    clear hw2 k0 k1 hwb0 hwb1 hwm hws
    generalize hs0 : w.heap.size = s0 at *
    have HS0 := Lib.hid (Nat.le_of_eq hs0)
    clear hs0
    have hb := F2.out
    have z0 := cell_of hb 0
    have z1 := cell_of hb 1
    have f0 := free_of hb 0
    have f1 := free_of hb 1
    simp only [List.getElem?_toArray, List.getElem?_cons_succ, List.getElem?_cons_zero] at z0 z1
    have e0 := heap_setCell_same _ s0 0 _ _ (.int .i64 4) hb
    have e1 := heap_setCell_same _ s0 1 _ _ (.int .i64 (2 + 9 * (many : Int))) e0
    have HE : Hid (((w2.setCell ⟨s0, 0, none⟩ (.int .i64 4)).setCell ⟨s0, 1, none⟩ (.int .i64 (2 + 9 * (many : Int)))).heap[s0]? = some (.cells #[.int .i64 4, .int .i64 (2 + 9 * (many : Int))] 46 (0, 0))) := Lib.hid (by simpa using e1)
    have CW := Lib.hid (Chg.put (Chg.put C2.out HS0.out 0 (.int .i64 4)) HS0.out 1 (.int .i64 (2 + 9 * (many : Int))))
    clear hb e0 e1
    go_wp2
    generalize (w2.setCell ⟨s0, 0, none⟩ (.int .i64 4)).setCell ⟨s0, 1, none⟩ (.int .i64 (2 + 9 * (many : Int))) = W at *
    clear z0 z1 f0 f1
    have z0 := cell_of HE.out 0
    have z1 := cell_of HE.out 1
    simp only [List.getElem?_toArray, List.getElem?_cons_succ, List.getElem?_cons_zero] at z0 z1
    refine bodyPost_ret (v := .tuple #[.slice none 0 0, .agg #[.int .i64 4, .int .i64 (2 + 9 * (many : Int))]]) (by simp [results, Tryz.results57, go_sem, z0, z1]) rfl ?_
    exact ⟨none, 0, rfl, OwnK.none_ _, by simp, CW.out⟩

set_option maxHeartbeats 4000000 in
set_option maxRecDepth 100000 in
theorem qread_loop (w : World) (g o n c : Nat) (ys : List UInt8) (h : Bs w (some ⟨g, o, none⟩) n ys) (hn : n ≤ 140737488351232) (hc : n ≤ c) (hc2 : c ≤ 9223372036854775807) (many : Nat) (hm : many = numB (ys.take 2)) (hl : ys.length = 2 + 9 * many) (L : List (Int × Int × Int)) (E : Int) (hck : (chkS (spansR ys many) = 0 ∧ L = spansR ys many ∧ E = 0) ∨ (chkS (spansR ys many) = 2 ∧ L = [] ∧ E = 2)) :
    Calls Tryz.prog 57 #[.slice (some ⟨g, o, none⟩) n c] w fun e w' => ∃ A' c', e = .returned (.tuple #[.slice A' L.length c', .agg #[.int .i64 E, .int .i64 0]]) ∧ OwnK spanTy w' A' c' L ∧ (∀ a, A' = some a → w.heap.size ≤ a.block) ∧ Chg [] w w' := by
  have HCK := Lib.hid hck
  clear hck
  have hl0 := h.len
  subst hl0
  have hx0 := List.getElem?_eq_getElem (l := ys) (i := 0) (by omega)
  have hx1 := List.getElem?_eq_getElem (l := ys) (i := 1) (by omega)
  obtain ⟨w1, hw1, c1, b1⟩ := news1 w (.cells #[.int .i64 0, .int .i64 0] 46)
  have W1 := Lib.hid hw1
  have HX := Lib.hid (h.chg c1 (by simp))
  have C1 := Lib.hid c1
  have F1 := Lib.hid b1
  have hg0 : g < w.heap.size := by
    obtain ⟨a, e, hc⟩ := h.cells 0 _ (List.getElem?_eq_getElem (by omega))
    cases e
    have := lt_of_cell hc
    rwa [block_add] at this
  have HG1 := Lib.hid (Nat.lt_of_lt_of_le hg0 c1.size)
  obtain ⟨_, e0, k0⟩ := (h.chg c1 (by simp)).cells 0 _ hx0
  cases e0
  obtain ⟨_, e1, k1⟩ := (h.chg c1 (by simp)).cells 1 _ hx1
  cases e1
  rw [add_lit] at k0 k1
  unfold bv at k0 k1
  simp only [Nat.add_zero] at k0
  have hmm := hm.trans (numB_two hx0 hx1)
  generalize ys[0] = x0 at *
  generalize ys[1] = x1 at *
  have b0l := x0.toNat_lt
  have b1l := x1.toNat_lt
  have h2 : (2 : Int) ≤ (ys.length : Int) := by omega
  have h3 : ¬ ((ys.length : Int) < 2) := by omega
  have h30 : (0 : Int) < (ys.length : Int) := by omega
  have h31 : (1 : Int) < (ys.length : Int) := by omega
  have hwb0 : IntKind.i64.wrap (x0.toNat : Int) = (x0.toNat : Int) := IntWalk.i64_in _ (by omega)
  have hwb1 : IntKind.i64.wrap (x1.toNat : Int) = (x1.toNat : Int) := IntWalk.i64_in _ (by omega)
  have hwm : IntKind.i64.wrap (256 * (x0.toNat : Int)) = 256 * (x0.toNat : Int) := IntWalk.i64_in _ (by omega)
  have hws : IntKind.i64.wrap (256 * (x0.toNat : Int) + (x1.toNat : Int)) = (many : Int) := by rw [IntWalk.i64_in _ (by omega)]; omega
  have hmk : many < 65536 := by omega
  have HM := Lib.hid hm
  clear hw1 c1 b1 h hg0 hx0 hx1 hm
  have hlt : ¬ (ys.length : Int) < 2 + 9 * (many : Int) := by omega
  have hlt2 : ¬ 2 + 9 * (many : Int) < (ys.length : Int) := by omega
  have HL := Lib.hid hl
  clear hmm
  go_enter Tryz.func57, Tryz.ntmps57
  go_upto_region 3 with fail
  rw [← W1.out]
  clear W1
  go_quiet (fail)
  generalize hw2 : w1.drewN _ = w2 at *
  have HX2 := Lib.hid (show Bs w2 (some ⟨g, o, none⟩) ys.length ys by rw [← hw2]; exact HX.out.chg ((Chg.refl [] w1).drewN _) (by simp))
  have C2 := Lib.hid (show Chg [] w w2 by rw [← hw2]; exact C1.out.drewN _)
  have F2 := Lib.hid (show w2.heap[w.heap.size]? = some (.cells #[.int .i64 0, .int .i64 0] 46 (0, 0)) by rw [← hw2]; exact F1.out)
  have HG0 := Lib.hid (show g < w2.heap.size by rw [← hw2]; exact HG1.out)
  clear hw2 k0 k1 hwb0 hwb1 hwm hws HX C1 F1 HG1 hl
  generalize hs0 : w.heap.size = s0 at *
  have HS0 := Lib.hid (Nat.le_of_eq hs0)
  clear hs0
  go_wp2
  go_loopw [5, 6] (fun v5 v6 wr => ∃ (k : Nat) (B : Option Addr) (cc : Nat), k ≤ many ∧ v5 = .slice B k cc ∧ v6 = .int .i64 (k : Int) ∧ Hid (OwnK spanTy wr B cc (spansR ys k) ∧ (∀ a, B = some a → w2.heap.size ≤ a.block) ∧ Chg [] w2 wr)) (fun _ v6 _ => many - (RowKit.intOf v6).toNat)
  case atStart => exact ⟨0, none, 0, Nat.zero_le _, rfl, rfl, OwnK.none_ _, by simp, Chg.refl _ _⟩
  case round =>
    obtain ⟨k, B, cc, hk, rfl, rfl, HI⟩ := hrel
    generalize wr = w4 at *
    clear wr
    by_cases hlt3 : k < many
    · have hl := HL.out
      have hq : 2 + 9 * k < ys.length := by omega
      have ex := List.getElem?_eq_getElem hq
      have HX4 := Lib.hid (HX2.out.chg HI.out.2.2 (by simp))
      obtain ⟨ad, eA, hcell⟩ := HX4.out.cells _ _ ex
      cases eA
      rw [add_lit] at hcell
      have e1 : (ys.drop (2 + 9 * k)).take 1 = [ys[2 + 9 * k]] := by rw [List.drop_eq_getElem_cons hq]; rfl
      generalize ys[2 + 9 * k] = x at *
      have E1 := Lib.hid e1
      unfold bv at hcell
      have j1 : (0 : Int) ≤ 2 + 9 * (k : Int) := by omega
      have j2 : 2 + 9 * (k : Int) ≤ (ys.length : Int) := by omega
      have j3 : ¬ c = 2 + 9 * k := by omega
      have j4 : ¬ 2 + 9 * k = c := by omega
      have j5 : (2 + 9 * (k : Int)).toNat = 2 + 9 * k := by omega
      have j6 : 2 + 9 * k ≤ ys.length := by omega
      have hsp : spanAt ys (2 + 9 * k) = ((x.toNat : Int), (numB ((ys.drop (2 + 9 * k + 1)).take 4) : Int), (numB ((ys.drop (2 + 9 * k + 5)).take 4) : Int)) := by
        unfold spanAt
        rw [E1.out]
        simp [numB]
      have HSP := Lib.hid hsp
      have LR1 := Lib.hid (spansR_len ys k)
      have BND := Lib.hid (show (k + 1) * 400 ≤ 140737488355327 by omega)
      have HWX := Lib.hid (show IntKind.i64.wrap (x.toNat : Int) = (x.toNat : Int) from IntWalk.i64_in _ (by have := x.toNat_lt; omega))
      have hgB : g ∉ (B.map (·.block)).toList := by
        cases B with
        | none => simp
        | some a =>
          have h1 := HI.out.2.1 a rfl
          have h2 := HG0.out
          simp
          omega
      have HB := Lib.hid hgB
      have n1p : 9 ≤ ys.length - (2 + 9 * k) := by omega
      have c1p : 9 ≤ c - (2 + 9 * k) := by omega
      have hk4 : ∀ w', Chg (B.map (·.block)).toList w4 w' → w'.cell? ⟨g, o + (2 + 9 * k), none⟩ = some (.int .u8 (x.toNat : Int)) := fun w' h => h.cell hcell (by exact HB.out)
      have HK := Lib.hid hk4
      have Q1 := Lib.hid (fun (w' : World) (hc : Chg [] w4 w') (n' c' : Nat) (hn' : 4 ≤ n') => qfour_at (HX4.out.chg hc (by simp)) (2 + 9 * k + 1) n' c' (by omega) hn')
      have Q2 := Lib.hid (fun (w' : World) (hc : Chg [] w4 w') (n' c' : Nat) (hn' : 4 ≤ n') => qfour_at (HX4.out.chg hc (by simp)) (2 + 9 * k + 5) n' c' (by omega) hn')
      clear ex e1 hq hsp hk4 hcell hgB hl
      generalize (ys.drop (2 + 9 * k + 1)).take 4 = l1 at *
      generalize (ys.drop (2 + 9 * k + 5)).take 4 = l2 at *
      go_upto_region 13 with fail
      clear j1 j2 j3 j4 j5 j6
      generalize hn1 : ys.length - (2 + 9 * k) = n1 at *
      generalize hc1 : c - (2 + 9 * k) = cc1 at *
      clear hn1 hc1
      have j0 : (0 : Int) < (n1 : Int) := by omega
      have j1 : (1 : Int) ≤ (n1 : Int) := by omega
      have j2 : (5 : Int) ≤ (n1 : Int) := by omega
      have j3 : ¬ cc1 = 1 := by omega
      have j4 : ¬ 1 = cc1 := by omega
      have j5 : ¬ cc1 = 5 := by omega
      have j6 : ¬ 5 = cc1 := by omega
      have j0n : 0 < n1 := by omega
      have j7 : 1 ≤ n1 := by omega
      have j8 : 5 ≤ n1 := by omega
      have n4 : 4 ≤ n1 - 1 := by omega
      have n5 : 4 ≤ n1 - 5 := by omega
      refine wp_region_held_drew (S := fun w' => Chg (B.map (·.block)).toList w4 w') (by kernel_rfl) (Chg.refl _ w4).drew (fun hHeld => ?_)
      have C4 := Lib.hid ((Chg.refl [] w4).drew)
      clear hHeld
      refine step_yes 0 53 ?_ (C4.out.mono (by simp)) rfl rfl (by kernel_rfl) (by kernel_rfl) (by kernel_rfl) (fun _ _ _ h => h) (by rfl) ?_ ?_
      rotate_left
      · (intro w hSw; (try dsimp only at hSw); go_simp; try with_reducible rfl)
      try simp only [Act.put, List.setIfInBounds_toArray, List.set_cons_zero, List.set_cons_succ]
      refine step_yes 1 54 ?_ (C4.out.mono (by simp)) rfl rfl (by kernel_rfl) (by kernel_rfl) (by kernel_rfl) (fun _ _ _ h => h) (by rfl) ?_ ?_
      rotate_left
      · (intro w hSw; (try dsimp only at hSw); go_simp; try with_reducible rfl)
      try simp only [Act.put, List.setIfInBounds_toArray, List.set_cons_zero, List.set_cons_succ]
      refine step_yes 2 55 ?_ (C4.out.mono (by simp)) rfl rfl (by kernel_rfl) (by kernel_rfl) (by kernel_rfl) (fun _ _ _ h => h) (by rfl) ?_ ?_
      rotate_left
      · (intro w hSw; (try dsimp only at hSw); go_simp; try with_reducible rfl)
      try simp only [Act.put, List.setIfInBounds_toArray, List.set_cons_zero, List.set_cons_succ]
      refine step_yes 3 56 ?_ (C4.out.mono (by simp)) rfl rfl (by kernel_rfl) (by kernel_rfl) (by kernel_rfl) (fun _ _ _ h => h) (by rfl) ?_ ?_
      rotate_left
      · (intro w hSw; (try dsimp only at hSw); have hq0 := HK.out _ hSw; go_simp; try with_reducible rfl)
      try simp only [Act.put, List.setIfInBounds_toArray, List.set_cons_zero, List.set_cons_succ]
      refine step_yes 4 57 ?_ (C4.out.mono (by simp)) rfl rfl (by kernel_rfl) (by kernel_rfl) (by kernel_rfl) (fun _ _ _ h => h) (by rfl) ?_ ?_
      rotate_left
      · (intro w hSw; (try dsimp only at hSw); go_simp; try with_reducible rfl)
      try simp only [Act.put, List.setIfInBounds_toArray, List.set_cons_zero, List.set_cons_succ]
      refine step_yes 5 58 ?_ (C4.out.mono (by simp)) rfl rfl (by kernel_rfl) (by kernel_rfl) (by kernel_rfl) (fun _ _ _ h => h) (by rfl) ?_ ?_
      rotate_left
      · (intro w hSw; (try dsimp only at hSw); go_simp; try with_reducible rfl)
      try simp only [Act.put, List.setIfInBounds_toArray, List.set_cons_zero, List.set_cons_succ]
      refine step_yes 6 59 ?_ (C4.out.mono (by simp)) rfl rfl (by kernel_rfl) (by kernel_rfl) (by kernel_rfl) (fun _ _ _ h => h) (by rfl) ?_ ?_
      rotate_left
      · (intro w hSw; (try dsimp only at hSw); go_simp; try with_reducible rfl)
      try simp only [Act.put, List.setIfInBounds_toArray, List.set_cons_zero, List.set_cons_succ]
      refine step_yes 8 61 ?_ (C4.out.mono (by simp)) rfl rfl (by kernel_rfl) (by kernel_rfl) (by kernel_rfl) (fun _ _ _ h => h) (by rfl) ?_ ?_
      rotate_left
      · (intro w hSw; (try dsimp only at hSw); go_simp; try with_reducible rfl)
      try simp only [Act.put, List.setIfInBounds_toArray, List.set_cons_zero, List.set_cons_succ]
      refine step_yes 9 62 ?_ (C4.out.mono (by simp)) rfl rfl (by kernel_rfl) (by kernel_rfl) (by kernel_rfl) (fun _ _ _ h => h) (by rfl) ?_ ?_
      rotate_left
      · (intro w hSw; (try dsimp only at hSw); go_simp; try with_reducible rfl)
      try simp only [Act.put, List.setIfInBounds_toArray, List.set_cons_zero, List.set_cons_succ]
      refine wpAnyH_ready (rs := [7]) (by kernel_rfl) (by simp) ?_
      refine AllReadyH.cons rfl (fun K hK => ?_) AllReadyH.nil
      replace hK := Lib.hid hK
      go_simp
      refine (Q1.out _ C4.out _ _ n4).mono ?_
      rintro e w9 ⟨rfl, hc⟩
      have C9 := Lib.hid (C4.out.trans hc)
      clear hc C4
      refine hK.out _ _ (C9.out.mono (by simp)) (fun hHeld => ?_)
      clear hK K
      try simp only [Act.put, List.setIfInBounds_toArray, List.set_cons_zero, List.set_cons_succ]
      clear hHeld
      refine wpAnyH_ready (rs := [10]) (by kernel_rfl) (by simp) ?_
      refine AllReadyH.cons rfl (fun K hK => ?_) AllReadyH.nil
      replace hK := Lib.hid hK
      go_simp
      refine (Q2.out _ C9.out _ _ n5).mono ?_
      rintro e v9 ⟨rfl, hc⟩
      have C8 := Lib.hid (C9.out.trans hc)
      clear hc C9
      refine hK.out _ _ (C8.out.mono (by simp)) (fun hHeld => ?_)
      clear hK K
      try simp only [Act.put, List.setIfInBounds_toArray, List.set_cons_zero, List.set_cons_succ]
      clear hHeld
      refine step_yes 11 64 ?_ (C8.out.mono (by simp)) rfl rfl (by kernel_rfl) (by kernel_rfl) (by kernel_rfl) (fun _ _ _ h => h) (by rfl) ?_ ?_
      rotate_left
      · (intro w hSw; (try dsimp only at hSw); go_simp; try with_reducible rfl)
      try simp only [Act.put, List.setIfInBounds_toArray, List.set_cons_zero, List.set_cons_succ]
      refine wpAnyH_ready (rs := [12]) (by kernel_rfl) (by simp) ?_
      refine AllReadyH.cons rfl (fun K hK => ?_) AllReadyH.nil
      replace hK := Lib.hid hK
      go_simp
      obtain ⟨w5, hw5, c5, b5⟩ := news1 v9 (.cells #[.int .i64 (x.toNat : Int), .int .i64 (numB l1 : Int), .int .i64 (numB l2 : Int)] 78)
      simp only [HWX.out]
      rw [← hw5]
      have C5 := Lib.hid (C8.out.trans c5)
      refine hK.out _ _ (C5.out.mono (by simp)) (fun hHeld => ?_)
      clear hK K hHeld
      try simp only [Act.put, List.setIfInBounds_toArray, List.set_cons_zero, List.set_cons_succ]
      have R5 := Lib.hid (OwnK.of (R := spanTy) (c := 1) (full := [((x.toNat : Int), (numB l1 : Int), (numB l2 : Int))]) (xs := [((x.toNat : Int), (numB l1 : Int), (numB l2 : Int))]) b5 (Nat.le_refl _) (by decide) rfl rfl).reads
      have O5 := Lib.hid (HI.out.1.chg C5.out (by simp))
      clear hw5 c5 b5 C8
      refine wpAnyH_ready (rs := [13]) (by kernel_rfl) (by simp) ?_
      refine AllReadyH.cons rfl (fun K hK => ?_) AllReadyH.nil
      replace hK := Lib.hid hK
      refine step_appK (R := spanTy) rfl (.tmp 53) (.tmp 65) rfl rfl O5.out LR1.out rfl R5.out BND.out ?_
      intro A2 c2 w7 u2 d2 e2
      have C7 := Lib.hid ((C5.out.mono (S' := (B.map (·.block)).toList) (by simp)).grown d2 (fun k hk => .inl (by simp [hk])))
      have AO := app_own (w := w2) HI.out.2.1 (HI.out.2.2.trans C5.out) d2 e2
      have U2 := Lib.hid u2
      have AO2 := Lib.hid AO
      clear u2 d2 e2 AO
      refine hK.out _ _ C7.out (fun hHeld => ?_)
      clear hK K hHeld
      try simp only [Act.put, List.setIfInBounds_toArray, List.set_cons_zero, List.set_cons_succ]
      refine step_yes 14 5 ?_ C7.out rfl rfl (by kernel_rfl) (by kernel_rfl) (by kernel_rfl) (fun _ _ _ h => h) (by rfl) ?_ ?_
      rotate_left
      · (intro w hSw; (try dsimp only at hSw); go_simp; try with_reducible rfl)
      try simp only [Act.put, List.setIfInBounds_toArray, List.set_cons_zero, List.set_cons_succ]
      refine wpAnyH_done (by kernel_rfl) ?_ _
      go_wp2
      go_round
      case rel => exact ⟨k + 1, A2, c2, by omega, by congr 1, by go_num, by rw [spansR_succ, HSP.out]; exact U2.out, AO2.out.1, AO2.out.2⟩
      case measure => simp [RowKit.intOf]; omega
    · obtain rfl : k = many := by omega
      have hw2l := HI.out.1.reads
      go_wp2_with fail
      refine (qacheck_any _ B _ cc (spansR ys k) (by have := hw2l; rwa [spansR_len] at this) (by omega)).mono ?_
      rintro e w5 ⟨rfl, hc5⟩
      rcases HCK.out with ⟨hk0, hL, hE⟩ | ⟨hk0, hL, hE⟩
      · rw [hk0]
        clear HCK hw2l hk0
        subst hL hE
        have hb := hc5.at_ (HI.out.2.2.at_ F2.out (by simp)) (by simp)
        have z0 := cell_of hb 0
        have z1 := cell_of hb 1
        have f0 := free_of hb 0
        have f1 := free_of hb 1
        simp only [List.getElem?_toArray, List.getElem?_cons_succ, List.getElem?_cons_zero] at z0 z1
        have e0 := heap_setCell_same _ s0 0 _ _ (.int .i64 0) hb
        have e1 := heap_setCell_same _ s0 1 _ _ (.int .i64 0) e0
        have HE : Hid (((w5.setCell ⟨s0, 0, none⟩ (.int .i64 0)).setCell ⟨s0, 1, none⟩ (.int .i64 0)).heap[s0]? = some (.cells #[.int .i64 0, .int .i64 0] 46 (0, 0))) := Lib.hid (by simpa using e1)
        have CW := Lib.hid (Chg.put (Chg.put (C2.out.trans (HI.out.2.2.trans hc5)) HS0.out 0 (.int .i64 0)) HS0.out 1 (.int .i64 0))
        have CS := ((Chg.refl [s0] w5).setCell (p := ⟨s0, 0, none⟩) (.inl (by simp)) (.int .i64 0)).setCell (p := ⟨s0, 1, none⟩) (.inl (by simp)) (.int .i64 0)
        have OF := Lib.hid ((HI.out.1.chg hc5 (by simp)).chg CS (fun a ha => by
          have h1 := HI.out.2.1 a ha
          have h2 := lt_of_heap F2.out
          simp
          omega))
        have NF := Lib.hid (fun a (ha : B = some a) => Nat.le_trans C2.out.size (HI.out.2.1 a ha))
        have LF := Lib.hid (spansR_len ys k)
        clear hb e0 e1 CS hc5
        go_wp2
        generalize (w5.setCell ⟨s0, 0, none⟩ (.int .i64 0)).setCell ⟨s0, 1, none⟩ (.int .i64 0) = W at *
        clear z0 z1 f0 f1
        have z0 := cell_of HE.out 0
        have z1 := cell_of HE.out 1
        simp only [List.getElem?_toArray, List.getElem?_cons_succ, List.getElem?_cons_zero] at z0 z1
        refine bodyPost_ret (v := .tuple #[.slice B k cc, .agg #[.int .i64 0, .int .i64 0]]) (by simp [results, Tryz.results57, go_sem, z0, z1]) rfl ?_
        exact ⟨B, cc, by rw [LF.out], OF.out, NF.out, CW.out⟩
      · rw [hk0]
        clear HCK hw2l hk0
        subst hL hE
        have hb := hc5.at_ (HI.out.2.2.at_ F2.out (by simp)) (by simp)
        have z0 := cell_of hb 0
        have z1 := cell_of hb 1
        have f0 := free_of hb 0
        have f1 := free_of hb 1
        simp only [List.getElem?_toArray, List.getElem?_cons_succ, List.getElem?_cons_zero] at z0 z1
        have e0 := heap_setCell_same _ s0 0 _ _ (.int .i64 2) hb
        have e1 := heap_setCell_same _ s0 1 _ _ (.int .i64 0) e0
        have HE : Hid (((w5.setCell ⟨s0, 0, none⟩ (.int .i64 2)).setCell ⟨s0, 1, none⟩ (.int .i64 0)).heap[s0]? = some (.cells #[.int .i64 2, .int .i64 0] 46 (0, 0))) := Lib.hid (by simpa using e1)
        have CW := Lib.hid (Chg.put (Chg.put (C2.out.trans (HI.out.2.2.trans hc5)) HS0.out 0 (.int .i64 2)) HS0.out 1 (.int .i64 0))
        have CS := ((Chg.refl [s0] w5).setCell (p := ⟨s0, 0, none⟩) (.inl (by simp)) (.int .i64 2)).setCell (p := ⟨s0, 1, none⟩) (.inl (by simp)) (.int .i64 0)
        clear hb e0 e1 CS hc5
        go_wp2
        generalize (w5.setCell ⟨s0, 0, none⟩ (.int .i64 2)).setCell ⟨s0, 1, none⟩ (.int .i64 0) = W at *
        clear z0 z1 f0 f1
        have z0 := cell_of HE.out 0
        have z1 := cell_of HE.out 1
        simp only [List.getElem?_toArray, List.getElem?_cons_succ, List.getElem?_cons_zero] at z0 z1
        refine bodyPost_ret (v := .tuple #[.slice none 0 0, .agg #[.int .i64 2, .int .i64 0]]) (by simp [results, Tryz.results57, go_sem, z0, z1]) rfl ?_
        exact ⟨none, 0, rfl, OwnK.none_ _, by simp, CW.out⟩

theorem qread_any (w : World) (A : Option Addr) (n c : Nat) (ys : List UInt8) (h : Bs w A n ys) (hn : n ≤ 140737488351232) (hc : n ≤ c) (hc2 : c ≤ 9223372036854775807) :
    Calls Tryz.prog 57 #[.slice A n c] w fun e w' => ∃ A' c', e = .returned (.tuple #[.slice A' (readS ys).1.length c', .agg #[.int .i64 (readS ys).2.1, .int .i64 (readS ys).2.2]]) ∧ OwnK spanTy w' A' c' (readS ys).1 ∧ (∀ a, A' = some a → w.heap.size ≤ a.block) ∧ Chg [] w w' := by
  have hl := h.len
  by_cases h2 : ys.length < 2
  · exact qread_short w A n c ys h h2
  obtain ⟨g, o, rfl⟩ := h.base (by omega)
  by_cases h3 : ys.length = 2 + 9 * numB (ys.take 2)
  · rcases readS_fine h2 h3 with ⟨hk, e⟩ | ⟨hk, e⟩ <;> rw [e]
    · exact qread_loop w g o n c ys h hn hc hc2 _ rfl h3 _ _ (.inl ⟨hk, rfl, rfl⟩)
    · exact qread_loop w g o n c ys h hn hc hc2 _ rfl h3 _ _ (.inr ⟨hk, rfl, rfl⟩)
  · rw [readS_odd h2 h3]
    refine qread_odd w g o n c ys h hn hc hc2 h2 _ rfl h3 _ ?_
    by_cases h4 : ys.length < 2 + 9 * numB (ys.take 2)
    · exact .inl ⟨h4, if_pos h4⟩
    · exact .inr ⟨by omega, if_neg h4⟩
end
section
open Go.RowKit

theorem nb_char (n k : Nat) (hk : k ≤ 8) (h0 : n < 256 ^ k) (h1 : k = 0 ∨ 256 ^ (k - 1) ≤ n) : k = nb n := by
  have e : ∀ j, 256 ^ j = 2 ^ (8 * j) := fun j => by rw [Nat.pow_mul]
  have h2 := Lib.bitLen_le n (8 * k) (by omega) (by rw [← e]; exact h0)
  unfold nb
  rcases h1 with rfl | h1
  · omega
  · by_cases hk0 : k = 0
    · subst hk0; omega
    · rw [e] at h1
      have hn : n < 2 ^ 64 := by
        have : 256 ^ k ≤ 256 ^ 8 := Nat.pow_le_pow_right (by omega) hk
        have e8 : 256 ^ 8 = 2 ^ 64 := by decide
        omega
      have h3 := Lib.bitLen_shift (8 * (k - 1)) n h1 hn
      have h4 : Lib.bitLen (n / 2 ^ (8 * (k - 1))) ≠ 0 := by
        intro h
        have hp : 1 ≤ n / 2 ^ (8 * (k - 1)) := (Nat.le_div_iff_mul_le (Nat.two_pow_pos _)).2 (by omega)
        have := Lib.bitLen_shift 0 (n / 2 ^ (8 * (k - 1))) (by simpa using hp) (by have := Nat.div_le_self n (2 ^ (8 * (k - 1))); omega)
        have h5 : Lib.bitLen (n / 2 ^ (8 * (k - 1))) = 1 + Lib.bitLen (n / 2 ^ (8 * (k - 1)) / 2) := Lib.bitLen_half _ (by omega) (by have := Nat.div_le_self n (2 ^ (8 * (k - 1))); omega)
        omega
      omega

theorem OwnB.one (w : World) (c : UInt8) (x : Int) (hx : x = (c.toNat : Int)) : OwnB (w.alloc (.cells #[.int .u8 x] 5)) (some ⟨w.heap.size, 0, none⟩) 1 [c] := by
  subst hx
  exact .of (full := [c]) (heap_alloc_new w _) (by simp) (by simp [maxLen]) rfl (by simp)

/-- A byte ahead of bytes. -/
theorem ahead_app {w wr w1 : World} {A' : Option Addr} {c' : Nat} {x : Value} {zs : List UInt8} (own1 : OwnB w1 A' c' zs) (hc : Chg [] w wr) (hg1 : (wr.alloc (.cells #[x] 5)).grownBy w1 (Option.map (·.block) (some (⟨wr.heap.size, 0, none⟩ : Addr))))
    (hA1 : A' = some ⟨wr.heap.size, 0, none⟩ ∨ A' = some ⟨(wr.alloc (.cells #[x] 5)).heap.size, 0, none⟩) : Fresh w w1 A' c' zs := by
  have hs := hc.size
  refine ⟨own1, ?_, (hc.alloc _).grown hg1 (by simp; omega)⟩
  rintro a rfl
  rcases hA1 with h | h <;> cases h <;> simp <;> omega

/-- What is left of a number above its lowest k digits. -/
def up (n k : Nat) : Nat := n / 256 ^ k
theorem up_zero (n : Nat) : up n 0 = n := by simp [up]
theorem up_succ (n k : Nat) : ((up n k : Nat) : Int) / 256 = ((up n (k + 1) : Nat) : Int) := by
  have : up n (k + 1) = up n k / 256 := by unfold up; rw [Nat.pow_succ, Nat.div_div_eq_div_mul]
  rw [this]; omega
theorem up_le (n k : Nat) : up n k ≤ n := Nat.div_le_self _ _
theorem up_pos {n k : Nat} (h : 0 < up n k) : 256 ^ k ≤ n := by
  unfold up at h
  rcases Nat.lt_or_ge n (256 ^ k) with h1 | h1
  · rw [Nat.div_eq_of_lt h1] at h; omega
  · exact h1
theorem up_none {n k : Nat} (h : ¬ 0 < up n k) : n < 256 ^ k := by
  unfold up at h
  rcases Nat.lt_or_ge n (256 ^ k) with h1 | h1
  · exact h1
  · exact absurd ((Nat.le_div_iff_mul_le (Nat.two_pow_pos (8 * k) |> fun h => by rwa [Nat.pow_mul] at h)).2 (by omega)) (by omega : ¬ 1 ≤ n / 256 ^ k)

set_option maxHeartbeats 400000 in
theorem form_any (w : World) (x : Int) (h0 : 0 ≤ x) (h1 : x ≤ 9223372036854775807) :
    Calls Tryz.prog 75 #[.int .i64 x] w fun r w' => ∃ A c, r = .returned (.slice A (1 + nb x.toNat) c) ∧ Fresh w w' A c (enc x.toNat) := by
  obtain ⟨n, rfl⟩ := Int.eq_ofNat_of_zero_le h0
  have hb := nb_le n (by omega)
  go_enter Tryz.func75, Tryz.ntmps75
  go_wp2
  go_loopw [0, 3] (fun v s wr => ∃ (k : Nat) (A : Option Addr) (c : Nat), k ≤ 8 ∧ v = .int .i64 (up n k : Int) ∧ s = .slice A k c ∧ Fresh w wr A c (be k n) ∧ (k = 0 ∨ 256 ^ (k - 1) ≤ n)) (fun v _ _ => (intOf v).toNat)
  case atStart => exact ⟨0, none, 0, by omega, by rw [up_zero], rfl, ⟨OwnB.none_ _, by simp, Chg.refl _ _⟩, .inl rfl⟩
  case round =>
    obtain ⟨k, A, c, hk, rfl, rfl, hF, hlow⟩ := hrel
    obtain ⟨f1, f2, f3⟩ := hF
    have F2 := Lib.hid f2
    have HW := Lib.hid hlow
    clear f2 hlow
    by_cases hz : 0 < up n k
    · have hk8 : k < 8 := by
        rcases Nat.lt_or_ge k 8 with h | h
        · exact h
        · have e8 : k = 8 := by omega
          subst e8
          have := up_pos hz
          have e8 : 256 ^ 8 = 18446744073709551616 := by decide
          omega
      have hle := up_le n k
      have hs := up_succ n k
      have Hs := Lib.hid hs
      clear hs
      go_wp2_with (at_builtin; refine wpList_app rfl _ _ rfl rfl (OwnB.one wr (UInt8.ofNat (up n k)) _ (by rw [UInt8.toNat_ofNat']; omega)) rfl rfl (by have := (f1.reads).chg ((Chg.refl [] wr).alloc (.cells #[.int .u8 (((up n k : Nat) : Int) % 256)] 5)) (by simp); rw [be_len] at this; exact this) (by omega) ?_; intro A' c' w1 own1 hg1 hA1)
      have Hh := Lib.hid (ahead_app own1 f3 hg1 hA1)
      clear own1 hg1 hA1
      go_roundw
      case rel => exact ⟨k + 1, A', c', by omega, by rw [Hs.out], by rw [Nat.add_comm], ⟨Hh.out.1, Hh.out.2.1, Hh.out.2.2⟩, .inr (by simpa using up_pos hz)⟩
      case measure =>
        have h := Hs.out
        simp only [intOf]
        omega
    · go_wp2_with (at_builtin; refine wpList_app rfl _ _ rfl rfl (OwnB.one wr (UInt8.ofNat k) _ (u8_of _ _ rfl (by omega))) rfl rfl (by have := (f1.reads).chg ((Chg.refl [] wr).alloc (.cells #[.int .u8 (k : Int)] 5)) (by simp); rw [be_len] at this; exact this) (by omega) ?_; intro A' c' w1 own1 hg1 hA1)
      go_ret
      have hk' : k = nb n := nb_char n k hk (up_none hz) HW.out
      subst hk'
      exact ⟨A', c', rfl, ahead_app own1 f3 hg1 hA1⟩
end
section
open Go.RowKit

def VWr (w : World) (b g : Nat) (xs : List UInt8) (e : Int) : Prop :=
  ∃ A c, w.heap[b]? = some (.cells #[.slice A xs.length c, .int .i64 e] 75 (0, 0)) ∧ OwnB w A c xs ∧ (A = none ∧ g = b ∨ A = some ⟨g, 0, none⟩)
theorem VWr.chg {S : List Nat} {w w' : World} {b g : Nat} {xs : List UInt8} {e : Int} (h : VWr w b g xs e) (hc : Chg S w w') (hb : b ∉ S) (hg : g ∉ S) : VWr w' b g xs e := by
  obtain ⟨A, c, h1, h2, h3⟩ := h
  refine ⟨A, c, hc.at_ h1 hb, h2.chg hc ?_, h3⟩
  rintro a rfl
  rcases h3 with ⟨h3, _⟩ | h3
  · cases h3
  · cases h3; exact hg
theorem VWr.lt {w : World} {b g : Nat} {xs : List UInt8} {e : Int} (h : VWr w b g xs e) : b < w.heap.size ∧ g < w.heap.size := by
  obtain ⟨A, c, h1, h2, h3⟩ := h
  have hb := lt_of_heap h1
  rcases h3 with ⟨_, rfl⟩ | rfl
  · exact ⟨hb, hb⟩
  · rcases h2.form with ⟨h, _⟩ | ⟨g', cur, h, h4, _⟩
    · cases h
    · cases h; exact ⟨hb, lt_of_heap h4⟩
def VBetween (w wr : World) (b g : Nat) (xs : List UInt8) (e : Int) : Prop := ∃ g', VWr wr b g' xs e ∧ Chg [b, g] w wr ∧ (g' = g ∨ w.heap.size ≤ g')
theorem VBetween.refl {w : World} {b g : Nat} {xs : List UInt8} {e : Int} (h : VWr w b g xs e) : VBetween w w b g xs e := ⟨g, h, Chg.refl _ _, .inl rfl⟩
/-- What is new ahead of the call is no matter. -/
theorem VBetween.later {w w1 w2 : World} {b g : Nat} {xs : List UInt8} {e : Int} (hc : Chg [] w w1) (h : VBetween w1 w2 b g xs e) : VBetween w w2 b g xs e := by
  obtain ⟨g', h1, h2, h3⟩ := h
  have := hc.size
  refine ⟨g', h1, (hc.mono (by simp)).trans h2, ?_⟩
  rcases h3 with h3 | h3
  · exact .inl h3
  · right; omega

set_option maxHeartbeats 400000 in
theorem vput_had (w : World) (b g : Nat) (xs : List UInt8) (e e' : Int) (B : Option Addr) (m d : Nat) (h : VWr w b g xs e) (he : (e != 0) = true) :
    Calls Tryz.prog 74 #[.pointer (some ⟨b, 0, none⟩), .slice B m d, .int .i64 e'] w fun r w' => r = .returned (.tuple #[]) ∧ w = w' := by
  obtain ⟨A, c, h1, _, _⟩ := h
  have h0 := cell_of h1 1
  simp only [List.getElem?_toArray, List.getElem?_cons_zero, List.getElem?_cons_succ] at h0
  have H := Lib.hid h1
  clear h1
  go_enter Tryz.func74, Tryz.ntmps74
  go_wp2
  refine bodyPost_ret (results_none rfl _ _ _) rfl ?_
  exact ⟨rfl, rfl⟩

theorem verr_fin {w : World} {b g : Nat} {xs : List UInt8} {A : Option Addr} {c : Nat} (e0 e : Int) (h1 : w.heap[b]? = some (.cells #[.slice A xs.length c, .int .i64 e0] 75 (0, 0))) (h2 : OwnB w A c xs) (h3 : A = none ∧ g = b ∨ A = some ⟨g, 0, none⟩) :
    VBetween w (w.setCell ⟨b, 1, none⟩ (.int .i64 e)) b g xs e := by
  have q := heap_setCell_same w b 1 _ _ (.int .i64 e) h1
  have hne := h2.ne h1 (by decide)
  refine ⟨g, ⟨A, c, by simpa using q, h2.keep fun g o eA ho => ?_, h3⟩, (Chg.refl _ _).setCell (by simp) _, .inl rfl⟩
  rw [Below.heap_setCell _ _ _ _ (by have := hne _ eA; exact this)]; exact ho

set_option maxHeartbeats 400000 in
theorem vput_err (w : World) (b g : Nat) (xs : List UInt8) (e' : Int) (B : Option Addr) (m d : Nat) (h : VWr w b g xs 0) (he : (e' == 0) = false) :
    Calls Tryz.prog 74 #[.pointer (some ⟨b, 0, none⟩), .slice B m d, .int .i64 e'] w fun r w' => r = .returned (.tuple #[]) ∧ VBetween w w' b g xs e' := by
  obtain ⟨A, c, h1, h2, h3⟩ := h
  have h0 := cell_of h1 1
  have f0 := free_of h1 1
  simp only [List.getElem?_toArray, List.getElem?_cons_zero, List.getElem?_cons_succ] at h0
  have H := Lib.hid h1
  have H3 := Lib.hid h3
  clear h1 h3
  go_enter Tryz.func74, Tryz.ntmps74
  go_wp2
  go_end0
  exact ⟨rfl, verr_fin _ _ H.out h2 H3.out⟩
set_option maxHeartbeats 400000 in
theorem vput_long (w : World) (b g : Nat) (xs : List UInt8) (B : Option Addr) (m d : Nat) (h : VWr w b g xs 0) (hx : xs.length ≤ 1048576) (hm : m ≤ 140737488355300) (hl : 1048576 < xs.length + m) :
    Calls Tryz.prog 74 #[.pointer (some ⟨b, 0, none⟩), .slice B m d, .int .i64 0] w fun r w' => r = .returned (.tuple #[]) ∧ VBetween w w' b g xs 3 := by
  obtain ⟨A, c, h1, h2, h3⟩ := h
  have h0 := cell_of h1 1
  have h4 := cell_of h1 0
  have f0 := free_of h1 1
  simp only [List.getElem?_toArray, List.getElem?_cons_zero, List.getElem?_cons_succ] at h0 h4
  have H := Lib.hid h1
  have H3 := Lib.hid h3
  clear h1 h3
  go_enter Tryz.func74, Tryz.ntmps74
  go_wp2
  go_end0
  exact ⟨rfl, verr_fin _ _ H.out h2 H3.out⟩

theorem vwr_put {w w1 : World} {b g : Nat} {xs zs : List UInt8} {e : Int} {A A' : Option Addr} {c c' n : Nat} (h1 : w.heap[b]? = some (.cells #[.slice A xs.length c, .int .i64 e] 75 (0, 0))) (h2 : OwnB w A c xs)
    (h3 : A = none ∧ g = b ∨ A = some ⟨g, 0, none⟩) (own1 : OwnB w1 A' c' zs) (hg1 : w.grownBy w1 (A.map (·.block))) (hA1 : A' = A ∨ A' = some ⟨w.heap.size, 0, none⟩) (hn : n = zs.length) :
    VBetween w (w1.setCell ⟨b, 0, none⟩ (.slice A' n c')) b g zs e := by
  subst hn
  have hne := h2.ne h1 (by decide)
  have q1 := grown_at hg1 h1 hne
  have q2 := heap_setCell_same w1 b 0 _ _ (.slice A' zs.length c') q1
  have hne' := own1.ne q1 (by decide)
  have own2 : OwnB (w1.setCell ⟨b, 0, none⟩ (.slice A' zs.length c')) A' c' zs := own1.keep fun g o eA ho => by
    rw [Below.heap_setCell _ _ _ _ (by have := hne' _ eA; exact this)]; exact ho
  have hc : Chg [b, g] w (w1.setCell ⟨b, 0, none⟩ (.slice A' zs.length c')) :=
    ((Chg.refl _ _).grown hg1 (fun k hk => by
      rcases h3 with ⟨rfl, _⟩ | rfl
      · cases hk
      · simp at hk; subst hk; simp)).setCell (by simp) _
  rcases hA1 with rfl | rfl
  · exact ⟨g, ⟨A', c', by simpa using q2, own2, h3⟩, hc, .inl rfl⟩
  · exact ⟨w.heap.size, ⟨_, c', by simpa using q2, own2, .inr rfl⟩, hc, .inr (Nat.le_refl _)⟩

theorem set_same {w : World} {b : Nat} {cs : Array Value} {t : TypeId} {j : Nat} {v : Value} (h : w.heap[b]? = some (.cells cs t (0, 0))) (hj : cs[j]? = some v) : w.setCell ⟨b, j, none⟩ v = w := by
  have : (w.setCell ⟨b, j, none⟩ v).heap = w.heap := by
    apply Array.ext_getElem?
    intro i
    by_cases hi : i = b
    · subst hi
      rw [heap_setCell_same w i j _ _ v h, h]
      congr 2
      apply Array.ext_getElem?
      intro k
      rw [Array.getElem?_setIfInBounds]
      split
      · rename_i e; subst e
        obtain ⟨h5, h6⟩ := Array.getElem?_eq_some_iff.1 hj
        simp [h5, h6]
      · rfl
    · exact Below.heap_setCell _ _ _ _ hi
  unfold World.setCell at this ⊢
  simp only at this
  rw [this]

set_option maxHeartbeats 400000 in
theorem vput_fine (w : World) (b g : Nat) (xs : List UInt8) (B : Option Addr) (m d : Nat) (ys : List UInt8) (h : VWr w b g xs 0) (hr : Bs w B m ys) (hl : xs.length + m ≤ 1048576) :
    Calls Tryz.prog 74 #[.pointer (some ⟨b, 0, none⟩), .slice B m d, .int .i64 0] w fun r w' => r = .returned (.tuple #[]) ∧ VBetween w w' b g (xs ++ ys) 0 := by
  obtain ⟨A, c, h1, h2, h3⟩ := h
  have hs : w.setCell ⟨b, 1, none⟩ (.int .i64 0) = w := set_same h1 rfl
  have hne := h2.ne h1 (by decide)
  have h0 := cell_of h1 1
  have h4 := cell_of h1 0
  have f0 := free_of h1 1
  simp only [List.getElem?_toArray, List.getElem?_cons_zero, List.getElem?_cons_succ] at h0 h4
  have H := Lib.hid h1
  have H3 := Lib.hid h3
  clear h1 h3
  go_enter Tryz.func74, Tryz.ntmps74
  go_wp2_with (at_builtin; refine wpList_app rfl _ _ rfl rfl h2 rfl rfl hr (by omega) ?_; intro A' c' w1 own1 hg1 hA1; have q1 := grown_at hg1 H.out hne; have Q1 := Lib.hid q1; have q2 := cell_of q1 0; have q3 := free_of q1 0; simp only [List.getElem?_toArray, List.getElem?_cons_zero] at q2; clear q1)
  go_end0
  exact ⟨rfl, vwr_put H.out h2 H3.out own1 hg1 hA1 (by simp [hr.len])⟩

theorem nb_fits (n : Nat) (h : n ≤ 9223372036854775807) : nb n ≤ 8 := nb_le n (by omega)

set_option maxHeartbeats 400000 in
theorem vnum_any (w : World) (b g : Nat) (xs : List UInt8) (e x : Int) (h : VWr w b g xs e) (hlen : xs.length ≤ 1048576) (hx : -9223372036854775808 ≤ x) (hx2 : x ≤ 9223372036854775807) :
    Calls Tryz.prog 42 #[.pointer (some ⟨b, 0, none⟩), .int .i64 x] w fun r w' => r = .returned (.tuple #[]) ∧ VBetween w w' b g (wNum xs e x).1 (wNum xs e x).2 := by
  by_cases h1 : x < 0 ∨ 4611686018427387903 < x
  · have hp : Calls Tryz.prog 74 #[.pointer (some ⟨b, 0, none⟩), .slice none 0 0, .int .i64 5] w fun r w' => r = .returned (.tuple #[]) ∧ VBetween w w' b g (wNum xs e x).1 (wNum xs e x).2 := by
      unfold wNum
      by_cases he : e = 0
      · subst he
        simp only [ne_eq, not_true_eq_false, if_false, if_pos h1]
        exact vput_err w b g xs 5 none 0 0 h rfl
      · simp only [ne_eq, he, not_false_eq_true, if_true]
        exact (vput_had w b g xs e 5 none 0 0 h (by simpa using he)).mono fun r w' ⟨h1, h2⟩ => ⟨h1, h2 ▸ VBetween.refl h⟩
    have HP := Lib.hid hp
    clear hp
    rcases h1 with h1 | h1
    all_goals
      go_enter Tryz.func42, Tryz.ntmps42
      go_wp2_with (go_at_call 74; refine HP.out.mono ?_; rintro r w1 ⟨rfl, hB⟩)
      refine bodyPost_ret (results_none rfl _ _ _) rfl ?_
      exact ⟨rfl, hB⟩
  · have h2 : 0 ≤ x := by omega
    have h3 : x ≤ 4611686018427387903 := by omega
    have hb := nb_fits x.toNat (by omega)
    have hp : ∀ w1 A c, Fresh w w1 A c (enc x.toNat) → Calls Tryz.prog 74 #[.pointer (some ⟨b, 0, none⟩), .slice A (1 + nb x.toNat) c, .int .i64 0] w1 fun r w' => r = .returned (.tuple #[]) ∧ VBetween w1 w' b g (wNum xs e x).1 (wNum xs e x).2 := by
      intro w1 A c hF
      have hv := h.chg hF.2.2 (by simp) (by simp)
      have hr := hF.1.reads
      rw [enc_len] at hr
      unfold wNum
      by_cases he : e = 0
      · subst he
        by_cases h4 : 1048576 < 1 + nb x.toNat + xs.length
        · simp only [ne_eq, not_true_eq_false, if_false, if_neg h1, if_pos h4]
          exact vput_long w1 b g xs A _ c hv hlen (by omega) (by omega)
        · simp only [ne_eq, not_true_eq_false, if_false, if_neg h1, if_neg h4]
          exact vput_fine w1 b g xs A _ c _ hv hr (by omega)
      · simp only [ne_eq, he, not_false_eq_true, if_true]
        exact (vput_had w1 b g xs e 0 A _ c hv (by simpa using he)).mono fun r w' ⟨h1, h2⟩ => ⟨h1, h2 ▸ VBetween.refl hv⟩
    have HP := Lib.hid hp
    clear hp h1
    go_enter Tryz.func42, Tryz.ntmps42
    go_wp2_with (first
      | (go_at_call 75; refine (form_any _ x h2 (by omega)).mono ?_; rintro r w1 ⟨A, c, rfl, hF⟩; have HF := Lib.hid hF; clear hF)
      | (go_at_call 74; refine (HP.out _ _ _ HF.out).mono ?_; rintro r w2 ⟨rfl, hB⟩))
    go_end0
    exact ⟨rfl, VBetween.later HF.out.2.2 hB⟩
end
section
open Go.RowKit

theorem fresh_grown {w w1 w2 : World} {A A' : Option Addr} {c c' : Nat} {xs zs : List UInt8} (hF : Fresh w w1 A c xs) (own : OwnB w2 A' c' zs) (hg : w1.grownBy w2 (A.map (·.block))) (hA : A' = A ∨ A' = some ⟨w1.heap.size, 0, none⟩) : Fresh w w2 A' c' zs := by
  have hs := hF.2.2.size
  refine ⟨own, ?_, hF.2.2.grown hg (fun k hk => ?_)⟩
  · rintro a rfl
    rcases hA with h | h
    · exact hF.2.1 _ h.symm
    · cases h; exact hs
  · cases A with
    | none => cases hk
    | some a => simp at hk; subst hk; exact .inr (hF.2.1 _ rfl)

set_option maxHeartbeats 400000 in
theorem vraw_any (w : World) (b g : Nat) (xs : List UInt8) (e : Int) (B : Option Addr) (m d : Nat) (ys : List UInt8) (h : VWr w b g xs e) (hlen : xs.length ≤ 1048576) (hm : m ≤ 140737488351232) (hr : Bs w B m ys) :
    Calls Tryz.prog 43 #[.pointer (some ⟨b, 0, none⟩), .slice B m d] w fun r w' => r = .returned (.tuple #[]) ∧ VBetween w w' b g (wRaw xs e ys).1 (wRaw xs e ys).2 := by
  have hl := hr.len
  subst hl
  have hb := nb_fits ys.length (by omega)
  have hp : ∀ w1 A c, Fresh w w1 A c (enc (ys.length : Int).toNat ++ ys) → Calls Tryz.prog 74 #[.pointer (some ⟨b, 0, none⟩), .slice A (1 + nb ys.length + ys.length) c, .int .i64 0] w1 fun r w' => r = .returned (.tuple #[]) ∧ VBetween w1 w' b g (wRaw xs e ys).1 (wRaw xs e ys).2 := by
    intro w1 A c hF
    have hv := h.chg hF.2.2 (by simp) (by simp)
    have hr := hF.1.reads
    rw [List.length_append, enc_len, Int.toNat_natCast] at hr
    unfold wRaw
    by_cases he : e = 0
    · subst he
      by_cases h4 : 1048576 < 1 + nb ys.length + ys.length + xs.length
      · simp only [ne_eq, not_true_eq_false, if_false, if_pos h4]
        exact vput_long w1 b g xs A _ c hv hlen (by omega) (by omega)
      · simp only [ne_eq, not_true_eq_false, if_false, if_neg h4, List.append_assoc]
        exact vput_fine w1 b g xs A _ c _ hv hr (by omega)
    · simp only [ne_eq, he, not_false_eq_true, if_true]
      exact (vput_had w1 b g xs e 0 A _ c hv (by simpa using he)).mono fun r w' ⟨h1, h2⟩ => ⟨h1, h2 ▸ VBetween.refl hv⟩
  have HP := Lib.hid hp
  have HR := Lib.hid hr
  have hel : (enc (ys.length : Int).toNat).length = 1 + nb ys.length := by rw [enc_len, Int.toNat_natCast]
  have HE := Lib.hid hel
  clear hp hr hel
  go_enter Tryz.func43, Tryz.ntmps43
  go_wp2_with (first
    | (go_at_call 75; refine (form_any _ _ (by omega) (by omega)).mono ?_; rintro r w1 ⟨A, c, rfl, hF⟩; have HF := Lib.hid hF; clear hF)
    | (at_builtin; refine wpList_app rfl _ _ rfl rfl HF.out.1 HE.out rfl (HR.out.chg HF.out.2.2 (by simp)) (by omega) ?_; intro A2 c2 w2 own2 hg2 hA2; have HF2 := Lib.hid (fresh_grown HF.out own2 hg2 hA2); clear own2 hg2 hA2)
    | (go_at_call 74; refine (HP.out _ _ _ HF2.out).mono ?_; rintro r w3 ⟨rfl, hB⟩))
  go_end0
  exact ⟨rfl, VBetween.later HF2.out.2.2 hB⟩

set_option maxHeartbeats 400000 in
theorem vout_any (w : World) (b g : Nat) (xs : List UInt8) (e : Int) (h : VWr w b g xs e) (hlen : xs.length ≤ 1048576) :
    Calls Tryz.prog 44 #[.pointer (some ⟨b, 0, none⟩)] w fun r w' => ∃ A c, r = .returned (.tuple #[.slice A (outs xs e).length c, .int .i64 e]) ∧ Fresh w w' A c (outs xs e) := by
  obtain ⟨A, c, h1, h2, _⟩ := id h
  have k1 := cell_of h1 0
  have k2 := cell_of h1 1
  simp only [List.getElem?_toArray, List.getElem?_cons_zero, List.getElem?_cons_succ] at k1 k2
  have hb := lt_of_heap h1
  have H := Lib.hid h1
  clear h1
  unfold outs
  by_cases he : e = 0
  · subst he
    simp only [if_true]
    go_enter Tryz.func44, Tryz.ntmps44
    go_wp2_with (at_builtin; refine wpList_app rfl _ _ rfl rfl (OwnB.empty w) rfl rfl (h2.reads.chg ((Chg.refl [] w).alloc _) (by simp)) (by simp; omega) ?_; intro A' c' w1 own1 hg1 hA1)
    go_ret2
    exact ⟨A', c', by simp, fresh_app own1 hg1 hA1⟩
  · simp only [if_neg he]
    have he' : (e != 0) = true := by simpa using he
    clear he
    go_enter Tryz.func44, Tryz.ntmps44
    go_wp2
    go_region
    all_goals (go_wp2; go_ret2; exact ⟨none, 0, rfl, OwnB.none_ _, by simp, (Chg.refl _ _).drew⟩)
end
end Go.Proofs.YtgafkaigkaghcaaGreatDoor
