/- The document's without. Sets of dots as lists of spans: how many dots they have, what is the last one, what is joined, left, within. Plain. A past's bytes are read as it; what is read has just these bytes. Plain. past.may. past.push, whatever comes. past: a cursor goes on. past.begin. past: a sweep begins. past: a cursor goes on. past: a cursor passes. past: a cursor goes on. -/
import Derived.Test.YtgafkphhnlifiaaZpbe
import Derived.Deep.Cut
import Derived.Test.YtgafkphhnlifiaaZpbd
import Derived.Test.YtgafkphhnlifiaaZpbc
import Derived.Test.YtgafkphhnlifiaaZpbb
namespace Go.Proofs.Ytgafkphhnlifiaa
section
open Go.RowKit Go.Lib
set_option linter.unusedSimpArgs false
set_option linter.unusedVariables false
end
section
set_option linter.unusedSimpArgs false
set_option linter.unusedVariables false

theorem wf_mem {xs : List Sp} (h : WfC xs) {n s : Int} (hm : Mem xs n s) : 1 ≤ n ∧ n ≤ 200 ∧ 1 ≤ s ∧ s ≤ 2147483647 := by
  obtain ⟨x, hx, e, l, r⟩ := hm
  have := h.2 x hx
  omega
theorem wf_sub {m : List Sp} (h : Norm m) (hb : ∀ n s, Mem m n s → 1 ≤ n ∧ n ≤ 200 ∧ 1 ≤ s ∧ s ≤ 2147483647) : WfC m :=
  ⟨h, fun x hx => by
    have o := h.1 x hx
    unfold SpOk at o
    have a := hb x.1 x.2.1 ⟨x, hx, rfl, Int.le_refl _, o⟩
    have b := hb x.1 x.2.2 ⟨x, hx, rfl, o, Int.le_refl _⟩
    omega⟩
theorem push_len (out : List Sp) (z : Sp) : (pushP out z).length ≤ out.length + 1 := by
  unfold pushP
  split <;> (try split) <;> simp <;> omega
theorem fold_len : ∀ (zs out : List Sp), (zs.foldl pushP out).length ≤ out.length + zs.length
  | [], out => by simp
  | z :: zs, out => by
    have h1 := fold_len zs (pushP out z)
    have h2 := push_len out z
    rw [List.foldl_cons, List.length_cons]
    omega
theorem tidy_len (l : List Sp) : (tidyS l).length ≤ l.length := by
  have := fold_len (riseS l) []
  rw [(rise_props l).2.2] at this
  simpa [tidyS] using this
theorem bound_le {l : List Sp} (h : l.length ≤ 4000) : boundP l = (0, l) := by unfold boundP; rw [if_neg (by omega)]
/-- What is joined of two short pasts. -/
theorem join_ok {a b : List Sp} (ha : chkS a = 0) (hb : chkS b = 0) (hl : a.length + b.length ≤ 4000) : joinE a b = (0, tidyS (a ++ b)) ∧ chkS (tidyS (a ++ b)) = 0 ∧ (tidyS (a ++ b)).length ≤ a.length + b.length ∧ ∀ n s, Mem (tidyS (a ++ b)) n s ↔ Mem a n s ∨ Mem b n s := by
  have wa := (wf_of_chk ha).1
  have wb := (wf_of_chk hb).1
  have t := tidy_norm (l := a ++ b) (fun x hx => by
    rcases List.mem_append.1 hx with q | q
    · exact wa.1.1 x q
    · exact wb.1.1 x q)
  have tl := tidy_len (a ++ b)
  rw [List.length_append] at tl
  have tm : ∀ n s, Mem (tidyS (a ++ b)) n s ↔ Mem a n s ∨ Mem b n s := fun n s => (t.2 n s).trans mem_append
  have wt : WfC (tidyS (a ++ b)) := wf_sub t.1 (fun n s h => by
    rcases (tm n s).1 h with q | q
    · exact wf_mem wa q
    · exact wf_mem wb q)
  refine ⟨?_, chk_of_wf wt (by omega), tl, tm⟩
  unfold joinE
  rw [if_pos ⟨ha, hb⟩, bound_le (by omega)]
theorem has_iff {xs : List Sp} (h : chkS xs = 0) (n s : Int) : hasE xs n s = decide (Mem xs n s) := by
  unfold hasE
  rw [decide_eq_true h, Bool.true_and]
def aloneP (d : Int × Int) : Sp := (d.1, d.2, d.2)
def fineL (l : List (Int × Int)) : Bool := l.all (fun d => decide (FineQ d.1 d.2))
theorem fineL_iff {l : List (Int × Int)} : fineL l = true ↔ ∀ d ∈ l, FineQ d.1 d.2 := by
  unfold fineL
  rw [List.all_eq_true]
  exact ⟨fun h d hd => of_decide_eq_true (h d hd), fun h d hd => decide_eq_true (h d hd)⟩
def ofE (l : List (Int × Int)) : Int × List Sp := if fineL l = true then boundP (tidyS (l.map aloneP)) else (2, [])
theorem alone_mem {l : List (Int × Int)} {n s : Int} : Mem (l.map aloneP) n s ↔ (n, s) ∈ l := by
  unfold Mem
  constructor
  · rintro ⟨x, hx, h1, h2, h3⟩
    obtain ⟨d, hd, rfl⟩ := List.mem_map.1 hx
    have e : d = (n, s) := Prod.ext h1 (by have : d.2 ≤ s := h2; have : s ≤ d.2 := h3; show d.2 = s; omega)
    exact e ▸ hd
  · intro h
    exact ⟨(n, s, s), List.mem_map.2 ⟨(n, s), h, rfl⟩, rfl, Int.le_refl _, Int.le_refl _⟩
theorem alone_ok (l : List (Int × Int)) : ∀ x ∈ l.map aloneP, SpOk x := by
  intro x hx
  obtain ⟨d, hd, rfl⟩ := List.mem_map.1 hx
  exact Int.le_refl _
theorem alone_B3 {l : List (Int × Int)} (h : fineL l = true) : ∀ x ∈ l.map aloneP, B3 x := by
  intro x hx
  obtain ⟨d, hd, rfl⟩ := List.mem_map.1 hx
  have := fineL_iff.1 h d hd
  unfold FineQ at this
  unfold B3 aloneP
  simp only
  omega
theorem of_ok {l : List (Int × Int)} (h : fineL l = true) (hl : l.length ≤ 4000) : ofE l = (0, tidyS (l.map aloneP)) ∧ chkS (tidyS (l.map aloneP)) = 0 ∧ (tidyS (l.map aloneP)).length ≤ l.length ∧ ∀ n s, Mem (tidyS (l.map aloneP)) n s ↔ (n, s) ∈ l := by
  have t := tidy_norm (alone_ok l)
  have tl := tidy_len (l.map aloneP)
  rw [List.length_map] at tl
  have tm : ∀ n s, Mem (tidyS (l.map aloneP)) n s ↔ (n, s) ∈ l := fun n s => (t.2 n s).trans alone_mem
  have wt : WfC (tidyS (l.map aloneP)) := wf_sub t.1 (fun n s q => by
    have := fineL_iff.1 h _ ((tm n s).1 q)
    unfold FineQ at this
    simpa using this)
  refine ⟨?_, chk_of_wf wt (by omega), tl, tm⟩
  unfold ofE
  rw [if_pos h, bound_le (by omega)]
theorem of_sorted {l m : List (Int × Int)} (hm : ∀ d, d ∈ m ↔ d ∈ l) (hs : m.Pairwise (fun x y => x.1 < y.1 ∨ x.1 = y.1 ∧ x.2 < y.2)) : (m.map aloneP).foldl pushP [] = tidyS (l.map aloneP) := by
  have t := tidy_norm (alone_ok l)
  have f := fold_norm (zs := m.map aloneP) (out := []) norm_nil (alone_ok m) (List.pairwise_map.2 (hs.imp (fun {x y} q => by unfold Le aloneP; simp only; omega))) (fun y z h => by simp at h)
  refine norm_ext f.1 t.1 (fun n s => ?_)
  rw [f.2 n s, t.2 n s, alone_mem, alone_mem, hm]
  exact ⟨fun q => q.resolve_left mem_nil, .inr⟩
end
section
set_option linter.unusedSimpArgs false
set_option linter.unusedVariables false

theorem numB_from : ∀ (l : List UInt8) (a : Nat), l.foldl (fun n x => n * 256 + x.toNat) a = a * 256 ^ l.length + numB l
  | [], a => by simp [numB]
  | x :: l, a => by
    have h1 := numB_from l (a * 256 + x.toNat)
    have h2 := numB_from l (0 * 256 + x.toNat)
    have e : numB (x :: l) = l.foldl (fun n x => n * 256 + x.toNat) (0 * 256 + x.toNat) := rfl
    rw [List.foldl_cons, h1, e, h2, List.length_cons, Nat.pow_succ, Nat.add_mul, Nat.zero_mul, Nat.zero_add, Nat.mul_assoc, Nat.mul_comm 256]
    omega
theorem numB_cons (x : UInt8) (l : List UInt8) : numB (x :: l) = x.toNat * 256 ^ l.length + numB l := by
  have := numB_from l (0 * 256 + x.toNat)
  rw [Nat.zero_mul, Nat.zero_add] at this
  rw [← this]
  show (x :: l).foldl _ 0 = _
  rw [List.foldl_cons, Nat.zero_mul, Nat.zero_add]
theorem num_be : ∀ (k n : Nat), numB (be k n) = n % 256 ^ k
  | 0, n => by simp [be, numB, Nat.mod_one]
  | k + 1, n => by
    show numB (UInt8.ofNat (n / 256 ^ k) :: be k n) = _
    have e : n % 256 ^ (k + 1) = n % 256 ^ k + 256 ^ k * (n / 256 ^ k % 256) := by rw [Nat.pow_succ, Nat.mod_mul]
    rw [numB_cons, num_be k n, be_len, UInt8.toNat_ofNat', e, Nat.mul_comm, Nat.add_comm]
theorem be_modP : ∀ (k a m : Nat), be k (a * 256 ^ k + m) = be k m
  | 0, _, _ => rfl
  | k + 1, a, m => by
    show UInt8.ofNat ((a * 256 ^ (k + 1) + m) / 256 ^ k) :: be k (a * 256 ^ (k + 1) + m) = UInt8.ofNat (m / 256 ^ k) :: be k m
    have e : a * 256 ^ (k + 1) + m = a * 256 * 256 ^ k + m := by rw [Nat.pow_succ, Nat.mul_assoc, Nat.mul_comm 256]
    have hp : 0 < 256 ^ k := Nat.pow_pos (by omega)
    rw [e, be_modP k (a * 256) m]
    congr 1
    apply UInt8.toNat_inj.1
    rw [UInt8.toNat_ofNat', UInt8.toNat_ofNat', Nat.add_comm, Nat.add_mul_div_right _ _ hp]
    omega
theorem be_num : ∀ (l : List UInt8), be l.length (numB l) = l
  | [] => rfl
  | x :: l => by
    have h := numB_lt l.length l (Nat.le_refl _)
    have hp : 0 < 256 ^ l.length := Nat.pow_pos (by omega)
    show UInt8.ofNat (numB (x :: l) / 256 ^ l.length) :: be l.length (numB (x :: l)) = x :: l
    rw [numB_cons, be_modP, be_num l]
    congr 1
    apply UInt8.toNat_inj.1
    rw [UInt8.toNat_ofNat', Nat.add_comm, Nat.add_mul_div_right _ _ hp, Nat.div_eq_of_lt h]
    have := x.toNat_lt
    omega
def spanT (t : List UInt8) : Int × Int × Int := ((numB (t.take 1) : Int), (numB ((t.drop 1).take 4) : Int), (numB ((t.drop 5).take 4) : Int))
theorem spanAt_T (ys : List UInt8) (i : Nat) : spanAt ys i = spanT (ys.drop i) := by
  unfold spanAt spanT
  rw [List.drop_drop, List.drop_drop]
theorem spanT_back {x : Int × Int × Int} (h : FineS x.1 x.2.1 x.2.2) (t : List UInt8) : spanT (spanB x ++ t) = x := by
  obtain ⟨h1, h2, h3, h4, h5⟩ := h
  have e : spanB x ++ t = UInt8.ofNat x.1.toNat :: (be 4 x.2.1.toNat ++ (be 4 x.2.2.toNat ++ t)) := by simp [spanB]
  have d5 : (be 4 x.2.1.toNat ++ (be 4 x.2.2.toNat ++ t)).drop 4 = be 4 x.2.2.toNat ++ t := by
    rw [List.drop_append_of_le_length (by rw [be_len]; omega), List.drop_eq_nil_of_le (by rw [be_len]; omega), List.nil_append]
  have t4 : ∀ (n : Nat) (r : List UInt8), (be 4 n ++ r).take 4 = be 4 n := fun n r => by
    rw [List.take_append_of_le_length (by rw [be_len]; omega), List.take_of_length_le (by rw [be_len]; omega)]
  unfold spanT
  rw [e]
  show ((numB [UInt8.ofNat x.1.toNat] : Int), (numB ((be 4 x.2.1.toNat ++ (be 4 x.2.2.toNat ++ t)).take 4) : Int), (numB (((be 4 x.2.1.toNat ++ (be 4 x.2.2.toNat ++ t)).drop 4).take 4) : Int)) = x
  rw [d5, t4, t4, num_be, num_be]
  have e1 : numB [UInt8.ofNat x.1.toNat] = x.1.toNat % 256 := by rw [numB_cons]; simp [numB, UInt8.toNat_ofNat']
  rw [e1]
  refine Prod.ext ?_ (Prod.ext ?_ ?_)
  · show ((x.1.toNat % 256 : Nat) : Int) = x.1
    omega
  · show ((x.2.1.toNat % 256 ^ 4 : Nat) : Int) = x.2.1
    omega
  · show ((x.2.2.toNat % 256 ^ 4 : Nat) : Int) = x.2.2
    omega
theorem T_back {t : List UInt8} (h : 9 ≤ t.length) : spanB (spanT t) = t.take 9 := by
  match t, h with
  | a :: b :: c :: d :: e :: f :: g :: i :: j :: r, _ =>
    have q1 := be_num [b, c, d, e]
    have q2 := be_num [f, g, i, j]
    have e1 : numB [a] = a.toNat := by rw [numB_cons]; simp [numB]
    show UInt8.ofNat ((numB [a] : Nat) : Int).toNat :: (be 4 ((numB [b, c, d, e] : Nat) : Int).toNat ++ be 4 ((numB [f, g, i, j] : Nat) : Int).toNat) = _
    rw [Int.toNat_natCast, Int.toNat_natCast, Int.toNat_natCast, e1]
    rw [show be 4 (numB [b, c, d, e]) = [b, c, d, e] from q1, show be 4 (numB [f, g, i, j]) = [f, g, i, j] from q2]
    simp
theorem flat_drop : ∀ (xs : List (Int × Int × Int)) (i : Nat), (xs.flatMap spanB).drop (9 * i) = (xs.drop i).flatMap spanB
  | xs, 0 => by simp
  | [], i + 1 => by simp
  | x :: xs, i + 1 => by
    rw [List.flatMap_cons, List.drop_succ_cons, ← flat_drop xs i, Nat.mul_succ, Nat.add_comm, ← List.drop_drop]
    congr 1
theorem head_num (n : Nat) (h : n < 65536) : numB [UInt8.ofNat (n / 256), UInt8.ofNat n] = n := by
  have := num_be 2 n
  rw [show be 2 n = [UInt8.ofNat (n / 256), UInt8.ofNat n] by simp [be]] at this
  rw [this]
  exact Nat.mod_eq_of_lt h
theorem spansR_back {xs : List (Int × Int × Int)} (h : ∀ x ∈ xs, FineS x.1 x.2.1 x.2.2) : spansR (spansB xs) xs.length = xs := by
  show (List.range xs.length).map (fun i => spanAt (spansB xs) (2 + 9 * i)) = xs
  refine List.ext_getElem (by simp) (fun i h1 h2 => ?_)
  rw [List.getElem_map, List.getElem_range, spanAt_T]
  have e : (spansB xs).drop (2 + 9 * i) = (xs.drop i).flatMap spanB := by
    rw [← flat_drop, show 2 + 9 * i = (9 * i + 1) + 1 by omega]
    rfl
  rw [e, List.drop_eq_getElem_cons h2, List.flatMap_cons]
  exact spanT_back (h _ (List.getElem_mem h2)) _
/-- A past's bytes are read as it. -/
theorem read_back {xs : List (Int × Int × Int)} (h : chkS xs = 0) : readS (bytesO xs) = (xs, (0, 0)) := by
  obtain ⟨hl, hf⟩ := chkS_zero h
  have eB : bytesO xs = spansB xs := by unfold bytesO; rw [if_pos h]
  have el : (spansB xs).length = 2 + 9 * xs.length := by
    show (UInt8.ofNat (xs.length / 256) :: UInt8.ofNat xs.length :: xs.flatMap spanB).length = _
    rw [List.length_cons, List.length_cons, flat_len]
    omega
  have en : numB ((spansB xs).take 2) = xs.length := head_num xs.length (by omega)
  rw [eB]
  unfold readS
  rw [if_neg (by omega), en, if_pos el, spansR_back hf, if_pos h]
theorem flat_spansR (ys : List UInt8) : ∀ (k : Nat), 2 + 9 * k ≤ ys.length → (spansR ys k).flatMap spanB = (ys.drop 2).take (9 * k)
  | 0, _ => by simp [spansR]
  | k + 1, h => by
    rw [spansR_succ, List.flatMap_append, flat_spansR ys k (by omega), List.flatMap_singleton, spanAt_T, T_back (by rw [List.length_drop]; omega)]
    rw [show 9 * (k + 1) = 9 * k + 9 by omega, List.take_add, List.drop_drop]
/-- What is read has just these bytes. -/
theorem bytes_back {ys : List UInt8} (h : (readS ys).2.1 = 0) : bytesO (readS ys).1 = ys ∧ chkS (readS ys).1 = 0 := by
  unfold readS at h ⊢
  by_cases h2 : ys.length < 2
  · rw [if_pos h2] at h
    exact absurd (show (4 : Int) = 0 from h) (by decide)
  · rw [if_neg h2] at h ⊢
    by_cases h3 : ys.length = 2 + 9 * numB (ys.take 2)
    · rw [if_pos h3] at h ⊢
      by_cases h4 : chkS (spansR ys (numB (ys.take 2))) = 0
      · rw [if_pos h4]
        refine ⟨?_, h4⟩
        show bytesO (spansR ys (numB (ys.take 2))) = ys
        unfold bytesO
        rw [if_pos h4]
        unfold spansB
        have tk : (ys.drop 2).take (9 * numB (ys.take 2)) = ys.drop 2 := List.take_of_length_le (by simp only [List.length_drop]; omega)
        rw [spansR_len, flat_spansR ys _ (by omega), tk]
        match ys, h2 with
        | a :: b :: r, _ =>
          have q := be_num [a, b]
          have q2 : [UInt8.ofNat (numB [a, b] / 256), UInt8.ofNat (numB [a, b])] = [a, b] := by
            rw [← show be 2 (numB [a, b]) = [UInt8.ofNat (numB [a, b] / 256), UInt8.ofNat (numB [a, b])] by simp [be]]
            exact q
          injection q2 with q3 q4
          injection q4 with q5 q6
          show UInt8.ofNat (numB [a, b] / 256) :: UInt8.ofNat (numB [a, b]) :: r = a :: b :: r
          rw [q3, q5]
        | [_], h2 => exact absurd (by simp) h2
        | [], h2 => exact absurd (by simp) h2
      · rw [if_neg h4] at h
        exact absurd h (by decide)
    · rw [if_neg h3] at h
      exact absurd h (by simp)
theorem read_odd {ys : List UInt8} (h : (readS ys).2.1 ≠ 0) : (readS ys).1 = [] ∧ 0 ≤ (readS ys).2.2 ∧ (readS ys).2.2 ≤ ys.length := by
  unfold readS at h ⊢
  by_cases h2 : ys.length < 2
  · rw [if_pos h2]
    exact ⟨rfl, by simp, by simp⟩
  · rw [if_neg h2] at h ⊢
    by_cases h3 : ys.length = 2 + 9 * numB (ys.take 2)
    · rw [if_pos h3] at h ⊢
      by_cases h4 : chkS (spansR ys (numB (ys.take 2))) = 0
      · rw [if_pos h4] at h
        exact absurd rfl h
      · rw [if_neg h4]
        exact ⟨rfl, by simp, by simp⟩
    · rw [if_neg h3]
      refine ⟨rfl, ?_, ?_⟩ <;> simp only <;> split <;> omega
theorem readS_bytes (ys : List UInt8) : (readS ys).1.length ≤ ys.length := by
  unfold readS
  split
  · simp
  · split
    · split
      · rw [spansR_len]; omega
      · simp
    · simp
end
section
open Go.RowKit Go.Lib
set_option linter.unusedSimpArgs false
set_option linter.unusedVariables false


set_option maxHeartbeats 1000000 in
theorem may_any (w : World) (A : Option Addr) (n c : Nat) (xs : List Sp) (h : RdK spanTy w A n xs) (hn : n ≤ 140737488351232) (B : Option Addr) (m d : Nat) (ys : List Sp) (h' : RdK spanTy w B m ys) (hm : m ≤ 140737488351232) :
    Calls Try.prog 50 #[.slice A n c, .slice B m d] w fun e w' => e = .returned (.bool (decide (chkS xs = 0 ∧ chkS ys = 0))) ∧ Chg [] w w' := by
  have H := Lib.hid h
  have H' := Lib.hid h'
  have HN := Lib.hid hn
  have HM := Lib.hid hm
  clear h h' hn hm
  have go : ∀ v, decide (chkS xs = 0 ∧ chkS ys = 0) = v → Calls Try.prog 50 #[.slice A n c, .slice B m d] w (fun e w' => e = .returned (.bool v) ∧ Chg [] w w') → Calls Try.prog 50 #[.slice A n c, .slice B m d] w fun e w' => e = .returned (.bool (decide (chkS xs = 0 ∧ chkS ys = 0))) ∧ Chg [] w w' := fun v hv h => hv ▸ h
  rcases chk_two xs with e1 | e1 <;> rcases chk_two ys with e2 | e2
  · refine go true (by rw [e1, e2]; rfl) ?_
    clear go
    go_enter Try.func50, Try.ntmps50
    go_wp2_with fail
    refine (pacheck_any w A n c xs H.out HN.out).mono ?_
    rintro e w1 ⟨rfl, h1⟩
    rw [e1]
    have C1 := Lib.hid h1
    clear h1
    go_wp2_with fail
    refine (pacheck_any w1 B m d ys (H'.out.chg C1.out (by simp)) HM.out).mono ?_
    rintro e w2 ⟨rfl, h2⟩
    rw [e2]
    have C2 := Lib.hid (C1.out.trans h2)
    clear h2
    go_wp2
    go_ret
    exact ⟨rfl, C2.out⟩
  · refine go false (by rw [e1, e2]; rfl) ?_
    clear go
    go_enter Try.func50, Try.ntmps50
    go_wp2_with fail
    refine (pacheck_any w A n c xs H.out HN.out).mono ?_
    rintro e w1 ⟨rfl, h1⟩
    rw [e1]
    have C1 := Lib.hid h1
    clear h1
    go_wp2_with fail
    refine (pacheck_any w1 B m d ys (H'.out.chg C1.out (by simp)) HM.out).mono ?_
    rintro e w2 ⟨rfl, h2⟩
    rw [e2]
    have C2 := Lib.hid (C1.out.trans h2)
    clear h2
    go_wp2
    go_ret
    exact ⟨rfl, C2.out⟩
  · refine go false (by rw [e1, e2]; rfl) ?_
    clear go
    go_enter Try.func50, Try.ntmps50
    go_wp2_with fail
    refine (pacheck_any w A n c xs H.out HN.out).mono ?_
    rintro e w1 ⟨rfl, h1⟩
    rw [e1]
    have C1 := Lib.hid h1
    clear h1
    go_wp2
    go_ret
    exact ⟨rfl, C1.out⟩
  · refine go false (by rw [e1, e2]; rfl) ?_
    clear go
    go_enter Try.func50, Try.ntmps50
    go_wp2_with fail
    refine (pacheck_any w A n c xs H.out HN.out).mono ?_
    rintro e w1 ⟨rfl, h1⟩
    rw [e1]
    have C1 := Lib.hid h1
    clear h1
    go_wp2
    go_ret
    exact ⟨rfl, C1.out⟩
end
section
open Go.RowKit Go.Lib
set_option linter.unusedSimpArgs false
set_option linter.unusedVariables false


/-- push, whatever comes. -/
theorem push_any (w : World) (c : Nat) (z : Sp) (A : Option Addr) (xs : List Sp) (h : OwnK spanTy w A c xs) (hn : xs.length ≤ 100000) (hb : ∀ x ∈ xs, B3 x) : Calls Try.prog 46 #[.slice A xs.length c, .agg #[.int .i64 z.1, .int .i64 z.2.1, .int .i64 z.2.2]] w fun e w' => ∃ A' c', e = .returned (.slice A' (pushP xs z).length c') ∧ OwnK spanTy w' A' c' (pushP xs z) ∧ (A' = A ∨ ∀ a, A' = some a → w.heap.size ≤ a.block) ∧ ∀ S : List Nat, (∀ a, A = some a → a.block ∈ S) → Chg S w w' := by
  by_cases h0 : xs.length = 0
  · have e : xs = [] := List.eq_nil_of_length_eq_zero h0
    subst e
    exact push_first w c z.1 z.2.1 z.2.2 A h
  · obtain ⟨y, hy⟩ : ∃ y, xs[xs.length - 1]? = some y := ⟨_, List.getElem?_eq_getElem (by omega)⟩
    have by_ := hb y (List.mem_of_getElem? hy)
    unfold B3 at by_
    by_cases ha : Ap y z
    · refine (push_apart w c z.1 z.2.1 z.2.2 A xs y h (by omega) hn hy (by omega) (by omega) ha).mono ?_
      rintro e w' ⟨A', c', rfl, ho, hA, hc⟩
      rw [push_apart' hy ha]
      exact ⟨A', c', by simp, ho, hA, hc⟩
    · refine (push_touches w c z.1 z.2.1 z.2.2 A xs y h (by omega) hn hy (by omega) (by omega) ha).mono ?_
      rintro e w' ⟨rfl, ho, hc⟩
      rw [push_touch hy ha]
      exact ⟨A, c, by rw [List.length_set], ho, .inl rfl, hc⟩
end
section
open Go.RowKit Go.Lib
set_option linter.unusedSimpArgs false
set_option linter.unusedVariables false


set_option maxRecDepth 100000 in
theorem next_none_c (w : World) (g : Nat) (h0 h1 h2 : Value) (B : Option Addr) (c : Nat) (hb : w.heap[g]? = some (.cells #[h0, h1, h2, .slice B 0 c] 86 (0, 0))) :
    Calls Try.prog 80 #[.pointer (some ⟨g, 0, none⟩)] w fun e w' => e = .returned (.tuple #[]) ∧ w'.heap[g]? = some (.cells #[.int .i64 201, .int .i64 0, .int .i64 0, .slice B 0 c] 86 (0, 0)) ∧ Chg [g] w w' := by
  have HB := Lib.hid hb
  clear hb
  go_enter Try.func80, Try.ntmps80
  have z0 := cell_of HB.out 0
  have z1 := cell_of HB.out 1
  have z2 := cell_of HB.out 2
  have z3 := cell_of HB.out 3
  have fz0 := free_of HB.out 0
  have fz1 := free_of HB.out 1
  have fz2 := free_of HB.out 2
  simp only [List.getElem?_toArray, List.getElem?_cons_succ, List.getElem?_cons_zero] at z0 z1 z2 z3
  have p0 := heap_setCell_same w g 0 _ _ (.int .i64 201) HB.out
  have p1 := heap_setCell_same (w.setCell ⟨g, 0, none⟩ (.int .i64 201)) g 1 _ _ (.int .i64 0) p0
  have p2 := heap_setCell_same ((w.setCell ⟨g, 0, none⟩ (.int .i64 201)).setCell ⟨g, 1, none⟩ (.int .i64 0)) g 2 _ _ (.int .i64 0) p1
  simp only [List.setIfInBounds_toArray, List.set_cons_zero, List.set_cons_succ] at p2
  have HP := Lib.hid p2
  have CP := Lib.hid ((((Chg.refl [g] w).setCell (p := ⟨g, 0, none⟩) (.inl (by simp)) (.int .i64 201)).setCell (p := ⟨g, 1, none⟩) (.inl (by simp)) (.int .i64 0)).setCell (p := ⟨g, 2, none⟩) (.inl (by simp)) (.int .i64 0))
  clear p0 p1 p2
  go_wp2
  refine bodyPost_ret (results_none rfl _ _ _) rfl ?_
  exact ⟨rfl, HP.out, CP.out⟩
set_option maxRecDepth 100000 in
set_option maxHeartbeats 4000000 in
theorem next_some_c (w : World) (g : Nat) (h0 h1 h2 : Value) (B : Option Addr) (c : Nat) (x : Sp) (r : List Sp) (hb : w.heap[g]? = some (.cells #[h0, h1, h2, .slice B (r.length + 1) c] 86 (0, 0))) (hr : RdK spanTy w B (r.length + 1) (x :: r)) (hn : r.length + 1 ≤ c ∧ c ≤ maxLen) (hB : ∀ a, B = some a → a.block ≠ g) :
    Calls Try.prog 80 #[.pointer (some ⟨g, 0, none⟩)] w fun e w' => e = .returned (.tuple #[]) ∧ ∃ B' c', w'.heap[g]? = some (.cells #[.int .i64 x.1, .int .i64 x.2.1, .int .i64 x.2.2, (.slice B' r.length c')] 86 (0, 0)) ∧ RdK spanTy w' B' r.length r ∧ (r.length ≤ c' ∧ c' ≤ maxLen) ∧ (∀ a, B' = some a → ∃ b, B = some b ∧ a.block = b.block) ∧ Chg [g] w w' := by
  obtain ⟨gB, oB, eB, _⟩ := hr.line (by omega)
  subst eB
  have HR := Lib.hid hr
  have HN := Lib.hid hn
  have NB := Lib.hid (hB ⟨gB, oB, none⟩ rfl)
  obtain ⟨y0, y1, y2⟩ := spanCells hr (j := 0) (x := x) rfl
  rw [Nat.zero_mul, Nat.add_zero] at y0 y1 y2
  have HB := Lib.hid hb
  have Y := Lib.hid (show w.cell? ⟨gB, oB, none⟩ = some (.int .i64 x.1) ∧ w.cell? ⟨gB, oB + 1, none⟩ = some (.int .i64 x.2.1) ∧ w.cell? ⟨gB, oB + 2, none⟩ = some (.int .i64 x.2.2) from ⟨y0, y1, y2⟩)
  clear hb hr hn y0 y1 y2 hB
  have n0 : (((r.length + 1 : Nat) : Int) == 0) = false := by simp; omega
  have n1 : (0 : Int) < ((r.length + 1 : Nat) : Int) := by omega
  have n2 : (1 : Int) ≤ ((r.length + 1 : Nat) : Int) := by omega
  have n3 : ((r.length + 1 : Nat) : Int) ≤ (c : Int) := by have := HN.out; omega
  have n5 : (1 : Int) ≤ (r.length : Int) + 1 := by omega
  have n4 : r.length + 1 - 1 = r.length := by omega
  have HT : Hid (RdK spanTy w (if c = 1 then some ⟨gB, oB, none⟩ else some ⟨gB, oB + 3, none⟩) r.length r) := Lib.hid (by
    split
    · have := HN.out
      have e : r = [] := List.eq_nil_of_length_eq_zero (by omega)
      subst e
      exact RdK.nil _ _
    · have q := HR.out.part 1 r.length (by omega)
      simpa [RowTy.k, spanTy] using q)
  go_enter Try.func80, Try.ntmps80
  have z3 := cell_of HB.out 3
  simp only [List.getElem?_toArray, List.getElem?_cons_succ, List.getElem?_cons_zero] at z3
  go_upto_region 2 with fail
  clear z3
  refine wp_region_held_drew (S := fun _ => True) (by kernel_rfl) trivial (fun hHeld => ?_)
  have CD := Lib.hid (Chg.refl [g] w).drew
  replace HB := Lib.hid (show w.drew.heap[g]? = some _ from HB.out)
  replace Y := Lib.hid (show w.drew.cell? ⟨gB, oB, none⟩ = some (.int .i64 x.1) ∧ w.drew.cell? ⟨gB, oB + 1, none⟩ = some (.int .i64 x.2.1) ∧ w.drew.cell? ⟨gB, oB + 2, none⟩ = some (.int .i64 x.2.2) from Y.out)
  replace HT := Lib.hid (show RdK spanTy w.drew _ r.length r from HT.out.chg (Chg.refl [] w).drew (by simp))
  generalize w.drew = wd at *
  generalize hAD : (if c = 1 then some ⟨gB, oB, none⟩ else some ⟨gB, oB + 3, none⟩ : Option Addr) = AD at *
  have AB : Hid (∀ a, AD = some a → a.block = gB) := Lib.hid (by intro a ha; rw [← hAD] at ha; split at ha <;> cases ha <;> rfl)
  refine sy 0 12 rfl rfl ?_ (hS := trivial)
  try simp only [Act.put, sA, s0, s1]
  refine sy 1 13 rfl rfl ?_ (hS := trivial)
  try simp only [Act.put, sA, s0, s1]
  refine sy 2 14 rfl rfl ?_ (hS := trivial)
  try simp only [Act.put, sA, s0, s1]
  refine sy 3 15 rfl rfl ?_ (hS := trivial)
  try simp only [Act.put, sA, s0, s1]
  refine sy 4 16 rfl rfl ?_ (hS := trivial)
  try simp only [Act.put, sA, s0, s1]
  refine sy 8 20 rfl rfl ?_ (hS := trivial)
  try simp only [Act.put, sA, s0, s1]
  refine sy 9 21 rfl rfl ?_ (hS := trivial)
  try simp only [Act.put, sA, s0, s1]
  refine sy 10 22 rfl rfl ?_ (hS := trivial)
  try simp only [Act.put, sA, s0, s1]
  refine wpAnyH_ready (rs := [5, 11]) (by kernel_rfl) (by simp) ?_
  refine AllReadyH.cons rfl (fun K hK => ?_) (AllReadyH.cons rfl (fun K hK => ?_) AllReadyH.nil)
  · skip
    replace hK := Lib.hid hK
    have z3 := cell_of HB.out 3
    simp only [List.getElem?_toArray, List.getElem?_cons_succ, List.getElem?_cons_zero] at z3
    go_simp
    clear z3 hHeld
    refine hK.out _ _ trivial (fun hHeld => ?_)
    clear hK K
    try simp only [Act.put, sA, s0, s1]
    refine sy 6 18 rfl rfl ?_ (hS := trivial)
    try simp only [Act.put, sA, s0, s1]
    refine wpAnyH_ready (rs := [7, 11]) (by kernel_rfl) (by simp) ?_
    refine AllReadyH.cons rfl (fun K hK => ?_) (AllReadyH.cons rfl (fun K hK => ?_) AllReadyH.nil)
    · skip
      replace hK := Lib.hid hK
      obtain ⟨y0, y1, y2⟩ := Y.out
      go_simp
      clear y0 y1 y2 hHeld
      refine hK.out _ _ trivial (fun hHeld => ?_)
      clear hK K
      try simp only [Act.put, sA, s0, s1]
      refine wpAnyH_ready (rs := [11]) (by kernel_rfl) (by simp) ?_
      refine AllReadyH.cons rfl (fun K hK => ?_) AllReadyH.nil
      replace hK := Lib.hid hK
      have z3 := cell_of HB.out 3
      simp only [List.getElem?_toArray, List.getElem?_cons_succ, List.getElem?_cons_zero] at z3
      go_simp
      clear z3 hHeld
      refine hK.out _ _ trivial (fun hHeld => ?_)
      clear hK K
      try simp only [Act.put, sA, s0, s1]
      refine sy 12 24 rfl rfl ?_ (hS := trivial)
      try simp only [Act.put, sA, s0, s1]
      refine sy 13 25 rfl rfl ?_ (hS := trivial)
      try simp only [Act.put, sA, s0, s1]
      refine sy 14 26 rfl rfl ?_ (hS := trivial)
      try simp only [Act.put, sA, s0, s1]
      refine wpAnyH_ready (rs := [15]) (by kernel_rfl) (by simp) ?_
      refine AllReadyH.cons rfl (fun K hK => ?_) AllReadyH.nil
      replace hK := Lib.hid hK
      have z0 := cell_of HB.out 0
      have z1 := cell_of HB.out 1
      have z2 := cell_of HB.out 2
      have fz0 := free_of HB.out 0
      have fz1 := free_of HB.out 1
      have fz2 := free_of HB.out 2
      simp only [List.getElem?_toArray, List.getElem?_cons_succ, List.getElem?_cons_zero] at z0 z1 z2
      have p0 := heap_setCell_same wd g 0 _ _ (.int .i64 x.1) HB.out
      have p1 := heap_setCell_same (wd.setCell ⟨g, 0, none⟩ (.int .i64 x.1)) g 1 _ _ (.int .i64 x.2.1) p0
      have p2 := heap_setCell_same ((wd.setCell ⟨g, 0, none⟩ (.int .i64 x.1)).setCell ⟨g, 1, none⟩ (.int .i64 x.2.1)) g 2 _ _ (.int .i64 x.2.2) p1
      simp only [List.setIfInBounds_toArray, List.set_cons_zero, List.set_cons_succ] at p2
      have HP := Lib.hid p2
      clear p0 p1 p2
      go_simp
      clear hHeld z0 fz0 z1 fz1 z2 fz2
      refine hK.out _ _ trivial (fun hHeld => ?_)
      clear hK K
      try simp only [Act.put, sA, s0, s1]
      refine sy 16 27 rfl rfl ?_ (hS := trivial)
      try simp only [Act.put, sA, s0, s1]
      refine sy 17 28 rfl rfl ?_ (hS := trivial)
      try simp only [Act.put, sA, s0, s1]
      refine wpAnyH_ready (rs := [18]) (by kernel_rfl) (by simp) ?_
      refine AllReadyH.cons rfl (fun K hK => ?_) AllReadyH.nil
      replace hK := Lib.hid hK
      have z3 := cell_of HP.out 3
      have fz3 := free_of HP.out 3
      simp only [List.getElem?_toArray, List.getElem?_cons_succ, List.getElem?_cons_zero] at z3
      go_simp
      clear hHeld z3 fz3
      refine hK.out _ _ trivial (fun hHeld => ?_)
      clear hK K
      try simp only [Act.put, sA, s0, s1]
      refine wpAnyH_done (by kernel_rfl) ?_ _
      have HQ := heap_setCell_same _ g 3 _ _ (.slice AD r.length (c - 1)) HP.out
      simp only [List.setIfInBounds_toArray, List.set_cons_zero, List.set_cons_succ] at HQ
      have CQ := Lib.hid (((((Chg.refl [g] wd).setCell (p := ⟨g, 0, none⟩) (.inl (by simp)) (.int .i64 x.1)).setCell (p := ⟨g, 1, none⟩) (.inl (by simp)) (.int .i64 x.2.1)).setCell (p := ⟨g, 2, none⟩) (.inl (by simp)) (.int .i64 x.2.2)).setCell (p := ⟨g, 3, none⟩) (.inl (by simp)) (.slice AD r.length (c - 1)))
      have HQ2 := Lib.hid HQ
      clear HQ
      go_wp2
      go_end0
      exact ⟨rfl, AD, c - 1, HQ2.out, HT.out.chg CQ.out (fun a ha => by rw [AB.out a ha]; simpa using NB.out), by have := HN.out; omega, fun a ha => by (first | exact ⟨_, rfl, AB.out a ha⟩ | exact AB.out a ha | simpa using AB.out a ha), CD.out.trans CQ.out⟩
    · skip
      replace hK := Lib.hid hK
      have z3 := cell_of HB.out 3
      simp only [List.getElem?_toArray, List.getElem?_cons_succ, List.getElem?_cons_zero] at z3
      go_simp
      clear z3 hHeld
      refine hK.out _ _ trivial (fun hHeld => ?_)
      clear hK K
      try simp only [Act.put, sA, s0, s1]
      refine sy 12 24 rfl rfl ?_ (hS := trivial)
      try simp only [Act.put, sA, s0, s1]
      refine wpAnyH_ready (rs := [7]) (by kernel_rfl) (by simp) ?_
      refine AllReadyH.cons rfl (fun K hK => ?_) AllReadyH.nil
      replace hK := Lib.hid hK
      obtain ⟨y0, y1, y2⟩ := Y.out
      go_simp
      clear y0 y1 y2 hHeld
      refine hK.out _ _ trivial (fun hHeld => ?_)
      clear hK K
      try simp only [Act.put, sA, s0, s1]
      refine sy 13 25 rfl rfl ?_ (hS := trivial)
      try simp only [Act.put, sA, s0, s1]
      refine sy 14 26 rfl rfl ?_ (hS := trivial)
      try simp only [Act.put, sA, s0, s1]
      refine wpAnyH_ready (rs := [15]) (by kernel_rfl) (by simp) ?_
      refine AllReadyH.cons rfl (fun K hK => ?_) AllReadyH.nil
      replace hK := Lib.hid hK
      have z0 := cell_of HB.out 0
      have z1 := cell_of HB.out 1
      have z2 := cell_of HB.out 2
      have fz0 := free_of HB.out 0
      have fz1 := free_of HB.out 1
      have fz2 := free_of HB.out 2
      simp only [List.getElem?_toArray, List.getElem?_cons_succ, List.getElem?_cons_zero] at z0 z1 z2
      have p0 := heap_setCell_same wd g 0 _ _ (.int .i64 x.1) HB.out
      have p1 := heap_setCell_same (wd.setCell ⟨g, 0, none⟩ (.int .i64 x.1)) g 1 _ _ (.int .i64 x.2.1) p0
      have p2 := heap_setCell_same ((wd.setCell ⟨g, 0, none⟩ (.int .i64 x.1)).setCell ⟨g, 1, none⟩ (.int .i64 x.2.1)) g 2 _ _ (.int .i64 x.2.2) p1
      simp only [List.setIfInBounds_toArray, List.set_cons_zero, List.set_cons_succ] at p2
      have HP := Lib.hid p2
      clear p0 p1 p2
      go_simp
      clear hHeld z0 fz0 z1 fz1 z2 fz2
      refine hK.out _ _ trivial (fun hHeld => ?_)
      clear hK K
      try simp only [Act.put, sA, s0, s1]
      refine sy 16 27 rfl rfl ?_ (hS := trivial)
      try simp only [Act.put, sA, s0, s1]
      refine sy 17 28 rfl rfl ?_ (hS := trivial)
      try simp only [Act.put, sA, s0, s1]
      refine wpAnyH_ready (rs := [18]) (by kernel_rfl) (by simp) ?_
      refine AllReadyH.cons rfl (fun K hK => ?_) AllReadyH.nil
      replace hK := Lib.hid hK
      have z3 := cell_of HP.out 3
      have fz3 := free_of HP.out 3
      simp only [List.getElem?_toArray, List.getElem?_cons_succ, List.getElem?_cons_zero] at z3
      go_simp
      clear hHeld z3 fz3
      refine hK.out _ _ trivial (fun hHeld => ?_)
      clear hK K
      try simp only [Act.put, sA, s0, s1]
      refine wpAnyH_done (by kernel_rfl) ?_ _
      have HQ := heap_setCell_same _ g 3 _ _ (.slice AD r.length (c - 1)) HP.out
      simp only [List.setIfInBounds_toArray, List.set_cons_zero, List.set_cons_succ] at HQ
      have CQ := Lib.hid (((((Chg.refl [g] wd).setCell (p := ⟨g, 0, none⟩) (.inl (by simp)) (.int .i64 x.1)).setCell (p := ⟨g, 1, none⟩) (.inl (by simp)) (.int .i64 x.2.1)).setCell (p := ⟨g, 2, none⟩) (.inl (by simp)) (.int .i64 x.2.2)).setCell (p := ⟨g, 3, none⟩) (.inl (by simp)) (.slice AD r.length (c - 1)))
      have HQ2 := Lib.hid HQ
      clear HQ
      go_wp2
      go_end0
      exact ⟨rfl, AD, c - 1, HQ2.out, HT.out.chg CQ.out (fun a ha => by rw [AB.out a ha]; simpa using NB.out), by have := HN.out; omega, fun a ha => by (first | exact ⟨_, rfl, AB.out a ha⟩ | exact AB.out a ha | simpa using AB.out a ha), CD.out.trans CQ.out⟩
  · skip
    replace hK := Lib.hid hK
    have z3 := cell_of HB.out 3
    simp only [List.getElem?_toArray, List.getElem?_cons_succ, List.getElem?_cons_zero] at z3
    go_simp
    clear z3 hHeld
    refine hK.out _ _ trivial (fun hHeld => ?_)
    clear hK K
    try simp only [Act.put, sA, s0, s1]
    refine sy 12 24 rfl rfl ?_ (hS := trivial)
    try simp only [Act.put, sA, s0, s1]
    refine wpAnyH_ready (rs := [5]) (by kernel_rfl) (by simp) ?_
    refine AllReadyH.cons rfl (fun K hK => ?_) AllReadyH.nil
    replace hK := Lib.hid hK
    have z3 := cell_of HB.out 3
    simp only [List.getElem?_toArray, List.getElem?_cons_succ, List.getElem?_cons_zero] at z3
    go_simp
    clear z3 hHeld
    refine hK.out _ _ trivial (fun hHeld => ?_)
    clear hK K
    try simp only [Act.put, sA, s0, s1]
    refine sy 6 18 rfl rfl ?_ (hS := trivial)
    try simp only [Act.put, sA, s0, s1]
    refine wpAnyH_ready (rs := [7]) (by kernel_rfl) (by simp) ?_
    refine AllReadyH.cons rfl (fun K hK => ?_) AllReadyH.nil
    replace hK := Lib.hid hK
    obtain ⟨y0, y1, y2⟩ := Y.out
    go_simp
    clear y0 y1 y2 hHeld
    refine hK.out _ _ trivial (fun hHeld => ?_)
    clear hK K
    try simp only [Act.put, sA, s0, s1]
    refine sy 13 25 rfl rfl ?_ (hS := trivial)
    try simp only [Act.put, sA, s0, s1]
    refine sy 14 26 rfl rfl ?_ (hS := trivial)
    try simp only [Act.put, sA, s0, s1]
    refine wpAnyH_ready (rs := [15]) (by kernel_rfl) (by simp) ?_
    refine AllReadyH.cons rfl (fun K hK => ?_) AllReadyH.nil
    replace hK := Lib.hid hK
    have z0 := cell_of HB.out 0
    have z1 := cell_of HB.out 1
    have z2 := cell_of HB.out 2
    have fz0 := free_of HB.out 0
    have fz1 := free_of HB.out 1
    have fz2 := free_of HB.out 2
    simp only [List.getElem?_toArray, List.getElem?_cons_succ, List.getElem?_cons_zero] at z0 z1 z2
    have p0 := heap_setCell_same wd g 0 _ _ (.int .i64 x.1) HB.out
    have p1 := heap_setCell_same (wd.setCell ⟨g, 0, none⟩ (.int .i64 x.1)) g 1 _ _ (.int .i64 x.2.1) p0
    have p2 := heap_setCell_same ((wd.setCell ⟨g, 0, none⟩ (.int .i64 x.1)).setCell ⟨g, 1, none⟩ (.int .i64 x.2.1)) g 2 _ _ (.int .i64 x.2.2) p1
    simp only [List.setIfInBounds_toArray, List.set_cons_zero, List.set_cons_succ] at p2
    have HP := Lib.hid p2
    clear p0 p1 p2
    go_simp
    clear hHeld z0 fz0 z1 fz1 z2 fz2
    refine hK.out _ _ trivial (fun hHeld => ?_)
    clear hK K
    try simp only [Act.put, sA, s0, s1]
    refine sy 16 27 rfl rfl ?_ (hS := trivial)
    try simp only [Act.put, sA, s0, s1]
    refine sy 17 28 rfl rfl ?_ (hS := trivial)
    try simp only [Act.put, sA, s0, s1]
    refine wpAnyH_ready (rs := [18]) (by kernel_rfl) (by simp) ?_
    refine AllReadyH.cons rfl (fun K hK => ?_) AllReadyH.nil
    replace hK := Lib.hid hK
    have z3 := cell_of HP.out 3
    have fz3 := free_of HP.out 3
    simp only [List.getElem?_toArray, List.getElem?_cons_succ, List.getElem?_cons_zero] at z3
    go_simp
    clear hHeld z3 fz3
    refine hK.out _ _ trivial (fun hHeld => ?_)
    clear hK K
    try simp only [Act.put, sA, s0, s1]
    refine wpAnyH_done (by kernel_rfl) ?_ _
    have HQ := heap_setCell_same _ g 3 _ _ (.slice AD r.length (c - 1)) HP.out
    simp only [List.setIfInBounds_toArray, List.set_cons_zero, List.set_cons_succ] at HQ
    have CQ := Lib.hid (((((Chg.refl [g] wd).setCell (p := ⟨g, 0, none⟩) (.inl (by simp)) (.int .i64 x.1)).setCell (p := ⟨g, 1, none⟩) (.inl (by simp)) (.int .i64 x.2.1)).setCell (p := ⟨g, 2, none⟩) (.inl (by simp)) (.int .i64 x.2.2)).setCell (p := ⟨g, 3, none⟩) (.inl (by simp)) (.slice AD r.length (c - 1)))
    have HQ2 := Lib.hid HQ
    clear HQ
    go_wp2
    go_end0
    exact ⟨rfl, AD, c - 1, HQ2.out, HT.out.chg CQ.out (fun a ha => by rw [AB.out a ha]; simpa using NB.out), by have := HN.out; omega, fun a ha => by (first | exact ⟨_, rfl, AB.out a ha⟩ | exact AB.out a ha | simpa using AB.out a ha), CD.out.trans CQ.out⟩
end
section
open Go.RowKit Go.Lib
set_option linter.unusedSimpArgs false
set_option linter.unusedVariables false


set_option maxRecDepth 100000 in
set_option maxHeartbeats 4000000 in
theorem begin_any (w : World) (B : Option Addr) (c : Nat) (l : List Sp) (hr : RdK spanTy w B l.length l) (hn : l.length ≤ c ∧ c ≤ maxLen) (hold : ∀ a, B = some a → a.block < w.heap.size) :
    Calls Try.prog 72 #[.slice B l.length c] w fun e w' => ∃ B' c', e = .returned (.agg #[.int .i64 (hdP l).1, .int .i64 (hdP l).2.1, .int .i64 (hdP l).2.2, .slice B' l.tail.length c']) ∧ RdK spanTy w' B' l.tail.length l.tail ∧ (l.tail.length ≤ c' ∧ c' ≤ maxLen) ∧ (∀ a, B' = some a → ∃ b, B = some b ∧ a.block = b.block) ∧ Chg [] w w' := by
  have HR := Lib.hid hr
  have HN := Lib.hid hn
  clear hr hn
  obtain ⟨w1, hw1, c1, b1, b2⟩ := news2 w (.cells #[.int .i64 0, .int .i64 0, .int .i64 0, .slice none 0 0] 86) (.cells #[.int .i64 0, .int .i64 0, .int .i64 0, .slice B l.length c] 86)
  have W1 := Lib.hid hw1
  have C1 := Lib.hid c1
  have B1 := Lib.hid b1
  have B2 := Lib.hid b2
  have L1 := Lib.hid (lt_of_heap b2)
  replace HR := Lib.hid (HR.out.chg c1 (by simp))
  have OLD := Lib.hid hold
  clear hw1 c1 b1 b2 hold
  go_enter Try.func72, Try.ntmps72
  go_wp2_with fail
  rw [← W1.out]
  have S1 : Hid (w.heap.size + 1 < w1.heap.size) := L1
  generalize hg0 : w.heap.size = g0 at *
  clear W1 L1
  have key : Calls Try.prog 80 #[.pointer (some ⟨g0 + 1, 0, none⟩)] w1 fun e w' => e = .returned (.tuple #[]) ∧ ∃ B' c', w'.heap[g0 + 1]? = some (.cells #[.int .i64 (hdP l).1, .int .i64 (hdP l).2.1, .int .i64 (hdP l).2.2, .slice B' l.tail.length c'] 86 (0, 0)) ∧ RdK spanTy w' B' l.tail.length l.tail ∧ (l.tail.length ≤ c' ∧ c' ≤ maxLen) ∧ (∀ a, B' = some a → ∃ b, B = some b ∧ a.block = b.block) ∧ Chg [g0 + 1] w1 w' := by
    cases l with
    | nil =>
      refine (next_none_c w1 (g0 + 1) _ _ _ B c B2.out).mono ?_
      rintro e w' ⟨rfl, h1, h2⟩
      exact ⟨rfl, B, c, h1, RdK.nil _ _, ⟨Nat.zero_le _, HN.out.2⟩, fun a ha => ⟨a, ha, rfl⟩, h2⟩
    | cons x r =>
      refine (next_some_c w1 (g0 + 1) _ _ _ B c x r B2.out HR.out HN.out (fun a ha => by have := OLD.out a ha; omega)).mono ?_
      rintro e w' ⟨rfl, B2, c2, h1, h2, h3, h4, h5⟩
      exact ⟨rfl, B2, c2, h1, h2, h3, h4, h5⟩
  refine key.mono ?_
  rintro e w2 ⟨rfl, B', c', h1, h2, h3, h4, h5⟩
  have HB := Lib.hid h1
  have HQ := Lib.hid h2
  have H3 := Lib.hid h3
  have H4 := Lib.hid h4
  have C2 := Lib.hid h5
  replace B1 := Lib.hid (h5.at_ B1.out (by simp))
  clear h1 h2 h3 h4 h5 key
  generalize hhd : hdP l = hd at *
  generalize htl : l.tail = tl at *
  have HHD := Lib.hid hhd
  have HTL := Lib.hid htl
  clear hhd htl
  have y0 := cell_of HB.out 0
  have y1 := cell_of HB.out 1
  have y2 := cell_of HB.out 2
  have y3 := cell_of HB.out 3
  simp only [List.getElem?_toArray, List.getElem?_cons_succ, List.getElem?_cons_zero] at y0 y1 y2 y3
  have z0 := cell_of B1.out 0
  have z1 := cell_of B1.out 1
  have z2 := cell_of B1.out 2
  have z3 := cell_of B1.out 3
  have fz0 := free_of B1.out 0
  have fz1 := free_of B1.out 1
  have fz2 := free_of B1.out 2
  have fz3 := free_of B1.out 3
  simp only [List.getElem?_toArray, List.getElem?_cons_succ, List.getElem?_cons_zero] at z0 z1 z2 z3
  generalize hg1 : g0 + 1 = g1 at *
  have p0 := heap_setCell_same w2 g0 0 _ _ (.int .i64 hd.1) B1.out
  have p1 := heap_setCell_same (w2.setCell ⟨g0, 0, none⟩ (.int .i64 hd.1)) g0 1 _ _ (.int .i64 hd.2.1) p0
  have p2 := heap_setCell_same ((w2.setCell ⟨g0, 0, none⟩ (.int .i64 hd.1)).setCell ⟨g0, 1, none⟩ (.int .i64 hd.2.1)) g0 2 _ _ (.int .i64 hd.2.2) p1
  have p3 := heap_setCell_same (((w2.setCell ⟨g0, 0, none⟩ (.int .i64 hd.1)).setCell ⟨g0, 1, none⟩ (.int .i64 hd.2.1)).setCell ⟨g0, 2, none⟩ (.int .i64 hd.2.2)) g0 3 _ _ ((.slice B' tl.length c')) p2
  simp only [List.setIfInBounds_toArray, List.set_cons_zero, List.set_cons_succ] at p3
  have HP := Lib.hid p3
  have CP := Lib.hid (((((Chg.refl [g0] w2).setCell (p := ⟨g0, 0, none⟩) (.inl (by simp)) (.int .i64 hd.1)).setCell (p := ⟨g0, 1, none⟩) (.inl (by simp)) (.int .i64 hd.2.1)).setCell (p := ⟨g0, 2, none⟩) (.inl (by simp)) (.int .i64 hd.2.2)).setCell (p := ⟨g0, 3, none⟩) (.inl (by simp)) ((.slice B' tl.length c')))
  clear p0 p1 p2 p3
  go_wp2
  generalize ((((w2.setCell ⟨g0, 0, none⟩ (.int .i64 hd.1)).setCell ⟨g0, 1, none⟩ (.int .i64 hd.2.1)).setCell ⟨g0, 2, none⟩ (.int .i64 hd.2.2)).setCell ⟨g0, 3, none⟩ ((.slice B' tl.length c'))) = wf at *
  have q0 := cell_of HP.out 0
  have q1 := cell_of HP.out 1
  have q2 := cell_of HP.out 2
  have q3 := cell_of HP.out 3
  simp only [List.getElem?_toArray, List.getElem?_cons_succ, List.getElem?_cons_zero] at q0 q1 q2 q3
  refine bodyPost_ret (v := .agg #[.int .i64 hd.1, .int .i64 hd.2.1, .int .i64 hd.2.2, .slice B' tl.length c']) (by simp [results, Try.results72, go_sem, q0, q1, q2, q3]) rfl ?_
  have e1 := HHD.out
  have e2 := HTL.out
  subst e1
  subst e2
  refine ⟨B', c', rfl, HQ.out.chg CP.out (fun a ha => by obtain ⟨b, hb, e⟩ := H4.out a ha; have := OLD.out b hb; simp; omega), H3.out, H4.out, ?_⟩
  exact (C1.out.trans' C2.out (fun z hz => by simp at hz; subst hz; exact .inr (by omega))).trans' CP.out (fun z hz => by simp at hz; subst hz; exact .inr (by omega))
end
section
open Go.RowKit Go.Lib
set_option linter.unusedSimpArgs false
set_option linter.unusedVariables false


/-- A sweep through two pasts, at g: what is left of them (their spans lie in the blocks X). -/
structure SwQ (w : World) (g : Nat) (X : List Nat) (la lb : List Sp) (K : Nat) (A : Option Addr) (c : Nat) (B : Option Addr) (d : Nat) : Prop where
  hg : w.heap[g]? = some (.cells #[.int .i64 (hdP la).1, .int .i64 (hdP la).2.1, .int .i64 (hdP la).2.2, .slice A la.tail.length c, .int .i64 (hdP lb).1, .int .i64 (hdP lb).2.1, .int .i64 (hdP lb).2.2, .slice B lb.tail.length d, .func (.func K) #[] #[]] 89 (0, 0))
  ra : RdK spanTy w A la.tail.length la.tail
  ca : la.tail.length ≤ c ∧ c ≤ maxLen
  na : ∀ a, A = some a → a.block ∈ X
  rb : RdK spanTy w B lb.tail.length lb.tail
  cb : lb.tail.length ≤ d ∧ d ≤ maxLen
  nb : ∀ a, B = some a → a.block ∈ X
  gx : g ∉ X
def SwP (w : World) (g : Nat) (X : List Nat) (la lb : List Sp) (K : Nat) : Prop := ∃ A c B d, SwQ w g X la lb K A c B d
theorem SwQ.chg {w w' : World} {S : List Nat} {g : Nat} {X : List Nat} {la lb : List Sp} {K : Nat} {A : Option Addr} {c : Nat} {B : Option Addr} {d : Nat} (h : SwQ w g X la lb K A c B d) (hc : Chg S w w') (hg : g ∉ S) (hX : ∀ z ∈ X, z ∉ S) : SwQ w' g X la lb K A c B d :=
  ⟨hc.at_ h.hg hg, h.ra.chg hc (fun a ha => hX _ (h.na a ha)), h.ca, h.na, h.rb.chg hc (fun a ha => hX _ (h.nb a ha)), h.cb, h.nb, h.gx⟩
theorem SwP.chg {w w' : World} {S : List Nat} {g : Nat} {X : List Nat} {la lb : List Sp} {K : Nat} (h : SwP w g X la lb K) (hc : Chg S w w') (hg : g ∉ S) (hX : ∀ z ∈ X, z ∉ S) : SwP w' g X la lb K := by
  obtain ⟨A, c, B, d, h⟩ := h
  exact ⟨A, c, B, d, h.chg hc hg hX⟩
theorem join3 {α β γ : Type} {F R : α → β → γ → Prop} {G : Prop} (h1 : (∀ a b c, F a b c → R a b c) → G) (h2 : ∀ a b c, F a b c → R a b c) : G := h1 h2
set_option maxRecDepth 100000 in
set_option maxHeartbeats 4000000 in
theorem over_any (w : World) (A : Option Addr) (c : Nat) (la : List Sp) (B : Option Addr) (d : Nat) (lb : List Sp) (K : Nat) (X : List Nat) (ha : RdK spanTy w A la.length la) (hca : la.length ≤ c ∧ c ≤ maxLen) (hoa : ∀ a, A = some a → a.block < w.heap.size) (hb : RdK spanTy w B lb.length lb) (hcb : lb.length ≤ d ∧ d ≤ maxLen) (hob : ∀ a, B = some a → a.block < w.heap.size) (hxa : ∀ a, A = some a → a.block ∈ X) (hxb : ∀ a, B = some a → a.block ∈ X) (hX : ∀ z ∈ X, z < w.heap.size) :
    Calls Try.prog 51 #[.slice A la.length c, .slice B lb.length d, .func (.func K) #[] #[]] w fun e w' => ∃ g, e = .returned (.pointer (some ⟨g, 0, none⟩)) ∧ SwP w' g X la lb K ∧ w.heap.size ≤ g ∧ Chg [] w w' := by
  have HA := Lib.hid ha
  have HCA := Lib.hid hca
  have HOA := Lib.hid hoa
  have HB := Lib.hid hb
  have HCB := Lib.hid hcb
  have HOB := Lib.hid hob
  clear ha hca hoa hb hcb hob
  go_enter Try.func51, Try.ntmps51
  go_wp2_with fail
  refine (begin_any w A c la HA.out HCA.out HOA.out).mono ?_
  rintro r w1 ⟨A', c', rfl, h1, h2, h3, h4⟩
  have H1 := Lib.hid h1
  have H2 := Lib.hid h2
  have H3 := Lib.hid h3
  have C1 := Lib.hid h4
  clear h1 h2 h3 h4
  go_wp2_with fail
  refine (begin_any w1 B d lb (HB.out.chg C1.out (by simp)) HCB.out (fun a ha => Nat.lt_of_lt_of_le (HOB.out a ha) C1.out.size)).mono ?_
  rintro r w2 ⟨B', d', rfl, h1, h2, h3, h4⟩
  have H4 := Lib.hid h1
  have H5 := Lib.hid h2
  have H6 := Lib.hid h3
  have C2 := Lib.hid h4
  clear h1 h2 h3 h4
  obtain ⟨w3, hw3, c3, b3⟩ := news1 w2 (.cells #[.int .i64 (hdP la).1, .int .i64 (hdP la).2.1, .int .i64 (hdP la).2.2, .slice A' (la.length - 1) c', .int .i64 (hdP lb).1, .int .i64 (hdP lb).2.1, .int .i64 (hdP lb).2.2, .slice B' (lb.length - 1) d', .func (.func K) #[] #[]] 89)
  have W3 := Lib.hid hw3
  have C3 := Lib.hid (C1.out.trans (C2.out.trans c3))
  have FI : Hid (SwP w3 w2.heap.size X la lb K) := Lib.hid ⟨A', c', B', d', by rw [List.length_tail, List.length_tail]; exact b3, (H1.out.chg C2.out (by simp)).chg c3 (by simp), H2.out, fun a ha => by obtain ⟨b, hb, e⟩ := H3.out a ha; rw [e]; exact hxa b hb, H4.out.chg c3 (by simp), H5.out, fun a ha => by obtain ⟨b, hb, e⟩ := H6.out a ha; rw [e]; exact hxb b hb, fun hm => by have := hX _ hm; have := C1.out.size; have := C2.out.size; omega⟩
  have SZ := Lib.hid (show w.heap.size ≤ w2.heap.size from Nat.le_trans C1.out.size C2.out.size)
  clear hw3 c3 b3
  go_wp2
  rw [← W3.out]
  go_ret
  exact ⟨_, rfl, FI.out, SZ.out, C3.out⟩
end
section
open Go.RowKit Go.Lib
set_option linter.unusedSimpArgs false
set_option linter.unusedVariables false


set_option maxRecDepth 100000 in
theorem next_none_a (w : World) (g : Nat) (v0 v1 v2 v3 vk : Value) (h0 h1 h2 : Value) (B : Option Addr) (c : Nat) (hb : w.heap[g]? = some (.cells #[h0, h1, h2, .slice B 0 c, v0, v1, v2, v3, vk] 89 (0, 0))) :
    Calls Try.prog 80 #[.pointer (some ⟨g, 0, none⟩)] w fun e w' => e = .returned (.tuple #[]) ∧ w'.heap[g]? = some (.cells #[.int .i64 201, .int .i64 0, .int .i64 0, .slice B 0 c, v0, v1, v2, v3, vk] 89 (0, 0)) ∧ Chg [g] w w' := by
  have HB := Lib.hid hb
  clear hb
  go_enter Try.func80, Try.ntmps80
  have z0 := cell_of HB.out 0
  have z1 := cell_of HB.out 1
  have z2 := cell_of HB.out 2
  have z3 := cell_of HB.out 3
  have fz0 := free_of HB.out 0
  have fz1 := free_of HB.out 1
  have fz2 := free_of HB.out 2
  simp only [List.getElem?_toArray, List.getElem?_cons_succ, List.getElem?_cons_zero] at z0 z1 z2 z3
  have p0 := heap_setCell_same w g 0 _ _ (.int .i64 201) HB.out
  have p1 := heap_setCell_same (w.setCell ⟨g, 0, none⟩ (.int .i64 201)) g 1 _ _ (.int .i64 0) p0
  have p2 := heap_setCell_same ((w.setCell ⟨g, 0, none⟩ (.int .i64 201)).setCell ⟨g, 1, none⟩ (.int .i64 0)) g 2 _ _ (.int .i64 0) p1
  simp only [List.setIfInBounds_toArray, List.set_cons_zero, List.set_cons_succ] at p2
  have HP := Lib.hid p2
  have CP := Lib.hid ((((Chg.refl [g] w).setCell (p := ⟨g, 0, none⟩) (.inl (by simp)) (.int .i64 201)).setCell (p := ⟨g, 1, none⟩) (.inl (by simp)) (.int .i64 0)).setCell (p := ⟨g, 2, none⟩) (.inl (by simp)) (.int .i64 0))
  clear p0 p1 p2
  go_wp2
  refine bodyPost_ret (results_none rfl _ _ _) rfl ?_
  exact ⟨rfl, HP.out, CP.out⟩
set_option maxRecDepth 100000 in
set_option maxHeartbeats 4000000 in
theorem next_some_a (w : World) (g : Nat) (v0 v1 v2 v3 vk : Value) (h0 h1 h2 : Value) (B : Option Addr) (c : Nat) (x : Sp) (r : List Sp) (hb : w.heap[g]? = some (.cells #[h0, h1, h2, .slice B (r.length + 1) c, v0, v1, v2, v3, vk] 89 (0, 0))) (hr : RdK spanTy w B (r.length + 1) (x :: r)) (hn : r.length + 1 ≤ c ∧ c ≤ maxLen) (hB : ∀ a, B = some a → a.block ≠ g) :
    Calls Try.prog 80 #[.pointer (some ⟨g, 0, none⟩)] w fun e w' => e = .returned (.tuple #[]) ∧ ∃ B' c', w'.heap[g]? = some (.cells #[.int .i64 x.1, .int .i64 x.2.1, .int .i64 x.2.2, (.slice B' r.length c'), v0, v1, v2, v3, vk] 89 (0, 0)) ∧ RdK spanTy w' B' r.length r ∧ (r.length ≤ c' ∧ c' ≤ maxLen) ∧ (∀ a, B' = some a → ∃ b, B = some b ∧ a.block = b.block) ∧ Chg [g] w w' := by
  obtain ⟨gB, oB, eB, _⟩ := hr.line (by omega)
  subst eB
  have HR := Lib.hid hr
  have HN := Lib.hid hn
  have NB := Lib.hid (hB ⟨gB, oB, none⟩ rfl)
  obtain ⟨y0, y1, y2⟩ := spanCells hr (j := 0) (x := x) rfl
  rw [Nat.zero_mul, Nat.add_zero] at y0 y1 y2
  have HB := Lib.hid hb
  have Y := Lib.hid (show w.cell? ⟨gB, oB, none⟩ = some (.int .i64 x.1) ∧ w.cell? ⟨gB, oB + 1, none⟩ = some (.int .i64 x.2.1) ∧ w.cell? ⟨gB, oB + 2, none⟩ = some (.int .i64 x.2.2) from ⟨y0, y1, y2⟩)
  clear hb hr hn y0 y1 y2 hB
  have n0 : (((r.length + 1 : Nat) : Int) == 0) = false := by simp; omega
  have n1 : (0 : Int) < ((r.length + 1 : Nat) : Int) := by omega
  have n2 : (1 : Int) ≤ ((r.length + 1 : Nat) : Int) := by omega
  have n3 : ((r.length + 1 : Nat) : Int) ≤ (c : Int) := by have := HN.out; omega
  have n5 : (1 : Int) ≤ (r.length : Int) + 1 := by omega
  have n4 : r.length + 1 - 1 = r.length := by omega
  have HT : Hid (RdK spanTy w (if c = 1 then some ⟨gB, oB, none⟩ else some ⟨gB, oB + 3, none⟩) r.length r) := Lib.hid (by
    split
    · have := HN.out
      have e : r = [] := List.eq_nil_of_length_eq_zero (by omega)
      subst e
      exact RdK.nil _ _
    · have q := HR.out.part 1 r.length (by omega)
      simpa [RowTy.k, spanTy] using q)
  go_enter Try.func80, Try.ntmps80
  have z3 := cell_of HB.out 3
  simp only [List.getElem?_toArray, List.getElem?_cons_succ, List.getElem?_cons_zero] at z3
  go_upto_region 2 with fail
  clear z3
  refine wp_region_held_drew (S := fun _ => True) (by kernel_rfl) trivial (fun hHeld => ?_)
  have CD := Lib.hid (Chg.refl [g] w).drew
  replace HB := Lib.hid (show w.drew.heap[g]? = some _ from HB.out)
  replace Y := Lib.hid (show w.drew.cell? ⟨gB, oB, none⟩ = some (.int .i64 x.1) ∧ w.drew.cell? ⟨gB, oB + 1, none⟩ = some (.int .i64 x.2.1) ∧ w.drew.cell? ⟨gB, oB + 2, none⟩ = some (.int .i64 x.2.2) from Y.out)
  replace HT := Lib.hid (show RdK spanTy w.drew _ r.length r from HT.out.chg (Chg.refl [] w).drew (by simp))
  generalize w.drew = wd at *
  generalize hAD : (if c = 1 then some ⟨gB, oB, none⟩ else some ⟨gB, oB + 3, none⟩ : Option Addr) = AD at *
  have AB : Hid (∀ a, AD = some a → a.block = gB) := Lib.hid (by intro a ha; rw [← hAD] at ha; split at ha <;> cases ha <;> rfl)
  refine sy 0 12 rfl rfl ?_ (hS := trivial)
  try simp only [Act.put, sA, s0, s1]
  refine sy 1 13 rfl rfl ?_ (hS := trivial)
  try simp only [Act.put, sA, s0, s1]
  refine sy 2 14 rfl rfl ?_ (hS := trivial)
  try simp only [Act.put, sA, s0, s1]
  refine sy 3 15 rfl rfl ?_ (hS := trivial)
  try simp only [Act.put, sA, s0, s1]
  refine sy 4 16 rfl rfl ?_ (hS := trivial)
  try simp only [Act.put, sA, s0, s1]
  refine sy 8 20 rfl rfl ?_ (hS := trivial)
  try simp only [Act.put, sA, s0, s1]
  refine sy 9 21 rfl rfl ?_ (hS := trivial)
  try simp only [Act.put, sA, s0, s1]
  refine sy 10 22 rfl rfl ?_ (hS := trivial)
  try simp only [Act.put, sA, s0, s1]
  refine wpAnyH_ready (rs := [5, 11]) (by kernel_rfl) (by simp) ?_
  refine AllReadyH.cons rfl (fun K hK => ?_) (AllReadyH.cons rfl (fun K hK => ?_) AllReadyH.nil)
  · skip
    replace hK := Lib.hid hK
    have z3 := cell_of HB.out 3
    simp only [List.getElem?_toArray, List.getElem?_cons_succ, List.getElem?_cons_zero] at z3
    go_simp
    clear z3 hHeld
    refine hK.out _ _ trivial (fun hHeld => ?_)
    clear hK K
    try simp only [Act.put, sA, s0, s1]
    refine sy 6 18 rfl rfl ?_ (hS := trivial)
    try simp only [Act.put, sA, s0, s1]
    refine wpAnyH_ready (rs := [7, 11]) (by kernel_rfl) (by simp) ?_
    refine AllReadyH.cons rfl (fun K hK => ?_) (AllReadyH.cons rfl (fun K hK => ?_) AllReadyH.nil)
    · skip
      replace hK := Lib.hid hK
      obtain ⟨y0, y1, y2⟩ := Y.out
      go_simp
      clear y0 y1 y2 hHeld
      refine hK.out _ _ trivial (fun hHeld => ?_)
      clear hK K
      try simp only [Act.put, sA, s0, s1]
      refine wpAnyH_ready (rs := [11]) (by kernel_rfl) (by simp) ?_
      refine AllReadyH.cons rfl (fun K hK => ?_) AllReadyH.nil
      replace hK := Lib.hid hK
      have z3 := cell_of HB.out 3
      simp only [List.getElem?_toArray, List.getElem?_cons_succ, List.getElem?_cons_zero] at z3
      go_simp
      clear z3 hHeld
      refine hK.out _ _ trivial (fun hHeld => ?_)
      clear hK K
      try simp only [Act.put, sA, s0, s1]
      refine sy 12 24 rfl rfl ?_ (hS := trivial)
      try simp only [Act.put, sA, s0, s1]
      refine sy 13 25 rfl rfl ?_ (hS := trivial)
      try simp only [Act.put, sA, s0, s1]
      refine sy 14 26 rfl rfl ?_ (hS := trivial)
      try simp only [Act.put, sA, s0, s1]
      refine wpAnyH_ready (rs := [15]) (by kernel_rfl) (by simp) ?_
      refine AllReadyH.cons rfl (fun K hK => ?_) AllReadyH.nil
      replace hK := Lib.hid hK
      have z0 := cell_of HB.out 0
      have z1 := cell_of HB.out 1
      have z2 := cell_of HB.out 2
      have fz0 := free_of HB.out 0
      have fz1 := free_of HB.out 1
      have fz2 := free_of HB.out 2
      simp only [List.getElem?_toArray, List.getElem?_cons_succ, List.getElem?_cons_zero] at z0 z1 z2
      have p0 := heap_setCell_same wd g 0 _ _ (.int .i64 x.1) HB.out
      have p1 := heap_setCell_same (wd.setCell ⟨g, 0, none⟩ (.int .i64 x.1)) g 1 _ _ (.int .i64 x.2.1) p0
      have p2 := heap_setCell_same ((wd.setCell ⟨g, 0, none⟩ (.int .i64 x.1)).setCell ⟨g, 1, none⟩ (.int .i64 x.2.1)) g 2 _ _ (.int .i64 x.2.2) p1
      simp only [List.setIfInBounds_toArray, List.set_cons_zero, List.set_cons_succ] at p2
      have HP := Lib.hid p2
      clear p0 p1 p2
      go_simp
      clear hHeld z0 fz0 z1 fz1 z2 fz2
      refine hK.out _ _ trivial (fun hHeld => ?_)
      clear hK K
      try simp only [Act.put, sA, s0, s1]
      refine sy 16 27 rfl rfl ?_ (hS := trivial)
      try simp only [Act.put, sA, s0, s1]
      refine sy 17 28 rfl rfl ?_ (hS := trivial)
      try simp only [Act.put, sA, s0, s1]
      refine wpAnyH_ready (rs := [18]) (by kernel_rfl) (by simp) ?_
      refine AllReadyH.cons rfl (fun K hK => ?_) AllReadyH.nil
      replace hK := Lib.hid hK
      have z3 := cell_of HP.out 3
      have fz3 := free_of HP.out 3
      simp only [List.getElem?_toArray, List.getElem?_cons_succ, List.getElem?_cons_zero] at z3
      go_simp
      clear hHeld z3 fz3
      refine hK.out _ _ trivial (fun hHeld => ?_)
      clear hK K
      try simp only [Act.put, sA, s0, s1]
      refine wpAnyH_done (by kernel_rfl) ?_ _
      have HQ := heap_setCell_same _ g 3 _ _ (.slice AD r.length (c - 1)) HP.out
      simp only [List.setIfInBounds_toArray, List.set_cons_zero, List.set_cons_succ] at HQ
      have CQ := Lib.hid (((((Chg.refl [g] wd).setCell (p := ⟨g, 0, none⟩) (.inl (by simp)) (.int .i64 x.1)).setCell (p := ⟨g, 1, none⟩) (.inl (by simp)) (.int .i64 x.2.1)).setCell (p := ⟨g, 2, none⟩) (.inl (by simp)) (.int .i64 x.2.2)).setCell (p := ⟨g, 3, none⟩) (.inl (by simp)) (.slice AD r.length (c - 1)))
      have HQ2 := Lib.hid HQ
      clear HQ
      go_wp2
      go_end0
      exact ⟨rfl, AD, c - 1, HQ2.out, HT.out.chg CQ.out (fun a ha => by rw [AB.out a ha]; simpa using NB.out), by have := HN.out; omega, fun a ha => by (first | exact ⟨_, rfl, AB.out a ha⟩ | exact AB.out a ha | simpa using AB.out a ha), CD.out.trans CQ.out⟩
    · skip
      replace hK := Lib.hid hK
      have z3 := cell_of HB.out 3
      simp only [List.getElem?_toArray, List.getElem?_cons_succ, List.getElem?_cons_zero] at z3
      go_simp
      clear z3 hHeld
      refine hK.out _ _ trivial (fun hHeld => ?_)
      clear hK K
      try simp only [Act.put, sA, s0, s1]
      refine sy 12 24 rfl rfl ?_ (hS := trivial)
      try simp only [Act.put, sA, s0, s1]
      refine wpAnyH_ready (rs := [7]) (by kernel_rfl) (by simp) ?_
      refine AllReadyH.cons rfl (fun K hK => ?_) AllReadyH.nil
      replace hK := Lib.hid hK
      obtain ⟨y0, y1, y2⟩ := Y.out
      go_simp
      clear y0 y1 y2 hHeld
      refine hK.out _ _ trivial (fun hHeld => ?_)
      clear hK K
      try simp only [Act.put, sA, s0, s1]
      refine sy 13 25 rfl rfl ?_ (hS := trivial)
      try simp only [Act.put, sA, s0, s1]
      refine sy 14 26 rfl rfl ?_ (hS := trivial)
      try simp only [Act.put, sA, s0, s1]
      refine wpAnyH_ready (rs := [15]) (by kernel_rfl) (by simp) ?_
      refine AllReadyH.cons rfl (fun K hK => ?_) AllReadyH.nil
      replace hK := Lib.hid hK
      have z0 := cell_of HB.out 0
      have z1 := cell_of HB.out 1
      have z2 := cell_of HB.out 2
      have fz0 := free_of HB.out 0
      have fz1 := free_of HB.out 1
      have fz2 := free_of HB.out 2
      simp only [List.getElem?_toArray, List.getElem?_cons_succ, List.getElem?_cons_zero] at z0 z1 z2
      have p0 := heap_setCell_same wd g 0 _ _ (.int .i64 x.1) HB.out
      have p1 := heap_setCell_same (wd.setCell ⟨g, 0, none⟩ (.int .i64 x.1)) g 1 _ _ (.int .i64 x.2.1) p0
      have p2 := heap_setCell_same ((wd.setCell ⟨g, 0, none⟩ (.int .i64 x.1)).setCell ⟨g, 1, none⟩ (.int .i64 x.2.1)) g 2 _ _ (.int .i64 x.2.2) p1
      simp only [List.setIfInBounds_toArray, List.set_cons_zero, List.set_cons_succ] at p2
      have HP := Lib.hid p2
      clear p0 p1 p2
      go_simp
      clear hHeld z0 fz0 z1 fz1 z2 fz2
      refine hK.out _ _ trivial (fun hHeld => ?_)
      clear hK K
      try simp only [Act.put, sA, s0, s1]
      refine sy 16 27 rfl rfl ?_ (hS := trivial)
      try simp only [Act.put, sA, s0, s1]
      refine sy 17 28 rfl rfl ?_ (hS := trivial)
      try simp only [Act.put, sA, s0, s1]
      refine wpAnyH_ready (rs := [18]) (by kernel_rfl) (by simp) ?_
      refine AllReadyH.cons rfl (fun K hK => ?_) AllReadyH.nil
      replace hK := Lib.hid hK
      have z3 := cell_of HP.out 3
      have fz3 := free_of HP.out 3
      simp only [List.getElem?_toArray, List.getElem?_cons_succ, List.getElem?_cons_zero] at z3
      go_simp
      clear hHeld z3 fz3
      refine hK.out _ _ trivial (fun hHeld => ?_)
      clear hK K
      try simp only [Act.put, sA, s0, s1]
      refine wpAnyH_done (by kernel_rfl) ?_ _
      have HQ := heap_setCell_same _ g 3 _ _ (.slice AD r.length (c - 1)) HP.out
      simp only [List.setIfInBounds_toArray, List.set_cons_zero, List.set_cons_succ] at HQ
      have CQ := Lib.hid (((((Chg.refl [g] wd).setCell (p := ⟨g, 0, none⟩) (.inl (by simp)) (.int .i64 x.1)).setCell (p := ⟨g, 1, none⟩) (.inl (by simp)) (.int .i64 x.2.1)).setCell (p := ⟨g, 2, none⟩) (.inl (by simp)) (.int .i64 x.2.2)).setCell (p := ⟨g, 3, none⟩) (.inl (by simp)) (.slice AD r.length (c - 1)))
      have HQ2 := Lib.hid HQ
      clear HQ
      go_wp2
      go_end0
      exact ⟨rfl, AD, c - 1, HQ2.out, HT.out.chg CQ.out (fun a ha => by rw [AB.out a ha]; simpa using NB.out), by have := HN.out; omega, fun a ha => by (first | exact ⟨_, rfl, AB.out a ha⟩ | exact AB.out a ha | simpa using AB.out a ha), CD.out.trans CQ.out⟩
  · skip
    replace hK := Lib.hid hK
    have z3 := cell_of HB.out 3
    simp only [List.getElem?_toArray, List.getElem?_cons_succ, List.getElem?_cons_zero] at z3
    go_simp
    clear z3 hHeld
    refine hK.out _ _ trivial (fun hHeld => ?_)
    clear hK K
    try simp only [Act.put, sA, s0, s1]
    refine sy 12 24 rfl rfl ?_ (hS := trivial)
    try simp only [Act.put, sA, s0, s1]
    refine wpAnyH_ready (rs := [5]) (by kernel_rfl) (by simp) ?_
    refine AllReadyH.cons rfl (fun K hK => ?_) AllReadyH.nil
    replace hK := Lib.hid hK
    have z3 := cell_of HB.out 3
    simp only [List.getElem?_toArray, List.getElem?_cons_succ, List.getElem?_cons_zero] at z3
    go_simp
    clear z3 hHeld
    refine hK.out _ _ trivial (fun hHeld => ?_)
    clear hK K
    try simp only [Act.put, sA, s0, s1]
    refine sy 6 18 rfl rfl ?_ (hS := trivial)
    try simp only [Act.put, sA, s0, s1]
    refine wpAnyH_ready (rs := [7]) (by kernel_rfl) (by simp) ?_
    refine AllReadyH.cons rfl (fun K hK => ?_) AllReadyH.nil
    replace hK := Lib.hid hK
    obtain ⟨y0, y1, y2⟩ := Y.out
    go_simp
    clear y0 y1 y2 hHeld
    refine hK.out _ _ trivial (fun hHeld => ?_)
    clear hK K
    try simp only [Act.put, sA, s0, s1]
    refine sy 13 25 rfl rfl ?_ (hS := trivial)
    try simp only [Act.put, sA, s0, s1]
    refine sy 14 26 rfl rfl ?_ (hS := trivial)
    try simp only [Act.put, sA, s0, s1]
    refine wpAnyH_ready (rs := [15]) (by kernel_rfl) (by simp) ?_
    refine AllReadyH.cons rfl (fun K hK => ?_) AllReadyH.nil
    replace hK := Lib.hid hK
    have z0 := cell_of HB.out 0
    have z1 := cell_of HB.out 1
    have z2 := cell_of HB.out 2
    have fz0 := free_of HB.out 0
    have fz1 := free_of HB.out 1
    have fz2 := free_of HB.out 2
    simp only [List.getElem?_toArray, List.getElem?_cons_succ, List.getElem?_cons_zero] at z0 z1 z2
    have p0 := heap_setCell_same wd g 0 _ _ (.int .i64 x.1) HB.out
    have p1 := heap_setCell_same (wd.setCell ⟨g, 0, none⟩ (.int .i64 x.1)) g 1 _ _ (.int .i64 x.2.1) p0
    have p2 := heap_setCell_same ((wd.setCell ⟨g, 0, none⟩ (.int .i64 x.1)).setCell ⟨g, 1, none⟩ (.int .i64 x.2.1)) g 2 _ _ (.int .i64 x.2.2) p1
    simp only [List.setIfInBounds_toArray, List.set_cons_zero, List.set_cons_succ] at p2
    have HP := Lib.hid p2
    clear p0 p1 p2
    go_simp
    clear hHeld z0 fz0 z1 fz1 z2 fz2
    refine hK.out _ _ trivial (fun hHeld => ?_)
    clear hK K
    try simp only [Act.put, sA, s0, s1]
    refine sy 16 27 rfl rfl ?_ (hS := trivial)
    try simp only [Act.put, sA, s0, s1]
    refine sy 17 28 rfl rfl ?_ (hS := trivial)
    try simp only [Act.put, sA, s0, s1]
    refine wpAnyH_ready (rs := [18]) (by kernel_rfl) (by simp) ?_
    refine AllReadyH.cons rfl (fun K hK => ?_) AllReadyH.nil
    replace hK := Lib.hid hK
    have z3 := cell_of HP.out 3
    have fz3 := free_of HP.out 3
    simp only [List.getElem?_toArray, List.getElem?_cons_succ, List.getElem?_cons_zero] at z3
    go_simp
    clear hHeld z3 fz3
    refine hK.out _ _ trivial (fun hHeld => ?_)
    clear hK K
    try simp only [Act.put, sA, s0, s1]
    refine wpAnyH_done (by kernel_rfl) ?_ _
    have HQ := heap_setCell_same _ g 3 _ _ (.slice AD r.length (c - 1)) HP.out
    simp only [List.setIfInBounds_toArray, List.set_cons_zero, List.set_cons_succ] at HQ
    have CQ := Lib.hid (((((Chg.refl [g] wd).setCell (p := ⟨g, 0, none⟩) (.inl (by simp)) (.int .i64 x.1)).setCell (p := ⟨g, 1, none⟩) (.inl (by simp)) (.int .i64 x.2.1)).setCell (p := ⟨g, 2, none⟩) (.inl (by simp)) (.int .i64 x.2.2)).setCell (p := ⟨g, 3, none⟩) (.inl (by simp)) (.slice AD r.length (c - 1)))
    have HQ2 := Lib.hid HQ
    clear HQ
    go_wp2
    go_end0
    exact ⟨rfl, AD, c - 1, HQ2.out, HT.out.chg CQ.out (fun a ha => by rw [AB.out a ha]; simpa using NB.out), by have := HN.out; omega, fun a ha => by (first | exact ⟨_, rfl, AB.out a ha⟩ | exact AB.out a ha | simpa using AB.out a ha), CD.out.trans CQ.out⟩
end
section
open Go.RowKit Go.Lib
set_option linter.unusedSimpArgs false
set_option linter.unusedVariables false


set_option maxRecDepth 100000 in
set_option maxHeartbeats 4000000 in
theorem pass_a (w : World) (g : Nat) (v0 v1 v2 v3 vk : Value) (B : Option Addr) (c : Nat) (x : Sp) (r : List Sp) (to : Int) (hto : 0 ≤ to ∧ to ≤ 2147483647) (hb : w.heap[g]? = some (.cells #[.int .i64 x.1, .int .i64 x.2.1, .int .i64 x.2.2, .slice B r.length c, v0, v1, v2, v3, vk] 89 (0, 0))) (hr : RdK spanTy w B r.length r) (hn : r.length ≤ c ∧ c ≤ maxLen) (hB : ∀ a, B = some a → a.block ≠ g) :
    Calls Try.prog 82 #[.pointer (some ⟨g, 0, none⟩), .int .i64 to] w fun e w' => e = .returned (.tuple #[]) ∧ ∃ B' c', w'.heap[g]? = some (.cells #[.int .i64 (hdP (passP (x :: r) to)).1, .int .i64 (hdP (passP (x :: r) to)).2.1, .int .i64 (hdP (passP (x :: r) to)).2.2, .slice B' (passP (x :: r) to).tail.length c', v0, v1, v2, v3, vk] 89 (0, 0)) ∧ RdK spanTy w' B' (passP (x :: r) to).tail.length (passP (x :: r) to).tail ∧ ((passP (x :: r) to).tail.length ≤ c' ∧ c' ≤ maxLen) ∧ (∀ a, B' = some a → ∃ b, B = some b ∧ a.block = b.block) ∧ Chg [g] w w' := by
  have HB := Lib.hid hb
  have HR := Lib.hid hr
  have HN := Lib.hid hn
  have NB := Lib.hid hB
  clear hb hr hn hB
  have e1 : IntKind.i64.wrap (to + 1) = to + 1 := IntWalk.i64_in _ (by omega)
  by_cases hlt : to < x.2.2
  · have hp : passP (x :: r) to = (x.1, to + 1, x.2.2) :: r := by unfold passP; simp only; rw [if_pos hlt]
    rw [hp]
    simp only [hd_cons, List.tail_cons]
    have HLT := hlt
    clear hp
    go_enter Try.func82, Try.ntmps82
    have z0 := cell_of HB.out 0
    have z1 := cell_of HB.out 1
    have z2 := cell_of HB.out 2
    have z3 := cell_of HB.out 3
    have fz1 := free_of HB.out 1
    simp only [List.getElem?_toArray, List.getElem?_cons_succ, List.getElem?_cons_zero] at z0 z1 z2 z3
    have HQ := heap_setCell_same w g 1 _ _ (.int .i64 (to + 1)) HB.out
    simp only [List.setIfInBounds_toArray, List.set_cons_zero, List.set_cons_succ] at HQ
    have HP := Lib.hid HQ
    have CP := Lib.hid ((Chg.refl [g] w).setCell (p := ⟨g, 1, none⟩) (.inl (by simp)) (.int .i64 (to + 1)))
    clear HQ
    go_wp2
    refine bodyPost_ret (results_none rfl _ _ _) rfl ?_
    exact ⟨rfl, B, c, HP.out, HR.out.chg CP.out (fun a ha => by simpa using NB.out a ha), HN.out, fun a ha => ⟨a, ha, rfl⟩, CP.out⟩
  · have hp : passP (x :: r) to = r := by unfold passP; simp only; rw [if_neg hlt]
    rw [hp]
    clear hp
    cases r with
    | nil =>
      go_enter Try.func82, Try.ntmps82
      have z0 := cell_of HB.out 0
      have z1 := cell_of HB.out 1
      have z2 := cell_of HB.out 2
      have z3 := cell_of HB.out 3
      simp only [List.getElem?_toArray, List.getElem?_cons_succ, List.getElem?_cons_zero] at z0 z1 z2 z3
      go_wp2_with fail
      clear z0 z1 z2 z3
      refine (next_none_a w g v0 v1 v2 v3 vk _ _ _ B c HB.out).mono ?_
      rintro e w' ⟨rfl, h1, h2⟩
      have HP := Lib.hid h1
      have CP := Lib.hid h2
      clear h1 h2
      go_wp2
      go_end0
      exact ⟨rfl, B, c, HP.out, RdK.nil _ _, ⟨Nat.zero_le _, HN.out.2⟩, fun a ha => ⟨a, ha, rfl⟩, CP.out⟩
    | cons y r2 =>
      go_enter Try.func82, Try.ntmps82
      have z0 := cell_of HB.out 0
      have z1 := cell_of HB.out 1
      have z2 := cell_of HB.out 2
      have z3 := cell_of HB.out 3
      simp only [List.getElem?_toArray, List.getElem?_cons_succ, List.getElem?_cons_zero] at z0 z1 z2 z3
      go_wp2_with fail
      clear z0 z1 z2 z3
      refine (next_some_a w g v0 v1 v2 v3 vk _ _ _ B c y r2 HB.out HR.out HN.out NB.out).mono ?_
      rintro e w' ⟨rfl, B2, c2, h1, h2, h3, h4, h5⟩
      have HP := Lib.hid h1
      have CP := Lib.hid h5
      have H2 := Lib.hid h2
      have H3 := Lib.hid h3
      have H4 := Lib.hid h4
      clear h1 h2 h3 h4 h5
      go_wp2
      go_end0
      exact ⟨rfl, B2, c2, HP.out, H2.out, H3.out, H4.out, CP.out⟩
end
section
open Go.RowKit Go.Lib
set_option linter.unusedSimpArgs false
set_option linter.unusedVariables false


set_option maxRecDepth 100000 in
theorem next_none_b (w : World) (g : Nat) (v0 v1 v2 v3 vk : Value) (h0 h1 h2 : Value) (B : Option Addr) (c : Nat) (hb : w.heap[g]? = some (.cells #[v0, v1, v2, v3, h0, h1, h2, .slice B 0 c, vk] 89 (0, 0))) :
    Calls Try.prog 80 #[.pointer (some ⟨g, 4, none⟩)] w fun e w' => e = .returned (.tuple #[]) ∧ w'.heap[g]? = some (.cells #[v0, v1, v2, v3, .int .i64 201, .int .i64 0, .int .i64 0, .slice B 0 c, vk] 89 (0, 0)) ∧ Chg [g] w w' := by
  have HB := Lib.hid hb
  clear hb
  go_enter Try.func80, Try.ntmps80
  have z4 := cell_of HB.out 4
  have z5 := cell_of HB.out 5
  have z6 := cell_of HB.out 6
  have z7 := cell_of HB.out 7
  have fz4 := free_of HB.out 4
  have fz5 := free_of HB.out 5
  have fz6 := free_of HB.out 6
  simp only [List.getElem?_toArray, List.getElem?_cons_succ, List.getElem?_cons_zero] at z4 z5 z6 z7
  have p0 := heap_setCell_same w g 4 _ _ (.int .i64 201) HB.out
  have p1 := heap_setCell_same (w.setCell ⟨g, 4, none⟩ (.int .i64 201)) g 5 _ _ (.int .i64 0) p0
  have p2 := heap_setCell_same ((w.setCell ⟨g, 4, none⟩ (.int .i64 201)).setCell ⟨g, 5, none⟩ (.int .i64 0)) g 6 _ _ (.int .i64 0) p1
  simp only [List.setIfInBounds_toArray, List.set_cons_zero, List.set_cons_succ] at p2
  have HP := Lib.hid p2
  have CP := Lib.hid ((((Chg.refl [g] w).setCell (p := ⟨g, 4, none⟩) (.inl (by simp)) (.int .i64 201)).setCell (p := ⟨g, 5, none⟩) (.inl (by simp)) (.int .i64 0)).setCell (p := ⟨g, 6, none⟩) (.inl (by simp)) (.int .i64 0))
  clear p0 p1 p2
  go_wp2
  refine bodyPost_ret (results_none rfl _ _ _) rfl ?_
  exact ⟨rfl, HP.out, CP.out⟩
set_option maxRecDepth 100000 in
set_option maxHeartbeats 4000000 in
theorem next_some_b (w : World) (g : Nat) (v0 v1 v2 v3 vk : Value) (h0 h1 h2 : Value) (B : Option Addr) (c : Nat) (x : Sp) (r : List Sp) (hb : w.heap[g]? = some (.cells #[v0, v1, v2, v3, h0, h1, h2, .slice B (r.length + 1) c, vk] 89 (0, 0))) (hr : RdK spanTy w B (r.length + 1) (x :: r)) (hn : r.length + 1 ≤ c ∧ c ≤ maxLen) (hB : ∀ a, B = some a → a.block ≠ g) :
    Calls Try.prog 80 #[.pointer (some ⟨g, 4, none⟩)] w fun e w' => e = .returned (.tuple #[]) ∧ ∃ B' c', w'.heap[g]? = some (.cells #[v0, v1, v2, v3, .int .i64 x.1, .int .i64 x.2.1, .int .i64 x.2.2, (.slice B' r.length c'), vk] 89 (0, 0)) ∧ RdK spanTy w' B' r.length r ∧ (r.length ≤ c' ∧ c' ≤ maxLen) ∧ (∀ a, B' = some a → ∃ b, B = some b ∧ a.block = b.block) ∧ Chg [g] w w' := by
  obtain ⟨gB, oB, eB, _⟩ := hr.line (by omega)
  subst eB
  have HR := Lib.hid hr
  have HN := Lib.hid hn
  have NB := Lib.hid (hB ⟨gB, oB, none⟩ rfl)
  obtain ⟨y0, y1, y2⟩ := spanCells hr (j := 0) (x := x) rfl
  rw [Nat.zero_mul, Nat.add_zero] at y0 y1 y2
  have HB := Lib.hid hb
  have Y := Lib.hid (show w.cell? ⟨gB, oB, none⟩ = some (.int .i64 x.1) ∧ w.cell? ⟨gB, oB + 1, none⟩ = some (.int .i64 x.2.1) ∧ w.cell? ⟨gB, oB + 2, none⟩ = some (.int .i64 x.2.2) from ⟨y0, y1, y2⟩)
  clear hb hr hn y0 y1 y2 hB
  have n0 : (((r.length + 1 : Nat) : Int) == 0) = false := by simp; omega
  have n1 : (0 : Int) < ((r.length + 1 : Nat) : Int) := by omega
  have n2 : (1 : Int) ≤ ((r.length + 1 : Nat) : Int) := by omega
  have n3 : ((r.length + 1 : Nat) : Int) ≤ (c : Int) := by have := HN.out; omega
  have n5 : (1 : Int) ≤ (r.length : Int) + 1 := by omega
  have n4 : r.length + 1 - 1 = r.length := by omega
  have HT : Hid (RdK spanTy w (if c = 1 then some ⟨gB, oB, none⟩ else some ⟨gB, oB + 3, none⟩) r.length r) := Lib.hid (by
    split
    · have := HN.out
      have e : r = [] := List.eq_nil_of_length_eq_zero (by omega)
      subst e
      exact RdK.nil _ _
    · have q := HR.out.part 1 r.length (by omega)
      simpa [RowTy.k, spanTy] using q)
  go_enter Try.func80, Try.ntmps80
  have z7 := cell_of HB.out 7
  simp only [List.getElem?_toArray, List.getElem?_cons_succ, List.getElem?_cons_zero] at z7
  go_upto_region 2 with fail
  clear z7
  refine wp_region_held_drew (S := fun _ => True) (by kernel_rfl) trivial (fun hHeld => ?_)
  have CD := Lib.hid (Chg.refl [g] w).drew
  replace HB := Lib.hid (show w.drew.heap[g]? = some _ from HB.out)
  replace Y := Lib.hid (show w.drew.cell? ⟨gB, oB, none⟩ = some (.int .i64 x.1) ∧ w.drew.cell? ⟨gB, oB + 1, none⟩ = some (.int .i64 x.2.1) ∧ w.drew.cell? ⟨gB, oB + 2, none⟩ = some (.int .i64 x.2.2) from Y.out)
  replace HT := Lib.hid (show RdK spanTy w.drew _ r.length r from HT.out.chg (Chg.refl [] w).drew (by simp))
  generalize w.drew = wd at *
  generalize hAD : (if c = 1 then some ⟨gB, oB, none⟩ else some ⟨gB, oB + 3, none⟩ : Option Addr) = AD at *
  have AB : Hid (∀ a, AD = some a → a.block = gB) := Lib.hid (by intro a ha; rw [← hAD] at ha; split at ha <;> cases ha <;> rfl)
  refine sy 0 12 rfl rfl ?_ (hS := trivial)
  try simp only [Act.put, sA, s0, s1]
  refine sy 1 13 rfl rfl ?_ (hS := trivial)
  try simp only [Act.put, sA, s0, s1]
  refine sy 2 14 rfl rfl ?_ (hS := trivial)
  try simp only [Act.put, sA, s0, s1]
  refine sy 3 15 rfl rfl ?_ (hS := trivial)
  try simp only [Act.put, sA, s0, s1]
  refine sy 4 16 rfl rfl ?_ (hS := trivial)
  try simp only [Act.put, sA, s0, s1]
  refine sy 8 20 rfl rfl ?_ (hS := trivial)
  try simp only [Act.put, sA, s0, s1]
  refine sy 9 21 rfl rfl ?_ (hS := trivial)
  try simp only [Act.put, sA, s0, s1]
  refine sy 10 22 rfl rfl ?_ (hS := trivial)
  try simp only [Act.put, sA, s0, s1]
  refine wpAnyH_ready (rs := [5, 11]) (by kernel_rfl) (by simp) ?_
  refine AllReadyH.cons rfl (fun K hK => ?_) (AllReadyH.cons rfl (fun K hK => ?_) AllReadyH.nil)
  · skip
    replace hK := Lib.hid hK
    have z7 := cell_of HB.out 7
    simp only [List.getElem?_toArray, List.getElem?_cons_succ, List.getElem?_cons_zero] at z7
    go_simp
    clear z7 hHeld
    refine hK.out _ _ trivial (fun hHeld => ?_)
    clear hK K
    try simp only [Act.put, sA, s0, s1]
    refine sy 6 18 rfl rfl ?_ (hS := trivial)
    try simp only [Act.put, sA, s0, s1]
    refine wpAnyH_ready (rs := [7, 11]) (by kernel_rfl) (by simp) ?_
    refine AllReadyH.cons rfl (fun K hK => ?_) (AllReadyH.cons rfl (fun K hK => ?_) AllReadyH.nil)
    · skip
      replace hK := Lib.hid hK
      obtain ⟨y0, y1, y2⟩ := Y.out
      go_simp
      clear y0 y1 y2 hHeld
      refine hK.out _ _ trivial (fun hHeld => ?_)
      clear hK K
      try simp only [Act.put, sA, s0, s1]
      refine wpAnyH_ready (rs := [11]) (by kernel_rfl) (by simp) ?_
      refine AllReadyH.cons rfl (fun K hK => ?_) AllReadyH.nil
      replace hK := Lib.hid hK
      have z7 := cell_of HB.out 7
      simp only [List.getElem?_toArray, List.getElem?_cons_succ, List.getElem?_cons_zero] at z7
      go_simp
      clear z7 hHeld
      refine hK.out _ _ trivial (fun hHeld => ?_)
      clear hK K
      try simp only [Act.put, sA, s0, s1]
      refine sy 12 24 rfl rfl ?_ (hS := trivial)
      try simp only [Act.put, sA, s0, s1]
      refine sy 13 25 rfl rfl ?_ (hS := trivial)
      try simp only [Act.put, sA, s0, s1]
      refine sy 14 26 rfl rfl ?_ (hS := trivial)
      try simp only [Act.put, sA, s0, s1]
      refine wpAnyH_ready (rs := [15]) (by kernel_rfl) (by simp) ?_
      refine AllReadyH.cons rfl (fun K hK => ?_) AllReadyH.nil
      replace hK := Lib.hid hK
      have z4 := cell_of HB.out 4
      have z5 := cell_of HB.out 5
      have z6 := cell_of HB.out 6
      have fz4 := free_of HB.out 4
      have fz5 := free_of HB.out 5
      have fz6 := free_of HB.out 6
      simp only [List.getElem?_toArray, List.getElem?_cons_succ, List.getElem?_cons_zero] at z4 z5 z6
      have p0 := heap_setCell_same wd g 4 _ _ (.int .i64 x.1) HB.out
      have p1 := heap_setCell_same (wd.setCell ⟨g, 4, none⟩ (.int .i64 x.1)) g 5 _ _ (.int .i64 x.2.1) p0
      have p2 := heap_setCell_same ((wd.setCell ⟨g, 4, none⟩ (.int .i64 x.1)).setCell ⟨g, 5, none⟩ (.int .i64 x.2.1)) g 6 _ _ (.int .i64 x.2.2) p1
      simp only [List.setIfInBounds_toArray, List.set_cons_zero, List.set_cons_succ] at p2
      have HP := Lib.hid p2
      clear p0 p1 p2
      go_simp
      clear hHeld z4 fz4 z5 fz5 z6 fz6
      refine hK.out _ _ trivial (fun hHeld => ?_)
      clear hK K
      try simp only [Act.put, sA, s0, s1]
      refine sy 16 27 rfl rfl ?_ (hS := trivial)
      try simp only [Act.put, sA, s0, s1]
      refine sy 17 28 rfl rfl ?_ (hS := trivial)
      try simp only [Act.put, sA, s0, s1]
      refine wpAnyH_ready (rs := [18]) (by kernel_rfl) (by simp) ?_
      refine AllReadyH.cons rfl (fun K hK => ?_) AllReadyH.nil
      replace hK := Lib.hid hK
      have z7 := cell_of HP.out 7
      have fz7 := free_of HP.out 7
      simp only [List.getElem?_toArray, List.getElem?_cons_succ, List.getElem?_cons_zero] at z7
      go_simp
      clear hHeld z7 fz7
      refine hK.out _ _ trivial (fun hHeld => ?_)
      clear hK K
      try simp only [Act.put, sA, s0, s1]
      refine wpAnyH_done (by kernel_rfl) ?_ _
      have HQ := heap_setCell_same _ g 7 _ _ (.slice AD r.length (c - 1)) HP.out
      simp only [List.setIfInBounds_toArray, List.set_cons_zero, List.set_cons_succ] at HQ
      have CQ := Lib.hid (((((Chg.refl [g] wd).setCell (p := ⟨g, 4, none⟩) (.inl (by simp)) (.int .i64 x.1)).setCell (p := ⟨g, 5, none⟩) (.inl (by simp)) (.int .i64 x.2.1)).setCell (p := ⟨g, 6, none⟩) (.inl (by simp)) (.int .i64 x.2.2)).setCell (p := ⟨g, 7, none⟩) (.inl (by simp)) (.slice AD r.length (c - 1)))
      have HQ2 := Lib.hid HQ
      clear HQ
      go_wp2
      go_end0
      exact ⟨rfl, AD, c - 1, HQ2.out, HT.out.chg CQ.out (fun a ha => by rw [AB.out a ha]; simpa using NB.out), by have := HN.out; omega, fun a ha => by (first | exact ⟨_, rfl, AB.out a ha⟩ | exact AB.out a ha | simpa using AB.out a ha), CD.out.trans CQ.out⟩
    · skip
      replace hK := Lib.hid hK
      have z7 := cell_of HB.out 7
      simp only [List.getElem?_toArray, List.getElem?_cons_succ, List.getElem?_cons_zero] at z7
      go_simp
      clear z7 hHeld
      refine hK.out _ _ trivial (fun hHeld => ?_)
      clear hK K
      try simp only [Act.put, sA, s0, s1]
      refine sy 12 24 rfl rfl ?_ (hS := trivial)
      try simp only [Act.put, sA, s0, s1]
      refine wpAnyH_ready (rs := [7]) (by kernel_rfl) (by simp) ?_
      refine AllReadyH.cons rfl (fun K hK => ?_) AllReadyH.nil
      replace hK := Lib.hid hK
      obtain ⟨y0, y1, y2⟩ := Y.out
      go_simp
      clear y0 y1 y2 hHeld
      refine hK.out _ _ trivial (fun hHeld => ?_)
      clear hK K
      try simp only [Act.put, sA, s0, s1]
      refine sy 13 25 rfl rfl ?_ (hS := trivial)
      try simp only [Act.put, sA, s0, s1]
      refine sy 14 26 rfl rfl ?_ (hS := trivial)
      try simp only [Act.put, sA, s0, s1]
      refine wpAnyH_ready (rs := [15]) (by kernel_rfl) (by simp) ?_
      refine AllReadyH.cons rfl (fun K hK => ?_) AllReadyH.nil
      replace hK := Lib.hid hK
      have z4 := cell_of HB.out 4
      have z5 := cell_of HB.out 5
      have z6 := cell_of HB.out 6
      have fz4 := free_of HB.out 4
      have fz5 := free_of HB.out 5
      have fz6 := free_of HB.out 6
      simp only [List.getElem?_toArray, List.getElem?_cons_succ, List.getElem?_cons_zero] at z4 z5 z6
      have p0 := heap_setCell_same wd g 4 _ _ (.int .i64 x.1) HB.out
      have p1 := heap_setCell_same (wd.setCell ⟨g, 4, none⟩ (.int .i64 x.1)) g 5 _ _ (.int .i64 x.2.1) p0
      have p2 := heap_setCell_same ((wd.setCell ⟨g, 4, none⟩ (.int .i64 x.1)).setCell ⟨g, 5, none⟩ (.int .i64 x.2.1)) g 6 _ _ (.int .i64 x.2.2) p1
      simp only [List.setIfInBounds_toArray, List.set_cons_zero, List.set_cons_succ] at p2
      have HP := Lib.hid p2
      clear p0 p1 p2
      go_simp
      clear hHeld z4 fz4 z5 fz5 z6 fz6
      refine hK.out _ _ trivial (fun hHeld => ?_)
      clear hK K
      try simp only [Act.put, sA, s0, s1]
      refine sy 16 27 rfl rfl ?_ (hS := trivial)
      try simp only [Act.put, sA, s0, s1]
      refine sy 17 28 rfl rfl ?_ (hS := trivial)
      try simp only [Act.put, sA, s0, s1]
      refine wpAnyH_ready (rs := [18]) (by kernel_rfl) (by simp) ?_
      refine AllReadyH.cons rfl (fun K hK => ?_) AllReadyH.nil
      replace hK := Lib.hid hK
      have z7 := cell_of HP.out 7
      have fz7 := free_of HP.out 7
      simp only [List.getElem?_toArray, List.getElem?_cons_succ, List.getElem?_cons_zero] at z7
      go_simp
      clear hHeld z7 fz7
      refine hK.out _ _ trivial (fun hHeld => ?_)
      clear hK K
      try simp only [Act.put, sA, s0, s1]
      refine wpAnyH_done (by kernel_rfl) ?_ _
      have HQ := heap_setCell_same _ g 7 _ _ (.slice AD r.length (c - 1)) HP.out
      simp only [List.setIfInBounds_toArray, List.set_cons_zero, List.set_cons_succ] at HQ
      have CQ := Lib.hid (((((Chg.refl [g] wd).setCell (p := ⟨g, 4, none⟩) (.inl (by simp)) (.int .i64 x.1)).setCell (p := ⟨g, 5, none⟩) (.inl (by simp)) (.int .i64 x.2.1)).setCell (p := ⟨g, 6, none⟩) (.inl (by simp)) (.int .i64 x.2.2)).setCell (p := ⟨g, 7, none⟩) (.inl (by simp)) (.slice AD r.length (c - 1)))
      have HQ2 := Lib.hid HQ
      clear HQ
      go_wp2
      go_end0
      exact ⟨rfl, AD, c - 1, HQ2.out, HT.out.chg CQ.out (fun a ha => by rw [AB.out a ha]; simpa using NB.out), by have := HN.out; omega, fun a ha => by (first | exact ⟨_, rfl, AB.out a ha⟩ | exact AB.out a ha | simpa using AB.out a ha), CD.out.trans CQ.out⟩
  · skip
    replace hK := Lib.hid hK
    have z7 := cell_of HB.out 7
    simp only [List.getElem?_toArray, List.getElem?_cons_succ, List.getElem?_cons_zero] at z7
    go_simp
    clear z7 hHeld
    refine hK.out _ _ trivial (fun hHeld => ?_)
    clear hK K
    try simp only [Act.put, sA, s0, s1]
    refine sy 12 24 rfl rfl ?_ (hS := trivial)
    try simp only [Act.put, sA, s0, s1]
    refine wpAnyH_ready (rs := [5]) (by kernel_rfl) (by simp) ?_
    refine AllReadyH.cons rfl (fun K hK => ?_) AllReadyH.nil
    replace hK := Lib.hid hK
    have z7 := cell_of HB.out 7
    simp only [List.getElem?_toArray, List.getElem?_cons_succ, List.getElem?_cons_zero] at z7
    go_simp
    clear z7 hHeld
    refine hK.out _ _ trivial (fun hHeld => ?_)
    clear hK K
    try simp only [Act.put, sA, s0, s1]
    refine sy 6 18 rfl rfl ?_ (hS := trivial)
    try simp only [Act.put, sA, s0, s1]
    refine wpAnyH_ready (rs := [7]) (by kernel_rfl) (by simp) ?_
    refine AllReadyH.cons rfl (fun K hK => ?_) AllReadyH.nil
    replace hK := Lib.hid hK
    obtain ⟨y0, y1, y2⟩ := Y.out
    go_simp
    clear y0 y1 y2 hHeld
    refine hK.out _ _ trivial (fun hHeld => ?_)
    clear hK K
    try simp only [Act.put, sA, s0, s1]
    refine sy 13 25 rfl rfl ?_ (hS := trivial)
    try simp only [Act.put, sA, s0, s1]
    refine sy 14 26 rfl rfl ?_ (hS := trivial)
    try simp only [Act.put, sA, s0, s1]
    refine wpAnyH_ready (rs := [15]) (by kernel_rfl) (by simp) ?_
    refine AllReadyH.cons rfl (fun K hK => ?_) AllReadyH.nil
    replace hK := Lib.hid hK
    have z4 := cell_of HB.out 4
    have z5 := cell_of HB.out 5
    have z6 := cell_of HB.out 6
    have fz4 := free_of HB.out 4
    have fz5 := free_of HB.out 5
    have fz6 := free_of HB.out 6
    simp only [List.getElem?_toArray, List.getElem?_cons_succ, List.getElem?_cons_zero] at z4 z5 z6
    have p0 := heap_setCell_same wd g 4 _ _ (.int .i64 x.1) HB.out
    have p1 := heap_setCell_same (wd.setCell ⟨g, 4, none⟩ (.int .i64 x.1)) g 5 _ _ (.int .i64 x.2.1) p0
    have p2 := heap_setCell_same ((wd.setCell ⟨g, 4, none⟩ (.int .i64 x.1)).setCell ⟨g, 5, none⟩ (.int .i64 x.2.1)) g 6 _ _ (.int .i64 x.2.2) p1
    simp only [List.setIfInBounds_toArray, List.set_cons_zero, List.set_cons_succ] at p2
    have HP := Lib.hid p2
    clear p0 p1 p2
    go_simp
    clear hHeld z4 fz4 z5 fz5 z6 fz6
    refine hK.out _ _ trivial (fun hHeld => ?_)
    clear hK K
    try simp only [Act.put, sA, s0, s1]
    refine sy 16 27 rfl rfl ?_ (hS := trivial)
    try simp only [Act.put, sA, s0, s1]
    refine sy 17 28 rfl rfl ?_ (hS := trivial)
    try simp only [Act.put, sA, s0, s1]
    refine wpAnyH_ready (rs := [18]) (by kernel_rfl) (by simp) ?_
    refine AllReadyH.cons rfl (fun K hK => ?_) AllReadyH.nil
    replace hK := Lib.hid hK
    have z7 := cell_of HP.out 7
    have fz7 := free_of HP.out 7
    simp only [List.getElem?_toArray, List.getElem?_cons_succ, List.getElem?_cons_zero] at z7
    go_simp
    clear hHeld z7 fz7
    refine hK.out _ _ trivial (fun hHeld => ?_)
    clear hK K
    try simp only [Act.put, sA, s0, s1]
    refine wpAnyH_done (by kernel_rfl) ?_ _
    have HQ := heap_setCell_same _ g 7 _ _ (.slice AD r.length (c - 1)) HP.out
    simp only [List.setIfInBounds_toArray, List.set_cons_zero, List.set_cons_succ] at HQ
    have CQ := Lib.hid (((((Chg.refl [g] wd).setCell (p := ⟨g, 4, none⟩) (.inl (by simp)) (.int .i64 x.1)).setCell (p := ⟨g, 5, none⟩) (.inl (by simp)) (.int .i64 x.2.1)).setCell (p := ⟨g, 6, none⟩) (.inl (by simp)) (.int .i64 x.2.2)).setCell (p := ⟨g, 7, none⟩) (.inl (by simp)) (.slice AD r.length (c - 1)))
    have HQ2 := Lib.hid HQ
    clear HQ
    go_wp2
    go_end0
    exact ⟨rfl, AD, c - 1, HQ2.out, HT.out.chg CQ.out (fun a ha => by rw [AB.out a ha]; simpa using NB.out), by have := HN.out; omega, fun a ha => by (first | exact ⟨_, rfl, AB.out a ha⟩ | exact AB.out a ha | simpa using AB.out a ha), CD.out.trans CQ.out⟩
end
end Go.Proofs.Ytgafkphhnlifiaa
