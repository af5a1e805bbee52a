/- Arguments opened: bytes, numbers, texts: from the data that a row reads to the cells that a walk goes over. -/
import Derived.Test.YtgafkphhnlifiaaBase
import Derived.Deep.Slices
import Derived.Deep.Fields
import Derived.ChangeSame
import Derived.SizedLaws
import Derived.ChangeArms
import Derived.ChangeSlices
import Derived.OpenShut
import Derived.ProofKit
namespace Go.Proofs.Ytgafkphhnlifiaa
open Go.RowKit Go.WideShapes Go.ChangeShapes Go.Deep
section
variable {H : Type} {enc : TypeId × Value → H} {P : Program} {w : World} {base : Nat} {spare : Nat → Bool} {held : Bool}

theorem weights_all_mem {e : TypeId} : ∀ {l : List (DataW H)} {d : DataW H}, d ∈ l → ∀ n ∈ d.weights P e, n ∈ DataW.weightsAll P e l
  | x :: l, d, hd, n, hn => by
    simp only [DataW.weightsAll, List.mem_append]
    rcases List.mem_cons.1 hd with rfl | h
    · exact .inl hn
    · exact .inr (weights_all_mem h n hn)
theorem weights_slice {t e : TypeId} (ht : P.underlying t = some (.slice e)) {xs ys : List (DataW H)} (hz : ∀ k ∈ (DataW.slice xs ys).weights P t, k ≤ reachBytes) :
    (xs.length + ys.length) * P.bytesOf e ≤ reachBytes ∧ ∀ d ∈ xs, ∀ k ∈ d.weights P e, k ≤ reachBytes := by
  simp only [DataW.weights, ht, List.mem_cons, List.mem_append] at hz
  exact ⟨hz _ (.inl rfl), fun d hd k hk => hz k (.inr (.inl (weights_all_mem hd k hk)))⟩
theorem weights_struct {t : TypeId} {fs : Array Field} (ht : P.underlying t = some (.struct fs)) {xs : List (DataW H)} (hz : ∀ k ∈ (DataW.agg xs).weights P t, k ≤ reachBytes) {j : Nat} {f : Field} {d : DataW H} (hf : fs[j]? = some f) (hd : xs[j]? = some d) :
    ∀ k ∈ d.weights P f.type, k ≤ reachBytes := by
  simp only [DataW.weights, ht] at hz
  exact fun k hk => hz k (DataW.weights_mem_each (j := j) (by simp [hf]) hd k hk)

/-- A list of what is there for every number. -/
theorem list_of {α : Type} {Q : Nat → α → Prop} : ∀ (n : Nat), (∀ i, i < n → ∃ a, Q i a) → ∃ l : List α, l.length = n ∧ ∀ j a, l[j]? = some a → Q j a
  | 0, _ => ⟨[], rfl, by simp⟩
  | n + 1, h => by
    obtain ⟨l, h1, h2⟩ := list_of n (fun i hi => h i (by omega))
    obtain ⟨a, ha⟩ := h n (by omega)
    refine ⟨l ++ [a], by simp [h1], fun j b hj => ?_⟩
    rw [List.getElem?_append] at hj
    split at hj
    · exact h2 j b hj
    · rename_i hn
      have : j = n := by
        have := (List.getElem?_eq_some_iff.1 hj).1
        simp at this
        omega
      subst this
      rw [h1] at hj
      simp at hj
      subst hj
      exact ha
end
section
variable {H : Type} {enc : TypeId × Value → H} {w : World} {base : Nat} {spare : Nat → Bool} {held : Bool}

theorem open_bytes {n : Nat} {cs : List Value} {y : DataW H × List MemPlace} (h : DataW.trod enc Try.prog w base spare held n 43 cs = some y) (hz : ∀ k ∈ y.1.weights Try.prog 43, k ≤ reachBytes) :
    ∃ A m d ys, cs = [.slice A m d] ∧ Bs w A m ys ∧ m ≤ 140737488351232 ∧ m ≤ d ∧ d ≤ 9223372036854775807 := by
  rcases open_ints Try.underlying43 Try.underlying5 (by kernel_rfl) h with ⟨rfl, _⟩ | ⟨x, l, c, zs, rfl, _, hl, hm, hzl, rfl, hcell, hwz⟩
  · exact ⟨none, 0, 0, [], rfl, Bs.nil _ _, by decide, by decide, by decide⟩
  · have hlen : l ≤ zs.length := by rw [hzl]; split <;> omega
    have hw := (weights_slice Try.underlying43 hz).1
    rw [show Try.prog.bytesOf 5 = 1 by kernel_rfl] at hw
    refine ⟨some x, l, c, (zs.take l).map (fun z => UInt8.ofNat z.toNat), rfl, ⟨by simp; omega, fun j u hj => ⟨x, rfl, ?_⟩⟩, ?_, hl, by unfold maxLen at hm; omega⟩
    · have hjl := (List.getElem?_eq_some_iff.1 hj).1
      rw [List.length_map, List.length_take] at hjl
      have h1 : j < l := by omega
      have h2 : j < zs.length := by omega
      rw [hcell j h2]
      have hwz' := bounds_u8 (hwz (zs.getD j 0) (by simp [List.getD, h2]))
      simp only [List.getElem?_map, List.getElem?_take, if_pos h1, Option.map_eq_some_iff] at hj
      obtain ⟨z, h3, rfl⟩ := hj
      have e : zs.getD j 0 = z := by simp [List.getD, h3]
      rw [e] at hwz' ⊢
      unfold bv
      congr 2
      simp
      omega
    · simp [lits, reachBytes] at hw
      omega

theorem take_one {cs : List Value} {j k : Nat} (hl : cs.length = k) (hj : j < k) : ∃ v, cs[j]? = some v ∧ (cs.drop j).take 1 = [v] := by
  subst hl
  refine ⟨cs[j], List.getElem?_eq_getElem hj, ?_⟩
  rw [List.drop_eq_getElem_cons hj]
  rfl


theorem open_int1 {n : Nat} {v : Value} {y : DataW H × List MemPlace} (h : DataW.trod enc Try.prog w base spare held n 3 [v] = some y) : ∃ x : Int, v = .int .i64 x ∧ -9223372036854775808 ≤ x ∧ x ≤ 9223372036854775807 := by
  obtain ⟨z, e, _, b⟩ := DataW.trod_int Try.underlying3 h
  have hb := bounds_i64 b
  exact ⟨z, List.singleton_inj.1 e, hb.1, hb.2⟩
theorem open_u64 {n : Nat} {v : Value} {y : DataW H × List MemPlace} (h : DataW.trod enc Try.prog w base spare held n 110 [v] = some y) : ∃ x : Int, v = .int .u64 x ∧ 0 ≤ x ∧ x ≤ 18446744073709551615 := by
  obtain ⟨z, e, _, b⟩ := DataW.trod_int Try.underlying110 h
  have hb := bounds_u64 b
  exact ⟨z, List.singleton_inj.1 e, hb.1, by omega⟩
theorem open_u8 {n : Nat} {v : Value} {y : DataW H × List MemPlace} (h : DataW.trod enc Try.prog w base spare held n 5 [v] = some y) : ∃ x : Int, v = .int .u8 x ∧ 0 ≤ x ∧ x < 256 := by
  obtain ⟨z, e, _, b⟩ := DataW.trod_int Try.underlying5 h
  have hb := bounds_u8 b
  exact ⟨z, List.singleton_inj.1 e, hb.1, by omega⟩
theorem open_str {n : Nat} {v : Value} {y : DataW H × List MemPlace} (h : DataW.trod enc Try.prog w base spare held n 9 [v] = some y) (hz : ∀ k ∈ y.1.weights Try.prog 9, k ≤ reachBytes) : ∃ s : ByteArray, v = .string s ∧ s.size ≤ 140737488351232 := by
  obtain ⟨s, e, e', _⟩ := DataW.trod_string Try.underlying9 h
  refine ⟨s, List.singleton_inj.1 e, ?_⟩
  have := hz s.data.toList.length (by rw [e']; simp [DataW.weights])
  rw [Array.length_toList] at this
  exact this
set_option maxRecDepth 100000 in
/-- A dot's two cells. -/
theorem open_dot {n : Nat} {cs : List Value} {y : DataW H × List MemPlace} (h : DataW.trod enc Try.prog w base spare held n 37 cs = some y) :
    ∃ (a b : Int), cs = [.int .i64 a, .int .i64 b] ∧ -9223372036854775808 ≤ a ∧ a ≤ 9223372036854775807 ∧ -9223372036854775808 ≤ b ∧ b ≤ 9223372036854775807 := by
  obtain ⟨xs, k, rfl, rfl, hl, hx, hf⟩ := DataW.trod_struct Try.underlying37 h
  rw [show Try.prog.cellsOf 37 = 2 by kernel_rfl] at hl
  have g0 := hf 0 _ rfl
  have g1 := hf 1 _ rfl
  change DataW.trod _ _ _ _ _ _ _ 3 ((cs.drop 0).take (Try.prog.cellsOf 3)) = _ at g0
  change DataW.trod _ _ _ _ _ _ _ 3 ((cs.drop 1).take (Try.prog.cellsOf 3)) = _ at g1
  rw [show Try.prog.cellsOf 3 = 1 by kernel_rfl] at g0 g1
  match cs, hl with
  | [v0, v1], _ =>
    match xs, hx with
    | [x0, x1], _ =>
      obtain ⟨z0, e0, _, b0⟩ := DataW.trod_int Try.underlying3 g0
      obtain ⟨z1, e1, _, b1⟩ := DataW.trod_int Try.underlying3 g1
      have c0 := bounds_i64 b0
      have c1 := bounds_i64 b1
      simp only [List.drop_succ_cons, List.drop_zero, List.take_succ_cons, List.take_zero, List.cons.injEq, and_true] at e0 e1
      subst e0 e1
      exact ⟨z0, z1, rfl, c0.1, c0.2, c1.1, c1.2⟩
end
end Go.Proofs.Ytgafkphhnlifiaa
