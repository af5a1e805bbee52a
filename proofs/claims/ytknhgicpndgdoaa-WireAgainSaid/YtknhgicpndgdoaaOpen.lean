/- Arguments opened: bytes, acts, asks: from the data that a row reads to the cells that a walk goes over. -/
import Derived.Test.YtknhgicpndgdoaaActs
import Derived.Deep.Slices
import Derived.Deep.Fields
import Derived.ChangeSame
import Derived.SizedLaws
import Derived.ChangeArms
import Derived.ChangeSlices
import Derived.OpenShut
import Derived.ProofKit
namespace Go.Proofs.Ytknhgicpndgdoaa
open Go.RowKit Go.WideShapes Go.ChangeShapes Go.Deep
section
variable {H : Type} {enc : TypeId × Value → H} {P : Program} {w : World} {base : Nat} {spare : Nat → Bool} {held : Bool}

theorem weights_all_mem {e : TypeId} : ∀ {l : List (DataW H)} {d : DataW H}, d ∈ l → ∀ n ∈ d.weights P e, n ∈ DataW.weightsAll P e l
  | x :: l, d, hd, n, hn => by
    simp only [DataW.weightsAll, List.mem_append]
    rcases List.mem_cons.1 hd with rfl | h
    · exact .inl hn
    · exact .inr (weights_all_mem h n hn)
theorem weights_slice {t e : TypeId} (ht : P.underlying t = some (.slice e)) {xs ys : List (DataW H)} (hz : ∀ k ∈ (DataW.slice xs ys).weights P t, k ≤ reachBytes) :
    (xs.length + ys.length) * P.bytesOf e ≤ reachBytes ∧ ∀ d ∈ xs, ∀ k ∈ d.weights P e, k ≤ reachBytes := by
  simp only [DataW.weights, ht, List.mem_cons, List.mem_append] at hz
  exact ⟨hz _ (.inl rfl), fun d hd k hk => hz k (.inr (.inl (weights_all_mem hd k hk)))⟩
theorem weights_struct {t : TypeId} {fs : Array Field} (ht : P.underlying t = some (.struct fs)) {xs : List (DataW H)} (hz : ∀ k ∈ (DataW.agg xs).weights P t, k ≤ reachBytes) {j : Nat} {f : Field} {d : DataW H} (hf : fs[j]? = some f) (hd : xs[j]? = some d) :
    ∀ k ∈ d.weights P f.type, k ≤ reachBytes := by
  simp only [DataW.weights, ht] at hz
  exact fun k hk => hz k (DataW.weights_mem_each (j := j) (by simp [hf]) hd k hk)

/-- A list of what is there for every number. -/
theorem list_of {α : Type} {Q : Nat → α → Prop} : ∀ (n : Nat), (∀ i, i < n → ∃ a, Q i a) → ∃ l : List α, l.length = n ∧ ∀ j a, l[j]? = some a → Q j a
  | 0, _ => ⟨[], rfl, by simp⟩
  | n + 1, h => by
    obtain ⟨l, h1, h2⟩ := list_of n (fun i hi => h i (by omega))
    obtain ⟨a, ha⟩ := h n (by omega)
    refine ⟨l ++ [a], by simp [h1], fun j b hj => ?_⟩
    rw [List.getElem?_append] at hj
    split at hj
    · exact h2 j b hj
    · rename_i hn
      have : j = n := by
        have := (List.getElem?_eq_some_iff.1 hj).1
        simp at this
        omega
      subst this
      rw [h1] at hj
      simp at hj
      subst hj
      exact ha
end
section
variable {H : Type} {enc : TypeId × Value → H} {w : World} {base : Nat} {spare : Nat → Bool} {held : Bool}

theorem open_bytes {n : Nat} {cs : List Value} {y : DataW H × List MemPlace} (h : DataW.trod enc Try.prog w base spare held n 26 cs = some y) (hz : ∀ k ∈ y.1.weights Try.prog 26, k ≤ reachBytes) :
    ∃ A m d ys, cs = [.slice A m d] ∧ Bs w A m ys ∧ m ≤ 140737488351232 ∧ m ≤ d ∧ d ≤ 9223372036854775807 := by
  rcases open_ints Try.underlying26 Try.underlying5 (by kernel_rfl) h with ⟨rfl, _⟩ | ⟨x, l, c, zs, rfl, _, hl, hm, hzl, rfl, hcell, hwz⟩
  · exact ⟨none, 0, 0, [], rfl, Bs.nil _ _, by decide, by decide, by decide⟩
  · have hlen : l ≤ zs.length := by rw [hzl]; split <;> omega
    have hw := (weights_slice Try.underlying26 hz).1
    rw [show Try.prog.bytesOf 5 = 1 by kernel_rfl] at hw
    refine ⟨some x, l, c, (zs.take l).map (fun z => UInt8.ofNat z.toNat), rfl, ⟨by simp; omega, fun j u hj => ⟨x, rfl, ?_⟩⟩, ?_, hl, by unfold maxLen at hm; omega⟩
    · have hjl := (List.getElem?_eq_some_iff.1 hj).1
      rw [List.length_map, List.length_take] at hjl
      have h1 : j < l := by omega
      have h2 : j < zs.length := by omega
      rw [hcell j h2]
      have hwz' := bounds_u8 (hwz (zs.getD j 0) (by simp [List.getD, h2]))
      simp only [List.getElem?_map, List.getElem?_take, if_pos h1, Option.map_eq_some_iff] at hj
      obtain ⟨z, h3, rfl⟩ := hj
      have e : zs.getD j 0 = z := by simp [List.getD, h3]
      rw [e] at hwz' ⊢
      unfold bv
      congr 2
      simp
      omega
    · simp [lits, reachBytes] at hw
      omega

theorem take_one {cs : List Value} {j k : Nat} (hl : cs.length = k) (hj : j < k) : ∃ v, cs[j]? = some v ∧ (cs.drop j).take 1 = [v] := by
  subst hl
  refine ⟨cs[j], List.getElem?_eq_getElem hj, ?_⟩
  rw [List.drop_eq_getElem_cons hj]
  rfl

/-- An act's four cells. -/
theorem open_act {n : Nat} {cs : List Value} {y : DataW H × List MemPlace} (h : DataW.trod enc Try.prog w base spare held n 34 cs = some y) (hz : ∀ k ∈ y.1.weights Try.prog 34, k ≤ reachBytes) :
    ∃ a : ActD, cs = [.int .i64 a.kind, .int .i64 a.n, .string a.s, .slice a.B a.m a.d] ∧ Bs w a.B a.m a.ys ∧ a.s.size ≤ 140737488351232 ∧ a.m ≤ 140737488351232 ∧ -9223372036854775808 ≤ a.n ∧ a.n ≤ 9223372036854775807 := by
  obtain ⟨xs, k, rfl, rfl, hl, hx, hf⟩ := DataW.trod_struct Try.underlying34 h
  rw [show Try.prog.cellsOf 34 = 4 by kernel_rfl] at hl
  have g0 := hf 0 _ rfl
  have g1 := hf 1 _ rfl
  have g2 := hf 2 _ rfl
  have g3 := hf 3 _ rfl
  change DataW.trod _ _ _ _ _ _ _ 3 ((cs.drop 0).take (Try.prog.cellsOf 3)) = _ at g0
  change DataW.trod _ _ _ _ _ _ _ 3 ((cs.drop 1).take (Try.prog.cellsOf 3)) = _ at g1
  change DataW.trod _ _ _ _ _ _ _ 9 ((cs.drop 2).take (Try.prog.cellsOf 9)) = _ at g2
  change DataW.trod _ _ _ _ _ _ _ 26 ((cs.drop 3).take (Try.prog.cellsOf 26)) = _ at g3
  rw [show Try.prog.cellsOf 3 = 1 by kernel_rfl] at g0 g1
  rw [show Try.prog.cellsOf 9 = 1 by kernel_rfl] at g2
  rw [show Try.prog.cellsOf 26 = 1 by kernel_rfl] at g3
  match cs, hl with
  | [v0, v1, v2, v3], _ =>
    match xs, hx with
    | [x0, x1, x2, x3], _ =>
      have w2 := weights_struct Try.underlying34 hz (j := 2) (d := x2.1) rfl rfl
      have w3 := weights_struct Try.underlying34 hz (j := 3) (d := x3.1) rfl rfl
      obtain ⟨z0, e0, _, _⟩ := DataW.trod_int Try.underlying3 g0
      obtain ⟨z1, e1, _, b1⟩ := DataW.trod_int Try.underlying3 g1
      obtain ⟨s, e2, e2', _⟩ := DataW.trod_string Try.underlying9 g2
      obtain ⟨A, m, d, ys, e3, hb, hm, _, _⟩ := open_bytes g3 w3
      simp only [List.drop_succ_cons, List.drop_zero, List.take_succ_cons, List.take_zero, List.cons.injEq, and_true] at e0 e1 e2 e3
      subst e0 e1 e2 e3
      have hs : s.size ≤ 140737488351232 := by
        have := w2 s.data.toList.length (by rw [e2']; simp [DataW.weights])
        rw [Array.length_toList] at this
        exact this
      have hb1 := bounds_i64 b1
      exact ⟨⟨z0, z1, s, A, m, d, ys⟩, rfl, hb, hs, hm, hb1.1, hb1.2⟩

theorem open_acts {n : Nat} {v : Value} {y : DataW H × List MemPlace} (h : DataW.trod enc Try.prog w base spare held n 22 [v] = some y) (hz : ∀ k ∈ y.1.weights Try.prog 22, k ≤ reachBytes) :
    ∃ A len c l, v = .slice A len c ∧ Acts w A len l ∧ len ≤ 140737488351232 := by
  rcases open_slice Try.underlying22 h with ⟨h1, _⟩ | ⟨a, len, cap, m, k, D, Pl, h1, _, hl, hm, hmm, rfl, hi⟩
  · obtain rfl := List.singleton_inj.1 h1
    exact ⟨none, 0, 0, [], rfl, ⟨rfl, by simp⟩, by decide⟩
  · obtain rfl := List.singleton_inj.1 h1
    have hlm : len ≤ m := by rw [hmm]; split <;> omega
    obtain ⟨hw, hzs⟩ := weights_slice Try.underlying22 hz
    rw [show Try.prog.bytesOf 34 = 56 by kernel_rfl] at hw
    simp [reachBytes] at hw
    have hC : Try.prog.cellsOf 34 = 4 := by kernel_rfl
    obtain ⟨b, off, spot⟩ := a
    have hsp : 0 < len → spot = none := fun h0 => by
      obtain ⟨cs', hc, _⟩ := hi 0 (by omega)
      rw [hC] at hc
      have := World.cell?_spot (((World.cells?_some hc).2.2 0 (by omega)).trans (List.getElem?_eq_getElem (by rw [(World.cells?_some hc).2.1]; omega)))
      simpa [Addr.add] using this
    obtain ⟨l, hll, hat⟩ := list_of (Q := fun i a => spot = none ∧ ActAt w b (off + i * 4) a) len (fun i hilt => by
      obtain ⟨cs', hc, ht⟩ := hi i (by omega)
      rw [hC] at hc
      obtain ⟨_, hcl, hat⟩ := World.cells?_some hc
      obtain ⟨a, rfl, hb, hs1, hs2, hs3, hs4⟩ := open_act ht (hzs (D i) (by simp; exact ⟨i, hilt, rfl⟩))
      have g0 := hat 0 (by omega)
      have g1 := hat 1 (by omega)
      have g2 := hat 2 (by omega)
      have g3 := hat 3 (by omega)
      rw [add_add] at g0 g1 g2 g3
      obtain rfl := hsp (by omega)
      simp only [add_lit, List.getElem?_cons_zero, List.getElem?_cons_succ] at g0 g1 g2 g3
      exact ⟨a, rfl, g0, g1, g2, g3, hb, hs1, hs2, hs3, hs4⟩)
    refine ⟨_, len, cap, l, rfl, ⟨hll, fun j a hj => ?_⟩, by omega⟩
    obtain ⟨rfl, h2⟩ := hat j a hj
    exact ⟨b, off, rfl, h2⟩
end
end Go.Proofs.Ytknhgicpndgdoaa
