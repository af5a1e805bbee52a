/- Slices of numbers as arguments. -/
import Derived.Test.YtphchggabcbfkaaDoorArgs
import Derived.Test.YtphchggabcbfkaaDoorMix
namespace Go.Proofs.YtphchggabcbfkaaDoor
open Go.RowKit Go.WideShapes Go.ChangeShapes Go.Deep
set_option linter.unusedSimpArgs false
/-- The slice reads as these numbers. -/
structure Is (w : World) (A : Option Addr) (n : Nat) (zs : List Int) : Prop where
  len : zs.length = n
  cells : ∀ (j : Nat) (z : Int), zs[j]? = some z → ∃ a, A = some a ∧ w.cell? (a.add j) = some (.int .i64 z)
theorem Is.chg {S : List Nat} {w w' : World} {A : Option Addr} {n : Nat} {zs : List Int} (h : Is w A n zs) (hc : Chg S w w') (hn : ∀ a, A = some a → a.block ∉ S) : Is w' A n zs :=
  ⟨h.len, fun j u hj => by
    obtain ⟨a, ha, hcell⟩ := h.cells j u hj
    exact ⟨a, ha, hc.cell hcell (by rw [block_add]; exact hn a ha)⟩⟩
theorem Is.line {w : World} {A : Option Addr} {n : Nat} {zs : List Int} (h : Is w A n zs) (h0 : 0 < n) : ∃ g o, A = some ⟨g, o, none⟩ ∧ ∀ j, j < n → w.cell? ⟨g, o + j, none⟩ = some (.int .i64 (zs.getD j 0)) := by
  have hl := h.len
  obtain ⟨a, rfl, hc⟩ := h.cells 0 _ (List.getElem?_eq_getElem (by omega))
  have hsp := World.cell?_spot hc
  obtain ⟨g, o, sp⟩ := a
  have hsp : sp = none := by simpa [Addr.add] using hsp
  subst hsp
  refine ⟨g, o, rfl, fun j hj => ?_⟩
  obtain ⟨a', e, hcj⟩ := h.cells j _ (List.getElem?_eq_getElem (by omega))
  cases e
  rw [add_lit] at hcj
  rw [hcj]
  simp [List.getD_eq_getElem?_getD, List.getElem?_eq_getElem (show j < zs.length by omega)]
section
variable {H : Type} {enc : TypeId × Value → H} {P : Program} {w : World} {base : Nat} {spare : Nat → Bool} {held : Bool}
theorem open_ints_ {n : Nat} {cs : List Value} {y : DataW H × List MemPlace} (h : DataW.trod enc Tryd.prog w base spare held n 40 cs = some y) (hz : ∀ k ∈ y.1.weights Tryd.prog 40, k ≤ reachBytes) :
    ∃ A m d zs, cs = [.slice A m d] ∧ Is w A m zs ∧ m * 8 ≤ 140737488351232 ∧ m ≤ d := by
  rcases open_ints Tryd.underlying40 Tryd.underlying3 (by kernel_rfl) h with ⟨rfl, _⟩ | ⟨x, l, c, zs, rfl, _, hl, hm, hzl, rfl, hcell, hwz⟩
  · exact ⟨none, 0, 0, [], rfl, ⟨rfl, by simp⟩, by decide, by decide⟩
  · have hlen : l ≤ zs.length := by rw [hzl]; split <;> omega
    have hw := (weights_slice Tryd.underlying40 hz).1
    rw [show Tryd.prog.bytesOf 3 = 8 by kernel_rfl] at hw
    refine ⟨some x, l, c, zs.take l, rfl, ⟨by simp; omega, fun j u hj => ⟨x, rfl, ?_⟩⟩, ?_, hl⟩
    · have hjl := (List.getElem?_eq_some_iff.1 hj).1
      rw [List.length_take] at hjl
      have h2 : j < zs.length := by omega
      rw [hcell j h2]
      simp only [List.getElem?_take, if_pos (show j < l by omega)] at hj
      simp [List.getD, hj]
    · simp [lits, reachBytes] at hw
      omega
theorem open_u64s_ {n : Nat} {cs : List Value} {y : DataW H × List MemPlace} (h : DataW.trod enc Tryd.prog w base spare held n 24 cs = some y) (hz : ∀ k ∈ y.1.weights Tryd.prog 24, k ≤ reachBytes) :
    ∃ A m d us, cs = [.slice A m d] ∧ U64s w A m us ∧ m * 8 ≤ 140737488351232 ∧ m ≤ d := by
  rcases open_ints Tryd.underlying24 Tryd.underlying23 (by kernel_rfl) h with ⟨rfl, _⟩ | ⟨x, l, c, zs, rfl, _, hl, hm, hzl, rfl, hcell, hwz⟩
  · exact ⟨none, 0, 0, [], rfl, ⟨rfl, by simp, by simp⟩, by decide, by decide⟩
  · have hlen : l ≤ zs.length := by rw [hzl]; split <;> omega
    have hw := (weights_slice Tryd.underlying24 hz).1
    rw [show Tryd.prog.bytesOf 23 = 8 by kernel_rfl] at hw
    refine ⟨some x, l, c, (zs.take l).map Int.toNat, rfl, ⟨by simp; omega, fun j u hj => ⟨x, rfl, ?_⟩, ?_⟩, ?_, hl⟩
    · have hjl := (List.getElem?_eq_some_iff.1 hj).1
      rw [List.length_map, List.length_take] at hjl
      have h2 : j < zs.length := by omega
      rw [hcell j h2]
      simp only [List.getElem?_map, List.getElem?_take, if_pos (show j < l by omega), Option.map_eq_some_iff] at hj
      obtain ⟨z, h3, rfl⟩ := hj
      have e : zs.getD j 0 = z := by simp [List.getD, h3]
      have hb := bounds_u64 (hwz z (by rw [← e]; simp [List.getD, h2]))
      rw [e]
      congr 2
      omega
    · intro u hu
      simp only [List.mem_map] at hu
      obtain ⟨z, hz1, rfl⟩ := hu
      have hb := bounds_u64 (hwz z (List.mem_of_mem_take hz1))
      omega
    · simp [lits, reachBytes] at hw
      omega
end
end Go.Proofs.YtphchggabcbfkaaDoor
