/- Rows of messages; as arguments. -/
import Derived.Test.YtnpilljjkfjjiaaMargs
import Derived.Test.YtnpilljjkfjjiaaRowK
namespace Go.Proofs.Ytnpilljjkfjjiaa
open Go.RowKit Go.WideShapes Go.ChangeShapes Go.Deep
set_option linter.unusedSimpArgs false
set_option linter.unusedVariables false

/-- A message: its numbers, its slice. -/
abbrev MsgT := Int × Int × Int × Int × Option Addr × Nat × Nat
def msgTy : RowTy MsgT where
  enc := fun x => [.int .i64 x.1, .int .i64 x.2.1, .int .i64 x.2.2.1, .int .i64 x.2.2.2.1, .slice x.2.2.2.2.1 x.2.2.2.2.2.1 x.2.2.2.2.2.2]
  k := 5
  T := 32
  TS := 25
  z := (0, 0, 0, 0, none, 0, 0)
  zv := .agg #[.int .i64 0, .int .i64 0, .int .i64 0, .int .i64 0, .slice none 0 0]
  bytes := 56
  klen := fun _ => rfl
  one := by intro x v hv; simp at hv; rcases hv with rfl | rfl | rfl | rfl | rfl <;> rfl
  zc := rfl
  kpos := by decide
  bpos := by decide
  under := by kernel_rfl
  info := by kernel_rfl
theorem msgCells {w : World} {g o n j : Nat} {xs : List MsgT} (h : RdK msgTy w (some ⟨g, o, none⟩) n xs) {x : MsgT} (hx : xs[j]? = some x) : w.cell? ⟨g, o + j * 5, none⟩ = some (.int .i64 x.1) ∧ w.cell? ⟨g, o + j * 5 + 1, none⟩ = some (.int .i64 x.2.1) ∧ w.cell? ⟨g, o + j * 5 + 2, none⟩ = some (.int .i64 x.2.2.1) ∧ w.cell? ⟨g, o + j * 5 + 3, none⟩ = some (.int .i64 x.2.2.2.1) ∧ w.cell? ⟨g, o + j * 5 + 4, none⟩ = some (.slice x.2.2.2.2.1 x.2.2.2.2.2.1 x.2.2.2.2.2.2) :=
  ⟨h.at_ j 0 x _ hx rfl, h.at_ j 1 x _ hx rfl, h.at_ j 2 x _ hx rfl, h.at_ j 3 x _ hx rfl, h.at_ j 4 x _ hx rfl⟩
/-- What a message's slice reads as. -/
def MsgR (w : World) (x : MsgT) : Prop := ∃ ys, Bs w x.2.2.2.2.1 x.2.2.2.2.2.1 ys ∧ x.2.2.2.2.2.1 ≤ 140737488351232 ∧ x.2.2.2.2.2.1 ≤ x.2.2.2.2.2.2 ∧ x.2.2.2.2.2.2 ≤ 9223372036854775807

section
variable {H : Type} {enc : TypeId × Value → H} {w : World} {base : Nat} {spare : Nat → Bool} {held : Bool}
set_option maxRecDepth 100000 in
theorem open_messages {n : Nat} {cs : List Value} {y : DataW H × List MemPlace} (h : DataW.trod enc Try.prog w base spare held n 25 cs = some y) (hz : ∀ k ∈ y.1.weights Try.prog 25, k ≤ reachBytes) :
    ∃ A m d zs, cs = [.slice A m d] ∧ RdK msgTy w A m zs ∧ m * 56 ≤ 140737488351232 ∧ m ≤ d ∧ ∀ x ∈ zs, MsgR w x := by
  rcases open_slice Try.underlying25 h with ⟨rfl, _⟩ | ⟨a, len, cap, m, k, D, Pl, rfl, _, hl, hm, hmm, rfl, hi⟩
  · exact ⟨none, 0, 0, [], rfl, RdK.nil _ _, by decide, by decide, by simp⟩
  · have hlm : len ≤ m := by rw [hmm]; split <;> omega
    obtain ⟨hw, hwd⟩ := weights_slice Try.underlying25 hz
    rw [show Try.prog.bytesOf 32 = 56 by kernel_rfl] at hw
    simp [reachBytes] at hw
    have hC : Try.prog.cellsOf 32 = 5 := by kernel_rfl
    obtain ⟨l, hll, hat⟩ := list_of (Q := fun i (x : MsgT) => (w.cell? (a.add (i * 5)) = some (.int .i64 x.1) ∧ w.cell? (a.add (i * 5 + 1)) = some (.int .i64 x.2.1) ∧ w.cell? (a.add (i * 5 + 2)) = some (.int .i64 x.2.2.1) ∧ w.cell? (a.add (i * 5 + 3)) = some (.int .i64 x.2.2.2.1) ∧ w.cell? (a.add (i * 5 + 4)) = some (.slice x.2.2.2.2.1 x.2.2.2.2.2.1 x.2.2.2.2.2.2)) ∧ MsgR w x) len (fun i hilt => by
      obtain ⟨cs', hc, ht⟩ := hi i (by omega)
      rw [hC] at hc
      obtain ⟨_, hcl, hat⟩ := World.cells?_some hc
      obtain ⟨f, t, m, b, A, n, d, ys, rfl, hb, hn, hd, hd2⟩ := open_message ht (fun k hk => hwd (D i) (List.mem_map.2 ⟨i, List.mem_range.2 hilt, rfl⟩) k hk)
      have g0 := hat 0 (by omega)
      have g1 := hat 1 (by omega)
      have g2 := hat 2 (by omega)
      have g3 := hat 3 (by omega)
      have g4 := hat 4 (by omega)
      rw [add_add] at g0 g1 g2 g3 g4
      exact ⟨(f, t, m, b, A, n, d), ⟨g0, g1, g2, g3, g4⟩, ys, hb, hn, hd, hd2⟩)
    refine ⟨some a, len, cap, l, rfl, ⟨hll, fun j v hj => ⟨a, rfl, ?_⟩⟩, by omega, hl, fun x hx => ?_⟩
    rotate_left
    · obtain ⟨j, hj, rfl⟩ := List.getElem_of_mem hx
      exact (hat j _ (List.getElem?_eq_getElem hj)).2
    have hj2 := (List.getElem?_eq_some_iff.1 hj).1
    rw [msgTy.flat_len] at hj2
    have hk : msgTy.k = 5 := rfl
    rw [hk] at hj2
    have hq : j / 5 < l.length := by omega
    have e := msgTy.flat_at l (j / 5) (j % 5) _ (List.getElem?_eq_getElem hq) (Nat.mod_lt _ (by decide))
    rw [hk, Nat.div_add_mod', hj] at e
    obtain ⟨g0, g1, g2, g3, g4⟩ := (hat (j / 5) _ (List.getElem?_eq_getElem hq)).1
    rcases (show j % 5 = 0 ∨ j % 5 = 1 ∨ j % 5 = 2 ∨ j % 5 = 3 ∨ j % 5 = 4 by omega) with h0 | h0 | h0 | h0 | h0
    · rw [h0] at e
      rw [show j / 5 * 5 = j by omega] at g0
      rw [g0]
      exact e.symm
    · rw [h0] at e
      rw [show j / 5 * 5 + 1 = j by omega] at g1
      rw [g1]
      exact e.symm
    · rw [h0] at e
      rw [show j / 5 * 5 + 2 = j by omega] at g2
      rw [g2]
      exact e.symm
    · rw [h0] at e
      rw [show j / 5 * 5 + 3 = j by omega] at g3
      rw [g3]
      exact e.symm
    · rw [h0] at e
      rw [show j / 5 * 5 + 4 = j by omega] at g4
      rw [g4]
      exact e.symm
end
end Go.Proofs.Ytnpilljjkfjjiaa
