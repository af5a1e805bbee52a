/- Rows of turns; as arguments. -/
import Derived.Test.YtmblalcigbghfaaArgs
import Derived.Test.YtmblalcigbghfaaRowK
namespace Go.Proofs.Ytmblalcigbghfaa
open Go.RowKit Go.WideShapes Go.ChangeShapes Go.Deep
set_option linter.unusedSimpArgs false
set_option linter.unusedVariables false

/-- A turn: its kind, which, at which end, the body's slice. -/
abbrev TurnV := Int × Int × Bool × Option Addr × Nat × Nat
def turnTy : RowTy TurnV where
  enc := fun x => [.int .i64 x.1, .int .i64 x.2.1, .bool x.2.2.1, .slice x.2.2.2.1 x.2.2.2.2.1 x.2.2.2.2.2]
  k := 4
  T := 58
  TS := 45
  z := (0, 0, false, none, 0, 0)
  zv := .agg #[.int .i64 0, .int .i64 0, .bool false, .slice none 0 0]
  bytes := 48
  klen := fun _ => rfl
  one := by intro x v hv; simp at hv; rcases hv with rfl | rfl | rfl | rfl <;> rfl
  zc := rfl
  kpos := by decide
  bpos := by decide
  under := by kernel_rfl
  info := by kernel_rfl
theorem turnCells {w : World} {g o n j : Nat} {xs : List TurnV} (h : RdK turnTy w (some ⟨g, o, none⟩) n xs) {x : TurnV} (hx : xs[j]? = some x) : w.cell? ⟨g, o + j * 4, none⟩ = some (.int .i64 x.1) ∧ w.cell? ⟨g, o + j * 4 + 1, none⟩ = some (.int .i64 x.2.1) ∧ w.cell? ⟨g, o + j * 4 + 2, none⟩ = some (.bool x.2.2.1) ∧ w.cell? ⟨g, o + j * 4 + 3, none⟩ = some (.slice x.2.2.2.1 x.2.2.2.2.1 x.2.2.2.2.2) :=
  ⟨h.at_ j 0 x _ hx rfl, h.at_ j 1 x _ hx rfl, h.at_ j 2 x _ hx rfl, h.at_ j 3 x _ hx rfl⟩
/-- What a turn's slice reads as. -/
def TurnR (w : World) (x : TurnV) : Prop := ∃ ys, Bs w x.2.2.2.1 x.2.2.2.2.1 ys ∧ x.2.2.2.2.1 ≤ 140737488351232

section
variable {H : Type} {enc : TypeId × Value → H} {w : World} {base : Nat} {spare : Nat → Bool} {held : Bool}
set_option maxRecDepth 100000 in
theorem open_turn {n : Nat} {cs : List Value} {y : DataW H × List MemPlace} (h : DataW.trod enc Try.prog w base spare held n 58 cs = some y) (hz : ∀ k ∈ y.1.weights Try.prog 58, k ≤ reachBytes) :
    ∃ (k f : Int) (o : Bool) (A : Option Addr) (n d : Nat) (ys : List UInt8), cs = [.int .i64 k, .int .i64 f, .bool o, .slice A n d] ∧ Bs w A n ys ∧ n ≤ 140737488351232 := by
  obtain ⟨xs, k, rfl, rfl, hl, hx, hf⟩ := DataW.trod_struct Try.underlying58 h
  rw [show Try.prog.cellsOf 58 = 4 by kernel_rfl] at hl
  have g0 := hf 0 _ rfl
  have g1 := hf 1 _ rfl
  have g2 := hf 2 _ rfl
  have g3 := hf 3 _ rfl
  change DataW.trod _ _ _ _ _ _ _ 3 ((cs.drop 0).take (Try.prog.cellsOf 3)) = _ at g0
  change DataW.trod _ _ _ _ _ _ _ 3 ((cs.drop 1).take (Try.prog.cellsOf 3)) = _ at g1
  change DataW.trod _ _ _ _ _ _ _ 4 ((cs.drop 2).take (Try.prog.cellsOf 4)) = _ at g2
  change DataW.trod _ _ _ _ _ _ _ 33 ((cs.drop 3).take (Try.prog.cellsOf 33)) = _ at g3
  rw [show Try.prog.cellsOf 3 = 1 by kernel_rfl] at g0 g1
  rw [show Try.prog.cellsOf 4 = 1 by kernel_rfl] at g2
  rw [show Try.prog.cellsOf 33 = 1 by kernel_rfl] at g3
  match cs, hl with
  | [v0, v1, v2, v3], _ =>
    match xs, hx with
    | [x0, x1, x2, x3], _ =>
      have w3 := weights_struct Try.underlying58 hz (j := 3) (d := x3.1) rfl rfl
      obtain ⟨z0, e0, _, _⟩ := DataW.trod_int Try.underlying3 g0
      obtain ⟨z1, e1, _, _⟩ := DataW.trod_int Try.underlying3 g1
      obtain ⟨z2, e2, _⟩ := DataW.trod_bool Try.underlying4 g2
      obtain ⟨A, m, d, ys, e3, hb, hm, hmd, hd⟩ := open_bytes g3 w3
      simp only [List.drop_succ_cons, List.drop_zero, List.take_succ_cons, List.take_zero, List.cons.injEq, and_true] at e0 e1 e2 e3
      subst e0 e1 e2 e3
      exact ⟨z0, z1, z2, A, m, d, ys, rfl, hb, hm⟩
set_option maxRecDepth 100000 in
theorem open_turns {n : Nat} {cs : List Value} {y : DataW H × List MemPlace} (h : DataW.trod enc Try.prog w base spare held n 45 cs = some y) (hz : ∀ k ∈ y.1.weights Try.prog 45, k ≤ reachBytes) :
    ∃ A m d zs, cs = [.slice A m d] ∧ RdK turnTy w A m zs ∧ m * 48 ≤ 140737488351232 ∧ m ≤ d ∧ ∀ x ∈ zs, TurnR w x := by
  rcases open_slice Try.underlying45 h with ⟨rfl, _⟩ | ⟨a, len, cap, m, k, D, Pl, rfl, _, hl, hm, hmm, rfl, hi⟩
  · exact ⟨none, 0, 0, [], rfl, RdK.nil _ _, by decide, by decide, by simp⟩
  · have hlm : len ≤ m := by rw [hmm]; split <;> omega
    obtain ⟨hw, hwd⟩ := weights_slice Try.underlying45 hz
    rw [show Try.prog.bytesOf 58 = 48 by kernel_rfl] at hw
    simp [reachBytes] at hw
    have hC : Try.prog.cellsOf 58 = 4 := by kernel_rfl
    obtain ⟨l, hll, hat⟩ := list_of (Q := fun i (x : TurnV) => (w.cell? (a.add (i * 4)) = some (.int .i64 x.1) ∧ w.cell? (a.add (i * 4 + 1)) = some (.int .i64 x.2.1) ∧ w.cell? (a.add (i * 4 + 2)) = some (.bool x.2.2.1) ∧ w.cell? (a.add (i * 4 + 3)) = some (.slice x.2.2.2.1 x.2.2.2.2.1 x.2.2.2.2.2)) ∧ TurnR w x) len (fun i hilt => by
      obtain ⟨cs', hc, ht⟩ := hi i (by omega)
      rw [hC] at hc
      obtain ⟨_, hcl, hat⟩ := World.cells?_some hc
      obtain ⟨kk, f, o, A, n, d, ys, rfl, hb, hn⟩ := open_turn ht (fun k hk => hwd (D i) (List.mem_map.2 ⟨i, List.mem_range.2 hilt, rfl⟩) k hk)
      have g0 := hat 0 (by omega)
      have g1 := hat 1 (by omega)
      have g2 := hat 2 (by omega)
      have g3 := hat 3 (by omega)
      rw [add_add] at g0 g1 g2 g3
      exact ⟨(kk, f, o, A, n, d), ⟨g0, g1, g2, g3⟩, ys, hb, hn⟩)
    refine ⟨some a, len, cap, l, rfl, ⟨hll, fun j v hj => ⟨a, rfl, ?_⟩⟩, by omega, hl, fun x hx => ?_⟩
    rotate_left
    · obtain ⟨j, hj, rfl⟩ := List.getElem_of_mem hx
      exact (hat j _ (List.getElem?_eq_getElem hj)).2
    have hj2 := (List.getElem?_eq_some_iff.1 hj).1
    rw [turnTy.flat_len] at hj2
    have hk : turnTy.k = 4 := rfl
    rw [hk] at hj2
    have hq : j / 4 < l.length := by omega
    have e := turnTy.flat_at l (j / 4) (j % 4) _ (List.getElem?_eq_getElem hq) (Nat.mod_lt _ (by decide))
    rw [hk, Nat.div_add_mod', hj] at e
    obtain ⟨g0, g1, g2, g3⟩ := (hat (j / 4) _ (List.getElem?_eq_getElem hq)).1
    rcases (show j % 4 = 0 ∨ j % 4 = 1 ∨ j % 4 = 2 ∨ j % 4 = 3 by omega) with h0 | h0 | h0 | h0
    · rw [h0] at e
      rw [show j / 4 * 4 = j by omega] at g0
      rw [g0]
      exact e.symm
    · rw [h0] at e
      rw [show j / 4 * 4 + 1 = j by omega] at g1
      rw [g1]
      exact e.symm
    · rw [h0] at e
      rw [show j / 4 * 4 + 2 = j by omega] at g2
      rw [g2]
      exact e.symm
    · rw [h0] at e
      rw [show j / 4 * 4 + 3 = j by omega] at g3
      rw [g3]
      exact e.symm
end
end Go.Proofs.Ytmblalcigbghfaa
