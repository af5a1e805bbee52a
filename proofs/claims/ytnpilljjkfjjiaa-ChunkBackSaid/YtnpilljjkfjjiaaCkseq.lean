/- slices.Chunk, at pieces of 200 bytes. -/
import Derived.Test.YtnpilljjkfjjiaaRangel
import Derived.Sort.QuietIn
namespace Go.Proofs.Ytnpilljjkfjjiaa
open Go.RowKit
set_option linter.unusedSimpArgs false
set_option linter.unusedVariables false

/-- How many pieces so many bytes have. -/
def piecesN (len : Nat) : Nat := (len + 199) / 200
/-- How many bytes piece j has. -/
def pieceL (len j : Nat) : Nat := if 200 ≤ len - j * 200 then 200 else len - j * 200
def encP (g o len j : Nat) : Array Value := #[.slice (some ⟨g, o + j * 200, none⟩) (pieceL len j) (pieceL len j)]
set_option maxRecDepth 100000 in
set_option maxHeartbeats 4000000 in
theorem chunka_gives (n l n₁ bs bn : Nat) (T : List Nat) (g o len c : Nat) (hl0 : 0 < len) (hlc : len ≤ c) (hc : c ≤ 9223372036854775807) (hlen : len ≤ 60000)
    (J Jx : List Nat → World → Prop) (W : World) (h1 : bs < n₁) (h2 : bn < n₁) (hT1 : bs ∉ T) (hT2 : bn ∉ T) (hn₁ : n₁ ≤ W.heap.size)
    (hJ : ∀ pre A B, J pre A → Chg [] A B → J pre B)
    (hY : ∀ pre x W1, J pre W1 → (x = pre.length ∧ x * 200 < len) → YieldAt Fence.wide n Try.prog l (encP g o len x) W1 fun e W' => (e = .returned (.bool true) ∧ J (pre ++ [x]) W' ∧ Kpt n₁ T W1 W') ∨ (e = .returned (.bool false) ∧ Jx (pre ++ [x]) W'))
    (hs : W.cell? ⟨bs, 0, none⟩ = some (.slice (some ⟨g, o, none⟩) len c)) (hn : W.cell? ⟨bn, 0, none⟩ = some (.int .i64 200)) (h0 : J [] W) :
    CallsIn Fence.wide (n + 1) Try.prog 39 #[.func (.yield l) #[] #[], .pointer (some ⟨bs, 0, none⟩), .pointer (some ⟨bn, 0, none⟩)] W fun e W' => (∃ v, e = .returned v) ∧ ((∃ ys, ys.length = piecesN len ∧ J ys W') ∨ ∃ ys, True ∧ Jx ys W') := by
  have h1' : 1 ≤ n + 1 := by omega
  have hro : Fence.wide.round = none := rfl
  refine callsIn_of_wp Try.func39 rfl trivial ?_ hro
  simp only [Try.ntmps39, List.size_toArray, List.length_cons, List.length_nil, Nat.reduceAdd, Nat.reduceSub, Array.replicate_succ, Array.replicate_zero, List.push_toArray, List.append_toArray, List.nil_append, List.cons_append]
  gi_wp2
  gi_loopw [4, 5] (fun v4 v5 wr => ∃ pre : List Nat, v4 = .int .i64 ((pre.length * 200 : Nat) : Int) ∧ J pre wr ∧ Kpt n₁ T W wr ∧ (pre.length = 0 ∨ (pre.length - 1) * 200 < len)) (fun v4 _ _ => len - (intOf v4).toNat)
  case atStart => exact ⟨[], rfl, h0, Kpt.refl _ _ _, .inl rfl⟩
  case round =>
    obtain ⟨pre, rfl, hJs, hk, hb⟩ := hrel
    have cs : wr.cell? ⟨bs, 0, none⟩ = some (.slice (some ⟨g, o, none⟩) len c) := (World.cell?_of_block (hk.block bs h1 hT1)).trans hs
    have cn : wr.cell? ⟨bn, 0, none⟩ = some (.int .i64 200) := (World.cell?_of_block (hk.block bn h2 hT2)).trans hn
    obtain ⟨k, hkk⟩ : ∃ k, pre.length * 200 = k := ⟨_, rfl⟩
    rw [hkk]
    by_cases hlt : k < len
    · have i2 : (k : Int) < (len : Int) := by omega
      have i0 : (0 : Int) ≤ (k : Int) := by omega
      have i3 : (k : Int) ≤ (len : Int) := by omega
      have i4 : (k : Int) ≤ (c : Int) := by omega
      have i5 : ¬ (c : Int) < (k : Int) := by omega
      have i6 : (k : Int) ≠ (c : Int) := by omega
      have i7 : ¬ (k = c) := by omega
      have i8 : ¬ (c = k) := by omega
      have w0 : IntKind.i64.wrap (k : Int) = (k : Int) := IntWalk.i64_in _ (by omega)
      have w1 : IntKind.i64.wrap (((len : Int) - (k : Int))) = ((len - k : Nat) : Int) := by rw [show (len : Int) - (k : Int) = ((len - k : Nat) : Int) by omega]; exact IntWalk.i64_in _ (by omega)
      by_cases h200 : 200 ≤ len - k
      · have m1 : (200 : Int) ≤ ((len - k : Nat) : Int) := by omega
        have m2 : ¬ ((len - k : Nat) : Int) < 200 := by omega
        have e1 : pieceL len pre.length = 200 := by unfold pieceL; rw [hkk, if_pos h200]
        have w2 : IntKind.i64.wrap ((k : Int) + 200) = ((k + 200 : Nat) : Int) := by rw [IntWalk.i64_in _ (by omega)]; omega
        have b0 : (k : Int) ≤ ((k + 200 : Nat) : Int) := by omega
        have b1 : ((k + 200 : Nat) : Int) ≤ (c : Int) := by omega
        have b2 : ¬ (k + 200 = k) := by omega
        have b3 : k + 200 - k = 200 := by omega
        gi_wp2
        gi_quiet (fail)
        have hq := (Chg.refl [] wr).drewN nq
        have hJ2 := hJ _ _ _ hJs hq
        have hk2 := hk.trans (Kpt.of_chg (T := T) (hq.mono (by simp)) (Nat.le_trans hn₁ hk.size))
        generalize wr.drewN nq = w2 at *
        have cs2 : w2.cell? ⟨bs, 0, none⟩ = some (.slice (some ⟨g, o, none⟩) len c) := (World.cell?_of_block (hk2.block bs h1 hT1)).trans hs
        have cn2 : w2.cell? ⟨bn, 0, none⟩ = some (.int .i64 200) := (World.cell?_of_block (hk2.block bn h2 hT2)).trans hn
        obtain ⟨fn, tmps, assign, body, hy, hR⟩ := hY pre pre.length w2 hJ2 ⟨rfl, by omega⟩
        rw [show encP g o len pre.length = #[.slice (some ⟨g, o + k, none⟩) 200 200] by unfold encP; rw [hkk, e1]] at hy
        clear cs cn hq hJs hk
        gi_wp2
        refine hR.mono ?_
        rintro e W3 (⟨rfl, hJ3, hk3⟩ | ⟨rfl, hx⟩)
        · have cs3 : W3.cell? ⟨bs, 0, none⟩ = some (.slice (some ⟨g, o, none⟩) len c) := (World.cell?_of_block (hk3.block bs h1 hT1)).trans cs2
          have cn3 : W3.cell? ⟨bn, 0, none⟩ = some (.int .i64 200) := (World.cell?_of_block (hk3.block bn h2 hT2)).trans cn2
          have w5 : IntKind.i64.wrap ((k : Int) + 200) = (((pre ++ [pre.length]).length * 200 : Nat) : Int) := by rw [IntWalk.i64_in _ (by omega)]; simp; omega
          have JJ := Lib.hid hJ3
          have KK := Lib.hid (hk2.trans hk3)
          have HB := Lib.hid (show (pre ++ [pre.length]).length = 0 ∨ ((pre ++ [pre.length]).length - 1) * 200 < len by right; simp; omega)
          have HM := Lib.hid (show len - (((pre ++ [pre.length]).length * 200 : Nat) : Int).toNat < len - (k : Int).toNat by simp; omega)
          clear hJ3 hk3 hk2 hJ2 hR hb
          gi_wp2
          go_roundw
          case rel => exact ⟨pre ++ [pre.length], congrArg (Value.int .i64) (by simp <;> omega), JJ.out, KK.out, HB.out⟩
          case measure => simp [intOf]; omega
        · gi_wp2
          refine bodyPost_ret (results_none rfl _ _ _) rfl ?_
          exact ⟨⟨_, rfl⟩, .inr ⟨_, trivial, hx⟩⟩
      · have m1 : ¬ (200 : Int) ≤ ((len - k : Nat) : Int) := by omega
        have m2 : ((len - k : Nat) : Int) < 200 := by omega
        have e1 : pieceL len pre.length = len - k := by unfold pieceL; rw [hkk, if_neg h200]
        have w2 : IntKind.i64.wrap ((k : Int) + ((len - k : Nat) : Int)) = ((len : Nat) : Int) := by rw [IntWalk.i64_in _ (by omega)]; omega
        have b0 : (k : Int) ≤ (len : Int) := by omega
        have b1 : (len : Int) ≤ (c : Int) := by omega
        have b2 : ¬ (len = k) := by omega
        gi_wp2
        gi_quiet (fail)
        have hq := (Chg.refl [] wr).drewN nq
        have hJ2 := hJ _ _ _ hJs hq
        have hk2 := hk.trans (Kpt.of_chg (T := T) (hq.mono (by simp)) (Nat.le_trans hn₁ hk.size))
        generalize wr.drewN nq = w2 at *
        have cs2 : w2.cell? ⟨bs, 0, none⟩ = some (.slice (some ⟨g, o, none⟩) len c) := (World.cell?_of_block (hk2.block bs h1 hT1)).trans hs
        have cn2 : w2.cell? ⟨bn, 0, none⟩ = some (.int .i64 200) := (World.cell?_of_block (hk2.block bn h2 hT2)).trans hn
        obtain ⟨fn, tmps, assign, body, hy, hR⟩ := hY pre pre.length w2 hJ2 ⟨rfl, by omega⟩
        rw [show encP g o len pre.length = #[.slice (some ⟨g, o + k, none⟩) (len - k) (len - k)] by unfold encP; rw [hkk, e1]] at hy
        clear cs cn hq hJs hk
        gi_wp2
        refine hR.mono ?_
        rintro e W3 (⟨rfl, hJ3, hk3⟩ | ⟨rfl, hx⟩)
        · have cs3 : W3.cell? ⟨bs, 0, none⟩ = some (.slice (some ⟨g, o, none⟩) len c) := (World.cell?_of_block (hk3.block bs h1 hT1)).trans cs2
          have cn3 : W3.cell? ⟨bn, 0, none⟩ = some (.int .i64 200) := (World.cell?_of_block (hk3.block bn h2 hT2)).trans cn2
          have w5 : IntKind.i64.wrap ((k : Int) + 200) = (((pre ++ [pre.length]).length * 200 : Nat) : Int) := by rw [IntWalk.i64_in _ (by omega)]; simp; omega
          have JJ := Lib.hid hJ3
          have KK := Lib.hid (hk2.trans hk3)
          have HB := Lib.hid (show (pre ++ [pre.length]).length = 0 ∨ ((pre ++ [pre.length]).length - 1) * 200 < len by right; simp; omega)
          have HM := Lib.hid (show len - (((pre ++ [pre.length]).length * 200 : Nat) : Int).toNat < len - (k : Int).toNat by simp; omega)
          clear hJ3 hk3 hk2 hJ2 hR hb
          gi_wp2
          go_roundw
          case rel => exact ⟨pre ++ [pre.length], congrArg (Value.int .i64) (by simp <;> omega), JJ.out, KK.out, HB.out⟩
          case measure => simp [intOf]; omega
        · gi_wp2
          refine bodyPost_ret (results_none rfl _ _ _) rfl ?_
          exact ⟨⟨_, rfl⟩, .inr ⟨_, trivial, hx⟩⟩
    · have i2 : ¬ (k : Int) < (len : Int) := by omega
      have hp : pre.length = piecesN len := by unfold piecesN; omega
      gi_wp2
      go_end0
      exact ⟨⟨_, rfl⟩, .inl ⟨_, hp, hJs⟩⟩
end Go.Proofs.Ytnpilljjkfjjiaa
