/- path.Join. -/
import Derived.Test.YtibdeiahmgkbhaaDoorShelf2
import Derived.Test.YtibdeiahmgkbhaaDoorQhjoinb
import Derived.Shelf.Strings.OnBuilder
namespace Go.Proofs.YtibdeiahmgkbhaaDoor
open Go.RowKit
set_option linter.unusedSimpArgs false
set_option linter.unusedVariables false
theorem bx156 : Builder.Extra Tryd.prog Tryd.lays156_ren where
  sizeBuilder := by kernel_rfl
  liesBuilder := by kernel_rfl
  t5 := Tryd.underlying5
  a5 := Tryd.isAgg5
  z5 := Tryd.sizeOf5
  v5 := Tryd.zeroValue5
  infoByte := by kernel_rfl
  cellsByte := by kernel_rfl
  sizeByte := by kernel_rfl
  neB5 := by decide
theorem join_unc : ∀ xs : List (List UInt8), Lib.join xs [47] = unc xs
  | [] => rfl
  | [x] => by simp [Lib.join, unc]
  | x :: y :: r => by
    rw [Lib.join_cons, show Lib.joinTail [47] (y :: r) = [47] ++ (y ++ Lib.joinTail [47] r) by simp [Lib.joinTail], ← Lib.join_cons, join_unc (y :: r)]
    rfl
theorem stJoin_any (w : World) (g o c : Nat) (xs : List (List UInt8)) (h : RdK textTy w (some ⟨g, o, none⟩) xs.length xs) (hg : g < w.heap.size) (hc : xs.length ≤ c) (hn : xs.length ≤ 1000000) (hl : ∀ x ∈ xs, x.length ≤ 10000000) :
    Calls Tryd.prog 38 #[.slice (some ⟨g, o, none⟩) xs.length c, .string ⟨#[47]⟩] w fun e w' => e = .returned (.string (strOf (unc xs))) ∧ Below w.heap.size w w' := by
  have hm : (xs.map strOf).map (·.data.toList) = xs := by
    rw [List.map_map]
    conv => rhs; rw [← List.map_id xs]
    apply List.map_congr_left
    intro x _
    simp [strOf]
  have hlen : (unc xs).length ≤ 140737488355328 := by
    have h1 := unc_len 10000000 xs hl
    have h2 : xs.length * (10000000 + 1) ≤ 1000000 * (10000000 + 1) := Nat.mul_le_mul_right _ hn
    omega
  have := Any.strings_Join Tryd.lays156 bx156 g o c (xs.map strOf) ⟨#[47]⟩ w (by
    intro j x hx
    rw [List.getElem?_map] at hx
    obtain ⟨y, hy, rfl⟩ := Option.map_eq_some_iff.1 hx
    exact textCells h hy) hg (by rw [List.length_map]; omega) (by rw [List.length_map]; exact hc) (by rw [hm, show (⟨#[47]⟩ : ByteArray).data.toList = [47] from rfl, join_unc]; exact hlen)
  rw [hm, show (⟨#[47]⟩ : ByteArray).data.toList = [47] from rfl, join_unc, List.length_map] at this
  exact this
set_option maxRecDepth 100000 in
set_option maxHeartbeats 4000000 in
theorem phjoin_t (w : World) (A : Option Addr) (c : Nat) (xs : List (List UInt8)) (h : RdK textTy w A xs.length xs) (hc : xs.length ≤ c) (hn : xs.length ≤ 1000000) (hl : ∀ x ∈ xs, x.length ≤ 10000000) (hP : partsL xs = true) :
    Calls Tryd.prog 15 #[.slice A xs.length c] w fun e w' => e = .returned (.tuple #[.string (strOf (unc xs)), .int .i64 0]) ∧ Below w.heap.size w w' := by
  have hz : (xs.all (partL 12) = true ∧ 1 ≤ xs.length) ∧ xs.length ≤ 6 := by simpa [partsL] using hP
  obtain ⟨⟨ha, h1⟩, h6⟩ := hz
  obtain ⟨g, o, eA, hg⟩ := h.line (by omega)
  subst eA
  have HA := Lib.hid h
  have HX := Lib.hid hl
  have HP := Lib.hid (fun x hx => (List.all_eq_true.1 ha) x hx)
  have i0 : ((xs.length : Int) == 0) = false := by rw [beq_eq_false_iff_ne]; omega
  have i00 : ¬ (xs.length : Int) = 0 := by omega
  have i6 : ¬ ((6 : Int) < (xs.length : Int)) := by omega
  clear h hl ha hP
  go_enter Tryd.func15, Tryd.ntmps15
  go_wp2
  go_loopw [5, 16] (fun v5 v16 wr => ∃ k : Nat, k ≤ xs.length ∧ v16 = .int .i64 (k : Int) ∧ Hid (Below w.heap.size w wr)) (fun _ v16 _ => xs.length - (RowKit.intOf v16).toNat)
  case atStart => exact ⟨0, Nat.zero_le _, rfl, Below.refl _ _⟩
  case round =>
    obtain ⟨k, hk, rfl, HI⟩ := hrel
    have k1 : IntKind.i64.wrap ((k : Int) + 1) = (k : Int) + 1 := IntWalk.i64_in _ (by omega)
    have j0 : (0 : Int) ≤ (k : Int) := by omega
    by_cases hlt : k < xs.length
    · have i1 : (k : Int) < (xs.length : Int) := by omega
      have ex := List.getElem?_eq_getElem hlt
      have z := (HI.out.cell (p := ⟨g, o + k, none⟩) hg).trans (textCells HA.out ex)
      have hp := HP.out xs[k] (List.getElem_mem hlt)
      generalize xs[k] = x at *
      have HQ := Lib.hid (fun w => hp ▸ isPart_any w x)
      clear ex hp
      go_wp2_with fail
      refine (HQ.out _).mono ?_
      rintro e w3 ⟨rfl, hb⟩
      have H3 := Lib.hid (HI.out.trans ⟨hb.os, hb.tape, hb.output, hb.size, fun i hi => hb.block i (Nat.lt_of_lt_of_le hi HI.out.size)⟩)
      clear hb
      go_wp2
      exact ⟨⟨k + 1, by omega, by simp, H3⟩, by simp [RowKit.intOf]; omega⟩
    · obtain rfl : k = xs.length := by omega
      have i1 : ¬ ((xs.length : Int) < (xs.length : Int)) := by omega
      have SJ := Lib.hid (stJoin_any wr g o c xs (HA.out.chg (show Chg [] w wr from ⟨HI.out.os, HI.out.tape, HI.out.output, HI.out.size, fun i hi _ => HI.out.block i hi⟩) (by simp)) (Nat.lt_of_lt_of_le hg HI.out.size) hc hn HX.out)
      go_wp2_with fail
      refine SJ.out.mono ?_
      rintro e w3 ⟨rfl, hb⟩
      have H3 := Lib.hid (HI.out.trans ⟨hb.os, hb.tape, hb.output, hb.size, fun i hi => hb.block i (Nat.lt_of_lt_of_le hi HI.out.size)⟩)
      clear hb
      go_wp2
      go_ret2
      exact ⟨rfl, H3.out⟩
end Go.Proofs.YtibdeiahmgkbhaaDoor
