/- path.Split; the document's Join. -/
import Derived.Test.YtibdeiahmgkbhaaDoorQhbase
namespace Go.Proofs.YtibdeiahmgkbhaaDoor
open Go.RowKit
set_option linter.unusedSimpArgs false
set_option linter.unusedVariables false
theorem phsplit_no (w : World) (l : List UInt8) (hl : l.length ≤ 10000000) (hp : okP l = false) :
    Calls Tryd.prog 13 #[.string (strOf l)] w fun e w' => e = .returned (.tuple #[.slice none 0 0, .int .i64 2]) ∧ Chg [] w w' := by
  have C1 := Lib.hid (fun w => phcheck_any w l (by omega))
  rw [show checkL 6 12 l = false from hp] at C1
  clear hp
  go_enter Tryd.func13, Tryd.ntmps13
  go_wp2_with fail
  refine (C1.out _).mono ?_
  rintro e w1 ⟨rfl, hb⟩
  have K := Lib.hid (show Chg [] w w1 from ⟨hb.os, hb.tape, hb.output, hb.size, fun k hk _ => hb.block k hk⟩)
  clear hb
  go_wp2
  go_ret2
  exact ⟨rfl, K.out⟩
theorem phsplit_yes (w : World) (l : List UInt8) (hl : l.length ≤ 10000000) (hp : okP l = true) :
    Calls Tryd.prog 13 #[.string (strOf l)] w fun e w' => ∃ g, w.heap.size ≤ g ∧ e = .returned (.tuple #[.slice (some ⟨g, 0, none⟩) (cutL l).length (cutL l).length, .int .i64 0]) ∧ w'.heap[g]? = some (.cells ((cutL l).map tv).toArray 9 (0, 0)) ∧ Chg [] w w' := by
  have C1 := Lib.hid (fun w => phcheck_any w l (by omega))
  rw [show checkL 6 12 l = true from hp] at C1
  have C2 := Lib.hid (fun w => split_any w l hl)
  clear hp
  generalize cutL l = xs at *
  go_enter Tryd.func13, Tryd.ntmps13
  go_wp2_with fail
  refine (C1.out _).mono ?_
  rintro e w1 ⟨rfl, hb⟩
  have K := Lib.hid (show Chg [] w w1 from ⟨hb.os, hb.tape, hb.output, hb.size, fun k hk _ => hb.block k hk⟩)
  clear hb
  go_wp2_with fail
  refine (C2.out _).mono ?_
  rintro e w2 ⟨rfl, h1, h3⟩
  have H1 := Lib.hid h1
  have H3 := Lib.hid h3
  clear h1 h3
  go_wp2
  go_ret2
  exact ⟨_, K.out.size, rfl, H1.out, K.out.trans H3.out⟩
/-- May parts be joined? -/
def partsL (xs : List (List UInt8)) : Bool := xs.all (partL 12) && decide (1 ≤ xs.length) && decide (xs.length ≤ 6)
set_option maxRecDepth 100000 in
set_option maxHeartbeats 4000000 in
theorem qhjoin_t (w : World) (A : Option Addr) (c : Nat) (xs : List (List UInt8)) (h : RdK textTy w A xs.length xs) (hn : xs.length ≤ 1000000) (hl : ∀ x ∈ xs, x.length ≤ 10000000) (hP : partsL xs = true) :
    Calls Tryd.prog 16 #[.slice A xs.length c] w fun e w' => e = .returned (.tuple #[.string (strOf (unc xs)), .int .i64 0]) ∧ w' = w := by
  have HA := Lib.hid h
  have QJ := Lib.hid (fun (u : Unit) => qjoin_any w A c xs h hn hl)
  have HP := Lib.hid hP
  have HX := Lib.hid hl
  clear h hP hl
  go_enter Tryd.func16, Tryd.ntmps16
  go_wp2
  go_loopw [4] (fun v4 wr => ∃ k : Nat, k ≤ xs.length ∧ v4 = .int .i64 (k : Int) ∧ Hid ((xs.take k).all (partL 12) = true) ∧ wr = w) (fun v4 _ => xs.length - (RowKit.intOf v4).toNat)
  case atStart => exact ⟨0, Nat.zero_le _, rfl, rfl, rfl⟩
  case round =>
    obtain ⟨k, hk, rfl, HI, rfl⟩ := hrel
    have k1 : IntKind.i64.wrap ((k : Int) + 1) = (k : Int) + 1 := IntWalk.i64_in _ (by omega)
    have i0 : (0 : Int) ≤ (k : Int) := by omega
    by_cases hlt : k < xs.length
    · have i1 : (k : Int) < (xs.length : Int) := by omega
      obtain ⟨g, o, eA, _⟩ := HA.out.line (by omega)
      subst eA
      have ex := List.getElem?_eq_getElem hlt
      have z := textCells HA.out ex
      have HB := Lib.hid (fun h => all_bad (xs := xs) hlt h)
      have HL := Lib.hid (HX.out xs[k] (List.getElem_mem hlt))
      have HT := Lib.hid (List.take_succ_eq_append_getElem hlt)
      generalize xs[k] = x at *
      clear ex
      cases hp : partL 12 x with
      | false =>
        have HQ := Lib.hid (fun w => hp ▸ qpart_any w x (by have := HL.out; omega))
        have HF := Lib.hid (show true = false by rw [← HP.out]; unfold partsL; rw [HB.out hp]; rfl)
        clear hp
        go_wp2_with fail
        refine (HQ.out _).mono ?_
        rintro e w3 ⟨rfl, rfl⟩
        go_wp2
        go_ret2
        exact ⟨by first | rfl | exact absurd HF.out (by decide), rfl⟩
      | true =>
        have HQ := Lib.hid (fun w => hp ▸ qpart_any w x (by have := HL.out; omega))
        have HH := Lib.hid hp
        clear hp
        go_wp2_with fail
        refine (HQ.out _).mono ?_
        rintro e w3 ⟨rfl, rfl⟩
        go_wp2
        exact ⟨⟨k + 1, by omega, by simp, Lib.hid (by rw [HT.out, List.all_append, HI.out]; simp [HH.out]), trivial⟩, by simp [RowKit.intOf]; omega⟩
    · obtain rfl : k = xs.length := by omega
      have i1 : ¬ ((xs.length : Int) < (xs.length : Int)) := by omega
      have ha : xs.all (partL 12) = true := by have := HI.out; rwa [List.take_length] at this
      by_cases hz : 1 ≤ xs.length ∧ xs.length ≤ 6
      · have i2 : ¬ ((xs.length : Int) < 1) := by omega
        have i3 : ¬ ((6 : Int) < (xs.length : Int)) := by omega
        have HF := Lib.hid (show true = true by rfl)
        clear ha
        go_wp2_with fail
        refine (QJ.out ()).mono ?_
        rintro e w3 ⟨rfl, rfl⟩
        go_wp2
        go_ret2
        exact ⟨by first | rfl | exact absurd HF.out (by decide), rfl⟩
      · have HF := Lib.hid (show true = false by
          rw [← HP.out]
          unfold partsL
          rw [ha]
          by_cases h1 : 1 ≤ xs.length
          · have : ¬ xs.length ≤ 6 := fun h => hz ⟨h1, h⟩
            simp [this]
          · simp [h1])
        clear ha
        by_cases h1 : 1 ≤ xs.length
        · have i2 : ¬ ((xs.length : Int) < 1) := by omega
          have i3 : ((6 : Int) < (xs.length : Int)) := by omega
          go_wp2
          go_ret2
          exact ⟨by first | rfl | exact absurd HF.out (by decide), rfl⟩
        · have i2 : ((xs.length : Int) < 1) := by omega
          go_wp2
          go_ret2
          exact ⟨by first | rfl | exact absurd HF.out (by decide), rfl⟩
set_option maxRecDepth 100000 in
set_option maxHeartbeats 4000000 in
theorem qhjoin_f (w : World) (A : Option Addr) (c : Nat) (xs : List (List UInt8)) (h : RdK textTy w A xs.length xs) (hn : xs.length ≤ 1000000) (hl : ∀ x ∈ xs, x.length ≤ 10000000) (hP : partsL xs = false) :
    Calls Tryd.prog 16 #[.slice A xs.length c] w fun e w' => e = .returned (.tuple #[.string ⟨#[]⟩, .int .i64 2]) ∧ w' = w := by
  have HA := Lib.hid h
  have QJ := Lib.hid (fun (u : Unit) => qjoin_any w A c xs h hn hl)
  have HP := Lib.hid hP
  have HX := Lib.hid hl
  clear h hP hl
  go_enter Tryd.func16, Tryd.ntmps16
  go_wp2
  go_loopw [4] (fun v4 wr => ∃ k : Nat, k ≤ xs.length ∧ v4 = .int .i64 (k : Int) ∧ Hid ((xs.take k).all (partL 12) = true) ∧ wr = w) (fun v4 _ => xs.length - (RowKit.intOf v4).toNat)
  case atStart => exact ⟨0, Nat.zero_le _, rfl, rfl, rfl⟩
  case round =>
    obtain ⟨k, hk, rfl, HI, rfl⟩ := hrel
    have k1 : IntKind.i64.wrap ((k : Int) + 1) = (k : Int) + 1 := IntWalk.i64_in _ (by omega)
    have i0 : (0 : Int) ≤ (k : Int) := by omega
    by_cases hlt : k < xs.length
    · have i1 : (k : Int) < (xs.length : Int) := by omega
      obtain ⟨g, o, eA, _⟩ := HA.out.line (by omega)
      subst eA
      have ex := List.getElem?_eq_getElem hlt
      have z := textCells HA.out ex
      have HB := Lib.hid (fun h => all_bad (xs := xs) hlt h)
      have HL := Lib.hid (HX.out xs[k] (List.getElem_mem hlt))
      have HT := Lib.hid (List.take_succ_eq_append_getElem hlt)
      generalize xs[k] = x at *
      clear ex
      cases hp : partL 12 x with
      | false =>
        have HQ := Lib.hid (fun w => hp ▸ qpart_any w x (by have := HL.out; omega))
        have HF := Lib.hid (show false = false by rfl)
        clear hp
        go_wp2_with fail
        refine (HQ.out _).mono ?_
        rintro e w3 ⟨rfl, rfl⟩
        go_wp2
        go_ret2
        exact ⟨by first | rfl | exact absurd HF.out (by decide), rfl⟩
      | true =>
        have HQ := Lib.hid (fun w => hp ▸ qpart_any w x (by have := HL.out; omega))
        have HH := Lib.hid hp
        clear hp
        go_wp2_with fail
        refine (HQ.out _).mono ?_
        rintro e w3 ⟨rfl, rfl⟩
        go_wp2
        exact ⟨⟨k + 1, by omega, by simp, Lib.hid (by rw [HT.out, List.all_append, HI.out]; simp [HH.out]), trivial⟩, by simp [RowKit.intOf]; omega⟩
    · obtain rfl : k = xs.length := by omega
      have i1 : ¬ ((xs.length : Int) < (xs.length : Int)) := by omega
      have ha : xs.all (partL 12) = true := by have := HI.out; rwa [List.take_length] at this
      by_cases hz : 1 ≤ xs.length ∧ xs.length ≤ 6
      · have i2 : ¬ ((xs.length : Int) < 1) := by omega
        have i3 : ¬ ((6 : Int) < (xs.length : Int)) := by omega
        have HF := Lib.hid (show false = true by rw [← HP.out]; unfold partsL; rw [ha]; simp [hz.1, hz.2])
        clear ha
        go_wp2_with fail
        refine (QJ.out ()).mono ?_
        rintro e w3 ⟨rfl, rfl⟩
        go_wp2
        go_ret2
        exact ⟨by first | rfl | exact absurd HF.out (by decide), rfl⟩
      · have HF := Lib.hid (show false = false by rfl)
        clear ha
        by_cases h1 : 1 ≤ xs.length
        · have i2 : ¬ ((xs.length : Int) < 1) := by omega
          have i3 : ((6 : Int) < (xs.length : Int)) := by omega
          go_wp2
          go_ret2
          exact ⟨by first | rfl | exact absurd HF.out (by decide), rfl⟩
        · have i2 : ((xs.length : Int) < 1) := by omega
          go_wp2
          go_ret2
          exact ⟨by first | rfl | exact absurd HF.out (by decide), rfl⟩
end Go.Proofs.YtibdeiahmgkbhaaDoor
