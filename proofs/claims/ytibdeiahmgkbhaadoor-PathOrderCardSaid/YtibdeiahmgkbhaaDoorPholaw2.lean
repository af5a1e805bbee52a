/- PathOrder, walked: all cases. -/
import Derived.Test.YtibdeiahmgkbhaaDoorPholaw
namespace Go.Proofs.YtibdeiahmgkbhaaDoor
open Go.RowKit
set_option linter.unusedSimpArgs false
set_option linter.unusedVariables false
set_option maxRecDepth 100000 in
set_option maxHeartbeats 4000000 in
theorem po_long (w : World) (a b c : List UInt8) (h : longT [a, b, c] = true) :
    Calls Tryd.prog 8 #[.string (strOf a), .string (strOf b), .string (strOf c)] w fun e w' => e = .returned (.bool true) ∧ Chg [] w w' := by
  have KN := Lib.hid (fun W => pathKnownR_run W)
  have HL := Lib.hid h
  clear h
  go_enter Tryd.func8, Tryd.ntmps8
  go_wp2_with fail
  refine (KN.out _).mono ?_
  rintro e w1 ⟨rfl, h1⟩
  have K1 := Lib.hid h1
  clear h1
  obtain ⟨w2, hw2, c2, b2⟩ := news1 w1 (.cells #[.string (strOf a), .string (strOf b), .string (strOf c)] 9)
  have W2 := Lib.hid hw2
  have R2 := Lib.hid (OwnK.of (R := textTy) (c := 3) (full := [a, b, c]) (xs := [a, b, c]) b2 (Nat.le_refl _) (by decide) rfl rfl).reads
  have K2 := Lib.hid (K1.out.trans c2)
  have LG2 := Lib.hid (fun W h => long_any W (some ⟨w1.heap.size, 0, none⟩) 3 [a, b, c] h (by simp))
  rw [HL.out] at LG2
  clear hw2 c2 b2
  go_wp2_with fail
  rw [← W2.out]
  refine (LG2.out _ R2.out).mono ?_
  rintro e w3 ⟨rfl, rfl⟩
  go_wp2
  go_ret
  exact ⟨rfl, K2.out⟩
theorem pathorder_walk (w : World) (a b c : List UInt8) :
    Calls Tryd.prog 8 #[.string (strOf a), .string (strOf b), .string (strOf c)] w fun e w' => e = .returned (.bool true) ∧ Chg [] w w' := by
  cases hl : longT [a, b, c] with
  | true => exact po_long w a b c hl
  | false =>
    have hlen : a.length ≤ 200 ∧ b.length ≤ 200 ∧ c.length ≤ 200 := by simp [longT] at hl; omega
    obtain ⟨ha, hb, hc⟩ := hlen
    cases hp : lessL a b with
    | true =>
      have hq := less_not a b hp
      have he : (a == b) = false := by rw [less_eq, hp, hq]; rfl
      cases hr : lessL b c with
      | true =>
        have hs := less_trans a b c hp hr
        cases hv2 : underL a c with
        | true =>
          cases hv : okP b with
          | true => exact po_1 w a b c _ ha hb hc hp hq hr hs (under_mid a b c hp hr hv2 hv) hv2 hv rfl he
          | false =>
            cases hu : underL a b with
            | true => exact po_2 w a b c _ ha hb hc hp hq hr hs hu hv2 hv rfl he
            | false => exact po_3 w a b c _ ha hb hc hp hq hr hs hu hv2 hv rfl he
        | false =>
          cases hu : underL a b with
          | true => exact po_4 w a b c _ ha hb hc hp hq hr hs hu hv2 rfl he
          | false => exact po_5 w a b c _ ha hb hc hp hq hr hs hu hv2 rfl he
      | false =>
        cases hu : underL a b with
        | true => exact po_6 w a b c _ ha hb hc hp hq hr hu rfl he
        | false => exact po_7 w a b c _ ha hb hc hp hq hr hu rfl he
    | false =>
      have hu : underL a b = false := by
        cases h : underL a b with
        | false => rfl
        | true => rw [under_less a b h] at hp; cases hp
      cases hq : lessL b a with
      | true => exact po_8 w a b c _ ha hb hc hp hq hu rfl (by rw [less_eq, hp, hq]; rfl)
      | false => exact po_9 w a b c _ ha hb hc hp hq hu rfl (by rw [less_eq, hp, hq]; rfl)
theorem pathorder_yes (w : World) (s t u : ByteArray) :
    Calls Tryd.prog 8 #[.string s, .string t, .string u] w fun e w' => e = .returned (.bool true) ∧ Chg [] w w' := by
  have := pathorder_walk w s.data.toList t.data.toList u.data.toList
  rwa [strOf_of, strOf_of, strOf_of] at this
end Go.Proofs.YtibdeiahmgkbhaaDoor
