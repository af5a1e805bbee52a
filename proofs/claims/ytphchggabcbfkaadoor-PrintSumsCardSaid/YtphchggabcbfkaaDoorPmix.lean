/- The document's Mix. -/
import Derived.Test.YtphchggabcbfkaaDoorPref
import Derived.Test.YtphchggabcbfkaaDoorQsum
namespace Go.Proofs.YtphchggabcbfkaaDoor
open Go.RowKit
set_option linter.unusedSimpArgs false
set_option linter.unusedVariables false

theorem eight_len (u : Nat) : (eight u).length = 8 := by simp [eight]
theorem eight_more (u e : Nat) (he : e < 8) : (eight u).take (8 - e) = (eight u).take (7 - e) ++ [UInt8.ofNat (u / 2 ^ (8 * e) % 256)] := by
  have hl : 7 - e < (eight u).length := by rw [eight_len]; omega
  rw [show 8 - e = (7 - e) + 1 by omega, List.take_succ_eq_append_getElem hl]
  have : (eight u)[7 - e] = UInt8.ofNat (u / 2 ^ (8 * e) % 256) := by
    simp only [eight, List.getElem_map, List.getElem_range, byteOf]
    rw [show 56 - 8 * (7 - e) = 8 * e by omega]
  rw [this]
theorem flat_len : ∀ us : List Nat, (us.flatMap eight).length = 8 * us.length
  | [] => rfl
  | u :: us => by rw [List.flatMap_cons, List.length_append, eight_len, flat_len us, List.length_cons]; omega
set_option maxRecDepth 100000 in
set_option maxHeartbeats 2000000 in
theorem pmix_any (w : World) (B : Option Addr) (n d : Nat) (us : List Nat) (h : U64s w B n us) (hn : n ≤ 300) :
    Calls Tryd.prog 18 #[.slice B n d] w fun e w' => e = .returned (.int .u64 (fnvS (mixB us) : Int)) ∧ Chg [] w w' := by
  have HU := Lib.hid h
  have HL := Lib.hid h.len
  clear h
  go_enter Tryd.func18, Tryd.ntmps18
  go_wp2
  go_loopw [3, 4] (fun v i wr => ∃ (k : Nat) (A : Option Addr) (c : Nat), k ≤ n ∧ i = .int .i64 k ∧ v = .slice A (8 * k) c ∧ Fresh w wr A c ((us.take k).flatMap eight)) (fun _ i _ => n - (intOf i).toNat)
  case atStart => exact ⟨0, none, 0, by omega, rfl, rfl, OwnB.none_ w, by simp, Chg.refl _ _⟩
  case round =>
    obtain ⟨k, A, c, hk, rfl, rfl, hown, hA, hch⟩ := hrel
    have hlk : ((us.take k).flatMap eight).length = 8 * k := by rw [flat_len, List.length_take, HL.out]; omega
    refine (Decidable.em (k < n)).elim (fun h1 => ?more) (fun h1 => ?done)
    case done =>
      obtain rfl : k = n := by omega
      have ht : us.take k = us := List.take_of_length_le (by rw [HL.out]; omega)
      have hr := hown.reads
      rw [hlk, ht] at hr
      have hs := gsum_any wr A (8 * k) c _ hr (by omega)
      have HS := Lib.hid hs
      have HCh := Lib.hid hch
      clear hown hA hch hr ht hs hlk
      go_wp2_with (go_at_call 12; refine HS.out.mono ?_; rintro e w1 ⟨rfl, rfl⟩)
      go_ret
      exact ⟨rfl, HCh.out⟩
    case more =>
      obtain ⟨u, hu⟩ : ∃ u, us.getD k 0 = u := ⟨_, rfl⟩
      have hstep : (us.take (k + 1)).flatMap eight = (us.take k).flatMap eight ++ eight u := by
        have hkl : k < us.length := by rw [HL.out]; exact h1
        have hg : us[k] = u := by rw [← hu]; simp [List.getD_eq_getElem?_getD, hkl]
        rw [List.take_succ_eq_append_getElem hkl, hg]
        simp only [List.flatMap_append, List.flatMap_cons, List.flatMap_nil, List.append_nil]
      have HSt := Lib.hid hstep
      have HUu := Lib.hid hu
      have HLk := Lib.hid hlk
      clear hstep hu hlk
      generalize (us.take k).flatMap eight = base at *
      have F0 : Fresh w wr A c (base ++ (eight u).take (8 - 8)) := by
        rw [show 8 - 8 = 0 by rfl, List.take_zero, List.append_nil]
        exact ⟨hown, hA, hch⟩
      have HF0 := Lib.hid F0
      clear hown hA hch F0
      obtain ⟨wo, hwo⟩ : ∃ wo, wo = wr := ⟨_, rfl⟩
      subst hwo
      go_wp2
      go_loopw [3, 5] (fun v j wi => ∃ (r : Nat) (A : Option Addr) (c : Nat), r ≤ 8 ∧ j = .int .i64 ((r : Int) - 1) ∧ v = .slice A (8 * k + (8 - r)) c ∧ Fresh w wi A c (base ++ (eight u).take (8 - r))) (fun _ j _ => (intOf j + 1).toNat)
      case atStart => exact ⟨8, A, c, by omega, rfl, rfl, HF0.out⟩
      case round =>
        obtain ⟨r, A1, c1, hr, rfl, rfl, hown, hA, hch⟩ := hrel
        refine (Decidable.em (r = 0)).elim (fun h2 => ?last) (fun h2 => ?byte)
        case last =>
          subst h2
          have HF := Lib.hid (show Fresh w wr A1 c1 (base ++ (eight u).take (8 - 0)) from ⟨hown, hA, hch⟩)
          clear hown hA hch
          go_wp2
          refine ⟨⟨k + 1, A1, c1, by omega, rfl, by rw [show 8 * k + (8 - 0) = 8 * (k + 1) by omega], ?_⟩, by simp [intOf]; omega⟩
          have hf := HF.out
          rw [show 8 - 0 = 8 by rfl, List.take_of_length_le (by rw [eight_len]; exact Nat.le_refl _)] at hf
          rw [HSt.out]
          exact hf
        case byte =>
          obtain ⟨e, rfl⟩ : ∃ e, r = e + 1 := ⟨r - 1, by omega⟩
          rw [show ((e + 1 : Nat) : Int) - 1 = (e : Int) by omega, show 8 - (e + 1) = 7 - e by omega] at *
          have hm := eight_more u e (by omega)
          obtain ⟨g, o, rfl, hcs⟩ := (HU.out.chg hch (by simp)).line (by omega)
          have hck := hcs k h1
          rw [HUu.out] at hck
          have hlen : (base ++ (eight u).take (7 - e)).length = 8 * k + (7 - e) := by rw [List.length_append, HLk.out, List.length_take, eight_len]; omega
          have hby : ((u / 2 ^ (8 * e) % 256 : Nat) : Int) = (u : Int) / 2 ^ (8 * e) % 256 := by simp
          have HM := Lib.hid hm
          have HBy := Lib.hid hby
          have F2 := Lib.hid hA
          clear hm hA hcs hby
          generalize (eight u).take (7 - e) = p at *
          go_wp2_with (at_builtin; refine wpList_app rfl _ _ rfl rfl (hown.chg ((Chg.refl [] wr).alloc _) (by simp)) hlen rfl (Bs.one wr (UInt8.ofNat (u / 2 ^ (8 * e) % 256)) _ (by rw [UInt8.toNat_ofNat', ← HBy.out]; omega)) (by omega) ?_; intro A' c' w1 own1 hg1 hA1)
          refine ⟨⟨e, A', c', by omega, rfl, by rw [show 8 * k + (8 - e) = 8 * k + (7 - e) + 1 by omega], ?_⟩, by simp [intOf]⟩
          rw [HM.out, ← List.append_assoc]
          exact app_fresh own1 F2.out hch hg1 hA1
end Go.Proofs.YtphchggabcbfkaaDoor
