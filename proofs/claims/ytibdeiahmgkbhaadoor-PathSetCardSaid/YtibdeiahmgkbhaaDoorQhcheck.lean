/- The document's Check. -/
import Derived.Test.YtibdeiahmgkbhaaDoorQhcut
namespace Go.Proofs.YtibdeiahmgkbhaaDoor
open Go.RowKit
set_option linter.unusedSimpArgs false
set_option linter.unusedVariables false
theorem cutA_short : ∀ (l acc x : List UInt8), x ∈ cutA acc l → x.length ≤ acc.length + l.length
  | [], acc, x, h => by simp [cutA] at h; subst h; simp
  | b :: l, acc, x, h => by
    unfold cutA at h
    split at h
    · rcases List.mem_cons.1 h with rfl | h
      · omega
      · have := cutA_short l [] x h
        simp at this
        simp
        omega
    · have := cutA_short l _ x h
      simp at this
      simp
      omega
theorem all_bad {xs : List (List UInt8)} {k : Nat} (h : k < xs.length) (hb : partL 12 xs[k] = false) : xs.all (partL 12) = false := by
  rw [List.all_eq_false]
  exact ⟨xs[k], List.getElem_mem h, by simp [hb]⟩
set_option maxRecDepth 100000 in
set_option maxHeartbeats 4000000 in
theorem qcheck_any (w : World) (l : List UInt8) (hlen : l.length ≤ 10000000) :
    Calls Tryd.prog 21 #[.string (strOf l)] w fun e w' => e = .returned (.int .i64 (if checkL 6 12 l then 0 else 2)) ∧ Chg [] w w' := by
  have hne := cutA_ne [] l
  have hxl : ∀ x ∈ cutL l, x.length ≤ 10000000 := fun x hx => by have := cutA_short l [] x hx; simp at this; omega
  have hxs := cutA_len l []
  have hck : checkL 6 12 l = (decide ((cutL l).length ≤ 6) && (cutL l).all (partL 12)) := rfl
  rw [hck]
  rw [show cutA [] l = cutL l from rfl] at hne hxs
  have QC := Lib.hid (fun w => qcut_any w l hlen)
  clear hck
  generalize cutL l = xs at *
  obtain ⟨v, hv⟩ : ∃ v : Int, v = if (decide (xs.length ≤ 6) && xs.all (partL 12)) = true then 0 else 2 := ⟨_, rfl⟩
  rw [← hv]
  have HV := Lib.hid hv
  have HX := Lib.hid hxl
  clear hv hxl
  go_enter Tryd.func21, Tryd.ntmps21
  go_wp2_with fail
  refine (QC.out _).mono ?_
  rintro e w1 ⟨A, c, rfl, own, hA, hc⟩
  have OW := Lib.hid own
  have HC := Lib.hid hc
  clear own hA hc
  by_cases h6 : 6 < xs.length
  · have i6 : (6 : Int) < (xs.length : Int) := by omega
    have i7 : ¬ xs.length ≤ 6 := by omega
    go_wp2
    go_ret
    exact ⟨by rw [HV.out]; simp [i7], HC.out⟩
  · have i6 : ¬ ((6 : Int) < (xs.length : Int)) := by omega
    have i7 : xs.length ≤ 6 := by omega
    go_wp2
    go_loopw [4] (fun v4 wr => ∃ k : Nat, k ≤ xs.length ∧ v4 = .int .i64 (k : Int) ∧ Hid ((xs.take k).all (partL 12) = true) ∧ Hid (Chg [] w1 wr)) (fun v4 _ => xs.length - (RowKit.intOf v4).toNat)
    case atStart => exact ⟨0, Nat.zero_le _, rfl, rfl, Chg.refl _ _⟩
    case round =>
      obtain ⟨k, hk, rfl, HA, HI⟩ := hrel
      by_cases hlt : k < xs.length
      · obtain ⟨g, o, eA, _⟩ := OW.out.reads.line (by omega)
        subst eA
        have ex := List.getElem?_eq_getElem hlt
        have z := textCells (OW.out.reads.chg HI.out (by simp)) ex
        have HB := Lib.hid (fun h => all_bad (xs := xs) hlt h)
        have HL := Lib.hid (HX.out xs[k] (List.getElem_mem hlt))
        have HT := Lib.hid (List.take_succ_eq_append_getElem hlt)
        generalize xs[k] = x at *
        have i0 : (0 : Int) ≤ (k : Int) := by omega
        have i1 : (k : Int) < (xs.length : Int) := by omega
        have k1 : IntKind.i64.wrap ((k : Int) + 1) = (k : Int) + 1 := IntWalk.i64_in _ (by omega)
        clear ex
        cases hp : partL 12 x with
        | false =>
          have HP := Lib.hid (fun w => hp ▸ qpart_any w x (by have := HL.out; omega))
          have HF := Lib.hid (HB.out hp)
          clear hp
          go_wp2_with fail
          refine (HP.out _).mono ?_
          rintro e w3 ⟨rfl, rfl⟩
          go_wp2
          go_ret
          exact ⟨by rw [HV.out, HF.out]; simp, HC.out.trans HI.out⟩
        | true =>
          have HP := Lib.hid (fun w => hp ▸ qpart_any w x (by have := HL.out; omega))
          have HQ := Lib.hid hp
          clear hp
          go_wp2_with fail
          refine (HP.out _).mono ?_
          rintro e w3 ⟨rfl, rfl⟩
          go_wp2
          exact ⟨⟨k + 1, by omega, by simp, Lib.hid (by rw [HT.out, List.all_append, HA.out]; simp [HQ.out]), HI⟩, by simp [RowKit.intOf]; omega⟩
      · obtain rfl : k = xs.length := by omega
        go_wp2
        go_ret
        exact ⟨by have := HA.out; rw [List.take_length] at this; rw [HV.out, this]; simp [i7], HC.out.trans HI.out⟩
end Go.Proofs.YtibdeiahmgkbhaaDoor
