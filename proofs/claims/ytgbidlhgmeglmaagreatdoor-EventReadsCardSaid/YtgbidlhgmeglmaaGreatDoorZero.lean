/- The document's parts. The document's cut. The document's Check. The document's Check of an event. The document's Read of an event. -/
import Derived.Test.YtgbidlhgmeglmaaGreatDoorZerc
import Derived.Deep.QuietTactic
import Derived.BigQuiet
import Derived.Deep.RegionHeld3
import Derived.Test.YtgbidlhgmeglmaaGreatDoorZerd
import Derived.Test.YtgbidlhgmeglmaaGreatDoorZern
import Derived.Test.YtgbidlhgmeglmaaGreatDoorZere
import Derived.Deep.Cut
namespace Go.Proofs.YtgbidlhgmeglmaaGreatDoor
section
open Go.RowKit
set_option linter.unusedSimpArgs false
set_option linter.unusedVariables false
theorem okB_iff (b : UInt8) : okB b = true ↔ (97 ≤ (b.toNat : Int) ∧ (b.toNat : Int) ≤ 122) ∨ (48 ≤ (b.toNat : Int) ∧ (b.toNat : Int) ≤ 57) ∨ (b.toNat : Int) = 46 ∨ (b.toNat : Int) = 95 ∨ (b.toNat : Int) = 45 := by
  have h := foreign_byte b
  have : okB b = !foreignR b.toNat := by rw [h]; simp
  rw [this]
  simp [foreignR]
  omega
theorem okB_not (b : UInt8) : okB b = false ↔ ¬ ((97 ≤ (b.toNat : Int) ∧ (b.toNat : Int) ≤ 122) ∨ (48 ≤ (b.toNat : Int) ∧ (b.toNat : Int) ≤ 57) ∨ (b.toNat : Int) = 46 ∨ (b.toNat : Int) = 95 ∨ (b.toNat : Int) = 45) := by
  rw [← okB_iff]
  simp
theorem part_bad {l : List UInt8} {k : Nat} (h : k < l.length) (hb : okB l[k] = false) : partL 12 l = false := by
  have : l.all okB = false := by
    rw [List.all_eq_false]
    exact ⟨l[k], List.getElem_mem h, by simp [hb]⟩
  simp [partL, this]
theorem strOf_get (l : List UInt8) (k : Nat) (h : k < (strOf l).size) (h' : k < l.length) : (strOf l)[k] = l[k] := by
  show (strOf l).data[k] = l[k]
  simp [strOf]
set_option maxHeartbeats 4000000 in
theorem qpart_any (w : World) (l : List UInt8) (hlen : l.length ≤ 140737488351232) :
    Calls Tryz.prog 116 #[.string (strOf l)] w fun e w' => e = .returned (.bool (partL 12 l)) ∧ w' = w := by
  have hs := strOf_size l
  go_enter Tryz.func116, Tryz.ntmps116
  go_wp2
  go_loopw [3, 4] (fun v3 v4 wr => ∃ k : Nat, k ≤ l.length ∧ v3 = .int .i64 (k : Int) ∧ (l.take k).all okB = true ∧ wr = w) (fun v3 _ _ => l.length - (RowKit.intOf v3).toNat)
  case atStart => exact ⟨0, Nat.zero_le _, rfl, rfl, rfl⟩
  case round =>
    obtain ⟨k, hk, rfl, hall, rfl⟩ := hrel
    by_cases hlt : k < l.length
    · have ex := List.getElem?_eq_getElem hlt
      have i0 : (0 : Int) ≤ (k : Int) := by omega
      have i1 : (k : Int) < ((strOf l).size : Int) := by omega
      have hb := strOf_get l k (by omega) hlt
      have HB := Lib.hid hb
      have HA := Lib.hid hall
      clear hb hall ex
      go_wp2
      all_goals (try simp only [bne_iff_ne, ne_eq, bne_eq_false_iff_eq] at *)
      all_goals first
        | (go_ret; exact ⟨by rw [part_bad hlt (by rw [← HB.out, okB_not]; omega)]; rfl, rfl⟩)
        | (refine ⟨⟨k + 1, by omega, by simp, ?_, trivial⟩, by simp [RowKit.intOf]; omega⟩
           have ho : okB l[k] = true := by rw [← HB.out, okB_iff]; omega
           rw [List.take_succ_eq_append_getElem hlt, List.all_append, HA.out]
           simp [ho])
    · obtain rfl : k = l.length := by omega
      rw [List.take_length] at hall
      have HA := Lib.hid hall
      clear hall
      go_wp2
      all_goals (try simp only [bne_iff_ne, ne_eq, bne_eq_false_iff_eq] at *)
      all_goals
        go_ret
        refine ⟨congrArg (fun b => Ending.returned (Value.bool b)) ?_, rfl⟩
        rw [Bool.eq_iff_iff]
        simp [partL, HA.out]
      all_goals first
        | (intros; omega)
        | (intro a b c; exact absurd (by assumption) c)
end
section
open Go.RowKit
set_option linter.unusedSimpArgs false
set_option linter.unusedVariables false
theorem own_app {w w6 w7 : World} {B A2 : Option Addr} (hB : ∀ a, B = some a → w.heap.size ≤ a.block) (hC : Chg [] w w6) (d2 : w6.grownBy w7 (B.map (·.block))) (e2 : A2 = B ∨ A2 = some ⟨w6.heap.size, 0, none⟩) : (∀ a, A2 = some a → w.heap.size ≤ a.block) ∧ Chg [] w w7 := by
  refine ⟨?_, hC.grown d2 (fun i hi => ?_)⟩
  · rcases e2 with rfl | rfl
    · exact hB
    · rintro a ⟨⟩; exact hC.size
  · cases B with
    | none => simp at hi
    | some a => simp at hi; subst hi; exact .inr (hB a rfl)
/-- A loop that goes through a text, with the piece under way between from and i. -/
theorem cut_mid (l : List UInt8) (fr i : Nat) (hi : i < l.length) (hfi : fr ≤ i) :
    cutA ((l.drop fr).take (i - fr)) (l.drop i) = if l[i] = 47 then (l.drop fr).take (i - fr) :: cutA ((l.drop (i + 1)).take 0) (l.drop (i + 1)) else cutA ((l.drop fr).take (i + 1 - fr)) (l.drop (i + 1)) := by
  rw [List.drop_eq_getElem_cons hi, cutA]
  split
  · simp
  · congr 1
    rw [show i + 1 - fr = (i - fr) + 1 by omega, List.take_succ_eq_append_getElem (by simp; omega)]
    congr 2
    rw [List.getElem_drop]
    congr 1
    omega
set_option maxRecDepth 100000 in
set_option maxHeartbeats 4000000 in
theorem qcut_any (w : World) (l : List UInt8) (hlen : l.length ≤ 10000000) :
    Calls Tryz.prog 115 #[.string (strOf l)] w fun e w' => ∃ A c, e = .returned (.slice A (cutL l).length c) ∧ OwnK textTy w' A c (cutL l) ∧ (∀ a, A = some a → w.heap.size ≤ a.block) ∧ Chg [] w w' := by
  have hs := strOf_size l
  go_enter Tryz.func115, Tryz.ntmps115
  go_wp2
  go_loopw [3, 4, 5] (fun v3 v4 v5 wr => ∃ (i fr : Nat) (out : List (List UInt8)) (B : Option Addr) (c : Nat), i ≤ l.length ∧ fr ≤ i ∧ v3 = .slice B out.length c ∧ v4 = .int .i64 (fr : Int) ∧ v5 = .int .i64 (i : Int) ∧ Hid (out ++ cutA ((l.drop fr).take (i - fr)) (l.drop i) = cutL l ∧ out.length ≤ i) ∧ Hid (OwnK textTy wr B c out ∧ (∀ a, B = some a → w.heap.size ≤ a.block) ∧ Chg [] w wr)) (fun _ _ v5 _ => l.length - (RowKit.intOf v5).toNat)
  case atStart => exact ⟨0, 0, [], none, 0, Nat.zero_le _, Nat.le_refl _, rfl, rfl, rfl, ⟨rfl, Nat.le_refl _⟩, OwnK.none_ _, by simp, Chg.refl _ _⟩
  case round =>
    obtain ⟨i, fr, out, B, c, hi, hfi, rfl, rfl, rfl, HC, HI⟩ := hrel
    by_cases hlt : i < l.length
    · have hm := cut_mid l fr i hlt hfi
      have hb := strOf_get l i (by omega) hlt
      have i0 : (0 : Int) ≤ (i : Int) := by omega
      have i1 : (i : Int) < ((strOf l).size : Int) := by omega
      have k1 : IntKind.i64.wrap ((i : Int) + 1) = (i : Int) + 1 := IntWalk.i64_in _ (by omega)
      by_cases h47 : l[i] = 47
      · rw [if_pos h47] at hm
        have HM := Lib.hid hm
        have hb2 : (((strOf l)[i].toNat : Int) == 47) = true := by rw [hb, h47]; rfl
        clear hm h47 hb
        have i2 : (fr : Int) ≤ (i : Int) := by omega
        have i3 : (i : Int) ≤ ((strOf l).size : Int) := by omega
        have i4 : (0 : Int) ≤ (fr : Int) := by omega
        have i5 : i ≤ (strOf l).size := by omega
        have ee : (strOf l).extract fr i = strOf ((l.drop fr).take (i - fr)) := strOf_ext l fr i
        generalize (l.drop fr).take (i - fr) = p at *
        obtain ⟨w5, hw5, c5, b5⟩ := news1 wr (.cells #[.string (strOf p)] 9)
        have W5 := Lib.hid hw5
        have R5 := Lib.hid (OwnK.of (R := textTy) (c := 1) (full := [p]) (xs := [p]) b5 (Nat.le_refl _) (by decide) rfl rfl).reads
        have O5 := Lib.hid (HI.out.1.chg c5 (by simp))
        have BND := Lib.hid (show (out.length + 1) * 400 ≤ 140737488355327 by have := HC.out.2; omega)
        have C5 := Lib.hid (HI.out.2.2.trans c5)
        clear hw5 c5 b5
        go_wp2_with (at_builtin; rw [← W5.out]; refine wpList_appK (R := textTy) rfl _ _ rfl rfl O5.out rfl rfl R5.out BND.out ?_; intro A2 c2 w7 u2 d2 e2)
        have AO := own_app (w := w) HI.out.2.1 C5.out d2 e2
        refine ⟨⟨i + 1, i + 1, out ++ [p], A2, c2, by omega, Nat.le_refl _, by simp, by simp, by simp, ⟨?_, ?_⟩, ⟨u2, AO.1, AO.2⟩⟩, by simp [RowKit.intOf]; omega⟩
        · rw [← HC.out.1, HM.out, Nat.sub_self]
          simp
        · have := HC.out.2
          simp
          omega
      · rw [if_neg h47] at hm
        have HM := Lib.hid hm
        have hb2 : (((strOf l)[i].toNat : Int) == 47) = false := by
          rw [hb, beq_eq_false_iff_ne]
          intro e
          have : l[i].toNat = (47 : UInt8).toNat := by rw [show (47 : UInt8).toNat = 47 from rfl]; omega
          exact h47 (UInt8.toNat_inj.1 this)
        clear hm h47 hb
        go_wp2
        exact ⟨⟨i + 1, fr, out, B, c, by omega, by omega, rfl, rfl, by simp, ⟨by rw [← HC.out.1, HM.out], by have := HC.out.2; omega⟩, HI⟩, by simp [RowKit.intOf]; omega⟩
    · obtain rfl : i = l.length := by omega
      have hp : (l.drop fr).take (l.length - fr) = l.drop fr := List.take_of_length_le (by simp)
      have hc := HC.out.1
      rw [hp, List.drop_length, cutA] at hc
      have i2 : (fr : Int) ≤ ((strOf l).size : Int) := by omega
      have i4 : (0 : Int) ≤ (fr : Int) := by omega
      have i5 : fr ≤ (strOf l).size := by omega
      have ee : (strOf l).extract fr (strOf l).size = strOf (l.drop fr) := by rw [strOf_ext, hs, hp]
      rw [hs] at ee
      generalize l.drop fr = p at *
      obtain ⟨w5, hw5, c5, b5⟩ := news1 wr (.cells #[.string (strOf p)] 9)
      have W5 := Lib.hid hw5
      have R5 := Lib.hid (OwnK.of (R := textTy) (c := 1) (full := [p]) (xs := [p]) b5 (Nat.le_refl _) (by decide) rfl rfl).reads
      have O5 := Lib.hid (HI.out.1.chg c5 (by simp))
      have BND := Lib.hid (show (out.length + 1) * 400 ≤ 140737488355327 by have := HC.out.2; omega)
      have C5 := Lib.hid (HI.out.2.2.trans c5)
      have HC2 := Lib.hid hc
      clear hw5 c5 b5 hc hp HC
      go_wp2_with (at_builtin; rw [← W5.out]; refine wpList_appK (R := textTy) rfl _ _ rfl rfl O5.out rfl rfl R5.out BND.out ?_; intro A2 c2 w7 u2 d2 e2)
      go_ret
      have AO := own_app (w := w) HI.out.2.1 C5.out d2 e2
      exact ⟨A2, c2, by rw [← HC2.out]; simp, by rw [← HC2.out]; exact u2, AO.1, AO.2⟩
end
section
open Go.RowKit
set_option linter.unusedSimpArgs false
set_option linter.unusedVariables false
theorem cutA_short : ∀ (l acc x : List UInt8), x ∈ cutA acc l → x.length ≤ acc.length + l.length
  | [], acc, x, h => by simp [cutA] at h; subst h; simp
  | b :: l, acc, x, h => by
    unfold cutA at h
    split at h
    · rcases List.mem_cons.1 h with rfl | h
      · omega
      · have := cutA_short l [] x h
        simp at this
        simp
        omega
    · have := cutA_short l _ x h
      simp at this
      simp
      omega
theorem all_bad {xs : List (List UInt8)} {k : Nat} (h : k < xs.length) (hb : partL 12 xs[k] = false) : xs.all (partL 12) = false := by
  rw [List.all_eq_false]
  exact ⟨xs[k], List.getElem_mem h, by simp [hb]⟩
set_option maxRecDepth 100000 in
set_option maxHeartbeats 4000000 in
theorem qcheck_any (w : World) (l : List UInt8) (hlen : l.length ≤ 10000000) :
    Calls Tryz.prog 64 #[.string (strOf l)] w fun e w' => e = .returned (.int .i64 (if checkL 6 12 l then 0 else 2)) ∧ Chg [] w w' := by
  have hne := cutA_ne [] l
  have hxl : ∀ x ∈ cutL l, x.length ≤ 10000000 := fun x hx => by have := cutA_short l [] x hx; simp at this; omega
  have hxs := cutA_len l []
  have hck : checkL 6 12 l = (decide ((cutL l).length ≤ 6) && (cutL l).all (partL 12)) := rfl
  rw [hck]
  rw [show cutA [] l = cutL l from rfl] at hne hxs
  have QC := Lib.hid (fun w => qcut_any w l hlen)
  clear hck
  generalize cutL l = xs at *
  obtain ⟨v, hv⟩ : ∃ v : Int, v = if (decide (xs.length ≤ 6) && xs.all (partL 12)) = true then 0 else 2 := ⟨_, rfl⟩
  rw [← hv]
  have HV := Lib.hid hv
  have HX := Lib.hid hxl
  clear hv hxl
  go_enter Tryz.func64, Tryz.ntmps64
  go_wp2_with fail
  refine (QC.out _).mono ?_
  rintro e w1 ⟨A, c, rfl, own, hA, hc⟩
  have OW := Lib.hid own
  have HC := Lib.hid hc
  clear own hA hc
  by_cases h6 : 6 < xs.length
  · have i6 : (6 : Int) < (xs.length : Int) := by omega
    have i7 : ¬ xs.length ≤ 6 := by omega
    go_wp2
    go_ret
    exact ⟨by rw [HV.out]; simp [i7], HC.out⟩
  · have i6 : ¬ ((6 : Int) < (xs.length : Int)) := by omega
    have i7 : xs.length ≤ 6 := by omega
    go_wp2
    go_loopw [4] (fun v4 wr => ∃ k : Nat, k ≤ xs.length ∧ v4 = .int .i64 (k : Int) ∧ Hid ((xs.take k).all (partL 12) = true) ∧ Hid (Chg [] w1 wr)) (fun v4 _ => xs.length - (RowKit.intOf v4).toNat)
    case atStart => exact ⟨0, Nat.zero_le _, rfl, rfl, Chg.refl _ _⟩
    case round =>
      obtain ⟨k, hk, rfl, HA, HI⟩ := hrel
      by_cases hlt : k < xs.length
      · obtain ⟨g, o, eA, _⟩ := OW.out.reads.line (by omega)
        subst eA
        have ex := List.getElem?_eq_getElem hlt
        have z := textCells (OW.out.reads.chg HI.out (by simp)) ex
        have HB := Lib.hid (fun h => all_bad (xs := xs) hlt h)
        have HL := Lib.hid (HX.out xs[k] (List.getElem_mem hlt))
        have HT := Lib.hid (List.take_succ_eq_append_getElem hlt)
        generalize xs[k] = x at *
        have i0 : (0 : Int) ≤ (k : Int) := by omega
        have i1 : (k : Int) < (xs.length : Int) := by omega
        have k1 : IntKind.i64.wrap ((k : Int) + 1) = (k : Int) + 1 := IntWalk.i64_in _ (by omega)
        clear ex
        cases hp : partL 12 x with
        | false =>
          have HP := Lib.hid (fun w => hp ▸ qpart_any w x (by have := HL.out; omega))
          have HF := Lib.hid (HB.out hp)
          clear hp
          go_wp2_with fail
          refine (HP.out _).mono ?_
          rintro e w3 ⟨rfl, rfl⟩
          go_wp2
          go_ret
          exact ⟨by rw [HV.out, HF.out]; simp, HC.out.trans HI.out⟩
        | true =>
          have HP := Lib.hid (fun w => hp ▸ qpart_any w x (by have := HL.out; omega))
          have HQ := Lib.hid hp
          clear hp
          go_wp2_with fail
          refine (HP.out _).mono ?_
          rintro e w3 ⟨rfl, rfl⟩
          go_wp2
          exact ⟨⟨k + 1, by omega, by simp, Lib.hid (by rw [HT.out, List.all_append, HA.out]; simp [HQ.out]), HI⟩, by simp [RowKit.intOf]; omega⟩
      · obtain rfl : k = xs.length := by omega
        go_wp2
        go_ret
        exact ⟨by have := HA.out; rw [List.take_length] at this; rw [HV.out, this]; simp [i7], HC.out.trans HI.out⟩
end
section
open Go.RowKit Go.Lib
set_option linter.unusedSimpArgs false
set_option linter.unusedVariables false


set_option maxRecDepth 100000 in
set_option maxHeartbeats 8000000 in
theorem vecheck_0 (w : World) (x : EvT) (e : EvP) (h : EvR w x e) (hs : EvSm e) (hk : ∀ i, i < 0 → evOk e i) (hn : ¬ evOk e 0) :
    Calls Tryz.prog 15 #[.agg #[.int .i64 x.n, .int .i64 x.s, .string x.p, .int .i64 x.k, .int .i64 x.m, .slice x.A x.l x.c, .slice x.B x.bl x.bc]] w fun r w' => r = .returned (.int .i64 2) ∧ Chg [] w w' := by
  obtain ⟨w1, hw1, c1, b1⟩ := news1 w (.cells #[.int .i64 x.n, .int .i64 x.s, .string x.p, .int .i64 x.k, .int .i64 x.m, .slice x.A x.l x.c, .slice x.B x.bl x.bc] 29)
  have W1 := Lib.hid hw1
  have HR := Lib.hid (h.chg c1)
  have C := Lib.hid c1
  have HS := Lib.hid hs
  have k0 : Hid (¬ evOk e 0) := Lib.hid hn
  have hxn := h.n
  have hxs := h.s
  have hxp := h.p
  have hxk := h.k
  have hxm := h.m
  have hxl := h.l
  have hxbl := h.bl
  rw [hxn, hxs, hxp, hxk, hxm, hxl, hxbl] at b1 W1
  rw [hxn, hxs, hxp, hxk, hxm, hxl, hxbl]
  clear hxn hxs hxp hxk hxm hxl hxbl
  have z0 := cell_of b1 0
  have z1 := cell_of b1 1
  have z2 := cell_of b1 2
  have z3 := cell_of b1 3
  have z4 := cell_of b1 4
  have z5 := cell_of b1 5
  have z6 := cell_of b1 6
  simp only [List.getElem?_toArray, List.getElem?_cons_succ, List.getElem?_cons_zero] at z0 z1 z2 z3 z4 z5 z6
  clear hw1 c1 h hs hk hn b1
  go_enter Tryz.func15, Tryz.ntmps15
  go_upto_region 1 with fail
  rw [← W1.out]
  generalize w.heap.size = g0 at *
  refine wp_region_held_drew (S := fun w' => w'.cell? ⟨g0, 0, none⟩ = some (.int .i64 e.n) ∧ w'.cell? ⟨g0, 1, none⟩ = some (.int .i64 e.s) ∧ w'.cell? ⟨g0, 2, none⟩ = some (.string (strOf e.p)) ∧ w'.cell? ⟨g0, 3, none⟩ = some (.int .i64 e.k) ∧ w'.cell? ⟨g0, 4, none⟩ = some (.int .i64 e.m) ∧ w'.cell? ⟨g0, 5, none⟩ = some (.slice x.A e.b.length x.c) ∧ w'.cell? ⟨g0, 6, none⟩ = some (.slice x.B e.q.length x.bc)) (by kernel_rfl) ⟨z0, z1, z2, z3, z4, z5, z6⟩ (fun hHeld => ?_)
  have CC : Hid (Chg [] w1 w1.drew) := Lib.hid (Chg.refl [] w1).drew
  have DX : Hid (∀ w', Chg [] w1 w' → w'.cell? ⟨g0, 0, none⟩ = some (.int .i64 e.n) ∧ w'.cell? ⟨g0, 1, none⟩ = some (.int .i64 e.s) ∧ w'.cell? ⟨g0, 2, none⟩ = some (.string (strOf e.p)) ∧ w'.cell? ⟨g0, 3, none⟩ = some (.int .i64 e.k) ∧ w'.cell? ⟨g0, 4, none⟩ = some (.int .i64 e.m) ∧ w'.cell? ⟨g0, 5, none⟩ = some (.slice x.A e.b.length x.c) ∧ w'.cell? ⟨g0, 6, none⟩ = some (.slice x.B e.q.length x.bc)) := Lib.hid (fun w' hc => ⟨hc.cell z0 (by simp), hc.cell z1 (by simp), hc.cell z2 (by simp), hc.cell z3 (by simp), hc.cell z4 (by simp), hc.cell z5 (by simp), hc.cell z6 (by simp)⟩)
  clear z0 z1 z2 z3 z4 z5 z6 hHeld W1
  generalize w1.drew = wc at *
  refine sy 0 3 rfl rfl ?_ (hS := (DX.out _ CC.out))
  try simp only [Act.put, sA, s0, s1]
  refine sy 1 4 rfl rfl ?_ (hS := (DX.out _ CC.out)) (hy := by (intro w hSw; (try dsimp only at hSw); obtain ⟨q0, q1, q2, q3, q4, q5, q6⟩ := hSw; go_simp; try with_reducible rfl))
  try simp only [Act.put, sA, s0, s1]
  refine wpAnyH_ready (rs := [2]) (by kernel_rfl) (by simp) ?_
  refine AllReadyH.cons rfl (fun K hK => ?_) AllReadyH.nil
  replace hK := Lib.hid hK
  go_simp
  refine (hcheck_dot wc e.n e.s).mono ?_
  rintro r wc ⟨rfl, hc⟩
  rw [chk_dot, if_neg (show ¬ FineQ e.n e.s from fun q => k0.out (chkD_fine q))]
  replace CC := Lib.hid (CC.out.trans hc)
  clear hc
  refine hK.out _ _ (DX.out _ CC.out) (fun hHeld => ?_)
  clear hK K
  try simp only [Act.put, sA, s0, s1]
  refine sy 3 6 rfl rfl ?_ (hS := (DX.out _ CC.out))
  try simp only [Act.put, sA, s0, s1]
  refine sy 4 7 rfl rfl ?_ (hS := (DX.out _ CC.out))
  try simp only [Act.put, sA, s0, s1]
  refine sn 5 8 rfl rfl ?_ (hS := (DX.out _ CC.out))
  try simp only [Act.put, sA, s0, s1]
  refine sn 6 9 rfl rfl ?_ (hS := (DX.out _ CC.out))
  try simp only [Act.put, sA, s0, s1]
  refine sn 7 10 rfl rfl ?_ (hS := (DX.out _ CC.out))
  try simp only [Act.put, sA, s0, s1]
  refine sn 8 11 rfl rfl ?_ (hS := (DX.out _ CC.out))
  try simp only [Act.put, sA, s0, s1]
  refine sy 9 12 rfl rfl ?_ (hS := (DX.out _ CC.out))
  try simp only [Act.put, sA, s0, s1]
  refine sy 10 13 rfl rfl ?_ (hS := (DX.out _ CC.out))
  try simp only [Act.put, sA, s0, s1]
  refine sn 11 14 rfl rfl ?_ (hS := (DX.out _ CC.out))
  try simp only [Act.put, sA, s0, s1]
  refine sn 12 15 rfl rfl ?_ (hS := (DX.out _ CC.out))
  try simp only [Act.put, sA, s0, s1]
  refine sn 13 16 rfl rfl ?_ (hS := (DX.out _ CC.out))
  try simp only [Act.put, sA, s0, s1]
  refine sn 14 17 rfl rfl ?_ (hS := (DX.out _ CC.out))
  try simp only [Act.put, sA, s0, s1]
  refine sy 15 18 rfl rfl ?_ (hS := (DX.out _ CC.out))
  try simp only [Act.put, sA, s0, s1]
  refine sy 16 19 rfl rfl ?_ (hS := (DX.out _ CC.out))
  try simp only [Act.put, sA, s0, s1]
  refine sn 17 20 rfl rfl ?_ (hS := (DX.out _ CC.out))
  try simp only [Act.put, sA, s0, s1]
  refine sn 18 21 rfl rfl ?_ (hS := (DX.out _ CC.out))
  try simp only [Act.put, sA, s0, s1]
  refine sn 19 22 rfl rfl ?_ (hS := (DX.out _ CC.out))
  try simp only [Act.put, sA, s0, s1]
  refine sn 20 23 rfl rfl ?_ (hS := (DX.out _ CC.out))
  try simp only [Act.put, sA, s0, s1]
  refine sy 21 24 rfl rfl ?_ (hS := (DX.out _ CC.out))
  try simp only [Act.put, sA, s0, s1]
  refine sy 22 25 rfl rfl ?_ (hS := (DX.out _ CC.out))
  try simp only [Act.put, sA, s0, s1]
  refine sn 23 26 rfl rfl ?_ (hS := (DX.out _ CC.out))
  try simp only [Act.put, sA, s0, s1]
  refine sn 24 27 rfl rfl ?_ (hS := (DX.out _ CC.out))
  try simp only [Act.put, sA, s0, s1]
  refine sn 25 28 rfl rfl ?_ (hS := (DX.out _ CC.out))
  try simp only [Act.put, sA, s0, s1]
  refine sn 26 29 rfl rfl ?_ (hS := (DX.out _ CC.out))
  try simp only [Act.put, sA, s0, s1]
  refine sn 27 30 rfl rfl ?_ (hS := (DX.out _ CC.out))
  try simp only [Act.put, sA, s0, s1]
  refine sn 28 31 rfl rfl ?_ (hS := (DX.out _ CC.out))
  try simp only [Act.put, sA, s0, s1]
  refine sn 29 32 rfl rfl ?_ (hS := (DX.out _ CC.out))
  try simp only [Act.put, sA, s0, s1]
  refine sn 30 33 rfl rfl ?_ (hS := (DX.out _ CC.out))
  try simp only [Act.put, sA, s0, s1]
  refine sn 31 34 rfl rfl ?_ (hS := (DX.out _ CC.out))
  try simp only [Act.put, sA, s0, s1]
  refine sn 32 35 rfl rfl ?_ (hS := (DX.out _ CC.out))
  try simp only [Act.put, sA, s0, s1]
  refine sy 33 36 rfl rfl ?_ (hS := (DX.out _ CC.out))
  try simp only [Act.put, sA, s0, s1]
  refine wpAnyH_done (by kernel_rfl) ?_ _
  clear hHeld
  go_wp2
  go_ret
  exact ⟨rfl, C.out.trans CC.out⟩

set_option maxRecDepth 100000 in
set_option maxHeartbeats 8000000 in
theorem vecheck_1 (w : World) (x : EvT) (e : EvP) (h : EvR w x e) (hs : EvSm e) (hk : ∀ i, i < 1 → evOk e i) (hn : ¬ evOk e 1) :
    Calls Tryz.prog 15 #[.agg #[.int .i64 x.n, .int .i64 x.s, .string x.p, .int .i64 x.k, .int .i64 x.m, .slice x.A x.l x.c, .slice x.B x.bl x.bc]] w fun r w' => r = .returned (.int .i64 2) ∧ Chg [] w w' := by
  obtain ⟨w1, hw1, c1, b1⟩ := news1 w (.cells #[.int .i64 x.n, .int .i64 x.s, .string x.p, .int .i64 x.k, .int .i64 x.m, .slice x.A x.l x.c, .slice x.B x.bl x.bc] 29)
  have W1 := Lib.hid hw1
  have HR := Lib.hid (h.chg c1)
  have C := Lib.hid c1
  have HS := Lib.hid hs
  have k0 : Hid (evOk e 0) := Lib.hid (hk 0 (by omega))
  have k1 : Hid (¬ evOk e 1) := Lib.hid hn
  have hxn := h.n
  have hxs := h.s
  have hxp := h.p
  have hxk := h.k
  have hxm := h.m
  have hxl := h.l
  have hxbl := h.bl
  rw [hxn, hxs, hxp, hxk, hxm, hxl, hxbl] at b1 W1
  rw [hxn, hxs, hxp, hxk, hxm, hxl, hxbl]
  clear hxn hxs hxp hxk hxm hxl hxbl
  have z0 := cell_of b1 0
  have z1 := cell_of b1 1
  have z2 := cell_of b1 2
  have z3 := cell_of b1 3
  have z4 := cell_of b1 4
  have z5 := cell_of b1 5
  have z6 := cell_of b1 6
  simp only [List.getElem?_toArray, List.getElem?_cons_succ, List.getElem?_cons_zero] at z0 z1 z2 z3 z4 z5 z6
  clear hw1 c1 h hs hk hn b1
  go_enter Tryz.func15, Tryz.ntmps15
  go_upto_region 1 with fail
  rw [← W1.out]
  generalize w.heap.size = g0 at *
  refine wp_region_held_drew (S := fun w' => w'.cell? ⟨g0, 0, none⟩ = some (.int .i64 e.n) ∧ w'.cell? ⟨g0, 1, none⟩ = some (.int .i64 e.s) ∧ w'.cell? ⟨g0, 2, none⟩ = some (.string (strOf e.p)) ∧ w'.cell? ⟨g0, 3, none⟩ = some (.int .i64 e.k) ∧ w'.cell? ⟨g0, 4, none⟩ = some (.int .i64 e.m) ∧ w'.cell? ⟨g0, 5, none⟩ = some (.slice x.A e.b.length x.c) ∧ w'.cell? ⟨g0, 6, none⟩ = some (.slice x.B e.q.length x.bc)) (by kernel_rfl) ⟨z0, z1, z2, z3, z4, z5, z6⟩ (fun hHeld => ?_)
  have CC : Hid (Chg [] w1 w1.drew) := Lib.hid (Chg.refl [] w1).drew
  have DX : Hid (∀ w', Chg [] w1 w' → w'.cell? ⟨g0, 0, none⟩ = some (.int .i64 e.n) ∧ w'.cell? ⟨g0, 1, none⟩ = some (.int .i64 e.s) ∧ w'.cell? ⟨g0, 2, none⟩ = some (.string (strOf e.p)) ∧ w'.cell? ⟨g0, 3, none⟩ = some (.int .i64 e.k) ∧ w'.cell? ⟨g0, 4, none⟩ = some (.int .i64 e.m) ∧ w'.cell? ⟨g0, 5, none⟩ = some (.slice x.A e.b.length x.c) ∧ w'.cell? ⟨g0, 6, none⟩ = some (.slice x.B e.q.length x.bc)) := Lib.hid (fun w' hc => ⟨hc.cell z0 (by simp), hc.cell z1 (by simp), hc.cell z2 (by simp), hc.cell z3 (by simp), hc.cell z4 (by simp), hc.cell z5 (by simp), hc.cell z6 (by simp)⟩)
  clear z0 z1 z2 z3 z4 z5 z6 hHeld W1
  generalize w1.drew = wc at *
  refine sy 0 3 rfl rfl ?_ (hS := (DX.out _ CC.out))
  try simp only [Act.put, sA, s0, s1]
  refine sy 1 4 rfl rfl ?_ (hS := (DX.out _ CC.out)) (hy := by (intro w hSw; (try dsimp only at hSw); obtain ⟨q0, q1, q2, q3, q4, q5, q6⟩ := hSw; go_simp; try with_reducible rfl))
  try simp only [Act.put, sA, s0, s1]
  refine wpAnyH_ready (rs := [2]) (by kernel_rfl) (by simp) ?_
  refine AllReadyH.cons rfl (fun K hK => ?_) AllReadyH.nil
  replace hK := Lib.hid hK
  go_simp
  refine (hcheck_dot wc e.n e.s).mono ?_
  rintro r wc ⟨rfl, hc⟩
  rw [chk_dot, if_pos (show FineQ e.n e.s from Decidable.byContradiction (fun q => absurd k0.out (by show ¬ chkD e.n e.s = 0; rw [chkD_odd q]; decide)))]
  replace CC := Lib.hid (CC.out.trans hc)
  clear hc
  refine hK.out _ _ (DX.out _ CC.out) (fun hHeld => ?_)
  clear hK K
  try simp only [Act.put, sA, s0, s1]
  refine sy 3 6 rfl rfl ?_ (hS := (DX.out _ CC.out))
  try simp only [Act.put, sA, s0, s1]
  refine sy 4 7 rfl rfl ?_ (hS := (DX.out _ CC.out))
  try simp only [Act.put, sA, s0, s1]
  refine sy 5 8 rfl rfl ?_ (hS := (DX.out _ CC.out))
  try simp only [Act.put, sA, s0, s1]
  refine sy 6 9 rfl rfl ?_ (hS := (DX.out _ CC.out)) (hy := by (intro w hSw; (try dsimp only at hSw); obtain ⟨q0, q1, q2, q3, q4, q5, q6⟩ := hSw; go_simp; try with_reducible rfl))
  try simp only [Act.put, sA, s0, s1]
  refine wpAnyH_ready (rs := [7]) (by kernel_rfl) (by simp) ?_
  refine AllReadyH.cons rfl (fun K hK => ?_) AllReadyH.nil
  replace hK := Lib.hid hK
  go_simp
  refine (qcheck_any wc e.p HS.out.1).mono ?_
  rintro r wc ⟨rfl, hc⟩
  rw [if_neg (show ¬ checkL 6 12 e.p = true from k1.out)]
  replace CC := Lib.hid (CC.out.trans hc)
  clear hc
  refine hK.out _ _ (DX.out _ CC.out) (fun hHeld => ?_)
  clear hK K
  try simp only [Act.put, sA, s0, s1]
  refine sy 8 11 rfl rfl ?_ (hS := (DX.out _ CC.out))
  try simp only [Act.put, sA, s0, s1]
  refine sy 9 12 rfl rfl ?_ (hS := (DX.out _ CC.out))
  try simp only [Act.put, sA, s0, s1]
  refine sy 10 13 rfl rfl ?_ (hS := (DX.out _ CC.out))
  try simp only [Act.put, sA, s0, s1]
  refine sn 11 14 rfl rfl ?_ (hS := (DX.out _ CC.out))
  try simp only [Act.put, sA, s0, s1]
  refine sn 12 15 rfl rfl ?_ (hS := (DX.out _ CC.out))
  try simp only [Act.put, sA, s0, s1]
  refine sn 13 16 rfl rfl ?_ (hS := (DX.out _ CC.out))
  try simp only [Act.put, sA, s0, s1]
  refine sn 14 17 rfl rfl ?_ (hS := (DX.out _ CC.out))
  try simp only [Act.put, sA, s0, s1]
  refine sy 15 18 rfl rfl ?_ (hS := (DX.out _ CC.out))
  try simp only [Act.put, sA, s0, s1]
  refine sy 16 19 rfl rfl ?_ (hS := (DX.out _ CC.out))
  try simp only [Act.put, sA, s0, s1]
  refine sn 17 20 rfl rfl ?_ (hS := (DX.out _ CC.out))
  try simp only [Act.put, sA, s0, s1]
  refine sn 18 21 rfl rfl ?_ (hS := (DX.out _ CC.out))
  try simp only [Act.put, sA, s0, s1]
  refine sn 19 22 rfl rfl ?_ (hS := (DX.out _ CC.out))
  try simp only [Act.put, sA, s0, s1]
  refine sn 20 23 rfl rfl ?_ (hS := (DX.out _ CC.out))
  try simp only [Act.put, sA, s0, s1]
  refine sy 21 24 rfl rfl ?_ (hS := (DX.out _ CC.out))
  try simp only [Act.put, sA, s0, s1]
  refine sy 22 25 rfl rfl ?_ (hS := (DX.out _ CC.out))
  try simp only [Act.put, sA, s0, s1]
  refine sn 23 26 rfl rfl ?_ (hS := (DX.out _ CC.out))
  try simp only [Act.put, sA, s0, s1]
  refine sn 24 27 rfl rfl ?_ (hS := (DX.out _ CC.out))
  try simp only [Act.put, sA, s0, s1]
  refine sn 25 28 rfl rfl ?_ (hS := (DX.out _ CC.out))
  try simp only [Act.put, sA, s0, s1]
  refine sn 26 29 rfl rfl ?_ (hS := (DX.out _ CC.out))
  try simp only [Act.put, sA, s0, s1]
  refine sn 27 30 rfl rfl ?_ (hS := (DX.out _ CC.out))
  try simp only [Act.put, sA, s0, s1]
  refine sn 28 31 rfl rfl ?_ (hS := (DX.out _ CC.out))
  try simp only [Act.put, sA, s0, s1]
  refine sn 29 32 rfl rfl ?_ (hS := (DX.out _ CC.out))
  try simp only [Act.put, sA, s0, s1]
  refine sn 30 33 rfl rfl ?_ (hS := (DX.out _ CC.out))
  try simp only [Act.put, sA, s0, s1]
  refine sn 31 34 rfl rfl ?_ (hS := (DX.out _ CC.out))
  try simp only [Act.put, sA, s0, s1]
  refine sn 32 35 rfl rfl ?_ (hS := (DX.out _ CC.out))
  try simp only [Act.put, sA, s0, s1]
  refine sy 33 36 rfl rfl ?_ (hS := (DX.out _ CC.out))
  try simp only [Act.put, sA, s0, s1]
  refine wpAnyH_done (by kernel_rfl) ?_ _
  clear hHeld
  go_wp2
  go_ret
  exact ⟨rfl, C.out.trans CC.out⟩

set_option maxRecDepth 100000 in
set_option maxHeartbeats 8000000 in
theorem vecheck_2 (w : World) (x : EvT) (e : EvP) (h : EvR w x e) (hs : EvSm e) (hk : ∀ i, i < 2 → evOk e i) (hn : ¬ evOk e 2) :
    Calls Tryz.prog 15 #[.agg #[.int .i64 x.n, .int .i64 x.s, .string x.p, .int .i64 x.k, .int .i64 x.m, .slice x.A x.l x.c, .slice x.B x.bl x.bc]] w fun r w' => r = .returned (.int .i64 2) ∧ Chg [] w w' := by
  obtain ⟨w1, hw1, c1, b1⟩ := news1 w (.cells #[.int .i64 x.n, .int .i64 x.s, .string x.p, .int .i64 x.k, .int .i64 x.m, .slice x.A x.l x.c, .slice x.B x.bl x.bc] 29)
  have W1 := Lib.hid hw1
  have HR := Lib.hid (h.chg c1)
  have C := Lib.hid c1
  have HS := Lib.hid hs
  have k0 : Hid (evOk e 0) := Lib.hid (hk 0 (by omega))
  have k1 : Hid (evOk e 1) := Lib.hid (hk 1 (by omega))
  have k2 : Hid (¬ evOk e 2) := Lib.hid hn
  have hxn := h.n
  have hxs := h.s
  have hxp := h.p
  have hxk := h.k
  have hxm := h.m
  have hxl := h.l
  have hxbl := h.bl
  rw [hxn, hxs, hxp, hxk, hxm, hxl, hxbl] at b1 W1
  rw [hxn, hxs, hxp, hxk, hxm, hxl, hxbl]
  clear hxn hxs hxp hxk hxm hxl hxbl
  have z0 := cell_of b1 0
  have z1 := cell_of b1 1
  have z2 := cell_of b1 2
  have z3 := cell_of b1 3
  have z4 := cell_of b1 4
  have z5 := cell_of b1 5
  have z6 := cell_of b1 6
  simp only [List.getElem?_toArray, List.getElem?_cons_succ, List.getElem?_cons_zero] at z0 z1 z2 z3 z4 z5 z6
  clear hw1 c1 h hs hk hn b1
  go_enter Tryz.func15, Tryz.ntmps15
  go_upto_region 1 with fail
  rw [← W1.out]
  generalize w.heap.size = g0 at *
  refine wp_region_held_drew (S := fun w' => w'.cell? ⟨g0, 0, none⟩ = some (.int .i64 e.n) ∧ w'.cell? ⟨g0, 1, none⟩ = some (.int .i64 e.s) ∧ w'.cell? ⟨g0, 2, none⟩ = some (.string (strOf e.p)) ∧ w'.cell? ⟨g0, 3, none⟩ = some (.int .i64 e.k) ∧ w'.cell? ⟨g0, 4, none⟩ = some (.int .i64 e.m) ∧ w'.cell? ⟨g0, 5, none⟩ = some (.slice x.A e.b.length x.c) ∧ w'.cell? ⟨g0, 6, none⟩ = some (.slice x.B e.q.length x.bc)) (by kernel_rfl) ⟨z0, z1, z2, z3, z4, z5, z6⟩ (fun hHeld => ?_)
  have CC : Hid (Chg [] w1 w1.drew) := Lib.hid (Chg.refl [] w1).drew
  have DX : Hid (∀ w', Chg [] w1 w' → w'.cell? ⟨g0, 0, none⟩ = some (.int .i64 e.n) ∧ w'.cell? ⟨g0, 1, none⟩ = some (.int .i64 e.s) ∧ w'.cell? ⟨g0, 2, none⟩ = some (.string (strOf e.p)) ∧ w'.cell? ⟨g0, 3, none⟩ = some (.int .i64 e.k) ∧ w'.cell? ⟨g0, 4, none⟩ = some (.int .i64 e.m) ∧ w'.cell? ⟨g0, 5, none⟩ = some (.slice x.A e.b.length x.c) ∧ w'.cell? ⟨g0, 6, none⟩ = some (.slice x.B e.q.length x.bc)) := Lib.hid (fun w' hc => ⟨hc.cell z0 (by simp), hc.cell z1 (by simp), hc.cell z2 (by simp), hc.cell z3 (by simp), hc.cell z4 (by simp), hc.cell z5 (by simp), hc.cell z6 (by simp)⟩)
  clear z0 z1 z2 z3 z4 z5 z6 hHeld W1
  generalize w1.drew = wc at *
  refine sy 0 3 rfl rfl ?_ (hS := (DX.out _ CC.out))
  try simp only [Act.put, sA, s0, s1]
  refine sy 1 4 rfl rfl ?_ (hS := (DX.out _ CC.out)) (hy := by (intro w hSw; (try dsimp only at hSw); obtain ⟨q0, q1, q2, q3, q4, q5, q6⟩ := hSw; go_simp; try with_reducible rfl))
  try simp only [Act.put, sA, s0, s1]
  refine wpAnyH_ready (rs := [2]) (by kernel_rfl) (by simp) ?_
  refine AllReadyH.cons rfl (fun K hK => ?_) AllReadyH.nil
  replace hK := Lib.hid hK
  go_simp
  refine (hcheck_dot wc e.n e.s).mono ?_
  rintro r wc ⟨rfl, hc⟩
  rw [chk_dot, if_pos (show FineQ e.n e.s from Decidable.byContradiction (fun q => absurd k0.out (by show ¬ chkD e.n e.s = 0; rw [chkD_odd q]; decide)))]
  replace CC := Lib.hid (CC.out.trans hc)
  clear hc
  refine hK.out _ _ (DX.out _ CC.out) (fun hHeld => ?_)
  clear hK K
  try simp only [Act.put, sA, s0, s1]
  refine sy 3 6 rfl rfl ?_ (hS := (DX.out _ CC.out))
  try simp only [Act.put, sA, s0, s1]
  refine sy 4 7 rfl rfl ?_ (hS := (DX.out _ CC.out))
  try simp only [Act.put, sA, s0, s1]
  refine sy 5 8 rfl rfl ?_ (hS := (DX.out _ CC.out))
  try simp only [Act.put, sA, s0, s1]
  refine sy 6 9 rfl rfl ?_ (hS := (DX.out _ CC.out)) (hy := by (intro w hSw; (try dsimp only at hSw); obtain ⟨q0, q1, q2, q3, q4, q5, q6⟩ := hSw; go_simp; try with_reducible rfl))
  try simp only [Act.put, sA, s0, s1]
  refine wpAnyH_ready (rs := [7]) (by kernel_rfl) (by simp) ?_
  refine AllReadyH.cons rfl (fun K hK => ?_) AllReadyH.nil
  replace hK := Lib.hid hK
  go_simp
  refine (qcheck_any wc e.p HS.out.1).mono ?_
  rintro r wc ⟨rfl, hc⟩
  rw [if_pos (show checkL 6 12 e.p = true from k1.out)]
  replace CC := Lib.hid (CC.out.trans hc)
  clear hc
  refine hK.out _ _ (DX.out _ CC.out) (fun hHeld => ?_)
  clear hK K
  try simp only [Act.put, sA, s0, s1]
  refine sy 8 11 rfl rfl ?_ (hS := (DX.out _ CC.out))
  try simp only [Act.put, sA, s0, s1]
  refine sy 9 12 rfl rfl ?_ (hS := (DX.out _ CC.out))
  try simp only [Act.put, sA, s0, s1]
  refine sy 10 13 rfl rfl ?_ (hS := (DX.out _ CC.out))
  try simp only [Act.put, sA, s0, s1]
  refine sy 11 14 rfl rfl ?_ (hS := (DX.out _ CC.out))
  try simp only [Act.put, sA, s0, s1]
  refine sy 12 15 rfl rfl ?_ (hS := (DX.out _ CC.out)) (hy := by (intro w hSw; (try dsimp only at hSw); obtain ⟨q0, q1, q2, q3, q4, q5, q6⟩ := hSw; go_simp; try with_reducible rfl))
  try simp only [Act.put, sA, s0, s1]
  refine wpAnyH_ready (rs := [13]) (by kernel_rfl) (by simp) ?_
  refine AllReadyH.cons rfl (fun K hK => ?_) AllReadyH.nil
  replace hK := Lib.hid hK
  go_simp
  refine (fcheck_any wc e.k e.m x.A e.b.length x.c HS.out.2.1).mono ?_
  rintro r wc ⟨rfl, hc⟩
  rw [show chkE e.k e.m e.b.length = 2 by unfold chkE; rw [if_neg]; exact fun q => k2.out (chkE_fine q)]
  replace CC := Lib.hid (CC.out.trans hc)
  clear hc
  refine hK.out _ _ (DX.out _ CC.out) (fun hHeld => ?_)
  clear hK K
  try simp only [Act.put, sA, s0, s1]
  refine sy 14 17 rfl rfl ?_ (hS := (DX.out _ CC.out))
  try simp only [Act.put, sA, s0, s1]
  refine sy 15 18 rfl rfl ?_ (hS := (DX.out _ CC.out))
  try simp only [Act.put, sA, s0, s1]
  refine sy 16 19 rfl rfl ?_ (hS := (DX.out _ CC.out))
  try simp only [Act.put, sA, s0, s1]
  refine sn 17 20 rfl rfl ?_ (hS := (DX.out _ CC.out))
  try simp only [Act.put, sA, s0, s1]
  refine sn 18 21 rfl rfl ?_ (hS := (DX.out _ CC.out))
  try simp only [Act.put, sA, s0, s1]
  refine sn 19 22 rfl rfl ?_ (hS := (DX.out _ CC.out))
  try simp only [Act.put, sA, s0, s1]
  refine sn 20 23 rfl rfl ?_ (hS := (DX.out _ CC.out))
  try simp only [Act.put, sA, s0, s1]
  refine sy 21 24 rfl rfl ?_ (hS := (DX.out _ CC.out))
  try simp only [Act.put, sA, s0, s1]
  refine sy 22 25 rfl rfl ?_ (hS := (DX.out _ CC.out))
  try simp only [Act.put, sA, s0, s1]
  refine sn 23 26 rfl rfl ?_ (hS := (DX.out _ CC.out))
  try simp only [Act.put, sA, s0, s1]
  refine sn 24 27 rfl rfl ?_ (hS := (DX.out _ CC.out))
  try simp only [Act.put, sA, s0, s1]
  refine sn 25 28 rfl rfl ?_ (hS := (DX.out _ CC.out))
  try simp only [Act.put, sA, s0, s1]
  refine sn 26 29 rfl rfl ?_ (hS := (DX.out _ CC.out))
  try simp only [Act.put, sA, s0, s1]
  refine sn 27 30 rfl rfl ?_ (hS := (DX.out _ CC.out))
  try simp only [Act.put, sA, s0, s1]
  refine sn 28 31 rfl rfl ?_ (hS := (DX.out _ CC.out))
  try simp only [Act.put, sA, s0, s1]
  refine sn 29 32 rfl rfl ?_ (hS := (DX.out _ CC.out))
  try simp only [Act.put, sA, s0, s1]
  refine sn 30 33 rfl rfl ?_ (hS := (DX.out _ CC.out))
  try simp only [Act.put, sA, s0, s1]
  refine sn 31 34 rfl rfl ?_ (hS := (DX.out _ CC.out))
  try simp only [Act.put, sA, s0, s1]
  refine sn 32 35 rfl rfl ?_ (hS := (DX.out _ CC.out))
  try simp only [Act.put, sA, s0, s1]
  refine sy 33 36 rfl rfl ?_ (hS := (DX.out _ CC.out))
  try simp only [Act.put, sA, s0, s1]
  refine wpAnyH_done (by kernel_rfl) ?_ _
  clear hHeld
  go_wp2
  go_ret
  exact ⟨rfl, C.out.trans CC.out⟩

set_option maxRecDepth 100000 in
set_option maxHeartbeats 8000000 in
theorem vecheck_3 (w : World) (x : EvT) (e : EvP) (h : EvR w x e) (hs : EvSm e) (hk : ∀ i, i < 3 → evOk e i) (hn : ¬ evOk e 3) :
    Calls Tryz.prog 15 #[.agg #[.int .i64 x.n, .int .i64 x.s, .string x.p, .int .i64 x.k, .int .i64 x.m, .slice x.A x.l x.c, .slice x.B x.bl x.bc]] w fun r w' => r = .returned (.int .i64 2) ∧ Chg [] w w' := by
  obtain ⟨w1, hw1, c1, b1⟩ := news1 w (.cells #[.int .i64 x.n, .int .i64 x.s, .string x.p, .int .i64 x.k, .int .i64 x.m, .slice x.A x.l x.c, .slice x.B x.bl x.bc] 29)
  have W1 := Lib.hid hw1
  have HR := Lib.hid (h.chg c1)
  have C := Lib.hid c1
  have HS := Lib.hid hs
  have k0 : Hid (evOk e 0) := Lib.hid (hk 0 (by omega))
  have k1 : Hid (evOk e 1) := Lib.hid (hk 1 (by omega))
  have k2 : Hid (evOk e 2) := Lib.hid (hk 2 (by omega))
  have k3 : Hid (¬ evOk e 3) := Lib.hid hn
  have hxn := h.n
  have hxs := h.s
  have hxp := h.p
  have hxk := h.k
  have hxm := h.m
  have hxl := h.l
  have hxbl := h.bl
  rw [hxn, hxs, hxp, hxk, hxm, hxl, hxbl] at b1 W1
  rw [hxn, hxs, hxp, hxk, hxm, hxl, hxbl]
  clear hxn hxs hxp hxk hxm hxl hxbl
  have z0 := cell_of b1 0
  have z1 := cell_of b1 1
  have z2 := cell_of b1 2
  have z3 := cell_of b1 3
  have z4 := cell_of b1 4
  have z5 := cell_of b1 5
  have z6 := cell_of b1 6
  simp only [List.getElem?_toArray, List.getElem?_cons_succ, List.getElem?_cons_zero] at z0 z1 z2 z3 z4 z5 z6
  clear hw1 c1 h hs hk hn b1
  go_enter Tryz.func15, Tryz.ntmps15
  go_upto_region 1 with fail
  rw [← W1.out]
  generalize w.heap.size = g0 at *
  refine wp_region_held_drew (S := fun w' => w'.cell? ⟨g0, 0, none⟩ = some (.int .i64 e.n) ∧ w'.cell? ⟨g0, 1, none⟩ = some (.int .i64 e.s) ∧ w'.cell? ⟨g0, 2, none⟩ = some (.string (strOf e.p)) ∧ w'.cell? ⟨g0, 3, none⟩ = some (.int .i64 e.k) ∧ w'.cell? ⟨g0, 4, none⟩ = some (.int .i64 e.m) ∧ w'.cell? ⟨g0, 5, none⟩ = some (.slice x.A e.b.length x.c) ∧ w'.cell? ⟨g0, 6, none⟩ = some (.slice x.B e.q.length x.bc)) (by kernel_rfl) ⟨z0, z1, z2, z3, z4, z5, z6⟩ (fun hHeld => ?_)
  have CC : Hid (Chg [] w1 w1.drew) := Lib.hid (Chg.refl [] w1).drew
  have DX : Hid (∀ w', Chg [] w1 w' → w'.cell? ⟨g0, 0, none⟩ = some (.int .i64 e.n) ∧ w'.cell? ⟨g0, 1, none⟩ = some (.int .i64 e.s) ∧ w'.cell? ⟨g0, 2, none⟩ = some (.string (strOf e.p)) ∧ w'.cell? ⟨g0, 3, none⟩ = some (.int .i64 e.k) ∧ w'.cell? ⟨g0, 4, none⟩ = some (.int .i64 e.m) ∧ w'.cell? ⟨g0, 5, none⟩ = some (.slice x.A e.b.length x.c) ∧ w'.cell? ⟨g0, 6, none⟩ = some (.slice x.B e.q.length x.bc)) := Lib.hid (fun w' hc => ⟨hc.cell z0 (by simp), hc.cell z1 (by simp), hc.cell z2 (by simp), hc.cell z3 (by simp), hc.cell z4 (by simp), hc.cell z5 (by simp), hc.cell z6 (by simp)⟩)
  clear z0 z1 z2 z3 z4 z5 z6 hHeld W1
  generalize w1.drew = wc at *
  refine sy 0 3 rfl rfl ?_ (hS := (DX.out _ CC.out))
  try simp only [Act.put, sA, s0, s1]
  refine sy 1 4 rfl rfl ?_ (hS := (DX.out _ CC.out)) (hy := by (intro w hSw; (try dsimp only at hSw); obtain ⟨q0, q1, q2, q3, q4, q5, q6⟩ := hSw; go_simp; try with_reducible rfl))
  try simp only [Act.put, sA, s0, s1]
  refine wpAnyH_ready (rs := [2]) (by kernel_rfl) (by simp) ?_
  refine AllReadyH.cons rfl (fun K hK => ?_) AllReadyH.nil
  replace hK := Lib.hid hK
  go_simp
  refine (hcheck_dot wc e.n e.s).mono ?_
  rintro r wc ⟨rfl, hc⟩
  rw [chk_dot, if_pos (show FineQ e.n e.s from Decidable.byContradiction (fun q => absurd k0.out (by show ¬ chkD e.n e.s = 0; rw [chkD_odd q]; decide)))]
  replace CC := Lib.hid (CC.out.trans hc)
  clear hc
  refine hK.out _ _ (DX.out _ CC.out) (fun hHeld => ?_)
  clear hK K
  try simp only [Act.put, sA, s0, s1]
  refine sy 3 6 rfl rfl ?_ (hS := (DX.out _ CC.out))
  try simp only [Act.put, sA, s0, s1]
  refine sy 4 7 rfl rfl ?_ (hS := (DX.out _ CC.out))
  try simp only [Act.put, sA, s0, s1]
  refine sy 5 8 rfl rfl ?_ (hS := (DX.out _ CC.out))
  try simp only [Act.put, sA, s0, s1]
  refine sy 6 9 rfl rfl ?_ (hS := (DX.out _ CC.out)) (hy := by (intro w hSw; (try dsimp only at hSw); obtain ⟨q0, q1, q2, q3, q4, q5, q6⟩ := hSw; go_simp; try with_reducible rfl))
  try simp only [Act.put, sA, s0, s1]
  refine wpAnyH_ready (rs := [7]) (by kernel_rfl) (by simp) ?_
  refine AllReadyH.cons rfl (fun K hK => ?_) AllReadyH.nil
  replace hK := Lib.hid hK
  go_simp
  refine (qcheck_any wc e.p HS.out.1).mono ?_
  rintro r wc ⟨rfl, hc⟩
  rw [if_pos (show checkL 6 12 e.p = true from k1.out)]
  replace CC := Lib.hid (CC.out.trans hc)
  clear hc
  refine hK.out _ _ (DX.out _ CC.out) (fun hHeld => ?_)
  clear hK K
  try simp only [Act.put, sA, s0, s1]
  refine sy 8 11 rfl rfl ?_ (hS := (DX.out _ CC.out))
  try simp only [Act.put, sA, s0, s1]
  refine sy 9 12 rfl rfl ?_ (hS := (DX.out _ CC.out))
  try simp only [Act.put, sA, s0, s1]
  refine sy 10 13 rfl rfl ?_ (hS := (DX.out _ CC.out))
  try simp only [Act.put, sA, s0, s1]
  refine sy 11 14 rfl rfl ?_ (hS := (DX.out _ CC.out))
  try simp only [Act.put, sA, s0, s1]
  refine sy 12 15 rfl rfl ?_ (hS := (DX.out _ CC.out)) (hy := by (intro w hSw; (try dsimp only at hSw); obtain ⟨q0, q1, q2, q3, q4, q5, q6⟩ := hSw; go_simp; try with_reducible rfl))
  try simp only [Act.put, sA, s0, s1]
  refine wpAnyH_ready (rs := [13]) (by kernel_rfl) (by simp) ?_
  refine AllReadyH.cons rfl (fun K hK => ?_) AllReadyH.nil
  replace hK := Lib.hid hK
  go_simp
  refine (fcheck_any wc e.k e.m x.A e.b.length x.c HS.out.2.1).mono ?_
  rintro r wc ⟨rfl, hc⟩
  rw [show chkE e.k e.m e.b.length = 0 from k2.out]
  replace CC := Lib.hid (CC.out.trans hc)
  clear hc
  refine hK.out _ _ (DX.out _ CC.out) (fun hHeld => ?_)
  clear hK K
  try simp only [Act.put, sA, s0, s1]
  refine sy 14 17 rfl rfl ?_ (hS := (DX.out _ CC.out))
  try simp only [Act.put, sA, s0, s1]
  refine sy 15 18 rfl rfl ?_ (hS := (DX.out _ CC.out))
  try simp only [Act.put, sA, s0, s1]
  refine sy 16 19 rfl rfl ?_ (hS := (DX.out _ CC.out))
  try simp only [Act.put, sA, s0, s1]
  refine sy 17 20 rfl rfl ?_ (hS := (DX.out _ CC.out))
  try simp only [Act.put, sA, s0, s1]
  refine sy 18 21 rfl rfl ?_ (hS := (DX.out _ CC.out)) (hy := by (intro w hSw; (try dsimp only at hSw); obtain ⟨q0, q1, q2, q3, q4, q5, q6⟩ := hSw; go_simp; try with_reducible rfl))
  try simp only [Act.put, sA, s0, s1]
  refine wpAnyH_ready (rs := [19]) (by kernel_rfl) (by simp) ?_
  refine AllReadyH.cons rfl (fun K hK => ?_) AllReadyH.nil
  replace hK := Lib.hid hK
  go_simp
  refine (qacheck_any wc x.B e.q.length x.bc e.q (by have := HR.out.B.chg CC.out (by simp); rw [HR.out.bl] at this; exact this) HS.out.2.2).mono ?_
  rintro r wc ⟨rfl, hc⟩
  rw [show chkS e.q = 2 from (chk_two e.q).resolve_left k3.out]
  replace CC := Lib.hid (CC.out.trans hc)
  clear hc
  refine hK.out _ _ (DX.out _ CC.out) (fun hHeld => ?_)
  clear hK K
  try simp only [Act.put, sA, s0, s1]
  refine sy 20 23 rfl rfl ?_ (hS := (DX.out _ CC.out))
  try simp only [Act.put, sA, s0, s1]
  refine sy 21 24 rfl rfl ?_ (hS := (DX.out _ CC.out))
  try simp only [Act.put, sA, s0, s1]
  refine sy 22 25 rfl rfl ?_ (hS := (DX.out _ CC.out))
  try simp only [Act.put, sA, s0, s1]
  refine sn 23 26 rfl rfl ?_ (hS := (DX.out _ CC.out))
  try simp only [Act.put, sA, s0, s1]
  refine sn 24 27 rfl rfl ?_ (hS := (DX.out _ CC.out))
  try simp only [Act.put, sA, s0, s1]
  refine sn 25 28 rfl rfl ?_ (hS := (DX.out _ CC.out))
  try simp only [Act.put, sA, s0, s1]
  refine sn 26 29 rfl rfl ?_ (hS := (DX.out _ CC.out))
  try simp only [Act.put, sA, s0, s1]
  refine sn 27 30 rfl rfl ?_ (hS := (DX.out _ CC.out))
  try simp only [Act.put, sA, s0, s1]
  refine sn 28 31 rfl rfl ?_ (hS := (DX.out _ CC.out))
  try simp only [Act.put, sA, s0, s1]
  refine sn 29 32 rfl rfl ?_ (hS := (DX.out _ CC.out))
  try simp only [Act.put, sA, s0, s1]
  refine sn 30 33 rfl rfl ?_ (hS := (DX.out _ CC.out))
  try simp only [Act.put, sA, s0, s1]
  refine sn 31 34 rfl rfl ?_ (hS := (DX.out _ CC.out))
  try simp only [Act.put, sA, s0, s1]
  refine sn 32 35 rfl rfl ?_ (hS := (DX.out _ CC.out))
  try simp only [Act.put, sA, s0, s1]
  refine sy 33 36 rfl rfl ?_ (hS := (DX.out _ CC.out))
  try simp only [Act.put, sA, s0, s1]
  refine wpAnyH_done (by kernel_rfl) ?_ _
  clear hHeld
  go_wp2
  go_ret
  exact ⟨rfl, C.out.trans CC.out⟩

set_option maxRecDepth 100000 in
set_option maxHeartbeats 8000000 in
theorem vecheck_4 (w : World) (x : EvT) (e : EvP) (h : EvR w x e) (hs : EvSm e) (hk : ∀ i, i < 4 → evOk e i) (hn : ¬ evOk e 4) :
    Calls Tryz.prog 15 #[.agg #[.int .i64 x.n, .int .i64 x.s, .string x.p, .int .i64 x.k, .int .i64 x.m, .slice x.A x.l x.c, .slice x.B x.bl x.bc]] w fun r w' => r = .returned (.int .i64 2) ∧ Chg [] w w' := by
  obtain ⟨w1, hw1, c1, b1⟩ := news1 w (.cells #[.int .i64 x.n, .int .i64 x.s, .string x.p, .int .i64 x.k, .int .i64 x.m, .slice x.A x.l x.c, .slice x.B x.bl x.bc] 29)
  have W1 := Lib.hid hw1
  have HR := Lib.hid (h.chg c1)
  have C := Lib.hid c1
  have HS := Lib.hid hs
  have k0 : Hid (evOk e 0) := Lib.hid (hk 0 (by omega))
  have k1 : Hid (evOk e 1) := Lib.hid (hk 1 (by omega))
  have k2 : Hid (evOk e 2) := Lib.hid (hk 2 (by omega))
  have k3 : Hid (evOk e 3) := Lib.hid (hk 3 (by omega))
  have k4 : Hid (¬ evOk e 4) := Lib.hid hn
  have hxn := h.n
  have hxs := h.s
  have hxp := h.p
  have hxk := h.k
  have hxm := h.m
  have hxl := h.l
  have hxbl := h.bl
  rw [hxn, hxs, hxp, hxk, hxm, hxl, hxbl] at b1 W1
  rw [hxn, hxs, hxp, hxk, hxm, hxl, hxbl]
  clear hxn hxs hxp hxk hxm hxl hxbl
  have z0 := cell_of b1 0
  have z1 := cell_of b1 1
  have z2 := cell_of b1 2
  have z3 := cell_of b1 3
  have z4 := cell_of b1 4
  have z5 := cell_of b1 5
  have z6 := cell_of b1 6
  simp only [List.getElem?_toArray, List.getElem?_cons_succ, List.getElem?_cons_zero] at z0 z1 z2 z3 z4 z5 z6
  clear hw1 c1 h hs hk hn b1
  generalize hlv : (if chkS e.q = 0 then lastL e.n e.q else 0) = lv
  have LV := Lib.hid hlv
  have ge : decide (e.s ≤ lv) = true := by
    have q : ¬ lv < e.s := fun q => k4.out (by show _ < e.s; rw [hlv]; exact q)
    exact decide_eq_true (by omega)
  clear hlv
  go_enter Tryz.func15, Tryz.ntmps15
  go_upto_region 1 with fail
  rw [← W1.out]
  generalize w.heap.size = g0 at *
  refine wp_region_held_drew (S := fun w' => w'.cell? ⟨g0, 0, none⟩ = some (.int .i64 e.n) ∧ w'.cell? ⟨g0, 1, none⟩ = some (.int .i64 e.s) ∧ w'.cell? ⟨g0, 2, none⟩ = some (.string (strOf e.p)) ∧ w'.cell? ⟨g0, 3, none⟩ = some (.int .i64 e.k) ∧ w'.cell? ⟨g0, 4, none⟩ = some (.int .i64 e.m) ∧ w'.cell? ⟨g0, 5, none⟩ = some (.slice x.A e.b.length x.c) ∧ w'.cell? ⟨g0, 6, none⟩ = some (.slice x.B e.q.length x.bc)) (by kernel_rfl) ⟨z0, z1, z2, z3, z4, z5, z6⟩ (fun hHeld => ?_)
  have CC : Hid (Chg [] w1 w1.drew) := Lib.hid (Chg.refl [] w1).drew
  have DX : Hid (∀ w', Chg [] w1 w' → w'.cell? ⟨g0, 0, none⟩ = some (.int .i64 e.n) ∧ w'.cell? ⟨g0, 1, none⟩ = some (.int .i64 e.s) ∧ w'.cell? ⟨g0, 2, none⟩ = some (.string (strOf e.p)) ∧ w'.cell? ⟨g0, 3, none⟩ = some (.int .i64 e.k) ∧ w'.cell? ⟨g0, 4, none⟩ = some (.int .i64 e.m) ∧ w'.cell? ⟨g0, 5, none⟩ = some (.slice x.A e.b.length x.c) ∧ w'.cell? ⟨g0, 6, none⟩ = some (.slice x.B e.q.length x.bc)) := Lib.hid (fun w' hc => ⟨hc.cell z0 (by simp), hc.cell z1 (by simp), hc.cell z2 (by simp), hc.cell z3 (by simp), hc.cell z4 (by simp), hc.cell z5 (by simp), hc.cell z6 (by simp)⟩)
  clear z0 z1 z2 z3 z4 z5 z6 hHeld W1
  generalize w1.drew = wc at *
  refine sy 0 3 rfl rfl ?_ (hS := (DX.out _ CC.out))
  try simp only [Act.put, sA, s0, s1]
  refine sy 1 4 rfl rfl ?_ (hS := (DX.out _ CC.out)) (hy := by (intro w hSw; (try dsimp only at hSw); obtain ⟨q0, q1, q2, q3, q4, q5, q6⟩ := hSw; go_simp; try with_reducible rfl))
  try simp only [Act.put, sA, s0, s1]
  refine wpAnyH_ready (rs := [2]) (by kernel_rfl) (by simp) ?_
  refine AllReadyH.cons rfl (fun K hK => ?_) AllReadyH.nil
  replace hK := Lib.hid hK
  go_simp
  refine (hcheck_dot wc e.n e.s).mono ?_
  rintro r wc ⟨rfl, hc⟩
  rw [chk_dot, if_pos (show FineQ e.n e.s from Decidable.byContradiction (fun q => absurd k0.out (by show ¬ chkD e.n e.s = 0; rw [chkD_odd q]; decide)))]
  replace CC := Lib.hid (CC.out.trans hc)
  clear hc
  refine hK.out _ _ (DX.out _ CC.out) (fun hHeld => ?_)
  clear hK K
  try simp only [Act.put, sA, s0, s1]
  refine sy 3 6 rfl rfl ?_ (hS := (DX.out _ CC.out))
  try simp only [Act.put, sA, s0, s1]
  refine sy 4 7 rfl rfl ?_ (hS := (DX.out _ CC.out))
  try simp only [Act.put, sA, s0, s1]
  refine sy 5 8 rfl rfl ?_ (hS := (DX.out _ CC.out))
  try simp only [Act.put, sA, s0, s1]
  refine sy 6 9 rfl rfl ?_ (hS := (DX.out _ CC.out)) (hy := by (intro w hSw; (try dsimp only at hSw); obtain ⟨q0, q1, q2, q3, q4, q5, q6⟩ := hSw; go_simp; try with_reducible rfl))
  try simp only [Act.put, sA, s0, s1]
  refine wpAnyH_ready (rs := [7]) (by kernel_rfl) (by simp) ?_
  refine AllReadyH.cons rfl (fun K hK => ?_) AllReadyH.nil
  replace hK := Lib.hid hK
  go_simp
  refine (qcheck_any wc e.p HS.out.1).mono ?_
  rintro r wc ⟨rfl, hc⟩
  rw [if_pos (show checkL 6 12 e.p = true from k1.out)]
  replace CC := Lib.hid (CC.out.trans hc)
  clear hc
  refine hK.out _ _ (DX.out _ CC.out) (fun hHeld => ?_)
  clear hK K
  try simp only [Act.put, sA, s0, s1]
  refine sy 8 11 rfl rfl ?_ (hS := (DX.out _ CC.out))
  try simp only [Act.put, sA, s0, s1]
  refine sy 9 12 rfl rfl ?_ (hS := (DX.out _ CC.out))
  try simp only [Act.put, sA, s0, s1]
  refine sy 10 13 rfl rfl ?_ (hS := (DX.out _ CC.out))
  try simp only [Act.put, sA, s0, s1]
  refine sy 11 14 rfl rfl ?_ (hS := (DX.out _ CC.out))
  try simp only [Act.put, sA, s0, s1]
  refine sy 12 15 rfl rfl ?_ (hS := (DX.out _ CC.out)) (hy := by (intro w hSw; (try dsimp only at hSw); obtain ⟨q0, q1, q2, q3, q4, q5, q6⟩ := hSw; go_simp; try with_reducible rfl))
  try simp only [Act.put, sA, s0, s1]
  refine wpAnyH_ready (rs := [13]) (by kernel_rfl) (by simp) ?_
  refine AllReadyH.cons rfl (fun K hK => ?_) AllReadyH.nil
  replace hK := Lib.hid hK
  go_simp
  refine (fcheck_any wc e.k e.m x.A e.b.length x.c HS.out.2.1).mono ?_
  rintro r wc ⟨rfl, hc⟩
  rw [show chkE e.k e.m e.b.length = 0 from k2.out]
  replace CC := Lib.hid (CC.out.trans hc)
  clear hc
  refine hK.out _ _ (DX.out _ CC.out) (fun hHeld => ?_)
  clear hK K
  try simp only [Act.put, sA, s0, s1]
  refine sy 14 17 rfl rfl ?_ (hS := (DX.out _ CC.out))
  try simp only [Act.put, sA, s0, s1]
  refine sy 15 18 rfl rfl ?_ (hS := (DX.out _ CC.out))
  try simp only [Act.put, sA, s0, s1]
  refine sy 16 19 rfl rfl ?_ (hS := (DX.out _ CC.out))
  try simp only [Act.put, sA, s0, s1]
  refine sy 17 20 rfl rfl ?_ (hS := (DX.out _ CC.out))
  try simp only [Act.put, sA, s0, s1]
  refine sy 18 21 rfl rfl ?_ (hS := (DX.out _ CC.out)) (hy := by (intro w hSw; (try dsimp only at hSw); obtain ⟨q0, q1, q2, q3, q4, q5, q6⟩ := hSw; go_simp; try with_reducible rfl))
  try simp only [Act.put, sA, s0, s1]
  refine wpAnyH_ready (rs := [19]) (by kernel_rfl) (by simp) ?_
  refine AllReadyH.cons rfl (fun K hK => ?_) AllReadyH.nil
  replace hK := Lib.hid hK
  go_simp
  refine (qacheck_any wc x.B e.q.length x.bc e.q (by have := HR.out.B.chg CC.out (by simp); rw [HR.out.bl] at this; exact this) HS.out.2.2).mono ?_
  rintro r wc ⟨rfl, hc⟩
  rw [show chkS e.q = 0 from k3.out]
  replace CC := Lib.hid (CC.out.trans hc)
  clear hc
  refine hK.out _ _ (DX.out _ CC.out) (fun hHeld => ?_)
  clear hK K
  try simp only [Act.put, sA, s0, s1]
  refine sy 20 23 rfl rfl ?_ (hS := (DX.out _ CC.out))
  try simp only [Act.put, sA, s0, s1]
  refine sy 21 24 rfl rfl ?_ (hS := (DX.out _ CC.out))
  try simp only [Act.put, sA, s0, s1]
  refine sy 22 25 rfl rfl ?_ (hS := (DX.out _ CC.out))
  try simp only [Act.put, sA, s0, s1]
  refine sy 23 26 rfl rfl ?_ (hS := (DX.out _ CC.out))
  try simp only [Act.put, sA, s0, s1]
  refine sy 24 27 rfl rfl ?_ (hS := (DX.out _ CC.out)) (hy := by (intro w hSw; (try dsimp only at hSw); obtain ⟨q0, q1, q2, q3, q4, q5, q6⟩ := hSw; go_simp; try with_reducible rfl))
  try simp only [Act.put, sA, s0, s1]
  refine sy 25 28 rfl rfl ?_ (hS := (DX.out _ CC.out))
  try simp only [Act.put, sA, s0, s1]
  refine sy 26 29 rfl rfl ?_ (hS := (DX.out _ CC.out))
  try simp only [Act.put, sA, s0, s1]
  refine sy 27 30 rfl rfl ?_ (hS := (DX.out _ CC.out)) (hy := by (intro w hSw; (try dsimp only at hSw); obtain ⟨q0, q1, q2, q3, q4, q5, q6⟩ := hSw; go_simp; try with_reducible rfl))
  try simp only [Act.put, sA, s0, s1]
  refine sy 29 32 rfl rfl ?_ (hS := (DX.out _ CC.out))
  try simp only [Act.put, sA, s0, s1]
  refine sy 30 33 rfl rfl ?_ (hS := (DX.out _ CC.out))
  try simp only [Act.put, sA, s0, s1]
  refine sy 31 34 rfl rfl ?_ (hS := (DX.out _ CC.out)) (hy := by (intro w hSw; (try dsimp only at hSw); obtain ⟨q0, q1, q2, q3, q4, q5, q6⟩ := hSw; go_simp; try with_reducible rfl))
  try simp only [Act.put, sA, s0, s1]
  refine wpAnyH_ready (rs := [28]) (by kernel_rfl) (by simp) ?_
  refine AllReadyH.cons rfl (fun K hK => ?_) AllReadyH.nil
  replace hK := Lib.hid hK
  go_simp
  refine (qlast_any wc x.B x.bc e.q e.n (by have := HR.out.B.chg CC.out (by simp); rw [HR.out.bl] at this; exact this) HS.out.2.2).mono ?_
  rintro r wc ⟨rfl, hc⟩
  rw [LV.out]
  replace CC := Lib.hid (CC.out.trans hc)
  clear hc
  refine hK.out _ _ (DX.out _ CC.out) (fun hHeld => ?_)
  clear hK K
  try simp only [Act.put, sA, s0, s1]
  refine sy 32 35 rfl rfl ?_ (hS := (DX.out _ CC.out))
  try simp only [Act.put, sA, s0, s1]
  refine sy 33 36 rfl rfl ?_ (hS := (DX.out _ CC.out))
  try simp only [Act.put, sA, s0, s1]
  refine wpAnyH_done (by kernel_rfl) ?_ _
  clear hHeld
  go_wp2
  go_ret
  exact ⟨rfl, C.out.trans CC.out⟩

set_option maxRecDepth 100000 in
set_option maxHeartbeats 8000000 in
theorem vecheck_5 (w : World) (x : EvT) (e : EvP) (h : EvR w x e) (hs : EvSm e) (hk : ∀ i, i < 5 → evOk e i) :
    Calls Tryz.prog 15 #[.agg #[.int .i64 x.n, .int .i64 x.s, .string x.p, .int .i64 x.k, .int .i64 x.m, .slice x.A x.l x.c, .slice x.B x.bl x.bc]] w fun r w' => r = .returned (.int .i64 0) ∧ Chg [] w w' := by
  obtain ⟨w1, hw1, c1, b1⟩ := news1 w (.cells #[.int .i64 x.n, .int .i64 x.s, .string x.p, .int .i64 x.k, .int .i64 x.m, .slice x.A x.l x.c, .slice x.B x.bl x.bc] 29)
  have W1 := Lib.hid hw1
  have HR := Lib.hid (h.chg c1)
  have C := Lib.hid c1
  have HS := Lib.hid hs
  have k0 : Hid (evOk e 0) := Lib.hid (hk 0 (by omega))
  have k1 : Hid (evOk e 1) := Lib.hid (hk 1 (by omega))
  have k2 : Hid (evOk e 2) := Lib.hid (hk 2 (by omega))
  have k3 : Hid (evOk e 3) := Lib.hid (hk 3 (by omega))
  have k4 : Hid (evOk e 4) := Lib.hid (hk 4 (by omega))
  have hxn := h.n
  have hxs := h.s
  have hxp := h.p
  have hxk := h.k
  have hxm := h.m
  have hxl := h.l
  have hxbl := h.bl
  rw [hxn, hxs, hxp, hxk, hxm, hxl, hxbl] at b1 W1
  rw [hxn, hxs, hxp, hxk, hxm, hxl, hxbl]
  clear hxn hxs hxp hxk hxm hxl hxbl
  have z0 := cell_of b1 0
  have z1 := cell_of b1 1
  have z2 := cell_of b1 2
  have z3 := cell_of b1 3
  have z4 := cell_of b1 4
  have z5 := cell_of b1 5
  have z6 := cell_of b1 6
  simp only [List.getElem?_toArray, List.getElem?_cons_succ, List.getElem?_cons_zero] at z0 z1 z2 z3 z4 z5 z6
  clear hw1 c1 h hs hk b1
  generalize hlv : (if chkS e.q = 0 then lastL e.n e.q else 0) = lv
  have LV := Lib.hid hlv
  have ge : decide (e.s ≤ lv) = false := by
    have q : lv < e.s := by rw [← hlv]; exact k4.out
    exact decide_eq_false (by omega)
  clear hlv
  go_enter Tryz.func15, Tryz.ntmps15
  go_upto_region 1 with fail
  rw [← W1.out]
  generalize w.heap.size = g0 at *
  refine wp_region_held_drew (S := fun w' => w'.cell? ⟨g0, 0, none⟩ = some (.int .i64 e.n) ∧ w'.cell? ⟨g0, 1, none⟩ = some (.int .i64 e.s) ∧ w'.cell? ⟨g0, 2, none⟩ = some (.string (strOf e.p)) ∧ w'.cell? ⟨g0, 3, none⟩ = some (.int .i64 e.k) ∧ w'.cell? ⟨g0, 4, none⟩ = some (.int .i64 e.m) ∧ w'.cell? ⟨g0, 5, none⟩ = some (.slice x.A e.b.length x.c) ∧ w'.cell? ⟨g0, 6, none⟩ = some (.slice x.B e.q.length x.bc)) (by kernel_rfl) ⟨z0, z1, z2, z3, z4, z5, z6⟩ (fun hHeld => ?_)
  have CC : Hid (Chg [] w1 w1.drew) := Lib.hid (Chg.refl [] w1).drew
  have DX : Hid (∀ w', Chg [] w1 w' → w'.cell? ⟨g0, 0, none⟩ = some (.int .i64 e.n) ∧ w'.cell? ⟨g0, 1, none⟩ = some (.int .i64 e.s) ∧ w'.cell? ⟨g0, 2, none⟩ = some (.string (strOf e.p)) ∧ w'.cell? ⟨g0, 3, none⟩ = some (.int .i64 e.k) ∧ w'.cell? ⟨g0, 4, none⟩ = some (.int .i64 e.m) ∧ w'.cell? ⟨g0, 5, none⟩ = some (.slice x.A e.b.length x.c) ∧ w'.cell? ⟨g0, 6, none⟩ = some (.slice x.B e.q.length x.bc)) := Lib.hid (fun w' hc => ⟨hc.cell z0 (by simp), hc.cell z1 (by simp), hc.cell z2 (by simp), hc.cell z3 (by simp), hc.cell z4 (by simp), hc.cell z5 (by simp), hc.cell z6 (by simp)⟩)
  clear z0 z1 z2 z3 z4 z5 z6 hHeld W1
  generalize w1.drew = wc at *
  refine sy 0 3 rfl rfl ?_ (hS := (DX.out _ CC.out))
  try simp only [Act.put, sA, s0, s1]
  refine sy 1 4 rfl rfl ?_ (hS := (DX.out _ CC.out)) (hy := by (intro w hSw; (try dsimp only at hSw); obtain ⟨q0, q1, q2, q3, q4, q5, q6⟩ := hSw; go_simp; try with_reducible rfl))
  try simp only [Act.put, sA, s0, s1]
  refine wpAnyH_ready (rs := [2]) (by kernel_rfl) (by simp) ?_
  refine AllReadyH.cons rfl (fun K hK => ?_) AllReadyH.nil
  replace hK := Lib.hid hK
  go_simp
  refine (hcheck_dot wc e.n e.s).mono ?_
  rintro r wc ⟨rfl, hc⟩
  rw [chk_dot, if_pos (show FineQ e.n e.s from Decidable.byContradiction (fun q => absurd k0.out (by show ¬ chkD e.n e.s = 0; rw [chkD_odd q]; decide)))]
  replace CC := Lib.hid (CC.out.trans hc)
  clear hc
  refine hK.out _ _ (DX.out _ CC.out) (fun hHeld => ?_)
  clear hK K
  try simp only [Act.put, sA, s0, s1]
  refine sy 3 6 rfl rfl ?_ (hS := (DX.out _ CC.out))
  try simp only [Act.put, sA, s0, s1]
  refine sy 4 7 rfl rfl ?_ (hS := (DX.out _ CC.out))
  try simp only [Act.put, sA, s0, s1]
  refine sy 5 8 rfl rfl ?_ (hS := (DX.out _ CC.out))
  try simp only [Act.put, sA, s0, s1]
  refine sy 6 9 rfl rfl ?_ (hS := (DX.out _ CC.out)) (hy := by (intro w hSw; (try dsimp only at hSw); obtain ⟨q0, q1, q2, q3, q4, q5, q6⟩ := hSw; go_simp; try with_reducible rfl))
  try simp only [Act.put, sA, s0, s1]
  refine wpAnyH_ready (rs := [7]) (by kernel_rfl) (by simp) ?_
  refine AllReadyH.cons rfl (fun K hK => ?_) AllReadyH.nil
  replace hK := Lib.hid hK
  go_simp
  refine (qcheck_any wc e.p HS.out.1).mono ?_
  rintro r wc ⟨rfl, hc⟩
  rw [if_pos (show checkL 6 12 e.p = true from k1.out)]
  replace CC := Lib.hid (CC.out.trans hc)
  clear hc
  refine hK.out _ _ (DX.out _ CC.out) (fun hHeld => ?_)
  clear hK K
  try simp only [Act.put, sA, s0, s1]
  refine sy 8 11 rfl rfl ?_ (hS := (DX.out _ CC.out))
  try simp only [Act.put, sA, s0, s1]
  refine sy 9 12 rfl rfl ?_ (hS := (DX.out _ CC.out))
  try simp only [Act.put, sA, s0, s1]
  refine sy 10 13 rfl rfl ?_ (hS := (DX.out _ CC.out))
  try simp only [Act.put, sA, s0, s1]
  refine sy 11 14 rfl rfl ?_ (hS := (DX.out _ CC.out))
  try simp only [Act.put, sA, s0, s1]
  refine sy 12 15 rfl rfl ?_ (hS := (DX.out _ CC.out)) (hy := by (intro w hSw; (try dsimp only at hSw); obtain ⟨q0, q1, q2, q3, q4, q5, q6⟩ := hSw; go_simp; try with_reducible rfl))
  try simp only [Act.put, sA, s0, s1]
  refine wpAnyH_ready (rs := [13]) (by kernel_rfl) (by simp) ?_
  refine AllReadyH.cons rfl (fun K hK => ?_) AllReadyH.nil
  replace hK := Lib.hid hK
  go_simp
  refine (fcheck_any wc e.k e.m x.A e.b.length x.c HS.out.2.1).mono ?_
  rintro r wc ⟨rfl, hc⟩
  rw [show chkE e.k e.m e.b.length = 0 from k2.out]
  replace CC := Lib.hid (CC.out.trans hc)
  clear hc
  refine hK.out _ _ (DX.out _ CC.out) (fun hHeld => ?_)
  clear hK K
  try simp only [Act.put, sA, s0, s1]
  refine sy 14 17 rfl rfl ?_ (hS := (DX.out _ CC.out))
  try simp only [Act.put, sA, s0, s1]
  refine sy 15 18 rfl rfl ?_ (hS := (DX.out _ CC.out))
  try simp only [Act.put, sA, s0, s1]
  refine sy 16 19 rfl rfl ?_ (hS := (DX.out _ CC.out))
  try simp only [Act.put, sA, s0, s1]
  refine sy 17 20 rfl rfl ?_ (hS := (DX.out _ CC.out))
  try simp only [Act.put, sA, s0, s1]
  refine sy 18 21 rfl rfl ?_ (hS := (DX.out _ CC.out)) (hy := by (intro w hSw; (try dsimp only at hSw); obtain ⟨q0, q1, q2, q3, q4, q5, q6⟩ := hSw; go_simp; try with_reducible rfl))
  try simp only [Act.put, sA, s0, s1]
  refine wpAnyH_ready (rs := [19]) (by kernel_rfl) (by simp) ?_
  refine AllReadyH.cons rfl (fun K hK => ?_) AllReadyH.nil
  replace hK := Lib.hid hK
  go_simp
  refine (qacheck_any wc x.B e.q.length x.bc e.q (by have := HR.out.B.chg CC.out (by simp); rw [HR.out.bl] at this; exact this) HS.out.2.2).mono ?_
  rintro r wc ⟨rfl, hc⟩
  rw [show chkS e.q = 0 from k3.out]
  replace CC := Lib.hid (CC.out.trans hc)
  clear hc
  refine hK.out _ _ (DX.out _ CC.out) (fun hHeld => ?_)
  clear hK K
  try simp only [Act.put, sA, s0, s1]
  refine sy 20 23 rfl rfl ?_ (hS := (DX.out _ CC.out))
  try simp only [Act.put, sA, s0, s1]
  refine sy 21 24 rfl rfl ?_ (hS := (DX.out _ CC.out))
  try simp only [Act.put, sA, s0, s1]
  refine sy 22 25 rfl rfl ?_ (hS := (DX.out _ CC.out))
  try simp only [Act.put, sA, s0, s1]
  refine sy 23 26 rfl rfl ?_ (hS := (DX.out _ CC.out))
  try simp only [Act.put, sA, s0, s1]
  refine sy 24 27 rfl rfl ?_ (hS := (DX.out _ CC.out)) (hy := by (intro w hSw; (try dsimp only at hSw); obtain ⟨q0, q1, q2, q3, q4, q5, q6⟩ := hSw; go_simp; try with_reducible rfl))
  try simp only [Act.put, sA, s0, s1]
  refine sy 25 28 rfl rfl ?_ (hS := (DX.out _ CC.out))
  try simp only [Act.put, sA, s0, s1]
  refine sy 26 29 rfl rfl ?_ (hS := (DX.out _ CC.out))
  try simp only [Act.put, sA, s0, s1]
  refine sy 27 30 rfl rfl ?_ (hS := (DX.out _ CC.out)) (hy := by (intro w hSw; (try dsimp only at hSw); obtain ⟨q0, q1, q2, q3, q4, q5, q6⟩ := hSw; go_simp; try with_reducible rfl))
  try simp only [Act.put, sA, s0, s1]
  refine sy 29 32 rfl rfl ?_ (hS := (DX.out _ CC.out))
  try simp only [Act.put, sA, s0, s1]
  refine sy 30 33 rfl rfl ?_ (hS := (DX.out _ CC.out))
  try simp only [Act.put, sA, s0, s1]
  refine sy 31 34 rfl rfl ?_ (hS := (DX.out _ CC.out)) (hy := by (intro w hSw; (try dsimp only at hSw); obtain ⟨q0, q1, q2, q3, q4, q5, q6⟩ := hSw; go_simp; try with_reducible rfl))
  try simp only [Act.put, sA, s0, s1]
  refine wpAnyH_ready (rs := [28]) (by kernel_rfl) (by simp) ?_
  refine AllReadyH.cons rfl (fun K hK => ?_) AllReadyH.nil
  replace hK := Lib.hid hK
  go_simp
  refine (qlast_any wc x.B x.bc e.q e.n (by have := HR.out.B.chg CC.out (by simp); rw [HR.out.bl] at this; exact this) HS.out.2.2).mono ?_
  rintro r wc ⟨rfl, hc⟩
  rw [LV.out]
  replace CC := Lib.hid (CC.out.trans hc)
  clear hc
  refine hK.out _ _ (DX.out _ CC.out) (fun hHeld => ?_)
  clear hK K
  try simp only [Act.put, sA, s0, s1]
  refine sy 32 35 rfl rfl ?_ (hS := (DX.out _ CC.out))
  try simp only [Act.put, sA, s0, s1]
  refine sy 33 36 rfl rfl ?_ (hS := (DX.out _ CC.out))
  try simp only [Act.put, sA, s0, s1]
  refine wpAnyH_done (by kernel_rfl) ?_ _
  clear hHeld
  go_wp2
  go_ret
  exact ⟨rfl, C.out.trans CC.out⟩

/-- The document's Check of an event, whatever comes. -/
theorem vecheck_any (w : World) (x : EvT) (e : EvP) (h : EvR w x e) (hs : EvSm e) :
    Calls Tryz.prog 15 #[.agg #[.int .i64 x.n, .int .i64 x.s, .string x.p, .int .i64 x.k, .int .i64 x.m, .slice x.A x.l x.c, .slice x.B x.bl x.bc]] w fun r w' => r = .returned (.int .i64 (chkEv e)) ∧ Chg [] w w' := by
  by_cases h0 : evOk e 0
  rotate_left
  · rw [chkEv_no 0 (by omega) h0]
    exact vecheck_0 w x e h hs (fun i hi => by omega) h0
  by_cases h1 : evOk e 1
  rotate_left
  · rw [chkEv_no 1 (by omega) h1]
    exact vecheck_1 w x e h hs (fun i hi => by match i, hi with | 0, _ => exact h0) h1
  by_cases h2 : evOk e 2
  rotate_left
  · rw [chkEv_no 2 (by omega) h2]
    exact vecheck_2 w x e h hs (fun i hi => by match i, hi with | 0, _ => exact h0 | 1, _ => exact h1) h2
  by_cases h3 : evOk e 3
  rotate_left
  · rw [chkEv_no 3 (by omega) h3]
    exact vecheck_3 w x e h hs (fun i hi => by match i, hi with | 0, _ => exact h0 | 1, _ => exact h1 | 2, _ => exact h2) h3
  by_cases h4 : evOk e 4
  rotate_left
  · rw [chkEv_no 4 (by omega) h4]
    exact vecheck_4 w x e h hs (fun i hi => by match i, hi with | 0, _ => exact h0 | 1, _ => exact h1 | 2, _ => exact h2 | 3, _ => exact h3) h4
  have ha : ∀ i, i < 5 → evOk e i := fun i hi => by match i, hi with | 0, _ => exact h0 | 1, _ => exact h1 | 2, _ => exact h2 | 3, _ => exact h3 | 4, _ => exact h4
  rw [chkEv_yes ha]
  exact vecheck_5 w x e h hs ha
end
section
open Go.RowKit Go.Lib
set_option linter.unusedSimpArgs false
set_option linter.unusedVariables false


set_option maxRecDepth 100000 in
set_option maxHeartbeats 16000000 in
theorem veread_any (w : World) (A : Option Addr) (n c : Nat) (xs : List UInt8) (h : Bs w A n xs) (hn : n ≤ 100000) (hcc : n ≤ c ∧ c ≤ 9223372036854775807) :
    Calls Tryz.prog 26 #[.slice A n c] w (ReadEvPost w (readEv xs)) := by
  have hl := h.len
  subst hl
  obtain ⟨w0, hw0, c0, b0, b1⟩ := news2 w (.cells #[.int .i64 0, .int .i64 0, .string ⟨#[]⟩, .int .i64 0, .int .i64 0, .slice none 0 0, .slice none 0 0] 29) (.cells #[.int .i64 0, .int .i64 0] 44)
  have W0 := Lib.hid hw0
  have H := Lib.hid (h.chg c0 (by simp))
  have C0 := Lib.hid c0
  have HN := Lib.hid hn
  have HCC := Lib.hid hcc
  obtain ⟨g0, hg0⟩ : ∃ g, w.heap.size = g := ⟨_, rfl⟩
  obtain ⟨g1, hg1⟩ : ∃ g, w.heap.size + 1 = g := ⟨_, rfl⟩
  have SZ := Lib.hid hg0
  have S1 := Lib.hid hg1
  rw [hg0] at b0
  rw [hg1] at b1
  have B0 := Lib.hid b0
  have B1 := Lib.hid b1
  have L0 := Lib.hid (And.intro (lt_of_heap b0) (lt_of_heap b1))
  have NEg0 : Hid (g0 ≠ g1) := Lib.hid (by omega)
  have NEg1 : Hid (g1 ≠ g0) := Lib.hid (by omega)
  have LZg0 : Hid (g0 ≤ g0) := Lib.hid (Nat.le_refl _)
  have LZg1 : Hid (g0 ≤ g1) := Lib.hid (by omega)
  clear hw0 c0 b0 b1 h hn hcc hg0 hg1
  generalize hRR : readEv xs = RR
  have HRR := Lib.hid hRR
  clear hRR
  go_enter Tryz.func26, Tryz.ntmps26

  go_wp2_with fail
  rw [← W0.out, S1.out, SZ.out]
  refine (us_open w0 w0 A c xs (Chg.refl _ _) H.out HCC.out.1 HCC.out.2 (by have := HN.out; omega)).mono ?_
  rintro e w1 ⟨v, rfl, h1⟩
  have K := Lib.hid h1
  clear h1
  obtain ⟨w2, hw, hc, b5⟩ := news1 w1 (.cells #[.int .i64 0, .int .i64 0, .string ⟨#[]⟩, .int .i64 0, .int .i64 0, .slice none 0 0, .slice none 0 0] 29)
  have WW := Lib.hid hw
  have B5 := Lib.hid b5
  have NB5 : Hid (w1.heap.size ≠ v ∧ w0.heap.size ≤ w1.heap.size) := Lib.hid ⟨by have := K.out.lt; omega, K.out.chg.size⟩
  replace K := Lib.hid (K.out.past hc)
  clear hw hc b5
  go_upto_region 3 with fail
  rw [← WW.out]
  generalize w1.heap.size = g5 at *
  clear WW
  go_wp2_with fail
  have r1 := us_num w0 w2 v A c xs 0 0 0 1 200 K.out
  change Calls _ _ _ _ (fun r w' => r = .returned (.int .i64 (vN1 xs).1) ∧ Us w0 w' v A c xs (vN1 xs).2.1 (vN1 xs).2.2.1 (vN1 xs).2.2.2 ∧ _) at r1
  refine r1.mono ?_
  rintro e w3 ⟨rfl, h3, hc⟩
  replace K := Lib.hid h3
  replace B5 := Lib.hid (hc.at_ B5.out (by simp; exact NB5.out.1))
  clear h3 r1 hc
  have z0 := cell_of B5.out 0
  have fz0 := free_of B5.out 0
  have z1 := cell_of B5.out 1
  have fz1 := free_of B5.out 1
  have z2 := cell_of B5.out 2
  have fz2 := free_of B5.out 2
  have z3 := cell_of B5.out 3
  have fz3 := free_of B5.out 3
  have z4 := cell_of B5.out 4
  have fz4 := free_of B5.out 4
  have z5 := cell_of B5.out 5
  have fz5 := free_of B5.out 5
  have z6 := cell_of B5.out 6
  have fz6 := free_of B5.out 6
  simp only [List.getElem?_toArray, List.getElem?_cons_succ, List.getElem?_cons_zero] at z0 z1 z2 z3 z4 z5 z6
  go_upto_region 4 with fail
  clear z0 z1 z2 z3 z4 z5 z6 fz0 fz1 fz2 fz3 fz4 fz5 fz6
  obtain ⟨p0, p1, p2⟩ := setB0 (.int .i64 (vN1 xs).1) B5.out
  generalize (w3.setCell ⟨g5, 0, none⟩ (.int .i64 (vN1 xs).1)) = w3s at *
  replace B5 := Lib.hid p0
  replace K := Lib.hid (K.out.over p2 (by simp; exact fun q => NB5.out.1 q.symm) (by simp; exact NB5.out.2))
  clear p0 p1 p2
  go_wp2_with fail
  have r1 := us_num w0 w3s v A c xs _ _ _ 1 2147483647 K.out
  change Calls _ _ _ _ (fun r w' => r = .returned (.int .i64 (vN2 xs).1) ∧ Us w0 w' v A c xs (vN2 xs).2.1 (vN2 xs).2.2.1 (vN2 xs).2.2.2 ∧ _) at r1
  refine r1.mono ?_
  rintro e w4 ⟨rfl, h3, hc⟩
  replace K := Lib.hid h3
  replace B5 := Lib.hid (hc.at_ B5.out (by simp; exact NB5.out.1))
  clear h3 r1 hc
  have z0 := cell_of B5.out 0
  have fz0 := free_of B5.out 0
  have z1 := cell_of B5.out 1
  have fz1 := free_of B5.out 1
  have z2 := cell_of B5.out 2
  have fz2 := free_of B5.out 2
  have z3 := cell_of B5.out 3
  have fz3 := free_of B5.out 3
  have z4 := cell_of B5.out 4
  have fz4 := free_of B5.out 4
  have z5 := cell_of B5.out 5
  have fz5 := free_of B5.out 5
  have z6 := cell_of B5.out 6
  have fz6 := free_of B5.out 6
  simp only [List.getElem?_toArray, List.getElem?_cons_succ, List.getElem?_cons_zero] at z0 z1 z2 z3 z4 z5 z6
  go_upto_region 5 with fail
  clear z0 z1 z2 z3 z4 z5 z6 fz0 fz1 fz2 fz3 fz4 fz5 fz6
  obtain ⟨p0, p1, p2⟩ := setB1 (.int .i64 (vN2 xs).1) B5.out
  generalize (w4.setCell ⟨g5, 1, none⟩ (.int .i64 (vN2 xs).1)) = w4s at *
  replace B5 := Lib.hid p0
  replace K := Lib.hid (K.out.over p2 (by simp; exact fun q => NB5.out.1 q.symm) (by simp; exact NB5.out.2))
  clear p0 p1 p2
  have LT : Hid ((vT xs).1.length ≤ xs.length) := Lib.hid (rRaw_le K.out.ple).1
  go_wp2_with fail
  have r1 := us_text w0 w4s v A c xs _ _ _ 77 K.out
  change Calls _ _ _ _ (fun r w' => r = .returned (.string (strOf (vT xs).1)) ∧ Us w0 w' v A c xs (vT xs).2.1 (vT xs).2.2.1 (vT xs).2.2.2 ∧ _) at r1
  refine r1.mono ?_
  rintro e w5 ⟨rfl, h3, hc⟩
  replace K := Lib.hid h3
  replace B5 := Lib.hid (hc.at_ B5.out (by simp; exact NB5.out.1))
  clear h3 r1 hc
  have z0 := cell_of B5.out 0
  have fz0 := free_of B5.out 0
  have z1 := cell_of B5.out 1
  have fz1 := free_of B5.out 1
  have z2 := cell_of B5.out 2
  have fz2 := free_of B5.out 2
  have z3 := cell_of B5.out 3
  have fz3 := free_of B5.out 3
  have z4 := cell_of B5.out 4
  have fz4 := free_of B5.out 4
  have z5 := cell_of B5.out 5
  have fz5 := free_of B5.out 5
  have z6 := cell_of B5.out 6
  have fz6 := free_of B5.out 6
  simp only [List.getElem?_toArray, List.getElem?_cons_succ, List.getElem?_cons_zero] at z0 z1 z2 z3 z4 z5 z6
  go_upto_region 6 with fail
  clear z0 z1 z2 z3 z4 z5 z6 fz0 fz1 fz2 fz3 fz4 fz5 fz6
  obtain ⟨p0, p1, p2⟩ := setB2 (.string (strOf (vT xs).1)) B5.out
  generalize (w5.setCell ⟨g5, 2, none⟩ (.string (strOf (vT xs).1))) = w5s at *
  replace B5 := Lib.hid p0
  replace K := Lib.hid (K.out.over p2 (by simp; exact fun q => NB5.out.1 q.symm) (by simp; exact NB5.out.2))
  clear p0 p1 p2
  have LX : Hid ((vX xs).1.length ≤ xs.length) := Lib.hid (rRaw_le K.out.ple).1
  have LB5 := Lib.hid (lt_of_heap B5.out)
  have KL := Lib.hid K.out.lt
  go_wp2_with fail
  have r1 := us_raw w0 w5s v A c xs _ _ _ 1100 K.out
  change Calls _ _ _ _ (fun r w' => ∃ A1 c1, r = .returned (.slice A1 (vX xs).1.length c1) ∧ OwnB w' A1 c1 (vX xs).1 ∧ (∀ a, A1 = some a → w5s.heap.size ≤ a.block) ∧ Us w0 w' v A c xs (vX xs).2.1 (vX xs).2.2.1 (vX xs).2.2.2 ∧ _) at r1
  refine r1.mono ?_
  rintro e w6 ⟨A6, c6, rfl, o6, n6, h3, hc⟩
  have N6 : Hid (∀ a, A6 = some a → a.block ≠ v ∧ a.block ≠ g5) := Lib.hid (fun a ha => by have := n6 a ha; have := KL.out; have := LB5.out; omega)
  have O6 := Lib.hid o6
  clear o6 n6
  replace K := Lib.hid h3
  replace B5 := Lib.hid (hc.at_ B5.out (by simp; exact NB5.out.1))
  clear h3 r1 hc
  have LP : Hid ((vP xs).1.length ≤ xs.length) := Lib.hid (rRaw_le K.out.ple).1
  go_wp2_with fail
  have r1 := us_raw w0 w6 v A c xs _ _ _ 40000 K.out
  change Calls _ _ _ _ (fun r w' => ∃ A1 c1, r = .returned (.slice A1 (vP xs).1.length c1) ∧ OwnB w' A1 c1 (vP xs).1 ∧ (∀ a, A1 = some a → w6.heap.size ≤ a.block) ∧ Us w0 w' v A c xs (vP xs).2.1 (vP xs).2.2.1 (vP xs).2.2.2 ∧ _) at r1
  refine r1.mono ?_
  rintro e w7 ⟨A7, c7, rfl, o7, n7, h3, hc⟩
  have O7 := Lib.hid o7
  replace O6 := Lib.hid (O6.out.chg hc (fun a ha => by simp; exact (N6.out a ha).1))
  clear o7 n7
  replace K := Lib.hid h3
  replace B5 := Lib.hid (hc.at_ B5.out (by simp; exact NB5.out.1))
  clear h3 r1 hc
  go_wp2_with fail
  have r1 := us_end w0 w7 v A c xs _ _ _ K.out
  change Calls _ _ _ _ (fun r w' => r = .returned (.agg #[.int .i64 (vF xs).1, .int .i64 (vF xs).2]) ∧ _) at r1
  refine r1.mono ?_
  rintro e w8 ⟨rfl, hc⟩
  have C := Lib.hid (K.out.chg.trans hc)
  replace O6 := Lib.hid (O6.out.chg hc (by simp))
  replace O7 := Lib.hid (O7.out.chg hc (by simp))
  replace B5 := Lib.hid (hc.at_ B5.out (by simp))
  replace LB5 := Lib.hid (lt_of_heap B5.out)
  have C8 := Lib.hid C.out.size
  clear hc r1 K
  obtain ⟨w9, hw, hc, b9⟩ := news1 w8 (.cells #[.int .i64 (vF xs).1, .int .i64 (vF xs).2] 44)
  have W9 := Lib.hid hw
  have B9 := Lib.hid b9
  have L89 : Hid (w8.heap.size ≤ w9.heap.size) := Lib.hid hc.size
  replace C := Lib.hid (C.out.trans hc)
  replace O6 := Lib.hid (O6.out.chg hc (by simp))
  replace O7 := Lib.hid (O7.out.chg hc (by simp))
  replace B5 := Lib.hid (hc.at_ B5.out (by simp))
  have LS9 : Hid (w0.heap.size ≤ w8.heap.size) := Lib.hid C8.out
  have N59 : Hid (g5 ≠ w8.heap.size ∧ w0.heap.size ≤ g5) := Lib.hid ⟨by have := LB5.out; omega, NB5.out.2⟩
  have y0 := cell_of b9 0
  have y1 := cell_of b9 1
  simp only [List.getElem?_toArray, List.getElem?_cons_succ, List.getElem?_cons_zero] at y0 y1
  clear hw hc b9
  go_upto_region 9 with fail
  rw [← W9.out]
  generalize w8.heap.size = s9 at *
  clear W9
  by_cases he : (vF xs).1 = 0
  rotate_left
  · have he' : ((vF xs).1 != 0) = true := bne_iff_ne.2 he
    have e2 : RR = (zeroEv, vF xs) := by rw [← HRR.out]; unfold readEv; rw [if_pos he]
    have E2 := Lib.hid e2
    clear e2 he HRR
    go_upto_region 10 with fail
    replace B0 := Lib.hid (C.out.at_ B0.out (by simp))
    replace B1 := Lib.hid (C.out.at_ B1.out (by simp))
    have NE9 : Hid (g0 ≠ s9 ∧ g1 ≠ s9) := Lib.hid (by have := L0.out; have := LS9.out; omega)
    refine wp_region_held_drew (S := fun w' => w'.cell? ⟨s9, 0, none⟩ = some (.int .i64 (vF xs).1) ∧ w'.cell? ⟨s9, 1, none⟩ = some (.int .i64 (vF xs).2)) (by kernel_rfl) ⟨y0, y1⟩ (fun hHeld => ?_)
    have CD := Lib.hid (Chg.refl [] w9).drew
    replace C := Lib.hid (C.out.trans CD.out)
    replace B0 := Lib.hid (CD.out.at_ B0.out (by simp))
    replace B1 := Lib.hid (CD.out.at_ B1.out (by simp))
    replace B9 := Lib.hid (CD.out.at_ B9.out (by simp))
    clear CD hHeld y0 y1
    generalize w9.drew = wc at *
    refine sy 0 35 rfl rfl ?_ (hS := ⟨cell_of B9.out 0, cell_of B9.out 1⟩)
    try simp only [Act.put, sA, s0, s1]
    refine sy 1 36 rfl rfl ?_ (hS := ⟨cell_of B9.out 0, cell_of B9.out 1⟩) (hy := by (intro w hSw; (try dsimp only at hSw); obtain ⟨q0, q1⟩ := hSw; go_simp; try with_reducible rfl))
    try simp only [Act.put, sA, s0, s1]
    refine wpAnyH_ready (rs := [2]) (by kernel_rfl) (by simp) ?_
    refine AllReadyH.cons rfl (fun K hK => ?_) AllReadyH.nil
    replace hK := Lib.hid hK
    have z0 := cell_of B0.out 0
    have fz0 := free_of B0.out 0
    have z1 := cell_of B0.out 1
    have fz1 := free_of B0.out 1
    have z2 := cell_of B0.out 2
    have fz2 := free_of B0.out 2
    have z3 := cell_of B0.out 3
    have fz3 := free_of B0.out 3
    have z4 := cell_of B0.out 4
    have fz4 := free_of B0.out 4
    have z5 := cell_of B0.out 5
    have fz5 := free_of B0.out 5
    have z6 := cell_of B0.out 6
    have fz6 := free_of B0.out 6
    simp only [List.getElem?_toArray, List.getElem?_cons_succ, List.getElem?_cons_zero] at z0 z1 z2 z3 z4 z5 z6
    go_simp
    clear z0 z1 z2 z3 z4 z5 z6 fz0 fz1 fz2 fz3 fz4 fz5 fz6
    obtain ⟨p0, p1, p2⟩ := setA7 (.int .i64 0) (.int .i64 0) (.string ⟨#[]⟩) (.int .i64 0) (.int .i64 0) (.slice none 0 0) (.slice none 0 0) B0.out
    generalize (((((((wc.setCell ⟨g0, 0, none⟩ (.int .i64 0)).setCell ⟨g0, 1, none⟩ (.int .i64 0)).setCell ⟨g0, 2, none⟩ (.string ⟨#[]⟩)).setCell ⟨g0, 3, none⟩ (.int .i64 0)).setCell ⟨g0, 4, none⟩ (.int .i64 0)).setCell ⟨g0, 5, none⟩ (.slice none 0 0)).setCell ⟨g0, 6, none⟩ (.slice none 0 0)) = wa at *
    have Q0 := Lib.hid p0
    have Q1 := Lib.hid (p1 g1 _ NEg0.out B1.out)
    have Q9 := Lib.hid (p1 s9 _ NE9.out.1 B9.out)
    have CA := Lib.hid p2
    clear p0 p1 p2
    refine hK.out _ _ ⟨cell_of Q9.out 0, cell_of Q9.out 1⟩ (fun hHeld => ?_)
    clear hK K
    try simp only [Act.put, sA, s0, s1]
    refine wpAnyH_ready (rs := [3]) (by kernel_rfl) (by simp) ?_
    refine AllReadyH.cons rfl (fun K hK => ?_) AllReadyH.nil
    replace hK := Lib.hid hK
    have y0 := cell_of Q1.out 0
    have fy0 := free_of Q1.out 0
    have y1 := cell_of Q1.out 1
    have fy1 := free_of Q1.out 1
    simp only [List.getElem?_toArray, List.getElem?_cons_succ, List.getElem?_cons_zero] at y0 y1
    go_simp
    clear y0 y1 fy0 fy1
    obtain ⟨p0, p1, p2⟩ := setA2 (.int .i64 (vF xs).1) (.int .i64 (vF xs).2) Q1.out
    generalize ((wa.setCell ⟨g1, 0, none⟩ (.int .i64 (vF xs).1)).setCell ⟨g1, 1, none⟩ (.int .i64 (vF xs).2)) = wz at *
    have P9 := And.intro (p1 g0 _ NEg1.out Q0.out) p0
    have R9 := Lib.hid (p1 s9 _ NE9.out.2 Q9.out)
    have C9 : Chg [g0, g1] wc wz := (CA.out.mono (fun i hi => .inl (by simp at hi; simp [hi]))).trans (p2.mono (fun i hi => .inl (by simp at hi; simp [hi])))
    clear p0 p1 p2
    refine hK.out _ _ ⟨cell_of R9.out 0, cell_of R9.out 1⟩ (fun hHeld => ?_)
    clear hK K
    try simp only [Act.put, sA, s0, s1]
    refine wpAnyH_done (by kernel_rfl) ?_ _
    clear hHeld
    have e2 := E2.out
    subst e2
    go_wp2
    have P0 := Lib.hid P9.1
    have P1 := Lib.hid P9.2
    have z0 := cell_of P0.out 0
    have z1 := cell_of P0.out 1
    have z2 := cell_of P0.out 2
    have z3 := cell_of P0.out 3
    have z4 := cell_of P0.out 4
    have z5 := cell_of P0.out 5
    have z6 := cell_of P0.out 6
    have y0 := cell_of P1.out 0
    have y1 := cell_of P1.out 1
    simp only [List.getElem?_toArray, List.getElem?_cons_succ, List.getElem?_cons_zero] at z0 z1 z2 z3 z4 z5 z6 y0 y1
    refine bodyPost_ret (v := .tuple #[.agg #[.int .i64 0, .int .i64 0, .string ⟨#[]⟩, .int .i64 0, .int .i64 0, .slice none 0 0, .slice none 0 0], .agg #[.int .i64 (vF xs).1, .int .i64 (vF xs).2]]) (by simp [results, Tryz.results26, go_sem, z0, z1, z2, z3, z4, z5, z6, y0, y1]) rfl ?_
    exact ⟨⟨0, 0, ⟨#[]⟩, 0, 0, none, 0, 0, none, 0, 0⟩, rfl, ⟨rfl, rfl, rfl, rfl, rfl, rfl, rfl, Bs.nil _ _, RdK.nil _ _⟩, OwnB.none_ _, OwnK.none_ _, by simp, by simp, by simp, (C0.out.trans C.out).trans' C9 (fun i hi => by simp at hi; have := SZ.out; have := S1.out; rcases hi with rfl | rfl; exact .inr (by omega); exact .inr (by omega))⟩
  have he' : ((vF xs).1 != 0) = false := by simpa using he
  have HE := Lib.hid he
  have VZ := Lib.hid (vF_zero he)
  clear he
  have LZ9 : Hid (s9 ≤ w9.heap.size) := Lib.hid L89.out
  have D9 := Lib.hid (Chg.refl [] w9)
  have LG5 := Lib.hid (lt_of_heap B5.out)
  clear y1
  go_wp2_with fail
  clear y0
  refine (fread_any w9 A6 _ c6 (vX xs).1 O6.out.reads (by have := LX.out; have := HN.out; omega) O6.out.cap.1 (by have := O6.out.cap.2; unfold maxLen at this; omega)).mono ?_
  rintro e w10 ⟨A10, c10, rfl, h10⟩
  have hc := h10.2.2
  have O10 := Lib.hid h10.1
  have N10 := Lib.hid h10.2.1
  have NX10 := Lib.hid h10.1.lt
  replace C := Lib.hid (C.out.trans hc)
  replace D9 := Lib.hid (D9.out.trans hc)
  replace B5 := Lib.hid (hc.at_ B5.out (by simp))
  replace B9 := Lib.hid (hc.at_ B9.out (by simp))
  replace O7 := Lib.hid (O7.out.chg hc (by simp))
  clear hc h10
  have REL : Hid ((readE (vX xs).1).1.2.2.length ≤ (vX xs).1.length) := Lib.hid (readE_len _)
  obtain ⟨RE, hRE⟩ : ∃ q, readE (vX xs).1 = q := ⟨_, rfl⟩
  have HRE := Lib.hid hRE
  rw [hRE] at O10 REL ⊢
  clear hRE
  obtain ⟨w12, hw, hc, b10, b11⟩ := news2 w10 (.cells #[.int .i64 RE.1.1, .int .i64 RE.1.2.1, .slice A10 RE.1.2.2.length c10] 26) (.cells #[.int .i64 RE.2.1, .int .i64 RE.2.2] 44)
  have W12 := Lib.hid hw
  have B10 := Lib.hid b10
  have B11 := Lib.hid b11
  have NE5a : Hid (g5 ≠ w10.heap.size ∧ g5 ≠ w10.heap.size + 1) := Lib.hid (by have := lt_of_heap B5.out; omega)
  clear hw b10 b11
  replace C := Lib.hid (C.out.trans hc)
  replace D9 := Lib.hid (D9.out.trans hc)
  replace B5 := Lib.hid (hc.at_ B5.out (by simp))
  replace B9 := Lib.hid (hc.at_ B9.out (by simp))
  replace O7 := Lib.hid (O7.out.chg hc (by simp))
  replace O10 := Lib.hid (O10.out.chg hc (by simp))
  have LW12 : Hid (w10.heap.size ≤ w12.heap.size) := Lib.hid hc.size
  clear hc
  have L129 := Lib.hid D9.out.size
  go_upto_region 12 with fail
  rw [← W12.out]
  generalize w10.heap.size + 1 = s11 at *
  generalize hs10 : w10.heap.size = s10 at *
  have HS10 := Lib.hid hs10
  clear hs10 W12
  go_wp2_with fail
  refine (qread_any w12 A7 _ c7 (vP xs).1 O7.out.reads (by have := LP.out; have := HN.out; omega) O7.out.cap.1 (by have := O7.out.cap.2; unfold maxLen at this; omega)).mono ?_
  rintro e w13 ⟨A13, c13, rfl, hO, hN, hc⟩
  have P13 := Lib.hid hO
  have N13 := Lib.hid hN
  have NN13 : Hid (∀ a, A13 = some a → w9.heap.size ≤ a.block) := Lib.hid (fun a ha => by have := N13.out a ha; have := L129.out; omega)
  replace C := Lib.hid (C.out.trans hc)
  replace D9 := Lib.hid (D9.out.trans hc)
  replace B5 := Lib.hid (hc.at_ B5.out (by simp))
  replace B9 := Lib.hid (hc.at_ B9.out (by simp))
  replace O7 := Lib.hid (O7.out.chg hc (by simp))
  replace O10 := Lib.hid (O10.out.chg hc (by simp))
  replace B10 := Lib.hid (hc.at_ B10.out (by simp))
  replace B11 := Lib.hid (hc.at_ B11.out (by simp))
  clear hO hN hc
  have QL : Hid ((readS (vP xs).1).1.length ≤ (vP xs).1.length) := Lib.hid (readS_bytes _)
  obtain ⟨QE, hQE⟩ : ∃ q, readS (vP xs).1 = q := ⟨_, rfl⟩
  have HQE := Lib.hid hQE
  rw [hQE] at P13 QL ⊢
  clear hQE
  obtain ⟨w14, hw, hc, b13⟩ := news1 w13 (.cells #[.int .i64 QE.2.1, .int .i64 QE.2.2] 44)
  have W14 := Lib.hid hw
  have B13 := Lib.hid b13
  have NE5b : Hid (g5 ≠ w13.heap.size) := Lib.hid (by have := lt_of_heap B5.out; omega)
  clear hw b13
  replace C := Lib.hid (C.out.trans hc)
  replace D9 := Lib.hid (D9.out.trans hc)
  replace B5 := Lib.hid (hc.at_ B5.out (by simp))
  replace B9 := Lib.hid (hc.at_ B9.out (by simp))
  replace O10 := Lib.hid (O10.out.chg hc (by simp))
  replace B10 := Lib.hid (hc.at_ B10.out (by simp))
  replace B11 := Lib.hid (hc.at_ B11.out (by simp))
  replace P13 := Lib.hid (P13.out.chg hc (by simp))
  clear hc O7 D9
  go_upto_region 13 with fail
  rw [← W14.out]
  generalize w13.heap.size = s13 at *
  clear W14
  have x0 := cell_of B5.out 0
  have fx0 := free_of B5.out 0
  have x1 := cell_of B5.out 1
  have fx1 := free_of B5.out 1
  have x2 := cell_of B5.out 2
  have fx2 := free_of B5.out 2
  have x3 := cell_of B5.out 3
  have fx3 := free_of B5.out 3
  have x4 := cell_of B5.out 4
  have fx4 := free_of B5.out 4
  have x5 := cell_of B5.out 5
  have fx5 := free_of B5.out 5
  have x6 := cell_of B5.out 6
  have fx6 := free_of B5.out 6
  have z0 := cell_of B10.out 0
  have z1 := cell_of B10.out 1
  have z2 := cell_of B10.out 2
  simp only [List.getElem?_toArray, List.getElem?_cons_succ, List.getElem?_cons_zero] at x0 x1 x2 x3 x4 x5 x6 z0 z1 z2
  go_upto_region 14 with fail
  clear x0 x1 x2 x3 x4 x5 x6 z0 z1 z2 fx0 fx1 fx2 fx3 fx4 fx5 fx6
  obtain ⟨p0, p1, p2⟩ := setB3 (.int .i64 RE.1.1) (.int .i64 RE.1.2.1) (.slice A10 RE.1.2.2.length c10) B5.out
  generalize (((w14.setCell ⟨g5, 3, none⟩ (.int .i64 RE.1.1)).setCell ⟨g5, 4, none⟩ (.int .i64 RE.1.2.1)).setCell ⟨g5, 5, none⟩ (.slice A10 RE.1.2.2.length c10)) = wd at *
  replace B5 := Lib.hid p0
  replace B9 := Lib.hid (p1 s9 _ N59.out.1 B9.out)
  replace B10 := Lib.hid (p1 s10 _ NE5a.out.1 B10.out)
  replace B11 := Lib.hid (p1 s11 _ NE5a.out.2 B11.out)
  replace B13 := Lib.hid (p1 s13 _ NE5b.out B13.out)
  replace O10 := Lib.hid (O10.out.chg p2 (fun a ha => by simp; have := N10.out a ha; have := LG5.out; omega))
  replace P13 := Lib.hid (P13.out.chg p2 (fun a ha => by simp; have := NN13.out a ha; have := LG5.out; omega))
  replace C := Lib.hid (C.out.trans' p2 (fun i hi => by simp at hi; subst hi; exact .inr N59.out.2))
  clear p0 p1 p2
  have x0 := cell_of B5.out 0
  have fx0 := free_of B5.out 0
  have x1 := cell_of B5.out 1
  have fx1 := free_of B5.out 1
  have x2 := cell_of B5.out 2
  have fx2 := free_of B5.out 2
  have x3 := cell_of B5.out 3
  have fx3 := free_of B5.out 3
  have x4 := cell_of B5.out 4
  have fx4 := free_of B5.out 4
  have x5 := cell_of B5.out 5
  have fx5 := free_of B5.out 5
  have x6 := cell_of B5.out 6
  have fx6 := free_of B5.out 6
  simp only [List.getElem?_toArray, List.getElem?_cons_succ, List.getElem?_cons_zero] at x0 x1 x2 x3 x4 x5 x6
  go_upto_region 15 with fail
  clear x0 x1 x2 x3 x4 x5 x6 fx0 fx1 fx2 fx3 fx4 fx5 fx6
  obtain ⟨p0, p1, p2⟩ := setB6 (.slice A13 QE.1.length c13) B5.out
  generalize (wd.setCell ⟨g5, 6, none⟩ (.slice A13 QE.1.length c13)) = we at *
  replace B5 := Lib.hid p0
  replace B9 := Lib.hid (p1 s9 _ N59.out.1 B9.out)
  replace B10 := Lib.hid (p1 s10 _ NE5a.out.1 B10.out)
  replace B11 := Lib.hid (p1 s11 _ NE5a.out.2 B11.out)
  replace B13 := Lib.hid (p1 s13 _ NE5b.out B13.out)
  replace O10 := Lib.hid (O10.out.chg p2 (fun a ha => by simp; have := N10.out a ha; have := LG5.out; omega))
  replace P13 := Lib.hid (P13.out.chg p2 (fun a ha => by simp; have := NN13.out a ha; have := LG5.out; omega))
  replace C := Lib.hid (C.out.trans' p2 (fun i hi => by simp at hi; subst hi; exact .inr N59.out.2))
  clear p0 p1 p2
  have ER : Hid (EvR we ⟨(vN1 xs).1, (vN2 xs).1, strOf (vT xs).1, RE.1.1, RE.1.2.1, A10, RE.1.2.2.length, c10, A13, QE.1.length, c13⟩ (evOf xs)) := Lib.hid (by
    have eo : evOf xs = ⟨(vN1 xs).1, (vN2 xs).1, (vT xs).1, RE.1.1, RE.1.2.1, RE.1.2.2, QE.1⟩ := by unfold evOf; rw [HRE.out, HQE.out]
    rw [eo]
    exact ⟨rfl, rfl, rfl, rfl, rfl, rfl, rfl, O10.out.reads, P13.out.reads⟩)
  have ES : Hid (EvSm (evOf xs)) := Lib.hid (by
    have eo : evOf xs = ⟨(vN1 xs).1, (vN2 xs).1, (vT xs).1, RE.1.1, RE.1.2.1, RE.1.2.2, QE.1⟩ := by unfold evOf; rw [HRE.out, HQE.out]
    rw [eo]
    unfold EvSm
    have a1 := HN.out
    have a2 := LT.out
    have a3 := LX.out
    have a4 := LP.out
    have a5 := REL.out
    have a6 := QL.out
    simp only
    omega)
  by_cases k1 : RE.2.1 = 0
  rotate_left
  · skip
    have e2 : RR = (zeroEv, (2, 0)) := HRR.out.symm.trans (readEv_bad HE.out (fun q => k1 (by have r := q.1; rw [HRE.out] at r; exact r)))
    have k1b : (RE.2.1 != 0) = true := bne_iff_ne.2 k1
    have k1c : (RE.2.1 == 0) = false := beq_eq_false_iff_ne.2 k1
    have u0 := cell_of B11.out 0
    have t0 := cell_of B13.out 0
    simp only [List.getElem?_toArray, List.getElem?_cons_succ, List.getElem?_cons_zero] at u0 t0
    go_upto_region 16 with fail
    clear u0 t0 k1b k1c k1
    subst e2
    replace B0 := Lib.hid (C.out.at_ B0.out (by simp))
    replace B1 := Lib.hid (C.out.at_ B1.out (by simp))
    have z0 := cell_of B0.out 0
    have fz0 := free_of B0.out 0
    have z1 := cell_of B0.out 1
    have fz1 := free_of B0.out 1
    have z2 := cell_of B0.out 2
    have fz2 := free_of B0.out 2
    have z3 := cell_of B0.out 3
    have fz3 := free_of B0.out 3
    have z4 := cell_of B0.out 4
    have fz4 := free_of B0.out 4
    have z5 := cell_of B0.out 5
    have fz5 := free_of B0.out 5
    have z6 := cell_of B0.out 6
    have fz6 := free_of B0.out 6
    have y0 := cell_of B1.out 0
    have fy0 := free_of B1.out 0
    have y1 := cell_of B1.out 1
    have fy1 := free_of B1.out 1
    simp only [List.getElem?_toArray, List.getElem?_cons_succ, List.getElem?_cons_zero] at z0 z1 z2 z3 z4 z5 z6 y0 y1
    have d0 : ¬ g0 = g1 := NEg0.out
    have d1 : ¬ g1 = g0 := NEg1.out
    go_wp2
    clear z0 z1 z2 z3 z4 z5 z6 y0 y1 fz0 fz1 fz2 fz3 fz4 fz5 fz6 fy0 fy1
    clear d0 d1
    have P9 := put9 (.int .i64 0) (.int .i64 0) (.string ⟨#[]⟩) (.int .i64 0) (.int .i64 0) (.slice none 0 0) (.slice none 0 0) (.int .i64 2) (.int .i64 0) B0.out B1.out NEg0.out
    have C9 := ((((((((((Chg.refl [g0, g1] we).setCell (p := ⟨g0, 0, none⟩) (.inl (by simp)) (.int .i64 0)).setCell (p := ⟨g0, 1, none⟩) (.inl (by simp)) (.int .i64 0)).setCell (p := ⟨g0, 2, none⟩) (.inl (by simp)) (.string ⟨#[]⟩)).setCell (p := ⟨g0, 3, none⟩) (.inl (by simp)) (.int .i64 0)).setCell (p := ⟨g0, 4, none⟩) (.inl (by simp)) (.int .i64 0)).setCell (p := ⟨g0, 5, none⟩) (.inl (by simp)) (.slice none 0 0)).setCell (p := ⟨g0, 6, none⟩) (.inl (by simp)) (.slice none 0 0)).setCell (p := ⟨g1, 0, none⟩) (.inl (by simp)) (.int .i64 2)).setCell (p := ⟨g1, 1, none⟩) (.inl (by simp)) (.int .i64 0))
    generalize (((((((((we.setCell ⟨g0, 0, none⟩ (.int .i64 0)).setCell ⟨g0, 1, none⟩ (.int .i64 0)).setCell ⟨g0, 2, none⟩ (.string ⟨#[]⟩)).setCell ⟨g0, 3, none⟩ (.int .i64 0)).setCell ⟨g0, 4, none⟩ (.int .i64 0)).setCell ⟨g0, 5, none⟩ (.slice none 0 0)).setCell ⟨g0, 6, none⟩ (.slice none 0 0)).setCell ⟨g1, 0, none⟩ (.int .i64 2)).setCell ⟨g1, 1, none⟩ (.int .i64 0)) = wz at *
    have P0 := Lib.hid P9.1
    have P1 := Lib.hid P9.2
    have z0 := cell_of P0.out 0
    have z1 := cell_of P0.out 1
    have z2 := cell_of P0.out 2
    have z3 := cell_of P0.out 3
    have z4 := cell_of P0.out 4
    have z5 := cell_of P0.out 5
    have z6 := cell_of P0.out 6
    have y0 := cell_of P1.out 0
    have y1 := cell_of P1.out 1
    simp only [List.getElem?_toArray, List.getElem?_cons_succ, List.getElem?_cons_zero] at z0 z1 z2 z3 z4 z5 z6 y0 y1
    refine bodyPost_ret (v := .tuple #[.agg #[.int .i64 0, .int .i64 0, .string ⟨#[]⟩, .int .i64 0, .int .i64 0, .slice none 0 0, .slice none 0 0], .agg #[.int .i64 2, .int .i64 0]]) (by simp [results, Tryz.results26, go_sem, z0, z1, z2, z3, z4, z5, z6, y0, y1]) rfl ?_
    exact ⟨⟨0, 0, ⟨#[]⟩, 0, 0, none, 0, 0, none, 0, 0⟩, rfl, ⟨rfl, rfl, rfl, rfl, rfl, rfl, rfl, Bs.nil _ _, RdK.nil _ _⟩, OwnB.none_ _, OwnK.none_ _, by simp, by simp, by simp, (C0.out.trans C.out).trans' C9 (fun i hi => by simp at hi; have := SZ.out; have := S1.out; rcases hi with rfl | rfl; exact .inr (by omega); exact .inr (by omega))⟩
  by_cases k2 : QE.2.1 = 0
  rotate_left
  · skip
    have e2 : RR = (zeroEv, (2, 0)) := HRR.out.symm.trans (readEv_bad HE.out (fun q => k2 (by have r := q.2.1; rw [HQE.out] at r; exact r)))
    have k2b : (QE.2.1 != 0) = true := bne_iff_ne.2 k2
    have k2c : (QE.2.1 == 0) = false := beq_eq_false_iff_ne.2 k2
    have u0 := cell_of B11.out 0
    have t0 := cell_of B13.out 0
    simp only [List.getElem?_toArray, List.getElem?_cons_succ, List.getElem?_cons_zero] at u0 t0
    rw [k1] at u0
    go_upto_region 16 with fail
    clear u0 t0 k2b k2c k2 k1
    subst e2
    replace B0 := Lib.hid (C.out.at_ B0.out (by simp))
    replace B1 := Lib.hid (C.out.at_ B1.out (by simp))
    have z0 := cell_of B0.out 0
    have fz0 := free_of B0.out 0
    have z1 := cell_of B0.out 1
    have fz1 := free_of B0.out 1
    have z2 := cell_of B0.out 2
    have fz2 := free_of B0.out 2
    have z3 := cell_of B0.out 3
    have fz3 := free_of B0.out 3
    have z4 := cell_of B0.out 4
    have fz4 := free_of B0.out 4
    have z5 := cell_of B0.out 5
    have fz5 := free_of B0.out 5
    have z6 := cell_of B0.out 6
    have fz6 := free_of B0.out 6
    have y0 := cell_of B1.out 0
    have fy0 := free_of B1.out 0
    have y1 := cell_of B1.out 1
    have fy1 := free_of B1.out 1
    simp only [List.getElem?_toArray, List.getElem?_cons_succ, List.getElem?_cons_zero] at z0 z1 z2 z3 z4 z5 z6 y0 y1
    have d0 : ¬ g0 = g1 := NEg0.out
    have d1 : ¬ g1 = g0 := NEg1.out
    go_wp2
    clear z0 z1 z2 z3 z4 z5 z6 y0 y1 fz0 fz1 fz2 fz3 fz4 fz5 fz6 fy0 fy1
    clear d0 d1
    have P9 := put9 (.int .i64 0) (.int .i64 0) (.string ⟨#[]⟩) (.int .i64 0) (.int .i64 0) (.slice none 0 0) (.slice none 0 0) (.int .i64 2) (.int .i64 0) B0.out B1.out NEg0.out
    have C9 := ((((((((((Chg.refl [g0, g1] we).setCell (p := ⟨g0, 0, none⟩) (.inl (by simp)) (.int .i64 0)).setCell (p := ⟨g0, 1, none⟩) (.inl (by simp)) (.int .i64 0)).setCell (p := ⟨g0, 2, none⟩) (.inl (by simp)) (.string ⟨#[]⟩)).setCell (p := ⟨g0, 3, none⟩) (.inl (by simp)) (.int .i64 0)).setCell (p := ⟨g0, 4, none⟩) (.inl (by simp)) (.int .i64 0)).setCell (p := ⟨g0, 5, none⟩) (.inl (by simp)) (.slice none 0 0)).setCell (p := ⟨g0, 6, none⟩) (.inl (by simp)) (.slice none 0 0)).setCell (p := ⟨g1, 0, none⟩) (.inl (by simp)) (.int .i64 2)).setCell (p := ⟨g1, 1, none⟩) (.inl (by simp)) (.int .i64 0))
    generalize (((((((((we.setCell ⟨g0, 0, none⟩ (.int .i64 0)).setCell ⟨g0, 1, none⟩ (.int .i64 0)).setCell ⟨g0, 2, none⟩ (.string ⟨#[]⟩)).setCell ⟨g0, 3, none⟩ (.int .i64 0)).setCell ⟨g0, 4, none⟩ (.int .i64 0)).setCell ⟨g0, 5, none⟩ (.slice none 0 0)).setCell ⟨g0, 6, none⟩ (.slice none 0 0)).setCell ⟨g1, 0, none⟩ (.int .i64 2)).setCell ⟨g1, 1, none⟩ (.int .i64 0)) = wz at *
    have P0 := Lib.hid P9.1
    have P1 := Lib.hid P9.2
    have z0 := cell_of P0.out 0
    have z1 := cell_of P0.out 1
    have z2 := cell_of P0.out 2
    have z3 := cell_of P0.out 3
    have z4 := cell_of P0.out 4
    have z5 := cell_of P0.out 5
    have z6 := cell_of P0.out 6
    have y0 := cell_of P1.out 0
    have y1 := cell_of P1.out 1
    simp only [List.getElem?_toArray, List.getElem?_cons_succ, List.getElem?_cons_zero] at z0 z1 z2 z3 z4 z5 z6 y0 y1
    refine bodyPost_ret (v := .tuple #[.agg #[.int .i64 0, .int .i64 0, .string ⟨#[]⟩, .int .i64 0, .int .i64 0, .slice none 0 0, .slice none 0 0], .agg #[.int .i64 2, .int .i64 0]]) (by simp [results, Tryz.results26, go_sem, z0, z1, z2, z3, z4, z5, z6, y0, y1]) rfl ?_
    exact ⟨⟨0, 0, ⟨#[]⟩, 0, 0, none, 0, 0, none, 0, 0⟩, rfl, ⟨rfl, rfl, rfl, rfl, rfl, rfl, rfl, Bs.nil _ _, RdK.nil _ _⟩, OwnB.none_ _, OwnK.none_ _, by simp, by simp, by simp, (C0.out.trans C.out).trans' C9 (fun i hi => by simp at hi; have := SZ.out; have := S1.out; rcases hi with rfl | rfl; exact .inr (by omega); exact .inr (by omega))⟩
  have u0 := cell_of B11.out 0
  have t0 := cell_of B13.out 0
  simp only [List.getElem?_toArray, List.getElem?_cons_succ, List.getElem?_cons_zero] at u0 t0
  rw [k1] at u0
  rw [k2] at t0
  have z0 := cell_of B5.out 0
  have z1 := cell_of B5.out 1
  have z2 := cell_of B5.out 2
  have z3 := cell_of B5.out 3
  have z4 := cell_of B5.out 4
  have z5 := cell_of B5.out 5
  have z6 := cell_of B5.out 6
  simp only [List.getElem?_toArray, List.getElem?_cons_succ, List.getElem?_cons_zero] at z0 z1 z2 z3 z4 z5 z6
  go_wp2_with fail
  refine (vecheck_any we ⟨(vN1 xs).1, (vN2 xs).1, strOf (vT xs).1, RE.1.1, RE.1.2.1, A10, RE.1.2.2.length, c10, A13, QE.1.length, c13⟩ (evOf xs) ER.out ES.out).mono ?_
  rintro r wf ⟨rfl, hc⟩
  clear z0 z1 z2 z3 z4 z5 z6 
  clear u0 t0
  replace C := Lib.hid (C.out.trans hc)
  replace B5 := Lib.hid (hc.at_ B5.out (by simp))
  replace B9 := Lib.hid (hc.at_ B9.out (by simp))
  replace O10 := Lib.hid (O10.out.chg hc (by simp))
  replace P13 := Lib.hid (P13.out.chg hc (by simp))
  replace ER := Lib.hid (ER.out.chg hc)
  clear hc
  rcases chkEv_two (evOf xs) with k3 | k3
  rotate_left
  · skip
    rw [k3]
    have e2 : RR = (zeroEv, (2, 0)) := HRR.out.symm.trans (readEv_bad HE.out (fun q => absurd (k3.symm.trans q.2.2) (by decide)))
    go_upto_region 16 with fail
    clear k3 k1 k2
    subst e2
    replace B0 := Lib.hid (C.out.at_ B0.out (by simp))
    replace B1 := Lib.hid (C.out.at_ B1.out (by simp))
    have z0 := cell_of B0.out 0
    have fz0 := free_of B0.out 0
    have z1 := cell_of B0.out 1
    have fz1 := free_of B0.out 1
    have z2 := cell_of B0.out 2
    have fz2 := free_of B0.out 2
    have z3 := cell_of B0.out 3
    have fz3 := free_of B0.out 3
    have z4 := cell_of B0.out 4
    have fz4 := free_of B0.out 4
    have z5 := cell_of B0.out 5
    have fz5 := free_of B0.out 5
    have z6 := cell_of B0.out 6
    have fz6 := free_of B0.out 6
    have y0 := cell_of B1.out 0
    have fy0 := free_of B1.out 0
    have y1 := cell_of B1.out 1
    have fy1 := free_of B1.out 1
    simp only [List.getElem?_toArray, List.getElem?_cons_succ, List.getElem?_cons_zero] at z0 z1 z2 z3 z4 z5 z6 y0 y1
    have d0 : ¬ g0 = g1 := NEg0.out
    have d1 : ¬ g1 = g0 := NEg1.out
    go_wp2
    clear z0 z1 z2 z3 z4 z5 z6 y0 y1 fz0 fz1 fz2 fz3 fz4 fz5 fz6 fy0 fy1
    clear d0 d1
    have P9 := put9 (.int .i64 0) (.int .i64 0) (.string ⟨#[]⟩) (.int .i64 0) (.int .i64 0) (.slice none 0 0) (.slice none 0 0) (.int .i64 2) (.int .i64 0) B0.out B1.out NEg0.out
    have C9 := ((((((((((Chg.refl [g0, g1] wf).setCell (p := ⟨g0, 0, none⟩) (.inl (by simp)) (.int .i64 0)).setCell (p := ⟨g0, 1, none⟩) (.inl (by simp)) (.int .i64 0)).setCell (p := ⟨g0, 2, none⟩) (.inl (by simp)) (.string ⟨#[]⟩)).setCell (p := ⟨g0, 3, none⟩) (.inl (by simp)) (.int .i64 0)).setCell (p := ⟨g0, 4, none⟩) (.inl (by simp)) (.int .i64 0)).setCell (p := ⟨g0, 5, none⟩) (.inl (by simp)) (.slice none 0 0)).setCell (p := ⟨g0, 6, none⟩) (.inl (by simp)) (.slice none 0 0)).setCell (p := ⟨g1, 0, none⟩) (.inl (by simp)) (.int .i64 2)).setCell (p := ⟨g1, 1, none⟩) (.inl (by simp)) (.int .i64 0))
    generalize (((((((((wf.setCell ⟨g0, 0, none⟩ (.int .i64 0)).setCell ⟨g0, 1, none⟩ (.int .i64 0)).setCell ⟨g0, 2, none⟩ (.string ⟨#[]⟩)).setCell ⟨g0, 3, none⟩ (.int .i64 0)).setCell ⟨g0, 4, none⟩ (.int .i64 0)).setCell ⟨g0, 5, none⟩ (.slice none 0 0)).setCell ⟨g0, 6, none⟩ (.slice none 0 0)).setCell ⟨g1, 0, none⟩ (.int .i64 2)).setCell ⟨g1, 1, none⟩ (.int .i64 0)) = wz at *
    have P0 := Lib.hid P9.1
    have P1 := Lib.hid P9.2
    have z0 := cell_of P0.out 0
    have z1 := cell_of P0.out 1
    have z2 := cell_of P0.out 2
    have z3 := cell_of P0.out 3
    have z4 := cell_of P0.out 4
    have z5 := cell_of P0.out 5
    have z6 := cell_of P0.out 6
    have y0 := cell_of P1.out 0
    have y1 := cell_of P1.out 1
    simp only [List.getElem?_toArray, List.getElem?_cons_succ, List.getElem?_cons_zero] at z0 z1 z2 z3 z4 z5 z6 y0 y1
    refine bodyPost_ret (v := .tuple #[.agg #[.int .i64 0, .int .i64 0, .string ⟨#[]⟩, .int .i64 0, .int .i64 0, .slice none 0 0, .slice none 0 0], .agg #[.int .i64 2, .int .i64 0]]) (by simp [results, Tryz.results26, go_sem, z0, z1, z2, z3, z4, z5, z6, y0, y1]) rfl ?_
    exact ⟨⟨0, 0, ⟨#[]⟩, 0, 0, none, 0, 0, none, 0, 0⟩, rfl, ⟨rfl, rfl, rfl, rfl, rfl, rfl, rfl, Bs.nil _ _, RdK.nil _ _⟩, OwnB.none_ _, OwnK.none_ _, by simp, by simp, by simp, (C0.out.trans C.out).trans' C9 (fun i hi => by simp at hi; have := SZ.out; have := S1.out; rcases hi with rfl | rfl; exact .inr (by omega); exact .inr (by omega))⟩
  rw [k3]
  have e2 : RR = (evOf xs, (0, 0)) := HRR.out.symm.trans (readEv_good HE.out ⟨by rw [HRE.out]; exact k1, by rw [HQE.out]; exact k2, k3⟩)
  subst e2
  clear k1 k2 k3
  have eo : evOf xs = ⟨(vN1 xs).1, (vN2 xs).1, (vT xs).1, RE.1.1, RE.1.2.1, RE.1.2.2, QE.1⟩ := by unfold evOf; rw [HRE.out, HQE.out]
  have EO := Lib.hid eo
  clear eo
  go_upto_region 17 with fail
  replace B0 := Lib.hid (C.out.at_ B0.out (by simp))
  replace B1 := Lib.hid (C.out.at_ B1.out (by simp))
  rw [VZ.out] at B9
  have t0 := cell_of B5.out 0
  have t1 := cell_of B5.out 1
  have t2 := cell_of B5.out 2
  have t3 := cell_of B5.out 3
  have t4 := cell_of B5.out 4
  have t5 := cell_of B5.out 5
  have t6 := cell_of B5.out 6
  have u0 := cell_of B9.out 0
  have u1 := cell_of B9.out 1
  simp only [List.getElem?_toArray, List.getElem?_cons_succ, List.getElem?_cons_zero] at t0 t1 t2 t3 t4 t5 t6 u0 u1
  refine wp_region_held_drew (S := fun w' => w'.cell? ⟨g5, 0, none⟩ = some (.int .i64 (vN1 xs).1) ∧ w'.cell? ⟨g5, 1, none⟩ = some (.int .i64 (vN2 xs).1) ∧ w'.cell? ⟨g5, 2, none⟩ = some (.string (strOf (vT xs).1)) ∧ w'.cell? ⟨g5, 3, none⟩ = some (.int .i64 RE.1.1) ∧ w'.cell? ⟨g5, 4, none⟩ = some (.int .i64 RE.1.2.1) ∧ w'.cell? ⟨g5, 5, none⟩ = some (.slice A10 RE.1.2.2.length c10) ∧ w'.cell? ⟨g5, 6, none⟩ = some (.slice A13 QE.1.length c13) ∧ w'.cell? ⟨s9, 0, none⟩ = some (.int .i64 0) ∧ w'.cell? ⟨s9, 1, none⟩ = some (.int .i64 0)) (by kernel_rfl) ⟨t0, t1, t2, t3, t4, t5, t6, u0, u1⟩ (fun hHeld => ?_)
  have CD := Lib.hid (Chg.refl [] wf).drew
  clear t0 t1 t2 t3 t4 t5 t6 u0 u1 
  clear hHeld
  replace C := Lib.hid (C.out.trans CD.out)
  replace B5 := Lib.hid (CD.out.at_ B5.out (by simp))
  replace B9 := Lib.hid (CD.out.at_ B9.out (by simp))
  replace B0 := Lib.hid (CD.out.at_ B0.out (by simp))
  replace B1 := Lib.hid (CD.out.at_ B1.out (by simp))
  replace O10 := Lib.hid (O10.out.chg CD.out (by simp))
  replace P13 := Lib.hid (P13.out.chg CD.out (by simp))
  replace ER := Lib.hid (ER.out.chg CD.out)
  clear CD
  generalize wf.drew = wc at *
  have N14 : Hid (g0 ≠ g5 ∧ g1 ≠ g5 ∧ g0 ≠ s9 ∧ g1 ≠ s9) := Lib.hid (by have := L0.out; have := N59.out; have := LS9.out; omega)
  refine sy 0 66 rfl rfl ?_ (hS := ⟨cell_of B5.out 0, cell_of B5.out 1, cell_of B5.out 2, cell_of B5.out 3, cell_of B5.out 4, cell_of B5.out 5, cell_of B5.out 6, cell_of B9.out 0, cell_of B9.out 1⟩) (hy := by (intro w hSw; (try dsimp only at hSw); obtain ⟨q0, q1, q2, q3, q4, q5, q6, q7, q8⟩ := hSw; go_simp; try with_reducible rfl))
  try simp only [Act.put, sA, s0, s1]
  refine sy 1 67 rfl rfl ?_ (hS := ⟨cell_of B5.out 0, cell_of B5.out 1, cell_of B5.out 2, cell_of B5.out 3, cell_of B5.out 4, cell_of B5.out 5, cell_of B5.out 6, cell_of B9.out 0, cell_of B9.out 1⟩) (hy := by (intro w hSw; (try dsimp only at hSw); obtain ⟨q0, q1, q2, q3, q4, q5, q6, q7, q8⟩ := hSw; go_simp; try with_reducible rfl))
  try simp only [Act.put, sA, s0, s1]
  refine wpAnyH_ready (rs := [2]) (by kernel_rfl) (by simp) ?_
  refine AllReadyH.cons rfl (fun K hK => ?_) AllReadyH.nil
  replace hK := Lib.hid hK
  have z0 := cell_of B0.out 0
  have fz0 := free_of B0.out 0
  have z1 := cell_of B0.out 1
  have fz1 := free_of B0.out 1
  have z2 := cell_of B0.out 2
  have fz2 := free_of B0.out 2
  have z3 := cell_of B0.out 3
  have fz3 := free_of B0.out 3
  have z4 := cell_of B0.out 4
  have fz4 := free_of B0.out 4
  have z5 := cell_of B0.out 5
  have fz5 := free_of B0.out 5
  have z6 := cell_of B0.out 6
  have fz6 := free_of B0.out 6
  simp only [List.getElem?_toArray, List.getElem?_cons_succ, List.getElem?_cons_zero] at z0 z1 z2 z3 z4 z5 z6
  go_simp
  clear z0 z1 z2 z3 z4 z5 z6 fz0 fz1 fz2 fz3 fz4 fz5 fz6
  obtain ⟨p0, p1, p2⟩ := setA7 (.int .i64 (vN1 xs).1) (.int .i64 (vN2 xs).1) (.string (strOf (vT xs).1)) (.int .i64 RE.1.1) (.int .i64 RE.1.2.1) (.slice A10 RE.1.2.2.length c10) (.slice A13 QE.1.length c13) B0.out
  generalize (((((((wc.setCell ⟨g0, 0, none⟩ (.int .i64 (vN1 xs).1)).setCell ⟨g0, 1, none⟩ (.int .i64 (vN2 xs).1)).setCell ⟨g0, 2, none⟩ (.string (strOf (vT xs).1))).setCell ⟨g0, 3, none⟩ (.int .i64 RE.1.1)).setCell ⟨g0, 4, none⟩ (.int .i64 RE.1.2.1)).setCell ⟨g0, 5, none⟩ (.slice A10 RE.1.2.2.length c10)).setCell ⟨g0, 6, none⟩ (.slice A13 QE.1.length c13)) = wa at *
  have Q0 := Lib.hid p0
  have Q1 := Lib.hid (p1 g1 _ NEg0.out B1.out)
  have Q5 := Lib.hid (p1 g5 _ N14.out.1 B5.out)
  have Q9 := Lib.hid (p1 s9 _ N14.out.2.2.1 B9.out)
  have CA := Lib.hid p2
  clear p0 p1 p2
  refine hK.out _ _ ⟨cell_of Q5.out 0, cell_of Q5.out 1, cell_of Q5.out 2, cell_of Q5.out 3, cell_of Q5.out 4, cell_of Q5.out 5, cell_of Q5.out 6, cell_of Q9.out 0, cell_of Q9.out 1⟩ (fun hHeld => ?_)
  clear hK K
  try simp only [Act.put, sA, s0, s1]
  refine wpAnyH_ready (rs := [3]) (by kernel_rfl) (by simp) ?_
  refine AllReadyH.cons rfl (fun K hK => ?_) AllReadyH.nil
  replace hK := Lib.hid hK
  have y0 := cell_of Q1.out 0
  have fy0 := free_of Q1.out 0
  have y1 := cell_of Q1.out 1
  have fy1 := free_of Q1.out 1
  simp only [List.getElem?_toArray, List.getElem?_cons_succ, List.getElem?_cons_zero] at y0 y1
  go_simp
  clear y0 y1 fy0 fy1
  obtain ⟨p0, p1, p2⟩ := setA2 (.int .i64 0) (.int .i64 0) Q1.out
  generalize ((wa.setCell ⟨g1, 0, none⟩ (.int .i64 0)).setCell ⟨g1, 1, none⟩ (.int .i64 0)) = wz at *
  have P9 := And.intro (p1 g0 _ NEg1.out Q0.out) p0
  have R5 := Lib.hid (p1 g5 _ N14.out.2.1 Q5.out)
  have R9 := Lib.hid (p1 s9 _ N14.out.2.2.2 Q9.out)
  have C9 : Chg [g0, g1] wc wz := (CA.out.mono (fun i hi => .inl (by simp at hi; simp [hi]))).trans (p2.mono (fun i hi => .inl (by simp at hi; simp [hi])))
  clear p0 p1 p2
  refine hK.out _ _ ⟨cell_of R5.out 0, cell_of R5.out 1, cell_of R5.out 2, cell_of R5.out 3, cell_of R5.out 4, cell_of R5.out 5, cell_of R5.out 6, cell_of R9.out 0, cell_of R9.out 1⟩ (fun hHeld => ?_)
  clear hK K
  try simp only [Act.put, sA, s0, s1]
  refine wpAnyH_done (by kernel_rfl) ?_ _
  clear hHeld
  go_wp2
  have P0 := Lib.hid P9.1
  have P1 := Lib.hid P9.2
  have z0 := cell_of P0.out 0
  have z1 := cell_of P0.out 1
  have z2 := cell_of P0.out 2
  have z3 := cell_of P0.out 3
  have z4 := cell_of P0.out 4
  have z5 := cell_of P0.out 5
  have z6 := cell_of P0.out 6
  have y0 := cell_of P1.out 0
  have y1 := cell_of P1.out 1
  simp only [List.getElem?_toArray, List.getElem?_cons_succ, List.getElem?_cons_zero] at z0 z1 z2 z3 z4 z5 z6 y0 y1
  refine bodyPost_ret (v := .tuple #[.agg #[.int .i64 (vN1 xs).1, .int .i64 (vN2 xs).1, .string (strOf (vT xs).1), .int .i64 RE.1.1, .int .i64 RE.1.2.1, .slice A10 RE.1.2.2.length c10, .slice A13 QE.1.length c13], .agg #[.int .i64 0, .int .i64 0]]) (by simp [results, Tryz.results26, go_sem, z0, z1, z2, z3, z4, z5, z6, y0, y1]) rfl ?_
  refine ⟨⟨(vN1 xs).1, (vN2 xs).1, strOf (vT xs).1, RE.1.1, RE.1.2.1, A10, RE.1.2.2.length, c10, A13, QE.1.length, c13⟩, rfl, ⟨ER.out.n, ER.out.s, ER.out.p, ER.out.k, ER.out.m, ER.out.l, ER.out.bl, ER.out.A.chg C9 (fun a ha => by have := N10.out a ha; have := L0.out; have := LS9.out; have := LZ9.out; simp; omega), ER.out.B.chg C9 (fun a ha => by have := NN13.out a ha; have := L0.out; have := LS9.out; have := LZ9.out; simp; omega)⟩, ?_, ?_, ?_, ?_, ?_, ?_⟩
  · rw [EO.out]
    exact O10.out.chg C9 (fun a ha => by have := N10.out a ha; have := L0.out; have := LS9.out; have := LZ9.out; simp; omega)
  · rw [EO.out]
    exact P13.out.chg C9 (fun a ha => by have := NN13.out a ha; have := L0.out; have := LS9.out; have := LZ9.out; simp; omega)
  · exact fun a ha => by have := N10.out a ha; have := C0.out.size; have := LS9.out; have := LZ9.out; omega
  · exact fun a ha => by have := NN13.out a ha; have := C0.out.size; have := LS9.out; have := LZ9.out; omega
  · exact fun a b ha hb => by have := NX10.out a ha; have := N13.out b hb; have := LW12.out; omega
  · exact (C0.out.trans C.out).trans' C9 (fun i hi => by simp at hi; have := SZ.out; have := S1.out; rcases hi with rfl | rfl; exact .inr (by omega); exact .inr (by omega))
end
end Go.Proofs.YtgbidlhgmeglmaaGreatDoor
