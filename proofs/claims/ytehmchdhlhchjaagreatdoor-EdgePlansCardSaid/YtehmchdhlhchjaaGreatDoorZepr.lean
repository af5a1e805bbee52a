/- Shelves: purely. An event put on a shelf, as the document goes through it, and as the program does: purely. What a shelf is with one event more: purely. The document's parts. The document's cut. The document's Check. path.Under and the document's. path.Near, the document's Under and Near. The document's Under and Near. strings.Split at the byte 47. path.compare, path.Less: texts held against one another by their parts. Paths, purely: the order of texts by their parts. Orders, purely. Stores of closed events: purely. -/
import Derived.Test.YtehmchdhlhchjaaGreatDoorZepq
import Derived.Test.YtehmchdhlhchjaaGreatDoorZepm
import Derived.Test.YtehmchdhlhchjaaGreatDoorZepb
import Derived.Deep.QuietTactic
import Derived.BigQuiet
import Derived.Deep.RegionHeld3
import Derived.Test.YtehmchdhlhchjaaGreatDoorZepc
import Derived.Shelf.Small.Wraps
import Derived.Shelf.Strings.Prefix
import Derived.Shelf.Strings.Count
import Derived.Shelf.Small.Strs
set_option linter.unusedSimpArgs false
set_option linter.unusedVariables false
set_option maxHeartbeats 32000000
namespace Go.Proofs.YtehmchdhlhchjaaGreatDoor
section
open Go.RowKit Go.Lib

def LtEv (a b : EvP) : Prop := LtD a.n a.s b.n b.s
instance (a b : EvP) : Decidable (LtEv a b) := by unfold LtEv; exact inferInstance
theorem LtEv.irr (a : EvP) : ¬ LtEv a a := by unfold LtEv LtD; omega
theorem LtEv.tr {a b c : EvP} (h : LtEv a b) (k : LtEv b c) : LtEv a c := by unfold LtEv LtD at *; omega
def ShOk (l : List EvP) : Prop := (∀ e ∈ l, chkEv e = 0) ∧ (∀ e ∈ l, ∀ f ∈ l, e.p = f.p) ∧ l.Pairwise LtEv ∧ ∀ e ∈ l, ∀ f ∈ l, aheadP e f = false
instance (l : List EvP) : Decidable (ShOk l) := by unfold ShOk; exact inferInstance
def shE (l : List EvP) : Int := if ShOk l then 0 else 2
/-! Closed events -/
end
section
open Go.RowKit Go.Lib

theorem shE_zero {l : List EvP} : shE l = 0 ↔ ShOk l := by unfold shE; split <;> simp_all
theorem shE_two (l : List EvP) : shE l = 0 ∨ shE l = 2 := by unfold shE; split <;> simp
theorem EvsR.ins {w : World} {xs : List EvT} {es : List EvP} {y : EvT} {f : EvP} (h : EvsR w xs es) (r : EvR w y f) (i : Nat) : EvsR w (xs.take i ++ y :: xs.drop i) (es.take i ++ f :: es.drop i) := by
 have h1 := h.1
 refine ⟨by simp [h1], fun j x e hx he => ?_⟩
 by_cases q : j < i
 ·
  by_cases q2 : j < xs.length
  ·
   rw [List.getElem?_append_left (by rw [List.length_take]; omega), List.getElem?_take, if_pos q] at hx
   rw [List.getElem?_append_left (by rw [List.length_take]; omega), List.getElem?_take, if_pos q] at he
   exact h.2 j x e hx he
  ·
   rw [List.take_of_length_le (by omega), List.drop_of_length_le (by omega)] at hx
   rw [List.take_of_length_le (by omega), List.drop_of_length_le (by omega)] at he
   rw [List.getElem?_append_right (by omega)] at hx
   rw [List.getElem?_append_right (by omega)] at he
   rw [h1] at hx
   cases hk : j - es.length with
   | zero => rw [hk] at hx he; simp at hx he; rw [← hx, ← he]; exact r
   | succ m => rw [hk] at hx; simp at hx
 ·
  by_cases q3 : xs.length < i
  ·
   rw [List.take_of_length_le (by omega), List.drop_of_length_le (by omega)] at hx
   rw [List.take_of_length_le (by omega), List.drop_of_length_le (by omega)] at he
   rw [List.getElem?_append_right (by omega)] at hx
   rw [List.getElem?_append_right (by omega)] at he
   rw [h1] at hx
   cases hk : j - es.length with
   | zero => rw [hk] at hx he; simp at hx he; rw [← hx, ← he]; exact r
   | succ m => rw [hk] at hx; simp at hx
  ·
   have l1 : (xs.take i).length = i := by rw [List.length_take]; omega
   have l2 : (es.take i).length = i := by rw [List.length_take]; omega
   rw [List.getElem?_append_right (by omega), l1] at hx
   rw [List.getElem?_append_right (by omega), l2] at he
   cases hk : j - i with
   | zero => rw [hk] at hx he; simp at hx he; rw [← hx, ← he]; exact r
   | succ m =>
    rw [hk] at hx he
    rw [List.getElem?_cons_succ, List.getElem?_drop] at hx he
    exact h.2 _ x e hx he
end
section
open Go.RowKit
theorem okB_iff (b : UInt8) : okB b = true ↔ (97 ≤ (b.toNat : Int) ∧ (b.toNat : Int) ≤ 122) ∨ (48 ≤ (b.toNat : Int) ∧ (b.toNat : Int) ≤ 57) ∨ (b.toNat : Int) = 46 ∨ (b.toNat : Int) = 95 ∨ (b.toNat : Int) = 45 := by
 have h := foreign_byte b
 have : okB b = !foreignR b.toNat := by rw [h]; simp
 rw [this]
 simp [foreignR]
 omega
theorem okB_not (b : UInt8) : okB b = false ↔ ¬ ((97 ≤ (b.toNat : Int) ∧ (b.toNat : Int) ≤ 122) ∨ (48 ≤ (b.toNat : Int) ∧ (b.toNat : Int) ≤ 57) ∨ (b.toNat : Int) = 46 ∨ (b.toNat : Int) = 95 ∨ (b.toNat : Int) = 45) := by
 rw [← okB_iff]
 simp
theorem part_bad {l : List UInt8} {k : Nat} (h : k < l.length) (hb : okB l[k] = false) : partL 12 l = false := by
 have : l.all okB = false := by
  rw [List.all_eq_false]
  exact ⟨l[k], List.getElem_mem h, by simp [hb]⟩
 simp [partL, this]
theorem strOf_get (l : List UInt8) (k : Nat) (h : k < (strOf l).size) (h' : k < l.length) : (strOf l)[k] = l[k] := by
 show (strOf l).data[k] = l[k]
 simp [strOf]
theorem qpart_any (w : World) (l : List UInt8) (hlen : l.length ≤ 140737488351232) :
    Calls Tryz.prog 203 #[.string (strOf l)] w fun e w' => e = .returned (.bool (partL 12 l)) ∧ w' = w := by
  have hs := strOf_size l
  go_enter Tryz.func203, Tryz.ntmps203
  go_wp2
  go_loopw [3, 4] (fun v3 v4 wr => ∃ k : Nat, k ≤ l.length ∧ v3 = .int .i64 (k : Int) ∧ (l.take k).all okB = true ∧ wr = w) (fun v3 _ _ => l.length - (RowKit.intOf v3).toNat)
  case atStart => exact ⟨0, Nat.zero_le _, rfl, rfl, rfl⟩
  case round =>
    obtain ⟨k, hk, rfl, hall, rfl⟩ := hrel
    by_cases hlt : k < l.length
    · have ex := List.getElem?_eq_getElem hlt
      have i0 : (0 : Int) ≤ (k : Int) := by omega
      have i1 : (k : Int) < ((strOf l).size : Int) := by omega
      have hb := strOf_get l k (by omega) hlt
      have HB := h_ hb
      have HA := h_ hall
      clear hb hall ex; go_wp2
      all_goals (try simp only [bne_iff_ne, ne_eq, bne_eq_false_iff_eq] at *)
      all_goals first
        | (go_ret; exact ⟨by rw [part_bad hlt (by rw [← HB.out, okB_not]; omega)]; rfl, rfl⟩)
        | (refine ⟨⟨k + 1, by omega, by simp, ?_, trivial⟩, by simp [RowKit.intOf]; omega⟩
           have ho : okB l[k] = true := by rw [← HB.out, okB_iff]; omega
           rw [List.take_succ_eq_append_getElem hlt, List.all_append, HA.out]
           simp [ho])
    · obtain rfl : k = l.length := by omega
      rw [List.take_length] at hall
      have HA := h_ hall
      clear hall; go_wp2
      all_goals (try simp only [bne_iff_ne, ne_eq, bne_eq_false_iff_eq] at *)
      all_goals
        go_ret
        refine ⟨congrArg (fun b => Ending.returned (Value.bool b)) ?_, rfl⟩
        rw [Bool.eq_iff_iff]
        simp [partL, HA.out]
      all_goals first
        | (intros; omega)
        | (intro a b c; exact absurd (by assumption) c)
end
section
open Go.RowKit
theorem own_app {w w6 w7 : World} {B A2 : Option Addr} (hB : ∀ a, B = some a → w.heap.size ≤ a.block) (hC : Chg [] w w6) (d2 : w6.grownBy w7 (B.map (·.block))) (e2 : A2 = B ∨ A2 = some ⟨w6.heap.size, 0, none⟩) : (∀ a, A2 = some a → w.heap.size ≤ a.block) ∧ Chg [] w w7 := by
 refine ⟨?_, hC.grown d2 (fun i hi => ?_)⟩
 ·
  rcases e2 with rfl | rfl
  ·
   exact hB
  ·
   rintro a ⟨⟩; exact hC.size
 ·
  cases B with
  | none => simp at hi
  | some a => simp at hi; subst hi; exact .inr (hB a rfl)
theorem cut_mid (l : List UInt8) (fr i : Nat) (hi : i < l.length) (hfi : fr ≤ i) :
  cutA ((l.drop fr).take (i - fr)) (l.drop i) = if l[i] = 47 then (l.drop fr).take (i - fr) :: cutA ((l.drop (i + 1)).take 0) (l.drop (i + 1)) else cutA ((l.drop fr).take (i + 1 - fr)) (l.drop (i + 1)) := by
 rw [List.drop_eq_getElem_cons hi, cutA]
 split
 ·
  simp
 ·
  congr 1
  rw [show i + 1 - fr = (i - fr) + 1 by omega, List.take_succ_eq_append_getElem (by simp; omega)]
  congr 2
  rw [List.getElem_drop]
  congr 1
  omega
set_option maxRecDepth 100000 in
theorem qcut_any (w : World) (l : List UInt8) (hlen : l.length ≤ 10000000) :
  Calls Tryz.prog 123 #[.string (strOf l)] w fun e w' => ∃ A c, e = .returned (.slice A (cutL l).length c) ∧ OwnK textTy w' A c (cutL l) ∧ (∀ a, A = some a → w.heap.size ≤ a.block) ∧ Chg [] w w' := by
 have hs := strOf_size l
 go_enter Tryz.func123, Tryz.ntmps123
 go_wp2
 go_loopw [3, 4, 5] (fun v3 v4 v5 wr => ∃ (i fr : Nat) (out : List (List UInt8)) (B : Option Addr) (c : Nat), i ≤ l.length ∧ fr ≤ i ∧ v3 = .slice B out.length c ∧ v4 = .int .i64 (fr : Int) ∧ v5 = .int .i64 (i : Int) ∧ Hid (out ++ cutA ((l.drop fr).take (i - fr)) (l.drop i) = cutL l ∧ out.length ≤ i) ∧ Hid (OwnK textTy wr B c out ∧ (∀ a, B = some a → w.heap.size ≤ a.block) ∧ Chg [] w wr)) (fun _ _ v5 _ => l.length - (RowKit.intOf v5).toNat)
 case atStart => exact ⟨0, 0, [], none, 0, Nat.zero_le _, Nat.le_refl _, rfl, rfl, rfl, ⟨rfl, Nat.le_refl _⟩, OwnK.none_ _, by simp, Chg.refl _ _⟩
 case round =>
  obtain ⟨i, fr, out, B, c, hi, hfi, rfl, rfl, rfl, HC, HI⟩ := hrel
  by_cases hlt : i < l.length
  ·
   have hm := cut_mid l fr i hlt hfi
   have hb := strOf_get l i (by omega) hlt
   have i0 : (0 : Int) ≤ (i : Int) := by omega
   have i1 : (i : Int) < ((strOf l).size : Int) := by omega
   have k1 : IntKind.i64.wrap ((i : Int) + 1) = (i : Int) + 1 := IntWalk.i64_in _ (by omega)
   by_cases h47 : l[i] = 47
   ·
    rw [if_pos h47] at hm
    have HM := h_ hm
    have hb2 : (((strOf l)[i].toNat : Int) == 47) = true := by rw [hb, h47]; rfl
    clear hm h47 hb
    have i2 : (fr : Int) ≤ (i : Int) := by omega
    have i3 : (i : Int) ≤ ((strOf l).size : Int) := by omega
    have i4 : (0 : Int) ≤ (fr : Int) := by omega
    have i5 : i ≤ (strOf l).size := by omega
    have ee : (strOf l).extract fr i = strOf ((l.drop fr).take (i - fr)) := strOf_ext l fr i
    generalize (l.drop fr).take (i - fr) = p at *
    obtain ⟨w5, hw5, c5, b5⟩ := news1 wr (.cells #[.string (strOf p)] 9)
    have W5 := h_ hw5
    have R5 := h_ (OwnK.of (R := textTy) (c := 1) (full := [p]) (xs := [p]) b5 (Nat.le_refl _) (by decide) rfl rfl).reads
    have O5 := h_ (HI.out.1.chg c5 (by simp))
    have BND := h_ (show (out.length + 1) * 400 ≤ 140737488355327 by have := HC.out.2; omega)
    have C5 := h_ (HI.out.2.2.trans c5)
    clear hw5 c5 b5
    go_wp2_with (at_builtin; rw [← W5.out]; refine wpList_appK (R := textTy) rfl _ _ rfl rfl O5.out rfl rfl R5.out BND.out ?_; intro A2 c2 w7 u2 d2 e2)
    have AO := own_app (w := w) HI.out.2.1 C5.out d2 e2
    refine ⟨⟨i + 1, i + 1, out ++ [p], A2, c2, by omega, Nat.le_refl _, by simp, by simp, by simp, ⟨?_, ?_⟩, ⟨u2, AO.1, AO.2⟩⟩, by simp [RowKit.intOf]; omega⟩
    ·
     rw [← HC.out.1, HM.out, Nat.sub_self]
     simp
    ·
     have := HC.out.2
     simp
     omega
   ·
    rw [if_neg h47] at hm
    have HM := h_ hm
    have hb2 : (((strOf l)[i].toNat : Int) == 47) = false := by
     rw [hb, beq_eq_false_iff_ne]
     intro e
     have : l[i].toNat = (47 : UInt8).toNat := by rw [show (47 : UInt8).toNat = 47 from rfl]; omega
     exact h47 (UInt8.toNat_inj.1 this)
    clear hm h47 hb; go_wp2
    exact ⟨⟨i + 1, fr, out, B, c, by omega, by omega, rfl, rfl, by simp, ⟨by rw [← HC.out.1, HM.out], by have := HC.out.2; omega⟩, HI⟩, by simp [RowKit.intOf]; omega⟩
  ·
   obtain rfl : i = l.length := by omega
   have hp : (l.drop fr).take (l.length - fr) = l.drop fr := List.take_of_length_le (by simp)
   have hc := HC.out.1
   rw [hp, List.drop_length, cutA] at hc
   have i2 : (fr : Int) ≤ ((strOf l).size : Int) := by omega
   have i4 : (0 : Int) ≤ (fr : Int) := by omega
   have i5 : fr ≤ (strOf l).size := by omega
   have ee : (strOf l).extract fr (strOf l).size = strOf (l.drop fr) := by rw [strOf_ext, hs, hp]
   rw [hs] at ee
   generalize l.drop fr = p at *
   obtain ⟨w5, hw5, c5, b5⟩ := news1 wr (.cells #[.string (strOf p)] 9)
   have W5 := h_ hw5
   have R5 := h_ (OwnK.of (R := textTy) (c := 1) (full := [p]) (xs := [p]) b5 (Nat.le_refl _) (by decide) rfl rfl).reads
   have O5 := h_ (HI.out.1.chg c5 (by simp))
   have BND := h_ (show (out.length + 1) * 400 ≤ 140737488355327 by have := HC.out.2; omega)
   have C5 := h_ (HI.out.2.2.trans c5)
   have HC2 := h_ hc
   clear hw5 c5 b5 hc hp HC
   go_wp2_with (at_builtin; rw [← W5.out]; refine wpList_appK (R := textTy) rfl _ _ rfl rfl O5.out rfl rfl R5.out BND.out ?_; intro A2 c2 w7 u2 d2 e2)
   go_ret
   have AO := own_app (w := w) HI.out.2.1 C5.out d2 e2
   exact ⟨A2, c2, by rw [← HC2.out]; simp, by rw [← HC2.out]; exact u2, AO.1, AO.2⟩
end
section
open Go.RowKit
theorem cutA_short : ∀ (l acc x : List UInt8), x ∈ cutA acc l → x.length ≤ acc.length + l.length
 | [], acc, x, h => by simp [cutA] at h; subst h; simp
 | b :: l, acc, x, h => by
  unfold cutA at h
  split at h
  ·
   rcases List.mem_cons.1 h with rfl | h
   ·
    omega
   ·
    have := cutA_short l [] x h
    simp at this
    simp
    omega
  ·
   have := cutA_short l _ x h
   simp at this
   simp
   omega
theorem all_bad {xs : List (List UInt8)} {k : Nat} (h : k < xs.length) (hb : partL 12 xs[k] = false) : xs.all (partL 12) = false := by
 rw [List.all_eq_false]
 exact ⟨xs[k], List.getElem_mem h, by simp [hb]⟩
set_option maxRecDepth 100000 in
theorem qcheck_any (w : World) (l : List UInt8) (hlen : l.length ≤ 10000000) :
  Calls Tryz.prog 175 #[.string (strOf l)] w fun e w' => e = .returned (.int .i64 (if checkL 6 12 l then 0 else 2)) ∧ Chg [] w w' := by
 have hne := cutA_ne [] l
 have hxl : ∀ x ∈ cutL l, x.length ≤ 10000000 := fun x hx => by have := cutA_short l [] x hx; simp at this; omega
 have hxs := cutA_len l []
 have hck : checkL 6 12 l = (decide ((cutL l).length ≤ 6) && (cutL l).all (partL 12)) := rfl
 rw [hck]
 rw [show cutA [] l = cutL l from rfl] at hne hxs
 have QC := h_ (fun w => qcut_any w l hlen)
 clear hck
 generalize cutL l = xs at *
 obtain ⟨v, hv⟩ : ∃ v : Int, v = if (decide (xs.length ≤ 6) && xs.all (partL 12)) = true then 0 else 2 := ⟨_, rfl⟩
 rw [← hv]
 have HV := h_ hv
 have HX := h_ hxl
 clear hv hxl
 go_enter Tryz.func175, Tryz.ntmps175
 go_wp2_with fail
 refine (QC.out _).mono ?_
 rintro e w1 ⟨A, c, rfl, own, hA, hc⟩
 have OW := h_ own
 have HC := h_ hc
 clear own hA hc
 by_cases h6 : 6 < xs.length
 ·
  have i6 : (6 : Int) < (xs.length : Int) := by omega
  have i7 : ¬ xs.length ≤ 6 := by omega
  go_wp2; go_ret
  exact ⟨by rw [HV.out]; simp [i7], HC.out⟩
 ·
  have i6 : ¬ ((6 : Int) < (xs.length : Int)) := by omega
  have i7 : xs.length ≤ 6 := by omega
  go_wp2
  go_loopw [4] (fun v4 wr => ∃ k : Nat, k ≤ xs.length ∧ v4 = .int .i64 (k : Int) ∧ Hid ((xs.take k).all (partL 12) = true) ∧ Hid (Chg [] w1 wr)) (fun v4 _ => xs.length - (RowKit.intOf v4).toNat)
  case atStart => exact ⟨0, Nat.zero_le _, rfl, rfl, Chg.refl _ _⟩
  case round =>
   obtain ⟨k, hk, rfl, HA, HI⟩ := hrel
   by_cases hlt : k < xs.length
   ·
    obtain ⟨g, o, eA, _⟩ := OW.out.reads.line (by omega)
    subst eA
    have ex := List.getElem?_eq_getElem hlt
    have z := textCells (OW.out.reads.chg HI.out (by simp)) ex
    have HB := h_ (fun h => all_bad (xs := xs) hlt h)
    have HL := h_ (HX.out xs[k] (List.getElem_mem hlt))
    have HT := h_ (List.take_succ_eq_append_getElem hlt)
    generalize xs[k] = x at *
    have i0 : (0 : Int) ≤ (k : Int) := by omega
    have i1 : (k : Int) < (xs.length : Int) := by omega
    have k1 : IntKind.i64.wrap ((k : Int) + 1) = (k : Int) + 1 := IntWalk.i64_in _ (by omega)
    clear ex
    cases hp : partL 12 x with
    | false =>
     have HP := h_ (fun w => hp ▸ qpart_any w x (by have := HL.out; omega))
     have HF := h_ (HB.out hp)
     clear hp; go_wp2_with fail
     refine (HP.out _).mono ?_
     rintro e w3 ⟨rfl, rfl⟩
     go_wp2; go_ret
     exact ⟨by rw [HV.out, HF.out]; simp, HC.out.trans HI.out⟩
    | true =>
     have HP := h_ (fun w => hp ▸ qpart_any w x (by have := HL.out; omega))
     have HQ := h_ hp
     clear hp; go_wp2_with fail
     refine (HP.out _).mono ?_
     rintro e w3 ⟨rfl, rfl⟩
     go_wp2
     exact ⟨⟨k + 1, by omega, by simp, h_ (by rw [HT.out, List.all_append, HA.out]; simp [HQ.out]), HI⟩, by simp [RowKit.intOf]; omega⟩
   ·
    obtain rfl : k = xs.length := by omega
    go_wp2; go_ret
    exact ⟨by have := HA.out; rw [List.take_length] at this; rw [HV.out, this]; simp [i7], HC.out.trans HI.out⟩
end
section
open Go.RowKit
theorem str_ne {a b : List UInt8} (h : a ≠ b) : strOf a ≠ strOf b := fun e => h (strOf_inj e)
end
section
open Go.RowKit
def tv (x : List UInt8) : Value := .string (strOf x)
theorem flat_text (xs : List (List UInt8)) : textTy.flat xs = xs.map tv := by
 induction xs with
 | nil => rfl
 | cons x xs ih => rw [textTy.flat_cons, ih]; rfl
theorem cutA_count : ∀ (l acc : List UInt8), (cutA acc l).length = l.count 47 + 1
 | [], acc => by simp [cutA]
 | b :: l, acc => by
  unfold cutA
  by_cases h : b = 47
  ·
   subst h
   rw [if_pos rfl, List.length_cons, cutA_count l []]
   simp
  ·
   rw [if_neg h, cutA_count l _, List.count_cons_of_ne h]
theorem strcount_any (w : World) (l : List UInt8) : Calls Tryz.prog 215 #[.string (strOf l), .string ⟨#[47]⟩] w fun e w' => e = .returned (.int .i64 ((l.count 47 : Nat) : Int)) ∧ w' = w := by
 refine (Any.strings_Count_one Tryz.lays138 (strOf l) 47 w).mono ?_
 rintro e w' ⟨rfl, rfl⟩
 rw [strOf_data]
 exact ⟨rfl, rfl⟩
theorem run_mkT (n : Nat) (h : n ≤ 100000000) (w : World) : (Instr.makeSlice 108 (.int .i64 (n : Int)) (.int .i64 (n : Int))).run Tryz.prog w = .ok (.slice (some ⟨w.heap.size, 0, none⟩) n n) (w.alloc (.cells (Array.replicate n (tv [])) 9)) := by
 obtain ⟨i0, hi, hz0, hz1, hz2⟩ := info_parts textTy.info
 have hr := run_make (P := Tryz.prog) w 108 9 i0 (.string ⟨#[]⟩) textTy.under hi hz0 .i64 .i64 n n (by omega) (by omega) (by rw [hz2, show textTy.bytes = 16 from rfl]; omega) (by omega)
 rw [hr, hz1, Int.toNat_natCast]
 have e : madeCells (Value.string ⟨#[]⟩).cells n = (List.replicate n (tv [])).toArray := by
  apply Array.toList_inj.1
  show (madeCells #[.string ⟨#[]⟩] n).toList = _
  rw [toList_madeCells_one]
  simp [tv, strOf]
 rw [show textTy.k = 1 from rfl, Nat.mul_one, e, List.toArray_replicate]
theorem row_set (pre : List (List UInt8)) (x : List UInt8) (k : Nat) : (((pre ++ List.replicate (k + 1) []).map tv).toArray).setIfInBounds pre.length (.string (strOf x)) = ((((pre ++ [x]) ++ List.replicate k []).map tv).toArray) := by
 simp only [List.setIfInBounds_toArray]
 congr 1
 rw [List.map_append, List.map_append, List.set_append_right _ _ (by simp), List.length_map, Nat.sub_self, List.replicate_succ]
 simp [tv]
set_option maxRecDepth 100000 in
theorem genSplit_any (w : World) (l : List UInt8) (hlen : l.length ≤ 10000000) :
  Calls Tryz.prog 200 #[.string (strOf l), .string ⟨#[47]⟩, .int .i64 0, .int .i64 (-1)] w fun e w' => e = .returned (.slice (some ⟨w.heap.size, 0, none⟩) (cutL l).length (cutL l).length) ∧ w'.heap[w.heap.size]? = some (.cells ((cutL l).map tv).toArray 9 (0, 0)) ∧ Chg [] w w' := by
 obtain ⟨N, hN⟩ : ∃ N, (cutL l).length = N := ⟨_, rfl⟩
 have hcn : l.count 47 + 1 = N := by rw [← hN]; exact (cutA_count l []).symm
 have hNl : N ≤ l.length + 1 := by rw [← hN]; exact cutA_len l []
 have hs := strOf_size l
 have HN := h_ hN
 have HCN := h_ hcn
 rw [hN]
 have hN1 : ((l.count 47 : Nat) : Int) + 1 = (N : Int) := by omega
 have k1 : IntKind.i64.wrap ((N : Int)) = (N : Int) := IntWalk.i64_in _ (by omega)
 have k2 : IntKind.i64.wrap ((N : Int) - 1) = (N : Int) - 1 := IntWalk.i64_in _ (by omega)
 have hmk := fun W => run_mkT N (by omega) W
 have C1 := h_ (fun w => strcount_any w l)
 generalize hcc : ((l.count 47 : Nat) : Int) = cc at *
 have hmin : min (N : Int) ((l.length : Int) + 1) = (N : Int) := by omega
 have hN0 : 1 ≤ N := by have := HCN.out; omega
 obtain ⟨w5, hw5, c5, b5⟩ := news1 w (.cells (Array.replicate N (tv [])) 9)
 have W5 := h_ hw5
 have B5 := h_ (show w5.heap[w.heap.size]? = some (.cells ((List.replicate N []).map tv).toArray 9 (0, 0)) by rw [List.map_replicate, List.toArray_replicate]; exact b5)
 have C5 := h_ c5
 clear hN hcn hw5 c5 b5
 go_enter Tryz.func200, Tryz.ntmps200
 go_wp2_with fail
 refine (C1.out _).mono ?_
 rintro e w1 ⟨rfl, rfl⟩
 go_wp2
 rw [← W5.out]
 go_loopw [0, 10, 11] (fun v0 v10 v11 wr => ∃ (pre : List (List UInt8)) (rest : List UInt8), v0 = .string (strOf rest) ∧ v10 = .int .i64 (pre.length : Int) ∧ Hid (pre ++ cutA [] rest = cutL l ∧ rest.length ≤ l.length ∧ pre.length + rest.count 47 + 1 = N) ∧
   Hid (wr.heap[w1.heap.size]? = some (.cells ((pre ++ List.replicate (N - pre.length) []).map tv).toArray 9 (0, 0)) ∧ Chg [] w1 wr)) (fun _ v10 _ _ => N - (RowKit.intOf v10).toNat)
 case atStart => exact ⟨[], l, rfl, rfl, ⟨rfl, Nat.le_refl _, by have := HCN.out; simp; omega⟩, by simpa using B5.out, C5.out⟩
 case round =>
  obtain ⟨pre, rest, rfl, rfl, HP, HI⟩ := hrel
  rcases at47 rest with hno | ⟨a, b, rfl, hno⟩
  ·
   have hc0 : rest.count 47 = 0 := List.count_eq_zero.2 hno
   have hpl : pre.length + 1 = N := by have := HP.out.2.2; omega
   have i1 : ¬ ((pre.length : Int) < (N : Int) - 1) := by omega
   have i2 : (pre.length : Int) < (N : Int) := by omega
   have i3 : (0 : Int) ≤ (pre.length : Int) := by omega
   have i4 : (pre.length : Int) + 1 ≤ (N : Int) := by omega
   have k3 : IntKind.i64.wrap ((pre.length : Int) + 1) = (pre.length : Int) + 1 := IntWalk.i64_in _ (by omega)
   have hcut := HP.out.1
   rw [cutA_no _ _ hno, List.nil_append] at hcut
   have hq := HI.out.1
   rw [show N - pre.length = 0 + 1 by omega] at hq
   have f0 := free_of hq pre.length
   have q1 := heap_setCell_same wr w1.heap.size pre.length _ _ (.string (strOf rest)) hq
   rw [row_set, List.replicate_zero, List.append_nil, hcut] at q1
   have Q1 := h_ q1
   have CW := h_ (HI.out.2.setCell (p := ⟨w1.heap.size, pre.length, none⟩) (.inr (Nat.le_refl _)) (.string (strOf rest)))
   have z : ∃ u, wr.cell? ⟨w1.heap.size, pre.length, none⟩ = some u := ⟨.string (strOf []), by rw [cell_of hq]; simp [tv]⟩
   obtain ⟨u, z⟩ := z
   clear hq q1 hcut hno hc0; go_wp2; go_ret
   exact ⟨rfl, Q1.out, CW.out⟩
  ·
   have hcb : (a ++ 47 :: b).count 47 = b.count 47 + 1 := by
    rw [List.count_append, List.count_eq_zero.2 hno]
    simp
   have hpl : pre.length + b.count 47 + 2 = N := by have := HP.out.2.2; omega
   have ez : (strOf (a ++ 47 :: b)).size = a.length + 1 + b.length := by rw [strOf_size]; simp; omega
   have hrl' : a.length + 1 + b.length ≤ l.length := by have := HP.out.2.1; rw [← strOf_size, ez] at this; exact this
   have i0 : (0 : Int) ≤ (a.length : Int) := by omega
   have i1 : (pre.length : Int) < (N : Int) - 1 := by omega
   have i2 : (pre.length : Int) < (N : Int) := by omega
   have i3 : (0 : Int) ≤ (pre.length : Int) := by omega
   have i5 : ¬ ((a.length : Int) < 0) := by omega
   have i6 : (a.length : Int) ≤ ((strOf (a ++ 47 :: b)).size : Int) := by rw [ez]; omega
   have i7 : (a.length : Int) + 1 ≤ ((strOf (a ++ 47 :: b)).size : Int) := by rw [ez]; omega
   have i8 : a.length + 1 ≤ 140737488351232 := by omega
   have k3 : IntKind.i64.wrap ((pre.length : Int) + 1) = (pre.length : Int) + 1 := IntWalk.i64_in _ (by omega)
   have e1 : (strOf (a ++ 47 :: b)).extract 0 a.length = strOf a := by rw [strOf_ext]; simp
   have e2 : (strOf (a ++ 47 :: b)).extract (a.length + 1) (a.length + 1 + b.length) = strOf b := by
    rw [strOf_ext]
    congr 1
    rw [show (a ++ 47 :: b).drop (a.length + 1) = b by rw [show a ++ 47 :: b = (a ++ [47]) ++ b by simp]; exact List.drop_left' (by simp)]
    exact List.take_of_length_le (by omega)
   have hcut := HP.out.1
   rw [cutA_at _ _ _ hno, List.nil_append] at hcut
   have hq := HI.out.1
   rw [show N - pre.length = (N - (pre.length + 1)) + 1 by omega] at hq
   have f0 := free_of hq pre.length
   have q1 := heap_setCell_same wr w1.heap.size pre.length _ _ (.string (strOf a)) hq
   rw [row_set] at q1
   have Q1 := h_ q1
   have CW := h_ (HI.out.2.setCell (p := ⟨w1.heap.size, pre.length, none⟩) (.inr (Nat.le_refl _)) (.string (strOf a)))
   have z : ∃ u, wr.cell? ⟨w1.heap.size, pre.length, none⟩ = some u := ⟨.string (strOf []), by rw [cell_of hq]; simp [tv, List.replicate_succ]⟩
   obtain ⟨u, z⟩ := z
   have CI := h_ (fun w => index_at w a b hno)
   have HQ := h_ hcut
   have HPL := h_ hpl
   clear hq q1 hcut hno hcb hpl; go_wp2_with fail
   refine (CI.out _).mono ?_
   rintro e w2 ⟨rfl, rfl⟩
   go_wp2
   refine ⟨⟨pre ++ [a], b, ?_, by simp, ⟨by rw [← HQ.out]; simp, by omega, by have := HPL.out; simp; omega⟩, ⟨by have := Q1.out; simpa using this, CW.out⟩⟩, by simp [RowKit.intOf]; omega⟩
   first | rfl | (rw [e2]) | (simp only [ez, e2])
end
section
open Go.RowKit
theorem cb_self : ∀ x : List UInt8, Lib.compareBytes x x = 0
 | [] => rfl
 | b :: x => by simp [Lib.compareBytes, UInt8.lt_irrefl, cb_self x]
theorem cb_zero : ∀ x y : List UInt8, Lib.compareBytes x y = 0 → x = y
 | [], [], _ => rfl
 | [], _ :: _, h => by simp [Lib.compareBytes] at h
 | _ :: _, [], h => by simp [Lib.compareBytes] at h
 | a :: x, b :: y, h => by
  unfold Lib.compareBytes at h
  split at h
  ·
   simp at h
  ·
   split at h
   ·
    simp at h
   ·
    rename_i h1 h2
    have : a = b := UInt8.le_antisymm (UInt8.not_lt.1 h2) (UInt8.not_lt.1 h1)
    rw [this, cb_zero x y h]
theorem cb_less : ∀ x y : List UInt8, Op.bytesLess x y = decide (Lib.compareBytes x y < 0)
 | [], [] => rfl
 | [], _ :: _ => rfl
 | _ :: _, [] => rfl
 | a :: x, b :: y => by
  unfold Op.bytesLess Lib.compareBytes
  by_cases h1 : a < b
  ·
   simp [h1]
  ·
   by_cases h2 : b < a
   ·
    have : ¬ a = b := fun e => by rw [e] at h2; exact UInt8.lt_irrefl _ h2
    simp [h1, h2, this]
   ·
    have : a = b := UInt8.le_antisymm (UInt8.not_lt.1 h2) (UInt8.not_lt.1 h1)
    subst this
    simp [h1, cb_less x y]
def cmpT : List (List UInt8) → List (List UInt8) → Int
 | [], [] => 0
 | [], _ :: _ => -1
 | _ :: _, [] => 1
 | x :: xs, y :: ys => if Lib.compareBytes x y = 0 then cmpT xs ys else Lib.compareBytes x y
theorem cmpT_self : ∀ xs : List (List UInt8), cmpT xs xs = 0
 | [] => rfl
 | x :: xs => by rw [cmpT, if_pos (cb_self x), cmpT_self xs]
theorem cmpT_at (xs ys : List (List UInt8)) (k : Nat) (h1 : k < xs.length) (h2 : k < ys.length) :
  cmpT (xs.drop k) (ys.drop k) = if Lib.compareBytes xs[k] ys[k] = 0 then cmpT (xs.drop (k + 1)) (ys.drop (k + 1)) else Lib.compareBytes xs[k] ys[k] := by
 rw [List.drop_eq_getElem_cons h1, List.drop_eq_getElem_cons h2, cmpT]
theorem cmpT_end1 (xs ys : List (List UInt8)) (k : Nat) (h1 : k < xs.length) (h2 : ys.length ≤ k) : cmpT (xs.drop k) (ys.drop k) = 1 := by
 rw [List.drop_eq_getElem_cons h1, List.drop_of_length_le h2]
 rfl
theorem cmpT_end0 (xs ys : List (List UInt8)) (k : Nat) (h1 : xs.length ≤ k) (h2 : ys.length ≤ k) : cmpT (xs.drop k) (ys.drop k) = 0 := by
 rw [List.drop_of_length_le h1, List.drop_of_length_le h2]
 rfl
theorem cmpT_endm (xs ys : List (List UInt8)) (k : Nat) (h1 : xs.length ≤ k) (h2 : k < ys.length) : cmpT (xs.drop k) (ys.drop k) = -1 := by
 rw [List.drop_of_length_le h1, List.drop_eq_getElem_cons h2]
 rfl
theorem stCompare_any (w : World) (x y : List UInt8) : Calls Tryz.prog 171 #[.string (strOf x), .string (strOf y)] w fun e w' => e = .returned (.int .i64 (Lib.compareBytes x y)) ∧ w' = w := by
 refine (Any.strings_Compare Tryz.lays106 (strOf x) (strOf y) w).mono ?_
 rintro e w' ⟨rfl, rfl⟩
 rw [strOf_data, strOf_data]
 exact ⟨rfl, rfl⟩
set_option maxRecDepth 100000 in
theorem compareFunc_any (w : World) (A B : Option Addr) (c d : Nat) (xs ys : List (List UInt8)) (h : RdK textTy w A xs.length xs) (h' : RdK textTy w B ys.length ys) (hx : xs.length ≤ 100000000) (hy : ys.length ≤ 100000000) :
  Calls Tryz.prog 169 #[.slice A xs.length c, .slice B ys.length d, .func (.func 171) #[] #[]] w fun e w' => e = .returned (.int .i64 (cmpT xs ys)) ∧ w' = w := by
 obtain ⟨R, hR⟩ : ∃ R, cmpT xs ys = R := ⟨_, rfl⟩
 rw [hR]
 have HA := h_ h
 have HB := h_ h'
 have HR := h_ hR
 clear h h' hR
 go_enter Tryz.func169, Tryz.ntmps169
 go_wp2
 go_loopw [7, 8, 9, 10, 13] (fun v7 v8 v9 v10 v13 wr => ∃ k : Nat, k ≤ xs.length ∧ k ≤ ys.length ∧ v13 = .int .i64 (k : Int) ∧ Hid (cmpT (xs.drop k) (ys.drop k) = R) ∧ wr = w) (fun _ _ _ _ v13 _ => xs.length - (RowKit.intOf v13).toNat)
 case atStart => exact ⟨0, Nat.zero_le _, Nat.zero_le _, rfl, HR, rfl⟩
 case round =>
  obtain ⟨k, hk, hk2, rfl, HC, rfl⟩ := hrel
  have k1 : IntKind.i64.wrap ((k : Int) + 1) = (k : Int) + 1 := IntWalk.i64_in _ (by omega)
  have i0 : (0 : Int) ≤ (k : Int) := by omega
  by_cases hlt : k < xs.length
  ·
   have i1 : (k : Int) < (xs.length : Int) := by omega
   obtain ⟨g, o, eA, _⟩ := HA.out.line (by omega)
   subst eA
   have ex := List.getElem?_eq_getElem hlt
   have z := textCells HA.out ex
   by_cases hlt2 : k < ys.length
   ·
    have i2 : (k : Int) < (ys.length : Int) := by omega
    have i3 : ¬ ((ys.length : Int) ≤ (k : Int)) := by omega
    obtain ⟨g2, o2, eB, _⟩ := HB.out.line (by omega)
    subst eB
    have ey := List.getElem?_eq_getElem hlt2
    have z2 := textCells HB.out ey
    have HT := h_ (cmpT_at xs ys k hlt hlt2)
    generalize xs[k] = x at *
    generalize ys[k] = y at *
    have CS := h_ (fun w => stCompare_any w x y)
    generalize Lib.compareBytes x y = q at *
    clear ex ey
    by_cases hq : q = 0
    ·
     have HQ := h_ (HC.out.symm.trans (HT.out.trans (if_pos hq)))
     subst hq; go_wp2_with fail
     refine (CS.out _).mono ?_
     rintro e w2 ⟨rfl, rfl⟩
     go_wp2
     exact ⟨⟨k + 1, by omega, by omega, by simp, h_ HQ.out.symm, trivial⟩, by simp [RowKit.intOf]; omega⟩
    ·
     have HQ := h_ (HC.out.symm.trans (HT.out.trans (if_neg hq)))
     go_wp2_with fail
     refine (CS.out _).mono ?_
     rintro e w2 ⟨rfl, rfl⟩
     go_wp2; go_ret
     exact ⟨congrArg (fun v => Ending.returned (Value.int .i64 v)) HQ.out.symm, rfl⟩
   ·
    have i3 : ((ys.length : Int) ≤ (k : Int)) := by omega
    have HQ := h_ (HC.out.symm.trans (cmpT_end1 xs ys k hlt (by omega)))
    generalize xs[k] = x at *
    go_wp2; go_ret
    exact ⟨congrArg (fun v => Ending.returned (Value.int .i64 v)) HQ.out.symm, rfl⟩
  ·
   have i1 : ¬ ((k : Int) < (xs.length : Int)) := by omega
   by_cases hl2 : xs.length < ys.length
   ·
    have i4 : (xs.length : Int) < (ys.length : Int) := by omega
    have HQ := h_ (HC.out.symm.trans (cmpT_endm xs ys k (by omega) (by omega)))
    go_wp2; go_ret
    exact ⟨congrArg (fun v => Ending.returned (Value.int .i64 v)) HQ.out.symm, rfl⟩
   ·
    have i4 : ¬ ((xs.length : Int) < (ys.length : Int)) := by omega
    have HQ := h_ (HC.out.symm.trans (cmpT_end0 xs ys k (by omega) (by omega)))
    go_wp2; go_ret
    exact ⟨congrArg (fun v => Ending.returned (Value.int .i64 v)) HQ.out.symm, rfl⟩
theorem split_any (w : World) (l : List UInt8) (hlen : l.length ≤ 10000000) :
  Calls Tryz.prog 170 #[.string (strOf l), .string ⟨#[47]⟩] w fun e w' => e = .returned (.slice (some ⟨w.heap.size, 0, none⟩) (cutL l).length (cutL l).length) ∧ w'.heap[w.heap.size]? = some (.cells ((cutL l).map tv).toArray 9 (0, 0)) ∧ Chg [] w w' := by
 have CG := h_ (fun w => genSplit_any w l hlen)
 generalize cutL l = xs at *
 go_enter Tryz.func170, Tryz.ntmps170
 go_wp2_with fail
 refine (CG.out _).mono ?_
 rintro e w1 ⟨rfl, hq, hc⟩
 have HQ := h_ hq
 clear hq; go_wp2; go_ret
 exact ⟨rfl, HQ.out, hc⟩
theorem rd_text {w : World} {g : Nat} {xs : List (List UInt8)} (h : w.heap[g]? = some (.cells (xs.map tv).toArray 9 (0, 0))) (hm : xs.length ≤ maxLen) : RdK textTy w (some ⟨g, 0, none⟩) xs.length xs := by
 rw [← flat_text] at h
 exact (OwnK.of (R := textTy) (c := xs.length) (full := xs) (xs := xs) h (Nat.le_refl _) hm rfl (List.take_length ..)).reads
def lessL (a b : List UInt8) : Bool := decide (cmpT (cutL a) (cutL b) < 0)
theorem phcompare_any (w : World) (a b : List UInt8) (ha : a.length ≤ 10000000) (hb : b.length ≤ 10000000) :
  Calls Tryz.prog 114 #[.string (strOf a), .string (strOf b)] w fun e w' => e = .returned (.int .i64 (cmpT (cutL a) (cutL b))) ∧ Chg [] w w' := by
 by_cases hab : a = b
 ·
  subst hab
  rw [cmpT_self]
  have h1 : (a == a) = true := by simp
  go_enter Tryz.func114, Tryz.ntmps114
  go_wp2; go_ret
  exact ⟨rfl, Chg.refl _ _⟩
 ·
  have h1 : (a == b) = false := by simpa using hab
  have h2 := str_ne hab
  have S1 := h_ (fun w => split_any w a ha)
  have S2 := h_ (fun w => split_any w b hb)
  have L1 := h_ (show (cutL a).length ≤ 100000000 by have := cutA_len a []; show (cutA [] a).length ≤ _; omega)
  have L2 := h_ (show (cutL b).length ≤ 100000000 by have := cutA_len b []; show (cutA [] b).length ≤ _; omega)
  generalize cutL a = xs at *
  generalize cutL b = ys at *
  go_enter Tryz.func114, Tryz.ntmps114
  go_wp2_with fail
  refine (S1.out _).mono ?_
  rintro e w1 ⟨rfl, hq1, hc1⟩
  have Q1 := h_ hq1
  have C1 := h_ hc1
  have hg := lt_of_heap hq1
  clear hq1 hc1; go_wp2_with fail
  refine (S2.out _).mono ?_
  rintro e w2 ⟨rfl, hq2, hc2⟩
  have RA := h_ (rd_text (hc2.at_ Q1.out (by simp)) (by have := L1.out; unfold maxLen; omega))
  have RB := h_ (rd_text hq2 (by have := L2.out; unfold maxLen; omega))
  have C2 := h_ (C1.out.trans hc2)
  clear hq2 hc2; go_wp2_with fail
  refine (compareFunc_any _ _ _ _ _ xs ys RA.out RB.out L1.out L2.out).mono ?_
  rintro e w3 ⟨rfl, rfl⟩
  go_wp2; go_ret
  exact ⟨rfl, C2.out⟩
theorem phless_any (w : World) (a b : List UInt8) (ha : a.length ≤ 10000000) (hb : b.length ≤ 10000000) :
  Calls Tryz.prog 66 #[.string (strOf a), .string (strOf b)] w fun e w' => e = .returned (.bool (lessL a b)) ∧ Chg [] w w' := by
 have CC := h_ (fun w => phcompare_any w a b ha hb)
 unfold lessL
 generalize cmpT (cutL a) (cutL b) = q at *
 go_enter Tryz.func66, Tryz.ntmps66
 go_wp2_with fail
 refine (CC.out _).mono ?_
 rintro e w1 ⟨rfl, hc⟩
 go_wp2; go_ret
 exact ⟨rfl, hc⟩
end
section
theorem cb_trans : ∀ x y z : List UInt8, Lib.compareBytes x y < 0 → Lib.compareBytes y z < 0 → Lib.compareBytes x z < 0
 | [], [], _, h, _ => by simp [Lib.compareBytes] at h
 | _ :: _, [], _, h, _ => by simp [Lib.compareBytes] at h
 | _, _ :: _, [], _, h => by simp [Lib.compareBytes] at h
 | [], _ :: _, _ :: _, _, _ => by simp [Lib.compareBytes]
 | a :: x, b :: y, c :: z, h, k => by
  unfold Lib.compareBytes at h k ⊢
  by_cases h1 : a < b
  ·
   by_cases k1 : b < c
   ·
    rw [if_pos (UInt8.lt_trans h1 k1)]; decide
   ·
    rw [if_neg k1] at k
    by_cases k2 : c < b
    ·
     rw [if_pos k2] at k; exact absurd k (by decide)
    ·
     have : b = c := UInt8.le_antisymm (UInt8.not_lt.1 k2) (UInt8.not_lt.1 k1)
     subst this
     rw [if_pos h1]; decide
  ·
   rw [if_neg h1] at h
   by_cases h2 : b < a
   ·
    rw [if_pos h2] at h; exact absurd h (by decide)
   ·
    have : a = b := UInt8.le_antisymm (UInt8.not_lt.1 h2) (UInt8.not_lt.1 h1)
    subst this
    rw [if_neg h2] at h
    by_cases k1 : a < c
    ·
     rw [if_pos k1]; decide
    ·
     rw [if_neg k1] at k ⊢
     by_cases k2 : c < a
     ·
      rw [if_pos k2] at k; exact absurd k (by decide)
     ·
      rw [if_neg k2] at k ⊢
      exact cb_trans x y z h k
theorem cmpT_trans : ∀ xs ys zs : List (List UInt8), cmpT xs ys < 0 → cmpT ys zs < 0 → cmpT xs zs < 0
 | [], [], _, h, _ => by simp [cmpT] at h
 | _ :: _, [], _, h, _ => by simp [cmpT] at h
 | _, _ :: _, [], _, h => by simp [cmpT] at h
 | [], _ :: _, _ :: _, _, _ => by simp [cmpT]
 | x :: xs, y :: ys, z :: zs, h, k => by
  unfold cmpT at h k ⊢
  by_cases h0 : Lib.compareBytes x y = 0
  ·
   have := cb_zero x y h0
   subst this
   rw [if_pos h0] at h
   by_cases k0 : Lib.compareBytes x z = 0
   ·
    rw [if_pos k0] at k ⊢
    exact cmpT_trans xs ys zs h k
   ·
    rw [if_neg k0] at k ⊢
    exact k
  ·
   rw [if_neg h0] at h
   by_cases k0 : Lib.compareBytes y z = 0
   ·
    have := cb_zero y z k0
    subst this
    rw [if_neg h0]
    exact h
   ·
    rw [if_neg k0] at k
    have := cb_trans x y z h k
    rw [if_neg (by omega)]
    exact this
theorem less_self (a : List UInt8) : lessL a a = false := by simp [lessL, cmpT_self]
theorem less_trans (a b c : List UInt8) (h : lessL a b = true) (k : lessL b c = true) : lessL a c = true := by
 simp only [lessL, decide_eq_true_eq] at h k ⊢
 exact cmpT_trans _ _ _ h k
end
section
open Go.RowKit Go.Lib

theorem sorted_ext {α : Type} {r : α → α → Prop} (irr : ∀ a, ¬ r a a) (tr : ∀ a b c, r a b → r b c → r a c) : ∀ {l m : List α}, l.Pairwise r → m.Pairwise r → (∀ x, x ∈ l ↔ x ∈ m) → l = m
 | [], [], _, _, _ => rfl
 | [], y :: m, _, _, h => absurd ((h y).2 (by simp)) (by simp)
 | x :: l, [], _, _, h => absurd ((h x).1 (by simp)) (by simp)
 | x :: l, y :: m, hl, hm, h => by
  have pl := List.pairwise_cons.1 hl
  have pm := List.pairwise_cons.1 hm
  have e : x = y := by
   rcases List.mem_cons.1 ((h x).1 (by simp)) with a | a
   ·
    exact a
   ·
    rcases List.mem_cons.1 ((h y).2 (by simp)) with b | b
    ·
     exact b.symm
    ·
     exact absurd (tr _ _ _ (pl.1 y b) (pm.1 x a)) (irr x)
  subst e
  congr 1
  refine sorted_ext irr tr pl.2 pm.2 (fun z => ?_)
  constructor
  ·
   intro hz
   rcases List.mem_cons.1 ((h z).1 (by simp [hz])) with a | a
   ·
    exact absurd (a ▸ pl.1 z hz) (irr z)
   ·
    exact a
  ·
   intro hz
   rcases List.mem_cons.1 ((h z).2 (by simp [hz])) with a | a
   ·
    exact absurd (a ▸ pm.1 z hz) (irr z)
   ·
    exact a
theorem less_ne {a b : List UInt8} (h : lessL a b = true) : a ≠ b := fun e => by
 rw [e, less_self] at h; cases h
end
section
open Go.RowKit Go.Lib

def atS (s : List EvP) (p : List UInt8) : List EvP := s.filter (fun x => decide (x.p = p))
theorem mem_atS {s : List EvP} {p : List UInt8} {x : EvP} : x ∈ atS s p ↔ x ∈ s ∧ x.p = p := by
 unfold atS
 rw [List.mem_filter, decide_eq_true_eq]
theorem atS_app (a b : List EvP) (p : List UInt8) : atS (a ++ b) p = atS a p ++ atS b p := by
 unfold atS
 rw [List.filter_append]
theorem atS_all {a : List EvP} {p : List UInt8} (h : ∀ x ∈ a, x.p = p) : atS a p = a := by
 unfold atS
 exact List.filter_eq_self.2 (fun x hx => decide_eq_true (h x hx))
theorem atS_none {a : List EvP} {p : List UInt8} (h : ∀ x ∈ a, x.p ≠ p) : atS a p = [] := by
 unfold atS
 exact List.filter_eq_nil_iff.2 (fun x hx => by simpa using h x hx)
end
end Go.Proofs.YtehmchdhlhchjaaGreatDoor
