/- Package dot: Parse; the document's. -/
import Derived.Test.YtmcnfopiilplnaaDoorDtext
import Derived.Test.YtmcnfopiilplnaaDoorPuts
import Derived.Deep.QuietTactic
import Derived.BigQuiet
import Derived.BigRegion
namespace Go.Proofs.YtmcnfopiilplnaaDoor
open Go.RowKit Go.Lib
set_option linter.unusedSimpArgs false
set_option linter.unusedVariables false

theorem index_cut : ∀ l : List UInt8, indexByte l 46 = match cutDot l with | none => -1 | some (a, _) => (a.length : Int)
  | [] => rfl
  | c :: l => by
    have ih := index_cut l
    unfold indexByte cutDot
    by_cases h : c = 46
    · subst h; rfl
    · rw [if_neg (by simpa using h), if_neg h, ih]
      cases hc : cutDot l with
      | none => rfl
      | some p =>
        simp only [Option.map_some]
        have : (((p.1.length : Int)) == -1) = false := by simp
        rw [if_neg (by rw [this]; simp)]
        simp
theorem str_of_list (s : ByteArray) {l : List UInt8} (h : s.data.toList = l) : s = strOf l := by
  apply ByteArray.ext
  rw [strOf, ← h]
theorem str_split {s : ByteArray} {a b : List UInt8} (h : s.data.toList = a ++ 46 :: b) : s.size = a.length + 1 + b.length ∧ s.extract 0 a.length = strOf a ∧ s.extract (a.length + 1) s.size = strOf b := by
  have e := str_of_list s h
  subst e
  have hz : (strOf (a ++ 46 :: b)).size = a.length + 1 + b.length := by rw [strOf_size]; simp; omega
  refine ⟨hz, ?_, ?_⟩
  · apply ByteArray.ext
    simp [strOf]
  · rw [hz]
    apply ByteArray.ext
    simp [strOf]
set_option maxHeartbeats 1000000 in
theorem icut_none (w : World) (s : ByteArray) (hs : s.size ≤ 140737488351232) (h : cutDot s.data.toList = none) :
    Calls Tryd.prog 49 #[.string s, .string ⟨#[46]⟩] w fun e w' => e = .returned (.tuple #[.string s, .string ⟨#[]⟩, .bool false]) ∧ Chg [] w w' := by
  have hi := Any.stringslite_Index_one Tryd.lays219 s 46 w
  rw [index_cut, h] at hi
  simp only at hi
  clear h
  go_enter Tryd.func49, Tryd.ntmps49
  go_wp2_with fail
  refine hi.mono ?_
  rintro e w1 ⟨rfl, rfl⟩
  go_wp2
  go_ret3
  exact ⟨rfl, Chg.refl _ _⟩
set_option maxHeartbeats 1000000 in
theorem icut_some (w : World) (s : ByteArray) (hs : s.size ≤ 140737488351232) (a b : List UInt8) (h : cutDot s.data.toList = some (a, b)) :
    Calls Tryd.prog 49 #[.string s, .string ⟨#[46]⟩] w fun e w' => e = .returned (.tuple #[.string (strOf a), .string (strOf b), .bool true]) ∧ Chg [] w w' := by
  have hi := Any.stringslite_Index_one Tryd.lays219 s 46 w
  rw [index_cut, h] at hi
  simp only at hi
  obtain ⟨h1, h2, h3⟩ := str_split (cutDot_some h).1
  clear h
  have n1 : a.length ≤ s.size := by omega
  have n2 : a.length + 1 ≤ s.size := by omega
  have i0 : (0 : Int) ≤ (a.length : Int) := by omega
  have i1 : (a.length : Int) ≤ (s.size : Int) := by omega
  have i2 : (a.length : Int) + 1 ≤ (s.size : Int) := by omega
  have i3 : IntKind.i64.wrap ((a.length : Int) + 1) = (a.length : Int) + 1 := IntWalk.i64_in _ (by omega)
  have i4 : (0 : Int) ≤ (a.length : Int) + 1 := by omega
  have H1 := Lib.hid h1
  have H2 := Lib.hid h2
  have H3 := Lib.hid h3
  clear h1 h2 h3
  generalize hk : a.length = k at *
  clear hk
  go_enter Tryd.func49, Tryd.ntmps49
  go_wp2_with fail
  refine hi.mono ?_
  rintro e w1 ⟨rfl, rfl⟩
  clear hi
  go_wp2
  go_quiet (fail)
  rw [H2.out, H3.out]
  go_wp2
  go_ret3
  exact ⟨rfl, (Chg.refl _ _).drewN _⟩
/-- CUTS -/
def cutA (l : List UInt8) : List UInt8 := match cutDot l with | none => l | some (a, _) => a
def cutB (l : List UInt8) : List UInt8 := match cutDot l with | none => [] | some (_, b) => b
def cutF (l : List UInt8) : Bool := match cutDot l with | none => false | some _ => true
theorem cut_len (l : List UInt8) : (cutA l).length ≤ l.length ∧ (cutB l).length ≤ l.length := by
  unfold cutA cutB
  cases h : cutDot l with
  | none => simp
  | some p =>
    have := (cutDot_some (a := p.1) (b := p.2) h).1
    simp only
    rw [this]; simp; omega
theorem cut_any (w : World) (s : ByteArray) (hs : s.size ≤ 140737488351232) :
    Calls Tryd.prog 41 #[.string s, .string ⟨#[46]⟩] w fun e w' => e = .returned (.tuple #[.string (strOf (cutA s.data.toList)), .string (strOf (cutB s.data.toList)), .bool (cutF s.data.toList)]) ∧ Chg [] w w' := by
  have hi : Calls Tryd.prog 49 #[.string s, .string ⟨#[46]⟩] w fun e w' => e = .returned (.tuple #[.string (strOf (cutA s.data.toList)), .string (strOf (cutB s.data.toList)), .bool (cutF s.data.toList)]) ∧ Chg [] w w' := by
    unfold cutA cutB cutF
    cases h : cutDot s.data.toList with
    | none => rw [← str_of_list s rfl]; exact icut_none w s hs h
    | some p => exact icut_some w s hs p.1 p.2 h
  generalize strOf (cutA s.data.toList) = A at *
  generalize strOf (cutB s.data.toList) = B at *
  generalize cutF s.data.toList = F at *
  go_enter Tryd.func41, Tryd.ntmps41
  go_wp2_with fail
  refine hi.mono ?_
  rintro e w1 ⟨rfl, c1⟩
  have C1 := Lib.hid c1
  clear c1 hi
  go_wp2
  go_ret3
  exact ⟨rfl, C1.out⟩
theorem toList_data (s : ByteArray) : s.toList = s.data.toList := by
  conv => lhs; rw [str_of_list s rfl]
  exact strOf_toList _
theorem pu_ok (w : World) (l : List UInt8) (hl : l.length ≤ 140737488351232) (u : Nat) (h : parseUintB 32 l = .ok u) :
    Calls Tryd.prog 42 #[.string (strOf l), .int .i64 10, .int .i64 32] w fun e w' => e = .returned (.tuple #[.int .u64 (u : Int), .nilIface]) ∧ Chg [] w w' :=
  (Any.strconv_ParseUint_10_at32_ok Tryd.laysPu14 (strOf l) (by rw [strOf_size]; omega) u (by rw [strOf_data]; exact h) w).mono fun e w' ⟨h1, h2⟩ => by
    refine ⟨h1, ?_⟩
    rcases h2 with rfl | rfl
    · exact Chg.refl _ _
    · exact Chg.below_ (Lib.bytesWorld_below _ _ _)
def IsErr (i : Value) : Prop := ∃ t N, i = .iface t (.pointer (some ⟨N, 0, none⟩))
theorem pu_err (w : World) (l : List UInt8) (hl : l.length ≤ 140737488351232) (h : ∀ u, parseUintB 32 l ≠ .ok u) (hT : TabD w) :
    Calls Tryd.prog 42 #[.string (strOf l), .int .i64 10, .int .i64 32] w fun e w' => ∃ (u N : Nat), u ≤ 4294967295 ∧ e = .returned (.tuple #[.int .u64 (u : Int), .iface 88 (.pointer (some ⟨N, 0, none⟩))]) ∧ Chg [] w w' := by
  cases hp : parseUintB 32 l
  · exact absurd hp (h _)
  · obtain ⟨te, pe, hv⟩ := hT.syn
    exact (Any.strconv_ParseUint_10_at32_syntax Tryd.laysPu14 (strOf l) (by rw [strOf_size]; omega) (by rw [strOf_data]; exact hp) _ w hv (.inr ⟨te, pe, rfl⟩)).mono fun e w' ⟨N, h1, _, _, h2⟩ => ⟨0, N, by decide, h1, Chg.below_ h2⟩
  · obtain ⟨te, pe, hv⟩ := hT.ran
    exact (Any.strconv_ParseUint_10_at32_range Tryd.laysPu14 (strOf l) (by rw [strOf_size]; omega) (by rw [strOf_data]; exact hp) _ w hv (.inr ⟨te, pe, rfl⟩)).mono fun e w' ⟨N, h1, _, _, h2⟩ => ⟨4294967295, N, by decide, h1, Chg.below_ h2⟩
theorem pu_gen (w : World) (l : List UInt8) (hl : l.length ≤ 140737488351232) (hT : TabD w) :
    Calls Tryd.prog 42 #[.string (strOf l), .int .i64 10, .int .i64 32] w fun e w' => ∃ (u : Nat) (i : Value), u ≤ 4294967295 ∧ e = .returned (.tuple #[.int .u64 (u : Int), i]) ∧ Chg [] w w' := by
  by_cases h : ∃ u, parseUintB 32 l = .ok u
  · obtain ⟨u, hu⟩ := h
    have hb := parseUintB_le hu
    exact (pu_ok w l hl u hu).mono fun e w' ⟨h1, h2⟩ => ⟨u, _, by simpa using hb, h1, h2⟩
  · exact (pu_err w l hl (fun u hu => h ⟨u, hu⟩) hT).mono fun e w' ⟨u, N, h0, h1, h2⟩ => ⟨u, _, h0, h1, h2⟩
theorem cut_dotT {n k : Int} : cutA (dotT n k) = decDigits n.toNat ∧ cutB (dotT n k) = decDigits k.toNat := by
  unfold cutA cutB dotT
  rw [cutDot_app _ _ (dig_nodot (dec_props _).2.1)]
  exact ⟨rfl, rfl⟩
theorem dot_parsed {l : List UInt8} {n k : Int} (h : FineD n k) (e : l = dotT n k) : parseUintB 32 (cutA l) = .ok n.toNat ∧ parseUintB 32 (cutB l) = .ok k.toNat := by
  subst e
  obtain ⟨h1, h2, h3, h4⟩ := h
  rw [cut_dotT.1, cut_dotT.2]
  exact ⟨parseB_dec (by omega), parseB_dec (by omega)⟩
theorem parse_yes {l : List UInt8} {u k : Nat} (hf : FineD u k) (e : dotT u k = l) : parseD l = (((u : Int), (k : Int)), 0) := by rw [← e]; exact parseD_text hf
theorem parse_other {l : List UInt8} {u k : Nat} (h1 : parseUintB 32 (cutA l) = .ok u) (h2 : parseUintB 32 (cutB l) = .ok k) (h : ¬ (FineD u k ∧ dotT u k = l)) : parseD l = ((0, 0), 2) := by
  refine parseD_no fun n s hf e => h ?_
  obtain ⟨a, b⟩ := dot_parsed hf e
  rw [h1] at a
  rw [h2] at b
  cases a
  cases b
  have e1 : ((n.toNat : Nat) : Int) = n := by have := hf.1; omega
  have e2 : ((s.toNat : Nat) : Int) = s := by have := hf.2.2.1; omega
  rw [e1, e2]
  exact ⟨hf, e.symm⟩
theorem parse_err1 {l : List UInt8} (h : ∀ u, parseUintB 32 (cutA l) ≠ .ok u) : parseD l = ((0, 0), 2) := parseD_no fun n s hf e => h _ (dot_parsed hf e).1
theorem parse_err2 {l : List UInt8} (h : ∀ u, parseUintB 32 (cutB l) ≠ .ok u) : parseD l = ((0, 0), 2) := parseD_no fun n s hf e => h _ (dot_parsed hf e).2
set_option maxHeartbeats 4000000 in
theorem dparse_yes (w : World) (s : ByteArray) (hs : s.size ≤ 140737488351232) (hT : TabD w) (u k : Nat) (h1 : parseUintB 32 (cutA s.data.toList) = .ok u) (h2 : parseUintB 32 (cutB s.data.toList) = .ok k) (hf : FineD u k) (he : dotT u k = s.data.toList) :
    Calls Tryd.prog 31 #[.string s] w fun e w' => e = .returned (.tuple #[.agg #[.int .i64 (u : Int), .int .i64 (k : Int)], .int .i64 0]) ∧ Chg [] w w' := by
  have hla : (cutA s.data.toList).length ≤ 140737488351232 := by have := (cut_len s.data.toList).1; rw [Array.length_toList] at this; exact Nat.le_trans this hs
  have hlb : (cutB s.data.toList).length ≤ 140737488351232 := by have := (cut_len s.data.toList).2; rw [Array.length_toList] at this; exact Nat.le_trans this hs
  have hcut := fun w => cut_any w s hs
  have hbu := parseUintB_le h1
  have hu : u ≤ 4294967295 := by simpa using hbu
  have hbk := parseUintB_le h2
  have hk : k ≤ 4294967295 := by simpa using hbk
  have hst : strOf (dotT u k) = s := by rw [he]; exact (str_of_list s rfl).symm
  generalize cutA s.data.toList = a at *
  generalize cutB s.data.toList = b at *
  generalize cutF s.data.toList = F at *
  have p1 := fun (w1 : World) => pu_ok w1 a hla u h1
  have p2 := fun (w1 : World) => pu_ok w1 b hlb k h2
  have HT := Lib.hid hT
  have HC := Lib.hid hcut
  have P1 := Lib.hid p1
  have P2 := Lib.hid p2
  clear hcut p1 p2 hT h1 h2 hla hlb
  have TX := Lib.hid (fun (w1 : World) (h : TabD w1) => dtext_any w1 u k h)
  have HST := Lib.hid hst
  rw [chkD_fine hf, textO_fine hf, hst] at TX
  clear he hst hf hbu hbk
  have HP := Lib.hid (fun (w' : World) (j : Nat) (v : Value) (h : Chg [] w w') => h.put (s := w.heap.size) (Nat.le_refl _) j v)
  have C := Lib.hid (Chg.refl [] w)
  obtain ⟨w1, hw1, cw1, b_B0⟩ := news1 w (.cells #[.int .i64 0, .int .i64 0] 23)
  have Ww1 := Lib.hid hw1
  have l_B0 := lt_of_heap b_B0
  replace C := Lib.hid (C.out.trans cw1)
  have B0 := Lib.hid (b_B0)
  clear hw1 cw1 b_B0
  go_enter Tryd.func31, Tryd.ntmps31
  go_wp2_with fail
  rw [← Ww1.out]
  generalize w.heap.size = s0 at *
  clear Ww1
  refine (HC.out w1).mono ?_
  rintro e w2 ⟨rfl, ca⟩
  replace B0 := Lib.hid (ca.at_ B0.out (by simp))
  replace C := Lib.hid (C.out.trans ca)
  clear ca HC
  go_wp2_with fail
  refine (P1.out w2).mono ?_
  rintro e w3 ⟨rfl, ca⟩
  replace B0 := Lib.hid (ca.at_ B0.out (by simp))
  replace C := Lib.hid (C.out.trans ca)
  clear ca P1
  go_wp2_with fail
  refine (P2.out w3).mono ?_
  rintro e w4 ⟨rfl, ca⟩
  replace B0 := Lib.hid (ca.at_ B0.out (by simp))
  replace C := Lib.hid (C.out.trans ca)
  clear ca P2
  obtain ⟨w5, hw5, cw5, b_B1⟩ := news1 w4 (.cells #[.int .i64 u, .int .i64 k] 23)
  have Ww5 := Lib.hid hw5
  have l_B1 := lt_of_heap b_B1
  replace B0 := Lib.hid (cw5.at_ B0.out (by simp))
  replace C := Lib.hid (C.out.trans cw5)
  have B1 := Lib.hid (b_B1)
  clear hw5 cw5 b_B1
  go_wp2_with fail
  rw [← Ww5.out]
  generalize w4.heap.size = s1 at *
  clear Ww5
  refine (TX.out w5 (HT.out.chg C.out)).mono ?_
  rintro e w6 ⟨rfl, ca⟩
  replace B0 := Lib.hid (ca.at_ B0.out (by simp))
  replace B1 := Lib.hid (ca.at_ B1.out (by simp))
  replace C := Lib.hid (C.out.trans ca)
  clear ca HT TX
  have z_B1_0 := cell_of B1.out 0
  have z_B1_1 := cell_of B1.out 1
  simp only [List.getElem?_toArray, List.getElem?_cons_succ, List.getElem?_cons_zero] at z_B1_0 z_B1_1
  have z_B0_0 := cell_of B0.out 0
  have f_B0_0 := free_of B0.out 0
  have z_B0_1 := cell_of B0.out 1
  have f_B0_1 := free_of B0.out 1
  simp only [List.getElem?_toArray, List.getElem?_cons_succ, List.getElem?_cons_zero] at z_B0_0 z_B0_1
  have HPP := Lib.hid (put2_0 (.int .i64 ((u : Int))) (.int .i64 ((k : Int))) B0.out)
  have CW := Lib.hid ((HP.out _ 1 (.int .i64 ((k : Int))) (HP.out _ 0 (.int .i64 ((u : Int))) C.out)))
  go_wp2_with fail
  clear z_B1_0 z_B1_1 z_B0_0 f_B0_0 z_B0_1 f_B0_1
  generalize ((w6.setCell ⟨s0, 0, none⟩ (.int .i64 ((u : Int)))).setCell ⟨s0, 1, none⟩ (.int .i64 ((k : Int)))) = W at *
  have z0 := cell_of HPP.out 0
  have z1 := cell_of HPP.out 1
  simp only [List.getElem?_toArray, List.getElem?_cons_succ, List.getElem?_cons_zero] at z0 z1
  exact bodyPost_ret (v := .tuple #[.agg #[.int .i64 (u : Int), .int .i64 (k : Int)], .int .i64 0]) (by simp [results, Tryd.results31, go_sem, z0, z1]) rfl ⟨rfl, CW.out⟩
set_option maxHeartbeats 4000000 in
theorem dparse_text (w : World) (s : ByteArray) (hs : s.size ≤ 140737488351232) (hT : TabD w) (u k : Nat) (h1 : parseUintB 32 (cutA s.data.toList) = .ok u) (h2 : parseUintB 32 (cutB s.data.toList) = .ok k) (hf : FineD u k) (he : dotT u k ≠ s.data.toList) :
    Calls Tryd.prog 31 #[.string s] w fun e w' => e = .returned (.tuple #[.agg #[.int .i64 0, .int .i64 0], .int .i64 2]) ∧ Chg [] w w' := by
  have hla : (cutA s.data.toList).length ≤ 140737488351232 := by have := (cut_len s.data.toList).1; rw [Array.length_toList] at this; exact Nat.le_trans this hs
  have hlb : (cutB s.data.toList).length ≤ 140737488351232 := by have := (cut_len s.data.toList).2; rw [Array.length_toList] at this; exact Nat.le_trans this hs
  have hcut := fun w => cut_any w s hs
  have hbu := parseUintB_le h1
  have hu : u ≤ 4294967295 := by simpa using hbu
  have hbk := parseUintB_le h2
  have hk : k ≤ 4294967295 := by simpa using hbk
  have hst : ((strOf (dotT u k)).toList == s.toList) = false := by
    rw [toList_data s, strOf_toList]
    simpa using he
  generalize cutA s.data.toList = a at *
  generalize cutB s.data.toList = b at *
  generalize cutF s.data.toList = F at *
  have p1 := fun (w1 : World) => pu_ok w1 a hla u h1
  have p2 := fun (w1 : World) => pu_ok w1 b hlb k h2
  have HT := Lib.hid hT
  have HC := Lib.hid hcut
  have P1 := Lib.hid p1
  have P2 := Lib.hid p2
  clear hcut p1 p2 hT h1 h2 hla hlb
  have TX := Lib.hid (fun (w1 : World) (h : TabD w1) => dtext_any w1 u k h)
  rw [chkD_fine hf, textO_fine hf] at TX
  generalize strOf (dotT u k) = Z at *
  clear he hf hbu hbk
  have HP := Lib.hid (fun (w' : World) (j : Nat) (v : Value) (h : Chg [] w w') => h.put (s := w.heap.size) (Nat.le_refl _) j v)
  have C := Lib.hid (Chg.refl [] w)
  obtain ⟨w1, hw1, cw1, b_B0⟩ := news1 w (.cells #[.int .i64 0, .int .i64 0] 23)
  have Ww1 := Lib.hid hw1
  have l_B0 := lt_of_heap b_B0
  replace C := Lib.hid (C.out.trans cw1)
  have B0 := Lib.hid (b_B0)
  clear hw1 cw1 b_B0
  go_enter Tryd.func31, Tryd.ntmps31
  go_wp2_with fail
  rw [← Ww1.out]
  generalize w.heap.size = s0 at *
  clear Ww1
  refine (HC.out w1).mono ?_
  rintro e w2 ⟨rfl, ca⟩
  replace B0 := Lib.hid (ca.at_ B0.out (by simp))
  replace C := Lib.hid (C.out.trans ca)
  clear ca HC
  go_wp2_with fail
  refine (P1.out w2).mono ?_
  rintro e w3 ⟨rfl, ca⟩
  replace B0 := Lib.hid (ca.at_ B0.out (by simp))
  replace C := Lib.hid (C.out.trans ca)
  clear ca P1
  go_wp2_with fail
  refine (P2.out w3).mono ?_
  rintro e w4 ⟨rfl, ca⟩
  replace B0 := Lib.hid (ca.at_ B0.out (by simp))
  replace C := Lib.hid (C.out.trans ca)
  clear ca P2
  obtain ⟨w5, hw5, cw5, b_B1⟩ := news1 w4 (.cells #[.int .i64 u, .int .i64 k] 23)
  have Ww5 := Lib.hid hw5
  have l_B1 := lt_of_heap b_B1
  replace B0 := Lib.hid (cw5.at_ B0.out (by simp))
  replace C := Lib.hid (C.out.trans cw5)
  have B1 := Lib.hid (b_B1)
  clear hw5 cw5 b_B1
  go_wp2_with fail
  rw [← Ww5.out]
  generalize w4.heap.size = s1 at *
  clear Ww5
  refine (TX.out w5 (HT.out.chg C.out)).mono ?_
  rintro e w6 ⟨rfl, ca⟩
  replace B0 := Lib.hid (ca.at_ B0.out (by simp))
  replace B1 := Lib.hid (ca.at_ B1.out (by simp))
  replace C := Lib.hid (C.out.trans ca)
  clear ca HT TX
  have z_B0_0 := cell_of B0.out 0
  have f_B0_0 := free_of B0.out 0
  have z_B0_1 := cell_of B0.out 1
  have f_B0_1 := free_of B0.out 1
  simp only [List.getElem?_toArray, List.getElem?_cons_succ, List.getElem?_cons_zero] at z_B0_0 z_B0_1
  have HPP := Lib.hid (put2_0 (.int .i64 (0)) (.int .i64 (0)) B0.out)
  have CW := Lib.hid ((HP.out _ 1 (.int .i64 (0)) (HP.out _ 0 (.int .i64 (0)) C.out)))
  go_wp2_with fail
  clear z_B0_0 f_B0_0 z_B0_1 f_B0_1
  generalize ((w6.setCell ⟨s0, 0, none⟩ (.int .i64 (0))).setCell ⟨s0, 1, none⟩ (.int .i64 (0))) = W at *
  have z0 := cell_of HPP.out 0
  have z1 := cell_of HPP.out 1
  simp only [List.getElem?_toArray, List.getElem?_cons_succ, List.getElem?_cons_zero] at z0 z1
  exact bodyPost_ret (v := .tuple #[.agg #[.int .i64 0, .int .i64 0], .int .i64 2]) (by simp [results, Tryd.results31, go_sem, z0, z1]) rfl ⟨rfl, CW.out⟩
set_option maxHeartbeats 4000000 in
theorem dparse_odd (w : World) (s : ByteArray) (hs : s.size ≤ 140737488351232) (hT : TabD w) (u k : Nat) (h1 : parseUintB 32 (cutA s.data.toList) = .ok u) (h2 : parseUintB 32 (cutB s.data.toList) = .ok k) (hf : ¬ FineD u k) :
    Calls Tryd.prog 31 #[.string s] w fun e w' => e = .returned (.tuple #[.agg #[.int .i64 0, .int .i64 0], .int .i64 2]) ∧ Chg [] w w' := by
  have hla : (cutA s.data.toList).length ≤ 140737488351232 := by have := (cut_len s.data.toList).1; rw [Array.length_toList] at this; exact Nat.le_trans this hs
  have hlb : (cutB s.data.toList).length ≤ 140737488351232 := by have := (cut_len s.data.toList).2; rw [Array.length_toList] at this; exact Nat.le_trans this hs
  have hcut := fun w => cut_any w s hs
  have hbu := parseUintB_le h1
  have hu : u ≤ 4294967295 := by simpa using hbu
  have hbk := parseUintB_le h2
  have hk : k ≤ 4294967295 := by simpa using hbk
  generalize cutA s.data.toList = a at *
  generalize cutB s.data.toList = b at *
  generalize cutF s.data.toList = F at *
  have p1 := fun (w1 : World) => pu_ok w1 a hla u h1
  have p2 := fun (w1 : World) => pu_ok w1 b hlb k h2
  have HT := Lib.hid hT
  have HC := Lib.hid hcut
  have P1 := Lib.hid p1
  have P2 := Lib.hid p2
  clear hcut p1 p2 hT h1 h2 hla hlb
  have TX := Lib.hid (fun (w1 : World) (h : TabD w1) => dtext_any w1 u k h)
  rw [chkD_odd hf, textO_odd hf] at TX
  clear hf hbu hbk
  have HP := Lib.hid (fun (w' : World) (j : Nat) (v : Value) (h : Chg [] w w') => h.put (s := w.heap.size) (Nat.le_refl _) j v)
  have C := Lib.hid (Chg.refl [] w)
  obtain ⟨w1, hw1, cw1, b_B0⟩ := news1 w (.cells #[.int .i64 0, .int .i64 0] 23)
  have Ww1 := Lib.hid hw1
  have l_B0 := lt_of_heap b_B0
  replace C := Lib.hid (C.out.trans cw1)
  have B0 := Lib.hid (b_B0)
  clear hw1 cw1 b_B0
  go_enter Tryd.func31, Tryd.ntmps31
  go_wp2_with fail
  rw [← Ww1.out]
  generalize w.heap.size = s0 at *
  clear Ww1
  refine (HC.out w1).mono ?_
  rintro e w2 ⟨rfl, ca⟩
  replace B0 := Lib.hid (ca.at_ B0.out (by simp))
  replace C := Lib.hid (C.out.trans ca)
  clear ca HC
  go_wp2_with fail
  refine (P1.out w2).mono ?_
  rintro e w3 ⟨rfl, ca⟩
  replace B0 := Lib.hid (ca.at_ B0.out (by simp))
  replace C := Lib.hid (C.out.trans ca)
  clear ca P1
  go_wp2_with fail
  refine (P2.out w3).mono ?_
  rintro e w4 ⟨rfl, ca⟩
  replace B0 := Lib.hid (ca.at_ B0.out (by simp))
  replace C := Lib.hid (C.out.trans ca)
  clear ca P2
  obtain ⟨w5, hw5, cw5, b_B1⟩ := news1 w4 (.cells #[.int .i64 u, .int .i64 k] 23)
  have Ww5 := Lib.hid hw5
  have l_B1 := lt_of_heap b_B1
  replace B0 := Lib.hid (cw5.at_ B0.out (by simp))
  replace C := Lib.hid (C.out.trans cw5)
  have B1 := Lib.hid (b_B1)
  clear hw5 cw5 b_B1
  go_wp2_with fail
  rw [← Ww5.out]
  generalize w4.heap.size = s1 at *
  clear Ww5
  refine (TX.out w5 (HT.out.chg C.out)).mono ?_
  rintro e w6 ⟨rfl, ca⟩
  replace B0 := Lib.hid (ca.at_ B0.out (by simp))
  replace B1 := Lib.hid (ca.at_ B1.out (by simp))
  replace C := Lib.hid (C.out.trans ca)
  clear ca HT TX
  have z_B0_0 := cell_of B0.out 0
  have f_B0_0 := free_of B0.out 0
  have z_B0_1 := cell_of B0.out 1
  have f_B0_1 := free_of B0.out 1
  simp only [List.getElem?_toArray, List.getElem?_cons_succ, List.getElem?_cons_zero] at z_B0_0 z_B0_1
  have HPP := Lib.hid (put2_0 (.int .i64 (0)) (.int .i64 (0)) B0.out)
  have CW := Lib.hid ((HP.out _ 1 (.int .i64 (0)) (HP.out _ 0 (.int .i64 (0)) C.out)))
  go_wp2_with fail
  clear z_B0_0 f_B0_0 z_B0_1 f_B0_1
  generalize ((w6.setCell ⟨s0, 0, none⟩ (.int .i64 (0))).setCell ⟨s0, 1, none⟩ (.int .i64 (0))) = W at *
  have z0 := cell_of HPP.out 0
  have z1 := cell_of HPP.out 1
  simp only [List.getElem?_toArray, List.getElem?_cons_succ, List.getElem?_cons_zero] at z0 z1
  exact bodyPost_ret (v := .tuple #[.agg #[.int .i64 0, .int .i64 0], .int .i64 2]) (by simp [results, Tryd.results31, go_sem, z0, z1]) rfl ⟨rfl, CW.out⟩
set_option maxHeartbeats 4000000 in
theorem dparse_err1 (w : World) (s : ByteArray) (hs : s.size ≤ 140737488351232) (hT : TabD w) (h1 : ∀ u, parseUintB 32 (cutA s.data.toList) ≠ .ok u) :
    Calls Tryd.prog 31 #[.string s] w fun e w' => e = .returned (.tuple #[.agg #[.int .i64 0, .int .i64 0], .int .i64 2]) ∧ Chg [] w w' := by
  have hla : (cutA s.data.toList).length ≤ 140737488351232 := by have := (cut_len s.data.toList).1; rw [Array.length_toList] at this; exact Nat.le_trans this hs
  have hlb : (cutB s.data.toList).length ≤ 140737488351232 := by have := (cut_len s.data.toList).2; rw [Array.length_toList] at this; exact Nat.le_trans this hs
  have hcut := fun w => cut_any w s hs
  generalize cutA s.data.toList = a at *
  generalize cutB s.data.toList = b at *
  generalize cutF s.data.toList = F at *
  have p1 := fun (w1 : World) (h : TabD w1) => pu_err w1 a hla h1 h
  have p2 := fun (w1 : World) (h : TabD w1) => pu_gen w1 b hlb h
  have HT := Lib.hid hT
  have HC := Lib.hid hcut
  have P1 := Lib.hid p1
  have P2 := Lib.hid p2
  clear hcut p1 p2 hT h1 hla hlb
  have HP := Lib.hid (fun (w' : World) (j : Nat) (v : Value) (h : Chg [] w w') => h.put (s := w.heap.size) (Nat.le_refl _) j v)
  have C := Lib.hid (Chg.refl [] w)
  obtain ⟨w1, hw1, cw1, b_B0⟩ := news1 w (.cells #[.int .i64 0, .int .i64 0] 23)
  have Ww1 := Lib.hid hw1
  have l_B0 := lt_of_heap b_B0
  replace C := Lib.hid (C.out.trans cw1)
  have B0 := Lib.hid (b_B0)
  clear hw1 cw1 b_B0
  go_enter Tryd.func31, Tryd.ntmps31
  go_wp2_with fail
  rw [← Ww1.out]
  generalize w.heap.size = s0 at *
  clear Ww1
  refine (HC.out w1).mono ?_
  rintro e w2 ⟨rfl, ca⟩
  replace B0 := Lib.hid (ca.at_ B0.out (by simp))
  replace C := Lib.hid (C.out.trans ca)
  clear ca HC
  go_wp2_with fail
  refine (P1.out w2 (HT.out.chg C.out)).mono ?_
  rintro e w3 ⟨u1, N1, hu1, rfl, ca⟩
  replace B0 := Lib.hid (ca.at_ B0.out (by simp))
  replace C := Lib.hid (C.out.trans ca)
  clear ca P1
  go_wp2_with fail
  refine (P2.out w3 (HT.out.chg C.out)).mono ?_
  rintro e w4 ⟨u2, i2, hu2, rfl, ca⟩
  replace B0 := Lib.hid (ca.at_ B0.out (by simp))
  replace C := Lib.hid (C.out.trans ca)
  clear ca P2
  obtain ⟨w5, hw5, cw5, b_B1⟩ := news1 w4 (.cells #[.int .i64 u1, .int .i64 u2] 23)
  have Ww5 := Lib.hid hw5
  have l_B1 := lt_of_heap b_B1
  replace B0 := Lib.hid (cw5.at_ B0.out (by simp))
  replace C := Lib.hid (C.out.trans cw5)
  have B1 := Lib.hid (b_B1)
  clear hw5 cw5 b_B1
  go_wp2_with fail
  rw [← Ww5.out]
  generalize w4.heap.size = s1 at *
  clear Ww5
  have tx := dtext_any w5 u1 u2 (HT.out.chg C.out)
  generalize strOf (textO _ _) = Z at tx
  generalize chkD _ _ = E at tx
  refine (tx).mono ?_
  rintro e w6 ⟨rfl, ca⟩
  replace B0 := Lib.hid (ca.at_ B0.out (by simp))
  replace B1 := Lib.hid (ca.at_ B1.out (by simp))
  replace C := Lib.hid (C.out.trans ca)
  clear tx
  clear ca HT
  have z_B0_0 := cell_of B0.out 0
  have f_B0_0 := free_of B0.out 0
  have z_B0_1 := cell_of B0.out 1
  have f_B0_1 := free_of B0.out 1
  simp only [List.getElem?_toArray, List.getElem?_cons_succ, List.getElem?_cons_zero] at z_B0_0 z_B0_1
  have HPP := Lib.hid (put2_0 (.int .i64 (0)) (.int .i64 (0)) B0.out)
  have CW := Lib.hid ((HP.out _ 1 (.int .i64 (0)) (HP.out _ 0 (.int .i64 (0)) C.out)))
  go_wp2_with fail
  clear z_B0_0 f_B0_0 z_B0_1 f_B0_1
  generalize ((w6.setCell ⟨s0, 0, none⟩ (.int .i64 (0))).setCell ⟨s0, 1, none⟩ (.int .i64 (0))) = W at *
  have z0 := cell_of HPP.out 0
  have z1 := cell_of HPP.out 1
  simp only [List.getElem?_toArray, List.getElem?_cons_succ, List.getElem?_cons_zero] at z0 z1
  exact bodyPost_ret (v := .tuple #[.agg #[.int .i64 0, .int .i64 0], .int .i64 2]) (by simp [results, Tryd.results31, go_sem, z0, z1]) rfl ⟨rfl, CW.out⟩
set_option maxHeartbeats 4000000 in
theorem dparse_err2 (w : World) (s : ByteArray) (hs : s.size ≤ 140737488351232) (hT : TabD w) (u : Nat) (h1 : parseUintB 32 (cutA s.data.toList) = .ok u) (h2 : ∀ u, parseUintB 32 (cutB s.data.toList) ≠ .ok u) :
    Calls Tryd.prog 31 #[.string s] w fun e w' => e = .returned (.tuple #[.agg #[.int .i64 0, .int .i64 0], .int .i64 2]) ∧ Chg [] w w' := by
  have hla : (cutA s.data.toList).length ≤ 140737488351232 := by have := (cut_len s.data.toList).1; rw [Array.length_toList] at this; exact Nat.le_trans this hs
  have hlb : (cutB s.data.toList).length ≤ 140737488351232 := by have := (cut_len s.data.toList).2; rw [Array.length_toList] at this; exact Nat.le_trans this hs
  have hcut := fun w => cut_any w s hs
  have hbu := parseUintB_le h1
  have hu : u ≤ 4294967295 := by simpa using hbu
  generalize cutA s.data.toList = a at *
  generalize cutB s.data.toList = b at *
  generalize cutF s.data.toList = F at *
  have p1 := fun (w1 : World) => pu_ok w1 a hla u h1
  have p2 := fun (w1 : World) (h : TabD w1) => pu_err w1 b hlb h2 h
  have HT := Lib.hid hT
  have HC := Lib.hid hcut
  have P1 := Lib.hid p1
  have P2 := Lib.hid p2
  clear hcut p1 p2 hT h1 h2 hla hlb
  have HP := Lib.hid (fun (w' : World) (j : Nat) (v : Value) (h : Chg [] w w') => h.put (s := w.heap.size) (Nat.le_refl _) j v)
  have C := Lib.hid (Chg.refl [] w)
  obtain ⟨w1, hw1, cw1, b_B0⟩ := news1 w (.cells #[.int .i64 0, .int .i64 0] 23)
  have Ww1 := Lib.hid hw1
  have l_B0 := lt_of_heap b_B0
  replace C := Lib.hid (C.out.trans cw1)
  have B0 := Lib.hid (b_B0)
  clear hw1 cw1 b_B0
  go_enter Tryd.func31, Tryd.ntmps31
  go_wp2_with fail
  rw [← Ww1.out]
  generalize w.heap.size = s0 at *
  clear Ww1
  refine (HC.out w1).mono ?_
  rintro e w2 ⟨rfl, ca⟩
  replace B0 := Lib.hid (ca.at_ B0.out (by simp))
  replace C := Lib.hid (C.out.trans ca)
  clear ca HC
  go_wp2_with fail
  refine (P1.out w2).mono ?_
  rintro e w3 ⟨rfl, ca⟩
  replace B0 := Lib.hid (ca.at_ B0.out (by simp))
  replace C := Lib.hid (C.out.trans ca)
  clear ca P1
  go_wp2_with fail
  refine (P2.out w3 (HT.out.chg C.out)).mono ?_
  rintro e w4 ⟨u2, N2, hu2, rfl, ca⟩
  replace B0 := Lib.hid (ca.at_ B0.out (by simp))
  replace C := Lib.hid (C.out.trans ca)
  clear ca P2
  obtain ⟨w5, hw5, cw5, b_B1⟩ := news1 w4 (.cells #[.int .i64 u, .int .i64 u2] 23)
  have Ww5 := Lib.hid hw5
  have l_B1 := lt_of_heap b_B1
  replace B0 := Lib.hid (cw5.at_ B0.out (by simp))
  replace C := Lib.hid (C.out.trans cw5)
  have B1 := Lib.hid (b_B1)
  clear hw5 cw5 b_B1
  go_wp2_with fail
  rw [← Ww5.out]
  generalize w4.heap.size = s1 at *
  clear Ww5
  have tx := dtext_any w5 u u2 (HT.out.chg C.out)
  generalize strOf (textO _ _) = Z at tx
  generalize chkD _ _ = E at tx
  refine (tx).mono ?_
  rintro e w6 ⟨rfl, ca⟩
  replace B0 := Lib.hid (ca.at_ B0.out (by simp))
  replace B1 := Lib.hid (ca.at_ B1.out (by simp))
  replace C := Lib.hid (C.out.trans ca)
  clear tx
  clear ca HT
  have z_B0_0 := cell_of B0.out 0
  have f_B0_0 := free_of B0.out 0
  have z_B0_1 := cell_of B0.out 1
  have f_B0_1 := free_of B0.out 1
  simp only [List.getElem?_toArray, List.getElem?_cons_succ, List.getElem?_cons_zero] at z_B0_0 z_B0_1
  have HPP := Lib.hid (put2_0 (.int .i64 (0)) (.int .i64 (0)) B0.out)
  have CW := Lib.hid ((HP.out _ 1 (.int .i64 (0)) (HP.out _ 0 (.int .i64 (0)) C.out)))
  go_wp2_with fail
  clear z_B0_0 f_B0_0 z_B0_1 f_B0_1
  generalize ((w6.setCell ⟨s0, 0, none⟩ (.int .i64 (0))).setCell ⟨s0, 1, none⟩ (.int .i64 (0))) = W at *
  have z0 := cell_of HPP.out 0
  have z1 := cell_of HPP.out 1
  simp only [List.getElem?_toArray, List.getElem?_cons_succ, List.getElem?_cons_zero] at z0 z1
  exact bodyPost_ret (v := .tuple #[.agg #[.int .i64 0, .int .i64 0], .int .i64 2]) (by simp [results, Tryd.results31, go_sem, z0, z1]) rfl ⟨rfl, CW.out⟩
theorem dparse_any (w : World) (s : ByteArray) (hs : s.size ≤ 140737488351232) (hT : TabD w) :
    Calls Tryd.prog 31 #[.string s] w fun e w' => e = .returned (.tuple #[.agg #[.int .i64 (parseD s.data.toList).1.1, .int .i64 (parseD s.data.toList).1.2], .int .i64 (parseD s.data.toList).2]) ∧ Chg [] w w' := by
  by_cases h1 : ∃ u, parseUintB 32 (cutA s.data.toList) = .ok u
  · obtain ⟨u, hu⟩ := h1
    by_cases h2 : ∃ k, parseUintB 32 (cutB s.data.toList) = .ok k
    · obtain ⟨k, hk⟩ := h2
      by_cases hf : FineD u k
      · by_cases he : dotT u k = s.data.toList
        · rw [parse_yes hf he]; exact dparse_yes w s hs hT u k hu hk hf he
        · rw [parse_other hu hk (fun h => he h.2)]; exact dparse_text w s hs hT u k hu hk hf he
      · rw [parse_other hu hk (fun h => hf h.1)]; exact dparse_odd w s hs hT u k hu hk hf
    · have h2 : ∀ k, parseUintB 32 (cutB s.data.toList) ≠ .ok k := fun k hk => h2 ⟨k, hk⟩
      rw [parse_err2 h2]; exact dparse_err2 w s hs hT u hu h2
  · have h1 : ∀ k, parseUintB 32 (cutA s.data.toList) ≠ .ok k := fun k hk => h1 ⟨k, hk⟩
    rw [parse_err1 h1]; exact dparse_err1 w s hs hT h1
end Go.Proofs.YtmcnfopiilplnaaDoor
