/- The kit's OverEvents over one event. The kit's SameEvent. The layer's closed examples: the run on marks, reckoned by the kernel. EventReads. Nothing is asked of the variables. Arguments opened: bytes, numbers, texts: from the data that a row reads to the cells that a walk goes over. -/
import Derived.Test.YtgbidlhgmeglmaaGreatDoorZerm
import Derived.Test.YtgbidlhgmeglmaaGreatDoorZerb
import Derived.Test.YtgbidlhgmeglmaaGreatDoorZerl
import Derived.Deep.Cut
import Derived.Test.YtgbidlhgmeglmaaGreatDoorZerd
import Derived.Test.YtgbidlhgmeglmaaGreatDoorZerc
import Derived.Test.YtgbidlhgmeglmaaGreatDoorZera
import Derived.Test.YtgbidlhgmeglmaaGreatDoorZero
import Derived.Test.YtgbidlhgmeglmaaGreatDoorLaid0
import Derived.Deep.Slices
import Derived.Deep.Fields
import Derived.ChangeSame
import Derived.SizedLaws
import Derived.ChangeArms
import Derived.ChangeSlices
import Derived.OpenShut
import Derived.ProofKit
namespace Go.Proofs.YtgbidlhgmeglmaaGreatDoor
section
open Go.RowKit Go.Lib
set_option linter.unusedSimpArgs false
set_option linter.unusedVariables false


set_option maxRecDepth 100000 in
set_option maxHeartbeats 8000000 in
theorem overevent_own (w : World) (g : Nat) (X : EvT) (e : EvP) (hg : w.heap[g]? = some (.cells #[.int .i64 X.n, .int .i64 X.s, .string X.p, .int .i64 X.k, .int .i64 X.m, .slice X.A X.l X.c, .slice X.B X.bl X.bc] 29 (0, 0))) (hA : OwnB w X.A X.c e.b) (hB : OwnK spanTy w X.B X.bc e.q) (hl : X.l = e.b.length) (hbl : X.bl = e.q.length) (hd : (∀ a, X.A = some a → a.block ≠ g) ∧ (∀ a, X.B = some a → a.block ≠ g) ∧ (∀ a b, X.A = some a → X.B = some b → a.block ≠ b.block)) :
    Calls Tryz.prog 27 #[.slice (some ⟨g, 0, none⟩) 1 1] w fun r w' => r = .returned (.tuple #[]) ∧ ∀ S : List Nat, g ∈ S → (∀ a, X.A = some a → a.block ∈ S) → (∀ a, X.B = some a → a.block ∈ S) → Chg S w w' := by

  have B := Lib.hid hg
  have HA := Lib.hid hA
  have HB := Lib.hid hB
  have HL := Lib.hid (And.intro hl hbl)
  have HD := Lib.hid hd
  clear hg hA hB hl hbl hd
  go_enter Tryz.func27, Tryz.ntmps27
  go_wp2
  go_loopw [2] (fun v2 wr => ∃ k : Nat, k ≤ 1 ∧ v2 = .int .i64 k ∧ Hid (k = 0 → wr = w) ∧ Hid (k = 1 → ∀ S : List Nat, g ∈ S → (∀ a, X.A = some a → a.block ∈ S) → (∀ a, X.B = some a → a.block ∈ S) → Chg S w wr)) (fun v2 _ => 1 - (RowKit.intOf v2).toNat)
  case atStart => exact ⟨0, by omega, rfl, Lib.hid (fun _ => rfl), Lib.hid (fun q => absurd q (by omega))⟩
  case round =>
    obtain ⟨k, hk, rfl, K0, K1⟩ := hrel
    by_cases hlt : k = 0
    · subst hlt
      have hw := K0.out rfl
      subst hw
      have z0 := cell_of B.out 0
      have z1 := cell_of B.out 1
      have z2 := cell_of B.out 2
      have z3 := cell_of B.out 3
      have z4 := cell_of B.out 4
      have z5 := cell_of B.out 5
      have z6 := cell_of B.out 6
      simp only [List.getElem?_toArray, List.getElem?_cons_succ, List.getElem?_cons_zero] at z0 z1 z2 z3 z4 z5 z6
      go_wp2_with fail
      clear z0 z1 z2 z3 z4 z5 z6 
      refine (over_own _ X.A X.c X.l e.b HA.out HL.out.1).mono ?_
      rintro r w2 ⟨rfl, h2⟩
      obtain ⟨S2, hS2, h2⟩ := over_only h2
      have B2 := Lib.hid (h2.at_ B.out (fun q => by obtain ⟨a, ha, e⟩ := hS2 _ q; exact HD.out.1 a ha e))
      have HB2 := Lib.hid (HB.out.chg h2 (fun b hb q => by obtain ⟨a, ha, e⟩ := hS2 _ q; exact HD.out.2.2 a b ha hb e))
      have C2 := Lib.hid h2
      have S2_ := Lib.hid hS2
      clear h2 hS2
      have z0 := cell_of B2.out 0
      have z1 := cell_of B2.out 1
      have z2 := cell_of B2.out 2
      have z3 := cell_of B2.out 3
      have z4 := cell_of B2.out 4
      have z5 := cell_of B2.out 5
      have z6 := cell_of B2.out 6
      simp only [List.getElem?_toArray, List.getElem?_cons_succ, List.getElem?_cons_zero] at z0 z1 z2 z3 z4 z5 z6
      go_wp2_with fail
      clear z0 z1 z2 z3 z4 z5 z6 
      refine (overspan_own w2 X.B X.bl X.bc e.q HB2.out HL.out.2).mono ?_
      rintro r w3 ⟨rfl, h3⟩
      obtain ⟨S3, hS3, h3⟩ := over_only h3
      have B3 := Lib.hid (h3.at_ B2.out (fun q => by obtain ⟨a, ha, e⟩ := hS3 _ q; exact HD.out.2.1 a ha e))
      have C3 := Lib.hid h3
      have S3_ := Lib.hid hS3
      clear h3 hS3
      have z0 := cell_of B3.out 0
      have fz0 := free_of B3.out 0
      have z1 := cell_of B3.out 1
      have fz1 := free_of B3.out 1
      have z2 := cell_of B3.out 2
      have fz2 := free_of B3.out 2
      have z3 := cell_of B3.out 3
      have fz3 := free_of B3.out 3
      have z4 := cell_of B3.out 4
      have fz4 := free_of B3.out 4
      have z5 := cell_of B3.out 5
      have fz5 := free_of B3.out 5
      have z6 := cell_of B3.out 6
      have fz6 := free_of B3.out 6
      simp only [List.getElem?_toArray, List.getElem?_cons_succ, List.getElem?_cons_zero] at z0 z1 z2 z3 z4 z5 z6
      go_wp2
      clear z0 z1 z2 z3 z4 z5 z6 fz0 fz1 fz2 fz3 fz4 fz5 fz6
      obtain ⟨p0, p1, p2⟩ := setA7 (.int .i64 0) (.int .i64 0) (.string ⟨#[111, 118, 101, 114]⟩) (.int .i64 0) (.int .i64 0) (.slice none 0 0) (.slice none 0 0) B3.out
      generalize (((((((w3.setCell ⟨g, 0, none⟩ (.int .i64 0)).setCell ⟨g, 1, none⟩ (.int .i64 0)).setCell ⟨g, 2, none⟩ (.string ⟨#[111, 118, 101, 114]⟩)).setCell ⟨g, 3, none⟩ (.int .i64 0)).setCell ⟨g, 4, none⟩ (.int .i64 0)).setCell ⟨g, 5, none⟩ (.slice none 0 0)).setCell ⟨g, 6, none⟩ (.slice none 0 0)) = w4 at *
      go_round
      case rel =>
        refine ⟨1, by omega, by go_num, Lib.hid (fun q => absurd q (by omega)), Lib.hid (fun _ S h0 hA hB => ?_)⟩
        have a1 := C2.out.mono (S' := S) (fun i hi => by obtain ⟨a, ha, e⟩ := S2_.out i hi; rw [← e]; exact .inl (hA a ha))
        have a2 := C3.out.mono (S' := S) (fun i hi => by obtain ⟨a, ha, e⟩ := S3_.out i hi; rw [← e]; exact .inl (hB a ha))
        have a3 := p2.mono (S' := S) (fun i hi => by simp at hi; subst hi; exact .inl h0)
        exact (a1.trans a2).trans a3
      case measure => simp [RowKit.intOf]
    · obtain rfl : k = 1 := by omega
      have KK := Lib.hid (K1.out rfl)
      go_wp2
      first | go_end0 | refine bodyPost_ret (results_none rfl _ _ _) rfl ?_
      exact ⟨rfl, KK.out⟩
end
section
open Go.RowKit Go.Lib
set_option linter.unusedSimpArgs false
set_option linter.unusedVariables false


/-- The same event, field by field. -/
def sameP (a b : EvP) : Bool := decide (a.n = b.n ∧ a.s = b.s) && decide (a.p = b.p) && (decide (a.k = b.k ∧ a.m = b.m) && a.b == b.b) && (a.q == b.q)
def sameX (k m : Int) (xs : List UInt8) (k' m' : Int) (ys : List UInt8) : Bool := decide (k = k' ∧ m = m') && (xs == ys)
theorem strOf_ne {a b : List UInt8} (h : a ≠ b) : (strOf a == strOf b) = false := by
  cases q : strOf a == strOf b with
  | false => rfl
  | true =>
    have q2 : (a.toArray == b.toArray) = true := q
    exact absurd (by simpa using q2) h
theorem strOf_ne2 {a b : List UInt8} (h : a ≠ b) : ¬ strOf a = strOf b := fun q => h (strOf_inj q)

set_option maxRecDepth 100000 in
set_option maxHeartbeats 4000000 in
theorem sameeff_0 (w : World) (k m k' m' : Int) (A B : Option Addr) (n c n2 c2 : Nat) (xs ys : List UInt8) (h : Bs w A n xs) (h2 : Bs w B n2 ys) (hne : k ≠ k') :
    Calls Tryz.prog 73 #[.agg #[.int .i64 k, .int .i64 m, .slice A n c], .agg #[.int .i64 k', .int .i64 m', .slice B n2 c2]] w fun r w' => r = .returned (.bool false) ∧ Chg [] w w' := by
  obtain ⟨w2, hw, hc, b0, b1⟩ := news2 w (.cells #[.int .i64 k, .int .i64 m, .slice A n c] 26) (.cells #[.int .i64 k', .int .i64 m', .slice B n2 c2] 26)
  have W2 := Lib.hid hw
  have C := Lib.hid hc
  have H := Lib.hid (h.chg hc (by simp))
  have H2 := Lib.hid (h2.chg hc (by simp))
  have e1 : (k == k') = false := beq_eq_false_iff_ne.2 hne
  clear hne
  clear hw hc h h2
  go_enter Tryz.func73, Tryz.ntmps73
  go_upto_region 1 with fail
  rw [← W2.out]
  generalize w.heap.size + 1 = g1 at *
  generalize w.heap.size = g0 at *
  have z0 := cell_of b0 0
  have z1 := cell_of b0 1
  have z2 := cell_of b0 2
  have y0 := cell_of b1 0
  have y1 := cell_of b1 1
  have y2 := cell_of b1 2
  simp only [List.getElem?_toArray, List.getElem?_cons_succ, List.getElem?_cons_zero] at z0 z1 z2 y0 y1 y2
  clear b0 b1
  go_wp2
  go_ret
  exact ⟨rfl, C.out⟩
set_option maxRecDepth 100000 in
set_option maxHeartbeats 4000000 in
theorem sameeff_1 (w : World) (k m m' : Int) (A B : Option Addr) (n c n2 c2 : Nat) (xs ys : List UInt8) (h : Bs w A n xs) (h2 : Bs w B n2 ys) (hne : m ≠ m') :
    Calls Tryz.prog 73 #[.agg #[.int .i64 k, .int .i64 m, .slice A n c], .agg #[.int .i64 k, .int .i64 m', .slice B n2 c2]] w fun r w' => r = .returned (.bool false) ∧ Chg [] w w' := by
  obtain ⟨w2, hw, hc, b0, b1⟩ := news2 w (.cells #[.int .i64 k, .int .i64 m, .slice A n c] 26) (.cells #[.int .i64 k, .int .i64 m', .slice B n2 c2] 26)
  have W2 := Lib.hid hw
  have C := Lib.hid hc
  have H := Lib.hid (h.chg hc (by simp))
  have H2 := Lib.hid (h2.chg hc (by simp))
  have e2 : (m == m') = false := beq_eq_false_iff_ne.2 hne
  clear hne
  clear hw hc h h2
  go_enter Tryz.func73, Tryz.ntmps73
  go_upto_region 1 with fail
  rw [← W2.out]
  generalize w.heap.size + 1 = g1 at *
  generalize w.heap.size = g0 at *
  have z0 := cell_of b0 0
  have z1 := cell_of b0 1
  have z2 := cell_of b0 2
  have y0 := cell_of b1 0
  have y1 := cell_of b1 1
  have y2 := cell_of b1 2
  simp only [List.getElem?_toArray, List.getElem?_cons_succ, List.getElem?_cons_zero] at z0 z1 z2 y0 y1 y2
  clear b0 b1
  go_wp2
  go_ret
  exact ⟨rfl, C.out⟩
set_option maxRecDepth 100000 in
set_option maxHeartbeats 4000000 in
theorem sameeff_2 (w : World) (k m : Int) (A B : Option Addr) (n c n2 c2 : Nat) (xs ys : List UInt8) (h : Bs w A n xs) (h2 : Bs w B n2 ys) :
    Calls Tryz.prog 73 #[.agg #[.int .i64 k, .int .i64 m, .slice A n c], .agg #[.int .i64 k, .int .i64 m, .slice B n2 c2]] w fun r w' => r = .returned (.bool (xs == ys)) ∧ Chg [] w w' := by
  obtain ⟨w2, hw, hc, b0, b1⟩ := news2 w (.cells #[.int .i64 k, .int .i64 m, .slice A n c] 26) (.cells #[.int .i64 k, .int .i64 m, .slice B n2 c2] 26)
  have W2 := Lib.hid hw
  have C := Lib.hid hc
  have H := Lib.hid (h.chg hc (by simp))
  have H2 := Lib.hid (h2.chg hc (by simp))
  generalize hv : (xs == ys) = v
  have HV := Lib.hid hv
  clear hv
  clear hw hc h h2
  go_enter Tryz.func73, Tryz.ntmps73
  go_upto_region 1 with fail
  rw [← W2.out]
  generalize w.heap.size + 1 = g1 at *
  generalize w.heap.size = g0 at *
  have z0 := cell_of b0 0
  have z1 := cell_of b0 1
  have z2 := cell_of b0 2
  have y0 := cell_of b1 0
  have y1 := cell_of b1 1
  have y2 := cell_of b1 2
  simp only [List.getElem?_toArray, List.getElem?_cons_succ, List.getElem?_cons_zero] at z0 z1 z2 y0 y1 y2
  clear b0 b1
  go_wp2_with fail
  clear z0 z1 z2 y0 y1 y2
  refine (same_any w2 A B n n2 c c2 xs ys H.out H2.out).mono ?_
  rintro r w3 ⟨rfl, rfl⟩
  rw [HV.out]
  rcases v with _ | _
  all_goals (clear HV; go_wp2; go_ret; exact ⟨rfl, C.out⟩)
theorem sameeff_any (w : World) (k m k' m' : Int) (A B : Option Addr) (n c n2 c2 : Nat) (xs ys : List UInt8) (h : Bs w A n xs) (h2 : Bs w B n2 ys) :
    Calls Tryz.prog 73 #[.agg #[.int .i64 k, .int .i64 m, .slice A n c], .agg #[.int .i64 k', .int .i64 m', .slice B n2 c2]] w fun r w' => r = .returned (.bool (sameX k m xs k' m' ys)) ∧ Chg [] w w' := by
  unfold sameX
  by_cases hk : k = k'
  · subst hk
    by_cases hm : m = m'
    · subst hm
      have q := sameeff_2 w k m A B n c n2 c2 xs ys h h2
      simpa using q
    · have q := sameeff_1 w k m m' A B n c n2 c2 xs ys h h2 hm
      simpa [hm] using q
  · have q := sameeff_0 w k m k' m' A B n c n2 c2 xs ys h h2 hk
    simpa [hk] using q

set_option maxRecDepth 100000 in
set_option maxHeartbeats 8000000 in
theorem sameev_0 (w : World) (un us : Int) (up : List UInt8) (uk um : Int) (uA : Option Addr) (ul uc : Nat) (uB : Option Addr) (ubl ubc : Nat) (ub : List UInt8) (uq : List (Int × Int × Int)) (vn vs : Int) (vp : List UInt8) (vk vm : Int) (vA : Option Addr) (vl vc : Nat) (vB : Option Addr) (vbl vbc : Nat) (vb : List UInt8) (vq : List (Int × Int × Int)) (ha : Bs w uA ul ub) (hq : RdK spanTy w uB ubl uq) (hb : Bs w vA vl vb) (hr : RdK spanTy w vB vbl vq) (hn : ubl ≤ 140737488351232 ∧ vbl ≤ 140737488351232) (hne : un ≠ vn) :
    Calls Tryz.prog 23 #[.agg #[.int .i64 un, .int .i64 us, .string (strOf up), .int .i64 uk, .int .i64 um, .slice uA ul uc, .slice uB ubl ubc], .agg #[.int .i64 vn, .int .i64 vs, .string (strOf vp), .int .i64 vk, .int .i64 vm, .slice vA vl vc, .slice vB vbl vbc]] w fun r w' => r = .returned (.bool false) ∧ Chg [] w w' := by
  obtain ⟨w2, hw, hc, b0, b1⟩ := news2 w (.cells #[.int .i64 un, .int .i64 us, .string (strOf up), .int .i64 uk, .int .i64 um, .slice uA ul uc, .slice uB ubl ubc] 29) (.cells #[.int .i64 vn, .int .i64 vs, .string (strOf vp), .int .i64 vk, .int .i64 vm, .slice vA vl vc, .slice vB vbl vbc] 29)
  have W2 := Lib.hid hw
  have C := Lib.hid hc
  have HA := Lib.hid (ha.chg hc (by simp))
  have HB := Lib.hid (hb.chg hc (by simp))
  have HQ := Lib.hid (hq.chg hc (by simp))
  have HR := Lib.hid (hr.chg hc (by simp))
  have HN := Lib.hid hn
  have e0 : (un == vn) = false := beq_eq_false_iff_ne.2 hne
  have hN := Lib.hid hne
  clear hne
  clear hw hc ha hq hb hr hn
  go_enter Tryz.func23, Tryz.ntmps23
  go_upto_region 1 with fail
  rw [← W2.out]
  generalize w.heap.size + 1 = g1 at *
  generalize w.heap.size = g0 at *
  have z0 := cell_of b0 0
  have z1 := cell_of b0 1
  have z2 := cell_of b0 2
  have z3 := cell_of b0 3
  have z4 := cell_of b0 4
  have z5 := cell_of b0 5
  have z6 := cell_of b0 6
  have y0 := cell_of b1 0
  have y1 := cell_of b1 1
  have y2 := cell_of b1 2
  have y3 := cell_of b1 3
  have y4 := cell_of b1 4
  have y5 := cell_of b1 5
  have y6 := cell_of b1 6
  simp only [List.getElem?_toArray, List.getElem?_cons_succ, List.getElem?_cons_zero] at z0 z1 z2 z3 z4 z5 z6 y0 y1 y2 y3 y4 y5 y6
  clear b0 b1
  go_wp2
  go_ret
  exact ⟨rfl, C.out⟩
set_option maxRecDepth 100000 in
set_option maxHeartbeats 8000000 in
theorem sameev_1 (w : World) (un us : Int) (up : List UInt8) (uk um : Int) (uA : Option Addr) (ul uc : Nat) (uB : Option Addr) (ubl ubc : Nat) (ub : List UInt8) (uq : List (Int × Int × Int)) (vs : Int) (vp : List UInt8) (vk vm : Int) (vA : Option Addr) (vl vc : Nat) (vB : Option Addr) (vbl vbc : Nat) (vb : List UInt8) (vq : List (Int × Int × Int)) (ha : Bs w uA ul ub) (hq : RdK spanTy w uB ubl uq) (hb : Bs w vA vl vb) (hr : RdK spanTy w vB vbl vq) (hn : ubl ≤ 140737488351232 ∧ vbl ≤ 140737488351232) (hne : us ≠ vs) :
    Calls Tryz.prog 23 #[.agg #[.int .i64 un, .int .i64 us, .string (strOf up), .int .i64 uk, .int .i64 um, .slice uA ul uc, .slice uB ubl ubc], .agg #[.int .i64 un, .int .i64 vs, .string (strOf vp), .int .i64 vk, .int .i64 vm, .slice vA vl vc, .slice vB vbl vbc]] w fun r w' => r = .returned (.bool false) ∧ Chg [] w w' := by
  obtain ⟨w2, hw, hc, b0, b1⟩ := news2 w (.cells #[.int .i64 un, .int .i64 us, .string (strOf up), .int .i64 uk, .int .i64 um, .slice uA ul uc, .slice uB ubl ubc] 29) (.cells #[.int .i64 un, .int .i64 vs, .string (strOf vp), .int .i64 vk, .int .i64 vm, .slice vA vl vc, .slice vB vbl vbc] 29)
  have W2 := Lib.hid hw
  have C := Lib.hid hc
  have HA := Lib.hid (ha.chg hc (by simp))
  have HB := Lib.hid (hb.chg hc (by simp))
  have HQ := Lib.hid (hq.chg hc (by simp))
  have HR := Lib.hid (hr.chg hc (by simp))
  have HN := Lib.hid hn
  have e0 : (us == vs) = false := beq_eq_false_iff_ne.2 hne
  have hN := Lib.hid hne
  clear hne
  clear hw hc ha hq hb hr hn
  go_enter Tryz.func23, Tryz.ntmps23
  go_upto_region 1 with fail
  rw [← W2.out]
  generalize w.heap.size + 1 = g1 at *
  generalize w.heap.size = g0 at *
  have z0 := cell_of b0 0
  have z1 := cell_of b0 1
  have z2 := cell_of b0 2
  have z3 := cell_of b0 3
  have z4 := cell_of b0 4
  have z5 := cell_of b0 5
  have z6 := cell_of b0 6
  have y0 := cell_of b1 0
  have y1 := cell_of b1 1
  have y2 := cell_of b1 2
  have y3 := cell_of b1 3
  have y4 := cell_of b1 4
  have y5 := cell_of b1 5
  have y6 := cell_of b1 6
  simp only [List.getElem?_toArray, List.getElem?_cons_succ, List.getElem?_cons_zero] at z0 z1 z2 z3 z4 z5 z6 y0 y1 y2 y3 y4 y5 y6
  clear b0 b1
  go_wp2
  go_ret
  exact ⟨rfl, C.out⟩
set_option maxRecDepth 100000 in
set_option maxHeartbeats 8000000 in
theorem sameev_2 (w : World) (un us : Int) (up : List UInt8) (uk um : Int) (uA : Option Addr) (ul uc : Nat) (uB : Option Addr) (ubl ubc : Nat) (ub : List UInt8) (uq : List (Int × Int × Int)) (vp : List UInt8) (vk vm : Int) (vA : Option Addr) (vl vc : Nat) (vB : Option Addr) (vbl vbc : Nat) (vb : List UInt8) (vq : List (Int × Int × Int)) (ha : Bs w uA ul ub) (hq : RdK spanTy w uB ubl uq) (hb : Bs w vA vl vb) (hr : RdK spanTy w vB vbl vq) (hn : ubl ≤ 140737488351232 ∧ vbl ≤ 140737488351232) (hne : up ≠ vp) :
    Calls Tryz.prog 23 #[.agg #[.int .i64 un, .int .i64 us, .string (strOf up), .int .i64 uk, .int .i64 um, .slice uA ul uc, .slice uB ubl ubc], .agg #[.int .i64 un, .int .i64 us, .string (strOf vp), .int .i64 vk, .int .i64 vm, .slice vA vl vc, .slice vB vbl vbc]] w fun r w' => r = .returned (.bool false) ∧ Chg [] w w' := by
  obtain ⟨w2, hw, hc, b0, b1⟩ := news2 w (.cells #[.int .i64 un, .int .i64 us, .string (strOf up), .int .i64 uk, .int .i64 um, .slice uA ul uc, .slice uB ubl ubc] 29) (.cells #[.int .i64 un, .int .i64 us, .string (strOf vp), .int .i64 vk, .int .i64 vm, .slice vA vl vc, .slice vB vbl vbc] 29)
  have W2 := Lib.hid hw
  have C := Lib.hid hc
  have HA := Lib.hid (ha.chg hc (by simp))
  have HB := Lib.hid (hb.chg hc (by simp))
  have HQ := Lib.hid (hq.chg hc (by simp))
  have HR := Lib.hid (hr.chg hc (by simp))
  have HN := Lib.hid hn
  have e0 := strOf_ne hne
  have e1 := strOf_ne2 hne
  have e2 : (up == vp) = false := beq_eq_false_iff_ne.2 hne
  clear hw hc ha hq hb hr hn
  go_enter Tryz.func23, Tryz.ntmps23
  go_upto_region 1 with fail
  rw [← W2.out]
  generalize w.heap.size + 1 = g1 at *
  generalize w.heap.size = g0 at *
  have z0 := cell_of b0 0
  have z1 := cell_of b0 1
  have z2 := cell_of b0 2
  have z3 := cell_of b0 3
  have z4 := cell_of b0 4
  have z5 := cell_of b0 5
  have z6 := cell_of b0 6
  have y0 := cell_of b1 0
  have y1 := cell_of b1 1
  have y2 := cell_of b1 2
  have y3 := cell_of b1 3
  have y4 := cell_of b1 4
  have y5 := cell_of b1 5
  have y6 := cell_of b1 6
  simp only [List.getElem?_toArray, List.getElem?_cons_succ, List.getElem?_cons_zero] at z0 z1 z2 z3 z4 z5 z6 y0 y1 y2 y3 y4 y5 y6
  clear b0 b1
  go_wp2
  go_ret
  exact ⟨rfl, C.out⟩
set_option maxRecDepth 100000 in
set_option maxHeartbeats 8000000 in
theorem sameev_3 (w : World) (un us : Int) (up : List UInt8) (uk um : Int) (uA : Option Addr) (ul uc : Nat) (uB : Option Addr) (ubl ubc : Nat) (ub : List UInt8) (uq : List (Int × Int × Int)) (vk vm : Int) (vA : Option Addr) (vl vc : Nat) (vB : Option Addr) (vbl vbc : Nat) (vb : List UInt8) (vq : List (Int × Int × Int)) (ha : Bs w uA ul ub) (hq : RdK spanTy w uB ubl uq) (hb : Bs w vA vl vb) (hr : RdK spanTy w vB vbl vq) (hn : ubl ≤ 140737488351232 ∧ vbl ≤ 140737488351232) :
    Calls Tryz.prog 23 #[.agg #[.int .i64 un, .int .i64 us, .string (strOf up), .int .i64 uk, .int .i64 um, .slice uA ul uc, .slice uB ubl ubc], .agg #[.int .i64 un, .int .i64 us, .string (strOf up), .int .i64 vk, .int .i64 vm, .slice vA vl vc, .slice vB vbl vbc]] w fun r w' => r = .returned (.bool (sameX uk um ub vk vm vb && (uq == vq))) ∧ Chg [] w w' := by
  obtain ⟨w2, hw, hc, b0, b1⟩ := news2 w (.cells #[.int .i64 un, .int .i64 us, .string (strOf up), .int .i64 uk, .int .i64 um, .slice uA ul uc, .slice uB ubl ubc] 29) (.cells #[.int .i64 un, .int .i64 us, .string (strOf up), .int .i64 vk, .int .i64 vm, .slice vA vl vc, .slice vB vbl vbc] 29)
  have W2 := Lib.hid hw
  have C := Lib.hid hc
  have HA := Lib.hid (ha.chg hc (by simp))
  have HB := Lib.hid (hb.chg hc (by simp))
  have HQ := Lib.hid (hq.chg hc (by simp))
  have HR := Lib.hid (hr.chg hc (by simp))
  have HN := Lib.hid hn
  generalize hv : sameX uk um ub vk vm vb = v
  have HV := Lib.hid hv
  clear hv
  generalize hu : (uq == vq) = u
  have HU := Lib.hid hu
  clear hu
  clear hw hc ha hq hb hr hn
  go_enter Tryz.func23, Tryz.ntmps23
  go_upto_region 1 with fail
  rw [← W2.out]
  generalize w.heap.size + 1 = g1 at *
  generalize w.heap.size = g0 at *
  have z0 := cell_of b0 0
  have z1 := cell_of b0 1
  have z2 := cell_of b0 2
  have z3 := cell_of b0 3
  have z4 := cell_of b0 4
  have z5 := cell_of b0 5
  have z6 := cell_of b0 6
  have y0 := cell_of b1 0
  have y1 := cell_of b1 1
  have y2 := cell_of b1 2
  have y3 := cell_of b1 3
  have y4 := cell_of b1 4
  have y5 := cell_of b1 5
  have y6 := cell_of b1 6
  simp only [List.getElem?_toArray, List.getElem?_cons_succ, List.getElem?_cons_zero] at z0 z1 z2 z3 z4 z5 z6 y0 y1 y2 y3 y4 y5 y6
  clear b0 b1
  go_wp2_with fail
  refine (sameeff_any _ uk um vk vm uA vA ul uc vl vc ub vb HA.out HB.out).mono ?_
  rintro r w3 ⟨rfl, h3⟩
  rw [HV.out]
  have cz6 := h3.cell z6 (by simp)
  have cy6 := h3.cell y6 (by simp)
  replace C := Lib.hid (C.out.trans h3)
  replace HQ := Lib.hid (HQ.out.chg h3 (by simp))
  replace HR := Lib.hid (HR.out.chg h3 (by simp))
  clear h3 HV z0 z1 z2 z3 z4 z5 z6 y0 y1 y2 y3 y4 y5 y6
  rcases v with _ | _
  · clear cz6 cy6
    go_wp2
    go_ret
    exact ⟨rfl, C.out⟩
  go_wp2_with fail
  refine (samespan_any _ uB vB ubl vbl ubc vbc uq vq HQ.out HR.out HN.out.1 HN.out.2).mono ?_
  rintro r w4 ⟨rfl, h4⟩
  rw [HU.out]
  replace C := Lib.hid (C.out.trans h4)
  clear h4 cz6 cy6 HU
  rcases u with _ | _
  all_goals (go_wp2; go_ret; exact ⟨rfl, C.out⟩)
theorem sameev_raw (w : World) (un us : Int) (up : List UInt8) (uk um : Int) (uA : Option Addr) (ul uc : Nat) (uB : Option Addr) (ubl ubc : Nat) (ub : List UInt8) (uq : List (Int × Int × Int)) (vn vs : Int) (vp : List UInt8) (vk vm : Int) (vA : Option Addr) (vl vc : Nat) (vB : Option Addr) (vbl vbc : Nat) (vb : List UInt8) (vq : List (Int × Int × Int)) (ha : Bs w uA ul ub) (hq : RdK spanTy w uB ubl uq) (hb : Bs w vA vl vb) (hr : RdK spanTy w vB vbl vq) (hn : ubl ≤ 140737488351232 ∧ vbl ≤ 140737488351232) :
    Calls Tryz.prog 23 #[.agg #[.int .i64 un, .int .i64 us, .string (strOf up), .int .i64 uk, .int .i64 um, .slice uA ul uc, .slice uB ubl ubc], .agg #[.int .i64 vn, .int .i64 vs, .string (strOf vp), .int .i64 vk, .int .i64 vm, .slice vA vl vc, .slice vB vbl vbc]] w fun r w' => r = .returned (.bool (sameP ⟨un, us, up, uk, um, ub, uq⟩ ⟨vn, vs, vp, vk, vm, vb, vq⟩)) ∧ Chg [] w w' := by
  unfold sameP
  by_cases h1 : un = vn
  · subst h1
    by_cases h2 : us = vs
    · subst h2
      by_cases h3 : up = vp
      · subst h3
        have q := sameev_3 w un us up uk um uA ul uc uB ubl ubc ub uq vk vm vA vl vc vB vbl vbc vb vq ha hq hb hr hn
        unfold sameX at q
        simpa using q
      · have q := sameev_2 w un us up uk um uA ul uc uB ubl ubc ub uq vp vk vm vA vl vc vB vbl vbc vb vq ha hq hb hr hn h3
        simpa [h3] using q
    · have q := sameev_1 w un us up uk um uA ul uc uB ubl ubc ub uq vs vp vk vm vA vl vc vB vbl vbc vb vq ha hq hb hr hn h2
      simpa [h2] using q
  · have q := sameev_0 w un us up uk um uA ul uc uB ubl ubc ub uq vn vs vp vk vm vA vl vc vB vbl vbc vb vq ha hq hb hr hn h1
    simpa [h1] using q
theorem sameev_any (w : World) (x y : EvT) (e f : EvP) (hx : EvR w x e) (hy : EvR w y f) (hn : e.q.length ≤ 140737488351232 ∧ f.q.length ≤ 140737488351232) :
    Calls Tryz.prog 23 #[.agg #[.int .i64 x.n, .int .i64 x.s, .string x.p, .int .i64 x.k, .int .i64 x.m, .slice x.A x.l x.c, .slice x.B x.bl x.bc], .agg #[.int .i64 y.n, .int .i64 y.s, .string y.p, .int .i64 y.k, .int .i64 y.m, .slice y.A y.l y.c, .slice y.B y.bl y.bc]] w fun r w' => r = .returned (.bool (sameP e f)) ∧ Chg [] w w' := by
  have q := sameev_raw w e.n e.s e.p e.k e.m x.A x.l x.c x.B x.bl x.bc e.b e.q f.n f.s f.p f.k f.m y.A y.l y.c y.B y.bl y.bc f.b f.q hx.A hx.B hy.A hy.B (by rw [hx.bl, hy.bl]; exact hn)
  have en := hx.n
  have es := hx.s
  have ep := hx.p
  have ek := hx.k
  have em := hx.m
  have fn := hy.n
  have fs := hy.s
  have fp := hy.p
  have fk := hy.k
  have fm := hy.m
  rw [en, es, ep, ek, em, fn, fs, fp, fk, fm]
  exact q
end
section
open Go.RowKit
theorem l8awake_run (W : World) : Calls Tryz.prog 9 #[] W fun e w' => e = .returned (.bool true) ∧ Chg [] W w' :=
  Ev.closed_call (X := [(192, .compare)]) (g := 3) (n := 100000) (by kernel_rfl) (Ev.one_ext Tryz.func192 (by kernel_rfl) (by kernel_rfl) (by kernel_rfl) (by kernel_rfl) (Ev.no_ext _)) (by kernel_rfl) (by kernel_rfl) W
end
section
open Go.RowKit Go.Lib
set_option linter.unusedSimpArgs false
set_option linter.unusedVariables false


theorem Lent.lt {w : World} {g : Nat} {xs : List UInt8} (h : Lent w g xs) : g < w.heap.size := by
  obtain ⟨full, h1, _⟩ := h
  exact lt_of_heap h1
theorem readEv_q (xs : List UInt8) : (readEv xs).1.q.length ≤ 4000 := by
  by_cases h : (readEv xs).2.1 = 0
  · obtain ⟨_, _, _, a⟩ := ok_parts (ev_again h).1
    exact (chkS_zero a).1
  · rw [(ev_fault h).1]
    exact Nat.zero_le _
set_option maxRecDepth 100000 in
set_option maxHeartbeats 16000000 in
theorem eventreads_yes (w : World) (B : Option Addr) (m d : Nat) (ys : List UInt8) (hb : Bs w B m ys) (hn : m ≤ 140737488351232) (hc1 : m ≤ d) (hc2 : d ≤ 9223372036854775807) :
    Calls Tryz.prog 4 #[.slice B m d] w fun r w' => r = .returned (.bool true) ∧ Chg [] w w' := by

  have hl := hb.len
  subst hl
  have HB := Lib.hid hb
  have HB0 := HB
  have HC := Lib.hid (And.intro hc1 hc2)
  have C := Lib.hid (Chg.refl [] w)
  clear hb hc1 hc2 hn
  go_enter Tryz.func4, Tryz.ntmps4
  by_cases hbig : 4000 < ys.length
  · have h2 : (4000 : Int) < (ys.length : Int) := by omega
    go_wp2_with fail
    refine (l8awake_run _).mono ?_
    rintro e w2 ⟨rfl, hc⟩
    have C := Lib.hid (C.out.trans hc)
    clear hc
    go_wp2
    go_ret
    exact ⟨rfl, C.out⟩
  have h2 : ¬ (4000 : Int) < (ys.length : Int) := by omega
  have HM : Hid (ys.length ≤ 4000) := Lib.hid (by omega)
  clear hbig
  go_wp2_with fail
  clear h2
  refine (lent_any _ B _ d ys HB.out (by have := HM.out; omega)).mono ?_
  rintro r w1 ⟨g, rfl, hL, hg, hc⟩
  have HL := Lib.hid hL
  have LG := Lib.hid hL.lt
  replace C := Lib.hid (C.out.trans hc)
  replace HB := Lib.hid (HB.out.chg hc (by simp))
  clear hL hg hc
  have C1 := C
  have C16 := Lib.hid (Chg.refl [] w1)
  obtain ⟨re, hre⟩ : ∃ q, readEv ys = q := ⟨_, rfl⟩
  have RE := Lib.hid hre
  clear hre
  have RL : Hid (re.1.q.length ≤ 140737488351232) := Lib.hid (by rw [← RE.out]; have := readEv_q ys; have := HM.out; omega)
  go_wp2_with fail
  refine (evread_any w1 (some ⟨g, 0, none⟩) _ _ ys HL.out.reads (by have := HM.out; omega)).mono ?_
  rintro r w2 ⟨X, rfl, hX, hOA, hOB, hNA, hNB, hne, hc⟩
  rw [RE.out] at hX hOA hOB ⊢
  have RX := Lib.hid hX
  have OA := Lib.hid hOA
  have OB := Lib.hid hOB
  have NA := Lib.hid hNA
  have NB := Lib.hid hNB
  have NE := Lib.hid hne
  replace C := Lib.hid (C.out.trans hc)
  replace C16 := Lib.hid (C16.out.trans hc)
  replace HB := Lib.hid (HB.out.chg hc (by simp))
  replace HL := Lib.hid (HL.out.chg hc (by simp))
  clear hX hOA hOB hNA hNB hne hc
  obtain ⟨w3, hw, hc, b4, b5⟩ := news2 w2 (.cells #[.int .i64 X.n, .int .i64 X.s, .string X.p, .int .i64 X.k, .int .i64 X.m, .slice X.A X.l X.c, .slice X.B X.bl X.bc] 29) (.cells #[.int .i64 re.2.1, .int .i64 re.2.2] 44)
  have WW := Lib.hid hw
  have B4 := Lib.hid b4
  have B5 := Lib.hid b5
  clear hw b4 b5
  replace C := Lib.hid (C.out.trans hc)
  replace C16 := Lib.hid (C16.out.trans hc)
  replace HB := Lib.hid (HB.out.chg hc (by simp))
  replace HL := Lib.hid (HL.out.chg hc (by simp))
  replace RX := Lib.hid (RX.out.chg hc)
  replace OA := Lib.hid (OA.out.chg hc (by simp))
  replace OB := Lib.hid (OB.out.chg hc (by simp))
  clear hc
  go_upto_region 5 with fail
  rw [← WW.out]
  generalize w2.heap.size + 1 = g5 at *
  generalize w2.heap.size = g4 at *
  clear WW
  go_wp2_with fail
  refine (veread_any w3 B _ d ys HB.out (by have := HM.out; omega) HC.out).mono ?_
  rintro r w4 ⟨Y, rfl, hY, hYA, hYB, hNA, hNB, hne, hc⟩
  rw [RE.out] at hY ⊢
  have RY := Lib.hid hY
  replace C := Lib.hid (C.out.trans hc)
  replace C16 := Lib.hid (C16.out.trans hc)
  replace HB := Lib.hid (HB.out.chg hc (by simp))
  replace HL := Lib.hid (HL.out.chg hc (by simp))
  replace RX := Lib.hid (RX.out.chg hc)
  replace OA := Lib.hid (OA.out.chg hc (by simp))
  replace OB := Lib.hid (OB.out.chg hc (by simp))
  replace B4 := Lib.hid (hc.at_ B4.out (by simp))
  replace B5 := Lib.hid (hc.at_ B5.out (by simp))
  clear hY hYA hYB hNA hNB hne hc
  obtain ⟨w5, hw, hc, b6, b7⟩ := news2 w4 (.cells #[.int .i64 Y.n, .int .i64 Y.s, .string Y.p, .int .i64 Y.k, .int .i64 Y.m, .slice Y.A Y.l Y.c, .slice Y.B Y.bl Y.bc] 29) (.cells #[.int .i64 re.2.1, .int .i64 re.2.2] 44)
  have WW := Lib.hid hw
  have B6 := Lib.hid b6
  have B7 := Lib.hid b7
  clear hw b6 b7
  replace C := Lib.hid (C.out.trans hc)
  replace C16 := Lib.hid (C16.out.trans hc)
  replace HB := Lib.hid (HB.out.chg hc (by simp))
  replace HL := Lib.hid (HL.out.chg hc (by simp))
  replace RX := Lib.hid (RX.out.chg hc)
  replace OA := Lib.hid (OA.out.chg hc (by simp))
  replace OB := Lib.hid (OB.out.chg hc (by simp))
  replace B4 := Lib.hid (hc.at_ B4.out (by simp))
  replace B5 := Lib.hid (hc.at_ B5.out (by simp))
  replace RY := Lib.hid (RY.out.chg hc)
  clear hc
  go_upto_region 6 with fail
  rw [← WW.out]
  generalize w4.heap.size + 1 = g7 at *
  generalize w4.heap.size = g6 at *
  clear WW
  have z0 := cell_of B4.out 0
  have z1 := cell_of B4.out 1
  have z2 := cell_of B4.out 2
  have z3 := cell_of B4.out 3
  have z4 := cell_of B4.out 4
  have z5 := cell_of B4.out 5
  have z6 := cell_of B4.out 6
  have y0 := cell_of B6.out 0
  have y1 := cell_of B6.out 1
  have y2 := cell_of B6.out 2
  have y3 := cell_of B6.out 3
  have y4 := cell_of B6.out 4
  have y5 := cell_of B6.out 5
  have y6 := cell_of B6.out 6
  simp only [List.getElem?_toArray, List.getElem?_cons_succ, List.getElem?_cons_zero] at z0 z1 z2 z3 z4 z5 z6 y0 y1 y2 y3 y4 y5 y6
  have SE : Hid (sameP re.1 re.1 = true) := Lib.hid (by unfold sameP; simp)
  go_wp2_with fail
  clear z0 z1 z2 z3 z4 z5 z6 y0 y1 y2 y3 y4 y5 y6
  refine (sameev_any w5 X Y re.1 re.1 RX.out RY.out ⟨RL.out, RL.out⟩).mono ?_
  rintro r w6 ⟨rfl, hc⟩
  rw [SE.out]
  replace C := Lib.hid (C.out.trans hc)
  replace C16 := Lib.hid (C16.out.trans hc)
  replace HB := Lib.hid (HB.out.chg hc (by simp))
  replace HL := Lib.hid (HL.out.chg hc (by simp))
  replace RX := Lib.hid (RX.out.chg hc)
  replace OA := Lib.hid (OA.out.chg hc (by simp))
  replace OB := Lib.hid (OB.out.chg hc (by simp))
  replace B4 := Lib.hid (hc.at_ B4.out (by simp))
  replace B5 := Lib.hid (hc.at_ B5.out (by simp))
  replace RY := Lib.hid (RY.out.chg hc)
  replace B6 := Lib.hid (hc.at_ B6.out (by simp))
  replace B7 := Lib.hid (hc.at_ B7.out (by simp))
  clear hc RY
  have u0 := cell_of B5.out 0
  have u1 := cell_of B5.out 1
  have t0 := cell_of B7.out 0
  have t1 := cell_of B7.out 1
  simp only [List.getElem?_toArray, List.getElem?_cons_succ, List.getElem?_cons_zero] at u0 u1 t0 t1
  go_upto_region 7 with fail
  clear u0 u1 t0 t1
  obtain ⟨w7, hw, hc, b8⟩ := news1 w6 (.cells #[.int .i64 X.n, .int .i64 X.s, .string X.p, .int .i64 X.k, .int .i64 X.m, .slice X.A X.l X.c, .slice X.B X.bl X.bc] 29)
  have WW := Lib.hid hw
  have B8 := Lib.hid b8
  have S16 := Lib.hid C16.out.size
  have LS8 : Hid (w1.heap.size ≤ w6.heap.size) := Lib.hid S16.out
  have DA : Hid ((∀ a, X.A = some a → a.block ≠ w6.heap.size) ∧ (∀ a, X.B = some a → a.block ≠ w6.heap.size)) := Lib.hid ⟨fun a ha => Nat.ne_of_lt (OA.out.lt a ha), fun a ha => Nat.ne_of_lt (OB.out.lt_ a ha)⟩
  clear hw b8
  have z0 := cell_of B4.out 0
  have z1 := cell_of B4.out 1
  have z2 := cell_of B4.out 2
  have z3 := cell_of B4.out 3
  have z4 := cell_of B4.out 4
  have z5 := cell_of B4.out 5
  have z6 := cell_of B4.out 6
  simp only [List.getElem?_toArray, List.getElem?_cons_succ, List.getElem?_cons_zero] at z0 z1 z2 z3 z4 z5 z6
  replace C := Lib.hid (C.out.trans hc)
  replace HB := Lib.hid (HB.out.chg hc (by simp))
  replace HL := Lib.hid (HL.out.chg hc (by simp))
  replace RX := Lib.hid (RX.out.chg hc)
  replace OA := Lib.hid (OA.out.chg hc (by simp))
  replace OB := Lib.hid (OB.out.chg hc (by simp))
  replace B4 := Lib.hid (hc.at_ B4.out (by simp))
  replace B5 := Lib.hid (hc.at_ B5.out (by simp))
  replace B6 := Lib.hid (hc.at_ B6.out (by simp))
  replace B7 := Lib.hid (hc.at_ B7.out (by simp))
  clear hc
  go_wp2_with fail
  rw [← WW.out]
  generalize w6.heap.size = g8 at *
  clear WW
  clear z0 z1 z2 z3 z4 z5 z6
  refine (overevent_own w7 g8 X re.1 B8.out OA.out OB.out RX.out.l RX.out.bl ⟨DA.out.1, DA.out.2, NE.out⟩).mono ?_
  rintro r w8 ⟨rfl, h9⟩
  have h9 := h9 (blkOf X.A ++ blkOf X.B ++ [g8]) (by simp) (fun a ha => by simp [mem_blkOf ha]) (fun a ha => by simp [mem_blkOf ha])
  have hS : ∀ i ∈ blkOf X.A ++ blkOf X.B ++ [g8], w1.heap.size ≤ i := fun i hi => by
    simp only [List.mem_append, List.mem_singleton] at hi
    rcases hi with (hi | hi) | hi
    · obtain ⟨a, ha, e⟩ := of_blkOf hi
      rw [← e]; exact NA.out a ha
    · obtain ⟨a, ha, e⟩ := of_blkOf hi
      rw [← e]; exact NB.out a ha
    · rw [hi]; exact LS8.out
  replace C := Lib.hid (C.out.over C1.out hS h9)
  replace HL := Lib.hid (HL.out.chg h9 (fun q => absurd (hS _ q) (by have := LG.out; omega)))
  replace HB := Lib.hid (HB0.out.chg C.out (by simp))
  clear h9 hS RX OA OB B4 B5 B6 B7 B8
  go_wp2_with fail
  refine (kept_any w8 g B _ d ys HL.out HB.out (by have := HM.out; omega)).mono ?_
  rintro r w9 ⟨rfl, hc⟩
  replace C := Lib.hid (C.out.trans hc)
  replace HB := Lib.hid (HB.out.chg hc (by simp))
  replace HL := Lib.hid (HL.out.chg hc (by simp))
  clear hc
  go_wp2_with fail
  refine (l8awake_run _).mono ?_
  rintro r wa ⟨rfl, hc⟩
  replace C := Lib.hid (C.out.trans hc)
  replace HB := Lib.hid (HB.out.chg hc (by simp))
  replace HL := Lib.hid (HL.out.chg hc (by simp))
  clear hc
  go_wp2
  go_ret
  exact ⟨(by first | rfl | simp), C.out⟩
end
section
def TabN (_ : World) : Prop := True
theorem TabN.laid {W : World} (_h : laidMetH Tryz.prog tables W) : TabN W := trivial
end
section
open Go.RowKit Go.WideShapes Go.ChangeShapes Go.Deep
section
variable {H : Type} {enc : TypeId × Value → H} {P : Program} {w : World} {base : Nat} {spare : Nat → Bool} {held : Bool}

theorem weights_all_mem {e : TypeId} : ∀ {l : List (DataW H)} {d : DataW H}, d ∈ l → ∀ n ∈ d.weights P e, n ∈ DataW.weightsAll P e l
  | x :: l, d, hd, n, hn => by
    simp only [DataW.weightsAll, List.mem_append]
    rcases List.mem_cons.1 hd with rfl | h
    · exact .inl hn
    · exact .inr (weights_all_mem h n hn)
theorem weights_slice {t e : TypeId} (ht : P.underlying t = some (.slice e)) {xs ys : List (DataW H)} (hz : ∀ k ∈ (DataW.slice xs ys).weights P t, k ≤ reachBytes) :
    (xs.length + ys.length) * P.bytesOf e ≤ reachBytes ∧ ∀ d ∈ xs, ∀ k ∈ d.weights P e, k ≤ reachBytes := by
  simp only [DataW.weights, ht, List.mem_cons, List.mem_append] at hz
  exact ⟨hz _ (.inl rfl), fun d hd k hk => hz k (.inr (.inl (weights_all_mem hd k hk)))⟩
end
section
variable {H : Type} {enc : TypeId × Value → H} {w : World} {base : Nat} {spare : Nat → Bool} {held : Bool}

theorem open_bytes {n : Nat} {cs : List Value} {y : DataW H × List MemPlace} (h : DataW.trod enc Tryz.prog w base spare held n 24 cs = some y) (hz : ∀ k ∈ y.1.weights Tryz.prog 24, k ≤ reachBytes) :
    ∃ A m d ys, cs = [.slice A m d] ∧ Bs w A m ys ∧ m ≤ 140737488351232 ∧ m ≤ d ∧ d ≤ 9223372036854775807 := by
  rcases open_ints Tryz.underlying24 Tryz.underlying5 (by kernel_rfl) h with ⟨rfl, _⟩ | ⟨x, l, c, zs, rfl, _, hl, hm, hzl, rfl, hcell, hwz⟩
  · exact ⟨none, 0, 0, [], rfl, Bs.nil _ _, by decide, by decide, by decide⟩
  · have hlen : l ≤ zs.length := by rw [hzl]; split <;> omega
    have hw := (weights_slice Tryz.underlying24 hz).1
    rw [show Tryz.prog.bytesOf 5 = 1 by kernel_rfl] at hw
    refine ⟨some x, l, c, (zs.take l).map (fun z => UInt8.ofNat z.toNat), rfl, ⟨by simp; omega, fun j u hj => ⟨x, rfl, ?_⟩⟩, ?_, hl, by unfold maxLen at hm; omega⟩
    · have hjl := (List.getElem?_eq_some_iff.1 hj).1
      rw [List.length_map, List.length_take] at hjl
      have h1 : j < l := by omega
      have h2 : j < zs.length := by omega
      rw [hcell j h2]
      have hwz' := bounds_u8 (hwz (zs.getD j 0) (by simp [List.getD, h2]))
      simp only [List.getElem?_map, List.getElem?_take, if_pos h1, Option.map_eq_some_iff] at hj
      obtain ⟨z, h3, rfl⟩ := hj
      have e : zs.getD j 0 = z := by simp [List.getD, h3]
      rw [e] at hwz' ⊢
      unfold bv
      congr 2
      simp
      omega
    · simp [lits, reachBytes] at hw
      omega

end
end
end Go.Proofs.YtgbidlhgmeglmaaGreatDoor
