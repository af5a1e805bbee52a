/- SameMembers; TopoTells, walked. -/
import Derived.Test.YtleioiihoplmaaaTolists2
import Derived.Test.YtleioiihoplmaaaEva
import Derived.Deep.Cut
namespace Go.Proofs.Ytleioiihoplmaaa
open Go.RowKit
set_option linter.unusedSimpArgs false
set_option linter.unusedVariables false



set_option maxHeartbeats 1000000 in
theorem samemem_any (w : World) (A B : Option Addr) (n m c d : Nat) (xs ys : List (Int × Int × Bool)) (h : RdK memTy w A n xs) (h' : RdK memTy w B m ys) (hn : n ≤ 140737488351232) (hm : m ≤ 140737488351232) :
    Calls Try.prog 15 #[.slice A n c, .slice B m d] w fun e w' => e = .returned (.bool (xs == ys)) ∧ Chg [] w w' := by
  have hl := h.len
  have hl2 := h'.len
  subst hl hl2
  by_cases hne : xs.length = ys.length
  · have hb : ((xs.length : Int) == (ys.length : Int)) = true := by simp; omega
    have HN := Lib.hid hne
    have HA := Lib.hid h
    have HB := Lib.hid h'
    clear hne h h'
    go_enter Try.func15, Try.ntmps15
    go_wp2
    go_loopw [5] (fun i wr => ∃ k : Nat, k ≤ xs.length ∧ i = .int .i64 k ∧ Hid (xs.take k = ys.take k ∧ Chg [] w wr)) (fun i _ => xs.length - (RowKit.intOf i).toNat)
    case atStart => exact ⟨0, Nat.zero_le _, rfl, rfl, Chg.refl _ _⟩
    case round =>
      obtain ⟨k, hk, rfl, HI⟩ := hrel
      by_cases hlt : k < xs.length
      · have hlt2 : k < ys.length := by have := HN.out; omega
        obtain ⟨g, o, eA, _⟩ := HA.out.line (by omega)
        obtain ⟨g2, o2, eB, _⟩ := HB.out.line (by omega)
        subst eA eB
        have ex := List.getElem?_eq_getElem hlt
        have ey := List.getElem?_eq_getElem hlt2
        obtain ⟨p0, p1, p2⟩ := memCells (HA.out.chg HI.out.2 (by simp)) ex
        obtain ⟨q0, q1, q2⟩ := memCells (HB.out.chg HI.out.2 (by simp)) ey
        generalize hx : xs[k] = x at *
        generalize hy : ys[k] = y at *
        have i0 : (0 : Int) ≤ (k : Int) := by omega
        have i1 : (k : Int) < (xs.length : Int) := by omega
        have i2 : (k : Int) < (ys.length : Int) := by omega
        have HX := Lib.hid (And.intro ex ey)
        clear ex ey hx hy
        refine (Decidable.em (x = y)).elim (fun hxy => ?EQ) (fun hxy => ?NE)
        case EQ =>
          subst hxy
          go_wp2
          go_quiet (fail)
          go_wp2
          refine ⟨⟨k + 1, by omega, by simp, ?_, HI.out.2.drewN _⟩, by simp [RowKit.intOf]; omega⟩
          rw [List.take_add_one, List.take_add_one, HI.out.1, HX.out.1, HX.out.2]
        case NE =>
          have hf : (xs == ys) = false := by
            rw [beq_eq_false_iff_ne]
            intro e
            apply hxy
            have h1 := HX.out.1
            rw [e, HX.out.2] at h1
            exact (Option.some.inj h1).symm
          have HF := Lib.hid hf
          clear hf
          obtain ⟨xa, xb, xc⟩ := x
          obtain ⟨ya, yb, yc⟩ := y
          by_cases h0 : xa = ya
          · subst h0
            by_cases h1 : xb = yb
            · subst h1
              have h2 : ¬ xc = yc := fun h => hxy (by rw [h])
              have h3 : yc = !xc := by cases xc <;> cases yc <;> simp_all
              subst h3
              clear hxy h2
              cases xc <;>
              · go_wp2
                go_quiet (fail)
                go_wp2
                go_ret
                exact ⟨by rw [HF.out]; rfl, HI.out.2.drewN _⟩
            · clear hxy
              go_wp2
              go_quiet (fail)
              go_wp2
              go_ret
              exact ⟨by rw [HF.out]; rfl, HI.out.2.drewN _⟩
          · clear hxy
            go_wp2
            go_quiet (fail)
            go_wp2
            go_ret
            exact ⟨by rw [HF.out]; rfl, HI.out.2.drewN _⟩
      · obtain rfl : k = xs.length := by omega
        have ht : (xs == ys) = true := by
          have := HI.out.1
          rw [List.take_of_length_le (Nat.le_refl _), List.take_of_length_le (by have := HN.out; omega)] at this
          simpa using this
        have HF := Lib.hid ht
        clear ht
        go_wp2
        go_ret
        exact ⟨by rw [HF.out]; rfl, HI.out.2⟩
  · have hb : ((xs.length : Int) == (ys.length : Int)) = false := by simp; omega
    have hf : (xs == ys) = false := by
      rw [beq_eq_false_iff_ne]
      intro e
      exact hne (by rw [e])
    rw [hf]
    clear hne h h' hf
    go_enter Try.func15, Try.ntmps15
    go_wp2
    go_ret
    exact ⟨rfl, Chg.refl _ _⟩

theorem memEq (a b : List (Int × Int × Bool)) : (a == a) = true := by simp
set_option maxRecDepth 100000 in
theorem topoAwake_run (W : World) : Calls Try.prog 8 #[] W fun e w' => e = .returned (.bool true) ∧ Chg [] W w' :=
  Ev.closed_call (X := []) (g := 0) (n := 100000) (by kernel_rfl) (Ev.no_ext _) (by kernel_rfl) (by kernel_rfl) W

set_option maxRecDepth 100000 in
set_option maxHeartbeats 8000000 in
theorem topotells_walk (w : World) (A : Option Addr) (c : Nat) (t : List MemT) (n : Int) (h : RdK memTy w A t.length t) (hN : t.length ≤ 140737488351232) :
    Calls Try.prog 4 #[.slice A t.length c, .int .i64 n] w fun e w' => e = .returned (.bool true) ∧ Chg [] w w' := by
  have AW := Lib.hid (fun W => topoAwake_run W)
  by_cases hl : 210 < t.length
  · have i1 : (210 : Int) < (t.length : Int) := by omega
    clear h hl
    go_enter Try.func4, Try.ntmps4
    go_wp2_with fail
    refine (AW.out _).mono ?_
    rintro e w1 ⟨rfl, h1⟩
    have K1 := Lib.hid h1
    clear h1
    go_wp2
    go_ret
    exact ⟨rfl, K1.out⟩
  have i1 : ¬ (210 : Int) < (t.length : Int) := by omega
  have HX := Lib.hid h
  obtain ⟨w1, hw1, c1, b1⟩ := news1 w (.cells #[] 50)
  have W1 := Lib.hid hw1
  have HO := Lib.hid (show OwnK memTy w1 (some ⟨w.heap.size, 0, none⟩) 0 [] from .of (full := []) b1 (Nat.le_refl _) (Nat.zero_le _) rfl rfl)
  have H1 := Lib.hid (h.chg c1 (by simp))
  have C1 := Lib.hid c1
  have HN := Lib.hid (show (0 + t.length) * 400 ≤ 140737488355327 by omega)
  have hn : t.length ≤ 100000000 := by omega
  clear hw1 c1 b1 h hl hN
  have PW := Lib.hid (fun w' A c h hA => toway_any w' A c t n h hA hn)
  have PU := Lib.hid (fun w' A c h => tounder_any w' A c t n h hn)
  have PL := Lib.hid (fun w' A c h hA => tolive_any w' A c t h hA hn)
  have PH := Lib.hid (fun w' A c h hA => toheight_any w' A c t h hA hn)
  have QW := Lib.hid (fun w' h => tqway_any w' A c t n h hn)
  have QU := Lib.hid (fun w' h => tqunder_any w' A c t n h hn)
  have QL := Lib.hid (fun w' h => tqlive_any w' A c t h hn)
  have QH := Lib.hid (fun w' h => tqheight_any w' A c t h hn)
  have L1 := Lib.hid (show (wayR t n).length ≤ t.length by unfold wayR; split; exact way_len' _ _ _; simp)
  have L2 := Lib.hid (show (underT t n).length ≤ t.length from accT_len _ _)
  have L3 := Lib.hid (live_len t)
  generalize wayR t n = ya at *
  generalize underT t n = yb at *
  generalize liveT t = yc at *
  generalize heightT t = yh at *
  generalize namesR t [n] = ye at *
  have l1 := L1.out
  have l2 := L2.out
  have l3 := L3.out
  have e1 : (ye == ye) = true := by simp
  have e2 : (yh == yh) = true := by simp
  go_enter Try.func4, Try.ntmps4
  go_upto_region 4 with (at_builtin; rw [← W1.out]; refine wpList_appK (R := memTy) rfl _ _ rfl rfl HO.out rfl rfl H1.out HN.out ?_; intro A2 c2 w2 u2 d2 e2; have U2 := Lib.hid u2; have D2 := Lib.hid (C1.out.grown d2 (fun k hk => by simp at hk; subst hk; exact .inr (Nat.le_refl _))); clear u2 d2 e2)
  rw [List.nil_append] at U2
  (try rw [Nat.zero_add])
  have HI := Lib.hid (fun (w' : World) (hc : Chg [] w2 w') => U2.out.reads.chg hc (by simp))
  have HL := Lib.hid (fun (w' : World) (hc : Chg [] w2 w') => (fun a ha => Nat.lt_of_lt_of_le (U2.out.lt a ha) hc.size : ∀ a, A2 = some a → a.block < w'.heap.size))
  have HT := Lib.hid (fun (w' : World) (hc : Chg [] w2 w') => HX.out.chg (D2.out.trans hc) (by simp))
  have K2 := Lib.hid (Chg.refl [] w2)
  go_wp2_with fail
  refine (PW.out w2 A2 c2 (HI.out _ K2.out) (HL.out _ K2.out)).mono ?_
  rintro e w3 ⟨B3, d3, rfl, hO, hB, hc⟩
  have K3 := Lib.hid (K2.out.trans hc)
  have R3 := Lib.hid hO.reads
  clear hO hB hc
  go_wp2_with fail
  refine (QW.out w3 (HT.out _ K3.out)).mono ?_
  rintro e w4 ⟨B4, d4, rfl, hO, hB, hc⟩
  have K4 := Lib.hid (K3.out.trans hc)
  have R4 := Lib.hid hO.reads
  replace R3 := Lib.hid (R3.out.chg hc (by simp))
  clear hO hB hc
  go_wp2_with fail
  refine (sameint_any _ _ _ _ _ _ _ ya ya R3.out R4.out (by omega) (by omega)).mono ?_
  rw [show (ya == ya) = true by simp]
  rintro e w5 ⟨rfl, hc⟩
  have K5 := Lib.hid (K4.out.trans hc)
  clear hc
  go_wp2_with fail
  refine (PU.out w5 A2 c2 (HI.out _ K5.out)).mono ?_
  rintro e w6 ⟨B6, d6, rfl, hO, hB, hc⟩
  have K6 := Lib.hid (K5.out.trans hc)
  have R6 := Lib.hid hO.reads
  clear hO hB hc
  go_wp2_with fail
  refine (QU.out w6 (HT.out _ K6.out)).mono ?_
  rintro e w7 ⟨B7, d7, rfl, hO, hB, hc⟩
  have K7 := Lib.hid (K6.out.trans hc)
  have R7 := Lib.hid hO.reads
  replace R6 := Lib.hid (R6.out.chg hc (by simp))
  clear hO hB hc
  go_wp2_with fail
  refine (sameint_any _ _ _ _ _ _ _ yb yb R6.out R7.out (by omega) (by omega)).mono ?_
  rw [show (yb == yb) = true by simp]
  rintro e w8 ⟨rfl, hc⟩
  have K8 := Lib.hid (K7.out.trans hc)
  clear hc
  go_wp2_with fail
  refine (PL.out w8 A2 c2 (HI.out _ K8.out) (HL.out _ K8.out)).mono ?_
  rintro e w9 ⟨B9, d9, rfl, hO, hB, hc⟩
  have K9 := Lib.hid (K8.out.trans hc)
  have R9 := Lib.hid hO.reads
  clear hO hB hc
  go_wp2_with fail
  refine (QL.out w9 (HT.out _ K9.out)).mono ?_
  rintro e w10 ⟨B10, d10, rfl, hO, hB, hc⟩
  have K10 := Lib.hid (K9.out.trans hc)
  have R10 := Lib.hid hO.reads
  replace R9 := Lib.hid (R9.out.chg hc (by simp))
  clear hO hB hc
  go_wp2_with fail
  refine (sameint_any _ _ _ _ _ _ _ yc yc R9.out R10.out (by omega) (by omega)).mono ?_
  rw [show (yc == yc) = true by simp]
  rintro e w11 ⟨rfl, hc⟩
  have K11 := Lib.hid (K10.out.trans hc)
  clear hc
  go_wp2_with fail
  refine (PH.out w11 A2 c2 (HI.out _ K11.out) (HL.out _ K11.out)).mono ?_
  rintro e w12 ⟨rfl, hc⟩
  have K12 := Lib.hid (K11.out.trans hc)
  clear hc
  go_wp2_with fail
  refine (QH.out w12 (HT.out _ K12.out)).mono ?_
  rintro e w13 ⟨rfl, hc⟩
  have K13 := Lib.hid (K12.out.trans hc)
  clear hc
  go_wp2_with fail
  refine (samemem_any _ _ _ _ _ _ _ t t (HI.out _ K13.out) (HT.out _ K13.out) (by omega) (by omega)).mono ?_
  rw [show (t == t) = true by simp]
  rintro e w14 ⟨rfl, hc⟩
  have K14 := Lib.hid (K13.out.trans hc)
  clear hc
  go_wp2_with fail
  refine (AW.out _).mono ?_
  rintro e w15 ⟨rfl, hc⟩
  have K15 := Lib.hid (K14.out.trans hc)
  clear hc
  go_wp2
  go_ret
  exact ⟨rfl, D2.out.trans K15.out⟩

theorem topotells_yes (w : World) (A : Option Addr) (m c : Nat) (t : List MemT) (n : Int) (h : RdK memTy w A m t) (hm : m * 24 ≤ 140737488351232) :
    Calls Try.prog 4 #[.slice A m c, .int .i64 n] w fun e w' => e = .returned (.bool true) ∧ Chg [] w w' := by
  have hl := h.len
  subst hl
  exact topotells_walk w A c t n h (by omega)
end Go.Proofs.Ytleioiihoplmaaa
