/- The walk of WireBack. -/
import Derived.Test.YtknhgicpndgdoaaBack2
import Derived.Test.YtknhgicpndgdoaaKnown
namespace Go.Proofs.Ytknhgicpndgdoaa
open Go.RowKit

theorem Acts.chg' {w w' : World} {A : Option Addr} {len : Nat} {l : List ActD} (h : Acts w A len l) (hc : Chg [] w w') : Acts w' A len l :=
  ⟨h.1, fun j a hj => by
    obtain ⟨b, off, h1, h2⟩ := h.2 j a hj
    exact ⟨b, off, h1, h2.below hc.toBelow (Nat.le_refl _)⟩⟩

theorem field_err (e f : Int) (w : World) : (Instr.field 51 (.agg #[.int .i64 e, .int .i64 f]) 0).run Try.prog w = .ok (.int .i64 e) w := by
  simp [go_sem, Instr.field, run_underlying Try.underlying51, asAgg]
theorem OwnB.butLast {w : World} {A : Option Addr} {c : Nat} {xs : List UInt8} (h : OwnB w A c xs) : Bs w A (xs.length - 1) xs.dropLast := by
  have hr := h.reads
  refine ⟨by simp, fun j u hj => ?_⟩
  have hl := (List.getElem?_eq_some_iff.1 hj).1
  rw [List.length_dropLast] at hl
  rw [List.getElem?_dropLast, if_pos hl] at hj
  exact hr.cells j u hj
/-- Bytes that are owned, beside a reader that goes on. -/
theorem OwnB.keep_at {w w' : World} {A1 : Option Addr} {c1 b g : Nat} {xs zs : List UInt8} {p : Nat} {fe fa : Int} (h : OwnB w A1 c1 xs) (hc : Chg [b] w w') (hr : Rdr w b g zs p fe fa) : OwnB w' A1 c1 xs := by
  obtain ⟨A, c, h1, _, _⟩ := hr
  exact h.chg hc (fun a e => by simpa using h.ne h1 (by decide) a e)

set_option maxRecDepth 20000 in
set_option maxHeartbeats 4000000 in
theorem backs_yes (w : World) (A : Option Addr) (len c : Nat) (l : List ActD) (h : Acts w A len l) (hlen : len ≤ 140737488351232) :
    Calls Try.prog 7 #[.slice A len c] w fun r w' => r = .returned (.bool true) ∧ Chg [] w w' := by
  have HA := Lib.hid h
  clear h
  have hfe := field_err
  go_enter Try.func7, Try.ntmps7
  go_wp2_with fail
  refine (known_yes w).mono ?_
  rintro r w1 ⟨rfl, c1⟩
  have C1 := Lib.hid c1
  clear c1
  go_wp2_with fail
  refine (long_any w1 A len c l (HA.out.chg' C1.out) hlen).mono ?_
  rintro r w2 ⟨rfl, rfl⟩
  by_cases hl : longs l = true
  · rw [hl]
    go_wp2
    go_ret
    exact ⟨rfl, C1.out⟩
  have hl' : longs l = false := by simpa using hl
  rw [hl']
  obtain ⟨hsh, hl60⟩ := shorts HA.out hl'
  have HS := Lib.hid hsh
  have hll := HA.out.1
  clear hl hl' hsh
  go_wp2_with fail
  refine (new_any w1).mono ?_
  rintro r w3 ⟨rfl, h3, c3⟩
  have hb1 : w.heap.size ≤ w1.heap.size := C1.out.size
  have HW := Lib.hid h3
  have C3 := Lib.hid (C1.out.trans c3)
  clear h3 c3 C1
  generalize w1.heap.size = b at *
  go_wp2
  go_loopw [5] (fun i wr => ∃ (j g : Nat), j ≤ len ∧ i = .int .i64 j ∧ Wrt wr b g (outAll (l.take j)) 0 ∧ w.heap.size ≤ g ∧ Chg [] w wr) (fun i _ => len - (intOf i).toNat)
  case atStart => exact ⟨0, b, by omega, rfl, HW.out, hb1, C3.out⟩
  case round =>
    obtain ⟨j, g, hj, rfl, hW, hg, hC⟩ := hrel
    have HWr := Lib.hid hW
    have HCr := Lib.hid hC
    clear hW hC HW C3
    by_cases hlt : j < len
    · obtain ⟨a, ha⟩ : ∃ a, l[j]? = some a := ⟨l[j]'(by omega), List.getElem?_eq_getElem _⟩
      obtain ⟨ab, off, rfl, hAt⟩ := HA.out.2 j a ha
      obtain ⟨_, _, _, _, hbs, z1, z2, z3, z4⟩ := id hAt
      have hap : Apart a.B a.ys b g := hbs.apart hb1 hg
      have hAr := hAt.below HCr.out.toBelow (Nat.le_refl _)
      have k0 := hAr.c0
      have k1 := hAr.c1
      have k2 := hAr.c2
      have k3 := hAr.c3
      have Hap := Lib.hid hap
      have HAt := Lib.hid hAt
      have Ha := Lib.hid ha
      have hsa := HS.out a (List.mem_of_getElem? ha)
      have hx := short_take HS.out j (by omega)
      have hw := wAct_put _ a hsa (by omega : (outAll (l.take j)).length ≤ 1048000)
      rw [← outAll_more ha] at hw
      have Hw := Lib.hid hw
      clear hAr hap hbs hAt ha hw hsa
      go_wp2_with fail
      refine (right_any wr a).mono ?_
      rintro r w4 ⟨rfl, c4⟩
      have HW4 := Lib.hid (HWr.out.chg c4 (by simp) (by simp))
      have HC4 := Lib.hid (HCr.out.trans c4)
      clear c4 k0 k1 k2 k3
      go_wp2_with fail
      refine (write_any w4 b g _ 0 a.kind a.rn a.s a.B a.m a.d a.ys HW4.out (by omega) z1 z2 (HAt.out.below HC4.out.toBelow (Nat.le_refl _)).bytes Hap.out).mono ?_
      rintro r w5 ⟨rfl, hB⟩
      rw [Hw.out] at hB
      have hfin : ∃ g', Wrt w5 b g' (outAll (l.take (j + 1))) 0 ∧ w.heap.size ≤ g' ∧ Chg [] w w5 := by
        obtain ⟨g', p1, p2, p3⟩ := hB
        have := HC4.out.size
        refine ⟨g', p1, by rcases p3 with rfl | p3 <;> omega, HC4.out.trans' p2 ?_⟩
        intro i hi
        simp at hi
        omega
      have HF := Lib.hid hfin
      clear hB hfin
      go_wp2
      obtain ⟨g', q1, q2, q3⟩ := HF.out
      exact ⟨⟨j + 1, g', by omega, by go_num, q1, q2, q3⟩, by simp [intOf]; omega⟩
    · obtain rfl : j = len := by omega
      have hfull : outAll (l.take j) = outAll l := by rw [← hll, List.take_length]
      have hx := short_take HS.out j (by omega)
      rw [hfull] at hx
      have hWr := HWr.out
      rw [hfull] at hWr
      have HWr := Lib.hid hWr
      clear hfull hWr
      go_wp2_with fail
      refine (wout_any wr b g (outAll l) 0 HWr.out (by omega)).mono ?_
      rintro r w4 ⟨A1, c1, rfl, o1, n1, c4⟩
      have e0 : outs (outAll l) 0 = outAll l := by simp [outs]
      rw [e0] at o1 ⊢
      have O1 := Lib.hid o1
      have HC4 := Lib.hid (HCr.out.trans c4)
      clear o1 n1 c4 e0
      go_wp2_with fail
      refine (open_any w4 A1 _ c1 (outAll l) O1.out.reads (by omega)).mono ?_
      rintro r w5 ⟨b2, g2, rfl, hR, c5, hb2, hg2⟩
      have HR5 := Lib.hid hR
      have HC5 := Lib.hid (HC4.out.trans c5)
      have O5 := Lib.hid (O1.out.chg c5 (by simp))
      have hb2w : w.heap.size ≤ b2 := by have := HC4.out.size; omega
      clear hR c5
      go_wp2
      go_loopw [9] (fun i wr => ∃ (k : Nat), k ≤ j ∧ i = .int .i64 k ∧ Rdr wr b2 g2 (outAll l) (outAll (l.take k)).length 0 0 ∧ Chg [] w wr ∧ OwnB wr A1 c1 (outAll l)) (fun i _ => j - (intOf i).toNat)
      case atStart => exact ⟨0, by omega, rfl, HR5.out, HC5.out, O5.out⟩
      case round =>
        obtain ⟨k, hk, rfl, hR, hC, hO⟩ := hrel
        have HRr := Lib.hid hR
        have HCk := Lib.hid hC
        have HOk := Lib.hid hO
        clear hR hC hO HR5 HC5 O5
        by_cases hkj : k < j
        · obtain ⟨a, ha⟩ : ∃ a, l[k]? = some a := ⟨l[k]'(by omega), List.getElem?_eq_getElem _⟩
          obtain ⟨ab, off, rfl, hAt⟩ := HA.out.2 k a ha
          obtain ⟨_, _, _, _, hbs, z1, z2, z3, z4⟩ := id hAt
          have hap : Apart a.B a.ys b2 b2 := hbs.apart hb2w hb2w
          have hAr := hAt.below HCk.out.toBelow (Nat.le_refl _)
          have k0 := hAr.c0
          have k1 := hAr.c1
          have k2 := hAr.c2
          have k3 := hAr.c3
          have Hap := Lib.hid hap
          have HAt := Lib.hid hAt
          have hsa := Lib.hid (HS.out a (List.mem_of_getElem? ha))
          have hspl := Lib.hid (outAll_split ha)
          have hmore := Lib.hid (outAll_more ha)
          clear hAr hap hbs hAt ha
          go_wp2_with fail
          refine (right_any _ a).mono ?_
          rintro r w6 ⟨rfl, c6⟩
          have HR6 := Lib.hid (HRr.out.chg c6 (by simp) (by simp))
          have HC6 := Lib.hid (HCk.out.trans c6)
          have HO6 := Lib.hid (HOk.out.chg c6 (by simp))
          clear c6 k0 k1 k2 k3
          go_wp2_with fail
          have hbk := back_ok w6 b2 g2 (outAll (l.take k)) (outAll (l.drop (k + 1))) a hsa.out (by rw [← hspl.out]; exact HR6.out) (by rw [← hspl.out]; omega) (HAt.out.bytes.len) (HAt.out.below HC6.out.toBelow (Nat.le_refl _)).bytes Hap.out
          rw [← hspl.out] at hbk
          refine hbk.mono ?_
          clear hbk
          rintro r w7 ⟨rfl, hR7, c7⟩
          rw [← List.length_append, ← hmore.out] at hR7
          have HR7 := Lib.hid hR7
          have HC7 := Lib.hid (HC6.out.trans' c7 (by intro i hi; simp at hi; subst hi; exact .inr hb2w))
          have HO7 := Lib.hid (HO6.out.keep_at c7 HR6.out)
          clear hR7 c7
          go_wp2_with fail
          refine (rfault_any w7 b2 g2 _ _ 0 0 HR7.out).mono ?_
          rintro r w8 ⟨rfl, c8⟩
          have HR8 := Lib.hid (HR7.out.chg c8 (by simp) (by simp))
          have HC8 := Lib.hid (HC7.out.trans c8)
          have HO8 := Lib.hid (HO7.out.chg c8 (by simp))
          clear c8
          go_wp2
          exact ⟨⟨k + 1, by omega, by go_num, HR8.out, HC8.out, HO8.out⟩, by simp [intOf]; omega⟩
        · obtain rfl : k = j := by omega
          have hfull : outAll (l.take k) = outAll l := by rw [← hll, List.take_length]
          have hR := HRr.out
          rw [hfull] at hR
          have HRk := Lib.hid hR
          clear hfull hR HRr
          go_wp2_with fail
          refine (rend_done _ b2 g2 _ _ 0 0 HRk.out (fun _ => rfl) (by omega)).mono ?_
          rintro r w6 ⟨rfl, c6⟩
          have HR6 := Lib.hid (HRk.out.chg c6 (by simp) (by simp))
          have HC6 := Lib.hid (HCk.out.trans c6)
          have HO6 := Lib.hid (HOk.out.chg c6 (by simp))
          clear c6
          go_wp2_with fail
          refine (rleft_any _ b2 g2 _ _ 0 0 HR6.out (Nat.le_refl _) (by omega)).mono ?_
          rintro r w7 ⟨rfl, c7⟩
          have HC7 := Lib.hid (HC6.out.trans c7)
          have HO7 := Lib.hid (HO6.out.chg c7 (by simp))
          clear c7
          by_cases hnil : l = []
          · subst hnil
            have hk0 : k = 0 := by simpa using hll.symm
            subst hk0
            have he : (outAll []).length = 0 := rfl
            rw [he]
            go_wp2
            go_ret
            exact ⟨rfl, HC7.out⟩
          · have hpos : 0 < (outAll l).length := List.length_pos_iff.2 (outAll_pos HS.out hnil)
            have hk0 : 0 < k := by rw [← hll]; exact List.length_pos_iff.2 hnil
            have hcap := HO7.out.cap
            unfold maxLen at hcap
            have y1 : (0 : Int) ≤ ((outAll l).length : Int) - 1 := by omega
            have y2 : ((outAll l).length : Int) - 1 ≤ (c1 : Int) := by omega
            have y3 : ¬ c1 = 0 := by omega
            go_wp2_with fail
            refine (open_any w7 A1 _ c1 (outAll l).dropLast HO7.out.butLast (by omega)).mono ?_
            rintro r w8 ⟨b3, g3, rfl, hR8, c8, hb3, hg3⟩
            have HR8 := Lib.hid hR8
            have HC8 := Lib.hid (HC7.out.trans c8)
            have hb3w : w.heap.size ≤ b3 := by have := HC7.out.size; omega
            have hdl : (outAll l).dropLast.length = (outAll l).length - 1 := by simp
            clear hR8 c8 HO7 HC7 HR6 HC6 HO6 hb3 hg3
            go_wp2
            go_loopw [11] (fun i wr => ∃ (q p : Nat) (fe fa : Int), q ≤ k ∧ i = .int .i64 q ∧ Rdr wr b3 g3 (outAll l).dropLast p fe fa ∧ (q < k → p = (outAll (l.take q)).length ∧ fe = 0 ∧ fa = 0) ∧ (q = k → fe = 4 ∧ fa = ((outAll l).length : Int) - 1) ∧ Chg [] w wr) (fun i _ => k - (intOf i).toNat)
            case atStart => exact ⟨0, 0, 0, 0, by omega, rfl, HR8.out, fun _ => ⟨rfl, rfl, rfl⟩, fun e => by omega, HC8.out⟩
            case round =>
              obtain ⟨q, p, fe, fa, hq, rfl, hR, hB1, hB2, hC⟩ := hrel
              have HRq := Lib.hid hR
              have HB1 := Lib.hid hB1
              have HB2 := Lib.hid hB2
              have HCq := Lib.hid hC
              clear hR hC hB1 hB2 HR8 HC8
              by_cases hqk : q < k
              · obtain ⟨a, ha⟩ : ∃ a, l[q]? = some a := ⟨l[q]'(by omega), List.getElem?_eq_getElem _⟩
                obtain ⟨ab, off, rfl, hAt⟩ := HA.out.2 q a ha
                obtain ⟨rfl, rfl, rfl⟩ := HB1.out hqk
                obtain ⟨_, _, _, _, hbs, z1, z2, z3, z4⟩ := id hAt
                have hap : Apart a.B a.ys b3 b3 := hbs.apart hb3w hb3w
                have hAr := hAt.below HCq.out.toBelow (Nat.le_refl _)
                have k0 := hAr.c0
                have k1 := hAr.c1
                have k2 := hAr.c2
                have k3 := hAr.c3
                have Hap := Lib.hid hap
                have HAt := Lib.hid hAt
                have hsa := Lib.hid (HS.out a (List.mem_of_getElem? ha))
                have Ha := Lib.hid ha
                clear hAr hap hbs hAt ha HB1 HB2
                go_wp2_with fail
                refine (right_any _ a).mono ?_
                rintro r w9 ⟨rfl, c9⟩
                have HR9 := Lib.hid (HRq.out.chg c9 (by simp) (by simp))
                have HC9 := Lib.hid (HCq.out.trans c9)
                clear c9 k0 k1 k2 k3
                have hbk : Calls Try.prog 36 #[.pointer (some ⟨b3, 0, none⟩), .agg #[.int .i64 a.kind, .int .i64 a.rn, .string a.s, .slice a.B a.m a.d]] w9 fun e w' => ∃ (ok : Bool) (p : Nat) (fe fa : Int), e = .returned (.bool ok) ∧ Rdr w' b3 g3 (outAll l).dropLast p fe fa ∧ (q + 1 < k → p = (outAll (l.take (q + 1))).length ∧ fe = 0 ∧ fa = 0) ∧ (q + 1 = k → fe = 4 ∧ fa = ((outAll l).length : Int) - 1) ∧ Chg [b3] w9 w' := by
                  by_cases hlast : q + 1 < k
                  · have hcut := outAll_cut HS.out Ha.out (by omega : q + 1 < l.length)
                    have := back_ok w9 b3 g3 (outAll (l.take q)) (outAll (l.drop (q + 1))).dropLast a hsa.out (by rw [← hcut]; exact HR9.out) (by rw [← hcut]; omega) (HAt.out.bytes.len) (HAt.out.below HC9.out.toBelow (Nat.le_refl _)).bytes Hap.out
                    rw [← hcut, ← List.length_append, ← outAll_more Ha.out] at this
                    exact this.mono fun e w' ⟨h1, h2, h3⟩ => ⟨_, _, _, _, h1, h2, fun _ => ⟨rfl, rfl, rfl⟩, fun e => by omega, h3⟩
                  · have hcut := outAll_last HS.out Ha.out (by omega : q + 1 = l.length)
                    have := back_cut w9 b3 g3 (outAll (l.take q)) a hsa.out (by rw [← hcut]; exact HR9.out) (by rw [← hcut]; omega) (HAt.out.bytes.len) (HAt.out.below HC9.out.toBelow (Nat.le_refl _)).bytes Hap.out
                    rw [← hcut] at this
                    exact this.mono fun e w' ⟨ok, h1, h2, h3⟩ => ⟨_, _, _, _, h1, h2, fun e => by omega, fun _ => ⟨rfl, by rw [hdl]; omega⟩, h3⟩
                have HBk := Lib.hid hbk
                clear hbk
                go_wp2_with fail
                refine HBk.out.mono ?_
                rintro r w10 ⟨ok, p2, fe2, fa2, rfl, hR2, hD1, hD2, c10⟩
                have HR10 := Lib.hid hR2
                have HD1 := Lib.hid hD1
                have HD2 := Lib.hid hD2
                have HC10 := Lib.hid (HC9.out.trans' c10 (by intro i hi; simp at hi; subst hi; exact .inr hb3w))
                clear hR2 hD1 hD2 c10 HBk
                go_wp2
                exact ⟨⟨q + 1, p2, fe2, fa2, by omega, by go_num, HR10.out, HD1.out, HD2.out, HC10.out⟩, by simp [intOf]; omega⟩
              · obtain rfl : q = k := by omega
                obtain ⟨rfl, rfl⟩ := HB2.out rfl
                have HRf := Lib.hid HRq.out
                clear HB1 HB2
                go_wp2_with fail
                refine (rfault_any _ b3 g3 _ _ _ _ HRf.out).mono ?_
                rintro r w9 ⟨rfl, c9⟩
                have HC9 := Lib.hid (HCq.out.trans c9)
                clear c9
                go_wp2
                go_ret
                exact ⟨rfl, HC9.out⟩
end Go.Proofs.Ytknhgicpndgdoaa
