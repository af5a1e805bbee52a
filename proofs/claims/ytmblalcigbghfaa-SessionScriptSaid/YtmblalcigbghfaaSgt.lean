/- SessionScript, walked. -/
import Derived.Test.YtmblalcigbghfaaSgq
import Derived.Test.YtmblalcigbghfaaSgr
import Derived.Test.YtmblalcigbghfaaSgs
import Derived.Test.YtmblalcigbghfaaSactargs
import Derived.Test.YtmblalcigbghfaaSawk
namespace Go.Proofs.Ytmblalcigbghfaa
section
open Go.RowKit Go.Lib
set_option linter.unusedSimpArgs false
set_option linter.unusedVariables false


def LongP (n : Nat) (e : Ending) : Prop := ∃ bb, e = .returned (.bool bb) ∧ (bb = false → n ≤ 80)
theorem LongP.mk {n : Nat} {bb : Bool} (h : bb = false → n ≤ 80) : LongP n (.returned (.bool bb)) := ⟨bb, rfl, h⟩
theorem acts_nil (w : World) (A : Option Addr) (c : Nat) : Calls Try.prog 9 #[.slice A 0 c] w fun e w' => LongP 0 e ∧ w' = w := by
  have h0 : ((0 : Nat) : Int) = 0 := rfl
  go_enter Try.func9, Try.ntmps9
  go_wp2
  go_loopw [3] (fun v wr => v = .int .i64 0 ∧ w = wr) (fun _ _ => 0)
  case atStart => exact ⟨rfl, rfl⟩
  case round =>
    obtain ⟨rfl, rfl⟩ := hrel
    go_wp2
    go_ret
    exact ⟨LongP.mk (by simp), rfl⟩
set_option maxHeartbeats 4000000 in
theorem acts_long (w : World) (g o n c : Nat) (zs : List SactV) (h : RdK sactTy w (some ⟨g, o, none⟩) n zs) (hn : n ≤ 2199023255552) (hu : ∀ x ∈ zs, x.2.2.2.2.2.2.1 ≤ 140737488351232) :
    Calls Try.prog 9 #[.slice (some ⟨g, o, none⟩) n c] w fun e w' => LongP n e ∧ w' = w := by
  have H := Lib.hid h
  have HU := Lib.hid hu
  have HL := Lib.hid h.len
  clear h hu
  go_enter Try.func9, Try.ntmps9
  go_wp2
  go_loopw [3] (fun v wr => ∃ j : Nat, j ≤ n ∧ v = .int .i64 (j : Int) ∧ w = wr) (fun v _ => n - (RowKit.intOf v).toNat)
  case atStart => exact ⟨0, Nat.zero_le _, rfl, rfl⟩
  case round =>
    obtain ⟨j, hj, rfl, rfl⟩ := hrel
    have i0 : (0 : Int) ≤ (j : Int) := by omega
    have i1 : IntKind.i64.wrap ((j : Int) + 1) = (j : Int) + 1 := IntWalk.i64_in _ (by omega)
    by_cases hlt : j < n
    · have i2 : (j : Int) < (n : Int) := by omega
      obtain ⟨x, hx⟩ : ∃ x, zs[j]? = some x := ⟨_, List.getElem?_eq_getElem (by have := HL.out; omega)⟩
      obtain ⟨-, -, -, -, -, q5⟩ := sactCells H.out hx
      have hxn := HU.out x (List.mem_of_getElem? hx)
      obtain ⟨x1, x2, x3, x4, x5, xA, xn, xd⟩ := x
      dsimp only at q5 hxn
      clear hx
      by_cases hb : 500 < xn
      · have i3 : (500 : Int) < (xn : Int) := by omega
        go_wp2
        go_ret
        exact ⟨LongP.mk (by simp), rfl⟩
      · have i3 : ¬ (500 : Int) < (xn : Int) := by omega
        go_wp2
        go_round
        case measure => simp [RowKit.intOf]; omega
        exact ⟨j + 1, by omega, by go_num, trivial⟩
    · have i2 : ¬ (j : Int) < (n : Int) := by omega
      go_wp2
      go_ret
      exact ⟨LongP.mk (fun h => by have := of_decide_eq_false h; omega), rfl⟩
theorem acts_any (w : World) (A : Option Addr) (n c : Nat) (zs : List SactV) (h : RdK sactTy w A n zs) (hn : n ≤ 2199023255552) (hu : ∀ x ∈ zs, x.2.2.2.2.2.2.1 ≤ 140737488351232) :
    Calls Try.prog 9 #[.slice A n c] w fun e w' => LongP n e ∧ w' = w := by
  by_cases h0 : n = 0
  · subst h0
    exact acts_nil w A c
  · obtain ⟨g, o, rfl, _⟩ := h.line (by omega)
    exact acts_long w g o n c zs h hn hu
theorem does_any (w0 w : World) (b c K : Nat) (st : SesT) (hB : Both w0 w b c K st) (hK : K ≤ 800000) (k f t m a : Int) (Y : Option Addr) (n e : Nat) (ys : List UInt8) (hy : Bs w Y n ys) (hY : ys = [] ∨ ∀ x, Y = some x → x.block < w0.heap.size) (hn : n ≤ 140737488351232) :
    Calls Try.prog 11 #[.pointer (some ⟨b, 0, none⟩), .pointer (some ⟨c, 0, none⟩), .agg #[.int .i64 k, .int .i64 f, .int .i64 t, .int .i64 m, .int .i64 a, .slice Y n e]] w fun r w' => r = .returned (.bool true) ∧ ∃ st', Both w0 w' b c (K + 2) st' := by
  by_cases k0 : k = 0
  · subst k0; exact does_send w0 w b c K st hB hK f t m a Y n e ys hy hY hn
  by_cases k1 : k = 1
  · subst k1; exact does_tick w0 w b c K st hB hK f t m a Y n e ys hy hY hn
  by_cases k2 : k = 2
  · subst k2; exact does_out w0 w b c K st hB hK f t m a Y n e ys hy hY hn
  by_cases k3 : k = 3
  · subst k3; exact does_recv w0 w b c K st hB hK f t m a Y n e ys hy hY hn
  by_cases k4 : k = 4
  · subst k4; exact does_take w0 w b c K st hB hK f t m a Y n e ys hy hY hn
  · exact does_no w0 w b c K st hB hK f t m a Y n e ys hy hY hn k ⟨k0, k1, k2, k3, k4⟩
set_option maxRecDepth 100000 in
set_option maxHeartbeats 8000000 in
theorem sessionscript_yes (w : World) (ep : Int) (A : Option Addr) (n c : Nat) (zs : List SactV) (h : RdK sactTy w A n zs) (hu : ∀ x ∈ zs, SactR w x) (hm : n * 64 ≤ 140737488351232) :
    Calls Try.prog 3 #[.int .i64 ep, .slice A n c] w fun e w' => e = .returned (.bool true) ∧ Chg [] w w' := by
  have H := Lib.hid h
  have HU := Lib.hid hu
  have HM := Lib.hid hm
  have HL := Lib.hid h.len
  clear h hu hm
  by_cases hbad : ep < 1 ∨ 1099511627776 < ep
  · have HB := Lib.hid hbad
    clear hbad
    go_enter Try.func3, Try.ntmps3
    go_wp2_with fail
    refine (senew_bad w ep HB.out).mono ?_
    rintro r w1 ⟨rfl, rfl⟩
    go_wp2_with fail
    refine (dnew_bad w1 ep HB.out).mono ?_
    rintro r w2 ⟨rfl, rfl⟩
    go_wp2_with fail
    refine (l18awake_run w2).mono ?_
    rintro r w3 ⟨rfl, hc⟩
    have C := Lib.hid hc
    clear hc
    go_wp2
    go_ret
    exact ⟨rfl, C.out⟩
  · have HE := Lib.hid (show 1 ≤ ep ∧ ep ≤ 1099511627776 by omega)
    clear hbad
    go_enter Try.func3, Try.ntmps3
    go_wp2_with fail
    refine (senew_any w ep HE.out.1 HE.out.2).mono ?_
    rintro r w1 ⟨b, rfl, hq, hb, hc⟩
    have hs := newL hq HE.out
    have HS := Lib.hid hs
    have HBB := Lib.hid hb
    have C1 := Lib.hid hc
    clear hq hb hc hs
    go_wp2_with fail
    refine (dnew_any w1 ep HE.out.1 HE.out.2).mono ?_
    rintro r w2 ⟨d, rfl, hq, hd, hc⟩
    have hdl := newDL hq HE.out
    have BO : Hid (Both w w2 b d 0 (newS ep)) := Lib.hid ⟨none, [], [d], HS.out.chg hc (by simp) (by simp) (by simp), hdl, ⟨fun z hz => by
      have := HS.out.lt.1
      have := HBB.out
      simp [blkOf] at hz
      subst hz
      exact ⟨by omega, by simp; omega, by simp⟩, fun z hz => by
      have := C1.out.size
      simp at hz
      subst hz
      exact ⟨by omega, by simp⟩⟩, C1.out.trans hc⟩
    have C2 := Lib.hid (C1.out.trans hc)
    clear hq hd hc hdl HS HBB C1
    go_wp2_with fail
    refine (acts_any w2 A n c zs (H.out.chg C2.out (by simp)) (by have := HM.out; omega) (fun x hx => by obtain ⟨ys, _, h2⟩ := HU.out x hx; exact h2)).mono ?_
    rintro r w3 ⟨⟨bb, rfl, hbb⟩, rfl⟩
    cases bb with
    | true =>
      clear hbb
      go_wp2_with fail
      refine (l18awake_run w3).mono ?_
      rintro r w4 ⟨rfl, hc⟩
      have C := Lib.hid (C2.out.trans hc)
      clear hc
      go_wp2
      go_ret
      exact ⟨rfl, C.out⟩
    | false =>
      have N80 := Lib.hid (hbb rfl)
      clear hbb
      go_wp2_with fail
      go_loopw [9] (fun v wr => ∃ j : Nat, j ≤ n ∧ v = .int .i64 (j : Int) ∧ Hid (∃ st, Both w wr b d (2 * j) st)) (fun v _ => n - (RowKit.intOf v).toNat)
      case atStart => exact ⟨0, Nat.zero_le _, rfl, ⟨_, BO.out⟩⟩
      case round =>
        obtain ⟨j, hj, rfl, HR⟩ := hrel
        have i0 : (0 : Int) ≤ (j : Int) := by omega
        have i1 : IntKind.i64.wrap ((j : Int) + 1) = (j : Int) + 1 := IntWalk.i64_in _ (by have := N80.out; omega)
        obtain ⟨st, hbo⟩ := HR.out
        have BO2 := Lib.hid hbo
        have CW : Hid (Chg [] w wr) := Lib.hid (by obtain ⟨_, _, _, _, _, _, h⟩ := hbo; exact h)
        clear hbo HR
        by_cases hlt : j < n
        · have i2 : (j : Int) < (n : Int) := by omega
          obtain ⟨x, hx⟩ : ∃ x, zs[j]? = some x := ⟨_, List.getElem?_eq_getElem (by have := HL.out; omega)⟩
          have hxm := List.mem_of_getElem? hx
          obtain ⟨ys, hy, hyn⟩ := HU.out x hxm
          have hyl := hy.old
          have rd := H.out.chg CW.out (by simp)
          obtain ⟨g, o, eA, _⟩ := rd.line (by omega)
          rw [eA] at rd
          obtain ⟨q0, q1, q2, q3, q4, q5⟩ := sactCells rd hx
          obtain ⟨x1, x2, x3, x4, x5, xA, xn, xd⟩ := x
          dsimp only at q0 q1 q2 q3 q4 q5 hy hyn hyl
          have HY := Lib.hid (hy.chg CW.out (by simp))
          have HYN := Lib.hid hyn
          have HYL := Lib.hid hyl
          clear hx hxm hy hyn hyl rd
          subst eA
          go_wp2_with fail
          refine (does_any w wr b d (2 * j) st BO2.out (by have := N80.out; omega) x1 x2 x3 x4 x5 xA xn xd ys HY.out HYL.out HYN.out).mono ?_
          rintro r w5 ⟨rfl, st', hb5⟩
          have B5 := Lib.hid hb5
          clear hb5 q0 q1 q2 q3 q4 q5
          go_wp2
          go_round
          case measure => simp [RowKit.intOf]; omega
          exact ⟨j + 1, by omega, by go_num, ⟨st', B5.out⟩⟩
        · have i2 : ¬ (j : Int) < (n : Int) := by omega
          obtain ⟨A3, D3, L3, hs, hd, hsep, hc0⟩ := BO2.out
          have HS := Lib.hid hs
          have HD := Lib.hid hd
          have SP := Lib.hid hsep
          have C0 := Lib.hid hc0
          have IL := Lib.hid hs.inv.inn
          have QL := Lib.hid hs.inv.q
          clear hs hd hsep hc0 BO2
          go_wp2_with fail
          refine (outLL HS.out (by have := N80.out; omega)).mono ?_
          rintro r w4 ⟨B4, c4, l4, rfl, o4, n4, p4, hs, hC⟩
          have nb : ∀ z ∈ [b], w.heap.size ≤ z ∧ z ∉ L3 ∧ z ∉ [] := fun z hz => SP.out.1 z (by simp at hz; simp [hz])
          have LL : Hid (l4.length ≤ 9) := Lib.hid (by
            have e1 := p4.len
            have e2 := outQ_len st.ep st.peer st.came st.base st.q
            have := QL.out
            unfold outL at e1
            split at e1
            · simp at e1; omega
            · omega)
          have LOW : Hid (∀ z ∈ L3, z < wr.heap.size) := Lib.hid HD.out.lts.2
          replace HS := Lib.hid hs
          replace HD := Lib.hid (HD.out.chg hC (fun z hz hm => (nb z hm).2.1 hz))
          replace C0 := Lib.hid (C0.out.on hC (fun z hz => (nb z hz).1))
          have O4 := Lib.hid o4
          have P4 := Lib.hid p4
          have N4 := Lib.hid n4
          clear hs hC nb o4 p4 n4
          go_wp2_with fail
          refine (doutL HD.out (by have := N80.out; omega)).mono ?_
          rintro r w5 ⟨B5, c5, l5, rfl, o5, n5, p5, hd, hC⟩
          replace HS := Lib.hid (HS.out.off hC (fun z hz => (SP.out.1 z hz).2.1))
          replace HD := Lib.hid hd
          replace C0 := Lib.hid (C0.out.on hC (fun z hz => (SP.out.2 z hz).1))
          replace O4 := Lib.hid (O4.out.chg hC (fun x hx hm => by have := LOW.out _ hm; have := N4.out x hx; omega))
          replace P4 := Lib.hid (P4.out.chg hC (fun i x a hx ha hm => by have := LOW.out _ hm; have := (P4.out.lt hx ha).1; omega))
          have O5 := Lib.hid o5
          have P5 := Lib.hid p5
          clear hd hC o5 p5 n5
          go_wp2_with fail
          refine (samepaks_ok w5 B4 B5 c4 c5 _ _ l4 l5 _ O4.out O5.out P4.out P5.out (by have := LL.out; omega)).mono ?_
          rintro r w6 ⟨rfl, hC⟩
          replace HS := Lib.hid (HS.out.chg hC (by simp) (by simp) (by simp))
          replace HD := Lib.hid (HD.out.chg hC (by simp))
          replace C0 := Lib.hid (C0.out.trans hC)
          clear hC O4 O5 P4 P5
          go_wp2_with fail
          refine (takeL HS.out).mono ?_
          rintro r w7 ⟨cT, lt, rfl, oT, lT, hs, hC⟩
          have nb : ∀ z ∈ [b], w.heap.size ≤ z ∧ z ∉ L3 ∧ z ∉ [] := fun z hz => SP.out.1 z (by simp at hz; simp [hz])
          replace HD := Lib.hid (HD.out.chg hC (fun z hz hm => (nb z hm).2.1 hz))
          replace C0 := Lib.hid (C0.out.on hC (fun z hz => (nb z hz).1))
          have OT := Lib.hid oT
          have LTT := Lib.hid lT
          clear hs hC nb oT lT HS
          go_wp2_with fail
          refine (dtakeL HD.out).mono ?_
          rintro r w8 ⟨A8, c8, lt8, D8, rfl, o8, l8, hd, hC⟩
          replace C0 := Lib.hid (C0.out.on hC (fun z hz => (SP.out.2 z hz).1))
          replace OT := Lib.hid (OT.out.chg hC (fun x hx => (SP.out.1 _ (by simp [mem_blkOf hx])).2.1))
          replace LTT := Lib.hid (LTT.out.chg hC (fun z hz => (SP.out.1 z (by simp [hz])).2.1))
          have O8 := Lib.hid o8
          have L8 := Lib.hid l8
          clear hd hC o8 l8 HD
          go_wp2_with fail
          refine (samelists_ok w8 A3 A8 cT c8 D3 D8 lt lt8 _ OT.out O8.out LTT.out L8.out (by have := IL.out; have := N80.out; simp only [outS]; omega)).mono ?_
          rintro r w9 ⟨rfl, hC⟩
          replace C0 := Lib.hid (C0.out.trans hC)
          clear hC OT O8 LTT L8
          go_wp2_with fail
          refine (l18awake_run w9).mono ?_
          rintro r w10 ⟨rfl, hC⟩
          replace C0 := Lib.hid (C0.out.trans hC)
          clear hC
          go_wp2
          go_ret
          exact ⟨rfl, C0.out⟩
end
end Go.Proofs.Ytmblalcigbghfaa
