/- The walk of ChunkCuts. -/
import Derived.Test.YtnpilljjkfjjiaaCkcut
import Derived.Test.YtnpilljjkfjjiaaCkbad
import Derived.Test.YtnpilljjkfjjiaaCkqcut
import Derived.Test.YtnpilljjkfjjiaaCksame
import Derived.Test.YtnpilljjkfjjiaaCknew
namespace Go.Proofs.Ytnpilljjkfjjiaa
open Go.RowKit Go.Lib
set_option linter.unusedSimpArgs false
set_option linter.unusedVariables false

theorem RdK.of_own {w : World} {B : Option Addr} {d : Nat} {l : List MsgT} (h : OwnK msgTy w B d l) : RdK msgTy w B l.length l := h.reads
theorem OwnK.row0 {w : World} {B : Option Addr} {d : Nat} {l : List MsgT} (h : OwnK msgTy w B d l) (h0 : 0 < l.length) : ∃ g, B = some ⟨g, 0, none⟩ := by
  rcases h with ⟨_, rfl, _⟩ | ⟨g, full, rfl, _⟩
  · simp at h0
  · exact ⟨g, rfl⟩
/-- The rows of the messages from number i on are as they were. -/
def RestP (m : Nat) (W : World) (l : List MsgT) (i : Nat) : Prop := ∀ (j : Nat) (x : MsgT), i ≤ j → l[j]? = some x → ∃ g k c zs, x.2.2.2.2 = (some ⟨g, 0, none⟩, k, c) ∧ OwnB W (some ⟨g, 0, none⟩) c zs ∧ k = zs.length ∧ m ≤ g
theorem CutP.rest {m : Nat} {W : World} {it : Int} {xs : List UInt8} {l : List MsgT} (h : CutP m W it xs l) : RestP m W l 0 := by
  intro j x _ hx
  obtain ⟨g, c, rfl, h2, h3⟩ := h.1 j x hx
  exact ⟨g, _, c, _, rfl, h2, (pieceR_len xs j).symm, h3⟩
theorem RestP.chg {m : Nat} {W W' : World} {l : List MsgT} {i : Nat} (h : RestP m W l i) (hc : Chg [] W W') : RestP m W' l i := by
  intro j x hj hx
  obtain ⟨g, k, c, zs, e, h2, h3, h4⟩ := h j x hj hx
  exact ⟨g, k, c, zs, e, h2.chg hc (by simp), h3, h4⟩
theorem RestP.next {m : Nat} {W W' : World} {l : List MsgT} {i : Nat} (h : RestP m W l i) (hp : l.Pairwise (fun x y => blkM x < blkM y)) {x : MsgT} (hx : l[i]? = some x) (hc : Chg [blkM x] W W') : RestP m W' l (i + 1) := by
  intro j y hj hy
  obtain ⟨g, k, c, zs, e, h2, h3, h4⟩ := h j y (by omega) hy
  have hi := (List.getElem?_eq_some_iff.1 hx)
  have hj2 := (List.getElem?_eq_some_iff.1 hy)
  have hlt : blkM x < blkM y := by
    have := List.pairwise_iff_getElem.1 hp i j hi.1 hj2.1 (by omega)
    rwa [hi.2, hj2.2] at this
  have eb : blkM y = g := by unfold blkM; rw [e]; rfl
  exact ⟨g, k, c, zs, e, h2.chg hc (by rintro a ⟨⟩; simp; omega), h3, h4⟩
theorem OwnK.notB {w : World} {B A : Option Addr} {d c : Nat} {l : List MsgT} {zs : List UInt8} (h : OwnK msgTy w B d l) (hb : OwnB w A c zs) : ∀ a b, B = some b → A = some a → b.block ≠ a.block := by
  rintro a b rfl rfl e
  rcases h with ⟨h, _⟩ | ⟨g, full, h, hg, _⟩
  · cases h
  · cases h
    rcases hb with ⟨h, _⟩ | ⟨g', full', h, hg', _⟩
    · cases h
    · cases h
      simp at e
      subst e
      rw [hg] at hg'
      simp only [Option.some.injEq, Obj.cells.injEq] at hg'
      exact absurd hg'.2.1 (by decide)

set_option maxRecDepth 100000 in
set_option maxHeartbeats 4000000 in
theorem ckcuts_yes (w : World) (it : Int) (A : Option Addr) (n c : Nat) (xs : List UInt8) (hr : Bs w A n xs) (hn : n ≤ 140737488351232) (hnc : n ≤ c) (hc : c ≤ 9223372036854775807) :
    Calls Try.prog 3 #[.int .i64 it, .slice A n c] w fun e w' => e = .returned (.bool true) ∧ Chg [] w w' := by
  have hl := hr.len
  subst hl
  by_cases hbig : 3000 < xs.length
  · have h2 : (3000 : Int) < (xs.length : Int) := by omega
    go_enter Try.func3, Try.ntmps3
    go_wp2_with fail
    refine (l19awakeB_run w).mono ?_
    rintro r w4 ⟨rfl, hc⟩
    have C4 := Lib.hid hc
    clear hc
    go_wp2
    go_ret
    exact ⟨rfl, C4.out⟩
  have h2 : ¬ (3000 : Int) < (xs.length : Int) := by omega
  have H := Lib.hid hr
  have hl3 : xs.length ≤ 3000 := by omega
  by_cases hbad : it < 1 ∨ it > 1099511627776 ∨ xs.length = 0
  · have HP : Hid (∀ W B d, Calls Try.prog 11 #[.int .i64 it, .slice B xs.length d] W fun e w' => e = .returned (.tuple #[.slice none 0 0, .int .i64 2]) ∧ Chg [] W w') := by
      refine Lib.hid fun W B d => ?_
      by_cases g1 : it < 1
      · exact bxcut_no0 W it B _ d g1
      by_cases g2 : it > 1099511627776
      · exact bxcut_no1 W it B _ d g1 g2
      · exact bxcut_no2 W it B _ d g1 g2 (by omega)
    have HQ : Hid (∀ W B d, Calls Try.prog 12 #[.int .i64 it, .slice B xs.length d] W fun e w' => e = .returned (.tuple #[.slice none 0 0, .int .i64 2]) ∧ Chg [] W w') := by
      refine Lib.hid fun W B d => ?_
      by_cases g1 : it < 1
      · exact bqcut_no0 W it B _ d g1
      by_cases g2 : it > 1099511627776
      · exact bqcut_no1 W it B _ d g1 g2
      · exact bqcut_no2 W it B _ d g1 g2 (by omega)
    clear hbad hbig hr
    have HN := Lib.hid hn
    clear hn hnc hc hl3
    go_enter Try.func3, Try.ntmps3
    go_wp2_with fail
    refine (lent_any w A _ c xs H.out HN.out).mono ?_
    rintro r w1 ⟨g, rfl, hL, hg, hC⟩
    have L := Lib.hid hL
    have C := Lib.hid hC
    clear hL hC hg
    go_wp2_with fail
    refine (HP.out w1 _ _).mono ?_
    rintro r w2 ⟨rfl, hC⟩
    replace L := Lib.hid (L.out.chg hC (by simp))
    replace C := Lib.hid (C.out.trans hC)
    clear hC
    go_wp2_with fail
    refine (HQ.out w2 _ _).mono ?_
    rintro r w3 ⟨rfl, hC⟩
    replace L := Lib.hid (L.out.chg hC (by simp))
    replace C := Lib.hid (C.out.trans hC)
    clear hC
    go_wp2_with fail
    refine (samemsgs_nil w3 _ _).mono ?_
    rintro r w4 ⟨rfl, rfl⟩
    go_wp2
    go_loopw [11] (fun v wr => v = .int .i64 0 ∧ w3 = wr) (fun _ _ => 0)
    case atStart => exact ⟨rfl, rfl⟩
    case round =>
      obtain ⟨rfl, rfl⟩ := hrel
      go_wp2_with fail
      refine (kept_any w3 g A _ c xs L.out (H.out.chg C.out (by simp)) HN.out).mono ?_
      rintro r w4 ⟨rfl, hC⟩
      replace C := Lib.hid (C.out.trans hC)
      clear hC
      go_wp2_with fail
      refine (l19awakeB_run w4).mono ?_
      rintro r w5 ⟨rfl, hC⟩
      replace C := Lib.hid (C.out.trans hC)
      clear hC
      go_wp2
      go_ret
      exact ⟨rfl, C.out⟩
  · have i1 : 1 ≤ it := by omega
    have i2 : it ≤ 1099511627776 := by omega
    have h0 : 0 < xs.length := by omega
    obtain ⟨ga, oa, rfl⟩ : ∃ g o, A = some ⟨g, o, none⟩ := by
      obtain ⟨ad, rfl, hcell⟩ := hr.cells 0 _ (List.getElem?_eq_getElem h0)
      have hsp := World.cell?_spot hcell
      obtain ⟨b, f, sp⟩ := ad
      have hsp : sp = none := by simpa [Addr.add] using hsp
      subst hsp
      exact ⟨b, f, rfl⟩
    have hga : ga < w.heap.size := by
      rcases hr.old with e | e
      · rw [e] at h0; simp at h0
      · exact e _ rfl
    have HP : Hid (∀ W g, Lent W g xs → Calls Try.prog 11 #[.int .i64 it, .slice (some ⟨g, 0, none⟩) xs.length (xs.length + 3)] W fun e w' => ∃ B d l, e = .returned (.tuple #[.slice B l.length d, .int .i64 0]) ∧ OwnK msgTy w' B d l ∧ l.length = piecesN xs.length ∧ CutP W.heap.size w' it xs l ∧ (∀ a, B = some a → W.heap.size ≤ a.block) ∧ Chg [] W w') := Lib.hid fun W g hL => bxcut_any W it g 0 _ xs hL.reads h0 (by omega) (by omega) (by omega) i1 i2 (by
      rcases hL.reads.old with e | e
      · rw [e] at h0; simp at h0
      · exact e _ rfl)
    have HQ : Hid (∀ W, Chg [] w W → Calls Try.prog 12 #[.int .i64 it, .slice (some ⟨ga, oa, none⟩) xs.length c] W fun e w' => ∃ B d l, e = .returned (.tuple #[.slice B l.length d, .int .i64 0]) ∧ OwnK msgTy w' B d l ∧ l.length = piecesN xs.length ∧ CutP W.heap.size w' it xs l ∧ (∀ a, B = some a → W.heap.size ≤ a.block) ∧ Chg [] W w') := Lib.hid fun W hC => bqcut_any W it ga oa c xs (H.out.chg hC (by simp)) h0 (by omega) hnc hc i1 i2 (by have := hC.size; omega)
    have HN := Lib.hid hn
    have PN := Lib.hid (show 0 < piecesN xs.length ∧ piecesN xs.length ≤ 15 by unfold piecesN; omega)
    clear hbad hbig hr hn hnc hc hl3 i1 i2 h0 hga
    go_enter Try.func3, Try.ntmps3
    go_wp2_with fail
    refine (lent_any w _ _ c xs H.out HN.out).mono ?_
    rintro r w1 ⟨g, rfl, hL, hg, hC⟩
    have L := Lib.hid hL
    have L1 := Lib.hid hL
    have C := Lib.hid hC
    have C1 := Lib.hid hC
    clear hL hC hg
    go_wp2_with fail
    refine (HP.out w1 g L.out).mono ?_
    rintro r w2 ⟨B, d, l, rfl, hO, hln, hP, hB, hC⟩
    have hle : (l.length = piecesN xs.length) := hln
    obtain ⟨gB, rfl⟩ := hO.row0 (by have := PN.out; omega)
    have O := Lib.hid hO
    have P := Lib.hid hP
    have LN := Lib.hid hln
    replace C := Lib.hid (C.out.trans hC)
    have D := Lib.hid hC
    replace L := Lib.hid (L.out.chg hC (by simp))
    clear hO hP hln hC hle hB
    go_wp2_with fail
    refine (HQ.out w2 C.out).mono ?_
    rintro r w3 ⟨B', d', l', rfl, hO, hln, hP, hB, hC⟩
    obtain ⟨gB', rfl⟩ := hO.row0 (by have := PN.out; omega)
    have O' := Lib.hid hO
    have P' := Lib.hid hP
    have LN' := Lib.hid hln
    replace O := Lib.hid (O.out.chg hC (by simp))
    replace P := Lib.hid (P.out.chg hC (by simp))
    replace C := Lib.hid (C.out.trans hC)
    replace D := Lib.hid (D.out.trans hC)
    replace L := Lib.hid (L.out.chg hC (by simp))
    clear hO hP hln hC hB
    rw [show l'.length = l.length from LN'.out.trans LN.out.symm]
    go_wp2_with fail
    refine (samemsgs_yes w3 gB 0 gB' 0 d d' l.length l l' O.out.reads (by rw [show l.length = l'.length from LN.out.trans LN'.out.symm]; exact O'.out.reads) (by have := LN.out; have := PN.out; omega) (fun j x hx => by
      obtain ⟨h, cc, rfl, o1, _⟩ := P.out.1 j x hx
      have hj := (List.getElem?_eq_some_iff.1 hx).1
      have hj' : j < l'.length := by have := LN.out; have := LN'.out; omega
      obtain ⟨h', cc', e, o2, _⟩ := P'.out.1 j _ (List.getElem?_eq_getElem hj')
      refine ⟨_, pieceR xs j, List.getElem?_eq_getElem hj', ?_⟩
      rw [e]
      refine ⟨rfl, rfl, rfl, rfl, ?_, ?_⟩
      · have := o1.reads; rwa [pieceR_len] at this
      · have := o2.reads; rwa [pieceR_len] at this)).mono ?_
    rintro r w4 ⟨rfl, hC⟩
    replace O := Lib.hid (O.out.chg hC (by simp))
    have RS := Lib.hid (P.out.rest.chg hC)
    have PW := Lib.hid P.out.2
    replace C := Lib.hid (C.out.trans hC)
    replace D := Lib.hid (D.out.trans hC)
    replace L := Lib.hid (L.out.chg hC (by simp))
    clear hC P P' O' LN'
    go_wp2
    go_loopw [11] (fun v wr => ∃ i : Nat, i ≤ l.length ∧ v = .int .i64 (i : Int) ∧ Hid (OwnK msgTy wr (some ⟨gB, 0, none⟩) d l ∧ RestP w1.heap.size wr l i ∧ Chg [] w1 wr ∧ Lent wr g xs)) (fun v _ => l.length - (RowKit.intOf v).toNat)
    case atStart => exact ⟨0, Nat.zero_le _, rfl, O.out, RS.out, D.out, L.out⟩
    case round =>
      obtain ⟨i, hi, rfl, HI⟩ := hrel
      have i0 : (0 : Int) ≤ (i : Int) := by omega
      have i1 : IntKind.i64.wrap ((i : Int) + 1) = (i : Int) + 1 := IntWalk.i64_in _ (by have := LN.out; have := PN.out; omega)
      by_cases hlt : i < l.length
      · have i2 : (i : Int) < (l.length : Int) := by omega
        have hx := List.getElem?_eq_getElem hlt
        generalize l[i] = x at *
        have cx := msgCells HI.out.1.reads hx
        obtain ⟨h, k, cc, zs, ex, ho, hk, hm⟩ := HI.out.2.1 i x (Nat.le_refl _) hx
        have t4 := cx.2.2.2.2
        have eb : blkM x = h := by unfold blkM; rw [ex]; rfl
        rw [ex] at t4
        simp only [Nat.zero_add] at t4
        have NB := Lib.hid (HI.out.1.notB ho _ _ rfl rfl)
        have HO := Lib.hid ho
        have HK := Lib.hid hk
        have HM := Lib.hid hm
        have HX := Lib.hid hx
        have EB := Lib.hid eb
        clear cx ex ho hk hm hx eb
        go_wp2_with fail
        refine (over_own wr _ cc k zs HO.out HK.out).mono ?_
        rintro r w5 ⟨rfl, hC⟩
        have hc5 := hC [h] (by rintro a ⟨⟩; simp)
        have R5 := Lib.hid (HI.out.2.1.next PW.out HX.out (by rw [EB.out]; exact hc5))
        have O5 := Lib.hid (HI.out.1.chg hc5 (by rintro a ⟨⟩; have := NB.out; simpa using this))
        have D5 := Lib.hid (HI.out.2.2.1.trans' hc5 (fun q hq => .inr (by simp at hq; subst hq; exact HM.out)))
        have L5 := Lib.hid (HI.out.2.2.2.chg hc5 (by
          obtain ⟨full, hg, _⟩ := L.out
          have := lt_of_heap hg
          simp
          intro e
          obtain ⟨full2, hg2, _⟩ := L1.out
          have := lt_of_heap hg2
          have := HM.out
          omega))
        clear hc5 hC t4
        go_wp2
        exact ⟨⟨i + 1, by omega, by simp, O5.out, R5.out, D5.out, L5.out⟩, by simp [RowKit.intOf]; omega⟩
      · have i2 : ¬ (i : Int) < (l.length : Int) := by omega
        go_wp2_with fail
        refine (kept_any wr g _ _ c xs HI.out.2.2.2 (H.out.chg (C1.out.trans HI.out.2.2.1) (by simp)) HN.out).mono ?_
        rintro r w5 ⟨rfl, hC⟩
        have C5 := Lib.hid ((C1.out.trans HI.out.2.2.1).trans hC)
        clear hC
        go_wp2_with fail
        refine (l19awakeB_run w5).mono ?_
        rintro r w6 ⟨rfl, hC⟩
        replace C5 := Lib.hid (C5.out.trans hC)
        clear hC
        go_wp2
        go_ret
        exact ⟨rfl, C5.out⟩
end Go.Proofs.Ytnpilljjkfjjiaa
