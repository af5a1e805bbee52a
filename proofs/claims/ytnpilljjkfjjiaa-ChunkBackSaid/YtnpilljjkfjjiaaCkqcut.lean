/- Cut: of the document. -/
import Derived.Test.YtnpilljjkfjjiaaCkcutp
import Derived.BigQuiet
namespace Go.Proofs.Ytnpilljjkfjjiaa
open Go.RowKit
set_option linter.unusedSimpArgs false
set_option linter.unusedVariables false

theorem own_appq {w w6 w7 : World} {B A2 : Option Addr} (hB : ∀ a, B = some a → w.heap.size ≤ a.block) (hC : Chg [] w w6) (d2 : w6.grownBy w7 (B.map (·.block))) (e2 : A2 = B ∨ A2 = some ⟨w6.heap.size, 0, none⟩) : (∀ a, A2 = some a → w.heap.size ≤ a.block) ∧ Chg [] w w7 := by
  refine ⟨?_, hC.grown d2 (fun i hi => ?_)⟩
  · rcases e2 with rfl | rfl
    · exact hB
    · rintro a ⟨⟩; exact hC.size
  · cases B with
    | none => simp at hi
    | some a => simp at hi; subst hi; exact .inr (hB a rfl)

set_option maxRecDepth 100000 in
set_option maxHeartbeats 4000000 in
theorem bqcut_any (w : World) (it : Int) (g o c : Nat) (xs : List UInt8) (hr : Bs w (some ⟨g, o, none⟩) xs.length xs) (h0 : 0 < xs.length) (hl : xs.length ≤ 60000) (hlc : xs.length ≤ c) (hc : c ≤ 9223372036854775807) (i1 : 1 ≤ it) (i2 : it ≤ 1099511627776) (hg : g < w.heap.size) :
    Calls Try.prog 12 #[.int .i64 it, .slice (some ⟨g, o, none⟩) xs.length c] w fun e w' => ∃ B d l, e = .returned (.tuple #[.slice B l.length d, .int .i64 0]) ∧ OwnK msgTy w' B d l ∧ l.length = piecesN xs.length ∧ CutP w.heap.size w' it xs l ∧ (∀ a, B = some a → w.heap.size ≤ a.block) ∧ Chg [] w w' := by
  have HR := Lib.hid hr
  clear hr
  have t0 : ¬ it < 1 := by omega
  have t1 : ¬ it > 1099511627776 := by omega
  have t2 : ¬ ((xs.length : Int) = 0) := by omega
  have t3 : ¬ ((xs.length : Int) > 60000) := by omega
  have t4 : ((xs.length : Int) == 0) = false := by simpa using t2
  go_enter Try.func12, Try.ntmps12
  go_wp2
  clear t0 t1 t2 t3 t4
  go_loopw [6, 7, 8] (fun v6 v7 v8 wr => ∃ (lm : List MsgT) (B : Option Addr) (d : Nat), v6 = .slice B lm.length d ∧ v7 = .int .i64 ((lm.length : Int) * 200) ∧ Hid (OwnK msgTy wr B d lm ∧ (∀ a, B = some a → w.heap.size ≤ a.block) ∧ CutP w.heap.size wr it xs lm ∧ Chg [] w wr ∧ (lm.length = 0 ∨ (lm.length - 1) * 200 < xs.length))) (fun _ v7 _ _ => xs.length - (RowKit.intOf v7).toNat)
  case atStart => exact ⟨[], none, 0, rfl, rfl, OwnK.none_ _, by simp, CutP.nil _ _ _ _, Chg.refl _ _, .inl rfl⟩
  case round =>
    obtain ⟨lm, B, d, rfl, rfl, HI⟩ := hrel
    have hb := HI.out.2.2.2.2
    by_cases hlt : lm.length * 200 < xs.length
    · have kl := pieceL_le xs.length lm.length
      have k0 := pieceL_pos hlt
      have RX := Lib.hid ((HR.out.pieceAt lm.length).chg (HI.out.2.2.2.1.trans ((Chg.refl [] wr).alloc (.cells #[] 5))) (by simp))

      have i3 : IntKind.i64.wrap ((lm.length : Int) * 200 + 200) = (lm.length : Int) * 200 + 200 := IntWalk.i64_in _ (by omega)
      have i4 : (lm.length : Int) * 200 < (xs.length : Int) := by omega
      have i5 : (0 : Int) ≤ (lm.length : Int) * 200 := by omega
      have KB := Lib.hid (show pieceL xs.length lm.length ≤ 200 from kl.1)
      have N4 := Lib.hid (show (lm.length + 1) * 400 ≤ 140737488355327 by omega)
      have PL := Lib.hid (show pieceL xs.length lm.length = if 200 ≤ xs.length - lm.length * 200 then 200 else xs.length - lm.length * 200 from rfl)
      generalize hp : pieceL xs.length lm.length = pl at *
      have HP := Lib.hid hp
      clear hp hb kl
      by_cases h200 : 200 ≤ xs.length - lm.length * 200
      · have e1 : pl = 200 := by rw [PL.out, if_pos h200]
        subst e1
        have ES := Lib.hid (show lm.length * 200 + 200 - lm.length * 200 = 200 by omega)
        go_wp2_with (first
          | (at_builtin; refine wpList_app rfl (.tmp 39) (.tmp 43) rfl rfl (ys := pieceR xs lm.length) (OwnB.empty wr) rfl rfl (by rw [ES.out]; exact RX.out) (by have := KB.out; have := ES.out; omega) ?_; intro A1 c1 w5 o1 d1 e1'; have FR := fresh_app o1 d1 e1'; (try rw [List.nil_append] at o1); (try rw [Nat.zero_add]); rw [ES.out]; obtain ⟨f1, f2, f3⟩ := FR; obtain ⟨h, rfl⟩ := f1.at0 (by rw [pieceR_len, HP.out]; exact k0); obtain ⟨w6, hw6, c6, b6⟩ := news1 w5 (.cells #[.int .i64 1, .int .i64 it, .int .i64 (xs.length : Int), .int .i64 ((lm.length : Int) * 200), .slice (some ⟨h, 0, none⟩) (200) c1] 32); have W6 := Lib.hid hw6; have R6 := Lib.hid (show RdK msgTy w6 (some ⟨w5.heap.size, 0, none⟩) 1 [((1, it, (xs.length : Int), (lm.length : Int) * 200, some ⟨h, 0, none⟩, 200, c1) : MsgT)] from (OwnK.of (R := msgTy) (c := 1) (full := [((1, it, (xs.length : Int), (lm.length : Int) * 200, some ⟨h, 0, none⟩, 200, c1) : MsgT)]) (xs := [((1, it, (xs.length : Int), (lm.length : Int) * 200, some ⟨h, 0, none⟩, 200, c1) : MsgT)]) b6 (Nat.le_refl _) (by decide) rfl rfl).reads); have F1 := Lib.hid (f1.chg c6 (by simp)); have F2 := Lib.hid (f2 _ rfl); have C6 := Lib.hid (f3.trans c6); have O6 := Lib.hid (HI.out.1.chg C6.out (by simp)); clear hw6 c6 b6 f1 f2 f3 o1 d1 e1')
          | (at_builtin; rw [← W6.out]; refine wpList_appK (R := msgTy) rfl (.tmp 34) (.tmp 46) rfl rfl O6.out rfl rfl R6.out N4.out ?_; intro A2 c2 w7 u2 d2 e2))
        have AO := own_appq (w := w) HI.out.2.1 (HI.out.2.2.2.1.trans C6.out) d2 e2
        have hP := ((HI.out.2.2.1.chg C6.out (by simp)).push (g := h) (c := c1) F1.out (by have := HI.out.2.2.2.1.size; have := F2.out; simp at this; omega) (fun x hx => by have := HI.out.2.2.1.old x hx; have := F2.out; simp at this; omega)).grown O6.out d2
        have hp := HP.out
        rw [hp] at hP
        refine ⟨⟨lm ++ [((1, it, (xs.length : Int), (lm.length : Int) * 200, some ⟨h, 0, none⟩, 200, c1) : MsgT)], A2, c2, ?_, ?_, u2, AO.1, hP, AO.2, .inr ?_⟩, ?_⟩
        · simp
        · simp; omega
        · simp; omega
        · simp [RowKit.intOf]; omega
      · have e1 : pl = xs.length - lm.length * 200 := by rw [PL.out, if_neg h200]
        have i6 : ¬ ((lm.length : Int) * 200 + 200 ≤ (xs.length : Int)) := by omega
        have i7 : min ((lm.length : Int) * 200 + 200) (xs.length : Int) = (xs.length : Int) := by omega
        have ES := Lib.hid e1.symm
        clear e1
        go_wp2_with (first
          | (at_builtin; refine wpList_app rfl (.tmp 39) (.tmp 43) rfl rfl (ys := pieceR xs lm.length) (OwnB.empty wr) rfl rfl (by rw [ES.out]; exact RX.out) (by have := KB.out; have := ES.out; omega) ?_; intro A1 c1 w5 o1 d1 e1'; have FR := fresh_app o1 d1 e1'; (try rw [List.nil_append] at o1); (try rw [Nat.zero_add]); rw [ES.out]; obtain ⟨f1, f2, f3⟩ := FR; obtain ⟨h, rfl⟩ := f1.at0 (by rw [pieceR_len, HP.out]; exact k0); obtain ⟨w6, hw6, c6, b6⟩ := news1 w5 (.cells #[.int .i64 1, .int .i64 it, .int .i64 (xs.length : Int), .int .i64 ((lm.length : Int) * 200), .slice (some ⟨h, 0, none⟩) (pl) c1] 32); have W6 := Lib.hid hw6; have R6 := Lib.hid (show RdK msgTy w6 (some ⟨w5.heap.size, 0, none⟩) 1 [((1, it, (xs.length : Int), (lm.length : Int) * 200, some ⟨h, 0, none⟩, pl, c1) : MsgT)] from (OwnK.of (R := msgTy) (c := 1) (full := [((1, it, (xs.length : Int), (lm.length : Int) * 200, some ⟨h, 0, none⟩, pl, c1) : MsgT)]) (xs := [((1, it, (xs.length : Int), (lm.length : Int) * 200, some ⟨h, 0, none⟩, pl, c1) : MsgT)]) b6 (Nat.le_refl _) (by decide) rfl rfl).reads); have F1 := Lib.hid (f1.chg c6 (by simp)); have F2 := Lib.hid (f2 _ rfl); have C6 := Lib.hid (f3.trans c6); have O6 := Lib.hid (HI.out.1.chg C6.out (by simp)); clear hw6 c6 b6 f1 f2 f3 o1 d1 e1')
          | (at_builtin; rw [← W6.out]; refine wpList_appK (R := msgTy) rfl (.tmp 34) (.tmp 46) rfl rfl O6.out rfl rfl R6.out N4.out ?_; intro A2 c2 w7 u2 d2 e2))
        have AO := own_appq (w := w) HI.out.2.1 (HI.out.2.2.2.1.trans C6.out) d2 e2
        have hP := ((HI.out.2.2.1.chg C6.out (by simp)).push (g := h) (c := c1) F1.out (by have := HI.out.2.2.2.1.size; have := F2.out; simp at this; omega) (fun x hx => by have := HI.out.2.2.1.old x hx; have := F2.out; simp at this; omega)).grown O6.out d2
        have hp := HP.out
        rw [hp] at hP
        refine ⟨⟨lm ++ [((1, it, (xs.length : Int), (lm.length : Int) * 200, some ⟨h, 0, none⟩, pl, c1) : MsgT)], A2, c2, ?_, ?_, u2, AO.1, hP, AO.2, .inr ?_⟩, ?_⟩
        · simp
        · simp; omega
        · simp; omega
        · simp [RowKit.intOf]; omega
    · have hpn : lm.length = piecesN xs.length := by unfold piecesN; omega
      have i4 : ¬ ((lm.length : Int) * 200 < (xs.length : Int)) := by omega
      have HPN := Lib.hid hpn
      clear hpn hlt hb
      go_wp2
      go_ret2
      exact ⟨B, d, lm, rfl, HI.out.1, HPN.out, HI.out.2.2.1, HI.out.2.1, HI.out.2.2.2.1⟩
end Go.Proofs.Ytnpilljjkfjjiaa
