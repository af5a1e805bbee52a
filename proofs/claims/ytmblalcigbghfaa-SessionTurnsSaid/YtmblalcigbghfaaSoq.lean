/- The law's turn, whatever it is: the epochs stay. SessionTurns. -/
import Derived.Test.YtmblalcigbghfaaSoc
import Derived.Test.YtmblalcigbghfaaSod
import Derived.Test.YtmblalcigbghfaaSoe
import Derived.Test.YtmblalcigbghfaaSof
import Derived.Test.YtmblalcigbghfaaSog
import Derived.Test.YtmblalcigbghfaaSoh
import Derived.Test.YtmblalcigbghfaaSoi
import Derived.Test.YtmblalcigbghfaaSoj
import Derived.Test.YtmblalcigbghfaaSop
import Derived.Test.YtmblalcigbghfaaSom
import Derived.Test.YtmblalcigbghfaaSawk
namespace Go.Proofs.Ytmblalcigbghfaa
section
open Go.RowKit
set_option linter.unusedSimpArgs false
set_option linter.unusedVariables false
theorem WL.more2 {n : Nat} {w : World} {g a b K : Nat} {wo : WoT} (h : WL n w g a b K wo) {K' : Nat} (hK : K ≤ K') : WL n w g a b K' wo := by
  obtain ⟨Ar, cr, lr, P0, c0, l0, P1, c1, l1, Q0, d0, m0, Q1, d1, m1, Aa, Da, Ab, Db, F, h⟩ := h
  exact ⟨_, _, _, _, _, _, _, _, _, _, _, _, _, _, _, _, _, _, _, _, h.moreK hK⟩
def SameEp (wo wo' : WoT) : Prop := wo'.sa.ep = wo.sa.ep ∧ wo'.sb.ep = wo.sb.ep
theorem ep_send (s : SesT) (b : List UInt8) : (sendS s b).ep = s.ep := by unfold sendS; split <;> rfl
theorem ep_recv (r : SesT) (p : PakT) : (recvS r p).ep = r.ep := by
  have hm : ∀ f, (meetS r f).ep = r.ep := fun f => by unfold meetS; split <;> rfl
  have hd : ∀ (s : SesT) a, (dropS s a).ep = s.ep := fun s a => by unfold dropS; split <;> rfl
  have hc : ∀ (s : SesT) a b, (comeS s a b).ep = s.ep := fun s a b => by unfold comeS; split <;> rfl
  unfold recvS
  split
  · split
    · split
      · rw [hd, hm]
      · rw [hc]; show (dropS _ _).ep = _; rw [hd, hm]
    · show (meetS _ _).ep = _; rw [hm]
  · rfl
set_option maxHeartbeats 4000000 in
theorem hand_ep_3 (w0 w : World) (g a b kk n : Nat) (wo : WoT) (hW : WL w0.heap.size w g a b kk wo) (hc0 : Chg [] w0 w) (hK : kk ≤ 400000) (hG : Good wo n) (hn : n ≤ 900000) (wh : Int) (o : Bool) (Y : Option Addr) (m e : Nat) :
    Calls Try.prog 46 #[.pointer (some ⟨g, 0, none⟩), .agg #[.int .i64 3, .int .i64 wh, .bool o, .slice Y m e]] w fun r w' => r = .returned (.tuple #[]) ∧ (∃ wo', WL w0.heap.size w' g a b (kk + 4) wo' ∧ Good wo' (n + 1) ∧ SameEp wo wo') ∧ Chg [] w0 w' := by
  by_cases h0 : wo.air.length = 0
  · exact (hand_none 3 o w0 w g a b kk wo hW hc0 hK wh Y m e h0).mono fun r w' ⟨h1, h2, h3⟩ => ⟨h1, ⟨wo, h2.more2 (by omega), hG.more (by omega), ⟨by first | rfl | exact ep_send _ _ | exact ep_recv _ _, by first | rfl | exact ep_send _ _ | exact ep_recv _ _⟩⟩, h3⟩
  · obtain ⟨k, hk⟩ : ∃ k : Nat, (k : Int) = wh % (wo.air.length : Int) := ⟨(wh % (wo.air.length : Int)).toNat, Int.toNat_of_nonneg (Int.emod_nonneg _ (by omega))⟩
    have hlt : k < wo.air.length := by have := Int.emod_lt_of_pos wh (b := (wo.air.length : Int)) (by omega); omega
    obtain ⟨⟨p, f⟩, hp⟩ : ∃ x, wo.air[k]? = some x := ⟨_, List.getElem?_eq_getElem hlt⟩
    have ga := hG.air
    cases f
    · have G := good_recv_a (good_less hG k) p (hG.pak_f hp)
      have T : (wo.t0 ++ (recvS wo.sa p).inn).length + _ ≤ n := G.t_le.2
      rw [List.length_append] at T
      exact (hand_3f w0 w g a b kk wo hW hc0 hK wh o Y m e ga k hk p hp (by omega) (by omega)).mono fun r w' ⟨h1, h2, h3⟩ => ⟨h1, ⟨_, h2, G.more (by omega), ⟨by first | rfl | exact ep_send _ _ | exact ep_recv _ _, by first | rfl | exact ep_send _ _ | exact ep_recv _ _⟩⟩, h3⟩
    · have G := good_recv_b (good_less hG k) p (hG.pak_t hp)
      have T : (wo.t1 ++ (recvS wo.sb p).inn).length + _ ≤ n := G.t_le.1
      rw [List.length_append] at T
      exact (hand_3t w0 w g a b kk wo hW hc0 hK wh o Y m e ga k hk p hp (by omega) (by omega)).mono fun r w' ⟨h1, h2, h3⟩ => ⟨h1, ⟨_, h2, G.more (by omega), ⟨by first | rfl | exact ep_send _ _ | exact ep_recv _ _, by first | rfl | exact ep_send _ _ | exact ep_recv _ _⟩⟩, h3⟩

set_option maxHeartbeats 4000000 in
theorem hand_ep_4 (w0 w : World) (g a b kk n : Nat) (wo : WoT) (hW : WL w0.heap.size w g a b kk wo) (hc0 : Chg [] w0 w) (hK : kk ≤ 400000) (hG : Good wo n) (hn : n ≤ 900000) (wh : Int) (o : Bool) (Y : Option Addr) (m e : Nat) :
    Calls Try.prog 46 #[.pointer (some ⟨g, 0, none⟩), .agg #[.int .i64 4, .int .i64 wh, .bool o, .slice Y m e]] w fun r w' => r = .returned (.tuple #[]) ∧ (∃ wo', WL w0.heap.size w' g a b (kk + 4) wo' ∧ Good wo' (n + 1) ∧ SameEp wo wo') ∧ Chg [] w0 w' := by
  by_cases h0 : wo.air.length = 0
  · exact (hand_none 4 o w0 w g a b kk wo hW hc0 hK wh Y m e h0).mono fun r w' ⟨h1, h2, h3⟩ => ⟨h1, ⟨wo, h2.more2 (by omega), hG.more (by omega), ⟨by first | rfl | exact ep_send _ _ | exact ep_recv _ _, by first | rfl | exact ep_send _ _ | exact ep_recv _ _⟩⟩, h3⟩
  · obtain ⟨k, hk⟩ : ∃ k : Nat, (k : Int) = wh % (wo.air.length : Int) := ⟨(wh % (wo.air.length : Int)).toNat, Int.toNat_of_nonneg (Int.emod_nonneg _ (by omega))⟩
    have hlt : k < wo.air.length := by have := Int.emod_lt_of_pos wh (b := (wo.air.length : Int)) (by omega); omega
    obtain ⟨⟨p, f⟩, hp⟩ : ∃ x, wo.air[k]? = some x := ⟨_, List.getElem?_eq_getElem hlt⟩
    have ga := hG.air
    cases f
    · have G := good_recv_a hG p (hG.pak_f hp)
      have T : (wo.t0 ++ (recvS wo.sa p).inn).length + _ ≤ n := G.t_le.2
      rw [List.length_append] at T
      exact (hand_4f w0 w g a b kk wo hW hc0 hK wh o Y m e ga k hk p hp (by omega) (by omega)).mono fun r w' ⟨h1, h2, h3⟩ => ⟨h1, ⟨_, h2, G.more (by omega), ⟨by first | rfl | exact ep_send _ _ | exact ep_recv _ _, by first | rfl | exact ep_send _ _ | exact ep_recv _ _⟩⟩, h3⟩
    · have G := good_recv_b hG p (hG.pak_t hp)
      have T : (wo.t1 ++ (recvS wo.sb p).inn).length + _ ≤ n := G.t_le.1
      rw [List.length_append] at T
      exact (hand_4t w0 w g a b kk wo hW hc0 hK wh o Y m e ga k hk p hp (by omega) (by omega)).mono fun r w' ⟨h1, h2, h3⟩ => ⟨h1, ⟨_, h2, G.more (by omega), ⟨by first | rfl | exact ep_send _ _ | exact ep_recv _ _, by first | rfl | exact ep_send _ _ | exact ep_recv _ _⟩⟩, h3⟩

set_option maxHeartbeats 4000000 in
theorem hand_ep_5 (w0 w : World) (g a b kk n : Nat) (wo : WoT) (hW : WL w0.heap.size w g a b kk wo) (hc0 : Chg [] w0 w) (hK : kk ≤ 400000) (hG : Good wo n) (hn : n ≤ 900000) (wh : Int) (o : Bool) (Y : Option Addr) (m e : Nat) :
    Calls Try.prog 46 #[.pointer (some ⟨g, 0, none⟩), .agg #[.int .i64 5, .int .i64 wh, .bool o, .slice Y m e]] w fun r w' => r = .returned (.tuple #[]) ∧ (∃ wo', WL w0.heap.size w' g a b (kk + 4) wo' ∧ Good wo' (n + 1) ∧ SameEp wo wo') ∧ Chg [] w0 w' := by
  by_cases h0 : wo.air.length = 0
  · exact (hand_none 5 o w0 w g a b kk wo hW hc0 hK wh Y m e h0).mono fun r w' ⟨h1, h2, h3⟩ => ⟨h1, ⟨wo, h2.more2 (by omega), hG.more (by omega), ⟨by first | rfl | exact ep_send _ _ | exact ep_recv _ _, by first | rfl | exact ep_send _ _ | exact ep_recv _ _⟩⟩, h3⟩
  · obtain ⟨k, hk⟩ : ∃ k : Nat, (k : Int) = wh % (wo.air.length : Int) := ⟨(wh % (wo.air.length : Int)).toNat, Int.toNat_of_nonneg (Int.emod_nonneg _ (by omega))⟩
    have hlt : k < wo.air.length := by have := Int.emod_lt_of_pos wh (b := (wo.air.length : Int)) (by omega); omega
    obtain ⟨⟨p, f⟩, hp⟩ : ∃ x, wo.air[k]? = some x := ⟨_, List.getElem?_eq_getElem hlt⟩
    have ga := hG.air
    cases f
    · have G := good_take_a (good_less hG k)
      have T : (wo.t0 ++ wo.sa.inn).length + _ ≤ n := G.t_le.2
      rw [List.length_append] at T
      exact (hand_5f w0 w g a b kk wo hW hc0 hK wh o Y m e ga k hk p hp (by omega) (by omega)).mono fun r w' ⟨h1, h2, h3⟩ => ⟨h1, ⟨_, h2, G.more (by omega), ⟨by first | rfl | exact ep_send _ _ | exact ep_recv _ _, by first | rfl | exact ep_send _ _ | exact ep_recv _ _⟩⟩, h3⟩
    · have G := good_take_b (good_less hG k)
      have T : (wo.t1 ++ wo.sb.inn).length + _ ≤ n := G.t_le.1
      rw [List.length_append] at T
      exact (hand_5t w0 w g a b kk wo hW hc0 hK wh o Y m e ga k hk p hp (by omega) (by omega)).mono fun r w' ⟨h1, h2, h3⟩ => ⟨h1, ⟨_, h2, G.more (by omega), ⟨by first | rfl | exact ep_send _ _ | exact ep_recv _ _, by first | rfl | exact ep_send _ _ | exact ep_recv _ _⟩⟩, h3⟩

set_option maxHeartbeats 4000000 in
theorem lawturn_ep (w0 w : World) (g a b kk n : Nat) (wo : WoT) (hW : WL w0.heap.size w g a b kk wo) (hc0 : Chg [] w0 w) (hK : kk ≤ 400000) (hG : Good wo n) (hn : n ≤ 900000) (wh : Int) (o : Bool) (Y : Option Addr) (m e : Nat) (kd : Int) (ys : List UInt8) (hy : Bs w Y m ys) (hyl : ys = [] ∨ ∀ x, Y = some x → x.block < w0.heap.size) (hm : m ≤ 140737488351232) :
    Calls Try.prog 22 #[.pointer (some ⟨g, 0, none⟩), .agg #[.int .i64 kd, .int .i64 wh, .bool o, .slice Y m e]] w fun r w' => r = .returned (.tuple #[]) ∧ (∃ wo', WL w0.heap.size w' g a b (kk + 4) wo' ∧ Good wo' (n + 1) ∧ SameEp wo wo') ∧ Chg [] w0 w' := by
  have l0 := hG.l0
  have l1 := hG.l1
  by_cases k0 : kd = 0
  · subst k0
    cases o
    · by_cases he : sendE wo.sa ys = 0
      · exact (turn_send_ok_a w0 w g a b kk wo hW hc0 hK wh Y m e ys hy hyl hm (by omega) he).mono fun r w' ⟨h1, h2, h3⟩ => ⟨h1, ⟨_, h2.more2 (by omega), good_send_ok_a hG ys he, ⟨by first | rfl | exact ep_send _ _ | exact ep_recv _ _, by first | rfl | exact ep_send _ _ | exact ep_recv _ _⟩⟩, h3⟩
      · exact (turn_send_no_a w0 w g a b kk wo hW hc0 hK wh Y m e ys hy hyl hm (by omega) he).mono fun r w' ⟨h1, h2, h3⟩ => ⟨h1, ⟨_, h2.more2 (by omega), (good_send_no_a hG ys he).more (by omega), ⟨by first | rfl | exact ep_send _ _ | exact ep_recv _ _, by first | rfl | exact ep_send _ _ | exact ep_recv _ _⟩⟩, h3⟩
    · by_cases he : sendE wo.sb ys = 0
      · exact (turn_send_ok_b w0 w g a b kk wo hW hc0 hK wh Y m e ys hy hyl hm (by omega) he).mono fun r w' ⟨h1, h2, h3⟩ => ⟨h1, ⟨_, h2.more2 (by omega), good_send_ok_b hG ys he, ⟨by first | rfl | exact ep_send _ _ | exact ep_recv _ _, by first | rfl | exact ep_send _ _ | exact ep_recv _ _⟩⟩, h3⟩
      · exact (turn_send_no_b w0 w g a b kk wo hW hc0 hK wh Y m e ys hy hyl hm (by omega) he).mono fun r w' ⟨h1, h2, h3⟩ => ⟨h1, ⟨_, h2.more2 (by omega), (good_send_no_b hG ys he).more (by omega), ⟨by first | rfl | exact ep_send _ _ | exact ep_recv _ _, by first | rfl | exact ep_send _ _ | exact ep_recv _ _⟩⟩, h3⟩
  by_cases k1 : kd = 1
  · subst k1
    cases o
    · exact (turn_tick_a w0 w g a b kk wo hW hc0 hK wh Y m e).mono fun r w' ⟨h1, h2, h3⟩ => ⟨h1, ⟨_, h2.more2 (by omega), (good_tick_a hG).more (by omega), ⟨by first | rfl | exact ep_send _ _ | exact ep_recv _ _, by first | rfl | exact ep_send _ _ | exact ep_recv _ _⟩⟩, h3⟩
    · exact (turn_tick_b w0 w g a b kk wo hW hc0 hK wh Y m e).mono fun r w' ⟨h1, h2, h3⟩ => ⟨h1, ⟨_, h2.more2 (by omega), (good_tick_b hG).more (by omega), ⟨by first | rfl | exact ep_send _ _ | exact ep_recv _ _, by first | rfl | exact ep_send _ _ | exact ep_recv _ _⟩⟩, h3⟩
  by_cases k2 : kd = 2
  · subst k2
    cases o
    · exact (turn_out_a w0 w g a b kk wo hW hc0 hK wh Y m e hG.air).mono fun r w' ⟨h1, j, h2, h3, h4⟩ => ⟨h1, ⟨_, h2.more2 (by omega), (good_out_a hG h3).more (by omega), ⟨by first | rfl | exact ep_send _ _ | exact ep_recv _ _, by first | rfl | exact ep_send _ _ | exact ep_recv _ _⟩⟩, h4⟩
    · exact (turn_out_b w0 w g a b kk wo hW hc0 hK wh Y m e hG.air).mono fun r w' ⟨h1, j, h2, h3, h4⟩ => ⟨h1, ⟨_, h2.more2 (by omega), (good_out_b hG h3).more (by omega), ⟨by first | rfl | exact ep_send _ _ | exact ep_recv _ _, by first | rfl | exact ep_send _ _ | exact ep_recv _ _⟩⟩, h4⟩
  by_cases k3 : kd = 3
  · subst k3
    cases o
    · exact turn_hand_3f w0 w g a b kk wo hW hc0 hK wh Y m e (fun w' hw' hc' => hand_ep_3 w0 w' g a b kk n wo hw' hc' hK hG hn wh false Y m e)
    · exact turn_hand_3t w0 w g a b kk wo hW hc0 hK wh Y m e (fun w' hw' hc' => hand_ep_3 w0 w' g a b kk n wo hw' hc' hK hG hn wh true Y m e)
  by_cases k4 : kd = 4
  · subst k4
    cases o
    · exact turn_hand_4f w0 w g a b kk wo hW hc0 hK wh Y m e (fun w' hw' hc' => hand_ep_4 w0 w' g a b kk n wo hw' hc' hK hG hn wh false Y m e)
    · exact turn_hand_4t w0 w g a b kk wo hW hc0 hK wh Y m e (fun w' hw' hc' => hand_ep_4 w0 w' g a b kk n wo hw' hc' hK hG hn wh true Y m e)
  by_cases k5 : kd = 5
  · subst k5
    cases o
    · exact turn_hand_5f w0 w g a b kk wo hW hc0 hK wh Y m e (fun w' hw' hc' => hand_ep_5 w0 w' g a b kk n wo hw' hc' hK hG hn wh false Y m e)
    · exact turn_hand_5t w0 w g a b kk wo hW hc0 hK wh Y m e (fun w' hw' hc' => hand_ep_5 w0 w' g a b kk n wo hw' hc' hK hG hn wh true Y m e)
  cases o
  · exact (turn_none_f kd w0 w g a b kk wo hW hc0 hK wh Y m e ⟨k0, k1, k2, k3, k4, k5⟩).mono fun r w' ⟨h1, h2, h3⟩ => ⟨h1, ⟨_, h2.more2 (by omega), hG.more (by omega), ⟨by first | rfl | exact ep_send _ _ | exact ep_recv _ _, by first | rfl | exact ep_send _ _ | exact ep_recv _ _⟩⟩, h3⟩
  · exact (turn_none_t kd w0 w g a b kk wo hW hc0 hK wh Y m e ⟨k0, k1, k2, k3, k4, k5⟩).mono fun r w' ⟨h1, h2, h3⟩ => ⟨h1, ⟨_, h2.more2 (by omega), hG.more (by omega), ⟨by first | rfl | exact ep_send _ _ | exact ep_recv _ _, by first | rfl | exact ep_send _ _ | exact ep_recv _ _⟩⟩, h3⟩
end
section
open Go.RowKit Go.Lib
set_option linter.unusedSimpArgs false
set_option linter.unusedVariables false
theorem own_one_l {w : World} (A : Option Addr) (n c : Nat) : OwnK lstTy (w.alloc (.cells #[.slice A n c] 33)) (some ⟨w.heap.size, 0, none⟩) 1 [(A, n, c)] := .of (full := [(A, n, c)]) (heap_alloc_new _ _) (Nat.le_refl _) (by simp [maxLen]) rfl rfl
set_option maxRecDepth 100000 in
set_option maxHeartbeats 16000000 in
theorem turns_yes (w : World) (A : Option Addr) (n c : Nat) (zs : List TurnV) (h : RdK turnTy w A n zs) (hu : ∀ x ∈ zs, TurnR w x) (hm : n * 48 ≤ 140737488351232) (AB : Option Addr) (nB cB : Nat) (xsB : List UInt8) (hb : Bs w AB nB xsB) (hn : nB ≤ 140737488351232) :
    Calls Try.prog 6 #[.slice A n c, .slice AB nB cB] w fun e w' => e = .returned (.bool true) ∧ Chg [] w w' := by
  have H := Lib.hid h
  have HU := Lib.hid hu
  have HM := Lib.hid hm
  have HB := Lib.hid hb
  have HN := Lib.hid hn
  clear h hu hm hb hn
  go_enter Try.func6, Try.ntmps6
  go_wp2_with fail
  refine (l18awake_run w).mono ?_
  rintro r w1 ⟨rfl, hc1⟩
  have C1 := Lib.hid hc1
  clear hc1
  go_wp2_with fail
  refine (met_two w1 3 4 (by decide) (by decide)).mono ?_
  rintro r w2 ⟨a, b, rfl, tw⟩
  have TW := Lib.hid tw
  clear tw
  go_wp2_with fail
  have C2 : Hid (Chg [] w w2) := Lib.hid (C1.out.trans (by obtain ⟨_, _, _, _, _, _, _, q⟩ := TW.out; exact q))
  refine (longs_any w2 A n c zs (H.out.chg C2.out (by simp)) (by have := HM.out; omega) (fun x hx => by obtain ⟨ys, _, q⟩ := HU.out x hx; exact q)).mono ?_
  rintro r w3 ⟨⟨bb, rfl, hb⟩, rfl⟩
  have HBB := Lib.hid hb
  clear hb
  cases bb
  case true =>
    go_wp2
    go_ret
    exact ⟨rfl, C2.out⟩
  refine (Decidable.em (400 < nB)).elim (fun hlong => ?P1) (fun hlong => ?P0)
  case P1 =>
    have l1 : (400 : Int) < (nB : Int) := by omega
    go_wp2
    go_ret
    exact ⟨rfl, C2.out⟩
  have l1 : ¬ (400 : Int) < (nB : Int) := by omega
  have BL : Hid (nB ≤ 400) := Lib.hid (by omega)
  have NL := Lib.hid (HBB.out rfl)
  have LN := Lib.hid H.out.len
  go_upto_region 6 with fail
  have WB := Lib.hid TW.out.wl
  have CB : Hid (Chg [] w1 (w3.alloc (.cells #[.pointer (some ⟨a, 0, none⟩), .pointer (some ⟨b, 0, none⟩), .slice none 0 0, .slice none 0 0, .slice none 0 0, .slice none 0 0, .slice none 0 0] 55))) := Lib.hid (Chg.trans (by obtain ⟨_, _, _, _, _, _, _, q⟩ := TW.out; exact q) ((Chg.refl [] w3).alloc _))
  have GM := Lib.hid (good_met 3 4)
  generalize hgg : w3.heap.size = g at *
  clear C2 TW HBB hgg
  go_wp2_with fail
  go_loopw [9] (fun v wr => ∃ j : Nat, j ≤ n ∧ v = .int .i64 (j : Int) ∧ Hid (∃ wo, WL w1.heap.size wr g a b (60 + 4 * j) wo ∧ Good wo j ∧ wo.sa.ep = 3 ∧ wo.sb.ep = 4) ∧ Hid (Chg [] w1 wr)) (fun v _ => n - (RowKit.intOf v).toNat)
  case atStart => exact ⟨0, Nat.zero_le _, rfl, Lib.hid ⟨_, WB.out, GM.out, rfl, rfl⟩, CB.out⟩
  case round =>
    clear WB CB GM
    obtain ⟨j, hj, rfl, HWG, CJ⟩ := hrel
    have i0 : (0 : Int) ≤ (j : Int) := by omega
    have nl := NL.out.1
    have ln := LN.out
    have i1 : IntKind.i64.wrap ((j : Int) + 1) = (j : Int) + 1 := IntWalk.i64_in _ (by omega)
    by_cases hlt : j < n
    · have i2 : (j : Int) < (n : Int) := by omega
      obtain ⟨x, hx⟩ : ∃ x, zs[j]? = some x := ⟨_, List.getElem?_eq_getElem (by omega)⟩
      obtain ⟨gz, oz, rfl, _⟩ := H.out.line (by omega)
      have rj := (H.out.chg C1.out (by simp)).chg CJ.out (by simp)
      obtain ⟨f1, f2, f3, f4⟩ := turnCells rj hx
      obtain ⟨ys, by_, sm⟩ := HU.out x (List.mem_of_getElem? hx)
      obtain ⟨x1, x2, x3, xA, xn, xd⟩ := x
      dsimp only at f1 f2 f3 f4 by_ sm
      have BY := Lib.hid by_
      have SM := Lib.hid sm
      clear hx rj by_ sm
      obtain ⟨wo, hwl, hgood, hea, heb⟩ := HWG.out
      have WJ := Lib.hid hwl
      have GJ := Lib.hid hgood
      have BJ := Lib.hid ((BY.out.chg C1.out (by simp)).chg CJ.out (by simp))
      have YL : Hid (ys = [] ∨ ∀ y, xA = some y → y.block < w1.heap.size) := Lib.hid (BY.out.chg C1.out (by simp)).old
      clear hwl hgood HWG
      go_wp2_with fail
      refine (lawturn_ep w1 wr g a b (60 + 4 * j) j wo WJ.out CJ.out (by omega) GJ.out (by omega) x2 x3 xA xn xd x1 ys BJ.out YL.out SM.out).mono ?_
      rintro r w5 ⟨rfl, ⟨wo5, h5, g5, ep5⟩, c5⟩
      have W5 : Hid (∃ wo, WL w1.heap.size w5 g a b (60 + 4 * (j + 1)) wo ∧ Good wo (j + 1) ∧ wo.sa.ep = 3 ∧ wo.sb.ep = 4) := Lib.hid ⟨wo5, h5, g5, ep5.1.trans hea, ep5.2.trans heb⟩
      have C5 := Lib.hid c5
      clear h5 c5 g5 ep5 hea heb WJ GJ BJ YL f1 f2 f3 f4
      go_wp2
      go_round
      case measure => simp [RowKit.intOf]; omega
      exact ⟨j + 1, by omega, by go_num, W5.out, C5.out⟩
    have i2 : ¬ (j : Int) < (n : Int) := by omega
    obtain ⟨wo, hwl, hgood, hea, heb⟩ := HWG.out
    obtain ⟨Ar, cr, lr, P0, c0, l0, P1, c1, l1, Q0, d0, m0, Q1, d1, m1, Aa, Da, Ab, Db, F, hw⟩ := hwl
    have HW := Lib.hid hw
    have GJ := Lib.hid hgood
    have EPS := Lib.hid (show wo.sa.ep = 3 ∧ wo.sb.ep = 4 from ⟨hea, heb⟩)
    have JN : Hid (j ≤ 120) := Lib.hid (by omega)
    have B2 := Lib.hid ((HB.out.chg C1.out (by simp)).chg CJ.out (by simp))
    have BO : Hid (xsB = [] ∨ ∀ y, AB = some y → y.block < w1.heap.size) := Lib.hid (HB.out.chg C1.out (by simp)).old
    clear hw hgood hea heb HWG hlt i0 i1 nl ln hj
    go_wp2_with fail
    refine (senew_any wr 9 (by decide) (by decide)).mono ?_
    rintro r w5 ⟨c, rfl, hq, hcs, hc⟩
    have DU : Hid (Duo (b :: blkOf Ab) wr w5 c b (60 + 4 * j) (newS 9) wo.sb) := Lib.hid (by
      have L := fun z (hz : z ∈ b :: (blkOf Ab ++ Db)) => HW.out.sb.lts z hz
      refine ⟨none, [], Ab, Db, (newL hq (by decide)).more (by omega), HW.out.sb.chg hc (by simp) (by simp) (by simp), fun z hz => ?_, fun z hz => ⟨.inl hz, by simp⟩, hc.mono (by simp)⟩
      simp [blkOf] at hz
      subst hz
      exact ⟨.inr hcs, fun hm => by have := L _ hm; omega⟩)
    have CB0 : Hid (wr.heap.size ≤ c) := Lib.hid hcs
    clear hq hcs hc i2
    go_upto_region 13 with fail
    generalize wr = wl at *
    clear wr
    have LR := Lib.hid HW.out.pa.1
    have AL := Lib.hid GJ.out.air
    go_wp2_with fail
    go_loopw [12] (fun v wr => ∃ i : Nat, i ≤ lr.length ∧ v = .int .i64 (i : Int) ∧ Hid (∃ st, ZOk st ∧ Duo (b :: blkOf Ab) wl wr c b (60 + 4 * j + 2 * i) st wo.sb)) (fun v _ => lr.length - (RowKit.intOf v).toNat)
    case atStart => exact ⟨0, Nat.zero_le _, rfl, Lib.hid ⟨_, .inl rfl, DU.out⟩⟩
    case round =>
      clear DU
      obtain ⟨i, hi, rfl, HZ⟩ := hrel
      obtain ⟨st, hz, hd⟩ := HZ.out
      have ZO := Lib.hid hz
      have DU := Lib.hid hd
      clear hz hd HZ
      have i0 : (0 : Int) ≤ (i : Int) := by omega
      have i1 : IntKind.i64.wrap ((i : Int) + 1) = (i : Int) + 1 := IntWalk.i64_in _ (by have := LR.out; have := AL.out; omega)
      have GN : Hid (∀ (l : List Nat) (k : Nat), ([[g], blkOf Ar, blkOf P0, blkOf P1, blkOf Q0, blkOf Q1, a :: blkOf Aa, b :: blkOf Ab, F] : List (List Nat))[k]? = some l → k ≠ 7 → ∀ z ∈ l, z ∉ b :: blkOf Ab) := Lib.hid (fun l k hk hne z hz => HW.out.pw.pick hk (j := 7) rfl hne z hz)
      have z2 := cell_of (DU.out.on.at_ HW.out.hg (GN.out _ 0 rfl (by decide) g (by simp))) 2
      simp only [List.getElem?_toArray, List.getElem?_cons_succ, List.getElem?_cons_zero] at z2
      by_cases hlt : i < lr.length
      · have i2 : (i : Int) < (lr.length : Int) := by omega
        obtain ⟨x, hx⟩ : ∃ x, lr[i]? = some x := ⟨_, List.getElem?_eq_getElem hlt⟩
        obtain ⟨p, hp⟩ : ∃ p, wo.air[i]? = some p := ⟨_, List.getElem?_eq_getElem (by have := LR.out; omega)⟩
        have FP := Lib.hid ((HW.out.pa.chg DU.out.on (GN.out _ 8 rfl (by decide))).2 i x p hx hp)
        have OA := HW.out.oa.chg DU.out.on (fun y hy => GN.out _ 1 rfl (by decide) _ (mem_blkOf hy))
        obtain ⟨gA, oA, eA, _⟩ := OA.reads.line (by omega)
        have rd := OA.reads
        rw [eA] at rd z2
        obtain ⟨f1, f2, f3, f4, f5, f6⟩ := flCells rd hx
        have RB : Hid (Bs wr x.1.2.2.2.2.1 x.1.2.2.2.2.2.1 p.1.2.2.2.2 ∧ x.1.2.2.2.2.2.1 ≤ 140737488351232) := Lib.hid (by
          have q := FP.out.2.2.2.2
          exact ⟨q.1, by have := q.1.len; have := q.2.1; omega⟩)
        have XN : Hid (∀ y, x.1.2.2.2.2.1 = some y → y.block ≠ c ∧ y.block ≠ b) := Lib.hid (fun y hy => by
          have m := FP.out.2.2.2.2.2.2.1 y hy
          refine ⟨fun e => ?_, fun e => GN.out _ 8 rfl (by decide) _ m (by simp [e])⟩
          have := (HW.out.lo F (by simp) _ m).2
          have := CB0.out
          omega)
        obtain ⟨⟨x1, x2, x3, x4, xA, xn, xd⟩, xw⟩ := x
        obtain ⟨⟨p1, p2, p3, p4, pb⟩, pw⟩ := p
        obtain ⟨e1, e2, e3, e4, _, _, _, e8⟩ := FP.out
        dsimp only at e1 e2 e3 e4 e8 f1 f2 f3 f4 f5 f6 RB XN
        subst e1; subst e2; subst e3; subst e4; subst e8
        have HP := Lib.hid hp
        clear hx hp rd OA FP eA
        cases xw
        case true =>
          go_wp2
          go_round
          case measure => simp [RowKit.intOf]; omega
          exact ⟨i + 1, by omega, by go_num, st, ZO.out, DU.out.more (by omega)⟩
        case false =>
          go_wp2_with fail
          refine (DU.out.recv (by have := JN.out; have := LR.out; have := AL.out; omega) x1 x2 x3 x4 xA xn xd pb RB.out.1 RB.out.2 (fun y hy => (XN.out y hy).1)).mono ?_
          rintro r w6 ⟨rfl, hd⟩
          have D6 := Lib.hid hd
          have Z6 := Lib.hid (zok_recv ZO.out (p := (x1, x2, x3, x4, pb)) (by have := (GJ.out.pak_f HP.out).frm; have := EPS.out.2; simp only at *; omega) (by have := (GJ.out.pak_f HP.out).to; have := EPS.out.1; simp only at *; omega))
          clear hd z2 f1 f2 f3 f4 f5 f6
          go_wp2
          go_round
          case measure => simp [RowKit.intOf]; omega
          exact ⟨i + 1, by omega, by go_num, _, Z6.out, D6.out.more (by omega)⟩
      have i2 : ¬ (i : Int) < (lr.length : Int) := by omega
      have KI : Hid (60 + 4 * j + 2 * i ≤ 1000) := Lib.hid (by have := JN.out; have := LR.out; have := AL.out; omega)
      generalize 60 + 4 * j + 2 * i = kk at *
      clear hi i0 i1 hlt
      go_wp2_with fail
      clear i2 z2
      refine DU.out.swap.take.mono ?_
      rintro r w6 ⟨A6, c6, l6, D6, rfl, -, -, -, hd, -⟩
      have DT := Lib.hid hd.swap
      clear hd DU
      go_upto_region 19 with fail
      have CB6 := Lib.hid DT.out.on
      generalize wr = wq at *
      clear wr
      go_wp2_with fail
      go_loopw [13] (fun v wr => ∃ k : Nat, k ≤ 2 ∧ v = .int .i64 (k : Int) ∧ Hid (Duo (b :: blkOf Ab) wl wr c b (kk + 40 * k) (rnN k (st, takeS wo.sb)).1 (rnN k (st, takeS wo.sb)).2)) (fun v _ => 2 - (RowKit.intOf v).toNat)
      case atStart => exact ⟨0, Nat.zero_le _, rfl, DT.out⟩
      case round =>
        clear DT CB6
        obtain ⟨k, hk, rfl, HD⟩ := hrel
        have i0 : (0 : Int) ≤ (k : Int) := by omega
        have i1 : IntKind.i64.wrap ((k : Int) + 1) = (k : Int) + 1 := IntWalk.i64_in _ (by omega)
        by_cases hlt : k < 2
        · have i2 : (k : Int) < 2 := by omega
          go_wp2_with fail
          refine (hands_duo _ wl wr c b _ _ _ HD.out (by have := KI.out; omega)).mono ?_
          rintro r w7 ⟨rfl, hd⟩
          have D7 := Lib.hid hd.swap
          clear hd HD
          go_wp2_with fail
          refine (hands_duo _ wl w7 b c _ _ _ D7.out (by have := KI.out; omega)).mono ?_
          rintro r w8 ⟨rfl, hd⟩
          have D8 : Hid (Duo (b :: blkOf Ab) wl w8 c b (kk + 40 * (k + 1)) (rnN (k + 1) (st, takeS wo.sb)).1 (rnN (k + 1) (st, takeS wo.sb)).2) := Lib.hid (by
            have e : kk + 40 * k + 20 + 20 = kk + 40 * (k + 1) := by omega
            rw [e] at hd
            exact hd.swap)
          clear hd D7
          go_wp2
          go_round
          case measure => simp [RowKit.intOf]; omega
          exact ⟨k + 1, by omega, by go_num, D8.out⟩
        obtain rfl : k = 2 := by omega
        have i2 : ¬ ((2 : Nat) : Int) < 2 := by omega
        have TE := Lib.hid (turns_end ZO.out (s := takeS wo.sb) EPS.out.2 (GJ.out.ab.met1.trans EPS.out.1) rfl GJ.out.tu.2)
        have D9 : Hid (Duo (b :: blkOf Ab) wl wr c b (kk + 80) zEnd yEnd) := Lib.hid (by
          have q := HD.out
          rw [TE.out] at q
          exact q)
        clear HD TE hk i0 i1 hlt ZO
        go_upto_region 24 with fail
        clear i2
        generalize wr = wv at *
        clear wr
        go_wp2_with fail
        go_loopw [14] (fun v wr => ∃ i : Nat, i ≤ lr.length ∧ v = .int .i64 (i : Int) ∧ Hid (Duo (b :: blkOf Ab) wl wr c b (kk + 80 + 2 * i) zEnd yEnd)) (fun v _ => lr.length - (RowKit.intOf v).toNat)
        case atStart => exact ⟨0, Nat.zero_le _, rfl, D9.out⟩
        case round =>
          clear D9
          obtain ⟨i, hi, rfl, DU⟩ := hrel
          have i0 : (0 : Int) ≤ (i : Int) := by omega
          have i1 : IntKind.i64.wrap ((i : Int) + 1) = (i : Int) + 1 := IntWalk.i64_in _ (by have := LR.out; have := AL.out; omega)
          have GN : Hid (∀ (l : List Nat) (k : Nat), ([[g], blkOf Ar, blkOf P0, blkOf P1, blkOf Q0, blkOf Q1, a :: blkOf Aa, b :: blkOf Ab, F] : List (List Nat))[k]? = some l → k ≠ 7 → ∀ z ∈ l, z ∉ b :: blkOf Ab) := Lib.hid (fun l k hk hne z hz => HW.out.pw.pick hk (j := 7) rfl hne z hz)
          have z2 := cell_of (DU.out.on.at_ HW.out.hg (GN.out _ 0 rfl (by decide) g (by simp))) 2
          simp only [List.getElem?_toArray, List.getElem?_cons_succ, List.getElem?_cons_zero] at z2
          by_cases hlt : i < lr.length
          · have i2 : (i : Int) < (lr.length : Int) := by omega
            obtain ⟨x, hx⟩ : ∃ x, lr[i]? = some x := ⟨_, List.getElem?_eq_getElem hlt⟩
            obtain ⟨p, hp⟩ : ∃ p, wo.air[i]? = some p := ⟨_, List.getElem?_eq_getElem (by have := LR.out; omega)⟩
            have FP := Lib.hid ((HW.out.pa.chg DU.out.on (GN.out _ 8 rfl (by decide))).2 i x p hx hp)
            have OA := HW.out.oa.chg DU.out.on (fun y hy => GN.out _ 1 rfl (by decide) _ (mem_blkOf hy))
            obtain ⟨gA, oA, eA, _⟩ := OA.reads.line (by omega)
            have rd := OA.reads
            rw [eA] at rd z2
            obtain ⟨f1, f2, f3, f4, f5, f6⟩ := flCells rd hx
            have RB : Hid (Bs wr x.1.2.2.2.2.1 x.1.2.2.2.2.2.1 p.1.2.2.2.2 ∧ x.1.2.2.2.2.2.1 ≤ 140737488351232) := Lib.hid (by
              have q := FP.out.2.2.2.2
              exact ⟨q.1, by have := q.1.len; have := q.2.1; omega⟩)
            have XN : Hid (∀ y, x.1.2.2.2.2.1 = some y → y.block ≠ b) := Lib.hid (fun y hy e => GN.out _ 8 rfl (by decide) _ (FP.out.2.2.2.2.2.2.1 y hy) (by simp [e]))
            obtain ⟨⟨x1, x2, x3, x4, xA, xn, xd⟩, xw⟩ := x
            obtain ⟨⟨p1, p2, p3, p4, pb⟩, pw⟩ := p
            obtain ⟨e1, e2, e3, e4, _, _, _, e8⟩ := FP.out
            dsimp only at e1 e2 e3 e4 e8 f1 f2 f3 f4 f5 f6 RB XN
            subst e1; subst e2; subst e3; subst e4; subst e8
            have HP := Lib.hid hp
            clear hx hp rd OA FP eA
            cases xw
            case false =>
              go_wp2
              go_round
              case measure => simp [RowKit.intOf]; omega
              exact ⟨i + 1, by omega, by go_num, DU.out.more (by omega)⟩
            case true =>
              go_wp2_with fail
              refine (DU.out.swap.recv (by have := KI.out; have := LR.out; have := AL.out; omega) x1 x2 x3 x4 xA xn xd pb RB.out.1 RB.out.2 XN.out).mono ?_
              rintro r w6 ⟨rfl, hd⟩
              rw [yend_recv (p := (x1, x2, x3, x4, pb)) (by have := (GJ.out.pak_t HP.out).frm; have := EPS.out.1; simp only at *; omega)] at hd
              have D6 := Lib.hid hd.swap
              clear hd z2 f1 f2 f3 f4 f5 f6
              go_wp2
              refine ⟨⟨_, _, _, _, _, _, _, _, _, _, _, _, _, _, _, _, _, _, _, _, _, _, _, _, _, _, _, _, ⟨i + 1, by omega, ?num, D6.out.more (by omega)⟩, rfl⟩, ?measure⟩
              case measure => simp [RowKit.intOf]; omega
              case num => go_num
          have i2 : ¬ (i : Int) < (lr.length : Int) := by omega
          have KJ : Hid (kk + 80 + 2 * i ≤ 2000) := Lib.hid (by have := KI.out; have := LR.out; have := AL.out; omega)
          generalize kk + 80 + 2 * i = kl at *
          clear hi i0 i1 hlt
          have t1 : ((4 : Int) != 4) = false := by decide
          have t2 : ((9 : Int) != 9) = false := by decide
          have t3 : ((2 : Int) != 2) = false := by decide
          have t4 : ((0 : Int) != 0) = false := by decide
          go_wp2_with fail
          clear i2 z2
          refine DU.out.peer.mono ?_
          rintro r w10 ⟨rfl, rfl⟩
          simp only [zEnd]
          go_wp2_with fail
          refine DU.out.swap.peer.mono ?_
          rintro r w10 ⟨rfl, rfl⟩
          simp only [yEnd]
          go_wp2_with fail
          refine DU.out.swap.turns.mono ?_
          rintro r w10 ⟨rfl, rfl⟩
          simp only [yEnd]
          go_wp2_with fail
          refine DU.out.swap.waiting.mono ?_
          rintro r w10 ⟨rfl, rfl⟩
          simp only [yEnd, List.length_nil]
          go_wp2_with fail
          refine DU.out.take.mono ?_
          rintro r w11 ⟨A7, c7, l7, D7, rfl, -, -, -, hd, -⟩
          rw [show takeS zEnd = zEnd from rfl] at hd
          have DV := Lib.hid hd.swap
          clear hd DU
          simp only [zEnd, List.length_nil]
          go_wp2_with fail
          refine DV.out.take.mono ?_
          rintro r w12 ⟨A8, c8, l8, D8, rfl, -, -, -, hd, -⟩
          rw [show takeS yEnd = yEnd from rfl] at hd
          have DW := Lib.hid hd.swap
          clear hd DV
          simp only [yEnd, List.length_nil]
          have CW : Hid (Chg [] w1 w12) := Lib.hid (CJ.out.on DW.out.on (fun z hz => (HW.out.lo (b :: blkOf Ab) (by simp) z hz).1))
          have BW : Hid (Bs w12 AB nB xsB) := Lib.hid (Bs.go (HB.out.chg C1.out (by simp)) CW.out BO.out (by simp))
          go_wp2_with fail
          refine (DW.out.send AB nB cB xsB BW.out (by have := BL.out; omega)).mono ?_
          rintro r w13 ⟨rfl, hd⟩
          have XL : Hid (xsB.length ≤ 400) := Lib.hid (by have := BW.out.len; have := BL.out; omega)
          rw [(zend_send XL.out).1]
          rw [(zend_send XL.out).2] at hd
          have DX := Lib.hid hd
          clear hd DW
          go_wp2_with fail
          refine (hands_duo _ wl w13 c b _ _ _ DX.out (by have := KJ.out; omega)).mono ?_
          rintro r w14 ⟨rfl, hd⟩
          rw [zend_out, zend_recv XL.out] at hd
          have DY := Lib.hid hd.swap
          clear hd DX
          go_wp2_with fail
          refine DY.out.take.mono ?_
          rintro r w15 ⟨A9, c9, l9, D9, rfl, ho, hl, hX, hd, -⟩
          have OL := Lib.hid ho
          have PL := Lib.hid hl
          have CY : Hid (Chg [] w1 w15) := Lib.hid (CJ.out.on hd.on (fun z hz => (HW.out.lo (b :: blkOf Ab) (by simp) z hz).1))
          have BY : Hid (Bs w15 AB nB xsB) := Lib.hid (Bs.go (HB.out.chg C1.out (by simp)) CY.out BO.out (by simp))
          clear ho hl hX hd DY
          simp only [List.length_singleton]
          go_wp2_with fail
          have L1 : l9.length = 1 := PL.out.1
          have RO := OL.out.reads
          rw [L1] at RO
          obtain ⟨gO, oO, eO, _⟩ := RO.line (by decide)
          rw [eO] at RO
          subst eO
          have hal : Chg [] w15 (w15.alloc (.cells #[.slice AB nB cB] 33)) := (Chg.refl [] w15).alloc _
          have RB := own_one_l (w := w15) AB nB cB
          refine (samelists_yes _ gO oO _ 0 c9 1 1 l9 [(AB, nB, cB)] (RO.chg hal (by simp)) RB.reads (by decide) (fun q x hx => ?_)).mono ?_
          · have hq := (List.getElem?_eq_some_iff.1 hx).1
            obtain rfl : q = 0 := by omega
            exact ⟨(AB, nB, cB), xsB, rfl, (PL.out.2 0 x xsB hx rfl).1.chg hal (by simp), BY.out.chg hal (by simp)⟩
          rintro r w16 ⟨rfl, h16⟩
          have C16 := Lib.hid (C1.out.trans (CY.out.trans (hal.trans h16)))
          clear RO RB hal h16
          go_wp2
          go_ret
          exact ⟨rfl, C16.out⟩
end
end Go.Proofs.Ytmblalcigbghfaa
