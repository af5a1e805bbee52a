/- The law's turn, whatever it is. -/
import Derived.Test.YtmblalcigbghfaaSoc
import Derived.Test.YtmblalcigbghfaaSod
import Derived.Test.YtmblalcigbghfaaSoe
import Derived.Test.YtmblalcigbghfaaSof
import Derived.Test.YtmblalcigbghfaaSog
import Derived.Test.YtmblalcigbghfaaSoh
import Derived.Test.YtmblalcigbghfaaSoi
import Derived.Test.YtmblalcigbghfaaSoj
namespace Go.Proofs.Ytmblalcigbghfaa
section
open Go.RowKit
set_option linter.unusedSimpArgs false
set_option linter.unusedVariables false


theorem WL.more {n : Nat} {w : World} {g a b K : Nat} {wo : WoT} (h : WL n w g a b K wo) {K' : Nat} (hK : K ≤ K') : WL n w g a b K' wo := by
  obtain ⟨Ar, cr, lr, P0, c0, l0, P1, c1, l1, Q0, d0, m0, Q1, d1, m1, Aa, Da, Ab, Db, F, h⟩ := h
  exact ⟨_, _, _, _, _, _, _, _, _, _, _, _, _, _, _, _, _, _, _, _, h.moreK hK⟩

set_option maxHeartbeats 4000000 in
theorem hand_any_3 (w0 w : World) (g a b kk n : Nat) (wo : WoT) (hW : WL w0.heap.size w g a b kk wo) (hc0 : Chg [] w0 w) (hK : kk ≤ 400000) (hG : Good wo n) (hn : n ≤ 900000) (wh : Int) (o : Bool) (Y : Option Addr) (m e : Nat) :
    Calls Try.prog 46 #[.pointer (some ⟨g, 0, none⟩), .agg #[.int .i64 3, .int .i64 wh, .bool o, .slice Y m e]] w fun r w' => r = .returned (.tuple #[]) ∧ (∃ wo', WL w0.heap.size w' g a b (kk + 4) wo' ∧ Good wo' (n + 1)) ∧ Chg [] w0 w' := by
  by_cases h0 : wo.air.length = 0
  · exact (hand_none 3 o w0 w g a b kk wo hW hc0 hK wh Y m e h0).mono fun r w' ⟨h1, h2, h3⟩ => ⟨h1, ⟨wo, h2.more (by omega), hG.more (by omega)⟩, h3⟩
  · obtain ⟨k, hk⟩ : ∃ k : Nat, (k : Int) = wh % (wo.air.length : Int) := ⟨(wh % (wo.air.length : Int)).toNat, Int.toNat_of_nonneg (Int.emod_nonneg _ (by omega))⟩
    have hlt : k < wo.air.length := by have := Int.emod_lt_of_pos wh (b := (wo.air.length : Int)) (by omega); omega
    obtain ⟨⟨p, f⟩, hp⟩ : ∃ x, wo.air[k]? = some x := ⟨_, List.getElem?_eq_getElem hlt⟩
    have ga := hG.air
    cases f
    · have G := good_recv_a (good_less hG k) p (hG.pak_f hp)
      have T : (wo.t0 ++ (recvS wo.sa p).inn).length + _ ≤ n := G.t_le.2
      rw [List.length_append] at T
      exact (hand_3f w0 w g a b kk wo hW hc0 hK wh o Y m e ga k hk p hp (by omega) (by omega)).mono fun r w' ⟨h1, h2, h3⟩ => ⟨h1, ⟨_, h2, G.more (by omega)⟩, h3⟩
    · have G := good_recv_b (good_less hG k) p (hG.pak_t hp)
      have T : (wo.t1 ++ (recvS wo.sb p).inn).length + _ ≤ n := G.t_le.1
      rw [List.length_append] at T
      exact (hand_3t w0 w g a b kk wo hW hc0 hK wh o Y m e ga k hk p hp (by omega) (by omega)).mono fun r w' ⟨h1, h2, h3⟩ => ⟨h1, ⟨_, h2, G.more (by omega)⟩, h3⟩

set_option maxHeartbeats 4000000 in
theorem hand_any_4 (w0 w : World) (g a b kk n : Nat) (wo : WoT) (hW : WL w0.heap.size w g a b kk wo) (hc0 : Chg [] w0 w) (hK : kk ≤ 400000) (hG : Good wo n) (hn : n ≤ 900000) (wh : Int) (o : Bool) (Y : Option Addr) (m e : Nat) :
    Calls Try.prog 46 #[.pointer (some ⟨g, 0, none⟩), .agg #[.int .i64 4, .int .i64 wh, .bool o, .slice Y m e]] w fun r w' => r = .returned (.tuple #[]) ∧ (∃ wo', WL w0.heap.size w' g a b (kk + 4) wo' ∧ Good wo' (n + 1)) ∧ Chg [] w0 w' := by
  by_cases h0 : wo.air.length = 0
  · exact (hand_none 4 o w0 w g a b kk wo hW hc0 hK wh Y m e h0).mono fun r w' ⟨h1, h2, h3⟩ => ⟨h1, ⟨wo, h2.more (by omega), hG.more (by omega)⟩, h3⟩
  · obtain ⟨k, hk⟩ : ∃ k : Nat, (k : Int) = wh % (wo.air.length : Int) := ⟨(wh % (wo.air.length : Int)).toNat, Int.toNat_of_nonneg (Int.emod_nonneg _ (by omega))⟩
    have hlt : k < wo.air.length := by have := Int.emod_lt_of_pos wh (b := (wo.air.length : Int)) (by omega); omega
    obtain ⟨⟨p, f⟩, hp⟩ : ∃ x, wo.air[k]? = some x := ⟨_, List.getElem?_eq_getElem hlt⟩
    have ga := hG.air
    cases f
    · have G := good_recv_a hG p (hG.pak_f hp)
      have T : (wo.t0 ++ (recvS wo.sa p).inn).length + _ ≤ n := G.t_le.2
      rw [List.length_append] at T
      exact (hand_4f w0 w g a b kk wo hW hc0 hK wh o Y m e ga k hk p hp (by omega) (by omega)).mono fun r w' ⟨h1, h2, h3⟩ => ⟨h1, ⟨_, h2, G.more (by omega)⟩, h3⟩
    · have G := good_recv_b hG p (hG.pak_t hp)
      have T : (wo.t1 ++ (recvS wo.sb p).inn).length + _ ≤ n := G.t_le.1
      rw [List.length_append] at T
      exact (hand_4t w0 w g a b kk wo hW hc0 hK wh o Y m e ga k hk p hp (by omega) (by omega)).mono fun r w' ⟨h1, h2, h3⟩ => ⟨h1, ⟨_, h2, G.more (by omega)⟩, h3⟩

set_option maxHeartbeats 4000000 in
theorem hand_any_5 (w0 w : World) (g a b kk n : Nat) (wo : WoT) (hW : WL w0.heap.size w g a b kk wo) (hc0 : Chg [] w0 w) (hK : kk ≤ 400000) (hG : Good wo n) (hn : n ≤ 900000) (wh : Int) (o : Bool) (Y : Option Addr) (m e : Nat) :
    Calls Try.prog 46 #[.pointer (some ⟨g, 0, none⟩), .agg #[.int .i64 5, .int .i64 wh, .bool o, .slice Y m e]] w fun r w' => r = .returned (.tuple #[]) ∧ (∃ wo', WL w0.heap.size w' g a b (kk + 4) wo' ∧ Good wo' (n + 1)) ∧ Chg [] w0 w' := by
  by_cases h0 : wo.air.length = 0
  · exact (hand_none 5 o w0 w g a b kk wo hW hc0 hK wh Y m e h0).mono fun r w' ⟨h1, h2, h3⟩ => ⟨h1, ⟨wo, h2.more (by omega), hG.more (by omega)⟩, h3⟩
  · obtain ⟨k, hk⟩ : ∃ k : Nat, (k : Int) = wh % (wo.air.length : Int) := ⟨(wh % (wo.air.length : Int)).toNat, Int.toNat_of_nonneg (Int.emod_nonneg _ (by omega))⟩
    have hlt : k < wo.air.length := by have := Int.emod_lt_of_pos wh (b := (wo.air.length : Int)) (by omega); omega
    obtain ⟨⟨p, f⟩, hp⟩ : ∃ x, wo.air[k]? = some x := ⟨_, List.getElem?_eq_getElem hlt⟩
    have ga := hG.air
    cases f
    · have G := good_take_a (good_less hG k)
      have T : (wo.t0 ++ wo.sa.inn).length + _ ≤ n := G.t_le.2
      rw [List.length_append] at T
      exact (hand_5f w0 w g a b kk wo hW hc0 hK wh o Y m e ga k hk p hp (by omega) (by omega)).mono fun r w' ⟨h1, h2, h3⟩ => ⟨h1, ⟨_, h2, G.more (by omega)⟩, h3⟩
    · have G := good_take_b (good_less hG k)
      have T : (wo.t1 ++ wo.sb.inn).length + _ ≤ n := G.t_le.1
      rw [List.length_append] at T
      exact (hand_5t w0 w g a b kk wo hW hc0 hK wh o Y m e ga k hk p hp (by omega) (by omega)).mono fun r w' ⟨h1, h2, h3⟩ => ⟨h1, ⟨_, h2, G.more (by omega)⟩, h3⟩

set_option maxHeartbeats 4000000 in
theorem lawturn_any (w0 w : World) (g a b kk n : Nat) (wo : WoT) (hW : WL w0.heap.size w g a b kk wo) (hc0 : Chg [] w0 w) (hK : kk ≤ 400000) (hG : Good wo n) (hn : n ≤ 900000) (wh : Int) (o : Bool) (Y : Option Addr) (m e : Nat) (kd : Int) (ys : List UInt8) (hy : Bs w Y m ys) (hyl : ys = [] ∨ ∀ x, Y = some x → x.block < w0.heap.size) (hm : m ≤ 140737488351232) :
    Calls Try.prog 22 #[.pointer (some ⟨g, 0, none⟩), .agg #[.int .i64 kd, .int .i64 wh, .bool o, .slice Y m e]] w fun r w' => r = .returned (.tuple #[]) ∧ (∃ wo', WL w0.heap.size w' g a b (kk + 4) wo' ∧ Good wo' (n + 1)) ∧ Chg [] w0 w' := by
  have l0 := hG.l0
  have l1 := hG.l1
  by_cases k0 : kd = 0
  · subst k0
    cases o
    · by_cases he : sendE wo.sa ys = 0
      · exact (turn_send_ok_a w0 w g a b kk wo hW hc0 hK wh Y m e ys hy hyl hm (by omega) he).mono fun r w' ⟨h1, h2, h3⟩ => ⟨h1, ⟨_, h2.more (by omega), good_send_ok_a hG ys he⟩, h3⟩
      · exact (turn_send_no_a w0 w g a b kk wo hW hc0 hK wh Y m e ys hy hyl hm (by omega) he).mono fun r w' ⟨h1, h2, h3⟩ => ⟨h1, ⟨_, h2.more (by omega), (good_send_no_a hG ys he).more (by omega)⟩, h3⟩
    · by_cases he : sendE wo.sb ys = 0
      · exact (turn_send_ok_b w0 w g a b kk wo hW hc0 hK wh Y m e ys hy hyl hm (by omega) he).mono fun r w' ⟨h1, h2, h3⟩ => ⟨h1, ⟨_, h2.more (by omega), good_send_ok_b hG ys he⟩, h3⟩
      · exact (turn_send_no_b w0 w g a b kk wo hW hc0 hK wh Y m e ys hy hyl hm (by omega) he).mono fun r w' ⟨h1, h2, h3⟩ => ⟨h1, ⟨_, h2.more (by omega), (good_send_no_b hG ys he).more (by omega)⟩, h3⟩
  by_cases k1 : kd = 1
  · subst k1
    cases o
    · exact (turn_tick_a w0 w g a b kk wo hW hc0 hK wh Y m e).mono fun r w' ⟨h1, h2, h3⟩ => ⟨h1, ⟨_, h2.more (by omega), (good_tick_a hG).more (by omega)⟩, h3⟩
    · exact (turn_tick_b w0 w g a b kk wo hW hc0 hK wh Y m e).mono fun r w' ⟨h1, h2, h3⟩ => ⟨h1, ⟨_, h2.more (by omega), (good_tick_b hG).more (by omega)⟩, h3⟩
  by_cases k2 : kd = 2
  · subst k2
    cases o
    · exact (turn_out_a w0 w g a b kk wo hW hc0 hK wh Y m e hG.air).mono fun r w' ⟨h1, j, h2, h3, h4⟩ => ⟨h1, ⟨_, h2.more (by omega), (good_out_a hG h3).more (by omega)⟩, h4⟩
    · exact (turn_out_b w0 w g a b kk wo hW hc0 hK wh Y m e hG.air).mono fun r w' ⟨h1, j, h2, h3, h4⟩ => ⟨h1, ⟨_, h2.more (by omega), (good_out_b hG h3).more (by omega)⟩, h4⟩
  by_cases k3 : kd = 3
  · subst k3
    cases o
    · exact turn_hand_3f w0 w g a b kk wo hW hc0 hK wh Y m e (fun w' hw' hc' => hand_any_3 w0 w' g a b kk n wo hw' hc' hK hG hn wh false Y m e)
    · exact turn_hand_3t w0 w g a b kk wo hW hc0 hK wh Y m e (fun w' hw' hc' => hand_any_3 w0 w' g a b kk n wo hw' hc' hK hG hn wh true Y m e)
  by_cases k4 : kd = 4
  · subst k4
    cases o
    · exact turn_hand_4f w0 w g a b kk wo hW hc0 hK wh Y m e (fun w' hw' hc' => hand_any_4 w0 w' g a b kk n wo hw' hc' hK hG hn wh false Y m e)
    · exact turn_hand_4t w0 w g a b kk wo hW hc0 hK wh Y m e (fun w' hw' hc' => hand_any_4 w0 w' g a b kk n wo hw' hc' hK hG hn wh true Y m e)
  by_cases k5 : kd = 5
  · subst k5
    cases o
    · exact turn_hand_5f w0 w g a b kk wo hW hc0 hK wh Y m e (fun w' hw' hc' => hand_any_5 w0 w' g a b kk n wo hw' hc' hK hG hn wh false Y m e)
    · exact turn_hand_5t w0 w g a b kk wo hW hc0 hK wh Y m e (fun w' hw' hc' => hand_any_5 w0 w' g a b kk n wo hw' hc' hK hG hn wh true Y m e)
  cases o
  · exact (turn_none_f kd w0 w g a b kk wo hW hc0 hK wh Y m e ⟨k0, k1, k2, k3, k4, k5⟩).mono fun r w' ⟨h1, h2, h3⟩ => ⟨h1, ⟨_, h2.more (by omega), hG.more (by omega)⟩, h3⟩
  · exact (turn_none_t kd w0 w g a b kk wo hW hc0 hK wh Y m e ⟨k0, k1, k2, k3, k4, k5⟩).mono fun r w' ⟨h1, h2, h3⟩ => ⟨h1, ⟨_, h2.more (by omega), hG.more (by omega)⟩, h3⟩
end
end Go.Proofs.Ytmblalcigbghfaa
