/- The document's number, read: where digits follow, or none. -/
import Derived.Test.YtelbahfmkpncaaaUn
namespace Go.Proofs.Ytelbahfmkpncaaa
open Go.RowKit

theorem dv_head (xs : List UInt8) (p : Nat) : ∀ k, p + 1 + (k + 1) ≤ xs.length → bt xs (p + 1) * 256 ^ k ≤ dv xs p (k + 1) ∧ dv xs p (k + 1) < (bt xs (p + 1) + 1) * 256 ^ k
  | 0, h => by
    have := dv_succ xs p 0 (by omega)
    rw [dv_zero, Nat.add_zero] at this
    rw [this, Nat.add_zero]
    omega
  | k + 1, h => by
    have ih := dv_head xs p k (by omega)
    have e := dv_succ xs p (k + 1) (by omega)
    have hb := bt_lt xs (p + 1 + (k + 1))
    rw [e, Nat.pow_succ, ← Nat.mul_assoc, ← Nat.mul_assoc]
    omega
theorem dv_big (xs : List UInt8) (p : Nat) (h : p + 1 + 8 ≤ xs.length) : 4611686018427387903 < dv xs p 8 ↔ 63 < bt xs (p + 1) := by
  have := dv_head xs p 7 h
  have e : 256 ^ 7 = 72057594037927936 := by decide
  rw [e, show (7 + 1 : Nat) = 8 from rfl] at this
  omega
theorem dv_small (xs : List UInt8) (p n : Nat) (h : p + 1 + n ≤ xs.length) (hn : n < 8) : dv xs p n ≤ 4611686018427387903 := by
  have h1 := dv_lt xs p n h
  have h2 : 256 ^ n ≤ 256 ^ 7 := Nat.pow_le_pow_right (by omega) (by omega)
  have e : 256 ^ 7 = 72057594037927936 := by decide
  omega
theorem dv_mono (xs : List UInt8) (p : Nat) : ∀ n j, j ≤ n → p + 1 + n ≤ xs.length → dv xs p j ≤ dv xs p n
  | 0, j, hj, _ => by
    obtain rfl : j = 0 := by omega
    exact Nat.le_refl _
  | n + 1, j, hj, h => by
    by_cases e : j = n + 1
    · subst e; exact Nat.le_refl _
    · have ih := dv_mono xs p n j (by omega) (by omega)
      have := dv_succ xs p n (by omega)
      omega

theorem URdr.step {w : World} {v : Nat} {A : Option Addr} {c : Nat} {xs : List UInt8} {p : Nat} {fe fa : Int} (h : URdr w v A c xs p fe fa) (n q : Nat) :
    URdr ((w.drewN n).setCell ⟨v, 1, none⟩ (.int .i64 q)) v A c xs q fe fa ∧ Chg [v] w ((w.drewN n).setCell ⟨v, 1, none⟩ (.int .i64 q)) :=
  ⟨((h.drewN n).place q).1, ((Chg.refl _ _).drewN n).trans ((h.drewN n).place q).2⟩

set_option maxHeartbeats 400000 in
theorem unum_big (w : World) (v : Nat) (A : Option Addr) (c : Nat) (xs : List UInt8) (p : Nat) (fa low high : Int) (h : URdr w v A c xs p 0 fa) (hl : xs.length ≤ 140737488351232) (h8 : bt xs p = 8) (hs : p + 1 + 8 ≤ xs.length) (hz : 63 < bt xs (p + 1)) :
    Calls Try.prog 47 #[.pointer (some ⟨v, 0, none⟩), .int .i64 low, .int .i64 high] w (UNumPost w v A c xs (0, p, 5, p)) := by
  obtain ⟨k0, k1, k2, k3, f⟩ := h.cells
  have H := Lib.hid h
  obtain ⟨g, o, rfl, hc⟩ := h.2.1.from (by omega)
  have hcp : w.cell? ⟨g, o + p, none⟩ = some (.int .u8 (bt xs p : Int)) := hc p (by omega)
  rw [h8] at hcp
  have hcz : w.cell? ⟨g, o + (p + 1), none⟩ = some (.int .u8 (bt xs (p + 1) : Int)) := hc (p + 1) (by omega)
  have hz0 : ((bt xs (p + 1) : Int) == 0) = false := by simp only [beq_eq_false_iff_ne, ne_eq]; omega
  have hbb := bt_lt xs (p + 1)
  clear h f hc
  go_enter Try.func47, Try.ntmps47
  go_wp2
  iterate 5 (go_quiet (fail); go_wp2_with fail)
  refine (ufail_any _ v _ c xs _ fa 5 p (H.out.drewN _)).mono ?_
  rintro r w1 ⟨rfl, hR, hC⟩
  go_wp2
  go_ret
  exact ⟨rfl, hR, ((Chg.refl _ _).drewN _).trans hC⟩

set_option maxRecDepth 20000 in
set_option maxHeartbeats 400000 in
theorem unum_none (w : World) (v : Nat) (A : Option Addr) (c : Nat) (xs : List UInt8) (p : Nat) (fa low high : Int) (h : URdr w v A c xs p 0 fa) (hp : p < xs.length) (hl : xs.length ≤ 140737488351232) (h8 : bt xs p = 0) :
    Calls Try.prog 47 #[.pointer (some ⟨v, 0, none⟩), .int .i64 low, .int .i64 high] w (UNumPost w v A c xs (if 0 < low ∨ high < 0 then (0, p, 5, p) else (0, p + 1, 0, fa))) := by
  obtain ⟨k0, k1, k2, k3, f⟩ := h.cells
  have f1 := f 1
  have H := Lib.hid h
  obtain ⟨g, o, rfl, hc⟩ := h.2.1.from (by omega)
  have hcp : w.cell? ⟨g, o + p, none⟩ = some (.int .u8 (bt xs p : Int)) := hc p (by omega)
  rw [h8] at hcp
  clear h f hc
  by_cases hr : 0 < low ∨ high < 0
  · rw [if_pos hr]
    have hr' : 0 < low ∨ low ≤ 0 ∧ high < 0 := by omega
    clear hr
    rcases hr' with hr | ⟨hr, hr2⟩
    all_goals
      go_enter Try.func47, Try.ntmps47
      go_wp2
      iterate 5 (go_quiet (fail); go_wp2)
      refine wp_loop_rounds 1 ?_
      rw [rounds_succ]
      go_wp2_with fail
      refine (ufail_any _ v _ c xs _ fa 5 p (H.out.drewN _)).mono ?_
      rintro r w1 ⟨rfl, hR, hC⟩
      go_wp2
      go_ret
      exact ⟨rfl, hR, ((Chg.refl _ _).drewN _).trans hC⟩
  · rw [if_neg hr]
    have hr1 : low ≤ 0 := by omega
    have hr2 : 0 ≤ high := by omega
    clear hr
    go_enter Try.func47, Try.ntmps47
    go_wp2
    iterate 5 (go_quiet (fail); go_wp2)
    refine wp_loop_rounds 1 ?_
    rw [rounds_succ]
    go_wp2
    go_ret
    exact ⟨rfl, H.out.step _ (p + 1)⟩

set_option maxRecDepth 20000 in
set_option maxHeartbeats 1000000 in
theorem unum_digits (w : World) (v : Nat) (A : Option Addr) (c : Nat) (xs : List UInt8) (p : Nat) (fa low high : Int) (h : URdr w v A c xs p 0 fa) (hl : xs.length ≤ 140737488351232) (h0 : 0 < bt xs p) (h8 : bt xs p ≤ 8) (hs : p + 1 + bt xs p ≤ xs.length) (hz : bt xs (p + 1) ≠ 0) (hv : dv xs p (bt xs p) ≤ 4611686018427387903) :
    Calls Try.prog 47 #[.pointer (some ⟨v, 0, none⟩), .int .i64 low, .int .i64 high] w (UNumPost w v A c xs (if (dv xs p (bt xs p) : Int) < low ∨ high < (dv xs p (bt xs p) : Int) then (0, p, 5, p) else (dv xs p (bt xs p), p + 1 + bt xs p, 0, fa))) := by
  obtain ⟨k0, k1, k2, k3, f⟩ := h.cells
  have f1 := f 1
  have H := Lib.hid h
  obtain ⟨g, o, rfl, hc⟩ := h.2.1.from (by omega)
  have hcp : w.cell? ⟨g, o + p, none⟩ = some (.int .u8 (bt xs p : Int)) := hc p (by omega)
  have hcz : w.cell? ⟨g, o + (p + 1), none⟩ = some (.int .u8 (bt xs (p + 1) : Int)) := hc (p + 1) (by omega)
  have hcell : ∀ j, p + 1 + j < xs.length → w.cell? ⟨g, o + (p + 1 + j), none⟩ = some (.int .u8 (bt xs (p + 1 + j) : Int)) := fun j hj => hc (p + 1 + j) hj
  have hm : ∀ j, j ≤ bt xs p → dv xs p j ≤ 4611686018427387903 := fun j hj => Nat.le_trans (dv_mono xs p _ j hj (by omega)) hv
  have Hc := Lib.hid hcell
  have Hm := Lib.hid hm
  have hz0 : ((bt xs (p + 1) : Int) == 0) = false := by simp only [beq_eq_false_iff_ne, ne_eq]; omega
  have hbb := bt_lt xs (p + 1)
  have h63 : bt xs p < 8 ∨ bt xs p = 8 ∧ bt xs (p + 1) ≤ 63 := by
    by_cases e : bt xs p < 8
    · exact .inl e
    · have e8 : bt xs p = 8 := by omega
      have := dv_big xs p (by omega)
      rw [e8] at hv
      exact .inr ⟨e8, by omega⟩
  clear h f hc hcell hm hv hz
  generalize hR : (if (dv xs p (bt xs p) : Int) < low ∨ high < (dv xs p (bt xs p) : Int) then ((0 : Int), p, (5 : Int), (p : Int)) else ((dv xs p (bt xs p) : Int), p + 1 + bt xs p, 0, fa)) = R
  generalize hn : bt xs p = n at *
  have HR := Lib.hid hR
  clear hR
  have HN := Lib.hid hn
  clear hn
  rcases h63 with h63 | ⟨hn8, h63⟩
  all_goals
    first
    | (have h88 : ((n : Int) == 8) = true := by (subst hn8; rfl)); clear hn8
    | (have h88 : ((n : Int) == 8) = false := by (simp only [beq_eq_false_iff_ne, ne_eq]; omega)); clear h63
    go_enter Try.func47, Try.ntmps47
    go_wp2
    iterate 5 (go_quiet (fail); go_wp2)
    go_loopw [8, 9] (fun x i wr => ∃ j k : Nat, j ≤ n ∧ i = .int .i64 j ∧ x = .int .i64 (dv xs p j) ∧ wr = w.drewN k) (fun _ i _ => n - (intOf i).toNat)
    case atStart => exact ⟨0, _, by omega, rfl, by rw [dv_zero]; rfl, by simp only [World.drewN_drewN]; exact rfl⟩
    case round =>
      obtain ⟨j, k, hj, rfl, rfl, rfl⟩ := hrel
      clear hcz hz0 hbb h88
      by_cases hlt : j < n
      · have hcj := Hc.out j (by omega)
        have hbj := Hm.out (j + 1) (by omega)
        rw [dv_succ xs p j (by omega)] at hbj
        have hbb2 := bt_lt xs (p + 1 + j)
        go_wp2
        go_quiet (fail)
        go_wp2
        exact ⟨⟨j + 1, _, by omega, by go_num, by rw [dv_succ xs p j (by omega)]; go_num, rfl⟩, by simp [intOf]; omega⟩
      · obtain rfl : j = n := by omega
        have hb := Hm.out j (by omega)
        have hR := HR.out
        by_cases hlo : (dv xs p j : Int) < low
        · rw [if_pos (.inl hlo)] at hR
          subst hR
          go_wp2_with fail
          refine (ufail_any _ v _ c xs _ fa 5 p (H.out.drewN _)).mono ?_
          rintro r w1 ⟨rfl, hR, hC⟩
          go_wp2
          go_ret
          exact ⟨rfl, hR, ((Chg.refl _ _).drewN _).trans hC⟩
        · by_cases hhi : high < (dv xs p j : Int)
          · rw [if_pos (.inr hhi)] at hR
            subst hR
            go_wp2_with fail
            refine (ufail_any _ v _ c xs _ fa 5 p (H.out.drewN _)).mono ?_
            rintro r w1 ⟨rfl, hR, hC⟩
            go_wp2
            go_ret
            exact ⟨rfl, hR, ((Chg.refl _ _).drewN _).trans hC⟩
          · rw [if_neg (by omega)] at hR
            subst hR
            go_wp2
            go_ret
            exact ⟨rfl, H.out.step _ (p + 1 + j)⟩

/-- Num of the document's reader, whatever came ahead. -/
theorem unum_any (w : World) (v : Nat) (A : Option Addr) (c : Nat) (xs : List UInt8) (p : Nat) (fe fa low high : Int) (h : URdr w v A c xs p fe fa) (hp : p ≤ xs.length) (hl : xs.length ≤ 140737488351232) :
    Calls Try.prog 47 #[.pointer (some ⟨v, 0, none⟩), .int .i64 low, .int .i64 high] w (UNumPost w v A c xs (rNum xs p fe fa low high)) := by
  unfold rNum
  by_cases he : fe = 0
  · subst he
    simp only [ne_eq, not_true_eq_false, if_false]
    by_cases h1 : p = xs.length
    · subst h1
      simp only [numAt, if_pos]
      exact unum_end w v A c xs fa low high h
    have hlt : p < xs.length := by omega
    by_cases h2 : 8 < bt xs p
    · simp only [numAt, if_neg h1, if_pos h2]
      exact unum_arg w v A c xs p fa low high h hlt hl h2
    by_cases h3 : xs.length - (p + 1) < bt xs p
    · simp only [numAt, if_neg h1, if_neg h2, if_pos h3]
      exact unum_short w v A c xs p fa low high h hlt hl (by omega) h3
    by_cases h4 : 0 < bt xs p ∧ bt xs (p + 1) = 0
    · simp only [numAt, if_neg h1, if_neg h2, if_neg h3, if_pos h4]
      exact unum_zero w v A c xs p fa low high h hlt hl (by omega) (by omega) h4.1 h4.2
    simp only [numAt, if_neg h1, if_neg h2, if_neg h3, if_neg h4]
    by_cases h6 : bt xs p = 0
    · have := unum_none w v A c xs p fa low high h hlt hl h6
      rw [h6, dv_zero]
      by_cases hr : 0 < low ∨ high < 0
      · rw [if_pos hr] at this
        rw [if_pos (by omega)]
        exact this
      · rw [if_neg hr] at this
        rw [if_neg (by omega)]
        exact this
    · by_cases h7 : 4611686018427387903 < dv xs p (bt xs p)
      · rw [if_pos (.inl h7)]
        have h8 : bt xs p = 8 := by
          by_cases e : bt xs p < 8
          · have := dv_small xs p (bt xs p) (by omega) e
            omega
          · omega
        rw [h8] at h7
        exact unum_big w v A c xs p fa low high h hl h8 (by omega) ((dv_big xs p (by omega)).1 h7)
      · have := unum_digits w v A c xs p fa low high h hl (by omega) (by omega) (by omega) (by omega) (by omega)
        by_cases hr : (dv xs p (bt xs p) : Int) < low ∨ high < (dv xs p (bt xs p) : Int)
        · rw [if_pos hr] at this
          rw [if_pos (.inr hr)]
          exact this
        · rw [if_neg hr] at this
          rw [if_neg (by omega)]
          exact this
  · simp only [ne_eq, he, not_false_eq_true, if_true]
    exact unum_no w v A c xs p fe fa low high h he
end Go.Proofs.Ytelbahfmkpncaaa
