/- The document's reader: Open, fail, Left, End, and Num. The document's number, read. The document's number, read: where digits follow, or none. The document's reader: Raw and Text. The document's writer and reader, made since a world w. The document's Read. -/
import Derived.Test.YtgafkaigkaghcaaGreatDoorZead
import Derived.Deep.RegionHeld3
import Derived.Deep.AppendLies
import Derived.Test.YtgafkaigkaghcaaGreatDoorZeag
import Derived.Deep.Cut
namespace Go.Proofs.YtgafkaigkaghcaaGreatDoor
section
open Go.RowKit

/-- The document's reader at block v, of the bytes at A. -/
def URdr (w : World) (v : Nat) (A : Option Addr) (c : Nat) (xs : List UInt8) (p : Nat) (fe fa : Int) : Prop :=
  w.heap[v]? = some (.cells #[.slice A xs.length c, .int .i64 p, .int .i64 fe, .int .i64 fa] 113 (0, 0)) ∧ Bs w A xs.length xs ∧ (xs = [] ∨ ∀ a, A = some a → a.block ≠ v) ∧ xs.length ≤ c ∧ c ≤ 9223372036854775807

theorem URdr.chg {S : List Nat} {w w' : World} {v : Nat} {A : Option Addr} {c : Nat} {xs : List UInt8} {p : Nat} {fe fa : Int} (h : URdr w v A c xs p fe fa) (hc : Chg S w w') (hv : v ∉ S) (hA : xs = [] ∨ ∀ a, A = some a → a.block ∉ S) : URdr w' v A c xs p fe fa := by
  obtain ⟨h1, h2, h3⟩ := h
  refine ⟨hc.at_ h1 hv, ?_, h3⟩
  rcases hA with rfl | hA
  · exact Bs.nil _ _
  · exact h2.chg hc hA
theorem URdr.cells {w : World} {v : Nat} {A : Option Addr} {c : Nat} {xs : List UInt8} {p : Nat} {fe fa : Int} (h : URdr w v A c xs p fe fa) :
    w.cell? ⟨v, 0, none⟩ = some (.slice A xs.length c) ∧ w.cell? ⟨v, 1, none⟩ = some (.int .i64 p) ∧ w.cell? ⟨v, 2, none⟩ = some (.int .i64 fe) ∧ w.cell? ⟨v, 3, none⟩ = some (.int .i64 fa) ∧ ∀ j, w.frozen? ⟨v, j, none⟩ = false :=
  ⟨cell_of h.1 0, cell_of h.1 1, cell_of h.1 2, cell_of h.1 3, fun j => free_of h.1 j⟩
theorem URdr.set {w : World} {v : Nat} {A : Option Addr} {c : Nat} {xs : List UInt8} {p : Nat} {fe fa : Int} (h : URdr w v A c xs p fe fa) (e q : Int) :
    URdr ((w.setCell ⟨v, 2, none⟩ (.int .i64 e)).setCell ⟨v, 3, none⟩ (.int .i64 q)) v A c xs p e q ∧ Chg [v] w ((w.setCell ⟨v, 2, none⟩ (.int .i64 e)).setCell ⟨v, 3, none⟩ (.int .i64 q)) := by
  have q1 := heap_setCell_same w v 2 _ _ (.int .i64 e) h.1
  have q2 := heap_setCell_same _ v 3 _ _ (.int .i64 q) q1
  have hc : Chg [v] w ((w.setCell ⟨v, 2, none⟩ (.int .i64 e)).setCell ⟨v, 3, none⟩ (.int .i64 q)) := ((Chg.refl _ _).setCell (by simp) _).setCell (by simp) _
  refine ⟨⟨by simpa using q2, ?_, h.2.2⟩, hc⟩
  rcases h.2.2.1 with h3 | h3
  · subst h3; exact Bs.nil _ _
  · exact h.2.1.chg hc (fun a e => by simpa using h3 a e)
theorem URdr.place {w : World} {v : Nat} {A : Option Addr} {c : Nat} {xs : List UInt8} {p : Nat} {fe fa : Int} (h : URdr w v A c xs p fe fa) (q : Nat) :
    URdr (w.setCell ⟨v, 1, none⟩ (.int .i64 q)) v A c xs q fe fa ∧ Chg [v] w (w.setCell ⟨v, 1, none⟩ (.int .i64 q)) := by
  have q1 := heap_setCell_same w v 1 _ _ (.int .i64 q) h.1
  have hc : Chg [v] w (w.setCell ⟨v, 1, none⟩ (.int .i64 q)) := (Chg.refl _ _).setCell (by simp) _
  refine ⟨⟨by simpa using q1, ?_, h.2.2⟩, hc⟩
  rcases h.2.2.1 with h3 | h3
  · subst h3; exact Bs.nil _ _
  · exact h.2.1.chg hc (fun a e => by simpa using h3 a e)
theorem URdr.drewN {w : World} {v : Nat} {A : Option Addr} {c : Nat} {xs : List UInt8} {p : Nat} {fe fa : Int} (h : URdr w v A c xs p fe fa) (n : Nat) : URdr (w.drewN n) v A c xs p fe fa := h.chg ((Chg.refl [] w).drewN n) (by simp) (.inr (by simp))
/-- Where the bytes lie. -/
theorem Bs.from {w : World} {A : Option Addr} {n : Nat} {xs : List UInt8} (h : Bs w A n xs) (h0 : 0 < xs.length) : ∃ g o, A = some ⟨g, o, none⟩ ∧ ∀ j, j < xs.length → w.cell? ⟨g, o + j, none⟩ = some (.int .u8 ((xs.getD j 0).toNat : Int)) := by
  obtain ⟨a, rfl, hc⟩ := h.cells 0 _ (List.getElem?_eq_getElem h0)
  have hsp := World.cell?_spot hc
  obtain ⟨g, o, sp⟩ := a
  have hsp : sp = none := by simpa [Addr.add] using hsp
  subst hsp
  refine ⟨g, o, rfl, fun j hj => ?_⟩
  obtain ⟨a', e, hcj⟩ := h.cells j _ (List.getElem?_eq_getElem hj)
  cases e
  rw [add_lit] at hcj
  rw [hcj]
  simp [bv, List.getD, hj]

set_option maxHeartbeats 400000 in
theorem vopen_any (w : World) (A : Option Addr) (c : Nat) (xs : List UInt8) (h : Bs w A xs.length xs) (hc1 : xs.length ≤ c) (hc2 : c ≤ 9223372036854775807) :
    Calls Tryz.prog 53 #[.slice A xs.length c] w fun r w' => r = .returned (.pointer (some ⟨w.heap.size, 0, none⟩)) ∧ URdr w' w.heap.size A c xs 0 0 0 ∧ Chg [] w w' := by
  have hold := h.old
  have HO := Lib.hid hold
  clear hold
  go_enter Tryz.func53, Tryz.ntmps53
  go_wp2
  go_ret
  refine ⟨rfl, ⟨heap_alloc_new w _, h.chg ((Chg.refl [] w).alloc _) (by simp), ?_, hc1, hc2⟩, (Chg.refl _ _).alloc _⟩
  rcases HO.out with h1 | h1
  · exact .inl h1
  · exact .inr fun a e => by have := h1 a e; omega

set_option maxHeartbeats 400000 in
theorem ufail_any (w : World) (v : Nat) (A : Option Addr) (c : Nat) (xs : List UInt8) (p : Nat) (fa e q : Int) (h : URdr w v A c xs p 0 fa) :
    Calls Tryz.prog 83 #[.pointer (some ⟨v, 0, none⟩), .int .i64 e, .int .i64 q] w fun r w' => r = .returned (.int .i64 0) ∧ URdr w' v A c xs p e q ∧ Chg [v] w w' := by
  obtain ⟨k0, k1, k2, k3, f⟩ := h.cells
  have f2 := f 2
  have f3 := f 3
  have H := Lib.hid h
  clear h f
  go_enter Tryz.func83, Tryz.ntmps83
  go_wp2
  go_ret
  exact ⟨rfl, H.out.set e q⟩

/-- The fault that End tells. -/
def endF (xs : List UInt8) (p : Nat) (fe fa : Int) : Int × Int := if fe = 0 ∧ p < xs.length then (4, p) else (fe, fa)

set_option maxHeartbeats 400000 in
theorem uend_any (w : World) (v : Nat) (A : Option Addr) (c : Nat) (xs : List UInt8) (p : Nat) (fe fa : Int) (h : URdr w v A c xs p fe fa) :
    Calls Tryz.prog 56 #[.pointer (some ⟨v, 0, none⟩)] w fun r w' => r = .returned (.agg #[.int .i64 (endF xs p fe fa).1, .int .i64 (endF xs p fe fa).2]) ∧ Chg [] w w' := by
  have hv := lt_of_heap h.1
  obtain ⟨k0, k1, k2, k3, f⟩ := h.cells
  clear h f
  unfold endF
  by_cases he : fe = 0
  · subst he
    by_cases hpl : p < xs.length
    · simp only [true_and, if_pos hpl]
      go_enter Tryz.func56, Tryz.ntmps56
      go_wp2
      go_quiet (fail)
      go_wp2
      refine bodyPost_ret (v := .agg #[.int .i64 4, .int .i64 p]) (by simp [results, Tryz.results56, go_sem]) rfl ?_
      exact ⟨rfl, ((((Chg.refl _ _).alloc _).drewN _).setCell (.inr (Nat.le_refl _)) _).setCell (.inr (Nat.le_refl _)) _⟩
    · simp only [true_and, if_neg hpl]
      go_enter Tryz.func56, Tryz.ntmps56
      go_wp2
      go_quiet (fail)
      go_wp2
      refine bodyPost_ret (v := .agg #[.int .i64 0, .int .i64 fa]) (by simp [results, Tryz.results56, go_sem]) rfl ?_
      exact ⟨rfl, ((((Chg.refl _ _).alloc _).drewN _).setCell (.inr (Nat.le_refl _)) _).setCell (.inr (Nat.le_refl _)) _⟩
  · simp only [he, false_and, if_false]
    have he' : (fe == 0) = false := by simpa using he
    clear he
    go_enter Tryz.func56, Tryz.ntmps56
    go_wp2
    go_quiet (fail)
    go_wp2
    refine bodyPost_ret (v := .agg #[.int .i64 fe, .int .i64 fa]) (by simp [results, Tryz.results56, go_sem]) rfl ?_
    exact ⟨rfl, ((((Chg.refl _ _).alloc _).drewN _).setCell (.inr (Nat.le_refl _)) _).setCell (.inr (Nat.le_refl _)) _⟩
end
section
open Go.RowKit

/-- What Num of the document's reader leaves. -/
def UNumPost (w : World) (v : Nat) (A : Option Addr) (c : Nat) (xs : List UInt8) (r : Int × Nat × Int × Int) (e : Ending) (w' : World) : Prop :=
  e = .returned (.int .i64 r.1) ∧ URdr w' v A c xs r.2.1 r.2.2.1 r.2.2.2 ∧ Chg [v] w w'

set_option maxHeartbeats 400000 in
theorem unum_no (w : World) (v : Nat) (A : Option Addr) (c : Nat) (xs : List UInt8) (p : Nat) (fe fa low high : Int) (h : URdr w v A c xs p fe fa) (he : fe ≠ 0) :
    Calls Tryz.prog 54 #[.pointer (some ⟨v, 0, none⟩), .int .i64 low, .int .i64 high] w (UNumPost w v A c xs (0, p, fe, fa)) := by
  obtain ⟨k0, k1, k2, k3, f⟩ := h.cells
  have H := Lib.hid h
  have he' : (fe != 0) = true := by simpa using he
  clear he h f
  go_enter Tryz.func54, Tryz.ntmps54
  go_wp2
  go_ret
  exact ⟨rfl, H.out, Chg.refl _ _⟩

set_option maxHeartbeats 400000 in
theorem unum_end (w : World) (v : Nat) (A : Option Addr) (c : Nat) (xs : List UInt8) (fa low high : Int) (h : URdr w v A c xs xs.length 0 fa) :
    Calls Tryz.prog 54 #[.pointer (some ⟨v, 0, none⟩), .int .i64 low, .int .i64 high] w (UNumPost w v A c xs (0, xs.length, 4, xs.length)) := by
  obtain ⟨k0, k1, k2, k3, f⟩ := h.cells
  have H := Lib.hid h
  clear h f
  go_enter Tryz.func54, Tryz.ntmps54
  go_wp2
  go_quiet (fail)
  go_wp2_with fail
  refine (ufail_any _ v A c xs _ fa 4 xs.length (H.out.drewN _)).mono ?_
  rintro r w1 ⟨rfl, hR, hC⟩
  go_wp2
  go_ret
  exact ⟨rfl, hR, ((Chg.refl _ _).drewN _).trans hC⟩

set_option maxHeartbeats 400000 in
theorem unum_arg (w : World) (v : Nat) (A : Option Addr) (c : Nat) (xs : List UInt8) (p : Nat) (fa low high : Int) (h : URdr w v A c xs p 0 fa) (hp : p < xs.length) (hl : xs.length ≤ 140737488351232) (h8 : 8 < bt xs p) :
    Calls Tryz.prog 54 #[.pointer (some ⟨v, 0, none⟩), .int .i64 low, .int .i64 high] w (UNumPost w v A c xs (0, p, 2, p)) := by
  obtain ⟨k0, k1, k2, k3, f⟩ := h.cells
  have H := Lib.hid h
  obtain ⟨g, o, rfl, hc⟩ := h.2.1.from (by omega)
  have hcp : w.cell? ⟨g, o + p, none⟩ = some (.int .u8 (bt xs p : Int)) := hc p hp
  have hbb := bt_lt xs p
  clear h f hc
  go_enter Tryz.func54, Tryz.ntmps54
  go_wp2
  iterate 2 (go_quiet (fail); go_wp2_with fail)
  refine (ufail_any _ v _ c xs _ fa 2 p (H.out.drewN _)).mono ?_
  rintro r w1 ⟨rfl, hR, hC⟩
  go_wp2
  go_ret
  exact ⟨rfl, hR, ((Chg.refl _ _).drewN _).trans hC⟩

set_option maxHeartbeats 400000 in
theorem unum_short (w : World) (v : Nat) (A : Option Addr) (c : Nat) (xs : List UInt8) (p : Nat) (fa low high : Int) (h : URdr w v A c xs p 0 fa) (hp : p < xs.length) (hl : xs.length ≤ 140737488351232) (h8 : bt xs p ≤ 8) (hs : xs.length - (p + 1) < bt xs p) :
    Calls Tryz.prog 54 #[.pointer (some ⟨v, 0, none⟩), .int .i64 low, .int .i64 high] w (UNumPost w v A c xs (0, p, 4, xs.length)) := by
  obtain ⟨k0, k1, k2, k3, f⟩ := h.cells
  have H := Lib.hid h
  obtain ⟨g, o, rfl, hc⟩ := h.2.1.from (by omega)
  have hcp : w.cell? ⟨g, o + p, none⟩ = some (.int .u8 (bt xs p : Int)) := hc p hp
  have hbb := bt_lt xs p
  clear h f hc
  go_enter Tryz.func54, Tryz.ntmps54
  go_wp2
  iterate 3 (go_quiet (fail); go_wp2_with fail)
  refine (ufail_any _ v _ c xs _ fa 4 xs.length (H.out.drewN _)).mono ?_
  rintro r w1 ⟨rfl, hR, hC⟩
  go_wp2
  go_ret
  exact ⟨rfl, hR, ((Chg.refl _ _).drewN _).trans hC⟩

set_option maxHeartbeats 400000 in
theorem unum_zero (w : World) (v : Nat) (A : Option Addr) (c : Nat) (xs : List UInt8) (p : Nat) (fa low high : Int) (h : URdr w v A c xs p 0 fa) (hp : p < xs.length) (hl : xs.length ≤ 140737488351232) (h8 : bt xs p ≤ 8) (hs : bt xs p ≤ xs.length - (p + 1)) (h1 : 0 < bt xs p) (hz : bt xs (p + 1) = 0) :
    Calls Tryz.prog 54 #[.pointer (some ⟨v, 0, none⟩), .int .i64 low, .int .i64 high] w (UNumPost w v A c xs (0, p, 2, p)) := by
  obtain ⟨k0, k1, k2, k3, f⟩ := h.cells
  have H := Lib.hid h
  obtain ⟨g, o, rfl, hc⟩ := h.2.1.from (by omega)
  have hcp : w.cell? ⟨g, o + p, none⟩ = some (.int .u8 (bt xs p : Int)) := hc p hp
  have hcz : w.cell? ⟨g, o + (p + 1), none⟩ = some (.int .u8 (bt xs (p + 1) : Int)) := hc (p + 1) (by omega)
  rw [hz] at hcz
  have hbb := bt_lt xs p
  clear h f hc
  go_enter Tryz.func54, Tryz.ntmps54
  go_wp2
  iterate 4 (go_quiet (fail); go_wp2_with fail)
  refine (ufail_any _ v _ c xs _ fa 2 p (H.out.drewN _)).mono ?_
  rintro r w1 ⟨rfl, hR, hC⟩
  go_wp2
  go_ret
  exact ⟨rfl, hR, ((Chg.refl _ _).drewN _).trans hC⟩
end
section
open Go.RowKit

theorem dv_head (xs : List UInt8) (p : Nat) : ∀ k, p + 1 + (k + 1) ≤ xs.length → bt xs (p + 1) * 256 ^ k ≤ dv xs p (k + 1) ∧ dv xs p (k + 1) < (bt xs (p + 1) + 1) * 256 ^ k
  | 0, h => by
    have := dv_succ xs p 0 (by omega)
    rw [dv_zero, Nat.add_zero] at this
    rw [this, Nat.add_zero]
    omega
  | k + 1, h => by
    have ih := dv_head xs p k (by omega)
    have e := dv_succ xs p (k + 1) (by omega)
    have hb := bt_lt xs (p + 1 + (k + 1))
    rw [e, Nat.pow_succ, ← Nat.mul_assoc, ← Nat.mul_assoc]
    omega
theorem dv_big (xs : List UInt8) (p : Nat) (h : p + 1 + 8 ≤ xs.length) : 4611686018427387903 < dv xs p 8 ↔ 63 < bt xs (p + 1) := by
  have := dv_head xs p 7 h
  have e : 256 ^ 7 = 72057594037927936 := by decide
  rw [e, show (7 + 1 : Nat) = 8 from rfl] at this
  omega
theorem dv_small (xs : List UInt8) (p n : Nat) (h : p + 1 + n ≤ xs.length) (hn : n < 8) : dv xs p n ≤ 4611686018427387903 := by
  have h1 := dv_lt xs p n h
  have h2 : 256 ^ n ≤ 256 ^ 7 := Nat.pow_le_pow_right (by omega) (by omega)
  have e : 256 ^ 7 = 72057594037927936 := by decide
  omega
theorem dv_mono (xs : List UInt8) (p : Nat) : ∀ n j, j ≤ n → p + 1 + n ≤ xs.length → dv xs p j ≤ dv xs p n
  | 0, j, hj, _ => by
    obtain rfl : j = 0 := by omega
    exact Nat.le_refl _
  | n + 1, j, hj, h => by
    by_cases e : j = n + 1
    · subst e; exact Nat.le_refl _
    · have ih := dv_mono xs p n j (by omega) (by omega)
      have := dv_succ xs p n (by omega)
      omega

theorem URdr.step {w : World} {v : Nat} {A : Option Addr} {c : Nat} {xs : List UInt8} {p : Nat} {fe fa : Int} (h : URdr w v A c xs p fe fa) (n q : Nat) :
    URdr ((w.drewN n).setCell ⟨v, 1, none⟩ (.int .i64 q)) v A c xs q fe fa ∧ Chg [v] w ((w.drewN n).setCell ⟨v, 1, none⟩ (.int .i64 q)) :=
  ⟨((h.drewN n).place q).1, ((Chg.refl _ _).drewN n).trans ((h.drewN n).place q).2⟩

set_option maxHeartbeats 400000 in
theorem unum_big (w : World) (v : Nat) (A : Option Addr) (c : Nat) (xs : List UInt8) (p : Nat) (fa low high : Int) (h : URdr w v A c xs p 0 fa) (hl : xs.length ≤ 140737488351232) (h8 : bt xs p = 8) (hs : p + 1 + 8 ≤ xs.length) (hz : 63 < bt xs (p + 1)) :
    Calls Tryz.prog 54 #[.pointer (some ⟨v, 0, none⟩), .int .i64 low, .int .i64 high] w (UNumPost w v A c xs (0, p, 5, p)) := by
  obtain ⟨k0, k1, k2, k3, f⟩ := h.cells
  have H := Lib.hid h
  obtain ⟨g, o, rfl, hc⟩ := h.2.1.from (by omega)
  have hcp : w.cell? ⟨g, o + p, none⟩ = some (.int .u8 (bt xs p : Int)) := hc p (by omega)
  rw [h8] at hcp
  have hcz : w.cell? ⟨g, o + (p + 1), none⟩ = some (.int .u8 (bt xs (p + 1) : Int)) := hc (p + 1) (by omega)
  have hz0 : ((bt xs (p + 1) : Int) == 0) = false := by simp only [beq_eq_false_iff_ne, ne_eq]; omega
  have hbb := bt_lt xs (p + 1)
  clear h f hc
  go_enter Tryz.func54, Tryz.ntmps54
  go_wp2
  iterate 5 (go_quiet (fail); go_wp2_with fail)
  refine (ufail_any _ v _ c xs _ fa 5 p (H.out.drewN _)).mono ?_
  rintro r w1 ⟨rfl, hR, hC⟩
  go_wp2
  go_ret
  exact ⟨rfl, hR, ((Chg.refl _ _).drewN _).trans hC⟩

set_option maxRecDepth 20000 in
set_option maxHeartbeats 400000 in
theorem unum_none (w : World) (v : Nat) (A : Option Addr) (c : Nat) (xs : List UInt8) (p : Nat) (fa low high : Int) (h : URdr w v A c xs p 0 fa) (hp : p < xs.length) (hl : xs.length ≤ 140737488351232) (h8 : bt xs p = 0) :
    Calls Tryz.prog 54 #[.pointer (some ⟨v, 0, none⟩), .int .i64 low, .int .i64 high] w (UNumPost w v A c xs (if 0 < low ∨ high < 0 then (0, p, 5, p) else (0, p + 1, 0, fa))) := by
  obtain ⟨k0, k1, k2, k3, f⟩ := h.cells
  have f1 := f 1
  have H := Lib.hid h
  obtain ⟨g, o, rfl, hc⟩ := h.2.1.from (by omega)
  have hcp : w.cell? ⟨g, o + p, none⟩ = some (.int .u8 (bt xs p : Int)) := hc p (by omega)
  rw [h8] at hcp
  clear h f hc
  by_cases hr : 0 < low ∨ high < 0
  · rw [if_pos hr]
    have hr' : 0 < low ∨ low ≤ 0 ∧ high < 0 := by omega
    clear hr
    rcases hr' with hr | ⟨hr, hr2⟩
    all_goals
      go_enter Tryz.func54, Tryz.ntmps54
      go_wp2
      iterate 5 (go_quiet (fail); go_wp2)
      refine wp_loop_rounds 1 ?_
      rw [rounds_succ]
      go_wp2_with fail
      refine (ufail_any _ v _ c xs _ fa 5 p (H.out.drewN _)).mono ?_
      rintro r w1 ⟨rfl, hR, hC⟩
      go_wp2
      go_ret
      exact ⟨rfl, hR, ((Chg.refl _ _).drewN _).trans hC⟩
  · rw [if_neg hr]
    have hr1 : low ≤ 0 := by omega
    have hr2 : 0 ≤ high := by omega
    clear hr
    go_enter Tryz.func54, Tryz.ntmps54
    go_wp2
    iterate 5 (go_quiet (fail); go_wp2)
    refine wp_loop_rounds 1 ?_
    rw [rounds_succ]
    go_wp2
    go_ret
    exact ⟨rfl, H.out.step _ (p + 1)⟩

set_option maxRecDepth 20000 in
set_option maxHeartbeats 1000000 in
theorem unum_digits (w : World) (v : Nat) (A : Option Addr) (c : Nat) (xs : List UInt8) (p : Nat) (fa low high : Int) (h : URdr w v A c xs p 0 fa) (hl : xs.length ≤ 140737488351232) (h0 : 0 < bt xs p) (h8 : bt xs p ≤ 8) (hs : p + 1 + bt xs p ≤ xs.length) (hz : bt xs (p + 1) ≠ 0) (hv : dv xs p (bt xs p) ≤ 4611686018427387903) :
    Calls Tryz.prog 54 #[.pointer (some ⟨v, 0, none⟩), .int .i64 low, .int .i64 high] w (UNumPost w v A c xs (if (dv xs p (bt xs p) : Int) < low ∨ high < (dv xs p (bt xs p) : Int) then (0, p, 5, p) else (dv xs p (bt xs p), p + 1 + bt xs p, 0, fa))) := by
  obtain ⟨k0, k1, k2, k3, f⟩ := h.cells
  have f1 := f 1
  have H := Lib.hid h
  obtain ⟨g, o, rfl, hc⟩ := h.2.1.from (by omega)
  have hcp : w.cell? ⟨g, o + p, none⟩ = some (.int .u8 (bt xs p : Int)) := hc p (by omega)
  have hcz : w.cell? ⟨g, o + (p + 1), none⟩ = some (.int .u8 (bt xs (p + 1) : Int)) := hc (p + 1) (by omega)
  have hcell : ∀ j, p + 1 + j < xs.length → w.cell? ⟨g, o + (p + 1 + j), none⟩ = some (.int .u8 (bt xs (p + 1 + j) : Int)) := fun j hj => hc (p + 1 + j) hj
  have hm : ∀ j, j ≤ bt xs p → dv xs p j ≤ 4611686018427387903 := fun j hj => Nat.le_trans (dv_mono xs p _ j hj (by omega)) hv
  have Hc := Lib.hid hcell
  have Hm := Lib.hid hm
  have hz0 : ((bt xs (p + 1) : Int) == 0) = false := by simp only [beq_eq_false_iff_ne, ne_eq]; omega
  have hbb := bt_lt xs (p + 1)
  have h63 : bt xs p < 8 ∨ bt xs p = 8 ∧ bt xs (p + 1) ≤ 63 := by
    by_cases e : bt xs p < 8
    · exact .inl e
    · have e8 : bt xs p = 8 := by omega
      have := dv_big xs p (by omega)
      rw [e8] at hv
      exact .inr ⟨e8, by omega⟩
  clear h f hc hcell hm hv hz
  generalize hR : (if (dv xs p (bt xs p) : Int) < low ∨ high < (dv xs p (bt xs p) : Int) then ((0 : Int), p, (5 : Int), (p : Int)) else ((dv xs p (bt xs p) : Int), p + 1 + bt xs p, 0, fa)) = R
  generalize hn : bt xs p = n at *
  have HR := Lib.hid hR
  clear hR
  have HN := Lib.hid hn
  clear hn
  rcases h63 with h63 | ⟨hn8, h63⟩
  all_goals
    first
    | (have h88 : ((n : Int) == 8) = true := by (subst hn8; rfl)); clear hn8
    | (have h88 : ((n : Int) == 8) = false := by (simp only [beq_eq_false_iff_ne, ne_eq]; omega)); clear h63
    go_enter Tryz.func54, Tryz.ntmps54
    go_wp2
    iterate 5 (go_quiet (fail); go_wp2)
    go_loopw [8, 9] (fun x i wr => ∃ j k : Nat, j ≤ n ∧ i = .int .i64 j ∧ x = .int .i64 (dv xs p j) ∧ wr = w.drewN k) (fun _ i _ => n - (intOf i).toNat)
    case atStart => exact ⟨0, _, by omega, rfl, by rw [dv_zero]; rfl, by simp only [World.drewN_drewN]; exact rfl⟩
    case round =>
      obtain ⟨j, k, hj, rfl, rfl, rfl⟩ := hrel
      clear hcz hz0 hbb h88
      by_cases hlt : j < n
      · have hcj := Hc.out j (by omega)
        have hbj := Hm.out (j + 1) (by omega)
        rw [dv_succ xs p j (by omega)] at hbj
        have hbb2 := bt_lt xs (p + 1 + j)
        go_wp2
        go_quiet (fail)
        go_wp2
        exact ⟨⟨j + 1, _, by omega, by go_num, by rw [dv_succ xs p j (by omega)]; go_num, rfl⟩, by simp [intOf]; omega⟩
      · obtain rfl : j = n := by omega
        have hb := Hm.out j (by omega)
        have hR := HR.out
        by_cases hlo : (dv xs p j : Int) < low
        · rw [if_pos (.inl hlo)] at hR
          subst hR
          go_wp2_with fail
          refine (ufail_any _ v _ c xs _ fa 5 p (H.out.drewN _)).mono ?_
          rintro r w1 ⟨rfl, hR, hC⟩
          go_wp2
          go_ret
          exact ⟨rfl, hR, ((Chg.refl _ _).drewN _).trans hC⟩
        · by_cases hhi : high < (dv xs p j : Int)
          · rw [if_pos (.inr hhi)] at hR
            subst hR
            go_wp2_with fail
            refine (ufail_any _ v _ c xs _ fa 5 p (H.out.drewN _)).mono ?_
            rintro r w1 ⟨rfl, hR, hC⟩
            go_wp2
            go_ret
            exact ⟨rfl, hR, ((Chg.refl _ _).drewN _).trans hC⟩
          · rw [if_neg (by omega)] at hR
            subst hR
            go_wp2
            go_ret
            exact ⟨rfl, H.out.step _ (p + 1 + j)⟩

/-- Num of the document's reader, whatever came ahead. -/
theorem unum_any (w : World) (v : Nat) (A : Option Addr) (c : Nat) (xs : List UInt8) (p : Nat) (fe fa low high : Int) (h : URdr w v A c xs p fe fa) (hp : p ≤ xs.length) (hl : xs.length ≤ 140737488351232) :
    Calls Tryz.prog 54 #[.pointer (some ⟨v, 0, none⟩), .int .i64 low, .int .i64 high] w (UNumPost w v A c xs (rNum xs p fe fa low high)) := by
  unfold rNum
  by_cases he : fe = 0
  · subst he
    simp only [ne_eq, not_true_eq_false, if_false]
    by_cases h1 : p = xs.length
    · subst h1
      simp only [numAt, if_pos]
      exact unum_end w v A c xs fa low high h
    have hlt : p < xs.length := by omega
    by_cases h2 : 8 < bt xs p
    · simp only [numAt, if_neg h1, if_pos h2]
      exact unum_arg w v A c xs p fa low high h hlt hl h2
    by_cases h3 : xs.length - (p + 1) < bt xs p
    · simp only [numAt, if_neg h1, if_neg h2, if_pos h3]
      exact unum_short w v A c xs p fa low high h hlt hl (by omega) h3
    by_cases h4 : 0 < bt xs p ∧ bt xs (p + 1) = 0
    · simp only [numAt, if_neg h1, if_neg h2, if_neg h3, if_pos h4]
      exact unum_zero w v A c xs p fa low high h hlt hl (by omega) (by omega) h4.1 h4.2
    simp only [numAt, if_neg h1, if_neg h2, if_neg h3, if_neg h4]
    by_cases h6 : bt xs p = 0
    · have := unum_none w v A c xs p fa low high h hlt hl h6
      rw [h6, dv_zero]
      by_cases hr : 0 < low ∨ high < 0
      · rw [if_pos hr] at this
        rw [if_pos (by omega)]
        exact this
      · rw [if_neg hr] at this
        rw [if_neg (by omega)]
        exact this
    · by_cases h7 : 4611686018427387903 < dv xs p (bt xs p)
      · rw [if_pos (.inl h7)]
        have h8 : bt xs p = 8 := by
          by_cases e : bt xs p < 8
          · have := dv_small xs p (bt xs p) (by omega) e
            omega
          · omega
        rw [h8] at h7
        exact unum_big w v A c xs p fa low high h hl h8 (by omega) ((dv_big xs p (by omega)).1 h7)
      · have := unum_digits w v A c xs p fa low high h hl (by omega) (by omega) (by omega) (by omega) (by omega)
        by_cases hr : (dv xs p (bt xs p) : Int) < low ∨ high < (dv xs p (bt xs p) : Int)
        · rw [if_pos hr] at this
          rw [if_pos (.inr hr)]
          exact this
        · rw [if_neg hr] at this
          rw [if_neg (by omega)]
          exact this
  · simp only [ne_eq, he, not_false_eq_true, if_true]
    exact unum_no w v A c xs p fe fa low high h he
end
section
open Go.RowKit

theorem add_twice (a : Addr) (i j : Nat) : (a.add i).add j = a.add (i + j) := by
  unfold Addr.add
  by_cases hi : i = 0 <;> by_cases hj : j = 0 <;> simp [hi, hj, Nat.add_assoc]
/-- A part of bytes. -/
theorem Bs.part {w : World} {A : Option Addr} {xs : List UInt8} (h : Bs w A xs.length xs) (q n : Nat) (hq : q + n ≤ xs.length) : Bs w (Option.map (fun x => x.add q) A) n ((xs.drop q).take n) := by
  refine ⟨by simp; omega, fun j u hj => ?_⟩
  rw [List.getElem?_take, List.getElem?_drop] at hj
  split at hj
  · obtain ⟨a, rfl, hc⟩ := h.cells (q + j) u hj
    exact ⟨a.add q, rfl, by rw [add_twice]; exact hc⟩
  · cases hj

theorem app_cell {w2 w3 : World} {o : Obj} {p : Addr} {u : Value} (hg : (w2.alloc o).drew.grownBy w3 (some w2.heap.size)) (hlt : p.block < w2.heap.size) (h : w2.cell? p = some u) : w3.cell? p = some u := by
  refine (World.cell?_of_block (w := w2) ?_).trans h
  refine (hg.block _ ?_ (by simp; omega)).trans (Below.heap_alloc _ _ _ hlt)
  show p.block < (w2.alloc o).heap.size
  rw [World.size_alloc]
  omega
/-- append of bytes, at a step of a region that draws its order. -/
theorem step_app {ops : Array Oper} {o : Oper} {a : Act} {w : World} {K : Act → World → Prop} {Q : Exit → Act → World → Prop} {E : Prop} (hgd : o.guard = none) (s x : Operand)
    (ho : o.op = .call { callee := .builtin .append, args := #[s, x], argTypes := #[34, 34] })
    {A : Option Addr} {c n : Nat} {xs : List UInt8} (hs : a.eval s = .slice A n c) (hown : OwnB w A c xs) (hn : xs.length = n) {B : Option Addr} {m d : Nat} {ys : List UInt8} (hx : a.eval x = .slice B m d) (hr : Bs w B m ys) (hlen : n + m ≤ 140737488355327)
    (h : ∀ A' c' w', OwnB w' A' c' (xs ++ ys) → w.grownBy w' (A.map (·.block)) → (A' = A ∨ A' = some ⟨w.heap.size, 0, none⟩) → K (a.put o.dst (.slice A' (n + m) c')) w') :
    if Region.wanted o (yielded ops a.tmps) = true then Oper.wp Tryz.prog o a w K Q else E := by
  have hw : Region.wanted o (yielded ops a.tmps) = true := by simp [Region.wanted, hgd]
  rw [if_pos hw]
  subst hn
  obtain ⟨A', c', w', hrun, h2, h3, h4⟩ := run_app w o.type hown (d := d) hr hlen
  unfold Oper.wp execOp
  simp only [ho, resolve, invoke, builtin, Sem.run_bind, Sem.run_pure, Result.andThen_ok, List.map_toArray, List.map_cons, List.map_nil, hs, hx, hrun]
  exact h A' c' w' h2 h3 h4

/-- What Raw of the document's reader leaves. -/
def URawPost (w : World) (v : Nat) (A : Option Addr) (c : Nat) (xs : List UInt8) (r : List UInt8 × Nat × Int × Int) (e : Ending) (w' : World) : Prop :=
  ∃ A' c', e = .returned (.slice A' r.1.length c') ∧ OwnB w' A' c' r.1 ∧ (∀ a, A' = some a → w.heap.size ≤ a.block) ∧ URdr w' v A c xs r.2.1 r.2.2.1 r.2.2.2 ∧ Chg [v] w w'

theorem URdr.back {w : World} {v : Nat} {A : Option Addr} {c : Nat} {xs : List UInt8} {p q : Nat} {fe fa : Int} (h : URdr w v A c xs q fe fa) (n : Nat) :
    URawPost w v A c xs ([], p, fe, fa) (.returned (.slice none 0 0)) ((w.drewN n).setCell ⟨v, 1, none⟩ (.int .i64 p)) :=
  ⟨none, 0, rfl, OwnB.none_ _, by simp, h.step n p⟩
theorem URawPost.after {w w1 w' : World} {v : Nat} {A : Option Addr} {c : Nat} {xs : List UInt8} {r : List UInt8 × Nat × Int × Int} {e : Ending} (hc : Chg [v] w w1) (h : URawPost w1 v A c xs r e w') : URawPost w v A c xs r e w' := by
  obtain ⟨A', c', h1, h2, h3, h4, h5⟩ := h
  have := hc.size
  exact ⟨A', c', h1, h2, fun a e => by have := h3 a e; omega, h4, hc.trans h5⟩

set_option maxRecDepth 20000 in
set_option maxHeartbeats 1000000 in
theorem uraw_failed (w : World) (v : Nat) (A : Option Addr) (c : Nat) (xs : List UInt8) (p : Nat) (fe fa most : Int) (h : URdr w v A c xs p fe fa) (hp : p ≤ xs.length) (hl : xs.length ≤ 140737488351232) (n : Int) (q : Nat) (fe' fa' : Int) (hn : rNum xs p fe fa 0 4611686018427387903 = (n, q, fe', fa')) (he : fe' ≠ 0) :
    Calls Tryz.prog 55 #[.pointer (some ⟨v, 0, none⟩), .int .i64 most] w (URawPost w v A c xs ([], p, fe', fa')) := by
  have hnum := unum_any w v A c xs p fe fa 0 4611686018427387903 h hp hl
  rw [hn] at hnum
  obtain ⟨k0, k1, k2, k3, f⟩ := h.cells
  have HN := Lib.hid hnum
  have he' : (fe' == 0) = false := by simpa using he
  have he2 : (fe' != 0) = true := by simpa using he
  clear hnum hn h f he k0 k2 k3
  go_enter Tryz.func55, Tryz.ntmps55
  go_wp2_with fail
  refine HN.out.mono ?_
  rintro r w1 ⟨rfl, hR, hC⟩
  obtain ⟨k0, k1, k2, k3, f⟩ := hR.cells
  have f1 := f 1
  have HR := Lib.hid hR
  have HC := Lib.hid hC
  clear hR hC f
  go_wp2
  go_quiet (fail)
  go_wp2
  go_ret
  exact (HR.out.back _).after HC.out

set_option maxRecDepth 20000 in
set_option maxHeartbeats 1000000 in
theorem uraw_long (w : World) (v : Nat) (A : Option Addr) (c : Nat) (xs : List UInt8) (p : Nat) (fe fa most : Int) (h : URdr w v A c xs p fe fa) (hp : p ≤ xs.length) (hl : xs.length ≤ 140737488351232) (n q : Nat) (fa' : Int) (hn : rNum xs p fe fa 0 4611686018427387903 = ((n : Int), q, 0, fa')) (hm : most < n) :
    Calls Tryz.prog 55 #[.pointer (some ⟨v, 0, none⟩), .int .i64 most] w (URawPost w v A c xs ([], p, 3, p)) := by
  have hnum := unum_any w v A c xs p fe fa 0 4611686018427387903 h hp hl
  rw [hn] at hnum
  obtain ⟨k0, k1, k2, k3, f⟩ := h.cells
  have HN := Lib.hid hnum
  clear hnum hn h f k0 k2 k3
  go_enter Tryz.func55, Tryz.ntmps55
  go_wp2_with fail
  refine HN.out.mono ?_
  rintro r w1 ⟨rfl, hR, hC⟩
  obtain ⟨k0, k1, k2, k3, f⟩ := hR.cells
  have HR := Lib.hid hR
  have HC := Lib.hid hC
  clear hR hC f
  go_wp2_with fail
  refine (ufail_any _ v _ c xs _ fa' 3 p HR.out).mono ?_
  clear k0 k1 k2 k3
  rintro r w2 ⟨rfl, hR, hC⟩
  obtain ⟨k0, k1, k2, k3, f⟩ := hR.cells
  have f1 := f 1
  have HR2 := Lib.hid hR
  have HC2 := Lib.hid (HC.out.trans hC)
  clear hR hC f
  go_wp2
  go_quiet (fail)
  go_wp2
  go_ret
  exact (HR2.out.back _).after HC2.out

set_option maxRecDepth 20000 in
set_option maxHeartbeats 1000000 in
theorem uraw_end (w : World) (v : Nat) (A : Option Addr) (c : Nat) (xs : List UInt8) (p : Nat) (fe fa most : Int) (h : URdr w v A c xs p fe fa) (hp : p ≤ xs.length) (hl : xs.length ≤ 140737488351232) (n q : Nat) (fa' : Int) (hn : rNum xs p fe fa 0 4611686018427387903 = ((n : Int), q, 0, fa')) (hq : q ≤ xs.length) (hm : n ≤ most) (hs : (xs.length : Int) - q < n) :
    Calls Tryz.prog 55 #[.pointer (some ⟨v, 0, none⟩), .int .i64 most] w (URawPost w v A c xs ([], p, 4, xs.length)) := by
  have hnum := unum_any w v A c xs p fe fa 0 4611686018427387903 h hp hl
  rw [hn] at hnum
  obtain ⟨k0, k1, k2, k3, f⟩ := h.cells
  have HN := Lib.hid hnum
  clear hnum hn h f k0 k2 k3
  go_enter Tryz.func55, Tryz.ntmps55
  go_wp2_with fail
  refine HN.out.mono ?_
  rintro r w1 ⟨rfl, hR, hC⟩
  obtain ⟨k0, k1, k2, k3, f⟩ := hR.cells
  have HR := Lib.hid hR
  have HC := Lib.hid hC
  clear hR hC f
  go_wp2
  go_quiet (fail)
  go_wp2_with fail
  refine (ufail_any _ v _ c xs _ fa' 4 xs.length (HR.out.drewN _)).mono ?_
  clear k0 k1 k2 k3
  rintro r w2 ⟨rfl, hR, hC⟩
  obtain ⟨k0, k1, k2, k3, f⟩ := hR.cells
  have f1 := f 1
  have HR2 := Lib.hid hR
  have HC2 := Lib.hid ((HC.out.drewN _).trans hC)
  clear hR hC f
  go_wp2
  go_ret
  exact (HR2.out.back 0).after HC2.out

theorem uraw_fin {w w2 w3 : World} {v : Nat} {A A' : Option Addr} {c c' : Nat} {xs ys : List UInt8} {t n : Nat} {fa' : Int} {o : Obj} (hc : Chg [v] w w2) (hr : URdr w2 v A c xs t 0 fa') (own : OwnB w3 A' c' ([] ++ ys))
    (hg : (w2.alloc o).drew.grownBy w3 (some w2.heap.size)) (hA : A' = some ⟨w2.heap.size, 0, none⟩ ∨ A' = some ⟨(w2.alloc o).heap.size, 0, none⟩) (hn : ys.length = n) : URawPost w v A c xs (ys, t, 0, fa') (.returned (.slice A' n c')) w3 := by
  subst hn
  have h3 : Chg [] w2 w3 := (((Chg.refl [] w2).alloc o).drew).grown hg (fun k e => by cases e; exact .inr (Nat.le_refl _))
  have hs := hc.size
  refine ⟨A', c', rfl, by simpa using own, ?_, hr.chg h3 (by simp) (.inr (by simp)), hc.trans (h3.mono (by simp))⟩
  rintro a rfl
  rcases hA with h | h
  · cases h; exact hs
  · cases h
    show w.heap.size ≤ (w2.alloc o).heap.size
    rw [World.size_alloc]; omega

set_option maxRecDepth 20000 in
set_option maxHeartbeats 1000000 in
theorem uraw_ok (w : World) (v : Nat) (A : Option Addr) (c : Nat) (xs : List UInt8) (p : Nat) (fe fa most : Int) (h : URdr w v A c xs p fe fa) (hp : p ≤ xs.length) (hl : xs.length ≤ 140737488351232) (n q : Nat) (fa' : Int) (hn : rNum xs p fe fa 0 4611686018427387903 = ((n : Int), q, 0, fa')) (hq : q ≤ xs.length) (hm : n ≤ most) (hs : n ≤ (xs.length : Int) - q) :
    Calls Tryz.prog 55 #[.pointer (some ⟨v, 0, none⟩), .int .i64 most] w (URawPost w v A c xs ((xs.drop q).take n, q + n, 0, fa')) := by
  have hnum := unum_any w v A c xs p fe fa 0 4611686018427387903 h hp hl
  rw [hn] at hnum
  obtain ⟨k0, k1, k2, k3, f⟩ := h.cells
  have HN := Lib.hid hnum
  clear hnum hn h f k0 k2 k3
  go_enter Tryz.func55, Tryz.ntmps55
  go_wp2_with fail
  refine HN.out.mono ?_
  rintro r w1 ⟨rfl, hR, hC⟩
  obtain ⟨k0, k1, k2, k3, f⟩ := hR.cells
  have f1 := f 1
  have HR := Lib.hid hR
  have HC := Lib.hid hC
  clear hR hC f
  go_wp2
  go_quiet (fail)
  go_wp2
  have hst := HR.out.step nq (q + n)
  have HC2 := Lib.hid (HC.out.trans hst.2)
  obtain ⟨k0', k1', k2', k3', f'⟩ := hst.1.cells
  have HR2 := Lib.hid hst.1
  clear hst k0 k1 k2 k3 f1 f' k2' k3' HR HC
  have e : (q : Int) + (n : Int) = ((q + n : Nat) : Int) := by omega
  rw [e]
  clear e
  generalize (w1.drewN nq).setCell ⟨v, 1, none⟩ (.int .i64 ((q + n : Nat) : Int)) = w2 at *
  obtain ⟨z1, z2⟩ := HR2.out.2.2.2
  have hlt := lt_of_heap HR2.out.1
  obtain ⟨t, ht⟩ : ∃ t, q + n = t := ⟨_, rfl⟩
  have y1 : (t : Int) - n = q := by omega
  have y2 : t ≤ c := by omega
  have y3 : q ≤ t := by omega
  have y4 : t - q = n := by omega
  have y5 : (t : Int) ≤ 140737488351232 := by omega
  have y6 : (n : Int) ≤ t := by omega
  have y7 : IntKind.i64.wrap (q : Int) = q := IntWalk.i64_in _ (by omega)
  rw [ht] at k1' HR2 ⊢
  have HT := Lib.hid ht
  clear ht hm hs
  have hown : OwnB (w2.alloc (.cells #[] 5)).drew (some ⟨w2.heap.size, 0, none⟩) 0 [] := (OwnB.empty w2).chg ((Chg.refl [] _).drew) (by simp)
  have hlen : 0 + n ≤ 140737488355327 := by omega
  have HO := Lib.hid hown
  have HL := Lib.hid hlen
  clear hown hlen
  by_cases hcq : c = q
  · subst hcq
    have hnil : Bs (w2.alloc (.cells #[] 5)).drew A n ((xs.drop c).take n) := by
      obtain rfl : n = 0 := by omega
      simpa using Bs.nil _ A
    have HBs := Lib.hid hnil
    clear hnil
    go_region_held3 (fun w' => w'.cell? ⟨v, 0, none⟩ = some (.slice A xs.length c) ∧ w'.cell? ⟨v, 1, none⟩ = some (.int .i64 (t : Int))) (first | go_keep | exact ⟨q0, q1⟩) ((refine step_app rfl _ _ rfl rfl HO.out rfl rfl HBs.out HL.out ?_; intro A' c' w3 own3 hg3 hA3; have q0 := app_cell hg3 hlt k0'; have q1 := app_cell hg3 hlt k1'))
    go_wp2
    go_ret
    rw [HT.out]
    exact uraw_fin HC2.out HR2.out own3 hg3 hA3 (by simp; omega)
  · have hcq2 : ¬ (q = c) := fun e => hcq e.symm
    have hbs : Bs (w2.alloc (.cells #[] 5)).drew (Option.map (fun x => x.add q) A) n ((xs.drop q).take n) := (HR2.out.2.1.part q n (by omega)).chg (((Chg.refl [] _).alloc _).drew) (by simp)
    have HBs := Lib.hid hbs
    clear hbs
    go_region_held3 (fun w' => w'.cell? ⟨v, 0, none⟩ = some (.slice A xs.length c) ∧ w'.cell? ⟨v, 1, none⟩ = some (.int .i64 (t : Int))) (first | go_keep | exact ⟨q0, q1⟩) ((refine step_app rfl _ _ rfl rfl HO.out rfl rfl HBs.out HL.out ?_; intro A' c' w3 own3 hg3 hA3; have q0 := app_cell hg3 hlt k0'; have q1 := app_cell hg3 hlt k1'))
    go_wp2
    go_ret
    rw [HT.out]
    exact uraw_fin HC2.out HR2.out own3 hg3 hA3 (by simp; omega)

/-- Raw of the document's reader, whatever came ahead. -/
theorem uraw_any (w : World) (v : Nat) (A : Option Addr) (c : Nat) (xs : List UInt8) (p : Nat) (fe fa most : Int) (h : URdr w v A c xs p fe fa) (hp : p ≤ xs.length) (hl : xs.length ≤ 140737488351232) :
    Calls Tryz.prog 55 #[.pointer (some ⟨v, 0, none⟩), .int .i64 most] w (URawPost w v A c xs (rRaw xs p fe fa most)) := by
  unfold rRaw
  by_cases he : fe = 0
  · subst he
    simp only [ne_eq, not_true_eq_false, if_false]
    cases hn : numAt xs p 0 4611686018427387903 with
    | error x =>
      obtain ⟨f, q⟩ := x
      exact uraw_failed w v A c xs p 0 fa most h hp hl 0 p f q (by simp [rNum, hn]) (by have := numAt_err hn; omega)
    | ok x =>
      obtain ⟨n, q⟩ := x
      have hok := numAt_ok hn hp
      have hr : rNum xs p 0 fa 0 4611686018427387903 = ((n : Int), q, 0, fa) := by simp [rNum, hn]
      by_cases h1 : most < n
      · simp only [if_pos h1]; exact uraw_long w v A c xs p 0 fa most h hp hl n q fa hr h1
      · by_cases h2 : (xs.length : Int) - q < n
        · simp only [if_neg h1, if_pos h2]; exact uraw_end w v A c xs p 0 fa most h hp hl n q fa hr hok.1 (by omega) h2
        · simp only [if_neg h1, if_neg h2]; exact uraw_ok w v A c xs p 0 fa most h hp hl n q fa hr hok.1 (by omega) (by omega)
  · simp only [ne_eq, he, not_false_eq_true, if_true]
    exact uraw_failed w v A c xs p fe fa most h hp hl 0 p fe fa (by simp [rNum, he]) he
end
section
open Go.RowKit

/-- The document's writer, made since w. -/
def Vs (w w' : World) (b : Nat) (xs : List UInt8) (e : Int) : Prop := ∃ g, VWr w' b g xs e ∧ w.heap.size ≤ b ∧ w.heap.size ≤ g ∧ Chg [] w w'
theorem Vs.chg {w w' : World} {b : Nat} {xs : List UInt8} {e : Int} (h : Vs w w' b xs e) : Chg [] w w' := by obtain ⟨_, _, _, _, h⟩ := h; exact h
theorem Vs.past {w w1 w2 : World} {b : Nat} {xs : List UInt8} {e : Int} (h : Vs w w1 b xs e) (hc : Chg [] w1 w2) : Vs w w2 b xs e := by
  obtain ⟨g, h1, h2, h3, h4⟩ := h
  exact ⟨g, h1.chg hc (by simp) (by simp), h2, h3, h4.trans hc⟩
theorem vs_between {w w1 w2 : World} {b g : Nat} {xs : List UInt8} {e : Int} (h2 : w.heap.size ≤ b) (h3 : w.heap.size ≤ g) (h4 : Chg [] w w1) (h : VBetween w1 w2 b g xs e) : Vs w w2 b xs e := by
  obtain ⟨g', q1, q2, q3⟩ := h
  have := h4.size
  refine ⟨g', q1, h2, by omega, h4.both q2 ?_⟩
  intro i hi
  simp at hi
  omega
/-- A writer in a new block. -/
theorem vs_new (w w1 : World) (hc : Chg [] w w1) : Vs w (w1.alloc (.cells #[.slice none 0 0, .int .i64 0] 75)) w1.heap.size [] 0 :=
  ⟨w1.heap.size, ⟨none, 0, heap_alloc_new w1 _, OwnB.none_ _, .inl ⟨rfl, rfl⟩⟩, hc.size, hc.size, hc.alloc _⟩
theorem vs_num (w w1 : World) (b : Nat) (xs : List UInt8) (e x : Int) (h : Vs w w1 b xs e) (hlen : xs.length ≤ 1048576) (hx : -9223372036854775808 ≤ x) (hx2 : x ≤ 9223372036854775807) :
    Calls Tryz.prog 42 #[.pointer (some ⟨b, 0, none⟩), .int .i64 x] w1 fun r w' => r = .returned (.tuple #[]) ∧ Vs w w' b (wNum xs e x).1 (wNum xs e x).2 := by
  obtain ⟨g, h1, h2, h3, h4⟩ := h
  exact (vnum_any w1 b g xs e x h1 hlen hx hx2).mono fun _ _ ⟨q1, q2⟩ => ⟨q1, vs_between h2 h3 h4 q2⟩
theorem vs_raw (w w1 : World) (b : Nat) (xs : List UInt8) (e : Int) (B : Option Addr) (m d : Nat) (ys : List UInt8) (h : Vs w w1 b xs e) (hlen : xs.length ≤ 1048576) (hm : m ≤ 140737488351232) (hr : Bs w B m ys) :
    Calls Tryz.prog 43 #[.pointer (some ⟨b, 0, none⟩), .slice B m d] w1 fun r w' => r = .returned (.tuple #[]) ∧ Vs w w' b (wRaw xs e ys).1 (wRaw xs e ys).2 := by
  obtain ⟨g, h1, h2, h3, h4⟩ := h
  exact (vraw_any w1 b g xs e B m d ys h1 hlen hm (hr.chg h4 (by simp))).mono fun _ _ ⟨q1, q2⟩ => ⟨q1, vs_between h2 h3 h4 q2⟩
theorem vs_out (w w1 : World) (b : Nat) (xs : List UInt8) (e : Int) (h : Vs w w1 b xs e) (hlen : xs.length ≤ 1048576) :
    Calls Tryz.prog 44 #[.pointer (some ⟨b, 0, none⟩)] w1 fun r w' => ∃ A c, r = .returned (.tuple #[.slice A (outs xs e).length c, .int .i64 e]) ∧ Fresh w w' A c (outs xs e) := by
  obtain ⟨g, h1, h2, h3, h4⟩ := h
  exact (vout_any w1 b g xs e h1 hlen).mono fun _ _ ⟨A, c, q1, q2⟩ => ⟨A, c, q1, q2.since h4⟩
/-- The document's reader of bytes that w has, made since w. -/
def Us (w w' : World) (v : Nat) (A : Option Addr) (c : Nat) (xs : List UInt8) (p : Nat) (fe fa : Int) : Prop := URdr w' v A c xs p fe fa ∧ w.heap.size ≤ v ∧ Chg [] w w' ∧ Bs w A xs.length xs ∧ p ≤ xs.length ∧ xs.length ≤ 140737488351232
theorem Us.chg {w w' : World} {v : Nat} {A : Option Addr} {c : Nat} {xs : List UInt8} {p : Nat} {fe fa : Int} (h : Us w w' v A c xs p fe fa) : Chg [] w w' := h.2.2.1
theorem Us.past {w w1 w2 : World} {v : Nat} {A : Option Addr} {c : Nat} {xs : List UInt8} {p : Nat} {fe fa : Int} (h : Us w w1 v A c xs p fe fa) (hc : Chg [] w1 w2) : Us w w2 v A c xs p fe fa :=
  ⟨h.1.chg hc (by simp) (.inr (by simp)), h.2.1, h.2.2.1.trans hc, h.2.2.2⟩
theorem us_open (w w1 : World) (A : Option Addr) (c : Nat) (xs : List UInt8) (hc : Chg [] w w1) (h : Bs w A xs.length xs) (hc1 : xs.length ≤ c) (hc2 : c ≤ 9223372036854775807) (hm : xs.length ≤ 140737488351232) :
    Calls Tryz.prog 53 #[.slice A xs.length c] w1 fun r w' => ∃ v, r = .returned (.pointer (some ⟨v, 0, none⟩)) ∧ Us w w' v A c xs 0 0 0 :=
  (vopen_any w1 A c xs (h.chg hc (by simp)) hc1 hc2).mono fun _ _ hh => by
    have hs := hc.size
    first
      | (obtain ⟨v, h1, h2, h3, h4⟩ := hh; exact ⟨v, h1, h2, by omega, hc.trans h3, h, by omega, hm⟩)
      | (obtain ⟨h1, h2, h3⟩ := hh; exact ⟨_, h1, h2, hs, hc.trans h3, h, by omega, hm⟩)
theorem us_num (w w1 : World) (v : Nat) (A : Option Addr) (c : Nat) (xs : List UInt8) (p : Nat) (fe fa low high : Int) (h : Us w w1 v A c xs p fe fa) :
    Calls Tryz.prog 54 #[.pointer (some ⟨v, 0, none⟩), .int .i64 low, .int .i64 high] w1 fun r w' => r = .returned (.int .i64 (rNum xs p fe fa low high).1) ∧ Us w w' v A c xs (rNum xs p fe fa low high).2.1 (rNum xs p fe fa low high).2.2.1 (rNum xs p fe fa low high).2.2.2 ∧ Chg [v] w1 w' := by
  obtain ⟨h1, h2, h3, h4, h5, h6⟩ := h
  exact (unum_any w1 v A c xs p fe fa low high h1 h5 h6).mono fun _ _ ⟨q1, q2, q3⟩ => ⟨q1, ⟨q2, h2, h3.both q3 (by simpa using h2), h4, rNum_le h5, h6⟩, q3⟩
theorem us_raw (w w1 : World) (v : Nat) (A : Option Addr) (c : Nat) (xs : List UInt8) (p : Nat) (fe fa most : Int) (h : Us w w1 v A c xs p fe fa) :
    Calls Tryz.prog 55 #[.pointer (some ⟨v, 0, none⟩), .int .i64 most] w1 fun r w' => ∃ A' c', r = .returned (.slice A' (rRaw xs p fe fa most).1.length c') ∧ OwnB w' A' c' (rRaw xs p fe fa most).1 ∧ (∀ a, A' = some a → w1.heap.size ≤ a.block) ∧ Us w w' v A c xs (rRaw xs p fe fa most).2.1 (rRaw xs p fe fa most).2.2.1 (rRaw xs p fe fa most).2.2.2 ∧ Chg [v] w1 w' := by
  obtain ⟨h1, h2, h3, h4, h5, h6⟩ := h
  exact (uraw_any w1 v A c xs p fe fa most h1 h5 h6).mono fun _ _ ⟨A', c', q1, q2, q3, q4, q5⟩ => ⟨A', c', q1, q2, q3, ⟨q4, h2, h3.both q5 (by simpa using h2), h4, (rRaw_le h5).2, h6⟩, q5⟩
theorem us_end (w w1 : World) (v : Nat) (A : Option Addr) (c : Nat) (xs : List UInt8) (p : Nat) (fe fa : Int) (h : Us w w1 v A c xs p fe fa) :
    Calls Tryz.prog 56 #[.pointer (some ⟨v, 0, none⟩)] w1 fun r w' => r = .returned (.agg #[.int .i64 (endR xs p fe fa).1, .int .i64 (endR xs p fe fa).2]) ∧ Chg [] w1 w' :=
  uend_any w1 v A c xs p fe fa h.1
end
section
open Go.RowKit Go.Lib
set_option linter.unusedSimpArgs false
set_option linter.unusedVariables false


set_option maxRecDepth 100000 in
set_option maxHeartbeats 8000000 in
theorem fdread_any (w : World) (A : Option Addr) (n c : Nat) (xs : List UInt8) (h : Bs w A n xs) (hn : n ≤ 100000) (hcc : n ≤ c ∧ c ≤ 9223372036854775807) :
    Calls Tryz.prog 25 #[.slice A n c] w fun r w' => ∃ A' c', r = .returned (.tuple #[.agg #[.int .i64 (readA xs).1.1, .slice A' (readA xs).1.2.length c'], .agg #[.int .i64 (readA xs).2.1, .int .i64 (readA xs).2.2]]) ∧ OwnK spanTy w' A' c' (readA xs).1.2 ∧ (∀ a, A' = some a → w.heap.size ≤ a.block) ∧ Chg [] w w' := by
  have hl := h.len
  subst hl
  obtain ⟨w0, hw, hc, b0, b1⟩ := news2 w (.cells #[.int .i64 0, .slice none 0 0] 24) (.cells #[.int .i64 0, .int .i64 0] 46)
  have W1 := Lib.hid hw
  have H := Lib.hid (h.chg hc (by simp))
  have C := Lib.hid (hc)
  have B0 := Lib.hid (b0)
  have B1 := Lib.hid (b1)
  have HN := Lib.hid (hn)
  have HCC := Lib.hid (hcc)
  generalize hv : readA xs = v
  have HV := Lib.hid hv
  clear hw hc b0 b1 h hn hv hcc
  go_enter Tryz.func25, Tryz.ntmps25
  go_upto_region 1 with fail
  rw [← W1.out]
  generalize hz1 : w.heap.size + 1 = g1 at *
  generalize hz0 : w.heap.size = g0 at *
  have Z := Lib.hid (And.intro hz0 (hz1))
  have n01 : ¬ g0 = g1 := by omega
  have n10 : ¬ g1 = g0 := by omega
  clear W1 hz0 hz1
  go_wp2_with fail
  refine (us_open w0 w0 A c xs (Chg.refl _ _) H.out HCC.out.1 HCC.out.2 (by have := HN.out; omega)).mono ?_
  rintro e w1 ⟨b, rfl, h1⟩
  have K := Lib.hid h1
  clear h1
  go_wp2_with fail
  have r1 := us_num w0 w1 b A c xs 0 0 0 1 200 K.out
  change Calls _ _ _ _ (fun r w' => r = .returned (.int .i64 (rN xs).1) ∧ Us w0 w' b A c xs (rN xs).2.1 (rN xs).2.2.1 (rN xs).2.2.2 ∧ _) at r1
  refine r1.mono ?_
  rintro e w2 ⟨rfl, h2, -⟩
  replace K := Lib.hid h2
  clear h2 r1
  have LR : Hid ((rR xs).1.length ≤ xs.length) := Lib.hid (rRaw_le K.out.2.2.2.2.1).1
  go_wp2_with fail
  have r1 := us_raw w0 w2 b A c xs _ _ _ 40000 K.out
  change Calls _ _ _ _ (fun r w' => ∃ A1 c1, r = .returned (.slice A1 (rR xs).1.length c1) ∧ OwnB w' A1 c1 (rR xs).1 ∧ (∀ a, A1 = some a → w2.heap.size ≤ a.block) ∧ Us w0 w' b A c xs (rR xs).2.1 (rR xs).2.2.1 (rR xs).2.2.2 ∧ _) at r1
  refine r1.mono ?_
  rintro e w3 ⟨A3, c3, rfl, o3, n3, h3, -⟩
  have O3 := Lib.hid o3
  replace K := Lib.hid h3
  clear h3 r1 o3 n3
  go_wp2_with fail
  have r1 := us_end w0 w3 b A c xs _ _ _ K.out
  change Calls _ _ _ _ (fun r w' => r = .returned (.agg #[.int .i64 (rF xs).1, .int .i64 (rF xs).2]) ∧ _) at r1
  refine r1.mono ?_
  rintro e w4 ⟨rfl, hc⟩
  have hd := K.out.chg.trans hc
  replace O3 := Lib.hid (O3.out.chg hc (by simp))
  replace C := Lib.hid (C.out.trans hd)
  replace B0 := Lib.hid (hd.at_ B0.out (by simp))
  replace B1 := Lib.hid (hd.at_ B1.out (by simp))
  clear hc hd r1 K
  obtain ⟨w5, hw, hc, b7⟩ := news1 w4 (.cells #[.int .i64 (rF xs).1, .int .i64 (rF xs).2] 46)
  have W5 := Lib.hid hw
  have B7 := Lib.hid b7
  have NS : Hid (¬ g0 = w4.heap.size ∧ ¬ g1 = w4.heap.size) := Lib.hid (by have := lt_of_heap B0.out; have := lt_of_heap B1.out; omega)
  replace O3 := Lib.hid (O3.out.chg hc (by simp))
  replace C := Lib.hid (C.out.trans hc)
  replace B0 := Lib.hid (hc.at_ B0.out (by simp))
  replace B1 := Lib.hid (hc.at_ B1.out (by simp))
  clear hw hc b7
  go_upto_region 5 with fail
  rw [← W5.out]
  generalize w4.heap.size = s7 at *
  clear W5
  have y0 := cell_of B7.out 0
  have y1 := cell_of B7.out 1
  simp only [List.getElem?_toArray, List.getElem?_cons_succ, List.getElem?_cons_zero] at y0 y1
  by_cases he : (rF xs).1 = 0
  rotate_left
  · skip
    have he' : ((rF xs).1 != 0) = true := bne_iff_ne.2 he
    have e3 : ((rF xs).1 == 0) = false := beq_eq_false_iff_ne.2 he
    obtain rfl : v = ((0, []), rF xs) := by rw [← HV.out]; exact readA_bad he
    go_upto_region 6 with fail
    clear HV he he' e3
    have n07 : ¬ g0 = s7 := NS.out.1
    have n17 : ¬ g1 = s7 := NS.out.2
    refine wp_region_held_drew (S := fun w' => w'.cell? ⟨s7, 0, none⟩ = some (.int .i64 (rF xs).1) ∧ w'.cell? ⟨s7, 1, none⟩ = some (.int .i64 (rF xs).2)) (by kernel_rfl) ⟨y0, y1⟩ (fun hHeld => ?_)
    have CD := Lib.hid (Chg.refl [] w5).drew
    replace C := Lib.hid (C.out.trans CD.out)
    replace B0 := Lib.hid (CD.out.at_ B0.out (by simp))
    replace B1 := Lib.hid (CD.out.at_ B1.out (by simp))
    replace B7 := Lib.hid (CD.out.at_ B7.out (by simp))
    clear CD hHeld y0 y1
    generalize w5.drew = wc at *
    refine sy 0 21 rfl rfl ?_ (hS := ⟨cell_of B7.out 0, cell_of B7.out 1⟩)
    try simp only [Act.put, sA, s0, s1]
    refine sy 1 22 rfl rfl ?_ (hS := ⟨cell_of B7.out 0, cell_of B7.out 1⟩) (hy := by (intro w hSw; (try dsimp only at hSw); obtain ⟨q0, q1⟩ := hSw; go_simp; try with_reducible rfl))
    try simp only [Act.put, sA, s0, s1]
    refine wpAnyH_ready (rs := [2]) (by kernel_rfl) (by simp) ?_
    refine AllReadyH.cons rfl (fun K hK => ?_) AllReadyH.nil
    replace hK := Lib.hid hK
    have t0 := cell_of B0.out 0
    have t1 := cell_of B0.out 1
    have ft0 := free_of B0.out 0
    have ft1 := free_of B0.out 1
    simp only [List.getElem?_toArray, List.getElem?_cons_succ, List.getElem?_cons_zero] at t0 t1
    go_simp
    clear t0 t1 ft0 ft1
    obtain ⟨p0, p1, p2⟩ := setE2 (.int .i64 0) (.slice none 0 0) B0.out
    generalize ((wc.setCell ⟨g0, 0, none⟩ (.int .i64 0)).setCell ⟨g0, 1, none⟩ (.slice none 0 0)) = wa at *
    have Q0 := Lib.hid p0
    have Q1 := Lib.hid (p1 g1 _ n01 B1.out)
    have Q7 := Lib.hid (p1 s7 _ n07 B7.out)
    have CA := Lib.hid p2
    clear p0 p1 p2
    refine hK.out _ _ ⟨cell_of Q7.out 0, cell_of Q7.out 1⟩ (fun hHeld => ?_)
    clear hK K
    try simp only [Act.put, sA, s0, s1]
    refine wpAnyH_ready (rs := [3]) (by kernel_rfl) (by simp) ?_
    refine AllReadyH.cons rfl (fun K hK => ?_) AllReadyH.nil
    replace hK := Lib.hid hK
    have u0 := cell_of Q1.out 0
    have u1 := cell_of Q1.out 1
    have fu0 := free_of Q1.out 0
    have fu1 := free_of Q1.out 1
    simp only [List.getElem?_toArray, List.getElem?_cons_succ, List.getElem?_cons_zero] at u0 u1
    go_simp
    clear u0 u1 fu0 fu1
    obtain ⟨p0, p1, p2⟩ := setE2 (.int .i64 (rF xs).1) (.int .i64 (rF xs).2) Q1.out
    generalize ((wa.setCell ⟨g1, 0, none⟩ (.int .i64 (rF xs).1)).setCell ⟨g1, 1, none⟩ (.int .i64 (rF xs).2)) = wz at *
    have P9 := And.intro (p1 g0 _ n10 Q0.out) p0
    have R7 := Lib.hid (p1 s7 _ n17 Q7.out)
    have C9 : Chg [g0, g1] wc wz := (CA.out.mono (fun i hi => .inl (by simp at hi; simp [hi]))).trans (p2.mono (fun i hi => .inl (by simp at hi; simp [hi])))
    clear p0 p1 p2
    refine hK.out _ _ ⟨cell_of R7.out 0, cell_of R7.out 1⟩ (fun hHeld => ?_)
    clear hK K
    try simp only [Act.put, sA, s0, s1]
    refine wpAnyH_done (by kernel_rfl) ?_ _
    clear hHeld
    go_wp2
    have P0 := Lib.hid P9.1
    have P1 := Lib.hid P9.2
    have t0 := cell_of P0.out 0
    have t1 := cell_of P0.out 1
    simp only [List.getElem?_toArray, List.getElem?_cons_succ, List.getElem?_cons_zero] at t0 t1
    have u0 := cell_of P1.out 0
    have u1 := cell_of P1.out 1
    simp only [List.getElem?_toArray, List.getElem?_cons_succ, List.getElem?_cons_zero] at u0 u1
    refine bodyPost_ret (v := .tuple #[.agg #[.int .i64 0, .slice none 0 0], .agg #[.int .i64 (rF xs).1, .int .i64 (rF xs).2]]) (by simp [results, Tryz.results25, go_sem, t0, t1, u0, u1]) rfl ?_
    exact ⟨none, 0, rfl, OwnK.none_ _, by simp, C.out.trans' C9 (fun i hi => .inr (by have := Z.out; simp at hi; omega))⟩
  have he' : ((rF xs).1 != 0) = false := by simpa using he
  have FZ := Lib.hid (rN_calm he).2.2.1
  have HE := Lib.hid he
  clear he
  go_wp2_with fail
  clear he'
  clear y0 y1
  refine (qread_any w5 A3 _ c3 (rR xs).1 O3.out.reads (by have := LR.out; have := HN.out; omega) O3.out.cap.1 (by have := O3.out.cap.2; unfold maxLen at this; omega)).mono ?_
  rintro e w6 ⟨A6, c6, rfl, ho, hnw, hc⟩
  have N6 : Hid (∀ a, A6 = some a → w5.heap.size ≤ a.block) := Lib.hid hnw
  have O := Lib.hid ho
  have L5 : Hid (g0 < w5.heap.size ∧ g1 < w5.heap.size) := Lib.hid ⟨lt_of_heap B0.out, lt_of_heap B1.out⟩
  replace C := Lib.hid (C.out.trans hc)
  replace B0 := Lib.hid (hc.at_ B0.out (by simp))
  replace B1 := Lib.hid (hc.at_ B1.out (by simp))
  replace B7 := Lib.hid (hc.at_ B7.out (by simp))
  clear hc ho hnw O3
  obtain ⟨QE, hQE⟩ : ∃ x, readS (rR xs).1 = x := ⟨_, rfl⟩
  have HQE := Lib.hid hQE
  rw [hQE] at O ⊢
  clear hQE
  obtain ⟨w7, hw, hc, b9⟩ := news1 w6 (.cells #[.int .i64 QE.2.1, .int .i64 QE.2.2] 46)
  have W7 := Lib.hid hw
  have B9 := Lib.hid b9
  replace O := Lib.hid (O.out.chg hc (by simp))
  replace C := Lib.hid (C.out.trans hc)
  replace B0 := Lib.hid (hc.at_ B0.out (by simp))
  replace B1 := Lib.hid (hc.at_ B1.out (by simp))
  replace B7 := Lib.hid (hc.at_ B7.out (by simp))
  clear hw hc b9
  go_upto_region 8 with fail
  rw [← W7.out]
  generalize w6.heap.size = s9 at *
  clear W7
  have y0 := cell_of B9.out 0
  have y1 := cell_of B9.out 1
  simp only [List.getElem?_toArray, List.getElem?_cons_succ, List.getElem?_cons_zero] at y0 y1
  by_cases hq : QE.2.1 = 0
  rotate_left
  · skip
    have q1 : (QE.2.1 != 0) = true := bne_iff_ne.2 hq
    have q2 : (QE.2.1 == 0) = false := beq_eq_false_iff_ne.2 hq
    obtain rfl : v = ((0, []), (2, 0)) := by rw [← HV.out]; exact readA_odd HE.out (by rw [HQE.out]; exact hq)
    go_upto_region 9 with fail
    clear HV hq q1 q2
    clear y0 y1
    have t0 := cell_of B0.out 0
    have t1 := cell_of B0.out 1
    have ft0 := free_of B0.out 0
    have ft1 := free_of B0.out 1
    simp only [List.getElem?_toArray, List.getElem?_cons_succ, List.getElem?_cons_zero] at t0 t1
    have u0 := cell_of B1.out 0
    have u1 := cell_of B1.out 1
    have fu0 := free_of B1.out 0
    have fu1 := free_of B1.out 1
    simp only [List.getElem?_toArray, List.getElem?_cons_succ, List.getElem?_cons_zero] at u0 u1
    go_wp2
    clear t0 t1 ft0 ft1
    clear u0 u1 fu0 fu1
    have P9 := put22 (.int .i64 0) (.slice none 0 0) (.int .i64 2) (.int .i64 0) B0.out B1.out n01
    have C9 : Chg [g0, g1] w7 ((((w7.setCell ⟨g0, 0, none⟩ (.int .i64 0)).setCell ⟨g0, 1, none⟩ (.slice none 0 0)).setCell ⟨g1, 0, none⟩ (.int .i64 2)).setCell ⟨g1, 1, none⟩ (.int .i64 0)) := (((((Chg.refl [g0, g1] w7).setCell (p := ⟨g0, 0, none⟩) (.inl (by simp)) _).setCell (p := ⟨g0, 1, none⟩) (.inl (by simp)) _).setCell (p := ⟨g1, 0, none⟩) (.inl (by simp)) _).setCell (p := ⟨g1, 1, none⟩) (.inl (by simp)) _)
    generalize ((((w7.setCell ⟨g0, 0, none⟩ (.int .i64 0)).setCell ⟨g0, 1, none⟩ (.slice none 0 0)).setCell ⟨g1, 0, none⟩ (.int .i64 2)).setCell ⟨g1, 1, none⟩ (.int .i64 0)) = wz at *
    have P0 := Lib.hid P9.1
    have P1 := Lib.hid P9.2
    have t0 := cell_of P0.out 0
    have t1 := cell_of P0.out 1
    simp only [List.getElem?_toArray, List.getElem?_cons_succ, List.getElem?_cons_zero] at t0 t1
    have u0 := cell_of P1.out 0
    have u1 := cell_of P1.out 1
    simp only [List.getElem?_toArray, List.getElem?_cons_succ, List.getElem?_cons_zero] at u0 u1
    refine bodyPost_ret (v := .tuple #[.agg #[.int .i64 0, .slice none 0 0], .agg #[.int .i64 2, .int .i64 0]]) (by simp [results, Tryz.results25, go_sem, t0, t1, u0, u1]) rfl ?_
    exact ⟨none, 0, rfl, OwnK.none_ _, by simp, C.out.trans' C9 (fun i hi => .inr (by have := Z.out; simp at hi; omega))⟩
  have q1 : (QE.2.1 != 0) = false := by simpa using hq
  obtain rfl : v = (((rN xs).1, QE.1), (0, 0)) := by rw [← HV.out, readA_yes HE.out (by rw [HQE.out]; exact hq), HQE.out]
  rw [hq] at y0
  go_upto_region 10 with fail
  clear HV hq q1
  clear y0 y1
  have B7z : Hid (w7.heap[s7]? = some (.cells #[.int .i64 0, .int .i64 0] 46 (0, 0))) := Lib.hid (by have := B7.out; rw [HE.out, FZ.out] at this; exact this)
  replace B7 := B7z
  clear B7z
  have y0 := cell_of B7.out 0
  have y1 := cell_of B7.out 1
  simp only [List.getElem?_toArray, List.getElem?_cons_succ, List.getElem?_cons_zero] at y0 y1
  have n07 : ¬ g0 = s7 := NS.out.1
  have n17 : ¬ g1 = s7 := NS.out.2
  refine wp_region_held_drew (S := fun w' => w'.cell? ⟨s7, 0, none⟩ = some (.int .i64 0) ∧ w'.cell? ⟨s7, 1, none⟩ = some (.int .i64 0)) (by kernel_rfl) ⟨y0, y1⟩ (fun hHeld => ?_)
  have CD := Lib.hid (Chg.refl [] w7).drew
  replace C := Lib.hid (C.out.trans CD.out)
  replace B0 := Lib.hid (CD.out.at_ B0.out (by simp))
  replace B1 := Lib.hid (CD.out.at_ B1.out (by simp))
  replace B7 := Lib.hid (CD.out.at_ B7.out (by simp))
  replace O := Lib.hid (O.out.chg CD.out (by simp))
  clear CD hHeld y0 y1
  generalize w7.drew = wc at *
  refine sy 0 33 rfl rfl ?_ (hS := ⟨cell_of B7.out 0, cell_of B7.out 1⟩)
  try simp only [Act.put, sA, s0, s1]
  refine sy 1 34 rfl rfl ?_ (hS := ⟨cell_of B7.out 0, cell_of B7.out 1⟩)
  try simp only [Act.put, sA, s0, s1]
  refine sy 2 35 rfl rfl ?_ (hS := ⟨cell_of B7.out 0, cell_of B7.out 1⟩)
  try simp only [Act.put, sA, s0, s1]
  refine sy 3 36 rfl rfl ?_ (hS := ⟨cell_of B7.out 0, cell_of B7.out 1⟩) (hy := by (intro w hSw; (try dsimp only at hSw); obtain ⟨q0, q1⟩ := hSw; go_simp; try with_reducible rfl))
  try simp only [Act.put, sA, s0, s1]
  refine wpAnyH_ready (rs := [4]) (by kernel_rfl) (by simp) ?_
  refine AllReadyH.cons rfl (fun K hK => ?_) AllReadyH.nil
  replace hK := Lib.hid hK
  have t0 := cell_of B0.out 0
  have t1 := cell_of B0.out 1
  have ft0 := free_of B0.out 0
  have ft1 := free_of B0.out 1
  simp only [List.getElem?_toArray, List.getElem?_cons_succ, List.getElem?_cons_zero] at t0 t1
  go_simp
  clear t0 t1 ft0 ft1
  obtain ⟨p0, p1, p2⟩ := setE2 (.int .i64 (rN xs).1) (.slice A6 QE.1.length c6) B0.out
  generalize ((wc.setCell ⟨g0, 0, none⟩ (.int .i64 (rN xs).1)).setCell ⟨g0, 1, none⟩ (.slice A6 QE.1.length c6)) = wa at *
  have Q0 := Lib.hid p0
  have Q1 := Lib.hid (p1 g1 _ n01 B1.out)
  have Q7 := Lib.hid (p1 s7 _ n07 B7.out)
  have CA := Lib.hid p2
  clear p0 p1 p2
  refine hK.out _ _ ⟨cell_of Q7.out 0, cell_of Q7.out 1⟩ (fun hHeld => ?_)
  clear hK K
  try simp only [Act.put, sA, s0, s1]
  refine wpAnyH_ready (rs := [5]) (by kernel_rfl) (by simp) ?_
  refine AllReadyH.cons rfl (fun K hK => ?_) AllReadyH.nil
  replace hK := Lib.hid hK
  have u0 := cell_of Q1.out 0
  have u1 := cell_of Q1.out 1
  have fu0 := free_of Q1.out 0
  have fu1 := free_of Q1.out 1
  simp only [List.getElem?_toArray, List.getElem?_cons_succ, List.getElem?_cons_zero] at u0 u1
  go_simp
  clear u0 u1 fu0 fu1
  obtain ⟨p0, p1, p2⟩ := setE2 (.int .i64 0) (.int .i64 0) Q1.out
  generalize ((wa.setCell ⟨g1, 0, none⟩ (.int .i64 0)).setCell ⟨g1, 1, none⟩ (.int .i64 0)) = wz at *
  have P9 := And.intro (p1 g0 _ n10 Q0.out) p0
  have R7 := Lib.hid (p1 s7 _ n17 Q7.out)
  have C9 : Chg [g0, g1] wc wz := (CA.out.mono (fun i hi => .inl (by simp at hi; simp [hi]))).trans (p2.mono (fun i hi => .inl (by simp at hi; simp [hi])))
  clear p0 p1 p2
  refine hK.out _ _ ⟨cell_of R7.out 0, cell_of R7.out 1⟩ (fun hHeld => ?_)
  clear hK K
  try simp only [Act.put, sA, s0, s1]
  refine wpAnyH_done (by kernel_rfl) ?_ _
  clear hHeld
  go_wp2
  have P0 := Lib.hid P9.1
  have P1 := Lib.hid P9.2
  have t0 := cell_of P0.out 0
  have t1 := cell_of P0.out 1
  simp only [List.getElem?_toArray, List.getElem?_cons_succ, List.getElem?_cons_zero] at t0 t1
  have u0 := cell_of P1.out 0
  have u1 := cell_of P1.out 1
  simp only [List.getElem?_toArray, List.getElem?_cons_succ, List.getElem?_cons_zero] at u0 u1
  refine bodyPost_ret (v := .tuple #[.agg #[.int .i64 (rN xs).1, .slice A6 QE.1.length c6], .agg #[.int .i64 0, .int .i64 0]]) (by simp [results, Tryz.results25, go_sem, t0, t1, u0, u1]) rfl ?_
  exact ⟨A6, c6, rfl, O.out.chg C9 (fun a ha => by have := N6.out a ha; have := L5.out; simp; omega), (fun a ha => by have := N6.out a ha; have := L5.out; have := Z.out; omega), C.out.trans' C9 (fun i hi => .inr (by have := Z.out; simp at hi; omega))⟩
end
end Go.Proofs.YtgafkaigkaghcaaGreatDoor
