/- The document's reader: Open, fail, Left, End, and Num. The document's number, read. The document's number, read: where digits follow, or none. The document's reader: Raw and Text. The document's writer and reader, made since a world w. The document's Read of an event: what it wants. The document's effects: Check, Same, Less, Size, Bytes. The document's effects: Read. The document's Read of all bytes. -/
import Derived.Test.YtgbidlhgmeglmaaGreatDoorZerb
import Derived.Test.YtgbidlhgmeglmaaGreatDoorZerc
import Derived.Deep.RegionHeld3
import Derived.Deep.AppendLies
import Derived.Test.YtgbidlhgmeglmaaGreatDoorZerd
import Derived.Test.YtgbidlhgmeglmaaGreatDoorZerm
import Derived.Test.YtgbidlhgmeglmaaGreatDoorZere
import Derived.Deep.QuietTactic
import Derived.BigQuiet
namespace Go.Proofs.YtgbidlhgmeglmaaGreatDoor
section
open Go.RowKit

/-- The document's reader at block v, of the bytes at A. -/
def URdr (w : World) (v : Nat) (A : Option Addr) (c : Nat) (xs : List UInt8) (p : Nat) (fe fa : Int) : Prop :=
  w.heap[v]? = some (.cells #[.slice A xs.length c, .int .i64 p, .int .i64 fe, .int .i64 fa] 127 (0, 0)) ∧ Bs w A xs.length xs ∧ (xs = [] ∨ ∀ a, A = some a → a.block ≠ v) ∧ xs.length ≤ c ∧ c ≤ 9223372036854775807

theorem URdr.chg {S : List Nat} {w w' : World} {v : Nat} {A : Option Addr} {c : Nat} {xs : List UInt8} {p : Nat} {fe fa : Int} (h : URdr w v A c xs p fe fa) (hc : Chg S w w') (hv : v ∉ S) (hA : xs = [] ∨ ∀ a, A = some a → a.block ∉ S) : URdr w' v A c xs p fe fa := by
  obtain ⟨h1, h2, h3⟩ := h
  refine ⟨hc.at_ h1 hv, ?_, h3⟩
  rcases hA with rfl | hA
  · exact Bs.nil _ _
  · exact h2.chg hc hA
theorem URdr.cells {w : World} {v : Nat} {A : Option Addr} {c : Nat} {xs : List UInt8} {p : Nat} {fe fa : Int} (h : URdr w v A c xs p fe fa) :
    w.cell? ⟨v, 0, none⟩ = some (.slice A xs.length c) ∧ w.cell? ⟨v, 1, none⟩ = some (.int .i64 p) ∧ w.cell? ⟨v, 2, none⟩ = some (.int .i64 fe) ∧ w.cell? ⟨v, 3, none⟩ = some (.int .i64 fa) ∧ ∀ j, w.frozen? ⟨v, j, none⟩ = false :=
  ⟨cell_of h.1 0, cell_of h.1 1, cell_of h.1 2, cell_of h.1 3, fun j => free_of h.1 j⟩
theorem URdr.set {w : World} {v : Nat} {A : Option Addr} {c : Nat} {xs : List UInt8} {p : Nat} {fe fa : Int} (h : URdr w v A c xs p fe fa) (e q : Int) :
    URdr ((w.setCell ⟨v, 2, none⟩ (.int .i64 e)).setCell ⟨v, 3, none⟩ (.int .i64 q)) v A c xs p e q ∧ Chg [v] w ((w.setCell ⟨v, 2, none⟩ (.int .i64 e)).setCell ⟨v, 3, none⟩ (.int .i64 q)) := by
  have q1 := heap_setCell_same w v 2 _ _ (.int .i64 e) h.1
  have q2 := heap_setCell_same _ v 3 _ _ (.int .i64 q) q1
  have hc : Chg [v] w ((w.setCell ⟨v, 2, none⟩ (.int .i64 e)).setCell ⟨v, 3, none⟩ (.int .i64 q)) := ((Chg.refl _ _).setCell (by simp) _).setCell (by simp) _
  refine ⟨⟨by simpa using q2, ?_, h.2.2⟩, hc⟩
  rcases h.2.2.1 with h3 | h3
  · subst h3; exact Bs.nil _ _
  · exact h.2.1.chg hc (fun a e => by simpa using h3 a e)
theorem URdr.place {w : World} {v : Nat} {A : Option Addr} {c : Nat} {xs : List UInt8} {p : Nat} {fe fa : Int} (h : URdr w v A c xs p fe fa) (q : Nat) :
    URdr (w.setCell ⟨v, 1, none⟩ (.int .i64 q)) v A c xs q fe fa ∧ Chg [v] w (w.setCell ⟨v, 1, none⟩ (.int .i64 q)) := by
  have q1 := heap_setCell_same w v 1 _ _ (.int .i64 q) h.1
  have hc : Chg [v] w (w.setCell ⟨v, 1, none⟩ (.int .i64 q)) := (Chg.refl _ _).setCell (by simp) _
  refine ⟨⟨by simpa using q1, ?_, h.2.2⟩, hc⟩
  rcases h.2.2.1 with h3 | h3
  · subst h3; exact Bs.nil _ _
  · exact h.2.1.chg hc (fun a e => by simpa using h3 a e)
theorem URdr.drewN {w : World} {v : Nat} {A : Option Addr} {c : Nat} {xs : List UInt8} {p : Nat} {fe fa : Int} (h : URdr w v A c xs p fe fa) (n : Nat) : URdr (w.drewN n) v A c xs p fe fa := h.chg ((Chg.refl [] w).drewN n) (by simp) (.inr (by simp))
/-- Where the bytes lie. -/
theorem Bs.from {w : World} {A : Option Addr} {n : Nat} {xs : List UInt8} (h : Bs w A n xs) (h0 : 0 < xs.length) : ∃ g o, A = some ⟨g, o, none⟩ ∧ ∀ j, j < xs.length → w.cell? ⟨g, o + j, none⟩ = some (.int .u8 ((xs.getD j 0).toNat : Int)) := by
  obtain ⟨a, rfl, hc⟩ := h.cells 0 _ (List.getElem?_eq_getElem h0)
  have hsp := World.cell?_spot hc
  obtain ⟨g, o, sp⟩ := a
  have hsp : sp = none := by simpa [Addr.add] using hsp
  subst hsp
  refine ⟨g, o, rfl, fun j hj => ?_⟩
  obtain ⟨a', e, hcj⟩ := h.cells j _ (List.getElem?_eq_getElem hj)
  cases e
  rw [add_lit] at hcj
  rw [hcj]
  simp [bv, List.getD, hj]

set_option maxHeartbeats 400000 in
theorem vopen_any (w : World) (A : Option Addr) (c : Nat) (xs : List UInt8) (h : Bs w A xs.length xs) (hc1 : xs.length ≤ c) (hc2 : c ≤ 9223372036854775807) :
    Calls Tryz.prog 82 #[.slice A xs.length c] w fun r w' => r = .returned (.pointer (some ⟨w.heap.size, 0, none⟩)) ∧ URdr w' w.heap.size A c xs 0 0 0 ∧ Chg [] w w' := by
  have hold := h.old
  have HO := Lib.hid hold
  clear hold
  go_enter Tryz.func82, Tryz.ntmps82
  go_wp2
  go_ret
  refine ⟨rfl, ⟨heap_alloc_new w _, h.chg ((Chg.refl [] w).alloc _) (by simp), ?_, hc1, hc2⟩, (Chg.refl _ _).alloc _⟩
  rcases HO.out with h1 | h1
  · exact .inl h1
  · exact .inr fun a e => by have := h1 a e; omega

set_option maxHeartbeats 400000 in
theorem ufail_any (w : World) (v : Nat) (A : Option Addr) (c : Nat) (xs : List UInt8) (p : Nat) (fa e q : Int) (h : URdr w v A c xs p 0 fa) :
    Calls Tryz.prog 126 #[.pointer (some ⟨v, 0, none⟩), .int .i64 e, .int .i64 q] w fun r w' => r = .returned (.int .i64 0) ∧ URdr w' v A c xs p e q ∧ Chg [v] w w' := by
  obtain ⟨k0, k1, k2, k3, f⟩ := h.cells
  have f2 := f 2
  have f3 := f 3
  have H := Lib.hid h
  clear h f
  go_enter Tryz.func126, Tryz.ntmps126
  go_wp2
  go_ret
  exact ⟨rfl, H.out.set e q⟩

/-- The fault that End tells. -/
def endF (xs : List UInt8) (p : Nat) (fe fa : Int) : Int × Int := if fe = 0 ∧ p < xs.length then (4, p) else (fe, fa)

set_option maxHeartbeats 400000 in
theorem uend_any (w : World) (v : Nat) (A : Option Addr) (c : Nat) (xs : List UInt8) (p : Nat) (fe fa : Int) (h : URdr w v A c xs p fe fa) :
    Calls Tryz.prog 86 #[.pointer (some ⟨v, 0, none⟩)] w fun r w' => r = .returned (.agg #[.int .i64 (endF xs p fe fa).1, .int .i64 (endF xs p fe fa).2]) ∧ Chg [] w w' := by
  have hv := lt_of_heap h.1
  obtain ⟨k0, k1, k2, k3, f⟩ := h.cells
  clear h f
  unfold endF
  by_cases he : fe = 0
  · subst he
    by_cases hpl : p < xs.length
    · simp only [true_and, if_pos hpl]
      go_enter Tryz.func86, Tryz.ntmps86
      go_wp2
      go_quiet (fail)
      go_wp2
      refine bodyPost_ret (v := .agg #[.int .i64 4, .int .i64 p]) (by simp [results, Tryz.results86, go_sem]) rfl ?_
      exact ⟨rfl, ((((Chg.refl _ _).alloc _).drewN _).setCell (.inr (Nat.le_refl _)) _).setCell (.inr (Nat.le_refl _)) _⟩
    · simp only [true_and, if_neg hpl]
      go_enter Tryz.func86, Tryz.ntmps86
      go_wp2
      go_quiet (fail)
      go_wp2
      refine bodyPost_ret (v := .agg #[.int .i64 0, .int .i64 fa]) (by simp [results, Tryz.results86, go_sem]) rfl ?_
      exact ⟨rfl, ((((Chg.refl _ _).alloc _).drewN _).setCell (.inr (Nat.le_refl _)) _).setCell (.inr (Nat.le_refl _)) _⟩
  · simp only [he, false_and, if_false]
    have he' : (fe == 0) = false := by simpa using he
    clear he
    go_enter Tryz.func86, Tryz.ntmps86
    go_wp2
    go_quiet (fail)
    go_wp2
    refine bodyPost_ret (v := .agg #[.int .i64 fe, .int .i64 fa]) (by simp [results, Tryz.results86, go_sem]) rfl ?_
    exact ⟨rfl, ((((Chg.refl _ _).alloc _).drewN _).setCell (.inr (Nat.le_refl _)) _).setCell (.inr (Nat.le_refl _)) _⟩
end
section
open Go.RowKit

/-- What Num of the document's reader leaves. -/
def UNumPost (w : World) (v : Nat) (A : Option Addr) (c : Nat) (xs : List UInt8) (r : Int × Nat × Int × Int) (e : Ending) (w' : World) : Prop :=
  e = .returned (.int .i64 r.1) ∧ URdr w' v A c xs r.2.1 r.2.2.1 r.2.2.2 ∧ Chg [v] w w'

set_option maxHeartbeats 400000 in
theorem unum_no (w : World) (v : Nat) (A : Option Addr) (c : Nat) (xs : List UInt8) (p : Nat) (fe fa low high : Int) (h : URdr w v A c xs p fe fa) (he : fe ≠ 0) :
    Calls Tryz.prog 83 #[.pointer (some ⟨v, 0, none⟩), .int .i64 low, .int .i64 high] w (UNumPost w v A c xs (0, p, fe, fa)) := by
  obtain ⟨k0, k1, k2, k3, f⟩ := h.cells
  have H := Lib.hid h
  have he' : (fe != 0) = true := by simpa using he
  clear he h f
  go_enter Tryz.func83, Tryz.ntmps83
  go_wp2
  go_ret
  exact ⟨rfl, H.out, Chg.refl _ _⟩

set_option maxHeartbeats 400000 in
theorem unum_end (w : World) (v : Nat) (A : Option Addr) (c : Nat) (xs : List UInt8) (fa low high : Int) (h : URdr w v A c xs xs.length 0 fa) :
    Calls Tryz.prog 83 #[.pointer (some ⟨v, 0, none⟩), .int .i64 low, .int .i64 high] w (UNumPost w v A c xs (0, xs.length, 4, xs.length)) := by
  obtain ⟨k0, k1, k2, k3, f⟩ := h.cells
  have H := Lib.hid h
  clear h f
  go_enter Tryz.func83, Tryz.ntmps83
  go_wp2
  go_quiet (fail)
  go_wp2_with fail
  refine (ufail_any _ v A c xs _ fa 4 xs.length (H.out.drewN _)).mono ?_
  rintro r w1 ⟨rfl, hR, hC⟩
  go_wp2
  go_ret
  exact ⟨rfl, hR, ((Chg.refl _ _).drewN _).trans hC⟩

set_option maxHeartbeats 400000 in
theorem unum_arg (w : World) (v : Nat) (A : Option Addr) (c : Nat) (xs : List UInt8) (p : Nat) (fa low high : Int) (h : URdr w v A c xs p 0 fa) (hp : p < xs.length) (hl : xs.length ≤ 140737488351232) (h8 : 8 < bt xs p) :
    Calls Tryz.prog 83 #[.pointer (some ⟨v, 0, none⟩), .int .i64 low, .int .i64 high] w (UNumPost w v A c xs (0, p, 2, p)) := by
  obtain ⟨k0, k1, k2, k3, f⟩ := h.cells
  have H := Lib.hid h
  obtain ⟨g, o, rfl, hc⟩ := h.2.1.from (by omega)
  have hcp : w.cell? ⟨g, o + p, none⟩ = some (.int .u8 (bt xs p : Int)) := hc p hp
  have hbb := bt_lt xs p
  clear h f hc
  go_enter Tryz.func83, Tryz.ntmps83
  go_wp2
  iterate 2 (go_quiet (fail); go_wp2_with fail)
  refine (ufail_any _ v _ c xs _ fa 2 p (H.out.drewN _)).mono ?_
  rintro r w1 ⟨rfl, hR, hC⟩
  go_wp2
  go_ret
  exact ⟨rfl, hR, ((Chg.refl _ _).drewN _).trans hC⟩

set_option maxHeartbeats 400000 in
theorem unum_short (w : World) (v : Nat) (A : Option Addr) (c : Nat) (xs : List UInt8) (p : Nat) (fa low high : Int) (h : URdr w v A c xs p 0 fa) (hp : p < xs.length) (hl : xs.length ≤ 140737488351232) (h8 : bt xs p ≤ 8) (hs : xs.length - (p + 1) < bt xs p) :
    Calls Tryz.prog 83 #[.pointer (some ⟨v, 0, none⟩), .int .i64 low, .int .i64 high] w (UNumPost w v A c xs (0, p, 4, xs.length)) := by
  obtain ⟨k0, k1, k2, k3, f⟩ := h.cells
  have H := Lib.hid h
  obtain ⟨g, o, rfl, hc⟩ := h.2.1.from (by omega)
  have hcp : w.cell? ⟨g, o + p, none⟩ = some (.int .u8 (bt xs p : Int)) := hc p hp
  have hbb := bt_lt xs p
  clear h f hc
  go_enter Tryz.func83, Tryz.ntmps83
  go_wp2
  iterate 3 (go_quiet (fail); go_wp2_with fail)
  refine (ufail_any _ v _ c xs _ fa 4 xs.length (H.out.drewN _)).mono ?_
  rintro r w1 ⟨rfl, hR, hC⟩
  go_wp2
  go_ret
  exact ⟨rfl, hR, ((Chg.refl _ _).drewN _).trans hC⟩

set_option maxHeartbeats 400000 in
theorem unum_zero (w : World) (v : Nat) (A : Option Addr) (c : Nat) (xs : List UInt8) (p : Nat) (fa low high : Int) (h : URdr w v A c xs p 0 fa) (hp : p < xs.length) (hl : xs.length ≤ 140737488351232) (h8 : bt xs p ≤ 8) (hs : bt xs p ≤ xs.length - (p + 1)) (h1 : 0 < bt xs p) (hz : bt xs (p + 1) = 0) :
    Calls Tryz.prog 83 #[.pointer (some ⟨v, 0, none⟩), .int .i64 low, .int .i64 high] w (UNumPost w v A c xs (0, p, 2, p)) := by
  obtain ⟨k0, k1, k2, k3, f⟩ := h.cells
  have H := Lib.hid h
  obtain ⟨g, o, rfl, hc⟩ := h.2.1.from (by omega)
  have hcp : w.cell? ⟨g, o + p, none⟩ = some (.int .u8 (bt xs p : Int)) := hc p hp
  have hcz : w.cell? ⟨g, o + (p + 1), none⟩ = some (.int .u8 (bt xs (p + 1) : Int)) := hc (p + 1) (by omega)
  rw [hz] at hcz
  have hbb := bt_lt xs p
  clear h f hc
  go_enter Tryz.func83, Tryz.ntmps83
  go_wp2
  iterate 4 (go_quiet (fail); go_wp2_with fail)
  refine (ufail_any _ v _ c xs _ fa 2 p (H.out.drewN _)).mono ?_
  rintro r w1 ⟨rfl, hR, hC⟩
  go_wp2
  go_ret
  exact ⟨rfl, hR, ((Chg.refl _ _).drewN _).trans hC⟩
end
section
open Go.RowKit

theorem dv_head (xs : List UInt8) (p : Nat) : ∀ k, p + 1 + (k + 1) ≤ xs.length → bt xs (p + 1) * 256 ^ k ≤ dv xs p (k + 1) ∧ dv xs p (k + 1) < (bt xs (p + 1) + 1) * 256 ^ k
  | 0, h => by
    have := dv_succ xs p 0 (by omega)
    rw [dv_zero, Nat.add_zero] at this
    rw [this, Nat.add_zero]
    omega
  | k + 1, h => by
    have ih := dv_head xs p k (by omega)
    have e := dv_succ xs p (k + 1) (by omega)
    have hb := bt_lt xs (p + 1 + (k + 1))
    rw [e, Nat.pow_succ, ← Nat.mul_assoc, ← Nat.mul_assoc]
    omega
theorem dv_big (xs : List UInt8) (p : Nat) (h : p + 1 + 8 ≤ xs.length) : 4611686018427387903 < dv xs p 8 ↔ 63 < bt xs (p + 1) := by
  have := dv_head xs p 7 h
  have e : 256 ^ 7 = 72057594037927936 := by decide
  rw [e, show (7 + 1 : Nat) = 8 from rfl] at this
  omega
theorem dv_small (xs : List UInt8) (p n : Nat) (h : p + 1 + n ≤ xs.length) (hn : n < 8) : dv xs p n ≤ 4611686018427387903 := by
  have h1 := dv_lt xs p n h
  have h2 : 256 ^ n ≤ 256 ^ 7 := Nat.pow_le_pow_right (by omega) (by omega)
  have e : 256 ^ 7 = 72057594037927936 := by decide
  omega
theorem dv_mono (xs : List UInt8) (p : Nat) : ∀ n j, j ≤ n → p + 1 + n ≤ xs.length → dv xs p j ≤ dv xs p n
  | 0, j, hj, _ => by
    obtain rfl : j = 0 := by omega
    exact Nat.le_refl _
  | n + 1, j, hj, h => by
    by_cases e : j = n + 1
    · subst e; exact Nat.le_refl _
    · have ih := dv_mono xs p n j (by omega) (by omega)
      have := dv_succ xs p n (by omega)
      omega

theorem URdr.step {w : World} {v : Nat} {A : Option Addr} {c : Nat} {xs : List UInt8} {p : Nat} {fe fa : Int} (h : URdr w v A c xs p fe fa) (n q : Nat) :
    URdr ((w.drewN n).setCell ⟨v, 1, none⟩ (.int .i64 q)) v A c xs q fe fa ∧ Chg [v] w ((w.drewN n).setCell ⟨v, 1, none⟩ (.int .i64 q)) :=
  ⟨((h.drewN n).place q).1, ((Chg.refl _ _).drewN n).trans ((h.drewN n).place q).2⟩

set_option maxHeartbeats 400000 in
theorem unum_big (w : World) (v : Nat) (A : Option Addr) (c : Nat) (xs : List UInt8) (p : Nat) (fa low high : Int) (h : URdr w v A c xs p 0 fa) (hl : xs.length ≤ 140737488351232) (h8 : bt xs p = 8) (hs : p + 1 + 8 ≤ xs.length) (hz : 63 < bt xs (p + 1)) :
    Calls Tryz.prog 83 #[.pointer (some ⟨v, 0, none⟩), .int .i64 low, .int .i64 high] w (UNumPost w v A c xs (0, p, 5, p)) := by
  obtain ⟨k0, k1, k2, k3, f⟩ := h.cells
  have H := Lib.hid h
  obtain ⟨g, o, rfl, hc⟩ := h.2.1.from (by omega)
  have hcp : w.cell? ⟨g, o + p, none⟩ = some (.int .u8 (bt xs p : Int)) := hc p (by omega)
  rw [h8] at hcp
  have hcz : w.cell? ⟨g, o + (p + 1), none⟩ = some (.int .u8 (bt xs (p + 1) : Int)) := hc (p + 1) (by omega)
  have hz0 : ((bt xs (p + 1) : Int) == 0) = false := by simp only [beq_eq_false_iff_ne, ne_eq]; omega
  have hbb := bt_lt xs (p + 1)
  clear h f hc
  go_enter Tryz.func83, Tryz.ntmps83
  go_wp2
  iterate 5 (go_quiet (fail); go_wp2_with fail)
  refine (ufail_any _ v _ c xs _ fa 5 p (H.out.drewN _)).mono ?_
  rintro r w1 ⟨rfl, hR, hC⟩
  go_wp2
  go_ret
  exact ⟨rfl, hR, ((Chg.refl _ _).drewN _).trans hC⟩

set_option maxRecDepth 20000 in
set_option maxHeartbeats 400000 in
theorem unum_none (w : World) (v : Nat) (A : Option Addr) (c : Nat) (xs : List UInt8) (p : Nat) (fa low high : Int) (h : URdr w v A c xs p 0 fa) (hp : p < xs.length) (hl : xs.length ≤ 140737488351232) (h8 : bt xs p = 0) :
    Calls Tryz.prog 83 #[.pointer (some ⟨v, 0, none⟩), .int .i64 low, .int .i64 high] w (UNumPost w v A c xs (if 0 < low ∨ high < 0 then (0, p, 5, p) else (0, p + 1, 0, fa))) := by
  obtain ⟨k0, k1, k2, k3, f⟩ := h.cells
  have f1 := f 1
  have H := Lib.hid h
  obtain ⟨g, o, rfl, hc⟩ := h.2.1.from (by omega)
  have hcp : w.cell? ⟨g, o + p, none⟩ = some (.int .u8 (bt xs p : Int)) := hc p (by omega)
  rw [h8] at hcp
  clear h f hc
  by_cases hr : 0 < low ∨ high < 0
  · rw [if_pos hr]
    have hr' : 0 < low ∨ low ≤ 0 ∧ high < 0 := by omega
    clear hr
    rcases hr' with hr | ⟨hr, hr2⟩
    all_goals
      go_enter Tryz.func83, Tryz.ntmps83
      go_wp2
      iterate 5 (go_quiet (fail); go_wp2)
      refine wp_loop_rounds 1 ?_
      rw [rounds_succ]
      go_wp2_with fail
      refine (ufail_any _ v _ c xs _ fa 5 p (H.out.drewN _)).mono ?_
      rintro r w1 ⟨rfl, hR, hC⟩
      go_wp2
      go_ret
      exact ⟨rfl, hR, ((Chg.refl _ _).drewN _).trans hC⟩
  · rw [if_neg hr]
    have hr1 : low ≤ 0 := by omega
    have hr2 : 0 ≤ high := by omega
    clear hr
    go_enter Tryz.func83, Tryz.ntmps83
    go_wp2
    iterate 5 (go_quiet (fail); go_wp2)
    refine wp_loop_rounds 1 ?_
    rw [rounds_succ]
    go_wp2
    go_ret
    exact ⟨rfl, H.out.step _ (p + 1)⟩

set_option maxRecDepth 20000 in
set_option maxHeartbeats 1000000 in
theorem unum_digits (w : World) (v : Nat) (A : Option Addr) (c : Nat) (xs : List UInt8) (p : Nat) (fa low high : Int) (h : URdr w v A c xs p 0 fa) (hl : xs.length ≤ 140737488351232) (h0 : 0 < bt xs p) (h8 : bt xs p ≤ 8) (hs : p + 1 + bt xs p ≤ xs.length) (hz : bt xs (p + 1) ≠ 0) (hv : dv xs p (bt xs p) ≤ 4611686018427387903) :
    Calls Tryz.prog 83 #[.pointer (some ⟨v, 0, none⟩), .int .i64 low, .int .i64 high] w (UNumPost w v A c xs (if (dv xs p (bt xs p) : Int) < low ∨ high < (dv xs p (bt xs p) : Int) then (0, p, 5, p) else (dv xs p (bt xs p), p + 1 + bt xs p, 0, fa))) := by
  obtain ⟨k0, k1, k2, k3, f⟩ := h.cells
  have f1 := f 1
  have H := Lib.hid h
  obtain ⟨g, o, rfl, hc⟩ := h.2.1.from (by omega)
  have hcp : w.cell? ⟨g, o + p, none⟩ = some (.int .u8 (bt xs p : Int)) := hc p (by omega)
  have hcz : w.cell? ⟨g, o + (p + 1), none⟩ = some (.int .u8 (bt xs (p + 1) : Int)) := hc (p + 1) (by omega)
  have hcell : ∀ j, p + 1 + j < xs.length → w.cell? ⟨g, o + (p + 1 + j), none⟩ = some (.int .u8 (bt xs (p + 1 + j) : Int)) := fun j hj => hc (p + 1 + j) hj
  have hm : ∀ j, j ≤ bt xs p → dv xs p j ≤ 4611686018427387903 := fun j hj => Nat.le_trans (dv_mono xs p _ j hj (by omega)) hv
  have Hc := Lib.hid hcell
  have Hm := Lib.hid hm
  have hz0 : ((bt xs (p + 1) : Int) == 0) = false := by simp only [beq_eq_false_iff_ne, ne_eq]; omega
  have hbb := bt_lt xs (p + 1)
  have h63 : bt xs p < 8 ∨ bt xs p = 8 ∧ bt xs (p + 1) ≤ 63 := by
    by_cases e : bt xs p < 8
    · exact .inl e
    · have e8 : bt xs p = 8 := by omega
      have := dv_big xs p (by omega)
      rw [e8] at hv
      exact .inr ⟨e8, by omega⟩
  clear h f hc hcell hm hv hz
  generalize hR : (if (dv xs p (bt xs p) : Int) < low ∨ high < (dv xs p (bt xs p) : Int) then ((0 : Int), p, (5 : Int), (p : Int)) else ((dv xs p (bt xs p) : Int), p + 1 + bt xs p, 0, fa)) = R
  generalize hn : bt xs p = n at *
  have HR := Lib.hid hR
  clear hR
  have HN := Lib.hid hn
  clear hn
  rcases h63 with h63 | ⟨hn8, h63⟩
  all_goals
    first
    | (have h88 : ((n : Int) == 8) = true := by (subst hn8; rfl)); clear hn8
    | (have h88 : ((n : Int) == 8) = false := by (simp only [beq_eq_false_iff_ne, ne_eq]; omega)); clear h63
    go_enter Tryz.func83, Tryz.ntmps83
    go_wp2
    iterate 5 (go_quiet (fail); go_wp2)
    go_loopw [8, 9] (fun x i wr => ∃ j k : Nat, j ≤ n ∧ i = .int .i64 j ∧ x = .int .i64 (dv xs p j) ∧ wr = w.drewN k) (fun _ i _ => n - (intOf i).toNat)
    case atStart => exact ⟨0, _, by omega, rfl, by rw [dv_zero]; rfl, by simp only [World.drewN_drewN]; exact rfl⟩
    case round =>
      obtain ⟨j, k, hj, rfl, rfl, rfl⟩ := hrel
      clear hcz hz0 hbb h88
      by_cases hlt : j < n
      · have hcj := Hc.out j (by omega)
        have hbj := Hm.out (j + 1) (by omega)
        rw [dv_succ xs p j (by omega)] at hbj
        have hbb2 := bt_lt xs (p + 1 + j)
        go_wp2
        go_quiet (fail)
        go_wp2
        exact ⟨⟨j + 1, _, by omega, by go_num, by rw [dv_succ xs p j (by omega)]; go_num, rfl⟩, by simp [intOf]; omega⟩
      · obtain rfl : j = n := by omega
        have hb := Hm.out j (by omega)
        have hR := HR.out
        by_cases hlo : (dv xs p j : Int) < low
        · rw [if_pos (.inl hlo)] at hR
          subst hR
          go_wp2_with fail
          refine (ufail_any _ v _ c xs _ fa 5 p (H.out.drewN _)).mono ?_
          rintro r w1 ⟨rfl, hR, hC⟩
          go_wp2
          go_ret
          exact ⟨rfl, hR, ((Chg.refl _ _).drewN _).trans hC⟩
        · by_cases hhi : high < (dv xs p j : Int)
          · rw [if_pos (.inr hhi)] at hR
            subst hR
            go_wp2_with fail
            refine (ufail_any _ v _ c xs _ fa 5 p (H.out.drewN _)).mono ?_
            rintro r w1 ⟨rfl, hR, hC⟩
            go_wp2
            go_ret
            exact ⟨rfl, hR, ((Chg.refl _ _).drewN _).trans hC⟩
          · rw [if_neg (by omega)] at hR
            subst hR
            go_wp2
            go_ret
            exact ⟨rfl, H.out.step _ (p + 1 + j)⟩

/-- Num of the document's reader, whatever came ahead. -/
theorem unum_any (w : World) (v : Nat) (A : Option Addr) (c : Nat) (xs : List UInt8) (p : Nat) (fe fa low high : Int) (h : URdr w v A c xs p fe fa) (hp : p ≤ xs.length) (hl : xs.length ≤ 140737488351232) :
    Calls Tryz.prog 83 #[.pointer (some ⟨v, 0, none⟩), .int .i64 low, .int .i64 high] w (UNumPost w v A c xs (rNum xs p fe fa low high)) := by
  unfold rNum
  by_cases he : fe = 0
  · subst he
    simp only [ne_eq, not_true_eq_false, if_false]
    by_cases h1 : p = xs.length
    · subst h1
      simp only [numAt, if_pos]
      exact unum_end w v A c xs fa low high h
    have hlt : p < xs.length := by omega
    by_cases h2 : 8 < bt xs p
    · simp only [numAt, if_neg h1, if_pos h2]
      exact unum_arg w v A c xs p fa low high h hlt hl h2
    by_cases h3 : xs.length - (p + 1) < bt xs p
    · simp only [numAt, if_neg h1, if_neg h2, if_pos h3]
      exact unum_short w v A c xs p fa low high h hlt hl (by omega) h3
    by_cases h4 : 0 < bt xs p ∧ bt xs (p + 1) = 0
    · simp only [numAt, if_neg h1, if_neg h2, if_neg h3, if_pos h4]
      exact unum_zero w v A c xs p fa low high h hlt hl (by omega) (by omega) h4.1 h4.2
    simp only [numAt, if_neg h1, if_neg h2, if_neg h3, if_neg h4]
    by_cases h6 : bt xs p = 0
    · have := unum_none w v A c xs p fa low high h hlt hl h6
      rw [h6, dv_zero]
      by_cases hr : 0 < low ∨ high < 0
      · rw [if_pos hr] at this
        rw [if_pos (by omega)]
        exact this
      · rw [if_neg hr] at this
        rw [if_neg (by omega)]
        exact this
    · by_cases h7 : 4611686018427387903 < dv xs p (bt xs p)
      · rw [if_pos (.inl h7)]
        have h8 : bt xs p = 8 := by
          by_cases e : bt xs p < 8
          · have := dv_small xs p (bt xs p) (by omega) e
            omega
          · omega
        rw [h8] at h7
        exact unum_big w v A c xs p fa low high h hl h8 (by omega) ((dv_big xs p (by omega)).1 h7)
      · have := unum_digits w v A c xs p fa low high h hl (by omega) (by omega) (by omega) (by omega) (by omega)
        by_cases hr : (dv xs p (bt xs p) : Int) < low ∨ high < (dv xs p (bt xs p) : Int)
        · rw [if_pos hr] at this
          rw [if_pos (.inr hr)]
          exact this
        · rw [if_neg hr] at this
          rw [if_neg (by omega)]
          exact this
  · simp only [ne_eq, he, not_false_eq_true, if_true]
    exact unum_no w v A c xs p fe fa low high h he
end
section
open Go.RowKit

theorem add_twice (a : Addr) (i j : Nat) : (a.add i).add j = a.add (i + j) := by
  unfold Addr.add
  by_cases hi : i = 0 <;> by_cases hj : j = 0 <;> simp [hi, hj, Nat.add_assoc]
/-- A part of bytes. -/
theorem Bs.part {w : World} {A : Option Addr} {xs : List UInt8} (h : Bs w A xs.length xs) (q n : Nat) (hq : q + n ≤ xs.length) : Bs w (Option.map (fun x => x.add q) A) n ((xs.drop q).take n) := by
  refine ⟨by simp; omega, fun j u hj => ?_⟩
  rw [List.getElem?_take, List.getElem?_drop] at hj
  split at hj
  · obtain ⟨a, rfl, hc⟩ := h.cells (q + j) u hj
    exact ⟨a.add q, rfl, by rw [add_twice]; exact hc⟩
  · cases hj

theorem app_cell {w2 w3 : World} {o : Obj} {p : Addr} {u : Value} (hg : (w2.alloc o).drew.grownBy w3 (some w2.heap.size)) (hlt : p.block < w2.heap.size) (h : w2.cell? p = some u) : w3.cell? p = some u := by
  refine (World.cell?_of_block (w := w2) ?_).trans h
  refine (hg.block _ ?_ (by simp; omega)).trans (Below.heap_alloc _ _ _ hlt)
  show p.block < (w2.alloc o).heap.size
  rw [World.size_alloc]
  omega
/-- append of bytes, at a step of a region that draws its order. -/
theorem step_app {ops : Array Oper} {o : Oper} {a : Act} {w : World} {K : Act → World → Prop} {Q : Exit → Act → World → Prop} {E : Prop} (hgd : o.guard = none) (s x : Operand)
    (ho : o.op = .call { callee := .builtin .append, args := #[s, x], argTypes := #[24, 24] })
    {A : Option Addr} {c n : Nat} {xs : List UInt8} (hs : a.eval s = .slice A n c) (hown : OwnB w A c xs) (hn : xs.length = n) {B : Option Addr} {m d : Nat} {ys : List UInt8} (hx : a.eval x = .slice B m d) (hr : Bs w B m ys) (hlen : n + m ≤ 140737488355327)
    (h : ∀ A' c' w', OwnB w' A' c' (xs ++ ys) → w.grownBy w' (A.map (·.block)) → (A' = A ∨ A' = some ⟨w.heap.size, 0, none⟩) → K (a.put o.dst (.slice A' (n + m) c')) w') :
    if Region.wanted o (yielded ops a.tmps) = true then Oper.wp Tryz.prog o a w K Q else E := by
  have hw : Region.wanted o (yielded ops a.tmps) = true := by simp [Region.wanted, hgd]
  rw [if_pos hw]
  subst hn
  obtain ⟨A', c', w', hrun, h2, h3, h4⟩ := run_app w o.type hown (d := d) hr hlen
  unfold Oper.wp execOp
  simp only [ho, resolve, invoke, builtin, Sem.run_bind, Sem.run_pure, Result.andThen_ok, List.map_toArray, List.map_cons, List.map_nil, hs, hx, hrun]
  exact h A' c' w' h2 h3 h4

/-- What Raw of the document's reader leaves. -/
def URawPost (w : World) (v : Nat) (A : Option Addr) (c : Nat) (xs : List UInt8) (r : List UInt8 × Nat × Int × Int) (e : Ending) (w' : World) : Prop :=
  ∃ A' c', e = .returned (.slice A' r.1.length c') ∧ OwnB w' A' c' r.1 ∧ (∀ a, A' = some a → w.heap.size ≤ a.block) ∧ URdr w' v A c xs r.2.1 r.2.2.1 r.2.2.2 ∧ Chg [v] w w'

theorem URdr.back {w : World} {v : Nat} {A : Option Addr} {c : Nat} {xs : List UInt8} {p q : Nat} {fe fa : Int} (h : URdr w v A c xs q fe fa) (n : Nat) :
    URawPost w v A c xs ([], p, fe, fa) (.returned (.slice none 0 0)) ((w.drewN n).setCell ⟨v, 1, none⟩ (.int .i64 p)) :=
  ⟨none, 0, rfl, OwnB.none_ _, by simp, h.step n p⟩
theorem URawPost.after {w w1 w' : World} {v : Nat} {A : Option Addr} {c : Nat} {xs : List UInt8} {r : List UInt8 × Nat × Int × Int} {e : Ending} (hc : Chg [v] w w1) (h : URawPost w1 v A c xs r e w') : URawPost w v A c xs r e w' := by
  obtain ⟨A', c', h1, h2, h3, h4, h5⟩ := h
  have := hc.size
  exact ⟨A', c', h1, h2, fun a e => by have := h3 a e; omega, h4, hc.trans h5⟩

set_option maxRecDepth 20000 in
set_option maxHeartbeats 1000000 in
theorem uraw_failed (w : World) (v : Nat) (A : Option Addr) (c : Nat) (xs : List UInt8) (p : Nat) (fe fa most : Int) (h : URdr w v A c xs p fe fa) (hp : p ≤ xs.length) (hl : xs.length ≤ 140737488351232) (n : Int) (q : Nat) (fe' fa' : Int) (hn : rNum xs p fe fa 0 4611686018427387903 = (n, q, fe', fa')) (he : fe' ≠ 0) :
    Calls Tryz.prog 85 #[.pointer (some ⟨v, 0, none⟩), .int .i64 most] w (URawPost w v A c xs ([], p, fe', fa')) := by
  have hnum := unum_any w v A c xs p fe fa 0 4611686018427387903 h hp hl
  rw [hn] at hnum
  obtain ⟨k0, k1, k2, k3, f⟩ := h.cells
  have HN := Lib.hid hnum
  have he' : (fe' == 0) = false := by simpa using he
  have he2 : (fe' != 0) = true := by simpa using he
  clear hnum hn h f he k0 k2 k3
  go_enter Tryz.func85, Tryz.ntmps85
  go_wp2_with fail
  refine HN.out.mono ?_
  rintro r w1 ⟨rfl, hR, hC⟩
  obtain ⟨k0, k1, k2, k3, f⟩ := hR.cells
  have f1 := f 1
  have HR := Lib.hid hR
  have HC := Lib.hid hC
  clear hR hC f
  go_wp2
  go_quiet (fail)
  go_wp2
  go_ret
  exact (HR.out.back _).after HC.out

set_option maxRecDepth 20000 in
set_option maxHeartbeats 1000000 in
theorem uraw_long (w : World) (v : Nat) (A : Option Addr) (c : Nat) (xs : List UInt8) (p : Nat) (fe fa most : Int) (h : URdr w v A c xs p fe fa) (hp : p ≤ xs.length) (hl : xs.length ≤ 140737488351232) (n q : Nat) (fa' : Int) (hn : rNum xs p fe fa 0 4611686018427387903 = ((n : Int), q, 0, fa')) (hm : most < n) :
    Calls Tryz.prog 85 #[.pointer (some ⟨v, 0, none⟩), .int .i64 most] w (URawPost w v A c xs ([], p, 3, p)) := by
  have hnum := unum_any w v A c xs p fe fa 0 4611686018427387903 h hp hl
  rw [hn] at hnum
  obtain ⟨k0, k1, k2, k3, f⟩ := h.cells
  have HN := Lib.hid hnum
  clear hnum hn h f k0 k2 k3
  go_enter Tryz.func85, Tryz.ntmps85
  go_wp2_with fail
  refine HN.out.mono ?_
  rintro r w1 ⟨rfl, hR, hC⟩
  obtain ⟨k0, k1, k2, k3, f⟩ := hR.cells
  have HR := Lib.hid hR
  have HC := Lib.hid hC
  clear hR hC f
  go_wp2_with fail
  refine (ufail_any _ v _ c xs _ fa' 3 p HR.out).mono ?_
  clear k0 k1 k2 k3
  rintro r w2 ⟨rfl, hR, hC⟩
  obtain ⟨k0, k1, k2, k3, f⟩ := hR.cells
  have f1 := f 1
  have HR2 := Lib.hid hR
  have HC2 := Lib.hid (HC.out.trans hC)
  clear hR hC f
  go_wp2
  go_quiet (fail)
  go_wp2
  go_ret
  exact (HR2.out.back _).after HC2.out

set_option maxRecDepth 20000 in
set_option maxHeartbeats 1000000 in
theorem uraw_end (w : World) (v : Nat) (A : Option Addr) (c : Nat) (xs : List UInt8) (p : Nat) (fe fa most : Int) (h : URdr w v A c xs p fe fa) (hp : p ≤ xs.length) (hl : xs.length ≤ 140737488351232) (n q : Nat) (fa' : Int) (hn : rNum xs p fe fa 0 4611686018427387903 = ((n : Int), q, 0, fa')) (hq : q ≤ xs.length) (hm : n ≤ most) (hs : (xs.length : Int) - q < n) :
    Calls Tryz.prog 85 #[.pointer (some ⟨v, 0, none⟩), .int .i64 most] w (URawPost w v A c xs ([], p, 4, xs.length)) := by
  have hnum := unum_any w v A c xs p fe fa 0 4611686018427387903 h hp hl
  rw [hn] at hnum
  obtain ⟨k0, k1, k2, k3, f⟩ := h.cells
  have HN := Lib.hid hnum
  clear hnum hn h f k0 k2 k3
  go_enter Tryz.func85, Tryz.ntmps85
  go_wp2_with fail
  refine HN.out.mono ?_
  rintro r w1 ⟨rfl, hR, hC⟩
  obtain ⟨k0, k1, k2, k3, f⟩ := hR.cells
  have HR := Lib.hid hR
  have HC := Lib.hid hC
  clear hR hC f
  go_wp2
  go_quiet (fail)
  go_wp2_with fail
  refine (ufail_any _ v _ c xs _ fa' 4 xs.length (HR.out.drewN _)).mono ?_
  clear k0 k1 k2 k3
  rintro r w2 ⟨rfl, hR, hC⟩
  obtain ⟨k0, k1, k2, k3, f⟩ := hR.cells
  have f1 := f 1
  have HR2 := Lib.hid hR
  have HC2 := Lib.hid ((HC.out.drewN _).trans hC)
  clear hR hC f
  go_wp2
  go_ret
  exact (HR2.out.back 0).after HC2.out

theorem uraw_fin {w w2 w3 : World} {v : Nat} {A A' : Option Addr} {c c' : Nat} {xs ys : List UInt8} {t n : Nat} {fa' : Int} {o : Obj} (hc : Chg [v] w w2) (hr : URdr w2 v A c xs t 0 fa') (own : OwnB w3 A' c' ([] ++ ys))
    (hg : (w2.alloc o).drew.grownBy w3 (some w2.heap.size)) (hA : A' = some ⟨w2.heap.size, 0, none⟩ ∨ A' = some ⟨(w2.alloc o).heap.size, 0, none⟩) (hn : ys.length = n) : URawPost w v A c xs (ys, t, 0, fa') (.returned (.slice A' n c')) w3 := by
  subst hn
  have h3 : Chg [] w2 w3 := (((Chg.refl [] w2).alloc o).drew).grown hg (fun k e => by cases e; exact .inr (Nat.le_refl _))
  have hs := hc.size
  refine ⟨A', c', rfl, by simpa using own, ?_, hr.chg h3 (by simp) (.inr (by simp)), hc.trans (h3.mono (by simp))⟩
  rintro a rfl
  rcases hA with h | h
  · cases h; exact hs
  · cases h
    show w.heap.size ≤ (w2.alloc o).heap.size
    rw [World.size_alloc]; omega

set_option maxRecDepth 20000 in
set_option maxHeartbeats 1000000 in
theorem uraw_ok (w : World) (v : Nat) (A : Option Addr) (c : Nat) (xs : List UInt8) (p : Nat) (fe fa most : Int) (h : URdr w v A c xs p fe fa) (hp : p ≤ xs.length) (hl : xs.length ≤ 140737488351232) (n q : Nat) (fa' : Int) (hn : rNum xs p fe fa 0 4611686018427387903 = ((n : Int), q, 0, fa')) (hq : q ≤ xs.length) (hm : n ≤ most) (hs : n ≤ (xs.length : Int) - q) :
    Calls Tryz.prog 85 #[.pointer (some ⟨v, 0, none⟩), .int .i64 most] w (URawPost w v A c xs ((xs.drop q).take n, q + n, 0, fa')) := by
  have hnum := unum_any w v A c xs p fe fa 0 4611686018427387903 h hp hl
  rw [hn] at hnum
  obtain ⟨k0, k1, k2, k3, f⟩ := h.cells
  have HN := Lib.hid hnum
  clear hnum hn h f k0 k2 k3
  go_enter Tryz.func85, Tryz.ntmps85
  go_wp2_with fail
  refine HN.out.mono ?_
  rintro r w1 ⟨rfl, hR, hC⟩
  obtain ⟨k0, k1, k2, k3, f⟩ := hR.cells
  have f1 := f 1
  have HR := Lib.hid hR
  have HC := Lib.hid hC
  clear hR hC f
  go_wp2
  go_quiet (fail)
  go_wp2
  have hst := HR.out.step nq (q + n)
  have HC2 := Lib.hid (HC.out.trans hst.2)
  obtain ⟨k0', k1', k2', k3', f'⟩ := hst.1.cells
  have HR2 := Lib.hid hst.1
  clear hst k0 k1 k2 k3 f1 f' k2' k3' HR HC
  have e : (q : Int) + (n : Int) = ((q + n : Nat) : Int) := by omega
  rw [e]
  clear e
  generalize (w1.drewN nq).setCell ⟨v, 1, none⟩ (.int .i64 ((q + n : Nat) : Int)) = w2 at *
  obtain ⟨z1, z2⟩ := HR2.out.2.2.2
  have hlt := lt_of_heap HR2.out.1
  obtain ⟨t, ht⟩ : ∃ t, q + n = t := ⟨_, rfl⟩
  have y1 : (t : Int) - n = q := by omega
  have y2 : t ≤ c := by omega
  have y3 : q ≤ t := by omega
  have y4 : t - q = n := by omega
  have y5 : (t : Int) ≤ 140737488351232 := by omega
  have y6 : (n : Int) ≤ t := by omega
  have y7 : IntKind.i64.wrap (q : Int) = q := IntWalk.i64_in _ (by omega)
  rw [ht] at k1' HR2 ⊢
  have HT := Lib.hid ht
  clear ht hm hs
  have hown : OwnB (w2.alloc (.cells #[] 5)).drew (some ⟨w2.heap.size, 0, none⟩) 0 [] := (OwnB.empty w2).chg ((Chg.refl [] _).drew) (by simp)
  have hlen : 0 + n ≤ 140737488355327 := by omega
  have HO := Lib.hid hown
  have HL := Lib.hid hlen
  clear hown hlen
  by_cases hcq : c = q
  · subst hcq
    have hnil : Bs (w2.alloc (.cells #[] 5)).drew A n ((xs.drop c).take n) := by
      obtain rfl : n = 0 := by omega
      simpa using Bs.nil _ A
    have HBs := Lib.hid hnil
    clear hnil
    go_region_held3 (fun w' => w'.cell? ⟨v, 0, none⟩ = some (.slice A xs.length c) ∧ w'.cell? ⟨v, 1, none⟩ = some (.int .i64 (t : Int))) (first | go_keep | exact ⟨q0, q1⟩) ((refine step_app rfl _ _ rfl rfl HO.out rfl rfl HBs.out HL.out ?_; intro A' c' w3 own3 hg3 hA3; have q0 := app_cell hg3 hlt k0'; have q1 := app_cell hg3 hlt k1'))
    go_wp2
    go_ret
    rw [HT.out]
    exact uraw_fin HC2.out HR2.out own3 hg3 hA3 (by simp; omega)
  · have hcq2 : ¬ (q = c) := fun e => hcq e.symm
    have hbs : Bs (w2.alloc (.cells #[] 5)).drew (Option.map (fun x => x.add q) A) n ((xs.drop q).take n) := (HR2.out.2.1.part q n (by omega)).chg (((Chg.refl [] _).alloc _).drew) (by simp)
    have HBs := Lib.hid hbs
    clear hbs
    go_region_held3 (fun w' => w'.cell? ⟨v, 0, none⟩ = some (.slice A xs.length c) ∧ w'.cell? ⟨v, 1, none⟩ = some (.int .i64 (t : Int))) (first | go_keep | exact ⟨q0, q1⟩) ((refine step_app rfl _ _ rfl rfl HO.out rfl rfl HBs.out HL.out ?_; intro A' c' w3 own3 hg3 hA3; have q0 := app_cell hg3 hlt k0'; have q1 := app_cell hg3 hlt k1'))
    go_wp2
    go_ret
    rw [HT.out]
    exact uraw_fin HC2.out HR2.out own3 hg3 hA3 (by simp; omega)

/-- Raw of the document's reader, whatever came ahead. -/
theorem uraw_any (w : World) (v : Nat) (A : Option Addr) (c : Nat) (xs : List UInt8) (p : Nat) (fe fa most : Int) (h : URdr w v A c xs p fe fa) (hp : p ≤ xs.length) (hl : xs.length ≤ 140737488351232) :
    Calls Tryz.prog 85 #[.pointer (some ⟨v, 0, none⟩), .int .i64 most] w (URawPost w v A c xs (rRaw xs p fe fa most)) := by
  unfold rRaw
  by_cases he : fe = 0
  · subst he
    simp only [ne_eq, not_true_eq_false, if_false]
    cases hn : numAt xs p 0 4611686018427387903 with
    | error x =>
      obtain ⟨f, q⟩ := x
      exact uraw_failed w v A c xs p 0 fa most h hp hl 0 p f q (by simp [rNum, hn]) (by have := numAt_err hn; omega)
    | ok x =>
      obtain ⟨n, q⟩ := x
      have hok := numAt_ok hn hp
      have hr : rNum xs p 0 fa 0 4611686018427387903 = ((n : Int), q, 0, fa) := by simp [rNum, hn]
      by_cases h1 : most < n
      · simp only [if_pos h1]; exact uraw_long w v A c xs p 0 fa most h hp hl n q fa hr h1
      · by_cases h2 : (xs.length : Int) - q < n
        · simp only [if_neg h1, if_pos h2]; exact uraw_end w v A c xs p 0 fa most h hp hl n q fa hr hok.1 (by omega) h2
        · simp only [if_neg h1, if_neg h2]; exact uraw_ok w v A c xs p 0 fa most h hp hl n q fa hr hok.1 (by omega) (by omega)
  · simp only [ne_eq, he, not_false_eq_true, if_true]
    exact uraw_failed w v A c xs p fe fa most h hp hl 0 p fe fa (by simp [rNum, he]) he

/-- What Text of the document's reader leaves. -/
def UTextPost (w : World) (v : Nat) (A : Option Addr) (c : Nat) (xs : List UInt8) (r : List UInt8 × Nat × Int × Int) (e : Ending) (w' : World) : Prop :=
  e = .returned (.string (strOf r.1)) ∧ URdr w' v A c xs r.2.1 r.2.2.1 r.2.2.2 ∧ Chg [v] w w'

set_option maxHeartbeats 400000 in
theorem utext_any (w : World) (v : Nat) (A : Option Addr) (c : Nat) (xs : List UInt8) (p : Nat) (fe fa most : Int) (h : URdr w v A c xs p fe fa) (hp : p ≤ xs.length) (hl : xs.length ≤ 140737488351232) :
    Calls Tryz.prog 84 #[.pointer (some ⟨v, 0, none⟩), .int .i64 most] w (UTextPost w v A c xs (rRaw xs p fe fa most)) := by
  have hpc := uraw_any w v A c xs p fe fa most h hp hl
  generalize rRaw xs p fe fa most = r at hpc
  have HP := Lib.hid hpc
  clear hpc
  go_enter Tryz.func84, Tryz.ntmps84
  go_wp2_with (go_at_call 85; refine HP.out.mono ?_; rintro e w1 ⟨A', c', rfl, q1, q2, q3, q4⟩; have Q2 := Lib.hid q2; clear q2; have hs := run_str w1 (c := c') q1.reads)
  go_ret
  exact ⟨rfl, q3, q4⟩
end
section
open Go.RowKit

/-- The document's writer, made since w. -/
def Vs (w w' : World) (b : Nat) (xs : List UInt8) (e : Int) : Prop := ∃ g, VWr w' b g xs e ∧ w.heap.size ≤ b ∧ w.heap.size ≤ g ∧ Chg [] w w'
theorem Vs.chg {w w' : World} {b : Nat} {xs : List UInt8} {e : Int} (h : Vs w w' b xs e) : Chg [] w w' := by obtain ⟨_, _, _, _, h⟩ := h; exact h
theorem Vs.past {w w1 w2 : World} {b : Nat} {xs : List UInt8} {e : Int} (h : Vs w w1 b xs e) (hc : Chg [] w1 w2) : Vs w w2 b xs e := by
  obtain ⟨g, h1, h2, h3, h4⟩ := h
  exact ⟨g, h1.chg hc (by simp) (by simp), h2, h3, h4.trans hc⟩
/-- The document's reader of bytes that w has, made since w. -/
def Us (w w' : World) (v : Nat) (A : Option Addr) (c : Nat) (xs : List UInt8) (p : Nat) (fe fa : Int) : Prop := URdr w' v A c xs p fe fa ∧ w.heap.size ≤ v ∧ Chg [] w w' ∧ Bs w A xs.length xs ∧ p ≤ xs.length ∧ xs.length ≤ 140737488351232
theorem Us.chg {w w' : World} {v : Nat} {A : Option Addr} {c : Nat} {xs : List UInt8} {p : Nat} {fe fa : Int} (h : Us w w' v A c xs p fe fa) : Chg [] w w' := h.2.2.1
theorem Us.past {w w1 w2 : World} {v : Nat} {A : Option Addr} {c : Nat} {xs : List UInt8} {p : Nat} {fe fa : Int} (h : Us w w1 v A c xs p fe fa) (hc : Chg [] w1 w2) : Us w w2 v A c xs p fe fa :=
  ⟨h.1.chg hc (by simp) (.inr (by simp)), h.2.1, h.2.2.1.trans hc, h.2.2.2⟩
theorem us_open (w w1 : World) (A : Option Addr) (c : Nat) (xs : List UInt8) (hc : Chg [] w w1) (h : Bs w A xs.length xs) (hc1 : xs.length ≤ c) (hc2 : c ≤ 9223372036854775807) (hm : xs.length ≤ 140737488351232) :
    Calls Tryz.prog 82 #[.slice A xs.length c] w1 fun r w' => ∃ v, r = .returned (.pointer (some ⟨v, 0, none⟩)) ∧ Us w w' v A c xs 0 0 0 :=
  (vopen_any w1 A c xs (h.chg hc (by simp)) hc1 hc2).mono fun _ _ hh => by
    have hs := hc.size
    first
      | (obtain ⟨v, h1, h2, h3, h4⟩ := hh; exact ⟨v, h1, h2, by omega, hc.trans h3, h, by omega, hm⟩)
      | (obtain ⟨h1, h2, h3⟩ := hh; exact ⟨_, h1, h2, hs, hc.trans h3, h, by omega, hm⟩)
theorem us_num (w w1 : World) (v : Nat) (A : Option Addr) (c : Nat) (xs : List UInt8) (p : Nat) (fe fa low high : Int) (h : Us w w1 v A c xs p fe fa) :
    Calls Tryz.prog 83 #[.pointer (some ⟨v, 0, none⟩), .int .i64 low, .int .i64 high] w1 fun r w' => r = .returned (.int .i64 (rNum xs p fe fa low high).1) ∧ Us w w' v A c xs (rNum xs p fe fa low high).2.1 (rNum xs p fe fa low high).2.2.1 (rNum xs p fe fa low high).2.2.2 ∧ Chg [v] w1 w' := by
  obtain ⟨h1, h2, h3, h4, h5, h6⟩ := h
  exact (unum_any w1 v A c xs p fe fa low high h1 h5 h6).mono fun _ _ ⟨q1, q2, q3⟩ => ⟨q1, ⟨q2, h2, h3.both q3 (by simpa using h2), h4, rNum_le h5, h6⟩, q3⟩
theorem us_raw (w w1 : World) (v : Nat) (A : Option Addr) (c : Nat) (xs : List UInt8) (p : Nat) (fe fa most : Int) (h : Us w w1 v A c xs p fe fa) :
    Calls Tryz.prog 85 #[.pointer (some ⟨v, 0, none⟩), .int .i64 most] w1 fun r w' => ∃ A' c', r = .returned (.slice A' (rRaw xs p fe fa most).1.length c') ∧ OwnB w' A' c' (rRaw xs p fe fa most).1 ∧ (∀ a, A' = some a → w1.heap.size ≤ a.block) ∧ Us w w' v A c xs (rRaw xs p fe fa most).2.1 (rRaw xs p fe fa most).2.2.1 (rRaw xs p fe fa most).2.2.2 ∧ Chg [v] w1 w' := by
  obtain ⟨h1, h2, h3, h4, h5, h6⟩ := h
  exact (uraw_any w1 v A c xs p fe fa most h1 h5 h6).mono fun _ _ ⟨A', c', q1, q2, q3, q4, q5⟩ => ⟨A', c', q1, q2, q3, ⟨q4, h2, h3.both q5 (by simpa using h2), h4, (rRaw_le h5).2, h6⟩, q5⟩
theorem us_text (w w1 : World) (v : Nat) (A : Option Addr) (c : Nat) (xs : List UInt8) (p : Nat) (fe fa most : Int) (h : Us w w1 v A c xs p fe fa) :
    Calls Tryz.prog 84 #[.pointer (some ⟨v, 0, none⟩), .int .i64 most] w1 fun r w' => r = .returned (.string (strOf (rRaw xs p fe fa most).1)) ∧ Us w w' v A c xs (rRaw xs p fe fa most).2.1 (rRaw xs p fe fa most).2.2.1 (rRaw xs p fe fa most).2.2.2 ∧ Chg [v] w1 w' := by
  obtain ⟨h1, h2, h3, h4, h5, h6⟩ := h
  exact (utext_any w1 v A c xs p fe fa most h1 h5 h6).mono fun _ _ ⟨q1, q4, q5⟩ => ⟨q1, ⟨q4, h2, h3.both q5 (by simpa using h2), h4, (rRaw_le h5).2, h6⟩, q5⟩
theorem us_end (w w1 : World) (v : Nat) (A : Option Addr) (c : Nat) (xs : List UInt8) (p : Nat) (fe fa : Int) (h : Us w w1 v A c xs p fe fa) :
    Calls Tryz.prog 86 #[.pointer (some ⟨v, 0, none⟩)] w1 fun r w' => r = .returned (.agg #[.int .i64 (endR xs p fe fa).1, .int .i64 (endR xs p fe fa).2]) ∧ Chg [] w1 w' :=
  uend_any w1 v A c xs p fe fa h.1
end
section
open Go.RowKit Go.Lib
set_option linter.unusedSimpArgs false
set_option linter.unusedVariables false


theorem Us.over {S : List Nat} {w w1 w2 : World} {v : Nat} {A : Option Addr} {c : Nat} {xs : List UInt8} {p : Nat} {fe fa : Int} (h : Us w w1 v A c xs p fe fa) (hc : Chg S w1 w2) (hv : v ∉ S) (hS : ∀ i ∈ S, w.heap.size ≤ i) : Us w w2 v A c xs p fe fa :=
  have hC := h.2.2.1.trans' hc (fun i hi => .inr (hS i hi))
  ⟨⟨hc.at_ h.1.1 hv, h.2.2.2.1.chg hC (by simp), h.1.2.2⟩, h.2.1, hC, h.2.2.2⟩
theorem Us.lt {w w' : World} {v : Nat} {A : Option Addr} {c : Nat} {xs : List UInt8} {p : Nat} {fe fa : Int} (h : Us w w' v A c xs p fe fa) : v < w'.heap.size := lt_of_heap h.1.1
theorem Us.ple {w w' : World} {v : Nat} {A : Option Addr} {c : Nat} {xs : List UInt8} {p : Nat} {fe fa : Int} (h : Us w w' v A c xs p fe fa) : p ≤ xs.length := h.2.2.2.2.1
theorem vF_zero {xs : List UInt8} (h : (vF xs).1 = 0) : vF xs = (0, 0) := by
  have h0 := h
  unfold vF at h
  obtain ⟨z5, e5, _⟩ := endR_calm h
  have z5' := z5
  unfold vP at z5'
  obtain ⟨z4, e4⟩ := rRaw_calm z5'
  have z4' := z4
  unfold vX at z4'
  obtain ⟨z3, e3⟩ := rRaw_calm z4'
  have z3' := z3
  unfold vT at z3'
  obtain ⟨z2, e2⟩ := rRaw_calm z3'
  have z2' := z2
  unfold vN2 at z2'
  obtain ⟨z1, e1⟩ := rNum_calm z2'
  have z1' := z1
  unfold vN1 at z1'
  obtain ⟨z0, e0⟩ := rNum_calm z1'
  refine Prod.ext h0 ?_
  show (endR xs (vP xs).2.1 (vP xs).2.2.1 (vP xs).2.2.2).2 = 0
  rw [e5]
  show (rRaw xs (vX xs).2.1 (vX xs).2.2.1 (vX xs).2.2.2 40000).2.2.2 = 0
  rw [e4]
  show (rRaw xs (vT xs).2.1 (vT xs).2.2.1 (vT xs).2.2.2 1100).2.2.2 = 0
  rw [e3]
  show (rRaw xs (vN2 xs).2.1 (vN2 xs).2.2.1 (vN2 xs).2.2.2 77).2.2.2 = 0
  rw [e2]
  show (rNum xs (vN1 xs).2.1 (vN1 xs).2.2.1 (vN1 xs).2.2.2 1 2147483647).2.2.2 = 0
  rw [e1]
  show (rNum xs 0 0 0 1 200).2.2.2 = 0
  rw [e0]

set_option maxHeartbeats 4000000 in
theorem setB0 {w : World} {s0 : Nat} {a0 a1 a2 a3 a4 a5 a6 : Value} {T : TypeId} (v0 : Value) (q0 : w.heap[s0]? = some (.cells #[a0, a1, a2, a3, a4, a5, a6] T (0, 0))) :
    (w.setCell ⟨s0, 0, none⟩ v0).heap[s0]? = some (.cells #[v0, a1, a2, a3, a4, a5, a6] T (0, 0)) ∧ (∀ (s1 : Nat) (o : Obj), s0 ≠ s1 → w.heap[s1]? = some o → (w.setCell ⟨s0, 0, none⟩ v0).heap[s1]? = some o) ∧ Chg [s0] w (w.setCell ⟨s0, 0, none⟩ v0) := by
  have p0 := heap_setCell_same _ s0 0 _ _ v0 q0
  refine ⟨p0, fun s1 o h q1 => ?_, ?_⟩
  · rw [Below.heap_setCell _ _ _ _ (by simp; exact fun e => h e.symm)]
    exact q1
  · exact ((Chg.refl [s0] w).put' 0 v0)
set_option maxHeartbeats 4000000 in
theorem setB1 {w : World} {s0 : Nat} {a0 a1 a2 a3 a4 a5 a6 : Value} {T : TypeId} (v1 : Value) (q0 : w.heap[s0]? = some (.cells #[a0, a1, a2, a3, a4, a5, a6] T (0, 0))) :
    (w.setCell ⟨s0, 1, none⟩ v1).heap[s0]? = some (.cells #[a0, v1, a2, a3, a4, a5, a6] T (0, 0)) ∧ (∀ (s1 : Nat) (o : Obj), s0 ≠ s1 → w.heap[s1]? = some o → (w.setCell ⟨s0, 1, none⟩ v1).heap[s1]? = some o) ∧ Chg [s0] w (w.setCell ⟨s0, 1, none⟩ v1) := by
  have p0 := heap_setCell_same _ s0 1 _ _ v1 q0
  refine ⟨p0, fun s1 o h q1 => ?_, ?_⟩
  · rw [Below.heap_setCell _ _ _ _ (by simp; exact fun e => h e.symm)]
    exact q1
  · exact ((Chg.refl [s0] w).put' 1 v1)
set_option maxHeartbeats 4000000 in
theorem setB2 {w : World} {s0 : Nat} {a0 a1 a2 a3 a4 a5 a6 : Value} {T : TypeId} (v2 : Value) (q0 : w.heap[s0]? = some (.cells #[a0, a1, a2, a3, a4, a5, a6] T (0, 0))) :
    (w.setCell ⟨s0, 2, none⟩ v2).heap[s0]? = some (.cells #[a0, a1, v2, a3, a4, a5, a6] T (0, 0)) ∧ (∀ (s1 : Nat) (o : Obj), s0 ≠ s1 → w.heap[s1]? = some o → (w.setCell ⟨s0, 2, none⟩ v2).heap[s1]? = some o) ∧ Chg [s0] w (w.setCell ⟨s0, 2, none⟩ v2) := by
  have p0 := heap_setCell_same _ s0 2 _ _ v2 q0
  refine ⟨p0, fun s1 o h q1 => ?_, ?_⟩
  · rw [Below.heap_setCell _ _ _ _ (by simp; exact fun e => h e.symm)]
    exact q1
  · exact ((Chg.refl [s0] w).put' 2 v2)
set_option maxHeartbeats 4000000 in
theorem setB3 {w : World} {s0 : Nat} {a0 a1 a2 a3 a4 a5 a6 : Value} {T : TypeId} (v3 v4 v5 : Value) (q0 : w.heap[s0]? = some (.cells #[a0, a1, a2, a3, a4, a5, a6] T (0, 0))) :
    (((w.setCell ⟨s0, 3, none⟩ v3).setCell ⟨s0, 4, none⟩ v4).setCell ⟨s0, 5, none⟩ v5).heap[s0]? = some (.cells #[a0, a1, a2, v3, v4, v5, a6] T (0, 0)) ∧ (∀ (s1 : Nat) (o : Obj), s0 ≠ s1 → w.heap[s1]? = some o → (((w.setCell ⟨s0, 3, none⟩ v3).setCell ⟨s0, 4, none⟩ v4).setCell ⟨s0, 5, none⟩ v5).heap[s1]? = some o) ∧ Chg [s0] w (((w.setCell ⟨s0, 3, none⟩ v3).setCell ⟨s0, 4, none⟩ v4).setCell ⟨s0, 5, none⟩ v5) := by
  have p0 := heap_setCell_same _ s0 3 _ _ v3 q0
  have p1 := heap_setCell_same _ s0 4 _ _ v4 p0
  have p2 := heap_setCell_same _ s0 5 _ _ v5 p1
  refine ⟨p2, fun s1 o h q1 => ?_, ?_⟩
  · rw [Below.heap_setCell _ _ _ _ (by simp; exact fun e => h e.symm), Below.heap_setCell _ _ _ _ (by simp; exact fun e => h e.symm), Below.heap_setCell _ _ _ _ (by simp; exact fun e => h e.symm)]
    exact q1
  · exact ((((Chg.refl [s0] w).put' 3 v3).put' 4 v4).put' 5 v5)
set_option maxHeartbeats 4000000 in
theorem setB6 {w : World} {s0 : Nat} {a0 a1 a2 a3 a4 a5 a6 : Value} {T : TypeId} (v6 : Value) (q0 : w.heap[s0]? = some (.cells #[a0, a1, a2, a3, a4, a5, a6] T (0, 0))) :
    (w.setCell ⟨s0, 6, none⟩ v6).heap[s0]? = some (.cells #[a0, a1, a2, a3, a4, a5, v6] T (0, 0)) ∧ (∀ (s1 : Nat) (o : Obj), s0 ≠ s1 → w.heap[s1]? = some o → (w.setCell ⟨s0, 6, none⟩ v6).heap[s1]? = some o) ∧ Chg [s0] w (w.setCell ⟨s0, 6, none⟩ v6) := by
  have p0 := heap_setCell_same _ s0 6 _ _ v6 q0
  refine ⟨p0, fun s1 o h q1 => ?_, ?_⟩
  · rw [Below.heap_setCell _ _ _ _ (by simp; exact fun e => h e.symm)]
    exact q1
  · exact ((Chg.refl [s0] w).put' 6 v6)
end
section
open Go.RowKit

set_option maxHeartbeats 4000000 in
theorem fcheck_any (w : World) (k m : Int) (A : Option Addr) (n c : Nat) (hn : n ≤ 140737488351232) :
    Calls Tryz.prog 65 #[.agg #[.int .i64 k, .int .i64 m, .slice A n c]] w fun e w' => e = .returned (.int .i64 (chkE k m n)) ∧ Chg [] w w' := by
  have go : ∀ v, chkE k m n = v → Calls Tryz.prog 65 #[.agg #[.int .i64 k, .int .i64 m, .slice A n c]] w (fun e w' => e = .returned (.int .i64 v) ∧ Chg [] w w') → Calls Tryz.prog 65 #[.agg #[.int .i64 k, .int .i64 m, .slice A n c]] w fun e w' => e = .returned (.int .i64 (chkE k m n)) ∧ Chg [] w w' := fun v hv h => hv ▸ h
  by_cases h1 : k = 1
  · subst h1
    by_cases m0 : m < 0
    · refine go 2 (chkE_odd (by unfold Fine; omega)) ?_
      have m0' : ¬ 0 ≤ m := by omega
      clear go
      go_enter Tryz.func65, Tryz.ntmps65
      go_wp2
      go_ret
      exact ⟨rfl, (Chg.refl _ _).alloc _⟩
    have m0' : 0 ≤ m := by omega
    by_cases m1 : 511 < m
    · refine go 2 (chkE_odd (by unfold Fine; omega)) ?_
      have m1' : ¬ m ≤ 511 := by omega
      clear go
      go_enter Tryz.func65, Tryz.ntmps65
      go_wp2
      go_ret
      exact ⟨rfl, (Chg.refl _ _).alloc _⟩
    have m1' : m ≤ 511 := by omega
    by_cases n1 : 1000 < n
    · refine go 2 (chkE_odd (by unfold Fine; omega)) ?_
      have n1' : decide ((n : Int) ≤ 1000) = false := by simp; omega
      clear go
      go_enter Tryz.func65, Tryz.ntmps65
      go_wp2
      go_ret
      exact ⟨rfl, (Chg.refl _ _).alloc _⟩
    · refine go 0 (chkE_fine (by unfold Fine; omega)) ?_
      have n1' : decide ((n : Int) ≤ 1000) = true := by simp; omega
      clear go
      go_enter Tryz.func65, Tryz.ntmps65
      go_wp2
      go_ret
      exact ⟨rfl, (Chg.refl _ _).alloc _⟩
  have h1' : (k == 1) = false := by simpa using h1
  by_cases h2 : k = 2
  · subst h2
    by_cases m0 : m < 0
    · refine go 2 (chkE_odd (by unfold Fine; omega)) ?_
      have m0' : ¬ 0 ≤ m := by omega
      clear go
      go_enter Tryz.func65, Tryz.ntmps65
      go_wp2
      go_ret
      exact ⟨rfl, (Chg.refl _ _).alloc _⟩
    have m0' : 0 ≤ m := by omega
    by_cases m1 : 511 < m
    · refine go 2 (chkE_odd (by unfold Fine; omega)) ?_
      have m1' : ¬ m ≤ 511 := by omega
      clear go
      go_enter Tryz.func65, Tryz.ntmps65
      go_wp2
      go_ret
      exact ⟨rfl, (Chg.refl _ _).alloc _⟩
    have m1' : m ≤ 511 := by omega
    by_cases n1 : n = 0
    · subst n1
      refine go 0 (chkE_fine (by unfold Fine; omega)) ?_
      clear go
      go_enter Tryz.func65, Tryz.ntmps65
      go_wp2
      go_ret
      exact ⟨rfl, (Chg.refl _ _).alloc _⟩
    · refine go 2 (chkE_odd (by unfold Fine; omega)) ?_
      have n1' : ((n : Int) == 0) = false := by simp; omega
      clear go
      go_enter Tryz.func65, Tryz.ntmps65
      go_wp2
      go_ret
      exact ⟨rfl, (Chg.refl _ _).alloc _⟩
  have h2' : (k == 2) = false := by simpa using h2
  by_cases h3 : k = 3
  · subst h3
    by_cases m0 : m = 0
    · subst m0
      by_cases n1 : n = 0
      · subst n1
        refine go 0 (chkE_fine (by unfold Fine; omega)) ?_
        clear go
        go_enter Tryz.func65, Tryz.ntmps65
        go_wp2
        go_ret
        exact ⟨rfl, (Chg.refl _ _).alloc _⟩
      · refine go 2 (chkE_odd (by unfold Fine; omega)) ?_
        have n1' : ((n : Int) == 0) = false := by simp; omega
        clear go
        go_enter Tryz.func65, Tryz.ntmps65
        go_wp2
        go_ret
        exact ⟨rfl, (Chg.refl _ _).alloc _⟩
    · refine go 2 (chkE_odd (by unfold Fine; omega)) ?_
      have m0' : (m == 0) = false := by simpa using m0
      clear go
      go_enter Tryz.func65, Tryz.ntmps65
      go_wp2
      go_ret
      exact ⟨rfl, (Chg.refl _ _).alloc _⟩
  have h3' : (k == 3) = false := by simpa using h3
  refine go 2 (chkE_odd (by unfold Fine; omega)) ?_
  clear go
  go_enter Tryz.func65, Tryz.ntmps65
  go_wp2
  go_ret
  exact ⟨rfl, (Chg.refl _ _).alloc _⟩
end
section
open Go.RowKit
set_option linter.unusedSimpArgs false

theorem Us.set {w w1 : World} {v : Nat} {A : Option Addr} {c : Nat} {xs : List UInt8} {p : Nat} {fe fa : Int} (h : Us w w1 v A c xs p fe fa) {s : Nat} (j : Nat) (u : Value) (hs : w.heap.size ≤ s) (hne : ¬ s = v) : Us w (w1.setCell ⟨s, j, none⟩ u) v A c xs p fe fa := by
  refine ⟨h.1.chg ((Chg.refl [s] w1).setCell (.inl (by simp)) _) (by simp; exact fun e => hne e.symm) ?_, h.2.1, h.chg.setCell (.inr hs) _, h.2.2.2⟩
  rcases h.2.2.2.1.old with hh | hh
  · exact .inl hh
  · exact .inr fun a e => by have := hh a e; simp; omega

set_option maxHeartbeats 4000000 in
theorem fread_any (w : World) (A : Option Addr) (n c : Nat) (xs : List UInt8) (h : Bs w A n xs) (hn : n ≤ 140737488351232) (hn1 : n ≤ c) (hn2 : c ≤ 9223372036854775807) :
    Calls Tryz.prog 87 #[.slice A n c] w (ReadEPost w (readE xs)) := by
  have hl := h.len
  subst hl
  obtain ⟨w0, hw0⟩ : ∃ w0 : World, w0 = (w.alloc (.cells #[.int .i64 0, .int .i64 0, .slice none 0 0] 26)).alloc (.cells #[.int .i64 0, .int .i64 0] 44) := ⟨_, rfl⟩
  have c0 : Chg [] w w0 := hw0 ▸ ((Chg.refl [] w).alloc _).alloc _
  have b0 : w0.heap[w.heap.size]? = some (.cells #[.int .i64 0, .int .i64 0, .slice none 0 0] 26 (0, 0)) := hw0 ▸ ((Chg.refl [] _).alloc _).at_ (heap_alloc_new w _) (by simp)
  have b1 : w0.heap[w.heap.size + 1]? = some (.cells #[.int .i64 0, .int .i64 0] 44 (0, 0)) := hw0 ▸ heap_alloc_two w _ _
  have g0 := lt_of_heap b0
  have g1 := lt_of_heap b1
  have hp0 : ∀ w' j v, Chg [] w w' → Chg [] w (w'.setCell ⟨w.heap.size, j, none⟩ v) := fun _ _ _ h => h.setCell (.inr (Nat.le_refl _)) _
  have hp1 : ∀ w' j v, Chg [] w w' → Chg [] w (w'.setCell ⟨w.heap.size + 1, j, none⟩ v) := fun _ _ _ h => h.setCell (.inr (Nat.le_succ _)) _
  have HP0 := Lib.hid hp0
  have HP1 := Lib.hid hp1
  have hb0 : ∀ (A : Option Addr) c ys w', OwnB w' A c ys → (∀ a, A = some a → w0.heap.size ≤ a.block) → Chg [] w w' → Fresh w w' A c ys := fun A c ys w' ho h hc => ⟨ho, fun a e => by have := h a e; omega, hc⟩
  have HB0 := Lib.hid hb0
  clear hp0 hp1 hb0
  have hs2 : ¬ w.heap.size = w.heap.size + 1 := by omega
  have H := Lib.hid (h.chg c0 (by simp))
  have W0 := Lib.hid hw0
  have C0 := Lib.hid c0
  have B0 := Lib.hid b0
  have B1 := Lib.hid b1
  clear hw0 c0 b0 b1 h
  have hchk := fun w1 A c => fcheck_any w1 (eN1 xs).1 (eN2 xs).1 A (eR3 xs).1.length c (by have := rRaw_le (xs := xs) (fe := (eN2 xs).2.2.1) (fa := (eN2 xs).2.2.2) (most := 1000) (p := (eN2 xs).2.1) (by unfold eN2; exact rNum_le (by unfold eN1; exact rNum_le (by omega))); unfold eR3; omega)
  have HCk := Lib.hid hchk
  have hr : readE xs = readE xs := rfl
  conv at hr => rhs; unfold readE
  have hz := @eF_zero xs
  have HZ := Lib.hid hz
  have HR := Lib.hid hr
  generalize readE xs = RR at *
  clear hchk hz hr
  go_enter Tryz.func87, Tryz.ntmps87
  go_wp2_with fail
  rw [← W0.out]
  generalize w.heap.size + 1 = s1 at *
  generalize w.heap.size = s0 at *
  refine (us_open w0 w0 A c xs (Chg.refl _ _) H.out hn1 hn2 hn).mono ?_
  rintro e w1 ⟨v, rfl, h1⟩
  have K1 := Lib.hid h1
  have hv := lt_of_heap h1.1.1
  have hv1 : ¬ w1.heap.size = v := by omega
  have hv2 : ¬ v = w1.heap.size := by omega
  have hs5 : w0.heap.size ≤ w1.heap.size := h1.chg.size
  have b5 := heap_alloc_new w1 (.cells #[.int .i64 0, .int .i64 0, .slice none 0 0] 26)
  have k5 := h1.past ((Chg.refl [] w1).alloc (.cells #[.int .i64 0, .int .i64 0, .slice none 0 0] 26))
  have B5 := Lib.hid b5
  have K5 := Lib.hid k5
  clear h1 hv b5 k5 K1
  go_wp2_with fail
  generalize w1.alloc (.cells #[.int .i64 0, .int .i64 0, .slice none 0 0] 26) = w1' at *
  generalize w1.heap.size = s5 at *
  have r1 := us_num w0 w1' v A c xs 0 0 0 1 3 K5.out
  change Calls _ _ _ _ (fun r w' => r = .returned (.int .i64 (eN1 xs).1) ∧ Us w0 w' v A c xs (eN1 xs).2.1 (eN1 xs).2.2.1 (eN1 xs).2.2.2 ∧ _) at r1
  refine r1.mono ?_
  rintro e w2 ⟨rfl, h2, c2⟩
  have b5 := c2.at_ B5.out (by simpa using hv1)
  have m0 := cell_of b5 0
  have m1 := free_of b5 0
  simp only [List.getElem?_toArray, List.getElem?_cons_succ, List.getElem?_cons_zero] at m0
  have K2 := Lib.hid (h2.set (s := s5) 0 (.int .i64 (eN1 xs).1) hs5 hv1)
  have b6 := heap_setCell_same w2 s5 0 _ _ (.int .i64 (eN1 xs).1) b5
  have B6 := Lib.hid b6
  clear h2 c2 b5 b6 K5 B5 r1
  go_wp2_with fail
  generalize w2.setCell ⟨s5, 0, none⟩ (.int .i64 (eN1 xs).1) = w2' at *
  clear m0 m1
  have r1 := us_num w0 w2' v A c xs _ _ _ 0 511 K2.out
  change Calls _ _ _ _ (fun r w' => r = .returned (.int .i64 (eN2 xs).1) ∧ Us w0 w' v A c xs (eN2 xs).2.1 (eN2 xs).2.2.1 (eN2 xs).2.2.2 ∧ _) at r1
  refine r1.mono ?_
  rintro e w3 ⟨rfl, h3, c3⟩
  have b5 := c3.at_ B6.out (by simpa using hv1)
  have m0 := cell_of b5 1
  have m1 := free_of b5 1
  simp only [List.setIfInBounds_toArray, List.set_cons_zero, List.getElem?_toArray, List.getElem?_cons_succ, List.getElem?_cons_zero] at m0
  have K3 := Lib.hid (h3.set (s := s5) 1 (.int .i64 (eN2 xs).1) hs5 hv1)
  have b6 := heap_setCell_same w3 s5 1 _ _ (.int .i64 (eN2 xs).1) b5
  have B7 := Lib.hid b6
  clear h3 c3 b5 b6 K2 B6 r1
  go_wp2_with fail
  generalize w3.setCell ⟨s5, 1, none⟩ (.int .i64 (eN2 xs).1) = w3' at *
  clear m0 m1
  have r1 := us_raw w0 w3' v A c xs _ _ _ 1000 K3.out
  change Calls _ _ _ _ (fun r w' => ∃ A' c', r = .returned (.slice A' (eR3 xs).1.length c') ∧ OwnB w' A' c' (eR3 xs).1 ∧ (∀ a, A' = some a → w3'.heap.size ≤ a.block) ∧ Us w0 w' v A c xs (eR3 xs).2.1 (eR3 xs).2.2.1 (eR3 xs).2.2.2 ∧ _) at r1
  refine r1.mono ?_
  rintro e w4 ⟨A4, c4, rfl, o4, n4, h4, c4'⟩
  have hlt := lt_of_heap B7.out
  have n4' : ∀ a, A4 = some a → w0.heap.size ≤ a.block := fun a e => Nat.le_trans K3.out.chg.size (n4 a e)
  have n4s : ∀ a, A4 = some a → a.block ∉ [s5] := fun a e => by have := n4 a e; simp; omega
  have N4 := Lib.hid n4'
  have b5 := c4'.at_ B7.out (by simpa using hv1)
  have m0 := cell_of b5 2
  have m1 := free_of b5 2
  simp only [List.setIfInBounds_toArray, List.set_cons_zero, List.set_cons_succ, List.getElem?_toArray, List.getElem?_cons_succ, List.getElem?_cons_zero] at m0
  have K4 := Lib.hid (h4.set (s := s5) 2 (.slice A4 (eR3 xs).1.length c4) hs5 hv1)
  have O4 := Lib.hid (o4.chg ((Chg.refl [s5] w4).setCell (p := ⟨s5, 2, none⟩) (.inl (by simp)) (.slice A4 (eR3 xs).1.length c4)) n4s)
  have b6 := heap_setCell_same w4 s5 2 _ _ (.slice A4 (eR3 xs).1.length c4) b5
  simp only [List.setIfInBounds_toArray, List.set_cons_zero, List.set_cons_succ] at b6
  have B8 := Lib.hid b6
  clear h4 c4' b5 b6 K3 B7 r1 n4 n4' n4s o4 hlt
  go_wp2_with fail
  generalize w4.setCell ⟨s5, 2, none⟩ (.slice A4 (eR3 xs).1.length c4) = w5 at *
  clear m0 m1
  have r1 := us_end w0 w5 v A c xs _ _ _ K4.out
  change Calls _ _ _ _ (fun r w' => r = .returned (.agg #[.int .i64 (eF xs).1, .int .i64 (eF xs).2]) ∧ _) at r1
  refine r1.mono ?_
  rintro e w6 ⟨rfl, c6⟩
  have B6 := Lib.hid (c6.at_ B8.out (by simp))
  have O6 := Lib.hid (O4.out.chg c6 (by simp))
  have K6 := Lib.hid (K4.out.past c6)
  clear c6 r1 K4 O4 B8
  have t6 := K6.out.chg.size
  have d1 : ¬ w6.heap.size = s0 := by omega
  have d2 : ¬ w6.heap.size = s1 := by omega
  have d3 : ¬ s0 = w6.heap.size := by omega
  have d4 : ¬ s1 = w6.heap.size := by omega
  have d5 : ¬ s1 = s0 := by omega
  clear t6
  obtain ⟨w7, hw7⟩ : ∃ w7 : World, w7 = w6.alloc (.cells #[.int .i64 (eF xs).1, .int .i64 (eF xs).2] 44) := ⟨_, rfl⟩
  have c7 : Chg [] w6 w7 := hw7 ▸ (Chg.refl [] w6).alloc _
  have b7 : w7.heap[w6.heap.size]? = some (.cells #[.int .i64 (eF xs).1, .int .i64 (eF xs).2] 44 (0, 0)) := hw7 ▸ heap_alloc_new w6 _
  have K7 := Lib.hid (K6.out.past c7)
  have O7 := Lib.hid (O6.out.chg c7 (by simp))
  have b5 := c7.at_ B6.out (by simp)
  have W7 := Lib.hid hw7
  have q0 := K7.out.chg.at_ B0.out (by simp)
  have q1 := K7.out.chg.at_ B1.out (by simp)
  have z0 := cell_of q0 0
  have z1 := cell_of q0 1
  have z2 := cell_of q0 2
  have z3 := cell_of q1 0
  have z4 := cell_of q1 1
  have f0 := free_of q0 0
  have f1 := free_of q0 1
  have f2 := free_of q0 2
  have f3 := free_of q1 0
  have f4 := free_of q1 1
  simp only [List.getElem?_toArray, List.getElem?_cons_succ, List.getElem?_cons_zero] at z0 z1 z2 z3 z4
  clear q0 q1
  have y0 := cell_of b7 0
  have y1 := cell_of b7 1
  have x0 := cell_of b5 0
  have x1 := cell_of b5 1
  have x2 := cell_of b5 2
  simp only [List.getElem?_toArray, List.getElem?_cons_succ, List.getElem?_cons_zero] at y0 y1 x0 x1 x2
  have B5 := Lib.hid b5
  clear hw7 c7 b7 b5 K6 O6 B6
  have C7 := Lib.hid (C0.out.trans K7.out.chg)
  by_cases he : (eF xs).1 = 0
  · have hr := HR.out
    rw [if_neg (by simpa using he)] at hr
    have he2 := HZ.out he
    have he' : ((eF xs).1 != 0) = false := by simpa using he
    by_cases hf : Fine (eN1 xs).1 (eN2 xs).1 (eR3 xs).1.length
    · rw [if_pos hf] at hr
      have HR2 := Lib.hid hr
      have hc := HCk.out w7 A4 c4
      rw [chkE_fine hf] at hc
      have HC := Lib.hid hc
      have HE := Lib.hid (And.intro he he2)
      clear he he2 hf hc hr HR HCk
      go_upto_region 7 with fail
      rw [← W7.out]
      generalize w6.heap.size = s6 at *
      go_wp2_with fail
      refine HC.out.mono ?_
      rintro e w8 ⟨rfl, c8⟩
      have z0 := c8.cell z0 (by simp)
      have z1 := c8.cell z1 (by simp)
      have z2 := c8.cell z2 (by simp)
      have z3 := c8.cell z3 (by simp)
      have z4 := c8.cell z4 (by simp)
      have x0 := c8.cell x0 (by simp)
      have x1 := c8.cell x1 (by simp)
      have x2 := c8.cell x2 (by simp)
      have y0 := c8.cell y0 (by simp)
      have y1 := c8.cell y1 (by simp)
      have q0 := (K7.out.chg.trans c8).at_ B0.out (by simp)
      have q1 := (K7.out.chg.trans c8).at_ B1.out (by simp)
      have f0 := free_of q0 0
      have f1 := free_of q0 1
      have f2 := free_of q0 2
      have f3 := free_of q1 0
      have f4 := free_of q1 1
      have O8 := Lib.hid (O7.out.chg c8 (by simp))
      have C8 := Lib.hid (C7.out.trans c8)
      clear c8 q0 q1
      have e5 : ¬ s5 = s0 := by have := g0; omega
      have e6 : ¬ s5 = s1 := by have := g1; omega
      have e7 : ¬ s0 = s5 := fun e => e5 e.symm
      have e8 : ¬ s1 = s5 := fun e => e6 e.symm
      go_wp2
      go_region
      all_goals
        go_wp2
        refine bodyPost_ret (v := .tuple #[.agg #[.int .i64 (eN1 xs).1, .int .i64 (eN2 xs).1, .slice A4 (eR3 xs).1.length c4], .agg #[.int .i64 (eF xs).1, .int .i64 (eF xs).2]]) (by simp [results, Tryz.results87, go_sem, z0, z1, z2, z3, z4, hs2, d5]) rfl ?_
        rw [HR2.out]
        exact ⟨A4, c4, by rw [HE.out.1, HE.out.2], HB0.out _ _ _ _ (O8.out.chg (S := [s0, s1]) (((((((Chg.refl [s0, s1] w8).setCell (.inl (by simp)) _).setCell (.inl (by simp)) _).setCell (.inl (by simp)) _).setCell (.inl (by simp)) _).setCell (.inl (by simp)) _).drew) (bs_apart2 N4.out g0 g1)) N4.out (HP1.out _ _ _ (HP1.out _ _ _ (HP0.out _ _ _ (HP0.out _ _ _ (HP0.out _ _ _ C8.out))))).drew⟩
    · rw [if_neg hf] at hr
      have HR2 := Lib.hid hr
      have hc := HCk.out w7 A4 c4
      rw [chkE_odd hf] at hc
      have HC := Lib.hid hc
      clear he he2 hf hc hr HR HCk
      go_upto_region 7 with fail
      rw [← W7.out]
      generalize w6.heap.size = s6 at *
      go_wp2_with fail
      refine HC.out.mono ?_
      rintro e w8 ⟨rfl, c8⟩
      have z0 := c8.cell z0 (by simp)
      have z1 := c8.cell z1 (by simp)
      have z2 := c8.cell z2 (by simp)
      have z3 := c8.cell z3 (by simp)
      have z4 := c8.cell z4 (by simp)
      have q0 := (K7.out.chg.trans c8).at_ B0.out (by simp)
      have q1 := (K7.out.chg.trans c8).at_ B1.out (by simp)
      have f0 := free_of q0 0
      have f1 := free_of q0 1
      have f2 := free_of q0 2
      have f3 := free_of q1 0
      have f4 := free_of q1 1
      have C8 := Lib.hid (C7.out.trans c8)
      clear c8 q0 q1 y0 y1 x0 x1 x2
      go_wp2
      refine bodyPost_ret (v := .tuple #[.agg #[.int .i64 0, .int .i64 0, .slice none 0 0], .agg #[.int .i64 2, .int .i64 0]]) (by simp [results, Tryz.results87, go_sem, z0, z1, z2, z3, z4, hs2, d5]) rfl ?_
      rw [HR2.out]
      exact ⟨none, 0, rfl, Fresh.none_ (HP1.out _ _ _ (HP1.out _ _ _ (HP0.out _ _ _ (HP0.out _ _ _ (HP0.out _ _ _ C8.out)))))⟩
  · have hr := HR.out
    rw [if_pos he] at hr
    have HR2 := Lib.hid hr
    have he' : ((eF xs).1 != 0) = true := by simpa using he
    clear he hr HR
    go_upto_region 7 with fail
    rw [← W7.out]
    generalize w6.heap.size = s6 at *
    go_wp2
    go_region
    all_goals
      go_wp2
      refine bodyPost_ret (v := .tuple #[.agg #[.int .i64 0, .int .i64 0, .slice none 0 0], .agg #[.int .i64 (eF xs).1, .int .i64 (eF xs).2]]) (by simp [results, Tryz.results87, go_sem, z0, z1, z2, z3, z4, hs2, d5]) rfl ?_
      rw [HR2.out]
      exact ⟨none, 0, rfl, Fresh.none_ (HP1.out _ _ _ (HP1.out _ _ _ (HP0.out _ _ _ (HP0.out _ _ _ (HP0.out _ _ _ C7.out))))).drew⟩
end
section
open Go.RowKit Go.Lib
set_option linter.unusedSimpArgs false
set_option linter.unusedVariables false


theorem qfour_at {w : World} {g o n : Nat} {ys : List UInt8} (h : Bs w (some ⟨g, o, none⟩) n ys) (p n' c' : Nat) (hp : p + 4 ≤ n) (hn : 4 ≤ n') :
    Calls Tryz.prog 127 #[.slice (some ⟨g, o + p, none⟩) n' c'] w fun e w' => e = .returned (.int .i64 (numB ((ys.drop p).take 4) : Int)) ∧ Chg [] w w' := by
  have hl := h.len
  obtain ⟨g2, o2, e, k0, k1, k2, k3⟩ := h.at4 p ys[p] ys[p + 1] ys[p + 2] ys[p + 3] (List.getElem?_eq_getElem (by omega)) (List.getElem?_eq_getElem (by omega)) (List.getElem?_eq_getElem (by omega)) (List.getElem?_eq_getElem (by omega))
  cases e
  have e4 : (ys.drop p).take 4 = [ys[p], ys[p + 1], ys[p + 2], ys[p + 3]] := by
    rw [List.drop_eq_getElem_cons (by omega), List.drop_eq_getElem_cons (by omega), List.drop_eq_getElem_cons (by omega), List.drop_eq_getElem_cons (by omega)]
    rfl
  rw [e4, numB_four]
  exact qfour_cells w g (o + p) n' c' _ _ _ _ (UInt8.toNat_lt _) (UInt8.toNat_lt _) (UInt8.toNat_lt _) (UInt8.toNat_lt _) hn k0 k1 k2 k3
theorem numB_two {ys : List UInt8} {a b : UInt8} (h0 : ys[0]? = some a) (h1 : ys[1]? = some b) : numB (ys.take 2) = 256 * a.toNat + b.toNat := by
  match ys, h0, h1 with
  | x :: y :: l, h0, h1 =>
    simp at h0 h1
    subst h0 h1
    simp [numB]
    omega

theorem qread_short (w : World) (A : Option Addr) (n c : Nat) (ys : List UInt8) (h : Bs w A n ys) (h2 : ys.length < 2) :
    Calls Tryz.prog 88 #[.slice A n c] w fun e w' => ∃ A' c', e = .returned (.tuple #[.slice A' (readS ys).1.length c', .agg #[.int .i64 (readS ys).2.1, .int .i64 (readS ys).2.2]]) ∧ OwnK spanTy w' A' c' (readS ys).1 ∧ (∀ a, A' = some a → w.heap.size ≤ a.block) ∧ Chg [] w w' := by
  rw [readS_short h2]
  have hl := h.len
  subst hl
  have h3 : (ys.length : Int) < 2 := by omega
  clear h h2
  go_enter Tryz.func88, Tryz.ntmps88
  go_wp2
  refine bodyPost_ret (v := .tuple #[.slice none 0 0, .agg #[.int .i64 4, .int .i64 ys.length]]) (by simp [results, Tryz.results88, go_sem]) rfl ?_
  exact ⟨none, 0, rfl, OwnK.none_ _, by simp, (Chg.refl _ _).alloc _⟩

set_option maxHeartbeats 2000000 in
set_option maxRecDepth 100000 in
theorem qread_odd (w : World) (g o n c : Nat) (ys : List UInt8) (h : Bs w (some ⟨g, o, none⟩) n ys) (hn : n ≤ 140737488351232) (hc : n ≤ c) (hc2 : c ≤ 9223372036854775807) (hs : ¬ ys.length < 2) (many : Nat) (hm : many = numB (ys.take 2)) (hl : ys.length ≠ 2 + 9 * many) (V : Int) (hV : (ys.length < 2 + 9 * many ∧ V = ys.length) ∨ (2 + 9 * many < ys.length ∧ V = ((2 + 9 * many : Nat) : Int))) :
    Calls Tryz.prog 88 #[.slice (some ⟨g, o, none⟩) n c] w fun e w' => ∃ A' c', e = .returned (.tuple #[.slice A' 0 c', .agg #[.int .i64 4, .int .i64 V]]) ∧ OwnK spanTy w' A' c' [] ∧ (∀ a, A' = some a → w.heap.size ≤ a.block) ∧ Chg [] w w' := by
  have hl0 := h.len
  subst hl0
  have hx0 := List.getElem?_eq_getElem (l := ys) (i := 0) (by omega)
  have hx1 := List.getElem?_eq_getElem (l := ys) (i := 1) (by omega)
  obtain ⟨w1, hw1, c1, b1⟩ := news1 w (.cells #[.int .i64 0, .int .i64 0] 44)
  have W1 := Lib.hid hw1
  have HX := Lib.hid (h.chg c1 (by simp))
  have C1 := Lib.hid c1
  have F1 := Lib.hid b1
  have hg0 : g < w.heap.size := by
    obtain ⟨a, e, hc⟩ := h.cells 0 _ (List.getElem?_eq_getElem (by omega))
    cases e
    have := lt_of_cell hc
    rwa [block_add] at this
  have HG1 := Lib.hid (Nat.lt_of_lt_of_le hg0 c1.size)
  obtain ⟨_, e0, k0⟩ := (h.chg c1 (by simp)).cells 0 _ hx0
  cases e0
  obtain ⟨_, e1, k1⟩ := (h.chg c1 (by simp)).cells 1 _ hx1
  cases e1
  rw [add_lit] at k0 k1
  unfold bv at k0 k1
  simp only [Nat.add_zero] at k0
  have hmm := hm.trans (numB_two hx0 hx1)
  generalize ys[0] = x0 at *
  generalize ys[1] = x1 at *
  have b0l := x0.toNat_lt
  have b1l := x1.toNat_lt
  have h2 : (2 : Int) ≤ (ys.length : Int) := by omega
  have h3 : ¬ ((ys.length : Int) < 2) := by omega
  have h30 : (0 : Int) < (ys.length : Int) := by omega
  have h31 : (1 : Int) < (ys.length : Int) := by omega
  have hwb0 : IntKind.i64.wrap (x0.toNat : Int) = (x0.toNat : Int) := IntWalk.i64_in _ (by omega)
  have hwb1 : IntKind.i64.wrap (x1.toNat : Int) = (x1.toNat : Int) := IntWalk.i64_in _ (by omega)
  have hwm : IntKind.i64.wrap (256 * (x0.toNat : Int)) = 256 * (x0.toNat : Int) := IntWalk.i64_in _ (by omega)
  have hws : IntKind.i64.wrap (256 * (x0.toNat : Int) + (x1.toNat : Int)) = (many : Int) := by rw [IntWalk.i64_in _ (by omega)]; omega
  have hmk : many < 65536 := by omega
  have HM := Lib.hid hm
  clear hw1 c1 b1 h hg0 hx0 hx1 hm
  rcases hV with ⟨hv, rfl⟩ | ⟨hv, rfl⟩
  · have hlt : (ys.length : Int) < 2 + 9 * (many : Int) := by omega
    clear hv hl hmm
    go_enter Tryz.func88, Tryz.ntmps88
    go_upto_region 3 with fail
    rw [← W1.out]
    clear W1
    go_quiet (fail)
    generalize hw2 : w1.drewN _ = w2 at *
    have C2 := Lib.hid (show Chg [] w w2 by rw [← hw2]; exact C1.out.drewN _)
    have F2 := Lib.hid (show w2.heap[w.heap.size]? = some (.cells #[.int .i64 0, .int .i64 0] 44 (0, 0)) by rw [← hw2]; exact F1.out)
    clear hw2 k0 k1 hwb0 hwb1 hwm hws
    generalize hs0 : w.heap.size = s0 at *
    have HS0 := Lib.hid (Nat.le_of_eq hs0)
    clear hs0
    have hb := F2.out
    have z0 := cell_of hb 0
    have z1 := cell_of hb 1
    have f0 := free_of hb 0
    have f1 := free_of hb 1
    simp only [List.getElem?_toArray, List.getElem?_cons_succ, List.getElem?_cons_zero] at z0 z1
    have e0 := heap_setCell_same _ s0 0 _ _ (.int .i64 4) hb
    have e1 := heap_setCell_same _ s0 1 _ _ (.int .i64 ys.length) e0
    have HE : Hid (((w2.setCell ⟨s0, 0, none⟩ (.int .i64 4)).setCell ⟨s0, 1, none⟩ (.int .i64 ys.length)).heap[s0]? = some (.cells #[.int .i64 4, .int .i64 ys.length] 44 (0, 0))) := Lib.hid (by simpa using e1)
    have CW := Lib.hid (Chg.put (Chg.put C2.out HS0.out 0 (.int .i64 4)) HS0.out 1 (.int .i64 ys.length))
    clear hb e0 e1
    go_wp2
    generalize (w2.setCell ⟨s0, 0, none⟩ (.int .i64 4)).setCell ⟨s0, 1, none⟩ (.int .i64 ys.length) = W at *
    clear z0 z1 f0 f1
    have z0 := cell_of HE.out 0
    have z1 := cell_of HE.out 1
    simp only [List.getElem?_toArray, List.getElem?_cons_succ, List.getElem?_cons_zero] at z0 z1
    refine bodyPost_ret (v := .tuple #[.slice none 0 0, .agg #[.int .i64 4, .int .i64 ys.length]]) (by simp [results, Tryz.results88, go_sem, z0, z1]) rfl ?_
    exact ⟨none, 0, rfl, OwnK.none_ _, by simp, CW.out⟩
  · have hlt : ¬ (ys.length : Int) < 2 + 9 * (many : Int) := by omega
    have hlt2 : 2 + 9 * (many : Int) < (ys.length : Int) := by omega
    clear hv hl hmm
    go_enter Tryz.func88, Tryz.ntmps88
    go_upto_region 3 with fail
    rw [← W1.out]
    clear W1
    go_quiet (fail)
    generalize hw2 : w1.drewN _ = w2 at *
    have C2 := Lib.hid (show Chg [] w w2 by rw [← hw2]; exact C1.out.drewN _)
    have F2 := Lib.hid (show w2.heap[w.heap.size]? = some (.cells #[.int .i64 0, .int .i64 0] 44 (0, 0)) by rw [← hw2]; exact F1.out)
    clear hw2 k0 k1 hwb0 hwb1 hwm hws
    generalize hs0 : w.heap.size = s0 at *
    have HS0 := Lib.hid (Nat.le_of_eq hs0)
    clear hs0
    have hb := F2.out
    have z0 := cell_of hb 0
    have z1 := cell_of hb 1
    have f0 := free_of hb 0
    have f1 := free_of hb 1
    simp only [List.getElem?_toArray, List.getElem?_cons_succ, List.getElem?_cons_zero] at z0 z1
    have e0 := heap_setCell_same _ s0 0 _ _ (.int .i64 4) hb
    have e1 := heap_setCell_same _ s0 1 _ _ (.int .i64 (2 + 9 * (many : Int))) e0
    have HE : Hid (((w2.setCell ⟨s0, 0, none⟩ (.int .i64 4)).setCell ⟨s0, 1, none⟩ (.int .i64 (2 + 9 * (many : Int)))).heap[s0]? = some (.cells #[.int .i64 4, .int .i64 (2 + 9 * (many : Int))] 44 (0, 0))) := Lib.hid (by simpa using e1)
    have CW := Lib.hid (Chg.put (Chg.put C2.out HS0.out 0 (.int .i64 4)) HS0.out 1 (.int .i64 (2 + 9 * (many : Int))))
    clear hb e0 e1
    go_wp2
    generalize (w2.setCell ⟨s0, 0, none⟩ (.int .i64 4)).setCell ⟨s0, 1, none⟩ (.int .i64 (2 + 9 * (many : Int))) = W at *
    clear z0 z1 f0 f1
    have z0 := cell_of HE.out 0
    have z1 := cell_of HE.out 1
    simp only [List.getElem?_toArray, List.getElem?_cons_succ, List.getElem?_cons_zero] at z0 z1
    refine bodyPost_ret (v := .tuple #[.slice none 0 0, .agg #[.int .i64 4, .int .i64 (2 + 9 * (many : Int))]]) (by simp [results, Tryz.results88, go_sem, z0, z1]) rfl ?_
    exact ⟨none, 0, rfl, OwnK.none_ _, by simp, CW.out⟩

set_option maxHeartbeats 4000000 in
set_option maxRecDepth 100000 in
theorem qread_loop (w : World) (g o n c : Nat) (ys : List UInt8) (h : Bs w (some ⟨g, o, none⟩) n ys) (hn : n ≤ 140737488351232) (hc : n ≤ c) (hc2 : c ≤ 9223372036854775807) (many : Nat) (hm : many = numB (ys.take 2)) (hl : ys.length = 2 + 9 * many) (L : List (Int × Int × Int)) (E : Int) (hck : (chkS (spansR ys many) = 0 ∧ L = spansR ys many ∧ E = 0) ∨ (chkS (spansR ys many) = 2 ∧ L = [] ∧ E = 2)) :
    Calls Tryz.prog 88 #[.slice (some ⟨g, o, none⟩) n c] w fun e w' => ∃ A' c', e = .returned (.tuple #[.slice A' L.length c', .agg #[.int .i64 E, .int .i64 0]]) ∧ OwnK spanTy w' A' c' L ∧ (∀ a, A' = some a → w.heap.size ≤ a.block) ∧ Chg [] w w' := by
  have HCK := Lib.hid hck
  clear hck
  have hl0 := h.len
  subst hl0
  have hx0 := List.getElem?_eq_getElem (l := ys) (i := 0) (by omega)
  have hx1 := List.getElem?_eq_getElem (l := ys) (i := 1) (by omega)
  obtain ⟨w1, hw1, c1, b1⟩ := news1 w (.cells #[.int .i64 0, .int .i64 0] 44)
  have W1 := Lib.hid hw1
  have HX := Lib.hid (h.chg c1 (by simp))
  have C1 := Lib.hid c1
  have F1 := Lib.hid b1
  have hg0 : g < w.heap.size := by
    obtain ⟨a, e, hc⟩ := h.cells 0 _ (List.getElem?_eq_getElem (by omega))
    cases e
    have := lt_of_cell hc
    rwa [block_add] at this
  have HG1 := Lib.hid (Nat.lt_of_lt_of_le hg0 c1.size)
  obtain ⟨_, e0, k0⟩ := (h.chg c1 (by simp)).cells 0 _ hx0
  cases e0
  obtain ⟨_, e1, k1⟩ := (h.chg c1 (by simp)).cells 1 _ hx1
  cases e1
  rw [add_lit] at k0 k1
  unfold bv at k0 k1
  simp only [Nat.add_zero] at k0
  have hmm := hm.trans (numB_two hx0 hx1)
  generalize ys[0] = x0 at *
  generalize ys[1] = x1 at *
  have b0l := x0.toNat_lt
  have b1l := x1.toNat_lt
  have h2 : (2 : Int) ≤ (ys.length : Int) := by omega
  have h3 : ¬ ((ys.length : Int) < 2) := by omega
  have h30 : (0 : Int) < (ys.length : Int) := by omega
  have h31 : (1 : Int) < (ys.length : Int) := by omega
  have hwb0 : IntKind.i64.wrap (x0.toNat : Int) = (x0.toNat : Int) := IntWalk.i64_in _ (by omega)
  have hwb1 : IntKind.i64.wrap (x1.toNat : Int) = (x1.toNat : Int) := IntWalk.i64_in _ (by omega)
  have hwm : IntKind.i64.wrap (256 * (x0.toNat : Int)) = 256 * (x0.toNat : Int) := IntWalk.i64_in _ (by omega)
  have hws : IntKind.i64.wrap (256 * (x0.toNat : Int) + (x1.toNat : Int)) = (many : Int) := by rw [IntWalk.i64_in _ (by omega)]; omega
  have hmk : many < 65536 := by omega
  have HM := Lib.hid hm
  clear hw1 c1 b1 h hg0 hx0 hx1 hm
  have hlt : ¬ (ys.length : Int) < 2 + 9 * (many : Int) := by omega
  have hlt2 : ¬ 2 + 9 * (many : Int) < (ys.length : Int) := by omega
  have HL := Lib.hid hl
  clear hmm
  go_enter Tryz.func88, Tryz.ntmps88
  go_upto_region 3 with fail
  rw [← W1.out]
  clear W1
  go_quiet (fail)
  generalize hw2 : w1.drewN _ = w2 at *
  have HX2 := Lib.hid (show Bs w2 (some ⟨g, o, none⟩) ys.length ys by rw [← hw2]; exact HX.out.chg ((Chg.refl [] w1).drewN _) (by simp))
  have C2 := Lib.hid (show Chg [] w w2 by rw [← hw2]; exact C1.out.drewN _)
  have F2 := Lib.hid (show w2.heap[w.heap.size]? = some (.cells #[.int .i64 0, .int .i64 0] 44 (0, 0)) by rw [← hw2]; exact F1.out)
  have HG0 := Lib.hid (show g < w2.heap.size by rw [← hw2]; exact HG1.out)
  clear hw2 k0 k1 hwb0 hwb1 hwm hws HX C1 F1 HG1 hl
  generalize hs0 : w.heap.size = s0 at *
  have HS0 := Lib.hid (Nat.le_of_eq hs0)
  clear hs0
  go_wp2
  go_loopw [5, 6] (fun v5 v6 wr => ∃ (k : Nat) (B : Option Addr) (cc : Nat), k ≤ many ∧ v5 = .slice B k cc ∧ v6 = .int .i64 (k : Int) ∧ Hid (OwnK spanTy wr B cc (spansR ys k) ∧ (∀ a, B = some a → w2.heap.size ≤ a.block) ∧ Chg [] w2 wr)) (fun _ v6 _ => many - (RowKit.intOf v6).toNat)
  case atStart => exact ⟨0, none, 0, Nat.zero_le _, rfl, rfl, OwnK.none_ _, by simp, Chg.refl _ _⟩
  case round =>
    obtain ⟨k, B, cc, hk, rfl, rfl, HI⟩ := hrel
    generalize wr = w4 at *
    clear wr
    by_cases hlt3 : k < many
    · have hl := HL.out
      have hq : 2 + 9 * k < ys.length := by omega
      have ex := List.getElem?_eq_getElem hq
      have HX4 := Lib.hid (HX2.out.chg HI.out.2.2 (by simp))
      obtain ⟨ad, eA, hcell⟩ := HX4.out.cells _ _ ex
      cases eA
      rw [add_lit] at hcell
      have e1 : (ys.drop (2 + 9 * k)).take 1 = [ys[2 + 9 * k]] := by rw [List.drop_eq_getElem_cons hq]; rfl
      generalize ys[2 + 9 * k] = x at *
      have E1 := Lib.hid e1
      unfold bv at hcell
      have j1 : (0 : Int) ≤ 2 + 9 * (k : Int) := by omega
      have j2 : 2 + 9 * (k : Int) ≤ (ys.length : Int) := by omega
      have j3 : ¬ c = 2 + 9 * k := by omega
      have j4 : ¬ 2 + 9 * k = c := by omega
      have j5 : (2 + 9 * (k : Int)).toNat = 2 + 9 * k := by omega
      have j6 : 2 + 9 * k ≤ ys.length := by omega
      have hsp : spanAt ys (2 + 9 * k) = ((x.toNat : Int), (numB ((ys.drop (2 + 9 * k + 1)).take 4) : Int), (numB ((ys.drop (2 + 9 * k + 5)).take 4) : Int)) := by
        unfold spanAt
        rw [E1.out]
        simp [numB]
      have HSP := Lib.hid hsp
      have LR1 := Lib.hid (spansR_len ys k)
      have BND := Lib.hid (show (k + 1) * 400 ≤ 140737488355327 by omega)
      have HWX := Lib.hid (show IntKind.i64.wrap (x.toNat : Int) = (x.toNat : Int) from IntWalk.i64_in _ (by have := x.toNat_lt; omega))
      have hgB : g ∉ (B.map (·.block)).toList := by
        cases B with
        | none => simp
        | some a =>
          have h1 := HI.out.2.1 a rfl
          have h2 := HG0.out
          simp
          omega
      have HB := Lib.hid hgB
      have n1p : 9 ≤ ys.length - (2 + 9 * k) := by omega
      have c1p : 9 ≤ c - (2 + 9 * k) := by omega
      have hk4 : ∀ w', Chg (B.map (·.block)).toList w4 w' → w'.cell? ⟨g, o + (2 + 9 * k), none⟩ = some (.int .u8 (x.toNat : Int)) := fun w' h => h.cell hcell (by exact HB.out)
      have HK := Lib.hid hk4
      have Q1 := Lib.hid (fun (w' : World) (hc : Chg [] w4 w') (n' c' : Nat) (hn' : 4 ≤ n') => qfour_at (HX4.out.chg hc (by simp)) (2 + 9 * k + 1) n' c' (by omega) hn')
      have Q2 := Lib.hid (fun (w' : World) (hc : Chg [] w4 w') (n' c' : Nat) (hn' : 4 ≤ n') => qfour_at (HX4.out.chg hc (by simp)) (2 + 9 * k + 5) n' c' (by omega) hn')
      clear ex e1 hq hsp hk4 hcell hgB hl
      generalize (ys.drop (2 + 9 * k + 1)).take 4 = l1 at *
      generalize (ys.drop (2 + 9 * k + 5)).take 4 = l2 at *
      go_upto_region 13 with fail
      clear j1 j2 j3 j4 j5 j6
      generalize hn1 : ys.length - (2 + 9 * k) = n1 at *
      generalize hc1 : c - (2 + 9 * k) = cc1 at *
      clear hn1 hc1
      have j0 : (0 : Int) < (n1 : Int) := by omega
      have j1 : (1 : Int) ≤ (n1 : Int) := by omega
      have j2 : (5 : Int) ≤ (n1 : Int) := by omega
      have j3 : ¬ cc1 = 1 := by omega
      have j4 : ¬ 1 = cc1 := by omega
      have j5 : ¬ cc1 = 5 := by omega
      have j6 : ¬ 5 = cc1 := by omega
      have j0n : 0 < n1 := by omega
      have j7 : 1 ≤ n1 := by omega
      have j8 : 5 ≤ n1 := by omega
      have n4 : 4 ≤ n1 - 1 := by omega
      have n5 : 4 ≤ n1 - 5 := by omega
      refine wp_region_held_drew (S := fun w' => Chg (B.map (·.block)).toList w4 w') (by kernel_rfl) (Chg.refl _ w4).drew (fun hHeld => ?_)
      have C4 := Lib.hid ((Chg.refl [] w4).drew)
      clear hHeld
      refine step_yes 0 53 ?_ (C4.out.mono (by simp)) rfl rfl (by kernel_rfl) (by kernel_rfl) (by kernel_rfl) (fun _ _ _ h => h) (by rfl) ?_ ?_
      rotate_left
      · (intro w hSw; (try dsimp only at hSw); go_simp; try with_reducible rfl)
      try simp only [Act.put, List.setIfInBounds_toArray, List.set_cons_zero, List.set_cons_succ]
      refine step_yes 1 54 ?_ (C4.out.mono (by simp)) rfl rfl (by kernel_rfl) (by kernel_rfl) (by kernel_rfl) (fun _ _ _ h => h) (by rfl) ?_ ?_
      rotate_left
      · (intro w hSw; (try dsimp only at hSw); go_simp; try with_reducible rfl)
      try simp only [Act.put, List.setIfInBounds_toArray, List.set_cons_zero, List.set_cons_succ]
      refine step_yes 2 55 ?_ (C4.out.mono (by simp)) rfl rfl (by kernel_rfl) (by kernel_rfl) (by kernel_rfl) (fun _ _ _ h => h) (by rfl) ?_ ?_
      rotate_left
      · (intro w hSw; (try dsimp only at hSw); go_simp; try with_reducible rfl)
      try simp only [Act.put, List.setIfInBounds_toArray, List.set_cons_zero, List.set_cons_succ]
      refine step_yes 3 56 ?_ (C4.out.mono (by simp)) rfl rfl (by kernel_rfl) (by kernel_rfl) (by kernel_rfl) (fun _ _ _ h => h) (by rfl) ?_ ?_
      rotate_left
      · (intro w hSw; (try dsimp only at hSw); have hq0 := HK.out _ hSw; go_simp; try with_reducible rfl)
      try simp only [Act.put, List.setIfInBounds_toArray, List.set_cons_zero, List.set_cons_succ]
      refine step_yes 4 57 ?_ (C4.out.mono (by simp)) rfl rfl (by kernel_rfl) (by kernel_rfl) (by kernel_rfl) (fun _ _ _ h => h) (by rfl) ?_ ?_
      rotate_left
      · (intro w hSw; (try dsimp only at hSw); go_simp; try with_reducible rfl)
      try simp only [Act.put, List.setIfInBounds_toArray, List.set_cons_zero, List.set_cons_succ]
      refine step_yes 5 58 ?_ (C4.out.mono (by simp)) rfl rfl (by kernel_rfl) (by kernel_rfl) (by kernel_rfl) (fun _ _ _ h => h) (by rfl) ?_ ?_
      rotate_left
      · (intro w hSw; (try dsimp only at hSw); go_simp; try with_reducible rfl)
      try simp only [Act.put, List.setIfInBounds_toArray, List.set_cons_zero, List.set_cons_succ]
      refine step_yes 6 59 ?_ (C4.out.mono (by simp)) rfl rfl (by kernel_rfl) (by kernel_rfl) (by kernel_rfl) (fun _ _ _ h => h) (by rfl) ?_ ?_
      rotate_left
      · (intro w hSw; (try dsimp only at hSw); go_simp; try with_reducible rfl)
      try simp only [Act.put, List.setIfInBounds_toArray, List.set_cons_zero, List.set_cons_succ]
      refine step_yes 8 61 ?_ (C4.out.mono (by simp)) rfl rfl (by kernel_rfl) (by kernel_rfl) (by kernel_rfl) (fun _ _ _ h => h) (by rfl) ?_ ?_
      rotate_left
      · (intro w hSw; (try dsimp only at hSw); go_simp; try with_reducible rfl)
      try simp only [Act.put, List.setIfInBounds_toArray, List.set_cons_zero, List.set_cons_succ]
      refine step_yes 9 62 ?_ (C4.out.mono (by simp)) rfl rfl (by kernel_rfl) (by kernel_rfl) (by kernel_rfl) (fun _ _ _ h => h) (by rfl) ?_ ?_
      rotate_left
      · (intro w hSw; (try dsimp only at hSw); go_simp; try with_reducible rfl)
      try simp only [Act.put, List.setIfInBounds_toArray, List.set_cons_zero, List.set_cons_succ]
      refine wpAnyH_ready (rs := [7]) (by kernel_rfl) (by simp) ?_
      refine AllReadyH.cons rfl (fun K hK => ?_) AllReadyH.nil
      replace hK := Lib.hid hK
      go_simp
      refine (Q1.out _ C4.out _ _ n4).mono ?_
      rintro e w9 ⟨rfl, hc⟩
      have C9 := Lib.hid (C4.out.trans hc)
      clear hc C4
      refine hK.out _ _ (C9.out.mono (by simp)) (fun hHeld => ?_)
      clear hK K
      try simp only [Act.put, List.setIfInBounds_toArray, List.set_cons_zero, List.set_cons_succ]
      clear hHeld
      refine wpAnyH_ready (rs := [10]) (by kernel_rfl) (by simp) ?_
      refine AllReadyH.cons rfl (fun K hK => ?_) AllReadyH.nil
      replace hK := Lib.hid hK
      go_simp
      refine (Q2.out _ C9.out _ _ n5).mono ?_
      rintro e v9 ⟨rfl, hc⟩
      have C8 := Lib.hid (C9.out.trans hc)
      clear hc C9
      refine hK.out _ _ (C8.out.mono (by simp)) (fun hHeld => ?_)
      clear hK K
      try simp only [Act.put, List.setIfInBounds_toArray, List.set_cons_zero, List.set_cons_succ]
      clear hHeld
      refine step_yes 11 64 ?_ (C8.out.mono (by simp)) rfl rfl (by kernel_rfl) (by kernel_rfl) (by kernel_rfl) (fun _ _ _ h => h) (by rfl) ?_ ?_
      rotate_left
      · (intro w hSw; (try dsimp only at hSw); go_simp; try with_reducible rfl)
      try simp only [Act.put, List.setIfInBounds_toArray, List.set_cons_zero, List.set_cons_succ]
      refine wpAnyH_ready (rs := [12]) (by kernel_rfl) (by simp) ?_
      refine AllReadyH.cons rfl (fun K hK => ?_) AllReadyH.nil
      replace hK := Lib.hid hK
      go_simp
      obtain ⟨w5, hw5, c5, b5⟩ := news1 v9 (.cells #[.int .i64 (x.toNat : Int), .int .i64 (numB l1 : Int), .int .i64 (numB l2 : Int)] 62)
      simp only [HWX.out]
      rw [← hw5]
      have C5 := Lib.hid (C8.out.trans c5)
      refine hK.out _ _ (C5.out.mono (by simp)) (fun hHeld => ?_)
      clear hK K hHeld
      try simp only [Act.put, List.setIfInBounds_toArray, List.set_cons_zero, List.set_cons_succ]
      have R5 := Lib.hid (OwnK.of (R := spanTy) (c := 1) (full := [((x.toNat : Int), (numB l1 : Int), (numB l2 : Int))]) (xs := [((x.toNat : Int), (numB l1 : Int), (numB l2 : Int))]) b5 (Nat.le_refl _) (by decide) rfl rfl).reads
      have O5 := Lib.hid (HI.out.1.chg C5.out (by simp))
      clear hw5 c5 b5 C8
      refine wpAnyH_ready (rs := [13]) (by kernel_rfl) (by simp) ?_
      refine AllReadyH.cons rfl (fun K hK => ?_) AllReadyH.nil
      replace hK := Lib.hid hK
      refine step_appK (R := spanTy) rfl (.tmp 53) (.tmp 65) rfl rfl O5.out LR1.out rfl R5.out BND.out ?_
      intro A2 c2 w7 u2 d2 e2
      have C7 := Lib.hid ((C5.out.mono (S' := (B.map (·.block)).toList) (by simp)).grown d2 (fun k hk => .inl (by simp [hk])))
      have AO := app_own (w := w2) HI.out.2.1 (HI.out.2.2.trans C5.out) d2 e2
      have U2 := Lib.hid u2
      have AO2 := Lib.hid AO
      clear u2 d2 e2 AO
      refine hK.out _ _ C7.out (fun hHeld => ?_)
      clear hK K hHeld
      try simp only [Act.put, List.setIfInBounds_toArray, List.set_cons_zero, List.set_cons_succ]
      refine step_yes 14 5 ?_ C7.out rfl rfl (by kernel_rfl) (by kernel_rfl) (by kernel_rfl) (fun _ _ _ h => h) (by rfl) ?_ ?_
      rotate_left
      · (intro w hSw; (try dsimp only at hSw); go_simp; try with_reducible rfl)
      try simp only [Act.put, List.setIfInBounds_toArray, List.set_cons_zero, List.set_cons_succ]
      refine wpAnyH_done (by kernel_rfl) ?_ _
      go_wp2
      go_round
      case rel => exact ⟨k + 1, A2, c2, by omega, by congr 1, by go_num, by rw [spansR_succ, HSP.out]; exact U2.out, AO2.out.1, AO2.out.2⟩
      case measure => simp [RowKit.intOf]; omega
    · obtain rfl : k = many := by omega
      have hw2l := HI.out.1.reads
      go_wp2_with fail
      refine (qacheck_any _ B _ cc (spansR ys k) (by have := hw2l; rwa [spansR_len] at this) (by omega)).mono ?_
      rintro e w5 ⟨rfl, hc5⟩
      rcases HCK.out with ⟨hk0, hL, hE⟩ | ⟨hk0, hL, hE⟩
      · rw [hk0]
        clear HCK hw2l hk0
        subst hL hE
        have hb := hc5.at_ (HI.out.2.2.at_ F2.out (by simp)) (by simp)
        have z0 := cell_of hb 0
        have z1 := cell_of hb 1
        have f0 := free_of hb 0
        have f1 := free_of hb 1
        simp only [List.getElem?_toArray, List.getElem?_cons_succ, List.getElem?_cons_zero] at z0 z1
        have e0 := heap_setCell_same _ s0 0 _ _ (.int .i64 0) hb
        have e1 := heap_setCell_same _ s0 1 _ _ (.int .i64 0) e0
        have HE : Hid (((w5.setCell ⟨s0, 0, none⟩ (.int .i64 0)).setCell ⟨s0, 1, none⟩ (.int .i64 0)).heap[s0]? = some (.cells #[.int .i64 0, .int .i64 0] 44 (0, 0))) := Lib.hid (by simpa using e1)
        have CW := Lib.hid (Chg.put (Chg.put (C2.out.trans (HI.out.2.2.trans hc5)) HS0.out 0 (.int .i64 0)) HS0.out 1 (.int .i64 0))
        have CS := ((Chg.refl [s0] w5).setCell (p := ⟨s0, 0, none⟩) (.inl (by simp)) (.int .i64 0)).setCell (p := ⟨s0, 1, none⟩) (.inl (by simp)) (.int .i64 0)
        have OF := Lib.hid ((HI.out.1.chg hc5 (by simp)).chg CS (fun a ha => by
          have h1 := HI.out.2.1 a ha
          have h2 := lt_of_heap F2.out
          simp
          omega))
        have NF := Lib.hid (fun a (ha : B = some a) => Nat.le_trans C2.out.size (HI.out.2.1 a ha))
        have LF := Lib.hid (spansR_len ys k)
        clear hb e0 e1 CS hc5
        go_wp2
        generalize (w5.setCell ⟨s0, 0, none⟩ (.int .i64 0)).setCell ⟨s0, 1, none⟩ (.int .i64 0) = W at *
        clear z0 z1 f0 f1
        have z0 := cell_of HE.out 0
        have z1 := cell_of HE.out 1
        simp only [List.getElem?_toArray, List.getElem?_cons_succ, List.getElem?_cons_zero] at z0 z1
        refine bodyPost_ret (v := .tuple #[.slice B k cc, .agg #[.int .i64 0, .int .i64 0]]) (by simp [results, Tryz.results88, go_sem, z0, z1]) rfl ?_
        exact ⟨B, cc, by rw [LF.out], OF.out, NF.out, CW.out⟩
      · rw [hk0]
        clear HCK hw2l hk0
        subst hL hE
        have hb := hc5.at_ (HI.out.2.2.at_ F2.out (by simp)) (by simp)
        have z0 := cell_of hb 0
        have z1 := cell_of hb 1
        have f0 := free_of hb 0
        have f1 := free_of hb 1
        simp only [List.getElem?_toArray, List.getElem?_cons_succ, List.getElem?_cons_zero] at z0 z1
        have e0 := heap_setCell_same _ s0 0 _ _ (.int .i64 2) hb
        have e1 := heap_setCell_same _ s0 1 _ _ (.int .i64 0) e0
        have HE : Hid (((w5.setCell ⟨s0, 0, none⟩ (.int .i64 2)).setCell ⟨s0, 1, none⟩ (.int .i64 0)).heap[s0]? = some (.cells #[.int .i64 2, .int .i64 0] 44 (0, 0))) := Lib.hid (by simpa using e1)
        have CW := Lib.hid (Chg.put (Chg.put (C2.out.trans (HI.out.2.2.trans hc5)) HS0.out 0 (.int .i64 2)) HS0.out 1 (.int .i64 0))
        have CS := ((Chg.refl [s0] w5).setCell (p := ⟨s0, 0, none⟩) (.inl (by simp)) (.int .i64 2)).setCell (p := ⟨s0, 1, none⟩) (.inl (by simp)) (.int .i64 0)
        clear hb e0 e1 CS hc5
        go_wp2
        generalize (w5.setCell ⟨s0, 0, none⟩ (.int .i64 2)).setCell ⟨s0, 1, none⟩ (.int .i64 0) = W at *
        clear z0 z1 f0 f1
        have z0 := cell_of HE.out 0
        have z1 := cell_of HE.out 1
        simp only [List.getElem?_toArray, List.getElem?_cons_succ, List.getElem?_cons_zero] at z0 z1
        refine bodyPost_ret (v := .tuple #[.slice none 0 0, .agg #[.int .i64 2, .int .i64 0]]) (by simp [results, Tryz.results88, go_sem, z0, z1]) rfl ?_
        exact ⟨none, 0, rfl, OwnK.none_ _, by simp, CW.out⟩

theorem qread_any (w : World) (A : Option Addr) (n c : Nat) (ys : List UInt8) (h : Bs w A n ys) (hn : n ≤ 140737488351232) (hc : n ≤ c) (hc2 : c ≤ 9223372036854775807) :
    Calls Tryz.prog 88 #[.slice A n c] w fun e w' => ∃ A' c', e = .returned (.tuple #[.slice A' (readS ys).1.length c', .agg #[.int .i64 (readS ys).2.1, .int .i64 (readS ys).2.2]]) ∧ OwnK spanTy w' A' c' (readS ys).1 ∧ (∀ a, A' = some a → w.heap.size ≤ a.block) ∧ Chg [] w w' := by
  have hl := h.len
  by_cases h2 : ys.length < 2
  · exact qread_short w A n c ys h h2
  obtain ⟨g, o, rfl⟩ := h.base (by omega)
  by_cases h3 : ys.length = 2 + 9 * numB (ys.take 2)
  · rcases readS_fine h2 h3 with ⟨hk, e⟩ | ⟨hk, e⟩ <;> rw [e]
    · exact qread_loop w g o n c ys h hn hc hc2 _ rfl h3 _ _ (.inl ⟨hk, rfl, rfl⟩)
    · exact qread_loop w g o n c ys h hn hc hc2 _ rfl h3 _ _ (.inr ⟨hk, rfl, rfl⟩)
  · rw [readS_odd h2 h3]
    refine qread_odd w g o n c ys h hn hc hc2 h2 _ rfl h3 _ ?_
    by_cases h4 : ys.length < 2 + 9 * numB (ys.take 2)
    · exact .inl ⟨h4, if_pos h4⟩
    · exact .inr ⟨by omega, if_neg h4⟩
end
end Go.Proofs.YtgbidlhgmeglmaaGreatDoor
