/- The document's number, read. -/
import Derived.Test.YtelbahfmkpncaaaUr
namespace Go.Proofs.Ytelbahfmkpncaaa
open Go.RowKit

/-- What Num of the document's reader leaves. -/
def UNumPost (w : World) (v : Nat) (A : Option Addr) (c : Nat) (xs : List UInt8) (r : Int × Nat × Int × Int) (e : Ending) (w' : World) : Prop :=
  e = .returned (.int .i64 r.1) ∧ URdr w' v A c xs r.2.1 r.2.2.1 r.2.2.2 ∧ Chg [v] w w'

set_option maxHeartbeats 400000 in
theorem unum_no (w : World) (v : Nat) (A : Option Addr) (c : Nat) (xs : List UInt8) (p : Nat) (fe fa low high : Int) (h : URdr w v A c xs p fe fa) (he : fe ≠ 0) :
    Calls Try.prog 47 #[.pointer (some ⟨v, 0, none⟩), .int .i64 low, .int .i64 high] w (UNumPost w v A c xs (0, p, fe, fa)) := by
  obtain ⟨k0, k1, k2, k3, f⟩ := h.cells
  have H := Lib.hid h
  have he' : (fe != 0) = true := by simpa using he
  clear he h f
  go_enter Try.func47, Try.ntmps47
  go_wp2
  go_ret
  exact ⟨rfl, H.out, Chg.refl _ _⟩

set_option maxHeartbeats 400000 in
theorem unum_end (w : World) (v : Nat) (A : Option Addr) (c : Nat) (xs : List UInt8) (fa low high : Int) (h : URdr w v A c xs xs.length 0 fa) :
    Calls Try.prog 47 #[.pointer (some ⟨v, 0, none⟩), .int .i64 low, .int .i64 high] w (UNumPost w v A c xs (0, xs.length, 4, xs.length)) := by
  obtain ⟨k0, k1, k2, k3, f⟩ := h.cells
  have H := Lib.hid h
  clear h f
  go_enter Try.func47, Try.ntmps47
  go_wp2
  go_quiet (fail)
  go_wp2_with fail
  refine (ufail_any _ v A c xs _ fa 4 xs.length (H.out.drewN _)).mono ?_
  rintro r w1 ⟨rfl, hR, hC⟩
  go_wp2
  go_ret
  exact ⟨rfl, hR, ((Chg.refl _ _).drewN _).trans hC⟩

set_option maxHeartbeats 400000 in
theorem unum_arg (w : World) (v : Nat) (A : Option Addr) (c : Nat) (xs : List UInt8) (p : Nat) (fa low high : Int) (h : URdr w v A c xs p 0 fa) (hp : p < xs.length) (hl : xs.length ≤ 140737488351232) (h8 : 8 < bt xs p) :
    Calls Try.prog 47 #[.pointer (some ⟨v, 0, none⟩), .int .i64 low, .int .i64 high] w (UNumPost w v A c xs (0, p, 2, p)) := by
  obtain ⟨k0, k1, k2, k3, f⟩ := h.cells
  have H := Lib.hid h
  obtain ⟨g, o, rfl, hc⟩ := h.2.1.from (by omega)
  have hcp : w.cell? ⟨g, o + p, none⟩ = some (.int .u8 (bt xs p : Int)) := hc p hp
  have hbb := bt_lt xs p
  clear h f hc
  go_enter Try.func47, Try.ntmps47
  go_wp2
  iterate 2 (go_quiet (fail); go_wp2_with fail)
  refine (ufail_any _ v _ c xs _ fa 2 p (H.out.drewN _)).mono ?_
  rintro r w1 ⟨rfl, hR, hC⟩
  go_wp2
  go_ret
  exact ⟨rfl, hR, ((Chg.refl _ _).drewN _).trans hC⟩

set_option maxHeartbeats 400000 in
theorem unum_short (w : World) (v : Nat) (A : Option Addr) (c : Nat) (xs : List UInt8) (p : Nat) (fa low high : Int) (h : URdr w v A c xs p 0 fa) (hp : p < xs.length) (hl : xs.length ≤ 140737488351232) (h8 : bt xs p ≤ 8) (hs : xs.length - (p + 1) < bt xs p) :
    Calls Try.prog 47 #[.pointer (some ⟨v, 0, none⟩), .int .i64 low, .int .i64 high] w (UNumPost w v A c xs (0, p, 4, xs.length)) := by
  obtain ⟨k0, k1, k2, k3, f⟩ := h.cells
  have H := Lib.hid h
  obtain ⟨g, o, rfl, hc⟩ := h.2.1.from (by omega)
  have hcp : w.cell? ⟨g, o + p, none⟩ = some (.int .u8 (bt xs p : Int)) := hc p hp
  have hbb := bt_lt xs p
  clear h f hc
  go_enter Try.func47, Try.ntmps47
  go_wp2
  iterate 3 (go_quiet (fail); go_wp2_with fail)
  refine (ufail_any _ v _ c xs _ fa 4 xs.length (H.out.drewN _)).mono ?_
  rintro r w1 ⟨rfl, hR, hC⟩
  go_wp2
  go_ret
  exact ⟨rfl, hR, ((Chg.refl _ _).drewN _).trans hC⟩

set_option maxHeartbeats 400000 in
theorem unum_zero (w : World) (v : Nat) (A : Option Addr) (c : Nat) (xs : List UInt8) (p : Nat) (fa low high : Int) (h : URdr w v A c xs p 0 fa) (hp : p < xs.length) (hl : xs.length ≤ 140737488351232) (h8 : bt xs p ≤ 8) (hs : bt xs p ≤ xs.length - (p + 1)) (h1 : 0 < bt xs p) (hz : bt xs (p + 1) = 0) :
    Calls Try.prog 47 #[.pointer (some ⟨v, 0, none⟩), .int .i64 low, .int .i64 high] w (UNumPost w v A c xs (0, p, 2, p)) := by
  obtain ⟨k0, k1, k2, k3, f⟩ := h.cells
  have H := Lib.hid h
  obtain ⟨g, o, rfl, hc⟩ := h.2.1.from (by omega)
  have hcp : w.cell? ⟨g, o + p, none⟩ = some (.int .u8 (bt xs p : Int)) := hc p hp
  have hcz : w.cell? ⟨g, o + (p + 1), none⟩ = some (.int .u8 (bt xs (p + 1) : Int)) := hc (p + 1) (by omega)
  rw [hz] at hcz
  have hbb := bt_lt xs p
  clear h f hc
  go_enter Try.func47, Try.ntmps47
  go_wp2
  iterate 4 (go_quiet (fail); go_wp2_with fail)
  refine (ufail_any _ v _ c xs _ fa 2 p (H.out.drewN _)).mono ?_
  rintro r w1 ⟨rfl, hR, hC⟩
  go_wp2
  go_ret
  exact ⟨rfl, hR, ((Chg.refl _ _).drewN _).trans hC⟩
end Go.Proofs.Ytelbahfmkpncaaa
