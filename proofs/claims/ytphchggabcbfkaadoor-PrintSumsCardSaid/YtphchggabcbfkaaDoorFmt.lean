/- strconv.FormatUint at the base 16, strings.Repeat of '0', print.Text. -/
import Derived.Test.YtphchggabcbfkaaDoorMem
import Derived.Test.YtphchggabcbfkaaDoorHex
namespace Go.Proofs.YtphchggabcbfkaaDoor
open Go.RowKit
set_option linter.unusedSimpArgs false
set_option linter.unusedVariables false

/-- What is asked of the table: the place that the base 16 leads to. -/
def Tab (w : World) : Prop := w.cell? ⟨3, 15, none⟩ = some (.int .u8 4)
theorem Tab.chg {w w' : World} (h : Tab w) (hc : Chg [] w w') : Tab w' := hc.cell h (by simp)

set_option maxHeartbeats 400000 in
theorem tz64_16 (w : World) (hT : Tab w) : Calls Tryd.prog 64 #[.int .u64 16] w fun e w' => e = .returned (.int .i64 4) ∧ w = w' := by
  unfold Tab at hT
  have h1 : IntKind.u64.wrap (-16) = 18446744073709551600 := by decide +kernel
  have h2 : bits .and .u64 16 18446744073709551600 = 16 := by decide +kernel
  have h3 : IntKind.u64.wrap (16 * 285870213051353865) = 4573923408821661840 := by decide +kernel
  go_enter Tryd.func64, Tryd.ntmps64
  go_wp2
  go_ret
  exact ⟨rfl, rfl⟩
set_option maxHeartbeats 400000 in
theorem tz_16 (w : World) (hT : Tab w) : Calls Tryd.prog 60 #[.int .u64 16] w fun e w' => e = .returned (.int .i64 4) ∧ w = w' := by
  have HT := Lib.hid hT
  clear hT
  go_enter Tryd.func60, Tryd.ntmps60
  go_wp2_with (go_at_call 64; refine (tz64_16 _ HT.out).mono ?_; rintro e w1 ⟨rfl, rfl⟩)
  go_ret
  exact ⟨rfl, rfl⟩
set_option maxHeartbeats 400000 in
theorem pow2_16 (w : World) : Calls Tryd.prog 59 #[.int .i64 16] w fun e w' => e = .returned (.bool true) ∧ w = w' := by
  go_enter Tryd.func59, Tryd.ntmps59
  go_wp2
  go_ret
  exact ⟨rfl, rfl⟩
/-- A byte put into a row of bytes. -/
theorem row_put (wr : World) (s m : Nat) (c : UInt8) (full : List UInt8) (t : TypeId) (h : wr.heap[s]? = some (.cells (full.map bv).toArray t (0, 0))) :
    (wr.setCell ⟨s, m, none⟩ (.int .u8 (c.toNat : Int))).heap[s]? = some (.cells ((full.set m c).map bv).toArray t (0, 0)) := by
  rw [heap_setCell_same wr s m _ _ _ h]
  simp [bv, List.map_set]
theorem Bs.rowAt {w : World} {s m : Nat} {full : List UInt8} {t : TypeId} {fr : Nat × Nat} (h : w.heap[s]? = some (.cells (full.map bv).toArray t fr)) : Bs w (some ⟨s, m, none⟩) (full.length - m) (full.drop m) := by
  refine ⟨by simp, fun j c hj => ⟨_, rfl, ?_⟩⟩
  rw [List.getElem?_drop] at hj
  have e : (⟨s, m, none⟩ : Addr).add j = ⟨s, m + j, none⟩ := by cases j <;> simp [Addr.add]
  rw [e, cell_of h]
  simp [hj]
theorem set_drop {full ys : List UInt8} {m : Nat} (c : UInt8) (hm : m < full.length) (h : full.drop (m + 1) = ys) : (full.set m c).drop m = c :: ys := by
  rw [List.drop_eq_getElem_cons (by simpa using hm)]
  simp [h, List.drop_set_of_lt]
theorem digs_at (d : Nat) (hd : d < 16) (h) : (⟨#[48, 49, 50, 51, 52, 53, 54, 55, 56, 57, 97, 98, 99, 100, 101, 102, 103, 104, 105, 106, 107, 108, 109, 110, 111, 112, 113, 114, 115, 116, 117, 118, 119, 120, 121, 122]⟩ : ByteArray)[d]'h = hexd d := by
  have : ∀ e : Fin 16, ∀ h, (⟨#[48, 49, 50, 51, 52, 53, 54, 55, 56, 57, 97, 98, 99, 100, 101, 102, 103, 104, 105, 106, 107, 108, 109, 110, 111, 112, 113, 114, 115, 116, 117, 118, 119, 120, 121, 122]⟩ : ByteArray)[e.val]'h = hexd e.val := by decide +kernel
  exact this ⟨d, hd⟩ h
set_option maxHeartbeats 4000000 in
set_option maxRecDepth 100000 in
theorem formatBits_16 (w : World) (u : Nat) (hu : u < 18446744073709551616) (hT : Tab w) :
    Calls Tryd.prog 50 #[.slice none 0 0, .int .u64 (u : Int), .int .i64 16, .bool false, .bool false] w fun e w' => e = .returned (.tuple #[.slice none 0 0, .string (strOf (hexs (ndig u) u))]) ∧ Chg [] w w' := by
  have HT := Lib.hid hT
  have HU := Lib.hid hu
  clear hT hu
  go_enter Tryd.func50, Tryd.ntmps50
  go_wp2_with (first
    | (go_at_call 59; refine (pow2_16 _).mono ?_; rintro e w1 ⟨rfl, rfl⟩)
    | (go_at_call 60; refine (tz_16 _ (HT.out.chg ((Chg.refl [] w).alloc _))).mono ?_; rintro e w1 ⟨rfl, rfl⟩))
  go_loopw [1, 13] (fun a i wr => ∃ (k m v : Nat) (full : List UInt8), a = .int .u64 (v : Int) ∧ i = .int .i64 ((m : Int) + 1) ∧ k + m = 64 ∧ v = u / 16 ^ k ∧ ndig u = k + ndig v ∧ full.length = 65 ∧ wr.heap[w.heap.size]? = some (.cells (full.map bv).toArray 92 (0, 0)) ∧ full.drop (m + 1) = hexs k u ∧ Chg [] w wr) (fun a _ _ => (intOf a).toNat)
  case atStart => exact ⟨0, 64, u, List.replicate 65 0, rfl, rfl, rfl, by simp, by simp, rfl, heap_alloc_new w _, rfl, (Chg.refl _ _).alloc _⟩
  case round =>
    obtain ⟨k, m, v, full, rfl, rfl, hkm, hv, hd, hl, hrow, hdr, hc⟩ := hrel
    have hv64 : v < 18446744073709551616 := by rw [hv]; exact Nat.lt_of_le_of_lt (Nat.div_le_self _ _) HU.out
    have hand : bits .and .u64 (v : Int) 15 = ((v % 16 : Nat) : Int) := by
      have := bits_and_u64_nat v 15 hv64 (by omega)
      rw [show (15 : Int) = ((15 : Nat) : Int) by rfl, this, show (15 : Nat) = 2 ^ 4 - 1 by rfl, Nat.and_two_pow_sub_one_eq_mod]
    have hz' : wr.cell? ⟨w.heap.size, m, none⟩ = some (.int .u8 ((full.getD m 0).toNat : Int)) := by
      rw [cell_of hrow m]
      have hm : m < full.length := by omega
      simp [List.getElem?_eq_getElem hm, List.getD_eq_getElem?_getD, bv]
    have hf' := free_of hrow m
    have hu16 := ndig_le 15 u (by have := HU.out; omega)
    have hndp := ndig_pos v
    have HR := Lib.hid hrow
    have HD := Lib.hid hdr
    have HV := Lib.hid hv
    have HN := Lib.hid hd
    have HL := Lib.hid hl
    clear hrow hdr hv hd hl
    obtain ⟨s, hse⟩ : ∃ s, s = w.heap.size := ⟨_, rfl⟩
    have hsz : w.heap.size ≤ s := by omega
    rw [← hse] at hz' hf' HR ⊢
    clear hse
    by_cases hs : v < 16
    · have hdv := digs_at v hs (Nat.lt_trans hs (by decide))
      simp only at hdv
      have hrow' := row_put wr s m (hexd v) full _ HR.out
      have hb := Bs.rowAt (m := m) hrow'
      rw [set_drop (hexd v) (by have := HL.out; omega) HD.out, List.length_set, HL.out] at hb
      have hstr := run_str _ (c := 65 - m) hb
      have hal : Tryd.prog.arrayLen 92 = 65 := by decide +kernel
      have hsl : ∀ W, (Instr.sliceAt 92 (.pointer (some ⟨s, 0, none⟩)) (some (.int .i64 (m : Int))) none none).run Tryd.prog W = .ok (.slice (some ⟨s, m, none⟩) (65 - m) (65 - m)) W := fun W => by
        rw [run_sliceAt_array_l W 92 ⟨s, 0, none⟩ rfl .i64 (m : Int) (by omega) (by rw [hal]; omega), hal]
        go_simp
        omega
      have he : hexs (ndig u) u = hexd v :: hexs k u := by
        rw [HN.out, ndig_small hs, show k + 1 = k + 1 by rfl, hexs, ← HV.out, Nat.mod_eq_of_lt hs]
      have HB := Lib.hid he
      clear hand hrow' hb he hal
      go_wp2
      go_ret2
      rw [HB.out]
      exact ⟨rfl, hc.put hsz _ _⟩
    · have hm16 : v % 16 < 16 := Nat.mod_lt _ (by omega)
      have hdm := digs_at (v % 16) hm16 (Nat.lt_trans hm16 (by decide))
      simp only at hdm
      go_wp2
      have hd1 := HN.out
      rw [ndig_big hs] at hd1
      refine ⟨⟨k + 1, m - 1, v / 16, full.set m (hexd (v % 16)), ?_, ?_, by omega, ?_, by omega, by simpa using HL.out, row_put wr s m _ full _ HR.out, ?_, hc.put hsz _ _⟩, ?_⟩
      · simp
      · simp; omega
      · rw [HV.out, Nat.div_div_eq_div_mul, Nat.pow_succ]
      · rw [show m - 1 + 1 = m by omega, set_drop (hexd (v % 16)) (by have := HL.out; omega) HD.out, hexs, ← HV.out]
      · simp [intOf]; omega
end Go.Proofs.YtphchggabcbfkaaDoor
