/- PastBytes. -/
import Derived.Test.YtpgelolchfglbaaQread
import Derived.Test.YtpgelolchfglbaaPbytes3
import Derived.Test.YtpgelolchfglbaaKit
import Derived.Test.YtpgelolchfglbaaPaawake
namespace Go.Proofs.Ytpgelolchfglbaa
open Go.RowKit Go.Lib
set_option linter.unusedSimpArgs false
set_option linter.unusedVariables false


theorem palong_any (w : World) (A : Option Addr) (n c : Nat) : Calls Try.prog 9 #[.slice A n c, .slice none 0 0, .slice none 0 0] w fun e w' => e = .returned (.bool (decide (200 < n))) ∧ Chg [] w w' := by
  by_cases h : 200 < n
  · have h2 : (200 : Int) < (n : Int) := by omega
    rw [decide_eq_true h]
    go_enter Try.func9, Try.ntmps9
    go_wp2
    go_ret
    exact ⟨rfl, Chg.refl _ _⟩
  · have h2 : ¬ (200 : Int) < (n : Int) := by omega
    rw [decide_eq_false h]
    go_enter Try.func9, Try.ntmps9
    go_wp2
    go_ret
    exact ⟨rfl, Chg.refl _ _⟩
/-- What is written over is new since w1. -/
theorem over_since {w1 w6 w7 : World} {A : Option Addr} (hF : ∀ a, A = some a → w1.heap.size ≤ a.block) (h7 : ∀ S : List Nat, (∀ a, A = some a → a.block ∈ S) → Chg S w6 w7) : ∃ S : List Nat, (∀ i ∈ S, w1.heap.size ≤ i) ∧ Chg S w6 w7 := by
  rcases A with _ | a
  · exact ⟨[], by simp, h7 [] (by simp)⟩
  · exact ⟨[a.block], by simpa using hF a rfl, h7 [a.block] (by rintro b ⟨⟩; simp)⟩
theorem Chg.over {w w1 w6 w7 : World} {S : List Nat} (h : Chg [] w w6) (h1 : Chg [] w w1) (hS : ∀ i ∈ S, w1.heap.size ≤ i) (h7 : Chg S w6 w7) : Chg [] w w7 :=
  h.trans' h7 fun i hi => .inr (Nat.le_trans h1.size (hS i hi))
theorem OwnK.lt_ {α : Type} {R : RowTy α} {w : World} {A : Option Addr} {c : Nat} {xs : List α} (h : OwnK R w A c xs) : ∀ a, A = some a → a.block < w.heap.size := by
  rintro a rfl
  rcases h with ⟨h1, _⟩ | ⟨g, full, h1, hg, _⟩
  · cases h1
  · cases h1; exact lt_of_heap hg
theorem OwnB.lt_ {w : World} {A : Option Addr} {c : Nat} {xs : List UInt8} (h : OwnB w A c xs) : ∀ a, A = some a → a.block < w.heap.size := by
  rintro a rfl
  rcases h with ⟨h1, _⟩ | ⟨g, full, h1, hg, _⟩
  · cases h1
  · cases h1; exact lt_of_heap hg
theorem Lent.lt_ {w : World} {g : Nat} {xs : List UInt8} (h : Lent w g xs) : g < w.heap.size := by
  have := h.marks
  obtain ⟨a, e, hc⟩ := this.cells 0 _ rfl
  cases e
  have := lt_of_cell hc
  rwa [block_add] at this

theorem readS_len (ys : List UInt8) : (readS ys).1.length ≤ ys.length := by
  unfold readS
  split
  · simp
  · split
    · split
      · rw [spansR_len]; omega
      · simp
    · simp

theorem over_only {w6 w7 : World} {A : Option Addr} (h7 : ∀ S : List Nat, (∀ a, A = some a → a.block ∈ S) → Chg S w6 w7) : ∃ S : List Nat, (∀ i ∈ S, ∃ a, A = some a ∧ a.block = i) ∧ Chg S w6 w7 := by
  rcases A with _ | a
  · exact ⟨[], by simp, h7 [] (by simp)⟩
  · exact ⟨[a.block], by simp, h7 [a.block] (by rintro b ⟨⟩; simp)⟩

set_option maxHeartbeats 4000000 in
set_option maxRecDepth 100000 in
theorem pbyteslaw_yes (w : World) (A : Option Addr) (n c : Nat) (xs : List (Int × Int × Int)) (h : RdK spanTy w A n xs) (hn : n * 24 ≤ 140737488351232) (B : Option Addr) (m d : Nat) (ys : List UInt8) (hb : Bs w B m ys) (hm : m ≤ 140737488351232) (hmd : m ≤ d) (hd : d ≤ 9223372036854775807) :
    Calls Try.prog 5 #[.slice A n c, .slice B m d] w fun e w' => e = .returned (.bool true) ∧ Chg [] w w' := by
  have hl := h.len
  have hl2 := hb.len
  subst hl hl2
  have HA := Lib.hid h
  have HB := Lib.hid hb
  have C := Lib.hid (Chg.refl [] w)
  clear h hb
  by_cases hbig : 200 < xs.length
  · go_enter Try.func5, Try.ntmps5
    go_wp2_with fail
    refine (palong_any _ A _ c).mono ?_
    rintro e w1 ⟨rfl, hc⟩
    rw [decide_eq_true hbig]
    have C := Lib.hid (C.out.trans hc)
    clear hc
    go_wp2_with fail
    refine (l7awake_run _).mono ?_
    rintro e w2 ⟨rfl, hc⟩
    have C := Lib.hid (C.out.trans hc)
    clear hc
    go_wp2
    go_ret
    exact ⟨rfl, C.out⟩
  by_cases hbig2 : 3000 < ys.length
  · have h2 : (3000 : Int) < (ys.length : Int) := by omega
    go_enter Try.func5, Try.ntmps5
    go_wp2_with fail
    refine (palong_any _ A _ c).mono ?_
    rintro e w1 ⟨rfl, hc⟩
    rw [decide_eq_false hbig]
    have C := Lib.hid (C.out.trans hc)
    clear hc
    go_wp2_with fail
    refine (l7awake_run _).mono ?_
    rintro e w2 ⟨rfl, hc⟩
    have C := Lib.hid (C.out.trans hc)
    clear hc
    go_wp2
    go_ret
    exact ⟨rfl, C.out⟩
  have h2 : ¬ (3000 : Int) < (ys.length : Int) := by omega
  go_enter Try.func5, Try.ntmps5
  go_wp2_with fail
  refine (palong_any _ A _ c).mono ?_
  rintro e w1 ⟨rfl, hc⟩
  rw [decide_eq_false hbig]
  have C := Lib.hid (C.out.trans hc)
  clear hc
  go_wp2_with fail
  refine (copyspan_any _ A _ c xs (HA.out.chg C.out (by simp)) (by omega)).mono ?_
  rintro e w2 ⟨A0, c0, rfl, hO, hN, hc⟩
  have C := Lib.hid (C.out.trans hc)
  have HI := Lib.hid hO
  clear hO hN hc
  go_wp2_with fail
  refine (lent_any _ B _ d ys (HB.out.chg C.out (by simp)) hm).mono ?_
  rintro e w3 ⟨g, rfl, hL, hg, hc⟩
  have C := Lib.hid (C.out.trans hc)
  have HI := Lib.hid (HI.out.chg hc (by simp))
  have HL := Lib.hid hL
  have C3 := C
  have LI := Lib.hid HI.out.lt_
  have LG := Lib.hid HL.out.lt_
  clear hL hg hc
  go_wp2_with fail
  refine (pabytes_any _ A0 _ c0 xs HI.out.reads (by omega)).mono ?_
  rintro e w4 ⟨A1, c1, rfl, hO, hN, hc⟩
  have C := Lib.hid (C.out.trans hc)
  have HI := Lib.hid (HI.out.chg hc (by simp))
  have HL := Lib.hid (HL.out.chg hc (by simp))
  have F1 := Lib.hid hO
  have N1 := Lib.hid hN
  clear hO hN hc
  go_wp2_with fail
  refine (qbytes_any _ A _ c xs (HA.out.chg C.out (by simp)) (by omega)).mono ?_
  rintro e w5 ⟨A2, c2, rfl, hO, hN, hc⟩
  have C := Lib.hid (C.out.trans hc)
  have HI := Lib.hid (HI.out.chg hc (by simp))
  have HL := Lib.hid (HL.out.chg hc (by simp))
  have F1 := Lib.hid (F1.out.chg hc (by simp))
  have F2 := Lib.hid hO
  clear hO hN hc
  go_wp2_with fail
  have LF1 := Lib.hid F1.out.lt_
  have C5 := C
  have LI5 := Lib.hid HI.out.lt_
  have LG5 := Lib.hid HL.out.lt_
  refine (paread_any _ (some ⟨g, 0, none⟩) _ _ ys HL.out.reads (by omega) (by omega) (by omega)).mono ?_
  rintro e w6 ⟨A3, c3, rfl, hO, hN, hc⟩
  have C := Lib.hid (C.out.trans hc)
  have HI := Lib.hid (HI.out.chg hc (by simp))
  have HL := Lib.hid (HL.out.chg hc (by simp))
  have F1 := Lib.hid (F1.out.chg hc (by simp))
  have F2 := Lib.hid (F2.out.chg hc (by simp))
  have F3 := Lib.hid hO
  have N3 := Lib.hid hN
  clear hO hN hc
  obtain ⟨w7, hw7, hc, b1⟩ := news1 w6 (.cells #[.int .i64 (readS ys).2.1, .int .i64 (readS ys).2.2] 47)
  have W7 := Lib.hid hw7
  have C := Lib.hid (C.out.trans hc)
  have HI := Lib.hid (HI.out.chg hc (by simp))
  have HL := Lib.hid (HL.out.chg hc (by simp))
  have F1 := Lib.hid (F1.out.chg hc (by simp))
  have F2 := Lib.hid (F2.out.chg hc (by simp))
  have F3 := Lib.hid (F3.out.chg hc (by simp))
  have B1 := Lib.hid b1
  clear hw7 hc b1
  go_upto_region 7 with fail
  rw [← W7.out]
  clear W7
  generalize w6.heap.size = s1 at *
  go_wp2_with fail
  refine (qread_any _ B _ d ys (HB.out.chg C.out (by simp)) hm hmd hd).mono ?_
  rintro e w8 ⟨A4, c4, rfl, hO, hN, hc⟩
  have C := Lib.hid (C.out.trans hc)
  have HI := Lib.hid (HI.out.chg hc (by simp))
  have HL := Lib.hid (HL.out.chg hc (by simp))
  have F1 := Lib.hid (F1.out.chg hc (by simp))
  have F2 := Lib.hid (F2.out.chg hc (by simp))
  have F3 := Lib.hid (F3.out.chg hc (by simp))
  have B1 := Lib.hid (hc.at_ B1.out (by simp))
  have F4 := Lib.hid hO
  clear hO hN hc
  obtain ⟨w9, hw9, hc, b2⟩ := news1 w8 (.cells #[.int .i64 (readS ys).2.1, .int .i64 (readS ys).2.2] 47)
  have W9 := Lib.hid hw9
  have C := Lib.hid (C.out.trans hc)
  have HI := Lib.hid (HI.out.chg hc (by simp))
  have HL := Lib.hid (HL.out.chg hc (by simp))
  have F1 := Lib.hid (F1.out.chg hc (by simp))
  have F2 := Lib.hid (F2.out.chg hc (by simp))
  have F3 := Lib.hid (F3.out.chg hc (by simp))
  have B1 := Lib.hid (hc.at_ B1.out (by simp))
  have F4 := Lib.hid (F4.out.chg hc (by simp))
  have B2 := Lib.hid b2
  clear hw9 hc b2
  go_upto_region 8 with fail
  rw [← W9.out]
  clear W9
  generalize w8.heap.size = s2 at *
  go_wp2_with fail
  refine (same_yes _ A1 A2 _ _ c1 c2 _ _ F1.out.reads F2.out.reads rfl).mono ?_
  rintro e v1 ⟨rfl, rfl⟩
  go_wp2_with fail
  refine (samespan_any _ A3 A4 _ _ c3 c4 _ _ F3.out.reads F4.out.reads (by have := readS_len ys; omega) (by have := readS_len ys; omega)).mono ?_
  rintro e v2 ⟨rfl, hc⟩
  rw [show ((readS ys).1 == (readS ys).1) = true by simp]
  have C := Lib.hid (C.out.trans hc)
  have HI := Lib.hid (HI.out.chg hc (by simp))
  have HL := Lib.hid (HL.out.chg hc (by simp))
  have F1 := Lib.hid (F1.out.chg hc (by simp))
  have F2 := Lib.hid (F2.out.chg hc (by simp))
  have F3 := Lib.hid (F3.out.chg hc (by simp))
  have B1 := Lib.hid (hc.at_ B1.out (by simp))
  have B2 := Lib.hid (hc.at_ B2.out (by simp))
  clear hc
  have z0 := cell_of B1.out 0
  have z1 := cell_of B1.out 1
  have y0 := cell_of B2.out 0
  have y1 := cell_of B2.out 1
  simp only [List.getElem?_toArray, List.getElem?_cons_succ, List.getElem?_cons_zero] at z0 z1 y0 y1
  generalize (readS ys).2.1 = e1 at *
  generalize (readS ys).2.2 = e2 at *
  go_wp2_with fail
  clear z0 z1 y0 y1
  refine (over_own _ A1 c1 _ _ F1.out rfl).mono ?_
  rintro e v3 ⟨rfl, h9⟩
  obtain ⟨S, hS, h9⟩ := over_only h9
  have hS2 : ∀ i ∈ S, w3.heap.size ≤ i := fun i hi => by obtain ⟨a, ha, e⟩ := hS i hi; rw [← e]; exact N1.out a ha
  have hS3 : ∀ i ∈ S, i < w5.heap.size := fun i hi => by obtain ⟨a, ha, e⟩ := hS i hi; rw [← e]; exact LF1.out a ha
  have C := Lib.hid (C.out.over C3.out hS2 h9)
  have HI := Lib.hid (HI.out.chg h9 (fun a ha hin => absurd (hS2 _ hin) (Nat.not_le.2 (LI.out a ha))))
  have HL := Lib.hid (HL.out.chg h9 (fun hin => absurd (hS2 _ hin) (Nat.not_le.2 LG.out)))
  have F3 := Lib.hid (F3.out.chg h9 (fun a ha hin => absurd (hS3 _ hin) (Nat.not_lt.2 (N3.out a ha))))
  clear h9 hS hS2 hS3 F1 F2 F4 B1 B2 LF1 N1
  go_wp2_with fail
  refine (overspan_own _ A3 _ c3 _ F3.out rfl).mono ?_
  rintro e v4 ⟨rfl, h9⟩
  obtain ⟨S, hS, h9⟩ := over_only h9
  have hS2 : ∀ i ∈ S, w5.heap.size ≤ i := fun i hi => by obtain ⟨a, ha, e⟩ := hS i hi; rw [← e]; exact N3.out a ha
  have C := Lib.hid (C.out.over C5.out hS2 h9)
  have HI := Lib.hid (HI.out.chg h9 (fun a ha hin => absurd (hS2 _ hin) (Nat.not_le.2 (LI5.out a ha))))
  have HL := Lib.hid (HL.out.chg h9 (fun hin => absurd (hS2 _ hin) (Nat.not_le.2 LG5.out)))
  clear h9 hS hS2 F3 N3
  go_wp2_with fail
  refine (samespan_any _ A0 A _ _ c0 c xs xs HI.out.reads (HA.out.chg C.out (by simp)) (by omega) (by omega)).mono ?_
  rintro e v5 ⟨rfl, hc⟩
  rw [show (xs == xs) = true by simp]
  have C := Lib.hid (C.out.trans hc)
  have HL := Lib.hid (HL.out.chg hc (by simp))
  clear hc
  go_wp2_with fail
  refine (kept_any _ g B _ d ys HL.out (HB.out.chg C.out (by simp)) hm).mono ?_
  rintro e v6 ⟨rfl, hc⟩
  have C := Lib.hid (C.out.trans hc)
  clear hc
  go_wp2_with fail
  refine (l7awake_run _).mono ?_
  rintro e v7 ⟨rfl, hc⟩
  have C := Lib.hid (C.out.trans hc)
  clear hc
  go_wp2
  go_ret
  exact ⟨rfl, C.out⟩
end Go.Proofs.Ytpgelolchfglbaa
