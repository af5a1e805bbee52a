/- What a file system answers that is none, or was not made. -/
import Derived.Test.YtamlaiobjeogeaaGreatDoorMem
import Derived.Deep.QuietTactic
import Derived.BigQuiet
import Derived.RegionTactic
import Derived.Deep.RegionHeld3
import Derived.Deep.Cut
namespace Go.Proofs.YtamlaiobjeogeaaGreatDoor
open Go.RowKit Go.Lib
set_option linter.unusedSimpArgs false
set_option linter.unusedVariables false


theorem run_eql_nil_ptr_ {P : Program} (w : World) {tp te : TypeId} (a : Addr) (hp : P.underlying tp = some (.pointer te)) :
    (binOp .eql tp (.pointer none) (.pointer (some a))).run P w = .ok (.bool false) w := by
  have h : ∀ d : Nat, (Op.equalIn (d + 1) tp (.pointer none) (.pointer (some a))).run P w = .ok false w := fun d => by
    simp [Op.equalIn, run_underlying hp]
  simp only [binOp]
  simp [Op.equal, Op.maxDepth, h 9999]
/-- No file system, or one that New has not made. -/
def DeadF (w : World) (p : Option Addr) : Prop := p = none ∨ ∃ b, p = some ⟨b, 0, none⟩ ∧ w.cell? ⟨b, 0, none⟩ = some (.pointer none)
theorem DeadF.chg {w w' : World} {p : Option Addr} (h : DeadF w p) (hc : Chg [] w w') : DeadF w' p := by
  rcases h with h | ⟨b, h, hb⟩
  · exact .inl h
  · exact .inr ⟨b, h, hc.cell hb (by simp)⟩
theorem fmade_dead (w : World) (p : Option Addr) (h : DeadF w p) : Calls Tryz.prog 36 #[.pointer p] w fun e w' => e = .returned (.bool false) ∧ Chg [] w w' := by
  rcases h with rfl | ⟨b, rfl, hb⟩
  · go_enter Tryz.func36, Tryz.ntmps36
    go_wp2
    go_ret
    exact ⟨rfl, Chg.refl _ _⟩
  · have ep := fun W => run_eql_nil_ptr_ (P := Tryz.prog) W ⟨b, 0, none⟩ Tryz.underlying30
    go_enter Tryz.func36, Tryz.ntmps36
    go_wp2
    go_ret
    exact ⟨rfl, Chg.refl _ _⟩

theorem frefuses_dead (w : World) (p : Option Addr) (h : DeadF w p) : Calls Tryz.prog 31 #[.pointer p] w fun e w' => e = .returned (.int .i64 1) ∧ Chg [] w w' := by
  have H := Lib.hid h
  have C := Lib.hid (Chg.refl [] w)
  clear h
  go_enter Tryz.func31, Tryz.ntmps31
  go_wp2_with fail
  refine (fmade_dead _ p H.out).mono ?_
  rintro r w9 ⟨rfl, hc⟩
  have C := Lib.hid (C.out.trans hc)
  have H := Lib.hid (H.out.chg hc)
  clear hc
  go_wp2
  go_ret
  exact ⟨rfl, C.out⟩

theorem fdo_dead (w : World) (p : Option Addr) (h : DeadF w p) (F F2 : Value) : Calls Tryz.prog 17 #[.pointer p, F, F2] w fun e w' => e = .returned (.int .i64 1) ∧ Chg [] w w' := by
  have H := Lib.hid h
  have C := Lib.hid (Chg.refl [] w)
  clear h
  go_enter Tryz.func17, Tryz.ntmps17
  go_wp2_with fail
  refine (frefuses_dead _ p H.out).mono ?_
  rintro r w9 ⟨rfl, hc⟩
  have C := Lib.hid (C.out.trans hc)
  have H := Lib.hid (H.out.chg hc)
  clear hc
  go_wp2
  go_ret
  exact ⟨rfl, C.out⟩

theorem fjust_any (w : World) (s : ByteArray) : Calls Tryz.prog 21 #[.string s] w fun e w' => ∃ F, e = .returned F ∧ Chg [] w w' := by
  obtain ⟨w1, hw1, c1, b0⟩ := news1 w (.cells #[.string s] 9)
  have W1 := Lib.hid hw1
  have C := Lib.hid c1
  clear hw1 c1 b0
  go_enter Tryz.func21, Tryz.ntmps21
  go_upto_region 1 with fail
  rw [← W1.out]
  clear W1
  go_wp2
  go_ret
  exact ⟨_, rfl, C.out⟩

theorem fwrite_dead (w : World) (p : Option Addr) (h : DeadF w p) (s : ByteArray) (m : Int) (A : Option Addr) (n c : Nat) : Calls Tryz.prog 6 #[.pointer p, .string s, .int .i64 m, .slice A n c] w fun e w' => e = .returned (.int .i64 1) ∧ Chg [] w w' := by
  obtain ⟨w1, hw1, c1, b0, b1, b2⟩ := news3 w (.cells #[.string s] 9) (.cells #[.int .i64 m] 3) (.cells #[.slice A n c] 22)
  have W1 := Lib.hid hw1
  have H := Lib.hid (h.chg c1)
  have C := Lib.hid c1
  have k0 := cell_of b0 0
  have k1 := cell_of b1 0
  have k2 := cell_of b2 0
  simp only [List.getElem?_toArray, List.getElem?_cons_succ, List.getElem?_cons_zero] at k0 k1 k2
  clear h hw1 c1 b0 b1 b2
  go_enter Tryz.func6, Tryz.ntmps6
  go_upto_region 1 with fail
  rw [← W1.out]
  clear W1
  go_wp2_with fail
  refine (fjust_any _ s).mono ?_
  rintro r w9 ⟨F, rfl, hc⟩
  have C := Lib.hid (C.out.trans hc)
  have H := Lib.hid (H.out.chg hc)
  clear hc
  go_wp2_with fail
  refine (fdo_dead _ p H.out _ _).mono ?_
  rintro r w9 ⟨rfl, hc⟩
  have C := Lib.hid (C.out.trans hc)
  have H := Lib.hid (H.out.chg hc)
  clear hc
  go_wp2
  go_ret
  exact ⟨rfl, C.out⟩

theorem fmkdir_dead (w : World) (p : Option Addr) (h : DeadF w p) (s : ByteArray) (m : Int) : Calls Tryz.prog 7 #[.pointer p, .string s, .int .i64 m] w fun e w' => e = .returned (.int .i64 1) ∧ Chg [] w w' := by
  obtain ⟨w1, hw1, c1, b0, b1⟩ := news2 w (.cells #[.string s] 9) (.cells #[.int .i64 m] 3)
  have W1 := Lib.hid hw1
  have H := Lib.hid (h.chg c1)
  have C := Lib.hid c1
  have k0 := cell_of b0 0
  have k1 := cell_of b1 0
  simp only [List.getElem?_toArray, List.getElem?_cons_succ, List.getElem?_cons_zero] at k0 k1
  clear h hw1 c1 b0 b1
  go_enter Tryz.func7, Tryz.ntmps7
  go_upto_region 1 with fail
  rw [← W1.out]
  clear W1
  go_wp2_with fail
  refine (fjust_any _ s).mono ?_
  rintro r w9 ⟨F, rfl, hc⟩
  have C := Lib.hid (C.out.trans hc)
  have H := Lib.hid (H.out.chg hc)
  clear hc
  go_wp2_with fail
  refine (fdo_dead _ p H.out _ _).mono ?_
  rintro r w9 ⟨rfl, hc⟩
  have C := Lib.hid (C.out.trans hc)
  have H := Lib.hid (H.out.chg hc)
  clear hc
  go_wp2
  go_ret
  exact ⟨rfl, C.out⟩

theorem fchmod_dead (w : World) (p : Option Addr) (h : DeadF w p) (s : ByteArray) (m : Int) : Calls Tryz.prog 8 #[.pointer p, .string s, .int .i64 m] w fun e w' => e = .returned (.int .i64 1) ∧ Chg [] w w' := by
  obtain ⟨w1, hw1, c1, b0, b1⟩ := news2 w (.cells #[.string s] 9) (.cells #[.int .i64 m] 3)
  have W1 := Lib.hid hw1
  have H := Lib.hid (h.chg c1)
  have C := Lib.hid c1
  have k0 := cell_of b0 0
  have k1 := cell_of b1 0
  simp only [List.getElem?_toArray, List.getElem?_cons_succ, List.getElem?_cons_zero] at k0 k1
  clear h hw1 c1 b0 b1
  go_enter Tryz.func8, Tryz.ntmps8
  go_upto_region 1 with fail
  rw [← W1.out]
  clear W1
  go_wp2_with fail
  refine (fjust_any _ s).mono ?_
  rintro r w9 ⟨F, rfl, hc⟩
  have C := Lib.hid (C.out.trans hc)
  have H := Lib.hid (H.out.chg hc)
  clear hc
  go_wp2_with fail
  refine (fdo_dead _ p H.out _ _).mono ?_
  rintro r w9 ⟨rfl, hc⟩
  have C := Lib.hid (C.out.trans hc)
  have H := Lib.hid (H.out.chg hc)
  clear hc
  go_wp2
  go_ret
  exact ⟨rfl, C.out⟩

theorem fremove_dead (w : World) (p : Option Addr) (h : DeadF w p) (s : ByteArray) : Calls Tryz.prog 9 #[.pointer p, .string s] w fun e w' => e = .returned (.int .i64 1) ∧ Chg [] w w' := by
  obtain ⟨w1, hw1, c1, b0⟩ := news1 w (.cells #[.string s] 9)
  have W1 := Lib.hid hw1
  have H := Lib.hid (h.chg c1)
  have C := Lib.hid c1
  have k0 := cell_of b0 0
  simp only [List.getElem?_toArray, List.getElem?_cons_succ, List.getElem?_cons_zero] at k0
  clear h hw1 c1 b0
  go_enter Tryz.func9, Tryz.ntmps9
  go_upto_region 1 with fail
  rw [← W1.out]
  clear W1
  go_wp2_with fail
  refine (fdo_dead _ p H.out _ _).mono ?_
  rintro r w9 ⟨rfl, hc⟩
  have C := Lib.hid (C.out.trans hc)
  have H := Lib.hid (H.out.chg hc)
  clear hc
  go_wp2
  go_ret
  exact ⟨rfl, C.out⟩

theorem frename_dead (w : World) (p : Option Addr) (h : DeadF w p) (s t : ByteArray) : Calls Tryz.prog 10 #[.pointer p, .string s, .string t] w fun e w' => e = .returned (.int .i64 1) ∧ Chg [] w w' := by
  obtain ⟨w1, hw1, c1, b0, b1⟩ := news2 w (.cells #[.string s] 9) (.cells #[.string t] 9)
  have W1 := Lib.hid hw1
  have H := Lib.hid (h.chg c1)
  have C := Lib.hid c1
  have k0 := cell_of b0 0
  have k1 := cell_of b1 0
  simp only [List.getElem?_toArray, List.getElem?_cons_succ, List.getElem?_cons_zero] at k0 k1
  clear h hw1 c1 b0 b1
  go_enter Tryz.func10, Tryz.ntmps10
  go_upto_region 1 with fail
  rw [← W1.out]
  clear W1
  go_wp2_with fail
  refine (fdo_dead _ p H.out _ _).mono ?_
  rintro r w9 ⟨rfl, hc⟩
  have C := Lib.hid (C.out.trans hc)
  have H := Lib.hid (H.out.chg hc)
  clear hc
  go_wp2
  go_ret
  exact ⟨rfl, C.out⟩

theorem fswap_dead (w : World) (p : Option Addr) (h : DeadF w p) (s : ByteArray) (k m : Int) (A : Option Addr) (n c : Nat) (o : Int) : Calls Tryz.prog 11 #[.pointer p, .string s, .agg #[.int .i64 k, .int .i64 m, .slice A n c], .int .i64 o] w fun e w' => e = .returned (.int .i64 1) ∧ Chg [] w w' := by
  obtain ⟨w1, hw1, c1, b0⟩ := news1 w (.cells #[.int .i64 k, .int .i64 m, .slice A n c] 24)
  have W1 := Lib.hid hw1
  have H := Lib.hid (h.chg c1)
  have C := Lib.hid c1
  have k0 := cell_of b0 0
  simp only [List.getElem?_toArray, List.getElem?_cons_succ, List.getElem?_cons_zero] at k0
  clear h hw1 c1 b0
  go_enter Tryz.func11, Tryz.ntmps11
  go_upto_region 1 with fail
  rw [← W1.out]
  clear W1
  go_wp2_with fail
  refine (frefuses_dead _ p H.out).mono ?_
  rintro r w9 ⟨rfl, hc⟩
  have C := Lib.hid (C.out.trans hc)
  have H := Lib.hid (H.out.chg hc)
  clear hc
  go_wp2
  go_ret
  exact ⟨rfl, C.out⟩

theorem ftree_dead (w : World) (p : Option Addr) (h : DeadF w p) : Calls Tryz.prog 12 #[.pointer p] w fun e w' => e = .returned (.slice none 0 0) ∧ Chg [] w w' := by
  have H := Lib.hid h
  have C := Lib.hid (Chg.refl [] w)
  clear h
  go_enter Tryz.func12, Tryz.ntmps12
  go_wp2_with fail
  refine (fmade_dead _ p H.out).mono ?_
  rintro r w9 ⟨rfl, hc⟩
  have C := Lib.hid (C.out.trans hc)
  have H := Lib.hid (H.out.chg hc)
  clear hc
  go_wp2
  go_ret
  exact ⟨rfl, C.out⟩

theorem fstamp_dead (w : World) (p : Option Addr) (h : DeadF w p) (s : ByteArray) : Calls Tryz.prog 13 #[.pointer p, .string s] w fun e w' => e = .returned (.int .i64 0) ∧ Chg [] w w' := by
  have H := Lib.hid h
  have C := Lib.hid (Chg.refl [] w)
  clear h
  go_enter Tryz.func13, Tryz.ntmps13
  go_wp2_with fail
  refine (fmade_dead _ p H.out).mono ?_
  rintro r w9 ⟨rfl, hc⟩
  have C := Lib.hid (C.out.trans hc)
  have H := Lib.hid (H.out.chg hc)
  clear hc
  go_wp2
  go_ret
  exact ⟨rfl, C.out⟩

theorem fclock_dead (w : World) (p : Option Addr) (h : DeadF w p) : Calls Tryz.prog 14 #[.pointer p] w fun e w' => e = .returned (.int .i64 0) ∧ Chg [] w w' := by
  have H := Lib.hid h
  have C := Lib.hid (Chg.refl [] w)
  clear h
  go_enter Tryz.func14, Tryz.ntmps14
  go_wp2_with fail
  refine (fmade_dead _ p H.out).mono ?_
  rintro r w9 ⟨rfl, hc⟩
  have C := Lib.hid (C.out.trans hc)
  have H := Lib.hid (H.out.chg hc)
  clear hc
  go_wp2
  go_ret
  exact ⟨rfl, C.out⟩

theorem klongeffect_any (w : World) (k m : Int) (A : Option Addr) (n c : Nat) :
    Calls Tryz.prog 15 #[.agg #[.int .i64 k, .int .i64 m, .slice A n c]] w fun e w' => e = .returned (.bool (decide (1200 < n))) ∧ Chg [] w w' := by
  obtain ⟨w1, hw1, c1, b1⟩ := news1 w (.cells #[.int .i64 k, .int .i64 m, .slice A n c] 24)
  have W1 := Lib.hid hw1
  have C1 := Lib.hid c1
  have k2 := cell_of b1 2
  simp only [List.getElem?_toArray, List.getElem?_cons_succ, List.getElem?_cons_zero] at k2
  clear hw1 c1 b1
  by_cases h : 1200 < n
  · have h2 : (1200 : Int) < (n : Int) := by omega
    rw [decide_eq_true h]
    go_enter Tryz.func15, Tryz.ntmps15
    go_upto_region 1 with fail
    rw [← W1.out]
    clear W1
    go_wp2
    go_ret
    exact ⟨rfl, C1.out⟩
  · have h2 : ¬ (1200 : Int) < (n : Int) := by omega
    rw [decide_eq_false h]
    go_enter Tryz.func15, Tryz.ntmps15
    go_upto_region 1 with fail
    rw [← W1.out]
    clear W1
    go_wp2
    go_ret
    exact ⟨rfl, C1.out⟩
/-- One act: is anything of it too long? -/
def longV (s t n : Nat) : Bool := decide (100 < s) || (decide (100 < t) || decide (1200 < n))

theorem vlong_one (w : World) (g : Nat) (kd of : Int) (s t : ByteArray) (k m : Int) (A : Option Addr) (n c : Nat) (hg : w.heap[g]? = some (.cells #[.int .i64 kd, .int .i64 of, .string s, .string t, .int .i64 k, .int .i64 m, .slice A n c] 26 (0, 0))) :
    Calls Tryz.prog 4 #[.slice (some ⟨g, 0, none⟩) 1 1] w fun e w' => e = .returned (.bool (longV s.size t.size n)) ∧ Chg [] w w' := by
  have k2 := cell_of hg 2
  have k3 := cell_of hg 3
  have k4 := cell_of hg 4
  have k5 := cell_of hg 5
  have k6 := cell_of hg 6
  simp only [List.getElem?_toArray, List.getElem?_cons_succ, List.getElem?_cons_zero] at k2 k3 k4 k5 k6
  have HG := Lib.hid hg
  clear hg
  by_cases h1 : 100 < s.size
  · have h2 : (100 : Int) < (s.size : Int) := by omega
    rw [show longV s.size t.size n = true by unfold longV; simp [h1]]
    go_enter Tryz.func4, Tryz.ntmps4
    go_wp2
    refine wp_loop_rounds 1 ?_
    rw [rounds_succ]
    go_wp2
    go_ret
    exact ⟨rfl, Chg.refl _ _⟩
  · have h2 : ¬ (100 : Int) < (s.size : Int) := by omega
    by_cases h3 : 100 < t.size
    · have h4 : (100 : Int) < (t.size : Int) := by omega
      rw [show longV s.size t.size n = true by unfold longV; simp [h1, h3]]
      go_enter Tryz.func4, Tryz.ntmps4
      go_wp2
      refine wp_loop_rounds 1 ?_
      rw [rounds_succ]
      go_wp2
      go_ret
      exact ⟨rfl, Chg.refl _ _⟩
    · have h4 : ¬ (100 : Int) < (t.size : Int) := by omega
      by_cases h5 : 1200 < n
      · rw [show longV s.size t.size n = true by unfold longV; simp [h1, h3, h5]]
        go_enter Tryz.func4, Tryz.ntmps4
        go_wp2
        refine wp_loop_rounds 2 ?_
        rw [rounds_succ]
        go_wp2_with fail
        refine (klongeffect_any _ k m A n c).mono ?_
        rintro r w1 ⟨rfl, hc⟩
        rw [decide_eq_true h5]
        have C := Lib.hid hc
        clear hc k2 k3 k4 k5 k6
        go_wp2
        go_ret
        exact ⟨rfl, C.out⟩
      · rw [show longV s.size t.size n = false by unfold longV; simp [h1, h3, h5]]
        go_enter Tryz.func4, Tryz.ntmps4
        go_wp2
        refine wp_loop_rounds 2 ?_
        rw [rounds_succ]
        go_wp2_with fail
        refine (klongeffect_any _ k m A n c).mono ?_
        rintro r w1 ⟨rfl, hc⟩
        rw [decide_eq_false h5]
        have C := Lib.hid hc
        clear hc k2 k3 k4 k5 k6
        go_wp2
        rw [rounds_succ]
        go_wp2
        go_ret
        exact ⟨rfl, C.out⟩
end Go.Proofs.YtamlaiobjeogeaaGreatDoor
