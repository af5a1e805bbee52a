/- The law's awake (layer 5), by contracts. Package effect: Read. The statements' own functions over effects: SameEffect, LongEffect, of, file, awake. The kit's LongEntries. Of what is handed in, no more than is gone through. The kit's SameEntries. Arguments opened: bytes, numbers, texts: from the data that a row reads to the cells that a walk goes over. Entries, and rows of them, as arguments. TableWalks. Nothing is asked of the variables. -/
import Derived.Test.YtimdfpejgaidhaaGreatDoorZtwq
import Derived.Test.YtimdfpejgaidhaaGreatDoorZtwr
import Derived.Deep.Cut
import Derived.Deep.RegionHeld3
import Derived.Test.YtimdfpejgaidhaaGreatDoorZtwo
import Derived.Deep.CutRange
import Derived.Test.YtimdfpejgaidhaaGreatDoorZtwc
import Derived.Test.YtimdfpejgaidhaaGreatDoorZtwl
import Derived.Test.YtimdfpejgaidhaaGreatDoorZtwa
import Derived.Deep.Slices
import Derived.Deep.Fields
import Derived.ChangeSame
import Derived.SizedLaws
import Derived.ChangeArms
import Derived.ChangeSlices
import Derived.OpenShut
import Derived.ProofKit
import Derived.Test.YtimdfpejgaidhaaGreatDoorZtwb
import Derived.Test.YtimdfpejgaidhaaGreatDoorZtwp
import Derived.Test.YtimdfpejgaidhaaGreatDoorZtwk
import Derived.Test.YtimdfpejgaidhaaGreatDoorZtwh
import Derived.Test.YtimdfpejgaidhaaGreatDoorLaid0
namespace Go.Proofs.YtimdfpejgaidhaaGreatDoor
section
open Go.RowKit Go.Lib
set_option linter.unusedSimpArgs false
set_option linter.unusedVariables false

instance eqEnP : DecidableEq EnP := fun a b => decidable_of_iff (a.p = b.p ∧ a.k = b.k ∧ a.m = b.m ∧ a.b = b.b) ⟨fun ⟨h1, h2, h3, h4⟩ => by cases a; cases b; simp_all, fun h => by subst h; simp⟩
def three5 : List EnP := [⟨[97], 2, 0, []⟩, ⟨[97, 47, 98], 1, 0, [7]⟩, ⟨[99], 1, 0, [8]⟩]
def four5 : List EnP := [⟨[97], 2, 0, []⟩, ⟨[97, 47, 98], 1, 0, [7]⟩, ⟨[97, 47, 100], 2, 0, []⟩, ⟨[99], 1, 0, [8]⟩]
theorem three_sm : ∀ e ∈ three5, EnSm e ∧ e.p.length ≤ 900000 := by
  intro e he
  simp only [three5, List.mem_cons, List.not_mem_nil, or_false] at he
  rcases he with rfl | rfl | rfl <;> exact ⟨⟨by simp, by simp⟩, by simp⟩
theorem put5 : putT three5 ⟨[97, 47, 100], 2, 0, []⟩ = (0, four5) := by decide +kernel
theorem rem5 : removeT three5 [97] = (0, [⟨[99], 1, 0, [8]⟩]) := by decide +kernel
theorem mov5 : moveT three5 [97] [101] = (0, [⟨[99], 1, 0, [8]⟩, ⟨[101], 2, 0, []⟩, ⟨[101, 47, 98], 1, 0, [7]⟩]) := by decide +kernel
theorem tab5 : tabE four5 = 0 := by decide +kernel
set_option maxHeartbeats 1000000 in
theorem l5dir_any (w : World) : Calls Tryz.prog 36 #[] w fun r w' => r = .returned (.agg #[.int .i64 2, .int .i64 0, .slice none 0 0]) ∧ Chg [] w w' := by
  have C : Hid (Chg [] w (w.alloc (.cells #[.int .i64 2, .int .i64 0, .slice none 0 0] 25))) := Lib.hid ((Chg.refl [] w).alloc _)
  have b := heap_alloc_new w (.cells #[.int .i64 2, .int .i64 0, .slice none 0 0] 25)
  go_enter Tryz.func36, Tryz.ntmps36
  go_wp2
  have z0 := cell_of b 0
  have z1 := cell_of b 1
  have z2 := cell_of b 2
  simp only [List.getElem?_toArray, List.getElem?_cons_succ, List.getElem?_cons_zero] at z0 z1 z2
  refine bodyPost_ret (v := .agg #[.int .i64 2, .int .i64 0, .slice none 0 0]) (by simp [results, Tryz.results36, go_sem, z0, z1, z2]) rfl ?_
  exact ⟨rfl, C.out⟩
set_option maxHeartbeats 1000000 in
theorem l5file_any (w : World) (k : UInt8) : Calls Tryz.prog 67 #[.int .u8 (k.toNat : Int)] w fun r w' => ∃ A, r = .returned (.agg #[.int .i64 1, .int .i64 0, .slice A 1 1]) ∧ Bs w' A 1 [k] ∧ Chg [] w w' := by
  obtain ⟨w1, hw, hc, b0, b1⟩ := news2 w (.cells #[.int .i64 1, .int .i64 0, .slice (some ⟨w.heap.size + 1, 0, none⟩) 1 1] 25) (.cells #[.int .u8 (k.toNat : Int)] 5)
  have W1 := Lib.hid hw
  have C := Lib.hid hc
  have z0 := cell_of b0 0
  have z1 := cell_of b0 1
  have z2 := cell_of b0 2
  have y0 := cell_of b1 0
  simp only [List.getElem?_toArray, List.getElem?_cons_succ, List.getElem?_cons_zero] at z0 z1 z2 y0
  have BB : Hid (Bs w1 (some ⟨w.heap.size + 1, 0, none⟩) 1 [k]) := Lib.hid (by rw [hw]; simpa using Bs.one (w.alloc (.cells #[.int .i64 1, .int .i64 0, .slice (some ⟨w.heap.size + 1, 0, none⟩) 1 1] 25)) k _ rfl)
  clear hw hc b0 b1
  go_enter Tryz.func67, Tryz.ntmps67
  go_wp2
  rw [← W1.out]
  refine bodyPost_ret (v := .agg #[.int .i64 1, .int .i64 0, .slice (some ⟨w.heap.size + 1, 0, none⟩) 1 1]) (by simp [results, Tryz.results67, go_sem, z0, z1, z2]) rfl ?_
  exact ⟨_, rfl, BB.out, C.out⟩
set_option maxRecDepth 100000 in
set_option maxHeartbeats 2000000 in
theorem l5three_any (w : World) : Calls Tryz.prog 35 #[] w fun r w' => ∃ (A : Option Addr) (xs : List EnT), r = .returned (.slice A 3 3) ∧ xs.length = 3 ∧ RdK enTy w' A 3 xs ∧ EnsR w' xs three5 ∧ (∀ a, A = some a → a.block < w'.heap.size) ∧ Chg [] w w' := by
  go_enter Tryz.func35, Tryz.ntmps35
  go_wp2_with fail
  refine (l5dir_any w).mono ?_
  rintro r w1 ⟨rfl, hc⟩
  have C := Lib.hid hc
  clear hc
  go_wp2_with fail
  refine (l5file_any w1 7).mono ?_
  rintro r w2 ⟨A2, rfl, hb, hc⟩
  have B2 := Lib.hid hb
  replace C := Lib.hid (C.out.trans hc)
  clear hb hc
  go_wp2_with fail
  refine (l5file_any w2 8).mono ?_
  rintro r w3 ⟨A3, rfl, hb, hc⟩
  have B3 := Lib.hid hb
  replace B2 := Lib.hid (B2.out.chg hc (by simp))
  replace C := Lib.hid (C.out.trans hc)
  clear hb hc
  obtain ⟨w4, hw, hc, b4⟩ := news1 w3 (.cells #[.string ⟨#[97]⟩, .int .i64 2, .int .i64 0, .slice none 0 0, .string ⟨#[97, 47, 98]⟩, .int .i64 1, .int .i64 0, .slice A2 1 1, .string ⟨#[99]⟩, .int .i64 1, .int .i64 0, .slice A3 1 1] 55)
  have W4 := Lib.hid hw
  have RR : Hid (RdK enTy w4 (some ⟨w3.heap.size, 0, none⟩) 3 [⟨⟨#[97]⟩, 2, 0, none, 0, 0⟩, ⟨⟨#[97, 47, 98]⟩, 1, 0, A2, 1, 1⟩, ⟨⟨#[99]⟩, 1, 0, A3, 1, 1⟩]) := Lib.hid (OwnK.of (R := enTy) (c := 3) (full := [⟨⟨#[97]⟩, 2, 0, none, 0, 0⟩, ⟨⟨#[97, 47, 98]⟩, 1, 0, A2, 1, 1⟩, ⟨⟨#[99]⟩, 1, 0, A3, 1, 1⟩]) (xs := [⟨⟨#[97]⟩, 2, 0, none, 0, 0⟩, ⟨⟨#[97, 47, 98]⟩, 1, 0, A2, 1, 1⟩, ⟨⟨#[99]⟩, 1, 0, A3, 1, 1⟩]) b4 (Nat.le_refl _) (by decide) rfl rfl).reads
  have EE : Hid (EnsR w4 [⟨⟨#[97]⟩, 2, 0, none, 0, 0⟩, ⟨⟨#[97, 47, 98]⟩, 1, 0, A2, 1, 1⟩, ⟨⟨#[99]⟩, 1, 0, A3, 1, 1⟩] three5) := Lib.hid ((((EnsR.nil w4).snoc (x := ⟨⟨#[97]⟩, 2, 0, none, 0, 0⟩) (e := ⟨[97], 2, 0, []⟩) ⟨rfl, rfl, rfl, rfl, Bs.nil _ _⟩).snoc (x := ⟨⟨#[97, 47, 98]⟩, 1, 0, A2, 1, 1⟩) (e := ⟨[97, 47, 98], 1, 0, [7]⟩) ⟨rfl, rfl, rfl, rfl, B2.out.chg hc (by simp)⟩).snoc (x := ⟨⟨#[99]⟩, 1, 0, A3, 1, 1⟩) (e := ⟨[99], 1, 0, [8]⟩) ⟨rfl, rfl, rfl, rfl, B3.out.chg hc (by simp)⟩)
  have LT := Lib.hid (lt_of_heap b4)
  replace C := Lib.hid (C.out.trans hc)
  clear hw hc b4 B2 B3
  go_wp2
  rw [← W4.out]
  go_ret
  exact ⟨_, _, rfl, rfl, RR.out, EE.out, (fun a ha => by cases ha; exact LT.out), C.out⟩
set_option maxRecDepth 100000 in
set_option maxHeartbeats 4000000 in
theorem l5names_any (w : World) (A B : Option Addr) (c d : Nat) (xs : List EnT) (es : List EnP) (ws : List (List UInt8)) (h : RdK enTy w A xs.length xs) (hx : EnsR w xs es) (h' : RdK textTy w B ws.length ws) (hn : xs.length ≤ 100000 ∧ ws.length ≤ 100000) :
    Calls Tryz.prog 38 #[.slice A xs.length c, .slice B ws.length d] w fun r w' => r = .returned (.bool (decide (es.map (·.p) = ws))) ∧ Chg [] w w' := by
  have HA := Lib.hid h
  have HX := Lib.hid hx
  have HW := Lib.hid h'
  have HN := Lib.hid hn
  have XE : Hid (xs.length = es.length) := Lib.hid hx.1
  obtain ⟨v, hv⟩ : ∃ v, decide (es.map (·.p) = ws) = v := ⟨_, rfl⟩
  rw [hv]
  have HV := Lib.hid hv
  clear h hx h' hn hv
  by_cases hl : xs.length = ws.length
  rotate_left
  · obtain rfl : v = false := by
      rw [← HV.out]
      exact decide_eq_false (fun q => hl (by rw [XE.out, ← q, List.length_map]))
    have l1 : (((xs.length : Int) == (ws.length : Int)) : Bool) = false := by simp; omega
    have l2 : (((xs.length : Int) != (ws.length : Int)) : Bool) = true := by unfold bne; rw [l1]; rfl
    have l3 : ¬ (xs.length : Int) = (ws.length : Int) := by omega
    go_enter Tryz.func38, Tryz.ntmps38
    go_wp2
    go_ret
    exact ⟨rfl, Chg.refl _ _⟩
  have HL := Lib.hid hl
  have l1 : (((xs.length : Int) == (ws.length : Int)) : Bool) = true := by simp; omega
  have l2 : (((xs.length : Int) != (ws.length : Int)) : Bool) = false := by unfold bne; rw [l1]; rfl
  clear hl
  go_enter Tryz.func38, Tryz.ntmps38
  go_wp2
  go_loopw [5] (fun v5 wr => ∃ k : Nat, k ≤ xs.length ∧ v5 = .int .i64 (k : Int) ∧ Hid ((es.map (·.p)).take k = ws.take k) ∧ Hid (Chg [] w wr)) (fun v5 _ => xs.length - (RowKit.intOf v5).toNat)
  case atStart => exact ⟨0, Nat.zero_le _, rfl, Lib.hid (by simp), Chg.refl _ _⟩
  case round =>
    clear l1 l2
    obtain ⟨k, hk, rfl, TK, RC⟩ := hrel
    have i0 : (0 : Int) ≤ (k : Int) := by omega
    by_cases hlt : k < xs.length
    · have i1 : (k : Int) < (xs.length : Int) := by omega
      have i2 : (k : Int) < (ws.length : Int) := by have := HL.out; omega
      have i3 : IntKind.i64.wrap ((k : Int) + 1) = (k : Int) + 1 := IntWalk.i64_in _ (by have := HN.out; omega)
      obtain ⟨x, e, ex, ee, rx⟩ := HX.out.at_ hlt
      obtain ⟨q, hq⟩ : ∃ q, ws[k]? = some q := ⟨_, List.getElem?_eq_getElem (by have := HL.out; omega)⟩
      obtain ⟨g, o, eA, _⟩ := HA.out.line (by omega)
      subst eA
      obtain ⟨g2, o2, eB, _⟩ := HW.out.line (by have := HL.out; omega)
      subst eB
      have HC : Hid (∀ w', Chg [] w w' → w'.cell? ⟨g, o + k * 4, none⟩ = some (.string (strOf e.p)) ∧ w'.cell? ⟨g2, o2 + k, none⟩ = some (.string (strOf q))) := Lib.hid (fun w' hc => by
        have a := (enCells (HA.out.chg hc (by simp)) ex).1
        rw [rx.p] at a
        exact ⟨a, textCells (HW.out.chg hc (by simp)) hq⟩)
      have EK : Hid ((es.map (·.p))[k]? = some e.p) := Lib.hid (by rw [List.getElem?_map, ee]; rfl)
      have QK := Lib.hid hq
      clear ex ee rx hq
      go_upto_region 6 with fail
      refine wp_region_held_drew (S := fun w' => Chg [] w w') (by kernel_rfl) (RC.out.trans (Chg.refl [] wr).drew) (fun hHeld => ?_)
      by_cases hp : e.p = q
      · skip
        have e4 : (e.p == q) = true := by rw [hp]; exact beq_self_eq_true _
        have e5 : ((strOf e.p == strOf q) : Bool) = true := by rw [hp]; exact str_self _
        have e6 : ((strOf e.p != strOf q) : Bool) = false := by simp only [bne, e5]; rfl
        have e7 : (e.p != q) = false := by simp only [bne, e4]; rfl
        have NX : Hid ((es.map (·.p)).take (k + 1) = ws.take (k + 1)) := Lib.hid (by rw [List.take_add_one, List.take_add_one, EK.out, QK.out, TK.out, hp])
        clear hp
        refine sy 0 17 rfl rfl ?_
        try simp only [Act.put, sA, s0, s1]
        refine sy 1 18 rfl rfl ?_
        try simp only [Act.put, sA, s0, s1]
        refine sy 2 19 rfl rfl ?_
        try simp only [Act.put, sA, s0, s1]
        refine sy 3 20 rfl rfl ?_
        try simp only [Act.put, sA, s0, s1]
        refine sy 4 21 rfl rfl ?_ (hy := by (intro w hSw; (try dsimp only at hSw); have hq := HC.out _ hSw; obtain ⟨q0, q1⟩ := hq; go_simp; try with_reducible rfl))
        try simp only [Act.put, sA, s0, s1]
        refine sy 5 22 rfl rfl ?_
        try simp only [Act.put, sA, s0, s1]
        refine sy 6 23 rfl rfl ?_
        try simp only [Act.put, sA, s0, s1]
        refine sy 7 24 rfl rfl ?_
        try simp only [Act.put, sA, s0, s1]
        refine sy 8 25 rfl rfl ?_ (hy := by (intro w hSw; (try dsimp only at hSw); have hq := HC.out _ hSw; obtain ⟨q0, q1⟩ := hq; go_simp; try with_reducible rfl))
        try simp only [Act.put, sA, s0, s1]
        refine sy 9 26 rfl rfl ?_
        try simp only [Act.put, sA, s0, s1]
        refine wpAnyH_done (by kernel_rfl) ?_ _
        have RC2 := Lib.hid hHeld
        clear hHeld HC
        go_wp2
        go_round
        case rel => exact ⟨k + 1, by omega, by go_num, NX, RC2.out⟩
        case measure => simp [RowKit.intOf]; omega
      · skip
        have e1 := strOf_ne hp
        have e3 := strOf_ne2 hp
        have e4 : (e.p == q) = false := beq_eq_false_iff_ne.2 hp
        have e6 : ((strOf e.p != strOf q) : Bool) = true := by simp only [bne, e1]; rfl
        have e7 : (e.p != q) = true := by simp only [bne, e4]; rfl
        obtain rfl : v = false := by
          rw [← HV.out]
          exact decide_eq_false (fun r => by have a := EK.out; rw [r, QK.out] at a; exact hp (Option.some.inj a).symm)
        clear hp
        refine sy 0 17 rfl rfl ?_
        try simp only [Act.put, sA, s0, s1]
        refine sy 1 18 rfl rfl ?_
        try simp only [Act.put, sA, s0, s1]
        refine sy 2 19 rfl rfl ?_
        try simp only [Act.put, sA, s0, s1]
        refine sy 3 20 rfl rfl ?_
        try simp only [Act.put, sA, s0, s1]
        refine sy 4 21 rfl rfl ?_ (hy := by (intro w hSw; (try dsimp only at hSw); have hq := HC.out _ hSw; obtain ⟨q0, q1⟩ := hq; go_simp; try with_reducible rfl))
        try simp only [Act.put, sA, s0, s1]
        refine sy 5 22 rfl rfl ?_
        try simp only [Act.put, sA, s0, s1]
        refine sy 6 23 rfl rfl ?_
        try simp only [Act.put, sA, s0, s1]
        refine sy 7 24 rfl rfl ?_
        try simp only [Act.put, sA, s0, s1]
        refine sy 8 25 rfl rfl ?_ (hy := by (intro w hSw; (try dsimp only at hSw); have hq := HC.out _ hSw; obtain ⟨q0, q1⟩ := hq; go_simp; try with_reducible rfl))
        try simp only [Act.put, sA, s0, s1]
        refine sy 9 26 rfl rfl ?_
        try simp only [Act.put, sA, s0, s1]
        refine wpAnyH_done (by kernel_rfl) ?_ _
        have RC2 := Lib.hid hHeld
        clear hHeld HC
        go_wp2
        go_ret
        exact ⟨rfl, RC2.out⟩
    · obtain rfl : k = xs.length := by omega
      have i1 : ¬ (xs.length : Int) < (xs.length : Int) := by omega
      obtain rfl : v = true := by
        rw [← HV.out]
        have a := TK.out
        rw [List.take_of_length_le (by rw [List.length_map, XE.out]; exact Nat.le_refl _), List.take_of_length_le (by rw [HL.out]; exact Nat.le_refl _)] at a
        exact decide_eq_true a
      clear TK
      go_wp2
      go_ret
      exact ⟨rfl, RC.out⟩
set_option maxRecDepth 100000 in
set_option maxHeartbeats 8000000 in
/-- The law's awake. -/
theorem l5awake_any (w : World) : Calls Tryz.prog 10 #[] w fun r w' => r = .returned (.bool true) ∧ Chg [] w w' := by
  have C := Lib.hid (Chg.refl [] w)
  go_enter Tryz.func10, Tryz.ntmps10
  go_wp2_with fail
  refine (l5three_any w).mono ?_
  rintro r w1 ⟨A1, x1, rfl, hl, hr, he, _, hc⟩
  have R1 := Lib.hid hr
  have E1 := Lib.hid he
  have L1 := Lib.hid hl
  replace C := Lib.hid (C.out.trans hc)
  clear hc hl hr he
  go_wp2_with fail
  refine (l5dir_any w1).mono ?_
  rintro r w2 ⟨rfl, hc⟩
  replace C := Lib.hid (C.out.trans hc)
  replace R1 := Lib.hid (R1.out.chg hc (by simp))
  replace E1 := Lib.hid (E1.out.chg hc)
  clear hc
  have PU := tbput_any w2 A1 3 x1 three5 ⟨⟨#[97, 47, 100]⟩, 2, 0, none, 0, 0⟩ ⟨[97, 47, 100], 2, 0, []⟩ (by have := R1.out; rw [L1.out]; exact this) E1.out (by rw [L1.out]; omega) (fun e he => (three_sm e he).1) ⟨rfl, rfl, rfl, rfl, Bs.nil _ _⟩ ⟨by simp, by simp⟩
  rw [put5, L1.out] at PU
  have PU2 := Lib.hid PU
  clear PU
  go_wp2_with fail
  refine (PU2.out).mono ?_
  rintro r w3 ⟨A2, c2, y2, rfl, he, hc⟩
  have R2 := Lib.hid he.row.reads
  have E2 := Lib.hid he.all.ev
  have N2 : Hid (y2.length = 4) := Lib.hid he.all.ev.1
  replace C := Lib.hid (C.out.trans hc)
  replace R1 := Lib.hid (R1.out.chg hc (by simp))
  replace E1 := Lib.hid (E1.out.chg hc)
  clear hc he PU2
  clear R1 E1
  go_wp2_with fail
  refine (l5three_any w3).mono ?_
  rintro r w4 ⟨A3, x3, rfl, hl, hr, he, _, hc⟩
  have R3 := Lib.hid hr
  have E3 := Lib.hid he
  have L3 := Lib.hid hl
  replace C := Lib.hid (C.out.trans hc)
  replace R2 := Lib.hid (R2.out.chg hc (by simp))
  replace E2 := Lib.hid (E2.out.chg hc)
  clear hc hl hr he
  have PU := tbremove_any w4 A3 3 x3 three5 [97] (by simp) (by have := R3.out; rw [L3.out]; exact this) E3.out (by rw [L3.out]; omega) (fun e he => (three_sm e he).1)
  rw [rem5, L3.out] at PU
  have PU2 := Lib.hid PU
  clear PU
  go_wp2_with fail
  refine (PU2.out).mono ?_
  rintro r w5 ⟨A4, c4, y4, rfl, he, hc⟩
  have R4 := Lib.hid he.row.reads
  have E4 := Lib.hid he.all.ev
  have N4 : Hid (y4.length = 1) := Lib.hid he.all.ev.1
  replace C := Lib.hid (C.out.trans hc)
  replace R2 := Lib.hid (R2.out.chg hc (by simp))
  replace E2 := Lib.hid (E2.out.chg hc)
  replace R3 := Lib.hid (R3.out.chg hc (by simp))
  replace E3 := Lib.hid (E3.out.chg hc)
  clear hc he PU2
  clear R3 E3
  go_wp2_with fail
  refine (l5three_any w5).mono ?_
  rintro r w6 ⟨A5, x5, rfl, hl, hr, he, _, hc⟩
  have R5 := Lib.hid hr
  have E5 := Lib.hid he
  have L5 := Lib.hid hl
  replace C := Lib.hid (C.out.trans hc)
  replace R2 := Lib.hid (R2.out.chg hc (by simp))
  replace E2 := Lib.hid (E2.out.chg hc)
  replace R4 := Lib.hid (R4.out.chg hc (by simp))
  replace E4 := Lib.hid (E4.out.chg hc)
  clear hc hl hr he
  have PU := tbmove_any w6 A5 3 x5 three5 [97] [101] (by simp) (by simp) (by have := R5.out; rw [L5.out]; exact this) E5.out (by rw [L5.out]; omega) (fun e he => (three_sm e he).1)
  rw [mov5, L5.out] at PU
  have PU2 := Lib.hid PU
  clear PU
  go_wp2_with fail
  refine (PU2.out).mono ?_
  rintro r w7 ⟨A6, c6, y6, rfl, he, hc⟩
  have R6 := Lib.hid he.row.reads
  have E6 := Lib.hid he.all.ev
  have N6 : Hid (y6.length = 3) := Lib.hid he.all.ev.1
  replace C := Lib.hid (C.out.trans hc)
  replace R2 := Lib.hid (R2.out.chg hc (by simp))
  replace E2 := Lib.hid (E2.out.chg hc)
  replace R4 := Lib.hid (R4.out.chg hc (by simp))
  replace E4 := Lib.hid (E4.out.chg hc)
  replace R5 := Lib.hid (R5.out.chg hc (by simp))
  replace E5 := Lib.hid (E5.out.chg hc)
  clear hc he PU2
  clear R5 E5
  obtain ⟨w8b, hw, hc, hb⟩ := news1 w7 (.cells #[.string ⟨#[97]⟩, .string ⟨#[97, 47, 98]⟩, .string ⟨#[97, 47, 100]⟩, .string ⟨#[99]⟩] 9)
  have WB := Lib.hid hw
  have TX : Hid (RdK textTy w8b (some ⟨w7.heap.size, 0, none⟩) 4 ([[97], [97, 47, 98], [97, 47, 100], [99]] : List (List UInt8))) := Lib.hid (rd_text (xs := [[97], [97, 47, 98], [97, 47, 100], [99]]) hb (by simp [maxLen]))
  clear hb hw
  replace C := Lib.hid (C.out.trans hc)
  replace R2 := Lib.hid (R2.out.chg hc (by simp))
  replace E2 := Lib.hid (E2.out.chg hc)
  replace R4 := Lib.hid (R4.out.chg hc (by simp))
  replace E4 := Lib.hid (E4.out.chg hc)
  replace R6 := Lib.hid (R6.out.chg hc (by simp))
  replace E6 := Lib.hid (E6.out.chg hc)
  clear hc
  have NM := l5names_any w8b A2 (some ⟨w7.heap.size, 0, none⟩) c2 4 y2 four5 [[97], [97, 47, 98], [97, 47, 100], [99]] R2.out E2.out TX.out ⟨by rw [N2.out]; omega, by simp⟩
  rw [show decide (List.map (fun x : EnP => x.p) four5 = [[97], [97, 47, 98], [97, 47, 100], [99]]) = true from by decide +kernel] at NM
  have NM2 := Lib.hid NM
  clear NM TX
  go_wp2_with fail
  rw [← WB.out]
  clear WB
  refine NM2.out.mono ?_
  rintro r w8 ⟨rfl, hc⟩
  replace C := Lib.hid (C.out.trans hc)
  replace R2 := Lib.hid (R2.out.chg hc (by simp))
  replace E2 := Lib.hid (E2.out.chg hc)
  replace R4 := Lib.hid (R4.out.chg hc (by simp))
  replace E4 := Lib.hid (E4.out.chg hc)
  replace R6 := Lib.hid (R6.out.chg hc (by simp))
  replace E6 := Lib.hid (E6.out.chg hc)
  clear hc NM2
  obtain ⟨w9b, hw, hc, hb⟩ := news1 w8 (.cells #[.string ⟨#[99]⟩] 9)
  have WB := Lib.hid hw
  have TX : Hid (RdK textTy w9b (some ⟨w8.heap.size, 0, none⟩) 1 ([[99]] : List (List UInt8))) := Lib.hid (rd_text (xs := [[99]]) hb (by simp [maxLen]))
  clear hb hw
  replace C := Lib.hid (C.out.trans hc)
  replace R2 := Lib.hid (R2.out.chg hc (by simp))
  replace E2 := Lib.hid (E2.out.chg hc)
  replace R4 := Lib.hid (R4.out.chg hc (by simp))
  replace E4 := Lib.hid (E4.out.chg hc)
  replace R6 := Lib.hid (R6.out.chg hc (by simp))
  replace E6 := Lib.hid (E6.out.chg hc)
  clear hc
  have NM := l5names_any w9b A4 (some ⟨w8.heap.size, 0, none⟩) c4 1 y4 [(⟨[99], 1, 0, [8]⟩ : EnP)] [[99]] R4.out E4.out TX.out ⟨by rw [N4.out]; omega, by simp⟩
  rw [show decide (List.map (fun x : EnP => x.p) [(⟨[99], 1, 0, [8]⟩ : EnP)] = [[99]]) = true from by decide +kernel] at NM
  have NM2 := Lib.hid NM
  clear NM TX
  go_wp2_with fail
  rw [← WB.out]
  clear WB
  refine NM2.out.mono ?_
  rintro r w9 ⟨rfl, hc⟩
  replace C := Lib.hid (C.out.trans hc)
  replace R2 := Lib.hid (R2.out.chg hc (by simp))
  replace E2 := Lib.hid (E2.out.chg hc)
  replace R4 := Lib.hid (R4.out.chg hc (by simp))
  replace E4 := Lib.hid (E4.out.chg hc)
  replace R6 := Lib.hid (R6.out.chg hc (by simp))
  replace E6 := Lib.hid (E6.out.chg hc)
  clear hc NM2
  obtain ⟨wab, hw, hc, hb⟩ := news1 w9 (.cells #[.string ⟨#[99]⟩, .string ⟨#[101]⟩, .string ⟨#[101, 47, 98]⟩] 9)
  have WB := Lib.hid hw
  have TX : Hid (RdK textTy wab (some ⟨w9.heap.size, 0, none⟩) 3 ([[99], [101], [101, 47, 98]] : List (List UInt8))) := Lib.hid (rd_text (xs := [[99], [101], [101, 47, 98]]) hb (by simp [maxLen]))
  clear hb hw
  replace C := Lib.hid (C.out.trans hc)
  replace R2 := Lib.hid (R2.out.chg hc (by simp))
  replace E2 := Lib.hid (E2.out.chg hc)
  replace R4 := Lib.hid (R4.out.chg hc (by simp))
  replace E4 := Lib.hid (E4.out.chg hc)
  replace R6 := Lib.hid (R6.out.chg hc (by simp))
  replace E6 := Lib.hid (E6.out.chg hc)
  clear hc
  have NM := l5names_any wab A6 (some ⟨w9.heap.size, 0, none⟩) c6 3 y6 [(⟨[99], 1, 0, [8]⟩ : EnP), ⟨[101], 2, 0, []⟩, ⟨[101, 47, 98], 1, 0, [7]⟩] [[99], [101], [101, 47, 98]] R6.out E6.out TX.out ⟨by rw [N6.out]; omega, by simp⟩
  rw [show decide (List.map (fun x : EnP => x.p) [(⟨[99], 1, 0, [8]⟩ : EnP), ⟨[101], 2, 0, []⟩, ⟨[101, 47, 98], 1, 0, [7]⟩] = [[99], [101], [101, 47, 98]]) = true from by decide +kernel] at NM
  have NM2 := Lib.hid NM
  clear NM TX
  go_wp2_with fail
  rw [← WB.out]
  clear WB
  refine NM2.out.mono ?_
  rintro r wa ⟨rfl, hc⟩
  replace C := Lib.hid (C.out.trans hc)
  replace R2 := Lib.hid (R2.out.chg hc (by simp))
  replace E2 := Lib.hid (E2.out.chg hc)
  replace R4 := Lib.hid (R4.out.chg hc (by simp))
  replace E4 := Lib.hid (E4.out.chg hc)
  replace R6 := Lib.hid (R6.out.chg hc (by simp))
  replace E6 := Lib.hid (E6.out.chg hc)
  clear hc NM2
  have CK := tbcheck_any wa A2 c2 y2 four5 R2.out E2.out (by rw [N2.out]; omega) (by
    intro e he
    simp only [four5, List.mem_cons, List.not_mem_nil, or_false] at he
    rcases he with rfl | rfl | rfl | rfl <;> exact ⟨by simp, by simp⟩)
  rw [tab5] at CK
  have CK2 := Lib.hid CK
  clear CK
  go_wp2_with fail
  refine (CK2.out).mono ?_
  rintro r wb ⟨rfl, hc⟩
  replace C := Lib.hid (C.out.trans hc)
  replace R2 := Lib.hid (R2.out.chg hc (by simp))
  replace E2 := Lib.hid (E2.out.chg hc)
  replace R4 := Lib.hid (R4.out.chg hc (by simp))
  replace E4 := Lib.hid (E4.out.chg hc)
  replace R6 := Lib.hid (R6.out.chg hc (by simp))
  replace E6 := Lib.hid (E6.out.chg hc)
  clear hc CK2
  go_wp2
  go_ret
  exact ⟨rfl, C.out⟩
end
section
open Go.RowKit
set_option linter.unusedSimpArgs false

set_option maxHeartbeats 400000 in
theorem longeff_any (w : World) (k m : Int) (A : Option Addr) (n c : Nat) (_hn : n ≤ 140737488351232) :
    Calls Tryz.prog 33 #[.agg #[.int .i64 k, .int .i64 m, .slice A n c]] w fun e w' => e = .returned (.bool (decide ((1200 : Int) < n))) ∧ Chg [] w w' := by
  go_enter Tryz.func33, Tryz.ntmps33
  go_wp2
  go_ret
  exact ⟨rfl, (Chg.refl _ _).alloc _⟩
end
section
open Go.RowKit Go.Lib
set_option linter.unusedSimpArgs false
set_option linter.unusedVariables false

/-- More of an entry than is gone through. -/
def bigN (x : EnT) : Prop := 100 < x.p.size ∨ 1200 < x.l
instance (x : EnT) : Decidable (bigN x) := by unfold bigN; exact inferInstance
def longN (xs : List EnT) : Bool := (xs.take 61).any (fun x => decide (bigN x)) || decide (60 < xs.length)
theorem longN_no {xs : List EnT} (h : longN xs = false) : xs.length ≤ 60 ∧ ∀ x ∈ xs, ¬ bigN x := by
  unfold longN at h
  rw [Bool.or_eq_false_iff, decide_eq_false_iff_not, List.any_eq_false] at h
  refine ⟨by omega, fun x hx => ?_⟩
  have := h.1 x (by rw [List.take_of_length_le (by omega)]; exact hx)
  simpa using this
theorem longN_yes {xs : List EnT} {k : Nat} {x : EnT} (hx : xs[k]? = some x) (hk : k ≤ 60) (hb : bigN x) : longN xs = true := by
  unfold longN
  rw [Bool.or_eq_true, List.any_eq_true]
  refine .inl ⟨x, ?_, decide_eq_true hb⟩
  have hl := (List.getElem?_eq_some_iff.1 hx).1
  exact List.mem_of_getElem? (i := k) (by rw [List.getElem?_take, if_pos (by omega)]; exact hx)
set_option maxRecDepth 100000 in
set_option maxHeartbeats 8000000 in
theorem longens_any (w : World) (A : Option Addr) (c : Nat) (xs : List EnT) (h : RdK enTy w A xs.length xs) (hn : xs.length ≤ 140737488351232) (hs : ∀ x ∈ xs, x.l ≤ 140737488351232) :
    Calls Tryz.prog 8 #[.slice A xs.length c] w fun r w' => r = .returned (.bool (longN xs)) ∧ Chg [] w w' := by
  have H := Lib.hid h
  have HN := Lib.hid hn
  have HS := Lib.hid hs
  clear h hn hs
  generalize hv : longN xs = v
  have HV := Lib.hid hv
  clear hv
  go_enter Tryz.func8, Tryz.ntmps8
  go_wp2
  go_loopw [3] (fun v3 wr => ∃ k : Nat, k ≤ xs.length ∧ k ≤ 61 ∧ v3 = .int .i64 k ∧ Hid (∀ x ∈ xs.take k, ¬ bigN x) ∧ Hid (Chg [] w wr)) (fun v3 _ => xs.length - (RowKit.intOf v3).toNat)
  case atStart => exact ⟨0, Nat.zero_le _, Nat.zero_le _, rfl, Lib.hid (by simp), Chg.refl _ _⟩
  case round =>
    obtain ⟨k, hk, hk2, rfl, NB, RC⟩ := hrel
    have i0 : (0 : Int) ≤ (k : Int) := by omega
    by_cases hlt : k < xs.length
    · have i1 : (k : Int) < (xs.length : Int) := by omega
      by_cases hle : k ≤ 60
      · have i2 : (k : Int) < 61 := by omega
        have i3 : IntKind.i64.wrap ((k : Int) + 1) = (k : Int) + 1 := IntWalk.i64_in _ (by have := HN.out; omega)
        obtain ⟨x, hx⟩ : ∃ x, xs[k]? = some x := ⟨_, List.getElem?_eq_getElem hlt⟩
        obtain ⟨g, o, eA, _⟩ := H.out.line (by omega)
        subst eA
        obtain ⟨z0, z1, z2, z3⟩ := enCells (H.out.chg RC.out (by simp)) hx
        have LY : Hid (bigN x → v = true) := Lib.hid (fun q => by rw [← HV.out]; exact longN_yes hx hle q)
        have NX : Hid (¬ bigN x → ∀ y ∈ xs.take (k + 1), ¬ bigN y) := Lib.hid (fun q y hy => by
          rw [List.take_add_one, hx] at hy
          rcases List.mem_append.1 hy with r | r
          · exact NB.out y r
          · simp at r; subst r; exact q)
        have XS := Lib.hid (HS.out x (List.mem_of_getElem? hx))
        clear hx
        by_cases b1 : 100 < x.p.size
        · have j1 : (100 : Int) < (x.p.size : Int) := by omega
          obtain rfl := LY.out (.inl b1)
          clear LY NX b1
          go_wp2
          go_ret
          exact ⟨rfl, RC.out⟩
        have j1 : ¬ (100 : Int) < (x.p.size : Int) := by omega
        go_wp2_with fail
        refine (longeff_any wr x.k x.m x.A x.l x.c XS.out).mono ?_
        rintro r w2 ⟨rfl, hc⟩
        have C2 := Lib.hid (RC.out.trans hc)
        clear hc z0 z1 z2 z3 j1
        by_cases b2 : 1200 < x.l
        · rw [decide_eq_true (show (1200 : Int) < (x.l : Int) by omega)]
          obtain rfl := LY.out (.inr b2)
          clear LY NX b1 b2
          go_wp2
          go_ret
          exact ⟨rfl, C2.out⟩
        rw [decide_eq_false (show ¬ (1200 : Int) < (x.l : Int) by omega)]
        have NN := Lib.hid (NX.out (fun q => by unfold bigN at q; omega))
        clear LY NX b1 b2
        go_wp2
        go_round
        case rel => exact ⟨k + 1, by omega, by omega, by go_num, NN, C2.out⟩
        case measure => simp [RowKit.intOf]; omega
      · have i2 : ¬ (k : Int) < 61 := by omega
        have i4 : (60 : Int) < (xs.length : Int) := by omega
        obtain rfl : v = true := by rw [← HV.out]; unfold longN; rw [decide_eq_true (show 60 < xs.length by omega)]; simp
        clear HV
        go_wp2
        go_ret
        exact ⟨rfl, RC.out⟩
    · obtain rfl : k = xs.length := by omega
      have i1 : ¬ (xs.length : Int) < (xs.length : Int) := by omega
      by_cases hle : 60 < xs.length
      · have i4 : (60 : Int) < (xs.length : Int) := by omega
        obtain rfl : v = true := by rw [← HV.out]; unfold longN; rw [decide_eq_true hle]; simp
        clear HV
        go_wp2
        go_ret
        exact ⟨rfl, RC.out⟩
      · have i4 : ¬ (60 : Int) < (xs.length : Int) := by omega
        obtain rfl : v = false := by
          rw [← HV.out]
          unfold longN
          rw [decide_eq_false hle, Bool.or_false, List.any_eq_false]
          intro x hx
          have q := NB.out x (by rw [List.take_length]; exact List.mem_of_mem_take hx)
          simpa using q
        clear HV
        go_wp2
        go_ret
        exact ⟨rfl, RC.out⟩
end
section
open Go.RowKit Go.Lib
set_option linter.unusedSimpArgs false
set_option linter.unusedVariables false

/-- Of what is handed in, no more than is gone through. -/
theorem ens_small {w : World} {xs : List EnT} {es : List EnP} (h : EnsR w xs es) (hl : longN xs = false) : xs.length ≤ 60 ∧ ∀ e ∈ es, EnSm e ∧ e.p.length ≤ 900000 := by
  obtain ⟨a, b⟩ := longN_no hl
  refine ⟨a, fun e he => ?_⟩
  obtain ⟨i, hi⟩ := List.getElem?_of_mem he
  have hl2 := (List.getElem?_eq_some_iff.1 hi).1
  obtain ⟨x, hx⟩ : ∃ x, xs[i]? = some x := ⟨_, List.getElem?_eq_getElem (by rw [h.1]; exact hl2)⟩
  have r := h.2 i x e hx hi
  have n := b x (List.mem_of_getElem? hx)
  have q1 := r.l
  have q2 : x.p.size = e.p.length := by rw [r.p, strOf_size]
  unfold bigN at n
  exact ⟨⟨by omega, by omega⟩, by omega⟩
end
section
open Go.RowKit Go.Lib
set_option linter.unusedSimpArgs false
set_option linter.unusedVariables false

/-- The same entry. -/
def sameN (a b : EnP) : Bool := decide (a.p = b.p) && sameX a.k a.m a.b b.k b.m b.b
/-- The same list of entries. -/
def sameNs : List EnP → List EnP → Bool
  | [], [] => true
  | a :: l, b :: m => sameN a b && sameNs l m
  | _, _ => false
theorem sameN_iff (a b : EnP) : sameN a b = true ↔ a = b := by
  obtain ⟨p, k, m, c⟩ := a
  obtain ⟨p', k', m', c'⟩ := b
  unfold sameN sameX
  simp [and_assoc]
theorem sameNs_iff : ∀ {l m : List EnP}, sameNs l m = true ↔ l = m
  | [], [] => by simp [sameNs]
  | a :: l, [] => by simp [sameNs]
  | [], b :: m => by simp [sameNs]
  | a :: l, b :: m => by simp only [sameNs, Bool.and_eq_true, sameN_iff, sameNs_iff, List.cons.injEq]
theorem sameNs_refl (l : List EnP) : sameNs l l = true := sameNs_iff.2 rfl
set_option maxRecDepth 100000 in
set_option maxHeartbeats 8000000 in
theorem sameens_any (w : World) (A B : Option Addr) (c d : Nat) (xs ys : List EnT) (es fs : List EnP) (h : RdK enTy w A xs.length xs) (h' : RdK enTy w B ys.length ys) (hx : EnsR w xs es) (hy : EnsR w ys fs) (hn : xs.length ≤ 100000 ∧ ys.length ≤ 100000) :
    Calls Tryz.prog 18 #[.slice A xs.length c, .slice B ys.length d] w fun r w' => r = .returned (.bool (sameNs es fs)) ∧ Chg [] w w' := by
  have HA := Lib.hid h
  have HB := Lib.hid h'
  have HX := Lib.hid hx
  have HY := Lib.hid hy
  have HN := Lib.hid hn
  clear h h' hx hy hn
  generalize hv : sameNs es fs = v
  have HV := Lib.hid hv
  clear hv
  by_cases hne : xs.length = ys.length
  rotate_left
  · have hb : ((xs.length : Int) == (ys.length : Int)) = false := by simp; omega
    have hb2 : ((xs.length : Int) != (ys.length : Int)) = true := by simp; omega
    obtain rfl : v = false := by
      rw [← HV.out]
      cases q : sameNs es fs with
      | false => rfl
      | true => exact absurd (congrArg List.length (sameNs_iff.1 q)) (by rw [← HX.out.1, ← HY.out.1]; exact hne)
    clear hne
    go_enter Tryz.func18, Tryz.ntmps18
    go_wp2
    go_ret
    exact ⟨rfl, Chg.refl _ _⟩
  have hb : ((xs.length : Int) == (ys.length : Int)) = true := by simp; omega
  have hb2 : ((xs.length : Int) != (ys.length : Int)) = false := by simp; omega
  have NE_ := Lib.hid hne
  clear hne
  go_enter Tryz.func18, Tryz.ntmps18
  go_wp2
  clear hb hb2
  go_loopw [5] (fun i wr => ∃ k : Nat, k ≤ xs.length ∧ i = .int .i64 k ∧ Hid (∀ (j : Nat) (a b : EnP), j < k → es[j]? = some a → fs[j]? = some b → a = b) ∧ Hid (Chg [] w wr)) (fun i _ => xs.length - (RowKit.intOf i).toNat)
  case atStart => exact ⟨0, Nat.zero_le _, rfl, Lib.hid (fun j a b hj => absurd hj (by omega)), Chg.refl _ _⟩
  case round =>
    obtain ⟨k, hk, rfl, TK, RC⟩ := hrel
    have i0 : (0 : Int) ≤ (k : Int) := by omega
    by_cases hlt : k < xs.length
    · have hlt2 : k < ys.length := by have := NE_.out; omega
      obtain ⟨g, o, eA, _⟩ := HA.out.line (by omega)
      obtain ⟨g2, o2, eB, _⟩ := HB.out.line (by omega)
      subst eA eB
      obtain ⟨x, e, ex, ee, rx⟩ := HX.out.at_ hlt
      obtain ⟨y, f, ey, ef, ry⟩ := HY.out.at_ hlt2
      have DX : Hid (∀ w', Chg [] w w' → (fun w' => (w'.cell? ⟨g, o + k * 4, none⟩ = some (.string x.p) ∧ w'.cell? ⟨g, o + k * 4 + 1, none⟩ = some (.int .i64 x.k) ∧ w'.cell? ⟨g, o + k * 4 + 2, none⟩ = some (.int .i64 x.m) ∧ w'.cell? ⟨g, o + k * 4 + 3, none⟩ = some (.slice x.A x.l x.c)) ∧ (w'.cell? ⟨g2, o2 + k * 4, none⟩ = some (.string y.p) ∧ w'.cell? ⟨g2, o2 + k * 4 + 1, none⟩ = some (.int .i64 y.k) ∧ w'.cell? ⟨g2, o2 + k * 4 + 2, none⟩ = some (.int .i64 y.m) ∧ w'.cell? ⟨g2, o2 + k * 4 + 3, none⟩ = some (.slice y.A y.l y.c))) w') := Lib.hid (fun w' hc => ⟨enCells (HA.out.chg hc (by simp)) ex, enCells (HB.out.chg hc (by simp)) ey⟩)
      have i1 : (k : Int) < (xs.length : Int) := by omega
      have i2 : (k : Int) < (ys.length : Int) := by omega
      have i3 : IntKind.i64.wrap ((k : Int) + 1) = (k : Int) + 1 := IntWalk.i64_in _ (by have := HN.out.1; omega)
      have RX := Lib.hid rx
      have RY := Lib.hid ry
      have EE := Lib.hid (And.intro ee ef)
      clear ex ey ee ef rx ry
      by_cases hp : e.p = f.p
      · skip
        have e1 : ((x.p.toList == y.p.toList) : Bool) = true := by rw [RX.out.p, RY.out.p, hp]; exact beq_self_eq_true _
        have PE := Lib.hid hp
        clear hp
        go_upto_region 6 with fail
        refine wp_region_held_drew (S := fun w' => (w'.cell? ⟨g, o + k * 4, none⟩ = some (.string x.p) ∧ w'.cell? ⟨g, o + k * 4 + 1, none⟩ = some (.int .i64 x.k) ∧ w'.cell? ⟨g, o + k * 4 + 2, none⟩ = some (.int .i64 x.m) ∧ w'.cell? ⟨g, o + k * 4 + 3, none⟩ = some (.slice x.A x.l x.c)) ∧ (w'.cell? ⟨g2, o2 + k * 4, none⟩ = some (.string y.p) ∧ w'.cell? ⟨g2, o2 + k * 4 + 1, none⟩ = some (.int .i64 y.k) ∧ w'.cell? ⟨g2, o2 + k * 4 + 2, none⟩ = some (.int .i64 y.m) ∧ w'.cell? ⟨g2, o2 + k * 4 + 3, none⟩ = some (.slice y.A y.l y.c))) (by kernel_rfl) (DX.out _ (RC.out.trans (Chg.refl [] wr).drew)) (fun hHeld => ?_)
        have C2 : Hid (Chg [] w wr.drew) := Lib.hid (RC.out.trans (Chg.refl [] wr).drew)
        clear hHeld RC
        generalize wr.drew = wc at *
        refine sy 0 17 rfl rfl ?_ (hS := (DX.out _ C2.out))
        try simp only [Act.put, sA, s0, s1]
        refine sy 1 18 rfl rfl ?_ (hS := (DX.out _ C2.out))
        try simp only [Act.put, sA, s0, s1]
        refine sy 2 19 rfl rfl ?_ (hS := (DX.out _ C2.out))
        try simp only [Act.put, sA, s0, s1]
        refine sy 3 20 rfl rfl ?_ (hS := (DX.out _ C2.out))
        try simp only [Act.put, sA, s0, s1]
        refine sy 4 21 rfl rfl ?_ (hS := (DX.out _ C2.out)) (hy := by (intro w hSw; (try dsimp only at hSw); obtain ⟨⟨q0, q1, q2, q3⟩, ⟨p0, p1, p2, p3⟩⟩ := hSw; go_simp; try with_reducible rfl))
        try simp only [Act.put, sA, s0, s1]
        refine sy 5 22 rfl rfl ?_ (hS := (DX.out _ C2.out))
        try simp only [Act.put, sA, s0, s1]
        refine sy 6 23 rfl rfl ?_ (hS := (DX.out _ C2.out))
        try simp only [Act.put, sA, s0, s1]
        refine sy 7 24 rfl rfl ?_ (hS := (DX.out _ C2.out))
        try simp only [Act.put, sA, s0, s1]
        refine sy 8 25 rfl rfl ?_ (hS := (DX.out _ C2.out))
        try simp only [Act.put, sA, s0, s1]
        refine sy 9 26 rfl rfl ?_ (hS := (DX.out _ C2.out)) (hy := by (intro w hSw; (try dsimp only at hSw); obtain ⟨⟨q0, q1, q2, q3⟩, ⟨p0, p1, p2, p3⟩⟩ := hSw; go_simp; try with_reducible rfl))
        try simp only [Act.put, sA, s0, s1]
        refine wpAnyH_ready (rs := [10]) (by kernel_rfl) (by simp) ?_
        refine AllReadyH.cons rfl (fun K hK => ?_) AllReadyH.nil
        replace hK := Lib.hid hK
        go_simp
        try simp only [Bool.not_true, Bool.not_false]
        refine hK.out _ _ (DX.out _ C2.out) (fun hHeld => ?_)
        clear hK K
        try simp only [Act.put, sA, s0, s1]
        refine sy 11 28 rfl rfl ?_ (hS := (DX.out _ C2.out))
        try simp only [Act.put, sA, s0, s1]
        refine sy 12 29 rfl rfl ?_ (hS := (DX.out _ C2.out))
        try simp only [Act.put, sA, s0, s1]
        refine sy 13 30 rfl rfl ?_ (hS := (DX.out _ C2.out))
        try simp only [Act.put, sA, s0, s1]
        refine sy 14 31 rfl rfl ?_ (hS := (DX.out _ C2.out))
        try simp only [Act.put, sA, s0, s1]
        refine sy 15 32 rfl rfl ?_ (hS := (DX.out _ C2.out))
        try simp only [Act.put, sA, s0, s1]
        refine sy 16 33 rfl rfl ?_ (hS := (DX.out _ C2.out)) (hy := by (intro w hSw; (try dsimp only at hSw); obtain ⟨⟨q0, q1, q2, q3⟩, ⟨p0, p1, p2, p3⟩⟩ := hSw; go_simp; try with_reducible rfl))
        try simp only [Act.put, sA, s0, s1]
        refine sy 17 34 rfl rfl ?_ (hS := (DX.out _ C2.out))
        try simp only [Act.put, sA, s0, s1]
        refine sy 18 35 rfl rfl ?_ (hS := (DX.out _ C2.out))
        try simp only [Act.put, sA, s0, s1]
        refine sy 19 36 rfl rfl ?_ (hS := (DX.out _ C2.out))
        try simp only [Act.put, sA, s0, s1]
        refine sy 20 37 rfl rfl ?_ (hS := (DX.out _ C2.out))
        try simp only [Act.put, sA, s0, s1]
        refine sy 21 38 rfl rfl ?_ (hS := (DX.out _ C2.out)) (hy := by (intro w hSw; (try dsimp only at hSw); obtain ⟨⟨q0, q1, q2, q3⟩, ⟨p0, p1, p2, p3⟩⟩ := hSw; go_simp; try with_reducible rfl))
        try simp only [Act.put, sA, s0, s1]
        refine wpAnyH_ready (rs := [22]) (by kernel_rfl) (by simp) ?_
        refine AllReadyH.cons rfl (fun K hK => ?_) AllReadyH.nil
        replace hK := Lib.hid hK
        go_simp
        refine (sameeff_any wc x.k x.m y.k y.m x.A y.A x.l x.c y.l y.c e.b f.b (RX.out.A.chg C2.out (by simp)) (RY.out.A.chg C2.out (by simp))).mono ?_
        rintro r wn ⟨rfl, hc⟩
        rw [RX.out.k, RX.out.m, RY.out.k, RY.out.m]
        replace C2 := Lib.hid (C2.out.trans hc)
        clear hc
        generalize hs : sameX e.k e.m e.b f.k f.m f.b = sv
        generalize wn = wc at *
        refine hK.out _ _ (DX.out _ C2.out) (fun hHeld => ?_)
        clear hK K
        try simp only [Act.put, sA, s0, s1]
        refine sy 23 40 rfl rfl ?_ (hS := (DX.out _ C2.out))
        try simp only [Act.put, sA, s0, s1]
        refine sy 24 41 rfl rfl ?_ (hS := (DX.out _ C2.out))
        try simp only [Act.put, sA, s0, s1]
        refine wpAnyH_done (by kernel_rfl) ?_ _
        clear hHeld
        clear e1
        rcases sv with _ | _
        · obtain rfl : v = false := by
            rw [← HV.out]
            cases q : sameNs es fs with
            | false => rfl
            | true =>
              have q := sameNs_iff.1 q
              subst q
              have := EE.out.1.symm.trans EE.out.2
              cases this
              rw [show sameX e.k e.m e.b e.k e.m e.b = true by unfold sameX; simp] at hs
              cases hs
          clear hs HV
          go_wp2
          go_ret
          exact ⟨rfl, C2.out⟩
        · have EQ : Hid (e = f) := Lib.hid ((sameN_iff e f).1 (by unfold sameN; rw [decide_eq_true PE.out, hs]; rfl))
          have TN : Hid (∀ (j : Nat) (a b : EnP), j < k + 1 → es[j]? = some a → fs[j]? = some b → a = b) := Lib.hid (fun j a b hj ha hb => by
            by_cases q : j = k
            · subst q
              rw [EE.out.1] at ha
              rw [EE.out.2] at hb
              cases ha; cases hb
              exact EQ.out
            · exact TK.out j a b (by omega) ha hb)
          clear hs
          go_wp2
          go_round
          case rel => exact ⟨k + 1, by omega, by go_num, TN, C2.out⟩
          case measure => simp [RowKit.intOf]; omega
      · skip
        have e1 : ((x.p.toList == y.p.toList) : Bool) = false := by rw [RX.out.p, RY.out.p, strOf_toList, strOf_toList]; exact beq_eq_false_iff_ne.2 hp
        obtain rfl : v = false := by
          rw [← HV.out]
          cases q : sameNs es fs with
          | false => rfl
          | true =>
            have q := sameNs_iff.1 q
            subst q
            have := EE.out.1.symm.trans EE.out.2
            cases this
            exact absurd rfl hp
        clear hp HV
        go_upto_region 6 with fail
        refine wp_region_held_drew (S := fun w' => (w'.cell? ⟨g, o + k * 4, none⟩ = some (.string x.p) ∧ w'.cell? ⟨g, o + k * 4 + 1, none⟩ = some (.int .i64 x.k) ∧ w'.cell? ⟨g, o + k * 4 + 2, none⟩ = some (.int .i64 x.m) ∧ w'.cell? ⟨g, o + k * 4 + 3, none⟩ = some (.slice x.A x.l x.c)) ∧ (w'.cell? ⟨g2, o2 + k * 4, none⟩ = some (.string y.p) ∧ w'.cell? ⟨g2, o2 + k * 4 + 1, none⟩ = some (.int .i64 y.k) ∧ w'.cell? ⟨g2, o2 + k * 4 + 2, none⟩ = some (.int .i64 y.m) ∧ w'.cell? ⟨g2, o2 + k * 4 + 3, none⟩ = some (.slice y.A y.l y.c))) (by kernel_rfl) (DX.out _ (RC.out.trans (Chg.refl [] wr).drew)) (fun hHeld => ?_)
        have C2 : Hid (Chg [] w wr.drew) := Lib.hid (RC.out.trans (Chg.refl [] wr).drew)
        clear hHeld RC
        generalize wr.drew = wc at *
        refine sy 0 17 rfl rfl ?_ (hS := (DX.out _ C2.out))
        try simp only [Act.put, sA, s0, s1]
        refine sy 1 18 rfl rfl ?_ (hS := (DX.out _ C2.out))
        try simp only [Act.put, sA, s0, s1]
        refine sy 2 19 rfl rfl ?_ (hS := (DX.out _ C2.out))
        try simp only [Act.put, sA, s0, s1]
        refine sy 3 20 rfl rfl ?_ (hS := (DX.out _ C2.out))
        try simp only [Act.put, sA, s0, s1]
        refine sy 4 21 rfl rfl ?_ (hS := (DX.out _ C2.out)) (hy := by (intro w hSw; (try dsimp only at hSw); obtain ⟨⟨q0, q1, q2, q3⟩, ⟨p0, p1, p2, p3⟩⟩ := hSw; go_simp; try with_reducible rfl))
        try simp only [Act.put, sA, s0, s1]
        refine sy 5 22 rfl rfl ?_ (hS := (DX.out _ C2.out))
        try simp only [Act.put, sA, s0, s1]
        refine sy 6 23 rfl rfl ?_ (hS := (DX.out _ C2.out))
        try simp only [Act.put, sA, s0, s1]
        refine sy 7 24 rfl rfl ?_ (hS := (DX.out _ C2.out))
        try simp only [Act.put, sA, s0, s1]
        refine sy 8 25 rfl rfl ?_ (hS := (DX.out _ C2.out))
        try simp only [Act.put, sA, s0, s1]
        refine sy 9 26 rfl rfl ?_ (hS := (DX.out _ C2.out)) (hy := by (intro w hSw; (try dsimp only at hSw); obtain ⟨⟨q0, q1, q2, q3⟩, ⟨p0, p1, p2, p3⟩⟩ := hSw; go_simp; try with_reducible rfl))
        try simp only [Act.put, sA, s0, s1]
        refine wpAnyH_ready (rs := [10]) (by kernel_rfl) (by simp) ?_
        refine AllReadyH.cons rfl (fun K hK => ?_) AllReadyH.nil
        replace hK := Lib.hid hK
        go_simp
        try simp only [Bool.not_true, Bool.not_false]
        refine hK.out _ _ (DX.out _ C2.out) (fun hHeld => ?_)
        clear hK K
        try simp only [Act.put, sA, s0, s1]
        refine sy 11 28 rfl rfl ?_ (hS := (DX.out _ C2.out))
        try simp only [Act.put, sA, s0, s1]
        refine sn 12 29 rfl rfl ?_ (hS := (DX.out _ C2.out))
        try simp only [Act.put, sA, s0, s1]
        refine sn 13 30 rfl rfl ?_ (hS := (DX.out _ C2.out))
        try simp only [Act.put, sA, s0, s1]
        refine sn 14 31 rfl rfl ?_ (hS := (DX.out _ C2.out))
        try simp only [Act.put, sA, s0, s1]
        refine sn 15 32 rfl rfl ?_ (hS := (DX.out _ C2.out))
        try simp only [Act.put, sA, s0, s1]
        refine sn 16 33 rfl rfl ?_ (hS := (DX.out _ C2.out))
        try simp only [Act.put, sA, s0, s1]
        refine sn 17 34 rfl rfl ?_ (hS := (DX.out _ C2.out))
        try simp only [Act.put, sA, s0, s1]
        refine sn 18 35 rfl rfl ?_ (hS := (DX.out _ C2.out))
        try simp only [Act.put, sA, s0, s1]
        refine sn 19 36 rfl rfl ?_ (hS := (DX.out _ C2.out))
        try simp only [Act.put, sA, s0, s1]
        refine sn 20 37 rfl rfl ?_ (hS := (DX.out _ C2.out))
        try simp only [Act.put, sA, s0, s1]
        refine sn 21 38 rfl rfl ?_ (hS := (DX.out _ C2.out))
        try simp only [Act.put, sA, s0, s1]
        refine sn 22 39 rfl rfl ?_ (hS := (DX.out _ C2.out))
        try simp only [Act.put, sA, s0, s1]
        refine sn 23 40 rfl rfl ?_ (hS := (DX.out _ C2.out))
        try simp only [Act.put, sA, s0, s1]
        refine sy 24 41 rfl rfl ?_ (hS := (DX.out _ C2.out))
        try simp only [Act.put, sA, s0, s1]
        refine wpAnyH_done (by kernel_rfl) ?_ _
        clear hHeld
        clear e1
        go_wp2
        go_ret
        exact ⟨rfl, C2.out⟩
    · obtain rfl : k = xs.length := by omega
      have i1 : ¬ (xs.length : Int) < (xs.length : Int) := by omega
      obtain rfl : v = true := by
        rw [← HV.out]
        refine sameNs_iff.2 (List.ext_getElem? (fun j => ?_))
        by_cases hj : j < es.length
        · have hj2 : j < fs.length := by rw [← HY.out.1, ← NE_.out, HX.out.1]; exact hj
          rw [List.getElem?_eq_getElem hj, List.getElem?_eq_getElem hj2]
          exact congrArg some (TK.out j _ _ (by rw [HX.out.1]; exact hj) (List.getElem?_eq_getElem hj) (List.getElem?_eq_getElem hj2))
        · rw [List.getElem?_eq_none (by omega), List.getElem?_eq_none (by rw [← HY.out.1, ← NE_.out, HX.out.1]; omega)]
      clear HV
      go_wp2
      go_ret
      exact ⟨rfl, RC.out⟩
end
section
open Go.RowKit Go.WideShapes Go.ChangeShapes Go.Deep
section
variable {H : Type} {enc : TypeId × Value → H} {P : Program} {w : World} {base : Nat} {spare : Nat → Bool} {held : Bool}

theorem weights_all_mem {e : TypeId} : ∀ {l : List (DataW H)} {d : DataW H}, d ∈ l → ∀ n ∈ d.weights P e, n ∈ DataW.weightsAll P e l
  | x :: l, d, hd, n, hn => by
    simp only [DataW.weightsAll, List.mem_append]
    rcases List.mem_cons.1 hd with rfl | h
    · exact .inl hn
    · exact .inr (weights_all_mem h n hn)
theorem weights_slice {t e : TypeId} (ht : P.underlying t = some (.slice e)) {xs ys : List (DataW H)} (hz : ∀ k ∈ (DataW.slice xs ys).weights P t, k ≤ reachBytes) :
    (xs.length + ys.length) * P.bytesOf e ≤ reachBytes ∧ ∀ d ∈ xs, ∀ k ∈ d.weights P e, k ≤ reachBytes := by
  simp only [DataW.weights, ht, List.mem_cons, List.mem_append] at hz
  exact ⟨hz _ (.inl rfl), fun d hd k hk => hz k (.inr (.inl (weights_all_mem hd k hk)))⟩
theorem weights_struct {t : TypeId} {fs : Array Field} (ht : P.underlying t = some (.struct fs)) {xs : List (DataW H)} (hz : ∀ k ∈ (DataW.agg xs).weights P t, k ≤ reachBytes) {j : Nat} {f : Field} {d : DataW H} (hf : fs[j]? = some f) (hd : xs[j]? = some d) :
    ∀ k ∈ d.weights P f.type, k ≤ reachBytes := by
  simp only [DataW.weights, ht] at hz
  exact fun k hk => hz k (DataW.weights_mem_each (j := j) (by simp [hf]) hd k hk)

/-- A list of what is there for every number. -/
theorem list_of {α : Type} {Q : Nat → α → Prop} : ∀ (n : Nat), (∀ i, i < n → ∃ a, Q i a) → ∃ l : List α, l.length = n ∧ ∀ j a, l[j]? = some a → Q j a
  | 0, _ => ⟨[], rfl, by simp⟩
  | n + 1, h => by
    obtain ⟨l, h1, h2⟩ := list_of n (fun i hi => h i (by omega))
    obtain ⟨a, ha⟩ := h n (by omega)
    refine ⟨l ++ [a], by simp [h1], fun j b hj => ?_⟩
    rw [List.getElem?_append] at hj
    split at hj
    · exact h2 j b hj
    · rename_i hn
      have : j = n := by
        have := (List.getElem?_eq_some_iff.1 hj).1
        simp at this
        omega
      subst this
      rw [h1] at hj
      simp at hj
      subst hj
      exact ha
end
section
variable {H : Type} {enc : TypeId × Value → H} {w : World} {base : Nat} {spare : Nat → Bool} {held : Bool}

theorem open_bytes {n : Nat} {cs : List Value} {y : DataW H × List MemPlace} (h : DataW.trod enc Tryz.prog w base spare held n 23 cs = some y) (hz : ∀ k ∈ y.1.weights Tryz.prog 23, k ≤ reachBytes) :
    ∃ A m d ys, cs = [.slice A m d] ∧ Bs w A m ys ∧ m ≤ 140737488351232 ∧ m ≤ d ∧ d ≤ 9223372036854775807 := by
  rcases open_ints Tryz.underlying23 Tryz.underlying5 (by kernel_rfl) h with ⟨rfl, _⟩ | ⟨x, l, c, zs, rfl, _, hl, hm, hzl, rfl, hcell, hwz⟩
  · exact ⟨none, 0, 0, [], rfl, Bs.nil _ _, by decide, by decide, by decide⟩
  · have hlen : l ≤ zs.length := by rw [hzl]; split <;> omega
    have hw := (weights_slice Tryz.underlying23 hz).1
    rw [show Tryz.prog.bytesOf 5 = 1 by kernel_rfl] at hw
    refine ⟨some x, l, c, (zs.take l).map (fun z => UInt8.ofNat z.toNat), rfl, ⟨by simp; omega, fun j u hj => ⟨x, rfl, ?_⟩⟩, ?_, hl, by unfold maxLen at hm; omega⟩
    · have hjl := (List.getElem?_eq_some_iff.1 hj).1
      rw [List.length_map, List.length_take] at hjl
      have h1 : j < l := by omega
      have h2 : j < zs.length := by omega
      rw [hcell j h2]
      have hwz' := bounds_u8 (hwz (zs.getD j 0) (by simp [List.getD, h2]))
      simp only [List.getElem?_map, List.getElem?_take, if_pos h1, Option.map_eq_some_iff] at hj
      obtain ⟨z, h3, rfl⟩ := hj
      have e : zs.getD j 0 = z := by simp [List.getD, h3]
      rw [e] at hwz' ⊢
      unfold bv
      congr 2
      simp
      omega
    · simp [lits, reachBytes] at hw
      omega

theorem open_str {n : Nat} {v : Value} {y : DataW H × List MemPlace} (h : DataW.trod enc Tryz.prog w base spare held n 9 [v] = some y) (hz : ∀ k ∈ y.1.weights Tryz.prog 9, k ≤ reachBytes) : ∃ s : ByteArray, v = .string s ∧ s.size ≤ 140737488351232 := by
  obtain ⟨s, e, e', _⟩ := DataW.trod_string Tryz.underlying9 h
  refine ⟨s, List.singleton_inj.1 e, ?_⟩
  have := hz s.data.toList.length (by rw [e']; simp [DataW.weights])
  rw [Array.length_toList] at this
  exact this
set_option maxRecDepth 100000 in
/-- An effect's three cells. -/
theorem open_effect {n : Nat} {cs : List Value} {y : DataW H × List MemPlace} (h : DataW.trod enc Tryz.prog w base spare held n 25 cs = some y) (hz : ∀ k ∈ y.1.weights Tryz.prog 25, k ≤ reachBytes) :
    ∃ (k m : Int) (A : Option Addr) (n d : Nat) (ys : List UInt8), cs = [.int .i64 k, .int .i64 m, .slice A n d] ∧ Bs w A n ys ∧ n ≤ 140737488351232 ∧ n ≤ d ∧ d ≤ 9223372036854775807 := by
  obtain ⟨xs, k, rfl, rfl, hl, hx, hf⟩ := DataW.trod_struct Tryz.underlying25 h
  rw [show Tryz.prog.cellsOf 25 = 3 by kernel_rfl] at hl
  have g0 := hf 0 _ rfl
  have g1 := hf 1 _ rfl
  have g2 := hf 2 _ rfl
  change DataW.trod _ _ _ _ _ _ _ 3 ((cs.drop 0).take (Tryz.prog.cellsOf 3)) = _ at g0
  change DataW.trod _ _ _ _ _ _ _ 3 ((cs.drop 1).take (Tryz.prog.cellsOf 3)) = _ at g1
  change DataW.trod _ _ _ _ _ _ _ 23 ((cs.drop 2).take (Tryz.prog.cellsOf 23)) = _ at g2
  rw [show Tryz.prog.cellsOf 3 = 1 by kernel_rfl] at g0 g1
  rw [show Tryz.prog.cellsOf 23 = 1 by kernel_rfl] at g2
  match cs, hl with
  | [v0, v1, v2], _ =>
    match xs, hx with
    | [x0, x1, x2], _ =>
      have w2 := weights_struct Tryz.underlying25 hz (j := 2) (d := x2.1) rfl rfl
      obtain ⟨z0, e0, _, _⟩ := DataW.trod_int Tryz.underlying3 g0
      obtain ⟨z1, e1, _, _⟩ := DataW.trod_int Tryz.underlying3 g1
      obtain ⟨A, m, d, ys, e2, hb, hm, hmd, hd⟩ := open_bytes g2 w2
      simp only [List.drop_succ_cons, List.drop_zero, List.take_succ_cons, List.take_zero, List.cons.injEq, and_true] at e0 e1 e2
      subst e0 e1 e2
      exact ⟨z0, z1, A, m, d, ys, rfl, hb, hm, hmd, hd⟩
end
end
section
open Go.RowKit Go.WideShapes Go.ChangeShapes Go.Deep Go.Lib
set_option linter.unusedSimpArgs false
set_option linter.unusedVariables false

variable {H : Type} {enc : TypeId × Value → H} {P : Program} {w : World} {base : Nat} {spare : Nat → Bool} {held : Bool}
/-- How large an entry is that is handed in. -/
def EnZ (x : EnT) (e : EnP) : Prop := e.b.length ≤ 140737488351232 ∧ e.p.length ≤ 140737488351232
set_option maxRecDepth 100000 in
theorem open_entry {n : Nat} {cs : List Value} {y : DataW H × List MemPlace} (h : DataW.trod enc Tryz.prog w base spare held n 55 cs = some y) (hz : ∀ k ∈ y.1.weights Tryz.prog 55, k ≤ reachBytes) :
    ∃ (x : EnT) (e : EnP), cs = [.string x.p, .int .i64 x.k, .int .i64 x.m, .slice x.A x.l x.c] ∧ EnR w x e ∧ EnZ x e := by
  obtain ⟨xs, k, rfl, rfl, hl, hx, hf⟩ := DataW.trod_struct Tryz.underlying55 h
  rw [show Tryz.prog.cellsOf 55 = 4 by kernel_rfl] at hl
  have g0 := hf 0 _ rfl
  have g1 := hf 1 _ rfl
  change DataW.trod _ _ _ _ _ _ _ 9 ((cs.drop 0).take (Tryz.prog.cellsOf 9)) = _ at g0
  change DataW.trod _ _ _ _ _ _ _ 25 ((cs.drop 1).take (Tryz.prog.cellsOf 25)) = _ at g1
  rw [show Tryz.prog.cellsOf 9 = 1 by kernel_rfl] at g0
  rw [show Tryz.prog.cellsOf 25 = 3 by kernel_rfl] at g1
  match cs, hl with
  | [v0, v1, v2, v3], _ =>
    match xs, hx with
    | [x0, x1], _ =>
      have w0 := weights_struct Tryz.underlying55 hz (j := 0) (d := x0.1) rfl rfl
      have w1 := weights_struct Tryz.underlying55 hz (j := 1) (d := x1.1) rfl rfl
      simp only [List.drop_succ_cons, List.drop_zero, List.take_succ_cons, List.take_zero] at g0
      obtain ⟨s, e0, r0⟩ := open_str g0 w0
      obtain ⟨k, m, A, n, c, ys, e1, r1⟩ := open_effect g1 w1
      simp only [List.drop_succ_cons, List.drop_zero, List.take_succ_cons, List.take_zero, List.cons.injEq, and_true] at e1
      obtain ⟨rfl, rfl, rfl⟩ := e1
      subst e0
      refine ⟨⟨s, k, m, A, n, c⟩, ⟨s.data.toList, k, m, ys⟩, rfl, ⟨(strOf_of s).symm, rfl, rfl, r1.1.len.symm, r1.1⟩, ?_⟩
      have hs : s.data.toList.length = s.size := rfl
      have l1 := r1.1.len
      refine ⟨?_, ?_⟩
      all_goals (simp only; omega)
set_option maxRecDepth 100000 in
set_option maxHeartbeats 1000000 in
theorem open_entries {n : Nat} {cs : List Value} {y : DataW H × List MemPlace} (h : DataW.trod enc Tryz.prog w base spare held n 22 cs = some y) (hz : ∀ k ∈ y.1.weights Tryz.prog 22, k ≤ reachBytes) :
    ∃ A m d zs es, cs = [.slice A m d] ∧ RdK enTy w A m zs ∧ EnsR w zs es ∧ m * 56 ≤ 140737488351232 ∧ m ≤ d ∧ ∀ (i : Nat) (x : EnT) (e : EnP), zs[i]? = some x → es[i]? = some e → EnZ x e := by
  rcases open_slice Tryz.underlying22 h with ⟨rfl, _⟩ | ⟨a, len, cap, m, k, D, Pl, rfl, _, hl, hm, hmm, rfl, hi⟩
  · exact ⟨none, 0, 0, [], [], rfl, RdK.nil _ _, EnsR.nil _, by decide, by decide, by simp⟩
  · have hlm : len ≤ m := by rw [hmm]; split <;> omega
    obtain ⟨hw, hwd⟩ := weights_slice Tryz.underlying22 hz
    rw [show Tryz.prog.bytesOf 55 = 56 by kernel_rfl] at hw
    simp [reachBytes] at hw
    have hC : Tryz.prog.cellsOf 55 = 4 := by kernel_rfl
    obtain ⟨l, hll, hat⟩ := list_of (Q := fun i (x : EnT × EnP) => (w.cell? (a.add (i * 4)) = some (.string x.1.p) ∧ w.cell? (a.add (i * 4 + 1)) = some (.int .i64 x.1.k) ∧ w.cell? (a.add (i * 4 + 2)) = some (.int .i64 x.1.m) ∧ w.cell? (a.add (i * 4 + 3)) = some (.slice x.1.A x.1.l x.1.c)) ∧ EnR w x.1 x.2 ∧ EnZ x.1 x.2) len (fun i hilt => by
      obtain ⟨cs', hc, ht⟩ := hi i (by omega)
      rw [hC] at hc
      obtain ⟨_, hcl, hat⟩ := World.cells?_some hc
      obtain ⟨x, e, rfl, hr, hz2⟩ := open_entry ht (fun k hk => hwd (D i) (List.mem_map.2 ⟨i, List.mem_range.2 hilt, rfl⟩) k hk)
      have g0 := hat 0 (by simp)
      have g1 := hat 1 (by simp)
      have g2 := hat 2 (by simp)
      have g3 := hat 3 (by simp)
      rw [add_add] at g0 g1 g2 g3
      exact ⟨(x, e), ⟨g0, g1, g2, g3⟩, hr, hz2⟩)
    refine ⟨some a, len, cap, l.map (·.1), l.map (·.2), rfl, ⟨by rw [List.length_map]; exact hll, fun j v hj => ⟨a, rfl, ?_⟩⟩, ⟨by simp, fun i x e hx he => ?_⟩, by omega, hl, fun i x e hx he => ?_⟩
    rotate_left
    · rw [List.getElem?_map, Option.map_eq_some_iff] at hx he
      obtain ⟨p, hp, rfl⟩ := hx
      obtain ⟨q, hq, rfl⟩ := he
      rw [hp] at hq
      cases hq
      exact (hat i _ hp).2.1
    · rw [List.getElem?_map, Option.map_eq_some_iff] at hx he
      obtain ⟨p, hp, rfl⟩ := hx
      obtain ⟨q, hq, rfl⟩ := he
      rw [hp] at hq
      cases hq
      exact (hat i _ hp).2.2
    have hj2 := (List.getElem?_eq_some_iff.1 hj).1
    rw [enTy.flat_len, List.length_map] at hj2
    have hk : enTy.k = 4 := rfl
    rw [hk] at hj2
    have hq : j / 4 < l.length := by omega
    have e := enTy.flat_at (l.map (·.1)) (j / 4) (j % 4) _ (by rw [List.getElem?_map, List.getElem?_eq_getElem hq]; rfl) (Nat.mod_lt _ (by decide))
    rw [hk, Nat.div_add_mod', hj] at e
    obtain ⟨g0, g1, g2, g3⟩ := (hat (j / 4) _ (List.getElem?_eq_getElem hq)).1
    rcases (show j % 4 = 0 ∨ j % 4 = 1 ∨ j % 4 = 2 ∨ j % 4 = 3 by omega) with h0 | h0 | h0 | h0
    · rw [h0] at e
      rw [show j / 4 * 4 = j by omega] at g0
      rw [g0]
      exact e.symm
    · rw [h0] at e
      rw [show j / 4 * 4 + 1 = j by omega] at g1
      rw [g1]
      exact e.symm
    · rw [h0] at e
      rw [show j / 4 * 4 + 2 = j by omega] at g2
      rw [g2]
      exact e.symm
    · rw [h0] at e
      rw [show j / 4 * 4 + 3 = j by omega] at g3
      rw [g3]
      exact e.symm
end
section
open Go.RowKit Go.Lib
set_option linter.unusedSimpArgs false
set_option linter.unusedVariables false

set_option maxRecDepth 100000 in
set_option maxHeartbeats 32000000 in
/-- TableWalks. -/
theorem tablewalks_yes (w : World) (A : Option Addr) (n c : Nat) (xs : List EnT) (es : List EnP) (hb : RdK enTy w A n xs) (hr : EnsR w xs es) (hn : n * 56 ≤ 140737488351232) (hm : n ≤ c) (hz : ∀ (i : Nat) (x : EnT) (e : EnP), xs[i]? = some x → es[i]? = some e → EnZ x e) (B : Option Addr) (n' d : Nat) (ys : List EnT) (fs : List EnP) (hb' : RdK enTy w B n' ys) (hr' : EnsR w ys fs) (hn' : n' * 56 ≤ 140737488351232) (hm' : n' ≤ d) (hz' : ∀ (i : Nat) (x : EnT) (e : EnP), ys[i]? = some x → fs[i]? = some e → EnZ x e) :
    Calls Tryz.prog 4 #[.slice A n c, .slice B n' d] w fun r w' => r = .returned (.bool true) ∧ Chg [] w w' := by
  have hl := hb.len
  have hl' := hb'.len
  subst hl hl'
  have HN : Hid (xs.length ≤ 140737488351232) := Lib.hid (by omega)
  have HN' : Hid (ys.length ≤ 140737488351232) := Lib.hid (by omega)
  have HA := Lib.hid hb
  have HB := Lib.hid hb'
  have HX := Lib.hid hr
  have HY := Lib.hid hr'
  have LA := Lib.hid (fun w' (hc : Chg [] w w') => longens_any w' A c xs (hb.chg hc (by simp)) HN.out (fun x hx => by
    obtain ⟨i, hi⟩ := List.getElem?_of_mem hx
    obtain ⟨e, he⟩ : ∃ e, es[i]? = some e := ⟨_, List.getElem?_eq_getElem (by rw [← hr.1]; exact (List.getElem?_eq_some_iff.1 hi).1)⟩
    have := (hr.2 i x e hi he).l
    have := (hz i x e hi he).1
    omega))
  have LB := Lib.hid (fun w' (hc : Chg [] w w') => longens_any w' B d ys (hb'.chg hc (by simp)) HN'.out (fun x hx => by
    obtain ⟨i, hi⟩ := List.getElem?_of_mem hx
    obtain ⟨e, he⟩ : ∃ e, fs[i]? = some e := ⟨_, List.getElem?_eq_getElem (by rw [← hr'.1]; exact (List.getElem?_eq_some_iff.1 hi).1)⟩
    have := (hr'.2 i x e hi he).l
    have := (hz' i x e hi he).1
    omega))
  have C := Lib.hid (Chg.refl [] w)
  clear hb hb' hr hr' hn hn' hm hm' hz hz' HN HN'
  go_enter Tryz.func4, Tryz.ntmps4
  go_wp2_with fail
  refine (LA.out _ C.out).mono ?_
  rintro r w2 ⟨rfl, hc⟩
  replace C := Lib.hid (C.out.trans hc)
  clear hc LA
  rcases hlong : longN xs with _ | _
  rotate_left
  · skip
    clear hlong
    go_wp2_with fail
    refine (l5awake_any w2).mono ?_
    rintro r w3 ⟨rfl, hc⟩
    replace C := Lib.hid (C.out.trans hc)
    clear hc
    go_wp2
    go_ret
    exact ⟨rfl, C.out⟩
  have SX := Lib.hid (ens_small HX.out hlong)
  clear hlong
  go_wp2_with fail
  refine (LB.out _ C.out).mono ?_
  rintro r w3 ⟨rfl, hc⟩
  replace C := Lib.hid (C.out.trans hc)
  clear hc LB
  rcases hlong : longN ys with _ | _
  rotate_left
  · skip
    clear hlong
    go_wp2_with fail
    refine (l5awake_any w3).mono ?_
    rintro r w4 ⟨rfl, hc⟩
    replace C := Lib.hid (C.out.trans hc)
    clear hc
    go_wp2
    go_ret
    exact ⟨rfl, C.out⟩
  have SY := Lib.hid (ens_small HY.out hlong)
  clear hlong
  have K1 := Lib.hid (copyens_any w3 A c xs es (HA.out.chg C.out (by simp)) (HX.out.chg C.out) (by have := SX.out.1; omega) (fun e he => (SX.out.2 e he).1.2))
  go_wp2_with fail
  refine K1.out.mono ?_
  rintro r w4 ⟨A5, c5, zs, rfl, hl, ho, he, _, _, hc⟩
  have ZI : Hid (zs.length = xs.length ∧ zs.length ≤ c5) := Lib.hid ⟨hl, ho.cap.1⟩
  have RI := Lib.hid ho.reads
  have EI := Lib.hid he
  replace C := Lib.hid (C.out.trans hc)
  clear hc hl ho he K1
  have K1 := Lib.hid (copyens_any w4 B d ys fs (HB.out.chg C.out (by simp)) (HY.out.chg C.out) (by have := SY.out.1; omega) (fun e he => (SY.out.2 e he).1.2))
  go_wp2_with fail
  refine K1.out.mono ?_
  rintro r w5 ⟨A6, c6, vs, rfl, hl, ho, he, _, _, hc⟩
  have ZJ : Hid (vs.length = ys.length ∧ vs.length ≤ c6) := Lib.hid ⟨hl, ho.cap.1⟩
  have RJ := Lib.hid ho.reads
  have EJ := Lib.hid he
  replace C := Lib.hid (C.out.trans hc)
  replace RI := Lib.hid (RI.out.chg hc (by simp))
  replace EI := Lib.hid (EI.out.chg hc)
  clear hc hl ho he K1
  have K1 := Lib.hid (tbwk_any w5 A5 A6 c5 c6 zs vs es fs RI.out RJ.out EI.out EJ.out (by have := SX.out.1; have := SY.out.1; have := ZI.out; have := ZJ.out; omega) ⟨fun e he => (SX.out.2 e he).1, fun e he => (SY.out.2 e he).1⟩)
  go_wp2_with fail
  refine K1.out.mono ?_
  rintro r w6 ⟨A7, c7, u7, rfl, ho, hp, _, hc⟩
  have R7 := Lib.hid ho.reads
  have P7 := Lib.hid hp
  replace C := Lib.hid (C.out.trans hc)
  replace RI := Lib.hid (RI.out.chg hc (by simp))
  replace EI := Lib.hid (EI.out.chg hc)
  replace RJ := Lib.hid (RJ.out.chg hc (by simp))
  replace EJ := Lib.hid (EJ.out.chg hc)
  clear hc ho hp K1
  have K1 := Lib.hid (tdwalk_any w6 A B c d xs ys es fs (HA.out.chg C.out (by simp)) (HB.out.chg C.out (by simp)) (HX.out.chg C.out) (HY.out.chg C.out) (by have := SX.out.1; have := SY.out.1; have := ZI.out; have := ZJ.out; omega) ⟨fun e he => SX.out.2 e he, fun e he => SY.out.2 e he⟩)
  go_wp2_with fail
  refine K1.out.mono ?_
  rintro r w7 ⟨A9, c9, u9, rfl, ho, hp, _, hc⟩
  have R9 := Lib.hid ho.reads
  have P9 := Lib.hid hp
  replace C := Lib.hid (C.out.trans hc)
  replace RI := Lib.hid (RI.out.chg hc (by simp))
  replace EI := Lib.hid (EI.out.chg hc)
  replace RJ := Lib.hid (RJ.out.chg hc (by simp))
  replace EJ := Lib.hid (EJ.out.chg hc)
  replace R7 := Lib.hid (R7.out.chg hc (by simp))
  replace P7 := Lib.hid (P7.out.chg hc)
  clear hc ho hp K1
  have K1 := Lib.hid (tbdiff_any w7 A5 A6 c5 c6 zs vs es fs RI.out RJ.out EI.out EJ.out (by have := SX.out.1; have := SY.out.1; have := ZI.out; have := ZJ.out; omega) ⟨fun e he => (SX.out.2 e he).1, fun e he => (SY.out.2 e he).1⟩)
  go_wp2_with fail
  refine K1.out.mono ?_
  rintro r w8 ⟨Aa, ca, ua, rfl, ho, hp, _, hc⟩
  have Ra := Lib.hid ho.reads
  have Pa := Lib.hid hp
  replace C := Lib.hid (C.out.trans hc)
  replace RI := Lib.hid (RI.out.chg hc (by simp))
  replace EI := Lib.hid (EI.out.chg hc)
  replace RJ := Lib.hid (RJ.out.chg hc (by simp))
  replace EJ := Lib.hid (EJ.out.chg hc)
  replace R7 := Lib.hid (R7.out.chg hc (by simp))
  replace P7 := Lib.hid (P7.out.chg hc)
  replace R9 := Lib.hid (R9.out.chg hc (by simp))
  replace P9 := Lib.hid (P9.out.chg hc)
  clear hc ho hp K1
  have K1 := Lib.hid (tddiff_any w8 A B c d xs ys es fs (HA.out.chg C.out (by simp)) (HB.out.chg C.out (by simp)) (HX.out.chg C.out) (HY.out.chg C.out) (by have := SX.out.1; have := SY.out.1; have := ZI.out; have := ZJ.out; omega) ⟨fun e he => SX.out.2 e he, fun e he => SY.out.2 e he⟩)
  go_wp2_with fail
  refine K1.out.mono ?_
  rintro r w9 ⟨Ab, cb, ub, rfl, ho, hp, _, hc⟩
  have Rb := Lib.hid ho.reads
  have Pb := Lib.hid hp
  replace C := Lib.hid (C.out.trans hc)
  replace RI := Lib.hid (RI.out.chg hc (by simp))
  replace EI := Lib.hid (EI.out.chg hc)
  replace RJ := Lib.hid (RJ.out.chg hc (by simp))
  replace EJ := Lib.hid (EJ.out.chg hc)
  replace R7 := Lib.hid (R7.out.chg hc (by simp))
  replace P7 := Lib.hid (P7.out.chg hc)
  replace R9 := Lib.hid (R9.out.chg hc (by simp))
  replace P9 := Lib.hid (P9.out.chg hc)
  replace Ra := Lib.hid (Ra.out.chg hc (by simp))
  replace Pa := Lib.hid (Pa.out.chg hc)
  clear hc ho hp K1
  have LW : Hid ((walkT es fs).2.length ≤ 200 ∧ (diffT es fs).2.length ≤ 200) := Lib.hid (by
    have a := walkT_len es fs
    have b : (diffT es fs).2.length ≤ (walkT es fs).2.length := List.length_filter_le _ _
    rw [← HX.out.1, ← HY.out.1] at a
    have := SX.out.1
    have := SY.out.1
    omega)
  generalize walkT es fs = W1 at *
  generalize diffT es fs = W2 at *
  have K1 := Lib.hid (sametwos_yes w9 A7 A9 c7 c9 u7 u9 W1.2 R7.out R9.out P7.out P9.out (by rw [P7.out.1]; have := LW.out.1; omega))
  go_wp2_with fail
  refine K1.out.mono ?_
  rintro r wa ⟨rfl, hc⟩
  replace C := Lib.hid (C.out.trans hc)
  replace RI := Lib.hid (RI.out.chg hc (by simp))
  replace EI := Lib.hid (EI.out.chg hc)
  replace RJ := Lib.hid (RJ.out.chg hc (by simp))
  replace EJ := Lib.hid (EJ.out.chg hc)
  replace R7 := Lib.hid (R7.out.chg hc (by simp))
  replace P7 := Lib.hid (P7.out.chg hc)
  replace R9 := Lib.hid (R9.out.chg hc (by simp))
  replace P9 := Lib.hid (P9.out.chg hc)
  replace Ra := Lib.hid (Ra.out.chg hc (by simp))
  replace Pa := Lib.hid (Pa.out.chg hc)
  replace Rb := Lib.hid (Rb.out.chg hc (by simp))
  replace Pb := Lib.hid (Pb.out.chg hc)
  clear hc K1
  have K1 := Lib.hid (sametwos_yes wa Aa Ab ca cb ua ub W2.2 Ra.out Rb.out Pa.out Pb.out (by rw [Pa.out.1]; have := LW.out.2; omega))
  go_wp2_with fail
  refine K1.out.mono ?_
  rintro r wb ⟨rfl, hc⟩
  replace C := Lib.hid (C.out.trans hc)
  replace RI := Lib.hid (RI.out.chg hc (by simp))
  replace EI := Lib.hid (EI.out.chg hc)
  replace RJ := Lib.hid (RJ.out.chg hc (by simp))
  replace EJ := Lib.hid (EJ.out.chg hc)
  replace R7 := Lib.hid (R7.out.chg hc (by simp))
  replace P7 := Lib.hid (P7.out.chg hc)
  replace R9 := Lib.hid (R9.out.chg hc (by simp))
  replace P9 := Lib.hid (P9.out.chg hc)
  replace Ra := Lib.hid (Ra.out.chg hc (by simp))
  replace Pa := Lib.hid (Pa.out.chg hc)
  replace Rb := Lib.hid (Rb.out.chg hc (by simp))
  replace Pb := Lib.hid (Pb.out.chg hc)
  clear hc K1
  have K1 := Lib.hid (sameens_any wb A5 A c5 c zs xs es es RI.out (HA.out.chg C.out (by simp)) EI.out (HX.out.chg C.out) (by have := SX.out.1; have := ZI.out; omega))
  go_wp2_with fail
  refine K1.out.mono ?_
  rintro r wc ⟨rfl, hc⟩
  rw [sameNs_refl]
  replace C := Lib.hid (C.out.trans hc)
  replace RI := Lib.hid (RI.out.chg hc (by simp))
  replace EI := Lib.hid (EI.out.chg hc)
  replace RJ := Lib.hid (RJ.out.chg hc (by simp))
  replace EJ := Lib.hid (EJ.out.chg hc)
  replace R7 := Lib.hid (R7.out.chg hc (by simp))
  replace P7 := Lib.hid (P7.out.chg hc)
  replace R9 := Lib.hid (R9.out.chg hc (by simp))
  replace P9 := Lib.hid (P9.out.chg hc)
  replace Ra := Lib.hid (Ra.out.chg hc (by simp))
  replace Pa := Lib.hid (Pa.out.chg hc)
  replace Rb := Lib.hid (Rb.out.chg hc (by simp))
  replace Pb := Lib.hid (Pb.out.chg hc)
  clear hc K1
  have K1 := Lib.hid (sameens_any wc A6 B c6 d vs ys fs fs RJ.out (HB.out.chg C.out (by simp)) EJ.out (HY.out.chg C.out) (by have := SY.out.1; have := ZJ.out; omega))
  go_wp2_with fail
  refine K1.out.mono ?_
  rintro r wd ⟨rfl, hc⟩
  rw [sameNs_refl]
  replace C := Lib.hid (C.out.trans hc)
  replace RI := Lib.hid (RI.out.chg hc (by simp))
  replace EI := Lib.hid (EI.out.chg hc)
  replace RJ := Lib.hid (RJ.out.chg hc (by simp))
  replace EJ := Lib.hid (EJ.out.chg hc)
  replace R7 := Lib.hid (R7.out.chg hc (by simp))
  replace P7 := Lib.hid (P7.out.chg hc)
  replace R9 := Lib.hid (R9.out.chg hc (by simp))
  replace P9 := Lib.hid (P9.out.chg hc)
  replace Ra := Lib.hid (Ra.out.chg hc (by simp))
  replace Pa := Lib.hid (Pa.out.chg hc)
  replace Rb := Lib.hid (Rb.out.chg hc (by simp))
  replace Pb := Lib.hid (Pb.out.chg hc)
  clear hc K1
  go_wp2_with fail
  refine (l5awake_any wd).mono ?_
  rintro r we ⟨rfl, hc⟩
  replace C := Lib.hid (C.out.trans hc)
  clear hc
  go_wp2
  go_ret
  exact ⟨rfl, C.out⟩
end
section
def TabN (_ : World) : Prop := True
theorem TabN.laid {W : World} (_h : laidMetH Tryz.prog tables W) : TabN W := trivial
end
end Go.Proofs.YtimdfpejgaidhaaGreatDoor
