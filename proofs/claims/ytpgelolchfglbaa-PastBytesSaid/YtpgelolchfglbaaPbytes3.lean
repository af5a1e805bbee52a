/- The program's Bytes of a past. -/
import Derived.Test.YtpgelolchfglbaaPbytes2
import Derived.Laws.MakeOwn
namespace Go.Proofs.Ytpgelolchfglbaa
open Go.RowKit Go.Lib
set_option linter.unusedSimpArgs false
set_option linter.unusedVariables false
/-- So many zeros. -/
def zeroRowP (n : Nat) : Array Value := ((List.replicate n (0 : UInt8)).map bv).toArray
theorem run_mkP (n : Nat) (c : Int) (hc : c = (n : Int)) (h : n ≤ 140737488351232) (w : World) : (Instr.makeSlice 42 (.int .i64 0) (.int .i64 c)).run Try.prog w = .ok (.slice (some ⟨w.heap.size, 0, none⟩) 0 n) (w.alloc (.cells (zeroRowP n) 5)) := by
  subst hc
  obtain ⟨i0, hi, hz0, hz1, hz2⟩ := info_parts info8
  have hr := run_make (P := Try.prog) w 42 5 i0 (.int .u8 0) Try.underlying42 hi hz0 .i64 .i64 0 n (by omega) (by omega) (by rw [hz2]; omega) (by omega)
  rw [hr, hz1, Int.toNat_natCast, Nat.mul_one]
  have e : madeCells (Value.int .u8 0).cells n = zeroRowP n := by
    apply Array.toList_inj.1
    show (madeCells #[.int .u8 0] n).toList = _
    rw [toList_madeCells_one]
    simp [zeroRowP, bv]
  rw [e]
  rfl
theorem OwnB.zeros {w : World} (n : Nat) (h : n ≤ maxLen) : OwnB (w.alloc (.cells (zeroRowP n) 5)) (some ⟨w.heap.size, 0, none⟩) n [] :=
  .of (full := List.replicate n 0) (heap_alloc_new w _) (Nat.zero_le _) h (by simp) rfl
/-- What an append makes of a row of one's own. -/
theorem app_own {w w6 w7 : World} {B A2 : Option Addr} (hB : ∀ a, B = some a → w.heap.size ≤ a.block) (hC : Chg [] w w6) (d2 : w6.grownBy w7 (B.map (·.block))) (e2 : A2 = B ∨ A2 = some ⟨w6.heap.size, 0, none⟩) : (∀ a, A2 = some a → w.heap.size ≤ a.block) ∧ Chg [] w w7 := by
  refine ⟨?_, hC.grown d2 (fun i hi => ?_)⟩
  · rcases e2 with rfl | rfl
    · exact hB
    · rintro a ⟨⟩; exact hC.size
  · cases B with
    | none => simp at hi
    | some a => simp at hi; subst hi; exact .inr (hB a rfl)
theorem Bs.byte {w : World} {g : Nat} {v : Int} {c : UInt8} (hv : Value.int .u8 v = bv c) (h : w.heap[g]? = some (.cells #[.int .u8 v] 5 (0, 0))) : Bs w (some ⟨g, 0, none⟩) 1 [c] := by
  refine Bs.row (ys := [c]) ?_ (show 1 ≤ maxLen by decide)
  rw [h, hv]
  rfl
set_option maxHeartbeats 8000000 in
set_option maxRecDepth 100000 in
theorem pabytes_any (w : World) (A : Option Addr) (n c : Nat) (xs : List (Int × Int × Int)) (h : RdK spanTy w A n xs) (hn : n ≤ 140737488351232) :
    Calls Try.prog 35 #[.slice A n c] w fun e w' => ∃ A' c', e = .returned (.tuple #[.slice A' (bytesO xs).length c', .int .i64 (chkS xs)]) ∧ Fresh w w' A' c' (bytesO xs) := by
  have hl := h.len
  subst hl
  have r1 := pacheck_any w A xs.length c xs h hn
  by_cases hk : chkS xs = 0
  · have hx := chkS_zero hk
    rw [hk] at r1
    rw [show bytesO xs = spansB xs by unfold bytesO; rw [if_pos hk], hk]
    have HX := Lib.hid h
    have HF := Lib.hid hx.2
    have hlen := hx.1
    have R1 := Lib.hid r1
    have hmk := fun W => run_mkP (2 + 9 * xs.length) (2 + 9 * (xs.length : Int)) (by omega) (by omega) W
    clear h hk hx r1 hn
    go_enter Try.func35, Try.ntmps35
    go_wp2_with fail
    refine R1.out.mono ?_
    rintro e w1 ⟨rfl, hc⟩
    have C := Lib.hid hc
    clear hc R1
    obtain ⟨w2, hw2, c2, b2⟩ := news1 w1 (.cells (zeroRowP (2 + 9 * xs.length)) 5)
    have W2 := Lib.hid hw2
    have O2 : Hid (OwnB w2 (some ⟨w1.heap.size, 0, none⟩) (2 + 9 * xs.length) []) := Lib.hid (by rw [hw2]; exact OwnB.zeros _ (by unfold maxLen; omega))
    have C2 := Lib.hid (C.out.trans c2)
    have SZ := Lib.hid C.out.size
    clear hw2 c2 b2 C
    go_upto_region 5 with fail
    rw [← W2.out]
    clear W2 hmk
    generalize w1.heap.size = s1 at *
    obtain ⟨w3, hw3, c3, b3⟩ := news1 w2 (.cells #[.int .u8 ((xs.length : Int) / 256), .int .u8 ((xs.length : Int) % 256)] 5)
    have W3 := Lib.hid hw3
    have C3 := Lib.hid (C2.out.trans c3)
    have O3 := Lib.hid (O2.out.chg c3 (by simp))
    have RD := Lib.hid (show Bs w3 (some ⟨w2.heap.size, 0, none⟩) 2 (headB xs.length) from Bs.row (ys := headB xs.length) (by rw [← head_cells hlen]; exact b3) (show 2 ≤ maxLen by decide))
    have BD : Hid (0 + 2 ≤ 140737488355327) := Lib.hid (by decide)
    clear hw3 c3 b3
    go_wp2_with (at_builtin; rw [← W3.out]; refine wpList_app rfl _ _ rfl rfl O3.out rfl rfl RD.out BD.out ?_; intro A2 c2 w4 u2 d2 e2)
    have AO := app_own (w := w) (by rintro a ⟨⟩; exact SZ.out) C3.out d2 e2
    have OI := Lib.hid (And.intro u2 AO)
    clear u2 d2 e2 AO W3 C3 O3 RD BD C2 O2
    go_wp2
    go_loopw [5, 30] (fun v5 v30 wr => ∃ (k : Nat) (B : Option Addr) (cc : Nat), k ≤ xs.length ∧ v5 = .slice B (2 + 9 * k) cc ∧ v30 = .int .i64 k ∧ Hid (OwnB wr B cc (headB xs.length ++ (xs.take k).flatMap spanB) ∧ (∀ a, B = some a → w.heap.size ≤ a.block) ∧ Chg [] w wr)) (fun _ v30 _ => xs.length - (RowKit.intOf v30).toNat)
    case atStart => exact ⟨0, A2, c2, Nat.zero_le _, rfl, rfl, by simpa using OI.out.1, OI.out.2.1, OI.out.2.2⟩
    case round =>
      clear OI
      obtain ⟨k, B, cc, hk, rfl, rfl, HI⟩ := hrel
      generalize wr = w5 at *
      clear wr
      by_cases hlt : k < xs.length
      · obtain ⟨g, o, eA, _⟩ := HX.out.line (by omega)
        subst eA
        have ex := List.getElem?_eq_getElem hlt
        have hfin := HF.out _ (List.getElem_mem hlt)
        generalize xs[k] = x at *
        have EX := Lib.hid ex
        have FN := Lib.hid hfin
        obtain ⟨p0, p1, p2⟩ := spanCells (HX.out.chg HI.out.2.2 (by simp)) ex
        have i0 : (0 : Int) ≤ (k : Int) := by omega
        have i1 : (k : Int) < (xs.length : Int) := by omega
        clear ex hfin
        obtain ⟨w6, hw6, c6, b6⟩ := news1 w5 (.cells #[.int .i64 x.1, .int .i64 x.2.1, .int .i64 x.2.2] 65)
        go_upto_region 9 with fail
        rw [← hw6]
        have P6 := Lib.hid b6
        have C6 := Lib.hid (HI.out.2.2.trans c6)
        have O6 := Lib.hid (HI.out.1.chg c6 (by simp))
        have B6 := Lib.hid HI.out.2.1
        have L6 := Lib.hid (show (headB xs.length ++ (xs.take k).flatMap spanB).length = 2 + 9 * k by rw [List.length_append, flat_len, List.length_take, Nat.min_eq_left hk]; rfl)
        clear hw6 c6 b6 p0 p1 p2
        generalize w5.heap.size = s5 at *
        generalize hy : headB xs.length ++ (xs.take k).flatMap spanB = ys at *
        have HY := Lib.hid hy
        clear hy
        have z0 := cell_of P6.out 0
        simp only [List.getElem?_toArray, List.getElem?_cons_succ, List.getElem?_cons_zero] at z0
        obtain ⟨w7, hw, c7, b7⟩ := news1 w6 (.cells #[.int .u8 (x.1 % 256)] 5)
        have WN := Lib.hid hw
        have RD := Lib.hid (show Bs w7 (some ⟨w6.heap.size, 0, none⟩) 1 [UInt8.ofNat x.1.toNat] from Bs.byte (by
          have hf := FN.out
          unfold FineS at hf
          unfold bv
          rw [UInt8.toNat_ofNat']
          congr 1
          omega) b7)
        have C7 := Lib.hid (C6.out.trans c7)
        have O7 := Lib.hid (O6.out.chg c7 (by simp))
        have P7 := Lib.hid (c7.at_ P6.out (by simp))
        clear hw c7 b7
        have BD := Lib.hid (show 2 + 9 * k + 1 ≤ 140737488355327 by omega)
        go_wp2_with (at_builtin; rw [← WN.out]; refine wpList_app rfl _ _ rfl rfl O7.out L6.out rfl RD.out BD.out ?_; intro A3 cc0 w8 u2 d2 e2; have P6 := Lib.hid (grown_at d2 P7.out (O7.out.ne P7.out (by decide))); have z1 := cell_of P6.out 1; simp only [List.getElem?_toArray, List.getElem?_cons_succ, List.getElem?_cons_zero] at z1)
        have AO := app_own (w := w) B6.out C7.out d2 e2
        have O6 := Lib.hid u2
        have L6 := Lib.hid (show (ys ++ [UInt8.ofNat x.1.toNat]).length = 2 + 9 * k + 1 by rw [List.length_append, L6.out]; simp [be_len])
        have B6 := Lib.hid AO.1
        have C6 := Lib.hid AO.2
        clear u2 d2 e2 AO C7 O7 P7 RD BD z0 WN
        refine (pafour_any _ x.2.1 (by have := FN.out; unfold FineS at this; omega) (by have := FN.out; unfold FineS at this; omega)).mono ?_
        rintro e w9 ⟨rfl, hb, c7⟩
        have RD := Lib.hid hb
        have C7 := Lib.hid (C6.out.trans c7)
        have O7 := Lib.hid (O6.out.chg c7 (by simp))
        have P7 := Lib.hid (c7.at_ P6.out (by simp))
        clear hb c7
        have BD := Lib.hid (show 2 + 9 * k + 1 + 4 ≤ 140737488355327 by omega)
        go_wp2_with (at_builtin; refine wpList_app rfl _ _ rfl rfl O7.out L6.out rfl RD.out BD.out ?_; intro A4 cc1 w10 u2 d2 e2; have P6 := Lib.hid (grown_at d2 P7.out (O7.out.ne P7.out (by decide))); have z2 := cell_of P6.out 2; simp only [List.getElem?_toArray, List.getElem?_cons_succ, List.getElem?_cons_zero] at z2)
        have AO := app_own (w := w) B6.out C7.out d2 e2
        have O6 := Lib.hid u2
        have L6 := Lib.hid (show (ys ++ [UInt8.ofNat x.1.toNat] ++ be 4 x.2.1.toNat).length = 2 + 9 * k + 1 + 4 by rw [List.length_append, L6.out]; simp [be_len])
        have B6 := Lib.hid AO.1
        have C6 := Lib.hid AO.2
        clear u2 d2 e2 AO C7 O7 P7 RD BD z1
        refine (pafour_any _ x.2.2 (by have := FN.out; unfold FineS at this; omega) (by have := FN.out; unfold FineS at this; omega)).mono ?_
        rintro e w11 ⟨rfl, hb, c7⟩
        have RD := Lib.hid hb
        have C7 := Lib.hid (C6.out.trans c7)
        have O7 := Lib.hid (O6.out.chg c7 (by simp))
        have P7 := Lib.hid (c7.at_ P6.out (by simp))
        clear hb c7
        have BD := Lib.hid (show 2 + 9 * k + 1 + 4 + 4 ≤ 140737488355327 by omega)
        go_wp2_with (at_builtin; refine wpList_app rfl _ _ rfl rfl O7.out L6.out rfl RD.out BD.out ?_; intro A5 cc2 w12 u2 d2 e2; have P6 := Lib.hid (grown_at d2 P7.out (O7.out.ne P7.out (by decide))))
        have AO := app_own (w := w) B6.out C7.out d2 e2
        have O6 := Lib.hid u2
        have L6 := Lib.hid (show (ys ++ [UInt8.ofNat x.1.toNat] ++ be 4 x.2.1.toNat ++ be 4 x.2.2.toNat).length = 2 + 9 * k + 1 + 4 + 4 by rw [List.length_append, L6.out]; simp [be_len])
        have B6 := Lib.hid AO.1
        have C6 := Lib.hid AO.2
        clear u2 d2 e2 AO C7 O7 P7 RD BD z2
        refine ⟨⟨k + 1, A5, cc2, by omega, by congr 1, by go_num, ?_, B6.out, C6.out⟩, by simp [RowKit.intOf]; omega⟩
        rw [takeB EX.out, HY.out]
        have hq := O6.out
        simpa [spanB] using hq
      · obtain rfl : k = xs.length := by omega
        have hb : headB xs.length ++ (xs.take xs.length).flatMap spanB = spansB xs := by rw [List.take_length]; rfl
        have hl2 : (spansB xs).length = 2 + 9 * xs.length := by rw [← hb, List.length_append, flat_len, List.take_length]; rfl
        have HR := HI.out
        rw [hb] at HR
        rw [← hl2] at *
        have HR := Lib.hid HR
        clear hb hl2
        go_wp2
        go_ret2
        exact ⟨B, cc, rfl, HR.out⟩
  · have h2 := chkS_odd hk
    rw [h2] at r1
    rw [show bytesO xs = [] by unfold bytesO; rw [if_neg hk], h2]
    have R1 := Lib.hid r1
    clear h hk r1 hn h2
    go_enter Try.func35, Try.ntmps35
    go_wp2_with fail
    refine R1.out.mono ?_
    rintro e w1 ⟨rfl, hc⟩
    have C := Lib.hid hc
    clear hc R1
    go_wp2
    go_ret2
    exact ⟨none, 0, rfl, OwnB.none_ _, by simp, C.out⟩
end Go.Proofs.Ytpgelolchfglbaa
