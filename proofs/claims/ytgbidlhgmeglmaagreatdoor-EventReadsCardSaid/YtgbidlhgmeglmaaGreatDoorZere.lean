/- The program's Bytes of a past. The numbers of bytes: the program's, the document's. The document's four. The program's Read of a past. The walk of past.Read. past.Read of all bytes. past.Has: how a span lies to a dot. past.Has: a dot is looked for. past.Has. The document's Has, Count, Last. The document's ahead. The document's Check of a dot, as the past sees it. What is joined, and left: plain functions. No function of the program is named here. past.bounded, past.alone. past.push. past.push behind a span. -/
import Derived.Test.YtgbidlhgmeglmaaGreatDoorZerd
import Derived.Laws.MakeOwn
import Derived.Deep.QuietTactic
import Derived.BigQuiet
import Derived.Deep.RegionHeld3
import Derived.RegionTactic
import Derived.Test.YtgbidlhgmeglmaaGreatDoorZerc
import Derived.Deep.Cut
namespace Go.Proofs.YtgbidlhgmeglmaaGreatDoor
section
open Go.RowKit Go.Lib
set_option linter.unusedSimpArgs false
set_option linter.unusedVariables false
/-- So many zeros. -/
def zeroRowP (n : Nat) : Array Value := ((List.replicate n (0 : UInt8)).map bv).toArray
theorem OwnB.zeros {w : World} (n : Nat) (h : n ≤ maxLen) : OwnB (w.alloc (.cells (zeroRowP n) 5)) (some ⟨w.heap.size, 0, none⟩) n [] :=
  .of (full := List.replicate n 0) (heap_alloc_new w _) (Nat.zero_le _) h (by simp) rfl
/-- What an append makes of a row of one's own. -/
theorem app_own {w w6 w7 : World} {B A2 : Option Addr} (hB : ∀ a, B = some a → w.heap.size ≤ a.block) (hC : Chg [] w w6) (d2 : w6.grownBy w7 (B.map (·.block))) (e2 : A2 = B ∨ A2 = some ⟨w6.heap.size, 0, none⟩) : (∀ a, A2 = some a → w.heap.size ≤ a.block) ∧ Chg [] w w7 := by
  refine ⟨?_, hC.grown d2 (fun i hi => ?_)⟩
  · rcases e2 with rfl | rfl
    · exact hB
    · rintro a ⟨⟩; exact hC.size
  · cases B with
    | none => simp at hi
    | some a => simp at hi; subst hi; exact .inr (hB a rfl)
theorem Bs.byte {w : World} {g : Nat} {v : Int} {c : UInt8} (hv : Value.int .u8 v = bv c) (h : w.heap[g]? = some (.cells #[.int .u8 v] 5 (0, 0))) : Bs w (some ⟨g, 0, none⟩) 1 [c] := by
  refine Bs.row (ys := [c]) ?_ (show 1 ≤ maxLen by decide)
  rw [h, hv]
  rfl
end
section
open Go.RowKit Go.Lib
set_option linter.unusedSimpArgs false
set_option linter.unusedVariables false

def numB (ys : List UInt8) : Nat := ys.foldl (fun n x => n * 256 + x.toNat) 0
theorem numB_snoc (ys : List UInt8) (x : UInt8) : numB (ys ++ [x]) = numB ys * 256 + x.toNat := by simp [numB]
theorem numB_lt : ∀ (k : Nat) (ys : List UInt8), ys.length ≤ k → numB ys < 256 ^ k
  | 0, ys, h => by
    have : ys = [] := List.length_eq_zero_iff.1 (by omega)
    subst this
    simp [numB]
  | k + 1, ys, h => by
    rcases List.eq_nil_or_concat ys with rfl | ⟨l, x, rfl⟩
    · simp only [numB, List.foldl_nil]; exact Nat.pow_pos (by decide)
    · rw [List.concat_eq_append, numB_snoc]
      have h1 := numB_lt k l (by simp at h; omega)
      have h2 : x.toNat < 256 := x.toNat_lt
      rw [Nat.pow_succ]
      omega
theorem or8P (a b : Nat) (hb : b < 256) (h : a < 4294967296) : bits .or .i64 ((a : Int) * 256) (b : Int) = (a : Int) * 256 + (b : Int) := by
  have h1 : (BitVec.ofInt 64 ((a * 256 : Nat) : Int)).toNat = a * 256 := by
    rw [BitVec.ofInt_natCast, BitVec.toNat_ofNat]; exact Nat.mod_eq_of_lt (by omega)
  have h2 : (BitVec.ofInt 64 (b : Int)).toNat = b := by
    rw [BitVec.ofInt_natCast, BitVec.toNat_ofNat]; exact Nat.mod_eq_of_lt (by omega)
  have hj : a * 256 ||| b = a * 256 + b := by
    have := Nat.shiftLeft_add_eq_or_of_lt (b := b) (i := 8) (by omega) a
    rw [Nat.shiftLeft_eq] at this
    exact this.symm
  rw [show (a : Int) * 256 = ((a * 256 : Nat) : Int) by omega]
  show IntKind.i64.wrap ((BitVec.ofInt 64 ((a * 256 : Nat) : Int) ||| BitVec.ofInt 64 (b : Int)).toNat : Int) = _
  rw [BitVec.toNat_or, h1, h2, hj, IntWalk.i64_in _ (by omega)]
  omega
set_option maxRecDepth 100000 in
theorem pnum1_any (w : World) (a b : Nat) (hb : b < 256) (ha : a < 4294967296) :
    Calls Tryz.prog 151 #[.int .i64 (a : Int), .int .u8 (b : Int)] w fun e w' => e = .returned (.int .i64 ((a * 256 + b : Nat) : Int)) ∧ Chg [] w w' := by
  have e1 := or8P a b hb ha
  go_enter Tryz.func151, Tryz.ntmps151
  go_wp2
  go_ret
  exact ⟨by simp, Chg.refl _ _⟩
set_option maxRecDepth 100000 in
set_option maxHeartbeats 2000000 in
theorem pfoldb_any (w : World) (A : Option Addr) (n c : Nat) (ys : List UInt8) (h : Bs w A n ys) (hn : ys.length ≤ 4) :
    Calls Tryz.prog 150 #[.slice A n c, .int .i64 0, .func (.func 151) #[] #[]] w fun e w' => e = .returned (.int .i64 (numB ys : Int)) ∧ Chg [] w w' := by
  have hl := h.len
  subst hl
  have HX := Lib.hid h
  clear h
  go_enter Tryz.func150, Tryz.ntmps150
  go_wp2
  go_loopw [1, 11] (fun v1 v11 wr => ∃ (k : Nat), k ≤ ys.length ∧ v1 = .int .i64 (numB (ys.take k) : Int) ∧ v11 = .int .i64 k ∧ Hid (Chg [] w wr)) (fun _ v11 _ => ys.length - (RowKit.intOf v11).toNat)
  case atStart => exact ⟨0, Nat.zero_le _, rfl, rfl, Chg.refl _ _⟩
  case round =>
    obtain ⟨k, hk, rfl, rfl, HI⟩ := hrel
    generalize wr = w4 at *
    clear wr
    by_cases hlt : k < ys.length
    · have hb4 := HX.out.chg HI.out (by simp)
      have ex := List.getElem?_eq_getElem hlt
      obtain ⟨ad, eA, hc0⟩ := hb4.cells 0 _ (List.getElem?_eq_getElem (show 0 < ys.length by omega))
      have hsp := World.cell?_spot hc0
      obtain ⟨g, o, sp⟩ := ad
      have hsp : sp = none := by simpa [Addr.add] using hsp
      subst hsp eA
      clear hc0
      obtain ⟨ad, eA, hc⟩ := hb4.cells k _ ex
      cases eA
      generalize ys[k] = x at *
      rw [add_lit] at hc
      have i0 : (0 : Int) ≤ (k : Int) := by omega
      have i1 : (k : Int) < (ys.length : Int) := by omega
      have hnm := numB_lt 3 (ys.take k) (by rw [List.length_take]; omega)
      have HN := Lib.hid (show numB (ys.take k) < 4294967296 by omega)
      have e2 : numB (ys.take (k + 1)) = numB (ys.take k) * 256 + x.toNat := by rw [List.take_add_one, ex]; exact numB_snoc _ _
      have E2 := Lib.hid e2
      clear hb4 ex hnm e2
      generalize numB (ys.take k) = m at *
      unfold bv at hc
      go_wp2_with fail
      refine (pnum1_any _ m x.toNat x.toNat_lt HN.out).mono ?_
      rintro e w5 ⟨rfl, hcc⟩
      have CE := Lib.hid (HI.out.trans hcc)
      clear hcc hc
      go_wp2
      go_round
      case rel => exact ⟨k + 1, by omega, by rw [E2.out, Int.natCast_add, Int.natCast_mul]; rfl, by go_num, CE.out⟩
      case measure => simp [RowKit.intOf]; omega
    · obtain rfl : k = ys.length := by omega
      rw [show ys.take ys.length = ys from List.take_length]
      go_wp2
      go_ret
      exact ⟨rfl, HI.out⟩
theorem panumber_any (w : World) (A : Option Addr) (n c : Nat) (ys : List UInt8) (h : Bs w A n ys) (hn : ys.length ≤ 4) :
    Calls Tryz.prog 125 #[.slice A n c] w fun e w' => e = .returned (.int .i64 (numB ys : Int)) ∧ Chg [] w w' := by
  have HX := Lib.hid h
  have HN := Lib.hid hn
  clear h hn
  go_enter Tryz.func125, Tryz.ntmps125
  go_wp2_with fail
  refine (pfoldb_any _ A n c ys HX.out HN.out).mono ?_
  rintro e w1 ⟨rfl, hc⟩
  have C := Lib.hid hc
  clear hc
  go_wp2
  go_ret
  exact ⟨rfl, C.out⟩
end
section
open Go.RowKit Go.Lib
set_option linter.unusedSimpArgs false
set_option linter.unusedVariables false
theorem numB_four (a b c d : UInt8) : numB [a, b, c, d] = a.toNat * 16777216 + b.toNat * 65536 + c.toNat * 256 + d.toNat := by
  simp [numB]; omega
set_option maxRecDepth 100000 in
set_option maxHeartbeats 2000000 in
theorem qfour_cells (w : World) (g o n c x0 x1 x2 x3 : Nat) (h0 : x0 < 256) (h1 : x1 < 256) (h2 : x2 < 256) (h3 : x3 < 256) (hn : 4 ≤ n) (z0 : w.cell? ⟨g, o, none⟩ = some (.int .u8 (x0 : Int))) (z1 : w.cell? ⟨g, o + 1, none⟩ = some (.int .u8 (x1 : Int))) (z2 : w.cell? ⟨g, o + 2, none⟩ = some (.int .u8 (x2 : Int))) (z3 : w.cell? ⟨g, o + 3, none⟩ = some (.int .u8 (x3 : Int))) :
    Calls Tryz.prog 127 #[.slice (some ⟨g, o, none⟩) n c] w fun e w' => e = .returned (.int .i64 ((x0 * 16777216 + x1 * 65536 + x2 * 256 + x3 : Nat) : Int)) ∧ Chg [] w w' := by
  have i0 : (0 : Int) < (n : Int) := by omega
  have i1 : (1 : Int) < (n : Int) := by omega
  have i2 : (2 : Int) < (n : Int) := by omega
  have i3 : (3 : Int) < (n : Int) := by omega
  go_enter Tryz.func127, Tryz.ntmps127
  go_wp2
  go_quiet (fail)
  go_wp2
  go_ret
  refine ⟨?_, (Chg.refl _ _).drewN _⟩
  simp
theorem Bs.at4 {w : World} {A : Option Addr} {n : Nat} {xs : List UInt8} (h : Bs w A n xs) (i : Nat) (a b c d : UInt8) (h0 : xs[i]? = some a) (h1 : xs[i + 1]? = some b) (h2 : xs[i + 2]? = some c) (h3 : xs[i + 3]? = some d) :
    ∃ g o, A = some ⟨g, o, none⟩ ∧ w.cell? ⟨g, o + i, none⟩ = some (bv a) ∧ w.cell? ⟨g, o + i + 1, none⟩ = some (bv b) ∧ w.cell? ⟨g, o + i + 2, none⟩ = some (bv c) ∧ w.cell? ⟨g, o + i + 3, none⟩ = some (bv d) := by
  have hp : 0 < xs.length := by have := (List.getElem?_eq_some_iff.1 h0).1; omega
  obtain ⟨ad, eA, hc0⟩ := h.cells 0 _ (List.getElem?_eq_getElem hp)
  have hsp := World.cell?_spot hc0
  obtain ⟨g, o, sp⟩ := ad
  have hsp : sp = none := by simpa [Addr.add] using hsp
  subst hsp eA
  refine ⟨g, o, rfl, ?_, ?_, ?_, ?_⟩
  · obtain ⟨ad, eA, hc⟩ := h.cells i _ h0; cases eA; rwa [add_lit] at hc
  · obtain ⟨ad, eA, hc⟩ := h.cells (i + 1) _ h1; cases eA; rwa [add_lit] at hc
  · obtain ⟨ad, eA, hc⟩ := h.cells (i + 2) _ h2; cases eA; rwa [add_lit] at hc
  · obtain ⟨ad, eA, hc⟩ := h.cells (i + 3) _ h3; cases eA; rwa [add_lit] at hc
end
section
open Go.RowKit Go.Lib
set_option linter.unusedSimpArgs false
set_option linter.unusedVariables false
/-- The span that lies in nine bytes from i on. -/
def spanAt (ys : List UInt8) (i : Nat) : Int × Int × Int := ((numB ((ys.drop i).take 1) : Int), (numB ((ys.drop (i + 1)).take 4) : Int), (numB ((ys.drop (i + 5)).take 4) : Int))
def spansR (ys : List UInt8) (k : Nat) : List (Int × Int × Int) := (List.range k).map fun i => spanAt ys (2 + 9 * i)
theorem spansR_succ (ys : List UInt8) (k : Nat) : spansR ys (k + 1) = spansR ys k ++ [spanAt ys (2 + 9 * k)] := by simp [spansR, List.range_succ]
theorem spansR_len (ys : List UInt8) (k : Nat) : (spansR ys k).length = k := by simp [spansR]
theorem Bs.part_ {w : World} {g o n : Nat} {xs : List UInt8} (h : Bs w (some ⟨g, o, none⟩) n xs) (q m : Nat) (hq : q + m ≤ n) : Bs w (some ⟨g, o + q, none⟩) m ((xs.drop q).take m) := by
  have hl := h.len
  refine ⟨by simp; omega, fun j v hj => ⟨_, rfl, ?_⟩⟩
  rw [List.getElem?_take] at hj
  split at hj
  · rw [List.getElem?_drop] at hj
    obtain ⟨a, e, hc⟩ := h.cells _ v hj
    cases e
    rw [add_lit] at hc ⊢
    rwa [Nat.add_assoc]
  · cases hj
end
section
open Go.RowKit Go.Lib
set_option linter.unusedSimpArgs false
set_option linter.unusedVariables false
set_option maxHeartbeats 4000000 in
set_option maxRecDepth 100000 in
theorem paread_loop (w : World) (g o n c : Nat) (ys : List UInt8) (h : Bs w (some ⟨g, o, none⟩) n ys) (hn : n ≤ 140737488351232) (hc : n ≤ c) (hc2 : c ≤ 9223372036854775807) (many : Nat) (hm : many = numB (ys.take 2)) (hl : ys.length = 2 + 9 * many) (L : List (Int × Int × Int)) (E : Int) (hck : (chkS (spansR ys many) = 0 ∧ L = spansR ys many ∧ E = 0) ∨ (chkS (spansR ys many) = 2 ∧ L = [] ∧ E = 2)) :
    Calls Tryz.prog 81 #[.slice (some ⟨g, o, none⟩) n c] w fun e w' => ∃ A' c', e = .returned (.tuple #[.slice A' L.length c', .agg #[.int .i64 E, .int .i64 0]]) ∧ OwnK spanTy w' A' c' L ∧ (∀ a, A' = some a → w.heap.size ≤ a.block) ∧ Chg [] w w' := by
  have HCK := Lib.hid hck
  clear hck
  have hl0 := h.len
  subst hl0
  obtain ⟨w1, hw1, c1, b1⟩ := news1 w (.cells #[.int .i64 0, .int .i64 0] 44)
  have W1 := Lib.hid hw1
  have HX := Lib.hid (h.chg c1 (by simp))
  have C1 := Lib.hid c1
  have F1 := Lib.hid b1
  have h2 : (2 : Int) ≤ (ys.length : Int) := by omega
  have h3 : ¬ ((ys.length : Int) < 2) := by omega
  have h4 : (2 : Int) ≤ (c : Int) := by omega
  have hmk : many < 65536 := by
    have := numB_lt 2 (ys.take 2) (by rw [List.length_take]; omega)
    omega
  have hne : ((ys.length : Int) == 2 + 9 * (many : Int)) = true := by simp; omega
  have RD := Lib.hid (show Bs w1 (some ⟨g, o, none⟩) 2 (ys.take 2) from by have := HX.out.part_ 0 2 (by omega); simpa using this)
  have hg0 : g < w.heap.size := by
    obtain ⟨a, e, hc⟩ := h.cells 0 _ (List.getElem?_eq_getElem (by omega))
    cases e
    have := lt_of_cell hc
    rwa [block_add] at this
  have HG1 := Lib.hid (Nat.lt_of_lt_of_le hg0 c1.size)
  clear hw1 c1 b1 h hg0
  go_enter Tryz.func81, Tryz.ntmps81
  go_wp2_with fail
  rw [← W1.out]
  refine (panumber_any _ _ 2 _ (ys.take 2) RD.out (by rw [List.length_take]; omega)).mono ?_
  rintro e w2 ⟨rfl, hcc⟩
  rw [← hm]
  have HM := Lib.hid hm
  clear hm
  have HG0 := Lib.hid (Nat.lt_of_lt_of_le HG1.out hcc.size)
  clear HG1
  have C2 := Lib.hid (C1.out.trans hcc)
  have F2 := Lib.hid (hcc.at_ F1.out (by simp))
  have HX2 := Lib.hid (HX.out.chg hcc (by simp))
  clear hcc W1 C1 F1 HX RD
  go_upto_region 6 with fail
  generalize hs0 : w.heap.size = s0 at *
  have HS0 := Lib.hid (Nat.le_of_eq hs0)
  clear hs0
  go_wp2
  go_loopw [5, 6] (fun v5 v6 wr => ∃ (k q : Nat) (B : Option Addr) (cc : Nat), k ≤ many ∧ v5 = .slice B k cc ∧ v6 = .int .i64 (q : Int) ∧ q = 2 + 9 * k ∧ Hid (OwnK spanTy wr B cc (spansR ys k) ∧ (∀ a, B = some a → w2.heap.size ≤ a.block) ∧ Chg [] w2 wr)) (fun v5 _ _ => many - (match v5 with | .slice _ k _ => k | _ => 0))
  case atStart => exact ⟨0, 2, none, 0, Nat.zero_le _, rfl, rfl, rfl, OwnK.none_ _, by simp, Chg.refl _ _⟩
  case round =>
    obtain ⟨k, q, B, cc, hk, rfl, rfl, hqk, HI⟩ := hrel
    generalize wr = w4 at *
    clear wr
    by_cases hlt : k < many
    · have hq : q < ys.length := by omega
      have ex := List.getElem?_eq_getElem hq
      have HX4 := Lib.hid (HX2.out.chg HI.out.2.2 (by simp))
      obtain ⟨ad, eA, hc⟩ := HX4.out.cells _ _ ex
      cases eA
      rw [add_lit] at hc
      have e1 : (ys.drop q).take 1 = [ys[q]] := by rw [List.drop_eq_getElem_cons hq]; rfl
      generalize ys[q] = x at *
      have E1 := Lib.hid e1
      unfold bv at hc
      have P1 := Lib.hid (HX4.out.part_ (q + 1) 4 (by omega))
      have P2 := Lib.hid (HX4.out.part_ (q + 5) 4 (by omega))
      have i0 : (0 : Int) ≤ (q : Int) := by omega
      have i1 : (q : Int) < (ys.length : Int) := by omega
      have i2 : (q : Int) + 1 ≤ (q : Int) + 5 := by omega
      have hcc : ys.length ≤ c := by omega
      have i3 : (q : Int) + 5 ≤ (c : Int) := by omega
      have i4 : (q : Int) + 9 ≤ (c : Int) := by omega
      have i5 : (q : Int) < 2 + 9 * (many : Int) := by omega
      have j0 : (0 : Int) ≤ (q : Int) + 1 := by omega
      have j1 : (0 : Int) ≤ (q : Int) + 5 := by omega
      have j2 : (q : Int) + 5 ≤ (q : Int) + 9 := by omega
      have j3 : ¬ c = q + 1 := by omega
      have j4 : ¬ q + 1 = c := by omega
      have j5 : ¬ c = q + 5 := by omega
      have j6 : ¬ q + 5 = c := by omega
      have j7 : q + 1 ≤ q + 5 := by omega
      have j8 : q + 5 ≤ c := by omega
      have j9 : q + 5 ≤ q + 9 := by omega
      have ja : q + 9 ≤ c := by omega
      have jb : IntKind.i64.wrap ((q : Int) + 1) = (q : Int) + 1 := IntWalk.i64_in _ (by omega)
      have jc : IntKind.i64.wrap ((q : Int) + 5) = (q : Int) + 5 := IntWalk.i64_in _ (by omega)
      have jd : IntKind.i64.wrap ((q : Int) + 9) = (q : Int) + 9 := IntWalk.i64_in _ (by omega)
      have nt1 : ((q : Int) + 1).toNat = q + 1 := by omega
      have nt5 : ((q : Int) + 5).toNat = q + 5 := by omega
      have nt9 : ((q : Int) + 9).toNat = q + 9 := by omega
      have nl1 : q + 5 - (q + 1) = 4 := by omega
      have nl2 : q + 9 - (q + 5) = 4 := by omega
      have HQ := Lib.hid hqk
      clear ex e1 hq hqk
      have hsp : spanAt ys q = ((x.toNat : Int), (numB ((ys.drop (q + 1)).take 4) : Int), (numB ((ys.drop (q + 5)).take 4) : Int)) := by
        unfold spanAt
        rw [E1.out]
        simp [numB]
      have HSP := Lib.hid hsp
      have LR1 := Lib.hid (spansR_len ys k)
      have BND := Lib.hid (show (k + 1) * 400 ≤ 140737488355327 by omega)
      have hgB : g ∉ (B.map (·.block)).toList := by
        cases B with
        | none => simp
        | some a =>
          have h1 := HI.out.2.1 a rfl
          have h2 := HG0.out
          simp
          omega
      have HB := Lib.hid hgB
      have HWX := Lib.hid (show IntKind.i64.wrap (x.toNat : Int) = (x.toNat : Int) from IntWalk.i64_in _ (by have := x.toNat_lt; omega))
      have hk4 : ∀ w', Chg (B.map (·.block)).toList w4 w' → w'.cell? ⟨g, o + q, none⟩ = some (.int .u8 (x.toNat : Int)) := fun w' h => h.cell hc (by exact HB.out)
      have HK := Lib.hid hk4
      have LT1 := Lib.hid (show ((ys.drop (q + 1)).take 4).length ≤ 4 by rw [List.length_take]; omega)
      have LT2 := Lib.hid (show ((ys.drop (q + 5)).take 4).length ≤ 4 by rw [List.length_take]; omega)
      clear hsp hk4 hc hgB
      generalize (ys.drop (q + 1)).take 4 = l1 at *
      generalize (ys.drop (q + 5)).take 4 = l2 at *
      go_upto_region 10 with fail
      refine wp_region_held_drew (S := fun w' => Chg (B.map (·.block)).toList w4 w') (by kernel_rfl) (Chg.refl _ w4).drew (fun hHeld => ?_)
      have C4 := Lib.hid ((Chg.refl [] w4).drew)
      clear hHeld
      refine step_yes 0 33 ?_ (C4.out.mono (by simp)) rfl rfl (by kernel_rfl) (by kernel_rfl) (by kernel_rfl) (fun _ _ _ h => h) (by rfl) ?_ ?_
      rotate_left
      · (intro w hSw; (try dsimp only at hSw); go_simp; try with_reducible rfl)
      try simp only [Act.put, List.setIfInBounds_toArray, List.set_cons_zero, List.set_cons_succ]
      refine step_yes 1 34 ?_ (C4.out.mono (by simp)) rfl rfl (by kernel_rfl) (by kernel_rfl) (by kernel_rfl) (fun _ _ _ h => h) (by rfl) ?_ ?_
      rotate_left
      · (intro w hSw; (try dsimp only at hSw); go_simp; try with_reducible rfl)
      try simp only [Act.put, List.setIfInBounds_toArray, List.set_cons_zero, List.set_cons_succ]
      refine step_yes 2 35 ?_ (C4.out.mono (by simp)) rfl rfl (by kernel_rfl) (by kernel_rfl) (by kernel_rfl) (fun _ _ _ h => h) (by rfl) ?_ ?_
      rotate_left
      · (intro w hSw; (try dsimp only at hSw); go_simp; try with_reducible rfl)
      try simp only [Act.put, List.setIfInBounds_toArray, List.set_cons_zero, List.set_cons_succ]
      refine step_yes 3 36 ?_ (C4.out.mono (by simp)) rfl rfl (by kernel_rfl) (by kernel_rfl) (by kernel_rfl) (fun _ _ _ h => h) (by rfl) ?_ ?_
      rotate_left
      · (intro w hSw; (try dsimp only at hSw); go_simp; try with_reducible rfl)
      try simp only [Act.put, List.setIfInBounds_toArray, List.set_cons_zero, List.set_cons_succ]
      refine step_yes 4 37 ?_ (C4.out.mono (by simp)) rfl rfl (by kernel_rfl) (by kernel_rfl) (by kernel_rfl) (fun _ _ _ h => h) (by rfl) ?_ ?_
      rotate_left
      · (intro w hSw; (try dsimp only at hSw); have hq0 := HK.out _ hSw; go_simp; try with_reducible rfl)
      try simp only [Act.put, List.setIfInBounds_toArray, List.set_cons_zero, List.set_cons_succ]
      refine step_yes 5 38 ?_ (C4.out.mono (by simp)) rfl rfl (by kernel_rfl) (by kernel_rfl) (by kernel_rfl) (fun _ _ _ h => h) (by rfl) ?_ ?_
      rotate_left
      · (intro w hSw; (try dsimp only at hSw); go_simp; try with_reducible rfl)
      try simp only [Act.put, List.setIfInBounds_toArray, List.set_cons_zero, List.set_cons_succ]
      refine step_yes 6 39 ?_ (C4.out.mono (by simp)) rfl rfl (by kernel_rfl) (by kernel_rfl) (by kernel_rfl) (fun _ _ _ h => h) (by rfl) ?_ ?_
      rotate_left
      · (intro w hSw; (try dsimp only at hSw); go_simp; try with_reducible rfl)
      try simp only [Act.put, List.setIfInBounds_toArray, List.set_cons_zero, List.set_cons_succ]
      refine step_yes 7 40 ?_ (C4.out.mono (by simp)) rfl rfl (by kernel_rfl) (by kernel_rfl) (by kernel_rfl) (fun _ _ _ h => h) (by rfl) ?_ ?_
      rotate_left
      · (intro w hSw; (try dsimp only at hSw); go_simp; try with_reducible rfl)
      try simp only [Act.put, List.setIfInBounds_toArray, List.set_cons_zero, List.set_cons_succ]
      refine step_yes 8 41 ?_ (C4.out.mono (by simp)) rfl rfl (by kernel_rfl) (by kernel_rfl) (by kernel_rfl) (fun _ _ _ h => h) (by rfl) ?_ ?_
      rotate_left
      · (intro w hSw; (try dsimp only at hSw); go_simp; try with_reducible rfl)
      try simp only [Act.put, List.setIfInBounds_toArray, List.set_cons_zero, List.set_cons_succ]
      refine step_yes 9 42 ?_ (C4.out.mono (by simp)) rfl rfl (by kernel_rfl) (by kernel_rfl) (by kernel_rfl) (fun _ _ _ h => h) (by rfl) ?_ ?_
      rotate_left
      · (intro w hSw; (try dsimp only at hSw); go_simp; try with_reducible rfl)
      try simp only [Act.put, List.setIfInBounds_toArray, List.set_cons_zero, List.set_cons_succ]
      refine step_yes 10 43 ?_ (C4.out.mono (by simp)) rfl rfl (by kernel_rfl) (by kernel_rfl) (by kernel_rfl) (fun _ _ _ h => h) (by rfl) ?_ ?_
      rotate_left
      · (intro w hSw; (try dsimp only at hSw); go_simp; try with_reducible rfl)
      try simp only [Act.put, List.setIfInBounds_toArray, List.set_cons_zero, List.set_cons_succ]
      refine step_yes 11 44 ?_ (C4.out.mono (by simp)) rfl rfl (by kernel_rfl) (by kernel_rfl) (by kernel_rfl) (fun _ _ _ h => h) (by rfl) ?_ ?_
      rotate_left
      · (intro w hSw; (try dsimp only at hSw); go_simp; try with_reducible rfl)
      try simp only [Act.put, List.setIfInBounds_toArray, List.set_cons_zero, List.set_cons_succ]
      refine step_yes 13 46 ?_ (C4.out.mono (by simp)) rfl rfl (by kernel_rfl) (by kernel_rfl) (by kernel_rfl) (fun _ _ _ h => h) (by rfl) ?_ ?_
      rotate_left
      · (intro w hSw; (try dsimp only at hSw); go_simp; try with_reducible rfl)
      try simp only [Act.put, List.setIfInBounds_toArray, List.set_cons_zero, List.set_cons_succ]
      refine step_yes 14 47 ?_ (C4.out.mono (by simp)) rfl rfl (by kernel_rfl) (by kernel_rfl) (by kernel_rfl) (fun _ _ _ h => h) (by rfl) ?_ ?_
      rotate_left
      · (intro w hSw; (try dsimp only at hSw); go_simp; try with_reducible rfl)
      try simp only [Act.put, List.setIfInBounds_toArray, List.set_cons_zero, List.set_cons_succ]
      refine step_yes 15 48 ?_ (C4.out.mono (by simp)) rfl rfl (by kernel_rfl) (by kernel_rfl) (by kernel_rfl) (fun _ _ _ h => h) (by rfl) ?_ ?_
      rotate_left
      · (intro w hSw; (try dsimp only at hSw); go_simp; try with_reducible rfl)
      try simp only [Act.put, List.setIfInBounds_toArray, List.set_cons_zero, List.set_cons_succ]
      refine step_yes 16 49 ?_ (C4.out.mono (by simp)) rfl rfl (by kernel_rfl) (by kernel_rfl) (by kernel_rfl) (fun _ _ _ h => h) (by rfl) ?_ ?_
      rotate_left
      · (intro w hSw; (try dsimp only at hSw); go_simp; try with_reducible rfl)
      try simp only [Act.put, List.setIfInBounds_toArray, List.set_cons_zero, List.set_cons_succ]
      refine step_yes 17 50 ?_ (C4.out.mono (by simp)) rfl rfl (by kernel_rfl) (by kernel_rfl) (by kernel_rfl) (fun _ _ _ h => h) (by rfl) ?_ ?_
      rotate_left
      · (intro w hSw; (try dsimp only at hSw); go_simp; try with_reducible rfl)
      try simp only [Act.put, List.setIfInBounds_toArray, List.set_cons_zero, List.set_cons_succ]
      refine step_yes 18 51 ?_ (C4.out.mono (by simp)) rfl rfl (by kernel_rfl) (by kernel_rfl) (by kernel_rfl) (fun _ _ _ h => h) (by rfl) ?_ ?_
      rotate_left
      · (intro w hSw; (try dsimp only at hSw); go_simp; try with_reducible rfl)
      try simp only [Act.put, List.setIfInBounds_toArray, List.set_cons_zero, List.set_cons_succ]
      refine wpAnyH_ready (rs := [12]) (by kernel_rfl) (by simp) ?_
      refine AllReadyH.cons rfl (fun K hK => ?_) AllReadyH.nil
      replace hK := Lib.hid hK
      go_simp
      refine (panumber_any _ _ 4 _ l1 (P1.out.chg C4.out (by simp)) LT1.out).mono ?_
      rintro e w9 ⟨rfl, hc⟩
      have C9 := Lib.hid (C4.out.trans hc)
      clear hc C4
      refine hK.out _ _ (C9.out.mono (by simp)) (fun hHeld => ?_)
      clear hK K
      try simp only [Act.put, List.setIfInBounds_toArray, List.set_cons_zero, List.set_cons_succ]
      clear hHeld
      refine wpAnyH_ready (rs := [19]) (by kernel_rfl) (by simp) ?_
      refine AllReadyH.cons rfl (fun K hK => ?_) AllReadyH.nil
      replace hK := Lib.hid hK
      go_simp
      refine (panumber_any _ _ 4 _ l2 (P2.out.chg C9.out (by simp)) LT2.out).mono ?_
      rintro e v9 ⟨rfl, hc⟩
      have C8 := Lib.hid (C9.out.trans hc)
      clear hc C9
      refine hK.out _ _ (C8.out.mono (by simp)) (fun hHeld => ?_)
      clear hK K
      try simp only [Act.put, List.setIfInBounds_toArray, List.set_cons_zero, List.set_cons_succ]
      clear hHeld
      refine step_yes 20 53 ?_ (C8.out.mono (by simp)) rfl rfl (by kernel_rfl) (by kernel_rfl) (by kernel_rfl) (fun _ _ _ h => h) (by rfl) ?_ ?_
      rotate_left
      · (intro w hSw; (try dsimp only at hSw); go_simp; try with_reducible rfl)
      try simp only [Act.put, List.setIfInBounds_toArray, List.set_cons_zero, List.set_cons_succ]
      refine wpAnyH_ready (rs := [21]) (by kernel_rfl) (by simp) ?_
      refine AllReadyH.cons rfl (fun K hK => ?_) AllReadyH.nil
      replace hK := Lib.hid hK
      go_simp
      obtain ⟨w5, hw5, c5, b5⟩ := news1 v9 (.cells #[.int .i64 (x.toNat : Int), .int .i64 (numB l1 : Int), .int .i64 (numB l2 : Int)] 62)
      simp only [HWX.out]
      rw [← hw5]
      have C5 := Lib.hid (C8.out.trans c5)
      refine hK.out _ _ (C5.out.mono (by simp)) (fun hHeld => ?_)
      clear hK K hHeld
      try simp only [Act.put, List.setIfInBounds_toArray, List.set_cons_zero, List.set_cons_succ]
      have R5 := Lib.hid (OwnK.of (R := spanTy) (c := 1) (full := [((x.toNat : Int), (numB l1 : Int), (numB l2 : Int))]) (xs := [((x.toNat : Int), (numB l1 : Int), (numB l2 : Int))]) b5 (Nat.le_refl _) (by decide) rfl rfl).reads
      have O5 := Lib.hid (HI.out.1.chg C5.out (by simp))
      clear hw5 c5 b5 C8
      refine wpAnyH_ready (rs := [22]) (by kernel_rfl) (by simp) ?_
      refine AllReadyH.cons rfl (fun K hK => ?_) AllReadyH.nil
      replace hK := Lib.hid hK
      refine step_appK (R := spanTy) rfl (.tmp 33) (.tmp 54) rfl rfl O5.out LR1.out rfl R5.out BND.out ?_
      intro A2 c2 w7 u2 d2 e2
      have C7 := Lib.hid ((C5.out.mono (S' := (B.map (·.block)).toList) (by simp)).grown d2 (fun k hk => .inl (by simp [hk])))
      have AO := app_own (w := w2) HI.out.2.1 (HI.out.2.2.trans C5.out) d2 e2
      have U2 := Lib.hid u2
      have AO2 := Lib.hid AO
      clear u2 d2 e2 AO
      refine hK.out _ _ C7.out (fun hHeld => ?_)
      clear hK K hHeld
      try simp only [Act.put, List.setIfInBounds_toArray, List.set_cons_zero, List.set_cons_succ]
      refine step_yes 23 5 ?_ C7.out rfl rfl (by kernel_rfl) (by kernel_rfl) (by kernel_rfl) (fun _ _ _ h => h) (by rfl) ?_ ?_
      rotate_left
      · (intro w hSw; (try dsimp only at hSw); go_simp; try with_reducible rfl)
      try simp only [Act.put, List.setIfInBounds_toArray, List.set_cons_zero, List.set_cons_succ]
      refine wpAnyH_done (by kernel_rfl) ?_ _
      go_wp2
      go_round
      case rel => exact ⟨k + 1, q + 9, A2, c2, by omega, by congr 1, by go_num, by have := HQ.out; omega, by rw [spansR_succ, ← HQ.out, HSP.out]; exact U2.out, AO2.out.1, AO2.out.2⟩
      case measure => simp; omega
    · obtain rfl : k = many := by omega
      have hw2l := HI.out.1.reads
      go_wp2_with fail
      refine (pacheck_any _ B _ cc (spansR ys k) (by have := hw2l; rwa [spansR_len] at this) (by omega)).mono ?_
      rintro e w5 ⟨rfl, hc5⟩
      rcases HCK.out with ⟨hk0, hL, hE⟩ | ⟨hk0, hL, hE⟩
      · rw [hk0]
        clear HCK hw2l hk0
        subst hL hE
        have hb := hc5.at_ (HI.out.2.2.at_ F2.out (by simp)) (by simp)
        have z0 := cell_of hb 0
        have z1 := cell_of hb 1
        have f0 := free_of hb 0
        have f1 := free_of hb 1
        simp only [List.getElem?_toArray, List.getElem?_cons_succ, List.getElem?_cons_zero] at z0 z1
        have e0 := heap_setCell_same _ s0 0 _ _ (.int .i64 0) hb
        have e1 := heap_setCell_same _ s0 1 _ _ (.int .i64 0) e0
        have HE : Hid (((w5.setCell ⟨s0, 0, none⟩ (.int .i64 0)).setCell ⟨s0, 1, none⟩ (.int .i64 0)).heap[s0]? = some (.cells #[.int .i64 0, .int .i64 0] 44 (0, 0))) := Lib.hid (by simpa using e1)
        have CW := Lib.hid (Chg.put (Chg.put (C2.out.trans (HI.out.2.2.trans hc5)) HS0.out 0 (.int .i64 0)) HS0.out 1 (.int .i64 0))
        have CS := ((Chg.refl [s0] w5).setCell (p := ⟨s0, 0, none⟩) (.inl (by simp)) (.int .i64 0)).setCell (p := ⟨s0, 1, none⟩) (.inl (by simp)) (.int .i64 0)
        have OF := Lib.hid ((HI.out.1.chg hc5 (by simp)).chg CS (fun a ha => by
          have h1 := HI.out.2.1 a ha
          have h2 := lt_of_heap F2.out
          simp
          omega))
        have NF := Lib.hid (fun a (ha : B = some a) => Nat.le_trans C2.out.size (HI.out.2.1 a ha))
        have LF := Lib.hid (spansR_len ys k)
        clear hb e0 e1 CS hc5
        go_wp2
        generalize (w5.setCell ⟨s0, 0, none⟩ (.int .i64 0)).setCell ⟨s0, 1, none⟩ (.int .i64 0) = W at *
        clear z0 z1 f0 f1
        have z0 := cell_of HE.out 0
        have z1 := cell_of HE.out 1
        simp only [List.getElem?_toArray, List.getElem?_cons_succ, List.getElem?_cons_zero] at z0 z1
        refine bodyPost_ret (v := .tuple #[.slice B k cc, .agg #[.int .i64 0, .int .i64 0]]) (by simp [results, Tryz.results81, go_sem, z0, z1]) rfl ?_
        exact ⟨B, cc, by rw [LF.out], OF.out, NF.out, CW.out⟩
      · rw [hk0]
        clear HCK hw2l hk0
        subst hL hE
        have hb := hc5.at_ (HI.out.2.2.at_ F2.out (by simp)) (by simp)
        have z0 := cell_of hb 0
        have z1 := cell_of hb 1
        have f0 := free_of hb 0
        have f1 := free_of hb 1
        simp only [List.getElem?_toArray, List.getElem?_cons_succ, List.getElem?_cons_zero] at z0 z1
        have e0 := heap_setCell_same _ s0 0 _ _ (.int .i64 2) hb
        have e1 := heap_setCell_same _ s0 1 _ _ (.int .i64 0) e0
        have HE : Hid (((w5.setCell ⟨s0, 0, none⟩ (.int .i64 2)).setCell ⟨s0, 1, none⟩ (.int .i64 0)).heap[s0]? = some (.cells #[.int .i64 2, .int .i64 0] 44 (0, 0))) := Lib.hid (by simpa using e1)
        have CW := Lib.hid (Chg.put (Chg.put (C2.out.trans (HI.out.2.2.trans hc5)) HS0.out 0 (.int .i64 2)) HS0.out 1 (.int .i64 0))
        have CS := ((Chg.refl [s0] w5).setCell (p := ⟨s0, 0, none⟩) (.inl (by simp)) (.int .i64 2)).setCell (p := ⟨s0, 1, none⟩) (.inl (by simp)) (.int .i64 0)
        clear hb e0 e1 CS hc5
        go_wp2
        generalize (w5.setCell ⟨s0, 0, none⟩ (.int .i64 2)).setCell ⟨s0, 1, none⟩ (.int .i64 0) = W at *
        clear z0 z1 f0 f1
        have z0 := cell_of HE.out 0
        have z1 := cell_of HE.out 1
        simp only [List.getElem?_toArray, List.getElem?_cons_succ, List.getElem?_cons_zero] at z0 z1
        refine bodyPost_ret (v := .tuple #[.slice none 0 0, .agg #[.int .i64 2, .int .i64 0]]) (by simp [results, Tryz.results81, go_sem, z0, z1]) rfl ?_
        exact ⟨none, 0, rfl, OwnK.none_ _, by simp, CW.out⟩
end
section
open Go.RowKit Go.Lib
set_option linter.unusedSimpArgs false
set_option linter.unusedVariables false


/-- What bytes are read as: a past, what is wrong, and where. -/
def readS (ys : List UInt8) : List (Int × Int × Int) × (Int × Int) :=
  if ys.length < 2 then ([], (4, (ys.length : Int)))
  else if ys.length = 2 + 9 * numB (ys.take 2) then (if chkS (spansR ys (numB (ys.take 2))) = 0 then (spansR ys (numB (ys.take 2)), (0, 0)) else ([], (2, 0)))
  else ([], (4, if ys.length < 2 + 9 * numB (ys.take 2) then (ys.length : Int) else ((2 + 9 * numB (ys.take 2) : Nat) : Int)))
theorem readS_short {ys : List UInt8} (h : ys.length < 2) : readS ys = ([], (4, (ys.length : Int))) := if_pos h
theorem readS_odd {ys : List UInt8} (h : ¬ ys.length < 2) (h2 : ys.length ≠ 2 + 9 * numB (ys.take 2)) : readS ys = ([], (4, if ys.length < 2 + 9 * numB (ys.take 2) then (ys.length : Int) else ((2 + 9 * numB (ys.take 2) : Nat) : Int))) := by
  unfold readS
  rw [if_neg h, if_neg h2]
theorem readS_fine {ys : List UInt8} (h : ¬ ys.length < 2) (h2 : ys.length = 2 + 9 * numB (ys.take 2)) :
    (chkS (spansR ys (numB (ys.take 2))) = 0 ∧ readS ys = (spansR ys (numB (ys.take 2)), (0, 0))) ∨ (chkS (spansR ys (numB (ys.take 2))) = 2 ∧ readS ys = ([], (2, 0))) := by
  unfold readS
  rw [if_neg h, if_pos h2]
  by_cases hk : chkS (spansR ys (numB (ys.take 2))) = 0
  · rw [if_pos hk]; exact .inl ⟨hk, rfl⟩
  · rw [if_neg hk]; exact .inr ⟨chkS_odd hk, rfl⟩
theorem Bs.base {w : World} {A : Option Addr} {n : Nat} {ys : List UInt8} (h : Bs w A n ys) (hn : 0 < n) : ∃ g o, A = some ⟨g, o, none⟩ := by
  have hl := h.len
  obtain ⟨ad, rfl, hc⟩ := h.cells 0 _ (List.getElem?_eq_getElem (by omega))
  have hsp := World.cell?_spot hc
  obtain ⟨g, o, sp⟩ := ad
  have hsp : sp = none := by simpa [Addr.add] using hsp
  subst hsp
  exact ⟨g, o, rfl⟩

theorem paread_short (w : World) (A : Option Addr) (n c : Nat) (ys : List UInt8) (h : Bs w A n ys) (h2 : ys.length < 2) :
    Calls Tryz.prog 81 #[.slice A n c] w fun e w' => ∃ A' c', e = .returned (.tuple #[.slice A' (readS ys).1.length c', .agg #[.int .i64 (readS ys).2.1, .int .i64 (readS ys).2.2]]) ∧ OwnK spanTy w' A' c' (readS ys).1 ∧ (∀ a, A' = some a → w.heap.size ≤ a.block) ∧ Chg [] w w' := by
  rw [readS_short h2]
  have hl := h.len
  subst hl
  have h3 : (ys.length : Int) < 2 := by omega
  clear h h2
  go_enter Tryz.func81, Tryz.ntmps81
  go_wp2
  refine bodyPost_ret (v := .tuple #[.slice none 0 0, .agg #[.int .i64 4, .int .i64 ys.length]]) (by simp [results, Tryz.results81, go_sem]) rfl ?_
  exact ⟨none, 0, rfl, OwnK.none_ _, by simp, (Chg.refl _ _).alloc _⟩

set_option maxHeartbeats 2000000 in
set_option maxRecDepth 100000 in
theorem paread_odd (w : World) (g o n c : Nat) (ys : List UInt8) (h : Bs w (some ⟨g, o, none⟩) n ys) (hn : n ≤ 140737488351232) (hc : n ≤ c) (hc2 : c ≤ 9223372036854775807) (hs : ¬ ys.length < 2) (many : Nat) (hm : many = numB (ys.take 2)) (hl : ys.length ≠ 2 + 9 * many) (V : Int) (hV : (ys.length < 2 + 9 * many ∧ V = ys.length) ∨ (2 + 9 * many < ys.length ∧ V = ((2 + 9 * many : Nat) : Int))) :
    Calls Tryz.prog 81 #[.slice (some ⟨g, o, none⟩) n c] w fun e w' => ∃ A' c', e = .returned (.tuple #[.slice A' 0 c', .agg #[.int .i64 4, .int .i64 V]]) ∧ OwnK spanTy w' A' c' [] ∧ (∀ a, A' = some a → w.heap.size ≤ a.block) ∧ Chg [] w w' := by
  have hl0 := h.len
  subst hl0
  obtain ⟨w1, hw1, c1, b1⟩ := news1 w (.cells #[.int .i64 0, .int .i64 0] 44)
  have W1 := Lib.hid hw1
  have HX := Lib.hid (h.chg c1 (by simp))
  have C1 := Lib.hid c1
  have F1 := Lib.hid b1
  have h2 : (2 : Int) ≤ (ys.length : Int) := by omega
  have h3 : ¬ ((ys.length : Int) < 2) := by omega
  have h4 : (2 : Int) ≤ (c : Int) := by omega
  have hmk : many < 65536 := by
    have := numB_lt 2 (ys.take 2) (by rw [List.length_take]; omega)
    omega
  have hne : ((ys.length : Int) == 2 + 9 * (many : Int)) = false := by simp; omega
  have RD := Lib.hid (show Bs w1 (some ⟨g, o, none⟩) 2 (ys.take 2) from by have := HX.out.part_ 0 2 (by omega); simpa using this)
  clear hw1 c1 b1 h hs
  rcases hV with ⟨hv, rfl⟩ | ⟨hv, rfl⟩
  · have hlt : (ys.length : Int) < 2 + 9 * (many : Int) := by omega
    clear hv hl
    go_enter Tryz.func81, Tryz.ntmps81
    go_wp2_with fail
    rw [← W1.out]
    refine (panumber_any _ _ 2 _ (ys.take 2) RD.out (by rw [List.length_take]; omega)).mono ?_
    rintro e w2 ⟨rfl, hcc⟩
    rw [← hm]
    clear hm
    have C2 := Lib.hid (C1.out.trans hcc)
    have F2 := Lib.hid (hcc.at_ F1.out (by simp))
    clear hcc W1 C1 F1 HX RD
    generalize hs0 : w.heap.size = s0 at *
    have HS0 := Lib.hid (Nat.le_of_eq hs0)
    clear hs0
    have hb := F2.out
    have z0 := cell_of hb 0
    have z1 := cell_of hb 1
    have f0 := free_of hb 0
    have f1 := free_of hb 1
    simp only [List.getElem?_toArray, List.getElem?_cons_succ, List.getElem?_cons_zero] at z0 z1
    have e0 := heap_setCell_same _ s0 0 _ _ (.int .i64 4) hb
    have e1 := heap_setCell_same _ s0 1 _ _ (.int .i64 ys.length) e0
    have HE : Hid (((w2.setCell ⟨s0, 0, none⟩ (.int .i64 4)).setCell ⟨s0, 1, none⟩ (.int .i64 ys.length)).heap[s0]? = some (.cells #[.int .i64 4, .int .i64 ys.length] 44 (0, 0))) := Lib.hid (by simpa using e1)
    have CW := Lib.hid (Chg.put (Chg.put C2.out HS0.out 0 (.int .i64 4)) HS0.out 1 (.int .i64 ys.length))
    clear hb e0 e1
    go_wp2
    try simp only [show min (ys.length : Int) (2 + 9 * (many : Int)) = (ys.length : Int) by omega]
    generalize (w2.setCell ⟨s0, 0, none⟩ (.int .i64 4)).setCell ⟨s0, 1, none⟩ (.int .i64 ys.length) = W at *
    clear z0 z1 f0 f1
    have z0 := cell_of HE.out 0
    have z1 := cell_of HE.out 1
    simp only [List.getElem?_toArray, List.getElem?_cons_succ, List.getElem?_cons_zero] at z0 z1
    refine bodyPost_ret (v := .tuple #[.slice none 0 0, .agg #[.int .i64 4, .int .i64 ys.length]]) (by simp [results, Tryz.results81, go_sem, z0, z1]) rfl ?_
    exact ⟨none, 0, rfl, OwnK.none_ _, by simp, CW.out⟩
  · have hlt : ¬ (ys.length : Int) < 2 + 9 * (many : Int) := by omega
    have hlt2 : 2 + 9 * (many : Int) < (ys.length : Int) := by omega
    have hlt3 : 2 + 9 * (many : Int) ≤ (ys.length : Int) := by omega
    clear hv hl
    go_enter Tryz.func81, Tryz.ntmps81
    go_wp2_with fail
    rw [← W1.out]
    refine (panumber_any _ _ 2 _ (ys.take 2) RD.out (by rw [List.length_take]; omega)).mono ?_
    rintro e w2 ⟨rfl, hcc⟩
    rw [← hm]
    clear hm
    have C2 := Lib.hid (C1.out.trans hcc)
    have F2 := Lib.hid (hcc.at_ F1.out (by simp))
    clear hcc W1 C1 F1 HX RD
    generalize hs0 : w.heap.size = s0 at *
    have HS0 := Lib.hid (Nat.le_of_eq hs0)
    clear hs0
    have hb := F2.out
    have z0 := cell_of hb 0
    have z1 := cell_of hb 1
    have f0 := free_of hb 0
    have f1 := free_of hb 1
    simp only [List.getElem?_toArray, List.getElem?_cons_succ, List.getElem?_cons_zero] at z0 z1
    have e0 := heap_setCell_same _ s0 0 _ _ (.int .i64 4) hb
    have e1 := heap_setCell_same _ s0 1 _ _ (.int .i64 (2 + 9 * (many : Int))) e0
    have HE : Hid (((w2.setCell ⟨s0, 0, none⟩ (.int .i64 4)).setCell ⟨s0, 1, none⟩ (.int .i64 (2 + 9 * (many : Int)))).heap[s0]? = some (.cells #[.int .i64 4, .int .i64 (2 + 9 * (many : Int))] 44 (0, 0))) := Lib.hid (by simpa using e1)
    have CW := Lib.hid (Chg.put (Chg.put C2.out HS0.out 0 (.int .i64 4)) HS0.out 1 (.int .i64 (2 + 9 * (many : Int))))
    clear hb e0 e1
    go_wp2
    try simp only [show min (ys.length : Int) (2 + 9 * (many : Int)) = 2 + 9 * (many : Int) by omega]
    generalize (w2.setCell ⟨s0, 0, none⟩ (.int .i64 4)).setCell ⟨s0, 1, none⟩ (.int .i64 (2 + 9 * (many : Int))) = W at *
    clear z0 z1 f0 f1
    have z0 := cell_of HE.out 0
    have z1 := cell_of HE.out 1
    simp only [List.getElem?_toArray, List.getElem?_cons_succ, List.getElem?_cons_zero] at z0 z1
    refine bodyPost_ret (v := .tuple #[.slice none 0 0, .agg #[.int .i64 4, .int .i64 (2 + 9 * (many : Int))]]) (by simp [results, Tryz.results81, go_sem, z0, z1]) rfl ?_
    exact ⟨none, 0, rfl, OwnK.none_ _, by simp, CW.out⟩

theorem paread_any (w : World) (A : Option Addr) (n c : Nat) (ys : List UInt8) (h : Bs w A n ys) (hn : n ≤ 140737488351232) (hc : n ≤ c) (hc2 : c ≤ 9223372036854775807) :
    Calls Tryz.prog 81 #[.slice A n c] w fun e w' => ∃ A' c', e = .returned (.tuple #[.slice A' (readS ys).1.length c', .agg #[.int .i64 (readS ys).2.1, .int .i64 (readS ys).2.2]]) ∧ OwnK spanTy w' A' c' (readS ys).1 ∧ (∀ a, A' = some a → w.heap.size ≤ a.block) ∧ Chg [] w w' := by
  have hl := h.len
  by_cases h2 : ys.length < 2
  · exact paread_short w A n c ys h h2
  obtain ⟨g, o, rfl⟩ := h.base (by omega)
  by_cases h3 : ys.length = 2 + 9 * numB (ys.take 2)
  · rcases readS_fine h2 h3 with ⟨hk, e⟩ | ⟨hk, e⟩ <;> rw [e]
    · exact paread_loop w g o n c ys h hn hc hc2 _ rfl h3 _ _ (.inl ⟨hk, rfl, rfl⟩)
    · exact paread_loop w g o n c ys h hn hc hc2 _ rfl h3 _ _ (.inr ⟨hk, rfl, rfl⟩)
  · rw [readS_odd h2 h3]
    refine paread_odd w g o n c ys h hn hc hc2 h2 _ rfl h3 _ ?_
    by_cases h4 : ys.length < 2 + 9 * numB (ys.take 2)
    · exact .inl ⟨h4, if_pos h4⟩
    · exact .inr ⟨by omega, if_neg h4⟩
end
section
open Go.RowKit Go.Lib
set_option linter.unusedSimpArgs false
set_option linter.unusedVariables false
end
section
open Go.RowKit Go.Lib
set_option linter.unusedSimpArgs false
set_option linter.unusedVariables false
end
section
open Go.RowKit Go.Lib
set_option linter.unusedSimpArgs false
set_option linter.unusedVariables false
end
section
open Go.RowKit Go.Lib
set_option linter.unusedSimpArgs false
set_option linter.unusedVariables false


/-- The document's: the greatest of a node's ends. -/
def lastM (node : Int) (xs : List Sp) : Int := xs.foldl (fun n x => if x.1 = node then max n x.2.2 else n) 0
theorem lastM_take {node : Int} {xs : List Sp} {k : Nat} {x : Sp} (hx : xs[k]? = some x) : lastM node (xs.take (k + 1)) = if x.1 = node then max (lastM node (xs.take k)) x.2.2 else lastM node (xs.take k) := by
  rw [List.take_add_one, hx]; simp [lastM]
theorem last_same (node : Int) : ∀ (k : Nat) (xs : List Sp), WfC xs → lastM node (xs.take k) = lastL node (xs.take k) ∧ (lastL node (xs.take k) = 0 ∨ ∃ y ∈ xs.take k, y.1 = node ∧ y.2.2 = lastL node (xs.take k))
  | 0, xs, _ => by simp [lastM, lastL]
  | k + 1, xs, h => by
    obtain ⟨a, b⟩ := last_same node k xs h
    by_cases hk : k < xs.length
    · have hx := List.getElem?_eq_getElem hk
      have e1 : lastL node (xs.take (k + 1)) = if xs[k].1 = node then xs[k].2.2 else lastL node (xs.take k) := by rw [List.take_add_one, hx]; exact last_snoc _ _ _
      rw [lastM_take hx, e1, a]
      have mem : ∀ y ∈ xs.take k, y ∈ xs.take (k + 1) := fun y hy => by rw [List.take_add_one]; exact List.mem_append_left _ hy
      split
      · rename_i hn
        have bx := h.2 xs[k] (List.getElem_mem hk)
        have ox := h.1.1 xs[k] (List.getElem_mem hk)
        unfold SpOk at ox
        have le : lastL node (xs.take k) ≤ xs[k].2.2 := by
          rcases b with e | ⟨y, hy, hy1, hy2⟩
          · rw [e]; omega
          · obtain ⟨q, hq, rfl⟩ := List.getElem_of_mem hy
            rw [List.length_take] at hq
            rw [List.getElem_take] at hy1 hy2
            have hap := List.pairwise_iff_getElem.1 h.1.2 q k (by omega) hk (by omega)
            have oy := h.1.1 xs[q] (List.getElem_mem (by omega))
            rw [← hy2]
            unfold Ap SpOk at *
            omega
        exact ⟨by omega, .inr ⟨xs[k], List.mem_of_getElem? (i := k) (by rw [List.getElem?_take, if_pos (Nat.lt_succ_self k)]; exact hx), hn, rfl⟩⟩
      · refine ⟨rfl, ?_⟩
        rcases b with e | ⟨y, hy, hy1, hy2⟩
        · exact .inl e
        · exact .inr ⟨y, mem y hy, hy1, hy2⟩
    · rw [List.take_of_length_le (by omega : xs.length ≤ k + 1), ← List.take_of_length_le (by omega : xs.length ≤ k)]
      exact ⟨a, b⟩
theorem last_all (node : Int) {xs : List Sp} (h : WfC xs) : lastM node xs = lastL node xs := by
  have := (last_same node xs.length xs h).1
  rwa [List.take_length] at this
set_option maxRecDepth 100000 in
set_option maxHeartbeats 8000000 in
theorem qlast_any (w : World) (A : Option Addr) (c : Nat) (xs : List Sp) (node : Int) (h : RdK spanTy w A xs.length xs) (hn : xs.length ≤ 140737488351232) :
    Calls Tryz.prog 67 #[.slice A xs.length c, .int .i64 node] w fun e w' => e = .returned (.int .i64 (if chkS xs = 0 then lastL node xs else 0)) ∧ Chg [] w w' := by
  have HX := Lib.hid h
  have HN := Lib.hid hn
  clear h hn
  rcases chk_two xs with e1 | e1
  · rw [if_pos e1]
    have WF := Lib.hid (wf_of_chk e1)
    go_enter Tryz.func67, Tryz.ntmps67
    go_wp2_with fail
    refine (qacheck_any w A _ c xs HX.out HN.out).mono ?_
    rintro e w1 ⟨rfl, h1⟩
    rw [e1]
    have C1 := Lib.hid h1
    replace HX := Lib.hid (HX.out.chg h1 (by simp))
    clear h1 e1
    go_wp2
    go_loopw [5, 6] (fun v5 v6 wr => ∃ (k : Nat), k ≤ xs.length ∧ v5 = .int .i64 (lastM node (xs.take k)) ∧ v6 = .int .i64 k ∧ Hid (Chg [] w1 wr)) (fun _ v6 _ => xs.length - (RowKit.intOf v6).toNat)
    case atStart => exact ⟨0, Nat.zero_le _, rfl, rfl, Chg.refl _ _⟩
    case round =>
      obtain ⟨k, hk, rfl, rfl, HI⟩ := hrel
      have i0 : (0 : Int) ≤ (k : Int) := by omega
      by_cases hlt : k < xs.length
      · have i1 : (k : Int) < (xs.length : Int) := by omega
        have i3 : IntKind.i64.wrap ((k : Int) + 1) = (k : Int) + 1 := IntWalk.i64_in _ (by have := HN.out; omega)
        obtain ⟨x, hx⟩ : ∃ x, xs[k]? = some x := ⟨_, List.getElem?_eq_getElem hlt⟩
        obtain ⟨g, o, eA, _⟩ := HX.out.line (by omega)
        subst eA
        obtain ⟨q0, q1, q2⟩ := spanCells (HX.out.chg HI.out (by simp)) hx
        have E2 := Lib.hid (lastM_take (node := node) hx)
        generalize lastM node (xs.take k) = m at *
        clear hx
        by_cases hnode : x.1 = node
        · have EQ := Lib.hid (show lastM node (xs.take (k + 1)) = max m x.2.2 by rw [E2.out, if_pos hnode])
          have q : ((x.1 == node) : Bool) = true := by simpa using hnode
          clear hnode E2
          go_wp2
          all_goals
            go_round
            case rel => exact ⟨k + 1, by omega, by (rw [EQ.out]) <;> (congr 1) <;> omega, by go_num, HI.out⟩
            case measure => simp [RowKit.intOf]; omega
        · have EQ := Lib.hid (show lastM node (xs.take (k + 1)) = m by rw [E2.out, if_neg hnode])
          have q : ((x.1 == node) : Bool) = false := by simpa using hnode
          clear hnode E2
          go_wp2
          go_round
          case rel => exact ⟨k + 1, by omega, by rw [EQ.out], by go_num, HI.out⟩
          case measure => simp [RowKit.intOf]; omega
      · obtain rfl : k = xs.length := by omega
        rw [show xs.take xs.length = xs from List.take_length, last_all node WF.out.1]
        have i1 : ¬ (xs.length : Int) < (xs.length : Int) := by omega
        go_wp2
        go_ret
        exact ⟨rfl, C1.out.trans HI.out⟩
  · rw [if_neg (by omega)]
    go_enter Tryz.func67, Tryz.ntmps67
    go_wp2_with fail
    refine (qacheck_any w A _ c xs HX.out HN.out).mono ?_
    rintro e w1 ⟨rfl, h1⟩
    rw [e1]
    have C1 := Lib.hid h1
    clear h1
    go_wp2
    go_ret
    exact ⟨rfl, C1.out⟩
end
section
open Go.RowKit Go.Lib
set_option linter.unusedSimpArgs false
set_option linter.unusedVariables false
end
section
open Go.RowKit Go.Lib
set_option linter.unusedSimpArgs false
set_option linter.unusedVariables false


def FineQ (n s : Int) : Prop := 1 ≤ n ∧ n ≤ 200 ∧ 1 ≤ s ∧ s ≤ 2147483647
instance (n s : Int) : Decidable (FineQ n s) := by unfold FineQ; exact inferInstance
theorem chk_dot (n s : Int) : chkS [(n, s, s)] = if FineQ n s then 0 else 2 := by
  by_cases h : FineQ n s
  · rw [if_pos h]
    unfold FineQ at h
    refine chk_of_wf ⟨⟨fun x hx => ?_, List.pairwise_singleton _ _⟩, fun x hx => ?_⟩ (by simp)
    · cases List.mem_singleton.1 hx; unfold SpOk; simp
    · cases List.mem_singleton.1 hx; simp only; omega
  · rw [if_neg h]
    rcases chk_two [(n, s, s)] with e | e
    · have w := (wf_of_chk e).1.2 (n, s, s) (by simp)
      simp only at w
      exact absurd (by unfold FineQ; omega) h
    · exact e
set_option maxRecDepth 100000 in
set_option maxHeartbeats 4000000 in
theorem hcheck_dot (w : World) (n s : Int) : Calls Tryz.prog 63 #[.agg #[.int .i64 n, .int .i64 s]] w fun e w' => e = .returned (.int .i64 (chkS [(n, s, s)])) ∧ Chg [] w w' := by
  have go : ∀ v, chkS [(n, s, s)] = v → Calls Tryz.prog 63 #[.agg #[.int .i64 n, .int .i64 s]] w (fun e w' => e = .returned (.int .i64 v) ∧ Chg [] w w') → Calls Tryz.prog 63 #[.agg #[.int .i64 n, .int .i64 s]] w fun e w' => e = .returned (.int .i64 (chkS [(n, s, s)])) ∧ Chg [] w w' := fun v e h => by rw [e]; exact h
  have CD := chk_dot n s
  obtain ⟨w1, hw1, c1, b0⟩ := news1 w (.cells #[.int .i64 n, .int .i64 s] 23)
  have W1 := Lib.hid hw1
  have C1 := Lib.hid c1
  have z0 := cell_of b0 0
  have z1 := cell_of b0 1
  simp only [List.getElem?_toArray, List.getElem?_cons_succ, List.getElem?_cons_zero] at z0 z1
  clear hw1 c1 b0
  by_cases h1 : n < 1
  · skip
    refine go 2 (by rw [CD, if_neg (by unfold FineQ; omega)]) ?_
    clear go CD
    go_enter Tryz.func63, Tryz.ntmps63
    go_upto_region 1 with fail
    rw [← W1.out]
    generalize w.heap.size = g0 at *
    go_wp2
    go_ret
    exact ⟨rfl, C1.out⟩
  by_cases h2 : 200 < n
  · skip
    refine go 2 (by rw [CD, if_neg (by unfold FineQ; omega)]) ?_
    clear go CD
    go_enter Tryz.func63, Tryz.ntmps63
    go_upto_region 1 with fail
    rw [← W1.out]
    generalize w.heap.size = g0 at *
    go_wp2
    go_ret
    exact ⟨rfl, C1.out⟩
  by_cases h3 : s < 1
  · skip
    refine go 2 (by rw [CD, if_neg (by unfold FineQ; omega)]) ?_
    clear go CD
    go_enter Tryz.func63, Tryz.ntmps63
    go_upto_region 1 with fail
    rw [← W1.out]
    generalize w.heap.size = g0 at *
    go_wp2
    go_ret
    exact ⟨rfl, C1.out⟩
  by_cases h4 : 2147483647 < s
  · skip
    refine go 2 (by rw [CD, if_neg (by unfold FineQ; omega)]) ?_
    clear go CD
    go_enter Tryz.func63, Tryz.ntmps63
    go_upto_region 1 with fail
    rw [← W1.out]
    generalize w.heap.size = g0 at *
    go_wp2
    go_ret
    exact ⟨rfl, C1.out⟩
  refine go 0 (by rw [CD, if_pos (by unfold FineQ; omega)]) ?_
  clear go CD
  go_enter Tryz.func63, Tryz.ntmps63
  go_upto_region 1 with fail
  rw [← W1.out]
  generalize w.heap.size = g0 at *
  go_wp2
  go_ret
  exact ⟨rfl, C1.out⟩
end
section
set_option linter.unusedSimpArgs false
set_option linter.unusedVariables false
/-- The errno, and the past that is told. -/
def boundP (l : List Sp) : Int × List Sp := if 4000 < l.length then (8, []) else (0, l)
def joinE (a b : List Sp) : Int × List Sp := if chkS a = 0 ∧ chkS b = 0 then boundP (tidyS (a ++ b)) else (2, [])
end
section
open Go.RowKit Go.Lib
set_option linter.unusedSimpArgs false
set_option linter.unusedVariables false
end
section
open Go.RowKit Go.Lib
set_option linter.unusedSimpArgs false
set_option linter.unusedVariables false
end
section
open Go.RowKit Go.Lib
set_option linter.unusedSimpArgs false
set_option linter.unusedVariables false
end
end Go.Proofs.YtgbidlhgmeglmaaGreatDoor
