/- The document's Check of a past. Package past: Bytes; the document's. The document's Bytes of a past. The program's Bytes of a past. The numbers of bytes: the program's, the document's. The document's four. The program's Read of a past. The walk of past.Read. past.Read of all bytes. The reader of package wire: Open, and what tells without reading. The reader's number: what it tells, and what is wrong. The reader's number where no digit follows. The reader's number where digits follow. -/
import Derived.Test.YtgafkaigkaghcaaGreatDoorZeab
import Derived.Deep.Cut
import Derived.Deep.QuietTactic
import Derived.BigQuiet
import Derived.Test.YtgafkaigkaghcaaGreatDoorZeaa
import Derived.Laws.MakeOwn
import Derived.Deep.RegionHeld3
import Derived.ScopeJumps
namespace Go.Proofs.YtgafkaigkaghcaaGreatDoor
section
open Go.RowKit Go.Lib
set_option linter.unusedSimpArgs false
set_option linter.unusedVariables false



set_option maxHeartbeats 8000000 in
set_option maxRecDepth 100000 in
theorem qacheck_any (w : World) (A : Option Addr) (n c : Nat) (xs : List (Int × Int × Int)) (h : RdK spanTy w A n xs) (hn : n ≤ 140737488351232) : Calls Tryz.prog 46 #[.slice A n c] w fun e w' => e = .returned (.int .i64 (chkS xs)) ∧ Chg [] w w' := by
  have go : ∀ v, chkS xs = v → Calls Tryz.prog 46 #[.slice A n c] w (fun e w' => e = .returned (.int .i64 v) ∧ Chg [] w w') → Calls Tryz.prog 46 #[.slice A n c] w fun e w' => e = .returned (.int .i64 (chkS xs)) ∧ Chg [] w w' := fun v hv h => hv ▸ h
  have hl := h.len
  subst hl
  by_cases hbig : 4000 < xs.length
  · refine go 2 (if_neg (by omega)) ?_
    clear go h
    go_enter Tryz.func46, Tryz.ntmps46
    go_wp2
    go_ret
    exact ⟨rfl, Chg.refl _ _⟩
  · skip
    have HX := Lib.hid h
    have hV : chkS xs = if okFrom none xs = true then 0 else 2 := by unfold chkS; by_cases ho : okFrom none xs = true <;> simp [ho] <;> omega
    have HV := Lib.hid hV
    clear h go
    generalize chkS xs = V at *
    clear hV
    go_enter Tryz.func46, Tryz.ntmps46
    go_wp2
    go_loopw [3] (fun i wr => ∃ (k : Nat), k ≤ xs.length ∧ i = .int .i64 k ∧ Hid (Chg [] w wr ∧ okFrom none xs = okFrom (prevS xs k) (xs.drop k) ∧ ∀ y, prevS xs k = some y → FineS y.1 y.2.1 y.2.2)) (fun i _ => xs.length - (RowKit.intOf i).toNat)
    case atStart => exact ⟨0, Nat.zero_le _, rfl, Chg.refl _ _, rfl, by unfold prevS; simp⟩
    case round =>
      obtain ⟨k, hk, rfl, HI⟩ := hrel
      generalize wr = w1 at *
      clear wr
      by_cases hlt : k < xs.length
      · skip
        obtain ⟨g, o, eA, _⟩ := HX.out.line (by omega)
        subst eA
        have ex := List.getElem?_eq_getElem hlt
        generalize xs[k] = x at *
        have EX := Lib.hid ex
        have hok := okFrom_next xs k x ex
        have HOK := Lib.hid (HI.out.2.1.trans hok)
        clear ex hok
        have i0 : (0 : Int) ≤ (k : Int) := by omega
        have i1 : (k : Int) < (xs.length : Int) := by omega
        have hcc := spanCells (HX.out.chg HI.out.1 (by simp)) EX.out
        obtain ⟨p0, p1, p2⟩ := hcc
        have CW := Lib.hid HI.out.1
        obtain ⟨w2, hw2, cw2, b_B0⟩ := news1 w1 (.cells #[.int .i64 x.1, .int .i64 x.2.1, .int .i64 x.2.2] 78)
        have Ww2 := Lib.hid hw2
        have l_B0 := lt_of_heap b_B0
        replace CW := Lib.hid (CW.out.trans cw2)
        have B0 := Lib.hid (b_B0)
        clear hw2 cw2 b_B0
        go_upto_region 7 with fail
        rw [← Ww2.out]
        generalize w1.heap.size = b at *
        clear Ww2
        clear p0 p1 p2
        have z_B0_0 := cell_of B0.out 0
        have z_B0_1 := cell_of B0.out 1
        have z_B0_2 := cell_of B0.out 2
        simp only [List.getElem?_toArray, List.getElem?_cons_succ, List.getElem?_cons_zero] at z_B0_0 z_B0_1 z_B0_2
        by_cases f1 : x.1 < 1
        · have hd : decide (FineS x.1 x.2.1 x.2.2) = false := decide_eq_false (by unfold FineS; omega)
          have hv2 : ¬ okFrom none xs = true := by rw [HOK.out, hd]; simp
          have HV2 : V = 2 := HV.out.trans (if_neg hv2)
          subst HV2
          clear hv2 hd
          go_wp2
          go_ret
          exact ⟨rfl, CW.out⟩
        by_cases f2 : 200 < x.1
        · have hd : decide (FineS x.1 x.2.1 x.2.2) = false := decide_eq_false (by unfold FineS; omega)
          have hv2 : ¬ okFrom none xs = true := by rw [HOK.out, hd]; simp
          have HV2 : V = 2 := HV.out.trans (if_neg hv2)
          subst HV2
          clear hv2 hd
          go_wp2
          go_ret
          exact ⟨rfl, CW.out⟩
        by_cases f3 : x.2.1 < 1
        · have hd : decide (FineS x.1 x.2.1 x.2.2) = false := decide_eq_false (by unfold FineS; omega)
          have hv2 : ¬ okFrom none xs = true := by rw [HOK.out, hd]; simp
          have HV2 : V = 2 := HV.out.trans (if_neg hv2)
          subst HV2
          clear hv2 hd
          go_wp2
          go_ret
          exact ⟨rfl, CW.out⟩
        by_cases f4 : x.2.2 < x.2.1
        · have hd : decide (FineS x.1 x.2.1 x.2.2) = false := decide_eq_false (by unfold FineS; omega)
          have hv2 : ¬ okFrom none xs = true := by rw [HOK.out, hd]; simp
          have HV2 : V = 2 := HV.out.trans (if_neg hv2)
          subst HV2
          clear hv2 hd
          go_wp2
          go_ret
          exact ⟨rfl, CW.out⟩
        by_cases f5 : 2147483647 < x.2.2
        · have hd : decide (FineS x.1 x.2.1 x.2.2) = false := decide_eq_false (by unfold FineS; omega)
          have hv2 : ¬ okFrom none xs = true := by rw [HOK.out, hd]; simp
          have HV2 : V = 2 := HV.out.trans (if_neg hv2)
          subst HV2
          clear hv2 hd
          go_wp2
          go_ret
          exact ⟨rfl, CW.out⟩
        have hf : FineS x.1 x.2.1 x.2.2 := by unfold FineS; omega
        have HFN := Lib.hid hf
        have hd := decide_eq_true hf
        rw [hd] at HOK
        clear hd hf
        go_upto_region 9 with fail
        by_cases h0 : k = 0
        · subst h0
          go_quiet (fail)
          have e1 : prevS xs (0 + 1) = some x := by unfold prevS; rw [if_neg (by omega)]; exact EX.out
          have CE := Lib.hid (CW.out.drewN nq)
          go_wp2
          go_round
          case rel =>
            refine ⟨0 + 1, by omega, by go_num, CE.out, ?_, ?_⟩
            · rw [HOK.out]; simp [prevS]
            · rw [e1]; rintro y ⟨⟩; exact HFN.out
          case measure => simp [RowKit.intOf]; omega
        · have hk1 : k - 1 < xs.length := by omega
          have ey := List.getElem?_eq_getElem hk1
          generalize xs[k - 1] = y at *
          have ep : prevS xs k = some y := by unfold prevS; rw [if_neg h0]; exact ey
          have EY := Lib.hid ey
          have hfy := HI.out.2.2 y ep
          unfold FineS at hfy
          rw [ep] at HOK
          dsimp only at HOK
          clear ey ep
          have hcc := spanCells (HX.out.chg CW.out (by simp)) EY.out
          obtain ⟨p0, p1, p2⟩ := hcc
          have hk2 : ((k : Int) - 1) = ((k - 1 : Nat) : Int) := by omega
          have hk4 : ((k - 1 : Nat) : Int) < (xs.length : Int) := by omega
          have hk5 : (0 : Int) ≤ ((k - 1 : Nat) : Int) := by omega
          have hk6 : IntKind.i64.wrap ((k - 1 : Nat) : Int) = ((k - 1 : Nat) : Int) := IntWalk.i64_in _ (by omega)
          have hk7 : decide (0 < k) = true := by simp; omega
          have hk8 : IntKind.i64.wrap (y.2.2 + 1) = y.2.2 + 1 := IntWalk.i64_in _ (by omega)
          clear hfy
          by_cases g1 : x.1 < y.1
          · skip
            have hA : decide (ApartS y.1 y.2.2 x.1 x.2.1) = false := decide_eq_false (by unfold ApartS; omega)
            rw [hA] at HOK
            clear hA
            go_quiet (fail)
            have hv2 : ¬ okFrom none xs = true := by rw [HOK.out]; simp
            have HV2 : V = 2 := HV.out.trans (if_neg hv2)
            subst HV2
            clear hv2
            have CE := Lib.hid (CW.out.drewN nq)
            go_wp2
            go_ret
            exact ⟨rfl, CE.out⟩
          by_cases g2 : x.1 = y.1
          rotate_left
          · skip
            have hA : decide (ApartS y.1 y.2.2 x.1 x.2.1) = true := decide_eq_true (by unfold ApartS; omega)
            rw [hA] at HOK
            clear hA
            go_quiet (fail)
            have e1 : prevS xs (k + 1) = some x := by unfold prevS; rw [if_neg (by omega)]; exact EX.out
            have CE := Lib.hid (CW.out.drewN nq)
            go_wp2
            go_round
            case rel =>
              refine ⟨k + 1, by omega, by go_num, CE.out, ?_, ?_⟩
              · rw [HOK.out]; simp [e1]
              · rw [e1]; rintro y ⟨⟩; exact HFN.out
            case measure => simp [RowKit.intOf]; omega
          by_cases g3 : x.2.1 ≤ y.2.2 + 1
          · skip
            have hA : decide (ApartS y.1 y.2.2 x.1 x.2.1) = false := decide_eq_false (by unfold ApartS; omega)
            rw [hA] at HOK
            clear hA
            go_quiet (fail)
            have hv2 : ¬ okFrom none xs = true := by rw [HOK.out]; simp
            have HV2 : V = 2 := HV.out.trans (if_neg hv2)
            subst HV2
            clear hv2
            have CE := Lib.hid (CW.out.drewN nq)
            go_wp2
            go_ret
            exact ⟨rfl, CE.out⟩
          · skip
            have hA : decide (ApartS y.1 y.2.2 x.1 x.2.1) = true := decide_eq_true (by unfold ApartS; omega)
            rw [hA] at HOK
            clear hA
            go_quiet (fail)
            have e1 : prevS xs (k + 1) = some x := by unfold prevS; rw [if_neg (by omega)]; exact EX.out
            have CE := Lib.hid (CW.out.drewN nq)
            go_wp2
            go_round
            case rel =>
              refine ⟨k + 1, by omega, by go_num, CE.out, ?_, ?_⟩
              · rw [HOK.out]; simp [e1]
              · rw [e1]; rintro y ⟨⟩; exact HFN.out
            case measure => simp [RowKit.intOf]; omega
      · obtain rfl : k = xs.length := by omega
        have hv := HI.out.2.1
        rw [List.drop_length] at hv
        have hv2 : okFrom none xs = true := by rw [hv]; cases prevS xs xs.length <;> rfl
        have HV2 : V = 0 := HV.out.trans (if_pos hv2)
        subst HV2
        clear hv hv2
        go_wp2
        go_ret
        exact ⟨rfl, HI.out.1⟩
end
section
open Go.RowKit Go.Lib
set_option linter.unusedSimpArgs false
set_option linter.unusedVariables false

/-- A span's bytes. -/
def spanB (x : Int × Int × Int) : List UInt8 := UInt8.ofNat x.1.toNat :: (be 4 x.2.1.toNat ++ be 4 x.2.2.toNat)
theorem spanB_len (x : Int × Int × Int) : (spanB x).length = 9 := by simp [spanB, be_len]
/-- A past's bytes. -/
def spansB (xs : List (Int × Int × Int)) : List UInt8 := UInt8.ofNat (xs.length / 256) :: UInt8.ofNat xs.length :: xs.flatMap spanB
theorem four_cells {n : Int} (h0 : 0 ≤ n) (h1 : n ≤ 2147483647) : [Value.int .u8 (n / 16777216 % 256), Value.int .u8 (n / 65536 % 256), Value.int .u8 (n / 256 % 256), Value.int .u8 (n % 256)] = (be 4 n.toNat).map bv := by
  have e : ∀ a b : Int, a = b → Value.int .u8 a = Value.int .u8 b := fun _ _ h => by rw [h]
  simp only [be, List.map_cons, List.map_nil, bv, UInt8.toNat_ofNat']
  rw [e (n / 16777216 % 256) _ (show n / 16777216 % 256 = ((n.toNat / 256 ^ 3 % 2 ^ 8 : Nat) : Int) by omega), e (n / 65536 % 256) _ (show n / 65536 % 256 = ((n.toNat / 256 ^ 2 % 2 ^ 8 : Nat) : Int) by omega),
    e (n / 256 % 256) _ (show n / 256 % 256 = ((n.toNat / 256 ^ 1 % 2 ^ 8 : Nat) : Int) by omega), e (n % 256) _ (show n % 256 = ((n.toNat / 256 ^ 0 % 2 ^ 8 : Nat) : Int) by omega)]
theorem Bs.row {w : World} {g : Nat} {ys : List UInt8} (h : w.heap[g]? = some (.cells (ys.map bv).toArray 5 (0, 0))) (hl : ys.length ≤ maxLen) : Bs w (some ⟨g, 0, none⟩) ys.length ys :=
  (OwnB.of (full := ys) (c := ys.length) h (Nat.le_refl _) hl rfl (List.take_length)).reads
theorem pafour_any (w : World) (n : Int) (h0 : 0 ≤ n) (h1 : n ≤ 2147483647) :
    Calls Tryz.prog 67 #[.int .i64 n] w fun e w' => e = .returned (.slice (some ⟨w.heap.size, 0, none⟩) 4 4) ∧ Bs w' (some ⟨w.heap.size, 0, none⟩) 4 (be 4 n.toNat) ∧ Chg [] w w' := by
  have HC := Lib.hid (four_cells h0 h1)
  clear h0 h1
  go_enter Tryz.func67, Tryz.ntmps67
  go_wp2
  go_ret
  refine ⟨rfl, ?_, (Chg.refl _ _).alloc _⟩
  have := Bs.row (ys := be 4 n.toNat) (w := w.alloc (.cells ((be 4 n.toNat).map bv).toArray 5)) (g := w.heap.size) (heap_alloc_new w _) (by rw [be_len]; decide)
  rw [be_len] at this
  have e := HC.out
  rw [← e] at this
  exact this
end
section
open Go.RowKit Go.Lib
set_option linter.unusedSimpArgs false
set_option linter.unusedVariables false

theorem okFrom_fine : ∀ (p : Option (Int × Int × Int)) (xs : List (Int × Int × Int)), okFrom p xs = true → ∀ x ∈ xs, FineS x.1 x.2.1 x.2.2
  | _, [], _, x, hx => by simp at hx
  | none, y :: l, h, x, hx => by
    simp only [okFrom, Bool.and_eq_true, decide_eq_true_eq] at h
    rcases List.mem_cons.1 hx with rfl | hx
    · exact h.1
    · exact okFrom_fine _ l h.2 x hx
  | some _, y :: l, h, x, hx => by
    simp only [okFrom, Bool.and_eq_true, decide_eq_true_eq] at h
    rcases List.mem_cons.1 hx with rfl | hx
    · exact h.1.1
    · exact okFrom_fine _ l h.2 x hx
theorem chkS_zero {xs : List (Int × Int × Int)} (h : chkS xs = 0) : xs.length ≤ 4000 ∧ ∀ x ∈ xs, FineS x.1 x.2.1 x.2.2 := by
  unfold chkS at h
  split at h
  · rename_i hc; exact ⟨hc.1, okFrom_fine _ _ hc.2⟩
  · cases h
theorem chkS_odd {xs : List (Int × Int × Int)} (h : chkS xs ≠ 0) : chkS xs = 2 := by
  unfold chkS at h ⊢
  split at h
  · exact absurd rfl h
  · rename_i hc; rw [if_neg hc]
def bytesO (xs : List (Int × Int × Int)) : List UInt8 := if chkS xs = 0 then spansB xs else []
theorem span_cells {x : Int × Int × Int} (h : FineS x.1 x.2.1 x.2.2) : [Value.int .u8 (x.1 % 256), .int .u8 (x.2.1 / 16777216 % 256), .int .u8 (x.2.1 / 65536 % 256), .int .u8 (x.2.1 / 256 % 256), .int .u8 (x.2.1 % 256), .int .u8 (x.2.2 / 16777216 % 256), .int .u8 (x.2.2 / 65536 % 256), .int .u8 (x.2.2 / 256 % 256), .int .u8 (x.2.2 % 256)] = (spanB x).map bv := by
  obtain ⟨h1, h2, h3, h4, h5⟩ := h
  have e1 := four_cells (n := x.2.1) (by omega) (by omega)
  have e2 := four_cells (n := x.2.2) (by omega) (by omega)
  have e0 : Value.int .u8 (x.1 % 256) = bv (UInt8.ofNat x.1.toNat) := by
    unfold bv
    rw [UInt8.toNat_ofNat']
    congr 1
    omega
  rw [spanB, List.map_cons, List.map_append, ← e1, ← e2, e0]
  rfl
/-- The first two bytes: how many spans. -/
def headB (n : Nat) : List UInt8 := [UInt8.ofNat (n / 256), UInt8.ofNat n]
theorem head_cells {n : Nat} (h : n ≤ 4000) : [Value.int .u8 ((n : Int) / 256), Value.int .u8 ((n : Int) % 256)] = (headB n).map bv := by
  have e : ∀ a b : Int, a = b → Value.int .u8 a = Value.int .u8 b := fun _ _ h => by rw [h]
  simp only [headB, List.map_cons, List.map_nil, bv, UInt8.toNat_ofNat']
  rw [e ((n : Int) / 256) _ (show (n : Int) / 256 = ((n / 256 % 2 ^ 8 : Nat) : Int) by omega), e ((n : Int) % 256) _ (show (n : Int) % 256 = ((n % 2 ^ 8 : Nat) : Int) by omega)]
theorem takeB {xs : List (Int × Int × Int)} {k : Nat} {x : Int × Int × Int} (h : xs[k]? = some x) (hd : List UInt8) : hd ++ (xs.take (k + 1)).flatMap spanB = (hd ++ (xs.take k).flatMap spanB) ++ spanB x := by
  rw [List.take_add_one, h]
  simp
theorem flat_len (l : List (Int × Int × Int)) : (l.flatMap spanB).length = 9 * l.length := by
  induction l with
  | nil => rfl
  | cons x l ih => rw [List.flatMap_cons, List.length_append, spanB_len, ih, List.length_cons]; omega
set_option maxHeartbeats 4000000 in
set_option maxRecDepth 100000 in
theorem qbytes_any (w : World) (A : Option Addr) (n c : Nat) (xs : List (Int × Int × Int)) (h : RdK spanTy w A n xs) (hn : n ≤ 140737488351232) :
    Calls Tryz.prog 41 #[.slice A n c] w fun e w' => ∃ A' c', e = .returned (.tuple #[.slice A' (bytesO xs).length c', .int .i64 (chkS xs)]) ∧ Fresh w w' A' c' (bytesO xs) := by
  have hl := h.len
  subst hl
  have r1 := qacheck_any w A xs.length c xs h hn
  by_cases hk : chkS xs = 0
  · have hx := chkS_zero hk
    rw [hk] at r1
    rw [show bytesO xs = spansB xs by unfold bytesO; rw [if_pos hk], hk]
    have HX := Lib.hid h
    have HF := Lib.hid hx.2
    have hlen := hx.1
    have R1 := Lib.hid r1
    clear h hk hx r1 hn
    go_enter Tryz.func41, Tryz.ntmps41
    go_wp2_with fail
    refine R1.out.mono ?_
    rintro e w1 ⟨rfl, hc⟩
    have C := Lib.hid hc
    clear hc R1
    obtain ⟨w2, hw2, c2, b2⟩ := news1 w1 (.cells #[.int .u8 ((xs.length : Int) / 256), .int .u8 ((xs.length : Int) % 256)] 5)
    go_upto_region 4 with fail
    rw [← hw2]
    have ho : OwnB w2 (some ⟨w1.heap.size, 0, none⟩) 2 (headB xs.length) := by
      refine .of (full := headB xs.length) ?_ (by simp [headB]) (by decide) rfl rfl
      rw [← head_cells hlen]
      exact b2
    have HO := Lib.hid ho
    have CW := Lib.hid (C.out.trans c2)
    have SZ := Lib.hid C.out.size
    clear hw2 c2 b2 ho C
    generalize w1.heap.size = s1 at *
    go_wp2
    go_loopw [4, 5] (fun v4 v5 wr => ∃ (k : Nat) (B : Option Addr) (cc : Nat), k ≤ xs.length ∧ v4 = .slice B (2 + 9 * k) cc ∧ v5 = .int .i64 k ∧ Hid (OwnB wr B cc (headB xs.length ++ (xs.take k).flatMap spanB) ∧ (∀ a, B = some a → w.heap.size ≤ a.block) ∧ Chg [] w wr)) (fun _ v5 _ => xs.length - (RowKit.intOf v5).toNat)
    case atStart => exact ⟨0, some ⟨s1, 0, none⟩, 2, Nat.zero_le _, rfl, rfl, by simpa using HO.out, by rintro a ⟨⟩; exact SZ.out, CW.out⟩
    case round =>
      obtain ⟨k, B, cc, hk, rfl, rfl, HI⟩ := hrel
      generalize wr = w4 at *
      clear wr
      by_cases hlt : k < xs.length
      · obtain ⟨g, o, eA, _⟩ := HX.out.line (by omega)
        subst eA
        have ex := List.getElem?_eq_getElem hlt
        have hfin := HF.out _ (List.getElem_mem hlt)
        generalize xs[k] = x at *
        have EX := Lib.hid ex
        have HS := Lib.hid (span_cells hfin)
        obtain ⟨p0, p1, p2⟩ := spanCells (HX.out.chg HI.out.2.2 (by simp)) ex
        have i0 : (0 : Int) ≤ (k : Int) := by omega
        have i1 : (k : Int) < (xs.length : Int) := by omega
        clear ex hfin
        obtain ⟨w5, hw5, c5, b5⟩ := news1 w4 (.cells #[.int .i64 x.1, .int .i64 x.2.1, .int .i64 x.2.2] 78)
        go_upto_region 8 with fail
        rw [← hw5]
        have z0 := cell_of b5 0
        have z1 := cell_of b5 1
        have z2 := cell_of b5 2
        simp only [List.getElem?_toArray, List.getElem?_cons_succ, List.getElem?_cons_zero] at z0 z1 z2
        have HI5 := Lib.hid c5
        clear hw5 c5 b5 p0 p1 p2
        generalize w4.heap.size = s5 at *
        obtain ⟨w6, hw6, c6, b6⟩ := news1 w5 (.cells #[.int .u8 (x.1 % 256), .int .u8 (x.2.1 / 16777216 % 256), .int .u8 (x.2.1 / 65536 % 256), .int .u8 (x.2.1 / 256 % 256), .int .u8 (x.2.1 % 256), .int .u8 (x.2.2 / 16777216 % 256), .int .u8 (x.2.2 / 65536 % 256), .int .u8 (x.2.2 / 256 % 256), .int .u8 (x.2.2 % 256)] 5)
        have W6 := Lib.hid hw6
        have C6 := Lib.hid (HI5.out.trans c6)
        have LN := Lib.hid (show (headB xs.length ++ (xs.take k).flatMap spanB).length = 2 + 9 * k by rw [List.length_append, flat_len, List.length_take, Nat.min_eq_left hk]; rfl)
        have OW := Lib.hid (HI.out.1.chg C6.out (by simp))
        have RD := Lib.hid (show Bs w6 (some ⟨w5.heap.size, 0, none⟩) 9 (spanB x) by
          have := Bs.row (ys := spanB x) (w := w6) (g := w5.heap.size) (by rw [← HS.out]; exact b6) (by rw [spanB_len]; decide)
          rwa [spanB_len] at this)
        have BD := Lib.hid (show 2 + 9 * k + 9 ≤ 140737488355327 by omega)
        clear hw6 c6 b6
        go_wp2_with (at_builtin; rw [← W6.out]; refine wpList_app rfl _ _ rfl rfl OW.out LN.out rfl RD.out BD.out ?_; intro A2 c2 w7 u2 d2 e2)
        have CE := Lib.hid ((HI.out.2.2.trans C6.out).grown d2 (fun i hi => by
          cases B with
          | none => simp at hi
          | some a => simp at hi; subst hi; exact .inr (HI.out.2.1 a rfl)))
        have HE : Hid (∀ a, A2 = some a → w.heap.size ≤ a.block) := Lib.hid (by
          rcases e2 with rfl | rfl
          · exact HI.out.2.1
          · rintro a ⟨⟩; exact (HI.out.2.2.trans C6.out).size)
        have U2 := Lib.hid u2
        clear u2 d2 e2 z0 z1 z2
        go_wp2
        go_round
        case rel => exact ⟨k + 1, A2, c2, by omega, by congr 1, by go_num, by rw [takeB EX.out]; exact U2.out, HE.out, CE.out⟩
        case measure => simp [RowKit.intOf]; omega
      · obtain rfl : k = xs.length := by omega
        have hb : headB xs.length ++ (xs.take xs.length).flatMap spanB = spansB xs := by rw [List.take_length]; rfl
        have hl2 : (spansB xs).length = 2 + 9 * xs.length := by rw [← hb, List.length_append, flat_len, List.take_length]; rfl
        have HR := HI.out
        rw [hb] at HR
        rw [← hl2] at *
        have HR := Lib.hid HR
        clear hb hl2
        go_wp2
        go_ret2
        exact ⟨B, cc, rfl, HR.out⟩
  · have h2 := chkS_odd hk
    rw [h2] at r1
    rw [show bytesO xs = [] by unfold bytesO; rw [if_neg hk], h2]
    have R1 := Lib.hid r1
    clear h hk r1 hn h2
    go_enter Tryz.func41, Tryz.ntmps41
    go_wp2_with fail
    refine R1.out.mono ?_
    rintro e w1 ⟨rfl, hc⟩
    have C := Lib.hid hc
    clear hc R1
    go_wp2
    go_ret2
    exact ⟨none, 0, rfl, OwnB.none_ _, by simp, C.out⟩
end
section
open Go.RowKit Go.Lib
set_option linter.unusedSimpArgs false
set_option linter.unusedVariables false
/-- So many zeros. -/
def zeroRowP (n : Nat) : Array Value := ((List.replicate n (0 : UInt8)).map bv).toArray
theorem run_mkP (n : Nat) (c : Int) (hc : c = (n : Int)) (h : n ≤ 140737488351232) (w : World) : (Instr.makeSlice 34 (.int .i64 0) (.int .i64 c)).run Tryz.prog w = .ok (.slice (some ⟨w.heap.size, 0, none⟩) 0 n) (w.alloc (.cells (zeroRowP n) 5)) := by
  subst hc
  obtain ⟨i0, hi, hz0, hz1, hz2⟩ := info_parts info8
  have hr := run_make (P := Tryz.prog) w 34 5 i0 (.int .u8 0) Tryz.underlying34 hi hz0 .i64 .i64 0 n (by omega) (by omega) (by rw [hz2]; omega) (by omega)
  rw [hr, hz1, Int.toNat_natCast, Nat.mul_one]
  have e : madeCells (Value.int .u8 0).cells n = zeroRowP n := by
    apply Array.toList_inj.1
    show (madeCells #[.int .u8 0] n).toList = _
    rw [toList_madeCells_one]
    simp [zeroRowP, bv]
  rw [e]
  rfl
theorem OwnB.zeros {w : World} (n : Nat) (h : n ≤ maxLen) : OwnB (w.alloc (.cells (zeroRowP n) 5)) (some ⟨w.heap.size, 0, none⟩) n [] :=
  .of (full := List.replicate n 0) (heap_alloc_new w _) (Nat.zero_le _) h (by simp) rfl
/-- What an append makes of a row of one's own. -/
theorem app_own {w w6 w7 : World} {B A2 : Option Addr} (hB : ∀ a, B = some a → w.heap.size ≤ a.block) (hC : Chg [] w w6) (d2 : w6.grownBy w7 (B.map (·.block))) (e2 : A2 = B ∨ A2 = some ⟨w6.heap.size, 0, none⟩) : (∀ a, A2 = some a → w.heap.size ≤ a.block) ∧ Chg [] w w7 := by
  refine ⟨?_, hC.grown d2 (fun i hi => ?_)⟩
  · rcases e2 with rfl | rfl
    · exact hB
    · rintro a ⟨⟩; exact hC.size
  · cases B with
    | none => simp at hi
    | some a => simp at hi; subst hi; exact .inr (hB a rfl)
theorem Bs.byte {w : World} {g : Nat} {v : Int} {c : UInt8} (hv : Value.int .u8 v = bv c) (h : w.heap[g]? = some (.cells #[.int .u8 v] 5 (0, 0))) : Bs w (some ⟨g, 0, none⟩) 1 [c] := by
  refine Bs.row (ys := [c]) ?_ (show 1 ≤ maxLen by decide)
  rw [h, hv]
  rfl
set_option maxHeartbeats 8000000 in
set_option maxRecDepth 100000 in
theorem pabytes_any (w : World) (A : Option Addr) (n c : Nat) (xs : List (Int × Int × Int)) (h : RdK spanTy w A n xs) (hn : n ≤ 140737488351232) :
    Calls Tryz.prog 36 #[.slice A n c] w fun e w' => ∃ A' c', e = .returned (.tuple #[.slice A' (bytesO xs).length c', .int .i64 (chkS xs)]) ∧ Fresh w w' A' c' (bytesO xs) := by
  have hl := h.len
  subst hl
  have r1 := pacheck_any w A xs.length c xs h hn
  by_cases hk : chkS xs = 0
  · have hx := chkS_zero hk
    rw [hk] at r1
    rw [show bytesO xs = spansB xs by unfold bytesO; rw [if_pos hk], hk]
    have HX := Lib.hid h
    have HF := Lib.hid hx.2
    have hlen := hx.1
    have R1 := Lib.hid r1
    have hmk := fun W => run_mkP (2 + 9 * xs.length) (2 + 9 * (xs.length : Int)) (by omega) (by omega) W
    clear h hk hx r1 hn
    go_enter Tryz.func36, Tryz.ntmps36
    go_wp2_with fail
    refine R1.out.mono ?_
    rintro e w1 ⟨rfl, hc⟩
    have C := Lib.hid hc
    clear hc R1
    obtain ⟨w2, hw2, c2, b2⟩ := news1 w1 (.cells (zeroRowP (2 + 9 * xs.length)) 5)
    have W2 := Lib.hid hw2
    have O2 : Hid (OwnB w2 (some ⟨w1.heap.size, 0, none⟩) (2 + 9 * xs.length) []) := Lib.hid (by rw [hw2]; exact OwnB.zeros _ (by unfold maxLen; omega))
    have C2 := Lib.hid (C.out.trans c2)
    have SZ := Lib.hid C.out.size
    clear hw2 c2 b2 C
    go_upto_region 5 with fail
    rw [← W2.out]
    clear W2 hmk
    generalize w1.heap.size = s1 at *
    obtain ⟨w3, hw3, c3, b3⟩ := news1 w2 (.cells #[.int .u8 ((xs.length : Int) / 256), .int .u8 ((xs.length : Int) % 256)] 5)
    have W3 := Lib.hid hw3
    have C3 := Lib.hid (C2.out.trans c3)
    have O3 := Lib.hid (O2.out.chg c3 (by simp))
    have RD := Lib.hid (show Bs w3 (some ⟨w2.heap.size, 0, none⟩) 2 (headB xs.length) from Bs.row (ys := headB xs.length) (by rw [← head_cells hlen]; exact b3) (show 2 ≤ maxLen by decide))
    have BD : Hid (0 + 2 ≤ 140737488355327) := Lib.hid (by decide)
    clear hw3 c3 b3
    go_wp2_with (at_builtin; rw [← W3.out]; refine wpList_app rfl _ _ rfl rfl O3.out rfl rfl RD.out BD.out ?_; intro A2 c2 w4 u2 d2 e2)
    have AO := app_own (w := w) (by rintro a ⟨⟩; exact SZ.out) C3.out d2 e2
    have OI := Lib.hid (And.intro u2 AO)
    clear u2 d2 e2 AO W3 C3 O3 RD BD C2 O2
    go_wp2
    go_loopw [5, 30] (fun v5 v30 wr => ∃ (k : Nat) (B : Option Addr) (cc : Nat), k ≤ xs.length ∧ v5 = .slice B (2 + 9 * k) cc ∧ v30 = .int .i64 k ∧ Hid (OwnB wr B cc (headB xs.length ++ (xs.take k).flatMap spanB) ∧ (∀ a, B = some a → w.heap.size ≤ a.block) ∧ Chg [] w wr)) (fun _ v30 _ => xs.length - (RowKit.intOf v30).toNat)
    case atStart => exact ⟨0, A2, c2, Nat.zero_le _, rfl, rfl, by simpa using OI.out.1, OI.out.2.1, OI.out.2.2⟩
    case round =>
      clear OI
      obtain ⟨k, B, cc, hk, rfl, rfl, HI⟩ := hrel
      generalize wr = w5 at *
      clear wr
      by_cases hlt : k < xs.length
      · obtain ⟨g, o, eA, _⟩ := HX.out.line (by omega)
        subst eA
        have ex := List.getElem?_eq_getElem hlt
        have hfin := HF.out _ (List.getElem_mem hlt)
        generalize xs[k] = x at *
        have EX := Lib.hid ex
        have FN := Lib.hid hfin
        obtain ⟨p0, p1, p2⟩ := spanCells (HX.out.chg HI.out.2.2 (by simp)) ex
        have i0 : (0 : Int) ≤ (k : Int) := by omega
        have i1 : (k : Int) < (xs.length : Int) := by omega
        clear ex hfin
        obtain ⟨w6, hw6, c6, b6⟩ := news1 w5 (.cells #[.int .i64 x.1, .int .i64 x.2.1, .int .i64 x.2.2] 78)
        go_upto_region 9 with fail
        rw [← hw6]
        have P6 := Lib.hid b6
        have C6 := Lib.hid (HI.out.2.2.trans c6)
        have O6 := Lib.hid (HI.out.1.chg c6 (by simp))
        have B6 := Lib.hid HI.out.2.1
        have L6 := Lib.hid (show (headB xs.length ++ (xs.take k).flatMap spanB).length = 2 + 9 * k by rw [List.length_append, flat_len, List.length_take, Nat.min_eq_left hk]; rfl)
        clear hw6 c6 b6 p0 p1 p2
        generalize w5.heap.size = s5 at *
        generalize hy : headB xs.length ++ (xs.take k).flatMap spanB = ys at *
        have HY := Lib.hid hy
        clear hy
        have z0 := cell_of P6.out 0
        simp only [List.getElem?_toArray, List.getElem?_cons_succ, List.getElem?_cons_zero] at z0
        obtain ⟨w7, hw, c7, b7⟩ := news1 w6 (.cells #[.int .u8 (x.1 % 256)] 5)
        have WN := Lib.hid hw
        have RD := Lib.hid (show Bs w7 (some ⟨w6.heap.size, 0, none⟩) 1 [UInt8.ofNat x.1.toNat] from Bs.byte (by
          have hf := FN.out
          unfold FineS at hf
          unfold bv
          rw [UInt8.toNat_ofNat']
          congr 1
          omega) b7)
        have C7 := Lib.hid (C6.out.trans c7)
        have O7 := Lib.hid (O6.out.chg c7 (by simp))
        have P7 := Lib.hid (c7.at_ P6.out (by simp))
        clear hw c7 b7
        have BD := Lib.hid (show 2 + 9 * k + 1 ≤ 140737488355327 by omega)
        go_wp2_with (at_builtin; rw [← WN.out]; refine wpList_app rfl _ _ rfl rfl O7.out L6.out rfl RD.out BD.out ?_; intro A3 cc0 w8 u2 d2 e2; have P6 := Lib.hid (grown_at d2 P7.out (O7.out.ne P7.out (by decide))); have z1 := cell_of P6.out 1; simp only [List.getElem?_toArray, List.getElem?_cons_succ, List.getElem?_cons_zero] at z1)
        have AO := app_own (w := w) B6.out C7.out d2 e2
        have O6 := Lib.hid u2
        have L6 := Lib.hid (show (ys ++ [UInt8.ofNat x.1.toNat]).length = 2 + 9 * k + 1 by rw [List.length_append, L6.out]; simp [be_len])
        have B6 := Lib.hid AO.1
        have C6 := Lib.hid AO.2
        clear u2 d2 e2 AO C7 O7 P7 RD BD z0 WN
        refine (pafour_any _ x.2.1 (by have := FN.out; unfold FineS at this; omega) (by have := FN.out; unfold FineS at this; omega)).mono ?_
        rintro e w9 ⟨rfl, hb, c7⟩
        have RD := Lib.hid hb
        have C7 := Lib.hid (C6.out.trans c7)
        have O7 := Lib.hid (O6.out.chg c7 (by simp))
        have P7 := Lib.hid (c7.at_ P6.out (by simp))
        clear hb c7
        have BD := Lib.hid (show 2 + 9 * k + 1 + 4 ≤ 140737488355327 by omega)
        go_wp2_with (at_builtin; refine wpList_app rfl _ _ rfl rfl O7.out L6.out rfl RD.out BD.out ?_; intro A4 cc1 w10 u2 d2 e2; have P6 := Lib.hid (grown_at d2 P7.out (O7.out.ne P7.out (by decide))); have z2 := cell_of P6.out 2; simp only [List.getElem?_toArray, List.getElem?_cons_succ, List.getElem?_cons_zero] at z2)
        have AO := app_own (w := w) B6.out C7.out d2 e2
        have O6 := Lib.hid u2
        have L6 := Lib.hid (show (ys ++ [UInt8.ofNat x.1.toNat] ++ be 4 x.2.1.toNat).length = 2 + 9 * k + 1 + 4 by rw [List.length_append, L6.out]; simp [be_len])
        have B6 := Lib.hid AO.1
        have C6 := Lib.hid AO.2
        clear u2 d2 e2 AO C7 O7 P7 RD BD z1
        refine (pafour_any _ x.2.2 (by have := FN.out; unfold FineS at this; omega) (by have := FN.out; unfold FineS at this; omega)).mono ?_
        rintro e w11 ⟨rfl, hb, c7⟩
        have RD := Lib.hid hb
        have C7 := Lib.hid (C6.out.trans c7)
        have O7 := Lib.hid (O6.out.chg c7 (by simp))
        have P7 := Lib.hid (c7.at_ P6.out (by simp))
        clear hb c7
        have BD := Lib.hid (show 2 + 9 * k + 1 + 4 + 4 ≤ 140737488355327 by omega)
        go_wp2_with (at_builtin; refine wpList_app rfl _ _ rfl rfl O7.out L6.out rfl RD.out BD.out ?_; intro A5 cc2 w12 u2 d2 e2; have P6 := Lib.hid (grown_at d2 P7.out (O7.out.ne P7.out (by decide))))
        have AO := app_own (w := w) B6.out C7.out d2 e2
        have O6 := Lib.hid u2
        have L6 := Lib.hid (show (ys ++ [UInt8.ofNat x.1.toNat] ++ be 4 x.2.1.toNat ++ be 4 x.2.2.toNat).length = 2 + 9 * k + 1 + 4 + 4 by rw [List.length_append, L6.out]; simp [be_len])
        have B6 := Lib.hid AO.1
        have C6 := Lib.hid AO.2
        clear u2 d2 e2 AO C7 O7 P7 RD BD z2
        refine ⟨⟨k + 1, A5, cc2, by omega, by congr 1, by go_num, ?_, B6.out, C6.out⟩, by simp [RowKit.intOf]; omega⟩
        rw [takeB EX.out, HY.out]
        have hq := O6.out
        simpa [spanB] using hq
      · obtain rfl : k = xs.length := by omega
        have hb : headB xs.length ++ (xs.take xs.length).flatMap spanB = spansB xs := by rw [List.take_length]; rfl
        have hl2 : (spansB xs).length = 2 + 9 * xs.length := by rw [← hb, List.length_append, flat_len, List.take_length]; rfl
        have HR := HI.out
        rw [hb] at HR
        rw [← hl2] at *
        have HR := Lib.hid HR
        clear hb hl2
        go_wp2
        go_ret2
        exact ⟨B, cc, rfl, HR.out⟩
  · have h2 := chkS_odd hk
    rw [h2] at r1
    rw [show bytesO xs = [] by unfold bytesO; rw [if_neg hk], h2]
    have R1 := Lib.hid r1
    clear h hk r1 hn h2
    go_enter Tryz.func36, Tryz.ntmps36
    go_wp2_with fail
    refine R1.out.mono ?_
    rintro e w1 ⟨rfl, hc⟩
    have C := Lib.hid hc
    clear hc R1
    go_wp2
    go_ret2
    exact ⟨none, 0, rfl, OwnB.none_ _, by simp, C.out⟩
end
section
open Go.RowKit Go.Lib
set_option linter.unusedSimpArgs false
set_option linter.unusedVariables false

def numB (ys : List UInt8) : Nat := ys.foldl (fun n x => n * 256 + x.toNat) 0
theorem numB_snoc (ys : List UInt8) (x : UInt8) : numB (ys ++ [x]) = numB ys * 256 + x.toNat := by simp [numB]
theorem numB_lt : ∀ (k : Nat) (ys : List UInt8), ys.length ≤ k → numB ys < 256 ^ k
  | 0, ys, h => by
    have : ys = [] := List.length_eq_zero_iff.1 (by omega)
    subst this
    simp [numB]
  | k + 1, ys, h => by
    rcases List.eq_nil_or_concat ys with rfl | ⟨l, x, rfl⟩
    · simp only [numB, List.foldl_nil]; exact Nat.pow_pos (by decide)
    · rw [List.concat_eq_append, numB_snoc]
      have h1 := numB_lt k l (by simp at h; omega)
      have h2 : x.toNat < 256 := x.toNat_lt
      rw [Nat.pow_succ]
      omega
theorem or8P (a b : Nat) (hb : b < 256) (h : a < 4294967296) : bits .or .i64 ((a : Int) * 256) (b : Int) = (a : Int) * 256 + (b : Int) := by
  have h1 : (BitVec.ofInt 64 ((a * 256 : Nat) : Int)).toNat = a * 256 := by
    rw [BitVec.ofInt_natCast, BitVec.toNat_ofNat]; exact Nat.mod_eq_of_lt (by omega)
  have h2 : (BitVec.ofInt 64 (b : Int)).toNat = b := by
    rw [BitVec.ofInt_natCast, BitVec.toNat_ofNat]; exact Nat.mod_eq_of_lt (by omega)
  have hj : a * 256 ||| b = a * 256 + b := by
    have := Nat.shiftLeft_add_eq_or_of_lt (b := b) (i := 8) (by omega) a
    rw [Nat.shiftLeft_eq] at this
    exact this.symm
  rw [show (a : Int) * 256 = ((a * 256 : Nat) : Int) by omega]
  show IntKind.i64.wrap ((BitVec.ofInt 64 ((a * 256 : Nat) : Int) ||| BitVec.ofInt 64 (b : Int)).toNat : Int) = _
  rw [BitVec.toNat_or, h1, h2, hj, IntWalk.i64_in _ (by omega)]
  omega
set_option maxRecDepth 100000 in
theorem pnum1_any (w : World) (a b : Nat) (hb : b < 256) (ha : a < 4294967296) :
    Calls Tryz.prog 103 #[.int .i64 (a : Int), .int .u8 (b : Int)] w fun e w' => e = .returned (.int .i64 ((a * 256 + b : Nat) : Int)) ∧ Chg [] w w' := by
  have e1 := or8P a b hb ha
  go_enter Tryz.func103, Tryz.ntmps103
  go_wp2
  go_ret
  exact ⟨by simp, Chg.refl _ _⟩
set_option maxRecDepth 100000 in
set_option maxHeartbeats 2000000 in
theorem pfoldb_any (w : World) (A : Option Addr) (n c : Nat) (ys : List UInt8) (h : Bs w A n ys) (hn : ys.length ≤ 4) :
    Calls Tryz.prog 102 #[.slice A n c, .int .i64 0, .func (.func 103) #[] #[]] w fun e w' => e = .returned (.int .i64 (numB ys : Int)) ∧ Chg [] w w' := by
  have hl := h.len
  subst hl
  have HX := Lib.hid h
  clear h
  go_enter Tryz.func102, Tryz.ntmps102
  go_wp2
  go_loopw [1, 11] (fun v1 v11 wr => ∃ (k : Nat), k ≤ ys.length ∧ v1 = .int .i64 (numB (ys.take k) : Int) ∧ v11 = .int .i64 k ∧ Hid (Chg [] w wr)) (fun _ v11 _ => ys.length - (RowKit.intOf v11).toNat)
  case atStart => exact ⟨0, Nat.zero_le _, rfl, rfl, Chg.refl _ _⟩
  case round =>
    obtain ⟨k, hk, rfl, rfl, HI⟩ := hrel
    generalize wr = w4 at *
    clear wr
    by_cases hlt : k < ys.length
    · have hb4 := HX.out.chg HI.out (by simp)
      have ex := List.getElem?_eq_getElem hlt
      obtain ⟨ad, eA, hc0⟩ := hb4.cells 0 _ (List.getElem?_eq_getElem (show 0 < ys.length by omega))
      have hsp := World.cell?_spot hc0
      obtain ⟨g, o, sp⟩ := ad
      have hsp : sp = none := by simpa [Addr.add] using hsp
      subst hsp eA
      clear hc0
      obtain ⟨ad, eA, hc⟩ := hb4.cells k _ ex
      cases eA
      generalize ys[k] = x at *
      rw [add_lit] at hc
      have i0 : (0 : Int) ≤ (k : Int) := by omega
      have i1 : (k : Int) < (ys.length : Int) := by omega
      have hnm := numB_lt 3 (ys.take k) (by rw [List.length_take]; omega)
      have HN := Lib.hid (show numB (ys.take k) < 4294967296 by omega)
      have e2 : numB (ys.take (k + 1)) = numB (ys.take k) * 256 + x.toNat := by rw [List.take_add_one, ex]; exact numB_snoc _ _
      have E2 := Lib.hid e2
      clear hb4 ex hnm e2
      generalize numB (ys.take k) = m at *
      unfold bv at hc
      go_wp2_with fail
      refine (pnum1_any _ m x.toNat x.toNat_lt HN.out).mono ?_
      rintro e w5 ⟨rfl, hcc⟩
      have CE := Lib.hid (HI.out.trans hcc)
      clear hcc hc
      go_wp2
      go_round
      case rel => exact ⟨k + 1, by omega, by rw [E2.out, Int.natCast_add, Int.natCast_mul]; rfl, by go_num, CE.out⟩
      case measure => simp [RowKit.intOf]; omega
    · obtain rfl : k = ys.length := by omega
      rw [show ys.take ys.length = ys from List.take_length]
      go_wp2
      go_ret
      exact ⟨rfl, HI.out⟩
theorem panumber_any (w : World) (A : Option Addr) (n c : Nat) (ys : List UInt8) (h : Bs w A n ys) (hn : ys.length ≤ 4) :
    Calls Tryz.prog 82 #[.slice A n c] w fun e w' => e = .returned (.int .i64 (numB ys : Int)) ∧ Chg [] w w' := by
  have HX := Lib.hid h
  have HN := Lib.hid hn
  clear h hn
  go_enter Tryz.func82, Tryz.ntmps82
  go_wp2_with fail
  refine (pfoldb_any _ A n c ys HX.out HN.out).mono ?_
  rintro e w1 ⟨rfl, hc⟩
  have C := Lib.hid hc
  clear hc
  go_wp2
  go_ret
  exact ⟨rfl, C.out⟩
end
section
open Go.RowKit Go.Lib
set_option linter.unusedSimpArgs false
set_option linter.unusedVariables false
theorem numB_four (a b c d : UInt8) : numB [a, b, c, d] = a.toNat * 16777216 + b.toNat * 65536 + c.toNat * 256 + d.toNat := by
  simp [numB]; omega
set_option maxRecDepth 100000 in
set_option maxHeartbeats 2000000 in
theorem qfour_cells (w : World) (g o n c x0 x1 x2 x3 : Nat) (h0 : x0 < 256) (h1 : x1 < 256) (h2 : x2 < 256) (h3 : x3 < 256) (hn : 4 ≤ n) (z0 : w.cell? ⟨g, o, none⟩ = some (.int .u8 (x0 : Int))) (z1 : w.cell? ⟨g, o + 1, none⟩ = some (.int .u8 (x1 : Int))) (z2 : w.cell? ⟨g, o + 2, none⟩ = some (.int .u8 (x2 : Int))) (z3 : w.cell? ⟨g, o + 3, none⟩ = some (.int .u8 (x3 : Int))) :
    Calls Tryz.prog 84 #[.slice (some ⟨g, o, none⟩) n c] w fun e w' => e = .returned (.int .i64 ((x0 * 16777216 + x1 * 65536 + x2 * 256 + x3 : Nat) : Int)) ∧ Chg [] w w' := by
  have i0 : (0 : Int) < (n : Int) := by omega
  have i1 : (1 : Int) < (n : Int) := by omega
  have i2 : (2 : Int) < (n : Int) := by omega
  have i3 : (3 : Int) < (n : Int) := by omega
  go_enter Tryz.func84, Tryz.ntmps84
  go_wp2
  go_quiet (fail)
  go_wp2
  go_ret
  refine ⟨?_, (Chg.refl _ _).drewN _⟩
  simp
theorem Bs.at4 {w : World} {A : Option Addr} {n : Nat} {xs : List UInt8} (h : Bs w A n xs) (i : Nat) (a b c d : UInt8) (h0 : xs[i]? = some a) (h1 : xs[i + 1]? = some b) (h2 : xs[i + 2]? = some c) (h3 : xs[i + 3]? = some d) :
    ∃ g o, A = some ⟨g, o, none⟩ ∧ w.cell? ⟨g, o + i, none⟩ = some (bv a) ∧ w.cell? ⟨g, o + i + 1, none⟩ = some (bv b) ∧ w.cell? ⟨g, o + i + 2, none⟩ = some (bv c) ∧ w.cell? ⟨g, o + i + 3, none⟩ = some (bv d) := by
  have hp : 0 < xs.length := by have := (List.getElem?_eq_some_iff.1 h0).1; omega
  obtain ⟨ad, eA, hc0⟩ := h.cells 0 _ (List.getElem?_eq_getElem hp)
  have hsp := World.cell?_spot hc0
  obtain ⟨g, o, sp⟩ := ad
  have hsp : sp = none := by simpa [Addr.add] using hsp
  subst hsp eA
  refine ⟨g, o, rfl, ?_, ?_, ?_, ?_⟩
  · obtain ⟨ad, eA, hc⟩ := h.cells i _ h0; cases eA; rwa [add_lit] at hc
  · obtain ⟨ad, eA, hc⟩ := h.cells (i + 1) _ h1; cases eA; rwa [add_lit] at hc
  · obtain ⟨ad, eA, hc⟩ := h.cells (i + 2) _ h2; cases eA; rwa [add_lit] at hc
  · obtain ⟨ad, eA, hc⟩ := h.cells (i + 3) _ h3; cases eA; rwa [add_lit] at hc
end
section
open Go.RowKit Go.Lib
set_option linter.unusedSimpArgs false
set_option linter.unusedVariables false
/-- The span that lies in nine bytes from i on. -/
def spanAt (ys : List UInt8) (i : Nat) : Int × Int × Int := ((numB ((ys.drop i).take 1) : Int), (numB ((ys.drop (i + 1)).take 4) : Int), (numB ((ys.drop (i + 5)).take 4) : Int))
def spansR (ys : List UInt8) (k : Nat) : List (Int × Int × Int) := (List.range k).map fun i => spanAt ys (2 + 9 * i)
theorem spansR_succ (ys : List UInt8) (k : Nat) : spansR ys (k + 1) = spansR ys k ++ [spanAt ys (2 + 9 * k)] := by simp [spansR, List.range_succ]
theorem spansR_len (ys : List UInt8) (k : Nat) : (spansR ys k).length = k := by simp [spansR]
theorem Bs.part_ {w : World} {g o n : Nat} {xs : List UInt8} (h : Bs w (some ⟨g, o, none⟩) n xs) (q m : Nat) (hq : q + m ≤ n) : Bs w (some ⟨g, o + q, none⟩) m ((xs.drop q).take m) := by
  have hl := h.len
  refine ⟨by simp; omega, fun j v hj => ⟨_, rfl, ?_⟩⟩
  rw [List.getElem?_take] at hj
  split at hj
  · rw [List.getElem?_drop] at hj
    obtain ⟨a, e, hc⟩ := h.cells _ v hj
    cases e
    rw [add_lit] at hc ⊢
    rwa [Nat.add_assoc]
  · cases hj
end
section
open Go.RowKit Go.Lib
set_option linter.unusedSimpArgs false
set_option linter.unusedVariables false
set_option maxHeartbeats 4000000 in
set_option maxRecDepth 100000 in
theorem paread_loop (w : World) (g o n c : Nat) (ys : List UInt8) (h : Bs w (some ⟨g, o, none⟩) n ys) (hn : n ≤ 140737488351232) (hc : n ≤ c) (hc2 : c ≤ 9223372036854775807) (many : Nat) (hm : many = numB (ys.take 2)) (hl : ys.length = 2 + 9 * many) (L : List (Int × Int × Int)) (E : Int) (hck : (chkS (spansR ys many) = 0 ∧ L = spansR ys many ∧ E = 0) ∨ (chkS (spansR ys many) = 2 ∧ L = [] ∧ E = 2)) :
    Calls Tryz.prog 52 #[.slice (some ⟨g, o, none⟩) n c] w fun e w' => ∃ A' c', e = .returned (.tuple #[.slice A' L.length c', .agg #[.int .i64 E, .int .i64 0]]) ∧ OwnK spanTy w' A' c' L ∧ (∀ a, A' = some a → w.heap.size ≤ a.block) ∧ Chg [] w w' := by
  have HCK := Lib.hid hck
  clear hck
  have hl0 := h.len
  subst hl0
  obtain ⟨w1, hw1, c1, b1⟩ := news1 w (.cells #[.int .i64 0, .int .i64 0] 46)
  have W1 := Lib.hid hw1
  have HX := Lib.hid (h.chg c1 (by simp))
  have C1 := Lib.hid c1
  have F1 := Lib.hid b1
  have h2 : (2 : Int) ≤ (ys.length : Int) := by omega
  have h3 : ¬ ((ys.length : Int) < 2) := by omega
  have h4 : (2 : Int) ≤ (c : Int) := by omega
  have hmk : many < 65536 := by
    have := numB_lt 2 (ys.take 2) (by rw [List.length_take]; omega)
    omega
  have hne : ((ys.length : Int) == 2 + 9 * (many : Int)) = true := by simp; omega
  have RD := Lib.hid (show Bs w1 (some ⟨g, o, none⟩) 2 (ys.take 2) from by have := HX.out.part_ 0 2 (by omega); simpa using this)
  have hg0 : g < w.heap.size := by
    obtain ⟨a, e, hc⟩ := h.cells 0 _ (List.getElem?_eq_getElem (by omega))
    cases e
    have := lt_of_cell hc
    rwa [block_add] at this
  have HG1 := Lib.hid (Nat.lt_of_lt_of_le hg0 c1.size)
  clear hw1 c1 b1 h hg0
  go_enter Tryz.func52, Tryz.ntmps52
  go_wp2_with fail
  rw [← W1.out]
  refine (panumber_any _ _ 2 _ (ys.take 2) RD.out (by rw [List.length_take]; omega)).mono ?_
  rintro e w2 ⟨rfl, hcc⟩
  rw [← hm]
  have HM := Lib.hid hm
  clear hm
  have HG0 := Lib.hid (Nat.lt_of_lt_of_le HG1.out hcc.size)
  clear HG1
  have C2 := Lib.hid (C1.out.trans hcc)
  have F2 := Lib.hid (hcc.at_ F1.out (by simp))
  have HX2 := Lib.hid (HX.out.chg hcc (by simp))
  clear hcc W1 C1 F1 HX RD
  go_upto_region 6 with fail
  generalize hs0 : w.heap.size = s0 at *
  have HS0 := Lib.hid (Nat.le_of_eq hs0)
  clear hs0
  go_wp2
  go_loopw [5, 6] (fun v5 v6 wr => ∃ (k q : Nat) (B : Option Addr) (cc : Nat), k ≤ many ∧ v5 = .slice B k cc ∧ v6 = .int .i64 (q : Int) ∧ q = 2 + 9 * k ∧ Hid (OwnK spanTy wr B cc (spansR ys k) ∧ (∀ a, B = some a → w2.heap.size ≤ a.block) ∧ Chg [] w2 wr)) (fun v5 _ _ => many - (match v5 with | .slice _ k _ => k | _ => 0))
  case atStart => exact ⟨0, 2, none, 0, Nat.zero_le _, rfl, rfl, rfl, OwnK.none_ _, by simp, Chg.refl _ _⟩
  case round =>
    obtain ⟨k, q, B, cc, hk, rfl, rfl, hqk, HI⟩ := hrel
    generalize wr = w4 at *
    clear wr
    by_cases hlt : k < many
    · have hq : q < ys.length := by omega
      have ex := List.getElem?_eq_getElem hq
      have HX4 := Lib.hid (HX2.out.chg HI.out.2.2 (by simp))
      obtain ⟨ad, eA, hc⟩ := HX4.out.cells _ _ ex
      cases eA
      rw [add_lit] at hc
      have e1 : (ys.drop q).take 1 = [ys[q]] := by rw [List.drop_eq_getElem_cons hq]; rfl
      generalize ys[q] = x at *
      have E1 := Lib.hid e1
      unfold bv at hc
      have P1 := Lib.hid (HX4.out.part_ (q + 1) 4 (by omega))
      have P2 := Lib.hid (HX4.out.part_ (q + 5) 4 (by omega))
      have i0 : (0 : Int) ≤ (q : Int) := by omega
      have i1 : (q : Int) < (ys.length : Int) := by omega
      have i2 : (q : Int) + 1 ≤ (q : Int) + 5 := by omega
      have hcc : ys.length ≤ c := by omega
      have i3 : (q : Int) + 5 ≤ (c : Int) := by omega
      have i4 : (q : Int) + 9 ≤ (c : Int) := by omega
      have i5 : (q : Int) < 2 + 9 * (many : Int) := by omega
      have j0 : (0 : Int) ≤ (q : Int) + 1 := by omega
      have j1 : (0 : Int) ≤ (q : Int) + 5 := by omega
      have j2 : (q : Int) + 5 ≤ (q : Int) + 9 := by omega
      have j3 : ¬ c = q + 1 := by omega
      have j4 : ¬ q + 1 = c := by omega
      have j5 : ¬ c = q + 5 := by omega
      have j6 : ¬ q + 5 = c := by omega
      have j7 : q + 1 ≤ q + 5 := by omega
      have j8 : q + 5 ≤ c := by omega
      have j9 : q + 5 ≤ q + 9 := by omega
      have ja : q + 9 ≤ c := by omega
      have jb : IntKind.i64.wrap ((q : Int) + 1) = (q : Int) + 1 := IntWalk.i64_in _ (by omega)
      have jc : IntKind.i64.wrap ((q : Int) + 5) = (q : Int) + 5 := IntWalk.i64_in _ (by omega)
      have jd : IntKind.i64.wrap ((q : Int) + 9) = (q : Int) + 9 := IntWalk.i64_in _ (by omega)
      have nt1 : ((q : Int) + 1).toNat = q + 1 := by omega
      have nt5 : ((q : Int) + 5).toNat = q + 5 := by omega
      have nt9 : ((q : Int) + 9).toNat = q + 9 := by omega
      have nl1 : q + 5 - (q + 1) = 4 := by omega
      have nl2 : q + 9 - (q + 5) = 4 := by omega
      have HQ := Lib.hid hqk
      clear ex e1 hq hqk
      have hsp : spanAt ys q = ((x.toNat : Int), (numB ((ys.drop (q + 1)).take 4) : Int), (numB ((ys.drop (q + 5)).take 4) : Int)) := by
        unfold spanAt
        rw [E1.out]
        simp [numB]
      have HSP := Lib.hid hsp
      have LR1 := Lib.hid (spansR_len ys k)
      have BND := Lib.hid (show (k + 1) * 400 ≤ 140737488355327 by omega)
      have hgB : g ∉ (B.map (·.block)).toList := by
        cases B with
        | none => simp
        | some a =>
          have h1 := HI.out.2.1 a rfl
          have h2 := HG0.out
          simp
          omega
      have HB := Lib.hid hgB
      have HWX := Lib.hid (show IntKind.i64.wrap (x.toNat : Int) = (x.toNat : Int) from IntWalk.i64_in _ (by have := x.toNat_lt; omega))
      have hk4 : ∀ w', Chg (B.map (·.block)).toList w4 w' → w'.cell? ⟨g, o + q, none⟩ = some (.int .u8 (x.toNat : Int)) := fun w' h => h.cell hc (by exact HB.out)
      have HK := Lib.hid hk4
      have LT1 := Lib.hid (show ((ys.drop (q + 1)).take 4).length ≤ 4 by rw [List.length_take]; omega)
      have LT2 := Lib.hid (show ((ys.drop (q + 5)).take 4).length ≤ 4 by rw [List.length_take]; omega)
      clear hsp hk4 hc hgB
      generalize (ys.drop (q + 1)).take 4 = l1 at *
      generalize (ys.drop (q + 5)).take 4 = l2 at *
      go_upto_region 10 with fail
      refine wp_region_held_drew (S := fun w' => Chg (B.map (·.block)).toList w4 w') (by kernel_rfl) (Chg.refl _ w4).drew (fun hHeld => ?_)
      have C4 := Lib.hid ((Chg.refl [] w4).drew)
      clear hHeld
      refine step_yes 0 33 ?_ (C4.out.mono (by simp)) rfl rfl (by kernel_rfl) (by kernel_rfl) (by kernel_rfl) (fun _ _ _ h => h) (by rfl) ?_ ?_
      rotate_left
      · (intro w hSw; (try dsimp only at hSw); go_simp; try with_reducible rfl)
      try simp only [Act.put, List.setIfInBounds_toArray, List.set_cons_zero, List.set_cons_succ]
      refine step_yes 1 34 ?_ (C4.out.mono (by simp)) rfl rfl (by kernel_rfl) (by kernel_rfl) (by kernel_rfl) (fun _ _ _ h => h) (by rfl) ?_ ?_
      rotate_left
      · (intro w hSw; (try dsimp only at hSw); go_simp; try with_reducible rfl)
      try simp only [Act.put, List.setIfInBounds_toArray, List.set_cons_zero, List.set_cons_succ]
      refine step_yes 2 35 ?_ (C4.out.mono (by simp)) rfl rfl (by kernel_rfl) (by kernel_rfl) (by kernel_rfl) (fun _ _ _ h => h) (by rfl) ?_ ?_
      rotate_left
      · (intro w hSw; (try dsimp only at hSw); go_simp; try with_reducible rfl)
      try simp only [Act.put, List.setIfInBounds_toArray, List.set_cons_zero, List.set_cons_succ]
      refine step_yes 3 36 ?_ (C4.out.mono (by simp)) rfl rfl (by kernel_rfl) (by kernel_rfl) (by kernel_rfl) (fun _ _ _ h => h) (by rfl) ?_ ?_
      rotate_left
      · (intro w hSw; (try dsimp only at hSw); go_simp; try with_reducible rfl)
      try simp only [Act.put, List.setIfInBounds_toArray, List.set_cons_zero, List.set_cons_succ]
      refine step_yes 4 37 ?_ (C4.out.mono (by simp)) rfl rfl (by kernel_rfl) (by kernel_rfl) (by kernel_rfl) (fun _ _ _ h => h) (by rfl) ?_ ?_
      rotate_left
      · (intro w hSw; (try dsimp only at hSw); have hq0 := HK.out _ hSw; go_simp; try with_reducible rfl)
      try simp only [Act.put, List.setIfInBounds_toArray, List.set_cons_zero, List.set_cons_succ]
      refine step_yes 5 38 ?_ (C4.out.mono (by simp)) rfl rfl (by kernel_rfl) (by kernel_rfl) (by kernel_rfl) (fun _ _ _ h => h) (by rfl) ?_ ?_
      rotate_left
      · (intro w hSw; (try dsimp only at hSw); go_simp; try with_reducible rfl)
      try simp only [Act.put, List.setIfInBounds_toArray, List.set_cons_zero, List.set_cons_succ]
      refine step_yes 6 39 ?_ (C4.out.mono (by simp)) rfl rfl (by kernel_rfl) (by kernel_rfl) (by kernel_rfl) (fun _ _ _ h => h) (by rfl) ?_ ?_
      rotate_left
      · (intro w hSw; (try dsimp only at hSw); go_simp; try with_reducible rfl)
      try simp only [Act.put, List.setIfInBounds_toArray, List.set_cons_zero, List.set_cons_succ]
      refine step_yes 7 40 ?_ (C4.out.mono (by simp)) rfl rfl (by kernel_rfl) (by kernel_rfl) (by kernel_rfl) (fun _ _ _ h => h) (by rfl) ?_ ?_
      rotate_left
      · (intro w hSw; (try dsimp only at hSw); go_simp; try with_reducible rfl)
      try simp only [Act.put, List.setIfInBounds_toArray, List.set_cons_zero, List.set_cons_succ]
      refine step_yes 8 41 ?_ (C4.out.mono (by simp)) rfl rfl (by kernel_rfl) (by kernel_rfl) (by kernel_rfl) (fun _ _ _ h => h) (by rfl) ?_ ?_
      rotate_left
      · (intro w hSw; (try dsimp only at hSw); go_simp; try with_reducible rfl)
      try simp only [Act.put, List.setIfInBounds_toArray, List.set_cons_zero, List.set_cons_succ]
      refine step_yes 9 42 ?_ (C4.out.mono (by simp)) rfl rfl (by kernel_rfl) (by kernel_rfl) (by kernel_rfl) (fun _ _ _ h => h) (by rfl) ?_ ?_
      rotate_left
      · (intro w hSw; (try dsimp only at hSw); go_simp; try with_reducible rfl)
      try simp only [Act.put, List.setIfInBounds_toArray, List.set_cons_zero, List.set_cons_succ]
      refine step_yes 10 43 ?_ (C4.out.mono (by simp)) rfl rfl (by kernel_rfl) (by kernel_rfl) (by kernel_rfl) (fun _ _ _ h => h) (by rfl) ?_ ?_
      rotate_left
      · (intro w hSw; (try dsimp only at hSw); go_simp; try with_reducible rfl)
      try simp only [Act.put, List.setIfInBounds_toArray, List.set_cons_zero, List.set_cons_succ]
      refine step_yes 11 44 ?_ (C4.out.mono (by simp)) rfl rfl (by kernel_rfl) (by kernel_rfl) (by kernel_rfl) (fun _ _ _ h => h) (by rfl) ?_ ?_
      rotate_left
      · (intro w hSw; (try dsimp only at hSw); go_simp; try with_reducible rfl)
      try simp only [Act.put, List.setIfInBounds_toArray, List.set_cons_zero, List.set_cons_succ]
      refine step_yes 13 46 ?_ (C4.out.mono (by simp)) rfl rfl (by kernel_rfl) (by kernel_rfl) (by kernel_rfl) (fun _ _ _ h => h) (by rfl) ?_ ?_
      rotate_left
      · (intro w hSw; (try dsimp only at hSw); go_simp; try with_reducible rfl)
      try simp only [Act.put, List.setIfInBounds_toArray, List.set_cons_zero, List.set_cons_succ]
      refine step_yes 14 47 ?_ (C4.out.mono (by simp)) rfl rfl (by kernel_rfl) (by kernel_rfl) (by kernel_rfl) (fun _ _ _ h => h) (by rfl) ?_ ?_
      rotate_left
      · (intro w hSw; (try dsimp only at hSw); go_simp; try with_reducible rfl)
      try simp only [Act.put, List.setIfInBounds_toArray, List.set_cons_zero, List.set_cons_succ]
      refine step_yes 15 48 ?_ (C4.out.mono (by simp)) rfl rfl (by kernel_rfl) (by kernel_rfl) (by kernel_rfl) (fun _ _ _ h => h) (by rfl) ?_ ?_
      rotate_left
      · (intro w hSw; (try dsimp only at hSw); go_simp; try with_reducible rfl)
      try simp only [Act.put, List.setIfInBounds_toArray, List.set_cons_zero, List.set_cons_succ]
      refine step_yes 16 49 ?_ (C4.out.mono (by simp)) rfl rfl (by kernel_rfl) (by kernel_rfl) (by kernel_rfl) (fun _ _ _ h => h) (by rfl) ?_ ?_
      rotate_left
      · (intro w hSw; (try dsimp only at hSw); go_simp; try with_reducible rfl)
      try simp only [Act.put, List.setIfInBounds_toArray, List.set_cons_zero, List.set_cons_succ]
      refine step_yes 17 50 ?_ (C4.out.mono (by simp)) rfl rfl (by kernel_rfl) (by kernel_rfl) (by kernel_rfl) (fun _ _ _ h => h) (by rfl) ?_ ?_
      rotate_left
      · (intro w hSw; (try dsimp only at hSw); go_simp; try with_reducible rfl)
      try simp only [Act.put, List.setIfInBounds_toArray, List.set_cons_zero, List.set_cons_succ]
      refine step_yes 18 51 ?_ (C4.out.mono (by simp)) rfl rfl (by kernel_rfl) (by kernel_rfl) (by kernel_rfl) (fun _ _ _ h => h) (by rfl) ?_ ?_
      rotate_left
      · (intro w hSw; (try dsimp only at hSw); go_simp; try with_reducible rfl)
      try simp only [Act.put, List.setIfInBounds_toArray, List.set_cons_zero, List.set_cons_succ]
      refine wpAnyH_ready (rs := [12]) (by kernel_rfl) (by simp) ?_
      refine AllReadyH.cons rfl (fun K hK => ?_) AllReadyH.nil
      replace hK := Lib.hid hK
      go_simp
      refine (panumber_any _ _ 4 _ l1 (P1.out.chg C4.out (by simp)) LT1.out).mono ?_
      rintro e w9 ⟨rfl, hc⟩
      have C9 := Lib.hid (C4.out.trans hc)
      clear hc C4
      refine hK.out _ _ (C9.out.mono (by simp)) (fun hHeld => ?_)
      clear hK K
      try simp only [Act.put, List.setIfInBounds_toArray, List.set_cons_zero, List.set_cons_succ]
      clear hHeld
      refine wpAnyH_ready (rs := [19]) (by kernel_rfl) (by simp) ?_
      refine AllReadyH.cons rfl (fun K hK => ?_) AllReadyH.nil
      replace hK := Lib.hid hK
      go_simp
      refine (panumber_any _ _ 4 _ l2 (P2.out.chg C9.out (by simp)) LT2.out).mono ?_
      rintro e v9 ⟨rfl, hc⟩
      have C8 := Lib.hid (C9.out.trans hc)
      clear hc C9
      refine hK.out _ _ (C8.out.mono (by simp)) (fun hHeld => ?_)
      clear hK K
      try simp only [Act.put, List.setIfInBounds_toArray, List.set_cons_zero, List.set_cons_succ]
      clear hHeld
      refine step_yes 20 53 ?_ (C8.out.mono (by simp)) rfl rfl (by kernel_rfl) (by kernel_rfl) (by kernel_rfl) (fun _ _ _ h => h) (by rfl) ?_ ?_
      rotate_left
      · (intro w hSw; (try dsimp only at hSw); go_simp; try with_reducible rfl)
      try simp only [Act.put, List.setIfInBounds_toArray, List.set_cons_zero, List.set_cons_succ]
      refine wpAnyH_ready (rs := [21]) (by kernel_rfl) (by simp) ?_
      refine AllReadyH.cons rfl (fun K hK => ?_) AllReadyH.nil
      replace hK := Lib.hid hK
      go_simp
      obtain ⟨w5, hw5, c5, b5⟩ := news1 v9 (.cells #[.int .i64 (x.toNat : Int), .int .i64 (numB l1 : Int), .int .i64 (numB l2 : Int)] 78)
      simp only [HWX.out]
      rw [← hw5]
      have C5 := Lib.hid (C8.out.trans c5)
      refine hK.out _ _ (C5.out.mono (by simp)) (fun hHeld => ?_)
      clear hK K hHeld
      try simp only [Act.put, List.setIfInBounds_toArray, List.set_cons_zero, List.set_cons_succ]
      have R5 := Lib.hid (OwnK.of (R := spanTy) (c := 1) (full := [((x.toNat : Int), (numB l1 : Int), (numB l2 : Int))]) (xs := [((x.toNat : Int), (numB l1 : Int), (numB l2 : Int))]) b5 (Nat.le_refl _) (by decide) rfl rfl).reads
      have O5 := Lib.hid (HI.out.1.chg C5.out (by simp))
      clear hw5 c5 b5 C8
      refine wpAnyH_ready (rs := [22]) (by kernel_rfl) (by simp) ?_
      refine AllReadyH.cons rfl (fun K hK => ?_) AllReadyH.nil
      replace hK := Lib.hid hK
      refine step_appK (R := spanTy) rfl (.tmp 33) (.tmp 54) rfl rfl O5.out LR1.out rfl R5.out BND.out ?_
      intro A2 c2 w7 u2 d2 e2
      have C7 := Lib.hid ((C5.out.mono (S' := (B.map (·.block)).toList) (by simp)).grown d2 (fun k hk => .inl (by simp [hk])))
      have AO := app_own (w := w2) HI.out.2.1 (HI.out.2.2.trans C5.out) d2 e2
      have U2 := Lib.hid u2
      have AO2 := Lib.hid AO
      clear u2 d2 e2 AO
      refine hK.out _ _ C7.out (fun hHeld => ?_)
      clear hK K hHeld
      try simp only [Act.put, List.setIfInBounds_toArray, List.set_cons_zero, List.set_cons_succ]
      refine step_yes 23 5 ?_ C7.out rfl rfl (by kernel_rfl) (by kernel_rfl) (by kernel_rfl) (fun _ _ _ h => h) (by rfl) ?_ ?_
      rotate_left
      · (intro w hSw; (try dsimp only at hSw); go_simp; try with_reducible rfl)
      try simp only [Act.put, List.setIfInBounds_toArray, List.set_cons_zero, List.set_cons_succ]
      refine wpAnyH_done (by kernel_rfl) ?_ _
      go_wp2
      go_round
      case rel => exact ⟨k + 1, q + 9, A2, c2, by omega, by congr 1, by go_num, by have := HQ.out; omega, by rw [spansR_succ, ← HQ.out, HSP.out]; exact U2.out, AO2.out.1, AO2.out.2⟩
      case measure => simp; omega
    · obtain rfl : k = many := by omega
      have hw2l := HI.out.1.reads
      go_wp2_with fail
      refine (pacheck_any _ B _ cc (spansR ys k) (by have := hw2l; rwa [spansR_len] at this) (by omega)).mono ?_
      rintro e w5 ⟨rfl, hc5⟩
      rcases HCK.out with ⟨hk0, hL, hE⟩ | ⟨hk0, hL, hE⟩
      · rw [hk0]
        clear HCK hw2l hk0
        subst hL hE
        have hb := hc5.at_ (HI.out.2.2.at_ F2.out (by simp)) (by simp)
        have z0 := cell_of hb 0
        have z1 := cell_of hb 1
        have f0 := free_of hb 0
        have f1 := free_of hb 1
        simp only [List.getElem?_toArray, List.getElem?_cons_succ, List.getElem?_cons_zero] at z0 z1
        have e0 := heap_setCell_same _ s0 0 _ _ (.int .i64 0) hb
        have e1 := heap_setCell_same _ s0 1 _ _ (.int .i64 0) e0
        have HE : Hid (((w5.setCell ⟨s0, 0, none⟩ (.int .i64 0)).setCell ⟨s0, 1, none⟩ (.int .i64 0)).heap[s0]? = some (.cells #[.int .i64 0, .int .i64 0] 46 (0, 0))) := Lib.hid (by simpa using e1)
        have CW := Lib.hid (Chg.put (Chg.put (C2.out.trans (HI.out.2.2.trans hc5)) HS0.out 0 (.int .i64 0)) HS0.out 1 (.int .i64 0))
        have CS := ((Chg.refl [s0] w5).setCell (p := ⟨s0, 0, none⟩) (.inl (by simp)) (.int .i64 0)).setCell (p := ⟨s0, 1, none⟩) (.inl (by simp)) (.int .i64 0)
        have OF := Lib.hid ((HI.out.1.chg hc5 (by simp)).chg CS (fun a ha => by
          have h1 := HI.out.2.1 a ha
          have h2 := lt_of_heap F2.out
          simp
          omega))
        have NF := Lib.hid (fun a (ha : B = some a) => Nat.le_trans C2.out.size (HI.out.2.1 a ha))
        have LF := Lib.hid (spansR_len ys k)
        clear hb e0 e1 CS hc5
        go_wp2
        generalize (w5.setCell ⟨s0, 0, none⟩ (.int .i64 0)).setCell ⟨s0, 1, none⟩ (.int .i64 0) = W at *
        clear z0 z1 f0 f1
        have z0 := cell_of HE.out 0
        have z1 := cell_of HE.out 1
        simp only [List.getElem?_toArray, List.getElem?_cons_succ, List.getElem?_cons_zero] at z0 z1
        refine bodyPost_ret (v := .tuple #[.slice B k cc, .agg #[.int .i64 0, .int .i64 0]]) (by simp [results, Tryz.results52, go_sem, z0, z1]) rfl ?_
        exact ⟨B, cc, by rw [LF.out], OF.out, NF.out, CW.out⟩
      · rw [hk0]
        clear HCK hw2l hk0
        subst hL hE
        have hb := hc5.at_ (HI.out.2.2.at_ F2.out (by simp)) (by simp)
        have z0 := cell_of hb 0
        have z1 := cell_of hb 1
        have f0 := free_of hb 0
        have f1 := free_of hb 1
        simp only [List.getElem?_toArray, List.getElem?_cons_succ, List.getElem?_cons_zero] at z0 z1
        have e0 := heap_setCell_same _ s0 0 _ _ (.int .i64 2) hb
        have e1 := heap_setCell_same _ s0 1 _ _ (.int .i64 0) e0
        have HE : Hid (((w5.setCell ⟨s0, 0, none⟩ (.int .i64 2)).setCell ⟨s0, 1, none⟩ (.int .i64 0)).heap[s0]? = some (.cells #[.int .i64 2, .int .i64 0] 46 (0, 0))) := Lib.hid (by simpa using e1)
        have CW := Lib.hid (Chg.put (Chg.put (C2.out.trans (HI.out.2.2.trans hc5)) HS0.out 0 (.int .i64 2)) HS0.out 1 (.int .i64 0))
        have CS := ((Chg.refl [s0] w5).setCell (p := ⟨s0, 0, none⟩) (.inl (by simp)) (.int .i64 2)).setCell (p := ⟨s0, 1, none⟩) (.inl (by simp)) (.int .i64 0)
        clear hb e0 e1 CS hc5
        go_wp2
        generalize (w5.setCell ⟨s0, 0, none⟩ (.int .i64 2)).setCell ⟨s0, 1, none⟩ (.int .i64 0) = W at *
        clear z0 z1 f0 f1
        have z0 := cell_of HE.out 0
        have z1 := cell_of HE.out 1
        simp only [List.getElem?_toArray, List.getElem?_cons_succ, List.getElem?_cons_zero] at z0 z1
        refine bodyPost_ret (v := .tuple #[.slice none 0 0, .agg #[.int .i64 2, .int .i64 0]]) (by simp [results, Tryz.results52, go_sem, z0, z1]) rfl ?_
        exact ⟨none, 0, rfl, OwnK.none_ _, by simp, CW.out⟩
end
section
open Go.RowKit Go.Lib
set_option linter.unusedSimpArgs false
set_option linter.unusedVariables false


/-- What bytes are read as: a past, what is wrong, and where. -/
def readS (ys : List UInt8) : List (Int × Int × Int) × (Int × Int) :=
  if ys.length < 2 then ([], (4, (ys.length : Int)))
  else if ys.length = 2 + 9 * numB (ys.take 2) then (if chkS (spansR ys (numB (ys.take 2))) = 0 then (spansR ys (numB (ys.take 2)), (0, 0)) else ([], (2, 0)))
  else ([], (4, if ys.length < 2 + 9 * numB (ys.take 2) then (ys.length : Int) else ((2 + 9 * numB (ys.take 2) : Nat) : Int)))
theorem readS_short {ys : List UInt8} (h : ys.length < 2) : readS ys = ([], (4, (ys.length : Int))) := if_pos h
theorem readS_odd {ys : List UInt8} (h : ¬ ys.length < 2) (h2 : ys.length ≠ 2 + 9 * numB (ys.take 2)) : readS ys = ([], (4, if ys.length < 2 + 9 * numB (ys.take 2) then (ys.length : Int) else ((2 + 9 * numB (ys.take 2) : Nat) : Int))) := by
  unfold readS
  rw [if_neg h, if_neg h2]
theorem readS_fine {ys : List UInt8} (h : ¬ ys.length < 2) (h2 : ys.length = 2 + 9 * numB (ys.take 2)) :
    (chkS (spansR ys (numB (ys.take 2))) = 0 ∧ readS ys = (spansR ys (numB (ys.take 2)), (0, 0))) ∨ (chkS (spansR ys (numB (ys.take 2))) = 2 ∧ readS ys = ([], (2, 0))) := by
  unfold readS
  rw [if_neg h, if_pos h2]
  by_cases hk : chkS (spansR ys (numB (ys.take 2))) = 0
  · rw [if_pos hk]; exact .inl ⟨hk, rfl⟩
  · rw [if_neg hk]; exact .inr ⟨chkS_odd hk, rfl⟩
theorem Bs.base {w : World} {A : Option Addr} {n : Nat} {ys : List UInt8} (h : Bs w A n ys) (hn : 0 < n) : ∃ g o, A = some ⟨g, o, none⟩ := by
  have hl := h.len
  obtain ⟨ad, rfl, hc⟩ := h.cells 0 _ (List.getElem?_eq_getElem (by omega))
  have hsp := World.cell?_spot hc
  obtain ⟨g, o, sp⟩ := ad
  have hsp : sp = none := by simpa [Addr.add] using hsp
  subst hsp
  exact ⟨g, o, rfl⟩

theorem paread_short (w : World) (A : Option Addr) (n c : Nat) (ys : List UInt8) (h : Bs w A n ys) (h2 : ys.length < 2) :
    Calls Tryz.prog 52 #[.slice A n c] w fun e w' => ∃ A' c', e = .returned (.tuple #[.slice A' (readS ys).1.length c', .agg #[.int .i64 (readS ys).2.1, .int .i64 (readS ys).2.2]]) ∧ OwnK spanTy w' A' c' (readS ys).1 ∧ (∀ a, A' = some a → w.heap.size ≤ a.block) ∧ Chg [] w w' := by
  rw [readS_short h2]
  have hl := h.len
  subst hl
  have h3 : (ys.length : Int) < 2 := by omega
  clear h h2
  go_enter Tryz.func52, Tryz.ntmps52
  go_wp2
  refine bodyPost_ret (v := .tuple #[.slice none 0 0, .agg #[.int .i64 4, .int .i64 ys.length]]) (by simp [results, Tryz.results52, go_sem]) rfl ?_
  exact ⟨none, 0, rfl, OwnK.none_ _, by simp, (Chg.refl _ _).alloc _⟩

set_option maxHeartbeats 2000000 in
set_option maxRecDepth 100000 in
theorem paread_odd (w : World) (g o n c : Nat) (ys : List UInt8) (h : Bs w (some ⟨g, o, none⟩) n ys) (hn : n ≤ 140737488351232) (hc : n ≤ c) (hc2 : c ≤ 9223372036854775807) (hs : ¬ ys.length < 2) (many : Nat) (hm : many = numB (ys.take 2)) (hl : ys.length ≠ 2 + 9 * many) (V : Int) (hV : (ys.length < 2 + 9 * many ∧ V = ys.length) ∨ (2 + 9 * many < ys.length ∧ V = ((2 + 9 * many : Nat) : Int))) :
    Calls Tryz.prog 52 #[.slice (some ⟨g, o, none⟩) n c] w fun e w' => ∃ A' c', e = .returned (.tuple #[.slice A' 0 c', .agg #[.int .i64 4, .int .i64 V]]) ∧ OwnK spanTy w' A' c' [] ∧ (∀ a, A' = some a → w.heap.size ≤ a.block) ∧ Chg [] w w' := by
  have hl0 := h.len
  subst hl0
  obtain ⟨w1, hw1, c1, b1⟩ := news1 w (.cells #[.int .i64 0, .int .i64 0] 46)
  have W1 := Lib.hid hw1
  have HX := Lib.hid (h.chg c1 (by simp))
  have C1 := Lib.hid c1
  have F1 := Lib.hid b1
  have h2 : (2 : Int) ≤ (ys.length : Int) := by omega
  have h3 : ¬ ((ys.length : Int) < 2) := by omega
  have h4 : (2 : Int) ≤ (c : Int) := by omega
  have hmk : many < 65536 := by
    have := numB_lt 2 (ys.take 2) (by rw [List.length_take]; omega)
    omega
  have hne : ((ys.length : Int) == 2 + 9 * (many : Int)) = false := by simp; omega
  have RD := Lib.hid (show Bs w1 (some ⟨g, o, none⟩) 2 (ys.take 2) from by have := HX.out.part_ 0 2 (by omega); simpa using this)
  clear hw1 c1 b1 h hs
  rcases hV with ⟨hv, rfl⟩ | ⟨hv, rfl⟩
  · have hlt : (ys.length : Int) < 2 + 9 * (many : Int) := by omega
    clear hv hl
    go_enter Tryz.func52, Tryz.ntmps52
    go_wp2_with fail
    rw [← W1.out]
    refine (panumber_any _ _ 2 _ (ys.take 2) RD.out (by rw [List.length_take]; omega)).mono ?_
    rintro e w2 ⟨rfl, hcc⟩
    rw [← hm]
    clear hm
    have C2 := Lib.hid (C1.out.trans hcc)
    have F2 := Lib.hid (hcc.at_ F1.out (by simp))
    clear hcc W1 C1 F1 HX RD
    generalize hs0 : w.heap.size = s0 at *
    have HS0 := Lib.hid (Nat.le_of_eq hs0)
    clear hs0
    have hb := F2.out
    have z0 := cell_of hb 0
    have z1 := cell_of hb 1
    have f0 := free_of hb 0
    have f1 := free_of hb 1
    simp only [List.getElem?_toArray, List.getElem?_cons_succ, List.getElem?_cons_zero] at z0 z1
    have e0 := heap_setCell_same _ s0 0 _ _ (.int .i64 4) hb
    have e1 := heap_setCell_same _ s0 1 _ _ (.int .i64 ys.length) e0
    have HE : Hid (((w2.setCell ⟨s0, 0, none⟩ (.int .i64 4)).setCell ⟨s0, 1, none⟩ (.int .i64 ys.length)).heap[s0]? = some (.cells #[.int .i64 4, .int .i64 ys.length] 46 (0, 0))) := Lib.hid (by simpa using e1)
    have CW := Lib.hid (Chg.put (Chg.put C2.out HS0.out 0 (.int .i64 4)) HS0.out 1 (.int .i64 ys.length))
    clear hb e0 e1
    go_wp2
    try simp only [show min (ys.length : Int) (2 + 9 * (many : Int)) = (ys.length : Int) by omega]
    generalize (w2.setCell ⟨s0, 0, none⟩ (.int .i64 4)).setCell ⟨s0, 1, none⟩ (.int .i64 ys.length) = W at *
    clear z0 z1 f0 f1
    have z0 := cell_of HE.out 0
    have z1 := cell_of HE.out 1
    simp only [List.getElem?_toArray, List.getElem?_cons_succ, List.getElem?_cons_zero] at z0 z1
    refine bodyPost_ret (v := .tuple #[.slice none 0 0, .agg #[.int .i64 4, .int .i64 ys.length]]) (by simp [results, Tryz.results52, go_sem, z0, z1]) rfl ?_
    exact ⟨none, 0, rfl, OwnK.none_ _, by simp, CW.out⟩
  · have hlt : ¬ (ys.length : Int) < 2 + 9 * (many : Int) := by omega
    have hlt2 : 2 + 9 * (many : Int) < (ys.length : Int) := by omega
    have hlt3 : 2 + 9 * (many : Int) ≤ (ys.length : Int) := by omega
    clear hv hl
    go_enter Tryz.func52, Tryz.ntmps52
    go_wp2_with fail
    rw [← W1.out]
    refine (panumber_any _ _ 2 _ (ys.take 2) RD.out (by rw [List.length_take]; omega)).mono ?_
    rintro e w2 ⟨rfl, hcc⟩
    rw [← hm]
    clear hm
    have C2 := Lib.hid (C1.out.trans hcc)
    have F2 := Lib.hid (hcc.at_ F1.out (by simp))
    clear hcc W1 C1 F1 HX RD
    generalize hs0 : w.heap.size = s0 at *
    have HS0 := Lib.hid (Nat.le_of_eq hs0)
    clear hs0
    have hb := F2.out
    have z0 := cell_of hb 0
    have z1 := cell_of hb 1
    have f0 := free_of hb 0
    have f1 := free_of hb 1
    simp only [List.getElem?_toArray, List.getElem?_cons_succ, List.getElem?_cons_zero] at z0 z1
    have e0 := heap_setCell_same _ s0 0 _ _ (.int .i64 4) hb
    have e1 := heap_setCell_same _ s0 1 _ _ (.int .i64 (2 + 9 * (many : Int))) e0
    have HE : Hid (((w2.setCell ⟨s0, 0, none⟩ (.int .i64 4)).setCell ⟨s0, 1, none⟩ (.int .i64 (2 + 9 * (many : Int)))).heap[s0]? = some (.cells #[.int .i64 4, .int .i64 (2 + 9 * (many : Int))] 46 (0, 0))) := Lib.hid (by simpa using e1)
    have CW := Lib.hid (Chg.put (Chg.put C2.out HS0.out 0 (.int .i64 4)) HS0.out 1 (.int .i64 (2 + 9 * (many : Int))))
    clear hb e0 e1
    go_wp2
    try simp only [show min (ys.length : Int) (2 + 9 * (many : Int)) = 2 + 9 * (many : Int) by omega]
    generalize (w2.setCell ⟨s0, 0, none⟩ (.int .i64 4)).setCell ⟨s0, 1, none⟩ (.int .i64 (2 + 9 * (many : Int))) = W at *
    clear z0 z1 f0 f1
    have z0 := cell_of HE.out 0
    have z1 := cell_of HE.out 1
    simp only [List.getElem?_toArray, List.getElem?_cons_succ, List.getElem?_cons_zero] at z0 z1
    refine bodyPost_ret (v := .tuple #[.slice none 0 0, .agg #[.int .i64 4, .int .i64 (2 + 9 * (many : Int))]]) (by simp [results, Tryz.results52, go_sem, z0, z1]) rfl ?_
    exact ⟨none, 0, rfl, OwnK.none_ _, by simp, CW.out⟩

theorem paread_any (w : World) (A : Option Addr) (n c : Nat) (ys : List UInt8) (h : Bs w A n ys) (hn : n ≤ 140737488351232) (hc : n ≤ c) (hc2 : c ≤ 9223372036854775807) :
    Calls Tryz.prog 52 #[.slice A n c] w fun e w' => ∃ A' c', e = .returned (.tuple #[.slice A' (readS ys).1.length c', .agg #[.int .i64 (readS ys).2.1, .int .i64 (readS ys).2.2]]) ∧ OwnK spanTy w' A' c' (readS ys).1 ∧ (∀ a, A' = some a → w.heap.size ≤ a.block) ∧ Chg [] w w' := by
  have hl := h.len
  by_cases h2 : ys.length < 2
  · exact paread_short w A n c ys h h2
  obtain ⟨g, o, rfl⟩ := h.base (by omega)
  by_cases h3 : ys.length = 2 + 9 * numB (ys.take 2)
  · rcases readS_fine h2 h3 with ⟨hk, e⟩ | ⟨hk, e⟩ <;> rw [e]
    · exact paread_loop w g o n c ys h hn hc hc2 _ rfl h3 _ _ (.inl ⟨hk, rfl, rfl⟩)
    · exact paread_loop w g o n c ys h hn hc hc2 _ rfl h3 _ _ (.inr ⟨hk, rfl, rfl⟩)
  · rw [readS_odd h2 h3]
    refine paread_odd w g o n c ys h hn hc hc2 h2 _ rfl h3 _ ?_
    by_cases h4 : ys.length < 2 + 9 * numB (ys.take 2)
    · exact .inl ⟨h4, if_pos h4⟩
    · exact .inr ⟨by omega, if_neg h4⟩
end
section
open Go.RowKit

/-- A reader at block b of the bytes xs (in row g; g = b: in none), at the place p, with the fault fe at fa. -/
def Rdr (w : World) (b g : Nat) (xs : List UInt8) (p : Nat) (fe fa : Int) : Prop :=
  ∃ A c, w.heap[b]? = some (.cells #[.pointer (some ⟨b, 0, none⟩), .slice A xs.length c, .int .i64 p, .int .i64 fe, .int .i64 fa] 108 (0, 0)) ∧ OwnB w A c xs ∧ (A = none ∧ g = b ∨ A = some ⟨g, 0, none⟩)

theorem Rdr.chg {S : List Nat} {w w' : World} {b g : Nat} {xs : List UInt8} {p : Nat} {fe fa : Int} (h : Rdr w b g xs p fe fa) (hc : Chg S w w') (hb : b ∉ S) (hg : g ∉ S) : Rdr w' b g xs p fe fa := by
  obtain ⟨A, c, h1, h2, h3⟩ := h
  refine ⟨A, c, hc.at_ h1 hb, h2.chg hc ?_, h3⟩
  rintro a rfl
  rcases h3 with ⟨h3, _⟩ | h3
  · cases h3
  · cases h3; exact hg
theorem Rdr.lt {w : World} {b g : Nat} {xs : List UInt8} {p : Nat} {fe fa : Int} (h : Rdr w b g xs p fe fa) : b < w.heap.size ∧ g < w.heap.size := by
  obtain ⟨A, c, h1, h2, h3⟩ := h
  have hb := lt_of_heap h1
  rcases h3 with ⟨_, rfl⟩ | rfl
  · exact ⟨hb, hb⟩
  · rcases h2.form with ⟨h, _⟩ | ⟨g', cur, h, h4, _⟩
    · cases h
    · cases h; exact ⟨hb, lt_of_heap h4⟩

theorem someR : (Tryz.prog.info? 108).isSome = true := by kernel_rfl
theorem eqlPR (a : Addr) (w : World) : (binOp .eql 79 (.pointer (some a)) (.pointer (some a))).run Tryz.prog w = .ok (.bool true) w := by
  obtain ⟨j, hj⟩ := Option.isSome_iff_exists.1 someR
  exact run_eql_ptr_same w a Tryz.underlying79 hj

theorem flipw {P : Program} {f : FuncId} {args : Array Value} {w : World} {v : Value} (h : Calls P f args w fun e w' => e = .returned v ∧ w = w') : Calls P f args w fun e w' => e = .returned v ∧ w' = w :=
  h.mono fun _ _ hh => ⟨hh.1, hh.2.symm⟩
theorem Rdr.drewN {w : World} {b g : Nat} {xs : List UInt8} {p : Nat} {fe fa : Int} (h : Rdr w b g xs p fe fa) (n : Nat) : Rdr (w.drewN n) b g xs p fe fa := h.chg ((Chg.refl [] w).drewN n) (by simp) (by simp)

set_option maxHeartbeats 400000 in
theorem open_any (w : World) (B : Option Addr) (m d : Nat) (ys : List UInt8) (hr : Bs w B m ys) (hm : m ≤ 140737488351232) :
    Calls Tryz.prog 48 #[.slice B m d] w fun r w' => ∃ b g, r = .returned (.pointer (some ⟨b, 0, none⟩)) ∧ Rdr w' b g ys 0 0 0 ∧ Chg [] w w' ∧ w.heap.size ≤ b ∧ w.heap.size ≤ g := by
  have hl := hr.len
  go_enter Tryz.func48, Tryz.ntmps48
  go_wp2_with (go_at_call 73; refine (clone_any _ _ _ _ ys hr hm).mono ?_; rintro r w1 ⟨A1, c1, rfl, hF⟩)
  go_ret
  subst hl
  obtain ⟨h1, h2, h3⟩ := hF
  have h4 := h3.alloc (.cells #[.pointer (some ⟨w1.heap.size, 0, none⟩), .slice A1 ys.length c1, .int .i64 0, .int .i64 0, .int .i64 0] 108)
  have hs := h3.size
  have own : OwnB (w1.alloc (.cells #[.pointer (some ⟨w1.heap.size, 0, none⟩), .slice A1 ys.length c1, .int .i64 0, .int .i64 0, .int .i64 0] 108)) A1 c1 ys := h1.chg ((Chg.refl [] w1).alloc _) (by simp)
  rcases h1.form with ⟨rfl, _⟩ | ⟨g, cur, rfl, _⟩
  · exact ⟨_, _, rfl, ⟨none, c1, heap_alloc_new w1 _, own, .inl ⟨rfl, rfl⟩⟩, h4, hs, hs⟩
  · exact ⟨_, g, rfl, ⟨_, c1, heap_alloc_new w1 _, own, .inr rfl⟩, h4, hs, h2 _ rfl⟩

set_option maxHeartbeats 400000 in
theorem rmade_yes (w : World) (b g : Nat) (xs : List UInt8) (p : Nat) (fe fa : Int) (h : Rdr w b g xs p fe fa) :
    Calls Tryz.prog 101 #[.pointer (some ⟨b, 0, none⟩)] w fun e w' => e = .returned (.bool true) ∧ w = w' := by
  obtain ⟨A, c, h1, _, _⟩ := h
  have h0 := cell_of h1 0
  simp only [List.getElem?_toArray, List.getElem?_cons_zero] at h0
  have H := Lib.hid h1
  clear h1
  have h1 := eqlPR ⟨b, 0, none⟩
  go_enter Tryz.func101, Tryz.ntmps101
  go_wp2
  go_ret
  exact ⟨rfl, rfl⟩
set_option maxHeartbeats 400000 in
theorem rreads_any (w : World) (b g : Nat) (xs : List UInt8) (p : Nat) (fe fa : Int) (h : Rdr w b g xs p fe fa) :
    Calls Tryz.prog 78 #[.pointer (some ⟨b, 0, none⟩)] w fun e w' => e = .returned (.bool (fe == 0)) ∧ w = w' := by
  obtain ⟨A, c, h1, _, _⟩ := id h
  have h0 := cell_of h1 3
  simp only [List.getElem?_toArray, List.getElem?_cons_zero, List.getElem?_cons_succ] at h0
  have H := Lib.hid h1
  clear h1
  go_enter Tryz.func78, Tryz.ntmps78
  go_wp2_with (go_at_call 101; refine (rmade_yes _ b g xs p fe fa h).mono ?_; rintro r w' ⟨rfl, rfl⟩)
  go_ret
  exact ⟨rfl, rfl⟩
set_option maxHeartbeats 400000 in
theorem rfault_any (w : World) (b g : Nat) (xs : List UInt8) (p : Nat) (fe fa : Int) (h : Rdr w b g xs p fe fa) :
    Calls Tryz.prog 81 #[.pointer (some ⟨b, 0, none⟩)] w fun e w' => e = .returned (.agg #[.int .i64 fe, .int .i64 fa]) ∧ Chg [] w w' := by
  obtain ⟨A, c, h1, _, _⟩ := id h
  have h0 := cell_of h1 3
  have h2 := cell_of h1 4
  simp only [List.getElem?_toArray, List.getElem?_cons_zero, List.getElem?_cons_succ] at h0 h2
  have hb := lt_of_heap h1
  have H := Lib.hid h1
  clear h1
  have h' := h.chg ((Chg.refl [] w).alloc (.cells #[.int .i64 0, .int .i64 0] 46)) (by simp) (by simp)
  go_enter Tryz.func81, Tryz.ntmps81
  go_wp2_with (go_at_call 101; refine (rmade_yes _ b g xs p fe fa h').mono ?_; rintro r w' ⟨rfl, rfl⟩)
  refine bodyPost_ret (v := .agg #[.int .i64 fe, .int .i64 fa]) (by simp [results, Tryz.results81, go_sem]) rfl ?_
  exact ⟨rfl, (Chg.refl _ _).alloc _⟩

set_option maxHeartbeats 400000 in
theorem rend_left (w : World) (b g : Nat) (xs : List UInt8) (p : Nat) (fa : Int) (h : Rdr w b g xs p 0 fa) (hp : p < xs.length) (_hx : xs.length ≤ 140737488351232) :
    Calls Tryz.prog 51 #[.pointer (some ⟨b, 0, none⟩)] w fun e w' => e = .returned (.agg #[.int .i64 4, .int .i64 p]) ∧ Chg [] w w' := by
  obtain ⟨A, c, h1, _, _⟩ := id h
  have h0 := cell_of h1 2
  have h2 := cell_of h1 1
  simp only [List.getElem?_toArray, List.getElem?_cons_zero, List.getElem?_cons_succ] at h0 h2
  have hb := lt_of_heap h1
  have H := Lib.hid h1
  clear h1
  have h' := h.chg ((Chg.refl [] w).alloc (.cells #[.int .i64 0, .int .i64 0] 46)) (by simp) (by simp)
  go_enter Tryz.func51, Tryz.ntmps51
  go_wp2
  go_quiet ((go_at_call 78; exact Calls.quiet_of_same (flipw (rreads_any _ b g xs p 0 fa (h'.drewN _)))))
  go_wp2
  refine bodyPost_ret (v := .agg #[.int .i64 4, .int .i64 p]) (by simp [results, Tryz.results51, go_sem]) rfl ?_
  exact ⟨rfl, ((((Chg.refl _ _).alloc _).drewN _).setCell (.inr (Nat.le_refl _)) _).setCell (.inr (Nat.le_refl _)) _⟩
set_option maxHeartbeats 400000 in
theorem rend_done (w : World) (b g : Nat) (xs : List UInt8) (p : Nat) (fe fa : Int) (h : Rdr w b g xs p fe fa) (hp : fe = 0 → p = xs.length) (_hx : xs.length ≤ 140737488351232) :
    Calls Tryz.prog 51 #[.pointer (some ⟨b, 0, none⟩)] w fun e w' => e = .returned (.agg #[.int .i64 fe, .int .i64 fa]) ∧ Chg [] w w' := by
  obtain ⟨A, c, h1, _, _⟩ := id h
  have h0 := cell_of h1 2
  have h2 := cell_of h1 1
  simp only [List.getElem?_toArray, List.getElem?_cons_zero, List.getElem?_cons_succ] at h0 h2
  have hb := lt_of_heap h1
  have H := Lib.hid h1
  clear h1
  have hc := (Chg.refl [] w).alloc (.cells #[.int .i64 0, .int .i64 0] 46)
  have h' := h.chg hc (by simp) (by simp)
  have Hh := Lib.hid h'
  by_cases he : fe = 0
  · have hp' := hp he
    subst he hp'
    clear hp
    go_enter Tryz.func51, Tryz.ntmps51
    go_wp2
    go_quiet ((go_at_call 78; exact Calls.quiet_of_same (flipw (rreads_any _ b g xs xs.length 0 fa (Hh.out.drewN _)))))
    go_wp2_with (go_at_call 81; refine (rfault_any _ b g xs xs.length 0 fa (Hh.out.drewN _)).mono ?_; rintro r w1 ⟨rfl, hc1⟩; have q := hc1.at_ (heap_alloc_new w (.cells #[.int .i64 0, .int .i64 0] 46)) (by simp); have q0 := cell_of q 0; have q1 := cell_of q 1; have f0 := free_of q 0; have f1 := free_of q 1; simp only [List.getElem?_toArray, List.getElem?_cons_zero, List.getElem?_cons_succ] at q0 q1; have Q := Lib.hid q; clear q; have C1 := Lib.hid hc1; clear hc1)
    refine bodyPost_ret (v := .agg #[.int .i64 0, .int .i64 fa]) (by simp [results, Tryz.results51, go_sem, q0, q1]) rfl ?_
    exact ⟨rfl, (((hc.drewN nq).trans C1.out).setCell (.inr (Nat.le_refl _)) _).setCell (.inr (Nat.le_refl _)) _⟩
  · have he' : (fe == 0) = false := by simpa using he
    clear hp
    have hr : ∀ n, Calls Tryz.prog 78 #[.pointer (some ⟨b, 0, none⟩)] ((w.alloc (.cells #[.int .i64 0, .int .i64 0] 46)).drewN n) fun e w' => e = .returned (.bool false) ∧ w' = ((w.alloc (.cells #[.int .i64 0, .int .i64 0] 46)).drewN n) := fun n => by
      have := flipw (rreads_any _ b g xs p fe fa (Hh.out.drewN n))
      rwa [he'] at this
    have Hr := Lib.hid hr
    clear hr
    go_enter Tryz.func51, Tryz.ntmps51
    go_wp2
    go_quiet ((go_at_call 78; exact Calls.quiet_of_same (Hr.out _)))
    go_wp2_with (go_at_call 81; refine (rfault_any _ b g xs p fe fa (Hh.out.drewN _)).mono ?_; rintro r w1 ⟨rfl, hc1⟩; have q := hc1.at_ (heap_alloc_new w (.cells #[.int .i64 0, .int .i64 0] 46)) (by simp); have q0 := cell_of q 0; have q1 := cell_of q 1; have f0 := free_of q 0; have f1 := free_of q 1; simp only [List.getElem?_toArray, List.getElem?_cons_zero, List.getElem?_cons_succ] at q0 q1; have Q := Lib.hid q; clear q; have C1 := Lib.hid hc1; clear hc1)
    refine bodyPost_ret (v := .agg #[.int .i64 fe, .int .i64 fa]) (by simp [results, Tryz.results51, go_sem, q0, q1]) rfl ?_
    exact ⟨rfl, (((hc.drewN nq).trans C1.out).setCell (.inr (Nat.le_refl _)) _).setCell (.inr (Nat.le_refl _)) _⟩
end
section
open Go.RowKit

/-- A scope whose jumps all go forward to one label: what stands there is walked from each of them. -/
theorem wp_scope_fwd {P : Program} {a : Act} {w : World} {Q : Exit → Act → World → Prop} {c rest : Code} (l : Nat) (hf : findLabel c l = some rest)
    (first : c.wp P (Exit.jump l (fun a' w' => rest.wp P (Exit.jump l (fun _ _ => False) Q) a' w') Q) a w) : (Code.scope c).wp P Q a w := by
  refine wp_scope_jumps l _ (fun _ _ => 0) hf first ?_
  intro a w h b k cs
  obtain ⟨e, a', w', hq, harr⟩ := h b k cs
  refine ⟨e, a', w', ?_, harr⟩
  cases e with
  | goto l' => exact absurd hq.2 (by simp)
  | _ => exact hq

/-- The number of bytes, the highest first. -/
def val (l : List UInt8) : Nat := l.foldl (fun n x => n * 256 + x.toNat) 0

/-- Behind a fault. -/
def Failed (w w' : World) (b g : Nat) (xs : List UInt8) (p : Nat) (fe fa : Int) : Prop := Rdr w' b g xs p fe fa ∧ Chg [b] w w'

theorem failed_of {w : World} {b g : Nat} {xs : List UInt8} {p : Nat} {A : Option Addr} {c : Nat} {fe0 fa0 : Int} (h1 : w.heap[b]? = some (.cells #[.pointer (some ⟨b, 0, none⟩), .slice A xs.length c, .int .i64 p, .int .i64 fe0, .int .i64 fa0] 108 (0, 0)))
    (h2 : OwnB w A c xs) (h3 : A = none ∧ g = b ∨ A = some ⟨g, 0, none⟩) (n m : Nat) (fe fa : Int) :
    Failed w ((((w.drewN n).setCell ⟨b, 3, none⟩ (.int .i64 fe)).setCell ⟨b, 4, none⟩ (.int .i64 fa)).drewN m) b g xs p fe fa := by
  have hne := h2.ne h1 (by decide)
  have q1 := heap_setCell_same (w.drewN n) b 3 _ _ (.int .i64 fe) h1
  have q2 := heap_setCell_same _ b 4 _ _ (.int .i64 fa) q1
  refine ⟨⟨A, c, by simpa using q2, h2.keep fun g o eA ho => ?_, h3⟩, ((((Chg.refl _ _).drewN _).setCell (by simp) _).setCell (by simp) _).drewN _⟩
  have hn := hne _ eA
  show (((w.drewN n).setCell ⟨b, 3, none⟩ (.int .i64 fe)).setCell ⟨b, 4, none⟩ (.int .i64 fa)).heap[g]? = _
  rw [Below.heap_setCell _ _ _ _ hn, Below.heap_setCell _ _ _ _ hn]; exact ho

set_option maxHeartbeats 400000 in
theorem num_end (w : World) (b g : Nat) (xs : List UInt8) (fa low high : Int) (h : Rdr w b g xs xs.length 0 fa) :
    Calls Tryz.prog 79 #[.pointer (some ⟨b, 0, none⟩), .int .i64 low, .int .i64 high] w fun e w' => e = .returned (.tuple #[.int .i64 0, .int .i64 xs.length]) ∧ Failed w w' b g xs xs.length 4 xs.length := by
  obtain ⟨A, c, h1, h2, h3⟩ := h
  have k1 := cell_of h1 1
  have k2 := cell_of h1 2
  have k3 := cell_of h1 3
  have k4 := cell_of h1 4
  have f3 := free_of h1 3
  have f4 := free_of h1 4
  simp only [List.getElem?_toArray, List.getElem?_cons_zero, List.getElem?_cons_succ] at k1 k2 k3 k4
  have H := Lib.hid h1
  have H3 := Lib.hid h3
  clear h1 h3
  go_enter Tryz.func79, Tryz.ntmps79
  go_wp2
  refine wp_scope_fwd 0 rfl ?_
  go_wp2
  go_quiet (fail)
  go_wp2
  go_quiet (fail)
  go_wp2
  go_step3
  refine And.intro rfl ?_
  show Code.wp _ _ _ _ _
  go_wp2
  go_quiet (fail)
  go_wp2
  simp only [Exit.jump]
  go_ret2
  exact ⟨rfl, failed_of H.out h2 H3.out _ _ _ _⟩

theorem OwnB.at_ {w : World} {A : Option Addr} {c g : Nat} {xs : List UInt8} (h : OwnB w A c xs) {b p : Nat} (h3 : A = none ∧ g = b ∨ A = some ⟨g, 0, none⟩) {x : UInt8} (hx : xs[p]? = some x) : A = some ⟨g, 0, none⟩ ∧ w.cell? ⟨g, p, none⟩ = some (.int .u8 (x.toNat : Int)) := by
  obtain ⟨a, e, hc⟩ := h.reads.cells p x hx
  rcases h3 with ⟨h3, _⟩ | h3
  · rw [h3] at e; cases e
  · rw [h3] at e; cases e
    rw [add_zero_lit] at hc
    exact ⟨h3, hc⟩

set_option maxHeartbeats 400000 in
theorem num_arg (w : World) (b g : Nat) (xs : List UInt8) (p : Nat) (fa low high : Int) (h : Rdr w b g xs p 0 fa) (x : UInt8) (hx : xs[p]? = some x) (h8 : 8 < (x.toNat : Int)) :
    Calls Tryz.prog 79 #[.pointer (some ⟨b, 0, none⟩), .int .i64 low, .int .i64 high] w fun e w' => e = .returned (.tuple #[.int .i64 0, .int .i64 p]) ∧ Failed w w' b g xs p 2 p := by
  obtain ⟨A, c, h1, h2, h3⟩ := h
  have hp : p < xs.length := (List.getElem?_eq_some_iff.1 hx).1
  have hne : ((p : Int) == xs.length) = false := by simp; omega
  obtain ⟨rfl, hc⟩ := h2.at_ h3 hx
  have k1 := cell_of h1 1
  have k2 := cell_of h1 2
  have k3 := cell_of h1 3
  have k4 := cell_of h1 4
  have f3 := free_of h1 3
  have f4 := free_of h1 4
  simp only [List.getElem?_toArray, List.getElem?_cons_zero, List.getElem?_cons_succ] at k1 k2 k3 k4
  have H := Lib.hid h1
  have H3 := Lib.hid h3
  have Hx := Lib.hid hx
  clear h1 h3 hx
  go_enter Tryz.func79, Tryz.ntmps79
  go_wp2
  refine wp_scope_fwd 0 rfl ?_
  go_wp2
  iterate 4 (go_quiet (fail); go_wp2)
  go_step3
  refine And.intro rfl ?_
  show Code.wp _ _ _ _ _
  go_wp2
  go_quiet (fail)
  go_wp2
  simp only [Exit.jump]
  go_ret2
  exact ⟨rfl, failed_of H.out h2 (.inr rfl) _ _ _ _⟩

set_option maxHeartbeats 400000 in
theorem num_short (w : World) (b g : Nat) (xs : List UInt8) (p : Nat) (fa low high : Int) (h : Rdr w b g xs p 0 fa) (hl : xs.length ≤ 140737488351232) (x : UInt8) (hx : xs[p]? = some x) (h8 : (x.toNat : Int) ≤ 8) (hs : xs.length - (p + 1) < x.toNat) :
    Calls Tryz.prog 79 #[.pointer (some ⟨b, 0, none⟩), .int .i64 low, .int .i64 high] w fun e w' => e = .returned (.tuple #[.int .i64 0, .int .i64 p]) ∧ Failed w w' b g xs p 4 xs.length := by
  obtain ⟨A, c, h1, h2, h3⟩ := h
  have hp : p < xs.length := (List.getElem?_eq_some_iff.1 hx).1
  have hcap := h2.cap
  unfold maxLen at hcap
  have hne : ((p : Int) == xs.length) = false := by simp; omega
  obtain ⟨rfl, hc⟩ := h2.at_ h3 hx
  have k1 := cell_of h1 1
  have k2 := cell_of h1 2
  have k3 := cell_of h1 3
  have k4 := cell_of h1 4
  have f3 := free_of h1 3
  have f4 := free_of h1 4
  simp only [List.getElem?_toArray, List.getElem?_cons_zero, List.getElem?_cons_succ] at k1 k2 k3 k4
  have H := Lib.hid h1
  have Hx := Lib.hid hx
  clear h1 h3 hx
  go_enter Tryz.func79, Tryz.ntmps79
  go_wp2
  refine wp_scope_fwd 0 rfl ?_
  go_wp2
  iterate 4 (go_quiet (fail); go_wp2)
  all_goals
    go_quiet (fail)
    go_wp2
    go_step3
    refine And.intro rfl ?_
    show Code.wp _ _ _ _ _
    go_wp2
    go_quiet (fail)
    go_wp2
    simp only [Exit.jump]
    go_ret2
    exact ⟨rfl, failed_of H.out h2 (.inr rfl) _ _ _ _⟩

set_option maxHeartbeats 400000 in
theorem num_zero (w : World) (b g : Nat) (xs : List UInt8) (p : Nat) (fa low high : Int) (h : Rdr w b g xs p 0 fa) (hl : xs.length ≤ 140737488351232) (x : UInt8) (hx : xs[p]? = some x) (h8 : (x.toNat : Int) ≤ 8) (hs : x.toNat ≤ xs.length - (p + 1)) (h1 : 0 < x.toNat) (hz : xs[p + 1]? = some 0) :
    Calls Tryz.prog 79 #[.pointer (some ⟨b, 0, none⟩), .int .i64 low, .int .i64 high] w fun e w' => e = .returned (.tuple #[.int .i64 0, .int .i64 p]) ∧ Failed w w' b g xs p 2 p := by
  obtain ⟨A, c, h1, h2, h3⟩ := h
  have hp : p < xs.length := (List.getElem?_eq_some_iff.1 hx).1
  have hcap := h2.cap
  unfold maxLen at hcap
  have hne : ((p : Int) == xs.length) = false := by simp; omega
  have hcc : ¬ c = p + 1 := by omega
  obtain ⟨rfl, hc⟩ := h2.at_ h3 hx
  obtain ⟨_, hc2⟩ := h2.at_ h3 hz
  have k1 := cell_of h1 1
  have k2 := cell_of h1 2
  have k3 := cell_of h1 3
  have k4 := cell_of h1 4
  have f3 := free_of h1 3
  have f4 := free_of h1 4
  simp only [List.getElem?_toArray, List.getElem?_cons_zero, List.getElem?_cons_succ] at k1 k2 k3 k4
  have H := Lib.hid h1
  have Hx := Lib.hid hx
  have Hz := Lib.hid hz
  clear h1 h3 hx hz
  go_enter Tryz.func79, Tryz.ntmps79
  go_wp2
  refine wp_scope_fwd 0 rfl ?_
  go_wp2
  iterate 7 (go_quiet (fail); go_wp2)
  go_step3
  refine And.intro rfl ?_
  show Code.wp _ _ _ _ _
  go_wp2
  go_quiet (fail)
  go_wp2
  simp only [Exit.jump]
  go_ret2
  exact ⟨rfl, failed_of H.out h2 (.inr rfl) _ _ _ _⟩
end
section
open Go.RowKit

set_option maxHeartbeats 1000000 in
theorem num_none (w : World) (b g : Nat) (xs : List UInt8) (p : Nat) (fa low high : Int) (h : Rdr w b g xs p 0 fa) (hl : xs.length ≤ 140737488351232) (x : UInt8) (hx : xs[p]? = some x) (h0 : x.toNat = 0) (hr : low ≤ 0) (hr2 : 0 ≤ high) :
    Calls Tryz.prog 79 #[.pointer (some ⟨b, 0, none⟩), .int .i64 low, .int .i64 high] w fun e w' => e = .returned (.tuple #[.int .i64 0, .int .i64 ((p : Int) + 1)]) ∧ Chg [] w w' := by
  obtain ⟨A, c, h1, h2, h3⟩ := h
  have hp : p < xs.length := (List.getElem?_eq_some_iff.1 hx).1
  have hcap := h2.cap
  unfold maxLen at hcap
  have hne : ((p : Int) == xs.length) = false := by simp; omega
  obtain ⟨rfl, hc⟩ := h2.at_ h3 hx
  rw [h0] at hc
  have k1 := cell_of h1 1
  have k2 := cell_of h1 2
  simp only [List.getElem?_toArray, List.getElem?_cons_zero, List.getElem?_cons_succ] at k1 k2
  have H := Lib.hid h1
  have Hx := Lib.hid hx
  have H0 := Lib.hid h0
  clear h1 h3 hx h0
  go_enter Tryz.func79, Tryz.ntmps79
  go_wp2
  refine wp_scope_fwd 0 rfl ?_
  go_wp2
  iterate 4 (go_quiet (fail); go_wp2)
  all_goals
    iterate 2 (go_quiet (fail); go_wp2)
    refine wp_loop_rounds 1 ?_
    rw [rounds_succ]
    go_wp2
    go_quiet (fail)
    go_wp2
    simp only [Exit.jump]
    go_ret2
    exact ⟨rfl, ((Chg.refl _ _).drewN _).drewN _⟩

set_option maxHeartbeats 1000000 in
theorem num_none_out (w : World) (b g : Nat) (xs : List UInt8) (p : Nat) (fa low high : Int) (h : Rdr w b g xs p 0 fa) (x : UInt8) (hx : xs[p]? = some x) (h0 : x.toNat = 0) (hr : 0 < low ∨ low ≤ 0 ∧ high < 0) :
    Calls Tryz.prog 79 #[.pointer (some ⟨b, 0, none⟩), .int .i64 low, .int .i64 high] w fun e w' => e = .returned (.tuple #[.int .i64 0, .int .i64 p]) ∧ Failed w w' b g xs p 5 p := by
  obtain ⟨A, c, h1, h2, h3⟩ := h
  have hp : p < xs.length := (List.getElem?_eq_some_iff.1 hx).1
  have hcap := h2.cap
  unfold maxLen at hcap
  have hne : ((p : Int) == xs.length) = false := by simp; omega
  obtain ⟨rfl, hc⟩ := h2.at_ h3 hx
  rw [h0] at hc
  have k1 := cell_of h1 1
  have k2 := cell_of h1 2
  have k3 := cell_of h1 3
  have k4 := cell_of h1 4
  have f3 := free_of h1 3
  have f4 := free_of h1 4
  simp only [List.getElem?_toArray, List.getElem?_cons_zero, List.getElem?_cons_succ] at k1 k2 k3 k4
  have H := Lib.hid h1
  have Hx := Lib.hid hx
  have H0 := Lib.hid h0
  clear h1 h3 hx h0
  rcases hr with hr | ⟨hr, hr2⟩
  all_goals
    go_enter Tryz.func79, Tryz.ntmps79
    go_wp2
    refine wp_scope_fwd 0 rfl ?_
    go_wp2
    iterate 4 (go_quiet (fail); go_wp2)
    all_goals
      iterate 2 (go_quiet (fail); go_wp2)
      refine wp_loop_rounds 1 ?_
      rw [rounds_succ]
      go_wp2
      go_quiet (fail)
      go_wp2
      go_step3
      refine And.intro rfl ?_
      show Code.wp _ _ _ _ _
      go_wp2
      go_quiet (fail)
      go_wp2
      simp only [Exit.jump]
      go_ret2
      exact ⟨rfl, failed_of H.out h2 (.inr rfl) _ _ _ _⟩
end
section
open Go.RowKit

theorem val_snoc (l : List UInt8) (c : UInt8) : val (l ++ [c]) = val l * 256 + c.toNat := by simp [val, List.foldl_append]
theorem val_nil : val [] = 0 := rfl
theorem val_lt : ∀ (k : Nat) (l : List UInt8), l.length = k → val l < 256 ^ k
  | 0, l, h => by
    have : l = [] := List.eq_nil_of_length_eq_zero h
    subst this; decide
  | k + 1, l, h => by
    obtain ⟨c, hc⟩ : ∃ c, l = l.take k ++ [c] := ⟨l[k]'(by omega), by rw [List.take_append_getElem]; exact (List.take_of_length_le (by omega)).symm⟩
    have hk := val_lt k (l.take k) (by simp; omega)
    have hb := c.toNat_lt
    rw [hc, val_snoc, Nat.pow_succ]
    omega
theorem take_more (l : List UInt8) (j : Nat) (h : j < l.length) : l.take (j + 1) = l.take j ++ [l.getD j 0] := by
  rw [List.take_succ_eq_append_getElem h]
  simp [List.getD, h]

/-- The number of the first j bytes behind the place. -/
def dv (xs : List UInt8) (p j : Nat) : Nat := val ((xs.drop (p + 1)).take j)
theorem dv_zero (xs : List UInt8) (p : Nat) : dv xs p 0 = 0 := by simp [dv, val_nil]
/-- The byte at a place. -/
def bt (xs : List UInt8) (j : Nat) : Nat := (xs.getD j 0).toNat
theorem bt_lt (xs : List UInt8) (j : Nat) : bt xs j < 256 := (xs.getD j 0).toNat_lt
theorem dv_succ (xs : List UInt8) (p j : Nat) (h : p + 1 + j < xs.length) : dv xs p (j + 1) = dv xs p j * 256 + bt xs (p + 1 + j) := by
  unfold dv bt
  rw [take_more _ _ (by simp; omega), val_snoc]
  congr 2
  simp [List.getD, List.getElem?_drop]
theorem dv_lt (xs : List UInt8) (p j : Nat) (h : p + 1 + j ≤ xs.length) : dv xs p j < 256 ^ j := val_lt j _ (by simp; omega)
theorem dv_lt8 (xs : List UInt8) (p j : Nat) (h : p + 1 + j ≤ xs.length) (hj : j ≤ 8) : dv xs p j ≤ 18446744073709551615 := by
  have h1 := dv_lt xs p j h
  have h2 : 256 ^ j ≤ 256 ^ 8 := Nat.pow_le_pow_right (by omega) hj
  have h3 : 256 ^ 8 = 18446744073709551616 := by decide
  omega

theorem or_join (a b : Nat) (h : a * 256 + b ≤ 18446744073709551615) (hb : b < 256) : bits .or .u64 ((a : Int) * 256) (b : Int) = ((a * 256 + b : Nat) : Int) := by
  rw [show (a : Int) * 256 = ((a * 256 : Nat) : Int) by omega, u64_or_nat _ _ (by omega) (by omega), nat_join 8 _ _ (by omega) (by omega)]

set_option maxHeartbeats 1000000 in
theorem num_digits (w : World) (b g : Nat) (xs : List UInt8) (p : Nat) (fa low high : Int) (h : Rdr w b g xs p 0 fa) (hl : xs.length ≤ 140737488351232) (x : UInt8) (hx : xs[p]? = some x) (h8 : (x.toNat : Int) ≤ 8) (hs : x.toNat ≤ xs.length - (p + 1)) (h0 : 0 < x.toNat) (hz : bt xs (p + 1) ≠ 0)
    (hv : dv xs p x.toNat ≤ 4611686018427387903) (hr : low ≤ dv xs p x.toNat) (hr2 : dv xs p x.toNat ≤ high) :
    Calls Tryz.prog 79 #[.pointer (some ⟨b, 0, none⟩), .int .i64 low, .int .i64 high] w fun e w' => e = .returned (.tuple #[.int .i64 (dv xs p x.toNat), .int .i64 ((p : Int) + 1 + x.toNat)]) ∧ Chg [] w w' := by
  obtain ⟨A, c, h1, h2, h3⟩ := h
  have hp : p < xs.length := (List.getElem?_eq_some_iff.1 hx).1
  have hcap := h2.cap
  unfold maxLen at hcap
  have hne : ((p : Int) == xs.length) = false := by simp; omega
  have hcc : ¬ c = p + 1 := by omega
  obtain ⟨rfl, hc⟩ := h2.at_ h3 hx
  have hcell : ∀ j, p + 1 + j < xs.length → w.cell? ⟨g, p + 1 + j, none⟩ = some (.int .u8 (bt xs (p + 1 + j) : Int)) := fun j hj => by
    have e : xs[p + 1 + j]? = some (xs.getD (p + 1 + j) 0) := by simp [List.getD, hj]
    exact (h2.at_ h3 e).2
  have hc2 := hcell 0 (by omega)
  rw [Nat.add_zero] at hc2
  have hz0 : ((bt xs (p + 1) : Int) == 0) = false := by simp only [beq_eq_false_iff_ne, ne_eq]; omega
  have k1 := cell_of h1 1
  have k2 := cell_of h1 2
  simp only [List.getElem?_toArray, List.getElem?_cons_zero, List.getElem?_cons_succ] at k1 k2
  have H := Lib.hid h1
  have Hx := Lib.hid hx
  have Hc := Lib.hid hcell
  clear h1 h3 hx hz hcell
  go_enter Tryz.func79, Tryz.ntmps79
  go_wp2
  refine wp_scope_fwd 0 rfl ?_
  go_wp2
  iterate 6 (go_quiet (fail); go_wp2)
  clear hc2 hz0
  go_loop [8, 95] (fun n i => ∃ j : Nat, j ≤ x.toNat ∧ i = .int .i64 j ∧ n = .int .u64 (dv xs p j)) (fun _ i => x.toNat - (intOf i).toNat)
  case atStart => exact ⟨0, by omega, rfl, by rw [dv_zero]; rfl⟩
  case round =>
    obtain ⟨j, hj, rfl, rfl⟩ := hrel
    by_cases hlt : j < x.toNat
    · have hcj := Hc.out j (by omega)
      have hbj := dv_lt8 xs p (j + 1) (by omega) (by omega)
      rw [dv_succ xs p j (by omega)] at hbj
      have hbb := bt_lt xs (p + 1 + j)
      go_wp2
      go_round
      case rel => exact ⟨j + 1, by omega, by go_num, by rw [or_join _ _ hbj hbb, ← dv_succ xs p j (by omega)]⟩
      case measure => simp [intOf]; omega
    · obtain rfl : j = x.toNat := by omega
      go_wp2
      go_quiet (fail)
      go_wp2
      simp only [Exit.jump]
      go_ret2
      exact ⟨rfl, ((Chg.refl _ _).drewN _).drewN _⟩
set_option maxHeartbeats 1000000 in
theorem num_digits_out (w : World) (b g : Nat) (xs : List UInt8) (p : Nat) (fa low high : Int) (h : Rdr w b g xs p 0 fa) (hl : xs.length ≤ 140737488351232) (x : UInt8) (hx : xs[p]? = some x) (h8 : (x.toNat : Int) ≤ 8) (hs : x.toNat ≤ xs.length - (p + 1)) (h0 : 0 < x.toNat) (hz : bt xs (p + 1) ≠ 0)
    (hv : 4611686018427387903 < dv xs p x.toNat ∨ dv xs p x.toNat ≤ 4611686018427387903 ∧ (dv xs p x.toNat : Int) < low ∨ dv xs p x.toNat ≤ 4611686018427387903 ∧ low ≤ dv xs p x.toNat ∧ high < dv xs p x.toNat) :
    Calls Tryz.prog 79 #[.pointer (some ⟨b, 0, none⟩), .int .i64 low, .int .i64 high] w fun e w' => e = .returned (.tuple #[.int .i64 0, .int .i64 p]) ∧ Failed w w' b g xs p 5 p := by
  obtain ⟨A, c, h1, h2, h3⟩ := h
  have hp : p < xs.length := (List.getElem?_eq_some_iff.1 hx).1
  have hcap := h2.cap
  unfold maxLen at hcap
  have hne : ((p : Int) == xs.length) = false := by simp; omega
  have hcc : ¬ c = p + 1 := by omega
  obtain ⟨rfl, hc⟩ := h2.at_ h3 hx
  have hcell : ∀ j, p + 1 + j < xs.length → w.cell? ⟨g, p + 1 + j, none⟩ = some (.int .u8 (bt xs (p + 1 + j) : Int)) := fun j hj => by
    have e : xs[p + 1 + j]? = some (xs.getD (p + 1 + j) 0) := by simp [List.getD, hj]
    exact (h2.at_ h3 e).2
  have hc2 := hcell 0 (by omega)
  rw [Nat.add_zero] at hc2
  have hz0 : ((bt xs (p + 1) : Int) == 0) = false := by simp only [beq_eq_false_iff_ne, ne_eq]; omega
  have k1 := cell_of h1 1
  have k2 := cell_of h1 2
  have k3 := cell_of h1 3
  have k4 := cell_of h1 4
  have f3 := free_of h1 3
  have f4 := free_of h1 4
  simp only [List.getElem?_toArray, List.getElem?_cons_zero, List.getElem?_cons_succ] at k1 k2 k3 k4
  have H := Lib.hid h1
  have Hx := Lib.hid hx
  have Hc := Lib.hid hcell
  clear h1 h3 hx hz hcell
  go_enter Tryz.func79, Tryz.ntmps79
  go_wp2
  refine wp_scope_fwd 0 rfl ?_
  go_wp2
  iterate 6 (go_quiet (fail); go_wp2)
  clear hc2 hz0
  go_loop [8, 95] (fun n i => ∃ j : Nat, j ≤ x.toNat ∧ i = .int .i64 j ∧ n = .int .u64 (dv xs p j)) (fun _ i => x.toNat - (intOf i).toNat)
  case atStart => exact ⟨0, by omega, rfl, by rw [dv_zero]; rfl⟩
  case round =>
    obtain ⟨j, hj, rfl, rfl⟩ := hrel
    by_cases hlt : j < x.toNat
    · have hcj := Hc.out j (by omega)
      have hbj := dv_lt8 xs p (j + 1) (by omega) (by omega)
      rw [dv_succ xs p j (by omega)] at hbj
      have hbb := bt_lt xs (p + 1 + j)
      go_wp2
      go_round
      case rel => exact ⟨j + 1, by omega, by go_num, by rw [or_join _ _ hbj hbb, ← dv_succ xs p j (by omega)]⟩
      case measure => simp [intOf]; omega
    · obtain rfl : j = x.toNat := by omega
      rcases hv with hv | ⟨hv, hv2⟩ | ⟨hv, hv2, hv3⟩
      all_goals
        go_wp2
        go_quiet (fail)
        go_wp2
        go_step3
        refine And.intro rfl ?_
        show Code.wp _ _ _ _ _
        go_wp2
        go_quiet (fail)
        go_wp2
        simp only [Exit.jump]
        go_ret2
        exact ⟨rfl, failed_of H.out h2 (.inr rfl) _ _ _ _⟩
end
end Go.Proofs.YtgafkaigkaghcaaGreatDoor
