/- The document's Bytes of a past. -/
import Derived.Test.YtpgelolchfglbaaPbytes
namespace Go.Proofs.Ytpgelolchfglbaa
open Go.RowKit Go.Lib
set_option linter.unusedSimpArgs false
set_option linter.unusedVariables false

theorem okFrom_fine : ∀ (p : Option (Int × Int × Int)) (xs : List (Int × Int × Int)), okFrom p xs = true → ∀ x ∈ xs, FineS x.1 x.2.1 x.2.2
  | _, [], _, x, hx => by simp at hx
  | none, y :: l, h, x, hx => by
    simp only [okFrom, Bool.and_eq_true, decide_eq_true_eq] at h
    rcases List.mem_cons.1 hx with rfl | hx
    · exact h.1
    · exact okFrom_fine _ l h.2 x hx
  | some _, y :: l, h, x, hx => by
    simp only [okFrom, Bool.and_eq_true, decide_eq_true_eq] at h
    rcases List.mem_cons.1 hx with rfl | hx
    · exact h.1.1
    · exact okFrom_fine _ l h.2 x hx
theorem chkS_zero {xs : List (Int × Int × Int)} (h : chkS xs = 0) : xs.length ≤ 4000 ∧ ∀ x ∈ xs, FineS x.1 x.2.1 x.2.2 := by
  unfold chkS at h
  split at h
  · rename_i hc; exact ⟨hc.1, okFrom_fine _ _ hc.2⟩
  · cases h
theorem chkS_odd {xs : List (Int × Int × Int)} (h : chkS xs ≠ 0) : chkS xs = 2 := by
  unfold chkS at h ⊢
  split at h
  · exact absurd rfl h
  · rename_i hc; rw [if_neg hc]
def bytesO (xs : List (Int × Int × Int)) : List UInt8 := if chkS xs = 0 then spansB xs else []
theorem span_cells {x : Int × Int × Int} (h : FineS x.1 x.2.1 x.2.2) : [Value.int .u8 (x.1 % 256), .int .u8 (x.2.1 / 16777216 % 256), .int .u8 (x.2.1 / 65536 % 256), .int .u8 (x.2.1 / 256 % 256), .int .u8 (x.2.1 % 256), .int .u8 (x.2.2 / 16777216 % 256), .int .u8 (x.2.2 / 65536 % 256), .int .u8 (x.2.2 / 256 % 256), .int .u8 (x.2.2 % 256)] = (spanB x).map bv := by
  obtain ⟨h1, h2, h3, h4, h5⟩ := h
  have e1 := four_cells (n := x.2.1) (by omega) (by omega)
  have e2 := four_cells (n := x.2.2) (by omega) (by omega)
  have e0 : Value.int .u8 (x.1 % 256) = bv (UInt8.ofNat x.1.toNat) := by
    unfold bv
    rw [UInt8.toNat_ofNat']
    congr 1
    omega
  rw [spanB, List.map_cons, List.map_append, ← e1, ← e2, e0]
  rfl
/-- The first two bytes: how many spans. -/
def headB (n : Nat) : List UInt8 := [UInt8.ofNat (n / 256), UInt8.ofNat n]
theorem head_cells {n : Nat} (h : n ≤ 4000) : [Value.int .u8 ((n : Int) / 256), Value.int .u8 ((n : Int) % 256)] = (headB n).map bv := by
  have e : ∀ a b : Int, a = b → Value.int .u8 a = Value.int .u8 b := fun _ _ h => by rw [h]
  simp only [headB, List.map_cons, List.map_nil, bv, UInt8.toNat_ofNat']
  rw [e ((n : Int) / 256) _ (show (n : Int) / 256 = ((n / 256 % 2 ^ 8 : Nat) : Int) by omega), e ((n : Int) % 256) _ (show (n : Int) % 256 = ((n % 2 ^ 8 : Nat) : Int) by omega)]
theorem takeB {xs : List (Int × Int × Int)} {k : Nat} {x : Int × Int × Int} (h : xs[k]? = some x) (hd : List UInt8) : hd ++ (xs.take (k + 1)).flatMap spanB = (hd ++ (xs.take k).flatMap spanB) ++ spanB x := by
  rw [List.take_add_one, h]
  simp
theorem flat_len (l : List (Int × Int × Int)) : (l.flatMap spanB).length = 9 * l.length := by
  induction l with
  | nil => rfl
  | cons x l ih => rw [List.flatMap_cons, List.length_append, spanB_len, ih, List.length_cons]; omega
set_option maxHeartbeats 4000000 in
set_option maxRecDepth 100000 in
theorem qbytes_any (w : World) (A : Option Addr) (n c : Nat) (xs : List (Int × Int × Int)) (h : RdK spanTy w A n xs) (hn : n ≤ 140737488351232) :
    Calls Try.prog 36 #[.slice A n c] w fun e w' => ∃ A' c', e = .returned (.tuple #[.slice A' (bytesO xs).length c', .int .i64 (chkS xs)]) ∧ Fresh w w' A' c' (bytesO xs) := by
  have hl := h.len
  subst hl
  have r1 := qacheck_any w A xs.length c xs h hn
  by_cases hk : chkS xs = 0
  · have hx := chkS_zero hk
    rw [hk] at r1
    rw [show bytesO xs = spansB xs by unfold bytesO; rw [if_pos hk], hk]
    have HX := Lib.hid h
    have HF := Lib.hid hx.2
    have hlen := hx.1
    have R1 := Lib.hid r1
    clear h hk hx r1 hn
    go_enter Try.func36, Try.ntmps36
    go_wp2_with fail
    refine R1.out.mono ?_
    rintro e w1 ⟨rfl, hc⟩
    have C := Lib.hid hc
    clear hc R1
    obtain ⟨w2, hw2, c2, b2⟩ := news1 w1 (.cells #[.int .u8 ((xs.length : Int) / 256), .int .u8 ((xs.length : Int) % 256)] 5)
    go_upto_region 4 with fail
    rw [← hw2]
    have ho : OwnB w2 (some ⟨w1.heap.size, 0, none⟩) 2 (headB xs.length) := by
      refine .of (full := headB xs.length) ?_ (by simp [headB]) (by decide) rfl rfl
      rw [← head_cells hlen]
      exact b2
    have HO := Lib.hid ho
    have CW := Lib.hid (C.out.trans c2)
    have SZ := Lib.hid C.out.size
    clear hw2 c2 b2 ho C
    generalize w1.heap.size = s1 at *
    go_wp2
    go_loopw [4, 5] (fun v4 v5 wr => ∃ (k : Nat) (B : Option Addr) (cc : Nat), k ≤ xs.length ∧ v4 = .slice B (2 + 9 * k) cc ∧ v5 = .int .i64 k ∧ Hid (OwnB wr B cc (headB xs.length ++ (xs.take k).flatMap spanB) ∧ (∀ a, B = some a → w.heap.size ≤ a.block) ∧ Chg [] w wr)) (fun _ v5 _ => xs.length - (RowKit.intOf v5).toNat)
    case atStart => exact ⟨0, some ⟨s1, 0, none⟩, 2, Nat.zero_le _, rfl, rfl, by simpa using HO.out, by rintro a ⟨⟩; exact SZ.out, CW.out⟩
    case round =>
      obtain ⟨k, B, cc, hk, rfl, rfl, HI⟩ := hrel
      generalize wr = w4 at *
      clear wr
      by_cases hlt : k < xs.length
      · obtain ⟨g, o, eA, _⟩ := HX.out.line (by omega)
        subst eA
        have ex := List.getElem?_eq_getElem hlt
        have hfin := HF.out _ (List.getElem_mem hlt)
        generalize xs[k] = x at *
        have EX := Lib.hid ex
        have HS := Lib.hid (span_cells hfin)
        obtain ⟨p0, p1, p2⟩ := spanCells (HX.out.chg HI.out.2.2 (by simp)) ex
        have i0 : (0 : Int) ≤ (k : Int) := by omega
        have i1 : (k : Int) < (xs.length : Int) := by omega
        clear ex hfin
        obtain ⟨w5, hw5, c5, b5⟩ := news1 w4 (.cells #[.int .i64 x.1, .int .i64 x.2.1, .int .i64 x.2.2] 65)
        go_upto_region 8 with fail
        rw [← hw5]
        have z0 := cell_of b5 0
        have z1 := cell_of b5 1
        have z2 := cell_of b5 2
        simp only [List.getElem?_toArray, List.getElem?_cons_succ, List.getElem?_cons_zero] at z0 z1 z2
        have HI5 := Lib.hid c5
        clear hw5 c5 b5 p0 p1 p2
        generalize w4.heap.size = s5 at *
        obtain ⟨w6, hw6, c6, b6⟩ := news1 w5 (.cells #[.int .u8 (x.1 % 256), .int .u8 (x.2.1 / 16777216 % 256), .int .u8 (x.2.1 / 65536 % 256), .int .u8 (x.2.1 / 256 % 256), .int .u8 (x.2.1 % 256), .int .u8 (x.2.2 / 16777216 % 256), .int .u8 (x.2.2 / 65536 % 256), .int .u8 (x.2.2 / 256 % 256), .int .u8 (x.2.2 % 256)] 5)
        have W6 := Lib.hid hw6
        have C6 := Lib.hid (HI5.out.trans c6)
        have LN := Lib.hid (show (headB xs.length ++ (xs.take k).flatMap spanB).length = 2 + 9 * k by rw [List.length_append, flat_len, List.length_take, Nat.min_eq_left hk]; rfl)
        have OW := Lib.hid (HI.out.1.chg C6.out (by simp))
        have RD := Lib.hid (show Bs w6 (some ⟨w5.heap.size, 0, none⟩) 9 (spanB x) by
          have := Bs.row (ys := spanB x) (w := w6) (g := w5.heap.size) (by rw [← HS.out]; exact b6) (by rw [spanB_len]; decide)
          rwa [spanB_len] at this)
        have BD := Lib.hid (show 2 + 9 * k + 9 ≤ 140737488355327 by omega)
        clear hw6 c6 b6
        go_wp2_with (at_builtin; rw [← W6.out]; refine wpList_app rfl _ _ rfl rfl OW.out LN.out rfl RD.out BD.out ?_; intro A2 c2 w7 u2 d2 e2)
        have CE := Lib.hid ((HI.out.2.2.trans C6.out).grown d2 (fun i hi => by
          cases B with
          | none => simp at hi
          | some a => simp at hi; subst hi; exact .inr (HI.out.2.1 a rfl)))
        have HE : Hid (∀ a, A2 = some a → w.heap.size ≤ a.block) := Lib.hid (by
          rcases e2 with rfl | rfl
          · exact HI.out.2.1
          · rintro a ⟨⟩; exact (HI.out.2.2.trans C6.out).size)
        have U2 := Lib.hid u2
        clear u2 d2 e2 z0 z1 z2
        go_wp2
        go_round
        case rel => exact ⟨k + 1, A2, c2, by omega, by congr 1, by go_num, by rw [takeB EX.out]; exact U2.out, HE.out, CE.out⟩
        case measure => simp [RowKit.intOf]; omega
      · obtain rfl : k = xs.length := by omega
        have hb : headB xs.length ++ (xs.take xs.length).flatMap spanB = spansB xs := by rw [List.take_length]; rfl
        have hl2 : (spansB xs).length = 2 + 9 * xs.length := by rw [← hb, List.length_append, flat_len, List.take_length]; rfl
        have HR := HI.out
        rw [hb] at HR
        rw [← hl2] at *
        have HR := Lib.hid HR
        clear hb hl2
        go_wp2
        go_ret2
        exact ⟨B, cc, rfl, HR.out⟩
  · have h2 := chkS_odd hk
    rw [h2] at r1
    rw [show bytesO xs = [] by unfold bytesO; rw [if_neg hk], h2]
    have R1 := Lib.hid r1
    clear h hk r1 hn h2
    go_enter Try.func36, Try.ntmps36
    go_wp2_with fail
    refine R1.out.mono ?_
    rintro e w1 ⟨rfl, hc⟩
    have C := Lib.hid hc
    clear hc R1
    go_wp2
    go_ret2
    exact ⟨none, 0, rfl, OwnB.none_ _, by simp, C.out⟩
end Go.Proofs.Ytpgelolchfglbaa
