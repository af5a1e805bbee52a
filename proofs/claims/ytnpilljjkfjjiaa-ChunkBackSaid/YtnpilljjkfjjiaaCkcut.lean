/- Cut: the program's. -/
import Derived.Test.YtnpilljjkfjjiaaCkcutp
namespace Go.Proofs.Ytnpilljjkfjjiaa
open Go.RowKit
set_option linter.unusedSimpArgs false
set_option linter.unusedVariables false
attribute [local go_sem] Oper.semAt_some

set_option maxRecDepth 100000 in
set_option maxHeartbeats 4000000 in
theorem bxcut_any (w : World) (it : Int) (g o c : Nat) (xs : List UInt8) (hr : Bs w (some ⟨g, o, none⟩) xs.length xs) (h0 : 0 < xs.length) (hl : xs.length ≤ 60000) (hlc : xs.length ≤ c) (hc : c ≤ 9223372036854775807) (i1 : 1 ≤ it) (i2 : it ≤ 1099511627776) (hg : g < w.heap.size) :
    Calls Try.prog 11 #[.int .i64 it, .slice (some ⟨g, o, none⟩) xs.length c] w fun e w' => ∃ B d l, e = .returned (.tuple #[.slice B l.length d, .int .i64 0]) ∧ OwnK msgTy w' B d l ∧ l.length = piecesN xs.length ∧ CutP w.heap.size w' it xs l ∧ (∀ a, B = some a → w.heap.size ≤ a.block) ∧ Chg [] w w' := by
  have h1 : 1 ≤ 6 := by omega
  have hro : Fence.wide.round = none := rfl
  have HR := Lib.hid hr
  clear hr
  refine (callsIn_wide (n := 6)).1 ?_
  refine callsIn_of_wp_marks Try.func11 rfl trivial ?_ hro
  simp only [Try.ntmps11, List.size_toArray, List.length_cons, List.length_nil, Nat.reduceAdd, Nat.reduceSub, Array.replicate_succ, Array.replicate_zero, List.push_toArray, List.append_toArray, List.nil_append, List.cons_append]
  have t0 : ¬ it < 1 := by omega
  have t1 : ¬ it > 1099511627776 := by omega
  have t2 : ¬ ((xs.length : Int) = 0) := by omega
  have t3 : ¬ ((xs.length : Int) > 60000) := by omega
  have t4 : ((xs.length : Int) == 0) = false := by simpa using t2
  obtain ⟨w3, hw3, C3, b0, b1, b2⟩ := news3 w (.cells #[.int .i64 it] 3) (.cells #[.slice (some ⟨g, o, none⟩) xs.length c] 22) (.cells #[.slice none 0 0] 25)
  have hs3 : w3.heap.size = w.heap.size + 3 := by rw [hw3]; simp
  obtain ⟨V, hV, CV, v0, v1, v2⟩ := news3 w3 (.cells #[.slice (some ⟨g, o, none⟩) xs.length c] 22) (.cells #[.int .i64 200] 3) (.cells #[.func (.func 39) #[] #[.pointer (some ⟨w3.heap.size, 0, none⟩), .pointer (some ⟨w3.heap.size + 1, 0, none⟩)]] 63)
  have hsV : V.heap.size = w3.heap.size + 3 := by rw [hV]; simp
  have CwV := C3.trans CV
  have B0 := Lib.hid (CV.at_ b0 (by simp))
  have B1 := Lib.hid (CV.at_ b1 (by simp))
  have B2 := Lib.hid (CV.at_ b2 (by simp))
  have HW3 := Lib.hid hw3
  have HV := Lib.hid hV
  have HS3 := Lib.hid hs3
  have HSV := Lib.hid hsV
  clear hw3 hV b0 b1 b2 hs3 hsV
  gi_wp2_with fail
  refine ⟨trivial, ?_⟩
  rw [← HW3.out]
  refine (callsIn_wide.2 (slchunk_any w3 (some ⟨g, o, none⟩) xs.length c)).mono ?_
  rintro e w5 ⟨rfl, rfl⟩
  gi_wp2_with fail
  refine ⟨trivial, ?_⟩
  refine (callsIn_wide.2 (bxnumb_any _ (.func (.func 39) #[] #[.pointer (some ⟨w3.heap.size, 0, none⟩), .pointer (some ⟨w3.heap.size + 1, 0, none⟩)]) rfl)).mono ?_
  rintro e w5 ⟨rfl, rfl⟩
  rw [← HV.out]
  gi_wp2_with fail
  have hs3 := HS3.out
  have hsV := HSV.out
  refine range_late (gf := 38) (lb := #[.pointer (some ⟨w3.heap.size + 1 + 1, 0, none⟩)]) rfl (enters_of Try.func38 (by kernel_rfl) rfl) (encs := encQ g o xs.length)
    (S := fun ys => ys.length = piecesN xs.length) (Ex := fun pre x _ => x = pre.length ∧ x * 200 < xs.length) (T := [w.heap.size + 1 + 1]) ?seq (fun _ => rfl)
    (fun m pre W => W.heap[w.heap.size]? = some (.cells #[.int .i64 it] 3 (0, 0)) ∧ W.heap[w.heap.size + 1]? = some (.cells #[.slice (some ⟨g, o, none⟩) xs.length c] 22 (0, 0)) ∧ (∃ B d lm, W.heap[w.heap.size + 1 + 1]? = some (.cells #[.slice B pre.length d] 25 (0, 0)) ∧ OwnK msgTy W B d lm ∧ lm.length = pre.length ∧ (∀ a, B = some a → max m w.heap.size ≤ a.block) ∧ CutP (max m w.heap.size) W it xs lm) ∧ Chg [] w W ∧ V.heap.size ≤ W.heap.size)
    ?keep ?kl (fun m => ⟨B0.out, B1.out, ⟨none, 0, [], B2.out, OwnK.none_ _, rfl, by simp, CutP.nil _ _ _ _⟩, CwV, Nat.le_refl _⟩) ?elem
    (fun x => { tmps := #[.int .i64 it, .slice (some ⟨g, o, none⟩) xs.length c, .pointer (some ⟨w.heap.size, 0, none⟩), .pointer (some ⟨w.heap.size + 1, 0, none⟩), .slice none 0 0, .int .i64 0, .pointer (some ⟨w.heap.size + 1 + 1, 0, none⟩), .int .i64 x, .slice (some ⟨g, o + x * 200, none⟩) (pieceL xs.length x) (pieceL xs.length x), .int .i64 it, .bool false, .bool false, .int .i64 it, .bool false, .bool false, .bool false, .slice (some ⟨g, o, none⟩) xs.length c, .int .i64 xs.length, .bool false, .bool false, .slice (some ⟨g, o, none⟩) xs.length c, .int .i64 xs.length, .bool false, .slice (some ⟨g, o, none⟩) xs.length c, .func (.func 39) #[] #[.pointer (some ⟨w3.heap.size, 0, none⟩), .pointer (some ⟨w3.heap.size + 1, 0, none⟩)], .func (.func 38) #[] #[.pointer (some ⟨w3.heap.size + 1 + 1, 0, none⟩)], .int .i64 x, .slice (some ⟨g, o + x * 200, none⟩) (pieceL xs.length x) (pieceL xs.length x), undef, undef, undef, undef, undef, undef, undef, undef, undef, undef, undef, undef], defers := [] }) ?assign ?body ?done
  case seq =>
    intro l' J W hW hJ hY hI0 hlt hle
    have hs2 := hW.size
    have nT : ∀ y, V.heap.size > y → y ≠ w.heap.size + 1 + 1 → y ∉ l' :: [w.heap.size + 1 + 1] := fun y h1 h2 hm => by simp at hm; omega
    exact numba_gives 3 l' (w3.heap.size + 1 + 1) w3.heap.size (w3.heap.size + 1) g o xs.length c [w.heap.size + 1 + 1] h0 hlc hc hl J W hlt (by omega) (by omega) (by omega) (nT _ (by omega) (by omega)) (nT _ (by omega) (by omega)) (nT _ (by omega) (by omega)) (by simp; omega) hJ hY hI0
      ((hW.cell (p := ⟨w3.heap.size + 1 + 1, 0, none⟩) (show w3.heap.size + 1 + 1 < V.heap.size by omega)).trans (by rw [cell_of v2]; rfl)) ((hW.cell (p := ⟨w3.heap.size, 0, none⟩) (show w3.heap.size < V.heap.size by omega)).trans (by rw [cell_of v0]; rfl)) ((hW.cell (p := ⟨w3.heap.size + 1, 0, none⟩) (show w3.heap.size + 1 < V.heap.size by omega)).trans (by rw [cell_of v1]; rfl))
  case keep =>
    rintro m pre A B Sx hs ⟨e0, e1, ⟨B', d, lm, e2, hO, hn, hB, hP⟩, hC, hz⟩ hb
    have far : ∀ k, k < V.heap.size → k ∉ Sx := fun k hk h => by have := hs k h; omega
    exact ⟨hb.at_ e0 (far _ (by omega)), hb.at_ e1 (far _ (by omega)), ⟨B', d, lm, hb.at_ e2 (far _ (by omega)), hO.chg hb (fun a ha h => by have := hB a ha; have := hs _ h; omega), hn, hB, hP.chg hb (fun k hk => by have := (hs k hk).2; omega)⟩, hC.trans' hb (fun i hi => .inr (by have := hs i hi; omega)), Nat.le_trans hz hb.size⟩
  case kl =>
    rintro m pre W ob ob' hl1 ho ⟨e0, e1, ⟨B', d, lm, e2, hO, hn, hB, hP⟩, hC, hz⟩
    exact ⟨(World.putObj_heap_other (by omega)).trans e0, (World.putObj_heap_other (by omega)).trans e1, ⟨B', d, lm, (World.putObj_heap_other (by omega)).trans e2, hO.putl hl1 ho, hn, hB, hP.putl hl1 ho⟩, hC.putl (by omega), by simpa [World.putObj] using hz⟩
  case elem => rintro pre x W l o1 o' hl ho hx; exact hx
  case assign =>
    intro l1 x W K hK
    clear hs3 hsV
    unfold encQ
    gi_wp2
    exact hK
  case done =>
    rintro D m ys W hD hS ⟨e0, e1, ⟨B', d, lm, e2, hO, hn, hB, hP⟩, hC, hz⟩ hK
    have k2 := cell_of e2 0
    simp only [List.getElem?_toArray, List.getElem?_cons_zero] at k2
    have HO := Lib.hid hO
    have HP := Lib.hid hP
    have HB := Lib.hid hB
    have HN := Lib.hid hn
    have HY := Lib.hid hS
    have HC := Lib.hid hC
    have HZ := Lib.hid hz
    clear e0 e1 e2 hO hn hB hP hS hC hz hs3 hsV
    gi_wp2
    refine ⟨by simp, .inl ⟨_, _, rfl, run_takeDeferred hK, ?_⟩⟩
    refine ⟨_, results_tmp2 rfl _ _ _, B', d, lm, ?_, HO.out.putl hK rfl, HN.out.trans HY.out, (HP.out.putl hK rfl).less (by omega), fun a ha => by have := HB.out a ha; omega, HC.out.putl ?_⟩
    · rw [HN.out]; rfl
    · have := HS3.out; have := HSV.out; omega
  case body =>
    rintro l' m pre x W hm hv ⟨e0, e1, ⟨B', d, lm, e2, hO, hn, hB, hP⟩, hC, hz⟩ ⟨rfl, hlt⟩
    have k0 := pieceL_pos hlt
    have kl := pieceL_le xs.length pre.length
    have cD : Chg [] W W.drew := (Chg.refl [] W).drew
    have RX := Lib.hid ((HR.out.pieceAt pre.length).chg (hC.trans cD) (by simp))
    have i0 : IntKind.i64.wrap ((pre.length : Int) * 200) = (pre.length : Int) * 200 := by rw [IntWalk.i64_in _ (by omega)]
    have c0 := cD.cell (cell_of e0 0) (by simp)
    have c1 := cD.cell (cell_of e1 0) (by simp)
    have OLD := Lib.hid hP.old
    have HN := Lib.hid hn
    have HB := Lib.hid hB
    have HV2 := Lib.hid (show V.heap.size + 2 ≤ m from hv)
    have HM := Lib.hid hm
    have HC := Lib.hid hC
    have HZ := Lib.hid hz
    have E0 := Lib.hid e0
    have E1 := Lib.hid e1
    have HLT := Lib.hid hlt
    have HKL := Lib.hid kl
    have F2 := Lib.hid (cD.at_ e2 (by simp))
    have O := Lib.hid (hO.chg cD (by simp))
    have P := Lib.hid (hP.chg cD (by simp))
    have C := Lib.hid cD
    have k1 : pieceL xs.length pre.length ≤ 140737488351232 := by omega
    have K1 := Lib.hid k1
    have K0 := Lib.hid k0
    have N4 := Lib.hid (show (pre.length + 1) * 400 ≤ 140737488355327 by omega)
    have hq : w.heap.size + 1 + 1 < V.heap.size := by omega
    have HQ := Lib.hid (show w.heap.size < w.heap.size + 1 ∧ w.heap.size + 1 < w.heap.size + 1 + 1 ∧ w.heap.size + 1 + 1 < V.heap.size from ⟨by omega, by omega, hq⟩)
    clear hn hB hv hm hC hz e0 e1 hlt kl e2 hO hP cD k1 k0 hq hs3 hsV v0 v1 v2
    have FAR : Hid (∀ k, k < V.heap.size → k ∉ blkOf B') := Lib.hid (fun k hk hm2 => by
      cases B' with
      | none => simp [blkOf] at hm2
      | some a => have := HB.out a rfl; have := HV2.out; simp [blkOf] at hm2; omega)
    have BU : Hid (∀ k, B'.map (·.block) = some k → k ∈ blkOf B') := Lib.hid (fun k hk => by
      cases B' with
      | none => cases hk
      | some a => simp at hk; subst hk; simp [blkOf])
    have FIN : Hid (∀ (h c1 : Nat) (U2 : World) (B2 : Option Addr) (d2 : Nat) (U3 : World), U2.heap[w.heap.size + 1 + 1]? = some (.cells #[.slice B' pre.length d] 25 (0, 0)) → OwnK msgTy U2 B' d lm → CutP (max m w.heap.size) U2 it xs lm → Chg [] W U2 → OwnB U2 (some ⟨h, 0, none⟩) c1 (pieceR xs pre.length) → W.drew.heap.size ≤ h → OwnK msgTy U3 B2 d2 (lm ++ [((1, it, (xs.length : Int), (pre.length : Int) * 200, some ⟨h, 0, none⟩, pieceL xs.length pre.length, c1) : MsgT)]) → U2.grownBy U3 (B'.map (·.block)) → (B2 = B' ∨ B2 = some ⟨U2.heap.size, 0, none⟩) → U3.heap[w.heap.size + 1 + 1]? = some (.cells #[.slice B' pre.length d] 25 (0, 0)) →
          KeepsOthers W (U3.setCell ⟨w.heap.size + 1 + 1, 0, none⟩ (.slice B2 (pre.length + 1) d2)) ∧ Kpt m [w.heap.size + 1 + 1] W (U3.setCell ⟨w.heap.size + 1 + 1, 0, none⟩ (.slice B2 (pre.length + 1) d2)) ∧ ((U3.setCell ⟨w.heap.size + 1 + 1, 0, none⟩ (.slice B2 (pre.length + 1) d2)).heap[w.heap.size]? = some (.cells #[.int .i64 it] 3 (0, 0)) ∧ (U3.setCell ⟨w.heap.size + 1 + 1, 0, none⟩ (.slice B2 (pre.length + 1) d2)).heap[w.heap.size + 1]? = some (.cells #[.slice (some ⟨g, o, none⟩) xs.length c] 22 (0, 0)) ∧ (∃ B d lm, (U3.setCell ⟨w.heap.size + 1 + 1, 0, none⟩ (.slice B2 (pre.length + 1) d2)).heap[w.heap.size + 1 + 1]? = some (.cells #[.slice B (pre ++ [pre.length]).length d] 25 (0, 0)) ∧ OwnK msgTy (U3.setCell ⟨w.heap.size + 1 + 1, 0, none⟩ (.slice B2 (pre.length + 1) d2)) B d lm ∧ lm.length = (pre ++ [pre.length]).length ∧ (∀ a, B = some a → max m w.heap.size ≤ a.block) ∧ CutP (max m w.heap.size) (U3.setCell ⟨w.heap.size + 1 + 1, 0, none⟩ (.slice B2 (pre.length + 1) d2)) it xs lm) ∧ Chg [] w (U3.setCell ⟨w.heap.size + 1 + 1, 0, none⟩ (.slice B2 (pre.length + 1) d2)) ∧ V.heap.size ≤ (U3.setCell ⟨w.heap.size + 1 + 1, 0, none⟩ (.slice B2 (pre.length + 1) d2)).heap.size)) := by
      refine Lib.hid ?_
      intro h c1 U2 B2 d2 U3 f2 o2 p2 cu od nh o3 g3 eb f3
      have hV2 := HV2.out
      have hQ := HQ.out.2.2
      have hB := HB.out
      have hM := HM.out
      have hZ := HZ.out
      have hn := HN.out
      have hcu := cu.size
      have hBU : ∀ k, B'.map (·.block) = some k → k ∈ blkOf B' ∧ m ≤ k := fun k hk => by
        cases B' with
        | none => cases hk
        | some a => simp at hk; subst hk; have := hB a rfl; exact ⟨by simp [blkOf], by omega⟩
      have hg : Chg (blkOf B') U2 U3 := (Chg.refl _ U2).grown g3 (fun k hk => .inl (hBU k hk).1)
      have hg0 : Chg [] w U3 := (HC.out.trans cu).grown g3 (fun k hk => .inr (by have := (hBU k hk).2; omega))
      have hst := (Chg.refl [w.heap.size + 1 + 1] U3).setCell (p := ⟨w.heap.size + 1 + 1, 0, none⟩) (.inl (by simp)) (.slice B2 (pre.length + 1) d2)
      have far : ∀ k, k < V.heap.size → k ∉ blkOf B' := fun k hk hm2 => by
        cases B' with
        | none => simp [blkOf] at hm2
        | some a => have := hB a rfl; simp [blkOf] at hm2; omega
      have hb2 : ∀ a, B2 = some a → max m w.heap.size ≤ a.block := fun a ha => by
        rcases eb with e | e
        · exact hB a (e ▸ ha)
        · rw [e] at ha; cases ha; simp; omega
      have hnb : ∀ a, B2 = some a → a.block ∉ [w.heap.size + 1 + 1] := fun a ha hm3 => by have := hb2 a ha; simp at hm3; omega
      have hp3 : CutP (max m w.heap.size) U3 it xs (lm ++ [((1, it, (xs.length : Int), (pre.length : Int) * 200, some ⟨h, 0, none⟩, pieceL xs.length pre.length, c1) : MsgT)]) := by
        have := ((p2.push (g := h) (c := c1) (by rw [hn]; exact od) (by have : W.drew.heap.size = W.heap.size := rfl; omega) (fun x hx => by have := OLD.out x hx; have : W.drew.heap.size = W.heap.size := rfl; omega)))
        rw [hn] at this
        exact this.grown o2 g3
      have hsz := hst.size
      have hg3 := g3.size
      refine ⟨((KeepsOthers.of_chg cu).trans (KeepsOthers.grown g3 o2.cells)).trans (KeepsOthers.setCell _ _ _), ?_, ?_, ?_, ⟨B2, d2, _, ?_, o3.chg hst hnb, by simp [hn], hb2, hp3.chg hst (fun k hk => by simp at hk; omega)⟩, ?_, by omega⟩
      · exact ((Kpt.of_chg (T := [w.heap.size + 1 + 1]) (cu.mono (by simp)) hM).trans (Kpt.grown g3 (Nat.le_trans hM hcu) (fun k hk => .inl (hBU k hk).2))).trans (Kpt.of_chg hst (by omega))
      · exact hst.at_ (hg.at_ (cu.at_ E0.out (by simp)) (far _ (by omega))) (by simp; omega)
      · exact hst.at_ (hg.at_ (cu.at_ E1.out (by simp)) (far _ (by omega))) (by simp)
      · have := heap_setCell_same U3 (w.heap.size + 1 + 1) 0 _ _ (.slice B2 (pre.length + 1) d2) f3
        simpa using this
      · exact hg0.setCell (.inr (by show w.heap.size ≤ w.heap.size + 1 + 1; omega)) _
    gi_wp2
    refine wpIn_round_held (S := fun w' => w'.cell? ⟨w.heap.size, 0, none⟩ = some (.int .i64 it) ∧ w'.cell? ⟨w.heap.size + 1, 0, none⟩ = some (.slice (some ⟨g, o, none⟩) xs.length c)) (by kernel_rfl) (by kernel_rfl) (by rintro ⟨a9, w9, h9⟩; cases h9.1) ⟨c0, c1⟩ (fun hHeld => ?_)
    clear c0 c1 B0 B1 B2
    generalize q2 : w.heap.size + 1 + 1 = s2 at *
    have Q2 := Lib.hid q2
    clear q2
    generalize q1 : w.heap.size + 1 = s1 at *
    have Q1 := Lib.hid q1
    clear q1
    generalize q0 : w.heap.size = s0 at *
    have Q0 := Lib.hid q0
    clear q0
    generalize W.drew = U at *
    have k1 := K1.out
    have k0 := K0.out
    clear HC HM HZ E0 E1 OLD
    refine step_yes 1 29 ?_ (by assumption) rfl rfl (by kernel_rfl) (by kernel_rfl) (by kernel_rfl) (fun _ _ _ h => h) (by rfl) ?_ ?_
    rotate_left
    · (intro w hSw; (try dsimp only at hSw); go_simp; try with_reducible rfl)
    try simp only [Act.put, List.setIfInBounds_toArray, List.set_cons_zero, List.set_cons_succ]
    refine step_yes 2 30 ?_ (by assumption) rfl rfl (by kernel_rfl) (by kernel_rfl) (by kernel_rfl) (fun _ _ _ h => h) (by rfl) ?_ ?_
    rotate_left
    · (intro w hSw; (try dsimp only at hSw); go_simp; try with_reducible rfl)
    try simp only [Act.put, List.setIfInBounds_toArray, List.set_cons_zero, List.set_cons_succ]
    refine step_yes 3 31 ?_ (by assumption) rfl rfl (by kernel_rfl) (by kernel_rfl) (by kernel_rfl) (fun _ _ _ h => h) (by rfl) ?_ ?_
    rotate_left
    · (intro w hSw; (try dsimp only at hSw); go_simp; try with_reducible rfl)
    try simp only [Act.put, List.setIfInBounds_toArray, List.set_cons_zero, List.set_cons_succ]
    refine step_yes 4 32 ?_ (by assumption) rfl rfl (by kernel_rfl) (by kernel_rfl) (by kernel_rfl) (fun _ _ _ h => h) (by rfl) ?_ ?_
    rotate_left
    · (intro w hSw; (try dsimp only at hSw); go_simp; try with_reducible rfl)
    try simp only [Act.put, List.setIfInBounds_toArray, List.set_cons_zero, List.set_cons_succ]
    refine step_yes 5 33 ?_ (by assumption) rfl rfl (by kernel_rfl) (by kernel_rfl) (by kernel_rfl) (fun _ _ _ h => h) (by rfl) ?_ ?_
    rotate_left
    · (intro w hSw; (try dsimp only at hSw); go_simp; try with_reducible rfl)
    try simp only [Act.put, List.setIfInBounds_toArray, List.set_cons_zero, List.set_cons_succ]
    refine step_yes 6 34 ?_ (by assumption) rfl rfl (by kernel_rfl) (by kernel_rfl) (by kernel_rfl) (fun _ _ _ h => h) (by rfl) ?_ ?_
    rotate_left
    · (intro w hSw; (try dsimp only at hSw); go_simp; try with_reducible rfl)
    try simp only [Act.put, List.setIfInBounds_toArray, List.set_cons_zero, List.set_cons_succ]
    refine wpAnyH_ready (rs := [0, 7]) (by kernel_rfl) (by simp) ?_
    refine AllReadyH.cons rfl (fun K hK => ?_) (AllReadyH.cons rfl (fun K hK => ?_) AllReadyH.nil)
    · skip
      replace hK := Lib.hid hK
      have k2 := cell_of F2.out 0
      simp only [List.getElem?_toArray, List.getElem?_cons_succ, List.getElem?_cons_zero] at k2
      go_simp
      refine hK.out _ _ hHeld (fun hHeld => ?_)
      clear hK K
      try simp only [Act.put, List.setIfInBounds_toArray, List.set_cons_zero, List.set_cons_succ]
      clear k2
      refine wpAnyH_ready (rs := [7]) (by kernel_rfl) (by simp) ?_
      refine AllReadyH.cons rfl (fun K hK => ?_) AllReadyH.nil
      replace hK := Lib.hid hK
      go_simp
      refine (clone_any U _ _ _ (pieceR xs pre.length) RX.out (by omega)).mono ?_
      rintro e U1 ⟨A1, c1, rfl, hO1, hA1, hc1⟩
      obtain ⟨h, rfl⟩ := hO1.at0 (by rw [pieceR_len]; exact k0)
      have D1 := Lib.hid hO1
      have N1 := Lib.hid (hA1 _ rfl)
      have hh := held2 hHeld hc1
      clear hHeld
      replace F2 := Lib.hid (hc1.at_ F2.out (by simp))
      replace O := Lib.hid (O.out.chg hc1 (by simp))
      replace P := Lib.hid (P.out.chg hc1 (by simp))
      replace C := Lib.hid (C.out.trans hc1)
      clear hO1 hA1
      refine hK.out _ _ hh (fun hHeld => ?_)
      clear hK K
      try simp only [Act.put, List.setIfInBounds_toArray, List.set_cons_zero, List.set_cons_succ]
      clear hh
      refine step_yes 8 36 ?_ (by assumption) rfl rfl (by kernel_rfl) (by kernel_rfl) (by kernel_rfl) (fun _ _ _ h => h) (by rfl) ?_ ?_
      rotate_left
      · (intro w hSw; (try dsimp only at hSw); go_simp; try with_reducible rfl)
      try simp only [Act.put, List.setIfInBounds_toArray, List.set_cons_zero, List.set_cons_succ]
      skip
      refine wpAnyH_ready (rs := [9]) (by kernel_rfl) (by simp) ?_
      refine AllReadyH.cons rfl (fun K hK => ?_) AllReadyH.nil
      obtain ⟨U2, hU2, c2, m2⟩ := news1 U1 (.cells #[.int .i64 1, .int .i64 it, .int .i64 (xs.length : Int), .int .i64 ((pre.length : Int) * 200), .slice (some ⟨h, 0, none⟩) (pieceL xs.length pre.length) c1] 32)
      have HU2 := Lib.hid hU2
      have M2 := Lib.hid (show RdK msgTy U2 (some ⟨U1.heap.size, 0, none⟩) 1 [((1, it, (xs.length : Int), (pre.length : Int) * 200, some ⟨h, 0, none⟩, pieceL xs.length pre.length, c1) : MsgT)] from (OwnK.of (R := msgTy) (c := 1) (full := [((1, it, (xs.length : Int), (pre.length : Int) * 200, some ⟨h, 0, none⟩, pieceL xs.length pre.length, c1) : MsgT)]) (xs := [((1, it, (xs.length : Int), (pre.length : Int) * 200, some ⟨h, 0, none⟩, pieceL xs.length pre.length, c1) : MsgT)]) m2 (Nat.le_refl _) (by decide) rfl rfl).reads)
      clear hU2 m2
      replace hK := Lib.hid hK
      go_simp
      rw [← HU2.out]
      have hh := held2 hHeld c2
      clear hHeld HU2
      replace F2 := Lib.hid (c2.at_ F2.out (by simp))
      replace O := Lib.hid (O.out.chg c2 (by simp))
      replace P := Lib.hid (P.out.chg c2 (by simp))
      replace C := Lib.hid (C.out.trans c2)
      replace D1 := Lib.hid (D1.out.chg c2 (by simp))
      refine hK.out _ _ hh (fun hHeld => ?_)
      clear hK K
      try simp only [Act.put, List.setIfInBounds_toArray, List.set_cons_zero, List.set_cons_succ]
      clear hh
      refine wpAnyH_ready (rs := [10]) (by kernel_rfl) (by simp) ?_
      refine AllReadyH.cons rfl (fun K hK => ?_) AllReadyH.nil
      replace hK := Lib.hid hK
      refine step_appK (R := msgTy) rfl (.tmp 28) (.tmp 37) rfl rfl (A := B') (B := some ⟨U1.heap.size, 0, none⟩) (n := pre.length) (m := 1) (c := d) (d := 1) (xs := lm) (ys := [((1, it, (xs.length : Int), (pre.length : Int) * 200, some ⟨h, 0, none⟩, pieceL xs.length pre.length, c1) : MsgT)]) O.out HN.out rfl M2.out N4.out ?_
      intro B2 d2 U3 o2 g2 e2
      have q2 := grown_at g2 F2.out (fun a ha => by have := HB.out a ha; have := HV2.out; have := HQ.out.2.2; omega)
      have hh : U3.cell? ⟨s0, 0, none⟩ = some (.int .i64 it) ∧ U3.cell? ⟨s1, 0, none⟩ = some (.slice (some ⟨g, o, none⟩) xs.length c) := by have hcg := (Chg.refl (blkOf B') U2).grown g2 (fun k hk => .inl (BU.out k hk)); exact ⟨hcg.cell hHeld.1 (FAR.out _ (by have := HQ.out; simp; omega)), hcg.cell hHeld.2 (FAR.out _ (by have := HQ.out; simp; omega))⟩
      clear hHeld
      have O3 := Lib.hid o2
      have G3 := Lib.hid g2
      have E3 := Lib.hid e2
      have F3 := Lib.hid q2
      clear o2 g2 e2 q2
      refine hK.out _ _ hh (fun hHeld => ?_)
      clear hK K
      try simp only [Act.put, List.setIfInBounds_toArray, List.set_cons_zero, List.set_cons_succ]
      clear hh
      refine wpAnyH_ready (rs := [11]) (by kernel_rfl) (by simp) ?_
      refine AllReadyH.cons rfl (fun K hK => ?_) AllReadyH.nil
      replace hK := Lib.hid hK
      have k2 := cell_of F3.out 0
      have f2 := free_of F3.out 0
      simp only [List.getElem?_toArray, List.getElem?_cons_succ, List.getElem?_cons_zero] at k2
      go_simp
      have hst := (Chg.refl [s2] U3).setCell (p := ⟨s2, 0, none⟩) (.inl (by simp)) (.slice B2 (pre.length + 1) d2)
      have hh := (⟨hst.cell hHeld.1 (by have := HQ.out; simp; omega), hst.cell hHeld.2 (by have := HQ.out; simp; omega)⟩ : _ ∧ _)
      clear hHeld
      refine hK.out _ _ hh (fun hHeld => ?_)
      clear hK K
      try simp only [Act.put, List.setIfInBounds_toArray, List.set_cons_zero, List.set_cons_succ]
      refine wpAnyH_done (by kernel_rfl) ?_ _
      refine ⟨rfl, ?_⟩
      have q0 := Q0.out
      have q1 := Q1.out
      have q2 := Q2.out
      subst q0
      subst q1
      subst q2
      exact FIN.out h c1 U2 B2 d2 U3 F2.out O.out P.out C.out D1.out N1.out O3.out G3.out E3.out F3.out
    · skip
      replace hK := Lib.hid hK
      go_simp
      refine (clone_any U _ _ _ (pieceR xs pre.length) RX.out (by omega)).mono ?_
      rintro e U1 ⟨A1, c1, rfl, hO1, hA1, hc1⟩
      obtain ⟨h, rfl⟩ := hO1.at0 (by rw [pieceR_len]; exact k0)
      have D1 := Lib.hid hO1
      have N1 := Lib.hid (hA1 _ rfl)
      have hh := held2 hHeld hc1
      clear hHeld
      replace F2 := Lib.hid (hc1.at_ F2.out (by simp))
      replace O := Lib.hid (O.out.chg hc1 (by simp))
      replace P := Lib.hid (P.out.chg hc1 (by simp))
      replace C := Lib.hid (C.out.trans hc1)
      clear hO1 hA1
      refine hK.out _ _ hh (fun hHeld => ?_)
      clear hK K
      try simp only [Act.put, List.setIfInBounds_toArray, List.set_cons_zero, List.set_cons_succ]
      clear hh
      refine step_yes 8 36 ?_ (by assumption) rfl rfl (by kernel_rfl) (by kernel_rfl) (by kernel_rfl) (fun _ _ _ h => h) (by rfl) ?_ ?_
      rotate_left
      · (intro w hSw; (try dsimp only at hSw); go_simp; try with_reducible rfl)
      try simp only [Act.put, List.setIfInBounds_toArray, List.set_cons_zero, List.set_cons_succ]
      refine wpAnyH_ready (rs := [0, 9]) (by kernel_rfl) (by simp) ?_
      refine AllReadyH.cons rfl (fun K hK => ?_) (AllReadyH.cons rfl (fun K hK => ?_) AllReadyH.nil)
      · skip
        replace hK := Lib.hid hK
        have k2 := cell_of F2.out 0
        simp only [List.getElem?_toArray, List.getElem?_cons_succ, List.getElem?_cons_zero] at k2
        go_simp
        refine hK.out _ _ hHeld (fun hHeld => ?_)
        clear hK K
        try simp only [Act.put, List.setIfInBounds_toArray, List.set_cons_zero, List.set_cons_succ]
        clear k2
        refine wpAnyH_ready (rs := [9]) (by kernel_rfl) (by simp) ?_
        refine AllReadyH.cons rfl (fun K hK => ?_) AllReadyH.nil
        obtain ⟨U2, hU2, c2, m2⟩ := news1 U1 (.cells #[.int .i64 1, .int .i64 it, .int .i64 (xs.length : Int), .int .i64 ((pre.length : Int) * 200), .slice (some ⟨h, 0, none⟩) (pieceL xs.length pre.length) c1] 32)
        have HU2 := Lib.hid hU2
        have M2 := Lib.hid (show RdK msgTy U2 (some ⟨U1.heap.size, 0, none⟩) 1 [((1, it, (xs.length : Int), (pre.length : Int) * 200, some ⟨h, 0, none⟩, pieceL xs.length pre.length, c1) : MsgT)] from (OwnK.of (R := msgTy) (c := 1) (full := [((1, it, (xs.length : Int), (pre.length : Int) * 200, some ⟨h, 0, none⟩, pieceL xs.length pre.length, c1) : MsgT)]) (xs := [((1, it, (xs.length : Int), (pre.length : Int) * 200, some ⟨h, 0, none⟩, pieceL xs.length pre.length, c1) : MsgT)]) m2 (Nat.le_refl _) (by decide) rfl rfl).reads)
        clear hU2 m2
        replace hK := Lib.hid hK
        go_simp
        rw [← HU2.out]
        have hh := held2 hHeld c2
        clear hHeld HU2
        replace F2 := Lib.hid (c2.at_ F2.out (by simp))
        replace O := Lib.hid (O.out.chg c2 (by simp))
        replace P := Lib.hid (P.out.chg c2 (by simp))
        replace C := Lib.hid (C.out.trans c2)
        replace D1 := Lib.hid (D1.out.chg c2 (by simp))
        refine hK.out _ _ hh (fun hHeld => ?_)
        clear hK K
        try simp only [Act.put, List.setIfInBounds_toArray, List.set_cons_zero, List.set_cons_succ]
        clear hh
        refine wpAnyH_ready (rs := [10]) (by kernel_rfl) (by simp) ?_
        refine AllReadyH.cons rfl (fun K hK => ?_) AllReadyH.nil
        replace hK := Lib.hid hK
        refine step_appK (R := msgTy) rfl (.tmp 28) (.tmp 37) rfl rfl (A := B') (B := some ⟨U1.heap.size, 0, none⟩) (n := pre.length) (m := 1) (c := d) (d := 1) (xs := lm) (ys := [((1, it, (xs.length : Int), (pre.length : Int) * 200, some ⟨h, 0, none⟩, pieceL xs.length pre.length, c1) : MsgT)]) O.out HN.out rfl M2.out N4.out ?_
        intro B2 d2 U3 o2 g2 e2
        have q2 := grown_at g2 F2.out (fun a ha => by have := HB.out a ha; have := HV2.out; have := HQ.out.2.2; omega)
        have hh : U3.cell? ⟨s0, 0, none⟩ = some (.int .i64 it) ∧ U3.cell? ⟨s1, 0, none⟩ = some (.slice (some ⟨g, o, none⟩) xs.length c) := by have hcg := (Chg.refl (blkOf B') U2).grown g2 (fun k hk => .inl (BU.out k hk)); exact ⟨hcg.cell hHeld.1 (FAR.out _ (by have := HQ.out; simp; omega)), hcg.cell hHeld.2 (FAR.out _ (by have := HQ.out; simp; omega))⟩
        clear hHeld
        have O3 := Lib.hid o2
        have G3 := Lib.hid g2
        have E3 := Lib.hid e2
        have F3 := Lib.hid q2
        clear o2 g2 e2 q2
        refine hK.out _ _ hh (fun hHeld => ?_)
        clear hK K
        try simp only [Act.put, List.setIfInBounds_toArray, List.set_cons_zero, List.set_cons_succ]
        clear hh
        refine wpAnyH_ready (rs := [11]) (by kernel_rfl) (by simp) ?_
        refine AllReadyH.cons rfl (fun K hK => ?_) AllReadyH.nil
        replace hK := Lib.hid hK
        have k2 := cell_of F3.out 0
        have f2 := free_of F3.out 0
        simp only [List.getElem?_toArray, List.getElem?_cons_succ, List.getElem?_cons_zero] at k2
        go_simp
        have hst := (Chg.refl [s2] U3).setCell (p := ⟨s2, 0, none⟩) (.inl (by simp)) (.slice B2 (pre.length + 1) d2)
        have hh := (⟨hst.cell hHeld.1 (by have := HQ.out; simp; omega), hst.cell hHeld.2 (by have := HQ.out; simp; omega)⟩ : _ ∧ _)
        clear hHeld
        refine hK.out _ _ hh (fun hHeld => ?_)
        clear hK K
        try simp only [Act.put, List.setIfInBounds_toArray, List.set_cons_zero, List.set_cons_succ]
        refine wpAnyH_done (by kernel_rfl) ?_ _
        refine ⟨rfl, ?_⟩
        have q0 := Q0.out
        have q1 := Q1.out
        have q2 := Q2.out
        subst q0
        subst q1
        subst q2
        exact FIN.out h c1 U2 B2 d2 U3 F2.out O.out P.out C.out D1.out N1.out O3.out G3.out E3.out F3.out
      · skip
        obtain ⟨U2, hU2, c2, m2⟩ := news1 U1 (.cells #[.int .i64 1, .int .i64 it, .int .i64 (xs.length : Int), .int .i64 ((pre.length : Int) * 200), .slice (some ⟨h, 0, none⟩) (pieceL xs.length pre.length) c1] 32)
        have HU2 := Lib.hid hU2
        have M2 := Lib.hid (show RdK msgTy U2 (some ⟨U1.heap.size, 0, none⟩) 1 [((1, it, (xs.length : Int), (pre.length : Int) * 200, some ⟨h, 0, none⟩, pieceL xs.length pre.length, c1) : MsgT)] from (OwnK.of (R := msgTy) (c := 1) (full := [((1, it, (xs.length : Int), (pre.length : Int) * 200, some ⟨h, 0, none⟩, pieceL xs.length pre.length, c1) : MsgT)]) (xs := [((1, it, (xs.length : Int), (pre.length : Int) * 200, some ⟨h, 0, none⟩, pieceL xs.length pre.length, c1) : MsgT)]) m2 (Nat.le_refl _) (by decide) rfl rfl).reads)
        clear hU2 m2
        replace hK := Lib.hid hK
        go_simp
        rw [← HU2.out]
        have hh := held2 hHeld c2
        clear hHeld HU2
        replace F2 := Lib.hid (c2.at_ F2.out (by simp))
        replace O := Lib.hid (O.out.chg c2 (by simp))
        replace P := Lib.hid (P.out.chg c2 (by simp))
        replace C := Lib.hid (C.out.trans c2)
        replace D1 := Lib.hid (D1.out.chg c2 (by simp))
        refine hK.out _ _ hh (fun hHeld => ?_)
        clear hK K
        try simp only [Act.put, List.setIfInBounds_toArray, List.set_cons_zero, List.set_cons_succ]
        clear hh
        refine wpAnyH_ready (rs := [0]) (by kernel_rfl) (by simp) ?_
        refine AllReadyH.cons rfl (fun K hK => ?_) AllReadyH.nil
        replace hK := Lib.hid hK
        have k2 := cell_of F2.out 0
        simp only [List.getElem?_toArray, List.getElem?_cons_succ, List.getElem?_cons_zero] at k2
        go_simp
        refine hK.out _ _ hHeld (fun hHeld => ?_)
        clear hK K
        try simp only [Act.put, List.setIfInBounds_toArray, List.set_cons_zero, List.set_cons_succ]
        clear k2
        refine wpAnyH_ready (rs := [10]) (by kernel_rfl) (by simp) ?_
        refine AllReadyH.cons rfl (fun K hK => ?_) AllReadyH.nil
        replace hK := Lib.hid hK
        refine step_appK (R := msgTy) rfl (.tmp 28) (.tmp 37) rfl rfl (A := B') (B := some ⟨U1.heap.size, 0, none⟩) (n := pre.length) (m := 1) (c := d) (d := 1) (xs := lm) (ys := [((1, it, (xs.length : Int), (pre.length : Int) * 200, some ⟨h, 0, none⟩, pieceL xs.length pre.length, c1) : MsgT)]) O.out HN.out rfl M2.out N4.out ?_
        intro B2 d2 U3 o2 g2 e2
        have q2 := grown_at g2 F2.out (fun a ha => by have := HB.out a ha; have := HV2.out; have := HQ.out.2.2; omega)
        have hh : U3.cell? ⟨s0, 0, none⟩ = some (.int .i64 it) ∧ U3.cell? ⟨s1, 0, none⟩ = some (.slice (some ⟨g, o, none⟩) xs.length c) := by have hcg := (Chg.refl (blkOf B') U2).grown g2 (fun k hk => .inl (BU.out k hk)); exact ⟨hcg.cell hHeld.1 (FAR.out _ (by have := HQ.out; simp; omega)), hcg.cell hHeld.2 (FAR.out _ (by have := HQ.out; simp; omega))⟩
        clear hHeld
        have O3 := Lib.hid o2
        have G3 := Lib.hid g2
        have E3 := Lib.hid e2
        have F3 := Lib.hid q2
        clear o2 g2 e2 q2
        refine hK.out _ _ hh (fun hHeld => ?_)
        clear hK K
        try simp only [Act.put, List.setIfInBounds_toArray, List.set_cons_zero, List.set_cons_succ]
        clear hh
        refine wpAnyH_ready (rs := [11]) (by kernel_rfl) (by simp) ?_
        refine AllReadyH.cons rfl (fun K hK => ?_) AllReadyH.nil
        replace hK := Lib.hid hK
        have k2 := cell_of F3.out 0
        have f2 := free_of F3.out 0
        simp only [List.getElem?_toArray, List.getElem?_cons_succ, List.getElem?_cons_zero] at k2
        go_simp
        have hst := (Chg.refl [s2] U3).setCell (p := ⟨s2, 0, none⟩) (.inl (by simp)) (.slice B2 (pre.length + 1) d2)
        have hh := (⟨hst.cell hHeld.1 (by have := HQ.out; simp; omega), hst.cell hHeld.2 (by have := HQ.out; simp; omega)⟩ : _ ∧ _)
        clear hHeld
        refine hK.out _ _ hh (fun hHeld => ?_)
        clear hK K
        try simp only [Act.put, List.setIfInBounds_toArray, List.set_cons_zero, List.set_cons_succ]
        refine wpAnyH_done (by kernel_rfl) ?_ _
        refine ⟨rfl, ?_⟩
        have q0 := Q0.out
        have q1 := Q1.out
        have q2 := Q2.out
        subst q0
        subst q1
        subst q2
        exact FIN.out h c1 U2 B2 d2 U3 F2.out O.out P.out C.out D1.out N1.out O3.out G3.out E3.out F3.out
end Go.Proofs.Ytnpilljjkfjjiaa
