/- The document's number, read: where digits follow, or none. The document's reader: Raw and Text. The document's writer and reader, made since a world w. edge.Bytes; the document's. edge.Read. Are two archives the same? -/
import Derived.Test.YtehmchdhlhchjaaGreatDoorZeaz
import Derived.Test.YtehmchdhlhchjaaGreatDoorZeaf
import Derived.Deep.RegionHeld3
import Derived.Deep.AppendLies
import Derived.Test.YtehmchdhlhchjaaGreatDoorZeap
import Derived.Test.YtehmchdhlhchjaaGreatDoorZeay
import Derived.Test.YtehmchdhlhchjaaGreatDoorZeas
import Derived.Deep.Cut
import Derived.Test.YtehmchdhlhchjaaGreatDoorZeax
import Derived.Test.YtehmchdhlhchjaaGreatDoorZeab
import Derived.Test.YtehmchdhlhchjaaGreatDoorZeal
set_option linter.unusedSimpArgs false
set_option linter.unusedVariables false
set_option maxHeartbeats 32000000
namespace Go.Proofs.YtehmchdhlhchjaaGreatDoor
section
open Go.RowKit Go.Lib


theorem bytesO_len_ (xs : List (Int × Int × Int)) : (bytesO xs).length ≤ 40000 := by
 unfold bytesO
 split
 ·
  rename_i h
  have := (chkS_zero h).1
  show (UInt8.ofNat (xs.length / 256) :: UInt8.ofNat xs.length :: xs.flatMap spanB).length ≤ 40000
  rw [List.length_cons, List.length_cons, flat_len]
  omega
 ·
  simp

set_option maxRecDepth 100000 in
theorem edbytes_any (w : World) (n : Int) (B : Option Addr) (bc : Nat) (q : List Sp) (h : RdK spanTy w B q.length q) (hn : q.length ≤ 140737488351232) :
  Calls Tryz.prog 49 #[.agg #[.int .i64 n, .slice B q.length bc]] w fun r w' => ∃ A' c', r = .returned (.tuple #[.slice A' (bytesA n q).1.length c', .int .i64 (bytesA n q).2]) ∧ Fresh w w' A' c' (bytesA n q).1 := by
 obtain ⟨w1, hw, hc, b0⟩ := news1 w (.cells #[.int .i64 n, .slice B q.length bc] 25)
 have W1 := h_ hw
 have H := h_ (h.chg hc (by simp))
 have C := h_ (hc)
 have B0 := h_ (b0)
 have HN := h_ (hn)
 have C0 := h_ (hc)
 generalize hv : bytesA n q = v
 have HV := h_ hv
 clear hw hc b0 h hn hv
 go_enter Tryz.func49, Tryz.ntmps49
 go_upto_region 1 with fail
 rw [← W1.out]
 generalize w.heap.size = g0 at *
 clear W1
 obtain ⟨z0, z1⟩ := ce2 B0.out
 go_wp2_with fail; clear z0 z1
 refine (edcheck_any w1 n B q.length bc q H.out HN.out).mono ?_
 rintro r w2 ⟨rfl, hc⟩
 replace C := h_ (C.out.trans hc)
 replace B0 := h_ (hc.at_ B0.out (by simp))
 replace H := h_ (H.out.chg hc (by simp))
 clear hc
 rcases chkA_two n q with hk | hk
 rotate_left
 ·
  skip
  obtain rfl : v = ([], 2) := by rw [← HV.out]; unfold bytesA; rw [if_neg (by rw [hk]; decide)]
  rw [hk]
  clear hk; go_wp2; go_ret2
  exact ⟨none, 0, rfl, OwnB.none_ _, by simp, C.out⟩
 obtain rfl : v = (outs (aW1 n q).1 (aW1 n q).2, (aW1 n q).2) := by rw [← HV.out]; unfold bytesA; rw [if_pos hk]
 have NB := h_ (chkA_ok hk)
 rw [hk]
 clear hk HV
 have EL := h_ (aW_len n q)
 obtain ⟨z0, z1⟩ := ce2 B0.out
 go_wp2_with fail; clear z0 z1
 refine (pabytes_any w2 B q.length bc q H.out HN.out).mono ?_
 rintro r w4 ⟨A4, c4, rfl, h4⟩
 have O4 := h_ h4.1
 have hc := h4.2.2
 clear h4
 replace C := h_ (C.out.trans hc)
 replace B0 := h_ (hc.at_ B0.out (by simp))
 clear hc; go_wp2_with fail
 refine (ws_new w4 w4 (Chg.refl [] w4)).mono ?_
 rintro r w5 ⟨b, rfl, h5⟩
 have K := h_ h5
 clear h5
 have BX : Hid (∀ w', Chg [] w4 w' → w'.heap[g0]? = some (.cells #[.int .i64 n, .slice B q.length bc] 25 (0, 0))) := h_ (fun w' hc => hc.at_ B0.out (by simp))
 have BK := h_ (BX.out _ K.out.chg)
 obtain ⟨z0, z1⟩ := ce2 BK.out
 go_wp2_with fail; clear z0 z1
 refine (ws_num w4 w5 b [] 0 n K.out (by simp)).mono ?_
 rintro r w6 ⟨rfl, h6⟩
 replace K : Hid (Ws w4 w6 b (aW0 n).1 (aW0 n).2) := h_ h6
 clear h6 BK; go_wp2_with fail
 refine (ws_raw w4 w6 b _ _ A4 _ c4 (bytesO q) K.out EL.out.1 (by have := bytesO_len_ q; omega) O4.out.reads).mono ?_
 rintro r w7 ⟨rfl, h7⟩
 replace K : Hid (Ws w4 w7 b (aW1 n q).1 (aW1 n q).2) := h_ h7
 clear h7; go_wp2_with fail
 refine (ws_out w4 w7 b _ _ K.out EL.out.2).mono ?_
 rintro r w8 ⟨A9, c9, rfl, h9⟩
 have F := h_ (h9.since C.out)
 clear h9; go_wp2; go_ret2
 exact ⟨A9, c9, rfl, F.out⟩
end
section
open Go.RowKit Go.Lib


theorem put22 {w : World} {s0 s1 : Nat} {a0 a1 b0 b1 : Value} {T T' : TypeId} (v0 v1 u0 u1 : Value) (q0 : w.heap[s0]? = some (.cells #[a0, a1] T (0, 0))) (q1 : w.heap[s1]? = some (.cells #[b0, b1] T' (0, 0))) (h : s0 ≠ s1) :
  ((((w.setCell ⟨s0, 0, none⟩ v0).setCell ⟨s0, 1, none⟩ v1).setCell ⟨s1, 0, none⟩ u0).setCell ⟨s1, 1, none⟩ u1).heap[s0]? = some (.cells #[v0, v1] T (0, 0)) ∧
  ((((w.setCell ⟨s0, 0, none⟩ v0).setCell ⟨s0, 1, none⟩ v1).setCell ⟨s1, 0, none⟩ u0).setCell ⟨s1, 1, none⟩ u1).heap[s1]? = some (.cells #[u0, u1] T' (0, 0)) := by
 have p0 := heap_setCell_same _ s0 0 _ _ v0 q0
 have p1 := heap_setCell_same _ s0 1 _ _ v1 p0
 have h' : s1 ≠ s0 := fun e => h e.symm
 have r : ((w.setCell ⟨s0, 0, none⟩ v0).setCell ⟨s0, 1, none⟩ v1).heap[s1]? = some (.cells #[b0, b1] T' (0, 0)) := by
  rw [Below.heap_setCell _ _ _ _ (by simpa using h'), Below.heap_setCell _ _ _ _ (by simpa using h')]
  exact q1
 have r0 := heap_setCell_same _ s1 0 _ _ u0 r
 have r1 := heap_setCell_same _ s1 1 _ _ u1 r0
 refine ⟨?_, r1⟩
 rw [Below.heap_setCell _ _ _ _ (by simpa using h), Below.heap_setCell _ _ _ _ (by simpa using h)]
 exact p1

theorem setE2 {w : World} {s0 : Nat} {a0 a1 : Value} {T : TypeId} (v0 v1 : Value) (q0 : w.heap[s0]? = some (.cells #[a0, a1] T (0, 0))) :
  ((w.setCell ⟨s0, 0, none⟩ v0).setCell ⟨s0, 1, none⟩ v1).heap[s0]? = some (.cells #[v0, v1] T (0, 0)) ∧ (∀ (s1 : Nat) (o : Obj), s0 ≠ s1 → w.heap[s1]? = some o → ((w.setCell ⟨s0, 0, none⟩ v0).setCell ⟨s0, 1, none⟩ v1).heap[s1]? = some o) ∧ Chg [s0] w ((w.setCell ⟨s0, 0, none⟩ v0).setCell ⟨s0, 1, none⟩ v1) := by
 have p0 := heap_setCell_same _ s0 0 _ _ v0 q0
 have p1 := heap_setCell_same _ s0 1 _ _ v1 p0
 refine ⟨p1, fun s1 o h q1 => ?_, ?_⟩
 ·
  rw [Below.heap_setCell _ _ _ _ (by simp; exact fun e => h e.symm), Below.heap_setCell _ _ _ _ (by simp; exact fun e => h e.symm)]
  exact q1
 ·
  exact (((Chg.refl [s0] w).put' 0 v0).put' 1 v1)

theorem Rs.ple_ {w w' : World} {b : Nat} {xs : List UInt8} {p : Nat} {fe fa : Int} (h : Rs w w' b xs p fe fa) : p ≤ xs.length := by
 obtain ⟨g, _, _, _, _, h5, _⟩ := h
 exact h5
theorem readA_bad {xs : List UInt8} (h : (rF xs).1 ≠ 0) : readA xs = ((0, []), rF xs) := if_pos h
theorem readA_odd {xs : List UInt8} (h : (rF xs).1 = 0) (h2 : (readS (rR xs).1).2.1 ≠ 0) : readA xs = ((0, []), (2, 0)) := by unfold readA; rw [if_neg (fun q => q h), if_pos h2]
theorem readA_yes {xs : List UInt8} (h : (rF xs).1 = 0) (h2 : (readS (rR xs).1).2.1 = 0) : readA xs = (((rN xs).1, (readS (rR xs).1).1), (0, 0)) := by unfold readA; rw [if_neg (fun q => q h), if_neg (fun q => q h2)]

set_option maxRecDepth 100000 in
theorem edread_any (w : World) (A : Option Addr) (n c : Nat) (xs : List UInt8) (h : Bs w A n xs) (hn : n ≤ 100000) :
  Calls Tryz.prog 50 #[.slice A n c] w fun r w' => ∃ A' c', r = .returned (.tuple #[.agg #[.int .i64 (readA xs).1.1, .slice A' (readA xs).1.2.length c'], .agg #[.int .i64 (readA xs).2.1, .int .i64 (readA xs).2.2]]) ∧ OwnK spanTy w' A' c' (readA xs).1.2 ∧ (∀ a, A' = some a → w.heap.size ≤ a.block) ∧ Chg [] w w' := by
 have hl := h.len
 subst hl
 obtain ⟨w0, hw, hc, b0, b1⟩ := news2 w (.cells #[.int .i64 0, .slice none 0 0] 25) (.cells #[.int .i64 0, .int .i64 0] 85)
 have W1 := h_ hw
 have H := h_ (h.chg hc (by simp))
 have C := h_ (hc)
 have B0 := h_ (b0)
 have B1 := h_ (b1)
 have HN := h_ (hn)
 generalize hv : readA xs = v
 have HV := h_ hv
 clear hw hc b0 b1 h hn hv
 go_enter Tryz.func50, Tryz.ntmps50
 go_upto_region 1 with fail
 rw [← W1.out]
 generalize hz1 : w.heap.size + 1 = g1 at *
 generalize hz0 : w.heap.size = g0 at *
 have Z := h_ (And.intro hz0 (hz1))
 have n01 : ¬ g0 = g1 := by omega
 have n10 : ¬ g1 = g0 := by omega
 clear W1 hz0 hz1; go_wp2_with fail
 refine (rs_open w0 w0 A xs.length c xs (Chg.refl _ _) H.out (by have := HN.out; omega)).mono ?_
 rintro e w1 ⟨b, rfl, h1⟩
 have K := h_ h1
 clear h1; go_wp2_with fail
 have r1 := rs_num w0 w1 b xs 0 0 0 1 200 K.out
 change Calls _ _ _ _ (fun r w' => r = .returned (.int .i64 (rN xs).1) ∧ Rs w0 w' b xs (rN xs).2.1 (rN xs).2.2.1 (rN xs).2.2.2 ∧ _) at r1
 refine r1.mono ?_
 rintro e w2 ⟨rfl, h2, -⟩
 replace K := h_ h2
 clear h2 r1
 have LR : Hid ((rR xs).1.length ≤ xs.length) := h_ (rRaw_le K.out.ple_).1
 go_wp2_with fail
 have r1 := rs_raw w0 w2 b xs _ _ _ 40000 K.out
 change Calls _ _ _ _ (fun r w' => ∃ A1 c1, r = .returned (.slice A1 (rR xs).1.length c1) ∧ OwnB w' A1 c1 (rR xs).1 ∧ (∀ a, A1 = some a → w2.heap.size ≤ a.block) ∧ Rs w0 w' b xs (rR xs).2.1 (rR xs).2.2.1 (rR xs).2.2.2 ∧ _) at r1
 refine r1.mono ?_
 rintro e w3 ⟨A3, c3, rfl, o3, n3, h3, -⟩
 have O3 := h_ o3
 replace K := h_ h3
 clear h3 r1 o3 n3; go_wp2_with fail
 have r1 := rs_end w0 w3 b xs _ _ _ K.out
 change Calls _ _ _ _ (fun r w' => r = .returned (.agg #[.int .i64 (rF xs).1, .int .i64 (rF xs).2]) ∧ _) at r1
 refine r1.mono ?_
 rintro e w4 ⟨rfl, hc⟩
 have hd := K.out.chg.trans hc
 replace O3 := h_ (O3.out.chg hc (by simp))
 replace C := h_ (C.out.trans hd)
 replace B0 := h_ (hd.at_ B0.out (by simp))
 replace B1 := h_ (hd.at_ B1.out (by simp))
 clear hc hd r1 K
 obtain ⟨w5, hw, hc, b7⟩ := news1 w4 (.cells #[.int .i64 (rF xs).1, .int .i64 (rF xs).2] 85)
 have W5 := h_ hw
 have B7 := h_ b7
 have NS : Hid (¬ g0 = w4.heap.size ∧ ¬ g1 = w4.heap.size) := h_ (by have := lt_of_heap B0.out; have := lt_of_heap B1.out; omega)
 replace O3 := h_ (O3.out.chg hc (by simp))
 replace C := h_ (C.out.trans hc)
 replace B0 := h_ (hc.at_ B0.out (by simp))
 replace B1 := h_ (hc.at_ B1.out (by simp))
 clear hw hc b7
 go_upto_region 4 with fail
 rw [← W5.out]
 generalize w4.heap.size = s7 at *
 clear W5
 obtain ⟨y0, y1⟩ := ce2 B7.out
 by_cases he : (rF xs).1 = 0
 rotate_left
 ·
  skip
  have he' : ((rF xs).1 != 0) = true := bne_iff_ne.2 he
  have e3 : ((rF xs).1 == 0) = false := beq_eq_false_iff_ne.2 he
  obtain rfl : v = ((0, []), rF xs) := by rw [← HV.out]; exact readA_bad he
  go_upto_region 5 with fail
  clear HV he he' e3
  have n07 : ¬ g0 = s7 := NS.out.1
  have n17 : ¬ g1 = s7 := NS.out.2
  refine wp_region_held_drew (S := fun w' => w'.cell? ⟨s7, 0, none⟩ = some (.int .i64 (rF xs).1) ∧ w'.cell? ⟨s7, 1, none⟩ = some (.int .i64 (rF xs).2)) (by kernel_rfl) ⟨y0, y1⟩ (fun hHeld => ?_)
  have CD := h_ (Chg.refl [] w5).drew
  replace C := h_ (C.out.trans CD.out)
  replace B0 := h_ (CD.out.at_ B0.out (by simp))
  replace B1 := h_ (CD.out.at_ B1.out (by simp))
  replace B7 := h_ (CD.out.at_ B7.out (by simp))
  clear CD hHeld y0 y1
  generalize w5.drew = wc at *
  refine sy 0 21 rfl rfl ?_ (hS := ⟨cell_of B7.out 0, cell_of B7.out 1⟩)
  try simp only [Act.put, sA, s0, s1]
  refine sy 1 22 rfl rfl ?_ (hS := ⟨cell_of B7.out 0, cell_of B7.out 1⟩) (hy := by (intro w hSw; (try dsimp only at hSw); obtain ⟨q0, q1⟩ := hSw; go_simp; try with_reducible rfl))
  try simp only [Act.put, sA, s0, s1]
  refine on1 2 rfl (fun K hK => ?_)
  have t0 := cell_of B0.out 0
  have t1 := cell_of B0.out 1
  have ft0 := free_of B0.out 0
  have ft1 := free_of B0.out 1
  simp only [gA, gY, gZ] at t0 t1
  go_simp; clear t0 t1 ft0 ft1
  obtain ⟨p0, p1, p2⟩ := setE2 (.int .i64 0) (.slice none 0 0) B0.out
  generalize ((wc.setCell ⟨g0, 0, none⟩ (.int .i64 0)).setCell ⟨g0, 1, none⟩ (.slice none 0 0)) = wa at *
  have Q0 := h_ p0
  have Q1 := h_ (p1 g1 _ n01 B1.out)
  have Q7 := h_ (p1 s7 _ n07 B7.out)
  have CA := h_ p2
  clear p0 p1 p2
  refine hK.out _ _ ⟨cell_of Q7.out 0, cell_of Q7.out 1⟩ (fun hHeld => ?_)
  clear hK K; try simp only [Act.put, sA, s0, s1]
  refine on1 3 rfl (fun K hK => ?_)
  have u0 := cell_of Q1.out 0
  have u1 := cell_of Q1.out 1
  have fu0 := free_of Q1.out 0
  have fu1 := free_of Q1.out 1
  simp only [gA, gY, gZ] at u0 u1
  go_simp; clear u0 u1 fu0 fu1
  obtain ⟨p0, p1, p2⟩ := setE2 (.int .i64 (rF xs).1) (.int .i64 (rF xs).2) Q1.out
  generalize ((wa.setCell ⟨g1, 0, none⟩ (.int .i64 (rF xs).1)).setCell ⟨g1, 1, none⟩ (.int .i64 (rF xs).2)) = wz at *
  have P9 := And.intro (p1 g0 _ n10 Q0.out) p0
  have R7 := h_ (p1 s7 _ n17 Q7.out)
  have C9 : Chg [g0, g1] wc wz := (CA.out.mono (fun i hi => .inl (by simp at hi; simp [hi]))).trans (p2.mono (fun i hi => .inl (by simp at hi; simp [hi])))
  clear p0 p1 p2
  refine hK.out _ _ ⟨cell_of R7.out 0, cell_of R7.out 1⟩ (fun hHeld => ?_)
  clear hK K; try simp only [Act.put, sA, s0, s1]
  refine wpAnyH_done (by kernel_rfl) ?_ _; clear hHeld; go_wp2
  have P0 := h_ P9.1
  have P1 := h_ P9.2
  obtain ⟨t0, t1⟩ := ce2 P0.out
  obtain ⟨u0, u1⟩ := ce2 P1.out
  refine bodyPost_ret (v := .tuple #[.agg #[.int .i64 0, .slice none 0 0], .agg #[.int .i64 (rF xs).1, .int .i64 (rF xs).2]]) (by simp [results, Tryz.results50, go_sem, t0, t1, u0, u1]) rfl ?_
  exact ⟨none, 0, rfl, OwnK.none_ _, by simp, C.out.trans' C9 (fun i hi => .inr (by have := Z.out; simp at hi; omega))⟩
 have he' : ((rF xs).1 != 0) = false := by simpa using he
 have FZ := h_ (rN_calm he).2.2.1
 have HE := h_ he
 clear he; go_wp2_with fail; clear he'; clear y0 y1
 refine (paread_any w5 A3 _ c3 (rR xs).1 O3.out.reads (by have := LR.out; have := HN.out; omega) O3.out.cap.1 (by have := O3.out.cap.2; unfold maxLen at this; omega)).mono ?_
 rintro e w6 ⟨A6, c6, rfl, ho, hnw, hc⟩
 have N6 : Hid (∀ a, A6 = some a → w5.heap.size ≤ a.block) := h_ hnw
 have O := h_ ho
 have L5 : Hid (g0 < w5.heap.size ∧ g1 < w5.heap.size) := h_ ⟨lt_of_heap B0.out, lt_of_heap B1.out⟩
 replace C := h_ (C.out.trans hc)
 replace B0 := h_ (hc.at_ B0.out (by simp))
 replace B1 := h_ (hc.at_ B1.out (by simp))
 replace B7 := h_ (hc.at_ B7.out (by simp))
 clear hc ho hnw O3
 obtain ⟨QE, hQE⟩ : ∃ x, readS (rR xs).1 = x := ⟨_, rfl⟩
 have HQE := h_ hQE
 rw [hQE] at O ⊢
 clear hQE
 obtain ⟨w7, hw, hc, b9⟩ := news1 w6 (.cells #[.int .i64 QE.2.1, .int .i64 QE.2.2] 85)
 have W7 := h_ hw
 have B9 := h_ b9
 replace O := h_ (O.out.chg hc (by simp))
 replace C := h_ (C.out.trans hc)
 replace B0 := h_ (hc.at_ B0.out (by simp))
 replace B1 := h_ (hc.at_ B1.out (by simp))
 replace B7 := h_ (hc.at_ B7.out (by simp))
 clear hw hc b9
 go_upto_region 7 with fail
 rw [← W7.out]
 generalize w6.heap.size = s9 at *
 clear W7
 obtain ⟨y0, y1⟩ := ce2 B9.out
 by_cases hq : QE.2.1 = 0
 rotate_left
 ·
  skip
  have q1 : (QE.2.1 != 0) = true := bne_iff_ne.2 hq
  have q2 : (QE.2.1 == 0) = false := beq_eq_false_iff_ne.2 hq
  obtain rfl : v = ((0, []), (2, 0)) := by rw [← HV.out]; exact readA_odd HE.out (by rw [HQE.out]; exact hq)
  go_upto_region 8 with fail
  clear HV hq q1 q2; clear y0 y1
  have t0 := cell_of B0.out 0
  have t1 := cell_of B0.out 1
  have ft0 := free_of B0.out 0
  have ft1 := free_of B0.out 1
  simp only [gA, gY, gZ] at t0 t1
  have u0 := cell_of B1.out 0
  have u1 := cell_of B1.out 1
  have fu0 := free_of B1.out 0
  have fu1 := free_of B1.out 1
  simp only [gA, gY, gZ] at u0 u1
  go_wp2; clear t0 t1 ft0 ft1; clear u0 u1 fu0 fu1
  have P9 := put22 (.int .i64 0) (.slice none 0 0) (.int .i64 2) (.int .i64 0) B0.out B1.out n01
  have C9 : Chg [g0, g1] w7 ((((w7.setCell ⟨g0, 0, none⟩ (.int .i64 0)).setCell ⟨g0, 1, none⟩ (.slice none 0 0)).setCell ⟨g1, 0, none⟩ (.int .i64 2)).setCell ⟨g1, 1, none⟩ (.int .i64 0)) := (((((Chg.refl [g0, g1] w7).setCell (p := ⟨g0, 0, none⟩) (.inl (by simp)) _).setCell (p := ⟨g0, 1, none⟩) (.inl (by simp)) _).setCell (p := ⟨g1, 0, none⟩) (.inl (by simp)) _).setCell (p := ⟨g1, 1, none⟩) (.inl (by simp)) _)
  generalize ((((w7.setCell ⟨g0, 0, none⟩ (.int .i64 0)).setCell ⟨g0, 1, none⟩ (.slice none 0 0)).setCell ⟨g1, 0, none⟩ (.int .i64 2)).setCell ⟨g1, 1, none⟩ (.int .i64 0)) = wz at *
  have P0 := h_ P9.1
  have P1 := h_ P9.2
  obtain ⟨t0, t1⟩ := ce2 P0.out
  obtain ⟨u0, u1⟩ := ce2 P1.out
  refine bodyPost_ret (v := .tuple #[.agg #[.int .i64 0, .slice none 0 0], .agg #[.int .i64 2, .int .i64 0]]) (by simp [results, Tryz.results50, go_sem, t0, t1, u0, u1]) rfl ?_
  exact ⟨none, 0, rfl, OwnK.none_ _, by simp, C.out.trans' C9 (fun i hi => .inr (by have := Z.out; simp at hi; omega))⟩
 have q1 : (QE.2.1 != 0) = false := by simpa using hq
 obtain rfl : v = (((rN xs).1, QE.1), (0, 0)) := by rw [← HV.out, readA_yes HE.out (by rw [HQE.out]; exact hq), HQE.out]
 rw [hq] at y0
 go_upto_region 9 with fail
 clear HV hq q1; clear y0 y1
 have t0 := cell_of B0.out 0
 have t1 := cell_of B0.out 1
 have ft0 := free_of B0.out 0
 have ft1 := free_of B0.out 1
 simp only [gA, gY, gZ] at t0 t1
 have u0 := cell_of B1.out 0
 have u1 := cell_of B1.out 1
 have fu0 := free_of B1.out 0
 have fu1 := free_of B1.out 1
 simp only [gA, gY, gZ] at u0 u1
 go_wp2; clear t0 t1 ft0 ft1; clear u0 u1 fu0 fu1
 have P9 := put22 (.int .i64 (rN xs).1) (.slice A6 QE.1.length c6) (.int .i64 0) (.int .i64 0) B0.out B1.out n01
 have C9 : Chg [g0, g1] w7 ((((w7.setCell ⟨g0, 0, none⟩ (.int .i64 (rN xs).1)).setCell ⟨g0, 1, none⟩ (.slice A6 QE.1.length c6)).setCell ⟨g1, 0, none⟩ (.int .i64 0)).setCell ⟨g1, 1, none⟩ (.int .i64 0)) := (((((Chg.refl [g0, g1] w7).setCell (p := ⟨g0, 0, none⟩) (.inl (by simp)) _).setCell (p := ⟨g0, 1, none⟩) (.inl (by simp)) _).setCell (p := ⟨g1, 0, none⟩) (.inl (by simp)) _).setCell (p := ⟨g1, 1, none⟩) (.inl (by simp)) _)
 generalize ((((w7.setCell ⟨g0, 0, none⟩ (.int .i64 (rN xs).1)).setCell ⟨g0, 1, none⟩ (.slice A6 QE.1.length c6)).setCell ⟨g1, 0, none⟩ (.int .i64 0)).setCell ⟨g1, 1, none⟩ (.int .i64 0)) = wz at *
 have P0 := h_ P9.1
 have P1 := h_ P9.2
 obtain ⟨t0, t1⟩ := ce2 P0.out
 obtain ⟨u0, u1⟩ := ce2 P1.out
 refine bodyPost_ret (v := .tuple #[.agg #[.int .i64 (rN xs).1, .slice A6 QE.1.length c6], .agg #[.int .i64 0, .int .i64 0]]) (by simp [results, Tryz.results50, go_sem, t0, t1, u0, u1]) rfl ?_
 exact ⟨A6, c6, rfl, O.out.chg C9 (fun a ha => by have := N6.out a ha; have := L5.out; simp; omega), (fun a ha => by have := N6.out a ha; have := L5.out; have := Z.out; omega), C.out.trans' C9 (fun i hi => .inr (by have := Z.out; simp at hi; omega))⟩
end
section
open Go.RowKit Go.Lib

set_option maxRecDepth 100000 in
theorem edsame_any (w : World) (n : Int) (B : Option Addr) (bl bc : Nat) (q : List Sp) (m : Int) (D : Option Addr) (dl dc : Nat) (k : List Sp) (h : RdK spanTy w B bl q) (h2 : RdK spanTy w D dl k) (hn : bl ≤ 140737488351232) (hm : dl ≤ 140737488351232) :
  Calls Tryz.prog 19 #[.agg #[.int .i64 n, .slice B bl bc], .agg #[.int .i64 m, .slice D dl dc]] w fun r w' => r = .returned (.bool (decide (n = m) && (q == k))) ∧ Chg [] w w' := by
 obtain ⟨w1, hw, hc, b0, b1⟩ := news2 w (.cells #[.int .i64 n, .slice B bl bc] 25) (.cells #[.int .i64 m, .slice D dl dc] 25)
 have W1 := h_ hw
 have H := h_ (h.chg hc (by simp))
 have H2 := h_ (h2.chg hc (by simp))
 have C := h_ hc
 have HN := h_ (And.intro hn hm)
 generalize hv : (decide (n = m) && (q == k)) = v
 have HV := h_ hv
 obtain ⟨z0, z1⟩ := ce2 b0
 obtain ⟨y0, y1⟩ := ce2 b1
 clear hw hc b0 b1 h h2 hn hm hv
 go_enter Tryz.func19, Tryz.ntmps19
 go_upto_region 1 with fail
 rw [← W1.out]
 generalize w.heap.size + 1 = g1 at *
 generalize w.heap.size = g0 at *
 clear W1
 by_cases he : n = m
 ·
  have e1 : ((n == m) : Bool) = true := by rw [he]; exact beq_self_eq_true _
  have HW : Hid ((q == k) = v) := h_ (by rw [← HV.out, decide_eq_true he]; rfl)
  clear he; go_wp2_with fail; clear z0 z1 y0 y1
  refine (samespan_any w1 B D bl dl bc dc q k H.out H2.out HN.out.1 HN.out.2).mono ?_
  rintro r w2 ⟨rfl, hc⟩
  replace C := h_ (C.out.trans hc)
  clear hc
  rw [HW.out]
  go_wp2; go_ret
  exact ⟨rfl, C.out⟩
 ·
  have e1 : ((n == m) : Bool) = false := beq_eq_false_iff_ne.2 he
  obtain rfl : v = false := by rw [← HV.out, decide_eq_false he]; rfl
  go_wp2; go_ret
  exact ⟨rfl, C.out⟩
end
end Go.Proofs.YtehmchdhlhchjaaGreatDoor
