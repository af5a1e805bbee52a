/- The document's Bytes, Size of an event. Package frame: CheckPacket. Package frame: PutPacket. Package frame: GetPacket. Package frame: GetPacket of bytes that are whole. Package frame: PutMessage of the chapter's two messages. Layer 17: awake. The document's layer 17: number, CheckPacket, sum, PutPacket, GetPacket. The document's fingerprint, as bytes. strings.Repeat of '0', print.Text. print is awake: layer 2. -/
import Derived.Test.YtomgjogkkoigbaaGreatDoorZstz
import Derived.Test.YtomgjogkkoigbaaGreatDoorZstx
import Derived.Test.YtomgjogkkoigbaaGreatDoorZstw
import Derived.Test.YtomgjogkkoigbaaGreatDoorZsts
import Derived.Deep.Cut
import Derived.Test.YtomgjogkkoigbaaGreatDoorZsta
import Derived.Deep.RegionHeld3
import Derived.Deep.CutRange
import Derived.Test.YtomgjogkkoigbaaGreatDoorZstza
import Derived.Lib.SlBytesConst
set_option linter.unusedSimpArgs false
set_option linter.unusedVariables false
namespace Go.Proofs.YtomgjogkkoigbaaGreatDoor
section
open Go.RowKit Go.Lib


set_option maxRecDepth 100000 in
set_option maxHeartbeats 8000000 in
theorem vebytes_any (w : World) (x : EvT) (e : EvP) (h : EvR w x e) (hs : EvSm e) (hi : -9223372036854775808 ≤ e.n ∧ e.n ≤ 9223372036854775807 ∧ -9223372036854775808 ≤ e.s ∧ e.s ≤ 9223372036854775807) :
  Calls Tryz.prog 72 #[.agg #[.int .i64 x.n, .int .i64 x.s, .string x.p, .int .i64 x.k, .int .i64 x.m, .slice x.A x.l x.c, .slice x.B x.bl x.bc]] w fun r w' => ∃ A' c', r = .returned (.tuple #[.slice A' (bytesEv e).1.length c', .int .i64 (bytesEv e).2]) ∧ Fresh w w' A' c' (bytesEv e).1 := by
 obtain ⟨w1, hw1, c1, b1⟩ := news1 w (.cells #[.int .i64 x.n, .int .i64 x.s, .string x.p, .int .i64 x.k, .int .i64 x.m, .slice x.A x.l x.c, .slice x.B x.bl x.bc] 30)
 have W1 := Lib.hid hw1
 have HR := Lib.hid (h.chg c1)
 have C0 := Lib.hid c1
 have HS := Lib.hid hs
 have HI := Lib.hid hi
 clear hi
 have z0 := cell_of b1 0
 have z1 := cell_of b1 1
 have z2 := cell_of b1 2
 have z3 := cell_of b1 3
 have z4 := cell_of b1 4
 have z5 := cell_of b1 5
 have z6 := cell_of b1 6
 simp only [List.getElem?_toArray, List.getElem?_cons_succ, List.getElem?_cons_zero] at z0 z1 z2 z3 z4 z5 z6
 have hck := vecheck_any w1 x e (h.chg c1) hs
 rcases chkEv_two e with hk | hk
 rotate_left
 ·
  have EB : Hid (bytesEv e = ([], 2)) := Lib.hid (by unfold bytesEv; rw [hk]; rfl)
  rw [hk] at hck
  have HC := Lib.hid hck
  clear hck hk hw1 c1 b1 h hs
  rw [EB.out]
  go_enter Tryz.func72, Tryz.ntmps72
  go_upto_region 1 with fail
  rw [← W1.out]
  generalize w.heap.size = g0 at *
  go_wp2_with fail
  refine HC.out.mono ?_
  rintro r w2 ⟨rfl, hc⟩
  have C := Lib.hid (C0.out.trans hc)
  clear hc z0 z1 z2 z3 z4 z5 z6; go_wp2; go_ret2
  exact ⟨none, 0, rfl, OwnB.none_ _, by simp, C.out⟩
 have EB : Hid (bytesEv e = (outs (evW4 e).1 (evW4 e).2, (evW4 e).2)) := Lib.hid (by unfold bytesEv; rw [if_pos hk])
 rw [hk] at hck
 have HC := Lib.hid hck
 rw [EB.out]
 obtain ⟨g0, hg0⟩ : ∃ g, w.heap.size = g := ⟨_, rfl⟩
 rw [hg0] at z0 z1 z2 z3 z4 z5 z6
 have G0 := Lib.hid hg0
 have DX : Hid (∀ w', Chg [] w1 w' → w'.cell? ⟨g0, 0, none⟩ = some (.int .i64 x.n) ∧ w'.cell? ⟨g0, 1, none⟩ = some (.int .i64 x.s) ∧ w'.cell? ⟨g0, 2, none⟩ = some (.string x.p) ∧ w'.cell? ⟨g0, 3, none⟩ = some (.int .i64 x.k) ∧ w'.cell? ⟨g0, 4, none⟩ = some (.int .i64 x.m) ∧ w'.cell? ⟨g0, 5, none⟩ = some (.slice x.A x.l x.c) ∧ w'.cell? ⟨g0, 6, none⟩ = some (.slice x.B x.bl x.bc)) := Lib.hid (fun w' hc => ⟨hc.cell z0 (by simp), hc.cell z1 (by simp), hc.cell z2 (by simp), hc.cell z3 (by simp), hc.cell z4 (by simp), hc.cell z5 (by simp), hc.cell z6 (by simp)⟩)
 have xn := Lib.hid h.n
 have xs := Lib.hid h.s
 have xp := Lib.hid h.p
 have xk := Lib.hid h.k
 have xm := Lib.hid h.m
 have EL := Lib.hid (evW_len e)
 clear hck hk hw1 c1 b1 h hs hg0
 go_enter Tryz.func72, Tryz.ntmps72
 go_upto_region 1 with fail
 rw [← W1.out, G0.out]
 go_wp2_with fail
 refine HC.out.mono ?_
 rintro r w2 ⟨rfl, hc⟩
 have C := Lib.hid hc
 clear hc z0 z1 z2 z3 z4 z5 z6
 obtain ⟨z0, z1, z2, z3, z4, z5, z6⟩ := DX.out _ C.out
 go_wp2_with fail
 refine (fbytes_any w2 x.k x.m x.A x.l x.c e.b (HR.out.A.chg C.out (by simp)) (by rw [HR.out.l]; exact HS.out.2.1)).mono ?_
 rintro r w3 ⟨A3, c3, rfl, h3⟩
 clear z0 z1 z2 z3 z4 z5 z6
 rw [xk.out, xm.out] at h3
 rw [xk.out, xm.out]
 have O3 := Lib.hid h3.1
 replace C := Lib.hid (C.out.trans h3.2.2)
 clear h3
 obtain ⟨z0, z1, z2, z3, z4, z5, z6⟩ := DX.out _ C.out
 go_wp2_with fail
 refine (qbytes_any w3 x.B x.bl x.bc e.q (HR.out.B.chg C.out (by simp)) (by rw [HR.out.bl]; exact HS.out.2.2)).mono ?_
 rintro r w4 ⟨A4, c4, rfl, h4⟩
 clear z0 z1 z2 z3 z4 z5 z6
 have O4 := Lib.hid h4.1
 replace O3 := Lib.hid (O3.out.chg h4.2.2 (by simp))
 replace C := Lib.hid (C.out.trans h4.2.2)
 clear h4
 have DX4 : Hid (∀ w', Chg [] w4 w' → w'.cell? ⟨g0, 0, none⟩ = some (.int .i64 x.n) ∧ w'.cell? ⟨g0, 1, none⟩ = some (.int .i64 x.s) ∧ w'.cell? ⟨g0, 2, none⟩ = some (.string x.p) ∧ w'.cell? ⟨g0, 3, none⟩ = some (.int .i64 x.k) ∧ w'.cell? ⟨g0, 4, none⟩ = some (.int .i64 x.m) ∧ w'.cell? ⟨g0, 5, none⟩ = some (.slice x.A x.l x.c) ∧ w'.cell? ⟨g0, 6, none⟩ = some (.slice x.B x.bl x.bc)) := Lib.hid (fun w' hc => DX.out _ (C.out.trans hc))
 have P4 := xp
 have K := Lib.hid (vs_new w4 w4 (Chg.refl [] w4))
 obtain ⟨w5, hw5⟩ : ∃ w5, w5 = w4.alloc (.cells #[.slice none 0 0, .int .i64 0] 151) := ⟨_, rfl⟩
 rw [← hw5] at K
 have W5 := Lib.hid hw5.symm
 clear hw5
 obtain ⟨b, hb⟩ : ∃ b, w4.heap.size = b := ⟨_, rfl⟩
 rw [hb] at K
 have HB := Lib.hid hb
 clear hb
 obtain ⟨z0, z1, z2, z3, z4, z5, z6⟩ := DX4.out _ K.out.chg
 go_upto_region 6 with fail
 rw [W5.out, HB.out]
 clear W5; go_wp2_with fail
 refine (vs_num w4 w5 b [] 0 x.n K.out (by simp) (by rw [xn.out]; exact HI.out.1) (by rw [xn.out]; exact HI.out.2.1)).mono ?_
 rintro r w6 ⟨rfl, h⟩
 rw [xn.out] at h
 clear z0 z1 z2 z3 z4 z5 z6
 replace K : Hid (Vs w4 w6 b (evW0 e).1 (evW0 e).2) := Lib.hid h
 clear h
 obtain ⟨z0, z1, z2, z3, z4, z5, z6⟩ := DX4.out _ K.out.chg
 go_wp2_with fail
 refine (vs_num w4 w6 b _ _ x.s K.out EL.out.1 (by rw [xs.out]; exact HI.out.2.2.1) (by rw [xs.out]; exact HI.out.2.2.2)).mono ?_
 rintro r w7 ⟨rfl, h⟩
 rw [xs.out] at h
 clear z0 z1 z2 z3 z4 z5 z6
 replace K : Hid (Vs w4 w7 b (evW1 e).1 (evW1 e).2) := Lib.hid h
 clear h
 obtain ⟨z0, z1, z2, z3, z4, z5, z6⟩ := DX4.out _ K.out.chg
 go_wp2_with fail
 refine (vs_text w4 w7 b _ _ x.p K.out (EL.out.2.1) (by rw [xp.out, strOf_size]; have := HS.out.1; omega)).mono ?_
 rintro r w8 ⟨rfl, h⟩
 rw [xp.out, strOf_data] at h
 clear z0 z1 z2 z3 z4 z5 z6
 replace K : Hid (Vs w4 w8 b (evW2 e).1 (evW2 e).2) := Lib.hid h
 clear h
 obtain ⟨z0, z1, z2, z3, z4, z5, z6⟩ := DX4.out _ K.out.chg
 go_wp2_with fail
 refine (vs_raw w4 w8 b _ _ A3 _ c3 (effO e.k e.m e.b) K.out (EL.out.2.2.1) (by have := effO_len e.k e.m e.b; omega) O3.out.reads).mono ?_
 rintro r w9 ⟨rfl, h⟩
 clear z0 z1 z2 z3 z4 z5 z6
 replace K : Hid (Vs w4 w9 b (evW3 e).1 (evW3 e).2) := Lib.hid h
 clear h
 obtain ⟨z0, z1, z2, z3, z4, z5, z6⟩ := DX4.out _ K.out.chg
 go_wp2_with fail
 refine (vs_raw w4 w9 b _ _ A4 _ c4 (bytesO e.q) K.out (EL.out.2.2.2.1) (by have := bytesO_len e.q; omega) O4.out.reads).mono ?_
 rintro r w10 ⟨rfl, h⟩
 clear z0 z1 z2 z3 z4 z5 z6
 replace K : Hid (Vs w4 w10 b (evW4 e).1 (evW4 e).2) := Lib.hid h
 clear h
 obtain ⟨z0, z1, z2, z3, z4, z5, z6⟩ := DX4.out _ K.out.chg
 go_wp2_with fail
 refine (vs_out w4 w10 b _ _ K.out (EL.out.2.2.2.2)).mono ?_
 rintro r w11 ⟨A9, c9, rfl, h9⟩
 have F := Lib.hid (h9.since (C0.out.trans C.out))
 clear h9 z0 z1 z2 z3 z4 z5 z6; go_wp2; go_ret2
 exact ⟨A9, c9, rfl, F.out⟩

set_option maxRecDepth 100000 in
set_option maxHeartbeats 4000000 in
theorem vesize_any (w : World) (x : EvT) (e : EvP) (h : EvR w x e) (hs : EvSm e) (hi : -9223372036854775808 ≤ e.n ∧ e.n ≤ 9223372036854775807 ∧ -9223372036854775808 ≤ e.s ∧ e.s ≤ 9223372036854775807) :
  Calls Tryz.prog 76 #[.agg #[.int .i64 x.n, .int .i64 x.s, .string x.p, .int .i64 x.k, .int .i64 x.m, .slice x.A x.l x.c, .slice x.B x.bl x.bc]] w fun r w' => r = .returned (.int .i64 ((bytesEv e).1.length : Int)) ∧ Chg [] w w' := by
 obtain ⟨w1, hw1, c1, b1⟩ := news1 w (.cells #[.int .i64 x.n, .int .i64 x.s, .string x.p, .int .i64 x.k, .int .i64 x.m, .slice x.A x.l x.c, .slice x.B x.bl x.bc] 30)
 have W1 := Lib.hid hw1
 have HR := Lib.hid (h.chg c1)
 have C0 := Lib.hid c1
 have HS := Lib.hid hs
 have HI := Lib.hid hi
 clear hi
 have z0 := cell_of b1 0
 have z1 := cell_of b1 1
 have z2 := cell_of b1 2
 have z3 := cell_of b1 3
 have z4 := cell_of b1 4
 have z5 := cell_of b1 5
 have z6 := cell_of b1 6
 simp only [List.getElem?_toArray, List.getElem?_cons_succ, List.getElem?_cons_zero] at z0 z1 z2 z3 z4 z5 z6
 clear hw1 c1 b1 h hs
 generalize hB : bytesEv e = B
 have HB := Lib.hid hB
 clear hB
 go_enter Tryz.func76, Tryz.ntmps76
 go_upto_region 1 with fail
 rw [← W1.out]
 generalize w.heap.size = g0 at *
 go_wp2_with fail
 refine (vebytes_any w1 x e HR.out HS.out HI.out).mono ?_
 rintro r w2 ⟨A2, c2, rfl, hf⟩
 rw [HB.out]
 have C := Lib.hid (C0.out.trans hf.2.2)
 clear hf z0 z1 z2 z3 z4 z5 z6; go_wp2; go_ret
 exact ⟨rfl, C.out⟩
end
section
open Go.RowKit

end
section
open Go.RowKit

set_option maxHeartbeats 1000000 in
theorem gmore_any (w : World) (s : Nat) (hs : s < 18446744073709551616) (A : Option Addr) (n c : Nat) (xs : List UInt8) (h : Bs w A n xs) (hn : n ≤ 140737488351232) :
  Calls Tryz.prog 148 #[.int .u64 (s : Int), .slice A n c] w fun e w' => e = .returned (.int .u64 (fnv s xs : Int)) ∧ w = w' := by
 have hl := h.len
 subst hl
 have HB := Lib.hid h
 have HS := Lib.hid hs
 clear h hs
 go_enter Tryz.func148, Tryz.ntmps148
 go_wp2
 go_loop [0, 5] (fun v i => ∃ k : Nat, k ≤ xs.length ∧ i = .int .i64 k ∧ v = .int .u64 (fnv s (xs.take k) : Int)) (fun _ i => xs.length - (intOf i).toNat)
 case atStart => exact ⟨0, by omega, rfl, rfl⟩
 case round =>
  obtain ⟨k, hk, rfl, rfl⟩ := hrel
  by_cases hlt : k < xs.length
  ·
   obtain ⟨g, o, rfl, hc⟩ := HB.out.line (by omega)
   have hck := hc k hlt
   have hst := fnv_step (fnv s (xs.take k)) (xs.getD k 0) (fnv_lt _ _ HS.out)
   have ht := fnv_take s xs k hlt
   have HT := Lib.hid ht
   have HSt := Lib.hid hst
   clear hc ht hst
   generalize fnv s (xs.take k) = f at *
   generalize xs.getD k 0 = x at *
   go_wp2; go_round
   case rel => exact ⟨k + 1, by omega, by go_num, by rw [HSt.out, HT.out]⟩
   case measure => simp [intOf]; omega
  ·
   go_wp2; go_ret
   have : k = xs.length := by omega
   subst this
   exact ⟨by rw [List.take_length]; rfl, rfl⟩
set_option maxHeartbeats 400000 in
theorem gstart_any (w : World) : Calls Tryz.prog 149 #[] w fun e w' => e = .returned (.int .u64 14695981039346656037) ∧ w = w' := by
 go_enter Tryz.func149, Tryz.ntmps149
 go_wp2; go_ret
 exact ⟨rfl, rfl⟩
set_option maxHeartbeats 400000 in
theorem gsum_any (w : World) (A : Option Addr) (n c : Nat) (xs : List UInt8) (h : Bs w A n xs) (hn : n ≤ 140737488351232) :
  Calls Tryz.prog 73 #[.slice A n c] w fun e w' => e = .returned (.int .u64 (fnvS xs : Int)) ∧ w = w' := by
 have hc := gmore_any w fnv0 fnv0_lt A n c xs h hn
 change Calls _ _ _ _ (fun e w' => e = .returned (.int .u64 (fnvS xs : Int)) ∧ w = w') at hc
 have HC := Lib.hid hc
 clear h hc
 generalize fnvS xs = S at *
 go_enter Tryz.func73, Tryz.ntmps73
 go_wp2_with (first | (go_at_call 149; refine (gstart_any _).mono ?_; rintro e w1 ⟨rfl, rfl⟩) | (go_at_call 148; refine HC.out.mono ?_; rintro e w1 ⟨rfl, rfl⟩))
 go_ret
 exact ⟨rfl, rfl⟩
end
end Go.Proofs.YtomgjogkkoigbaaGreatDoor
