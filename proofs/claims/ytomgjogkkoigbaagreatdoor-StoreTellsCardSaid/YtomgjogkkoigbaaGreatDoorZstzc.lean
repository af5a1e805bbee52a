/- print.Parse. print.Parse, whole. The document's Parse and Text of layer 2. The document's Mix. The document's Known, Print, Size; the program's Size (store). As range_own1, of a body that may also write maps (by substitution in XRangel). store.Paths. store.Put, store.Join. The law's events (layer 10): purely. -/
import Derived.Test.YtomgjogkkoigbaaGreatDoorZstzb
import Derived.Lib.QuoteBits
import Derived.Test.YtomgjogkkoigbaaGreatDoorZsty
import Derived.Test.YtomgjogkkoigbaaGreatDoorZstza
import Derived.Deep.Cut
import Derived.Test.YtomgjogkkoigbaaGreatDoorZstz
import Derived.Test.YtomgjogkkoigbaaGreatDoorZstq
import Derived.Test.YtomgjogkkoigbaaGreatDoorZstb
import Derived.Maps.OwnIn
import Derived.Sort.CutIn
import Derived.Test.YtomgjogkkoigbaaGreatDoorZstd
import Derived.Test.YtomgjogkkoigbaaGreatDoorZstu
set_option linter.unusedSimpArgs false
set_option linter.unusedVariables false
namespace Go.Proofs.YtomgjogkkoigbaaGreatDoor
section
open Go.RowKit

theorem eight_len (u : Nat) : (eight u).length = 8 := by simp [eight]
theorem eight_more (u e : Nat) (he : e < 8) : (eight u).take (8 - e) = (eight u).take (7 - e) ++ [UInt8.ofNat (u / 2 ^ (8 * e) % 256)] := by
 have hl : 7 - e < (eight u).length := by rw [eight_len]; omega
 rw [show 8 - e = (7 - e) + 1 by omega, List.take_succ_eq_append_getElem hl]
 have : (eight u)[7 - e] = UInt8.ofNat (u / 2 ^ (8 * e) % 256) := by
  simp only [eight, List.getElem_map, List.getElem_range, byteOf]
  rw [show 56 - 8 * (7 - e) = 8 * e by omega]
 rw [this]
theorem flat8_len : ∀ us : List Nat, (us.flatMap eight).length = 8 * us.length
 | [] => rfl
 | u :: us => by rw [List.flatMap_cons, List.length_append, eight_len, flat8_len us, List.length_cons]; omega
set_option maxRecDepth 100000 in
set_option maxHeartbeats 2000000 in
theorem pmix_any (w : World) (B : Option Addr) (n d : Nat) (us : List Nat) (h : U64s w B n us) (hn : n ≤ 300) :
  Calls Tryz.prog 74 #[.slice B n d] w fun e w' => e = .returned (.int .u64 (fnvS (mixB us) : Int)) ∧ Chg [] w w' := by
 have HU := Lib.hid h
 have HL := Lib.hid h.len
 clear h
 go_enter Tryz.func74, Tryz.ntmps74
 go_wp2
 go_loopw [3, 4] (fun v i wr => ∃ (k : Nat) (A : Option Addr) (c : Nat), k ≤ n ∧ i = .int .i64 k ∧ v = .slice A (8 * k) c ∧ Fresh w wr A c ((us.take k).flatMap eight)) (fun _ i _ => n - (intOf i).toNat)
 case atStart => exact ⟨0, none, 0, by omega, rfl, rfl, OwnB.none_ w, by simp, Chg.refl _ _⟩
 case round =>
  obtain ⟨k, A, c, hk, rfl, rfl, hown, hA, hch⟩ := hrel
  have hlk : ((us.take k).flatMap eight).length = 8 * k := by rw [flat8_len, List.length_take, HL.out]; omega
  refine (Decidable.em (k < n)).elim (fun h1 => ?more) (fun h1 => ?done)
  case done =>
   obtain rfl : k = n := by omega
   have ht : us.take k = us := List.take_of_length_le (by rw [HL.out]; omega)
   have hr := hown.reads
   rw [hlk, ht] at hr
   have hs := gsum_any wr A (8 * k) c _ hr (by omega)
   have HS := Lib.hid hs
   have HCh := Lib.hid hch
   clear hown hA hch hr ht hs hlk
   go_wp2_with (go_at_call 73; refine HS.out.mono ?_; rintro e w1 ⟨rfl, rfl⟩)
   go_ret
   exact ⟨rfl, HCh.out⟩
  case more =>
   obtain ⟨u, hu⟩ : ∃ u, us.getD k 0 = u := ⟨_, rfl⟩
   have hstep : (us.take (k + 1)).flatMap eight = (us.take k).flatMap eight ++ eight u := by
    have hkl : k < us.length := by rw [HL.out]; exact h1
    have hg : us[k] = u := by rw [← hu]; simp [List.getD_eq_getElem?_getD, hkl]
    rw [List.take_succ_eq_append_getElem hkl, hg]
    simp only [List.flatMap_append, List.flatMap_cons, List.flatMap_nil, List.append_nil]
   have HSt := Lib.hid hstep
   have HUu := Lib.hid hu
   have HLk := Lib.hid hlk
   clear hstep hu hlk
   generalize (us.take k).flatMap eight = base at *
   have F0 : Fresh w wr A c (base ++ (eight u).take (8 - 8)) := by
    rw [show 8 - 8 = 0 by rfl, List.take_zero, List.append_nil]
    exact ⟨hown, hA, hch⟩
   have HF0 := Lib.hid F0
   clear hown hA hch F0
   obtain ⟨wo, hwo⟩ : ∃ wo, wo = wr := ⟨_, rfl⟩
   subst hwo; go_wp2
   go_loopw [3, 5] (fun v j wi => ∃ (r : Nat) (A : Option Addr) (c : Nat), r ≤ 8 ∧ j = .int .i64 ((r : Int) - 1) ∧ v = .slice A (8 * k + (8 - r)) c ∧ Fresh w wi A c (base ++ (eight u).take (8 - r))) (fun _ j _ => (intOf j + 1).toNat)
   case atStart => exact ⟨8, A, c, by omega, rfl, rfl, HF0.out⟩
   case round =>
    obtain ⟨r, A1, c1, hr, rfl, rfl, hown, hA, hch⟩ := hrel
    refine (Decidable.em (r = 0)).elim (fun h2 => ?last) (fun h2 => ?byte)
    case last =>
     subst h2
     have HF := Lib.hid (show Fresh w wr A1 c1 (base ++ (eight u).take (8 - 0)) from ⟨hown, hA, hch⟩)
     clear hown hA hch; go_wp2
     refine ⟨⟨k + 1, A1, c1, by omega, rfl, by rw [show 8 * k + (8 - 0) = 8 * (k + 1) by omega], ?_⟩, by simp [intOf]; omega⟩
     have hf := HF.out
     rw [show 8 - 0 = 8 by rfl, List.take_of_length_le (by rw [eight_len]; exact Nat.le_refl _)] at hf
     rw [HSt.out]
     exact hf
    case byte =>
     obtain ⟨e, rfl⟩ : ∃ e, r = e + 1 := ⟨r - 1, by omega⟩
     rw [show ((e + 1 : Nat) : Int) - 1 = (e : Int) by omega, show 8 - (e + 1) = 7 - e by omega] at *
     have hm := eight_more u e (by omega)
     obtain ⟨g, o, rfl, hcs⟩ := (HU.out.chg hch (by simp)).line (by omega)
     have hck := hcs k h1
     rw [HUu.out] at hck
     have hlen : (base ++ (eight u).take (7 - e)).length = 8 * k + (7 - e) := by rw [List.length_append, HLk.out, List.length_take, eight_len]; omega
     have hby : ((u / 2 ^ (8 * e) % 256 : Nat) : Int) = (u : Int) / 2 ^ (8 * e) % 256 := by simp
     have HM := Lib.hid hm
     have HBy := Lib.hid hby
     have F2 := Lib.hid hA
     clear hm hA hcs hby
     generalize (eight u).take (7 - e) = p at *
     go_wp2_with (at_builtin; refine wpList_app rfl _ _ rfl rfl (hown.chg ((Chg.refl [] wr).alloc _) (by simp)) hlen rfl (Bs.one wr (UInt8.ofNat (u / 2 ^ (8 * e) % 256)) _ (by rw [UInt8.toNat_ofNat', ← HBy.out]; omega)) (by omega) ?_; intro A' c' w1 own1 hg1 hA1)
     refine ⟨⟨e, A', c', by omega, rfl, by rw [show 8 * k + (8 - e) = 8 * k + (7 - e) + 1 by omega], ?_⟩, by simp [intOf]⟩
     rw [HM.out, ← List.append_assoc]
     exact app_fresh own1 F2.out hch hg1 hA1
end
section
open Go.RowKit Go.Lib


set_option maxRecDepth 100000 in
set_option maxHeartbeats 8000000 in
theorem ktknown_any (w : World) (A : Option Addr) (c : Nat) (xs : List EvT) (es : List EvP) (h : RdK evTy w A xs.length xs) (hx : EvsR w xs es) (hn : xs.length ≤ 1000) (hs : ∀ e ∈ es, EvSm e ∧ e.q.length ≤ 100000) :
  Calls Tryz.prog 31 #[.slice A xs.length c] w fun r w' => ∃ (A' : Option Addr) (c' : Nat), r = .returned (.tuple #[.slice A' (knownE es).2.length c', .int .i64 (knownE es).1]) ∧ OwnK spanTy w' A' c' (knownE es).2 ∧ Chg [] w w' := by
 obtain ⟨R, hR⟩ : ∃ R, knownE es = R := ⟨_, rfl⟩
 rw [hR]
 have HR := Lib.hid hR
 have CK := Lib.hid (ktcheck_any w A c xs es h hx hn hs)
 have HA := Lib.hid h
 have HX := Lib.hid hx
 have HN := Lib.hid hn
 clear h hx hn hs hR
 go_enter Tryz.func31, Tryz.ntmps31
 go_wp2_with fail
 refine CK.out.mono ?_
 rintro r w1 ⟨rfl, hc⟩
 have C1 := Lib.hid hc
 clear hc CK
 rcases stE_two es with e1 | e1
 rotate_left
 ·
  have ER : R = (2, []) := by
   rw [← HR.out]
   unfold knownE
   rw [if_neg (fun q => by rw [stE_zero.2 q] at e1; cases e1)]
  subst ER
  rw [e1]
  clear e1 HR; go_wp2; go_ret2
  exact ⟨none, 0, rfl, OwnK.none_ _, C1.out⟩
 have ER : Hid (R = ofE (dotsE es)) := Lib.hid (by rw [← HR.out]; unfold knownE; rw [if_pos (stE_zero.1 e1)])
 rw [e1]
 clear e1 HR; go_wp2
 go_loopw [4, 5] (fun v5 v18 wr => ∃ (k n : Nat) (A1 : Option Addr) (d1 : Nat), k ≤ xs.length ∧ v18 = .int .i64 (k : Int) ∧ v5 = .slice A1 n d1 ∧ Hid ((dotsE (es.take k)).length = n) ∧ Hid (OwnK dotTy wr A1 d1 (dotsE (es.take k))) ∧ Hid (∀ a, A1 = some a → w.heap.size ≤ a.block) ∧ Hid (Chg [] w wr)) (fun _ v18 _ => xs.length - (RowKit.intOf v18).toNat)
 case atStart => exact ⟨0, 0, none, 0, Nat.zero_le _, rfl, rfl, Lib.hid rfl, OwnK.none_ _, Lib.hid (by simp), C1⟩
 case round =>
  obtain ⟨k, n, A1, d1, hk, rfl, rfl, HL, OD, NA, PC⟩ := hrel
  have j0 : (0 : Int) ≤ (k : Int) := by omega
  by_cases hlt : k < xs.length
  ·
   have j1 : (k : Int) < (xs.length : Int) := by omega
   have j3 : IntKind.i64.wrap ((k : Int) + 1) = (k : Int) + 1 := IntWalk.i64_in _ (by have := HN.out; omega)
   obtain ⟨g3, o3, eA, _⟩ := HA.out.line (by omega)
   subst eA
   obtain ⟨x, e, ex, ee, rx⟩ := HX.out.at_ hlt
   obtain ⟨z0, z1, z2, z3, z4, z5, z6⟩ := evCells (HA.out.chg PC.out (by simp)) ex
   have DN : Hid (dotsE (es.take (k + 1)) = dotsE (es.take k) ++ [(x.n, x.s)]) := Lib.hid (by unfold dotsE; rw [List.take_add_one, ee, rx.n, rx.s]; simp)
   clear ex ee rx
   obtain ⟨w6, hw6, c6, b6⟩ := news1 wr (.cells #[.int .i64 x.n, .int .i64 x.s] 24)
   have W6 := Lib.hid hw6
   have RX : Hid (RdK dotTy w6 (some ⟨wr.heap.size, 0, none⟩) 1 [(x.n, x.s)]) := Lib.hid ⟨rfl, fun j v hj => ⟨_, rfl, by rw [add_zero_lit, cell_of b6 j]; simpa [RowTy.flat, dotTy] using hj⟩⟩
   have OD6 := Lib.hid (OD.out.chg (c6) (by simp))
   have C6 := Lib.hid (PC.out.trans (c6))
   have LN : Hid ((n + 1) * 400 ≤ 140737488355327) := Lib.hid (by have := HL.out; unfold dotsE at this; rw [List.length_map, List.length_take] at this; have := HN.out; omega)
   clear hw6 c6 b6 OD
   go_wp2_with (at_builtin; rw [← W6.out]; refine wpList_appK (R := dotTy) rfl (.tmp 15) (.tmp 21) rfl rfl OD6.out HL.out rfl RX.out LN.out ?_; intro A3 c3 w3 o3 g3 e3)
   have HL1 : Hid ((dotsE (es.take (k + 1))).length = n + 1) := Lib.hid (by rw [DN.out, List.length_append, HL.out]; rfl)
   have O3 : Hid (OwnK dotTy w3 A3 c3 (dotsE (es.take (k + 1)))) := Lib.hid (by rw [DN.out]; exact o3)
   have C3 := Lib.hid (C6.out.grown g3 (fun i hi => by
    rcases A1 with _ | a
    ·
     simp at hi
    ·
     simp at hi; subst hi; exact .inr (NA.out _ rfl)))
   have NA3 : Hid (∀ a, A3 = some a → w.heap.size ≤ a.block) := Lib.hid (fun a ha => by
    rcases e3 with e | e
    ·
     exact NA.out a (by rw [← e]; exact ha)
    ·
     rw [e] at ha; cases ha; exact C6.out.size)
   clear o3 g3 e3 z0 z1 z2 z3 z4 z5 z6 W6 RX OD6; go_wp2; go_round
   case rel => exact ⟨k + 1, n + 1, A3, c3, by omega, by go_num, by first | rfl | go_num, HL1, O3, NA3, C3⟩
   case measure => simp [RowKit.intOf]; omega
  ·
   obtain rfl : k = xs.length := by omega
   have j1 : ¬ (xs.length : Int) < (xs.length : Int) := by omega
   have e1 : es.take xs.length = es := by rw [HX.out.1, List.take_length]
   rw [e1] at HL OD
   clear e1
   have LD : Hid ((dotsE es).length ≤ 100000) := Lib.hid (by unfold dotsE; rw [List.length_map, ← HX.out.1]; have := HN.out; omega)
   have OF := Lib.hid (qof_any wr A1 d1 (dotsE es) OD.out.reads LD.out)
   rw [HL.out] at OF
   go_wp2_with fail
   refine OF.out.mono ?_
   rintro r w5 ⟨A5, c5, rfl, ho, hA, hc⟩
   have ER2 := ER.out
   subst ER2
   have P5 := Lib.hid (And.intro ho (PC.out.trans hc))
   clear ho hA hc OF; go_wp2; go_ret2
   exact ⟨A5, c5, rfl, P5.out.1, P5.out.2⟩

set_option maxRecDepth 100000 in
set_option maxHeartbeats 8000000 in
theorem ktprint_any (w : World) (A : Option Addr) (c : Nat) (xs : List EvT) (es : List EvP) (h : RdK evTy w A xs.length xs) (hx : EvsR w xs es) (hn : xs.length ≤ 300) (hs : ∀ e ∈ es, EvSm e ∧ e.q.length ≤ 100000) (hi : ∀ e ∈ es, -9223372036854775808 ≤ e.n ∧ e.n ≤ 9223372036854775807 ∧ -9223372036854775808 ≤ e.s ∧ e.s ≤ 9223372036854775807) :
  Calls Tryz.prog 33 #[.slice A xs.length c] w fun r w' => r = .returned (.tuple #[.int .u64 ((printE es).1 : Int), .int .i64 (printE es).2]) ∧ Chg [] w w' := by
 obtain ⟨R, hR⟩ : ∃ R, printE es = R := ⟨_, rfl⟩
 rw [hR]
 have HR := Lib.hid hR
 have CK := Lib.hid (ktcheck_any w A c xs es h hx (by omega) hs)
 have HA := Lib.hid h
 have HX := Lib.hid hx
 have HN := Lib.hid hn
 have HS := Lib.hid hs
 have HI := Lib.hid hi
 clear h hx hn hs hi hR
 go_enter Tryz.func33, Tryz.ntmps33
 go_wp2_with fail
 refine CK.out.mono ?_
 rintro r w1 ⟨rfl, hc⟩
 have C1 := Lib.hid hc
 clear hc CK
 rcases stE_two es with e1 | e1
 rotate_left
 ·
  have ER : R = (0, 2) := by
   rw [← HR.out]
   unfold printE
   rw [if_neg (fun q => by rw [stE_zero.2 q] at e1; cases e1)]
  subst ER
  rw [e1]
  clear e1 HR; go_wp2; go_ret2
  exact ⟨rfl, C1.out⟩
 have ER : Hid (R = (fnvS (mixB (sumsE es)), 0)) := Lib.hid (by rw [← HR.out]; unfold printE; rw [if_pos (stE_zero.1 e1)])
 rw [e1]
 clear e1 HR; go_wp2
 go_loopw [4, 5] (fun v5 v20 wr => ∃ (k n : Nat) (A1 : Option Addr) (d1 : Nat), k ≤ xs.length ∧ v20 = .int .i64 (k : Int) ∧ v5 = .slice A1 n d1 ∧ Hid ((sumsE (es.take k)).length = n) ∧ Hid (OwnK u64Ty wr A1 d1 (sumsE (es.take k))) ∧ Hid (∀ a, A1 = some a → w.heap.size ≤ a.block) ∧ Hid (Chg [] w wr)) (fun _ v20 _ => xs.length - (RowKit.intOf v20).toNat)
 case atStart => exact ⟨0, 0, none, 0, Nat.zero_le _, rfl, rfl, Lib.hid rfl, OwnK.none_ _, Lib.hid (by simp), C1⟩
 case round =>
  obtain ⟨k, n, A1, d1, hk, rfl, rfl, HL, OD, NA, PC⟩ := hrel
  have j0 : (0 : Int) ≤ (k : Int) := by omega
  by_cases hlt : k < xs.length
  ·
   have j1 : (k : Int) < (xs.length : Int) := by omega
   have j3 : IntKind.i64.wrap ((k : Int) + 1) = (k : Int) + 1 := IntWalk.i64_in _ (by have := HN.out; omega)
   obtain ⟨g3, o3, eA, _⟩ := HA.out.line (by omega)
   subst eA
   obtain ⟨x, e, ex, ee, rx⟩ := HX.out.at_ hlt
   obtain ⟨z0, z1, z2, z3, z4, z5, z6⟩ := evCells (HA.out.chg PC.out (by simp)) ex
   have SN : Hid (sumsE (es.take (k + 1)) = sumsE (es.take k) ++ [fnvS (bytesEv e).1]) := Lib.hid (by unfold sumsE; rw [List.take_add_one, ee]; simp)
   have SE : Hid (EvSm e) := Lib.hid ((HS.out e (List.mem_of_getElem? ee)).1)
   have BY := Lib.hid (vebytes_any wr x e (rx.chg PC.out) SE.out (HI.out e (List.mem_of_getElem? ee)))
   have OD5 := OD
   have C5 := PC; clear ex ee rx OD; go_wp2_with fail
   refine BY.out.mono ?_
   rintro r w6 ⟨A6, c6, rfl, hf⟩
   clear z0 z1 z2 z3 z4 z5 z6 BY
   obtain ⟨bn, hbn⟩ : ∃ n, (bytesEv e).1.length = n := ⟨_, rfl⟩
   obtain ⟨u, hu⟩ : ∃ u, fnvS (bytesEv e).1 = u := ⟨_, rfl⟩
   have SU := gsum_any w6 A6 _ c6 (bytesEv e).1 hf.1.reads (by have := bytesEv_le e; omega)
   rw [hbn, hu] at SU
   rw [hu] at SN
   rw [hbn]
   have SU2 := Lib.hid SU
   have OD6 := Lib.hid (OD5.out.chg hf.2.2 (by simp))
   have C6 := Lib.hid (C5.out.trans hf.2.2)
   obtain ⟨w7, hw7, c7, b7⟩ := news1 w6 (.cells #[.int .u64 (u : Int)] 52)
   have W7 := Lib.hid hw7
   have RX : Hid (RdK u64Ty w7 (some ⟨w6.heap.size, 0, none⟩) 1 [u]) := Lib.hid ⟨rfl, fun j v hj => ⟨_, rfl, by rw [add_zero_lit, cell_of b7 j]; simpa [RowTy.flat, u64Ty] using hj⟩⟩
   have OD7 := Lib.hid (OD6.out.chg c7 (by simp))
   have C7 := Lib.hid (C6.out.trans c7)
   have LN : Hid ((n + 1) * 400 ≤ 140737488355327) := Lib.hid (by have := HL.out; unfold sumsE at this; rw [List.length_map, List.length_take] at this; have := HN.out; omega)
   clear hf SU hw7 c7 b7 OD5 OD6 C5 C6 hbn hu; go_wp2_with fail
   refine SU2.out.mono ?_
   rintro r w66 ⟨rfl, hww⟩
   subst hww; clear SU2
   go_wp2_with (at_builtin; rw [← W7.out]; refine wpList_appK (R := u64Ty) rfl (.tmp 25) (.tmp 28) rfl rfl OD7.out HL.out rfl RX.out LN.out ?_; intro A3 c3 w3 o3 g3 e3)
   have HL1 : Hid ((sumsE (es.take (k + 1))).length = n + 1) := Lib.hid (by rw [SN.out, List.length_append, HL.out]; rfl)
   have O3 : Hid (OwnK u64Ty w3 A3 c3 (sumsE (es.take (k + 1)))) := Lib.hid (by rw [SN.out]; exact o3)
   have C3 := Lib.hid (C7.out.grown g3 (fun i hi => by
    rcases A1 with _ | a
    ·
     simp at hi
    ·
     simp at hi; subst hi; exact .inr (NA.out _ rfl)))
   have NA3 : Hid (∀ a, A3 = some a → w.heap.size ≤ a.block) := Lib.hid (fun a ha => by
    rcases e3 with e | e
    ·
     exact NA.out a (by rw [← e]; exact ha)
    ·
     rw [e] at ha; cases ha; exact C7.out.size)
   clear o3 g3 e3 W7 RX OD7; go_wp2; go_round
   case rel => exact ⟨k + 1, n + 1, A3, c3, by omega, by go_num, by first | rfl | go_num, HL1, O3, NA3, C3⟩
   case measure => simp [RowKit.intOf]; omega
  ·
   obtain rfl : k = xs.length := by omega
   have j1 : ¬ (xs.length : Int) < (xs.length : Int) := by omega
   have e1 : es.take xs.length = es := by rw [HX.out.1, List.take_length]
   rw [e1] at HL OD
   clear e1
   have LD : Hid ((sumsE es).length ≤ 300) := Lib.hid (by unfold sumsE; rw [List.length_map, ← HX.out.1]; exact HN.out)
   have OF := Lib.hid (pmix_any wr A1 _ d1 (sumsE es) (u64s_row OD.out.reads (sumsE_lt es)) (by have := LD.out; omega))
   rw [HL.out] at OF
   go_wp2_with fail
   refine OF.out.mono ?_
   rintro r w5 ⟨rfl, hb⟩
   have ER2 := ER.out
   subst ER2
   have P5 := Lib.hid (PC.out.trans hb)
   clear hb OF; go_wp2; go_ret2
   exact ⟨rfl, P5.out⟩

def sizeE (es : List EvP) : Nat := (es.map (fun e => (bytesEv e).1.length)).sum
theorem sizeE_le : ∀ (es : List EvP), sizeE es ≤ es.length * 1048576
 | [] => by simp [sizeE]
 | e :: l => by
  have a := sizeE_le l
  have b := bytesEv_le e
  unfold sizeE at *
  rw [List.map_cons, List.sum_cons, List.length_cons]
  omega
set_option maxRecDepth 100000 in
set_option maxHeartbeats 8000000 in
theorem ktsize_any (w : World) (A : Option Addr) (c : Nat) (xs : List EvT) (es : List EvP) (h : RdK evTy w A xs.length xs) (hx : EvsR w xs es) (hn : xs.length ≤ 1000) (hs : ∀ e ∈ es, EvSm e) (hi : ∀ e ∈ es, -9223372036854775808 ≤ e.n ∧ e.n ≤ 9223372036854775807 ∧ -9223372036854775808 ≤ e.s ∧ e.s ≤ 9223372036854775807) :
  Calls Tryz.prog 36 #[.slice A xs.length c] w fun r w' => r = .returned (.int .i64 ((sizeE es : Nat) : Int)) ∧ Chg [] w w' := by
 have HA := Lib.hid h
 have HX := Lib.hid hx
 have HN := Lib.hid hn
 have HS := Lib.hid hs
 have HI := Lib.hid hi
 clear hi; clear h hx hn hs
 go_enter Tryz.func36, Tryz.ntmps36
 go_wp2
 go_loopw [3, 4] (fun v3 v4 wr => ∃ (k m : Nat), k ≤ xs.length ∧ v4 = .int .i64 (k : Int) ∧ v3 = .int .i64 (m : Int) ∧ Hid (sizeE (es.take k) = m) ∧ Hid (Chg [] w wr)) (fun _ v4 _ => xs.length - (RowKit.intOf v4).toNat)
 case atStart => exact ⟨0, 0, Nat.zero_le _, rfl, rfl, Lib.hid rfl, Chg.refl _ _⟩
 case round =>
  obtain ⟨k, m, hk, rfl, rfl, SZ, PC⟩ := hrel
  have j0 : (0 : Int) ≤ (k : Int) := by omega
  by_cases hlt : k < xs.length
  ·
   have j1 : (k : Int) < (xs.length : Int) := by omega
   have j3 : IntKind.i64.wrap ((k : Int) + 1) = (k : Int) + 1 := IntWalk.i64_in _ (by have := HN.out; omega)
   obtain ⟨g3, o3, eA, _⟩ := HA.out.line (by omega)
   subst eA
   obtain ⟨x, e, ex, ee, rx⟩ := HX.out.at_ hlt
   obtain ⟨z0, z1, z2, z3, z4, z5, z6⟩ := evCells (HA.out.chg PC.out (by simp)) ex
   have SN : Hid (sizeE (es.take (k + 1)) = m + (bytesEv e).1.length) := Lib.hid (by rw [← SZ.out]; unfold sizeE; rw [List.take_add_one, ee, List.map_append, List.sum_append]; simp)
   have ML : Hid (m ≤ k * 1048576) := Lib.hid (by rw [← SZ.out]; exact Nat.le_trans (sizeE_le _) (Nat.mul_le_mul_right _ (by rw [List.length_take]; omega)))
   have j4 : IntKind.i64.wrap ((m : Int) + ((bytesEv e).1.length : Int)) = ((m + (bytesEv e).1.length : Nat) : Int) := by
    have a := ML.out
    have b := bytesEv_le e
    have c := HN.out
    rw [IntWalk.i64_in _ (by omega)]
    omega
   have EM := Lib.hid (List.mem_of_getElem? ee)
   have SC := Lib.hid (vesize_any wr x e (rx.chg PC.out) (HS.out e EM.out) (HI.out e EM.out))
   clear ex ee rx; go_wp2_with fail; clear z0 z1 z2 z3 z4 z5 z6
   refine SC.out.mono ?_
   rintro r w6 ⟨rfl, hc⟩
   have P5 := Lib.hid (PC.out.trans hc)
   clear hc SC; go_wp2; go_round
   case rel => exact ⟨k + 1, m + (bytesEv e).1.length, by omega, by go_num, by first | rfl | go_num, SN, P5⟩
   case measure => simp [RowKit.intOf]; omega
  ·
   obtain rfl : k = xs.length := by omega
   have j1 : ¬ (xs.length : Int) < (xs.length : Int) := by omega
   have EF : es.take xs.length = es := by rw [HX.out.1, List.take_length]
   rw [EF] at SZ
   have Q := SZ.out
   subst Q; go_wp2; go_ret
   exact ⟨rfl, PC.out⟩
set_option maxRecDepth 100000 in
set_option maxHeartbeats 8000000 in
theorem stsize_any (w : World) (A : Option Addr) (c : Nat) (xs : List EvT) (es : List EvP) (h : RdK evTy w A xs.length xs) (hx : EvsR w xs es) (hn : xs.length ≤ 1000) (hs : ∀ e ∈ es, EvSm e)  :
  Calls Tryz.prog 35 #[.slice A xs.length c] w fun r w' => r = .returned (.int .i64 ((sizeE es : Nat) : Int)) ∧ Chg [] w w' := by
 have HA := Lib.hid h
 have HX := Lib.hid hx
 have HN := Lib.hid hn
 have HS := Lib.hid hs
 skip; clear h hx hn hs
 go_enter Tryz.func35, Tryz.ntmps35
 go_wp2
 go_loopw [3, 8] (fun v3 v4 wr => ∃ (k m : Nat), k ≤ xs.length ∧ v4 = .int .i64 (k : Int) ∧ v3 = .int .i64 (m : Int) ∧ Hid (sizeE (es.take k) = m) ∧ Hid (Chg [] w wr)) (fun _ v4 _ => xs.length - (RowKit.intOf v4).toNat)
 case atStart => exact ⟨0, 0, Nat.zero_le _, rfl, rfl, Lib.hid rfl, Chg.refl _ _⟩
 case round =>
  obtain ⟨k, m, hk, rfl, rfl, SZ, PC⟩ := hrel
  have j0 : (0 : Int) ≤ (k : Int) := by omega
  by_cases hlt : k < xs.length
  ·
   have j1 : (k : Int) < (xs.length : Int) := by omega
   have j3 : IntKind.i64.wrap ((k : Int) + 1) = (k : Int) + 1 := IntWalk.i64_in _ (by have := HN.out; omega)
   obtain ⟨g3, o3, eA, _⟩ := HA.out.line (by omega)
   subst eA
   obtain ⟨x, e, ex, ee, rx⟩ := HX.out.at_ hlt
   obtain ⟨z0, z1, z2, z3, z4, z5, z6⟩ := evCells (HA.out.chg PC.out (by simp)) ex
   have SN : Hid (sizeE (es.take (k + 1)) = m + (bytesEv e).1.length) := Lib.hid (by rw [← SZ.out]; unfold sizeE; rw [List.take_add_one, ee, List.map_append, List.sum_append]; simp)
   have ML : Hid (m ≤ k * 1048576) := Lib.hid (by rw [← SZ.out]; exact Nat.le_trans (sizeE_le _) (Nat.mul_le_mul_right _ (by rw [List.length_take]; omega)))
   have j4 : IntKind.i64.wrap ((m : Int) + ((bytesEv e).1.length : Int)) = ((m + (bytesEv e).1.length : Nat) : Int) := by
    have a := ML.out
    have b := bytesEv_le e
    have c := HN.out
    rw [IntWalk.i64_in _ (by omega)]
    omega
   have EM := Lib.hid (List.mem_of_getElem? ee)
   obtain ⟨w5, hw5, c5, b5⟩ := news1 wr (.cells #[.int .i64 x.n, .int .i64 x.s, .string x.p, .int .i64 x.k, .int .i64 x.m, .slice x.A x.l x.c, .slice x.B x.bl x.bc] 30)
   have W5 := Lib.hid hw5
   have y0 := cell_of b5 0
   have y1 := cell_of b5 1
   have y2 := cell_of b5 2
   have y3 := cell_of b5 3
   have y4 := cell_of b5 4
   have y5 := cell_of b5 5
   have y6 := cell_of b5 6
   simp only [List.getElem?_toArray, List.getElem?_cons_succ, List.getElem?_cons_zero] at y0 y1 y2 y3 y4 y5 y6
   have SC := Lib.hid (evsize_any w5 x e (rx.chg (PC.out.trans c5)) (HS.out e EM.out))
   have C5 := Lib.hid (PC.out.trans c5)
   clear ex ee rx hw5 c5 b5
   go_upto_region 5 with fail
   rw [← W5.out]
   generalize wr.heap.size = g5 at *
   clear W5 z0 z1 z2 z3 z4 z5 z6; go_wp2_with fail; clear y0 y1 y2 y3 y4 y5 y6
   refine SC.out.mono ?_
   rintro r w6 ⟨rfl, hc⟩
   have P5 := Lib.hid (C5.out.trans hc)
   clear hc SC; go_wp2; go_round
   case rel => exact ⟨k + 1, m + (bytesEv e).1.length, by omega, by go_num, by first | rfl | go_num, SN, P5⟩
   case measure => simp [RowKit.intOf]; omega
  ·
   obtain rfl : k = xs.length := by omega
   have j1 : ¬ (xs.length : Int) < (xs.length : Int) := by omega
   have EF : es.take xs.length = es := by rw [HX.out.1, List.take_length]
   rw [EF] at SZ
   have Q := SZ.out
   subst Q; go_wp2; go_ret
   exact ⟨rfl, PC.out⟩
end
section
open Go.RowKit

theorem range_ownm {α : Type} {P : Program} {n : Nat} {g : Operand} {ps : Array Tmp} {assign body : Code} {Q : Exit → Act → World → Prop} {a : Act} {w : World} {gf : Nat} {lb : Array Value}
  (hg : a.eval g = .func (.func gf) #[] lb) (eg : ∀ args w, (callFunc gf args).run P w = .ok (.enter gf args) w) {encs : α → Array Value} {S Sp : List α → Prop} {Ex : List α → α → World → Prop} {Bd : List α → Prop} {n₁ : Nat} (hn₁ : n₁ ≤ w.heap.size) {Si T : List Nat} (hSi : ∀ x ∈ Si, x < w.heap.size)
  (hseq : ∀ (l : Nat) (J Jx : List α → World → Prop) (W : World), Below w.heap.size w W → (∀ pre A B, J pre A → Chg Si A B → J pre B) → (∀ pre A B, Jx pre A → Chg Si A B → Jx pre B) → (∀ pre A, J pre A → Bd pre) →
   (∀ pre x W1, J pre W1 → Ex pre x W1 → YieldAt Fence.wide (n - 1 - 1) P l (encs x) W1 fun e W' => (e = .returned (.bool true) ∧ J (pre ++ [x]) W' ∧ Kpt n₁ T W1 W') ∨ (e = .returned (.bool false) ∧ Jx (pre ++ [x]) W')) →
   J [] W → CallsIn Fence.wide (n - 1) P gf (#[.func (.yield l) #[] #[]] ++ lb) W fun e W' => (∃ v, e = .returned v) ∧ ((∃ xs, S xs ∧ J xs W') ∨ ∃ xs, Sp xs ∧ Jx xs W'))
  (hps : ∀ x, (encs x).size = ps.size) (I : List α → World → Prop) (Ix : Code → List α → World → Prop) (hI : ∀ pre A B, I pre A → Chg Si A B → I pre B) (hIx : ∀ c pre A B, Ix c pre A → Chg Si A B → Ix c pre B)
  (hIl : ∀ pre W l o o', W.heap[l]? = some o → o.isCells = false → l = w.heap.size + 1 → I pre W → I pre (W.putObj l o')) (hIxl : ∀ c pre W l o o', W.heap[l]? = some o → o.isCells = false → l = w.heap.size + 1 → Ix c pre W → Ix c pre (W.putObj l o')) (hBd : ∀ pre A, I pre A → Bd pre) (h0 : I [] w)
  (hEx : ∀ pre x W l o o', W.heap[l]? = some o → o.isCells = false → Ex pre x W → Ex pre x (W.putObj l o')) (a₁ : α → Act)
  (hassign : ∀ (l : Nat) (x : α) (W : World) (K : Act → World → Prop), K (a₁ x) W →
   assign.wpIn (Fence.wide.inRound l) (n - 1 - 1) P (Exit.then K (fun _ _ _ => False)) { tmps := (ps.zip (encs x)).foldl (fun t (p, v) => t.setIfInBounds p v) a.tmps, defers := [] } W)
  (hbody : ∀ (l : Nat) (pre : List α) (x : α) (W : World), w.heap.size + 2 ≤ W.heap.size → I pre W → Ex pre x W → body.wpIn (Fence.wide.inRound l) (n - 1 - 1) P (brkPostM w.heap.size I Ix n₁ T (pre ++ [x]) W) (a₁ x) W)
  (hdone : ∀ (D : Nat) (xs : List α) (W : World), D = w.heap.size → S xs → I xs W → W.heap[D]? = some (.deferred (some [])) → Q .normal { a with defers := { target := .collected D, args := #[] } :: a.defers } W)
  (hstop : ∀ (D : Nat) (c : Code) (xs : List α) (W : World), D = w.heap.size → Sp xs → Ix c xs W → W.heap[D]? = some (.deferred (some [])) → c.wpIn Fence.wide n P Q { a with defers := { target := .collected D, args := #[] } :: a.defers } W) :
  (Code.rangeFunc g ps assign body).wpIn Fence.wide n P Q a w := by
 refine wpIn_rangeFunc ?_
 intro fn hfn
 obtain ⟨rc, hrc⟩ : ∃ rc : LoopState → Option Code → Loop, rc = fun st pe => { state := st, pending := pe, fn, tmps := a.tmps, params := ps, assign, body, defers := w.heap.size } := ⟨_, rfl⟩
 obtain ⟨V, hV, hcV, hD0, hL0⟩ := news2 w (.deferred (some [])) (.loop (rc .ready none))
 have hsV : V.heap.size = w.heap.size + 2 := by rw [hV]; simp
 have bV : Below w.heap.size w V := by rw [hV]; exact ((Below.refl _ w).alloc (Nat.le_refl _) _).alloc (by simp) _
 refine ⟨w.heap.size + 1, [{ target := .collected w.heap.size, args := #[] }], V, { target := .fn (.func gf) lb, args := #[.func (.yield (w.heap.size + 1)) #[] #[]] }, V, gf,
  #[.func (.yield (w.heap.size + 1)) #[] #[]] ++ lb, V, ?_, ?_, fun _ _ => trivial, ?_, fun h => by simp [Fence.wide] at h, ?_⟩
 ·
  rw [hV, hrc]; exact run_enterLoop_outer _ _ _ _ _
 ·
  simp only [resolve, hg]
  simp [go_sem]
 ·
  simp [invoke, go_sem, eg]
 ·
  -- the record and the row of deferred calls, turned or not, lie at or behind w's end
  have turn : ∀ (W : World) (o : Obj) (o' : Obj), W.heap[w.heap.size + 1]? = some o → o.isCells = false → o.isWalk = false → ∀ m, m ≤ w.heap.size → Below m W (W.putObj (w.heap.size + 1) o') :=
   fun W o o' h hc hw m hm => belowK_b (w := w) hm W _ o o' (by omega) h hc hw
  have far : ∀ k, w.heap.size ≤ k → k ∉ Si := fun k hk h => by have := hSi k h; omega
  refine (hseq (w.heap.size + 1) (fun pre W => I pre W ∧ W.heap[w.heap.size + 1]? = some (.loop (rc .ready none)) ∧ W.heap[w.heap.size]? = some (.deferred (some [])))
   (fun pre W => ∃ c, Ix c pre W ∧ W.heap[w.heap.size + 1]? = some (.loop (rc .done (some c))) ∧ W.heap[w.heap.size]? = some (.deferred (some []))) V bV ?_ ?_ (fun pre A h => hBd _ _ h.1) ?_
   ⟨hI _ _ _ h0 (Chg.ofBelow bV (Nat.le_refl _) _), hL0, hD0⟩).mono ?_
  ·
   rintro pre A B ⟨hi, hl, hk⟩ hb
   exact ⟨hI _ _ _ hi hb, hb.at_ hl (far _ (by omega)), hb.at_ hk (far _ (Nat.le_refl _))⟩
  ·
   rintro pre A B ⟨c, hi, hl, hk⟩ hb
   exact ⟨c, hIx _ _ _ _ hi hb, hb.at_ hl (far _ (by omega)), hb.at_ hk (far _ (Nat.le_refl _))⟩
  ·
   rintro pre x W ⟨hi, hl, hk⟩ hx
   have hlt := lt_of_heap hl
   have hy := run_yield (P := P) (args := encs x) hl (by rw [hrc]; exact hps x)
   rw [hrc] at hy
   refine ⟨fn, _, assign, body, hy, roundIn_of_wpIn hfn (hassign _ x W _ ⟨_, run_beginRound hl (by rw [hrc]), ?_⟩)⟩
   have hl2 : (W.putObj (w.heap.size + 1) (.loop { rc .ready none with state := .busy })).heap[w.heap.size + 1]? = some (.loop { rc .ready none with state := .busy }) := World.putObj_heap_same hlt
   have hk2 : (W.putObj (w.heap.size + 1) (.loop { rc .ready none with state := .busy })).heap[w.heap.size]? = some (.deferred (some [])) := (World.putObj_heap_other (by omega)).trans hk
   have b2 := turn W _ (.loop { rc .ready none with state := .busy }) hl rfl rfl
   refine wpIn_mono (hbody _ pre x _ (by simp [World.putObj]; omega) (hIl _ _ _ _ _ hl rfl (by omega) hi) (hEx pre x W _ _ _ hl rfl hx)) ?_
   have fin : ∀ (c : Code) (W3 : World), KeepsTwo w.heap.size (W.putObj (w.heap.size + 1) (.loop { rc .ready none with state := .busy })) W3 → Ix c (pre ++ [x]) W3 →
     ∃ v w', (Instr.endRound (w.heap.size + 1) (some c)).run P W3 = .ok v w' ∧ ((Ending.returned v = .returned (.bool true) ∧ (I (pre ++ [x]) w' ∧ w'.heap[w.heap.size + 1]? = some (.loop (rc .ready none)) ∧ w'.heap[w.heap.size]? = some (.deferred (some []))) ∧ Kpt n₁ T W w') ∨
      (Ending.returned v = .returned (.bool false) ∧ ∃ c, Ix c (pre ++ [x]) w' ∧ w'.heap[w.heap.size + 1]? = some (.loop (rc .done (some c))) ∧ w'.heap[w.heap.size]? = some (.deferred (some [])))) := by
    intro c W3 hk3 hi3
    have hl3 := hk3.2.trans hl2
    have hd3 := hk3.1.trans hk2
    have hr := run_endRound (P := P) (some c) hl3
    have b4 := turn W3 _ (.loop (rc .done (some c))) hl3 rfl rfl
    refine ⟨_, _, hr, .inr ⟨rfl, c, ?_, ?_, ?_⟩⟩
    ·
     have := hIxl _ _ _ _ _ (.loop (rc .done (some c))) hl3 rfl (by omega) hi3
     rw [hrc] at this ⊢
     exact this
    ·
     rw [hrc]; exact World.putObj_heap_same (lt_of_heap hl3)
    ·
     exact (World.putObj_heap_other (by omega)).trans hd3
   rintro e a3 W3 hp
   cases e with
   | normal =>
    obtain ⟨hk3, hb3, hi3⟩ := hp
    have hl3 := hk3.2.trans hl2
    have hd3 := hk3.1.trans hk2
    have hr := run_endRound (P := P) none hl3
    have b4 := turn W3 _ (.loop (rc .ready none)) hl3 rfl rfl
    refine ⟨_, _, hr, .inl ⟨rfl, ⟨?_, ?_, ?_⟩, ?_⟩⟩
    ·
     have := hIl _ _ _ _ (.loop (rc .ready none)) hl3 rfl (by omega) hi3
     rw [hrc] at this ⊢
     exact this
    ·
     rw [hrc]; exact World.putObj_heap_same (lt_of_heap hl3)
    ·
     exact (World.putObj_heap_other (by omega)).trans hd3
    ·
     have := ((Kpt.of_below (T := T) (b2 _ hn₁) (Nat.le_refl _)).trans hb3).trans (Kpt.of_below (b4 _ hn₁) (Nat.le_refl _))
     rw [hrc] at this ⊢
     exact this
   | ret => exact fin .ret W3 hp.1 hp.2
   | exit id => exact fin (.exit id) W3 hp.1 hp.2
   | goto t => exact hp.elim
   | panic ch => exact hp.elim
   | outgrown => exact hp.elim
  ·
   rintro e W2 ⟨⟨v, rfl⟩, (⟨xs, hS, hi, hl, hk⟩ | ⟨xs, hS, c, hi, hl, hk⟩)⟩
   ·
    refine ⟨none, _, by have := run_endLoop (P := P) hl (by rw [hrc]; simp); rw [hrc] at this; exact this, hdone _ xs _ rfl hS ?_ ((World.putObj_heap_other (by omega)).trans hk)⟩
    exact hIl _ _ _ _ _ hl rfl (by omega) hi
   ·
    refine ⟨some c, _, by have := run_endLoop (P := P) hl (by rw [hrc]; simp); rw [hrc] at this; exact this, hstop _ c xs _ rfl hS ?_ ((World.putObj_heap_other (by omega)).trans hk)⟩
    exact hIxl _ _ _ _ _ _ hl rfl (by omega) hi
end
section
open Go.RowKit Go.Lib


attribute [local go_sem] Oper.semAt_some
def textSet (ps : List (List UInt8)) : DataW Unit := Go.Maps.setOf (.agg []) (ps.map (fun p => Lit.string p))
theorem textSet_snoc (ps : List (List UInt8)) (p : List UInt8) : textSet (ps ++ [p]) = (textSet ps).put (.string p) (.agg []) := by
 unfold textSet
 rw [List.map_append]
 exact Go.Maps.setOf_snoc _ _ _
theorem textSet_has (ps : List (List UInt8)) (p : List UInt8) : Go.Maps.has (textSet ps) (.string p) = decide (p ∈ ps) := by
 unfold textSet
 rw [Go.Maps.has_setOf _ _ _ (fun x hx => by obtain ⟨q, _, rfl⟩ := List.mem_map.1 hx; trivial), Bool.eq_iff_iff, List.any_eq_true, decide_eq_true_eq]
 constructor
 ·
  rintro ⟨x, hx, hs⟩
  obtain ⟨q, hq, rfl⟩ := List.mem_map.1 hx
  have := WideAt.sameKey_eq hs
  cases this
  exact hq
 ·
  intro h
  exact ⟨.string p, List.mem_map.2 ⟨p, h, rfl⟩, WideAt.sameKey_self trivial⟩
theorem ownsMap_putl {H : Type} {w : World} {P : Program} {k : TypeId} {R : Value → Option (DataW H × List MemPlace)} {b n l : Nat} {o : Obj} {D : DataW H} (h : w.ownsMap P k R b n D) (hb : b ≠ l) : (w.putObj l o).ownsMap P k R b n D := by
 obtain ⟨es, clock, q, r⟩ := h
 exact ⟨es, clock, (World.putObj_heap_other hb).trans q, r⟩
theorem Kpt.toLow {n : Nat} {T : List Nat} {a b : World} (h : Kpt n T a b) (hT : ∀ x ∈ T, n ≤ x) : Kpt n [] a b :=
 ⟨h.os, h.tape, h.output, h.size, fun k hk _ => h.block k hk (fun q => by have := hT k q; omega)⟩
structure PathsI (w : World) (m b0 b1 b2 : Nat) (ps : List (List UInt8)) (W : World) (B : Option Addr) (d : Nat) : Prop where
 out : W.heap[b0]? = some (.cells #[.slice B ps.length d] 48 (0, 0))
 own : OwnK textTy W B d ps
 far : ∀ a, B = some a → m + 2 ≤ a.block
 box : W.heap[b2]? = some (.cells #[.map (some b1)] 87 (0, 0))
 map : W.ownsMap Tryz.prog 9 (unitElem (H := Unit)) b1 ps.length (textSet ps)
 chg : Chg [] w W
 sz : m ≤ W.heap.size
theorem PathsI.next {w : World} {m b0 b1 b2 : Nat} {ps : List (List UInt8)} {W W' : World} {B : Option Addr} {d : Nat} (h : PathsI w m b0 b1 b2 ps W B d) (hc : Chg [] W W') : PathsI w m b0 b1 b2 ps W' B d :=
 ⟨hc.at_ h.out (by simp), h.own.chg hc (by simp), h.far, hc.at_ h.box (by simp), ownsMap_chg h.map hc (by simp), h.chg.trans hc, Nat.le_trans h.sz hc.size⟩
theorem PathsI.putl {w : World} {m b0 b1 b2 l : Nat} {ps : List (List UInt8)} {W : World} {B : Option Addr} {d : Nat} {o o' : Obj} (h : PathsI w m b0 b1 b2 ps W B d) (hl : W.heap[l]? = some o) (ho : o.isCells = false) (h0 : b0 ≠ l) (h1 : b1 ≠ l) (h2 : b2 ≠ l) (hw : w.heap.size ≤ l) : PathsI w m b0 b1 b2 ps (W.putObj l o') B d :=
 ⟨(World.putObj_heap_other h0).trans h.out, h.own.putl hl ho, h.far, (World.putObj_heap_other h2).trans h.box, ownsMap_putl h.map h1, h.chg.putl hw, by simpa [World.putObj] using h.sz⟩

set_option maxRecDepth 100000 in
set_option maxHeartbeats 16000000 in
theorem stpaths_any (w : World) (A : Option Addr) (c : Nat) (xs : List EvT) (es : List EvP) (h : RdK evTy w A xs.length xs) (hc : xs.length ≤ c) (ho : xs = [] ∨ ∀ a, A = some a → a.block < w.heap.size) (hx : EvsR w xs es) (hn : xs.length ≤ 100000) (hs : ∀ e ∈ es, EvSm e) :
  Calls Tryz.prog 28 #[.slice A xs.length c] w fun r w' => ∃ (B : Option Addr) (d : Nat), r = .returned (.slice B (pathsE es).length d) ∧ RdK textTy w' B (pathsE es).length (pathsE es) ∧ Chg [] w w' := by

 refine (callsIn_wide (n := 6)).1 ?_
 refine callsIn_of_wp_marks Tryz.func28 rfl trivial ?_ rfl
 simp only [Tryz.ntmps28, List.size_toArray, List.length_cons, List.length_nil, Nat.reduceAdd, Nat.reduceSub, Array.replicate_succ, Array.replicate_zero, List.push_toArray, List.append_toArray, List.nil_append, List.cons_append]
 have hmm := @run_makeMap Tryz.prog
 obtain ⟨w1, hw1, c1, q0, q1⟩ := news2 w (.cells #[.slice none 0 0] 48) (.map #[] 0)
 obtain ⟨w2, hw2, c2, q2⟩ := news1 w1 (.cells #[.map (some (w.heap.size + 1))] 87)
 obtain ⟨w3, hw3, c3, q3⟩ := news1 w2 (.cells #[.slice A xs.length c] 22)
 have OWN0 : w1.ownsMap Tryz.prog 9 (unitElem (H := Unit)) (w.heap.size + 1) 0 (textSet []) := ⟨#[], 0, q1, ⟨by simp, Go.MapKept.stamped_empty 0, by simp⟩, Nat.le_refl _, rfl⟩
 have sz1 : w1.heap.size = w.heap.size + 2 := by rw [hw1]; simp
 have sz2 : w2.heap.size = w.heap.size + 3 := by rw [hw2]; simp [sz1]
 have sz3 : w3.heap.size = w.heap.size + 4 := by rw [hw3]; simp [sz2]
 have W1 := Lib.hid hw1
 have W2 := Lib.hid hw2
 have W3 := Lib.hid hw3
 have Q0 := Lib.hid (c3.at_ (c2.at_ q0 (by simp)) (by simp))
 have Q2 := Lib.hid (c3.at_ q2 (by simp))
 have Q3 := Lib.hid q3
 have QM := Lib.hid (ownsMap_chg OWN0 (c2.trans c3) (by simp))
 have C3 := Lib.hid (c1.trans (c2.trans c3))
 have SZ := Lib.hid (And.intro sz1 (And.intro sz2 sz3))
 rw [sz1] at Q2
 rw [sz2] at Q3
 clear hw1 hw2 hw3 c1 c2 c3 q0 q1 q2 q3 OWN0 sz1 sz2 sz3
 gi_wp2_with (refine ⟨trivial, ?_⟩; gi_at_call 53; refine (callsIn_wide.2 (struns_any _ A xs.length c)).mono ?_; rintro e w9 ⟨rfl, rfl⟩)
 rw [← W1.out, ← W2.out, ← W3.out]
 obtain ⟨b0, h0⟩ : ∃ r, w.heap.size = r := ⟨_, rfl⟩
 obtain ⟨b1, h1⟩ : ∃ r, b0 + 1 = r := ⟨_, rfl⟩
 obtain ⟨b2, h2⟩ : ∃ r, b1 + 1 = r := ⟨_, rfl⟩
 obtain ⟨b3, h3⟩ : ∃ r, b2 + 1 = r := ⟨_, rfl⟩
 rw [show w.heap.size + 2 = w.heap.size + 1 + 1 from rfl] at Q2
 rw [show w.heap.size + 3 = w.heap.size + 1 + 1 + 1 from rfl] at Q3
 rw [h0] at Q0 QM Q2 Q3 ⊢
 rw [h1] at QM Q2 Q3 ⊢
 rw [h2] at Q2 Q3 ⊢
 rw [h3] at Q3 ⊢
 have RR : Hid (w.heap.size = b0 ∧ b1 = b0 + 1 ∧ b2 = b0 + 2 ∧ b3 = b0 + 3 ∧ w3.heap.size = b0 + 4) := Lib.hid (by have := SZ.out; omega)
 have HA := Lib.hid h
 have HC := Lib.hid hc
 have HO := Lib.hid ho
 have HX := Lib.hid hx
 have HN := Lib.hid hn
 have HS := Lib.hid hs
 clear W1 W2 W3 SZ h0 h1 h2 h3 h hc ho hx hn hs hmm
 have XP : Hid (∀ (i : Nat) (x : EvT) (e : EvP), xs[i]? = some x → es[i]? = some e → x.p = strOf e.p) := Lib.hid (fun i x e a b => (HX.out.2 i x e a b).p)
 have BLK : Hid (xs = [] ∨ ∀ a, A = some a → a.block < w3.heap.size ∧ a.block ∉ [b0, b1]) := Lib.hid (HO.out.imp id (fun q a ha => by have := q a ha; have := RR.out; exact ⟨by omega, by simp; omega⟩))
 refine range_ownm (gf := 115) (lb := #[.pointer (some ⟨b3, 0, none⟩)]) rfl (enters_of Tryz.func115 (by kernel_rfl) rfl) (encs := fun x : Nat × Nat => #[.slice (runA A x.1) (x.2 - x.1) (x.2 - x.1)]) (n₁ := w3.heap.size) (Nat.le_refl _)
  (S := fun ys => endRun ys = es.length) (Sp := fun _ => True) (Ex := fun pre x _ => x.1 = endRun pre ∧ RunAt es x.1 x.2) (Bd := fun _ => True) (Si := []) (T := [b0, b1]) ?si ?seq (fun _ => rfl)
  (fun pre W => ∃ B d, PathsI w w3.heap.size b0 b1 b2 (pathsE (es.take (endRun pre))) W B d)
  (fun _ _ _ => False)
  ?keep ?keepx ?kl ?kxl ?bd ?start ?elem
  (fun x => { tmps := #[.slice A xs.length c, undef, .slice none 0 0, .pointer (some ⟨b0, 0, none⟩), .pointer (some ⟨b2, 0, none⟩), .slice (runA A x.1) (x.2 - x.1) (x.2 - x.1), undef, undef, undef, .map (some b1), .slice A xs.length c, .func (.func 115) #[] #[.pointer (some ⟨b3, 0, none⟩)], .slice (runA A x.1) (x.2 - x.1) (x.2 - x.1), undef, undef, undef, undef, undef, undef, undef, undef, undef, undef, undef, undef, undef, undef, undef, undef, undef, undef, undef, undef], defers := [] }) ?assign ?body ?done ?stop
 case si => simp
 case start => exact ⟨none, 0, ⟨Q0.out, OwnK.none_ _, by simp, Q2.out, QM.out, C3.out, Nat.le_refl _⟩⟩
 case seq =>
  intro l' J Jx W hW hJ hJx hJb hY h0
  have hs2 := hW.size
  exact runs1_gives 4 l' w3.heap.size b3 [b0, b1] A c xs es J Jx W (by have := RR.out; omega) (by have := RR.out; simp; omega) (by omega) BLK.out (fun pre A B _ h2 hc => hJ pre A B h2 hc) HX.out.1 XP.out (HA.out.chg (C3.out.trans (Chg.ofBelow hW (Nat.le_refl _) [])) (by simp)) HC.out HN.out ((hW.block _ (by have := RR.out; omega)).trans Q3.out) hY h0
 case keep =>
  rintro pre A' B' ⟨B, d, hi⟩ hb
  exact ⟨B, d, hi.next hb⟩
 case keepx =>
  rintro c pre A' B' hf hb
  exact hf.elim
 case kl =>
  rintro pre W l o o' hl ho hll ⟨B, d, hi⟩
  have rr := RR.out
  exact ⟨B, d, hi.putl hl ho (by omega) (by omega) (by omega) (by omega)⟩
 case kxl =>
  rintro c pre W l o o' hl ho hll hf
  exact hf.elim
 case bd => exact fun _ _ _ => trivial
 case elem =>
  rintro pre x W l o o' hl ho hx
  exact hx
 case assign =>
  intro l x W K hK
  gi_wp2
  exact hK
 case body =>
  rintro l' pre ⟨k, m⟩ W hsz ⟨B, d, hi⟩ ⟨hk, hrun⟩
  have rr := RR.out
  dsimp only at hk hrun ⊢
  rw [← hk] at hi
  have km := hrun.lt
  have mn : m ≤ xs.length := by have := hrun.le; have := HX.out.1; omega
  have RA := Lib.hid (HA.out.chg hi.chg (by simp))
  obtain ⟨g, o, eA, _⟩ := RA.out.line (by omega)
  subst eA
  obtain ⟨b, hb⟩ : ∃ b, es[k]? = some b := ⟨_, List.getElem?_eq_getElem (by have := HX.out.1; omega)⟩
  obtain ⟨x0, hx0⟩ : ∃ x, xs[k]? = some x := ⟨_, List.getElem?_eq_getElem (by omega)⟩
  have zk := (evCells RA.out hx0).2.2.1
  rw [XP.out k x0 b hx0 hb] at zk
  have PL : Hid (b.p.length ≤ 10000000) := Lib.hid (HS.out b (List.mem_of_getElem? hb)).1
  have NX := Lib.hid (paths_run hrun hb)
  have HK := Lib.hid hk
  have HSZ := Lib.hid hsz
  have mk0 : 0 < m - k := by omega
  have mk1 : (0 : Int) < ((m - k : Nat) : Int) := by omega
  obtain ⟨ps, hps⟩ : ∃ ps, pathsE (es.take k) = ps := ⟨_, rfl⟩
  rw [hps] at hi NX
  have HI := Lib.hid hi
  have KEY := Lib.hid (keyText b.p (by have := PL.out; unfold maxLen; omega))
  have PSN : Hid (ps.length ≤ 100000) := Lib.hid (by
   have key : ∀ (l : List EvP) (acc : List (List UInt8)), (l.foldl (fun acc e => addP acc e.p) acc).length ≤ acc.length + l.length := by
    intro l
    induction l with
    | nil => intro acc; simp
    | cons x l ih =>
     intro acc
     have := ih (addP acc x.p)
     simp only [List.foldl_cons, List.length_cons]
     have h2 : (addP acc x.p).length ≤ acc.length + 1 := by unfold addP; split <;> simp
     omega
   have := key (es.take k) []
   rw [← hps]
   unfold pathsE
   rw [List.length_take] at this
   have := HN.out
   have := HX.out.1
   simp at *
   omega)
  simp only [runA_some]
  have z0 := cell_of hi.box 0
  simp only [List.getElem?_toArray, List.getElem?_cons_zero] at z0
  obtain ⟨w5, hw5, c5, q5⟩ := news1 W (.cells #[] 80)
  have W5 := Lib.hid hw5
  have I5 := Lib.hid (hi.next c5)
  have C5 := Lib.hid c5
  clear hb hx0 hrun hi hk hsz km mn rr hps hw5 c5 q5
  by_cases hin : b.p ∈ ps
  ·
   have e6 : decide (b.p ∈ ps) = true := decide_eq_true hin
   have NP : Hid (pathsE (es.take m) = ps) := Lib.hid (by rw [NX.out]; unfold addP; rw [if_pos hin])
   clear hin NX
   gi_wp2_with (gi_at_lookup; refine wpListIn_lookup_own_unit _ rfl _ _ 87 rfl 9 80 law_text Tryz.underlying87 (zero_unit _) b1 ps.length (textSet ps) rfl HI.out.map _ _ rfl KEY.out ?_; rw [textSet_has, e6])
   rw [← W5.out]
   refine ⟨KeepsTwo.of_chg C5.out (by simp) HSZ.out, Kpt.of_chg (C5.out.mono (by simp)) HI.out.sz, B, d, ?_⟩
   rw [endRun_snoc, NP.out]
   exact I5.out
  ·
   have e6 : decide (b.p ∈ ps) = false := decide_eq_false hin
   have NP : Hid (pathsE (es.take m) = ps ++ [b.p]) := Lib.hid (by rw [NX.out]; unfold addP; rw [if_neg hin])
   clear hin NX
   gi_upto_region 8 with (gi_at_lookup; refine wpListIn_lookup_own_unit _ rfl _ _ 87 rfl 9 80 law_text Tryz.underlying87 (zero_unit _) b1 ps.length (textSet ps) rfl HI.out.map _ _ rfl KEY.out ?_; rw [textSet_has, e6])
   rw [← W5.out]
   obtain ⟨g5, hg5⟩ : ∃ g, W.heap.size = g := ⟨_, rfl⟩
   rw [hg5]
   clear z0 zk W5 hg5
   have z0 := cell_of I5.out.box 0
   simp only [List.getElem?_toArray, List.getElem?_cons_zero] at z0
   gi_upto_region 9 with (gi_at_mapUpdate; refine wpListIn_mapUpdate_own _ rfl _ _ _ 87 rfl 9 80 law_text Tryz.underlying87 (unitElem (H := Unit)) b1 ps.length _ rfl I5.out.map (by have := PSN.out; unfold maxLen; omega) _ _ _ rfl rfl KEY.out (.agg []) [] unitElem_mk ?_; intro w6 own6 grow6)
   have C6 : Hid (Chg [b1] w5 w6) := Lib.hid ((Chg.refl [b1] w5).grown grow6 (fun i hi => by simp at hi; subst hi; exact .inl (by simp)))
   have MAP6 : Hid (w6.ownsMap Tryz.prog 9 (unitElem (H := Unit)) b1 (ps ++ [b.p]).length (textSet (ps ++ [b.p]))) := Lib.hid (by rw [textSet_snoc, List.length_append]; exact own6)
   obtain ⟨w7, hw7, c7, q7⟩ := news1 w6 (.cells #[.string (strOf b.p)] 9)
   have W7 := Lib.hid hw7
   have RX : Hid (RdK textTy w7 (some ⟨w6.heap.size, 0, none⟩) 1 [b.p]) := Lib.hid (rd_text (xs := [b.p]) q7 (by simp [maxLen]))
   have BF : Hid (∀ a, B = some a → a.block ≠ b1 ∧ a.block ≠ b0) := Lib.hid (fun a ha => by have := I5.out.far a ha; have := RR.out; omega)
   have O7 := Lib.hid ((I5.out.own.chg C6.out (fun a ha => by simpa using (BF.out a ha).1)).chg c7 (by simp))
   have C7 : Hid (Chg [b1] w5 w7) := Lib.hid (C6.out.trans (c7.mono (by simp)))
   have OUT6 := C6.out.at_ I5.out.out (by have := RR.out; simp; omega)
   have zb := cell_of OUT6 0
   simp only [List.getElem?_toArray, List.getElem?_cons_zero] at zb
   have LN : Hid ((ps.length + 1) * 400 ≤ 140737488355327) := Lib.hid (by have := PSN.out; omega)
   have OUTH := Lib.hid (c7.at_ OUT6 (by simp))
   clear own6 grow6 hw7 c7 q7 z0 OUT6
   gi_wp2_with (gi_at_builtin; rw [← W7.out]; refine wpListIn_appK (R := textTy) rfl (.tmp 28) (.tmp 30) rfl rfl O7.out rfl rfl RX.out LN.out ?_; intro B8 d8 w8 o8 g8 e8; have q8 : w8.heap[b0]? = some (.cells #[.slice B ps.length d] 48 (0, 0)) := (g8.block b0 (lt_of_heap OUTH.out) (fun e => by rcases B with _ | a; (· simp at e); (· simp at e; exact (BF.out a rfl).2 e.symm))).trans OUTH.out; have f8 := free_of q8 0; have z8 := cell_of q8 0; simp only [List.getElem?_toArray, List.getElem?_cons_zero] at z8; have Q8 := Lib.hid q8; have O8 := Lib.hid o8; have E8 := Lib.hid e8; have G8 := Lib.hid g8; clear q8 o8 e8 g8)
   have ST := (Chg.refl [b0] w8).setCell (p := ⟨b0, 0, none⟩) (.inl (by simp)) (.slice B8 (ps.length + 1) d8)
   have LO : Hid (∀ a, B8 = some a → w3.heap.size + 2 ≤ a.block) := Lib.hid (fun a ha => by
    rcases E8.out with e | e
    ·
     exact I5.out.far a (by rw [← e]; exact ha)
    ·
     rw [e] at ha; cases ha; have := C7.out.size; have := C5.out.size; have := HSZ.out; show _ ≤ w7.heap.size; omega)
   have C8 : Kpt (w3.heap.size + 2) [b0, b1] W (w8.setCell ⟨b0, 0, none⟩ (.slice B8 (ps.length + 1) d8)) := by
    have k1 : Kpt (w3.heap.size + 2) [b0, b1] W w7 := Kpt.of_chg ((C5.out.mono (by simp)).trans (C7.out.mono (by simp))) HSZ.out
    have k2 : Kpt (w3.heap.size + 2) [b0, b1] w7 w8 := Kpt.grown G8.out (by have := C7.out.size; have := C5.out.size; have := HSZ.out; omega) (fun i hi => by rcases B with _ | a; (· simp at hi); (· simp at hi; subst hi; exact .inl (I5.out.far a rfl)))
    have k3 : Kpt (w3.heap.size + 2) [b0, b1] w8 (w8.setCell ⟨b0, 0, none⟩ (.slice B8 (ps.length + 1) d8)) := (Kpt.of_chg ST (by have := G8.out.size; have := C7.out.size; have := C5.out.size; have := HSZ.out; omega)).mono (Nat.le_refl _) (by simp)
    exact (k1.trans k2).trans k3
   have rr := RR.out
   refine ⟨⟨C8.block _ (by omega) (by simp; omega), C8.block _ (by omega) (by simp; omega)⟩, C8.mono (by omega) (fun z hz => hz), B8, d8, ?_⟩
   rw [endRun_snoc, NP.out]
   refine ⟨?_, ?_, LO.out, ?_, ?_, ?_, Nat.le_trans HI.out.sz C8.size⟩
   ·
    rw [List.length_append]
    simpa using heap_setCell_same w8 b0 0 _ _ (.slice B8 (ps.length + 1) d8) Q8.out
   ·
    exact O8.out.chg ST (fun a ha => by have := LO.out a ha; simp; omega)
   ·
    exact (C8.block b2 (by omega) (by simp; omega)).trans HI.out.box
   ·
    have m8 : w8.ownsMap Tryz.prog 9 (unitElem (H := Unit)) b1 (ps ++ [b.p]).length (textSet (ps ++ [b.p])) := by
     obtain ⟨es', clock, q, r⟩ := MAP6.out
     refine ⟨es', clock, ?_, r⟩
     have q7 : w7.heap[b1]? = some (.map es' clock) := by rw [W7.out]; exact (Below.heap_alloc _ _ _ (lt_of_heap q)).trans q
     exact (G8.out.block b1 (lt_of_heap q7) (fun e => by rcases B with _ | a; (· simp at e); (· simp at e; exact (BF.out a rfl).1 e.symm))).trans q7
    exact ownsMap_chg m8 ST (by simp; omega)
   ·
    exact ((Kpt.of_chg HI.out.chg (Nat.le_refl _)).trans ((C8.mono (n := w.heap.size) (T := [b0, b1]) (by omega) (fun z hz => hz)).toLow (by simp; omega))).chg
 case done =>
  rintro D zs W hD hS ⟨B, d, hi⟩ hK
  rw [hS, List.take_length] at hi
  have z0 := cell_of hi.out 0
  simp only [List.getElem?_toArray, List.getElem?_cons_zero] at z0
  have HI := Lib.hid hi
  have KD := Lib.hid hK
  have DW := Lib.hid (show w.heap.size ≤ D by rw [hD]; exact C3.out.size)
  clear hi hK hS hD
  gi_wp2
  refine ⟨by simp, .inl ⟨_, _, rfl, run_takeDeferred KD.out, ?_⟩⟩
  exact ⟨_, results_tmp rfl _ _ _, B, d, rfl, (HI.out.own.putl KD.out rfl).reads, HI.out.chg.putl DW.out⟩
 case stop =>
  rintro D c zs W hD _ hf hK
  exact hf.elim
end
section
open Go.RowKit Go.Lib


theorem putS_in {s : List EvP} {e x : EvP} (h : x ∈ putS s e) : x = e ∨ x ∈ s := by
 unfold putS at h
 rcases List.mem_append.1 h with q | q
 ·
  exact .inr (List.mem_filter.1 q).1
 ·
  rcases List.mem_append.1 q with q | q
  ·
   rcases putE_in q with r | r
   ·
    exact .inr (mem_atS.1 r).1
   ·
    exact .inl r.1
  ·
   exact .inr (List.mem_filter.1 q).1
set_option maxRecDepth 100000 in
set_option maxHeartbeats 16000000 in
theorem stput_any (w : World) (A : Option Addr) (c : Nat) (xs : List EvT) (es : List EvP) (y : EvT) (f : EvP) (h : RdK evTy w A xs.length xs) (hc : xs.length ≤ c ∧ c ≤ maxLen) (ho : xs = [] ∨ ∀ a, A = some a → a.block < w.heap.size) (hx : EvsR w xs es) (hn : xs.length ≤ 1000) (hs : ∀ e ∈ es, EvSm e ∧ e.q.length ≤ 100000) (hy : EvR w y f) (ht : EvSm f ∧ f.q.length ≤ 100000) :
  Calls Tryz.prog 11 #[.slice A xs.length c, .agg #[.int .i64 y.n, .int .i64 y.s, .string y.p, .int .i64 y.k, .int .i64 y.m, .slice y.A y.l y.c, .slice y.B y.bl y.bc]] w fun r w' => ∃ (A' : Option Addr) (c' : Nat) (zs : List EvT), r = .returned (.tuple #[.slice A' zs.length c', .int .i64 (stPut es f).1]) ∧ EsF w' w.heap.size w'.heap.size A' c' zs (stPut es f).2 ∧ Chg [] w w' := by
 obtain ⟨R, hR⟩ : ∃ R, stPut es f = R := ⟨_, rfl⟩
 rw [hR]
 have HR := Lib.hid hR
 obtain ⟨w1, hw1, c1, b1⟩ := news1 w (.cells #[.int .i64 y.n, .int .i64 y.s, .string y.p, .int .i64 y.k, .int .i64 y.m, .slice y.A y.l y.c, .slice y.B y.bl y.bc] 30)
 have W1 := Lib.hid hw1
 have C1 := Lib.hid c1
 have B1 := Lib.hid b1
 have HA := Lib.hid (h.chg c1 (by simp))
 have HX := Lib.hid (hx.chg c1)
 have HC := Lib.hid hc
 have HN := Lib.hid hn
 have HS := Lib.hid hs
 have HY := Lib.hid (hy.chg c1)
 have HT := Lib.hid ht
 have CK := Lib.hid (stcheck_any w1 A c xs es (h.chg c1 (by simp)) hc.1 (ho.imp id (fun q a ha => Nat.lt_of_lt_of_le (q a ha) c1.size)) (hx.chg c1) (by omega) (fun e he => (hs e he).1))
 clear hw1 c1 b1 h hx hc hn hs hy ht ho hR
 go_enter Tryz.func11, Tryz.ntmps11
 go_upto_region 1 with fail
 rw [← W1.out]
 obtain ⟨g1, hg1⟩ : ∃ g, w.heap.size = g := ⟨_, rfl⟩
 rw [hg1] at B1 ⊢
 clear W1; go_wp2_with fail
 refine CK.out.mono ?_
 rintro r w2 ⟨rfl, hc⟩
 have C2 := Lib.hid hc
 clear hc CK
 have NO2 : Hid (¬ (StOk es ∧ chkEv f = 0) → R = (2, [])) := Lib.hid (fun q => by rw [← HR.out]; unfold stPut; rw [if_pos q])
 rcases stE_two es with e1 | e1
 rotate_left
 ·
  have ER := NO2.out (fun q => by rw [stE_zero.2 q.1] at e1; cases e1)
  subst ER
  rw [e1]
  clear e1 NO2 HR; go_wp2; go_ret2
  exact ⟨none, 0, [], rfl, EsF.nil _ _ _, C1.out.trans C2.out⟩
 have SA := Lib.hid (stE_zero.1 e1)
 rw [e1]
 clear e1
 have CELLY : Hid (∀ w', Chg [] w1 w' → (w'.cell? ⟨g1, 0, none⟩ = some (.int .i64 y.n) ∧ w'.cell? ⟨g1, 1, none⟩ = some (.int .i64 y.s) ∧ w'.cell? ⟨g1, 2, none⟩ = some (.string y.p) ∧ w'.cell? ⟨g1, 3, none⟩ = some (.int .i64 y.k) ∧ w'.cell? ⟨g1, 4, none⟩ = some (.int .i64 y.m) ∧ w'.cell? ⟨g1, 5, none⟩ = some (.slice y.A y.l y.c) ∧ w'.cell? ⟨g1, 6, none⟩ = some (.slice y.B y.bl y.bc))) := Lib.hid (fun w' hc => by
  have b := hc.at_ B1.out (by simp)
  exact ⟨cell_of b 0, cell_of b 1, cell_of b 2, cell_of b 3, cell_of b 4, cell_of b 5, cell_of b 6⟩)
 obtain ⟨y0, y1, y2, y3, y4, y5, y6⟩ := CELLY.out w2 C2.out
 go_wp2_with fail; clear y0 y1 y2 y3 y4 y5 y6
 refine (evcheck_any w2 y f (HY.out.chg C2.out) HT.out.1).mono ?_
 rintro r w3 ⟨rfl, hc⟩
 have C3 := Lib.hid (C2.out.trans hc)
 clear hc C2
 rcases chkEv_two f with e1 | e1
 rotate_left
 ·
  have ER := NO2.out (fun q => by rw [q.2] at e1; cases e1)
  subst ER
  rw [e1]
  clear e1 NO2 HR; go_wp2; go_ret2
  exact ⟨none, 0, [], rfl, EsF.nil _ _ _, C1.out.trans C3.out⟩
 have FK := Lib.hid e1
 rw [e1]
 clear e1 NO2
 obtain ⟨y0, y1, y2, y3, y4, y5, y6⟩ := CELLY.out w3 C3.out
 go_wp2_with fail; clear y0 y1 y2 y3 y4 y5 y6
 refine (stputf_any w3 A c xs es y f (HA.out.chg C3.out (by simp)) HC.out (HX.out.chg C3.out) HN.out HS.out (HY.out.chg C3.out) HT.out SA.out.1 (stOk_at SA.out f.p) FK.out).mono ?_
 rintro r w4 ⟨A4, c4, zs, rfl, hcp, hr, he, hc⟩
 have R4 := Lib.hid hr
 have C4 := Lib.hid (C3.out.trans hc)
 clear hcp hr hc
 rcases hel : elseE es f with _ | _
 ·
  have ER : R = (0, putS es f) := by
   rw [← HR.out]
   exact stPut_yes SA.out FK.out hel
  rw [hel, if_neg (by decide : ¬ (false = true))] at he
  rw [if_neg (by decide : ¬ (false = true))]
  have E4 : Hid (EvsR w4 zs (putS es f)) := Lib.hid (by simpa using he)
  subst ER; clear he hel HR
  have FE := Lib.hid (frevents_any w4 A4 c4 zs (putS es f) R4.out E4.out (by have a := E4.out.1; have b := elseE_len es f; have d := HX.out.1; have := HN.out; omega) (fun e he => by
   rcases putS_in he with q | q
   ·
    rw [q]; exact ⟨HT.out.1.2.1, HT.out.2⟩
   ·
    exact ⟨(HS.out e q).1.2.1, (HS.out e q).2⟩))
  go_wp2_with fail
  refine FE.out.mono ?_
  rintro r w5 ⟨A5, c5, us, rfl, hl, he, hc⟩
  have P5 := Lib.hid (And.intro (he.low (lo' := g1) (by rw [← hg1]; exact (C1.out.trans C4.out).size)) (C1.out.trans (C4.out.trans hc)))
  clear hl he hc FE; go_wp2; go_ret2
  exact ⟨A5, c5, us, rfl, P5.out.1, P5.out.2⟩
 ·
  have ER : R = (7, []) := by
   rw [← HR.out]
   unfold stPut
   rw [if_neg (fun q => q ⟨SA.out, FK.out⟩), if_pos hel]
  rw [hel, if_pos (rfl : true = true)] at he
  rw [if_pos (rfl : true = true)]
  have E4 : Hid (EvsR w4 zs []) := Lib.hid (by simpa using he)
  subst ER; clear he hel HR
  have FE := Lib.hid (frevents_any w4 A4 c4 zs [] R4.out E4.out (by have a : zs.length = 0 := E4.out.1; omega) (by simp))
  go_wp2_with fail
  refine FE.out.mono ?_
  rintro r w5 ⟨A5, c5, us, rfl, hl, he, hc⟩
  have P5 := Lib.hid (And.intro (he.low (lo' := g1) (by rw [← hg1]; exact (C1.out.trans C4.out).size)) (C1.out.trans (C4.out.trans hc)))
  clear hl he hc FE; go_wp2; go_ret2
  exact ⟨A5, c5, us, rfl, P5.out.1, P5.out.2⟩
end
section
open Go.RowKit Go.Lib

theorem evP_ext {a b : EvP} : (a.n = b.n ∧ a.s = b.s ∧ a.p = b.p ∧ a.k = b.k ∧ a.m = b.m ∧ a.b = b.b ∧ a.q = b.q) ↔ a = b := by
 cases a
 cases b
 simp
instance decEvP : DecidableEq EvP := fun a b => decidable_of_iff _ evP_ext
def s1E : EvP := ⟨1, 1, [102], 1, 0, [], []⟩
def s2E : EvP := ⟨2, 1, [102], 1, 0, [], [(1, 1, 1)]⟩
def s3E : EvP := ⟨3, 1, [102, 47, 103], 1, 0, [], []⟩
def s4E : EvP := ⟨1, 1, [102, 47, 103], 1, 0, [], []⟩
theorem s_put0 : stPut [] s3E = (0, [s3E]) := by decide +kernel
theorem s_put1 : stPut [s3E] s1E = (0, [s1E, s3E]) := by decide +kernel
theorem s_put2 : stPut [s1E, s3E] s2E = (0, [s2E, s3E]) := by decide +kernel
theorem s_known : knownE [s2E, s3E] = (0, [(2, 1, 1), (3, 1, 1)]) := by decide +kernel
theorem s_paths : pathsE [s1E, s3E] = [[102], [102, 47, 103]] := by decide +kernel
theorem s_shelf : [s2E, s3E].filter (fun e => decide (e.p = [102])) = [s2E] := by decide +kernel
theorem s_near : [s2E, s3E].filter (fun e => nearL e.p [102, 47, 103]) = [s2E, s3E] := by decide +kernel
theorem s_sm (e : EvP) (h : e ∈ [s1E, s2E, s3E, s4E]) : EvSm e ∧ e.q.length ≤ 100000 := by
 simp at h
 rcases h with rfl | rfl | rfl | rfl <;> (constructor <;> simp [EvSm, s1E, s2E, s3E, s4E])
theorem s_sms {l : List EvP} (h : ∀ e ∈ l, e ∈ [s1E, s2E, s3E, s4E] := by simp) : ∀ e ∈ l, EvSm e ∧ e.q.length ≤ 100000 := fun e he => s_sm e (h e he)
end
end Go.Proofs.YtomgjogkkoigbaaGreatDoor
