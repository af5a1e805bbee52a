/- EdgeAgrees. Rows of events as arguments. Nothing is asked of the variables. -/
import Derived.Test.YtehmchdhlhchjaaGreatDoorZeay
import Derived.Test.YtehmchdhlhchjaaGreatDoorZeaz
import Derived.Test.YtehmchdhlhchjaaGreatDoorZeax
import Derived.Test.YtehmchdhlhchjaaGreatDoorZeazb
import Derived.Test.YtehmchdhlhchjaaGreatDoorZeaq
import Derived.Test.YtehmchdhlhchjaaGreatDoorZeag
import Derived.Test.YtehmchdhlhchjaaGreatDoorZeal
import Derived.Deep.Cut
import Derived.Deep.RegionHeld3
import Derived.Test.YtehmchdhlhchjaaGreatDoorLaid0
set_option linter.unusedSimpArgs false
set_option linter.unusedVariables false
set_option maxHeartbeats 32000000
namespace Go.Proofs.YtehmchdhlhchjaaGreatDoor
section
open Go.RowKit Go.Lib


theorem newA7 : newA 7 = (0, 7, []) := by
 have h : chkA 7 [] = 0 := by rw [chkA_in (by omega) (by omega)]; rfl
 unfold newA
 rw [if_pos h]
theorem put_now {U X : List EvP} {e : EvP} (hU : closedE U = true) (hX : ∀ x ∈ X, x ∈ U) (he : e ∈ U) : stPut (X.foldl putS []) e = (0, (X ++ [e]).foldl putS []) := by
 have st := puts_store hU hX
 rw [stPut_yes (stOf_ok hU hX st) (cl_chk hU he) (else_closed hU (fun y hy => hX y (stOf_sub st y hy)) he), List.foldl_append]
 rfl
theorem AgI.begin (U : List EvP) : AgI U [] [] [] [] [] [] := ⟨rfl, rfl, rfl, Nat.le_refl _, fun n m => by rfl, fun x h => by simp at h⟩
theorem AgI.moreX {U X Y s t : List EvP} {k : List Sp} (h : AgI U X Y s t k []) (e : EvP) : AgI U (X ++ [e]) Y ((X ++ [e]).foldl putS []) t k [] := ⟨rfl, h.there, h.chk, h.len, h.has, fun x q => by simp at q⟩
theorem AgI.moreY {U X Y s t : List EvP} {k : List Sp} {e : EvP} (h : AgI U X Y s t k []) (hl : Y.length ≤ 2000) (he : chkEv e = 0) : ∃ k', learnA 7 k e.n e.s = (0, 7, k') ∧ AgI U X (Y ++ [e]) s ((Y ++ [e]).foldl putS []) k' [] := by
 obtain ⟨k', l1, l2, l3, l4⟩ := learn_ok (e := e) h.chk (by have := h.len; simp at this; omega) he
 refine ⟨k', l1, h.here, by rw [List.append_nil], l2, by have := h.len; simp at this ⊢; omega, fun n m => ?_, fun x q => by simp at q⟩
 rw [l4, h.has, Bool.eq_iff_iff, Bool.or_eq_true, decide_eq_true_eq, decide_eq_true_eq, decide_eq_true_eq]
 unfold dotsE
 simp [Prod.mk.injEq]
theorem next_first (l : List EvP) : (l = [] ∧ nextA (byDt l) [] = none) ∨ ∃ e ∈ l, nextA (byDt l) [] = some e := by
 have L := byDt_len l
 have P := byDt_perm l
 generalize byDt l = m at L P ⊢
 cases m with
 | nil => exact .inl ⟨List.eq_nil_of_length_eq_zero (by simpa using L.symm), rfl⟩
 | cons a m => exact .inr ⟨a, P.mem_iff.1 (by simp), by unfold nextA; simp⟩
theorem EsF.go {S : List Nat} {w w' : World} {lo : Nat} {A : Option Addr} {c : Nat} {ys : List EvT} {es : List EvP} (h : EsF w lo w.heap.size A c ys es) (hc : Chg S w w') (hS : ∀ i ∈ S, i < lo) : EsF w' lo w'.heap.size A c ys es := by
 have q := h.chg hc (fun i hi q => by have := hS i hi; omega)
 exact ⟨q.row, fun a ha => ⟨(q.rowAt a ha).1, by have := (q.rowAt a ha).2; have := hc.size; omega⟩, q.all.mono hc.size⟩
structure ArcB (w : World) (g : Nat) (K : Option Addr) (kc : Nat) (ks : List Sp) : Prop where
 box : w.heap[g]? = some (.cells #[.int .i64 7, .slice K ks.length kc] 25 (0, 0))
 rd : RdK spanTy w K ks.length ks
 cap : ks.length ≤ kc ∧ kc ≤ maxLen
 old : ∀ a, K = some a → a.block < w.heap.size
 off : ∀ a, K = some a → a.block ≠ g
theorem ArcB.chg {w w' : World} {g : Nat} {K : Option Addr} {kc : Nat} {ks : List Sp} (h : ArcB w g K kc ks) (hc : Chg [] w w') : ArcB w' g K kc ks :=
 ⟨hc.at_ h.box (by simp), h.rd.chg hc (by simp), h.cap, fun a ha => Nat.lt_of_lt_of_le (h.old a ha) hc.size, h.off⟩
theorem ArcB.chgS {S : List Nat} {w w' : World} {g : Nat} {K : Option Addr} {kc : Nat} {ks : List Sp} (h : ArcB w g K kc ks) (hc : Chg S w w') (hg : g ∉ S) (hK : ∀ a, K = some a → a.block ∉ S) : ArcB w' g K kc ks :=
 ⟨hc.at_ h.box hg, h.rd.chg hc hK, h.cap, fun a ha => Nat.lt_of_lt_of_le (h.old a ha) hc.size, h.off⟩
theorem arcW {w : World} {g : Nat} {a0 a1 : Value} {K : Option Addr} {kc : Nat} {ks : List Sp} (h : w.heap[g]? = some (.cells #[a0, a1] 25 (0, 0))) (ho : OwnK spanTy w K kc ks) (hn : ∀ a, K = some a → a.block ≠ g) :
  ArcB ((w.setCell ⟨g, 0, none⟩ (.int .i64 7)).setCell ⟨g, 1, none⟩ (.slice K ks.length kc)) g K kc ks ∧ Chg [g] w ((w.setCell ⟨g, 0, none⟩ (.int .i64 7)).setCell ⟨g, 1, none⟩ (.slice K ks.length kc)) := by
 have p0 := heap_setCell_same _ g 0 _ _ (.int .i64 7) h
 have p1 := heap_setCell_same _ g 1 _ _ (.slice K ks.length kc) p0
 have c : Chg [g] w ((w.setCell ⟨g, 0, none⟩ (.int .i64 7)).setCell ⟨g, 1, none⟩ (.slice K ks.length kc)) := ((Chg.refl [g] w).setCell (p := ⟨g, 0, none⟩) (.inl (by simp)) _).setCell (p := ⟨g, 1, none⟩) (.inl (by simp)) _
 refine ⟨⟨by simpa using p1, ho.reads.chg c (fun a ha => by simpa using hn a ha), ho.cap, fun a ha => Nat.lt_of_lt_of_le (ho.lt_ a ha) c.size, hn⟩, c⟩
def PartU (U : List EvP) (k : Nat) (X Y : List EvP) : Prop := (∀ x ∈ X, x ∈ U) ∧ (∀ x ∈ Y, x ∈ U) ∧ X.length ≤ k ∧ Y.length ≤ k
theorem PartU.x {U X Y : List EvP} {k : Nat} {e : EvP} (h : PartU U k X Y) (he : e ∈ U) : PartU U (k + 1) (X ++ [e]) Y :=
 ⟨fun x hx => (List.mem_append.1 hx).elim (h.1 x) (fun q => by simp at q; rw [q]; exact he), h.2.1, by have := h.2.2.1; simp; omega, by have := h.2.2.2; omega⟩
theorem PartU.y {U X Y : List EvP} {k : Nat} {e : EvP} (h : PartU U (k + 1) X Y) (hk : Y.length ≤ k) (he : e ∈ U) : PartU U (k + 1) X (Y ++ [e]) :=
 ⟨h.1, fun x hx => (List.mem_append.1 hx).elim (h.2.1 x) (fun q => by simp at q; rw [q]; exact he), h.2.2.1, by simp; omega⟩
theorem PartU.s {U X Y : List EvP} {k : Nat} (h : PartU U k X Y) : PartU U (k + 1) X Y := ⟨h.1, h.2.1, by have := h.2.2.1; omega, by have := h.2.2.2; omega⟩

set_option maxRecDepth 100000 in
theorem edgeagrees_yes (w : World) (A : Option Addr) (n c : Nat) (xs : List EvT) (es : List EvP) (hb : RdK evTy w A n xs) (hr : EvsR w xs es) (hn : n * 96 ≤ 140737488351232) (hm : n ≤ c) (hz : ∀ (i : Nat) (x : EvT) (e : EvP), xs[i]? = some x → es[i]? = some e → EvZ x e) (B : Option Addr) (nb cb0 : Nat) (bs : List Bool) (hbs : RdK boolTy w B nb bs) (hnb : nb * 1 ≤ 140737488351232) (D : Option Addr) (nd cd0 : Nat) (ds : List Bool) (hds : RdK boolTy w D nd ds) (hnd : nd * 1 ≤ 140737488351232) :
  Calls Tryz.prog 4 #[.slice A n c, .slice B nb cb0, .slice D nd cd0] w fun r w' => r = .returned (.bool true) ∧ Chg [] w w' := by

 have hl := hb.len
 subst hl
 have HFT := h_ (fit_args hr hz)
 have HL0 : Hid (xs.length ≤ 140737488351232) := h_ (by omega)
 have XL : Hid (∀ x ∈ xs, x.l ≤ 140737488351232) := h_ (fun x hx => by
  obtain ⟨i, hi⟩ := List.getElem?_of_mem hx
  obtain ⟨x2, e, ex, ee, rx⟩ := hr.at_ (show i < xs.length from (List.getElem?_eq_some_iff.1 hi).1)
  rw [hi] at ex
  cases ex
  have a := rx.l
  have b := (hz i x e hi ee).1
  omega)
 have hlb := hbs.len
 subst hlb
 have hld := hds.len
 subst hld
 have HA := h_ hb
 have HR := h_ hr
 have HB := h_ hbs
 have HD := h_ hds
 have C := h_ (Chg.refl [] w)
 clear hb hr hn hm hz hbs hds hnb hnd
 go_enter Tryz.func4, Tryz.ntmps4
 go_wp2_with fail
 refine (l20known_c w).mono ?_
 rintro r w0 ⟨rfl, hc⟩
 replace C := h_ (C.out.trans hc)
 clear hc; go_wp2_with fail
 have lv := longevs_any w0 A c xs 14 (HA.out.chg C.out (by simp)) HL0.out (by omega) XL.out
 rw [show ((14 : Nat) : Int) = 14 from rfl] at lv
 refine lv.mono ?_
 rintro r w1 ⟨rfl, hc⟩
 clear lv
 replace C := h_ (C.out.trans hc)
 clear hc
 rcases hlong : longE xs 14 with _ | _
 rotate_left
 ·
  go_wp2; go_ret
  first | exact C.out | exact ⟨rfl, C.out⟩
 have sm := smallEvs HR.out hlong
 have SM : Hid (∀ e ∈ es, EvSm e ∧ e.q.length ≤ 100000) := h_ (fun e he => ⟨(sm.1 e he).1, by have := (sm.1 e he).2.1; omega⟩)
 have LN : Hid (xs.length ≤ 14) := h_ sm.2
 clear sm hlong; go_wp2_with fail
 refine (evclosed_any w1 A c xs es (HA.out.chg C.out (by simp)) (HR.out.chg C.out) (HFT.out.chg C.out) (by have := LN.out; omega) (fun e he => (SM.out e he).1)).mono ?_
 rintro r w3 ⟨rfl, hc⟩
 replace C := h_ (C.out.trans hc)
 clear hc
 rcases hcl : closedE es with _ | _
 ·
  go_wp2; go_ret
  first | exact C.out | exact ⟨rfl, C.out⟩
 have CL := h_ hcl
 clear hcl
 have NW := ednew_any w3 7
 rw [newA7] at NW
 have NWH := h_ NW
 clear NW; go_wp2_with fail
 refine NWH.out.mono ?_
 rintro r w4 ⟨A0, c0, rfl, ho, hA, hc⟩
 clear NWH
 obtain ⟨w5, hw5, c5, b5⟩ := news1 w4 (.cells #[.int .i64 7, .slice A0 0 c0] 25)
 have W5 := h_ hw5
 have AR0 : Hid (ArcB w5 w4.heap.size A0 c0 []) := h_ ⟨b5, (ho.chg c5 (by simp)).reads, ho.cap, fun a ha => by have := ho.lt_ a ha; have := c5.size; omega, fun a ha => Nat.ne_of_lt (ho.lt_ a ha)⟩
 have RE3 := h_ (HR.out.chg C.out)
 have C3 := C
 have C35 := h_ (hc.trans c5)
 have SZ5 : Hid (w5.heap.size = w4.heap.size + 1) := h_ (by rw [hw5]; simp)
 have S34 := h_ hc.size
 clear C hw5 c5 b5 ho hA hc
 go_upto_region 5 with fail
 rw [← W5.out]
 obtain ⟨g8, hg8⟩ : ∃ g, w4.heap.size = g := ⟨_, rfl⟩
 rw [hg8] at AR0 SZ5 S34 ⊢
 clear W5 hg8
 go_upto_region 6 with fail
 go_wp2
 go_loopw [9, 10, 11, 12] (fun v9 v10 v11 v12 wr => ∃ (k : Nat) (X Y : List EvP) (ks : List Sp) (As : Option Addr) (cs : Nat) (zs : List EvT) (At : Option Addr) (ct : Nat) (zt : List EvT) (Ak : Option Addr) (ck : Nat), k ≤ xs.length ∧ v9 = .int .i64 0 ∧ v10 = .slice As zs.length cs ∧ v11 = .slice At zt.length ct ∧ v12 = .int .i64 (k : Int) ∧ Hid (PartU es k X Y) ∧ Hid (EsF wr (g8 + 1) wr.heap.size As cs zs (X.foldl putS [])) ∧ Hid (EsF wr (g8 + 1) wr.heap.size At ct zt (Y.foldl putS [])) ∧ Hid (ArcB wr g8 Ak ck ks) ∧ Hid (AgI es X Y (X.foldl putS []) (Y.foldl putS []) ks []) ∧ Hid (Chg [] w3 wr) ∧ Hid (g8 < wr.heap.size)) (fun _ _ _ v12 _ => xs.length - (RowKit.intOf v12).toNat)
 case atStart => exact ⟨0, [], [], [], none, 0, [], none, 0, [], A0, c0, Nat.zero_le _, rfl, rfl, rfl, rfl, h_ ⟨by simp, by simp, Nat.le_refl _, Nat.le_refl _⟩, h_ (EsF.nil _ _ _), h_ (EsF.nil _ _ _), AR0, h_ (AgI.begin es), C35, h_ (by have := SZ5.out; omega)⟩
 case round =>
  clear AR0 C35 SZ5
  obtain ⟨k, X, Y, ks, As, cs, zs, At, ct, zt, Ak, ck, hk, rfl, rfl, rfl, rfl, PU, FS, FT, AR, AG, PC, GL⟩ := hrel
  have j0 : (0 : Int) ≤ (k : Int) := by omega
  by_cases hlt : k < xs.length
  ·
   have j1 : (k : Int) < (xs.length : Int) := by omega
   have j3 : IntKind.i64.wrap ((k : Int) + 1) = (k : Int) + 1 := IntWalk.i64_in _ (by have := LN.out; omega)
   obtain ⟨g3, o3, eA, _⟩ := HA.out.line (by omega)
   subst eA
   obtain ⟨x, e, ex, ee, rx⟩ := RE3.out.at_ hlt
   have EX := h_ ex
   have RX := h_ rx
   have EM := h_ (List.mem_of_getElem? ee)
   have KL := h_ hlt
   clear ex ee rx
   have YK0 : Hid (Y.length ≤ k) := h_ PU.out.2.2.2
   have GS := GL
   by_cases hP : k < bs.length
   ·
    skip
    have P1 : (k : Int) < (bs.length : Int) := by omega
    have P2 : decide ((k : Int) < (bs.length : Int)) = true := decide_eq_true (by omega)
    have P3 : decide (k < bs.length) = true := decide_eq_true (by omega)
    obtain ⟨gb, ob, eP, _⟩ := HB.out.line (by omega)
    subst eP
    obtain ⟨p, hp⟩ : ∃ p, bs[k]? = some p := ⟨_, List.getElem?_eq_getElem hP⟩
    have BB : Hid (∀ w', Chg [] w3 w' → w'.cell? ⟨gb, ob + k, none⟩ = some (.bool p)) := h_ (fun w' hc => boolCells (HB.out.chg (C3.out.trans hc) (by simp)) hp)
    clear hp
    rcases p with _ | _
    ·
     skip
     by_cases hQ : k < ds.length
     ·
      skip
      have Q1 : (k : Int) < (ds.length : Int) := by omega
      have Q2 : decide ((k : Int) < (ds.length : Int)) = true := decide_eq_true (by omega)
      have Q3 : decide (k < ds.length) = true := decide_eq_true (by omega)
      obtain ⟨gd, od, eQ, _⟩ := HD.out.line (by omega)
      subst eQ
      obtain ⟨q, hq⟩ : ∃ q, ds[k]? = some q := ⟨_, List.getElem?_eq_getElem hQ⟩
      have BD : Hid (∀ w', Chg [] w3 w' → w'.cell? ⟨gd, od + k, none⟩ = some (.bool q)) := h_ (fun w' hc => boolCells (HD.out.chg (C3.out.trans hc) (by simp)) hq)
      clear hq
      rcases q with _ | _
      ·
       skip
       have u0 := BB.out _ PC.out
       have v0 := BD.out _ PC.out
       replace PU := h_ PU.out.s
       go_wp2; go_round
       case rel => exact ⟨k + 1, X, Y, ks, As, cs, zs, At, ct, zt, Ak, ck, by omega, rfl, by first | rfl | simp, by first | rfl | simp, by go_num, PU, FS, FT, AR, AG, PC, GL⟩
       case measure => simp [RowKit.intOf]; omega
      ·
       skip
       have u0 := BB.out _ PC.out
       have v0 := BD.out _ PC.out
       replace PU := h_ PU.out.s
       go_upto_region 12 with fail
       clear u0 v0
       have YK := h_ YK0.out
       have PT := stput_any wr At ct zt (Y.foldl putS []) x e FT.out.row.reads FT.out.row.cap (.inr FT.out.row.lt_) FT.out.all.ev (by have a := FT.out.all.ev.1; have b := foldS_len Y []; have := PU.out; unfold PartU at this; have := LN.out; simp at b; omega) (fun f hf => (foldS_in Y [] f hf).elim (fun q => by cases q) (fun q => SM.out f (PU.out.2.1 f q))) (RX.out.chg PC.out) (SM.out e EM.out)
       rw [put_now CL.out PU.out.2.1 EM.out] at PT
       have PTH := h_ PT
       clear PT
       obtain ⟨z0, z1, z2, z3, z4, z5, z6⟩ := evCells (HA.out.chg (C3.out.trans PC.out) (by simp)) EX.out
       go_wp2_with fail
       refine PTH.out.mono ?_
       rintro r p1 ⟨A1, c1, y1, rfl, he, hc⟩
       clear PTH z0 z1 z2 z3 z4 z5 z6
       have NW : Hid (EsF p1 (g8 + 1) p1.heap.size A1 c1 y1 ((Y ++ [e]).foldl putS [])) := h_ (he.low GL.out)
       replace FS := h_ (FS.out.go hc (by simp))
       replace FT := h_ (FT.out.go hc (by simp))
       replace AR := h_ (AR.out.chg hc)
       replace PC := h_ (PC.out.trans hc)
       replace GL := h_ (Nat.lt_of_lt_of_le GL.out hc.size)
       clear he hc FT
       have FT := NW
       clear NW
       have KSL : Hid (ks.length ≤ 1000) := h_ (by have a := AG.out.len; have b := PU.out.2.2.2; have := LN.out; have := KL.out; simp at a; omega)
       obtain ⟨kn, LE, AGN⟩ := AG.out.moreY (e := e) (by have := PU.out; unfold PartU at this; have := LN.out; omega) (cl_chk CL.out EM.out)
       have AGH := h_ AGN
       have LEH := h_ LE
       clear LE AGN AG
       go_upto_region 14 with fail
       obtain ⟨wq, hwq⟩ : ∃ q, p1 = q := ⟨_, rfl⟩
       have C : Hid (Chg [] p1 wq) := h_ (hwq ▸ Chg.refl [] _)
       have DX : Hid (∀ w', Chg [g8] wq w' → w'.cell? ⟨g3, o3 + k * 7, none⟩ = some (.int .i64 x.n) ∧ w'.cell? ⟨g3, o3 + k * 7 + 1, none⟩ = some (.int .i64 x.s)) := h_ (fun w' hc => by
        have q := evCells ((HA.out.chg (C3.out.trans (PC.out.trans C.out)) (by simp)).chg hc (fun a ha => by cases ha; have := HA.out.old; have := S34.out; have s0 := C3.out.size; have := GS.out; simp; omega)) EX.out
        exact ⟨q.1, q.2.1⟩)
       replace FS := h_ (FS.out.go C.out (by simp))
       replace FT := h_ (FT.out.go C.out (by simp))
       replace AR := h_ (AR.out.chg C.out)
       replace PC := h_ (PC.out.trans C.out)
       replace GL := h_ (Nat.lt_of_lt_of_le GL.out C.out.size)
       rw [hwq]
       clear hwq C
       obtain ⟨wc, hwc⟩ : ∃ q, wq = q := ⟨_, rfl⟩
       have C : Hid (Chg [g8] wq wc) := h_ (hwc ▸ Chg.refl _ _)
       have AC : Hid (ArcB wc g8 Ak ck ks) := h_ (hwc ▸ AR.out)
       rw [hwc]
       clear hwc
       refine wp_region_held_drew (S := fun w' => w'.cell? ⟨g3, o3 + k * 7, none⟩ = some (.int .i64 x.n) ∧ w'.cell? ⟨g3, o3 + k * 7 + 1, none⟩ = some (.int .i64 x.s)) (by kernel_rfl) (DX.out _ (C.out.trans ((Chg.refl [] wc).drew.mono (by simp)))) (fun hHeld => ?_)
       replace AC := h_ (AC.out.chg (Chg.refl [] wc).drew)
       replace C := h_ (C.out.trans ((Chg.refl [] wc).drew.mono (by simp)))
       obtain ⟨wc, hwc⟩ : ∃ q, wc.drew = q := ⟨_, rfl⟩
       rw [hwc] at AC C hHeld ⊢
       clear hwc; refine sy 1 93 rfl rfl ?_; try simp only [Act.put, sA, s0, s1]
       refine sy 2 94 rfl rfl ?_; try simp only [Act.put, sA, s0, s1]
       refine sy 3 95 rfl rfl ?_; try simp only [Act.put, sA, s0, s1]
       refine sy 4 96 rfl rfl ?_; try simp only [Act.put, sA, s0, s1]
       refine sy 5 97 rfl rfl ?_ (hy := by (intro w hSw; (try dsimp only at hSw); obtain ⟨q0, q1⟩ := hSw; go_simp; try with_reducible rfl))
       try simp only [Act.put, sA, s0, s1]
       refine on1 0 rfl (fun K hK => ?_)
       obtain ⟨a0, a1⟩ := ce2 AC.out.box
       go_simp; clear a0 a1
       refine hK.out _ _ hHeld (fun hHeld => ?_)
       clear hK K; try simp only [Act.put, sA, s0, s1]
       refine on1 6 rfl (fun K hK => ?_)
       have LR := edlearn_any wc 7 Ak ck ks x.n x.s AC.out.rd AC.out.cap AC.out.old (by have := KSL.out; omega)
       rw [RX.out.n, RX.out.s, LEH.out] at LR
       have LRH := h_ LR
       clear LR; go_simp
       try rw [RX.out.n, RX.out.s]
       refine LRH.out.mono ?_
       rintro r wc ⟨A9, c9, rfl, ho, hA, hc⟩
       clear LRH
       have O9 := h_ ho
       have N9 : Hid (∀ a, A9 = some a → a.block ≠ g8) := h_ (fun a ha => by have := hA a ha; have := lt_of_heap AC.out.box; omega)
       replace AC := h_ (AC.out.chg hc)
       replace C := h_ (C.out.trans (hc.mono (by simp)))
       clear ho hA hc
       refine hK.out _ _ (DX.out _ C.out) (fun hHeld => ?_)
       clear hK K; try simp only [Act.put, sA, s0, s1]
       refine sy 7 91 rfl rfl ?_; try simp only [Act.put, sA, s0, s1]
       refine sy 8 99 rfl rfl ?_; try simp only [Act.put, sA, s0, s1]
       refine sy 9 100 rfl rfl ?_; try simp only [Act.put, sA, s0, s1]
       refine on1 10 rfl (fun K hK => ?_)
       have a0 := cell_of AC.out.box 0
       have a1 := cell_of AC.out.box 1
       have f0 := free_of AC.out.box 0
       have f1 := free_of AC.out.box 1
       simp only [gA, gY, gZ] at a0 a1
       go_simp; clear a0 a1 f0 f1
       obtain ⟨ar, cw⟩ := arcW AC.out.box O9.out N9.out
       have AC9 := h_ ar
       have CW := h_ cw
       clear ar cw
       replace C := h_ (C.out.trans CW.out)
       generalize (wc.setCell ⟨g8, 0, none⟩ (.int .i64 7)).setCell ⟨g8, 1, none⟩ (.slice A9 kn.length c9) = wc at *
       refine hK.out _ _ (DX.out _ C.out) (fun hHeld => ?_)
       clear hK K; try simp only [Act.put, sA, s0, s1]
       refine sy 11 9 rfl rfl ?_; try simp only [Act.put, sA, s0, s1]
       refine wpAnyH_done (by kernel_rfl) ?_ _; clear hHeld DX AC
       replace FS := h_ (FS.out.go C.out (by simp))
       replace FT := h_ (FT.out.go C.out (by simp))
       replace GL := h_ (Nat.lt_of_lt_of_le GL.out C.out.size)
       replace PC := h_ (PC.out.trans' C.out (fun i hi => .inr (by simp at hi; rw [hi]; exact S34.out)))
       have AR := AC9
       have AG := AGH
       replace PU := h_ (PU.out.y YK.out EM.out)
       go_wp2; go_round
       case rel => exact ⟨k + 1, X, (Y ++ [e]), kn, As, cs, zs, A1, c1, y1, A9, c9, by omega, rfl, by first | rfl | simp, by first | rfl | simp, by go_num, PU, FS, FT, AR, AG, PC, GL⟩
       case measure => simp [RowKit.intOf]; omega
     ·
      skip
      have Q1 : ¬ (k : Int) < (ds.length : Int) := by omega
      have Q2 : decide ((k : Int) < (ds.length : Int)) = false := decide_eq_false (by omega)
      have Q3 : decide (k < ds.length) = false := decide_eq_false (by omega)
      have u0 := BB.out _ PC.out
      replace PU := h_ PU.out.s
      go_wp2; go_round
      case rel => exact ⟨k + 1, X, Y, ks, As, cs, zs, At, ct, zt, Ak, ck, by omega, rfl, by first | rfl | simp, by first | rfl | simp, by go_num, PU, FS, FT, AR, AG, PC, GL⟩
      case measure => simp [RowKit.intOf]; omega
    ·
     skip
     by_cases hQ : k < ds.length
     ·
      skip
      have Q1 : (k : Int) < (ds.length : Int) := by omega
      have Q2 : decide ((k : Int) < (ds.length : Int)) = true := decide_eq_true (by omega)
      have Q3 : decide (k < ds.length) = true := decide_eq_true (by omega)
      obtain ⟨gd, od, eQ, _⟩ := HD.out.line (by omega)
      subst eQ
      obtain ⟨q, hq⟩ : ∃ q, ds[k]? = some q := ⟨_, List.getElem?_eq_getElem hQ⟩
      have BD : Hid (∀ w', Chg [] w3 w' → w'.cell? ⟨gd, od + k, none⟩ = some (.bool q)) := h_ (fun w' hc => boolCells (HD.out.chg (C3.out.trans hc) (by simp)) hq)
      clear hq
      rcases q with _ | _
      ·
       skip
       have u0 := BB.out _ PC.out
       have v0 := BD.out _ PC.out
       go_upto_region 10 with fail
       clear u0 v0
       have PT := stput_any wr As cs zs (X.foldl putS []) x e FS.out.row.reads FS.out.row.cap (.inr FS.out.row.lt_) FS.out.all.ev (by have a := FS.out.all.ev.1; have b := foldS_len X []; have := PU.out; unfold PartU at this; have := LN.out; simp at b; omega) (fun f hf => (foldS_in X [] f hf).elim (fun q => by cases q) (fun q => SM.out f (PU.out.1 f q))) (RX.out.chg PC.out) (SM.out e EM.out)
       rw [put_now CL.out PU.out.1 EM.out] at PT
       have PTH := h_ PT
       clear PT
       obtain ⟨z0, z1, z2, z3, z4, z5, z6⟩ := evCells (HA.out.chg (C3.out.trans PC.out) (by simp)) EX.out
       go_wp2_with fail
       refine PTH.out.mono ?_
       rintro r p2 ⟨A2, c2, y2, rfl, he, hc⟩
       clear PTH z0 z1 z2 z3 z4 z5 z6
       have NW : Hid (EsF p2 (g8 + 1) p2.heap.size A2 c2 y2 ((X ++ [e]).foldl putS [])) := h_ (he.low GL.out)
       replace FS := h_ (FS.out.go hc (by simp))
       replace FT := h_ (FT.out.go hc (by simp))
       replace AR := h_ (AR.out.chg hc)
       replace PC := h_ (PC.out.trans hc)
       replace GL := h_ (Nat.lt_of_lt_of_le GL.out hc.size)
       clear he hc FS
       have FS := NW
       clear NW
       replace PU := h_ (PU.out.x EM.out)
       replace AG := h_ (AG.out.moreX e)
       have u0 := BB.out _ PC.out
       have v0 := BD.out _ PC.out
       go_wp2; go_round
       case rel => exact ⟨k + 1, (X ++ [e]), Y, ks, A2, c2, y2, At, ct, zt, Ak, ck, by omega, rfl, by first | rfl | simp, by first | rfl | simp, by go_num, PU, FS, FT, AR, AG, PC, GL⟩
       case measure => simp [RowKit.intOf]; omega
      ·
       skip
       have u0 := BB.out _ PC.out
       have v0 := BD.out _ PC.out
       go_upto_region 10 with fail
       clear u0 v0
       have PT := stput_any wr As cs zs (X.foldl putS []) x e FS.out.row.reads FS.out.row.cap (.inr FS.out.row.lt_) FS.out.all.ev (by have a := FS.out.all.ev.1; have b := foldS_len X []; have := PU.out; unfold PartU at this; have := LN.out; simp at b; omega) (fun f hf => (foldS_in X [] f hf).elim (fun q => by cases q) (fun q => SM.out f (PU.out.1 f q))) (RX.out.chg PC.out) (SM.out e EM.out)
       rw [put_now CL.out PU.out.1 EM.out] at PT
       have PTH := h_ PT
       clear PT
       obtain ⟨z0, z1, z2, z3, z4, z5, z6⟩ := evCells (HA.out.chg (C3.out.trans PC.out) (by simp)) EX.out
       go_wp2_with fail
       refine PTH.out.mono ?_
       rintro r p3 ⟨A3, c3, y3, rfl, he, hc⟩
       clear PTH z0 z1 z2 z3 z4 z5 z6
       have NW : Hid (EsF p3 (g8 + 1) p3.heap.size A3 c3 y3 ((X ++ [e]).foldl putS [])) := h_ (he.low GL.out)
       replace FS := h_ (FS.out.go hc (by simp))
       replace FT := h_ (FT.out.go hc (by simp))
       replace AR := h_ (AR.out.chg hc)
       replace PC := h_ (PC.out.trans hc)
       replace GL := h_ (Nat.lt_of_lt_of_le GL.out hc.size)
       clear he hc FS
       have FS := NW
       clear NW
       replace PU := h_ (PU.out.x EM.out)
       replace AG := h_ (AG.out.moreX e)
       have u0 := BB.out _ PC.out
       have v0 := BD.out _ PC.out
       go_upto_region 12 with fail
       clear u0 v0
       have YK := h_ YK0.out
       have PT := stput_any p3 At ct zt (Y.foldl putS []) x e FT.out.row.reads FT.out.row.cap (.inr FT.out.row.lt_) FT.out.all.ev (by have a := FT.out.all.ev.1; have b := foldS_len Y []; have := PU.out; unfold PartU at this; have := LN.out; simp at b; omega) (fun f hf => (foldS_in Y [] f hf).elim (fun q => by cases q) (fun q => SM.out f (PU.out.2.1 f q))) (RX.out.chg PC.out) (SM.out e EM.out)
       rw [put_now CL.out PU.out.2.1 EM.out] at PT
       have PTH := h_ PT
       clear PT
       obtain ⟨z0, z1, z2, z3, z4, z5, z6⟩ := evCells (HA.out.chg (C3.out.trans PC.out) (by simp)) EX.out
       go_wp2_with fail
       refine PTH.out.mono ?_
       rintro r p4 ⟨A4, c4, y4, rfl, he, hc⟩
       clear PTH z0 z1 z2 z3 z4 z5 z6
       have NW : Hid (EsF p4 (g8 + 1) p4.heap.size A4 c4 y4 ((Y ++ [e]).foldl putS [])) := h_ (he.low GL.out)
       replace FS := h_ (FS.out.go hc (by simp))
       replace FT := h_ (FT.out.go hc (by simp))
       replace AR := h_ (AR.out.chg hc)
       replace PC := h_ (PC.out.trans hc)
       replace GL := h_ (Nat.lt_of_lt_of_le GL.out hc.size)
       clear he hc FT
       have FT := NW
       clear NW
       have KSL : Hid (ks.length ≤ 1000) := h_ (by have a := AG.out.len; have b := PU.out.2.2.2; have := LN.out; have := KL.out; simp at a; omega)
       obtain ⟨kn, LE, AGN⟩ := AG.out.moreY (e := e) (by have := PU.out; unfold PartU at this; have := LN.out; omega) (cl_chk CL.out EM.out)
       have AGH := h_ AGN
       have LEH := h_ LE
       clear LE AGN AG
       go_upto_region 14 with fail
       obtain ⟨wq, hwq⟩ : ∃ q, p4 = q := ⟨_, rfl⟩
       have C : Hid (Chg [] p4 wq) := h_ (hwq ▸ Chg.refl [] _)
       have DX : Hid (∀ w', Chg [g8] wq w' → w'.cell? ⟨g3, o3 + k * 7, none⟩ = some (.int .i64 x.n) ∧ w'.cell? ⟨g3, o3 + k * 7 + 1, none⟩ = some (.int .i64 x.s)) := h_ (fun w' hc => by
        have q := evCells ((HA.out.chg (C3.out.trans (PC.out.trans C.out)) (by simp)).chg hc (fun a ha => by cases ha; have := HA.out.old; have := S34.out; have s0 := C3.out.size; have := GS.out; simp; omega)) EX.out
        exact ⟨q.1, q.2.1⟩)
       replace FS := h_ (FS.out.go C.out (by simp))
       replace FT := h_ (FT.out.go C.out (by simp))
       replace AR := h_ (AR.out.chg C.out)
       replace PC := h_ (PC.out.trans C.out)
       replace GL := h_ (Nat.lt_of_lt_of_le GL.out C.out.size)
       rw [hwq]
       clear hwq C
       obtain ⟨wc, hwc⟩ : ∃ q, wq = q := ⟨_, rfl⟩
       have C : Hid (Chg [g8] wq wc) := h_ (hwc ▸ Chg.refl _ _)
       have AC : Hid (ArcB wc g8 Ak ck ks) := h_ (hwc ▸ AR.out)
       rw [hwc]
       clear hwc
       refine wp_region_held_drew (S := fun w' => w'.cell? ⟨g3, o3 + k * 7, none⟩ = some (.int .i64 x.n) ∧ w'.cell? ⟨g3, o3 + k * 7 + 1, none⟩ = some (.int .i64 x.s)) (by kernel_rfl) (DX.out _ (C.out.trans ((Chg.refl [] wc).drew.mono (by simp)))) (fun hHeld => ?_)
       replace AC := h_ (AC.out.chg (Chg.refl [] wc).drew)
       replace C := h_ (C.out.trans ((Chg.refl [] wc).drew.mono (by simp)))
       obtain ⟨wc, hwc⟩ : ∃ q, wc.drew = q := ⟨_, rfl⟩
       rw [hwc] at AC C hHeld ⊢
       clear hwc; refine sy 1 93 rfl rfl ?_; try simp only [Act.put, sA, s0, s1]
       refine sy 2 94 rfl rfl ?_; try simp only [Act.put, sA, s0, s1]
       refine sy 3 95 rfl rfl ?_; try simp only [Act.put, sA, s0, s1]
       refine sy 4 96 rfl rfl ?_; try simp only [Act.put, sA, s0, s1]
       refine sy 5 97 rfl rfl ?_ (hy := by (intro w hSw; (try dsimp only at hSw); obtain ⟨q0, q1⟩ := hSw; go_simp; try with_reducible rfl))
       try simp only [Act.put, sA, s0, s1]
       refine on1 0 rfl (fun K hK => ?_)
       obtain ⟨a0, a1⟩ := ce2 AC.out.box
       go_simp; clear a0 a1
       refine hK.out _ _ hHeld (fun hHeld => ?_)
       clear hK K; try simp only [Act.put, sA, s0, s1]
       refine on1 6 rfl (fun K hK => ?_)
       have LR := edlearn_any wc 7 Ak ck ks x.n x.s AC.out.rd AC.out.cap AC.out.old (by have := KSL.out; omega)
       rw [RX.out.n, RX.out.s, LEH.out] at LR
       have LRH := h_ LR
       clear LR; go_simp
       try rw [RX.out.n, RX.out.s]
       refine LRH.out.mono ?_
       rintro r wc ⟨A9, c9, rfl, ho, hA, hc⟩
       clear LRH
       have O9 := h_ ho
       have N9 : Hid (∀ a, A9 = some a → a.block ≠ g8) := h_ (fun a ha => by have := hA a ha; have := lt_of_heap AC.out.box; omega)
       replace AC := h_ (AC.out.chg hc)
       replace C := h_ (C.out.trans (hc.mono (by simp)))
       clear ho hA hc
       refine hK.out _ _ (DX.out _ C.out) (fun hHeld => ?_)
       clear hK K; try simp only [Act.put, sA, s0, s1]
       refine sy 7 91 rfl rfl ?_; try simp only [Act.put, sA, s0, s1]
       refine sy 8 99 rfl rfl ?_; try simp only [Act.put, sA, s0, s1]
       refine sy 9 100 rfl rfl ?_; try simp only [Act.put, sA, s0, s1]
       refine on1 10 rfl (fun K hK => ?_)
       have a0 := cell_of AC.out.box 0
       have a1 := cell_of AC.out.box 1
       have f0 := free_of AC.out.box 0
       have f1 := free_of AC.out.box 1
       simp only [gA, gY, gZ] at a0 a1
       go_simp; clear a0 a1 f0 f1
       obtain ⟨ar, cw⟩ := arcW AC.out.box O9.out N9.out
       have AC9 := h_ ar
       have CW := h_ cw
       clear ar cw
       replace C := h_ (C.out.trans CW.out)
       generalize (wc.setCell ⟨g8, 0, none⟩ (.int .i64 7)).setCell ⟨g8, 1, none⟩ (.slice A9 kn.length c9) = wc at *
       refine hK.out _ _ (DX.out _ C.out) (fun hHeld => ?_)
       clear hK K; try simp only [Act.put, sA, s0, s1]
       refine sy 11 9 rfl rfl ?_; try simp only [Act.put, sA, s0, s1]
       refine wpAnyH_done (by kernel_rfl) ?_ _; clear hHeld DX AC
       replace FS := h_ (FS.out.go C.out (by simp))
       replace FT := h_ (FT.out.go C.out (by simp))
       replace GL := h_ (Nat.lt_of_lt_of_le GL.out C.out.size)
       replace PC := h_ (PC.out.trans' C.out (fun i hi => .inr (by simp at hi; rw [hi]; exact S34.out)))
       have AR := AC9
       have AG := AGH
       replace PU := h_ (PU.out.y YK.out EM.out)
       go_wp2; go_round
       case rel => exact ⟨k + 1, (X ++ [e]), (Y ++ [e]), kn, A3, c3, y3, A4, c4, y4, A9, c9, by omega, rfl, by first | rfl | simp, by first | rfl | simp, by go_num, PU, FS, FT, AR, AG, PC, GL⟩
       case measure => simp [RowKit.intOf]; omega
     ·
      skip
      have Q1 : ¬ (k : Int) < (ds.length : Int) := by omega
      have Q2 : decide ((k : Int) < (ds.length : Int)) = false := decide_eq_false (by omega)
      have Q3 : decide (k < ds.length) = false := decide_eq_false (by omega)
      have u0 := BB.out _ PC.out
      go_upto_region 10 with fail
      clear u0
      have PT := stput_any wr As cs zs (X.foldl putS []) x e FS.out.row.reads FS.out.row.cap (.inr FS.out.row.lt_) FS.out.all.ev (by have a := FS.out.all.ev.1; have b := foldS_len X []; have := PU.out; unfold PartU at this; have := LN.out; simp at b; omega) (fun f hf => (foldS_in X [] f hf).elim (fun q => by cases q) (fun q => SM.out f (PU.out.1 f q))) (RX.out.chg PC.out) (SM.out e EM.out)
      rw [put_now CL.out PU.out.1 EM.out] at PT
      have PTH := h_ PT
      clear PT
      obtain ⟨z0, z1, z2, z3, z4, z5, z6⟩ := evCells (HA.out.chg (C3.out.trans PC.out) (by simp)) EX.out
      go_wp2_with fail
      refine PTH.out.mono ?_
      rintro r p5 ⟨A5, c5, y5, rfl, he, hc⟩
      clear PTH z0 z1 z2 z3 z4 z5 z6
      have NW : Hid (EsF p5 (g8 + 1) p5.heap.size A5 c5 y5 ((X ++ [e]).foldl putS [])) := h_ (he.low GL.out)
      replace FS := h_ (FS.out.go hc (by simp))
      replace FT := h_ (FT.out.go hc (by simp))
      replace AR := h_ (AR.out.chg hc)
      replace PC := h_ (PC.out.trans hc)
      replace GL := h_ (Nat.lt_of_lt_of_le GL.out hc.size)
      clear he hc FS
      have FS := NW
      clear NW
      replace PU := h_ (PU.out.x EM.out)
      replace AG := h_ (AG.out.moreX e)
      have u0 := BB.out _ PC.out
      go_wp2; go_round
      case rel => exact ⟨k + 1, (X ++ [e]), Y, ks, A5, c5, y5, At, ct, zt, Ak, ck, by omega, rfl, by first | rfl | simp, by first | rfl | simp, by go_num, PU, FS, FT, AR, AG, PC, GL⟩
      case measure => simp [RowKit.intOf]; omega
   ·
    skip
    have P1 : ¬ (k : Int) < (bs.length : Int) := by omega
    have P2 : decide ((k : Int) < (bs.length : Int)) = false := decide_eq_false (by omega)
    have P3 : decide (k < bs.length) = false := decide_eq_false (by omega)
    by_cases hQ : k < ds.length
    ·
     skip
     have Q1 : (k : Int) < (ds.length : Int) := by omega
     have Q2 : decide ((k : Int) < (ds.length : Int)) = true := decide_eq_true (by omega)
     have Q3 : decide (k < ds.length) = true := decide_eq_true (by omega)
     obtain ⟨gd, od, eQ, _⟩ := HD.out.line (by omega)
     subst eQ
     obtain ⟨q, hq⟩ : ∃ q, ds[k]? = some q := ⟨_, List.getElem?_eq_getElem hQ⟩
     have BD : Hid (∀ w', Chg [] w3 w' → w'.cell? ⟨gd, od + k, none⟩ = some (.bool q)) := h_ (fun w' hc => boolCells (HD.out.chg (C3.out.trans hc) (by simp)) hq)
     clear hq
     rcases q with _ | _
     ·
      skip
      have v0 := BD.out _ PC.out
      replace PU := h_ PU.out.s
      go_wp2; go_round
      case rel => exact ⟨k + 1, X, Y, ks, As, cs, zs, At, ct, zt, Ak, ck, by omega, rfl, by first | rfl | simp, by first | rfl | simp, by go_num, PU, FS, FT, AR, AG, PC, GL⟩
      case measure => simp [RowKit.intOf]; omega
     ·
      skip
      have v0 := BD.out _ PC.out
      replace PU := h_ PU.out.s
      go_upto_region 12 with fail
      clear v0
      have YK := h_ YK0.out
      have PT := stput_any wr At ct zt (Y.foldl putS []) x e FT.out.row.reads FT.out.row.cap (.inr FT.out.row.lt_) FT.out.all.ev (by have a := FT.out.all.ev.1; have b := foldS_len Y []; have := PU.out; unfold PartU at this; have := LN.out; simp at b; omega) (fun f hf => (foldS_in Y [] f hf).elim (fun q => by cases q) (fun q => SM.out f (PU.out.2.1 f q))) (RX.out.chg PC.out) (SM.out e EM.out)
      rw [put_now CL.out PU.out.2.1 EM.out] at PT
      have PTH := h_ PT
      clear PT
      obtain ⟨z0, z1, z2, z3, z4, z5, z6⟩ := evCells (HA.out.chg (C3.out.trans PC.out) (by simp)) EX.out
      go_wp2_with fail
      refine PTH.out.mono ?_
      rintro r p6 ⟨A6, c6, y6, rfl, he, hc⟩
      clear PTH z0 z1 z2 z3 z4 z5 z6
      have NW : Hid (EsF p6 (g8 + 1) p6.heap.size A6 c6 y6 ((Y ++ [e]).foldl putS [])) := h_ (he.low GL.out)
      replace FS := h_ (FS.out.go hc (by simp))
      replace FT := h_ (FT.out.go hc (by simp))
      replace AR := h_ (AR.out.chg hc)
      replace PC := h_ (PC.out.trans hc)
      replace GL := h_ (Nat.lt_of_lt_of_le GL.out hc.size)
      clear he hc FT
      have FT := NW
      clear NW
      have KSL : Hid (ks.length ≤ 1000) := h_ (by have a := AG.out.len; have b := PU.out.2.2.2; have := LN.out; have := KL.out; simp at a; omega)
      obtain ⟨kn, LE, AGN⟩ := AG.out.moreY (e := e) (by have := PU.out; unfold PartU at this; have := LN.out; omega) (cl_chk CL.out EM.out)
      have AGH := h_ AGN
      have LEH := h_ LE
      clear LE AGN AG
      go_upto_region 14 with fail
      obtain ⟨wq, hwq⟩ : ∃ q, p6 = q := ⟨_, rfl⟩
      have C : Hid (Chg [] p6 wq) := h_ (hwq ▸ Chg.refl [] _)
      have DX : Hid (∀ w', Chg [g8] wq w' → w'.cell? ⟨g3, o3 + k * 7, none⟩ = some (.int .i64 x.n) ∧ w'.cell? ⟨g3, o3 + k * 7 + 1, none⟩ = some (.int .i64 x.s)) := h_ (fun w' hc => by
       have q := evCells ((HA.out.chg (C3.out.trans (PC.out.trans C.out)) (by simp)).chg hc (fun a ha => by cases ha; have := HA.out.old; have := S34.out; have s0 := C3.out.size; have := GS.out; simp; omega)) EX.out
       exact ⟨q.1, q.2.1⟩)
      replace FS := h_ (FS.out.go C.out (by simp))
      replace FT := h_ (FT.out.go C.out (by simp))
      replace AR := h_ (AR.out.chg C.out)
      replace PC := h_ (PC.out.trans C.out)
      replace GL := h_ (Nat.lt_of_lt_of_le GL.out C.out.size)
      rw [hwq]
      clear hwq C
      obtain ⟨wc, hwc⟩ : ∃ q, wq = q := ⟨_, rfl⟩
      have C : Hid (Chg [g8] wq wc) := h_ (hwc ▸ Chg.refl _ _)
      have AC : Hid (ArcB wc g8 Ak ck ks) := h_ (hwc ▸ AR.out)
      rw [hwc]
      clear hwc
      refine wp_region_held_drew (S := fun w' => w'.cell? ⟨g3, o3 + k * 7, none⟩ = some (.int .i64 x.n) ∧ w'.cell? ⟨g3, o3 + k * 7 + 1, none⟩ = some (.int .i64 x.s)) (by kernel_rfl) (DX.out _ (C.out.trans ((Chg.refl [] wc).drew.mono (by simp)))) (fun hHeld => ?_)
      replace AC := h_ (AC.out.chg (Chg.refl [] wc).drew)
      replace C := h_ (C.out.trans ((Chg.refl [] wc).drew.mono (by simp)))
      obtain ⟨wc, hwc⟩ : ∃ q, wc.drew = q := ⟨_, rfl⟩
      rw [hwc] at AC C hHeld ⊢
      clear hwc; refine sy 1 93 rfl rfl ?_; try simp only [Act.put, sA, s0, s1]
      refine sy 2 94 rfl rfl ?_; try simp only [Act.put, sA, s0, s1]
      refine sy 3 95 rfl rfl ?_; try simp only [Act.put, sA, s0, s1]
      refine sy 4 96 rfl rfl ?_; try simp only [Act.put, sA, s0, s1]
      refine sy 5 97 rfl rfl ?_ (hy := by (intro w hSw; (try dsimp only at hSw); obtain ⟨q0, q1⟩ := hSw; go_simp; try with_reducible rfl))
      try simp only [Act.put, sA, s0, s1]
      refine on1 0 rfl (fun K hK => ?_)
      obtain ⟨a0, a1⟩ := ce2 AC.out.box
      go_simp; clear a0 a1
      refine hK.out _ _ hHeld (fun hHeld => ?_)
      clear hK K; try simp only [Act.put, sA, s0, s1]
      refine on1 6 rfl (fun K hK => ?_)
      have LR := edlearn_any wc 7 Ak ck ks x.n x.s AC.out.rd AC.out.cap AC.out.old (by have := KSL.out; omega)
      rw [RX.out.n, RX.out.s, LEH.out] at LR
      have LRH := h_ LR
      clear LR; go_simp
      try rw [RX.out.n, RX.out.s]
      refine LRH.out.mono ?_
      rintro r wc ⟨A9, c9, rfl, ho, hA, hc⟩
      clear LRH
      have O9 := h_ ho
      have N9 : Hid (∀ a, A9 = some a → a.block ≠ g8) := h_ (fun a ha => by have := hA a ha; have := lt_of_heap AC.out.box; omega)
      replace AC := h_ (AC.out.chg hc)
      replace C := h_ (C.out.trans (hc.mono (by simp)))
      clear ho hA hc
      refine hK.out _ _ (DX.out _ C.out) (fun hHeld => ?_)
      clear hK K; try simp only [Act.put, sA, s0, s1]
      refine sy 7 91 rfl rfl ?_; try simp only [Act.put, sA, s0, s1]
      refine sy 8 99 rfl rfl ?_; try simp only [Act.put, sA, s0, s1]
      refine sy 9 100 rfl rfl ?_; try simp only [Act.put, sA, s0, s1]
      refine on1 10 rfl (fun K hK => ?_)
      have a0 := cell_of AC.out.box 0
      have a1 := cell_of AC.out.box 1
      have f0 := free_of AC.out.box 0
      have f1 := free_of AC.out.box 1
      simp only [gA, gY, gZ] at a0 a1
      go_simp; clear a0 a1 f0 f1
      obtain ⟨ar, cw⟩ := arcW AC.out.box O9.out N9.out
      have AC9 := h_ ar
      have CW := h_ cw
      clear ar cw
      replace C := h_ (C.out.trans CW.out)
      generalize (wc.setCell ⟨g8, 0, none⟩ (.int .i64 7)).setCell ⟨g8, 1, none⟩ (.slice A9 kn.length c9) = wc at *
      refine hK.out _ _ (DX.out _ C.out) (fun hHeld => ?_)
      clear hK K; try simp only [Act.put, sA, s0, s1]
      refine sy 11 9 rfl rfl ?_; try simp only [Act.put, sA, s0, s1]
      refine wpAnyH_done (by kernel_rfl) ?_ _; clear hHeld DX AC
      replace FS := h_ (FS.out.go C.out (by simp))
      replace FT := h_ (FT.out.go C.out (by simp))
      replace GL := h_ (Nat.lt_of_lt_of_le GL.out C.out.size)
      replace PC := h_ (PC.out.trans' C.out (fun i hi => .inr (by simp at hi; rw [hi]; exact S34.out)))
      have AR := AC9
      have AG := AGH
      replace PU := h_ (PU.out.y YK.out EM.out)
      go_wp2; go_round
      case rel => exact ⟨k + 1, X, (Y ++ [e]), kn, As, cs, zs, A6, c6, y6, A9, c9, by omega, rfl, by first | rfl | simp, by first | rfl | simp, by go_num, PU, FS, FT, AR, AG, PC, GL⟩
      case measure => simp [RowKit.intOf]; omega
    ·
     skip
     have Q1 : ¬ (k : Int) < (ds.length : Int) := by omega
     have Q2 : decide ((k : Int) < (ds.length : Int)) = false := decide_eq_false (by omega)
     have Q3 : decide (k < ds.length) = false := decide_eq_false (by omega)
     replace PU := h_ PU.out.s
     go_wp2; go_round
     case rel => exact ⟨k + 1, X, Y, ks, As, cs, zs, At, ct, zt, Ak, ck, by omega, rfl, by first | rfl | simp, by first | rfl | simp, by go_num, PU, FS, FT, AR, AG, PC, GL⟩
     case measure => simp [RowKit.intOf]; omega
  ·
   obtain rfl : k = xs.length := by omega
   have j1 : ¬ (xs.length : Int) < (xs.length : Int) := by omega
   have XU : Hid (∀ x ∈ X, x ∈ es) := h_ PU.out.1
   have YU : Hid (∀ x ∈ Y, x ∈ es) := h_ PU.out.2.1
   have XYL : Hid (X.length ≤ 14 ∧ Y.length ≤ 14 ∧ X.length ≤ xs.length) := h_ (by have a := PU.out.2.2.1; have b := PU.out.2.2.2; have := LN.out; omega)
   have SX : Hid (∀ e ∈ X.foldl putS [], EvSm e ∧ e.q.length ≤ 100000) := h_ (fun f hf => (foldS_in X [] f hf).elim (fun q => by cases q) (fun q => SM.out f (XU.out f q)))
   have SY : Hid (∀ e ∈ Y.foldl putS [], EvSm e ∧ e.q.length ≤ 100000) := h_ (fun f hf => (foldS_in Y [] f hf).elim (fun q => by cases q) (fun q => SM.out f (YU.out f q)))
   have ZL : Hid (zs.length ≤ 14 ∧ zt.length ≤ 14 ∧ (X.foldl putS []).length ≤ xs.length) := h_ (by have a := FS.out.all.ev.1; have b := FT.out.all.ev.1; have p := foldS_len X []; have q := foldS_len Y []; have := XYL.out; simp at p q; omega)
   have JN := stjoin_any wr As At cs ct zs zt _ _ FS.out.row.reads FT.out.row.reads ⟨FS.out.row.cap, FT.out.row.cap.1⟩ ⟨.inr FS.out.row.lt_, .inr FT.out.row.lt_⟩ FS.out.all.ev FT.out.all.ev (by have := ZL.out; omega) SX.out SY.out
   have JE := h_ (st_join_all CL.out XU.out YU.out (fun x => (List.mem_append (s := X) (t := Y))))
   rw [JE.out] at JN
   have JNH := h_ JN
   clear JN hlt hk; go_wp2_with fail
   refine JNH.out.mono ?_
   rintro r w6 ⟨Aa, ca, za, rfl, he, hc⟩
   clear JNH
   have FA : Hid (EsF w6 (g8 + 1) w6.heap.size Aa ca za ((X ++ Y).foldl putS [])) := h_ (he.low GL.out)
   replace FS := h_ (FS.out.go hc (by simp))
   replace FT := h_ (FT.out.go hc (by simp))
   replace AR := h_ (AR.out.chg hc)
   replace GL := h_ (Nat.lt_of_lt_of_le GL.out hc.size)
   have C6 : Hid (Chg [] w w6) := h_ (C3.out.trans (PC.out.trans hc))
   have G8 : Hid (w.heap.size ≤ g8) := h_ (by have := S34.out; have := C3.out.size; omega)
   clear he hc PC
   obtain ⟨s, hs⟩ : ∃ s, X.foldl putS [] = s := ⟨_, rfl⟩
   obtain ⟨t0, ht0⟩ : ∃ t, Y.foldl putS [] = t := ⟨_, rfl⟩
   rw [hs] at FS AG SX ZL JE
   rw [ht0] at FT AG SY JE
   have HS0 := h_ hs
   have HT0 := h_ ht0
   clear hs ht0
   have MS : Hid ((s.filter (fun e => !hasE ks e.n e.s)).length ≤ xs.length) := h_ (Nat.le_trans (List.length_filter_le _ _) ZL.out.2.2)
   go_upto_region 18 with fail
   go_upto_region 19 with fail
   go_wp2
   go_loopw [11, 15, 16] (fun v11 v15 v16 wr => ∃ (i n : Nat) (sent t : List EvP) (ks : List Sp) (At : Option Addr) (ct : Nat) (zt : List EvT) (Ak : Option Addr) (ck : Nat) (Ad : Option Addr) (cd lt : Nat), i ≤ xs.length ∧ v16 = .int .i64 (i : Int) ∧ v11 = .slice At zt.length ct ∧ v15 = .slice Ad n cd ∧ Hid ((dotsE sent).length = n) ∧ Hid (OwnK dotTy wr Ad cd (dotsE sent) ∧ ∀ a, Ad = some a → w6.heap.size ≤ a.block ∧ a.block < lt ∧ ∀ b, Ak = some b → a.block ≠ b.block) ∧ Hid (EsF wr lt wr.heap.size At ct zt t) ∧ Hid (g8 < lt) ∧ Hid (ArcB wr g8 Ak ck ks) ∧ Hid (AgI es X Y s t ks sent) ∧ Hid ((s.filter (fun e => !hasE ks e.n e.s)).length + i ≤ xs.length ∧ sent.length ≤ i) ∧ Hid (∀ e ∈ t, EvSm e ∧ e.q.length ≤ 100000) ∧ Hid (t.length ≤ 14 + i) ∧ Hid (Chg [g8] w6 wr)) (fun _ _ v16 _ => xs.length + 1 - (RowKit.intOf v16).toNat)
   case atStart => exact ⟨0, 0, [], t0, ks, At, ct, zt, Ak, ck, none, 0, g8 + 1, Nat.zero_le _, rfl, rfl, rfl, h_ rfl, h_ ⟨OwnK.none_ _, by simp⟩, FT, h_ (by omega), AR, AG, h_ ⟨by have := MS.out; omega, Nat.le_refl _⟩, SY, h_ (by have a := FT.out.all.ev.1; have := ZL.out; omega), Chg.refl _ _⟩
   case round =>
    clear FT AR AG MS SY
    obtain ⟨i, n, sent, t, ks, At, ct, zt, Ak, ck, Ad, cd, lt, hi, rfl, rfl, rfl, ND, OD, FT, GT, AR, AG, MI, ST, TL, PC⟩ := hrel
    have i0 : (0 : Int) ≤ (i : Int) := by omega
    have i1 : (i : Int) ≤ (xs.length : Int) := by omega
    have i3 : IntKind.i64.wrap ((i : Int) + 1) = (i : Int) + 1 := IntWalk.i64_in _ (by have := LN.out; omega)
    have IL := h_ hi
    have FS1 := h_ (FS.out.go PC.out (by simp))
    have FA1 := h_ (FA.out.go PC.out (by simp))
    have KSL : Hid (ks.length ≤ 1000) := h_ (by have a := AG.out.len; have b := XYL.out; have := MI.out; have := LN.out; omega)
    have NX := ednext_any wr As cs zs s 7 Ak ck ks FS1.out.row.reads FS1.out.row.cap.1 (.inr FS1.out.row.lt_) FS1.out.all.ev (by have := ZL.out; omega) SX.out AR.out.rd (by have := KSL.out; omega) none 0 [] (RdK.nil _ _) (by simp)
    rw [AG.out.first CL.out XU.out] at NX
    have NF := h_ (next_first (s.filter (fun e => !hasE ks e.n e.s)))
    obtain ⟨V, hV⟩ : ∃ V, nextA (byDt (s.filter (fun e => !hasE ks e.n e.s))) [] = V := ⟨_, rfl⟩
    rw [hV] at NX NF
    have NXH := h_ NX
    clear NX hV hi
    obtain ⟨a0, a1⟩ := ce2 AR.out.box
    go_wp2_with fail
    refine NXH.out.mono ?_
    rintro r w7 ⟨x, e, rfl, hx, he, hxn, hc⟩
    have XN : Hid (∀ z ∈ blkOf Ad, ∀ a, (x.A = some a ∨ x.B = some a) → a.block ≠ z) := h_ (fun z hz a ha => by obtain ⟨y, hy, rfl⟩ := of_blkOf hz; have := hxn a ha; have := OD.out.1.lt_ y hy; omega)
    clear hxn
    have RX := h_ hx
    have HE := h_ he
    replace PC := h_ (PC.out.trans (hc.mono (by simp)))
    replace FT := h_ (FT.out.go hc (by simp))
    replace AR := h_ (AR.out.chg hc)
    replace OD := h_ (And.intro (OD.out.1.chg hc (by simp)) OD.out.2)
    have NG9 : Hid (w7.heap.size ∉ blkOf Ad) := h_ (fun hz => by obtain ⟨y, hy, q⟩ := of_blkOf hz; have := OD.out.1.lt_ y hy; omega)
    have GL7 : Hid (g8 < w7.heap.size) := h_ (lt_of_heap AR.out.box)
    clear hx he hc NXH a0 a1 FS1 FA1
    obtain ⟨w8, hw8, c8, b8⟩ := news1 w7 (.cells #[.int .i64 x.n, .int .i64 x.s, .string x.p, .int .i64 x.k, .int .i64 x.m, .slice x.A x.l x.c, .slice x.B x.bl x.bc] 40)
    have W8 := h_ hw8
    have B8 := h_ b8
    replace PC := h_ (PC.out.trans (c8.mono (by simp)))
    replace FT := h_ (FT.out.go c8 (by simp))
    replace AR := h_ (AR.out.chg c8)
    replace RX := h_ (RX.out.chg c8)
    replace OD := h_ (And.intro (OD.out.1.chg c8 (by simp)) OD.out.2)
    clear hw8 c8 b8
    go_upto_region 23 with fail
    rw [← W8.out]
    obtain ⟨g9, hg9⟩ : ∃ g, w7.heap.size = g := ⟨_, rfl⟩
    rw [hg9] at B8 GL7 NG9 ⊢
    clear W8 hg9
    rcases NF.out with ⟨fl0, rfl⟩ | ⟨e', em, rfl⟩
    ·
     have DN := h_ (AG.out.done CL.out XU.out YU.out fl0)
     have TT : Hid (t = (X ++ Y).foldl putS []) := h_ (by have a := DN.out.2; rw [HT0.out, JE.out] at a; exact (congrArg Prod.snd a).symm)
     have FS1 := h_ (FS.out.go PC.out (by simp))
     have FA1 := h_ (FA.out.go PC.out (by simp))
     have AGR := edagreed_any w8 As cs zs s 7 Ak ck ks FS1.out.row.reads FS1.out.row.cap.1 (.inr FS1.out.row.lt_) FS1.out.all.ev (by have := ZL.out; omega) SX.out AR.out.rd (by have := KSL.out; omega)
     rw [DN.out.1] at AGR
     have AGH := h_ AGR
     have SMV : Hid (∀ w', Chg [] w8 w' → Calls Tryz.prog 10 #[.slice At zt.length ct, .slice Aa za.length ca] w' fun r w2 => r = .returned (.bool true) ∧ Chg [] w' w2) := h_ (fun w' hc => by
      have q := sameevs_any w' At Aa ct ca zt za t t (FT.out.go hc (by simp)).row.reads (FA1.out.go hc (by simp)).row.reads (FT.out.go hc (by simp)).all.ev (by have z := (FA1.out.go hc (by simp)).all.ev; rw [← TT.out] at z; exact z) ⟨by have a := FT.out.all.ev.1; have := TL.out; have := LN.out; have := IL.out; omega, by have a := FA1.out.all.ev.1; rw [← TT.out] at a; have := TL.out; have := LN.out; have := IL.out; omega⟩ ⟨fun e he => by have := (ST.out e he).2; omega, fun e he => by have := (ST.out e he).2; omega⟩
      rw [sameL_refl] at q
      exact q)
     clear AGR fl0 NF HE
     obtain ⟨a0, a1⟩ := ce2 AR.out.box
     go_wp2_with fail
     refine AGH.out.mono ?_
     rintro r w9 ⟨rfl, hc⟩
     replace PC := h_ (PC.out.trans (hc.mono (by simp)))
     have D9 := h_ hc
     clear hc AGH a0 a1; go_wp2_with fail
     refine (SMV.out w9 D9.out).mono ?_
     rintro r w10 ⟨rfl, hc⟩
     replace PC := h_ (PC.out.trans (hc.mono (by simp)))
     clear hc SMV
     have CF : Hid (Chg [] w w10) := h_ (C6.out.trans' PC.out (fun i hi => .inr (by simp at hi; rw [hi]; exact G8.out)))
     go_wp2; go_ret
     first | exact ⟨rfl, CF.out⟩ | exact CF.out
    obtain rfl : e = e' := HE.out
    obtain ⟨kn, pu, le, agn, nos, less⟩ := AG.out.next CL.out XU.out YU.out em (by have := MI.out; have := XYL.out; have := LN.out; omega)
    have XM : Hid (e ∈ es) := h_ (XU.out e (here_in CL.out XU.out AG.out.here e (List.mem_filter.1 em).1))
    have PUH := h_ pu
    have LEH := h_ le
    have AGN := h_ agn
    have NOS := h_ nos
    have MI1 : Hid ((s.filter (fun e => !hasE kn e.n e.s)).length + (i + 1) ≤ xs.length ∧ (sent ++ [e]).length ≤ i + 1) := h_ (by have := MI.out; simp; omega)
    have ILT : Hid (i + 1 ≤ xs.length) := h_ (by have := MI.out; omega)
    have NN : Hid (n ≤ 100) := h_ (by have a := ND.out; have := MI.out; have := LN.out; unfold dotsE at a; rw [List.length_map] at a; omega)
    have ST1 : Hid (∀ f ∈ putS t e, EvSm f ∧ f.q.length ≤ 100000) := h_ (fun f hf => (putS_in hf).elim (fun q => by rw [q]; exact SM.out e XM.out) (ST.out f))
    clear pu le agn nos less em NF HE AG MI
    go_upto_region 24 with fail
    generalize wr = w1x at *
    clear wr; go_wp2
    go_loopw [19] (fun v19 wr => ∃ (j : Nat), j ≤ n ∧ v19 = .int .i64 (j : Int) ∧ Hid (Chg [] w8 wr)) (fun v19 _ => n - (RowKit.intOf v19).toNat)
    case atStart => exact ⟨0, Nat.zero_le _, rfl, Chg.refl _ _⟩
    case round =>
     obtain ⟨j, hj, rfl, QC⟩ := hrel
     have m0 : (0 : Int) ≤ (j : Int) := by omega
     by_cases hjl : j < n
     ·
      have m1 : (j : Int) < (n : Int) := by omega
      have m3 : IntKind.i64.wrap ((j : Int) + 1) = (j : Int) + 1 := IntWalk.i64_in _ (by have := NN.out; omega)
      have RD := OD.out.1.reads
      rw [ND.out] at RD
      obtain ⟨gd, od, eD, _⟩ := RD.line (by omega)
      have ED := h_ eD
      subst eD
      obtain ⟨d, hd⟩ : ∃ d, (dotsE sent)[j]? = some d := ⟨_, List.getElem?_eq_getElem (by have := ND.out; omega)⟩
      obtain ⟨z0, z1⟩ := dotCells (RD.chg QC.out (by simp)) hd
      obtain ⟨y0, y1⟩ := ce2 (QC.out.at_ B8.out (by simp))
      have NE : Hid (d ≠ (e.n, e.s)) := h_ (fun q => NOS.out (q ▸ List.mem_of_getElem? hd))
      rw [RX.out.n] at y0
      rw [RX.out.s] at y1
      clear hd RD
      by_cases q1 : d.1 = e.n
      ·
       have p1 : ((d.1 == e.n) : Bool) = true := by simpa using q1
       have p2 : ((d.2 == e.s) : Bool) = false := by
        have : ¬ d.2 = e.s := fun q2 => NE.out (Prod.ext q1 q2)
        simpa using this
       clear q1
       go_upto_region 27 with fail
       go_quiet (fail)
       have QC9 := h_ (QC.out.drewN nq)
       go_wp2; go_round
       case rel => exact ⟨j + 1, by omega, by go_num, QC9⟩
       case measure => simp [RowKit.intOf]; omega
      ·
       have p1 : ((d.1 == e.n) : Bool) = false := by simpa using q1
       clear q1
       go_upto_region 27 with fail
       go_quiet (fail)
       have QC9 := h_ (QC.out.drewN nq)
       go_wp2; go_round
       case rel => exact ⟨j + 1, by omega, by go_num, QC9⟩
       case measure => simp [RowKit.intOf]; omega
     ·
      obtain rfl : j = n := by omega
      have m1 : ¬ (j : Int) < (j : Int) := by omega
      have B8W := h_ (QC.out.at_ B8.out (by simp))
      have PC6 := PC
      replace PC := h_ (PC.out.trans (QC.out.mono (by simp)))
      replace FT := h_ (FT.out.go QC.out (by simp))
      replace AR := h_ (AR.out.chg QC.out)
      replace RX := h_ (RX.out.chg QC.out)
      have GLW : Hid (g8 < wr.heap.size) := h_ (lt_of_heap AR.out.box)
      obtain ⟨wa, hwa, ca1, ba⟩ := news1 wr (.cells #[.int .i64 x.n, .int .i64 x.s] 35)
      have WA := h_ hwa
      have RXD : Hid (RdK dotTy wa (some ⟨wr.heap.size, 0, none⟩) 1 [(x.n, x.s)]) := h_ ⟨rfl, fun j v hj => ⟨_, rfl, by rw [add_zero_lit, cell_of ba j]; simpa [RowTy.flat, dotTy] using hj⟩⟩
      have ODA := h_ ((OD.out.1.chg QC.out (by simp)).chg ca1 (by simp))
      have LND : Hid ((j + 1) * 400 ≤ 140737488355327) := h_ (by have := NN.out; omega)
      obtain ⟨y0, y1⟩ := ce2 B8W.out
      have CA := h_ ca1
      clear hwa ca1 ba hjl hj B8
      go_upto_region 30 with (at_builtin; rw [← WA.out]; refine wpList_appK (R := dotTy) rfl (.tmp 140) (.tmp 143) rfl rfl ODA.out ND.out rfl RXD.out LND.out ?_; intro A3 c3 w3x o3x g3x e3x)
      have GR : Hid (Chg (blkOf Ad) wa w3x) := h_ ((Chg.refl _ wa).grown g3x (fun i hi => .inl (by rcases Ad with _ | a; (· simp at hi); (· simp at hi; subst hi; simp [blkOf]))))
      have SNB : Hid (∀ z ∈ blkOf Ad, w6.heap.size ≤ z ∧ z < lt ∧ ∀ b, Ak = some b → z ≠ b.block) := h_ (fun z hz => by obtain ⟨y, hy, rfl⟩ := of_blkOf hz; exact OD.out.2 y hy)
      have G86 : Hid (g8 < w6.heap.size) := GL
      replace PC := h_ ((PC.out.trans (CA.out.mono (by simp))).trans' GR.out (fun z hz => .inr (SNB.out z hz).1))
      replace FT := h_ ((FT.out.go CA.out (by simp)).go GR.out (fun z hz => (SNB.out z hz).2.1))
      replace AR := h_ ((AR.out.chg CA.out).chgS GR.out (fun hz => by have := (SNB.out _ hz).1; have := G86.out; omega) (fun b hb hz => (SNB.out _ hz).2.2 b hb rfl))
      replace RX := h_ ((RX.out.chg CA.out).chgS GR.out (fun a ha hz => XN.out _ hz a (.inl ha) rfl) (fun a ha hz => XN.out _ hz a (.inr ha) rfl))
      have B93 := h_ (GR.out.at_ (CA.out.at_ B8W.out (by simp)) NG9.out)
      have DE : Hid (dotsE sent ++ [(x.n, x.s)] = dotsE (sent ++ [e])) := h_ (by unfold dotsE; rw [List.map_append, RX.out.n, RX.out.s]; rfl)
      have O3 := h_ o3x
      have N3 : Hid (∀ a, A3 = some a → w6.heap.size ≤ a.block ∧ a.block < w3x.heap.size) := h_ (fun a ha => ⟨by
       rcases e3x with q | q
       ·
        exact (OD.out.2 a (by rw [← q]; exact ha)).1
       ·
        rw [q] at ha; cases ha; have := CA.out.size; have a1 := PC6.out.size; have a2 := QC.out.size; show _ ≤ wa.heap.size; omega, O3.out.lt_ a ha⟩)
      rw [DE.out] at O3
      have NL3 : Hid ((dotsE (sent ++ [e])).length = j + 1) := h_ (by rw [← DE.out, List.length_append, ND.out]; rfl)
      have W36 : Hid (w6.heap.size ≤ w3x.heap.size) := h_ PC.out.size
      clear o3x g3x e3x GR SNB WA RXD ODA CA B8W OD y0 y1 DE XN NG9 PC6 QC
      have PT := stput_any w3x At ct zt t x e FT.out.row.reads FT.out.row.cap (.inr FT.out.row.lt_) FT.out.all.ev (by have a := FT.out.all.ev.1; have := TL.out; have := IL.out; have := LN.out; omega) ST.out RX.out (SM.out e XM.out)
      rw [PUH.out] at PT
      have PTH := h_ PT
      clear PT
      obtain ⟨y0, y1, y2, y3, y4, y5, y6⟩ := ce7 B93.out
      go_wp2_with fail
      refine PTH.out.mono ?_
      rintro r w10 ⟨A5, c5, z5, rfl, he, hc⟩
      have F5 := h_ he
      replace PC := h_ (PC.out.trans (hc.mono (by simp)))
      replace AR := h_ (AR.out.chg hc)
      have B94 := h_ (hc.at_ B93.out (by simp))
      replace O3 := h_ (O3.out.chg hc (by simp))
      have S310 := h_ hc.size
      clear he hc PTH y0 y1 y2 y3 y4 y5 y6 B93 FT
      have LR := edlearn_any w10 7 Ak ck ks x.n x.s AR.out.rd AR.out.cap AR.out.old (by have := KSL.out; omega)
      rw [RX.out.n, RX.out.s, LEH.out] at LR
      have LRH := h_ LR
      clear LR
      obtain ⟨y0, y1, y2, y3, y4, y5, y6⟩ := ce7 B94.out
      rw [RX.out.n] at y0
      rw [RX.out.s] at y1
      obtain ⟨a0, a1⟩ := ce2 AR.out.box
      go_wp2_with fail
      refine LRH.out.mono ?_
      rintro r w11 ⟨A6, c6, rfl, ho, hA, hc⟩
      have O6 := h_ ho
      have N6 := h_ hA
      replace PC := h_ (PC.out.trans (hc.mono (by simp)))
      replace AR := h_ (AR.out.chg hc)
      replace O3 := h_ (O3.out.chg hc (by simp))
      replace F5 := h_ (F5.out.go hc (by simp))
      clear ho hA hc LRH y0 y1 y2 y3 y4 y5 y6 a0 a1 B94
      have AR11 : Hid (g8 < w11.heap.size) := h_ (lt_of_heap AR.out.box)
      obtain ⟨w12, hw12, cc, bb⟩ := news1 w11 (.cells #[.int .i64 7, .slice A6 kn.length c6] 25)
      have W12 := h_ hw12
      have B12 := h_ bb
      replace PC := h_ (PC.out.trans (cc.mono (by simp)))
      replace AR := h_ (AR.out.chg cc)
      replace O3 := h_ (O3.out.chg cc (by simp))
      replace F5 := h_ (F5.out.go cc (by simp))
      replace O6 := h_ (O6.out.chg cc (by simp))
      have NE6 : Hid (∀ a, A6 = some a → a.block ≠ g8) := h_ (fun a ha => by have := N6.out a ha; have := S310.out; have := G86.out; have a := W36.out; omega)
      clear hw12 cc bb
      go_upto_region 34 with fail
      rw [← W12.out]
      obtain ⟨gz, hgz⟩ : ∃ g, w11.heap.size = g := ⟨_, rfl⟩
      have NZ : Hid (gz ≠ g8) := h_ (by have := AR11.out; omega)
      rw [hgz] at B12 ⊢
      clear W12 hgz
      refine wp_region_held_drew (S := fun w' => True) (by kernel_rfl) trivial (fun hHeld => ?_)
      have hHeld := trivial
      replace PC := h_ (PC.out.trans ((Chg.refl [] w12).drew.mono (by simp)))
      replace AR := h_ (AR.out.chg (Chg.refl [] w12).drew)
      replace O3 := h_ (O3.out.chg (Chg.refl [] w12).drew (by simp))
      replace F5 := h_ (F5.out.go (Chg.refl [] w12).drew (by simp))
      replace O6 := h_ (O6.out.chg (Chg.refl [] w12).drew (by simp))
      replace B12 := h_ ((Chg.refl [] w12).drew.at_ B12.out (by simp))
      obtain ⟨wd, hwd⟩ : ∃ q, w12.drew = q := ⟨_, rfl⟩
      rw [hwd] at PC AR O3 F5 O6 B12 ⊢
      clear hwd

      refine sy 0 164 rfl rfl ?_ (hS := trivial)
      try simp only [Act.put, sA, s0, s1]
      refine sy 2 11 rfl rfl ?_ (hS := trivial)
      try simp only [Act.put, sA, s0, s1]
      refine on1 1 rfl (fun K hK => ?_)
      obtain ⟨a0, a1⟩ := ce2 B12.out
      go_simp; clear a0 a1
      refine hK.out _ _ trivial (fun hHeld => ?_)
      clear hK K; try simp only [Act.put, sA, s0, s1]
      refine on1 3 rfl (fun K hK => ?_)
      have a0 := cell_of AR.out.box 0
      have a1 := cell_of AR.out.box 1
      have f0 := free_of AR.out.box 0
      have f1 := free_of AR.out.box 1
      simp only [gA, gY, gZ] at a0 a1
      go_simp; clear a0 a1 f0 f1
      obtain ⟨ar, cw⟩ := arcW AR.out.box O6.out NE6.out
      have AR9 := h_ ar
      have CW := h_ cw
      clear ar cw
      generalize (wd.setCell ⟨g8, 0, none⟩ (.int .i64 7)).setCell ⟨g8, 1, none⟩ (.slice A6 kn.length c6) = we at *
      refine hK.out _ _ trivial (fun hHeld => ?_)
      clear hK K; try simp only [Act.put, sA, s0, s1]
      refine wpAnyH_done (by kernel_rfl) ?_ _; clear hHeld
      replace PC := h_ (PC.out.trans CW.out)
      replace O3 := h_ (O3.out.chg CW.out (fun a ha => by have := (N3.out a ha).1; have := G86.out; simp; omega))
      replace F5 := h_ (F5.out.go CW.out (fun i hi => by simp at hi; rw [hi]; have := G86.out; have := W36.out; omega))
      have OD1 : Hid (OwnK dotTy we A3 c3 (dotsE (sent ++ [e])) ∧ ∀ a, A3 = some a → w6.heap.size ≤ a.block ∧ a.block < w3x.heap.size ∧ ∀ b, A6 = some b → a.block ≠ b.block) := h_ ⟨O3.out, fun a ha => ⟨(N3.out a ha).1, (N3.out a ha).2, fun b hb => by have := (N3.out a ha).2; have := N6.out b hb; have := S310.out; omega⟩⟩
      have GT1 : Hid (g8 < w3x.heap.size) := h_ (by have := G86.out; have := W36.out; omega)
      have TL1 : Hid ((putS t e).length ≤ 14 + (i + 1)) := h_ (by have a := foldS_len [e] t; have := TL.out; simp at a; omega)
      go_wp2; go_round
      case rel => exact ⟨i + 1, j + 1, sent ++ [e], putS t e, kn, A5, c5, z5, A6, c6, A3, c3, w3x.heap.size, ILT.out, by go_num, by first | rfl | simp, by first | rfl | simp, NL3, OD1, F5, GT1, AR9, AGN, MI1, ST1, TL1, PC⟩
      case measure => simp [RowKit.intOf]; omega
end
section
open Go.RowKit Go.WideShapes Go.ChangeShapes Go.Deep

section
variable {H : Type} {enc : TypeId × Value → H} {w : World} {base : Nat} {spare : Nat → Bool} {held : Bool}
set_option maxRecDepth 100000 in
theorem open_events {n : Nat} {cs : List Value} {y : DataW H × List MemPlace} (h : DataW.trod enc Tryz.prog w base spare held n 22 cs = some y) (hz : ∀ k ∈ y.1.weights Tryz.prog 22, k ≤ reachBytes) :
  ∃ A m d zs es, cs = [.slice A m d] ∧ RdK evTy w A m zs ∧ EvsR w zs es ∧ m * 96 ≤ 140737488351232 ∧ m ≤ d ∧ ∀ (i : Nat) (x : EvT) (e : EvP), zs[i]? = some x → es[i]? = some e → EvZ x e := by
 rcases open_slice Tryz.underlying22 h with ⟨rfl, _⟩ | ⟨a, len, cap, m, k, D, Pl, rfl, _, hl, hm, hmm, rfl, hi⟩
 ·
  exact ⟨none, 0, 0, [], [], rfl, RdK.nil _ _, EvsR.nil _, by decide, by decide, by simp⟩
 ·
  have hlm : len ≤ m := by rw [hmm]; split <;> omega
  obtain ⟨hw, hwd⟩ := weights_slice Tryz.underlying22 hz
  rw [show Tryz.prog.bytesOf 40 = 96 by kernel_rfl] at hw
  simp [reachBytes] at hw
  have hC : Tryz.prog.cellsOf 40 = 7 := by kernel_rfl
  obtain ⟨l, hll, hat⟩ := list_of (Q := fun i (x : EvT × EvP) => (w.cell? (a.add (i * 7)) = some (.int .i64 x.1.n) ∧ w.cell? (a.add (i * 7 + 1)) = some (.int .i64 x.1.s) ∧ w.cell? (a.add (i * 7 + 2)) = some (.string x.1.p) ∧ w.cell? (a.add (i * 7 + 3)) = some (.int .i64 x.1.k) ∧ w.cell? (a.add (i * 7 + 4)) = some (.int .i64 x.1.m) ∧ w.cell? (a.add (i * 7 + 5)) = some (.slice x.1.A x.1.l x.1.c) ∧ w.cell? (a.add (i * 7 + 6)) = some (.slice x.1.B x.1.bl x.1.bc)) ∧ EvR w x.1 x.2 ∧ EvZ x.1 x.2) len (fun i hilt => by
   obtain ⟨cs', hc, ht⟩ := hi i (by omega)
   rw [hC] at hc
   obtain ⟨_, hcl, hat⟩ := World.cells?_some hc
   obtain ⟨x, e, rfl, hr, hz2⟩ := open_event ht (fun k hk => hwd (D i) (List.mem_map.2 ⟨i, List.mem_range.2 hilt, rfl⟩) k hk)
   have g0 := hat 0 (by simp)
   have g1 := hat 1 (by simp)
   have g2 := hat 2 (by simp)
   have g3 := hat 3 (by simp)
   have g4 := hat 4 (by simp)
   have g5 := hat 5 (by simp)
   have g6 := hat 6 (by simp)
   rw [add_add] at g0 g1 g2 g3 g4 g5 g6
   exact ⟨(x, e), ⟨g0, g1, g2, g3, g4, g5, g6⟩, hr, hz2⟩)
  refine ⟨some a, len, cap, l.map (·.1), l.map (·.2), rfl, ⟨by rw [List.length_map]; exact hll, fun j v hj => ⟨a, rfl, ?_⟩⟩, ⟨by simp, fun i x e hx he => ?_⟩, by omega, hl, fun i x e hx he => ?_⟩
  rotate_left
  ·
   rw [List.getElem?_map, Option.map_eq_some_iff] at hx he
   obtain ⟨p, hp, rfl⟩ := hx
   obtain ⟨q, hq, rfl⟩ := he
   rw [hp] at hq
   cases hq
   exact (hat i _ hp).2.1
  ·
   rw [List.getElem?_map, Option.map_eq_some_iff] at hx he
   obtain ⟨p, hp, rfl⟩ := hx
   obtain ⟨q, hq, rfl⟩ := he
   rw [hp] at hq
   cases hq
   exact (hat i _ hp).2.2
  have hj2 := (List.getElem?_eq_some_iff.1 hj).1
  rw [evTy.flat_len, List.length_map] at hj2
  have hk : evTy.k = 7 := rfl
  rw [hk] at hj2
  have hq : j / 7 < l.length := by omega
  have e := evTy.flat_at (l.map (·.1)) (j / 7) (j % 7) _ (by rw [List.getElem?_map, List.getElem?_eq_getElem hq]; rfl) (Nat.mod_lt _ (by decide))
  rw [hk, Nat.div_add_mod', hj] at e
  obtain ⟨g0, g1, g2, g3, g4, g5, g6⟩ := (hat (j / 7) _ (List.getElem?_eq_getElem hq)).1
  rcases (show j % 7 = 0 ∨ j % 7 = 1 ∨ j % 7 = 2 ∨ j % 7 = 3 ∨ j % 7 = 4 ∨ j % 7 = 5 ∨ j % 7 = 6 by omega) with h0 | h0 | h0 | h0 | h0 | h0 | h0
  ·
   rw [h0] at e
   rw [show j / 7 * 7 = j by omega] at g0
   rw [g0]
   exact e.symm
  ·
   rw [h0] at e
   rw [show j / 7 * 7 + 1 = j by omega] at g1
   rw [g1]
   exact e.symm
  ·
   rw [h0] at e
   rw [show j / 7 * 7 + 2 = j by omega] at g2
   rw [g2]
   exact e.symm
  ·
   rw [h0] at e
   rw [show j / 7 * 7 + 3 = j by omega] at g3
   rw [g3]
   exact e.symm
  ·
   rw [h0] at e
   rw [show j / 7 * 7 + 4 = j by omega] at g4
   rw [g4]
   exact e.symm
  ·
   rw [h0] at e
   rw [show j / 7 * 7 + 5 = j by omega] at g5
   rw [g5]
   exact e.symm
  ·
   rw [h0] at e
   rw [show j / 7 * 7 + 6 = j by omega] at g6
   rw [g6]
   exact e.symm
end
end
section
def TabN (_ : World) : Prop := True
theorem TabN.laid {W : World} (_h : laidMetH Tryz.prog tables W) : TabN W := trivial
end
end Go.Proofs.YtehmchdhlhchjaaGreatDoor
