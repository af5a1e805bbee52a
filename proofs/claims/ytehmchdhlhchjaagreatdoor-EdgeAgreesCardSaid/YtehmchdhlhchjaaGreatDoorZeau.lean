/- fresh.list of events. What a shelf's Check has seen, purely. shelf.Check. shelf.find. shelf.without. shelf.Put. Those of a list of events that are asked for. What is asked of a store's events: their path, whether it is near, whether their dot is known. -/
import Derived.Test.YtehmchdhlhchjaaGreatDoorZeam
import Derived.Test.YtehmchdhlhchjaaGreatDoorZeat
import Derived.Test.YtehmchdhlhchjaaGreatDoorZeaq
import Derived.Test.YtehmchdhlhchjaaGreatDoorZeas
import Derived.Test.YtehmchdhlhchjaaGreatDoorZeag
import Derived.Deep.Cut
import Derived.BigQuiet
import Derived.Test.YtehmchdhlhchjaaGreatDoorZeap
import Derived.Test.YtehmchdhlhchjaaGreatDoorZear
import Derived.RangeFuncCalls
import Derived.Test.YtehmchdhlhchjaaGreatDoorZean
set_option linter.unusedSimpArgs false
set_option linter.unusedVariables false
set_option maxHeartbeats 32000000
namespace Go.Proofs.YtehmchdhlhchjaaGreatDoor
section
open Go.RowKit Go.Lib

set_option maxRecDepth 100000 in
theorem frlist_any (w : World) (A : Option Addr) (c : Nat) (xs : List EvT) (es : List EvP) (h : RdK evTy w A xs.length xs) (hx : EvsR w xs es) (hn : xs.length ≤ 100000) (hq : ∀ e ∈ es, e.b.length ≤ 140737488351232 ∧ e.q.length ≤ 100000) :
  Calls Tryz.prog 108 #[.slice A xs.length c, .func (.func 109) #[] #[]] w fun r w' => ∃ (A' : Option Addr) (c' : Nat) (ys : List EvT), r = .returned (.slice A' ys.length c') ∧ ys.length = xs.length ∧ EsF w' w.heap.size w'.heap.size A' c' ys es ∧ Chg [] w w' := by
 have HA := h_ h
 have HX := h_ hx
 have HN := h_ hn
 have HQ := h_ hq
 by_cases h0 : xs.length = 0
 ·
  have hx0 : xs = [] := List.length_eq_zero_iff.1 h0
  subst hx0
  have he : es = [] := List.length_eq_zero_iff.1 (by have := hx.1; simpa using this.symm)
  subst he; clear HA HX HN HQ h hx hn hq h0
  go_enter Tryz.func108, Tryz.ntmps108
  go_wp2; go_ret
  exact ⟨none, 0, [], rfl, rfl, EsF.nil _ _ _, Chg.refl _ _⟩
 ·
  have hn0 : ¬ (xs.length : Int) = 0 := by omega
  have HP := h_ h0
  have hmk : ∀ w : World, (Instr.makeSlice 22 (.int .i64 (xs.length : Int)) (.int .i64 (xs.length : Int))).run Tryz.prog w = .ok (.slice (some ⟨w.heap.size, 0, none⟩) xs.length xs.length) (w.alloc (.cells (evTy.flat (List.replicate xs.length evTy.z)).toArray 40)) := evTy.run_mk xs.length (by omega)
  obtain ⟨w1, hw1, c1, b1⟩ := news1 w (.cells (evTy.flat (List.replicate xs.length evTy.z)).toArray 40)
  have W1 := h_ hw1
  have C1 := h_ c1
  have O1 : Hid (OwnK evTy w1 (some ⟨w.heap.size, 0, none⟩) xs.length (List.replicate xs.length evTy.z)) := h_ (OwnK.of (full := List.replicate xs.length evTy.z) b1 (by simp) (by unfold maxLen; omega) (by simp) (by simp))
  have SZ1 : Hid (w.heap.size + 1 ≤ w1.heap.size) := h_ (lt_of_heap b1)
  clear h hx hn hq hw1 c1 b1 h0
  go_enter Tryz.func108, Tryz.ntmps108
  go_upto_region 4 with fail
  rw [← W1.out]
  obtain ⟨g, hg⟩ : ∃ g, w.heap.size = g := ⟨_, rfl⟩
  have HG := h_ hg
  rw [hg] at O1 SZ1 ⊢
  clear W1 hmk hg; go_wp2
  have h0b : (((xs.length : Int) == 0) : Bool) = false := by simpa using hn0
  rw [h0b]
  clear h0b
  go_loopw [16] (fun v16 wr => ∃ (k : Nat) (ys : List EvT), k ≤ xs.length ∧ ys.length = k ∧ v16 = .int .i64 k ∧ Hid (OwnK evTy wr (some ⟨g, 0, none⟩) xs.length (ys ++ List.replicate (xs.length - k) evTy.z)) ∧ Hid (OwnEs wr g wr.heap.size (some ⟨g, 0, none⟩) ys (es.take k)) ∧ Hid (g + 1 ≤ wr.heap.size) ∧ Hid (Chg [] w wr)) (fun v16 _ => xs.length - (RowKit.intOf v16).toNat)
  case atStart => exact ⟨0, [], Nat.zero_le _, rfl, rfl, h_ (by simpa using O1.out), h_ (by simpa using OwnEs.nil _ _ _ _), SZ1, C1⟩
  case round =>
   obtain ⟨k, ys, hk, hyl, rfl, RO, RE, RS, RC⟩ := hrel
   have i0 : (0 : Int) ≤ (k : Int) := by omega
   by_cases hlt : k < xs.length
   ·
    have i1 : (k : Int) < (xs.length : Int) := by omega
    have i3 : IntKind.i64.wrap ((k : Int) + 1) = (k : Int) + 1 := IntWalk.i64_in _ (by have := HN.out; omega)
    obtain ⟨g2, o2, eA, _⟩ := HA.out.line (by omega)
    subst eA
    obtain ⟨x, e, ex, ee, rx⟩ := HX.out.at_ hlt
    obtain ⟨z0, z1, z2, z3, z4, z5, z6⟩ := evCells (HA.out.chg RC.out (by simp)) ex
    have RX := h_ rx
    have ET : Hid (es.take (k + 1) = es.take k ++ [e]) := h_ (by rw [List.take_add_one, ee]; rfl)
    have EQ := h_ (HQ.out e (List.mem_of_getElem? ee))
    have YL := h_ hyl
    clear ex ee rx hyl
    go_upto_region 7 with fail
    clear z0 z1 z2 z3 z4 z5 z6
    obtain ⟨w2, hw2, c2, b2⟩ := news1 wr (.cells #[.int .i64 x.n, .int .i64 x.s, .string x.p, .int .i64 x.k, .int .i64 x.m, .slice x.A x.l x.c, .slice x.B x.bl x.bc] 40)
    have W2 := h_ hw2
    have RO2 := h_ (RO.out.chg c2 (by simp))
    have RE2 := h_ ((RE.out.chg c2 (by simp)).mono c2.size)
    have RS2 : Hid (g + 1 ≤ w2.heap.size) := h_ (Nat.le_trans RS.out c2.size)
    have RC2 := h_ (RC.out.trans c2)
    obtain ⟨y0, y1, y2, y3, y4, y5, y6⟩ := ce7 b2
    clear hw2 c2 b2 RO RE RS RC
    rw [← W2.out]
    generalize wr.heap.size = s2 at *
    clear W2; go_wp2_with fail; clear y0 y1 y2 y3 y4 y5 y6
    refine (frev_any w2 x e (RX.out.chg RC2.out) EQ.out).mono ?_
    rintro r w3 ⟨A', c', B', d', rfl, hR, hA, hB, hnA, hnB, hne, hc⟩
    obtain ⟨X, hX⟩ : ∃ X : EvT, X = ⟨x.n, x.s, x.p, x.k, x.m, A', x.l, c', B', x.bl, d'⟩ := ⟨_, rfl⟩
    rw [← hX] at hR
    have fX : X.A = A' ∧ X.B = B' ∧ X.c = c' ∧ X.bc = d' := by rw [hX]; exact ⟨rfl, rfl, rfl, rfl⟩
    have EX : Hid (Value.agg #[.int .i64 x.n, .int .i64 x.s, .string x.p, .int .i64 x.k, .int .i64 x.m, .slice A' x.l c', .slice B' x.bl d'] = .agg #[.int .i64 X.n, .int .i64 X.s, .string X.p, .int .i64 X.k, .int .i64 X.m, .slice X.A X.l X.c, .slice X.B X.bl X.bc]) := h_ (by rw [hX])
    have hsz := hc.size
    have RE3 : Hid (OwnEs w3 g w3.heap.size (some ⟨g, 0, none⟩) (ys ++ [X]) (es.take (k + 1))) := h_ (by
     rw [ET.out]
     refine (RE2.out.chg hc (by simp)).snoc ⟨by have := RS2.out; omega, hsz⟩ hR (by rw [fX.1, fX.2.2.1]; exact hA) (by rw [fX.2.1, fX.2.2.2]; exact hB) (fun a ha => ?_) (fun a b ha hb => hne a b (by rw [← fX.1]; exact ha) (by rw [← fX.2.1]; exact hb))
     have lo : w2.heap.size ≤ a.block ∧ a.block < w3.heap.size := by
      rcases ha with q | q
      ·
       rw [fX.1] at q; exact ⟨hnA a q, hA.lt a q⟩
      ·
       rw [fX.2.1] at q; exact ⟨hnB a q, hB.lt_ a q⟩
     refine ⟨lo.1, lo.2, fun b hb e => ?_⟩
     cases hb
     have e : a.block = g := e
     have := RS2.out
     have := lo.1
     omega)
    have RO3 := h_ (RO2.out.chg hc (by simp))
    have RS3 : Hid (g + 1 ≤ w3.heap.size) := h_ (Nat.le_trans RS2.out hsz)
    have RC3 := h_ (RC2.out.trans hc)
    rw [EX.out]
    clear hR hA hB hnA hnB hne hc hX fX EX hsz RO2 RE2 RS2 RC2 EQ RX ET
    have kz : (ys ++ List.replicate (xs.length - k) evTy.z)[k]? = some evTy.z := by
     rw [List.getElem?_append_right (by rw [YL.out]; exact Nat.le_refl _), YL.out, Nat.sub_self, List.getElem?_replicate]
     simp
     omega
    obtain ⟨z0, z1, z2, z3, z4, z5, z6⟩ := evCells RO3.out.reads kz
    rw [Nat.zero_add] at z0 z1 z2 z3 z4 z5 z6
    have F3 : ∀ j, w3.frozen? ⟨g, j, none⟩ = false := fun j => by
     rcases RO3.out with ⟨h, _⟩ | ⟨g', full, e, hg, _⟩
     ·
      cases h
     ·
      cases e; exact free_of hg j
    have f0 := F3 (k * 7)
    have f1 := F3 (k * 7 + 1)
    have f2 := F3 (k * 7 + 2)
    have f3 := F3 (k * 7 + 3)
    have f4 := F3 (k * 7 + 4)
    have f5 := F3 (k * 7 + 5)
    have f6 := F3 (k * 7 + 6)
    have KZ := h_ kz
    clear kz F3
    have RO4 := h_ (RO3.out.set7 k _ X KZ.out)
    have C4 := h_ ((Chg.refl [g] w3).set7 (g := g) (.inl (by simp)) (k * 7) (.int .i64 X.n) (.int .i64 X.s) (.string X.p) (.int .i64 X.k) (.int .i64 X.m) (.slice X.A X.l X.c) (.slice X.B X.bl X.bc))
    have RC4 := h_ (RC3.out.set7 (g := g) (.inr (by rw [HG.out]; exact Nat.le_refl _)) (k * 7) (.int .i64 X.n) (.int .i64 X.s) (.string X.p) (.int .i64 X.k) (.int .i64 X.m) (.slice X.A X.l X.c) (.slice X.B X.bl X.bc))
    go_upto_region 8 with fail
    clear z0 z1 z2 z3 z4 z5 z6 f0 f1 f2 f3 f4 f5 f6
    generalize (((((((w3.setCell ⟨g, k * 7, none⟩ (.int .i64 X.n)).setCell ⟨g, k * 7 + 1, none⟩ (.int .i64 X.s)).setCell ⟨g, k * 7 + 2, none⟩ (.string X.p)).setCell ⟨g, k * 7 + 3, none⟩ (.int .i64 X.k)).setCell ⟨g, k * 7 + 4, none⟩ (.int .i64 X.m)).setCell ⟨g, k * 7 + 5, none⟩ (.slice X.A X.l X.c)).setCell ⟨g, k * 7 + 6, none⟩ (.slice X.B X.bl X.bc)) = w4 at *
    have SZ4 := C4.out.size
    have RE4 : Hid (OwnEs w4 g w4.heap.size (some ⟨g, 0, none⟩) (ys ++ [X]) (es.take (k + 1))) := h_ ((RE3.out.chg C4.out (fun i hi _ => ⟨⟨g, 0, none⟩, rfl, by simp at hi; exact hi.symm⟩)).mono SZ4)
    have RS4 : Hid (g + 1 ≤ w4.heap.size) := h_ (Nat.le_trans RS3.out SZ4)
    have SET : Hid ((ys ++ List.replicate (xs.length - k) evTy.z).set k X = (ys ++ [X]) ++ List.replicate (xs.length - (k + 1)) evTy.z) := h_ (by
     have hr : xs.length - k = (xs.length - (k + 1)) + 1 := by omega
     rw [hr, List.replicate_succ, List.set_append_right _ _ (by rw [YL.out]; exact Nat.le_refl _), YL.out, Nat.sub_self]
     simp)
    rw [SET.out] at RO4
    clear SZ4 C4 RC3 RE3 RO3 RS3 KZ SET; go_wp2; go_round
    case rel => exact ⟨k + 1, ys ++ [X], by omega, by simp [YL.out], by go_num, RO4, RE4, RS4, RC4⟩
    case measure => simp [RowKit.intOf]; omega
   ·
    obtain rfl : k = xs.length := by omega
    have i1 : ¬ (xs.length : Int) < (xs.length : Int) := by omega
    have ET : es.take xs.length = es := by rw [HX.out.1]; exact List.take_length
    rw [ET, HG.out.symm] at RE
    rw [Nat.sub_self, List.replicate_zero, List.append_nil] at RO
    have YL := h_ hyl
    clear hyl ET; go_wp2; go_ret
    refine ⟨some ⟨g, 0, none⟩, xs.length, ys, by rw [YL.out]; rfl, YL.out, ⟨RO.out, fun a ha => ?_, ?_⟩, RC.out⟩
    ·
     cases ha
     exact ⟨by rw [HG.out]; exact Nat.le_refl _, RS.out⟩
    ·
     have := RE.out
     rw [HG.out] at this ⊢
     exact this
set_option maxRecDepth 100000 in
theorem frevents_any (w : World) (A : Option Addr) (c : Nat) (xs : List EvT) (es : List EvP) (h : RdK evTy w A xs.length xs) (hx : EvsR w xs es) (hn : xs.length ≤ 100000) (hq : ∀ e ∈ es, e.b.length ≤ 140737488351232 ∧ e.q.length ≤ 100000) :
  Calls Tryz.prog 61 #[.slice A xs.length c] w fun r w' => ∃ (A' : Option Addr) (c' : Nat) (ys : List EvT), r = .returned (.slice A' ys.length c') ∧ ys.length = xs.length ∧ EsF w' w.heap.size w'.heap.size A' c' ys es ∧ Chg [] w w' := by
 have CC := h_ (frlist_any w A c xs es h hx hn hq)
 clear h hx hn hq
 go_enter Tryz.func61, Tryz.ntmps61
 go_wp2_with fail
 refine CC.out.mono ?_
 rintro r w2 ⟨A', c', ys, rfl, hl, he, hc⟩
 have P := h_ (And.intro hl (And.intro he hc))
 clear CC hl he hc; go_wp2; go_ret
 exact ⟨A', c', ys, rfl, P.out.1, P.out.2.1, P.out.2.2⟩
end
section
open Go.RowKit Go.Lib

def ShTo (es : List EvP) (k : Nat) : Prop := (∀ e ∈ es.take k, chkEv e = 0 ∧ ∀ f, es[0]? = some f → e.p = f.p) ∧ (es.take k).Pairwise LtEv
theorem shTo_zero (es : List EvP) : ShTo es 0 := ⟨fun e h => by simp at h, by simp⟩
theorem shE_no {es : List EvP} (h : ¬ ShOk es) : shE es = 2 := if_neg h
theorem shE_yes {es : List EvP} (h : ShOk es) : shE es = 0 := if_pos h
theorem sh_no_chk {es : List EvP} {k : Nat} {e : EvP} (he : es[k]? = some e) (h : chkEv e ≠ 0) : shE es = 2 := shE_no (fun q => h (q.1 e (List.mem_of_getElem? he)))
theorem sh_no_path {es : List EvP} {k j : Nat} {e f : EvP} (he : es[k]? = some e) (hf : es[j]? = some f) (h : ¬ e.p = f.p) : shE es = 2 := shE_no (fun q => h (q.2.1 e (List.mem_of_getElem? he) f (List.mem_of_getElem? hf)))
theorem sh_no_lt {es : List EvP} {k j : Nat} {e f : EvP} (he : es[k]? = some e) (hf : es[j]? = some f) (hj : j < k) (h : ¬ LtEv f e) : shE es = 2 := shE_no (fun q => by
 obtain ⟨l1, e1⟩ := List.getElem?_eq_some_iff.1 he
 obtain ⟨l2, e2⟩ := List.getElem?_eq_some_iff.1 hf
 have := List.pairwise_iff_getElem.1 q.2.2.1 j k l2 l1 hj
 rw [e1, e2] at this
 exact h this)
theorem sh_no_ahead {es : List EvP} {k : Nat} {e : EvP} (he : es[k]? = some e) (h : es.any (fun x => aheadP e x) = true) : shE es = 2 := shE_no (fun q => by
 obtain ⟨x, hx, ha⟩ := List.any_eq_true.1 h
 have := q.2.2.2 e (List.mem_of_getElem? he) x hx
 rw [this] at ha
 cases ha)
theorem shTo_next {es : List EvP} {k : Nat} {e : EvP} (h : ShTo es k) (he : es[k]? = some e) (hc : chkEv e = 0) (hp : ∀ f, es[0]? = some f → e.p = f.p) (hl : k = 0 ∨ ∀ d, es[k - 1]? = some d → LtEv d e) : ShTo es (k + 1) := by
 have et : es.take (k + 1) = es.take k ++ [e] := by rw [List.take_add_one, he]; rfl
 refine ⟨fun x hx => ?_, ?_⟩
 ·
  rw [et] at hx
  rcases List.mem_append.1 hx with q | q
  ·
   exact h.1 x q
  ·
   simp at q; subst q; exact ⟨hc, hp⟩
 ·
  rw [et, List.pairwise_append]
  refine ⟨h.2, List.pairwise_singleton _ _, fun x hx y hy => ?_⟩
  simp at hy
  subst hy
  rcases hl with rfl | hl
  ·
   simp at hx
  ·
   have hk := (List.getElem?_eq_some_iff.1 he).1
   obtain ⟨i, hi⟩ := List.getElem?_of_mem hx
   have hik := (List.getElem?_eq_some_iff.1 hi).1
   rw [List.length_take] at hik
   by_cases k0 : k = 0
   ·
    subst k0; simp at hx
   ·
    obtain ⟨d, hd⟩ : ∃ d, es[k - 1]? = some d := ⟨_, List.getElem?_eq_getElem (by omega)⟩
    have hde := hl d hd
    by_cases q : i = k - 1
    ·
     subst q
     rw [List.getElem?_take, if_pos (by omega), hd] at hi
     cases hi
     exact hde
    ·
     have hd2 : (es.take k)[k - 1]? = some d := by rw [List.getElem?_take, if_pos (by omega)]; exact hd
     obtain ⟨l1, e1⟩ := List.getElem?_eq_some_iff.1 hi
     obtain ⟨l2, e2⟩ := List.getElem?_eq_some_iff.1 hd2
     have := List.pairwise_iff_getElem.1 h.2 i (k - 1) l1 l2 (by omega)
     rw [e1, e2] at this
     exact this.tr hde
theorem sh_done {es : List EvP} (h : ShTo es es.length) (ha : ∀ e ∈ es, es.any (fun x => aheadP e x) = false) : shE es = 0 := by
 have et : es.take es.length = es := List.take_length
 unfold ShTo at h
 rw [et] at h
 refine shE_yes ⟨fun e he => (h.1 e he).1, fun e he f hf => ?_, h.2, fun e he f hf => ?_⟩
 ·
  obtain ⟨d, hd⟩ : ∃ d, es[0]? = some d := ⟨_, List.getElem?_eq_getElem (List.length_pos_of_mem he)⟩
  rw [(h.1 e he).2 d hd, (h.1 f hf).2 d hd]
 ·
  have := List.any_eq_false.1 (ha e he) f hf
  simpa using this
end
section
open Go.RowKit Go.Lib


theorem strOf_lists (l : List UInt8) : (strOf l).toList = l := by rw [ByteArray.toList_eq]; rfl
theorem strOf_ne3s {a b : List UInt8} (h : a ≠ b) : ¬ (strOf a).toList = (strOf b).toList := by rw [strOf_lists, strOf_lists]; exact h
set_option maxRecDepth 100000 in
theorem shcheck_any (w : World) (A : Option Addr) (c : Nat) (xs : List EvT) (es : List EvP) (h : RdK evTy w A xs.length xs) (hx : EvsR w xs es) (hn : xs.length ≤ 100000) (hs : ∀ e ∈ es, EvSm e) :
  Calls Tryz.prog 65 #[.slice A xs.length c] w fun r w' => r = .returned (.int .i64 (shE es)) ∧ Chg [] w w' := by

 have HX := h_ hx
 have HN := h_ hn
 have HS := h_ hs
 have HA := h_ h
 clear h hx hn hs
 go_enter Tryz.func65, Tryz.ntmps65
 go_wp2
 go_loopw [9] (fun v9 wr => ∃ (k : Nat), k ≤ xs.length ∧ v9 = .int .i64 k ∧ Hid (ShTo es k) ∧ Hid (Chg [] w wr)) (fun v9 _ => xs.length - (RowKit.intOf v9).toNat)
 case atStart => exact ⟨0, Nat.zero_le _, rfl, h_ (shTo_zero _), Chg.refl _ _⟩
 case round =>
  obtain ⟨k, hk, rfl, ST, PC⟩ := hrel
  have j0 : (0 : Int) ≤ (k : Int) := by omega
  by_cases hlt : k < xs.length
  ·
   have j1 : (k : Int) < (xs.length : Int) := by omega
   have j3 : IntKind.i64.wrap ((k : Int) + 1) = (k : Int) + 1 := IntWalk.i64_in _ (by have := HN.out; omega)
   obtain ⟨g3, o3, eA, _⟩ := HA.out.line (by omega)
   subst eA
   obtain ⟨x, e, ex, ee, rx⟩ := HX.out.at_ hlt
   obtain ⟨y0, f0, ey0, ef0, ry0⟩ := HX.out.at_ (show 0 < xs.length by omega)
   obtain ⟨z0, z1, z2, z3, z4, z5, z6⟩ := evCells (HA.out.chg PC.out (by simp)) ex
   have EX := h_ ex
   have EE := h_ ee
   have RX1 := h_ rx
   have EF0 := h_ ef0
   have XP : Hid (x.p = strOf e.p ∧ y0.p = strOf f0.p) := h_ ⟨rx.p, ry0.p⟩
   have EY0 := h_ ey0
   have ES1 := h_ (HS.out e (List.mem_of_getElem? ee))
   clear ex ee rx ey0 ef0 ry0
   obtain ⟨w5, hw5, c5, b5⟩ := news1 wr (.cells #[.int .i64 x.n, .int .i64 x.s, .string x.p, .int .i64 x.k, .int .i64 x.m, .slice x.A x.l x.c, .slice x.B x.bl x.bc] 40)
   have W5 := h_ hw5
   have B5 := h_ b5
   replace PC := h_ (PC.out.trans c5)
   clear hw5 c5 b5
   go_upto_region 4 with fail
   rw [← W5.out]
   generalize wr.heap.size = g6 at *
   clear W5 z0 z1 z2 z3 z4 z5 z6
   have HB : Hid (∀ w', Chg [] w5 w' → (w'.cell? ⟨g6, 0, none⟩ = some (.int .i64 x.n) ∧ w'.cell? ⟨g6, 1, none⟩ = some (.int .i64 x.s) ∧ w'.cell? ⟨g6, 2, none⟩ = some (.string x.p) ∧ w'.cell? ⟨g6, 3, none⟩ = some (.int .i64 x.k) ∧ w'.cell? ⟨g6, 4, none⟩ = some (.int .i64 x.m) ∧ w'.cell? ⟨g6, 5, none⟩ = some (.slice x.A x.l x.c) ∧ w'.cell? ⟨g6, 6, none⟩ = some (.slice x.B x.bl x.bc))) := h_ (fun w' hc => by
    have b := hc.at_ B5.out (by simp)
    exact ⟨cell_of b 0, cell_of b 1, cell_of b 2, cell_of b 3, cell_of b 4, cell_of b 5, cell_of b 6⟩)
   have HR : Hid (∀ w', Chg [] w5 w' → ∀ y, xs[k - 1]? = some y → w'.cell? ⟨g3, o3 + (k - 1) * 7, none⟩ = some (.int .i64 y.n) ∧ w'.cell? ⟨g3, o3 + (k - 1) * 7 + 1, none⟩ = some (.int .i64 y.s)) := h_ (fun w' hc y hy => by
    have q := evCells (HA.out.chg (PC.out.trans hc) (by simp)) hy
    exact ⟨q.1, q.2.1⟩)
   have H0 : Hid (∀ w', Chg [] w5 w' → w'.cell? ⟨g3, o3 + 2, none⟩ = some (.string y0.p)) := h_ (fun w' hc => by
    have q := evCells (HA.out.chg (PC.out.trans hc) (by simp)) EY0.out
    rw [Nat.zero_mul, Nat.add_zero] at q
    exact q.2.2.1)
   have CHK : Hid (∀ w', Chg [] w5 w' → Calls Tryz.prog 56 #[.agg #[.int .i64 x.n, .int .i64 x.s, .string x.p, .int .i64 x.k, .int .i64 x.m, .slice x.A x.l x.c, .slice x.B x.bl x.bc]] w' fun r w2 => r = .returned (.int .i64 (chkEv e)) ∧ Chg [] w' w2) := h_ (fun w' hc => evcheck_any w' x e (RX1.out.chg (PC.out.trans hc)) ES1.out)
   rcases chkEv_two e with e1 | e1
   rotate_left
   ·
    have NO : Hid (shE es = 2) := h_ (sh_no_chk EE.out (by omega))
    refine wp_region_held_drew (S := fun w' => Chg [] w5 w') (by kernel_rfl) (Chg.refl [] w5).drew (fun hHeld => ?_)
    refine sy 0 14 rfl rfl ?_ (hy := by (intro w hSw; (try dsimp only at hSw); have hq := HB.out _ hSw; obtain ⟨q0, q1, q2, q3, q4, q5, q6⟩ := hq; go_simp; try with_reducible rfl))
    try simp only [Act.put, sA, s0, s1]
    refine on1 1 rfl (fun K hK => ?_)
    go_simp
    refine (CHK.out _ hHeld).mono ?_
    rintro r w9 ⟨rfl, hc⟩
    rw [e1]
    have C9 := h_ (hHeld.trans hc)
    clear hc hHeld
    refine hK.out _ _ C9.out (fun hHeld => ?_)
    clear hK K; try simp only [Act.put, sA, s0, s1]
    refine sy 2 16 rfl rfl ?_; try simp only [Act.put, sA, s0, s1]
    refine sy 3 17 rfl rfl ?_; try simp only [Act.put, sA, s0, s1]
    refine sn 4 18 rfl rfl ?_; try simp only [Act.put, sA, s0, s1]
    refine sn 5 19 rfl rfl ?_; try simp only [Act.put, sA, s0, s1]
    refine sn 6 20 rfl rfl ?_; try simp only [Act.put, sA, s0, s1]
    refine sn 7 21 rfl rfl ?_; try simp only [Act.put, sA, s0, s1]
    refine sn 8 22 rfl rfl ?_; try simp only [Act.put, sA, s0, s1]
    refine sn 9 23 rfl rfl ?_; try simp only [Act.put, sA, s0, s1]
    refine sn 10 24 rfl rfl ?_; try simp only [Act.put, sA, s0, s1]
    refine sn 11 25 rfl rfl ?_; try simp only [Act.put, sA, s0, s1]
    refine sn 12 26 rfl rfl ?_; try simp only [Act.put, sA, s0, s1]
    refine sn 13 27 rfl rfl ?_; try simp only [Act.put, sA, s0, s1]
    refine sn 14 28 rfl rfl ?_; try simp only [Act.put, sA, s0, s1]
    refine sn 15 29 rfl rfl ?_; try simp only [Act.put, sA, s0, s1]
    refine sn 16 30 rfl rfl ?_; try simp only [Act.put, sA, s0, s1]
    refine sn 17 31 rfl rfl ?_; try simp only [Act.put, sA, s0, s1]
    refine sn 18 32 rfl rfl ?_; try simp only [Act.put, sA, s0, s1]
    refine sn 19 33 rfl rfl ?_; try simp only [Act.put, sA, s0, s1]
    refine sn 20 34 rfl rfl ?_; try simp only [Act.put, sA, s0, s1]
    refine sn 21 35 rfl rfl ?_; try simp only [Act.put, sA, s0, s1]
    refine sn 22 36 rfl rfl ?_; try simp only [Act.put, sA, s0, s1]
    refine sn 23 37 rfl rfl ?_; try simp only [Act.put, sA, s0, s1]
    refine sn 24 38 rfl rfl ?_; try simp only [Act.put, sA, s0, s1]
    refine sn 25 39 rfl rfl ?_; try simp only [Act.put, sA, s0, s1]
    refine sn 26 40 rfl rfl ?_; try simp only [Act.put, sA, s0, s1]
    refine sy 27 41 rfl rfl ?_; try simp only [Act.put, sA, s0, s1]
    refine wpAnyH_done (by kernel_rfl) ?_ _; clear hHeld HB HR H0 CHK; go_wp2; go_ret
    rw [NO.out]
    exact ⟨rfl, PC.out.trans C9.out⟩
   by_cases k0 : k = 0
   ·
    subst k0
    have OT : Hid (ShTo es (0 + 1)) := h_ (shTo_next ST.out EE.out e1 (fun f hf => by rw [EE.out] at hf; cases hf; rfl) (.inl rfl))
    refine wp_region_held_drew (S := fun w' => Chg [] w5 w') (by kernel_rfl) (Chg.refl [] w5).drew (fun hHeld => ?_)
    refine sy 0 14 rfl rfl ?_ (hy := by (intro w hSw; (try dsimp only at hSw); have hq := HB.out _ hSw; obtain ⟨q0, q1, q2, q3, q4, q5, q6⟩ := hq; go_simp; try with_reducible rfl))
    try simp only [Act.put, sA, s0, s1]
    refine on1 1 rfl (fun K hK => ?_)
    go_simp
    refine (CHK.out _ hHeld).mono ?_
    rintro r w9 ⟨rfl, hc⟩
    rw [e1]
    have C9 := h_ (hHeld.trans hc)
    clear hc hHeld
    refine hK.out _ _ C9.out (fun hHeld => ?_)
    clear hK K; try simp only [Act.put, sA, s0, s1]
    refine sy 2 16 rfl rfl ?_; try simp only [Act.put, sA, s0, s1]
    refine sy 3 17 rfl rfl ?_; try simp only [Act.put, sA, s0, s1]
    refine sy 4 18 rfl rfl ?_; try simp only [Act.put, sA, s0, s1]
    refine sy 5 19 rfl rfl ?_; try simp only [Act.put, sA, s0, s1]
    refine sy 6 20 rfl rfl ?_; try simp only [Act.put, sA, s0, s1]
    refine sn 7 21 rfl rfl ?_; try simp only [Act.put, sA, s0, s1]
    refine sn 8 22 rfl rfl ?_; try simp only [Act.put, sA, s0, s1]
    refine sn 9 23 rfl rfl ?_; try simp only [Act.put, sA, s0, s1]
    refine sn 10 24 rfl rfl ?_; try simp only [Act.put, sA, s0, s1]
    refine sn 11 25 rfl rfl ?_; try simp only [Act.put, sA, s0, s1]
    refine sn 12 26 rfl rfl ?_; try simp only [Act.put, sA, s0, s1]
    refine sn 13 27 rfl rfl ?_; try simp only [Act.put, sA, s0, s1]
    refine sn 14 28 rfl rfl ?_; try simp only [Act.put, sA, s0, s1]
    refine sn 15 29 rfl rfl ?_; try simp only [Act.put, sA, s0, s1]
    refine sn 16 30 rfl rfl ?_; try simp only [Act.put, sA, s0, s1]
    refine sn 17 31 rfl rfl ?_; try simp only [Act.put, sA, s0, s1]
    refine sn 18 32 rfl rfl ?_; try simp only [Act.put, sA, s0, s1]
    refine sn 19 33 rfl rfl ?_; try simp only [Act.put, sA, s0, s1]
    refine sn 20 34 rfl rfl ?_; try simp only [Act.put, sA, s0, s1]
    refine sn 21 35 rfl rfl ?_; try simp only [Act.put, sA, s0, s1]
    refine sn 22 36 rfl rfl ?_; try simp only [Act.put, sA, s0, s1]
    refine sn 23 37 rfl rfl ?_; try simp only [Act.put, sA, s0, s1]
    refine sn 24 38 rfl rfl ?_; try simp only [Act.put, sA, s0, s1]
    refine sn 25 39 rfl rfl ?_; try simp only [Act.put, sA, s0, s1]
    refine sy 26 40 rfl rfl ?_; try simp only [Act.put, sA, s0, s1]
    refine sy 27 41 rfl rfl ?_; try simp only [Act.put, sA, s0, s1]
    refine wpAnyH_done (by kernel_rfl) ?_ _; clear hHeld HB HR H0 CHK
    have RC9 := h_ (PC.out.trans C9.out)
    go_wp2; go_round
    case rel => exact ⟨0 + 1, by omega, by go_num, OT, RC9⟩
    case measure => simp [RowKit.intOf]; omega
   obtain ⟨y, f, ey, ef, ry⟩ := HX.out.at_ (show k - 1 < xs.length by omega)
   have EY := h_ ey
   have EF := h_ ef
   have YD : Hid (y.n = f.n ∧ y.s = f.s ∧ x.n = e.n ∧ x.s = e.s) := h_ ⟨ry.n, ry.s, RX1.out.n, RX1.out.s⟩
   clear ey ef ry
   have l0 : (0 : Int) < (xs.length : Int) := by omega
   have l1 : 0 < xs.length := by omega
   have g1 : (0 : Int) < (k : Int) := by omega
   have g2 : 0 < k := by omega
   have g3' : decide ((0 : Int) < (k : Int)) = true := by simp; omega
   have g4 : decide (0 < k) = true := by simp; omega
   have w1' : IntKind.i64.wrap ((k : Int) - 1) = ((k - 1 : Nat) : Int) := by rw [IntWalk.i64_in _ (by have := HN.out; omega)]; omega
   have g5 : (0 : Int) ≤ ((k - 1 : Nat) : Int) := by omega
   have g6' : ((k - 1 : Nat) : Int) < (xs.length : Int) := by omega
   have g7 : k - 1 < xs.length := by omega
   by_cases hp : e.p = f0.p
   rotate_left
   ·
    have NO : Hid (shE es = 2) := h_ (sh_no_path EE.out EF0.out hp)
    have p1' : ((x.p == y0.p) : Bool) = false := by rw [XP.out.1, XP.out.2]; exact strOf_ne hp
    have p2' : ¬ x.p = y0.p := by rw [XP.out.1, XP.out.2]; exact strOf_ne2 hp
    have p3' : ¬ x.p.toList = y0.p.toList := by rw [XP.out.1, XP.out.2]; exact strOf_ne3s hp
    have p4' : ((x.p.toList == y0.p.toList) : Bool) = false := by simpa using p3' 
    refine wp_region_held_drew (S := fun w' => Chg [] w5 w') (by kernel_rfl) (Chg.refl [] w5).drew (fun hHeld => ?_)
    refine sy 0 14 rfl rfl ?_ (hy := by (intro w hSw; (try dsimp only at hSw); have hq := HB.out _ hSw; obtain ⟨q0, q1, q2, q3, q4, q5, q6⟩ := hq; go_simp; try with_reducible rfl))
    try simp only [Act.put, sA, s0, s1]
    refine on1 1 rfl (fun K hK => ?_)
    go_simp
    refine (CHK.out _ hHeld).mono ?_
    rintro r w9 ⟨rfl, hc⟩
    rw [e1]
    have C9 := h_ (hHeld.trans hc)
    clear hc hHeld
    refine hK.out _ _ C9.out (fun hHeld => ?_)
    clear hK K; try simp only [Act.put, sA, s0, s1]
    refine sy 2 16 rfl rfl ?_; try simp only [Act.put, sA, s0, s1]
    refine sy 3 17 rfl rfl ?_; try simp only [Act.put, sA, s0, s1]
    refine sy 4 18 rfl rfl ?_; try simp only [Act.put, sA, s0, s1]
    refine sy 5 19 rfl rfl ?_; try simp only [Act.put, sA, s0, s1]
    refine sy 6 20 rfl rfl ?_; try simp only [Act.put, sA, s0, s1]
    refine sy 7 21 rfl rfl ?_; try simp only [Act.put, sA, s0, s1]
    refine sy 8 22 rfl rfl ?_ (hy := by (intro w hSw; (try dsimp only at hSw); have hq := HB.out _ hSw; obtain ⟨q0, q1, q2, q3, q4, q5, q6⟩ := hq; go_simp; try with_reducible rfl))
    try simp only [Act.put, sA, s0, s1]
    refine sy 9 23 rfl rfl ?_; try simp only [Act.put, sA, s0, s1]
    refine sy 10 24 rfl rfl ?_; try simp only [Act.put, sA, s0, s1]
    refine sy 11 25 rfl rfl ?_; try simp only [Act.put, sA, s0, s1]
    refine sy 12 26 rfl rfl ?_ (hy := by (intro w hSw; (try dsimp only at hSw); have hq := H0.out _ hSw; go_simp; try with_reducible rfl))
    try simp only [Act.put, sA, s0, s1]
    refine sy 13 27 rfl rfl ?_; try simp only [Act.put, sA, s0, s1]
    refine sy 14 28 rfl rfl ?_; try simp only [Act.put, sA, s0, s1]
    refine sn 15 29 rfl rfl ?_; try simp only [Act.put, sA, s0, s1]
    refine sn 16 30 rfl rfl ?_; try simp only [Act.put, sA, s0, s1]
    refine sn 17 31 rfl rfl ?_; try simp only [Act.put, sA, s0, s1]
    refine sn 18 32 rfl rfl ?_; try simp only [Act.put, sA, s0, s1]
    refine sn 19 33 rfl rfl ?_; try simp only [Act.put, sA, s0, s1]
    refine sn 20 34 rfl rfl ?_; try simp only [Act.put, sA, s0, s1]
    refine sn 21 35 rfl rfl ?_; try simp only [Act.put, sA, s0, s1]
    refine sn 22 36 rfl rfl ?_; try simp only [Act.put, sA, s0, s1]
    refine sn 23 37 rfl rfl ?_; try simp only [Act.put, sA, s0, s1]
    refine sn 24 38 rfl rfl ?_; try simp only [Act.put, sA, s0, s1]
    refine sy 25 39 rfl rfl ?_; try simp only [Act.put, sA, s0, s1]
    refine sy 26 40 rfl rfl ?_; try simp only [Act.put, sA, s0, s1]
    refine sy 27 41 rfl rfl ?_; try simp only [Act.put, sA, s0, s1]
    refine wpAnyH_done (by kernel_rfl) ?_ _; clear hHeld HB HR H0 CHK; go_wp2; go_ret
    rw [NO.out]
    exact ⟨rfl, PC.out.trans C9.out⟩
   have HP := h_ hp
   have p1' : ((x.p == y0.p) : Bool) = true := by rw [XP.out.1, XP.out.2, hp]; show ((f0.p.toArray == f0.p.toArray) : Bool) = true; simp
   have p4' : ((x.p.toList == y0.p.toList) : Bool) = true := by rw [XP.out.1, XP.out.2, hp]; simp
   clear hp
   by_cases hl : LtD y.n y.s x.n x.s
   rotate_left
   ·
    have NO : Hid (shE es = 2) := h_ (sh_no_lt EE.out EF.out (by omega) (fun q => hl (by rw [YD.out.1, YD.out.2.1, YD.out.2.2.1, YD.out.2.2.2]; exact q)))
    have dl := decide_eq_false hl
    clear hl
    refine wp_region_held_drew (S := fun w' => Chg [] w5 w') (by kernel_rfl) (Chg.refl [] w5).drew (fun hHeld => ?_)
    refine sy 0 14 rfl rfl ?_ (hy := by (intro w hSw; (try dsimp only at hSw); have hq := HB.out _ hSw; obtain ⟨q0, q1, q2, q3, q4, q5, q6⟩ := hq; go_simp; try with_reducible rfl))
    try simp only [Act.put, sA, s0, s1]
    refine on1 1 rfl (fun K hK => ?_)
    go_simp
    refine (CHK.out _ hHeld).mono ?_
    rintro r w9 ⟨rfl, hc⟩
    rw [e1]
    have C9 := h_ (hHeld.trans hc)
    clear hc hHeld
    refine hK.out _ _ C9.out (fun hHeld => ?_)
    clear hK K; try simp only [Act.put, sA, s0, s1]
    refine sy 2 16 rfl rfl ?_; try simp only [Act.put, sA, s0, s1]
    refine sy 3 17 rfl rfl ?_; try simp only [Act.put, sA, s0, s1]
    refine sy 4 18 rfl rfl ?_; try simp only [Act.put, sA, s0, s1]
    refine sy 5 19 rfl rfl ?_; try simp only [Act.put, sA, s0, s1]
    refine sy 6 20 rfl rfl ?_; try simp only [Act.put, sA, s0, s1]
    refine sy 7 21 rfl rfl ?_; try simp only [Act.put, sA, s0, s1]
    refine sy 8 22 rfl rfl ?_ (hy := by (intro w hSw; (try dsimp only at hSw); have hq := HB.out _ hSw; obtain ⟨q0, q1, q2, q3, q4, q5, q6⟩ := hq; go_simp; try with_reducible rfl))
    try simp only [Act.put, sA, s0, s1]
    refine sy 9 23 rfl rfl ?_; try simp only [Act.put, sA, s0, s1]
    refine sy 10 24 rfl rfl ?_; try simp only [Act.put, sA, s0, s1]
    refine sy 11 25 rfl rfl ?_; try simp only [Act.put, sA, s0, s1]
    refine sy 12 26 rfl rfl ?_ (hy := by (intro w hSw; (try dsimp only at hSw); have hq := H0.out _ hSw; go_simp; try with_reducible rfl))
    try simp only [Act.put, sA, s0, s1]
    refine sy 13 27 rfl rfl ?_; try simp only [Act.put, sA, s0, s1]
    refine sy 14 28 rfl rfl ?_; try simp only [Act.put, sA, s0, s1]
    refine sy 15 29 rfl rfl ?_; try simp only [Act.put, sA, s0, s1]
    refine sy 16 30 rfl rfl ?_; try simp only [Act.put, sA, s0, s1]
    refine sy 17 31 rfl rfl ?_; try simp only [Act.put, sA, s0, s1]
    refine sy 18 32 rfl rfl ?_; try simp only [Act.put, sA, s0, s1]
    refine sy 19 33 rfl rfl ?_; try simp only [Act.put, sA, s0, s1]
    refine sy 20 34 rfl rfl ?_ (hy := by (intro w hSw; (try dsimp only at hSw); have hq := HR.out _ hSw y EY.out; obtain ⟨p0, p1⟩ := hq; go_simp; try with_reducible rfl))
    try simp only [Act.put, sA, s0, s1]
    refine sy 21 35 rfl rfl ?_; try simp only [Act.put, sA, s0, s1]
    refine sy 22 36 rfl rfl ?_ (hy := by (intro w hSw; (try dsimp only at hSw); have hq := HB.out _ hSw; obtain ⟨q0, q1, q2, q3, q4, q5, q6⟩ := hq; go_simp; try with_reducible rfl))
    try simp only [Act.put, sA, s0, s1]
    refine on1 23 rfl (fun K hK => ?_)
    go_simp
    refine (dless_any _ _ _ _ _).mono ?_
    rintro r w8 ⟨rfl, hc⟩
    rw [dl]
    have C8 := h_ (hHeld.trans hc)
    clear hc hHeld
    refine hK.out _ _ C8.out (fun hHeld => ?_)
    clear hK K; try simp only [Act.put, sA, s0, s1]
    refine sy 24 38 rfl rfl ?_; try simp only [Act.put, sA, s0, s1]
    refine sy 25 39 rfl rfl ?_; try simp only [Act.put, sA, s0, s1]
    refine sy 26 40 rfl rfl ?_; try simp only [Act.put, sA, s0, s1]
    refine sy 27 41 rfl rfl ?_; try simp only [Act.put, sA, s0, s1]
    refine wpAnyH_done (by kernel_rfl) ?_ _; clear hHeld HB HR H0 CHK; go_wp2; go_ret
    rw [NO.out]
    exact ⟨rfl, PC.out.trans C8.out⟩
   have OT : Hid (ShTo es (k + 1)) := h_ (shTo_next ST.out EE.out e1 (fun d hd => by rw [EF0.out] at hd; cases hd; exact HP.out) (.inr (fun d hd => by rw [EF.out] at hd; cases hd; unfold LtEv; rw [← YD.out.1, ← YD.out.2.1, ← YD.out.2.2.1, ← YD.out.2.2.2]; exact hl)))
   have dl := decide_eq_true hl
   clear hl
   refine wp_region_held_drew (S := fun w' => Chg [] w5 w') (by kernel_rfl) (Chg.refl [] w5).drew (fun hHeld => ?_)
   refine sy 0 14 rfl rfl ?_ (hy := by (intro w hSw; (try dsimp only at hSw); have hq := HB.out _ hSw; obtain ⟨q0, q1, q2, q3, q4, q5, q6⟩ := hq; go_simp; try with_reducible rfl))
   try simp only [Act.put, sA, s0, s1]
   refine on1 1 rfl (fun K hK => ?_)
   go_simp
   refine (CHK.out _ hHeld).mono ?_
   rintro r w9 ⟨rfl, hc⟩
   rw [e1]
   have C9 := h_ (hHeld.trans hc)
   clear hc hHeld
   refine hK.out _ _ C9.out (fun hHeld => ?_)
   clear hK K; try simp only [Act.put, sA, s0, s1]
   refine sy 2 16 rfl rfl ?_; try simp only [Act.put, sA, s0, s1]
   refine sy 3 17 rfl rfl ?_; try simp only [Act.put, sA, s0, s1]
   refine sy 4 18 rfl rfl ?_; try simp only [Act.put, sA, s0, s1]
   refine sy 5 19 rfl rfl ?_; try simp only [Act.put, sA, s0, s1]
   refine sy 6 20 rfl rfl ?_; try simp only [Act.put, sA, s0, s1]
   refine sy 7 21 rfl rfl ?_; try simp only [Act.put, sA, s0, s1]
   refine sy 8 22 rfl rfl ?_ (hy := by (intro w hSw; (try dsimp only at hSw); have hq := HB.out _ hSw; obtain ⟨q0, q1, q2, q3, q4, q5, q6⟩ := hq; go_simp; try with_reducible rfl))
   try simp only [Act.put, sA, s0, s1]
   refine sy 9 23 rfl rfl ?_; try simp only [Act.put, sA, s0, s1]
   refine sy 10 24 rfl rfl ?_; try simp only [Act.put, sA, s0, s1]
   refine sy 11 25 rfl rfl ?_; try simp only [Act.put, sA, s0, s1]
   refine sy 12 26 rfl rfl ?_ (hy := by (intro w hSw; (try dsimp only at hSw); have hq := H0.out _ hSw; go_simp; try with_reducible rfl))
   try simp only [Act.put, sA, s0, s1]
   refine sy 13 27 rfl rfl ?_; try simp only [Act.put, sA, s0, s1]
   refine sy 14 28 rfl rfl ?_; try simp only [Act.put, sA, s0, s1]
   refine sy 15 29 rfl rfl ?_; try simp only [Act.put, sA, s0, s1]
   refine sy 16 30 rfl rfl ?_; try simp only [Act.put, sA, s0, s1]
   refine sy 17 31 rfl rfl ?_; try simp only [Act.put, sA, s0, s1]
   refine sy 18 32 rfl rfl ?_; try simp only [Act.put, sA, s0, s1]
   refine sy 19 33 rfl rfl ?_; try simp only [Act.put, sA, s0, s1]
   refine sy 20 34 rfl rfl ?_ (hy := by (intro w hSw; (try dsimp only at hSw); have hq := HR.out _ hSw y EY.out; obtain ⟨p0, p1⟩ := hq; go_simp; try with_reducible rfl))
   try simp only [Act.put, sA, s0, s1]
   refine sy 21 35 rfl rfl ?_; try simp only [Act.put, sA, s0, s1]
   refine sy 22 36 rfl rfl ?_ (hy := by (intro w hSw; (try dsimp only at hSw); have hq := HB.out _ hSw; obtain ⟨q0, q1, q2, q3, q4, q5, q6⟩ := hq; go_simp; try with_reducible rfl))
   try simp only [Act.put, sA, s0, s1]
   refine on1 23 rfl (fun K hK => ?_)
   go_simp
   refine (dless_any _ _ _ _ _).mono ?_
   rintro r w8 ⟨rfl, hc⟩
   rw [dl]
   have C8 := h_ (hHeld.trans hc)
   clear hc hHeld
   refine hK.out _ _ C8.out (fun hHeld => ?_)
   clear hK K; try simp only [Act.put, sA, s0, s1]
   refine sy 24 38 rfl rfl ?_; try simp only [Act.put, sA, s0, s1]
   refine sy 25 39 rfl rfl ?_; try simp only [Act.put, sA, s0, s1]
   refine sy 26 40 rfl rfl ?_; try simp only [Act.put, sA, s0, s1]
   refine sy 27 41 rfl rfl ?_; try simp only [Act.put, sA, s0, s1]
   refine wpAnyH_done (by kernel_rfl) ?_ _; clear hHeld HB HR H0 CHK
   have RC9 := h_ (PC.out.trans C8.out)
   go_wp2; go_round
   case rel => exact ⟨k + 1, by omega, by go_num, OT, RC9⟩
   case measure => simp [RowKit.intOf]; omega
  ·
   obtain rfl : k = xs.length := by omega
   have j1 : ¬ (xs.length : Int) < (xs.length : Int) := by omega
   have SL : Hid (ShTo es es.length) := h_ (by rw [← HX.out.1]; exact ST.out)
   clear ST; go_wp2
   go_loopw [45] (fun v45 wr => ∃ (k : Nat), k ≤ xs.length ∧ v45 = .int .i64 k ∧ Hid (∀ e ∈ es.take k, es.any (fun x => aheadP e x) = false) ∧ Hid (Chg [] w wr)) (fun v45 _ => xs.length - (RowKit.intOf v45).toNat)
   case atStart => exact ⟨0, Nat.zero_le _, rfl, h_ (by simp), PC⟩
   case round =>
    obtain ⟨k, hk, rfl, NA, PD⟩ := hrel
    have i0 : (0 : Int) ≤ (k : Int) := by omega
    by_cases hlt : k < xs.length
    ·
     have i1 : (k : Int) < (xs.length : Int) := by omega
     have i3 : IntKind.i64.wrap ((k : Int) + 1) = (k : Int) + 1 := IntWalk.i64_in _ (by have := HN.out; omega)
     obtain ⟨g3, o3, eA, _⟩ := HA.out.line (by omega)
     subst eA
     obtain ⟨x, e, ex, ee, rx⟩ := HX.out.at_ hlt
     obtain ⟨z0, z1, z2, z3, z4, z5, z6⟩ := evCells (HA.out.chg PD.out (by simp)) ex
     have EE := h_ ee
     have RX1 := h_ rx
     have ES1 := h_ (HS.out e (List.mem_of_getElem? ee))
     clear ex ee rx
     obtain ⟨w5, hw5, c5, b5⟩ := news1 wr (.cells #[.int .i64 x.n, .int .i64 x.s, .string x.p, .int .i64 x.k, .int .i64 x.m, .slice x.A x.l x.c, .slice x.B x.bl x.bc] 40)
     have W5 := h_ hw5
     replace PD := h_ (PD.out.trans c5)
     obtain ⟨y0, y1, y2, y3, y4, y5, y6⟩ := ce7 b5
     clear hw5 c5 b5
     go_upto_region 10 with fail
     rw [← W5.out]
     generalize wr.heap.size = g6 at *
     clear W5 z0 z1 z2 z3 z4 z5 z6
     have CA := h_ (shahead_any w5 (some ⟨g3, o3, none⟩) c xs es x e (HA.out.chg PD.out (by simp)) (HX.out.chg PD.out) HN.out (RX1.out.chg PD.out) HS.out ES1.out)
     go_wp2_with fail; clear y0 y1 y2 y3 y4 y5 y6
     refine CA.out.mono ?_
     rintro r w7 ⟨rfl, hc⟩
     replace PD := h_ (PD.out.trans hc)
     clear hc CA
     rcases ha : es.any (fun x => aheadP e x) with _ | _
     ·
      have NA1 : Hid (∀ f ∈ es.take (k + 1), es.any (fun x => aheadP f x) = false) := h_ (fun f hf => by
       rw [List.take_add_one, EE.out] at hf
       rcases List.mem_append.1 hf with q | q
       ·
        exact NA.out f q
       ·
        simp at q; subst q; exact ha)
      clear ha NA; go_wp2; go_round
      case rel => exact ⟨k + 1, by omega, by go_num, NA1, PD⟩
      case measure => simp [RowKit.intOf]; omega
     ·
      have NO : Hid (shE es = 2) := h_ (sh_no_ahead EE.out ha)
      clear ha; go_wp2; go_ret
      rw [NO.out]
      exact ⟨rfl, PD.out⟩
    ·
     obtain rfl : k = xs.length := by omega
     have i1 : ¬ (xs.length : Int) < (xs.length : Int) := by omega
     have OK : Hid (shE es = 0) := h_ (sh_done SL.out (by
      have := NA.out
      rw [HX.out.1, List.take_length] at this
      exact this))
     clear NA; go_wp2; go_ret
     rw [OK.out]
     exact ⟨rfl, PD.out⟩
end
section
open Go.RowKit Go.Lib


set_option maxRecDepth 100000 in
theorem shfind1_gr (w : World) (x : EvT) (n s : Int) :
  Calls Tryz.prog 193 #[.agg #[.int .i64 x.n, .int .i64 x.s, .string x.p, .int .i64 x.k, .int .i64 x.m, .slice x.A x.l x.c, .slice x.B x.bl x.bc], .agg #[.int .i64 n, .int .i64 s]] w fun e w' => e = .returned (.int .i64 (cmpD x.n x.s n s)) ∧ Gr w w' := by
 obtain ⟨w0, hw0, c0, b0, b1⟩ := gr2 w (.cells #[.int .i64 x.n, .int .i64 x.s, .string x.p, .int .i64 x.k, .int .i64 x.m, .slice x.A x.l x.c, .slice x.B x.bl x.bc] 40) (.cells #[.int .i64 n, .int .i64 s] 35)
 have W0 := h_ hw0
 have G := h_ c0
 obtain ⟨k0, k1, k2, k3, k4, k5, k6⟩ := ce7 b0
 obtain ⟨d0, d1⟩ := ce2 b1
 clear hw0 c0 b0 b1
 go_enter Tryz.func193, Tryz.ntmps193
 go_upto_region 1 with fail
 rw [← W0.out]
 generalize w.heap.size + 1 = s1 at *
 generalize w.heap.size = s0 at *
 go_wp2_with fail
 refine (orderof_gr _ _ _ _ _).mono ?_
 rintro e w1 ⟨rfl, c1⟩
 replace G := h_ (G.out.trans c1)
 clear c1 k0 k1 k2 k3 k4 k5 k6 d0 d1; go_wp2; go_ret
 exact ⟨rfl, G.out⟩

theorem shfind1_e (w : World) (x : EvT) (n s : Int) : Calls Tryz.prog 193 #[.agg #[.int .i64 x.n, .int .i64 x.s, .string x.p, .int .i64 x.k, .int .i64 x.m, .slice x.A x.l x.c, .slice x.B x.bl x.bc], .agg #[.int .i64 n, .int .i64 s]] w fun e w' => e = .returned (.int .i64 (cmpEd x n s)) ∧ Chg [] w w' := (shfind1_gr w x n s).mono (fun _ _ h => ⟨h.1, h.2.1⟩)

set_option maxRecDepth 100000 in
theorem shbin_any (w : World) (A : Option Addr) (c : Nat) (xs : List EvT) (n s : Int) (h : RdK evTy w A xs.length xs) (hn : UpE xs) (hl : xs.length ≤ 100000) :
  Calls Tryz.prog 102 #[.slice A xs.length c, .agg #[.int .i64 n, .int .i64 s], .func (.func 193) #[] #[]] w fun e w' => ∃ i : Nat, i ≤ xs.length ∧ LoE xs n s i ∧ HiE xs n s i ∧ e = .returned (.tuple #[.int .i64 (i : Int), .bool (inE xs n s)]) ∧ Chg [] w w' := by
 have HX := h_ h
 have HNM := h_ hn
 have HL := h_ hl
 clear h hn hl
 obtain ⟨w1, hw1, c1, b1⟩ := news1 w (.cells #[.int .i64 n, .int .i64 s] 35)
 have W1 := h_ hw1
 have C1 := h_ c1
 have B1 := h_ b1
 clear hw1 c1 b1
 go_enter Tryz.func102, Tryz.ntmps102
 go_upto_region 2 with fail
 rw [← W1.out]
 generalize w.heap.size = g0 at *
 clear W1; go_wp2
 go_loopw [9, 10] (fun v9 v10 wr => ∃ (i j : Nat), i ≤ j ∧ j ≤ xs.length ∧ v9 = .int .i64 (i : Int) ∧ v10 = .int .i64 (j : Int) ∧ Hid (LoE xs n s i ∧ HiE xs n s j) ∧ Hid (Chg [] w1 wr)) (fun v9 v10 _ => (RowKit.intOf v10).toNat - (RowKit.intOf v9).toNat)
 case atStart => exact ⟨0, xs.length, Nat.zero_le _, Nat.le_refl _, rfl, rfl, h_ ⟨fun p x _ h => absurd h (by omega), fun p x hx h => absurd ((List.getElem?_eq_some_iff.1 hx).1) (by omega)⟩, Chg.refl _ _⟩
 case round =>
  obtain ⟨i, j, hij, hj, rfl, rfl, HI, HC⟩ := hrel
  have i0 : (0 : Int) ≤ (i : Int) := by omega
  have hl := HL.out
  have i1 : IntKind.i64.wrap ((i : Int) + (j : Int)) = ((i + j : Nat) : Int) := by rw [IntWalk.i64_in _ (by omega)]; omega
  by_cases hlt : i < j
  ·
   have i2 : (i : Int) < (j : Int) := by omega
   go_upto_region 5 with fail
   obtain ⟨k, hk⟩ : ∃ k : Nat, k = (i + j) / 2 := ⟨_, rfl⟩
   have e1 : ((i : Int) + (j : Int)) / 2 = (k : Int) := by omega
   rw [e1]
   have hk1 : i ≤ k ∧ k < j := by omega
   clear hk e1 i1 i2
   obtain ⟨x, hx⟩ : ∃ x, xs[k]? = some x := ⟨_, List.getElem?_eq_getElem (by omega)⟩
   have R4 := (HX.out.chg C1.out (by simp)).chg HC.out (by simp)
   obtain ⟨g, o, eA, _⟩ := R4.line (by omega)
   subst eA
   obtain ⟨q0, q1, q2, q3, q4, q5, q6⟩ := evCells R4 hx
   have b4 := HC.out.at_ B1.out (by simp)
   obtain ⟨d0, d1⟩ := ce2 b4
   have k0 : (0 : Int) ≤ (k : Int) := by omega
   have k1 : (k : Int) < (xs.length : Int) := by omega
   have HX5 := h_ hx
   clear R4 b4 hx
   refine wp_region_held_drew (S := fun w' => w'.cell? ⟨g, o + k * 7, none⟩ = some (.int .i64 x.n) ∧ w'.cell? ⟨g, o + k * 7 + 1, none⟩ = some (.int .i64 x.s) ∧ w'.cell? ⟨g, o + k * 7 + 2, none⟩ = some (.string x.p) ∧ w'.cell? ⟨g, o + k * 7 + 3, none⟩ = some (.int .i64 x.k) ∧ w'.cell? ⟨g, o + k * 7 + 4, none⟩ = some (.int .i64 x.m) ∧ w'.cell? ⟨g, o + k * 7 + 5, none⟩ = some (.slice x.A x.l x.c) ∧ w'.cell? ⟨g, o + k * 7 + 6, none⟩ = some (.slice x.B x.bl x.bc) ∧ w'.cell? ⟨g0, 0, none⟩ = some (.int .i64 n) ∧ w'.cell? ⟨g0, 1, none⟩ = some (.int .i64 s)) (by kernel_rfl) ⟨q0, q1, q2, q3, q4, q5, q6, d0, d1⟩ (fun hHeld => ?_)
   have CD := h_ (Chg.refl [] wr).drew
   have HH := h_ (fun (w' : World) (hc : Chg [] wr.drew w') => (⟨(CD.out.trans hc).cell q0 (by simp), (CD.out.trans hc).cell q1 (by simp), (CD.out.trans hc).cell q2 (by simp), (CD.out.trans hc).cell q3 (by simp), (CD.out.trans hc).cell q4 (by simp), (CD.out.trans hc).cell q5 (by simp), (CD.out.trans hc).cell q6 (by simp), (CD.out.trans hc).cell d0 (by simp), (CD.out.trans hc).cell d1 (by simp)⟩ : w'.cell? ⟨g, o + k * 7, none⟩ = some (.int .i64 x.n) ∧ w'.cell? ⟨g, o + k * 7 + 1, none⟩ = some (.int .i64 x.s) ∧ w'.cell? ⟨g, o + k * 7 + 2, none⟩ = some (.string x.p) ∧ w'.cell? ⟨g, o + k * 7 + 3, none⟩ = some (.int .i64 x.k) ∧ w'.cell? ⟨g, o + k * 7 + 4, none⟩ = some (.int .i64 x.m) ∧ w'.cell? ⟨g, o + k * 7 + 5, none⟩ = some (.slice x.A x.l x.c) ∧ w'.cell? ⟨g, o + k * 7 + 6, none⟩ = some (.slice x.B x.bl x.bc) ∧ w'.cell? ⟨g0, 0, none⟩ = some (.int .i64 n) ∧ w'.cell? ⟨g0, 1, none⟩ = some (.int .i64 s)))
   clear q0 q1 q2 q3 q4 q5 q6 d0 d1
   generalize wr.drew = wd at *
   refine sy 0 24 rfl rfl ?_; try simp only [Act.put, sA, s0, s1]
   refine sy 1 25 rfl rfl ?_; try simp only [Act.put, sA, s0, s1]
   refine sy 2 26 rfl rfl ?_; try simp only [Act.put, sA, s0, s1]
   refine sy 3 27 rfl rfl ?_; try simp only [Act.put, sA, s0, s1]
   refine sy 4 28 rfl rfl ?_ (hy := by (intro w hSw; (try dsimp only at hSw); obtain ⟨q0, q1, q2, q3, q4, q5, q6, q7, q8⟩ := hSw; go_simp; try with_reducible rfl))
   try simp only [Act.put, sA, s0, s1]
   refine sy 5 29 rfl rfl ?_ (hy := by (intro w hSw; (try dsimp only at hSw); obtain ⟨q0, q1, q2, q3, q4, q5, q6, q7, q8⟩ := hSw; go_simp; try with_reducible rfl))
   try simp only [Act.put, sA, s0, s1]
   refine on1 6 rfl (fun K hK => ?_)
   go_simp
   refine (shfind1_e wd x n s).mono ?_
   rintro r w6 ⟨rfl, h6⟩
   have C6 := h_ h6
   clear h6 hHeld
   refine hK.out _ _ (HH.out w6 C6.out) (fun hHeld => ?_)
   clear hK K; try simp only [Act.put, sA, s0, s1]
   refine sy 7 31 rfl rfl ?_; try simp only [Act.put, sA, s0, s1]
   refine wpAnyH_done (by kernel_rfl) ?_ _; clear hHeld HH
   have CE := h_ (HC.out.trans (CD.out.trans C6.out))
   by_cases hneg : cmpEd x n s < 0
   ·
    have LO := h_ (loE_next HNM.out HX5.out hneg)
    have dn1 : decide (cmpEd x n s < 0) = true := decide_eq_true hneg
    have w1' : IntKind.i64.wrap ((k : Int) + 1) = (k : Int) + 1 := IntWalk.i64_in _ (by omega)
    go_wp2; go_round
    case rel => exact ⟨k + 1, j, by omega, hj, by go_num, rfl, h_ ⟨LO.out, HI.out.2⟩, CE.out⟩
    case measure => simp [RowKit.intOf]; omega
   ·
    have HIN := h_ (hiE_next HNM.out HX5.out hneg)
    have dn1 : decide (cmpEd x n s < 0) = false := decide_eq_false hneg
    go_wp2; go_round
    case rel => exact ⟨i, k, by omega, by omega, rfl, rfl, h_ ⟨HI.out.1, HIN.out⟩, CE.out⟩
    case measure => simp [RowKit.intOf]; omega
  ·
   obtain rfl : i = j := by omega
   have i2 : ¬ (i : Int) < (i : Int) := by omega
   by_cases hin : i < xs.length
   ·
    have k1 : (i : Int) < (xs.length : Int) := by omega
    have k2 : decide ((i : Int) < (xs.length : Int)) = true := by simp; omega
    have k3 : decide (i < xs.length) = true := by simp; omega
    obtain ⟨x, hx⟩ : ∃ x, xs[i]? = some x := ⟨_, List.getElem?_eq_getElem hin⟩
    have R4 := (HX.out.chg C1.out (by simp)).chg HC.out (by simp)
    obtain ⟨g, o, eA, _⟩ := R4.line (by omega)
    subst eA
    obtain ⟨q0, q1, q2, q3, q4, q5, q6⟩ := evCells R4 hx
    have b4 := HC.out.at_ B1.out (by simp)
    obtain ⟨d0, d1⟩ := ce2 b4
    have ANS : Hid (inE xs n s = decide (cmpEd x n s = 0)) := h_ (by
     by_cases hz : cmpEd x n s = 0
     ·
      rw [inE_yes hx hz, decide_eq_true hz]
     ·
      rw [inE_no HNM.out HI.out.1 HI.out.2 (fun y hy => by rw [hx] at hy; cases hy; exact hz), decide_eq_false hz])
    clear R4 b4 hx
    go_upto_region 8 with fail
    refine wp_region_held_drew (S := fun w' => w'.cell? ⟨g, o + i * 7, none⟩ = some (.int .i64 x.n) ∧ w'.cell? ⟨g, o + i * 7 + 1, none⟩ = some (.int .i64 x.s) ∧ w'.cell? ⟨g, o + i * 7 + 2, none⟩ = some (.string x.p) ∧ w'.cell? ⟨g, o + i * 7 + 3, none⟩ = some (.int .i64 x.k) ∧ w'.cell? ⟨g, o + i * 7 + 4, none⟩ = some (.int .i64 x.m) ∧ w'.cell? ⟨g, o + i * 7 + 5, none⟩ = some (.slice x.A x.l x.c) ∧ w'.cell? ⟨g, o + i * 7 + 6, none⟩ = some (.slice x.B x.bl x.bc) ∧ w'.cell? ⟨g0, 0, none⟩ = some (.int .i64 n) ∧ w'.cell? ⟨g0, 1, none⟩ = some (.int .i64 s)) (by kernel_rfl) ⟨q0, q1, q2, q3, q4, q5, q6, d0, d1⟩ (fun hHeld => ?_)
    have CD := h_ (Chg.refl [] wr).drew
    have HH := h_ (fun (w' : World) (hc : Chg [] wr.drew w') => (⟨(CD.out.trans hc).cell q0 (by simp), (CD.out.trans hc).cell q1 (by simp), (CD.out.trans hc).cell q2 (by simp), (CD.out.trans hc).cell q3 (by simp), (CD.out.trans hc).cell q4 (by simp), (CD.out.trans hc).cell q5 (by simp), (CD.out.trans hc).cell q6 (by simp), (CD.out.trans hc).cell d0 (by simp), (CD.out.trans hc).cell d1 (by simp)⟩ : w'.cell? ⟨g, o + i * 7, none⟩ = some (.int .i64 x.n) ∧ w'.cell? ⟨g, o + i * 7 + 1, none⟩ = some (.int .i64 x.s) ∧ w'.cell? ⟨g, o + i * 7 + 2, none⟩ = some (.string x.p) ∧ w'.cell? ⟨g, o + i * 7 + 3, none⟩ = some (.int .i64 x.k) ∧ w'.cell? ⟨g, o + i * 7 + 4, none⟩ = some (.int .i64 x.m) ∧ w'.cell? ⟨g, o + i * 7 + 5, none⟩ = some (.slice x.A x.l x.c) ∧ w'.cell? ⟨g, o + i * 7 + 6, none⟩ = some (.slice x.B x.bl x.bc) ∧ w'.cell? ⟨g0, 0, none⟩ = some (.int .i64 n) ∧ w'.cell? ⟨g0, 1, none⟩ = some (.int .i64 s)))
    clear q0 q1 q2 q3 q4 q5 q6 d0 d1 i2
    generalize wr.drew = wd at *
    refine sy 0 35 rfl rfl ?_; try simp only [Act.put, sA, s0, s1]
    refine sy 1 36 rfl rfl ?_; try simp only [Act.put, sA, s0, s1]
    refine sy 2 37 rfl rfl ?_; try simp only [Act.put, sA, s0, s1]
    refine sy 3 38 rfl rfl ?_; try simp only [Act.put, sA, s0, s1]
    refine sy 4 39 rfl rfl ?_; try simp only [Act.put, sA, s0, s1]
    refine sy 5 40 rfl rfl ?_; try simp only [Act.put, sA, s0, s1]
    refine sy 6 41 rfl rfl ?_; try simp only [Act.put, sA, s0, s1]
    refine sy 7 42 rfl rfl ?_; try simp only [Act.put, sA, s0, s1]
    refine sy 8 43 rfl rfl ?_; try simp only [Act.put, sA, s0, s1]
    refine sy 9 44 rfl rfl ?_ (hy := by (intro w hSw; (try dsimp only at hSw); obtain ⟨q0, q1, q2, q3, q4, q5, q6, q7, q8⟩ := hSw; go_simp; try with_reducible rfl))
    try simp only [Act.put, sA, s0, s1]
    refine sy 10 45 rfl rfl ?_ (hy := by (intro w hSw; (try dsimp only at hSw); obtain ⟨q0, q1, q2, q3, q4, q5, q6, q7, q8⟩ := hSw; go_simp; try with_reducible rfl))
    try simp only [Act.put, sA, s0, s1]
    refine on1 11 rfl (fun K hK => ?_)
    go_simp
    refine (shfind1_e wd x n s).mono ?_
    rintro r w6 ⟨rfl, h6⟩
    have C6 := h_ h6
    clear h6 hHeld
    refine hK.out _ _ (HH.out w6 C6.out) (fun hHeld => ?_)
    clear hK K; try simp only [Act.put, sA, s0, s1]
    refine sy 12 47 rfl rfl ?_; try simp only [Act.put, sA, s0, s1]
    refine sy 13 48 rfl rfl ?_; try simp only [Act.put, sA, s0, s1]
    refine sy 14 6 rfl rfl ?_; try simp only [Act.put, sA, s0, s1]
    refine sy 15 7 rfl rfl ?_; try simp only [Act.put, sA, s0, s1]
    refine wpAnyH_done (by kernel_rfl) ?_ _; clear hHeld HH
    have CE := h_ (C1.out.trans (HC.out.trans (CD.out.trans C6.out)))
    have LH := HI
    by_cases hz : cmpEd x n s = 0
    ·
     have AN : inE xs n s = true := by rw [ANS.out, decide_eq_true hz]
     have dz : ((cmpEd x n s == 0) : Bool) = true := by simpa using hz
     clear ANS hz; go_wp2; go_ret2
     (first | exact ⟨i, by omega, LH.out.1, LH.out.2, by rw [AN]; first | rfl | (show Ending.returned (.tuple #[.int .i64 (i : Int), .bool (cmpEd x n s == 0)]) = _; rw [dz]), CE.out⟩ | exact ⟨i, by omega, LH.out.1, LH.out.2, by first | rfl | (rw [AN]; rfl), CE.out⟩ | exact ⟨i, by omega, LH.out.1, LH.out.2, by show Ending.returned (.tuple #[.int .i64 (i : Int), .bool (cmpEd x n s == 0)]) = _; rw [dz], CE.out⟩)
    ·
     have AN : inE xs n s = false := by rw [ANS.out, decide_eq_false hz]
     have dz : ((cmpEd x n s == 0) : Bool) = false := by simpa using hz
     clear ANS hz; go_wp2; go_ret2
     (first | exact ⟨i, by omega, LH.out.1, LH.out.2, by rw [AN]; first | rfl | (show Ending.returned (.tuple #[.int .i64 (i : Int), .bool (cmpEd x n s == 0)]) = _; rw [dz]), CE.out⟩ | exact ⟨i, by omega, LH.out.1, LH.out.2, by first | rfl | (rw [AN]; rfl), CE.out⟩ | exact ⟨i, by omega, LH.out.1, LH.out.2, by show Ending.returned (.tuple #[.int .i64 (i : Int), .bool (cmpEd x n s == 0)]) = _; rw [dz], CE.out⟩)
   ·
    have k1 : ¬ (i : Int) < (xs.length : Int) := by omega
    have k2 : decide ((i : Int) < (xs.length : Int)) = false := by simp; omega
    have k3 : decide (i < xs.length) = false := by simp; omega
    have ANS : Hid (inE xs n s = false) := h_ (inE_no HNM.out HI.out.1 HI.out.2 (fun y hy => absurd ((List.getElem?_eq_some_iff.1 hy).1) hin))
    go_upto_region 8 with fail
    refine wp_region_held_drew (S := fun _ => True) (by kernel_rfl) trivial (fun hHeld => ?_)
    have CD := h_ (Chg.refl [] wr).drew
    generalize wr.drew = wd at *
    clear i2
    refine sy 0 35 rfl rfl ?_ (hS := trivial)
    try simp only [Act.put, sA, s0, s1]
    refine sy 1 36 rfl rfl ?_ (hS := trivial)
    try simp only [Act.put, sA, s0, s1]
    refine sy 2 37 rfl rfl ?_ (hS := trivial)
    try simp only [Act.put, sA, s0, s1]
    refine sy 3 38 rfl rfl ?_ (hS := trivial)
    try simp only [Act.put, sA, s0, s1]
    refine sy 4 39 rfl rfl ?_ (hS := trivial)
    try simp only [Act.put, sA, s0, s1]
    refine sn 5 40 rfl rfl ?_ (hS := trivial)
    try simp only [Act.put, sA, s0, s1]
    refine sn 6 41 rfl rfl ?_ (hS := trivial)
    try simp only [Act.put, sA, s0, s1]
    refine sn 7 42 rfl rfl ?_ (hS := trivial)
    try simp only [Act.put, sA, s0, s1]
    refine sn 8 43 rfl rfl ?_ (hS := trivial)
    try simp only [Act.put, sA, s0, s1]
    refine sn 9 44 rfl rfl ?_ (hS := trivial)
    try simp only [Act.put, sA, s0, s1]
    refine sn 10 45 rfl rfl ?_ (hS := trivial)
    try simp only [Act.put, sA, s0, s1]
    refine sn 11 46 rfl rfl ?_ (hS := trivial)
    try simp only [Act.put, sA, s0, s1]
    refine sn 12 47 rfl rfl ?_ (hS := trivial)
    try simp only [Act.put, sA, s0, s1]
    refine sy 13 48 rfl rfl ?_ (hS := trivial)
    try simp only [Act.put, sA, s0, s1]
    refine sy 14 6 rfl rfl ?_ (hS := trivial)
    try simp only [Act.put, sA, s0, s1]
    refine sy 15 7 rfl rfl ?_ (hS := trivial)
    try simp only [Act.put, sA, s0, s1]
    refine wpAnyH_done (by kernel_rfl) ?_ _; clear hHeld
    have CE := h_ (C1.out.trans (HC.out.trans CD.out))
    have AN := ANS.out
    have LH := HI
    go_wp2; go_ret2
    (first | exact ⟨i, by omega, LH.out.1, LH.out.2, by rw [AN]; first | rfl | (show Ending.returned (.tuple #[.int .i64 (i : Int), .bool (cmpEd x n s == 0)]) = _; rw [dz]), CE.out⟩ | exact ⟨i, by omega, LH.out.1, LH.out.2, by first | rfl | (rw [AN]; rfl), CE.out⟩ | exact ⟨i, by omega, LH.out.1, LH.out.2, by show Ending.returned (.tuple #[.int .i64 (i : Int), .bool (cmpEd x n s == 0)]) = _; rw [dz], CE.out⟩)

set_option maxRecDepth 100000 in
theorem shfind_any (w : World) (A : Option Addr) (c : Nat) (xs : List EvT) (n s : Int) (h : RdK evTy w A xs.length xs) (hn : UpE xs) (hl : xs.length ≤ 100000) :
  Calls Tryz.prog 160 #[.slice A xs.length c, .agg #[.int .i64 n, .int .i64 s]] w fun e w' => ∃ i : Nat, i ≤ xs.length ∧ LoE xs n s i ∧ HiE xs n s i ∧ e = .returned (.tuple #[.int .i64 (i : Int), .bool (inE xs n s)]) ∧ Chg [] w w' := by
 obtain ⟨w1, hw1, c1, b1⟩ := news1 w (.cells #[.int .i64 n, .int .i64 s] 35)
 have W1 := h_ hw1
 have C1 := h_ c1
 have CC := h_ (shbin_any w1 A c xs n s (h.chg c1 (by simp)) hn hl)
 obtain ⟨d0, d1⟩ := ce2 b1
 clear hw1 c1 b1 h hn hl
 go_enter Tryz.func160, Tryz.ntmps160
 go_upto_region 1 with fail
 rw [← W1.out]
 generalize w.heap.size = g1 at *
 clear W1; go_wp2_with fail; clear d0 d1
 refine CC.out.mono ?_
 rintro r w2 ⟨i, hi, lo, hh, rfl, hc⟩
 have P := h_ (And.intro hi (And.intro lo hh))
 replace C1 := h_ (C1.out.trans hc)
 clear hc CC hi lo hh; go_wp2
 first | go_ret2 | go_ret
 exact ⟨i, P.out.1, P.out.2.1, P.out.2.2, rfl, C1.out⟩
end
section
open Go.RowKit Go.Lib


set_option maxRecDepth 100000 in
theorem shwithout_any (w : World) (A : Option Addr) (c : Nat) (xs : List EvT) (es : List EvP) (y : EvT) (f : EvP) (h : RdK evTy w A xs.length xs) (hx : EvsR w xs es) (hn : xs.length ≤ 100000) (hy : EvR w y f) (hs : ∀ e ∈ es, EvSm e) (ht : EvSm f) :
  Calls Tryz.prog 161 #[.slice A xs.length c, .agg #[.int .i64 y.n, .int .i64 y.s, .string y.p, .int .i64 y.k, .int .i64 y.m, .slice y.A y.l y.c, .slice y.B y.bl y.bc], .func (.func 162) #[] #[]] w fun r w' => ∃ (A' : Option Addr) (c' : Nat) (ys : List EvT), r = .returned (.slice A' ys.length c') ∧ ys.length ≤ xs.length ∧ EvsR w ys (es.filter (fun e => !aheadP e f)) ∧ OwnK evTy w' A' c' ys ∧ (∀ a, A' = some a → w.heap.size ≤ a.block) ∧ Chg [] w w' := by
 obtain ⟨w2, hw2, c2, b0, b1⟩ := news2 w (.cells #[.int .i64 y.n, .int .i64 y.s, .string y.p, .int .i64 y.k, .int .i64 y.m, .slice y.A y.l y.c, .slice y.B y.bl y.bc] 40) (.cells #[.func (.func 162) #[] #[]] 44)
 have W2 := h_ hw2
 have C2 := h_ c2
 have HC := h_ (cloneEv_any w2 A xs.length c xs (h.chg c2 (by simp)) (by omega))
 have DEL := h_ (fun (w3 : World) (A3 : Option Addr) (c3 : Nat) (h0 : Chg [] w2 w3) (ho : OwnK evTy w3 A3 c3 xs) (hA : ∀ a, A3 = some a → w2.heap.size ≤ a.block) => shdel_any w w2 w3 A3 c3 xs es (w.heap.size + 1) _ w.heap.size y f c2 h0 ho hA hx hn b1 b0 (hy.chg c2) hs ht)
 have HX := h_ hx
 have SZ := h_ c2.size
 clear hw2 c2 b0 b1 h hx hn hy hs ht
 go_enter Tryz.func161, Tryz.ntmps161
 go_upto_region 1 with fail
 rw [← W2.out]
 obtain ⟨g0, hg0⟩ : ∃ g, w.heap.size = g := ⟨_, rfl⟩
 clear W2; go_wp2_with fail
 refine HC.out.mono ?_
 rintro r w3 ⟨A3, c3, rfl, ho, hA, hc⟩
 have D := h_ (DEL.out w3 A3 c3 hc ho hA)
 have NA := h_ hA
 clear ho hA hc HC DEL hg0; go_wp2_with fail
 refine D.out.mono ?_
 rintro r w4 ⟨ys, rfl, hl, he, ho, hc⟩
 have P := h_ (And.intro hl (And.intro he (And.intro ho hc)))
 clear D hl he ho hc; go_wp2; go_ret
 exact ⟨A3, c3, ys, rfl, P.out.1, P.out.2.1, P.out.2.2.1, fun a ha => Nat.le_trans SZ.out (NA.out a ha), C2.out.trans P.out.2.2.2⟩
end
section
open Go.RowKit Go.Lib


theorem EsF.low {w : World} {lo lo' hi : Nat} {A : Option Addr} {c : Nat} {ys : List EvT} {es : List EvP} (h : EsF w lo hi A c ys es) (hh : lo' ≤ lo) : EsF w lo' hi A c ys es :=
 ⟨h.row, fun a ha => ⟨Nat.le_trans hh (h.rowAt a ha).1, (h.rowAt a ha).2⟩, h.all.low hh⟩
set_option maxRecDepth 100000 in
theorem shput_any (w : World) (A : Option Addr) (c : Nat) (xs : List EvT) (es : List EvP) (y : EvT) (f : EvP) (h : RdK evTy w A xs.length xs) (hx : EvsR w xs es) (hn : xs.length ≤ 1000) (hs : ∀ e ∈ es, EvSm e ∧ e.q.length ≤ 100000) (hy : EvR w y f) (ht : EvSm f ∧ f.q.length ≤ 100000) :
  Calls Tryz.prog 106 #[.slice A xs.length c, .agg #[.int .i64 y.n, .int .i64 y.s, .string y.p, .int .i64 y.k, .int .i64 y.m, .slice y.A y.l y.c, .slice y.B y.bl y.bc]] w fun r w' => ∃ (A' : Option Addr) (c' : Nat) (ys : List EvT), r = .returned (.tuple #[.slice A' ys.length c', .int .i64 (shJoinE es [f]).1]) ∧ EsF w' w.heap.size w'.heap.size A' c' ys (shJoinE es [f]).2 ∧ Chg [] w w' := by

 obtain ⟨w1, hw1, c1, b1⟩ := news1 w (.cells #[.int .i64 y.n, .int .i64 y.s, .string y.p, .int .i64 y.k, .int .i64 y.m, .slice y.A y.l y.c, .slice y.B y.bl y.bc] 40)
 have W1 := h_ hw1
 have C1 := h_ c1
 have B1 := h_ b1
 have HA := h_ (h.chg c1 (by simp))
 have HX := h_ (hx.chg c1)
 have HN := h_ hn
 have HS : Hid (∀ e ∈ es, EvSm e) := h_ (fun e he => (hs e he).1)
 have HQ : Hid (∀ e ∈ es, e.b.length ≤ 140737488351232 ∧ e.q.length ≤ 100000) := h_ (fun e he => ⟨(hs e he).1.2.1, (hs e he).2⟩)
 have HY := h_ (hy.chg c1)
 have HT := h_ ht.1
 have HTQ := h_ ht.2
 have PC := h_ (Chg.refl [] w1)
 have RJ : Hid (∃ R, R = shJoinE es [f]) := h_ ⟨_, rfl⟩
 clear hw1 c1 b1 h hx hn hs hy ht
 go_enter Tryz.func106, Tryz.ntmps106
 go_upto_region 1 with fail
 rw [← W1.out]
 obtain ⟨g1, hg1⟩ : ∃ g, w.heap.size = g := ⟨_, rfl⟩
 have HG := h_ hg1
 rw [hg1] at B1 ⊢
 clear W1 hg1 RJ
 have HB : Hid (∀ w', Chg [] w1 w' → (w'.cell? ⟨g1, 0, none⟩ = some (.int .i64 y.n) ∧ w'.cell? ⟨g1, 1, none⟩ = some (.int .i64 y.s) ∧ w'.cell? ⟨g1, 2, none⟩ = some (.string y.p) ∧ w'.cell? ⟨g1, 3, none⟩ = some (.int .i64 y.k) ∧ w'.cell? ⟨g1, 4, none⟩ = some (.int .i64 y.m) ∧ w'.cell? ⟨g1, 5, none⟩ = some (.slice y.A y.l y.c) ∧ w'.cell? ⟨g1, 6, none⟩ = some (.slice y.B y.bl y.bc))) := h_ (fun w' hc => by
  have b := hc.at_ B1.out (by simp)
  exact ⟨cell_of b 0, cell_of b 1, cell_of b 2, cell_of b 3, cell_of b 4, cell_of b 5, cell_of b 6⟩)
 have SCK : Hid (∀ w', Chg [] w1 w' → Calls Tryz.prog 65 #[.slice A xs.length c] w' fun r w2 => r = .returned (.int .i64 (shE es)) ∧ Chg [] w' w2) := h_ (fun w' hc => shcheck_any w' A c xs es (HA.out.chg hc (by simp)) (HX.out.chg hc) (by have := HN.out; omega) HS.out)
 have ECK : Hid (∀ w', Chg [] w1 w' → Calls Tryz.prog 56 #[.agg #[.int .i64 y.n, .int .i64 y.s, .string y.p, .int .i64 y.k, .int .i64 y.m, .slice y.A y.l y.c, .slice y.B y.bl y.bc]] w' fun r w2 => r = .returned (.int .i64 (chkEv f)) ∧ Chg [] w' w2) := h_ (fun w' hc => evcheck_any w' y f (HY.out.chg hc) HT.out)
 rcases shE_two es with e1 | e1
 rotate_left
 ·
  have NO : Hid (shJoinE es [f] = (2, [])) := h_ (shJoin_noA (fun q => by rw [shE_zero.2 q] at e1; cases e1))
  refine wp_region_held_drew (S := fun w' => Chg [] w1 w') (by kernel_rfl) (Chg.refl [] w1).drew (fun hHeld => ?_)
  refine sy 0 11 rfl rfl ?_; try simp only [Act.put, sA, s0, s1]
  refine on1 1 rfl (fun K hK => ?_)
  go_simp
  refine (SCK.out _ hHeld).mono ?_
  rintro r w3 ⟨rfl, hc⟩
  rw [e1]
  have C9 := h_ (hHeld.trans hc)
  clear hc hHeld
  refine hK.out _ _ C9.out (fun hHeld => ?_)
  clear hK K; try simp only [Act.put, sA, s0, s1]
  refine sy 2 13 rfl rfl ?_; try simp only [Act.put, sA, s0, s1]
  refine sy 3 14 rfl rfl ?_; try simp only [Act.put, sA, s0, s1]
  refine sn 4 15 rfl rfl ?_; try simp only [Act.put, sA, s0, s1]
  refine sn 5 16 rfl rfl ?_; try simp only [Act.put, sA, s0, s1]
  refine sn 6 17 rfl rfl ?_; try simp only [Act.put, sA, s0, s1]
  refine sy 7 18 rfl rfl ?_; try simp only [Act.put, sA, s0, s1]
  refine sy 8 19 rfl rfl ?_; try simp only [Act.put, sA, s0, s1]
  refine sn 9 20 rfl rfl ?_; try simp only [Act.put, sA, s0, s1]
  refine sn 10 21 rfl rfl ?_; try simp only [Act.put, sA, s0, s1]
  refine sn 11 22 rfl rfl ?_; try simp only [Act.put, sA, s0, s1]
  refine sn 12 23 rfl rfl ?_; try simp only [Act.put, sA, s0, s1]
  refine sn 13 24 rfl rfl ?_; try simp only [Act.put, sA, s0, s1]
  refine sn 14 25 rfl rfl ?_; try simp only [Act.put, sA, s0, s1]
  refine sn 15 26 rfl rfl ?_; try simp only [Act.put, sA, s0, s1]
  refine sn 16 27 rfl rfl ?_; try simp only [Act.put, sA, s0, s1]
  refine sn 17 28 rfl rfl ?_; try simp only [Act.put, sA, s0, s1]
  refine sn 18 29 rfl rfl ?_; try simp only [Act.put, sA, s0, s1]
  refine sn 19 30 rfl rfl ?_; try simp only [Act.put, sA, s0, s1]
  refine sn 20 31 rfl rfl ?_; try simp only [Act.put, sA, s0, s1]
  refine sy 21 32 rfl rfl ?_; try simp only [Act.put, sA, s0, s1]
  refine wpAnyH_done (by kernel_rfl) ?_ _
  have PE := h_ (C1.out.trans C9.out)
  clear hHeld HB SCK ECK; go_wp2; go_ret2
  rw [NO.out]
  exact ⟨none, 0, [], rfl, EsF.nil _ _ _, PE.out⟩
 have SOK : Hid (ShOk es) := h_ (shE_zero.1 e1)
 rcases chkEv_two f with e2 | e2
 rotate_left
 ·
  have NO : Hid (shJoinE es [f] = (2, [])) := h_ (shJoin_no1 (by omega))
  refine wp_region_held_drew (S := fun w' => Chg [] w1 w') (by kernel_rfl) (Chg.refl [] w1).drew (fun hHeld => ?_)
  refine sy 0 11 rfl rfl ?_; try simp only [Act.put, sA, s0, s1]
  refine on1 1 rfl (fun K hK => ?_)
  go_simp
  refine (SCK.out _ hHeld).mono ?_
  rintro r w3 ⟨rfl, hc⟩
  rw [e1]
  have C9 := h_ (hHeld.trans hc)
  clear hc hHeld
  refine hK.out _ _ C9.out (fun hHeld => ?_)
  clear hK K; try simp only [Act.put, sA, s0, s1]
  refine sy 2 13 rfl rfl ?_; try simp only [Act.put, sA, s0, s1]
  refine sy 3 14 rfl rfl ?_; try simp only [Act.put, sA, s0, s1]
  refine sy 4 15 rfl rfl ?_ (hy := by (intro w hSw; (try dsimp only at hSw); have hq := HB.out _ hSw; obtain ⟨q0, q1, q2, q3, q4, q5, q6⟩ := hq; go_simp; try with_reducible rfl))
  try simp only [Act.put, sA, s0, s1]
  refine on1 5 rfl (fun K hK => ?_)
  go_simp
  refine (ECK.out _ hHeld).mono ?_
  rintro r w4 ⟨rfl, hc⟩
  rw [e2]
  have C9 := h_ (hHeld.trans hc)
  clear hc hHeld
  refine hK.out _ _ C9.out (fun hHeld => ?_)
  clear hK K; try simp only [Act.put, sA, s0, s1]
  refine sy 6 17 rfl rfl ?_; try simp only [Act.put, sA, s0, s1]
  refine sy 7 18 rfl rfl ?_; try simp only [Act.put, sA, s0, s1]
  refine sy 8 19 rfl rfl ?_; try simp only [Act.put, sA, s0, s1]
  refine sn 9 20 rfl rfl ?_; try simp only [Act.put, sA, s0, s1]
  refine sn 10 21 rfl rfl ?_; try simp only [Act.put, sA, s0, s1]
  refine sn 11 22 rfl rfl ?_; try simp only [Act.put, sA, s0, s1]
  refine sn 12 23 rfl rfl ?_; try simp only [Act.put, sA, s0, s1]
  refine sn 13 24 rfl rfl ?_; try simp only [Act.put, sA, s0, s1]
  refine sn 14 25 rfl rfl ?_; try simp only [Act.put, sA, s0, s1]
  refine sn 15 26 rfl rfl ?_; try simp only [Act.put, sA, s0, s1]
  refine sn 16 27 rfl rfl ?_; try simp only [Act.put, sA, s0, s1]
  refine sn 17 28 rfl rfl ?_; try simp only [Act.put, sA, s0, s1]
  refine sn 18 29 rfl rfl ?_; try simp only [Act.put, sA, s0, s1]
  refine sn 19 30 rfl rfl ?_; try simp only [Act.put, sA, s0, s1]
  refine sn 20 31 rfl rfl ?_; try simp only [Act.put, sA, s0, s1]
  refine sy 21 32 rfl rfl ?_; try simp only [Act.put, sA, s0, s1]
  refine wpAnyH_done (by kernel_rfl) ?_ _
  have PE := h_ (C1.out.trans C9.out)
  clear hHeld HB SCK ECK; go_wp2; go_ret2
  rw [NO.out]
  exact ⟨none, 0, [], rfl, EsF.nil _ _ _, PE.out⟩
 have CF := h_ e2
 by_cases h0 : xs.length = 0
 ·
  have YES : Hid (shJoinE es [f] = (0, putE es f)) := h_ (shPut_yes SOK.out CF.out (fun x hx => by
   have := HX.out.1
   have := (List.getElem?_eq_some_iff.1 hx).1
   omega))
  have l0 : ¬ (0 : Int) < (xs.length : Int) := by omega
  have l1 : ¬ 0 < xs.length := by omega
  have l2 : decide ((0 : Int) < (xs.length : Int)) = false := decide_eq_false (by omega)
  have l3 : decide (0 < xs.length) = false := decide_eq_false (by omega)
  clear h0
  refine wp_region_held_drew (S := fun w' => Chg [] w1 w') (by kernel_rfl) (Chg.refl [] w1).drew (fun hHeld => ?_)
  refine sy 0 11 rfl rfl ?_; try simp only [Act.put, sA, s0, s1]
  refine on1 1 rfl (fun K hK => ?_)
  go_simp
  refine (SCK.out _ hHeld).mono ?_
  rintro r w3 ⟨rfl, hc⟩
  rw [e1]
  have C9 := h_ (hHeld.trans hc)
  clear hc hHeld
  refine hK.out _ _ C9.out (fun hHeld => ?_)
  clear hK K; try simp only [Act.put, sA, s0, s1]
  refine sy 2 13 rfl rfl ?_; try simp only [Act.put, sA, s0, s1]
  refine sy 3 14 rfl rfl ?_; try simp only [Act.put, sA, s0, s1]
  refine sy 4 15 rfl rfl ?_ (hy := by (intro w hSw; (try dsimp only at hSw); have hq := HB.out _ hSw; obtain ⟨q0, q1, q2, q3, q4, q5, q6⟩ := hq; go_simp; try with_reducible rfl))
  try simp only [Act.put, sA, s0, s1]
  refine on1 5 rfl (fun K hK => ?_)
  go_simp
  refine (ECK.out _ hHeld).mono ?_
  rintro r w4 ⟨rfl, hc⟩
  rw [e2]
  have C9 := h_ (hHeld.trans hc)
  clear hc hHeld
  refine hK.out _ _ C9.out (fun hHeld => ?_)
  clear hK K; try simp only [Act.put, sA, s0, s1]
  refine sy 6 17 rfl rfl ?_; try simp only [Act.put, sA, s0, s1]
  refine sy 7 18 rfl rfl ?_; try simp only [Act.put, sA, s0, s1]
  refine sy 8 19 rfl rfl ?_; try simp only [Act.put, sA, s0, s1]
  refine sy 9 20 rfl rfl ?_; try simp only [Act.put, sA, s0, s1]
  refine sy 10 21 rfl rfl ?_; try simp only [Act.put, sA, s0, s1]
  refine sy 11 22 rfl rfl ?_; try simp only [Act.put, sA, s0, s1]
  refine sy 12 23 rfl rfl ?_; try simp only [Act.put, sA, s0, s1]
  refine sn 13 24 rfl rfl ?_; try simp only [Act.put, sA, s0, s1]
  refine sn 14 25 rfl rfl ?_; try simp only [Act.put, sA, s0, s1]
  refine sn 15 26 rfl rfl ?_; try simp only [Act.put, sA, s0, s1]
  refine sn 16 27 rfl rfl ?_; try simp only [Act.put, sA, s0, s1]
  refine sn 17 28 rfl rfl ?_; try simp only [Act.put, sA, s0, s1]
  refine sn 18 29 rfl rfl ?_; try simp only [Act.put, sA, s0, s1]
  refine sn 19 30 rfl rfl ?_; try simp only [Act.put, sA, s0, s1]
  refine sy 20 31 rfl rfl ?_; try simp only [Act.put, sA, s0, s1]
  refine sy 21 32 rfl rfl ?_; try simp only [Act.put, sA, s0, s1]
  refine wpAnyH_done (by kernel_rfl) ?_ _; clear l0 l1 l2 l3
  have PC := C9
  clear hHeld SCK ECK C9
  have FI := h_ (shfind_any w4 A c xs y.n y.s (HA.out.chg PC.out (by simp)) (HX.out.up SOK.out.2.2.1) (by have := HN.out; omega))
  obtain ⟨y0, y1, y2, y3, y4, y5, y6⟩ := HB.out _ PC.out
  go_wp2_with fail; clear y0 y1 y2 y3 y4 y5 y6
  refine FI.out.mono ?_
  rintro r w5 ⟨i0, hi0, lo0, hh0, rfl, hc⟩
  have PC5 := h_ (PC.out.trans hc)
  clear hc FI PC hi0 lo0 hh0
  rcases hin : inE xs y.n y.s with _ | _
  rotate_left
  ·
   have ST : Hid (stayE es f = true) := h_ (by rw [stay_or, ← HY.out.n, ← HY.out.s, ← HX.out.inE, hin]; rfl)
   clear hin
   have PF := PC5
   have FE := h_ (frevents_any w5 A c xs es (HA.out.chg PF.out (by simp)) (HX.out.chg PF.out) (by have := HN.out; omega) HQ.out)
   go_wp2_with fail
   refine FE.out.mono ?_
   rintro r w7 ⟨A7, c7, ys, rfl, hl, he, hc⟩
   have P7 := h_ (And.intro he (C1.out.trans (PF.out.trans hc)))
   have LO : Hid (w.heap.size ≤ w5.heap.size) := h_ (Nat.le_trans C1.out.size PF.out.size)
   clear hl he hc FE; go_wp2; go_ret2
   rw [YES.out, put_stays ST.out]
   exact ⟨A7, c7, ys, rfl, P7.out.1.low LO.out, P7.out.2⟩
  have IN := h_ hin
  clear hin
  have AHD := h_ (shahead_any w5 A c xs es y f (HA.out.chg PC5.out (by simp)) (HX.out.chg PC5.out) (by have := HN.out; omega) (HY.out.chg PC5.out) HS.out HT.out)
  obtain ⟨y0, y1, y2, y3, y4, y5, y6⟩ := HB.out _ PC5.out
  go_wp2_with fail; clear y0 y1 y2 y3 y4 y5 y6
  refine AHD.out.mono ?_
  rintro r w6 ⟨rfl, hc⟩
  have PC6 := h_ (PC5.out.trans hc)
  clear hc AHD PC5
  rcases ha : es.any (fun e => aheadP f e) with _ | _
  rotate_left
  ·
   have ST : Hid (stayE es f = true) := h_ (by rw [stay_or, ha, Bool.or_true])
   clear ha
   have PF := PC6
   have FE := h_ (frevents_any w6 A c xs es (HA.out.chg PF.out (by simp)) (HX.out.chg PF.out) (by have := HN.out; omega) HQ.out)
   go_wp2_with fail
   refine FE.out.mono ?_
   rintro r w7 ⟨A7, c7, ys, rfl, hl, he, hc⟩
   have P7 := h_ (And.intro he (C1.out.trans (PF.out.trans hc)))
   have LO : Hid (w.heap.size ≤ w6.heap.size) := h_ (Nat.le_trans C1.out.size PF.out.size)
   clear hl he hc FE; go_wp2; go_ret2
   rw [YES.out, put_stays ST.out]
   exact ⟨A7, c7, ys, rfl, P7.out.1.low LO.out, P7.out.2⟩
  have NST : Hid (stayE es f = false) := h_ (by rw [stay_or, ha, ← HY.out.n, ← HY.out.s, ← HX.out.inE, IN.out]; rfl)
  clear ha
  have WO := h_ (shwithout_any w6 A c xs es y f (HA.out.chg PC6.out (by simp)) (HX.out.chg PC6.out) (by have := HN.out; omega) (HY.out.chg PC6.out) HS.out HT.out)
  obtain ⟨y0, y1, y2, y3, y4, y5, y6⟩ := HB.out _ PC6.out
  go_wp2_with fail; clear y0 y1 y2 y3 y4 y5 y6
  refine WO.out.mono ?_
  rintro r w7 ⟨A7, c7, ys, rfl, hl7, he7, ho7, hn7, hc⟩
  have C67 := h_ hc
  have O7 := h_ ho7
  have N7 : Hid (∀ a, A7 = some a → w6.heap.size ≤ a.block) := h_ hn7
  have E7 := h_ he7
  have L7 : Hid (ys.length ≤ 1000) := h_ (by have := HN.out; omega)
  clear hc ho7 hn7 he7 hl7 WO
  have FI := h_ (shfind_any w7 A7 c7 ys y.n y.s O7.out.reads (E7.out.up (keep_up SOK.out.2.2.1)) (by have := L7.out; omega))
  obtain ⟨y0, y1, y2, y3, y4, y5, y6⟩ := HB.out _ (PC6.out.trans C67.out)
  go_wp2_with fail; clear y0 y1 y2 y3 y4 y5 y6
  refine FI.out.mono ?_
  rintro r w8 ⟨i, hi, lo, hh, rfl, hc⟩
  have C68 := h_ (C67.out.trans hc)
  have O8 := h_ (O7.out.chg hc (by simp))
  have PI := h_ (And.intro hi (put_ins E7.out (HY.out.chg PC6.out) NST.out hi lo hh))
  clear hc FI C67 O7 E7 hi lo hh
  obtain ⟨w9, hw9, c9, b9⟩ := news1 w8 (.cells #[.int .i64 y.n, .int .i64 y.s, .string y.p, .int .i64 y.k, .int .i64 y.m, .slice y.A y.l y.c, .slice y.B y.bl y.bc] 40)
  have W9 := h_ hw9
  have INS := h_ (insev_any w9 A7 c7 ys i w8.heap.size y (O8.out.chg c9 (by simp)) PI.out.1 (by have := L7.out; omega) b9 (fun a ha e => by
   have := O8.out.lt a ha
   omega))
  have C69 := h_ (C68.out.trans c9)
  clear hw9 c9 b9 O8
  obtain ⟨y0, y1, y2, y3, y4, y5, y6⟩ := HB.out _ (PC6.out.trans C68.out)
  go_wp2_with (rw [← W9.out])
  clear y0 y1 y2 y3 y4 y5 y6
  refine INS.out.mono ?_
  rintro r wa ⟨Aa, ca, rfl, hoa, hna, hca⟩
  have ZL : Hid (ys.length + 1 = (ys.take i ++ y :: ys.drop i).length) := h_ (by have := PI.out.1; simp; omega)
  have C6a := h_ (hca w6 C69.out N7.out)
  have OA := h_ hoa
  have PA := h_ (PI.out.2.chg C6a.out)
  obtain ⟨zs, hzs⟩ : ∃ zs, zs = ys.take i ++ y :: ys.drop i := ⟨_, rfl⟩
  have LZ : Hid (zs.length ≤ 100000) := h_ (by rw [hzs, ← ZL.out]; have := L7.out; omega)
  rw [← hzs] at ZL OA PA
  clear hoa hna hca hzs INS C69 C68 W9
  rw [ZL.out]
  have FE := h_ (frevents_any wa Aa ca zs (putE es f) OA.out.reads PA.out LZ.out (fun e he => (put_mem he).elim (fun q => by rw [q]; exact ⟨HT.out.2.1, HTQ.out⟩) (HQ.out e)))
  go_wp2_with fail
  refine FE.out.mono ?_
  rintro r wb ⟨Ab, cb, us, rfl, hl, he, hc⟩
  have P7 := h_ (And.intro he (C1.out.trans (PC6.out.trans (C6a.out.trans hc))))
  have LO : Hid (w.heap.size ≤ wa.heap.size) := h_ (Nat.le_trans C1.out.size (Nat.le_trans PC6.out.size C6a.out.size))
  clear hl he hc FE; go_wp2; go_ret2
  rw [YES.out]
  exact ⟨Ab, cb, us, rfl, P7.out.1.low LO.out, P7.out.2⟩
 obtain ⟨g3, o3, eA, _⟩ := HA.out.line (by omega)
 subst eA
 obtain ⟨y0, f0, ey0, ef0, ry0⟩ := HX.out.at_ (show 0 < xs.length by omega)
 have H0 : Hid (∀ w', Chg [] w1 w' → w'.cell? ⟨g3, o3 + 2, none⟩ = some (.string y0.p)) := h_ (fun w' hc => by
  have q := evCells (HA.out.chg hc (by simp)) ey0
  rw [Nat.zero_mul, Nat.add_zero] at q
  exact q.2.2.1)
 have XP : Hid (y0.p = strOf f0.p ∧ y.p = strOf f.p) := h_ ⟨ry0.p, HY.out.p⟩
 have EF0 := h_ ef0
 have l0 : (0 : Int) < (xs.length : Int) := by omega
 have l1 : 0 < xs.length := by omega
 have l2 : decide ((0 : Int) < (xs.length : Int)) = true := by simp; omega
 have l3 : decide (0 < xs.length) = true := by simp; omega
 clear ey0 ef0 ry0 h0
 by_cases hp : f0.p = f.p
 rotate_left
 ·
  have NO : Hid (shJoinE es [f] = (2, [])) := h_ (shJoin_path EF0.out rfl hp)
  have p1' : ((y0.p == y.p) : Bool) = false := by rw [XP.out.1, XP.out.2]; exact strOf_ne hp
  have p2' : ¬ y0.p = y.p := by rw [XP.out.1, XP.out.2]; exact strOf_ne2 hp
  have p3' : ¬ y0.p.toList = y.p.toList := by rw [XP.out.1, XP.out.2]; exact strOf_ne3s hp
  have p4' : ((y0.p.toList == y.p.toList) : Bool) = false := by simpa using p3'
  clear hp
  refine wp_region_held_drew (S := fun w' => Chg [] w1 w') (by kernel_rfl) (Chg.refl [] w1).drew (fun hHeld => ?_)
  refine sy 0 11 rfl rfl ?_; try simp only [Act.put, sA, s0, s1]
  refine on1 1 rfl (fun K hK => ?_)
  go_simp
  refine (SCK.out _ hHeld).mono ?_
  rintro r w3 ⟨rfl, hc⟩
  rw [e1]
  have C9 := h_ (hHeld.trans hc)
  clear hc hHeld
  refine hK.out _ _ C9.out (fun hHeld => ?_)
  clear hK K; try simp only [Act.put, sA, s0, s1]
  refine sy 2 13 rfl rfl ?_; try simp only [Act.put, sA, s0, s1]
  refine sy 3 14 rfl rfl ?_; try simp only [Act.put, sA, s0, s1]
  refine sy 4 15 rfl rfl ?_ (hy := by (intro w hSw; (try dsimp only at hSw); have hq := HB.out _ hSw; obtain ⟨q0, q1, q2, q3, q4, q5, q6⟩ := hq; go_simp; try with_reducible rfl))
  try simp only [Act.put, sA, s0, s1]
  refine on1 5 rfl (fun K hK => ?_)
  go_simp
  refine (ECK.out _ hHeld).mono ?_
  rintro r w4 ⟨rfl, hc⟩
  rw [e2]
  have C9 := h_ (hHeld.trans hc)
  clear hc hHeld
  refine hK.out _ _ C9.out (fun hHeld => ?_)
  clear hK K; try simp only [Act.put, sA, s0, s1]
  refine sy 6 17 rfl rfl ?_; try simp only [Act.put, sA, s0, s1]
  refine sy 7 18 rfl rfl ?_; try simp only [Act.put, sA, s0, s1]
  refine sy 8 19 rfl rfl ?_; try simp only [Act.put, sA, s0, s1]
  refine sy 9 20 rfl rfl ?_; try simp only [Act.put, sA, s0, s1]
  refine sy 10 21 rfl rfl ?_; try simp only [Act.put, sA, s0, s1]
  refine sy 11 22 rfl rfl ?_; try simp only [Act.put, sA, s0, s1]
  refine sy 12 23 rfl rfl ?_; try simp only [Act.put, sA, s0, s1]
  refine sy 13 24 rfl rfl ?_; try simp only [Act.put, sA, s0, s1]
  refine sy 14 25 rfl rfl ?_; try simp only [Act.put, sA, s0, s1]
  refine sy 15 26 rfl rfl ?_; try simp only [Act.put, sA, s0, s1]
  refine sy 16 27 rfl rfl ?_ (hy := by (intro w hSw; (try dsimp only at hSw); have hq := H0.out _ hSw; go_simp; try with_reducible rfl))
  try simp only [Act.put, sA, s0, s1]
  refine sy 17 28 rfl rfl ?_; try simp only [Act.put, sA, s0, s1]
  refine sy 18 29 rfl rfl ?_ (hy := by (intro w hSw; (try dsimp only at hSw); have hq := HB.out _ hSw; obtain ⟨q0, q1, q2, q3, q4, q5, q6⟩ := hq; go_simp; try with_reducible rfl))
  try simp only [Act.put, sA, s0, s1]
  refine sy 19 30 rfl rfl ?_; try simp only [Act.put, sA, s0, s1]
  refine sy 20 31 rfl rfl ?_; try simp only [Act.put, sA, s0, s1]
  refine sy 21 32 rfl rfl ?_; try simp only [Act.put, sA, s0, s1]
  refine wpAnyH_done (by kernel_rfl) ?_ _
  have PE := h_ (C1.out.trans C9.out)
  clear hHeld HB SCK ECK; go_wp2; go_ret2
  rw [NO.out]
  exact ⟨none, 0, [], rfl, EsF.nil _ _ _, PE.out⟩
 have YES : Hid (shJoinE es [f] = (0, putE es f)) := h_ (shPut_yes SOK.out CF.out (fun x hx => by rw [EF0.out] at hx; cases hx; exact hp))
 have p1' : ((y0.p == y.p) : Bool) = true := by rw [XP.out.1, XP.out.2, hp]; show ((f.p.toArray == f.p.toArray) : Bool) = true; simp
 have p4' : ((y0.p.toList == y.p.toList) : Bool) = true := by rw [XP.out.1, XP.out.2, hp]; simp
 clear hp
 refine wp_region_held_drew (S := fun w' => Chg [] w1 w') (by kernel_rfl) (Chg.refl [] w1).drew (fun hHeld => ?_)
 refine sy 0 11 rfl rfl ?_; try simp only [Act.put, sA, s0, s1]
 refine on1 1 rfl (fun K hK => ?_)
 go_simp
 refine (SCK.out _ hHeld).mono ?_
 rintro r w3 ⟨rfl, hc⟩
 rw [e1]
 have C9 := h_ (hHeld.trans hc)
 clear hc hHeld
 refine hK.out _ _ C9.out (fun hHeld => ?_)
 clear hK K; try simp only [Act.put, sA, s0, s1]
 refine sy 2 13 rfl rfl ?_; try simp only [Act.put, sA, s0, s1]
 refine sy 3 14 rfl rfl ?_; try simp only [Act.put, sA, s0, s1]
 refine sy 4 15 rfl rfl ?_ (hy := by (intro w hSw; (try dsimp only at hSw); have hq := HB.out _ hSw; obtain ⟨q0, q1, q2, q3, q4, q5, q6⟩ := hq; go_simp; try with_reducible rfl))
 try simp only [Act.put, sA, s0, s1]
 refine on1 5 rfl (fun K hK => ?_)
 go_simp
 refine (ECK.out _ hHeld).mono ?_
 rintro r w4 ⟨rfl, hc⟩
 rw [e2]
 have C9 := h_ (hHeld.trans hc)
 clear hc hHeld
 refine hK.out _ _ C9.out (fun hHeld => ?_)
 clear hK K; try simp only [Act.put, sA, s0, s1]
 refine sy 6 17 rfl rfl ?_; try simp only [Act.put, sA, s0, s1]
 refine sy 7 18 rfl rfl ?_; try simp only [Act.put, sA, s0, s1]
 refine sy 8 19 rfl rfl ?_; try simp only [Act.put, sA, s0, s1]
 refine sy 9 20 rfl rfl ?_; try simp only [Act.put, sA, s0, s1]
 refine sy 10 21 rfl rfl ?_; try simp only [Act.put, sA, s0, s1]
 refine sy 11 22 rfl rfl ?_; try simp only [Act.put, sA, s0, s1]
 refine sy 12 23 rfl rfl ?_; try simp only [Act.put, sA, s0, s1]
 refine sy 13 24 rfl rfl ?_; try simp only [Act.put, sA, s0, s1]
 refine sy 14 25 rfl rfl ?_; try simp only [Act.put, sA, s0, s1]
 refine sy 15 26 rfl rfl ?_; try simp only [Act.put, sA, s0, s1]
 refine sy 16 27 rfl rfl ?_ (hy := by (intro w hSw; (try dsimp only at hSw); have hq := H0.out _ hSw; go_simp; try with_reducible rfl))
 try simp only [Act.put, sA, s0, s1]
 refine sy 17 28 rfl rfl ?_; try simp only [Act.put, sA, s0, s1]
 refine sy 18 29 rfl rfl ?_ (hy := by (intro w hSw; (try dsimp only at hSw); have hq := HB.out _ hSw; obtain ⟨q0, q1, q2, q3, q4, q5, q6⟩ := hq; go_simp; try with_reducible rfl))
 try simp only [Act.put, sA, s0, s1]
 refine sy 19 30 rfl rfl ?_; try simp only [Act.put, sA, s0, s1]
 refine sy 20 31 rfl rfl ?_; try simp only [Act.put, sA, s0, s1]
 refine sy 21 32 rfl rfl ?_; try simp only [Act.put, sA, s0, s1]
 refine wpAnyH_done (by kernel_rfl) ?_ _; clear l0 l1 l2 l3 p1' p4' H0
 have PC := C9
 clear hHeld SCK ECK C9
 have FI := h_ (shfind_any w4 (some ⟨g3, o3, none⟩) c xs y.n y.s (HA.out.chg PC.out (by simp)) (HX.out.up SOK.out.2.2.1) (by have := HN.out; omega))
 obtain ⟨y0, y1, y2, y3, y4, y5, y6⟩ := HB.out _ PC.out
 go_wp2_with fail; clear y0 y1 y2 y3 y4 y5 y6
 refine FI.out.mono ?_
 rintro r w5 ⟨i0, hi0, lo0, hh0, rfl, hc⟩
 have PC5 := h_ (PC.out.trans hc)
 clear hc FI PC hi0 lo0 hh0
 rcases hin : inE xs y.n y.s with _ | _
 rotate_left
 ·
  have ST : Hid (stayE es f = true) := h_ (by rw [stay_or, ← HY.out.n, ← HY.out.s, ← HX.out.inE, hin]; rfl)
  clear hin
  have PF := PC5
  have FE := h_ (frevents_any w5 (some ⟨g3, o3, none⟩) c xs es (HA.out.chg PF.out (by simp)) (HX.out.chg PF.out) (by have := HN.out; omega) HQ.out)
  go_wp2_with fail
  refine FE.out.mono ?_
  rintro r w7 ⟨A7, c7, ys, rfl, hl, he, hc⟩
  have P7 := h_ (And.intro he (C1.out.trans (PF.out.trans hc)))
  have LO : Hid (w.heap.size ≤ w5.heap.size) := h_ (Nat.le_trans C1.out.size PF.out.size)
  clear hl he hc FE; go_wp2; go_ret2
  rw [YES.out, put_stays ST.out]
  exact ⟨A7, c7, ys, rfl, P7.out.1.low LO.out, P7.out.2⟩
 have IN := h_ hin
 clear hin
 have AHD := h_ (shahead_any w5 (some ⟨g3, o3, none⟩) c xs es y f (HA.out.chg PC5.out (by simp)) (HX.out.chg PC5.out) (by have := HN.out; omega) (HY.out.chg PC5.out) HS.out HT.out)
 obtain ⟨y0, y1, y2, y3, y4, y5, y6⟩ := HB.out _ PC5.out
 go_wp2_with fail; clear y0 y1 y2 y3 y4 y5 y6
 refine AHD.out.mono ?_
 rintro r w6 ⟨rfl, hc⟩
 have PC6 := h_ (PC5.out.trans hc)
 clear hc AHD PC5
 rcases ha : es.any (fun e => aheadP f e) with _ | _
 rotate_left
 ·
  have ST : Hid (stayE es f = true) := h_ (by rw [stay_or, ha, Bool.or_true])
  clear ha
  have PF := PC6
  have FE := h_ (frevents_any w6 (some ⟨g3, o3, none⟩) c xs es (HA.out.chg PF.out (by simp)) (HX.out.chg PF.out) (by have := HN.out; omega) HQ.out)
  go_wp2_with fail
  refine FE.out.mono ?_
  rintro r w7 ⟨A7, c7, ys, rfl, hl, he, hc⟩
  have P7 := h_ (And.intro he (C1.out.trans (PF.out.trans hc)))
  have LO : Hid (w.heap.size ≤ w6.heap.size) := h_ (Nat.le_trans C1.out.size PF.out.size)
  clear hl he hc FE; go_wp2; go_ret2
  rw [YES.out, put_stays ST.out]
  exact ⟨A7, c7, ys, rfl, P7.out.1.low LO.out, P7.out.2⟩
 have NST : Hid (stayE es f = false) := h_ (by rw [stay_or, ha, ← HY.out.n, ← HY.out.s, ← HX.out.inE, IN.out]; rfl)
 clear ha
 have WO := h_ (shwithout_any w6 (some ⟨g3, o3, none⟩) c xs es y f (HA.out.chg PC6.out (by simp)) (HX.out.chg PC6.out) (by have := HN.out; omega) (HY.out.chg PC6.out) HS.out HT.out)
 obtain ⟨y0, y1, y2, y3, y4, y5, y6⟩ := HB.out _ PC6.out
 go_wp2_with fail; clear y0 y1 y2 y3 y4 y5 y6
 refine WO.out.mono ?_
 rintro r w7 ⟨A7, c7, ys, rfl, hl7, he7, ho7, hn7, hc⟩
 have C67 := h_ hc
 have O7 := h_ ho7
 have N7 : Hid (∀ a, A7 = some a → w6.heap.size ≤ a.block) := h_ hn7
 have E7 := h_ he7
 have L7 : Hid (ys.length ≤ 1000) := h_ (by have := HN.out; omega)
 clear hc ho7 hn7 he7 hl7 WO
 have FI := h_ (shfind_any w7 A7 c7 ys y.n y.s O7.out.reads (E7.out.up (keep_up SOK.out.2.2.1)) (by have := L7.out; omega))
 obtain ⟨y0, y1, y2, y3, y4, y5, y6⟩ := HB.out _ (PC6.out.trans C67.out)
 go_wp2_with fail; clear y0 y1 y2 y3 y4 y5 y6
 refine FI.out.mono ?_
 rintro r w8 ⟨i, hi, lo, hh, rfl, hc⟩
 have C68 := h_ (C67.out.trans hc)
 have O8 := h_ (O7.out.chg hc (by simp))
 have PI := h_ (And.intro hi (put_ins E7.out (HY.out.chg PC6.out) NST.out hi lo hh))
 clear hc FI C67 O7 E7 hi lo hh
 obtain ⟨w9, hw9, c9, b9⟩ := news1 w8 (.cells #[.int .i64 y.n, .int .i64 y.s, .string y.p, .int .i64 y.k, .int .i64 y.m, .slice y.A y.l y.c, .slice y.B y.bl y.bc] 40)
 have W9 := h_ hw9
 have INS := h_ (insev_any w9 A7 c7 ys i w8.heap.size y (O8.out.chg c9 (by simp)) PI.out.1 (by have := L7.out; omega) b9 (fun a ha e => by
  have := O8.out.lt a ha
  omega))
 have C69 := h_ (C68.out.trans c9)
 clear hw9 c9 b9 O8
 obtain ⟨y0, y1, y2, y3, y4, y5, y6⟩ := HB.out _ (PC6.out.trans C68.out)
 go_wp2_with (rw [← W9.out])
 clear y0 y1 y2 y3 y4 y5 y6
 refine INS.out.mono ?_
 rintro r wa ⟨Aa, ca, rfl, hoa, hna, hca⟩
 have ZL : Hid (ys.length + 1 = (ys.take i ++ y :: ys.drop i).length) := h_ (by have := PI.out.1; simp; omega)
 have C6a := h_ (hca w6 C69.out N7.out)
 have OA := h_ hoa
 have PA := h_ (PI.out.2.chg C6a.out)
 obtain ⟨zs, hzs⟩ : ∃ zs, zs = ys.take i ++ y :: ys.drop i := ⟨_, rfl⟩
 have LZ : Hid (zs.length ≤ 100000) := h_ (by rw [hzs, ← ZL.out]; have := L7.out; omega)
 rw [← hzs] at ZL OA PA
 clear hoa hna hca hzs INS C69 C68 W9
 rw [ZL.out]
 have FE := h_ (frevents_any wa Aa ca zs (putE es f) OA.out.reads PA.out LZ.out (fun e he => (put_mem he).elim (fun q => by rw [q]; exact ⟨HT.out.2.1, HTQ.out⟩) (HQ.out e)))
 go_wp2_with fail
 refine FE.out.mono ?_
 rintro r wb ⟨Ab, cb, us, rfl, hl, he, hc⟩
 have P7 := h_ (And.intro he (C1.out.trans (PC6.out.trans (C6a.out.trans hc))))
 have LO : Hid (w.heap.size ≤ wa.heap.size) := h_ (Nat.le_trans C1.out.size (Nat.le_trans PC6.out.size C6a.out.size))
 clear hl he hc FE; go_wp2; go_ret2
 rw [YES.out]
 exact ⟨Ab, cb, us, rfl, P7.out.1.low LO.out, P7.out.2⟩
end
section
open Go.RowKit Go.Lib


set_option maxRecDepth 100000 in
theorem stthose1_any (w : World) (gq gf : Nat) (lb : Array Value) (x : EvT) (v : Bool) (eg : ∀ args w, (callFunc gf args).run Tryz.prog w = .ok (.enter gf args) w) (hq : w.heap[gq]? = some (.cells #[.func (.func gf) #[] lb] 76 (0, 0))) (HF : ∀ w', Chg [] w w' → Calls Tryz.prog gf (#[.agg #[.int .i64 x.n, .int .i64 x.s, .string x.p, .int .i64 x.k, .int .i64 x.m, .slice x.A x.l x.c, .slice x.B x.bl x.bc]] ++ lb) w' fun r w2 => r = .returned (.bool v) ∧ Chg [] w' w2) :
  Calls Tryz.prog 119 #[.agg #[.int .i64 x.n, .int .i64 x.s, .string x.p, .int .i64 x.k, .int .i64 x.m, .slice x.A x.l x.c, .slice x.B x.bl x.bc], .pointer (some ⟨gq, 0, none⟩)] w fun r w' => r = .returned (.bool (!v)) ∧ Chg [] w w' := by
 obtain ⟨w1, hw1, c1, b1⟩ := news1 w (.cells #[.int .i64 x.n, .int .i64 x.s, .string x.p, .int .i64 x.k, .int .i64 x.m, .slice x.A x.l x.c, .slice x.B x.bl x.bc] 40)
 have W1 := h_ hw1
 have C1 := h_ c1
 have CC := h_ (HF w1 c1)
 have p1 := c1.at_ hq (by simp)
 obtain ⟨z0, z1, z2, z3, z4, z5, z6⟩ := ce7 b1
 have u0 := ce1 p1
 clear hw1 c1 b1 hq p1 HF
 go_enter Tryz.func119, Tryz.ntmps119
 go_upto_region 1 with fail
 rw [← W1.out]
 generalize w.heap.size = g1 at *
 clear W1; go_wp2_with fail; clear z0 z1 z2 z3 z4 z5 z6 u0
 refine CC.out.mono ?_
 rintro r w2 ⟨rfl, hc⟩
 replace C1 := h_ (C1.out.trans hc)
 clear hc CC; go_wp2; go_ret
 exact ⟨rfl, C1.out⟩

set_option maxRecDepth 100000 in
theorem stthose_any (w : World) (A : Option Addr) (c : Nat) (xs : List EvT) (es : List EvP) (gf : Nat) (lb : Array Value) (q : EvP → Bool) (h : RdK evTy w A xs.length xs) (hx : EvsR w xs es) (hn : xs.length ≤ 100000) (hs : ∀ e ∈ es, e.b.length ≤ 140737488351232 ∧ e.q.length ≤ 100000) (eg : ∀ args w, (callFunc gf args).run Tryz.prog w = .ok (.enter gf args) w)
  (HF : ∀ (w' : World), Chg [] w w' → ∀ (i : Nat) (x : EvT) (e : EvP), xs[i]? = some x → es[i]? = some e → Calls Tryz.prog gf (#[.agg #[.int .i64 x.n, .int .i64 x.s, .string x.p, .int .i64 x.k, .int .i64 x.m, .slice x.A x.l x.c, .slice x.B x.bl x.bc]] ++ lb) w' fun r w2 => r = .returned (.bool (q e)) ∧ Chg [] w' w2) :
  Calls Tryz.prog 70 #[.slice A xs.length c, .func (.func gf) #[] lb] w fun r w' => ∃ (A' : Option Addr) (c' : Nat) (zs : List EvT), r = .returned (.slice A' zs.length c') ∧ zs.length ≤ xs.length ∧ EsF w' w.heap.size w'.heap.size A' c' zs (es.filter q) ∧ Chg [] w w' := by
 obtain ⟨w1, hw1, c1, b1⟩ := news1 w (.cells #[.func (.func gf) #[] lb] 76)
 have W1 := h_ hw1
 have C1 := h_ c1
 have HC := h_ (cloneEv_any w1 A xs.length c xs (h.chg c1 (by simp)) (by omega))
 have DEL := h_ (fun (w3 : World) (A3 : Option Addr) (c3 : Nat) (h0 : Chg [] w1 w3) (ho : OwnK evTy w3 A3 c3 xs) (hA : ∀ a, A3 = some a → w1.heap.size ≤ a.block) => evfdel_any w w1 w3 A3 c3 xs es 119 #[.pointer (some ⟨w.heap.size, 0, none⟩)] (fun e => !q e) (enters_of Tryz.func119 (by kernel_rfl) rfl) c1 h0 ho hA hx hn (fun wr hc i x e ex ee => stthose1_any wr w.heap.size gf lb x (q e) eg (hc.at_ b1 (by simp)) (fun w' hc' => HF w' (c1.trans (hc.trans hc')) i x e ex ee)))
 have HX := h_ hx
 have HN := h_ hn
 have HS := h_ hs
 have SZ := h_ c1.size
 have FQ : Hid (es.filter (fun e => !(!q e)) = es.filter q) := h_ (by simp only [Bool.not_not])
 clear hw1 c1 b1 h hx hn hs HF
 go_enter Tryz.func70, Tryz.ntmps70
 go_upto_region 1 with fail
 rw [← W1.out]
 obtain ⟨g0, hg0⟩ : ∃ g, w.heap.size = g := ⟨_, rfl⟩
 rw [hg0] at DEL ⊢
 clear W1; go_wp2_with fail
 refine HC.out.mono ?_
 rintro r w3 ⟨A3, c3, rfl, ho, hA, hc⟩
 have D := h_ (DEL.out w3 A3 c3 hc ho hA)
 clear ho hA hc HC DEL; go_wp2_with fail
 refine D.out.mono ?_
 rintro r w4 ⟨ys, rfl, hl, he, ho, hc⟩
 rw [FQ.out] at he
 have C4 := h_ (C1.out.trans hc)
 have L4 := h_ hl
 have FR := h_ (frevents_any w4 A3 c3 ys (es.filter q) ho.reads (he.chg C4.out) (by have := HN.out; omega) (fun e he => HS.out e (List.mem_filter.1 he).1))
 clear D hl he ho hc FQ; go_wp2_with fail
 refine FR.out.mono ?_
 rintro r w5 ⟨A5, c5, zs, rfl, hl, he, hc⟩
 have P := h_ (And.intro (show zs.length ≤ xs.length by have := L4.out; omega) (And.intro (he.low C4.out.size) (C4.out.trans hc)))
 clear hl he hc FR; go_wp2; go_ret
 rw [← hg0]
 exact ⟨A5, c5, zs, rfl, P.out.1, P.out.2.1, P.out.2.2⟩
end
section
open Go.RowKit Go.Lib

set_option maxRecDepth 100000 in
theorem stmissing1_any (w : World) (gp : Nat) (K : Option Addr) (kc : Nat) (ks : List Sp) (x : EvT) (e : EvP) (hp : w.heap[gp]? = some (.cells #[.slice K ks.length kc] 23 (0, 0))) (hk : RdK spanTy w K ks.length ks) (hl : ks.length ≤ 140737488351232) (hx : x.n = e.n ∧ x.s = e.s) :
  Calls Tryz.prog 71 #[.agg #[.int .i64 x.n, .int .i64 x.s, .string x.p, .int .i64 x.k, .int .i64 x.m, .slice x.A x.l x.c, .slice x.B x.bl x.bc], .pointer (some ⟨gp, 0, none⟩)] w fun r w' => r = .returned (.bool (!hasE ks e.n e.s)) ∧ Chg [] w w' := by
 obtain ⟨w1, hw1, c1, b1⟩ := news1 w (.cells #[.int .i64 x.n, .int .i64 x.s, .string x.p, .int .i64 x.k, .int .i64 x.m, .slice x.A x.l x.c, .slice x.B x.bl x.bc] 40)
 have W1 := h_ hw1
 have C1 := h_ c1
 have CC := h_ (has_any w1 K kc ks x.n x.s (hk.chg c1 (by simp)) hl)
 have HV : Hid (hasE ks x.n x.s = hasE ks e.n e.s) := h_ (by rw [hx.1, hx.2])
 have p1 := c1.at_ hp (by simp)
 obtain ⟨z0, z1⟩ := ce2 b1
 have u0 := ce1 p1
 clear hw1 c1 b1 hp p1 hx hl hk
 go_enter Tryz.func71, Tryz.ntmps71
 go_upto_region 1 with fail
 rw [← W1.out]
 generalize w.heap.size = g1 at *
 clear W1; go_wp2_with fail; clear z0 z1 u0
 refine CC.out.mono ?_
 rintro r w2 ⟨rfl, hc⟩
 rw [HV.out]
 replace C1 := h_ (C1.out.trans hc)
 clear hc CC; go_wp2; go_ret
 exact ⟨rfl, C1.out⟩
end
end Go.Proofs.YtehmchdhlhchjaaGreatDoor
