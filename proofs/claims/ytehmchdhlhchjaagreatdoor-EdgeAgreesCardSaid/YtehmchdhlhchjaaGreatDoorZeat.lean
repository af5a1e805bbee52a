/- event.Read. The kit's OverEvents over one event. The kit's OverEvents over a list in memory of its own. slices.DeleteFunc over events, at shelf.without's func. slices.IndexFunc, ContainsFunc, DeleteFunc over events. slices.Clone of spans. fresh.Effect, fresh.Event. -/
import Derived.Test.YtehmchdhlhchjaaGreatDoorZeag
import Derived.Test.YtehmchdhlhchjaaGreatDoorZeap
import Derived.Test.YtehmchdhlhchjaaGreatDoorZeas
import Derived.Test.YtehmchdhlhchjaaGreatDoorZeal
import Derived.Deep.Cut
import Derived.Deep.RegionHeld3
import Derived.Test.YtehmchdhlhchjaaGreatDoorZeab
import Derived.Test.YtehmchdhlhchjaaGreatDoorZeam
import Derived.Test.YtehmchdhlhchjaaGreatDoorZear
import Derived.Test.YtehmchdhlhchjaaGreatDoorZeac
import Derived.BigQuiet
set_option linter.unusedSimpArgs false
set_option linter.unusedVariables false
set_option maxHeartbeats 32000000
namespace Go.Proofs.YtehmchdhlhchjaaGreatDoor
section
open Go.RowKit Go.Lib

theorem getElem?_of_drop {α : Type} {xs ys : List α} {k i : Nat} (h : xs.drop k = ys.drop k) (hi : k ≤ i) : xs[i]? = ys[i]? := by
 have := congrArg (fun l => l[i - k]?) h
 simpa [List.getElem?_drop, Nat.add_sub_cancel' hi] using this
end
section
open Go.RowKit Go.Lib


theorem run_clearE (w : World) (ty : TypeId) (g c n k : Nat) (full : List EvT) (hg : w.heap[g]? = some (.cells (evTy.flat full).toArray 40 (0, 0))) (hl : full.length = c) (hn : n ≤ c) (hk : k < n) :
  (Builtin.clear_ #[22] ty #[.slice (some ⟨g, k * 7, none⟩) (n - k) (c - k)]).run Tryz.prog w = .ok (.tuple #[]) (w.setRow g (evTy.flat (full.take k ++ List.replicate (n - k) evTy.z ++ full.drop n)).toArray) := by
 have hz := evTy.zeros (n - k)
 have hk2 : evTy.k = 7 := rfl
 have hlen : (evTy.flat full).length = full.length * 7 := evTy.flat_len full
 have hlz : (evTy.flat (List.replicate (n - k) evTy.z)).length = (n - k) * 7 := by rw [evTy.flat_len, List.length_replicate, hk2]
 have hst := run_storeCells_at (P := Tryz.prog) g (k * 7) 40 (evTy.flat (List.replicate (n - k) evTy.z)) 0 _ w hg (by rw [hlz, List.size_toArray, hlen]; omega) (evTy.flat_one _)
 have ht := evTy.flat_take full k
 have hd := evTy.flat_drop full n
 rw [hk2] at ht hd
 have hfin : ((evTy.flat full).toArray.toList.take (k * 7 + 0) ++ evTy.flat (List.replicate (n - k) evTy.z) ++ (evTy.flat full).toArray.toList.drop (k * 7 + 0 + (evTy.flat (List.replicate (n - k) evTy.z)).length)) = evTy.flat (full.take k ++ List.replicate (n - k) evTy.z ++ full.drop n) := by
  rw [evTy.flat_app, evTy.flat_app, ht, hd, hlz, show k * 7 + 0 + (n - k) * 7 = n * 7 by omega]
  rfl
 rw [hfin] at hst
 obtain ⟨m, hm⟩ : ∃ m, n - k = m + 1 := ⟨n - k - 1, by omega⟩
 have hzv : ∀ w, (zeroValue 40).run Tryz.prog w = .ok (.agg #[.int .i64 0, .int .i64 0, .string ⟨#[]⟩, .int .i64 0, .int .i64 0, .slice none 0 0, .slice none 0 0]) w := Tryz.zeroValue40
 have hzz : (Builtin.zeroCells (Value.agg #[.int .i64 0, .int .i64 0, .string ⟨#[]⟩, .int .i64 0, .int .i64 0, .slice none 0 0, .slice none 0 0]).cells (n - k)).toList = evTy.flat (List.replicate (n - k) evTy.z) := by
  exact (congrArg Array.toList hz).trans (by simp)
 rw [hm] at hst hzz ⊢
 simp [Builtin.clear_, run_underlying Tryz.underlying22, hzv, hzz, hst]
instance inhShdel : Inhabited (Int × Int) := ⟨(0, 0)⟩


theorem filt_take {es : List EvP} {q : EvP → Bool} {k : Nat} {e : EvP} (he : es[k]? = some e) : (es.take (k + 1)).filter q = (es.take k).filter q ++ (if q e = true then [e] else []) := by
 rw [List.take_add_one, he, List.filter_append]
 cases h : q e <;> simp [h]
theorem take_set_next {α : Type} {zs : List α} {i : Nat} {x : α} (hi : i < zs.length) : (zs.set i x).take (i + 1) = zs.take i ++ [x] := by
 rw [List.take_add_one, List.getElem?_set, if_pos rfl, if_pos hi, List.take_set, List.set_eq_of_length_le (by rw [List.length_take]; omega)]
 rfl
set_option maxRecDepth 100000 in
theorem shdel_any (wb w0 w : World) (A : Option Addr) (c : Nat) (xs : List EvT) (es : List EvP) (gq : Nat) (T : TypeId) (gp : Nat) (y : EvT) (f : EvP) (hb : Chg [] wb w0) (h0 : Chg [] w0 w) (h : OwnK evTy w A c xs) (hA : ∀ a, A = some a → w0.heap.size ≤ a.block) (hx : EvsR wb xs es) (hn : xs.length ≤ 100000) (hq : w0.heap[gq]? = some (.cells #[.func (.func 162) #[] #[]] T (0, 0))) (hp : w0.heap[gp]? = some (.cells #[.int .i64 y.n, .int .i64 y.s, .string y.p, .int .i64 y.k, .int .i64 y.m, .slice y.A y.l y.c, .slice y.B y.bl y.bc] 40 (0, 0))) (hy : EvR w0 y f) (hs : ∀ e ∈ es, EvSm e) (ht : EvSm f) :
  Calls Tryz.prog 118 #[.slice A xs.length c, .func (.func 194) #[] #[.pointer (some ⟨gq, 0, none⟩), .pointer (some ⟨gp, 0, none⟩)]] w fun r w' => ∃ ys : List EvT, r = .returned (.slice A ys.length c) ∧ ys.length ≤ xs.length ∧ EvsR wb ys (es.filter (fun e => !aheadP e f)) ∧ OwnK evTy w' A c ys ∧ Chg [] w0 w' := by
 have IX := h_ (shindexw_any w A c xs es gq T gp y f h.reads (hx.chg (hb.trans h0)) hn (h0.at_ hq (by simp)) (h0.at_ hp (by simp)) (hy.chg h0) hs ht)
 have W1C := h_ (fun (wr : World) (RC : Chg [] w0 wr) (x : EvT) (e : EvP) (rx : EvR wb x e) (he : e ∈ es) => shwithout1_any wr gq T gp x y e f (RC.at_ hq (by simp)) (RC.at_ hp (by simp)) (rx.chg (hb.trans RC)) (hy.chg RC) (hs e he) ht)
 have O0 := h_ h
 have C0 := h_ h0
 have NA := h_ hA
 have HX := h_ hx
 have HN := h_ hn
 clear h h0 hb hA hx hn hq hp hy hs ht
 go_enter Tryz.func118, Tryz.ntmps118
 go_wp2_with fail
 refine IX.out.mono ?_
 rintro r w1 ⟨⟨v, rfl, hv⟩, hc⟩
 have C1 := h_ (C0.out.trans hc)
 have O1 := h_ (O0.out.chg hc (by simp))
 clear hc O0 C0 IX
 rcases hv with ⟨rfl, no⟩ | ⟨k, e, rfl, ek, pk, nk⟩
 ·
  have ES : Hid (es.filter (fun e => !aheadP e f) = es) := h_ (List.filter_eq_self.2 (fun e he => by have q : aheadP e f = false := no e he; rw [q]; rfl))
  clear no; go_wp2; go_ret
  exact ⟨xs, rfl, Nat.le_refl _, by rw [ES.out]; exact HX.out, O1.out, C1.out⟩
 ·
  have kl : k < xs.length := by rw [HX.out.1]; exact (List.getElem?_eq_some_iff.1 ek).1
  have F0 : Hid ((es.take (k + 1)).filter (fun e => !aheadP e f) = es.take k) := h_ (by
   rw [filt_take ek]
   have pk : aheadP e f = true := pk
   simp only [pk, Bool.not_true, Bool.false_eq_true, if_false, List.append_nil]
   exact List.filter_eq_self.2 (fun e he => by have q : aheadP e f = false := nk e he; rw [q]; rfl))
  have E0 : Hid (EvsR wb (xs.take k) (es.take k)) := h_ ⟨by rw [List.length_take, List.length_take, HX.out.1], fun i x d hx hd => by
   rw [List.getElem?_take] at hx hd
   split at hx
   ·
    rename_i q; rw [if_pos q] at hd; exact HX.out.2 i x d hx hd
   ·
    cases hx⟩
  obtain ⟨g, eA, _⟩ : ∃ g, A = some ⟨g, 0, none⟩ ∧ g < w1.heap.size := by
   rcases O1.out.shape with ⟨_, q, _⟩ | q
   ·
    rw [q] at kl; simp at kl
   ·
    exact q
  subst eA
  have CP := h_ O1.out.cap
  have n1 : ¬ ((k : Int) = -1) := by omega
  have n2 : (((k : Int) == -1) : Bool) = false := by first | (simp; done) | (simp; omega)
  have n3 : IntKind.i64.wrap ((k : Int) + 1) = ((k + 1 : Nat) : Int) := by rw [IntWalk.i64_in _ (by have := HN.out; omega)]; omega
  have KL := h_ kl
  clear ek pk nk kl
  go_upto_region 5 with fail
  go_loopw [5, 6] (fun v5 v6 wr => ∃ (i j : Nat) (zs : List EvT), i + 1 ≤ j ∧ j ≤ xs.length ∧ v5 = .int .i64 i ∧ v6 = .int .i64 j ∧ Hid (zs.length = xs.length ∧ zs.drop j = xs.drop j) ∧ Hid (EvsR wb (zs.take i) ((es.take j).filter (fun e => !aheadP e f))) ∧ Hid (OwnK evTy wr (some ⟨g, 0, none⟩) c zs) ∧ Hid (Chg [] w0 wr)) (fun _ v6 _ => xs.length - (RowKit.intOf v6).toNat)
  case atStart => exact ⟨k, k + 1, xs, Nat.le_refl _, KL.out, rfl, rfl, h_ ⟨rfl, rfl⟩, h_ (by rw [F0.out]; exact E0.out), O1, C1⟩
  case round =>
   obtain ⟨i, j, zs, hij, hj, rfl, rfl, ZL, RE, RO, RC⟩ := hrel
   have i0 : (0 : Int) ≤ (i : Int) := by omega
   have j0 : (0 : Int) ≤ (j : Int) := by omega
   by_cases hlt : j < xs.length
   ·
    have j1 : (j : Int) < (xs.length : Int) := by omega
    have i1 : (i : Int) < (xs.length : Int) := by omega
    have j3 : IntKind.i64.wrap ((j : Int) + 1) = (j : Int) + 1 := IntWalk.i64_in _ (by have := HN.out; omega)
    have i3 : IntKind.i64.wrap ((i : Int) + 1) = (i : Int) + 1 := IntWalk.i64_in _ (by have := HN.out; omega)
    obtain ⟨x, e, ex, ee, rx⟩ := HX.out.at_ hlt
    have zx : zs[j]? = some x := by rw [getElem?_of_drop ZL.out.2 (Nat.le_refl _)]; exact ex
    obtain ⟨z0, z1, z2, z3, z4, z5, z6⟩ := evCells RO.out.reads zx
    rw [Nat.zero_add] at z0 z1 z2 z3 z4 z5 z6
    have EE := h_ ee
    have RX := h_ rx
    have EX := h_ ex
    clear ex ee rx zx
    obtain ⟨w2, hw2, c2, b2⟩ := news1 wr (.cells #[.int .i64 x.n, .int .i64 x.s, .string x.p, .int .i64 x.k, .int .i64 x.m, .slice x.A x.l x.c, .slice x.B x.bl x.bc] 40)
    have W2 := h_ hw2
    have B2 := h_ b2
    have SB : Hid (g ≠ wr.heap.size) := h_ (by
     have := RO.out.lt_ _ rfl
     intro q
     rw [q] at this
     exact Nat.lt_irrefl _ this)
    replace RO := h_ (RO.out.chg c2 (by simp))
    replace RC := h_ (RC.out.trans c2)
    clear hw2 c2 b2
    go_upto_region 8 with fail
    rw [← W2.out]
    generalize wr.heap.size = s2 at *
    clear W2 z0 z1 z2 z3 z4 z5 z6
    obtain ⟨y0, y1, y2, y3, y4, y5, y6⟩ := ce7 B2.out
    have CC := h_ (W1C.out w2 RC.out x e RX.out (List.mem_of_getElem? EE.out))
    go_wp2_with fail
    refine CC.out.mono ?_
    rintro r w3 ⟨rfl, hc⟩
    replace RO := h_ (RO.out.chg hc (by simp))
    replace RC := h_ (RC.out.trans hc)
    replace B2 := h_ (hc.at_ B2.out (by simp))
    clear hc CC y0 y1 y2 y3 y4 y5 y6
    rcases ha : aheadP e f with _ | _
    ·
     have FT : Hid ((es.take (j + 1)).filter (fun e => !aheadP e f) = (es.take j).filter (fun e => !aheadP e f) ++ [e]) := h_ (by rw [filt_take EE.out]; simp [ha])
     clear ha
     obtain ⟨y0, y1, y2, y3, y4, y5, y6⟩ := ce7 B2.out
     obtain ⟨u, hu⟩ : ∃ u, zs[i]? = some u := ⟨_, List.getElem?_eq_getElem (by rw [ZL.out.1]; omega)⟩
     obtain ⟨z0, z1, z2, z3, z4, z5, z6⟩ := evCells RO.out.reads hu
     rw [Nat.zero_add] at z0 z1 z2 z3 z4 z5 z6
     have F3 : ∀ j, w3.frozen? ⟨g, j, none⟩ = false := fun j => by
      rcases RO.out with ⟨h, _⟩ | ⟨g', full, e, hg, _⟩
      ·
       cases h
      ·
       cases e; exact free_of hg j
     have f0 := F3 (i * 7)
     have f1 := F3 (i * 7 + 1)
     have f2 := F3 (i * 7 + 2)
     have f3 := F3 (i * 7 + 3)
     have f4 := F3 (i * 7 + 4)
     have f5 := F3 (i * 7 + 5)
     have f6 := F3 (i * 7 + 6)
     have RO4 := h_ (RO.out.set7 i _ x hu)
     have RC4 := h_ (RC.out.set7 (g := g) (.inr (NA.out _ rfl)) (i * 7) (.int .i64 x.n) (.int .i64 x.s) (.string x.p) (.int .i64 x.k) (.int .i64 x.m) (.slice x.A x.l x.c) (.slice x.B x.bl x.bc))
     have ZL4 : Hid ((zs.set i x).length = xs.length ∧ (zs.set i x).drop (j + 1) = xs.drop (j + 1)) := h_ ⟨by rw [List.length_set]; exact ZL.out.1, by
      rw [List.drop_set_of_lt (by omega)]
      have := congrArg (List.drop 1) ZL.out.2
      simpa [List.drop_drop] using this⟩
     have RE4 : Hid (EvsR wb ((zs.set i x).take (i + 1)) ((es.take (j + 1)).filter (fun e => !aheadP e f))) := h_ (by
      rw [FT.out, take_set_next (by rw [ZL.out.1]; omega)]
      exact RE.out.snoc RX.out)
     clear F3 hu
     go_upto_region 10 with fail
     clear z0 z1 z2 z3 z4 z5 z6 f0 f1 f2 f3 f4 f5 f6 y0 y1 y2 y3 y4 y5 y6
     generalize (((((((w3.setCell ⟨g, i * 7, none⟩ (.int .i64 x.n)).setCell ⟨g, i * 7 + 1, none⟩ (.int .i64 x.s)).setCell ⟨g, i * 7 + 2, none⟩ (.string x.p)).setCell ⟨g, i * 7 + 3, none⟩ (.int .i64 x.k)).setCell ⟨g, i * 7 + 4, none⟩ (.int .i64 x.m)).setCell ⟨g, i * 7 + 5, none⟩ (.slice x.A x.l x.c)).setCell ⟨g, i * 7 + 6, none⟩ (.slice x.B x.bl x.bc)) = w4 at *
     go_wp2; go_round
     case rel => exact ⟨i + 1, j + 1, zs.set i x, by omega, by omega, by go_num, by go_num, ZL4, RE4, RO4, RC4⟩
     case measure => simp [RowKit.intOf]; omega
    ·
     have FT : Hid ((es.take (j + 1)).filter (fun e => !aheadP e f) = (es.take j).filter (fun e => !aheadP e f)) := h_ (by rw [filt_take EE.out]; simp [ha])
     clear ha
     have ZL4 : Hid (zs.length = xs.length ∧ zs.drop (j + 1) = xs.drop (j + 1)) := h_ ⟨ZL.out.1, by
      have := congrArg (List.drop 1) ZL.out.2
      simpa [List.drop_drop] using this⟩
     rw [← FT.out] at RE
     go_wp2; go_round
     case rel => exact ⟨i, j + 1, zs, by omega, by omega, rfl, by go_num, ZL4, RE, RO, RC⟩
     case measure => simp [RowKit.intOf]; omega
   ·
    obtain rfl : j = xs.length := by omega
    have j1 : ¬ (xs.length : Int) < (xs.length : Int) := by omega
    have ET : es.take xs.length = es := by rw [HX.out.1]; exact List.take_length
    rw [ET] at RE
    clear ET
    obtain ⟨full, hg, hfl, hcm, hzl, hft⟩ : ∃ full, wr.heap[g]? = some (.cells (evTy.flat full).toArray 40 (0, 0)) ∧ full.length = c ∧ c ≤ maxLen ∧ zs.length ≤ c ∧ full.take zs.length = zs := by
     rcases RO.out with ⟨h, _⟩ | ⟨g', full, e, hg, h1, h2, h3, h4⟩
     ·
      cases h
     ·
      cases e; exact ⟨full, hg, h1, h2, h3, h4⟩
    have il : i < xs.length := by omega
    have nc : xs.length ≤ c := by rw [← ZL.out.1]; exact hzl
    have hcl := fun ty => run_clearE wr ty g c xs.length i full hg hfl nc il
    have hown := OwnK.of (R := evTy) (w := wr.setRow g (evTy.flat (full.take i ++ (List.replicate (xs.length - i) evTy.z ++ full.drop xs.length))).toArray) (g := g) (c := c) (full := full.take i ++ (List.replicate (xs.length - i) evTy.z ++ full.drop xs.length)) (xs := zs.take i) (setRow_heap wr g _ _ _ _ hg) (by rw [List.length_take, ZL.out.1]; omega) hcm (by simp; omega) (by
     have e1 : (zs.take i).length = i := by rw [List.length_take, ZL.out.1]; omega
     rw [e1, List.take_append_of_le_length (by rw [List.length_take, hfl]; omega), List.take_take, Nat.min_self, ← hft, List.take_take, Nat.min_eq_left (by rw [ZL.out.1]; omega)])
    have hch : Chg [] w0 (wr.setRow g (evTy.flat (full.take i ++ (List.replicate (xs.length - i) evTy.z ++ full.drop xs.length))).toArray) := RC.out.trans' (S' := [g]) ⟨rfl, rfl, rfl, by simp, fun j hj hn => setRow_other wr g j _ (by simpa using hn)⟩ (fun j hj => by simp at hj; subst hj; exact .inr (NA.out _ rfl))
    have HE := h_ (And.intro hown hch)
    have IL : Hid ((zs.take i).length = i) := h_ (by rw [List.length_take, ZL.out.1]; omega)
    have j7 : (i : Int) ≤ (xs.length : Int) := by omega
    have j8 : (i : Int) ≤ (c : Int) := by omega
    have j9 : i ≤ xs.length := by omega
    have j6 : ¬ c = i := by omega
    clear hown hch hg hfl hcm hzl hft; go_wp2; go_ret
    exact ⟨zs.take i, by rw [IL.out]; rfl, by rw [IL.out]; omega, RE.out, HE.out.1, HE.out.2⟩
end
section
open Go.RowKit Go.Lib


set_option maxRecDepth 100000 in
theorem evfindex_any (w : World) (A : Option Addr) (c : Nat) (xs : List EvT) (es : List EvP) (gf : Nat) (lb : Array Value) (d : EvP → Bool) (eg : ∀ args w, (callFunc gf args).run Tryz.prog w = .ok (.enter gf args) w) (h : RdK evTy w A xs.length xs) (hx : EvsR w xs es) (hn : xs.length ≤ 100000) (hcall : ∀ (wr : World), Chg [] w wr → ∀ (i : Nat) (x : EvT) (e : EvP), xs[i]? = some x → es[i]? = some e → Calls Tryz.prog gf (#[.agg #[.int .i64 x.n, .int .i64 x.s, .string x.p, .int .i64 x.k, .int .i64 x.m, .slice x.A x.l x.c, .slice x.B x.bl x.bc]] ++ lb) wr fun r w' => r = .returned (.bool (d e)) ∧ Chg [] wr w') :
  Calls Tryz.prog 82 #[.slice A xs.length c, .func (.func gf) #[] lb] w fun r w' => (∃ v : Int, r = .returned (.int .i64 v) ∧ IdxP es d v) ∧ Chg [] w w' := by
 have HA := h_ h
 have HX := h_ hx
 have HN := h_ hn
 have HCALL := h_ hcall
 have CLEARS : True := trivial
 clear CLEARS h hx hn hcall
 go_enter Tryz.func82, Tryz.ntmps82
 go_wp2
 go_loopw [5, 8] (fun v5 v8 wr => ∃ (k : Nat), k ≤ xs.length ∧ v8 = .int .i64 k ∧ Hid (∀ e ∈ es.take k, d e = false) ∧ Hid (Chg [] w wr)) (fun _ v8 _ => xs.length - (RowKit.intOf v8).toNat)
 case atStart => exact ⟨0, Nat.zero_le _, rfl, h_ (by simp), Chg.refl _ _⟩
 case round =>
  obtain ⟨k, hk, rfl, FN_, RC⟩ := hrel
  have i0 : (0 : Int) ≤ (k : Int) := by omega
  by_cases hlt : k < xs.length
  ·
   have i1 : (k : Int) < (xs.length : Int) := by omega
   have i3 : IntKind.i64.wrap ((k : Int) + 1) = (k : Int) + 1 := IntWalk.i64_in _ (by have := HN.out; omega)
   obtain ⟨x, e, ex, ee, rx⟩ := HX.out.at_ hlt
   obtain ⟨g, o, eA, _⟩ := HA.out.line (by omega)
   subst eA
   obtain ⟨z0, z1, z2, z3, z4, z5, z6⟩ := evCells (HA.out.chg RC.out (by simp)) ex
   have EE := h_ ee
   have CL := h_ (HCALL.out wr RC.out _ x e ex ee)
   clear ex ee rx; go_wp2_with fail
   refine CL.out.mono ?_
   rintro r w2 ⟨rfl, hc⟩
   have C2 := h_ (RC.out.trans hc)
   clear hc CL z0 z1 z2 z3 z4 z5 z6
   rcases hb : d e with _ | _
   ·
    have FN1 := h_ (all_take_no FN_.out EE.out hb)
    clear hb FN_; go_wp2; go_round
    case rel => exact ⟨k + 1, by omega, by go_num, FN1, C2⟩
    case measure => simp [RowKit.intOf]; omega
   ·
    have AN : Hid (IdxP es d (k : Int)) := h_ (.inr ⟨k, e, rfl, EE.out, hb, FN_.out⟩)
    clear hb FN_; go_wp2; go_ret
    exact ⟨⟨k, rfl, AN.out⟩, C2.out⟩
  ·
   obtain rfl : k = xs.length := by omega
   have ET : es.take xs.length = es := by rw [HX.out.1]; exact List.take_length
   rw [ET] at FN_
   clear ET
   have i1 : ¬ (xs.length : Int) < (xs.length : Int) := by omega
   go_wp2; go_ret
   exact ⟨⟨-1, rfl, .inl ⟨rfl, FN_.out⟩⟩, RC.out⟩

set_option maxRecDepth 100000 in
theorem evfcontains_any (w : World) (A : Option Addr) (c : Nat) (xs : List EvT) (es : List EvP) (gf : Nat) (lb : Array Value) (d : EvP → Bool) (eg : ∀ args w, (callFunc gf args).run Tryz.prog w = .ok (.enter gf args) w) (h : RdK evTy w A xs.length xs) (hx : EvsR w xs es) (hn : xs.length ≤ 100000) (hcall : ∀ (wr : World), Chg [] w wr → ∀ (i : Nat) (x : EvT) (e : EvP), xs[i]? = some x → es[i]? = some e → Calls Tryz.prog gf (#[.agg #[.int .i64 x.n, .int .i64 x.s, .string x.p, .int .i64 x.k, .int .i64 x.m, .slice x.A x.l x.c, .slice x.B x.bl x.bc]] ++ lb) wr fun r w' => r = .returned (.bool (d e)) ∧ Chg [] wr w') :
  Calls Tryz.prog 57 #[.slice A xs.length c, .func (.func gf) #[] lb] w fun r w' => r = .returned (.bool (es.any d)) ∧ Chg [] w w' := by
 have IX := h_ (evfindex_any w A c xs es gf lb d eg h hx hn hcall)
 clear h hx hn hcall
 generalize hv : es.any d = v
 have HV := h_ hv
 clear hv
 go_enter Tryz.func57, Tryz.ntmps57
 go_wp2_with fail
 refine IX.out.mono ?_
 rintro e w2 ⟨⟨u, rfl, hu⟩, hc⟩
 have C := h_ hc
 have HU : Hid (decide ((0 : Int) ≤ u) = v) := h_ (by rw [← HV.out]; exact hu.any.symm)
 clear hu hc; go_wp2; go_ret
 exact ⟨by rw [HU.out]; rfl, C.out⟩


set_option maxRecDepth 100000 in
theorem evfdel_any (wb w0 w : World) (A : Option Addr) (c : Nat) (xs : List EvT) (es : List EvP) (gf : Nat) (lb : Array Value) (d : EvP → Bool) (eg : ∀ args w, (callFunc gf args).run Tryz.prog w = .ok (.enter gf args) w) (hb : Chg [] wb w0) (h0 : Chg [] w0 w) (h : OwnK evTy w A c xs) (hA : ∀ a, A = some a → w0.heap.size ≤ a.block) (hx : EvsR wb xs es) (hn : xs.length ≤ 100000) (hcall : ∀ (wr : World), Chg [] w0 wr → ∀ (i : Nat) (x : EvT) (e : EvP), xs[i]? = some x → es[i]? = some e → Calls Tryz.prog gf (#[.agg #[.int .i64 x.n, .int .i64 x.s, .string x.p, .int .i64 x.k, .int .i64 x.m, .slice x.A x.l x.c, .slice x.B x.bl x.bc]] ++ lb) wr fun r w' => r = .returned (.bool (d e)) ∧ Chg [] wr w') :
  Calls Tryz.prog 118 #[.slice A xs.length c, .func (.func gf) #[] lb] w fun r w' => ∃ ys : List EvT, r = .returned (.slice A ys.length c) ∧ ys.length ≤ xs.length ∧ EvsR wb ys (es.filter (fun e => !d e)) ∧ OwnK evTy w' A c ys ∧ Chg [] w0 w' := by
 have IX := h_ (evfindex_any w A c xs es gf lb d eg h.reads (hx.chg (hb.trans h0)) hn (fun wr hc => hcall wr (h0.trans hc)))
 have W1C := h_ hcall
 have O0 := h_ h
 have C0 := h_ h0
 have NA := h_ hA
 have HX := h_ hx
 have HN := h_ hn
 clear h h0 hb hA hx hn hcall
 go_enter Tryz.func118, Tryz.ntmps118
 go_wp2_with fail
 refine IX.out.mono ?_
 rintro r w1 ⟨⟨v, rfl, hv⟩, hc⟩
 have C1 := h_ (C0.out.trans hc)
 have O1 := h_ (O0.out.chg hc (by simp))
 clear hc O0 C0 IX
 rcases hv with ⟨rfl, no⟩ | ⟨k, e, rfl, ek, pk, nk⟩
 ·
  have ES : Hid (es.filter (fun e => !d e) = es) := h_ (List.filter_eq_self.2 (fun e he => by have q : d e = false := no e he; rw [q]; rfl))
  clear no; go_wp2; go_ret
  exact ⟨xs, rfl, Nat.le_refl _, by rw [ES.out]; exact HX.out, O1.out, C1.out⟩
 ·
  have kl : k < xs.length := by rw [HX.out.1]; exact (List.getElem?_eq_some_iff.1 ek).1
  have F0 : Hid ((es.take (k + 1)).filter (fun e => !d e) = es.take k) := h_ (by
   rw [filt_take ek]
   have pk : d e = true := pk
   simp only [pk, Bool.not_true, Bool.false_eq_true, if_false, List.append_nil]
   exact List.filter_eq_self.2 (fun e he => by have q : d e = false := nk e he; rw [q]; rfl))
  have E0 : Hid (EvsR wb (xs.take k) (es.take k)) := h_ ⟨by rw [List.length_take, List.length_take, HX.out.1], fun i x d hx hd => by
   rw [List.getElem?_take] at hx hd
   split at hx
   ·
    rename_i q; rw [if_pos q] at hd; exact HX.out.2 i x d hx hd
   ·
    cases hx⟩
  obtain ⟨g, eA, _⟩ : ∃ g, A = some ⟨g, 0, none⟩ ∧ g < w1.heap.size := by
   rcases O1.out.shape with ⟨_, q, _⟩ | q
   ·
    rw [q] at kl; simp at kl
   ·
    exact q
  subst eA
  have CP := h_ O1.out.cap
  have n1 : ¬ ((k : Int) = -1) := by omega
  have n2 : (((k : Int) == -1) : Bool) = false := by first | (simp; done) | (simp; omega)
  have n3 : IntKind.i64.wrap ((k : Int) + 1) = ((k + 1 : Nat) : Int) := by rw [IntWalk.i64_in _ (by have := HN.out; omega)]; omega
  have KL := h_ kl
  clear ek pk nk kl
  go_upto_region 5 with fail
  go_loopw [5, 6] (fun v5 v6 wr => ∃ (i j : Nat) (zs : List EvT), i + 1 ≤ j ∧ j ≤ xs.length ∧ v5 = .int .i64 i ∧ v6 = .int .i64 j ∧ Hid (zs.length = xs.length ∧ zs.drop j = xs.drop j) ∧ Hid (EvsR wb (zs.take i) ((es.take j).filter (fun e => !d e))) ∧ Hid (OwnK evTy wr (some ⟨g, 0, none⟩) c zs) ∧ Hid (Chg [] w0 wr)) (fun _ v6 _ => xs.length - (RowKit.intOf v6).toNat)
  case atStart => exact ⟨k, k + 1, xs, Nat.le_refl _, KL.out, rfl, rfl, h_ ⟨rfl, rfl⟩, h_ (by rw [F0.out]; exact E0.out), O1, C1⟩
  case round =>
   obtain ⟨i, j, zs, hij, hj, rfl, rfl, ZL, RE, RO, RC⟩ := hrel
   have i0 : (0 : Int) ≤ (i : Int) := by omega
   have j0 : (0 : Int) ≤ (j : Int) := by omega
   by_cases hlt : j < xs.length
   ·
    have j1 : (j : Int) < (xs.length : Int) := by omega
    have i1 : (i : Int) < (xs.length : Int) := by omega
    have j3 : IntKind.i64.wrap ((j : Int) + 1) = (j : Int) + 1 := IntWalk.i64_in _ (by have := HN.out; omega)
    have i3 : IntKind.i64.wrap ((i : Int) + 1) = (i : Int) + 1 := IntWalk.i64_in _ (by have := HN.out; omega)
    obtain ⟨x, e, ex, ee, rx⟩ := HX.out.at_ hlt
    have zx : zs[j]? = some x := by rw [getElem?_of_drop ZL.out.2 (Nat.le_refl _)]; exact ex
    obtain ⟨z0, z1, z2, z3, z4, z5, z6⟩ := evCells RO.out.reads zx
    rw [Nat.zero_add] at z0 z1 z2 z3 z4 z5 z6
    have EE := h_ ee
    have RX := h_ rx
    have EX := h_ ex
    clear ex ee rx zx
    obtain ⟨w2, hw2, c2, b2⟩ := news1 wr (.cells #[.int .i64 x.n, .int .i64 x.s, .string x.p, .int .i64 x.k, .int .i64 x.m, .slice x.A x.l x.c, .slice x.B x.bl x.bc] 40)
    have W2 := h_ hw2
    have B2 := h_ b2
    have SB : Hid (g ≠ wr.heap.size) := h_ (by
     have := RO.out.lt_ _ rfl
     intro q
     rw [q] at this
     exact Nat.lt_irrefl _ this)
    replace RO := h_ (RO.out.chg c2 (by simp))
    replace RC := h_ (RC.out.trans c2)
    clear hw2 c2 b2
    go_upto_region 8 with fail
    rw [← W2.out]
    generalize wr.heap.size = s2 at *
    clear W2 z0 z1 z2 z3 z4 z5 z6
    obtain ⟨y0, y1, y2, y3, y4, y5, y6⟩ := ce7 B2.out
    have CC := h_ (W1C.out w2 RC.out _ x e EX.out EE.out)
    go_wp2_with fail
    refine CC.out.mono ?_
    rintro r w3 ⟨rfl, hc⟩
    replace RO := h_ (RO.out.chg hc (by simp))
    replace RC := h_ (RC.out.trans hc)
    replace B2 := h_ (hc.at_ B2.out (by simp))
    clear hc CC y0 y1 y2 y3 y4 y5 y6
    rcases ha : d e with _ | _
    ·
     have FT : Hid ((es.take (j + 1)).filter (fun e => !d e) = (es.take j).filter (fun e => !d e) ++ [e]) := h_ (by rw [filt_take EE.out]; simp [ha])
     clear ha
     obtain ⟨y0, y1, y2, y3, y4, y5, y6⟩ := ce7 B2.out
     obtain ⟨u, hu⟩ : ∃ u, zs[i]? = some u := ⟨_, List.getElem?_eq_getElem (by rw [ZL.out.1]; omega)⟩
     obtain ⟨z0, z1, z2, z3, z4, z5, z6⟩ := evCells RO.out.reads hu
     rw [Nat.zero_add] at z0 z1 z2 z3 z4 z5 z6
     have F3 : ∀ j, w3.frozen? ⟨g, j, none⟩ = false := fun j => by
      rcases RO.out with ⟨h, _⟩ | ⟨g', full, e, hg, _⟩
      ·
       cases h
      ·
       cases e; exact free_of hg j
     have f0 := F3 (i * 7)
     have f1 := F3 (i * 7 + 1)
     have f2 := F3 (i * 7 + 2)
     have f3 := F3 (i * 7 + 3)
     have f4 := F3 (i * 7 + 4)
     have f5 := F3 (i * 7 + 5)
     have f6 := F3 (i * 7 + 6)
     have RO4 := h_ (RO.out.set7 i _ x hu)
     have RC4 := h_ (RC.out.set7 (g := g) (.inr (NA.out _ rfl)) (i * 7) (.int .i64 x.n) (.int .i64 x.s) (.string x.p) (.int .i64 x.k) (.int .i64 x.m) (.slice x.A x.l x.c) (.slice x.B x.bl x.bc))
     have ZL4 : Hid ((zs.set i x).length = xs.length ∧ (zs.set i x).drop (j + 1) = xs.drop (j + 1)) := h_ ⟨by rw [List.length_set]; exact ZL.out.1, by
      rw [List.drop_set_of_lt (by omega)]
      have := congrArg (List.drop 1) ZL.out.2
      simpa [List.drop_drop] using this⟩
     have RE4 : Hid (EvsR wb ((zs.set i x).take (i + 1)) ((es.take (j + 1)).filter (fun e => !d e))) := h_ (by
      rw [FT.out, take_set_next (by rw [ZL.out.1]; omega)]
      exact RE.out.snoc RX.out)
     clear F3 hu
     go_upto_region 10 with fail
     clear z0 z1 z2 z3 z4 z5 z6 f0 f1 f2 f3 f4 f5 f6 y0 y1 y2 y3 y4 y5 y6
     generalize (((((((w3.setCell ⟨g, i * 7, none⟩ (.int .i64 x.n)).setCell ⟨g, i * 7 + 1, none⟩ (.int .i64 x.s)).setCell ⟨g, i * 7 + 2, none⟩ (.string x.p)).setCell ⟨g, i * 7 + 3, none⟩ (.int .i64 x.k)).setCell ⟨g, i * 7 + 4, none⟩ (.int .i64 x.m)).setCell ⟨g, i * 7 + 5, none⟩ (.slice x.A x.l x.c)).setCell ⟨g, i * 7 + 6, none⟩ (.slice x.B x.bl x.bc)) = w4 at *
     go_wp2; go_round
     case rel => exact ⟨i + 1, j + 1, zs.set i x, by omega, by omega, by go_num, by go_num, ZL4, RE4, RO4, RC4⟩
     case measure => simp [RowKit.intOf]; omega
    ·
     have FT : Hid ((es.take (j + 1)).filter (fun e => !d e) = (es.take j).filter (fun e => !d e)) := h_ (by rw [filt_take EE.out]; simp [ha])
     clear ha
     have ZL4 : Hid (zs.length = xs.length ∧ zs.drop (j + 1) = xs.drop (j + 1)) := h_ ⟨ZL.out.1, by
      have := congrArg (List.drop 1) ZL.out.2
      simpa [List.drop_drop] using this⟩
     rw [← FT.out] at RE
     go_wp2; go_round
     case rel => exact ⟨i, j + 1, zs, by omega, by omega, rfl, by go_num, ZL4, RE, RO, RC⟩
     case measure => simp [RowKit.intOf]; omega
   ·
    obtain rfl : j = xs.length := by omega
    have j1 : ¬ (xs.length : Int) < (xs.length : Int) := by omega
    have ET : es.take xs.length = es := by rw [HX.out.1]; exact List.take_length
    rw [ET] at RE
    clear ET
    obtain ⟨full, hg, hfl, hcm, hzl, hft⟩ : ∃ full, wr.heap[g]? = some (.cells (evTy.flat full).toArray 40 (0, 0)) ∧ full.length = c ∧ c ≤ maxLen ∧ zs.length ≤ c ∧ full.take zs.length = zs := by
     rcases RO.out with ⟨h, _⟩ | ⟨g', full, e, hg, h1, h2, h3, h4⟩
     ·
      cases h
     ·
      cases e; exact ⟨full, hg, h1, h2, h3, h4⟩
    have il : i < xs.length := by omega
    have nc : xs.length ≤ c := by rw [← ZL.out.1]; exact hzl
    have hcl := fun ty => run_clearE wr ty g c xs.length i full hg hfl nc il
    have hown := OwnK.of (R := evTy) (w := wr.setRow g (evTy.flat (full.take i ++ (List.replicate (xs.length - i) evTy.z ++ full.drop xs.length))).toArray) (g := g) (c := c) (full := full.take i ++ (List.replicate (xs.length - i) evTy.z ++ full.drop xs.length)) (xs := zs.take i) (setRow_heap wr g _ _ _ _ hg) (by rw [List.length_take, ZL.out.1]; omega) hcm (by simp; omega) (by
     have e1 : (zs.take i).length = i := by rw [List.length_take, ZL.out.1]; omega
     rw [e1, List.take_append_of_le_length (by rw [List.length_take, hfl]; omega), List.take_take, Nat.min_self, ← hft, List.take_take, Nat.min_eq_left (by rw [ZL.out.1]; omega)])
    have hch : Chg [] w0 (wr.setRow g (evTy.flat (full.take i ++ (List.replicate (xs.length - i) evTy.z ++ full.drop xs.length))).toArray) := RC.out.trans' (S' := [g]) ⟨rfl, rfl, rfl, by simp, fun j hj hn => setRow_other wr g j _ (by simpa using hn)⟩ (fun j hj => by simp at hj; subst hj; exact .inr (NA.out _ rfl))
    have HE := h_ (And.intro hown hch)
    have IL : Hid ((zs.take i).length = i) := h_ (by rw [List.length_take, ZL.out.1]; omega)
    have j7 : (i : Int) ≤ (xs.length : Int) := by omega
    have j8 : (i : Int) ≤ (c : Int) := by omega
    have j9 : i ≤ xs.length := by omega
    have j6 : ¬ c = i := by omega
    clear hown hch hg hfl hcm hzl hft; go_wp2; go_ret
    exact ⟨zs.take i, by rw [IL.out]; rfl, by rw [IL.out]; omega, RE.out, HE.out.1, HE.out.2⟩
end
section
open Go.RowKit Go.Lib

set_option maxRecDepth 100000 in
theorem cloneSpan_any (w : World) (A : Option Addr) (n c : Nat) (xs : List Sp) (h : RdK spanTy w A n xs) (hn : n * 400 ≤ 140737488355327) :
  Calls Tryz.prog 126 #[.slice A n c] w fun e w' => ∃ A' c', e = .returned (.slice A' n c') ∧ OwnK spanTy w' A' c' xs ∧ (∀ a, A' = some a → w.heap.size ≤ a.block) ∧ Chg [] w w' := by
 have heq := fun W => Lib.run_eql_slice_nil (P := Tryz.prog) W 23 81 A n c 0 0 Tryz.underlying23
 cases A with
 | none =>
  have hx := rdk_nil h
  subst hx
  have hl : n = 0 := h.len.symm
  subst hl; clear h
  go_enter Tryz.func126, Tryz.ntmps126
  go_wp2; go_ret
  exact ⟨none, 0, rfl, OwnK.none_ _, by simp, Chg.refl _ _⟩
 | some ad =>
  obtain ⟨w1, hw1, c1, b1⟩ := news1 w (.cells #[] 81)
  have W1 := h_ hw1
  have HA := h_ (h.chg c1 (by simp))
  have HO : Hid (OwnK spanTy w1 (some ⟨w.heap.size, 0, none⟩) 0 []) := h_ (.of (full := []) b1 (Nat.le_refl _) (Nat.zero_le _) rfl rfl)
  have C1 := h_ c1
  have HN : Hid ((0 + n) * 400 ≤ 140737488355327) := h_ (by rw [Nat.zero_add]; exact hn)
  clear hw1 c1 b1 h hn
  go_enter Tryz.func126, Tryz.ntmps126
  go_wp2_with (at_builtin; rw [← W1.out]; refine wpList_appK rfl _ _ rfl rfl HO.out rfl rfl HA.out HN.out ?_; intro A2 c2 w2 u2 d2 e2)
  go_ret
  rw [Nat.zero_add] at *
  have hA2 : ∀ a, A2 = some a → w.heap.size ≤ a.block := by
   rintro a rfl
   rcases e2 with h | h
   ·
    cases h; exact Nat.le_refl _
   ·
    cases h; exact C1.out.size
  exact ⟨A2, c2, rfl, by simpa using u2, hA2, C1.out.grown d2 (fun k hk => by simp at hk; subst hk; exact .inr (Nat.le_refl _))⟩
end
section
open Go.RowKit Go.Lib


set_option maxRecDepth 100000 in
theorem freff_any (w : World) (k m : Int) (A : Option Addr) (n c : Nat) (ys : List UInt8) (h : Bs w A n ys) (hn : n ≤ 140737488351232) :
  Calls Tryz.prog 165 #[.agg #[.int .i64 k, .int .i64 m, .slice A n c]] w fun r w' => ∃ A' c', r = .returned (.agg #[.int .i64 k, .int .i64 m, .slice A' n c']) ∧ Fresh w w' A' c' ys := by
 obtain ⟨w2, hw, hc, b0, b1⟩ := news2 w (.cells #[.int .i64 k, .int .i64 m, .slice A n c] 38) (.cells #[.int .i64 0, .int .i64 0, .slice none 0 0] 38)
 have W2 := h_ hw
 have H := h_ (h.chg hc (by simp))
 have C := h_ hc
 have HN := h_ hn
 obtain ⟨g0, hg0⟩ : ∃ g, w.heap.size = g := ⟨_, rfl⟩
 obtain ⟨g1, hg1⟩ : ∃ g, w.heap.size + 1 = g := ⟨_, rfl⟩
 have SZ := h_ hg0
 have S1 := h_ hg1
 rw [hg0] at b0
 rw [hg1] at b1
 have B0 := h_ b0
 have B1 := h_ b1
 have NEg0 : Hid (g0 ≠ g1) := h_ (by omega)
 have NEg1 : Hid (g1 ≠ g0) := h_ (by omega)
 have LZg0 : Hid (g0 ≤ g0) := h_ (Nat.le_refl _)
 have LZg1 : Hid (g0 ≤ g1) := h_ (by omega)
 have L0 := h_ (lt_of_heap b0)
 have L1 := h_ (lt_of_heap b1)
 clear hw hc b0 b1 h hn hg0 hg1
 go_enter Tryz.func165, Tryz.ntmps165
 go_upto_region 1 with fail
 rw [← W2.out, S1.out, SZ.out]
 have z0 := cell_of B0.out 0
 have fz0 := free_of B0.out 0
 have z1 := cell_of B0.out 1
 have fz1 := free_of B0.out 1
 have z2 := cell_of B0.out 2
 have fz2 := free_of B0.out 2
 simp only [gA, gY, gZ] at z0 z1 z2
 go_wp2_with fail
 refine (clone_any w2 A n c ys H.out HN.out).mono ?_
 rintro r w3 ⟨A3, c3, rfl, h3⟩
 clear z0 z1 z2 fz0 fz1 fz2
 replace B0 := h_ (h3.2.2.at_ B0.out (by simp))
 replace B1 := h_ (h3.2.2.at_ B1.out (by simp))
 have O3 := h_ h3.1
 have N3 := h_ h3.2.1
 have S2 := h_ C.out.size
 replace C := h_ (C.out.trans h3.2.2)
 have LT3 : Hid (∀ a, A3 = some a → a.block ≠ g0 ∧ a.block ≠ g1) := h_ (fun a ha => by
  have q := N3.out a ha
  have r0 := L0.out
  have r1 := L1.out
  omega)
 clear h3
 have z0 := cell_of B0.out 0
 have fz0 := free_of B0.out 0
 have z1 := cell_of B0.out 1
 have fz1 := free_of B0.out 1
 have z2 := cell_of B0.out 2
 have fz2 := free_of B0.out 2
 simp only [gA, gY, gZ] at z0 z1 z2
 go_upto_region 2 with fail
 clear z0 z1 z2 fz0 fz1 fz2
 obtain ⟨p0, p1, p2⟩ := set3_2 (.slice A3 n c3) B0.out B1.out NEg0.out LZg0.out C.out SZ.out
 generalize hW : (w3.setCell ⟨g0, 2, none⟩ (.slice A3 n c3)) = w4 at *
 replace B0 := h_ p0
 replace B1 := h_ p1
 have O4 := h_ (O3.out.chg (S := [g0]) (hW ▸ (Chg.refl [g0] w3).put' 2 _) (fun a ha => by simp; exact (LT3.out a ha).1))
 replace C := h_ p2
 clear p0 p1 p2 hW O3
 have z0 := cell_of B0.out 0
 have fz0 := free_of B0.out 0
 have z1 := cell_of B0.out 1
 have fz1 := free_of B0.out 1
 have z2 := cell_of B0.out 2
 have fz2 := free_of B0.out 2
 simp only [gA, gY, gZ] at z0 z1 z2
 have y0 := cell_of B1.out 0
 have fy0 := free_of B1.out 0
 have y1 := cell_of B1.out 1
 have fy1 := free_of B1.out 1
 have y2 := cell_of B1.out 2
 have fy2 := free_of B1.out 2
 simp only [gA, gY, gZ] at y0 y1 y2
 go_wp2; clear z0 z1 z2 fz0 fz1 fz2; clear y0 y1 y2 fy0 fy1 fy2
 obtain ⟨p0, p1, p2⟩ := set3_all (.int .i64 k) (.int .i64 m) (.slice A3 n c3) B1.out B0.out NEg1.out LZg1.out C.out SZ.out
 generalize hW : (((w4.setCell ⟨g1, 0, none⟩ (.int .i64 k)).setCell ⟨g1, 1, none⟩ (.int .i64 m)).setCell ⟨g1, 2, none⟩ (.slice A3 n c3)) = w5 at *
 have O5 := h_ (O4.out.chg (S := [g1]) (hW ▸ (((Chg.refl [g1] w4).put' 0 _).put' 1 _).put' 2 _) (fun a ha => by simp; exact (LT3.out a ha).2))
 replace B1 := h_ p0
 replace C := h_ p2
 clear p0 p1 p2 hW O4
 obtain ⟨y0, y1, y2⟩ := ce3 B1.out
 refine bodyPost_ret (v := .agg #[.int .i64 k, .int .i64 m, .slice A3 n c3]) (by simp [results, Tryz.results165, go_sem, y0, y1, y2]) rfl ?_
 exact ⟨A3, c3, rfl, O5.out, fun a ha => Nat.le_trans S2.out (N3.out a ha), C.out⟩

set_option maxRecDepth 100000 in
theorem frev_any (w : World) (x : EvT) (e : EvP) (h : EvR w x e) (hs : e.b.length ≤ 140737488351232 ∧ e.q.length ≤ 100000) :
  Calls Tryz.prog 109 #[.agg #[.int .i64 x.n, .int .i64 x.s, .string x.p, .int .i64 x.k, .int .i64 x.m, .slice x.A x.l x.c, .slice x.B x.bl x.bc]] w fun r w' => ∃ A' c' B' d', r = .returned (.agg #[.int .i64 x.n, .int .i64 x.s, .string x.p, .int .i64 x.k, .int .i64 x.m, .slice A' x.l c', .slice B' x.bl d']) ∧ EvR w' ⟨x.n, x.s, x.p, x.k, x.m, A', x.l, c', B', x.bl, d'⟩ e ∧ OwnB w' A' c' e.b ∧ OwnK spanTy w' B' d' e.q ∧ (∀ a, A' = some a → w.heap.size ≤ a.block) ∧ (∀ a, B' = some a → w.heap.size ≤ a.block) ∧ (∀ a b, A' = some a → B' = some b → a.block ≠ b.block) ∧ Chg [] w w' := by
 obtain ⟨w2, hw, hc, b0, b1⟩ := news2 w (.cells #[.int .i64 x.n, .int .i64 x.s, .string x.p, .int .i64 x.k, .int .i64 x.m, .slice x.A x.l x.c, .slice x.B x.bl x.bc] 40) (.cells #[.int .i64 0, .int .i64 0, .string ⟨#[]⟩, .int .i64 0, .int .i64 0, .slice none 0 0, .slice none 0 0] 40)
 have W2 := h_ hw
 have HR := h_ (h.chg hc)
 have HR0 := h_ h
 have C := h_ hc
 have HS := h_ hs
 obtain ⟨g0, hg0⟩ : ∃ g, w.heap.size = g := ⟨_, rfl⟩
 obtain ⟨g1, hg1⟩ : ∃ g, w.heap.size + 1 = g := ⟨_, rfl⟩
 have SZ := h_ hg0
 have S1 := h_ hg1
 rw [hg0] at b0
 rw [hg1] at b1
 have B0 := h_ b0
 have B1 := h_ b1
 have L0 := h_ (lt_of_heap b0)
 have L1 := h_ (lt_of_heap b1)
 have NEg0 : Hid (g0 ≠ g1) := h_ (by omega)
 have NEg1 : Hid (g1 ≠ g0) := h_ (by omega)
 have LZg0 : Hid (g0 ≤ g0) := h_ (Nat.le_refl _)
 have LZg1 : Hid (g0 ≤ g1) := h_ (by omega)
 clear hw hc b0 b1 h hs hg0 hg1
 go_enter Tryz.func109, Tryz.ntmps109
 go_upto_region 1 with fail
 rw [← W2.out, S1.out, SZ.out]
 have z0 := cell_of B0.out 0
 have fz0 := free_of B0.out 0
 have z1 := cell_of B0.out 1
 have fz1 := free_of B0.out 1
 have z2 := cell_of B0.out 2
 have fz2 := free_of B0.out 2
 have z3 := cell_of B0.out 3
 have fz3 := free_of B0.out 3
 have z4 := cell_of B0.out 4
 have fz4 := free_of B0.out 4
 have z5 := cell_of B0.out 5
 have fz5 := free_of B0.out 5
 have z6 := cell_of B0.out 6
 have fz6 := free_of B0.out 6
 simp only [gA, gY, gZ] at z0 z1 z2 z3 z4 z5 z6
 go_wp2_with fail
 refine (freff_any w2 x.k x.m x.A x.l x.c e.b HR.out.A (by rw [HR.out.l]; exact HS.out.1)).mono ?_
 rintro r w3 ⟨A3, c3, rfl, h3⟩
 clear z0 z1 z2 z3 z4 z5 z6 fz0 fz1 fz2 fz3 fz4 fz5 fz6
 replace B0 := h_ (h3.2.2.at_ B0.out (by simp))
 replace B1 := h_ (h3.2.2.at_ B1.out (by simp))
 have O3 := h_ h3.1
 have N3 := h_ h3.2.1
 have S2 := h_ C.out.size
 have LB : Hid (w2.heap.size ≤ w3.heap.size) := h_ h3.2.2.size
 replace C := h_ (C.out.trans h3.2.2)
 have LT3 : Hid (∀ a, A3 = some a → a.block ≠ g0 ∧ a.block ≠ g1) := h_ (fun a ha => by
  have q := N3.out a ha
  have r0 := L0.out
  have r1 := L1.out
  omega)
 have LX3 : Hid (∀ a, A3 = some a → a.block < w3.heap.size) := h_ (fun a ha => by
  obtain ⟨g, hg⟩ : ∃ g, a.block = g := ⟨_, rfl⟩
  rcases O3.out with ⟨q, _⟩ | ⟨g, full, q, hh, _⟩
  ·
   rw [q] at ha; cases ha
  ·
   rw [q] at ha; cases ha; exact lt_of_heap hh)
 clear h3
 have z0 := cell_of B0.out 0
 have fz0 := free_of B0.out 0
 have z1 := cell_of B0.out 1
 have fz1 := free_of B0.out 1
 have z2 := cell_of B0.out 2
 have fz2 := free_of B0.out 2
 have z3 := cell_of B0.out 3
 have fz3 := free_of B0.out 3
 have z4 := cell_of B0.out 4
 have fz4 := free_of B0.out 4
 have z5 := cell_of B0.out 5
 have fz5 := free_of B0.out 5
 have z6 := cell_of B0.out 6
 have fz6 := free_of B0.out 6
 simp only [gA, gY, gZ] at z0 z1 z2 z3 z4 z5 z6
 go_upto_region 2 with fail
 clear z0 z1 z2 z3 z4 z5 z6 fz0 fz1 fz2 fz3 fz4 fz5 fz6
 obtain ⟨p0, p1, p2⟩ := set7_3 (.int .i64 x.k) (.int .i64 x.m) (.slice A3 x.l c3) B0.out B1.out NEg0.out LZg0.out C.out SZ.out
 generalize hW : (((w3.setCell ⟨g0, 3, none⟩ (.int .i64 x.k)).setCell ⟨g0, 4, none⟩ (.int .i64 x.m)).setCell ⟨g0, 5, none⟩ (.slice A3 x.l c3)) = w4 at *
 have O4 := h_ (O3.out.chg (S := [g0]) (hW ▸ (((Chg.refl [g0] w3).put' 3 _).put' 4 _).put' 5 _) (fun a ha => by simp; exact (LT3.out a ha).1))
 replace B0 := h_ p0
 replace B1 := h_ p1
 have LW : Hid (w3.heap.size ≤ w4.heap.size) := h_ (by rw [← hW]; simp [World.setCell])
 replace C := h_ p2
 have RBp := h_ (HR0.out.B.chg C.out (by simp))
 clear p0 p1 p2 hW O3
 have z0 := cell_of B0.out 0
 have fz0 := free_of B0.out 0
 have z1 := cell_of B0.out 1
 have fz1 := free_of B0.out 1
 have z2 := cell_of B0.out 2
 have fz2 := free_of B0.out 2
 have z3 := cell_of B0.out 3
 have fz3 := free_of B0.out 3
 have z4 := cell_of B0.out 4
 have fz4 := free_of B0.out 4
 have z5 := cell_of B0.out 5
 have fz5 := free_of B0.out 5
 have z6 := cell_of B0.out 6
 have fz6 := free_of B0.out 6
 simp only [gA, gY, gZ] at z0 z1 z2 z3 z4 z5 z6
 go_wp2_with fail
 refine (cloneSpan_any w4 x.B x.bl x.bc e.q RBp.out (by have := HS.out.2; rw [HR.out.bl]; omega)).mono ?_
 rintro r w5 ⟨A5, c5, rfl, h5, hN5, hc5⟩
 clear z0 z1 z2 z3 z4 z5 z6 fz0 fz1 fz2 fz3 fz4 fz5 fz6
 replace B0 := h_ (hc5.at_ B0.out (by simp))
 replace B1 := h_ (hc5.at_ B1.out (by simp))
 replace O4 := h_ (O4.out.chg hc5 (by simp))
 have P5 := h_ h5
 have N5 : Hid (∀ a, A5 = some a → w3.heap.size ≤ a.block) := h_ (fun a ha => Nat.le_trans LW.out (hN5 a ha))
 replace C := h_ (C.out.trans hc5)
 have LT5 : Hid (∀ a, A5 = some a → a.block ≠ g0 ∧ a.block ≠ g1) := h_ (fun a ha => by
  have q := N5.out a ha
  have r0 := L0.out
  have r1 := L1.out
  have r2 := LB.out
  omega)
 clear h5 hN5 hc5 RBp
 have z0 := cell_of B0.out 0
 have fz0 := free_of B0.out 0
 have z1 := cell_of B0.out 1
 have fz1 := free_of B0.out 1
 have z2 := cell_of B0.out 2
 have fz2 := free_of B0.out 2
 have z3 := cell_of B0.out 3
 have fz3 := free_of B0.out 3
 have z4 := cell_of B0.out 4
 have fz4 := free_of B0.out 4
 have z5 := cell_of B0.out 5
 have fz5 := free_of B0.out 5
 have z6 := cell_of B0.out 6
 have fz6 := free_of B0.out 6
 simp only [gA, gY, gZ] at z0 z1 z2 z3 z4 z5 z6
 go_upto_region 3 with fail
 clear z0 z1 z2 z3 z4 z5 z6 fz0 fz1 fz2 fz3 fz4 fz5 fz6
 obtain ⟨p0, p1, p2⟩ := set7_1 (.slice A5 x.bl c5) B0.out B1.out NEg0.out LZg0.out C.out SZ.out
 generalize hW : (w5.setCell ⟨g0, 6, none⟩ (.slice A5 x.bl c5)) = w6 at *
 have O6 := h_ (O4.out.chg (S := [g0]) (hW ▸ (Chg.refl [g0] w5).put' 6 _) (fun a ha => by simp; exact (LT3.out a ha).1))
 have P6 := h_ (P5.out.chg (S := [g0]) (hW ▸ (Chg.refl [g0] w5).put' 6 _) (fun a ha => by simp; exact (LT5.out a ha).1))
 replace B0 := h_ p0
 replace B1 := h_ p1
 replace C := h_ p2
 clear p0 p1 p2 hW O4 P5
 have z0 := cell_of B0.out 0
 have fz0 := free_of B0.out 0
 have z1 := cell_of B0.out 1
 have fz1 := free_of B0.out 1
 have z2 := cell_of B0.out 2
 have fz2 := free_of B0.out 2
 have z3 := cell_of B0.out 3
 have fz3 := free_of B0.out 3
 have z4 := cell_of B0.out 4
 have fz4 := free_of B0.out 4
 have z5 := cell_of B0.out 5
 have fz5 := free_of B0.out 5
 have z6 := cell_of B0.out 6
 have fz6 := free_of B0.out 6
 simp only [gA, gY, gZ] at z0 z1 z2 z3 z4 z5 z6
 have y0 := cell_of B1.out 0
 have fy0 := free_of B1.out 0
 have y1 := cell_of B1.out 1
 have fy1 := free_of B1.out 1
 have y2 := cell_of B1.out 2
 have fy2 := free_of B1.out 2
 have y3 := cell_of B1.out 3
 have fy3 := free_of B1.out 3
 have y4 := cell_of B1.out 4
 have fy4 := free_of B1.out 4
 have y5 := cell_of B1.out 5
 have fy5 := free_of B1.out 5
 have y6 := cell_of B1.out 6
 have fy6 := free_of B1.out 6
 simp only [gA, gY, gZ] at y0 y1 y2 y3 y4 y5 y6
 go_wp2; clear z0 z1 z2 z3 z4 z5 z6 fz0 fz1 fz2 fz3 fz4 fz5 fz6; clear y0 y1 y2 y3 y4 y5 y6 fy0 fy1 fy2 fy3 fy4 fy5 fy6
 obtain ⟨p0, p1, p2⟩ := set7_all (.int .i64 x.n) (.int .i64 x.s) (.string x.p) (.int .i64 x.k) (.int .i64 x.m) (.slice A3 x.l c3) (.slice A5 x.bl c5) B1.out B0.out NEg1.out LZg1.out C.out SZ.out
 generalize hW : (((((((w6.setCell ⟨g1, 0, none⟩ (.int .i64 x.n)).setCell ⟨g1, 1, none⟩ (.int .i64 x.s)).setCell ⟨g1, 2, none⟩ (.string x.p)).setCell ⟨g1, 3, none⟩ (.int .i64 x.k)).setCell ⟨g1, 4, none⟩ (.int .i64 x.m)).setCell ⟨g1, 5, none⟩ (.slice A3 x.l c3)).setCell ⟨g1, 6, none⟩ (.slice A5 x.bl c5)) = w7 at *
 have O7 := h_ (O6.out.chg (S := [g1]) (hW ▸ (((((((Chg.refl [g1] w6).put' 0 _).put' 1 _).put' 2 _).put' 3 _).put' 4 _).put' 5 _).put' 6 _) (fun a ha => by simp; exact (LT3.out a ha).2))
 have P7 := h_ (P6.out.chg (S := [g1]) (hW ▸ (((((((Chg.refl [g1] w6).put' 0 _).put' 1 _).put' 2 _).put' 3 _).put' 4 _).put' 5 _).put' 6 _) (fun a ha => by simp; exact (LT5.out a ha).2))
 replace B1 := h_ p0
 replace C := h_ p2
 clear p0 p1 p2 hW O6 P6
 obtain ⟨y0, y1, y2, y3, y4, y5, y6⟩ := ce7 B1.out
 refine bodyPost_ret (v := .agg #[.int .i64 x.n, .int .i64 x.s, .string x.p, .int .i64 x.k, .int .i64 x.m, .slice A3 x.l c3, .slice A5 x.bl c5]) (by simp [results, Tryz.results109, go_sem, y0, y1, y2, y3, y4, y5, y6]) rfl ?_
 refine ⟨A3, c3, A5, c5, rfl, ⟨HR.out.n, HR.out.s, HR.out.p, HR.out.k, HR.out.m, HR.out.l, HR.out.bl, ?_, ?_⟩, O7.out, P7.out, fun a ha => Nat.le_trans S2.out (N3.out a ha), fun a ha => Nat.le_trans S2.out (Nat.le_trans LB.out (N5.out a ha)), fun a b ha hb => by have := LX3.out a ha; have := N5.out b hb; omega, C.out⟩
 ·
  have := O7.out.reads
  rw [← HR.out.l] at this
  exact this
 ·
  have := P7.out.reads
  rw [← HR.out.bl] at this
  exact this
end
end Go.Proofs.YtehmchdhlhchjaaGreatDoor
