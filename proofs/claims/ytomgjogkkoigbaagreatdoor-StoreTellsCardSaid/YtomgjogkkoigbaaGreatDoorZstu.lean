/- slices.DeleteFunc over events, at shelf.without's func. slices.IndexFunc, ContainsFunc, DeleteFunc over events. slices.Clone of spans. fresh.Effect, fresh.Event. fresh.list of events. copy into a row of structs. No function of the program is named here. slices.Insert of one event. What a shelf's Check has seen, purely. -/
import Derived.Test.YtomgjogkkoigbaaGreatDoorZsts
import Derived.Test.YtomgjogkkoigbaaGreatDoorZstt
import Derived.Test.YtomgjogkkoigbaaGreatDoorZstr
import Derived.Test.YtomgjogkkoigbaaGreatDoorZstb
import Derived.Test.YtomgjogkkoigbaaGreatDoorZstk
import Derived.Test.YtomgjogkkoigbaaGreatDoorZstm
import Derived.Test.YtomgjogkkoigbaaGreatDoorZstc
import Derived.Deep.Cut
import Derived.BigQuiet
import Derived.Test.YtomgjogkkoigbaaGreatDoorZstd
import Derived.Test.YtomgjogkkoigbaaGreatDoorZsta
import Derived.Lib.Overlaps
import Derived.Lib.AppendZerosOnto
import Derived.Test.YtomgjogkkoigbaaGreatDoorZstj
set_option linter.unusedSimpArgs false
set_option linter.unusedVariables false
namespace Go.Proofs.YtomgjogkkoigbaaGreatDoor
section
open Go.RowKit Go.Lib


theorem run_clearE (w : World) (ty : TypeId) (g c n k : Nat) (full : List EvT) (hg : w.heap[g]? = some (.cells (evTy.flat full).toArray 30 (0, 0))) (hl : full.length = c) (hn : n ≤ c) (hk : k < n) :
  (Builtin.clear_ #[22] ty #[.slice (some ⟨g, k * 7, none⟩) (n - k) (c - k)]).run Tryz.prog w = .ok (.tuple #[]) (w.setRow g (evTy.flat (full.take k ++ List.replicate (n - k) evTy.z ++ full.drop n)).toArray) := by
 have hz := evTy.zeros (n - k)
 have hk2 : evTy.k = 7 := rfl
 have hlen : (evTy.flat full).length = full.length * 7 := evTy.flat_len full
 have hlz : (evTy.flat (List.replicate (n - k) evTy.z)).length = (n - k) * 7 := by rw [evTy.flat_len, List.length_replicate, hk2]
 have hst := run_storeCells_at (P := Tryz.prog) g (k * 7) 30 (evTy.flat (List.replicate (n - k) evTy.z)) 0 _ w hg (by rw [hlz, List.size_toArray, hlen]; omega) (evTy.flat_one _)
 have ht := evTy.flat_take full k
 have hd := evTy.flat_drop full n
 rw [hk2] at ht hd
 have hfin : ((evTy.flat full).toArray.toList.take (k * 7 + 0) ++ evTy.flat (List.replicate (n - k) evTy.z) ++ (evTy.flat full).toArray.toList.drop (k * 7 + 0 + (evTy.flat (List.replicate (n - k) evTy.z)).length)) = evTy.flat (full.take k ++ List.replicate (n - k) evTy.z ++ full.drop n) := by
  rw [evTy.flat_app, evTy.flat_app, ht, hd, hlz, show k * 7 + 0 + (n - k) * 7 = n * 7 by omega]
  rfl
 rw [hfin] at hst
 obtain ⟨m, hm⟩ : ∃ m, n - k = m + 1 := ⟨n - k - 1, by omega⟩
 have hzv : ∀ w, (zeroValue 30).run Tryz.prog w = .ok (.agg #[.int .i64 0, .int .i64 0, .string ⟨#[]⟩, .int .i64 0, .int .i64 0, .slice none 0 0, .slice none 0 0]) w := Tryz.zeroValue30
 have hzz : (Builtin.zeroCells (Value.agg #[.int .i64 0, .int .i64 0, .string ⟨#[]⟩, .int .i64 0, .int .i64 0, .slice none 0 0, .slice none 0 0]).cells (n - k)).toList = evTy.flat (List.replicate (n - k) evTy.z) := by
  exact (congrArg Array.toList hz).trans (by simp)
 rw [hm] at hst hzz ⊢
 simp [Builtin.clear_, run_underlying Tryz.underlying22, hzv, hzz, hst]
instance inhShdel : Inhabited (Int × Int) := ⟨(0, 0)⟩


theorem filt_take {es : List EvP} {q : EvP → Bool} {k : Nat} {e : EvP} (he : es[k]? = some e) : (es.take (k + 1)).filter q = (es.take k).filter q ++ (if q e = true then [e] else []) := by
 rw [List.take_add_one, he, List.filter_append]
 cases h : q e <;> simp [h]
theorem take_set_next {α : Type} {zs : List α} {i : Nat} {x : α} (hi : i < zs.length) : (zs.set i x).take (i + 1) = zs.take i ++ [x] := by
 rw [List.take_add_one, List.getElem?_set, if_pos rfl, if_pos hi, List.take_set, List.set_eq_of_length_le (by rw [List.length_take]; omega)]
 rfl
set_option maxRecDepth 100000 in
set_option maxHeartbeats 16000000 in
theorem shdel_any (wb w0 w : World) (A : Option Addr) (c : Nat) (xs : List EvT) (es : List EvP) (gq : Nat) (T : TypeId) (gp : Nat) (y : EvT) (f : EvP) (hb : Chg [] wb w0) (h0 : Chg [] w0 w) (h : OwnK evTy w A c xs) (hA : ∀ a, A = some a → w0.heap.size ≤ a.block) (hx : EvsR wb xs es) (hn : xs.length ≤ 100000) (hq : w0.heap[gq]? = some (.cells #[.func (.func 40) #[] #[]] T (0, 0))) (hp : w0.heap[gp]? = some (.cells #[.int .i64 y.n, .int .i64 y.s, .string y.p, .int .i64 y.k, .int .i64 y.m, .slice y.A y.l y.c, .slice y.B y.bl y.bc] 30 (0, 0))) (hy : EvR w0 y f) (hs : ∀ e ∈ es, EvSm e) (ht : EvSm f) :
  Calls Tryz.prog 122 #[.slice A xs.length c, .func (.func 218) #[] #[.pointer (some ⟨gq, 0, none⟩), .pointer (some ⟨gp, 0, none⟩)]] w fun r w' => ∃ ys : List EvT, r = .returned (.slice A ys.length c) ∧ ys.length ≤ xs.length ∧ EvsR wb ys (es.filter (fun e => !aheadP e f)) ∧ OwnK evTy w' A c ys ∧ Chg [] w0 w' := by
 have IX := Lib.hid (shindexw_any w A c xs es gq T gp y f h.reads (hx.chg (hb.trans h0)) hn (h0.at_ hq (by simp)) (h0.at_ hp (by simp)) (hy.chg h0) hs ht)
 have W1C := Lib.hid (fun (wr : World) (RC : Chg [] w0 wr) (x : EvT) (e : EvP) (rx : EvR wb x e) (he : e ∈ es) => shwithout1_any wr gq T gp x y e f (RC.at_ hq (by simp)) (RC.at_ hp (by simp)) (rx.chg (hb.trans RC)) (hy.chg RC) (hs e he) ht)
 have O0 := Lib.hid h
 have C0 := Lib.hid h0
 have NA := Lib.hid hA
 have HX := Lib.hid hx
 have HN := Lib.hid hn
 clear h h0 hb hA hx hn hq hp hy hs ht
 go_enter Tryz.func122, Tryz.ntmps122
 go_wp2_with fail
 refine IX.out.mono ?_
 rintro r w1 ⟨⟨v, rfl, hv⟩, hc⟩
 have C1 := Lib.hid (C0.out.trans hc)
 have O1 := Lib.hid (O0.out.chg hc (by simp))
 clear hc O0 C0 IX
 rcases hv with ⟨rfl, no⟩ | ⟨k, e, rfl, ek, pk, nk⟩
 ·
  have ES : Hid (es.filter (fun e => !aheadP e f) = es) := Lib.hid (List.filter_eq_self.2 (fun e he => by have q : aheadP e f = false := no e he; rw [q]; rfl))
  clear no; go_wp2; go_ret
  exact ⟨xs, rfl, Nat.le_refl _, by rw [ES.out]; exact HX.out, O1.out, C1.out⟩
 ·
  have kl : k < xs.length := by rw [HX.out.1]; exact (List.getElem?_eq_some_iff.1 ek).1
  have F0 : Hid ((es.take (k + 1)).filter (fun e => !aheadP e f) = es.take k) := Lib.hid (by
   rw [filt_take ek]
   have pk : aheadP e f = true := pk
   simp only [pk, Bool.not_true, Bool.false_eq_true, if_false, List.append_nil]
   exact List.filter_eq_self.2 (fun e he => by have q : aheadP e f = false := nk e he; rw [q]; rfl))
  have E0 : Hid (EvsR wb (xs.take k) (es.take k)) := Lib.hid ⟨by rw [List.length_take, List.length_take, HX.out.1], fun i x d hx hd => by
   rw [List.getElem?_take] at hx hd
   split at hx
   ·
    rename_i q; rw [if_pos q] at hd; exact HX.out.2 i x d hx hd
   ·
    cases hx⟩
  obtain ⟨g, eA, _⟩ : ∃ g, A = some ⟨g, 0, none⟩ ∧ g < w1.heap.size := by
   rcases O1.out.shape with ⟨_, q, _⟩ | q
   ·
    rw [q] at kl; simp at kl
   ·
    exact q
  subst eA
  have CP := Lib.hid O1.out.cap
  have n1 : ¬ ((k : Int) = -1) := by omega
  have n2 : (((k : Int) == -1) : Bool) = false := by first | (simp; done) | (simp; omega)
  have n3 : IntKind.i64.wrap ((k : Int) + 1) = ((k + 1 : Nat) : Int) := by rw [IntWalk.i64_in _ (by have := HN.out; omega)]; omega
  have KL := Lib.hid kl
  clear ek pk nk kl
  go_upto_region 5 with fail
  go_loopw [5, 6] (fun v5 v6 wr => ∃ (i j : Nat) (zs : List EvT), i + 1 ≤ j ∧ j ≤ xs.length ∧ v5 = .int .i64 i ∧ v6 = .int .i64 j ∧ Hid (zs.length = xs.length ∧ zs.drop j = xs.drop j) ∧ Hid (EvsR wb (zs.take i) ((es.take j).filter (fun e => !aheadP e f))) ∧ Hid (OwnK evTy wr (some ⟨g, 0, none⟩) c zs) ∧ Hid (Chg [] w0 wr)) (fun _ v6 _ => xs.length - (RowKit.intOf v6).toNat)
  case atStart => exact ⟨k, k + 1, xs, Nat.le_refl _, KL.out, rfl, rfl, Lib.hid ⟨rfl, rfl⟩, Lib.hid (by rw [F0.out]; exact E0.out), O1, C1⟩
  case round =>
   obtain ⟨i, j, zs, hij, hj, rfl, rfl, ZL, RE, RO, RC⟩ := hrel
   have i0 : (0 : Int) ≤ (i : Int) := by omega
   have j0 : (0 : Int) ≤ (j : Int) := by omega
   by_cases hlt : j < xs.length
   ·
    have j1 : (j : Int) < (xs.length : Int) := by omega
    have i1 : (i : Int) < (xs.length : Int) := by omega
    have j3 : IntKind.i64.wrap ((j : Int) + 1) = (j : Int) + 1 := IntWalk.i64_in _ (by have := HN.out; omega)
    have i3 : IntKind.i64.wrap ((i : Int) + 1) = (i : Int) + 1 := IntWalk.i64_in _ (by have := HN.out; omega)
    obtain ⟨x, e, ex, ee, rx⟩ := HX.out.at_ hlt
    have zx : zs[j]? = some x := by rw [getElem?_of_drop ZL.out.2 (Nat.le_refl _)]; exact ex
    obtain ⟨z0, z1, z2, z3, z4, z5, z6⟩ := evCells RO.out.reads zx
    rw [Nat.zero_add] at z0 z1 z2 z3 z4 z5 z6
    have EE := Lib.hid ee
    have RX := Lib.hid rx
    have EX := Lib.hid ex
    clear ex ee rx zx
    obtain ⟨w2, hw2, c2, b2⟩ := news1 wr (.cells #[.int .i64 x.n, .int .i64 x.s, .string x.p, .int .i64 x.k, .int .i64 x.m, .slice x.A x.l x.c, .slice x.B x.bl x.bc] 30)
    have W2 := Lib.hid hw2
    have B2 := Lib.hid b2
    have SB : Hid (g ≠ wr.heap.size) := Lib.hid (by
     have := RO.out.lt_ _ rfl
     intro q
     rw [q] at this
     exact Nat.lt_irrefl _ this)
    replace RO := Lib.hid (RO.out.chg c2 (by simp))
    replace RC := Lib.hid (RC.out.trans c2)
    clear hw2 c2 b2
    go_upto_region 8 with fail
    rw [← W2.out]
    generalize wr.heap.size = s2 at *
    clear W2 z0 z1 z2 z3 z4 z5 z6
    have y0 := cell_of B2.out 0
    have y1 := cell_of B2.out 1
    have y2 := cell_of B2.out 2
    have y3 := cell_of B2.out 3
    have y4 := cell_of B2.out 4
    have y5 := cell_of B2.out 5
    have y6 := cell_of B2.out 6
    simp only [List.getElem?_toArray, List.getElem?_cons_succ, List.getElem?_cons_zero] at y0 y1 y2 y3 y4 y5 y6
    have CC := Lib.hid (W1C.out w2 RC.out x e RX.out (List.mem_of_getElem? EE.out))
    go_wp2_with fail
    refine CC.out.mono ?_
    rintro r w3 ⟨rfl, hc⟩
    replace RO := Lib.hid (RO.out.chg hc (by simp))
    replace RC := Lib.hid (RC.out.trans hc)
    replace B2 := Lib.hid (hc.at_ B2.out (by simp))
    clear hc CC y0 y1 y2 y3 y4 y5 y6
    rcases ha : aheadP e f with _ | _
    ·
     have FT : Hid ((es.take (j + 1)).filter (fun e => !aheadP e f) = (es.take j).filter (fun e => !aheadP e f) ++ [e]) := Lib.hid (by rw [filt_take EE.out]; simp [ha])
     clear ha
     have y0 := cell_of B2.out 0
     have y1 := cell_of B2.out 1
     have y2 := cell_of B2.out 2
     have y3 := cell_of B2.out 3
     have y4 := cell_of B2.out 4
     have y5 := cell_of B2.out 5
     have y6 := cell_of B2.out 6
     simp only [List.getElem?_toArray, List.getElem?_cons_succ, List.getElem?_cons_zero] at y0 y1 y2 y3 y4 y5 y6
     obtain ⟨u, hu⟩ : ∃ u, zs[i]? = some u := ⟨_, List.getElem?_eq_getElem (by rw [ZL.out.1]; omega)⟩
     obtain ⟨z0, z1, z2, z3, z4, z5, z6⟩ := evCells RO.out.reads hu
     rw [Nat.zero_add] at z0 z1 z2 z3 z4 z5 z6
     have F3 : ∀ j, w3.frozen? ⟨g, j, none⟩ = false := fun j => by
      rcases RO.out with ⟨h, _⟩ | ⟨g', full, e, hg, _⟩
      ·
       cases h
      ·
       cases e; exact free_of hg j
     have f0 := F3 (i * 7)
     have f1 := F3 (i * 7 + 1)
     have f2 := F3 (i * 7 + 2)
     have f3 := F3 (i * 7 + 3)
     have f4 := F3 (i * 7 + 4)
     have f5 := F3 (i * 7 + 5)
     have f6 := F3 (i * 7 + 6)
     have RO4 := Lib.hid (RO.out.set7 i _ x hu)
     have RC4 := Lib.hid (RC.out.set7 (g := g) (.inr (NA.out _ rfl)) (i * 7) (.int .i64 x.n) (.int .i64 x.s) (.string x.p) (.int .i64 x.k) (.int .i64 x.m) (.slice x.A x.l x.c) (.slice x.B x.bl x.bc))
     have ZL4 : Hid ((zs.set i x).length = xs.length ∧ (zs.set i x).drop (j + 1) = xs.drop (j + 1)) := Lib.hid ⟨by rw [List.length_set]; exact ZL.out.1, by
      rw [List.drop_set_of_lt (by omega)]
      have := congrArg (List.drop 1) ZL.out.2
      simpa [List.drop_drop] using this⟩
     have RE4 : Hid (EvsR wb ((zs.set i x).take (i + 1)) ((es.take (j + 1)).filter (fun e => !aheadP e f))) := Lib.hid (by
      rw [FT.out, take_set_next (by rw [ZL.out.1]; omega)]
      exact RE.out.snoc RX.out)
     clear F3 hu
     go_upto_region 10 with fail
     clear z0 z1 z2 z3 z4 z5 z6 f0 f1 f2 f3 f4 f5 f6 y0 y1 y2 y3 y4 y5 y6
     generalize (((((((w3.setCell ⟨g, i * 7, none⟩ (.int .i64 x.n)).setCell ⟨g, i * 7 + 1, none⟩ (.int .i64 x.s)).setCell ⟨g, i * 7 + 2, none⟩ (.string x.p)).setCell ⟨g, i * 7 + 3, none⟩ (.int .i64 x.k)).setCell ⟨g, i * 7 + 4, none⟩ (.int .i64 x.m)).setCell ⟨g, i * 7 + 5, none⟩ (.slice x.A x.l x.c)).setCell ⟨g, i * 7 + 6, none⟩ (.slice x.B x.bl x.bc)) = w4 at *
     go_wp2; go_round
     case rel => exact ⟨i + 1, j + 1, zs.set i x, by omega, by omega, by go_num, by go_num, ZL4, RE4, RO4, RC4⟩
     case measure => simp [RowKit.intOf]; omega
    ·
     have FT : Hid ((es.take (j + 1)).filter (fun e => !aheadP e f) = (es.take j).filter (fun e => !aheadP e f)) := Lib.hid (by rw [filt_take EE.out]; simp [ha])
     clear ha
     have ZL4 : Hid (zs.length = xs.length ∧ zs.drop (j + 1) = xs.drop (j + 1)) := Lib.hid ⟨ZL.out.1, by
      have := congrArg (List.drop 1) ZL.out.2
      simpa [List.drop_drop] using this⟩
     rw [← FT.out] at RE
     go_wp2; go_round
     case rel => exact ⟨i, j + 1, zs, by omega, by omega, rfl, by go_num, ZL4, RE, RO, RC⟩
     case measure => simp [RowKit.intOf]; omega
   ·
    obtain rfl : j = xs.length := by omega
    have j1 : ¬ (xs.length : Int) < (xs.length : Int) := by omega
    have ET : es.take xs.length = es := by rw [HX.out.1]; exact List.take_length
    rw [ET] at RE
    clear ET
    obtain ⟨full, hg, hfl, hcm, hzl, hft⟩ : ∃ full, wr.heap[g]? = some (.cells (evTy.flat full).toArray 30 (0, 0)) ∧ full.length = c ∧ c ≤ maxLen ∧ zs.length ≤ c ∧ full.take zs.length = zs := by
     rcases RO.out with ⟨h, _⟩ | ⟨g', full, e, hg, h1, h2, h3, h4⟩
     ·
      cases h
     ·
      cases e; exact ⟨full, hg, h1, h2, h3, h4⟩
    have il : i < xs.length := by omega
    have nc : xs.length ≤ c := by rw [← ZL.out.1]; exact hzl
    have hcl := fun ty => run_clearE wr ty g c xs.length i full hg hfl nc il
    have hown := OwnK.of (R := evTy) (w := wr.setRow g (evTy.flat (full.take i ++ (List.replicate (xs.length - i) evTy.z ++ full.drop xs.length))).toArray) (g := g) (c := c) (full := full.take i ++ (List.replicate (xs.length - i) evTy.z ++ full.drop xs.length)) (xs := zs.take i) (setRow_heap wr g _ _ _ _ hg) (by rw [List.length_take, ZL.out.1]; omega) hcm (by simp; omega) (by
     have e1 : (zs.take i).length = i := by rw [List.length_take, ZL.out.1]; omega
     rw [e1, List.take_append_of_le_length (by rw [List.length_take, hfl]; omega), List.take_take, Nat.min_self, ← hft, List.take_take, Nat.min_eq_left (by rw [ZL.out.1]; omega)])
    have hch : Chg [] w0 (wr.setRow g (evTy.flat (full.take i ++ (List.replicate (xs.length - i) evTy.z ++ full.drop xs.length))).toArray) := RC.out.trans' (S' := [g]) ⟨rfl, rfl, rfl, by simp, fun j hj hn => setRow_other wr g j _ (by simpa using hn)⟩ (fun j hj => by simp at hj; subst hj; exact .inr (NA.out _ rfl))
    have HE := Lib.hid (And.intro hown hch)
    have IL : Hid ((zs.take i).length = i) := Lib.hid (by rw [List.length_take, ZL.out.1]; omega)
    have j7 : (i : Int) ≤ (xs.length : Int) := by omega
    have j8 : (i : Int) ≤ (c : Int) := by omega
    have j9 : i ≤ xs.length := by omega
    have j6 : ¬ c = i := by omega
    clear hown hch hg hfl hcm hzl hft; go_wp2; go_ret
    exact ⟨zs.take i, by rw [IL.out]; rfl, by rw [IL.out]; omega, RE.out, HE.out.1, HE.out.2⟩
end
section
open Go.RowKit Go.Lib


set_option maxRecDepth 100000 in
set_option maxHeartbeats 4000000 in
theorem evfindex_any (w : World) (A : Option Addr) (c : Nat) (xs : List EvT) (es : List EvP) (gf : Nat) (lb : Array Value) (d : EvP → Bool) (eg : ∀ args w, (callFunc gf args).run Tryz.prog w = .ok (.enter gf args) w) (h : RdK evTy w A xs.length xs) (hx : EvsR w xs es) (hn : xs.length ≤ 100000) (hcall : ∀ (wr : World), Chg [] w wr → ∀ (i : Nat) (x : EvT) (e : EvP), xs[i]? = some x → es[i]? = some e → Calls Tryz.prog gf (#[.agg #[.int .i64 x.n, .int .i64 x.s, .string x.p, .int .i64 x.k, .int .i64 x.m, .slice x.A x.l x.c, .slice x.B x.bl x.bc]] ++ lb) wr fun r w' => r = .returned (.bool (d e)) ∧ Chg [] wr w') :
  Calls Tryz.prog 153 #[.slice A xs.length c, .func (.func gf) #[] lb] w fun r w' => (∃ v : Int, r = .returned (.int .i64 v) ∧ IdxP es d v) ∧ Chg [] w w' := by
 have HA := Lib.hid h
 have HX := Lib.hid hx
 have HN := Lib.hid hn
 have HCALL := Lib.hid hcall
 have CLEARS : True := trivial
 clear CLEARS h hx hn hcall
 go_enter Tryz.func153, Tryz.ntmps153
 go_wp2
 go_loopw [5, 8] (fun v5 v8 wr => ∃ (k : Nat), k ≤ xs.length ∧ v8 = .int .i64 k ∧ Hid (∀ e ∈ es.take k, d e = false) ∧ Hid (Chg [] w wr)) (fun _ v8 _ => xs.length - (RowKit.intOf v8).toNat)
 case atStart => exact ⟨0, Nat.zero_le _, rfl, Lib.hid (by simp), Chg.refl _ _⟩
 case round =>
  obtain ⟨k, hk, rfl, FN_, RC⟩ := hrel
  have i0 : (0 : Int) ≤ (k : Int) := by omega
  by_cases hlt : k < xs.length
  ·
   have i1 : (k : Int) < (xs.length : Int) := by omega
   have i3 : IntKind.i64.wrap ((k : Int) + 1) = (k : Int) + 1 := IntWalk.i64_in _ (by have := HN.out; omega)
   obtain ⟨x, e, ex, ee, rx⟩ := HX.out.at_ hlt
   obtain ⟨g, o, eA, _⟩ := HA.out.line (by omega)
   subst eA
   obtain ⟨z0, z1, z2, z3, z4, z5, z6⟩ := evCells (HA.out.chg RC.out (by simp)) ex
   have EE := Lib.hid ee
   have CL := Lib.hid (HCALL.out wr RC.out _ x e ex ee)
   clear ex ee rx; go_wp2_with fail
   refine CL.out.mono ?_
   rintro r w2 ⟨rfl, hc⟩
   have C2 := Lib.hid (RC.out.trans hc)
   clear hc CL z0 z1 z2 z3 z4 z5 z6
   rcases hb : d e with _ | _
   ·
    have FN1 := Lib.hid (all_take_no FN_.out EE.out hb)
    clear hb FN_; go_wp2; go_round
    case rel => exact ⟨k + 1, by omega, by go_num, FN1, C2⟩
    case measure => simp [RowKit.intOf]; omega
   ·
    have AN : Hid (IdxP es d (k : Int)) := Lib.hid (.inr ⟨k, e, rfl, EE.out, hb, FN_.out⟩)
    clear hb FN_; go_wp2; go_ret
    exact ⟨⟨k, rfl, AN.out⟩, C2.out⟩
  ·
   obtain rfl : k = xs.length := by omega
   have ET : es.take xs.length = es := by rw [HX.out.1]; exact List.take_length
   rw [ET] at FN_
   clear ET
   have i1 : ¬ (xs.length : Int) < (xs.length : Int) := by omega
   go_wp2; go_ret
   exact ⟨⟨-1, rfl, .inl ⟨rfl, FN_.out⟩⟩, RC.out⟩

set_option maxRecDepth 100000 in
set_option maxHeartbeats 4000000 in
theorem evfcontains_any (w : World) (A : Option Addr) (c : Nat) (xs : List EvT) (es : List EvP) (gf : Nat) (lb : Array Value) (d : EvP → Bool) (eg : ∀ args w, (callFunc gf args).run Tryz.prog w = .ok (.enter gf args) w) (h : RdK evTy w A xs.length xs) (hx : EvsR w xs es) (hn : xs.length ≤ 100000) (hcall : ∀ (wr : World), Chg [] w wr → ∀ (i : Nat) (x : EvT) (e : EvP), xs[i]? = some x → es[i]? = some e → Calls Tryz.prog gf (#[.agg #[.int .i64 x.n, .int .i64 x.s, .string x.p, .int .i64 x.k, .int .i64 x.m, .slice x.A x.l x.c, .slice x.B x.bl x.bc]] ++ lb) wr fun r w' => r = .returned (.bool (d e)) ∧ Chg [] wr w') :
  Calls Tryz.prog 83 #[.slice A xs.length c, .func (.func gf) #[] lb] w fun r w' => r = .returned (.bool (es.any d)) ∧ Chg [] w w' := by
 have IX := Lib.hid (evfindex_any w A c xs es gf lb d eg h hx hn hcall)
 clear h hx hn hcall
 generalize hv : es.any d = v
 have HV := Lib.hid hv
 clear hv
 go_enter Tryz.func83, Tryz.ntmps83
 go_wp2_with fail
 refine IX.out.mono ?_
 rintro e w2 ⟨⟨u, rfl, hu⟩, hc⟩
 have C := Lib.hid hc
 have HU : Hid (decide ((0 : Int) ≤ u) = v) := Lib.hid (by rw [← HV.out]; exact hu.any.symm)
 clear hu hc; go_wp2; go_ret
 exact ⟨by rw [HU.out]; rfl, C.out⟩


set_option maxRecDepth 100000 in
set_option maxHeartbeats 16000000 in
theorem evfdel_any (wb w0 w : World) (A : Option Addr) (c : Nat) (xs : List EvT) (es : List EvP) (gf : Nat) (lb : Array Value) (d : EvP → Bool) (eg : ∀ args w, (callFunc gf args).run Tryz.prog w = .ok (.enter gf args) w) (hb : Chg [] wb w0) (h0 : Chg [] w0 w) (h : OwnK evTy w A c xs) (hA : ∀ a, A = some a → w0.heap.size ≤ a.block) (hx : EvsR wb xs es) (hn : xs.length ≤ 100000) (hcall : ∀ (wr : World), Chg [] w0 wr → ∀ (i : Nat) (x : EvT) (e : EvP), xs[i]? = some x → es[i]? = some e → Calls Tryz.prog gf (#[.agg #[.int .i64 x.n, .int .i64 x.s, .string x.p, .int .i64 x.k, .int .i64 x.m, .slice x.A x.l x.c, .slice x.B x.bl x.bc]] ++ lb) wr fun r w' => r = .returned (.bool (d e)) ∧ Chg [] wr w') :
  Calls Tryz.prog 122 #[.slice A xs.length c, .func (.func gf) #[] lb] w fun r w' => ∃ ys : List EvT, r = .returned (.slice A ys.length c) ∧ ys.length ≤ xs.length ∧ EvsR wb ys (es.filter (fun e => !d e)) ∧ OwnK evTy w' A c ys ∧ Chg [] w0 w' := by
 have IX := Lib.hid (evfindex_any w A c xs es gf lb d eg h.reads (hx.chg (hb.trans h0)) hn (fun wr hc => hcall wr (h0.trans hc)))
 have W1C := Lib.hid hcall
 have O0 := Lib.hid h
 have C0 := Lib.hid h0
 have NA := Lib.hid hA
 have HX := Lib.hid hx
 have HN := Lib.hid hn
 clear h h0 hb hA hx hn hcall
 go_enter Tryz.func122, Tryz.ntmps122
 go_wp2_with fail
 refine IX.out.mono ?_
 rintro r w1 ⟨⟨v, rfl, hv⟩, hc⟩
 have C1 := Lib.hid (C0.out.trans hc)
 have O1 := Lib.hid (O0.out.chg hc (by simp))
 clear hc O0 C0 IX
 rcases hv with ⟨rfl, no⟩ | ⟨k, e, rfl, ek, pk, nk⟩
 ·
  have ES : Hid (es.filter (fun e => !d e) = es) := Lib.hid (List.filter_eq_self.2 (fun e he => by have q : d e = false := no e he; rw [q]; rfl))
  clear no; go_wp2; go_ret
  exact ⟨xs, rfl, Nat.le_refl _, by rw [ES.out]; exact HX.out, O1.out, C1.out⟩
 ·
  have kl : k < xs.length := by rw [HX.out.1]; exact (List.getElem?_eq_some_iff.1 ek).1
  have F0 : Hid ((es.take (k + 1)).filter (fun e => !d e) = es.take k) := Lib.hid (by
   rw [filt_take ek]
   have pk : d e = true := pk
   simp only [pk, Bool.not_true, Bool.false_eq_true, if_false, List.append_nil]
   exact List.filter_eq_self.2 (fun e he => by have q : d e = false := nk e he; rw [q]; rfl))
  have E0 : Hid (EvsR wb (xs.take k) (es.take k)) := Lib.hid ⟨by rw [List.length_take, List.length_take, HX.out.1], fun i x d hx hd => by
   rw [List.getElem?_take] at hx hd
   split at hx
   ·
    rename_i q; rw [if_pos q] at hd; exact HX.out.2 i x d hx hd
   ·
    cases hx⟩
  obtain ⟨g, eA, _⟩ : ∃ g, A = some ⟨g, 0, none⟩ ∧ g < w1.heap.size := by
   rcases O1.out.shape with ⟨_, q, _⟩ | q
   ·
    rw [q] at kl; simp at kl
   ·
    exact q
  subst eA
  have CP := Lib.hid O1.out.cap
  have n1 : ¬ ((k : Int) = -1) := by omega
  have n2 : (((k : Int) == -1) : Bool) = false := by first | (simp; done) | (simp; omega)
  have n3 : IntKind.i64.wrap ((k : Int) + 1) = ((k + 1 : Nat) : Int) := by rw [IntWalk.i64_in _ (by have := HN.out; omega)]; omega
  have KL := Lib.hid kl
  clear ek pk nk kl
  go_upto_region 5 with fail
  go_loopw [5, 6] (fun v5 v6 wr => ∃ (i j : Nat) (zs : List EvT), i + 1 ≤ j ∧ j ≤ xs.length ∧ v5 = .int .i64 i ∧ v6 = .int .i64 j ∧ Hid (zs.length = xs.length ∧ zs.drop j = xs.drop j) ∧ Hid (EvsR wb (zs.take i) ((es.take j).filter (fun e => !d e))) ∧ Hid (OwnK evTy wr (some ⟨g, 0, none⟩) c zs) ∧ Hid (Chg [] w0 wr)) (fun _ v6 _ => xs.length - (RowKit.intOf v6).toNat)
  case atStart => exact ⟨k, k + 1, xs, Nat.le_refl _, KL.out, rfl, rfl, Lib.hid ⟨rfl, rfl⟩, Lib.hid (by rw [F0.out]; exact E0.out), O1, C1⟩
  case round =>
   obtain ⟨i, j, zs, hij, hj, rfl, rfl, ZL, RE, RO, RC⟩ := hrel
   have i0 : (0 : Int) ≤ (i : Int) := by omega
   have j0 : (0 : Int) ≤ (j : Int) := by omega
   by_cases hlt : j < xs.length
   ·
    have j1 : (j : Int) < (xs.length : Int) := by omega
    have i1 : (i : Int) < (xs.length : Int) := by omega
    have j3 : IntKind.i64.wrap ((j : Int) + 1) = (j : Int) + 1 := IntWalk.i64_in _ (by have := HN.out; omega)
    have i3 : IntKind.i64.wrap ((i : Int) + 1) = (i : Int) + 1 := IntWalk.i64_in _ (by have := HN.out; omega)
    obtain ⟨x, e, ex, ee, rx⟩ := HX.out.at_ hlt
    have zx : zs[j]? = some x := by rw [getElem?_of_drop ZL.out.2 (Nat.le_refl _)]; exact ex
    obtain ⟨z0, z1, z2, z3, z4, z5, z6⟩ := evCells RO.out.reads zx
    rw [Nat.zero_add] at z0 z1 z2 z3 z4 z5 z6
    have EE := Lib.hid ee
    have RX := Lib.hid rx
    have EX := Lib.hid ex
    clear ex ee rx zx
    obtain ⟨w2, hw2, c2, b2⟩ := news1 wr (.cells #[.int .i64 x.n, .int .i64 x.s, .string x.p, .int .i64 x.k, .int .i64 x.m, .slice x.A x.l x.c, .slice x.B x.bl x.bc] 30)
    have W2 := Lib.hid hw2
    have B2 := Lib.hid b2
    have SB : Hid (g ≠ wr.heap.size) := Lib.hid (by
     have := RO.out.lt_ _ rfl
     intro q
     rw [q] at this
     exact Nat.lt_irrefl _ this)
    replace RO := Lib.hid (RO.out.chg c2 (by simp))
    replace RC := Lib.hid (RC.out.trans c2)
    clear hw2 c2 b2
    go_upto_region 8 with fail
    rw [← W2.out]
    generalize wr.heap.size = s2 at *
    clear W2 z0 z1 z2 z3 z4 z5 z6
    have y0 := cell_of B2.out 0
    have y1 := cell_of B2.out 1
    have y2 := cell_of B2.out 2
    have y3 := cell_of B2.out 3
    have y4 := cell_of B2.out 4
    have y5 := cell_of B2.out 5
    have y6 := cell_of B2.out 6
    simp only [List.getElem?_toArray, List.getElem?_cons_succ, List.getElem?_cons_zero] at y0 y1 y2 y3 y4 y5 y6
    have CC := Lib.hid (W1C.out w2 RC.out _ x e EX.out EE.out)
    go_wp2_with fail
    refine CC.out.mono ?_
    rintro r w3 ⟨rfl, hc⟩
    replace RO := Lib.hid (RO.out.chg hc (by simp))
    replace RC := Lib.hid (RC.out.trans hc)
    replace B2 := Lib.hid (hc.at_ B2.out (by simp))
    clear hc CC y0 y1 y2 y3 y4 y5 y6
    rcases ha : d e with _ | _
    ·
     have FT : Hid ((es.take (j + 1)).filter (fun e => !d e) = (es.take j).filter (fun e => !d e) ++ [e]) := Lib.hid (by rw [filt_take EE.out]; simp [ha])
     clear ha
     have y0 := cell_of B2.out 0
     have y1 := cell_of B2.out 1
     have y2 := cell_of B2.out 2
     have y3 := cell_of B2.out 3
     have y4 := cell_of B2.out 4
     have y5 := cell_of B2.out 5
     have y6 := cell_of B2.out 6
     simp only [List.getElem?_toArray, List.getElem?_cons_succ, List.getElem?_cons_zero] at y0 y1 y2 y3 y4 y5 y6
     obtain ⟨u, hu⟩ : ∃ u, zs[i]? = some u := ⟨_, List.getElem?_eq_getElem (by rw [ZL.out.1]; omega)⟩
     obtain ⟨z0, z1, z2, z3, z4, z5, z6⟩ := evCells RO.out.reads hu
     rw [Nat.zero_add] at z0 z1 z2 z3 z4 z5 z6
     have F3 : ∀ j, w3.frozen? ⟨g, j, none⟩ = false := fun j => by
      rcases RO.out with ⟨h, _⟩ | ⟨g', full, e, hg, _⟩
      ·
       cases h
      ·
       cases e; exact free_of hg j
     have f0 := F3 (i * 7)
     have f1 := F3 (i * 7 + 1)
     have f2 := F3 (i * 7 + 2)
     have f3 := F3 (i * 7 + 3)
     have f4 := F3 (i * 7 + 4)
     have f5 := F3 (i * 7 + 5)
     have f6 := F3 (i * 7 + 6)
     have RO4 := Lib.hid (RO.out.set7 i _ x hu)
     have RC4 := Lib.hid (RC.out.set7 (g := g) (.inr (NA.out _ rfl)) (i * 7) (.int .i64 x.n) (.int .i64 x.s) (.string x.p) (.int .i64 x.k) (.int .i64 x.m) (.slice x.A x.l x.c) (.slice x.B x.bl x.bc))
     have ZL4 : Hid ((zs.set i x).length = xs.length ∧ (zs.set i x).drop (j + 1) = xs.drop (j + 1)) := Lib.hid ⟨by rw [List.length_set]; exact ZL.out.1, by
      rw [List.drop_set_of_lt (by omega)]
      have := congrArg (List.drop 1) ZL.out.2
      simpa [List.drop_drop] using this⟩
     have RE4 : Hid (EvsR wb ((zs.set i x).take (i + 1)) ((es.take (j + 1)).filter (fun e => !d e))) := Lib.hid (by
      rw [FT.out, take_set_next (by rw [ZL.out.1]; omega)]
      exact RE.out.snoc RX.out)
     clear F3 hu
     go_upto_region 10 with fail
     clear z0 z1 z2 z3 z4 z5 z6 f0 f1 f2 f3 f4 f5 f6 y0 y1 y2 y3 y4 y5 y6
     generalize (((((((w3.setCell ⟨g, i * 7, none⟩ (.int .i64 x.n)).setCell ⟨g, i * 7 + 1, none⟩ (.int .i64 x.s)).setCell ⟨g, i * 7 + 2, none⟩ (.string x.p)).setCell ⟨g, i * 7 + 3, none⟩ (.int .i64 x.k)).setCell ⟨g, i * 7 + 4, none⟩ (.int .i64 x.m)).setCell ⟨g, i * 7 + 5, none⟩ (.slice x.A x.l x.c)).setCell ⟨g, i * 7 + 6, none⟩ (.slice x.B x.bl x.bc)) = w4 at *
     go_wp2; go_round
     case rel => exact ⟨i + 1, j + 1, zs.set i x, by omega, by omega, by go_num, by go_num, ZL4, RE4, RO4, RC4⟩
     case measure => simp [RowKit.intOf]; omega
    ·
     have FT : Hid ((es.take (j + 1)).filter (fun e => !d e) = (es.take j).filter (fun e => !d e)) := Lib.hid (by rw [filt_take EE.out]; simp [ha])
     clear ha
     have ZL4 : Hid (zs.length = xs.length ∧ zs.drop (j + 1) = xs.drop (j + 1)) := Lib.hid ⟨ZL.out.1, by
      have := congrArg (List.drop 1) ZL.out.2
      simpa [List.drop_drop] using this⟩
     rw [← FT.out] at RE
     go_wp2; go_round
     case rel => exact ⟨i, j + 1, zs, by omega, by omega, rfl, by go_num, ZL4, RE, RO, RC⟩
     case measure => simp [RowKit.intOf]; omega
   ·
    obtain rfl : j = xs.length := by omega
    have j1 : ¬ (xs.length : Int) < (xs.length : Int) := by omega
    have ET : es.take xs.length = es := by rw [HX.out.1]; exact List.take_length
    rw [ET] at RE
    clear ET
    obtain ⟨full, hg, hfl, hcm, hzl, hft⟩ : ∃ full, wr.heap[g]? = some (.cells (evTy.flat full).toArray 30 (0, 0)) ∧ full.length = c ∧ c ≤ maxLen ∧ zs.length ≤ c ∧ full.take zs.length = zs := by
     rcases RO.out with ⟨h, _⟩ | ⟨g', full, e, hg, h1, h2, h3, h4⟩
     ·
      cases h
     ·
      cases e; exact ⟨full, hg, h1, h2, h3, h4⟩
    have il : i < xs.length := by omega
    have nc : xs.length ≤ c := by rw [← ZL.out.1]; exact hzl
    have hcl := fun ty => run_clearE wr ty g c xs.length i full hg hfl nc il
    have hown := OwnK.of (R := evTy) (w := wr.setRow g (evTy.flat (full.take i ++ (List.replicate (xs.length - i) evTy.z ++ full.drop xs.length))).toArray) (g := g) (c := c) (full := full.take i ++ (List.replicate (xs.length - i) evTy.z ++ full.drop xs.length)) (xs := zs.take i) (setRow_heap wr g _ _ _ _ hg) (by rw [List.length_take, ZL.out.1]; omega) hcm (by simp; omega) (by
     have e1 : (zs.take i).length = i := by rw [List.length_take, ZL.out.1]; omega
     rw [e1, List.take_append_of_le_length (by rw [List.length_take, hfl]; omega), List.take_take, Nat.min_self, ← hft, List.take_take, Nat.min_eq_left (by rw [ZL.out.1]; omega)])
    have hch : Chg [] w0 (wr.setRow g (evTy.flat (full.take i ++ (List.replicate (xs.length - i) evTy.z ++ full.drop xs.length))).toArray) := RC.out.trans' (S' := [g]) ⟨rfl, rfl, rfl, by simp, fun j hj hn => setRow_other wr g j _ (by simpa using hn)⟩ (fun j hj => by simp at hj; subst hj; exact .inr (NA.out _ rfl))
    have HE := Lib.hid (And.intro hown hch)
    have IL : Hid ((zs.take i).length = i) := Lib.hid (by rw [List.length_take, ZL.out.1]; omega)
    have j7 : (i : Int) ≤ (xs.length : Int) := by omega
    have j8 : (i : Int) ≤ (c : Int) := by omega
    have j9 : i ≤ xs.length := by omega
    have j6 : ¬ c = i := by omega
    clear hown hch hg hfl hcm hzl hft; go_wp2; go_ret
    exact ⟨zs.take i, by rw [IL.out]; rfl, by rw [IL.out]; omega, RE.out, HE.out.1, HE.out.2⟩
end
section
open Go.RowKit Go.Lib

set_option maxRecDepth 100000 in
set_option maxHeartbeats 1000000 in
theorem cloneSpan_any (w : World) (A : Option Addr) (n c : Nat) (xs : List Sp) (h : RdK spanTy w A n xs) (hn : n * 400 ≤ 140737488355327) :
  Calls Tryz.prog 173 #[.slice A n c] w fun e w' => ∃ A' c', e = .returned (.slice A' n c') ∧ OwnK spanTy w' A' c' xs ∧ (∀ a, A' = some a → w.heap.size ≤ a.block) ∧ Chg [] w w' := by
 have heq := fun W => Lib.run_eql_slice_nil (P := Tryz.prog) W 28 72 A n c 0 0 Tryz.underlying28
 cases A with
 | none =>
  have hx := rdk_nil h
  subst hx
  have hl : n = 0 := h.len.symm
  subst hl; clear h
  go_enter Tryz.func173, Tryz.ntmps173
  go_wp2; go_ret
  exact ⟨none, 0, rfl, OwnK.none_ _, by simp, Chg.refl _ _⟩
 | some ad =>
  obtain ⟨w1, hw1, c1, b1⟩ := news1 w (.cells #[] 72)
  have W1 := Lib.hid hw1
  have HA := Lib.hid (h.chg c1 (by simp))
  have HO : Hid (OwnK spanTy w1 (some ⟨w.heap.size, 0, none⟩) 0 []) := Lib.hid (.of (full := []) b1 (Nat.le_refl _) (Nat.zero_le _) rfl rfl)
  have C1 := Lib.hid c1
  have HN : Hid ((0 + n) * 400 ≤ 140737488355327) := Lib.hid (by rw [Nat.zero_add]; exact hn)
  clear hw1 c1 b1 h hn
  go_enter Tryz.func173, Tryz.ntmps173
  go_wp2_with (at_builtin; rw [← W1.out]; refine wpList_appK rfl _ _ rfl rfl HO.out rfl rfl HA.out HN.out ?_; intro A2 c2 w2 u2 d2 e2)
  go_ret
  rw [Nat.zero_add] at *
  have hA2 : ∀ a, A2 = some a → w.heap.size ≤ a.block := by
   rintro a rfl
   rcases e2 with h | h
   ·
    cases h; exact Nat.le_refl _
   ·
    cases h; exact C1.out.size
  exact ⟨A2, c2, rfl, by simpa using u2, hA2, C1.out.grown d2 (fun k hk => by simp at hk; subst hk; exact .inr (Nat.le_refl _))⟩
end
section
open Go.RowKit Go.Lib


set_option maxRecDepth 100000 in
set_option maxHeartbeats 4000000 in
theorem freff_any (w : World) (k m : Int) (A : Option Addr) (n c : Nat) (ys : List UInt8) (h : Bs w A n ys) (hn : n ≤ 140737488351232) :
  Calls Tryz.prog 172 #[.agg #[.int .i64 k, .int .i64 m, .slice A n c]] w fun r w' => ∃ A' c', r = .returned (.agg #[.int .i64 k, .int .i64 m, .slice A' n c']) ∧ Fresh w w' A' c' ys := by
 obtain ⟨w2, hw, hc, b0, b1⟩ := news2 w (.cells #[.int .i64 k, .int .i64 m, .slice A n c] 27) (.cells #[.int .i64 0, .int .i64 0, .slice none 0 0] 27)
 have W2 := Lib.hid hw
 have H := Lib.hid (h.chg hc (by simp))
 have C := Lib.hid hc
 have HN := Lib.hid hn
 obtain ⟨g0, hg0⟩ : ∃ g, w.heap.size = g := ⟨_, rfl⟩
 obtain ⟨g1, hg1⟩ : ∃ g, w.heap.size + 1 = g := ⟨_, rfl⟩
 have SZ := Lib.hid hg0
 have S1 := Lib.hid hg1
 rw [hg0] at b0
 rw [hg1] at b1
 have B0 := Lib.hid b0
 have B1 := Lib.hid b1
 have NEg0 : Hid (g0 ≠ g1) := Lib.hid (by omega)
 have NEg1 : Hid (g1 ≠ g0) := Lib.hid (by omega)
 have LZg0 : Hid (g0 ≤ g0) := Lib.hid (Nat.le_refl _)
 have LZg1 : Hid (g0 ≤ g1) := Lib.hid (by omega)
 have L0 := Lib.hid (lt_of_heap b0)
 have L1 := Lib.hid (lt_of_heap b1)
 clear hw hc b0 b1 h hn hg0 hg1
 go_enter Tryz.func172, Tryz.ntmps172
 go_upto_region 1 with fail
 rw [← W2.out, S1.out, SZ.out]
 have z0 := cell_of B0.out 0
 have fz0 := free_of B0.out 0
 have z1 := cell_of B0.out 1
 have fz1 := free_of B0.out 1
 have z2 := cell_of B0.out 2
 have fz2 := free_of B0.out 2
 simp only [List.getElem?_toArray, List.getElem?_cons_succ, List.getElem?_cons_zero] at z0 z1 z2
 go_wp2_with fail
 refine (clone_any w2 A n c ys H.out HN.out).mono ?_
 rintro r w3 ⟨A3, c3, rfl, h3⟩
 clear z0 z1 z2 fz0 fz1 fz2
 replace B0 := Lib.hid (h3.2.2.at_ B0.out (by simp))
 replace B1 := Lib.hid (h3.2.2.at_ B1.out (by simp))
 have O3 := Lib.hid h3.1
 have N3 := Lib.hid h3.2.1
 have S2 := Lib.hid C.out.size
 replace C := Lib.hid (C.out.trans h3.2.2)
 have LT3 : Hid (∀ a, A3 = some a → a.block ≠ g0 ∧ a.block ≠ g1) := Lib.hid (fun a ha => by
  have q := N3.out a ha
  have r0 := L0.out
  have r1 := L1.out
  omega)
 clear h3
 have z0 := cell_of B0.out 0
 have fz0 := free_of B0.out 0
 have z1 := cell_of B0.out 1
 have fz1 := free_of B0.out 1
 have z2 := cell_of B0.out 2
 have fz2 := free_of B0.out 2
 simp only [List.getElem?_toArray, List.getElem?_cons_succ, List.getElem?_cons_zero] at z0 z1 z2
 go_upto_region 2 with fail
 clear z0 z1 z2 fz0 fz1 fz2
 obtain ⟨p0, p1, p2⟩ := set3_2 (.slice A3 n c3) B0.out B1.out NEg0.out LZg0.out C.out SZ.out
 generalize hW : (w3.setCell ⟨g0, 2, none⟩ (.slice A3 n c3)) = w4 at *
 replace B0 := Lib.hid p0
 replace B1 := Lib.hid p1
 have O4 := Lib.hid (O3.out.chg (S := [g0]) (hW ▸ (Chg.refl [g0] w3).put' 2 _) (fun a ha => by simp; exact (LT3.out a ha).1))
 replace C := Lib.hid p2
 clear p0 p1 p2 hW O3
 have z0 := cell_of B0.out 0
 have fz0 := free_of B0.out 0
 have z1 := cell_of B0.out 1
 have fz1 := free_of B0.out 1
 have z2 := cell_of B0.out 2
 have fz2 := free_of B0.out 2
 simp only [List.getElem?_toArray, List.getElem?_cons_succ, List.getElem?_cons_zero] at z0 z1 z2
 have y0 := cell_of B1.out 0
 have fy0 := free_of B1.out 0
 have y1 := cell_of B1.out 1
 have fy1 := free_of B1.out 1
 have y2 := cell_of B1.out 2
 have fy2 := free_of B1.out 2
 simp only [List.getElem?_toArray, List.getElem?_cons_succ, List.getElem?_cons_zero] at y0 y1 y2
 go_wp2; clear z0 z1 z2 fz0 fz1 fz2; clear y0 y1 y2 fy0 fy1 fy2
 obtain ⟨p0, p1, p2⟩ := set3_all (.int .i64 k) (.int .i64 m) (.slice A3 n c3) B1.out B0.out NEg1.out LZg1.out C.out SZ.out
 generalize hW : (((w4.setCell ⟨g1, 0, none⟩ (.int .i64 k)).setCell ⟨g1, 1, none⟩ (.int .i64 m)).setCell ⟨g1, 2, none⟩ (.slice A3 n c3)) = w5 at *
 have O5 := Lib.hid (O4.out.chg (S := [g1]) (hW ▸ (((Chg.refl [g1] w4).put' 0 _).put' 1 _).put' 2 _) (fun a ha => by simp; exact (LT3.out a ha).2))
 replace B1 := Lib.hid p0
 replace C := Lib.hid p2
 clear p0 p1 p2 hW O4
 have y0 := cell_of B1.out 0
 have y1 := cell_of B1.out 1
 have y2 := cell_of B1.out 2
 simp only [List.getElem?_toArray, List.getElem?_cons_succ, List.getElem?_cons_zero] at y0 y1 y2
 refine bodyPost_ret (v := .agg #[.int .i64 k, .int .i64 m, .slice A3 n c3]) (by simp [results, Tryz.results172, go_sem, y0, y1, y2]) rfl ?_
 exact ⟨A3, c3, rfl, O5.out, fun a ha => Nat.le_trans S2.out (N3.out a ha), C.out⟩

set_option maxRecDepth 100000 in
set_option maxHeartbeats 8000000 in
theorem frev_any (w : World) (x : EvT) (e : EvP) (h : EvR w x e) (hs : e.b.length ≤ 140737488351232 ∧ e.q.length ≤ 100000) :
  Calls Tryz.prog 107 #[.agg #[.int .i64 x.n, .int .i64 x.s, .string x.p, .int .i64 x.k, .int .i64 x.m, .slice x.A x.l x.c, .slice x.B x.bl x.bc]] w fun r w' => ∃ A' c' B' d', r = .returned (.agg #[.int .i64 x.n, .int .i64 x.s, .string x.p, .int .i64 x.k, .int .i64 x.m, .slice A' x.l c', .slice B' x.bl d']) ∧ EvR w' ⟨x.n, x.s, x.p, x.k, x.m, A', x.l, c', B', x.bl, d'⟩ e ∧ OwnB w' A' c' e.b ∧ OwnK spanTy w' B' d' e.q ∧ (∀ a, A' = some a → w.heap.size ≤ a.block) ∧ (∀ a, B' = some a → w.heap.size ≤ a.block) ∧ (∀ a b, A' = some a → B' = some b → a.block ≠ b.block) ∧ Chg [] w w' := by
 obtain ⟨w2, hw, hc, b0, b1⟩ := news2 w (.cells #[.int .i64 x.n, .int .i64 x.s, .string x.p, .int .i64 x.k, .int .i64 x.m, .slice x.A x.l x.c, .slice x.B x.bl x.bc] 30) (.cells #[.int .i64 0, .int .i64 0, .string ⟨#[]⟩, .int .i64 0, .int .i64 0, .slice none 0 0, .slice none 0 0] 30)
 have W2 := Lib.hid hw
 have HR := Lib.hid (h.chg hc)
 have HR0 := Lib.hid h
 have C := Lib.hid hc
 have HS := Lib.hid hs
 obtain ⟨g0, hg0⟩ : ∃ g, w.heap.size = g := ⟨_, rfl⟩
 obtain ⟨g1, hg1⟩ : ∃ g, w.heap.size + 1 = g := ⟨_, rfl⟩
 have SZ := Lib.hid hg0
 have S1 := Lib.hid hg1
 rw [hg0] at b0
 rw [hg1] at b1
 have B0 := Lib.hid b0
 have B1 := Lib.hid b1
 have L0 := Lib.hid (lt_of_heap b0)
 have L1 := Lib.hid (lt_of_heap b1)
 have NEg0 : Hid (g0 ≠ g1) := Lib.hid (by omega)
 have NEg1 : Hid (g1 ≠ g0) := Lib.hid (by omega)
 have LZg0 : Hid (g0 ≤ g0) := Lib.hid (Nat.le_refl _)
 have LZg1 : Hid (g0 ≤ g1) := Lib.hid (by omega)
 clear hw hc b0 b1 h hs hg0 hg1
 go_enter Tryz.func107, Tryz.ntmps107
 go_upto_region 1 with fail
 rw [← W2.out, S1.out, SZ.out]
 have z0 := cell_of B0.out 0
 have fz0 := free_of B0.out 0
 have z1 := cell_of B0.out 1
 have fz1 := free_of B0.out 1
 have z2 := cell_of B0.out 2
 have fz2 := free_of B0.out 2
 have z3 := cell_of B0.out 3
 have fz3 := free_of B0.out 3
 have z4 := cell_of B0.out 4
 have fz4 := free_of B0.out 4
 have z5 := cell_of B0.out 5
 have fz5 := free_of B0.out 5
 have z6 := cell_of B0.out 6
 have fz6 := free_of B0.out 6
 simp only [List.getElem?_toArray, List.getElem?_cons_succ, List.getElem?_cons_zero] at z0 z1 z2 z3 z4 z5 z6
 go_wp2_with fail
 refine (freff_any w2 x.k x.m x.A x.l x.c e.b HR.out.A (by rw [HR.out.l]; exact HS.out.1)).mono ?_
 rintro r w3 ⟨A3, c3, rfl, h3⟩
 clear z0 z1 z2 z3 z4 z5 z6 fz0 fz1 fz2 fz3 fz4 fz5 fz6
 replace B0 := Lib.hid (h3.2.2.at_ B0.out (by simp))
 replace B1 := Lib.hid (h3.2.2.at_ B1.out (by simp))
 have O3 := Lib.hid h3.1
 have N3 := Lib.hid h3.2.1
 have S2 := Lib.hid C.out.size
 have LB : Hid (w2.heap.size ≤ w3.heap.size) := Lib.hid h3.2.2.size
 replace C := Lib.hid (C.out.trans h3.2.2)
 have LT3 : Hid (∀ a, A3 = some a → a.block ≠ g0 ∧ a.block ≠ g1) := Lib.hid (fun a ha => by
  have q := N3.out a ha
  have r0 := L0.out
  have r1 := L1.out
  omega)
 have LX3 : Hid (∀ a, A3 = some a → a.block < w3.heap.size) := Lib.hid (fun a ha => by
  obtain ⟨g, hg⟩ : ∃ g, a.block = g := ⟨_, rfl⟩
  rcases O3.out with ⟨q, _⟩ | ⟨g, full, q, hh, _⟩
  ·
   rw [q] at ha; cases ha
  ·
   rw [q] at ha; cases ha; exact lt_of_heap hh)
 clear h3
 have z0 := cell_of B0.out 0
 have fz0 := free_of B0.out 0
 have z1 := cell_of B0.out 1
 have fz1 := free_of B0.out 1
 have z2 := cell_of B0.out 2
 have fz2 := free_of B0.out 2
 have z3 := cell_of B0.out 3
 have fz3 := free_of B0.out 3
 have z4 := cell_of B0.out 4
 have fz4 := free_of B0.out 4
 have z5 := cell_of B0.out 5
 have fz5 := free_of B0.out 5
 have z6 := cell_of B0.out 6
 have fz6 := free_of B0.out 6
 simp only [List.getElem?_toArray, List.getElem?_cons_succ, List.getElem?_cons_zero] at z0 z1 z2 z3 z4 z5 z6
 go_upto_region 2 with fail
 clear z0 z1 z2 z3 z4 z5 z6 fz0 fz1 fz2 fz3 fz4 fz5 fz6
 obtain ⟨p0, p1, p2⟩ := set7_3 (.int .i64 x.k) (.int .i64 x.m) (.slice A3 x.l c3) B0.out B1.out NEg0.out LZg0.out C.out SZ.out
 generalize hW : (((w3.setCell ⟨g0, 3, none⟩ (.int .i64 x.k)).setCell ⟨g0, 4, none⟩ (.int .i64 x.m)).setCell ⟨g0, 5, none⟩ (.slice A3 x.l c3)) = w4 at *
 have O4 := Lib.hid (O3.out.chg (S := [g0]) (hW ▸ (((Chg.refl [g0] w3).put' 3 _).put' 4 _).put' 5 _) (fun a ha => by simp; exact (LT3.out a ha).1))
 replace B0 := Lib.hid p0
 replace B1 := Lib.hid p1
 have LW : Hid (w3.heap.size ≤ w4.heap.size) := Lib.hid (by rw [← hW]; simp [World.setCell])
 replace C := Lib.hid p2
 have RBp := Lib.hid (HR0.out.B.chg C.out (by simp))
 clear p0 p1 p2 hW O3
 have z0 := cell_of B0.out 0
 have fz0 := free_of B0.out 0
 have z1 := cell_of B0.out 1
 have fz1 := free_of B0.out 1
 have z2 := cell_of B0.out 2
 have fz2 := free_of B0.out 2
 have z3 := cell_of B0.out 3
 have fz3 := free_of B0.out 3
 have z4 := cell_of B0.out 4
 have fz4 := free_of B0.out 4
 have z5 := cell_of B0.out 5
 have fz5 := free_of B0.out 5
 have z6 := cell_of B0.out 6
 have fz6 := free_of B0.out 6
 simp only [List.getElem?_toArray, List.getElem?_cons_succ, List.getElem?_cons_zero] at z0 z1 z2 z3 z4 z5 z6
 go_wp2_with fail
 refine (cloneSpan_any w4 x.B x.bl x.bc e.q RBp.out (by have := HS.out.2; rw [HR.out.bl]; omega)).mono ?_
 rintro r w5 ⟨A5, c5, rfl, h5, hN5, hc5⟩
 clear z0 z1 z2 z3 z4 z5 z6 fz0 fz1 fz2 fz3 fz4 fz5 fz6
 replace B0 := Lib.hid (hc5.at_ B0.out (by simp))
 replace B1 := Lib.hid (hc5.at_ B1.out (by simp))
 replace O4 := Lib.hid (O4.out.chg hc5 (by simp))
 have P5 := Lib.hid h5
 have N5 : Hid (∀ a, A5 = some a → w3.heap.size ≤ a.block) := Lib.hid (fun a ha => Nat.le_trans LW.out (hN5 a ha))
 replace C := Lib.hid (C.out.trans hc5)
 have LT5 : Hid (∀ a, A5 = some a → a.block ≠ g0 ∧ a.block ≠ g1) := Lib.hid (fun a ha => by
  have q := N5.out a ha
  have r0 := L0.out
  have r1 := L1.out
  have r2 := LB.out
  omega)
 clear h5 hN5 hc5 RBp
 have z0 := cell_of B0.out 0
 have fz0 := free_of B0.out 0
 have z1 := cell_of B0.out 1
 have fz1 := free_of B0.out 1
 have z2 := cell_of B0.out 2
 have fz2 := free_of B0.out 2
 have z3 := cell_of B0.out 3
 have fz3 := free_of B0.out 3
 have z4 := cell_of B0.out 4
 have fz4 := free_of B0.out 4
 have z5 := cell_of B0.out 5
 have fz5 := free_of B0.out 5
 have z6 := cell_of B0.out 6
 have fz6 := free_of B0.out 6
 simp only [List.getElem?_toArray, List.getElem?_cons_succ, List.getElem?_cons_zero] at z0 z1 z2 z3 z4 z5 z6
 go_upto_region 3 with fail
 clear z0 z1 z2 z3 z4 z5 z6 fz0 fz1 fz2 fz3 fz4 fz5 fz6
 obtain ⟨p0, p1, p2⟩ := set7_1 (.slice A5 x.bl c5) B0.out B1.out NEg0.out LZg0.out C.out SZ.out
 generalize hW : (w5.setCell ⟨g0, 6, none⟩ (.slice A5 x.bl c5)) = w6 at *
 have O6 := Lib.hid (O4.out.chg (S := [g0]) (hW ▸ (Chg.refl [g0] w5).put' 6 _) (fun a ha => by simp; exact (LT3.out a ha).1))
 have P6 := Lib.hid (P5.out.chg (S := [g0]) (hW ▸ (Chg.refl [g0] w5).put' 6 _) (fun a ha => by simp; exact (LT5.out a ha).1))
 replace B0 := Lib.hid p0
 replace B1 := Lib.hid p1
 replace C := Lib.hid p2
 clear p0 p1 p2 hW O4 P5
 have z0 := cell_of B0.out 0
 have fz0 := free_of B0.out 0
 have z1 := cell_of B0.out 1
 have fz1 := free_of B0.out 1
 have z2 := cell_of B0.out 2
 have fz2 := free_of B0.out 2
 have z3 := cell_of B0.out 3
 have fz3 := free_of B0.out 3
 have z4 := cell_of B0.out 4
 have fz4 := free_of B0.out 4
 have z5 := cell_of B0.out 5
 have fz5 := free_of B0.out 5
 have z6 := cell_of B0.out 6
 have fz6 := free_of B0.out 6
 simp only [List.getElem?_toArray, List.getElem?_cons_succ, List.getElem?_cons_zero] at z0 z1 z2 z3 z4 z5 z6
 have y0 := cell_of B1.out 0
 have fy0 := free_of B1.out 0
 have y1 := cell_of B1.out 1
 have fy1 := free_of B1.out 1
 have y2 := cell_of B1.out 2
 have fy2 := free_of B1.out 2
 have y3 := cell_of B1.out 3
 have fy3 := free_of B1.out 3
 have y4 := cell_of B1.out 4
 have fy4 := free_of B1.out 4
 have y5 := cell_of B1.out 5
 have fy5 := free_of B1.out 5
 have y6 := cell_of B1.out 6
 have fy6 := free_of B1.out 6
 simp only [List.getElem?_toArray, List.getElem?_cons_succ, List.getElem?_cons_zero] at y0 y1 y2 y3 y4 y5 y6
 go_wp2; clear z0 z1 z2 z3 z4 z5 z6 fz0 fz1 fz2 fz3 fz4 fz5 fz6; clear y0 y1 y2 y3 y4 y5 y6 fy0 fy1 fy2 fy3 fy4 fy5 fy6
 obtain ⟨p0, p1, p2⟩ := set7_all (.int .i64 x.n) (.int .i64 x.s) (.string x.p) (.int .i64 x.k) (.int .i64 x.m) (.slice A3 x.l c3) (.slice A5 x.bl c5) B1.out B0.out NEg1.out LZg1.out C.out SZ.out
 generalize hW : (((((((w6.setCell ⟨g1, 0, none⟩ (.int .i64 x.n)).setCell ⟨g1, 1, none⟩ (.int .i64 x.s)).setCell ⟨g1, 2, none⟩ (.string x.p)).setCell ⟨g1, 3, none⟩ (.int .i64 x.k)).setCell ⟨g1, 4, none⟩ (.int .i64 x.m)).setCell ⟨g1, 5, none⟩ (.slice A3 x.l c3)).setCell ⟨g1, 6, none⟩ (.slice A5 x.bl c5)) = w7 at *
 have O7 := Lib.hid (O6.out.chg (S := [g1]) (hW ▸ (((((((Chg.refl [g1] w6).put' 0 _).put' 1 _).put' 2 _).put' 3 _).put' 4 _).put' 5 _).put' 6 _) (fun a ha => by simp; exact (LT3.out a ha).2))
 have P7 := Lib.hid (P6.out.chg (S := [g1]) (hW ▸ (((((((Chg.refl [g1] w6).put' 0 _).put' 1 _).put' 2 _).put' 3 _).put' 4 _).put' 5 _).put' 6 _) (fun a ha => by simp; exact (LT5.out a ha).2))
 replace B1 := Lib.hid p0
 replace C := Lib.hid p2
 clear p0 p1 p2 hW O6 P6
 have y0 := cell_of B1.out 0
 have y1 := cell_of B1.out 1
 have y2 := cell_of B1.out 2
 have y3 := cell_of B1.out 3
 have y4 := cell_of B1.out 4
 have y5 := cell_of B1.out 5
 have y6 := cell_of B1.out 6
 simp only [List.getElem?_toArray, List.getElem?_cons_succ, List.getElem?_cons_zero] at y0 y1 y2 y3 y4 y5 y6
 refine bodyPost_ret (v := .agg #[.int .i64 x.n, .int .i64 x.s, .string x.p, .int .i64 x.k, .int .i64 x.m, .slice A3 x.l c3, .slice A5 x.bl c5]) (by simp [results, Tryz.results107, go_sem, y0, y1, y2, y3, y4, y5, y6]) rfl ?_
 refine ⟨A3, c3, A5, c5, rfl, ⟨HR.out.n, HR.out.s, HR.out.p, HR.out.k, HR.out.m, HR.out.l, HR.out.bl, ?_, ?_⟩, O7.out, P7.out, fun a ha => Nat.le_trans S2.out (N3.out a ha), fun a ha => Nat.le_trans S2.out (Nat.le_trans LB.out (N5.out a ha)), fun a b ha hb => by have := LX3.out a ha; have := N5.out b hb; omega, C.out⟩
 ·
  have := O7.out.reads
  rw [← HR.out.l] at this
  exact this
 ·
  have := P7.out.reads
  rw [← HR.out.bl] at this
  exact this
end
section
open Go.RowKit Go.Lib

set_option maxRecDepth 100000 in
set_option maxHeartbeats 8000000 in
theorem frlist_any (w : World) (A : Option Addr) (c : Nat) (xs : List EvT) (es : List EvP) (h : RdK evTy w A xs.length xs) (hx : EvsR w xs es) (hn : xs.length ≤ 100000) (hq : ∀ e ∈ es, e.b.length ≤ 140737488351232 ∧ e.q.length ≤ 100000) :
  Calls Tryz.prog 106 #[.slice A xs.length c, .func (.func 107) #[] #[]] w fun r w' => ∃ (A' : Option Addr) (c' : Nat) (ys : List EvT), r = .returned (.slice A' ys.length c') ∧ ys.length = xs.length ∧ EsF w' w.heap.size w'.heap.size A' c' ys es ∧ Chg [] w w' := by
 have HA := Lib.hid h
 have HX := Lib.hid hx
 have HN := Lib.hid hn
 have HQ := Lib.hid hq
 by_cases h0 : xs.length = 0
 ·
  have hx0 : xs = [] := List.length_eq_zero_iff.1 h0
  subst hx0
  have he : es = [] := List.length_eq_zero_iff.1 (by have := hx.1; simpa using this.symm)
  subst he; clear HA HX HN HQ h hx hn hq h0
  go_enter Tryz.func106, Tryz.ntmps106
  go_wp2; go_ret
  exact ⟨none, 0, [], rfl, rfl, EsF.nil _ _ _, Chg.refl _ _⟩
 ·
  have hn0 : ¬ (xs.length : Int) = 0 := by omega
  have HP := Lib.hid h0
  have hmk : ∀ w : World, (Instr.makeSlice 22 (.int .i64 (xs.length : Int)) (.int .i64 (xs.length : Int))).run Tryz.prog w = .ok (.slice (some ⟨w.heap.size, 0, none⟩) xs.length xs.length) (w.alloc (.cells (evTy.flat (List.replicate xs.length evTy.z)).toArray 30)) := evTy.run_mk xs.length (by omega)
  obtain ⟨w1, hw1, c1, b1⟩ := news1 w (.cells (evTy.flat (List.replicate xs.length evTy.z)).toArray 30)
  have W1 := Lib.hid hw1
  have C1 := Lib.hid c1
  have O1 : Hid (OwnK evTy w1 (some ⟨w.heap.size, 0, none⟩) xs.length (List.replicate xs.length evTy.z)) := Lib.hid (OwnK.of (full := List.replicate xs.length evTy.z) b1 (by simp) (by unfold maxLen; omega) (by simp) (by simp))
  have SZ1 : Hid (w.heap.size + 1 ≤ w1.heap.size) := Lib.hid (lt_of_heap b1)
  clear h hx hn hq hw1 c1 b1 h0
  go_enter Tryz.func106, Tryz.ntmps106
  go_upto_region 4 with fail
  rw [← W1.out]
  obtain ⟨g, hg⟩ : ∃ g, w.heap.size = g := ⟨_, rfl⟩
  have HG := Lib.hid hg
  rw [hg] at O1 SZ1 ⊢
  clear W1 hmk hg; go_wp2
  have h0b : (((xs.length : Int) == 0) : Bool) = false := by simpa using hn0
  rw [h0b]
  clear h0b
  go_loopw [16] (fun v16 wr => ∃ (k : Nat) (ys : List EvT), k ≤ xs.length ∧ ys.length = k ∧ v16 = .int .i64 k ∧ Hid (OwnK evTy wr (some ⟨g, 0, none⟩) xs.length (ys ++ List.replicate (xs.length - k) evTy.z)) ∧ Hid (OwnEs wr g wr.heap.size (some ⟨g, 0, none⟩) ys (es.take k)) ∧ Hid (g + 1 ≤ wr.heap.size) ∧ Hid (Chg [] w wr)) (fun v16 _ => xs.length - (RowKit.intOf v16).toNat)
  case atStart => exact ⟨0, [], Nat.zero_le _, rfl, rfl, Lib.hid (by simpa using O1.out), Lib.hid (by simpa using OwnEs.nil _ _ _ _), SZ1, C1⟩
  case round =>
   obtain ⟨k, ys, hk, hyl, rfl, RO, RE, RS, RC⟩ := hrel
   have i0 : (0 : Int) ≤ (k : Int) := by omega
   by_cases hlt : k < xs.length
   ·
    have i1 : (k : Int) < (xs.length : Int) := by omega
    have i3 : IntKind.i64.wrap ((k : Int) + 1) = (k : Int) + 1 := IntWalk.i64_in _ (by have := HN.out; omega)
    obtain ⟨g2, o2, eA, _⟩ := HA.out.line (by omega)
    subst eA
    obtain ⟨x, e, ex, ee, rx⟩ := HX.out.at_ hlt
    obtain ⟨z0, z1, z2, z3, z4, z5, z6⟩ := evCells (HA.out.chg RC.out (by simp)) ex
    have RX := Lib.hid rx
    have ET : Hid (es.take (k + 1) = es.take k ++ [e]) := Lib.hid (by rw [List.take_add_one, ee]; rfl)
    have EQ := Lib.hid (HQ.out e (List.mem_of_getElem? ee))
    have YL := Lib.hid hyl
    clear ex ee rx hyl
    go_upto_region 7 with fail
    clear z0 z1 z2 z3 z4 z5 z6
    obtain ⟨w2, hw2, c2, b2⟩ := news1 wr (.cells #[.int .i64 x.n, .int .i64 x.s, .string x.p, .int .i64 x.k, .int .i64 x.m, .slice x.A x.l x.c, .slice x.B x.bl x.bc] 30)
    have W2 := Lib.hid hw2
    have RO2 := Lib.hid (RO.out.chg c2 (by simp))
    have RE2 := Lib.hid ((RE.out.chg c2 (by simp)).mono c2.size)
    have RS2 : Hid (g + 1 ≤ w2.heap.size) := Lib.hid (Nat.le_trans RS.out c2.size)
    have RC2 := Lib.hid (RC.out.trans c2)
    have y0 := cell_of b2 0
    have y1 := cell_of b2 1
    have y2 := cell_of b2 2
    have y3 := cell_of b2 3
    have y4 := cell_of b2 4
    have y5 := cell_of b2 5
    have y6 := cell_of b2 6
    simp only [List.getElem?_toArray, List.getElem?_cons_succ, List.getElem?_cons_zero] at y0 y1 y2 y3 y4 y5 y6
    clear hw2 c2 b2 RO RE RS RC
    rw [← W2.out]
    generalize wr.heap.size = s2 at *
    clear W2; go_wp2_with fail; clear y0 y1 y2 y3 y4 y5 y6
    refine (frev_any w2 x e (RX.out.chg RC2.out) EQ.out).mono ?_
    rintro r w3 ⟨A', c', B', d', rfl, hR, hA, hB, hnA, hnB, hne, hc⟩
    obtain ⟨X, hX⟩ : ∃ X : EvT, X = ⟨x.n, x.s, x.p, x.k, x.m, A', x.l, c', B', x.bl, d'⟩ := ⟨_, rfl⟩
    rw [← hX] at hR
    have fX : X.A = A' ∧ X.B = B' ∧ X.c = c' ∧ X.bc = d' := by rw [hX]; exact ⟨rfl, rfl, rfl, rfl⟩
    have EX : Hid (Value.agg #[.int .i64 x.n, .int .i64 x.s, .string x.p, .int .i64 x.k, .int .i64 x.m, .slice A' x.l c', .slice B' x.bl d'] = .agg #[.int .i64 X.n, .int .i64 X.s, .string X.p, .int .i64 X.k, .int .i64 X.m, .slice X.A X.l X.c, .slice X.B X.bl X.bc]) := Lib.hid (by rw [hX])
    have hsz := hc.size
    have RE3 : Hid (OwnEs w3 g w3.heap.size (some ⟨g, 0, none⟩) (ys ++ [X]) (es.take (k + 1))) := Lib.hid (by
     rw [ET.out]
     refine (RE2.out.chg hc (by simp)).snoc ⟨by have := RS2.out; omega, hsz⟩ hR (by rw [fX.1, fX.2.2.1]; exact hA) (by rw [fX.2.1, fX.2.2.2]; exact hB) (fun a ha => ?_) (fun a b ha hb => hne a b (by rw [← fX.1]; exact ha) (by rw [← fX.2.1]; exact hb))
     have lo : w2.heap.size ≤ a.block ∧ a.block < w3.heap.size := by
      rcases ha with q | q
      ·
       rw [fX.1] at q; exact ⟨hnA a q, hA.lt a q⟩
      ·
       rw [fX.2.1] at q; exact ⟨hnB a q, hB.lt_ a q⟩
     refine ⟨lo.1, lo.2, fun b hb e => ?_⟩
     cases hb
     have e : a.block = g := e
     have := RS2.out
     have := lo.1
     omega)
    have RO3 := Lib.hid (RO2.out.chg hc (by simp))
    have RS3 : Hid (g + 1 ≤ w3.heap.size) := Lib.hid (Nat.le_trans RS2.out hsz)
    have RC3 := Lib.hid (RC2.out.trans hc)
    rw [EX.out]
    clear hR hA hB hnA hnB hne hc hX fX EX hsz RO2 RE2 RS2 RC2 EQ RX ET
    have kz : (ys ++ List.replicate (xs.length - k) evTy.z)[k]? = some evTy.z := by
     rw [List.getElem?_append_right (by rw [YL.out]; exact Nat.le_refl _), YL.out, Nat.sub_self, List.getElem?_replicate]
     simp
     omega
    obtain ⟨z0, z1, z2, z3, z4, z5, z6⟩ := evCells RO3.out.reads kz
    rw [Nat.zero_add] at z0 z1 z2 z3 z4 z5 z6
    have F3 : ∀ j, w3.frozen? ⟨g, j, none⟩ = false := fun j => by
     rcases RO3.out with ⟨h, _⟩ | ⟨g', full, e, hg, _⟩
     ·
      cases h
     ·
      cases e; exact free_of hg j
    have f0 := F3 (k * 7)
    have f1 := F3 (k * 7 + 1)
    have f2 := F3 (k * 7 + 2)
    have f3 := F3 (k * 7 + 3)
    have f4 := F3 (k * 7 + 4)
    have f5 := F3 (k * 7 + 5)
    have f6 := F3 (k * 7 + 6)
    have KZ := Lib.hid kz
    clear kz F3
    have RO4 := Lib.hid (RO3.out.set7 k _ X KZ.out)
    have C4 := Lib.hid ((Chg.refl [g] w3).set7 (g := g) (.inl (by simp)) (k * 7) (.int .i64 X.n) (.int .i64 X.s) (.string X.p) (.int .i64 X.k) (.int .i64 X.m) (.slice X.A X.l X.c) (.slice X.B X.bl X.bc))
    have RC4 := Lib.hid (RC3.out.set7 (g := g) (.inr (by rw [HG.out]; exact Nat.le_refl _)) (k * 7) (.int .i64 X.n) (.int .i64 X.s) (.string X.p) (.int .i64 X.k) (.int .i64 X.m) (.slice X.A X.l X.c) (.slice X.B X.bl X.bc))
    go_upto_region 8 with fail
    clear z0 z1 z2 z3 z4 z5 z6 f0 f1 f2 f3 f4 f5 f6
    generalize (((((((w3.setCell ⟨g, k * 7, none⟩ (.int .i64 X.n)).setCell ⟨g, k * 7 + 1, none⟩ (.int .i64 X.s)).setCell ⟨g, k * 7 + 2, none⟩ (.string X.p)).setCell ⟨g, k * 7 + 3, none⟩ (.int .i64 X.k)).setCell ⟨g, k * 7 + 4, none⟩ (.int .i64 X.m)).setCell ⟨g, k * 7 + 5, none⟩ (.slice X.A X.l X.c)).setCell ⟨g, k * 7 + 6, none⟩ (.slice X.B X.bl X.bc)) = w4 at *
    have SZ4 := C4.out.size
    have RE4 : Hid (OwnEs w4 g w4.heap.size (some ⟨g, 0, none⟩) (ys ++ [X]) (es.take (k + 1))) := Lib.hid ((RE3.out.chg C4.out (fun i hi _ => ⟨⟨g, 0, none⟩, rfl, by simp at hi; exact hi.symm⟩)).mono SZ4)
    have RS4 : Hid (g + 1 ≤ w4.heap.size) := Lib.hid (Nat.le_trans RS3.out SZ4)
    have SET : Hid ((ys ++ List.replicate (xs.length - k) evTy.z).set k X = (ys ++ [X]) ++ List.replicate (xs.length - (k + 1)) evTy.z) := Lib.hid (by
     have hr : xs.length - k = (xs.length - (k + 1)) + 1 := by omega
     rw [hr, List.replicate_succ, List.set_append_right _ _ (by rw [YL.out]; exact Nat.le_refl _), YL.out, Nat.sub_self]
     simp)
    rw [SET.out] at RO4
    clear SZ4 C4 RC3 RE3 RO3 RS3 KZ SET; go_wp2; go_round
    case rel => exact ⟨k + 1, ys ++ [X], by omega, by simp [YL.out], by go_num, RO4, RE4, RS4, RC4⟩
    case measure => simp [RowKit.intOf]; omega
   ·
    obtain rfl : k = xs.length := by omega
    have i1 : ¬ (xs.length : Int) < (xs.length : Int) := by omega
    have ET : es.take xs.length = es := by rw [HX.out.1]; exact List.take_length
    rw [ET, HG.out.symm] at RE
    rw [Nat.sub_self, List.replicate_zero, List.append_nil] at RO
    have YL := Lib.hid hyl
    clear hyl ET; go_wp2; go_ret
    refine ⟨some ⟨g, 0, none⟩, xs.length, ys, by rw [YL.out]; rfl, YL.out, ⟨RO.out, fun a ha => ?_, ?_⟩, RC.out⟩
    ·
     cases ha
     exact ⟨by rw [HG.out]; exact Nat.le_refl _, RS.out⟩
    ·
     have := RE.out
     rw [HG.out] at this ⊢
     exact this
set_option maxRecDepth 100000 in
set_option maxHeartbeats 4000000 in
theorem frevents_any (w : World) (A : Option Addr) (c : Nat) (xs : List EvT) (es : List EvP) (h : RdK evTy w A xs.length xs) (hx : EvsR w xs es) (hn : xs.length ≤ 100000) (hq : ∀ e ∈ es, e.b.length ≤ 140737488351232 ∧ e.q.length ≤ 100000) :
  Calls Tryz.prog 48 #[.slice A xs.length c] w fun r w' => ∃ (A' : Option Addr) (c' : Nat) (ys : List EvT), r = .returned (.slice A' ys.length c') ∧ ys.length = xs.length ∧ EsF w' w.heap.size w'.heap.size A' c' ys es ∧ Chg [] w w' := by
 have CC := Lib.hid (frlist_any w A c xs es h hx hn hq)
 clear h hx hn hq
 go_enter Tryz.func48, Tryz.ntmps48
 go_wp2_with fail
 refine CC.out.mono ?_
 rintro r w2 ⟨A', c', ys, rfl, hl, he, hc⟩
 have P := Lib.hid (And.intro hl (And.intro he hc))
 clear CC hl he hc; go_wp2; go_ret
 exact ⟨A', c', ys, rfl, P.out.1, P.out.2.1, P.out.2.2⟩
end
section
open Go.RowKit Go.Lib

section
variable {α : Type} {R : RowTy α}
theorem run_copyK (w : World) (ty : TypeId) {g off dLen dCap sLen sCap : Nat} {B : Option Addr} {ys full : List α} (hg : w.heap[g]? = some (.cells (R.flat full).toArray R.T (0, 0))) (hr : RdK R w B ys.length ys) (hn : ys.length = Nat.min sLen dLen) (hfit : off + ys.length ≤ full.length) :
  (Builtin.copy_ #[R.TS, R.TS] ty #[.slice (some ⟨g, off * R.k, none⟩) dLen dCap, .slice B sLen sCap]).run Tryz.prog w = .ok (goInt ys.length) (w.setRow g (R.flat (full.take off ++ ys ++ full.drop (off + ys.length))).toArray) := by
 obtain ⟨i0, hi, hz0, hz1, hz2⟩ := info_parts R.info
 have hm : Nat.min sLen dLen = ys.length := hn.symm
 have hst := run_storeCells_at (P := Tryz.prog) g (off * R.k) R.T (R.flat ys) 0 _ w hg (by rw [R.flat_len, List.size_toArray, R.flat_len, Nat.add_zero, ← Nat.add_mul]; exact Nat.mul_le_mul_right _ hfit) (R.flat_one ys)
 have hfin : ((R.flat full).toArray.toList.take (off * R.k + 0) ++ R.flat ys ++ (R.flat full).toArray.toList.drop (off * R.k + 0 + (R.flat ys).length)) = R.flat (full.take off ++ ys ++ full.drop (off + ys.length)) := by
  rw [R.flat_app, R.flat_app, R.flat_take, R.flat_drop, R.flat_len, Nat.add_zero, ← Nat.add_mul]
 rw [hfin] at hst
 have hfc : ∀ l c, (Builtin.firstCells i0.size ys.length (.slice B l c)).run Tryz.prog w = .ok (R.flat ys).toArray w := fun l c => by
  rcases B with _ | b
  ·
   have hy : ys = [] := by
    cases ys with
    | nil => rfl
    | cons y ys =>
     have : 0 < (R.flat (y :: ys)).length := by rw [R.flat_len, List.length_cons]; exact Nat.mul_pos (by omega) R.kpos
     obtain ⟨a, h, _⟩ := hr.cells 0 _ (List.getElem?_eq_getElem this); cases h
   subst hy
   simp [Builtin.firstCells, RowTy.flat]
  ·
   exact run_firstCells_some (P := Tryz.prog) w i0.size ys.length b l c (R.flat ys) (by rw [hz1, R.flat_len]) (fun j v hj => by
    obtain ⟨a, e, hc⟩ := hr.cells j v hj
    cases e
    exact hc)
 simp [Builtin.copy_, run_underlying R.under, sizeOf, typeInfo, hi, Builtin.lenOf, hm, hfc, hst]
end
theorem wp_copyR (w : World) {o : Oper} {a : Act} {K : Act → World → Prop} {Q : Exit → Act → World → Prop} (d s : Operand) (t t' : TypeId)
  (ho : o.op = .call { callee := .builtin .copy, args := #[d, s], argTypes := #[t, t'] }) (v u : Value) (hd : a.eval d = v) (hs : a.eval s = u) {v' : Value} {w' : World}
  (hr : (Builtin.copy_ #[t, t'] o.type #[v, u]).run Tryz.prog w = .ok v' w') (h : K (a.put o.dst v') w') : o.wp Tryz.prog a w K Q := by
 unfold Oper.wp execOp
 simp only [ho, resolve, invoke, builtin, Sem.run_bind, Sem.run_pure, Result.andThen_ok, List.map_toArray, List.map_cons, List.map_nil, hd, hs, hr]
 exact h
theorem wpList_copyR (w : World) {ops : Array Oper} {rest : List Oper} {o : Oper} {a : Act} {Q : Exit → Act → World → Prop} (hgd : o.guard = none) (d s : Operand) (t t' : TypeId)
  (ho : o.op = .call { callee := .builtin .copy, args := #[d, s], argTypes := #[t, t'] }) (v u : Value) (hd : a.eval d = v) (hs : a.eval s = u) {v' : Value} {w' : World}
  (hr : (Builtin.copy_ #[t, t'] o.type #[v, u]).run Tryz.prog w = .ok v' w') (h : wpList Tryz.prog ops Q rest (a.put o.dst v') w') : wpList Tryz.prog ops Q (o :: rest) a w :=
 wpList_plain hgd fun _ hK => wp_copyR w d s t t' ho v u hd hs hr (hK _ _ h)
theorem step_copyR {ops : Array Oper} {o : Oper} {a : Act} {w : World} {K : Act → World → Prop} {Q : Exit → Act → World → Prop} {E : Prop}
  (hg : o.guard = none) (d x : Operand) (dT sT : TypeId) (hop : o.op = Op.call { callee := Callee.builtin Builtin.copy, args := #[d, x], argTypes := #[dT, sT] })
  (v u : Value) (hd : a.eval d = v) (hx : a.eval x = u) {v' : Value} {w' : World} (hr : (Builtin.copy_ #[dT, sT] o.type #[v, u]).run Tryz.prog w = .ok v' w') (hK : K (a.put o.dst v') w') :
  if Region.wanted o (yielded ops a.tmps) = true then Oper.wp Tryz.prog o a w K Q else E := by
 have hw : Region.wanted o (yielded ops a.tmps) = true := by simp [Region.wanted, hg]
 rw [if_pos hw]
 exact wp_copyR w d x dT sT hop v u hd hx hr hK
section
variable {α : Type} {R : RowTy α}
end
end
section
open Go.RowKit Go.Lib


theorem ins_row1 {α : Type} {full xs : List α} {y : α} {i : Nat} (ht : full.take xs.length = xs) (hi : i < xs.length) : ((full.take (i + 1) ++ xs.drop i ++ full.drop (i + 1 + (xs.drop i).length)).take i ++ [y] ++ (full.take (i + 1) ++ xs.drop i ++ full.drop (i + 1 + (xs.drop i).length)).drop (i + [y].length)).take (xs.take i ++ y :: xs.drop i).length = xs.take i ++ y :: xs.drop i := by
 have hc : xs.length ≤ full.length := by have := congrArg List.length ht; rw [List.length_take] at this; omega
 have hl : (full.take (i + 1)).length = i + 1 := by rw [List.length_take]; omega
 have e1 : (full.take (i + 1) ++ xs.drop i ++ full.drop (i + 1 + (xs.drop i).length)).take i = xs.take i := by
  rw [List.append_assoc, List.take_append_of_le_length (by omega), List.take_take, Nat.min_eq_left (by omega), ← ht, List.take_take, Nat.min_eq_left (by omega)]
 have e2 : (full.take (i + 1) ++ xs.drop i ++ full.drop (i + 1 + (xs.drop i).length)).drop (i + [y].length) = xs.drop i ++ full.drop (i + 1 + (xs.drop i).length) := by
  rw [List.append_assoc, List.drop_append_of_le_length (by rw [List.length_singleton]; omega), List.drop_of_length_le (by rw [List.length_singleton]; omega), List.nil_append]
 rw [e1, e2]
 have e3 : xs.take i ++ [y] ++ (xs.drop i ++ full.drop (i + 1 + (xs.drop i).length)) = (xs.take i ++ y :: xs.drop i) ++ full.drop (i + 1 + (xs.drop i).length) := by simp
 rw [e3, List.take_left]
theorem ins_row2 {α : Type} {xs R : List α} {y : α} {i : Nat} (hi : i < xs.length) (hR : xs.length + 1 - i ≤ R.length) : (((xs.take i ++ R).take i ++ [y] ++ (xs.take i ++ R).drop (i + [y].length)).take (i + 1) ++ xs.drop i ++ ((xs.take i ++ R).take i ++ [y] ++ (xs.take i ++ R).drop (i + [y].length)).drop (i + 1 + (xs.drop i).length)).take (xs.take i ++ y :: xs.drop i).length = xs.take i ++ y :: xs.drop i := by
 have hl : (xs.take i).length = i := by rw [List.length_take]; omega
 have e1 : (xs.take i ++ R).take i = xs.take i := by rw [List.take_append_of_le_length (by omega), List.take_take, Nat.min_self]
 rw [e1]
 have e2 : (xs.take i ++ [y] ++ (xs.take i ++ R).drop (i + [y].length)).take (i + 1) = xs.take i ++ [y] := by
  rw [List.take_append_of_le_length (by simp; omega), List.take_of_length_le (by simp; omega)]
 rw [e2]
 have e3 : ∀ T : List α, xs.take i ++ [y] ++ xs.drop i ++ T = (xs.take i ++ y :: xs.drop i) ++ T := fun T => by simp
 rw [e3, List.take_left]
set_option maxRecDepth 100000 in
set_option maxHeartbeats 8000000 in
theorem insev_any (w : World) (A : Option Addr) (c : Nat) (xs : List EvT) (i vb : Nat) (y : EvT) (h : OwnK evTy w A c xs) (hi : i ≤ xs.length) (hn : xs.length ≤ 100000) (hv : w.heap[vb]? = some (.cells #[.int .i64 y.n, .int .i64 y.s, .string y.p, .int .i64 y.k, .int .i64 y.m, .slice y.A y.l y.c, .slice y.B y.bl y.bc] 30 (0, 0))) (hne : ∀ a, A = some a → a.block ≠ vb) :
  Calls Tryz.prog 170 #[.slice A xs.length c, .int .i64 (i : Int), .slice (some ⟨vb, 0, none⟩) 1 1] w fun r w' => ∃ (A' : Option Addr) (c' : Nat), r = .returned (.slice A' (xs.length + 1) c') ∧ OwnK evTy w' A' c' (xs.take i ++ y :: xs.drop i) ∧ (∀ a, A' = some a → A = some a ∨ w.heap.size ≤ a.block) ∧ ∀ w0 : World, Chg [] w0 w → (∀ a, A = some a → w0.heap.size ≤ a.block) → Chg [] w0 w' := by

 have XR : Hid (RdK evTy w (some ⟨vb, 0, none⟩) 1 [y]) := Lib.hid (rd_oneEc hv)
 have HN : Hid ((xs.length + 1) * 400 ≤ 140737488355327) := Lib.hid (by omega)
 have O := Lib.hid h
 have n1 : ¬ ((1 : Int) = 0) := by decide
 by_cases hil : i = xs.length
 ·
  subst hil
  have NL : Hid ((xs.take xs.length ++ y :: xs.drop xs.length) = xs ++ [y]) := Lib.hid (by simp)
  have e1 : (((xs.length : Int) == (xs.length : Int)) : Bool) = true := by simp
  clear h hi hn hv hne
  go_enter Tryz.func170, Tryz.ntmps170
  go_wp2_with (at_builtin; refine wpList_appK (R := evTy) rfl (.tmp 23) (.tmp 24) rfl rfl (A := A) (n := xs.length) (m := 1) (c := c) (d := 1) (xs := xs) (ys := [y]) O.out rfl rfl XR.out HN.out ?_; intro A9 c9 w9 o9 g9 e9)
  all_goals (
   have O9 := Lib.hid o9
   have E9 := Lib.hid e9
   have G9 := Lib.hid (fun (w0 : World) (h0 : Chg [] w0 w) (hA : ∀ a, A = some a → w0.heap.size ≤ a.block) => (fresh_appE (w2 := w0) hA h0 g9 e9).2)
   clear o9 g9 e9; go_wp2; go_ret
   refine ⟨A9, c9, rfl, (by first | exact O9.out | (rw [NL.out]; exact O9.out)), (fun a ha => E9.out.elim (fun q => .inl (q ▸ ha)) (fun q => .inr (by rw [q] at ha; cases ha; exact Nat.le_refl _))), G9.out⟩)
 ·
  obtain ⟨g, full, rfl, hg, hfl, hcm, hnc, hft⟩ : ∃ (g : Nat) (full : List EvT), A = some ⟨g, 0, none⟩ ∧ w.heap[g]? = some (.cells (evTy.flat full).toArray 30 (0, 0)) ∧ full.length = c ∧ c ≤ maxLen ∧ xs.length ≤ c ∧ full.take xs.length = xs := by
   rcases h with ⟨_, q, _⟩ | q
   ·
    subst q
    have : i = 0 := by simpa using hi
    exact absurd this hil
   ·
    exact q
  have k7 : evTy.k = 7 := rfl
  have gv : g ≠ vb := hne _ rfl
  have lg := lt_of_heap hg
  have lv := lt_of_heap hv
  have i0 : (0 : Int) ≤ (i : Int) := by omega
  have i1 : (i : Int) ≤ (xs.length : Int) := by omega
  have i2 : i ≤ xs.length := hi
  have e1 : (((i : Int) == (xs.length : Int)) : Bool) = false := by simp; omega
  have e2 : ¬ (i : Int) = (xs.length : Int) := by omega
  have w1 : IntKind.i64.wrap ((xs.length : Int) + 1) = ((xs.length + 1 : Nat) : Int) := by rw [IntWalk.i64_in _ (by omega)]; omega
  have w2 : IntKind.i64.wrap ((i : Int) + 1) = ((i + 1 : Nat) : Int) := by rw [IntWalk.i64_in _ (by omega)]; omega
  have DR : Hid (RdK evTy w (some ⟨g, i * 7, none⟩) (xs.length - i) (xs.drop i)) := Lib.hid (by
   have q := (h.reads).part i (xs.length - i) (by omega)
   rw [List.take_of_length_le (by rw [List.length_drop]; omega), Nat.zero_add] at q
   exact q)
  by_cases hr : xs.length + 1 ≤ c
  ·
   have HOV : ∀ lb cb, (callFunc 219 #[.slice (some ⟨vb, 0, none⟩) 1 1, .slice (some ⟨g, (i + 1) * 7, none⟩) lb cb]).run Tryz.prog w = .ok (.value (.bool false)) w := fun lb cb => by
    have ho := run_overlaps_apart (P := Tryz.prog) w 22 4 30 Tryz.underlying22 7 (fun w => by first | rfl | kernel_rfl) ⟨vb, 0, none⟩ ⟨g, (i + 1) * 7, none⟩ 1 1 lb cb (fun e => gv e.symm) 30 30 7 (c * 7) (by simp [World.shape?, hv]) (by simp [World.shape?, hg, evTy.flat_len, hfl, k7]) (by omega) (by simp [World.frozen?, hv]) (by simp [World.frozen?, hv])
    rw [run_callFunc_extern (e := Extern.SlicesOverlaps.overlaps #[22, 22] #[4]) Tryz.func219 (by kernel_rfl) (by kernel_rfl) (by kernel_rfl) (by kernel_rfl), ho]
    rfl
   have b1 : (0 : Int) ≤ ((xs.length + 1 : Nat) : Int) := by omega
   have b2 : ((xs.length + 1 : Nat) : Int) ≤ (c : Int) := by omega
   have b3 : xs.length + 1 ≤ c := by omega
   have b4 : ((i + 1 : Nat) : Int) ≤ ((xs.length + 1 : Nat) : Int) := by omega
   have b5 : i + 1 ≤ xs.length + 1 := by omega
   have b6 : ¬ c = i + 1 := by omega
   have b7 : ¬ c = i := by omega
   have b8 : (0 : Int) ≤ ((i + 1 : Nat) : Int) := by omega
   have b9 : ¬ (c : Int) < ((xs.length + 1 : Nat) : Int) := by omega
   have b10 : (i : Int) ≤ ((xs.length + 1 : Nat) : Int) := by omega
   have b11 : i ≤ xs.length + 1 := by omega
   have b12 : (0 : Int) ≤ (i : Int) + 1 := by omega
   have b13 : (i : Int) + 1 ≤ (xs.length : Int) + 1 := by omega
   have b14 : (i : Int) ≤ (xs.length : Int) + 1 := by omega
   have FG := Lib.hid hg
   have FL := Lib.hid hfl
   have FC := Lib.hid hcm
   have FN := Lib.hid hnc
   have FT := Lib.hid hft
   have VB := Lib.hid hv
   have GV := Lib.hid gv
   clear h hi hn hv hne hg hfl hcm hnc hft gv lg lv O
   go_enter Tryz.func170, Tryz.ntmps170
   go_upto_region 14 with fail
   go_wp2_with (simp only [HOV])
   clear HOV
   obtain ⟨F1, hF1⟩ : ∃ F1, F1 = full.take (i + 1) ++ xs.drop i ++ full.drop (i + 1 + (xs.drop i).length) := ⟨_, rfl⟩
   have HCP : ∀ W, Chg [] w W → ∀ ty dc sc, (Builtin.copy_ #[22, 22] ty #[.slice (some ⟨g, (i + 1) * 7, none⟩) (xs.length - i) dc, .slice (some ⟨g, i * 7, none⟩) (xs.length + 1 - i) sc]).run Tryz.prog W = .ok (goInt (xs.drop i).length) (W.setRow g (evTy.flat F1).toArray) := fun W hW ty dc sc => by
    have q := run_copyK (R := evTy) W ty (g := g) (off := i + 1) (dLen := xs.length - i) (dCap := dc) (sLen := xs.length + 1 - i) (sCap := sc) (B := some ⟨g, i * 7, none⟩) (ys := xs.drop i) (full := full) (hW.at_ FG.out (by simp)) (by have := DR.out.chg hW (by simp); rw [List.length_drop]; exact this) (by rw [List.length_drop]; simp only [Nat.min_def]; split <;> omega) (by rw [List.length_drop, FL.out]; omega)
    rw [← hF1] at q
    exact q
   have L1 : Hid (F1.length = c) := Lib.hid (by rw [hF1]; have := FL.out; simp; omega)
   have HC2 : ∀ W, W.heap[g]? = some (.cells (evTy.flat F1).toArray 30 (0, 0)) → RdK evTy W (some ⟨vb, 0, none⟩) 1 [y] → ∀ ty dc, (Builtin.copy_ #[22, 22] ty #[.slice (some ⟨g, i * 7, none⟩) (xs.length + 1 - i) dc, .slice (some ⟨vb, 0, none⟩) 1 1]).run Tryz.prog W = .ok (goInt ([y] : List EvT).length) (W.setRow g (evTy.flat (F1.take i ++ [y] ++ F1.drop (i + [y].length))).toArray) := fun W hg hv ty dc =>
    run_copyK (R := evTy) W ty (g := g) (off := i) (dLen := xs.length + 1 - i) (dCap := dc) (sLen := 1) (sCap := 1) (B := some ⟨vb, 0, none⟩) (ys := [y]) (full := F1) hg hv (by simp only [Nat.min_def, List.length_singleton]; split <;> omega) (by rw [L1.out]; simp; omega)
   have FIN : Hid ((F1.take i ++ [y] ++ F1.drop (i + [y].length)).take (xs.take i ++ y :: xs.drop i).length = xs.take i ++ y :: xs.drop i) := Lib.hid (by rw [hF1]; exact ins_row1 FT.out (by omega))
   have LNI : Hid ((xs.take i ++ y :: xs.drop i).length = xs.length + 1) := Lib.hid (by simp; omega)
   obtain ⟨F2, hF2⟩ : ∃ F2, F2 = F1.take i ++ [y] ++ F1.drop (i + [y].length) := ⟨_, rfl⟩
   have L2 : Hid (F2.length = c) := Lib.hid (by rw [hF2]; have := L1.out; simp; omega)
   rw [← hF2] at FIN
   simp only [← hF2] at HC2
   clear hF1 hF2

   refine wp_region_held_drew (S := fun w' => True) (by kernel_rfl) trivial (fun hHeld => ?_)
   have hHeld := trivial
   refine sy 0 69 rfl rfl ?_ (hS := trivial)
   try simp only [Act.put, sA, s0, s1]
   refine sy 1 70 rfl rfl ?_ (hS := trivial)
   try simp only [Act.put, sA, s0, s1]
   refine sy 2 71 rfl rfl ?_ (hS := trivial)
   try simp only [Act.put, sA, s0, s1]
   refine sy 3 72 rfl rfl ?_ (hS := trivial)
   try simp only [Act.put, sA, s0, s1]
   refine sy 4 73 rfl rfl ?_ (hS := trivial)
   try simp only [Act.put, sA, s0, s1]
   refine sy 5 74 rfl rfl ?_ (hS := trivial)
   try simp only [Act.put, sA, s0, s1]
   refine sy 6 75 rfl rfl ?_ (hS := trivial)
   try simp only [Act.put, sA, s0, s1]
   refine sy 7 76 rfl rfl ?_ (hS := trivial)
   try simp only [Act.put, sA, s0, s1]
   refine wpAnyH_ready (rs := [8]) (by kernel_rfl) (by simp) ?_; refine AllReadyH.cons rfl (fun K hK => ?_) AllReadyH.nil; replace hK := Lib.hid hK
   refine step_copyR rfl (.tmp 73) (.tmp 76) 22 22 rfl (.slice (some ⟨g, (i + 1) * 7, none⟩) (xs.length - i) (c - (i + 1))) (.slice (some ⟨g, i * 7, none⟩) (xs.length + 1 - i) (c - i)) rfl rfl (HCP _ ((Chg.refl [] w).drew) _ _ _) ?_
   go_simp
   have K1 := setRow_heap w.drew g _ (evTy.flat F1).toArray _ _ (((Chg.refl [] w).drew).at_ FG.out (by simp))
   have C1 : Chg [g] w (w.drew.setRow g (evTy.flat F1).toArray) := ((Chg.refl [] w).drew.mono (by simp)).trans ⟨rfl, rfl, rfl, by simp, fun j hj hn => setRow_other w.drew g j _ (by simpa using hn)⟩
   generalize w.drew.setRow g (evTy.flat F1).toArray = w2 at *
   refine hK.out _ _ trivial (fun hHeld => ?_)
   clear hK K; try simp only [Act.put, sA, s0, s1]
   refine wpAnyH_done (by kernel_rfl) ?_ _; clear hHeld HCP
   have V2 : RdK evTy w2 (some ⟨vb, 0, none⟩) 1 [y] := XR.out.chg C1 (fun a ha => by cases ha; simpa using fun e => GV.out e.symm)
   have HC3 := HC2 w2 K1 V2
   have K2 := Lib.hid (setRow_heap w2 g _ (evTy.flat F2).toArray _ _ K1)
   have C2 : Hid (Chg [g] w (w2.setRow g (evTy.flat F2).toArray)) := Lib.hid (C1.trans ⟨rfl, rfl, rfl, by simp, fun j hj hn => setRow_other w2 g j _ (by simpa using hn)⟩)
   have C1H := Lib.hid C1
   clear HC2 K1 V2 C1
   go_wp2_with (first | (at_builtin; refine wpList_copyR _ rfl (.tmp 80) (.tmp 81) 22 22 rfl (.slice (some ⟨g, i * 7, none⟩) (xs.length + 1 - i) (c - i)) (.slice (some ⟨vb, 0, none⟩) 1 1) rfl rfl (HC3 _ _) ?_) | (with_reducible refine wpList_copyR _ rfl (.tmp 80) (.tmp 81) 22 22 rfl (.slice (some ⟨g, i * 7, none⟩) (xs.length + 1 - i) (c - i)) (.slice (some ⟨vb, 0, none⟩) 1 1) rfl rfl (HC3 _ _) ?_))
   go_ret
   refine ⟨some ⟨g, 0, none⟩, c, rfl, OwnK.of K2.out (by rw [LNI.out]; exact b3) FC.out L2.out FIN.out, fun a ha => .inl ha, fun w0 h0 hA => h0.trans' C2.out (fun j hj => by simp at hj; subst hj; exact .inr (hA _ rfl))⟩
  ·
   obtain ⟨i0', hi0, hz0, hz1, hz2⟩ := info_parts evTy.info
   have HRZ0 := run_append_grow_zeros (P := Tryz.prog) w 22 3 0 30 i0' evTy.zv .i64 .i64 evTy.under (by first | rfl | kernel_rfl) hi0 hz0 (some ⟨g, 0, none⟩) i c (evTy.flat (xs.take i)) (run_firstCells_some (P := Tryz.prog) w.drew i0'.size i ⟨g, 0, none⟩ i c (evTy.flat (xs.take i)) (by rw [hz1, evTy.flat_len, List.length_take, Nat.min_eq_left (by omega)]) (fun j v hj => by
    have q := ((h.take i).chg (Chg.refl [] w).drew (by simp)).reads.cells j v hj
    obtain ⟨a, e, q⟩ := q
    cases e
    exact q)) (xs.length + 1 - i) (by omega) (by rw [hz1, k7]; omega) (by omega) (by omega) (by rw [hz2]; have : evTy.bytes ≤ 200 := evTy.bpos; have := Nat.mul_le_mul_left (xs.length + 1 - i) this; omega) (growslice_fits (by omega) (by rw [hz2]; have : evTy.bytes ≤ 200 := evTy.bpos; have := Nat.mul_le_mul_left (i + (xs.length + 1 - i)) this; omega))
   rw [show i + (xs.length + 1 - i) = xs.length + 1 by omega] at HRZ0
   obtain ⟨G, hG⟩ : ∃ G, G = grownCap w (xs.length + 1) c 30 := ⟨_, rfl⟩
   have GE : xs.length + 1 ≤ G := by rw [hG]; exact grownCap_ge w _ _ _
   have GM : G ≤ maxLen := by rw [hG]; exact grownCap_le_maxLen w _ _ _ (by unfold maxLen; omega)
   obtain ⟨R, hR⟩ : ∃ R, R = List.replicate (xs.length + 1 - i) evTy.z ++ List.replicate (G - (xs.length + 1)) evTy.z := ⟨_, rfl⟩
   have LR : xs.length + 1 - i ≤ R.length := by rw [hR]; simp
   have hrow : (evTy.flat (xs.take i)).toArray ++ Builtin.zeroCells evTy.zv.cells (xs.length + 1 - i) ++ Builtin.zeroCells evTy.zv.cells (G - (xs.length + 1)) = (evTy.flat (xs.take i ++ R)).toArray := by
    rw [hR, evTy.zeros, evTy.zeros, evTy.flat_app, evTy.flat_app]
    simp
   rw [← hG, hrow] at HRZ0
   have L0 : (xs.take i ++ R).length = G := by rw [hR]; simp; omega
   have hwr : IntKind.i64.wrap ((((xs.length + 1 : Nat) : Int)) - (i : Int)) = ((xs.length + 1 - i : Nat) : Int) := by rw [IntWalk.i64_in _ (by omega)]; omega
   have hwr2 : IntKind.i64.wrap ((xs.length : Int) + 1 - (i : Int)) = ((xs.length + 1 - i : Nat) : Int) := by rw [IntWalk.i64_in _ (by omega)]; omega
   have HRZ : ∀ ty, (Builtin.append_ #[22, 3] ty #[.slice (some ⟨g, 0, none⟩) i c, .int .i64 ((xs.length + 1 - i : Nat) : Int)]).run Tryz.prog w = .ok (.slice (some ⟨w.heap.size, 0, none⟩) (xs.length + 1) G) (w.drew.alloc (.cells (evTy.flat (xs.take i ++ R)).toArray 30)) := fun ty => HRZ0
   clear HRZ0 hrow hG hR hi0 hz0 hz1 hz2
   obtain ⟨w1, hw1, c1, q1⟩ : ∃ w1, w.drew.alloc (.cells (evTy.flat (xs.take i ++ R)).toArray 30) = w1 ∧ Chg [] w w1 ∧ w1.heap[w.heap.size]? = some (.cells (evTy.flat (xs.take i ++ R)).toArray 30 (0, 0)) := ⟨_, rfl, (Chg.refl [] w).drew.alloc _, heap_alloc_new w.drew _⟩
   simp only [hw1] at HRZ
   obtain ⟨g2, hg2⟩ : ∃ g2, w.heap.size = g2 := ⟨_, rfl⟩
   rw [hg2] at q1
   simp only [hg2] at HRZ
   have G2 : g2 ≠ g := by omega
   have G3 : g2 ≠ vb := by omega
   obtain ⟨F1, hF1⟩ : ∃ F1, F1 = (xs.take i ++ R).take i ++ [y] ++ (xs.take i ++ R).drop (i + [y].length) := ⟨_, rfl⟩
   obtain ⟨F2, hF2⟩ : ∃ F2, F2 = F1.take (i + 1) ++ xs.drop i ++ F1.drop (i + 1 + (xs.drop i).length) := ⟨_, rfl⟩
   have L1 : F1.length = G := by rw [hF1]; simp at L0 ⊢; omega
   have L2 : F2.length = G := by rw [hF2]; simp; omega
   have HC1 : ∀ ty dc, (Builtin.copy_ #[22, 22] ty #[.slice (some ⟨g2, i * 7, none⟩) (xs.length + 1 - i) dc, .slice (some ⟨vb, 0, none⟩) 1 1]).run Tryz.prog w1 = .ok (goInt ([y] : List EvT).length) (w1.setRow g2 (evTy.flat F1).toArray) := fun ty dc => by
    have q := run_copyK (R := evTy) w1 ty (g := g2) (off := i) (dLen := xs.length + 1 - i) (dCap := dc) (sLen := 1) (sCap := 1) (B := some ⟨vb, 0, none⟩) (ys := [y]) (full := xs.take i ++ R) q1 (XR.out.chg c1 (by simp)) (by simp only [Nat.min_def, List.length_singleton]; split <;> omega) (by rw [L0]; simp; omega)
    rw [← hF1] at q
    exact q
   have k1 := setRow_heap w1 g2 _ (evTy.flat F1).toArray _ _ q1
   have C1 : Chg [g2] w1 (w1.setRow g2 (evTy.flat F1).toArray) := ⟨rfl, rfl, rfl, by simp, fun j hj hn => setRow_other w1 g2 j _ (by simpa using hn)⟩
   generalize w1.setRow g2 (evTy.flat F1).toArray = w2 at *
   have HC2 : ∀ W, Chg [] w2 W → ∀ ty dc sc, (Builtin.copy_ #[22, 22] ty #[.slice (some ⟨g2, (i + 1) * 7, none⟩) (xs.length - i) dc, .slice (some ⟨g, i * 7, none⟩) (xs.length - i) sc]).run Tryz.prog W = .ok (goInt (xs.drop i).length) (W.setRow g2 (evTy.flat F2).toArray) := fun W hW ty dc sc => by
    have q := run_copyK (R := evTy) W ty (g := g2) (off := i + 1) (dLen := xs.length - i) (dCap := dc) (sLen := xs.length - i) (sCap := sc) (B := some ⟨g, i * 7, none⟩) (ys := xs.drop i) (full := F1) (hW.at_ k1 (by simp)) (by have := ((DR.out.chg c1 (by simp)).chg C1 (fun a ha => by cases ha; simpa using fun e => G2 e.symm)).chg hW (by simp); rw [List.length_drop]; exact this) (by rw [List.length_drop]; simp only [Nat.min_def]; split <;> omega) (by rw [List.length_drop, L1]; omega)
    rw [← hF2] at q
    exact q
   have FIN : Hid (F2.take (xs.take i ++ y :: xs.drop i).length = xs.take i ++ y :: xs.drop i) := Lib.hid (by rw [hF2, hF1]; exact ins_row2 (by omega) LR)
   have LNI : Hid ((xs.take i ++ y :: xs.drop i).length = xs.length + 1) := Lib.hid (by simp; omega)
   have K1 := Lib.hid k1
   have L2H := Lib.hid L2
   have C12 : Hid (Chg [g2] w w2) := Lib.hid ((c1.mono (by simp)).trans C1)
   have HG2 := Lib.hid hg2
   have GMH := Lib.hid GM
   have b1 : (0 : Int) ≤ (i : Int) + 1 := by omega
   have b2 : (i : Int) + 1 ≤ (xs.length : Int) + 1 := by omega
   have b3 : (i : Int) ≤ (xs.length : Int) + 1 := by omega
   have b4 : (c : Int) < ((xs.length + 1 : Nat) : Int) := by omega
   have b5 : (c : Int) < (xs.length : Int) + 1 := by omega
   have b6 : ¬ c = i := by omega
   have b7 : ¬ G = i := by omega
   have b8 : ¬ G = i + 1 := by omega
   have b9 : i ≤ c := by omega
   have b10 : (i : Int) ≤ (c : Int) := by omega
   clear hF1 hF2 k1 C1 c1 q1 hw1 hg2 GM L0 L1 L2 LR h hi hn hv hne hg hfl hcm hft gv lg lv O G2 G3 hwr
   go_enter Tryz.func170, Tryz.ntmps170
   go_wp2_with (first | (at_builtin; refine wpList_append_run _ rfl (.tmp 34) (.tmp 39) 22 3 rfl _ _ rfl rfl _ _ (HRZ _) ?_) | (at_builtin; refine wpList_copyR _ rfl (.tmp 43) (.tmp 44) 22 22 rfl (.slice (some ⟨g2, i * 7, none⟩) (xs.length + 1 - i) (G - i)) (.slice (some ⟨vb, 0, none⟩) 1 1) rfl rfl (HC1 _ _) ?_))
   clear HRZ HC1
   refine wp_region_held_drew (S := fun w' => True) (by kernel_rfl) trivial (fun hHeld => ?_)
   have hHeld := trivial
   refine sy 0 46 rfl rfl ?_ (hS := trivial)
   try simp only [Act.put, sA, s0, s1]
   refine sy 1 47 rfl rfl ?_ (hS := trivial)
   try simp only [Act.put, sA, s0, s1]
   refine sy 2 48 rfl rfl ?_ (hS := trivial)
   try simp only [Act.put, sA, s0, s1]
   refine sy 3 49 rfl rfl ?_ (hS := trivial)
   try simp only [Act.put, sA, s0, s1]
   refine sy 4 50 rfl rfl ?_ (hS := trivial)
   try simp only [Act.put, sA, s0, s1]
   refine sy 5 51 rfl rfl ?_ (hS := trivial)
   try simp only [Act.put, sA, s0, s1]
   refine sy 6 52 rfl rfl ?_ (hS := trivial)
   try simp only [Act.put, sA, s0, s1]
   refine sy 7 53 rfl rfl ?_ (hS := trivial)
   try simp only [Act.put, sA, s0, s1]
   refine wpAnyH_ready (rs := [8]) (by kernel_rfl) (by simp) ?_; refine AllReadyH.cons rfl (fun K hK => ?_) AllReadyH.nil; replace hK := Lib.hid hK
   refine step_copyR rfl (.tmp 50) (.tmp 53) 22 22 rfl (.slice (some ⟨g2, (i + 1) * 7, none⟩) (xs.length - i) (G - (i + 1))) (.slice (some ⟨g, i * 7, none⟩) (xs.length - i) (c - i)) rfl rfl (HC2 _ ((Chg.refl [] w2).drew) _ _ _) ?_
   go_simp
   have K2 := setRow_heap w2.drew g2 _ (evTy.flat F2).toArray _ _ (((Chg.refl [] w2).drew).at_ K1.out (by simp))
   have C2 : Chg [g2] w (w2.drew.setRow g2 (evTy.flat F2).toArray) := (C12.out.trans ((Chg.refl [] w2).drew.mono (by simp))).trans ⟨rfl, rfl, rfl, by simp, fun j hj hn => setRow_other w2.drew g2 j _ (by simpa using hn)⟩
   generalize w2.drew.setRow g2 (evTy.flat F2).toArray = w3 at *
   refine hK.out _ _ trivial (fun hHeld => ?_)
   clear hK K; try simp only [Act.put, sA, s0, s1]
   refine wpAnyH_done (by kernel_rfl) ?_ _; clear hHeld HC2
   have K3 := Lib.hid K2
   have C3 := Lib.hid C2
   have GEH := Lib.hid GE
   clear K2 C2 C12 K1; go_wp2; go_ret
   refine ⟨some ⟨g2, 0, none⟩, G, rfl, OwnK.of K3.out (by rw [LNI.out]; exact GEH.out) GMH.out L2H.out FIN.out, fun a ha => .inr (by cases ha; rw [HG2.out]; exact Nat.le_refl _), fun w0 h0 hA => h0.trans' C3.out (fun j hj => by simp at hj; subst hj; exact .inr (by rw [← HG2.out]; exact h0.size))⟩
end
section
open Go.RowKit Go.Lib

def ShTo (es : List EvP) (k : Nat) : Prop := (∀ e ∈ es.take k, chkEv e = 0 ∧ ∀ f, es[0]? = some f → e.p = f.p) ∧ (es.take k).Pairwise LtEv
theorem shTo_zero (es : List EvP) : ShTo es 0 := ⟨fun e h => by simp at h, by simp⟩
theorem shE_no {es : List EvP} (h : ¬ ShOk es) : shE es = 2 := if_neg h
theorem shE_yes {es : List EvP} (h : ShOk es) : shE es = 0 := if_pos h
theorem sh_no_chk {es : List EvP} {k : Nat} {e : EvP} (he : es[k]? = some e) (h : chkEv e ≠ 0) : shE es = 2 := shE_no (fun q => h (q.1 e (List.mem_of_getElem? he)))
theorem sh_no_path {es : List EvP} {k j : Nat} {e f : EvP} (he : es[k]? = some e) (hf : es[j]? = some f) (h : ¬ e.p = f.p) : shE es = 2 := shE_no (fun q => h (q.2.1 e (List.mem_of_getElem? he) f (List.mem_of_getElem? hf)))
theorem sh_no_lt {es : List EvP} {k j : Nat} {e f : EvP} (he : es[k]? = some e) (hf : es[j]? = some f) (hj : j < k) (h : ¬ LtEv f e) : shE es = 2 := shE_no (fun q => by
 obtain ⟨l1, e1⟩ := List.getElem?_eq_some_iff.1 he
 obtain ⟨l2, e2⟩ := List.getElem?_eq_some_iff.1 hf
 have := List.pairwise_iff_getElem.1 q.2.2.1 j k l2 l1 hj
 rw [e1, e2] at this
 exact h this)
theorem sh_no_ahead {es : List EvP} {k : Nat} {e : EvP} (he : es[k]? = some e) (h : es.any (fun x => aheadP e x) = true) : shE es = 2 := shE_no (fun q => by
 obtain ⟨x, hx, ha⟩ := List.any_eq_true.1 h
 have := q.2.2.2 e (List.mem_of_getElem? he) x hx
 rw [this] at ha
 cases ha)
theorem shTo_next {es : List EvP} {k : Nat} {e : EvP} (h : ShTo es k) (he : es[k]? = some e) (hc : chkEv e = 0) (hp : ∀ f, es[0]? = some f → e.p = f.p) (hl : k = 0 ∨ ∀ d, es[k - 1]? = some d → LtEv d e) : ShTo es (k + 1) := by
 have et : es.take (k + 1) = es.take k ++ [e] := by rw [List.take_add_one, he]; rfl
 refine ⟨fun x hx => ?_, ?_⟩
 ·
  rw [et] at hx
  rcases List.mem_append.1 hx with q | q
  ·
   exact h.1 x q
  ·
   simp at q; subst q; exact ⟨hc, hp⟩
 ·
  rw [et, List.pairwise_append]
  refine ⟨h.2, List.pairwise_singleton _ _, fun x hx y hy => ?_⟩
  simp at hy
  subst hy
  rcases hl with rfl | hl
  ·
   simp at hx
  ·
   have hk := (List.getElem?_eq_some_iff.1 he).1
   obtain ⟨i, hi⟩ := List.getElem?_of_mem hx
   have hik := (List.getElem?_eq_some_iff.1 hi).1
   rw [List.length_take] at hik
   by_cases k0 : k = 0
   ·
    subst k0; simp at hx
   ·
    obtain ⟨d, hd⟩ : ∃ d, es[k - 1]? = some d := ⟨_, List.getElem?_eq_getElem (by omega)⟩
    have hde := hl d hd
    by_cases q : i = k - 1
    ·
     subst q
     rw [List.getElem?_take, if_pos (by omega), hd] at hi
     cases hi
     exact hde
    ·
     have hd2 : (es.take k)[k - 1]? = some d := by rw [List.getElem?_take, if_pos (by omega)]; exact hd
     obtain ⟨l1, e1⟩ := List.getElem?_eq_some_iff.1 hi
     obtain ⟨l2, e2⟩ := List.getElem?_eq_some_iff.1 hd2
     have := List.pairwise_iff_getElem.1 h.2 i (k - 1) l1 l2 (by omega)
     rw [e1, e2] at this
     exact this.tr hde
theorem sh_done {es : List EvP} (h : ShTo es es.length) (ha : ∀ e ∈ es, es.any (fun x => aheadP e x) = false) : shE es = 0 := by
 have et : es.take es.length = es := List.take_length
 unfold ShTo at h
 rw [et] at h
 refine shE_yes ⟨fun e he => (h.1 e he).1, fun e he f hf => ?_, h.2, fun e he f hf => ?_⟩
 ·
  obtain ⟨d, hd⟩ : ∃ d, es[0]? = some d := ⟨_, List.getElem?_eq_getElem (List.length_pos_of_mem he)⟩
  rw [(h.1 e he).2 d hd, (h.1 f hf).2 d hd]
 ·
  have := List.any_eq_false.1 (ha e he) f hf
  simpa using this
end
end Go.Proofs.YtomgjogkkoigbaaGreatDoor
