/- A past's bytes are read as it; what is read has just these bytes. Plain. event.Read. The kit's OverEvents over one event. The kit's OverEvents over a list in memory of its own. slices.DeleteFunc over events, at shelf.without's func. slices.IndexFunc, ContainsFunc, DeleteFunc over events. slices.Clone of spans. -/
import Derived.Test.YtehmchdhlhchjaaGreatDoorZeps
import Derived.Test.YtehmchdhlhchjaaGreatDoorZepm
import Derived.Test.YtehmchdhlhchjaaGreatDoorZepd
import Derived.Test.YtehmchdhlhchjaaGreatDoorZepi
import Derived.Deep.Cut
import Derived.Deep.RegionHeld3
import Derived.Test.YtehmchdhlhchjaaGreatDoorZepa
import Derived.Test.YtehmchdhlhchjaaGreatDoorZepj
import Derived.Test.YtehmchdhlhchjaaGreatDoorZepr
import Derived.Test.YtehmchdhlhchjaaGreatDoorZepb
import Derived.Test.YtehmchdhlhchjaaGreatDoorZepc
import Derived.BigQuiet
set_option linter.unusedSimpArgs false
set_option linter.unusedVariables false
set_option maxHeartbeats 32000000
namespace Go.Proofs.YtehmchdhlhchjaaGreatDoor
section
open Go.RowKit Go.Lib

theorem getElem?_of_drop {α : Type} {xs ys : List α} {k i : Nat} (h : xs.drop k = ys.drop k) (hi : k ≤ i) : xs[i]? = ys[i]? := by
 have := congrArg (fun l => l[i - k]?) h
 simpa [List.getElem?_drop, Nat.add_sub_cancel' hi] using this
def RestE (w : World) (k : Nat) (ys : List EvT) (es : List EvP) : Prop := ∀ (i : Nat) (y : EvT) (e : EvP), k ≤ i → ys[i]? = some y → es[i]? = some e → OwnB w y.A y.c e.b ∧ OwnK spanTy w y.B y.bc e.q
theorem RestE.chg {S : List Nat} {w w' : World} {k : Nat} {ys : List EvT} {es : List EvP} (h : RestE w k ys es) (hc : Chg S w w') (hS : ∀ (i : Nat) (y : EvT), k ≤ i → ys[i]? = some y → ∀ a, (y.A = some a ∨ y.B = some a) → a.block ∉ S) : RestE w' k ys es := fun i y e hi hy he =>
 ⟨(h i y e hi hy he).1.chg hc (fun a ha => hS i y hi hy a (.inl ha)), (h i y e hi hy he).2.chg hc (fun a ha => hS i y hi hy a (.inr ha))⟩
theorem RestE.next {w : World} {k k' : Nat} {ys : List EvT} {es : List EvP} (h : RestE w k ys es) (hk : k ≤ k') : RestE w k' ys es := fun i y e hi => h i y e (by omega)
def Within (lo hi : Nat) (w w' : World) : Prop := ∃ S : List Nat, (∀ i ∈ S, lo ≤ i ∧ i < hi) ∧ Chg S w w'
theorem Within.refl (lo hi : Nat) (w : World) : Within lo hi w w := ⟨[], by simp, Chg.refl _ _⟩
theorem Within.more {lo hi : Nat} {w w1 w2 : World} {S : List Nat} (h : Within lo hi w w1) (hS : ∀ i ∈ S, lo ≤ i ∧ i < hi) (hc : Chg S w1 w2) : Within lo hi w w2 := by
 obtain ⟨T, hT, hw⟩ := h
 exact ⟨T ++ S, fun i hi => (List.mem_append.1 hi).elim (fun q => hT i q) (fun q => hS i q), (hw.mono (S' := T ++ S) (fun i hi => .inl (List.mem_append_left _ hi))).trans (hc.mono (S' := T ++ S) (fun i hi => .inl (List.mem_append_right _ hi)))⟩
set_option maxRecDepth 100000 in
theorem overevs_own (w : World) (lo hi : Nat) (A : Option Addr) (c : Nat) (ys : List EvT) (es : List EvP) (h : EsF w lo hi A c ys es) (hn : ys.length ≤ 100000) :
  Calls Tryz.prog 12 #[.slice A ys.length c] w fun r w' => r = .returned (.tuple #[]) ∧ Within lo hi w w' := by
 have HL : Hid (∀ (i : Nat) (y : EvT) (e : EvP), ys[i]? = some y → es[i]? = some e → y.l = e.b.length ∧ y.bl = e.q.length) := h_ (fun i y e hy he => ⟨(h.all.ev.2 i y e hy he).l, (h.all.ev.2 i y e hy he).bl⟩)
 have HE : Hid (ys.length = es.length) := h_ h.all.ev.1
 have R0 : Hid (OwnK evTy w A c ys) := h_ h.row
 have RA := h_ h.rowAt
 have RS0 : Hid (RestE w 0 ys es) := h_ (fun i y e _ hy he => h.all.own i y e hy he)
 have AT := h_ h.all.at_
 have TWO := h_ h.all.two
 have APT := h_ h.all.apart
 have HN := h_ hn
 clear h hn
 go_enter Tryz.func12, Tryz.ntmps12
 go_wp2
 go_loopw [2] (fun v2 wr => ∃ (k : Nat) (zs : List EvT), k ≤ ys.length ∧ v2 = .int .i64 k ∧ Hid (zs.length = ys.length ∧ zs.drop k = ys.drop k) ∧ Hid (OwnK evTy wr A c zs) ∧ Hid (RestE wr k ys es) ∧ Hid (Within lo hi w wr)) (fun v2 _ => ys.length - (RowKit.intOf v2).toNat)
 case atStart => exact ⟨0, ys, Nat.zero_le _, rfl, h_ ⟨rfl, rfl⟩, R0, RS0, h_ (Within.refl _ _ _)⟩
 case round =>
  obtain ⟨k, zs, hk, rfl, ZL, RO, RS, RW⟩ := hrel
  have i0 : (0 : Int) ≤ (k : Int) := by omega
  by_cases hlt : k < ys.length
  ·
   have i1 : (k : Int) < (ys.length : Int) := by omega
   have i3 : IntKind.i64.wrap ((k : Int) + 1) = (k : Int) + 1 := IntWalk.i64_in _ (by have := HN.out; omega)
   obtain ⟨y, hy⟩ : ∃ y, ys[k]? = some y := ⟨_, List.getElem?_eq_getElem hlt⟩
   obtain ⟨e, he⟩ : ∃ e, es[k]? = some e := ⟨_, List.getElem?_eq_getElem (by rw [← HE.out]; exact hlt)⟩
   have hz : zs[k]? = some y := by rw [getElem?_of_drop ZL.out.2 (Nat.le_refl _)]; exact hy
   obtain ⟨q, eq, hg⟩ : ∃ g, A = some ⟨g, 0, none⟩ ∧ g < wr.heap.size := by
    rcases RO.out.shape with ⟨_, q, _⟩ | q
    ·
     rw [q] at hz; simp at hz
    ·
     exact q
   subst eq
   obtain ⟨oa, ob⟩ := RS.out k y e (Nat.le_refl _) hy he
   have OA := h_ oa
   have OB := h_ ob
   have my := List.mem_of_getElem? hy
   have YA : Hid (∀ a, (y.A = some a ∨ y.B = some a) → lo ≤ a.block ∧ a.block < hi ∧ a.block ≠ q) := h_ (fun a ha => ⟨(AT.out y my a ha).1, (AT.out y my a ha).2.1, (AT.out y my a ha).2.2 _ rfl⟩)
   have Y2 := h_ (TWO.out y my)
   have YO : Hid (∀ (i : Nat) (x : EvT), k + 1 ≤ i → ys[i]? = some x → ∀ a b, (y.A = some a ∨ y.B = some a) → (x.A = some b ∨ x.B = some b) → a.block ≠ b.block) := h_ (fun i x hi hx a b p r => by
    obtain ⟨l1, e1⟩ := List.getElem?_eq_some_iff.1 hy
    obtain ⟨l2, e2⟩ := List.getElem?_eq_some_iff.1 hx
    have := List.pairwise_iff_getElem.1 APT.out k i l1 l2 (by omega)
    rw [e1, e2] at this
    exact this a b p r)
   have YX : Hid (∀ (i : Nat) (x : EvT), k + 1 ≤ i → ys[i]? = some x → ∀ a, (x.A = some a ∨ x.B = some a) → a.block ≠ q) := h_ (fun i x hi hx a ha => (AT.out x (List.mem_of_getElem? hx) a ha).2.2 _ rfl)
   have YL := h_ (HL.out k y e hy he)
   have QA := h_ (RA.out _ rfl)
   replace RS := h_ (RS.out.next (Nat.le_succ k))
   have HZ := h_ hz
   obtain ⟨z0, z1, z2, z3, z4, z5, z6⟩ := evCells RO.out.reads hz
   rw [Nat.zero_add] at z0 z1 z2 z3 z4 z5 z6
   clear oa ob my hz hy he; go_wp2_with fail; clear z0 z1 z2 z3 z4 z5 z6
   refine (over_own _ y.A y.c y.l e.b OA.out YL.out.1).mono ?_
   rintro r w2 ⟨rfl, h2⟩
   obtain ⟨S2, hS2, h2⟩ := over_only h2
   have B2 := h_ (RO.out.chg h2 (fun a ha p => by cases ha; obtain ⟨b, hb, e⟩ := hS2 _ p; exact (YA.out b (.inl hb)).2.2 e))
   have OB2 := h_ (OB.out.chg h2 (fun b hb p => by obtain ⟨a, ha, e⟩ := hS2 _ p; exact Y2.out a b ha hb e))
   have RS2 := h_ (RS.out.chg h2 (fun i x hi hx b hb p => by obtain ⟨a, ha, e⟩ := hS2 _ p; exact YO.out i x hi hx a b (.inl ha) hb e))
   have W2 := h_ (RW.out.more (fun i hi => by obtain ⟨a, ha, e⟩ := hS2 _ hi; have := YA.out a (.inl ha); omega) h2)
   clear h2 hS2 OA OB RS RW RO
   obtain ⟨z0, z1, z2, z3, z4, z5, z6⟩ := evCells B2.out.reads HZ.out
   rw [Nat.zero_add] at z0 z1 z2 z3 z4 z5 z6
   go_wp2_with fail; clear z0 z1 z2 z3 z4 z5 z6
   refine (overspan_own w2 y.B y.bl y.bc e.q OB2.out YL.out.2).mono ?_
   rintro r w3 ⟨rfl, h3⟩
   obtain ⟨S3, hS3, h3⟩ := over_only h3
   have B3 := h_ (B2.out.chg h3 (fun a ha p => by cases ha; obtain ⟨b, hb, e⟩ := hS3 _ p; exact (YA.out b (.inr hb)).2.2 e))
   have RS3 := h_ (RS2.out.chg h3 (fun i x hi hx b hb p => by obtain ⟨a, ha, e⟩ := hS3 _ p; exact YO.out i x hi hx a b (.inr ha) hb e))
   have W3 := h_ (W2.out.more (fun i hi => by obtain ⟨a, ha, e⟩ := hS3 _ hi; have := YA.out a (.inr ha); omega) h3)
   clear h3 hS3 OB2 B2 RS2 W2
   obtain ⟨z0, z1, z2, z3, z4, z5, z6⟩ := evCells B3.out.reads HZ.out
   rw [Nat.zero_add] at z0 z1 z2 z3 z4 z5 z6
   have F3 : ∀ j, w3.frozen? ⟨q, j, none⟩ = false := fun j => by
    rcases B3.out with ⟨h, _⟩ | ⟨g', full, e, hg, _⟩
    ·
     cases h
    ·
     cases e; exact free_of hg j
   have f0 := F3 (k * 7)
   have f1 := F3 (k * 7 + 1)
   have f2 := F3 (k * 7 + 2)
   have f3 := F3 (k * 7 + 3)
   have f4 := F3 (k * 7 + 4)
   have f5 := F3 (k * 7 + 5)
   have f6 := F3 (k * 7 + 6)
   clear F3
   have B4 := h_ (B3.out.set7 k _ ⟨0, 0, ⟨#[111, 118, 101, 114]⟩, 0, 0, none, 0, 0, none, 0, 0⟩ HZ.out)
   have C4 := h_ ((Chg.refl [q] w3).set7 (g := q) (.inl (by simp)) (k * 7) (.int .i64 0) (.int .i64 0) (.string ⟨#[111, 118, 101, 114]⟩) (.int .i64 0) (.int .i64 0) (.slice none 0 0) (.slice none 0 0))
   go_wp2; clear z0 z1 z2 z3 z4 z5 z6 f0 f1 f2 f3 f4 f5 f6
   generalize (((((((w3.setCell ⟨q, k * 7, none⟩ (.int .i64 0)).setCell ⟨q, k * 7 + 1, none⟩ (.int .i64 0)).setCell ⟨q, k * 7 + 2, none⟩ (.string ⟨#[111, 118, 101, 114]⟩)).setCell ⟨q, k * 7 + 3, none⟩ (.int .i64 0)).setCell ⟨q, k * 7 + 4, none⟩ (.int .i64 0)).setCell ⟨q, k * 7 + 5, none⟩ (.slice none 0 0)).setCell ⟨q, k * 7 + 6, none⟩ (.slice none 0 0)) = w4 at *
   have RS4 := h_ (RS3.out.chg C4.out (fun i x hi hx b hb p => by simp at p; exact YX.out i x hi hx b hb p))
   have W4 := h_ (W3.out.more (fun i hi => by simp at hi; subst hi; exact QA.out) C4.out)
   have ZL4 : Hid ((zs.set k ⟨0, 0, ⟨#[111, 118, 101, 114]⟩, 0, 0, none, 0, 0, none, 0, 0⟩).length = ys.length ∧ (zs.set k ⟨0, 0, ⟨#[111, 118, 101, 114]⟩, 0, 0, none, 0, 0, none, 0, 0⟩).drop (k + 1) = ys.drop (k + 1)) := h_ ⟨by rw [List.length_set]; exact ZL.out.1, by
    rw [List.drop_set_of_lt (by omega)]
    have := congrArg (List.drop 1) ZL.out.2
    simpa [List.drop_drop] using this⟩
   go_round
   case rel => exact ⟨k + 1, _, by omega, by go_num, ZL4, B4, RS4, W4⟩
   case measure => simp [RowKit.intOf]; omega
  ·
   obtain rfl : k = ys.length := by omega
   have i1 : ¬ (ys.length : Int) < (ys.length : Int) := by omega
   go_wp2
   first | go_end0 | refine bodyPost_ret (results_none rfl _ _ _) rfl ?_
   exact ⟨rfl, RW.out⟩
end
section
open Go.RowKit Go.Lib


theorem run_clearE (w : World) (ty : TypeId) (g c n k : Nat) (full : List EvT) (hg : w.heap[g]? = some (.cells (evTy.flat full).toArray 40 (0, 0))) (hl : full.length = c) (hn : n ≤ c) (hk : k < n) :
  (Builtin.clear_ #[22] ty #[.slice (some ⟨g, k * 7, none⟩) (n - k) (c - k)]).run Tryz.prog w = .ok (.tuple #[]) (w.setRow g (evTy.flat (full.take k ++ List.replicate (n - k) evTy.z ++ full.drop n)).toArray) := by
 have hz := evTy.zeros (n - k)
 have hk2 : evTy.k = 7 := rfl
 have hlen : (evTy.flat full).length = full.length * 7 := evTy.flat_len full
 have hlz : (evTy.flat (List.replicate (n - k) evTy.z)).length = (n - k) * 7 := by rw [evTy.flat_len, List.length_replicate, hk2]
 have hst := run_storeCells_at (P := Tryz.prog) g (k * 7) 40 (evTy.flat (List.replicate (n - k) evTy.z)) 0 _ w hg (by rw [hlz, List.size_toArray, hlen]; omega) (evTy.flat_one _)
 have ht := evTy.flat_take full k
 have hd := evTy.flat_drop full n
 rw [hk2] at ht hd
 have hfin : ((evTy.flat full).toArray.toList.take (k * 7 + 0) ++ evTy.flat (List.replicate (n - k) evTy.z) ++ (evTy.flat full).toArray.toList.drop (k * 7 + 0 + (evTy.flat (List.replicate (n - k) evTy.z)).length)) = evTy.flat (full.take k ++ List.replicate (n - k) evTy.z ++ full.drop n) := by
  rw [evTy.flat_app, evTy.flat_app, ht, hd, hlz, show k * 7 + 0 + (n - k) * 7 = n * 7 by omega]
  rfl
 rw [hfin] at hst
 obtain ⟨m, hm⟩ : ∃ m, n - k = m + 1 := ⟨n - k - 1, by omega⟩
 have hzv : ∀ w, (zeroValue 40).run Tryz.prog w = .ok (.agg #[.int .i64 0, .int .i64 0, .string ⟨#[]⟩, .int .i64 0, .int .i64 0, .slice none 0 0, .slice none 0 0]) w := Tryz.zeroValue40
 have hzz : (Builtin.zeroCells (Value.agg #[.int .i64 0, .int .i64 0, .string ⟨#[]⟩, .int .i64 0, .int .i64 0, .slice none 0 0, .slice none 0 0]).cells (n - k)).toList = evTy.flat (List.replicate (n - k) evTy.z) := by
  exact (congrArg Array.toList hz).trans (by simp)
 rw [hm] at hst hzz ⊢
 simp [Builtin.clear_, run_underlying Tryz.underlying22, hzv, hzz, hst]
instance inhShdel : Inhabited (Int × Int) := ⟨(0, 0)⟩


theorem filt_take {es : List EvP} {q : EvP → Bool} {k : Nat} {e : EvP} (he : es[k]? = some e) : (es.take (k + 1)).filter q = (es.take k).filter q ++ (if q e = true then [e] else []) := by
 rw [List.take_add_one, he, List.filter_append]
 cases h : q e <;> simp [h]
theorem take_set_next {α : Type} {zs : List α} {i : Nat} {x : α} (hi : i < zs.length) : (zs.set i x).take (i + 1) = zs.take i ++ [x] := by
 rw [List.take_add_one, List.getElem?_set, if_pos rfl, if_pos hi, List.take_set, List.set_eq_of_length_le (by rw [List.length_take]; omega)]
 rfl
end
section
open Go.RowKit Go.Lib


set_option maxRecDepth 100000 in
theorem evfindex_any (w : World) (A : Option Addr) (c : Nat) (xs : List EvT) (es : List EvP) (gf : Nat) (lb : Array Value) (d : EvP → Bool) (eg : ∀ args w, (callFunc gf args).run Tryz.prog w = .ok (.enter gf args) w) (h : RdK evTy w A xs.length xs) (hx : EvsR w xs es) (hn : xs.length ≤ 100000) (hcall : ∀ (wr : World), Chg [] w wr → ∀ (i : Nat) (x : EvT) (e : EvP), xs[i]? = some x → es[i]? = some e → Calls Tryz.prog gf (#[.agg #[.int .i64 x.n, .int .i64 x.s, .string x.p, .int .i64 x.k, .int .i64 x.m, .slice x.A x.l x.c, .slice x.B x.bl x.bc]] ++ lb) wr fun r w' => r = .returned (.bool (d e)) ∧ Chg [] wr w') :
  Calls Tryz.prog 82 #[.slice A xs.length c, .func (.func gf) #[] lb] w fun r w' => (∃ v : Int, r = .returned (.int .i64 v) ∧ IdxP es d v) ∧ Chg [] w w' := by
 have HA := h_ h
 have HX := h_ hx
 have HN := h_ hn
 have HCALL := h_ hcall
 have CLEARS : True := trivial
 clear CLEARS h hx hn hcall
 go_enter Tryz.func82, Tryz.ntmps82
 go_wp2
 go_loopw [5, 8] (fun v5 v8 wr => ∃ (k : Nat), k ≤ xs.length ∧ v8 = .int .i64 k ∧ Hid (∀ e ∈ es.take k, d e = false) ∧ Hid (Chg [] w wr)) (fun _ v8 _ => xs.length - (RowKit.intOf v8).toNat)
 case atStart => exact ⟨0, Nat.zero_le _, rfl, h_ (by simp), Chg.refl _ _⟩
 case round =>
  obtain ⟨k, hk, rfl, FN_, RC⟩ := hrel
  have i0 : (0 : Int) ≤ (k : Int) := by omega
  by_cases hlt : k < xs.length
  ·
   have i1 : (k : Int) < (xs.length : Int) := by omega
   have i3 : IntKind.i64.wrap ((k : Int) + 1) = (k : Int) + 1 := IntWalk.i64_in _ (by have := HN.out; omega)
   obtain ⟨x, e, ex, ee, rx⟩ := HX.out.at_ hlt
   obtain ⟨g, o, eA, _⟩ := HA.out.line (by omega)
   subst eA
   obtain ⟨z0, z1, z2, z3, z4, z5, z6⟩ := evCells (HA.out.chg RC.out (by simp)) ex
   have EE := h_ ee
   have CL := h_ (HCALL.out wr RC.out _ x e ex ee)
   clear ex ee rx; go_wp2_with fail
   refine CL.out.mono ?_
   rintro r w2 ⟨rfl, hc⟩
   have C2 := h_ (RC.out.trans hc)
   clear hc CL z0 z1 z2 z3 z4 z5 z6
   rcases hb : d e with _ | _
   ·
    have FN1 := h_ (all_take_no FN_.out EE.out hb)
    clear hb FN_; go_wp2; go_round
    case rel => exact ⟨k + 1, by omega, by go_num, FN1, C2⟩
    case measure => simp [RowKit.intOf]; omega
   ·
    have AN : Hid (IdxP es d (k : Int)) := h_ (.inr ⟨k, e, rfl, EE.out, hb, FN_.out⟩)
    clear hb FN_; go_wp2; go_ret
    exact ⟨⟨k, rfl, AN.out⟩, C2.out⟩
  ·
   obtain rfl : k = xs.length := by omega
   have ET : es.take xs.length = es := by rw [HX.out.1]; exact List.take_length
   rw [ET] at FN_
   clear ET
   have i1 : ¬ (xs.length : Int) < (xs.length : Int) := by omega
   go_wp2; go_ret
   exact ⟨⟨-1, rfl, .inl ⟨rfl, FN_.out⟩⟩, RC.out⟩

set_option maxRecDepth 100000 in
theorem evfdel_any (wb w0 w : World) (A : Option Addr) (c : Nat) (xs : List EvT) (es : List EvP) (gf : Nat) (lb : Array Value) (d : EvP → Bool) (eg : ∀ args w, (callFunc gf args).run Tryz.prog w = .ok (.enter gf args) w) (hb : Chg [] wb w0) (h0 : Chg [] w0 w) (h : OwnK evTy w A c xs) (hA : ∀ a, A = some a → w0.heap.size ≤ a.block) (hx : EvsR wb xs es) (hn : xs.length ≤ 100000) (hcall : ∀ (wr : World), Chg [] w0 wr → ∀ (i : Nat) (x : EvT) (e : EvP), xs[i]? = some x → es[i]? = some e → Calls Tryz.prog gf (#[.agg #[.int .i64 x.n, .int .i64 x.s, .string x.p, .int .i64 x.k, .int .i64 x.m, .slice x.A x.l x.c, .slice x.B x.bl x.bc]] ++ lb) wr fun r w' => r = .returned (.bool (d e)) ∧ Chg [] wr w') :
  Calls Tryz.prog 118 #[.slice A xs.length c, .func (.func gf) #[] lb] w fun r w' => ∃ ys : List EvT, r = .returned (.slice A ys.length c) ∧ ys.length ≤ xs.length ∧ EvsR wb ys (es.filter (fun e => !d e)) ∧ OwnK evTy w' A c ys ∧ Chg [] w0 w' := by
 have IX := h_ (evfindex_any w A c xs es gf lb d eg h.reads (hx.chg (hb.trans h0)) hn (fun wr hc => hcall wr (h0.trans hc)))
 have W1C := h_ hcall
 have O0 := h_ h
 have C0 := h_ h0
 have NA := h_ hA
 have HX := h_ hx
 have HN := h_ hn
 clear h h0 hb hA hx hn hcall
 go_enter Tryz.func118, Tryz.ntmps118
 go_wp2_with fail
 refine IX.out.mono ?_
 rintro r w1 ⟨⟨v, rfl, hv⟩, hc⟩
 have C1 := h_ (C0.out.trans hc)
 have O1 := h_ (O0.out.chg hc (by simp))
 clear hc O0 C0 IX
 rcases hv with ⟨rfl, no⟩ | ⟨k, e, rfl, ek, pk, nk⟩
 ·
  have ES : Hid (es.filter (fun e => !d e) = es) := h_ (List.filter_eq_self.2 (fun e he => by have q : d e = false := no e he; rw [q]; rfl))
  clear no; go_wp2; go_ret
  exact ⟨xs, rfl, Nat.le_refl _, by rw [ES.out]; exact HX.out, O1.out, C1.out⟩
 ·
  have kl : k < xs.length := by rw [HX.out.1]; exact (List.getElem?_eq_some_iff.1 ek).1
  have F0 : Hid ((es.take (k + 1)).filter (fun e => !d e) = es.take k) := h_ (by
   rw [filt_take ek]
   have pk : d e = true := pk
   simp only [pk, Bool.not_true, Bool.false_eq_true, if_false, List.append_nil]
   exact List.filter_eq_self.2 (fun e he => by have q : d e = false := nk e he; rw [q]; rfl))
  have E0 : Hid (EvsR wb (xs.take k) (es.take k)) := h_ ⟨by rw [List.length_take, List.length_take, HX.out.1], fun i x d hx hd => by
   rw [List.getElem?_take] at hx hd
   split at hx
   ·
    rename_i q; rw [if_pos q] at hd; exact HX.out.2 i x d hx hd
   ·
    cases hx⟩
  obtain ⟨g, eA, _⟩ : ∃ g, A = some ⟨g, 0, none⟩ ∧ g < w1.heap.size := by
   rcases O1.out.shape with ⟨_, q, _⟩ | q
   ·
    rw [q] at kl; simp at kl
   ·
    exact q
  subst eA
  have CP := h_ O1.out.cap
  have n1 : ¬ ((k : Int) = -1) := by omega
  have n2 : (((k : Int) == -1) : Bool) = false := by first | (simp; done) | (simp; omega)
  have n3 : IntKind.i64.wrap ((k : Int) + 1) = ((k + 1 : Nat) : Int) := by rw [IntWalk.i64_in _ (by have := HN.out; omega)]; omega
  have KL := h_ kl
  clear ek pk nk kl
  go_upto_region 5 with fail
  go_loopw [5, 6] (fun v5 v6 wr => ∃ (i j : Nat) (zs : List EvT), i + 1 ≤ j ∧ j ≤ xs.length ∧ v5 = .int .i64 i ∧ v6 = .int .i64 j ∧ Hid (zs.length = xs.length ∧ zs.drop j = xs.drop j) ∧ Hid (EvsR wb (zs.take i) ((es.take j).filter (fun e => !d e))) ∧ Hid (OwnK evTy wr (some ⟨g, 0, none⟩) c zs) ∧ Hid (Chg [] w0 wr)) (fun _ v6 _ => xs.length - (RowKit.intOf v6).toNat)
  case atStart => exact ⟨k, k + 1, xs, Nat.le_refl _, KL.out, rfl, rfl, h_ ⟨rfl, rfl⟩, h_ (by rw [F0.out]; exact E0.out), O1, C1⟩
  case round =>
   obtain ⟨i, j, zs, hij, hj, rfl, rfl, ZL, RE, RO, RC⟩ := hrel
   have i0 : (0 : Int) ≤ (i : Int) := by omega
   have j0 : (0 : Int) ≤ (j : Int) := by omega
   by_cases hlt : j < xs.length
   ·
    have j1 : (j : Int) < (xs.length : Int) := by omega
    have i1 : (i : Int) < (xs.length : Int) := by omega
    have j3 : IntKind.i64.wrap ((j : Int) + 1) = (j : Int) + 1 := IntWalk.i64_in _ (by have := HN.out; omega)
    have i3 : IntKind.i64.wrap ((i : Int) + 1) = (i : Int) + 1 := IntWalk.i64_in _ (by have := HN.out; omega)
    obtain ⟨x, e, ex, ee, rx⟩ := HX.out.at_ hlt
    have zx : zs[j]? = some x := by rw [getElem?_of_drop ZL.out.2 (Nat.le_refl _)]; exact ex
    obtain ⟨z0, z1, z2, z3, z4, z5, z6⟩ := evCells RO.out.reads zx
    rw [Nat.zero_add] at z0 z1 z2 z3 z4 z5 z6
    have EE := h_ ee
    have RX := h_ rx
    have EX := h_ ex
    clear ex ee rx zx
    obtain ⟨w2, hw2, c2, b2⟩ := news1 wr (.cells #[.int .i64 x.n, .int .i64 x.s, .string x.p, .int .i64 x.k, .int .i64 x.m, .slice x.A x.l x.c, .slice x.B x.bl x.bc] 40)
    have W2 := h_ hw2
    have B2 := h_ b2
    have SB : Hid (g ≠ wr.heap.size) := h_ (by
     have := RO.out.lt_ _ rfl
     intro q
     rw [q] at this
     exact Nat.lt_irrefl _ this)
    replace RO := h_ (RO.out.chg c2 (by simp))
    replace RC := h_ (RC.out.trans c2)
    clear hw2 c2 b2
    go_upto_region 8 with fail
    rw [← W2.out]
    generalize wr.heap.size = s2 at *
    clear W2 z0 z1 z2 z3 z4 z5 z6
    obtain ⟨y0, y1, y2, y3, y4, y5, y6⟩ := ce7 B2.out
    have CC := h_ (W1C.out w2 RC.out _ x e EX.out EE.out)
    go_wp2_with fail
    refine CC.out.mono ?_
    rintro r w3 ⟨rfl, hc⟩
    replace RO := h_ (RO.out.chg hc (by simp))
    replace RC := h_ (RC.out.trans hc)
    replace B2 := h_ (hc.at_ B2.out (by simp))
    clear hc CC y0 y1 y2 y3 y4 y5 y6
    rcases ha : d e with _ | _
    ·
     have FT : Hid ((es.take (j + 1)).filter (fun e => !d e) = (es.take j).filter (fun e => !d e) ++ [e]) := h_ (by rw [filt_take EE.out]; simp [ha])
     clear ha
     obtain ⟨y0, y1, y2, y3, y4, y5, y6⟩ := ce7 B2.out
     obtain ⟨u, hu⟩ : ∃ u, zs[i]? = some u := ⟨_, List.getElem?_eq_getElem (by rw [ZL.out.1]; omega)⟩
     obtain ⟨z0, z1, z2, z3, z4, z5, z6⟩ := evCells RO.out.reads hu
     rw [Nat.zero_add] at z0 z1 z2 z3 z4 z5 z6
     have F3 : ∀ j, w3.frozen? ⟨g, j, none⟩ = false := fun j => by
      rcases RO.out with ⟨h, _⟩ | ⟨g', full, e, hg, _⟩
      ·
       cases h
      ·
       cases e; exact free_of hg j
     have f0 := F3 (i * 7)
     have f1 := F3 (i * 7 + 1)
     have f2 := F3 (i * 7 + 2)
     have f3 := F3 (i * 7 + 3)
     have f4 := F3 (i * 7 + 4)
     have f5 := F3 (i * 7 + 5)
     have f6 := F3 (i * 7 + 6)
     have RO4 := h_ (RO.out.set7 i _ x hu)
     have RC4 := h_ (RC.out.set7 (g := g) (.inr (NA.out _ rfl)) (i * 7) (.int .i64 x.n) (.int .i64 x.s) (.string x.p) (.int .i64 x.k) (.int .i64 x.m) (.slice x.A x.l x.c) (.slice x.B x.bl x.bc))
     have ZL4 : Hid ((zs.set i x).length = xs.length ∧ (zs.set i x).drop (j + 1) = xs.drop (j + 1)) := h_ ⟨by rw [List.length_set]; exact ZL.out.1, by
      rw [List.drop_set_of_lt (by omega)]
      have := congrArg (List.drop 1) ZL.out.2
      simpa [List.drop_drop] using this⟩
     have RE4 : Hid (EvsR wb ((zs.set i x).take (i + 1)) ((es.take (j + 1)).filter (fun e => !d e))) := h_ (by
      rw [FT.out, take_set_next (by rw [ZL.out.1]; omega)]
      exact RE.out.snoc RX.out)
     clear F3 hu
     go_upto_region 10 with fail
     clear z0 z1 z2 z3 z4 z5 z6 f0 f1 f2 f3 f4 f5 f6 y0 y1 y2 y3 y4 y5 y6
     generalize (((((((w3.setCell ⟨g, i * 7, none⟩ (.int .i64 x.n)).setCell ⟨g, i * 7 + 1, none⟩ (.int .i64 x.s)).setCell ⟨g, i * 7 + 2, none⟩ (.string x.p)).setCell ⟨g, i * 7 + 3, none⟩ (.int .i64 x.k)).setCell ⟨g, i * 7 + 4, none⟩ (.int .i64 x.m)).setCell ⟨g, i * 7 + 5, none⟩ (.slice x.A x.l x.c)).setCell ⟨g, i * 7 + 6, none⟩ (.slice x.B x.bl x.bc)) = w4 at *
     go_wp2; go_round
     case rel => exact ⟨i + 1, j + 1, zs.set i x, by omega, by omega, by go_num, by go_num, ZL4, RE4, RO4, RC4⟩
     case measure => simp [RowKit.intOf]; omega
    ·
     have FT : Hid ((es.take (j + 1)).filter (fun e => !d e) = (es.take j).filter (fun e => !d e)) := h_ (by rw [filt_take EE.out]; simp [ha])
     clear ha
     have ZL4 : Hid (zs.length = xs.length ∧ zs.drop (j + 1) = xs.drop (j + 1)) := h_ ⟨ZL.out.1, by
      have := congrArg (List.drop 1) ZL.out.2
      simpa [List.drop_drop] using this⟩
     rw [← FT.out] at RE
     go_wp2; go_round
     case rel => exact ⟨i, j + 1, zs, by omega, by omega, rfl, by go_num, ZL4, RE, RO, RC⟩
     case measure => simp [RowKit.intOf]; omega
   ·
    obtain rfl : j = xs.length := by omega
    have j1 : ¬ (xs.length : Int) < (xs.length : Int) := by omega
    have ET : es.take xs.length = es := by rw [HX.out.1]; exact List.take_length
    rw [ET] at RE
    clear ET
    obtain ⟨full, hg, hfl, hcm, hzl, hft⟩ : ∃ full, wr.heap[g]? = some (.cells (evTy.flat full).toArray 40 (0, 0)) ∧ full.length = c ∧ c ≤ maxLen ∧ zs.length ≤ c ∧ full.take zs.length = zs := by
     rcases RO.out with ⟨h, _⟩ | ⟨g', full, e, hg, h1, h2, h3, h4⟩
     ·
      cases h
     ·
      cases e; exact ⟨full, hg, h1, h2, h3, h4⟩
    have il : i < xs.length := by omega
    have nc : xs.length ≤ c := by rw [← ZL.out.1]; exact hzl
    have hcl := fun ty => run_clearE wr ty g c xs.length i full hg hfl nc il
    have hown := OwnK.of (R := evTy) (w := wr.setRow g (evTy.flat (full.take i ++ (List.replicate (xs.length - i) evTy.z ++ full.drop xs.length))).toArray) (g := g) (c := c) (full := full.take i ++ (List.replicate (xs.length - i) evTy.z ++ full.drop xs.length)) (xs := zs.take i) (setRow_heap wr g _ _ _ _ hg) (by rw [List.length_take, ZL.out.1]; omega) hcm (by simp; omega) (by
     have e1 : (zs.take i).length = i := by rw [List.length_take, ZL.out.1]; omega
     rw [e1, List.take_append_of_le_length (by rw [List.length_take, hfl]; omega), List.take_take, Nat.min_self, ← hft, List.take_take, Nat.min_eq_left (by rw [ZL.out.1]; omega)])
    have hch : Chg [] w0 (wr.setRow g (evTy.flat (full.take i ++ (List.replicate (xs.length - i) evTy.z ++ full.drop xs.length))).toArray) := RC.out.trans' (S' := [g]) ⟨rfl, rfl, rfl, by simp, fun j hj hn => setRow_other wr g j _ (by simpa using hn)⟩ (fun j hj => by simp at hj; subst hj; exact .inr (NA.out _ rfl))
    have HE := h_ (And.intro hown hch)
    have IL : Hid ((zs.take i).length = i) := h_ (by rw [List.length_take, ZL.out.1]; omega)
    have j7 : (i : Int) ≤ (xs.length : Int) := by omega
    have j8 : (i : Int) ≤ (c : Int) := by omega
    have j9 : i ≤ xs.length := by omega
    have j6 : ¬ c = i := by omega
    clear hown hch hg hfl hcm hzl hft; go_wp2; go_ret
    exact ⟨zs.take i, by rw [IL.out]; rfl, by rw [IL.out]; omega, RE.out, HE.out.1, HE.out.2⟩
end
section
open Go.RowKit Go.Lib

set_option maxRecDepth 100000 in
theorem cloneSpan_any (w : World) (A : Option Addr) (n c : Nat) (xs : List Sp) (h : RdK spanTy w A n xs) (hn : n * 400 ≤ 140737488355327) :
  Calls Tryz.prog 126 #[.slice A n c] w fun e w' => ∃ A' c', e = .returned (.slice A' n c') ∧ OwnK spanTy w' A' c' xs ∧ (∀ a, A' = some a → w.heap.size ≤ a.block) ∧ Chg [] w w' := by
 have heq := fun W => Lib.run_eql_slice_nil (P := Tryz.prog) W 23 81 A n c 0 0 Tryz.underlying23
 cases A with
 | none =>
  have hx := rdk_nil h
  subst hx
  have hl : n = 0 := h.len.symm
  subst hl; clear h
  go_enter Tryz.func126, Tryz.ntmps126
  go_wp2; go_ret
  exact ⟨none, 0, rfl, OwnK.none_ _, by simp, Chg.refl _ _⟩
 | some ad =>
  obtain ⟨w1, hw1, c1, b1⟩ := news1 w (.cells #[] 81)
  have W1 := h_ hw1
  have HA := h_ (h.chg c1 (by simp))
  have HO : Hid (OwnK spanTy w1 (some ⟨w.heap.size, 0, none⟩) 0 []) := h_ (.of (full := []) b1 (Nat.le_refl _) (Nat.zero_le _) rfl rfl)
  have C1 := h_ c1
  have HN : Hid ((0 + n) * 400 ≤ 140737488355327) := h_ (by rw [Nat.zero_add]; exact hn)
  clear hw1 c1 b1 h hn
  go_enter Tryz.func126, Tryz.ntmps126
  go_wp2_with (at_builtin; rw [← W1.out]; refine wpList_appK rfl _ _ rfl rfl HO.out rfl rfl HA.out HN.out ?_; intro A2 c2 w2 u2 d2 e2)
  go_ret
  rw [Nat.zero_add] at *
  have hA2 : ∀ a, A2 = some a → w.heap.size ≤ a.block := by
   rintro a rfl
   rcases e2 with h | h
   ·
    cases h; exact Nat.le_refl _
   ·
    cases h; exact C1.out.size
  exact ⟨A2, c2, rfl, by simpa using u2, hA2, C1.out.grown d2 (fun k hk => by simp at hk; subst hk; exact .inr (Nat.le_refl _))⟩
end
end Go.Proofs.YtehmchdhlhchjaaGreatDoor
