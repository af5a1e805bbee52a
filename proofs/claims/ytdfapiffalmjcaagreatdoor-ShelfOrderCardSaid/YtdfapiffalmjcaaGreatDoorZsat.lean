/- The kit's OverEvents over a list in memory of its own. slices.DeleteFunc over events, at shelf.without's func. shelf.without. slices.Clone of spans. fresh.Effect, fresh.Event. fresh.list of events. shelf.Put. shelf.fold and shelf.Join. The document's parts. The document's cut. -/
import Derived.Test.YtdfapiffalmjcaaGreatDoorZsaj
import Derived.Test.YtdfapiffalmjcaaGreatDoorZsas
import Derived.Test.YtdfapiffalmjcaaGreatDoorZsar
import Derived.Test.YtdfapiffalmjcaaGreatDoorZsab
import Derived.Test.YtdfapiffalmjcaaGreatDoorZsam
import Derived.Test.YtdfapiffalmjcaaGreatDoorZsac
import Derived.Deep.Cut
import Derived.BigQuiet
import Derived.Test.YtdfapiffalmjcaaGreatDoorZsad
import Derived.Test.YtdfapiffalmjcaaGreatDoorZsae
import Derived.Test.YtdfapiffalmjcaaGreatDoorZsaa
import Derived.Deep.QuietTactic
import Derived.Deep.RegionHeld3
namespace Go.Proofs.YtdfapiffalmjcaaGreatDoor
section
open Go.RowKit Go.Lib
set_option linter.unusedSimpArgs false
set_option linter.unusedVariables false

theorem getElem?_of_drop {α : Type} {xs ys : List α} {k i : Nat} (h : xs.drop k = ys.drop k) (hi : k ≤ i) : xs[i]? = ys[i]? := by
  have := congrArg (fun l => l[i - k]?) h
  simpa [List.getElem?_drop, Nat.add_sub_cancel' hi] using this
/-- Those behind the k-th are in memory of their own yet. -/
def RestE (w : World) (k : Nat) (ys : List EvT) (es : List EvP) : Prop := ∀ (i : Nat) (y : EvT) (e : EvP), k ≤ i → ys[i]? = some y → es[i]? = some e → OwnB w y.A y.c e.b ∧ OwnK spanTy w y.B y.bc e.q
theorem RestE.chg {S : List Nat} {w w' : World} {k : Nat} {ys : List EvT} {es : List EvP} (h : RestE w k ys es) (hc : Chg S w w') (hS : ∀ (i : Nat) (y : EvT), k ≤ i → ys[i]? = some y → ∀ a, (y.A = some a ∨ y.B = some a) → a.block ∉ S) : RestE w' k ys es := fun i y e hi hy he =>
  ⟨(h i y e hi hy he).1.chg hc (fun a ha => hS i y hi hy a (.inl ha)), (h i y e hi hy he).2.chg hc (fun a ha => hS i y hi hy a (.inr ha))⟩
theorem RestE.next {w : World} {k k' : Nat} {ys : List EvT} {es : List EvP} (h : RestE w k ys es) (hk : k ≤ k') : RestE w k' ys es := fun i y e hi => h i y e (by omega)
/-- So much is changed. -/
def Within (lo hi : Nat) (w w' : World) : Prop := ∃ S : List Nat, (∀ i ∈ S, lo ≤ i ∧ i < hi) ∧ Chg S w w'
theorem Within.refl (lo hi : Nat) (w : World) : Within lo hi w w := ⟨[], by simp, Chg.refl _ _⟩
theorem Within.more {lo hi : Nat} {w w1 w2 : World} {S : List Nat} (h : Within lo hi w w1) (hS : ∀ i ∈ S, lo ≤ i ∧ i < hi) (hc : Chg S w1 w2) : Within lo hi w w2 := by
  obtain ⟨T, hT, hw⟩ := h
  exact ⟨T ++ S, fun i hi => (List.mem_append.1 hi).elim (fun q => hT i q) (fun q => hS i q), (hw.mono (S' := T ++ S) (fun i hi => .inl (List.mem_append_left _ hi))).trans (hc.mono (S' := T ++ S) (fun i hi => .inl (List.mem_append_right _ hi)))⟩
set_option maxRecDepth 100000 in
set_option maxHeartbeats 8000000 in
theorem overevs_own (w : World) (lo hi : Nat) (A : Option Addr) (c : Nat) (ys : List EvT) (es : List EvP) (h : EsF w lo hi A c ys es) (hn : ys.length ≤ 100000) :
    Calls Tryz.prog 17 #[.slice A ys.length c] w fun r w' => r = .returned (.tuple #[]) ∧ Within lo hi w w' := by
  have HL : Hid (∀ (i : Nat) (y : EvT) (e : EvP), ys[i]? = some y → es[i]? = some e → y.l = e.b.length ∧ y.bl = e.q.length) := Lib.hid (fun i y e hy he => ⟨(h.all.ev.2 i y e hy he).l, (h.all.ev.2 i y e hy he).bl⟩)
  have HE : Hid (ys.length = es.length) := Lib.hid h.all.ev.1
  have R0 : Hid (OwnK evTy w A c ys) := Lib.hid h.row
  have RA := Lib.hid h.rowAt
  have RS0 : Hid (RestE w 0 ys es) := Lib.hid (fun i y e _ hy he => h.all.own i y e hy he)
  have AT := Lib.hid h.all.at_
  have TWO := Lib.hid h.all.two
  have APT := Lib.hid h.all.apart
  have HN := Lib.hid hn
  clear h hn
  go_enter Tryz.func17, Tryz.ntmps17
  go_wp2
  go_loopw [2] (fun v2 wr => ∃ (k : Nat) (zs : List EvT), k ≤ ys.length ∧ v2 = .int .i64 k ∧ Hid (zs.length = ys.length ∧ zs.drop k = ys.drop k) ∧ Hid (OwnK evTy wr A c zs) ∧ Hid (RestE wr k ys es) ∧ Hid (Within lo hi w wr)) (fun v2 _ => ys.length - (RowKit.intOf v2).toNat)
  case atStart => exact ⟨0, ys, Nat.zero_le _, rfl, Lib.hid ⟨rfl, rfl⟩, R0, RS0, Lib.hid (Within.refl _ _ _)⟩
  case round =>
    obtain ⟨k, zs, hk, rfl, ZL, RO, RS, RW⟩ := hrel
    have i0 : (0 : Int) ≤ (k : Int) := by omega
    by_cases hlt : k < ys.length
    · have i1 : (k : Int) < (ys.length : Int) := by omega
      have i3 : IntKind.i64.wrap ((k : Int) + 1) = (k : Int) + 1 := IntWalk.i64_in _ (by have := HN.out; omega)
      obtain ⟨y, hy⟩ : ∃ y, ys[k]? = some y := ⟨_, List.getElem?_eq_getElem hlt⟩
      obtain ⟨e, he⟩ : ∃ e, es[k]? = some e := ⟨_, List.getElem?_eq_getElem (by rw [← HE.out]; exact hlt)⟩
      have hz : zs[k]? = some y := by rw [getElem?_of_drop ZL.out.2 (Nat.le_refl _)]; exact hy
      obtain ⟨q, eq, hg⟩ : ∃ g, A = some ⟨g, 0, none⟩ ∧ g < wr.heap.size := by
        rcases RO.out.shape with ⟨_, q, _⟩ | q
        · rw [q] at hz; simp at hz
        · exact q
      subst eq
      obtain ⟨oa, ob⟩ := RS.out k y e (Nat.le_refl _) hy he
      have OA := Lib.hid oa
      have OB := Lib.hid ob
      have my := List.mem_of_getElem? hy
      have YA : Hid (∀ a, (y.A = some a ∨ y.B = some a) → lo ≤ a.block ∧ a.block < hi ∧ a.block ≠ q) := Lib.hid (fun a ha => ⟨(AT.out y my a ha).1, (AT.out y my a ha).2.1, (AT.out y my a ha).2.2 _ rfl⟩)
      have Y2 := Lib.hid (TWO.out y my)
      have YO : Hid (∀ (i : Nat) (x : EvT), k + 1 ≤ i → ys[i]? = some x → ∀ a b, (y.A = some a ∨ y.B = some a) → (x.A = some b ∨ x.B = some b) → a.block ≠ b.block) := Lib.hid (fun i x hi hx a b p r => by
        obtain ⟨l1, e1⟩ := List.getElem?_eq_some_iff.1 hy
        obtain ⟨l2, e2⟩ := List.getElem?_eq_some_iff.1 hx
        have := List.pairwise_iff_getElem.1 APT.out k i l1 l2 (by omega)
        rw [e1, e2] at this
        exact this a b p r)
      have YX : Hid (∀ (i : Nat) (x : EvT), k + 1 ≤ i → ys[i]? = some x → ∀ a, (x.A = some a ∨ x.B = some a) → a.block ≠ q) := Lib.hid (fun i x hi hx a ha => (AT.out x (List.mem_of_getElem? hx) a ha).2.2 _ rfl)
      have YL := Lib.hid (HL.out k y e hy he)
      have QA := Lib.hid (RA.out _ rfl)
      replace RS := Lib.hid (RS.out.next (Nat.le_succ k))
      have HZ := Lib.hid hz
      obtain ⟨z0, z1, z2, z3, z4, z5, z6⟩ := evCells RO.out.reads hz
      rw [Nat.zero_add] at z0 z1 z2 z3 z4 z5 z6
      clear oa ob my hz hy he
      go_wp2_with fail
      clear z0 z1 z2 z3 z4 z5 z6
      refine (over_own _ y.A y.c y.l e.b OA.out YL.out.1).mono ?_
      rintro r w2 ⟨rfl, h2⟩
      obtain ⟨S2, hS2, h2⟩ := over_only h2
      have B2 := Lib.hid (RO.out.chg h2 (fun a ha p => by cases ha; obtain ⟨b, hb, e⟩ := hS2 _ p; exact (YA.out b (.inl hb)).2.2 e))
      have OB2 := Lib.hid (OB.out.chg h2 (fun b hb p => by obtain ⟨a, ha, e⟩ := hS2 _ p; exact Y2.out a b ha hb e))
      have RS2 := Lib.hid (RS.out.chg h2 (fun i x hi hx b hb p => by obtain ⟨a, ha, e⟩ := hS2 _ p; exact YO.out i x hi hx a b (.inl ha) hb e))
      have W2 := Lib.hid (RW.out.more (fun i hi => by obtain ⟨a, ha, e⟩ := hS2 _ hi; have := YA.out a (.inl ha); omega) h2)
      clear h2 hS2 OA OB RS RW RO
      obtain ⟨z0, z1, z2, z3, z4, z5, z6⟩ := evCells B2.out.reads HZ.out
      rw [Nat.zero_add] at z0 z1 z2 z3 z4 z5 z6
      go_wp2_with fail
      clear z0 z1 z2 z3 z4 z5 z6
      refine (overspan_own w2 y.B y.bl y.bc e.q OB2.out YL.out.2).mono ?_
      rintro r w3 ⟨rfl, h3⟩
      obtain ⟨S3, hS3, h3⟩ := over_only h3
      have B3 := Lib.hid (B2.out.chg h3 (fun a ha p => by cases ha; obtain ⟨b, hb, e⟩ := hS3 _ p; exact (YA.out b (.inr hb)).2.2 e))
      have RS3 := Lib.hid (RS2.out.chg h3 (fun i x hi hx b hb p => by obtain ⟨a, ha, e⟩ := hS3 _ p; exact YO.out i x hi hx a b (.inr ha) hb e))
      have W3 := Lib.hid (W2.out.more (fun i hi => by obtain ⟨a, ha, e⟩ := hS3 _ hi; have := YA.out a (.inr ha); omega) h3)
      clear h3 hS3 OB2 B2 RS2 W2
      obtain ⟨z0, z1, z2, z3, z4, z5, z6⟩ := evCells B3.out.reads HZ.out
      rw [Nat.zero_add] at z0 z1 z2 z3 z4 z5 z6
      have F3 : ∀ j, w3.frozen? ⟨q, j, none⟩ = false := fun j => by
        rcases B3.out with ⟨h, _⟩ | ⟨g', full, e, hg, _⟩
        · cases h
        · cases e; exact free_of hg j
      have f0 := F3 (k * 7)
      have f1 := F3 (k * 7 + 1)
      have f2 := F3 (k * 7 + 2)
      have f3 := F3 (k * 7 + 3)
      have f4 := F3 (k * 7 + 4)
      have f5 := F3 (k * 7 + 5)
      have f6 := F3 (k * 7 + 6)
      clear F3
      have B4 := Lib.hid (B3.out.set7 k _ ⟨0, 0, ⟨#[111, 118, 101, 114]⟩, 0, 0, none, 0, 0, none, 0, 0⟩ HZ.out)
      have C4 := Lib.hid ((Chg.refl [q] w3).set7 (g := q) (.inl (by simp)) (k * 7) (.int .i64 0) (.int .i64 0) (.string ⟨#[111, 118, 101, 114]⟩) (.int .i64 0) (.int .i64 0) (.slice none 0 0) (.slice none 0 0))
      go_wp2
      clear z0 z1 z2 z3 z4 z5 z6 f0 f1 f2 f3 f4 f5 f6
      generalize (((((((w3.setCell ⟨q, k * 7, none⟩ (.int .i64 0)).setCell ⟨q, k * 7 + 1, none⟩ (.int .i64 0)).setCell ⟨q, k * 7 + 2, none⟩ (.string ⟨#[111, 118, 101, 114]⟩)).setCell ⟨q, k * 7 + 3, none⟩ (.int .i64 0)).setCell ⟨q, k * 7 + 4, none⟩ (.int .i64 0)).setCell ⟨q, k * 7 + 5, none⟩ (.slice none 0 0)).setCell ⟨q, k * 7 + 6, none⟩ (.slice none 0 0)) = w4 at *
      have RS4 := Lib.hid (RS3.out.chg C4.out (fun i x hi hx b hb p => by simp at p; exact YX.out i x hi hx b hb p))
      have W4 := Lib.hid (W3.out.more (fun i hi => by simp at hi; subst hi; exact QA.out) C4.out)
      have ZL4 : Hid ((zs.set k ⟨0, 0, ⟨#[111, 118, 101, 114]⟩, 0, 0, none, 0, 0, none, 0, 0⟩).length = ys.length ∧ (zs.set k ⟨0, 0, ⟨#[111, 118, 101, 114]⟩, 0, 0, none, 0, 0, none, 0, 0⟩).drop (k + 1) = ys.drop (k + 1)) := Lib.hid ⟨by rw [List.length_set]; exact ZL.out.1, by
        rw [List.drop_set_of_lt (by omega)]
        have := congrArg (List.drop 1) ZL.out.2
        simpa [List.drop_drop] using this⟩
      go_round
      case rel => exact ⟨k + 1, _, by omega, by go_num, ZL4, B4, RS4, W4⟩
      case measure => simp [RowKit.intOf]; omega
    · obtain rfl : k = ys.length := by omega
      have i1 : ¬ (ys.length : Int) < (ys.length : Int) := by omega
      go_wp2
      first | go_end0 | refine bodyPost_ret (results_none rfl _ _ _) rfl ?_
      exact ⟨rfl, RW.out⟩
end
section
open Go.RowKit Go.Lib
set_option linter.unusedSimpArgs false
set_option linter.unusedVariables false


theorem run_clearE (w : World) (ty : TypeId) (g c n k : Nat) (full : List EvT) (hg : w.heap[g]? = some (.cells (evTy.flat full).toArray 30 (0, 0))) (hl : full.length = c) (hn : n ≤ c) (hk : k < n) :
    (Builtin.clear_ #[22] ty #[.slice (some ⟨g, k * 7, none⟩) (n - k) (c - k)]).run Tryz.prog w = .ok (.tuple #[]) (w.setRow g (evTy.flat (full.take k ++ List.replicate (n - k) evTy.z ++ full.drop n)).toArray) := by
  have hz := evTy.zeros (n - k)
  have hk2 : evTy.k = 7 := rfl
  have hlen : (evTy.flat full).length = full.length * 7 := evTy.flat_len full
  have hlz : (evTy.flat (List.replicate (n - k) evTy.z)).length = (n - k) * 7 := by rw [evTy.flat_len, List.length_replicate, hk2]
  have hst := run_storeCells_at (P := Tryz.prog) g (k * 7) 30 (evTy.flat (List.replicate (n - k) evTy.z)) 0 _ w hg (by rw [hlz, List.size_toArray, hlen]; omega) (evTy.flat_one _)
  have ht := evTy.flat_take full k
  have hd := evTy.flat_drop full n
  rw [hk2] at ht hd
  have hfin : ((evTy.flat full).toArray.toList.take (k * 7 + 0) ++ evTy.flat (List.replicate (n - k) evTy.z) ++ (evTy.flat full).toArray.toList.drop (k * 7 + 0 + (evTy.flat (List.replicate (n - k) evTy.z)).length)) = evTy.flat (full.take k ++ List.replicate (n - k) evTy.z ++ full.drop n) := by
    rw [evTy.flat_app, evTy.flat_app, ht, hd, hlz, show k * 7 + 0 + (n - k) * 7 = n * 7 by omega]
    rfl
  rw [hfin] at hst
  obtain ⟨m, hm⟩ : ∃ m, n - k = m + 1 := ⟨n - k - 1, by omega⟩
  have hzv : ∀ w, (zeroValue 30).run Tryz.prog w = .ok (.agg #[.int .i64 0, .int .i64 0, .string ⟨#[]⟩, .int .i64 0, .int .i64 0, .slice none 0 0, .slice none 0 0]) w := Tryz.zeroValue30
  have hzz : (Builtin.zeroCells (Value.agg #[.int .i64 0, .int .i64 0, .string ⟨#[]⟩, .int .i64 0, .int .i64 0, .slice none 0 0, .slice none 0 0]).cells (n - k)).toList = evTy.flat (List.replicate (n - k) evTy.z) := by
    exact (congrArg Array.toList hz).trans (by simp)
  rw [hm] at hst hzz ⊢
  simp [Builtin.clear_, run_underlying Tryz.underlying22, hzv, hzz, hst]
instance : Inhabited (Int × Int) := ⟨(0, 0)⟩


/-- Those that stay. -/
theorem filt_take {es : List EvP} {q : EvP → Bool} {k : Nat} {e : EvP} (he : es[k]? = some e) : (es.take (k + 1)).filter q = (es.take k).filter q ++ (if q e = true then [e] else []) := by
  rw [List.take_add_one, he, List.filter_append]
  cases h : q e <;> simp [h]
theorem take_set_next {α : Type} {zs : List α} {i : Nat} {x : α} (hi : i < zs.length) : (zs.set i x).take (i + 1) = zs.take i ++ [x] := by
  rw [List.take_add_one, List.getElem?_set, if_pos rfl, if_pos hi, List.take_set, List.set_eq_of_length_le (by rw [List.length_take]; omega)]
  rfl
set_option maxRecDepth 100000 in
set_option maxHeartbeats 16000000 in
theorem shdel_any (wb w0 w : World) (A : Option Addr) (c : Nat) (xs : List EvT) (es : List EvP) (gq : Nat) (T : TypeId) (gp : Nat) (y : EvT) (f : EvP) (hb : Chg [] wb w0) (h0 : Chg [] w0 w) (h : OwnK evTy w A c xs) (hA : ∀ a, A = some a → w0.heap.size ≤ a.block) (hx : EvsR wb xs es) (hn : xs.length ≤ 100000) (hq : w0.heap[gq]? = some (.cells #[.func (.func 24) #[] #[]] T (0, 0))) (hp : w0.heap[gp]? = some (.cells #[.int .i64 y.n, .int .i64 y.s, .string y.p, .int .i64 y.k, .int .i64 y.m, .slice y.A y.l y.c, .slice y.B y.bl y.bc] 30 (0, 0))) (hy : EvR w0 y f) (hs : ∀ e ∈ es, EvSm e) (ht : EvSm f) :
    Calls Tryz.prog 75 #[.slice A xs.length c, .func (.func 76) #[] #[.pointer (some ⟨gq, 0, none⟩), .pointer (some ⟨gp, 0, none⟩)]] w fun r w' => ∃ ys : List EvT, r = .returned (.slice A ys.length c) ∧ ys.length ≤ xs.length ∧ EvsR wb ys (es.filter (fun e => !aheadP e f)) ∧ OwnK evTy w' A c ys ∧ Chg [] w0 w' := by
  have IX := Lib.hid (shindexw_any w A c xs es gq T gp y f h.reads (hx.chg (hb.trans h0)) hn (h0.at_ hq (by simp)) (h0.at_ hp (by simp)) (hy.chg h0) hs ht)
  have W1C := Lib.hid (fun (wr : World) (RC : Chg [] w0 wr) (x : EvT) (e : EvP) (rx : EvR wb x e) (he : e ∈ es) => shwithout1_any wr gq T gp x y e f (RC.at_ hq (by simp)) (RC.at_ hp (by simp)) (rx.chg (hb.trans RC)) (hy.chg RC) (hs e he) ht)
  have O0 := Lib.hid h
  have C0 := Lib.hid h0
  have NA := Lib.hid hA
  have HX := Lib.hid hx
  have HN := Lib.hid hn
  clear h h0 hb hA hx hn hq hp hy hs ht
  go_enter Tryz.func75, Tryz.ntmps75
  go_wp2_with fail
  refine IX.out.mono ?_
  rintro r w1 ⟨⟨v, rfl, hv⟩, hc⟩
  have C1 := Lib.hid (C0.out.trans hc)
  have O1 := Lib.hid (O0.out.chg hc (by simp))
  clear hc O0 C0 IX
  rcases hv with ⟨rfl, no⟩ | ⟨k, e, rfl, ek, pk, nk⟩
  · have ES : Hid (es.filter (fun e => !aheadP e f) = es) := Lib.hid (List.filter_eq_self.2 (fun e he => by have q : aheadP e f = false := no e he; rw [q]; rfl))
    clear no
    go_wp2
    go_ret
    exact ⟨xs, rfl, Nat.le_refl _, by rw [ES.out]; exact HX.out, O1.out, C1.out⟩
  · have kl : k < xs.length := by rw [HX.out.1]; exact (List.getElem?_eq_some_iff.1 ek).1
    have F0 : Hid ((es.take (k + 1)).filter (fun e => !aheadP e f) = es.take k) := Lib.hid (by
      rw [filt_take ek]
      have pk : aheadP e f = true := pk
      simp only [pk, Bool.not_true, Bool.false_eq_true, if_false, List.append_nil]
      exact List.filter_eq_self.2 (fun e he => by have q : aheadP e f = false := nk e he; rw [q]; rfl))
    have E0 : Hid (EvsR wb (xs.take k) (es.take k)) := Lib.hid ⟨by rw [List.length_take, List.length_take, HX.out.1], fun i x d hx hd => by
      rw [List.getElem?_take] at hx hd
      split at hx
      · rename_i q; rw [if_pos q] at hd; exact HX.out.2 i x d hx hd
      · cases hx⟩
    obtain ⟨g, eA, _⟩ : ∃ g, A = some ⟨g, 0, none⟩ ∧ g < w1.heap.size := by
      rcases O1.out.shape with ⟨_, q, _⟩ | q
      · rw [q] at kl; simp at kl
      · exact q
    subst eA
    have CP := Lib.hid O1.out.cap
    have n1 : ¬ ((k : Int) = -1) := by omega
    have n2 : (((k : Int) == -1) : Bool) = false := by first | (simp; done) | (simp; omega)
    have n3 : IntKind.i64.wrap ((k : Int) + 1) = ((k + 1 : Nat) : Int) := by rw [IntWalk.i64_in _ (by have := HN.out; omega)]; omega
    have KL := Lib.hid kl
    clear ek pk nk kl
    go_upto_region 5 with fail
    go_loopw [5, 6] (fun v5 v6 wr => ∃ (i j : Nat) (zs : List EvT), i + 1 ≤ j ∧ j ≤ xs.length ∧ v5 = .int .i64 i ∧ v6 = .int .i64 j ∧ Hid (zs.length = xs.length ∧ zs.drop j = xs.drop j) ∧ Hid (EvsR wb (zs.take i) ((es.take j).filter (fun e => !aheadP e f))) ∧ Hid (OwnK evTy wr (some ⟨g, 0, none⟩) c zs) ∧ Hid (Chg [] w0 wr)) (fun _ v6 _ => xs.length - (RowKit.intOf v6).toNat)
    case atStart => exact ⟨k, k + 1, xs, Nat.le_refl _, KL.out, rfl, rfl, Lib.hid ⟨rfl, rfl⟩, Lib.hid (by rw [F0.out]; exact E0.out), O1, C1⟩
    case round =>
      obtain ⟨i, j, zs, hij, hj, rfl, rfl, ZL, RE, RO, RC⟩ := hrel
      have i0 : (0 : Int) ≤ (i : Int) := by omega
      have j0 : (0 : Int) ≤ (j : Int) := by omega
      by_cases hlt : j < xs.length
      · have j1 : (j : Int) < (xs.length : Int) := by omega
        have i1 : (i : Int) < (xs.length : Int) := by omega
        have j3 : IntKind.i64.wrap ((j : Int) + 1) = (j : Int) + 1 := IntWalk.i64_in _ (by have := HN.out; omega)
        have i3 : IntKind.i64.wrap ((i : Int) + 1) = (i : Int) + 1 := IntWalk.i64_in _ (by have := HN.out; omega)
        obtain ⟨x, e, ex, ee, rx⟩ := HX.out.at_ hlt
        have zx : zs[j]? = some x := by rw [getElem?_of_drop ZL.out.2 (Nat.le_refl _)]; exact ex
        obtain ⟨z0, z1, z2, z3, z4, z5, z6⟩ := evCells RO.out.reads zx
        rw [Nat.zero_add] at z0 z1 z2 z3 z4 z5 z6
        have EE := Lib.hid ee
        have RX := Lib.hid rx
        have EX := Lib.hid ex
        clear ex ee rx zx
        obtain ⟨w2, hw2, c2, b2⟩ := news1 wr (.cells #[.int .i64 x.n, .int .i64 x.s, .string x.p, .int .i64 x.k, .int .i64 x.m, .slice x.A x.l x.c, .slice x.B x.bl x.bc] 30)
        have W2 := Lib.hid hw2
        have B2 := Lib.hid b2
        have SB : Hid (g ≠ wr.heap.size) := Lib.hid (by
          have := RO.out.lt_ _ rfl
          intro q
          rw [q] at this
          exact Nat.lt_irrefl _ this)
        replace RO := Lib.hid (RO.out.chg c2 (by simp))
        replace RC := Lib.hid (RC.out.trans c2)
        clear hw2 c2 b2
        go_upto_region 8 with fail
        rw [← W2.out]
        generalize wr.heap.size = s2 at *
        clear W2 z0 z1 z2 z3 z4 z5 z6
        have y0 := cell_of B2.out 0
        have y1 := cell_of B2.out 1
        have y2 := cell_of B2.out 2
        have y3 := cell_of B2.out 3
        have y4 := cell_of B2.out 4
        have y5 := cell_of B2.out 5
        have y6 := cell_of B2.out 6
        simp only [List.getElem?_toArray, List.getElem?_cons_succ, List.getElem?_cons_zero] at y0 y1 y2 y3 y4 y5 y6
        have CC := Lib.hid (W1C.out w2 RC.out x e RX.out (List.mem_of_getElem? EE.out))
        go_wp2_with fail
        refine CC.out.mono ?_
        rintro r w3 ⟨rfl, hc⟩
        replace RO := Lib.hid (RO.out.chg hc (by simp))
        replace RC := Lib.hid (RC.out.trans hc)
        replace B2 := Lib.hid (hc.at_ B2.out (by simp))
        clear hc CC y0 y1 y2 y3 y4 y5 y6
        rcases ha : aheadP e f with _ | _
        · have FT : Hid ((es.take (j + 1)).filter (fun e => !aheadP e f) = (es.take j).filter (fun e => !aheadP e f) ++ [e]) := Lib.hid (by rw [filt_take EE.out]; simp [ha])
          clear ha
          have y0 := cell_of B2.out 0
          have y1 := cell_of B2.out 1
          have y2 := cell_of B2.out 2
          have y3 := cell_of B2.out 3
          have y4 := cell_of B2.out 4
          have y5 := cell_of B2.out 5
          have y6 := cell_of B2.out 6
          simp only [List.getElem?_toArray, List.getElem?_cons_succ, List.getElem?_cons_zero] at y0 y1 y2 y3 y4 y5 y6
          obtain ⟨u, hu⟩ : ∃ u, zs[i]? = some u := ⟨_, List.getElem?_eq_getElem (by rw [ZL.out.1]; omega)⟩
          obtain ⟨z0, z1, z2, z3, z4, z5, z6⟩ := evCells RO.out.reads hu
          rw [Nat.zero_add] at z0 z1 z2 z3 z4 z5 z6
          have F3 : ∀ j, w3.frozen? ⟨g, j, none⟩ = false := fun j => by
            rcases RO.out with ⟨h, _⟩ | ⟨g', full, e, hg, _⟩
            · cases h
            · cases e; exact free_of hg j
          have f0 := F3 (i * 7)
          have f1 := F3 (i * 7 + 1)
          have f2 := F3 (i * 7 + 2)
          have f3 := F3 (i * 7 + 3)
          have f4 := F3 (i * 7 + 4)
          have f5 := F3 (i * 7 + 5)
          have f6 := F3 (i * 7 + 6)
          have RO4 := Lib.hid (RO.out.set7 i _ x hu)
          have RC4 := Lib.hid (RC.out.set7 (g := g) (.inr (NA.out _ rfl)) (i * 7) (.int .i64 x.n) (.int .i64 x.s) (.string x.p) (.int .i64 x.k) (.int .i64 x.m) (.slice x.A x.l x.c) (.slice x.B x.bl x.bc))
          have ZL4 : Hid ((zs.set i x).length = xs.length ∧ (zs.set i x).drop (j + 1) = xs.drop (j + 1)) := Lib.hid ⟨by rw [List.length_set]; exact ZL.out.1, by
            rw [List.drop_set_of_lt (by omega)]
            have := congrArg (List.drop 1) ZL.out.2
            simpa [List.drop_drop] using this⟩
          have RE4 : Hid (EvsR wb ((zs.set i x).take (i + 1)) ((es.take (j + 1)).filter (fun e => !aheadP e f))) := Lib.hid (by
            rw [FT.out, take_set_next (by rw [ZL.out.1]; omega)]
            exact RE.out.snoc RX.out)
          clear F3 hu
          go_upto_region 10 with fail
          clear z0 z1 z2 z3 z4 z5 z6 f0 f1 f2 f3 f4 f5 f6 y0 y1 y2 y3 y4 y5 y6
          generalize (((((((w3.setCell ⟨g, i * 7, none⟩ (.int .i64 x.n)).setCell ⟨g, i * 7 + 1, none⟩ (.int .i64 x.s)).setCell ⟨g, i * 7 + 2, none⟩ (.string x.p)).setCell ⟨g, i * 7 + 3, none⟩ (.int .i64 x.k)).setCell ⟨g, i * 7 + 4, none⟩ (.int .i64 x.m)).setCell ⟨g, i * 7 + 5, none⟩ (.slice x.A x.l x.c)).setCell ⟨g, i * 7 + 6, none⟩ (.slice x.B x.bl x.bc)) = w4 at *
          go_wp2
          go_round
          case rel => exact ⟨i + 1, j + 1, zs.set i x, by omega, by omega, by go_num, by go_num, ZL4, RE4, RO4, RC4⟩
          case measure => simp [RowKit.intOf]; omega
        · have FT : Hid ((es.take (j + 1)).filter (fun e => !aheadP e f) = (es.take j).filter (fun e => !aheadP e f)) := Lib.hid (by rw [filt_take EE.out]; simp [ha])
          clear ha
          have ZL4 : Hid (zs.length = xs.length ∧ zs.drop (j + 1) = xs.drop (j + 1)) := Lib.hid ⟨ZL.out.1, by
            have := congrArg (List.drop 1) ZL.out.2
            simpa [List.drop_drop] using this⟩
          rw [← FT.out] at RE
          go_wp2
          go_round
          case rel => exact ⟨i, j + 1, zs, by omega, by omega, rfl, by go_num, ZL4, RE, RO, RC⟩
          case measure => simp [RowKit.intOf]; omega
      · obtain rfl : j = xs.length := by omega
        have j1 : ¬ (xs.length : Int) < (xs.length : Int) := by omega
        have ET : es.take xs.length = es := by rw [HX.out.1]; exact List.take_length
        rw [ET] at RE
        clear ET
        obtain ⟨full, hg, hfl, hcm, hzl, hft⟩ : ∃ full, wr.heap[g]? = some (.cells (evTy.flat full).toArray 30 (0, 0)) ∧ full.length = c ∧ c ≤ maxLen ∧ zs.length ≤ c ∧ full.take zs.length = zs := by
          rcases RO.out with ⟨h, _⟩ | ⟨g', full, e, hg, h1, h2, h3, h4⟩
          · cases h
          · cases e; exact ⟨full, hg, h1, h2, h3, h4⟩
        have il : i < xs.length := by omega
        have nc : xs.length ≤ c := by rw [← ZL.out.1]; exact hzl
        have hcl := fun ty => run_clearE wr ty g c xs.length i full hg hfl nc il
        have hown := OwnK.of (R := evTy) (w := wr.setRow g (evTy.flat (full.take i ++ (List.replicate (xs.length - i) evTy.z ++ full.drop xs.length))).toArray) (g := g) (c := c) (full := full.take i ++ (List.replicate (xs.length - i) evTy.z ++ full.drop xs.length)) (xs := zs.take i) (setRow_heap wr g _ _ _ _ hg) (by rw [List.length_take, ZL.out.1]; omega) hcm (by simp; omega) (by
          have e1 : (zs.take i).length = i := by rw [List.length_take, ZL.out.1]; omega
          rw [e1, List.take_append_of_le_length (by rw [List.length_take, hfl]; omega), List.take_take, Nat.min_self, ← hft, List.take_take, Nat.min_eq_left (by rw [ZL.out.1]; omega)])
        have hch : Chg [] w0 (wr.setRow g (evTy.flat (full.take i ++ (List.replicate (xs.length - i) evTy.z ++ full.drop xs.length))).toArray) := RC.out.trans' (S' := [g]) ⟨rfl, rfl, rfl, by simp, fun j hj hn => setRow_other wr g j _ (by simpa using hn)⟩ (fun j hj => by simp at hj; subst hj; exact .inr (NA.out _ rfl))
        have HE := Lib.hid (And.intro hown hch)
        have IL : Hid ((zs.take i).length = i) := Lib.hid (by rw [List.length_take, ZL.out.1]; omega)
        have j7 : (i : Int) ≤ (xs.length : Int) := by omega
        have j8 : (i : Int) ≤ (c : Int) := by omega
        have j9 : i ≤ xs.length := by omega
        have j6 : ¬ c = i := by omega
        clear hown hch hg hfl hcm hzl hft
        go_wp2
        go_ret
        exact ⟨zs.take i, by rw [IL.out]; rfl, by rw [IL.out]; omega, RE.out, HE.out.1, HE.out.2⟩
end
section
open Go.RowKit Go.Lib
set_option linter.unusedSimpArgs false
set_option linter.unusedVariables false


set_option maxRecDepth 100000 in
set_option maxHeartbeats 4000000 in
/-- Those of a shelf that stay when an event comes, in a row of their own. -/
theorem shwithout_any (w : World) (A : Option Addr) (c : Nat) (xs : List EvT) (es : List EvP) (y : EvT) (f : EvP) (h : RdK evTy w A xs.length xs) (hx : EvsR w xs es) (hn : xs.length ≤ 100000) (hy : EvR w y f) (hs : ∀ e ∈ es, EvSm e) (ht : EvSm f) :
    Calls Tryz.prog 39 #[.slice A xs.length c, .agg #[.int .i64 y.n, .int .i64 y.s, .string y.p, .int .i64 y.k, .int .i64 y.m, .slice y.A y.l y.c, .slice y.B y.bl y.bc], .func (.func 24) #[] #[]] w fun r w' => ∃ (A' : Option Addr) (c' : Nat) (ys : List EvT), r = .returned (.slice A' ys.length c') ∧ ys.length ≤ xs.length ∧ EvsR w ys (es.filter (fun e => !aheadP e f)) ∧ OwnK evTy w' A' c' ys ∧ (∀ a, A' = some a → w.heap.size ≤ a.block) ∧ Chg [] w w' := by
  obtain ⟨w2, hw2, c2, b0, b1⟩ := news2 w (.cells #[.int .i64 y.n, .int .i64 y.s, .string y.p, .int .i64 y.k, .int .i64 y.m, .slice y.A y.l y.c, .slice y.B y.bl y.bc] 30) (.cells #[.func (.func 24) #[] #[]] 42)
  have W2 := Lib.hid hw2
  have C2 := Lib.hid c2
  have HC := Lib.hid (cloneEv_any w2 A xs.length c xs (h.chg c2 (by simp)) (by omega))
  have DEL := Lib.hid (fun (w3 : World) (A3 : Option Addr) (c3 : Nat) (h0 : Chg [] w2 w3) (ho : OwnK evTy w3 A3 c3 xs) (hA : ∀ a, A3 = some a → w2.heap.size ≤ a.block) => shdel_any w w2 w3 A3 c3 xs es (w.heap.size + 1) _ w.heap.size y f c2 h0 ho hA hx hn b1 b0 (hy.chg c2) hs ht)
  have HX := Lib.hid hx
  have SZ := Lib.hid c2.size
  clear hw2 c2 b0 b1 h hx hn hy hs ht
  go_enter Tryz.func39, Tryz.ntmps39
  go_upto_region 1 with fail
  rw [← W2.out]
  obtain ⟨g0, hg0⟩ : ∃ g, w.heap.size = g := ⟨_, rfl⟩
  clear W2
  go_wp2_with fail
  refine HC.out.mono ?_
  rintro r w3 ⟨A3, c3, rfl, ho, hA, hc⟩
  have D := Lib.hid (DEL.out w3 A3 c3 hc ho hA)
  have NA := Lib.hid hA
  clear ho hA hc HC DEL hg0
  go_wp2_with fail
  refine D.out.mono ?_
  rintro r w4 ⟨ys, rfl, hl, he, ho, hc⟩
  have P := Lib.hid (And.intro hl (And.intro he (And.intro ho hc)))
  clear D hl he ho hc
  go_wp2
  go_ret
  exact ⟨A3, c3, ys, rfl, P.out.1, P.out.2.1, P.out.2.2.1, fun a ha => Nat.le_trans SZ.out (NA.out a ha), C2.out.trans P.out.2.2.2⟩
end
section
open Go.RowKit Go.Lib
set_option linter.unusedSimpArgs false
set_option linter.unusedVariables false

set_option maxRecDepth 100000 in
set_option maxHeartbeats 1000000 in
theorem cloneSpan_any (w : World) (A : Option Addr) (n c : Nat) (xs : List Sp) (h : RdK spanTy w A n xs) (hn : n * 400 ≤ 140737488355327) :
    Calls Tryz.prog 108 #[.slice A n c] w fun e w' => ∃ A' c', e = .returned (.slice A' n c') ∧ OwnK spanTy w' A' c' xs ∧ (∀ a, A' = some a → w.heap.size ≤ a.block) ∧ Chg [] w w' := by
  have heq := fun W => Lib.run_eql_slice_nil (P := Tryz.prog) W 28 77 A n c 0 0 Tryz.underlying28
  cases A with
  | none =>
    have hx := rdk_nil h
    subst hx
    have hl : n = 0 := h.len.symm
    subst hl
    clear h
    go_enter Tryz.func108, Tryz.ntmps108
    go_wp2
    go_ret
    exact ⟨none, 0, rfl, OwnK.none_ _, by simp, Chg.refl _ _⟩
  | some ad =>
    obtain ⟨w1, hw1, c1, b1⟩ := news1 w (.cells #[] 77)
    have W1 := Lib.hid hw1
    have HA := Lib.hid (h.chg c1 (by simp))
    have HO : Hid (OwnK spanTy w1 (some ⟨w.heap.size, 0, none⟩) 0 []) := Lib.hid (.of (full := []) b1 (Nat.le_refl _) (Nat.zero_le _) rfl rfl)
    have C1 := Lib.hid c1
    have HN : Hid ((0 + n) * 400 ≤ 140737488355327) := Lib.hid (by rw [Nat.zero_add]; exact hn)
    clear hw1 c1 b1 h hn
    go_enter Tryz.func108, Tryz.ntmps108
    go_wp2_with (at_builtin; rw [← W1.out]; refine wpList_appK rfl _ _ rfl rfl HO.out rfl rfl HA.out HN.out ?_; intro A2 c2 w2 u2 d2 e2)
    go_ret
    rw [Nat.zero_add] at *
    have hA2 : ∀ a, A2 = some a → w.heap.size ≤ a.block := by
      rintro a rfl
      rcases e2 with h | h
      · cases h; exact Nat.le_refl _
      · cases h; exact C1.out.size
    exact ⟨A2, c2, rfl, by simpa using u2, hA2, C1.out.grown d2 (fun k hk => by simp at hk; subst hk; exact .inr (Nat.le_refl _))⟩
end
section
open Go.RowKit Go.Lib
set_option linter.unusedSimpArgs false
set_option linter.unusedVariables false


set_option maxRecDepth 100000 in
set_option maxHeartbeats 4000000 in
theorem freff_any (w : World) (k m : Int) (A : Option Addr) (n c : Nat) (ys : List UInt8) (h : Bs w A n ys) (hn : n ≤ 140737488351232) :
    Calls Tryz.prog 87 #[.agg #[.int .i64 k, .int .i64 m, .slice A n c]] w fun r w' => ∃ A' c', r = .returned (.agg #[.int .i64 k, .int .i64 m, .slice A' n c']) ∧ Fresh w w' A' c' ys := by
  obtain ⟨w2, hw, hc, b0, b1⟩ := news2 w (.cells #[.int .i64 k, .int .i64 m, .slice A n c] 27) (.cells #[.int .i64 0, .int .i64 0, .slice none 0 0] 27)
  have W2 := Lib.hid hw
  have H := Lib.hid (h.chg hc (by simp))
  have C := Lib.hid hc
  have HN := Lib.hid hn
  obtain ⟨g0, hg0⟩ : ∃ g, w.heap.size = g := ⟨_, rfl⟩
  obtain ⟨g1, hg1⟩ : ∃ g, w.heap.size + 1 = g := ⟨_, rfl⟩
  have SZ := Lib.hid hg0
  have S1 := Lib.hid hg1
  rw [hg0] at b0
  rw [hg1] at b1
  have B0 := Lib.hid b0
  have B1 := Lib.hid b1
  have NEg0 : Hid (g0 ≠ g1) := Lib.hid (by omega)
  have NEg1 : Hid (g1 ≠ g0) := Lib.hid (by omega)
  have LZg0 : Hid (g0 ≤ g0) := Lib.hid (Nat.le_refl _)
  have LZg1 : Hid (g0 ≤ g1) := Lib.hid (by omega)
  have L0 := Lib.hid (lt_of_heap b0)
  have L1 := Lib.hid (lt_of_heap b1)
  clear hw hc b0 b1 h hn hg0 hg1
  go_enter Tryz.func87, Tryz.ntmps87
  go_upto_region 1 with fail
  rw [← W2.out, S1.out, SZ.out]
  have z0 := cell_of B0.out 0
  have fz0 := free_of B0.out 0
  have z1 := cell_of B0.out 1
  have fz1 := free_of B0.out 1
  have z2 := cell_of B0.out 2
  have fz2 := free_of B0.out 2
  simp only [List.getElem?_toArray, List.getElem?_cons_succ, List.getElem?_cons_zero] at z0 z1 z2
  go_wp2_with fail
  refine (clone_any w2 A n c ys H.out HN.out).mono ?_
  rintro r w3 ⟨A3, c3, rfl, h3⟩
  clear z0 z1 z2 fz0 fz1 fz2
  replace B0 := Lib.hid (h3.2.2.at_ B0.out (by simp))
  replace B1 := Lib.hid (h3.2.2.at_ B1.out (by simp))
  have O3 := Lib.hid h3.1
  have N3 := Lib.hid h3.2.1
  have S2 := Lib.hid C.out.size
  replace C := Lib.hid (C.out.trans h3.2.2)
  have LT3 : Hid (∀ a, A3 = some a → a.block ≠ g0 ∧ a.block ≠ g1) := Lib.hid (fun a ha => by
    have q := N3.out a ha
    have r0 := L0.out
    have r1 := L1.out
    omega)
  clear h3
  have z0 := cell_of B0.out 0
  have fz0 := free_of B0.out 0
  have z1 := cell_of B0.out 1
  have fz1 := free_of B0.out 1
  have z2 := cell_of B0.out 2
  have fz2 := free_of B0.out 2
  simp only [List.getElem?_toArray, List.getElem?_cons_succ, List.getElem?_cons_zero] at z0 z1 z2
  go_upto_region 2 with fail
  clear z0 z1 z2 fz0 fz1 fz2
  obtain ⟨p0, p1, p2⟩ := set3_2 (.slice A3 n c3) B0.out B1.out NEg0.out LZg0.out C.out SZ.out
  generalize hW : (w3.setCell ⟨g0, 2, none⟩ (.slice A3 n c3)) = w4 at *
  replace B0 := Lib.hid p0
  replace B1 := Lib.hid p1
  have O4 := Lib.hid (O3.out.chg (S := [g0]) (hW ▸ (Chg.refl [g0] w3).put' 2 _) (fun a ha => by simp; exact (LT3.out a ha).1))
  replace C := Lib.hid p2
  clear p0 p1 p2 hW O3
  have z0 := cell_of B0.out 0
  have fz0 := free_of B0.out 0
  have z1 := cell_of B0.out 1
  have fz1 := free_of B0.out 1
  have z2 := cell_of B0.out 2
  have fz2 := free_of B0.out 2
  simp only [List.getElem?_toArray, List.getElem?_cons_succ, List.getElem?_cons_zero] at z0 z1 z2
  have y0 := cell_of B1.out 0
  have fy0 := free_of B1.out 0
  have y1 := cell_of B1.out 1
  have fy1 := free_of B1.out 1
  have y2 := cell_of B1.out 2
  have fy2 := free_of B1.out 2
  simp only [List.getElem?_toArray, List.getElem?_cons_succ, List.getElem?_cons_zero] at y0 y1 y2
  go_wp2
  clear z0 z1 z2 fz0 fz1 fz2
  clear y0 y1 y2 fy0 fy1 fy2
  obtain ⟨p0, p1, p2⟩ := set3_all (.int .i64 k) (.int .i64 m) (.slice A3 n c3) B1.out B0.out NEg1.out LZg1.out C.out SZ.out
  generalize hW : (((w4.setCell ⟨g1, 0, none⟩ (.int .i64 k)).setCell ⟨g1, 1, none⟩ (.int .i64 m)).setCell ⟨g1, 2, none⟩ (.slice A3 n c3)) = w5 at *
  have O5 := Lib.hid (O4.out.chg (S := [g1]) (hW ▸ (((Chg.refl [g1] w4).put' 0 _).put' 1 _).put' 2 _) (fun a ha => by simp; exact (LT3.out a ha).2))
  replace B1 := Lib.hid p0
  replace C := Lib.hid p2
  clear p0 p1 p2 hW O4
  have y0 := cell_of B1.out 0
  have y1 := cell_of B1.out 1
  have y2 := cell_of B1.out 2
  simp only [List.getElem?_toArray, List.getElem?_cons_succ, List.getElem?_cons_zero] at y0 y1 y2
  refine bodyPost_ret (v := .agg #[.int .i64 k, .int .i64 m, .slice A3 n c3]) (by simp [results, Tryz.results87, go_sem, y0, y1, y2]) rfl ?_
  exact ⟨A3, c3, rfl, O5.out, fun a ha => Nat.le_trans S2.out (N3.out a ha), C.out⟩

set_option maxRecDepth 100000 in
set_option maxHeartbeats 8000000 in
/-- A copy of an event, in memory of its own. -/
theorem frev_any (w : World) (x : EvT) (e : EvP) (h : EvR w x e) (hs : e.b.length ≤ 140737488351232 ∧ e.q.length ≤ 100000) :
    Calls Tryz.prog 74 #[.agg #[.int .i64 x.n, .int .i64 x.s, .string x.p, .int .i64 x.k, .int .i64 x.m, .slice x.A x.l x.c, .slice x.B x.bl x.bc]] w fun r w' => ∃ A' c' B' d', r = .returned (.agg #[.int .i64 x.n, .int .i64 x.s, .string x.p, .int .i64 x.k, .int .i64 x.m, .slice A' x.l c', .slice B' x.bl d']) ∧ EvR w' ⟨x.n, x.s, x.p, x.k, x.m, A', x.l, c', B', x.bl, d'⟩ e ∧ OwnB w' A' c' e.b ∧ OwnK spanTy w' B' d' e.q ∧ (∀ a, A' = some a → w.heap.size ≤ a.block) ∧ (∀ a, B' = some a → w.heap.size ≤ a.block) ∧ (∀ a b, A' = some a → B' = some b → a.block ≠ b.block) ∧ Chg [] w w' := by
  obtain ⟨w2, hw, hc, b0, b1⟩ := news2 w (.cells #[.int .i64 x.n, .int .i64 x.s, .string x.p, .int .i64 x.k, .int .i64 x.m, .slice x.A x.l x.c, .slice x.B x.bl x.bc] 30) (.cells #[.int .i64 0, .int .i64 0, .string ⟨#[]⟩, .int .i64 0, .int .i64 0, .slice none 0 0, .slice none 0 0] 30)
  have W2 := Lib.hid hw
  have HR := Lib.hid (h.chg hc)
  have HR0 := Lib.hid h
  have C := Lib.hid hc
  have HS := Lib.hid hs
  obtain ⟨g0, hg0⟩ : ∃ g, w.heap.size = g := ⟨_, rfl⟩
  obtain ⟨g1, hg1⟩ : ∃ g, w.heap.size + 1 = g := ⟨_, rfl⟩
  have SZ := Lib.hid hg0
  have S1 := Lib.hid hg1
  rw [hg0] at b0
  rw [hg1] at b1
  have B0 := Lib.hid b0
  have B1 := Lib.hid b1
  have L0 := Lib.hid (lt_of_heap b0)
  have L1 := Lib.hid (lt_of_heap b1)
  have NEg0 : Hid (g0 ≠ g1) := Lib.hid (by omega)
  have NEg1 : Hid (g1 ≠ g0) := Lib.hid (by omega)
  have LZg0 : Hid (g0 ≤ g0) := Lib.hid (Nat.le_refl _)
  have LZg1 : Hid (g0 ≤ g1) := Lib.hid (by omega)
  clear hw hc b0 b1 h hs hg0 hg1
  go_enter Tryz.func74, Tryz.ntmps74
  go_upto_region 1 with fail
  rw [← W2.out, S1.out, SZ.out]
  have z0 := cell_of B0.out 0
  have fz0 := free_of B0.out 0
  have z1 := cell_of B0.out 1
  have fz1 := free_of B0.out 1
  have z2 := cell_of B0.out 2
  have fz2 := free_of B0.out 2
  have z3 := cell_of B0.out 3
  have fz3 := free_of B0.out 3
  have z4 := cell_of B0.out 4
  have fz4 := free_of B0.out 4
  have z5 := cell_of B0.out 5
  have fz5 := free_of B0.out 5
  have z6 := cell_of B0.out 6
  have fz6 := free_of B0.out 6
  simp only [List.getElem?_toArray, List.getElem?_cons_succ, List.getElem?_cons_zero] at z0 z1 z2 z3 z4 z5 z6
  go_wp2_with fail
  refine (freff_any w2 x.k x.m x.A x.l x.c e.b HR.out.A (by rw [HR.out.l]; exact HS.out.1)).mono ?_
  rintro r w3 ⟨A3, c3, rfl, h3⟩
  clear z0 z1 z2 z3 z4 z5 z6 fz0 fz1 fz2 fz3 fz4 fz5 fz6
  replace B0 := Lib.hid (h3.2.2.at_ B0.out (by simp))
  replace B1 := Lib.hid (h3.2.2.at_ B1.out (by simp))
  have O3 := Lib.hid h3.1
  have N3 := Lib.hid h3.2.1
  have S2 := Lib.hid C.out.size
  have LB : Hid (w2.heap.size ≤ w3.heap.size) := Lib.hid h3.2.2.size
  replace C := Lib.hid (C.out.trans h3.2.2)
  have LT3 : Hid (∀ a, A3 = some a → a.block ≠ g0 ∧ a.block ≠ g1) := Lib.hid (fun a ha => by
    have q := N3.out a ha
    have r0 := L0.out
    have r1 := L1.out
    omega)
  have LX3 : Hid (∀ a, A3 = some a → a.block < w3.heap.size) := Lib.hid (fun a ha => by
    obtain ⟨g, hg⟩ : ∃ g, a.block = g := ⟨_, rfl⟩
    rcases O3.out with ⟨q, _⟩ | ⟨g, full, q, hh, _⟩
    · rw [q] at ha; cases ha
    · rw [q] at ha; cases ha; exact lt_of_heap hh)
  clear h3
  have z0 := cell_of B0.out 0
  have fz0 := free_of B0.out 0
  have z1 := cell_of B0.out 1
  have fz1 := free_of B0.out 1
  have z2 := cell_of B0.out 2
  have fz2 := free_of B0.out 2
  have z3 := cell_of B0.out 3
  have fz3 := free_of B0.out 3
  have z4 := cell_of B0.out 4
  have fz4 := free_of B0.out 4
  have z5 := cell_of B0.out 5
  have fz5 := free_of B0.out 5
  have z6 := cell_of B0.out 6
  have fz6 := free_of B0.out 6
  simp only [List.getElem?_toArray, List.getElem?_cons_succ, List.getElem?_cons_zero] at z0 z1 z2 z3 z4 z5 z6
  go_upto_region 2 with fail
  clear z0 z1 z2 z3 z4 z5 z6 fz0 fz1 fz2 fz3 fz4 fz5 fz6
  obtain ⟨p0, p1, p2⟩ := set7_3 (.int .i64 x.k) (.int .i64 x.m) (.slice A3 x.l c3) B0.out B1.out NEg0.out LZg0.out C.out SZ.out
  generalize hW : (((w3.setCell ⟨g0, 3, none⟩ (.int .i64 x.k)).setCell ⟨g0, 4, none⟩ (.int .i64 x.m)).setCell ⟨g0, 5, none⟩ (.slice A3 x.l c3)) = w4 at *
  have O4 := Lib.hid (O3.out.chg (S := [g0]) (hW ▸ (((Chg.refl [g0] w3).put' 3 _).put' 4 _).put' 5 _) (fun a ha => by simp; exact (LT3.out a ha).1))
  replace B0 := Lib.hid p0
  replace B1 := Lib.hid p1
  have LW : Hid (w3.heap.size ≤ w4.heap.size) := Lib.hid (by rw [← hW]; simp [World.setCell])
  replace C := Lib.hid p2
  have RBp := Lib.hid (HR0.out.B.chg C.out (by simp))
  clear p0 p1 p2 hW O3
  have z0 := cell_of B0.out 0
  have fz0 := free_of B0.out 0
  have z1 := cell_of B0.out 1
  have fz1 := free_of B0.out 1
  have z2 := cell_of B0.out 2
  have fz2 := free_of B0.out 2
  have z3 := cell_of B0.out 3
  have fz3 := free_of B0.out 3
  have z4 := cell_of B0.out 4
  have fz4 := free_of B0.out 4
  have z5 := cell_of B0.out 5
  have fz5 := free_of B0.out 5
  have z6 := cell_of B0.out 6
  have fz6 := free_of B0.out 6
  simp only [List.getElem?_toArray, List.getElem?_cons_succ, List.getElem?_cons_zero] at z0 z1 z2 z3 z4 z5 z6
  go_wp2_with fail
  refine (cloneSpan_any w4 x.B x.bl x.bc e.q RBp.out (by have := HS.out.2; rw [HR.out.bl]; omega)).mono ?_
  rintro r w5 ⟨A5, c5, rfl, h5, hN5, hc5⟩
  clear z0 z1 z2 z3 z4 z5 z6 fz0 fz1 fz2 fz3 fz4 fz5 fz6
  replace B0 := Lib.hid (hc5.at_ B0.out (by simp))
  replace B1 := Lib.hid (hc5.at_ B1.out (by simp))
  replace O4 := Lib.hid (O4.out.chg hc5 (by simp))
  have P5 := Lib.hid h5
  have N5 : Hid (∀ a, A5 = some a → w3.heap.size ≤ a.block) := Lib.hid (fun a ha => Nat.le_trans LW.out (hN5 a ha))
  replace C := Lib.hid (C.out.trans hc5)
  have LT5 : Hid (∀ a, A5 = some a → a.block ≠ g0 ∧ a.block ≠ g1) := Lib.hid (fun a ha => by
    have q := N5.out a ha
    have r0 := L0.out
    have r1 := L1.out
    have r2 := LB.out
    omega)
  clear h5 hN5 hc5 RBp
  have z0 := cell_of B0.out 0
  have fz0 := free_of B0.out 0
  have z1 := cell_of B0.out 1
  have fz1 := free_of B0.out 1
  have z2 := cell_of B0.out 2
  have fz2 := free_of B0.out 2
  have z3 := cell_of B0.out 3
  have fz3 := free_of B0.out 3
  have z4 := cell_of B0.out 4
  have fz4 := free_of B0.out 4
  have z5 := cell_of B0.out 5
  have fz5 := free_of B0.out 5
  have z6 := cell_of B0.out 6
  have fz6 := free_of B0.out 6
  simp only [List.getElem?_toArray, List.getElem?_cons_succ, List.getElem?_cons_zero] at z0 z1 z2 z3 z4 z5 z6
  go_upto_region 3 with fail
  clear z0 z1 z2 z3 z4 z5 z6 fz0 fz1 fz2 fz3 fz4 fz5 fz6
  obtain ⟨p0, p1, p2⟩ := set7_1 (.slice A5 x.bl c5) B0.out B1.out NEg0.out LZg0.out C.out SZ.out
  generalize hW : (w5.setCell ⟨g0, 6, none⟩ (.slice A5 x.bl c5)) = w6 at *
  have O6 := Lib.hid (O4.out.chg (S := [g0]) (hW ▸ (Chg.refl [g0] w5).put' 6 _) (fun a ha => by simp; exact (LT3.out a ha).1))
  have P6 := Lib.hid (P5.out.chg (S := [g0]) (hW ▸ (Chg.refl [g0] w5).put' 6 _) (fun a ha => by simp; exact (LT5.out a ha).1))
  replace B0 := Lib.hid p0
  replace B1 := Lib.hid p1
  replace C := Lib.hid p2
  clear p0 p1 p2 hW O4 P5
  have z0 := cell_of B0.out 0
  have fz0 := free_of B0.out 0
  have z1 := cell_of B0.out 1
  have fz1 := free_of B0.out 1
  have z2 := cell_of B0.out 2
  have fz2 := free_of B0.out 2
  have z3 := cell_of B0.out 3
  have fz3 := free_of B0.out 3
  have z4 := cell_of B0.out 4
  have fz4 := free_of B0.out 4
  have z5 := cell_of B0.out 5
  have fz5 := free_of B0.out 5
  have z6 := cell_of B0.out 6
  have fz6 := free_of B0.out 6
  simp only [List.getElem?_toArray, List.getElem?_cons_succ, List.getElem?_cons_zero] at z0 z1 z2 z3 z4 z5 z6
  have y0 := cell_of B1.out 0
  have fy0 := free_of B1.out 0
  have y1 := cell_of B1.out 1
  have fy1 := free_of B1.out 1
  have y2 := cell_of B1.out 2
  have fy2 := free_of B1.out 2
  have y3 := cell_of B1.out 3
  have fy3 := free_of B1.out 3
  have y4 := cell_of B1.out 4
  have fy4 := free_of B1.out 4
  have y5 := cell_of B1.out 5
  have fy5 := free_of B1.out 5
  have y6 := cell_of B1.out 6
  have fy6 := free_of B1.out 6
  simp only [List.getElem?_toArray, List.getElem?_cons_succ, List.getElem?_cons_zero] at y0 y1 y2 y3 y4 y5 y6
  go_wp2
  clear z0 z1 z2 z3 z4 z5 z6 fz0 fz1 fz2 fz3 fz4 fz5 fz6
  clear y0 y1 y2 y3 y4 y5 y6 fy0 fy1 fy2 fy3 fy4 fy5 fy6
  obtain ⟨p0, p1, p2⟩ := set7_all (.int .i64 x.n) (.int .i64 x.s) (.string x.p) (.int .i64 x.k) (.int .i64 x.m) (.slice A3 x.l c3) (.slice A5 x.bl c5) B1.out B0.out NEg1.out LZg1.out C.out SZ.out
  generalize hW : (((((((w6.setCell ⟨g1, 0, none⟩ (.int .i64 x.n)).setCell ⟨g1, 1, none⟩ (.int .i64 x.s)).setCell ⟨g1, 2, none⟩ (.string x.p)).setCell ⟨g1, 3, none⟩ (.int .i64 x.k)).setCell ⟨g1, 4, none⟩ (.int .i64 x.m)).setCell ⟨g1, 5, none⟩ (.slice A3 x.l c3)).setCell ⟨g1, 6, none⟩ (.slice A5 x.bl c5)) = w7 at *
  have O7 := Lib.hid (O6.out.chg (S := [g1]) (hW ▸ (((((((Chg.refl [g1] w6).put' 0 _).put' 1 _).put' 2 _).put' 3 _).put' 4 _).put' 5 _).put' 6 _) (fun a ha => by simp; exact (LT3.out a ha).2))
  have P7 := Lib.hid (P6.out.chg (S := [g1]) (hW ▸ (((((((Chg.refl [g1] w6).put' 0 _).put' 1 _).put' 2 _).put' 3 _).put' 4 _).put' 5 _).put' 6 _) (fun a ha => by simp; exact (LT5.out a ha).2))
  replace B1 := Lib.hid p0
  replace C := Lib.hid p2
  clear p0 p1 p2 hW O6 P6
  have y0 := cell_of B1.out 0
  have y1 := cell_of B1.out 1
  have y2 := cell_of B1.out 2
  have y3 := cell_of B1.out 3
  have y4 := cell_of B1.out 4
  have y5 := cell_of B1.out 5
  have y6 := cell_of B1.out 6
  simp only [List.getElem?_toArray, List.getElem?_cons_succ, List.getElem?_cons_zero] at y0 y1 y2 y3 y4 y5 y6
  refine bodyPost_ret (v := .agg #[.int .i64 x.n, .int .i64 x.s, .string x.p, .int .i64 x.k, .int .i64 x.m, .slice A3 x.l c3, .slice A5 x.bl c5]) (by simp [results, Tryz.results74, go_sem, y0, y1, y2, y3, y4, y5, y6]) rfl ?_
  refine ⟨A3, c3, A5, c5, rfl, ⟨HR.out.n, HR.out.s, HR.out.p, HR.out.k, HR.out.m, HR.out.l, HR.out.bl, ?_, ?_⟩, O7.out, P7.out, fun a ha => Nat.le_trans S2.out (N3.out a ha), fun a ha => Nat.le_trans S2.out (Nat.le_trans LB.out (N5.out a ha)), fun a b ha hb => by have := LX3.out a ha; have := N5.out b hb; omega, C.out⟩
  · have := O7.out.reads
    rw [← HR.out.l] at this
    exact this
  · have := P7.out.reads
    rw [← HR.out.bl] at this
    exact this
end
section
open Go.RowKit Go.Lib
set_option linter.unusedSimpArgs false
set_option linter.unusedVariables false

set_option maxRecDepth 100000 in
set_option maxHeartbeats 8000000 in
theorem frlist_any (w : World) (A : Option Addr) (c : Nat) (xs : List EvT) (es : List EvP) (h : RdK evTy w A xs.length xs) (hx : EvsR w xs es) (hn : xs.length ≤ 100000) (hq : ∀ e ∈ es, e.b.length ≤ 140737488351232 ∧ e.q.length ≤ 100000) :
    Calls Tryz.prog 73 #[.slice A xs.length c, .func (.func 74) #[] #[]] w fun r w' => ∃ (A' : Option Addr) (c' : Nat) (ys : List EvT), r = .returned (.slice A' ys.length c') ∧ ys.length = xs.length ∧ EsF w' w.heap.size w'.heap.size A' c' ys es ∧ Chg [] w w' := by
  have HA := Lib.hid h
  have HX := Lib.hid hx
  have HN := Lib.hid hn
  have HQ := Lib.hid hq
  by_cases h0 : xs.length = 0
  · have hx0 : xs = [] := List.length_eq_zero_iff.1 h0
    subst hx0
    have he : es = [] := List.length_eq_zero_iff.1 (by have := hx.1; simpa using this.symm)
    subst he
    clear HA HX HN HQ h hx hn hq h0
    go_enter Tryz.func73, Tryz.ntmps73
    go_wp2
    go_ret
    exact ⟨none, 0, [], rfl, rfl, EsF.nil _ _ _, Chg.refl _ _⟩
  · have hn0 : ¬ (xs.length : Int) = 0 := by omega
    have HP := Lib.hid h0
    have hmk : ∀ w : World, (Instr.makeSlice 22 (.int .i64 (xs.length : Int)) (.int .i64 (xs.length : Int))).run Tryz.prog w = .ok (.slice (some ⟨w.heap.size, 0, none⟩) xs.length xs.length) (w.alloc (.cells (evTy.flat (List.replicate xs.length evTy.z)).toArray 30)) := evTy.run_mk xs.length (by omega)
    obtain ⟨w1, hw1, c1, b1⟩ := news1 w (.cells (evTy.flat (List.replicate xs.length evTy.z)).toArray 30)
    have W1 := Lib.hid hw1
    have C1 := Lib.hid c1
    have O1 : Hid (OwnK evTy w1 (some ⟨w.heap.size, 0, none⟩) xs.length (List.replicate xs.length evTy.z)) := Lib.hid (OwnK.of (full := List.replicate xs.length evTy.z) b1 (by simp) (by unfold maxLen; omega) (by simp) (by simp))
    have SZ1 : Hid (w.heap.size + 1 ≤ w1.heap.size) := Lib.hid (lt_of_heap b1)
    clear h hx hn hq hw1 c1 b1 h0
    go_enter Tryz.func73, Tryz.ntmps73
    go_upto_region 4 with fail
    rw [← W1.out]
    obtain ⟨g, hg⟩ : ∃ g, w.heap.size = g := ⟨_, rfl⟩
    have HG := Lib.hid hg
    rw [hg] at O1 SZ1 ⊢
    clear W1 hmk hg
    go_wp2
    have h0b : (((xs.length : Int) == 0) : Bool) = false := by simpa using hn0
    rw [h0b]
    clear h0b
    go_loopw [16] (fun v16 wr => ∃ (k : Nat) (ys : List EvT), k ≤ xs.length ∧ ys.length = k ∧ v16 = .int .i64 k ∧ Hid (OwnK evTy wr (some ⟨g, 0, none⟩) xs.length (ys ++ List.replicate (xs.length - k) evTy.z)) ∧ Hid (OwnEs wr g wr.heap.size (some ⟨g, 0, none⟩) ys (es.take k)) ∧ Hid (g + 1 ≤ wr.heap.size) ∧ Hid (Chg [] w wr)) (fun v16 _ => xs.length - (RowKit.intOf v16).toNat)
    case atStart => exact ⟨0, [], Nat.zero_le _, rfl, rfl, Lib.hid (by simpa using O1.out), Lib.hid (by simpa using OwnEs.nil _ _ _ _), SZ1, C1⟩
    case round =>
      obtain ⟨k, ys, hk, hyl, rfl, RO, RE, RS, RC⟩ := hrel
      have i0 : (0 : Int) ≤ (k : Int) := by omega
      by_cases hlt : k < xs.length
      · have i1 : (k : Int) < (xs.length : Int) := by omega
        have i3 : IntKind.i64.wrap ((k : Int) + 1) = (k : Int) + 1 := IntWalk.i64_in _ (by have := HN.out; omega)
        obtain ⟨g2, o2, eA, _⟩ := HA.out.line (by omega)
        subst eA
        obtain ⟨x, e, ex, ee, rx⟩ := HX.out.at_ hlt
        obtain ⟨z0, z1, z2, z3, z4, z5, z6⟩ := evCells (HA.out.chg RC.out (by simp)) ex
        have RX := Lib.hid rx
        have ET : Hid (es.take (k + 1) = es.take k ++ [e]) := Lib.hid (by rw [List.take_add_one, ee]; rfl)
        have EQ := Lib.hid (HQ.out e (List.mem_of_getElem? ee))
        have YL := Lib.hid hyl
        clear ex ee rx hyl
        go_upto_region 7 with fail
        clear z0 z1 z2 z3 z4 z5 z6
        obtain ⟨w2, hw2, c2, b2⟩ := news1 wr (.cells #[.int .i64 x.n, .int .i64 x.s, .string x.p, .int .i64 x.k, .int .i64 x.m, .slice x.A x.l x.c, .slice x.B x.bl x.bc] 30)
        have W2 := Lib.hid hw2
        have RO2 := Lib.hid (RO.out.chg c2 (by simp))
        have RE2 := Lib.hid ((RE.out.chg c2 (by simp)).mono c2.size)
        have RS2 : Hid (g + 1 ≤ w2.heap.size) := Lib.hid (Nat.le_trans RS.out c2.size)
        have RC2 := Lib.hid (RC.out.trans c2)
        have y0 := cell_of b2 0
        have y1 := cell_of b2 1
        have y2 := cell_of b2 2
        have y3 := cell_of b2 3
        have y4 := cell_of b2 4
        have y5 := cell_of b2 5
        have y6 := cell_of b2 6
        simp only [List.getElem?_toArray, List.getElem?_cons_succ, List.getElem?_cons_zero] at y0 y1 y2 y3 y4 y5 y6
        clear hw2 c2 b2 RO RE RS RC
        rw [← W2.out]
        generalize wr.heap.size = s2 at *
        clear W2
        go_wp2_with fail
        clear y0 y1 y2 y3 y4 y5 y6
        refine (frev_any w2 x e (RX.out.chg RC2.out) EQ.out).mono ?_
        rintro r w3 ⟨A', c', B', d', rfl, hR, hA, hB, hnA, hnB, hne, hc⟩
        obtain ⟨X, hX⟩ : ∃ X : EvT, X = ⟨x.n, x.s, x.p, x.k, x.m, A', x.l, c', B', x.bl, d'⟩ := ⟨_, rfl⟩
        rw [← hX] at hR
        have fX : X.A = A' ∧ X.B = B' ∧ X.c = c' ∧ X.bc = d' := by rw [hX]; exact ⟨rfl, rfl, rfl, rfl⟩
        have EX : Hid (Value.agg #[.int .i64 x.n, .int .i64 x.s, .string x.p, .int .i64 x.k, .int .i64 x.m, .slice A' x.l c', .slice B' x.bl d'] = .agg #[.int .i64 X.n, .int .i64 X.s, .string X.p, .int .i64 X.k, .int .i64 X.m, .slice X.A X.l X.c, .slice X.B X.bl X.bc]) := Lib.hid (by rw [hX])
        have hsz := hc.size
        have RE3 : Hid (OwnEs w3 g w3.heap.size (some ⟨g, 0, none⟩) (ys ++ [X]) (es.take (k + 1))) := Lib.hid (by
          rw [ET.out]
          refine (RE2.out.chg hc (by simp)).snoc ⟨by have := RS2.out; omega, hsz⟩ hR (by rw [fX.1, fX.2.2.1]; exact hA) (by rw [fX.2.1, fX.2.2.2]; exact hB) (fun a ha => ?_) (fun a b ha hb => hne a b (by rw [← fX.1]; exact ha) (by rw [← fX.2.1]; exact hb))
          have lo : w2.heap.size ≤ a.block ∧ a.block < w3.heap.size := by
            rcases ha with q | q
            · rw [fX.1] at q; exact ⟨hnA a q, hA.lt a q⟩
            · rw [fX.2.1] at q; exact ⟨hnB a q, hB.lt_ a q⟩
          refine ⟨lo.1, lo.2, fun b hb e => ?_⟩
          cases hb
          have e : a.block = g := e
          have := RS2.out
          have := lo.1
          omega)
        have RO3 := Lib.hid (RO2.out.chg hc (by simp))
        have RS3 : Hid (g + 1 ≤ w3.heap.size) := Lib.hid (Nat.le_trans RS2.out hsz)
        have RC3 := Lib.hid (RC2.out.trans hc)
        rw [EX.out]
        clear hR hA hB hnA hnB hne hc hX fX EX hsz RO2 RE2 RS2 RC2 EQ RX ET
        have kz : (ys ++ List.replicate (xs.length - k) evTy.z)[k]? = some evTy.z := by
          rw [List.getElem?_append_right (by rw [YL.out]; exact Nat.le_refl _), YL.out, Nat.sub_self, List.getElem?_replicate]
          simp
          omega
        obtain ⟨z0, z1, z2, z3, z4, z5, z6⟩ := evCells RO3.out.reads kz
        rw [Nat.zero_add] at z0 z1 z2 z3 z4 z5 z6
        have F3 : ∀ j, w3.frozen? ⟨g, j, none⟩ = false := fun j => by
          rcases RO3.out with ⟨h, _⟩ | ⟨g', full, e, hg, _⟩
          · cases h
          · cases e; exact free_of hg j
        have f0 := F3 (k * 7)
        have f1 := F3 (k * 7 + 1)
        have f2 := F3 (k * 7 + 2)
        have f3 := F3 (k * 7 + 3)
        have f4 := F3 (k * 7 + 4)
        have f5 := F3 (k * 7 + 5)
        have f6 := F3 (k * 7 + 6)
        have KZ := Lib.hid kz
        clear kz F3
        have RO4 := Lib.hid (RO3.out.set7 k _ X KZ.out)
        have C4 := Lib.hid ((Chg.refl [g] w3).set7 (g := g) (.inl (by simp)) (k * 7) (.int .i64 X.n) (.int .i64 X.s) (.string X.p) (.int .i64 X.k) (.int .i64 X.m) (.slice X.A X.l X.c) (.slice X.B X.bl X.bc))
        have RC4 := Lib.hid (RC3.out.set7 (g := g) (.inr (by rw [HG.out]; exact Nat.le_refl _)) (k * 7) (.int .i64 X.n) (.int .i64 X.s) (.string X.p) (.int .i64 X.k) (.int .i64 X.m) (.slice X.A X.l X.c) (.slice X.B X.bl X.bc))
        go_upto_region 8 with fail
        clear z0 z1 z2 z3 z4 z5 z6 f0 f1 f2 f3 f4 f5 f6
        generalize (((((((w3.setCell ⟨g, k * 7, none⟩ (.int .i64 X.n)).setCell ⟨g, k * 7 + 1, none⟩ (.int .i64 X.s)).setCell ⟨g, k * 7 + 2, none⟩ (.string X.p)).setCell ⟨g, k * 7 + 3, none⟩ (.int .i64 X.k)).setCell ⟨g, k * 7 + 4, none⟩ (.int .i64 X.m)).setCell ⟨g, k * 7 + 5, none⟩ (.slice X.A X.l X.c)).setCell ⟨g, k * 7 + 6, none⟩ (.slice X.B X.bl X.bc)) = w4 at *
        have SZ4 := C4.out.size
        have RE4 : Hid (OwnEs w4 g w4.heap.size (some ⟨g, 0, none⟩) (ys ++ [X]) (es.take (k + 1))) := Lib.hid ((RE3.out.chg C4.out (fun i hi _ => ⟨⟨g, 0, none⟩, rfl, by simp at hi; exact hi.symm⟩)).mono SZ4)
        have RS4 : Hid (g + 1 ≤ w4.heap.size) := Lib.hid (Nat.le_trans RS3.out SZ4)
        have SET : Hid ((ys ++ List.replicate (xs.length - k) evTy.z).set k X = (ys ++ [X]) ++ List.replicate (xs.length - (k + 1)) evTy.z) := Lib.hid (by
          have hr : xs.length - k = (xs.length - (k + 1)) + 1 := by omega
          rw [hr, List.replicate_succ, List.set_append_right _ _ (by rw [YL.out]; exact Nat.le_refl _), YL.out, Nat.sub_self]
          simp)
        rw [SET.out] at RO4
        clear SZ4 C4 RC3 RE3 RO3 RS3 KZ SET
        go_wp2
        go_round
        case rel => exact ⟨k + 1, ys ++ [X], by omega, by simp [YL.out], by go_num, RO4, RE4, RS4, RC4⟩
        case measure => simp [RowKit.intOf]; omega
      · obtain rfl : k = xs.length := by omega
        have i1 : ¬ (xs.length : Int) < (xs.length : Int) := by omega
        have ET : es.take xs.length = es := by rw [HX.out.1]; exact List.take_length
        rw [ET, HG.out.symm] at RE
        rw [Nat.sub_self, List.replicate_zero, List.append_nil] at RO
        have YL := Lib.hid hyl
        clear hyl ET
        go_wp2
        go_ret
        refine ⟨some ⟨g, 0, none⟩, xs.length, ys, by rw [YL.out]; rfl, YL.out, ⟨RO.out, fun a ha => ?_, ?_⟩, RC.out⟩
        · cases ha
          exact ⟨by rw [HG.out]; exact Nat.le_refl _, RS.out⟩
        · have := RE.out
          rw [HG.out] at this ⊢
          exact this
set_option maxRecDepth 100000 in
set_option maxHeartbeats 4000000 in
theorem frevents_any (w : World) (A : Option Addr) (c : Nat) (xs : List EvT) (es : List EvP) (h : RdK evTy w A xs.length xs) (hx : EvsR w xs es) (hn : xs.length ≤ 100000) (hq : ∀ e ∈ es, e.b.length ≤ 140737488351232 ∧ e.q.length ≤ 100000) :
    Calls Tryz.prog 38 #[.slice A xs.length c] w fun r w' => ∃ (A' : Option Addr) (c' : Nat) (ys : List EvT), r = .returned (.slice A' ys.length c') ∧ ys.length = xs.length ∧ EsF w' w.heap.size w'.heap.size A' c' ys es ∧ Chg [] w w' := by
  have CC := Lib.hid (frlist_any w A c xs es h hx hn hq)
  clear h hx hn hq
  go_enter Tryz.func38, Tryz.ntmps38
  go_wp2_with fail
  refine CC.out.mono ?_
  rintro r w2 ⟨A', c', ys, rfl, hl, he, hc⟩
  have P := Lib.hid (And.intro hl (And.intro he hc))
  clear CC hl he hc
  go_wp2
  go_ret
  exact ⟨A', c', ys, rfl, P.out.1, P.out.2.1, P.out.2.2⟩
end
section
open Go.RowKit Go.Lib
set_option linter.unusedSimpArgs false
set_option linter.unusedVariables false


theorem EsF.low {w : World} {lo lo' hi : Nat} {A : Option Addr} {c : Nat} {ys : List EvT} {es : List EvP} (h : EsF w lo hi A c ys es) (hh : lo' ≤ lo) : EsF w lo' hi A c ys es :=
  ⟨h.row, fun a ha => ⟨Nat.le_trans hh (h.rowAt a ha).1, (h.rowAt a ha).2⟩, h.all.low hh⟩
set_option maxRecDepth 100000 in
set_option maxHeartbeats 16000000 in
/-- What a shelf is with another event put. -/
theorem shput_any (w : World) (A : Option Addr) (c : Nat) (xs : List EvT) (es : List EvP) (y : EvT) (f : EvP) (h : RdK evTy w A xs.length xs) (hx : EvsR w xs es) (hn : xs.length ≤ 1000) (hs : ∀ e ∈ es, EvSm e ∧ e.q.length ≤ 100000) (hy : EvR w y f) (ht : EvSm f ∧ f.q.length ≤ 100000) :
    Calls Tryz.prog 10 #[.slice A xs.length c, .agg #[.int .i64 y.n, .int .i64 y.s, .string y.p, .int .i64 y.k, .int .i64 y.m, .slice y.A y.l y.c, .slice y.B y.bl y.bc]] w fun r w' => ∃ (A' : Option Addr) (c' : Nat) (ys : List EvT), r = .returned (.tuple #[.slice A' ys.length c', .int .i64 (shJoinE es [f]).1]) ∧ EsF w' w.heap.size w'.heap.size A' c' ys (shJoinE es [f]).2 ∧ Chg [] w w' := by

  obtain ⟨w1, hw1, c1, b1⟩ := news1 w (.cells #[.int .i64 y.n, .int .i64 y.s, .string y.p, .int .i64 y.k, .int .i64 y.m, .slice y.A y.l y.c, .slice y.B y.bl y.bc] 30)
  have W1 := Lib.hid hw1
  have C1 := Lib.hid c1
  have B1 := Lib.hid b1
  have HA := Lib.hid (h.chg c1 (by simp))
  have HX := Lib.hid (hx.chg c1)
  have HN := Lib.hid hn
  have HS : Hid (∀ e ∈ es, EvSm e) := Lib.hid (fun e he => (hs e he).1)
  have HQ : Hid (∀ e ∈ es, e.b.length ≤ 140737488351232 ∧ e.q.length ≤ 100000) := Lib.hid (fun e he => ⟨(hs e he).1.2.1, (hs e he).2⟩)
  have HY := Lib.hid (hy.chg c1)
  have HT := Lib.hid ht.1
  have HTQ := Lib.hid ht.2
  have PC := Lib.hid (Chg.refl [] w1)
  have RJ : Hid (∃ R, R = shJoinE es [f]) := Lib.hid ⟨_, rfl⟩
  clear hw1 c1 b1 h hx hn hs hy ht
  go_enter Tryz.func10, Tryz.ntmps10
  go_upto_region 1 with fail
  rw [← W1.out]
  obtain ⟨g1, hg1⟩ : ∃ g, w.heap.size = g := ⟨_, rfl⟩
  have HG := Lib.hid hg1
  rw [hg1] at B1 ⊢
  clear W1 hg1 RJ
  have HB : Hid (∀ w', Chg [] w1 w' → (w'.cell? ⟨g1, 0, none⟩ = some (.int .i64 y.n) ∧ w'.cell? ⟨g1, 1, none⟩ = some (.int .i64 y.s) ∧ w'.cell? ⟨g1, 2, none⟩ = some (.string y.p) ∧ w'.cell? ⟨g1, 3, none⟩ = some (.int .i64 y.k) ∧ w'.cell? ⟨g1, 4, none⟩ = some (.int .i64 y.m) ∧ w'.cell? ⟨g1, 5, none⟩ = some (.slice y.A y.l y.c) ∧ w'.cell? ⟨g1, 6, none⟩ = some (.slice y.B y.bl y.bc))) := Lib.hid (fun w' hc => by
    have b := hc.at_ B1.out (by simp)
    exact ⟨cell_of b 0, cell_of b 1, cell_of b 2, cell_of b 3, cell_of b 4, cell_of b 5, cell_of b 6⟩)
  have SCK : Hid (∀ w', Chg [] w1 w' → Calls Tryz.prog 15 #[.slice A xs.length c] w' fun r w2 => r = .returned (.int .i64 (shE es)) ∧ Chg [] w' w2) := Lib.hid (fun w' hc => shcheck_any w' A c xs es (HA.out.chg hc (by simp)) (HX.out.chg hc) (by have := HN.out; omega) HS.out)
  have ECK : Hid (∀ w', Chg [] w1 w' → Calls Tryz.prog 35 #[.agg #[.int .i64 y.n, .int .i64 y.s, .string y.p, .int .i64 y.k, .int .i64 y.m, .slice y.A y.l y.c, .slice y.B y.bl y.bc]] w' fun r w2 => r = .returned (.int .i64 (chkEv f)) ∧ Chg [] w' w2) := Lib.hid (fun w' hc => evcheck_any w' y f (HY.out.chg hc) HT.out)
  rcases shE_two es with e1 | e1
  rotate_left
  · have NO : Hid (shJoinE es [f] = (2, [])) := Lib.hid (shJoin_noA (fun q => by rw [shE_zero.2 q] at e1; cases e1))
    refine wp_region_held_drew (S := fun w' => Chg [] w1 w') (by kernel_rfl) (Chg.refl [] w1).drew (fun hHeld => ?_)
    refine sy 0 11 rfl rfl ?_
    try simp only [Act.put, sA, s0, s1]
    refine wpAnyH_ready (rs := [1]) (by kernel_rfl) (by simp) ?_
    refine AllReadyH.cons rfl (fun K hK => ?_) AllReadyH.nil
    replace hK := Lib.hid hK
    go_simp
    refine (SCK.out _ hHeld).mono ?_
    rintro r w3 ⟨rfl, hc⟩
    rw [e1]
    have C9 := Lib.hid (hHeld.trans hc)
    clear hc hHeld
    refine hK.out _ _ C9.out (fun hHeld => ?_)
    clear hK K
    try simp only [Act.put, sA, s0, s1]
    refine sy 2 13 rfl rfl ?_
    try simp only [Act.put, sA, s0, s1]
    refine sy 3 14 rfl rfl ?_
    try simp only [Act.put, sA, s0, s1]
    refine sn 4 15 rfl rfl ?_
    try simp only [Act.put, sA, s0, s1]
    refine sn 5 16 rfl rfl ?_
    try simp only [Act.put, sA, s0, s1]
    refine sn 6 17 rfl rfl ?_
    try simp only [Act.put, sA, s0, s1]
    refine sy 7 18 rfl rfl ?_
    try simp only [Act.put, sA, s0, s1]
    refine sy 8 19 rfl rfl ?_
    try simp only [Act.put, sA, s0, s1]
    refine sn 9 20 rfl rfl ?_
    try simp only [Act.put, sA, s0, s1]
    refine sn 10 21 rfl rfl ?_
    try simp only [Act.put, sA, s0, s1]
    refine sn 11 22 rfl rfl ?_
    try simp only [Act.put, sA, s0, s1]
    refine sn 12 23 rfl rfl ?_
    try simp only [Act.put, sA, s0, s1]
    refine sn 13 24 rfl rfl ?_
    try simp only [Act.put, sA, s0, s1]
    refine sn 14 25 rfl rfl ?_
    try simp only [Act.put, sA, s0, s1]
    refine sn 15 26 rfl rfl ?_
    try simp only [Act.put, sA, s0, s1]
    refine sn 16 27 rfl rfl ?_
    try simp only [Act.put, sA, s0, s1]
    refine sn 17 28 rfl rfl ?_
    try simp only [Act.put, sA, s0, s1]
    refine sn 18 29 rfl rfl ?_
    try simp only [Act.put, sA, s0, s1]
    refine sn 19 30 rfl rfl ?_
    try simp only [Act.put, sA, s0, s1]
    refine sn 20 31 rfl rfl ?_
    try simp only [Act.put, sA, s0, s1]
    refine sy 21 32 rfl rfl ?_
    try simp only [Act.put, sA, s0, s1]
    refine wpAnyH_done (by kernel_rfl) ?_ _
    have PE := Lib.hid (C1.out.trans C9.out)
    clear hHeld HB SCK ECK
    go_wp2
    go_ret2
    rw [NO.out]
    exact ⟨none, 0, [], rfl, EsF.nil _ _ _, PE.out⟩
  have SOK : Hid (ShOk es) := Lib.hid (shE_zero.1 e1)
  rcases chkEv_two f with e2 | e2
  rotate_left
  · have NO : Hid (shJoinE es [f] = (2, [])) := Lib.hid (shJoin_no1 (by omega))
    refine wp_region_held_drew (S := fun w' => Chg [] w1 w') (by kernel_rfl) (Chg.refl [] w1).drew (fun hHeld => ?_)
    refine sy 0 11 rfl rfl ?_
    try simp only [Act.put, sA, s0, s1]
    refine wpAnyH_ready (rs := [1]) (by kernel_rfl) (by simp) ?_
    refine AllReadyH.cons rfl (fun K hK => ?_) AllReadyH.nil
    replace hK := Lib.hid hK
    go_simp
    refine (SCK.out _ hHeld).mono ?_
    rintro r w3 ⟨rfl, hc⟩
    rw [e1]
    have C9 := Lib.hid (hHeld.trans hc)
    clear hc hHeld
    refine hK.out _ _ C9.out (fun hHeld => ?_)
    clear hK K
    try simp only [Act.put, sA, s0, s1]
    refine sy 2 13 rfl rfl ?_
    try simp only [Act.put, sA, s0, s1]
    refine sy 3 14 rfl rfl ?_
    try simp only [Act.put, sA, s0, s1]
    refine sy 4 15 rfl rfl ?_ (hy := by (intro w hSw; (try dsimp only at hSw); have hq := HB.out _ hSw; obtain ⟨q0, q1, q2, q3, q4, q5, q6⟩ := hq; go_simp; try with_reducible rfl))
    try simp only [Act.put, sA, s0, s1]
    refine wpAnyH_ready (rs := [5]) (by kernel_rfl) (by simp) ?_
    refine AllReadyH.cons rfl (fun K hK => ?_) AllReadyH.nil
    replace hK := Lib.hid hK
    go_simp
    refine (ECK.out _ hHeld).mono ?_
    rintro r w4 ⟨rfl, hc⟩
    rw [e2]
    have C9 := Lib.hid (hHeld.trans hc)
    clear hc hHeld
    refine hK.out _ _ C9.out (fun hHeld => ?_)
    clear hK K
    try simp only [Act.put, sA, s0, s1]
    refine sy 6 17 rfl rfl ?_
    try simp only [Act.put, sA, s0, s1]
    refine sy 7 18 rfl rfl ?_
    try simp only [Act.put, sA, s0, s1]
    refine sy 8 19 rfl rfl ?_
    try simp only [Act.put, sA, s0, s1]
    refine sn 9 20 rfl rfl ?_
    try simp only [Act.put, sA, s0, s1]
    refine sn 10 21 rfl rfl ?_
    try simp only [Act.put, sA, s0, s1]
    refine sn 11 22 rfl rfl ?_
    try simp only [Act.put, sA, s0, s1]
    refine sn 12 23 rfl rfl ?_
    try simp only [Act.put, sA, s0, s1]
    refine sn 13 24 rfl rfl ?_
    try simp only [Act.put, sA, s0, s1]
    refine sn 14 25 rfl rfl ?_
    try simp only [Act.put, sA, s0, s1]
    refine sn 15 26 rfl rfl ?_
    try simp only [Act.put, sA, s0, s1]
    refine sn 16 27 rfl rfl ?_
    try simp only [Act.put, sA, s0, s1]
    refine sn 17 28 rfl rfl ?_
    try simp only [Act.put, sA, s0, s1]
    refine sn 18 29 rfl rfl ?_
    try simp only [Act.put, sA, s0, s1]
    refine sn 19 30 rfl rfl ?_
    try simp only [Act.put, sA, s0, s1]
    refine sn 20 31 rfl rfl ?_
    try simp only [Act.put, sA, s0, s1]
    refine sy 21 32 rfl rfl ?_
    try simp only [Act.put, sA, s0, s1]
    refine wpAnyH_done (by kernel_rfl) ?_ _
    have PE := Lib.hid (C1.out.trans C9.out)
    clear hHeld HB SCK ECK
    go_wp2
    go_ret2
    rw [NO.out]
    exact ⟨none, 0, [], rfl, EsF.nil _ _ _, PE.out⟩
  have CF := Lib.hid e2
  by_cases h0 : xs.length = 0
  · have YES : Hid (shJoinE es [f] = (0, putE es f)) := Lib.hid (shPut_yes SOK.out CF.out (fun x hx => by
      have := HX.out.1
      have := (List.getElem?_eq_some_iff.1 hx).1
      omega))
    have l0 : ¬ (0 : Int) < (xs.length : Int) := by omega
    have l1 : ¬ 0 < xs.length := by omega
    have l2 : decide ((0 : Int) < (xs.length : Int)) = false := decide_eq_false (by omega)
    have l3 : decide (0 < xs.length) = false := decide_eq_false (by omega)
    clear h0
    refine wp_region_held_drew (S := fun w' => Chg [] w1 w') (by kernel_rfl) (Chg.refl [] w1).drew (fun hHeld => ?_)
    refine sy 0 11 rfl rfl ?_
    try simp only [Act.put, sA, s0, s1]
    refine wpAnyH_ready (rs := [1]) (by kernel_rfl) (by simp) ?_
    refine AllReadyH.cons rfl (fun K hK => ?_) AllReadyH.nil
    replace hK := Lib.hid hK
    go_simp
    refine (SCK.out _ hHeld).mono ?_
    rintro r w3 ⟨rfl, hc⟩
    rw [e1]
    have C9 := Lib.hid (hHeld.trans hc)
    clear hc hHeld
    refine hK.out _ _ C9.out (fun hHeld => ?_)
    clear hK K
    try simp only [Act.put, sA, s0, s1]
    refine sy 2 13 rfl rfl ?_
    try simp only [Act.put, sA, s0, s1]
    refine sy 3 14 rfl rfl ?_
    try simp only [Act.put, sA, s0, s1]
    refine sy 4 15 rfl rfl ?_ (hy := by (intro w hSw; (try dsimp only at hSw); have hq := HB.out _ hSw; obtain ⟨q0, q1, q2, q3, q4, q5, q6⟩ := hq; go_simp; try with_reducible rfl))
    try simp only [Act.put, sA, s0, s1]
    refine wpAnyH_ready (rs := [5]) (by kernel_rfl) (by simp) ?_
    refine AllReadyH.cons rfl (fun K hK => ?_) AllReadyH.nil
    replace hK := Lib.hid hK
    go_simp
    refine (ECK.out _ hHeld).mono ?_
    rintro r w4 ⟨rfl, hc⟩
    rw [e2]
    have C9 := Lib.hid (hHeld.trans hc)
    clear hc hHeld
    refine hK.out _ _ C9.out (fun hHeld => ?_)
    clear hK K
    try simp only [Act.put, sA, s0, s1]
    refine sy 6 17 rfl rfl ?_
    try simp only [Act.put, sA, s0, s1]
    refine sy 7 18 rfl rfl ?_
    try simp only [Act.put, sA, s0, s1]
    refine sy 8 19 rfl rfl ?_
    try simp only [Act.put, sA, s0, s1]
    refine sy 9 20 rfl rfl ?_
    try simp only [Act.put, sA, s0, s1]
    refine sy 10 21 rfl rfl ?_
    try simp only [Act.put, sA, s0, s1]
    refine sy 11 22 rfl rfl ?_
    try simp only [Act.put, sA, s0, s1]
    refine sy 12 23 rfl rfl ?_
    try simp only [Act.put, sA, s0, s1]
    refine sn 13 24 rfl rfl ?_
    try simp only [Act.put, sA, s0, s1]
    refine sn 14 25 rfl rfl ?_
    try simp only [Act.put, sA, s0, s1]
    refine sn 15 26 rfl rfl ?_
    try simp only [Act.put, sA, s0, s1]
    refine sn 16 27 rfl rfl ?_
    try simp only [Act.put, sA, s0, s1]
    refine sn 17 28 rfl rfl ?_
    try simp only [Act.put, sA, s0, s1]
    refine sn 18 29 rfl rfl ?_
    try simp only [Act.put, sA, s0, s1]
    refine sn 19 30 rfl rfl ?_
    try simp only [Act.put, sA, s0, s1]
    refine sy 20 31 rfl rfl ?_
    try simp only [Act.put, sA, s0, s1]
    refine sy 21 32 rfl rfl ?_
    try simp only [Act.put, sA, s0, s1]
    refine wpAnyH_done (by kernel_rfl) ?_ _
    clear l0 l1 l2 l3
    have PC := C9
    clear hHeld SCK ECK C9
    have FI := Lib.hid (shfind_any w4 A c xs y.n y.s (HA.out.chg PC.out (by simp)) (HX.out.up SOK.out.2.2.1) (by have := HN.out; omega))
    obtain ⟨y0, y1, y2, y3, y4, y5, y6⟩ := HB.out _ PC.out
    go_wp2_with fail
    clear y0 y1 y2 y3 y4 y5 y6
    refine FI.out.mono ?_
    rintro r w5 ⟨i0, hi0, lo0, hh0, rfl, hc⟩
    have PC5 := Lib.hid (PC.out.trans hc)
    clear hc FI PC hi0 lo0 hh0
    rcases hin : inE xs y.n y.s with _ | _
    rotate_left
    · have ST : Hid (stayE es f = true) := Lib.hid (by rw [stay_or, ← HY.out.n, ← HY.out.s, ← HX.out.inE, hin]; rfl)
      clear hin
      have PF := PC5
      have FE := Lib.hid (frevents_any w5 A c xs es (HA.out.chg PF.out (by simp)) (HX.out.chg PF.out) (by have := HN.out; omega) HQ.out)
      go_wp2_with fail
      refine FE.out.mono ?_
      rintro r w7 ⟨A7, c7, ys, rfl, hl, he, hc⟩
      have P7 := Lib.hid (And.intro he (C1.out.trans (PF.out.trans hc)))
      have LO : Hid (w.heap.size ≤ w5.heap.size) := Lib.hid (Nat.le_trans C1.out.size PF.out.size)
      clear hl he hc FE
      go_wp2
      go_ret2
      rw [YES.out, put_stays ST.out]
      exact ⟨A7, c7, ys, rfl, P7.out.1.low LO.out, P7.out.2⟩
    have IN := Lib.hid hin
    clear hin
    have AHD := Lib.hid (shahead_any w5 A c xs es y f (HA.out.chg PC5.out (by simp)) (HX.out.chg PC5.out) (by have := HN.out; omega) (HY.out.chg PC5.out) HS.out HT.out)
    obtain ⟨y0, y1, y2, y3, y4, y5, y6⟩ := HB.out _ PC5.out
    go_wp2_with fail
    clear y0 y1 y2 y3 y4 y5 y6
    refine AHD.out.mono ?_
    rintro r w6 ⟨rfl, hc⟩
    have PC6 := Lib.hid (PC5.out.trans hc)
    clear hc AHD PC5
    rcases ha : es.any (fun e => aheadP f e) with _ | _
    rotate_left
    · have ST : Hid (stayE es f = true) := Lib.hid (by rw [stay_or, ha, Bool.or_true])
      clear ha
      have PF := PC6
      have FE := Lib.hid (frevents_any w6 A c xs es (HA.out.chg PF.out (by simp)) (HX.out.chg PF.out) (by have := HN.out; omega) HQ.out)
      go_wp2_with fail
      refine FE.out.mono ?_
      rintro r w7 ⟨A7, c7, ys, rfl, hl, he, hc⟩
      have P7 := Lib.hid (And.intro he (C1.out.trans (PF.out.trans hc)))
      have LO : Hid (w.heap.size ≤ w6.heap.size) := Lib.hid (Nat.le_trans C1.out.size PF.out.size)
      clear hl he hc FE
      go_wp2
      go_ret2
      rw [YES.out, put_stays ST.out]
      exact ⟨A7, c7, ys, rfl, P7.out.1.low LO.out, P7.out.2⟩
    have NST : Hid (stayE es f = false) := Lib.hid (by rw [stay_or, ha, ← HY.out.n, ← HY.out.s, ← HX.out.inE, IN.out]; rfl)
    clear ha
    have WO := Lib.hid (shwithout_any w6 A c xs es y f (HA.out.chg PC6.out (by simp)) (HX.out.chg PC6.out) (by have := HN.out; omega) (HY.out.chg PC6.out) HS.out HT.out)
    obtain ⟨y0, y1, y2, y3, y4, y5, y6⟩ := HB.out _ PC6.out
    go_wp2_with fail
    clear y0 y1 y2 y3 y4 y5 y6
    refine WO.out.mono ?_
    rintro r w7 ⟨A7, c7, ys, rfl, hl7, he7, ho7, hn7, hc⟩
    have C67 := Lib.hid hc
    have O7 := Lib.hid ho7
    have N7 : Hid (∀ a, A7 = some a → w6.heap.size ≤ a.block) := Lib.hid hn7
    have E7 := Lib.hid he7
    have L7 : Hid (ys.length ≤ 1000) := Lib.hid (by have := HN.out; omega)
    clear hc ho7 hn7 he7 hl7 WO
    have FI := Lib.hid (shfind_any w7 A7 c7 ys y.n y.s O7.out.reads (E7.out.up (keep_up SOK.out.2.2.1)) (by have := L7.out; omega))
    obtain ⟨y0, y1, y2, y3, y4, y5, y6⟩ := HB.out _ (PC6.out.trans C67.out)
    go_wp2_with fail
    clear y0 y1 y2 y3 y4 y5 y6
    refine FI.out.mono ?_
    rintro r w8 ⟨i, hi, lo, hh, rfl, hc⟩
    have C68 := Lib.hid (C67.out.trans hc)
    have O8 := Lib.hid (O7.out.chg hc (by simp))
    have PI := Lib.hid (And.intro hi (put_ins E7.out (HY.out.chg PC6.out) NST.out hi lo hh))
    clear hc FI C67 O7 E7 hi lo hh
    obtain ⟨w9, hw9, c9, b9⟩ := news1 w8 (.cells #[.int .i64 y.n, .int .i64 y.s, .string y.p, .int .i64 y.k, .int .i64 y.m, .slice y.A y.l y.c, .slice y.B y.bl y.bc] 30)
    have W9 := Lib.hid hw9
    have INS := Lib.hid (insev_any w9 A7 c7 ys i w8.heap.size y (O8.out.chg c9 (by simp)) PI.out.1 (by have := L7.out; omega) b9 (fun a ha e => by
      have := O8.out.lt a ha
      omega))
    have C69 := Lib.hid (C68.out.trans c9)
    clear hw9 c9 b9 O8
    obtain ⟨y0, y1, y2, y3, y4, y5, y6⟩ := HB.out _ (PC6.out.trans C68.out)
    go_wp2_with (rw [← W9.out])
    clear y0 y1 y2 y3 y4 y5 y6
    refine INS.out.mono ?_
    rintro r wa ⟨Aa, ca, rfl, hoa, hna, hca⟩
    have ZL : Hid (ys.length + 1 = (ys.take i ++ y :: ys.drop i).length) := Lib.hid (by have := PI.out.1; simp; omega)
    have C6a := Lib.hid (hca w6 C69.out N7.out)
    have OA := Lib.hid hoa
    have PA := Lib.hid (PI.out.2.chg C6a.out)
    obtain ⟨zs, hzs⟩ : ∃ zs, zs = ys.take i ++ y :: ys.drop i := ⟨_, rfl⟩
    have LZ : Hid (zs.length ≤ 100000) := Lib.hid (by rw [hzs, ← ZL.out]; have := L7.out; omega)
    rw [← hzs] at ZL OA PA
    clear hoa hna hca hzs INS C69 C68 W9
    rw [ZL.out]
    have FE := Lib.hid (frevents_any wa Aa ca zs (putE es f) OA.out.reads PA.out LZ.out (fun e he => (put_mem he).elim (fun q => by rw [q]; exact ⟨HT.out.2.1, HTQ.out⟩) (HQ.out e)))
    go_wp2_with fail
    refine FE.out.mono ?_
    rintro r wb ⟨Ab, cb, us, rfl, hl, he, hc⟩
    have P7 := Lib.hid (And.intro he (C1.out.trans (PC6.out.trans (C6a.out.trans hc))))
    have LO : Hid (w.heap.size ≤ wa.heap.size) := Lib.hid (Nat.le_trans C1.out.size (Nat.le_trans PC6.out.size C6a.out.size))
    clear hl he hc FE
    go_wp2
    go_ret2
    rw [YES.out]
    exact ⟨Ab, cb, us, rfl, P7.out.1.low LO.out, P7.out.2⟩
  obtain ⟨g3, o3, eA, _⟩ := HA.out.line (by omega)
  subst eA
  obtain ⟨y0, f0, ey0, ef0, ry0⟩ := HX.out.at_ (show 0 < xs.length by omega)
  have H0 : Hid (∀ w', Chg [] w1 w' → w'.cell? ⟨g3, o3 + 2, none⟩ = some (.string y0.p)) := Lib.hid (fun w' hc => by
    have q := evCells (HA.out.chg hc (by simp)) ey0
    rw [Nat.zero_mul, Nat.add_zero] at q
    exact q.2.2.1)
  have XP : Hid (y0.p = strOf f0.p ∧ y.p = strOf f.p) := Lib.hid ⟨ry0.p, HY.out.p⟩
  have EF0 := Lib.hid ef0
  have l0 : (0 : Int) < (xs.length : Int) := by omega
  have l1 : 0 < xs.length := by omega
  have l2 : decide ((0 : Int) < (xs.length : Int)) = true := by simp; omega
  have l3 : decide (0 < xs.length) = true := by simp; omega
  clear ey0 ef0 ry0 h0
  by_cases hp : f0.p = f.p
  rotate_left
  · have NO : Hid (shJoinE es [f] = (2, [])) := Lib.hid (shJoin_path EF0.out rfl hp)
    have p1' : ((y0.p == y.p) : Bool) = false := by rw [XP.out.1, XP.out.2]; exact strOf_ne hp
    have p2' : ¬ y0.p = y.p := by rw [XP.out.1, XP.out.2]; exact strOf_ne2 hp
    have p3' : ¬ y0.p.toList = y.p.toList := by rw [XP.out.1, XP.out.2]; exact strOf_ne3s hp
    have p4' : ((y0.p.toList == y.p.toList) : Bool) = false := by simpa using p3'
    clear hp
    refine wp_region_held_drew (S := fun w' => Chg [] w1 w') (by kernel_rfl) (Chg.refl [] w1).drew (fun hHeld => ?_)
    refine sy 0 11 rfl rfl ?_
    try simp only [Act.put, sA, s0, s1]
    refine wpAnyH_ready (rs := [1]) (by kernel_rfl) (by simp) ?_
    refine AllReadyH.cons rfl (fun K hK => ?_) AllReadyH.nil
    replace hK := Lib.hid hK
    go_simp
    refine (SCK.out _ hHeld).mono ?_
    rintro r w3 ⟨rfl, hc⟩
    rw [e1]
    have C9 := Lib.hid (hHeld.trans hc)
    clear hc hHeld
    refine hK.out _ _ C9.out (fun hHeld => ?_)
    clear hK K
    try simp only [Act.put, sA, s0, s1]
    refine sy 2 13 rfl rfl ?_
    try simp only [Act.put, sA, s0, s1]
    refine sy 3 14 rfl rfl ?_
    try simp only [Act.put, sA, s0, s1]
    refine sy 4 15 rfl rfl ?_ (hy := by (intro w hSw; (try dsimp only at hSw); have hq := HB.out _ hSw; obtain ⟨q0, q1, q2, q3, q4, q5, q6⟩ := hq; go_simp; try with_reducible rfl))
    try simp only [Act.put, sA, s0, s1]
    refine wpAnyH_ready (rs := [5]) (by kernel_rfl) (by simp) ?_
    refine AllReadyH.cons rfl (fun K hK => ?_) AllReadyH.nil
    replace hK := Lib.hid hK
    go_simp
    refine (ECK.out _ hHeld).mono ?_
    rintro r w4 ⟨rfl, hc⟩
    rw [e2]
    have C9 := Lib.hid (hHeld.trans hc)
    clear hc hHeld
    refine hK.out _ _ C9.out (fun hHeld => ?_)
    clear hK K
    try simp only [Act.put, sA, s0, s1]
    refine sy 6 17 rfl rfl ?_
    try simp only [Act.put, sA, s0, s1]
    refine sy 7 18 rfl rfl ?_
    try simp only [Act.put, sA, s0, s1]
    refine sy 8 19 rfl rfl ?_
    try simp only [Act.put, sA, s0, s1]
    refine sy 9 20 rfl rfl ?_
    try simp only [Act.put, sA, s0, s1]
    refine sy 10 21 rfl rfl ?_
    try simp only [Act.put, sA, s0, s1]
    refine sy 11 22 rfl rfl ?_
    try simp only [Act.put, sA, s0, s1]
    refine sy 12 23 rfl rfl ?_
    try simp only [Act.put, sA, s0, s1]
    refine sy 13 24 rfl rfl ?_
    try simp only [Act.put, sA, s0, s1]
    refine sy 14 25 rfl rfl ?_
    try simp only [Act.put, sA, s0, s1]
    refine sy 15 26 rfl rfl ?_
    try simp only [Act.put, sA, s0, s1]
    refine sy 16 27 rfl rfl ?_ (hy := by (intro w hSw; (try dsimp only at hSw); have hq := H0.out _ hSw; go_simp; try with_reducible rfl))
    try simp only [Act.put, sA, s0, s1]
    refine sy 17 28 rfl rfl ?_
    try simp only [Act.put, sA, s0, s1]
    refine sy 18 29 rfl rfl ?_ (hy := by (intro w hSw; (try dsimp only at hSw); have hq := HB.out _ hSw; obtain ⟨q0, q1, q2, q3, q4, q5, q6⟩ := hq; go_simp; try with_reducible rfl))
    try simp only [Act.put, sA, s0, s1]
    refine sy 19 30 rfl rfl ?_
    try simp only [Act.put, sA, s0, s1]
    refine sy 20 31 rfl rfl ?_
    try simp only [Act.put, sA, s0, s1]
    refine sy 21 32 rfl rfl ?_
    try simp only [Act.put, sA, s0, s1]
    refine wpAnyH_done (by kernel_rfl) ?_ _
    have PE := Lib.hid (C1.out.trans C9.out)
    clear hHeld HB SCK ECK
    go_wp2
    go_ret2
    rw [NO.out]
    exact ⟨none, 0, [], rfl, EsF.nil _ _ _, PE.out⟩
  have YES : Hid (shJoinE es [f] = (0, putE es f)) := Lib.hid (shPut_yes SOK.out CF.out (fun x hx => by rw [EF0.out] at hx; cases hx; exact hp))
  have p1' : ((y0.p == y.p) : Bool) = true := by rw [XP.out.1, XP.out.2, hp]; show ((f.p.toArray == f.p.toArray) : Bool) = true; simp
  have p4' : ((y0.p.toList == y.p.toList) : Bool) = true := by rw [XP.out.1, XP.out.2, hp]; simp
  clear hp
  refine wp_region_held_drew (S := fun w' => Chg [] w1 w') (by kernel_rfl) (Chg.refl [] w1).drew (fun hHeld => ?_)
  refine sy 0 11 rfl rfl ?_
  try simp only [Act.put, sA, s0, s1]
  refine wpAnyH_ready (rs := [1]) (by kernel_rfl) (by simp) ?_
  refine AllReadyH.cons rfl (fun K hK => ?_) AllReadyH.nil
  replace hK := Lib.hid hK
  go_simp
  refine (SCK.out _ hHeld).mono ?_
  rintro r w3 ⟨rfl, hc⟩
  rw [e1]
  have C9 := Lib.hid (hHeld.trans hc)
  clear hc hHeld
  refine hK.out _ _ C9.out (fun hHeld => ?_)
  clear hK K
  try simp only [Act.put, sA, s0, s1]
  refine sy 2 13 rfl rfl ?_
  try simp only [Act.put, sA, s0, s1]
  refine sy 3 14 rfl rfl ?_
  try simp only [Act.put, sA, s0, s1]
  refine sy 4 15 rfl rfl ?_ (hy := by (intro w hSw; (try dsimp only at hSw); have hq := HB.out _ hSw; obtain ⟨q0, q1, q2, q3, q4, q5, q6⟩ := hq; go_simp; try with_reducible rfl))
  try simp only [Act.put, sA, s0, s1]
  refine wpAnyH_ready (rs := [5]) (by kernel_rfl) (by simp) ?_
  refine AllReadyH.cons rfl (fun K hK => ?_) AllReadyH.nil
  replace hK := Lib.hid hK
  go_simp
  refine (ECK.out _ hHeld).mono ?_
  rintro r w4 ⟨rfl, hc⟩
  rw [e2]
  have C9 := Lib.hid (hHeld.trans hc)
  clear hc hHeld
  refine hK.out _ _ C9.out (fun hHeld => ?_)
  clear hK K
  try simp only [Act.put, sA, s0, s1]
  refine sy 6 17 rfl rfl ?_
  try simp only [Act.put, sA, s0, s1]
  refine sy 7 18 rfl rfl ?_
  try simp only [Act.put, sA, s0, s1]
  refine sy 8 19 rfl rfl ?_
  try simp only [Act.put, sA, s0, s1]
  refine sy 9 20 rfl rfl ?_
  try simp only [Act.put, sA, s0, s1]
  refine sy 10 21 rfl rfl ?_
  try simp only [Act.put, sA, s0, s1]
  refine sy 11 22 rfl rfl ?_
  try simp only [Act.put, sA, s0, s1]
  refine sy 12 23 rfl rfl ?_
  try simp only [Act.put, sA, s0, s1]
  refine sy 13 24 rfl rfl ?_
  try simp only [Act.put, sA, s0, s1]
  refine sy 14 25 rfl rfl ?_
  try simp only [Act.put, sA, s0, s1]
  refine sy 15 26 rfl rfl ?_
  try simp only [Act.put, sA, s0, s1]
  refine sy 16 27 rfl rfl ?_ (hy := by (intro w hSw; (try dsimp only at hSw); have hq := H0.out _ hSw; go_simp; try with_reducible rfl))
  try simp only [Act.put, sA, s0, s1]
  refine sy 17 28 rfl rfl ?_
  try simp only [Act.put, sA, s0, s1]
  refine sy 18 29 rfl rfl ?_ (hy := by (intro w hSw; (try dsimp only at hSw); have hq := HB.out _ hSw; obtain ⟨q0, q1, q2, q3, q4, q5, q6⟩ := hq; go_simp; try with_reducible rfl))
  try simp only [Act.put, sA, s0, s1]
  refine sy 19 30 rfl rfl ?_
  try simp only [Act.put, sA, s0, s1]
  refine sy 20 31 rfl rfl ?_
  try simp only [Act.put, sA, s0, s1]
  refine sy 21 32 rfl rfl ?_
  try simp only [Act.put, sA, s0, s1]
  refine wpAnyH_done (by kernel_rfl) ?_ _
  clear l0 l1 l2 l3 p1' p4' H0
  have PC := C9
  clear hHeld SCK ECK C9
  have FI := Lib.hid (shfind_any w4 (some ⟨g3, o3, none⟩) c xs y.n y.s (HA.out.chg PC.out (by simp)) (HX.out.up SOK.out.2.2.1) (by have := HN.out; omega))
  obtain ⟨y0, y1, y2, y3, y4, y5, y6⟩ := HB.out _ PC.out
  go_wp2_with fail
  clear y0 y1 y2 y3 y4 y5 y6
  refine FI.out.mono ?_
  rintro r w5 ⟨i0, hi0, lo0, hh0, rfl, hc⟩
  have PC5 := Lib.hid (PC.out.trans hc)
  clear hc FI PC hi0 lo0 hh0
  rcases hin : inE xs y.n y.s with _ | _
  rotate_left
  · have ST : Hid (stayE es f = true) := Lib.hid (by rw [stay_or, ← HY.out.n, ← HY.out.s, ← HX.out.inE, hin]; rfl)
    clear hin
    have PF := PC5
    have FE := Lib.hid (frevents_any w5 (some ⟨g3, o3, none⟩) c xs es (HA.out.chg PF.out (by simp)) (HX.out.chg PF.out) (by have := HN.out; omega) HQ.out)
    go_wp2_with fail
    refine FE.out.mono ?_
    rintro r w7 ⟨A7, c7, ys, rfl, hl, he, hc⟩
    have P7 := Lib.hid (And.intro he (C1.out.trans (PF.out.trans hc)))
    have LO : Hid (w.heap.size ≤ w5.heap.size) := Lib.hid (Nat.le_trans C1.out.size PF.out.size)
    clear hl he hc FE
    go_wp2
    go_ret2
    rw [YES.out, put_stays ST.out]
    exact ⟨A7, c7, ys, rfl, P7.out.1.low LO.out, P7.out.2⟩
  have IN := Lib.hid hin
  clear hin
  have AHD := Lib.hid (shahead_any w5 (some ⟨g3, o3, none⟩) c xs es y f (HA.out.chg PC5.out (by simp)) (HX.out.chg PC5.out) (by have := HN.out; omega) (HY.out.chg PC5.out) HS.out HT.out)
  obtain ⟨y0, y1, y2, y3, y4, y5, y6⟩ := HB.out _ PC5.out
  go_wp2_with fail
  clear y0 y1 y2 y3 y4 y5 y6
  refine AHD.out.mono ?_
  rintro r w6 ⟨rfl, hc⟩
  have PC6 := Lib.hid (PC5.out.trans hc)
  clear hc AHD PC5
  rcases ha : es.any (fun e => aheadP f e) with _ | _
  rotate_left
  · have ST : Hid (stayE es f = true) := Lib.hid (by rw [stay_or, ha, Bool.or_true])
    clear ha
    have PF := PC6
    have FE := Lib.hid (frevents_any w6 (some ⟨g3, o3, none⟩) c xs es (HA.out.chg PF.out (by simp)) (HX.out.chg PF.out) (by have := HN.out; omega) HQ.out)
    go_wp2_with fail
    refine FE.out.mono ?_
    rintro r w7 ⟨A7, c7, ys, rfl, hl, he, hc⟩
    have P7 := Lib.hid (And.intro he (C1.out.trans (PF.out.trans hc)))
    have LO : Hid (w.heap.size ≤ w6.heap.size) := Lib.hid (Nat.le_trans C1.out.size PF.out.size)
    clear hl he hc FE
    go_wp2
    go_ret2
    rw [YES.out, put_stays ST.out]
    exact ⟨A7, c7, ys, rfl, P7.out.1.low LO.out, P7.out.2⟩
  have NST : Hid (stayE es f = false) := Lib.hid (by rw [stay_or, ha, ← HY.out.n, ← HY.out.s, ← HX.out.inE, IN.out]; rfl)
  clear ha
  have WO := Lib.hid (shwithout_any w6 (some ⟨g3, o3, none⟩) c xs es y f (HA.out.chg PC6.out (by simp)) (HX.out.chg PC6.out) (by have := HN.out; omega) (HY.out.chg PC6.out) HS.out HT.out)
  obtain ⟨y0, y1, y2, y3, y4, y5, y6⟩ := HB.out _ PC6.out
  go_wp2_with fail
  clear y0 y1 y2 y3 y4 y5 y6
  refine WO.out.mono ?_
  rintro r w7 ⟨A7, c7, ys, rfl, hl7, he7, ho7, hn7, hc⟩
  have C67 := Lib.hid hc
  have O7 := Lib.hid ho7
  have N7 : Hid (∀ a, A7 = some a → w6.heap.size ≤ a.block) := Lib.hid hn7
  have E7 := Lib.hid he7
  have L7 : Hid (ys.length ≤ 1000) := Lib.hid (by have := HN.out; omega)
  clear hc ho7 hn7 he7 hl7 WO
  have FI := Lib.hid (shfind_any w7 A7 c7 ys y.n y.s O7.out.reads (E7.out.up (keep_up SOK.out.2.2.1)) (by have := L7.out; omega))
  obtain ⟨y0, y1, y2, y3, y4, y5, y6⟩ := HB.out _ (PC6.out.trans C67.out)
  go_wp2_with fail
  clear y0 y1 y2 y3 y4 y5 y6
  refine FI.out.mono ?_
  rintro r w8 ⟨i, hi, lo, hh, rfl, hc⟩
  have C68 := Lib.hid (C67.out.trans hc)
  have O8 := Lib.hid (O7.out.chg hc (by simp))
  have PI := Lib.hid (And.intro hi (put_ins E7.out (HY.out.chg PC6.out) NST.out hi lo hh))
  clear hc FI C67 O7 E7 hi lo hh
  obtain ⟨w9, hw9, c9, b9⟩ := news1 w8 (.cells #[.int .i64 y.n, .int .i64 y.s, .string y.p, .int .i64 y.k, .int .i64 y.m, .slice y.A y.l y.c, .slice y.B y.bl y.bc] 30)
  have W9 := Lib.hid hw9
  have INS := Lib.hid (insev_any w9 A7 c7 ys i w8.heap.size y (O8.out.chg c9 (by simp)) PI.out.1 (by have := L7.out; omega) b9 (fun a ha e => by
    have := O8.out.lt a ha
    omega))
  have C69 := Lib.hid (C68.out.trans c9)
  clear hw9 c9 b9 O8
  obtain ⟨y0, y1, y2, y3, y4, y5, y6⟩ := HB.out _ (PC6.out.trans C68.out)
  go_wp2_with (rw [← W9.out])
  clear y0 y1 y2 y3 y4 y5 y6
  refine INS.out.mono ?_
  rintro r wa ⟨Aa, ca, rfl, hoa, hna, hca⟩
  have ZL : Hid (ys.length + 1 = (ys.take i ++ y :: ys.drop i).length) := Lib.hid (by have := PI.out.1; simp; omega)
  have C6a := Lib.hid (hca w6 C69.out N7.out)
  have OA := Lib.hid hoa
  have PA := Lib.hid (PI.out.2.chg C6a.out)
  obtain ⟨zs, hzs⟩ : ∃ zs, zs = ys.take i ++ y :: ys.drop i := ⟨_, rfl⟩
  have LZ : Hid (zs.length ≤ 100000) := Lib.hid (by rw [hzs, ← ZL.out]; have := L7.out; omega)
  rw [← hzs] at ZL OA PA
  clear hoa hna hca hzs INS C69 C68 W9
  rw [ZL.out]
  have FE := Lib.hid (frevents_any wa Aa ca zs (putE es f) OA.out.reads PA.out LZ.out (fun e he => (put_mem he).elim (fun q => by rw [q]; exact ⟨HT.out.2.1, HTQ.out⟩) (HQ.out e)))
  go_wp2_with fail
  refine FE.out.mono ?_
  rintro r wb ⟨Ab, cb, us, rfl, hl, he, hc⟩
  have P7 := Lib.hid (And.intro he (C1.out.trans (PC6.out.trans (C6a.out.trans hc))))
  have LO : Hid (w.heap.size ≤ wa.heap.size) := Lib.hid (Nat.le_trans C1.out.size (Nat.le_trans PC6.out.size C6a.out.size))
  clear hl he hc FE
  go_wp2
  go_ret2
  rw [YES.out]
  exact ⟨Ab, cb, us, rfl, P7.out.1.low LO.out, P7.out.2⟩
end
section
open Go.RowKit Go.Lib
set_option linter.unusedSimpArgs false
set_option linter.unusedVariables false


theorem EsF.mono {w : World} {lo hi hi' : Nat} {A : Option Addr} {c : Nat} {ys : List EvT} {es : List EvP} (h : EsF w lo hi A c ys es) (hh : hi ≤ hi') : EsF w lo hi' A c ys es :=
  ⟨h.row, fun a ha => ⟨(h.rowAt a ha).1, Nat.lt_of_lt_of_le (h.rowAt a ha).2 hh⟩, h.all.mono hh⟩
set_option maxRecDepth 100000 in
set_option maxHeartbeats 16000000 in
/-- Events put behind one another, till there is an error. -/
theorem shfold_any (w : World) (lo : Nat) (A B : Option Addr) (c d : Nat) (xs ys : List EvT) (es fs : List EvP) (h : RdK evTy w A xs.length xs) (hx : EvsR w xs es) (ho : EsF w lo w.heap.size B d ys fs) (hn : xs.length + ys.length ≤ 1000) (hs : ∀ e ∈ es, EvSm e ∧ e.q.length ≤ 100000) (ht : ∀ e ∈ fs, EvSm e ∧ e.q.length ≤ 100000) (sa : ShOk es) (sb : ShOk fs) (hlo : lo ≤ w.heap.size) :
    Calls Tryz.prog 41 #[.slice A xs.length c, .slice B ys.length d, .func (.func 10) #[] #[]] w fun r w' => ∃ (A' : Option Addr) (c' : Nat) (zs : List EvT), r = .returned (.tuple #[.slice A' zs.length c', .int .i64 (shJoinE fs es).1]) ∧ EsF w' lo w'.heap.size A' c' zs (shJoinE fs es).2 ∧ Chg [] w w' := by

  have HA := Lib.hid h
  have HX := Lib.hid hx
  have HN := Lib.hid hn
  have HS := Lib.hid hs
  have HT := Lib.hid ht
  have SA := Lib.hid sa
  have SB := Lib.hid sb
  have LO := Lib.hid hlo
  have O := Lib.hid ho
  have XL : Hid (xs.length = es.length) := Lib.hid hx.1
  have YL : Hid (ys.length = fs.length) := Lib.hid ho.all.ev.1
  clear h hx hn hs ht sa sb hlo ho
  go_enter Tryz.func41, Tryz.ntmps41
  go_wp2
  go_loopw [1, 8, 13] (fun v1 v8 v13 wr => ∃ (k : Nat) (A1 : Option Addr) (d1 : Nat) (zs : List EvT) (cs : List EvP) (er : Int), k ≤ xs.length ∧ v13 = .int .i64 k ∧ v1 = .slice A1 zs.length d1 ∧ v8 = .int .i64 er ∧ Hid (cs = (es.take k).foldl putE fs) ∧ Hid (k = 0 ∨ onePath fs es) ∧ Hid (EsF wr lo wr.heap.size A1 d1 zs cs) ∧ Hid (Chg [] w wr)) (fun _ _ v13 _ => xs.length - (RowKit.intOf v13).toNat)
  case atStart => exact ⟨0, B, d, ys, fs, 0, Nat.zero_le _, rfl, rfl, rfl, Lib.hid rfl, Lib.hid (.inl rfl), O, Chg.refl _ _⟩
  case round =>
    obtain ⟨k, A1, d1, zs, cs, er, hk, rfl, rfl, rfl, CS, GP, PO, PC⟩ := hrel
    have j0 : (0 : Int) ≤ (k : Int) := by omega
    by_cases hlt : k < xs.length
    · have j1 : (k : Int) < (xs.length : Int) := by omega
      have j3 : IntKind.i64.wrap ((k : Int) + 1) = (k : Int) + 1 := IntWalk.i64_in _ (by have := HN.out; omega)
      obtain ⟨g3, o3, eA, _⟩ := HA.out.line (by omega)
      subst eA
      obtain ⟨x, e, ex, ee, rx⟩ := HX.out.at_ hlt
      obtain ⟨z0, z1, z2, z3, z4, z5, z6⟩ := evCells (HA.out.chg PC.out (by simp)) ex
      have EE := Lib.hid ee
      have RX1 := Lib.hid rx
      have EM := Lib.hid (List.mem_of_getElem? ee)
      clear ex ee rx
      obtain ⟨w5, hw5, c5, b5⟩ := news1 wr (.cells #[.int .i64 x.n, .int .i64 x.s, .string x.p, .int .i64 x.k, .int .i64 x.m, .slice x.A x.l x.c, .slice x.B x.bl x.bc] 30)
      have W5 := Lib.hid hw5
      have CMEM : Hid (∀ f ∈ cs, EvSm f ∧ f.q.length ≤ 100000) := Lib.hid (fun f hf => by
        rw [CS.out] at hf
        rcases puts_mem hf with q | q
        · exact HT.out f q
        · exact HS.out f (List.mem_of_mem_take q))
      have CLEN : Hid (cs.length ≤ fs.length + k) := Lib.hid (by
        rw [CS.out]
        have a := puts_len (es.take k) fs
        rw [List.length_take] at a
        omega)
      have ZL : Hid (zs.length ≤ 1000) := Lib.hid (by have := PO.out.all.ev.1; have := CLEN.out; have := HN.out; have := YL.out; omega)
      have CALL := Lib.hid (shput_any w5 A1 d1 zs cs x e (PO.out.row.reads.chg c5 (by simp)) (PO.out.all.ev.chg c5) ZL.out CMEM.out (RX1.out.chg (PC.out.trans c5)) (HS.out e EM.out))
      have LO5 : Hid (lo ≤ w5.heap.size) := Lib.hid (Nat.le_trans LO.out (Nat.le_trans PC.out.size c5.size))
      replace PC := Lib.hid (PC.out.trans c5)
      have y0 := cell_of b5 0
      have y1 := cell_of b5 1
      have y2 := cell_of b5 2
      have y3 := cell_of b5 3
      have y4 := cell_of b5 4
      have y5 := cell_of b5 5
      have y6 := cell_of b5 6
      simp only [List.getElem?_toArray, List.getElem?_cons_succ, List.getElem?_cons_zero] at y0 y1 y2 y3 y4 y5 y6
      clear hw5 c5 b5
      go_upto_region 5 with fail
      rw [← W5.out]
      generalize wr.heap.size = g6 at *
      clear W5 z0 z1 z2 z3 z4 z5 z6
      go_wp2_with fail
      clear y0 y1 y2 y3 y4 y5 y6
      refine CALL.out.mono ?_
      rintro r w7 ⟨A7, c7, us, rfl, he, hc⟩
      replace PC := Lib.hid (PC.out.trans hc)
      have O7 := Lib.hid (he.low LO5.out)
      clear he hc CALL PO
      have SC : Hid ((∃ y0, es[0]? = some y0)) := Lib.hid ⟨es[0]'(by have := XL.out; omega), List.getElem?_eq_getElem _⟩
      by_cases hp : onePath fs es
      · have OKC : Hid (ShOk cs) := Lib.hid (by
          rw [CS.out]
          exact puts_ok (es.take k) fs SB.out (fun y hy => SA.out.1 y (List.mem_of_mem_take hy)) (fun u hu v hv => hp u hu v (List.mem_of_mem_take hv)) (fun u hu v hv => SA.out.2.1 u (List.mem_of_mem_take hu) v (List.mem_of_mem_take hv)))
        have VJ : Hid (shJoinE cs [e] = (0, putE cs e)) := Lib.hid (shPut_yes OKC.out (SA.out.1 e EM.out) (fun u hu => by
          have hm := List.mem_of_getElem? hu
          rw [CS.out] at hm
          rcases puts_mem hm with q | q
          · exact hp u q e EM.out
          · exact SA.out.2.1 u (List.mem_of_mem_take q) e EM.out))
        have CS1 : Hid (putE cs e = (es.take (k + 1)).foldl putE fs) := Lib.hid (by
          rw [List.take_add_one, EE.out]
          simp only [Option.toList, List.foldl_append, List.foldl_cons, List.foldl_nil]
          rw [← CS.out])
        have HP := Lib.hid hp
        clear hp
        rw [VJ.out] at O7 ⊢
        go_wp2
        go_round
        case rel => exact ⟨k + 1, A7, c7, us, putE cs e, 0, by omega, by go_num, rfl, rfl, CS1, Lib.hid (.inr HP.out), O7, PC⟩
        case measure => simp [RowKit.intOf]; omega
      · have NO : Hid (shJoinE fs es = (2, [])) := Lib.hid (by
          unfold shJoinE
          rw [if_neg (fun q => hp q.2.2)])
        have K0 : k = 0 := by
          rcases GP.out with q | q
          · exact q
          · exact absurd q hp
        have VJ : Hid (shJoinE cs [e] = (2, [])) := Lib.hid (by
          subst K0
          have c0 : cs = fs := by rw [CS.out]; rfl
          rw [c0]
          unfold shJoinE
          rw [if_neg]
          rintro ⟨_, _, q⟩
          refine hp (fun u hu v hv => ?_)
          rw [q u hu e (by simp), SA.out.2.1 e EM.out v hv])
        clear hp K0
        rw [VJ.out] at O7 ⊢
        go_wp2
        go_ret2
        rw [NO.out]
        exact ⟨none, 0, [], rfl, EsF.nil _ _ _, PC.out⟩
    · obtain rfl : k = xs.length := by omega
      have j1 : ¬ (xs.length : Int) < (xs.length : Int) := by omega
      have FIN : Hid (shJoinE fs es = (0, cs)) := Lib.hid (by
        have e1 : es.take xs.length = es := by rw [XL.out, List.take_length]
        have cse := CS.out
        rw [e1] at cse
        rw [cse]
        unfold shJoinE
        by_cases q : onePath fs es
        · rw [if_pos ⟨SB.out, SA.out, q⟩]
        · rcases GP.out with g | g
          · have h0 : es = [] := List.length_eq_zero_iff.1 (by have := XL.out; omega)
            subst h0
            exact absurd (fun x hx y hy => by simp at hy) q
          · exact absurd g q)
      go_wp2
      go_ret2
      rw [FIN.out]
      exact ⟨A1, d1, zs, rfl, PO.out, PC.out⟩

set_option maxRecDepth 100000 in
set_option maxHeartbeats 16000000 in
/-- Shelves joined. -/
theorem shjoin_any (w : World) (A B : Option Addr) (c d : Nat) (xs ys : List EvT) (es fs : List EvP) (h : RdK evTy w A xs.length xs) (h' : RdK evTy w B ys.length ys) (hx : EvsR w xs es) (hy : EvsR w ys fs) (hn : xs.length + ys.length ≤ 1000) (hs : ∀ e ∈ es, EvSm e ∧ e.q.length ≤ 100000) (ht : ∀ e ∈ fs, EvSm e ∧ e.q.length ≤ 100000) :
    Calls Tryz.prog 12 #[.slice A xs.length c, .slice B ys.length d] w fun r w' => ∃ (A' : Option Addr) (c' : Nat) (zs : List EvT), r = .returned (.tuple #[.slice A' zs.length c', .int .i64 (shJoinE es fs).1]) ∧ EsF w' w.heap.size w'.heap.size A' c' zs (shJoinE es fs).2 ∧ Chg [] w w' := by

  have HA := Lib.hid h
  have HB := Lib.hid h'
  have HX := Lib.hid hx
  have HY := Lib.hid hy
  have HN := Lib.hid hn
  have HS := Lib.hid hs
  have HT := Lib.hid ht
  clear h h' hx hy hn hs ht
  go_enter Tryz.func12, Tryz.ntmps12
  go_wp2_with fail
  refine (shcheck_any w A c xs es HA.out HX.out (by have := HN.out; omega) (fun e he => (HS.out e he).1)).mono ?_
  rintro r w1 ⟨rfl, hc⟩
  have C1 := Lib.hid hc
  clear hc
  rcases shE_two es with e1 | e1
  rotate_left
  · have NO : Hid (shJoinE es fs = (2, [])) := Lib.hid (shJoin_noA (fun q => by rw [shE_zero.2 q] at e1; cases e1))
    rw [e1]
    clear e1
    go_wp2
    go_ret2
    rw [NO.out]
    exact ⟨none, 0, [], rfl, EsF.nil _ _ _, C1.out⟩
  have SA := Lib.hid (shE_zero.1 e1)
  rw [e1]
  clear e1
  go_wp2_with fail
  refine (shcheck_any w1 B d ys fs (HB.out.chg C1.out (by simp)) (HY.out.chg C1.out) (by have := HN.out; omega) (fun e he => (HT.out e he).1)).mono ?_
  rintro r w2 ⟨rfl, hc⟩
  have C2 := Lib.hid (C1.out.trans hc)
  clear hc C1
  rcases shE_two fs with e1 | e1
  rotate_left
  · have NO : Hid (shJoinE es fs = (2, [])) := Lib.hid (shJoin_noB (fun q => by rw [shE_zero.2 q] at e1; cases e1))
    rw [e1]
    clear e1
    go_wp2
    go_ret2
    rw [NO.out]
    exact ⟨none, 0, [], rfl, EsF.nil _ _ _, C2.out⟩
  have SB := Lib.hid (shE_zero.1 e1)
  rw [e1]
  clear e1
  go_wp2_with fail
  refine (frevents_any w2 A c xs es (HA.out.chg C2.out (by simp)) (HX.out.chg C2.out) (by have := HN.out; omega) (fun e he => ⟨(HS.out e he).1.2.1, (HS.out e he).2⟩)).mono ?_
  rintro r w3 ⟨A3, c3, zs, rfl, hl, he, hc⟩
  have C3 := Lib.hid (C2.out.trans hc)
  have P3 := Lib.hid (he.low C2.out.size)
  have ZL := Lib.hid hl
  clear hc he hl C2
  go_wp2_with fail
  refine (shfold_any w3 w.heap.size B A3 d c3 ys zs fs es (HB.out.chg C3.out (by simp)) (HY.out.chg C3.out) P3.out (by have := HN.out; have := ZL.out; omega) HT.out HS.out SB.out SA.out C3.out.size).mono ?_
  rintro r w4 ⟨A4, c4, us, rfl, he, hc⟩
  have P4 := Lib.hid (And.intro he (C3.out.trans hc))
  clear hc he
  go_wp2
  go_ret2
  exact ⟨A4, c4, us, rfl, P4.out.1, P4.out.2⟩
end
section
open Go.RowKit
set_option linter.unusedSimpArgs false
set_option linter.unusedVariables false
theorem okB_iff (b : UInt8) : okB b = true ↔ (97 ≤ (b.toNat : Int) ∧ (b.toNat : Int) ≤ 122) ∨ (48 ≤ (b.toNat : Int) ∧ (b.toNat : Int) ≤ 57) ∨ (b.toNat : Int) = 46 ∨ (b.toNat : Int) = 95 ∨ (b.toNat : Int) = 45 := by
  have h := foreign_byte b
  have : okB b = !foreignR b.toNat := by rw [h]; simp
  rw [this]
  simp [foreignR]
  omega
theorem okB_not (b : UInt8) : okB b = false ↔ ¬ ((97 ≤ (b.toNat : Int) ∧ (b.toNat : Int) ≤ 122) ∨ (48 ≤ (b.toNat : Int) ∧ (b.toNat : Int) ≤ 57) ∨ (b.toNat : Int) = 46 ∨ (b.toNat : Int) = 95 ∨ (b.toNat : Int) = 45) := by
  rw [← okB_iff]
  simp
theorem part_bad {l : List UInt8} {k : Nat} (h : k < l.length) (hb : okB l[k] = false) : partL 12 l = false := by
  have : l.all okB = false := by
    rw [List.all_eq_false]
    exact ⟨l[k], List.getElem_mem h, by simp [hb]⟩
  simp [partL, this]
theorem strOf_get (l : List UInt8) (k : Nat) (h : k < (strOf l).size) (h' : k < l.length) : (strOf l)[k] = l[k] := by
  show (strOf l).data[k] = l[k]
  simp [strOf]
set_option maxHeartbeats 4000000 in
theorem qpart_any (w : World) (l : List UInt8) (hlen : l.length ≤ 140737488351232) :
    Calls Tryz.prog 113 #[.string (strOf l)] w fun e w' => e = .returned (.bool (partL 12 l)) ∧ w' = w := by
  have hs := strOf_size l
  go_enter Tryz.func113, Tryz.ntmps113
  go_wp2
  go_loopw [3, 4] (fun v3 v4 wr => ∃ k : Nat, k ≤ l.length ∧ v3 = .int .i64 (k : Int) ∧ (l.take k).all okB = true ∧ wr = w) (fun v3 _ _ => l.length - (RowKit.intOf v3).toNat)
  case atStart => exact ⟨0, Nat.zero_le _, rfl, rfl, rfl⟩
  case round =>
    obtain ⟨k, hk, rfl, hall, rfl⟩ := hrel
    by_cases hlt : k < l.length
    · have ex := List.getElem?_eq_getElem hlt
      have i0 : (0 : Int) ≤ (k : Int) := by omega
      have i1 : (k : Int) < ((strOf l).size : Int) := by omega
      have hb := strOf_get l k (by omega) hlt
      have HB := Lib.hid hb
      have HA := Lib.hid hall
      clear hb hall ex
      go_wp2
      all_goals (try simp only [bne_iff_ne, ne_eq, bne_eq_false_iff_eq] at *)
      all_goals first
        | (go_ret; exact ⟨by rw [part_bad hlt (by rw [← HB.out, okB_not]; omega)]; rfl, rfl⟩)
        | (refine ⟨⟨k + 1, by omega, by simp, ?_, trivial⟩, by simp [RowKit.intOf]; omega⟩
           have ho : okB l[k] = true := by rw [← HB.out, okB_iff]; omega
           rw [List.take_succ_eq_append_getElem hlt, List.all_append, HA.out]
           simp [ho])
    · obtain rfl : k = l.length := by omega
      rw [List.take_length] at hall
      have HA := Lib.hid hall
      clear hall
      go_wp2
      all_goals (try simp only [bne_iff_ne, ne_eq, bne_eq_false_iff_eq] at *)
      all_goals
        go_ret
        refine ⟨congrArg (fun b => Ending.returned (Value.bool b)) ?_, rfl⟩
        rw [Bool.eq_iff_iff]
        simp [partL, HA.out]
      all_goals first
        | (intros; omega)
        | (intro a b c; exact absurd (by assumption) c)
end
section
open Go.RowKit
set_option linter.unusedSimpArgs false
set_option linter.unusedVariables false
theorem own_app {w w6 w7 : World} {B A2 : Option Addr} (hB : ∀ a, B = some a → w.heap.size ≤ a.block) (hC : Chg [] w w6) (d2 : w6.grownBy w7 (B.map (·.block))) (e2 : A2 = B ∨ A2 = some ⟨w6.heap.size, 0, none⟩) : (∀ a, A2 = some a → w.heap.size ≤ a.block) ∧ Chg [] w w7 := by
  refine ⟨?_, hC.grown d2 (fun i hi => ?_)⟩
  · rcases e2 with rfl | rfl
    · exact hB
    · rintro a ⟨⟩; exact hC.size
  · cases B with
    | none => simp at hi
    | some a => simp at hi; subst hi; exact .inr (hB a rfl)
/-- A loop that goes through a text, with the piece under way between from and i. -/
theorem cut_mid (l : List UInt8) (fr i : Nat) (hi : i < l.length) (hfi : fr ≤ i) :
    cutA ((l.drop fr).take (i - fr)) (l.drop i) = if l[i] = 47 then (l.drop fr).take (i - fr) :: cutA ((l.drop (i + 1)).take 0) (l.drop (i + 1)) else cutA ((l.drop fr).take (i + 1 - fr)) (l.drop (i + 1)) := by
  rw [List.drop_eq_getElem_cons hi, cutA]
  split
  · simp
  · congr 1
    rw [show i + 1 - fr = (i - fr) + 1 by omega, List.take_succ_eq_append_getElem (by simp; omega)]
    congr 2
    rw [List.getElem_drop]
    congr 1
    omega
set_option maxRecDepth 100000 in
set_option maxHeartbeats 4000000 in
theorem qcut_any (w : World) (l : List UInt8) (hlen : l.length ≤ 10000000) :
    Calls Tryz.prog 112 #[.string (strOf l)] w fun e w' => ∃ A c, e = .returned (.slice A (cutL l).length c) ∧ OwnK textTy w' A c (cutL l) ∧ (∀ a, A = some a → w.heap.size ≤ a.block) ∧ Chg [] w w' := by
  have hs := strOf_size l
  go_enter Tryz.func112, Tryz.ntmps112
  go_wp2
  go_loopw [3, 4, 5] (fun v3 v4 v5 wr => ∃ (i fr : Nat) (out : List (List UInt8)) (B : Option Addr) (c : Nat), i ≤ l.length ∧ fr ≤ i ∧ v3 = .slice B out.length c ∧ v4 = .int .i64 (fr : Int) ∧ v5 = .int .i64 (i : Int) ∧ Hid (out ++ cutA ((l.drop fr).take (i - fr)) (l.drop i) = cutL l ∧ out.length ≤ i) ∧ Hid (OwnK textTy wr B c out ∧ (∀ a, B = some a → w.heap.size ≤ a.block) ∧ Chg [] w wr)) (fun _ _ v5 _ => l.length - (RowKit.intOf v5).toNat)
  case atStart => exact ⟨0, 0, [], none, 0, Nat.zero_le _, Nat.le_refl _, rfl, rfl, rfl, ⟨rfl, Nat.le_refl _⟩, OwnK.none_ _, by simp, Chg.refl _ _⟩
  case round =>
    obtain ⟨i, fr, out, B, c, hi, hfi, rfl, rfl, rfl, HC, HI⟩ := hrel
    by_cases hlt : i < l.length
    · have hm := cut_mid l fr i hlt hfi
      have hb := strOf_get l i (by omega) hlt
      have i0 : (0 : Int) ≤ (i : Int) := by omega
      have i1 : (i : Int) < ((strOf l).size : Int) := by omega
      have k1 : IntKind.i64.wrap ((i : Int) + 1) = (i : Int) + 1 := IntWalk.i64_in _ (by omega)
      by_cases h47 : l[i] = 47
      · rw [if_pos h47] at hm
        have HM := Lib.hid hm
        have hb2 : (((strOf l)[i].toNat : Int) == 47) = true := by rw [hb, h47]; rfl
        clear hm h47 hb
        have i2 : (fr : Int) ≤ (i : Int) := by omega
        have i3 : (i : Int) ≤ ((strOf l).size : Int) := by omega
        have i4 : (0 : Int) ≤ (fr : Int) := by omega
        have i5 : i ≤ (strOf l).size := by omega
        have ee : (strOf l).extract fr i = strOf ((l.drop fr).take (i - fr)) := strOf_ext l fr i
        generalize (l.drop fr).take (i - fr) = p at *
        obtain ⟨w5, hw5, c5, b5⟩ := news1 wr (.cells #[.string (strOf p)] 9)
        have W5 := Lib.hid hw5
        have R5 := Lib.hid (OwnK.of (R := textTy) (c := 1) (full := [p]) (xs := [p]) b5 (Nat.le_refl _) (by decide) rfl rfl).reads
        have O5 := Lib.hid (HI.out.1.chg c5 (by simp))
        have BND := Lib.hid (show (out.length + 1) * 400 ≤ 140737488355327 by have := HC.out.2; omega)
        have C5 := Lib.hid (HI.out.2.2.trans c5)
        clear hw5 c5 b5
        go_wp2_with (at_builtin; rw [← W5.out]; refine wpList_appK (R := textTy) rfl _ _ rfl rfl O5.out rfl rfl R5.out BND.out ?_; intro A2 c2 w7 u2 d2 e2)
        have AO := own_app (w := w) HI.out.2.1 C5.out d2 e2
        refine ⟨⟨i + 1, i + 1, out ++ [p], A2, c2, by omega, Nat.le_refl _, by simp, by simp, by simp, ⟨?_, ?_⟩, ⟨u2, AO.1, AO.2⟩⟩, by simp [RowKit.intOf]; omega⟩
        · rw [← HC.out.1, HM.out, Nat.sub_self]
          simp
        · have := HC.out.2
          simp
          omega
      · rw [if_neg h47] at hm
        have HM := Lib.hid hm
        have hb2 : (((strOf l)[i].toNat : Int) == 47) = false := by
          rw [hb, beq_eq_false_iff_ne]
          intro e
          have : l[i].toNat = (47 : UInt8).toNat := by rw [show (47 : UInt8).toNat = 47 from rfl]; omega
          exact h47 (UInt8.toNat_inj.1 this)
        clear hm h47 hb
        go_wp2
        exact ⟨⟨i + 1, fr, out, B, c, by omega, by omega, rfl, rfl, by simp, ⟨by rw [← HC.out.1, HM.out], by have := HC.out.2; omega⟩, HI⟩, by simp [RowKit.intOf]; omega⟩
    · obtain rfl : i = l.length := by omega
      have hp : (l.drop fr).take (l.length - fr) = l.drop fr := List.take_of_length_le (by simp)
      have hc := HC.out.1
      rw [hp, List.drop_length, cutA] at hc
      have i2 : (fr : Int) ≤ ((strOf l).size : Int) := by omega
      have i4 : (0 : Int) ≤ (fr : Int) := by omega
      have i5 : fr ≤ (strOf l).size := by omega
      have ee : (strOf l).extract fr (strOf l).size = strOf (l.drop fr) := by rw [strOf_ext, hs, hp]
      rw [hs] at ee
      generalize l.drop fr = p at *
      obtain ⟨w5, hw5, c5, b5⟩ := news1 wr (.cells #[.string (strOf p)] 9)
      have W5 := Lib.hid hw5
      have R5 := Lib.hid (OwnK.of (R := textTy) (c := 1) (full := [p]) (xs := [p]) b5 (Nat.le_refl _) (by decide) rfl rfl).reads
      have O5 := Lib.hid (HI.out.1.chg c5 (by simp))
      have BND := Lib.hid (show (out.length + 1) * 400 ≤ 140737488355327 by have := HC.out.2; omega)
      have C5 := Lib.hid (HI.out.2.2.trans c5)
      have HC2 := Lib.hid hc
      clear hw5 c5 b5 hc hp HC
      go_wp2_with (at_builtin; rw [← W5.out]; refine wpList_appK (R := textTy) rfl _ _ rfl rfl O5.out rfl rfl R5.out BND.out ?_; intro A2 c2 w7 u2 d2 e2)
      go_ret
      have AO := own_app (w := w) HI.out.2.1 C5.out d2 e2
      exact ⟨A2, c2, by rw [← HC2.out]; simp, by rw [← HC2.out]; exact u2, AO.1, AO.2⟩
end
end Go.Proofs.YtdfapiffalmjcaaGreatDoor
