/- The walk of past.Read. past.Read of all bytes. A past's bytes are read as it; what is read has just these bytes. Plain. event.Read. The kit's OverEvents over one event. The kit's OverEvents over a list in memory of its own. -/
import Derived.Test.YtomgjogkkoigbaaGreatDoorZsts
import Derived.Deep.RegionHeld3
import Derived.Test.YtomgjogkkoigbaaGreatDoorZstm
import Derived.Test.YtomgjogkkoigbaaGreatDoorZstd
import Derived.Test.YtomgjogkkoigbaaGreatDoorZsti
import Derived.Deep.Cut
import Derived.Test.YtomgjogkkoigbaaGreatDoorZsta
set_option linter.unusedSimpArgs false
set_option linter.unusedVariables false
namespace Go.Proofs.YtomgjogkkoigbaaGreatDoor
section
open Go.RowKit Go.Lib

theorem getElem?_of_drop {α : Type} {xs ys : List α} {k i : Nat} (h : xs.drop k = ys.drop k) (hi : k ≤ i) : xs[i]? = ys[i]? := by
 have := congrArg (fun l => l[i - k]?) h
 simpa [List.getElem?_drop, Nat.add_sub_cancel' hi] using this
def RestE (w : World) (k : Nat) (ys : List EvT) (es : List EvP) : Prop := ∀ (i : Nat) (y : EvT) (e : EvP), k ≤ i → ys[i]? = some y → es[i]? = some e → OwnB w y.A y.c e.b ∧ OwnK spanTy w y.B y.bc e.q
theorem RestE.chg {S : List Nat} {w w' : World} {k : Nat} {ys : List EvT} {es : List EvP} (h : RestE w k ys es) (hc : Chg S w w') (hS : ∀ (i : Nat) (y : EvT), k ≤ i → ys[i]? = some y → ∀ a, (y.A = some a ∨ y.B = some a) → a.block ∉ S) : RestE w' k ys es := fun i y e hi hy he =>
 ⟨(h i y e hi hy he).1.chg hc (fun a ha => hS i y hi hy a (.inl ha)), (h i y e hi hy he).2.chg hc (fun a ha => hS i y hi hy a (.inr ha))⟩
theorem RestE.next {w : World} {k k' : Nat} {ys : List EvT} {es : List EvP} (h : RestE w k ys es) (hk : k ≤ k') : RestE w k' ys es := fun i y e hi => h i y e (by omega)
def Within (lo hi : Nat) (w w' : World) : Prop := ∃ S : List Nat, (∀ i ∈ S, lo ≤ i ∧ i < hi) ∧ Chg S w w'
theorem Within.refl (lo hi : Nat) (w : World) : Within lo hi w w := ⟨[], by simp, Chg.refl _ _⟩
theorem Within.more {lo hi : Nat} {w w1 w2 : World} {S : List Nat} (h : Within lo hi w w1) (hS : ∀ i ∈ S, lo ≤ i ∧ i < hi) (hc : Chg S w1 w2) : Within lo hi w w2 := by
 obtain ⟨T, hT, hw⟩ := h
 exact ⟨T ++ S, fun i hi => (List.mem_append.1 hi).elim (fun q => hT i q) (fun q => hS i q), (hw.mono (S' := T ++ S) (fun i hi => .inl (List.mem_append_left _ hi))).trans (hc.mono (S' := T ++ S) (fun i hi => .inl (List.mem_append_right _ hi)))⟩
set_option maxRecDepth 100000 in
set_option maxHeartbeats 8000000 in
theorem overevs_own (w : World) (lo hi : Nat) (A : Option Addr) (c : Nat) (ys : List EvT) (es : List EvP) (h : EsF w lo hi A c ys es) (hn : ys.length ≤ 100000) :
  Calls Tryz.prog 18 #[.slice A ys.length c] w fun r w' => r = .returned (.tuple #[]) ∧ Within lo hi w w' := by
 have HL : Hid (∀ (i : Nat) (y : EvT) (e : EvP), ys[i]? = some y → es[i]? = some e → y.l = e.b.length ∧ y.bl = e.q.length) := Lib.hid (fun i y e hy he => ⟨(h.all.ev.2 i y e hy he).l, (h.all.ev.2 i y e hy he).bl⟩)
 have HE : Hid (ys.length = es.length) := Lib.hid h.all.ev.1
 have R0 : Hid (OwnK evTy w A c ys) := Lib.hid h.row
 have RA := Lib.hid h.rowAt
 have RS0 : Hid (RestE w 0 ys es) := Lib.hid (fun i y e _ hy he => h.all.own i y e hy he)
 have AT := Lib.hid h.all.at_
 have TWO := Lib.hid h.all.two
 have APT := Lib.hid h.all.apart
 have HN := Lib.hid hn
 clear h hn
 go_enter Tryz.func18, Tryz.ntmps18
 go_wp2
 go_loopw [2] (fun v2 wr => ∃ (k : Nat) (zs : List EvT), k ≤ ys.length ∧ v2 = .int .i64 k ∧ Hid (zs.length = ys.length ∧ zs.drop k = ys.drop k) ∧ Hid (OwnK evTy wr A c zs) ∧ Hid (RestE wr k ys es) ∧ Hid (Within lo hi w wr)) (fun v2 _ => ys.length - (RowKit.intOf v2).toNat)
 case atStart => exact ⟨0, ys, Nat.zero_le _, rfl, Lib.hid ⟨rfl, rfl⟩, R0, RS0, Lib.hid (Within.refl _ _ _)⟩
 case round =>
  obtain ⟨k, zs, hk, rfl, ZL, RO, RS, RW⟩ := hrel
  have i0 : (0 : Int) ≤ (k : Int) := by omega
  by_cases hlt : k < ys.length
  ·
   have i1 : (k : Int) < (ys.length : Int) := by omega
   have i3 : IntKind.i64.wrap ((k : Int) + 1) = (k : Int) + 1 := IntWalk.i64_in _ (by have := HN.out; omega)
   obtain ⟨y, hy⟩ : ∃ y, ys[k]? = some y := ⟨_, List.getElem?_eq_getElem hlt⟩
   obtain ⟨e, he⟩ : ∃ e, es[k]? = some e := ⟨_, List.getElem?_eq_getElem (by rw [← HE.out]; exact hlt)⟩
   have hz : zs[k]? = some y := by rw [getElem?_of_drop ZL.out.2 (Nat.le_refl _)]; exact hy
   obtain ⟨q, eq, hg⟩ : ∃ g, A = some ⟨g, 0, none⟩ ∧ g < wr.heap.size := by
    rcases RO.out.shape with ⟨_, q, _⟩ | q
    ·
     rw [q] at hz; simp at hz
    ·
     exact q
   subst eq
   obtain ⟨oa, ob⟩ := RS.out k y e (Nat.le_refl _) hy he
   have OA := Lib.hid oa
   have OB := Lib.hid ob
   have my := List.mem_of_getElem? hy
   have YA : Hid (∀ a, (y.A = some a ∨ y.B = some a) → lo ≤ a.block ∧ a.block < hi ∧ a.block ≠ q) := Lib.hid (fun a ha => ⟨(AT.out y my a ha).1, (AT.out y my a ha).2.1, (AT.out y my a ha).2.2 _ rfl⟩)
   have Y2 := Lib.hid (TWO.out y my)
   have YO : Hid (∀ (i : Nat) (x : EvT), k + 1 ≤ i → ys[i]? = some x → ∀ a b, (y.A = some a ∨ y.B = some a) → (x.A = some b ∨ x.B = some b) → a.block ≠ b.block) := Lib.hid (fun i x hi hx a b p r => by
    obtain ⟨l1, e1⟩ := List.getElem?_eq_some_iff.1 hy
    obtain ⟨l2, e2⟩ := List.getElem?_eq_some_iff.1 hx
    have := List.pairwise_iff_getElem.1 APT.out k i l1 l2 (by omega)
    rw [e1, e2] at this
    exact this a b p r)
   have YX : Hid (∀ (i : Nat) (x : EvT), k + 1 ≤ i → ys[i]? = some x → ∀ a, (x.A = some a ∨ x.B = some a) → a.block ≠ q) := Lib.hid (fun i x hi hx a ha => (AT.out x (List.mem_of_getElem? hx) a ha).2.2 _ rfl)
   have YL := Lib.hid (HL.out k y e hy he)
   have QA := Lib.hid (RA.out _ rfl)
   replace RS := Lib.hid (RS.out.next (Nat.le_succ k))
   have HZ := Lib.hid hz
   obtain ⟨z0, z1, z2, z3, z4, z5, z6⟩ := evCells RO.out.reads hz
   rw [Nat.zero_add] at z0 z1 z2 z3 z4 z5 z6
   clear oa ob my hz hy he; go_wp2_with fail; clear z0 z1 z2 z3 z4 z5 z6
   refine (over_own _ y.A y.c y.l e.b OA.out YL.out.1).mono ?_
   rintro r w2 ⟨rfl, h2⟩
   obtain ⟨S2, hS2, h2⟩ := over_only h2
   have B2 := Lib.hid (RO.out.chg h2 (fun a ha p => by cases ha; obtain ⟨b, hb, e⟩ := hS2 _ p; exact (YA.out b (.inl hb)).2.2 e))
   have OB2 := Lib.hid (OB.out.chg h2 (fun b hb p => by obtain ⟨a, ha, e⟩ := hS2 _ p; exact Y2.out a b ha hb e))
   have RS2 := Lib.hid (RS.out.chg h2 (fun i x hi hx b hb p => by obtain ⟨a, ha, e⟩ := hS2 _ p; exact YO.out i x hi hx a b (.inl ha) hb e))
   have W2 := Lib.hid (RW.out.more (fun i hi => by obtain ⟨a, ha, e⟩ := hS2 _ hi; have := YA.out a (.inl ha); omega) h2)
   clear h2 hS2 OA OB RS RW RO
   obtain ⟨z0, z1, z2, z3, z4, z5, z6⟩ := evCells B2.out.reads HZ.out
   rw [Nat.zero_add] at z0 z1 z2 z3 z4 z5 z6
   go_wp2_with fail; clear z0 z1 z2 z3 z4 z5 z6
   refine (overspan_own w2 y.B y.bl y.bc e.q OB2.out YL.out.2).mono ?_
   rintro r w3 ⟨rfl, h3⟩
   obtain ⟨S3, hS3, h3⟩ := over_only h3
   have B3 := Lib.hid (B2.out.chg h3 (fun a ha p => by cases ha; obtain ⟨b, hb, e⟩ := hS3 _ p; exact (YA.out b (.inr hb)).2.2 e))
   have RS3 := Lib.hid (RS2.out.chg h3 (fun i x hi hx b hb p => by obtain ⟨a, ha, e⟩ := hS3 _ p; exact YO.out i x hi hx a b (.inr ha) hb e))
   have W3 := Lib.hid (W2.out.more (fun i hi => by obtain ⟨a, ha, e⟩ := hS3 _ hi; have := YA.out a (.inr ha); omega) h3)
   clear h3 hS3 OB2 B2 RS2 W2
   obtain ⟨z0, z1, z2, z3, z4, z5, z6⟩ := evCells B3.out.reads HZ.out
   rw [Nat.zero_add] at z0 z1 z2 z3 z4 z5 z6
   have F3 : ∀ j, w3.frozen? ⟨q, j, none⟩ = false := fun j => by
    rcases B3.out with ⟨h, _⟩ | ⟨g', full, e, hg, _⟩
    ·
     cases h
    ·
     cases e; exact free_of hg j
   have f0 := F3 (k * 7)
   have f1 := F3 (k * 7 + 1)
   have f2 := F3 (k * 7 + 2)
   have f3 := F3 (k * 7 + 3)
   have f4 := F3 (k * 7 + 4)
   have f5 := F3 (k * 7 + 5)
   have f6 := F3 (k * 7 + 6)
   clear F3
   have B4 := Lib.hid (B3.out.set7 k _ ⟨0, 0, ⟨#[111, 118, 101, 114]⟩, 0, 0, none, 0, 0, none, 0, 0⟩ HZ.out)
   have C4 := Lib.hid ((Chg.refl [q] w3).set7 (g := q) (.inl (by simp)) (k * 7) (.int .i64 0) (.int .i64 0) (.string ⟨#[111, 118, 101, 114]⟩) (.int .i64 0) (.int .i64 0) (.slice none 0 0) (.slice none 0 0))
   go_wp2; clear z0 z1 z2 z3 z4 z5 z6 f0 f1 f2 f3 f4 f5 f6
   generalize (((((((w3.setCell ⟨q, k * 7, none⟩ (.int .i64 0)).setCell ⟨q, k * 7 + 1, none⟩ (.int .i64 0)).setCell ⟨q, k * 7 + 2, none⟩ (.string ⟨#[111, 118, 101, 114]⟩)).setCell ⟨q, k * 7 + 3, none⟩ (.int .i64 0)).setCell ⟨q, k * 7 + 4, none⟩ (.int .i64 0)).setCell ⟨q, k * 7 + 5, none⟩ (.slice none 0 0)).setCell ⟨q, k * 7 + 6, none⟩ (.slice none 0 0)) = w4 at *
   have RS4 := Lib.hid (RS3.out.chg C4.out (fun i x hi hx b hb p => by simp at p; exact YX.out i x hi hx b hb p))
   have W4 := Lib.hid (W3.out.more (fun i hi => by simp at hi; subst hi; exact QA.out) C4.out)
   have ZL4 : Hid ((zs.set k ⟨0, 0, ⟨#[111, 118, 101, 114]⟩, 0, 0, none, 0, 0, none, 0, 0⟩).length = ys.length ∧ (zs.set k ⟨0, 0, ⟨#[111, 118, 101, 114]⟩, 0, 0, none, 0, 0, none, 0, 0⟩).drop (k + 1) = ys.drop (k + 1)) := Lib.hid ⟨by rw [List.length_set]; exact ZL.out.1, by
    rw [List.drop_set_of_lt (by omega)]
    have := congrArg (List.drop 1) ZL.out.2
    simpa [List.drop_drop] using this⟩
   go_round
   case rel => exact ⟨k + 1, _, by omega, by go_num, ZL4, B4, RS4, W4⟩
   case measure => simp [RowKit.intOf]; omega
  ·
   obtain rfl : k = ys.length := by omega
   have i1 : ¬ (ys.length : Int) < (ys.length : Int) := by omega
   go_wp2
   first | go_end0 | refine bodyPost_ret (results_none rfl _ _ _) rfl ?_
   exact ⟨rfl, RW.out⟩
end
end Go.Proofs.YtomgjogkkoigbaaGreatDoor
