/- The kit's CopyEvents. A writer, a reader that were made since a world w, and all that was there is as it was: the calls in this form. Package effect: compare, Same, Less, Size, Bytes. Package effect: Read. The statements' own functions over effects: SameEffect, LongEffect, of, file, awake. The kit's LongEvents. A row that the library has sorted, or cleared from some place on. slices.SortFunc at structs under a 'cmp' that need not part any two: what was there, in order. Events by their dots. Events in order, by their dots: purely. An event is looked for by its dot. past.push, whatever comes. -/
import Derived.Test.YtgbidlhgmeglmaaGreatDoorZepg
import Derived.Test.YtgbidlhgmeglmaaGreatDoorZepk
import Derived.Deep.Cut
import Derived.Test.YtgbidlhgmeglmaaGreatDoorZepe
import Derived.Test.YtgbidlhgmeglmaaGreatDoorZepf
import Derived.Deep.RegionHeld3
import Derived.Deep.CutRange
import Derived.Test.YtgbidlhgmeglmaaGreatDoorZepb
import Derived.Test.YtgbidlhgmeglmaaGreatDoorZepa
import Derived.Shelf.SlSortCmp.NoneTotal
import Derived.Lib.SlicesCompact
import Derived.Lib.SliceRun
import Derived.Test.YtgbidlhgmeglmaaGreatDoorZepc
namespace Go.Proofs.YtgbidlhgmeglmaaGreatDoor
section
open Go.RowKit Go.Lib
set_option linter.unusedSimpArgs false
set_option linter.unusedVariables false


theorem fresh_appE {w2 w w' : World} {A A' : Option Addr} (hA : ∀ a, A = some a → w2.heap.size ≤ a.block) (hC : Chg [] w2 w) (g : w.grownBy w' (A.map (·.block))) (e : A' = A ∨ A' = some ⟨w.heap.size, 0, none⟩) :
  (∀ a, A' = some a → w2.heap.size ≤ a.block) ∧ Chg [] w2 w' := by
 refine ⟨?_, hC.grown g ?_⟩
 ·
  rintro a ha
  rcases e with rfl | rfl
  ·
   exact hA a ha
  ·
   cases ha; exact hC.size
 ·
  rintro i hi
  cases A with
  | none => simp at hi
  | some a => simp at hi; subst hi; exact .inr (hA a rfl)
theorem rd_oneEc {w : World} {g : Nat} {X : EvT} (h : w.heap[g]? = some (.cells #[.int .i64 X.n, .int .i64 X.s, .string X.p, .int .i64 X.k, .int .i64 X.m, .slice X.A X.l X.c, .slice X.B X.bl X.bc] 29)) : RdK evTy w (some ⟨g, 0, none⟩) 1 [X] :=
 ⟨rfl, fun j v hj => ⟨_, rfl, by rw [add_zero_lit, cell_of h j]; simpa [RowTy.flat, evTy] using hj⟩⟩
def ApartE (w : World) (A : Option Addr) (xs : List EvT) : Prop := ∀ x ∈ xs, (∀ a, x.A = some a → a.block < w.heap.size ∧ ∀ b, A = some b → a.block ≠ b.block) ∧ (∀ a, x.B = some a → a.block < w.heap.size ∧ ∀ b, A = some b → a.block ≠ b.block) ∧ x.bl ≤ x.bc ∧ x.bc ≤ maxLen
theorem EvsR.snoc {w : World} {xs : List EvT} {es : List EvP} {x : EvT} {e : EvP} (h : EvsR w xs es) (r : EvR w x e) : EvsR w (xs ++ [x]) (es ++ [e]) := by
 refine ⟨by simp [h.1], fun i y f hy hf => ?_⟩
 by_cases q : i < xs.length
 ·
  rw [List.getElem?_append_left q] at hy
  rw [List.getElem?_append_left (by rw [← h.1]; exact q)] at hf
  exact h.2 i y f hy hf
 ·
  rw [List.getElem?_append_right (by omega)] at hy
  rw [List.getElem?_append_right (by rw [← h.1]; omega), ← h.1] at hf
  have hi := (List.getElem?_eq_some_iff.1 hy).1
  simp at hi
  rw [hi] at hy hf
  simp at hy hf
  subst hy hf
  exact r
theorem EvR.chgS {S : List Nat} {w w' : World} {x : EvT} {e : EvP} (h : EvR w x e) (hc : Chg S w w') (hA : ∀ a, x.A = some a → a.block ∉ S) (hB : ∀ a, x.B = some a → a.block ∉ S) : EvR w' x e := ⟨h.n, h.s, h.p, h.k, h.m, h.l, h.bl, h.A.chg hc hA, h.B.chg hc hB⟩
theorem EvsR.chgS {S : List Nat} {w w' : World} {xs : List EvT} {es : List EvP} (h : EvsR w xs es) (hc : Chg S w w') (hS : ∀ x ∈ xs, (∀ a, x.A = some a → a.block ∉ S) ∧ (∀ a, x.B = some a → a.block ∉ S)) : EvsR w' xs es :=
 ⟨h.1, fun i x e hx he => (h.2 i x e hx he).chgS hc (hS x (List.mem_of_getElem? hx)).1 (hS x (List.mem_of_getElem? hx)).2⟩
set_option maxRecDepth 100000 in
set_option maxHeartbeats 8000000 in
theorem copyevs_any (w : World) (A : Option Addr) (c : Nat) (xs : List EvT) (es : List EvP) (h : RdK evTy w A xs.length xs) (hx : EvsR w xs es) (hn : xs.length ≤ 100000) (hq : ∀ e ∈ es, e.b.length ≤ 140737488351232 ∧ e.q.length ≤ 100000) :
  Calls Tryz.prog 29 #[.slice A xs.length c] w fun r w' => ∃ (A' : Option Addr) (c' : Nat) (ys : List EvT), r = .returned (.slice A' ys.length c') ∧ ys.length = xs.length ∧ OwnK evTy w' A' c' ys ∧ EvsR w' ys es ∧ ApartE w' A' ys ∧ (∀ a, A' = some a → w.heap.size ≤ a.block) ∧ Chg [] w w' := by
 have HA := Lib.hid h
 have HX := Lib.hid hx
 have HN := Lib.hid hn
 have HQ := Lib.hid hq
 clear h hx hn hq
 go_enter Tryz.func29, Tryz.ntmps29
 go_wp2
 go_loopw [3, 4] (fun o i wr => ∃ (k : Nat) (A1 : Option Addr) (d1 : Nat) (ys : List EvT), k ≤ xs.length ∧ ys.length = k ∧ i = .int .i64 k ∧ o = .slice A1 ys.length d1 ∧ Hid (OwnK evTy wr A1 d1 ys) ∧ Hid (EvsR wr ys (es.take k)) ∧ Hid (ApartE wr A1 ys) ∧ Hid (∀ a, A1 = some a → w.heap.size ≤ a.block) ∧ Hid (Chg [] w wr)) (fun _ i _ => xs.length - (RowKit.intOf i).toNat)
 case atStart => exact ⟨0, none, 0, [], Nat.zero_le _, rfl, rfl, rfl, OwnK.none_ _, Lib.hid (by simpa using EvsR.nil _), Lib.hid (fun x hx => by simp at hx), Lib.hid (by simp), Chg.refl _ _⟩
 case round =>
  obtain ⟨k, A1, d1, ys, hk, hyl, rfl, rfl, RO, RE, RA, RN, RC⟩ := hrel
  have i0 : (0 : Int) ≤ (k : Int) := by omega
  by_cases hlt : k < xs.length
  ·
   have i1 : (k : Int) < (xs.length : Int) := by omega
   have i3 : IntKind.i64.wrap ((k : Int) + 1) = (k : Int) + 1 := IntWalk.i64_in _ (by have := HN.out; omega)
   obtain ⟨g, o, eA, _⟩ := HA.out.line (by omega)
   subst eA
   obtain ⟨x, e, ex, ee, rx⟩ := HX.out.at_ hlt
   obtain ⟨z0, z1, z2, z3, z4, z5, z6⟩ := evCells (HA.out.chg RC.out (by simp)) ex
   have RX := Lib.hid rx
   have ET : Hid (es.take (k + 1) = es.take k ++ [e]) := Lib.hid (by rw [List.take_add_one, ee]; rfl)
   have EQ := Lib.hid (HQ.out e (List.mem_of_getElem? ee))
   have YL := Lib.hid hyl
   clear ex ee rx hyl
   go_wp2_with fail
   clear z0 z1 z2 z3 z4 z5 z6
   refine (copyev_any wr x e (RX.out.chg RC.out) EQ.out).mono ?_
   rintro r w2 ⟨A', c', B', d', rfl, hR, hA, hB, hnA, hnB, hne, hc⟩
   obtain ⟨X, hX⟩ : ∃ X : EvT, X = ⟨x.n, x.s, x.p, x.k, x.m, A', x.l, c', B', x.bl, d'⟩ := ⟨_, rfl⟩
   rw [← hX] at hR
   have fX : X.A = A' ∧ X.B = B' := by rw [hX]; exact ⟨rfl, rfl⟩
   have KA : Hid (∀ a, X.A = some a → a.block < w2.heap.size ∧ wr.heap.size ≤ a.block) := Lib.hid (fun a ha => by rw [fX.1] at ha; exact ⟨hA.lt a ha, hnA a ha⟩)
   have KB : Hid (∀ a, X.B = some a → a.block < w2.heap.size ∧ wr.heap.size ≤ a.block) := Lib.hid (fun a ha => by rw [fX.2] at ha; exact ⟨hB.lt_ a ha, hnB a ha⟩)
   have KC : Hid (X.bl ≤ X.bc ∧ X.bc ≤ maxLen) := Lib.hid (by have q := hB.cap; rw [hX]; show x.bl ≤ d' ∧ d' ≤ maxLen; have := RX.out.bl; exact ⟨by omega, q.2⟩)
   have LA1 := Lib.hid RO.out.lt_
   have XR := Lib.hid hR
   replace RO := Lib.hid (RO.out.chg hc (by simp))
   replace RE := Lib.hid (RE.out.chg hc)
   have S2 := Lib.hid hc.size
   replace RC := Lib.hid (RC.out.trans hc)
   have EX : Hid (Value.agg #[.int .i64 x.n, .int .i64 x.s, .string x.p, .int .i64 x.k, .int .i64 x.m, .slice A' x.l c', .slice B' x.bl d'] = .agg #[.int .i64 X.n, .int .i64 X.s, .string X.p, .int .i64 X.k, .int .i64 X.m, .slice X.A X.l X.c, .slice X.B X.bl X.bc]) := Lib.hid (by rw [hX])
   rw [EX.out]
   clear hR hA hB hnA hnB hne hc hX fX EX
   obtain ⟨w3, hw, hc, b3⟩ := news1 w2 (.cells #[.int .i64 X.n, .int .i64 X.s, .string X.p, .int .i64 X.k, .int .i64 X.m, .slice X.A X.l X.c, .slice X.B X.bl X.bc] 29)
   have W3 := Lib.hid hw
   have R3 := Lib.hid (rd_oneEc b3)
   replace RO := Lib.hid (RO.out.chg hc (by simp))
   replace RE := Lib.hid (RE.out.chg hc)
   replace XR := Lib.hid (XR.out.chg hc)
   have S3 := Lib.hid hc.size
   replace RC := Lib.hid (RC.out.trans hc)
   clear hw hc b3
   have N4 : Hid ((ys.length + 1) * 400 ≤ 140737488355327) := Lib.hid (by have := YL.out; have := HN.out; omega)
   go_wp2_with (at_builtin; rw [← W3.out]; refine wpList_appK (R := evTy) rfl (.tmp 11) (.tmp 17) rfl rfl (A := A1) (n := ys.length) (m := 1) (c := d1) (d := 1) (xs := ys) (ys := [X]) RO.out rfl rfl R3.out N4.out ?_; intro A7 c7 w7 o7 g7 e7; have O7 := Lib.hid o7; have F7 := Lib.hid (fresh_appE RN.out RC.out g7 e7); have G7 := Lib.hid g7; have E7 := Lib.hid e7; clear o7 g7 e7)
   have CG : Hid (Chg (blkOf A1) w3 w7) := Lib.hid ((Chg.refl (blkOf A1) w3).grown G7.out (fun i hi => by
    cases A1 with
    | none => simp at hi
    | some a => simp at hi; subst hi; exact .inl (mem_blkOf rfl)))
   have RE7 : Hid (EvsR w7 (ys ++ [X]) (es.take (k + 1))) := Lib.hid (by
    rw [ET.out]
    refine EvsR.snoc (RE.out.chgS CG.out (fun y hy => ⟨fun a ha q => ?_, fun a ha q => ?_⟩)) (XR.out.chgS CG.out (fun a ha q => ?_) (fun a ha q => ?_))
    ·
     obtain ⟨b, hb, e⟩ := of_blkOf q; exact ((RA.out y hy).1 a ha).2 b hb e.symm
    ·
     obtain ⟨b, hb, e⟩ := of_blkOf q; exact ((RA.out y hy).2.1 a ha).2 b hb e.symm
    ·
     obtain ⟨b, hb, e⟩ := of_blkOf q; have := LA1.out b hb; have := (KA.out a ha).2; omega
    ·
     obtain ⟨b, hb, e⟩ := of_blkOf q; have := LA1.out b hb; have := (KB.out a ha).2; omega)
   have RA7 : Hid (ApartE w7 A7 (ys ++ [X])) := Lib.hid (fun y hy => by
    have s7 := CG.out.size
    have s3 := S3.out
    have s2 := S2.out
    have lo : ∀ a : Addr, a.block < w3.heap.size → (∀ b, A1 = some b → a.block ≠ b.block) → a.block < w7.heap.size ∧ ∀ b, A7 = some b → a.block ≠ b.block := fun a h1 h2 => ⟨by omega, fun b hb => by
     rcases E7.out with q | q
     ·
      rw [q] at hb; exact h2 b hb
     ·
      rw [q] at hb; cases hb; exact Nat.ne_of_lt h1⟩
    rcases List.mem_append.1 hy with r | r
    ·
     exact ⟨fun a ha => lo a (by have := ((RA.out y r).1 a ha).1; omega) ((RA.out y r).1 a ha).2, fun a ha => lo a (by have := ((RA.out y r).2.1 a ha).1; omega) ((RA.out y r).2.1 a ha).2, (RA.out y r).2.2⟩
    ·
     simp at r
     subst r
     exact ⟨fun a ha => lo a (by have := (KA.out a ha).1; omega) (fun b hb => by have := LA1.out b hb; have := (KA.out a ha).2; omega), fun a ha => lo a (by have := (KB.out a ha).1; omega) (fun b hb => by have := LA1.out b hb; have := (KB.out a ha).2; omega), KC.out⟩)
   clear CG G7 E7 RO RE RA
   go_wp2
   go_round
   case rel => exact ⟨k + 1, A7, c7, ys ++ [X], by omega, by simp [YL.out], by go_num, by simp, O7, RE7, RA7, Lib.hid F7.out.1, F7.out.2⟩
   case measure => simp [RowKit.intOf]; omega
  ·
   obtain rfl : k = xs.length := by omega
   have i1 : ¬ (xs.length : Int) < (xs.length : Int) := by omega
   have ET : es.take xs.length = es := by rw [HX.out.1]; exact List.take_length
   rw [ET] at RE
   have YL := Lib.hid hyl
   clear hyl ET
   go_wp2
   go_ret
   exact ⟨A1, d1, ys, rfl, YL.out, RO.out, RE.out, RA.out, RN.out, RC.out⟩
end
section
open Go.RowKit

theorem Chg.both {w w1 w2 : World} {S : List Nat} (h : Chg [] w w1) (k : Chg S w1 w2) (hs : ∀ i ∈ S, w.heap.size ≤ i) : Chg [] w w2 :=
 h.trans' k fun i hi => .inr (hs i hi)

def Ws (w w' : World) (b : Nat) (xs : List UInt8) (e : Int) : Prop := ∃ g, Wrt w' b g xs e ∧ w.heap.size ≤ b ∧ w.heap.size ≤ g ∧ Chg [] w w'
theorem Ws.chg {w w' : World} {b : Nat} {xs : List UInt8} {e : Int} (h : Ws w w' b xs e) : Chg [] w w' := by obtain ⟨_, _, _, _, h⟩ := h; exact h
theorem Ws.past {w w1 w2 : World} {b : Nat} {xs : List UInt8} {e : Int} (h : Ws w w1 b xs e) (hc : Chg [] w1 w2) : Ws w w2 b xs e := by
 obtain ⟨g, h1, h2, h3, h4⟩ := h
 exact ⟨g, h1.chg hc (by simp) (by simp), h2, h3, h4.trans hc⟩
theorem Fresh.since {w w1 w2 : World} {A : Option Addr} {c : Nat} {ys : List UInt8} (hc : Chg [] w w1) (h : Fresh w1 w2 A c ys) : Fresh w w2 A c ys :=
 ⟨h.1, fun a e => by have := h.2.1 a e; have := hc.size; omega, hc.trans h.2.2⟩
theorem Fresh.past {w w1 w2 : World} {A : Option Addr} {c : Nat} {ys : List UInt8} (h : Fresh w w1 A c ys) (hc : Chg [] w1 w2) : Fresh w w2 A c ys :=
 ⟨h.1.chg hc (by simp), h.2.1, h.2.2.trans hc⟩
theorem Fresh.none_ {w w1 : World} (hc : Chg [] w w1) : Fresh w w1 none 0 [] := ⟨OwnB.none_ _, by simp, hc⟩
def Rs (w w' : World) (b : Nat) (xs : List UInt8) (p : Nat) (fe fa : Int) : Prop := ∃ g, Rdr w' b g xs p fe fa ∧ w.heap.size ≤ b ∧ w.heap.size ≤ g ∧ Chg [] w w' ∧ p ≤ xs.length ∧ xs.length ≤ 140737488351232
theorem Rs.chg {w w' : World} {b : Nat} {xs : List UInt8} {p : Nat} {fe fa : Int} (h : Rs w w' b xs p fe fa) : Chg [] w w' := by obtain ⟨_, _, _, _, h, _⟩ := h; exact h
theorem Rs.past {w w1 w2 : World} {b : Nat} {xs : List UInt8} {p : Nat} {fe fa : Int} (h : Rs w w1 b xs p fe fa) (hc : Chg [] w1 w2) : Rs w w2 b xs p fe fa := by
 obtain ⟨g, h1, h2, h3, h4, h5⟩ := h
 exact ⟨g, h1.chg hc (by simp) (by simp), h2, h3, h4.trans hc, h5⟩
end
section
open Go.RowKit
end
section
open Go.RowKit
set_option linter.unusedSimpArgs false
end
section
open Go.RowKit
set_option linter.unusedSimpArgs false

theorem Bs.fill {w : World} {g n : Nat} {C : Array Value} (xs : List UInt8) {fr : Nat × Nat} (hg : w.heap[g]? = some (.cells C 5 fr)) (h : C.toList = xs.map bv) (hn : xs.length = n) : Bs w (some ⟨g, 0, none⟩) n xs :=
 ⟨hn, fun j u hj => ⟨_, rfl, by
  rw [add_zero_lit]
  have e : w.cell? ⟨g, j, none⟩ = C[j]? := by simp [World.cell?, hg]
  rw [e, ← Array.getElem?_toList, h, List.getElem?_map, hj]; rfl⟩⟩

set_option maxHeartbeats 400000 in
theorem longeff_any (w : World) (k m : Int) (A : Option Addr) (n c : Nat) (_hn : n ≤ 140737488351232) :
  Calls Tryz.prog 40 #[.agg #[.int .i64 k, .int .i64 m, .slice A n c]] w fun e w' => e = .returned (.bool (decide ((1200 : Int) < n))) ∧ Chg [] w w' := by
 go_enter Tryz.func40, Tryz.ntmps40
 go_wp2
 go_ret
 exact ⟨rfl, (Chg.refl _ _).alloc _⟩
theorem Lent.lt {w : World} {g : Nat} {xs : List UInt8} (h : Lent w g xs) : g < w.heap.size := by
 obtain ⟨full, h1, _⟩ := h
 exact lt_of_heap h1
theorem Chg.c0 {w w' : World} {a : Addr} {u : Value} (hc : Chg [] w w') (h : w.cell? a = some u) : w'.cell? a = some u := hc.cell h (by simp)
end
section
open Go.RowKit Go.Lib
set_option linter.unusedSimpArgs false
set_option linter.unusedVariables false


def bigE (x : EvT) : Prop := 100 < x.p.size ∨ 1200 < x.l ∨ 100 < x.bl
instance (x : EvT) : Decidable (bigE x) := by unfold bigE; exact inferInstance
def longE (xs : List EvT) (most : Nat) : Bool := (xs.take (most + 1)).any (fun x => decide (bigE x)) || decide (most < xs.length)
theorem longE_no {xs : List EvT} {most : Nat} (h : longE xs most = false) : xs.length ≤ most ∧ ∀ x ∈ xs, ¬ bigE x := by
 unfold longE at h
 rw [Bool.or_eq_false_iff, decide_eq_false_iff_not, List.any_eq_false] at h
 refine ⟨by omega, fun x hx => ?_⟩
 have := h.1 x (by rw [List.take_of_length_le (by omega)]; exact hx)
 simpa using this
theorem longE_yes {xs : List EvT} {most k : Nat} {x : EvT} (hx : xs[k]? = some x) (hk : k ≤ most) (hb : bigE x) : longE xs most = true := by
 unfold longE
 rw [Bool.or_eq_true, List.any_eq_true]
 refine .inl ⟨x, ?_, decide_eq_true hb⟩
 have hl := (List.getElem?_eq_some_iff.1 hx).1
 exact List.mem_of_getElem? (i := k) (by rw [List.getElem?_take, if_pos (by omega)]; exact hx)
set_option maxRecDepth 100000 in
set_option maxHeartbeats 8000000 in
theorem longevs_any (w : World) (A : Option Addr) (c : Nat) (xs : List EvT) (most : Nat) (h : RdK evTy w A xs.length xs) (hn : xs.length ≤ 140737488351232) (hm : most ≤ 1000) (hs : ∀ x ∈ xs, x.l ≤ 140737488351232) :
  Calls Tryz.prog 8 #[.slice A xs.length c, .int .i64 (most : Int)] w fun r w' => r = .returned (.bool (longE xs most)) ∧ Chg [] w w' := by
 have H := Lib.hid h
 have HN := Lib.hid hn
 have HM := Lib.hid hm
 have HS := Lib.hid hs
 clear h hn hm hs
 generalize hv : longE xs most = v
 have HV := Lib.hid hv
 clear hv
 go_enter Tryz.func8, Tryz.ntmps8
 go_wp2
 go_loopw [5] (fun v5 wr => ∃ k : Nat, k ≤ xs.length ∧ k ≤ most + 1 ∧ v5 = .int .i64 k ∧ Hid (∀ x ∈ xs.take k, ¬ bigE x) ∧ Hid (Chg [] w wr)) (fun v5 _ => xs.length - (RowKit.intOf v5).toNat)
 case atStart => exact ⟨0, Nat.zero_le _, Nat.zero_le _, rfl, Lib.hid (by simp), Chg.refl _ _⟩
 case round =>
  obtain ⟨k, hk, hk2, rfl, NB, RC⟩ := hrel
  have i0 : (0 : Int) ≤ (k : Int) := by omega
  by_cases hlt : k < xs.length
  ·
   have i1 : (k : Int) < (xs.length : Int) := by omega
   by_cases hle : k ≤ most
   ·
    have i2 : (k : Int) ≤ (most : Int) := by omega
    have i3 : IntKind.i64.wrap ((k : Int) + 1) = (k : Int) + 1 := IntWalk.i64_in _ (by have := HN.out; omega)
    obtain ⟨x, hx⟩ : ∃ x, xs[k]? = some x := ⟨_, List.getElem?_eq_getElem hlt⟩
    obtain ⟨g, o, eA, _⟩ := H.out.line (by omega)
    subst eA
    obtain ⟨z0, z1, z2, z3, z4, z5, z6⟩ := evCells (H.out.chg RC.out (by simp)) hx
    have LY : Hid (bigE x → v = true) := Lib.hid (fun q => by rw [← HV.out]; exact longE_yes hx hle q)
    have NX : Hid (¬ bigE x → ∀ y ∈ xs.take (k + 1), ¬ bigE y) := Lib.hid (fun q y hy => by
     rw [List.take_add_one, hx] at hy
     rcases List.mem_append.1 hy with r | r
     ·
      exact NB.out y r
     ·
      simp at r; subst r; exact q)
    have XS := Lib.hid (HS.out x (List.mem_of_getElem? hx))
    clear hx
    by_cases b1 : 100 < x.p.size
    ·
     have j1 : (100 : Int) < (x.p.size : Int) := by omega
     obtain rfl := LY.out (.inl b1)
     clear LY NX b1
     go_wp2
     go_ret
     exact ⟨rfl, RC.out⟩
    have j1 : ¬ (100 : Int) < (x.p.size : Int) := by omega
    go_wp2_with fail
    refine (longeff_any wr x.k x.m x.A x.l x.c XS.out).mono ?_
    rintro r w2 ⟨rfl, hc⟩
    have C2 := Lib.hid (RC.out.trans hc)
    have y6 := hc.cell z6 (by simp)
    clear hc z0 z1 z2 z3 z4 z5 z6 j1
    by_cases b2 : 1200 < x.l
    ·
     rw [decide_eq_true (show (1200 : Int) < (x.l : Int) by omega)]
     obtain rfl := LY.out (.inr (.inl b2))
     clear LY NX b1 b2 y6
     go_wp2
     go_ret
     exact ⟨rfl, C2.out⟩
    rw [decide_eq_false (show ¬ (1200 : Int) < (x.l : Int) by omega)]
    by_cases b3 : 100 < x.bl
    ·
     have j3 : (100 : Int) < (x.bl : Int) := by omega
     obtain rfl := LY.out (.inr (.inr b3))
     clear LY NX b1 b2 b3
     go_wp2
     go_ret
     exact ⟨rfl, C2.out⟩
    have j3 : ¬ (100 : Int) < (x.bl : Int) := by omega
    have NN := Lib.hid (NX.out (fun q => by unfold bigE at q; omega))
    clear LY NX b1 b2 b3
    go_wp2
    go_round
    case rel => exact ⟨k + 1, by omega, by omega, by go_num, NN, C2.out⟩
    case measure => simp [RowKit.intOf]; omega
   ·
    have i2 : ¬ (k : Int) ≤ (most : Int) := by omega
    have i4 : (most : Int) < (xs.length : Int) := by omega
    obtain rfl : v = true := by rw [← HV.out]; unfold longE; rw [decide_eq_true (show most < xs.length by omega)]; simp
    clear HV
    go_wp2
    go_ret
    exact ⟨rfl, RC.out⟩
  ·
   obtain rfl : k = xs.length := by omega
   have i1 : ¬ (xs.length : Int) < (xs.length : Int) := by omega
   by_cases hle : most < xs.length
   ·
    have i4 : (most : Int) < (xs.length : Int) := by omega
    obtain rfl : v = true := by rw [← HV.out]; unfold longE; rw [decide_eq_true hle]; simp
    clear HV
    go_wp2
    go_ret
    exact ⟨rfl, RC.out⟩
   ·
    have i4 : ¬ (most : Int) < (xs.length : Int) := by omega
    obtain rfl : v = false := by
     rw [← HV.out]
     unfold longE
     rw [decide_eq_false hle, Bool.or_false, List.any_eq_false]
     intro x hx
     have q := NB.out x (by rw [List.take_length]; exact List.mem_of_mem_take hx)
     simpa using q
    clear HV
    go_wp2
    go_ret
    exact ⟨rfl, RC.out⟩
end
section
open Go.RowKit Go.Sort
set_option linter.unusedSimpArgs false
set_option linter.unusedVariables false
section
variable {α : Type} [Inhabited α] {R : RowTy α}

theorem flatK_flat (d : Array α) : (flatK R.enc R.k d).toList = R.flat d.toList := by
 refine R.flat_ext _ _ (by simp) ?_
 intro q i x hx hi
 rw [Array.getElem?_toList] at hx ⊢
 have hq : q < d.size := (Array.getElem?_eq_some_iff.1 hx).1
 have hlt : q * R.k + i < d.size * R.k := by
  have := Nat.mul_le_mul_right R.k (show q + 1 ≤ d.size by omega)
  rw [Nat.succ_mul] at this
  omega
 have e := get_flatK R.enc R.k d (q * R.k + i) hlt
 have h1 : (q * R.k + i) / R.k = q := by
  rw [Nat.add_comm, Nat.add_mul_div_right _ _ R.kpos, Nat.div_eq_of_lt hi, Nat.zero_add]
 have h2 : (q * R.k + i) % R.k = i := by rw [Nat.add_comm, Nat.add_mul_mod_self_right, Nat.mod_eq_of_lt hi]
 rw [h1, h2] at e
 have hd : d[q]! = x := by
  rw [getElem!_pos d q hq]
  rw [Array.getElem?_eq_getElem hq] at hx
  exact Option.some.inj hx
 rw [hd] at e
 have hs : q * R.k + i < (flatK R.enc R.k d).size := by simpa using hlt
 rw [getElem!_pos (flatK R.enc R.k d) _ hs] at e
 have hi2 : i < (R.enc x).length := by rw [R.klen]; exact hi
 rw [getElem!_pos (R.enc x) _ hi2] at e
 rw [Array.getElem?_eq_getElem hs, List.getElem?_eq_getElem hi2, e]
theorem OwnK.holds {w : World} {g c : Nat} {xs : List α} (h : OwnK R w (some ⟨g, 0, none⟩) c xs) : HoldsK R.enc R.k w g 0 xs.toArray := by
 rcases h with ⟨h, _⟩ | ⟨g', full, h, hg, hl, _, hn, ht⟩
 ·
  cases h
 ·
  cases h
  intro j hj
  refine ⟨?_, free_of hg _⟩
  rw [Nat.zero_add, cell_of hg]
  have hs : j < (flatK R.enc R.k xs.toArray).size := hj
  rw [getElem!_pos (flatK R.enc R.k xs.toArray) _ hs]
  have e := flatK_flat (R := R) xs.toArray
  simp only at e
  have e2 : (flatK R.enc R.k xs.toArray)[j]? = (R.flat xs)[j]? := by rw [← Array.getElem?_toList, e]
  rw [Array.getElem?_eq_getElem hs] at e2
  have e3 : (R.flat full)[j]? = (R.flat xs)[j]? := by
   have hj2 : j < xs.length * R.k := by simpa using hj
   conv => rhs; rw [← ht, R.flat_take, List.getElem?_take, if_pos hj2]
  show (R.flat full).toArray[j]? = some (id _)
  rw [List.getElem?_toArray, e3, ← e2]
  rfl
theorem putCells_flat (xs ys full : List α) (hl : ys.length = xs.length) (hf : full.take xs.length = xs) (hn : xs.length ≤ full.length) :
  (putCells id 0 (flatK R.enc R.k ys.toArray) (R.flat full).toArray) = (R.flat (ys ++ full.drop xs.length)).toArray := by
 apply Array.toList_inj.1
 apply List.ext_getElem?
 intro p
 have hsz : (flatK R.enc R.k ys.toArray).size = xs.length * R.k := by simp [hl]
 rw [show (R.flat (ys ++ full.drop xs.length)).toArray.toList = R.flat (ys ++ full.drop xs.length) by simp, R.flat_app, R.flat_drop]
 rw [Array.getElem?_toList]
 unfold putCells
 rw [Array.getElem?_mapIdx, List.getElem?_toArray]
 by_cases hp : p < xs.length * R.k
 ·
  have hs : p < (flatK R.enc R.k ys.toArray).size := by omega
  have hp2 : p < (R.flat full).length := by rw [R.flat_len]; exact Nat.lt_of_lt_of_le hp (Nat.mul_le_mul_right _ hn)
  rw [List.getElem?_append_left (by rw [R.flat_len, hl]; exact hp), List.getElem?_eq_getElem hp2]
  simp only [Option.map_some, Nat.zero_le, true_and, Nat.zero_add]
  rw [if_pos hs, Nat.sub_zero, getElem!_pos (flatK R.enc R.k ys.toArray) _ hs]
  have e := flatK_flat (R := R) ys.toArray
  have e2 : (flatK R.enc R.k ys.toArray)[p]? = (R.flat ys)[p]? := by rw [← Array.getElem?_toList, e]
  rw [← e2, Array.getElem?_eq_getElem hs]
  rfl
 ·
  rw [List.getElem?_append_right (by rw [R.flat_len, hl]; omega), R.flat_len, hl, List.getElem?_drop, show xs.length * R.k + (p - xs.length * R.k) = p by omega]
  cases (R.flat full)[p]? with
  | none => rfl
  | some v =>
   simp only [Option.map_some]
   rw [if_neg (by rw [hsz]; omega)]
theorem OwnK.sorted {w : World} {g c : Nat} {xs ys : List α} (h : OwnK R w (some ⟨g, 0, none⟩) c xs) (hl : ys.length = xs.length) (n : Nat) (os : Array Obj) :
  OwnK R (sortWorldK R.enc R.k w g 0 n ys.toArray os) (some ⟨g, 0, none⟩) c ys ∧ Chg [g] w (sortWorldK R.enc R.k w g 0 n ys.toArray os) := by
 rcases h with ⟨h, _⟩ | ⟨g', full, h, hg, hfl, hm, hn, ht⟩
 ·
  cases h
 ·
  cases h
  have hsz : (sortWorldK R.enc R.k w g 0 n ys.toArray os).heap = (w.heap.modify g (onCells (putCells id 0 (flatK R.enc R.k ys.toArray)))) ++ os := rfl
  have hgl := lt_of_heap hg
  refine ⟨.inr ⟨g, ys ++ full.drop xs.length, rfl, ?_, by simp; omega, hm, by omega, ?_⟩, ⟨rfl, rfl, rfl, by rw [hsz]; simp, fun i hi hne => ?_⟩⟩
  ·
   rw [hsz, Array.getElem?_append_left (by simpa using hgl), Array.getElem?_modify, if_pos rfl, hg]
   simp only [Option.map_some, onCells]
   rw [putCells_flat xs ys full hl ht (by omega)]
  ·
   exact List.take_left
  ·
   rw [hsz, Array.getElem?_append_left (by simpa using hi), Array.getElem?_modify, if_neg (by simp at hne; exact fun h => hne h.symm)]
end
end
section
open Go.RowKit Go.Sort Go.Shelf
set_option linter.unusedSimpArgs false
set_option linter.unusedVariables false

theorem grow_ofp {w w' : World} (h : Chg [] w w') (hd : w.drawn ≤ w'.drawn) : ∃ q os, w' = Sort.grow (w.drewN q) os := by
 refine ⟨w'.drawn - w.drawn, w'.heap.extract w.heap.size w'.heap.size, ?_⟩
 obtain ⟨h1, h2, h3, h4, h5⟩ := h
 obtain ⟨hp, tp, dr, os, ou⟩ := w'
 obtain ⟨hp0, tp0, dr0, os0, ou0⟩ := w
 simp only at h1 h2 h3 h4 h5 hd ⊢
 subst h1 h2 h3
 simp only [Sort.grow, World.drewN, World.mk.injEq, true_and, and_true]
 refine ⟨?_, by omega⟩
 apply Array.ext_getElem?
 intro i
 by_cases hi : i < hp0.size
 ·
  rw [Array.getElem?_append_left hi]
  exact h5 i hi (by simp)
 ·
  rw [Array.getElem?_append_right (by omega), Array.getElem?_extract]
  by_cases hj : i < hp.size
  ·
   rw [if_pos (by omega)]
   congr 1
   omega
  ·
   rw [if_neg (by omega), Array.getElem?_eq_none (by omega)]
theorem rdk_nil {α : Type} {R : RowTy α} {w : World} {n : Nat} {xs : List α} (h : RdK R w none n xs) : xs = [] := by
 cases xs with
 | nil => rfl
 | cons y ys =>
  have : 0 < (R.flat (y :: ys)).length := by rw [R.flat_len, List.length_cons]; exact Nat.mul_pos (by omega) R.kpos
  obtain ⟨a, h, _⟩ := h.cells 0 _ (List.getElem?_eq_getElem this); cases h
def CmpSays {α : Type} [Inhabited α] (R : RowTy α) (g : Nat) (cf : α → α → Int) : Prop :=
 ∀ (W : World) (x y : α), Calls Tryz.prog g #[.agg (R.enc x).toArray, .agg (R.enc y).toArray] W fun e w' => e = .returned (.int .i64 (cf x y)) ∧ Chg [] W w' ∧ W.drawn ≤ w'.drawn
theorem sortp_some {α : Type} [Inhabited α] {R : RowTy α} {ρ : Ren} (L : SlLaysF0.n6 Tryz.prog ρ) (aE : ∀ w, (isAgg (ρ.t 24)).run Tryz.prog w = .ok true w) (zE : ∀ w, (Go.sizeOf (ρ.t 24)).run Tryz.prog w = .ok R.k w) (cf : α → α → Int) (hO : SWO (ltOf cf)) (g : Nat) (eg : ∀ args w, (callFunc g args).run Tryz.prog w = .ok (.enter g args) w)
  (hcmp : CmpSays R g cf) (w : World) (b c : Nat) (xs : List α) (h : OwnK R w (some ⟨b, 0, none⟩) c xs) (hm : xs.length < 4611686018427387904) :
  Calls Tryz.prog (ρ.f 6) #[.slice (some ⟨b, 0, none⟩) xs.length c, .func (.func g) #[] #[]] w fun e w' => e = .returned (.tuple #[]) ∧ ∃ ys, ys.Perm xs ∧ ys.Pairwise (fun x y => ltOf cf y x = false) ∧ OwnK R w' (some ⟨b, 0, none⟩) c ys ∧ Chg [b] w w' := by
 have hblk : b < w.heap.size := h.lt_ _ rfl
 have hc2 : CmpLays Tryz.prog g #[] R.enc R.k cf b 0 xs.toArray.size w := fun m os dk _ x y => by
  have := (hcmp (sortWorldK R.enc R.k w b 0 m dk os) x y).mono (fun e w' ⟨he, hc, hd⟩ => (⟨he, grow_ofp hc hd⟩ : e = Ending.returned (.int .i64 (cf x y)) ∧ ∃ q os', w' = grow ((sortWorldK R.enc R.k w b 0 m dk os).drewN q) os'))
  exact this
 have hcon := AnyQ.slices_SortFunc L R.k aE zE R.enc R.klen R.one cf hO g #[] b 0 c xs.toArray w eg hc2 h.holds hblk (by simpa using hm)
 refine Calls.mono hcon ?_
 rintro e w' ⟨he, d', n, os, ⟨hsz, _, hp⟩, hs, hw⟩
 have hlen : d'.toList.length = xs.length := by simpa using hsz
 have hsz2 : d'.size = xs.toArray.size := hsz
 have hp2 : d'.toList.Perm xs := by
  rw [← hsz, Array.extract_size] at hp
  rw [hsz, Array.extract_size] at hp
  simpa using hp
 have o := h.sorted (ys := d'.toList) hlen n os
 rw [show d'.toList.toArray = d' by simp, ← hw] at o
 refine ⟨he, d'.toList, hp2, ?_, o.1, o.2⟩
 rw [List.pairwise_iff_getElem]
 intro i j hi hj hij
 have hi' : i < d'.size := by simpa using hi
 have hj' : j < d'.size := by simpa using hj
 have := hs i j (Nat.zero_le _) hij (by rw [← hsz2]; exact hj')
 rw [getElem!_pos d' j hj', getElem!_pos d' i hi'] at this
 simpa using this
theorem sortp_any {α : Type} [Inhabited α] {R : RowTy α} {ρ : Ren} (L : SlLaysF0.n6 Tryz.prog ρ) (aE : ∀ w, (isAgg (ρ.t 24)).run Tryz.prog w = .ok true w) (zE : ∀ w, (Go.sizeOf (ρ.t 24)).run Tryz.prog w = .ok R.k w) (cf : α → α → Int) (hO : SWO (ltOf cf)) (g : Nat) (eg : ∀ args w, (callFunc g args).run Tryz.prog w = .ok (.enter g args) w)
  (hcmp : CmpSays R g cf) (w : World) (A : Option Addr) (c : Nat) (xs : List α) (h : OwnK R w A c xs) (hm : xs.length < 4611686018427387904) :
  Calls Tryz.prog (ρ.f 6) #[.slice A xs.length c, .func (.func g) #[] #[]] w fun e w' => e = .returned (.tuple #[]) ∧ ∃ ys, ys.Perm xs ∧ ys.Pairwise (fun x y => ltOf cf y x = false) ∧ OwnK R w' A c ys ∧ Chg (blkOf A) w w' := by
 rcases h.shape with ⟨rfl, rfl, rfl⟩ | ⟨b, rfl, _⟩
 ·
  have := AnyF.slices_SortFunc_none L none 0 (.func (.func g) #[] #[]) w
  refine Calls.mono this ?_
  rintro e w' ⟨he, rfl⟩
  exact ⟨he, [], List.Perm.refl _, List.Pairwise.nil, OwnK.none_ _, Chg.refl _ _⟩
 ·
  exact sortp_some L aE zE cf hO g eg hcmp w b c xs h hm
end
section
open Go.RowKit Go.Lib
set_option linter.unusedSimpArgs false
set_option linter.unusedVariables false


def Gr (w w' : World) : Prop := Chg [] w w' ∧ w.drawn ≤ w'.drawn
theorem Gr.trans {a b c : World} (h : Gr a b) (k : Gr b c) : Gr a c := ⟨h.1.trans k.1, Nat.le_trans h.2 k.2⟩
theorem gr2 (w : World) (o o' : Obj) : ∃ w' : World, w' = (w.alloc o).alloc o' ∧ Gr w w' ∧ w'.heap[w.heap.size]? = some o ∧ w'.heap[w.heap.size + 1]? = some o' := by
 obtain ⟨w', h, c, b0, b1⟩ := news2 w o o'
 exact ⟨w', h, ⟨c, by rw [h]; exact Nat.le_refl _⟩, b0, b1⟩
set_option maxHeartbeats 1000000 in
theorem dcmp_gr (w : World) (a s b t : Int) :
    Calls Tryz.prog 164 #[.agg #[.int .i64 a, .int .i64 s], .agg #[.int .i64 b, .int .i64 t]] w fun e w' => e = .returned (.int .i64 (cmpD a s b t)) ∧ Gr w w' := by
  obtain ⟨w0, hw0, c0, b0, b1⟩ := news2 w (.cells #[.int .i64 a, .int .i64 s] 23) (.cells #[.int .i64 b, .int .i64 t] 23)
  have k0 := cell_of b0 0
  have k1 := cell_of b0 1
  have k3 := cell_of b1 0
  have k4 := cell_of b1 1
  simp only [List.getElem?_toArray, List.getElem?_cons_succ, List.getElem?_cons_zero] at k0 k1 k3 k4
  have g0 := lt_of_heap b0
  have g1 := lt_of_heap b1
  have W0 := Lib.hid hw0
  have GR : Hid (∀ o, Gr w (w0.alloc o).drew) := Lib.hid (fun o => ⟨(c0.alloc o).drew, by rw [hw0]; exact Nat.le_succ _⟩)
  clear hw0 c0 b0 b1
  unfold cmpD
  generalize hr : or2 (cmpI a b) (cmpI s t) = R
  have HR := Lib.hid hr
  clear hr
  go_enter Tryz.func164, Tryz.ntmps164
  go_wp2
  rw [← W0.out]
  have n1 := World.new_ne w0 ⟨w.heap.size, 0, none⟩ k0
  have n2 := World.new_ne w0 ⟨w.heap.size + 1, 0, none⟩ k3
  generalize w.heap.size + 1 = s1 at *
  generalize w.heap.size = s0 at *
  go_region_held3 (fun w' => w'.cell? ⟨s0, 0, none⟩ = some (.int .i64 a) ∧ w'.cell? ⟨s0, 1, none⟩ = some (.int .i64 s) ∧ w'.cell? ⟨s1, 0, none⟩ = some (.int .i64 b) ∧ w'.cell? ⟨s1, 1, none⟩ = some (.int .i64 t)) (first | exact ⟨k0, k1, k3, k4⟩ | go_keep)
    ((first
      | (go_at_call 132; (with_reducible refine (cmpint_any _ _ _).mono ?_); rintro e w1 ⟨rfl, rfl⟩)
      | (go_at_call 131; refine (or2_any _ w0.heap.size (cmpI a b) (cmpI s t) (show (w0.alloc _).drew.heap[_]? = _ from heap_alloc_new w0 _)).mono ?_; rintro e w1 ⟨rfl, rfl⟩)))
  all_goals
    go_wp2
    go_ret
    exact ⟨by first | rfl | (rw [← HR.out]; rfl), GR.out _⟩
theorem dless_gr (w : World) (a s b t : Int) :
  Calls Tryz.prog 137 #[.agg #[.int .i64 a, .int .i64 s], .agg #[.int .i64 b, .int .i64 t]] w fun e w' => e = .returned (.bool (decide (LtD a s b t))) ∧ Gr w w' := by
 have h : decide (cmpD a s b t < 0) = decide (LtD a s b t) := decide_eq_decide.2 cmpD_lt
 generalize decide (LtD a s b t) = B at *
 go_enter Tryz.func137, Tryz.ntmps137
 go_wp2_with fail
 refine (dcmp_gr _ _ _ _ _).mono ?_
 rintro e w1 ⟨rfl, c1⟩
 have C1 : Hid (Gr w w1) := Lib.hid (Gr.trans ⟨((Chg.refl [] w).alloc _).alloc _, Nat.le_refl _⟩ c1)
 clear c1
 go_wp2
 go_ret
 exact ⟨rfl, C1.out⟩
theorem cmpD_is (a s b t : Int) : cmpD a s b t = if LtD a s b t then -1 else if LtD b t a s then 1 else 0 := by
 have h1 := @cmpD_lt a s b t
 unfold cmpD or2 cmpI at *
 unfold LtD
 split <;> split <;> (try split) <;> omega
set_option maxRecDepth 100000 in
set_option maxHeartbeats 2000000 in
theorem orderof_gr (w : World) (a s b t : Int) :
  Calls Tryz.prog 136 #[.agg #[.int .i64 a, .int .i64 s], .agg #[.int .i64 b, .int .i64 t], .func (.func 137) #[] #[]] w fun e w' => e = .returned (.int .i64 (cmpD a s b t)) ∧ Gr w w' := by
 obtain ⟨w0, hw0, c0, b0, b1⟩ := gr2 w (.cells #[.int .i64 a, .int .i64 s] 23) (.cells #[.int .i64 b, .int .i64 t] 23)
 have W0 := Lib.hid hw0
 have G := Lib.hid c0
 have B0 := Lib.hid b0
 have B1 := Lib.hid b1
 rw [cmpD_is]
 clear hw0 c0 b0 b1
 go_enter Tryz.func136, Tryz.ntmps136
 go_upto_region 1 with fail
 rw [← W0.out]
 generalize w.heap.size + 1 = s1 at *
 generalize w.heap.size = s0 at *
 have k0 := cell_of B0.out 0
 have k1 := cell_of B0.out 1
 have k3 := cell_of B1.out 0
 have k4 := cell_of B1.out 1
 simp only [List.getElem?_toArray, List.getElem?_cons_succ, List.getElem?_cons_zero] at k0 k1 k3 k4
 go_wp2_with fail
 clear k0 k1 k3 k4
 refine (dless_gr _ _ _ _ _).mono ?_
 rintro e w1 ⟨rfl, c1⟩
 replace G := Lib.hid (G.out.trans c1)
 replace B0 := Lib.hid (c1.1.at_ B0.out (by simp))
 replace B1 := Lib.hid (c1.1.at_ B1.out (by simp))
 clear c1
 by_cases h1 : LtD a s b t
 ·
  rw [decide_eq_true h1]
  have H1 := Lib.hid h1
  clear h1
  go_wp2
  go_ret
  exact ⟨by first | rfl | rw [if_pos H1.out], G.out⟩
 rw [decide_eq_false h1]
 have N1 := Lib.hid h1
 clear h1
 have k0 := cell_of B0.out 0
 have k1 := cell_of B0.out 1
 have k3 := cell_of B1.out 0
 have k4 := cell_of B1.out 1
 simp only [List.getElem?_toArray, List.getElem?_cons_succ, List.getElem?_cons_zero] at k0 k1 k3 k4
 go_wp2_with fail
 clear k0 k1 k3 k4
 refine (dless_gr _ _ _ _ _).mono ?_
 rintro e w2 ⟨rfl, c1⟩
 replace G := Lib.hid (G.out.trans c1)
 clear c1
 by_cases h1 : LtD b t a s
 ·
  rw [decide_eq_true h1]
  have H1 := Lib.hid h1
  clear h1
  go_wp2
  go_ret
  exact ⟨by first | rfl | rw [if_neg N1.out, if_pos H1.out], G.out⟩
 ·
  rw [decide_eq_false h1]
  have H1 := Lib.hid h1
  clear h1
  go_wp2
  go_ret
  exact ⟨by first | rfl | rw [if_neg N1.out, if_neg H1.out], G.out⟩
set_option maxRecDepth 100000 in
set_option maxHeartbeats 2000000 in
theorem evbydot_gr (w : World) (x : EvT) (n s : Int) :
  Calls Tryz.prog 95 #[.agg #[.int .i64 x.n, .int .i64 x.s, .string x.p, .int .i64 x.k, .int .i64 x.m, .slice x.A x.l x.c, .slice x.B x.bl x.bc], .agg #[.int .i64 n, .int .i64 s]] w fun e w' => e = .returned (.int .i64 (cmpD x.n x.s n s)) ∧ Gr w w' := by
 obtain ⟨w0, hw0, c0, b0, b1⟩ := gr2 w (.cells #[.int .i64 x.n, .int .i64 x.s, .string x.p, .int .i64 x.k, .int .i64 x.m, .slice x.A x.l x.c, .slice x.B x.bl x.bc] 29) (.cells #[.int .i64 n, .int .i64 s] 23)
 have W0 := Lib.hid hw0
 have G := Lib.hid c0
 have k0 := cell_of b0 0
 have k1 := cell_of b0 1
 have k2 := cell_of b0 2
 have k3 := cell_of b0 3
 have k4 := cell_of b0 4
 have k5 := cell_of b0 5
 have k6 := cell_of b0 6
 simp only [List.getElem?_toArray, List.getElem?_cons_succ, List.getElem?_cons_zero] at k0 k1 k2 k3 k4 k5 k6
 have d0 := cell_of b1 0
 have d1 := cell_of b1 1
 simp only [List.getElem?_toArray, List.getElem?_cons_succ, List.getElem?_cons_zero] at d0 d1
 clear hw0 c0 b0 b1
 go_enter Tryz.func95, Tryz.ntmps95
 go_upto_region 1 with fail
 rw [← W0.out]
 generalize w.heap.size + 1 = s1 at *
 generalize w.heap.size = s0 at *
 go_wp2_with fail
 refine (orderof_gr _ _ _ _ _).mono ?_
 rintro e w1 ⟨rfl, c1⟩
 replace G := Lib.hid (G.out.trans c1)
 clear c1 k0 k1 k2 k3 k4 k5 k6 d0 d1
 go_wp2
 go_ret
 exact ⟨rfl, G.out⟩
instance : Inhabited EvT := ⟨evTy.z⟩
def cmpEv (x y : EvT) : Int := cmpD x.n x.s y.n y.s
theorem ltEv (x y : EvT) : ltOf cmpEv x y = decide (LtD x.n x.s y.n y.s) := by
 unfold ltOf cmpEv
 exact decide_eq_decide.2 cmpD_lt
theorem swoEv : Go.Sort.SWO (ltOf cmpEv) where
 irrefl x := by rw [ltEv]; simp [LtD]
 trans x y z h1 h2 := by
  rw [ltEv, decide_eq_true_eq] at *
  unfold LtD at *
  omega
 ntrans x y z h1 h2 := by
  rw [ltEv, decide_eq_false_iff_not] at *
  unfold LtD at *
  omega
set_option maxRecDepth 100000 in
set_option maxHeartbeats 2000000 in
theorem evcmp_says : CmpSays evTy 94 cmpEv := fun w x y => by
 show Calls Tryz.prog 94 #[.agg #[.int .i64 x.n, .int .i64 x.s, .string x.p, .int .i64 x.k, .int .i64 x.m, .slice x.A x.l x.c, .slice x.B x.bl x.bc], .agg #[.int .i64 y.n, .int .i64 y.s, .string y.p, .int .i64 y.k, .int .i64 y.m, .slice y.A y.l y.c, .slice y.B y.bl y.bc]] w fun e w' => e = .returned (.int .i64 (cmpD x.n x.s y.n y.s)) ∧ Gr w w'
 obtain ⟨w0, hw0, c0, b0, b1⟩ := gr2 w (.cells #[.int .i64 x.n, .int .i64 x.s, .string x.p, .int .i64 x.k, .int .i64 x.m, .slice x.A x.l x.c, .slice x.B x.bl x.bc] 29) (.cells #[.int .i64 y.n, .int .i64 y.s, .string y.p, .int .i64 y.k, .int .i64 y.m, .slice y.A y.l y.c, .slice y.B y.bl y.bc] 29)
 have W0 := Lib.hid hw0
 have G := Lib.hid c0
 have k0 := cell_of b0 0
 have k1 := cell_of b0 1
 have k2 := cell_of b0 2
 have k3 := cell_of b0 3
 have k4 := cell_of b0 4
 have k5 := cell_of b0 5
 have k6 := cell_of b0 6
 simp only [List.getElem?_toArray, List.getElem?_cons_succ, List.getElem?_cons_zero] at k0 k1 k2 k3 k4 k5 k6
 have d0 := cell_of b1 0
 have d1 := cell_of b1 1
 have d2 := cell_of b1 2
 have d3 := cell_of b1 3
 have d4 := cell_of b1 4
 have d5 := cell_of b1 5
 have d6 := cell_of b1 6
 simp only [List.getElem?_toArray, List.getElem?_cons_succ, List.getElem?_cons_zero] at d0 d1 d2 d3 d4 d5 d6
 clear hw0 c0 b0 b1
 go_enter Tryz.func94, Tryz.ntmps94
 go_upto_region 1 with fail
 rw [← W0.out]
 generalize w.heap.size + 1 = s1 at *
 generalize w.heap.size = s0 at *
 go_wp2_with fail
 refine (evbydot_gr _ x _ _).mono ?_
 rintro e w1 ⟨rfl, c1⟩
 replace G := Lib.hid (G.out.trans c1)
 clear c1 k0 k1 k2 k3 k4 k5 k6 d0 d1 d2 d3 d4 d5 d6
 go_wp2
 go_ret
 exact ⟨rfl, G.out⟩
set_option maxRecDepth 100000 in
set_option maxHeartbeats 1000000 in
theorem cloneEv_any (w : World) (A : Option Addr) (n c : Nat) (xs : List EvT) (h : RdK evTy w A n xs) (hn : n * 400 ≤ 140737488355327) :
  Calls Tryz.prog 92 #[.slice A n c] w fun e w' => ∃ A' c', e = .returned (.slice A' n c') ∧ OwnK evTy w' A' c' xs ∧ (∀ a, A' = some a → w.heap.size ≤ a.block) ∧ Chg [] w w' := by
 have heq := fun W => Lib.run_eql_slice_nil (P := Tryz.prog) W 31 29 A n c 0 0 Tryz.underlying31
 cases A with
 | none =>
  have hx := rdk_nil h
  subst hx
  have hl : n = 0 := h.len.symm
  subst hl
  clear h
  go_enter Tryz.func92, Tryz.ntmps92
  go_wp2
  go_ret
  exact ⟨none, 0, rfl, OwnK.none_ _, by simp, Chg.refl _ _⟩
 | some ad =>
  obtain ⟨w1, hw1, c1, b1⟩ := news1 w (.cells #[] 29)
  have W1 := Lib.hid hw1
  have HA := Lib.hid (h.chg c1 (by simp))
  have HO : Hid (OwnK evTy w1 (some ⟨w.heap.size, 0, none⟩) 0 []) := Lib.hid (.of (full := []) b1 (Nat.le_refl _) (Nat.zero_le _) rfl rfl)
  have C1 := Lib.hid c1
  have HN : Hid ((0 + n) * 400 ≤ 140737488355327) := Lib.hid (by rw [Nat.zero_add]; exact hn)
  clear hw1 c1 b1 h hn
  go_enter Tryz.func92, Tryz.ntmps92
  go_wp2_with (at_builtin; rw [← W1.out]; refine wpList_appK rfl _ _ rfl rfl HO.out rfl rfl HA.out HN.out ?_; intro A2 c2 w2 u2 d2 e2)
  go_ret
  rw [Nat.zero_add] at *
  have hA2 : ∀ a, A2 = some a → w.heap.size ≤ a.block := by
   rintro a rfl
   rcases e2 with h | h
   ·
    cases h; exact Nat.le_refl _
   ·
    cases h; exact C1.out.size
  exact ⟨A2, c2, rfl, by simpa using u2, hA2, C1.out.grown d2 (fun k hk => by simp at hk; subst hk; exact .inr (Nat.le_refl _))⟩
end
section
open Go.RowKit Go.Lib
set_option linter.unusedSimpArgs false
set_option linter.unusedVariables false


def cmpEd (x : EvT) (n s : Int) : Int := cmpD x.n x.s n s
theorem cmpEd_neg {x : EvT} {n s : Int} : cmpEd x n s < 0 ↔ LtD x.n x.s n s := cmpD_lt
theorem cmpEd_zero {x : EvT} {n s : Int} : cmpEd x n s = 0 ↔ x.n = n ∧ x.s = s := by
 unfold cmpEd
 rw [cmpD_is]
 by_cases h1 : LtD x.n x.s n s
 ·
  rw [if_pos h1]
  unfold LtD at h1
  exact ⟨fun h => absurd h (by decide), fun h => absurd h1 (by omega)⟩
 ·
  rw [if_neg h1]
  by_cases h2 : LtD n s x.n x.s
  ·
   rw [if_pos h2]
   unfold LtD at h2
   exact ⟨fun h => absurd h (by decide), fun h => absurd h2 (by omega)⟩
  ·
   rw [if_neg h2]
   unfold LtD at h1 h2
   exact ⟨fun _ => by omega, fun _ => rfl⟩
def UpE (xs : List EvT) : Prop := xs.Pairwise (fun x y => ¬ LtD y.n y.s x.n x.s)
theorem up_at {l : List EvT} (h : UpE l) {p q : Nat} {x y : EvT} (hx : l[p]? = some x) (hy : l[q]? = some y) (hl : p < q) : ¬ LtD y.n y.s x.n x.s := by
 obtain ⟨l1, e1⟩ := List.getElem?_eq_some_iff.1 hx
 obtain ⟨l2, e2⟩ := List.getElem?_eq_some_iff.1 hy
 have := List.pairwise_iff_getElem.1 h p q l1 l2 hl
 rw [e1, e2] at this
 exact this
def LoE (xs : List EvT) (n s : Int) (i : Nat) : Prop := ∀ p x, xs[p]? = some x → p < i → LtD x.n x.s n s
def HiE (xs : List EvT) (n s : Int) (j : Nat) : Prop := ∀ p x, xs[p]? = some x → j ≤ p → ¬ LtD x.n x.s n s
theorem loE_next {xs : List EvT} {n s : Int} (hn : UpE xs) {h : Nat} {x : EvT} (hx : xs[h]? = some x) (hc : cmpEd x n s < 0) : LoE xs n s (h + 1) := by
 intro p y hy hp
 rw [cmpEd_neg] at hc
 by_cases e : p = h
 ·
  subst e; rw [hx] at hy; cases hy; exact hc
 ·
  have a := up_at hn hy hx (by omega)
  unfold LtD at *
  omega
theorem hiE_next {xs : List EvT} {n s : Int} (hn : UpE xs) {h : Nat} {x : EvT} (hx : xs[h]? = some x) (hc : ¬ cmpEd x n s < 0) : HiE xs n s h := by
 intro p y hy hp
 rw [cmpEd_neg] at hc
 by_cases e : p = h
 ·
  subst e; rw [hx] at hy; cases hy; exact hc
 ·
  have a := up_at hn hx hy (by omega)
  unfold LtD at *
  omega
def inE (xs : List EvT) (n s : Int) : Bool := xs.any (fun x => decide (x.n = n ∧ x.s = s))
theorem inE_yes {xs : List EvT} {n s : Int} {i : Nat} {x : EvT} (hx : xs[i]? = some x) (hc : cmpEd x n s = 0) : inE xs n s = true := by
 unfold inE
 rw [List.any_eq_true]
 exact ⟨x, List.mem_of_getElem? hx, decide_eq_true (cmpEd_zero.1 hc)⟩
theorem inE_no {xs : List EvT} {n s : Int} (hn : UpE xs) {i : Nat} (hl : LoE xs n s i) (hh : HiE xs n s i) (hx : ∀ x, xs[i]? = some x → cmpEd x n s ≠ 0) : inE xs n s = false := by
 rcases q : inE xs n s with _ | _
 ·
  rfl
 ·
  unfold inE at q
  rw [List.any_eq_true] at q
  obtain ⟨y, hy, hi⟩ := q
  have hi := of_decide_eq_true hi
  obtain ⟨q, hq, rfl⟩ := List.getElem_of_mem hy
  have hz : cmpEd xs[q] n s = 0 := cmpEd_zero.2 hi
  have hqe := List.getElem?_eq_getElem hq
  rcases Nat.lt_trichotomy q i with h | h | h
  ·
   have := hl q _ hqe h
   unfold LtD at this
   omega
  ·
   subst h; exact absurd hz (hx _ hqe)
  ·
   have hie := List.getElem?_eq_getElem (show i < xs.length by omega)
   have a := up_at hn hie hqe h
   have b := hh i _ hie (Nat.le_refl _)
   have c := hx _ hie
   have d : ¬ (xs[i].n = n ∧ xs[i].s = s) := fun e => c (cmpEd_zero.2 e)
   unfold LtD at a b
   omega
end
section
open Go.RowKit Go.Lib
set_option linter.unusedSimpArgs false
set_option linter.unusedVariables false


theorem evbydot_e (w : World) (x : EvT) (n s : Int) : Calls Tryz.prog 95 #[.agg #[.int .i64 x.n, .int .i64 x.s, .string x.p, .int .i64 x.k, .int .i64 x.m, .slice x.A x.l x.c, .slice x.B x.bl x.bc], .agg #[.int .i64 n, .int .i64 s]] w fun e w' => e = .returned (.int .i64 (cmpEd x n s)) ∧ Chg [] w w' := (evbydot_gr w x n s).mono (fun _ _ h => ⟨h.1, h.2.1⟩)
set_option maxRecDepth 100000 in
set_option maxHeartbeats 8000000 in
theorem binev_any (w : World) (A : Option Addr) (c : Nat) (xs : List EvT) (n s : Int) (h : RdK evTy w A xs.length xs) (hn : UpE xs) (hl : xs.length ≤ 100000) :
  Calls Tryz.prog 139 #[.slice A xs.length c, .agg #[.int .i64 n, .int .i64 s], .func (.func 95) #[] #[]] w fun e w' => ∃ i : Nat, i ≤ xs.length ∧ LoE xs n s i ∧ HiE xs n s i ∧ e = .returned (.tuple #[.int .i64 (i : Int), .bool (inE xs n s)]) ∧ Chg [] w w' := by
 have HX := Lib.hid h
 have HNM := Lib.hid hn
 have HL := Lib.hid hl
 clear h hn hl
 obtain ⟨w1, hw1, c1, b1⟩ := news1 w (.cells #[.int .i64 n, .int .i64 s] 23)
 have W1 := Lib.hid hw1
 have C1 := Lib.hid c1
 have B1 := Lib.hid b1
 clear hw1 c1 b1
 go_enter Tryz.func139, Tryz.ntmps139
 go_upto_region 2 with fail
 rw [← W1.out]
 generalize w.heap.size = g0 at *
 clear W1
 go_wp2
 go_loopw [9, 10] (fun v9 v10 wr => ∃ (i j : Nat), i ≤ j ∧ j ≤ xs.length ∧ v9 = .int .i64 (i : Int) ∧ v10 = .int .i64 (j : Int) ∧ Hid (LoE xs n s i ∧ HiE xs n s j) ∧ Hid (Chg [] w1 wr)) (fun v9 v10 _ => (RowKit.intOf v10).toNat - (RowKit.intOf v9).toNat)
 case atStart => exact ⟨0, xs.length, Nat.zero_le _, Nat.le_refl _, rfl, rfl, Lib.hid ⟨fun p x _ h => absurd h (by omega), fun p x hx h => absurd ((List.getElem?_eq_some_iff.1 hx).1) (by omega)⟩, Chg.refl _ _⟩
 case round =>
  obtain ⟨i, j, hij, hj, rfl, rfl, HI, HC⟩ := hrel
  have i0 : (0 : Int) ≤ (i : Int) := by omega
  have hl := HL.out
  have i1 : IntKind.i64.wrap ((i : Int) + (j : Int)) = ((i + j : Nat) : Int) := by rw [IntWalk.i64_in _ (by omega)]; omega
  by_cases hlt : i < j
  ·
   have i2 : (i : Int) < (j : Int) := by omega
   go_upto_region 5 with fail
   obtain ⟨k, hk⟩ : ∃ k : Nat, k = (i + j) / 2 := ⟨_, rfl⟩
   have e1 : ((i : Int) + (j : Int)) / 2 = (k : Int) := by omega
   rw [e1]
   have hk1 : i ≤ k ∧ k < j := by omega
   clear hk e1 i1 i2
   obtain ⟨x, hx⟩ : ∃ x, xs[k]? = some x := ⟨_, List.getElem?_eq_getElem (by omega)⟩
   have R4 := (HX.out.chg C1.out (by simp)).chg HC.out (by simp)
   obtain ⟨g, o, eA, _⟩ := R4.line (by omega)
   subst eA
   obtain ⟨q0, q1, q2, q3, q4, q5, q6⟩ := evCells R4 hx
   have b4 := HC.out.at_ B1.out (by simp)
   have d0 := cell_of b4 0
   have d1 := cell_of b4 1
   simp only [List.getElem?_toArray, List.getElem?_cons_succ, List.getElem?_cons_zero] at d0 d1
   have k0 : (0 : Int) ≤ (k : Int) := by omega
   have k1 : (k : Int) < (xs.length : Int) := by omega
   have HX5 := Lib.hid hx
   clear R4 b4 hx
   refine wp_region_held_drew (S := fun w' => w'.cell? ⟨g, o + k * 7, none⟩ = some (.int .i64 x.n) ∧ w'.cell? ⟨g, o + k * 7 + 1, none⟩ = some (.int .i64 x.s) ∧ w'.cell? ⟨g, o + k * 7 + 2, none⟩ = some (.string x.p) ∧ w'.cell? ⟨g, o + k * 7 + 3, none⟩ = some (.int .i64 x.k) ∧ w'.cell? ⟨g, o + k * 7 + 4, none⟩ = some (.int .i64 x.m) ∧ w'.cell? ⟨g, o + k * 7 + 5, none⟩ = some (.slice x.A x.l x.c) ∧ w'.cell? ⟨g, o + k * 7 + 6, none⟩ = some (.slice x.B x.bl x.bc) ∧ w'.cell? ⟨g0, 0, none⟩ = some (.int .i64 n) ∧ w'.cell? ⟨g0, 1, none⟩ = some (.int .i64 s)) (by kernel_rfl) ⟨q0, q1, q2, q3, q4, q5, q6, d0, d1⟩ (fun hHeld => ?_)
   have CD := Lib.hid (Chg.refl [] wr).drew
   have HH := Lib.hid (fun (w' : World) (hc : Chg [] wr.drew w') => (⟨(CD.out.trans hc).cell q0 (by simp), (CD.out.trans hc).cell q1 (by simp), (CD.out.trans hc).cell q2 (by simp), (CD.out.trans hc).cell q3 (by simp), (CD.out.trans hc).cell q4 (by simp), (CD.out.trans hc).cell q5 (by simp), (CD.out.trans hc).cell q6 (by simp), (CD.out.trans hc).cell d0 (by simp), (CD.out.trans hc).cell d1 (by simp)⟩ : w'.cell? ⟨g, o + k * 7, none⟩ = some (.int .i64 x.n) ∧ w'.cell? ⟨g, o + k * 7 + 1, none⟩ = some (.int .i64 x.s) ∧ w'.cell? ⟨g, o + k * 7 + 2, none⟩ = some (.string x.p) ∧ w'.cell? ⟨g, o + k * 7 + 3, none⟩ = some (.int .i64 x.k) ∧ w'.cell? ⟨g, o + k * 7 + 4, none⟩ = some (.int .i64 x.m) ∧ w'.cell? ⟨g, o + k * 7 + 5, none⟩ = some (.slice x.A x.l x.c) ∧ w'.cell? ⟨g, o + k * 7 + 6, none⟩ = some (.slice x.B x.bl x.bc) ∧ w'.cell? ⟨g0, 0, none⟩ = some (.int .i64 n) ∧ w'.cell? ⟨g0, 1, none⟩ = some (.int .i64 s)))
   clear q0 q1 q2 q3 q4 q5 q6 d0 d1
   generalize wr.drew = wd at *
   refine sy 0 24 rfl rfl ?_
   try simp only [Act.put, sA, s0, s1]
   refine sy 1 25 rfl rfl ?_
   try simp only [Act.put, sA, s0, s1]
   refine sy 2 26 rfl rfl ?_
   try simp only [Act.put, sA, s0, s1]
   refine sy 3 27 rfl rfl ?_
   try simp only [Act.put, sA, s0, s1]
   refine sy 4 28 rfl rfl ?_ (hy := by (intro w hSw; (try dsimp only at hSw); obtain ⟨q0, q1, q2, q3, q4, q5, q6, q7, q8⟩ := hSw; go_simp; try with_reducible rfl))
   try simp only [Act.put, sA, s0, s1]
   refine sy 5 29 rfl rfl ?_ (hy := by (intro w hSw; (try dsimp only at hSw); obtain ⟨q0, q1, q2, q3, q4, q5, q6, q7, q8⟩ := hSw; go_simp; try with_reducible rfl))
   try simp only [Act.put, sA, s0, s1]
   refine wpAnyH_ready (rs := [6]) (by kernel_rfl) (by simp) ?_
   refine AllReadyH.cons rfl (fun K hK => ?_) AllReadyH.nil
   replace hK := Lib.hid hK
   go_simp
   refine (evbydot_e wd x n s).mono ?_
   rintro r w6 ⟨rfl, h6⟩
   have C6 := Lib.hid h6
   clear h6 hHeld
   refine hK.out _ _ (HH.out w6 C6.out) (fun hHeld => ?_)
   clear hK K
   try simp only [Act.put, sA, s0, s1]
   refine sy 7 31 rfl rfl ?_
   try simp only [Act.put, sA, s0, s1]
   refine wpAnyH_done (by kernel_rfl) ?_ _
   clear hHeld HH
   have CE := Lib.hid (HC.out.trans (CD.out.trans C6.out))
   by_cases hneg : cmpEd x n s < 0
   ·
    have LO := Lib.hid (loE_next HNM.out HX5.out hneg)
    have dn1 : decide (cmpEd x n s < 0) = true := decide_eq_true hneg
    have w1' : IntKind.i64.wrap ((k : Int) + 1) = (k : Int) + 1 := IntWalk.i64_in _ (by omega)
    go_wp2
    go_round
    case rel => exact ⟨k + 1, j, by omega, hj, by go_num, rfl, Lib.hid ⟨LO.out, HI.out.2⟩, CE.out⟩
    case measure => simp [RowKit.intOf]; omega
   ·
    have HIN := Lib.hid (hiE_next HNM.out HX5.out hneg)
    have dn1 : decide (cmpEd x n s < 0) = false := decide_eq_false hneg
    go_wp2
    go_round
    case rel => exact ⟨i, k, by omega, by omega, rfl, rfl, Lib.hid ⟨HI.out.1, HIN.out⟩, CE.out⟩
    case measure => simp [RowKit.intOf]; omega
  ·
   obtain rfl : i = j := by omega
   have i2 : ¬ (i : Int) < (i : Int) := by omega
   by_cases hin : i < xs.length
   ·
    have k1 : (i : Int) < (xs.length : Int) := by omega
    have k2 : decide ((i : Int) < (xs.length : Int)) = true := by simp; omega
    have k3 : decide (i < xs.length) = true := by simp; omega
    obtain ⟨x, hx⟩ : ∃ x, xs[i]? = some x := ⟨_, List.getElem?_eq_getElem hin⟩
    have R4 := (HX.out.chg C1.out (by simp)).chg HC.out (by simp)
    obtain ⟨g, o, eA, _⟩ := R4.line (by omega)
    subst eA
    obtain ⟨q0, q1, q2, q3, q4, q5, q6⟩ := evCells R4 hx
    have b4 := HC.out.at_ B1.out (by simp)
    have d0 := cell_of b4 0
    have d1 := cell_of b4 1
    simp only [List.getElem?_toArray, List.getElem?_cons_succ, List.getElem?_cons_zero] at d0 d1
    have ANS : Hid (inE xs n s = decide (cmpEd x n s = 0)) := Lib.hid (by
     by_cases hz : cmpEd x n s = 0
     ·
      rw [inE_yes hx hz, decide_eq_true hz]
     ·
      rw [inE_no HNM.out HI.out.1 HI.out.2 (fun y hy => by rw [hx] at hy; cases hy; exact hz), decide_eq_false hz])
    clear R4 b4 hx
    go_upto_region 8 with fail
    refine wp_region_held_drew (S := fun w' => w'.cell? ⟨g, o + i * 7, none⟩ = some (.int .i64 x.n) ∧ w'.cell? ⟨g, o + i * 7 + 1, none⟩ = some (.int .i64 x.s) ∧ w'.cell? ⟨g, o + i * 7 + 2, none⟩ = some (.string x.p) ∧ w'.cell? ⟨g, o + i * 7 + 3, none⟩ = some (.int .i64 x.k) ∧ w'.cell? ⟨g, o + i * 7 + 4, none⟩ = some (.int .i64 x.m) ∧ w'.cell? ⟨g, o + i * 7 + 5, none⟩ = some (.slice x.A x.l x.c) ∧ w'.cell? ⟨g, o + i * 7 + 6, none⟩ = some (.slice x.B x.bl x.bc) ∧ w'.cell? ⟨g0, 0, none⟩ = some (.int .i64 n) ∧ w'.cell? ⟨g0, 1, none⟩ = some (.int .i64 s)) (by kernel_rfl) ⟨q0, q1, q2, q3, q4, q5, q6, d0, d1⟩ (fun hHeld => ?_)
    have CD := Lib.hid (Chg.refl [] wr).drew
    have HH := Lib.hid (fun (w' : World) (hc : Chg [] wr.drew w') => (⟨(CD.out.trans hc).cell q0 (by simp), (CD.out.trans hc).cell q1 (by simp), (CD.out.trans hc).cell q2 (by simp), (CD.out.trans hc).cell q3 (by simp), (CD.out.trans hc).cell q4 (by simp), (CD.out.trans hc).cell q5 (by simp), (CD.out.trans hc).cell q6 (by simp), (CD.out.trans hc).cell d0 (by simp), (CD.out.trans hc).cell d1 (by simp)⟩ : w'.cell? ⟨g, o + i * 7, none⟩ = some (.int .i64 x.n) ∧ w'.cell? ⟨g, o + i * 7 + 1, none⟩ = some (.int .i64 x.s) ∧ w'.cell? ⟨g, o + i * 7 + 2, none⟩ = some (.string x.p) ∧ w'.cell? ⟨g, o + i * 7 + 3, none⟩ = some (.int .i64 x.k) ∧ w'.cell? ⟨g, o + i * 7 + 4, none⟩ = some (.int .i64 x.m) ∧ w'.cell? ⟨g, o + i * 7 + 5, none⟩ = some (.slice x.A x.l x.c) ∧ w'.cell? ⟨g, o + i * 7 + 6, none⟩ = some (.slice x.B x.bl x.bc) ∧ w'.cell? ⟨g0, 0, none⟩ = some (.int .i64 n) ∧ w'.cell? ⟨g0, 1, none⟩ = some (.int .i64 s)))
    clear q0 q1 q2 q3 q4 q5 q6 d0 d1 i2
    generalize wr.drew = wd at *
    refine sy 0 35 rfl rfl ?_
    try simp only [Act.put, sA, s0, s1]
    refine sy 1 36 rfl rfl ?_
    try simp only [Act.put, sA, s0, s1]
    refine sy 2 37 rfl rfl ?_
    try simp only [Act.put, sA, s0, s1]
    refine sy 3 38 rfl rfl ?_
    try simp only [Act.put, sA, s0, s1]
    refine sy 4 39 rfl rfl ?_
    try simp only [Act.put, sA, s0, s1]
    refine sy 5 40 rfl rfl ?_
    try simp only [Act.put, sA, s0, s1]
    refine sy 6 41 rfl rfl ?_
    try simp only [Act.put, sA, s0, s1]
    refine sy 7 42 rfl rfl ?_
    try simp only [Act.put, sA, s0, s1]
    refine sy 8 43 rfl rfl ?_
    try simp only [Act.put, sA, s0, s1]
    refine sy 9 44 rfl rfl ?_ (hy := by (intro w hSw; (try dsimp only at hSw); obtain ⟨q0, q1, q2, q3, q4, q5, q6, q7, q8⟩ := hSw; go_simp; try with_reducible rfl))
    try simp only [Act.put, sA, s0, s1]
    refine sy 10 45 rfl rfl ?_ (hy := by (intro w hSw; (try dsimp only at hSw); obtain ⟨q0, q1, q2, q3, q4, q5, q6, q7, q8⟩ := hSw; go_simp; try with_reducible rfl))
    try simp only [Act.put, sA, s0, s1]
    refine wpAnyH_ready (rs := [11]) (by kernel_rfl) (by simp) ?_
    refine AllReadyH.cons rfl (fun K hK => ?_) AllReadyH.nil
    replace hK := Lib.hid hK
    go_simp
    refine (evbydot_e wd x n s).mono ?_
    rintro r w6 ⟨rfl, h6⟩
    have C6 := Lib.hid h6
    clear h6 hHeld
    refine hK.out _ _ (HH.out w6 C6.out) (fun hHeld => ?_)
    clear hK K
    try simp only [Act.put, sA, s0, s1]
    refine sy 12 47 rfl rfl ?_
    try simp only [Act.put, sA, s0, s1]
    refine sy 13 48 rfl rfl ?_
    try simp only [Act.put, sA, s0, s1]
    refine sy 14 6 rfl rfl ?_
    try simp only [Act.put, sA, s0, s1]
    refine sy 15 7 rfl rfl ?_
    try simp only [Act.put, sA, s0, s1]
    refine wpAnyH_done (by kernel_rfl) ?_ _
    clear hHeld HH
    have CE := Lib.hid (C1.out.trans (HC.out.trans (CD.out.trans C6.out)))
    have LH := HI
    by_cases hz : cmpEd x n s = 0
    ·
     have AN : inE xs n s = true := by rw [ANS.out, decide_eq_true hz]
     have dz : ((cmpEd x n s == 0) : Bool) = true := by simpa using hz
     clear ANS hz
     go_wp2
     go_ret2
     (first | exact ⟨i, by omega, LH.out.1, LH.out.2, by rw [AN]; first | rfl | (show Ending.returned (.tuple #[.int .i64 (i : Int), .bool (cmpEd x n s == 0)]) = _; rw [dz]), CE.out⟩ | exact ⟨i, by omega, LH.out.1, LH.out.2, by first | rfl | (rw [AN]; rfl), CE.out⟩ | exact ⟨i, by omega, LH.out.1, LH.out.2, by show Ending.returned (.tuple #[.int .i64 (i : Int), .bool (cmpEd x n s == 0)]) = _; rw [dz], CE.out⟩)
    ·
     have AN : inE xs n s = false := by rw [ANS.out, decide_eq_false hz]
     have dz : ((cmpEd x n s == 0) : Bool) = false := by simpa using hz
     clear ANS hz
     go_wp2
     go_ret2
     (first | exact ⟨i, by omega, LH.out.1, LH.out.2, by rw [AN]; first | rfl | (show Ending.returned (.tuple #[.int .i64 (i : Int), .bool (cmpEd x n s == 0)]) = _; rw [dz]), CE.out⟩ | exact ⟨i, by omega, LH.out.1, LH.out.2, by first | rfl | (rw [AN]; rfl), CE.out⟩ | exact ⟨i, by omega, LH.out.1, LH.out.2, by show Ending.returned (.tuple #[.int .i64 (i : Int), .bool (cmpEd x n s == 0)]) = _; rw [dz], CE.out⟩)
   ·
    have k1 : ¬ (i : Int) < (xs.length : Int) := by omega
    have k2 : decide ((i : Int) < (xs.length : Int)) = false := by simp; omega
    have k3 : decide (i < xs.length) = false := by simp; omega
    have ANS : Hid (inE xs n s = false) := Lib.hid (inE_no HNM.out HI.out.1 HI.out.2 (fun y hy => absurd ((List.getElem?_eq_some_iff.1 hy).1) hin))
    go_upto_region 8 with fail
    refine wp_region_held_drew (S := fun _ => True) (by kernel_rfl) trivial (fun hHeld => ?_)
    have CD := Lib.hid (Chg.refl [] wr).drew
    generalize wr.drew = wd at *
    clear i2
    refine sy 0 35 rfl rfl ?_ (hS := trivial)
    try simp only [Act.put, sA, s0, s1]
    refine sy 1 36 rfl rfl ?_ (hS := trivial)
    try simp only [Act.put, sA, s0, s1]
    refine sy 2 37 rfl rfl ?_ (hS := trivial)
    try simp only [Act.put, sA, s0, s1]
    refine sy 3 38 rfl rfl ?_ (hS := trivial)
    try simp only [Act.put, sA, s0, s1]
    refine sy 4 39 rfl rfl ?_ (hS := trivial)
    try simp only [Act.put, sA, s0, s1]
    refine sn 5 40 rfl rfl ?_ (hS := trivial)
    try simp only [Act.put, sA, s0, s1]
    refine sn 6 41 rfl rfl ?_ (hS := trivial)
    try simp only [Act.put, sA, s0, s1]
    refine sn 7 42 rfl rfl ?_ (hS := trivial)
    try simp only [Act.put, sA, s0, s1]
    refine sn 8 43 rfl rfl ?_ (hS := trivial)
    try simp only [Act.put, sA, s0, s1]
    refine sn 9 44 rfl rfl ?_ (hS := trivial)
    try simp only [Act.put, sA, s0, s1]
    refine sn 10 45 rfl rfl ?_ (hS := trivial)
    try simp only [Act.put, sA, s0, s1]
    refine sn 11 46 rfl rfl ?_ (hS := trivial)
    try simp only [Act.put, sA, s0, s1]
    refine sn 12 47 rfl rfl ?_ (hS := trivial)
    try simp only [Act.put, sA, s0, s1]
    refine sy 13 48 rfl rfl ?_ (hS := trivial)
    try simp only [Act.put, sA, s0, s1]
    refine sy 14 6 rfl rfl ?_ (hS := trivial)
    try simp only [Act.put, sA, s0, s1]
    refine sy 15 7 rfl rfl ?_ (hS := trivial)
    try simp only [Act.put, sA, s0, s1]
    refine wpAnyH_done (by kernel_rfl) ?_ _
    clear hHeld
    have CE := Lib.hid (C1.out.trans (HC.out.trans CD.out))
    have AN := ANS.out
    have LH := HI
    go_wp2
    go_ret2
    (first | exact ⟨i, by omega, LH.out.1, LH.out.2, by rw [AN]; first | rfl | (show Ending.returned (.tuple #[.int .i64 (i : Int), .bool (cmpEd x n s == 0)]) = _; rw [dz]), CE.out⟩ | exact ⟨i, by omega, LH.out.1, LH.out.2, by first | rfl | (rw [AN]; rfl), CE.out⟩ | exact ⟨i, by omega, LH.out.1, LH.out.2, by show Ending.returned (.tuple #[.int .i64 (i : Int), .bool (cmpEd x n s == 0)]) = _; rw [dz], CE.out⟩)
end
section
open Go.RowKit Go.Lib
set_option linter.unusedSimpArgs false
set_option linter.unusedVariables false
end
end Go.Proofs.YtgbidlhgmeglmaaGreatDoor
