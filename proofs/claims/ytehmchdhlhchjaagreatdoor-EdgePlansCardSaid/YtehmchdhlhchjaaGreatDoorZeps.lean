/- What a store is, and is with one event more: purely. The runs of a store: purely. Where the shelf of a path stands in a store, and all paths of it: purely. shelf.isAheadOfOne. shelf.without's func; IndexFunc at it. Package past: Bytes; the document's. The document's Bytes of a past. The program's Bytes of a past. The numbers of bytes: the program's, the document's. The document's four. The program's Read of a past. The walk of past.Read. past.Read of all bytes. -/
import Derived.Test.YtehmchdhlhchjaaGreatDoorZepr
import Derived.Maps.OwnSet
import Derived.Test.YtehmchdhlhchjaaGreatDoorZepm
import Derived.Test.YtehmchdhlhchjaaGreatDoorZepd
import Derived.Deep.Cut
import Derived.Test.YtehmchdhlhchjaaGreatDoorZepc
import Derived.Test.YtehmchdhlhchjaaGreatDoorZepk
import Derived.Test.YtehmchdhlhchjaaGreatDoorZepa
import Derived.Laws.MakeOwn
import Derived.Deep.QuietTactic
import Derived.BigQuiet
import Derived.Deep.RegionHeld3
set_option linter.unusedSimpArgs false
set_option linter.unusedVariables false
set_option maxHeartbeats 32000000
namespace Go.Proofs.YtehmchdhlhchjaaGreatDoor
section
open Go.RowKit Go.Lib

def leP (a b : EvP) : Prop := a.p = b.p ∨ lessL a.p b.p = true
instance (a b : EvP) : Decidable (leP a b) := by unfold leP; exact inferInstance
def dotNe (a b : EvP) : Prop := ¬ (a.n = b.n ∧ a.s = b.s)
instance (a b : EvP) : Decidable (dotNe a b) := by unfold dotNe; exact inferInstance
def StOk (s : List EvP) : Prop := s.Pairwise leP ∧ s.Pairwise dotNe ∧ ∀ e ∈ s, ShOk (atS s e.p)
instance (s : List EvP) : Decidable (StOk s) := by unfold StOk; exact inferInstance
def stE (s : List EvP) : Int := if StOk s then 0 else 2
theorem stE_zero {s : List EvP} : stE s = 0 ↔ StOk s := by unfold stE; split <;> simp_all
theorem stE_two (s : List EvP) : stE s = 0 ∨ stE s = 2 := by unfold stE; split <;> simp
theorem leP_tr {a b c : EvP} (h : leP a b) (k : leP b c) : leP a c := by
 rcases h with h | h <;> rcases k with k | k
 ·
  exact .inl (h.trans k)
 ·
  exact .inr (h ▸ k)
 ·
  exact .inr (k ▸ h)
 ·
  exact .inr (less_trans _ _ _ h k)
theorem dotNe_comm {a b : EvP} (h : dotNe a b) : dotNe b a := fun q => h ⟨q.1.symm, q.2.symm⟩
end
section
open Go.RowKit Go.Lib

def StOk0 (s : List EvP) : Prop := s.Pairwise leP ∧ ∀ e ∈ s, ShOk (atS s e.p)
theorem stOk_iff {s : List EvP} : StOk s ↔ StOk0 s ∧ s.Pairwise dotNe := by
 unfold StOk StOk0
 exact ⟨fun h => ⟨⟨h.1, h.2.2⟩, h.2.1⟩, fun h => ⟨h.1.1, h.2, h.1.2⟩⟩
theorem shOk_sub {l m : List EvP} (h : ShOk m) (s : l.Sublist m) : ShOk l :=
 ⟨fun e he => h.1 e (s.subset he), fun e he f hf => h.2.1 e (s.subset he) f (s.subset hf), h.2.2.1.sublist s, fun e he f hf => h.2.2.2 e (s.subset he) f (s.subset hf)⟩
theorem shOk_nil : ShOk [] := by simp [ShOk]
theorem st0_nil : StOk0 [] := ⟨List.Pairwise.nil, by simp⟩
theorem st0_run {s r : List EvP} (h : StOk0 s) (hr : ShOk r) (hp : ∀ x ∈ s, ∀ y ∈ r, lessL x.p y.p = true) : StOk0 (s ++ r) := by
 refine ⟨List.pairwise_append.2 ⟨h.1, ?_, fun a ha b hb => .inr (hp a ha b hb)⟩, fun e he => ?_⟩
 ·
  rw [List.pairwise_iff_forall_sublist]
  intro a b hab
  exact .inl (hr.2.1 a (hab.subset (by simp)) b (hab.subset (by simp)))
 ·
  rw [atS_app]
  rcases List.mem_append.1 he with q | q
  ·
   rw [atS_none (a := r) (fun y hy ey => less_ne (hp e q y hy) ey.symm), List.append_nil]
   exact h.2 e q
  ·
   rw [atS_none (a := s) (fun y hy => less_ne (hp y hy e q)), atS_all (a := r) (fun x hx => hr.2.1 x hx e q), List.nil_append]
   exact hr
theorem st0_run_no {s r t : List EvP} {p : List UInt8} (hr : ∀ x ∈ r, x.p = p) (h : StOk0 (s ++ (r ++ t))) : ShOk r := by
 rcases r with _ | ⟨e, r⟩
 ·
  exact shOk_nil
 ·
  have q := h.2 e (by simp)
  rw [hr e (by simp)] at q
  refine shOk_sub q ?_
  rw [atS_app, atS_app, atS_all hr]
  exact (List.sublist_append_left _ _).trans (List.sublist_append_right _ _)
theorem st0_less {s : List EvP} {i k : Nat} {a b : EvP} (h : s.Pairwise leP) (ha : s[i]? = some a) (hb : s[k]? = some b) (hik : i < k) (hne : a.p ≠ b.p) : lessL a.p b.p = true := by
 obtain ⟨li, ei⟩ := List.getElem?_eq_some_iff.1 ha
 obtain ⟨lk, ek⟩ := List.getElem?_eq_some_iff.1 hb
 have := List.pairwise_iff_getElem.1 h i k li lk hik
 rw [ei, ek] at this
 rcases this with q | q
 ·
  exact absurd q hne
 ·
  exact q
def segL {α : Type} (l : List α) (k m : Nat) : List α := (l.take m).drop k
theorem take_seg {α : Type} (l : List α) {k m : Nat} (h : k ≤ m) : l.take m = l.take k ++ segL l k m := by
 unfold segL
 have := (List.take_append_drop k (l.take m)).symm
 rw [List.take_take, Nat.min_eq_left h] at this
 exact this
theorem seg_all {α : Type} (l : List α) {k m : Nat} (h : k ≤ m) : l = l.take k ++ (segL l k m ++ l.drop m) := by
 rw [← List.append_assoc, ← take_seg l h, List.take_append_drop]
theorem seg_len {α : Type} (l : List α) {k m : Nat} (h : m ≤ l.length) : (segL l k m).length = m - k := by
 unfold segL
 rw [List.length_drop, List.length_take, Nat.min_eq_left h]
theorem seg_get {α : Type} (l : List α) {k m i : Nat} (h : k + i < m) : (segL l k m)[i]? = l[k + i]? := by
 unfold segL
 rw [List.getElem?_drop, List.getElem?_take, if_pos h]
theorem seg_get_no {α : Type} (l : List α) {k m i : Nat} (h : ¬ k + i < m) : (segL l k m)[i]? = none := by
 unfold segL
 rw [List.getElem?_drop, List.getElem?_take, if_neg h]
def pathE (es : List EvP) (i : Nat) : Option (List UInt8) := (es[i]?).map (fun e => e.p)
structure RunAt (es : List EvP) (k m : Nat) : Prop where
 lt : k < m
 le : m ≤ es.length
 same : ∀ i, k ≤ i → i < m → pathE es i = pathE es k
 stop : m < es.length → pathE es m ≠ pathE es k
theorem pathE_some {es : List EvP} {i : Nat} {e : EvP} (h : es[i]? = some e) : pathE es i = some e.p := by
 unfold pathE
 rw [h]
 rfl
theorem RunAt.seg_path {es : List EvP} {k m : Nat} (h : RunAt es k m) {b : EvP} (hb : es[k]? = some b) : ∀ x ∈ segL es k m, x.p = b.p := fun x hx => by
 obtain ⟨i, hi⟩ := List.getElem?_of_mem hx
 by_cases q : k + i < m
 ·
  rw [seg_get es q] at hi
  have := h.same (k + i) (by omega) q
  rw [pathE_some hi, pathE_some hb] at this
  exact Option.some.inj this
 ·
  rw [seg_get_no es q] at hi
  cases hi
theorem run_step {es : List EvP} {j k m : Nat} {a b : EvP} (h0 : StOk0 (es.take k)) (h : RunAt es k m) (hb : es[k]? = some b) (hsh : ShOk (segL es k m)) (hk : k = 0 ∨ (RunAt es j k ∧ es[j]? = some a ∧ lessL a.p b.p = true)) : StOk0 (es.take m) := by
 rw [take_seg es (Nat.le_of_lt h.lt)]
 refine st0_run h0 hsh (fun x hx y hy => ?_)
 rw [h.seg_path hb y hy]
 rcases hk with rfl | ⟨r, ha, hl⟩
 ·
  simp at hx
 ·
  obtain ⟨i, hi⟩ := List.getElem?_of_mem hx
  have ik : i < k := by
   rw [List.getElem?_take] at hi
   split at hi
   ·
    assumption
   ·
    cases hi
  by_cases q : x.p = a.p
  ·
   rw [q]; exact hl
  ·
   refine less_trans _ _ _ ?_ hl
   by_cases ij : i < j
   ·
    exact st0_less h0.1 hi (by rw [List.getElem?_take, if_pos r.lt]; exact ha) ij q
   ·
    rw [List.getElem?_take, if_pos ik] at hi
    have := r.same i (by omega) ik
    rw [pathE_some hi, pathE_some ha] at this
    exact absurd (Option.some.inj this) q
theorem run_bad1 {es : List EvP} {k m : Nat} {b : EvP} (h : RunAt es k m) (hb : es[k]? = some b) (no : ¬ ShOk (segL es k m)) : ¬ StOk es := fun q => no (by
 have q := (stOk_iff.1 q).1
 rw [seg_all es (Nat.le_of_lt h.lt)] at q
 exact st0_run_no (h.seg_path hb) q)
theorem run_bad2 {es : List EvP} {j k : Nat} {a b : EvP} (r : RunAt es j k) (ha : es[j]? = some a) (hb : es[k]? = some b) (no : lessL a.p b.p = false) : ¬ StOk es := fun q => by
 have hk : k < es.length := (List.getElem?_eq_some_iff.1 hb).1
 have := st0_less q.1 ha hb r.lt (fun e => r.stop hk (by rw [pathE_some ha, pathE_some hb, e]))
 rw [no] at this
 cases this
/-! How many different ones there are -/
theorem addKey_len : ∀ (l acc : List Lit), (l.foldl Go.Maps.addKey acc).length ≤ acc.length + l.length
 | [], acc => Nat.le_refl _
 | x :: l, acc => by
  rw [List.foldl_cons]
  refine Nat.le_trans (addKey_len l _) ?_
  unfold Go.Maps.addKey
  split <;> simp <;> omega
theorem addKey_full (isK : ∀ x : Lit, WideAt.IsKeyLit x → x.sameKey x = true) : ∀ (l acc : List Lit), (∀ x ∈ l, WideAt.IsKeyLit x) → (∀ x ∈ acc, WideAt.IsKeyLit x) → ((l.foldl Go.Maps.addKey acc).length = acc.length + l.length ↔ (∀ x ∈ l, x ∉ acc) ∧ l.Pairwise (· ≠ ·))
 | [], acc, _, _ => by simp
 | x :: l, acc, hl, ha => by
  rw [List.foldl_cons]
  by_cases q : x ∈ acc
  ·
   have e : Go.Maps.addKey acc x = acc := by
    unfold Go.Maps.addKey
    have hany : acc.any (fun y => y.sameKey x) = true := List.any_eq_true.2 ⟨x, q, isK x (hl x (by simp))⟩
    rw [if_pos hany]
   rw [e]
   constructor
   ·
    intro h
    have := addKey_len l acc
    simp at h
    omega
   ·
    intro h
    exact absurd q (h.1 x (by simp))
  ·
   have e : Go.Maps.addKey acc x = acc ++ [x] := by
    unfold Go.Maps.addKey
    rw [if_neg]
    intro h
    obtain ⟨y, hy, hs⟩ := List.any_eq_true.1 h
    exact q (WideAt.sameKey_eq hs ▸ hy)
   rw [e]
   have ih := addKey_full isK l (acc ++ [x]) (fun y hy => hl y (by simp [hy])) (fun y hy => by
    rcases List.mem_append.1 hy with r | r
    ·
     exact ha y r
    ·
     simp at r; rw [r]; exact hl x (by simp))
   have e2 : (acc ++ [x]).length + l.length = acc.length + (x :: l).length := by simp; omega
   rw [← e2, ih]
   constructor
   ·
    rintro ⟨h1, h2⟩
    refine ⟨fun y hy => ?_, List.pairwise_cons.2 ⟨fun y hy ey => h1 y hy (by simp [ey]), h2⟩⟩
    rcases List.mem_cons.1 hy with r | r
    ·
     rw [r]; exact q
    ·
     exact fun m => h1 y r (by simp [m])
   ·
    rintro ⟨h1, h2⟩
    have hp := List.pairwise_cons.1 h2
    refine ⟨fun y hy m => ?_, hp.2⟩
    rcases List.mem_append.1 m with r | r
    ·
     exact h1 y (by simp [hy]) r
    ·
     simp at r; exact hp.1 y hy r.symm
theorem setOf_full {H : Type} (u : DataW H) (l : List Lit) (h : ∀ x ∈ l, WideAt.IsKeyLit x) : Go.Maps.size (Go.Maps.setOf u l) ≤ l.length ∧ (Go.Maps.size (Go.Maps.setOf u l) = l.length ↔ l.Pairwise (· ≠ ·)) := by
 have e : Go.Maps.size (Go.Maps.setOf u l) = (l.foldl Go.Maps.addKey []).length := Go.Maps.size_setOf u l h
 have a := addKey_len l []
 have b := addKey_full (fun x hx => WideAt.sameKey_self hx) l [] h (by simp)
 simp only [List.length_nil, Nat.zero_add] at a b
 rw [e]
 refine ⟨a, b.trans ⟨fun q => q.2, fun q => ⟨by simp, q⟩⟩⟩
def dotLit (e : EvP) : Lit := .string (keyBytes [.int .i64 e.n, .int .i64 e.s])
theorem dotLit_key (e : EvP) : WideAt.IsKeyLit (dotLit e) := trivial
def dotSetE (es : List EvP) : DataW Unit := Go.Maps.setOf (.agg []) (es.map dotLit)
theorem dotSetE_snoc (es : List EvP) (e : EvP) : dotSetE (es ++ [e]) = (dotSetE es).put (dotLit e) (.agg []) := by
 unfold dotSetE
 rw [List.map_append]
 exact Go.Maps.setOf_snoc _ _ _
theorem dotSetE_len (es : List EvP) (inj : ∀ a ∈ es, ∀ b ∈ es, dotLit a = dotLit b ↔ (a.n = b.n ∧ a.s = b.s)) : Go.Maps.size (dotSetE es) ≤ es.length ∧ (¬ Go.Maps.size (dotSetE es) < es.length ↔ es.Pairwise dotNe) := by
 have h := setOf_full (H := Unit) (.agg []) (es.map dotLit) (fun x hx => by
  obtain ⟨e, _, rfl⟩ := List.mem_map.1 hx
  exact dotLit_key e)
 rw [List.length_map] at h
 refine ⟨h.1, ?_⟩
 have e1 : (¬ Go.Maps.size (dotSetE es) < es.length) ↔ Go.Maps.size (dotSetE es) = es.length := by
  have := h.1
  unfold dotSetE
  omega
 rw [e1]
 unfold dotSetE
 rw [h.2, List.pairwise_map]
 constructor
 ·
  intro q
  exact List.Pairwise.imp_of_mem (fun {a b} ha hb hab r => hab ((inj a ha b hb).2 r)) q
 ·
  intro q
  exact List.Pairwise.imp_of_mem (fun {a b} ha hb hab r => hab ((inj a ha b hb).1 r)) q
end
section
open Go.RowKit Go.Lib

/-! All paths, each once -/
def addP (acc : List (List UInt8)) (p : List UInt8) : List (List UInt8) := if p ∈ acc then acc else acc ++ [p]
def pathsE (es : List EvP) : List (List UInt8) := es.foldl (fun acc e => addP acc e.p) []
end
section
open Go.RowKit Go.Lib


def IdxP (es : List EvP) (p : EvP → Bool) (v : Int) : Prop := (v = -1 ∧ ∀ e ∈ es, p e = false) ∨ ∃ (k : Nat) (e : EvP), v = k ∧ es[k]? = some e ∧ p e = true ∧ ∀ e ∈ es.take k, p e = false
theorem IdxP.any {es : List EvP} {p : EvP → Bool} {v : Int} (h : IdxP es p v) : es.any p = decide (0 ≤ v) := by
 rcases h with ⟨rfl, h⟩ | ⟨k, e, rfl, hk, hp, _⟩
 ·
  rw [List.any_eq_false.2 (fun e he => by rw [h e he]; decide)]
  rfl
 ·
  rw [List.any_eq_true.2 ⟨e, List.mem_of_getElem? hk, hp⟩]
  exact (decide_eq_true (by omega)).symm
theorem all_take_no {es : List EvP} {p : EvP → Bool} {k : Nat} {e : EvP} (h : ∀ e ∈ es.take k, p e = false) (hk : es[k]? = some e) (he : p e = false) : ∀ e ∈ es.take (k + 1), p e = false := by
 intro x hx
 rw [List.take_add_one, hk] at hx
 rcases List.mem_append.1 hx with q | q
 ·
  exact h x q
 ·
  simp at q
  subst q
  exact he

set_option maxRecDepth 100000 in
theorem shahead1_any (w : World) (gp : Nat) (x y : EvT) (e f : EvP) (hp : w.heap[gp]? = some (.cells #[.int .i64 y.n, .int .i64 y.s, .string y.p, .int .i64 y.k, .int .i64 y.m, .slice y.A y.l y.c, .slice y.B y.bl y.bc] 40 (0, 0))) (hx : EvR w x e) (hy : EvR w y f) (hs : EvSm e) (ht : EvSm f) :
  Calls Tryz.prog 168 #[.agg #[.int .i64 x.n, .int .i64 x.s, .string x.p, .int .i64 x.k, .int .i64 x.m, .slice x.A x.l x.c, .slice x.B x.bl x.bc], .pointer (some ⟨gp, 0, none⟩)] w fun r w' => r = .returned (.bool (aheadP f e)) ∧ Chg [] w w' := by
 obtain ⟨w1, hw1, c1, b1⟩ := news1 w (.cells #[.int .i64 x.n, .int .i64 x.s, .string x.p, .int .i64 x.k, .int .i64 x.m, .slice x.A x.l x.c, .slice x.B x.bl x.bc] 40)
 have W1 := h_ hw1
 have C1 := h_ c1
 have HX := h_ (hx.chg c1)
 have HY := h_ (hy.chg c1)
 have HS := h_ (And.intro hs ht)
 have p0 := c1.at_ hp (by simp)
 obtain ⟨y0, y1, y2, y3, y4, y5, y6⟩ := ce7 p0
 obtain ⟨z0, z1, z2, z3, z4, z5, z6⟩ := ce7 b1
 clear hw1 c1 b1 hp hx hy hs ht p0
 generalize hv : aheadP f e = v at *
 have HV := h_ hv
 clear hv
 go_enter Tryz.func168, Tryz.ntmps168
 go_upto_region 1 with fail
 rw [← W1.out]
 generalize w.heap.size = g1 at *
 clear W1; go_wp2_with fail; clear y0 y1 y2 y3 y4 y5 y6 z0 z1 z2 z3 z4 z5 z6
 refine (evahead_any w1 y x f e HY.out HX.out HS.out.2 HS.out.1).mono ?_
 rintro r w2 ⟨rfl, hc⟩
 rw [HV.out]
 replace C1 := h_ (C1.out.trans hc)
 clear hc; go_wp2; go_ret
 exact ⟨rfl, C1.out⟩

set_option maxRecDepth 100000 in
theorem shindex_any (w : World) (A : Option Addr) (c : Nat) (xs : List EvT) (es : List EvP) (gp : Nat) (y : EvT) (f : EvP) (h : RdK evTy w A xs.length xs) (hx : EvsR w xs es) (hn : xs.length ≤ 100000) (hp : w.heap[gp]? = some (.cells #[.int .i64 y.n, .int .i64 y.s, .string y.p, .int .i64 y.k, .int .i64 y.m, .slice y.A y.l y.c, .slice y.B y.bl y.bc] 40 (0, 0))) (hy : EvR w y f) (hs : ∀ e ∈ es, EvSm e) (ht : EvSm f) :
  Calls Tryz.prog 82 #[.slice A xs.length c, .func (.func 168) #[] #[.pointer (some ⟨gp, 0, none⟩)]] w fun r w' => (∃ v : Int, r = .returned (.int .i64 v) ∧ IdxP es (fun e => aheadP f e) v) ∧ Chg [] w w' := by
 have HA := h_ h
 have HX := h_ hx
 have HN := h_ hn
 have HCALL := h_ (fun (wr : World) (RC : Chg [] w wr) (x : EvT) (e : EvP) (rx : EvR w x e) (he : e ∈ es) => shahead1_any wr gp x y e f (RC.at_ hp (by simp)) (rx.chg RC) (hy.chg RC) (hs e he) ht)
 have CLEARS : True := trivial
 clear CLEARS h hx hn
 go_enter Tryz.func82, Tryz.ntmps82
 go_wp2
 go_loopw [5, 8] (fun v5 v8 wr => ∃ (k : Nat), k ≤ xs.length ∧ v8 = .int .i64 k ∧ Hid (∀ e ∈ es.take k, (fun e => aheadP f e) e = false) ∧ Hid (Chg [] w wr)) (fun _ v8 _ => xs.length - (RowKit.intOf v8).toNat)
 case atStart => exact ⟨0, Nat.zero_le _, rfl, h_ (by simp), Chg.refl _ _⟩
 case round =>
  obtain ⟨k, hk, rfl, FN_, RC⟩ := hrel
  have i0 : (0 : Int) ≤ (k : Int) := by omega
  by_cases hlt : k < xs.length
  ·
   have i1 : (k : Int) < (xs.length : Int) := by omega
   have i3 : IntKind.i64.wrap ((k : Int) + 1) = (k : Int) + 1 := IntWalk.i64_in _ (by have := HN.out; omega)
   obtain ⟨x, e, ex, ee, rx⟩ := HX.out.at_ hlt
   obtain ⟨g, o, eA, _⟩ := HA.out.line (by omega)
   subst eA
   obtain ⟨z0, z1, z2, z3, z4, z5, z6⟩ := evCells (HA.out.chg RC.out (by simp)) ex
   have EE := h_ ee
   have CL := h_ (HCALL.out wr RC.out x e rx (List.mem_of_getElem? ee))
   clear ex ee rx; go_wp2_with fail
   refine CL.out.mono ?_
   rintro r w2 ⟨rfl, hc⟩
   have C2 := h_ (RC.out.trans hc)
   clear hc CL z0 z1 z2 z3 z4 z5 z6
   rcases hb : (fun e => aheadP f e) e with _ | _
   ·
    have FN1 := h_ (all_take_no FN_.out EE.out hb)
    dsimp only at hb
    rw [hb]
    clear hb FN_; go_wp2; go_round
    case rel => exact ⟨k + 1, by omega, by go_num, FN1, C2⟩
    case measure => simp [RowKit.intOf]; omega
   ·
    have AN : Hid (IdxP es (fun e => aheadP f e) (k : Int)) := h_ (.inr ⟨k, e, rfl, EE.out, hb, FN_.out⟩)
    dsimp only at hb
    rw [hb]
    clear hb FN_; go_wp2; go_ret
    exact ⟨⟨k, rfl, AN.out⟩, C2.out⟩
  ·
   obtain rfl : k = xs.length := by omega
   have ET : es.take xs.length = es := by rw [HX.out.1]; exact List.take_length
   rw [ET] at FN_
   clear ET
   have i1 : ¬ (xs.length : Int) < (xs.length : Int) := by omega
   go_wp2; go_ret
   exact ⟨⟨-1, rfl, .inl ⟨rfl, FN_.out⟩⟩, RC.out⟩

set_option maxRecDepth 100000 in
theorem shcontains_any (w : World) (A : Option Addr) (c : Nat) (xs : List EvT) (es : List EvP) (gp : Nat) (y : EvT) (f : EvP) (h : RdK evTy w A xs.length xs) (hx : EvsR w xs es) (hn : xs.length ≤ 100000) (hp : w.heap[gp]? = some (.cells #[.int .i64 y.n, .int .i64 y.s, .string y.p, .int .i64 y.k, .int .i64 y.m, .slice y.A y.l y.c, .slice y.B y.bl y.bc] 40 (0, 0))) (hy : EvR w y f) (hs : ∀ e ∈ es, EvSm e) (ht : EvSm f) :
  Calls Tryz.prog 57 #[.slice A xs.length c, .func (.func 168) #[] #[.pointer (some ⟨gp, 0, none⟩)]] w fun r w' => r = .returned (.bool (es.any (fun e => aheadP f e))) ∧ Chg [] w w' := by
 have IX := h_ (shindex_any w A c xs es gp y f h hx hn hp hy hs ht)
 clear h hx hn
 generalize hv : es.any (fun e => aheadP f e) = v
 have HV := h_ hv
 clear hv
 go_enter Tryz.func57, Tryz.ntmps57
 go_wp2_with fail
 refine IX.out.mono ?_
 rintro e w2 ⟨⟨u, rfl, hu⟩, hc⟩
 have C := h_ hc
 have HU : Hid (decide ((0 : Int) ≤ u) = v) := h_ (by rw [← HV.out]; exact hu.any.symm)
 clear hu hc; go_wp2; go_ret
 exact ⟨by rw [HU.out]; rfl, C.out⟩

set_option maxRecDepth 100000 in
theorem shahead_any (w : World) (A : Option Addr) (c : Nat) (xs : List EvT) (es : List EvP) (y : EvT) (f : EvP) (h : RdK evTy w A xs.length xs) (hx : EvsR w xs es) (hn : xs.length ≤ 100000) (hy : EvR w y f) (hs : ∀ e ∈ es, EvSm e) (ht : EvSm f) :
  Calls Tryz.prog 113 #[.agg #[.int .i64 y.n, .int .i64 y.s, .string y.p, .int .i64 y.k, .int .i64 y.m, .slice y.A y.l y.c, .slice y.B y.bl y.bc], .slice A xs.length c] w fun r w' => r = .returned (.bool (es.any (fun e => aheadP f e))) ∧ Chg [] w w' := by
 obtain ⟨w1, hw1, c1, b1⟩ := news1 w (.cells #[.int .i64 y.n, .int .i64 y.s, .string y.p, .int .i64 y.k, .int .i64 y.m, .slice y.A y.l y.c, .slice y.B y.bl y.bc] 40)
 have W1 := h_ hw1
 have C1 := h_ c1
 have CC := h_ (shcontains_any w1 A c xs es w.heap.size y f (h.chg c1 (by simp)) (hx.chg c1) hn b1 (hy.chg c1) hs ht)
 clear hw1 c1 b1 h hx hn hy hs ht
 generalize hv : es.any (fun e => aheadP f e) = v at *
 go_enter Tryz.func113, Tryz.ntmps113
 go_upto_region 1 with fail
 rw [← W1.out]
 generalize w.heap.size = g1 at *
 clear W1 hv; go_wp2_with fail
 refine CC.out.mono ?_
 rintro r w2 ⟨rfl, hc⟩
 replace C1 := h_ (C1.out.trans hc)
 clear hc CC; go_wp2; go_ret
 exact ⟨rfl, C1.out⟩
end
end Go.Proofs.YtehmchdhlhchjaaGreatDoor
