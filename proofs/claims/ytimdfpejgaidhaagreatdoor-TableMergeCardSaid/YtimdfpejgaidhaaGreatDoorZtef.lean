/- event.Check. The kit's SameEvent. Two trees gone through together: purely. Rows of pairs. The kit's CopyEffect. The kit's CopyEvent. A row of nil has no elements. slices.Clone of spans. fresh.Effect, fresh.Event. table.pairOf. table.stands. -/
import Derived.Test.YtimdfpejgaidhaaGreatDoorZted
import Derived.Test.YtimdfpejgaidhaaGreatDoorZteb
import Derived.Test.YtimdfpejgaidhaaGreatDoorZtec
import Derived.Test.YtimdfpejgaidhaaGreatDoorZtee
import Derived.Deep.Cut
import Derived.Deep.RegionHeld3
import Derived.Test.YtimdfpejgaidhaaGreatDoorZtea
import Derived.BigQuiet
import Derived.Lib.MinMaxS
namespace Go.Proofs.YtimdfpejgaidhaaGreatDoor
section
open Go.RowKit Go.Lib
set_option linter.unusedSimpArgs false
set_option linter.unusedVariables false


def sameX (k m : Int) (xs : List UInt8) (k' m' : Int) (ys : List UInt8) : Bool := decide (k = k' ∧ m = m') && (xs == ys)
theorem strOf_ne {a b : List UInt8} (h : a ≠ b) : (strOf a == strOf b) = false := by
  cases q : strOf a == strOf b with
  | false => rfl
  | true =>
    have q2 : (a.toArray == b.toArray) = true := q
    exact absurd (by simpa using q2) h
theorem strOf_ne2 {a b : List UInt8} (h : a ≠ b) : ¬ strOf a = strOf b := fun q => h (strOf_inj q)

set_option maxRecDepth 100000 in
set_option maxHeartbeats 4000000 in
theorem sameeff_0 (w : World) (k m k' m' : Int) (A B : Option Addr) (n c n2 c2 : Nat) (xs ys : List UInt8) (h : Bs w A n xs) (h2 : Bs w B n2 ys) (hne : k ≠ k') :
    Calls Tryz.prog 17 #[.agg #[.int .i64 k, .int .i64 m, .slice A n c], .agg #[.int .i64 k', .int .i64 m', .slice B n2 c2]] w fun r w' => r = .returned (.bool false) ∧ Chg [] w w' := by
  obtain ⟨w2, hw, hc, b0, b1⟩ := news2 w (.cells #[.int .i64 k, .int .i64 m, .slice A n c] 25) (.cells #[.int .i64 k', .int .i64 m', .slice B n2 c2] 25)
  have W2 := Lib.hid hw
  have C := Lib.hid hc
  have H := Lib.hid (h.chg hc (by simp))
  have H2 := Lib.hid (h2.chg hc (by simp))
  have e1 : (k == k') = false := beq_eq_false_iff_ne.2 hne
  clear hne
  clear hw hc h h2
  go_enter Tryz.func17, Tryz.ntmps17
  go_upto_region 1 with fail
  rw [← W2.out]
  generalize w.heap.size + 1 = g1 at *
  generalize w.heap.size = g0 at *
  have z0 := cell_of b0 0
  have z1 := cell_of b0 1
  have z2 := cell_of b0 2
  have y0 := cell_of b1 0
  have y1 := cell_of b1 1
  have y2 := cell_of b1 2
  simp only [List.getElem?_toArray, List.getElem?_cons_succ, List.getElem?_cons_zero] at z0 z1 z2 y0 y1 y2
  clear b0 b1
  go_wp2
  go_ret
  exact ⟨rfl, C.out⟩
set_option maxRecDepth 100000 in
set_option maxHeartbeats 4000000 in
theorem sameeff_1 (w : World) (k m m' : Int) (A B : Option Addr) (n c n2 c2 : Nat) (xs ys : List UInt8) (h : Bs w A n xs) (h2 : Bs w B n2 ys) (hne : m ≠ m') :
    Calls Tryz.prog 17 #[.agg #[.int .i64 k, .int .i64 m, .slice A n c], .agg #[.int .i64 k, .int .i64 m', .slice B n2 c2]] w fun r w' => r = .returned (.bool false) ∧ Chg [] w w' := by
  obtain ⟨w2, hw, hc, b0, b1⟩ := news2 w (.cells #[.int .i64 k, .int .i64 m, .slice A n c] 25) (.cells #[.int .i64 k, .int .i64 m', .slice B n2 c2] 25)
  have W2 := Lib.hid hw
  have C := Lib.hid hc
  have H := Lib.hid (h.chg hc (by simp))
  have H2 := Lib.hid (h2.chg hc (by simp))
  have e2 : (m == m') = false := beq_eq_false_iff_ne.2 hne
  clear hne
  clear hw hc h h2
  go_enter Tryz.func17, Tryz.ntmps17
  go_upto_region 1 with fail
  rw [← W2.out]
  generalize w.heap.size + 1 = g1 at *
  generalize w.heap.size = g0 at *
  have z0 := cell_of b0 0
  have z1 := cell_of b0 1
  have z2 := cell_of b0 2
  have y0 := cell_of b1 0
  have y1 := cell_of b1 1
  have y2 := cell_of b1 2
  simp only [List.getElem?_toArray, List.getElem?_cons_succ, List.getElem?_cons_zero] at z0 z1 z2 y0 y1 y2
  clear b0 b1
  go_wp2
  go_ret
  exact ⟨rfl, C.out⟩
set_option maxRecDepth 100000 in
set_option maxHeartbeats 4000000 in
theorem sameeff_2 (w : World) (k m : Int) (A B : Option Addr) (n c n2 c2 : Nat) (xs ys : List UInt8) (h : Bs w A n xs) (h2 : Bs w B n2 ys) :
    Calls Tryz.prog 17 #[.agg #[.int .i64 k, .int .i64 m, .slice A n c], .agg #[.int .i64 k, .int .i64 m, .slice B n2 c2]] w fun r w' => r = .returned (.bool (xs == ys)) ∧ Chg [] w w' := by
  obtain ⟨w2, hw, hc, b0, b1⟩ := news2 w (.cells #[.int .i64 k, .int .i64 m, .slice A n c] 25) (.cells #[.int .i64 k, .int .i64 m, .slice B n2 c2] 25)
  have W2 := Lib.hid hw
  have C := Lib.hid hc
  have H := Lib.hid (h.chg hc (by simp))
  have H2 := Lib.hid (h2.chg hc (by simp))
  generalize hv : (xs == ys) = v
  have HV := Lib.hid hv
  clear hv
  clear hw hc h h2
  go_enter Tryz.func17, Tryz.ntmps17
  go_upto_region 1 with fail
  rw [← W2.out]
  generalize w.heap.size + 1 = g1 at *
  generalize w.heap.size = g0 at *
  have z0 := cell_of b0 0
  have z1 := cell_of b0 1
  have z2 := cell_of b0 2
  have y0 := cell_of b1 0
  have y1 := cell_of b1 1
  have y2 := cell_of b1 2
  simp only [List.getElem?_toArray, List.getElem?_cons_succ, List.getElem?_cons_zero] at z0 z1 z2 y0 y1 y2
  clear b0 b1
  go_wp2_with fail
  clear z0 z1 z2 y0 y1 y2
  refine (same_any w2 A B n n2 c c2 xs ys H.out H2.out).mono ?_
  rintro r w3 ⟨rfl, rfl⟩
  rw [HV.out]
  rcases v with _ | _
  all_goals (clear HV; go_wp2; go_ret; exact ⟨rfl, C.out⟩)
theorem sameeff_any (w : World) (k m k' m' : Int) (A B : Option Addr) (n c n2 c2 : Nat) (xs ys : List UInt8) (h : Bs w A n xs) (h2 : Bs w B n2 ys) :
    Calls Tryz.prog 17 #[.agg #[.int .i64 k, .int .i64 m, .slice A n c], .agg #[.int .i64 k', .int .i64 m', .slice B n2 c2]] w fun r w' => r = .returned (.bool (sameX k m xs k' m' ys)) ∧ Chg [] w w' := by
  unfold sameX
  by_cases hk : k = k'
  · subst hk
    by_cases hm : m = m'
    · subst hm
      have q := sameeff_2 w k m A B n c n2 c2 xs ys h h2
      simpa using q
    · have q := sameeff_1 w k m m' A B n c n2 c2 xs ys h h2 hm
      simpa [hm] using q
  · have q := sameeff_0 w k m k' m' A B n c n2 c2 xs ys h h2 hk
    simpa [hk] using q
end
section
open Go.RowKit Go.Lib
set_option linter.unusedSimpArgs false
set_option linter.unusedVariables false

/-- What two trees have at a path. -/
structure PrP where
  p : List UInt8
  ak : Int
  am : Int
  ab : List UInt8
  bk : Int
  bm : Int
  bb : List UInt8
def noT : EnP := ⟨[], 0, 0, []⟩
def prT (p : List UInt8) (x y : EnP) : PrP := ⟨p, x.k, x.m, x.b, y.k, y.m, y.b⟩
def atT (a b : List EnP) (p : List UInt8) : PrP := prT p ((getT a p).getD noT) ((getT b p).getD noT)
def namesT (a b : List EnP) : List (List UInt8) := insAllT lessL (a.map (·.p) ++ b.map (·.p))
def walkL (a b : List EnP) : List PrP := (namesT a b).map (atT a b)
def walkT (a b : List EnP) : Int × List PrP := if TabOk a ∧ TabOk b then (0, walkL a b) else (2, [])
def prSame (x : PrP) : Bool := sameX x.ak x.am x.ab x.bk x.bm x.bb
def diffT (a b : List EnP) : Int × List PrP := ((walkT a b).1, (walkT a b).2.filter (fun x => !prSame x))
theorem names_mem (a b : List EnP) (p : List UInt8) : p ∈ namesT a b ↔ (∃ e ∈ a, e.p = p) ∨ ∃ e ∈ b, e.p = p := by
  unfold namesT
  rw [(insAllT_props ordL _).2.1, List.mem_append, List.mem_map, List.mem_map]
theorem names_rise (a b : List EnP) : (namesT a b).Pairwise (fun x y => lessL x y = true) := (insAllT_props ordL _).1
theorem names_len (a b : List EnP) : (namesT a b).length ≤ a.length + b.length := by
  have := (insAllT_props ordL (a.map (·.p) ++ b.map (·.p))).2.2
  simpa [namesT] using this
theorem walk_len (a b : List EnP) : (walkL a b).length ≤ a.length + b.length := by
  unfold walkL
  rw [List.length_map]
  exact names_len a b
theorem walk_nil : walkL [] [] = [] := rfl
theorem get_cons_ne {x : EnP} {a : List EnP} {p : List UInt8} (h : x.p ≠ p) : getT (x :: a) p = getT a p := by
  unfold getT
  rw [List.find?_cons, decide_eq_false h]
theorem get_cons_eq {x : EnP} {a : List EnP} : getT (x :: a) x.p = some x := by
  unfold getT
  rw [List.find?_cons, decide_eq_true rfl]
/-- The first path of both, and what is behind it. -/
theorem walk_step {a b a' b' : List EnP} {q : List UInt8} (ha : ∀ e ∈ a', lessL q e.p = true) (hb : ∀ e ∈ b', lessL q e.p = true) (ga : ∀ p, p ≠ q → getT a p = getT a' p) (gb : ∀ p, p ≠ q → getT b p = getT b' p) (hm : ∀ p, ((∃ e ∈ a, e.p = p) ∨ ∃ e ∈ b, e.p = p) ↔ p = q ∨ ((∃ e ∈ a', e.p = p) ∨ ∃ e ∈ b', e.p = p)) : walkL a b = atT a b q :: walkL a' b' := by
  have low : ∀ p ∈ namesT a' b', lessL q p = true := fun p hp => by
    rcases (names_mem a' b' p).1 hp with ⟨e, he, rfl⟩ | ⟨e, he, rfl⟩
    · exact ha e he
    · exact hb e he
  have hn : namesT a b = q :: namesT a' b' := rise_ext ordL (names_rise a b) (List.pairwise_cons.2 ⟨low, names_rise a' b'⟩) (fun p => by
    rw [names_mem, List.mem_cons, names_mem, hm])
  unfold walkL
  rw [hn, List.map_cons]
  congr 1
  refine List.map_congr_left (fun p hp => ?_)
  have hq : p ≠ q := (less_ne (low p hp)).symm
  unfold atT
  rw [ga p hq, gb p hq]
theorem get_above {a : List EnP} {q : List UInt8} (h : ∀ e ∈ a, lessL q e.p = true) : getT a q = none := get_none.2 (fun e he => (less_ne (h e he)).symm)
theorem walk_left {x : EnP} {a b : List EnP} (ha : (x :: a).Pairwise ltT) (hb : ∀ e ∈ b, lessL x.p e.p = true) : walkL (x :: a) b = prT x.p x noT :: walkL a b := by
  rw [List.pairwise_cons] at ha
  rw [walk_step (q := x.p) (a' := a) (b' := b) ha.1 hb (fun p hp => get_cons_ne hp.symm) (fun p _ => rfl) (fun p => ?_)]
  · unfold atT
    rw [get_cons_eq, get_above hb]
    rfl
  · simp only [List.mem_cons, exists_eq_or_imp, or_assoc]
    constructor
    · exact fun h => h.imp Eq.symm id
    · exact fun h => h.imp Eq.symm id
theorem walk_right {y : EnP} {a b : List EnP} (hb : (y :: b).Pairwise ltT) (ha : ∀ e ∈ a, lessL y.p e.p = true) : walkL a (y :: b) = prT y.p noT y :: walkL a b := by
  rw [List.pairwise_cons] at hb
  rw [walk_step (q := y.p) (a' := a) (b' := b) ha hb.1 (fun p _ => rfl) (fun p hp => get_cons_ne hp.symm) (fun p => ?_)]
  · unfold atT
    rw [get_cons_eq, get_above ha]
    rfl
  · simp only [List.mem_cons, exists_eq_or_imp]
    constructor
    · exact fun h => h.elim (fun a => .inr (.inl a)) (fun a => a.elim (fun b => .inl b.symm) (fun b => .inr (.inr b)))
    · exact fun h => h.elim (fun a => .inr (.inl a.symm)) (fun a => a.elim (fun b => .inl b) (fun b => .inr (.inr b)))
theorem walk_both {x y : EnP} {a b : List EnP} (ha : (x :: a).Pairwise ltT) (hb : (y :: b).Pairwise ltT) (he : x.p = y.p) : walkL (x :: a) (y :: b) = prT x.p x y :: walkL a b := by
  rw [List.pairwise_cons] at ha hb
  rw [walk_step (q := x.p) (a' := a) (b' := b) ha.1 (fun e h => by rw [he]; exact hb.1 e h) (fun p hp => get_cons_ne hp.symm) (fun p hp => get_cons_ne (by rw [← he]; exact hp.symm)) (fun p => ?_)]
  · unfold atT
    rw [get_cons_eq, he, get_cons_eq]
    rfl
  · simp only [List.mem_cons, exists_eq_or_imp]
    constructor
    · exact fun h => h.elim (fun a => a.elim (fun b => .inl b.symm) (fun b => .inr (.inl b))) (fun a => a.elim (fun b => .inl (by rw [he, b])) (fun b => .inr (.inr b)))
    · exact fun h => h.elim (fun a => .inl (.inl a.symm)) (fun a => a.elim (fun b => .inl (.inr b)) (fun b => .inr (.inr b)))
/-- The heads of two rising lists, side by side. -/
theorem heads_less {x : EnP} {y : EnP} {b : List EnP} (hb : (y :: b).Pairwise ltT) (h : lessL x.p y.p = true) : ∀ e ∈ y :: b, lessL x.p e.p = true := fun e he => by
  rw [List.pairwise_cons] at hb
  rcases List.mem_cons.1 he with rfl | q
  · exact h
  · exact less_trans _ _ _ h (hb.1 e q)
theorem ok_ne_nil {p : List UInt8} (h : okP p = true) : p ≠ [] := by
  rintro rfl
  revert h
  decide
end
section
open Go.RowKit Go.Lib
set_option linter.unusedSimpArgs false
set_option linter.unusedVariables false

/-- A pair as it lies in memory: a path, what is there in one tree, what in the other. -/
structure PrT where
  p : ByteArray
  k : Int
  m : Int
  A : Option Addr
  l : Nat
  c : Nat
  k2 : Int
  m2 : Int
  B : Option Addr
  bl : Nat
  bc : Nat
def prTy : RowTy PrT where
  enc := fun x => [.string x.p, .int .i64 x.k, .int .i64 x.m, .slice x.A x.l x.c, .int .i64 x.k2, .int .i64 x.m2, .slice x.B x.bl x.bc]
  k := 7
  T := 50
  TS := 45
  z := ⟨⟨#[]⟩, 0, 0, none, 0, 0, 0, 0, none, 0, 0⟩
  zv := .agg #[.string ⟨#[]⟩, .int .i64 0, .int .i64 0, .slice none 0 0, .int .i64 0, .int .i64 0, .slice none 0 0]
  bytes := 96
  klen := fun _ => rfl
  one := by intro x v hv; simp at hv; rcases hv with rfl | rfl | rfl | rfl | rfl | rfl | rfl <;> rfl
  zc := rfl
  kpos := by decide
  bpos := by decide
  under := by kernel_rfl
  info := by kernel_rfl
/-- It reads so. -/
structure PrR (w : World) (x : PrT) (e : PrP) : Prop where
  p : x.p = strOf e.p
  k : x.k = e.ak
  m : x.m = e.am
  l : x.l = e.ab.length
  A : Bs w x.A x.l e.ab
  k2 : x.k2 = e.bk
  m2 : x.m2 = e.bm
  bl : x.bl = e.bb.length
  B : Bs w x.B x.bl e.bb
theorem PrR.chg {w w' : World} {x : PrT} {e : PrP} (h : PrR w x e) (hc : Chg [] w w') : PrR w' x e := ⟨h.p, h.k, h.m, h.l, h.A.chg hc (by simp), h.k2, h.m2, h.bl, h.B.chg hc (by simp)⟩
theorem flat_in {α : Type} {R : RowTy α} {v : Value} : ∀ {l : List α}, v ∈ R.flat l → ∃ y ∈ l, v ∈ R.enc y
  | [], h => by simp [RowTy.flat] at h
  | x :: l, h => by
    have h : v ∈ R.enc x ++ R.flat l := h
    rcases List.mem_append.1 h with q | q
    · exact ⟨x, by simp, q⟩
    · obtain ⟨y, hy, hv⟩ := flat_in q
      exact ⟨y, by simp [hy], hv⟩
/-- Bytes do not lie in a row of another kind. -/
theorem bs_row {α : Type} {R : RowTy α} (hu : ∀ x, ∀ v ∈ R.enc x, ∀ b : UInt8, v ≠ bv b) {w w' : World} {A B : Option Addr} {n c : Nat} {xs : List α} {bs : List UInt8} (h : Bs w B n bs) (ho : OwnK R w A c xs) (hc : Chg (blkOf A) w w') : Bs w' B n bs := by
  refine ⟨h.len, fun j v hj => ?_⟩
  obtain ⟨a, ha, hx⟩ := h.cells j v hj
  refine ⟨a, ha, hc.cell hx (fun q => ?_)⟩
  obtain ⟨b, hb, e⟩ := of_blkOf q
  rcases ho with ⟨h1, _⟩ | ⟨g, full, h1, hg, _⟩
  · rw [h1] at hb; cases hb
  · rw [h1] at hb
    cases hb
    have e : (a.add j).block = g := by simpa using e.symm
    simp only [World.cell?, e, hg] at hx
    split at hx
    · cases hx
    · have hm : bv v ∈ R.flat full := List.mem_of_getElem? (show (R.flat full)[(a.add j).off]? = some (bv v) by simpa using hx)
      obtain ⟨y, _, hy⟩ := flat_in hm
      exact hu y _ hy v rfl
theorem pr_nobyte : ∀ x : PrT, ∀ v ∈ prTy.enc x, ∀ b : UInt8, v ≠ bv b := fun x v hv b q => by
  subst q
  simp [prTy, bv] at hv
theorem PrR.row {w w' : World} {x : PrT} {e : PrP} {A : Option Addr} {c : Nat} {ys : List PrT} (h : PrR w x e) (ho : OwnK prTy w A c ys) (hc : Chg (blkOf A) w w') : PrR w' x e :=
  ⟨h.p, h.k, h.m, h.l, bs_row pr_nobyte h.A ho hc, h.k2, h.m2, h.bl, bs_row pr_nobyte h.B ho hc⟩
/-- The pair in a row of n cells at o. -/
theorem prCells {w : World} {g o n j : Nat} {xs : List PrT} (h : RdK prTy w (some ⟨g, o, none⟩) n xs) {x : PrT} (hx : xs[j]? = some x) : w.cell? ⟨g, o + j * 7, none⟩ = some (.string x.p) ∧ w.cell? ⟨g, o + j * 7 + 1, none⟩ = some (.int .i64 x.k) ∧ w.cell? ⟨g, o + j * 7 + 2, none⟩ = some (.int .i64 x.m) ∧ w.cell? ⟨g, o + j * 7 + 3, none⟩ = some (.slice x.A x.l x.c) ∧ w.cell? ⟨g, o + j * 7 + 4, none⟩ = some (.int .i64 x.k2) ∧ w.cell? ⟨g, o + j * 7 + 5, none⟩ = some (.int .i64 x.m2) ∧ w.cell? ⟨g, o + j * 7 + 6, none⟩ = some (.slice x.B x.bl x.bc) :=
  ⟨h.at_ j 0 x _ hx rfl, h.at_ j 1 x _ hx rfl, h.at_ j 2 x _ hx rfl, h.at_ j 3 x _ hx rfl, h.at_ j 4 x _ hx rfl, h.at_ j 5 x _ hx rfl, h.at_ j 6 x _ hx rfl⟩
def PrsR (w : World) (xs : List PrT) (es : List PrP) : Prop := xs.length = es.length ∧ ∀ (i : Nat) (x : PrT) (e : PrP), xs[i]? = some x → es[i]? = some e → PrR w x e
theorem PrsR.chg {w w' : World} {xs : List PrT} {es : List PrP} (h : PrsR w xs es) (hc : Chg [] w w') : PrsR w' xs es := ⟨h.1, fun i x e hx he => (h.2 i x e hx he).chg hc⟩
theorem PrsR.row {w w' : World} {xs : List PrT} {es : List PrP} {A : Option Addr} {c : Nat} {ys : List PrT} (h : PrsR w xs es) (ho : OwnK prTy w A c ys) (hc : Chg (blkOf A) w w') : PrsR w' xs es := ⟨h.1, fun i x e hx he => (h.2 i x e hx he).row ho hc⟩
theorem PrsR.at_ {w : World} {xs : List PrT} {es : List PrP} (h : PrsR w xs es) {i : Nat} (hi : i < xs.length) : ∃ x e, xs[i]? = some x ∧ es[i]? = some e ∧ PrR w x e :=
  ⟨_, _, List.getElem?_eq_getElem hi, List.getElem?_eq_getElem (by rw [← h.1]; exact hi), h.2 i _ _ (List.getElem?_eq_getElem hi) (List.getElem?_eq_getElem (by rw [← h.1]; exact hi))⟩
theorem PrsR.nil (w : World) : PrsR w [] [] := ⟨rfl, fun i x e hx _ => by simp at hx⟩
theorem PrsR.snoc {w : World} {xs : List PrT} {es : List PrP} {x : PrT} {e : PrP} (h : PrsR w xs es) (r : PrR w x e) : PrsR w (xs ++ [x]) (es ++ [e]) := by
  refine ⟨by simp [h.1], fun i y f hy hf => ?_⟩
  by_cases q : i < xs.length
  · rw [List.getElem?_append_left q] at hy
    rw [List.getElem?_append_left (by rw [← h.1]; exact q)] at hf
    exact h.2 i y f hy hf
  · rw [List.getElem?_append_right (by omega)] at hy
    rw [List.getElem?_append_right (by rw [← h.1]; omega), ← h.1] at hf
    have hi := (List.getElem?_eq_some_iff.1 hy).1
    simp at hi
    rw [hi] at hy hf
    simp at hy hf
    subst hy hf
    exact r
theorem rd_onePr {w : World} {g : Nat} {X : PrT} (h : w.heap[g]? = some (.cells #[.string X.p, .int .i64 X.k, .int .i64 X.m, .slice X.A X.l X.c, .int .i64 X.k2, .int .i64 X.m2, .slice X.B X.bl X.bc] 50)) : RdK prTy w (some ⟨g, 0, none⟩) 1 [X] :=
  ⟨rfl, fun j v hj => ⟨_, rfl, by rw [add_zero_lit, cell_of h j]; simpa [RowTy.flat, prTy] using hj⟩⟩
end
section
open Go.RowKit Go.Lib
set_option linter.unusedSimpArgs false
set_option linter.unusedVariables false


set_option maxHeartbeats 4000000 in
theorem set3_2 {w w0 : World} {z : Nat} {s0 s1 : Nat} {a0 a1 a2 : Value} {T : TypeId} {o : Obj} (v2 : Value) (q0 : w.heap[s0]? = some (.cells #[a0, a1, a2] T (0, 0))) (q1 : w.heap[s1]? = some o) (h : s0 ≠ s1) (hz : z ≤ s0) (C : Chg [] w0 w) (hw0 : w0.heap.size = z) :
    (w.setCell ⟨s0, 2, none⟩ v2).heap[s0]? = some (.cells #[a0, a1, v2] T (0, 0)) ∧ (w.setCell ⟨s0, 2, none⟩ v2).heap[s1]? = some o ∧ Chg [] w0 (w.setCell ⟨s0, 2, none⟩ v2) := by
  have p0 := heap_setCell_same _ s0 2 _ _ v2 q0
  refine ⟨p0, ?_, ?_⟩
  · rw [Below.heap_setCell _ _ _ _ (by simp; exact fun e => h e.symm)]
    exact q1
  · exact (C.put (by omega) 2 v2)
set_option maxHeartbeats 4000000 in
theorem set3_all {w w0 : World} {z : Nat} {s0 s1 : Nat} {a0 a1 a2 : Value} {T : TypeId} {o : Obj} (v0 v1 v2 : Value) (q0 : w.heap[s0]? = some (.cells #[a0, a1, a2] T (0, 0))) (q1 : w.heap[s1]? = some o) (h : s0 ≠ s1) (hz : z ≤ s0) (C : Chg [] w0 w) (hw0 : w0.heap.size = z) :
    (((w.setCell ⟨s0, 0, none⟩ v0).setCell ⟨s0, 1, none⟩ v1).setCell ⟨s0, 2, none⟩ v2).heap[s0]? = some (.cells #[v0, v1, v2] T (0, 0)) ∧ (((w.setCell ⟨s0, 0, none⟩ v0).setCell ⟨s0, 1, none⟩ v1).setCell ⟨s0, 2, none⟩ v2).heap[s1]? = some o ∧ Chg [] w0 (((w.setCell ⟨s0, 0, none⟩ v0).setCell ⟨s0, 1, none⟩ v1).setCell ⟨s0, 2, none⟩ v2) := by
  have p0 := heap_setCell_same _ s0 0 _ _ v0 q0
  have p1 := heap_setCell_same _ s0 1 _ _ v1 p0
  have p2 := heap_setCell_same _ s0 2 _ _ v2 p1
  refine ⟨p2, ?_, ?_⟩
  · rw [Below.heap_setCell _ _ _ _ (by simp; exact fun e => h e.symm), Below.heap_setCell _ _ _ _ (by simp; exact fun e => h e.symm), Below.heap_setCell _ _ _ _ (by simp; exact fun e => h e.symm)]
    exact q1
  · exact (((C.put (by omega) 0 v0).put (by omega) 1 v1).put (by omega) 2 v2)
end
section
open Go.RowKit Go.Lib
set_option linter.unusedSimpArgs false
set_option linter.unusedVariables false


set_option maxRecDepth 100000 in
set_option maxHeartbeats 4000000 in
theorem freff_any (w : World) (k m : Int) (A : Option Addr) (n c : Nat) (ys : List UInt8) (h : Bs w A n ys) (hn : n ≤ 140737488351232) :
    Calls Tryz.prog 41 #[.agg #[.int .i64 k, .int .i64 m, .slice A n c]] w fun r w' => ∃ A' c', r = .returned (.agg #[.int .i64 k, .int .i64 m, .slice A' n c']) ∧ Fresh w w' A' c' ys := by
  obtain ⟨w2, hw, hc, b0, b1⟩ := news2 w (.cells #[.int .i64 k, .int .i64 m, .slice A n c] 25) (.cells #[.int .i64 0, .int .i64 0, .slice none 0 0] 25)
  have W2 := Lib.hid hw
  have H := Lib.hid (h.chg hc (by simp))
  have C := Lib.hid hc
  have HN := Lib.hid hn
  obtain ⟨g0, hg0⟩ : ∃ g, w.heap.size = g := ⟨_, rfl⟩
  obtain ⟨g1, hg1⟩ : ∃ g, w.heap.size + 1 = g := ⟨_, rfl⟩
  have SZ := Lib.hid hg0
  have S1 := Lib.hid hg1
  rw [hg0] at b0
  rw [hg1] at b1
  have B0 := Lib.hid b0
  have B1 := Lib.hid b1
  have NEg0 : Hid (g0 ≠ g1) := Lib.hid (by omega)
  have NEg1 : Hid (g1 ≠ g0) := Lib.hid (by omega)
  have LZg0 : Hid (g0 ≤ g0) := Lib.hid (Nat.le_refl _)
  have LZg1 : Hid (g0 ≤ g1) := Lib.hid (by omega)
  have L0 := Lib.hid (lt_of_heap b0)
  have L1 := Lib.hid (lt_of_heap b1)
  clear hw hc b0 b1 h hn hg0 hg1
  go_enter Tryz.func41, Tryz.ntmps41
  go_upto_region 1 with fail
  rw [← W2.out, S1.out, SZ.out]
  have z0 := cell_of B0.out 0
  have fz0 := free_of B0.out 0
  have z1 := cell_of B0.out 1
  have fz1 := free_of B0.out 1
  have z2 := cell_of B0.out 2
  have fz2 := free_of B0.out 2
  simp only [List.getElem?_toArray, List.getElem?_cons_succ, List.getElem?_cons_zero] at z0 z1 z2
  go_wp2_with fail
  refine (clone_any w2 A n c ys H.out HN.out).mono ?_
  rintro r w3 ⟨A3, c3, rfl, h3⟩
  clear z0 z1 z2 fz0 fz1 fz2
  replace B0 := Lib.hid (h3.2.2.at_ B0.out (by simp))
  replace B1 := Lib.hid (h3.2.2.at_ B1.out (by simp))
  have O3 := Lib.hid h3.1
  have N3 := Lib.hid h3.2.1
  have S2 := Lib.hid C.out.size
  replace C := Lib.hid (C.out.trans h3.2.2)
  have LT3 : Hid (∀ a, A3 = some a → a.block ≠ g0 ∧ a.block ≠ g1) := Lib.hid (fun a ha => by
    have q := N3.out a ha
    have r0 := L0.out
    have r1 := L1.out
    omega)
  clear h3
  have z0 := cell_of B0.out 0
  have fz0 := free_of B0.out 0
  have z1 := cell_of B0.out 1
  have fz1 := free_of B0.out 1
  have z2 := cell_of B0.out 2
  have fz2 := free_of B0.out 2
  simp only [List.getElem?_toArray, List.getElem?_cons_succ, List.getElem?_cons_zero] at z0 z1 z2
  go_upto_region 2 with fail
  clear z0 z1 z2 fz0 fz1 fz2
  obtain ⟨p0, p1, p2⟩ := set3_2 (.slice A3 n c3) B0.out B1.out NEg0.out LZg0.out C.out SZ.out
  generalize hW : (w3.setCell ⟨g0, 2, none⟩ (.slice A3 n c3)) = w4 at *
  replace B0 := Lib.hid p0
  replace B1 := Lib.hid p1
  have O4 := Lib.hid (O3.out.chg (S := [g0]) (hW ▸ (Chg.refl [g0] w3).put' 2 _) (fun a ha => by simp; exact (LT3.out a ha).1))
  replace C := Lib.hid p2
  clear p0 p1 p2 hW O3
  have z0 := cell_of B0.out 0
  have fz0 := free_of B0.out 0
  have z1 := cell_of B0.out 1
  have fz1 := free_of B0.out 1
  have z2 := cell_of B0.out 2
  have fz2 := free_of B0.out 2
  simp only [List.getElem?_toArray, List.getElem?_cons_succ, List.getElem?_cons_zero] at z0 z1 z2
  have y0 := cell_of B1.out 0
  have fy0 := free_of B1.out 0
  have y1 := cell_of B1.out 1
  have fy1 := free_of B1.out 1
  have y2 := cell_of B1.out 2
  have fy2 := free_of B1.out 2
  simp only [List.getElem?_toArray, List.getElem?_cons_succ, List.getElem?_cons_zero] at y0 y1 y2
  go_wp2
  clear z0 z1 z2 fz0 fz1 fz2
  clear y0 y1 y2 fy0 fy1 fy2
  obtain ⟨p0, p1, p2⟩ := set3_all (.int .i64 k) (.int .i64 m) (.slice A3 n c3) B1.out B0.out NEg1.out LZg1.out C.out SZ.out
  generalize hW : (((w4.setCell ⟨g1, 0, none⟩ (.int .i64 k)).setCell ⟨g1, 1, none⟩ (.int .i64 m)).setCell ⟨g1, 2, none⟩ (.slice A3 n c3)) = w5 at *
  have O5 := Lib.hid (O4.out.chg (S := [g1]) (hW ▸ (((Chg.refl [g1] w4).put' 0 _).put' 1 _).put' 2 _) (fun a ha => by simp; exact (LT3.out a ha).2))
  replace B1 := Lib.hid p0
  replace C := Lib.hid p2
  clear p0 p1 p2 hW O4
  have y0 := cell_of B1.out 0
  have y1 := cell_of B1.out 1
  have y2 := cell_of B1.out 2
  simp only [List.getElem?_toArray, List.getElem?_cons_succ, List.getElem?_cons_zero] at y0 y1 y2
  refine bodyPost_ret (v := .agg #[.int .i64 k, .int .i64 m, .slice A3 n c3]) (by simp [results, Tryz.results41, go_sem, y0, y1, y2]) rfl ?_
  exact ⟨A3, c3, rfl, O5.out, fun a ha => Nat.le_trans S2.out (N3.out a ha), C.out⟩
end
section
open Go.RowKit Go.Lib
set_option linter.unusedSimpArgs false
set_option linter.unusedVariables false

theorem maxS_left (a : List UInt8) : maxS (strOf a) (strOf []) = strOf a := by
  unfold maxS
  rw [if_neg (by simp [strOf])]
theorem maxS_right {b : List UInt8} (h : b ≠ []) : maxS (strOf []) (strOf b) = strOf b := by
  unfold maxS
  rw [if_pos ?_]
  cases b with
  | nil => exact absurd rfl h
  | cons x l => simp [strOf]
theorem maxS_self (a : List UInt8) : maxS (strOf a) (strOf a) = strOf a := by
  unfold maxS
  split <;> rfl
theorem pr7_all {w : World} {g : Nat} {a0 a1 a2 a3 a4 a5 a6 : Value} {T : TypeId} (v0 v1 v2 v3 v4 v5 v6 : Value) (h : w.heap[g]? = some (.cells #[a0, a1, a2, a3, a4, a5, a6] T (0, 0))) :
    (((((((w.setCell ⟨g, 0, none⟩ v0).setCell ⟨g, 1, none⟩ v1).setCell ⟨g, 2, none⟩ v2).setCell ⟨g, 3, none⟩ v3).setCell ⟨g, 4, none⟩ v4).setCell ⟨g, 5, none⟩ v5).setCell ⟨g, 6, none⟩ v6).heap[g]? = some (.cells #[v0, v1, v2, v3, v4, v5, v6] T (0, 0)) ∧ Chg [g] w (((((((w.setCell ⟨g, 0, none⟩ v0).setCell ⟨g, 1, none⟩ v1).setCell ⟨g, 2, none⟩ v2).setCell ⟨g, 3, none⟩ v3).setCell ⟨g, 4, none⟩ v4).setCell ⟨g, 5, none⟩ v5).setCell ⟨g, 6, none⟩ v6) := by
  have p0 := heap_setCell_same _ g 0 _ _ v0 h
  have p1 := heap_setCell_same _ g 1 _ _ v1 p0
  have p2 := heap_setCell_same _ g 2 _ _ v2 p1
  have p3 := heap_setCell_same _ g 3 _ _ v3 p2
  have p4 := heap_setCell_same _ g 4 _ _ v4 p3
  have p5 := heap_setCell_same _ g 5 _ _ v5 p4
  have p6 := heap_setCell_same _ g 6 _ _ v6 p5
  exact ⟨by simpa using p6, (((((((Chg.refl [g] w).setCell (p := ⟨g, 0, none⟩) (.inl (by simp)) v0).setCell (p := ⟨g, 1, none⟩) (.inl (by simp)) v1).setCell (p := ⟨g, 2, none⟩) (.inl (by simp)) v2).setCell (p := ⟨g, 3, none⟩) (.inl (by simp)) v3).setCell (p := ⟨g, 4, none⟩) (.inl (by simp)) v4).setCell (p := ⟨g, 5, none⟩) (.inl (by simp)) v5).setCell (p := ⟨g, 6, none⟩) (.inl (by simp)) v6⟩
/-- Bytes do not lie in the box of a pair. -/
theorem bs_pbox {w w' : World} {B : Option Addr} {n g : Nat} {bs : List UInt8} {p : ByteArray} {k1 k2 k3 k4 : Int} {S1 S2 : Option Addr} {l1 c1 l2 c2 : Nat} {T : TypeId} (h : Bs w B n bs) (hb : w.heap[g]? = some (.cells #[.string p, .int .i64 k1, .int .i64 k2, .slice S1 l1 c1, .int .i64 k3, .int .i64 k4, .slice S2 l2 c2] T (0, 0))) (hc : Chg [g] w w') : Bs w' B n bs := by
  refine ⟨h.len, fun j v hj => ?_⟩
  obtain ⟨a, ha, hx⟩ := h.cells j v hj
  refine ⟨a, ha, hc.cell hx (fun q => ?_)⟩
  have q : (a.add j).block = g := by simpa using q
  simp only [World.cell?, q, hb] at hx
  split at hx
  · cases hx
  · have r := List.mem_of_getElem? (show ([.string p, .int .i64 k1, .int .i64 k2, .slice S1 l1 c1, .int .i64 k3, .int .i64 k4, .slice S2 l2 c2] : List Value)[(a.add j).off]? = some (bv v) by simpa using hx)
    simp [bv] at r
set_option maxRecDepth 100000 in
set_option maxHeartbeats 8000000 in
/-- table.pairOf. -/
theorem tbpair_any (w : World) (x y : EnT) (e f : EnP) (p : List UInt8) (hx : EnR w x e) (hy : EnR w y f) (hs : e.b.length ≤ 140737488351232 ∧ f.b.length ≤ 140737488351232) (hp : maxS (strOf e.p) (strOf f.p) = strOf p) :
    Calls Tryz.prog 61 #[.agg #[.string x.p, .int .i64 x.k, .int .i64 x.m, .slice x.A x.l x.c], .agg #[.string y.p, .int .i64 y.k, .int .i64 y.m, .slice y.A y.l y.c]] w fun r w' => ∃ X : PrT, r = .returned (.agg #[.string X.p, .int .i64 X.k, .int .i64 X.m, .slice X.A X.l X.c, .int .i64 X.k2, .int .i64 X.m2, .slice X.B X.bl X.bc]) ∧ PrR w' X (prT p e f) ∧ Chg [] w w' := by
  obtain ⟨w1, hw, hc, b0, b1, b2⟩ := news3 w (.cells #[.string (strOf e.p), .int .i64 x.k, .int .i64 x.m, .slice x.A x.l x.c] 55) (.cells #[.string (strOf f.p), .int .i64 y.k, .int .i64 y.m, .slice y.A y.l y.c] 55) (.cells #[.string ⟨#[]⟩, .int .i64 0, .int .i64 0, .slice none 0 0, .int .i64 0, .int .i64 0, .slice none 0 0] 50)
  have W1 := Lib.hid hw
  have hmx := @run_max_strs Tryz.prog
  obtain ⟨g0, hg0⟩ : ∃ g, w.heap.size = g := ⟨_, rfl⟩
  obtain ⟨g1, hg1⟩ : ∃ g, g0 + 1 = g := ⟨_, rfl⟩
  obtain ⟨g2, hg2⟩ : ∃ g, g1 + 1 = g := ⟨_, rfl⟩
  rw [hg0] at b0
  rw [hg0, hg1] at b1
  rw [show w.heap.size + 2 = w.heap.size + 1 + 1 from rfl, hg0, hg1, hg2] at b2
  have GW := Lib.hid (show w.heap.size ≤ g2 by omega)
  have GS : Hid (w.heap.size = g0 ∧ w.heap.size + 1 = g1 ∧ w.heap.size + 2 = g2) := Lib.hid ⟨hg0, by omega, by omega⟩
  have DX : Hid (∀ w', Chg [g2] w1 w' → (w'.cell? ⟨g0, 0, none⟩ = some (.string (strOf e.p)) ∧ w'.cell? ⟨g0, 1, none⟩ = some (.int .i64 x.k) ∧ w'.cell? ⟨g0, 2, none⟩ = some (.int .i64 x.m) ∧ w'.cell? ⟨g0, 3, none⟩ = some (.slice x.A x.l x.c)) ∧ (w'.cell? ⟨g1, 0, none⟩ = some (.string (strOf f.p)) ∧ w'.cell? ⟨g1, 1, none⟩ = some (.int .i64 y.k) ∧ w'.cell? ⟨g1, 2, none⟩ = some (.int .i64 y.m) ∧ w'.cell? ⟨g1, 3, none⟩ = some (.slice y.A y.l y.c))) := Lib.hid (fun w' hc2 => by
    have q := hc2.at_ b0 (by simp; omega)
    have r := hc2.at_ b1 (by simp; omega)
    exact ⟨⟨cell_of q 0, cell_of q 1, cell_of q 2, cell_of q 3⟩, cell_of r 0, cell_of r 1, cell_of r 2, cell_of r 3⟩)
  have B2 := Lib.hid b2
  have XW : Hid (∀ w', Chg [g2] w1 w' → Chg [] w w') := Lib.hid (fun w' q => hc.trans' q (fun i hi => .inr (by simp at hi; omega)))
  have XA := Lib.hid hx.A
  have YA := Lib.hid hy.A
  have XB : Hid (x.l ≤ 140737488351232 ∧ y.l ≤ 140737488351232) := Lib.hid (by rw [hx.l, hy.l]; exact hs)
  have XE := Lib.hid hx
  have YE := Lib.hid hy
  have MX := Lib.hid hp
  rw [hx.p, hy.p]
  clear hw hc b0 b1 b2 hg0 hg1 hg2 hx hy hs hp
  go_enter Tryz.func61, Tryz.ntmps61
  go_upto_region 1 with fail
  rw [← W1.out]
  try rw [GS.out.2.2, GS.out.2.1, GS.out.1]
  clear W1
  have CD := (Chg.refl [] w1).drew
  replace B2 := Lib.hid (CD.at_ B2.out (by simp))
  clear CD
  refine wp_region_held_drew (S := fun w' => Chg [g2] w1 w') (by kernel_rfl) (Chg.refl [g2] w1).drew (fun hHeld => ?_)
  obtain ⟨wd, hwd⟩ : ∃ wd, w1.drew = wd := ⟨_, rfl⟩
  rw [hwd] at B2 hHeld ⊢
  clear hwd
  refine sy 0 5 rfl rfl ?_
  try simp only [Act.put, sA, s0, s1]
  refine sy 1 6 rfl rfl ?_ (hy := by (intro w hSw; (try dsimp only at hSw); have hq := DX.out _ hSw; obtain ⟨⟨q0, q1, q2, q3⟩, r0, r1, r2, r3⟩ := hq; go_simp; try with_reducible rfl))
  try simp only [Act.put, sA, s0, s1]
  refine sy 2 7 rfl rfl ?_
  try simp only [Act.put, sA, s0, s1]
  refine sy 3 8 rfl rfl ?_ (hy := by (intro w hSw; (try dsimp only at hSw); have hq := DX.out _ hSw; obtain ⟨⟨q0, q1, q2, q3⟩, r0, r1, r2, r3⟩ := hq; go_simp; try with_reducible rfl))
  try simp only [Act.put, sA, s0, s1]
  refine sy 4 9 rfl rfl ?_
  try simp only [Act.put, sA, s0, s1]
  refine sy 5 10 rfl rfl ?_
  try simp only [Act.put, sA, s0, s1]
  refine sy 6 11 rfl rfl ?_ (hy := by (intro w hSw; (try dsimp only at hSw); have hq := DX.out _ hSw; obtain ⟨⟨q0, q1, q2, q3⟩, r0, r1, r2, r3⟩ := hq; go_simp; try with_reducible rfl))
  try simp only [Act.put, sA, s0, s1]
  refine sy 8 13 rfl rfl ?_
  try simp only [Act.put, sA, s0, s1]
  refine sy 9 14 rfl rfl ?_ (hy := by (intro w hSw; (try dsimp only at hSw); have hq := DX.out _ hSw; obtain ⟨⟨q0, q1, q2, q3⟩, r0, r1, r2, r3⟩ := hq; go_simp; try with_reducible rfl))
  try simp only [Act.put, sA, s0, s1]
  refine wpAnyH_ready (rs := [7]) (by kernel_rfl) (by simp) ?_
  refine AllReadyH.cons rfl (fun K hK => ?_) AllReadyH.nil
  replace hK := Lib.hid hK
  go_simp
  refine (freff_any wd x.k x.m x.A x.l x.c e.b (XA.out.chg (XW.out _ hHeld) (by simp)) XB.out.1).mono ?_
  rintro r w5 ⟨A5, c5, rfl, h5⟩
  have O5 := Lib.hid h5.1.reads
  replace B2 := Lib.hid (h5.2.2.at_ B2.out (by simp))
  have D5 := Lib.hid (hHeld.trans (h5.2.2.mono (by simp)))
  clear h5 hHeld
  refine hK.out _ _ D5.out (fun hHeld => ?_)
  clear hK K
  try simp only [Act.put, sA, s0, s1]
  refine wpAnyH_ready (rs := [10]) (by kernel_rfl) (by simp) ?_
  refine AllReadyH.cons rfl (fun K hK => ?_) AllReadyH.nil
  replace hK := Lib.hid hK
  go_simp
  refine (freff_any w5 y.k y.m y.A y.l y.c f.b (YA.out.chg (XW.out _ hHeld) (by simp)) XB.out.2).mono ?_
  rintro r w6 ⟨A6, c6, rfl, h6⟩
  have O6 := Lib.hid h6.1.reads
  replace O5 := Lib.hid (O5.out.chg h6.2.2 (by simp))
  replace B2 := Lib.hid (h6.2.2.at_ B2.out (by simp))
  have D6 := Lib.hid (hHeld.trans (h6.2.2.mono (by simp)))
  clear h6 hHeld
  refine hK.out _ _ D6.out (fun hHeld => ?_)
  clear hK K
  try simp only [Act.put, sA, s0, s1]
  refine sy 11 16 rfl rfl ?_
  try simp only [Act.put, sA, s0, s1]
  refine wpAnyH_ready (rs := [12]) (by kernel_rfl) (by simp) ?_
  refine AllReadyH.cons rfl (fun K hK => ?_) AllReadyH.nil
  replace hK := Lib.hid hK
  rw [MX.out]
  have f0 := free_of B2.out 0
  have f1 := free_of B2.out 1
  have f2 := free_of B2.out 2
  have f3 := free_of B2.out 3
  have f4 := free_of B2.out 4
  have f5 := free_of B2.out 5
  have f6 := free_of B2.out 6
  have v0 := cell_of B2.out 0
  have v1 := cell_of B2.out 1
  have v2 := cell_of B2.out 2
  have v3 := cell_of B2.out 3
  have v4 := cell_of B2.out 4
  have v5 := cell_of B2.out 5
  have v6 := cell_of B2.out 6
  simp only [List.getElem?_toArray, List.getElem?_cons_succ, List.getElem?_cons_zero] at v0 v1 v2 v3 v4 v5 v6
  go_simp
  clear f0 v0 f1 v1 f2 v2 f3 v3 f4 v4 f5 v5 f6 v6
  obtain ⟨bk, ck⟩ := pr7_all (.string (strOf p)) (.int .i64 x.k) (.int .i64 x.m) (.slice A5 x.l c5) (.int .i64 y.k) (.int .i64 y.m) (.slice A6 y.l c6) B2.out
  obtain ⟨w7, hW⟩ : ∃ w9 : World, w9 = (((((((w6.setCell ⟨g2, 0, none⟩ (.string (strOf p))).setCell ⟨g2, 1, none⟩ (.int .i64 x.k)).setCell ⟨g2, 2, none⟩ (.int .i64 x.m)).setCell ⟨g2, 3, none⟩ (.slice A5 x.l c5)).setCell ⟨g2, 4, none⟩ (.int .i64 y.k)).setCell ⟨g2, 5, none⟩ (.int .i64 y.m)).setCell ⟨g2, 6, none⟩ (.slice A6 y.l c6)) := ⟨_, rfl⟩
  rw [← hW] at bk ck ⊢
  have XR : Hid (PrR w7 ⟨strOf p, x.k, x.m, A5, x.l, c5, y.k, y.m, A6, y.l, c6⟩ (prT p e f)) := Lib.hid ⟨rfl, XE.out.k, XE.out.m, XE.out.l, by have q := bs_pbox O5.out B2.out ck; rw [show x.l = e.b.length from XE.out.l]; exact q, YE.out.k, YE.out.m, YE.out.l, by have q := bs_pbox O6.out B2.out ck; rw [show y.l = f.b.length from YE.out.l]; exact q⟩
  have SD := Lib.hid (hHeld.trans ck)
  have C7 := Lib.hid (XW.out _ SD.out)
  have B7 := Lib.hid bk
  clear bk ck hW O5 O6 hHeld
  refine hK.out _ _ SD.out (fun hHeld => ?_)
  clear hK K
  try simp only [Act.put, sA, s0, s1]
  refine wpAnyH_done (by kernel_rfl) ?_ _
  clear hHeld
  have v0 := cell_of B7.out 0
  have v1 := cell_of B7.out 1
  have v2 := cell_of B7.out 2
  have v3 := cell_of B7.out 3
  have v4 := cell_of B7.out 4
  have v5 := cell_of B7.out 5
  have v6 := cell_of B7.out 6
  simp only [List.getElem?_toArray, List.getElem?_cons_succ, List.getElem?_cons_zero] at v0 v1 v2 v3 v4 v5 v6
  go_wp2
  refine bodyPost_ret (v := .agg #[.string (strOf p), .int .i64 x.k, .int .i64 x.m, .slice A5 x.l c5, .int .i64 y.k, .int .i64 y.m, .slice A6 y.l c6]) (by simp [results, Tryz.results61, go_sem, v0, v1, v2, v3, v4, v5, v6]) rfl ?_
  exact ⟨⟨strOf p, x.k, x.m, A5, x.l, c5, y.k, y.m, A6, y.l, c6⟩, rfl, XR.out, C7.out⟩
end
section
open Go.RowKit Go.Lib
set_option linter.unusedSimpArgs false
set_option linter.unusedVariables false

/-- Its size in memory: what the walks want. -/
def EnSm (e : EnP) : Prop := e.p.length ≤ 10000000 ∧ e.b.length ≤ 140737488351232
theorem below_chgN {w w' : World} (h : Below w.heap.size w w') : Chg [] w w' := Chg.ofBelow h (by omega) []
set_option maxRecDepth 100000 in
set_option maxHeartbeats 4000000 in
theorem tbstands_any (w : World) (x : EnT) (e : EnP) (h : EnR w x e) (hs : EnSm e) :
    Calls Tryz.prog 42 #[.agg #[.string x.p, .int .i64 x.k, .int .i64 x.m, .slice x.A x.l x.c]] w fun r w' => r = .returned (.bool (decide (Stands e))) ∧ Chg [] w w' := by
  obtain ⟨w1, hw, hc, b0⟩ := news1 w (.cells #[.string x.p, .int .i64 x.k, .int .i64 x.m, .slice x.A x.l x.c] 55)
  have W1 := Lib.hid hw
  have C := Lib.hid hc
  have B0 := Lib.hid b0
  have PC : Hid (∀ w', Calls Tryz.prog 71 #[.string x.p] w' fun r w2 => r = .returned (.int .i64 (if checkL 6 12 e.p then 0 else 2)) ∧ Chg [] w' w2) := Lib.hid (fun w' => by
    rw [h.p]
    exact (phcheck_any w' e.p (by have := hs.1; omega)).mono fun r w2 ⟨a, b⟩ => ⟨a, below_chgN b⟩)
  have EC : Hid (∀ w', Calls Tryz.prog 84 #[.agg #[.int .i64 x.k, .int .i64 x.m, .slice x.A x.l x.c]] w' fun r w2 => r = .returned (.int .i64 (chkE e.k e.m e.b.length)) ∧ Chg [] w' w2) := Lib.hid (fun w' => by
    have q := check_any w' x.k x.m x.A x.l x.c (by rw [h.l]; exact hs.2)
    rw [h.k, h.m, h.l] at q
    rw [h.k, h.m, h.l]
    exact q)
  have KE : Hid (x.k = e.k) := Lib.hid h.k
  generalize hv : decide (Stands e) = v
  have HV := Lib.hid hv
  clear hv hw hc b0 h hs
  go_enter Tryz.func42, Tryz.ntmps42
  go_upto_region 1 with fail
  rw [← W1.out]
  generalize w.heap.size = g0 at *
  clear W1
  have z0 := cell_of B0.out 0
  have z1 := cell_of B0.out 1
  have z2 := cell_of B0.out 2
  have z3 := cell_of B0.out 3
  simp only [List.getElem?_toArray, List.getElem?_cons_succ, List.getElem?_cons_zero] at z0 z1 z2 z3
  go_wp2_with fail
  refine (PC.out w1).mono ?_
  rintro r w2 ⟨rfl, hc⟩
  replace B0 := Lib.hid (hc.at_ B0.out (by simp))
  replace C := Lib.hid (C.out.trans hc)
  clear z0 z1 z2 z3
  clear hc PC
  by_cases hp : checkL 6 12 e.p = true
  rotate_left
  · obtain rfl : v = false := by rw [← HV.out]; exact decide_eq_false (fun q => hp q.1)
    rw [if_neg hp]
    clear hp HV
    go_wp2
    go_ret
    exact ⟨rfl, C.out⟩
  rw [if_pos hp]
  have HP : Hid (okP e.p = true) := Lib.hid hp
  clear hp
  have z0 := cell_of B0.out 0
  have z1 := cell_of B0.out 1
  have z2 := cell_of B0.out 2
  have z3 := cell_of B0.out 3
  simp only [List.getElem?_toArray, List.getElem?_cons_succ, List.getElem?_cons_zero] at z0 z1 z2 z3
  go_wp2_with fail
  refine (EC.out w2).mono ?_
  rintro r w3 ⟨rfl, hc⟩
  replace B0 := Lib.hid (hc.at_ B0.out (by simp))
  replace C := Lib.hid (C.out.trans hc)
  clear z0 z1 z2 z3
  clear hc EC
  by_cases he : chkE e.k e.m e.b.length = 0
  rotate_left
  · obtain rfl : v = false := by rw [← HV.out]; exact decide_eq_false (fun q => he q.2.1)
    have h1 : ((chkE e.k e.m e.b.length == 0) : Bool) = false := by simpa using he
    have h2 : decide (chkE e.k e.m e.b.length = 0) = false := decide_eq_false he
    clear HV
    go_wp2
    go_ret
    exact ⟨rfl, C.out⟩
  rw [he]
  have HE := Lib.hid he
  clear he
  have z0 := cell_of B0.out 0
  have z1 := cell_of B0.out 1
  have z2 := cell_of B0.out 2
  have z3 := cell_of B0.out 3
  simp only [List.getElem?_toArray, List.getElem?_cons_succ, List.getElem?_cons_zero] at z0 z1 z2 z3
  by_cases hk : x.k = 3
  · obtain rfl : v = false := by rw [← HV.out]; exact decide_eq_false (fun q => q.2.2 (by rw [← KE.out]; exact hk))
    have h1 : ((x.k == 3) : Bool) = true := by simpa using hk
    have h2 : ((x.k != 3) : Bool) = false := by unfold bne; rw [h1]; rfl
    clear HV hk
    go_wp2
    go_ret
    exact ⟨rfl, C.out⟩
  · obtain rfl : v = true := by rw [← HV.out]; exact decide_eq_true ⟨HP.out, HE.out, fun q => hk (by rw [KE.out]; exact q)⟩
    have h1 : ((x.k == 3) : Bool) = false := by simpa using hk
    have h2 : ((x.k != 3) : Bool) = true := by unfold bne; rw [h1]; rfl
    clear HV hk
    go_wp2
    go_ret
    exact ⟨rfl, C.out⟩
end
end Go.Proofs.YtimdfpejgaidhaaGreatDoor
