/- path.Sort. The kit's SameEvent. Two trees gone through together: purely. Rows of pairs. -/
import Derived.Test.YtimdfpejgaidhaaGreatDoorZtwk
import Derived.Test.YtimdfpejgaidhaaGreatDoorZtwc
import Derived.Test.YtimdfpejgaidhaaGreatDoorShelf3
import Derived.Shelf.Slices.CompactS
import Derived.Test.YtimdfpejgaidhaaGreatDoorZtwj
import Derived.Test.YtimdfpejgaidhaaGreatDoorZtwb
import Derived.Deep.Cut
import Derived.Test.YtimdfpejgaidhaaGreatDoorZtwa
namespace Go.Proofs.YtimdfpejgaidhaaGreatDoor
section
open Go.RowKit Go.Sort Go.Lib
set_option linter.unusedSimpArgs false
set_option linter.unusedVariables false



theorem ordL : OrdT lessL where
  irr := less_self
  tr := fun x y z h k => less_trans x y z h k
  conn := fun x y h k => by
    have := less_eq x y
    rw [h, k] at this
    simpa using this
theorem less_ntr {x y z : List UInt8} (h1 : lessL x y = false) (h2 : lessL y z = false) : lessL x z = false := by
  cases h3 : lessL x z with
  | false => rfl
  | true =>
    cases h4 : lessL y x with
    | true => rw [less_trans y x z h4 h3] at h2; cases h2
    | false => have := ordL.conn x y h1 h4; subst this; rw [h3] at h2; cases h2
end
section
open Go.RowKit Go.Lib
set_option linter.unusedSimpArgs false
set_option linter.unusedVariables false


def sameX (k m : Int) (xs : List UInt8) (k' m' : Int) (ys : List UInt8) : Bool := decide (k = k' ∧ m = m') && (xs == ys)
theorem strOf_ne {a b : List UInt8} (h : a ≠ b) : (strOf a == strOf b) = false := by
  cases q : strOf a == strOf b with
  | false => rfl
  | true =>
    have q2 : (a.toArray == b.toArray) = true := q
    exact absurd (by simpa using q2) h
theorem strOf_ne2 {a b : List UInt8} (h : a ≠ b) : ¬ strOf a = strOf b := fun q => h (strOf_inj q)

set_option maxRecDepth 100000 in
set_option maxHeartbeats 4000000 in
theorem sameeff_0 (w : World) (k m k' m' : Int) (A B : Option Addr) (n c n2 c2 : Nat) (xs ys : List UInt8) (h : Bs w A n xs) (h2 : Bs w B n2 ys) (hne : k ≠ k') :
    Calls Tryz.prog 17 #[.agg #[.int .i64 k, .int .i64 m, .slice A n c], .agg #[.int .i64 k', .int .i64 m', .slice B n2 c2]] w fun r w' => r = .returned (.bool false) ∧ Chg [] w w' := by
  obtain ⟨w2, hw, hc, b0, b1⟩ := news2 w (.cells #[.int .i64 k, .int .i64 m, .slice A n c] 25) (.cells #[.int .i64 k', .int .i64 m', .slice B n2 c2] 25)
  have W2 := Lib.hid hw
  have C := Lib.hid hc
  have H := Lib.hid (h.chg hc (by simp))
  have H2 := Lib.hid (h2.chg hc (by simp))
  have e1 : (k == k') = false := beq_eq_false_iff_ne.2 hne
  clear hne
  clear hw hc h h2
  go_enter Tryz.func17, Tryz.ntmps17
  go_upto_region 1 with fail
  rw [← W2.out]
  generalize w.heap.size + 1 = g1 at *
  generalize w.heap.size = g0 at *
  have z0 := cell_of b0 0
  have z1 := cell_of b0 1
  have z2 := cell_of b0 2
  have y0 := cell_of b1 0
  have y1 := cell_of b1 1
  have y2 := cell_of b1 2
  simp only [List.getElem?_toArray, List.getElem?_cons_succ, List.getElem?_cons_zero] at z0 z1 z2 y0 y1 y2
  clear b0 b1
  go_wp2
  go_ret
  exact ⟨rfl, C.out⟩
set_option maxRecDepth 100000 in
set_option maxHeartbeats 4000000 in
theorem sameeff_1 (w : World) (k m m' : Int) (A B : Option Addr) (n c n2 c2 : Nat) (xs ys : List UInt8) (h : Bs w A n xs) (h2 : Bs w B n2 ys) (hne : m ≠ m') :
    Calls Tryz.prog 17 #[.agg #[.int .i64 k, .int .i64 m, .slice A n c], .agg #[.int .i64 k, .int .i64 m', .slice B n2 c2]] w fun r w' => r = .returned (.bool false) ∧ Chg [] w w' := by
  obtain ⟨w2, hw, hc, b0, b1⟩ := news2 w (.cells #[.int .i64 k, .int .i64 m, .slice A n c] 25) (.cells #[.int .i64 k, .int .i64 m', .slice B n2 c2] 25)
  have W2 := Lib.hid hw
  have C := Lib.hid hc
  have H := Lib.hid (h.chg hc (by simp))
  have H2 := Lib.hid (h2.chg hc (by simp))
  have e2 : (m == m') = false := beq_eq_false_iff_ne.2 hne
  clear hne
  clear hw hc h h2
  go_enter Tryz.func17, Tryz.ntmps17
  go_upto_region 1 with fail
  rw [← W2.out]
  generalize w.heap.size + 1 = g1 at *
  generalize w.heap.size = g0 at *
  have z0 := cell_of b0 0
  have z1 := cell_of b0 1
  have z2 := cell_of b0 2
  have y0 := cell_of b1 0
  have y1 := cell_of b1 1
  have y2 := cell_of b1 2
  simp only [List.getElem?_toArray, List.getElem?_cons_succ, List.getElem?_cons_zero] at z0 z1 z2 y0 y1 y2
  clear b0 b1
  go_wp2
  go_ret
  exact ⟨rfl, C.out⟩
set_option maxRecDepth 100000 in
set_option maxHeartbeats 4000000 in
theorem sameeff_2 (w : World) (k m : Int) (A B : Option Addr) (n c n2 c2 : Nat) (xs ys : List UInt8) (h : Bs w A n xs) (h2 : Bs w B n2 ys) :
    Calls Tryz.prog 17 #[.agg #[.int .i64 k, .int .i64 m, .slice A n c], .agg #[.int .i64 k, .int .i64 m, .slice B n2 c2]] w fun r w' => r = .returned (.bool (xs == ys)) ∧ Chg [] w w' := by
  obtain ⟨w2, hw, hc, b0, b1⟩ := news2 w (.cells #[.int .i64 k, .int .i64 m, .slice A n c] 25) (.cells #[.int .i64 k, .int .i64 m, .slice B n2 c2] 25)
  have W2 := Lib.hid hw
  have C := Lib.hid hc
  have H := Lib.hid (h.chg hc (by simp))
  have H2 := Lib.hid (h2.chg hc (by simp))
  generalize hv : (xs == ys) = v
  have HV := Lib.hid hv
  clear hv
  clear hw hc h h2
  go_enter Tryz.func17, Tryz.ntmps17
  go_upto_region 1 with fail
  rw [← W2.out]
  generalize w.heap.size + 1 = g1 at *
  generalize w.heap.size = g0 at *
  have z0 := cell_of b0 0
  have z1 := cell_of b0 1
  have z2 := cell_of b0 2
  have y0 := cell_of b1 0
  have y1 := cell_of b1 1
  have y2 := cell_of b1 2
  simp only [List.getElem?_toArray, List.getElem?_cons_succ, List.getElem?_cons_zero] at z0 z1 z2 y0 y1 y2
  clear b0 b1
  go_wp2_with fail
  clear z0 z1 z2 y0 y1 y2
  refine (same_any w2 A B n n2 c c2 xs ys H.out H2.out).mono ?_
  rintro r w3 ⟨rfl, rfl⟩
  rw [HV.out]
  rcases v with _ | _
  all_goals (clear HV; go_wp2; go_ret; exact ⟨rfl, C.out⟩)
theorem sameeff_any (w : World) (k m k' m' : Int) (A B : Option Addr) (n c n2 c2 : Nat) (xs ys : List UInt8) (h : Bs w A n xs) (h2 : Bs w B n2 ys) :
    Calls Tryz.prog 17 #[.agg #[.int .i64 k, .int .i64 m, .slice A n c], .agg #[.int .i64 k', .int .i64 m', .slice B n2 c2]] w fun r w' => r = .returned (.bool (sameX k m xs k' m' ys)) ∧ Chg [] w w' := by
  unfold sameX
  by_cases hk : k = k'
  · subst hk
    by_cases hm : m = m'
    · subst hm
      have q := sameeff_2 w k m A B n c n2 c2 xs ys h h2
      simpa using q
    · have q := sameeff_1 w k m m' A B n c n2 c2 xs ys h h2 hm
      simpa [hm] using q
  · have q := sameeff_0 w k m k' m' A B n c n2 c2 xs ys h h2 hk
    simpa [hk] using q
end
section
open Go.RowKit Go.Lib
set_option linter.unusedSimpArgs false
set_option linter.unusedVariables false

/-- What two trees have at a path. -/
structure PrP where
  p : List UInt8
  ak : Int
  am : Int
  ab : List UInt8
  bk : Int
  bm : Int
  bb : List UInt8
def noT : EnP := ⟨[], 0, 0, []⟩
def prT (p : List UInt8) (x y : EnP) : PrP := ⟨p, x.k, x.m, x.b, y.k, y.m, y.b⟩
def atT (a b : List EnP) (p : List UInt8) : PrP := prT p ((getT a p).getD noT) ((getT b p).getD noT)
def namesT (a b : List EnP) : List (List UInt8) := insAllT lessL (a.map (·.p) ++ b.map (·.p))
def walkL (a b : List EnP) : List PrP := (namesT a b).map (atT a b)
def walkT (a b : List EnP) : Int × List PrP := if TabOk a ∧ TabOk b then (0, walkL a b) else (2, [])
def prSame (x : PrP) : Bool := sameX x.ak x.am x.ab x.bk x.bm x.bb
def diffT (a b : List EnP) : Int × List PrP := ((walkT a b).1, (walkT a b).2.filter (fun x => !prSame x))
theorem names_mem (a b : List EnP) (p : List UInt8) : p ∈ namesT a b ↔ (∃ e ∈ a, e.p = p) ∨ ∃ e ∈ b, e.p = p := by
  unfold namesT
  rw [(insAllT_props ordL _).2.1, List.mem_append, List.mem_map, List.mem_map]
theorem names_rise (a b : List EnP) : (namesT a b).Pairwise (fun x y => lessL x y = true) := (insAllT_props ordL _).1
theorem names_len (a b : List EnP) : (namesT a b).length ≤ a.length + b.length := by
  have := (insAllT_props ordL (a.map (·.p) ++ b.map (·.p))).2.2
  simpa [namesT] using this
theorem walk_len (a b : List EnP) : (walkL a b).length ≤ a.length + b.length := by
  unfold walkL
  rw [List.length_map]
  exact names_len a b
theorem walk_nil : walkL [] [] = [] := rfl
theorem get_cons_ne {x : EnP} {a : List EnP} {p : List UInt8} (h : x.p ≠ p) : getT (x :: a) p = getT a p := by
  unfold getT
  rw [List.find?_cons, decide_eq_false h]
theorem get_cons_eq {x : EnP} {a : List EnP} : getT (x :: a) x.p = some x := by
  unfold getT
  rw [List.find?_cons, decide_eq_true rfl]
/-- The first path of both, and what is behind it. -/
theorem walk_step {a b a' b' : List EnP} {q : List UInt8} (ha : ∀ e ∈ a', lessL q e.p = true) (hb : ∀ e ∈ b', lessL q e.p = true) (ga : ∀ p, p ≠ q → getT a p = getT a' p) (gb : ∀ p, p ≠ q → getT b p = getT b' p) (hm : ∀ p, ((∃ e ∈ a, e.p = p) ∨ ∃ e ∈ b, e.p = p) ↔ p = q ∨ ((∃ e ∈ a', e.p = p) ∨ ∃ e ∈ b', e.p = p)) : walkL a b = atT a b q :: walkL a' b' := by
  have low : ∀ p ∈ namesT a' b', lessL q p = true := fun p hp => by
    rcases (names_mem a' b' p).1 hp with ⟨e, he, rfl⟩ | ⟨e, he, rfl⟩
    · exact ha e he
    · exact hb e he
  have hn : namesT a b = q :: namesT a' b' := rise_ext ordL (names_rise a b) (List.pairwise_cons.2 ⟨low, names_rise a' b'⟩) (fun p => by
    rw [names_mem, List.mem_cons, names_mem, hm])
  unfold walkL
  rw [hn, List.map_cons]
  congr 1
  refine List.map_congr_left (fun p hp => ?_)
  have hq : p ≠ q := (less_ne (low p hp)).symm
  unfold atT
  rw [ga p hq, gb p hq]
theorem get_above {a : List EnP} {q : List UInt8} (h : ∀ e ∈ a, lessL q e.p = true) : getT a q = none := get_none.2 (fun e he => (less_ne (h e he)).symm)
theorem walk_left {x : EnP} {a b : List EnP} (ha : (x :: a).Pairwise ltT) (hb : ∀ e ∈ b, lessL x.p e.p = true) : walkL (x :: a) b = prT x.p x noT :: walkL a b := by
  rw [List.pairwise_cons] at ha
  rw [walk_step (q := x.p) (a' := a) (b' := b) ha.1 hb (fun p hp => get_cons_ne hp.symm) (fun p _ => rfl) (fun p => ?_)]
  · unfold atT
    rw [get_cons_eq, get_above hb]
    rfl
  · simp only [List.mem_cons, exists_eq_or_imp, or_assoc]
    constructor
    · exact fun h => h.imp Eq.symm id
    · exact fun h => h.imp Eq.symm id
theorem walk_right {y : EnP} {a b : List EnP} (hb : (y :: b).Pairwise ltT) (ha : ∀ e ∈ a, lessL y.p e.p = true) : walkL a (y :: b) = prT y.p noT y :: walkL a b := by
  rw [List.pairwise_cons] at hb
  rw [walk_step (q := y.p) (a' := a) (b' := b) ha hb.1 (fun p _ => rfl) (fun p hp => get_cons_ne hp.symm) (fun p => ?_)]
  · unfold atT
    rw [get_cons_eq, get_above ha]
    rfl
  · simp only [List.mem_cons, exists_eq_or_imp]
    constructor
    · exact fun h => h.elim (fun a => .inr (.inl a)) (fun a => a.elim (fun b => .inl b.symm) (fun b => .inr (.inr b)))
    · exact fun h => h.elim (fun a => .inr (.inl a.symm)) (fun a => a.elim (fun b => .inl b) (fun b => .inr (.inr b)))
theorem walk_both {x y : EnP} {a b : List EnP} (ha : (x :: a).Pairwise ltT) (hb : (y :: b).Pairwise ltT) (he : x.p = y.p) : walkL (x :: a) (y :: b) = prT x.p x y :: walkL a b := by
  rw [List.pairwise_cons] at ha hb
  rw [walk_step (q := x.p) (a' := a) (b' := b) ha.1 (fun e h => by rw [he]; exact hb.1 e h) (fun p hp => get_cons_ne hp.symm) (fun p hp => get_cons_ne (by rw [← he]; exact hp.symm)) (fun p => ?_)]
  · unfold atT
    rw [get_cons_eq, he, get_cons_eq]
    rfl
  · simp only [List.mem_cons, exists_eq_or_imp]
    constructor
    · exact fun h => h.elim (fun a => a.elim (fun b => .inl b.symm) (fun b => .inr (.inl b))) (fun a => a.elim (fun b => .inl (by rw [he, b])) (fun b => .inr (.inr b)))
    · exact fun h => h.elim (fun a => .inl (.inl a.symm)) (fun a => a.elim (fun b => .inl (.inr b)) (fun b => .inr (.inr b)))
/-- The heads of two rising lists, side by side. -/
theorem heads_less {x : EnP} {y : EnP} {b : List EnP} (hb : (y :: b).Pairwise ltT) (h : lessL x.p y.p = true) : ∀ e ∈ y :: b, lessL x.p e.p = true := fun e he => by
  rw [List.pairwise_cons] at hb
  rcases List.mem_cons.1 he with rfl | q
  · exact h
  · exact less_trans _ _ _ h (hb.1 e q)
theorem ok_ne_nil {p : List UInt8} (h : okP p = true) : p ≠ [] := by
  rintro rfl
  revert h
  decide
end
section
open Go.RowKit Go.Lib
set_option linter.unusedSimpArgs false
set_option linter.unusedVariables false

/-- A pair as it lies in memory: a path, what is there in one tree, what in the other. -/
structure PrT where
  p : ByteArray
  k : Int
  m : Int
  A : Option Addr
  l : Nat
  c : Nat
  k2 : Int
  m2 : Int
  B : Option Addr
  bl : Nat
  bc : Nat
def prTy : RowTy PrT where
  enc := fun x => [.string x.p, .int .i64 x.k, .int .i64 x.m, .slice x.A x.l x.c, .int .i64 x.k2, .int .i64 x.m2, .slice x.B x.bl x.bc]
  k := 7
  T := 50
  TS := 45
  z := ⟨⟨#[]⟩, 0, 0, none, 0, 0, 0, 0, none, 0, 0⟩
  zv := .agg #[.string ⟨#[]⟩, .int .i64 0, .int .i64 0, .slice none 0 0, .int .i64 0, .int .i64 0, .slice none 0 0]
  bytes := 96
  klen := fun _ => rfl
  one := by intro x v hv; simp at hv; rcases hv with rfl | rfl | rfl | rfl | rfl | rfl | rfl <;> rfl
  zc := rfl
  kpos := by decide
  bpos := by decide
  under := by kernel_rfl
  info := by kernel_rfl
/-- It reads so. -/
structure PrR (w : World) (x : PrT) (e : PrP) : Prop where
  p : x.p = strOf e.p
  k : x.k = e.ak
  m : x.m = e.am
  l : x.l = e.ab.length
  A : Bs w x.A x.l e.ab
  k2 : x.k2 = e.bk
  m2 : x.m2 = e.bm
  bl : x.bl = e.bb.length
  B : Bs w x.B x.bl e.bb
theorem PrR.chg {w w' : World} {x : PrT} {e : PrP} (h : PrR w x e) (hc : Chg [] w w') : PrR w' x e := ⟨h.p, h.k, h.m, h.l, h.A.chg hc (by simp), h.k2, h.m2, h.bl, h.B.chg hc (by simp)⟩
theorem flat_in {α : Type} {R : RowTy α} {v : Value} : ∀ {l : List α}, v ∈ R.flat l → ∃ y ∈ l, v ∈ R.enc y
  | [], h => by simp [RowTy.flat] at h
  | x :: l, h => by
    have h : v ∈ R.enc x ++ R.flat l := h
    rcases List.mem_append.1 h with q | q
    · exact ⟨x, by simp, q⟩
    · obtain ⟨y, hy, hv⟩ := flat_in q
      exact ⟨y, by simp [hy], hv⟩
/-- Bytes do not lie in a row of another kind. -/
theorem bs_row {α : Type} {R : RowTy α} (hu : ∀ x, ∀ v ∈ R.enc x, ∀ b : UInt8, v ≠ bv b) {w w' : World} {A B : Option Addr} {n c : Nat} {xs : List α} {bs : List UInt8} (h : Bs w B n bs) (ho : OwnK R w A c xs) (hc : Chg (blkOf A) w w') : Bs w' B n bs := by
  refine ⟨h.len, fun j v hj => ?_⟩
  obtain ⟨a, ha, hx⟩ := h.cells j v hj
  refine ⟨a, ha, hc.cell hx (fun q => ?_)⟩
  obtain ⟨b, hb, e⟩ := of_blkOf q
  rcases ho with ⟨h1, _⟩ | ⟨g, full, h1, hg, _⟩
  · rw [h1] at hb; cases hb
  · rw [h1] at hb
    cases hb
    have e : (a.add j).block = g := by simpa using e.symm
    simp only [World.cell?, e, hg] at hx
    split at hx
    · cases hx
    · have hm : bv v ∈ R.flat full := List.mem_of_getElem? (show (R.flat full)[(a.add j).off]? = some (bv v) by simpa using hx)
      obtain ⟨y, _, hy⟩ := flat_in hm
      exact hu y _ hy v rfl
theorem pr_nobyte : ∀ x : PrT, ∀ v ∈ prTy.enc x, ∀ b : UInt8, v ≠ bv b := fun x v hv b q => by
  subst q
  simp [prTy, bv] at hv
theorem PrR.row {w w' : World} {x : PrT} {e : PrP} {A : Option Addr} {c : Nat} {ys : List PrT} (h : PrR w x e) (ho : OwnK prTy w A c ys) (hc : Chg (blkOf A) w w') : PrR w' x e :=
  ⟨h.p, h.k, h.m, h.l, bs_row pr_nobyte h.A ho hc, h.k2, h.m2, h.bl, bs_row pr_nobyte h.B ho hc⟩
/-- The pair in a row of n cells at o. -/
theorem prCells {w : World} {g o n j : Nat} {xs : List PrT} (h : RdK prTy w (some ⟨g, o, none⟩) n xs) {x : PrT} (hx : xs[j]? = some x) : w.cell? ⟨g, o + j * 7, none⟩ = some (.string x.p) ∧ w.cell? ⟨g, o + j * 7 + 1, none⟩ = some (.int .i64 x.k) ∧ w.cell? ⟨g, o + j * 7 + 2, none⟩ = some (.int .i64 x.m) ∧ w.cell? ⟨g, o + j * 7 + 3, none⟩ = some (.slice x.A x.l x.c) ∧ w.cell? ⟨g, o + j * 7 + 4, none⟩ = some (.int .i64 x.k2) ∧ w.cell? ⟨g, o + j * 7 + 5, none⟩ = some (.int .i64 x.m2) ∧ w.cell? ⟨g, o + j * 7 + 6, none⟩ = some (.slice x.B x.bl x.bc) :=
  ⟨h.at_ j 0 x _ hx rfl, h.at_ j 1 x _ hx rfl, h.at_ j 2 x _ hx rfl, h.at_ j 3 x _ hx rfl, h.at_ j 4 x _ hx rfl, h.at_ j 5 x _ hx rfl, h.at_ j 6 x _ hx rfl⟩
def PrsR (w : World) (xs : List PrT) (es : List PrP) : Prop := xs.length = es.length ∧ ∀ (i : Nat) (x : PrT) (e : PrP), xs[i]? = some x → es[i]? = some e → PrR w x e
theorem PrsR.chg {w w' : World} {xs : List PrT} {es : List PrP} (h : PrsR w xs es) (hc : Chg [] w w') : PrsR w' xs es := ⟨h.1, fun i x e hx he => (h.2 i x e hx he).chg hc⟩
theorem PrsR.row {w w' : World} {xs : List PrT} {es : List PrP} {A : Option Addr} {c : Nat} {ys : List PrT} (h : PrsR w xs es) (ho : OwnK prTy w A c ys) (hc : Chg (blkOf A) w w') : PrsR w' xs es := ⟨h.1, fun i x e hx he => (h.2 i x e hx he).row ho hc⟩
theorem PrsR.at_ {w : World} {xs : List PrT} {es : List PrP} (h : PrsR w xs es) {i : Nat} (hi : i < xs.length) : ∃ x e, xs[i]? = some x ∧ es[i]? = some e ∧ PrR w x e :=
  ⟨_, _, List.getElem?_eq_getElem hi, List.getElem?_eq_getElem (by rw [← h.1]; exact hi), h.2 i _ _ (List.getElem?_eq_getElem hi) (List.getElem?_eq_getElem (by rw [← h.1]; exact hi))⟩
theorem PrsR.nil (w : World) : PrsR w [] [] := ⟨rfl, fun i x e hx _ => by simp at hx⟩
theorem PrsR.snoc {w : World} {xs : List PrT} {es : List PrP} {x : PrT} {e : PrP} (h : PrsR w xs es) (r : PrR w x e) : PrsR w (xs ++ [x]) (es ++ [e]) := by
  refine ⟨by simp [h.1], fun i y f hy hf => ?_⟩
  by_cases q : i < xs.length
  · rw [List.getElem?_append_left q] at hy
    rw [List.getElem?_append_left (by rw [← h.1]; exact q)] at hf
    exact h.2 i y f hy hf
  · rw [List.getElem?_append_right (by omega)] at hy
    rw [List.getElem?_append_right (by rw [← h.1]; omega), ← h.1] at hf
    have hi := (List.getElem?_eq_some_iff.1 hy).1
    simp at hi
    rw [hi] at hy hf
    simp at hy hf
    subst hy hf
    exact r
theorem rd_onePr {w : World} {g : Nat} {X : PrT} (h : w.heap[g]? = some (.cells #[.string X.p, .int .i64 X.k, .int .i64 X.m, .slice X.A X.l X.c, .int .i64 X.k2, .int .i64 X.m2, .slice X.B X.bl X.bc] 50)) : RdK prTy w (some ⟨g, 0, none⟩) 1 [X] :=
  ⟨rfl, fun j v hj => ⟨_, rfl, by rw [add_zero_lit, cell_of h j]; simpa [RowTy.flat, prTy] using hj⟩⟩
end
end Go.Proofs.YtimdfpejgaidhaaGreatDoor
