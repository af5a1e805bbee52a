/- Events by their dots. Events in order, by their dots: purely. An event is looked for by its dot. past.push, whatever comes. past: a cursor goes on. past.begin. past: a sweep begins. past: a cursor goes on. past: a cursor passes. past: a cursor goes on. past: a cursor passes. past.until. -/
import Derived.Test.YtomgjogkkoigbaaGreatDoorZspm
import Derived.Test.YtomgjogkkoigbaaGreatDoorZspb
import Derived.Deep.Cut
import Derived.Deep.RegionHeld3
import Derived.Test.YtomgjogkkoigbaaGreatDoorZspk
import Derived.Test.YtomgjogkkoigbaaGreatDoorZspd
set_option linter.unusedSimpArgs false
set_option linter.unusedVariables false
namespace Go.Proofs.YtomgjogkkoigbaaGreatDoor
section
open Go.RowKit Go.Lib


def Gr (w w' : World) : Prop := Chg [] w w' ∧ w.drawn ≤ w'.drawn
theorem Gr.trans {a b c : World} (h : Gr a b) (k : Gr b c) : Gr a c := ⟨h.1.trans k.1, Nat.le_trans h.2 k.2⟩
theorem gr2 (w : World) (o o' : Obj) : ∃ w' : World, w' = (w.alloc o).alloc o' ∧ Gr w w' ∧ w'.heap[w.heap.size]? = some o ∧ w'.heap[w.heap.size + 1]? = some o' := by
 obtain ⟨w', h, c, b0, b1⟩ := news2 w o o'
 exact ⟨w', h, ⟨c, by rw [h]; exact Nat.le_refl _⟩, b0, b1⟩
set_option maxHeartbeats 1000000 in
theorem dcmp_gr (w : World) (a s b t : Int) :
    Calls Tryz.prog 159 #[.agg #[.int .i64 a, .int .i64 s], .agg #[.int .i64 b, .int .i64 t]] w fun e w' => e = .returned (.int .i64 (cmpD a s b t)) ∧ Gr w w' := by
  obtain ⟨w0, hw0, c0, b0, b1⟩ := news2 w (.cells #[.int .i64 a, .int .i64 s] 24) (.cells #[.int .i64 b, .int .i64 t] 24)
  have k0 := cell_of b0 0
  have k1 := cell_of b0 1
  have k3 := cell_of b1 0
  have k4 := cell_of b1 1
  simp only [List.getElem?_toArray, List.getElem?_cons_succ, List.getElem?_cons_zero] at k0 k1 k3 k4
  have g0 := lt_of_heap b0
  have g1 := lt_of_heap b1
  have W0 := Lib.hid hw0
  have GR : Hid (∀ o, Gr w (w0.alloc o).drew) := Lib.hid (fun o => ⟨(c0.alloc o).drew, by rw [hw0]; exact Nat.le_succ _⟩)
  clear hw0 c0 b0 b1
  unfold cmpD
  generalize hr : or2 (cmpI a b) (cmpI s t) = R
  have HR := Lib.hid hr
  clear hr
  go_enter Tryz.func159, Tryz.ntmps159
  go_wp2
  rw [← W0.out]
  have n1 := World.new_ne w0 ⟨w.heap.size, 0, none⟩ k0
  have n2 := World.new_ne w0 ⟨w.heap.size + 1, 0, none⟩ k3
  generalize w.heap.size + 1 = s1 at *
  generalize w.heap.size = s0 at *
  go_region_held3 (fun w' => w'.cell? ⟨s0, 0, none⟩ = some (.int .i64 a) ∧ w'.cell? ⟨s0, 1, none⟩ = some (.int .i64 s) ∧ w'.cell? ⟨s1, 0, none⟩ = some (.int .i64 b) ∧ w'.cell? ⟨s1, 1, none⟩ = some (.int .i64 t)) (first | exact ⟨k0, k1, k3, k4⟩ | go_keep)
    ((first
      | (go_at_call 211; (with_reducible refine (cmpint_any _ _ _).mono ?_); rintro e w1 ⟨rfl, rfl⟩)
      | (go_at_call 210; refine (or2_any _ w0.heap.size (cmpI a b) (cmpI s t) (show (w0.alloc _).drew.heap[_]? = _ from heap_alloc_new w0 _)).mono ?_; rintro e w1 ⟨rfl, rfl⟩)))
  all_goals
    go_wp2; go_ret
    exact ⟨by first | rfl | (rw [← HR.out]; rfl), GR.out _⟩
theorem dless_gr (w : World) (a s b t : Int) :
  Calls Tryz.prog 116 #[.agg #[.int .i64 a, .int .i64 s], .agg #[.int .i64 b, .int .i64 t]] w fun e w' => e = .returned (.bool (decide (LtD a s b t))) ∧ Gr w w' := by
 have h : decide (cmpD a s b t < 0) = decide (LtD a s b t) := decide_eq_decide.2 cmpD_lt
 generalize decide (LtD a s b t) = B at *
 go_enter Tryz.func116, Tryz.ntmps116
 go_wp2_with fail
 refine (dcmp_gr _ _ _ _ _).mono ?_
 rintro e w1 ⟨rfl, c1⟩
 have C1 : Hid (Gr w w1) := Lib.hid (Gr.trans ⟨((Chg.refl [] w).alloc _).alloc _, Nat.le_refl _⟩ c1)
 clear c1; go_wp2; go_ret
 exact ⟨rfl, C1.out⟩
theorem cmpD_is (a s b t : Int) : cmpD a s b t = if LtD a s b t then -1 else if LtD b t a s then 1 else 0 := by
 have h1 := @cmpD_lt a s b t
 unfold cmpD or2 cmpI at *
 unfold LtD
 split <;> split <;> (try split) <;> omega
set_option maxRecDepth 100000 in
set_option maxHeartbeats 2000000 in
theorem orderof_gr (w : World) (a s b t : Int) :
  Calls Tryz.prog 152 #[.agg #[.int .i64 a, .int .i64 s], .agg #[.int .i64 b, .int .i64 t], .func (.func 116) #[] #[]] w fun e w' => e = .returned (.int .i64 (cmpD a s b t)) ∧ Gr w w' := by
 obtain ⟨w0, hw0, c0, b0, b1⟩ := gr2 w (.cells #[.int .i64 a, .int .i64 s] 24) (.cells #[.int .i64 b, .int .i64 t] 24)
 have W0 := Lib.hid hw0
 have G := Lib.hid c0
 have B0 := Lib.hid b0
 have B1 := Lib.hid b1
 rw [cmpD_is]
 clear hw0 c0 b0 b1
 go_enter Tryz.func152, Tryz.ntmps152
 go_upto_region 1 with fail
 rw [← W0.out]
 generalize w.heap.size + 1 = s1 at *
 generalize w.heap.size = s0 at *
 have k0 := cell_of B0.out 0
 have k1 := cell_of B0.out 1
 have k3 := cell_of B1.out 0
 have k4 := cell_of B1.out 1
 simp only [List.getElem?_toArray, List.getElem?_cons_succ, List.getElem?_cons_zero] at k0 k1 k3 k4
 go_wp2_with fail; clear k0 k1 k3 k4
 refine (dless_gr _ _ _ _ _).mono ?_
 rintro e w1 ⟨rfl, c1⟩
 replace G := Lib.hid (G.out.trans c1)
 replace B0 := Lib.hid (c1.1.at_ B0.out (by simp))
 replace B1 := Lib.hid (c1.1.at_ B1.out (by simp))
 clear c1
 by_cases h1 : LtD a s b t
 ·
  rw [decide_eq_true h1]
  have H1 := Lib.hid h1
  clear h1; go_wp2; go_ret
  exact ⟨by first | rfl | rw [if_pos H1.out], G.out⟩
 rw [decide_eq_false h1]
 have N1 := Lib.hid h1
 clear h1
 have k0 := cell_of B0.out 0
 have k1 := cell_of B0.out 1
 have k3 := cell_of B1.out 0
 have k4 := cell_of B1.out 1
 simp only [List.getElem?_toArray, List.getElem?_cons_succ, List.getElem?_cons_zero] at k0 k1 k3 k4
 go_wp2_with fail; clear k0 k1 k3 k4
 refine (dless_gr _ _ _ _ _).mono ?_
 rintro e w2 ⟨rfl, c1⟩
 replace G := Lib.hid (G.out.trans c1)
 clear c1
 by_cases h1 : LtD b t a s
 ·
  rw [decide_eq_true h1]
  have H1 := Lib.hid h1
  clear h1; go_wp2; go_ret
  exact ⟨by first | rfl | rw [if_neg N1.out, if_pos H1.out], G.out⟩
 ·
  rw [decide_eq_false h1]
  have H1 := Lib.hid h1
  clear h1; go_wp2; go_ret
  exact ⟨by first | rfl | rw [if_neg N1.out, if_neg H1.out], G.out⟩
instance : Inhabited EvT := ⟨evTy.z⟩
set_option maxRecDepth 100000 in
set_option maxHeartbeats 1000000 in
theorem cloneEv_any (w : World) (A : Option Addr) (n c : Nat) (xs : List EvT) (h : RdK evTy w A n xs) (hn : n * 400 ≤ 140737488355327) :
  Calls Tryz.prog 79 #[.slice A n c] w fun e w' => ∃ A' c', e = .returned (.slice A' n c') ∧ OwnK evTy w' A' c' xs ∧ (∀ a, A' = some a → w.heap.size ≤ a.block) ∧ Chg [] w w' := by
 have heq := fun W => Lib.run_eql_slice_nil (P := Tryz.prog) W 22 30 A n c 0 0 Tryz.underlying22
 cases A with
 | none =>
  have hx := rdk_nil h
  subst hx
  have hl : n = 0 := h.len.symm
  subst hl; clear h
  go_enter Tryz.func79, Tryz.ntmps79
  go_wp2; go_ret
  exact ⟨none, 0, rfl, OwnK.none_ _, by simp, Chg.refl _ _⟩
 | some ad =>
  obtain ⟨w1, hw1, c1, b1⟩ := news1 w (.cells #[] 30)
  have W1 := Lib.hid hw1
  have HA := Lib.hid (h.chg c1 (by simp))
  have HO : Hid (OwnK evTy w1 (some ⟨w.heap.size, 0, none⟩) 0 []) := Lib.hid (.of (full := []) b1 (Nat.le_refl _) (Nat.zero_le _) rfl rfl)
  have C1 := Lib.hid c1
  have HN : Hid ((0 + n) * 400 ≤ 140737488355327) := Lib.hid (by rw [Nat.zero_add]; exact hn)
  clear hw1 c1 b1 h hn
  go_enter Tryz.func79, Tryz.ntmps79
  go_wp2_with (at_builtin; rw [← W1.out]; refine wpList_appK rfl _ _ rfl rfl HO.out rfl rfl HA.out HN.out ?_; intro A2 c2 w2 u2 d2 e2)
  go_ret
  rw [Nat.zero_add] at *
  have hA2 : ∀ a, A2 = some a → w.heap.size ≤ a.block := by
   rintro a rfl
   rcases e2 with h | h
   ·
    cases h; exact Nat.le_refl _
   ·
    cases h; exact C1.out.size
  exact ⟨A2, c2, rfl, by simpa using u2, hA2, C1.out.grown d2 (fun k hk => by simp at hk; subst hk; exact .inr (Nat.le_refl _))⟩
end
section
open Go.RowKit Go.Lib


def cmpEd (x : EvT) (n s : Int) : Int := cmpD x.n x.s n s
theorem cmpEd_neg {x : EvT} {n s : Int} : cmpEd x n s < 0 ↔ LtD x.n x.s n s := cmpD_lt
theorem cmpEd_zero {x : EvT} {n s : Int} : cmpEd x n s = 0 ↔ x.n = n ∧ x.s = s := by
 unfold cmpEd
 rw [cmpD_is]
 by_cases h1 : LtD x.n x.s n s
 ·
  rw [if_pos h1]
  unfold LtD at h1
  exact ⟨fun h => absurd h (by decide), fun h => absurd h1 (by omega)⟩
 ·
  rw [if_neg h1]
  by_cases h2 : LtD n s x.n x.s
  ·
   rw [if_pos h2]
   unfold LtD at h2
   exact ⟨fun h => absurd h (by decide), fun h => absurd h2 (by omega)⟩
  ·
   rw [if_neg h2]
   unfold LtD at h1 h2
   exact ⟨fun _ => by omega, fun _ => rfl⟩
def UpE (xs : List EvT) : Prop := xs.Pairwise (fun x y => ¬ LtD y.n y.s x.n x.s)
theorem up_at {l : List EvT} (h : UpE l) {p q : Nat} {x y : EvT} (hx : l[p]? = some x) (hy : l[q]? = some y) (hl : p < q) : ¬ LtD y.n y.s x.n x.s := by
 obtain ⟨l1, e1⟩ := List.getElem?_eq_some_iff.1 hx
 obtain ⟨l2, e2⟩ := List.getElem?_eq_some_iff.1 hy
 have := List.pairwise_iff_getElem.1 h p q l1 l2 hl
 rw [e1, e2] at this
 exact this
def LoE (xs : List EvT) (n s : Int) (i : Nat) : Prop := ∀ p x, xs[p]? = some x → p < i → LtD x.n x.s n s
def HiE (xs : List EvT) (n s : Int) (j : Nat) : Prop := ∀ p x, xs[p]? = some x → j ≤ p → ¬ LtD x.n x.s n s
theorem loE_next {xs : List EvT} {n s : Int} (hn : UpE xs) {h : Nat} {x : EvT} (hx : xs[h]? = some x) (hc : cmpEd x n s < 0) : LoE xs n s (h + 1) := by
 intro p y hy hp
 rw [cmpEd_neg] at hc
 by_cases e : p = h
 ·
  subst e; rw [hx] at hy; cases hy; exact hc
 ·
  have a := up_at hn hy hx (by omega)
  unfold LtD at *
  omega
theorem hiE_next {xs : List EvT} {n s : Int} (hn : UpE xs) {h : Nat} {x : EvT} (hx : xs[h]? = some x) (hc : ¬ cmpEd x n s < 0) : HiE xs n s h := by
 intro p y hy hp
 rw [cmpEd_neg] at hc
 by_cases e : p = h
 ·
  subst e; rw [hx] at hy; cases hy; exact hc
 ·
  have a := up_at hn hx hy (by omega)
  unfold LtD at *
  omega
def inE (xs : List EvT) (n s : Int) : Bool := xs.any (fun x => decide (x.n = n ∧ x.s = s))
theorem inE_yes {xs : List EvT} {n s : Int} {i : Nat} {x : EvT} (hx : xs[i]? = some x) (hc : cmpEd x n s = 0) : inE xs n s = true := by
 unfold inE
 rw [List.any_eq_true]
 exact ⟨x, List.mem_of_getElem? hx, decide_eq_true (cmpEd_zero.1 hc)⟩
theorem inE_no {xs : List EvT} {n s : Int} (hn : UpE xs) {i : Nat} (hl : LoE xs n s i) (hh : HiE xs n s i) (hx : ∀ x, xs[i]? = some x → cmpEd x n s ≠ 0) : inE xs n s = false := by
 rcases q : inE xs n s with _ | _
 ·
  rfl
 ·
  unfold inE at q
  rw [List.any_eq_true] at q
  obtain ⟨y, hy, hi⟩ := q
  have hi := of_decide_eq_true hi
  obtain ⟨q, hq, rfl⟩ := List.getElem_of_mem hy
  have hz : cmpEd xs[q] n s = 0 := cmpEd_zero.2 hi
  have hqe := List.getElem?_eq_getElem hq
  rcases Nat.lt_trichotomy q i with h | h | h
  ·
   have := hl q _ hqe h
   unfold LtD at this
   omega
  ·
   subst h; exact absurd hz (hx _ hqe)
  ·
   have hie := List.getElem?_eq_getElem (show i < xs.length by omega)
   have a := up_at hn hie hqe h
   have b := hh i _ hie (Nat.le_refl _)
   have c := hx _ hie
   have d : ¬ (xs[i].n = n ∧ xs[i].s = s) := fun e => c (cmpEd_zero.2 e)
   unfold LtD at a b
   omega
end
section
open Go.RowKit Go.Lib


theorem push_any (w : World) (c : Nat) (z : Sp) (A : Option Addr) (xs : List Sp) (h : OwnK spanTy w A c xs) (hn : xs.length ≤ 100000) (hb : ∀ x ∈ xs, B3 x) : Calls Tryz.prog 94 #[.slice A xs.length c, .agg #[.int .i64 z.1, .int .i64 z.2.1, .int .i64 z.2.2]] w fun e w' => ∃ A' c', e = .returned (.slice A' (pushP xs z).length c') ∧ OwnK spanTy w' A' c' (pushP xs z) ∧ (A' = A ∨ ∀ a, A' = some a → w.heap.size ≤ a.block) ∧ ∀ S : List Nat, (∀ a, A = some a → a.block ∈ S) → Chg S w w' := by
 by_cases h0 : xs.length = 0
 ·
  have e : xs = [] := List.eq_nil_of_length_eq_zero h0
  subst e
  exact push_first w c z.1 z.2.1 z.2.2 A h
 ·
  obtain ⟨y, hy⟩ : ∃ y, xs[xs.length - 1]? = some y := ⟨_, List.getElem?_eq_getElem (by omega)⟩
  have by_ := hb y (List.mem_of_getElem? hy)
  unfold B3 at by_
  by_cases ha : Ap y z
  ·
   refine (push_apart w c z.1 z.2.1 z.2.2 A xs y h (by omega) hn hy (by omega) (by omega) ha).mono ?_
   rintro e w' ⟨A', c', rfl, ho, hA, hc⟩
   rw [push_apart' hy ha]
   exact ⟨A', c', by simp, ho, hA, hc⟩
  ·
   refine (push_touches w c z.1 z.2.1 z.2.2 A xs y h (by omega) hn hy (by omega) (by omega) ha).mono ?_
   rintro e w' ⟨rfl, ho, hc⟩
   rw [push_touch hy ha]
   exact ⟨A, c, by rw [List.length_set], ho, .inl rfl, hc⟩
end
end Go.Proofs.YtomgjogkkoigbaaGreatDoor
