/- bytes.Clone, the kit's copy, and the writer's Out; the writer's calls whatever came ahead. The kit's functions on bytes: same, lent, kept, written over. cmp.Compare at int, bytes.Compare, cmp.Or at three ints. Package dot: Check, compare, Less, Next; the document's Check, Less, Next. Package dot: compare, Less, Next; the document's Less, Next. Dots in slices: the kit's functions on them. Spans in slices: the functions of the kit on them. past.stands, past.apart. past.Check. past.bounded, past.alone. past.push. past.push behind a span. A row of structs: one cell of one of them is stored. No program here. -/
import Derived.Test.YtehmchdhlhchjaaGreatDoorZeaa
import Derived.Lib.BytesEntry
import Derived.Deep.RegionHeld3
import Derived.Deep.QuietTactic
import Derived.BigQuiet
import Derived.RegionTactic
import Derived.Deep.Cut
set_option linter.unusedSimpArgs false
set_option linter.unusedVariables false
set_option maxHeartbeats 32000000
namespace Go.Proofs.YtehmchdhlhchjaaGreatDoor
section
variable {P : Program} {ops : Array Oper} {Q : Exit → Act → World → Prop} {md : Region.Mode} {S : World → Prop}
theorem on1 (i : Nat) {o : Oper} {fuel : Nat} {listed : Array Bool} {a : Act} {w : World} (ho : ops[i]? = some o)
    (h : ∀ K' : Act → World → Prop, Go.RowKit.Hid (Shut (∀ a w, S w → (S w → wpAnyH P md ops Q S fuel (listed.setIfInBounds i true) a w) → K' a w)) → if Region.wanted o (yielded ops a.tmps) = true then Oper.wp P o a w K' Q else K' (a.put o.dst undef) w)
    (hr : Region.ready md ops listed = [i] := by kernel_rfl) : wpAnyH P md ops Q S (fuel + 1) listed a w := wpAnyH_ready hr (by simp) (AllReadyH.cons ho (fun K hK => h K hK) AllReadyH.nil)
end
section
open Go.RowKit

def Fresh (w w' : World) (A : Option Addr) (c : Nat) (ys : List UInt8) : Prop := OwnB w' A c ys ∧ (∀ a, A = some a → w.heap.size ≤ a.block) ∧ Chg [] w w'

theorem OwnB.empty (w : World) : OwnB (w.alloc (.cells #[] 5)) (some ⟨w.heap.size, 0, none⟩) 0 [] := .of (full := []) (heap_alloc_new w _) (by simp) (by simp [maxLen]) rfl (by simp)

theorem fresh_app {w w1 : World} {A' : Option Addr} {c' : Nat} {ys : List UInt8} (own1 : OwnB w1 A' c' ([] ++ ys)) (hg1 : (w.alloc (.cells #[] 5)).grownBy w1 (Option.map (·.block) (some (⟨w.heap.size, 0, none⟩ : Addr))))
  (hA1 : A' = some ⟨w.heap.size, 0, none⟩ ∨ A' = some ⟨(w.alloc (.cells #[] 5)).heap.size, 0, none⟩) : Fresh w w1 A' c' ys := by
 refine ⟨own1, ?_, ((Chg.refl [] w).alloc _).grown hg1 (by simp)⟩
 rintro a rfl
 rcases hA1 with h | h <;> cases h <;> simp

theorem clone_any (w : World) (B : Option Addr) (m d : Nat) (ys : List UInt8) (hr : Bs w B m ys) (hm : m ≤ 140737488351232) :
  Calls Tryz.prog 133 #[.slice B m d] w fun r w' => ∃ A c, r = .returned (.slice A m c) ∧ Fresh w w' A c ys := by
 rcases B with _ | a
 ·
  have hy : ys = [] := by
   cases ys with
   | nil => rfl
   | cons y ys => obtain ⟨a, h, _⟩ := hr.cells 0 y rfl; cases h
  have hm0 := hr.len
  subst hy
  simp at hm0
  subst hm0
  have h0 := fun w => Lib.run_eql_slice_nil (P := Tryz.prog) w 36 5 none 0 d 0 0 Tryz.underlying36
  go_enter Tryz.func133, Tryz.ntmps133
  go_wp2; go_ret
  exact ⟨none, 0, rfl, OwnB.none_ _, by simp, Chg.refl _ _⟩
 ·
  have h0 := fun w => Lib.run_eql_slice_nil (P := Tryz.prog) w 36 5 (some a) m d 0 0 Tryz.underlying36
  go_enter Tryz.func133, Tryz.ntmps133
  go_wp2_with (at_builtin; refine wpList_app rfl _ _ rfl rfl (OwnB.empty w) rfl rfl (hr.chg ((Chg.refl [] w).alloc _) (by simp)) (by simp; omega) ?_; intro A' c' w1 own1 hg1 hA1)
  go_ret
  exact ⟨A', c', by simp, fresh_app own1 hg1 hA1⟩

theorem wout_ok (w : World) (b g : Nat) (xs : List UInt8) (h : Wrt w b g xs 0) (hlen : xs.length ≤ 1048576) :
  Calls Tryz.prog 89 #[.pointer (some ⟨b, 0, none⟩)] w fun r w' => ∃ A c, r = .returned (.tuple #[.slice A xs.length c, .int .i64 0]) ∧ Fresh w w' A c xs := by
 obtain ⟨A, c, h1, h2, _⟩ := id h
 have k1 := cell_of h1 1
 have k2 := cell_of h1 2
 simp only [List.getElem?_toArray, List.getElem?_cons_zero, List.getElem?_cons_succ] at k1 k2
 have H := h_ h1
 clear h1
 go_enter Tryz.func89, Tryz.ntmps89
 go_wp2_with (first
  | (go_at_call 128; refine (made_yes _ b g xs 0 h).mono ?_; rintro r w' ⟨rfl, rfl⟩)
  | (go_at_call 133; refine (clone_any _ _ _ _ xs h2.reads (by omega)).mono ?_; rintro r w1 ⟨A1, c1, rfl, hF⟩))
 go_ret2
 exact ⟨A1, c1, rfl, hF⟩

theorem wout_err (w : World) (b g : Nat) (xs : List UInt8) (e : Int) (h : Wrt w b g xs e) (he : (e != 0) = true) :
  Calls Tryz.prog 89 #[.pointer (some ⟨b, 0, none⟩)] w fun r w' => r = .returned (.tuple #[.slice none 0 0, .int .i64 e]) ∧ Chg [] w w' := by
 obtain ⟨A, c, h1, h2, _⟩ := id h
 have k2 := cell_of h1 2
 simp only [List.getElem?_toArray, List.getElem?_cons_zero, List.getElem?_cons_succ] at k2
 have H := h_ h1
 clear h1
 go_enter Tryz.func89, Tryz.ntmps89
 go_wp2_with (go_at_call 128; refine (made_yes _ b g xs e h).mono ?_; rintro r w' ⟨rfl, rfl⟩)
 go_region
 all_goals (go_wp2; go_ret2; exact ⟨rfl, (Chg.refl _ _).drew⟩)

theorem wNum_len {xs : List UInt8} {e x : Int} (h : xs.length ≤ 1048576) : (wNum xs e x).1.length ≤ 1048576 := by
 unfold wNum
 split
 ·
  exact h
 ·
  split
  ·
   exact h
  ·
   split
   ·
    exact h
   ·
    simp [enc_len]; omega
theorem wRaw_len {xs ys : List UInt8} {e : Int} (h : xs.length ≤ 1048576) : (wRaw xs e ys).1.length ≤ 1048576 := by
 unfold wRaw
 split
 ·
  exact h
 ·
  split
  ·
   exact h
  ·
   simp [enc_len]; omega

theorem wraw_any (w : World) (b g : Nat) (xs : List UInt8) (e : Int) (B : Option Addr) (m d : Nat) (ys : List UInt8) (h : Wrt w b g xs e) (hlen : xs.length ≤ 1048576) (hm : m ≤ 140737488351232) (hr : Bs w B m ys) (hB : Apart B ys b g) :
  Calls Tryz.prog 88 #[.pointer (some ⟨b, 0, none⟩), .slice B m d] w fun r w' => r = .returned (.tuple #[]) ∧ Between w w' b g (wRaw xs e ys).1 (wRaw xs e ys).2 := by
 have hl := hr.len
 subst hl
 unfold wRaw
 by_cases he : e = 0
 ·
  subst he
  by_cases h1 : 1048576 < 1 + nb ys.length + ys.length + xs.length
  ·
   simp only [ne_eq, not_true_eq_false, if_false, if_pos h1]; exact wraw_long w b g xs B _ d h hlen hm h1
  ·
   simp only [ne_eq, not_true_eq_false, if_false, if_neg h1]; exact wraw_fine w b g xs B _ d ys h hlen hr hB (by omega)
 ·
  simp only [ne_eq, he, not_false_eq_true, if_true]
  exact (wraw_err w b g xs e B _ d h (by simpa using he)).mono fun r w' ⟨h1, h2⟩ => ⟨h1, h2 ▸ Between.refl h⟩
def outs (xs : List UInt8) (e : Int) : List UInt8 := if e = 0 then xs else []
theorem wout_any (w : World) (b g : Nat) (xs : List UInt8) (e : Int) (h : Wrt w b g xs e) (hlen : xs.length ≤ 1048576) :
  Calls Tryz.prog 89 #[.pointer (some ⟨b, 0, none⟩)] w fun r w' => ∃ A c, r = .returned (.tuple #[.slice A (outs xs e).length c, .int .i64 e]) ∧ Fresh w w' A c (outs xs e) := by
 unfold outs
 by_cases he : e = 0
 ·
  subst he
  simp only [if_true]
  exact wout_ok w b g xs h hlen
 ·
  simp only [if_neg he]
  exact (wout_err w b g xs e h (by simpa using he)).mono fun r w' ⟨h1, h2⟩ => ⟨none, 0, h1, OwnB.none_ _, by simp, h2⟩
end
section
open Go.RowKit

theorem same_any (w : World) (A B : Option Addr) (n m c d : Nat) (xs ys : List UInt8) (h : Bs w A n xs) (k : Bs w B m ys) :
  Calls Tryz.prog 51 #[.slice A n c, .slice B m d] w fun e w' => e = .returned (.bool (xs == ys)) ∧ w = w' := by
 have h1 := run_str w (c := c) h
 have k1 := run_str w (c := d) k
 go_enter Tryz.func51, Tryz.ntmps51
 go_wp2; go_ret
 exact ⟨rfl, rfl⟩
end
section
open Go.RowKit

def cmpI (a b : Int) : Int := if a < b then -1 else if b < a then 1 else 0

theorem isnan_any (x : Int) (w : World) : Calls Tryz.prog 202 #[.int .i64 x] w fun e w' => e = .returned (.bool false) ∧ w = w' := by
 have h : (x != x) = false := by simp
 go_enter Tryz.func202, Tryz.ntmps202
 go_wp2; go_ret
 exact ⟨rfl, rfl⟩
theorem cmpint_any (a b : Int) (w : World) : Calls Tryz.prog 173 #[.int .i64 a, .int .i64 b] w fun e w' => e = .returned (.int .i64 (cmpI a b)) ∧ w = w' := by
 unfold cmpI
 rcases Int.lt_trichotomy a b with h | h | h
 ·
  rw [if_pos h]
  go_enter Tryz.func173, Tryz.ntmps173
  go_wp2_with (go_at_call 202; refine (isnan_any _ _).mono ?_; rintro e w' ⟨rfl, rfl⟩)
  go_ret
  exact ⟨rfl, rfl⟩
 ·
  subst h
  rw [if_neg (by omega), if_neg (by omega)]
  go_enter Tryz.func173, Tryz.ntmps173
  go_wp2_with (go_at_call 202; refine (isnan_any _ _).mono ?_; rintro e w' ⟨rfl, rfl⟩)
  go_ret
  exact ⟨rfl, rfl⟩
 ·
  rw [if_neg (by omega), if_pos h]
  have h' : ¬ a < b := by omega
  go_enter Tryz.func173, Tryz.ntmps173
  go_wp2_with (go_at_call 202; refine (isnan_any _ _).mono ?_; rintro e w' ⟨rfl, rfl⟩)
  go_ret
  exact ⟨rfl, rfl⟩
end
section
open Go.RowKit

def FineD (n s : Int) : Prop := 1 ≤ n ∧ n ≤ 200 ∧ 1 ≤ s ∧ s ≤ 2147483647
instance (n s : Int) : Decidable (FineD n s) := by unfold FineD; exact inferInstance
def chkD (n s : Int) : Int := if FineD n s then 0 else 2
theorem chkD_fine {n s : Int} (h : FineD n s) : chkD n s = 0 := if_pos h
theorem chkD_odd {n s : Int} (h : ¬ FineD n s) : chkD n s = 2 := if_neg h

theorem dcheck_any (w : World) (n s : Int) : Calls Tryz.prog 149 #[.agg #[.int .i64 n, .int .i64 s]] w fun e w' => e = .returned (.int .i64 (chkD n s)) ∧ Chg [] w w' := by
 have go : ∀ v, chkD n s = v → Calls Tryz.prog 149 #[.agg #[.int .i64 n, .int .i64 s]] w (fun e w' => e = .returned (.int .i64 v) ∧ Chg [] w w') → Calls Tryz.prog 149 #[.agg #[.int .i64 n, .int .i64 s]] w fun e w' => e = .returned (.int .i64 (chkD n s)) ∧ Chg [] w w' := fun v hv h => hv ▸ h
 by_cases h : FineD n s
 ·
  refine go 0 (chkD_fine h) ?_
  clear go
  obtain ⟨h1, h2, h3, h4⟩ := h
  go_enter Tryz.func149, Tryz.ntmps149
  go_wp2; go_ret
  exact ⟨rfl, (Chg.refl _ _).alloc _⟩
 ·
  refine go 2 (chkD_odd h) ?_
  clear go
  unfold FineD at h
  by_cases h1 : n < 1
  ·
   clear h
   go_enter Tryz.func149, Tryz.ntmps149
   go_wp2; go_ret
   exact ⟨rfl, (Chg.refl _ _).alloc _⟩
  by_cases h2 : 200 < n
  ·
   clear h
   go_enter Tryz.func149, Tryz.ntmps149
   go_wp2; go_ret
   exact ⟨rfl, (Chg.refl _ _).alloc _⟩
  by_cases h3 : s < 1
  ·
   clear h
   go_enter Tryz.func149, Tryz.ntmps149
   go_wp2; go_ret
   exact ⟨rfl, (Chg.refl _ _).alloc _⟩
  ·
   have h4 : 2147483647 < s := by omega
   clear h
   go_enter Tryz.func149, Tryz.ntmps149
   go_wp2; go_ret
   exact ⟨rfl, (Chg.refl _ _).alloc _⟩
def or2 (a b : Int) : Int := if a ≠ 0 then a else b
def cmpD (a s b t : Int) : Int := or2 (cmpI a b) (cmpI s t)
theorem cmpI_lt {a b : Int} : cmpI a b < 0 ↔ a < b := by unfold cmpI; split <;> (try split) <;> omega
theorem cmpI_zero {a b : Int} : cmpI a b = 0 ↔ a = b := by unfold cmpI; split <;> (try split) <;> omega
def LtD (a s b t : Int) : Prop := a < b ∨ a = b ∧ s < t
instance (a s b t : Int) : Decidable (LtD a s b t) := by unfold LtD; exact inferInstance
theorem cmpD_lt {a s b t : Int} : cmpD a s b t < 0 ↔ LtD a s b t := by
 unfold cmpD or2 LtD
 have h1 := @cmpI_lt a b
 have h2 := @cmpI_zero a b
 have h3 := @cmpI_lt s t
 split <;> omega
theorem or2_any (w : World) (g : Nat) (a b : Int) (h : w.heap[g]? = some (.cells #[.int .i64 a, .int .i64 b] 3 (0, 0))) :
  Calls Tryz.prog 172 #[.slice (some ⟨g, 0, none⟩) 2 2] w fun e w' => e = .returned (.int .i64 (or2 a b)) ∧ w = w' := by
 unfold or2
 obtain ⟨k0, k1⟩ := ce2 h
 clear h
 by_cases ha : a = 0
 ·
  subst ha
  rw [if_neg (by simp)]
  by_cases hb : b = 0
  ·
   subst hb
   go_enter Tryz.func172, Tryz.ntmps172
   go_wp2
   refine wp_loop_rounds 3 ?_
   rw [rounds_succ]
   go_wp2
   rw [rounds_succ]
   go_wp2
   rw [rounds_succ]
   go_wp2; go_ret
   exact ⟨rfl, rfl⟩
  ·
   have hb' : (b != 0) = true := by simpa using hb
   clear hb
   go_enter Tryz.func172, Tryz.ntmps172
   go_wp2
   refine wp_loop_rounds 2 ?_
   rw [rounds_succ]
   go_wp2
   rw [rounds_succ]
   go_wp2; go_ret
   exact ⟨rfl, rfl⟩
 ·
  have ha' : (a != 0) = true := by simpa using ha
  rw [if_pos ha]
  clear ha
  go_enter Tryz.func172, Tryz.ntmps172
  go_wp2
  refine wp_loop_rounds 1 ?_
  rw [rounds_succ]
  go_wp2; go_ret
  exact ⟨rfl, rfl⟩
end
section
open Go.RowKit

theorem dcompare_any (w : World) (a s b t : Int) :
    Calls Tryz.prog 122 #[.agg #[.int .i64 a, .int .i64 s], .agg #[.int .i64 b, .int .i64 t]] w fun e w' => e = .returned (.int .i64 (cmpD a s b t)) ∧ Chg [] w w' := by
  obtain ⟨w0, hw0, c0, b0, b1⟩ := news2 w (.cells #[.int .i64 a, .int .i64 s] 35) (.cells #[.int .i64 b, .int .i64 t] 35)
  obtain ⟨k0, k1⟩ := ce2 b0
  obtain ⟨k3, k4⟩ := ce2 b1
  have g0 := lt_of_heap b0
  have g1 := lt_of_heap b1
  have W0 := h_ hw0
  have C0 := h_ c0
  clear hw0 c0 b0 b1
  unfold cmpD
  generalize hr : or2 (cmpI a b) (cmpI s t) = R
  have HR := h_ hr
  clear hr
  go_enter Tryz.func122, Tryz.ntmps122
  go_wp2
  rw [← W0.out]
  have n1 := World.new_ne w0 ⟨w.heap.size, 0, none⟩ k0
  have n2 := World.new_ne w0 ⟨w.heap.size + 1, 0, none⟩ k3
  generalize w.heap.size + 1 = s1 at *
  generalize w.heap.size = s0 at *
  go_region_held3 (fun w' => w'.cell? ⟨s0, 0, none⟩ = some (.int .i64 a) ∧ w'.cell? ⟨s0, 1, none⟩ = some (.int .i64 s) ∧ w'.cell? ⟨s1, 0, none⟩ = some (.int .i64 b) ∧ w'.cell? ⟨s1, 1, none⟩ = some (.int .i64 t)) (first | exact ⟨k0, k1, k3, k4⟩ | go_keep)
    ((first
      | (go_at_call 173; (with_reducible refine (cmpint_any _ _ _).mono ?_); rintro e w1 ⟨rfl, rfl⟩)
      | (go_at_call 172; refine (or2_any _ w0.heap.size (cmpI a b) (cmpI s t) (show (w0.alloc _).drew.heap[_]? = _ from heap_alloc_new w0 _)).mono ?_; rintro e w1 ⟨rfl, rfl⟩)))
  all_goals
    go_wp2; go_ret
    exact ⟨by first | rfl | (rw [← HR.out]; rfl), (C0.out.alloc _).drew⟩
theorem dless_any (w : World) (a s b t : Int) :
  Calls Tryz.prog 74 #[.agg #[.int .i64 a, .int .i64 s], .agg #[.int .i64 b, .int .i64 t]] w fun e w' => e = .returned (.bool (decide (LtD a s b t))) ∧ Chg [] w w' := by
 have h : decide (cmpD a s b t < 0) = decide (LtD a s b t) := decide_eq_decide.2 cmpD_lt
 generalize decide (LtD a s b t) = B at *
 go_enter Tryz.func74, Tryz.ntmps74
 go_wp2_with fail
 refine (dcompare_any _ _ _ _ _).mono ?_
 rintro e w1 ⟨rfl, c1⟩
 have C1 := h_ ((((Chg.refl [] w).alloc _).alloc _).trans c1)
 clear c1; go_wp2; go_ret
 exact ⟨rfl, C1.out⟩
end
section
open Go.RowKit


def dotTy : RowTy (Int × Int) where
 enc := fun x => [.int .i64 x.1, .int .i64 x.2]
 k := 2
 T := 35
 TS := 26
 z := (0, 0)
 zv := .agg #[.int .i64 0, .int .i64 0]
 bytes := 16
 klen := fun _ => rfl
 one := by intro x v hv; simp at hv; rcases hv with rfl | rfl <;> rfl
 zc := rfl
 kpos := by decide
 bpos := by decide
 under := by kernel_rfl
 info := by kernel_rfl
theorem dotCells {w : World} {g o n j : Nat} {xs : List (Int × Int)} (h : RdK dotTy w (some ⟨g, o, none⟩) n xs) {x : Int × Int} (hx : xs[j]? = some x) : w.cell? ⟨g, o + j * 2, none⟩ = some (.int .i64 x.1) ∧ w.cell? ⟨g, o + j * 2 + 1, none⟩ = some (.int .i64 x.2) :=
 ⟨h.at_ j 0 x _ hx rfl, h.at_ j 1 x _ hx rfl⟩
end
section
open Go.RowKit


def spanTy : RowTy (Int × Int × Int) where
 enc := fun x => [.int .i64 x.1, .int .i64 x.2.1, .int .i64 x.2.2]
 k := 3
 T := 81
 TS := 23
 z := (0, 0, 0)
 zv := .agg #[.int .i64 0, .int .i64 0, .int .i64 0]
 bytes := 24
 klen := fun _ => rfl
 one := by intro x v hv; simp at hv; rcases hv with rfl | rfl | rfl <;> rfl
 zc := rfl
 kpos := by decide
 bpos := by decide
 under := by kernel_rfl
 info := by kernel_rfl
theorem spanCells {w : World} {g o n j : Nat} {xs : List (Int × Int × Int)} (h : RdK spanTy w (some ⟨g, o, none⟩) n xs) {x : Int × Int × Int} (hx : xs[j]? = some x) : w.cell? ⟨g, o + j * 3, none⟩ = some (.int .i64 x.1) ∧ w.cell? ⟨g, o + j * 3 + 1, none⟩ = some (.int .i64 x.2.1) ∧ w.cell? ⟨g, o + j * 3 + 2, none⟩ = some (.int .i64 x.2.2) :=
 ⟨h.at_ j 0 x _ hx rfl, h.at_ j 1 x _ hx rfl, h.at_ j 2 x _ hx rfl⟩
theorem samespan_any (w : World) (A B : Option Addr) (n m c d : Nat) (xs ys : List (Int × Int × Int)) (h : RdK spanTy w A n xs) (h' : RdK spanTy w B m ys) (hn : n ≤ 140737488351232) (hm : m ≤ 140737488351232) :
  Calls Tryz.prog 47 #[.slice A n c, .slice B m d] w fun e w' => e = .returned (.bool (xs == ys)) ∧ Chg [] w w' := by
 have hl := h.len
 have hl2 := h'.len
 subst hl hl2
 by_cases hne : xs.length = ys.length
 ·
  have hb : ((xs.length : Int) == (ys.length : Int)) = true := by simp; omega
  have HN := h_ hne
  have HA := h_ h
  have HB := h_ h'
  clear hne h h'
  go_enter Tryz.func47, Tryz.ntmps47
  go_wp2
  go_loopw [5] (fun i wr => ∃ k : Nat, k ≤ xs.length ∧ i = .int .i64 k ∧ Hid (xs.take k = ys.take k ∧ Chg [] w wr)) (fun i _ => xs.length - (RowKit.intOf i).toNat)
  case atStart => exact ⟨0, Nat.zero_le _, rfl, rfl, Chg.refl _ _⟩
  case round =>
   obtain ⟨k, hk, rfl, HI⟩ := hrel
   by_cases hlt : k < xs.length
   ·
    have hlt2 : k < ys.length := by have := HN.out; omega
    obtain ⟨g, o, eA, _⟩ := HA.out.line (by omega)
    obtain ⟨g2, o2, eB, _⟩ := HB.out.line (by omega)
    subst eA eB
    have ex := List.getElem?_eq_getElem hlt
    have ey := List.getElem?_eq_getElem hlt2
    obtain ⟨p0, p1, p2⟩ := spanCells (HA.out.chg HI.out.2 (by simp)) ex
    obtain ⟨q0, q1, q2⟩ := spanCells (HB.out.chg HI.out.2 (by simp)) ey
    generalize hx : xs[k] = x at *
    generalize hy : ys[k] = y at *
    have i0 : (0 : Int) ≤ (k : Int) := by omega
    have i1 : (k : Int) < (xs.length : Int) := by omega
    have i2 : (k : Int) < (ys.length : Int) := by omega
    have HX := h_ (And.intro ex ey)
    clear ex ey hx hy
    refine (Decidable.em (x = y)).elim (fun hxy => ?EQ) (fun hxy => ?NE)
    case EQ =>
     subst hxy; go_wp2
     go_quiet (fail)
     go_wp2
     refine ⟨⟨k + 1, by omega, by simp, ?_, HI.out.2.drewN _⟩, by simp [RowKit.intOf]; omega⟩
     rw [List.take_add_one, List.take_add_one, HI.out.1, HX.out.1, HX.out.2]
    case NE =>
     have hf : (xs == ys) = false := by
      rw [beq_eq_false_iff_ne]
      intro e
      apply hxy
      have h1 := HX.out.1
      rw [e, HX.out.2] at h1
      exact (Option.some.inj h1).symm
     have HF := h_ hf
     clear hf
     by_cases h0 : x.1 = y.1
     ·
      skip
      by_cases h1 : x.2.1 = y.2.1
      ·
       skip
       have h2 : ¬ x.2.2 = y.2.2 := fun h => hxy (by exact Prod.ext h0 (Prod.ext h1 h))
       clear hxy; go_wp2
       go_quiet (fail)
       go_wp2; go_ret
       exact ⟨by rw [HF.out]; rfl, HI.out.2.drewN _⟩
      ·
       clear hxy; go_wp2
       go_quiet (fail)
       go_wp2; go_ret
       exact ⟨by rw [HF.out]; rfl, HI.out.2.drewN _⟩
     ·
      clear hxy; go_wp2
      go_quiet (fail)
      go_wp2; go_ret
      exact ⟨by rw [HF.out]; rfl, HI.out.2.drewN _⟩
   ·
    obtain rfl : k = xs.length := by omega
    have ht : (xs == ys) = true := by
     have := HI.out.1
     rw [List.take_of_length_le (Nat.le_refl _), List.take_of_length_le (by have := HN.out; omega)] at this
     simpa using this
    have HF := h_ ht
    clear ht; go_wp2; go_ret
    exact ⟨by rw [HF.out]; rfl, HI.out.2⟩
 ·
  have hb : ((xs.length : Int) == (ys.length : Int)) = false := by simp; omega
  have hf : (xs == ys) = false := by
   rw [beq_eq_false_iff_ne]
   intro e
   exact hne (by rw [e])
  rw [hf]
  clear hne h h' hf
  go_enter Tryz.func47, Tryz.ntmps47
  go_wp2; go_ret
  exact ⟨rfl, Chg.refl _ _⟩
end
section
open Go.RowKit Go.Lib


def FineS (n f t : Int) : Prop := 1 ≤ n ∧ n ≤ 200 ∧ 1 ≤ f ∧ f ≤ t ∧ t ≤ 2147483647
instance (n f t : Int) : Decidable (FineS n f t) := by unfold FineS; exact inferInstance
def ApartS (n t m g : Int) : Prop := n < m ∨ n = m ∧ t + 1 < g
instance (n t m g : Int) : Decidable (ApartS n t m g) := by unfold ApartS; exact inferInstance
def okFrom : Option (Int × Int × Int) → List (Int × Int × Int) → Bool
 | _, [] => true
 | none, x :: l => decide (FineS x.1 x.2.1 x.2.2) && okFrom (some x) l
 | some y, x :: l => decide (FineS x.1 x.2.1 x.2.2) && decide (ApartS y.1 y.2.2 x.1 x.2.1) && okFrom (some x) l
def chkS (xs : List (Int × Int × Int)) : Int := if xs.length ≤ 4000 ∧ okFrom none xs = true then 0 else 2
def prevS (xs : List (Int × Int × Int)) (k : Nat) : Option (Int × Int × Int) := if k = 0 then none else xs[k - 1]?
theorem okFrom_next (xs : List (Int × Int × Int)) (k : Nat) (x : Int × Int × Int) (hx : xs[k]? = some x) :
  okFrom (prevS xs k) (xs.drop k) = (decide (FineS x.1 x.2.1 x.2.2) && (match prevS xs k with | none => true | some y => decide (ApartS y.1 y.2.2 x.1 x.2.1)) && okFrom (prevS xs (k + 1)) (xs.drop (k + 1))) := by
 obtain ⟨hk, rfl⟩ := List.getElem?_eq_some_iff.1 hx
 rw [List.drop_eq_getElem_cons hk]
 have e : prevS xs (k + 1) = some xs[k] := by unfold prevS; rw [if_neg (by omega)]; exact List.getElem?_eq_getElem hk
 rw [e]
 cases prevS xs k <;> simp [okFrom]

theorem stands_any (w : World) (n f t : Int) : Calls Tryz.prog 115 #[.agg #[.int .i64 n, .int .i64 f, .int .i64 t]] w fun e w' => e = .returned (.bool (decide (FineS n f t))) ∧ Chg [] w w' := by
 have go : ∀ v, decide (FineS n f t) = v → Calls Tryz.prog 115 #[.agg #[.int .i64 n, .int .i64 f, .int .i64 t]] w (fun e w' => e = .returned (.bool v) ∧ Chg [] w w') → Calls Tryz.prog 115 #[.agg #[.int .i64 n, .int .i64 f, .int .i64 t]] w fun e w' => e = .returned (.bool (decide (FineS n f t))) ∧ Chg [] w w' := fun v hv h => hv ▸ h
 by_cases h : FineS n f t
 ·
  refine go true (decide_eq_true h) ?_
  obtain ⟨h1, h2, h3, h4, h5⟩ := h
  clear go
  go_enter Tryz.func115, Tryz.ntmps115
  go_wp2; go_ret
  exact ⟨rfl, (Chg.refl _ _).alloc _⟩
 ·
  refine go false (decide_eq_false h) ?_
  unfold FineS at h
  by_cases h1 : 1 ≤ n
  rotate_left
  ·
   clear h; clear go
   go_enter Tryz.func115, Tryz.ntmps115
   go_wp2; go_ret
   exact ⟨rfl, (Chg.refl _ _).alloc _⟩
  by_cases h2 : n ≤ 200
  rotate_left
  ·
   clear h; clear go
   go_enter Tryz.func115, Tryz.ntmps115
   go_wp2; go_ret
   exact ⟨rfl, (Chg.refl _ _).alloc _⟩
  by_cases h3 : 1 ≤ f
  rotate_left
  ·
   clear h; clear go
   go_enter Tryz.func115, Tryz.ntmps115
   go_wp2; go_ret
   exact ⟨rfl, (Chg.refl _ _).alloc _⟩
  by_cases h4 : f ≤ t
  rotate_left
  ·
   clear h; clear go
   go_enter Tryz.func115, Tryz.ntmps115
   go_wp2; go_ret
   exact ⟨rfl, (Chg.refl _ _).alloc _⟩
  have h5 : ¬ t ≤ 2147483647 := by omega
  clear h; clear go
  go_enter Tryz.func115, Tryz.ntmps115
  go_wp2; go_ret
  exact ⟨rfl, (Chg.refl _ _).alloc _⟩
theorem apart_any (w : World) (n f t m g u : Int) (ht : -2147483648 ≤ t) (ht2 : t ≤ 2147483647) : Calls Tryz.prog 116 #[.agg #[.int .i64 n, .int .i64 f, .int .i64 t], .agg #[.int .i64 m, .int .i64 g, .int .i64 u]] w fun e w' => e = .returned (.bool (decide (ApartS n t m g))) ∧ Chg [] w w' := by
 have go : ∀ v, decide (ApartS n t m g) = v → Calls Tryz.prog 116 #[.agg #[.int .i64 n, .int .i64 f, .int .i64 t], .agg #[.int .i64 m, .int .i64 g, .int .i64 u]] w (fun e w' => e = .returned (.bool v) ∧ Chg [] w w') → Calls Tryz.prog 116 #[.agg #[.int .i64 n, .int .i64 f, .int .i64 t], .agg #[.int .i64 m, .int .i64 g, .int .i64 u]] w fun e w' => e = .returned (.bool (decide (ApartS n t m g))) ∧ Chg [] w w' := fun v hv h => hv ▸ h
 have wr : IntKind.i64.wrap (t + 1) = t + 1 := IntWalk.i64_in _ (by omega)
 by_cases h1 : n < m
 ·
  refine go true (decide_eq_true (.inl h1)) ?_
  clear go
  go_enter Tryz.func116, Tryz.ntmps116
  go_wp2; go_ret
  exact ⟨rfl, ((Chg.refl _ _).alloc _).alloc _⟩
 by_cases h2 : n = m
 rotate_left
 ·
  refine go false (decide_eq_false (by unfold ApartS; omega)) ?_
  clear go
  go_enter Tryz.func116, Tryz.ntmps116
  go_wp2; go_ret
  exact ⟨rfl, ((Chg.refl _ _).alloc _).alloc _⟩
 by_cases h3 : t + 1 < g
 ·
  refine go true (decide_eq_true (.inr ⟨h2, h3⟩)) ?_
  subst h2; clear go
  go_enter Tryz.func116, Tryz.ntmps116
  go_wp2; go_ret
  exact ⟨rfl, ((Chg.refl _ _).alloc _).alloc _⟩
 ·
  refine go false (decide_eq_false (by unfold ApartS; omega)) ?_
  subst h2; clear go
  go_enter Tryz.func116, Tryz.ntmps116
  go_wp2; go_ret
  exact ⟨rfl, ((Chg.refl _ _).alloc _).alloc _⟩
end
section
open Go.RowKit Go.Lib



set_option maxRecDepth 100000 in
theorem pacheck_any (w : World) (A : Option Addr) (n c : Nat) (xs : List (Int × Int × Int)) (h : RdK spanTy w A n xs) (hn : n ≤ 140737488351232) : Calls Tryz.prog 67 #[.slice A n c] w fun e w' => e = .returned (.int .i64 (chkS xs)) ∧ Chg [] w w' := by
 have go : ∀ v, chkS xs = v → Calls Tryz.prog 67 #[.slice A n c] w (fun e w' => e = .returned (.int .i64 v) ∧ Chg [] w w') → Calls Tryz.prog 67 #[.slice A n c] w fun e w' => e = .returned (.int .i64 (chkS xs)) ∧ Chg [] w w' := fun v hv h => hv ▸ h
 have hl := h.len
 subst hl
 by_cases hbig : 4000 < xs.length
 ·
  refine go 2 (if_neg (by omega)) ?_
  clear go h
  go_enter Tryz.func67, Tryz.ntmps67
  go_wp2; go_ret
  exact ⟨rfl, Chg.refl _ _⟩
 ·
  skip
  have HX := h_ h
  have hV : chkS xs = if okFrom none xs = true then 0 else 2 := by unfold chkS; by_cases ho : okFrom none xs = true <;> simp [ho] <;> omega
  have HV := h_ hV
  clear h go
  generalize chkS xs = V at *
  clear hV
  go_enter Tryz.func67, Tryz.ntmps67
  go_wp2
  go_loopw [10] (fun i wr => ∃ (k : Nat), k ≤ xs.length ∧ i = .int .i64 k ∧ Hid (Chg [] w wr ∧ okFrom none xs = okFrom (prevS xs k) (xs.drop k) ∧ ∀ y, prevS xs k = some y → FineS y.1 y.2.1 y.2.2)) (fun i _ => xs.length - (RowKit.intOf i).toNat)
  case atStart => exact ⟨0, Nat.zero_le _, rfl, Chg.refl _ _, rfl, by unfold prevS; simp⟩
  case round =>
   obtain ⟨k, hk, rfl, HI⟩ := hrel
   generalize wr = w1 at *
   clear wr
   by_cases hlt : k < xs.length
   ·
    skip
    obtain ⟨g, o, eA, _⟩ := HX.out.line (by omega)
    subst eA
    have ex := List.getElem?_eq_getElem hlt
    generalize xs[k] = x at *
    have EX := h_ ex
    have hok := okFrom_next xs k x ex
    have HOK := h_ (HI.out.2.1.trans hok)
    clear ex hok
    have i0 : (0 : Int) ≤ (k : Int) := by omega
    have i1 : (k : Int) < (xs.length : Int) := by omega
    have hcc := spanCells (HX.out.chg HI.out.1 (by simp)) EX.out
    obtain ⟨p0, p1, p2⟩ := hcc
    have CW := h_ HI.out.1
    obtain ⟨w2, hw2, cw2, b_B0⟩ := news1 w1 (.cells #[.int .i64 x.1, .int .i64 x.2.1, .int .i64 x.2.2] 81)
    have Ww2 := h_ hw2
    have l_B0 := lt_of_heap b_B0
    replace CW := h_ (CW.out.trans cw2)
    have B0 := h_ (b_B0)
    clear hw2 cw2 b_B0; skip
    go_upto_region 6 with fail
    rw [← Ww2.out]
    generalize w1.heap.size = b at *
    clear Ww2
    have hc0 : ∀ w', Chg [] w2 w' → w'.cell? ⟨b, 0, none⟩ = some (.int .i64 x.1) ∧ w'.cell? ⟨b, 1, none⟩ = some (.int .i64 x.2.1) ∧ w'.cell? ⟨b, 2, none⟩ = some (.int .i64 x.2.2) := by
     intro w' hc
     have b1 := hc.at_ B0.out (by simp)
     exact ⟨cell_of b1 0, cell_of b1 1, cell_of b1 2⟩
    have HC0 := h_ hc0
    clear hc0
    have LS := h_ (fun w => stands_any w x.1 x.2.1 x.2.2)
    by_cases hf : FineS x.1 x.2.1 x.2.2
    ·
     have hd : decide (FineS x.1 x.2.1 x.2.2) = true := decide_eq_true hf
     have HFN := h_ hf
     rw [hd] at LS HOK
     clear hd hf
     by_cases h0 : k = 0
     ·
      subst h0
      refine wp_region_held_drew (S := fun w' => Chg [] w2 w') (by kernel_rfl) (Chg.refl [] w2).drew (fun hHeld => ?_)
      refine step_yes 0 15 ?_ (by assumption) rfl rfl (by kernel_rfl) (by kernel_rfl) (by kernel_rfl) (fun _ _ _ h => h) (by rfl) ?_ ?_
      rotate_left
      ·
       (intro w hSw; (try dsimp only at hSw); have hq := HC0.out _ hSw; obtain ⟨q0, q1, q2⟩ := hq; go_simp; try with_reducible rfl)
      try simp only [Act.put, sA, s0, s1]
      refine on1 1 rfl (fun K hK => ?_)
      go_simp
      refine (LS.out _).mono ?_
      rintro e w9 ⟨rfl, hc⟩
      have C9 := h_ (hHeld.trans hc)
      clear hc hHeld
      refine hK.out _ _ C9.out (fun hHeld => ?_)
      clear hK K; try simp only [Act.put, sA, s0, s1]
      refine step_yes 2 17 ?_ (by assumption) rfl rfl (by kernel_rfl) (by kernel_rfl) (by kernel_rfl) (fun _ _ _ h => h) (by rfl) ?_ ?_
      rotate_left
      ·
       (intro w hSw; (try dsimp only at hSw); go_simp; try with_reducible rfl)
      try simp only [Act.put, sA, s0, s1]
      refine step_yes 3 18 ?_ (by assumption) rfl rfl (by kernel_rfl) (by kernel_rfl) (by kernel_rfl) (fun _ _ _ h => h) (by rfl) ?_ ?_
      rotate_left
      ·
       (intro w hSw; (try dsimp only at hSw); go_simp; try with_reducible rfl)
      try simp only [Act.put, sA, s0, s1]
      refine step_yes 4 19 ?_ (by assumption) rfl rfl (by kernel_rfl) (by kernel_rfl) (by kernel_rfl) (fun _ _ _ h => h) (by rfl) ?_ ?_
      rotate_left
      ·
       (intro w hSw; (try dsimp only at hSw); go_simp; try with_reducible rfl)
      try simp only [Act.put, sA, s0, s1]
      refine step_yes 5 20 ?_ (by assumption) rfl rfl (by kernel_rfl) (by kernel_rfl) (by kernel_rfl) (fun _ _ _ h => h) (by rfl) ?_ ?_
      rotate_left
      ·
       (intro w hSw; (try dsimp only at hSw); go_simp; try with_reducible rfl)
      try simp only [Act.put, sA, s0, s1]
      refine step_yes 6 21 ?_ (by assumption) rfl rfl (by kernel_rfl) (by kernel_rfl) (by kernel_rfl) (fun _ _ _ h => h) (by rfl) ?_ ?_
      rotate_left
      ·
       (intro w hSw; (try dsimp only at hSw); go_simp; try with_reducible rfl)
      try simp only [Act.put, sA, s0, s1]
      refine step_no 7 22 (by assumption) rfl rfl (by kernel_rfl) (by kernel_rfl) (by kernel_rfl) (fun _ _ _ h => h) (by rfl) ?_
      try simp only [Act.put, sA, s0, s1]
      refine step_no 8 23 (by assumption) rfl rfl (by kernel_rfl) (by kernel_rfl) (by kernel_rfl) (fun _ _ _ h => h) (by rfl) ?_
      try simp only [Act.put, sA, s0, s1]
      refine step_no 9 24 (by assumption) rfl rfl (by kernel_rfl) (by kernel_rfl) (by kernel_rfl) (fun _ _ _ h => h) (by rfl) ?_
      try simp only [Act.put, sA, s0, s1]
      refine step_no 10 25 (by assumption) rfl rfl (by kernel_rfl) (by kernel_rfl) (by kernel_rfl) (fun _ _ _ h => h) (by rfl) ?_
      try simp only [Act.put, sA, s0, s1]
      refine step_no 11 26 (by assumption) rfl rfl (by kernel_rfl) (by kernel_rfl) (by kernel_rfl) (fun _ _ _ h => h) (by rfl) ?_
      try simp only [Act.put, sA, s0, s1]
      refine step_no 12 27 (by assumption) rfl rfl (by kernel_rfl) (by kernel_rfl) (by kernel_rfl) (fun _ _ _ h => h) (by rfl) ?_
      try simp only [Act.put, sA, s0, s1]
      refine step_no 13 28 (by assumption) rfl rfl (by kernel_rfl) (by kernel_rfl) (by kernel_rfl) (fun _ _ _ h => h) (by rfl) ?_
      try simp only [Act.put, sA, s0, s1]
      refine step_no 14 29 (by assumption) rfl rfl (by kernel_rfl) (by kernel_rfl) (by kernel_rfl) (fun _ _ _ h => h) (by rfl) ?_
      try simp only [Act.put, sA, s0, s1]
      refine step_yes 15 30 ?_ (by assumption) rfl rfl (by kernel_rfl) (by kernel_rfl) (by kernel_rfl) (fun _ _ _ h => h) (by rfl) ?_ ?_
      rotate_left
      ·
       (intro w hSw; (try dsimp only at hSw); go_simp; try with_reducible rfl)
      try simp only [Act.put, sA, s0, s1]
      refine step_yes 16 31 ?_ (by assumption) rfl rfl (by kernel_rfl) (by kernel_rfl) (by kernel_rfl) (fun _ _ _ h => h) (by rfl) ?_ ?_
      rotate_left
      ·
       (intro w hSw; (try dsimp only at hSw); go_simp; try with_reducible rfl)
      try simp only [Act.put, sA, s0, s1]
      refine wpAnyH_done (by kernel_rfl) ?_ _; go_wp2
      have e1 : prevS xs (0 + 1) = some x := by unfold prevS; rw [if_neg (by omega)]; exact EX.out
      have CE := h_ (CW.out.trans C9.out)
      refine ⟨⟨0 + 1, by omega, by simp, CE.out, ?_, ?_⟩, by simp [RowKit.intOf]; omega⟩
      ·
       rw [HOK.out]; simp [prevS]
      ·
       rw [e1]; rintro y ⟨⟩; exact HFN.out
     ·
      have hk1 : k - 1 < xs.length := by omega
      have ey := List.getElem?_eq_getElem hk1
      generalize xs[k - 1] = y at *
      have ep : prevS xs k = some y := by unfold prevS; rw [if_neg h0]; exact ey
      have EY := h_ ey
      have HFY := h_ (HI.out.2.2 y ep)
      rw [ep] at HOK
      dsimp only at HOK
      clear ey ep
      have hy0 : ∀ w', Chg [] w2 w' → w'.cell? ⟨g, o + (k - 1) * 3, none⟩ = some (.int .i64 y.1) ∧ w'.cell? ⟨g, o + (k - 1) * 3 + 1, none⟩ = some (.int .i64 y.2.1) ∧ w'.cell? ⟨g, o + (k - 1) * 3 + 2, none⟩ = some (.int .i64 y.2.2) := fun w' hc => spanCells (HX.out.chg (CW.out.trans hc) (by simp)) EY.out
      have HY0 := h_ hy0
      clear hy0
      have LA := h_ (fun w => apart_any w y.1 y.2.1 y.2.2 x.1 x.2.1 x.2.2 (by have := HFY.out; unfold FineS at this; omega) (by have := HFY.out; unfold FineS at this; omega))
      have hk2 : ((k : Int) - 1) = ((k - 1 : Nat) : Int) := by omega
      have hk3 : (0 : Int) < (k : Int) := by omega
      have hk4 : ((k - 1 : Nat) : Int) < (xs.length : Int) := by omega
      have hk5 : (0 : Int) ≤ ((k - 1 : Nat) : Int) := by omega
      have hk6 : IntKind.i64.wrap ((k - 1 : Nat) : Int) = ((k - 1 : Nat) : Int) := IntWalk.i64_in _ (by omega)
      have hk7 : decide (0 < k) = true := by simp; omega
      refine (Bool.eq_false_or_eq_true (decide (ApartS y.1 y.2.2 x.1 x.2.1))).elim (fun hA => ?AT) (fun hA => ?AF)
      case AT =>
       rw [hA] at LA HOK
       clear hA
       refine wp_region_held_drew (S := fun w' => Chg [] w2 w') (by kernel_rfl) (Chg.refl [] w2).drew (fun hHeld => ?_)
       refine step_yes 0 15 ?_ (by assumption) rfl rfl (by kernel_rfl) (by kernel_rfl) (by kernel_rfl) (fun _ _ _ h => h) (by rfl) ?_ ?_
       rotate_left
       ·
        (intro w hSw; (try dsimp only at hSw); have hq := HC0.out _ hSw; obtain ⟨q0, q1, q2⟩ := hq; go_simp; try with_reducible rfl)
       try simp only [Act.put, sA, s0, s1]
       refine on1 1 rfl (fun K hK => ?_)
       go_simp
       refine (LS.out _).mono ?_
       rintro e w9 ⟨rfl, hc⟩
       have C9 := h_ (hHeld.trans hc)
       clear hc hHeld
       refine hK.out _ _ C9.out (fun hHeld => ?_)
       clear hK K; try simp only [Act.put, sA, s0, s1]
       refine step_yes 2 17 ?_ (by assumption) rfl rfl (by kernel_rfl) (by kernel_rfl) (by kernel_rfl) (fun _ _ _ h => h) (by rfl) ?_ ?_
       rotate_left
       ·
        (intro w hSw; (try dsimp only at hSw); go_simp; try with_reducible rfl)
       try simp only [Act.put, sA, s0, s1]
       refine step_yes 3 18 ?_ (by assumption) rfl rfl (by kernel_rfl) (by kernel_rfl) (by kernel_rfl) (fun _ _ _ h => h) (by rfl) ?_ ?_
       rotate_left
       ·
        (intro w hSw; (try dsimp only at hSw); go_simp; try with_reducible rfl)
       try simp only [Act.put, sA, s0, s1]
       refine step_yes 4 19 ?_ (by assumption) rfl rfl (by kernel_rfl) (by kernel_rfl) (by kernel_rfl) (fun _ _ _ h => h) (by rfl) ?_ ?_
       rotate_left
       ·
        (intro w hSw; (try dsimp only at hSw); go_simp; try with_reducible rfl)
       try simp only [Act.put, sA, s0, s1]
       refine step_yes 5 20 ?_ (by assumption) rfl rfl (by kernel_rfl) (by kernel_rfl) (by kernel_rfl) (fun _ _ _ h => h) (by rfl) ?_ ?_
       rotate_left
       ·
        (intro w hSw; (try dsimp only at hSw); go_simp; try with_reducible rfl)
       try simp only [Act.put, sA, s0, s1]
       refine step_yes 6 21 ?_ (by assumption) rfl rfl (by kernel_rfl) (by kernel_rfl) (by kernel_rfl) (fun _ _ _ h => h) (by rfl) ?_ ?_
       rotate_left
       ·
        (intro w hSw; (try dsimp only at hSw); go_simp; try with_reducible rfl)
       try simp only [Act.put, sA, s0, s1]
       refine step_yes 7 22 ?_ (by assumption) rfl rfl (by kernel_rfl) (by kernel_rfl) (by kernel_rfl) (fun _ _ _ h => h) (by rfl) ?_ ?_
       rotate_left
       ·
        (intro w hSw; (try dsimp only at hSw); go_simp; try with_reducible rfl)
       try simp only [Act.put, sA, s0, s1]
       refine step_yes 8 23 ?_ (by assumption) rfl rfl (by kernel_rfl) (by kernel_rfl) (by kernel_rfl) (fun _ _ _ h => h) (by rfl) ?_ ?_
       rotate_left
       ·
        (intro w hSw; (try dsimp only at hSw); go_simp; try with_reducible rfl)
       try simp only [Act.put, sA, s0, s1]
       refine step_yes 9 24 ?_ (by assumption) rfl rfl (by kernel_rfl) (by kernel_rfl) (by kernel_rfl) (fun _ _ _ h => h) (by rfl) ?_ ?_
       rotate_left
       ·
        (intro w hSw; (try dsimp only at hSw); go_simp; try with_reducible rfl)
       try simp only [Act.put, sA, s0, s1]
       refine step_yes 10 25 ?_ (by assumption) rfl rfl (by kernel_rfl) (by kernel_rfl) (by kernel_rfl) (fun _ _ _ h => h) (by rfl) ?_ ?_
       rotate_left
       ·
        (intro w hSw; (try dsimp only at hSw); go_simp; try with_reducible rfl)
       try simp only [Act.put, sA, s0, s1]
       refine step_yes 11 26 ?_ (by assumption) rfl rfl (by kernel_rfl) (by kernel_rfl) (by kernel_rfl) (fun _ _ _ h => h) (by rfl) ?_ ?_
       rotate_left
       ·
        (intro w hSw; (try dsimp only at hSw); have hq := HY0.out _ hSw; obtain ⟨q0, q1, q2⟩ := hq; go_simp; try with_reducible rfl)
       try simp only [Act.put, sA, s0, s1]
       refine step_yes 12 27 ?_ (by assumption) rfl rfl (by kernel_rfl) (by kernel_rfl) (by kernel_rfl) (fun _ _ _ h => h) (by rfl) ?_ ?_
       rotate_left
       ·
        (intro w hSw; (try dsimp only at hSw); have hq := HC0.out _ hSw; obtain ⟨q0, q1, q2⟩ := hq; go_simp; try with_reducible rfl)
       try simp only [Act.put, sA, s0, s1]
       refine on1 13 rfl (fun K hK => ?_)
       go_simp
       refine (LA.out _).mono ?_
       rintro e v9 ⟨rfl, hc⟩
       have D9 := h_ (C9.out.trans hc)
       clear hc C9; have C9 := D9; clear D9
       refine hK.out _ _ C9.out (fun hHeld => ?_)
       clear hK K; try simp only [Act.put, sA, s0, s1]
       refine step_yes 14 29 ?_ (by assumption) rfl rfl (by kernel_rfl) (by kernel_rfl) (by kernel_rfl) (fun _ _ _ h => h) (by rfl) ?_ ?_
       rotate_left
       ·
        (intro w hSw; (try dsimp only at hSw); go_simp; try with_reducible rfl)
       try simp only [Act.put, sA, s0, s1]
       refine step_yes 15 30 ?_ (by assumption) rfl rfl (by kernel_rfl) (by kernel_rfl) (by kernel_rfl) (fun _ _ _ h => h) (by rfl) ?_ ?_
       rotate_left
       ·
        (intro w hSw; (try dsimp only at hSw); go_simp; try with_reducible rfl)
       try simp only [Act.put, sA, s0, s1]
       refine step_yes 16 31 ?_ (by assumption) rfl rfl (by kernel_rfl) (by kernel_rfl) (by kernel_rfl) (fun _ _ _ h => h) (by rfl) ?_ ?_
       rotate_left
       ·
        (intro w hSw; (try dsimp only at hSw); go_simp; try with_reducible rfl)
       try simp only [Act.put, sA, s0, s1]
       refine wpAnyH_done (by kernel_rfl) ?_ _; go_wp2
       have e1 : prevS xs (k + 1) = some x := by unfold prevS; rw [if_neg (by omega)]; exact EX.out
       have CE := h_ (CW.out.trans C9.out)
       refine ⟨⟨k + 1, by omega, by simp, CE.out, ?_, ?_⟩, by simp [RowKit.intOf]; omega⟩
       ·
        rw [HOK.out]; simp [e1]
       ·
        rw [e1]; rintro y ⟨⟩; exact HFN.out
      case AF =>
       rw [hA] at LA HOK
       clear hA
       refine wp_region_held_drew (S := fun w' => Chg [] w2 w') (by kernel_rfl) (Chg.refl [] w2).drew (fun hHeld => ?_)
       refine step_yes 0 15 ?_ (by assumption) rfl rfl (by kernel_rfl) (by kernel_rfl) (by kernel_rfl) (fun _ _ _ h => h) (by rfl) ?_ ?_
       rotate_left
       ·
        (intro w hSw; (try dsimp only at hSw); have hq := HC0.out _ hSw; obtain ⟨q0, q1, q2⟩ := hq; go_simp; try with_reducible rfl)
       try simp only [Act.put, sA, s0, s1]
       refine on1 1 rfl (fun K hK => ?_)
       go_simp
       refine (LS.out _).mono ?_
       rintro e w9 ⟨rfl, hc⟩
       have C9 := h_ (hHeld.trans hc)
       clear hc hHeld
       refine hK.out _ _ C9.out (fun hHeld => ?_)
       clear hK K; try simp only [Act.put, sA, s0, s1]
       refine step_yes 2 17 ?_ (by assumption) rfl rfl (by kernel_rfl) (by kernel_rfl) (by kernel_rfl) (fun _ _ _ h => h) (by rfl) ?_ ?_
       rotate_left
       ·
        (intro w hSw; (try dsimp only at hSw); go_simp; try with_reducible rfl)
       try simp only [Act.put, sA, s0, s1]
       refine step_yes 3 18 ?_ (by assumption) rfl rfl (by kernel_rfl) (by kernel_rfl) (by kernel_rfl) (fun _ _ _ h => h) (by rfl) ?_ ?_
       rotate_left
       ·
        (intro w hSw; (try dsimp only at hSw); go_simp; try with_reducible rfl)
       try simp only [Act.put, sA, s0, s1]
       refine step_yes 4 19 ?_ (by assumption) rfl rfl (by kernel_rfl) (by kernel_rfl) (by kernel_rfl) (fun _ _ _ h => h) (by rfl) ?_ ?_
       rotate_left
       ·
        (intro w hSw; (try dsimp only at hSw); go_simp; try with_reducible rfl)
       try simp only [Act.put, sA, s0, s1]
       refine step_yes 5 20 ?_ (by assumption) rfl rfl (by kernel_rfl) (by kernel_rfl) (by kernel_rfl) (fun _ _ _ h => h) (by rfl) ?_ ?_
       rotate_left
       ·
        (intro w hSw; (try dsimp only at hSw); go_simp; try with_reducible rfl)
       try simp only [Act.put, sA, s0, s1]
       refine step_yes 6 21 ?_ (by assumption) rfl rfl (by kernel_rfl) (by kernel_rfl) (by kernel_rfl) (fun _ _ _ h => h) (by rfl) ?_ ?_
       rotate_left
       ·
        (intro w hSw; (try dsimp only at hSw); go_simp; try with_reducible rfl)
       try simp only [Act.put, sA, s0, s1]
       refine step_yes 7 22 ?_ (by assumption) rfl rfl (by kernel_rfl) (by kernel_rfl) (by kernel_rfl) (fun _ _ _ h => h) (by rfl) ?_ ?_
       rotate_left
       ·
        (intro w hSw; (try dsimp only at hSw); go_simp; try with_reducible rfl)
       try simp only [Act.put, sA, s0, s1]
       refine step_yes 8 23 ?_ (by assumption) rfl rfl (by kernel_rfl) (by kernel_rfl) (by kernel_rfl) (fun _ _ _ h => h) (by rfl) ?_ ?_
       rotate_left
       ·
        (intro w hSw; (try dsimp only at hSw); go_simp; try with_reducible rfl)
       try simp only [Act.put, sA, s0, s1]
       refine step_yes 9 24 ?_ (by assumption) rfl rfl (by kernel_rfl) (by kernel_rfl) (by kernel_rfl) (fun _ _ _ h => h) (by rfl) ?_ ?_
       rotate_left
       ·
        (intro w hSw; (try dsimp only at hSw); go_simp; try with_reducible rfl)
       try simp only [Act.put, sA, s0, s1]
       refine step_yes 10 25 ?_ (by assumption) rfl rfl (by kernel_rfl) (by kernel_rfl) (by kernel_rfl) (fun _ _ _ h => h) (by rfl) ?_ ?_
       rotate_left
       ·
        (intro w hSw; (try dsimp only at hSw); go_simp; try with_reducible rfl)
       try simp only [Act.put, sA, s0, s1]
       refine step_yes 11 26 ?_ (by assumption) rfl rfl (by kernel_rfl) (by kernel_rfl) (by kernel_rfl) (fun _ _ _ h => h) (by rfl) ?_ ?_
       rotate_left
       ·
        (intro w hSw; (try dsimp only at hSw); have hq := HY0.out _ hSw; obtain ⟨q0, q1, q2⟩ := hq; go_simp; try with_reducible rfl)
       try simp only [Act.put, sA, s0, s1]
       refine step_yes 12 27 ?_ (by assumption) rfl rfl (by kernel_rfl) (by kernel_rfl) (by kernel_rfl) (fun _ _ _ h => h) (by rfl) ?_ ?_
       rotate_left
       ·
        (intro w hSw; (try dsimp only at hSw); have hq := HC0.out _ hSw; obtain ⟨q0, q1, q2⟩ := hq; go_simp; try with_reducible rfl)
       try simp only [Act.put, sA, s0, s1]
       refine on1 13 rfl (fun K hK => ?_)
       go_simp
       refine (LA.out _).mono ?_
       rintro e v9 ⟨rfl, hc⟩
       have D9 := h_ (C9.out.trans hc)
       clear hc C9; have C9 := D9; clear D9
       refine hK.out _ _ C9.out (fun hHeld => ?_)
       clear hK K; try simp only [Act.put, sA, s0, s1]
       refine step_yes 14 29 ?_ (by assumption) rfl rfl (by kernel_rfl) (by kernel_rfl) (by kernel_rfl) (fun _ _ _ h => h) (by rfl) ?_ ?_
       rotate_left
       ·
        (intro w hSw; (try dsimp only at hSw); go_simp; try with_reducible rfl)
       try simp only [Act.put, sA, s0, s1]
       refine step_yes 15 30 ?_ (by assumption) rfl rfl (by kernel_rfl) (by kernel_rfl) (by kernel_rfl) (fun _ _ _ h => h) (by rfl) ?_ ?_
       rotate_left
       ·
        (intro w hSw; (try dsimp only at hSw); go_simp; try with_reducible rfl)
       try simp only [Act.put, sA, s0, s1]
       refine step_yes 16 31 ?_ (by assumption) rfl rfl (by kernel_rfl) (by kernel_rfl) (by kernel_rfl) (fun _ _ _ h => h) (by rfl) ?_ ?_
       rotate_left
       ·
        (intro w hSw; (try dsimp only at hSw); go_simp; try with_reducible rfl)
       try simp only [Act.put, sA, s0, s1]
       have hv2 : ¬ okFrom none xs = true := by rw [HOK.out]; simp
       have HV2 : V = 2 := HV.out.trans (if_neg hv2)
       subst HV2; clear hv2; refine wpAnyH_done (by kernel_rfl) ?_ _
       have CE := h_ (CW.out.trans C9.out)
       go_wp2; go_ret
       exact ⟨rfl, CE.out⟩
    ·
     have hd : decide (FineS x.1 x.2.1 x.2.2) = false := decide_eq_false hf
     rw [hd] at LS HOK
     clear hd hf
     refine wp_region_held_drew (S := fun w' => Chg [] w2 w') (by kernel_rfl) (Chg.refl [] w2).drew (fun hHeld => ?_)
     refine step_yes 0 15 ?_ (by assumption) rfl rfl (by kernel_rfl) (by kernel_rfl) (by kernel_rfl) (fun _ _ _ h => h) (by rfl) ?_ ?_
     rotate_left
     ·
      (intro w hSw; (try dsimp only at hSw); have hq := HC0.out _ hSw; obtain ⟨q0, q1, q2⟩ := hq; go_simp; try with_reducible rfl)
     try simp only [Act.put, sA, s0, s1]
     refine on1 1 rfl (fun K hK => ?_)
     go_simp
     refine (LS.out _).mono ?_
     rintro e w9 ⟨rfl, hc⟩
     have C9 := h_ (hHeld.trans hc)
     clear hc hHeld
     refine hK.out _ _ C9.out (fun hHeld => ?_)
     clear hK K; try simp only [Act.put, sA, s0, s1]
     refine step_yes 2 17 ?_ (by assumption) rfl rfl (by kernel_rfl) (by kernel_rfl) (by kernel_rfl) (fun _ _ _ h => h) (by rfl) ?_ ?_
     rotate_left
     ·
      (intro w hSw; (try dsimp only at hSw); go_simp; try with_reducible rfl)
     try simp only [Act.put, sA, s0, s1]
     refine step_yes 3 18 ?_ (by assumption) rfl rfl (by kernel_rfl) (by kernel_rfl) (by kernel_rfl) (fun _ _ _ h => h) (by rfl) ?_ ?_
     rotate_left
     ·
      (intro w hSw; (try dsimp only at hSw); go_simp; try with_reducible rfl)
     try simp only [Act.put, sA, s0, s1]
     refine step_no 4 19 (by assumption) rfl rfl (by kernel_rfl) (by kernel_rfl) (by kernel_rfl) (fun _ _ _ h => h) (by rfl) ?_
     try simp only [Act.put, sA, s0, s1]
     refine step_no 5 20 (by assumption) rfl rfl (by kernel_rfl) (by kernel_rfl) (by kernel_rfl) (fun _ _ _ h => h) (by rfl) ?_
     try simp only [Act.put, sA, s0, s1]
     refine step_no 6 21 (by assumption) rfl rfl (by kernel_rfl) (by kernel_rfl) (by kernel_rfl) (fun _ _ _ h => h) (by rfl) ?_
     try simp only [Act.put, sA, s0, s1]
     refine step_no 7 22 (by assumption) rfl rfl (by kernel_rfl) (by kernel_rfl) (by kernel_rfl) (fun _ _ _ h => h) (by rfl) ?_
     try simp only [Act.put, sA, s0, s1]
     refine step_no 8 23 (by assumption) rfl rfl (by kernel_rfl) (by kernel_rfl) (by kernel_rfl) (fun _ _ _ h => h) (by rfl) ?_
     try simp only [Act.put, sA, s0, s1]
     refine step_no 9 24 (by assumption) rfl rfl (by kernel_rfl) (by kernel_rfl) (by kernel_rfl) (fun _ _ _ h => h) (by rfl) ?_
     try simp only [Act.put, sA, s0, s1]
     refine step_no 10 25 (by assumption) rfl rfl (by kernel_rfl) (by kernel_rfl) (by kernel_rfl) (fun _ _ _ h => h) (by rfl) ?_
     try simp only [Act.put, sA, s0, s1]
     refine step_no 11 26 (by assumption) rfl rfl (by kernel_rfl) (by kernel_rfl) (by kernel_rfl) (fun _ _ _ h => h) (by rfl) ?_
     try simp only [Act.put, sA, s0, s1]
     refine step_no 12 27 (by assumption) rfl rfl (by kernel_rfl) (by kernel_rfl) (by kernel_rfl) (fun _ _ _ h => h) (by rfl) ?_
     try simp only [Act.put, sA, s0, s1]
     refine step_no 13 28 (by assumption) rfl rfl (by kernel_rfl) (by kernel_rfl) (by kernel_rfl) (fun _ _ _ h => h) (by rfl) ?_
     try simp only [Act.put, sA, s0, s1]
     refine step_no 14 29 (by assumption) rfl rfl (by kernel_rfl) (by kernel_rfl) (by kernel_rfl) (fun _ _ _ h => h) (by rfl) ?_
     try simp only [Act.put, sA, s0, s1]
     refine step_no 15 30 (by assumption) rfl rfl (by kernel_rfl) (by kernel_rfl) (by kernel_rfl) (fun _ _ _ h => h) (by rfl) ?_
     try simp only [Act.put, sA, s0, s1]
     refine step_yes 16 31 ?_ (by assumption) rfl rfl (by kernel_rfl) (by kernel_rfl) (by kernel_rfl) (fun _ _ _ h => h) (by rfl) ?_ ?_
     rotate_left
     ·
      (intro w hSw; (try dsimp only at hSw); go_simp; try with_reducible rfl)
     try simp only [Act.put, sA, s0, s1]
     have hv2 : ¬ okFrom none xs = true := by rw [HOK.out]; simp
     have HV2 : V = 2 := HV.out.trans (if_neg hv2)
     subst HV2; clear hv2; refine wpAnyH_done (by kernel_rfl) ?_ _
     have CE := h_ (CW.out.trans C9.out)
     go_wp2; go_ret
     exact ⟨rfl, CE.out⟩
   ·
    obtain rfl : k = xs.length := by omega
    have hv := HI.out.2.1
    rw [List.drop_length] at hv
    have hv2 : okFrom none xs = true := by rw [hv]; cases prevS xs xs.length <;> rfl
    have HV2 : V = 0 := HV.out.trans (if_pos hv2)
    subst HV2; clear hv hv2; go_wp2; go_ret
    exact ⟨rfl, HI.out.1⟩
end
section
open Go.RowKit Go.Lib

theorem bounded_few (w : World) (A : Option Addr) (n c : Nat) (h : n ≤ 4000) :
  Calls Tryz.prog 213 #[.slice A n c] w fun e w' => e = .returned (.tuple #[.slice A n c, .int .i64 0]) ∧ Chg [] w w' := by
 go_enter Tryz.func213, Tryz.ntmps213
 go_wp2; go_ret2
 exact ⟨rfl, Chg.refl _ _⟩
theorem bounded_many (w : World) (A : Option Addr) (n c : Nat) (h : 4000 < n) :
  Calls Tryz.prog 213 #[.slice A n c] w fun e w' => e = .returned (.tuple #[.slice none 0 0, .int .i64 8]) ∧ Chg [] w w' := by
 go_enter Tryz.func213, Tryz.ntmps213
 go_wp2; go_ret2
 exact ⟨rfl, Chg.refl _ _⟩
theorem alone_any (w : World) (n s : Int) : Calls Tryz.prog 167 #[.agg #[.int .i64 n, .int .i64 s]] w fun e w' => e = .returned (.agg #[.int .i64 n, .int .i64 s, .int .i64 s]) ∧ Chg [] w w' := by
 go_enter Tryz.func167, Tryz.ntmps167
 go_wp2
 refine bodyPost_ret (v := .agg #[.int .i64 n, .int .i64 s, .int .i64 s]) (by simp [results, Tryz.results167, go_sem]) rfl ?_
 exact ⟨rfl, ((Chg.refl [] w).alloc _).alloc _⟩
end
section
open Go.RowKit Go.Lib


theorem rd_oneS {w : World} {g : Nat} {x : Int × Int × Int} (h : w.heap[g]? = some (.cells #[.int .i64 x.1, .int .i64 x.2.1, .int .i64 x.2.2] 81)) : RdK spanTy w (some ⟨g, 0, none⟩) 1 [x] :=
 ⟨rfl, fun j v hj => ⟨_, rfl, by rw [add_zero_lit, cell_of h j]; simpa [RowTy.flat, spanTy] using hj⟩⟩

set_option maxRecDepth 100000 in
theorem push_first (w : World) (c : Nat) (n f t : Int) (A : Option Addr) (h : OwnK spanTy w A c []) : Calls Tryz.prog 212 #[.slice A 0 c, .agg #[.int .i64 n, .int .i64 f, .int .i64 t]] w fun e w' => ∃ A' c', e = .returned (.slice A' 1 c') ∧ OwnK spanTy w' A' c' [(n, f, t)] ∧ (A' = A ∨ ∀ a, A' = some a → w.heap.size ≤ a.block) ∧ ∀ S : List Nat, (∀ a, A = some a → a.block ∈ S) → Chg S w w' := by
 have HO := h_ h
 clear h
 have C := h_ (Chg.refl [] w)
 obtain ⟨w1, hw1, cw1, b_B0⟩ := news1 w (.cells #[.int .i64 n, .int .i64 f, .int .i64 t] 81)
 have Ww1 := h_ hw1
 have l_B0 := lt_of_heap b_B0
 replace C := h_ (C.out.trans cw1)
 replace HO := h_ (HO.out.chg cw1 (by simp))
 have B0 := h_ (b_B0)
 clear hw1 cw1 b_B0
 go_enter Tryz.func212, Tryz.ntmps212
 go_upto_region 6 with fail
 rw [← Ww1.out]
 generalize w.heap.size = b0 at *
 clear Ww1
 obtain ⟨w2, hw2, c2, b1⟩ := news1 w1 (.cells #[.int .i64 n, .int .i64 f, .int .i64 t] 81)
 have W2 := h_ hw2
 have HR := h_ (rd_oneS (x := (n, f, t)) b1)
 have HO2 := h_ (HO.out.chg c2 (by simp))
 have C2 := h_ (C.out.trans c2)
 clear hw2 c2 b1
 obtain ⟨z_B0_0, z_B0_1, z_B0_2⟩ := ce3 B0.out
 go_wp2_with (at_builtin; rw [← W2.out]; refine wpList_appK rfl _ _ rfl rfl HO2.out rfl rfl HR.out (by decide) ?_; intro A3 c3 w3 u3 d3 e3)
 go_ret
 refine ⟨A3, c3, rfl, by simpa using u3, ?_, fun S hS => ?_⟩
 ·
  rcases e3 with e | e
  ·
   exact .inl e
  ·
   right; intro a ha; rw [e] at ha; cases ha; exact C2.out.size
 ·
  refine (C2.out.mono (by simp)).grown d3 ?_
  intro k hk
  cases A with
  | none => simp at hk
  | some a => simp at hk; subst hk; exact .inl (hS a rfl)
end
section
open Go.RowKit Go.Lib



set_option maxRecDepth 100000 in
theorem push_apart (w : World) (c : Nat) (n f t : Int) (A : Option Addr) (xs : List (Int × Int × Int)) (y : Int × Int × Int) (h : OwnK spanTy w A c xs) (hx : 0 < xs.length) (hn : xs.length ≤ 100000) (hy : xs[xs.length - 1]? = some y) (y1 : -2147483648 ≤ y.2.2) (y2 : y.2.2 ≤ 2147483647) (ha : ApartS y.1 y.2.2 n f) : Calls Tryz.prog 212 #[.slice A xs.length c, .agg #[.int .i64 n, .int .i64 f, .int .i64 t]] w fun e w' => ∃ A' c', e = .returned (.slice A' (xs.length + 1) c') ∧ OwnK spanTy w' A' c' (xs ++ [(n, f, t)]) ∧ (A' = A ∨ ∀ a, A' = some a → w.heap.size ≤ a.block) ∧ ∀ S : List Nat, (∀ a, A = some a → a.block ∈ S) → Chg S w w' := by
 have HO := h_ h
 obtain ⟨g, o, eA, _⟩ := h.reads.line hx
 have eo : o = 0 := by
  rcases h.shape with ⟨h1, _⟩ | ⟨g', h1, _⟩
  ·
   rw [h1] at eA; cases eA
  ·
   rw [h1] at eA; cases eA; rfl
 subst eo; subst eA
 have EY := h_ hy
 clear h hy
 have C := h_ (Chg.refl [] w)
 have hA : decide (ApartS y.1 y.2.2 n f) = true := decide_eq_true ha
 have LA := h_ (fun w => apart_any w y.1 y.2.1 y.2.2 n f t y1 y2)
 rw [hA] at LA
 clear hA ha
 have k1 : (0 : Int) < (xs.length : Int) := by omega
 have k2 : ((xs.length : Int) - 1) = ((xs.length - 1 : Nat) : Int) := by omega
 have k3 : ((xs.length - 1 : Nat) : Int) < (xs.length : Int) := by omega
 have k4 : (0 : Int) ≤ ((xs.length - 1 : Nat) : Int) := by omega
 have k5 : IntKind.i64.wrap ((xs.length - 1 : Nat) : Int) = ((xs.length - 1 : Nat) : Int) := IntWalk.i64_in _ (by omega)
 have k6 : decide (0 < xs.length) = true := by simp; omega
 have k7 : decide ((0 : Int) < (xs.length : Int)) = true := by simp; omega
 have N4 := h_ (show (xs.length + 1) * 400 ≤ 140737488355327 by omega)
 obtain ⟨w1, hw1, cw1, b_B0⟩ := news1 w (.cells #[.int .i64 n, .int .i64 f, .int .i64 t] 81)
 have Ww1 := h_ hw1
 have l_B0 := lt_of_heap b_B0
 replace C := h_ (C.out.trans cw1)
 replace HO := h_ (HO.out.chg cw1 (by simp))
 have B0 := h_ (b_B0)
 clear hw1 cw1 b_B0
 go_enter Tryz.func212, Tryz.ntmps212
 go_upto_region 3 with fail
 rw [← Ww1.out]
 generalize w.heap.size = b0 at *
 clear Ww1
 have HY0 := h_ (fun (w' : World) (hc : Chg [] w1 w') => spanCells (HO.out.reads.chg hc (by simp)) EY.out)
 have hc0 : ∀ w', Chg [] w1 w' → w'.cell? ⟨b0, 0, none⟩ = some (.int .i64 n) ∧ w'.cell? ⟨b0, 1, none⟩ = some (.int .i64 f) ∧ w'.cell? ⟨b0, 2, none⟩ = some (.int .i64 t) := by
  intro w' hc
  have b1 := hc.at_ B0.out (by simp)
  exact ⟨cell_of b1 0, cell_of b1 1, cell_of b1 2⟩
 have HC0 := h_ hc0
 clear hc0
 refine wp_region_held_drew (S := fun w' => Chg [] w1 w') (by kernel_rfl) (Chg.refl [] w1).drew (fun hHeld => ?_)
 refine step_yes 0 14 ?_ (by assumption) rfl rfl (by kernel_rfl) (by kernel_rfl) (by kernel_rfl) (fun _ _ _ h => h) (by rfl) ?_ ?_
 rotate_left
 ·
  (intro w hSw; (try dsimp only at hSw); go_simp; try with_reducible rfl)
 try simp only [Act.put, sA, s0, s1]
 refine step_yes 1 15 ?_ (by assumption) rfl rfl (by kernel_rfl) (by kernel_rfl) (by kernel_rfl) (fun _ _ _ h => h) (by rfl) ?_ ?_
 rotate_left
 ·
  (intro w hSw; (try dsimp only at hSw); go_simp; try with_reducible rfl)
 try simp only [Act.put, sA, s0, s1]
 refine step_yes 2 16 ?_ (by assumption) rfl rfl (by kernel_rfl) (by kernel_rfl) (by kernel_rfl) (fun _ _ _ h => h) (by rfl) ?_ ?_
 rotate_left
 ·
  (intro w hSw; (try dsimp only at hSw); have hq := HY0.out _ hSw; obtain ⟨q0, q1, q2⟩ := hq; simp only [Nat.zero_add] at q0 q1 q2; go_simp; try with_reducible rfl)
 try simp only [Act.put, sA, s0, s1]
 refine step_yes 3 17 ?_ (by assumption) rfl rfl (by kernel_rfl) (by kernel_rfl) (by kernel_rfl) (fun _ _ _ h => h) (by rfl) ?_ ?_
 rotate_left
 ·
  (intro w hSw; (try dsimp only at hSw); have hq := HC0.out _ hSw; obtain ⟨q0, q1, q2⟩ := hq; go_simp; try with_reducible rfl)
 try simp only [Act.put, sA, s0, s1]
 refine on1 4 rfl (fun K hK => ?_)
 go_simp
 refine (LA.out _).mono ?_
 rintro e w9 ⟨rfl, hc⟩
 have C9 := h_ (hHeld.trans hc)
 clear hc hHeld
 refine hK.out _ _ C9.out (fun hHeld => ?_)
 clear hK K; try simp only [Act.put, sA, s0, s1]
 refine step_yes 5 19 ?_ (by assumption) rfl rfl (by kernel_rfl) (by kernel_rfl) (by kernel_rfl) (fun _ _ _ h => h) (by rfl) ?_ ?_
 rotate_left
 ·
  (intro w hSw; (try dsimp only at hSw); go_simp; try with_reducible rfl)
 try simp only [Act.put, sA, s0, s1]
 refine wpAnyH_done (by kernel_rfl) ?_ _
 replace B0 := h_ (C9.out.at_ B0.out (by simp))
 replace HO := h_ (HO.out.chg C9.out (by simp))
 replace C := h_ (C.out.trans C9.out)
 clear HY0 HC0 C9 hHeld
 go_upto_region 6 with fail
 obtain ⟨w2, hw2, c2, b1⟩ := news1 w9 (.cells #[.int .i64 n, .int .i64 f, .int .i64 t] 81)
 have W2 := h_ hw2
 have HR := h_ (rd_oneS (x := (n, f, t)) b1)
 have HO2 := h_ (HO.out.chg c2 (by simp))
 have C2 := h_ (C.out.trans c2)
 clear hw2 c2 b1
 obtain ⟨z_B0_0, z_B0_1, z_B0_2⟩ := ce3 B0.out
 go_wp2_with (at_builtin; rw [← W2.out]; refine wpList_appK rfl _ _ rfl rfl HO2.out rfl rfl HR.out N4.out ?_; intro A3 c3 w3 u3 d3 e3)
 go_ret
 refine ⟨A3, c3, rfl, u3, ?_, fun S hS => ?_⟩
 ·
  rcases e3 with e | e
  ·
   exact .inl e
  ·
   right; intro a ha; rw [e] at ha; cases ha; exact C2.out.size
 ·
  refine (C2.out.mono (by simp)).grown d3 ?_
  intro k hk
  simp at hk; subst hk; exact .inl (hS _ rfl)
end
section
variable {α : Type} {R : RowTy α}
theorem flat_set (full : List α) (j i : Nat) (x x' : α) (v : Value) (hx : full[j]? = some x) (hi : i < R.k) (he : ∀ q, q < R.k → (R.enc x')[q]? = if q = i then some v else (R.enc x)[q]?) :
  (R.flat full).set (j * R.k + i) v = R.flat (full.set j x') := by
 have hj := (List.getElem?_eq_some_iff.1 hx).1
 have hb : j * R.k + i < full.length * R.k := by
  have : (j + 1) * R.k ≤ full.length * R.k := Nat.mul_le_mul_right _ hj
  rw [Nat.add_mul, Nat.one_mul] at this
  omega
 refine R.flat_ext _ _ (by rw [List.length_set, R.flat_len, List.length_set]) (fun q p y hy hp => ?_)
 rw [List.getElem?_set] at hy
 rw [List.getElem?_set, R.flat_len]
 by_cases e : j = q
 ·
  subst e
  rw [if_pos rfl, if_pos hj] at hy
  cases hy
  rw [he p hp]
  by_cases e2 : p = i
  ·
   subst e2
   rw [if_pos rfl, if_pos hb, if_pos rfl]
  ·
   rw [if_neg (by omega), if_neg e2, R.flat_at full j p x hx hp]
 ·
  rw [if_neg e] at hy
  rw [if_neg, R.flat_at full q p y hy hp]
  intro e3
  rcases Nat.lt_or_gt_of_ne e with h | h
  ·
   have : (j + 1) * R.k ≤ q * R.k := Nat.mul_le_mul_right _ h
   rw [Nat.add_mul, Nat.one_mul] at this
   omega
  ·
   have : (q + 1) * R.k ≤ j * R.k := Nat.mul_le_mul_right _ h
   rw [Nat.add_mul, Nat.one_mul] at this
   omega
theorem OwnK.setc {w : World} {g c : Nat} {xs : List α} (h : OwnK R w (some ⟨g, 0, none⟩) c xs) (j i : Nat) (x x' : α) (v : Value) (hx : xs[j]? = some x) (hi : i < R.k) (he : ∀ q, q < R.k → (R.enc x')[q]? = if q = i then some v else (R.enc x)[q]?) :
  OwnK R (w.setCell ⟨g, j * R.k + i, none⟩ v) (some ⟨g, 0, none⟩) c (xs.set j x') := by
 have hj := (List.getElem?_eq_some_iff.1 hx).1
 rcases h with ⟨h, _⟩ | ⟨g', full, e, hg, h1, h2, h3, h4⟩
 ·
  cases h
 ·
  cases e
  have hx' : full[j]? = some x := by
   rw [← h4, List.getElem?_take, if_pos hj] at hx
   exact hx
  refine OwnK.of (full := full.set j x') ?_ (by simpa using h3) h2 (by simpa using h1) ?_
  ·
   have := heap_setCell_same w g (j * R.k + i) _ _ v hg
   rw [this, List.setIfInBounds_toArray, flat_set full j i x x' v hx' hi he]
  ·
   rw [List.length_set, List.take_set, h4]
end
end Go.Proofs.YtehmchdhlhchjaaGreatDoor
