/- Package dot: Sort: a copy, the library's sort, what is told twice left out. -/
import Derived.Test.YtmcnfopiilplnaaDoorDots
import Derived.Test.YtmcnfopiilplnaaDoorRowSort
import Derived.Test.YtmcnfopiilplnaaDoorShelf
import Derived.Test.YtmcnfopiilplnaaDoorDless
namespace Go.Proofs.YtmcnfopiilplnaaDoor
open Go.RowKit Go.Sort
set_option linter.unusedSimpArgs false
set_option linter.unusedVariables false

set_option maxHeartbeats 1000000 in
/-- compare, and the world behind it: new blocks, draws. -/
theorem dcompare_grow (w : World) (x y : Int × Int) :
    Calls Tryd.prog 36 #[.agg #[.int .i64 x.1, .int .i64 x.2], .agg #[.int .i64 y.1, .int .i64 y.2]] w fun e w' => e = .returned (.int .i64 (cmpD x.1 x.2 y.1 y.2)) ∧ ∃ q os, w' = grow (w.drewN q) os := by
  obtain ⟨a, s⟩ := x
  obtain ⟨b, t⟩ := y
  simp only
  obtain ⟨w0, hw0, c0, b0, b1⟩ := news2 w (.cells #[.int .i64 a, .int .i64 s] 23) (.cells #[.int .i64 b, .int .i64 t] 23)
  have k0 := cell_of b0 0
  have k1 := cell_of b0 1
  have k3 := cell_of b1 0
  have k4 := cell_of b1 1
  simp only [List.getElem?_toArray, List.getElem?_cons_succ, List.getElem?_cons_zero] at k0 k1 k3 k4
  have g0 := lt_of_heap b0
  have g1 := lt_of_heap b1
  have W0 := Lib.hid hw0
  have hgr : ∀ o, ∃ q os, (w0.alloc o).drew = grow (w.drewN q) os := fun o => by
    rw [hw0]
    exact ⟨1, #[(.cells #[.int .i64 a, .int .i64 s] 23), (.cells #[.int .i64 b, .int .i64 t] 23), o], by rw [alloc_eq_grow, alloc_eq_grow, alloc_eq_grow, grow_grow, grow_grow]; rfl⟩
  have GR := Lib.hid hgr
  clear hw0 c0 b0 b1 hgr
  unfold cmpD
  generalize hr : or2 (cmpI a b) (cmpI s t) = R
  have HR := Lib.hid hr
  clear hr
  go_enter Tryd.func36, Tryd.ntmps36
  go_wp2
  rw [← W0.out]
  have n1 := World.new_ne w0 ⟨w.heap.size, 0, none⟩ k0
  have n2 := World.new_ne w0 ⟨w.heap.size + 1, 0, none⟩ k3
  generalize w.heap.size + 1 = s1 at *
  generalize w.heap.size = s0 at *
  go_region_held3 (fun w' => w'.cell? ⟨s0, 0, none⟩ = some (.int .i64 a) ∧ w'.cell? ⟨s0, 1, none⟩ = some (.int .i64 s) ∧ w'.cell? ⟨s1, 0, none⟩ = some (.int .i64 b) ∧ w'.cell? ⟨s1, 1, none⟩ = some (.int .i64 t)) (first | exact ⟨k0, k1, k3, k4⟩ | go_keep)
    ((first
      | (go_at_call 47; (with_reducible refine (cmpint_any _ _ _).mono ?_); rintro e w1 ⟨rfl, rfl⟩)
      | (go_at_call 46; refine (or2_any _ w0.heap.size (cmpI a b) (cmpI s t) (show (w0.alloc _).drew.heap[_]? = _ from heap_alloc_new w0 _)).mono ?_; rintro e w1 ⟨rfl, rfl⟩)))
  all_goals
    go_wp2
    go_ret
    exact ⟨by first | rfl | (rw [← HR.out]; rfl), GR.out _⟩
def cmpDD (x y : Int × Int) : Int := cmpD x.1 x.2 y.1 y.2
theorem ltDD (x y : Int × Int) : ltOf cmpDD x y = decide (LtD x.1 x.2 y.1 y.2) := by
  unfold ltOf cmpDD
  exact decide_eq_decide.2 cmpD_lt
theorem swoD : SWO (ltOf cmpDD) where
  irrefl x := by rw [ltDD]; simp [LtD]
  trans x y z h1 h2 := by
    rw [ltDD, decide_eq_true_eq] at *
    unfold LtD at *
    omega
  ntrans x y z h1 h2 := by
    rw [ltDD, decide_eq_false_iff_not] at *
    unfold LtD at *
    omega
theorem totalD (x y : Int × Int) (h1 : ltOf cmpDD x y = false) (h2 : ltOf cmpDD y x = false) : x = y := by
  rw [ltDD, decide_eq_false_iff_not] at h1 h2
  unfold LtD at h1 h2
  refine Prod.ext ?_ ?_ <;> omega
/-- In order. -/
def sortL (xs : List (Int × Int)) : List (Int × Int) := xs.mergeSort fun x y => !(ltOf cmpDD) y x
theorem sortL_len (xs : List (Int × Int)) : (sortL xs).length = xs.length := List.length_mergeSort _
set_option maxHeartbeats 1000000 in
theorem sortfunc_some (w : World) (g c : Nat) (xs : List (Int × Int)) (h : OwnK dotTy w (some ⟨g, 0, none⟩) c xs) (hm : xs.length < 4611686018427387904) :
    Calls Tryd.prog 35 #[.slice (some ⟨g, 0, none⟩) xs.length c, .func (.func 36) #[] #[]] w fun e w' => e = .returned (.tuple #[]) ∧ OwnK dotTy w' (some ⟨g, 0, none⟩) c (sortL xs) ∧ Chg [g] w w' := by
  have hblk : g < w.heap.size := by
    rcases h.shape with ⟨h, _⟩ | ⟨g', h, hl⟩
    · cases h
    · cases h; exact hl
  have eg : ∀ args w, (callFunc 36 args).run Tryd.prog w = .ok (.enter 36 args) w := enters_of Tryd.func36 (by kernel_rfl) rfl
  have hcmp : CmpLays Tryd.prog 36 #[] dotTy.enc dotTy.k cmpDD g 0 xs.toArray.size w := fun m os dk _ x y => by
    have := dcompare_grow (sortWorldK dotTy.enc dotTy.k w g 0 m dk os) x y
    exact this
  have hcon := AnyQ.slices_SortFunc_total Tryd.llLaysF06 2 Tryd.isAgg23 Tryd.sizeOf23 dotTy.enc dotTy.klen dotTy.one cmpDD swoD 36 #[] g 0 c xs.toArray w eg hcmp h.holds hblk (by simpa using hm) totalD
  refine Calls.mono hcon ?_
  rintro e w' ⟨he, n, os, hw⟩
  refine ⟨he, ?_⟩
  rw [hw]
  exact h.sorted (ys := sortL xs) (sortL_len xs) n os
end Go.Proofs.YtmcnfopiilplnaaDoor
