/- The document's Check of a past. The document's Has, Count, Last. The document's ahead. The document's Check of a dot, as the past sees it. What is joined, and left: plain functions. No function of the program is named here. past.bounded, past.alone. past.push. past.push behind a span. past.push onto the last span. -/
import Derived.Test.YtomgjogkkoigbaaGreatDoorZsoc
import Derived.Deep.Cut
import Derived.Deep.QuietTactic
import Derived.BigQuiet
import Derived.Test.YtomgjogkkoigbaaGreatDoorZsoj
import Derived.Test.YtomgjogkkoigbaaGreatDoorZsod
import Derived.RegionTactic
import Derived.Deep.RegionHeld3
set_option linter.unusedSimpArgs false
set_option linter.unusedVariables false
namespace Go.Proofs.YtomgjogkkoigbaaGreatDoor
section
open Go.RowKit Go.Lib


def lastM (node : Int) (xs : List Sp) : Int := xs.foldl (fun n x => if x.1 = node then max n x.2.2 else n) 0
theorem lastM_take {node : Int} {xs : List Sp} {k : Nat} {x : Sp} (hx : xs[k]? = some x) : lastM node (xs.take (k + 1)) = if x.1 = node then max (lastM node (xs.take k)) x.2.2 else lastM node (xs.take k) := by
 rw [List.take_add_one, hx]; simp [lastM]
theorem last_same (node : Int) : ∀ (k : Nat) (xs : List Sp), WfC xs → lastM node (xs.take k) = lastL node (xs.take k) ∧ (lastL node (xs.take k) = 0 ∨ ∃ y ∈ xs.take k, y.1 = node ∧ y.2.2 = lastL node (xs.take k))
 | 0, xs, _ => by simp [lastM, lastL]
 | k + 1, xs, h => by
  obtain ⟨a, b⟩ := last_same node k xs h
  by_cases hk : k < xs.length
  ·
   have hx := List.getElem?_eq_getElem hk
   have e1 : lastL node (xs.take (k + 1)) = if xs[k].1 = node then xs[k].2.2 else lastL node (xs.take k) := by rw [List.take_add_one, hx]; exact last_snoc _ _ _
   rw [lastM_take hx, e1, a]
   have mem : ∀ y ∈ xs.take k, y ∈ xs.take (k + 1) := fun y hy => by rw [List.take_add_one]; exact List.mem_append_left _ hy
   split
   ·
    rename_i hn
    have bx := h.2 xs[k] (List.getElem_mem hk)
    have ox := h.1.1 xs[k] (List.getElem_mem hk)
    unfold SpOk at ox
    have le : lastL node (xs.take k) ≤ xs[k].2.2 := by
     rcases b with e | ⟨y, hy, hy1, hy2⟩
     ·
      rw [e]; omega
     ·
      obtain ⟨q, hq, rfl⟩ := List.getElem_of_mem hy
      rw [List.length_take] at hq
      rw [List.getElem_take] at hy1 hy2
      have hap := List.pairwise_iff_getElem.1 h.1.2 q k (by omega) hk (by omega)
      have oy := h.1.1 xs[q] (List.getElem_mem (by omega))
      rw [← hy2]
      unfold Ap SpOk at *
      omega
    exact ⟨by omega, .inr ⟨xs[k], List.mem_of_getElem? (i := k) (by rw [List.getElem?_take, if_pos (Nat.lt_succ_self k)]; exact hx), hn, rfl⟩⟩
   ·
    refine ⟨rfl, ?_⟩
    rcases b with e | ⟨y, hy, hy1, hy2⟩
    ·
     exact .inl e
    ·
     exact .inr ⟨y, mem y hy, hy1, hy2⟩
  ·
   rw [List.take_of_length_le (by omega : xs.length ≤ k + 1), ← List.take_of_length_le (by omega : xs.length ≤ k)]
   exact ⟨a, b⟩
theorem last_all (node : Int) {xs : List Sp} (h : WfC xs) : lastM node xs = lastL node xs := by
 have := (last_same node xs.length xs h).1
 rwa [List.take_length] at this
end
section
open Go.RowKit Go.Lib


def FineQ (n s : Int) : Prop := 1 ≤ n ∧ n ≤ 200 ∧ 1 ≤ s ∧ s ≤ 2147483647
instance (n s : Int) : Decidable (FineQ n s) := by unfold FineQ; exact inferInstance
end
section
def kF (x y : Bool) : Bool := x && !y
def boundP (l : List Sp) : Int × List Sp := if 4000 < l.length then (8, []) else (0, l)
def withinE (a b : List Sp) : Bool := decide (chkS a = 0 ∧ chkS b = 0) && decide (b.foldl withoutP a = [])
theorem memb_iff {l : List Sp} {n s : Int} : memb l n s = true ↔ Mem l n s := by unfold memb; simp
theorem minus_eq {a b pre : List Sp} (ha : WfC a) (hb : WfC b) (h : SwInv kF a b [] [] pre) : pre.foldl pushP [] = b.foldl withoutP a := by
 obtain ⟨c, d⟩ := h.done (by rfl)
 obtain ⟨e, f⟩ := withouts_norm (b := b) hb.1.1 ha.1
 refine norm_ext c e (fun n s => ?_)
 rw [d n s, f n s]
 unfold kF
 rw [Bool.and_eq_true, memb_iff]
 simp [memb]
end
section
open Go.RowKit Go.Lib

theorem bounded_few (w : World) (A : Option Addr) (n c : Nat) (h : n ≤ 4000) :
  Calls Tryz.prog 90 #[.slice A n c] w fun e w' => e = .returned (.tuple #[.slice A n c, .int .i64 0]) ∧ Chg [] w w' := by
 go_enter Tryz.func90, Tryz.ntmps90
 go_wp2
 go_ret2
 exact ⟨rfl, Chg.refl _ _⟩
theorem bounded_many (w : World) (A : Option Addr) (n c : Nat) (h : 4000 < n) :
  Calls Tryz.prog 90 #[.slice A n c] w fun e w' => e = .returned (.tuple #[.slice none 0 0, .int .i64 8]) ∧ Chg [] w w' := by
 go_enter Tryz.func90, Tryz.ntmps90
 go_wp2
 go_ret2
 exact ⟨rfl, Chg.refl _ _⟩
set_option maxHeartbeats 1000000 in
theorem alone_any (w : World) (n s : Int) : Calls Tryz.prog 95 #[.agg #[.int .i64 n, .int .i64 s]] w fun e w' => e = .returned (.agg #[.int .i64 n, .int .i64 s, .int .i64 s]) ∧ Chg [] w w' := by
 go_enter Tryz.func95, Tryz.ntmps95
 go_wp2
 refine bodyPost_ret (v := .agg #[.int .i64 n, .int .i64 s, .int .i64 s]) (by simp [results, Tryz.results95, go_sem]) rfl ?_
 exact ⟨rfl, ((Chg.refl [] w).alloc _).alloc _⟩
end
section
open Go.RowKit Go.Lib


theorem rd_oneS {w : World} {g : Nat} {x : Int × Int × Int} (h : w.heap[g]? = some (.cells #[.int .i64 x.1, .int .i64 x.2.1, .int .i64 x.2.2] 72)) : RdK spanTy w (some ⟨g, 0, none⟩) 1 [x] :=
 ⟨rfl, fun j v hj => ⟨_, rfl, by rw [add_zero_lit, cell_of h j]; simpa [RowTy.flat, spanTy] using hj⟩⟩

set_option maxHeartbeats 4000000 in
set_option maxRecDepth 100000 in
theorem push_first (w : World) (c : Nat) (n f t : Int) (A : Option Addr) (h : OwnK spanTy w A c []) : Calls Tryz.prog 94 #[.slice A 0 c, .agg #[.int .i64 n, .int .i64 f, .int .i64 t]] w fun e w' => ∃ A' c', e = .returned (.slice A' 1 c') ∧ OwnK spanTy w' A' c' [(n, f, t)] ∧ (A' = A ∨ ∀ a, A' = some a → w.heap.size ≤ a.block) ∧ ∀ S : List Nat, (∀ a, A = some a → a.block ∈ S) → Chg S w w' := by
 have HO := Lib.hid h
 clear h
 have C := Lib.hid (Chg.refl [] w)
 obtain ⟨w1, hw1, cw1, b_B0⟩ := news1 w (.cells #[.int .i64 n, .int .i64 f, .int .i64 t] 72)
 have Ww1 := Lib.hid hw1
 have l_B0 := lt_of_heap b_B0
 replace C := Lib.hid (C.out.trans cw1)
 replace HO := Lib.hid (HO.out.chg cw1 (by simp))
 have B0 := Lib.hid (b_B0)
 clear hw1 cw1 b_B0
 go_enter Tryz.func94, Tryz.ntmps94
 go_upto_region 6 with fail
 rw [← Ww1.out]
 generalize w.heap.size = b0 at *
 clear Ww1
 obtain ⟨w2, hw2, c2, b1⟩ := news1 w1 (.cells #[.int .i64 n, .int .i64 f, .int .i64 t] 72)
 have W2 := Lib.hid hw2
 have HR := Lib.hid (rd_oneS (x := (n, f, t)) b1)
 have HO2 := Lib.hid (HO.out.chg c2 (by simp))
 have C2 := Lib.hid (C.out.trans c2)
 clear hw2 c2 b1
 have z_B0_0 := cell_of B0.out 0
 have z_B0_1 := cell_of B0.out 1
 have z_B0_2 := cell_of B0.out 2
 simp only [List.getElem?_toArray, List.getElem?_cons_succ, List.getElem?_cons_zero] at z_B0_0 z_B0_1 z_B0_2
 go_wp2_with (at_builtin; rw [← W2.out]; refine wpList_appK rfl _ _ rfl rfl HO2.out rfl rfl HR.out (by decide) ?_; intro A3 c3 w3 u3 d3 e3)
 go_ret
 refine ⟨A3, c3, rfl, by simpa using u3, ?_, fun S hS => ?_⟩
 ·
  rcases e3 with e | e
  ·
   exact .inl e
  ·
   right; intro a ha; rw [e] at ha; cases ha; exact C2.out.size
 ·
  refine (C2.out.mono (by simp)).grown d3 ?_
  intro k hk
  cases A with
  | none => simp at hk
  | some a => simp at hk; subst hk; exact .inl (hS a rfl)
end
section
open Go.RowKit Go.Lib



set_option maxHeartbeats 4000000 in
set_option maxRecDepth 100000 in
theorem push_apart (w : World) (c : Nat) (n f t : Int) (A : Option Addr) (xs : List (Int × Int × Int)) (y : Int × Int × Int) (h : OwnK spanTy w A c xs) (hx : 0 < xs.length) (hn : xs.length ≤ 100000) (hy : xs[xs.length - 1]? = some y) (y1 : -2147483648 ≤ y.2.2) (y2 : y.2.2 ≤ 2147483647) (ha : ApartS y.1 y.2.2 n f) : Calls Tryz.prog 94 #[.slice A xs.length c, .agg #[.int .i64 n, .int .i64 f, .int .i64 t]] w fun e w' => ∃ A' c', e = .returned (.slice A' (xs.length + 1) c') ∧ OwnK spanTy w' A' c' (xs ++ [(n, f, t)]) ∧ (A' = A ∨ ∀ a, A' = some a → w.heap.size ≤ a.block) ∧ ∀ S : List Nat, (∀ a, A = some a → a.block ∈ S) → Chg S w w' := by
 have HO := Lib.hid h
 obtain ⟨g, o, eA, _⟩ := h.reads.line hx
 have eo : o = 0 := by
  rcases h.shape with ⟨h1, _⟩ | ⟨g', h1, _⟩
  ·
   rw [h1] at eA; cases eA
  ·
   rw [h1] at eA; cases eA; rfl
 subst eo
 subst eA
 have EY := Lib.hid hy
 clear h hy
 have C := Lib.hid (Chg.refl [] w)
 have hA : decide (ApartS y.1 y.2.2 n f) = true := decide_eq_true ha
 have LA := Lib.hid (fun w => apart_any w y.1 y.2.1 y.2.2 n f t y1 y2)
 rw [hA] at LA
 clear hA ha
 have k1 : (0 : Int) < (xs.length : Int) := by omega
 have k2 : ((xs.length : Int) - 1) = ((xs.length - 1 : Nat) : Int) := by omega
 have k3 : ((xs.length - 1 : Nat) : Int) < (xs.length : Int) := by omega
 have k4 : (0 : Int) ≤ ((xs.length - 1 : Nat) : Int) := by omega
 have k5 : IntKind.i64.wrap ((xs.length - 1 : Nat) : Int) = ((xs.length - 1 : Nat) : Int) := IntWalk.i64_in _ (by omega)
 have k6 : decide (0 < xs.length) = true := by simp; omega
 have k7 : decide ((0 : Int) < (xs.length : Int)) = true := by simp; omega
 have N4 := Lib.hid (show (xs.length + 1) * 400 ≤ 140737488355327 by omega)
 obtain ⟨w1, hw1, cw1, b_B0⟩ := news1 w (.cells #[.int .i64 n, .int .i64 f, .int .i64 t] 72)
 have Ww1 := Lib.hid hw1
 have l_B0 := lt_of_heap b_B0
 replace C := Lib.hid (C.out.trans cw1)
 replace HO := Lib.hid (HO.out.chg cw1 (by simp))
 have B0 := Lib.hid (b_B0)
 clear hw1 cw1 b_B0
 go_enter Tryz.func94, Tryz.ntmps94
 go_upto_region 3 with fail
 rw [← Ww1.out]
 generalize w.heap.size = b0 at *
 clear Ww1
 have HY0 := Lib.hid (fun (w' : World) (hc : Chg [] w1 w') => spanCells (HO.out.reads.chg hc (by simp)) EY.out)
 have hc0 : ∀ w', Chg [] w1 w' → w'.cell? ⟨b0, 0, none⟩ = some (.int .i64 n) ∧ w'.cell? ⟨b0, 1, none⟩ = some (.int .i64 f) ∧ w'.cell? ⟨b0, 2, none⟩ = some (.int .i64 t) := by
  intro w' hc
  have b1 := hc.at_ B0.out (by simp)
  exact ⟨cell_of b1 0, cell_of b1 1, cell_of b1 2⟩
 have HC0 := Lib.hid hc0
 clear hc0
 refine wp_region_held_drew (S := fun w' => Chg [] w1 w') (by kernel_rfl) (Chg.refl [] w1).drew (fun hHeld => ?_)
 refine step_yes 0 14 ?_ (by assumption) rfl rfl (by kernel_rfl) (by kernel_rfl) (by kernel_rfl) (fun _ _ _ h => h) (by rfl) ?_ ?_
 rotate_left
 ·
  (intro w hSw; (try dsimp only at hSw); go_simp; try with_reducible rfl)
 try simp only [Act.put, List.setIfInBounds_toArray, List.set_cons_zero, List.set_cons_succ]
 refine step_yes 1 15 ?_ (by assumption) rfl rfl (by kernel_rfl) (by kernel_rfl) (by kernel_rfl) (fun _ _ _ h => h) (by rfl) ?_ ?_
 rotate_left
 ·
  (intro w hSw; (try dsimp only at hSw); go_simp; try with_reducible rfl)
 try simp only [Act.put, List.setIfInBounds_toArray, List.set_cons_zero, List.set_cons_succ]
 refine step_yes 2 16 ?_ (by assumption) rfl rfl (by kernel_rfl) (by kernel_rfl) (by kernel_rfl) (fun _ _ _ h => h) (by rfl) ?_ ?_
 rotate_left
 ·
  (intro w hSw; (try dsimp only at hSw); have hq := HY0.out _ hSw; obtain ⟨q0, q1, q2⟩ := hq; simp only [Nat.zero_add] at q0 q1 q2; go_simp; try with_reducible rfl)
 try simp only [Act.put, List.setIfInBounds_toArray, List.set_cons_zero, List.set_cons_succ]
 refine step_yes 3 17 ?_ (by assumption) rfl rfl (by kernel_rfl) (by kernel_rfl) (by kernel_rfl) (fun _ _ _ h => h) (by rfl) ?_ ?_
 rotate_left
 ·
  (intro w hSw; (try dsimp only at hSw); have hq := HC0.out _ hSw; obtain ⟨q0, q1, q2⟩ := hq; go_simp; try with_reducible rfl)
 try simp only [Act.put, List.setIfInBounds_toArray, List.set_cons_zero, List.set_cons_succ]
 refine wpAnyH_ready (rs := [4]) (by kernel_rfl) (by simp) ?_
 refine AllReadyH.cons rfl (fun K hK => ?_) AllReadyH.nil
 replace hK := Lib.hid hK
 go_simp
 refine (LA.out _).mono ?_
 rintro e w9 ⟨rfl, hc⟩
 have C9 := Lib.hid (hHeld.trans hc)
 clear hc hHeld
 refine hK.out _ _ C9.out (fun hHeld => ?_)
 clear hK K
 try simp only [Act.put, List.setIfInBounds_toArray, List.set_cons_zero, List.set_cons_succ]
 refine step_yes 5 19 ?_ (by assumption) rfl rfl (by kernel_rfl) (by kernel_rfl) (by kernel_rfl) (fun _ _ _ h => h) (by rfl) ?_ ?_
 rotate_left
 ·
  (intro w hSw; (try dsimp only at hSw); go_simp; try with_reducible rfl)
 try simp only [Act.put, List.setIfInBounds_toArray, List.set_cons_zero, List.set_cons_succ]
 refine wpAnyH_done (by kernel_rfl) ?_ _
 replace B0 := Lib.hid (C9.out.at_ B0.out (by simp))
 replace HO := Lib.hid (HO.out.chg C9.out (by simp))
 replace C := Lib.hid (C.out.trans C9.out)
 clear HY0 HC0 C9 hHeld
 go_upto_region 6 with fail
 obtain ⟨w2, hw2, c2, b1⟩ := news1 w9 (.cells #[.int .i64 n, .int .i64 f, .int .i64 t] 72)
 have W2 := Lib.hid hw2
 have HR := Lib.hid (rd_oneS (x := (n, f, t)) b1)
 have HO2 := Lib.hid (HO.out.chg c2 (by simp))
 have C2 := Lib.hid (C.out.trans c2)
 clear hw2 c2 b1
 have z_B0_0 := cell_of B0.out 0
 have z_B0_1 := cell_of B0.out 1
 have z_B0_2 := cell_of B0.out 2
 simp only [List.getElem?_toArray, List.getElem?_cons_succ, List.getElem?_cons_zero] at z_B0_0 z_B0_1 z_B0_2
 go_wp2_with (at_builtin; rw [← W2.out]; refine wpList_appK rfl _ _ rfl rfl HO2.out rfl rfl HR.out N4.out ?_; intro A3 c3 w3 u3 d3 e3)
 go_ret
 refine ⟨A3, c3, rfl, u3, ?_, fun S hS => ?_⟩
 ·
  rcases e3 with e | e
  ·
   exact .inl e
  ·
   right; intro a ha; rw [e] at ha; cases ha; exact C2.out.size
 ·
  refine (C2.out.mono (by simp)).grown d3 ?_
  intro k hk
  simp at hk; subst hk; exact .inl (hS _ rfl)
end
section
open Go.RowKit Go.Lib


theorem spanSetTo (y : Int × Int × Int) (v : Int) : ∀ q, q < spanTy.k → (spanTy.enc (y.1, y.2.1, v))[q]? = if q = 2 then some (.int .i64 v) else (spanTy.enc y)[q]?
 | 0, _ => rfl
 | 1, _ => rfl
 | 2, _ => rfl
 | q + 3, h => absurd h (by have : spanTy.k = 3 := rfl; omega)
theorem own_free {w : World} {g c : Nat} {xs : List (Int × Int × Int)} (h : OwnK spanTy w (some ⟨g, 0, none⟩) c xs) (j : Nat) : w.frozen? ⟨g, j, none⟩ = false := by
 rcases h with ⟨h, _⟩ | ⟨g', full, e, hg, _⟩
 ·
  cases h
 ·
  cases e; exact free_of hg j
set_option maxHeartbeats 4000000 in
set_option maxRecDepth 100000 in
theorem push_touches (w : World) (c : Nat) (n f t : Int) (A : Option Addr) (xs : List (Int × Int × Int)) (y : Int × Int × Int) (h : OwnK spanTy w A c xs) (hx : 0 < xs.length) (hn : xs.length ≤ 100000) (hy : xs[xs.length - 1]? = some y) (y1 : -2147483648 ≤ y.2.2) (y2 : y.2.2 ≤ 2147483647) (ha : ¬ ApartS y.1 y.2.2 n f) : Calls Tryz.prog 94 #[.slice A xs.length c, .agg #[.int .i64 n, .int .i64 f, .int .i64 t]] w fun e w' => e = .returned (.slice A xs.length c) ∧ OwnK spanTy w' A c (xs.set (xs.length - 1) (y.1, y.2.1, max y.2.2 t)) ∧ ∀ S : List Nat, (∀ a, A = some a → a.block ∈ S) → Chg S w w' := by

 have HO := Lib.hid h
 obtain ⟨g, o, eA, _⟩ := h.reads.line hx
 have eo : o = 0 := by
  rcases h.shape with ⟨h1, _⟩ | ⟨g', h1, _⟩
  ·
   rw [h1] at eA; cases eA
  ·
   rw [h1] at eA; cases eA; rfl
 subst eo
 subst eA
 have EY := Lib.hid hy
 have HG := Lib.hid (h.lt ⟨g, 0, none⟩ rfl)
 clear h hy
 have C := Lib.hid (Chg.refl [] w)
 have hA : decide (ApartS y.1 y.2.2 n f) = false := decide_eq_false ha
 have LA := Lib.hid (fun w => apart_any w y.1 y.2.1 y.2.2 n f t y1 y2)
 rw [hA] at LA
 clear hA ha
 have k1 : (0 : Int) < (xs.length : Int) := by omega
 have k2 : ((xs.length : Int) - 1) = ((xs.length - 1 : Nat) : Int) := by omega
 have k3 : ((xs.length - 1 : Nat) : Int) < (xs.length : Int) := by omega
 have k4 : (0 : Int) ≤ ((xs.length - 1 : Nat) : Int) := by omega
 have k5 : IntKind.i64.wrap ((xs.length - 1 : Nat) : Int) = ((xs.length - 1 : Nat) : Int) := IntWalk.i64_in _ (by omega)
 have k6 : decide (0 < xs.length) = true := by simp; omega
 have k7 : decide ((0 : Int) < (xs.length : Int)) = true := by simp; omega
 obtain ⟨w1, hw1, cw1, b_B0⟩ := news1 w (.cells #[.int .i64 n, .int .i64 f, .int .i64 t] 72)
 have Ww1 := Lib.hid hw1
 have l_B0 := lt_of_heap b_B0
 replace C := Lib.hid (C.out.trans cw1)
 replace HO := Lib.hid (HO.out.chg cw1 (by simp))
 have B0 := Lib.hid (b_B0)
 clear hw1 cw1 b_B0
 go_enter Tryz.func94, Tryz.ntmps94
 go_upto_region 3 with fail
 rw [← Ww1.out]
 generalize w.heap.size = b0 at *
 clear Ww1
 have HY0 := Lib.hid (fun (w' : World) (hc : Chg [] w1 w') => spanCells (HO.out.reads.chg hc (by simp)) EY.out)
 have hc0 : ∀ w', Chg [] w1 w' → w'.cell? ⟨b0, 0, none⟩ = some (.int .i64 n) ∧ w'.cell? ⟨b0, 1, none⟩ = some (.int .i64 f) ∧ w'.cell? ⟨b0, 2, none⟩ = some (.int .i64 t) := by
  intro w' hc
  have b1 := hc.at_ B0.out (by simp)
  exact ⟨cell_of b1 0, cell_of b1 1, cell_of b1 2⟩
 have HC0 := Lib.hid hc0
 clear hc0
 refine wp_region_held_drew (S := fun w' => Chg [] w1 w') (by kernel_rfl) (Chg.refl [] w1).drew (fun hHeld => ?_)
 refine sy 0 14 rfl rfl ?_
 try simp only [Act.put, sA, s0, s1]
 refine sy 1 15 rfl rfl ?_
 try simp only [Act.put, sA, s0, s1]
 refine sy 2 16 rfl rfl ?_ (hy := by (intro w hSw; (try dsimp only at hSw); have hq := HY0.out _ hSw; obtain ⟨q0, q1, q2⟩ := hq; simp only [Nat.zero_add] at q0 q1 q2; go_simp; try with_reducible rfl))
 try simp only [Act.put, sA, s0, s1]
 refine sy 3 17 rfl rfl ?_ (hy := by (intro w hSw; (try dsimp only at hSw); have hq := HC0.out _ hSw; obtain ⟨q0, q1, q2⟩ := hq; go_simp; try with_reducible rfl))
 try simp only [Act.put, sA, s0, s1]
 refine wpAnyH_ready (rs := [4]) (by kernel_rfl) (by simp) ?_
 refine AllReadyH.cons rfl (fun K hK => ?_) AllReadyH.nil
 replace hK := Lib.hid hK
 go_simp
 refine (LA.out _).mono ?_
 rintro e w9 ⟨rfl, hc⟩
 have C9 := Lib.hid (hHeld.trans hc)
 clear hc hHeld
 refine hK.out _ _ C9.out (fun hHeld => ?_)
 clear hK K
 try simp only [Act.put, sA, s0, s1]
 refine sy 5 19 rfl rfl ?_
 try simp only [Act.put, sA, s0, s1]
 refine wpAnyH_done (by kernel_rfl) ?_ _
 replace B0 := Lib.hid (C9.out.at_ B0.out (by simp))
 replace HO := Lib.hid (HO.out.chg C9.out (by simp))
 replace C := Lib.hid (C.out.trans C9.out)
 clear HY0 HC0 C9 hHeld
 go_upto_region 4 with fail
 have zt := cell_of B0.out 2
 simp only [List.getElem?_toArray, List.getElem?_cons_succ, List.getElem?_cons_zero] at zt
 refine wp_region_held_drew (S := fun w' => w'.cell? ⟨b0, 2, none⟩ = some (.int .i64 t)) (by kernel_rfl) zt (fun hHeld => ?_)
 have CD := Lib.hid (Chg.refl [] w9).drew
 have ZT : w9.drew.cell? ⟨b0, 2, none⟩ = some (.int .i64 t) := CD.out.cell zt (by simp)
 replace HO := Lib.hid (HO.out.chg CD.out (by simp))
 replace C := Lib.hid (C.out.trans CD.out)
 have BG : Hid (b0 ≠ g) := Lib.hid (by have := HG.out; simp only at this; omega)
 have SPC := Lib.hid (spanCells HO.out.reads EY.out)
 have FR := Lib.hid (own_free HO.out ((xs.length - 1) * 3 + 2))
 clear CD zt B0
 generalize w9.drew = wd at *
 refine sy 0 20 rfl rfl ?_
 try simp only [Act.put, sA, s0, s1]
 refine sy 1 21 rfl rfl ?_
 try simp only [Act.put, sA, s0, s1]
 refine sy 2 22 rfl rfl ?_
 try simp only [Act.put, sA, s0, s1]
 refine sy 3 23 rfl rfl ?_
 try simp only [Act.put, sA, s0, s1]
 refine sy 5 25 rfl rfl ?_
 try simp only [Act.put, sA, s0, s1]
 refine sy 6 26 rfl rfl ?_ (hy := by (intro w hSw; (try dsimp only at hSw); have q := hSw; go_simp; try with_reducible rfl))
 try simp only [Act.put, sA, s0, s1]
 refine wpAnyH_ready (rs := [4]) (by kernel_rfl) (by simp) ?_
 refine AllReadyH.cons rfl (fun K hK => ?_) AllReadyH.nil
 replace hK := Lib.hid hK
 have z := SPC.out.2.2
 rw [Nat.zero_add] at z
 go_simp
 clear z hHeld
 refine hK.out _ _ ZT (fun hHeld => ?_)
 clear hK K
 try simp only [Act.put, sA, s0, s1]
 refine sy 7 27 rfl rfl ?_
 try simp only [Act.put, sA, s0, s1]
 refine sy 8 28 rfl rfl ?_
 try simp only [Act.put, sA, s0, s1]
 refine sy 9 29 rfl rfl ?_
 try simp only [Act.put, sA, s0, s1]
 refine wpAnyH_ready (rs := [10]) (by kernel_rfl) (by simp) ?_
 refine AllReadyH.cons rfl (fun K hK => ?_) AllReadyH.nil
 replace hK := Lib.hid hK
 have z := SPC.out.2.2
 rw [Nat.zero_add] at z
 have fz := FR.out
 skip
 go_simp
 clear z fz hHeld
 refine hK.out _ _ (((Chg.refl [g] wd).setCell (p := ⟨g, (xs.length - 1) * 3 + 2, none⟩) (.inl (by simp)) _).cell ZT (by simp; exact BG.out)) (fun hHeld => ?_)
 clear hK K
 try simp only [Act.put, sA, s0, s1]
 refine wpAnyH_done (by kernel_rfl) ?_ _
 have HX : Hid (∀ v : Int, v = max y.2.2 t → OwnK spanTy (wd.setCell ⟨g, (xs.length - 1) * 3 + 2, none⟩ (.int .i64 v)) (some ⟨g, 0, none⟩) c (xs.set (xs.length - 1) (y.1, y.2.1, max y.2.2 t)) ∧ ∀ S : List Nat, g ∈ S → Chg S w (wd.setCell ⟨g, (xs.length - 1) * 3 + 2, none⟩ (.int .i64 v))) := Lib.hid (fun v hv => by
  subst hv
  exact ⟨HO.out.setc (xs.length - 1) 2 y (y.1, y.2.1, max y.2.2 t) (.int .i64 (max y.2.2 t)) EY.out (by decide) (spanSetTo y _), fun S hS => (C.out.mono (by simp)).trans ((Chg.refl [g] wd).setCell (p := ⟨g, (xs.length - 1) * 3 + 2, none⟩) (.inl (by simp)) (.int .i64 (max y.2.2 t)) |>.mono (fun i hi => by simp at hi; subst hi; exact .inl hS))⟩)
 clear hHeld
 go_wp2
 all_goals
  go_ret
  exact ⟨rfl, (HX.out _ (by omega)).1, fun S hS => (HX.out _ (by omega)).2 S (by simpa using hS)⟩
end
end Go.Proofs.YtomgjogkkoigbaaGreatDoor
