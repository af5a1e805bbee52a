/- past.push onto the last span. Sets of dots as lists of spans: plain functions. No function of the program is named here. Two sets of dots gone through at a time: plain functions. No function of the program is named here. Spans in any order made a past, as the document does it: plain functions. No function of the program is named here. The pasts that may be, as lists of spans in order. No memory here. past.push, whatever comes. past: a cursor goes on. past.begin. past: a sweep begins. past: a cursor goes on. past: a cursor passes. -/
import Derived.Test.YtehmchdhlhchjaaGreatDoorZeab
import Derived.Deep.Cut
import Derived.Deep.RegionHeld3
import Derived.Test.YtehmchdhlhchjaaGreatDoorZeaa
set_option linter.unusedSimpArgs false
set_option linter.unusedVariables false
set_option maxHeartbeats 32000000
namespace Go.Proofs.YtehmchdhlhchjaaGreatDoor
section
open Go.RowKit Go.Lib


theorem spanSetTo (y : Int × Int × Int) (v : Int) : ∀ q, q < spanTy.k → (spanTy.enc (y.1, y.2.1, v))[q]? = if q = 2 then some (.int .i64 v) else (spanTy.enc y)[q]?
 | 0, _ => rfl
 | 1, _ => rfl
 | 2, _ => rfl
 | q + 3, h => absurd h (by have : spanTy.k = 3 := rfl; omega)
theorem own_free {w : World} {g c : Nat} {xs : List (Int × Int × Int)} (h : OwnK spanTy w (some ⟨g, 0, none⟩) c xs) (j : Nat) : w.frozen? ⟨g, j, none⟩ = false := by
 rcases h with ⟨h, _⟩ | ⟨g', full, e, hg, _⟩
 ·
  cases h
 ·
  cases e; exact free_of hg j
set_option maxRecDepth 100000 in
theorem push_touches (w : World) (c : Nat) (n f t : Int) (A : Option Addr) (xs : List (Int × Int × Int)) (y : Int × Int × Int) (h : OwnK spanTy w A c xs) (hx : 0 < xs.length) (hn : xs.length ≤ 100000) (hy : xs[xs.length - 1]? = some y) (y1 : -2147483648 ≤ y.2.2) (y2 : y.2.2 ≤ 2147483647) (ha : ¬ ApartS y.1 y.2.2 n f) : Calls Tryz.prog 212 #[.slice A xs.length c, .agg #[.int .i64 n, .int .i64 f, .int .i64 t]] w fun e w' => e = .returned (.slice A xs.length c) ∧ OwnK spanTy w' A c (xs.set (xs.length - 1) (y.1, y.2.1, max y.2.2 t)) ∧ ∀ S : List Nat, (∀ a, A = some a → a.block ∈ S) → Chg S w w' := by

 have HO := h_ h
 obtain ⟨g, o, eA, _⟩ := h.reads.line hx
 have eo : o = 0 := by
  rcases h.shape with ⟨h1, _⟩ | ⟨g', h1, _⟩
  ·
   rw [h1] at eA; cases eA
  ·
   rw [h1] at eA; cases eA; rfl
 subst eo; subst eA
 have EY := h_ hy
 have HG := h_ (h.lt ⟨g, 0, none⟩ rfl)
 clear h hy
 have C := h_ (Chg.refl [] w)
 have hA : decide (ApartS y.1 y.2.2 n f) = false := decide_eq_false ha
 have LA := h_ (fun w => apart_any w y.1 y.2.1 y.2.2 n f t y1 y2)
 rw [hA] at LA
 clear hA ha
 have k1 : (0 : Int) < (xs.length : Int) := by omega
 have k2 : ((xs.length : Int) - 1) = ((xs.length - 1 : Nat) : Int) := by omega
 have k3 : ((xs.length - 1 : Nat) : Int) < (xs.length : Int) := by omega
 have k4 : (0 : Int) ≤ ((xs.length - 1 : Nat) : Int) := by omega
 have k5 : IntKind.i64.wrap ((xs.length - 1 : Nat) : Int) = ((xs.length - 1 : Nat) : Int) := IntWalk.i64_in _ (by omega)
 have k6 : decide (0 < xs.length) = true := by simp; omega
 have k7 : decide ((0 : Int) < (xs.length : Int)) = true := by simp; omega
 obtain ⟨w1, hw1, cw1, b_B0⟩ := news1 w (.cells #[.int .i64 n, .int .i64 f, .int .i64 t] 81)
 have Ww1 := h_ hw1
 have l_B0 := lt_of_heap b_B0
 replace C := h_ (C.out.trans cw1)
 replace HO := h_ (HO.out.chg cw1 (by simp))
 have B0 := h_ (b_B0)
 clear hw1 cw1 b_B0
 go_enter Tryz.func212, Tryz.ntmps212
 go_upto_region 3 with fail
 rw [← Ww1.out]
 generalize w.heap.size = b0 at *
 clear Ww1
 have HY0 := h_ (fun (w' : World) (hc : Chg [] w1 w') => spanCells (HO.out.reads.chg hc (by simp)) EY.out)
 have hc0 : ∀ w', Chg [] w1 w' → w'.cell? ⟨b0, 0, none⟩ = some (.int .i64 n) ∧ w'.cell? ⟨b0, 1, none⟩ = some (.int .i64 f) ∧ w'.cell? ⟨b0, 2, none⟩ = some (.int .i64 t) := by
  intro w' hc
  have b1 := hc.at_ B0.out (by simp)
  exact ⟨cell_of b1 0, cell_of b1 1, cell_of b1 2⟩
 have HC0 := h_ hc0
 clear hc0
 refine wp_region_held_drew (S := fun w' => Chg [] w1 w') (by kernel_rfl) (Chg.refl [] w1).drew (fun hHeld => ?_)
 refine sy 0 14 rfl rfl ?_; try simp only [Act.put, sA, s0, s1]
 refine sy 1 15 rfl rfl ?_; try simp only [Act.put, sA, s0, s1]
 refine sy 2 16 rfl rfl ?_ (hy := by (intro w hSw; (try dsimp only at hSw); have hq := HY0.out _ hSw; obtain ⟨q0, q1, q2⟩ := hq; simp only [Nat.zero_add] at q0 q1 q2; go_simp; try with_reducible rfl))
 try simp only [Act.put, sA, s0, s1]
 refine sy 3 17 rfl rfl ?_ (hy := by (intro w hSw; (try dsimp only at hSw); have hq := HC0.out _ hSw; obtain ⟨q0, q1, q2⟩ := hq; go_simp; try with_reducible rfl))
 try simp only [Act.put, sA, s0, s1]
 refine on1 4 rfl (fun K hK => ?_)
 go_simp
 refine (LA.out _).mono ?_
 rintro e w9 ⟨rfl, hc⟩
 have C9 := h_ (hHeld.trans hc)
 clear hc hHeld
 refine hK.out _ _ C9.out (fun hHeld => ?_)
 clear hK K; try simp only [Act.put, sA, s0, s1]
 refine sy 5 19 rfl rfl ?_; try simp only [Act.put, sA, s0, s1]
 refine wpAnyH_done (by kernel_rfl) ?_ _
 replace B0 := h_ (C9.out.at_ B0.out (by simp))
 replace HO := h_ (HO.out.chg C9.out (by simp))
 replace C := h_ (C.out.trans C9.out)
 clear HY0 HC0 C9 hHeld
 go_upto_region 4 with fail
 have zt := cell_of B0.out 2
 simp only [gA, gY, gZ] at zt
 refine wp_region_held_drew (S := fun w' => w'.cell? ⟨b0, 2, none⟩ = some (.int .i64 t)) (by kernel_rfl) zt (fun hHeld => ?_)
 have CD := h_ (Chg.refl [] w9).drew
 have ZT : w9.drew.cell? ⟨b0, 2, none⟩ = some (.int .i64 t) := CD.out.cell zt (by simp)
 replace HO := h_ (HO.out.chg CD.out (by simp))
 replace C := h_ (C.out.trans CD.out)
 have BG : Hid (b0 ≠ g) := h_ (by have := HG.out; simp only at this; omega)
 have SPC := h_ (spanCells HO.out.reads EY.out)
 have FR := h_ (own_free HO.out ((xs.length - 1) * 3 + 2))
 clear CD zt B0
 generalize w9.drew = wd at *
 refine sy 0 20 rfl rfl ?_; try simp only [Act.put, sA, s0, s1]
 refine sy 1 21 rfl rfl ?_; try simp only [Act.put, sA, s0, s1]
 refine sy 2 22 rfl rfl ?_; try simp only [Act.put, sA, s0, s1]
 refine sy 3 23 rfl rfl ?_; try simp only [Act.put, sA, s0, s1]
 refine sy 5 25 rfl rfl ?_; try simp only [Act.put, sA, s0, s1]
 refine sy 6 26 rfl rfl ?_ (hy := by (intro w hSw; (try dsimp only at hSw); have q := hSw; go_simp; try with_reducible rfl))
 try simp only [Act.put, sA, s0, s1]
 refine on1 4 rfl (fun K hK => ?_)
 have z := SPC.out.2.2
 rw [Nat.zero_add] at z
 go_simp; clear z hHeld
 refine hK.out _ _ ZT (fun hHeld => ?_)
 clear hK K; try simp only [Act.put, sA, s0, s1]
 refine sy 7 27 rfl rfl ?_; try simp only [Act.put, sA, s0, s1]
 refine sy 8 28 rfl rfl ?_; try simp only [Act.put, sA, s0, s1]
 refine sy 9 29 rfl rfl ?_; try simp only [Act.put, sA, s0, s1]
 refine on1 10 rfl (fun K hK => ?_)
 have z := SPC.out.2.2
 rw [Nat.zero_add] at z
 have fz := FR.out
 skip; go_simp; clear z fz hHeld
 refine hK.out _ _ (((Chg.refl [g] wd).setCell (p := ⟨g, (xs.length - 1) * 3 + 2, none⟩) (.inl (by simp)) _).cell ZT (by simp; exact BG.out)) (fun hHeld => ?_)
 clear hK K; try simp only [Act.put, sA, s0, s1]
 refine wpAnyH_done (by kernel_rfl) ?_ _
 have HX : Hid (∀ v : Int, v = max y.2.2 t → OwnK spanTy (wd.setCell ⟨g, (xs.length - 1) * 3 + 2, none⟩ (.int .i64 v)) (some ⟨g, 0, none⟩) c (xs.set (xs.length - 1) (y.1, y.2.1, max y.2.2 t)) ∧ ∀ S : List Nat, g ∈ S → Chg S w (wd.setCell ⟨g, (xs.length - 1) * 3 + 2, none⟩ (.int .i64 v))) := h_ (fun v hv => by
  subst hv
  exact ⟨HO.out.setc (xs.length - 1) 2 y (y.1, y.2.1, max y.2.2 t) (.int .i64 (max y.2.2 t)) EY.out (by decide) (spanSetTo y _), fun S hS => (C.out.mono (by simp)).trans ((Chg.refl [g] wd).setCell (p := ⟨g, (xs.length - 1) * 3 + 2, none⟩) (.inl (by simp)) (.int .i64 (max y.2.2 t)) |>.mono (fun i hi => by simp at hi; subst hi; exact .inl hS))⟩)
 clear hHeld; go_wp2
 all_goals
  go_ret
  exact ⟨rfl, (HX.out _ (by omega)).1, fun S hS => (HX.out _ (by omega)).2 S (by simpa using hS)⟩
end
section

abbrev Sp := Int × Int × Int
def Ap (x y : Sp) : Prop := x.1 < y.1 ∨ x.1 = y.1 ∧ x.2.2 + 1 < y.2.1
instance (x y : Sp) : Decidable (Ap x y) := by unfold Ap; exact inferInstance
def SpOk (x : Sp) : Prop := x.2.1 ≤ x.2.2
def Norm (l : List Sp) : Prop := (∀ x ∈ l, SpOk x) ∧ l.Pairwise Ap
def InS (x : Sp) (n s : Int) : Prop := x.1 = n ∧ x.2.1 ≤ s ∧ s ≤ x.2.2
instance (x : Sp) (n s : Int) : Decidable (InS x n s) := by unfold InS; exact inferInstance
def Mem (l : List Sp) (n s : Int) : Prop := ∃ x ∈ l, InS x n s
instance (l : List Sp) (n s : Int) : Decidable (Mem l n s) := by unfold Mem; exact inferInstance
theorem mem_nil {n s : Int} : ¬ Mem [] n s := by rintro ⟨x, h, _⟩; exact absurd h (by simp)
theorem mem_cons {x : Sp} {l : List Sp} {n s : Int} : Mem (x :: l) n s ↔ InS x n s ∨ Mem l n s := by
 unfold Mem
 constructor
 ·
  rintro ⟨y, hy, hi⟩
  rcases List.mem_cons.1 hy with rfl | h
  ·
   exact .inl hi
  ·
   exact .inr ⟨y, h, hi⟩
 ·
  rintro (h | ⟨y, hy, hi⟩)
  ·
   exact ⟨x, by simp, h⟩
  ·
   exact ⟨y, by simp [hy], hi⟩
theorem mem_append {l m : List Sp} {n s : Int} : Mem (l ++ m) n s ↔ Mem l n s ∨ Mem m n s := by
 unfold Mem
 constructor
 ·
  rintro ⟨y, hy, hi⟩
  rcases List.mem_append.1 hy with h | h
  ·
   exact .inl ⟨y, h, hi⟩
  ·
   exact .inr ⟨y, h, hi⟩
 ·
  rintro (⟨y, hy, hi⟩ | ⟨y, hy, hi⟩)
  ·
   exact ⟨y, by simp [hy], hi⟩
  ·
   exact ⟨y, by simp [hy], hi⟩
theorem Norm.tail {x : Sp} {l : List Sp} (h : Norm (x :: l)) : Norm l := ⟨fun y hy => h.1 y (by simp [hy]), (List.pairwise_cons.1 h.2).2⟩
theorem Norm.head {x : Sp} {l : List Sp} (h : Norm (x :: l)) : SpOk x ∧ ∀ y ∈ l, Ap x y := ⟨h.1 x (by simp), (List.pairwise_cons.1 h.2).1⟩
theorem norm_nil : Norm [] := ⟨by simp, List.Pairwise.nil⟩
theorem norm_cons {x : Sp} {l : List Sp} (hx : SpOk x) (h : Norm l) (ha : ∀ y ∈ l, Ap x y) : Norm (x :: l) := ⟨fun y hy => by
 rcases List.mem_cons.1 hy with rfl | q
 ·
  exact hx
 ·
  exact h.1 y q, List.pairwise_cons.2 ⟨ha, h.2⟩⟩
theorem Ap.trans {x y z : Sp} (h : Ap x y) (k : Ap y z) (o : SpOk y) : Ap x z := by
 unfold Ap SpOk at *
 omega
theorem Norm.out {x : Sp} {l : List Sp} (h : Norm (x :: l)) {n s : Int} (hi : InS x n s) : ¬ Mem l n s := by
 rintro ⟨y, hy, hj⟩
 have a := h.head.2 y hy
 unfold Ap InS at *
 omega
theorem norm_first {x y : Sp} {xs ys : List Sp} (hx : Norm (x :: xs)) (hy : Norm (y :: ys)) (he : ∀ n s, Mem (x :: xs) n s → Mem (y :: ys) n s) : y.1 < x.1 ∨ y.1 = x.1 ∧ y.2.1 ≤ x.2.1 := by
 have ox := hx.head.1
 obtain ⟨z, hz, hi⟩ := he x.1 x.2.1 ⟨x, by simp, rfl, Int.le_refl _, ox⟩
 rcases List.mem_cons.1 hz with rfl | q
 ·
  unfold InS at hi; omega
 ·
  have a := hy.head.2 z q
  have oy := hy.head.1
  unfold Ap InS SpOk at *
  omega
theorem norm_end {x y : Sp} {xs ys : List Sp} (hx : Norm (x :: xs)) (hy : Norm (y :: ys)) (he : ∀ n s, Mem (y :: ys) n s → Mem (x :: xs) n s) (e1 : x.1 = y.1) (e2 : x.2.1 = y.2.1) : y.2.2 ≤ x.2.2 := by
 refine Int.not_lt.1 (fun hlt => ?_)
 have ox := hx.head.1
 obtain ⟨z, hz, hi⟩ := he y.1 (x.2.2 + 1) ⟨y, by simp, rfl, by unfold SpOk at ox; omega, by omega⟩
 rcases List.mem_cons.1 hz with rfl | q
 ·
  unfold InS at hi; omega
 ·
  have a := hx.head.2 z q
  unfold Ap InS at *
  omega
theorem norm_ext : ∀ {l m : List Sp}, Norm l → Norm m → (∀ n s, Mem l n s ↔ Mem m n s) → l = m
 | [], [], _, _, _ => rfl
 | [], y :: ys, _, hm, he => absurd ((he y.1 y.2.1).2 ⟨y, by simp, rfl, Int.le_refl _, hm.head.1⟩) mem_nil
 | x :: xs, [], hl, _, he => absurd ((he x.1 x.2.1).1 ⟨x, by simp, rfl, Int.le_refl _, hl.head.1⟩) mem_nil
 | x :: xs, y :: ys, hl, hm, he => by
  have a := norm_first hl hm (fun n s => (he n s).1)
  have b := norm_first hm hl (fun n s => (he n s).2)
  have e1 : x.1 = y.1 := by omega
  have e2 : x.2.1 = y.2.1 := by omega
  have c := norm_end hl hm (fun n s => (he n s).2) e1 e2
  have d := norm_end hm hl (fun n s => (he n s).1) e1.symm e2.symm
  have exy : x = y := Prod.ext e1 (Prod.ext e2 (by omega))
  subst exy
  rw [norm_ext hl.tail hm.tail (fun n s => ?_)]
  have q := he n s
  rw [mem_cons, mem_cons] at q
  by_cases hi : InS x n s
  ·
   exact ⟨fun z => absurd z (hl.out hi), fun z => absurd z (hm.out hi)⟩
  ·
   constructor
   ·
    intro z; exact (q.1 (.inr z)).resolve_left hi
   ·
    intro z; exact (q.2 (.inr z)).resolve_left hi
def pushP (out : List Sp) (z : Sp) : List Sp :=
 match out.getLast? with
 | none => [z]
 | some y => if Ap y z then out ++ [z] else out.dropLast ++ [(y.1, y.2.1, max y.2.2 z.2.2)]
def Le (x y : Sp) : Prop := x.1 < y.1 ∨ x.1 = y.1 ∧ x.2.1 ≤ y.2.1
theorem Le.trans {x y z : Sp} (h : Le x y) (k : Le y z) : Le x z := by unfold Le at *; omega
theorem last_split {l : List Sp} {y : Sp} (h : l.getLast? = some y) : l = l.dropLast ++ [y] := by
 obtain ⟨ys, e⟩ := List.getLast?_eq_some_iff.1 h
 rw [e]; simp
theorem mem_one {z : Sp} {n s : Int} : Mem [z] n s ↔ InS z n s := by
 rw [mem_cons]
 exact ⟨fun q => q.resolve_right mem_nil, .inl⟩
theorem norm_app {l : List Sp} {z : Sp} (h : Norm l) (hz : SpOk z) (ha : ∀ y ∈ l, Ap y z) : Norm (l ++ [z]) := by
 refine ⟨fun x hx => ?_, List.pairwise_append.2 ⟨h.2, by simp, fun a ha' b hb => ?_⟩⟩
 ·
  rcases List.mem_append.1 hx with q | q
  ·
   exact h.1 x q
  ·
   simp at q; subst q; exact hz
 ·
  simp at hb; subst hb; exact ha a ha'
theorem push_norm {out : List Sp} {z : Sp} (h : Norm out) (hz : SpOk z) (hl : ∀ y, out.getLast? = some y → Le y z) : Norm (pushP out z) ∧ (∀ n s, Mem (pushP out z) n s ↔ Mem out n s ∨ InS z n s) ∧ ∃ y, (pushP out z).getLast? = some y ∧ Le y z := by
 unfold pushP
 cases hg : out.getLast? with
 | none =>
  have e : out = [] := List.getLast?_eq_none_iff.1 hg
  subst e
  refine ⟨norm_cons hz norm_nil (by simp), fun n s => ?_, z, rfl, .inr ⟨rfl, Int.le_refl _⟩⟩
  show Mem [z] n s ↔ _
  rw [mem_one]
  exact ⟨.inr, fun q => q.resolve_left mem_nil⟩
 | some y =>
  have es := last_split hg
  have le := hl y hg
  have hym : y ∈ out := by rw [es]; simp
  have hd : ∀ x ∈ out.dropLast, Ap x y := by
   have := h.2
   rw [es] at this
   exact fun x hx => (List.pairwise_append.1 this).2.2 x hx y (by simp)
  simp only
  split
  ·
   rename_i ha
   refine ⟨norm_app h hz (fun x hx => ?_), fun n s => by rw [mem_append, mem_one], z, by simp, .inr ⟨rfl, Int.le_refl _⟩⟩
   rw [es] at hx
   rcases List.mem_append.1 hx with q | q
   ·
    exact (hd x q).trans ha (h.1 y hym)
   ·
    simp at q; subst q; exact ha
  ·
   rename_i ha
   have nd : Norm out.dropLast := by
    have := h
    rw [es] at this
    exact ⟨fun x hx => this.1 x (List.mem_append_left _ hx), (List.pairwise_append.1 this.2).1⟩
   have oy := h.1 y hym
   have fact : y.1 = z.1 ∧ y.2.1 ≤ z.2.1 ∧ z.2.1 ≤ y.2.2 + 1 := by unfold Ap Le at *; omega
   have mx : y.2.2 ≤ max y.2.2 z.2.2 ∧ z.2.2 ≤ max y.2.2 z.2.2 ∧ (max y.2.2 z.2.2 = y.2.2 ∨ max y.2.2 z.2.2 = z.2.2) := by omega
   refine ⟨norm_app nd (by unfold SpOk at *; simp only; omega) (fun x hx => by have := hd x hx; unfold Ap at *; simp only; omega), fun n s => ?_, (y.1, y.2.1, max y.2.2 z.2.2), by simp, by unfold Le at *; simp only; omega⟩
   have e2 : Mem out n s ↔ Mem out.dropLast n s ∨ InS y n s := by
    conv => lhs; rw [es]
    rw [mem_append, mem_one]
   have e3 : InS (y.1, y.2.1, max y.2.2 z.2.2) n s ↔ InS y n s ∨ InS z n s := by unfold InS SpOk at *; simp only; omega
   rw [mem_append, mem_one, e2, e3, or_assoc]
theorem fold_norm : ∀ {zs out : List Sp}, Norm out → (∀ z ∈ zs, SpOk z) → zs.Pairwise Le → (∀ y z, out.getLast? = some y → z ∈ zs → Le y z) → Norm (zs.foldl pushP out) ∧ ∀ n s, Mem (zs.foldl pushP out) n s ↔ Mem out n s ∨ Mem zs n s
 | [], out, h, _, _, _ => ⟨h, fun n s => ⟨.inl, fun q => q.resolve_right mem_nil⟩⟩
 | z :: zs, out, h, ho, hp, hl => by
  obtain ⟨a, b, y, e, le⟩ := push_norm h (ho z (by simp)) (fun y hy => hl y z hy (by simp))
  have hp' := List.pairwise_cons.1 hp
  obtain ⟨c, d⟩ := fold_norm (zs := zs) a (fun x hx => ho x (by simp [hx])) hp'.2 (fun y' x hy' hx => by rw [e] at hy'; cases hy'; exact le.trans (hp'.1 x hx))
  rw [List.foldl_cons]
  refine ⟨c, fun n s => ?_⟩
  rw [d n s, b n s, mem_cons, or_assoc]
def wiP (x y : Sp) : List Sp := if y.1 ≠ x.1 ∨ y.2.2 < x.2.1 ∨ x.2.2 < y.2.1 then [y] else (if y.2.1 < x.2.1 then [(y.1, y.2.1, x.2.1 - 1)] else []) ++ (if x.2.2 < y.2.2 then [(y.1, x.2.2 + 1, y.2.2)] else [])
def withoutP (l : List Sp) (x : Sp) : List Sp := l.flatMap (wiP x)
theorem wi_mem {x y : Sp} (hx : SpOk x) {n s : Int} : Mem (wiP x y) n s ↔ InS y n s ∧ ¬ InS x n s := by
 unfold wiP
 have one : ∀ z : Sp, Mem [z] n s ↔ InS z n s := fun z => by rw [mem_cons]; exact ⟨fun q => q.resolve_right mem_nil, .inl⟩
 split
 ·
  rw [one]; unfold InS at *; constructor
  ·
   intro q; exact ⟨q, by omega⟩
  ·
   exact fun q => q.1
 ·
  rw [mem_append]
  have a : Mem (if y.2.1 < x.2.1 then [(y.1, y.2.1, x.2.1 - 1)] else []) n s ↔ y.2.1 < x.2.1 ∧ InS (y.1, y.2.1, x.2.1 - 1) n s := by
   split
   ·
    rename_i h; rw [one]; exact ⟨fun q => ⟨h, q⟩, fun q => q.2⟩
   ·
    rename_i h; exact ⟨fun q => absurd q mem_nil, fun q => absurd q.1 h⟩
  have b : Mem (if x.2.2 < y.2.2 then [(y.1, x.2.2 + 1, y.2.2)] else []) n s ↔ x.2.2 < y.2.2 ∧ InS (y.1, x.2.2 + 1, y.2.2) n s := by
   split
   ·
    rename_i h; rw [one]; exact ⟨fun q => ⟨h, q⟩, fun q => q.2⟩
   ·
    rename_i h; exact ⟨fun q => absurd q mem_nil, fun q => absurd q.1 h⟩
  rw [a, b]
  unfold InS SpOk at *
  simp only
  omega
theorem wi_sub {x y z : Sp} (hx : SpOk x) (hy : SpOk y) (h : z ∈ wiP x y) : SpOk z ∧ z.1 = y.1 ∧ y.2.1 ≤ z.2.1 ∧ z.2.2 ≤ y.2.2 := by
 unfold wiP at h
 unfold SpOk at *
 split at h
 ·
  simp at h; subst h; exact ⟨hy, rfl, Int.le_refl _, Int.le_refl _⟩
 ·
  rename_i hc
  simp only [not_or, Int.not_lt, Decidable.not_not, ne_eq] at hc
  rcases List.mem_append.1 h with q | q
  ·
   split at q
   ·
    simp at q; subst q
    exact ⟨by show y.2.1 ≤ x.2.1 - 1; omega, rfl, Int.le_refl _, by show x.2.1 - 1 ≤ y.2.2; omega⟩
   ·
    simp at q
  ·
   split at q
   ·
    simp at q; subst q
    exact ⟨by show x.2.2 + 1 ≤ y.2.2; omega, rfl, by show y.2.1 ≤ x.2.2 + 1; omega, Int.le_refl _⟩
   ·
    simp at q
theorem wi_norm {x y : Sp} (hx : SpOk x) (hy : SpOk y) : Norm (wiP x y) := by
 refine ⟨fun z hz => (wi_sub hx hy hz).1, ?_⟩
 unfold wiP
 split
 ·
  simp
 ·
  rename_i hc
  simp only [not_or, Int.not_lt, Decidable.not_not, ne_eq] at hc
  refine List.pairwise_append.2 ⟨by split <;> simp, by split <;> simp, fun a ha b hb => ?_⟩
  have ea : a = (y.1, y.2.1, x.2.1 - 1) := by split at ha <;> simp at ha; exact ha
  have eb : b = (y.1, x.2.2 + 1, y.2.2) := by split at hb <;> simp at hb; exact hb
  rw [ea, eb]
  unfold SpOk at hx hy
  exact .inr ⟨rfl, by show x.2.1 - 1 + 1 < x.2.2 + 1; omega⟩
theorem without_norm {x : Sp} (hx : SpOk x) : ∀ {l : List Sp}, Norm l → Norm (withoutP l x) ∧ ∀ n s, Mem (withoutP l x) n s ↔ Mem l n s ∧ ¬ InS x n s
 | [], _ => ⟨norm_nil, fun n s => ⟨fun q => absurd q mem_nil, fun q => absurd q.1 mem_nil⟩⟩
 | y :: l, h => by
  obtain ⟨a, b⟩ := without_norm hx h.tail
  have hy := h.head.1
  have e : withoutP (y :: l) x = wiP x y ++ withoutP l x := rfl
  have inl : ∀ z ∈ withoutP l x, ∃ u ∈ l, z ∈ wiP x u := fun z hz => by
   obtain ⟨u, hu, hz⟩ := List.mem_flatMap.1 hz
   exact ⟨u, hu, hz⟩
  rw [e]
  refine ⟨⟨fun z hz => ?_, List.pairwise_append.2 ⟨(wi_norm hx hy).2, a.2, fun p hp q hq => ?_⟩⟩, fun n s => ?_⟩
  ·
   rcases List.mem_append.1 hz with q | q
   ·
    exact (wi_norm hx hy).1 z q
   ·
    exact a.1 z q
  ·
   obtain ⟨u, hu, hq⟩ := inl q hq
   obtain ⟨_, s1, _, s2⟩ := wi_sub hx hy hp
   obtain ⟨_, t1, t2, _⟩ := wi_sub hx (h.tail.1 u hu) hq
   rcases h.head.2 u hu with ap | ⟨ap, ap2⟩
   ·
    exact .inl (by omega)
   ·
    exact .inr ⟨by omega, by omega⟩
  ·
   rw [mem_append, wi_mem hx, b n s, mem_cons]
   constructor
   ·
    rintro (q | q); exact ⟨.inl q.1, q.2⟩; exact ⟨.inr q.1, q.2⟩
   ·
    rintro ⟨q | q, r⟩; exact .inl ⟨q, r⟩; exact .inr ⟨q, r⟩
theorem withouts_norm : ∀ {b a : List Sp}, (∀ x ∈ b, SpOk x) → Norm a → Norm (b.foldl withoutP a) ∧ ∀ n s, Mem (b.foldl withoutP a) n s ↔ Mem a n s ∧ ¬ Mem b n s
 | [], a, _, h => ⟨h, fun n s => ⟨fun q => ⟨q, mem_nil⟩, fun q => q.1⟩⟩
 | x :: b, a, ho, h => by
  obtain ⟨c, d⟩ := without_norm (ho x (by simp)) h
  obtain ⟨e, f⟩ := withouts_norm (b := b) (fun y hy => ho y (by simp [hy])) c
  rw [List.foldl_cons]
  refine ⟨e, fun n s => ?_⟩
  rw [f n s, d n s, mem_cons]
  constructor
  ·
   rintro ⟨⟨q, r⟩, t⟩; exact ⟨q, by rintro (z | z); exact r z; exact t z⟩
  ·
   rintro ⟨q, r⟩; exact ⟨⟨q, fun z => r (.inl z)⟩, fun z => r (.inr z)⟩
end
section

def hdP (l : List Sp) : Sp := l.headD (201, 0, 0)
def passP (l : List Sp) (tt : Int) : List Sp :=
 match l with
 | [] => []
 | x :: r => if tt < x.2.2 then (x.1, tt + 1, x.2.2) :: r else r
def untilP (s nx : Sp) : Sp := if s.1 = nx.1 then (s.1, s.2.1, min s.2.2 (nx.2.1 - 1)) else s
def inP (x y : Sp) : Bool := decide (x.1 < y.1 ∨ x.1 = y.1 ∧ x.2.1 ≤ y.2.1)
def pieceP (x y : Sp) : Sp := if inP x y = true ∧ inP y x = true then (x.1, x.2.1, min x.2.2 y.2.2) else if inP x y = true then untilP x y else untilP y x
def WfC (l : List Sp) : Prop := Norm l ∧ ∀ x ∈ l, 1 ≤ x.1 ∧ x.1 ≤ 200 ∧ 1 ≤ x.2.1 ∧ x.2.2 ≤ 2147483647
def Bh (p : Sp) (l : List Sp) : Prop := ∀ z ∈ l, p.1 < z.1 ∨ p.1 = z.1 ∧ p.2.2 < z.2.1
def dotsN (l : List Sp) : Nat := (l.map (fun x => (x.2.2 - x.2.1 + 1).toNat)).sum
def potP (la lb : List Sp) : Nat := 2 * (la.length + lb.length) + (if (hdP la).1 = (hdP lb).1 ∧ (hdP la).2.1 = (hdP lb).2.1 then 0 else 1)
theorem pot_le (la lb : List Sp) : potP la lb ≤ 2 * (la.length + lb.length) + 1 := by unfold potP; split <;> omega
theorem dots_cons (x : Sp) (l : List Sp) : dotsN (x :: l) = (x.2.2 - x.2.1 + 1).toNat + dotsN l := by simp [dotsN]
theorem bh_out {p : Sp} {l : List Sp} (h : Bh p l) {n s : Int} (hi : InS p n s) : ¬ Mem l n s := by
 rintro ⟨z, hz, hj⟩
 have := h z hz
 unfold InS at *
 omega
theorem bh_head {p y : Sp} {l : List Sp} (h : WfC (y :: l)) (hy : p.1 < y.1 ∨ p.1 = y.1 ∧ p.2.2 < y.2.1) : Bh p (y :: l) := by
 intro z hz
 rcases List.mem_cons.1 hz with rfl | q
 ·
  exact hy
 ·
  have a := h.1.head.2 z q
  have o := h.1.head.1
  unfold Ap SpOk at *
  omega
theorem pass_ok {x : Sp} {r : List Sp} (h : WfC (x :: r)) {tt : Int} (h1 : x.2.1 ≤ tt) (h2 : tt ≤ x.2.2) :
  WfC (passP (x :: r) tt) ∧ (∀ n s, Mem (passP (x :: r) tt) n s ↔ Mem (x :: r) n s ∧ ¬ InS (x.1, x.2.1, tt) n s) ∧ Bh (x.1, x.2.1, tt) (passP (x :: r) tt) ∧ (∀ n s, InS (x.1, x.2.1, tt) n s → Mem (x :: r) n s) ∧ dotsN (passP (x :: r) tt) < dotsN (x :: r) := by
 have hx := h.1.head
 have hb := h.2 x (by simp)
 have br : Bh x r := fun z hz => by
  have := hx.2 z hz
  unfold Ap at this
  omega
 have up : ∀ n s, InS (x.1, x.2.1, tt) n s → InS x n s := fun n s q => by unfold InS at *; simp only at q; omega
 refine ⟨?_, fun n s => ?_, ?_, fun n s q => mem_cons.2 (.inl (up n s q)), ?_⟩
 ·
  unfold passP
  simp only
  split
  ·
   rename_i hlt
   refine ⟨norm_cons (by unfold SpOk; simp only; omega) h.1.tail (fun z hz => by have := hx.2 z hz; unfold Ap at *; simp only; omega), fun z hz => ?_⟩
   rcases List.mem_cons.1 hz with rfl | q
   ·
    simp only; omega
   ·
    exact h.2 z (by simp [q])
  ·
   exact ⟨h.1.tail, fun z hz => h.2 z (by simp [hz])⟩
 ·
  unfold passP
  simp only
  split
  ·
   rename_i hlt
   rw [mem_cons, mem_cons]
   constructor
   ·
    rintro (q | q)
    ·
     exact ⟨.inl (by unfold InS at *; simp only at q; omega), by unfold InS at *; simp only at q ⊢; omega⟩
    ·
     exact ⟨.inr q, fun z => bh_out br (up n s z) q⟩
   ·
    rintro ⟨q | q, z⟩
    ·
     exact .inl (by unfold InS at *; simp only at z ⊢; omega)
    ·
     exact .inr q
  ·
   rename_i hlt
   have e : tt = x.2.2 := by omega
   subst e
   rw [mem_cons]
   constructor
   ·
    intro q
    exact ⟨.inr q, fun z => bh_out br z q⟩
   ·
    rintro ⟨q | q, z⟩
    ·
     exact absurd q z
    ·
     exact q
 ·
  unfold passP
  simp only
  intro z hz
  split at hz
  ·
   rcases List.mem_cons.1 hz with rfl | q
   ·
    exact .inr ⟨rfl, by simp only; omega⟩
   ·
    have := br z q; simp only; omega
  ·
   have := br z hz; simp only; omega
 ·
  unfold passP
  simp only
  have o := hx.1
  unfold SpOk at o
  split
  ·
   rw [dots_cons, dots_cons]; simp only; omega
  ·
   rw [dots_cons]; omega
theorem pass_len (x : Sp) (r : List Sp) (tt : Int) : (passP (x :: r) tt).length = if tt < x.2.2 then r.length + 1 else r.length := by unfold passP; simp only; split <;> simp
theorem hd_nil : hdP [] = (201, 0, 0) := rfl
theorem hd_cons (x : Sp) (l : List Sp) : hdP (x :: l) = x := rfl
def leftP (l : List Sp) (i : Bool) (tt : Int) : List Sp := if i = true then passP l tt else l
structure StepOk (la lb : List Sp) (p : Sp) (ia ib : Bool) (la' lb' : List Sp) : Prop where
 ok : SpOk p ∧ 1 ≤ p.1 ∧ p.1 ≤ 200 ∧ 1 ≤ p.2.1 ∧ p.2.2 ≤ 2147483647
 wa : WfC la'
 wb : WfC lb'
 ina : ∀ n s, InS p n s → (Mem la n s ↔ ia = true)
 inb : ∀ n s, InS p n s → (Mem lb n s ↔ ib = true)
 ma : ∀ n s, Mem la' n s ↔ Mem la n s ∧ ¬ InS p n s
 mb : ∀ n s, Mem lb' n s ↔ Mem lb n s ∧ ¬ InS p n s
 ba : Bh p la'
 bb : Bh p lb'
 dec : dotsN la' + dotsN lb' < dotsN la + dotsN lb
 pot : potP la' lb' < potP la lb
 sub : (∃ z ∈ la, z.1 = p.1 ∧ z.2.1 ≤ p.2.1 ∧ p.2.2 ≤ z.2.2) ∨ ∃ z ∈ lb, z.1 = p.1 ∧ z.2.1 ≤ p.2.1 ∧ p.2.2 ≤ z.2.2
theorem pot_comm (la lb : List Sp) : potP la lb = potP lb la := by
 unfold potP
 have e : ((hdP la).1 = (hdP lb).1 ∧ (hdP la).2.1 = (hdP lb).2.1) = ((hdP lb).1 = (hdP la).1 ∧ (hdP lb).2.1 = (hdP la).2.1) := propext ⟨fun h => ⟨h.1.symm, h.2.symm⟩, fun h => ⟨h.1.symm, h.2.symm⟩⟩
 simp only [e, Nat.add_comm la.length]
theorem StepOk.swap {la lb : List Sp} {p : Sp} {ia ib : Bool} {la' lb' : List Sp} (h : StepOk la lb p ia ib la' lb') : StepOk lb la p ib ia lb' la' :=
 ⟨h.ok, h.wb, h.wa, h.inb, h.ina, h.mb, h.ma, h.bb, h.ba, by have := h.dec; omega, by rw [pot_comm, pot_comm lb]; exact h.pot, h.sub.symm⟩
theorem step_both {x y : Sp} {xs ys : List Sp} (ha : WfC (x :: xs)) (hb : WfC (y :: ys)) (e1 : x.1 = y.1) (e2 : x.2.1 = y.2.1) :
  StepOk (x :: xs) (y :: ys) (x.1, x.2.1, min x.2.2 y.2.2) true true (passP (x :: xs) (min x.2.2 y.2.2)) (passP (y :: ys) (min x.2.2 y.2.2)) := by
 have ox := ha.1.head.1
 have oy := hb.1.head.1
 have bx := ha.2 x (by simp)
 unfold SpOk at ox oy
 obtain ⟨a1, a2, a3, a4, a5⟩ := pass_ok ha (tt := min x.2.2 y.2.2) (by omega) (by omega)
 obtain ⟨b1, b2, b3, b4, b5⟩ := pass_ok hb (tt := min x.2.2 y.2.2) (by omega) (by omega)
 have PB : potP (passP (x :: xs) (min x.2.2 y.2.2)) (passP (y :: ys) (min x.2.2 y.2.2)) < potP (x :: xs) (y :: ys) := by
  have e0 : potP (x :: xs) (y :: ys) = 2 * (xs.length + 1 + (ys.length + 1)) := by unfold potP; rw [hd_cons, hd_cons, if_pos ⟨e1, e2⟩]; rfl
  refine Nat.lt_of_le_of_lt (pot_le _ _) ?_
  rw [e0, pass_len, pass_len]
  split <;> split <;> omega
 rw [← e1, ← e2] at b2 b3 b4
 exact ⟨⟨by unfold SpOk; simp only; omega, bx.1, bx.2.1, bx.2.2.1, by simp only; omega⟩, a1, b1, fun n s q => ⟨fun _ => rfl, fun _ => a4 n s q⟩, fun n s q => ⟨fun _ => rfl, fun _ => b4 n s q⟩, a2, b2, a3, b3, by omega, PB, .inl ⟨x, by simp, rfl, Int.le_refl _, by simp only; omega⟩⟩
theorem step_one {x : Sp} {xs lb : List Sp} (ha : WfC (x :: xs)) (hb : WfC lb) (tt : Int) (h1 : x.2.1 ≤ tt) (h2 : tt ≤ x.2.2) (hl : Bh (x.1, x.2.1, tt) lb) (hu : ¬ (x.1 = (hdP lb).1 ∧ x.2.1 = (hdP lb).2.1)) (hal : tt = x.2.2 ∨ x.1 = (hdP lb).1 ∧ tt + 1 = (hdP lb).2.1) : StepOk (x :: xs) lb (x.1, x.2.1, tt) true false (passP (x :: xs) tt) lb := by
 have bx := ha.2 x (by simp)
 obtain ⟨a1, a2, a3, a4, a5⟩ := pass_ok ha h1 h2
 have PB : potP (passP (x :: xs) tt) lb < potP (x :: xs) lb := by
  have e0 : potP (x :: xs) lb = 2 * (xs.length + 1 + lb.length) + 1 := by unfold potP; rw [hd_cons, if_neg hu]; rfl
  rw [e0]
  by_cases hlt : tt < x.2.2
  ·
   have hp : passP (x :: xs) tt = (x.1, tt + 1, x.2.2) :: xs := by unfold passP; simp only; rw [if_pos hlt]
   rw [hp]
   unfold potP
   rw [hd_cons, if_pos (by rcases hal with h | h; exact absurd h (by omega); exact h)]
   simp only [List.length_cons]
   omega
  ·
   refine Nat.lt_of_le_of_lt (pot_le _ _) ?_
   rw [pass_len, if_neg hlt]
   omega
 exact ⟨⟨by unfold SpOk; exact h1, bx.1, bx.2.1, bx.2.2.1, by simp only; omega⟩, a1, hb, fun n s q => ⟨fun _ => rfl, fun _ => a4 n s q⟩, fun n s q => ⟨fun z => absurd z (bh_out hl q), fun z => absurd z (by simp)⟩, a2, fun n s => ⟨fun z => ⟨z, fun q => bh_out hl q z⟩, fun z => z.1⟩, a3, hl, by omega, PB, .inl ⟨x, by simp, rfl, Int.le_refl _, h2⟩⟩
theorem piece_one {x y : Sp} (h : inP x y = true) (h' : inP y x = false) : pieceP x y = (x.1, x.2.1, if x.1 = y.1 then min x.2.2 (y.2.1 - 1) else x.2.2) := by
 unfold pieceP
 rw [if_neg (by simp [h']), if_pos h]
 unfold untilP
 split <;> rfl
theorem piece_other {x y : Sp} (h : inP x y = false) (h' : inP y x = true) : pieceP x y = pieceP y x := by
 unfold pieceP
 rw [if_neg (by simp [h]), if_neg (by simp [h]), if_neg (by simp [h]), if_pos h']
theorem step_first {x : Sp} {xs lb : List Sp} (ha : WfC (x :: xs)) (hb : WfC lb) (h : inP x (hdP lb) = true) (h' : inP (hdP lb) x = false) :
  StepOk (x :: xs) lb (pieceP x (hdP lb)) true false (passP (x :: xs) (pieceP x (hdP lb)).2.2) lb := by
 rw [piece_one h h']
 have ox := ha.1.head.1
 have bx := ha.2 x (by simp)
 unfold SpOk at ox
 simp only [inP, decide_eq_true_eq, decide_eq_false_iff_not] at h h'
 cases lb with
 | nil =>
  rw [hd_nil] at *
  rw [if_neg (by simp only; omega)]
  exact step_one ha hb _ ox (Int.le_refl _) (fun z hz => absurd hz (by simp)) (by rw [hd_nil]; simp only; omega) (.inl rfl)
 | cons y ys =>
  rw [hd_cons] at *
  refine step_one ha hb _ ?_ ?_ (bh_head hb ?_) (by rw [hd_cons]; omega) (by rw [hd_cons]; split <;> omega)
  ·
   split <;> omega
  ·
   split <;> omega
  ·
   simp only
   split <;> omega
theorem step_ok {la lb : List Sp} (ha : WfC la) (hb : WfC lb) (hne : la ≠ [] ∨ lb ≠ []) :
  StepOk la lb (pieceP (hdP la) (hdP lb)) (inP (hdP la) (hdP lb)) (inP (hdP lb) (hdP la)) (leftP la (inP (hdP la) (hdP lb)) (pieceP (hdP la) (hdP lb)).2.2) (leftP lb (inP (hdP lb) (hdP la)) (pieceP (hdP la) (hdP lb)).2.2) := by
 have tri : inP (hdP la) (hdP lb) = true ∨ inP (hdP lb) (hdP la) = true := by
  simp only [inP, decide_eq_true_eq]; omega
 cases h1 : inP (hdP la) (hdP lb) with
 | true =>
  cases h2 : inP (hdP lb) (hdP la) with
  | true =>
   have q1 := h1
   have q2 := h2
   simp only [inP, decide_eq_true_eq] at q1 q2
   cases la with
   | nil =>
    cases lb with
    | nil => exact absurd rfl (hne.elim id id)
    | cons y ys => have := hb.2 y (by simp); rw [hd_nil, hd_cons] at q1 q2; simp only at q1 q2; omega
   | cons x xs =>
    cases lb with
    | nil => have := ha.2 x (by simp); rw [hd_nil, hd_cons] at q1 q2; simp only at q1 q2; omega
    | cons y ys =>
     rw [hd_cons, hd_cons] at *
     have e : pieceP x y = (x.1, x.2.1, min x.2.2 y.2.2) := by unfold pieceP; rw [if_pos ⟨h1, h2⟩]
     rw [e]
     exact step_both ha hb (by omega) (by omega)
  | false =>
   cases la with
   | nil =>
    have q1 := h1
    have q2 := h2
    simp only [inP, decide_eq_true_eq, decide_eq_false_iff_not] at q1 q2
    cases lb with
    | nil => exact absurd rfl (hne.elim id id)
    | cons y ys => have := hb.2 y (by simp); rw [hd_nil, hd_cons] at q1 q2; simp only at q1 q2; omega
   | cons x xs => exact step_first ha hb h1 h2
 | false =>
  have h2 := tri.resolve_left (by simp [h1])
  rw [h2]
  cases lb with
  | nil =>
   have q1 := h1
   have q2 := h2
   simp only [inP, decide_eq_true_eq, decide_eq_false_iff_not] at q1 q2
   cases la with
   | nil => exact absurd rfl (hne.elim id id)
   | cons y ys => have := ha.2 y (by simp); rw [hd_nil, hd_cons] at q1 q2; simp only at q1 q2; omega
  | cons y ys =>
   rw [hd_cons] at *
   rw [piece_other h1 h2]
   exact (step_first hb ha h2 h1).swap
def memb (l : List Sp) (n s : Int) : Bool := decide (Mem l n s)
structure SwInv (k : Bool → Bool → Bool) (a b la lb pre : List Sp) : Prop where
 wa : WfC la
 wb : WfC lb
 ok : ∀ z ∈ pre, SpOk z
 up : pre.Pairwise Le
 ba : ∀ p ∈ pre, Bh p la
 bb : ∀ p ∈ pre, Bh p lb
 cnt : pre.length + potP la lb ≤ potP a b
 m : ∀ n s, k (memb a n s) (memb b n s) = true ↔ Mem pre n s ∨ k (memb la n s) (memb lb n s) = true
theorem SwInv.begin {k : Bool → Bool → Bool} {a b : List Sp} (ha : WfC a) (hb : WfC b) : SwInv k a b a b [] :=
 ⟨ha, hb, by simp, List.Pairwise.nil, by simp, by simp, by simp, fun n s => ⟨.inr, fun q => q.resolve_left mem_nil⟩⟩
theorem bh_mono {p : Sp} {l l' : List Sp} (hp : SpOk p) (h : Bh p l) (hn : WfC l') (hs : ∀ n s, Mem l' n s → Mem l n s) : Bh p l' := by
 intro z hz
 have oz := hn.1.1 z hz
 obtain ⟨y, hy, hi⟩ := hs z.1 z.2.1 ⟨z, hz, rfl, Int.le_refl _, oz⟩
 have := h y hy
 unfold InS SpOk at *
 omega
theorem SwInv.step {k : Bool → Bool → Bool} (hk : k false false = false) {a b la lb pre : List Sp} (h : SwInv k a b la lb pre) {p : Sp} {ia ib : Bool} {la' lb' : List Sp} (q : StepOk la lb p ia ib la' lb') : SwInv k a b la' lb' (if k ia ib = true then pre ++ [p] else pre) := by
 have core : ∀ n s, (k (memb la n s) (memb lb n s) = true) ↔ (k ia ib = true ∧ InS p n s) ∨ k (memb la' n s) (memb lb' n s) = true := by
  intro n s
  have ma := q.ma n s
  have mb := q.mb n s
  by_cases hi : InS p n s
  ·
   have ea : memb la n s = ia := by
    have := q.ina n s hi
    unfold memb
    cases ia <;> simp_all
   have eb : memb lb n s = ib := by
    have := q.inb n s hi
    unfold memb
    cases ib <;> simp_all
   have ea' : memb la' n s = false := by unfold memb; simp [ma, hi]
   have eb' : memb lb' n s = false := by unfold memb; simp [mb, hi]
   rw [ea, eb, ea', eb', hk]
   exact ⟨fun z => .inl ⟨z, hi⟩, fun z => z.elim (fun y => y.1) (fun y => absurd y (by simp))⟩
  ·
   have ea' : memb la' n s = memb la n s := by unfold memb; simp [ma, hi]
   have eb' : memb lb' n s = memb lb n s := by unfold memb; simp [mb, hi]
   rw [ea', eb']
   exact ⟨.inr, fun z => z.elim (fun y => absurd y.2 hi) id⟩
 have subA : ∀ n s, Mem la' n s → Mem la n s := fun n s z => ((q.ma n s).1 z).1
 have subB : ∀ n s, Mem lb' n s → Mem lb n s := fun n s z => ((q.mb n s).1 z).1
 have oldA : ∀ x ∈ pre, Bh x la' := fun x hx => bh_mono (h.ok x hx) (h.ba x hx) q.wa subA
 have oldB : ∀ x ∈ pre, Bh x lb' := fun x hx => bh_mono (h.ok x hx) (h.bb x hx) q.wb subB
 by_cases hkk : k ia ib = true
 ·
  rw [if_pos hkk]
  have le : ∀ x ∈ pre, Le x p := fun x hx => by
   have ox := h.ok x hx
   rcases q.sub with ⟨z, hz, e1, e2, e3⟩ | ⟨z, hz, e1, e2, e3⟩
   ·
    have := h.ba x hx z hz; unfold Le SpOk at *; omega
   ·
    have := h.bb x hx z hz; unfold Le SpOk at *; omega
  refine ⟨q.wa, q.wb, fun z hz => ?_, List.pairwise_append.2 ⟨h.up, by simp, fun x hx y hy => by simp at hy; subst hy; exact le x hx⟩, fun x hx => ?_, fun x hx => ?_, by have := q.pot; have := h.cnt; simp; omega, fun n s => ?_⟩
  ·
   rcases List.mem_append.1 hz with w | w
   ·
    exact h.ok z w
   ·
    simp at w; subst w; exact q.ok.1
  ·
   rcases List.mem_append.1 hx with w | w
   ·
    exact oldA x w
   ·
    simp at w; subst w; exact q.ba
  ·
   rcases List.mem_append.1 hx with w | w
   ·
    exact oldB x w
   ·
    simp at w; subst w; exact q.bb
  ·
   rw [h.m n s, core n s, mem_append, mem_one]
   constructor
   ·
    rintro (z | z | z); exact .inl (.inl z); exact .inl (.inr z.2); exact .inr z
   ·
    rintro ((z | z) | z); exact .inl z; exact .inr (.inl ⟨hkk, z⟩); exact .inr (.inr z)
 ·
  rw [if_neg hkk]
  refine ⟨q.wa, q.wb, h.ok, h.up, oldA, oldB, by have := q.pot; have := h.cnt; omega, fun n s => ?_⟩
  rw [h.m n s, core n s]
  constructor
  ·
   rintro (z | z | z); exact .inl z; exact absurd z.1 hkk; exact .inr z
  ·
   rintro (z | z); exact .inl z; exact .inr (.inr z)
theorem SwInv.done {k : Bool → Bool → Bool} (hk : k false false = false) {a b pre : List Sp} (h : SwInv k a b [] [] pre) : Norm (pre.foldl pushP []) ∧ ∀ n s, Mem (pre.foldl pushP []) n s ↔ k (memb a n s) (memb b n s) = true := by
 obtain ⟨c, d⟩ := fold_norm (zs := pre) norm_nil h.ok h.up (by simp)
 refine ⟨c, fun n s => ?_⟩
 rw [d n s, h.m n s]
 have e : memb [] n s = false := by unfold memb; simp [mem_nil]
 rw [e, hk]
 exact ⟨fun q => .inl (q.resolve_left mem_nil), fun q => .inr (q.resolve_right (by simp))⟩
end
section

def Lt3 (x y : Sp) : Prop := x.1 < y.1 ∨ x.1 = y.1 ∧ (x.2.1 < y.2.1 ∨ x.2.1 = y.2.1 ∧ x.2.2 < y.2.2)
instance (x y : Sp) : Decidable (Lt3 x y) := by unfold Lt3; exact inferInstance
def cntS (x : Sp) : List Sp → Nat
 | [] => 0
 | y :: l => if Lt3 y x then cntS x l + 1 else 0
def insS (x : Sp) (l : List Sp) : List Sp := l.take (cntS x l) ++ x :: l.drop (cntS x l)
def riseS (l : List Sp) : List Sp := l.foldl (fun r x => insS x r) []
def tidyS (l : List Sp) : List Sp := (riseS l).foldl pushP []
theorem cntS_le (x : Sp) : ∀ l, cntS x l ≤ l.length
 | [] => Nat.le_refl _
 | y :: l => by unfold cntS; split <;> have := cntS_le x l <;> simp <;> omega
theorem cntS_lt (x : Sp) : ∀ (l : List Sp) (i : Nat) (y : Sp), l[i]? = some y → i < cntS x l → Lt3 y x
 | [], i, y, h, _ => by simp at h
 | z :: l, 0, y, h, hi => by
  simp at h; subst h
  unfold cntS at hi
  split at hi
  ·
   assumption
  ·
   omega
 | z :: l, i + 1, y, h, hi => by
  unfold cntS at hi
  split at hi
  ·
   exact cntS_lt x l i y (by simpa using h) (by omega)
  ·
   omega
theorem cntS_at (x : Sp) : ∀ (l : List Sp) (y : Sp), l[cntS x l]? = some y → ¬ Lt3 y x
 | [], y, h => by simp at h
 | z :: l, y, h => by
  unfold cntS at h
  split at h
  ·
   exact cntS_at x l y (by simpa using h)
  ·
   simp at h; subst h; assumption
theorem insS_len (x : Sp) (l : List Sp) : (insS x l).length = l.length + 1 := by
 unfold insS
 have := cntS_le x l
 simp; omega
theorem insS_mem (x y : Sp) (l : List Sp) : y ∈ insS x l ↔ y = x ∨ y ∈ l := by
 unfold insS
 rw [List.mem_append, List.mem_cons]
 conv => rhs; rw [← List.take_append_drop (cntS x l) l, List.mem_append]
 constructor
 ·
  rintro (h | h | h)
  ·
   exact .inr (.inl h)
  ·
   exact .inl h
  ·
   exact .inr (.inr h)
 ·
  rintro (h | h | h)
  ·
   exact .inr (.inl h)
  ·
   exact .inl h
  ·
   exact .inr (.inr h)
def Ge3 (x y : Sp) : Prop := ¬ Lt3 y x
theorem Ge3.le {x y : Sp} (h : Ge3 x y) : Le x y := by unfold Ge3 Lt3 Le at *; omega
theorem insS_up (x : Sp) (l : List Sp) (h : l.Pairwise Ge3) : (insS x l).Pairwise Ge3 := by
 unfold insS
 have hs : (l.take (cntS x l) ++ l.drop (cntS x l)).Pairwise Ge3 := by rw [List.take_append_drop]; exact h
 rw [List.pairwise_append] at hs ⊢
 obtain ⟨a, b, c⟩ := hs
 have hd : ∀ y ∈ l.drop (cntS x l), Ge3 x y := by
  cases hdr : l.drop (cntS x l) with
  | nil => simp
  | cons z r =>
   have hz : l[cntS x l]? = some z := by
    have : (l.drop (cntS x l))[0]? = some z := by rw [hdr]; rfl
    simpa using this
   have hg : Ge3 x z := cntS_at x l z hz
   rw [hdr] at b
   intro y hy
   rcases List.mem_cons.1 hy with rfl | q
   ·
    exact hg
   ·
    have := (List.pairwise_cons.1 b).1 y q
    unfold Ge3 Lt3 at *
    omega
 have ht : ∀ y ∈ l.take (cntS x l), Lt3 y x := fun y hy => by
  obtain ⟨i, hi, rfl⟩ := List.getElem_of_mem hy
  rw [List.length_take] at hi
  rw [List.getElem_take]
  exact cntS_lt x l i _ (List.getElem?_eq_getElem (by omega)) (by omega)
 refine ⟨a, List.pairwise_cons.2 ⟨hd, b⟩, fun y hy z hz => ?_⟩
 rcases List.mem_cons.1 hz with rfl | q
 ·
  have := ht y hy
  unfold Ge3 Lt3 at *
  omega
 ·
  exact c y hy z q
theorem fold_ins : ∀ (l r : List Sp), r.Pairwise Ge3 → (l.foldl (fun r x => insS x r) r).Pairwise Ge3 ∧ (∀ y, y ∈ l.foldl (fun r x => insS x r) r ↔ y ∈ l ∨ y ∈ r) ∧ (l.foldl (fun r x => insS x r) r).length = l.length + r.length
 | [], r, h => ⟨h, by simp, by simp⟩
 | x :: l, r, h => by
  obtain ⟨a, b, c⟩ := fold_ins l (insS x r) (insS_up x r h)
  rw [List.foldl_cons]
  refine ⟨a, fun y => ?_, by rw [c, insS_len]; simp; omega⟩
  rw [b y, insS_mem, List.mem_cons]
  constructor
  ·
   rintro (q | q | q); exact .inl (.inr q); exact .inl (.inl q); exact .inr q
  ·
   rintro ((q | q) | q); exact .inr (.inl q); exact .inl q; exact .inr (.inr q)
theorem rise_props (l : List Sp) : (riseS l).Pairwise Ge3 ∧ (∀ y, y ∈ riseS l ↔ y ∈ l) ∧ (riseS l).length = l.length := by
 obtain ⟨a, b, c⟩ := fold_ins l [] List.Pairwise.nil
 exact ⟨a, fun y => by rw [show riseS l = l.foldl (fun r x => insS x r) [] from rfl, b y]; simp, by rw [show riseS l = l.foldl (fun r x => insS x r) [] from rfl, c]; simp⟩
theorem pair_le {l : List Sp} (h : l.Pairwise Ge3) : l.Pairwise Le := h.imp (fun q => q.le)
theorem mem_same {l m : List Sp} (h : ∀ y, y ∈ l ↔ y ∈ m) (n s : Int) : Mem l n s ↔ Mem m n s := ⟨fun ⟨x, hx, hi⟩ => ⟨x, (h x).1 hx, hi⟩, fun ⟨x, hx, hi⟩ => ⟨x, (h x).2 hx, hi⟩⟩
theorem tidy_norm {l : List Sp} (h : ∀ x ∈ l, SpOk x) : Norm (tidyS l) ∧ ∀ n s, Mem (tidyS l) n s ↔ Mem l n s := by
 obtain ⟨a, b, c⟩ := rise_props l
 obtain ⟨d, e⟩ := fold_norm (zs := riseS l) norm_nil (fun z hz => h z ((b z).1 hz)) (pair_le a) (by simp)
 exact ⟨d, fun n s => by rw [show tidyS l = (riseS l).foldl pushP [] from rfl, e n s, mem_same b n s]; exact ⟨fun q => q.resolve_left mem_nil, .inr⟩⟩
def B3 (x : Sp) : Prop := 1 ≤ x.1 ∧ x.1 ≤ 200 ∧ 1 ≤ x.2.1 ∧ x.2.1 ≤ x.2.2 ∧ x.2.2 ≤ 2147483647
theorem drop_set {l : List Sp} {y : Sp} (h : l.getLast? = some y) (z : Sp) : l.dropLast ++ [z] = l.set (l.length - 1) z := by
 have es := last_split h
 rw [es]
 simp
theorem push_props {out : List Sp} {z : Sp} (h : ∀ x ∈ out, B3 x) (hz : B3 z) : (∀ x ∈ pushP out z, B3 x) ∧ (pushP out z).length ≤ out.length + 1 := by
 unfold pushP
 cases hg : out.getLast? with
 | none => exact ⟨fun x hx => by simp at hx; subst hx; exact hz, by simp⟩
 | some y =>
  have es := last_split hg
  have hy : B3 y := h y (by rw [es]; simp)
  simp only
  split
  ·
   refine ⟨fun x hx => ?_, by simp⟩
   rcases List.mem_append.1 hx with q | q
   ·
    exact h x q
   ·
    simp at q; subst q; exact hz
  ·
   refine ⟨fun x hx => ?_, by rw [drop_set hg, List.length_set]; omega⟩
   rcases List.mem_append.1 hx with q | q
   ·
    exact h x (List.dropLast_subset _ q)
   ·
    simp at q; subst q; unfold B3 at *; simp only; omega
theorem fold_props : ∀ (zs out : List Sp), (∀ x ∈ out, B3 x) → (∀ x ∈ zs, B3 x) → (∀ x ∈ zs.foldl pushP out, B3 x) ∧ (zs.foldl pushP out).length ≤ out.length + zs.length
 | [], out, h, _ => ⟨h, by simp⟩
 | z :: zs, out, h, hz => by
  obtain ⟨a, b⟩ := push_props h (hz z (by simp))
  obtain ⟨c, d⟩ := fold_props zs (pushP out z) a (fun x hx => hz x (by simp [hx]))
  rw [List.foldl_cons]
  exact ⟨c, by simp; omega⟩
theorem last_at {l : List Sp} {y : Sp} (h : l[l.length - 1]? = some y) : l.getLast? = some y := by rw [List.getLast?_eq_getElem?]; exact h
theorem push_apart' {out : List Sp} {y z : Sp} (h : out[out.length - 1]? = some y) (ha : Ap y z) : pushP out z = out ++ [z] := by
 unfold pushP; rw [last_at h]; simp only; rw [if_pos ha]
theorem push_touch {out : List Sp} {y z : Sp} (h : out[out.length - 1]? = some y) (ha : ¬ Ap y z) : pushP out z = out.set (out.length - 1) (y.1, y.2.1, max y.2.2 z.2.2) := by
 unfold pushP; rw [last_at h]; simp only; rw [if_neg ha, drop_set (last_at h)]
theorem push_none (z : Sp) : pushP [] z = [z] := rfl
end
section

theorem ok_some : ∀ (l : List Sp) (y : Sp), y.2.1 ≤ y.2.2 → okFrom (some y) l = true → (∀ x ∈ l, FineS x.1 x.2.1 x.2.2 ∧ Ap y x) ∧ l.Pairwise Ap
 | [], y, _, _ => ⟨by simp, List.Pairwise.nil⟩
 | x :: l, y, hy, h => by
  simp only [okFrom, Bool.and_eq_true, decide_eq_true_eq] at h
  obtain ⟨⟨h1, h2⟩, h3⟩ := h
  have ox : x.2.1 ≤ x.2.2 := h1.2.2.2.1
  obtain ⟨a, b⟩ := ok_some l x ox h3
  have hyx : Ap y x := h2
  refine ⟨fun z hz => ?_, List.pairwise_cons.2 ⟨fun z hz => (a z hz).2, b⟩⟩
  rcases List.mem_cons.1 hz with rfl | q
  ·
   exact ⟨h1, hyx⟩
  ·
   exact ⟨(a z q).1, hyx.trans (a z q).2 ox⟩
theorem some_ok : ∀ (l : List Sp) (y : Sp), (∀ x ∈ l, FineS x.1 x.2.1 x.2.2 ∧ Ap y x) → l.Pairwise Ap → okFrom (some y) l = true
 | [], y, _, _ => rfl
 | x :: l, y, h, hp => by
  have hp' := List.pairwise_cons.1 hp
  simp only [okFrom, Bool.and_eq_true, decide_eq_true_eq]
  exact ⟨⟨(h x (by simp)).1, (h x (by simp)).2⟩, some_ok l x (fun z hz => ⟨(h z (by simp [hz])).1, hp'.1 z hz⟩) hp'.2⟩
theorem wf_of_chk {xs : List Sp} (h : chkS xs = 0) : WfC xs ∧ xs.length ≤ 4000 := by
 unfold chkS at h
 split at h
 ·
  rename_i hc
  refine ⟨?_, hc.1⟩
  cases xs with
  | nil => exact ⟨norm_nil, by simp⟩
  | cons x l =>
   have h2 := hc.2
   simp only [okFrom, Bool.and_eq_true, decide_eq_true_eq] at h2
   obtain ⟨h1, h3⟩ := h2
   have ox : x.2.1 ≤ x.2.2 := h1.2.2.2.1
   obtain ⟨a, b⟩ := ok_some l x ox h3
   have fine : ∀ z ∈ x :: l, FineS z.1 z.2.1 z.2.2 := fun z hz => by
    rcases List.mem_cons.1 hz with rfl | q
    ·
     exact h1
    ·
     exact (a z q).1
   exact ⟨⟨fun z hz => (fine z hz).2.2.2.1, List.pairwise_cons.2 ⟨fun z hz => (a z hz).2, b⟩⟩, fun z hz => by have := fine z hz; unfold FineS at this; omega⟩
 ·
  exact absurd h (by decide)
theorem chk_of_wf {xs : List Sp} (h : WfC xs) (hl : xs.length ≤ 4000) : chkS xs = 0 := by
 unfold chkS
 rw [if_pos]
 refine ⟨hl, ?_⟩
 have fine : ∀ z ∈ xs, FineS z.1 z.2.1 z.2.2 := fun z hz => by
  have := h.2 z hz
  have o := h.1.1 z hz
  unfold FineS SpOk at *
  omega
 cases xs with
 | nil => rfl
 | cons x l =>
  have hp := List.pairwise_cons.1 h.1.2
  simp only [okFrom, Bool.and_eq_true, decide_eq_true_eq]
  exact ⟨fine x (by simp), some_ok l x (fun z hz => ⟨fine z (by simp [hz]), hp.1 z hz⟩) hp.2⟩
theorem chk_two (xs : List Sp) : chkS xs = 0 ∨ chkS xs = 2 := by unfold chkS; split <;> simp
end
section
open Go.RowKit Go.Lib


theorem push_any (w : World) (c : Nat) (z : Sp) (A : Option Addr) (xs : List Sp) (h : OwnK spanTy w A c xs) (hn : xs.length ≤ 100000) (hb : ∀ x ∈ xs, B3 x) : Calls Tryz.prog 212 #[.slice A xs.length c, .agg #[.int .i64 z.1, .int .i64 z.2.1, .int .i64 z.2.2]] w fun e w' => ∃ A' c', e = .returned (.slice A' (pushP xs z).length c') ∧ OwnK spanTy w' A' c' (pushP xs z) ∧ (A' = A ∨ ∀ a, A' = some a → w.heap.size ≤ a.block) ∧ ∀ S : List Nat, (∀ a, A = some a → a.block ∈ S) → Chg S w w' := by
 by_cases h0 : xs.length = 0
 ·
  have e : xs = [] := List.eq_nil_of_length_eq_zero h0
  subst e
  exact push_first w c z.1 z.2.1 z.2.2 A h
 ·
  obtain ⟨y, hy⟩ : ∃ y, xs[xs.length - 1]? = some y := ⟨_, List.getElem?_eq_getElem (by omega)⟩
  have by_ := hb y (List.mem_of_getElem? hy)
  unfold B3 at by_
  by_cases ha : Ap y z
  ·
   refine (push_apart w c z.1 z.2.1 z.2.2 A xs y h (by omega) hn hy (by omega) (by omega) ha).mono ?_
   rintro e w' ⟨A', c', rfl, ho, hA, hc⟩
   rw [push_apart' hy ha]
   exact ⟨A', c', by simp, ho, hA, hc⟩
  ·
   refine (push_touches w c z.1 z.2.1 z.2.2 A xs y h (by omega) hn hy (by omega) (by omega) ha).mono ?_
   rintro e w' ⟨rfl, ho, hc⟩
   rw [push_touch hy ha]
   exact ⟨A, c, by rw [List.length_set], ho, .inl rfl, hc⟩
end
section
open Go.RowKit Go.Lib


set_option maxRecDepth 100000 in
theorem next_none_c (w : World) (g : Nat) (h0 h1 h2 : Value) (B : Option Addr) (c : Nat) (hb : w.heap[g]? = some (.cells #[h0, h1, h2, .slice B 0 c] 211 (0, 0))) :
  Calls Tryz.prog 208 #[.pointer (some ⟨g, 0, none⟩)] w fun e w' => e = .returned (.tuple #[]) ∧ w'.heap[g]? = some (.cells #[.int .i64 201, .int .i64 0, .int .i64 0, .slice B 0 c] 211 (0, 0)) ∧ Chg [g] w w' := by
 have HB := h_ hb
 clear hb
 go_enter Tryz.func208, Tryz.ntmps208
 have z0 := cell_of HB.out 0
 have z1 := cell_of HB.out 1
 have z2 := cell_of HB.out 2
 have z3 := cell_of HB.out 3
 have fz0 := free_of HB.out 0
 have fz1 := free_of HB.out 1
 have fz2 := free_of HB.out 2
 simp only [gA, gY, gZ] at z0 z1 z2 z3
 have p0 := heap_setCell_same w g 0 _ _ (.int .i64 201) HB.out
 have p1 := heap_setCell_same (w.setCell ⟨g, 0, none⟩ (.int .i64 201)) g 1 _ _ (.int .i64 0) p0
 have p2 := heap_setCell_same ((w.setCell ⟨g, 0, none⟩ (.int .i64 201)).setCell ⟨g, 1, none⟩ (.int .i64 0)) g 2 _ _ (.int .i64 0) p1
 simp only [sA, s0, s1] at p2
 have HP := h_ p2
 have CP := h_ ((((Chg.refl [g] w).setCell (p := ⟨g, 0, none⟩) (.inl (by simp)) (.int .i64 201)).setCell (p := ⟨g, 1, none⟩) (.inl (by simp)) (.int .i64 0)).setCell (p := ⟨g, 2, none⟩) (.inl (by simp)) (.int .i64 0))
 clear p0 p1 p2; go_wp2
 refine bodyPost_ret (results_none rfl _ _ _) rfl ?_
 exact ⟨rfl, HP.out, CP.out⟩
set_option maxRecDepth 100000 in
theorem next_some_c (w : World) (g : Nat) (h0 h1 h2 : Value) (B : Option Addr) (c : Nat) (x : Sp) (r : List Sp) (hb : w.heap[g]? = some (.cells #[h0, h1, h2, .slice B (r.length + 1) c] 211 (0, 0))) (hr : RdK spanTy w B (r.length + 1) (x :: r)) (hn : r.length + 1 ≤ c ∧ c ≤ maxLen) (hB : ∀ a, B = some a → a.block ≠ g) :
  Calls Tryz.prog 208 #[.pointer (some ⟨g, 0, none⟩)] w fun e w' => e = .returned (.tuple #[]) ∧ ∃ B' c', w'.heap[g]? = some (.cells #[.int .i64 x.1, .int .i64 x.2.1, .int .i64 x.2.2, (.slice B' r.length c')] 211 (0, 0)) ∧ RdK spanTy w' B' r.length r ∧ (r.length ≤ c' ∧ c' ≤ maxLen) ∧ (∀ a, B' = some a → ∃ b, B = some b ∧ a.block = b.block) ∧ Chg [g] w w' := by
 obtain ⟨gB, oB, eB, _⟩ := hr.line (by omega)
 subst eB
 have HR := h_ hr
 have HN := h_ hn
 have NB := h_ (hB ⟨gB, oB, none⟩ rfl)
 obtain ⟨y0, y1, y2⟩ := spanCells hr (j := 0) (x := x) rfl
 rw [Nat.zero_mul, Nat.add_zero] at y0 y1 y2
 have HB := h_ hb
 have Y := h_ (show w.cell? ⟨gB, oB, none⟩ = some (.int .i64 x.1) ∧ w.cell? ⟨gB, oB + 1, none⟩ = some (.int .i64 x.2.1) ∧ w.cell? ⟨gB, oB + 2, none⟩ = some (.int .i64 x.2.2) from ⟨y0, y1, y2⟩)
 clear hb hr hn y0 y1 y2 hB
 have n0 : (((r.length + 1 : Nat) : Int) == 0) = false := by simp; omega
 have n1 : (0 : Int) < ((r.length + 1 : Nat) : Int) := by omega
 have n2 : (1 : Int) ≤ ((r.length + 1 : Nat) : Int) := by omega
 have n3 : ((r.length + 1 : Nat) : Int) ≤ (c : Int) := by have := HN.out; omega
 have n5 : (1 : Int) ≤ (r.length : Int) + 1 := by omega
 have n4 : r.length + 1 - 1 = r.length := by omega
 have HT : Hid (RdK spanTy w (if c = 1 then some ⟨gB, oB, none⟩ else some ⟨gB, oB + 3, none⟩) r.length r) := h_ (by
  split
  ·
   have := HN.out
   have e : r = [] := List.eq_nil_of_length_eq_zero (by omega)
   subst e
   exact RdK.nil _ _
  ·
   have q := HR.out.part 1 r.length (by omega)
   simpa [RowTy.k, spanTy] using q)
 go_enter Tryz.func208, Tryz.ntmps208
 have z3 := cell_of HB.out 3
 simp only [gA, gY, gZ] at z3
 go_upto_region 2 with fail
 clear z3
 refine wp_region_held_drew (S := fun _ => True) (by kernel_rfl) trivial (fun hHeld => ?_)
 have CD := h_ (Chg.refl [g] w).drew
 replace HB := h_ (show w.drew.heap[g]? = some _ from HB.out)
 replace Y := h_ (show w.drew.cell? ⟨gB, oB, none⟩ = some (.int .i64 x.1) ∧ w.drew.cell? ⟨gB, oB + 1, none⟩ = some (.int .i64 x.2.1) ∧ w.drew.cell? ⟨gB, oB + 2, none⟩ = some (.int .i64 x.2.2) from Y.out)
 replace HT := h_ (show RdK spanTy w.drew _ r.length r from HT.out.chg (Chg.refl [] w).drew (by simp))
 generalize w.drew = wd at *
 generalize hAD : (if c = 1 then some ⟨gB, oB, none⟩ else some ⟨gB, oB + 3, none⟩ : Option Addr) = AD at *
 have AB : Hid (∀ a, AD = some a → a.block = gB) := h_ (by intro a ha; rw [← hAD] at ha; split at ha <;> cases ha <;> rfl)
 refine sy 0 12 rfl rfl ?_ (hS := trivial)
 try simp only [Act.put, sA, s0, s1]
 refine sy 1 13 rfl rfl ?_ (hS := trivial)
 try simp only [Act.put, sA, s0, s1]
 refine sy 2 14 rfl rfl ?_ (hS := trivial)
 try simp only [Act.put, sA, s0, s1]
 refine sy 3 15 rfl rfl ?_ (hS := trivial)
 try simp only [Act.put, sA, s0, s1]
 refine sy 4 16 rfl rfl ?_ (hS := trivial)
 try simp only [Act.put, sA, s0, s1]
 refine sy 8 20 rfl rfl ?_ (hS := trivial)
 try simp only [Act.put, sA, s0, s1]
 refine sy 9 21 rfl rfl ?_ (hS := trivial)
 try simp only [Act.put, sA, s0, s1]
 refine sy 10 22 rfl rfl ?_ (hS := trivial)
 try simp only [Act.put, sA, s0, s1]
 refine wpAnyH_ready (rs := [5, 11]) (by kernel_rfl) (by simp) ?_
 refine AllReadyH.cons rfl (fun K hK => ?_) (AllReadyH.cons rfl (fun K hK => ?_) AllReadyH.nil)
 ·
  skip
  replace hK := h_ hK
  have z3 := cell_of HB.out 3
  simp only [gA, gY, gZ] at z3
  go_simp; clear z3 hHeld
  refine hK.out _ _ trivial (fun hHeld => ?_)
  clear hK K; try simp only [Act.put, sA, s0, s1]
  refine sy 6 18 rfl rfl ?_ (hS := trivial)
  try simp only [Act.put, sA, s0, s1]
  refine wpAnyH_ready (rs := [7, 11]) (by kernel_rfl) (by simp) ?_
  refine AllReadyH.cons rfl (fun K hK => ?_) (AllReadyH.cons rfl (fun K hK => ?_) AllReadyH.nil)
  ·
   skip
   replace hK := h_ hK
   obtain ⟨y0, y1, y2⟩ := Y.out
   go_simp; clear y0 y1 y2 hHeld
   refine hK.out _ _ trivial (fun hHeld => ?_)
   clear hK K; try simp only [Act.put, sA, s0, s1]
   refine on1 11 rfl (fun K hK => ?_)
   have z3 := cell_of HB.out 3
   simp only [gA, gY, gZ] at z3
   go_simp; clear z3 hHeld
   refine hK.out _ _ trivial (fun hHeld => ?_)
   clear hK K; try simp only [Act.put, sA, s0, s1]
   refine sy 12 24 rfl rfl ?_ (hS := trivial)
   try simp only [Act.put, sA, s0, s1]
   refine sy 13 25 rfl rfl ?_ (hS := trivial)
   try simp only [Act.put, sA, s0, s1]
   refine sy 14 26 rfl rfl ?_ (hS := trivial)
   try simp only [Act.put, sA, s0, s1]
   refine on1 15 rfl (fun K hK => ?_)
   have z0 := cell_of HB.out 0
   have z1 := cell_of HB.out 1
   have z2 := cell_of HB.out 2
   have fz0 := free_of HB.out 0
   have fz1 := free_of HB.out 1
   have fz2 := free_of HB.out 2
   simp only [gA, gY, gZ] at z0 z1 z2
   have p0 := heap_setCell_same wd g 0 _ _ (.int .i64 x.1) HB.out
   have p1 := heap_setCell_same (wd.setCell ⟨g, 0, none⟩ (.int .i64 x.1)) g 1 _ _ (.int .i64 x.2.1) p0
   have p2 := heap_setCell_same ((wd.setCell ⟨g, 0, none⟩ (.int .i64 x.1)).setCell ⟨g, 1, none⟩ (.int .i64 x.2.1)) g 2 _ _ (.int .i64 x.2.2) p1
   simp only [sA, s0, s1] at p2
   have HP := h_ p2
   clear p0 p1 p2; go_simp; clear hHeld z0 fz0 z1 fz1 z2 fz2
   refine hK.out _ _ trivial (fun hHeld => ?_)
   clear hK K; try simp only [Act.put, sA, s0, s1]
   refine sy 16 27 rfl rfl ?_ (hS := trivial)
   try simp only [Act.put, sA, s0, s1]
   refine sy 17 28 rfl rfl ?_ (hS := trivial)
   try simp only [Act.put, sA, s0, s1]
   refine on1 18 rfl (fun K hK => ?_)
   have z3 := cell_of HP.out 3
   have fz3 := free_of HP.out 3
   simp only [gA, gY, gZ] at z3
   go_simp; clear hHeld z3 fz3
   refine hK.out _ _ trivial (fun hHeld => ?_)
   clear hK K; try simp only [Act.put, sA, s0, s1]
   refine wpAnyH_done (by kernel_rfl) ?_ _
   have HQ := heap_setCell_same _ g 3 _ _ (.slice AD r.length (c - 1)) HP.out
   simp only [sA, s0, s1] at HQ
   have CQ := h_ (((((Chg.refl [g] wd).setCell (p := ⟨g, 0, none⟩) (.inl (by simp)) (.int .i64 x.1)).setCell (p := ⟨g, 1, none⟩) (.inl (by simp)) (.int .i64 x.2.1)).setCell (p := ⟨g, 2, none⟩) (.inl (by simp)) (.int .i64 x.2.2)).setCell (p := ⟨g, 3, none⟩) (.inl (by simp)) (.slice AD r.length (c - 1)))
   have HQ2 := h_ HQ
   clear HQ; go_wp2
   go_end0
   exact ⟨rfl, AD, c - 1, HQ2.out, HT.out.chg CQ.out (fun a ha => by rw [AB.out a ha]; simpa using NB.out), by have := HN.out; omega, fun a ha => by (first | exact ⟨_, rfl, AB.out a ha⟩ | exact AB.out a ha | simpa using AB.out a ha), CD.out.trans CQ.out⟩
  ·
   skip
   replace hK := h_ hK
   have z3 := cell_of HB.out 3
   simp only [gA, gY, gZ] at z3
   go_simp; clear z3 hHeld
   refine hK.out _ _ trivial (fun hHeld => ?_)
   clear hK K; try simp only [Act.put, sA, s0, s1]
   refine sy 12 24 rfl rfl ?_ (hS := trivial)
   try simp only [Act.put, sA, s0, s1]
   refine on1 7 rfl (fun K hK => ?_)
   obtain ⟨y0, y1, y2⟩ := Y.out
   go_simp; clear y0 y1 y2 hHeld
   refine hK.out _ _ trivial (fun hHeld => ?_)
   clear hK K; try simp only [Act.put, sA, s0, s1]
   refine sy 13 25 rfl rfl ?_ (hS := trivial)
   try simp only [Act.put, sA, s0, s1]
   refine sy 14 26 rfl rfl ?_ (hS := trivial)
   try simp only [Act.put, sA, s0, s1]
   refine on1 15 rfl (fun K hK => ?_)
   have z0 := cell_of HB.out 0
   have z1 := cell_of HB.out 1
   have z2 := cell_of HB.out 2
   have fz0 := free_of HB.out 0
   have fz1 := free_of HB.out 1
   have fz2 := free_of HB.out 2
   simp only [gA, gY, gZ] at z0 z1 z2
   have p0 := heap_setCell_same wd g 0 _ _ (.int .i64 x.1) HB.out
   have p1 := heap_setCell_same (wd.setCell ⟨g, 0, none⟩ (.int .i64 x.1)) g 1 _ _ (.int .i64 x.2.1) p0
   have p2 := heap_setCell_same ((wd.setCell ⟨g, 0, none⟩ (.int .i64 x.1)).setCell ⟨g, 1, none⟩ (.int .i64 x.2.1)) g 2 _ _ (.int .i64 x.2.2) p1
   simp only [sA, s0, s1] at p2
   have HP := h_ p2
   clear p0 p1 p2; go_simp; clear hHeld z0 fz0 z1 fz1 z2 fz2
   refine hK.out _ _ trivial (fun hHeld => ?_)
   clear hK K; try simp only [Act.put, sA, s0, s1]
   refine sy 16 27 rfl rfl ?_ (hS := trivial)
   try simp only [Act.put, sA, s0, s1]
   refine sy 17 28 rfl rfl ?_ (hS := trivial)
   try simp only [Act.put, sA, s0, s1]
   refine on1 18 rfl (fun K hK => ?_)
   have z3 := cell_of HP.out 3
   have fz3 := free_of HP.out 3
   simp only [gA, gY, gZ] at z3
   go_simp; clear hHeld z3 fz3
   refine hK.out _ _ trivial (fun hHeld => ?_)
   clear hK K; try simp only [Act.put, sA, s0, s1]
   refine wpAnyH_done (by kernel_rfl) ?_ _
   have HQ := heap_setCell_same _ g 3 _ _ (.slice AD r.length (c - 1)) HP.out
   simp only [sA, s0, s1] at HQ
   have CQ := h_ (((((Chg.refl [g] wd).setCell (p := ⟨g, 0, none⟩) (.inl (by simp)) (.int .i64 x.1)).setCell (p := ⟨g, 1, none⟩) (.inl (by simp)) (.int .i64 x.2.1)).setCell (p := ⟨g, 2, none⟩) (.inl (by simp)) (.int .i64 x.2.2)).setCell (p := ⟨g, 3, none⟩) (.inl (by simp)) (.slice AD r.length (c - 1)))
   have HQ2 := h_ HQ
   clear HQ; go_wp2
   go_end0
   exact ⟨rfl, AD, c - 1, HQ2.out, HT.out.chg CQ.out (fun a ha => by rw [AB.out a ha]; simpa using NB.out), by have := HN.out; omega, fun a ha => by (first | exact ⟨_, rfl, AB.out a ha⟩ | exact AB.out a ha | simpa using AB.out a ha), CD.out.trans CQ.out⟩
 ·
  skip
  replace hK := h_ hK
  have z3 := cell_of HB.out 3
  simp only [gA, gY, gZ] at z3
  go_simp; clear z3 hHeld
  refine hK.out _ _ trivial (fun hHeld => ?_)
  clear hK K; try simp only [Act.put, sA, s0, s1]
  refine sy 12 24 rfl rfl ?_ (hS := trivial)
  try simp only [Act.put, sA, s0, s1]
  refine on1 5 rfl (fun K hK => ?_)
  have z3 := cell_of HB.out 3
  simp only [gA, gY, gZ] at z3
  go_simp; clear z3 hHeld
  refine hK.out _ _ trivial (fun hHeld => ?_)
  clear hK K; try simp only [Act.put, sA, s0, s1]
  refine sy 6 18 rfl rfl ?_ (hS := trivial)
  try simp only [Act.put, sA, s0, s1]
  refine on1 7 rfl (fun K hK => ?_)
  obtain ⟨y0, y1, y2⟩ := Y.out
  go_simp; clear y0 y1 y2 hHeld
  refine hK.out _ _ trivial (fun hHeld => ?_)
  clear hK K; try simp only [Act.put, sA, s0, s1]
  refine sy 13 25 rfl rfl ?_ (hS := trivial)
  try simp only [Act.put, sA, s0, s1]
  refine sy 14 26 rfl rfl ?_ (hS := trivial)
  try simp only [Act.put, sA, s0, s1]
  refine on1 15 rfl (fun K hK => ?_)
  have z0 := cell_of HB.out 0
  have z1 := cell_of HB.out 1
  have z2 := cell_of HB.out 2
  have fz0 := free_of HB.out 0
  have fz1 := free_of HB.out 1
  have fz2 := free_of HB.out 2
  simp only [gA, gY, gZ] at z0 z1 z2
  have p0 := heap_setCell_same wd g 0 _ _ (.int .i64 x.1) HB.out
  have p1 := heap_setCell_same (wd.setCell ⟨g, 0, none⟩ (.int .i64 x.1)) g 1 _ _ (.int .i64 x.2.1) p0
  have p2 := heap_setCell_same ((wd.setCell ⟨g, 0, none⟩ (.int .i64 x.1)).setCell ⟨g, 1, none⟩ (.int .i64 x.2.1)) g 2 _ _ (.int .i64 x.2.2) p1
  simp only [sA, s0, s1] at p2
  have HP := h_ p2
  clear p0 p1 p2; go_simp; clear hHeld z0 fz0 z1 fz1 z2 fz2
  refine hK.out _ _ trivial (fun hHeld => ?_)
  clear hK K; try simp only [Act.put, sA, s0, s1]
  refine sy 16 27 rfl rfl ?_ (hS := trivial)
  try simp only [Act.put, sA, s0, s1]
  refine sy 17 28 rfl rfl ?_ (hS := trivial)
  try simp only [Act.put, sA, s0, s1]
  refine on1 18 rfl (fun K hK => ?_)
  have z3 := cell_of HP.out 3
  have fz3 := free_of HP.out 3
  simp only [gA, gY, gZ] at z3
  go_simp; clear hHeld z3 fz3
  refine hK.out _ _ trivial (fun hHeld => ?_)
  clear hK K; try simp only [Act.put, sA, s0, s1]
  refine wpAnyH_done (by kernel_rfl) ?_ _
  have HQ := heap_setCell_same _ g 3 _ _ (.slice AD r.length (c - 1)) HP.out
  simp only [sA, s0, s1] at HQ
  have CQ := h_ (((((Chg.refl [g] wd).setCell (p := ⟨g, 0, none⟩) (.inl (by simp)) (.int .i64 x.1)).setCell (p := ⟨g, 1, none⟩) (.inl (by simp)) (.int .i64 x.2.1)).setCell (p := ⟨g, 2, none⟩) (.inl (by simp)) (.int .i64 x.2.2)).setCell (p := ⟨g, 3, none⟩) (.inl (by simp)) (.slice AD r.length (c - 1)))
  have HQ2 := h_ HQ
  clear HQ; go_wp2
  go_end0
  exact ⟨rfl, AD, c - 1, HQ2.out, HT.out.chg CQ.out (fun a ha => by rw [AB.out a ha]; simpa using NB.out), by have := HN.out; omega, fun a ha => by (first | exact ⟨_, rfl, AB.out a ha⟩ | exact AB.out a ha | simpa using AB.out a ha), CD.out.trans CQ.out⟩
end
section
open Go.RowKit Go.Lib


set_option maxRecDepth 100000 in
theorem begin_anyw (w : World) (B : Option Addr) (c : Nat) (l : List Sp) (hr : RdK spanTy w B l.length l) (hn : l.length ≤ c ∧ c ≤ maxLen) (hold : l = [] ∨ ∀ a, B = some a → a.block < w.heap.size) :
  Calls Tryz.prog 191 #[.slice B l.length c] w fun e w' => ∃ B' c', e = .returned (.agg #[.int .i64 (hdP l).1, .int .i64 (hdP l).2.1, .int .i64 (hdP l).2.2, .slice B' l.tail.length c']) ∧ RdK spanTy w' B' l.tail.length l.tail ∧ (l.tail.length ≤ c' ∧ c' ≤ maxLen) ∧ (∀ a, B' = some a → ∃ b, B = some b ∧ a.block = b.block) ∧ Chg [] w w' := by
 have HR := h_ hr
 have HN := h_ hn
 clear hr hn
 obtain ⟨w1, hw1, c1, b1, b2⟩ := news2 w (.cells #[.int .i64 0, .int .i64 0, .int .i64 0, .slice none 0 0] 211) (.cells #[.int .i64 0, .int .i64 0, .int .i64 0, .slice B l.length c] 211)
 have W1 := h_ hw1
 have C1 := h_ c1
 have B1 := h_ b1
 have B2 := h_ b2
 have L1 := h_ (lt_of_heap b2)
 replace HR := h_ (HR.out.chg c1 (by simp))
 have OLD := h_ hold
 clear hw1 c1 b1 b2 hold
 go_enter Tryz.func191, Tryz.ntmps191
 go_wp2_with fail
 rw [← W1.out]
 have S1 : Hid (w.heap.size + 1 < w1.heap.size) := L1
 generalize hg0 : w.heap.size = g0 at *
 clear W1 L1
 have key : Calls Tryz.prog 208 #[.pointer (some ⟨g0 + 1, 0, none⟩)] w1 fun e w' => e = .returned (.tuple #[]) ∧ ∃ B' c', w'.heap[g0 + 1]? = some (.cells #[.int .i64 (hdP l).1, .int .i64 (hdP l).2.1, .int .i64 (hdP l).2.2, .slice B' l.tail.length c'] 211 (0, 0)) ∧ RdK spanTy w' B' l.tail.length l.tail ∧ (l.tail.length ≤ c' ∧ c' ≤ maxLen) ∧ (∀ a, B' = some a → ∃ b, B = some b ∧ a.block = b.block) ∧ Chg [g0 + 1] w1 w' := by
  cases l with
  | nil =>
   refine (next_none_c w1 (g0 + 1) _ _ _ B c B2.out).mono ?_
   rintro e w' ⟨rfl, h1, h2⟩
   exact ⟨rfl, B, c, h1, RdK.nil _ _, ⟨Nat.zero_le _, HN.out.2⟩, fun a ha => ⟨a, ha, rfl⟩, h2⟩
  | cons x r =>
   refine (next_some_c w1 (g0 + 1) _ _ _ B c x r B2.out HR.out HN.out (fun a ha => by have := OLD.out.resolve_left (by simp) a ha; omega)).mono ?_
   rintro e w' ⟨rfl, B2, c2, h1, h2, h3, h4, h5⟩
   exact ⟨rfl, B2, c2, h1, h2, h3, h4, h5⟩
 refine key.mono ?_
 rintro e w2 ⟨rfl, B', c', h1, h2, h3, h4, h5⟩
 have HB := h_ h1
 have HQ := h_ h2
 have H3 := h_ h3
 have H4 := h_ h4
 have C2 := h_ h5
 replace B1 := h_ (h5.at_ B1.out (by simp))
 clear h1 h2 h3 h4 h5 key
 generalize hhd : hdP l = hd at *
 generalize htl : l.tail = tl at *
 have HHD := h_ hhd
 have HTL := h_ htl
 clear hhd htl
 obtain ⟨y0, y1, y2, y3⟩ := ce4 HB.out
 have z0 := cell_of B1.out 0
 have z1 := cell_of B1.out 1
 have z2 := cell_of B1.out 2
 have z3 := cell_of B1.out 3
 have fz0 := free_of B1.out 0
 have fz1 := free_of B1.out 1
 have fz2 := free_of B1.out 2
 have fz3 := free_of B1.out 3
 simp only [gA, gY, gZ] at z0 z1 z2 z3
 generalize hg1 : g0 + 1 = g1 at *
 have p0 := heap_setCell_same w2 g0 0 _ _ (.int .i64 hd.1) B1.out
 have p1 := heap_setCell_same (w2.setCell ⟨g0, 0, none⟩ (.int .i64 hd.1)) g0 1 _ _ (.int .i64 hd.2.1) p0
 have p2 := heap_setCell_same ((w2.setCell ⟨g0, 0, none⟩ (.int .i64 hd.1)).setCell ⟨g0, 1, none⟩ (.int .i64 hd.2.1)) g0 2 _ _ (.int .i64 hd.2.2) p1
 have p3 := heap_setCell_same (((w2.setCell ⟨g0, 0, none⟩ (.int .i64 hd.1)).setCell ⟨g0, 1, none⟩ (.int .i64 hd.2.1)).setCell ⟨g0, 2, none⟩ (.int .i64 hd.2.2)) g0 3 _ _ ((.slice B' tl.length c')) p2
 simp only [sA, s0, s1] at p3
 have HP := h_ p3
 have CP := h_ (((((Chg.refl [g0] w2).setCell (p := ⟨g0, 0, none⟩) (.inl (by simp)) (.int .i64 hd.1)).setCell (p := ⟨g0, 1, none⟩) (.inl (by simp)) (.int .i64 hd.2.1)).setCell (p := ⟨g0, 2, none⟩) (.inl (by simp)) (.int .i64 hd.2.2)).setCell (p := ⟨g0, 3, none⟩) (.inl (by simp)) ((.slice B' tl.length c')))
 clear p0 p1 p2 p3; go_wp2
 generalize ((((w2.setCell ⟨g0, 0, none⟩ (.int .i64 hd.1)).setCell ⟨g0, 1, none⟩ (.int .i64 hd.2.1)).setCell ⟨g0, 2, none⟩ (.int .i64 hd.2.2)).setCell ⟨g0, 3, none⟩ ((.slice B' tl.length c'))) = wf at *
 obtain ⟨q0, q1, q2, q3⟩ := ce4 HP.out
 refine bodyPost_ret (v := .agg #[.int .i64 hd.1, .int .i64 hd.2.1, .int .i64 hd.2.2, .slice B' tl.length c']) (by simp [results, Tryz.results191, go_sem, q0, q1, q2, q3]) rfl ?_
 have e1 := HHD.out
 have e2 := HTL.out
 subst e1; subst e2
 refine ⟨B', c', rfl, (by
  rcases OLD.out with q | q
  ·
   subst q; exact RdK.nil _ _
  ·
   exact HQ.out.chg CP.out (fun a ha => by obtain ⟨b, hb, e⟩ := H4.out a ha; have := q b hb; simp; omega)), H3.out, H4.out, ?_⟩
 exact (C1.out.trans' C2.out (fun z hz => by simp at hz; subst hz; exact .inr (by omega))).trans' CP.out (fun z hz => by simp at hz; subst hz; exact .inr (by omega))
end
section
open Go.RowKit Go.Lib


structure SwQ (w : World) (g : Nat) (X : List Nat) (la lb : List Sp) (K : Nat) (A : Option Addr) (c : Nat) (B : Option Addr) (d : Nat) : Prop where
 hg : w.heap[g]? = some (.cells #[.int .i64 (hdP la).1, .int .i64 (hdP la).2.1, .int .i64 (hdP la).2.2, .slice A la.tail.length c, .int .i64 (hdP lb).1, .int .i64 (hdP lb).2.1, .int .i64 (hdP lb).2.2, .slice B lb.tail.length d, .func (.func K) #[] #[]] 214 (0, 0))
 ra : RdK spanTy w A la.tail.length la.tail
 ca : la.tail.length ≤ c ∧ c ≤ maxLen
 na : la = [] ∨ ∀ a, A = some a → a.block ∈ X
 rb : RdK spanTy w B lb.tail.length lb.tail
 cb : lb.tail.length ≤ d ∧ d ≤ maxLen
 nb : lb = [] ∨ ∀ a, B = some a → a.block ∈ X
 gx : g ∉ X
def SwP (w : World) (g : Nat) (X : List Nat) (la lb : List Sp) (K : Nat) : Prop := ∃ A c B d, SwQ w g X la lb K A c B d
theorem rd_old {w w' : World} {A : Option Addr} {l : List Sp} (h : RdK spanTy w A l.tail.length l.tail) (k : l = [] ∨ RdK spanTy w' A l.tail.length l.tail) : RdK spanTy w' A l.tail.length l.tail := by
 rcases k with rfl | k
 ·
  exact RdK.nil _ _
 ·
  exact k
theorem SwQ.rachg {w w' : World} {g : Nat} {X : List Nat} {la lb : List Sp} {K : Nat} {A : Option Addr} {c : Nat} {B : Option Addr} {d : Nat} (h : SwQ w g X la lb K A c B d) (hc : Chg [g] w w') : RdK spanTy w' A la.tail.length la.tail :=
 rd_old h.ra (h.na.imp id (fun q => h.ra.chg hc (fun a ha hm => by simp at hm; exact h.gx (hm ▸ q a ha))))
theorem SwQ.rbchg {w w' : World} {g : Nat} {X : List Nat} {la lb : List Sp} {K : Nat} {A : Option Addr} {c : Nat} {B : Option Addr} {d : Nat} (h : SwQ w g X la lb K A c B d) (hc : Chg [g] w w') : RdK spanTy w' B lb.tail.length lb.tail :=
 rd_old h.rb (h.nb.imp id (fun q => h.rb.chg hc (fun a ha hm => by simp at hm; exact h.gx (hm ▸ q a ha))))
theorem SwQ.chg {w w' : World} {S : List Nat} {g : Nat} {X : List Nat} {la lb : List Sp} {K : Nat} {A : Option Addr} {c : Nat} {B : Option Addr} {d : Nat} (h : SwQ w g X la lb K A c B d) (hc : Chg S w w') (hg : g ∉ S) (hX : ∀ z ∈ X, z ∉ S) : SwQ w' g X la lb K A c B d :=
 ⟨hc.at_ h.hg hg, rd_old h.ra (h.na.imp id (fun q => h.ra.chg hc (fun a ha => hX _ (q a ha)))), h.ca, h.na, rd_old h.rb (h.nb.imp id (fun q => h.rb.chg hc (fun a ha => hX _ (q a ha)))), h.cb, h.nb, h.gx⟩
theorem SwP.chg {w w' : World} {S : List Nat} {g : Nat} {X : List Nat} {la lb : List Sp} {K : Nat} (h : SwP w g X la lb K) (hc : Chg S w w') (hg : g ∉ S) (hX : ∀ z ∈ X, z ∉ S) : SwP w' g X la lb K := by
 obtain ⟨A, c, B, d, h⟩ := h
 exact ⟨A, c, B, d, h.chg hc hg hX⟩
theorem join3 {α β γ : Type} {F R : α → β → γ → Prop} {G : Prop} (h1 : (∀ a b c, F a b c → R a b c) → G) (h2 : ∀ a b c, F a b c → R a b c) : G := h1 h2
set_option maxRecDepth 100000 in
theorem over_anyw (w : World) (A : Option Addr) (c : Nat) (la : List Sp) (B : Option Addr) (d : Nat) (lb : List Sp) (K : Nat) (X : List Nat) (ha : RdK spanTy w A la.length la) (hca : la.length ≤ c ∧ c ≤ maxLen) (hoa : la = [] ∨ ∀ a, A = some a → a.block < w.heap.size) (hb : RdK spanTy w B lb.length lb) (hcb : lb.length ≤ d ∧ d ≤ maxLen) (hob : lb = [] ∨ ∀ a, B = some a → a.block < w.heap.size) (hxa : la = [] ∨ ∀ a, A = some a → a.block ∈ X) (hxb : lb = [] ∨ ∀ a, B = some a → a.block ∈ X) (hX : ∀ z ∈ X, z < w.heap.size) :
  Calls Tryz.prog 154 #[.slice A la.length c, .slice B lb.length d, .func (.func K) #[] #[]] w fun e w' => ∃ g, e = .returned (.pointer (some ⟨g, 0, none⟩)) ∧ SwP w' g X la lb K ∧ w.heap.size ≤ g ∧ Chg [] w w' := by
 have HA := h_ ha
 have HCA := h_ hca
 have HOA := h_ hoa
 have HB := h_ hb
 have HCB := h_ hcb
 have HOB := h_ hob
 clear ha hca hoa hb hcb hob
 go_enter Tryz.func154, Tryz.ntmps154
 go_wp2_with fail
 refine (begin_anyw w A c la HA.out HCA.out HOA.out).mono ?_
 rintro r w1 ⟨A', c', rfl, h1, h2, h3, h4⟩
 have H1 := h_ h1
 have H2 := h_ h2
 have H3 := h_ h3
 have C1 := h_ h4
 clear h1 h2 h3 h4; go_wp2_with fail
 refine (begin_anyw w1 B d lb (HB.out.chg C1.out (by simp)) HCB.out (HOB.out.imp id (fun q a ha => Nat.lt_of_lt_of_le (q a ha) C1.out.size))).mono ?_
 rintro r w2 ⟨B', d', rfl, h1, h2, h3, h4⟩
 have H4 := h_ h1
 have H5 := h_ h2
 have H6 := h_ h3
 have C2 := h_ h4
 clear h1 h2 h3 h4
 obtain ⟨w3, hw3, c3, b3⟩ := news1 w2 (.cells #[.int .i64 (hdP la).1, .int .i64 (hdP la).2.1, .int .i64 (hdP la).2.2, .slice A' (la.length - 1) c', .int .i64 (hdP lb).1, .int .i64 (hdP lb).2.1, .int .i64 (hdP lb).2.2, .slice B' (lb.length - 1) d', .func (.func K) #[] #[]] 214)
 have W3 := h_ hw3
 have C3 := h_ (C1.out.trans (C2.out.trans c3))
 have FI : Hid (SwP w3 w2.heap.size X la lb K) := h_ ⟨A', c', B', d', by rw [List.length_tail, List.length_tail]; exact b3, (H1.out.chg C2.out (by simp)).chg c3 (by simp), H2.out, hxa.imp id (fun q a ha => by obtain ⟨b, hb, e⟩ := H3.out a ha; rw [e]; exact q b hb), H4.out.chg c3 (by simp), H5.out, hxb.imp id (fun q a ha => by obtain ⟨b, hb, e⟩ := H6.out a ha; rw [e]; exact q b hb), fun hm => by have := hX _ hm; have := C1.out.size; have := C2.out.size; omega⟩
 have SZ := h_ (show w.heap.size ≤ w2.heap.size from Nat.le_trans C1.out.size C2.out.size)
 clear hw3 c3 b3; go_wp2
 rw [← W3.out]
 go_ret
 exact ⟨_, rfl, FI.out, SZ.out, C3.out⟩
theorem over_any (w : World) (A : Option Addr) (c : Nat) (la : List Sp) (B : Option Addr) (d : Nat) (lb : List Sp) (K : Nat) (X : List Nat) (ha : RdK spanTy w A la.length la) (hca : la.length ≤ c ∧ c ≤ maxLen) (hoa : ∀ a, A = some a → a.block < w.heap.size) (hb : RdK spanTy w B lb.length lb) (hcb : lb.length ≤ d ∧ d ≤ maxLen) (hob : ∀ a, B = some a → a.block < w.heap.size) (hxa : ∀ a, A = some a → a.block ∈ X) (hxb : ∀ a, B = some a → a.block ∈ X) (hX : ∀ z ∈ X, z < w.heap.size) :
  Calls Tryz.prog 154 #[.slice A la.length c, .slice B lb.length d, .func (.func K) #[] #[]] w fun e w' => ∃ g, e = .returned (.pointer (some ⟨g, 0, none⟩)) ∧ SwP w' g X la lb K ∧ w.heap.size ≤ g ∧ Chg [] w w' :=
 over_anyw w A c la B d lb K X ha hca (.inr hoa) hb hcb (.inr hob) (.inr hxa) (.inr hxb) hX
end
section
open Go.RowKit Go.Lib


set_option maxRecDepth 100000 in
theorem next_none_a (w : World) (g : Nat) (v0 v1 v2 v3 vk : Value) (h0 h1 h2 : Value) (B : Option Addr) (c : Nat) (hb : w.heap[g]? = some (.cells #[h0, h1, h2, .slice B 0 c, v0, v1, v2, v3, vk] 214 (0, 0))) :
  Calls Tryz.prog 208 #[.pointer (some ⟨g, 0, none⟩)] w fun e w' => e = .returned (.tuple #[]) ∧ w'.heap[g]? = some (.cells #[.int .i64 201, .int .i64 0, .int .i64 0, .slice B 0 c, v0, v1, v2, v3, vk] 214 (0, 0)) ∧ Chg [g] w w' := by
 have HB := h_ hb
 clear hb
 go_enter Tryz.func208, Tryz.ntmps208
 have z0 := cell_of HB.out 0
 have z1 := cell_of HB.out 1
 have z2 := cell_of HB.out 2
 have z3 := cell_of HB.out 3
 have fz0 := free_of HB.out 0
 have fz1 := free_of HB.out 1
 have fz2 := free_of HB.out 2
 simp only [gA, gY, gZ] at z0 z1 z2 z3
 have p0 := heap_setCell_same w g 0 _ _ (.int .i64 201) HB.out
 have p1 := heap_setCell_same (w.setCell ⟨g, 0, none⟩ (.int .i64 201)) g 1 _ _ (.int .i64 0) p0
 have p2 := heap_setCell_same ((w.setCell ⟨g, 0, none⟩ (.int .i64 201)).setCell ⟨g, 1, none⟩ (.int .i64 0)) g 2 _ _ (.int .i64 0) p1
 simp only [sA, s0, s1] at p2
 have HP := h_ p2
 have CP := h_ ((((Chg.refl [g] w).setCell (p := ⟨g, 0, none⟩) (.inl (by simp)) (.int .i64 201)).setCell (p := ⟨g, 1, none⟩) (.inl (by simp)) (.int .i64 0)).setCell (p := ⟨g, 2, none⟩) (.inl (by simp)) (.int .i64 0))
 clear p0 p1 p2; go_wp2
 refine bodyPost_ret (results_none rfl _ _ _) rfl ?_
 exact ⟨rfl, HP.out, CP.out⟩
set_option maxRecDepth 100000 in
theorem next_some_a (w : World) (g : Nat) (v0 v1 v2 v3 vk : Value) (h0 h1 h2 : Value) (B : Option Addr) (c : Nat) (x : Sp) (r : List Sp) (hb : w.heap[g]? = some (.cells #[h0, h1, h2, .slice B (r.length + 1) c, v0, v1, v2, v3, vk] 214 (0, 0))) (hr : RdK spanTy w B (r.length + 1) (x :: r)) (hn : r.length + 1 ≤ c ∧ c ≤ maxLen) (hB : ∀ a, B = some a → a.block ≠ g) :
  Calls Tryz.prog 208 #[.pointer (some ⟨g, 0, none⟩)] w fun e w' => e = .returned (.tuple #[]) ∧ ∃ B' c', w'.heap[g]? = some (.cells #[.int .i64 x.1, .int .i64 x.2.1, .int .i64 x.2.2, (.slice B' r.length c'), v0, v1, v2, v3, vk] 214 (0, 0)) ∧ RdK spanTy w' B' r.length r ∧ (r.length ≤ c' ∧ c' ≤ maxLen) ∧ (∀ a, B' = some a → ∃ b, B = some b ∧ a.block = b.block) ∧ Chg [g] w w' := by
 obtain ⟨gB, oB, eB, _⟩ := hr.line (by omega)
 subst eB
 have HR := h_ hr
 have HN := h_ hn
 have NB := h_ (hB ⟨gB, oB, none⟩ rfl)
 obtain ⟨y0, y1, y2⟩ := spanCells hr (j := 0) (x := x) rfl
 rw [Nat.zero_mul, Nat.add_zero] at y0 y1 y2
 have HB := h_ hb
 have Y := h_ (show w.cell? ⟨gB, oB, none⟩ = some (.int .i64 x.1) ∧ w.cell? ⟨gB, oB + 1, none⟩ = some (.int .i64 x.2.1) ∧ w.cell? ⟨gB, oB + 2, none⟩ = some (.int .i64 x.2.2) from ⟨y0, y1, y2⟩)
 clear hb hr hn y0 y1 y2 hB
 have n0 : (((r.length + 1 : Nat) : Int) == 0) = false := by simp; omega
 have n1 : (0 : Int) < ((r.length + 1 : Nat) : Int) := by omega
 have n2 : (1 : Int) ≤ ((r.length + 1 : Nat) : Int) := by omega
 have n3 : ((r.length + 1 : Nat) : Int) ≤ (c : Int) := by have := HN.out; omega
 have n5 : (1 : Int) ≤ (r.length : Int) + 1 := by omega
 have n4 : r.length + 1 - 1 = r.length := by omega
 have HT : Hid (RdK spanTy w (if c = 1 then some ⟨gB, oB, none⟩ else some ⟨gB, oB + 3, none⟩) r.length r) := h_ (by
  split
  ·
   have := HN.out
   have e : r = [] := List.eq_nil_of_length_eq_zero (by omega)
   subst e
   exact RdK.nil _ _
  ·
   have q := HR.out.part 1 r.length (by omega)
   simpa [RowTy.k, spanTy] using q)
 go_enter Tryz.func208, Tryz.ntmps208
 have z3 := cell_of HB.out 3
 simp only [gA, gY, gZ] at z3
 go_upto_region 2 with fail
 clear z3
 refine wp_region_held_drew (S := fun _ => True) (by kernel_rfl) trivial (fun hHeld => ?_)
 have CD := h_ (Chg.refl [g] w).drew
 replace HB := h_ (show w.drew.heap[g]? = some _ from HB.out)
 replace Y := h_ (show w.drew.cell? ⟨gB, oB, none⟩ = some (.int .i64 x.1) ∧ w.drew.cell? ⟨gB, oB + 1, none⟩ = some (.int .i64 x.2.1) ∧ w.drew.cell? ⟨gB, oB + 2, none⟩ = some (.int .i64 x.2.2) from Y.out)
 replace HT := h_ (show RdK spanTy w.drew _ r.length r from HT.out.chg (Chg.refl [] w).drew (by simp))
 generalize w.drew = wd at *
 generalize hAD : (if c = 1 then some ⟨gB, oB, none⟩ else some ⟨gB, oB + 3, none⟩ : Option Addr) = AD at *
 have AB : Hid (∀ a, AD = some a → a.block = gB) := h_ (by intro a ha; rw [← hAD] at ha; split at ha <;> cases ha <;> rfl)
 refine sy 0 12 rfl rfl ?_ (hS := trivial)
 try simp only [Act.put, sA, s0, s1]
 refine sy 1 13 rfl rfl ?_ (hS := trivial)
 try simp only [Act.put, sA, s0, s1]
 refine sy 2 14 rfl rfl ?_ (hS := trivial)
 try simp only [Act.put, sA, s0, s1]
 refine sy 3 15 rfl rfl ?_ (hS := trivial)
 try simp only [Act.put, sA, s0, s1]
 refine sy 4 16 rfl rfl ?_ (hS := trivial)
 try simp only [Act.put, sA, s0, s1]
 refine sy 8 20 rfl rfl ?_ (hS := trivial)
 try simp only [Act.put, sA, s0, s1]
 refine sy 9 21 rfl rfl ?_ (hS := trivial)
 try simp only [Act.put, sA, s0, s1]
 refine sy 10 22 rfl rfl ?_ (hS := trivial)
 try simp only [Act.put, sA, s0, s1]
 refine wpAnyH_ready (rs := [5, 11]) (by kernel_rfl) (by simp) ?_
 refine AllReadyH.cons rfl (fun K hK => ?_) (AllReadyH.cons rfl (fun K hK => ?_) AllReadyH.nil)
 ·
  skip
  replace hK := h_ hK
  have z3 := cell_of HB.out 3
  simp only [gA, gY, gZ] at z3
  go_simp; clear z3 hHeld
  refine hK.out _ _ trivial (fun hHeld => ?_)
  clear hK K; try simp only [Act.put, sA, s0, s1]
  refine sy 6 18 rfl rfl ?_ (hS := trivial)
  try simp only [Act.put, sA, s0, s1]
  refine wpAnyH_ready (rs := [7, 11]) (by kernel_rfl) (by simp) ?_
  refine AllReadyH.cons rfl (fun K hK => ?_) (AllReadyH.cons rfl (fun K hK => ?_) AllReadyH.nil)
  ·
   skip
   replace hK := h_ hK
   obtain ⟨y0, y1, y2⟩ := Y.out
   go_simp; clear y0 y1 y2 hHeld
   refine hK.out _ _ trivial (fun hHeld => ?_)
   clear hK K; try simp only [Act.put, sA, s0, s1]
   refine on1 11 rfl (fun K hK => ?_)
   have z3 := cell_of HB.out 3
   simp only [gA, gY, gZ] at z3
   go_simp; clear z3 hHeld
   refine hK.out _ _ trivial (fun hHeld => ?_)
   clear hK K; try simp only [Act.put, sA, s0, s1]
   refine sy 12 24 rfl rfl ?_ (hS := trivial)
   try simp only [Act.put, sA, s0, s1]
   refine sy 13 25 rfl rfl ?_ (hS := trivial)
   try simp only [Act.put, sA, s0, s1]
   refine sy 14 26 rfl rfl ?_ (hS := trivial)
   try simp only [Act.put, sA, s0, s1]
   refine on1 15 rfl (fun K hK => ?_)
   have z0 := cell_of HB.out 0
   have z1 := cell_of HB.out 1
   have z2 := cell_of HB.out 2
   have fz0 := free_of HB.out 0
   have fz1 := free_of HB.out 1
   have fz2 := free_of HB.out 2
   simp only [gA, gY, gZ] at z0 z1 z2
   have p0 := heap_setCell_same wd g 0 _ _ (.int .i64 x.1) HB.out
   have p1 := heap_setCell_same (wd.setCell ⟨g, 0, none⟩ (.int .i64 x.1)) g 1 _ _ (.int .i64 x.2.1) p0
   have p2 := heap_setCell_same ((wd.setCell ⟨g, 0, none⟩ (.int .i64 x.1)).setCell ⟨g, 1, none⟩ (.int .i64 x.2.1)) g 2 _ _ (.int .i64 x.2.2) p1
   simp only [sA, s0, s1] at p2
   have HP := h_ p2
   clear p0 p1 p2; go_simp; clear hHeld z0 fz0 z1 fz1 z2 fz2
   refine hK.out _ _ trivial (fun hHeld => ?_)
   clear hK K; try simp only [Act.put, sA, s0, s1]
   refine sy 16 27 rfl rfl ?_ (hS := trivial)
   try simp only [Act.put, sA, s0, s1]
   refine sy 17 28 rfl rfl ?_ (hS := trivial)
   try simp only [Act.put, sA, s0, s1]
   refine on1 18 rfl (fun K hK => ?_)
   have z3 := cell_of HP.out 3
   have fz3 := free_of HP.out 3
   simp only [gA, gY, gZ] at z3
   go_simp; clear hHeld z3 fz3
   refine hK.out _ _ trivial (fun hHeld => ?_)
   clear hK K; try simp only [Act.put, sA, s0, s1]
   refine wpAnyH_done (by kernel_rfl) ?_ _
   have HQ := heap_setCell_same _ g 3 _ _ (.slice AD r.length (c - 1)) HP.out
   simp only [sA, s0, s1] at HQ
   have CQ := h_ (((((Chg.refl [g] wd).setCell (p := ⟨g, 0, none⟩) (.inl (by simp)) (.int .i64 x.1)).setCell (p := ⟨g, 1, none⟩) (.inl (by simp)) (.int .i64 x.2.1)).setCell (p := ⟨g, 2, none⟩) (.inl (by simp)) (.int .i64 x.2.2)).setCell (p := ⟨g, 3, none⟩) (.inl (by simp)) (.slice AD r.length (c - 1)))
   have HQ2 := h_ HQ
   clear HQ; go_wp2
   go_end0
   exact ⟨rfl, AD, c - 1, HQ2.out, HT.out.chg CQ.out (fun a ha => by rw [AB.out a ha]; simpa using NB.out), by have := HN.out; omega, fun a ha => by (first | exact ⟨_, rfl, AB.out a ha⟩ | exact AB.out a ha | simpa using AB.out a ha), CD.out.trans CQ.out⟩
  ·
   skip
   replace hK := h_ hK
   have z3 := cell_of HB.out 3
   simp only [gA, gY, gZ] at z3
   go_simp; clear z3 hHeld
   refine hK.out _ _ trivial (fun hHeld => ?_)
   clear hK K; try simp only [Act.put, sA, s0, s1]
   refine sy 12 24 rfl rfl ?_ (hS := trivial)
   try simp only [Act.put, sA, s0, s1]
   refine on1 7 rfl (fun K hK => ?_)
   obtain ⟨y0, y1, y2⟩ := Y.out
   go_simp; clear y0 y1 y2 hHeld
   refine hK.out _ _ trivial (fun hHeld => ?_)
   clear hK K; try simp only [Act.put, sA, s0, s1]
   refine sy 13 25 rfl rfl ?_ (hS := trivial)
   try simp only [Act.put, sA, s0, s1]
   refine sy 14 26 rfl rfl ?_ (hS := trivial)
   try simp only [Act.put, sA, s0, s1]
   refine on1 15 rfl (fun K hK => ?_)
   have z0 := cell_of HB.out 0
   have z1 := cell_of HB.out 1
   have z2 := cell_of HB.out 2
   have fz0 := free_of HB.out 0
   have fz1 := free_of HB.out 1
   have fz2 := free_of HB.out 2
   simp only [gA, gY, gZ] at z0 z1 z2
   have p0 := heap_setCell_same wd g 0 _ _ (.int .i64 x.1) HB.out
   have p1 := heap_setCell_same (wd.setCell ⟨g, 0, none⟩ (.int .i64 x.1)) g 1 _ _ (.int .i64 x.2.1) p0
   have p2 := heap_setCell_same ((wd.setCell ⟨g, 0, none⟩ (.int .i64 x.1)).setCell ⟨g, 1, none⟩ (.int .i64 x.2.1)) g 2 _ _ (.int .i64 x.2.2) p1
   simp only [sA, s0, s1] at p2
   have HP := h_ p2
   clear p0 p1 p2; go_simp; clear hHeld z0 fz0 z1 fz1 z2 fz2
   refine hK.out _ _ trivial (fun hHeld => ?_)
   clear hK K; try simp only [Act.put, sA, s0, s1]
   refine sy 16 27 rfl rfl ?_ (hS := trivial)
   try simp only [Act.put, sA, s0, s1]
   refine sy 17 28 rfl rfl ?_ (hS := trivial)
   try simp only [Act.put, sA, s0, s1]
   refine on1 18 rfl (fun K hK => ?_)
   have z3 := cell_of HP.out 3
   have fz3 := free_of HP.out 3
   simp only [gA, gY, gZ] at z3
   go_simp; clear hHeld z3 fz3
   refine hK.out _ _ trivial (fun hHeld => ?_)
   clear hK K; try simp only [Act.put, sA, s0, s1]
   refine wpAnyH_done (by kernel_rfl) ?_ _
   have HQ := heap_setCell_same _ g 3 _ _ (.slice AD r.length (c - 1)) HP.out
   simp only [sA, s0, s1] at HQ
   have CQ := h_ (((((Chg.refl [g] wd).setCell (p := ⟨g, 0, none⟩) (.inl (by simp)) (.int .i64 x.1)).setCell (p := ⟨g, 1, none⟩) (.inl (by simp)) (.int .i64 x.2.1)).setCell (p := ⟨g, 2, none⟩) (.inl (by simp)) (.int .i64 x.2.2)).setCell (p := ⟨g, 3, none⟩) (.inl (by simp)) (.slice AD r.length (c - 1)))
   have HQ2 := h_ HQ
   clear HQ; go_wp2
   go_end0
   exact ⟨rfl, AD, c - 1, HQ2.out, HT.out.chg CQ.out (fun a ha => by rw [AB.out a ha]; simpa using NB.out), by have := HN.out; omega, fun a ha => by (first | exact ⟨_, rfl, AB.out a ha⟩ | exact AB.out a ha | simpa using AB.out a ha), CD.out.trans CQ.out⟩
 ·
  skip
  replace hK := h_ hK
  have z3 := cell_of HB.out 3
  simp only [gA, gY, gZ] at z3
  go_simp; clear z3 hHeld
  refine hK.out _ _ trivial (fun hHeld => ?_)
  clear hK K; try simp only [Act.put, sA, s0, s1]
  refine sy 12 24 rfl rfl ?_ (hS := trivial)
  try simp only [Act.put, sA, s0, s1]
  refine on1 5 rfl (fun K hK => ?_)
  have z3 := cell_of HB.out 3
  simp only [gA, gY, gZ] at z3
  go_simp; clear z3 hHeld
  refine hK.out _ _ trivial (fun hHeld => ?_)
  clear hK K; try simp only [Act.put, sA, s0, s1]
  refine sy 6 18 rfl rfl ?_ (hS := trivial)
  try simp only [Act.put, sA, s0, s1]
  refine on1 7 rfl (fun K hK => ?_)
  obtain ⟨y0, y1, y2⟩ := Y.out
  go_simp; clear y0 y1 y2 hHeld
  refine hK.out _ _ trivial (fun hHeld => ?_)
  clear hK K; try simp only [Act.put, sA, s0, s1]
  refine sy 13 25 rfl rfl ?_ (hS := trivial)
  try simp only [Act.put, sA, s0, s1]
  refine sy 14 26 rfl rfl ?_ (hS := trivial)
  try simp only [Act.put, sA, s0, s1]
  refine on1 15 rfl (fun K hK => ?_)
  have z0 := cell_of HB.out 0
  have z1 := cell_of HB.out 1
  have z2 := cell_of HB.out 2
  have fz0 := free_of HB.out 0
  have fz1 := free_of HB.out 1
  have fz2 := free_of HB.out 2
  simp only [gA, gY, gZ] at z0 z1 z2
  have p0 := heap_setCell_same wd g 0 _ _ (.int .i64 x.1) HB.out
  have p1 := heap_setCell_same (wd.setCell ⟨g, 0, none⟩ (.int .i64 x.1)) g 1 _ _ (.int .i64 x.2.1) p0
  have p2 := heap_setCell_same ((wd.setCell ⟨g, 0, none⟩ (.int .i64 x.1)).setCell ⟨g, 1, none⟩ (.int .i64 x.2.1)) g 2 _ _ (.int .i64 x.2.2) p1
  simp only [sA, s0, s1] at p2
  have HP := h_ p2
  clear p0 p1 p2; go_simp; clear hHeld z0 fz0 z1 fz1 z2 fz2
  refine hK.out _ _ trivial (fun hHeld => ?_)
  clear hK K; try simp only [Act.put, sA, s0, s1]
  refine sy 16 27 rfl rfl ?_ (hS := trivial)
  try simp only [Act.put, sA, s0, s1]
  refine sy 17 28 rfl rfl ?_ (hS := trivial)
  try simp only [Act.put, sA, s0, s1]
  refine on1 18 rfl (fun K hK => ?_)
  have z3 := cell_of HP.out 3
  have fz3 := free_of HP.out 3
  simp only [gA, gY, gZ] at z3
  go_simp; clear hHeld z3 fz3
  refine hK.out _ _ trivial (fun hHeld => ?_)
  clear hK K; try simp only [Act.put, sA, s0, s1]
  refine wpAnyH_done (by kernel_rfl) ?_ _
  have HQ := heap_setCell_same _ g 3 _ _ (.slice AD r.length (c - 1)) HP.out
  simp only [sA, s0, s1] at HQ
  have CQ := h_ (((((Chg.refl [g] wd).setCell (p := ⟨g, 0, none⟩) (.inl (by simp)) (.int .i64 x.1)).setCell (p := ⟨g, 1, none⟩) (.inl (by simp)) (.int .i64 x.2.1)).setCell (p := ⟨g, 2, none⟩) (.inl (by simp)) (.int .i64 x.2.2)).setCell (p := ⟨g, 3, none⟩) (.inl (by simp)) (.slice AD r.length (c - 1)))
  have HQ2 := h_ HQ
  clear HQ; go_wp2
  go_end0
  exact ⟨rfl, AD, c - 1, HQ2.out, HT.out.chg CQ.out (fun a ha => by rw [AB.out a ha]; simpa using NB.out), by have := HN.out; omega, fun a ha => by (first | exact ⟨_, rfl, AB.out a ha⟩ | exact AB.out a ha | simpa using AB.out a ha), CD.out.trans CQ.out⟩
end
section
open Go.RowKit Go.Lib


set_option maxRecDepth 100000 in
theorem pass_a (w : World) (g : Nat) (v0 v1 v2 v3 vk : Value) (B : Option Addr) (c : Nat) (x : Sp) (r : List Sp) (tt : Int) (hto : 0 ≤ tt ∧ tt ≤ 2147483647) (hb : w.heap[g]? = some (.cells #[.int .i64 x.1, .int .i64 x.2.1, .int .i64 x.2.2, .slice B r.length c, v0, v1, v2, v3, vk] 214 (0, 0))) (hr : RdK spanTy w B r.length r) (hn : r.length ≤ c ∧ c ≤ maxLen) (hB : ∀ a, B = some a → a.block ≠ g) :
  Calls Tryz.prog 210 #[.pointer (some ⟨g, 0, none⟩), .int .i64 tt] w fun e w' => e = .returned (.tuple #[]) ∧ ∃ B' c', w'.heap[g]? = some (.cells #[.int .i64 (hdP (passP (x :: r) tt)).1, .int .i64 (hdP (passP (x :: r) tt)).2.1, .int .i64 (hdP (passP (x :: r) tt)).2.2, .slice B' (passP (x :: r) tt).tail.length c', v0, v1, v2, v3, vk] 214 (0, 0)) ∧ RdK spanTy w' B' (passP (x :: r) tt).tail.length (passP (x :: r) tt).tail ∧ ((passP (x :: r) tt).tail.length ≤ c' ∧ c' ≤ maxLen) ∧ (∀ a, B' = some a → ∃ b, B = some b ∧ a.block = b.block) ∧ Chg [g] w w' := by
 have HB := h_ hb
 have HR := h_ hr
 have HN := h_ hn
 have NB := h_ hB
 clear hb hr hn hB
 have e1 : IntKind.i64.wrap (tt + 1) = tt + 1 := IntWalk.i64_in _ (by omega)
 by_cases hlt : tt < x.2.2
 ·
  have hp : passP (x :: r) tt = (x.1, tt + 1, x.2.2) :: r := by unfold passP; simp only; rw [if_pos hlt]
  rw [hp]
  simp only [hd_cons, List.tail_cons]
  have HLT := hlt
  clear hp
  go_enter Tryz.func210, Tryz.ntmps210
  have z0 := cell_of HB.out 0
  have z1 := cell_of HB.out 1
  have z2 := cell_of HB.out 2
  have z3 := cell_of HB.out 3
  have fz1 := free_of HB.out 1
  simp only [gA, gY, gZ] at z0 z1 z2 z3
  have HQ := heap_setCell_same w g 1 _ _ (.int .i64 (tt + 1)) HB.out
  simp only [sA, s0, s1] at HQ
  have HP := h_ HQ
  have CP := h_ ((Chg.refl [g] w).setCell (p := ⟨g, 1, none⟩) (.inl (by simp)) (.int .i64 (tt + 1)))
  clear HQ; go_wp2
  refine bodyPost_ret (results_none rfl _ _ _) rfl ?_
  exact ⟨rfl, B, c, HP.out, HR.out.chg CP.out (fun a ha => by simpa using NB.out a ha), HN.out, fun a ha => ⟨a, ha, rfl⟩, CP.out⟩
 ·
  have hp : passP (x :: r) tt = r := by unfold passP; simp only; rw [if_neg hlt]
  rw [hp]
  clear hp
  cases r with
  | nil =>
   go_enter Tryz.func210, Tryz.ntmps210
   obtain ⟨z0, z1, z2, z3⟩ := ce4 HB.out
   go_wp2_with fail; clear z0 z1 z2 z3
   refine (next_none_a w g v0 v1 v2 v3 vk _ _ _ B c HB.out).mono ?_
   rintro e w' ⟨rfl, h1, h2⟩
   have HP := h_ h1
   have CP := h_ h2
   clear h1 h2; go_wp2
   go_end0
   exact ⟨rfl, B, c, HP.out, RdK.nil _ _, ⟨Nat.zero_le _, HN.out.2⟩, fun a ha => ⟨a, ha, rfl⟩, CP.out⟩
  | cons y r2 =>
   go_enter Tryz.func210, Tryz.ntmps210
   obtain ⟨z0, z1, z2, z3⟩ := ce4 HB.out
   go_wp2_with fail; clear z0 z1 z2 z3
   refine (next_some_a w g v0 v1 v2 v3 vk _ _ _ B c y r2 HB.out HR.out HN.out NB.out).mono ?_
   rintro e w' ⟨rfl, B2, c2, h1, h2, h3, h4, h5⟩
   have HP := h_ h1
   have CP := h_ h5
   have H2 := h_ h2
   have H3 := h_ h3
   have H4 := h_ h4
   clear h1 h2 h3 h4 h5; go_wp2
   go_end0
   exact ⟨rfl, B2, c2, HP.out, H2.out, H3.out, H4.out, CP.out⟩
end
end Go.Proofs.YtehmchdhlhchjaaGreatDoor
