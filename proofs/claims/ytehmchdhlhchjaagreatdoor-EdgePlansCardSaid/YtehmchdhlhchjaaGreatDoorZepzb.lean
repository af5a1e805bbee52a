/- The document's Check (store). edge.Check and the document's; New. -/
import Derived.Test.YtehmchdhlhchjaaGreatDoorZepy
import Derived.Test.YtehmchdhlhchjaaGreatDoorZepza
import Derived.Test.YtehmchdhlhchjaaGreatDoorZeps
import Derived.Deep.Cut
import Derived.Deep.RegionHeld3
import Derived.Test.YtehmchdhlhchjaaGreatDoorZepc
import Derived.Test.YtehmchdhlhchjaaGreatDoorZepk
set_option linter.unusedSimpArgs false
set_option linter.unusedVariables false
set_option maxHeartbeats 32000000
namespace Go.Proofs.YtehmchdhlhchjaaGreatDoor
section
open Go.RowKit Go.Lib


theorem pw_adj : ∀ (es : List EvP), (∀ (j : Nat) (a b : EvP), es[j]? = some a → es[j + 1]? = some b → leP a b) → es.Pairwise leP
 | [], _ => .nil
 | [a], _ => by simp
 | a :: b :: l, h => by
  have ih := pw_adj (b :: l) (fun j x y hx hy => h (j + 1) x y (by simpa using hx) (by simpa using hy))
  refine List.pairwise_cons.2 ⟨fun y hy => ?_, ih⟩
  have ab := h 0 a b rfl rfl
  rcases List.mem_cons.1 hy with q | q
  ·
   rw [q]; exact ab
  ·
   exact leP_tr ab ((List.pairwise_cons.1 ih).1 y q)
theorem pw_at {R : EvP → EvP → Prop} {es : List EvP} (h : es.Pairwise R) {i j : Nat} {a b : EvP} (hij : i < j) (ha : es[i]? = some a) (hb : es[j]? = some b) : R a b := by
 obtain ⟨h1, e1⟩ := List.getElem?_eq_some_iff.1 ha
 obtain ⟨h2, e2⟩ := List.getElem?_eq_some_iff.1 hb
 rw [← e1, ← e2]
 exact List.pairwise_iff_getElem.1 h i j h1 h2 hij
theorem pw_of {R : EvP → EvP → Prop} {es : List EvP} (h : ∀ (i j : Nat) (a b : EvP), i < j → es[i]? = some a → es[j]? = some b → R a b) : es.Pairwise R :=
 List.pairwise_iff_getElem.2 (fun i j h1 h2 hij => h i j _ _ hij (List.getElem?_eq_getElem h1) (List.getElem?_eq_getElem h2))
theorem st_no {es : List EvP} (h : ¬ StOk es) : stE es = 2 := by unfold stE; rw [if_neg h]
theorem st_no_le {es : List EvP} {k : Nat} {a b : EvP} (k0 : 0 < k) (ha : es[k - 1]? = some a) (hb : es[k]? = some b) (h : ¬ leP a b) : stE es = 2 := st_no (fun s => h (pw_at s.1 (by omega) ha hb))
theorem st_no_dot {es : List EvP} {i k : Nat} {a b : EvP} (ik : i < k) (ha : es[i]? = some a) (hb : es[k]? = some b) (h : a.n = b.n ∧ a.s = b.s) : stE es = 2 := st_no (fun s => pw_at s.2.1 ik ha hb h)
theorem mem_paths : ∀ (es : List EvP) (acc : List (List UInt8)) (p : List UInt8), p ∈ es.foldl (fun acc e => addP acc e.p) acc ↔ p ∈ acc ∨ ∃ e ∈ es, e.p = p := by
 intro es
 induction es with
 | nil => intro acc p; simp
 | cons x l ih =>
  intro acc p
  rw [List.foldl_cons, ih]
  have h : p ∈ addP acc x.p ↔ p ∈ acc ∨ x.p = p := by
   unfold addP
   split
   ·
    rename_i h
    exact ⟨.inl, fun q => q.elim id (fun e => e ▸ h)⟩
   ·
    rw [List.mem_append, List.mem_singleton]
    exact ⟨fun q => q.imp id Eq.symm, fun q => q.imp id Eq.symm⟩
  rw [h]
  constructor
  ·
   rintro ((a | a) | ⟨e, he, q⟩)
   ·
    exact .inl a
   ·
    exact .inr ⟨x, by simp, a⟩
   ·
    exact .inr ⟨e, by simp [he], q⟩
  ·
   rintro (a | ⟨e, he, q⟩)
   ·
    exact .inl (.inl a)
   ·
    rcases List.mem_cons.1 he with r | r
    ·
     rw [r] at q; exact .inl (.inr q)
    ·
     exact .inr ⟨e, r, q⟩
theorem mem_pathsE {es : List EvP} {p : List UInt8} : p ∈ pathsE es ↔ ∃ e ∈ es, e.p = p := by
 unfold pathsE
 rw [mem_paths]
 simp
theorem st_no_shelf {es : List EvP} {p : List UInt8} (hp : p ∈ pathsE es) (h : ¬ ShOk (atS es p)) : stE es = 2 := st_no (fun s => by
 obtain ⟨e, he, q⟩ := mem_pathsE.1 hp
 have := s.2.2 e he
 rw [q] at this
 exact h this)
theorem st_yes {es : List EvP} (h1 : ∀ (j : Nat) (a b : EvP), es[j]? = some a → es[j + 1]? = some b → leP a b) (h2 : ∀ (i j : Nat) (a b : EvP), i < j → es[i]? = some a → es[j]? = some b → dotNe a b) (h3 : ∀ p ∈ pathsE es, ShOk (atS es p)) : stE es = 0 :=
 stE_zero.2 ⟨pw_adj es h1, pw_of h2, fun e he => h3 _ (mem_pathsE.2 ⟨e, he, rfl⟩)⟩
def AdjTo (es : List EvP) (k : Nat) : Prop := ∀ (j : Nat) (a b : EvP), j + 1 < k → es[j]? = some a → es[j + 1]? = some b → leP a b
def NeTo (es : List EvP) (k : Nat) : Prop := ∀ (i j : Nat) (a b : EvP), i < j → j < k → es[i]? = some a → es[j]? = some b → dotNe a b
theorem adj_next {es : List EvP} {k : Nat} {b : EvP} (h : AdjTo es k) (hb : es[k]? = some b) (q : ∀ a, 0 < k → es[k - 1]? = some a → leP a b) : AdjTo es (k + 1) := fun j a c hj ha hc => by
 by_cases e : j + 1 < k
 ·
  exact h j a c e ha hc
 ·
  obtain rfl : k = j + 1 := by omega
  rw [hb] at hc
  cases hc
  exact q a (by omega) (by simpa using ha)
theorem ne_next {es : List EvP} {k : Nat} {b : EvP} (h : NeTo es k) (hb : es[k]? = some b) (q : ∀ (i : Nat) (a : EvP), i < k → es[i]? = some a → dotNe a b) : NeTo es (k + 1) := fun i j a c ij hj ha hc => by
 by_cases e : j < k
 ·
  exact h i j a c ij e ha hc
 ·
  obtain rfl : k = j := by omega
  rw [hb] at hc
  cases hc
  exact q i a ij ha

set_option maxRecDepth 100000 in
theorem ktcheck_any (w : World) (A : Option Addr) (c : Nat) (xs : List EvT) (es : List EvP) (h : RdK evTy w A xs.length xs) (hx : EvsR w xs es) (hn : xs.length ≤ 1000) (hs : ∀ e ∈ es, EvSm e ∧ e.q.length ≤ 100000) :
  Calls Tryz.prog 37 #[.slice A xs.length c] w fun r w' => r = .returned (.int .i64 (stE es)) ∧ Chg [] w w' := by

 have HA := h_ h
 have HX := h_ hx
 have HN := h_ hn
 have HS := h_ hs
 have XL : Hid (xs.length = es.length) := h_ hx.1
 obtain ⟨V, hV⟩ : ∃ V, stE es = V := ⟨_, rfl⟩
 have HV := h_ hV
 rw [hV]
 clear h hx hn hs hV
 go_enter Tryz.func37, Tryz.ntmps37
 go_wp2
 go_loopw [3, 4] (fun v3 _ wr => ∃ (k : Nat), k ≤ xs.length ∧ v3 = .int .i64 (k : Int) ∧ Hid (AdjTo es k) ∧ Hid (NeTo es k) ∧ Hid (Chg [] w wr)) (fun v3 _ _ => xs.length - (RowKit.intOf v3).toNat)
 case atStart => exact ⟨0, Nat.zero_le _, rfl, h_ (fun j a b h => by omega), h_ (fun i j a b h1 h2 => by omega), Chg.refl _ _⟩
 case round =>
  obtain ⟨k, hk, rfl, AD, NE, PC⟩ := hrel
  have j0 : (0 : Int) ≤ (k : Int) := by omega
  by_cases hlt : k < xs.length
  ·
   have j1 : (k : Int) < (xs.length : Int) := by omega
   have j3 : IntKind.i64.wrap ((k : Int) + 1) = (k : Int) + 1 := IntWalk.i64_in _ (by have := HN.out; omega)
   obtain ⟨g3, o3, eA, _⟩ := HA.out.line (by omega)
   have EA := h_ eA
   obtain ⟨x, e, ex, ee, rx⟩ := HX.out.at_ hlt
   have EX := h_ ex
   have EE := h_ ee
   have XD : Hid (x.n = e.n ∧ x.s = e.s ∧ x.p = strOf e.p) := h_ ⟨rx.n, rx.s, rx.p⟩
   clear ex ee rx
   rw [eA]
   clear eA
   by_cases k0 : k = 0
   ·
    skip
    have AD1 : Hid (AdjTo es (k + 1)) := h_ (adj_next AD.out EE.out (fun a q => by omega))
    have g1 : ¬ (0 : Int) < (k : Int) := by omega
    have g2 : ¬ 0 < k := by omega
    have g3' : decide ((0 : Int) < (k : Int)) = false := decide_eq_false g1
    have g4 : decide (0 < k) = false := decide_eq_false g2
    go_upto_region 4 with fail
    refine wp_region_held_drew (S := fun w' => Chg [] wr w') (by kernel_rfl) (Chg.refl [] wr).drew (fun hHeld => ?_)
    refine sy 0 13 rfl rfl ?_; try simp only [Act.put, sA, s0, s1]
    refine sy 1 14 rfl rfl ?_; try simp only [Act.put, sA, s0, s1]
    refine sy 2 15 rfl rfl ?_; try simp only [Act.put, sA, s0, s1]
    refine sn 3 16 rfl rfl ?_; try simp only [Act.put, sA, s0, s1]
    refine sn 4 17 rfl rfl ?_; try simp only [Act.put, sA, s0, s1]
    refine sn 5 18 rfl rfl ?_; try simp only [Act.put, sA, s0, s1]
    refine sn 6 19 rfl rfl ?_; try simp only [Act.put, sA, s0, s1]
    refine sn 7 20 rfl rfl ?_; try simp only [Act.put, sA, s0, s1]
    refine sn 8 21 rfl rfl ?_; try simp only [Act.put, sA, s0, s1]
    refine sn 9 22 rfl rfl ?_; try simp only [Act.put, sA, s0, s1]
    refine sn 10 23 rfl rfl ?_; try simp only [Act.put, sA, s0, s1]
    refine sn 11 24 rfl rfl ?_; try simp only [Act.put, sA, s0, s1]
    refine sn 12 25 rfl rfl ?_; try simp only [Act.put, sA, s0, s1]
    refine sn 13 26 rfl rfl ?_; try simp only [Act.put, sA, s0, s1]
    refine sn 14 27 rfl rfl ?_; try simp only [Act.put, sA, s0, s1]
    refine sy 15 28 rfl rfl ?_; try simp only [Act.put, sA, s0, s1]
    refine sy 16 29 rfl rfl ?_; try simp only [Act.put, sA, s0, s1]
    refine sn 17 30 rfl rfl ?_; try simp only [Act.put, sA, s0, s1]
    refine sn 18 31 rfl rfl ?_; try simp only [Act.put, sA, s0, s1]
    refine sn 19 32 rfl rfl ?_; try simp only [Act.put, sA, s0, s1]
    refine sn 20 33 rfl rfl ?_; try simp only [Act.put, sA, s0, s1]
    refine sn 21 34 rfl rfl ?_; try simp only [Act.put, sA, s0, s1]
    refine sn 22 35 rfl rfl ?_; try simp only [Act.put, sA, s0, s1]
    refine sn 23 36 rfl rfl ?_; try simp only [Act.put, sA, s0, s1]
    refine sn 24 37 rfl rfl ?_; try simp only [Act.put, sA, s0, s1]
    refine sn 25 38 rfl rfl ?_; try simp only [Act.put, sA, s0, s1]
    refine sn 26 39 rfl rfl ?_; try simp only [Act.put, sA, s0, s1]
    refine sn 27 40 rfl rfl ?_; try simp only [Act.put, sA, s0, s1]
    refine sn 28 41 rfl rfl ?_; try simp only [Act.put, sA, s0, s1]
    refine sn 29 42 rfl rfl ?_; try simp only [Act.put, sA, s0, s1]
    refine sy 30 43 rfl rfl ?_; try simp only [Act.put, sA, s0, s1]
    refine wpAnyH_done (by kernel_rfl) ?_ _; clear g1 g2 g3' g4 k0
    replace PC := h_ (PC.out.trans hHeld)
    clear hHeld; go_wp2
    have PO := PC
    clear PC
    go_loopw [4] (fun v4 wr => ∃ (i : Nat), i ≤ k ∧ v4 = .int .i64 (i : Int) ∧ Hid (∀ (j : Nat) (a : EvP), j < i → es[j]? = some a → dotNe a e) ∧ Hid (Chg [] w wr)) (fun v4 _ => k - (RowKit.intOf v4).toNat)
    case atStart => exact ⟨0, Nat.zero_le _, rfl, h_ (fun j a h => by omega), PO⟩
    case round =>
     obtain ⟨i, hi, rfl, ND, PC⟩ := hrel
     clear PO
     have i0 : (0 : Int) ≤ (i : Int) := by omega
     by_cases hil : i < k
     ·
      have i1 : (i : Int) < (k : Int) := by omega
      have i2 : (i : Int) < (xs.length : Int) := by omega
      have i4 : i < xs.length := by omega
      have i3 : IntKind.i64.wrap ((i : Int) + 1) = (i : Int) + 1 := IntWalk.i64_in _ (by have := HN.out; omega)
      obtain ⟨y, f, ey, ef, ry⟩ := HX.out.at_ i4
      have EY := h_ ey
      have EF := h_ ef
      have YD : Hid (y.n = f.n ∧ y.s = f.s) := h_ ⟨ry.n, ry.s⟩
      clear ey ef ry
      have HC : Hid (∀ w', Chg [] wr w' → _ ∧ _) := h_ (fun w' hc => And.intro (evCells ((EA.out ▸ HA.out).chg (PC.out.trans hc) (by simp)) EX.out) (evCells ((EA.out ▸ HA.out).chg (PC.out.trans hc) (by simp)) EY.out))
      by_cases hd : y.n = x.n ∧ y.s = x.s
      ·
       skip
       have NO : Hid (stE es = 2) := h_ (st_no_dot hil EF.out EE.out ⟨by rw [← YD.out.1, ← XD.out.1]; exact hd.1, by rw [← YD.out.2, ← XD.out.2.1]; exact hd.2⟩)
       have dq : ((y.n == x.n) : Bool) = true := by simpa using hd.1
       have dr : ((y.s == x.s) : Bool) = true := by simpa using hd.2
       clear hd
       go_upto_region 9 with fail
       refine wp_region_held_drew (S := fun w' => Chg [] wr w') (by kernel_rfl) (Chg.refl [] wr).drew (fun hHeld => ?_)
       refine sy 0 49 rfl rfl ?_; try simp only [Act.put, sA, s0, s1]
       refine sy 1 50 rfl rfl ?_; try simp only [Act.put, sA, s0, s1]
       refine sy 2 51 rfl rfl ?_; try simp only [Act.put, sA, s0, s1]
       refine sy 3 52 rfl rfl ?_; try simp only [Act.put, sA, s0, s1]
       refine sy 4 53 rfl rfl ?_ (hy := by (intro w hSw; (try dsimp only at hSw); have hq := HC.out _ hSw; obtain ⟨⟨q0, q1, q2, q3, q4, q5, q6⟩, p0, p1, p2, p3, p4, p5, p6⟩ := hq; go_simp; try with_reducible rfl))
       try simp only [Act.put, sA, s0, s1]
       refine sy 5 54 rfl rfl ?_; try simp only [Act.put, sA, s0, s1]
       refine sy 6 55 rfl rfl ?_; try simp only [Act.put, sA, s0, s1]
       refine sy 7 56 rfl rfl ?_; try simp only [Act.put, sA, s0, s1]
       refine sy 8 57 rfl rfl ?_; try simp only [Act.put, sA, s0, s1]
       refine sy 9 58 rfl rfl ?_ (hy := by (intro w hSw; (try dsimp only at hSw); have hq := HC.out _ hSw; obtain ⟨⟨q0, q1, q2, q3, q4, q5, q6⟩, p0, p1, p2, p3, p4, p5, p6⟩ := hq; go_simp; try with_reducible rfl))
       try simp only [Act.put, sA, s0, s1]
       refine sy 10 59 rfl rfl ?_; try simp only [Act.put, sA, s0, s1]
       refine wpAnyH_done (by kernel_rfl) ?_ _
       replace PC := h_ (PC.out.trans hHeld)
       clear hHeld HC; go_wp2; go_ret
       have V2 : V = 2 := by rw [← HV.out]; exact NO.out
       rw [V2]
       exact ⟨rfl, PC.out⟩
      by_cases h1 : y.n = x.n
      ·
       skip
       have dq : ((y.n == x.n) : Bool) = true := by simpa using h1
       have dr : ((y.s == x.s) : Bool) = false := by simpa using (fun q => hd ⟨h1, q⟩)
       replace hd := h_ hd
       have ND1 : Hid (∀ (j : Nat) (a : EvP), j < i + 1 → es[j]? = some a → dotNe a e) := h_ (fun j a hj ha => by
        by_cases q : j < i
        ·
         exact ND.out j a q ha
        ·
         obtain rfl : j = i := by omega
         rw [EF.out] at ha
         cases ha
         intro t
         exact hd.out ⟨by rw [YD.out.1, XD.out.1]; exact t.1, by rw [YD.out.2, XD.out.2.1]; exact t.2⟩)
       clear h1 hd
       go_upto_region 9 with fail
       refine wp_region_held_drew (S := fun w' => Chg [] wr w') (by kernel_rfl) (Chg.refl [] wr).drew (fun hHeld => ?_)
       refine sy 0 49 rfl rfl ?_; try simp only [Act.put, sA, s0, s1]
       refine sy 1 50 rfl rfl ?_; try simp only [Act.put, sA, s0, s1]
       refine sy 2 51 rfl rfl ?_; try simp only [Act.put, sA, s0, s1]
       refine sy 3 52 rfl rfl ?_; try simp only [Act.put, sA, s0, s1]
       refine sy 4 53 rfl rfl ?_ (hy := by (intro w hSw; (try dsimp only at hSw); have hq := HC.out _ hSw; obtain ⟨⟨q0, q1, q2, q3, q4, q5, q6⟩, p0, p1, p2, p3, p4, p5, p6⟩ := hq; go_simp; try with_reducible rfl))
       try simp only [Act.put, sA, s0, s1]
       refine sy 5 54 rfl rfl ?_; try simp only [Act.put, sA, s0, s1]
       refine sy 6 55 rfl rfl ?_; try simp only [Act.put, sA, s0, s1]
       refine sy 7 56 rfl rfl ?_; try simp only [Act.put, sA, s0, s1]
       refine sy 8 57 rfl rfl ?_; try simp only [Act.put, sA, s0, s1]
       refine sy 9 58 rfl rfl ?_ (hy := by (intro w hSw; (try dsimp only at hSw); have hq := HC.out _ hSw; obtain ⟨⟨q0, q1, q2, q3, q4, q5, q6⟩, p0, p1, p2, p3, p4, p5, p6⟩ := hq; go_simp; try with_reducible rfl))
       try simp only [Act.put, sA, s0, s1]
       refine sy 10 59 rfl rfl ?_; try simp only [Act.put, sA, s0, s1]
       refine wpAnyH_done (by kernel_rfl) ?_ _
       replace PC := h_ (PC.out.trans hHeld)
       clear hHeld HC; go_wp2; go_round
       case rel => exact ⟨i + 1, by omega, by go_num, ND1, PC⟩
       case measure => simp [RowKit.intOf]; omega
      have dq : ((y.n == x.n) : Bool) = false := by simpa using h1
      replace hd := h_ hd
      have ND1 : Hid (∀ (j : Nat) (a : EvP), j < i + 1 → es[j]? = some a → dotNe a e) := h_ (fun j a hj ha => by
       by_cases q : j < i
       ·
        exact ND.out j a q ha
       ·
        obtain rfl : j = i := by omega
        rw [EF.out] at ha
        cases ha
        intro t
        exact hd.out ⟨by rw [YD.out.1, XD.out.1]; exact t.1, by rw [YD.out.2, XD.out.2.1]; exact t.2⟩)
      clear h1 hd
      go_upto_region 9 with fail
      refine wp_region_held_drew (S := fun w' => Chg [] wr w') (by kernel_rfl) (Chg.refl [] wr).drew (fun hHeld => ?_)
      refine sy 0 49 rfl rfl ?_; try simp only [Act.put, sA, s0, s1]
      refine sy 1 50 rfl rfl ?_; try simp only [Act.put, sA, s0, s1]
      refine sy 2 51 rfl rfl ?_; try simp only [Act.put, sA, s0, s1]
      refine sy 3 52 rfl rfl ?_; try simp only [Act.put, sA, s0, s1]
      refine sy 4 53 rfl rfl ?_ (hy := by (intro w hSw; (try dsimp only at hSw); have hq := HC.out _ hSw; obtain ⟨⟨q0, q1, q2, q3, q4, q5, q6⟩, p0, p1, p2, p3, p4, p5, p6⟩ := hq; go_simp; try with_reducible rfl))
      try simp only [Act.put, sA, s0, s1]
      refine sy 5 54 rfl rfl ?_; try simp only [Act.put, sA, s0, s1]
      refine sy 6 55 rfl rfl ?_; try simp only [Act.put, sA, s0, s1]
      refine sy 7 56 rfl rfl ?_; try simp only [Act.put, sA, s0, s1]
      refine sy 8 57 rfl rfl ?_; try simp only [Act.put, sA, s0, s1]
      refine sy 9 58 rfl rfl ?_ (hy := by (intro w hSw; (try dsimp only at hSw); have hq := HC.out _ hSw; obtain ⟨⟨q0, q1, q2, q3, q4, q5, q6⟩, p0, p1, p2, p3, p4, p5, p6⟩ := hq; go_simp; try with_reducible rfl))
      try simp only [Act.put, sA, s0, s1]
      refine sy 10 59 rfl rfl ?_; try simp only [Act.put, sA, s0, s1]
      refine wpAnyH_done (by kernel_rfl) ?_ _
      replace PC := h_ (PC.out.trans hHeld)
      clear hHeld HC; go_wp2; go_round
      case rel => exact ⟨i + 1, by omega, by go_num, ND1, PC⟩
      case measure => simp [RowKit.intOf]; omega
     ·
      obtain rfl : i = k := by omega
      have i1 : ¬ (i : Int) < (i : Int) := by omega
      have NE1 : Hid (NeTo es (i + 1)) := h_ (ne_next NE.out EE.out ND.out)
      go_wp2; go_round
      case rel => exact ⟨i + 1, by omega, by go_num, AD1, NE1, PC⟩
      case measure => simp [RowKit.intOf]; omega
   have g1 : (0 : Int) < (k : Int) := by omega
   have g2 : 0 < k := by omega
   have g3' : decide ((0 : Int) < (k : Int)) = true := decide_eq_true g1
   have g4 : decide (0 < k) = true := decide_eq_true g2
   have w1' : IntKind.i64.wrap ((k : Int) - 1) = ((k - 1 : Nat) : Int) := by rw [IntWalk.i64_in _ (by have := HN.out; omega)]; omega
   have g5 : (0 : Int) ≤ ((k - 1 : Nat) : Int) := by omega
   have g6' : ((k - 1 : Nat) : Int) < (xs.length : Int) := by omega
   have g7 : k - 1 < xs.length := by omega
   obtain ⟨y0, f0, ey, ef, ry⟩ := HX.out.at_ g7
   have EY0 := h_ ey
   have EF0 := h_ ef
   have YP := h_ ry.p
   clear ey ef ry
   have HC0 : Hid (∀ w', Chg [] wr w' → w'.cell? ⟨g3, o3 + k * 7 + 2, none⟩ = some (.string (strOf e.p)) ∧ w'.cell? ⟨g3, o3 + (k - 1) * 7 + 2, none⟩ = some (.string (strOf f0.p))) := h_ (fun w' hc => by
    have a := (evCells ((EA.out ▸ HA.out).chg (PC.out.trans hc) (by simp)) EX.out).2.2.1
    have b := (evCells ((EA.out ▸ HA.out).chg (PC.out.trans hc) (by simp)) EY0.out).2.2.1
    rw [XD.out.2.2] at a
    rw [YP.out] at b
    exact ⟨a, b⟩)
   by_cases hp : e.p = f0.p
   ·
    skip
    have AD1 : Hid (AdjTo es (k + 1)) := h_ (adj_next AD.out EE.out (fun a _ ha => by rw [EF0.out] at ha; cases ha; exact .inl hp.symm))
    have e4 : (e.p == f0.p) = true := by rw [hp]; exact beq_self_eq_true _
    have e5 : ((strOf e.p == strOf f0.p) : Bool) = true := by rw [hp]; show ((f0.p.toArray == f0.p.toArray) : Bool) = true; simp
    have e6 : ((strOf e.p != strOf f0.p) : Bool) = false := by simp only [bne, e5]; rfl
    have e7 : (e.p != f0.p) = false := by simp only [bne, e4]; rfl
    clear hp
    go_upto_region 4 with fail
    refine wp_region_held_drew (S := fun w' => Chg [] wr w') (by kernel_rfl) (Chg.refl [] wr).drew (fun hHeld => ?_)
    refine sy 0 13 rfl rfl ?_; try simp only [Act.put, sA, s0, s1]
    refine sy 1 14 rfl rfl ?_; try simp only [Act.put, sA, s0, s1]
    refine sy 2 15 rfl rfl ?_; try simp only [Act.put, sA, s0, s1]
    refine sy 3 16 rfl rfl ?_; try simp only [Act.put, sA, s0, s1]
    refine sy 4 17 rfl rfl ?_; try simp only [Act.put, sA, s0, s1]
    refine sy 5 18 rfl rfl ?_; try simp only [Act.put, sA, s0, s1]
    refine sy 6 19 rfl rfl ?_; try simp only [Act.put, sA, s0, s1]
    refine sy 7 20 rfl rfl ?_ (hy := by (intro w hSw; (try dsimp only at hSw); have hq := HC0.out _ hSw; obtain ⟨q0, q1⟩ := hq; go_simp; try with_reducible rfl))
    try simp only [Act.put, sA, s0, s1]
    refine sy 8 21 rfl rfl ?_; try simp only [Act.put, sA, s0, s1]
    refine sy 9 22 rfl rfl ?_; try simp only [Act.put, sA, s0, s1]
    refine sy 10 23 rfl rfl ?_; try simp only [Act.put, sA, s0, s1]
    refine sy 11 24 rfl rfl ?_; try simp only [Act.put, sA, s0, s1]
    refine sy 12 25 rfl rfl ?_; try simp only [Act.put, sA, s0, s1]
    refine sy 13 26 rfl rfl ?_ (hy := by (intro w hSw; (try dsimp only at hSw); have hq := HC0.out _ hSw; obtain ⟨q0, q1⟩ := hq; go_simp; try with_reducible rfl))
    try simp only [Act.put, sA, s0, s1]
    refine sy 14 27 rfl rfl ?_; try simp only [Act.put, sA, s0, s1]
    refine sy 15 28 rfl rfl ?_; try simp only [Act.put, sA, s0, s1]
    refine sy 16 29 rfl rfl ?_; try simp only [Act.put, sA, s0, s1]
    refine sn 17 30 rfl rfl ?_; try simp only [Act.put, sA, s0, s1]
    refine sn 18 31 rfl rfl ?_; try simp only [Act.put, sA, s0, s1]
    refine sn 19 32 rfl rfl ?_; try simp only [Act.put, sA, s0, s1]
    refine sn 20 33 rfl rfl ?_; try simp only [Act.put, sA, s0, s1]
    refine sn 21 34 rfl rfl ?_; try simp only [Act.put, sA, s0, s1]
    refine sn 22 35 rfl rfl ?_; try simp only [Act.put, sA, s0, s1]
    refine sn 23 36 rfl rfl ?_; try simp only [Act.put, sA, s0, s1]
    refine sn 24 37 rfl rfl ?_; try simp only [Act.put, sA, s0, s1]
    refine sn 25 38 rfl rfl ?_; try simp only [Act.put, sA, s0, s1]
    refine sn 26 39 rfl rfl ?_; try simp only [Act.put, sA, s0, s1]
    refine sn 27 40 rfl rfl ?_; try simp only [Act.put, sA, s0, s1]
    refine sn 28 41 rfl rfl ?_; try simp only [Act.put, sA, s0, s1]
    refine sn 29 42 rfl rfl ?_; try simp only [Act.put, sA, s0, s1]
    refine sy 30 43 rfl rfl ?_; try simp only [Act.put, sA, s0, s1]
    refine wpAnyH_done (by kernel_rfl) ?_ _; clear e4 e5 e6 e7 HC0
    replace PC := h_ (PC.out.trans hHeld)
    clear hHeld; go_wp2
    have PO := PC
    clear PC
    go_loopw [4] (fun v4 wr => ∃ (i : Nat), i ≤ k ∧ v4 = .int .i64 (i : Int) ∧ Hid (∀ (j : Nat) (a : EvP), j < i → es[j]? = some a → dotNe a e) ∧ Hid (Chg [] w wr)) (fun v4 _ => k - (RowKit.intOf v4).toNat)
    case atStart => exact ⟨0, Nat.zero_le _, rfl, h_ (fun j a h => by omega), PO⟩
    case round =>
     obtain ⟨i, hi, rfl, ND, PC⟩ := hrel
     clear PO
     have i0 : (0 : Int) ≤ (i : Int) := by omega
     by_cases hil : i < k
     ·
      have i1 : (i : Int) < (k : Int) := by omega
      have i2 : (i : Int) < (xs.length : Int) := by omega
      have i4 : i < xs.length := by omega
      have i3 : IntKind.i64.wrap ((i : Int) + 1) = (i : Int) + 1 := IntWalk.i64_in _ (by have := HN.out; omega)
      obtain ⟨y, f, ey, ef, ry⟩ := HX.out.at_ i4
      have EY := h_ ey
      have EF := h_ ef
      have YD : Hid (y.n = f.n ∧ y.s = f.s) := h_ ⟨ry.n, ry.s⟩
      clear ey ef ry
      have HC : Hid (∀ w', Chg [] wr w' → _ ∧ _) := h_ (fun w' hc => And.intro (evCells ((EA.out ▸ HA.out).chg (PC.out.trans hc) (by simp)) EX.out) (evCells ((EA.out ▸ HA.out).chg (PC.out.trans hc) (by simp)) EY.out))
      by_cases hd : y.n = x.n ∧ y.s = x.s
      ·
       skip
       have NO : Hid (stE es = 2) := h_ (st_no_dot hil EF.out EE.out ⟨by rw [← YD.out.1, ← XD.out.1]; exact hd.1, by rw [← YD.out.2, ← XD.out.2.1]; exact hd.2⟩)
       have dq : ((y.n == x.n) : Bool) = true := by simpa using hd.1
       have dr : ((y.s == x.s) : Bool) = true := by simpa using hd.2
       clear hd
       go_upto_region 9 with fail
       refine wp_region_held_drew (S := fun w' => Chg [] wr w') (by kernel_rfl) (Chg.refl [] wr).drew (fun hHeld => ?_)
       refine sy 0 49 rfl rfl ?_; try simp only [Act.put, sA, s0, s1]
       refine sy 1 50 rfl rfl ?_; try simp only [Act.put, sA, s0, s1]
       refine sy 2 51 rfl rfl ?_; try simp only [Act.put, sA, s0, s1]
       refine sy 3 52 rfl rfl ?_; try simp only [Act.put, sA, s0, s1]
       refine sy 4 53 rfl rfl ?_ (hy := by (intro w hSw; (try dsimp only at hSw); have hq := HC.out _ hSw; obtain ⟨⟨q0, q1, q2, q3, q4, q5, q6⟩, p0, p1, p2, p3, p4, p5, p6⟩ := hq; go_simp; try with_reducible rfl))
       try simp only [Act.put, sA, s0, s1]
       refine sy 5 54 rfl rfl ?_; try simp only [Act.put, sA, s0, s1]
       refine sy 6 55 rfl rfl ?_; try simp only [Act.put, sA, s0, s1]
       refine sy 7 56 rfl rfl ?_; try simp only [Act.put, sA, s0, s1]
       refine sy 8 57 rfl rfl ?_; try simp only [Act.put, sA, s0, s1]
       refine sy 9 58 rfl rfl ?_ (hy := by (intro w hSw; (try dsimp only at hSw); have hq := HC.out _ hSw; obtain ⟨⟨q0, q1, q2, q3, q4, q5, q6⟩, p0, p1, p2, p3, p4, p5, p6⟩ := hq; go_simp; try with_reducible rfl))
       try simp only [Act.put, sA, s0, s1]
       refine sy 10 59 rfl rfl ?_; try simp only [Act.put, sA, s0, s1]
       refine wpAnyH_done (by kernel_rfl) ?_ _
       replace PC := h_ (PC.out.trans hHeld)
       clear hHeld HC; go_wp2; go_ret
       have V2 : V = 2 := by rw [← HV.out]; exact NO.out
       rw [V2]
       exact ⟨rfl, PC.out⟩
      by_cases h1 : y.n = x.n
      ·
       skip
       have dq : ((y.n == x.n) : Bool) = true := by simpa using h1
       have dr : ((y.s == x.s) : Bool) = false := by simpa using (fun q => hd ⟨h1, q⟩)
       replace hd := h_ hd
       have ND1 : Hid (∀ (j : Nat) (a : EvP), j < i + 1 → es[j]? = some a → dotNe a e) := h_ (fun j a hj ha => by
        by_cases q : j < i
        ·
         exact ND.out j a q ha
        ·
         obtain rfl : j = i := by omega
         rw [EF.out] at ha
         cases ha
         intro t
         exact hd.out ⟨by rw [YD.out.1, XD.out.1]; exact t.1, by rw [YD.out.2, XD.out.2.1]; exact t.2⟩)
       clear h1 hd
       go_upto_region 9 with fail
       refine wp_region_held_drew (S := fun w' => Chg [] wr w') (by kernel_rfl) (Chg.refl [] wr).drew (fun hHeld => ?_)
       refine sy 0 49 rfl rfl ?_; try simp only [Act.put, sA, s0, s1]
       refine sy 1 50 rfl rfl ?_; try simp only [Act.put, sA, s0, s1]
       refine sy 2 51 rfl rfl ?_; try simp only [Act.put, sA, s0, s1]
       refine sy 3 52 rfl rfl ?_; try simp only [Act.put, sA, s0, s1]
       refine sy 4 53 rfl rfl ?_ (hy := by (intro w hSw; (try dsimp only at hSw); have hq := HC.out _ hSw; obtain ⟨⟨q0, q1, q2, q3, q4, q5, q6⟩, p0, p1, p2, p3, p4, p5, p6⟩ := hq; go_simp; try with_reducible rfl))
       try simp only [Act.put, sA, s0, s1]
       refine sy 5 54 rfl rfl ?_; try simp only [Act.put, sA, s0, s1]
       refine sy 6 55 rfl rfl ?_; try simp only [Act.put, sA, s0, s1]
       refine sy 7 56 rfl rfl ?_; try simp only [Act.put, sA, s0, s1]
       refine sy 8 57 rfl rfl ?_; try simp only [Act.put, sA, s0, s1]
       refine sy 9 58 rfl rfl ?_ (hy := by (intro w hSw; (try dsimp only at hSw); have hq := HC.out _ hSw; obtain ⟨⟨q0, q1, q2, q3, q4, q5, q6⟩, p0, p1, p2, p3, p4, p5, p6⟩ := hq; go_simp; try with_reducible rfl))
       try simp only [Act.put, sA, s0, s1]
       refine sy 10 59 rfl rfl ?_; try simp only [Act.put, sA, s0, s1]
       refine wpAnyH_done (by kernel_rfl) ?_ _
       replace PC := h_ (PC.out.trans hHeld)
       clear hHeld HC; go_wp2; go_round
       case rel => exact ⟨i + 1, by omega, by go_num, ND1, PC⟩
       case measure => simp [RowKit.intOf]; omega
      have dq : ((y.n == x.n) : Bool) = false := by simpa using h1
      replace hd := h_ hd
      have ND1 : Hid (∀ (j : Nat) (a : EvP), j < i + 1 → es[j]? = some a → dotNe a e) := h_ (fun j a hj ha => by
       by_cases q : j < i
       ·
        exact ND.out j a q ha
       ·
        obtain rfl : j = i := by omega
        rw [EF.out] at ha
        cases ha
        intro t
        exact hd.out ⟨by rw [YD.out.1, XD.out.1]; exact t.1, by rw [YD.out.2, XD.out.2.1]; exact t.2⟩)
      clear h1 hd
      go_upto_region 9 with fail
      refine wp_region_held_drew (S := fun w' => Chg [] wr w') (by kernel_rfl) (Chg.refl [] wr).drew (fun hHeld => ?_)
      refine sy 0 49 rfl rfl ?_; try simp only [Act.put, sA, s0, s1]
      refine sy 1 50 rfl rfl ?_; try simp only [Act.put, sA, s0, s1]
      refine sy 2 51 rfl rfl ?_; try simp only [Act.put, sA, s0, s1]
      refine sy 3 52 rfl rfl ?_; try simp only [Act.put, sA, s0, s1]
      refine sy 4 53 rfl rfl ?_ (hy := by (intro w hSw; (try dsimp only at hSw); have hq := HC.out _ hSw; obtain ⟨⟨q0, q1, q2, q3, q4, q5, q6⟩, p0, p1, p2, p3, p4, p5, p6⟩ := hq; go_simp; try with_reducible rfl))
      try simp only [Act.put, sA, s0, s1]
      refine sy 5 54 rfl rfl ?_; try simp only [Act.put, sA, s0, s1]
      refine sy 6 55 rfl rfl ?_; try simp only [Act.put, sA, s0, s1]
      refine sy 7 56 rfl rfl ?_; try simp only [Act.put, sA, s0, s1]
      refine sy 8 57 rfl rfl ?_; try simp only [Act.put, sA, s0, s1]
      refine sy 9 58 rfl rfl ?_ (hy := by (intro w hSw; (try dsimp only at hSw); have hq := HC.out _ hSw; obtain ⟨⟨q0, q1, q2, q3, q4, q5, q6⟩, p0, p1, p2, p3, p4, p5, p6⟩ := hq; go_simp; try with_reducible rfl))
      try simp only [Act.put, sA, s0, s1]
      refine sy 10 59 rfl rfl ?_; try simp only [Act.put, sA, s0, s1]
      refine wpAnyH_done (by kernel_rfl) ?_ _
      replace PC := h_ (PC.out.trans hHeld)
      clear hHeld HC; go_wp2; go_round
      case rel => exact ⟨i + 1, by omega, by go_num, ND1, PC⟩
      case measure => simp [RowKit.intOf]; omega
     ·
      obtain rfl : i = k := by omega
      have i1 : ¬ (i : Int) < (i : Int) := by omega
      have NE1 : Hid (NeTo es (i + 1)) := h_ (ne_next NE.out EE.out ND.out)
      go_wp2; go_round
      case rel => exact ⟨i + 1, by omega, by go_num, AD1, NE1, PC⟩
      case measure => simp [RowKit.intOf]; omega
   have e1 := strOf_ne hp
   have e3 := strOf_ne2 hp
   have e4 : (e.p == f0.p) = false := beq_eq_false_iff_ne.2 hp
   have e6 : ((strOf e.p != strOf f0.p) : Bool) = true := by simp only [bne, e1]; rfl
   have e7 : (e.p != f0.p) = true := by simp only [bne, e4]; rfl
   have HP := h_ hp
   clear hp
   have LS : Hid (∀ w', Chg [] wr w' → Calls Tryz.prog 75 #[.string (strOf f0.p), .string (strOf e.p)] w' fun r w2 => r = .returned (.bool (lessL f0.p e.p)) ∧ Chg [] w' w2) := h_ (fun w' _ => qhless_any w' f0.p e.p (HS.out f0 (List.mem_of_getElem? EF0.out)).1.1 (HS.out e (List.mem_of_getElem? EE.out)).1.1)
   rcases hl : lessL f0.p e.p with _ | _
   ·
    skip
    have NO : Hid (stE es = 2) := h_ (st_no_le (by omega) EF0.out EE.out (fun q => q.elim (fun t => HP.out t.symm) (fun t => by rw [hl] at t; cases t)))
    go_upto_region 4 with fail
    refine wp_region_held_drew (S := fun w' => Chg [] wr w') (by kernel_rfl) (Chg.refl [] wr).drew (fun hHeld => ?_)
    refine sy 0 13 rfl rfl ?_; try simp only [Act.put, sA, s0, s1]
    refine sy 1 14 rfl rfl ?_; try simp only [Act.put, sA, s0, s1]
    refine sy 2 15 rfl rfl ?_; try simp only [Act.put, sA, s0, s1]
    refine sy 3 16 rfl rfl ?_; try simp only [Act.put, sA, s0, s1]
    refine sy 4 17 rfl rfl ?_; try simp only [Act.put, sA, s0, s1]
    refine sy 5 18 rfl rfl ?_; try simp only [Act.put, sA, s0, s1]
    refine sy 6 19 rfl rfl ?_; try simp only [Act.put, sA, s0, s1]
    refine sy 7 20 rfl rfl ?_ (hy := by (intro w hSw; (try dsimp only at hSw); have hq := HC0.out _ hSw; obtain ⟨q0, q1⟩ := hq; go_simp; try with_reducible rfl))
    try simp only [Act.put, sA, s0, s1]
    refine sy 8 21 rfl rfl ?_; try simp only [Act.put, sA, s0, s1]
    refine sy 9 22 rfl rfl ?_; try simp only [Act.put, sA, s0, s1]
    refine sy 10 23 rfl rfl ?_; try simp only [Act.put, sA, s0, s1]
    refine sy 11 24 rfl rfl ?_; try simp only [Act.put, sA, s0, s1]
    refine sy 12 25 rfl rfl ?_; try simp only [Act.put, sA, s0, s1]
    refine sy 13 26 rfl rfl ?_ (hy := by (intro w hSw; (try dsimp only at hSw); have hq := HC0.out _ hSw; obtain ⟨q0, q1⟩ := hq; go_simp; try with_reducible rfl))
    try simp only [Act.put, sA, s0, s1]
    refine sy 14 27 rfl rfl ?_; try simp only [Act.put, sA, s0, s1]
    refine sy 15 28 rfl rfl ?_; try simp only [Act.put, sA, s0, s1]
    refine sy 16 29 rfl rfl ?_; try simp only [Act.put, sA, s0, s1]
    refine sy 17 30 rfl rfl ?_; try simp only [Act.put, sA, s0, s1]
    refine sy 18 31 rfl rfl ?_; try simp only [Act.put, sA, s0, s1]
    refine sy 19 32 rfl rfl ?_; try simp only [Act.put, sA, s0, s1]
    refine sy 20 33 rfl rfl ?_; try simp only [Act.put, sA, s0, s1]
    refine sy 21 34 rfl rfl ?_; try simp only [Act.put, sA, s0, s1]
    refine sy 22 35 rfl rfl ?_ (hy := by (intro w hSw; (try dsimp only at hSw); have hq := HC0.out _ hSw; obtain ⟨q0, q1⟩ := hq; go_simp; try with_reducible rfl))
    try simp only [Act.put, sA, s0, s1]
    refine sy 23 36 rfl rfl ?_; try simp only [Act.put, sA, s0, s1]
    refine sy 24 37 rfl rfl ?_; try simp only [Act.put, sA, s0, s1]
    refine sy 25 38 rfl rfl ?_; try simp only [Act.put, sA, s0, s1]
    refine sy 26 39 rfl rfl ?_; try simp only [Act.put, sA, s0, s1]
    refine sy 27 40 rfl rfl ?_ (hy := by (intro w hSw; (try dsimp only at hSw); have hq := HC0.out _ hSw; obtain ⟨q0, q1⟩ := hq; go_simp; try with_reducible rfl))
    try simp only [Act.put, sA, s0, s1]
    refine on1 28 rfl (fun K hK => ?_)
    go_simp
    refine (LS.out _ hHeld).mono ?_
    rintro r w9 ⟨rfl, hc⟩
    rw [hl]
    have C9 := h_ (hHeld.trans hc)
    clear hc hHeld
    refine hK.out _ _ C9.out (fun hHeld => ?_)
    clear hK K; try simp only [Act.put, sA, s0, s1]
    refine sy 29 42 rfl rfl ?_; try simp only [Act.put, sA, s0, s1]
    refine sy 30 43 rfl rfl ?_; try simp only [Act.put, sA, s0, s1]
    refine wpAnyH_done (by kernel_rfl) ?_ _
    replace PC := h_ (PC.out.trans C9.out)
    clear hHeld HC0 LS; go_wp2; go_ret
    have V2 : V = 2 := by rw [← HV.out]; exact NO.out
    rw [V2]
    exact ⟨rfl, PC.out⟩
   ·
    skip
    have AD1 : Hid (AdjTo es (k + 1)) := h_ (adj_next AD.out EE.out (fun a _ ha => by rw [EF0.out] at ha; cases ha; exact .inr hl))
    go_upto_region 4 with fail
    refine wp_region_held_drew (S := fun w' => Chg [] wr w') (by kernel_rfl) (Chg.refl [] wr).drew (fun hHeld => ?_)
    refine sy 0 13 rfl rfl ?_; try simp only [Act.put, sA, s0, s1]
    refine sy 1 14 rfl rfl ?_; try simp only [Act.put, sA, s0, s1]
    refine sy 2 15 rfl rfl ?_; try simp only [Act.put, sA, s0, s1]
    refine sy 3 16 rfl rfl ?_; try simp only [Act.put, sA, s0, s1]
    refine sy 4 17 rfl rfl ?_; try simp only [Act.put, sA, s0, s1]
    refine sy 5 18 rfl rfl ?_; try simp only [Act.put, sA, s0, s1]
    refine sy 6 19 rfl rfl ?_; try simp only [Act.put, sA, s0, s1]
    refine sy 7 20 rfl rfl ?_ (hy := by (intro w hSw; (try dsimp only at hSw); have hq := HC0.out _ hSw; obtain ⟨q0, q1⟩ := hq; go_simp; try with_reducible rfl))
    try simp only [Act.put, sA, s0, s1]
    refine sy 8 21 rfl rfl ?_; try simp only [Act.put, sA, s0, s1]
    refine sy 9 22 rfl rfl ?_; try simp only [Act.put, sA, s0, s1]
    refine sy 10 23 rfl rfl ?_; try simp only [Act.put, sA, s0, s1]
    refine sy 11 24 rfl rfl ?_; try simp only [Act.put, sA, s0, s1]
    refine sy 12 25 rfl rfl ?_; try simp only [Act.put, sA, s0, s1]
    refine sy 13 26 rfl rfl ?_ (hy := by (intro w hSw; (try dsimp only at hSw); have hq := HC0.out _ hSw; obtain ⟨q0, q1⟩ := hq; go_simp; try with_reducible rfl))
    try simp only [Act.put, sA, s0, s1]
    refine sy 14 27 rfl rfl ?_; try simp only [Act.put, sA, s0, s1]
    refine sy 15 28 rfl rfl ?_; try simp only [Act.put, sA, s0, s1]
    refine sy 16 29 rfl rfl ?_; try simp only [Act.put, sA, s0, s1]
    refine sy 17 30 rfl rfl ?_; try simp only [Act.put, sA, s0, s1]
    refine sy 18 31 rfl rfl ?_; try simp only [Act.put, sA, s0, s1]
    refine sy 19 32 rfl rfl ?_; try simp only [Act.put, sA, s0, s1]
    refine sy 20 33 rfl rfl ?_; try simp only [Act.put, sA, s0, s1]
    refine sy 21 34 rfl rfl ?_; try simp only [Act.put, sA, s0, s1]
    refine sy 22 35 rfl rfl ?_ (hy := by (intro w hSw; (try dsimp only at hSw); have hq := HC0.out _ hSw; obtain ⟨q0, q1⟩ := hq; go_simp; try with_reducible rfl))
    try simp only [Act.put, sA, s0, s1]
    refine sy 23 36 rfl rfl ?_; try simp only [Act.put, sA, s0, s1]
    refine sy 24 37 rfl rfl ?_; try simp only [Act.put, sA, s0, s1]
    refine sy 25 38 rfl rfl ?_; try simp only [Act.put, sA, s0, s1]
    refine sy 26 39 rfl rfl ?_; try simp only [Act.put, sA, s0, s1]
    refine sy 27 40 rfl rfl ?_ (hy := by (intro w hSw; (try dsimp only at hSw); have hq := HC0.out _ hSw; obtain ⟨q0, q1⟩ := hq; go_simp; try with_reducible rfl))
    try simp only [Act.put, sA, s0, s1]
    refine on1 28 rfl (fun K hK => ?_)
    go_simp
    refine (LS.out _ hHeld).mono ?_
    rintro r w9 ⟨rfl, hc⟩
    rw [hl]
    have C9 := h_ (hHeld.trans hc)
    clear hc hHeld
    refine hK.out _ _ C9.out (fun hHeld => ?_)
    clear hK K; try simp only [Act.put, sA, s0, s1]
    refine sy 29 42 rfl rfl ?_; try simp only [Act.put, sA, s0, s1]
    refine sy 30 43 rfl rfl ?_; try simp only [Act.put, sA, s0, s1]
    refine wpAnyH_done (by kernel_rfl) ?_ _
    replace PC := h_ (PC.out.trans C9.out)
    clear hHeld HC0 LS hl e1 e3 e4 e6 e7; go_wp2
    have PO := PC
    clear PC
    go_loopw [4] (fun v4 wr => ∃ (i : Nat), i ≤ k ∧ v4 = .int .i64 (i : Int) ∧ Hid (∀ (j : Nat) (a : EvP), j < i → es[j]? = some a → dotNe a e) ∧ Hid (Chg [] w wr)) (fun v4 _ => k - (RowKit.intOf v4).toNat)
    case atStart => exact ⟨0, Nat.zero_le _, rfl, h_ (fun j a h => by omega), PO⟩
    case round =>
     obtain ⟨i, hi, rfl, ND, PC⟩ := hrel
     clear PO
     have i0 : (0 : Int) ≤ (i : Int) := by omega
     by_cases hil : i < k
     ·
      have i1 : (i : Int) < (k : Int) := by omega
      have i2 : (i : Int) < (xs.length : Int) := by omega
      have i4 : i < xs.length := by omega
      have i3 : IntKind.i64.wrap ((i : Int) + 1) = (i : Int) + 1 := IntWalk.i64_in _ (by have := HN.out; omega)
      obtain ⟨y, f, ey, ef, ry⟩ := HX.out.at_ i4
      have EY := h_ ey
      have EF := h_ ef
      have YD : Hid (y.n = f.n ∧ y.s = f.s) := h_ ⟨ry.n, ry.s⟩
      clear ey ef ry
      have HC : Hid (∀ w', Chg [] wr w' → _ ∧ _) := h_ (fun w' hc => And.intro (evCells ((EA.out ▸ HA.out).chg (PC.out.trans hc) (by simp)) EX.out) (evCells ((EA.out ▸ HA.out).chg (PC.out.trans hc) (by simp)) EY.out))
      by_cases hd : y.n = x.n ∧ y.s = x.s
      ·
       skip
       have NO : Hid (stE es = 2) := h_ (st_no_dot hil EF.out EE.out ⟨by rw [← YD.out.1, ← XD.out.1]; exact hd.1, by rw [← YD.out.2, ← XD.out.2.1]; exact hd.2⟩)
       have dq : ((y.n == x.n) : Bool) = true := by simpa using hd.1
       have dr : ((y.s == x.s) : Bool) = true := by simpa using hd.2
       clear hd
       go_upto_region 9 with fail
       refine wp_region_held_drew (S := fun w' => Chg [] wr w') (by kernel_rfl) (Chg.refl [] wr).drew (fun hHeld => ?_)
       refine sy 0 49 rfl rfl ?_; try simp only [Act.put, sA, s0, s1]
       refine sy 1 50 rfl rfl ?_; try simp only [Act.put, sA, s0, s1]
       refine sy 2 51 rfl rfl ?_; try simp only [Act.put, sA, s0, s1]
       refine sy 3 52 rfl rfl ?_; try simp only [Act.put, sA, s0, s1]
       refine sy 4 53 rfl rfl ?_ (hy := by (intro w hSw; (try dsimp only at hSw); have hq := HC.out _ hSw; obtain ⟨⟨q0, q1, q2, q3, q4, q5, q6⟩, p0, p1, p2, p3, p4, p5, p6⟩ := hq; go_simp; try with_reducible rfl))
       try simp only [Act.put, sA, s0, s1]
       refine sy 5 54 rfl rfl ?_; try simp only [Act.put, sA, s0, s1]
       refine sy 6 55 rfl rfl ?_; try simp only [Act.put, sA, s0, s1]
       refine sy 7 56 rfl rfl ?_; try simp only [Act.put, sA, s0, s1]
       refine sy 8 57 rfl rfl ?_; try simp only [Act.put, sA, s0, s1]
       refine sy 9 58 rfl rfl ?_ (hy := by (intro w hSw; (try dsimp only at hSw); have hq := HC.out _ hSw; obtain ⟨⟨q0, q1, q2, q3, q4, q5, q6⟩, p0, p1, p2, p3, p4, p5, p6⟩ := hq; go_simp; try with_reducible rfl))
       try simp only [Act.put, sA, s0, s1]
       refine sy 10 59 rfl rfl ?_; try simp only [Act.put, sA, s0, s1]
       refine wpAnyH_done (by kernel_rfl) ?_ _
       replace PC := h_ (PC.out.trans hHeld)
       clear hHeld HC; go_wp2; go_ret
       have V2 : V = 2 := by rw [← HV.out]; exact NO.out
       rw [V2]
       exact ⟨rfl, PC.out⟩
      by_cases h1 : y.n = x.n
      ·
       skip
       have dq : ((y.n == x.n) : Bool) = true := by simpa using h1
       have dr : ((y.s == x.s) : Bool) = false := by simpa using (fun q => hd ⟨h1, q⟩)
       replace hd := h_ hd
       have ND1 : Hid (∀ (j : Nat) (a : EvP), j < i + 1 → es[j]? = some a → dotNe a e) := h_ (fun j a hj ha => by
        by_cases q : j < i
        ·
         exact ND.out j a q ha
        ·
         obtain rfl : j = i := by omega
         rw [EF.out] at ha
         cases ha
         intro t
         exact hd.out ⟨by rw [YD.out.1, XD.out.1]; exact t.1, by rw [YD.out.2, XD.out.2.1]; exact t.2⟩)
       clear h1 hd
       go_upto_region 9 with fail
       refine wp_region_held_drew (S := fun w' => Chg [] wr w') (by kernel_rfl) (Chg.refl [] wr).drew (fun hHeld => ?_)
       refine sy 0 49 rfl rfl ?_; try simp only [Act.put, sA, s0, s1]
       refine sy 1 50 rfl rfl ?_; try simp only [Act.put, sA, s0, s1]
       refine sy 2 51 rfl rfl ?_; try simp only [Act.put, sA, s0, s1]
       refine sy 3 52 rfl rfl ?_; try simp only [Act.put, sA, s0, s1]
       refine sy 4 53 rfl rfl ?_ (hy := by (intro w hSw; (try dsimp only at hSw); have hq := HC.out _ hSw; obtain ⟨⟨q0, q1, q2, q3, q4, q5, q6⟩, p0, p1, p2, p3, p4, p5, p6⟩ := hq; go_simp; try with_reducible rfl))
       try simp only [Act.put, sA, s0, s1]
       refine sy 5 54 rfl rfl ?_; try simp only [Act.put, sA, s0, s1]
       refine sy 6 55 rfl rfl ?_; try simp only [Act.put, sA, s0, s1]
       refine sy 7 56 rfl rfl ?_; try simp only [Act.put, sA, s0, s1]
       refine sy 8 57 rfl rfl ?_; try simp only [Act.put, sA, s0, s1]
       refine sy 9 58 rfl rfl ?_ (hy := by (intro w hSw; (try dsimp only at hSw); have hq := HC.out _ hSw; obtain ⟨⟨q0, q1, q2, q3, q4, q5, q6⟩, p0, p1, p2, p3, p4, p5, p6⟩ := hq; go_simp; try with_reducible rfl))
       try simp only [Act.put, sA, s0, s1]
       refine sy 10 59 rfl rfl ?_; try simp only [Act.put, sA, s0, s1]
       refine wpAnyH_done (by kernel_rfl) ?_ _
       replace PC := h_ (PC.out.trans hHeld)
       clear hHeld HC; go_wp2; go_round
       case rel => exact ⟨i + 1, by omega, by go_num, ND1, PC⟩
       case measure => simp [RowKit.intOf]; omega
      have dq : ((y.n == x.n) : Bool) = false := by simpa using h1
      replace hd := h_ hd
      have ND1 : Hid (∀ (j : Nat) (a : EvP), j < i + 1 → es[j]? = some a → dotNe a e) := h_ (fun j a hj ha => by
       by_cases q : j < i
       ·
        exact ND.out j a q ha
       ·
        obtain rfl : j = i := by omega
        rw [EF.out] at ha
        cases ha
        intro t
        exact hd.out ⟨by rw [YD.out.1, XD.out.1]; exact t.1, by rw [YD.out.2, XD.out.2.1]; exact t.2⟩)
      clear h1 hd
      go_upto_region 9 with fail
      refine wp_region_held_drew (S := fun w' => Chg [] wr w') (by kernel_rfl) (Chg.refl [] wr).drew (fun hHeld => ?_)
      refine sy 0 49 rfl rfl ?_; try simp only [Act.put, sA, s0, s1]
      refine sy 1 50 rfl rfl ?_; try simp only [Act.put, sA, s0, s1]
      refine sy 2 51 rfl rfl ?_; try simp only [Act.put, sA, s0, s1]
      refine sy 3 52 rfl rfl ?_; try simp only [Act.put, sA, s0, s1]
      refine sy 4 53 rfl rfl ?_ (hy := by (intro w hSw; (try dsimp only at hSw); have hq := HC.out _ hSw; obtain ⟨⟨q0, q1, q2, q3, q4, q5, q6⟩, p0, p1, p2, p3, p4, p5, p6⟩ := hq; go_simp; try with_reducible rfl))
      try simp only [Act.put, sA, s0, s1]
      refine sy 5 54 rfl rfl ?_; try simp only [Act.put, sA, s0, s1]
      refine sy 6 55 rfl rfl ?_; try simp only [Act.put, sA, s0, s1]
      refine sy 7 56 rfl rfl ?_; try simp only [Act.put, sA, s0, s1]
      refine sy 8 57 rfl rfl ?_; try simp only [Act.put, sA, s0, s1]
      refine sy 9 58 rfl rfl ?_ (hy := by (intro w hSw; (try dsimp only at hSw); have hq := HC.out _ hSw; obtain ⟨⟨q0, q1, q2, q3, q4, q5, q6⟩, p0, p1, p2, p3, p4, p5, p6⟩ := hq; go_simp; try with_reducible rfl))
      try simp only [Act.put, sA, s0, s1]
      refine sy 10 59 rfl rfl ?_; try simp only [Act.put, sA, s0, s1]
      refine wpAnyH_done (by kernel_rfl) ?_ _
      replace PC := h_ (PC.out.trans hHeld)
      clear hHeld HC; go_wp2; go_round
      case rel => exact ⟨i + 1, by omega, by go_num, ND1, PC⟩
      case measure => simp [RowKit.intOf]; omega
     ·
      obtain rfl : i = k := by omega
      have i1 : ¬ (i : Int) < (i : Int) := by omega
      have NE1 : Hid (NeTo es (i + 1)) := h_ (ne_next NE.out EE.out ND.out)
      go_wp2; go_round
      case rel => exact ⟨i + 1, by omega, by go_num, AD1, NE1, PC⟩
      case measure => simp [RowKit.intOf]; omega
  ·
   obtain rfl : k = xs.length := by omega
   have j1 : ¬ (xs.length : Int) < (xs.length : Int) := by omega
   have PTH := h_ (ktpaths_any wr A c xs es (HA.out.chg PC.out (by simp)) (HX.out.chg PC.out) (by have := HN.out; omega))
   go_wp2_with fail
   refine PTH.out.mono ?_
   rintro r w5 ⟨B, d, rfl, hr, hc⟩
   have RB := h_ hr
   have PC5 := h_ (PC.out.trans hc)
   have PN : Hid ((pathsE es).length ≤ 1000) := h_ (by have := pathsE_len es; have := XL.out; have := HN.out; omega)
   obtain ⟨ps, hps⟩ : ∃ ps, pathsE es = ps := ⟨_, rfl⟩
   have PSE := h_ hps
   rw [hps] at RB PN ⊢
   clear hr hc PTH PC hps; go_wp2
   go_loopw [6] (fun v6 wr => ∃ (i : Nat), i ≤ ps.length ∧ v6 = .int .i64 (i : Int) ∧ Hid (∀ p ∈ ps.take i, ShOk (atS es p)) ∧ Hid (Chg [] w5 wr)) (fun v6 _ => ps.length - (RowKit.intOf v6).toNat)
   case atStart => exact ⟨0, Nat.zero_le _, rfl, h_ (by simp), Chg.refl _ _⟩
   case round =>
    obtain ⟨i, hi, rfl, SO, QC⟩ := hrel
    have i0 : (0 : Int) ≤ (i : Int) := by omega
    by_cases hil : i < ps.length
    ·
     have i1 : (i : Int) < (ps.length : Int) := by omega
     have i3 : IntKind.i64.wrap ((i : Int) + 1) = (i : Int) + 1 := IntWalk.i64_in _ (by have := PN.out; omega)
     obtain ⟨g4, o4, eB, _⟩ := RB.out.line (by omega)
     subst eB
     obtain ⟨p, hp⟩ : ∃ p, ps[i]? = some p := ⟨_, List.getElem?_eq_getElem hil⟩
     have z0 := textCells (RB.out.chg QC.out (by simp)) hp
     have HP := h_ hp
     have C7 := h_ (PC5.out.trans QC.out)
     have SH := h_ (ktshelf_any wr A c xs es p (HA.out.chg C7.out (by simp)) (HX.out.chg C7.out) HN.out HS.out)
     clear hp; go_wp2_with fail; clear z0
     refine SH.out.mono ?_
     rintro r w7 ⟨A7, c7, zs, rfl, hr, he, hc⟩
     have LZ : Hid (zs.length ≤ 1000) := h_ (by have a := he.1; have b := List.length_filter_le (fun e => decide (e.p = p)) es; have := XL.out; have := HN.out; omega)
     have CK := h_ (kscheck_any w7 A7 c7 zs _ hr he (by have := LZ.out; omega) (fun e he => (HS.out e (List.mem_filter.1 he).1).1))
     have QC7 := h_ (QC.out.trans hc)
     clear hr he hc SH QC; go_wp2_with fail
     refine CK.out.mono ?_
     rintro r w8 ⟨rfl, hc⟩
     have QC8 := h_ (QC7.out.trans hc)
     clear hc CK QC7
     rcases shE_two (es.filter (fun e => decide (e.p = p))) with e1 | e1
     ·
      have SO1 : Hid (∀ q ∈ ps.take (i + 1), ShOk (atS es q)) := h_ (fun q hq => by
       rw [List.take_add_one, HP.out] at hq
       rcases List.mem_append.1 hq with t | t
       ·
        exact SO.out q t
       ·
        simp at t
        subst t
        exact shE_zero.1 e1)
      rw [e1]
      clear e1; go_wp2; go_round
      case rel => exact ⟨i + 1, by omega, by go_num, SO1, QC8⟩
      case measure => simp [RowKit.intOf]; omega
     ·
      have NO : Hid (stE es = 2) := h_ (st_no_shelf (by rw [PSE.out]; exact List.mem_of_getElem? HP.out) (fun q => by have t := shE_zero.2 q; unfold atS at t; rw [e1] at t; cases t))
      rw [e1]
      clear e1; go_wp2; go_ret
      have V2 : V = 2 := by rw [← HV.out]; exact NO.out
      rw [V2]
      exact ⟨rfl, PC5.out.trans QC8.out⟩
    ·
     obtain rfl : i = ps.length := by omega
     have i1 : ¬ (ps.length : Int) < (ps.length : Int) := by omega
     have V0 : Hid (V = 0) := h_ (by
      rw [← HV.out]
      refine st_yes (fun j a b ha hb => AD.out j a b (by have := (List.getElem?_eq_some_iff.1 hb).1; have := XL.out; omega) ha hb) (fun i j a b ij ha hb => NE.out i j a b ij (by have := (List.getElem?_eq_some_iff.1 hb).1; have := XL.out; omega) ha hb) (fun p hp => SO.out p ?_)
      rw [List.take_length, ← PSE.out]
      exact hp)
     go_wp2; go_ret
     rw [V0.out]
     exact ⟨rfl, PC5.out.trans QC.out⟩
end
section
open Go.RowKit Go.Lib


set_option maxRecDepth 100000 in
theorem edcheck_any (w : World) (n : Int) (B : Option Addr) (bl bc : Nat) (q : List Sp) (h : RdK spanTy w B bl q) (hn : bl ≤ 140737488351232) :
  Calls Tryz.prog 32 #[.agg #[.int .i64 n, .slice B bl bc]] w fun r w' => r = .returned (.int .i64 (chkA n q)) ∧ Chg [] w w' := by
 obtain ⟨w1, hw, hc, b0⟩ := news1 w (.cells #[.int .i64 n, .slice B bl bc] 25)
 have W1 := h_ hw
 have H := h_ (h.chg hc (by simp))
 have C := h_ hc
 have B0 := h_ b0
 have HN := h_ hn
 generalize hv : chkA n q = v
 have HV := h_ hv
 clear hw hc b0 h hn hv
 go_enter Tryz.func32, Tryz.ntmps32
 go_upto_region 1 with fail
 rw [← W1.out]
 generalize w.heap.size = g0 at *
 clear W1
 obtain ⟨z0, z1⟩ := ce2 B0.out
 by_cases h1 : n < 1
 ·
  skip
  obtain rfl : v = 2 := by rw [← HV.out]; exact chkA_lo h1
  go_wp2; go_ret
  exact ⟨rfl, C.out⟩
 by_cases h2 : 200 < n
 ·
  skip
  obtain rfl : v = 2 := by rw [← HV.out]; exact chkA_hi h2
  go_wp2; go_ret
  exact ⟨rfl, C.out⟩
 have HW : Hid (chkS q = v) := h_ (by rw [← HV.out]; exact (chkA_in (by omega) (by omega)).symm)
 go_wp2_with fail; clear h1 h2; clear z0 z1
 refine (pacheck_any w1 B bl bc q H.out HN.out).mono ?_
 rintro r w2 ⟨rfl, hc⟩
 replace C := h_ (C.out.trans hc)
 clear hc
 rw [HW.out]
 have TW : Hid (v = 0 ∨ v = 2) := h_ (by rw [← HW.out]; exact chk_two q)
 rcases TW.out with rfl | rfl
 ·
  skip; go_wp2; go_ret
  exact ⟨rfl, C.out⟩
 ·
  skip; go_wp2; go_ret
  exact ⟨rfl, C.out⟩

set_option maxRecDepth 100000 in
theorem fdcheck_any (w : World) (n : Int) (B : Option Addr) (bl bc : Nat) (q : List Sp) (h : RdK spanTy w B bl q) (hn : bl ≤ 140737488351232) :
  Calls Tryz.prog 38 #[.agg #[.int .i64 n, .slice B bl bc]] w fun r w' => r = .returned (.int .i64 (chkA n q)) ∧ Chg [] w w' := by
 obtain ⟨w1, hw, hc, b0⟩ := news1 w (.cells #[.int .i64 n, .slice B bl bc] 25)
 have W1 := h_ hw
 have H := h_ (h.chg hc (by simp))
 have C := h_ hc
 have B0 := h_ b0
 have HN := h_ hn
 generalize hv : chkA n q = v
 have HV := h_ hv
 clear hw hc b0 h hn hv
 go_enter Tryz.func38, Tryz.ntmps38
 go_upto_region 1 with fail
 rw [← W1.out]
 generalize w.heap.size = g0 at *
 clear W1
 obtain ⟨z0, z1⟩ := ce2 B0.out
 by_cases h1 : n < 1
 ·
  skip
  obtain rfl : v = 2 := by rw [← HV.out]; exact chkA_lo h1
  go_wp2; go_ret
  exact ⟨rfl, C.out⟩
 by_cases h2 : 200 < n
 ·
  skip
  obtain rfl : v = 2 := by rw [← HV.out]; exact chkA_hi h2
  go_wp2; go_ret
  exact ⟨rfl, C.out⟩
 have HW : Hid (chkS q = v) := h_ (by rw [← HV.out]; exact (chkA_in (by omega) (by omega)).symm)
 go_wp2_with fail; clear h1 h2; clear z0 z1
 refine (qacheck_any w1 B bl bc q H.out HN.out).mono ?_
 rintro r w2 ⟨rfl, hc⟩
 replace C := h_ (C.out.trans hc)
 clear hc
 rw [HW.out]
 have TW : Hid (v = 0 ∨ v = 2) := h_ (by rw [← HW.out]; exact chk_two q)
 rcases TW.out with rfl | rfl
 ·
  skip; go_wp2; go_ret
  exact ⟨rfl, C.out⟩
 ·
  skip; go_wp2; go_ret
  exact ⟨rfl, C.out⟩

set_option maxRecDepth 100000 in
theorem ednew_any (w : World) (n : Int)  :
  Calls Tryz.prog 22 #[.int .i64 n] w fun r w' => ∃ A' c', r = .returned (.tuple #[.agg #[.int .i64 (newA n).2.1, .slice A' (newA n).2.2.length c'], .int .i64 (newA n).1]) ∧ OwnK spanTy w' A' c' (newA n).2.2 ∧ (∀ a, A' = some a → w.heap.size ≤ a.block) ∧ Chg [] w w' := by
 obtain ⟨w1, hw, hc, b0, b1⟩ := news2 w (.cells #[.int .i64 0, .slice none 0 0] 25) (.cells #[.int .i64 n, .slice none 0 0] 25)
 have W1 := h_ hw
 have C := h_ hc
 have B0 := h_ b0
 have B1 := h_ b1
 generalize hv : newA n = v
 have HV := h_ hv
 clear hw hc b0 b1 hv
 go_enter Tryz.func22, Tryz.ntmps22
 go_upto_region 2 with fail
 rw [← W1.out]
 generalize hz1 : w.heap.size + 1 = g1 at *
 generalize hz0 : w.heap.size = g0 at *
 have Z := h_ (And.intro hz0 hz1)
 have n01 : ¬ g0 = g1 := by omega
 have n10 : ¬ g1 = g0 := by omega
 clear W1 hz0 hz1
 obtain ⟨z0, z1⟩ := ce2 B1.out
 go_wp2_with fail; clear z0 z1
 refine (edcheck_any w1 n none 0 0 [] (RdK.nil _ _) (by omega)).mono ?_
 rintro r w2 ⟨rfl, hc⟩
 replace C := h_ (C.out.trans hc)
 replace B0 := h_ (hc.at_ B0.out (by simp))
 replace B1 := h_ (hc.at_ B1.out (by simp))
 clear hc
 rcases chkA_two n [] with hk | hk
 ·
  skip
  obtain rfl : v = (0, n, []) := by rw [← HV.out]; unfold newA; rw [if_pos hk]
  rw [hk]
  clear hk
  have t0 := cell_of B0.out 0
  have t1 := cell_of B0.out 1
  have ft0 := free_of B0.out 0
  have ft1 := free_of B0.out 1
  simp only [gA, gY, gZ] at t0 t1
  obtain ⟨z0, z1⟩ := ce2 B1.out
  go_wp2
  refine bodyPost_ret (v := .tuple #[.agg #[.int .i64 n, .slice none 0 0], .int .i64 0]) (by simp [results, Tryz.results22, go_sem, t0, t1]) rfl ?_
  exact ⟨none, 0, rfl, OwnK.none_ _, by simp, C.out.trans' (((Chg.refl [g0] w2).put' 0 _).put' 1 _) (fun i hi => .inr (by have := Z.out; simp at hi; omega))⟩
 ·
  skip
  obtain rfl : v = (2, 0, []) := by rw [← HV.out]; unfold newA; rw [if_neg (by rw [hk]; decide)]
  rw [hk]
  clear hk
  have t0 := cell_of B0.out 0
  have t1 := cell_of B0.out 1
  have ft0 := free_of B0.out 0
  have ft1 := free_of B0.out 1
  simp only [gA, gY, gZ] at t0 t1
  obtain ⟨z0, z1⟩ := ce2 B1.out
  go_wp2
  refine bodyPost_ret (v := .tuple #[.agg #[.int .i64 0, .slice none 0 0], .int .i64 2]) (by simp [results, Tryz.results22, go_sem, t0, t1]) rfl ?_
  exact ⟨none, 0, rfl, OwnK.none_ _, by simp, C.out.trans' (((Chg.refl [g0] w2).put' 0 _).put' 1 _) (fun i hi => .inr (by have := Z.out; simp at hi; omega))⟩
end
end Go.Proofs.YtehmchdhlhchjaaGreatDoor
