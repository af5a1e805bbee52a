/- The document's Check (store). slices.Grow of nothing, slices.Concat of rows of events. Where the shelf of a path stands in a store. store.put's func; rebuilt. store.put. A range over a function whose body may also write maps: no program here. -/
import Derived.Test.YtomgjogkkoigbaaGreatDoorZsts
import Derived.Test.YtomgjogkkoigbaaGreatDoorZstw
import Derived.Test.YtomgjogkkoigbaaGreatDoorZstx
import Derived.Deep.Cut
import Derived.Deep.RegionHeld3
import Derived.Test.YtomgjogkkoigbaaGreatDoorZstu
import Derived.Test.YtomgjogkkoigbaaGreatDoorZstn
import Derived.Test.YtomgjogkkoigbaaGreatDoorZstv
import Derived.Test.YtomgjogkkoigbaaGreatDoorZstr
import Derived.Test.YtomgjogkkoigbaaGreatDoorZstd
import Derived.BigQuiet
import Derived.Test.YtomgjogkkoigbaaGreatDoorZstc
set_option linter.unusedSimpArgs false
set_option linter.unusedVariables false
namespace Go.Proofs.YtomgjogkkoigbaaGreatDoor
section
open Go.RowKit Go.Lib


theorem pw_adj : ∀ (es : List EvP), (∀ (j : Nat) (a b : EvP), es[j]? = some a → es[j + 1]? = some b → leP a b) → es.Pairwise leP
 | [], _ => .nil
 | [a], _ => by simp
 | a :: b :: l, h => by
  have ih := pw_adj (b :: l) (fun j x y hx hy => h (j + 1) x y (by simpa using hx) (by simpa using hy))
  refine List.pairwise_cons.2 ⟨fun y hy => ?_, ih⟩
  have ab := h 0 a b rfl rfl
  rcases List.mem_cons.1 hy with q | q
  ·
   rw [q]; exact ab
  ·
   exact leP_tr ab ((List.pairwise_cons.1 ih).1 y q)
theorem pw_at {R : EvP → EvP → Prop} {es : List EvP} (h : es.Pairwise R) {i j : Nat} {a b : EvP} (hij : i < j) (ha : es[i]? = some a) (hb : es[j]? = some b) : R a b := by
 obtain ⟨h1, e1⟩ := List.getElem?_eq_some_iff.1 ha
 obtain ⟨h2, e2⟩ := List.getElem?_eq_some_iff.1 hb
 rw [← e1, ← e2]
 exact List.pairwise_iff_getElem.1 h i j h1 h2 hij
theorem pw_of {R : EvP → EvP → Prop} {es : List EvP} (h : ∀ (i j : Nat) (a b : EvP), i < j → es[i]? = some a → es[j]? = some b → R a b) : es.Pairwise R :=
 List.pairwise_iff_getElem.2 (fun i j h1 h2 hij => h i j _ _ hij (List.getElem?_eq_getElem h1) (List.getElem?_eq_getElem h2))
theorem st_no {es : List EvP} (h : ¬ StOk es) : stE es = 2 := by unfold stE; rw [if_neg h]
theorem st_no_le {es : List EvP} {k : Nat} {a b : EvP} (k0 : 0 < k) (ha : es[k - 1]? = some a) (hb : es[k]? = some b) (h : ¬ leP a b) : stE es = 2 := st_no (fun s => h (pw_at s.1 (by omega) ha hb))
theorem st_no_dot {es : List EvP} {i k : Nat} {a b : EvP} (ik : i < k) (ha : es[i]? = some a) (hb : es[k]? = some b) (h : a.n = b.n ∧ a.s = b.s) : stE es = 2 := st_no (fun s => pw_at s.2.1 ik ha hb h)
theorem mem_paths : ∀ (es : List EvP) (acc : List (List UInt8)) (p : List UInt8), p ∈ es.foldl (fun acc e => addP acc e.p) acc ↔ p ∈ acc ∨ ∃ e ∈ es, e.p = p := by
 intro es
 induction es with
 | nil => intro acc p; simp
 | cons x l ih =>
  intro acc p
  rw [List.foldl_cons, ih]
  have h : p ∈ addP acc x.p ↔ p ∈ acc ∨ x.p = p := by
   unfold addP
   split
   ·
    rename_i h
    exact ⟨.inl, fun q => q.elim id (fun e => e ▸ h)⟩
   ·
    rw [List.mem_append, List.mem_singleton]
    exact ⟨fun q => q.imp id Eq.symm, fun q => q.imp id Eq.symm⟩
  rw [h]
  constructor
  ·
   rintro ((a | a) | ⟨e, he, q⟩)
   ·
    exact .inl a
   ·
    exact .inr ⟨x, by simp, a⟩
   ·
    exact .inr ⟨e, by simp [he], q⟩
  ·
   rintro (a | ⟨e, he, q⟩)
   ·
    exact .inl (.inl a)
   ·
    rcases List.mem_cons.1 he with r | r
    ·
     rw [r] at q; exact .inl (.inr q)
    ·
     exact .inr ⟨e, r, q⟩
theorem mem_pathsE {es : List EvP} {p : List UInt8} : p ∈ pathsE es ↔ ∃ e ∈ es, e.p = p := by
 unfold pathsE
 rw [mem_paths]
 simp
theorem st_no_shelf {es : List EvP} {p : List UInt8} (hp : p ∈ pathsE es) (h : ¬ ShOk (atS es p)) : stE es = 2 := st_no (fun s => by
 obtain ⟨e, he, q⟩ := mem_pathsE.1 hp
 have := s.2.2 e he
 rw [q] at this
 exact h this)
theorem st_yes {es : List EvP} (h1 : ∀ (j : Nat) (a b : EvP), es[j]? = some a → es[j + 1]? = some b → leP a b) (h2 : ∀ (i j : Nat) (a b : EvP), i < j → es[i]? = some a → es[j]? = some b → dotNe a b) (h3 : ∀ p ∈ pathsE es, ShOk (atS es p)) : stE es = 0 :=
 stE_zero.2 ⟨pw_adj es h1, pw_of h2, fun e he => h3 _ (mem_pathsE.2 ⟨e, he, rfl⟩)⟩
def AdjTo (es : List EvP) (k : Nat) : Prop := ∀ (j : Nat) (a b : EvP), j + 1 < k → es[j]? = some a → es[j + 1]? = some b → leP a b
def NeTo (es : List EvP) (k : Nat) : Prop := ∀ (i j : Nat) (a b : EvP), i < j → j < k → es[i]? = some a → es[j]? = some b → dotNe a b
theorem adj_next {es : List EvP} {k : Nat} {b : EvP} (h : AdjTo es k) (hb : es[k]? = some b) (q : ∀ a, 0 < k → es[k - 1]? = some a → leP a b) : AdjTo es (k + 1) := fun j a c hj ha hc => by
 by_cases e : j + 1 < k
 ·
  exact h j a c e ha hc
 ·
  obtain rfl : k = j + 1 := by omega
  rw [hb] at hc
  cases hc
  exact q a (by omega) (by simpa using ha)
theorem ne_next {es : List EvP} {k : Nat} {b : EvP} (h : NeTo es k) (hb : es[k]? = some b) (q : ∀ (i : Nat) (a : EvP), i < k → es[i]? = some a → dotNe a b) : NeTo es (k + 1) := fun i j a c ij hj ha hc => by
 by_cases e : j < k
 ·
  exact h i j a c ij e ha hc
 ·
  obtain rfl : k = j := by omega
  rw [hb] at hc
  cases hc
  exact q i a ij ha

set_option maxRecDepth 100000 in
set_option maxHeartbeats 16000000 in
theorem ktcheck_any (w : World) (A : Option Addr) (c : Nat) (xs : List EvT) (es : List EvP) (h : RdK evTy w A xs.length xs) (hx : EvsR w xs es) (hn : xs.length ≤ 1000) (hs : ∀ e ∈ es, EvSm e ∧ e.q.length ≤ 100000) :
  Calls Tryz.prog 16 #[.slice A xs.length c] w fun r w' => r = .returned (.int .i64 (stE es)) ∧ Chg [] w w' := by

 have HA := Lib.hid h
 have HX := Lib.hid hx
 have HN := Lib.hid hn
 have HS := Lib.hid hs
 have XL : Hid (xs.length = es.length) := Lib.hid hx.1
 obtain ⟨V, hV⟩ : ∃ V, stE es = V := ⟨_, rfl⟩
 have HV := Lib.hid hV
 rw [hV]
 clear h hx hn hs hV
 go_enter Tryz.func16, Tryz.ntmps16
 go_wp2
 go_loopw [3, 4] (fun v3 _ wr => ∃ (k : Nat), k ≤ xs.length ∧ v3 = .int .i64 (k : Int) ∧ Hid (AdjTo es k) ∧ Hid (NeTo es k) ∧ Hid (Chg [] w wr)) (fun v3 _ _ => xs.length - (RowKit.intOf v3).toNat)
 case atStart => exact ⟨0, Nat.zero_le _, rfl, Lib.hid (fun j a b h => by omega), Lib.hid (fun i j a b h1 h2 => by omega), Chg.refl _ _⟩
 case round =>
  obtain ⟨k, hk, rfl, AD, NE, PC⟩ := hrel
  have j0 : (0 : Int) ≤ (k : Int) := by omega
  by_cases hlt : k < xs.length
  ·
   have j1 : (k : Int) < (xs.length : Int) := by omega
   have j3 : IntKind.i64.wrap ((k : Int) + 1) = (k : Int) + 1 := IntWalk.i64_in _ (by have := HN.out; omega)
   obtain ⟨g3, o3, eA, _⟩ := HA.out.line (by omega)
   have EA := Lib.hid eA
   obtain ⟨x, e, ex, ee, rx⟩ := HX.out.at_ hlt
   have EX := Lib.hid ex
   have EE := Lib.hid ee
   have XD : Hid (x.n = e.n ∧ x.s = e.s ∧ x.p = strOf e.p) := Lib.hid ⟨rx.n, rx.s, rx.p⟩
   clear ex ee rx
   rw [eA]
   clear eA
   by_cases k0 : k = 0
   ·
    skip
    have AD1 : Hid (AdjTo es (k + 1)) := Lib.hid (adj_next AD.out EE.out (fun a q => by omega))
    have g1 : ¬ (0 : Int) < (k : Int) := by omega
    have g2 : ¬ 0 < k := by omega
    have g3' : decide ((0 : Int) < (k : Int)) = false := decide_eq_false g1
    have g4 : decide (0 < k) = false := decide_eq_false g2
    go_upto_region 4 with fail
    refine wp_region_held_drew (S := fun w' => Chg [] wr w') (by kernel_rfl) (Chg.refl [] wr).drew (fun hHeld => ?_)
    refine sy 0 13 rfl rfl ?_; try simp only [Act.put, sA, s0, s1]
    refine sy 1 14 rfl rfl ?_; try simp only [Act.put, sA, s0, s1]
    refine sy 2 15 rfl rfl ?_; try simp only [Act.put, sA, s0, s1]
    refine sn 3 16 rfl rfl ?_; try simp only [Act.put, sA, s0, s1]
    refine sn 4 17 rfl rfl ?_; try simp only [Act.put, sA, s0, s1]
    refine sn 5 18 rfl rfl ?_; try simp only [Act.put, sA, s0, s1]
    refine sn 6 19 rfl rfl ?_; try simp only [Act.put, sA, s0, s1]
    refine sn 7 20 rfl rfl ?_; try simp only [Act.put, sA, s0, s1]
    refine sn 8 21 rfl rfl ?_; try simp only [Act.put, sA, s0, s1]
    refine sn 9 22 rfl rfl ?_; try simp only [Act.put, sA, s0, s1]
    refine sn 10 23 rfl rfl ?_; try simp only [Act.put, sA, s0, s1]
    refine sn 11 24 rfl rfl ?_; try simp only [Act.put, sA, s0, s1]
    refine sn 12 25 rfl rfl ?_; try simp only [Act.put, sA, s0, s1]
    refine sn 13 26 rfl rfl ?_; try simp only [Act.put, sA, s0, s1]
    refine sn 14 27 rfl rfl ?_; try simp only [Act.put, sA, s0, s1]
    refine sy 15 28 rfl rfl ?_; try simp only [Act.put, sA, s0, s1]
    refine sy 16 29 rfl rfl ?_; try simp only [Act.put, sA, s0, s1]
    refine sn 17 30 rfl rfl ?_; try simp only [Act.put, sA, s0, s1]
    refine sn 18 31 rfl rfl ?_; try simp only [Act.put, sA, s0, s1]
    refine sn 19 32 rfl rfl ?_; try simp only [Act.put, sA, s0, s1]
    refine sn 20 33 rfl rfl ?_; try simp only [Act.put, sA, s0, s1]
    refine sn 21 34 rfl rfl ?_; try simp only [Act.put, sA, s0, s1]
    refine sn 22 35 rfl rfl ?_; try simp only [Act.put, sA, s0, s1]
    refine sn 23 36 rfl rfl ?_; try simp only [Act.put, sA, s0, s1]
    refine sn 24 37 rfl rfl ?_; try simp only [Act.put, sA, s0, s1]
    refine sn 25 38 rfl rfl ?_; try simp only [Act.put, sA, s0, s1]
    refine sn 26 39 rfl rfl ?_; try simp only [Act.put, sA, s0, s1]
    refine sn 27 40 rfl rfl ?_; try simp only [Act.put, sA, s0, s1]
    refine sn 28 41 rfl rfl ?_; try simp only [Act.put, sA, s0, s1]
    refine sn 29 42 rfl rfl ?_; try simp only [Act.put, sA, s0, s1]
    refine sy 30 43 rfl rfl ?_; try simp only [Act.put, sA, s0, s1]
    refine wpAnyH_done (by kernel_rfl) ?_ _; clear g1 g2 g3' g4 k0
    replace PC := Lib.hid (PC.out.trans hHeld)
    clear hHeld; go_wp2
    have PO := PC
    clear PC
    go_loopw [4] (fun v4 wr => ∃ (i : Nat), i ≤ k ∧ v4 = .int .i64 (i : Int) ∧ Hid (∀ (j : Nat) (a : EvP), j < i → es[j]? = some a → dotNe a e) ∧ Hid (Chg [] w wr)) (fun v4 _ => k - (RowKit.intOf v4).toNat)
    case atStart => exact ⟨0, Nat.zero_le _, rfl, Lib.hid (fun j a h => by omega), PO⟩
    case round =>
     obtain ⟨i, hi, rfl, ND, PC⟩ := hrel
     clear PO
     have i0 : (0 : Int) ≤ (i : Int) := by omega
     by_cases hil : i < k
     ·
      have i1 : (i : Int) < (k : Int) := by omega
      have i2 : (i : Int) < (xs.length : Int) := by omega
      have i4 : i < xs.length := by omega
      have i3 : IntKind.i64.wrap ((i : Int) + 1) = (i : Int) + 1 := IntWalk.i64_in _ (by have := HN.out; omega)
      obtain ⟨y, f, ey, ef, ry⟩ := HX.out.at_ i4
      have EY := Lib.hid ey
      have EF := Lib.hid ef
      have YD : Hid (y.n = f.n ∧ y.s = f.s) := Lib.hid ⟨ry.n, ry.s⟩
      clear ey ef ry
      have HC : Hid (∀ w', Chg [] wr w' → _ ∧ _) := Lib.hid (fun w' hc => And.intro (evCells ((EA.out ▸ HA.out).chg (PC.out.trans hc) (by simp)) EX.out) (evCells ((EA.out ▸ HA.out).chg (PC.out.trans hc) (by simp)) EY.out))
      by_cases hd : y.n = x.n ∧ y.s = x.s
      ·
       skip
       have NO : Hid (stE es = 2) := Lib.hid (st_no_dot hil EF.out EE.out ⟨by rw [← YD.out.1, ← XD.out.1]; exact hd.1, by rw [← YD.out.2, ← XD.out.2.1]; exact hd.2⟩)
       have dq : ((y.n == x.n) : Bool) = true := by simpa using hd.1
       have dr : ((y.s == x.s) : Bool) = true := by simpa using hd.2
       clear hd
       go_upto_region 9 with fail
       refine wp_region_held_drew (S := fun w' => Chg [] wr w') (by kernel_rfl) (Chg.refl [] wr).drew (fun hHeld => ?_)
       refine sy 0 49 rfl rfl ?_; try simp only [Act.put, sA, s0, s1]
       refine sy 1 50 rfl rfl ?_; try simp only [Act.put, sA, s0, s1]
       refine sy 2 51 rfl rfl ?_; try simp only [Act.put, sA, s0, s1]
       refine sy 3 52 rfl rfl ?_; try simp only [Act.put, sA, s0, s1]
       refine sy 4 53 rfl rfl ?_ (hy := by (intro w hSw; (try dsimp only at hSw); have hq := HC.out _ hSw; obtain ⟨⟨q0, q1, q2, q3, q4, q5, q6⟩, p0, p1, p2, p3, p4, p5, p6⟩ := hq; go_simp; try with_reducible rfl))
       try simp only [Act.put, sA, s0, s1]
       refine sy 5 54 rfl rfl ?_; try simp only [Act.put, sA, s0, s1]
       refine sy 6 55 rfl rfl ?_; try simp only [Act.put, sA, s0, s1]
       refine sy 7 56 rfl rfl ?_; try simp only [Act.put, sA, s0, s1]
       refine sy 8 57 rfl rfl ?_; try simp only [Act.put, sA, s0, s1]
       refine sy 9 58 rfl rfl ?_ (hy := by (intro w hSw; (try dsimp only at hSw); have hq := HC.out _ hSw; obtain ⟨⟨q0, q1, q2, q3, q4, q5, q6⟩, p0, p1, p2, p3, p4, p5, p6⟩ := hq; go_simp; try with_reducible rfl))
       try simp only [Act.put, sA, s0, s1]
       refine sy 10 59 rfl rfl ?_; try simp only [Act.put, sA, s0, s1]
       refine wpAnyH_done (by kernel_rfl) ?_ _
       replace PC := Lib.hid (PC.out.trans hHeld)
       clear hHeld HC; go_wp2; go_ret
       have V2 : V = 2 := by rw [← HV.out]; exact NO.out
       rw [V2]
       exact ⟨rfl, PC.out⟩
      by_cases h1 : y.n = x.n
      ·
       skip
       have dq : ((y.n == x.n) : Bool) = true := by simpa using h1
       have dr : ((y.s == x.s) : Bool) = false := by simpa using (fun q => hd ⟨h1, q⟩)
       replace hd := Lib.hid hd
       have ND1 : Hid (∀ (j : Nat) (a : EvP), j < i + 1 → es[j]? = some a → dotNe a e) := Lib.hid (fun j a hj ha => by
        by_cases q : j < i
        ·
         exact ND.out j a q ha
        ·
         obtain rfl : j = i := by omega
         rw [EF.out] at ha
         cases ha
         intro t
         exact hd.out ⟨by rw [YD.out.1, XD.out.1]; exact t.1, by rw [YD.out.2, XD.out.2.1]; exact t.2⟩)
       clear h1 hd
       go_upto_region 9 with fail
       refine wp_region_held_drew (S := fun w' => Chg [] wr w') (by kernel_rfl) (Chg.refl [] wr).drew (fun hHeld => ?_)
       refine sy 0 49 rfl rfl ?_; try simp only [Act.put, sA, s0, s1]
       refine sy 1 50 rfl rfl ?_; try simp only [Act.put, sA, s0, s1]
       refine sy 2 51 rfl rfl ?_; try simp only [Act.put, sA, s0, s1]
       refine sy 3 52 rfl rfl ?_; try simp only [Act.put, sA, s0, s1]
       refine sy 4 53 rfl rfl ?_ (hy := by (intro w hSw; (try dsimp only at hSw); have hq := HC.out _ hSw; obtain ⟨⟨q0, q1, q2, q3, q4, q5, q6⟩, p0, p1, p2, p3, p4, p5, p6⟩ := hq; go_simp; try with_reducible rfl))
       try simp only [Act.put, sA, s0, s1]
       refine sy 5 54 rfl rfl ?_; try simp only [Act.put, sA, s0, s1]
       refine sy 6 55 rfl rfl ?_; try simp only [Act.put, sA, s0, s1]
       refine sy 7 56 rfl rfl ?_; try simp only [Act.put, sA, s0, s1]
       refine sy 8 57 rfl rfl ?_; try simp only [Act.put, sA, s0, s1]
       refine sy 9 58 rfl rfl ?_ (hy := by (intro w hSw; (try dsimp only at hSw); have hq := HC.out _ hSw; obtain ⟨⟨q0, q1, q2, q3, q4, q5, q6⟩, p0, p1, p2, p3, p4, p5, p6⟩ := hq; go_simp; try with_reducible rfl))
       try simp only [Act.put, sA, s0, s1]
       refine sy 10 59 rfl rfl ?_; try simp only [Act.put, sA, s0, s1]
       refine wpAnyH_done (by kernel_rfl) ?_ _
       replace PC := Lib.hid (PC.out.trans hHeld)
       clear hHeld HC; go_wp2; go_round
       case rel => exact ⟨i + 1, by omega, by go_num, ND1, PC⟩
       case measure => simp [RowKit.intOf]; omega
      have dq : ((y.n == x.n) : Bool) = false := by simpa using h1
      replace hd := Lib.hid hd
      have ND1 : Hid (∀ (j : Nat) (a : EvP), j < i + 1 → es[j]? = some a → dotNe a e) := Lib.hid (fun j a hj ha => by
       by_cases q : j < i
       ·
        exact ND.out j a q ha
       ·
        obtain rfl : j = i := by omega
        rw [EF.out] at ha
        cases ha
        intro t
        exact hd.out ⟨by rw [YD.out.1, XD.out.1]; exact t.1, by rw [YD.out.2, XD.out.2.1]; exact t.2⟩)
      clear h1 hd
      go_upto_region 9 with fail
      refine wp_region_held_drew (S := fun w' => Chg [] wr w') (by kernel_rfl) (Chg.refl [] wr).drew (fun hHeld => ?_)
      refine sy 0 49 rfl rfl ?_; try simp only [Act.put, sA, s0, s1]
      refine sy 1 50 rfl rfl ?_; try simp only [Act.put, sA, s0, s1]
      refine sy 2 51 rfl rfl ?_; try simp only [Act.put, sA, s0, s1]
      refine sy 3 52 rfl rfl ?_; try simp only [Act.put, sA, s0, s1]
      refine sy 4 53 rfl rfl ?_ (hy := by (intro w hSw; (try dsimp only at hSw); have hq := HC.out _ hSw; obtain ⟨⟨q0, q1, q2, q3, q4, q5, q6⟩, p0, p1, p2, p3, p4, p5, p6⟩ := hq; go_simp; try with_reducible rfl))
      try simp only [Act.put, sA, s0, s1]
      refine sy 5 54 rfl rfl ?_; try simp only [Act.put, sA, s0, s1]
      refine sy 6 55 rfl rfl ?_; try simp only [Act.put, sA, s0, s1]
      refine sy 7 56 rfl rfl ?_; try simp only [Act.put, sA, s0, s1]
      refine sy 8 57 rfl rfl ?_; try simp only [Act.put, sA, s0, s1]
      refine sy 9 58 rfl rfl ?_ (hy := by (intro w hSw; (try dsimp only at hSw); have hq := HC.out _ hSw; obtain ⟨⟨q0, q1, q2, q3, q4, q5, q6⟩, p0, p1, p2, p3, p4, p5, p6⟩ := hq; go_simp; try with_reducible rfl))
      try simp only [Act.put, sA, s0, s1]
      refine sy 10 59 rfl rfl ?_; try simp only [Act.put, sA, s0, s1]
      refine wpAnyH_done (by kernel_rfl) ?_ _
      replace PC := Lib.hid (PC.out.trans hHeld)
      clear hHeld HC; go_wp2; go_round
      case rel => exact ⟨i + 1, by omega, by go_num, ND1, PC⟩
      case measure => simp [RowKit.intOf]; omega
     ·
      obtain rfl : i = k := by omega
      have i1 : ¬ (i : Int) < (i : Int) := by omega
      have NE1 : Hid (NeTo es (i + 1)) := Lib.hid (ne_next NE.out EE.out ND.out)
      go_wp2; go_round
      case rel => exact ⟨i + 1, by omega, by go_num, AD1, NE1, PC⟩
      case measure => simp [RowKit.intOf]; omega
   have g1 : (0 : Int) < (k : Int) := by omega
   have g2 : 0 < k := by omega
   have g3' : decide ((0 : Int) < (k : Int)) = true := decide_eq_true g1
   have g4 : decide (0 < k) = true := decide_eq_true g2
   have w1' : IntKind.i64.wrap ((k : Int) - 1) = ((k - 1 : Nat) : Int) := by rw [IntWalk.i64_in _ (by have := HN.out; omega)]; omega
   have g5 : (0 : Int) ≤ ((k - 1 : Nat) : Int) := by omega
   have g6' : ((k - 1 : Nat) : Int) < (xs.length : Int) := by omega
   have g7 : k - 1 < xs.length := by omega
   obtain ⟨y0, f0, ey, ef, ry⟩ := HX.out.at_ g7
   have EY0 := Lib.hid ey
   have EF0 := Lib.hid ef
   have YP := Lib.hid ry.p
   clear ey ef ry
   have HC0 : Hid (∀ w', Chg [] wr w' → w'.cell? ⟨g3, o3 + k * 7 + 2, none⟩ = some (.string (strOf e.p)) ∧ w'.cell? ⟨g3, o3 + (k - 1) * 7 + 2, none⟩ = some (.string (strOf f0.p))) := Lib.hid (fun w' hc => by
    have a := (evCells ((EA.out ▸ HA.out).chg (PC.out.trans hc) (by simp)) EX.out).2.2.1
    have b := (evCells ((EA.out ▸ HA.out).chg (PC.out.trans hc) (by simp)) EY0.out).2.2.1
    rw [XD.out.2.2] at a
    rw [YP.out] at b
    exact ⟨a, b⟩)
   by_cases hp : e.p = f0.p
   ·
    skip
    have AD1 : Hid (AdjTo es (k + 1)) := Lib.hid (adj_next AD.out EE.out (fun a _ ha => by rw [EF0.out] at ha; cases ha; exact .inl hp.symm))
    have e4 : (e.p == f0.p) = true := by rw [hp]; exact beq_self_eq_true _
    have e5 : ((strOf e.p == strOf f0.p) : Bool) = true := by rw [hp]; show ((f0.p.toArray == f0.p.toArray) : Bool) = true; simp
    have e6 : ((strOf e.p != strOf f0.p) : Bool) = false := by simp only [bne, e5]; rfl
    have e7 : (e.p != f0.p) = false := by simp only [bne, e4]; rfl
    clear hp
    go_upto_region 4 with fail
    refine wp_region_held_drew (S := fun w' => Chg [] wr w') (by kernel_rfl) (Chg.refl [] wr).drew (fun hHeld => ?_)
    refine sy 0 13 rfl rfl ?_; try simp only [Act.put, sA, s0, s1]
    refine sy 1 14 rfl rfl ?_; try simp only [Act.put, sA, s0, s1]
    refine sy 2 15 rfl rfl ?_; try simp only [Act.put, sA, s0, s1]
    refine sy 3 16 rfl rfl ?_; try simp only [Act.put, sA, s0, s1]
    refine sy 4 17 rfl rfl ?_; try simp only [Act.put, sA, s0, s1]
    refine sy 5 18 rfl rfl ?_; try simp only [Act.put, sA, s0, s1]
    refine sy 6 19 rfl rfl ?_; try simp only [Act.put, sA, s0, s1]
    refine sy 7 20 rfl rfl ?_ (hy := by (intro w hSw; (try dsimp only at hSw); have hq := HC0.out _ hSw; obtain ⟨q0, q1⟩ := hq; go_simp; try with_reducible rfl))
    try simp only [Act.put, sA, s0, s1]
    refine sy 8 21 rfl rfl ?_; try simp only [Act.put, sA, s0, s1]
    refine sy 9 22 rfl rfl ?_; try simp only [Act.put, sA, s0, s1]
    refine sy 10 23 rfl rfl ?_; try simp only [Act.put, sA, s0, s1]
    refine sy 11 24 rfl rfl ?_; try simp only [Act.put, sA, s0, s1]
    refine sy 12 25 rfl rfl ?_; try simp only [Act.put, sA, s0, s1]
    refine sy 13 26 rfl rfl ?_ (hy := by (intro w hSw; (try dsimp only at hSw); have hq := HC0.out _ hSw; obtain ⟨q0, q1⟩ := hq; go_simp; try with_reducible rfl))
    try simp only [Act.put, sA, s0, s1]
    refine sy 14 27 rfl rfl ?_; try simp only [Act.put, sA, s0, s1]
    refine sy 15 28 rfl rfl ?_; try simp only [Act.put, sA, s0, s1]
    refine sy 16 29 rfl rfl ?_; try simp only [Act.put, sA, s0, s1]
    refine sn 17 30 rfl rfl ?_; try simp only [Act.put, sA, s0, s1]
    refine sn 18 31 rfl rfl ?_; try simp only [Act.put, sA, s0, s1]
    refine sn 19 32 rfl rfl ?_; try simp only [Act.put, sA, s0, s1]
    refine sn 20 33 rfl rfl ?_; try simp only [Act.put, sA, s0, s1]
    refine sn 21 34 rfl rfl ?_; try simp only [Act.put, sA, s0, s1]
    refine sn 22 35 rfl rfl ?_; try simp only [Act.put, sA, s0, s1]
    refine sn 23 36 rfl rfl ?_; try simp only [Act.put, sA, s0, s1]
    refine sn 24 37 rfl rfl ?_; try simp only [Act.put, sA, s0, s1]
    refine sn 25 38 rfl rfl ?_; try simp only [Act.put, sA, s0, s1]
    refine sn 26 39 rfl rfl ?_; try simp only [Act.put, sA, s0, s1]
    refine sn 27 40 rfl rfl ?_; try simp only [Act.put, sA, s0, s1]
    refine sn 28 41 rfl rfl ?_; try simp only [Act.put, sA, s0, s1]
    refine sn 29 42 rfl rfl ?_; try simp only [Act.put, sA, s0, s1]
    refine sy 30 43 rfl rfl ?_; try simp only [Act.put, sA, s0, s1]
    refine wpAnyH_done (by kernel_rfl) ?_ _; clear e4 e5 e6 e7 HC0
    replace PC := Lib.hid (PC.out.trans hHeld)
    clear hHeld; go_wp2
    have PO := PC
    clear PC
    go_loopw [4] (fun v4 wr => ∃ (i : Nat), i ≤ k ∧ v4 = .int .i64 (i : Int) ∧ Hid (∀ (j : Nat) (a : EvP), j < i → es[j]? = some a → dotNe a e) ∧ Hid (Chg [] w wr)) (fun v4 _ => k - (RowKit.intOf v4).toNat)
    case atStart => exact ⟨0, Nat.zero_le _, rfl, Lib.hid (fun j a h => by omega), PO⟩
    case round =>
     obtain ⟨i, hi, rfl, ND, PC⟩ := hrel
     clear PO
     have i0 : (0 : Int) ≤ (i : Int) := by omega
     by_cases hil : i < k
     ·
      have i1 : (i : Int) < (k : Int) := by omega
      have i2 : (i : Int) < (xs.length : Int) := by omega
      have i4 : i < xs.length := by omega
      have i3 : IntKind.i64.wrap ((i : Int) + 1) = (i : Int) + 1 := IntWalk.i64_in _ (by have := HN.out; omega)
      obtain ⟨y, f, ey, ef, ry⟩ := HX.out.at_ i4
      have EY := Lib.hid ey
      have EF := Lib.hid ef
      have YD : Hid (y.n = f.n ∧ y.s = f.s) := Lib.hid ⟨ry.n, ry.s⟩
      clear ey ef ry
      have HC : Hid (∀ w', Chg [] wr w' → _ ∧ _) := Lib.hid (fun w' hc => And.intro (evCells ((EA.out ▸ HA.out).chg (PC.out.trans hc) (by simp)) EX.out) (evCells ((EA.out ▸ HA.out).chg (PC.out.trans hc) (by simp)) EY.out))
      by_cases hd : y.n = x.n ∧ y.s = x.s
      ·
       skip
       have NO : Hid (stE es = 2) := Lib.hid (st_no_dot hil EF.out EE.out ⟨by rw [← YD.out.1, ← XD.out.1]; exact hd.1, by rw [← YD.out.2, ← XD.out.2.1]; exact hd.2⟩)
       have dq : ((y.n == x.n) : Bool) = true := by simpa using hd.1
       have dr : ((y.s == x.s) : Bool) = true := by simpa using hd.2
       clear hd
       go_upto_region 9 with fail
       refine wp_region_held_drew (S := fun w' => Chg [] wr w') (by kernel_rfl) (Chg.refl [] wr).drew (fun hHeld => ?_)
       refine sy 0 49 rfl rfl ?_; try simp only [Act.put, sA, s0, s1]
       refine sy 1 50 rfl rfl ?_; try simp only [Act.put, sA, s0, s1]
       refine sy 2 51 rfl rfl ?_; try simp only [Act.put, sA, s0, s1]
       refine sy 3 52 rfl rfl ?_; try simp only [Act.put, sA, s0, s1]
       refine sy 4 53 rfl rfl ?_ (hy := by (intro w hSw; (try dsimp only at hSw); have hq := HC.out _ hSw; obtain ⟨⟨q0, q1, q2, q3, q4, q5, q6⟩, p0, p1, p2, p3, p4, p5, p6⟩ := hq; go_simp; try with_reducible rfl))
       try simp only [Act.put, sA, s0, s1]
       refine sy 5 54 rfl rfl ?_; try simp only [Act.put, sA, s0, s1]
       refine sy 6 55 rfl rfl ?_; try simp only [Act.put, sA, s0, s1]
       refine sy 7 56 rfl rfl ?_; try simp only [Act.put, sA, s0, s1]
       refine sy 8 57 rfl rfl ?_; try simp only [Act.put, sA, s0, s1]
       refine sy 9 58 rfl rfl ?_ (hy := by (intro w hSw; (try dsimp only at hSw); have hq := HC.out _ hSw; obtain ⟨⟨q0, q1, q2, q3, q4, q5, q6⟩, p0, p1, p2, p3, p4, p5, p6⟩ := hq; go_simp; try with_reducible rfl))
       try simp only [Act.put, sA, s0, s1]
       refine sy 10 59 rfl rfl ?_; try simp only [Act.put, sA, s0, s1]
       refine wpAnyH_done (by kernel_rfl) ?_ _
       replace PC := Lib.hid (PC.out.trans hHeld)
       clear hHeld HC; go_wp2; go_ret
       have V2 : V = 2 := by rw [← HV.out]; exact NO.out
       rw [V2]
       exact ⟨rfl, PC.out⟩
      by_cases h1 : y.n = x.n
      ·
       skip
       have dq : ((y.n == x.n) : Bool) = true := by simpa using h1
       have dr : ((y.s == x.s) : Bool) = false := by simpa using (fun q => hd ⟨h1, q⟩)
       replace hd := Lib.hid hd
       have ND1 : Hid (∀ (j : Nat) (a : EvP), j < i + 1 → es[j]? = some a → dotNe a e) := Lib.hid (fun j a hj ha => by
        by_cases q : j < i
        ·
         exact ND.out j a q ha
        ·
         obtain rfl : j = i := by omega
         rw [EF.out] at ha
         cases ha
         intro t
         exact hd.out ⟨by rw [YD.out.1, XD.out.1]; exact t.1, by rw [YD.out.2, XD.out.2.1]; exact t.2⟩)
       clear h1 hd
       go_upto_region 9 with fail
       refine wp_region_held_drew (S := fun w' => Chg [] wr w') (by kernel_rfl) (Chg.refl [] wr).drew (fun hHeld => ?_)
       refine sy 0 49 rfl rfl ?_; try simp only [Act.put, sA, s0, s1]
       refine sy 1 50 rfl rfl ?_; try simp only [Act.put, sA, s0, s1]
       refine sy 2 51 rfl rfl ?_; try simp only [Act.put, sA, s0, s1]
       refine sy 3 52 rfl rfl ?_; try simp only [Act.put, sA, s0, s1]
       refine sy 4 53 rfl rfl ?_ (hy := by (intro w hSw; (try dsimp only at hSw); have hq := HC.out _ hSw; obtain ⟨⟨q0, q1, q2, q3, q4, q5, q6⟩, p0, p1, p2, p3, p4, p5, p6⟩ := hq; go_simp; try with_reducible rfl))
       try simp only [Act.put, sA, s0, s1]
       refine sy 5 54 rfl rfl ?_; try simp only [Act.put, sA, s0, s1]
       refine sy 6 55 rfl rfl ?_; try simp only [Act.put, sA, s0, s1]
       refine sy 7 56 rfl rfl ?_; try simp only [Act.put, sA, s0, s1]
       refine sy 8 57 rfl rfl ?_; try simp only [Act.put, sA, s0, s1]
       refine sy 9 58 rfl rfl ?_ (hy := by (intro w hSw; (try dsimp only at hSw); have hq := HC.out _ hSw; obtain ⟨⟨q0, q1, q2, q3, q4, q5, q6⟩, p0, p1, p2, p3, p4, p5, p6⟩ := hq; go_simp; try with_reducible rfl))
       try simp only [Act.put, sA, s0, s1]
       refine sy 10 59 rfl rfl ?_; try simp only [Act.put, sA, s0, s1]
       refine wpAnyH_done (by kernel_rfl) ?_ _
       replace PC := Lib.hid (PC.out.trans hHeld)
       clear hHeld HC; go_wp2; go_round
       case rel => exact ⟨i + 1, by omega, by go_num, ND1, PC⟩
       case measure => simp [RowKit.intOf]; omega
      have dq : ((y.n == x.n) : Bool) = false := by simpa using h1
      replace hd := Lib.hid hd
      have ND1 : Hid (∀ (j : Nat) (a : EvP), j < i + 1 → es[j]? = some a → dotNe a e) := Lib.hid (fun j a hj ha => by
       by_cases q : j < i
       ·
        exact ND.out j a q ha
       ·
        obtain rfl : j = i := by omega
        rw [EF.out] at ha
        cases ha
        intro t
        exact hd.out ⟨by rw [YD.out.1, XD.out.1]; exact t.1, by rw [YD.out.2, XD.out.2.1]; exact t.2⟩)
      clear h1 hd
      go_upto_region 9 with fail
      refine wp_region_held_drew (S := fun w' => Chg [] wr w') (by kernel_rfl) (Chg.refl [] wr).drew (fun hHeld => ?_)
      refine sy 0 49 rfl rfl ?_; try simp only [Act.put, sA, s0, s1]
      refine sy 1 50 rfl rfl ?_; try simp only [Act.put, sA, s0, s1]
      refine sy 2 51 rfl rfl ?_; try simp only [Act.put, sA, s0, s1]
      refine sy 3 52 rfl rfl ?_; try simp only [Act.put, sA, s0, s1]
      refine sy 4 53 rfl rfl ?_ (hy := by (intro w hSw; (try dsimp only at hSw); have hq := HC.out _ hSw; obtain ⟨⟨q0, q1, q2, q3, q4, q5, q6⟩, p0, p1, p2, p3, p4, p5, p6⟩ := hq; go_simp; try with_reducible rfl))
      try simp only [Act.put, sA, s0, s1]
      refine sy 5 54 rfl rfl ?_; try simp only [Act.put, sA, s0, s1]
      refine sy 6 55 rfl rfl ?_; try simp only [Act.put, sA, s0, s1]
      refine sy 7 56 rfl rfl ?_; try simp only [Act.put, sA, s0, s1]
      refine sy 8 57 rfl rfl ?_; try simp only [Act.put, sA, s0, s1]
      refine sy 9 58 rfl rfl ?_ (hy := by (intro w hSw; (try dsimp only at hSw); have hq := HC.out _ hSw; obtain ⟨⟨q0, q1, q2, q3, q4, q5, q6⟩, p0, p1, p2, p3, p4, p5, p6⟩ := hq; go_simp; try with_reducible rfl))
      try simp only [Act.put, sA, s0, s1]
      refine sy 10 59 rfl rfl ?_; try simp only [Act.put, sA, s0, s1]
      refine wpAnyH_done (by kernel_rfl) ?_ _
      replace PC := Lib.hid (PC.out.trans hHeld)
      clear hHeld HC; go_wp2; go_round
      case rel => exact ⟨i + 1, by omega, by go_num, ND1, PC⟩
      case measure => simp [RowKit.intOf]; omega
     ·
      obtain rfl : i = k := by omega
      have i1 : ¬ (i : Int) < (i : Int) := by omega
      have NE1 : Hid (NeTo es (i + 1)) := Lib.hid (ne_next NE.out EE.out ND.out)
      go_wp2; go_round
      case rel => exact ⟨i + 1, by omega, by go_num, AD1, NE1, PC⟩
      case measure => simp [RowKit.intOf]; omega
   have e1 := strOf_ne hp
   have e3 := strOf_ne2 hp
   have e4 : (e.p == f0.p) = false := beq_eq_false_iff_ne.2 hp
   have e6 : ((strOf e.p != strOf f0.p) : Bool) = true := by simp only [bne, e1]; rfl
   have e7 : (e.p != f0.p) = true := by simp only [bne, e4]; rfl
   have HP := Lib.hid hp
   clear hp
   have LS : Hid (∀ w', Chg [] wr w' → Calls Tryz.prog 51 #[.string (strOf f0.p), .string (strOf e.p)] w' fun r w2 => r = .returned (.bool (lessL f0.p e.p)) ∧ Chg [] w' w2) := Lib.hid (fun w' _ => qhless_any w' f0.p e.p (HS.out f0 (List.mem_of_getElem? EF0.out)).1.1 (HS.out e (List.mem_of_getElem? EE.out)).1.1)
   rcases hl : lessL f0.p e.p with _ | _
   ·
    skip
    have NO : Hid (stE es = 2) := Lib.hid (st_no_le (by omega) EF0.out EE.out (fun q => q.elim (fun t => HP.out t.symm) (fun t => by rw [hl] at t; cases t)))
    go_upto_region 4 with fail
    refine wp_region_held_drew (S := fun w' => Chg [] wr w') (by kernel_rfl) (Chg.refl [] wr).drew (fun hHeld => ?_)
    refine sy 0 13 rfl rfl ?_; try simp only [Act.put, sA, s0, s1]
    refine sy 1 14 rfl rfl ?_; try simp only [Act.put, sA, s0, s1]
    refine sy 2 15 rfl rfl ?_; try simp only [Act.put, sA, s0, s1]
    refine sy 3 16 rfl rfl ?_; try simp only [Act.put, sA, s0, s1]
    refine sy 4 17 rfl rfl ?_; try simp only [Act.put, sA, s0, s1]
    refine sy 5 18 rfl rfl ?_; try simp only [Act.put, sA, s0, s1]
    refine sy 6 19 rfl rfl ?_; try simp only [Act.put, sA, s0, s1]
    refine sy 7 20 rfl rfl ?_ (hy := by (intro w hSw; (try dsimp only at hSw); have hq := HC0.out _ hSw; obtain ⟨q0, q1⟩ := hq; go_simp; try with_reducible rfl))
    try simp only [Act.put, sA, s0, s1]
    refine sy 8 21 rfl rfl ?_; try simp only [Act.put, sA, s0, s1]
    refine sy 9 22 rfl rfl ?_; try simp only [Act.put, sA, s0, s1]
    refine sy 10 23 rfl rfl ?_; try simp only [Act.put, sA, s0, s1]
    refine sy 11 24 rfl rfl ?_; try simp only [Act.put, sA, s0, s1]
    refine sy 12 25 rfl rfl ?_; try simp only [Act.put, sA, s0, s1]
    refine sy 13 26 rfl rfl ?_ (hy := by (intro w hSw; (try dsimp only at hSw); have hq := HC0.out _ hSw; obtain ⟨q0, q1⟩ := hq; go_simp; try with_reducible rfl))
    try simp only [Act.put, sA, s0, s1]
    refine sy 14 27 rfl rfl ?_; try simp only [Act.put, sA, s0, s1]
    refine sy 15 28 rfl rfl ?_; try simp only [Act.put, sA, s0, s1]
    refine sy 16 29 rfl rfl ?_; try simp only [Act.put, sA, s0, s1]
    refine sy 17 30 rfl rfl ?_; try simp only [Act.put, sA, s0, s1]
    refine sy 18 31 rfl rfl ?_; try simp only [Act.put, sA, s0, s1]
    refine sy 19 32 rfl rfl ?_; try simp only [Act.put, sA, s0, s1]
    refine sy 20 33 rfl rfl ?_; try simp only [Act.put, sA, s0, s1]
    refine sy 21 34 rfl rfl ?_; try simp only [Act.put, sA, s0, s1]
    refine sy 22 35 rfl rfl ?_ (hy := by (intro w hSw; (try dsimp only at hSw); have hq := HC0.out _ hSw; obtain ⟨q0, q1⟩ := hq; go_simp; try with_reducible rfl))
    try simp only [Act.put, sA, s0, s1]
    refine sy 23 36 rfl rfl ?_; try simp only [Act.put, sA, s0, s1]
    refine sy 24 37 rfl rfl ?_; try simp only [Act.put, sA, s0, s1]
    refine sy 25 38 rfl rfl ?_; try simp only [Act.put, sA, s0, s1]
    refine sy 26 39 rfl rfl ?_; try simp only [Act.put, sA, s0, s1]
    refine sy 27 40 rfl rfl ?_ (hy := by (intro w hSw; (try dsimp only at hSw); have hq := HC0.out _ hSw; obtain ⟨q0, q1⟩ := hq; go_simp; try with_reducible rfl))
    try simp only [Act.put, sA, s0, s1]
    refine wpAnyH_ready (rs := [28]) (by kernel_rfl) (by simp) ?_; refine AllReadyH.cons rfl (fun K hK => ?_) AllReadyH.nil; replace hK := Lib.hid hK; go_simp
    refine (LS.out _ hHeld).mono ?_
    rintro r w9 ⟨rfl, hc⟩
    rw [hl]
    have C9 := Lib.hid (hHeld.trans hc)
    clear hc hHeld
    refine hK.out _ _ C9.out (fun hHeld => ?_)
    clear hK K; try simp only [Act.put, sA, s0, s1]
    refine sy 29 42 rfl rfl ?_; try simp only [Act.put, sA, s0, s1]
    refine sy 30 43 rfl rfl ?_; try simp only [Act.put, sA, s0, s1]
    refine wpAnyH_done (by kernel_rfl) ?_ _
    replace PC := Lib.hid (PC.out.trans C9.out)
    clear hHeld HC0 LS; go_wp2; go_ret
    have V2 : V = 2 := by rw [← HV.out]; exact NO.out
    rw [V2]
    exact ⟨rfl, PC.out⟩
   ·
    skip
    have AD1 : Hid (AdjTo es (k + 1)) := Lib.hid (adj_next AD.out EE.out (fun a _ ha => by rw [EF0.out] at ha; cases ha; exact .inr hl))
    go_upto_region 4 with fail
    refine wp_region_held_drew (S := fun w' => Chg [] wr w') (by kernel_rfl) (Chg.refl [] wr).drew (fun hHeld => ?_)
    refine sy 0 13 rfl rfl ?_; try simp only [Act.put, sA, s0, s1]
    refine sy 1 14 rfl rfl ?_; try simp only [Act.put, sA, s0, s1]
    refine sy 2 15 rfl rfl ?_; try simp only [Act.put, sA, s0, s1]
    refine sy 3 16 rfl rfl ?_; try simp only [Act.put, sA, s0, s1]
    refine sy 4 17 rfl rfl ?_; try simp only [Act.put, sA, s0, s1]
    refine sy 5 18 rfl rfl ?_; try simp only [Act.put, sA, s0, s1]
    refine sy 6 19 rfl rfl ?_; try simp only [Act.put, sA, s0, s1]
    refine sy 7 20 rfl rfl ?_ (hy := by (intro w hSw; (try dsimp only at hSw); have hq := HC0.out _ hSw; obtain ⟨q0, q1⟩ := hq; go_simp; try with_reducible rfl))
    try simp only [Act.put, sA, s0, s1]
    refine sy 8 21 rfl rfl ?_; try simp only [Act.put, sA, s0, s1]
    refine sy 9 22 rfl rfl ?_; try simp only [Act.put, sA, s0, s1]
    refine sy 10 23 rfl rfl ?_; try simp only [Act.put, sA, s0, s1]
    refine sy 11 24 rfl rfl ?_; try simp only [Act.put, sA, s0, s1]
    refine sy 12 25 rfl rfl ?_; try simp only [Act.put, sA, s0, s1]
    refine sy 13 26 rfl rfl ?_ (hy := by (intro w hSw; (try dsimp only at hSw); have hq := HC0.out _ hSw; obtain ⟨q0, q1⟩ := hq; go_simp; try with_reducible rfl))
    try simp only [Act.put, sA, s0, s1]
    refine sy 14 27 rfl rfl ?_; try simp only [Act.put, sA, s0, s1]
    refine sy 15 28 rfl rfl ?_; try simp only [Act.put, sA, s0, s1]
    refine sy 16 29 rfl rfl ?_; try simp only [Act.put, sA, s0, s1]
    refine sy 17 30 rfl rfl ?_; try simp only [Act.put, sA, s0, s1]
    refine sy 18 31 rfl rfl ?_; try simp only [Act.put, sA, s0, s1]
    refine sy 19 32 rfl rfl ?_; try simp only [Act.put, sA, s0, s1]
    refine sy 20 33 rfl rfl ?_; try simp only [Act.put, sA, s0, s1]
    refine sy 21 34 rfl rfl ?_; try simp only [Act.put, sA, s0, s1]
    refine sy 22 35 rfl rfl ?_ (hy := by (intro w hSw; (try dsimp only at hSw); have hq := HC0.out _ hSw; obtain ⟨q0, q1⟩ := hq; go_simp; try with_reducible rfl))
    try simp only [Act.put, sA, s0, s1]
    refine sy 23 36 rfl rfl ?_; try simp only [Act.put, sA, s0, s1]
    refine sy 24 37 rfl rfl ?_; try simp only [Act.put, sA, s0, s1]
    refine sy 25 38 rfl rfl ?_; try simp only [Act.put, sA, s0, s1]
    refine sy 26 39 rfl rfl ?_; try simp only [Act.put, sA, s0, s1]
    refine sy 27 40 rfl rfl ?_ (hy := by (intro w hSw; (try dsimp only at hSw); have hq := HC0.out _ hSw; obtain ⟨q0, q1⟩ := hq; go_simp; try with_reducible rfl))
    try simp only [Act.put, sA, s0, s1]
    refine wpAnyH_ready (rs := [28]) (by kernel_rfl) (by simp) ?_; refine AllReadyH.cons rfl (fun K hK => ?_) AllReadyH.nil; replace hK := Lib.hid hK; go_simp
    refine (LS.out _ hHeld).mono ?_
    rintro r w9 ⟨rfl, hc⟩
    rw [hl]
    have C9 := Lib.hid (hHeld.trans hc)
    clear hc hHeld
    refine hK.out _ _ C9.out (fun hHeld => ?_)
    clear hK K; try simp only [Act.put, sA, s0, s1]
    refine sy 29 42 rfl rfl ?_; try simp only [Act.put, sA, s0, s1]
    refine sy 30 43 rfl rfl ?_; try simp only [Act.put, sA, s0, s1]
    refine wpAnyH_done (by kernel_rfl) ?_ _
    replace PC := Lib.hid (PC.out.trans C9.out)
    clear hHeld HC0 LS hl e1 e3 e4 e6 e7; go_wp2
    have PO := PC
    clear PC
    go_loopw [4] (fun v4 wr => ∃ (i : Nat), i ≤ k ∧ v4 = .int .i64 (i : Int) ∧ Hid (∀ (j : Nat) (a : EvP), j < i → es[j]? = some a → dotNe a e) ∧ Hid (Chg [] w wr)) (fun v4 _ => k - (RowKit.intOf v4).toNat)
    case atStart => exact ⟨0, Nat.zero_le _, rfl, Lib.hid (fun j a h => by omega), PO⟩
    case round =>
     obtain ⟨i, hi, rfl, ND, PC⟩ := hrel
     clear PO
     have i0 : (0 : Int) ≤ (i : Int) := by omega
     by_cases hil : i < k
     ·
      have i1 : (i : Int) < (k : Int) := by omega
      have i2 : (i : Int) < (xs.length : Int) := by omega
      have i4 : i < xs.length := by omega
      have i3 : IntKind.i64.wrap ((i : Int) + 1) = (i : Int) + 1 := IntWalk.i64_in _ (by have := HN.out; omega)
      obtain ⟨y, f, ey, ef, ry⟩ := HX.out.at_ i4
      have EY := Lib.hid ey
      have EF := Lib.hid ef
      have YD : Hid (y.n = f.n ∧ y.s = f.s) := Lib.hid ⟨ry.n, ry.s⟩
      clear ey ef ry
      have HC : Hid (∀ w', Chg [] wr w' → _ ∧ _) := Lib.hid (fun w' hc => And.intro (evCells ((EA.out ▸ HA.out).chg (PC.out.trans hc) (by simp)) EX.out) (evCells ((EA.out ▸ HA.out).chg (PC.out.trans hc) (by simp)) EY.out))
      by_cases hd : y.n = x.n ∧ y.s = x.s
      ·
       skip
       have NO : Hid (stE es = 2) := Lib.hid (st_no_dot hil EF.out EE.out ⟨by rw [← YD.out.1, ← XD.out.1]; exact hd.1, by rw [← YD.out.2, ← XD.out.2.1]; exact hd.2⟩)
       have dq : ((y.n == x.n) : Bool) = true := by simpa using hd.1
       have dr : ((y.s == x.s) : Bool) = true := by simpa using hd.2
       clear hd
       go_upto_region 9 with fail
       refine wp_region_held_drew (S := fun w' => Chg [] wr w') (by kernel_rfl) (Chg.refl [] wr).drew (fun hHeld => ?_)
       refine sy 0 49 rfl rfl ?_; try simp only [Act.put, sA, s0, s1]
       refine sy 1 50 rfl rfl ?_; try simp only [Act.put, sA, s0, s1]
       refine sy 2 51 rfl rfl ?_; try simp only [Act.put, sA, s0, s1]
       refine sy 3 52 rfl rfl ?_; try simp only [Act.put, sA, s0, s1]
       refine sy 4 53 rfl rfl ?_ (hy := by (intro w hSw; (try dsimp only at hSw); have hq := HC.out _ hSw; obtain ⟨⟨q0, q1, q2, q3, q4, q5, q6⟩, p0, p1, p2, p3, p4, p5, p6⟩ := hq; go_simp; try with_reducible rfl))
       try simp only [Act.put, sA, s0, s1]
       refine sy 5 54 rfl rfl ?_; try simp only [Act.put, sA, s0, s1]
       refine sy 6 55 rfl rfl ?_; try simp only [Act.put, sA, s0, s1]
       refine sy 7 56 rfl rfl ?_; try simp only [Act.put, sA, s0, s1]
       refine sy 8 57 rfl rfl ?_; try simp only [Act.put, sA, s0, s1]
       refine sy 9 58 rfl rfl ?_ (hy := by (intro w hSw; (try dsimp only at hSw); have hq := HC.out _ hSw; obtain ⟨⟨q0, q1, q2, q3, q4, q5, q6⟩, p0, p1, p2, p3, p4, p5, p6⟩ := hq; go_simp; try with_reducible rfl))
       try simp only [Act.put, sA, s0, s1]
       refine sy 10 59 rfl rfl ?_; try simp only [Act.put, sA, s0, s1]
       refine wpAnyH_done (by kernel_rfl) ?_ _
       replace PC := Lib.hid (PC.out.trans hHeld)
       clear hHeld HC; go_wp2; go_ret
       have V2 : V = 2 := by rw [← HV.out]; exact NO.out
       rw [V2]
       exact ⟨rfl, PC.out⟩
      by_cases h1 : y.n = x.n
      ·
       skip
       have dq : ((y.n == x.n) : Bool) = true := by simpa using h1
       have dr : ((y.s == x.s) : Bool) = false := by simpa using (fun q => hd ⟨h1, q⟩)
       replace hd := Lib.hid hd
       have ND1 : Hid (∀ (j : Nat) (a : EvP), j < i + 1 → es[j]? = some a → dotNe a e) := Lib.hid (fun j a hj ha => by
        by_cases q : j < i
        ·
         exact ND.out j a q ha
        ·
         obtain rfl : j = i := by omega
         rw [EF.out] at ha
         cases ha
         intro t
         exact hd.out ⟨by rw [YD.out.1, XD.out.1]; exact t.1, by rw [YD.out.2, XD.out.2.1]; exact t.2⟩)
       clear h1 hd
       go_upto_region 9 with fail
       refine wp_region_held_drew (S := fun w' => Chg [] wr w') (by kernel_rfl) (Chg.refl [] wr).drew (fun hHeld => ?_)
       refine sy 0 49 rfl rfl ?_; try simp only [Act.put, sA, s0, s1]
       refine sy 1 50 rfl rfl ?_; try simp only [Act.put, sA, s0, s1]
       refine sy 2 51 rfl rfl ?_; try simp only [Act.put, sA, s0, s1]
       refine sy 3 52 rfl rfl ?_; try simp only [Act.put, sA, s0, s1]
       refine sy 4 53 rfl rfl ?_ (hy := by (intro w hSw; (try dsimp only at hSw); have hq := HC.out _ hSw; obtain ⟨⟨q0, q1, q2, q3, q4, q5, q6⟩, p0, p1, p2, p3, p4, p5, p6⟩ := hq; go_simp; try with_reducible rfl))
       try simp only [Act.put, sA, s0, s1]
       refine sy 5 54 rfl rfl ?_; try simp only [Act.put, sA, s0, s1]
       refine sy 6 55 rfl rfl ?_; try simp only [Act.put, sA, s0, s1]
       refine sy 7 56 rfl rfl ?_; try simp only [Act.put, sA, s0, s1]
       refine sy 8 57 rfl rfl ?_; try simp only [Act.put, sA, s0, s1]
       refine sy 9 58 rfl rfl ?_ (hy := by (intro w hSw; (try dsimp only at hSw); have hq := HC.out _ hSw; obtain ⟨⟨q0, q1, q2, q3, q4, q5, q6⟩, p0, p1, p2, p3, p4, p5, p6⟩ := hq; go_simp; try with_reducible rfl))
       try simp only [Act.put, sA, s0, s1]
       refine sy 10 59 rfl rfl ?_; try simp only [Act.put, sA, s0, s1]
       refine wpAnyH_done (by kernel_rfl) ?_ _
       replace PC := Lib.hid (PC.out.trans hHeld)
       clear hHeld HC; go_wp2; go_round
       case rel => exact ⟨i + 1, by omega, by go_num, ND1, PC⟩
       case measure => simp [RowKit.intOf]; omega
      have dq : ((y.n == x.n) : Bool) = false := by simpa using h1
      replace hd := Lib.hid hd
      have ND1 : Hid (∀ (j : Nat) (a : EvP), j < i + 1 → es[j]? = some a → dotNe a e) := Lib.hid (fun j a hj ha => by
       by_cases q : j < i
       ·
        exact ND.out j a q ha
       ·
        obtain rfl : j = i := by omega
        rw [EF.out] at ha
        cases ha
        intro t
        exact hd.out ⟨by rw [YD.out.1, XD.out.1]; exact t.1, by rw [YD.out.2, XD.out.2.1]; exact t.2⟩)
      clear h1 hd
      go_upto_region 9 with fail
      refine wp_region_held_drew (S := fun w' => Chg [] wr w') (by kernel_rfl) (Chg.refl [] wr).drew (fun hHeld => ?_)
      refine sy 0 49 rfl rfl ?_; try simp only [Act.put, sA, s0, s1]
      refine sy 1 50 rfl rfl ?_; try simp only [Act.put, sA, s0, s1]
      refine sy 2 51 rfl rfl ?_; try simp only [Act.put, sA, s0, s1]
      refine sy 3 52 rfl rfl ?_; try simp only [Act.put, sA, s0, s1]
      refine sy 4 53 rfl rfl ?_ (hy := by (intro w hSw; (try dsimp only at hSw); have hq := HC.out _ hSw; obtain ⟨⟨q0, q1, q2, q3, q4, q5, q6⟩, p0, p1, p2, p3, p4, p5, p6⟩ := hq; go_simp; try with_reducible rfl))
      try simp only [Act.put, sA, s0, s1]
      refine sy 5 54 rfl rfl ?_; try simp only [Act.put, sA, s0, s1]
      refine sy 6 55 rfl rfl ?_; try simp only [Act.put, sA, s0, s1]
      refine sy 7 56 rfl rfl ?_; try simp only [Act.put, sA, s0, s1]
      refine sy 8 57 rfl rfl ?_; try simp only [Act.put, sA, s0, s1]
      refine sy 9 58 rfl rfl ?_ (hy := by (intro w hSw; (try dsimp only at hSw); have hq := HC.out _ hSw; obtain ⟨⟨q0, q1, q2, q3, q4, q5, q6⟩, p0, p1, p2, p3, p4, p5, p6⟩ := hq; go_simp; try with_reducible rfl))
      try simp only [Act.put, sA, s0, s1]
      refine sy 10 59 rfl rfl ?_; try simp only [Act.put, sA, s0, s1]
      refine wpAnyH_done (by kernel_rfl) ?_ _
      replace PC := Lib.hid (PC.out.trans hHeld)
      clear hHeld HC; go_wp2; go_round
      case rel => exact ⟨i + 1, by omega, by go_num, ND1, PC⟩
      case measure => simp [RowKit.intOf]; omega
     ·
      obtain rfl : i = k := by omega
      have i1 : ¬ (i : Int) < (i : Int) := by omega
      have NE1 : Hid (NeTo es (i + 1)) := Lib.hid (ne_next NE.out EE.out ND.out)
      go_wp2; go_round
      case rel => exact ⟨i + 1, by omega, by go_num, AD1, NE1, PC⟩
      case measure => simp [RowKit.intOf]; omega
  ·
   obtain rfl : k = xs.length := by omega
   have j1 : ¬ (xs.length : Int) < (xs.length : Int) := by omega
   have PTH := Lib.hid (ktpaths_any wr A c xs es (HA.out.chg PC.out (by simp)) (HX.out.chg PC.out) (by have := HN.out; omega))
   go_wp2_with fail
   refine PTH.out.mono ?_
   rintro r w5 ⟨B, d, rfl, hr, hc⟩
   have RB := Lib.hid hr
   have PC5 := Lib.hid (PC.out.trans hc)
   have PN : Hid ((pathsE es).length ≤ 1000) := Lib.hid (by have := pathsE_len es; have := XL.out; have := HN.out; omega)
   obtain ⟨ps, hps⟩ : ∃ ps, pathsE es = ps := ⟨_, rfl⟩
   have PSE := Lib.hid hps
   rw [hps] at RB PN ⊢
   clear hr hc PTH PC hps; go_wp2
   go_loopw [6] (fun v6 wr => ∃ (i : Nat), i ≤ ps.length ∧ v6 = .int .i64 (i : Int) ∧ Hid (∀ p ∈ ps.take i, ShOk (atS es p)) ∧ Hid (Chg [] w5 wr)) (fun v6 _ => ps.length - (RowKit.intOf v6).toNat)
   case atStart => exact ⟨0, Nat.zero_le _, rfl, Lib.hid (by simp), Chg.refl _ _⟩
   case round =>
    obtain ⟨i, hi, rfl, SO, QC⟩ := hrel
    have i0 : (0 : Int) ≤ (i : Int) := by omega
    by_cases hil : i < ps.length
    ·
     have i1 : (i : Int) < (ps.length : Int) := by omega
     have i3 : IntKind.i64.wrap ((i : Int) + 1) = (i : Int) + 1 := IntWalk.i64_in _ (by have := PN.out; omega)
     obtain ⟨g4, o4, eB, _⟩ := RB.out.line (by omega)
     subst eB
     obtain ⟨p, hp⟩ : ∃ p, ps[i]? = some p := ⟨_, List.getElem?_eq_getElem hil⟩
     have z0 := textCells (RB.out.chg QC.out (by simp)) hp
     have HP := Lib.hid hp
     have C7 := Lib.hid (PC5.out.trans QC.out)
     have SH := Lib.hid (ktshelf_any wr A c xs es p (HA.out.chg C7.out (by simp)) (HX.out.chg C7.out) HN.out HS.out)
     clear hp; go_wp2_with fail; clear z0
     refine SH.out.mono ?_
     rintro r w7 ⟨A7, c7, zs, rfl, hr, he, hc⟩
     have LZ : Hid (zs.length ≤ 1000) := Lib.hid (by have a := he.1; have b := List.length_filter_le (fun e => decide (e.p = p)) es; have := XL.out; have := HN.out; omega)
     have CK := Lib.hid (kscheck_any w7 A7 c7 zs _ hr he (by have := LZ.out; omega) (fun e he => (HS.out e (List.mem_filter.1 he).1).1))
     have QC7 := Lib.hid (QC.out.trans hc)
     clear hr he hc SH QC; go_wp2_with fail
     refine CK.out.mono ?_
     rintro r w8 ⟨rfl, hc⟩
     have QC8 := Lib.hid (QC7.out.trans hc)
     clear hc CK QC7
     rcases shE_two (es.filter (fun e => decide (e.p = p))) with e1 | e1
     ·
      have SO1 : Hid (∀ q ∈ ps.take (i + 1), ShOk (atS es q)) := Lib.hid (fun q hq => by
       rw [List.take_add_one, HP.out] at hq
       rcases List.mem_append.1 hq with t | t
       ·
        exact SO.out q t
       ·
        simp at t
        subst t
        exact shE_zero.1 e1)
      rw [e1]
      clear e1; go_wp2; go_round
      case rel => exact ⟨i + 1, by omega, by go_num, SO1, QC8⟩
      case measure => simp [RowKit.intOf]; omega
     ·
      have NO : Hid (stE es = 2) := Lib.hid (st_no_shelf (by rw [PSE.out]; exact List.mem_of_getElem? HP.out) (fun q => by have t := shE_zero.2 q; unfold atS at t; rw [e1] at t; cases t))
      rw [e1]
      clear e1; go_wp2; go_ret
      have V2 : V = 2 := by rw [← HV.out]; exact NO.out
      rw [V2]
      exact ⟨rfl, PC5.out.trans QC8.out⟩
    ·
     obtain rfl : i = ps.length := by omega
     have i1 : ¬ (ps.length : Int) < (ps.length : Int) := by omega
     have V0 : Hid (V = 0) := Lib.hid (by
      rw [← HV.out]
      refine st_yes (fun j a b ha hb => AD.out j a b (by have := (List.getElem?_eq_some_iff.1 hb).1; have := XL.out; omega) ha hb) (fun i j a b ij ha hb => NE.out i j a b ij (by have := (List.getElem?_eq_some_iff.1 hb).1; have := XL.out; omega) ha hb) (fun p hp => SO.out p ?_)
      rw [List.take_length, ← PSE.out]
      exact hp)
     go_wp2; go_ret
     rw [V0.out]
     exact ⟨rfl, PC5.out.trans QC.out⟩
end
section
open Go.RowKit Go.Lib

set_option maxRecDepth 100000 in
set_option maxHeartbeats 4000000 in
theorem evgrow_any (w : World) (n : Nat) (hn : n ≤ 100000) :
  Calls Tryz.prog 221 #[.slice none 0 0, .int .i64 (n : Int)] w fun r w' => ∃ (A' : Option Addr) (c' : Nat), r = .returned (.slice A' 0 c') ∧ OwnK evTy w' A' c' [] ∧ (∀ a, A' = some a → w.heap.size ≤ a.block) ∧ Chg [] w w' := by
 have n0 : ¬ ((n : Int) < 0) := by omega
 have n1 : IntKind.i64.wrap ((n : Int)) = (n : Int) := IntWalk.i64_in _ (by omega)
 have n2 : IntKind.i64.wrap ((n : Int) - 0) = (n : Int) := by rw [IntWalk.i64_in _ (by omega)]; omega
 by_cases h0 : n = 0
 ·
  subst h0
  go_enter Tryz.func221, Tryz.ntmps221
  go_wp2; go_ret
  exact ⟨none, 0, rfl, OwnK.none_ _, by simp, Chg.refl _ _⟩
 ·
  have hpos : 0 < n := by omega
  have n3 : (0 : Int) < (n : Int) := by omega
  obtain ⟨i0', hi0, hz0, hz1, hz2⟩ := info_parts evTy.info
  have k7 : evTy.k = 7 := rfl
  have HRZ0 := run_append_grow_zeros (P := Tryz.prog) w 22 3 0 30 i0' evTy.zv .i64 .i64 evTy.under (by first | rfl | kernel_rfl) hi0 hz0 none 0 0 [] (by simp [Builtin.firstCells]) n hpos (by rw [hz1, k7]; omega) (by omega) (by omega) (by rw [hz2]; have : evTy.bytes ≤ 200 := evTy.bpos; have := Nat.mul_le_mul_left n this; omega) (growslice_fits (by omega) (by rw [hz2]; have : evTy.bytes ≤ 200 := evTy.bpos; have := Nat.mul_le_mul_left (0 + n) this; omega))
  rw [Nat.zero_add] at HRZ0
  obtain ⟨G, hG⟩ : ∃ G, G = grownCap w n 0 30 := ⟨_, rfl⟩
  have GE : n ≤ G := by rw [hG]; exact grownCap_ge w _ _ _
  have GM : G ≤ maxLen := by rw [hG]; exact grownCap_le_maxLen w _ _ _ (by unfold maxLen; omega)
  have hrow : (([] : List Value).toArray ++ Builtin.zeroCells evTy.zv.cells n ++ Builtin.zeroCells evTy.zv.cells (G - n)) = (evTy.flat (List.replicate n evTy.z ++ List.replicate (G - n) evTy.z)).toArray := by
   rw [evTy.zeros, evTy.zeros, evTy.flat_app]
   simp
  rw [← hG, hrow] at HRZ0
  obtain ⟨w1, hw1, c1, q1⟩ : ∃ w1, w.drew.alloc (.cells (evTy.flat (List.replicate n evTy.z ++ List.replicate (G - n) evTy.z)).toArray 30) = w1 ∧ Chg [] w w1 ∧ w1.heap[w.heap.size]? = some (.cells (evTy.flat (List.replicate n evTy.z ++ List.replicate (G - n) evTy.z)).toArray 30 (0, 0)) := ⟨_, rfl, (Chg.refl [] w).drew.alloc _, heap_alloc_new w.drew _⟩
  rw [hw1] at HRZ0
  have HRZ : ∀ ty, (Builtin.append_ #[22, 3] ty #[.slice none 0 0, .int .i64 (n : Int)]).run Tryz.prog w = .ok (.slice (some ⟨w.heap.size, 0, none⟩) n G) w1 := fun ty => HRZ0
  have OWN : Hid (OwnK evTy w1 (some ⟨w.heap.size, 0, none⟩) G []) := Lib.hid (OwnK.of (full := List.replicate n evTy.z ++ List.replicate (G - n) evTy.z) q1 (Nat.zero_le _) GM (by simp; omega) (by simp))
  have C1 := Lib.hid c1
  have g1 : (0 : Int) ≤ (G : Int) := by omega
  have g2 : ¬ G = 0 := by omega
  clear HRZ0 hrow hG hi0 hz0 hz1 hz2 hw1 c1 q1
  go_enter Tryz.func221, Tryz.ntmps221
  go_wp2_with (at_builtin; refine wpList_append_run _ rfl (.tmp 20) (.tmp 21) 22 3 rfl _ _ rfl rfl _ _ (HRZ _) ?_)
  go_ret
  exact ⟨_, G, rfl, OWN.out, fun a ha => by cases ha; exact Nat.le_refl _, C1.out⟩
abbrev PartE := Option Addr × Nat × List EvT
def partV (p : PartE) : Value := .slice p.1 p.2.2.length p.2.1
def sizeParts (ps : List PartE) : Nat := (ps.map (fun p => p.2.2.length)).sum
theorem sizeP_snoc {ps : List PartE} {k : Nat} {p : PartE} (h : ps[k]? = some p) : sizeParts (ps.take (k + 1)) = sizeParts (ps.take k) + p.2.2.length := by
 unfold sizeParts
 rw [List.take_add_one, h]
 simp
theorem sizeP_le (ps : List PartE) (k : Nat) : sizeParts (ps.take k) ≤ sizeParts ps := by
 have h : sizeParts ps = sizeParts (ps.take k) + sizeParts (ps.drop k) := by
  unfold sizeParts
  rw [← List.sum_append, ← List.map_append, List.take_append_drop]
 omega
def flatParts (ps : List PartE) : List EvT := ps.flatMap (fun p => p.2.2)
theorem flatP_snoc {ps : List PartE} {k : Nat} {p : PartE} (h : ps[k]? = some p) : flatParts (ps.take (k + 1)) = flatParts (ps.take k) ++ p.2.2 := by
 unfold flatParts
 rw [List.take_add_one, h]
 simp
theorem flatP_len (ps : List PartE) : (flatParts ps).length = sizeParts ps := by
 unfold flatParts sizeParts
 rw [List.length_flatMap]
set_option maxRecDepth 100000 in
set_option maxHeartbeats 4000000 in
theorem evconcat_any (w : World) (g c : Nat) (ps : List PartE) (hg : w.heap[g]? = some (.cells (ps.map partV).toArray 22 (0, 0))) (hr : ∀ p ∈ ps, RdK evTy w p.1 p.2.2.length p.2.2) (hn : sizeParts ps ≤ 100000) (hm : ps.length ≤ 1000) :
  Calls Tryz.prog 171 #[.slice (some ⟨g, 0, none⟩) ps.length c] w fun r w' => ∃ (A' : Option Addr) (c' : Nat), r = .returned (.slice A' (sizeParts ps) c') ∧ OwnK evTy w' A' c' (flatParts ps) ∧ (∀ a, A' = some a → w.heap.size ≤ a.block) ∧ Chg [] w w' := by
 have HG : Hid (∀ w', Chg [] w w' → ∀ k p, ps[k]? = some p → w'.cell? ⟨g, k, none⟩ = some (.slice p.1 p.2.2.length p.2.1)) := Lib.hid (fun w' hc k p hp => by
  rw [cell_of (hc.at_ hg (by simp)) k]
  simp [hp, partV])
 have HR := Lib.hid hr
 have HN := Lib.hid hn
 have HM := Lib.hid hm
 have SZ : Hid (∀ k, sizeParts (ps.take k) ≤ 100000) := Lib.hid (fun k => Nat.le_trans (sizeP_le ps k) hn)
 clear hg hr hn hm
 go_enter Tryz.func171, Tryz.ntmps171
 go_wp2
 go_loopw [3, 11] (fun v3 v11 wr => ∃ (k s : Nat), k ≤ ps.length ∧ v11 = .int .i64 (k : Int) ∧ v3 = .int .i64 (s : Int) ∧ Hid (s = sizeParts (ps.take k)) ∧ Hid (Chg [] w wr)) (fun _ v11 _ => ps.length - (RowKit.intOf v11).toNat)
 case atStart => exact ⟨0, 0, Nat.zero_le _, rfl, rfl, Lib.hid rfl, Chg.refl _ _⟩
 case round =>
  obtain ⟨k, s, hk, rfl, rfl, HS, PC⟩ := hrel
  have j0 : (0 : Int) ≤ (k : Int) := by omega
  by_cases hlt : k < ps.length
  ·
   have j1 : (k : Int) < (ps.length : Int) := by omega
   have j3 : IntKind.i64.wrap ((k : Int) + 1) = (k : Int) + 1 := IntWalk.i64_in _ (by have := HM.out; omega)
   obtain ⟨p, hp⟩ : ∃ p, ps[k]? = some p := ⟨_, List.getElem?_eq_getElem hlt⟩
   have HS1 : Hid (s + p.2.2.length = sizeParts (ps.take (k + 1))) := Lib.hid (by rw [sizeP_snoc hp, HS.out])
   have hb : s + p.2.2.length ≤ 100000 := by rw [HS1.out]; exact SZ.out _
   have j4 : IntKind.i64.wrap ((s : Int) + (p.2.2.length : Int)) = ((s + p.2.2.length : Nat) : Int) := by rw [IntWalk.i64_in _ (by omega)]; omega
   have j5 : ¬ (((s + p.2.2.length : Nat) : Int) < 0) := by omega
   have j6 : ¬ ((s : Int) + (p.2.2.length : Int) < 0) := by omega
   have z := HG.out _ PC.out k p hp
   clear hp HS hb; go_wp2; go_round
   case rel => exact ⟨k + 1, s + p.2.2.length, by omega, by go_num, by go_num, HS1, PC⟩
   case measure => simp [RowKit.intOf]; omega
  ·
   obtain rfl : k = ps.length := by omega
   have j1 : ¬ (ps.length : Int) < (ps.length : Int) := by omega
   have HS1 : Hid (s = sizeParts ps) := Lib.hid (by rw [HS.out, List.take_length])
   generalize wr = wa at *
   have GR := Lib.hid (evgrow_any wa s (by rw [HS1.out]; exact HN.out))
   clear HS; go_wp2_with fail
   refine GR.out.mono ?_
   rintro r w1 ⟨A1, c1, rfl, ho, hA, hc⟩
   have O1 := Lib.hid ho
   have NA : Hid (∀ a, A1 = some a → w.heap.size ≤ a.block) := Lib.hid (fun a ha => Nat.le_trans PC.out.size (hA a ha))
   have C1 := Lib.hid (PC.out.trans hc)
   clear ho hA hc GR; go_wp2
   go_loopw [6, 27] (fun v6 v27 wq => ∃ (k n : Nat) (A2 : Option Addr) (c2 : Nat), k ≤ ps.length ∧ v27 = .int .i64 (k : Int) ∧ v6 = .slice A2 n c2 ∧ Hid ((flatParts (ps.take k)).length = n) ∧ Hid (OwnK evTy wq A2 c2 (flatParts (ps.take k))) ∧ Hid (∀ a, A2 = some a → w.heap.size ≤ a.block) ∧ Hid (Chg [] w wq)) (fun _ v27 _ => ps.length - (RowKit.intOf v27).toNat)
   case atStart => exact ⟨0, 0, A1, c1, Nat.zero_le _, rfl, rfl, Lib.hid rfl, O1, NA, C1⟩
   case round =>
    obtain ⟨k, n, A2, c2, hk, rfl, rfl, HL, O2, NA2, C2⟩ := hrel
    have j0 : (0 : Int) ≤ (k : Int) := by omega
    by_cases hlt : k < ps.length
    ·
     have j1 : (k : Int) < (ps.length : Int) := by omega
     have j3 : IntKind.i64.wrap ((k : Int) + 1) = (k : Int) + 1 := IntWalk.i64_in _ (by have := HM.out; omega)
     obtain ⟨p, hp⟩ : ∃ p, ps[k]? = some p := ⟨_, List.getElem?_eq_getElem hlt⟩
     have z := HG.out _ C2.out k p hp
     have RP := Lib.hid ((HR.out p (List.mem_of_getElem? hp)).chg C2.out (by simp))
     have LN : Hid ((n + p.2.2.length) * 400 ≤ 140737488355327) := Lib.hid (by
      have a := SZ.out (k + 1)
      rw [sizeP_snoc hp, ← flatP_len, HL.out] at a
      omega)
     have HL1 : Hid ((flatParts (ps.take (k + 1))).length = n + p.2.2.length) := Lib.hid (by rw [flatP_snoc hp, List.length_append, HL.out])
     have FS := Lib.hid (flatP_snoc hp)
     clear hp
     go_wp2_with (at_builtin; refine wpList_appK (R := evTy) rfl (.tmp 31) (.tmp 32) rfl rfl O2.out HL.out rfl RP.out LN.out ?_; intro A3 c3 w3 o3 g3 e3)
     have O3 : Hid (OwnK evTy w3 A3 c3 (flatParts (ps.take (k + 1)))) := Lib.hid (by rw [FS.out]; exact o3)
     have C3 := Lib.hid (C2.out.grown g3 (fun i hi => by
      rcases A2 with _ | a
      ·
       simp at hi
      ·
       simp at hi; subst hi; exact .inr (NA2.out _ rfl)))
     have NA3 : Hid (∀ a, A3 = some a → w.heap.size ≤ a.block) := Lib.hid (fun a ha => by
      rcases e3 with e | e
      ·
       exact NA2.out a (by rw [← e]; exact ha)
      ·
       rw [e] at ha; cases ha; exact C2.out.size)
     clear o3 g3 e3; go_wp2; go_round
     case rel => exact ⟨k + 1, n + p.2.2.length, A3, c3, by omega, by go_num, by first | rfl | go_num, HL1, O3, NA3, C3⟩
     case measure => simp [RowKit.intOf]; omega
    ·
     obtain rfl : k = ps.length := by omega
     have j1 : ¬ (ps.length : Int) < (ps.length : Int) := by omega
     have e1 : ps.take ps.length = ps := List.take_length
     rw [e1] at HL O2
     have HF : Hid (n = sizeParts ps) := Lib.hid (by rw [← HL.out, flatP_len])
     clear e1
     rw [HF.out]
     go_wp2; go_ret
     exact ⟨A2, c2, rfl, O2.out, NA2.out, C2.out⟩
end
section
open Go.RowKit Go.Lib


def cmpL (a b : List UInt8) : Int := if lessL a b = true then -1 else if lessL b a = true then 1 else 0
theorem cmpL_neg {a b : List UInt8} : cmpL a b < 0 ↔ lessL a b = true := by
 unfold cmpL
 split
 ·
  rename_i h; exact ⟨fun _ => h, fun _ => by decide⟩
 ·
  rename_i h; split <;> exact ⟨fun q => absurd q (by decide), fun q => absurd q h⟩
set_option maxRecDepth 100000 in
set_option maxHeartbeats 2000000 in
theorem orderofs_any (w : World) (a b : List UInt8) (ha : a.length ≤ 10000000) (hb : b.length ≤ 10000000) :
  Calls Tryz.prog 167 #[.string (strOf a), .string (strOf b), .func (.func 55) #[] #[]] w fun e w' => e = .returned (.int .i64 (cmpL a b)) ∧ Chg [] w w' := by
 have L1 := Lib.hid (fun w => phless_any w a b ha hb)
 have L2 := Lib.hid (fun w => phless_any w b a hb ha)
 unfold cmpL
 generalize lessL a b = u at *
 generalize lessL b a = v at *
 clear ha hb
 go_enter Tryz.func167, Tryz.ntmps167
 go_wp2_with fail
 refine (L1.out _).mono ?_
 rintro e w1 ⟨rfl, hc⟩
 have C1 := Lib.hid hc
 clear hc
 cases u
 ·
  go_wp2_with fail
  refine (L2.out _).mono ?_
  rintro e w2 ⟨rfl, hc⟩
  have C2 := Lib.hid (C1.out.trans hc)
  clear hc
  cases v
  ·
   go_wp2; go_ret
   exact ⟨rfl, C2.out⟩
  ·
   go_wp2; go_ret
   exact ⟨rfl, C2.out⟩
 ·
  go_wp2; go_ret
  exact ⟨rfl, C1.out⟩
set_option maxRecDepth 100000 in
set_option maxHeartbeats 2000000 in
theorem stplace1_any (w : World) (x : EvT) (a b : List UInt8) (hx : x.p = strOf a) (ha : a.length ≤ 10000000) (hb : b.length ≤ 10000000) :
  Calls Tryz.prog 166 #[.agg #[.int .i64 x.n, .int .i64 x.s, .string x.p, .int .i64 x.k, .int .i64 x.m, .slice x.A x.l x.c, .slice x.B x.bl x.bc], .string (strOf b)] w fun e w' => e = .returned (.int .i64 (cmpL a b)) ∧ Chg [] w w' := by
 obtain ⟨w1, hw1, c1, b1⟩ := news1 w (.cells #[.int .i64 x.n, .int .i64 x.s, .string x.p, .int .i64 x.k, .int .i64 x.m, .slice x.A x.l x.c, .slice x.B x.bl x.bc] 30)
 have W1 := Lib.hid hw1
 have C1 := Lib.hid c1
 have CC := Lib.hid (orderofs_any w1 a b ha hb)
 have z2 := cell_of b1 2
 simp only [List.getElem?_toArray, List.getElem?_cons_succ, List.getElem?_cons_zero] at z2
 rw [hx] at z2
 clear hw1 c1 b1 hx ha hb
 go_enter Tryz.func166, Tryz.ntmps166
 go_upto_region 1 with fail
 rw [← W1.out]
 generalize w.heap.size = g1 at *
 clear W1; go_wp2_with fail; clear z2
 refine CC.out.mono ?_
 rintro r w2 ⟨rfl, hc⟩
 replace C1 := Lib.hid (C1.out.trans hc)
 clear hc CC; go_wp2; go_ret
 exact ⟨rfl, C1.out⟩
def TupB (r : Ending) (i : Nat) : Prop := ∃ v : Bool, r = .returned (.tuple #[.int .i64 (i : Int), .bool v])
theorem TupB.mk {r : Ending} {i : Nat} (v : Bool) (h : r = .returned (.tuple #[.int .i64 (i : Int), .bool v])) : TupB r i := ⟨v, h⟩
set_option maxRecDepth 100000 in
set_option maxHeartbeats 8000000 in
theorem binp_any (w : World) (A : Option Addr) (c : Nat) (xs : List EvT) (es : List EvP) (q : List UInt8) (h : RdK evTy w A xs.length xs) (hx : EvsR w xs es) (hn : es.Pairwise leP) (hl : xs.length ≤ 100000) (hq : q.length ≤ 10000000) (he : ∀ e ∈ es, e.p.length ≤ 10000000) :
  Calls Tryz.prog 165 #[.slice A xs.length c, .string (strOf q), .func (.func 166) #[] #[]] w fun r w' => ∃ i : Nat, i ≤ xs.length ∧ LoP es q i ∧ HiP es q i ∧ TupB r i ∧ Chg [] w w' := by
 have HA := Lib.hid h
 have HX := Lib.hid hx
 have HNM := Lib.hid hn
 have HL := Lib.hid hl
 have HCMP : Hid (∀ (w' : World) (k : Nat) (x : EvT) (e : EvP), xs[k]? = some x → es[k]? = some e → Calls Tryz.prog 166 #[.agg #[.int .i64 x.n, .int .i64 x.s, .string x.p, .int .i64 x.k, .int .i64 x.m, .slice x.A x.l x.c, .slice x.B x.bl x.bc], .string (strOf q)] w' fun r w2 => r = .returned (.int .i64 (cmpL e.p q)) ∧ Chg [] w' w2) := Lib.hid (fun w' k x e h1 h2 => stplace1_any w' x e.p q (hx.2 k x e h1 h2).p (he e (List.mem_of_getElem? h2)) hq)
 clear h hx hn hl hq he
 go_enter Tryz.func165, Tryz.ntmps165
 go_wp2
 go_loopw [9, 10] (fun v9 v10 wr => ∃ (i j : Nat), i ≤ j ∧ j ≤ xs.length ∧ v9 = .int .i64 (i : Int) ∧ v10 = .int .i64 (j : Int) ∧ Hid (LoP es q i ∧ HiP es q j) ∧ Hid (Chg [] w wr)) (fun v9 v10 _ => (RowKit.intOf v10).toNat - (RowKit.intOf v9).toNat)
 case atStart => exact ⟨0, xs.length, Nat.zero_le _, Nat.le_refl _, rfl, rfl, Lib.hid ⟨fun p x _ h => absurd h (by omega), fun p x hx h => absurd ((List.getElem?_eq_some_iff.1 hx).1) (by have := HX.out.1; omega)⟩, Chg.refl _ _⟩
 case round =>
  obtain ⟨i, j, hij, hj, rfl, rfl, HI, HC⟩ := hrel
  have i0 : (0 : Int) ≤ (i : Int) := by omega
  have hl := HL.out
  have i1 : IntKind.i64.wrap ((i : Int) + (j : Int)) = ((i + j : Nat) : Int) := by rw [IntWalk.i64_in _ (by omega)]; omega
  by_cases hlt : i < j
  ·
   have i2 : (i : Int) < (j : Int) := by omega
   go_upto_region 5 with fail
   obtain ⟨k, hk⟩ : ∃ k : Nat, k = (i + j) / 2 := ⟨_, rfl⟩
   have e1 : ((i : Int) + (j : Int)) / 2 = (k : Int) := by omega
   rw [e1]
   have hk1 : i ≤ k ∧ k < j := by omega
   clear hk e1 i1 i2
   obtain ⟨x, e, ex, ee, _⟩ := HX.out.at_ (show k < xs.length by omega)
   obtain ⟨g, o, eA, _⟩ := HA.out.line (by omega)
   subst eA
   obtain ⟨z0, z1, z2, z3, z4, z5, z6⟩ := evCells (HA.out.chg HC.out (by simp)) ex
   have k0 : (0 : Int) ≤ (k : Int) := by omega
   have k1 : (k : Int) < (xs.length : Int) := by omega
   have EE := Lib.hid ee
   have CL := Lib.hid (HCMP.out wr k x e ex ee)
   clear ex ee; go_wp2_with fail; clear z0 z1 z2 z3 z4 z5 z6
   refine CL.out.mono ?_
   rintro r w2 ⟨rfl, hc⟩
   have CE := Lib.hid (HC.out.trans hc)
   clear hc CL
   by_cases hneg : cmpL e.p q < 0
   ·
    have LO := Lib.hid (loP_next HNM.out EE.out (cmpL_neg.1 hneg))
    have dn1 : decide (cmpL e.p q < 0) = true := decide_eq_true hneg
    have w1' : IntKind.i64.wrap ((k : Int) + 1) = (k : Int) + 1 := IntWalk.i64_in _ (by omega)
    go_wp2; go_round
    case rel => exact ⟨k + 1, j, by omega, hj, by go_num, rfl, Lib.hid ⟨LO.out, HI.out.2⟩, CE⟩
    case measure => simp [RowKit.intOf]; omega
   ·
    have HIN := Lib.hid (hiP_next HNM.out EE.out (by
     rcases t : lessL e.p q with _ | _
     ·
      rfl
     ·
      exact absurd (cmpL_neg.2 t) hneg))
    have dn1 : decide (cmpL e.p q < 0) = false := decide_eq_false hneg
    go_wp2; go_round
    case rel => exact ⟨i, k, by omega, by omega, rfl, rfl, Lib.hid ⟨HI.out.1, HIN.out⟩, CE⟩
    case measure => simp [RowKit.intOf]; omega
  ·
   obtain rfl : i = j := by omega
   have i2 : ¬ (i : Int) < (i : Int) := by omega
   by_cases hin : i < xs.length
   ·
    have k1 : (i : Int) < (xs.length : Int) := by omega
    obtain ⟨x, e, ex, ee, _⟩ := HX.out.at_ hin
    obtain ⟨g, o, eA, _⟩ := HA.out.line (by omega)
    subst eA
    obtain ⟨z0, z1, z2, z3, z4, z5, z6⟩ := evCells (HA.out.chg HC.out (by simp)) ex
    have CL := Lib.hid (HCMP.out wr i x e ex ee)
    clear ex ee; go_wp2_with fail; clear z0 z1 z2 z3 z4 z5 z6
    refine CL.out.mono ?_
    rintro r w2 ⟨rfl, hc⟩
    have CE := Lib.hid (HC.out.trans hc)
    clear hc CL; go_wp2; go_ret2
    exact ⟨i, by omega, HI.out.1, HI.out.2, TupB.mk _ rfl, CE.out⟩
   ·
    have k1 : ¬ (i : Int) < (xs.length : Int) := by omega
    have k2 : decide ((i : Int) < (xs.length : Int)) = false := by simp; omega
    go_wp2; go_ret2
    exact ⟨i, by omega, HI.out.1, HI.out.2, TupB.mk _ rfl, HC.out⟩
set_option maxRecDepth 100000 in
set_option maxHeartbeats 8000000 in
theorem stplace_any (w : World) (A : Option Addr) (c : Nat) (xs : List EvT) (es : List EvP) (q : List UInt8) (h : RdK evTy w A xs.length xs) (hx : EvsR w xs es) (hn : es.Pairwise leP) (hl : xs.length ≤ 100000) (hq : q.length ≤ 10000000) (he : ∀ e ∈ es, e.p.length ≤ 10000000) :
  Calls Tryz.prog 103 #[.slice A xs.length c, .string (strOf q)] w fun r w' => ∃ i j : Nat, r = .returned (.tuple #[.int .i64 (i : Int), .int .i64 (j : Int)]) ∧ (i ≤ j ∧ j ≤ xs.length) ∧ (es.take i = es.filter (fun x => lessL x.p q) ∧ segL es i j = atS es q ∧ es.drop j = es.filter (fun x => lessL q x.p)) ∧ Chg [] w w' := by
 have BIN := Lib.hid (binp_any w A c xs es q h hx hn hl hq he)
 have HA := Lib.hid h
 have HX := Lib.hid hx
 have HNM := Lib.hid hn
 have HL := Lib.hid hl
 clear h hx hn hl hq he
 go_enter Tryz.func103, Tryz.ntmps103
 go_wp2_with fail
 refine BIN.out.mono ?_
 rintro r w1 ⟨i, hi, lo, hi2, ⟨v, rfl⟩, hc⟩
 have C1 := Lib.hid hc
 have LO := Lib.hid (And.intro lo hi2)
 have HI := Lib.hid hi
 clear hi lo hi2 hc BIN; go_wp2
 go_loopw [8] (fun v8 wr => ∃ (j : Nat), i ≤ j ∧ j ≤ xs.length ∧ v8 = .int .i64 (j : Int) ∧ Hid (∀ p x, es[p]? = some x → i ≤ p → p < j → x.p = q) ∧ Hid (Chg [] w wr)) (fun v8 _ => xs.length - (RowKit.intOf v8).toNat)
 case atStart => exact ⟨i, Nat.le_refl _, HI.out, rfl, Lib.hid (fun p x _ a b => absurd b (by omega)), C1⟩
 case round =>
  obtain ⟨j, hij, hj, rfl, MID, HC⟩ := hrel
  have j0 : (0 : Int) ≤ (j : Int) := by omega
  have FIN : Hid ((∀ x, es[j]? = some x → x.p ≠ q) → es.take i = es.filter (fun x => lessL x.p q) ∧ segL es i j = atS es q ∧ es.drop j = es.filter (fun x => lessL q x.p)) := Lib.hid (fun st => place_parts HNM.out hij (by have := HX.out.1; omega) LO.out.1 LO.out.2 MID.out st)
  by_cases hlt : j < xs.length
  ·
   have j1 : (j : Int) < (xs.length : Int) := by omega
   have j3 : IntKind.i64.wrap ((j : Int) + 1) = (j : Int) + 1 := IntWalk.i64_in _ (by have := HL.out; omega)
   obtain ⟨x, e, ex, ee, rx⟩ := HX.out.at_ hlt
   obtain ⟨g, o, eA, _⟩ := HA.out.line (by omega)
   subst eA
   obtain ⟨z0, z1, z2, z3, z4, z5, z6⟩ := evCells (HA.out.chg HC.out (by simp)) ex
   rw [rx.p] at z2
   have EE := Lib.hid ee
   clear ex ee rx
   by_cases hp : e.p = q
   ·
    have MID1 : Hid (∀ p x, es[p]? = some x → i ≤ p → p < j + 1 → x.p = q) := Lib.hid (fun p x hx a b => by
     by_cases t : p = j
     ·
      subst t; rw [EE.out] at hx; cases hx; exact hp
     ·
      exact MID.out p x hx a (by omega))
    clear MID FIN; go_wp2; go_round
    case rel => exact ⟨j + 1, by omega, by omega, by go_num, MID1, HC⟩
    case measure => simp [RowKit.intOf]; omega
   ·
    have e6 : (e.p == q) = false := beq_eq_false_iff_ne.2 hp
    have F := Lib.hid (FIN.out (fun y hy => by rw [EE.out] at hy; cases hy; exact hp))
    have LE := Lib.hid (And.intro hij hj)
    clear FIN; go_wp2; go_ret2
    exact ⟨i, j, rfl, LE.out, F.out, HC.out⟩
  ·
   have j1 : ¬ (j : Int) < (xs.length : Int) := by omega
   have j2 : decide ((j : Int) < (xs.length : Int)) = false := by simp; omega
   have F := Lib.hid (FIN.out (fun y hy => absurd (List.getElem?_eq_some_iff.1 hy).1 (by have := HX.out.1; omega)))
   have LE := Lib.hid (And.intro hij hj)
   clear FIN; go_wp2; go_ret2
   exact ⟨i, j, rfl, LE.out, F.out, HC.out⟩
end
section
open Go.RowKit Go.Lib


def elseQ (f e : EvP) : Bool := decide (e.n = f.n ∧ e.s = f.s) && !decide (e.p = f.p)
theorem elseE_is (s : List EvP) (f : EvP) : elseE s f = s.any (elseQ f) := rfl
set_option maxRecDepth 100000 in
set_option maxHeartbeats 4000000 in
theorem stput1_any (w : World) (gp : Nat) (x y : EvT) (e f : EvP) (hp : w.heap[gp]? = some (.cells #[.int .i64 y.n, .int .i64 y.s, .string y.p, .int .i64 y.k, .int .i64 y.m, .slice y.A y.l y.c, .slice y.B y.bl y.bc] 30 (0, 0))) (hx : EvR w x e) (hy : EvR w y f) :
  Calls Tryz.prog 102 #[.agg #[.int .i64 x.n, .int .i64 x.s, .string x.p, .int .i64 x.k, .int .i64 x.m, .slice x.A x.l x.c, .slice x.B x.bl x.bc], .pointer (some ⟨gp, 0, none⟩)] w fun r w' => r = .returned (.bool (elseQ f e)) ∧ Chg [] w w' := by
 obtain ⟨w1, hw1, c1, b1⟩ := news1 w (.cells #[.int .i64 x.n, .int .i64 x.s, .string x.p, .int .i64 x.k, .int .i64 x.m, .slice x.A x.l x.c, .slice x.B x.bl x.bc] 30)
 have W1 := Lib.hid hw1
 have C1 := Lib.hid c1
 have p0 := c1.at_ hp (by simp)
 have y0 := cell_of p0 0
 have y1 := cell_of p0 1
 have y2 := cell_of p0 2
 have z0 := cell_of b1 0
 have z1 := cell_of b1 1
 have z2 := cell_of b1 2
 simp only [List.getElem?_toArray, List.getElem?_cons_succ, List.getElem?_cons_zero] at y0 y1 y2 z0 z1 z2
 rw [hx.n] at z0
 rw [hx.s] at z1
 rw [hx.p] at z2
 rw [hy.n] at y0
 rw [hy.s] at y1
 rw [hy.p] at y2
 have NE : Hid (gp ≠ w.heap.size) := Lib.hid (fun q => by have := lt_of_heap hp; omega)
 obtain ⟨en, hen⟩ : ∃ n, e.n = n := ⟨_, rfl⟩
 obtain ⟨es, hes⟩ : ∃ n, e.s = n := ⟨_, rfl⟩
 obtain ⟨fn, hfn⟩ : ∃ n, f.n = n := ⟨_, rfl⟩
 obtain ⟨fs, hfs⟩ : ∃ n, f.s = n := ⟨_, rfl⟩
 obtain ⟨ep, hep⟩ : ∃ n, e.p = n := ⟨_, rfl⟩
 obtain ⟨fp, hfp⟩ : ∃ n, f.p = n := ⟨_, rfl⟩
 have HV : Hid (elseQ f e = (decide (en = fn ∧ es = fs) && !decide (ep = fp))) := Lib.hid (by unfold elseQ; rw [hen, hes, hfn, hfs, hep, hfp])
 rw [hen] at z0
 rw [hes] at z1
 rw [hep] at z2
 rw [hfn] at y0
 rw [hfs] at y1
 rw [hfp] at y2
 rw [HV.out]
 clear hw1 c1 b1 hp hx hy p0 hen hes hfn hfs hep hfp HV
 go_enter Tryz.func102, Tryz.ntmps102
 go_upto_region 1 with fail
 rw [← W1.out]
 generalize w.heap.size = g1 at *
 clear W1 NE
 by_cases h1 : en = fn
 ·
  subst h1
  by_cases h2 : es = fs
  ·
   subst h2
   by_cases h3 : ep = fp
   ·
    subst h3; go_wp2; go_ret
    exact ⟨by first | rfl | simp, C1.out⟩
   ·
    have h4 : (ep == fp) = false := beq_eq_false_iff_ne.2 h3
    have h5 : (ep != fp) = true := by simp [h3]
    go_wp2; go_ret
    exact ⟨by first | rfl | simp [h3], C1.out⟩
  ·
   have h4 : (es == fs) = false := beq_eq_false_iff_ne.2 h2
   go_wp2; go_ret
   exact ⟨by first | rfl | simp [h2], C1.out⟩
 ·
  have h4 : (en == fn) = false := beq_eq_false_iff_ne.2 h1
  go_wp2; go_ret
  exact ⟨by first | rfl | simp [h1], C1.out⟩
set_option maxRecDepth 100000 in
set_option maxHeartbeats 4000000 in
theorem strebuilt_any (w : World) (g c : Nat) (ps : List PartE) (hg : w.heap[g]? = some (.cells (ps.map partV).toArray 22 (0, 0))) (hr : ∀ p ∈ ps, RdK evTy w p.1 p.2.2.length p.2.2) (hn : sizeParts ps ≤ 100000) (hm : ps.length ≤ 1000) :
  Calls Tryz.prog 105 #[.slice (some ⟨g, 0, none⟩) ps.length c] w fun r w' => ∃ (A' : Option Addr) (c' : Nat), r = .returned (.slice A' (sizeParts ps) c') ∧ OwnK evTy w' A' c' (flatParts ps) ∧ (∀ a, A' = some a → w.heap.size ≤ a.block) ∧ Chg [] w w' := by
 have CC := Lib.hid (evconcat_any w g c ps hg hr hn hm)
 clear hg hr hn hm
 go_enter Tryz.func105, Tryz.ntmps105
 go_wp2_with fail
 refine CC.out.mono ?_
 rintro r w1 ⟨A1, c1, rfl, ho, hA, hc⟩
 have P := Lib.hid (And.intro ho (And.intro hA hc))
 clear ho hA hc CC; go_wp2; go_ret
 exact ⟨A1, c1, rfl, P.out.1, P.out.2.1, P.out.2.2⟩
end
section
open Go.RowKit Go.Lib


def subA (A : Option Addr) (c i : Nat) : Option Addr := if c = i then A else A.map (fun x => x.add (i * 7))
theorem seg_eq {α : Type} (l : List α) (i j : Nat) : segL l i j = (l.drop i).take (j - i) := by unfold segL; rw [List.drop_take]
theorem RdK.sub {w : World} {A : Option Addr} {c : Nat} {xs : List EvT} (h : RdK evTy w A xs.length xs) (hc : xs.length ≤ c) {i j : Nat} (ij : i ≤ j) (hj : j ≤ xs.length) : RdK evTy w (subA A c i) (j - i) (segL xs i j) := by
 rw [seg_eq]
 by_cases q : i < j
 ·
  obtain ⟨g, o, eA, _⟩ := h.line (by omega)
  subst eA
  have r := h.part i (j - i) (by omega)
  unfold subA
  rw [if_neg (by omega)]
  have k7 : evTy.k = 7 := rfl
  rw [k7] at r
  by_cases z : i = 0
  ·
   subst z
   simpa [Addr.add] using r
  ·
   have z7 : ¬ i * 7 = 0 := by omega
   simpa only [Option.map_some, Addr.add, z7, if_false] using r
 ·
  rw [show j - i = 0 by omega, List.take_zero]
  exact RdK.nil _ _
theorem EvsR.seg {w : World} {xs : List EvT} {es : List EvP} (h : EvsR w xs es) (i j : Nat) : EvsR w (segL xs i j) (segL es i j) := by
 refine ⟨by unfold segL; rw [List.length_drop, List.length_drop, List.length_take, List.length_take, h.1], fun k x e hx he => ?_⟩
 by_cases q : i + k < j
 ·
  rw [seg_get _ q] at hx he
  exact h.2 _ x e hx he
 ·
  rw [seg_get_no _ q] at hx
  cases hx
theorem EvsR.app {w : World} {xs ys : List EvT} {es fs : List EvP} (h : EvsR w xs es) (k : EvsR w ys fs) : EvsR w (xs ++ ys) (es ++ fs) := by
 refine ⟨by rw [List.length_append, List.length_append, h.1, k.1], fun i x e hx he => ?_⟩
 by_cases q : i < xs.length
 ·
  rw [List.getElem?_append_left q] at hx
  rw [List.getElem?_append_left (by rw [← h.1]; exact q)] at he
  exact h.2 _ x e hx he
 ·
  rw [List.getElem?_append_right (by omega)] at hx
  rw [List.getElem?_append_right (by rw [← h.1]; omega), ← h.1] at he
  exact k.2 _ x e hx he
theorem elseE_len (s : List EvP) (f : EvP) : (putS s f).length ≤ s.length + 1 := by
 unfold putS
 rw [List.length_append, List.length_append]
 have a : (putE (atS s f.p) f).length ≤ (atS s f.p).length + 1 := by
  have := puts_len [f] (atS s f.p)
  simpa using this
 have key : ∀ l : List EvP, (l.filter (fun x => lessL x.p f.p)).length + ((atS l f.p).length + (l.filter (fun x => lessL f.p x.p)).length) ≤ l.length := by
  intro l
  induction l with
  | nil => simp [atS]
  | cons x l ih =>
   unfold atS at ih ⊢
   simp only [List.filter_cons, List.length_cons]
   rcases less_tri x.p f.p with q | q | q
   ·
    have b1 : lessL f.p f.p = false := less_self _
    simp only [b1, q, decide_true, if_true, List.length_cons, Bool.false_eq_true, if_false]
    omega
   ·
    have b2 : lessL f.p x.p = false := less_not _ _ q
    have b3 : ¬ x.p = f.p := less_ne q
    simp only [q, b2, b3, decide_false, if_true, List.length_cons, Bool.false_eq_true, if_false]
    omega
   ·
    have b2 : lessL x.p f.p = false := less_not _ _ q
    have b3 : ¬ x.p = f.p := fun e => less_ne q e.symm
    simp only [q, b2, b3, decide_false, if_true, List.length_cons, Bool.false_eq_true, if_false]
    omega
 have := key s
 omega

set_option maxRecDepth 100000 in
set_option maxHeartbeats 16000000 in
theorem stputf_any (w : World) (A : Option Addr) (c : Nat) (xs : List EvT) (es : List EvP) (y : EvT) (f : EvP) (h : RdK evTy w A xs.length xs) (hc : xs.length ≤ c ∧ c ≤ maxLen) (hx : EvsR w xs es) (hn : xs.length ≤ 1000) (hs : ∀ e ∈ es, EvSm e ∧ e.q.length ≤ 100000) (hy : EvR w y f) (ht : EvSm f ∧ f.q.length ≤ 100000) (hl : es.Pairwise leP) (hok : ShOk (atS es f.p)) (hf : chkEv f = 0) :
  Calls Tryz.prog 47 #[.slice A xs.length c, .agg #[.int .i64 y.n, .int .i64 y.s, .string y.p, .int .i64 y.k, .int .i64 y.m, .slice y.A y.l y.c, .slice y.B y.bl y.bc]] w fun r w' => ∃ (A' : Option Addr) (c' : Nat) (zs : List EvT), r = .returned (.tuple #[.slice A' zs.length c', .int .i64 (if elseE es f = true then 7 else 0)]) ∧ (zs.length ≤ c' ∧ c' ≤ maxLen) ∧ RdK evTy w' A' zs.length zs ∧ EvsR w' zs (if elseE es f = true then [] else putS es f) ∧ Chg [] w w' := by

 obtain ⟨co, hco⟩ : ∃ co : Int, (if elseE es f = true then (7 : Int) else 0) = co := ⟨_, rfl⟩
 obtain ⟨ol, hol⟩ : ∃ ol : List EvP, (if elseE es f = true then [] else putS es f) = ol := ⟨_, rfl⟩
 rw [hco, hol]
 have CO := Lib.hid hco
 have OL := Lib.hid hol
 clear hco hol
 obtain ⟨w1, hw1, c1, b1⟩ := news1 w (.cells #[.int .i64 y.n, .int .i64 y.s, .string y.p, .int .i64 y.k, .int .i64 y.m, .slice y.A y.l y.c, .slice y.B y.bl y.bc] 30)
 have W1 := Lib.hid hw1
 have C1 := Lib.hid c1
 have B1 := Lib.hid b1
 have HA := Lib.hid (h.chg c1 (by simp))
 have HX := Lib.hid (hx.chg c1)
 have HC := Lib.hid hc
 have HN := Lib.hid hn
 have HS := Lib.hid hs
 have HY := Lib.hid (hy.chg c1)
 have HT := Lib.hid ht
 have HL := Lib.hid hl
 have HOK := Lib.hid hok
 have HF := Lib.hid hf
 have CON := Lib.hid (evfcontains_any w1 A c xs es 102 #[.pointer (some ⟨w.heap.size, 0, none⟩)] (elseQ f) (enters_of Tryz.func102 (by kernel_rfl) rfl) HA.out HX.out (by omega) (fun wr hc i x e ex ee => stput1_any wr w.heap.size x y e f (hc.at_ b1 (by simp)) ((HX.out.2 i x e ex ee).chg hc) (HY.out.chg hc)))
 clear hw1 c1 b1 h hx hc hn hs hy ht hl hok hf
 go_enter Tryz.func47, Tryz.ntmps47
 go_upto_region 1 with fail
 rw [← W1.out]
 obtain ⟨g1, hg1⟩ : ∃ g, w.heap.size = g := ⟨_, rfl⟩
 rw [hg1] at CON B1 ⊢
 clear W1; go_wp2_with fail
 refine CON.out.mono ?_
 rintro r w2 ⟨rfl, hc⟩
 have C2 := Lib.hid hc
 clear hc CON
 rcases hv : es.any (elseQ f) with _ | _
 rotate_left
 ·
  have EV : Hid (elseE es f = true) := Lib.hid hv
  clear hv
  have e1 : co = 7 := by rw [← CO.out, if_pos EV.out]
  have e2 : ol = [] := by rw [← OL.out, if_pos EV.out]
  subst e1 e2
  go_wp2; go_ret2
  exact ⟨none, 0, [], rfl, ⟨Nat.le_refl _, Nat.zero_le _⟩, RdK.nil _ _, EvsR.nil _, C1.out.trans C2.out⟩
 have EV : Hid (elseE es f = false) := Lib.hid hv
 clear hv
 have e1 : co = 0 := by rw [← CO.out, if_neg (by rw [EV.out]; decide)]
 have e2 : ol = putS es f := by rw [← OL.out, if_neg (by rw [EV.out]; decide)]
 subst e1 e2
 clear CO OL
 have b2 := C2.out.at_ B1.out (by simp)
 have y2 := cell_of b2 2
 simp only [List.getElem?_toArray, List.getElem?_cons_succ, List.getElem?_cons_zero] at y2
 rw [HY.out.p] at y2
 clear b2
 have PL := Lib.hid (stplace_any w2 A c xs es f.p (HA.out.chg C2.out (by simp)) (HX.out.chg C2.out) HL.out (by have := HN.out; omega) HT.out.1.1 (fun e he => (HS.out e he).1.1))
 go_wp2_with fail; clear y2
 refine PL.out.mono ?_
 rintro r w3 ⟨i, j, rfl, ⟨hij, hj⟩, hp, hc⟩
 have C3 := Lib.hid (C2.out.trans hc)
 have PP := Lib.hid hp
 clear hp hc PL C2
 have i0 : (0 : Int) ≤ (i : Int) := by omega
 have j0 : (0 : Int) ≤ (j : Int) := by omega
 have ij1 : (i : Int) ≤ (j : Int) := by omega
 have jn1 : (j : Int) ≤ (xs.length : Int) := by omega
 have jc0 : j ≤ c := by have := HC.out; omega
 have ic0 : i ≤ c := by omega
 have jc1 : (j : Int) ≤ (c : Int) := by omega
 have ic1 : (i : Int) ≤ (c : Int) := by omega
 have RS : Hid (∀ w', Chg [] w1 w' → RdK evTy w' (subA A c i) (j - i) (segL xs i j)) := Lib.hid (fun w' hc => (HA.out.chg hc (by simp)).sub HC.out.1 hij hj)
 have RE : Hid (∀ w', Chg [] w1 w' → RdK evTy w' (subA A c j) (xs.length - j) (xs.drop j)) := Lib.hid (fun w' hc => by
  have q := (HA.out.chg hc (by simp)).sub HC.out.1 hj (Nat.le_refl _)
  rwa [seg_end] at q)
 have RB : Hid (∀ w', Chg [] w1 w' → RdK evTy w' A i (xs.take i)) := Lib.hid (fun w' hc => by
  have q := (HA.out.chg hc (by simp)).sub HC.out.1 (Nat.zero_le i) (by omega)
  rw [seg_zero, Nat.sub_zero] at q
  unfold subA at q
  by_cases z : c = 0
  ·
   rwa [if_pos z] at q
  ·
   rw [if_neg z] at q
   rcases A with _ | ⟨bg, bo, bs⟩
   ·
    exact q
   ·
    simpa [Addr.add] using q)
 obtain ⟨AS, hAS⟩ : ∃ AS : Option Addr, (if c = i then A else A.map (fun x => x.add (i * 7))) = AS := ⟨_, rfl⟩
 obtain ⟨AE, hAE⟩ : ∃ AE : Option Addr, (if c = j then A else A.map (fun x => x.add (j * 7))) = AE := ⟨_, rfl⟩
 have SL : Hid (subA A c i = AS) := Lib.hid hAS
 have SE : Hid (subA A c j = AE) := Lib.hid hAE
 rw [SL.out] at RS
 rw [SE.out] at RE
 have SLEN : Hid ((segL xs i j).length = j - i) := Lib.hid (seg_len xs hj)
 have MEM : Hid (∀ e ∈ atS es f.p, e ∈ es) := Lib.hid (fun e he => (mem_atS.1 he).1)
 have SHP : Hid (∀ w', Chg [] w1 w' → Calls Tryz.prog 104 #[.slice AS (j - i) (c - i), .agg #[.int .i64 y.n, .int .i64 y.s, .string y.p, .int .i64 y.k, .int .i64 y.m, .slice y.A y.l y.c, .slice y.B y.bl y.bc]] w' fun r w2 => ∃ (A' : Option Addr) (c' : Nat) (zs : List EvT), r = .returned (.tuple #[.slice A' zs.length c', .int .i64 0]) ∧ EsF w2 w'.heap.size w2.heap.size A' c' zs (putE (atS es f.p) f) ∧ Chg [] w' w2) := Lib.hid (fun w' hc => by
  have q := shput_any w' AS (c - i) (segL xs i j) (segL es i j) y f (by rw [SLEN.out]; exact RS.out w' hc) ((HX.out.chg hc).seg i j) (by rw [SLEN.out]; have := HN.out; omega) (fun e he => HS.out e (by rw [PP.out.2.1] at he; exact MEM.out e he)) (HY.out.chg hc) HT.out
  rw [PP.out.2.1, shPut_yes HOK.out HF.out (fun u hu => (mem_atS.1 (List.mem_of_getElem? hu)).2), SLEN.out] at q
  exact q)
 have HB : Hid (∀ w', Chg [] w1 w' → (w'.cell? ⟨g1, 0, none⟩ = some (.int .i64 y.n) ∧ w'.cell? ⟨g1, 1, none⟩ = some (.int .i64 y.s) ∧ w'.cell? ⟨g1, 2, none⟩ = some (.string y.p) ∧ w'.cell? ⟨g1, 3, none⟩ = some (.int .i64 y.k) ∧ w'.cell? ⟨g1, 4, none⟩ = some (.int .i64 y.m) ∧ w'.cell? ⟨g1, 5, none⟩ = some (.slice y.A y.l y.c) ∧ w'.cell? ⟨g1, 6, none⟩ = some (.slice y.B y.bl y.bc))) := Lib.hid (fun w' hc => by
  have b := hc.at_ B1.out (by simp)
  exact ⟨cell_of b 0, cell_of b 1, cell_of b 2, cell_of b 3, cell_of b 4, cell_of b 5, cell_of b 6⟩)
 have HIJ := Lib.hid (And.intro hij hj)
 go_upto_region 4 with fail
 refine wp_region_held_drew (S := fun w' => Chg [] w1 w') (by kernel_rfl) (C3.out.trans (Chg.refl [] w3).drew) (fun hHeld => ?_)
 refine sy 0 21 rfl rfl ?_; try simp only [Act.put, sA, s0, s1]
 refine sy 1 22 rfl rfl ?_; try simp only [Act.put, sA, s0, s1]
 refine sy 2 23 rfl rfl ?_; try simp only [Act.put, sA, s0, s1]
 refine sy 3 24 rfl rfl ?_; try simp only [Act.put, sA, s0, s1]
 refine sy 4 25 rfl rfl ?_ (hy := by (intro w hSw; (try dsimp only at hSw); have hq := HB.out _ hSw; obtain ⟨q0, q1, q2, q3, q4, q5, q6⟩ := hq; go_simp; try with_reducible rfl))
 try simp only [Act.put, sA, s0, s1]
 refine wpAnyH_ready (rs := [5]) (by kernel_rfl) (by simp) ?_; refine AllReadyH.cons rfl (fun K hK => ?_) AllReadyH.nil; replace hK := Lib.hid hK; go_simp
 refine (SHP.out _ hHeld).mono ?_
 rintro r w5 ⟨A5, c5, zs, rfl, he, hc⟩
 have C5 := Lib.hid (hHeld.trans hc)
 have RZ := Lib.hid he.row.reads
 have EZ := Lib.hid he.all.ev
 clear he hc hHeld
 refine hK.out _ _ C5.out (fun hHeld => ?_)
 clear hK K; try simp only [Act.put, sA, s0, s1]
 refine sy 6 20 rfl rfl ?_; try simp only [Act.put, sA, s0, s1]
 refine sy 7 27 rfl rfl ?_; try simp only [Act.put, sA, s0, s1]
 refine sy 8 28 rfl rfl ?_; try simp only [Act.put, sA, s0, s1]
 refine sy 9 8 rfl rfl ?_; try simp only [Act.put, sA, s0, s1]
 refine sy 10 9 rfl rfl ?_; try simp only [Act.put, sA, s0, s1]
 refine wpAnyH_done (by kernel_rfl) ?_ _; clear hHeld HB SHP; go_wp2
 have ZLN : Hid (zs.length = (putE (atS es f.p) f).length) := Lib.hid EZ.out.1
 have PLEN : Hid (i + (zs.length + (xs.length - j)) = (putS es f).length) := Lib.hid (by
  have a := PP.out
  unfold putS
  rw [List.length_append, List.length_append, ← ZLN.out, ← a.1, ← a.2.2, List.length_take, List.length_drop, ← HX.out.1, Nat.min_eq_left (by have := HIJ.out; omega)])
 have PARTS : Hid (∀ w' g, Chg [] w5 w' → w'.heap[g]? = some (.cells #[.slice A i c, .slice A5 zs.length c5, .slice AE (xs.length - j) (c - j)] 22 (0, 0)) → Calls Tryz.prog 105 #[.slice (some ⟨g, 0, none⟩) 3 3] w' fun r w2 => ∃ (A' : Option Addr) (c' : Nat), r = .returned (.slice A' (putS es f).length c') ∧ OwnK evTy w2 A' c' (xs.take i ++ (zs ++ xs.drop j)) ∧ Chg [] w' w2) := Lib.hid (fun w' g hc hg => by
  have ti : (xs.take i).length = i := by rw [List.length_take]; have := HIJ.out; omega
  have tj : (xs.drop j).length = xs.length - j := List.length_drop
  have q := strebuilt_any w' g 3 [(A, c, xs.take i), (A5, c5, zs), (AE, c - j, xs.drop j)] (by simpa [partV, ti, tj] using hg) (fun p hp => by
   simp at hp
   rcases hp with rfl | rfl | rfl
   ·
    rw [ti]; exact RB.out w' (C5.out.trans hc)
   ·
    exact RZ.out.chg hc (by simp)
   ·
    rw [tj]; exact RE.out w' (C5.out.trans hc)) (by
   simp [sizeParts, ti, tj]
   have a := PLEN.out
   have b := elseE_len es f
   have d := HX.out.1
   have e := HN.out
   omega) (by simp)
  have fp : flatParts [(A, c, xs.take i), (A5, c5, zs), (AE, c - j, xs.drop j)] = xs.take i ++ (zs ++ xs.drop j) := by simp [flatParts]
  have sp : sizeParts [(A, c, xs.take i), (A5, c5, zs), (AE, c - j, xs.drop j)] = (putS es f).length := by
   rw [← PLEN.out]
   simp [sizeParts]
   have := HIJ.out
   omega
  rw [fp, sp] at q
  refine q.mono ?_
  rintro r w2 ⟨A', c', e1, e2, _, e3⟩
  exact ⟨A', c', e1, e2, e3⟩)
 have LEN7 : Hid ((putS es f).length = (xs.take i ++ (zs ++ xs.drop j)).length) := Lib.hid (by
  rw [← PLEN.out, List.length_append, List.length_append, List.length_take, List.length_drop]
  have := HIJ.out
  omega)
 clear RB RE RS
 go_upto_region 7 with fail
 refine wp_region_held_drew (S := fun _ => True) (by kernel_rfl) trivial (fun hHeld => ?_)
 have C6 := Lib.hid (Chg.refl [] w5).drew
 clear hHeld
 have hHeld := trivial
 generalize w5.drew = w6 at *
 refine sy 0 32 rfl rfl ?_ (hS := trivial)
 try simp only [Act.put, sA, s0, s1]
 refine sy 1 33 rfl rfl ?_ (hS := trivial)
 try simp only [Act.put, sA, s0, s1]
 refine sy 2 34 rfl rfl ?_ (hS := trivial)
 try simp only [Act.put, sA, s0, s1]
 refine sy 3 35 rfl rfl ?_ (hS := trivial)
 try simp only [Act.put, sA, s0, s1]
 refine sy 4 36 rfl rfl ?_ (hS := trivial)
 try simp only [Act.put, sA, s0, s1]
 refine sy 5 37 rfl rfl ?_ (hS := trivial)
 try simp only [Act.put, sA, s0, s1]
 refine sy 6 38 rfl rfl ?_ (hS := trivial)
 try simp only [Act.put, sA, s0, s1]
 refine wpAnyH_ready (rs := [7]) (by kernel_rfl) (by simp) ?_; refine AllReadyH.cons rfl (fun K hK => ?_) AllReadyH.nil; replace hK := Lib.hid hK; go_simp
 obtain ⟨g7, hg7⟩ : ∃ g, w6.heap.size = g := ⟨_, rfl⟩
 obtain ⟨w7, hw, cn, bn⟩ := news1 w6 (.cells #[.slice A i c, .slice A5 zs.length c5, .slice AE (xs.length - j) (c - j)] 22)
 rw [← hw, hg7]
 rw [hg7] at bn
 have CALL := Lib.hid (PARTS.out w7 g7 (C6.out.trans cn) bn)
 have C7 := Lib.hid (C6.out.trans cn)
 clear hw cn bn
 refine hK.out _ _ trivial (fun hHeld => ?_)
 clear hK K; try simp only [Act.put, sA, s0, s1]
 refine wpAnyH_ready (rs := [8]) (by kernel_rfl) (by simp) ?_; refine AllReadyH.cons rfl (fun K hK => ?_) AllReadyH.nil; replace hK := Lib.hid hK; go_simp
 refine CALL.out.mono ?_
 rintro r w8 ⟨A8, c8, rfl, ho, hc⟩
 have O8 := Lib.hid ho
 have C8 := Lib.hid (C7.out.trans hc)
 clear ho hc CALL
 refine hK.out _ _ trivial (fun hHeld => ?_)
 clear hK K; try simp only [Act.put, sA, s0, s1]
 refine sy 9 4 rfl rfl ?_ (hS := trivial)
 try simp only [Act.put, sA, s0, s1]
 refine sy 10 5 rfl rfl ?_ (hS := trivial)
 try simp only [Act.put, sA, s0, s1]
 refine wpAnyH_done (by kernel_rfl) ?_ _; clear hHeld PARTS
 have EV8 : Hid (EvsR w8 (xs.take i ++ (zs ++ xs.drop j)) (putS es f)) := Lib.hid (by
  have a := PP.out
  have e := HX.out.chg (C5.out.trans C8.out)
  have r1 := e.seg 0 i
  have r2 := e.seg j xs.length
  rw [seg_zero, seg_zero] at r1
  rw [seg_end, HX.out.1, seg_end] at r2
  unfold putS
  rw [← a.1, ← a.2.2]
  exact r1.app ((EZ.out.chg C8.out).app r2))
 have R8 : Hid (RdK evTy w8 A8 (putS es f).length (xs.take i ++ (zs ++ xs.drop j))) := Lib.hid (by rw [LEN7.out]; exact O8.out.reads)
 go_wp2; go_ret2
 rw [LEN7.out]
 exact ⟨A8, c8, _, rfl, O8.out.cap, LEN7.out ▸ R8.out, EV8.out, C1.out.trans (C5.out.trans C8.out)⟩
end
section
open Go.RowKit

def KeepsTwo (m : Nat) (w w' : World) : Prop := w'.heap[m]? = w.heap[m]? ∧ w'.heap[m + 1]? = w.heap[m + 1]?
theorem KeepsTwo.of_chg {m : Nat} {S : List Nat} {w w' : World} (h : Chg S w w') (hS : ∀ k ∈ S, k < m) (hm : m + 2 ≤ w.heap.size) : KeepsTwo m w w' :=
 ⟨h.block m (by omega) (fun q => by have := hS m q; omega), h.block (m + 1) (by omega) (fun q => by have := hS _ q; omega)⟩
def brkPostM {α : Type} (m : Nat) (I : List α → World → Prop) (Ix : Code → List α → World → Prop) (n₁ : Nat) (T : List Nat) (xs : List α) (W : World) : Exit → Act → World → Prop
 | .normal, _, W' => KeepsTwo m W W' ∧ Kpt n₁ T W W' ∧ I xs W'
 | .ret, _, W' => KeepsTwo m W W' ∧ Ix .ret xs W'
 | .exit id, _, W' => KeepsTwo m W W' ∧ Ix (.exit id) xs W'
 | _, _, _ => False

theorem range_brkm {α : Type} {P : Program} {n : Nat} {g : Operand} {ps : Array Tmp} {assign body : Code} {Q : Exit → Act → World → Prop} {a : Act} {w : World} {gf : Nat} {lb : Array Value}
  (hg : a.eval g = .func (.func gf) #[] lb) (eg : ∀ args w, (callFunc gf args).run P w = .ok (.enter gf args) w) {encs : α → Array Value} {S Sp : List α → Prop} {Ex : List α → α → World → Prop} {n₁ : Nat} (hn₁ : n₁ ≤ w.heap.size) {Si T : List Nat} (hSi : ∀ x ∈ Si, x < w.heap.size)
  (hseq : ∀ (l : Nat) (J Jx : List α → World → Prop) (W : World), Below w.heap.size w W → (∀ pre A B, J pre A → Kpt W.heap.size Si A B → J pre B) → (∀ pre A B, Jx pre A → Kpt W.heap.size Si A B → Jx pre B) →
   (∀ pre x W1, J pre W1 → Ex pre x W1 → YieldAt Fence.wide (n - 1 - 1) P l (encs x) W1 fun e W' => (e = .returned (.bool true) ∧ J (pre ++ [x]) W' ∧ Kpt n₁ T W1 W') ∨ (e = .returned (.bool false) ∧ Jx (pre ++ [x]) W')) →
   J [] W → CallsIn Fence.wide (n - 1) P gf (#[.func (.yield l) #[] #[]] ++ lb) W fun e W' => (∃ v, e = .returned v) ∧ ((∃ xs, S xs ∧ J xs W') ∨ ∃ xs, Sp xs ∧ Jx xs W'))
  (hps : ∀ x, (encs x).size = ps.size) (I : List α → World → Prop) (Ix : Code → List α → World → Prop) (hI : ∀ pre A B, I pre A → Kpt w.heap.size Si A B → I pre B) (hIx : ∀ c pre A B, Ix c pre A → Kpt w.heap.size Si A B → Ix c pre B) (h0 : I [] w)
  (hEx : ∀ pre x W l o o', W.heap[l]? = some o → o.isCells = false → Ex pre x W → Ex pre x (W.putObj l o')) (a₁ : α → Act)
  (hassign : ∀ (l : Nat) (x : α) (W : World) (K : Act → World → Prop), K (a₁ x) W →
   assign.wpIn (Fence.wide.inRound l) (n - 1 - 1) P (Exit.then K (fun _ _ _ => False)) { tmps := (ps.zip (encs x)).foldl (fun t (p, v) => t.setIfInBounds p v) a.tmps, defers := [] } W)
  (hbody : ∀ (l : Nat) (pre : List α) (x : α) (W : World), w.heap.size + 2 ≤ W.heap.size → I pre W → Ex pre x W → body.wpIn (Fence.wide.inRound l) (n - 1 - 1) P (brkPostM w.heap.size I Ix n₁ T (pre ++ [x]) W) (a₁ x) W)
  (hdone : ∀ (D : Nat) (xs : List α) (W : World), w.heap.size ≤ D → S xs → I xs W → W.heap[D]? = some (.deferred (some [])) → Q .normal { a with defers := { target := .collected D, args := #[] } :: a.defers } W)
  (hstop : ∀ (D : Nat) (c : Code) (xs : List α) (W : World), w.heap.size ≤ D → Sp xs → Ix c xs W → W.heap[D]? = some (.deferred (some [])) → c.wpIn Fence.wide n P Q { a with defers := { target := .collected D, args := #[] } :: a.defers } W) :
  (Code.rangeFunc g ps assign body).wpIn Fence.wide n P Q a w := by
 refine wpIn_rangeFunc ?_
 intro fn hfn
 obtain ⟨rc, hrc⟩ : ∃ rc : LoopState → Option Code → Loop, rc = fun st pe => { state := st, pending := pe, fn, tmps := a.tmps, params := ps, assign, body, defers := w.heap.size } := ⟨_, rfl⟩
 obtain ⟨V, hV, hcV, hD0, hL0⟩ := news2 w (.deferred (some [])) (.loop (rc .ready none))
 have hsV : V.heap.size = w.heap.size + 2 := by rw [hV]; simp
 have bV : Below w.heap.size w V := by rw [hV]; exact ((Below.refl _ w).alloc (Nat.le_refl _) _).alloc (by simp) _
 refine ⟨w.heap.size + 1, [{ target := .collected w.heap.size, args := #[] }], V, { target := .fn (.func gf) lb, args := #[.func (.yield (w.heap.size + 1)) #[] #[]] }, V, gf,
  #[.func (.yield (w.heap.size + 1)) #[] #[]] ++ lb, V, ?_, ?_, fun _ _ => trivial, ?_, fun h => by simp [Fence.wide] at h, ?_⟩
 ·
  rw [hV, hrc]; exact run_enterLoop_outer _ _ _ _ _
 ·
  simp only [resolve, hg]
  simp [go_sem]
 ·
  simp [invoke, go_sem, eg]
 ·
  -- the record and the row of deferred calls, turned or not, lie at or behind w's end
  have turn : ∀ (W : World) (o : Obj) (o' : Obj), W.heap[w.heap.size + 1]? = some o → o.isCells = false → o.isWalk = false → ∀ m, m ≤ w.heap.size → Below m W (W.putObj (w.heap.size + 1) o') :=
   fun W o o' h hc hw m hm => belowK_b (w := w) hm W _ o o' (by omega) h hc hw
  have far : ∀ k, w.heap.size ≤ k → k ∉ Si := fun k hk h => by have := hSi k h; omega
  refine (hseq (w.heap.size + 1) (fun pre W => I pre W ∧ W.heap[w.heap.size + 1]? = some (.loop (rc .ready none)) ∧ W.heap[w.heap.size]? = some (.deferred (some [])))
   (fun pre W => ∃ c, Ix c pre W ∧ W.heap[w.heap.size + 1]? = some (.loop (rc .done (some c))) ∧ W.heap[w.heap.size]? = some (.deferred (some []))) V bV ?_ ?_ ?_
   ⟨hI _ _ _ h0 (Kpt.of_below bV (Nat.le_refl _)), hL0, hD0⟩).mono ?_
  ·
   rintro pre A B ⟨hi, hl, hk⟩ hb
   exact ⟨hI _ _ _ hi (hb.mono (by omega) (fun _ h => h)), (hb.block _ (by omega) (far _ (by omega))).trans hl, (hb.block _ (by omega) (far _ (Nat.le_refl _))).trans hk⟩
  ·
   rintro pre A B ⟨c, hi, hl, hk⟩ hb
   exact ⟨c, hIx _ _ _ _ hi (hb.mono (by omega) (fun _ h => h)), (hb.block _ (by omega) (far _ (by omega))).trans hl, (hb.block _ (by omega) (far _ (Nat.le_refl _))).trans hk⟩
  ·
   rintro pre x W ⟨hi, hl, hk⟩ hx
   have hlt := lt_of_heap hl
   have hy := run_yield (P := P) (args := encs x) hl (by rw [hrc]; exact hps x)
   rw [hrc] at hy
   refine ⟨fn, _, assign, body, hy, roundIn_of_wpIn hfn (hassign _ x W _ ⟨_, run_beginRound hl (by rw [hrc]), ?_⟩)⟩
   have hl2 : (W.putObj (w.heap.size + 1) (.loop { rc .ready none with state := .busy })).heap[w.heap.size + 1]? = some (.loop { rc .ready none with state := .busy }) := World.putObj_heap_same hlt
   have hk2 : (W.putObj (w.heap.size + 1) (.loop { rc .ready none with state := .busy })).heap[w.heap.size]? = some (.deferred (some [])) := (World.putObj_heap_other (by omega)).trans hk
   have b2 := turn W _ (.loop { rc .ready none with state := .busy }) hl rfl rfl
   refine wpIn_mono (hbody _ pre x _ (lt_of_heap hl2) (hI _ _ _ hi (Kpt.of_below (b2 _ (Nat.le_refl _)) (Nat.le_refl _))) (hEx pre x W _ _ _ hl rfl hx)) ?_
   have fin : ∀ (c : Code) (W3 : World), KeepsTwo w.heap.size (W.putObj (w.heap.size + 1) (.loop { rc .ready none with state := .busy })) W3 → Ix c (pre ++ [x]) W3 →
     ∃ v w', (Instr.endRound (w.heap.size + 1) (some c)).run P W3 = .ok v w' ∧ ((Ending.returned v = .returned (.bool true) ∧ (I (pre ++ [x]) w' ∧ w'.heap[w.heap.size + 1]? = some (.loop (rc .ready none)) ∧ w'.heap[w.heap.size]? = some (.deferred (some []))) ∧ Kpt n₁ T W w') ∨
      (Ending.returned v = .returned (.bool false) ∧ ∃ c, Ix c (pre ++ [x]) w' ∧ w'.heap[w.heap.size + 1]? = some (.loop (rc .done (some c))) ∧ w'.heap[w.heap.size]? = some (.deferred (some [])))) := by
    intro c W3 hk3 hi3
    have hl3 := hk3.2.trans hl2
    have hd3 := hk3.1.trans hk2
    have hr := run_endRound (P := P) (some c) hl3
    have b4 := turn W3 _ (.loop (rc .done (some c))) hl3 rfl rfl
    refine ⟨_, _, hr, .inr ⟨rfl, c, ?_, ?_, ?_⟩⟩
    ·
     have := hIx _ _ _ _ hi3 (Kpt.of_below (b4 _ (Nat.le_refl _)) (Nat.le_refl _))
     rw [hrc] at this ⊢
     exact this
    ·
     rw [hrc]; exact World.putObj_heap_same (lt_of_heap hl3)
    ·
     exact (World.putObj_heap_other (by omega)).trans hd3
   rintro e a3 W3 hp
   cases e with
   | normal =>
    obtain ⟨hk3, hb3, hi3⟩ := hp
    have hl3 := hk3.2.trans hl2
    have hd3 := hk3.1.trans hk2
    have hr := run_endRound (P := P) none hl3
    have b4 := turn W3 _ (.loop (rc .ready none)) hl3 rfl rfl
    refine ⟨_, _, hr, .inl ⟨rfl, ⟨?_, ?_, ?_⟩, ?_⟩⟩
    ·
     have := hI _ _ _ hi3 (Kpt.of_below (b4 _ (Nat.le_refl _)) (Nat.le_refl _))
     rw [hrc] at this ⊢
     exact this
    ·
     rw [hrc]; exact World.putObj_heap_same (lt_of_heap hl3)
    ·
     exact (World.putObj_heap_other (by omega)).trans hd3
    ·
     have := ((Kpt.of_below (T := T) (b2 _ hn₁) (Nat.le_refl _)).trans hb3).trans (Kpt.of_below (b4 _ hn₁) (Nat.le_refl _))
     rw [hrc] at this ⊢
     exact this
   | ret => exact fin .ret W3 hp.1 hp.2
   | exit id => exact fin (.exit id) W3 hp.1 hp.2
   | goto t => exact hp.elim
   | panic ch => exact hp.elim
   | outgrown => exact hp.elim
  ·
   rintro e W2 ⟨⟨v, rfl⟩, (⟨xs, hS, hi, hl, hk⟩ | ⟨xs, hS, c, hi, hl, hk⟩)⟩
   ·
    refine ⟨none, _, by have := run_endLoop (P := P) hl (by rw [hrc]; simp); rw [hrc] at this; exact this, hdone _ xs _ (Nat.le_refl _) hS ?_ ((World.putObj_heap_other (by omega)).trans hk)⟩
    exact hI _ _ _ hi (Kpt.of_below (turn W2 _ _ hl rfl rfl _ (Nat.le_refl _)) (Nat.le_refl _))
   ·
    refine ⟨some c, _, by have := run_endLoop (P := P) hl (by rw [hrc]; simp); rw [hrc] at this; exact this, hstop _ c xs _ (Nat.le_refl _) hS ?_ ((World.putObj_heap_other (by omega)).trans hk)⟩
    exact hIx _ _ _ _ hi (Kpt.of_below (turn W2 _ _ hl rfl rfl _ (Nat.le_refl _)) (Nat.le_refl _))
end
end Go.Proofs.YtomgjogkkoigbaaGreatDoor
