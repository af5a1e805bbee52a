/- What is planned, and that it leads to agreement: purely. Events gathered and sorted by their dots. edge.Check and the document's; New. Closed's func, and the search by it. event.Closed. edge.Plan, Agreed. slices.Index, Contains of dots; Next's func. edge.from. edge.Next. past: kept hands on what is kept. -/
import Derived.Test.YtehmchdhlhchjaaGreatDoorZeax
import Derived.Test.YtehmchdhlhchjaaGreatDoorZeam
import Derived.Test.YtehmchdhlhchjaaGreatDoorShelf4
import Derived.Deep.Cut
import Derived.Test.YtehmchdhlhchjaaGreatDoorZeab
import Derived.Test.YtehmchdhlhchjaaGreatDoorZean
import Derived.Test.YtehmchdhlhchjaaGreatDoorZeaq
import Derived.Test.YtehmchdhlhchjaaGreatDoorZeag
import Derived.BigQuiet
import Derived.Test.YtehmchdhlhchjaaGreatDoorZeat
import Derived.Test.YtehmchdhlhchjaaGreatDoorZeaf
import Derived.Deep.CutRange
import Derived.OwnWalkIn
import Derived.Sort.LoopGhostIn
set_option linter.unusedSimpArgs false
set_option linter.unusedVariables false
set_option maxHeartbeats 32000000
namespace Go.Proofs.YtehmchdhlhchjaaGreatDoor
section
open Go.RowKit Go.Lib

def insDt (l : List EvP) (x : EvP) : List EvP := l.takeWhile (fun y => decide (LtEv y x)) ++ x :: l.dropWhile (fun y => decide (LtEv y x))
def byDt (l : List EvP) : List EvP := l.foldl insDt []
def planA (s : List EvP) (n : Int) (k : List Sp) : List EvP := if StOk s ∧ chkA n k = 0 then byDt (s.filter (fun e => !hasE k e.n e.s)) else []
def nextA (p : List EvP) (but : List (Int × Int)) : Option EvP := p.find? (fun e => !decide ((e.n, e.s) ∈ but))
def agreedA (s : List EvP) (n : Int) (k : List Sp) : Bool := decide (StOk s) && decide (chkA n k = 0) && (s.filter (fun e => !hasE k e.n e.s)).isEmpty
theorem insDt_perm (l : List EvP) (x : EvP) : (insDt l x).Perm (x :: l) := by
 unfold insDt
 have := List.takeWhile_append_dropWhile (p := fun y => decide (LtEv y x)) (l := l)
 conv => rhs; rw [← this]
 exact List.perm_middle
theorem insAll_perm : ∀ (l m : List EvP), (l.foldl insDt m).Perm (l ++ m)
 | [], m => List.Perm.refl _
 | x :: l, m => by
  have h := insAll_perm l (insDt m x)
  refine h.trans (((insDt_perm m x).append_left l).trans ?_)
  exact List.perm_middle
theorem byDt_perm (l : List EvP) : (byDt l).Perm l := by
 have := insAll_perm l []
 rw [List.append_nil] at this
 exact this
theorem mem_takeW {α : Type} {p : α → Bool} : ∀ {l : List α} {x : α}, x ∈ l.takeWhile p → p x = true
 | [], x, h => by simp at h
 | y :: l, x, h => by
  rw [List.takeWhile_cons] at h
  split at h
  ·
   rename_i q
   rcases List.mem_cons.1 h with rfl | r
   ·
    exact q
   ·
    exact mem_takeW r
  ·
   simp at h
theorem lt_or {a b : EvP} (h : dotNe a b) : LtEv a b ∨ LtEv b a := by unfold dotNe at h; unfold LtEv LtD; omega
theorem insDt_sorted {l : List EvP} {x : EvP} (h : l.Pairwise LtEv) (hx : ∀ y ∈ l, dotNe y x) : (insDt l x).Pairwise LtEv := by
 have hl := List.takeWhile_append_dropWhile (p := fun y => decide (LtEv y x)) (l := l)
 have h2 := h
 rw [← hl, List.pairwise_append] at h2
 obtain ⟨ht, hd, hc⟩ := h2
 have big : ∀ y ∈ l.dropWhile (fun y => decide (LtEv y x)), LtEv x y := by
  intro y hy
  rcases hq : l.dropWhile (fun y => decide (LtEv y x)) with _ | ⟨z, r⟩
  ·
   rw [hq] at hy; simp at hy
  ·
   have hz : ¬ LtEv z x := by
    have := List.head_dropWhile_not (fun y => decide (LtEv y x)) (l := l) (by rw [hq]; simp)
    simpa [hq] using this
   have zl : z ∈ l := (List.dropWhile_sublist _).subset (by rw [hq]; simp)
   have xz : LtEv x z := (lt_or (hx z zl)).resolve_left hz
   rw [hq] at hy hd
   rcases List.mem_cons.1 hy with rfl | r'
   ·
    exact xz
   ·
    exact xz.tr ((List.pairwise_cons.1 hd).1 y r')
 unfold insDt
 rw [List.pairwise_append]
 refine ⟨ht, List.pairwise_cons.2 ⟨big, hd⟩, fun a ha b hb => ?_⟩
 have al : LtEv a x := by have := mem_takeW ha; simpa using this
 rcases List.mem_cons.1 hb with rfl | r
 ·
  exact al
 ·
  exact al.tr (big b r)
theorem insAll_sorted : ∀ (l m : List EvP), m.Pairwise LtEv → (l ++ m).Pairwise dotNe → (l.foldl insDt m).Pairwise LtEv
 | [], m, h, _ => h
 | x :: l, m, h, hd => by
  have hd2 := hd
  rw [List.cons_append, List.pairwise_cons] at hd2
  refine insAll_sorted l (insDt m x) (insDt_sorted h (fun y hy => dotNe_comm (hd2.1 y (by simp [hy])))) ?_
  have p : (l ++ insDt m x).Perm (x :: (l ++ m)) := ((insDt_perm m x).append_left l).trans List.perm_middle
  exact (p.pairwise_iff (fun {a b} => dotNe_comm)).2 hd
theorem byDt_sorted {l : List EvP} (h : l.Pairwise dotNe) : (byDt l).Pairwise LtEv := insAll_sorted l [] List.Pairwise.nil (by rw [List.append_nil]; exact h)
theorem byDt_is {l ys : List EvP} (h : l.Pairwise dotNe) (hp : ys.Perm l) (hs : ys.Pairwise (fun x y => ¬ LtEv y x)) : ys = byDt l := by
 have hd : ys.Pairwise dotNe := (hp.pairwise_iff (fun {a b} => dotNe_comm)).2 h
 have h1 : ys.Pairwise LtEv := (hs.and hd).imp (fun {a b} q => (lt_or q.2).resolve_right q.1)
 exact sorted_ext LtEv.irr (fun a b c => LtEv.tr) h1 (byDt_sorted h) (fun x => hp.mem_iff.trans (byDt_perm l).mem_iff.symm)
theorem byDt_len (l : List EvP) : (byDt l).length = l.length := (byDt_perm l).length_eq
/-! It leads to agreement. -/
theorem fine_dot {e : EvP} (h : chkEv e = 0) : FineQ e.n e.s := by
 have q : EvOk e := by
  unfold chkEv at h
  split at h
  ·
   assumption
  ·
   cases h
 have f : chkD e.n e.s = 0 := q.1
 unfold chkD at f
 split at f
 ·
  rename_i d
  unfold FineD at d
  unfold FineQ
  omega
 ·
  cases f
theorem learn_ok {k : List Sp} {e : EvP} (hk : chkS k = 0) (hl : k.length ≤ 3000) (he : chkEv e = 0) : ∃ k', learnA 7 k e.n e.s = (0, 7, k') ∧ chkS k' = 0 ∧ k'.length ≤ k.length + 1 ∧ ∀ n s, hasE k' n s = (hasE k n s || decide (n = e.n ∧ s = e.s)) := by
 have c1 : chkS [(e.n, e.s, e.s)] = 0 := by rw [chk_dot, if_pos (fine_dot he)]
 obtain ⟨j1, j2, j3, j4⟩ := join_ok hk c1 (by simp; omega)
 have c7 : chkA 7 k = 0 := by rw [chkA_in (by omega) (by omega)]; exact hk
 refine ⟨_, by unfold learnA; rw [if_pos c7, j1]; rfl, j2, by simpa using j3, fun n s => ?_⟩
 rw [has_iff j2, has_iff hk, Bool.eq_iff_iff, Bool.or_eq_true, decide_eq_true_eq, decide_eq_true_eq, decide_eq_true_eq, j4, mem_one]
 refine or_congr Iff.rfl ?_
 show e.n = n ∧ e.s ≤ s ∧ s ≤ e.s ↔ _
 omega
structure AgI (U X Y s t : List EvP) (k : List Sp) (sent : List EvP) : Prop where
 here : s = X.foldl putS []
 there : t = (Y ++ sent).foldl putS []
 chk : chkS k = 0
 len : k.length ≤ Y.length + sent.length
 has : ∀ n m, hasE k n m = decide ((n, m) ∈ dotsE (Y ++ sent))
 from_ : ∀ x ∈ sent, x ∈ s ∧ x ∉ Y
section
variable {U X Y s t sent : List EvP} {k : List Sp} (hU : closedE U = true) (hX : ∀ x ∈ X, x ∈ U) (hY : ∀ x ∈ Y, x ∈ U)
include hU hX
theorem here_in (h : s = X.foldl putS []) : ∀ x ∈ s, x ∈ X := by rw [h]; exact stOf_sub (puts_store hU hX)
theorem here_ok (h : s = X.foldl putS []) : StOk s := by rw [h]; exact stOf_ok hU hX (puts_store hU hX)
include hY
theorem AgI.mem (h : AgI U X Y s t k sent) : ∀ x ∈ Y ++ sent, x ∈ U := fun x hx => (List.mem_append.1 hx).elim (hY x) (fun q => hX x (here_in hU hX h.here x (h.from_ x q).1))
theorem AgI.has_iff_ (h : AgI U X Y s t k sent) {x : EvP} (hx : x ∈ U) : hasE k x.n x.s = true ↔ x ∈ Y ++ sent := by
 rw [h.has, decide_eq_true_eq]
 refine ⟨fun q => ?_, fun q => List.mem_map.2 ⟨x, q, rfl⟩⟩
 obtain ⟨y, hy, e⟩ := List.mem_map.1 q
 simp only [Prod.mk.injEq] at e
 have := cl_dot hU (h.mem hU hX hY y hy) hx e.1 e.2
 rw [← this]
 exact hy
theorem AgI.next (h : AgI U X Y s t k sent) {x : EvP} (hx : x ∈ s.filter (fun e => !hasE k e.n e.s)) (hb : Y.length + sent.length ≤ 2000) : ∃ k', stPut t x = (0, putS t x) ∧ learnA 7 k x.n x.s = (0, 7, k') ∧ AgI U X Y s (putS t x) k' (sent ++ [x]) ∧ (x.n, x.s) ∉ dotsE sent ∧ (s.filter (fun e => !hasE k' e.n e.s)).length < (s.filter (fun e => !hasE k e.n e.s)).length := by
 obtain ⟨xs, xn⟩ := List.mem_filter.1 hx
 have xX := here_in hU hX h.here x xs
 have xU := hX x xX
 have no : x ∉ Y ++ sent := by
  intro q
  rw [(h.has_iff_ hU hX hY xU).2 q] at xn
  cases xn
 obtain ⟨k', l1, l2, l3, l4⟩ := learn_ok (e := x) h.chk (by have := h.len; omega) (cl_chk hU xU)
 have mem := h.mem hU hX hY
 have st := puts_store hU mem
 have tU : ∀ y ∈ t, y ∈ U := fun y hy => mem y (by rw [h.there] at hy; exact stOf_sub st y hy)
 refine ⟨k', stPut_yes (by rw [h.there]; exact stOf_ok hU mem st) (cl_chk hU xU) (else_closed hU tU xU), l1, ⟨h.here, by rw [h.there, ← List.append_assoc, List.foldl_append (l := Y ++ sent)]; rfl, l2, by have := h.len; simp; omega, fun n m => ?_, fun y hy => ?_⟩, fun q => ?_, ?_⟩
 ·
  rw [l4, h.has, Bool.eq_iff_iff, Bool.or_eq_true, decide_eq_true_eq, decide_eq_true_eq, decide_eq_true_eq]
  unfold dotsE
  simp only [List.map_append, List.mem_append, List.map_cons, List.map_nil, List.mem_singleton, Prod.mk.injEq]
  exact or_assoc
 ·
  rcases List.mem_append.1 hy with q | q
  ·
   exact h.from_ y q
  ·
   simp at q
   rw [q]
   exact ⟨xs, fun r => no (List.mem_append_left _ r)⟩
 ·
  obtain ⟨y, hy, e⟩ := List.mem_map.1 q
  simp only [Prod.mk.injEq] at e
  have := cl_dot hU (mem y (List.mem_append_right _ hy)) xU e.1 e.2
  rw [this] at hy
  exact no (List.mem_append_right _ hy)
 ·
  have sub : ∀ e : EvP, (!hasE k' e.n e.s) = true → (!hasE k e.n e.s) = true := fun e q => by
   rw [l4] at q
   simp only [Bool.not_eq_true', Bool.or_eq_false_iff] at q
   rw [q.1]; rfl
  have key : ∀ l : List EvP, x ∈ l → (l.filter (fun e => !hasE k' e.n e.s)).length < (l.filter (fun e => !hasE k e.n e.s)).length := by
   intro l
   have le : ∀ l : List EvP, (l.filter (fun e => !hasE k' e.n e.s)).length ≤ (l.filter (fun e => !hasE k e.n e.s)).length := by
    intro l
    induction l with
    | nil => simp
    | cons a l ih =>
     rw [List.filter_cons, List.filter_cons]
     by_cases q : (!hasE k' a.n a.s) = true
     ·
      rw [if_pos q, if_pos (sub a q)]; simp; exact ih
     ·
      rw [if_neg q]
      split
      ·
       simp; omega
      ·
       exact ih
   induction l with
   | nil => intro q; simp at q
   | cons a l ih =>
    intro q
    rw [List.filter_cons, List.filter_cons]
    rcases List.mem_cons.1 q with rfl | r
    ·
     have n1 : ¬ (!hasE k' x.n x.s) = true := by rw [l4]; simp
     rw [if_neg n1, if_pos xn]
     have := le l
     simp
     omega
    ·
     have := ih r
     by_cases q : (!hasE k' a.n a.s) = true
     ·
      rw [if_pos q, if_pos (sub a q)]; simp; exact this
     ·
      rw [if_neg q]
      split
      ·
       simp; omega
      ·
       exact this
  exact key s xs
theorem AgI.done (h : AgI U X Y s t k sent) (hn : s.filter (fun e => !hasE k e.n e.s) = []) : agreedA s 7 k = true ∧ stJoin s (Y.foldl putS []) = (0, t) := by
 have c7 : chkA 7 k = 0 := by rw [chkA_in (by omega) (by omega)]; exact h.chk
 constructor
 ·
  unfold agreedA
  rw [decide_eq_true (here_ok hU hX h.here), decide_eq_true c7, hn]
  rfl
 ·
  have B : ∀ x, x ∈ X ++ Y ↔ x ∈ X ∨ x ∈ Y := fun x => List.mem_append
  have BU : ∀ x ∈ X ++ Y, x ∈ U := fun x hx => ((B x).1 hx).elim (hX x) (hY x)
  rw [h.here, st_join_all hU hX hY B]
  have m := missing_st hU hY hX (L := X ++ Y) (fun x => (B x).trans or_comm) (puts_store hU hY) (puts_store hU hX) (m := sent) (fun x => by
   rw [← h.here]
   constructor
   ·
    exact h.from_ x
   ·
    rintro ⟨q, r⟩
    have xU := hX x (here_in hU hX h.here x q)
    have : hasE k x.n x.s = true := by
     rcases e : hasE k x.n x.s with _ | _
     ·
      have : x ∈ s.filter (fun e => !hasE k e.n e.s) := List.mem_filter.2 ⟨q, by rw [e]; rfl⟩
      rw [hn] at this
      simp at this
     ·
      rfl
    exact (List.mem_append.1 ((h.has_iff_ hU hX hY xU).1 this)).resolve_left r)
  have e := stOf_same (fun x => Iff.rfl) (puts_store hU BU) m
  rw [e, h.there, List.foldl_append]
omit hY in
theorem AgI.first (h : AgI U X Y s t k sent) : planA s 7 k = byDt (s.filter (fun e => !hasE k e.n e.s)) := by
 unfold planA
 rw [if_pos ⟨here_ok hU hX h.here, by rw [chkA_in (by omega) (by omega)]; exact h.chk⟩]
end
end
section
open Go.RowKit Go.Lib

set_option maxRecDepth 100000 in
theorem edcmp_says : CmpSays evTy 36 cmpEv := fun w x y => by
 show Calls Tryz.prog 36 #[.agg #[.int .i64 x.n, .int .i64 x.s, .string x.p, .int .i64 x.k, .int .i64 x.m, .slice x.A x.l x.c, .slice x.B x.bl x.bc], .agg #[.int .i64 y.n, .int .i64 y.s, .string y.p, .int .i64 y.k, .int .i64 y.m, .slice y.A y.l y.c, .slice y.B y.bl y.bc]] w fun e w' => e = .returned (.int .i64 (cmpD x.n x.s y.n y.s)) ∧ Gr w w'
 obtain ⟨w0, hw0, c0, b0, b1⟩ := gr2 w (.cells #[.int .i64 x.n, .int .i64 x.s, .string x.p, .int .i64 x.k, .int .i64 x.m, .slice x.A x.l x.c, .slice x.B x.bl x.bc] 40) (.cells #[.int .i64 y.n, .int .i64 y.s, .string y.p, .int .i64 y.k, .int .i64 y.m, .slice y.A y.l y.c, .slice y.B y.bl y.bc] 40)
 have W0 := h_ hw0
 have G := h_ c0
 obtain ⟨k0, k1, k2, k3, k4, k5, k6⟩ := ce7 b0
 obtain ⟨d0, d1, d2, d3, d4, d5, d6⟩ := ce7 b1
 clear hw0 c0 b0 b1
 go_enter Tryz.func36, Tryz.ntmps36
 go_upto_region 1 with fail
 rw [← W0.out]
 generalize w.heap.size + 1 = s1 at *
 generalize w.heap.size = s0 at *
 go_wp2_with fail
 refine (orderof_gr _ _ _ _ _).mono ?_
 rintro e w1 ⟨rfl, c1⟩
 replace G := h_ (G.out.trans c1)
 clear c1 k0 k1 k2 k3 k4 k5 k6 d0 d1 d2 d3 d4 d5 d6; go_wp2; go_ret
 exact ⟨rfl, G.out⟩
set_option maxRecDepth 100000 in
theorem sortedfunc_any (w : World) (bs : Nat) (A : Option Addr) (c : Nat) (xs : List EvT) (h : RdK evTy w A xs.length xs) (ho : xs = [] ∨ ∀ a, A = some a → a.block < w.heap.size) (hn : xs.length ≤ 100000) (hs : w.heap[bs]? = some (.cells #[.slice A xs.length c] 22 (0, 0))) :
  Calls Tryz.prog 33 #[.func (.func 69) #[] #[.pointer (some ⟨bs, 0, none⟩)], .func (.func 36) #[] #[]] w fun e w' => ∃ B d ys, e = .returned (.slice B ys.length d) ∧ ys.Perm xs ∧ ys.Pairwise (fun x y => ltOf cmpEv y x = false) ∧ OwnK evTy w' B d ys ∧ (∀ a, B = some a → w.heap.size ≤ a.block) ∧ Chg [] w w' := by
 have CO := h_ (collect_any w bs A c xs h ho hn hs)
 have HN := h_ hn
 clear h ho hn hs
 go_enter Tryz.func33, Tryz.ntmps33
 go_wp2_with fail
 refine CO.out.mono ?_
 rintro e w1 ⟨B, d, rfl, o1, n1, h1⟩
 have O1 := h_ o1
 have N1 := h_ n1
 have C1 := h_ h1
 clear o1 n1 h1 CO; go_wp2_with fail
 refine (sortp_any (R := evTy) Tryz.llLaysE06 Tryz.isAgg40 Tryz.sizeOf40 cmpEv swoEv 36 (enters_of Tryz.func36 (by kernel_rfl) rfl) edcmp_says w1 B d xs O1.out (by have := HN.out; omega)).mono ?_
 rintro r w3 ⟨rfl, ms, hp, hs, o2, h2⟩
 have P := h_ (And.intro hp (And.intro hs o2))
 have C2 := h_ (C1.out.trans' h2 fun i hi => .inr (blkOf_new N1.out i hi))
 have ML : xs.length = ms.length := hp.length_eq.symm
 rw [ML]
 clear hp hs o2 h2 O1 ML; go_wp2; go_ret
 exact ⟨B, d, ms, rfl, P.out.1, P.out.2.1, P.out.2.2, N1.out, C2.out⟩
end
section
open Go.RowKit Go.Lib


set_option maxRecDepth 100000 in
theorem edcheck_any (w : World) (n : Int) (B : Option Addr) (bl bc : Nat) (q : List Sp) (h : RdK spanTy w B bl q) (hn : bl ≤ 140737488351232) :
  Calls Tryz.prog 32 #[.agg #[.int .i64 n, .slice B bl bc]] w fun r w' => r = .returned (.int .i64 (chkA n q)) ∧ Chg [] w w' := by
 obtain ⟨w1, hw, hc, b0⟩ := news1 w (.cells #[.int .i64 n, .slice B bl bc] 25)
 have W1 := h_ hw
 have H := h_ (h.chg hc (by simp))
 have C := h_ hc
 have B0 := h_ b0
 have HN := h_ hn
 generalize hv : chkA n q = v
 have HV := h_ hv
 clear hw hc b0 h hn hv
 go_enter Tryz.func32, Tryz.ntmps32
 go_upto_region 1 with fail
 rw [← W1.out]
 generalize w.heap.size = g0 at *
 clear W1
 obtain ⟨z0, z1⟩ := ce2 B0.out
 by_cases h1 : n < 1
 ·
  skip
  obtain rfl : v = 2 := by rw [← HV.out]; exact chkA_lo h1
  go_wp2; go_ret
  exact ⟨rfl, C.out⟩
 by_cases h2 : 200 < n
 ·
  skip
  obtain rfl : v = 2 := by rw [← HV.out]; exact chkA_hi h2
  go_wp2; go_ret
  exact ⟨rfl, C.out⟩
 have HW : Hid (chkS q = v) := h_ (by rw [← HV.out]; exact (chkA_in (by omega) (by omega)).symm)
 go_wp2_with fail; clear h1 h2; clear z0 z1
 refine (pacheck_any w1 B bl bc q H.out HN.out).mono ?_
 rintro r w2 ⟨rfl, hc⟩
 replace C := h_ (C.out.trans hc)
 clear hc
 rw [HW.out]
 have TW : Hid (v = 0 ∨ v = 2) := h_ (by rw [← HW.out]; exact chk_two q)
 rcases TW.out with rfl | rfl
 ·
  skip; go_wp2; go_ret
  exact ⟨rfl, C.out⟩
 ·
  skip; go_wp2; go_ret
  exact ⟨rfl, C.out⟩

set_option maxRecDepth 100000 in
theorem ednew_any (w : World) (n : Int)  :
  Calls Tryz.prog 22 #[.int .i64 n] w fun r w' => ∃ A' c', r = .returned (.tuple #[.agg #[.int .i64 (newA n).2.1, .slice A' (newA n).2.2.length c'], .int .i64 (newA n).1]) ∧ OwnK spanTy w' A' c' (newA n).2.2 ∧ (∀ a, A' = some a → w.heap.size ≤ a.block) ∧ Chg [] w w' := by
 obtain ⟨w1, hw, hc, b0, b1⟩ := news2 w (.cells #[.int .i64 0, .slice none 0 0] 25) (.cells #[.int .i64 n, .slice none 0 0] 25)
 have W1 := h_ hw
 have C := h_ hc
 have B0 := h_ b0
 have B1 := h_ b1
 generalize hv : newA n = v
 have HV := h_ hv
 clear hw hc b0 b1 hv
 go_enter Tryz.func22, Tryz.ntmps22
 go_upto_region 2 with fail
 rw [← W1.out]
 generalize hz1 : w.heap.size + 1 = g1 at *
 generalize hz0 : w.heap.size = g0 at *
 have Z := h_ (And.intro hz0 hz1)
 have n01 : ¬ g0 = g1 := by omega
 have n10 : ¬ g1 = g0 := by omega
 clear W1 hz0 hz1
 obtain ⟨z0, z1⟩ := ce2 B1.out
 go_wp2_with fail; clear z0 z1
 refine (edcheck_any w1 n none 0 0 [] (RdK.nil _ _) (by omega)).mono ?_
 rintro r w2 ⟨rfl, hc⟩
 replace C := h_ (C.out.trans hc)
 replace B0 := h_ (hc.at_ B0.out (by simp))
 replace B1 := h_ (hc.at_ B1.out (by simp))
 clear hc
 rcases chkA_two n [] with hk | hk
 ·
  skip
  obtain rfl : v = (0, n, []) := by rw [← HV.out]; unfold newA; rw [if_pos hk]
  rw [hk]
  clear hk
  have t0 := cell_of B0.out 0
  have t1 := cell_of B0.out 1
  have ft0 := free_of B0.out 0
  have ft1 := free_of B0.out 1
  simp only [gA, gY, gZ] at t0 t1
  obtain ⟨z0, z1⟩ := ce2 B1.out
  go_wp2
  refine bodyPost_ret (v := .tuple #[.agg #[.int .i64 n, .slice none 0 0], .int .i64 0]) (by simp [results, Tryz.results22, go_sem, t0, t1]) rfl ?_
  exact ⟨none, 0, rfl, OwnK.none_ _, by simp, C.out.trans' (((Chg.refl [g0] w2).put' 0 _).put' 1 _) (fun i hi => .inr (by have := Z.out; simp at hi; omega))⟩
 ·
  skip
  obtain rfl : v = (2, 0, []) := by rw [← HV.out]; unfold newA; rw [if_neg (by rw [hk]; decide)]
  rw [hk]
  clear hk
  have t0 := cell_of B0.out 0
  have t1 := cell_of B0.out 1
  have ft0 := free_of B0.out 0
  have ft1 := free_of B0.out 1
  simp only [gA, gY, gZ] at t0 t1
  obtain ⟨z0, z1⟩ := ce2 B1.out
  go_wp2
  refine bodyPost_ret (v := .tuple #[.agg #[.int .i64 0, .slice none 0 0], .int .i64 2]) (by simp [results, Tryz.results22, go_sem, t0, t1]) rfl ?_
  exact ⟨none, 0, rfl, OwnK.none_ _, by simp, C.out.trans' (((Chg.refl [g0] w2).put' 0 _).put' 1 _) (fun i hi => .inr (by have := Z.out; simp at hi; omega))⟩
end
section
open Go.RowKit Go.Lib


set_option maxRecDepth 100000 in
theorem evclosed2_any (w : World) (gp : Nat) (A : Option Addr) (c : Nat) (xs : List EvT) (es : List EvP) (y : EvT) (f : EvP) (hp : w.heap[gp]? = some (.cells #[.slice A xs.length c] 22 (0, 0))) (h : RdK evTy w A xs.length xs) (hx : EvsR w xs es) (hu : UpE xs) (hf : FitE w xs) (hn : xs.length ≤ 100000) (hs : ∀ e ∈ es, e.q.length ≤ 140737488351232) (hy : EvR w y f) (fy : FitW w y.B y.bl y.bc) (hl : f.q.length ≤ 140737488351232) :
  Calls Tryz.prog 58 #[.agg #[.int .i64 y.n, .int .i64 y.s, .string y.p, .int .i64 y.k, .int .i64 y.m, .slice y.A y.l y.c, .slice y.B y.bl y.bc], .pointer (some ⟨gp, 0, none⟩)] w fun r w' => r = .returned (.bool (!bringsE es f)) ∧ Chg [] w w' := by
 obtain ⟨w1, hw1, c1, b1⟩ := news1 w (.cells #[.int .i64 y.n, .int .i64 y.s, .string y.p, .int .i64 y.k, .int .i64 y.m, .slice y.A y.l y.c, .slice y.B y.bl y.bc] 40)
 have W1 := h_ hw1
 have C1 := h_ c1
 have BR := h_ (evbrings_any w1 A c xs es y f (h.chg c1 (by simp)) (hx.chg c1) hu (hf.chg c1) (hy.chg c1) (fy.chg c1) hn ⟨hs, hl⟩)
 have p0 := ce1 (c1.at_ hp (by simp))
 obtain ⟨y0, y1, y2, y3, y4, y5, y6⟩ := ce7 b1
 clear hw1 c1 b1 hp h hx hu hf hn hs hy fy hl
 generalize hv : bringsE es f = v at *
 have HV := h_ hv
 clear hv
 go_enter Tryz.func58, Tryz.ntmps58
 go_upto_region 1 with fail
 rw [← W1.out]
 generalize w.heap.size = g1 at *
 clear W1; go_wp2_with fail
 refine BR.out.mono ?_
 rintro r w2 ⟨rfl, hc⟩
 replace C1 := h_ (C1.out.trans hc)
 clear hc BR p0 y0 y1 y2 y3 y4 y5 y6; go_wp2; go_ret
 exact ⟨rfl, C1.out⟩
theorem all_at_no {α : Type} {p : α → Bool} {l : List α} {k : Nat} {x : α} (h : l[k]? = some x) (hp : p x = false) : l.all p = false := by
 rcases q : l.all p with _ | _
 ·
  rfl
 ·
  have := List.all_eq_true.1 q x (List.mem_of_getElem? h)
  rw [hp] at this
  exact absurd this (by decide)
set_option maxRecDepth 100000 in
theorem evindex_any (w : World) (gp : Nat) (A : Option Addr) (c : Nat) (xs : List EvT) (es : List EvP) (hp : w.heap[gp]? = some (.cells #[.slice A xs.length c] 22 (0, 0))) (h : RdK evTy w A xs.length xs) (hx : EvsR w xs es) (hu : UpE xs) (hf : FitE w xs) (hn : xs.length ≤ 100000) (hs : ∀ e ∈ es, e.q.length ≤ 140737488351232) :
  Calls Tryz.prog 82 #[.slice A xs.length c, .func (.func 58) #[] #[.pointer (some ⟨gp, 0, none⟩)]] w fun r w' => (∃ v : Int, r = .returned (.int .i64 v) ∧ es.all (bringsE es) = decide (v < 0)) ∧ Chg [] w w' := by
 have HP := h_ hp
 have HA := h_ h
 have HX := h_ hx
 have HU := h_ hu
 have HF := h_ hf
 have HN := h_ hn
 have HS := h_ hs
 clear hp h hx hu hf hn hs
 go_enter Tryz.func82, Tryz.ntmps82
 go_wp2
 go_loopw [5, 8] (fun v5 v8 wr => ∃ (k : Nat), k ≤ xs.length ∧ v8 = .int .i64 k ∧ Hid ((es.take k).all (bringsE es) = true) ∧ Hid (Chg [] w wr)) (fun _ v8 _ => xs.length - (RowKit.intOf v8).toNat)
 case atStart => exact ⟨0, Nat.zero_le _, rfl, h_ rfl, Chg.refl _ _⟩
 case round =>
  obtain ⟨k, hk, rfl, FN, RC⟩ := hrel
  have i0 : (0 : Int) ≤ (k : Int) := by omega
  by_cases hlt : k < xs.length
  ·
   have i1 : (k : Int) < (xs.length : Int) := by omega
   have i3 : IntKind.i64.wrap ((k : Int) + 1) = (k : Int) + 1 := IntWalk.i64_in _ (by have := HN.out; omega)
   obtain ⟨x, e, ex, ee, rx⟩ := HX.out.at_ hlt
   obtain ⟨g, o, eA, _⟩ := HA.out.line (by omega)
   subst eA
   obtain ⟨z0, z1, z2, z3, z4, z5, z6⟩ := evCells (HA.out.chg RC.out (by simp)) ex
   have EE := h_ ee
   have CL := h_ (evclosed2_any wr gp _ c xs es x e (RC.out.at_ HP.out (by simp)) (HA.out.chg RC.out (by simp)) (HX.out.chg RC.out) HU.out (HF.out.chg RC.out) HN.out HS.out (rx.chg RC.out) ((HF.out x (List.mem_of_getElem? ex)).chg RC.out) (HS.out e (List.mem_of_getElem? ee)))
   clear ex ee rx; go_wp2_with fail
   refine CL.out.mono ?_
   rintro r w2 ⟨rfl, hc⟩
   have C2 := h_ (RC.out.trans hc)
   clear hc CL z0 z1 z2 z3 z4 z5 z6
   rcases hb : bringsE es e with _ | _
   ·
    have NO : Hid (es.all (bringsE es) = false) := h_ (all_at_no EE.out hb)
    clear hb; go_wp2; go_ret
    exact ⟨by rw [NO.out]; simp, C2.out⟩
   ·
    have FN1 : Hid ((es.take (k + 1)).all (bringsE es) = true) := h_ (by rw [all_take_succ EE.out, FN.out, hb]; rfl)
    clear hb FN; go_wp2; go_round
    case rel => exact ⟨k + 1, by omega, by go_num, FN1, C2⟩
    case measure => simp [RowKit.intOf]; omega
  ·
   obtain rfl : k = xs.length := by omega
   have ET : es.take xs.length = es := by rw [HX.out.1]; exact List.take_length
   rw [ET] at FN
   clear ET
   have i1 : ¬ (xs.length : Int) < (xs.length : Int) := by omega
   go_wp2; go_ret
   exact ⟨by rw [FN.out]; simp, RC.out⟩
set_option maxRecDepth 100000 in
theorem evcontains_any (w : World) (gp : Nat) (A : Option Addr) (c : Nat) (xs : List EvT) (es : List EvP) (hp : w.heap[gp]? = some (.cells #[.slice A xs.length c] 22 (0, 0))) (h : RdK evTy w A xs.length xs) (hx : EvsR w xs es) (hu : UpE xs) (hf : FitE w xs) (hn : xs.length ≤ 100000) (hs : ∀ e ∈ es, e.q.length ≤ 140737488351232) :
  Calls Tryz.prog 57 #[.slice A xs.length c, .func (.func 58) #[] #[.pointer (some ⟨gp, 0, none⟩)]] w fun r w' => r = .returned (.bool (!es.all (bringsE es))) ∧ Chg [] w w' := by
 have IX := h_ (evindex_any w gp A c xs es hp h hx hu hf hn hs)
 clear hp h hx hu hf hn hs
 have go : ∀ v, (!es.all (bringsE es)) = v → Calls Tryz.prog 57 #[.slice A xs.length c, .func (.func 58) #[] #[.pointer (some ⟨gp, 0, none⟩)]] w (fun e w' => e = .returned (.bool v) ∧ Chg [] w w') → Calls Tryz.prog 57 #[.slice A xs.length c, .func (.func 58) #[] #[.pointer (some ⟨gp, 0, none⟩)]] w fun e w' => e = .returned (.bool (!es.all (bringsE es))) ∧ Chg [] w w' := fun v hv h => hv ▸ h
 rcases hf : es.all (bringsE es) with _ | _
 ·
  rw [hf] at go
  refine go true rfl ?_
  clear go
  go_enter Tryz.func57, Tryz.ntmps57
  go_wp2_with fail
  refine IX.out.mono ?_
  rintro e w2 ⟨⟨v, rfl, hv⟩, hc⟩
  have C := h_ hc
  have hv2 : decide ((0 : Int) ≤ v) = true := decide_eq_true (by rw [hf] at hv; have := of_decide_eq_false hv.symm; omega)
  clear hv hc hf; go_wp2; go_ret
  exact ⟨rfl, C.out⟩
 ·
  rw [hf] at go
  refine go false rfl ?_
  clear go
  go_enter Tryz.func57, Tryz.ntmps57
  go_wp2_with fail
  refine IX.out.mono ?_
  rintro e w2 ⟨⟨v, rfl, hv⟩, hc⟩
  have C := h_ hc
  have hv2 : decide ((0 : Int) ≤ v) = false := decide_eq_false (by rw [hf] at hv; have := of_decide_eq_true hv.symm; omega)
  clear hv hc hf; go_wp2; go_ret
  exact ⟨rfl, C.out⟩
end
section
open Go.RowKit Go.Lib


theorem EvsR.perm {w : World} {xs ms : List EvT} {es : List EvP} (h : EvsR w xs es) (hp : ms.Perm xs) : ∃ fs, fs.Perm es ∧ EvsR w ms fs := by
 obtain ⟨fs, hl, hz⟩ := perm_zip hp es h.1.symm
 have hm : ms.length = xs.length := hp.length_eq
 refine ⟨fs, ?_, hl.symm, fun i x e hx he => ?_⟩
 ·
  have := hz.map Prod.snd
  rwa [List.map_snd_zip (by omega), List.map_snd_zip (by rw [h.1]; exact Nat.le_refl _)] at this
 ·
  have hi : (x, e) ∈ ms.zip fs := List.mem_of_getElem? (i := i) (by rw [List.getElem?_zip_eq_some]; exact ⟨hx, he⟩)
  obtain ⟨j, hj⟩ := List.getElem?_of_mem (hz.mem_iff.1 hi)
  rw [List.getElem?_zip_eq_some] at hj
  exact h.2 j x e hj.1 hj.2
theorem up_apart {w : World} {ms : List EvT} {fs : List EvP} (h : EvsR w ms fs) (hu : UpE ms) (ha : ∀ (p : Nat) (a b : EvT), ms[p]? = some a → ms[p + 1]? = some b → ¬ (a.n = b.n ∧ a.s = b.s)) : fs.Pairwise (fun a b => ¬ (a.n = b.n ∧ a.s = b.s)) := by
 rw [List.pairwise_iff_getElem]
 intro i j hi hj hij
 have hl := h.1
 have ei := List.getElem?_eq_getElem (show i < ms.length by omega)
 have ej := List.getElem?_eq_getElem (show j < ms.length by omega)
 have ek := List.getElem?_eq_getElem (show i + 1 < ms.length by omega)
 have r1 := h.2 i _ _ ei (List.getElem?_eq_getElem hi)
 have r2 := h.2 j _ _ ej (List.getElem?_eq_getElem hj)
 rw [← r1.n, ← r1.s, ← r2.n, ← r2.s]
 have a := ha i _ _ ei ek
 have b := up_at hu ei ek (by omega)
 by_cases q : i + 1 = j
 ·
  subst q
  exact a
 ·
  have d := up_at hu ek ej (by omega)
  unfold LtD at b d
  omega
set_option maxRecDepth 100000 in
theorem evclosed_any (w : World) (A : Option Addr) (c : Nat) (xs : List EvT) (es : List EvP) (h : RdK evTy w A xs.length xs) (hx : EvsR w xs es) (hf : FitE w xs) (hn : xs.length ≤ 100000) (hs : ∀ e ∈ es, EvSm e) :
  Calls Tryz.prog 21 #[.slice A xs.length c] w fun r w' => r = .returned (.bool (closedE es)) ∧ Chg [] w w' := by

 have HA := h_ h
 have HX := h_ hx
 have HF := h_ hf
 have HN := h_ hn
 have HS := h_ hs
 clear h hx hf hn hs
 go_enter Tryz.func21, Tryz.ntmps21
 go_wp2_with fail
 refine (cloneEv_any w A xs.length c xs HA.out (by have := HN.out; omega)).mono ?_
 rintro r w1 ⟨A1, c1, rfl, o1, n1, h1⟩
 have O1 := h_ o1
 have N1 := h_ n1
 have C1 := h_ h1
 have L1 := h_ (o1.lt_)
 clear o1 n1 h1
 obtain ⟨w2, hw, hc, b2⟩ := news1 w1 (.cells #[.slice A1 xs.length c1] 22)
 have W2 := h_ hw
 have B2 := h_ b2
 have NE : Hid (w1.heap.size ∉ blkOf A1) := h_ (notin_hi L1.out (Nat.le_refl _))
 replace O1 := h_ (O1.out.chg hc (by simp))
 replace C1 := h_ (C1.out.trans hc)
 clear hw hc b2
 go_upto_region 2 with fail
 rw [← W2.out]
 generalize w1.heap.size = gp at *
 clear W2
 have p0 := ce1 B2.out
 go_wp2_with fail
 refine (sortp_any (R := evTy) Tryz.llLaysE06 Tryz.isAgg40 Tryz.sizeOf40 cmpEv swoEv 54 (enters_of Tryz.func54 (by kernel_rfl) rfl) evcmp_says w2 A1 c1 xs O1.out (by have := HN.out; omega)).mono ?_
 rintro r w3 ⟨rfl, ms, hp, hs, o2, h2⟩
 have RO := h_ o2
 replace B2 := h_ (h2.at_ B2.out NE.out)
 replace C1 := h_ (C1.out.trans' h2 fun i hi => .inr (blkOf_new N1.out i hi))
 have ML : ms.length = xs.length := hp.length_eq
 have UP : Hid (UpE ms) := h_ (hs.imp (fun {x y} q => by
  rw [ltEv, decide_eq_false_iff_not] at q
  exact q))
 obtain ⟨fs, hfp, hr⟩ := HX.out.perm hp
 have RX := h_ (hr.chg C1.out)
 have RF : Hid (FitE w3 ms) := h_ (fun x hx => (HF.out x (hp.mem_iff.1 hx)).chg C1.out)
 have CE : Hid (closedE es = closedE fs) := h_ (closed_perm hfp.symm)
 have ES : Hid (∀ e ∈ fs, EvSm e) := h_ (fun e he => HS.out e (hfp.mem_iff.1 he))
 have MN : Hid (ms.length ≤ 100000) := h_ (by rw [ML]; exact HN.out)
 rw [← ML] at B2 ⊢
 clear hp hs o2 h2 O1 hfp hr p0 HX HF HS HN ML HA N1 L1 NE
 have p0 := ce1 B2.out
 go_wp2; clear p0
 go_loopw [4, 12] (fun v4 v12 wr => ∃ (k : Nat), k ≤ ms.length ∧ v12 = .int .i64 k ∧ Hid (okAll (fs.take k) = true) ∧ Hid (∀ (p : Nat) (a b : EvT), p + 1 < k → ms[p]? = some a → ms[p + 1]? = some b → ¬ (a.n = b.n ∧ a.s = b.s)) ∧ Hid (Chg [] w3 wr)) (fun _ v12 _ => ms.length - (RowKit.intOf v12).toNat)
 case atStart => exact ⟨0, Nat.zero_le _, rfl, h_ rfl, h_ (fun p a b h => absurd h (by omega)), Chg.refl _ _⟩
 case round =>
  obtain ⟨k, hk, rfl, OKK, AP, PC⟩ := hrel
  have j0 : (0 : Int) ≤ (k : Int) := by omega
  by_cases hlt : k < ms.length
  ·
   have j1 : (k : Int) < (ms.length : Int) := by omega
   have j3 : IntKind.i64.wrap ((k : Int) + 1) = (k : Int) + 1 := IntWalk.i64_in _ (by have := MN.out; omega)
   obtain ⟨g3, o3, eA, _⟩ := RO.out.reads.line (by omega)
   have eo : o3 = 0 := by
    rcases RO.out.shape with ⟨h, _⟩ | ⟨g', h, _⟩
    ·
     rw [h] at eA; cases eA
    ·
     rw [h] at eA; cases eA; rfl
   subst eo; subst eA
   obtain ⟨x, e, ex, ee, rx⟩ := RX.out.at_ hlt
   obtain ⟨z0, z1, z2, z3, z4, z5, z6⟩ := evCells (RO.out.reads.chg PC.out (by simp)) ex
   simp only [Nat.zero_add] at z0 z1 z2 z3 z4 z5 z6
   have EX := h_ ex
   have EE := h_ ee
   have RX1 := h_ rx
   have ES1 := h_ (ES.out e (List.mem_of_getElem? ee))
   clear ex ee rx
   obtain ⟨w5, hw5, c5, b5⟩ := news1 wr (.cells #[.int .i64 x.n, .int .i64 x.s, .string x.p, .int .i64 x.k, .int .i64 x.m, .slice x.A x.l x.c, .slice x.B x.bl x.bc] 40)
   have W5 := h_ hw5
   have B5 := h_ b5
   replace PC := h_ (PC.out.trans c5)
   clear hw5 c5 b5
   go_upto_region 6 with fail
   rw [← W5.out]
   generalize wr.heap.size = g6 at *
   clear W5 z0 z1 z2 z3 z4 z5 z6
   have P5 := h_ (PC.out.at_ B2.out (by simp))
   have HB : Hid (∀ w', Chg [] w5 w' → (w'.cell? ⟨g6, 0, none⟩ = some (.int .i64 x.n) ∧ w'.cell? ⟨g6, 1, none⟩ = some (.int .i64 x.s) ∧ w'.cell? ⟨g6, 2, none⟩ = some (.string x.p) ∧ w'.cell? ⟨g6, 3, none⟩ = some (.int .i64 x.k) ∧ w'.cell? ⟨g6, 4, none⟩ = some (.int .i64 x.m) ∧ w'.cell? ⟨g6, 5, none⟩ = some (.slice x.A x.l x.c) ∧ w'.cell? ⟨g6, 6, none⟩ = some (.slice x.B x.bl x.bc)) ∧ w'.cell? ⟨gp, 0, none⟩ = some (.slice (some ⟨g3, 0, none⟩) ms.length c1)) := h_ (fun w' hc => by
    have b := hc.at_ B5.out (by simp)
    exact ⟨⟨cell_of b 0, cell_of b 1, cell_of b 2, cell_of b 3, cell_of b 4, cell_of b 5, cell_of b 6⟩, cell_of (hc.at_ P5.out (by simp)) 0⟩)
   have HR : Hid (∀ w', Chg [] w5 w' → ∀ y, ms[k - 1]? = some y → w'.cell? ⟨g3, (k - 1) * 7, none⟩ = some (.int .i64 y.n) ∧ w'.cell? ⟨g3, (k - 1) * 7 + 1, none⟩ = some (.int .i64 y.s)) := h_ (fun w' hc y hy => by
    have q := evCells (RO.out.reads.chg (PC.out.trans hc) (by simp)) hy
    simp only [Nat.zero_add] at q
    exact ⟨q.1, q.2.1⟩)
   have CHK : Hid (∀ w', Chg [] w5 w' → Calls Tryz.prog 56 #[.agg #[.int .i64 x.n, .int .i64 x.s, .string x.p, .int .i64 x.k, .int .i64 x.m, .slice x.A x.l x.c, .slice x.B x.bl x.bc]] w' fun r w2 => r = .returned (.int .i64 (chkEv e)) ∧ Chg [] w' w2) := h_ (fun w' hc => evcheck_any w' x e (RX1.out.chg (PC.out.trans hc)) ES1.out)
   rcases chkEv_two e with e1 | e1
   rotate_left
   ·
    have NO : Hid (closedE fs = false) := h_ (closed_no_chk EE.out (by omega))
    refine wp_region_held_drew (S := fun w' => Chg [] w5 w') (by kernel_rfl) (Chg.refl [] w5).drew (fun hHeld => ?_)
    refine sy 0 17 rfl rfl ?_ (hy := by (intro w hSw; (try dsimp only at hSw); have hq := HB.out _ hSw; obtain ⟨⟨q0, q1, q2, q3, q4, q5, q6⟩, q7⟩ := hq; go_simp; try with_reducible rfl))
    try simp only [Act.put, sA, s0, s1]
    refine on1 1 rfl (fun K hK => ?_)
    go_simp
    refine (CHK.out _ hHeld).mono ?_
    rintro r w9 ⟨rfl, hc⟩
    rw [e1]
    have C9 := h_ (hHeld.trans hc)
    clear hc hHeld
    refine hK.out _ _ C9.out (fun hHeld => ?_)
    clear hK K; try simp only [Act.put, sA, s0, s1]
    refine sy 2 19 rfl rfl ?_; try simp only [Act.put, sA, s0, s1]
    refine sy 3 20 rfl rfl ?_; try simp only [Act.put, sA, s0, s1]
    refine sn 4 21 rfl rfl ?_; try simp only [Act.put, sA, s0, s1]
    refine sn 5 22 rfl rfl ?_; try simp only [Act.put, sA, s0, s1]
    refine sn 6 23 rfl rfl ?_; try simp only [Act.put, sA, s0, s1]
    refine sn 7 24 rfl rfl ?_; try simp only [Act.put, sA, s0, s1]
    refine sn 8 25 rfl rfl ?_; try simp only [Act.put, sA, s0, s1]
    refine sn 9 26 rfl rfl ?_; try simp only [Act.put, sA, s0, s1]
    refine sn 10 27 rfl rfl ?_; try simp only [Act.put, sA, s0, s1]
    refine sn 11 28 rfl rfl ?_; try simp only [Act.put, sA, s0, s1]
    refine sn 12 29 rfl rfl ?_; try simp only [Act.put, sA, s0, s1]
    refine sn 13 30 rfl rfl ?_; try simp only [Act.put, sA, s0, s1]
    refine sn 14 31 rfl rfl ?_; try simp only [Act.put, sA, s0, s1]
    refine sn 15 32 rfl rfl ?_; try simp only [Act.put, sA, s0, s1]
    refine sn 16 33 rfl rfl ?_; try simp only [Act.put, sA, s0, s1]
    refine sy 17 34 rfl rfl ?_; try simp only [Act.put, sA, s0, s1]
    refine wpAnyH_done (by kernel_rfl) ?_ _; clear hHeld HB HR CHK; go_wp2; go_ret
    rw [CE.out, NO.out]
    exact ⟨rfl, C1.out.trans (PC.out.trans C9.out)⟩
   have OT : Hid (okAll (fs.take (k + 1)) = true) := h_ (by rw [okAll_take EE.out, OKK.out, e1]; rfl)
   by_cases k0 : k = 0
   ·
    subst k0
    have AT : Hid (∀ (p : Nat) (a b : EvT), p + 1 < 0 + 1 → ms[p]? = some a → ms[p + 1]? = some b → ¬ (a.n = b.n ∧ a.s = b.s)) := h_ (fun p a b h => absurd h (by omega))
    refine wp_region_held_drew (S := fun w' => Chg [] w5 w') (by kernel_rfl) (Chg.refl [] w5).drew (fun hHeld => ?_)
    refine sy 0 17 rfl rfl ?_ (hy := by (intro w hSw; (try dsimp only at hSw); have hq := HB.out _ hSw; obtain ⟨⟨q0, q1, q2, q3, q4, q5, q6⟩, q7⟩ := hq; go_simp; try with_reducible rfl))
    try simp only [Act.put, sA, s0, s1]
    refine on1 1 rfl (fun K hK => ?_)
    go_simp
    refine (CHK.out _ hHeld).mono ?_
    rintro r w9 ⟨rfl, hc⟩
    rw [e1]
    have C9 := h_ (hHeld.trans hc)
    clear hc hHeld
    refine hK.out _ _ C9.out (fun hHeld => ?_)
    clear hK K; try simp only [Act.put, sA, s0, s1]
    refine sy 2 19 rfl rfl ?_; try simp only [Act.put, sA, s0, s1]
    refine sy 3 20 rfl rfl ?_; try simp only [Act.put, sA, s0, s1]
    refine sy 4 21 rfl rfl ?_; try simp only [Act.put, sA, s0, s1]
    refine sy 5 22 rfl rfl ?_; try simp only [Act.put, sA, s0, s1]
    refine sy 6 23 rfl rfl ?_; try simp only [Act.put, sA, s0, s1]
    refine sn 7 24 rfl rfl ?_; try simp only [Act.put, sA, s0, s1]
    refine sn 8 25 rfl rfl ?_; try simp only [Act.put, sA, s0, s1]
    refine sn 9 26 rfl rfl ?_; try simp only [Act.put, sA, s0, s1]
    refine sn 10 27 rfl rfl ?_; try simp only [Act.put, sA, s0, s1]
    refine sn 11 28 rfl rfl ?_; try simp only [Act.put, sA, s0, s1]
    refine sn 12 29 rfl rfl ?_; try simp only [Act.put, sA, s0, s1]
    refine sn 13 30 rfl rfl ?_; try simp only [Act.put, sA, s0, s1]
    refine sn 14 31 rfl rfl ?_; try simp only [Act.put, sA, s0, s1]
    refine sn 15 32 rfl rfl ?_; try simp only [Act.put, sA, s0, s1]
    refine sy 16 33 rfl rfl ?_; try simp only [Act.put, sA, s0, s1]
    refine sy 17 34 rfl rfl ?_; try simp only [Act.put, sA, s0, s1]
    refine wpAnyH_done (by kernel_rfl) ?_ _; clear hHeld HB HR CHK
    have RC9 := h_ (PC.out.trans C9.out)
    go_wp2; go_round
    case rel => exact ⟨0 + 1, by omega, by go_num, OT, AT, RC9⟩
    case measure => simp [RowKit.intOf]; omega
   obtain ⟨y, hy⟩ : ∃ y, ms[k - 1]? = some y := ⟨_, List.getElem?_eq_getElem (by omega)⟩
   have EY := h_ hy
   clear hy
   have g1 : (0 : Int) < (k : Int) := by omega
   have g2 : 0 < k := by omega
   have g3' : decide ((0 : Int) < (k : Int)) = true := by simp; omega
   have g4 : decide (0 < k) = true := by simp; omega
   have w1' : IntKind.i64.wrap ((k : Int) - 1) = ((k - 1 : Nat) : Int) := by rw [IntWalk.i64_in _ (by have := MN.out; omega)]; omega
   have g5 : (0 : Int) ≤ ((k - 1 : Nat) : Int) := by omega
   have g6' : ((k - 1 : Nat) : Int) < (ms.length : Int) := by omega
   have g7 : k - 1 < ms.length := by omega
   by_cases d1 : y.n = x.n ∧ y.s = x.s
   ·
    have NO : Hid (closedE fs = false) := h_ (by
     obtain ⟨y2, f, ey, ef, ry⟩ := RX.out.at_ g7
     rw [EY.out] at ey
     cases ey
     exact closed_no_two ef EE.out (by omega) (fun q => q.1 (by rw [← ry.n, ← ry.s, ← RX1.out.n, ← RX1.out.s]; exact d1)))
    have dq : ((y.n == x.n) : Bool) = true := by simpa using d1.1
    have dr : ((y.s == x.s) : Bool) = true := by simpa using d1.2
    refine wp_region_held_drew (S := fun w' => Chg [] w5 w') (by kernel_rfl) (Chg.refl [] w5).drew (fun hHeld => ?_)
    refine sy 0 17 rfl rfl ?_ (hy := by (intro w hSw; (try dsimp only at hSw); have hq := HB.out _ hSw; obtain ⟨⟨q0, q1, q2, q3, q4, q5, q6⟩, q7⟩ := hq; go_simp; try with_reducible rfl))
    try simp only [Act.put, sA, s0, s1]
    refine on1 1 rfl (fun K hK => ?_)
    go_simp
    refine (CHK.out _ hHeld).mono ?_
    rintro r w9 ⟨rfl, hc⟩
    rw [e1]
    have C9 := h_ (hHeld.trans hc)
    clear hc hHeld
    refine hK.out _ _ C9.out (fun hHeld => ?_)
    clear hK K; try simp only [Act.put, sA, s0, s1]
    refine sy 2 19 rfl rfl ?_; try simp only [Act.put, sA, s0, s1]
    refine sy 3 20 rfl rfl ?_; try simp only [Act.put, sA, s0, s1]
    refine sy 4 21 rfl rfl ?_; try simp only [Act.put, sA, s0, s1]
    refine sy 5 22 rfl rfl ?_; try simp only [Act.put, sA, s0, s1]
    refine sy 6 23 rfl rfl ?_; try simp only [Act.put, sA, s0, s1]
    refine sy 7 24 rfl rfl ?_ (hy := by (intro w hSw; (try dsimp only at hSw); have hq := HB.out _ hSw; obtain ⟨⟨q0, q1, q2, q3, q4, q5, q6⟩, q7⟩ := hq; go_simp; try with_reducible rfl))
    try simp only [Act.put, sA, s0, s1]
    refine sy 8 25 rfl rfl ?_; try simp only [Act.put, sA, s0, s1]
    refine sy 9 26 rfl rfl ?_; try simp only [Act.put, sA, s0, s1]
    refine sy 10 27 rfl rfl ?_; try simp only [Act.put, sA, s0, s1]
    refine sy 11 28 rfl rfl ?_; try simp only [Act.put, sA, s0, s1]
    refine sy 12 29 rfl rfl ?_ (hy := by (intro w hSw; (try dsimp only at hSw); have hq := HR.out _ hSw y EY.out; obtain ⟨p0, p1⟩ := hq; go_simp; try with_reducible rfl))
    try simp only [Act.put, sA, s0, s1]
    refine sy 13 30 rfl rfl ?_; try simp only [Act.put, sA, s0, s1]
    refine sy 14 31 rfl rfl ?_ (hy := by (intro w hSw; (try dsimp only at hSw); have hq := HB.out _ hSw; obtain ⟨⟨q0, q1, q2, q3, q4, q5, q6⟩, q7⟩ := hq; go_simp; try with_reducible rfl))
    try simp only [Act.put, sA, s0, s1]
    refine sy 15 32 rfl rfl ?_; try simp only [Act.put, sA, s0, s1]
    refine sy 16 33 rfl rfl ?_; try simp only [Act.put, sA, s0, s1]
    refine sy 17 34 rfl rfl ?_; try simp only [Act.put, sA, s0, s1]
    refine wpAnyH_done (by kernel_rfl) ?_ _; clear hHeld HB HR CHK; go_wp2; go_ret
    rw [CE.out, NO.out]
    exact ⟨rfl, C1.out.trans (PC.out.trans C9.out)⟩
   have AT : Hid (∀ (p : Nat) (a b : EvT), p + 1 < k + 1 → ms[p]? = some a → ms[p + 1]? = some b → ¬ (a.n = b.n ∧ a.s = b.s)) := h_ (fun p a b h ha hb => by
    by_cases q : p + 1 = k
    ·
     obtain rfl : p = k - 1 := by omega
     rw [EY.out] at ha
     cases ha
     rw [show k - 1 + 1 = k by omega, EX.out] at hb
     cases hb
     exact d1
    ·
     exact AP.out p a b (by omega) ha hb)
   by_cases d2 : y.n = x.n
   ·
    have dq : ((y.n == x.n) : Bool) = true := by simpa using d2
    have dr : ((y.s == x.s) : Bool) = false := by simpa using (fun q => d1 ⟨d2, q⟩)
    refine wp_region_held_drew (S := fun w' => Chg [] w5 w') (by kernel_rfl) (Chg.refl [] w5).drew (fun hHeld => ?_)
    refine sy 0 17 rfl rfl ?_ (hy := by (intro w hSw; (try dsimp only at hSw); have hq := HB.out _ hSw; obtain ⟨⟨q0, q1, q2, q3, q4, q5, q6⟩, q7⟩ := hq; go_simp; try with_reducible rfl))
    try simp only [Act.put, sA, s0, s1]
    refine on1 1 rfl (fun K hK => ?_)
    go_simp
    refine (CHK.out _ hHeld).mono ?_
    rintro r w9 ⟨rfl, hc⟩
    rw [e1]
    have C9 := h_ (hHeld.trans hc)
    clear hc hHeld
    refine hK.out _ _ C9.out (fun hHeld => ?_)
    clear hK K; try simp only [Act.put, sA, s0, s1]
    refine sy 2 19 rfl rfl ?_; try simp only [Act.put, sA, s0, s1]
    refine sy 3 20 rfl rfl ?_; try simp only [Act.put, sA, s0, s1]
    refine sy 4 21 rfl rfl ?_; try simp only [Act.put, sA, s0, s1]
    refine sy 5 22 rfl rfl ?_; try simp only [Act.put, sA, s0, s1]
    refine sy 6 23 rfl rfl ?_; try simp only [Act.put, sA, s0, s1]
    refine sy 7 24 rfl rfl ?_ (hy := by (intro w hSw; (try dsimp only at hSw); have hq := HB.out _ hSw; obtain ⟨⟨q0, q1, q2, q3, q4, q5, q6⟩, q7⟩ := hq; go_simp; try with_reducible rfl))
    try simp only [Act.put, sA, s0, s1]
    refine sy 8 25 rfl rfl ?_; try simp only [Act.put, sA, s0, s1]
    refine sy 9 26 rfl rfl ?_; try simp only [Act.put, sA, s0, s1]
    refine sy 10 27 rfl rfl ?_; try simp only [Act.put, sA, s0, s1]
    refine sy 11 28 rfl rfl ?_; try simp only [Act.put, sA, s0, s1]
    refine sy 12 29 rfl rfl ?_ (hy := by (intro w hSw; (try dsimp only at hSw); have hq := HR.out _ hSw y EY.out; obtain ⟨p0, p1⟩ := hq; go_simp; try with_reducible rfl))
    try simp only [Act.put, sA, s0, s1]
    refine sy 13 30 rfl rfl ?_; try simp only [Act.put, sA, s0, s1]
    refine sy 14 31 rfl rfl ?_ (hy := by (intro w hSw; (try dsimp only at hSw); have hq := HB.out _ hSw; obtain ⟨⟨q0, q1, q2, q3, q4, q5, q6⟩, q7⟩ := hq; go_simp; try with_reducible rfl))
    try simp only [Act.put, sA, s0, s1]
    refine sy 15 32 rfl rfl ?_; try simp only [Act.put, sA, s0, s1]
    refine sy 16 33 rfl rfl ?_; try simp only [Act.put, sA, s0, s1]
    refine sy 17 34 rfl rfl ?_; try simp only [Act.put, sA, s0, s1]
    refine wpAnyH_done (by kernel_rfl) ?_ _; clear hHeld HB HR CHK
    have RC9 := h_ (PC.out.trans C9.out)
    go_wp2; go_round
    case rel => exact ⟨k + 1, by omega, by go_num, OT, AT, RC9⟩
    case measure => simp [RowKit.intOf]; omega
   have dq : ((y.n == x.n) : Bool) = false := by simpa using d2
   refine wp_region_held_drew (S := fun w' => Chg [] w5 w') (by kernel_rfl) (Chg.refl [] w5).drew (fun hHeld => ?_)
   refine sy 0 17 rfl rfl ?_ (hy := by (intro w hSw; (try dsimp only at hSw); have hq := HB.out _ hSw; obtain ⟨⟨q0, q1, q2, q3, q4, q5, q6⟩, q7⟩ := hq; go_simp; try with_reducible rfl))
   try simp only [Act.put, sA, s0, s1]
   refine on1 1 rfl (fun K hK => ?_)
   go_simp
   refine (CHK.out _ hHeld).mono ?_
   rintro r w9 ⟨rfl, hc⟩
   rw [e1]
   have C9 := h_ (hHeld.trans hc)
   clear hc hHeld
   refine hK.out _ _ C9.out (fun hHeld => ?_)
   clear hK K; try simp only [Act.put, sA, s0, s1]
   refine sy 2 19 rfl rfl ?_; try simp only [Act.put, sA, s0, s1]
   refine sy 3 20 rfl rfl ?_; try simp only [Act.put, sA, s0, s1]
   refine sy 4 21 rfl rfl ?_; try simp only [Act.put, sA, s0, s1]
   refine sy 5 22 rfl rfl ?_; try simp only [Act.put, sA, s0, s1]
   refine sy 6 23 rfl rfl ?_; try simp only [Act.put, sA, s0, s1]
   refine sy 7 24 rfl rfl ?_ (hy := by (intro w hSw; (try dsimp only at hSw); have hq := HB.out _ hSw; obtain ⟨⟨q0, q1, q2, q3, q4, q5, q6⟩, q7⟩ := hq; go_simp; try with_reducible rfl))
   try simp only [Act.put, sA, s0, s1]
   refine sy 8 25 rfl rfl ?_; try simp only [Act.put, sA, s0, s1]
   refine sy 9 26 rfl rfl ?_; try simp only [Act.put, sA, s0, s1]
   refine sy 10 27 rfl rfl ?_; try simp only [Act.put, sA, s0, s1]
   refine sy 11 28 rfl rfl ?_; try simp only [Act.put, sA, s0, s1]
   refine sy 12 29 rfl rfl ?_ (hy := by (intro w hSw; (try dsimp only at hSw); have hq := HR.out _ hSw y EY.out; obtain ⟨p0, p1⟩ := hq; go_simp; try with_reducible rfl))
   try simp only [Act.put, sA, s0, s1]
   refine sy 13 30 rfl rfl ?_; try simp only [Act.put, sA, s0, s1]
   refine sy 14 31 rfl rfl ?_ (hy := by (intro w hSw; (try dsimp only at hSw); have hq := HB.out _ hSw; obtain ⟨⟨q0, q1, q2, q3, q4, q5, q6⟩, q7⟩ := hq; go_simp; try with_reducible rfl))
   try simp only [Act.put, sA, s0, s1]
   refine sy 15 32 rfl rfl ?_; try simp only [Act.put, sA, s0, s1]
   refine sy 16 33 rfl rfl ?_; try simp only [Act.put, sA, s0, s1]
   refine sy 17 34 rfl rfl ?_; try simp only [Act.put, sA, s0, s1]
   refine wpAnyH_done (by kernel_rfl) ?_ _; clear hHeld HB HR CHK
   have RC9 := h_ (PC.out.trans C9.out)
   go_wp2; go_round
   case rel => exact ⟨k + 1, by omega, by go_num, OT, AT, RC9⟩
   case measure => simp [RowKit.intOf]; omega
  ·
   obtain rfl : k = ms.length := by omega
   have j1 : ¬ (ms.length : Int) < (ms.length : Int) := by omega
   have ET : fs.take ms.length = fs := by rw [RX.out.1]; exact List.take_length
   rw [ET] at OKK
   clear ET
   have AN : Hid (closedE fs = fs.all (bringsE fs)) := h_ (closed_brings OKK.out (up_apart RX.out UP.out (fun p a b ha hb => AP.out p a b ((List.getElem?_eq_some_iff.1 hb).1) ha hb)))
   have P5 := h_ (PC.out.at_ B2.out (by simp))
   have p0 := ce1 P5.out
   have SQ : Hid (∀ e ∈ fs, e.q.length ≤ 140737488351232) := h_ (fun e he => (ES.out e he).2.2)
   go_wp2_with fail
   refine (evcontains_any wr gp A1 c1 ms fs P5.out (RO.out.reads.chg PC.out (by simp)) (RX.out.chg PC.out) UP.out (RF.out.chg PC.out) MN.out SQ.out).mono ?_
   rintro r w4 ⟨rfl, hc⟩
   rw [← AN.out]
   have C4 := h_ ((C1.out.trans PC.out).trans hc)
   clear hc p0 AN; go_wp2; go_ret
   rw [CE.out]
   exact ⟨by simp, C4.out⟩
end
section
open Go.RowKit Go.Lib


theorem OwnEs.perm {w : World} {lo hi : Nat} {G G' : Option Addr} {zs ys : List EvT} {es : List EvP} (h : OwnEs w lo hi G zs es) (hp : ys.Perm zs) (hG : ∀ b, G' = some b → hi ≤ b.block) : ∃ fs, fs.Perm es ∧ OwnEs w lo hi G' ys fs := by
 obtain ⟨fs, hl, hz⟩ := perm_zip hp es h.ev.1.symm
 have hm : ys.length = zs.length := hp.length_eq
 have at2 : ∀ (i : Nat) (x : EvT) (e : EvP), ys[i]? = some x → fs[i]? = some e → ∃ j, zs[j]? = some x ∧ es[j]? = some e := fun i x e hx he => by
  have hi : (x, e) ∈ ys.zip fs := List.mem_of_getElem? (i := i) (by rw [List.getElem?_zip_eq_some]; exact ⟨hx, he⟩)
  obtain ⟨j, hj⟩ := List.getElem?_of_mem (hz.mem_iff.1 hi)
  rw [List.getElem?_zip_eq_some] at hj
  exact ⟨j, hj.1, hj.2⟩
 refine ⟨fs, ?_, ⟨hl.symm, fun i x e hx he => ?_⟩, fun i x e hx he => ?_, fun y hy a ha => ?_, fun y hy => h.two y (hp.mem_iff.1 hy), (hp.pairwise_iff (fun {a b} q c d hc hd r => q d c hd hc r.symm)).2 h.apart⟩
 ·
  have := hz.map Prod.snd
  rwa [List.map_snd_zip (by omega), List.map_snd_zip (by rw [h.ev.1]; exact Nat.le_refl _)] at this
 ·
  obtain ⟨j, a, b⟩ := at2 i x e hx he
  exact h.ev.2 j x e a b
 ·
  obtain ⟨j, a, b⟩ := at2 i x e hx he
  exact h.own j x e a b
 ·
  obtain ⟨a1, a2, a3⟩ := h.at_ y (hp.mem_iff.1 hy) a ha
  exact ⟨a1, a2, fun b hb q => by have := hG b hb; omega⟩
theorem sorted_fs {w : World} {ys : List EvT} {fs l : List EvP} (h : EvsR w ys fs) (hd : l.Pairwise dotNe) (hp : fs.Perm l) (hs : ys.Pairwise (fun x y => ltOf cmpEv y x = false)) : fs = byDt l := by
 refine byDt_is hd hp ?_
 rw [List.pairwise_iff_getElem] at hs ⊢
 intro i j hi hj hij
 have hl := h.1
 have q := hs i j (by omega) (by omega) hij
 have r1 := h.2 i _ _ (List.getElem?_eq_getElem (show i < ys.length by omega)) (List.getElem?_eq_getElem hi)
 have r2 := h.2 j _ _ (List.getElem?_eq_getElem (show j < ys.length by omega)) (List.getElem?_eq_getElem hj)
 rw [ltEv, decide_eq_false_iff_not] at q
 unfold LtEv
 rw [← r1.n, ← r1.s, ← r2.n, ← r2.s]
 exact q

set_option maxRecDepth 100000 in
theorem edplan_any (w : World) (A : Option Addr) (c : Nat) (xs : List EvT) (es : List EvP) (n : Int) (B : Option Addr) (bc : Nat) (ks : List Sp) (h : RdK evTy w A xs.length xs) (hc : xs.length ≤ c) (ho : xs = [] ∨ ∀ a, A = some a → a.block < w.heap.size) (hx : EvsR w xs es) (hn : xs.length ≤ 1000) (hs : ∀ e ∈ es, EvSm e ∧ e.q.length ≤ 100000) (hk : RdK spanTy w B ks.length ks) (hkn : ks.length ≤ 140737488351232) :
  Calls Tryz.prog 9 #[.slice A xs.length c, .agg #[.int .i64 n, .slice B ks.length bc]] w fun r w' => ∃ (A' : Option Addr) (c' : Nat) (zs : List EvT), r = .returned (.slice A' zs.length c') ∧ EsF w' w.heap.size w'.heap.size A' c' zs (planA es n ks) ∧ Chg [] w w' := by
 obtain ⟨w1, hw1, c1, b1⟩ := news1 w (.cells #[.int .i64 n, .slice B ks.length bc] 25)
 have W1 := h_ hw1
 have C1 := h_ c1
 have B1 := h_ b1
 have CK := h_ (stcheck_any w1 A c xs es (h.chg c1 (by simp)) hc (ho.imp id (fun q a ha => Nat.lt_of_lt_of_le (q a ha) c1.size)) (hx.chg c1) (by omega) (fun e he => (hs e he).1))
 have EC : Hid (∀ w', Chg [] w1 w' → Calls Tryz.prog 32 #[.agg #[.int .i64 n, .slice B ks.length bc]] w' fun r w2 => r = .returned (.int .i64 (chkA n ks)) ∧ Chg [] w' w2) := h_ (fun w' hc => edcheck_any w' n B ks.length bc ks (hk.chg (c1.trans hc) (by simp)) hkn)
 have MI : Hid (∀ w', Chg [] w1 w' → Calls Tryz.prog 35 #[.slice A xs.length c, .slice B ks.length bc] w' fun r w2 => ∃ (A' : Option Addr) (c' : Nat) (zs : List EvT), r = .returned (.slice A' zs.length c') ∧ EsF w2 w'.heap.size w2.heap.size A' c' zs (es.filter (fun e => !hasE ks e.n e.s)) ∧ Chg [] w' w2) := h_ (fun w' hc => stmissing_any w' A c xs es B bc ks ((h.chg c1 (by simp)).chg hc (by simp)) ((hx.chg c1).chg hc) (by omega) (hk.chg (c1.trans hc) (by simp)) hkn hs)
 have HN := h_ (show es.length ≤ 1000 by rw [← hx.1]; exact hn)
 clear hw1 c1 b1 h hc ho hx hn hs hk hkn
 obtain ⟨R, hR⟩ : ∃ R, planA es n ks = R := ⟨_, rfl⟩
 rw [hR]
 have HR := h_ hR
 clear hR
 go_enter Tryz.func9, Tryz.ntmps9
 go_upto_region 1 with fail
 rw [← W1.out]
 obtain ⟨g1, hg1⟩ : ∃ g, w.heap.size = g := ⟨_, rfl⟩
 have HG := h_ hg1
 rw [hg1] at B1 ⊢
 clear hg1; go_wp2_with fail
 refine CK.out.mono ?_
 rintro r w2 ⟨rfl, hc⟩
 have D2 := h_ hc
 replace B1 := h_ (hc.at_ B1.out (by simp))
 clear hc CK
 have NO : Hid (¬ (StOk es ∧ chkA n ks = 0) → R = []) := h_ (fun q => by rw [← HR.out]; unfold planA; rw [if_neg q])
 rcases stE_two es with e1 | e1
 rotate_left
 ·
  obtain rfl : R = [] := NO.out (fun q => by rw [stE_zero.2 q.1] at e1; cases e1)
  rw [e1]
  clear e1 HR NO; go_wp2; go_ret
  exact ⟨none, 0, [], rfl, EsF.nil _ _ _, C1.out.trans D2.out⟩
 have S1 := h_ (stE_zero.1 e1)
 rw [e1]
 clear e1
 obtain ⟨y0, y1⟩ := ce2 B1.out
 go_wp2_with fail
 refine (EC.out w2 D2.out).mono ?_
 rintro r w3 ⟨rfl, hc⟩
 have D3 := h_ (D2.out.trans hc)
 replace B1 := h_ (hc.at_ B1.out (by simp))
 clear hc EC y0 y1
 rcases chkA_two n ks with e1 | e1
 rotate_left
 ·
  obtain rfl : R = [] := NO.out (fun q => by rw [q.2] at e1; cases e1)
  rw [e1]
  clear e1 HR NO; go_wp2; go_ret
  exact ⟨none, 0, [], rfl, EsF.nil _ _ _, C1.out.trans D3.out⟩
 have YES : Hid (R = byDt (es.filter (fun e => !hasE ks e.n e.s))) := h_ (by rw [← HR.out]; unfold planA; rw [if_pos ⟨S1.out, e1⟩])
 rw [e1]
 clear e1 HR NO
 obtain ⟨y0, y1⟩ := ce2 B1.out
 go_wp2_with fail
 refine (MI.out w3 D3.out).mono ?_
 rintro r w4 ⟨A4, c4, zs, rfl, he, hc⟩
 have E4 := h_ he
 have D4 := h_ (D3.out.trans hc)
 have SZ : Hid (zs.length ≤ 1000) := h_ (by rw [he.all.ev.1]; exact Nat.le_trans (List.length_filter_le _ _) HN.out)
 have S34 := h_ hc.size
 clear he hc MI y0 y1; go_wp2_with fail
 refine (valuesev_any w4 A4 zs.length c4).mono ?_
 rintro r w5 ⟨rfl, hw5⟩
 have D45 : Chg [] w4 w5 := by rw [hw5]; exact (Chg.refl [] w4).alloc _
 have b5 : w5.heap[w4.heap.size]? = some (.cells #[.slice A4 zs.length c4] 22 (0, 0)) := by rw [hw5]; exact heap_alloc_new w4 _
 have SF := h_ (sortedfunc_any w5 w4.heap.size A4 c4 zs (E4.out.row.reads.chg D45 (by simp)) (.inr (fun a ha => by have := E4.out.row.lt_ a ha; have := D45.size; omega)) (by have := SZ.out; omega) b5)
 have E5 := h_ (E4.out.chg D45 (by simp))
 have D5 := h_ (D4.out.trans D45)
 have S45 := h_ D45.size
 clear hw5 D45 b5 D4; go_wp2_with fail
 refine SF.out.mono ?_
 rintro r w6 ⟨A6, c6, ys, rfl, hp, hs, ho, hnw, hc⟩
 have D6 := h_ (D5.out.trans hc)
 obtain ⟨fs, fp, of_⟩ := (E5.out.all.chg hc (by simp)).perm (G' := A6) hp (fun b hb => by have := hnw b hb; have := S45.out; omega)
 have EQ : Hid (R = fs) := h_ (by
  rw [YES.out]
  exact (sorted_fs of_.ev (S1.out.2.1.sublist List.filter_sublist) fp hs).symm)
 have LO : Hid (w.heap.size ≤ w3.heap.size) := h_ (C1.out.trans D3.out).size
 have F6 : Hid (EsF w6 w.heap.size w6.heap.size A6 c6 ys R) := h_ (by
  rw [EQ.out]
  have s5 := hc.size
  exact ⟨ho, fun a ha => ⟨by have := hnw a ha; have := LO.out; have := S34.out; have := S45.out; omega, ho.lt_ a ha⟩, (of_.low LO.out).mono (by have := S45.out; omega)⟩)
 clear hp hs ho hnw hc fp of_ SF E5 D5 E4 EQ YES; go_wp2; go_ret
 exact ⟨A6, c6, ys, rfl, F6.out, C1.out.trans D6.out⟩

set_option maxRecDepth 100000 in
theorem edagreed_any (w : World) (A : Option Addr) (c : Nat) (xs : List EvT) (es : List EvP) (n : Int) (B : Option Addr) (bc : Nat) (ks : List Sp) (h : RdK evTy w A xs.length xs) (hc : xs.length ≤ c) (ho : xs = [] ∨ ∀ a, A = some a → a.block < w.heap.size) (hx : EvsR w xs es) (hn : xs.length ≤ 1000) (hs : ∀ e ∈ es, EvSm e ∧ e.q.length ≤ 100000) (hk : RdK spanTy w B ks.length ks) (hkn : ks.length ≤ 140737488351232) :
  Calls Tryz.prog 17 #[.slice A xs.length c, .agg #[.int .i64 n, .slice B ks.length bc]] w fun r w' => r = .returned (.bool (agreedA es n ks)) ∧ Chg [] w w' := by
 obtain ⟨w1, hw1, c1, b1⟩ := news1 w (.cells #[.int .i64 n, .slice B ks.length bc] 25)
 have W1 := h_ hw1
 have C1 := h_ c1
 have B1 := h_ b1
 have CK := h_ (stcheck_any w1 A c xs es (h.chg c1 (by simp)) hc (ho.imp id (fun q a ha => Nat.lt_of_lt_of_le (q a ha) c1.size)) (hx.chg c1) (by omega) (fun e he => (hs e he).1))
 have EC : Hid (∀ w', Chg [] w1 w' → Calls Tryz.prog 32 #[.agg #[.int .i64 n, .slice B ks.length bc]] w' fun r w2 => r = .returned (.int .i64 (chkA n ks)) ∧ Chg [] w' w2) := h_ (fun w' hc => edcheck_any w' n B ks.length bc ks (hk.chg (c1.trans hc) (by simp)) hkn)
 have MI : Hid (∀ w', Chg [] w1 w' → Calls Tryz.prog 35 #[.slice A xs.length c, .slice B ks.length bc] w' fun r w2 => ∃ (A' : Option Addr) (c' : Nat) (zs : List EvT), r = .returned (.slice A' zs.length c') ∧ EsF w2 w'.heap.size w2.heap.size A' c' zs (es.filter (fun e => !hasE ks e.n e.s)) ∧ Chg [] w' w2) := h_ (fun w' hc => stmissing_any w' A c xs es B bc ks ((h.chg c1 (by simp)).chg hc (by simp)) ((hx.chg c1).chg hc) (by omega) (hk.chg (c1.trans hc) (by simp)) hkn hs)
 have HN := h_ (show es.length ≤ 1000 by rw [← hx.1]; exact hn)
 clear hw1 c1 b1 h hc ho hx hn hs hk hkn
 obtain ⟨R, hR⟩ : ∃ R, agreedA es n ks = R := ⟨_, rfl⟩
 rw [hR]
 have HR := h_ hR
 clear hR
 go_enter Tryz.func17, Tryz.ntmps17
 go_upto_region 1 with fail
 rw [← W1.out]
 obtain ⟨g1, hg1⟩ : ∃ g, w.heap.size = g := ⟨_, rfl⟩
 rw [hg1] at B1 ⊢
 clear hg1; go_wp2_with fail
 refine CK.out.mono ?_
 rintro r w2 ⟨rfl, hc⟩
 have D2 := h_ hc
 replace B1 := h_ (hc.at_ B1.out (by simp))
 clear hc CK
 have NO : Hid (¬ (StOk es ∧ chkA n ks = 0) → R = false) := h_ (fun q => by
  rw [← HR.out]
  unfold agreedA
  by_cases s : StOk es
  ·
   rw [decide_eq_false (fun r => q ⟨s, r⟩)]; simp
  ·
   rw [decide_eq_false s]; rfl)
 rcases stE_two es with e1 | e1
 rotate_left
 ·
  obtain rfl : R = false := NO.out (fun q => by rw [stE_zero.2 q.1] at e1; cases e1)
  rw [e1]
  clear e1 HR NO; go_wp2; go_ret
  exact ⟨rfl, C1.out.trans D2.out⟩
 have S1 := h_ (stE_zero.1 e1)
 rw [e1]
 clear e1
 obtain ⟨y0, y1⟩ := ce2 B1.out
 go_wp2_with fail
 refine (EC.out w2 D2.out).mono ?_
 rintro r w3 ⟨rfl, hc⟩
 have D3 := h_ (D2.out.trans hc)
 replace B1 := h_ (hc.at_ B1.out (by simp))
 clear hc EC y0 y1
 rcases chkA_two n ks with e1 | e1
 rotate_left
 ·
  obtain rfl : R = false := NO.out (fun q => by rw [q.2] at e1; cases e1)
  rw [e1]
  clear e1 HR NO; go_wp2; go_ret
  exact ⟨rfl, C1.out.trans D3.out⟩
 have YES : Hid (R = (es.filter (fun e => !hasE ks e.n e.s)).isEmpty) := h_ (by rw [← HR.out]; unfold agreedA; rw [decide_eq_true S1.out, decide_eq_true e1]; rfl)
 rw [e1]
 clear e1 HR NO
 obtain ⟨y0, y1⟩ := ce2 B1.out
 go_wp2_with fail
 refine (MI.out w3 D3.out).mono ?_
 rintro r w4 ⟨A4, c4, zs, rfl, he, hc⟩
 have D4 := h_ (D3.out.trans hc)
 have ZL : Hid (decide (zs.length = 0) = R) := h_ (by
  rw [YES.out, he.all.ev.1]
  cases es.filter (fun e => !hasE ks e.n e.s) <;> simp)
 clear he hc MI y0 y1 YES
 by_cases hz : zs.length = 0
 ·
  obtain rfl : R = true := by rw [← ZL.out, hz]; rfl
  rw [hz]
  clear hz ZL; go_wp2; go_ret
  exact ⟨rfl, C1.out.trans D4.out⟩
 ·
  obtain rfl : R = false := by rw [← ZL.out]; exact decide_eq_false hz
  have q0 : (((zs.length : Int)) == 0) = false := beq_eq_false_iff_ne.2 (by omega)
  have q1 : ¬ (zs.length : Int) = 0 := by omega
  clear ZL; go_wp2; go_ret
  exact ⟨rfl, C1.out.trans D4.out⟩
end
section
open Go.RowKit Go.Lib


set_option maxRecDepth 100000 in
theorem edidxdot_any (w : World) (A : Option Addr) (c : Nat) (ds : List (Int × Int)) (n s : Int) (h : RdK dotTy w A ds.length ds) (hn : ds.length ≤ 100000) :
  Calls Tryz.prog 83 #[.slice A ds.length c, .agg #[.int .i64 n, .int .i64 s]] w fun e w' => (∃ k : Int, e = .returned (.int .i64 k) ∧ (0 ≤ k ↔ (n, s) ∈ ds)) ∧ Chg [] w w' := by
 obtain ⟨w1, hw1, c1, b1⟩ := news1 w (.cells #[.int .i64 n, .int .i64 s] 35)
 have W1 := h_ hw1
 have B1 := h_ b1
 have C1 := h_ c1
 have HA := h_ h
 have HN := h_ hn
 clear hw1 b1 c1 h hn
 go_enter Tryz.func83, Tryz.ntmps83
 go_upto_region 1 with fail
 rw [← W1.out]
 obtain ⟨g1, hg1⟩ : ∃ g, w.heap.size = g := ⟨_, rfl⟩
 rw [hg1] at B1 ⊢
 clear hg1; go_wp2
 go_loopw [8, 5] (fun v8 v5 wr => ∃ k : Nat, k ≤ ds.length ∧ v8 = .int .i64 (k : Int) ∧ Hid ((n, s) ∉ ds.take k) ∧ Hid (Chg [] w1 wr)) (fun v8 _ _ => ds.length - (RowKit.intOf v8).toNat)
 case atStart => exact ⟨0, Nat.zero_le _, rfl, h_ (by simp), h_ (Chg.refl [] _)⟩
 case round =>
  obtain ⟨k, hk, rfl, HC, PC⟩ := hrel
  have k1 : IntKind.i64.wrap ((k : Int) + 1) = (k : Int) + 1 := IntWalk.i64_in _ (by have := HN.out; omega)
  have i0 : (0 : Int) ≤ (k : Int) := by omega
  by_cases hlt : k < ds.length
  ·
   have i1 : (k : Int) < (ds.length : Int) := by omega
   obtain ⟨g, o, eA, _⟩ := HA.out.line (by omega)
   subst eA
   obtain ⟨x, ex⟩ : ∃ x, ds[k]? = some x := ⟨_, List.getElem?_eq_getElem hlt⟩
   obtain ⟨z0, z1⟩ := dotCells (HA.out.chg (C1.out.trans PC.out) (by simp)) ex
   obtain ⟨y0, y1⟩ := ce2 (PC.out.at_ B1.out (by simp))
   have EX := h_ ex
   have HK := h_ hlt
   clear ex
   have fin : ((n, s) = x → ((0 : Int) ≤ (k : Int) ↔ (n, s) ∈ ds)) ∧ ((n, s) ≠ x → (n, s) ∉ ds.take (k + 1)) := by
    refine ⟨fun q => ⟨fun _ => q ▸ List.mem_of_getElem? EX.out, fun _ => i0⟩, fun q r => ?_⟩
    rw [List.take_add_one, EX.out, List.mem_append] at r
    rcases r with r | r
    ·
     exact HC.out r
    ·
     simp at r; exact q r
   have FIN := h_ fin
   clear fin
   by_cases q1 : n = x.1
   ·
    have p1 : ((n == x.1) : Bool) = true := by simpa using q1
    by_cases q2 : s = x.2
    ·
     have p2 : ((s == x.2) : Bool) = true := by simpa using q2
     have ANS := h_ (FIN.out.1 (by rw [q1, q2]))
     clear q1 q2
     go_upto_region 4 with fail
     go_quiet (fail)
     have PC9 := h_ (PC.out.drewN nq)
     go_wp2; go_ret
     exact ⟨⟨k, rfl, ANS.out⟩, C1.out.trans PC9.out⟩
    ·
     have p2 : ((s == x.2) : Bool) = false := by simpa using q2
     have ANS := h_ (FIN.out.2 (fun e => q2 (congrArg Prod.snd e)))
     clear q1 q2
     go_upto_region 4 with fail
     go_quiet (fail)
     have PC9 := h_ (PC.out.drewN nq)
     go_wp2; go_round
     case rel => exact ⟨k + 1, by omega, by go_num, ANS, PC9⟩
     case measure => simp [RowKit.intOf]; omega
   ·
    have p1 : ((n == x.1) : Bool) = false := by simpa using q1
    have ANS := h_ (FIN.out.2 (fun e => q1 (congrArg Prod.fst e)))
    clear q1
    go_upto_region 4 with fail
    go_quiet (fail)
    have PC9 := h_ (PC.out.drewN nq)
    go_wp2; go_round
    case rel => exact ⟨k + 1, by omega, by go_num, ANS, PC9⟩
    case measure => simp [RowKit.intOf]; omega
  ·
   obtain rfl : k = ds.length := by omega
   have i1 : ¬ (ds.length : Int) < (ds.length : Int) := by omega
   have ET : Hid ((n, s) ∉ ds) := h_ (by have := HC.out; rwa [List.take_length] at this)
   go_wp2; go_ret
   exact ⟨⟨-1, rfl, ⟨fun h => absurd h (by decide), fun h => absurd h ET.out⟩⟩, C1.out.trans PC.out⟩
set_option maxRecDepth 100000 in
theorem edcontdot_any (w : World) (A : Option Addr) (c : Nat) (ds : List (Int × Int)) (n s : Int) (h : RdK dotTy w A ds.length ds) (hn : ds.length ≤ 100000) :
  Calls Tryz.prog 45 #[.slice A ds.length c, .agg #[.int .i64 n, .int .i64 s]] w fun e w' => e = .returned (.bool (decide ((n, s) ∈ ds))) ∧ Chg [] w w' := by
 obtain ⟨w1, hw1, c1, b1⟩ := news1 w (.cells #[.int .i64 n, .int .i64 s] 35)
 have W1 := h_ hw1
 have C1 := h_ c1
 have IX := h_ (edidxdot_any w1 A c ds n s (h.chg c1 (by simp)) hn)
 obtain ⟨R, hR⟩ : ∃ R, decide ((n, s) ∈ ds) = R := ⟨_, rfl⟩
 rw [hR]
 have HR := h_ hR
 obtain ⟨y0, y1⟩ := ce2 b1
 clear hw1 c1 b1 h hn hR
 go_enter Tryz.func45, Tryz.ntmps45
 go_upto_region 1 with fail
 rw [← W1.out]
 generalize w.heap.size = g1 at *
 go_wp2_with fail
 refine IX.out.mono ?_
 rintro e w2 ⟨⟨k, rfl, hk⟩, hc⟩
 have C2 := h_ (C1.out.trans hc)
 have HK : Hid (decide ((0 : Int) ≤ k) = R) := h_ (by rw [← HR.out]; exact decide_eq_decide.2 hk)
 clear hk hc IX y0 y1; go_wp2; go_ret
 exact ⟨by rw [HK.out]; rfl, C2.out⟩

set_option maxRecDepth 100000 in
theorem ednext1_any (w : World) (gb : Nat) (A : Option Addr) (c : Nat) (ds : List (Int × Int)) (x : EvT) (e : EvP) (hb : w.heap[gb]? = some (.cells #[.slice A ds.length c] 26 (0, 0))) (h : RdK dotTy w A ds.length ds) (hn : ds.length ≤ 100000) (hx : x.n = e.n ∧ x.s = e.s) :
  Calls Tryz.prog 44 #[.agg #[.int .i64 x.n, .int .i64 x.s, .string x.p, .int .i64 x.k, .int .i64 x.m, .slice x.A x.l x.c, .slice x.B x.bl x.bc], .pointer (some ⟨gb, 0, none⟩)] w fun r w' => r = .returned (.bool (!decide ((e.n, e.s) ∈ ds))) ∧ Chg [] w w' := by
 obtain ⟨w1, hw1, c1, b1⟩ := news1 w (.cells #[.int .i64 x.n, .int .i64 x.s, .string x.p, .int .i64 x.k, .int .i64 x.m, .slice x.A x.l x.c, .slice x.B x.bl x.bc] 40)
 have W1 := h_ hw1
 have C1 := h_ c1
 have CO := h_ (edcontdot_any w1 A c ds x.n x.s (h.chg c1 (by simp)) hn)
 rw [← hx.1, ← hx.2]
 generalize decide ((x.n, x.s) ∈ ds) = v at *
 have p0 := cell_of (c1.at_ hb (by simp)) 0
 obtain ⟨y0, y1, y2, y3, y4, y5, y6⟩ := ce7 b1
 simp only [gA, gZ] at p0
 clear hw1 c1 b1 hb h hn hx
 go_enter Tryz.func44, Tryz.ntmps44
 go_upto_region 1 with fail
 rw [← W1.out]
 generalize w.heap.size = g1 at *
 clear W1; go_wp2_with fail
 refine CO.out.mono ?_
 rintro r w2 ⟨rfl, hc⟩
 have C2 := h_ (C1.out.trans hc)
 clear hc CO p0 y0 y1 y2 y3 y4 y5 y6; go_wp2; go_ret
 exact ⟨rfl, C2.out⟩
end
section
open Go.RowKit Go.Lib


theorem set7W {w : World} {g : Nat} {a0 a1 a2 a3 a4 a5 a6 : Value} {T : TypeId} (v0 v1 v2 v3 v4 v5 v6 : Value) (h : w.heap[g]? = some (.cells #[a0, a1, a2, a3, a4, a5, a6] T (0, 0))) :
  (((((((w.setCell ⟨g, 0, none⟩ v0).setCell ⟨g, 1, none⟩ v1).setCell ⟨g, 2, none⟩ v2).setCell ⟨g, 3, none⟩ v3).setCell ⟨g, 4, none⟩ v4).setCell ⟨g, 5, none⟩ v5).setCell ⟨g, 6, none⟩ v6).heap[g]? = some (.cells #[v0, v1, v2, v3, v4, v5, v6] T (0, 0)) ∧ Chg [g] w (((((((w.setCell ⟨g, 0, none⟩ v0).setCell ⟨g, 1, none⟩ v1).setCell ⟨g, 2, none⟩ v2).setCell ⟨g, 3, none⟩ v3).setCell ⟨g, 4, none⟩ v4).setCell ⟨g, 5, none⟩ v5).setCell ⟨g, 6, none⟩ v6) := by
 have p0 := heap_setCell_same _ g 0 _ _ v0 h
 have p1 := heap_setCell_same _ g 1 _ _ v1 p0
 have p2 := heap_setCell_same _ g 2 _ _ v2 p1
 have p3 := heap_setCell_same _ g 3 _ _ v3 p2
 have p4 := heap_setCell_same _ g 4 _ _ v4 p3
 have p5 := heap_setCell_same _ g 5 _ _ v5 p4
 have p6 := heap_setCell_same _ g 6 _ _ v6 p5
 refine ⟨by simpa using p6, (((((((Chg.refl [g] w).setCell (p := ⟨g, 0, none⟩) (.inl (by simp)) v0).setCell (p := ⟨g, 1, none⟩) (.inl (by simp)) v1).setCell (p := ⟨g, 2, none⟩) (.inl (by simp)) v2).setCell (p := ⟨g, 3, none⟩) (.inl (by simp)) v3).setCell (p := ⟨g, 4, none⟩) (.inl (by simp)) v4).setCell (p := ⟨g, 5, none⟩) (.inl (by simp)) v5).setCell (p := ⟨g, 6, none⟩) (.inl (by simp)) v6⟩
theorem zeroRd (w : World) : EvR w evTy.z ⟨0, 0, [], 0, 0, [], []⟩ := ⟨rfl, rfl, rfl, rfl, rfl, rfl, rfl, ⟨rfl, fun j v hj => by simp at hj⟩, RdK.nil _ _⟩
theorem next_none {p : List EvP} {but : List (Int × Int)} (h : ∀ e ∈ p, (!decide ((e.n, e.s) ∈ but)) = false) : nextA p but = none := by
 unfold nextA
 rw [List.find?_eq_none]
 intro x hx
 rw [h x hx]
 simp
theorem next_at {p : List EvP} {but : List (Int × Int)} {k : Nat} {e : EvP} (he : p[k]? = some e) (hy : (!decide ((e.n, e.s) ∈ but)) = true) (hn : ∀ e ∈ p.take k, (!decide ((e.n, e.s) ∈ but)) = false) : nextA p but = some e := by
 unfold nextA
 have hk := (List.getElem?_eq_some_iff.1 he).1
 rw [← List.take_append_drop k p, List.find?_append, List.find?_eq_none.2 (fun x hx => by rw [hn x hx]; simp)]
 have hd : p.drop k = e :: p.drop (k + 1) := by
  rw [List.drop_eq_getElem_cons hk]
  rw [(List.getElem?_eq_some_iff.1 he).2]
 rw [hd, List.find?_cons, hy]
 rfl

set_option maxRecDepth 100000 in
theorem edfrom_any (w : World) (A : Option Addr) (c : Nat) (xs : List EvT) (es : List EvP) (ds : List (Int × Int)) (gb : Nat) (D : Option Addr) (dc : Nat) (h : RdK evTy w A xs.length xs) (hc : xs.length ≤ c ∧ c ≤ maxLen) (hx : EvsR w xs es) (hn : xs.length ≤ 100000) (hb : w.heap[gb]? = some (.cells #[.slice D ds.length dc] 26 (0, 0))) (hd : RdK dotTy w D ds.length ds) (hdn : ds.length ≤ 100000) :
  Calls Tryz.prog 43 #[.slice A xs.length c, .func (.func 44) #[] #[.pointer (some ⟨gb, 0, none⟩)]] w fun r w' => (∃ (A' : Option Addr) (c' : Nat) (us : List EvT) (fs : List EvP), r = .returned (.slice A' us.length c') ∧ RdK evTy w' A' us.length us ∧ us.length ≤ c' ∧ EvsR w' us fs ∧ fs.head? = nextA es ds ∧ ∀ u ∈ us, u ∈ xs) ∧ Chg [] w w' := by
 have IX := h_ (evfindex_any w A c xs es 44 #[.pointer (some ⟨gb, 0, none⟩)] (fun e => !decide ((e.n, e.s) ∈ ds)) (enters_of Tryz.func44 (by kernel_rfl) rfl) h hx hn (fun wr hc i x e ex ee => ednext1_any wr gb D dc ds x e (hc.at_ hb (by simp)) (hd.chg hc (by simp)) hdn ⟨(hx.2 i x e ex ee).n, (hx.2 i x e ex ee).s⟩))
 have HA := h_ h
 have HX := h_ hx
 have HC := h_ hc
 have HN := h_ hn
 clear h hc hx hn hb hd hdn
 go_enter Tryz.func43, Tryz.ntmps43
 go_wp2_with fail
 refine IX.out.mono ?_
 rintro e w2 ⟨⟨v, rfl, hu⟩, hc⟩
 have C := h_ hc
 clear hc IX
 rcases hu with ⟨rfl, no⟩ | ⟨k, e, rfl, ek, pk, nk⟩
 ·
  have NX := h_ (next_none no)
  clear no; go_wp2; go_ret
  refine ⟨⟨none, 0, [], [], rfl, RdK.nil _ _, Nat.zero_le _, EvsR.nil _, ?_, by simp⟩, C.out⟩
  rw [NX.out]; rfl
 ·
  have NX := h_ (next_at ek pk nk)
  have kl : k < xs.length := by rw [HX.out.1]; exact (List.getElem?_eq_some_iff.1 ek).1
  have HD0 : Hid ((es.drop k).head? = some e) := h_ (by rw [List.head?_drop]; exact ek)
  have KL := h_ kl
  clear pk nk ek
  obtain ⟨g, o, eA, _⟩ := HA.out.line (by omega)
  subst eA
  have k0 : (0 : Int) ≤ (k : Int) := by omega
  have k1 : ¬ (k : Int) < 0 := by omega
  have k2 : (k : Int) ≤ (xs.length : Int) := by omega
  have k3 : k ≤ xs.length := by omega
  have k4 : xs.length ≤ c := HC.out.1
  have k5 : ¬ c = k := by have := HC.out.1; omega
  have k6 : k ≤ c := by omega
  clear kl; go_wp2; go_ret
  refine ⟨⟨some ⟨g, o + k * 7, none⟩, c - k, xs.drop k, es.drop k, ?_, ?_, ?_, ?_, ?_, fun u hu => List.mem_of_mem_drop hu⟩, C.out⟩
  ·
   rw [List.length_drop]; rfl
  ·
   have q := (HA.out.chg C.out (by simp)).part k (xs.length - k) (by have := KL.out; omega)
   rw [List.take_of_length_le (by rw [List.length_drop]; omega)] at q
   rw [List.length_drop]
   exact q
  ·
   rw [List.length_drop]; have := HC.out.1; omega
  ·
   refine ⟨by rw [List.length_drop, List.length_drop, HX.out.1], fun i x e hx he => ?_⟩
   rw [List.getElem?_drop] at hx he
   exact (HX.out.2 _ x e hx he).chg C.out
  ·
   rw [NX.out, HD0.out]
end
section
open Go.RowKit Go.Lib


set_option maxRecDepth 100000 in
theorem ednext_any (w : World) (A : Option Addr) (c : Nat) (xs : List EvT) (es : List EvP) (n : Int) (B : Option Addr) (bc : Nat) (ks : List Sp) (h : RdK evTy w A xs.length xs) (hc : xs.length ≤ c) (ho : xs = [] ∨ ∀ a, A = some a → a.block < w.heap.size) (hx : EvsR w xs es) (hn : xs.length ≤ 1000) (hs : ∀ e ∈ es, EvSm e ∧ e.q.length ≤ 100000) (hk : RdK spanTy w B ks.length ks) (hkn : ks.length ≤ 140737488351232) (D : Option Addr) (dc : Nat) (ds : List (Int × Int)) (hd : RdK dotTy w D ds.length ds) (hdn : ds.length ≤ 100000) :
  Calls Tryz.prog 13 #[.slice A xs.length c, .agg #[.int .i64 n, .slice B ks.length bc], .slice D ds.length dc] w fun r w' => ∃ (x : EvT) (e : EvP), r = .returned (.tuple #[.agg #[.int .i64 x.n, .int .i64 x.s, .string x.p, .int .i64 x.k, .int .i64 x.m, .slice x.A x.l x.c, .slice x.B x.bl x.bc], .bool (nextA (planA es n ks) ds).isSome]) ∧ EvR w' x e ∧ e = (nextA (planA es n ks) ds).getD ⟨0, 0, [], 0, 0, [], []⟩ ∧ (∀ a, (x.A = some a ∨ x.B = some a) → w.heap.size ≤ a.block) ∧ Chg [] w w' := by
 obtain ⟨w1, hw1, c1, b0, b1, b2⟩ := news3 w (.cells #[.int .i64 n, .slice B ks.length bc] 25) (.cells #[.slice D ds.length dc] 26) (.cells #[.int .i64 0, .int .i64 0, .string ⟨#[]⟩, .int .i64 0, .int .i64 0, .slice none 0 0, .slice none 0 0] 40)
 have W1 := h_ hw1
 have C1 := h_ c1
 have B1 := h_ b1
 have B2 := h_ b2
 have PL := h_ (edplan_any w1 A c xs es n B bc ks (h.chg c1 (by simp)) hc (ho.imp id (fun q a ha => Nat.lt_of_lt_of_le (q a ha) c1.size)) (hx.chg c1) hn hs (hk.chg c1 (by simp)) hkn)
 have HD := h_ (hd.chg c1 (by simp))
 have HDN := h_ hdn
 have HN := h_ (show (planA es n ks).length ≤ 1000 by
  have := List.length_filter_le (fun e : EvP => !hasE ks e.n e.s) es
  unfold planA
  split
  ·
   rw [byDt_len]; have := hx.1; omega
  ·
   simp)
 obtain ⟨y0, y1⟩ := ce2 b0
 clear hw1 c1 b0 b1 b2 h hc ho hx hn hs hk hkn hd hdn
 obtain ⟨P, hP⟩ : ∃ P, planA es n ks = P := ⟨_, rfl⟩
 rw [hP] at PL HN ⊢
 clear hP
 obtain ⟨R, hR⟩ : ∃ R, nextA P ds = R := ⟨_, rfl⟩
 rw [hR]
 have HR := h_ hR
 clear hR
 go_enter Tryz.func13, Tryz.ntmps13
 go_upto_region 1 with fail
 rw [← W1.out]
 have HZ : Hid (∃ h, w.heap.size = h) := h_ ⟨_, rfl⟩
 generalize hz2 : w.heap.size + 2 = g2 at *
 generalize hz1 : w.heap.size + 1 = g1 at *
 have NE : Hid (w.heap.size ≤ g2) := h_ (by omega)
 generalize hz0 : w.heap.size = g0 at B1 B2 y0 y1 hz1 hz2 ⊢
 have n01 : ¬ g0 = g1 := by omega
 have n02 : ¬ g0 = g2 := by omega
 have n10 : ¬ g1 = g0 := by omega
 have n12 : ¬ g1 = g2 := by omega
 have n20 : ¬ g2 = g0 := by omega
 have n21 : ¬ g2 = g1 := by omega
 clear W1 HZ hz0 hz1 hz2; go_wp2_with fail
 refine PL.out.mono ?_
 rintro r w2 ⟨A2, c2, zs, rfl, hf, hc⟩
 have F2 := h_ hf
 have D2 := h_ hc
 have ZL : Hid (zs.length = P.length) := h_ hf.all.ev.1
 have Q1 := h_ (hc.at_ B1.out (by simp))
 have Q2 := h_ (hc.at_ B2.out (by simp))
 have B2L := h_ B2.out
 clear hf hc PL y0 y1 B1 B2
 have FAR : Hid (∀ y ∈ zs, ∀ a, (y.A = some a ∨ y.B = some a) → a.block ≠ g2) := h_ (fun y hy a ha q => by have := (F2.out.all.at_ y hy a ha).1; have := lt_of_heap B2L.out; omega)
 have FAR2 : Hid (∀ y ∈ zs, ∀ a, (y.A = some a ∨ y.B = some a) → w.heap.size ≤ a.block) := h_ (fun y hy a ha => Nat.le_trans C1.out.size (F2.out.all.at_ y hy a ha).1)
 have FR := h_ (edfrom_any w2 A2 c2 zs P ds g1 D dc F2.out.row.reads F2.out.row.cap F2.out.all.ev (by have := HN.out; have := ZL.out; omega) Q1.out (HD.out.chg D2.out (by simp)) HDN.out)
 go_wp2_with fail
 refine FR.out.mono ?_
 rintro r w3 ⟨⟨A3, c3, us, fs, rfl, hr, hl, ho, he, hm⟩, hc⟩
 have HM := h_ hm
 have D3 := h_ (D2.out.trans hc)
 replace Q2 := h_ (hc.at_ Q2.out (by simp))
 have E3 := h_ (And.intro hr (And.intro hl ho))
 have HE := h_ he
 clear hr hl ho he hm hc FR Q1
 rcases hfs : fs with _ | ⟨e, fs'⟩
 ·
  have u0 : us = [] := by have := E3.out.2.2.1; rw [hfs] at this; exact List.eq_nil_of_length_eq_zero this
  have R0 : R = none := by rw [← HR.out, ← HE.out, hfs]; rfl
  subst R0 u0
  clear hfs HR HE
  have f0 := free_of Q2.out 0
  have f1 := free_of Q2.out 1
  have f2 := free_of Q2.out 2
  have f3 := free_of Q2.out 3
  have f4 := free_of Q2.out 4
  have f5 := free_of Q2.out 5
  have f6 := free_of Q2.out 6
  obtain ⟨t0, t1, t2, t3, t4, t5, t6⟩ := ce7 Q2.out
  have C3 := h_ (C1.out.trans D3.out)
  have q0 : ((((0 : Nat) : Int)) == 0) = true := rfl
  go_wp2
  obtain ⟨q9, cw⟩ := set7W (.int .i64 0) (.int .i64 0) (.string ⟨#[]⟩) (.int .i64 0) (.int .i64 0) (.slice none 0 0) (.slice none 0 0) Q2.out
  have CW := h_ cw
  have Q9 := h_ q9
  clear q9 cw
  generalize (((((((w3.setCell ⟨g2, 0, none⟩ (.int .i64 0)).setCell ⟨g2, 1, none⟩ (.int .i64 0)).setCell ⟨g2, 2, none⟩ (.string ⟨#[]⟩)).setCell ⟨g2, 3, none⟩ (.int .i64 0)).setCell ⟨g2, 4, none⟩ (.int .i64 0)).setCell ⟨g2, 5, none⟩ (.slice none 0 0)).setCell ⟨g2, 6, none⟩ (.slice none 0 0)) = W at *
  obtain ⟨y0, y1, y2, y3, y4, y5, y6⟩ := ce7 Q9.out
  refine bodyPost_ret (v := .tuple #[.agg #[.int .i64 0, .int .i64 0, .string ⟨#[]⟩, .int .i64 0, .int .i64 0, .slice none 0 0, .slice none 0 0], .bool false]) (by simp [results, Tryz.results13, go_sem, y0, y1, y2, y3, y4, y5, y6]) rfl ?_
  exact ⟨evTy.z, _, rfl, zeroRd _, rfl, (fun a ha => by rcases ha with ha | ha <;> cases ha), C3.out.trans' CW.out (fun i hi => .inr (by simp at hi; rw [hi]; exact NE.out))⟩
 ·
  obtain ⟨u, hu⟩ : ∃ u, us[0]? = some u := ⟨_, List.getElem?_eq_getElem (by have := E3.out.2.2.1; rw [hfs] at this; simp at this; omega)⟩
  have R0 : R = some e := by rw [← HR.out, ← HE.out, hfs]; rfl
  subst R0
  have RU := h_ (E3.out.2.2.2 0 u e hu (by rw [hfs]; rfl))
  have UM := h_ (HM.out u (List.mem_of_getElem? hu))
  have UL : us.length ≠ 0 := by have := (List.getElem?_eq_some_iff.1 hu).1; omega
  obtain ⟨g, o, eA, gl⟩ := E3.out.1.line (by omega)
  subst eA
  obtain ⟨z0, z1, z2, z3, z4, z5, z6⟩ := evCells E3.out.1 hu
  simp only [Nat.zero_mul, Nat.add_zero] at z0 z1 z2 z3 z4 z5 z6
  clear hfs HR HE hu gl
  have f0 := free_of Q2.out 0
  have f1 := free_of Q2.out 1
  have f2 := free_of Q2.out 2
  have f3 := free_of Q2.out 3
  have f4 := free_of Q2.out 4
  have f5 := free_of Q2.out 5
  have f6 := free_of Q2.out 6
  obtain ⟨t0, t1, t2, t3, t4, t5, t6⟩ := ce7 Q2.out
  have C3 := h_ (C1.out.trans D3.out)
  have q0 : (((us.length : Int)) == 0) = false := beq_eq_false_iff_ne.2 (by omega)
  have q1 : ¬ (us.length : Int) = 0 := by omega
  have q2 : (0 : Int) < (us.length : Int) := by omega
  have q3 : 0 < us.length := by omega
  go_wp2
  obtain ⟨q9, cw⟩ := set7W (.int .i64 u.n) (.int .i64 u.s) (.string u.p) (.int .i64 u.k) (.int .i64 u.m) (.slice u.A u.l u.c) (.slice u.B u.bl u.bc) Q2.out
  have CW := h_ cw
  have Q9 := h_ q9
  clear q9 cw
  generalize (((((((w3.setCell ⟨g2, 0, none⟩ (.int .i64 u.n)).setCell ⟨g2, 1, none⟩ (.int .i64 u.s)).setCell ⟨g2, 2, none⟩ (.string u.p)).setCell ⟨g2, 3, none⟩ (.int .i64 u.k)).setCell ⟨g2, 4, none⟩ (.int .i64 u.m)).setCell ⟨g2, 5, none⟩ (.slice u.A u.l u.c)).setCell ⟨g2, 6, none⟩ (.slice u.B u.bl u.bc)) = W at *
  obtain ⟨y0, y1, y2, y3, y4, y5, y6⟩ := ce7 Q9.out
  refine bodyPost_ret (v := .tuple #[.agg #[.int .i64 u.n, .int .i64 u.s, .string u.p, .int .i64 u.k, .int .i64 u.m, .slice u.A u.l u.c, .slice u.B u.bl u.bc], .bool true]) (by simp [results, Tryz.results13, go_sem, y0, y1, y2, y3, y4, y5, y6]) rfl ?_
  exact ⟨u, e, rfl, RU.out.chgS CW.out (fun a ha => by have := E3.out.2.1; simp; intro q; exact FAR.out u UM.out a (.inl ha) q) (fun a ha => by simp; intro q; exact FAR.out u UM.out a (.inr ha) q), rfl, FAR2.out u UM.out, C3.out.trans' CW.out (fun i hi => .inr (by simp at hi; rw [hi]; exact NE.out))⟩
end
section
open Go.RowKit Go.Lib


set_option maxRecDepth 100000 in
theorem kept_either (n l n₁ g : Nat) (T X : List Nat) (a b : List Sp) (J Jx : List Sp → World → Prop) (W : World) (hg1 : g < n₁ ∧ g ∉ T) (hX : ∀ z ∈ X, z < n₁ ∧ z ∉ T) (hn₁ : n₁ ≤ W.heap.size)
  (hJ : ∀ pre A B, J pre A → Chg [g] A B → J pre B)
  (hY : ∀ pre x W1, J pre W1 → (B3 x ∧ (∀ y ∈ pre, Le y x) ∧ pre.length < potP a b ∧ ∀ n s, InS x n s → kE (memb a n s) (memb b n s) = true) → YieldAt Fence.wide n Tryz.prog l #[.agg #[.int .i64 x.1, .int .i64 x.2.1, .int .i64 x.2.2]] W1 fun e W' => (e = .returned (.bool true) ∧ J (pre ++ [x]) W' ∧ Kpt n₁ T W1 W') ∨ (e = .returned (.bool false) ∧ Jx (pre ++ [x]) W'))
  (h0 : SwP W g X a b 198) (ha : WfC a) (hb : WfC b) (hj : J [] W) :
  CallsIn Fence.wide (n + 1) Tryz.prog 156 #[.pointer (some ⟨g, 0, none⟩), .func (.yield l) #[] #[]] W fun e W' => (∃ v, e = .returned v) ∧ ((∃ pre, SwInv kE a b [] [] pre ∧ J pre W') ∨ ∃ pre, Jx pre W') := by
 refine callsIn_of_wp Tryz.func156 rfl trivial ?_ rfl
 simp only [Tryz.ntmps156, List.size_toArray, List.length_cons, List.length_nil, Nat.reduceAdd, Nat.reduceSub, Array.replicate_succ, Array.replicate_zero, List.push_toArray, List.append_toArray, List.nil_append, List.cons_append]
 have HK := h_ (fun (w : World) (x y : Bool) => either_any w x y)
 gi_wp2
 gi_loopg [] (dotsN a + dotsN b + 1) (fun G wr => ∃ (la lb pre : List Sp), Hid (SwInv kE a b la lb pre) ∧ Hid (SwP wr g X la lb 198) ∧ J pre wr ∧ Hid (n₁ ≤ wr.heap.size) ∧ dotsN la + dotsN lb < G)
 case atStart => exact ⟨a, b, [], h_ (SwInv.begin ha hb), h_ h0, hj, h_ hn₁, by omega⟩
 case round =>
  obtain ⟨la, lb, pre, HI, HS, hJs, HN, hG⟩ := hrel
  have HJ0 := h_ hJs
  have HG := h_ hG
  clear hJs hG
  by_cases hne : la ≠ [] ∨ lb ≠ []
  rotate_left
  ·
   have ea : la = [] := by by_cases e : la = []; exact e; exact absurd (.inl e) hne
   have eb : lb = [] := by by_cases e : lb = []; exact e; exact absurd (.inr e) hne
   subst ea; subst eb
   obtain ⟨A, c, B, d, hs⟩ := HS.out
   have z0 := cell_of hs.hg 0
   have z4 := cell_of hs.hg 4
   simp only [List.getElem?_toArray, List.getElem?_cons_succ, List.getElem?_cons_zero, hd_nil] at z0 z4
   clear hs hne
   gi_wp2
   go_end0
   exact ⟨⟨_, rfl⟩, .inl ⟨pre, HI.out, HJ0.out⟩⟩
  have so := step_ok HI.out.wa HI.out.wb hne
  have st := fun hX' => step_any wr g X la lb 198 HS.out hX' HI.out.wa HI.out.wb hne
  replace st := st (fun z hz => by have := (hX z hz).1; have := HN.out; omega)
  have c12 : ((hdP la).1 != 201) = true ∨ ((hdP la).1 != 201) = false ∧ ((hdP lb).1 != 201) = true := by
   cases la with
   | cons x r => left; have := HI.out.wa.2 x (by simp); rw [hd_cons]; simp; omega
   | nil =>
    right
    cases lb with
    | nil => exact absurd rfl (hne.elim id id)
    | cons x r => have := HI.out.wb.2 x (by simp); rw [hd_cons, hd_nil]; simp; omega
  generalize pieceP (hdP la) (hdP lb) = p at so st
  generalize inP (hdP la) (hdP lb) = ia at so st
  generalize inP (hdP lb) (hdP la) = ib at so st
  generalize leftP la ia p.2.2 = la' at so st
  generalize leftP lb ib p.2.2 = lb' at so st
  have KI := h_ (fun w => HK.out w ia ib)
  have SO := h_ so
  have ST := h_ st
  have ND0 := h_ (HI.out.step (k := kE) (by rfl) so)
  clear so st hne
  have OKP : Hid (SpOk p ∧ B3 p) := h_ (by have := SO.out.ok; unfold B3 SpOk at *; omega)
  obtain ⟨A, c, B, d, hs⟩ := HS.out
  have z0 := ce1 hs.hg
  have z4 := cell_of hs.hg 4
  simp only [gA, gY, gZ] at z4
  have GLT := h_ (lt_of_heap hs.hg)
  clear hs HS
  generalize (hdP la).1 = ha1 at *
  generalize (hdP lb).1 = hb1 at *
  generalize hkv : kE ia ib = kv at KI ND0
  cases kv
  case false =>
   have ND : Hid (SwInv kE a b la' lb' pre) := h_ (by have := ND0.out; rwa [if_neg (by simp)] at this)
   clear ND0 hkv
   rcases c12 with c1 | ⟨c1, c2⟩
   ·
    skip
    gi_wp2_with (refine ⟨trivial, ?_⟩; gi_at_call 192; refine (callsIn_wide.2 ST.out).mono ?_; rintro e w1 ⟨rfl, h1, h2⟩; obtain ⟨A', c', B', d', hs⟩ := h1; have HQ := h_ hs; have CG := h_ h2; have z8 : (w1.alloc (.cells #[.int .i64 p.1, .int .i64 p.2.1, .int .i64 p.2.2] 81)).cell? ⟨g, 8, none⟩ = some (.func (.func 198) #[] #[]) := ((Chg.refl [] w1).alloc _).cell (show w1.cell? ⟨g, 8, none⟩ = some (.func (.func 198) #[] #[]) from (cell_of hs.hg 8).trans rfl) (by simp); clear hs h2)
    clear z0 z4 c1
    obtain ⟨w2, hw2, c2', b2⟩ := news1 w1 (.cells #[.int .i64 p.1, .int .i64 p.2.1, .int .i64 p.2.2] 81)
    rw [← hw2] at z8 ⊢
    have B2 := h_ b2
    have C2 := h_ (CG.out.trans (c2'.mono (S' := [g]) (by simp)))
    replace HQ := h_ (HQ.out.chg c2' (by simp) (by simp))
    clear hw2 c2' b2
    generalize w1.heap.size = gp at *
    gi_wp2_with (refine ⟨trivial, ?_⟩; gi_at_call 198; refine (callsIn_wide.2 (KI.out _)).mono ?_; rintro e w3 ⟨rfl, hc⟩; have C3 := h_ hc; clear hc)
    refine ⟨(fun f hf => by cases hf), ?_⟩
    gi_wp2
    gi_roundg (dotsN la + dotsN lb)
    case measure => exact HG.out
    case rel => exact ⟨la', lb', pre, ND, h_ ⟨_, _, _, _, HQ.out.chg C3.out (by simp) (by simp)⟩, hJ _ _ _ HJ0.out (C2.out.trans (C3.out.mono (by simp))), h_ (Nat.le_trans HN.out (Nat.le_trans C2.out.size C3.out.size)), SO.out.dec⟩
   ·
    skip
    gi_wp2_with (refine ⟨trivial, ?_⟩; gi_at_call 192; refine (callsIn_wide.2 ST.out).mono ?_; rintro e w1 ⟨rfl, h1, h2⟩; obtain ⟨A', c', B', d', hs⟩ := h1; have HQ := h_ hs; have CG := h_ h2; have z8 : (w1.alloc (.cells #[.int .i64 p.1, .int .i64 p.2.1, .int .i64 p.2.2] 81)).cell? ⟨g, 8, none⟩ = some (.func (.func 198) #[] #[]) := ((Chg.refl [] w1).alloc _).cell (show w1.cell? ⟨g, 8, none⟩ = some (.func (.func 198) #[] #[]) from (cell_of hs.hg 8).trans rfl) (by simp); clear hs h2)
    clear z0 z4 c1 c2
    obtain ⟨w2, hw2, c2', b2⟩ := news1 w1 (.cells #[.int .i64 p.1, .int .i64 p.2.1, .int .i64 p.2.2] 81)
    rw [← hw2] at z8 ⊢
    have B2 := h_ b2
    have C2 := h_ (CG.out.trans (c2'.mono (S' := [g]) (by simp)))
    replace HQ := h_ (HQ.out.chg c2' (by simp) (by simp))
    clear hw2 c2' b2
    generalize w1.heap.size = gp at *
    gi_wp2_with (refine ⟨trivial, ?_⟩; gi_at_call 198; refine (callsIn_wide.2 (KI.out _)).mono ?_; rintro e w3 ⟨rfl, hc⟩; have C3 := h_ hc; clear hc)
    refine ⟨(fun f hf => by cases hf), ?_⟩
    gi_wp2
    gi_roundg (dotsN la + dotsN lb)
    case measure => exact HG.out
    case rel => exact ⟨la', lb', pre, ND, h_ ⟨_, _, _, _, HQ.out.chg C3.out (by simp) (by simp)⟩, hJ _ _ _ HJ0.out (C2.out.trans (C3.out.mono (by simp))), h_ (Nat.le_trans HN.out (Nat.le_trans C2.out.size C3.out.size)), SO.out.dec⟩
  case true =>
   have ND : Hid (SwInv kE a b la' lb' (pre ++ [p])) := h_ (by have := ND0.out; rwa [if_pos rfl] at this)
   have LEP : Hid (∀ y ∈ pre, Le y p) := h_ (fun y hy => (List.pairwise_append.1 ND.out.up).2.2 y hy p (by simp))
   have HYF := h_ (fun W' (hc : Chg [g] wr W') => hY pre p W' (hJ pre wr W' HJ0.out hc) ⟨OKP.out.2, LEP.out, by have := ND.out.cnt; simp at this; omega, fun n s q => (ND.out.m n s).2 (.inl (mem_append.2 (.inr (mem_one.2 q))))⟩)
   clear ND0 hkv
   rcases c12 with c1 | ⟨c1, c2⟩
   ·
    skip
    gi_wp2_with (refine ⟨trivial, ?_⟩; gi_at_call 192; refine (callsIn_wide.2 ST.out).mono ?_; rintro e w1 ⟨rfl, h1, h2⟩; obtain ⟨A', c', B', d', hs⟩ := h1; have HQ := h_ hs; have CG := h_ h2; have z8 : (w1.alloc (.cells #[.int .i64 p.1, .int .i64 p.2.1, .int .i64 p.2.2] 81)).cell? ⟨g, 8, none⟩ = some (.func (.func 198) #[] #[]) := ((Chg.refl [] w1).alloc _).cell (show w1.cell? ⟨g, 8, none⟩ = some (.func (.func 198) #[] #[]) from (cell_of hs.hg 8).trans rfl) (by simp); clear hs h2)
    clear z0 z4 c1
    obtain ⟨w2, hw2, c2', b2⟩ := news1 w1 (.cells #[.int .i64 p.1, .int .i64 p.2.1, .int .i64 p.2.2] 81)
    rw [← hw2] at z8 ⊢
    have B2 := h_ b2
    have C2 := h_ (CG.out.trans (c2'.mono (S' := [g]) (by simp)))
    replace HQ := h_ (HQ.out.chg c2' (by simp) (by simp))
    clear hw2 c2' b2
    generalize w1.heap.size = gp at *
    gi_wp2_with (refine ⟨trivial, ?_⟩; gi_at_call 198; refine (callsIn_wide.2 (KI.out _)).mono ?_; rintro e w3 ⟨rfl, hc⟩; have C3 := h_ hc; have b3 := hc.at_ B2.out (by simp); have y0 := cell_of b3 0; have y1 := cell_of b3 1; have y2 := cell_of b3 2; simp only [gA, gY, gZ] at y0 y1 y2; clear b3; obtain ⟨fn, tmps, assign, body, hy, hRn⟩ := HYF.out w3 (C2.out.trans (hc.mono (by simp))); clear hc)
    refine hRn.mono ?_
    clear y0 y1 y2 hy
    rintro e w4 (⟨rfl, hJ4, hk4⟩ | ⟨rfl, hx⟩)
    ·
     have J4 := h_ hJ4
     have K4 := h_ hk4
     clear hJ4 hk4 hRn
     gi_wp2
     gi_roundg (dotsN la + dotsN lb)
     case measure => exact HG.out
     case rel => exact ⟨la', lb', pre ++ [p], ND, h_ ((show SwP w3 g X la' lb' 198 from ⟨_, _, _, _, HQ.out.chg C3.out (by simp) (by simp)⟩).kpt K4.out hg1 hX), J4.out, h_ (Nat.le_trans HN.out (Nat.le_trans C2.out.size (Nat.le_trans C3.out.size K4.out.size))), SO.out.dec⟩
    ·
     have JX := h_ hx
     clear hx hRn
     gi_wp2
     refine bodyPost_ret (results_none rfl _ _ _) rfl ?_
     exact ⟨⟨_, rfl⟩, .inr ⟨_, JX.out⟩⟩
   ·
    skip
    gi_wp2_with (refine ⟨trivial, ?_⟩; gi_at_call 192; refine (callsIn_wide.2 ST.out).mono ?_; rintro e w1 ⟨rfl, h1, h2⟩; obtain ⟨A', c', B', d', hs⟩ := h1; have HQ := h_ hs; have CG := h_ h2; have z8 : (w1.alloc (.cells #[.int .i64 p.1, .int .i64 p.2.1, .int .i64 p.2.2] 81)).cell? ⟨g, 8, none⟩ = some (.func (.func 198) #[] #[]) := ((Chg.refl [] w1).alloc _).cell (show w1.cell? ⟨g, 8, none⟩ = some (.func (.func 198) #[] #[]) from (cell_of hs.hg 8).trans rfl) (by simp); clear hs h2)
    clear z0 z4 c1 c2
    obtain ⟨w2, hw2, c2', b2⟩ := news1 w1 (.cells #[.int .i64 p.1, .int .i64 p.2.1, .int .i64 p.2.2] 81)
    rw [← hw2] at z8 ⊢
    have B2 := h_ b2
    have C2 := h_ (CG.out.trans (c2'.mono (S' := [g]) (by simp)))
    replace HQ := h_ (HQ.out.chg c2' (by simp) (by simp))
    clear hw2 c2' b2
    generalize w1.heap.size = gp at *
    gi_wp2_with (refine ⟨trivial, ?_⟩; gi_at_call 198; refine (callsIn_wide.2 (KI.out _)).mono ?_; rintro e w3 ⟨rfl, hc⟩; have C3 := h_ hc; have b3 := hc.at_ B2.out (by simp); have y0 := cell_of b3 0; have y1 := cell_of b3 1; have y2 := cell_of b3 2; simp only [gA, gY, gZ] at y0 y1 y2; clear b3; obtain ⟨fn, tmps, assign, body, hy, hRn⟩ := HYF.out w3 (C2.out.trans (hc.mono (by simp))); clear hc)
    refine hRn.mono ?_
    clear y0 y1 y2 hy
    rintro e w4 (⟨rfl, hJ4, hk4⟩ | ⟨rfl, hx⟩)
    ·
     have J4 := h_ hJ4
     have K4 := h_ hk4
     clear hJ4 hk4 hRn
     gi_wp2
     gi_roundg (dotsN la + dotsN lb)
     case measure => exact HG.out
     case rel => exact ⟨la', lb', pre ++ [p], ND, h_ ((show SwP w3 g X la' lb' 198 from ⟨_, _, _, _, HQ.out.chg C3.out (by simp) (by simp)⟩).kpt K4.out hg1 hX), J4.out, h_ (Nat.le_trans HN.out (Nat.le_trans C2.out.size (Nat.le_trans C3.out.size K4.out.size))), SO.out.dec⟩
    ·
     have JX := h_ hx
     clear hx hRn
     gi_wp2
     refine bodyPost_ret (results_none rfl _ _ _) rfl ?_
     exact ⟨⟨_, rfl⟩, .inr ⟨_, JX.out⟩⟩
end
end Go.Proofs.YtehmchdhlhchjaaGreatDoor
