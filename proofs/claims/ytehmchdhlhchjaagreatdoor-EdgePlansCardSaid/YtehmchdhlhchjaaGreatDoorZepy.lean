/- What is read is written as it was read: no memory here. An effect's bytes read as it; what reads as an effect is its bytes; where faults are: no memory here. Archives, purely. What is planned, and that it leads to agreement: purely. The document's own: an event in memory of its own. The document's own (store): events in memory of their own. The document's Paths (store). The document's Shelf, Near, Missing (store). The document's writer (tributaryref01): form, put, Num, Raw, Text, Out. -/
import Derived.Test.YtehmchdhlhchjaaGreatDoorZepx
import Derived.Test.YtehmchdhlhchjaaGreatDoorZepm
import Derived.Test.YtehmchdhlhchjaaGreatDoorZepk
import Derived.Test.YtehmchdhlhchjaaGreatDoorZeps
import Derived.Test.YtehmchdhlhchjaaGreatDoorZepe
import Derived.Test.YtehmchdhlhchjaaGreatDoorZepj
import Derived.Deep.Cut
import Derived.Test.YtehmchdhlhchjaaGreatDoorZepb
import Derived.Test.YtehmchdhlhchjaaGreatDoorZepd
import Derived.Deep.RegionHeld3
import Derived.Test.YtehmchdhlhchjaaGreatDoorZepr
import Derived.Test.YtehmchdhlhchjaaGreatDoorZepv
import Derived.Test.YtehmchdhlhchjaaGreatDoorZepa
set_option linter.unusedSimpArgs false
set_option linter.unusedVariables false
set_option maxHeartbeats 32000000
namespace Go.Proofs.YtehmchdhlhchjaaGreatDoor
section
open Go.RowKit Go.Lib


def chkA (n : Int) (q : List Sp) : Int := if 1 ≤ n ∧ n ≤ 200 ∧ chkS q = 0 then 0 else 2
theorem chkA_two (n : Int) (q : List Sp) : chkA n q = 0 ∨ chkA n q = 2 := by unfold chkA; split <;> simp
theorem chkA_lo {n : Int} {q : List Sp} (h : n < 1) : chkA n q = 2 := if_neg (by omega)
theorem chkA_hi {n : Int} {q : List Sp} (h : 200 < n) : chkA n q = 2 := if_neg (by omega)
theorem chkA_in {n : Int} {q : List Sp} (h1 : 1 ≤ n) (h2 : n ≤ 200) : chkA n q = chkS q := by
 unfold chkA
 rcases chk_two q with h | h <;> rw [h]
 ·
  rw [if_pos ⟨h1, h2, rfl⟩]
 ·
  rw [if_neg (by rintro ⟨_, _, h⟩; cases h)]
def learnA (n : Int) (q : List Sp) (a s : Int) : Int × Int × List Sp := if chkA n q = 0 then (if (joinE q [(a, s, s)]).1 = 0 then (0, n, (joinE q [(a, s, s)]).2) else ((joinE q [(a, s, s)]).1, 0, [])) else (2, 0, [])
def newA (n : Int) : Int × Int × List Sp := if chkA n [] = 0 then (0, n, []) else (2, 0, [])
end
section
open Go.RowKit Go.Lib

def insDt (l : List EvP) (x : EvP) : List EvP := l.takeWhile (fun y => decide (LtEv y x)) ++ x :: l.dropWhile (fun y => decide (LtEv y x))
def byDt (l : List EvP) : List EvP := l.foldl insDt []
def planA (s : List EvP) (n : Int) (k : List Sp) : List EvP := if StOk s ∧ chkA n k = 0 then byDt (s.filter (fun e => !hasE k e.n e.s)) else []
def nextA (p : List EvP) (but : List (Int × Int)) : Option EvP := p.find? (fun e => !decide ((e.n, e.s) ∈ but))
def agreedA (s : List EvP) (n : Int) (k : List Sp) : Bool := decide (StOk s) && decide (chkA n k = 0) && (s.filter (fun e => !hasE k e.n e.s)).isEmpty
theorem insDt_perm (l : List EvP) (x : EvP) : (insDt l x).Perm (x :: l) := by
 unfold insDt
 have := List.takeWhile_append_dropWhile (p := fun y => decide (LtEv y x)) (l := l)
 conv => rhs; rw [← this]
 exact List.perm_middle
theorem insAll_perm : ∀ (l m : List EvP), (l.foldl insDt m).Perm (l ++ m)
 | [], m => List.Perm.refl _
 | x :: l, m => by
  have h := insAll_perm l (insDt m x)
  refine h.trans (((insDt_perm m x).append_left l).trans ?_)
  exact List.perm_middle
theorem byDt_perm (l : List EvP) : (byDt l).Perm l := by
 have := insAll_perm l []
 rw [List.append_nil] at this
 exact this
theorem mem_takeW {α : Type} {p : α → Bool} : ∀ {l : List α} {x : α}, x ∈ l.takeWhile p → p x = true
 | [], x, h => by simp at h
 | y :: l, x, h => by
  rw [List.takeWhile_cons] at h
  split at h
  ·
   rename_i q
   rcases List.mem_cons.1 h with rfl | r
   ·
    exact q
   ·
    exact mem_takeW r
  ·
   simp at h
theorem lt_or {a b : EvP} (h : dotNe a b) : LtEv a b ∨ LtEv b a := by unfold dotNe at h; unfold LtEv LtD; omega
theorem insDt_sorted {l : List EvP} {x : EvP} (h : l.Pairwise LtEv) (hx : ∀ y ∈ l, dotNe y x) : (insDt l x).Pairwise LtEv := by
 have hl := List.takeWhile_append_dropWhile (p := fun y => decide (LtEv y x)) (l := l)
 have h2 := h
 rw [← hl, List.pairwise_append] at h2
 obtain ⟨ht, hd, hc⟩ := h2
 have big : ∀ y ∈ l.dropWhile (fun y => decide (LtEv y x)), LtEv x y := by
  intro y hy
  rcases hq : l.dropWhile (fun y => decide (LtEv y x)) with _ | ⟨z, r⟩
  ·
   rw [hq] at hy; simp at hy
  ·
   have hz : ¬ LtEv z x := by
    have := List.head_dropWhile_not (fun y => decide (LtEv y x)) (l := l) (by rw [hq]; simp)
    simpa [hq] using this
   have zl : z ∈ l := (List.dropWhile_sublist _).subset (by rw [hq]; simp)
   have xz : LtEv x z := (lt_or (hx z zl)).resolve_left hz
   rw [hq] at hy hd
   rcases List.mem_cons.1 hy with rfl | r'
   ·
    exact xz
   ·
    exact xz.tr ((List.pairwise_cons.1 hd).1 y r')
 unfold insDt
 rw [List.pairwise_append]
 refine ⟨ht, List.pairwise_cons.2 ⟨big, hd⟩, fun a ha b hb => ?_⟩
 have al : LtEv a x := by have := mem_takeW ha; simpa using this
 rcases List.mem_cons.1 hb with rfl | r
 ·
  exact al
 ·
  exact al.tr (big b r)
theorem insAll_sorted : ∀ (l m : List EvP), m.Pairwise LtEv → (l ++ m).Pairwise dotNe → (l.foldl insDt m).Pairwise LtEv
 | [], m, h, _ => h
 | x :: l, m, h, hd => by
  have hd2 := hd
  rw [List.cons_append, List.pairwise_cons] at hd2
  refine insAll_sorted l (insDt m x) (insDt_sorted h (fun y hy => dotNe_comm (hd2.1 y (by simp [hy])))) ?_
  have p : (l ++ insDt m x).Perm (x :: (l ++ m)) := ((insDt_perm m x).append_left l).trans List.perm_middle
  exact (p.pairwise_iff (fun {a b} => dotNe_comm)).2 hd
theorem byDt_sorted {l : List EvP} (h : l.Pairwise dotNe) : (byDt l).Pairwise LtEv := insAll_sorted l [] List.Pairwise.nil (by rw [List.append_nil]; exact h)
theorem byDt_is {l ys : List EvP} (h : l.Pairwise dotNe) (hp : ys.Perm l) (hs : ys.Pairwise (fun x y => ¬ LtEv y x)) : ys = byDt l := by
 have hd : ys.Pairwise dotNe := (hp.pairwise_iff (fun {a b} => dotNe_comm)).2 h
 have h1 : ys.Pairwise LtEv := (hs.and hd).imp (fun {a b} q => (lt_or q.2).resolve_right q.1)
 exact sorted_ext LtEv.irr (fun a b c => LtEv.tr) h1 (byDt_sorted h) (fun x => hp.mem_iff.trans (byDt_perm l).mem_iff.symm)
theorem byDt_len (l : List EvP) : (byDt l).length = l.length := (byDt_perm l).length_eq
theorem byDt_snoc (l : List EvP) (x : EvP) : byDt (l ++ [x]) = insDt (byDt l) x := by unfold byDt; rw [List.foldl_append]; rfl
theorem insDt_at {l : List EvP} {x : EvP} {k : Nat} (hk : k ≤ l.length) (h1 : ∀ y ∈ l.take k, LtEv y x) (h2 : k = l.length ∨ ∃ y, l[k]? = some y ∧ ¬ LtEv y x) : insDt l x = l.take k ++ x :: l.drop k := by
 have key : ∀ (l : List EvP) (k : Nat), k ≤ l.length → (∀ y ∈ l.take k, LtEv y x) → (k = l.length ∨ ∃ y, l[k]? = some y ∧ ¬ LtEv y x) → l.takeWhile (fun y => decide (LtEv y x)) = l.take k ∧ l.dropWhile (fun y => decide (LtEv y x)) = l.drop k := by
  intro l
  induction l with
  | nil => intro k hk _ _; simp
  | cons z l ih =>
   intro k hk a b
   cases k with
   | zero =>
    rcases b with b | ⟨y, hy, hn⟩
    ·
     simp at b
    ·
     simp at hy
     subst hy
     simp [hn]
   | succ k =>
    have hz : LtEv z x := a z (by simp)
    have := ih k (by simpa using hk) (fun y hy => a y (by simp [hy])) (b.imp (fun q => by simpa using q) (fun ⟨y, q, r⟩ => ⟨y, by simpa using q, r⟩))
    simp [hz, this.1, this.2]
 obtain ⟨a, b⟩ := key l k hk h1 h2
 unfold insDt
 rw [a, b]
theorem agreed_plan {s : List EvP} {n : Int} {k : List Sp} : agreedA s n k = (decide (StOk s) && decide (chkA n k = 0) && (planA s n k).isEmpty) := by
 unfold agreedA planA
 by_cases h : StOk s ∧ chkA n k = 0
 ·
  rw [if_pos h, decide_eq_true h.1, decide_eq_true h.2]
  have L := byDt_len (s.filter (fun e => !hasE k e.n e.s))
  generalize s.filter (fun e => !hasE k e.n e.s) = l at L ⊢
  cases l with
  | nil => rfl
  | cons a l =>
   generalize byDt (a :: l) = m at L ⊢
   cases m with
   | nil => simp at L
   | cons b m => rfl
 ·
  by_cases q : StOk s
  ·
   rw [decide_eq_false (fun r => h ⟨q, r⟩)]; simp
  ·
   rw [decide_eq_false q]; simp
/-! It leads to agreement. -/
end
section
open Go.RowKit Go.Lib


theorem app_ownk {w w6 w7 : World} {B A2 : Option Addr} (hB : ∀ a, B = some a → w.heap.size ≤ a.block) (hC : Chg [] w w6) (d2 : w6.grownBy w7 (B.map (·.block))) (e2 : A2 = B ∨ A2 = some ⟨w6.heap.size, 0, none⟩) : (∀ a, A2 = some a → w.heap.size ≤ a.block) ∧ Chg [] w w7 := by
 refine ⟨?_, hC.grown d2 (fun i hi => ?_)⟩
 ·
  rcases e2 with rfl | rfl
  ·
   exact hB
  ·
   rintro a ⟨⟩; exact hC.size
 ·
  cases B with
  | none => simp at hi
  | some a => simp at hi; subst hi; exact .inr (hB a rfl)
end
section
open Go.RowKit Go.Lib


theorem box5 {w w0 : World} {z s0 : Nat} {a0 a1 a2 a3 a4 a5 a6 : Value} {T : TypeId} (v5 : Value) (q0 : w.heap[s0]? = some (.cells #[a0, a1, a2, a3, a4, a5, a6] T (0, 0))) (hz : z ≤ s0) (C : Chg [] w0 w) (hw0 : w0.heap.size = z) :
 (w.setCell ⟨s0, 5, none⟩ v5).heap[s0]? = some (.cells #[a0, a1, a2, a3, a4, v5, a6] T (0, 0)) ∧ Chg [] w0 (w.setCell ⟨s0, 5, none⟩ v5) := ⟨heap_setCell_same _ s0 5 _ _ v5 q0, C.put (by omega) 5 v5⟩
theorem box6 {w w0 : World} {z s0 : Nat} {a0 a1 a2 a3 a4 a5 a6 : Value} {T : TypeId} (v6 : Value) (q0 : w.heap[s0]? = some (.cells #[a0, a1, a2, a3, a4, a5, a6] T (0, 0))) (hz : z ≤ s0) (C : Chg [] w0 w) (hw0 : w0.heap.size = z) :
 (w.setCell ⟨s0, 6, none⟩ v6).heap[s0]? = some (.cells #[a0, a1, a2, a3, a4, a5, v6] T (0, 0)) ∧ Chg [] w0 (w.setCell ⟨s0, 6, none⟩ v6) := ⟨heap_setCell_same _ s0 6 _ _ v6 q0, C.put (by omega) 6 v6⟩

set_option maxRecDepth 100000 in
theorem ktown_any (w : World) (A : Option Addr) (c : Nat) (xs : List EvT) (es : List EvP) (h : RdK evTy w A xs.length xs) (hx : EvsR w xs es) (hn : xs.length ≤ 100000) (hs : ∀ e ∈ es, e.b.length ≤ 140737488351232 ∧ e.q.length ≤ 100000) :
  Calls Tryz.prog 81 #[.slice A xs.length c] w fun r w' => ∃ (A' : Option Addr) (c' : Nat) (zs : List EvT), r = .returned (.slice A' zs.length c') ∧ RdK evTy w' A' zs.length zs ∧ EvsR w' zs es ∧ Chg [] w w' := by
 have RR := h_ h
 have RE := h_ hx
 have ZL := h_ hn
 have CQ := h_ hs
 clear h hx hn hs
 go_enter Tryz.func81, Tryz.ntmps81
 go_wp2
 go_loopw [3, 4] (fun o i wq => ∃ (k : Nat) (A2 : Option Addr) (d2 : Nat) (us : List EvT), k ≤ xs.length ∧ us.length = k ∧ i = .int .i64 k ∧ o = .slice A2 us.length d2 ∧ Hid (OwnK evTy wq A2 d2 us) ∧ Hid (EvsR wq us (es.take k)) ∧ Hid (ApartE wq A2 us) ∧ Hid (∀ a, A2 = some a → w.heap.size ≤ a.block) ∧ Hid (Chg [] w wq)) (fun _ i _ => xs.length - (RowKit.intOf i).toNat)
 case atStart => exact ⟨0, none, 0, [], Nat.zero_le _, rfl, rfl, rfl, OwnK.none_ _, h_ (by simpa using EvsR.nil _), h_ (fun x hx => by simp at hx), h_ (by simp), Chg.refl _ _⟩
 case round =>
  obtain ⟨k, A2, d2, us, hk, hyl, rfl, rfl, RO, RU, RA, RN, RC⟩ := hrel
  have i0 : (0 : Int) ≤ (k : Int) := by omega
  by_cases hlt : k < xs.length
  ·
   have i1 : (k : Int) < (xs.length : Int) := by omega
   have i3 : IntKind.i64.wrap ((k : Int) + 1) = (k : Int) + 1 := IntWalk.i64_in _ (by have := ZL.out; omega)
   obtain ⟨g, o, eA, _⟩ := RR.out.line (by omega)
   subst eA
   obtain ⟨x, e, ex, ee, rx⟩ := RE.out.at_ hlt
   obtain ⟨z0, z1, z2, z3, z4, z5, z6⟩ := evCells (RR.out.chg RC.out (by simp)) ex
   have RX := h_ (rx.chg RC.out)
   have ET : Hid (es.take (k + 1) = es.take k ++ [e]) := h_ (by rw [List.take_add_one, ee]; rfl)
   have HS := h_ (CQ.out e (List.mem_of_getElem? ee))
   have YL := h_ hyl
   clear ex ee rx hyl
   obtain ⟨w2, hw, hc, b0⟩ := news1 wr (.cells #[.int .i64 x.n, .int .i64 x.s, .string x.p, .int .i64 x.k, .int .i64 x.m, .slice x.A x.l x.c, .slice x.B x.bl x.bc] 40)
   have W2 := h_ hw
   have HR := h_ (RX.out.chg hc)
   have C := h_ hc
   obtain ⟨g0, hg0⟩ : ∃ g, wr.heap.size = g := ⟨_, rfl⟩
   have SZ := h_ hg0
   rw [hg0] at b0
   have B0 := h_ b0
   have L0 := h_ (lt_of_heap b0)
   have LZg0 : Hid (g0 ≤ g0) := h_ (Nat.le_refl _)
   clear hw hc b0 hg0
   go_upto_region 6 with fail
   rw [← W2.out, SZ.out]
   clear z0 z1 z2 z3 z4 z5 z6 W2
   have z0 := cell_of B0.out 0
   have fz0 := free_of B0.out 0
   have z1 := cell_of B0.out 1
   have fz1 := free_of B0.out 1
   have z2 := cell_of B0.out 2
   have fz2 := free_of B0.out 2
   have z3 := cell_of B0.out 3
   have fz3 := free_of B0.out 3
   have z4 := cell_of B0.out 4
   have fz4 := free_of B0.out 4
   have z5 := cell_of B0.out 5
   have fz5 := free_of B0.out 5
   have z6 := cell_of B0.out 6
   have fz6 := free_of B0.out 6
   simp only [gA, gY, gZ] at z0 z1 z2 z3 z4 z5 z6
   obtain ⟨wb, hwb, cb, bb⟩ := news1 w2 (.cells #[] 5)
   have WB := h_ hwb
   have OB := h_ (show OwnB wb (some ⟨w2.heap.size, 0, none⟩) 0 [] from .of (full := []) bb (Nat.zero_le _) (Nat.zero_le _) rfl rfl)
   have RB := h_ (HR.out.A.chg cb (by simp))
   have CB := h_ cb
   have BD : Hid (0 + x.l ≤ 140737488355327) := h_ (by have := HS.out.1; rw [HR.out.l]; omega)
   have zb := cell_of (cb.at_ B0.out (by simp)) 5
   simp only [gA, gY, gZ] at zb
   clear hwb cb bb
   go_upto_region 7 with (first | (at_builtin; refine wpList_app rfl (.tmp 16) (.tmp 19) rfl rfl OB.out rfl rfl RB.out BD.out ?_; intro A3 c3 w3 o3 g3 e3; have h3 : OwnB w3 A3 c3 e.b ∧ (∀ a, A3 = some a → w2.heap.size ≤ a.block) ∧ Chg [] w2 w3 := ⟨by simpa using o3, app_ownk (fun a ha => by cases ha; exact Nat.le_refl _) CB.out g3 e3⟩; have b3 := h3.2.2.at_ B0.out (by simp); have zz := cell_of b3 5; have ff := free_of b3 5; simp only [gA, gY, gZ] at zz; clear b3; clear o3 g3 e3 WB OB RB CB BD zb; rw [Nat.zero_add]) | rw [← WB.out])
   clear z0 z1 z2 z3 z4 z5 z6 fz0 fz1 fz2 fz3 fz4 fz5 fz6
   replace B0 := h_ (h3.2.2.at_ B0.out (by simp))
   have O3 := h_ h3.1
   have N3 := h_ h3.2.1
   have S2 := h_ C.out.size
   have LB : Hid (w2.heap.size ≤ w3.heap.size) := h_ h3.2.2.size
   replace C := h_ (C.out.trans h3.2.2)
   have LT3 : Hid (∀ a, A3 = some a → a.block ≠ g0) := h_ (fun a ha => by
    have q := N3.out a ha
    have r0 := L0.out
    omega)
   have LX3 : Hid (∀ a, A3 = some a → a.block < w3.heap.size) := h_ (fun a ha => by
    obtain ⟨g, hg⟩ : ∃ g, a.block = g := ⟨_, rfl⟩
    rcases O3.out with ⟨q, _⟩ | ⟨g, full, q, hh, _⟩
    ·
     rw [q] at ha; cases ha
    ·
     rw [q] at ha; cases ha; exact lt_of_heap hh)
   clear h3
   have z0 := cell_of B0.out 0
   have fz0 := free_of B0.out 0
   have z1 := cell_of B0.out 1
   have fz1 := free_of B0.out 1
   have z2 := cell_of B0.out 2
   have fz2 := free_of B0.out 2
   have z3 := cell_of B0.out 3
   have fz3 := free_of B0.out 3
   have z4 := cell_of B0.out 4
   have fz4 := free_of B0.out 4
   have z5 := cell_of B0.out 5
   have fz5 := free_of B0.out 5
   have z6 := cell_of B0.out 6
   have fz6 := free_of B0.out 6
   simp only [gA, gY, gZ] at z0 z1 z2 z3 z4 z5 z6
   clear zz ff; clear z0 z1 z2 z3 z4 z5 z6 fz0 fz1 fz2 fz3 fz4 fz5 fz6
   obtain ⟨p0, p2⟩ := box5 (.slice A3 x.l c3) B0.out LZg0.out C.out SZ.out
   generalize hW : (w3.setCell ⟨g0, 5, none⟩ (.slice A3 x.l c3)) = w4 at *
   have O4 := h_ (O3.out.chg (S := [g0]) (hW ▸ (Chg.refl [g0] w3).put' 5 _) (fun a ha => by simp; exact LT3.out a ha))
   replace B0 := h_ p0
   have LW : Hid (w3.heap.size ≤ w4.heap.size) := h_ (by rw [← hW]; simp [World.setCell])
   replace C := h_ p2
   have RBp := h_ (RX.out.B.chg C.out (by simp))
   clear p0 p2 hW O3
   have z0 := cell_of B0.out 0
   have fz0 := free_of B0.out 0
   have z1 := cell_of B0.out 1
   have fz1 := free_of B0.out 1
   have z2 := cell_of B0.out 2
   have fz2 := free_of B0.out 2
   have z3 := cell_of B0.out 3
   have fz3 := free_of B0.out 3
   have z4 := cell_of B0.out 4
   have fz4 := free_of B0.out 4
   have z5 := cell_of B0.out 5
   have fz5 := free_of B0.out 5
   have z6 := cell_of B0.out 6
   have fz6 := free_of B0.out 6
   simp only [gA, gY, gZ] at z0 z1 z2 z3 z4 z5 z6
   obtain ⟨wb, hwb, cb, bb⟩ := news1 w4 (.cells #[] 81)
   have WB := h_ hwb
   have OB := h_ (show OwnK spanTy wb (some ⟨w4.heap.size, 0, none⟩) 0 [] from OwnK.of (full := []) bb (Nat.zero_le _) (Nat.zero_le _) rfl rfl)
   have RB := h_ (RBp.out.chg cb (by simp))
   have CB := h_ cb
   have BD : Hid ((0 + x.bl) * 400 ≤ 140737488355327) := h_ (by have := HS.out.2; rw [HR.out.bl]; omega)
   have zb := cell_of (cb.at_ B0.out (by simp)) 6
   simp only [gA, gY, gZ] at zb
   clear hwb cb bb
   go_upto_region 8 with (first | (at_builtin; refine wpList_appK (R := spanTy) rfl (.tmp 23) (.tmp 25) rfl rfl (A := some ⟨w4.heap.size, 0, none⟩) (n := 0) (m := x.bl) (c := 0) (d := x.bc) (xs := []) (ys := e.q) OB.out rfl rfl RB.out BD.out ?_; intro A5 c5 w5 o5 g5 e5; have h5 : OwnK spanTy w5 A5 c5 e.q := o5; obtain ⟨hN5, hc5⟩ := app_ownk (w := w4) (fun a ha => by cases ha; exact Nat.le_refl _) CB.out g5 e5; have b5 := hc5.at_ B0.out (by simp); have zz := cell_of b5 6; have ff := free_of b5 6; simp only [gA, gY, gZ] at zz; clear b5; clear o5 g5 e5 WB OB RB CB BD zb; rw [Nat.zero_add]) | rw [← WB.out])
   clear z0 z1 z2 z3 z4 z5 z6 fz0 fz1 fz2 fz3 fz4 fz5 fz6
   replace B0 := h_ (hc5.at_ B0.out (by simp))
   replace O4 := h_ (O4.out.chg hc5 (by simp))
   have P5 := h_ h5
   have N5 : Hid (∀ a, A5 = some a → w3.heap.size ≤ a.block) := h_ (fun a ha => Nat.le_trans LW.out (hN5 a ha))
   replace C := h_ (C.out.trans hc5)
   have LT5 : Hid (∀ a, A5 = some a → a.block ≠ g0) := h_ (fun a ha => by
    have q := N5.out a ha
    have r0 := L0.out
    have r2 := LB.out
    omega)
   clear h5 hN5 hc5 RBp
   have z0 := cell_of B0.out 0
   have fz0 := free_of B0.out 0
   have z1 := cell_of B0.out 1
   have fz1 := free_of B0.out 1
   have z2 := cell_of B0.out 2
   have fz2 := free_of B0.out 2
   have z3 := cell_of B0.out 3
   have fz3 := free_of B0.out 3
   have z4 := cell_of B0.out 4
   have fz4 := free_of B0.out 4
   have z5 := cell_of B0.out 5
   have fz5 := free_of B0.out 5
   have z6 := cell_of B0.out 6
   have fz6 := free_of B0.out 6
   simp only [gA, gY, gZ] at z0 z1 z2 z3 z4 z5 z6
   clear zz ff; clear z0 z1 z2 z3 z4 z5 z6 fz0 fz1 fz2 fz3 fz4 fz5 fz6
   obtain ⟨p0, p2⟩ := box6 (.slice A5 x.bl c5) B0.out LZg0.out C.out SZ.out
   generalize hW : (w5.setCell ⟨g0, 6, none⟩ (.slice A5 x.bl c5)) = w6 at *
   have O6 := h_ (O4.out.chg (S := [g0]) (hW ▸ (Chg.refl [g0] w5).put' 6 _) (fun a ha => by simp; exact LT3.out a ha))
   have P6 := h_ (P5.out.chg (S := [g0]) (hW ▸ (Chg.refl [g0] w5).put' 6 _) (fun a ha => by simp; exact LT5.out a ha))
   replace B0 := h_ p0
   replace C := h_ p2
   clear p0 p2 hW O4 P5
   have z0 := cell_of B0.out 0
   have fz0 := free_of B0.out 0
   have z1 := cell_of B0.out 1
   have fz1 := free_of B0.out 1
   have z2 := cell_of B0.out 2
   have fz2 := free_of B0.out 2
   have z3 := cell_of B0.out 3
   have fz3 := free_of B0.out 3
   have z4 := cell_of B0.out 4
   have fz4 := free_of B0.out 4
   have z5 := cell_of B0.out 5
   have fz5 := free_of B0.out 5
   have z6 := cell_of B0.out 6
   have fz6 := free_of B0.out 6
   simp only [gA, gY, gZ] at z0 z1 z2 z3 z4 z5 z6
   have KA : Hid (∀ a, A3 = some a → a.block < w6.heap.size ∧ wr.heap.size ≤ a.block) := h_ (fun a ha => ⟨O6.out.lt a ha, by have := N3.out a ha; have := S2.out; omega⟩)
   have KB : Hid (∀ a, A5 = some a → a.block < w6.heap.size ∧ wr.heap.size ≤ a.block) := h_ (fun a ha => ⟨P6.out.lt a ha, by have := N5.out a ha; have := S2.out; have := LB.out; omega⟩)
   have KC : Hid (x.bl ≤ c5 ∧ c5 ≤ maxLen) := h_ (by have q := P6.out.cap; have := RX.out.bl; exact ⟨by omega, q.2⟩)
   have XR : Hid (EvR w6 ⟨x.n, x.s, x.p, x.k, x.m, A3, x.l, c3, A5, x.bl, c5⟩ e) := h_ ⟨RX.out.n, RX.out.s, RX.out.p, RX.out.k, RX.out.m, RX.out.l, RX.out.bl, by show Bs w6 A3 x.l e.b; rw [RX.out.l]; exact O6.out.reads, by show RdK spanTy w6 A5 x.bl e.q; rw [RX.out.bl]; exact P6.out.reads⟩
   have LA1 := h_ RO.out.lt
   replace RO := h_ (RO.out.chg C.out (by simp))
   replace RU := h_ (RU.out.chg C.out)
   have S6 := h_ C.out.size
   replace RC := h_ (RC.out.trans C.out)
   clear C HR N3 N5 LT3 LT5 LX3 LB LW S2 O6 P6 B0 HS RX
   obtain ⟨w8, hw, hc, b3⟩ := news1 w6 (.cells #[.int .i64 x.n, .int .i64 x.s, .string x.p, .int .i64 x.k, .int .i64 x.m, .slice A3 x.l c3, .slice A5 x.bl c5] 40)
   have W3 := h_ hw
   have R3 := h_ (rd_oneEc (X := ⟨x.n, x.s, x.p, x.k, x.m, A3, x.l, c3, A5, x.bl, c5⟩) b3)
   obtain ⟨X, hX⟩ : ∃ X : EvT, X = ⟨x.n, x.s, x.p, x.k, x.m, A3, x.l, c3, A5, x.bl, c5⟩ := ⟨_, rfl⟩
   have fX : X.A = A3 ∧ X.B = A5 ∧ X.bl = x.bl ∧ X.bc = c5 := by rw [hX]; exact ⟨rfl, rfl, rfl, rfl⟩
   rw [← hX] at R3 XR
   have FX := h_ fX
   replace RO := h_ (RO.out.chg hc (by simp))
   replace RU := h_ (RU.out.chg hc)
   replace XR := h_ (XR.out.chg hc)
   have S3 := h_ hc.size
   replace RC := h_ (RC.out.trans hc)
   clear hw hc b3 hX fX
   have N4 : Hid ((us.length + 1) * 400 ≤ 140737488355327) := h_ (by have := YL.out; have := ZL.out; omega)
   go_wp2_with (at_builtin; rw [← W3.out]; refine wpList_appK (R := evTy) rfl (.tmp 28) (.tmp 30) rfl rfl (A := A2) (n := us.length) (m := 1) (c := d2) (d := 1) (xs := us) (ys := [X]) RO.out rfl rfl R3.out N4.out ?_; intro A7 c7 w7 o7 g7 e7; have O7 := h_ o7; have F7 := h_ (fresh_appE RN.out RC.out g7 e7); have G7 := h_ g7; have E7 := h_ e7; clear o7 g7 e7)
   clear z0 z1 z2 z3 z4 z5 z6 fz0 fz1 fz2 fz3 fz4 fz5 fz6
   have CG : Hid (Chg (blkOf A2) w8 w7) := h_ ((Chg.refl (blkOf A2) w8).grown G7.out (fun i hi => by
    cases A2 with
    | none => simp at hi
    | some a => simp at hi; subst hi; exact .inl (mem_blkOf rfl)))
   have RE7 : Hid (EvsR w7 (us ++ [X]) (es.take (k + 1))) := h_ (by
    rw [ET.out]
    refine EvsR.snoc (RU.out.chgS CG.out (fun y hy => ⟨fun a ha q => ?_, fun a ha q => ?_⟩)) (XR.out.chgS CG.out (fun a ha q => ?_) (fun a ha q => ?_))
    ·
     obtain ⟨b, hb, e⟩ := of_blkOf q; exact ((RA.out y hy).1 a ha).2 b hb e.symm
    ·
     obtain ⟨b, hb, e⟩ := of_blkOf q; exact ((RA.out y hy).2.1 a ha).2 b hb e.symm
    ·
     rw [FX.out.1] at ha; obtain ⟨b, hb, e⟩ := of_blkOf q; have := LA1.out b hb; have := (KA.out a ha).2; omega
    ·
     rw [FX.out.2.1] at ha; obtain ⟨b, hb, e⟩ := of_blkOf q; have := LA1.out b hb; have := (KB.out a ha).2; omega)
   have RA7 : Hid (ApartE w7 A7 (us ++ [X])) := h_ (fun y hy => by
    have s7 := CG.out.size
    have s3 := S3.out
    have s6 := S6.out
    have lo : ∀ a : Addr, a.block < w8.heap.size → (∀ b, A2 = some b → a.block ≠ b.block) → a.block < w7.heap.size ∧ ∀ b, A7 = some b → a.block ≠ b.block := fun a h1 h2 => ⟨by omega, fun b hb => by
     rcases E7.out with q | q
     ·
      rw [q] at hb; exact h2 b hb
     ·
      rw [q] at hb; cases hb; exact Nat.ne_of_lt h1⟩
    rcases List.mem_append.1 hy with r | r
    ·
     exact ⟨fun a ha => lo a (by have := ((RA.out y r).1 a ha).1; omega) ((RA.out y r).1 a ha).2, fun a ha => lo a (by have := ((RA.out y r).2.1 a ha).1; omega) ((RA.out y r).2.1 a ha).2, (RA.out y r).2.2⟩
    ·
     simp at r
     subst r
     exact ⟨fun a ha => by rw [FX.out.1] at ha; exact lo a (by have := (KA.out a ha).1; omega) (fun b hb => by have := LA1.out b hb; have := (KA.out a ha).2; omega), fun a ha => by rw [FX.out.2.1] at ha; exact lo a (by have := (KB.out a ha).1; omega) (fun b hb => by have := LA1.out b hb; have := (KB.out a ha).2; omega), by rw [FX.out.2.2.1, FX.out.2.2.2]; exact KC.out⟩)
   clear CG G7 E7 RO RU RA; go_wp2; go_round
   case rel => exact ⟨k + 1, A7, c7, us ++ [X], by omega, by simp [YL.out], by go_num, by simp, O7, RE7, RA7, h_ F7.out.1, F7.out.2⟩
   case measure => simp [RowKit.intOf]; omega
  ·
   obtain rfl : k = xs.length := by omega
   have i1 : ¬ (xs.length : Int) < (xs.length : Int) := by omega
   have ET : es.take xs.length = es := by rw [RE.out.1]; exact List.take_length
   rw [ET] at RU
   have YL := h_ hyl
   clear hyl ET; go_wp2; go_ret
   exact ⟨A2, d2, us, rfl, RO.out.reads, RU.out, RC.out⟩
end
section
open Go.RowKit Go.Lib


theorem pathsE_snoc {es : List EvP} {k : Nat} {e : EvP} (h : es[k]? = some e) : pathsE (es.take (k + 1)) = addP (pathsE (es.take k)) e.p := by
 unfold pathsE
 rw [List.take_add_one, h, List.foldl_append]
 rfl
theorem pathsE_len (es : List EvP) : (pathsE es).length ≤ es.length := by
 have key : ∀ (l : List EvP) (acc : List (List UInt8)), (l.foldl (fun acc e => addP acc e.p) acc).length ≤ acc.length + l.length := by
  intro l
  induction l with
  | nil => intro acc; simp
  | cons x l ih =>
   intro acc
   rw [List.foldl_cons]
   have := ih (addP acc x.p)
   have h2 : (addP acc x.p).length ≤ acc.length + 1 := by unfold addP; split <;> simp
   rw [List.length_cons]
   omega
 have := key es []
 unfold pathsE
 simpa using this
theorem any_mem (ps : List (List UInt8)) (p : List UInt8) : ps.any (fun q => decide (q = p)) = decide (p ∈ ps) := by
 rw [Bool.eq_iff_iff, List.any_eq_true, decide_eq_true_eq]
 constructor
 ·
  rintro ⟨q, h, e⟩
  rw [← of_decide_eq_true e]
  exact h
 ·
  intro h
  exact ⟨p, h, decide_eq_true rfl⟩

set_option maxRecDepth 100000 in
theorem ktpaths_any (w : World) (A : Option Addr) (c : Nat) (xs : List EvT) (es : List EvP) (h : RdK evTy w A xs.length xs) (hx : EvsR w xs es) (hn : xs.length ≤ 100000) :
  Calls Tryz.prog 76 #[.slice A xs.length c] w fun r w' => ∃ (B : Option Addr) (d : Nat), r = .returned (.slice B (pathsE es).length d) ∧ RdK textTy w' B (pathsE es).length (pathsE es) ∧ Chg [] w w' := by

 have HA := h_ h
 have HX := h_ hx
 have HN := h_ hn
 clear h hx hn
 go_enter Tryz.func76, Tryz.ntmps76
 go_wp2
 go_loopw [3, 4, 5, 6] (fun v3 v4 _ _ wr => ∃ (k n : Nat) (A1 : Option Addr) (d1 : Nat) (ps : List (List UInt8)), k ≤ xs.length ∧ v4 = .int .i64 (k : Int) ∧ v3 = .slice A1 n d1 ∧ Hid (ps = pathsE (es.take k)) ∧ Hid (ps.length = n) ∧ Hid (OwnK textTy wr A1 d1 ps) ∧ Hid (∀ a, A1 = some a → w.heap.size ≤ a.block) ∧ Hid (Chg [] w wr)) (fun _ v4 _ _ _ => xs.length - (RowKit.intOf v4).toNat)
 case atStart => exact ⟨0, 0, none, 0, [], Nat.zero_le _, rfl, rfl, h_ rfl, h_ rfl, OwnK.none_ _, h_ (by simp), Chg.refl _ _⟩
 case round =>
  obtain ⟨k, n, A1, d1, ps, hk, rfl, rfl, PS, PN, OD, NA, PC⟩ := hrel
  generalize wr = wo at *
  clear wr
  have j0 : (0 : Int) ≤ (k : Int) := by omega
  by_cases hlt : k < xs.length
  ·
   have j1 : (k : Int) < (xs.length : Int) := by omega
   have j3 : IntKind.i64.wrap ((k : Int) + 1) = (k : Int) + 1 := IntWalk.i64_in _ (by have := HN.out; omega)
   obtain ⟨g3, o3, eA, _⟩ := HA.out.line (by omega)
   have EA := h_ eA
   obtain ⟨x, e, ex, ee, rx⟩ := HX.out.at_ hlt
   have EX := h_ ex
   have XP := h_ rx.p
   have NXT : Hid (pathsE (es.take (k + 1)) = addP ps e.p) := h_ (by rw [PS.out]; exact pathsE_snoc ee)
   have NL : Hid (n ≤ 100000) := h_ (by have := PN.out; have q := pathsE_len (es.take k); rw [← PS.out, List.length_take] at q; have := HN.out; omega)
   clear ex ee rx
   rw [eA]
   clear eA; go_wp2
   go_loopw [5, 6] (fun v5 v6 wr => ∃ (i : Nat), i ≤ n ∧ v6 = .int .i64 (i : Int) ∧ v5 = .bool ((ps.take i).any (fun q => decide (q = e.p))) ∧ Hid (Chg [] wo wr)) (fun _ v6 _ => n - (RowKit.intOf v6).toNat)
   case atStart => exact ⟨0, Nat.zero_le _, rfl, rfl, Chg.refl _ _⟩
   case round =>
    obtain ⟨i, hi, rfl, rfl, QC⟩ := hrel
    have i0 : (0 : Int) ≤ (i : Int) := by omega
    by_cases hil : i < n
    ·
     have i1 : (i : Int) < (n : Int) := by omega
     have i3 : IntKind.i64.wrap ((i : Int) + 1) = (i : Int) + 1 := IntWalk.i64_in _ (by have := NL.out; omega)
     have RD := OD.out.reads
     rw [PN.out] at RD
     obtain ⟨g4, o4, eB, _⟩ := RD.line (by omega)
     subst eB
     obtain ⟨q, hq⟩ : ∃ q, ps[i]? = some q := ⟨_, List.getElem?_eq_getElem (by have := PN.out; omega)⟩
     have HQ := h_ hq
     have RDH := h_ RD
     have ET : Hid ((ps.take (i + 1)).any (fun q => decide (q = e.p)) = ((ps.take i).any (fun q => decide (q = e.p)) || decide (q = e.p))) := h_ (by rw [List.take_add_one, hq, List.any_append]; simp)
     have HC : Hid (∀ w', Chg [] wr w' → w'.cell? ⟨g4, o4 + i, none⟩ = some (.string (strOf q)) ∧ w'.cell? ⟨g3, o3 + k * 7 + 2, none⟩ = some (.string (strOf e.p))) := h_ (fun w' hc => by
      refine ⟨textCells (RDH.out.chg (QC.out.trans hc) (by simp)) HQ.out, ?_⟩
      have c := (evCells ((EA.out ▸ HA.out).chg (PC.out.trans (QC.out.trans hc)) (by simp)) EX.out).2.2.1
      rw [XP.out] at c
      exact c)
     clear hq RD
     rcases hb : (ps.take i).any (fun q => decide (q = e.p)) with _ | _
     ·
      skip
      by_cases hd : q = e.p
      ·
       skip
       have EB : Hid ((ps.take (i + 1)).any (fun q => decide (q = e.p)) = true) := h_ (by rw [ET.out, hb, decide_eq_true hd]; rfl)
       have e4 : (q == e.p) = true := by rw [hd]; exact beq_self_eq_true _
       have e5 : ((strOf q == strOf e.p) : Bool) = true := by rw [hd]; show ((e.p.toArray == e.p.toArray) : Bool) = true; simp
       clear hb hd
       go_upto_region 9 with fail
       refine wp_region_held_drew (S := fun w' => Chg [] wr w') (by kernel_rfl) (Chg.refl [] wr).drew (fun hHeld => ?_)
       refine sy 0 19 rfl rfl ?_; try simp only [Act.put, sA, s0, s1]
       refine sy 1 20 rfl rfl ?_; try simp only [Act.put, sA, s0, s1]
       refine sy 2 21 rfl rfl ?_; try simp only [Act.put, sA, s0, s1]
       refine sy 3 22 rfl rfl ?_; try simp only [Act.put, sA, s0, s1]
       refine sy 4 23 rfl rfl ?_; try simp only [Act.put, sA, s0, s1]
       refine sy 5 24 rfl rfl ?_ (hy := by (intro w hSw; (try dsimp only at hSw); have hq := HC.out _ hSw; obtain ⟨q0, q1⟩ := hq; go_simp; try with_reducible rfl))
       try simp only [Act.put, sA, s0, s1]
       refine sy 6 25 rfl rfl ?_; try simp only [Act.put, sA, s0, s1]
       refine sy 7 26 rfl rfl ?_; try simp only [Act.put, sA, s0, s1]
       refine sy 8 27 rfl rfl ?_; try simp only [Act.put, sA, s0, s1]
       refine sy 9 28 rfl rfl ?_; try simp only [Act.put, sA, s0, s1]
       refine sy 10 29 rfl rfl ?_ (hy := by (intro w hSw; (try dsimp only at hSw); have hq := HC.out _ hSw; obtain ⟨q0, q1⟩ := hq; go_simp; try with_reducible rfl))
       try simp only [Act.put, sA, s0, s1]
       refine sy 11 30 rfl rfl ?_; try simp only [Act.put, sA, s0, s1]
       refine sy 12 31 rfl rfl ?_; try simp only [Act.put, sA, s0, s1]
       refine sy 13 5 rfl rfl ?_; try simp only [Act.put, sA, s0, s1]
       refine wpAnyH_done (by kernel_rfl) ?_ _
       replace QC := h_ (QC.out.trans hHeld)
       clear hHeld HC; go_wp2; go_round
       case rel => exact ⟨i + 1, by omega, by go_num, by rw [EB.out], QC⟩
       case measure => simp [RowKit.intOf]; omega
      ·
       skip
       have EB : Hid ((ps.take (i + 1)).any (fun q => decide (q = e.p)) = false) := h_ (by rw [ET.out, hb, decide_eq_false hd]; rfl)
       have e1 := strOf_ne hd
       have e3 := strOf_ne2 hd
       have e4 : (q == e.p) = false := beq_eq_false_iff_ne.2 hd
       clear hb
       go_upto_region 9 with fail
       refine wp_region_held_drew (S := fun w' => Chg [] wr w') (by kernel_rfl) (Chg.refl [] wr).drew (fun hHeld => ?_)
       refine sy 0 19 rfl rfl ?_; try simp only [Act.put, sA, s0, s1]
       refine sy 1 20 rfl rfl ?_; try simp only [Act.put, sA, s0, s1]
       refine sy 2 21 rfl rfl ?_; try simp only [Act.put, sA, s0, s1]
       refine sy 3 22 rfl rfl ?_; try simp only [Act.put, sA, s0, s1]
       refine sy 4 23 rfl rfl ?_; try simp only [Act.put, sA, s0, s1]
       refine sy 5 24 rfl rfl ?_ (hy := by (intro w hSw; (try dsimp only at hSw); have hq := HC.out _ hSw; obtain ⟨q0, q1⟩ := hq; go_simp; try with_reducible rfl))
       try simp only [Act.put, sA, s0, s1]
       refine sy 6 25 rfl rfl ?_; try simp only [Act.put, sA, s0, s1]
       refine sy 7 26 rfl rfl ?_; try simp only [Act.put, sA, s0, s1]
       refine sy 8 27 rfl rfl ?_; try simp only [Act.put, sA, s0, s1]
       refine sy 9 28 rfl rfl ?_; try simp only [Act.put, sA, s0, s1]
       refine sy 10 29 rfl rfl ?_ (hy := by (intro w hSw; (try dsimp only at hSw); have hq := HC.out _ hSw; obtain ⟨q0, q1⟩ := hq; go_simp; try with_reducible rfl))
       try simp only [Act.put, sA, s0, s1]
       refine sy 11 30 rfl rfl ?_; try simp only [Act.put, sA, s0, s1]
       refine sy 12 31 rfl rfl ?_; try simp only [Act.put, sA, s0, s1]
       refine sy 13 5 rfl rfl ?_; try simp only [Act.put, sA, s0, s1]
       refine wpAnyH_done (by kernel_rfl) ?_ _
       replace QC := h_ (QC.out.trans hHeld)
       clear hHeld HC; go_wp2; go_round
       case rel => exact ⟨i + 1, by omega, by go_num, by rw [EB.out], QC⟩
       case measure => simp [RowKit.intOf]; omega
     ·
      skip
      have EB : Hid ((ps.take (i + 1)).any (fun q => decide (q = e.p)) = true) := h_ (by rw [ET.out, hb]; rfl)
      clear hb
      go_upto_region 9 with fail
      refine wp_region_held_drew (S := fun w' => Chg [] wr w') (by kernel_rfl) (Chg.refl [] wr).drew (fun hHeld => ?_)
      refine sy 0 19 rfl rfl ?_; try simp only [Act.put, sA, s0, s1]
      refine sy 1 20 rfl rfl ?_; try simp only [Act.put, sA, s0, s1]
      refine sn 2 21 rfl rfl ?_; try simp only [Act.put, sA, s0, s1]
      refine sn 3 22 rfl rfl ?_; try simp only [Act.put, sA, s0, s1]
      refine sn 4 23 rfl rfl ?_; try simp only [Act.put, sA, s0, s1]
      refine sn 5 24 rfl rfl ?_; try simp only [Act.put, sA, s0, s1]
      refine sn 6 25 rfl rfl ?_; try simp only [Act.put, sA, s0, s1]
      refine sn 7 26 rfl rfl ?_; try simp only [Act.put, sA, s0, s1]
      refine sn 8 27 rfl rfl ?_; try simp only [Act.put, sA, s0, s1]
      refine sn 9 28 rfl rfl ?_; try simp only [Act.put, sA, s0, s1]
      refine sn 10 29 rfl rfl ?_; try simp only [Act.put, sA, s0, s1]
      refine sn 11 30 rfl rfl ?_; try simp only [Act.put, sA, s0, s1]
      refine sy 12 31 rfl rfl ?_; try simp only [Act.put, sA, s0, s1]
      refine sy 13 5 rfl rfl ?_; try simp only [Act.put, sA, s0, s1]
      refine wpAnyH_done (by kernel_rfl) ?_ _
      replace QC := h_ (QC.out.trans hHeld)
      clear hHeld HC; go_wp2; go_round
      case rel => exact ⟨i + 1, by omega, by go_num, by rw [EB.out], QC⟩
      case measure => simp [RowKit.intOf]; omega
    ·
     obtain rfl : i = n := by omega
     have i1 : ¬ (i : Int) < (i : Int) := by omega
     have ET : ps.take i = ps := by rw [← PN.out, List.take_length]
     rw [ET, any_mem]
     clear ET
     replace PC := h_ (PC.out.trans QC.out)
     replace OD := h_ (OD.out.chg QC.out (by simp))
     clear QC
     by_cases hin : e.p ∈ ps
     ·
      have NP : Hid (ps = pathsE (es.take (k + 1))) := h_ (by rw [NXT.out]; unfold addP; rw [if_pos hin])
      rw [decide_eq_true hin]
      clear hin; go_wp2; go_round
      case rel => exact ⟨k + 1, i, A1, d1, ps, by omega, by go_num, rfl, NP, PN, OD, NA, PC⟩
      case measure => simp [RowKit.intOf]; omega
     ·
      have NP : Hid (ps ++ [e.p] = pathsE (es.take (k + 1))) := h_ (by rw [NXT.out]; unfold addP; rw [if_neg hin])
      rw [decide_eq_false hin]
      clear hin
      have z2 := (evCells ((EA.out ▸ HA.out).chg PC.out (by simp)) EX.out).2.2.1
      rw [XP.out] at z2
      obtain ⟨v1, hw, cn, bn⟩ := news1 wr (.cells #[.string (strOf e.p)] 9)
      have WN := h_ hw
      have XR : Hid (RdK textTy v1 (some ⟨wr.heap.size, 0, none⟩) 1 [e.p]) := h_ ⟨rfl, fun j v hj => ⟨_, rfl, by rw [add_zero_lit, cell_of bn j]; simpa [RowTy.flat, textTy] using hj⟩⟩
      replace OD := h_ (OD.out.chg cn (by simp))
      replace PC := h_ (PC.out.trans cn)
      have N4 : Hid ((i + 1) * 400 ≤ 140737488355327) := h_ (by have := NL.out; omega)
      clear hw cn bn
      go_wp2_with (at_builtin; rw [← WN.out]; refine wpList_appK (R := textTy) rfl (.tmp 34) (.tmp 40) rfl rfl OD.out PN.out rfl XR.out N4.out ?_; intro A9 c9 w9 o9 g9 e9)
      clear z2 WN XR N4
      have O9 := h_ o9
      have C9 := h_ (PC.out.grown g9 (fun j hj => by
       rcases A1 with _ | a
       ·
        simp at hj
       ·
        simp at hj; subst hj; exact .inr (NA.out _ rfl)))
      have N9 : Hid (∀ a, A9 = some a → w.heap.size ≤ a.block) := h_ (fun a ha => by
       rcases e9 with q | q
       ·
        exact NA.out a (by rw [← q]; exact ha)
       ·
        rw [q] at ha; cases ha; exact PC.out.size)
      have PN9 : Hid ((ps ++ [e.p]).length = i + 1) := h_ (by rw [List.length_append, PN.out]; rfl)
      clear o9 g9 e9; go_wp2; go_round
      case rel => exact ⟨k + 1, i + 1, A9, c9, ps ++ [e.p], by omega, by go_num, by first | rfl | go_num, NP, PN9, O9, N9, C9⟩
      case measure => simp [RowKit.intOf]; omega
  ·
   obtain rfl : k = xs.length := by omega
   have j1 : ¬ (xs.length : Int) < (xs.length : Int) := by omega
   have EF : es.take xs.length = es := by rw [HX.out.1, List.take_length]
   rw [EF] at PS
   have QS := PS.out
   subst QS
   have QN := PN.out
   subst QN; clear EF; go_wp2; go_ret
   first | exact ⟨A1, ⟨d1, rfl⟩, OD.out.reads, PC.out⟩ | exact ⟨A1, d1, rfl, OD.out.reads, PC.out⟩
end
section
open Go.RowKit Go.Lib


set_option maxRecDepth 100000 in
theorem ktshelf_any (w : World) (A : Option Addr) (c : Nat) (xs : List EvT) (es : List EvP) (p : List UInt8) (h : RdK evTy w A xs.length xs) (hx : EvsR w xs es) (hn : xs.length ≤ 1000)  (hs : ∀ e ∈ es, EvSm e ∧ e.q.length ≤ 100000) :
  Calls Tryz.prog 78 #[.slice A xs.length c, .string (strOf p)] w fun r w' => ∃ (A' : Option Addr) (c' : Nat) (zs : List EvT), r = .returned (.slice A' zs.length c') ∧ RdK evTy w' A' zs.length zs ∧ EvsR w' zs (es.filter (fun e => decide (e.p = p))) ∧ Chg [] w w' := by
 have HA := h_ h
 have HX := h_ hx
 have HN := h_ hn
 have HS := h_ hs
 skip; clear h hx hn hs
 go_enter Tryz.func78, Tryz.ntmps78
 go_wp2
 go_loopw [5, 6] (fun o i wq => ∃ (k : Nat) (A2 : Option Addr) (d2 : Nat) (us : List EvT), k ≤ xs.length ∧ us.length ≤ k ∧ i = .int .i64 k ∧ o = .slice A2 us.length d2 ∧ Hid (OwnK evTy wq A2 d2 us) ∧ Hid (EvsR w us ((es.take k).filter (fun e => decide (e.p = p)))) ∧ Hid (∀ a, A2 = some a → w.heap.size ≤ a.block) ∧ Hid (Chg [] w wq)) (fun _ i _ => xs.length - (RowKit.intOf i).toNat)
 case atStart => exact ⟨0, none, 0, [], Nat.zero_le _, Nat.le_refl _, rfl, rfl, OwnK.none_ _, h_ (by simpa using EvsR.nil _), h_ (by simp), Chg.refl _ _⟩
 case round =>
  obtain ⟨k, A2, d2, us, hk, hyl, rfl, rfl, RO, RU, RN, RC⟩ := hrel
  have j0 : (0 : Int) ≤ (k : Int) := by omega
  by_cases hlt : k < xs.length
  ·
   have j1 : (k : Int) < (xs.length : Int) := by omega
   have j3 : IntKind.i64.wrap ((k : Int) + 1) = (k : Int) + 1 := IntWalk.i64_in _ (by have := HN.out; omega)
   obtain ⟨g3, o3, eA, _⟩ := HA.out.line (by omega)
   subst eA
   obtain ⟨x, e, ex, ee, rx⟩ := HX.out.at_ hlt
   have RX := h_ rx
   have EX := h_ ex
   have SE : Hid (EvSm e ∧ e.q.length ≤ 100000) := h_ (HS.out e (List.mem_of_getElem? ee))
   have ET : Hid ((es.take (k + 1)).filter (fun e => decide (e.p = p)) = (es.take k).filter (fun e => decide (e.p = p)) ++ [e].filter (fun e => decide (e.p = p))) := h_ (by rw [List.take_add_one, ee, List.filter_append]; rfl)
   have YL := h_ hyl
   obtain ⟨z0, z1, z2, z3, z4, z5, z6⟩ := evCells (HA.out.chg RC.out (by simp)) ex
   clear ex ee rx hyl
   rcases hq : (decide (e.p = p)) with _ | _
   ·
    have EN : Hid ((es.take (k + 1)).filter (fun e => decide (e.p = p)) = (es.take k).filter (fun e => decide (e.p = p))) := h_ (by rw [ET.out, List.filter_cons_of_neg (p := fun e => decide (e.p = p)) (a := e) (l := []) (by show ¬ (decide (e.p = p)) = true; rw [hq]; decide)]; simp)
    clear ET
    have hd : ¬ e.p = p := of_decide_eq_false hq
    have e1 := strOf_ne hd
    have e3 := strOf_ne2 hd
    have e4 : (e.p == p) = false := beq_eq_false_iff_ne.2 hd
    rw [RX.out.p] at z2
    clear hq
    go_upto_region 4 with fail
    clear e1 e3 e4 hd; clear z0 z1 z2 z3 z4 z5 z6; go_wp2; go_round
    case rel => exact ⟨k + 1, A2, d2, us, by omega, by have := YL.out; omega, by go_num, by first | rfl | simp, RO, h_ (by rw [EN.out]; exact RU.out), RN, RC⟩
    case measure => simp [RowKit.intOf]; omega
   ·
    have EN : Hid ((es.take (k + 1)).filter (fun e => decide (e.p = p)) = (es.take k).filter (fun e => decide (e.p = p)) ++ [e]) := h_ (by rw [ET.out, List.filter_cons_of_pos (p := fun e => decide (e.p = p)) (a := e) (l := []) hq]; rfl)
    clear ET
    have hd : e.p = p := of_decide_eq_true hq
    have e4 : (e.p == p) = true := by rw [hd]; exact beq_self_eq_true _
    have e5 : ((strOf e.p == strOf p) : Bool) = true := by rw [hd]; show ((p.toArray == p.toArray) : Bool) = true; simp
    rw [RX.out.p] at z2
    clear hq
    go_upto_region 6 with fail
    clear e4 e5 hd; clear z0 z1 z2 z3 z4 z5 z6
    obtain ⟨z0, z1, z2, z3, z4, z5, z6⟩ := evCells (HA.out.chg RC.out (by simp)) EX.out
    obtain ⟨v1, hw, cn, bn⟩ := news1 wr (.cells #[.int .i64 x.n, .int .i64 x.s, .string x.p, .int .i64 x.k, .int .i64 x.m, .slice x.A x.l x.c, .slice x.B x.bl x.bc] 40)
    have WN := h_ hw
    have XR := h_ (rd_oneEc bn)
    replace RO := h_ (RO.out.chg cn (by simp))
    replace RC := h_ (RC.out.trans cn)
    have N4 : Hid ((us.length + 1) * 400 ≤ 140737488355327) := h_ (by have := YL.out; have := HN.out; omega)
    clear hw cn bn
    go_wp2_with (at_builtin; rw [← WN.out]; refine wpList_appK (R := evTy) rfl (.tmp 20) (.tmp 25) rfl rfl (A := A2) (n := us.length) (m := 1) (c := d2) (d := 1) (xs := us) (ys := [x]) RO.out rfl rfl XR.out N4.out ?_; intro A9 c9 w9 o9 g9 e9)
    clear z0 z1 z2 z3 z4 z5 z6 WN XR N4
    have O9 := h_ o9
    have F9 := h_ (fresh_appE RN.out RC.out g9 e9)
    clear o9 g9 e9; go_wp2; go_round
    case rel => exact ⟨k + 1, A9, c9, us ++ [x], by omega, by have := YL.out; simp; omega, by go_num, by first | rfl | simp, O9, h_ (by rw [EN.out]; exact RU.out.snoc RX.out), h_ F9.out.1, h_ F9.out.2⟩
    case measure => simp [RowKit.intOf]; omega
  ·
   obtain rfl : k = xs.length := by omega
   have j1 : ¬ (xs.length : Int) < (xs.length : Int) := by omega
   have EF : es.take xs.length = es := by rw [HX.out.1, List.take_length]
   rw [EF] at RU
   have YL := h_ hyl
   clear EF hyl
   have OW := h_ (ktown_any wr A2 d2 us _ RO.out.reads (RU.out.chg RC.out) (by have := YL.out; have := HN.out; omega) (fun e he => ⟨(HS.out e (List.mem_filter.1 he).1).1.2.1, (HS.out e (List.mem_filter.1 he).1).2⟩))
   go_wp2_with fail
   refine OW.out.mono ?_
   rintro r w5 ⟨A5, c5, zs, rfl, hr, he, hc⟩
   have P5 := h_ (And.intro hr (And.intro he (RC.out.trans hc)))
   clear hr he hc OW; go_wp2; go_ret
   exact ⟨A5, c5, zs, rfl, P5.out.1, P5.out.2.1, P5.out.2.2⟩
set_option maxRecDepth 100000 in
theorem ktmissing_any (w : World) (A : Option Addr) (c : Nat) (xs : List EvT) (es : List EvP) (K : Option Addr) (kc : Nat) (ks : List Sp) (h : RdK evTy w A xs.length xs) (hx : EvsR w xs es) (hn : xs.length ≤ 1000) (hk : RdK spanTy w K ks.length ks) (hkn : ks.length ≤ 140737488351232) (hs : ∀ e ∈ es, EvSm e ∧ e.q.length ≤ 100000) :
  Calls Tryz.prog 39 #[.slice A xs.length c, .slice K ks.length kc] w fun r w' => ∃ (A' : Option Addr) (c' : Nat) (zs : List EvT), r = .returned (.slice A' zs.length c') ∧ RdK evTy w' A' zs.length zs ∧ EvsR w' zs (es.filter (fun e => !hasE ks e.n e.s)) ∧ Chg [] w w' := by
 have HA := h_ h
 have HX := h_ hx
 have HN := h_ hn
 have HS := h_ hs
 have HK := h_ hk
 have HKN := h_ hkn
 clear hk hkn; clear h hx hn hs
 go_enter Tryz.func39, Tryz.ntmps39
 go_wp2
 go_loopw [5, 6] (fun o i wq => ∃ (k : Nat) (A2 : Option Addr) (d2 : Nat) (us : List EvT), k ≤ xs.length ∧ us.length ≤ k ∧ i = .int .i64 k ∧ o = .slice A2 us.length d2 ∧ Hid (OwnK evTy wq A2 d2 us) ∧ Hid (EvsR w us ((es.take k).filter (fun e => !hasE ks e.n e.s))) ∧ Hid (∀ a, A2 = some a → w.heap.size ≤ a.block) ∧ Hid (Chg [] w wq)) (fun _ i _ => xs.length - (RowKit.intOf i).toNat)
 case atStart => exact ⟨0, none, 0, [], Nat.zero_le _, Nat.le_refl _, rfl, rfl, OwnK.none_ _, h_ (by simpa using EvsR.nil _), h_ (by simp), Chg.refl _ _⟩
 case round =>
  obtain ⟨k, A2, d2, us, hk, hyl, rfl, rfl, RO, RU, RN, RC⟩ := hrel
  have j0 : (0 : Int) ≤ (k : Int) := by omega
  by_cases hlt : k < xs.length
  ·
   have j1 : (k : Int) < (xs.length : Int) := by omega
   have j3 : IntKind.i64.wrap ((k : Int) + 1) = (k : Int) + 1 := IntWalk.i64_in _ (by have := HN.out; omega)
   obtain ⟨g3, o3, eA, _⟩ := HA.out.line (by omega)
   subst eA
   obtain ⟨x, e, ex, ee, rx⟩ := HX.out.at_ hlt
   have RX := h_ rx
   have EX := h_ ex
   have SE : Hid (EvSm e ∧ e.q.length ≤ 100000) := h_ (HS.out e (List.mem_of_getElem? ee))
   have ET : Hid ((es.take (k + 1)).filter (fun e => !hasE ks e.n e.s) = (es.take k).filter (fun e => !hasE ks e.n e.s) ++ [e].filter (fun e => !hasE ks e.n e.s)) := h_ (by rw [List.take_add_one, ee, List.filter_append]; rfl)
   have YL := h_ hyl
   obtain ⟨z0, z1, z2, z3, z4, z5, z6⟩ := evCells (HA.out.chg RC.out (by simp)) ex
   clear ex ee rx hyl
   rcases hq : (!hasE ks e.n e.s) with _ | _
   ·
    have EN : Hid ((es.take (k + 1)).filter (fun e => !hasE ks e.n e.s) = (es.take k).filter (fun e => !hasE ks e.n e.s)) := h_ (by rw [ET.out, List.filter_cons_of_neg (p := fun e => !hasE ks e.n e.s) (a := e) (l := []) (by show ¬ (!hasE ks e.n e.s) = true; rw [hq]; decide)]; simp)
    clear ET
    have CC := h_ (qhas_any wr K kc ks e.n e.s (HK.out.chg RC.out (by simp)) HKN.out)
    have hq2 : hasE ks e.n e.s = true := by simpa using hq
    rw [hq2] at CC
    rw [RX.out.n] at z0
    rw [RX.out.s] at z1
    clear hq2; clear hq; go_wp2_with fail; clear z0 z1 z2 z3 z4 z5 z6
    refine CC.out.mono ?_
    rintro r w4 ⟨rfl, hc⟩
    replace RO := h_ (RO.out.chg hc (by simp))
    replace RC := h_ (RC.out.trans hc)
    clear hc CC
    go_upto_region 4 with fail
    have z0 := True.intro
    have z1 := True.intro
    have z2 := True.intro
    have z3 := True.intro
    have z4 := True.intro
    have z5 := True.intro
    have z6 := True.intro
    clear z0 z1 z2 z3 z4 z5 z6; go_wp2; go_round
    case rel => exact ⟨k + 1, A2, d2, us, by omega, by have := YL.out; omega, by go_num, by first | rfl | simp, RO, h_ (by rw [EN.out]; exact RU.out), RN, RC⟩
    case measure => simp [RowKit.intOf]; omega
   ·
    have EN : Hid ((es.take (k + 1)).filter (fun e => !hasE ks e.n e.s) = (es.take k).filter (fun e => !hasE ks e.n e.s) ++ [e]) := h_ (by rw [ET.out, List.filter_cons_of_pos (p := fun e => !hasE ks e.n e.s) (a := e) (l := []) hq]; rfl)
    clear ET
    have CC := h_ (qhas_any wr K kc ks e.n e.s (HK.out.chg RC.out (by simp)) HKN.out)
    have hq2 : hasE ks e.n e.s = false := by simpa using hq
    rw [hq2] at CC
    rw [RX.out.n] at z0
    rw [RX.out.s] at z1
    clear hq2; clear hq; go_wp2_with fail; clear z0 z1 z2 z3 z4 z5 z6
    refine CC.out.mono ?_
    rintro r w4 ⟨rfl, hc⟩
    replace RO := h_ (RO.out.chg hc (by simp))
    replace RC := h_ (RC.out.trans hc)
    clear hc CC
    go_upto_region 6 with fail
    have z0 := True.intro
    have z1 := True.intro
    have z2 := True.intro
    have z3 := True.intro
    have z4 := True.intro
    have z5 := True.intro
    have z6 := True.intro
    clear z0 z1 z2 z3 z4 z5 z6
    obtain ⟨z0, z1, z2, z3, z4, z5, z6⟩ := evCells (HA.out.chg RC.out (by simp)) EX.out
    obtain ⟨v1, hw, cn, bn⟩ := news1 w4 (.cells #[.int .i64 x.n, .int .i64 x.s, .string x.p, .int .i64 x.k, .int .i64 x.m, .slice x.A x.l x.c, .slice x.B x.bl x.bc] 40)
    have WN := h_ hw
    have XR := h_ (rd_oneEc bn)
    replace RO := h_ (RO.out.chg cn (by simp))
    replace RC := h_ (RC.out.trans cn)
    have N4 : Hid ((us.length + 1) * 400 ≤ 140737488355327) := h_ (by have := YL.out; have := HN.out; omega)
    clear hw cn bn
    go_wp2_with (at_builtin; rw [← WN.out]; refine wpList_appK (R := evTy) rfl (.tmp 21) (.tmp 26) rfl rfl (A := A2) (n := us.length) (m := 1) (c := d2) (d := 1) (xs := us) (ys := [x]) RO.out rfl rfl XR.out N4.out ?_; intro A9 c9 w9 o9 g9 e9)
    clear z0 z1 z2 z3 z4 z5 z6 WN XR N4
    have O9 := h_ o9
    have F9 := h_ (fresh_appE RN.out RC.out g9 e9)
    clear o9 g9 e9; go_wp2; go_round
    case rel => exact ⟨k + 1, A9, c9, us ++ [x], by omega, by have := YL.out; simp; omega, by go_num, by first | rfl | simp, O9, h_ (by rw [EN.out]; exact RU.out.snoc RX.out), h_ F9.out.1, h_ F9.out.2⟩
    case measure => simp [RowKit.intOf]; omega
  ·
   obtain rfl : k = xs.length := by omega
   have j1 : ¬ (xs.length : Int) < (xs.length : Int) := by omega
   have EF : es.take xs.length = es := by rw [HX.out.1, List.take_length]
   rw [EF] at RU
   have YL := h_ hyl
   clear EF hyl
   have OW := h_ (ktown_any wr A2 d2 us _ RO.out.reads (RU.out.chg RC.out) (by have := YL.out; have := HN.out; omega) (fun e he => ⟨(HS.out e (List.mem_filter.1 he).1).1.2.1, (HS.out e (List.mem_filter.1 he).1).2⟩))
   go_wp2_with fail
   refine OW.out.mono ?_
   rintro r w5 ⟨A5, c5, zs, rfl, hr, he, hc⟩
   have P5 := h_ (And.intro hr (And.intro he (RC.out.trans hc)))
   clear hr he hc OW; go_wp2; go_ret
   exact ⟨A5, c5, zs, rfl, P5.out.1, P5.out.2.1, P5.out.2.2⟩
end
end Go.Proofs.YtehmchdhlhchjaaGreatDoor
