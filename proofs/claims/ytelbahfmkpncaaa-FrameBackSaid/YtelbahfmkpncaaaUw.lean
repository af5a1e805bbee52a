/- The document's reader: Raw and Text. -/
import Derived.Test.YtelbahfmkpncaaaUn2
import Derived.Test.YtelbahfmkpncaaaRd3
import Derived.Deep.RegionHeld3
import Derived.Deep.AppendLies
namespace Go.Proofs.Ytelbahfmkpncaaa
open Go.RowKit

theorem add_twice (a : Addr) (i j : Nat) : (a.add i).add j = a.add (i + j) := by
  unfold Addr.add
  by_cases hi : i = 0 <;> by_cases hj : j = 0 <;> simp [hi, hj, Nat.add_assoc]
/-- A part of bytes. -/
theorem Bs.part {w : World} {A : Option Addr} {xs : List UInt8} (h : Bs w A xs.length xs) (q n : Nat) (hq : q + n ≤ xs.length) : Bs w (Option.map (fun x => x.add q) A) n ((xs.drop q).take n) := by
  refine ⟨by simp; omega, fun j u hj => ?_⟩
  rw [List.getElem?_take, List.getElem?_drop] at hj
  split at hj
  · obtain ⟨a, rfl, hc⟩ := h.cells (q + j) u hj
    exact ⟨a.add q, rfl, by rw [add_twice]; exact hc⟩
  · cases hj

theorem app_cell {w2 w3 : World} {o : Obj} {p : Addr} {u : Value} (hg : (w2.alloc o).drew.grownBy w3 (some w2.heap.size)) (hlt : p.block < w2.heap.size) (h : w2.cell? p = some u) : w3.cell? p = some u := by
  refine (World.cell?_of_block (w := w2) ?_).trans h
  refine (hg.block _ ?_ (by simp; omega)).trans (Below.heap_alloc _ _ _ hlt)
  show p.block < (w2.alloc o).heap.size
  rw [World.size_alloc]
  omega
/-- append of bytes, at a step of a region that draws its order. -/
theorem step_app {ops : Array Oper} {o : Oper} {a : Act} {w : World} {K : Act → World → Prop} {Q : Exit → Act → World → Prop} {E : Prop} (hgd : o.guard = none) (s x : Operand)
    (ho : o.op = .call { callee := .builtin .append, args := #[s, x], argTypes := #[22, 22] })
    {A : Option Addr} {c n : Nat} {xs : List UInt8} (hs : a.eval s = .slice A n c) (hown : OwnB w A c xs) (hn : xs.length = n) {B : Option Addr} {m d : Nat} {ys : List UInt8} (hx : a.eval x = .slice B m d) (hr : Bs w B m ys) (hlen : n + m ≤ 140737488355327)
    (h : ∀ A' c' w', OwnB w' A' c' (xs ++ ys) → w.grownBy w' (A.map (·.block)) → (A' = A ∨ A' = some ⟨w.heap.size, 0, none⟩) → K (a.put o.dst (.slice A' (n + m) c')) w') :
    if Region.wanted o (yielded ops a.tmps) = true then Oper.wp Try.prog o a w K Q else E := by
  have hw : Region.wanted o (yielded ops a.tmps) = true := by simp [Region.wanted, hgd]
  rw [if_pos hw]
  subst hn
  obtain ⟨A', c', w', hrun, h2, h3, h4⟩ := run_app w o.type hown (d := d) hr hlen
  unfold Oper.wp execOp
  simp only [ho, resolve, invoke, builtin, Sem.run_bind, Sem.run_pure, Result.andThen_ok, List.map_toArray, List.map_cons, List.map_nil, hs, hx, hrun]
  exact h A' c' w' h2 h3 h4

/-- What Raw of the document's reader leaves. -/
def URawPost (w : World) (v : Nat) (A : Option Addr) (c : Nat) (xs : List UInt8) (r : List UInt8 × Nat × Int × Int) (e : Ending) (w' : World) : Prop :=
  ∃ A' c', e = .returned (.slice A' r.1.length c') ∧ OwnB w' A' c' r.1 ∧ (∀ a, A' = some a → w.heap.size ≤ a.block) ∧ URdr w' v A c xs r.2.1 r.2.2.1 r.2.2.2 ∧ Chg [v] w w'

theorem URdr.back {w : World} {v : Nat} {A : Option Addr} {c : Nat} {xs : List UInt8} {p q : Nat} {fe fa : Int} (h : URdr w v A c xs q fe fa) (n : Nat) :
    URawPost w v A c xs ([], p, fe, fa) (.returned (.slice none 0 0)) ((w.drewN n).setCell ⟨v, 1, none⟩ (.int .i64 p)) :=
  ⟨none, 0, rfl, OwnB.none_ _, by simp, h.step n p⟩
theorem URawPost.after {w w1 w' : World} {v : Nat} {A : Option Addr} {c : Nat} {xs : List UInt8} {r : List UInt8 × Nat × Int × Int} {e : Ending} (hc : Chg [v] w w1) (h : URawPost w1 v A c xs r e w') : URawPost w v A c xs r e w' := by
  obtain ⟨A', c', h1, h2, h3, h4, h5⟩ := h
  have := hc.size
  exact ⟨A', c', h1, h2, fun a e => by have := h3 a e; omega, h4, hc.trans h5⟩

set_option maxRecDepth 20000 in
set_option maxHeartbeats 1000000 in
theorem uraw_failed (w : World) (v : Nat) (A : Option Addr) (c : Nat) (xs : List UInt8) (p : Nat) (fe fa most : Int) (h : URdr w v A c xs p fe fa) (hp : p ≤ xs.length) (hl : xs.length ≤ 140737488351232) (n : Int) (q : Nat) (fe' fa' : Int) (hn : rNum xs p fe fa 0 4611686018427387903 = (n, q, fe', fa')) (he : fe' ≠ 0) :
    Calls Try.prog 48 #[.pointer (some ⟨v, 0, none⟩), .int .i64 most] w (URawPost w v A c xs ([], p, fe', fa')) := by
  have hnum := unum_any w v A c xs p fe fa 0 4611686018427387903 h hp hl
  rw [hn] at hnum
  obtain ⟨k0, k1, k2, k3, f⟩ := h.cells
  have HN := Lib.hid hnum
  have he' : (fe' == 0) = false := by simpa using he
  have he2 : (fe' != 0) = true := by simpa using he
  clear hnum hn h f he k0 k2 k3
  go_enter Try.func48, Try.ntmps48
  go_wp2_with fail
  refine HN.out.mono ?_
  rintro r w1 ⟨rfl, hR, hC⟩
  obtain ⟨k0, k1, k2, k3, f⟩ := hR.cells
  have f1 := f 1
  have HR := Lib.hid hR
  have HC := Lib.hid hC
  clear hR hC f
  go_wp2
  go_quiet (fail)
  go_wp2
  go_ret
  exact (HR.out.back _).after HC.out

set_option maxRecDepth 20000 in
set_option maxHeartbeats 1000000 in
theorem uraw_long (w : World) (v : Nat) (A : Option Addr) (c : Nat) (xs : List UInt8) (p : Nat) (fe fa most : Int) (h : URdr w v A c xs p fe fa) (hp : p ≤ xs.length) (hl : xs.length ≤ 140737488351232) (n q : Nat) (fa' : Int) (hn : rNum xs p fe fa 0 4611686018427387903 = ((n : Int), q, 0, fa')) (hm : most < n) :
    Calls Try.prog 48 #[.pointer (some ⟨v, 0, none⟩), .int .i64 most] w (URawPost w v A c xs ([], p, 3, p)) := by
  have hnum := unum_any w v A c xs p fe fa 0 4611686018427387903 h hp hl
  rw [hn] at hnum
  obtain ⟨k0, k1, k2, k3, f⟩ := h.cells
  have HN := Lib.hid hnum
  clear hnum hn h f k0 k2 k3
  go_enter Try.func48, Try.ntmps48
  go_wp2_with fail
  refine HN.out.mono ?_
  rintro r w1 ⟨rfl, hR, hC⟩
  obtain ⟨k0, k1, k2, k3, f⟩ := hR.cells
  have HR := Lib.hid hR
  have HC := Lib.hid hC
  clear hR hC f
  go_wp2_with fail
  refine (ufail_any _ v _ c xs _ fa' 3 p HR.out).mono ?_
  clear k0 k1 k2 k3
  rintro r w2 ⟨rfl, hR, hC⟩
  obtain ⟨k0, k1, k2, k3, f⟩ := hR.cells
  have f1 := f 1
  have HR2 := Lib.hid hR
  have HC2 := Lib.hid (HC.out.trans hC)
  clear hR hC f
  go_wp2
  go_quiet (fail)
  go_wp2
  go_ret
  exact (HR2.out.back _).after HC2.out

set_option maxRecDepth 20000 in
set_option maxHeartbeats 1000000 in
theorem uraw_end (w : World) (v : Nat) (A : Option Addr) (c : Nat) (xs : List UInt8) (p : Nat) (fe fa most : Int) (h : URdr w v A c xs p fe fa) (hp : p ≤ xs.length) (hl : xs.length ≤ 140737488351232) (n q : Nat) (fa' : Int) (hn : rNum xs p fe fa 0 4611686018427387903 = ((n : Int), q, 0, fa')) (hq : q ≤ xs.length) (hm : n ≤ most) (hs : (xs.length : Int) - q < n) :
    Calls Try.prog 48 #[.pointer (some ⟨v, 0, none⟩), .int .i64 most] w (URawPost w v A c xs ([], p, 4, xs.length)) := by
  have hnum := unum_any w v A c xs p fe fa 0 4611686018427387903 h hp hl
  rw [hn] at hnum
  obtain ⟨k0, k1, k2, k3, f⟩ := h.cells
  have HN := Lib.hid hnum
  clear hnum hn h f k0 k2 k3
  go_enter Try.func48, Try.ntmps48
  go_wp2_with fail
  refine HN.out.mono ?_
  rintro r w1 ⟨rfl, hR, hC⟩
  obtain ⟨k0, k1, k2, k3, f⟩ := hR.cells
  have HR := Lib.hid hR
  have HC := Lib.hid hC
  clear hR hC f
  go_wp2
  go_quiet (fail)
  go_wp2_with fail
  refine (ufail_any _ v _ c xs _ fa' 4 xs.length (HR.out.drewN _)).mono ?_
  clear k0 k1 k2 k3
  rintro r w2 ⟨rfl, hR, hC⟩
  obtain ⟨k0, k1, k2, k3, f⟩ := hR.cells
  have f1 := f 1
  have HR2 := Lib.hid hR
  have HC2 := Lib.hid ((HC.out.drewN _).trans hC)
  clear hR hC f
  go_wp2
  go_ret
  exact (HR2.out.back 0).after HC2.out

theorem uraw_fin {w w2 w3 : World} {v : Nat} {A A' : Option Addr} {c c' : Nat} {xs ys : List UInt8} {t n : Nat} {fa' : Int} {o : Obj} (hc : Chg [v] w w2) (hr : URdr w2 v A c xs t 0 fa') (own : OwnB w3 A' c' ([] ++ ys))
    (hg : (w2.alloc o).drew.grownBy w3 (some w2.heap.size)) (hA : A' = some ⟨w2.heap.size, 0, none⟩ ∨ A' = some ⟨(w2.alloc o).heap.size, 0, none⟩) (hn : ys.length = n) : URawPost w v A c xs (ys, t, 0, fa') (.returned (.slice A' n c')) w3 := by
  subst hn
  have h3 : Chg [] w2 w3 := (((Chg.refl [] w2).alloc o).drew).grown hg (fun k e => by cases e; exact .inr (Nat.le_refl _))
  have hs := hc.size
  refine ⟨A', c', rfl, by simpa using own, ?_, hr.chg h3 (by simp) (.inr (by simp)), hc.trans (h3.mono (by simp))⟩
  rintro a rfl
  rcases hA with h | h
  · cases h; exact hs
  · cases h
    show w.heap.size ≤ (w2.alloc o).heap.size
    rw [World.size_alloc]; omega

set_option maxRecDepth 20000 in
set_option maxHeartbeats 1000000 in
theorem uraw_ok (w : World) (v : Nat) (A : Option Addr) (c : Nat) (xs : List UInt8) (p : Nat) (fe fa most : Int) (h : URdr w v A c xs p fe fa) (hp : p ≤ xs.length) (hl : xs.length ≤ 140737488351232) (n q : Nat) (fa' : Int) (hn : rNum xs p fe fa 0 4611686018427387903 = ((n : Int), q, 0, fa')) (hq : q ≤ xs.length) (hm : n ≤ most) (hs : n ≤ (xs.length : Int) - q) :
    Calls Try.prog 48 #[.pointer (some ⟨v, 0, none⟩), .int .i64 most] w (URawPost w v A c xs ((xs.drop q).take n, q + n, 0, fa')) := by
  have hnum := unum_any w v A c xs p fe fa 0 4611686018427387903 h hp hl
  rw [hn] at hnum
  obtain ⟨k0, k1, k2, k3, f⟩ := h.cells
  have HN := Lib.hid hnum
  clear hnum hn h f k0 k2 k3
  go_enter Try.func48, Try.ntmps48
  go_wp2_with fail
  refine HN.out.mono ?_
  rintro r w1 ⟨rfl, hR, hC⟩
  obtain ⟨k0, k1, k2, k3, f⟩ := hR.cells
  have f1 := f 1
  have HR := Lib.hid hR
  have HC := Lib.hid hC
  clear hR hC f
  go_wp2
  go_quiet (fail)
  go_wp2
  have hst := HR.out.step nq (q + n)
  have HC2 := Lib.hid (HC.out.trans hst.2)
  obtain ⟨k0', k1', k2', k3', f'⟩ := hst.1.cells
  have HR2 := Lib.hid hst.1
  clear hst k0 k1 k2 k3 f1 f' k2' k3' HR HC
  have e : (q : Int) + (n : Int) = ((q + n : Nat) : Int) := by omega
  rw [e]
  clear e
  generalize (w1.drewN nq).setCell ⟨v, 1, none⟩ (.int .i64 ((q + n : Nat) : Int)) = w2 at *
  obtain ⟨z1, z2⟩ := HR2.out.2.2.2
  have hlt := lt_of_heap HR2.out.1
  obtain ⟨t, ht⟩ : ∃ t, q + n = t := ⟨_, rfl⟩
  have y1 : (t : Int) - n = q := by omega
  have y2 : t ≤ c := by omega
  have y3 : q ≤ t := by omega
  have y4 : t - q = n := by omega
  have y5 : (t : Int) ≤ 140737488351232 := by omega
  have y6 : (n : Int) ≤ t := by omega
  have y7 : IntKind.i64.wrap (q : Int) = q := IntWalk.i64_in _ (by omega)
  rw [ht] at k1' HR2 ⊢
  have HT := Lib.hid ht
  clear ht hm hs
  have hown : OwnB (w2.alloc (.cells #[] 5)).drew (some ⟨w2.heap.size, 0, none⟩) 0 [] := (OwnB.empty w2).chg ((Chg.refl [] _).drew) (by simp)
  have hlen : 0 + n ≤ 140737488355327 := by omega
  have HO := Lib.hid hown
  have HL := Lib.hid hlen
  clear hown hlen
  by_cases hcq : c = q
  · subst hcq
    have hnil : Bs (w2.alloc (.cells #[] 5)).drew A n ((xs.drop c).take n) := by
      obtain rfl : n = 0 := by omega
      simpa using Bs.nil _ A
    have HBs := Lib.hid hnil
    clear hnil
    go_region_held3 (fun w' => w'.cell? ⟨v, 0, none⟩ = some (.slice A xs.length c) ∧ w'.cell? ⟨v, 1, none⟩ = some (.int .i64 (t : Int))) (first | go_keep | exact ⟨q0, q1⟩) ((refine step_app rfl _ _ rfl rfl HO.out rfl rfl HBs.out HL.out ?_; intro A' c' w3 own3 hg3 hA3; have q0 := app_cell hg3 hlt k0'; have q1 := app_cell hg3 hlt k1'))
    go_wp2
    go_ret
    rw [HT.out]
    exact uraw_fin HC2.out HR2.out own3 hg3 hA3 (by simp; omega)
  · have hcq2 : ¬ (q = c) := fun e => hcq e.symm
    have hbs : Bs (w2.alloc (.cells #[] 5)).drew (Option.map (fun x => x.add q) A) n ((xs.drop q).take n) := (HR2.out.2.1.part q n (by omega)).chg (((Chg.refl [] _).alloc _).drew) (by simp)
    have HBs := Lib.hid hbs
    clear hbs
    go_region_held3 (fun w' => w'.cell? ⟨v, 0, none⟩ = some (.slice A xs.length c) ∧ w'.cell? ⟨v, 1, none⟩ = some (.int .i64 (t : Int))) (first | go_keep | exact ⟨q0, q1⟩) ((refine step_app rfl _ _ rfl rfl HO.out rfl rfl HBs.out HL.out ?_; intro A' c' w3 own3 hg3 hA3; have q0 := app_cell hg3 hlt k0'; have q1 := app_cell hg3 hlt k1'))
    go_wp2
    go_ret
    rw [HT.out]
    exact uraw_fin HC2.out HR2.out own3 hg3 hA3 (by simp; omega)

/-- Raw of the document's reader, whatever came ahead. -/
theorem uraw_any (w : World) (v : Nat) (A : Option Addr) (c : Nat) (xs : List UInt8) (p : Nat) (fe fa most : Int) (h : URdr w v A c xs p fe fa) (hp : p ≤ xs.length) (hl : xs.length ≤ 140737488351232) :
    Calls Try.prog 48 #[.pointer (some ⟨v, 0, none⟩), .int .i64 most] w (URawPost w v A c xs (rRaw xs p fe fa most)) := by
  unfold rRaw
  by_cases he : fe = 0
  · subst he
    simp only [ne_eq, not_true_eq_false, if_false]
    cases hn : numAt xs p 0 4611686018427387903 with
    | error x =>
      obtain ⟨f, q⟩ := x
      exact uraw_failed w v A c xs p 0 fa most h hp hl 0 p f q (by simp [rNum, hn]) (by have := numAt_err hn; omega)
    | ok x =>
      obtain ⟨n, q⟩ := x
      have hok := numAt_ok hn hp
      have hr : rNum xs p 0 fa 0 4611686018427387903 = ((n : Int), q, 0, fa) := by simp [rNum, hn]
      by_cases h1 : most < n
      · simp only [if_pos h1]; exact uraw_long w v A c xs p 0 fa most h hp hl n q fa hr h1
      · by_cases h2 : (xs.length : Int) - q < n
        · simp only [if_neg h1, if_pos h2]; exact uraw_end w v A c xs p 0 fa most h hp hl n q fa hr hok.1 (by omega) h2
        · simp only [if_neg h1, if_neg h2]; exact uraw_ok w v A c xs p 0 fa most h hp hl n q fa hr hok.1 (by omega) (by omega)
  · simp only [ne_eq, he, not_false_eq_true, if_true]
    exact uraw_failed w v A c xs p fe fa most h hp hl 0 p fe fa (by simp [rNum, he]) he

/-- What Text of the document's reader leaves. -/
def UTextPost (w : World) (v : Nat) (A : Option Addr) (c : Nat) (xs : List UInt8) (r : List UInt8 × Nat × Int × Int) (e : Ending) (w' : World) : Prop :=
  e = .returned (.string (strOf r.1)) ∧ URdr w' v A c xs r.2.1 r.2.2.1 r.2.2.2 ∧ Chg [v] w w'

end Go.Proofs.Ytelbahfmkpncaaa
