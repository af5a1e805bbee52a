/- As XRangeo, over a method as a value (bound arguments la). A range over a function whose body also makes memory of its own (a row that grows): the iterator promises to leave alone all that there is but its own blocks. No program here. A range over a function whose body also makes memory of its own (a row that grows): the iterator promises to leave alone all that there is but its own blocks. No program here. Rows in the body of a range over a function (taken from XToway by gen/Ckcut2.py). past: what is kept. past: kept hands on what is kept. past.may. past.Within. event.bringsAll. Arguments opened: bytes, numbers, texts: from the data that a row reads to the cells that a walk goes over. Slices of spans as arguments. An event as an argument. Rows of events that are not long: purely. Closed events are in order, and one made behind them: purely. -/
import Derived.Test.YtehmchdhlhchjaaGreatDoorZepc
import Derived.Test.YtehmchdhlhchjaaGreatDoorZepa
import Derived.OwnWalkIn
import Derived.Test.YtehmchdhlhchjaaGreatDoorZepp
import Derived.Test.YtehmchdhlhchjaaGreatDoorZepk
import Derived.Deep.Cut
import Derived.Deep.CutRange
import Derived.Sort.LoopGhostIn
import Derived.Test.YtehmchdhlhchjaaGreatDoorZepd
import Derived.Test.YtehmchdhlhchjaaGreatDoorZepn
import Derived.Test.YtehmchdhlhchjaaGreatDoorZepm
import Derived.BigQuiet
import Derived.Deep.Slices
import Derived.Deep.Fields
import Derived.ChangeSame
import Derived.SizedLaws
import Derived.ChangeArms
import Derived.ChangeSlices
import Derived.OpenShut
import Derived.ProofKit
import Derived.Test.YtehmchdhlhchjaaGreatDoorZepb
import Derived.Test.YtehmchdhlhchjaaGreatDoorZepj
set_option linter.unusedSimpArgs false
set_option linter.unusedVariables false
namespace Go.Proofs.YtehmchdhlhchjaaGreatDoor
section
open Go.RowKit
attribute [local go_sem] Oper.semAt_some
theorem wpListIn_appK {α : Type} {R : RowTy α} {F : Fence} {nF : Nat} {ops : Array Oper} {rest : List Oper} {o : Oper} {a : Act} {w : World} {Q : Exit → Act → World → Prop} (hgd : o.guard = none) (s x : Operand)
  (ho : o.op = .call { callee := .builtin .append, args := #[s, x], argTypes := #[R.TS, R.TS] })
  {A : Option Addr} {c n : Nat} {xs : List α} (hs : a.eval s = .slice A n c) (hown : OwnK R w A c xs) (hn : xs.length = n) {B : Option Addr} {m d : Nat} {ys : List α} (hx : a.eval x = .slice B m d) (hr : RdK R w B m ys) (hlen : (n + m) * 400 ≤ 140737488355327)
  (h : ∀ A' c' w', OwnK R w' A' c' (xs ++ ys) → w.grownBy w' (A.map (·.block)) → (A' = A ∨ A' = some ⟨w.heap.size, 0, none⟩) → wpListIn F nF Tryz.prog ops Q rest (a.put o.dst (.slice A' (n + m) c')) w') : wpListIn F nF Tryz.prog ops Q (o :: rest) a w := by
 refine wpListIn_plain hgd fun K hK' => ?_
 subst hn
 obtain ⟨A', c', w', hrun, h2, h3, h4⟩ := run_appK w o.type hown (d := d) hr hlen
 unfold Oper.wpIn
 refine ⟨?_, ?_⟩
 ·
  simp [Oper.about, ho, resolve, Target.leads, Sem.run_pure]
 ·
  rw [Oper.semAt_plain F _ _ (by rw [ho]; intro c hc'; cases hc')]
  simp [execOp, ho, resolve, invoke, builtin, hs, hx, hrun, Result.andThen]
  exact hK' _ _ (h A' c' w' h2 h3 h4)
theorem KeepsOthers.grown {w w' : World} {row : Option Nat} (h : w.grownBy w' row) (hr : ∀ k o, row = some k → w.heap[k]? = some o → o.isCells = true) : KeepsOthers w w' :=
 ⟨h.size, fun k o hk ho => (h.block k (lt_of_heap hk) (fun e => by rw [hr k o e.symm hk] at ho; cases ho)).trans hk⟩
theorem KeepsOthers.alloc1 (w : World) (o : Obj) : KeepsOthers w (w.alloc o) := ⟨by simp, fun k o' hk _ => (Below.heap_alloc _ _ _ (lt_of_heap hk)).trans hk⟩
theorem OwnK.cells {α : Type} {R : RowTy α} {w : World} {A : Option Addr} {c : Nat} {xs : List α} (h : OwnK R w A c xs) : ∀ k o, A.map (·.block) = some k → w.heap[k]? = some o → o.isCells = true := by
 intro k o hk ho
 rcases h with ⟨rfl, _, _⟩ | ⟨g, full, rfl, hg, _⟩
 ·
  cases hk
 ·
  simp at hk; subst hk; rw [hg] at ho; cases ho; rfl
theorem OwnK.putl {α : Type} {R : RowTy α} {w : World} {A : Option Addr} {c : Nat} {xs : List α} (h : OwnK R w A c xs) {l : Nat} {o o' : Obj} (hl : w.heap[l]? = some o) (ho : o.isCells = false) : OwnK R (w.putObj l o') A c xs := by
 rcases h with h | ⟨g, full, h1, h2, r⟩
 ·
  exact .inl h
 ·
  refine .inr ⟨g, full, h1, ?_, r⟩
  rw [World.putObj_heap_other (fun e => by subst e; rw [h2] at hl; cases hl; cases ho)]
  exact h2
theorem Chg.putl {S : List Nat} {a w : World} (h : Chg S a w) {l : Nat} {o' : Obj} (hl : a.heap.size ≤ l) : Chg S a (w.putObj l o') :=
 ⟨h.os, h.tape, h.output, by have := h.size; simp [World.putObj]; omega, fun k hk hn => (World.putObj_heap_other (by omega)).trans (h.block k hk hn)⟩
theorem Kpt.grown {n : Nat} {T : List Nat} {w w' : World} {row : Option Nat} (g : w.grownBy w' row) (hn : n ≤ w.heap.size) (hr : ∀ k, row = some k → n ≤ k ∨ k ∈ T) : Kpt n T w w' :=
 ⟨g.os, g.tape, g.output, g.size, fun k hk hT => g.block k (by omega) (fun e => by
  rcases hr k e.symm with h | h
  ·
   omega
  ·
   exact hT h)⟩
end
section
open Go.RowKit Go.Lib


theorem either_any (w : World) (x y : Bool) : Calls Tryz.prog 198 #[.bool x, .bool y] w fun e w' => e = .returned (.bool (kE x y)) ∧ Chg [] w w' := by
 cases x <;> cases y
 all_goals
  go_enter Tryz.func198, Tryz.ntmps198
  go_wp2; go_ret
  exact ⟨rfl, Chg.refl _ _⟩
theorem RdK.kpt {α : Type} {R : RowTy α} {w w' : World} {n₁ : Nat} {T : List Nat} {A : Option Addr} {n : Nat} {xs : List α} (h : RdK R w A n xs) (hk : Kpt n₁ T w w') (ha : ∀ a, A = some a → a.block < n₁ ∧ a.block ∉ T) : RdK R w' A n xs := by
 refine ⟨h.len, fun j v hj => ?_⟩
 obtain ⟨a, e, hc⟩ := h.cells j v hj
 refine ⟨a, e, ?_⟩
 have := ha a e
 have e2 : (a.add j).block = a.block := by unfold Addr.add; split <;> rfl
 exact (World.cell?_of_block (hk.block (a.add j).block (by rw [e2]; exact this.1) (by rw [e2]; exact this.2))).trans hc
theorem SwP.kpt {w w' : World} {n₁ : Nat} {T : List Nat} {g : Nat} {X : List Nat} {la lb : List Sp} {kf : Nat} (h : SwP w g X la lb kf) (hk : Kpt n₁ T w w') (hg : g < n₁ ∧ g ∉ T) (hX : ∀ z ∈ X, z < n₁ ∧ z ∉ T) : SwP w' g X la lb kf := by
 obtain ⟨A, c, B, d, h⟩ := h
 exact ⟨A, c, B, d, (hk.block g hg.1 hg.2).trans h.hg, rd_old h.ra (h.na.imp id (fun q => h.ra.kpt hk (fun a ha => hX _ (q a ha)))), h.ca, h.na, rd_old h.rb (h.nb.imp id (fun q => h.rb.kpt hk (fun a ha => hX _ (q a ha)))), h.cb, h.nb, h.gx⟩
end
section
open Go.RowKit Go.Lib


set_option maxHeartbeats 1000000 in
theorem may_any (w : World) (A : Option Addr) (n c : Nat) (xs : List Sp) (h : RdK spanTy w A n xs) (hn : n ≤ 140737488351232) (B : Option Addr) (m d : Nat) (ys : List Sp) (h' : RdK spanTy w B m ys) (hm : m ≤ 140737488351232) :
  Calls Tryz.prog 153 #[.slice A n c, .slice B m d] w fun e w' => e = .returned (.bool (decide (chkS xs = 0 ∧ chkS ys = 0))) ∧ Chg [] w w' := by
 have H := h_ h
 have H' := h_ h'
 have HN := h_ hn
 have HM := h_ hm
 clear h h' hn hm
 have go : ∀ v, decide (chkS xs = 0 ∧ chkS ys = 0) = v → Calls Tryz.prog 153 #[.slice A n c, .slice B m d] w (fun e w' => e = .returned (.bool v) ∧ Chg [] w w') → Calls Tryz.prog 153 #[.slice A n c, .slice B m d] w fun e w' => e = .returned (.bool (decide (chkS xs = 0 ∧ chkS ys = 0))) ∧ Chg [] w w' := fun v hv h => hv ▸ h
 rcases chk_two xs with e1 | e1 <;> rcases chk_two ys with e2 | e2
 ·
  refine go true (by rw [e1, e2]; rfl) ?_
  clear go
  go_enter Tryz.func153, Tryz.ntmps153
  go_wp2_with fail
  refine (pacheck_any w A n c xs H.out HN.out).mono ?_
  rintro e w1 ⟨rfl, h1⟩
  rw [e1]
  have C1 := h_ h1
  clear h1; go_wp2_with fail
  refine (pacheck_any w1 B m d ys (H'.out.chg C1.out (by simp)) HM.out).mono ?_
  rintro e w2 ⟨rfl, h2⟩
  rw [e2]
  have C2 := h_ (C1.out.trans h2)
  clear h2; go_wp2; go_ret
  exact ⟨rfl, C2.out⟩
 ·
  refine go false (by rw [e1, e2]; rfl) ?_
  clear go
  go_enter Tryz.func153, Tryz.ntmps153
  go_wp2_with fail
  refine (pacheck_any w A n c xs H.out HN.out).mono ?_
  rintro e w1 ⟨rfl, h1⟩
  rw [e1]
  have C1 := h_ h1
  clear h1; go_wp2_with fail
  refine (pacheck_any w1 B m d ys (H'.out.chg C1.out (by simp)) HM.out).mono ?_
  rintro e w2 ⟨rfl, h2⟩
  rw [e2]
  have C2 := h_ (C1.out.trans h2)
  clear h2; go_wp2; go_ret
  exact ⟨rfl, C2.out⟩
 ·
  refine go false (by rw [e1, e2]; rfl) ?_
  clear go
  go_enter Tryz.func153, Tryz.ntmps153
  go_wp2_with fail
  refine (pacheck_any w A n c xs H.out HN.out).mono ?_
  rintro e w1 ⟨rfl, h1⟩
  rw [e1]
  have C1 := h_ h1
  clear h1; go_wp2; go_ret
  exact ⟨rfl, C1.out⟩
 ·
  refine go false (by rw [e1, e2]; rfl) ?_
  clear go
  go_enter Tryz.func153, Tryz.ntmps153
  go_wp2_with fail
  refine (pacheck_any w A n c xs H.out HN.out).mono ?_
  rintro e w1 ⟨rfl, h1⟩
  rw [e1]
  have C1 := h_ h1
  clear h1; go_wp2; go_ret
  exact ⟨rfl, C1.out⟩
end
section
open Go.RowKit Go.Lib


def FitW (w : World) (A : Option Addr) (n c : Nat) : Prop := n ≤ c ∧ c ≤ maxLen ∧ (n = 0 ∨ ∀ a, A = some a → a.block < w.heap.size)
def FitE (w : World) (xs : List EvT) : Prop := ∀ x ∈ xs, FitW w x.B x.bl x.bc
end
section
open Go.RowKit Go.WideShapes Go.ChangeShapes Go.Deep
section
variable {H : Type} {enc : TypeId × Value → H} {P : Program} {w : World} {base : Nat} {spare : Nat → Bool} {held : Bool}

theorem weights_all_mem {e : TypeId} : ∀ {l : List (DataW H)} {d : DataW H}, d ∈ l → ∀ n ∈ d.weights P e, n ∈ DataW.weightsAll P e l
 | x :: l, d, hd, n, hn => by
  simp only [DataW.weightsAll, List.mem_append]
  rcases List.mem_cons.1 hd with rfl | h
  ·
   exact .inl hn
  ·
   exact .inr (weights_all_mem h n hn)
theorem weights_slice {t e : TypeId} (ht : P.underlying t = some (.slice e)) {xs ys : List (DataW H)} (hz : ∀ k ∈ (DataW.slice xs ys).weights P t, k ≤ reachBytes) :
  (xs.length + ys.length) * P.bytesOf e ≤ reachBytes ∧ ∀ d ∈ xs, ∀ k ∈ d.weights P e, k ≤ reachBytes := by
 simp only [DataW.weights, ht, List.mem_cons, List.mem_append] at hz
 exact ⟨hz _ (.inl rfl), fun d hd k hk => hz k (.inr (.inl (weights_all_mem hd k hk)))⟩
theorem weights_struct {t : TypeId} {fs : Array Field} (ht : P.underlying t = some (.struct fs)) {xs : List (DataW H)} (hz : ∀ k ∈ (DataW.agg xs).weights P t, k ≤ reachBytes) {j : Nat} {f : Field} {d : DataW H} (hf : fs[j]? = some f) (hd : xs[j]? = some d) :
  ∀ k ∈ d.weights P f.type, k ≤ reachBytes := by
 simp only [DataW.weights, ht] at hz
 exact fun k hk => hz k (DataW.weights_mem_each (j := j) (by simp [hf]) hd k hk)

theorem list_of {α : Type} {Q : Nat → α → Prop} : ∀ (n : Nat), (∀ i, i < n → ∃ a, Q i a) → ∃ l : List α, l.length = n ∧ ∀ j a, l[j]? = some a → Q j a
 | 0, _ => ⟨[], rfl, by simp⟩
 | n + 1, h => by
  obtain ⟨l, h1, h2⟩ := list_of n (fun i hi => h i (by omega))
  obtain ⟨a, ha⟩ := h n (by omega)
  refine ⟨l ++ [a], by simp [h1], fun j b hj => ?_⟩
  rw [List.getElem?_append] at hj
  split at hj
  ·
   exact h2 j b hj
  ·
   rename_i hn
   have : j = n := by
    have := (List.getElem?_eq_some_iff.1 hj).1
    simp at this
    omega
   subst this
   rw [h1] at hj
   simp at hj
   subst hj
   exact ha
end
section
variable {H : Type} {enc : TypeId × Value → H} {w : World} {base : Nat} {spare : Nat → Bool} {held : Bool}

theorem open_bytes {n : Nat} {cs : List Value} {y : DataW H × List MemPlace} (h : DataW.trod enc Tryz.prog w base spare held n 36 cs = some y) (hz : ∀ k ∈ y.1.weights Tryz.prog 36, k ≤ reachBytes) :
  ∃ A m d ys, cs = [.slice A m d] ∧ Bs w A m ys ∧ m ≤ 140737488351232 ∧ m ≤ d ∧ d ≤ 9223372036854775807 := by
 rcases open_ints Tryz.underlying36 Tryz.underlying5 (by kernel_rfl) h with ⟨rfl, _⟩ | ⟨x, l, c, zs, rfl, _, hl, hm, hzl, rfl, hcell, hwz⟩
 ·
  exact ⟨none, 0, 0, [], rfl, Bs.nil _ _, by decide, by decide, by decide⟩
 ·
  have hlen : l ≤ zs.length := by rw [hzl]; split <;> omega
  have hw := (weights_slice Tryz.underlying36 hz).1
  rw [show Tryz.prog.bytesOf 5 = 1 by kernel_rfl] at hw
  refine ⟨some x, l, c, (zs.take l).map (fun z => UInt8.ofNat z.toNat), rfl, ⟨by simp; omega, fun j u hj => ⟨x, rfl, ?_⟩⟩, ?_, hl, by unfold maxLen at hm; omega⟩
  ·
   have hjl := (List.getElem?_eq_some_iff.1 hj).1
   rw [List.length_map, List.length_take] at hjl
   have h1 : j < l := by omega
   have h2 : j < zs.length := by omega
   rw [hcell j h2]
   have hwz' := bounds_u8 (hwz (zs.getD j 0) (by simp [List.getD, h2]))
   simp only [List.getElem?_map, List.getElem?_take, if_pos h1, Option.map_eq_some_iff] at hj
   obtain ⟨z, h3, rfl⟩ := hj
   have e : zs.getD j 0 = z := by simp [List.getD, h3]
   rw [e] at hwz' ⊢
   unfold bv
   congr 2
   simp
   omega
  ·
   simp [lits, reachBytes] at hw
   omega

theorem open_str {n : Nat} {v : Value} {y : DataW H × List MemPlace} (h : DataW.trod enc Tryz.prog w base spare held n 9 [v] = some y) (hz : ∀ k ∈ y.1.weights Tryz.prog 9, k ≤ reachBytes) : ∃ s : ByteArray, v = .string s ∧ s.size ≤ 140737488351232 := by
 obtain ⟨s, e, e', _⟩ := DataW.trod_string Tryz.underlying9 h
 refine ⟨s, List.singleton_inj.1 e, ?_⟩
 have := hz s.data.toList.length (by rw [e']; simp [DataW.weights])
 rw [Array.length_toList] at this
 exact this
set_option maxRecDepth 100000 in
theorem open_effect {n : Nat} {cs : List Value} {y : DataW H × List MemPlace} (h : DataW.trod enc Tryz.prog w base spare held n 38 cs = some y) (hz : ∀ k ∈ y.1.weights Tryz.prog 38, k ≤ reachBytes) :
  ∃ (k m : Int) (A : Option Addr) (n d : Nat) (ys : List UInt8), cs = [.int .i64 k, .int .i64 m, .slice A n d] ∧ Bs w A n ys ∧ n ≤ 140737488351232 ∧ n ≤ d ∧ d ≤ 9223372036854775807 := by
 obtain ⟨xs, k, rfl, rfl, hl, hx, hf⟩ := DataW.trod_struct Tryz.underlying38 h
 rw [show Tryz.prog.cellsOf 38 = 3 by kernel_rfl] at hl
 have g0 := hf 0 _ rfl
 have g1 := hf 1 _ rfl
 have g2 := hf 2 _ rfl
 change DataW.trod _ _ _ _ _ _ _ 3 ((cs.drop 0).take (Tryz.prog.cellsOf 3)) = _ at g0
 change DataW.trod _ _ _ _ _ _ _ 3 ((cs.drop 1).take (Tryz.prog.cellsOf 3)) = _ at g1
 change DataW.trod _ _ _ _ _ _ _ 36 ((cs.drop 2).take (Tryz.prog.cellsOf 36)) = _ at g2
 rw [show Tryz.prog.cellsOf 3 = 1 by kernel_rfl] at g0 g1
 rw [show Tryz.prog.cellsOf 36 = 1 by kernel_rfl] at g2
 match cs, hl with
 | [v0, v1, v2], _ =>
  match xs, hx with
  | [x0, x1, x2], _ =>
   have w2 := weights_struct Tryz.underlying38 hz (j := 2) (d := x2.1) rfl rfl
   obtain ⟨z0, e0, _, _⟩ := DataW.trod_int Tryz.underlying3 g0
   obtain ⟨z1, e1, _, _⟩ := DataW.trod_int Tryz.underlying3 g1
   obtain ⟨A, m, d, ys, e2, hb, hm, hmd, hd⟩ := open_bytes g2 w2
   simp only [List.drop_succ_cons, List.drop_zero, List.take_succ_cons, List.take_zero, List.cons.injEq, and_true] at e0 e1 e2
   subst e0 e1 e2
   exact ⟨z0, z1, A, m, d, ys, rfl, hb, hm, hmd, hd⟩
set_option maxRecDepth 100000 in
theorem open_dot {n : Nat} {cs : List Value} {y : DataW H × List MemPlace} (h : DataW.trod enc Tryz.prog w base spare held n 35 cs = some y) :
  ∃ (a b : Int), cs = [.int .i64 a, .int .i64 b] ∧ -9223372036854775808 ≤ a ∧ a ≤ 9223372036854775807 ∧ -9223372036854775808 ≤ b ∧ b ≤ 9223372036854775807 := by
 obtain ⟨xs, k, rfl, rfl, hl, hx, hf⟩ := DataW.trod_struct Tryz.underlying35 h
 rw [show Tryz.prog.cellsOf 35 = 2 by kernel_rfl] at hl
 have g0 := hf 0 _ rfl
 have g1 := hf 1 _ rfl
 change DataW.trod _ _ _ _ _ _ _ 3 ((cs.drop 0).take (Tryz.prog.cellsOf 3)) = _ at g0
 change DataW.trod _ _ _ _ _ _ _ 3 ((cs.drop 1).take (Tryz.prog.cellsOf 3)) = _ at g1
 rw [show Tryz.prog.cellsOf 3 = 1 by kernel_rfl] at g0 g1
 match cs, hl with
 | [v0, v1], _ =>
  match xs, hx with
  | [x0, x1], _ =>
   obtain ⟨z0, e0, _, b0⟩ := DataW.trod_int Tryz.underlying3 g0
   obtain ⟨z1, e1, _, b1⟩ := DataW.trod_int Tryz.underlying3 g1
   have c0 := bounds_i64 b0
   have c1 := bounds_i64 b1
   simp only [List.drop_succ_cons, List.drop_zero, List.take_succ_cons, List.take_zero, List.cons.injEq, and_true] at e0 e1
   subst e0 e1
   exact ⟨z0, z1, rfl, c0.1, c0.2, c1.1, c1.2⟩
end
end
section
open Go.RowKit Go.WideShapes Go.ChangeShapes Go.Deep
section
variable {H : Type} {enc : TypeId × Value → H} {w : World} {base : Nat} {spare : Nat → Bool} {held : Bool}
set_option maxRecDepth 100000 in
theorem open_span {n : Nat} {cs : List Value} {y : DataW H × List MemPlace} (h : DataW.trod enc Tryz.prog w base spare held n 81 cs = some y) :
  ∃ (a b c : Int), cs = [.int .i64 a, .int .i64 b, .int .i64 c] := by
 obtain ⟨xs, k, rfl, rfl, hl, hx, hf⟩ := DataW.trod_struct Tryz.underlying81 h
 rw [show Tryz.prog.cellsOf 81 = 3 by kernel_rfl] at hl
 have g0 := hf 0 _ rfl
 have g1 := hf 1 _ rfl
 have g2 := hf 2 _ rfl
 change DataW.trod _ _ _ _ _ _ _ 3 ((cs.drop 0).take (Tryz.prog.cellsOf 3)) = _ at g0
 change DataW.trod _ _ _ _ _ _ _ 3 ((cs.drop 1).take (Tryz.prog.cellsOf 3)) = _ at g1
 change DataW.trod _ _ _ _ _ _ _ 3 ((cs.drop 2).take (Tryz.prog.cellsOf 3)) = _ at g2
 rw [show Tryz.prog.cellsOf 3 = 1 by kernel_rfl] at g0 g1 g2
 match cs, hl with
 | [v0, v1, v2], _ =>
  match xs, hx with
  | [x0, x1, x2], _ =>
   obtain ⟨z0, e0, _, _⟩ := DataW.trod_int Tryz.underlying3 g0
   obtain ⟨z1, e1, _, _⟩ := DataW.trod_int Tryz.underlying3 g1
   obtain ⟨z2, e2, _, _⟩ := DataW.trod_int Tryz.underlying3 g2
   simp only [List.drop_succ_cons, List.drop_zero, List.take_succ_cons, List.take_zero, List.cons.injEq, and_true] at e0 e1 e2
   subst e0 e1 e2
   exact ⟨z0, z1, z2, rfl⟩
theorem open_spans {n : Nat} {cs : List Value} {y : DataW H × List MemPlace} (h : DataW.trod enc Tryz.prog w base spare held n 23 cs = some y) (hz : ∀ k ∈ y.1.weights Tryz.prog 23, k ≤ reachBytes) :
  ∃ A m d zs, cs = [.slice A m d] ∧ RdK spanTy w A m zs ∧ m * 24 ≤ 140737488351232 ∧ m ≤ d := by
 rcases open_slice Tryz.underlying23 h with ⟨rfl, _⟩ | ⟨a, len, cap, m, k, D, Pl, rfl, _, hl, hm, hmm, rfl, hi⟩
 ·
  exact ⟨none, 0, 0, [], rfl, RdK.nil _ _, by decide, by decide⟩
 ·
  have hlm : len ≤ m := by rw [hmm]; split <;> omega
  obtain ⟨hw, _⟩ := weights_slice Tryz.underlying23 hz
  rw [show Tryz.prog.bytesOf 81 = 24 by kernel_rfl] at hw
  simp [reachBytes] at hw
  have hC : Tryz.prog.cellsOf 81 = 3 := by kernel_rfl
  obtain ⟨l, hll, hat⟩ := list_of (Q := fun i (x : Int × Int × Int) => w.cell? (a.add (i * 3)) = some (.int .i64 x.1) ∧ w.cell? (a.add (i * 3 + 1)) = some (.int .i64 x.2.1) ∧ w.cell? (a.add (i * 3 + 2)) = some (.int .i64 x.2.2)) len (fun i hilt => by
   obtain ⟨cs', hc, ht⟩ := hi i (by omega)
   rw [hC] at hc
   obtain ⟨_, hcl, hat⟩ := World.cells?_some hc
   obtain ⟨p, q, r, rfl⟩ := open_span ht
   have g0 := hat 0 (by omega)
   have g1 := hat 1 (by omega)
   have g2 := hat 2 (by omega)
   rw [add_add] at g0 g1 g2
   exact ⟨(p, q, r), g0, g1, g2⟩)
  refine ⟨some a, len, cap, l, rfl, ⟨hll, fun j v hj => ⟨a, rfl, ?_⟩⟩, by omega, hl⟩
  have hj2 := (List.getElem?_eq_some_iff.1 hj).1
  rw [spanTy.flat_len] at hj2
  have hk : spanTy.k = 3 := rfl
  rw [hk] at hj2
  have hq : j / 3 < l.length := by omega
  have e := spanTy.flat_at l (j / 3) (j % 3) _ (List.getElem?_eq_getElem hq) (Nat.mod_lt _ (by decide))
  rw [hk, Nat.div_add_mod', hj] at e
  obtain ⟨g0, g1, g2⟩ := hat (j / 3) _ (List.getElem?_eq_getElem hq)
  rcases (show j % 3 = 0 ∨ j % 3 = 1 ∨ j % 3 = 2 by omega) with h0 | h0 | h0
  ·
   rw [h0] at e
   rw [show j / 3 * 3 = j by omega] at g0
   rw [g0]
   exact e.symm
  ·
   rw [h0] at e
   rw [show j / 3 * 3 + 1 = j by omega] at g1
   rw [g1]
   exact e.symm
  ·
   rw [h0] at e
   rw [show j / 3 * 3 + 2 = j by omega] at g2
   rw [g2]
   exact e.symm
end
end
section
open Go.RowKit Go.WideShapes Go.ChangeShapes Go.Deep
variable {H : Type} {enc : TypeId × Value → H} {P : Program} {w : World} {base : Nat} {spare : Nat → Bool} {held : Bool}
set_option maxRecDepth 100000 in
def EvZ (x : EvT) (e : EvP) : Prop := e.b.length ≤ 140737488351232 ∧ e.q.length * 24 ≤ 140737488351232 ∧ e.p.length ≤ 140737488351232 ∧ (x.l ≤ x.c ∧ x.c ≤ 9223372036854775807 ∧ x.bl ≤ x.bc ∧ x.bc ≤ 9223372036854775807) ∧ (-9223372036854775808 ≤ e.n ∧ e.n ≤ 9223372036854775807 ∧ -9223372036854775808 ≤ e.s ∧ e.s ≤ 9223372036854775807)
theorem cap_spans {n : Nat} {B : Option Addr} {q d : Nat} {y : DataW H × List MemPlace} (h : DataW.trod enc Tryz.prog w base spare held n 23 [.slice B q d] = some y) : d ≤ 9223372036854775807 := by
 rcases open_slice Tryz.underlying23 h with ⟨e, _⟩ | ⟨a, len, cap, m, k, D, Pl, e, _, _, hm, _⟩
 ·
  cases e; omega
 ·
  cases e; exact hm
set_option maxRecDepth 100000 in
theorem open_event {n : Nat} {cs : List Value} {y : DataW H × List MemPlace} (h : DataW.trod enc Tryz.prog w base spare held n 40 cs = some y) (hz : ∀ k ∈ y.1.weights Tryz.prog 40, k ≤ reachBytes) :
  ∃ (x : EvT) (e : EvP), cs = [.int .i64 x.n, .int .i64 x.s, .string x.p, .int .i64 x.k, .int .i64 x.m, .slice x.A x.l x.c, .slice x.B x.bl x.bc] ∧ EvR w x e ∧ EvZ x e := by
 obtain ⟨xs, k, rfl, rfl, hl, hx, hf⟩ := DataW.trod_struct Tryz.underlying40 h
 rw [show Tryz.prog.cellsOf 40 = 7 by kernel_rfl] at hl
 have g0 := hf 0 _ rfl
 have g1 := hf 1 _ rfl
 have g2 := hf 2 _ rfl
 have g3 := hf 3 _ rfl
 change DataW.trod _ _ _ _ _ _ _ 35 ((cs.drop 0).take (Tryz.prog.cellsOf 35)) = _ at g0
 change DataW.trod _ _ _ _ _ _ _ 9 ((cs.drop 2).take (Tryz.prog.cellsOf 9)) = _ at g1
 change DataW.trod _ _ _ _ _ _ _ 38 ((cs.drop 3).take (Tryz.prog.cellsOf 38)) = _ at g2
 change DataW.trod _ _ _ _ _ _ _ 23 ((cs.drop 6).take (Tryz.prog.cellsOf 23)) = _ at g3
 rw [show Tryz.prog.cellsOf 35 = 2 by kernel_rfl] at g0
 rw [show Tryz.prog.cellsOf 9 = 1 by kernel_rfl] at g1
 rw [show Tryz.prog.cellsOf 38 = 3 by kernel_rfl] at g2
 rw [show Tryz.prog.cellsOf 23 = 1 by kernel_rfl] at g3
 match cs, hl with
 | [v0, v1, v2, v3, v4, v5, v6], _ =>
  match xs, hx with
  | [x0, x1, x2, x3], _ =>
   have w2 := weights_struct Tryz.underlying40 hz (j := 2) (d := x2.1) rfl rfl
   have w3 := weights_struct Tryz.underlying40 hz (j := 3) (d := x3.1) rfl rfl
   have w1 := weights_struct Tryz.underlying40 hz (j := 1) (d := x1.1) rfl rfl
   obtain ⟨a, b, e0, r0⟩ := open_dot g0
   simp only [List.drop_succ_cons, List.drop_zero, List.take_succ_cons, List.take_zero] at g1
   obtain ⟨s, e1, r1⟩ := open_str g1 w1
   obtain ⟨k, m, A, n, c, ys, e2, r2⟩ := open_effect g2 w2
   obtain ⟨B, q, d, zs, e3, r3⟩ := open_spans g3 w3
   simp only [List.drop_succ_cons, List.drop_zero, List.take_succ_cons, List.take_zero, List.cons.injEq, and_true] at e0 e2 e3
   obtain ⟨rfl, rfl⟩ := e0
   obtain ⟨rfl, rfl, rfl⟩ := e2
   subst e1 e3
   refine ⟨⟨a, b, s, k, m, A, n, c, B, q, d⟩, ⟨a, b, s.data.toList, k, m, ys, zs⟩, rfl, ⟨rfl, rfl, (strOf_of s).symm, rfl, rfl, r2.1.len.symm, r3.1.len.symm, r2.1, r3.1⟩, ?_⟩
   simp only [List.drop_succ_cons, List.drop_zero, List.take_succ_cons, List.take_zero] at g3
   have l4 := cap_spans g3
   have hs : s.data.toList.length = s.size := rfl
   have l2 := r2.1.len
   have l3 := r3.1.len
   refine ⟨?_, ?_, ?_, ⟨?_, ?_, ?_, ?_⟩, r0⟩
   all_goals (simp only; omega)
end
section
open Go.RowKit Go.Lib


theorem fit_args {w : World} {xs : List EvT} {es : List EvP} (hr : EvsR w xs es) (hz : ∀ (i : Nat) (x : EvT) (e : EvP), xs[i]? = some x → es[i]? = some e → EvZ x e) : FitE w xs := fun x hx => by
 obtain ⟨i, hi⟩ := List.getElem?_of_mem hx
 obtain ⟨x2, e, ex, ee, rx⟩ := hr.at_ (show i < xs.length from (List.getElem?_eq_some_iff.1 hi).1)
 rw [hi] at ex
 cases ex
 have z := (hz i x e hi ee).2.2.2.1
 refine ⟨z.2.2.1, z.2.2.2, ?_⟩
 by_cases h0 : x.bl = 0
 ·
  exact .inl h0
 ·
  obtain ⟨g, o, eA, hl⟩ := rx.B.line (by omega)
  exact .inr (fun a ha => by rw [eA] at ha; cases ha; exact hl)
theorem smallEvs {w : World} {xs : List EvT} {es : List EvP} {most : Nat} (hr : EvsR w xs es) (hl : longE xs most = false) : (∀ e ∈ es, EvSm e ∧ e.q.length ≤ 100 ∧ e.b.length ≤ 1200) ∧ xs.length ≤ most := by
 have sm := longE_no hl
 refine ⟨fun e he => ?_, sm.1⟩
 obtain ⟨i, hi, rfl⟩ := List.getElem_of_mem he
 obtain ⟨x, f, ex, ef, rx⟩ := hr.at_ (show i < xs.length by rw [hr.1]; exact hi)
 rw [List.getElem?_eq_getElem hi] at ef
 cases ef
 have q := sm.2 x (List.mem_of_getElem? ex)
 have a1 := rx.l
 have a2 := rx.bl
 have a3 := rx.p
 have a4 : x.p.size = es[i].p.length := by rw [a3, strOf_size]
 unfold bigE at q
 unfold EvSm
 omega
end
end Go.Proofs.YtehmchdhlhchjaaGreatDoor
