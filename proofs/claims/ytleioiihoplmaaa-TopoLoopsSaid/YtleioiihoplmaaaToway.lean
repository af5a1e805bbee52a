/- Topologies: the program's way, the document's up. -/
import Derived.Test.YtleioiihoplmaaaToup
import Derived.Deep.Cut
import Derived.Deep.CutRange
import Derived.OwnWalkIn
namespace Go.Proofs.Ytleioiihoplmaaa
open Go.RowKit
set_option linter.unusedSimpArgs false
set_option linter.unusedVariables false
attribute [local go_sem] Oper.semAt_some
theorem toIn_scope {P : Program} {n : Nat} {c : Code} {Q : Exit → Act → World → Prop} {a : Act} {w : World} (h : c.wpIn Fence.wide n P (Exit.noGoto Q) a w) : (Code.scope c).wpIn Fence.wide n P Q a w := wpIn_wide.2 (wp_scope_straight (wpIn_wide.1 h))
theorem wpListIn_appK {α : Type} {R : RowTy α} {F : Fence} {nF : Nat} {ops : Array Oper} {rest : List Oper} {o : Oper} {a : Act} {w : World} {Q : Exit → Act → World → Prop} (hgd : o.guard = none) (s x : Operand)
    (ho : o.op = .call { callee := .builtin .append, args := #[s, x], argTypes := #[R.TS, R.TS] })
    {A : Option Addr} {c n : Nat} {xs : List α} (hs : a.eval s = .slice A n c) (hown : OwnK R w A c xs) (hn : xs.length = n) {B : Option Addr} {m d : Nat} {ys : List α} (hx : a.eval x = .slice B m d) (hr : RdK R w B m ys) (hlen : (n + m) * 400 ≤ 140737488355327)
    (h : ∀ A' c' w', OwnK R w' A' c' (xs ++ ys) → w.grownBy w' (A.map (·.block)) → (A' = A ∨ A' = some ⟨w.heap.size, 0, none⟩) → wpListIn F nF Try.prog ops Q rest (a.put o.dst (.slice A' (n + m) c')) w') : wpListIn F nF Try.prog ops Q (o :: rest) a w := by
  refine wpListIn_plain hgd fun K hK' => ?_
  subst hn
  obtain ⟨A', c', w', hrun, h2, h3, h4⟩ := run_appK w o.type hown (d := d) hr hlen
  unfold Oper.wpIn
  refine ⟨?_, ?_⟩
  · simp [Oper.about, ho, resolve, Target.leads, Sem.run_pure]
  · rw [Oper.semAt_plain F _ _ (by rw [ho]; intro c hc'; cases hc')]
    simp [execOp, ho, resolve, invoke, builtin, hs, hx, hrun, Result.andThen]
    exact hK' _ _ (h A' c' w' h2 h3 h4)
theorem KeepsOthers.grown {w w' : World} {row : Option Nat} (h : w.grownBy w' row) (hr : ∀ k o, row = some k → w.heap[k]? = some o → o.isCells = true) : KeepsOthers w w' :=
  ⟨h.size, fun k o hk ho => (h.block k (lt_of_heap hk) (fun e => by rw [hr k o e.symm hk] at ho; cases ho)).trans hk⟩
theorem KeepsOthers.alloc1 (w : World) (o : Obj) : KeepsOthers w (w.alloc o) := ⟨by simp, fun k o' hk _ => (Below.heap_alloc _ _ _ (lt_of_heap hk)).trans hk⟩
theorem OwnK.cells {α : Type} {R : RowTy α} {w : World} {A : Option Addr} {c : Nat} {xs : List α} (h : OwnK R w A c xs) : ∀ k o, A.map (·.block) = some k → w.heap[k]? = some o → o.isCells = true := by
  intro k o hk ho
  rcases h with ⟨rfl, _, _⟩ | ⟨g, full, rfl, hg, _⟩
  · cases hk
  · simp at hk; subst hk; rw [hg] at ho; cases ho; rfl
theorem OwnK.putl {α : Type} {R : RowTy α} {w : World} {A : Option Addr} {c : Nat} {xs : List α} (h : OwnK R w A c xs) {l : Nat} {o o' : Obj} (hl : w.heap[l]? = some o) (ho : o.isCells = false) : OwnK R (w.putObj l o') A c xs := by
  rcases h with h | ⟨g, full, h1, h2, r⟩
  · exact .inl h
  · refine .inr ⟨g, full, h1, ?_, r⟩
    rw [World.putObj_heap_other (fun e => by subst e; rw [h2] at hl; cases hl; cases ho)]
    exact h2
theorem Chg.putl {S : List Nat} {a w : World} (h : Chg S a w) {l : Nat} {o' : Obj} (hl : a.heap.size ≤ l) : Chg S a (w.putObj l o') :=
  ⟨h.os, h.tape, h.output, by have := h.size; simp [World.putObj]; omega, fun k hk hn => (World.putObj_heap_other (by omega)).trans (h.block k hk hn)⟩
theorem Kpt.grown {n : Nat} {T : List Nat} {w w' : World} {row : Option Nat} (g : w.grownBy w' row) (hn : n ≤ w.heap.size) (hr : ∀ k, row = some k → n ≤ k ∨ k ∈ T) : Kpt n T w w' :=
  ⟨g.os, g.tape, g.output, g.size, fun k hk hT => g.block k (by omega) (fun e => by
    rcases hr k e.symm with h | h
    · omega
    · exact hT h)⟩
set_option maxRecDepth 100000 in
set_option maxHeartbeats 2000000 in
theorem upward_any (w : World) (A : Option Addr) (N c : Nat) (n : Int) : Calls Try.prog 46 #[.slice A N c, .int .i64 n] w fun e w' =>
    e = .returned (.func (.func 48) #[] #[.pointer (some ⟨w.heap.size, 0, none⟩), .pointer (some ⟨w.heap.size + 1, 0, none⟩)]) ∧
      w' = (w.alloc (.cells #[.slice A N c] 22)).alloc (.cells #[.int .i64 n] 3) := by
  go_enter Try.func46, Try.ntmps46
  go_wp2
  go_ret
  exact ⟨rfl, rfl⟩
set_option maxRecDepth 100000 in
set_option maxHeartbeats 4000000 in
theorem wayl_any (w : World) (A : Option Addr) (c : Nat) (t : List MemT) (n : Int) (h : RdK memTy w A t.length t) (hA : ∀ a, A = some a → a.block < w.heap.size) (hN : t.length ≤ 100000000) :
    Calls Try.prog 38 #[.slice A t.length c, .int .i64 n] w fun e w' => ∃ B d, e = .returned (.slice B (wayT t t.length n).length d) ∧ OwnK intTy w' B d (wayT t t.length n) ∧ (∀ a, B = some a → w.heap.size ≤ a.block) ∧ Chg [] w w' := by
  have h1 : 1 ≤ 5 := by omega
  have hro : Fence.wide.round = none := rfl
  have HR := Lib.hid h
  clear h
  refine (callsIn_wide (n := 5)).1 ?_
  refine callsIn_of_wp_marks Try.func38 rfl trivial ?_ hro
  simp only [Try.ntmps38, List.size_toArray, List.length_cons, List.length_nil, Nat.reduceAdd, Nat.reduceSub, Array.replicate_succ, Array.replicate_zero, List.push_toArray, List.append_toArray, List.nil_append, List.cons_append]
  gi_wp2
  refine toIn_scope ?_
  obtain ⟨w1, hw1, C1, b0, b1⟩ := news2 w (.cells #[.slice A t.length c] 22) (.cells #[.slice none 0 0] 35)
  gi_wp2
  refine wpIn_label ?_
  rw [← hw1]
  have hs1 : w1.heap.size = w.heap.size + 2 := by rw [hw1]; simp
  obtain ⟨V, hV, CV, v0, v1⟩ := news2 w1 (.cells #[.slice A t.length c] 22) (.cells #[.int .i64 n] 3)
  have hsV : V.heap.size = w1.heap.size + 2 := by rw [hV]; simp
  have CwV := C1.trans CV
  have c0 := cell_of b0 0
  simp only [List.getElem?_toArray, List.getElem?_cons_zero] at c0
  have B0 := Lib.hid (CV.at_ b0 (by simp))
  have B1 := Lib.hid (CV.at_ b1 (by simp))
  have HW1 := Lib.hid hw1
  have HV := Lib.hid hV
  have HS1 := Lib.hid hs1
  have HSV := Lib.hid hsV
  clear hw1 hV b0 b1 hs1 hsV
  gi_wp2_with (refine ⟨trivial, ?_⟩; gi_at_call 46; refine (callsIn_wide.2 (upward_any _ A t.length c n)).mono ?_; rintro e w2 ⟨rfl, rfl⟩)
  rw [← HV.out]
  have hs1 := HS1.out
  have hsV := HSV.out
  refine range_own (gf := 48) (lb := #[.pointer (some ⟨w1.heap.size, 0, none⟩), .pointer (some ⟨w1.heap.size + 1, 0, none⟩)]) rfl (enters_of Try.func48 (by kernel_rfl) rfl) (encs := fun x : Int => #[.int .i64 x]) (n₁ := V.heap.size) (Nat.le_refl _)
    (S := fun ys => ∀ f, wayT t (ys.length + f) n = ys) (Sp := fun _ => True) (Ex := fun pre x _ => thereT t x = true ∧ ∀ f, wayT t (pre.length + f) n = pre ++ wayT t f x) (Bd := fun pre => pre.length ≤ t.length) (Si := [w1.heap.size + 1]) (T := [w.heap.size + 1]) ?si ?seq (fun _ => rfl)
    (fun pre W => pre.length ≤ t.length ∧ W.heap[w.heap.size]? = some (.cells #[.slice A t.length c] 22 (0, 0)) ∧ (∃ B d, W.heap[w.heap.size + 1]? = some (.cells #[.slice B pre.length d] 35 (0, 0)) ∧ OwnK intTy W B d pre ∧ ∀ a, B = some a → V.heap.size ≤ a.block) ∧ Chg [] w W ∧ V.heap.size ≤ W.heap.size)
    (fun cc pre W => cc = .exit 0 ∧ (∃ B d, W.heap[w.heap.size + 1]? = some (.cells #[.slice B (wayT t t.length n).length d] 35 (0, 0)) ∧ OwnK intTy W B d (wayT t t.length n) ∧ ∀ a, B = some a → V.heap.size ≤ a.block) ∧ Chg [] w W)
    ?keep ?keepx ?kl ?kxl ?bd ⟨Nat.zero_le _, B0.out, ⟨none, 0, B1.out, OwnK.none_ _, by simp⟩, CwV, Nat.le_refl _⟩ ?elem
    (fun x => { tmps := #[.slice A t.length c, .int .i64 n, .pointer (some ⟨w.heap.size, 0, none⟩), undef, .slice none 0 0, .pointer (some ⟨w.heap.size + 1, 0, none⟩), .int .i64 x, .slice A t.length c, .int .i64 n, .func (.func 48) #[] #[.pointer (some ⟨w1.heap.size, 0, none⟩), .pointer (some ⟨w1.heap.size + 1, 0, none⟩)], .int .i64 x, undef, undef, undef, undef, undef, undef, undef, undef, undef, undef], defers := [] }) ?assign ?body ?done ?stop
  case si => intro x hx; simp at hx; omega
  case seq =>
    intro l' J Jx W hW hJ hJx hJb hY h0
    have hs2 := hW.size
    exact upa_gives 3 l' V.heap.size w1.heap.size (w1.heap.size + 1) [w.heap.size + 1] A c t.length t n (by omega) J Jx W (by omega) (by omega) (by omega) (by simp; omega) (by simp; omega) (by omega) (fun a ha => by have := hA a ha; refine ⟨by omega, by omega, by simp; omega⟩) hJ hJb hY
      ((hW.cell (p := ⟨w1.heap.size, 0, none⟩) (show w1.heap.size < V.heap.size by omega)).trans (by rw [cell_of v0]; rfl)) ((hW.block _ (by omega)).trans v1) ((HR.out.chg CwV (by simp)).chg (Chg.ofBelow hW (Nat.le_refl _) []) (by simp)) h0
  case keep =>
    rintro pre A' B' ⟨hp, e0, ⟨B, d, e1, hO, hB⟩, hC, hz⟩ hb
    exact ⟨hp, hb.at_ e0 (by simp; omega), ⟨B, d, hb.at_ e1 (by simp; omega), hO.chg hb (fun a ha => by have := hB a ha; simp; omega), hB⟩, hC.trans' hb (fun i hi => by simp at hi; subst hi; exact .inr (by omega)), Nat.le_trans hz hb.size⟩
  case keepx =>
    rintro cc pre A' B' ⟨hc, ⟨B, d, e1, hO, hB⟩, hC⟩ hb
    exact ⟨hc, ⟨B, d, hb.at_ e1 (by simp; omega), hO.chg hb (fun a ha => by have := hB a ha; simp; omega), hB⟩, hC.trans' hb (fun i hi => by simp at hi; subst hi; exact .inr (by omega))⟩
  case kl =>
    rintro pre W l o o' hl ho hll ⟨hp, e0, ⟨B, d, e1, hO, hB⟩, hC, hz⟩
    exact ⟨hp, (World.putObj_heap_other (by omega)).trans e0, ⟨B, d, (World.putObj_heap_other (by omega)).trans e1, hO.putl hl ho, hB⟩, hC.putl (by omega), by simpa [World.putObj] using hz⟩
  case kxl =>
    rintro cc pre W l o o' hl ho hll ⟨hc, ⟨B, d, e1, hO, hB⟩, hC⟩
    exact ⟨hc, ⟨B, d, (World.putObj_heap_other (by omega)).trans e1, hO.putl hl ho, hB⟩, hC.putl (by omega)⟩
  case bd => rintro pre W ⟨hp, _⟩; exact hp
  case elem => rintro pre x W l o o' hl ho hx; exact hx
  case assign =>
    intro l x W K hK
    clear hs1 hsV
    gi_wp2
    exact hK
  case body =>
    rintro l' pre x W ⟨hp, e0, ⟨B, d, e1, hO, hB⟩, hC, hz⟩ ⟨hth, hE⟩
    have k0 := cell_of e0 0
    have k1 := cell_of e1 0
    simp only [List.getElem?_toArray, List.getElem?_cons_zero] at k0 k1
    by_cases hfull : pre.length = t.length
    · have hw : wayT t t.length n = pre := by have := hE 0; rw [Nat.add_zero, hfull] at this; rw [this]; simp [wayT]
      have q0 : ((pre.length : Int) == (t.length : Int)) = true := by simp; omega
      have q1 : ((pre.length : Int) = (t.length : Int)) := by omega
      have e1' := e1
      rw [← hw] at e1' hO
      have E1 := Lib.hid e1'
      have HO := Lib.hid hO
      clear hw hE e0 e1 e1' hO hfull hs1 hsV
      gi_wp2
      exact ⟨⟨Nat.le_refl _, fun _ _ h _ => h⟩, rfl, ⟨B, d, E1.out, HO.out, hB⟩, hC⟩
    · have q0 : ((pre.length : Int) == (t.length : Int)) = false := by simp; omega
      have q1 : ¬ ((pre.length : Int) = (t.length : Int)) := by omega
      obtain ⟨W1, hW1, CW1, bW1⟩ := news1 W (.cells #[.int .i64 x] 3)
      have HW := Lib.hid hW1
      have R1 := Lib.hid (show RdK intTy W1 (some ⟨W.heap.size, 0, none⟩) 1 [x] from (OwnK.of (R := intTy) (c := 1) (full := [x]) (xs := [x]) bW1 (Nat.le_refl _) (by decide) rfl rfl).reads)
      have O1 := Lib.hid (hO.chg CW1 (by simp))
      have F1 := Lib.hid (CW1.at_ e1 (by simp))
      have F0 := Lib.hid (CW1.at_ e0 (by simp))
      have KW := Lib.hid (show KeepsOthers W W1 by rw [hW1]; exact KeepsOthers.alloc1 _ _)
      have CC := Lib.hid CW1
      have HC := Lib.hid hC
      have N1 := Lib.hid (show (pre.length + 1) * 400 ≤ 140737488355327 by omega)
      have Hhz := Lib.hid hz
      have HBB := Lib.hid hB
      clear hW1 CW1 bW1 hO e0 e1 hE hC hz hB hs1 hsV
      gi_wp2_with (gi_at_builtin; rw [← HW.out]; refine wpListIn_appK (R := intTy) rfl _ _ rfl rfl O1.out rfl rfl R1.out N1.out ?_; intro B2 d2 W2 o2 g2 e2; have q2 := grown_at g2 F1.out (fun a ha => by have := HBB.out a ha; have := HS1.out; have := HSV.out; omega); have k2 := cell_of q2 0; have f2 := free_of q2 0; simp only [List.getElem?_toArray, List.getElem?_cons_zero] at k2; have Q2 := Lib.hid q2; have O2 := Lib.hid o2; have G2 := Lib.hid g2; have E2 := Lib.hid e2; clear q2 o2 g2 e2)
      have hs1 := HS1.out
      have hsV := HSV.out
      have hw2 : W.heap.size ≤ W2.heap.size := Nat.le_trans CC.out.size G2.out.size
      have hB2 : ∀ a, B2 = some a → V.heap.size ≤ a.block := by
        rintro a rfl
        rcases E2.out with e | e
        · exact HBB.out a e.symm
        · cases e; have := Hhz.out; have := CC.out.size; simp; omega
      have CG : Chg [w.heap.size + 1] w (W2.setCell ⟨w.heap.size + 1, 0, none⟩ (.slice B2 (pre.length + 1) d2)) := by
        refine Chg.setCell ?_ (.inl (by simp)) _
        exact ((HC.out.trans CC.out).grown G2.out (fun k hk => .inr (by
          cases B with
          | none => cases hk
          | some a => simp at hk; have := HBB.out a rfl; omega))).mono (by simp)
      refine ⟨(KW.out.trans (KeepsOthers.grown G2.out O1.out.cells)).trans (KeepsOthers.setCell _ _ _), ?_, by simp; omega, ?_, ⟨B2, d2, ?_, ?_, hB2⟩, ?_, ?_⟩
      · exact ((Kpt.of_chg (T := [w.heap.size + 1]) (CC.out.mono (by simp)) Hhz.out).trans (Kpt.grown G2.out (Nat.le_trans Hhz.out CC.out.size) (fun k hk => .inl (by
          cases B with
          | none => cases hk
          | some a => simp at hk; have := HBB.out a rfl; omega)))).trans (Kpt.of_chg ((Chg.refl [w.heap.size + 1] W2).setCell (p := ⟨w.heap.size + 1, 0, none⟩) (.inl (by simp)) _) (Nat.le_trans Hhz.out hw2))
      · exact (heap_setCell_other W2 ⟨w.heap.size + 1, 0, none⟩ w.heap.size _ (by simp)).trans (grown_at G2.out F0.out (fun a ha => by have := HBB.out a ha; omega))
      · have := heap_setCell_same W2 (w.heap.size + 1) 0 _ _ (.slice B2 (pre.length + 1) d2) Q2.out
        simpa using this
      · exact O2.out.chg ((Chg.refl [w.heap.size + 1] W2).setCell (p := ⟨w.heap.size + 1, 0, none⟩) (.inl (by simp)) _) (fun a ha => by have := hB2 a ha; simp; omega)
      · exact CG.mono (fun i hi => by simp at hi; subst hi; exact .inr (by omega))
      · have := Hhz.out
        simp [World.setCell]
        omega
  case done =>
    rintro D ys W hD hS ⟨hp, e0, ⟨B, d, e1, hO, hB⟩, hC, hz⟩ hK
    have hw : wayT t t.length n = ys := by have := hS (t.length - ys.length); rwa [show ys.length + (t.length - ys.length) = t.length by omega] at this
    have k1 := cell_of e1 0
    simp only [List.getElem?_toArray, List.getElem?_cons_zero] at k1
    have HO := Lib.hid hO
    have HYW := Lib.hid hw
    clear hw hS e0 e1 hO hs1 hsV
    gi_wp2
    refine ⟨by simp, .inl ⟨_, _, rfl, run_takeDeferred hK, ?_⟩⟩
    refine ⟨_, results_tmp rfl _ _ _, B, d, ?_, ?_, fun a ha => ?_, hC.putl ?_⟩
    · rw [HYW.out]; rfl
    · rw [HYW.out]; exact HO.out.putl hK rfl
    · have := hB a ha; have := HS1.out; have := HSV.out; omega
    · have := HS1.out; have := HSV.out; omega
  case stop =>
    rintro D cc ys W hD _ ⟨rfl, ⟨B, d, e1, hO, hB⟩, hC⟩ hK
    have k1 := cell_of e1 0
    simp only [List.getElem?_toArray, List.getElem?_cons_zero] at k1
    have HO := Lib.hid hO
    clear e1 hO hs1 hsV
    refine wpIn_exit ?_
    gi_wp2
    refine ⟨by simp, .inl ⟨_, _, rfl, run_takeDeferred hK, ?_⟩⟩
    refine ⟨_, results_tmp rfl _ _ _, B, d, rfl, HO.out.putl hK rfl, fun a ha => ?_, hC.putl ?_⟩
    · have := hB a ha; have := HS1.out; have := HSV.out; omega
    · have := HS1.out; have := HSV.out; omega
end Go.Proofs.Ytleioiihoplmaaa
