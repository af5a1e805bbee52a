/- The statements' own functions over effects: SameEffect, LongEffect, of, file, awake. The kit's LongEvents. Arguments opened: bytes, numbers, texts: from the data that a row reads to the cells that a walk goes over. Slices of spans as arguments. An event as an argument. Nothing is asked of the variables. EventKnown: the run on marks, reckoned by the kernel. EventBack. -/
import Derived.Test.YtgbidlhgmeglmaaGreatDoorZebd
import Derived.Test.YtgbidlhgmeglmaaGreatDoorZebb
import Derived.Deep.Cut
import Derived.Test.YtgbidlhgmeglmaaGreatDoorZeba
import Derived.Deep.Slices
import Derived.Deep.Fields
import Derived.ChangeSame
import Derived.SizedLaws
import Derived.ChangeArms
import Derived.ChangeSlices
import Derived.OpenShut
import Derived.ProofKit
import Derived.Test.YtgbidlhgmeglmaaGreatDoorZebc
import Derived.Test.YtgbidlhgmeglmaaGreatDoorZebl
import Derived.Test.YtgbidlhgmeglmaaGreatDoorLaid0
import Derived.Test.YtgbidlhgmeglmaaGreatDoorZebm
namespace Go.Proofs.YtgbidlhgmeglmaaGreatDoor
section
open Go.RowKit
set_option linter.unusedSimpArgs false

/-- Bytes that fill a block. -/
theorem Bs.fill {w : World} {g n : Nat} {C : Array Value} (xs : List UInt8) {fr : Nat × Nat} (hg : w.heap[g]? = some (.cells C 5 fr)) (h : C.toList = xs.map bv) (hn : xs.length = n) : Bs w (some ⟨g, 0, none⟩) n xs :=
  ⟨hn, fun j u hj => ⟨_, rfl, by
    rw [add_zero_lit]
    have e : w.cell? ⟨g, j, none⟩ = C[j]? := by simp [World.cell?, hg]
    rw [e, ← Array.getElem?_toList, h, List.getElem?_map, hj]; rfl⟩⟩

set_option maxHeartbeats 400000 in
theorem longeff_any (w : World) (k m : Int) (A : Option Addr) (n c : Nat) (_hn : n ≤ 140737488351232) :
    Calls Tryz.prog 40 #[.agg #[.int .i64 k, .int .i64 m, .slice A n c]] w fun e w' => e = .returned (.bool (decide ((1200 : Int) < n))) ∧ Chg [] w w' := by
  go_enter Tryz.func40, Tryz.ntmps40
  go_wp2
  go_ret
  exact ⟨rfl, (Chg.refl _ _).alloc _⟩
theorem Lent.lt {w : World} {g : Nat} {xs : List UInt8} (h : Lent w g xs) : g < w.heap.size := by
  obtain ⟨full, h1, _⟩ := h
  exact lt_of_heap h1
theorem Chg.c0 {w w' : World} {a : Addr} {u : Value} (hc : Chg [] w w') (h : w.cell? a = some u) : w'.cell? a = some u := hc.cell h (by simp)
end
section
open Go.RowKit Go.Lib
set_option linter.unusedSimpArgs false
set_option linter.unusedVariables false


/-- More of an event than is gone through. -/
def bigE (x : EvT) : Prop := 100 < x.p.size ∨ 1200 < x.l ∨ 100 < x.bl
instance (x : EvT) : Decidable (bigE x) := by unfold bigE; exact inferInstance
def longE (xs : List EvT) (most : Nat) : Bool := (xs.take (most + 1)).any (fun x => decide (bigE x)) || decide (most < xs.length)
theorem longE_no {xs : List EvT} {most : Nat} (h : longE xs most = false) : xs.length ≤ most ∧ ∀ x ∈ xs, ¬ bigE x := by
  unfold longE at h
  rw [Bool.or_eq_false_iff, decide_eq_false_iff_not, List.any_eq_false] at h
  refine ⟨by omega, fun x hx => ?_⟩
  have := h.1 x (by rw [List.take_of_length_le (by omega)]; exact hx)
  simpa using this
theorem longE_yes {xs : List EvT} {most k : Nat} {x : EvT} (hx : xs[k]? = some x) (hk : k ≤ most) (hb : bigE x) : longE xs most = true := by
  unfold longE
  rw [Bool.or_eq_true, List.any_eq_true]
  refine .inl ⟨x, ?_, decide_eq_true hb⟩
  have hl := (List.getElem?_eq_some_iff.1 hx).1
  exact List.mem_of_getElem? (i := k) (by rw [List.getElem?_take, if_pos (by omega)]; exact hx)
set_option maxRecDepth 100000 in
set_option maxHeartbeats 8000000 in
theorem longevs_any (w : World) (A : Option Addr) (c : Nat) (xs : List EvT) (most : Nat) (h : RdK evTy w A xs.length xs) (hn : xs.length ≤ 140737488351232) (hm : most ≤ 1000) (hs : ∀ x ∈ xs, x.l ≤ 140737488351232) :
    Calls Tryz.prog 8 #[.slice A xs.length c, .int .i64 (most : Int)] w fun r w' => r = .returned (.bool (longE xs most)) ∧ Chg [] w w' := by
  have H := Lib.hid h
  have HN := Lib.hid hn
  have HM := Lib.hid hm
  have HS := Lib.hid hs
  clear h hn hm hs
  generalize hv : longE xs most = v
  have HV := Lib.hid hv
  clear hv
  go_enter Tryz.func8, Tryz.ntmps8
  go_wp2
  go_loopw [5] (fun v5 wr => ∃ k : Nat, k ≤ xs.length ∧ k ≤ most + 1 ∧ v5 = .int .i64 k ∧ Hid (∀ x ∈ xs.take k, ¬ bigE x) ∧ Hid (Chg [] w wr)) (fun v5 _ => xs.length - (RowKit.intOf v5).toNat)
  case atStart => exact ⟨0, Nat.zero_le _, Nat.zero_le _, rfl, Lib.hid (by simp), Chg.refl _ _⟩
  case round =>
    obtain ⟨k, hk, hk2, rfl, NB, RC⟩ := hrel
    have i0 : (0 : Int) ≤ (k : Int) := by omega
    by_cases hlt : k < xs.length
    · have i1 : (k : Int) < (xs.length : Int) := by omega
      by_cases hle : k ≤ most
      · have i2 : (k : Int) ≤ (most : Int) := by omega
        have i3 : IntKind.i64.wrap ((k : Int) + 1) = (k : Int) + 1 := IntWalk.i64_in _ (by have := HN.out; omega)
        obtain ⟨x, hx⟩ : ∃ x, xs[k]? = some x := ⟨_, List.getElem?_eq_getElem hlt⟩
        obtain ⟨g, o, eA, _⟩ := H.out.line (by omega)
        subst eA
        obtain ⟨z0, z1, z2, z3, z4, z5, z6⟩ := evCells (H.out.chg RC.out (by simp)) hx
        have LY : Hid (bigE x → v = true) := Lib.hid (fun q => by rw [← HV.out]; exact longE_yes hx hle q)
        have NX : Hid (¬ bigE x → ∀ y ∈ xs.take (k + 1), ¬ bigE y) := Lib.hid (fun q y hy => by
          rw [List.take_add_one, hx] at hy
          rcases List.mem_append.1 hy with r | r
          · exact NB.out y r
          · simp at r; subst r; exact q)
        have XS := Lib.hid (HS.out x (List.mem_of_getElem? hx))
        clear hx
        by_cases b1 : 100 < x.p.size
        · have j1 : (100 : Int) < (x.p.size : Int) := by omega
          obtain rfl := LY.out (.inl b1)
          clear LY NX b1
          go_wp2
          go_ret
          exact ⟨rfl, RC.out⟩
        have j1 : ¬ (100 : Int) < (x.p.size : Int) := by omega
        go_wp2_with fail
        refine (longeff_any wr x.k x.m x.A x.l x.c XS.out).mono ?_
        rintro r w2 ⟨rfl, hc⟩
        have C2 := Lib.hid (RC.out.trans hc)
        have y6 := hc.cell z6 (by simp)
        clear hc z0 z1 z2 z3 z4 z5 z6 j1
        by_cases b2 : 1200 < x.l
        · rw [decide_eq_true (show (1200 : Int) < (x.l : Int) by omega)]
          obtain rfl := LY.out (.inr (.inl b2))
          clear LY NX b1 b2 y6
          go_wp2
          go_ret
          exact ⟨rfl, C2.out⟩
        rw [decide_eq_false (show ¬ (1200 : Int) < (x.l : Int) by omega)]
        by_cases b3 : 100 < x.bl
        · have j3 : (100 : Int) < (x.bl : Int) := by omega
          obtain rfl := LY.out (.inr (.inr b3))
          clear LY NX b1 b2 b3
          go_wp2
          go_ret
          exact ⟨rfl, C2.out⟩
        have j3 : ¬ (100 : Int) < (x.bl : Int) := by omega
        have NN := Lib.hid (NX.out (fun q => by unfold bigE at q; omega))
        clear LY NX b1 b2 b3
        go_wp2
        go_round
        case rel => exact ⟨k + 1, by omega, by omega, by go_num, NN, C2.out⟩
        case measure => simp [RowKit.intOf]; omega
      · have i2 : ¬ (k : Int) ≤ (most : Int) := by omega
        have i4 : (most : Int) < (xs.length : Int) := by omega
        obtain rfl : v = true := by rw [← HV.out]; unfold longE; rw [decide_eq_true (show most < xs.length by omega)]; simp
        clear HV
        go_wp2
        go_ret
        exact ⟨rfl, RC.out⟩
    · obtain rfl : k = xs.length := by omega
      have i1 : ¬ (xs.length : Int) < (xs.length : Int) := by omega
      by_cases hle : most < xs.length
      · have i4 : (most : Int) < (xs.length : Int) := by omega
        obtain rfl : v = true := by rw [← HV.out]; unfold longE; rw [decide_eq_true hle]; simp
        clear HV
        go_wp2
        go_ret
        exact ⟨rfl, RC.out⟩
      · have i4 : ¬ (most : Int) < (xs.length : Int) := by omega
        obtain rfl : v = false := by
          rw [← HV.out]
          unfold longE
          rw [decide_eq_false hle, Bool.or_false, List.any_eq_false]
          intro x hx
          have q := NB.out x (by rw [List.take_length]; exact List.mem_of_mem_take hx)
          simpa using q
        clear HV
        go_wp2
        go_ret
        exact ⟨rfl, RC.out⟩
end
section
open Go.RowKit Go.WideShapes Go.ChangeShapes Go.Deep
section
variable {H : Type} {enc : TypeId × Value → H} {P : Program} {w : World} {base : Nat} {spare : Nat → Bool} {held : Bool}

theorem weights_all_mem {e : TypeId} : ∀ {l : List (DataW H)} {d : DataW H}, d ∈ l → ∀ n ∈ d.weights P e, n ∈ DataW.weightsAll P e l
  | x :: l, d, hd, n, hn => by
    simp only [DataW.weightsAll, List.mem_append]
    rcases List.mem_cons.1 hd with rfl | h
    · exact .inl hn
    · exact .inr (weights_all_mem h n hn)
theorem weights_slice {t e : TypeId} (ht : P.underlying t = some (.slice e)) {xs ys : List (DataW H)} (hz : ∀ k ∈ (DataW.slice xs ys).weights P t, k ≤ reachBytes) :
    (xs.length + ys.length) * P.bytesOf e ≤ reachBytes ∧ ∀ d ∈ xs, ∀ k ∈ d.weights P e, k ≤ reachBytes := by
  simp only [DataW.weights, ht, List.mem_cons, List.mem_append] at hz
  exact ⟨hz _ (.inl rfl), fun d hd k hk => hz k (.inr (.inl (weights_all_mem hd k hk)))⟩
theorem weights_struct {t : TypeId} {fs : Array Field} (ht : P.underlying t = some (.struct fs)) {xs : List (DataW H)} (hz : ∀ k ∈ (DataW.agg xs).weights P t, k ≤ reachBytes) {j : Nat} {f : Field} {d : DataW H} (hf : fs[j]? = some f) (hd : xs[j]? = some d) :
    ∀ k ∈ d.weights P f.type, k ≤ reachBytes := by
  simp only [DataW.weights, ht] at hz
  exact fun k hk => hz k (DataW.weights_mem_each (j := j) (by simp [hf]) hd k hk)

/-- A list of what is there for every number. -/
theorem list_of {α : Type} {Q : Nat → α → Prop} : ∀ (n : Nat), (∀ i, i < n → ∃ a, Q i a) → ∃ l : List α, l.length = n ∧ ∀ j a, l[j]? = some a → Q j a
  | 0, _ => ⟨[], rfl, by simp⟩
  | n + 1, h => by
    obtain ⟨l, h1, h2⟩ := list_of n (fun i hi => h i (by omega))
    obtain ⟨a, ha⟩ := h n (by omega)
    refine ⟨l ++ [a], by simp [h1], fun j b hj => ?_⟩
    rw [List.getElem?_append] at hj
    split at hj
    · exact h2 j b hj
    · rename_i hn
      have : j = n := by
        have := (List.getElem?_eq_some_iff.1 hj).1
        simp at this
        omega
      subst this
      rw [h1] at hj
      simp at hj
      subst hj
      exact ha
end
section
variable {H : Type} {enc : TypeId × Value → H} {w : World} {base : Nat} {spare : Nat → Bool} {held : Bool}

theorem open_bytes {n : Nat} {cs : List Value} {y : DataW H × List MemPlace} (h : DataW.trod enc Tryz.prog w base spare held n 24 cs = some y) (hz : ∀ k ∈ y.1.weights Tryz.prog 24, k ≤ reachBytes) :
    ∃ A m d ys, cs = [.slice A m d] ∧ Bs w A m ys ∧ m ≤ 140737488351232 ∧ m ≤ d ∧ d ≤ 9223372036854775807 := by
  rcases open_ints Tryz.underlying24 Tryz.underlying5 (by kernel_rfl) h with ⟨rfl, _⟩ | ⟨x, l, c, zs, rfl, _, hl, hm, hzl, rfl, hcell, hwz⟩
  · exact ⟨none, 0, 0, [], rfl, Bs.nil _ _, by decide, by decide, by decide⟩
  · have hlen : l ≤ zs.length := by rw [hzl]; split <;> omega
    have hw := (weights_slice Tryz.underlying24 hz).1
    rw [show Tryz.prog.bytesOf 5 = 1 by kernel_rfl] at hw
    refine ⟨some x, l, c, (zs.take l).map (fun z => UInt8.ofNat z.toNat), rfl, ⟨by simp; omega, fun j u hj => ⟨x, rfl, ?_⟩⟩, ?_, hl, by unfold maxLen at hm; omega⟩
    · have hjl := (List.getElem?_eq_some_iff.1 hj).1
      rw [List.length_map, List.length_take] at hjl
      have h1 : j < l := by omega
      have h2 : j < zs.length := by omega
      rw [hcell j h2]
      have hwz' := bounds_u8 (hwz (zs.getD j 0) (by simp [List.getD, h2]))
      simp only [List.getElem?_map, List.getElem?_take, if_pos h1, Option.map_eq_some_iff] at hj
      obtain ⟨z, h3, rfl⟩ := hj
      have e : zs.getD j 0 = z := by simp [List.getD, h3]
      rw [e] at hwz' ⊢
      unfold bv
      congr 2
      simp
      omega
    · simp [lits, reachBytes] at hw
      omega

theorem open_str {n : Nat} {v : Value} {y : DataW H × List MemPlace} (h : DataW.trod enc Tryz.prog w base spare held n 9 [v] = some y) (hz : ∀ k ∈ y.1.weights Tryz.prog 9, k ≤ reachBytes) : ∃ s : ByteArray, v = .string s ∧ s.size ≤ 140737488351232 := by
  obtain ⟨s, e, e', _⟩ := DataW.trod_string Tryz.underlying9 h
  refine ⟨s, List.singleton_inj.1 e, ?_⟩
  have := hz s.data.toList.length (by rw [e']; simp [DataW.weights])
  rw [Array.length_toList] at this
  exact this
set_option maxRecDepth 100000 in
/-- An effect's three cells. -/
theorem open_effect {n : Nat} {cs : List Value} {y : DataW H × List MemPlace} (h : DataW.trod enc Tryz.prog w base spare held n 26 cs = some y) (hz : ∀ k ∈ y.1.weights Tryz.prog 26, k ≤ reachBytes) :
    ∃ (k m : Int) (A : Option Addr) (n d : Nat) (ys : List UInt8), cs = [.int .i64 k, .int .i64 m, .slice A n d] ∧ Bs w A n ys ∧ n ≤ 140737488351232 ∧ n ≤ d ∧ d ≤ 9223372036854775807 := by
  obtain ⟨xs, k, rfl, rfl, hl, hx, hf⟩ := DataW.trod_struct Tryz.underlying26 h
  rw [show Tryz.prog.cellsOf 26 = 3 by kernel_rfl] at hl
  have g0 := hf 0 _ rfl
  have g1 := hf 1 _ rfl
  have g2 := hf 2 _ rfl
  change DataW.trod _ _ _ _ _ _ _ 3 ((cs.drop 0).take (Tryz.prog.cellsOf 3)) = _ at g0
  change DataW.trod _ _ _ _ _ _ _ 3 ((cs.drop 1).take (Tryz.prog.cellsOf 3)) = _ at g1
  change DataW.trod _ _ _ _ _ _ _ 24 ((cs.drop 2).take (Tryz.prog.cellsOf 24)) = _ at g2
  rw [show Tryz.prog.cellsOf 3 = 1 by kernel_rfl] at g0 g1
  rw [show Tryz.prog.cellsOf 24 = 1 by kernel_rfl] at g2
  match cs, hl with
  | [v0, v1, v2], _ =>
    match xs, hx with
    | [x0, x1, x2], _ =>
      have w2 := weights_struct Tryz.underlying26 hz (j := 2) (d := x2.1) rfl rfl
      obtain ⟨z0, e0, _, _⟩ := DataW.trod_int Tryz.underlying3 g0
      obtain ⟨z1, e1, _, _⟩ := DataW.trod_int Tryz.underlying3 g1
      obtain ⟨A, m, d, ys, e2, hb, hm, hmd, hd⟩ := open_bytes g2 w2
      simp only [List.drop_succ_cons, List.drop_zero, List.take_succ_cons, List.take_zero, List.cons.injEq, and_true] at e0 e1 e2
      subst e0 e1 e2
      exact ⟨z0, z1, A, m, d, ys, rfl, hb, hm, hmd, hd⟩
set_option maxRecDepth 100000 in
/-- A dot's two cells. -/
theorem open_dot {n : Nat} {cs : List Value} {y : DataW H × List MemPlace} (h : DataW.trod enc Tryz.prog w base spare held n 23 cs = some y) :
    ∃ (a b : Int), cs = [.int .i64 a, .int .i64 b] ∧ -9223372036854775808 ≤ a ∧ a ≤ 9223372036854775807 ∧ -9223372036854775808 ≤ b ∧ b ≤ 9223372036854775807 := by
  obtain ⟨xs, k, rfl, rfl, hl, hx, hf⟩ := DataW.trod_struct Tryz.underlying23 h
  rw [show Tryz.prog.cellsOf 23 = 2 by kernel_rfl] at hl
  have g0 := hf 0 _ rfl
  have g1 := hf 1 _ rfl
  change DataW.trod _ _ _ _ _ _ _ 3 ((cs.drop 0).take (Tryz.prog.cellsOf 3)) = _ at g0
  change DataW.trod _ _ _ _ _ _ _ 3 ((cs.drop 1).take (Tryz.prog.cellsOf 3)) = _ at g1
  rw [show Tryz.prog.cellsOf 3 = 1 by kernel_rfl] at g0 g1
  match cs, hl with
  | [v0, v1], _ =>
    match xs, hx with
    | [x0, x1], _ =>
      obtain ⟨z0, e0, _, b0⟩ := DataW.trod_int Tryz.underlying3 g0
      obtain ⟨z1, e1, _, b1⟩ := DataW.trod_int Tryz.underlying3 g1
      have c0 := bounds_i64 b0
      have c1 := bounds_i64 b1
      simp only [List.drop_succ_cons, List.drop_zero, List.take_succ_cons, List.take_zero, List.cons.injEq, and_true] at e0 e1
      subst e0 e1
      exact ⟨z0, z1, rfl, c0.1, c0.2, c1.1, c1.2⟩
end
end
section
open Go.RowKit Go.WideShapes Go.ChangeShapes Go.Deep
set_option linter.unusedSimpArgs false
section
variable {H : Type} {enc : TypeId × Value → H} {w : World} {base : Nat} {spare : Nat → Bool} {held : Bool}
set_option maxRecDepth 100000 in
/-- A span's three cells. -/
theorem open_span {n : Nat} {cs : List Value} {y : DataW H × List MemPlace} (h : DataW.trod enc Tryz.prog w base spare held n 62 cs = some y) :
    ∃ (a b c : Int), cs = [.int .i64 a, .int .i64 b, .int .i64 c] := by
  obtain ⟨xs, k, rfl, rfl, hl, hx, hf⟩ := DataW.trod_struct Tryz.underlying62 h
  rw [show Tryz.prog.cellsOf 62 = 3 by kernel_rfl] at hl
  have g0 := hf 0 _ rfl
  have g1 := hf 1 _ rfl
  have g2 := hf 2 _ rfl
  change DataW.trod _ _ _ _ _ _ _ 3 ((cs.drop 0).take (Tryz.prog.cellsOf 3)) = _ at g0
  change DataW.trod _ _ _ _ _ _ _ 3 ((cs.drop 1).take (Tryz.prog.cellsOf 3)) = _ at g1
  change DataW.trod _ _ _ _ _ _ _ 3 ((cs.drop 2).take (Tryz.prog.cellsOf 3)) = _ at g2
  rw [show Tryz.prog.cellsOf 3 = 1 by kernel_rfl] at g0 g1 g2
  match cs, hl with
  | [v0, v1, v2], _ =>
    match xs, hx with
    | [x0, x1, x2], _ =>
      obtain ⟨z0, e0, _, _⟩ := DataW.trod_int Tryz.underlying3 g0
      obtain ⟨z1, e1, _, _⟩ := DataW.trod_int Tryz.underlying3 g1
      obtain ⟨z2, e2, _, _⟩ := DataW.trod_int Tryz.underlying3 g2
      simp only [List.drop_succ_cons, List.drop_zero, List.take_succ_cons, List.take_zero, List.cons.injEq, and_true] at e0 e1 e2
      subst e0 e1 e2
      exact ⟨z0, z1, z2, rfl⟩
theorem open_spans {n : Nat} {cs : List Value} {y : DataW H × List MemPlace} (h : DataW.trod enc Tryz.prog w base spare held n 27 cs = some y) (hz : ∀ k ∈ y.1.weights Tryz.prog 27, k ≤ reachBytes) :
    ∃ A m d zs, cs = [.slice A m d] ∧ RdK spanTy w A m zs ∧ m * 24 ≤ 140737488351232 ∧ m ≤ d := by
  rcases open_slice Tryz.underlying27 h with ⟨rfl, _⟩ | ⟨a, len, cap, m, k, D, Pl, rfl, _, hl, hm, hmm, rfl, hi⟩
  · exact ⟨none, 0, 0, [], rfl, RdK.nil _ _, by decide, by decide⟩
  · have hlm : len ≤ m := by rw [hmm]; split <;> omega
    obtain ⟨hw, _⟩ := weights_slice Tryz.underlying27 hz
    rw [show Tryz.prog.bytesOf 62 = 24 by kernel_rfl] at hw
    simp [reachBytes] at hw
    have hC : Tryz.prog.cellsOf 62 = 3 := by kernel_rfl
    obtain ⟨l, hll, hat⟩ := list_of (Q := fun i (x : Int × Int × Int) => w.cell? (a.add (i * 3)) = some (.int .i64 x.1) ∧ w.cell? (a.add (i * 3 + 1)) = some (.int .i64 x.2.1) ∧ w.cell? (a.add (i * 3 + 2)) = some (.int .i64 x.2.2)) len (fun i hilt => by
      obtain ⟨cs', hc, ht⟩ := hi i (by omega)
      rw [hC] at hc
      obtain ⟨_, hcl, hat⟩ := World.cells?_some hc
      obtain ⟨p, q, r, rfl⟩ := open_span ht
      have g0 := hat 0 (by omega)
      have g1 := hat 1 (by omega)
      have g2 := hat 2 (by omega)
      rw [add_add] at g0 g1 g2
      exact ⟨(p, q, r), g0, g1, g2⟩)
    refine ⟨some a, len, cap, l, rfl, ⟨hll, fun j v hj => ⟨a, rfl, ?_⟩⟩, by omega, hl⟩
    have hj2 := (List.getElem?_eq_some_iff.1 hj).1
    rw [spanTy.flat_len] at hj2
    have hk : spanTy.k = 3 := rfl
    rw [hk] at hj2
    have hq : j / 3 < l.length := by omega
    have e := spanTy.flat_at l (j / 3) (j % 3) _ (List.getElem?_eq_getElem hq) (Nat.mod_lt _ (by decide))
    rw [hk, Nat.div_add_mod', hj] at e
    obtain ⟨g0, g1, g2⟩ := hat (j / 3) _ (List.getElem?_eq_getElem hq)
    rcases (show j % 3 = 0 ∨ j % 3 = 1 ∨ j % 3 = 2 by omega) with h0 | h0 | h0
    · rw [h0] at e
      rw [show j / 3 * 3 = j by omega] at g0
      rw [g0]
      exact e.symm
    · rw [h0] at e
      rw [show j / 3 * 3 + 1 = j by omega] at g1
      rw [g1]
      exact e.symm
    · rw [h0] at e
      rw [show j / 3 * 3 + 2 = j by omega] at g2
      rw [g2]
      exact e.symm
end
end
section
open Go.RowKit Go.WideShapes Go.ChangeShapes Go.Deep
set_option linter.unusedVariables false
variable {H : Type} {enc : TypeId × Value → H} {P : Program} {w : World} {base : Nat} {spare : Nat → Bool} {held : Bool}
set_option maxRecDepth 100000 in
/-- How large an event is that is handed in. -/
def EvZ (x : EvT) (e : EvP) : Prop := e.b.length ≤ 140737488351232 ∧ e.q.length * 24 ≤ 140737488351232 ∧ e.p.length ≤ 140737488351232 ∧ (x.l ≤ x.c ∧ x.c ≤ 9223372036854775807 ∧ x.bl ≤ x.bc) ∧ (-9223372036854775808 ≤ e.n ∧ e.n ≤ 9223372036854775807 ∧ -9223372036854775808 ≤ e.s ∧ e.s ≤ 9223372036854775807)
set_option maxRecDepth 100000 in
theorem open_event {n : Nat} {cs : List Value} {y : DataW H × List MemPlace} (h : DataW.trod enc Tryz.prog w base spare held n 29 cs = some y) (hz : ∀ k ∈ y.1.weights Tryz.prog 29, k ≤ reachBytes) :
    ∃ (x : EvT) (e : EvP), cs = [.int .i64 x.n, .int .i64 x.s, .string x.p, .int .i64 x.k, .int .i64 x.m, .slice x.A x.l x.c, .slice x.B x.bl x.bc] ∧ EvR w x e ∧ EvZ x e := by
  obtain ⟨xs, k, rfl, rfl, hl, hx, hf⟩ := DataW.trod_struct Tryz.underlying29 h
  rw [show Tryz.prog.cellsOf 29 = 7 by kernel_rfl] at hl
  have g0 := hf 0 _ rfl
  have g1 := hf 1 _ rfl
  have g2 := hf 2 _ rfl
  have g3 := hf 3 _ rfl
  change DataW.trod _ _ _ _ _ _ _ 23 ((cs.drop 0).take (Tryz.prog.cellsOf 23)) = _ at g0
  change DataW.trod _ _ _ _ _ _ _ 9 ((cs.drop 2).take (Tryz.prog.cellsOf 9)) = _ at g1
  change DataW.trod _ _ _ _ _ _ _ 26 ((cs.drop 3).take (Tryz.prog.cellsOf 26)) = _ at g2
  change DataW.trod _ _ _ _ _ _ _ 27 ((cs.drop 6).take (Tryz.prog.cellsOf 27)) = _ at g3
  rw [show Tryz.prog.cellsOf 23 = 2 by kernel_rfl] at g0
  rw [show Tryz.prog.cellsOf 9 = 1 by kernel_rfl] at g1
  rw [show Tryz.prog.cellsOf 26 = 3 by kernel_rfl] at g2
  rw [show Tryz.prog.cellsOf 27 = 1 by kernel_rfl] at g3
  match cs, hl with
  | [v0, v1, v2, v3, v4, v5, v6], _ =>
    match xs, hx with
    | [x0, x1, x2, x3], _ =>
      have w2 := weights_struct Tryz.underlying29 hz (j := 2) (d := x2.1) rfl rfl
      have w3 := weights_struct Tryz.underlying29 hz (j := 3) (d := x3.1) rfl rfl
      have w1 := weights_struct Tryz.underlying29 hz (j := 1) (d := x1.1) rfl rfl
      obtain ⟨a, b, e0, r0⟩ := open_dot g0
      simp only [List.drop_succ_cons, List.drop_zero, List.take_succ_cons, List.take_zero] at g1
      obtain ⟨s, e1, r1⟩ := open_str g1 w1
      obtain ⟨k, m, A, n, c, ys, e2, r2⟩ := open_effect g2 w2
      obtain ⟨B, q, d, zs, e3, r3⟩ := open_spans g3 w3
      simp only [List.drop_succ_cons, List.drop_zero, List.take_succ_cons, List.take_zero, List.cons.injEq, and_true] at e0 e2 e3
      obtain ⟨rfl, rfl⟩ := e0
      obtain ⟨rfl, rfl, rfl⟩ := e2
      subst e1 e3
      refine ⟨⟨a, b, s, k, m, A, n, c, B, q, d⟩, ⟨a, b, s.data.toList, k, m, ys, zs⟩, rfl, ⟨rfl, rfl, (strOf_of s).symm, rfl, rfl, r2.1.len.symm, r3.1.len.symm, r2.1, r3.1⟩, ?_⟩
      have hs : s.data.toList.length = s.size := rfl
      have l2 := r2.1.len
      have l3 := r3.1.len
      refine ⟨?_, ?_, ?_, ⟨?_, ?_, ?_⟩, r0⟩
      all_goals (simp only; omega)
end
section
def TabN (_ : World) : Prop := True
theorem TabN.laid {W : World} (_h : laidMetH Tryz.prog tables W) : TabN W := trivial
end
section
open Go.RowKit
theorem eventKnown_run (W : World) : Calls Tryz.prog 37 #[] W fun e w' => e = .returned (.bool true) ∧ Chg [] W w' :=
  Ev.closed_call (X := [(192, .compare)]) (g := 3) (n := 100000) (by kernel_rfl) (Ev.one_ext Tryz.func192 (by kernel_rfl) (by kernel_rfl) (by kernel_rfl) (by kernel_rfl) (Ev.no_ext _)) (by kernel_rfl) (by kernel_rfl) W
end
section
open Go.RowKit Go.Lib
set_option linter.unusedSimpArgs false
set_option linter.unusedVariables false


theorem evB_len {e : EvP} (h : chkEv e = 0) : (evB e).length ≤ 100000 := by
  obtain ⟨⟨a1, a2, a3, a4⟩, a5, a6, a7⟩ := ok_parts h
  have l1 := enc9 e.n.toNat (by omega)
  have l2 := enc9 e.s.toNat (by omega)
  have l3 := enc9 e.p.length (by omega)
  have x1 := effB_len a6
  have x2 := spansB_len a7
  have l4 := enc9 (effB e.k e.m e.b).length (by omega)
  have l5 := enc9 (spansB e.q).length (by omega)
  unfold evB
  simp only [List.length_append]
  omega
theorem rd_oneEb {w : World} {g : Nat} {x : EvT} (h : w.heap[g]? = some (.cells #[.int .i64 x.n, .int .i64 x.s, .string x.p, .int .i64 x.k, .int .i64 x.m, .slice x.A x.l x.c, .slice x.B x.bl x.bc] 29)) : RdK evTy w (some ⟨g, 0, none⟩) 1 [x] :=
  ⟨rfl, fun j v hj => ⟨_, rfl, by rw [add_zero_lit, cell_of h j]; simpa [RowTy.flat, evTy] using hj⟩⟩
set_option maxRecDepth 100000 in
set_option maxHeartbeats 16000000 in
theorem eventback_yes (w : World) (x : EvT) (e : EvP) (hx : EvR w x e) (hz : EvZ x e) (B : Option Addr) (m d : Nat) (ys : List UInt8) (hb : Bs w B m ys) (hn : m ≤ 140737488351232) :
    Calls Tryz.prog 6 #[.agg #[.int .i64 x.n, .int .i64 x.s, .string x.p, .int .i64 x.k, .int .i64 x.m, .slice x.A x.l x.c, .slice x.B x.bl x.bc], .slice B m d] w fun r w' => r = .returned (.bool true) ∧ Chg [] w w' := by

  have hl := hb.len
  subst hl
  obtain ⟨w1, hw, hc, b0⟩ := news1 w (.cells #[.int .i64 x.n, .int .i64 x.s, .string x.p, .int .i64 x.k, .int .i64 x.m, .slice x.A x.l x.c, .slice x.B x.bl x.bc] 29)
  have W1 := Lib.hid hw
  have B0 := Lib.hid b0
  have HX := Lib.hid (hx.chg hc)
  have HB := Lib.hid (hb.chg hc (by simp))
  have C := Lib.hid hc
  have ZX := Lib.hid hz
  have HN := Lib.hid hn
  clear hw hc b0 hx hb hz hn
  go_enter Tryz.func6, Tryz.ntmps6
  go_upto_region 1 with fail
  rw [← W1.out]
  generalize w.heap.size = g0 at *
  clear W1
  go_wp2_with fail
  refine (eventKnown_run _).mono ?_
  rintro e w2 ⟨rfl, hc⟩
  replace C := Lib.hid (C.out.trans hc)
  replace B0 := Lib.hid (hc.at_ B0.out (by simp))
  replace HX := Lib.hid (HX.out.chg hc)
  replace HB := Lib.hid (HB.out.chg hc (by simp))
  clear hc
  obtain ⟨w3, hw, hc, b2⟩ := news1 w2 (.cells #[.int .i64 x.n, .int .i64 x.s, .string x.p, .int .i64 x.k, .int .i64 x.m, .slice x.A x.l x.c, .slice x.B x.bl x.bc] 29)
  have W3 := Lib.hid hw
  have R2 := Lib.hid (rd_oneEb b2)
  clear hw b2
  have z0 := cell_of B0.out 0
  have z1 := cell_of B0.out 1
  have z2 := cell_of B0.out 2
  have z3 := cell_of B0.out 3
  have z4 := cell_of B0.out 4
  have z5 := cell_of B0.out 5
  have z6 := cell_of B0.out 6
  simp only [List.getElem?_toArray, List.getElem?_cons_succ, List.getElem?_cons_zero] at z0 z1 z2 z3 z4 z5 z6
  replace C := Lib.hid (C.out.trans hc)
  replace B0 := Lib.hid (hc.at_ B0.out (by simp))
  replace HX := Lib.hid (HX.out.chg hc)
  replace HB := Lib.hid (HB.out.chg hc (by simp))
  clear hc
  by_cases hbig : 4000 < ys.length
  · have h2 : (4000 : Int) < (ys.length : Int) := by omega
    go_wp2_with fail
    rw [← W3.out]
    generalize w2.heap.size = g2 at *
    have lv := longevs_any w3 (some ⟨g2, 0, none⟩) 1 [x] 1 R2.out (by simp) (by omega) (by intro u hu; simp at hu; subst hu; exact (by have := HX.out.l; have := ZX.out.1; omega))
    rw [show ([x] : List EvT).length = 1 from rfl, show ((1 : Nat) : Int) = 1 from rfl] at lv
    have LV := Lib.hid lv
    clear lv z0 z1 z2 z3 z4 z5 z6
    refine LV.out.mono ?_
    rintro r w4 ⟨rfl, hc⟩
    replace C := Lib.hid (C.out.trans hc)
    clear hc LV
    rcases longE [x] 1 with _ | _
    · go_wp2
      go_ret
      exact ⟨rfl, C.out⟩
    · go_wp2
      go_ret
      exact ⟨rfl, C.out⟩
  have h2 : ¬ (4000 : Int) < (ys.length : Int) := by omega
  have HM : Hid (ys.length ≤ 4000) := Lib.hid (by omega)
  go_wp2_with fail
  rw [← W3.out]
  generalize w2.heap.size = g2 at *
  have lv := longevs_any w3 (some ⟨g2, 0, none⟩) 1 [x] 1 R2.out (by simp) (by omega) (by intro u hu; simp at hu; subst hu; exact (by have := HX.out.l; have := ZX.out.1; omega))
  rw [show ([x] : List EvT).length = 1 from rfl, show ((1 : Nat) : Int) = 1 from rfl] at lv
  have LV := Lib.hid lv
  clear lv z0 z1 z2 z3 z4 z5 z6
  refine LV.out.mono ?_
  rintro r w4 ⟨rfl, hc⟩
  replace C := Lib.hid (C.out.trans hc)
  replace B0 := Lib.hid (hc.at_ B0.out (by simp))
  replace HX := Lib.hid (HX.out.chg hc)
  replace HB := Lib.hid (HB.out.chg hc (by simp))
  clear hc LV R2 W3
  rcases hlong : longE [x] 1 with _ | _
  rotate_left
  · go_wp2
    go_ret
    exact ⟨rfl, C.out⟩
  have sm := (longE_no hlong).2
  have SX : Hid (EvSm e) := Lib.hid (by
    have q := sm x (by simp)
    have a1 := HX.out.l
    have a2 := HX.out.bl
    have a3 := HX.out.p
    have a4 : x.p.size = e.p.length := by rw [a3, strOf_size]
    unfold bigE at q
    unfold EvSm
    omega)
  clear sm hlong hbig
  have z0 := cell_of B0.out 0
  have z1 := cell_of B0.out 1
  have z2 := cell_of B0.out 2
  have z3 := cell_of B0.out 3
  have z4 := cell_of B0.out 4
  have z5 := cell_of B0.out 5
  have z6 := cell_of B0.out 6
  simp only [List.getElem?_toArray, List.getElem?_cons_succ, List.getElem?_cons_zero] at z0 z1 z2 z3 z4 z5 z6
  go_wp2_with fail
  clear z0 z1 z2 z3 z4 z5 z6
  refine (evbytes_any w4 x e HX.out SX.out).mono ?_
  rintro r w5 ⟨A5, c5, rfl, h5⟩
  have O5 := Lib.hid h5.1
  have hc := h5.2.2
  clear h5
  replace C := Lib.hid (C.out.trans hc)
  replace B0 := Lib.hid (hc.at_ B0.out (by simp))
  replace HX := Lib.hid (HX.out.chg hc)
  replace HB := Lib.hid (HB.out.chg hc (by simp))
  clear hc
  rw [bytesEv_two]
  rcases chkEv_two e with hk | hk
  rotate_left
  · skip
    rw [hk]
    have HK := Lib.hid hk
    clear hk
    obtain ⟨bn, hbn⟩ : ∃ n, (bytesEv e).1.length = n := ⟨_, rfl⟩
    have BN := Lib.hid hbn
    rw [hbn]
    clear hbn
    have bq : ((bn : Int) == (bn : Int)) = true := by simp
    have bq2 : ((bn : Int) != (bn : Int)) = false := by simp
    have z0 := cell_of B0.out 0
    have z1 := cell_of B0.out 1
    have z2 := cell_of B0.out 2
    have z3 := cell_of B0.out 3
    have z4 := cell_of B0.out 4
    have z5 := cell_of B0.out 5
    have z6 := cell_of B0.out 6
    simp only [List.getElem?_toArray, List.getElem?_cons_succ, List.getElem?_cons_zero] at z0 z1 z2 z3 z4 z5 z6
    go_wp2_with fail
    clear z0 z1 z2 z3 z4 z5 z6
    refine (evcheck_any w5 x e HX.out SX.out).mono ?_
    rintro r w6 ⟨rfl, hc⟩
    rw [HK.out]
    replace C := Lib.hid (C.out.trans hc)
    replace B0 := Lib.hid (hc.at_ B0.out (by simp))
    replace HX := Lib.hid (HX.out.chg hc)
    replace HB := Lib.hid (HB.out.chg hc (by simp))
    replace O5 := Lib.hid (O5.out.chg hc (by simp))
    clear hc
    have z0 := cell_of B0.out 0
    have z1 := cell_of B0.out 1
    have z2 := cell_of B0.out 2
    have z3 := cell_of B0.out 3
    have z4 := cell_of B0.out 4
    have z5 := cell_of B0.out 5
    have z6 := cell_of B0.out 6
    simp only [List.getElem?_toArray, List.getElem?_cons_succ, List.getElem?_cons_zero] at z0 z1 z2 z3 z4 z5 z6
    go_wp2_with fail
    clear z0 z1 z2 z3 z4 z5 z6
    refine (evsize_any w6 x e HX.out SX.out).mono ?_
    rintro r w7 ⟨rfl, hc⟩
    rw [BN.out]
    replace C := Lib.hid (C.out.trans hc)
    replace B0 := Lib.hid (hc.at_ B0.out (by simp))
    replace HX := Lib.hid (HX.out.chg hc)
    replace HB := Lib.hid (HB.out.chg hc (by simp))
    replace O5 := Lib.hid (O5.out.chg hc (by simp))
    clear hc
    clear O5
    go_upto_region 11 with fail
    clear bq bq2
    obtain ⟨re, hre⟩ : ∃ q, readEv ys = q := ⟨_, rfl⟩
    have RE := Lib.hid hre
    clear hre
    go_wp2_with fail
    refine (evread_any _ B _ d ys HB.out (by have := HM.out; omega)).mono ?_
    rintro r wr2 ⟨X, rfl, hX, hOA, hOB, hNA, hNB, hne, hc⟩
    rw [RE.out] at hX ⊢
    have RX := Lib.hid hX
    clear hX hOA hOB hNA hNB hne
    replace C := Lib.hid (C.out.trans hc)
    replace B0 := Lib.hid (hc.at_ B0.out (by simp))
    replace HX := Lib.hid (HX.out.chg hc)
    replace HB := Lib.hid (HB.out.chg hc (by simp))
    clear hc
    by_cases hr : re.2.1 = 0
    rotate_left
    · skip
      obtain ⟨wq, hw, hc, b8, b9⟩ := news2 wr2 (.cells #[.int .i64 X.n, .int .i64 X.s, .string X.p, .int .i64 X.k, .int .i64 X.m, .slice X.A X.l X.c, .slice X.B X.bl X.bc] 29) (.cells #[.int .i64 re.2.1, .int .i64 re.2.2] 44)
      have WQ := Lib.hid hw
      have B8 := Lib.hid b8
      have B9 := Lib.hid b9
      clear hw b8 b9
      replace C := Lib.hid (C.out.trans hc)
      replace B0 := Lib.hid (hc.at_ B0.out (by simp))
      replace HX := Lib.hid (HX.out.chg hc)
      replace HB := Lib.hid (HB.out.chg hc (by simp))
      replace RX := Lib.hid (RX.out.chg hc)
      clear hc
      go_upto_region 12 with fail
      rw [← WQ.out]
      generalize wr2.heap.size + 1 = s9 at *
      generalize wr2.heap.size = s8 at *
      clear WQ
      have z0 := cell_of B8.out 0
      have z1 := cell_of B8.out 1
      have z2 := cell_of B8.out 2
      have z3 := cell_of B8.out 3
      have z4 := cell_of B8.out 4
      have z5 := cell_of B8.out 5
      have z6 := cell_of B8.out 6
      have y0 := cell_of B9.out 0
      have y1 := cell_of B9.out 1
      simp only [List.getElem?_toArray, List.getElem?_cons_succ, List.getElem?_cons_zero] at z0 z1 z2 z3 z4 z5 z6 y0 y1
      have q := ev_fault (xs := ys) (by rw [RE.out]; exact hr)
      rw [RE.out] at q
      obtain ⟨q1, q2, q3⟩ := q
      have xp := RX.out.p
      rw [q1] at xp
      have xp2 : X.p = ⟨#[]⟩ := xp
      rw [xp2] at z2
      have k1 : (re.2.1 != 0) = true := bne_iff_ne.2 hr
      have k2 : (re.2.1 == 0) = false := beq_eq_false_iff_ne.2 hr
      clear xp xp2 q1 RX
      generalize re.2.1 = r1 at *
      generalize re.2.2 = r2 at *
      clear hr
      go_wp2
      go_ret
      exact ⟨(by first | rfl | simp), C.out⟩
    · skip
      rw [hr]
      obtain ⟨wq, hw, hc, b8, b9⟩ := news2 wr2 (.cells #[.int .i64 X.n, .int .i64 X.s, .string X.p, .int .i64 X.k, .int .i64 X.m, .slice X.A X.l X.c, .slice X.B X.bl X.bc] 29) (.cells #[.int .i64 0, .int .i64 re.2.2] 44)
      have WQ := Lib.hid hw
      have B8 := Lib.hid b8
      have B9 := Lib.hid b9
      clear hw b8 b9
      replace C := Lib.hid (C.out.trans hc)
      replace B0 := Lib.hid (hc.at_ B0.out (by simp))
      replace HX := Lib.hid (HX.out.chg hc)
      replace HB := Lib.hid (HB.out.chg hc (by simp))
      replace RX := Lib.hid (RX.out.chg hc)
      clear hc
      go_upto_region 12 with fail
      rw [← WQ.out]
      generalize wr2.heap.size + 1 = s9 at *
      generalize wr2.heap.size = s8 at *
      clear WQ
      have q := ev_again (xs := ys) (by rw [RE.out]; exact hr)
      rw [RE.out] at q
      have Q := Lib.hid q
      clear q hr
      have ES : Hid (EvSm re.1) := Lib.hid (by
        obtain ⟨_, a1, a2, a3⟩ := ok_parts Q.out.1
        have b1 := fine_len a2
        have b2 := (chkS_zero a3).1
        unfold EvSm
        omega)
      have z0 := cell_of B8.out 0
      have z1 := cell_of B8.out 1
      have z2 := cell_of B8.out 2
      have z3 := cell_of B8.out 3
      have z4 := cell_of B8.out 4
      have z5 := cell_of B8.out 5
      have z6 := cell_of B8.out 6
      have y0 := cell_of B9.out 0
      have y1 := cell_of B9.out 1
      simp only [List.getElem?_toArray, List.getElem?_cons_succ, List.getElem?_cons_zero] at z0 z1 z2 z3 z4 z5 z6 y0 y1
      go_wp2_with fail
      clear z0 z1 z2 z3 z4 z5 z6 y0 y1
      refine (evbytes_any wq X re.1 RX.out ES.out).mono ?_
      rintro r wb ⟨A5, c5, rfl, h5⟩
      rw [bytesEv_ok Q.out.1] at h5 ⊢
      dsimp only at h5 ⊢
      rw [Q.out.2] at h5 ⊢
      have O5 := Lib.hid h5.1
      have hc := h5.2.2
      clear h5
      replace C := Lib.hid (C.out.trans hc)
      replace B0 := Lib.hid (hc.at_ B0.out (by simp))
      replace HX := Lib.hid (HX.out.chg hc)
      replace HB := Lib.hid (HB.out.chg hc (by simp))
      replace RX := Lib.hid (RX.out.chg hc)
      clear hc
      go_wp2_with fail
      refine (same_yes wb A5 B _ _ c5 d ys ys O5.out.reads HB.out rfl).mono ?_
      rintro r wc ⟨rfl, rfl⟩
      go_wp2
      go_ret
      exact ⟨(by first | rfl | simp), C.out⟩
  · skip
    rw [hk]
    have HK := Lib.hid hk
    clear hk
    obtain ⟨bn, hbn⟩ : ∃ n, (bytesEv e).1.length = n := ⟨_, rfl⟩
    have BN := Lib.hid hbn
    rw [hbn]
    clear hbn
    have bq : ((bn : Int) == (bn : Int)) = true := by simp
    have bq2 : ((bn : Int) != (bn : Int)) = false := by simp
    have z0 := cell_of B0.out 0
    have z1 := cell_of B0.out 1
    have z2 := cell_of B0.out 2
    have z3 := cell_of B0.out 3
    have z4 := cell_of B0.out 4
    have z5 := cell_of B0.out 5
    have z6 := cell_of B0.out 6
    simp only [List.getElem?_toArray, List.getElem?_cons_succ, List.getElem?_cons_zero] at z0 z1 z2 z3 z4 z5 z6
    go_wp2_with fail
    clear z0 z1 z2 z3 z4 z5 z6
    refine (evcheck_any w5 x e HX.out SX.out).mono ?_
    rintro r w6 ⟨rfl, hc⟩
    rw [HK.out]
    replace C := Lib.hid (C.out.trans hc)
    replace B0 := Lib.hid (hc.at_ B0.out (by simp))
    replace HX := Lib.hid (HX.out.chg hc)
    replace HB := Lib.hid (HB.out.chg hc (by simp))
    replace O5 := Lib.hid (O5.out.chg hc (by simp))
    clear hc
    have z0 := cell_of B0.out 0
    have z1 := cell_of B0.out 1
    have z2 := cell_of B0.out 2
    have z3 := cell_of B0.out 3
    have z4 := cell_of B0.out 4
    have z5 := cell_of B0.out 5
    have z6 := cell_of B0.out 6
    simp only [List.getElem?_toArray, List.getElem?_cons_succ, List.getElem?_cons_zero] at z0 z1 z2 z3 z4 z5 z6
    go_wp2_with fail
    clear z0 z1 z2 z3 z4 z5 z6
    refine (evsize_any w6 x e HX.out SX.out).mono ?_
    rintro r w7 ⟨rfl, hc⟩
    rw [BN.out]
    replace C := Lib.hid (C.out.trans hc)
    replace B0 := Lib.hid (hc.at_ B0.out (by simp))
    replace HX := Lib.hid (HX.out.chg hc)
    replace HB := Lib.hid (HB.out.chg hc (by simp))
    replace O5 := Lib.hid (O5.out.chg hc (by simp))
    clear hc
    have eb := bytesEv_ok HK.out
    have EB : Hid ((bytesEv e).1 = evB e) := Lib.hid (by rw [eb])
    have BL : Hid ((evB e).length ≤ 100000) := Lib.hid (evB_len HK.out)
    have EK := Lib.hid (ev_back HK.out)
    rw [EB.out] at O5 BN
    clear eb
    have O6 := Lib.hid O5.out.reads
    rw [BN.out] at O6
    go_upto_region 8 with fail
    clear bq bq2
    go_wp2_with fail
    refine (evread_any _ A5 _ c5 (evB e) O6.out (by have := BN.out; have := BL.out; omega)).mono ?_
    rintro r wr1 ⟨X, rfl, hX, hOA, hOB, hNA, hNB, hne, hc⟩
    rw [EK.out] at hX ⊢
    dsimp only at hX ⊢
    have RX := Lib.hid hX
    clear hX hOA hOB hNA hNB hne
    replace C := Lib.hid (C.out.trans hc)
    replace B0 := Lib.hid (hc.at_ B0.out (by simp))
    replace HX := Lib.hid (HX.out.chg hc)
    replace HB := Lib.hid (HB.out.chg hc (by simp))
    replace O6 := Lib.hid (O6.out.chg hc (by simp))
    clear hc
    obtain ⟨wp, hw, hc, b8, b9⟩ := news2 wr1 (.cells #[.int .i64 X.n, .int .i64 X.s, .string X.p, .int .i64 X.k, .int .i64 X.m, .slice X.A X.l X.c, .slice X.B X.bl X.bc] 29) (.cells #[.int .i64 0, .int .i64 0] 44)
    have WP := Lib.hid hw
    have B8 := Lib.hid b8
    have B9 := Lib.hid b9
    clear hw b8 b9
    replace C := Lib.hid (C.out.trans hc)
    replace B0 := Lib.hid (hc.at_ B0.out (by simp))
    replace HX := Lib.hid (HX.out.chg hc)
    replace HB := Lib.hid (HB.out.chg hc (by simp))
    replace O6 := Lib.hid (O6.out.chg hc (by simp))
    replace RX := Lib.hid (RX.out.chg hc)
    clear hc
    go_upto_region 9 with fail
    rw [← WP.out]
    generalize wr1.heap.size + 1 = s9 at *
    generalize wr1.heap.size = s8 at *
    clear WP
    have z0 := cell_of B0.out 0
    have z1 := cell_of B0.out 1
    have z2 := cell_of B0.out 2
    have z3 := cell_of B0.out 3
    have z4 := cell_of B0.out 4
    have z5 := cell_of B0.out 5
    have z6 := cell_of B0.out 6
    have t0 := cell_of B8.out 0
    have t1 := cell_of B8.out 1
    have t2 := cell_of B8.out 2
    have t3 := cell_of B8.out 3
    have t4 := cell_of B8.out 4
    have t5 := cell_of B8.out 5
    have t6 := cell_of B8.out 6
    have y0 := cell_of B9.out 0
    have y1 := cell_of B9.out 1
    simp only [List.getElem?_toArray, List.getElem?_cons_succ, List.getElem?_cons_zero] at z0 z1 z2 z3 z4 z5 z6 t0 t1 t2 t3 t4 t5 t6 y0 y1
    have SE : Hid (sameP e e = true) := Lib.hid (by unfold sameP; simp)
    go_wp2_with fail
    clear z0 z1 z2 z3 z4 z5 z6 t0 t1 t2 t3 t4 t5 t6 y0 y1
    refine (sameev_any wp X x e e RX.out HX.out ⟨SX.out.2.2, SX.out.2.2⟩).mono ?_
    rintro r w9 ⟨rfl, hc⟩
    rw [SE.out]
    replace C := Lib.hid (C.out.trans hc)
    replace B0 := Lib.hid (hc.at_ B0.out (by simp))
    replace HX := Lib.hid (HX.out.chg hc)
    replace HB := Lib.hid (HB.out.chg hc (by simp))
    replace O6 := Lib.hid (O6.out.chg hc (by simp))
    replace RX := Lib.hid (RX.out.chg hc)
    clear hc B8 B9 RX O6
    go_upto_region 11 with fail
    obtain ⟨re, hre⟩ : ∃ q, readEv ys = q := ⟨_, rfl⟩
    have RE := Lib.hid hre
    clear hre
    go_wp2_with fail
    refine (evread_any _ B _ d ys HB.out (by have := HM.out; omega)).mono ?_
    rintro r wr2 ⟨X, rfl, hX, hOA, hOB, hNA, hNB, hne, hc⟩
    rw [RE.out] at hX ⊢
    have RX := Lib.hid hX
    clear hX hOA hOB hNA hNB hne
    replace C := Lib.hid (C.out.trans hc)
    replace B0 := Lib.hid (hc.at_ B0.out (by simp))
    replace HX := Lib.hid (HX.out.chg hc)
    replace HB := Lib.hid (HB.out.chg hc (by simp))
    clear hc
    by_cases hr : re.2.1 = 0
    rotate_left
    · skip
      obtain ⟨wq, hw, hc, b8, b9⟩ := news2 wr2 (.cells #[.int .i64 X.n, .int .i64 X.s, .string X.p, .int .i64 X.k, .int .i64 X.m, .slice X.A X.l X.c, .slice X.B X.bl X.bc] 29) (.cells #[.int .i64 re.2.1, .int .i64 re.2.2] 44)
      have WQ := Lib.hid hw
      have B8 := Lib.hid b8
      have B9 := Lib.hid b9
      clear hw b8 b9
      replace C := Lib.hid (C.out.trans hc)
      replace B0 := Lib.hid (hc.at_ B0.out (by simp))
      replace HX := Lib.hid (HX.out.chg hc)
      replace HB := Lib.hid (HB.out.chg hc (by simp))
      replace RX := Lib.hid (RX.out.chg hc)
      clear hc
      go_upto_region 12 with fail
      rw [← WQ.out]
      generalize wr2.heap.size + 1 = s9 at *
      generalize wr2.heap.size = s8 at *
      clear WQ
      have z0 := cell_of B8.out 0
      have z1 := cell_of B8.out 1
      have z2 := cell_of B8.out 2
      have z3 := cell_of B8.out 3
      have z4 := cell_of B8.out 4
      have z5 := cell_of B8.out 5
      have z6 := cell_of B8.out 6
      have y0 := cell_of B9.out 0
      have y1 := cell_of B9.out 1
      simp only [List.getElem?_toArray, List.getElem?_cons_succ, List.getElem?_cons_zero] at z0 z1 z2 z3 z4 z5 z6 y0 y1
      have q := ev_fault (xs := ys) (by rw [RE.out]; exact hr)
      rw [RE.out] at q
      obtain ⟨q1, q2, q3⟩ := q
      have xp := RX.out.p
      rw [q1] at xp
      have xp2 : X.p = ⟨#[]⟩ := xp
      rw [xp2] at z2
      have k1 : (re.2.1 != 0) = true := bne_iff_ne.2 hr
      have k2 : (re.2.1 == 0) = false := beq_eq_false_iff_ne.2 hr
      clear xp xp2 q1 RX
      generalize re.2.1 = r1 at *
      generalize re.2.2 = r2 at *
      clear hr
      go_wp2
      go_ret
      exact ⟨(by first | rfl | simp), C.out⟩
    · skip
      rw [hr]
      obtain ⟨wq, hw, hc, b8, b9⟩ := news2 wr2 (.cells #[.int .i64 X.n, .int .i64 X.s, .string X.p, .int .i64 X.k, .int .i64 X.m, .slice X.A X.l X.c, .slice X.B X.bl X.bc] 29) (.cells #[.int .i64 0, .int .i64 re.2.2] 44)
      have WQ := Lib.hid hw
      have B8 := Lib.hid b8
      have B9 := Lib.hid b9
      clear hw b8 b9
      replace C := Lib.hid (C.out.trans hc)
      replace B0 := Lib.hid (hc.at_ B0.out (by simp))
      replace HX := Lib.hid (HX.out.chg hc)
      replace HB := Lib.hid (HB.out.chg hc (by simp))
      replace RX := Lib.hid (RX.out.chg hc)
      clear hc
      go_upto_region 12 with fail
      rw [← WQ.out]
      generalize wr2.heap.size + 1 = s9 at *
      generalize wr2.heap.size = s8 at *
      clear WQ
      have q := ev_again (xs := ys) (by rw [RE.out]; exact hr)
      rw [RE.out] at q
      have Q := Lib.hid q
      clear q hr
      have ES : Hid (EvSm re.1) := Lib.hid (by
        obtain ⟨_, a1, a2, a3⟩ := ok_parts Q.out.1
        have b1 := fine_len a2
        have b2 := (chkS_zero a3).1
        unfold EvSm
        omega)
      have z0 := cell_of B8.out 0
      have z1 := cell_of B8.out 1
      have z2 := cell_of B8.out 2
      have z3 := cell_of B8.out 3
      have z4 := cell_of B8.out 4
      have z5 := cell_of B8.out 5
      have z6 := cell_of B8.out 6
      have y0 := cell_of B9.out 0
      have y1 := cell_of B9.out 1
      simp only [List.getElem?_toArray, List.getElem?_cons_succ, List.getElem?_cons_zero] at z0 z1 z2 z3 z4 z5 z6 y0 y1
      go_wp2_with fail
      clear z0 z1 z2 z3 z4 z5 z6 y0 y1
      refine (evbytes_any wq X re.1 RX.out ES.out).mono ?_
      rintro r wb ⟨A5, c5, rfl, h5⟩
      rw [bytesEv_ok Q.out.1] at h5 ⊢
      dsimp only at h5 ⊢
      rw [Q.out.2] at h5 ⊢
      have O5 := Lib.hid h5.1
      have hc := h5.2.2
      clear h5
      replace C := Lib.hid (C.out.trans hc)
      replace B0 := Lib.hid (hc.at_ B0.out (by simp))
      replace HX := Lib.hid (HX.out.chg hc)
      replace HB := Lib.hid (HB.out.chg hc (by simp))
      replace RX := Lib.hid (RX.out.chg hc)
      clear hc
      go_wp2_with fail
      refine (same_yes wb A5 B _ _ c5 d ys ys O5.out.reads HB.out rfl).mono ?_
      rintro r wc ⟨rfl, rfl⟩
      go_wp2
      go_ret
      exact ⟨(by first | rfl | simp), C.out⟩
end
end Go.Proofs.YtgbidlhgmeglmaaGreatDoor
