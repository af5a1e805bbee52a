/- The kit's CopyEvents. Package effect: Read. The statements' own functions over effects: SameEffect, LongEffect, of, file, awake. The kit's LongEvents. Arguments opened: bytes, numbers, texts: from the data that a row reads to the cells that a walk goes over. Slices of spans as arguments. An event as an argument. The layer's closed examples: the run on marks, reckoned by the kernel. Nothing is asked of the variables. -/
import Derived.Test.YtfdaclifapfmdaaGreatDoorZcag
import Derived.Test.YtfdaclifapfmdaaGreatDoorZcal
import Derived.Deep.Cut
import Derived.Test.YtfdaclifapfmdaaGreatDoorZcad
import Derived.Deep.CutRange
import Derived.Test.YtfdaclifapfmdaaGreatDoorZcaa
import Derived.Deep.Slices
import Derived.Deep.Fields
import Derived.ChangeSame
import Derived.SizedLaws
import Derived.ChangeArms
import Derived.ChangeSlices
import Derived.OpenShut
import Derived.ProofKit
import Derived.Test.YtfdaclifapfmdaaGreatDoorZcab
import Derived.Test.YtfdaclifapfmdaaGreatDoorLaid0
namespace Go.Proofs.YtfdaclifapfmdaaGreatDoor
section
open Go.RowKit Go.Lib
set_option linter.unusedSimpArgs false
set_option linter.unusedVariables false


theorem fresh_appE {w2 w w' : World} {A A' : Option Addr} (hA : ∀ a, A = some a → w2.heap.size ≤ a.block) (hC : Chg [] w2 w) (g : w.grownBy w' (A.map (·.block))) (e : A' = A ∨ A' = some ⟨w.heap.size, 0, none⟩) :
    (∀ a, A' = some a → w2.heap.size ≤ a.block) ∧ Chg [] w2 w' := by
  refine ⟨?_, hC.grown g ?_⟩
  · rintro a ha
    rcases e with rfl | rfl
    · exact hA a ha
    · cases ha; exact hC.size
  · rintro i hi
    cases A with
    | none => simp at hi
    | some a => simp at hi; subst hi; exact .inr (hA a rfl)
theorem rd_oneEc {w : World} {g : Nat} {X : EvT} (h : w.heap[g]? = some (.cells #[.int .i64 X.n, .int .i64 X.s, .string X.p, .int .i64 X.k, .int .i64 X.m, .slice X.A X.l X.c, .slice X.B X.bl X.bc] 29)) : RdK evTy w (some ⟨g, 0, none⟩) 1 [X] :=
  ⟨rfl, fun j v hj => ⟨_, rfl, by rw [add_zero_lit, cell_of h j]; simpa [RowTy.flat, evTy] using hj⟩⟩
theorem EvsR.snoc {w : World} {xs : List EvT} {es : List EvP} {x : EvT} {e : EvP} (h : EvsR w xs es) (r : EvR w x e) : EvsR w (xs ++ [x]) (es ++ [e]) := by
  refine ⟨by simp [h.1], fun i y f hy hf => ?_⟩
  by_cases q : i < xs.length
  · rw [List.getElem?_append_left q] at hy
    rw [List.getElem?_append_left (by rw [← h.1]; exact q)] at hf
    exact h.2 i y f hy hf
  · rw [List.getElem?_append_right (by omega)] at hy
    rw [List.getElem?_append_right (by rw [← h.1]; omega), ← h.1] at hf
    have hi := (List.getElem?_eq_some_iff.1 hy).1
    simp at hi
    rw [hi] at hy hf
    simp at hy hf
    subst hy hf
    exact r
theorem EvR.chgS {S : List Nat} {w w' : World} {x : EvT} {e : EvP} (h : EvR w x e) (hc : Chg S w w') (hA : ∀ a, x.A = some a → a.block ∉ S) (hB : ∀ a, x.B = some a → a.block ∉ S) : EvR w' x e := ⟨h.n, h.s, h.p, h.k, h.m, h.l, h.bl, h.A.chg hc hA, h.B.chg hc hB⟩
theorem EvsR.chgS {S : List Nat} {w w' : World} {xs : List EvT} {es : List EvP} (h : EvsR w xs es) (hc : Chg S w w') (hS : ∀ x ∈ xs, (∀ a, x.A = some a → a.block ∉ S) ∧ (∀ a, x.B = some a → a.block ∉ S)) : EvsR w' xs es :=
  ⟨h.1, fun i x e hx he => (h.2 i x e hx he).chgS hc (hS x (List.mem_of_getElem? hx)).1 (hS x (List.mem_of_getElem? hx)).2⟩
end
section
open Go.RowKit
set_option linter.unusedSimpArgs false
end
section
open Go.RowKit
set_option linter.unusedSimpArgs false

/-- Bytes that fill a block. -/
theorem Bs.fill {w : World} {g n : Nat} {C : Array Value} (xs : List UInt8) {fr : Nat × Nat} (hg : w.heap[g]? = some (.cells C 5 fr)) (h : C.toList = xs.map bv) (hn : xs.length = n) : Bs w (some ⟨g, 0, none⟩) n xs :=
  ⟨hn, fun j u hj => ⟨_, rfl, by
    rw [add_zero_lit]
    have e : w.cell? ⟨g, j, none⟩ = C[j]? := by simp [World.cell?, hg]
    rw [e, ← Array.getElem?_toList, h, List.getElem?_map, hj]; rfl⟩⟩

set_option maxHeartbeats 400000 in
theorem longeff_any (w : World) (k m : Int) (A : Option Addr) (n c : Nat) (_hn : n ≤ 140737488351232) :
    Calls Tryz.prog 39 #[.agg #[.int .i64 k, .int .i64 m, .slice A n c]] w fun e w' => e = .returned (.bool (decide ((1200 : Int) < n))) ∧ Chg [] w w' := by
  go_enter Tryz.func39, Tryz.ntmps39
  go_wp2
  go_ret
  exact ⟨rfl, (Chg.refl _ _).alloc _⟩
theorem Lent.lt {w : World} {g : Nat} {xs : List UInt8} (h : Lent w g xs) : g < w.heap.size := by
  obtain ⟨full, h1, _⟩ := h
  exact lt_of_heap h1
theorem Chg.c0 {w w' : World} {a : Addr} {u : Value} (hc : Chg [] w w') (h : w.cell? a = some u) : w'.cell? a = some u := hc.cell h (by simp)
end
section
open Go.RowKit Go.Lib
set_option linter.unusedSimpArgs false
set_option linter.unusedVariables false


/-- More of an event than is gone through. -/
def bigE (x : EvT) : Prop := 100 < x.p.size ∨ 1200 < x.l ∨ 100 < x.bl
instance (x : EvT) : Decidable (bigE x) := by unfold bigE; exact inferInstance
def longE (xs : List EvT) (most : Nat) : Bool := (xs.take (most + 1)).any (fun x => decide (bigE x)) || decide (most < xs.length)
theorem longE_no {xs : List EvT} {most : Nat} (h : longE xs most = false) : xs.length ≤ most ∧ ∀ x ∈ xs, ¬ bigE x := by
  unfold longE at h
  rw [Bool.or_eq_false_iff, decide_eq_false_iff_not, List.any_eq_false] at h
  refine ⟨by omega, fun x hx => ?_⟩
  have := h.1 x (by rw [List.take_of_length_le (by omega)]; exact hx)
  simpa using this
theorem longE_yes {xs : List EvT} {most k : Nat} {x : EvT} (hx : xs[k]? = some x) (hk : k ≤ most) (hb : bigE x) : longE xs most = true := by
  unfold longE
  rw [Bool.or_eq_true, List.any_eq_true]
  refine .inl ⟨x, ?_, decide_eq_true hb⟩
  have hl := (List.getElem?_eq_some_iff.1 hx).1
  exact List.mem_of_getElem? (i := k) (by rw [List.getElem?_take, if_pos (by omega)]; exact hx)
set_option maxRecDepth 100000 in
set_option maxHeartbeats 8000000 in
theorem longevs_any (w : World) (A : Option Addr) (c : Nat) (xs : List EvT) (most : Nat) (h : RdK evTy w A xs.length xs) (hn : xs.length ≤ 140737488351232) (hm : most ≤ 1000) (hs : ∀ x ∈ xs, x.l ≤ 140737488351232) :
    Calls Tryz.prog 7 #[.slice A xs.length c, .int .i64 (most : Int)] w fun r w' => r = .returned (.bool (longE xs most)) ∧ Chg [] w w' := by
  have H := Lib.hid h
  have HN := Lib.hid hn
  have HM := Lib.hid hm
  have HS := Lib.hid hs
  clear h hn hm hs
  generalize hv : longE xs most = v
  have HV := Lib.hid hv
  clear hv
  go_enter Tryz.func7, Tryz.ntmps7
  go_wp2
  go_loopw [5] (fun v5 wr => ∃ k : Nat, k ≤ xs.length ∧ k ≤ most + 1 ∧ v5 = .int .i64 k ∧ Hid (∀ x ∈ xs.take k, ¬ bigE x) ∧ Hid (Chg [] w wr)) (fun v5 _ => xs.length - (RowKit.intOf v5).toNat)
  case atStart => exact ⟨0, Nat.zero_le _, Nat.zero_le _, rfl, Lib.hid (by simp), Chg.refl _ _⟩
  case round =>
    obtain ⟨k, hk, hk2, rfl, NB, RC⟩ := hrel
    have i0 : (0 : Int) ≤ (k : Int) := by omega
    by_cases hlt : k < xs.length
    · have i1 : (k : Int) < (xs.length : Int) := by omega
      by_cases hle : k ≤ most
      · have i2 : (k : Int) ≤ (most : Int) := by omega
        have i3 : IntKind.i64.wrap ((k : Int) + 1) = (k : Int) + 1 := IntWalk.i64_in _ (by have := HN.out; omega)
        obtain ⟨x, hx⟩ : ∃ x, xs[k]? = some x := ⟨_, List.getElem?_eq_getElem hlt⟩
        obtain ⟨g, o, eA, _⟩ := H.out.line (by omega)
        subst eA
        obtain ⟨z0, z1, z2, z3, z4, z5, z6⟩ := evCells (H.out.chg RC.out (by simp)) hx
        have LY : Hid (bigE x → v = true) := Lib.hid (fun q => by rw [← HV.out]; exact longE_yes hx hle q)
        have NX : Hid (¬ bigE x → ∀ y ∈ xs.take (k + 1), ¬ bigE y) := Lib.hid (fun q y hy => by
          rw [List.take_add_one, hx] at hy
          rcases List.mem_append.1 hy with r | r
          · exact NB.out y r
          · simp at r; subst r; exact q)
        have XS := Lib.hid (HS.out x (List.mem_of_getElem? hx))
        clear hx
        by_cases b1 : 100 < x.p.size
        · have j1 : (100 : Int) < (x.p.size : Int) := by omega
          obtain rfl := LY.out (.inl b1)
          clear LY NX b1
          go_wp2
          go_ret
          exact ⟨rfl, RC.out⟩
        have j1 : ¬ (100 : Int) < (x.p.size : Int) := by omega
        go_wp2_with fail
        refine (longeff_any wr x.k x.m x.A x.l x.c XS.out).mono ?_
        rintro r w2 ⟨rfl, hc⟩
        have C2 := Lib.hid (RC.out.trans hc)
        have y6 := hc.cell z6 (by simp)
        clear hc z0 z1 z2 z3 z4 z5 z6 j1
        by_cases b2 : 1200 < x.l
        · rw [decide_eq_true (show (1200 : Int) < (x.l : Int) by omega)]
          obtain rfl := LY.out (.inr (.inl b2))
          clear LY NX b1 b2 y6
          go_wp2
          go_ret
          exact ⟨rfl, C2.out⟩
        rw [decide_eq_false (show ¬ (1200 : Int) < (x.l : Int) by omega)]
        by_cases b3 : 100 < x.bl
        · have j3 : (100 : Int) < (x.bl : Int) := by omega
          obtain rfl := LY.out (.inr (.inr b3))
          clear LY NX b1 b2 b3
          go_wp2
          go_ret
          exact ⟨rfl, C2.out⟩
        have j3 : ¬ (100 : Int) < (x.bl : Int) := by omega
        have NN := Lib.hid (NX.out (fun q => by unfold bigE at q; omega))
        clear LY NX b1 b2 b3
        go_wp2
        go_round
        case rel => exact ⟨k + 1, by omega, by omega, by go_num, NN, C2.out⟩
        case measure => simp [RowKit.intOf]; omega
      · have i2 : ¬ (k : Int) ≤ (most : Int) := by omega
        have i4 : (most : Int) < (xs.length : Int) := by omega
        obtain rfl : v = true := by rw [← HV.out]; unfold longE; rw [decide_eq_true (show most < xs.length by omega)]; simp
        clear HV
        go_wp2
        go_ret
        exact ⟨rfl, RC.out⟩
    · obtain rfl : k = xs.length := by omega
      have i1 : ¬ (xs.length : Int) < (xs.length : Int) := by omega
      by_cases hle : most < xs.length
      · have i4 : (most : Int) < (xs.length : Int) := by omega
        obtain rfl : v = true := by rw [← HV.out]; unfold longE; rw [decide_eq_true hle]; simp
        clear HV
        go_wp2
        go_ret
        exact ⟨rfl, RC.out⟩
      · have i4 : ¬ (most : Int) < (xs.length : Int) := by omega
        obtain rfl : v = false := by
          rw [← HV.out]
          unfold longE
          rw [decide_eq_false hle, Bool.or_false, List.any_eq_false]
          intro x hx
          have q := NB.out x (by rw [List.take_length]; exact List.mem_of_mem_take hx)
          simpa using q
        clear HV
        go_wp2
        go_ret
        exact ⟨rfl, RC.out⟩
end
section
open Go.RowKit Go.WideShapes Go.ChangeShapes Go.Deep
section
variable {H : Type} {enc : TypeId × Value → H} {P : Program} {w : World} {base : Nat} {spare : Nat → Bool} {held : Bool}

theorem weights_all_mem {e : TypeId} : ∀ {l : List (DataW H)} {d : DataW H}, d ∈ l → ∀ n ∈ d.weights P e, n ∈ DataW.weightsAll P e l
  | x :: l, d, hd, n, hn => by
    simp only [DataW.weightsAll, List.mem_append]
    rcases List.mem_cons.1 hd with rfl | h
    · exact .inl hn
    · exact .inr (weights_all_mem h n hn)
theorem weights_slice {t e : TypeId} (ht : P.underlying t = some (.slice e)) {xs ys : List (DataW H)} (hz : ∀ k ∈ (DataW.slice xs ys).weights P t, k ≤ reachBytes) :
    (xs.length + ys.length) * P.bytesOf e ≤ reachBytes ∧ ∀ d ∈ xs, ∀ k ∈ d.weights P e, k ≤ reachBytes := by
  simp only [DataW.weights, ht, List.mem_cons, List.mem_append] at hz
  exact ⟨hz _ (.inl rfl), fun d hd k hk => hz k (.inr (.inl (weights_all_mem hd k hk)))⟩
theorem weights_struct {t : TypeId} {fs : Array Field} (ht : P.underlying t = some (.struct fs)) {xs : List (DataW H)} (hz : ∀ k ∈ (DataW.agg xs).weights P t, k ≤ reachBytes) {j : Nat} {f : Field} {d : DataW H} (hf : fs[j]? = some f) (hd : xs[j]? = some d) :
    ∀ k ∈ d.weights P f.type, k ≤ reachBytes := by
  simp only [DataW.weights, ht] at hz
  exact fun k hk => hz k (DataW.weights_mem_each (j := j) (by simp [hf]) hd k hk)

/-- A list of what is there for every number. -/
theorem list_of {α : Type} {Q : Nat → α → Prop} : ∀ (n : Nat), (∀ i, i < n → ∃ a, Q i a) → ∃ l : List α, l.length = n ∧ ∀ j a, l[j]? = some a → Q j a
  | 0, _ => ⟨[], rfl, by simp⟩
  | n + 1, h => by
    obtain ⟨l, h1, h2⟩ := list_of n (fun i hi => h i (by omega))
    obtain ⟨a, ha⟩ := h n (by omega)
    refine ⟨l ++ [a], by simp [h1], fun j b hj => ?_⟩
    rw [List.getElem?_append] at hj
    split at hj
    · exact h2 j b hj
    · rename_i hn
      have : j = n := by
        have := (List.getElem?_eq_some_iff.1 hj).1
        simp at this
        omega
      subst this
      rw [h1] at hj
      simp at hj
      subst hj
      exact ha
end
section
variable {H : Type} {enc : TypeId × Value → H} {w : World} {base : Nat} {spare : Nat → Bool} {held : Bool}

theorem open_bytes {n : Nat} {cs : List Value} {y : DataW H × List MemPlace} (h : DataW.trod enc Tryz.prog w base spare held n 24 cs = some y) (hz : ∀ k ∈ y.1.weights Tryz.prog 24, k ≤ reachBytes) :
    ∃ A m d ys, cs = [.slice A m d] ∧ Bs w A m ys ∧ m ≤ 140737488351232 ∧ m ≤ d ∧ d ≤ 9223372036854775807 := by
  rcases open_ints Tryz.underlying24 Tryz.underlying5 (by kernel_rfl) h with ⟨rfl, _⟩ | ⟨x, l, c, zs, rfl, _, hl, hm, hzl, rfl, hcell, hwz⟩
  · exact ⟨none, 0, 0, [], rfl, Bs.nil _ _, by decide, by decide, by decide⟩
  · have hlen : l ≤ zs.length := by rw [hzl]; split <;> omega
    have hw := (weights_slice Tryz.underlying24 hz).1
    rw [show Tryz.prog.bytesOf 5 = 1 by kernel_rfl] at hw
    refine ⟨some x, l, c, (zs.take l).map (fun z => UInt8.ofNat z.toNat), rfl, ⟨by simp; omega, fun j u hj => ⟨x, rfl, ?_⟩⟩, ?_, hl, by unfold maxLen at hm; omega⟩
    · have hjl := (List.getElem?_eq_some_iff.1 hj).1
      rw [List.length_map, List.length_take] at hjl
      have h1 : j < l := by omega
      have h2 : j < zs.length := by omega
      rw [hcell j h2]
      have hwz' := bounds_u8 (hwz (zs.getD j 0) (by simp [List.getD, h2]))
      simp only [List.getElem?_map, List.getElem?_take, if_pos h1, Option.map_eq_some_iff] at hj
      obtain ⟨z, h3, rfl⟩ := hj
      have e : zs.getD j 0 = z := by simp [List.getD, h3]
      rw [e] at hwz' ⊢
      unfold bv
      congr 2
      simp
      omega
    · simp [lits, reachBytes] at hw
      omega

theorem open_int1 {n : Nat} {v : Value} {y : DataW H × List MemPlace} (h : DataW.trod enc Tryz.prog w base spare held n 3 [v] = some y) : ∃ x : Int, v = .int .i64 x ∧ -9223372036854775808 ≤ x ∧ x ≤ 9223372036854775807 := by
  obtain ⟨z, e, _, b⟩ := DataW.trod_int Tryz.underlying3 h
  have hb := bounds_i64 b
  exact ⟨z, List.singleton_inj.1 e, hb.1, hb.2⟩
theorem open_str {n : Nat} {v : Value} {y : DataW H × List MemPlace} (h : DataW.trod enc Tryz.prog w base spare held n 9 [v] = some y) (hz : ∀ k ∈ y.1.weights Tryz.prog 9, k ≤ reachBytes) : ∃ s : ByteArray, v = .string s ∧ s.size ≤ 140737488351232 := by
  obtain ⟨s, e, e', _⟩ := DataW.trod_string Tryz.underlying9 h
  refine ⟨s, List.singleton_inj.1 e, ?_⟩
  have := hz s.data.toList.length (by rw [e']; simp [DataW.weights])
  rw [Array.length_toList] at this
  exact this
set_option maxRecDepth 100000 in
/-- An effect's three cells. -/
theorem open_effect {n : Nat} {cs : List Value} {y : DataW H × List MemPlace} (h : DataW.trod enc Tryz.prog w base spare held n 26 cs = some y) (hz : ∀ k ∈ y.1.weights Tryz.prog 26, k ≤ reachBytes) :
    ∃ (k m : Int) (A : Option Addr) (n d : Nat) (ys : List UInt8), cs = [.int .i64 k, .int .i64 m, .slice A n d] ∧ Bs w A n ys ∧ n ≤ 140737488351232 ∧ n ≤ d ∧ d ≤ 9223372036854775807 := by
  obtain ⟨xs, k, rfl, rfl, hl, hx, hf⟩ := DataW.trod_struct Tryz.underlying26 h
  rw [show Tryz.prog.cellsOf 26 = 3 by kernel_rfl] at hl
  have g0 := hf 0 _ rfl
  have g1 := hf 1 _ rfl
  have g2 := hf 2 _ rfl
  change DataW.trod _ _ _ _ _ _ _ 3 ((cs.drop 0).take (Tryz.prog.cellsOf 3)) = _ at g0
  change DataW.trod _ _ _ _ _ _ _ 3 ((cs.drop 1).take (Tryz.prog.cellsOf 3)) = _ at g1
  change DataW.trod _ _ _ _ _ _ _ 24 ((cs.drop 2).take (Tryz.prog.cellsOf 24)) = _ at g2
  rw [show Tryz.prog.cellsOf 3 = 1 by kernel_rfl] at g0 g1
  rw [show Tryz.prog.cellsOf 24 = 1 by kernel_rfl] at g2
  match cs, hl with
  | [v0, v1, v2], _ =>
    match xs, hx with
    | [x0, x1, x2], _ =>
      have w2 := weights_struct Tryz.underlying26 hz (j := 2) (d := x2.1) rfl rfl
      obtain ⟨z0, e0, _, _⟩ := DataW.trod_int Tryz.underlying3 g0
      obtain ⟨z1, e1, _, _⟩ := DataW.trod_int Tryz.underlying3 g1
      obtain ⟨A, m, d, ys, e2, hb, hm, hmd, hd⟩ := open_bytes g2 w2
      simp only [List.drop_succ_cons, List.drop_zero, List.take_succ_cons, List.take_zero, List.cons.injEq, and_true] at e0 e1 e2
      subst e0 e1 e2
      exact ⟨z0, z1, A, m, d, ys, rfl, hb, hm, hmd, hd⟩
set_option maxRecDepth 100000 in
/-- A dot's two cells. -/
theorem open_dot {n : Nat} {cs : List Value} {y : DataW H × List MemPlace} (h : DataW.trod enc Tryz.prog w base spare held n 23 cs = some y) :
    ∃ (a b : Int), cs = [.int .i64 a, .int .i64 b] ∧ -9223372036854775808 ≤ a ∧ a ≤ 9223372036854775807 ∧ -9223372036854775808 ≤ b ∧ b ≤ 9223372036854775807 := by
  obtain ⟨xs, k, rfl, rfl, hl, hx, hf⟩ := DataW.trod_struct Tryz.underlying23 h
  rw [show Tryz.prog.cellsOf 23 = 2 by kernel_rfl] at hl
  have g0 := hf 0 _ rfl
  have g1 := hf 1 _ rfl
  change DataW.trod _ _ _ _ _ _ _ 3 ((cs.drop 0).take (Tryz.prog.cellsOf 3)) = _ at g0
  change DataW.trod _ _ _ _ _ _ _ 3 ((cs.drop 1).take (Tryz.prog.cellsOf 3)) = _ at g1
  rw [show Tryz.prog.cellsOf 3 = 1 by kernel_rfl] at g0 g1
  match cs, hl with
  | [v0, v1], _ =>
    match xs, hx with
    | [x0, x1], _ =>
      obtain ⟨z0, e0, _, b0⟩ := DataW.trod_int Tryz.underlying3 g0
      obtain ⟨z1, e1, _, b1⟩ := DataW.trod_int Tryz.underlying3 g1
      have c0 := bounds_i64 b0
      have c1 := bounds_i64 b1
      simp only [List.drop_succ_cons, List.drop_zero, List.take_succ_cons, List.take_zero, List.cons.injEq, and_true] at e0 e1
      subst e0 e1
      exact ⟨z0, z1, rfl, c0.1, c0.2, c1.1, c1.2⟩
end
end
section
open Go.RowKit Go.WideShapes Go.ChangeShapes Go.Deep
set_option linter.unusedSimpArgs false
section
variable {H : Type} {enc : TypeId × Value → H} {w : World} {base : Nat} {spare : Nat → Bool} {held : Bool}
set_option maxRecDepth 100000 in
/-- A span's three cells. -/
theorem open_span {n : Nat} {cs : List Value} {y : DataW H × List MemPlace} (h : DataW.trod enc Tryz.prog w base spare held n 95 cs = some y) :
    ∃ (a b c : Int), cs = [.int .i64 a, .int .i64 b, .int .i64 c] := by
  obtain ⟨xs, k, rfl, rfl, hl, hx, hf⟩ := DataW.trod_struct Tryz.underlying95 h
  rw [show Tryz.prog.cellsOf 95 = 3 by kernel_rfl] at hl
  have g0 := hf 0 _ rfl
  have g1 := hf 1 _ rfl
  have g2 := hf 2 _ rfl
  change DataW.trod _ _ _ _ _ _ _ 3 ((cs.drop 0).take (Tryz.prog.cellsOf 3)) = _ at g0
  change DataW.trod _ _ _ _ _ _ _ 3 ((cs.drop 1).take (Tryz.prog.cellsOf 3)) = _ at g1
  change DataW.trod _ _ _ _ _ _ _ 3 ((cs.drop 2).take (Tryz.prog.cellsOf 3)) = _ at g2
  rw [show Tryz.prog.cellsOf 3 = 1 by kernel_rfl] at g0 g1 g2
  match cs, hl with
  | [v0, v1, v2], _ =>
    match xs, hx with
    | [x0, x1, x2], _ =>
      obtain ⟨z0, e0, _, _⟩ := DataW.trod_int Tryz.underlying3 g0
      obtain ⟨z1, e1, _, _⟩ := DataW.trod_int Tryz.underlying3 g1
      obtain ⟨z2, e2, _, _⟩ := DataW.trod_int Tryz.underlying3 g2
      simp only [List.drop_succ_cons, List.drop_zero, List.take_succ_cons, List.take_zero, List.cons.injEq, and_true] at e0 e1 e2
      subst e0 e1 e2
      exact ⟨z0, z1, z2, rfl⟩
theorem open_spans {n : Nat} {cs : List Value} {y : DataW H × List MemPlace} (h : DataW.trod enc Tryz.prog w base spare held n 27 cs = some y) (hz : ∀ k ∈ y.1.weights Tryz.prog 27, k ≤ reachBytes) :
    ∃ A m d zs, cs = [.slice A m d] ∧ RdK spanTy w A m zs ∧ m * 24 ≤ 140737488351232 ∧ m ≤ d := by
  rcases open_slice Tryz.underlying27 h with ⟨rfl, _⟩ | ⟨a, len, cap, m, k, D, Pl, rfl, _, hl, hm, hmm, rfl, hi⟩
  · exact ⟨none, 0, 0, [], rfl, RdK.nil _ _, by decide, by decide⟩
  · have hlm : len ≤ m := by rw [hmm]; split <;> omega
    obtain ⟨hw, _⟩ := weights_slice Tryz.underlying27 hz
    rw [show Tryz.prog.bytesOf 95 = 24 by kernel_rfl] at hw
    simp [reachBytes] at hw
    have hC : Tryz.prog.cellsOf 95 = 3 := by kernel_rfl
    obtain ⟨l, hll, hat⟩ := list_of (Q := fun i (x : Int × Int × Int) => w.cell? (a.add (i * 3)) = some (.int .i64 x.1) ∧ w.cell? (a.add (i * 3 + 1)) = some (.int .i64 x.2.1) ∧ w.cell? (a.add (i * 3 + 2)) = some (.int .i64 x.2.2)) len (fun i hilt => by
      obtain ⟨cs', hc, ht⟩ := hi i (by omega)
      rw [hC] at hc
      obtain ⟨_, hcl, hat⟩ := World.cells?_some hc
      obtain ⟨p, q, r, rfl⟩ := open_span ht
      have g0 := hat 0 (by omega)
      have g1 := hat 1 (by omega)
      have g2 := hat 2 (by omega)
      rw [add_add] at g0 g1 g2
      exact ⟨(p, q, r), g0, g1, g2⟩)
    refine ⟨some a, len, cap, l, rfl, ⟨hll, fun j v hj => ⟨a, rfl, ?_⟩⟩, by omega, hl⟩
    have hj2 := (List.getElem?_eq_some_iff.1 hj).1
    rw [spanTy.flat_len] at hj2
    have hk : spanTy.k = 3 := rfl
    rw [hk] at hj2
    have hq : j / 3 < l.length := by omega
    have e := spanTy.flat_at l (j / 3) (j % 3) _ (List.getElem?_eq_getElem hq) (Nat.mod_lt _ (by decide))
    rw [hk, Nat.div_add_mod', hj] at e
    obtain ⟨g0, g1, g2⟩ := hat (j / 3) _ (List.getElem?_eq_getElem hq)
    rcases (show j % 3 = 0 ∨ j % 3 = 1 ∨ j % 3 = 2 by omega) with h0 | h0 | h0
    · rw [h0] at e
      rw [show j / 3 * 3 = j by omega] at g0
      rw [g0]
      exact e.symm
    · rw [h0] at e
      rw [show j / 3 * 3 + 1 = j by omega] at g1
      rw [g1]
      exact e.symm
    · rw [h0] at e
      rw [show j / 3 * 3 + 2 = j by omega] at g2
      rw [g2]
      exact e.symm
end
end
section
open Go.RowKit Go.WideShapes Go.ChangeShapes Go.Deep
set_option linter.unusedVariables false
variable {H : Type} {enc : TypeId × Value → H} {P : Program} {w : World} {base : Nat} {spare : Nat → Bool} {held : Bool}
set_option maxRecDepth 100000 in
/-- How large an event is that is handed in. -/
def EvZ (x : EvT) (e : EvP) : Prop := e.b.length ≤ 140737488351232 ∧ e.q.length * 24 ≤ 140737488351232 ∧ e.p.length ≤ 140737488351232 ∧ (x.l ≤ x.c ∧ x.c ≤ 9223372036854775807 ∧ x.bl ≤ x.bc ∧ x.bc ≤ 9223372036854775807) ∧ (-9223372036854775808 ≤ e.n ∧ e.n ≤ 9223372036854775807 ∧ -9223372036854775808 ≤ e.s ∧ e.s ≤ 9223372036854775807)
theorem cap_spans {n : Nat} {B : Option Addr} {q d : Nat} {y : DataW H × List MemPlace} (h : DataW.trod enc Tryz.prog w base spare held n 27 [.slice B q d] = some y) : d ≤ 9223372036854775807 := by
  rcases open_slice Tryz.underlying27 h with ⟨e, _⟩ | ⟨a, len, cap, m, k, D, Pl, e, _, _, hm, _⟩
  · cases e; omega
  · cases e; exact hm
set_option maxRecDepth 100000 in
theorem open_event {n : Nat} {cs : List Value} {y : DataW H × List MemPlace} (h : DataW.trod enc Tryz.prog w base spare held n 29 cs = some y) (hz : ∀ k ∈ y.1.weights Tryz.prog 29, k ≤ reachBytes) :
    ∃ (x : EvT) (e : EvP), cs = [.int .i64 x.n, .int .i64 x.s, .string x.p, .int .i64 x.k, .int .i64 x.m, .slice x.A x.l x.c, .slice x.B x.bl x.bc] ∧ EvR w x e ∧ EvZ x e := by
  obtain ⟨xs, k, rfl, rfl, hl, hx, hf⟩ := DataW.trod_struct Tryz.underlying29 h
  rw [show Tryz.prog.cellsOf 29 = 7 by kernel_rfl] at hl
  have g0 := hf 0 _ rfl
  have g1 := hf 1 _ rfl
  have g2 := hf 2 _ rfl
  have g3 := hf 3 _ rfl
  change DataW.trod _ _ _ _ _ _ _ 23 ((cs.drop 0).take (Tryz.prog.cellsOf 23)) = _ at g0
  change DataW.trod _ _ _ _ _ _ _ 9 ((cs.drop 2).take (Tryz.prog.cellsOf 9)) = _ at g1
  change DataW.trod _ _ _ _ _ _ _ 26 ((cs.drop 3).take (Tryz.prog.cellsOf 26)) = _ at g2
  change DataW.trod _ _ _ _ _ _ _ 27 ((cs.drop 6).take (Tryz.prog.cellsOf 27)) = _ at g3
  rw [show Tryz.prog.cellsOf 23 = 2 by kernel_rfl] at g0
  rw [show Tryz.prog.cellsOf 9 = 1 by kernel_rfl] at g1
  rw [show Tryz.prog.cellsOf 26 = 3 by kernel_rfl] at g2
  rw [show Tryz.prog.cellsOf 27 = 1 by kernel_rfl] at g3
  match cs, hl with
  | [v0, v1, v2, v3, v4, v5, v6], _ =>
    match xs, hx with
    | [x0, x1, x2, x3], _ =>
      have w2 := weights_struct Tryz.underlying29 hz (j := 2) (d := x2.1) rfl rfl
      have w3 := weights_struct Tryz.underlying29 hz (j := 3) (d := x3.1) rfl rfl
      have w1 := weights_struct Tryz.underlying29 hz (j := 1) (d := x1.1) rfl rfl
      obtain ⟨a, b, e0, r0⟩ := open_dot g0
      simp only [List.drop_succ_cons, List.drop_zero, List.take_succ_cons, List.take_zero] at g1
      obtain ⟨s, e1, r1⟩ := open_str g1 w1
      obtain ⟨k, m, A, n, c, ys, e2, r2⟩ := open_effect g2 w2
      obtain ⟨B, q, d, zs, e3, r3⟩ := open_spans g3 w3
      simp only [List.drop_succ_cons, List.drop_zero, List.take_succ_cons, List.take_zero, List.cons.injEq, and_true] at e0 e2 e3
      obtain ⟨rfl, rfl⟩ := e0
      obtain ⟨rfl, rfl, rfl⟩ := e2
      subst e1 e3
      refine ⟨⟨a, b, s, k, m, A, n, c, B, q, d⟩, ⟨a, b, s.data.toList, k, m, ys, zs⟩, rfl, ⟨rfl, rfl, (strOf_of s).symm, rfl, rfl, r2.1.len.symm, r3.1.len.symm, r2.1, r3.1⟩, ?_⟩
      simp only [List.drop_succ_cons, List.drop_zero, List.take_succ_cons, List.take_zero] at g3
      have l4 := cap_spans g3
      have hs : s.data.toList.length = s.size := rfl
      have l2 := r2.1.len
      have l3 := r3.1.len
      refine ⟨?_, ?_, ?_, ⟨?_, ?_, ?_, ?_⟩, r0⟩
      all_goals (simp only; omega)
end
section
open Go.RowKit
theorem clashAwake_run (W : World) : Calls Tryz.prog 8 #[] W fun e w' => e = .returned (.bool true) ∧ Chg [] W w' :=
  Ev.closed_callJ [16, 22] (X := [(210, .compare)]) (g := 3) (n := 100000) (by kernel_rfl) (Ev.one_ext Tryz.func210 (by kernel_rfl) (by kernel_rfl) (by kernel_rfl) (by kernel_rfl) (Ev.no_ext _)) (by kernel_rfl) (by kernel_rfl) W
end
section
def TabN (_ : World) : Prop := True
theorem TabN.laid {W : World} (_h : laidMetH Tryz.prog tables W) : TabN W := trivial
end
end Go.Proofs.YtfdaclifapfmdaaGreatDoor
