/- PrintSums. -/
import Derived.Test.YtphchggabcbfkaaDoorPmix
import Derived.Test.YtphchggabcbfkaaDoorPawk
import Derived.Test.YtphchggabcbfkaaDoorNargs
import Derived.Deep.RegionHeld3
namespace Go.Proofs.YtphchggabcbfkaaDoor
open Go.RowKit
set_option linter.unusedSimpArgs false
set_option linter.unusedVariables false

theorem info64 : (Tryd.prog.info? 23).map (fun i => (i.zero, i.size, i.bytes)) = some (some (.int .u64 0), 1, 8) := by kernel_rfl
/-- append of numbers to an empty row. -/
theorem app_us (w : World) (ty : TypeId) {B : Option Addr} {m d : Nat} {us : List Nat} (h : U64s w B m us) (hm : m ≤ 300) (g : Nat) (hg : w.heap[g]? = some (.cells #[] 23)) :
    ∃ A' c' w', (Builtin.append_ #[24, 24] ty #[.slice (some ⟨g, 0, none⟩) 0 0, .slice B m d]).run Tryd.prog w = .ok (.slice A' m c') w' ∧ U64s w' A' m us ∧ Chg [] w w' := by
  obtain ⟨i0, hi, hz0, hz1, hz2⟩ := info_parts info64
  have hl := h.len
  subst hl
  by_cases h0 : us.length = 0
  · have hu : us = [] := List.eq_nil_of_length_eq_zero h0
    subst hu
    refine ⟨some ⟨g, 0, none⟩, 0, w, ?_, U64s.nil _ _, Chg.refl _ _⟩
    rcases B with _ | ad
    · simp [Builtin.append_, run_underlying Tryd.underlying24, sizeOf, typeInfo, hi, Builtin.lenOf, Builtin.firstCells, storeCells]
    · simp [Builtin.append_, run_underlying Tryd.underlying24, sizeOf, typeInfo, hi, Builtin.lenOf, Builtin.firstCells, loadCells, loadCellsFrom, storeCells]
  · obtain ⟨bg, o, rfl, hcs⟩ := h.line (by omega)
    have hnews : ∀ (j : Nat) v, (us.map fun u : Nat => Value.int .u64 (u : Int))[j]? = some v → w.cell? ((⟨bg, o, none⟩ : Addr).add j) = some v := by
      intro j v hv
      rw [List.getElem?_map, Option.map_eq_some_iff] at hv
      obtain ⟨y, hy, rfl⟩ := hv
      have hj := (List.getElem?_eq_some_iff.1 hy).1
      rw [add_lit, hcs j hj]
      simp [List.getD_eq_getElem?_getD, hy]
    have hlen : (us.map fun u : Nat => Value.int .u64 (u : Int)).length = us.length * i0.size := by rw [hz1]; simp
    have hr := run_append_grow (P := Tryd.prog) w 24 ty 23 i0 (.int .u64 0) Tryd.underlying24 hi hz0 ⟨g, 0, none⟩ 0 0 [] (by simp) (fun j v hv => by simp at hv) ⟨bg, o, none⟩ us.length d (us.map fun u : Nat => Value.int .u64 (u : Int)) hlen hnews (by omega) (by omega)
      (growslice_fits (by omega) (by rw [hz2]; omega))
    refine ⟨_, _, _, by simpa using hr, ⟨rfl, fun j u hj => ⟨_, rfl, ?_⟩, h.range⟩, ((Chg.refl [] w).drew).alloc _⟩
    have hjl := (List.getElem?_eq_some_iff.1 hj).1
    rw [add_zero_lit]
    refine (cell_of (heap_alloc_new w.drew _) j).trans ?_
    have e := (List.getElem?_eq_some_iff.1 hj).2
    simp [Array.getElem?_append, hjl, e]
theorem wpList_appU {ops : Array Oper} {rest : List Oper} {o : Oper} {a : Act} {w : World} {Q : Exit → Act → World → Prop} (hgd : o.guard = none) (s x : Operand)
    (ho : o.op = .call { callee := .builtin .append, args := #[s, x], argTypes := #[24, 24] })
    {g : Nat} (hs : a.eval s = .slice (some ⟨g, 0, none⟩) 0 0) (hg : w.heap[g]? = some (.cells #[] 23)) {B : Option Addr} {m d : Nat} {us : List Nat} (hx : a.eval x = .slice B m d) (hr : U64s w B m us) (hlen : m ≤ 300)
    (h : ∀ A' c' w', U64s w' A' m us → Chg [] w w' → wpList Tryd.prog ops Q rest (a.put o.dst (.slice A' m c')) w') : wpList Tryd.prog ops Q (o :: rest) a w :=
  wpList_plain hgd fun _ hK => by
    obtain ⟨A', c', w', hrun, h2, h3⟩ := app_us w o.type hr (d := d) hlen g hg
    unfold Oper.wp execOp
    simp only [ho, resolve, invoke, builtin, Sem.run_bind, Sem.run_pure, Result.andThen_ok, List.map_toArray, List.map_cons, List.map_nil, hs, hx, hrun]
    exact hK _ _ (h A' c' w' h2 h3)
set_option maxRecDepth 100000 in
set_option maxHeartbeats 2000000 in
theorem sums_true (w : World) (hT : Tab w) (A : Option Addr) (n c : Nat) (xs : List UInt8) (h : Bs w A n xs) (hn : n ≤ 140737488351232) (st : Int) (h0 : 0 ≤ st) (h1 : st ≤ 18446744073709551615) (B : Option Addr) (m d : Nat) (us : List Nat) (hz : U64s w B m us) (hm : m * 8 ≤ 140737488351232) :
    Calls Tryd.prog 3 #[.slice A n c, .int .u64 st, .slice B m d] w fun r w' => r = .returned (.bool true) ∧ Chg [] w w' := by
  have HT := Lib.hid hT
  clear hT
  obtain ⟨s0, rfl⟩ : ∃ u : Nat, st = (u : Int) := ⟨st.toNat, by omega⟩
  have hs0 : s0 < 18446744073709551616 := by omega
  have HB := Lib.hid h
  have HZ := Lib.hid hz
  have HL := Lib.hid h.len
  have HLz := Lib.hid hz.len
  have HS0 := Lib.hid hs0
  clear h hz h0 h1 hs0
  go_enter Tryd.func3, Tryd.ntmps3
  refine (Decidable.em (3000 < n ∨ 300 < m)).elim (fun hp => ?big) (fun hp => ?small)
  case big =>
    by_cases h3 : 3000 < n
    · go_wp2_with (go_at_call 9; refine (awake2 _ HT.out).mono ?_; rintro r w1 ⟨rfl, c1⟩)
      go_ret
      exact ⟨rfl, c1⟩
    · have h4 : 300 < m := by omega
      clear hp
      go_wp2_with (go_at_call 9; refine (awake2 _ HT.out).mono ?_; rintro r w1 ⟨rfl, c1⟩)
      go_ret
      exact ⟨rfl, c1⟩
  case small =>
    have hp1 : n ≤ 3000 := by omega
    have hp2 : m ≤ 300 := by omega
    clear hp
    go_wp2_with (first
      | (go_at_call 10; refine (lent_any _ A n c xs HB.out (by omega)).mono ?_; rintro r w1 ⟨g, rfl, l1, g1, c1⟩; have L1 := Lib.hid l1; have G1 := Lib.hid g1; have C1 := Lib.hid c1; clear l1 g1 c1)
      | (at_builtin; refine wpList_appU rfl _ _ rfl rfl (heap_alloc_new w1 _) rfl (HZ.out.chg (C1.out.alloc _) (by simp)) (by omega) ?_; intro A2 c2 w2 u2 d2))
    have C2 := Lib.hid ((C1.out.alloc (.cells #[] 23)).trans d2)
    have L2 := Lib.hid (L1.out.chg (((Chg.refl [] w1).alloc (.cells #[] 23)).trans d2) (by simp))
    have U2 := Lib.hid u2
    have HB2 := Lib.hid (HB.out.chg C2.out (by simp))
    have HZ2 := Lib.hid (HZ.out.chg C2.out (by simp))
    have HR2 : Hid (Bs w2 (some ⟨g, 0, none⟩) n xs) := Lib.hid (by have := L2.out.reads; rwa [HL.out] at this)
    clear u2 d2
    refine (sum_any _ _ n _ xs HR2.out (by omega)).mono ?_
    rintro r w3 ⟨rfl, rfl⟩
    go_wp2_with fail
    refine (gsum_any _ _ n _ xs HB2.out (by omega)).mono ?_
    rintro r w3 ⟨rfl, rfl⟩
    generalize fnvS xs = q at *
    go_wp2_with fail
    refine (more_any _ s0 HS0.out _ n _ xs HR2.out (by omega)).mono ?_
    rintro r w3 ⟨rfl, rfl⟩
    go_wp2_with fail
    refine (gmore_any _ s0 HS0.out _ n _ xs HB2.out (by omega)).mono ?_
    rintro r w3 ⟨rfl, rfl⟩
    generalize fnv s0 xs = q2 at *
    go_wp2_with fail
    refine (start_any _).mono ?_
    rintro r w3 ⟨rfl, rfl⟩
    go_wp2_with fail
    refine (gstart_any _).mono ?_
    rintro r w3 ⟨rfl, rfl⟩
    go_wp2_with fail
    refine (mix_any _ A2 m c2 us U2.out (by omega)).mono ?_
    rintro r w3 ⟨rfl, d3⟩
    have D3 := Lib.hid (Chg.of_below d3)
    clear d3
    go_wp2_with fail
    refine (pmix_any _ B m d us (HZ2.out.chg D3.out (by simp)) hp2).mono ?_
    rintro r w4 ⟨rfl, d4⟩
    have D4 := Lib.hid (D3.out.trans d4)
    have C4 := Lib.hid (C2.out.trans D4.out)
    have U4 := Lib.hid (U2.out.chg D4.out (by simp))
    have Z4 := Lib.hid (HZ2.out.chg D4.out (by simp))
    have L4 := Lib.hid (L2.out.chg D4.out (by simp))
    have B4 := Lib.hid (HB2.out.chg D4.out (by simp))
    clear d4 U2 HZ2 L2 HB2 HR2 D3 D4 C2 C1 L1 G1
    generalize fnvS (mixB us) = q3 at *
    go_wp2_with fail
    go_loopw [9, 10] (fun v i wr => ∃ k : Nat, k ≤ m ∧ i = .int .i64 k ∧ v = .bool true ∧ Chg [] w4 wr) (fun _ i _ => m - (intOf i).toNat)
    case atStart => exact ⟨0, by omega, rfl, rfl, Chg.refl _ _⟩
    case round =>
      obtain ⟨k, hk, rfl, rfl, hch⟩ := hrel
      have C5 := Lib.hid hch
      refine (Decidable.em (k < m)).elim (fun h2 => ?more) (fun h2 => ?done)
      case more =>
        obtain ⟨g5, o5, rfl, hu⟩ := (U4.out.chg C5.out (by simp)).line (by omega)
        obtain ⟨g6, o6, rfl, hv⟩ := (Z4.out.chg C5.out (by simp)).line (by omega)
        have k1 := hu k h2
        have k2 := hv k h2
        clear hu hv hch
        generalize us.getD k 0 = x at *
        have e1 : ((x : Int) == (x : Int)) = true := by simp
        go_wp2
        go_region_held3 (fun w' => w'.cell? ⟨g5, o5 + k, none⟩ = some (.int .u64 (x : Int)) ∧ w'.cell? ⟨g6, o6 + k, none⟩ = some (.int .u64 (x : Int))) (first | exact ⟨k1, k2⟩ | go_keep) (fail)
        go_wp2
        exact ⟨⟨k + 1, by omega, rfl, rfl, C5.out.drew⟩, by simp [intOf]; omega⟩
      case done =>
        clear hch
        have HB5 := Lib.hid (B4.out.chg C5.out (by simp))
        have HL5 := Lib.hid (L4.out.chg C5.out (by simp))
        go_wp2_with fail
        refine (kept_any _ g A n c xs HL5.out HB5.out (by omega)).mono ?_
        rintro r w6 ⟨rfl, d6⟩
        have C6 := Lib.hid ((C4.out.trans C5.out).trans d6)
        clear d6
        go_wp2_with fail
        refine (awake2 _ (HT.out.chg C6.out)).mono ?_
        rintro r w7 ⟨rfl, d7⟩
        go_wp2
        go_ret
        exact ⟨rfl, C6.out.trans d7⟩
end Go.Proofs.YtphchggabcbfkaaDoor
