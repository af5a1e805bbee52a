/- PathSorts, walked. -/
import Derived.Test.YtibdeiahmgkbhaaDoorQhsort
import Derived.Test.YtibdeiahmgkbhaaDoorPhlent
import Derived.Test.YtibdeiahmgkbhaaDoorPhlong
import Derived.Test.YtibdeiahmgkbhaaDoorPathAwake
import Derived.Test.YtibdeiahmgkbhaaDoorQhjoin
namespace Go.Proofs.YtibdeiahmgkbhaaDoor
open Go.RowKit Go.Lib
set_option linter.unusedSimpArgs false
set_option linter.unusedVariables false



theorem unc_short {xs : List (List UInt8)} (h : longT xs = false) : (unc xs).length ≤ 10000 ∧ xs.length ≤ 30 ∧ ∀ x ∈ xs, x.length ≤ 10000000 := by
  unfold longT at h
  rw [Bool.or_eq_false_iff] at h
  have h1 : xs.length ≤ 30 := by have := h.2; simp at this; omega
  have h2 : ∀ x ∈ xs, x.length ≤ 200 := fun x hx => by
    have := List.any_eq_false.1 h.1 x hx
    simp at this
    omega
  have h3 := unc_len 200 xs h2
  have h4 : xs.length * (200 + 1) ≤ 30 * (200 + 1) := Nat.mul_le_mul_right _ h1
  exact ⟨by omega, h1, fun x hx => by have := h2 x hx; omega⟩

theorem has_yes (w : World) (A : Option Addr) (c : Nat) (xs : List (List UInt8)) (x : List UInt8) (h : RdK textTy w A xs.length xs) (hn : xs.length ≤ 1000000) (hm : x ∈ xs) :
    Calls Tryd.prog 34 #[.slice A xs.length c, .string (strOf x)] w fun e w' => e = .returned (.bool true) ∧ w' = w := by
  have HA := Lib.hid h
  have HM := Lib.hid hm
  clear h hm
  go_enter Tryd.func34, Tryd.ntmps34
  go_wp2
  go_loopw [5] (fun v5 wr => ∃ k : Nat, k ≤ xs.length ∧ v5 = .int .i64 (k : Int) ∧ Hid (x ∉ xs.take k) ∧ wr = w) (fun v5 _ => xs.length - (RowKit.intOf v5).toNat)
  case atStart => exact ⟨0, Nat.zero_le _, rfl, Lib.hid (by simp), rfl⟩
  case round =>
    obtain ⟨k, hk, rfl, HC, rfl⟩ := hrel
    have k1 : IntKind.i64.wrap ((k : Int) + 1) = (k : Int) + 1 := IntWalk.i64_in _ (by omega)
    have i0 : (0 : Int) ≤ (k : Int) := by omega
    by_cases hlt : k < xs.length
    · have i1 : (k : Int) < (xs.length : Int) := by omega
      obtain ⟨g, o, eA, _⟩ := HA.out.line (by omega)
      subst eA
      have ex := List.getElem?_eq_getElem hlt
      have z := textCells HA.out ex
      have HT := Lib.hid (List.take_succ_eq_append_getElem hlt)
      generalize xs[k] = y at *
      clear ex
      by_cases hxy : y = x
      · subst hxy
        have hq : (y == y) = true := by simp
        go_wp2
        go_ret
        exact ⟨rfl, rfl⟩
      · have hse := str_ne hxy
        have hq : (y == x) = false := by simpa using hxy
        have HN := Lib.hid hxy
        clear hxy
        go_wp2
        exact ⟨⟨k + 1, by omega, by simp, Lib.hid (by rw [HT.out, List.mem_append]; rintro (h | h); exact HC.out h; exact HN.out (List.mem_singleton.1 h).symm), trivial⟩, by simp [RowKit.intOf]; omega⟩
    · obtain rfl : k = xs.length := by omega
      have := HC.out
      rw [List.take_length] at this
      exact absurd HM.out this
theorem sort_same (xs : List (List UInt8)) : sortT (sortT xs) = sortT xs :=
  rise_ext ordL (insAllT_props ordL _).1 (insAllT_props ordL _).1 fun x => (insAllT_props ordL (sortT xs)).2.1 x
theorem sort_less {xs : List (List UInt8)} {k : Nat} {x y : List UInt8} (h0 : 0 < k) (hx : (sortT xs)[k - 1]? = some x) (hy : (sortT xs)[k]? = some y) : lessL x y = true := by
  have h := (insAllT_props ordL xs).1
  obtain ⟨h1, e1⟩ := List.getElem?_eq_some_iff.1 hx
  obtain ⟨h2, e2⟩ := List.getElem?_eq_some_iff.1 hy
  have := List.pairwise_iff_getElem.1 h (k - 1) k h1 h2 (by omega)
  rw [← e1, ← e2]
  exact this
set_option maxRecDepth 100000 in
set_option maxHeartbeats 4000000 in
theorem pathsorts_walk (w : World) (A : Option Addr) (c : Nat) (xs : List (List UInt8)) (h : RdK textTy w A xs.length xs) (hn : xs.length ≤ 140737488351232) :
    Calls Tryd.prog 5 #[.slice A xs.length c] w fun e w' => e = .returned (.bool true) ∧ Chg [] w w' := by
  have AW := Lib.hid (fun W => pathAwake_run W)
  have HX := Lib.hid h
  cases hl : longT xs with
  | true =>
    have LG := Lib.hid (hl ▸ long_any w A c xs h hn)
    clear hl h
    go_enter Tryd.func5, Tryd.ntmps5
    go_wp2_with fail
    refine LG.out.mono ?_
    rintro e w1 ⟨rfl, rfl⟩
    go_wp2_with fail
    refine (AW.out _).mono ?_
    rintro e w2 ⟨rfl, h2⟩
    have K2 := Lib.hid h2
    clear h2
    go_wp2
    go_ret
    exact ⟨rfl, K2.out⟩
  | false =>
    have LG := Lib.hid (hl ▸ long_any w A c xs h hn)
    obtain ⟨u1, u2, u3⟩ := unc_short hl
    have LN := Lib.hid (lent_any w A c xs h (by omega))
    have PS := Lib.hid (fun w B h => phsort_any w B (xs.length + 3) xs h (by omega) u3)
    have QS := Lib.hid (fun w h => qhsort_any w A c xs h (by omega) u3)
    have KP := Lib.hid (fun w g hB h => kept_any w g c A xs hB h (by omega))
    have SL : (sortT xs).length ≤ 30 := by have := (insAllT_props ordL xs).2.2; unfold sortT; omega
    rw [show insAllT lessL xs = sortT xs from rfl] at QS
    generalize sortT xs = ys at *
    clear hl h u1 u3
    go_enter Tryd.func5, Tryd.ntmps5
    go_wp2_with fail
    refine LG.out.mono ?_
    rintro e w1 ⟨rfl, rfl⟩
    go_wp2_with fail
    refine LN.out.mono ?_
    rintro e w2 ⟨g, rfl, hg, hB, h2⟩
    have hgl : g < w2.heap.size := by obtain ⟨g2, o2, e2, hlt⟩ := hB.line (by omega); cases e2; exact hlt
    have K2 := Lib.hid h2
    have B2 := Lib.hid hB
    have hp2 := hB.part 0 xs.length (by omega)
    rw [Nat.zero_mul, Nat.zero_add, List.drop_zero, List.take_left] at hp2
    have P2 := Lib.hid hp2
    clear h2 hB hp2 hg
    go_wp2_with fail
    refine (PS.out _ _ P2.out).mono ?_
    rintro e w3 ⟨A3, c3, rfl, o3, n3, h3⟩
    have K3 := Lib.hid h3
    have O3 := Lib.hid o3
    have N3 := Lib.hid n3
    have X3 := Lib.hid (HX.out.chg (K2.out.trans h3) (by simp))
    clear o3 n3 h3
    go_wp2_with fail
    refine (QS.out _ X3.out).mono ?_
    rintro e w4 ⟨A4, c4, rfl, o4, n4, h4⟩
    have K4 := Lib.hid (K3.out.trans h4)
    have O4 := Lib.hid o4
    have R3 := Lib.hid (O3.out.reads.chg h4 (by simp))
    have OO := Lib.hid (O3.out.chg h4 (by simp))
    clear o4 n4 h4
    go_wp2_with fail
    refine (sametexts_any _ _ _ _ _ ys ys R3.out O4.out.reads (by omega) (by omega)).mono ?_
    rw [show (ys == ys) = true by simp]
    rintro e w5 ⟨rfl, h5⟩
    have K5 := Lib.hid (K4.out.trans h5)
    have O5 := Lib.hid (OO.out.chg h5 (by simp))
    clear h5
    go_wp2_with fail
    refine (overtexts_own _ _ _ _ ys O5.out rfl).mono ?_
    rintro e w6 ⟨rfl, h6⟩
    have h7 := h6 (blkOf A3) (fun a ha => mem_blkOf ha)
    have K6 := Lib.hid ((K2.out.trans K5.out).trans' h7 (fun i hi => .inr (Nat.le_trans K2.out.size (blkOf_new N3.out i hi))))
    have B6 := Lib.hid ((B2.out.chg K5.out (by simp)).chg h7 (by rintro a ha; cases ha; intro hm; have := blkOf_new N3.out _ hm; simp at this; omega))
    have X6 := Lib.hid (HX.out.chg K6.out (by simp))
    clear h6 h7
    go_wp2_with fail
    refine (KP.out _ _ B6.out X6.out).mono ?_
    rintro e w8 ⟨rfl, h8⟩
    have K8 := Lib.hid (K6.out.trans h8)
    clear h8
    go_wp2_with fail
    refine (AW.out _).mono ?_
    rintro e w9 ⟨rfl, h9⟩
    have K9 := Lib.hid (K8.out.trans h9)
    clear h9
    go_wp2
    go_ret
    exact ⟨rfl, K9.out⟩
theorem pathsorts_yes (w : World) (A : Option Addr) (n c : Nat) (xs : List (List UInt8)) (h : RdK textTy w A n xs) (hn : n * 16 ≤ 140737488351232) :
    Calls Tryd.prog 5 #[.slice A n c] w fun e w' => e = .returned (.bool true) ∧ Chg [] w w' := by
  have hl := h.len
  subst hl
  exact pathsorts_walk w A c xs h (by omega)
end Go.Proofs.YtibdeiahmgkbhaaDoor
