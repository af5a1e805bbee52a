/- OverTexts; LentTexts, KeptTexts: a row with three texts more behind it. -/
import Derived.Test.YtibdeiahmgkbhaaDoorPhsplit
import Derived.Test.YtibdeiahmgkbhaaDoorQhcut
import Derived.Test.YtibdeiahmgkbhaaDoorQhjoin
import Derived.Deep.Cut
import Derived.Deep.CutRange
namespace Go.Proofs.YtibdeiahmgkbhaaDoor
open Go.RowKit
set_option linter.unusedSimpArgs false
set_option linter.unusedVariables false
theorem over_set (cur : List (List UInt8)) (k : Nat) : ((cur.map tv).toArray).setIfInBounds k (.string ⟨#[111, 118, 101, 114]⟩) = (((cur.set k [111, 118, 101, 114]).map tv).toArray) := by
  simp only [List.setIfInBounds_toArray, List.map_set]
  rfl
set_option maxHeartbeats 1000000 in
theorem overtexts_row (w : World) (g n c : Nat) (full : List (List UInt8)) (hg : w.heap[g]? = some (.cells (full.map tv).toArray 9 (0, 0))) (hl : full.length = c) (hn : n ≤ c) (hc : c ≤ 9223372036854775807) :
    Calls Tryd.prog 24 #[.slice (some ⟨g, 0, none⟩) n c] w fun e w' => e = .returned (.tuple #[]) ∧ Chg [g] w w' := by
  have HG := Lib.hid hg
  clear hg
  have i1 : (0 : Int) ≤ (c : Int) := by omega
  have hcc : (n : Int) ≤ (c : Int) := by omega
  go_enter Tryd.func24, Tryd.ntmps24
  go_wp2
  go_loopw [3] (fun i wr => ∃ (k : Nat) (cur : List (List UInt8)), k ≤ c ∧ i = .int .i64 k ∧ Hid (cur.length = c ∧ wr.heap[g]? = some (.cells (cur.map tv).toArray 9 (0, 0)) ∧ Chg [g] w wr)) (fun i _ => c - (RowKit.intOf i).toNat)
  case atStart => exact ⟨0, full, Nat.zero_le _, rfl, hl, HG.out, Chg.refl _ _⟩
  case round =>
    obtain ⟨k, cur, hk, rfl, HI⟩ := hrel
    by_cases hlt : k < c
    · have hcl : k < cur.length := by have := HI.out.1; omega
      have z : ∃ u, wr.cell? ⟨g, k, none⟩ = some u := ⟨tv cur[k], by rw [cell_of HI.out.2.1]; simp [hcl]⟩
      obtain ⟨u, z⟩ := z
      have f0 := free_of HI.out.2.1 k
      have i2 : (0 : Int) ≤ (k : Int) := by omega
      have i3 : (k : Int) < (c : Int) := by omega
      have hput := heap_setCell_same wr g k _ _ (.string ⟨#[111, 118, 101, 114]⟩) HI.out.2.1
      rw [over_set] at hput
      have hch := HI.out.2.2.trans ((Chg.refl [g] wr).setCell (p := ⟨g, k, none⟩) (.inl (by simp)) (.string ⟨#[111, 118, 101, 114]⟩))
      have HP := Lib.hid (And.intro hput hch)
      clear hput hch
      go_wp2
      refine ⟨⟨k + 1, cur.set k [111, 118, 101, 114], by omega, by simp, by rw [List.length_set]; exact HI.out.1, by have := HP.out.1; simpa using this, HP.out.2⟩, by simp [RowKit.intOf]; omega⟩
    · obtain rfl : k = c := by omega
      go_wp2
      go_end0
      exact ⟨rfl, HI.out.2.2⟩
set_option maxHeartbeats 1000000 in
theorem overtexts_own (w : World) (A : Option Addr) (n c : Nat) (xs : List (List UInt8)) (h : OwnK textTy w A c xs) (hn : n = xs.length) :
    Calls Tryd.prog 24 #[.slice A n c] w fun e w' => e = .returned (.tuple #[]) ∧ ∀ S : List Nat, (∀ a, A = some a → a.block ∈ S) → Chg S w w' := by
  subst hn
  rcases h with ⟨rfl, rfl, rfl⟩ | ⟨g, full, rfl, hg, hl, hm, hn, _⟩
  · go_enter Tryd.func24, Tryd.ntmps24
    go_wp2
    refine wp_loop_rounds 1 ?_
    rw [rounds_succ]
    go_wp2
    go_end0
    exact ⟨rfl, fun S _ => Chg.refl _ _⟩
  · unfold maxLen at hm
    rw [flat_text] at hg
    exact (overtexts_row w g _ c full hg hl hn (by omega)).mono fun e w' ⟨h1, h2⟩ => ⟨h1, fun S hS => h2.mono (fun i hi => by simp at hi; subst hi; exact .inl (hS _ rfl))⟩
def xyz : List (List UInt8) := [[120], [121], [122]]
theorem lent_cap {w : World} {A : Option Addr} {c : Nat} {xs : List (List UInt8)} (h : OwnK textTy w A c ([] ++ xs ++ xyz)) : xs.length + 3 ≤ c ∧ ∃ g, A = some ⟨g, 0, none⟩ := by
  refine ⟨by have := h.cap.1; simpa [xyz] using this, ?_⟩
  rcases h.shape with ⟨_, e, _⟩ | ⟨g, e, _⟩
  · simp [xyz] at e
  · exact ⟨g, e⟩
set_option maxRecDepth 100000 in
set_option maxHeartbeats 2000000 in
theorem lent_any (w : World) (A : Option Addr) (c : Nat) (xs : List (List UInt8)) (h : RdK textTy w A xs.length xs) (hn : xs.length ≤ 1000000) :
    Calls Tryd.prog 12 #[.slice A xs.length c] w fun e w' => ∃ g, e = .returned (.slice (some ⟨g, 0, none⟩) xs.length (xs.length + 3)) ∧ w.heap.size ≤ g ∧ RdK textTy w' (some ⟨g, 0, none⟩) (xs.length + 3) (xs ++ xyz) ∧ Chg [] w w' := by
  obtain ⟨w1, hw1, c1, b1⟩ := news1 w (.cells #[] 9)
  have W1 := Lib.hid hw1
  have O1 := Lib.hid (OwnK.of (R := textTy) (c := 0) (full := []) (xs := []) b1 (Nat.le_refl _) (by decide) rfl rfl)
  have H1 := Lib.hid (h.chg c1 (by simp))
  have C1 := Lib.hid c1
  have N1 := Lib.hid (show (0 + xs.length) * 400 ≤ 140737488355327 by omega)
  have N3 := Lib.hid (show (xs.length + 3) * 400 ≤ 140737488355327 by omega)
  clear hw1 c1 b1 h
  go_enter Tryd.func12, Tryd.ntmps12
  go_upto_region 2 with (first | (at_builtin; rw [← W1.out]; refine wpList_appK (R := textTy) rfl _ _ rfl rfl O1.out rfl rfl H1.out N1.out ?_; intro A2 c2 w2 u2 d2 e2; have U2 := Lib.hid u2; have AO := Lib.hid (own_app (w := w) (B := some ⟨w.heap.size, 0, none⟩) (by rintro a h; cases h; exact Nat.le_refl _) C1.out d2 e2); clear u2 d2 e2; obtain ⟨w3, hw3, c3, b3⟩ := news1 w2 (.cells #[.string ⟨#[120]⟩, .string ⟨#[121]⟩, .string ⟨#[122]⟩] 9); have W3 := Lib.hid hw3; have R3 := Lib.hid (show RdK textTy w3 (some ⟨w2.heap.size, 0, none⟩) 3 xyz from (OwnK.of (R := textTy) (c := 3) (full := xyz) (xs := xyz) b3 (Nat.le_refl _) (by decide) rfl rfl).reads); have O3 := Lib.hid (U2.out.chg c3 (by simp)); have C3 := Lib.hid (AO.out.2.trans c3); clear hw3 c3 b3) | (at_builtin; rw [← W3.out]; (refine wpList_appK (R := textTy) rfl _ _ rfl rfl O3.out rfl rfl R3.out N3.out ?_); intro A3 c4 w4 u4 d4 e4; have U4 := Lib.hid u4; have AO4 := Lib.hid (own_app (w := w) AO.out.1 C3.out d4 e4); clear u4 d4 e4))
  obtain ⟨i3, g, hg⟩ := lent_cap U4.out
  subst hg
  have i1 : (xs.length : Int) + 3 ≤ (c4 : Int) := by omega
  have i4 : (0 : Int) ≤ (xs.length : Int) := by omega
  have i5 : (0 : Int) ≤ (xs.length : Int) + 3 := by omega
  have i6 : (xs.length : Int) ≤ (xs.length : Int) + 3 := by omega
  have i7 : ((xs.length : Int) + 3).toNat = xs.length + 3 := by omega
  have i8 : IntKind.i64.wrap ((xs.length : Int) + 3) = (xs.length : Int) + 3 := IntWalk.i64_in _ (by omega)
  go_wp2
  go_ret
  have hr := U4.out.reads
  rw [List.nil_append] at hr
  exact ⟨g, by simp, AO4.out.1 _ rfl, by simpa [xyz] using hr, AO4.out.2⟩
set_option maxRecDepth 100000 in
set_option maxHeartbeats 2000000 in
theorem kept_any (w : World) (g c : Nat) (A : Option Addr) (xs : List (List UInt8)) (hB : RdK textTy w (some ⟨g, 0, none⟩) (xs.length + 3) (xs ++ xyz)) (h : RdK textTy w A xs.length xs) (hn : xs.length ≤ 1000000) :
    Calls Tryd.prog 25 #[.slice (some ⟨g, 0, none⟩) xs.length (xs.length + 3), .slice A xs.length c] w fun e w' => e = .returned (.bool true) ∧ Chg [] w w' := by
  have hp := hB.part 0 xs.length (by omega)
  rw [Nat.zero_mul, Nat.zero_add, List.drop_zero, List.take_left] at hp
  have hxx : (xs == xs) = true := by simp
  have S1 := Lib.hid (hxx ▸ sametexts_any w (some ⟨g, 0, none⟩) A (xs.length + 3) c xs xs hp h (by omega) (by omega))
  have HB := Lib.hid hB
  clear hp hxx hB h
  have i1 : (0 : Int) ≤ (xs.length : Int) := by omega
  have i2 : (xs.length : Int) ≤ (xs.length : Int) + 3 := by omega
  have i3 : IntKind.i64.wrap ((xs.length : Int) + 3) = (xs.length : Int) + 3 := IntWalk.i64_in _ (by omega)
  have i4 : (0 : Int) ≤ (xs.length : Int) + 3 := by omega
  have i5 : ((xs.length : Int) + 3).toNat = xs.length + 3 := by omega
  have i6 : ¬ xs.length + 3 = xs.length := by omega
  go_enter Tryd.func25, Tryd.ntmps25
  go_wp2_with fail
  refine S1.out.mono ?_
  rintro e w1 ⟨rfl, h1⟩
  have K1 := Lib.hid h1
  obtain ⟨w2, hw2, c2, b2⟩ := news1 w1 (.cells #[.string ⟨#[120]⟩, .string ⟨#[121]⟩, .string ⟨#[122]⟩] 9)
  have W2 := Lib.hid hw2
  have R2 := Lib.hid (show RdK textTy w2 (some ⟨w1.heap.size, 0, none⟩) 3 xyz from (OwnK.of (R := textTy) (c := 3) (full := xyz) (xs := xyz) b2 (Nat.le_refl _) (by decide) rfl rfl).reads)
  have K2 := Lib.hid (K1.out.trans c2)
  have hq := (HB.out.chg K2.out (by simp)).part xs.length 3 (by omega)
  rw [List.drop_left, show xyz.take 3 = xyz from rfl, show textTy.k = 1 from rfl, Nat.mul_one, Nat.zero_add] at hq
  have Q2 := Lib.hid hq
  clear h1 hw2 c2 b2 hq
  go_wp2_with fail
  rw [← W2.out]
  refine (sametexts_any w2 (some ⟨g, xs.length, none⟩) (some ⟨w1.heap.size, 0, none⟩) _ _ xyz xyz Q2.out R2.out (by decide) (by decide)).mono ?_
  rw [show (xyz == xyz) = true from rfl]
  rintro e w3 ⟨rfl, h3⟩
  have K3 := Lib.hid (K2.out.trans h3)
  clear h3
  go_wp2
  go_ret
  exact ⟨rfl, K3.out⟩
end Go.Proofs.YtibdeiahmgkbhaaDoor
