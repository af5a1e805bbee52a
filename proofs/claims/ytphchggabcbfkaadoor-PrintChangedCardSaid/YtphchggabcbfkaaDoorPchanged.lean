/- PrintChanged: one byte changed changes the fingerprint. -/
import Derived.Test.YtphchggabcbfkaaDoorPawk
import Derived.Test.YtphchggabcbfkaaDoorFmath
namespace Go.Proofs.YtphchggabcbfkaaDoor
open Go.RowKit
set_option linter.unusedSimpArgs false
set_option linter.unusedVariables false

theorem OwnB.store {w : World} {A : Option Addr} {c : Nat} {xs : List UInt8} (h : OwnB w A c xs) {k : Nat} (hk : k < xs.length) : ∃ g, A = some ⟨g, 0, none⟩ ∧ w.cell? ⟨g, k, none⟩ = some (.int .u8 ((xs.getD k 0).toNat : Int)) ∧ w.frozen? ⟨g, k, none⟩ = false ∧
    ∀ v : UInt8, OwnB (w.setCell ⟨g, k, none⟩ (.int .u8 (v.toNat : Int))) A c (xs.set k v) := by
  rcases h with ⟨_, rfl, _⟩ | ⟨g, full, rfl, hg, hl, hc, hx, ht⟩
  · simp at hk
  · have hk' : k < full.length := by omega
    refine ⟨g, rfl, ?_, free_of hg k, fun v => .inr ⟨g, full.set k v, rfl, row_put w g k v full _ hg, by simpa using hl, hc, by simpa using hx, ?_⟩⟩
    · rw [cell_of hg k]
      have : xs.getD k 0 = full[k] := by
        rw [← ht]
        simp [List.getD_eq_getElem?_getD, List.getElem?_take, hk, hk']
      rw [this]
      simp [hk', bv]
    · rw [List.length_set, List.take_set]
      rw [ht]
/-- One byte turned: the fingerprint is the same just where nothing has turned. -/
theorem fnv_turned (xs : List UInt8) (k : Nat) (hk : k < xs.length) (y : UInt8) : (fnvS xs = fnvS (xs.set k (xs.getD k 0 ^^^ y))) ↔ y = 0 := by
  have hm := set_mid xs k hk
  have hx : xs = xs.take k ++ xs.getD k 0 :: xs.drop (k + 1) := by
    rw [← hm]
    apply List.ext_getElem?
    intro i
    by_cases h : i = k
    · subst h; simp [hk, List.getD_eq_getElem?_getD]
    · rw [List.getElem?_set_ne (Ne.symm h)]
  constructor
  · intro e
    rw [hm] at e
    have e' : fnvS (xs.take k ++ xs.getD k 0 :: xs.drop (k + 1)) = fnvS (xs.take k ++ (xs.getD k 0 ^^^ y) :: xs.drop (k + 1)) := by rw [← hx]; exact e
    have e2 := fnvS_mid _ _ _ _ e'
    have e3 : (xs.getD k 0) ^^^ 0 = (xs.getD k 0) ^^^ y := by rw [← e2]; simp
    have e4 := congrArg UInt8.toNat e3
    simp only [UInt8.toNat_xor] at e4
    have e5 := xor_l e4
    exact (UInt8.toNat_inj.1 e5).symm
  · rintro rfl
    have : xs.getD k 0 ^^^ 0 = xs.getD k 0 := by simp
    rw [this, hm, ← hx]
set_option maxRecDepth 100000 in
set_option maxHeartbeats 1000000 in
theorem changed_true (w : World) (hT : Tab w) (A : Option Addr) (n c : Nat) (xs : List UInt8) (h : Bs w A n xs) (hn : n ≤ 140737488351232) (i : Int) (x : Int) (h0 : 0 ≤ x) (h1 : x < 256) :
    Calls Tryd.prog 7 #[.slice A n c, .int .i64 i, .int .u8 x] w fun r w' => r = .returned (.bool true) ∧ Chg [] w w' := by
  have HT := Lib.hid hT
  clear hT
  obtain ⟨y, rfl⟩ : ∃ y : UInt8, x = (y.toNat : Int) := ⟨UInt8.ofNat x.toNat, by rw [UInt8.toNat_ofNat']; omega⟩
  go_enter Tryd.func7, Tryd.ntmps7
  go_wp2_with fail
  refine (awake2 _ HT.out).mono ?_
  rintro r w1 ⟨rfl, c1⟩
  have b1 := h.chg c1 (by simp)
  have HB := Lib.hid b1
  have HC := Lib.hid c1
  have HL := Lib.hid h.len
  clear c1 b1
  refine (Decidable.em (3000 < n ∨ n = 0)).elim (fun hp => ?big) (fun hp => ?small)
  case big =>
    rcases hp with hp | rfl
    · go_wp2
      go_ret
      exact ⟨rfl, HC.out⟩
    · go_wp2
      go_ret
      exact ⟨rfl, HC.out⟩
  case small =>
    have hp1 : n ≤ 3000 := by omega
    have hp2 : 1 ≤ n := by omega
    have hp3 : ((n : Int) == 0) = false := by simp; omega
    clear hp
    go_wp2_with fail
    refine (copy_any _ A n c xs HB.out hn).mono ?_
    rintro r w2 ⟨B, d, rfl, f1, f2, f3⟩
    have HF := Lib.hid f1
    have HC2 := Lib.hid (HC.out.trans f3)
    have HB2 := Lib.hid (HB.out.chg f3 (by simp))
    have HN := Lib.hid f2
    have hsz := f3.size
    have hsz1 := HC.out.size
    clear f1 f2 f3
    go_wp2_with fail
    refine (pick_any _ i n (by omega) (by omega)).mono ?_
    rintro r w3 ⟨rfl, rfl⟩
    obtain ⟨k, hk⟩ : ∃ k : Nat, (i % (n : Int)) = (k : Int) := ⟨(i % (n : Int)).toNat, by have := Int.emod_nonneg i (show (n : Int) ≠ 0 by omega); omega⟩
    have hkn : k < n := by have := Int.emod_lt_of_pos i (show 0 < (n : Int) by omega); omega
    rw [hk]
    obtain ⟨g, rfl, hc3, hf3, hset⟩ := HF.out.store (k := k) (by rw [HL.out]; exact hkn)
    have hgw : w.heap.size ≤ g := by have := HN.out _ rfl; simp at this; omega
    have ht := fnv_turned xs k (by rw [HL.out]; exact hkn) y
    obtain ⟨z, hz⟩ : ∃ z, xs.getD k 0 = z := ⟨_, rfl⟩
    rw [hz] at hc3 ht
    have hxor := u8_xor z.toNat y.toNat (by omega) (by have := z.toNat_lt; omega) (by omega) (by have := y.toNat_lt; omega)
    obtain ⟨v, hv⟩ : ∃ v, z ^^^ y = v := ⟨_, rfl⟩
    have hxor2 : bits .xor .u8 (z.toNat : Int) (y.toNat : Int) = (v.toNat : Int) := by rw [hxor, ← hv]; simp
    rw [hv] at ht
    have HS := Lib.hid (hset v)
    have HTu := Lib.hid ht
    have HC3 := Lib.hid (HC2.out.put hgw k (.int .u8 (v.toNat : Int)))
    have hB3 : Bs (w2.setCell ⟨g, k, none⟩ (.int .u8 (v.toNat : Int))) A n xs := by
      refine HB2.out.chg ((Chg.refl [g] w2).put' k _) ?_
      intro a ha hm
      rcases h.old with e | e
      · have := HL.out; rw [e] at this; simp at this; omega
      · have := e a ha; simp at hm; omega
    have HB3 := Lib.hid hB3
    have hB4 : Bs (w2.setCell ⟨g, k, none⟩ (.int .u8 (v.toNat : Int))) (some ⟨g, 0, none⟩) n (xs.set k v) := by
      have := HS.out.reads
      rwa [List.length_set, HL.out] at this
    have HB4 := Lib.hid hB4
    clear hset hxor ht hk hB3 hB4 hz hv
    go_wp2_with fail
    refine (sum_any _ A n c xs HB3.out (by omega)).mono ?_
    rintro r w4 ⟨rfl, rfl⟩
    go_wp2_with fail
    refine (sum_any _ _ n d _ HB4.out (by omega)).mono ?_
    rintro r w4 ⟨rfl, rfl⟩
    generalize fnvS xs = p1 at *
    generalize fnvS (xs.set k v) = p2 at *
    refine (Decidable.em (y = 0)).elim (fun hy => ?same) (fun hy => ?turned)
    case same =>
      obtain rfl : p1 = p2 := HTu.out.2 hy
      subst hy
      have e1 : ((p1 : Int) == (p1 : Int)) = true := by simp
      go_wp2
      go_ret
      exact ⟨rfl, HC3.out⟩
    case turned =>
      have e1 : ((p1 : Int) == (p2 : Int)) = false := by
        simp only [beq_eq_false_iff_ne, ne_eq, Int.natCast_inj]
        exact fun e => hy (HTu.out.1 e)
      have e2 : ((y.toNat : Int) == 0) = false := by
        simp only [beq_eq_false_iff_ne, ne_eq]
        intro e
        apply hy
        apply UInt8.toNat_inj.1
        simp
        omega
      go_wp2
      go_ret
      exact ⟨rfl, HC3.out⟩
end Go.Proofs.YtphchggabcbfkaaDoor
