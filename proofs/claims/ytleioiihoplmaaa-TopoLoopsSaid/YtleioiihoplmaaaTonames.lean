/- Topologies: closures that look for a number; names. -/
import Derived.Test.YtleioiihoplmaaaTocheck
namespace Go.Proofs.Ytleioiihoplmaaa
open Go.RowKit
set_option linter.unusedSimpArgs false
set_option linter.unusedVariables false



set_option maxHeartbeats 1000000 in
theorem indexfunc_names (w : World) (B : Option Addr) (d b : Nat) (xs : List Int) (p : Int → Bool) (h : RdK intTy w B xs.length xs) (hn : xs.length ≤ 140737488351232)
    (hq : ∀ x ∈ xs, Calls Try.prog 43 #[.int .i64 x, .pointer (some ⟨b, 0, none⟩)] w fun e w' => e = .returned (.bool (p x)) ∧ w = w') :
    Calls Try.prog 47 #[.slice B xs.length d, .func (.func 43) #[] #[.pointer (some ⟨b, 0, none⟩)]] w fun e w' => (∃ k : Int, e = .returned (.int .i64 k) ∧ (0 ≤ k ↔ xs.any p = true)) ∧ w' = w := by
  have HA := Lib.hid h
  have HQ := Lib.hid hq
  clear h hq
  go_enter Try.func47, Try.ntmps47
  go_wp2
  go_loopw [8, 5] (fun v8 v5 wr => ∃ k : Nat, k ≤ xs.length ∧ v8 = .int .i64 (k : Int) ∧ Hid ((xs.take k).any p = false) ∧ wr = w) (fun v8 _ _ => xs.length - (RowKit.intOf v8).toNat)
  case atStart => exact ⟨0, Nat.zero_le _, rfl, Lib.hid rfl, rfl⟩
  case round =>
    obtain ⟨k, hk, rfl, HC, rfl⟩ := hrel
    have k1 : IntKind.i64.wrap ((k : Int) + 1) = (k : Int) + 1 := IntWalk.i64_in _ (by omega)
    have i0 : (0 : Int) ≤ (k : Int) := by omega
    by_cases hlt : k < xs.length
    · have i1 : (k : Int) < (xs.length : Int) := by omega
      obtain ⟨g, o, eA, _⟩ := HA.out.line (by omega)
      subst eA
      have ex := List.getElem?_eq_getElem hlt
      have z := intCells HA.out ex
      have HT := Lib.hid (List.take_succ_eq_append_getElem hlt)
      have HM := Lib.hid (List.getElem_mem hlt)
      generalize xs[k] = y at *
      clear ex
      obtain ⟨b1, hb⟩ : ∃ b1, p y = b1 := ⟨_, rfl⟩
      have CL := Lib.hid (hb ▸ HQ.out y HM.out)
      have HB := Lib.hid hb
      clear hb
      cases b1 with
      | true =>
        go_wp2_with fail
        refine CL.out.mono ?_
        rintro e w2 ⟨rfl, rfl⟩
        go_wp2
        go_ret
        exact ⟨⟨_, rfl, by simp [List.any_eq_true]; exact ⟨y, HM.out, HB.out⟩⟩, rfl⟩
      | false =>
        go_wp2_with fail
        refine CL.out.mono ?_
        rintro e w2 ⟨rfl, rfl⟩
        go_wp2
        exact ⟨⟨k + 1, by omega, by simp, Lib.hid (by rw [HT.out, List.any_append, HC.out]; simp [HB.out]), trivial⟩, by simp [RowKit.intOf]; omega⟩
    · obtain rfl : k = xs.length := by omega
      have HZ := Lib.hid (show xs.any p = false by have := HC.out; rwa [List.take_length] at this)
      go_wp2
      go_ret
      exact ⟨⟨-1, rfl, by rw [HZ.out]; simp⟩, rfl⟩
theorem containsfunc_names (w : World) (B : Option Addr) (d b : Nat) (xs : List Int) (p : Int → Bool) (h : RdK intTy w B xs.length xs) (hn : xs.length ≤ 140737488351232)
    (hq : ∀ x ∈ xs, Calls Try.prog 43 #[.int .i64 x, .pointer (some ⟨b, 0, none⟩)] w fun e w' => e = .returned (.bool (p x)) ∧ w = w') :
    Calls Try.prog 41 #[.slice B xs.length d, .func (.func 43) #[] #[.pointer (some ⟨b, 0, none⟩)]] w fun e w' => e = .returned (.bool (xs.any p)) ∧ w = w' := by
  have HI := Lib.hid (indexfunc_names w B d b xs p h hn hq)
  clear h hq
  obtain ⟨R, hR⟩ : ∃ R, xs.any p = R := ⟨_, rfl⟩
  rw [hR] at HI ⊢
  clear hR
  cases R with
  | true =>
    go_enter Try.func41, Try.ntmps41
    go_wp2_with fail
    refine HI.out.mono ?_
    rintro e w1 ⟨⟨k, rfl, hk⟩, rfl⟩
    have : (0 : Int) ≤ k := by simpa using hk
    clear hk
    go_wp2
    go_ret
    exact ⟨rfl, rfl⟩
  | false =>
    go_enter Try.func41, Try.ntmps41
    go_wp2_with fail
    refine HI.out.mono ?_
    rintro e w1 ⟨⟨k, rfl, hk⟩, rfl⟩
    have h7 : ¬ (0 : Int) ≤ k := by simpa using hk
    have h8 : decide ((0 : Int) ≤ k) = false := by simpa using h7
    clear hk
    go_wp2
    go_ret
    exact ⟨rfl, rfl⟩

set_option maxHeartbeats 1000000 in
theorem indexfunc_live (w : World) (B : Option Addr) (d b : Nat) (xs : List Int) (p : Int → Bool) (h : RdK intTy w B xs.length xs) (hn : xs.length ≤ 140737488351232)
    (hq : ∀ x ∈ xs, Calls Try.prog 42 #[.int .i64 x, .pointer (some ⟨b, 0, none⟩)] w fun e w' => e = .returned (.bool (p x)) ∧ w = w') :
    Calls Try.prog 47 #[.slice B xs.length d, .func (.func 42) #[] #[.pointer (some ⟨b, 0, none⟩)]] w fun e w' => (∃ k : Int, e = .returned (.int .i64 k) ∧ (0 ≤ k ↔ xs.any p = true)) ∧ w' = w := by
  have HA := Lib.hid h
  have HQ := Lib.hid hq
  clear h hq
  go_enter Try.func47, Try.ntmps47
  go_wp2
  go_loopw [8, 5] (fun v8 v5 wr => ∃ k : Nat, k ≤ xs.length ∧ v8 = .int .i64 (k : Int) ∧ Hid ((xs.take k).any p = false) ∧ wr = w) (fun v8 _ _ => xs.length - (RowKit.intOf v8).toNat)
  case atStart => exact ⟨0, Nat.zero_le _, rfl, Lib.hid rfl, rfl⟩
  case round =>
    obtain ⟨k, hk, rfl, HC, rfl⟩ := hrel
    have k1 : IntKind.i64.wrap ((k : Int) + 1) = (k : Int) + 1 := IntWalk.i64_in _ (by omega)
    have i0 : (0 : Int) ≤ (k : Int) := by omega
    by_cases hlt : k < xs.length
    · have i1 : (k : Int) < (xs.length : Int) := by omega
      obtain ⟨g, o, eA, _⟩ := HA.out.line (by omega)
      subst eA
      have ex := List.getElem?_eq_getElem hlt
      have z := intCells HA.out ex
      have HT := Lib.hid (List.take_succ_eq_append_getElem hlt)
      have HM := Lib.hid (List.getElem_mem hlt)
      generalize xs[k] = y at *
      clear ex
      obtain ⟨b1, hb⟩ : ∃ b1, p y = b1 := ⟨_, rfl⟩
      have CL := Lib.hid (hb ▸ HQ.out y HM.out)
      have HB := Lib.hid hb
      clear hb
      cases b1 with
      | true =>
        go_wp2_with fail
        refine CL.out.mono ?_
        rintro e w2 ⟨rfl, rfl⟩
        go_wp2
        go_ret
        exact ⟨⟨_, rfl, by simp [List.any_eq_true]; exact ⟨y, HM.out, HB.out⟩⟩, rfl⟩
      | false =>
        go_wp2_with fail
        refine CL.out.mono ?_
        rintro e w2 ⟨rfl, rfl⟩
        go_wp2
        exact ⟨⟨k + 1, by omega, by simp, Lib.hid (by rw [HT.out, List.any_append, HC.out]; simp [HB.out]), trivial⟩, by simp [RowKit.intOf]; omega⟩
    · obtain rfl : k = xs.length := by omega
      have HZ := Lib.hid (show xs.any p = false by have := HC.out; rwa [List.take_length] at this)
      go_wp2
      go_ret
      exact ⟨⟨-1, rfl, by rw [HZ.out]; simp⟩, rfl⟩
theorem containsfunc_live (w : World) (B : Option Addr) (d b : Nat) (xs : List Int) (p : Int → Bool) (h : RdK intTy w B xs.length xs) (hn : xs.length ≤ 140737488351232)
    (hq : ∀ x ∈ xs, Calls Try.prog 42 #[.int .i64 x, .pointer (some ⟨b, 0, none⟩)] w fun e w' => e = .returned (.bool (p x)) ∧ w = w') :
    Calls Try.prog 41 #[.slice B xs.length d, .func (.func 42) #[] #[.pointer (some ⟨b, 0, none⟩)]] w fun e w' => e = .returned (.bool (xs.any p)) ∧ w = w' := by
  have HI := Lib.hid (indexfunc_live w B d b xs p h hn hq)
  clear h hq
  obtain ⟨R, hR⟩ : ∃ R, xs.any p = R := ⟨_, rfl⟩
  rw [hR] at HI ⊢
  clear hR
  cases R with
  | true =>
    go_enter Try.func41, Try.ntmps41
    go_wp2_with fail
    refine HI.out.mono ?_
    rintro e w1 ⟨⟨k, rfl, hk⟩, rfl⟩
    have : (0 : Int) ≤ k := by simpa using hk
    clear hk
    go_wp2
    go_ret
    exact ⟨rfl, rfl⟩
  | false =>
    go_enter Try.func41, Try.ntmps41
    go_wp2_with fail
    refine HI.out.mono ?_
    rintro e w1 ⟨⟨k, rfl, hk⟩, rfl⟩
    have h7 : ¬ (0 : Int) ≤ k := by simpa using hk
    have h8 : decide ((0 : Int) ≤ k) = false := by simpa using h7
    clear hk
    go_wp2
    go_ret
    exact ⟨rfl, rfl⟩

set_option maxHeartbeats 1000000 in
theorem tonamesa_any (w : World) (A : Option Addr) (c b : Nat) (t : List MemT) (x : Int) (hb : w.cell? ⟨b, 0, none⟩ = some (.slice A t.length c)) :
    Calls Try.prog 43 #[.int .i64 x, .pointer (some ⟨b, 0, none⟩)] w fun e w' => e = .returned (.bool (!thereT t x)) ∧ w = w' := by
  have TH := Lib.hid (fun w => tohas_any w A c t x)
  generalize thereT t x = R at *
  cases R <;>
  · go_enter Try.func43, Try.ntmps43
    go_wp2_with fail
    refine (TH.out _).mono ?_
    rintro e w1 ⟨rfl, rfl⟩
    go_wp2
    go_ret
    exact ⟨rfl, rfl⟩
set_option maxHeartbeats 1000000 in
theorem tolivea_any (w : World) (A : Option Addr) (c b : Nat) (t : List MemT) (x : Int) (hb : w.cell? ⟨b, 0, none⟩ = some (.slice A t.length c)) (h : RdK memTy w A t.length t) (hN : t.length ≤ 100000000) (hth : thereT t x = true) :
    Calls Try.prog 42 #[.int .i64 x, .pointer (some ⟨b, 0, none⟩)] w fun e w' => e = .returned (.bool (memT t x).2.2) ∧ w = w' := by
  obtain ⟨e1, e2, e3, e4, e5⟩ := there_at hth
  obtain ⟨g, o, eA, _⟩ := h.line (by omega)
  subst eA
  obtain ⟨_, _, p2⟩ := memCells h e5
  obtain ⟨k, hk⟩ : ∃ k : Nat, x = (k : Int) + 1 := ⟨(x - 1).toNat, by omega⟩
  have hk0 : (x - 1).toNat = k := by omega
  rw [hk0] at p2
  generalize memT t x = m at *
  obtain ⟨m0, mu, md⟩ := m
  simp only at p2
  have q1 : IntKind.i64.wrap ((k : Int)) = (k : Int) := IntWalk.i64_in _ (by omega)
  have q2 : (0 : Int) ≤ (k : Int) := by omega
  have q3 : (k : Int) < (t.length : Int) := by omega
  clear e1 e2 e3 e4 e5 hk0 hth h
  subst hk
  go_enter Try.func42, Try.ntmps42
  go_wp2
  go_ret
  exact ⟨rfl, rfl⟩
/-- What 'names' answers. -/
def namesR (t : List MemT) (xs : List Int) : Int := if xs.any (fun n => !thereT t n) then 2 else if checkT t then 0 else 2
set_option maxHeartbeats 2000000 in
theorem tonames_any (w : World) (A B : Option Addr) (c d : Nat) (t : List MemT) (xs : List Int) (h : RdK memTy w A t.length t) (hA : ∀ a, A = some a → a.block < w.heap.size) (hx : RdK intTy w B xs.length xs) (hB : ∀ a, B = some a → a.block < w.heap.size) (hN : t.length ≤ 100000000) (hn : xs.length ≤ 100000000) :
    Calls Try.prog 34 #[.slice A t.length c, .slice B xs.length d] w fun e w' => e = .returned (.int .i64 (namesR t xs)) ∧ Chg [] w w' := by
  obtain ⟨w1, hw1, C1, b1⟩ := news1 w (.cells #[.slice A t.length c] 22)
  have W1 := Lib.hid hw1
  have CW := Lib.hid C1
  have c0 := cell_of b1 0
  simp only [List.getElem?_toArray, List.getElem?_cons_zero] at c0
  have CF := Lib.hid (containsfunc_names w1 B d w.heap.size xs (fun n => !thereT t n) (hx.chg C1 (by simp)) (by omega) (fun x _ => tonamesa_any w1 A c w.heap.size t x c0))
  have CK := Lib.hid (tocheck_any w1 A c t (h.chg C1 (by simp)) (fun a ha => Nat.lt_of_lt_of_le (hA a ha) C1.size) hN)
  clear hw1 C1 b1 h hx
  unfold namesR
  generalize xs.any (fun n => !thereT t n) = R at *
  generalize checkT t = V at *
  cases R with
  | true =>
    go_enter Try.func34, Try.ntmps34
    go_wp2_with fail
    (try rw [← W1.out])
    refine CF.out.mono ?_
    rintro e w2 ⟨rfl, rfl⟩
    go_wp2
    go_ret
    exact ⟨rfl, CW.out⟩
  | false =>
    cases V <;>
    · go_enter Try.func34, Try.ntmps34
      go_wp2_with fail
      (try rw [← W1.out])
      refine CF.out.mono ?_
      rintro e w2 ⟨rfl, rfl⟩
      go_wp2_with fail
      refine CK.out.mono ?_
      rintro e w3 ⟨rfl, h3⟩
      have K := Lib.hid (CW.out.trans h3)
      clear h3
      go_wp2
      go_ret
      exact ⟨rfl, K.out⟩
end Go.Proofs.Ytleioiihoplmaaa
