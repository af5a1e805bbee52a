/- The reader's piece; Raw and Text. -/
import Derived.Test.YtelbahfmkpncaaaRd2
namespace Go.Proofs.Ytelbahfmkpncaaa
open Go.RowKit

set_option maxHeartbeats 400000 in
theorem piece_no (w : World) (b g : Nat) (xs : List UInt8) (p : Nat) (fe fa most : Int) (h : Rdr w b g xs p fe fa) (he : fe ≠ 0) :
    Calls Try.prog 65 #[.pointer (some ⟨b, 0, none⟩), .int .i64 most] w fun e w' => e = .returned (.slice none 0 0) ∧ w = w' := by
  have H := Lib.hid he
  clear he
  go_enter Try.func65, Try.ntmps65
  go_wp2
  refine wp_scope_fwd 0 rfl ?_
  go_wp2_with (go_at_call 63; refine (rreads_no _ b g xs p fe fa h H.out).mono ?_; rintro r w' ⟨rfl, rfl⟩)
  simp only [Exit.jump]
  go_ret
  exact ⟨rfl, rfl⟩

set_option maxHeartbeats 400000 in
theorem piece_err (w : World) (b g : Nat) (xs : List UInt8) (p : Nat) (fa most : Int) (h : Rdr w b g xs p 0 fa) (hp : p ≤ xs.length) (hl : xs.length ≤ 140737488351232) (f q : Nat) (hn : numAt xs p 0 4611686018427387903 = .error (f, q)) :
    Calls Try.prog 65 #[.pointer (some ⟨b, 0, none⟩), .int .i64 most] w fun e w' => e = .returned (.slice none 0 0) ∧ Failed w w' b g xs p f q := by
  have H := Lib.hid hn
  have hf0 : ((f : Int) != 0) = true := by have := numAt_err hn; simp; omega
  clear hn
  go_enter Try.func65, Try.ntmps65
  go_wp2
  refine wp_scope_fwd 0 rfl ?_
  go_wp2_with (first
    | (go_at_call 63; refine (rreads_yes _ b g xs p fa h).mono ?_; rintro r w' ⟨rfl, rfl⟩)
    | (go_at_call 64; refine (rnumber_any _ b g xs p fa _ _ h hp hl).mono ?_; rintro r w1 hpost; obtain ⟨rfl, hf⟩ := hpost.1 _ _ H.out; clear hpost; obtain ⟨A1, c1, i1, i2, i3⟩ := id hf.1; have k2 := cell_of i1 3; simp only [List.getElem?_toArray, List.getElem?_cons_zero, List.getElem?_cons_succ] at k2; have HF := Lib.hid hf; have I3 := Lib.hid i3; have I1 := Lib.hid i1; clear hf i1 i3))
  simp only [Exit.jump]
  go_ret
  exact ⟨rfl, HF.out⟩

theorem failed_after {w w1 : World} {b g : Nat} {xs : List UInt8} {p : Nat} {A : Option Addr} {c : Nat} {fe0 fa0 : Int} (hc : Chg [] w w1) (h1 : w1.heap[b]? = some (.cells #[.pointer (some ⟨b, 0, none⟩), .slice A xs.length c, .int .i64 p, .int .i64 fe0, .int .i64 fa0] 83 (0, 0)))
    (h2 : OwnB w1 A c xs) (h3 : A = none ∧ g = b ∨ A = some ⟨g, 0, none⟩) (n m : Nat) (fe fa : Int) :
    Failed w ((((w1.drewN n).setCell ⟨b, 3, none⟩ (.int .i64 fe)).setCell ⟨b, 4, none⟩ (.int .i64 fa)).drewN m) b g xs p fe fa := by
  have := failed_of h1 h2 h3 n m fe fa
  exact ⟨this.1, (hc.mono (by simp)).trans this.2⟩

set_option maxHeartbeats 400000 in
theorem piece_long (w : World) (b g : Nat) (xs : List UInt8) (p : Nat) (fa most : Int) (h : Rdr w b g xs p 0 fa) (hp : p ≤ xs.length) (hl : xs.length ≤ 140737488351232) (n q : Nat) (hn : numAt xs p 0 4611686018427387903 = .ok (n, q)) (hm : most < n) :
    Calls Try.prog 65 #[.pointer (some ⟨b, 0, none⟩), .int .i64 most] w fun e w' => e = .returned (.slice none 0 0) ∧ Failed w w' b g xs p 3 p := by
  have hb := numAt_ok hn hp
  have H := Lib.hid hn
  clear hn
  go_enter Try.func65, Try.ntmps65
  go_wp2
  refine wp_scope_fwd 0 rfl ?_
  go_wp2_with (first
    | (go_at_call 63; refine (rreads_yes _ b g xs p fa h).mono ?_; rintro r w' ⟨rfl, rfl⟩)
    | (go_at_call 64; refine (rnumber_any _ b g xs p fa _ _ h hp hl).mono ?_; rintro r w1 hpost; obtain ⟨rfl, hf⟩ := hpost.2 _ _ H.out; clear hpost; have hr1 := h.chg hf (by simp) (by simp); obtain ⟨A1, c1, i1, i2, i3⟩ := id hr1; have k1 := cell_of i1 1; have k2 := cell_of i1 2; have k3 := cell_of i1 3; have k4 := cell_of i1 4; have f3 := free_of i1 3; have f4 := free_of i1 4; simp only [List.getElem?_toArray, List.getElem?_cons_zero, List.getElem?_cons_succ] at k1 k2 k3 k4; have HF := Lib.hid hf; have I3 := Lib.hid i3; have I1 := Lib.hid i1; clear hf i1 i3))
  go_step3
  refine And.intro rfl ?_
  show Code.wp _ _ _ _ _
  go_wp2
  simp only [Exit.jump]
  go_ret
  exact ⟨rfl, failed_after HF.out I1.out i2 I3.out 0 0 _ _⟩
set_option maxHeartbeats 400000 in
theorem piece_end (w : World) (b g : Nat) (xs : List UInt8) (p : Nat) (fa most : Int) (h : Rdr w b g xs p 0 fa) (hp : p ≤ xs.length) (hl : xs.length ≤ 140737488351232) (n q : Nat) (hn : numAt xs p 0 4611686018427387903 = .ok (n, q)) (hm : (n : Int) ≤ most) (hm2 : (xs.length : Int) - q < n) :
    Calls Try.prog 65 #[.pointer (some ⟨b, 0, none⟩), .int .i64 most] w fun e w' => e = .returned (.slice none 0 0) ∧ Failed w w' b g xs p 4 xs.length := by
  have hb := numAt_ok hn hp
  have H := Lib.hid hn
  clear hn
  go_enter Try.func65, Try.ntmps65
  go_wp2
  refine wp_scope_fwd 0 rfl ?_
  go_wp2_with (first
    | (go_at_call 63; refine (rreads_yes _ b g xs p fa h).mono ?_; rintro r w' ⟨rfl, rfl⟩)
    | (go_at_call 64; refine (rnumber_any _ b g xs p fa _ _ h hp hl).mono ?_; rintro r w1 hpost; obtain ⟨rfl, hf⟩ := hpost.2 _ _ H.out; clear hpost; have hr1 := h.chg hf (by simp) (by simp); obtain ⟨A1, c1, i1, i2, i3⟩ := id hr1; have k1 := cell_of i1 1; have k2 := cell_of i1 2; have k3 := cell_of i1 3; have k4 := cell_of i1 4; have f3 := free_of i1 3; have f4 := free_of i1 4; simp only [List.getElem?_toArray, List.getElem?_cons_zero, List.getElem?_cons_succ] at k1 k2 k3 k4; have HF := Lib.hid hf; have I3 := Lib.hid i3; have I1 := Lib.hid i1; clear hf i1 i3))
  go_quiet (fail)
  go_wp2
  go_step3
  refine And.intro rfl ?_
  show Code.wp _ _ _ _ _
  go_wp2
  simp only [Exit.jump]
  go_ret
  exact ⟨rfl, failed_after HF.out I1.out i2 I3.out _ 0 _ _⟩
theorem piece_bs {w : World} {A : Option Addr} {c : Nat} {xs : List UInt8} (own : OwnB w A c xs) (n q : Nat) (h : q + n ≤ xs.length) : Bs w (A.map (fun x => x.add q)) n ((xs.drop q).take n) := by
  refine ⟨by simp; omega, fun j u hj => ?_⟩
  rw [List.getElem?_take] at hj
  split at hj
  · rw [List.getElem?_drop] at hj
    obtain ⟨a, e, hc⟩ := own.reads.cells (q + j) u hj
    rcases own.form with ⟨rfl, _⟩ | ⟨g, cur, rfl, _⟩
    · cases e
    · cases e
      refine ⟨⟨g, q, none⟩, by simp [add_zero_lit], ?_⟩
      rw [add_zero_lit] at hc
      rw [add_lit]; exact hc
  · cases hj

/-- What the piece is, and what the reader is behind it. -/
def Piece (w w' : World) (b g : Nat) (xs : List UInt8) (n q : Nat) (fa : Int) (e : Ending) : Prop :=
  ∃ A c, e = .returned (.slice A n c) ∧ Bs w' A n ((xs.drop q).take n) ∧ (∀ a, A = some a → a.block = g) ∧ Rdr w' b g xs (q + n) 0 fa ∧ Chg [b] w w'

theorem piece_fin {w w1 : World} {b g : Nat} {xs : List UInt8} {p n q : Nat} {fa : Int} {A : Option Addr} {c : Nat} (hc : Chg [] w w1) (h : Rdr w1 b g xs p 0 fa) (h1 : w1.heap[b]? = some (.cells #[.pointer (some ⟨b, 0, none⟩), .slice A xs.length c, .int .i64 p, .int .i64 0, .int .i64 fa] 83 (0, 0)))
    (own : OwnB w1 A c xs) (h3 : A = none ∧ g = b ∨ A = some ⟨g, 0, none⟩) (hq : q + n ≤ xs.length) (m : Nat) (B : Option Addr) (d : Nat) (hB : B = A.map (fun x => x.add q) ∨ n = 0 ∧ B = A) :
    Piece w ((w1.setCell ⟨b, 2, none⟩ (.int .i64 ((q : Int) + n))).drewN m) b g xs n q fa (.returned (.slice B n d)) := by
  have hp := h.place (q := q + n)
  have hne := own.ne h1 (by decide)
  have hg : ∀ a, A = some a → a.block = g := by
    rintro a rfl
    rcases h3 with ⟨h3, _⟩ | h3
    · cases h3
    · cases h3; rfl
  have hs : Chg [b] w1 ((w1.setCell ⟨b, 2, none⟩ (.int .i64 ((q : Int) + n))).drewN m) := hp.2.drewN m
  refine ⟨B, d, rfl, ?_, ?_, hp.1.drewN m, (hc.mono (by simp)).trans hs⟩
  · rcases hB with rfl | ⟨rfl, rfl⟩
    · refine (piece_bs own n q hq).chg hs ?_
      rintro a e
      cases A with
      | none => cases e
      | some a0 =>
        simp at e
        subst e
        rw [block_add]
        simpa using hne _ rfl
    · simpa using Bs.nil _ B
  · rintro a rfl
    rcases hB with hB | ⟨_, hB⟩
    · cases A with
      | none => cases hB
      | some a0 =>
        simp at hB
        subst hB
        rw [block_add]
        exact hg _ rfl
    · exact hg a hB.symm

set_option maxHeartbeats 400000 in
theorem piece_ok (w : World) (b g : Nat) (xs : List UInt8) (p : Nat) (fa most : Int) (h : Rdr w b g xs p 0 fa) (hp : p ≤ xs.length) (hl : xs.length ≤ 140737488351232) (n q : Nat) (hn : numAt xs p 0 4611686018427387903 = .ok (n, q)) (hm : (n : Int) ≤ most) (hm2 : (n : Int) ≤ xs.length - q) :
    Calls Try.prog 65 #[.pointer (some ⟨b, 0, none⟩), .int .i64 most] w fun e w' => Piece w w' b g xs n q fa e := by
  have hb := numAt_ok hn hp
  have H := Lib.hid hn
  clear hn
  go_enter Try.func65, Try.ntmps65
  go_wp2
  refine wp_scope_fwd 0 rfl ?_
  go_wp2_with (first
    | (go_at_call 63; refine (rreads_yes _ b g xs p fa h).mono ?_; rintro r w' ⟨rfl, rfl⟩)
    | (go_at_call 64; refine (rnumber_any _ b g xs p fa _ _ h hp hl).mono ?_; rintro r w1 hpost; obtain ⟨rfl, hf⟩ := hpost.2 _ _ H.out; clear hpost; have hr1 := h.chg hf (by simp) (by simp); obtain ⟨A1, c1, i1, i2, i3⟩ := id hr1; have k1 := cell_of i1 1; have k2 := cell_of i1 2; have k3 := cell_of i1 3; have hcap := i2.cap; unfold maxLen at hcap; have f2 := free_of i1 2; simp only [List.getElem?_toArray, List.getElem?_cons_zero, List.getElem?_cons_succ] at k1 k2 k3; have HF := Lib.hid hf; have I3 := Lib.hid i3; have I1 := Lib.hid i1; clear hf i1 i3))
  go_quiet (fail)
  go_wp2
  · simp only [Exit.jump]
    go_ret
    have e0 : n = 0 := by omega
    exact piece_fin HF.out hr1 I1.out i2 I3.out (by omega) _ _ _ (.inr ⟨e0, rfl⟩)
  · simp only [Exit.jump]
    go_ret
    exact piece_fin HF.out hr1 I1.out i2 I3.out (by omega) _ _ _ (.inl rfl)
end Go.Proofs.Ytelbahfmkpncaaa
