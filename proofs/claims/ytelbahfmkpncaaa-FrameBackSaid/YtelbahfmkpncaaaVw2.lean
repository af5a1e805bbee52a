/- The document's writer, call by call. -/
import Derived.Test.YtelbahfmkpncaaaVw
namespace Go.Proofs.Ytelbahfmkpncaaa
open Go.RowKit

def VWr (w : World) (b g : Nat) (xs : List UInt8) (e : Int) : Prop :=
  ∃ A c, w.heap[b]? = some (.cells #[.slice A xs.length c, .int .i64 e] 60 (0, 0)) ∧ OwnB w A c xs ∧ (A = none ∧ g = b ∨ A = some ⟨g, 0, none⟩)
theorem VWr.chg {S : List Nat} {w w' : World} {b g : Nat} {xs : List UInt8} {e : Int} (h : VWr w b g xs e) (hc : Chg S w w') (hb : b ∉ S) (hg : g ∉ S) : VWr w' b g xs e := by
  obtain ⟨A, c, h1, h2, h3⟩ := h
  refine ⟨A, c, hc.at_ h1 hb, h2.chg hc ?_, h3⟩
  rintro a rfl
  rcases h3 with ⟨h3, _⟩ | h3
  · cases h3
  · cases h3; exact hg
theorem VWr.lt {w : World} {b g : Nat} {xs : List UInt8} {e : Int} (h : VWr w b g xs e) : b < w.heap.size ∧ g < w.heap.size := by
  obtain ⟨A, c, h1, h2, h3⟩ := h
  have hb := lt_of_heap h1
  rcases h3 with ⟨_, rfl⟩ | rfl
  · exact ⟨hb, hb⟩
  · rcases h2.form with ⟨h, _⟩ | ⟨g', cur, h, h4, _⟩
    · cases h
    · cases h; exact ⟨hb, lt_of_heap h4⟩
def VBetween (w wr : World) (b g : Nat) (xs : List UInt8) (e : Int) : Prop := ∃ g', VWr wr b g' xs e ∧ Chg [b, g] w wr ∧ (g' = g ∨ w.heap.size ≤ g')
theorem VBetween.refl {w : World} {b g : Nat} {xs : List UInt8} {e : Int} (h : VWr w b g xs e) : VBetween w w b g xs e := ⟨g, h, Chg.refl _ _, .inl rfl⟩
/-- What is new ahead of the call is no matter. -/
theorem VBetween.later {w w1 w2 : World} {b g : Nat} {xs : List UInt8} {e : Int} (hc : Chg [] w w1) (h : VBetween w1 w2 b g xs e) : VBetween w w2 b g xs e := by
  obtain ⟨g', h1, h2, h3⟩ := h
  have := hc.size
  refine ⟨g', h1, (hc.mono (by simp)).trans h2, ?_⟩
  rcases h3 with h3 | h3
  · exact .inl h3
  · right; omega

set_option maxHeartbeats 400000 in
theorem vput_had (w : World) (b g : Nat) (xs : List UInt8) (e e' : Int) (B : Option Addr) (m d : Nat) (h : VWr w b g xs e) (he : (e != 0) = true) :
    Calls Try.prog 60 #[.pointer (some ⟨b, 0, none⟩), .slice B m d, .int .i64 e'] w fun r w' => r = .returned (.tuple #[]) ∧ w = w' := by
  obtain ⟨A, c, h1, _, _⟩ := h
  have h0 := cell_of h1 1
  simp only [List.getElem?_toArray, List.getElem?_cons_zero, List.getElem?_cons_succ] at h0
  have H := Lib.hid h1
  clear h1
  go_enter Try.func60, Try.ntmps60
  go_wp2
  refine bodyPost_ret (results_none rfl _ _ _) rfl ?_
  exact ⟨rfl, rfl⟩

theorem verr_fin {w : World} {b g : Nat} {xs : List UInt8} {A : Option Addr} {c : Nat} (e0 e : Int) (h1 : w.heap[b]? = some (.cells #[.slice A xs.length c, .int .i64 e0] 60 (0, 0))) (h2 : OwnB w A c xs) (h3 : A = none ∧ g = b ∨ A = some ⟨g, 0, none⟩) :
    VBetween w (w.setCell ⟨b, 1, none⟩ (.int .i64 e)) b g xs e := by
  have q := heap_setCell_same w b 1 _ _ (.int .i64 e) h1
  have hne := h2.ne h1 (by decide)
  refine ⟨g, ⟨A, c, by simpa using q, h2.keep fun g o eA ho => ?_, h3⟩, (Chg.refl _ _).setCell (by simp) _, .inl rfl⟩
  rw [Below.heap_setCell _ _ _ _ (by have := hne _ eA; exact this)]; exact ho

set_option maxHeartbeats 400000 in
theorem vput_err (w : World) (b g : Nat) (xs : List UInt8) (e' : Int) (B : Option Addr) (m d : Nat) (h : VWr w b g xs 0) (he : (e' == 0) = false) :
    Calls Try.prog 60 #[.pointer (some ⟨b, 0, none⟩), .slice B m d, .int .i64 e'] w fun r w' => r = .returned (.tuple #[]) ∧ VBetween w w' b g xs e' := by
  obtain ⟨A, c, h1, h2, h3⟩ := h
  have h0 := cell_of h1 1
  have f0 := free_of h1 1
  simp only [List.getElem?_toArray, List.getElem?_cons_zero, List.getElem?_cons_succ] at h0
  have H := Lib.hid h1
  have H3 := Lib.hid h3
  clear h1 h3
  go_enter Try.func60, Try.ntmps60
  go_wp2
  go_end0
  exact ⟨rfl, verr_fin _ _ H.out h2 H3.out⟩
set_option maxHeartbeats 400000 in
theorem vput_long (w : World) (b g : Nat) (xs : List UInt8) (B : Option Addr) (m d : Nat) (h : VWr w b g xs 0) (hx : xs.length ≤ 1048576) (hm : m ≤ 140737488355300) (hl : 1048576 < xs.length + m) :
    Calls Try.prog 60 #[.pointer (some ⟨b, 0, none⟩), .slice B m d, .int .i64 0] w fun r w' => r = .returned (.tuple #[]) ∧ VBetween w w' b g xs 3 := by
  obtain ⟨A, c, h1, h2, h3⟩ := h
  have h0 := cell_of h1 1
  have h4 := cell_of h1 0
  have f0 := free_of h1 1
  simp only [List.getElem?_toArray, List.getElem?_cons_zero, List.getElem?_cons_succ] at h0 h4
  have H := Lib.hid h1
  have H3 := Lib.hid h3
  clear h1 h3
  go_enter Try.func60, Try.ntmps60
  go_wp2
  go_end0
  exact ⟨rfl, verr_fin _ _ H.out h2 H3.out⟩

theorem vwr_put {w w1 : World} {b g : Nat} {xs zs : List UInt8} {e : Int} {A A' : Option Addr} {c c' n : Nat} (h1 : w.heap[b]? = some (.cells #[.slice A xs.length c, .int .i64 e] 60 (0, 0))) (h2 : OwnB w A c xs)
    (h3 : A = none ∧ g = b ∨ A = some ⟨g, 0, none⟩) (own1 : OwnB w1 A' c' zs) (hg1 : w.grownBy w1 (A.map (·.block))) (hA1 : A' = A ∨ A' = some ⟨w.heap.size, 0, none⟩) (hn : n = zs.length) :
    VBetween w (w1.setCell ⟨b, 0, none⟩ (.slice A' n c')) b g zs e := by
  subst hn
  have hne := h2.ne h1 (by decide)
  have q1 := grown_at hg1 h1 hne
  have q2 := heap_setCell_same w1 b 0 _ _ (.slice A' zs.length c') q1
  have hne' := own1.ne q1 (by decide)
  have own2 : OwnB (w1.setCell ⟨b, 0, none⟩ (.slice A' zs.length c')) A' c' zs := own1.keep fun g o eA ho => by
    rw [Below.heap_setCell _ _ _ _ (by have := hne' _ eA; exact this)]; exact ho
  have hc : Chg [b, g] w (w1.setCell ⟨b, 0, none⟩ (.slice A' zs.length c')) :=
    ((Chg.refl _ _).grown hg1 (fun k hk => by
      rcases h3 with ⟨rfl, _⟩ | rfl
      · cases hk
      · simp at hk; subst hk; simp)).setCell (by simp) _
  rcases hA1 with rfl | rfl
  · exact ⟨g, ⟨A', c', by simpa using q2, own2, h3⟩, hc, .inl rfl⟩
  · exact ⟨w.heap.size, ⟨_, c', by simpa using q2, own2, .inr rfl⟩, hc, .inr (Nat.le_refl _)⟩

theorem set_same {w : World} {b : Nat} {cs : Array Value} {t : TypeId} {j : Nat} {v : Value} (h : w.heap[b]? = some (.cells cs t (0, 0))) (hj : cs[j]? = some v) : w.setCell ⟨b, j, none⟩ v = w := by
  have : (w.setCell ⟨b, j, none⟩ v).heap = w.heap := by
    apply Array.ext_getElem?
    intro i
    by_cases hi : i = b
    · subst hi
      rw [heap_setCell_same w i j _ _ v h, h]
      congr 2
      apply Array.ext_getElem?
      intro k
      rw [Array.getElem?_setIfInBounds]
      split
      · rename_i e; subst e
        obtain ⟨h5, h6⟩ := Array.getElem?_eq_some_iff.1 hj
        simp [h5, h6]
      · rfl
    · exact Below.heap_setCell _ _ _ _ hi
  unfold World.setCell at this ⊢
  simp only at this
  rw [this]

set_option maxHeartbeats 400000 in
theorem vput_fine (w : World) (b g : Nat) (xs : List UInt8) (B : Option Addr) (m d : Nat) (ys : List UInt8) (h : VWr w b g xs 0) (hr : Bs w B m ys) (hl : xs.length + m ≤ 1048576) :
    Calls Try.prog 60 #[.pointer (some ⟨b, 0, none⟩), .slice B m d, .int .i64 0] w fun r w' => r = .returned (.tuple #[]) ∧ VBetween w w' b g (xs ++ ys) 0 := by
  obtain ⟨A, c, h1, h2, h3⟩ := h
  have hs : w.setCell ⟨b, 1, none⟩ (.int .i64 0) = w := set_same h1 rfl
  have hne := h2.ne h1 (by decide)
  have h0 := cell_of h1 1
  have h4 := cell_of h1 0
  have f0 := free_of h1 1
  simp only [List.getElem?_toArray, List.getElem?_cons_zero, List.getElem?_cons_succ] at h0 h4
  have H := Lib.hid h1
  have H3 := Lib.hid h3
  clear h1 h3
  go_enter Try.func60, Try.ntmps60
  go_wp2_with (at_builtin; refine wpList_app rfl _ _ rfl rfl h2 rfl rfl hr (by omega) ?_; intro A' c' w1 own1 hg1 hA1; have q1 := grown_at hg1 H.out hne; have Q1 := Lib.hid q1; have q2 := cell_of q1 0; have q3 := free_of q1 0; simp only [List.getElem?_toArray, List.getElem?_cons_zero] at q2; clear q1)
  go_end0
  exact ⟨rfl, vwr_put H.out h2 H3.out own1 hg1 hA1 (by simp [hr.len])⟩

theorem nb_fits (n : Nat) (h : n ≤ 9223372036854775807) : nb n ≤ 8 := nb_le n (by omega)

set_option maxHeartbeats 400000 in
theorem vnum_any (w : World) (b g : Nat) (xs : List UInt8) (e x : Int) (h : VWr w b g xs e) (hlen : xs.length ≤ 1048576) (hx : -9223372036854775808 ≤ x) (hx2 : x ≤ 9223372036854775807) :
    Calls Try.prog 37 #[.pointer (some ⟨b, 0, none⟩), .int .i64 x] w fun r w' => r = .returned (.tuple #[]) ∧ VBetween w w' b g (wNum xs e x).1 (wNum xs e x).2 := by
  by_cases h1 : x < 0 ∨ 4611686018427387903 < x
  · have hp : Calls Try.prog 60 #[.pointer (some ⟨b, 0, none⟩), .slice none 0 0, .int .i64 5] w fun r w' => r = .returned (.tuple #[]) ∧ VBetween w w' b g (wNum xs e x).1 (wNum xs e x).2 := by
      unfold wNum
      by_cases he : e = 0
      · subst he
        simp only [ne_eq, not_true_eq_false, if_false, if_pos h1]
        exact vput_err w b g xs 5 none 0 0 h rfl
      · simp only [ne_eq, he, not_false_eq_true, if_true]
        exact (vput_had w b g xs e 5 none 0 0 h (by simpa using he)).mono fun r w' ⟨h1, h2⟩ => ⟨h1, h2 ▸ VBetween.refl h⟩
    have HP := Lib.hid hp
    clear hp
    rcases h1 with h1 | h1
    all_goals
      go_enter Try.func37, Try.ntmps37
      go_wp2_with (go_at_call 60; refine HP.out.mono ?_; rintro r w1 ⟨rfl, hB⟩)
      refine bodyPost_ret (results_none rfl _ _ _) rfl ?_
      exact ⟨rfl, hB⟩
  · have h2 : 0 ≤ x := by omega
    have h3 : x ≤ 4611686018427387903 := by omega
    have hb := nb_fits x.toNat (by omega)
    have hp : ∀ w1 A c, Fresh w w1 A c (enc x.toNat) → Calls Try.prog 60 #[.pointer (some ⟨b, 0, none⟩), .slice A (1 + nb x.toNat) c, .int .i64 0] w1 fun r w' => r = .returned (.tuple #[]) ∧ VBetween w1 w' b g (wNum xs e x).1 (wNum xs e x).2 := by
      intro w1 A c hF
      have hv := h.chg hF.2.2 (by simp) (by simp)
      have hr := hF.1.reads
      rw [enc_len] at hr
      unfold wNum
      by_cases he : e = 0
      · subst he
        by_cases h4 : 1048576 < 1 + nb x.toNat + xs.length
        · simp only [ne_eq, not_true_eq_false, if_false, if_neg h1, if_pos h4]
          exact vput_long w1 b g xs A _ c hv hlen (by omega) (by omega)
        · simp only [ne_eq, not_true_eq_false, if_false, if_neg h1, if_neg h4]
          exact vput_fine w1 b g xs A _ c _ hv hr (by omega)
      · simp only [ne_eq, he, not_false_eq_true, if_true]
        exact (vput_had w1 b g xs e 0 A _ c hv (by simpa using he)).mono fun r w' ⟨h1, h2⟩ => ⟨h1, h2 ▸ VBetween.refl hv⟩
    have HP := Lib.hid hp
    clear hp h1
    go_enter Try.func37, Try.ntmps37
    go_wp2_with (first
      | (go_at_call 61; refine (form_any _ x h2 (by omega)).mono ?_; rintro r w1 ⟨A, c, rfl, hF⟩; have HF := Lib.hid hF; clear hF)
      | (go_at_call 60; refine (HP.out _ _ _ HF.out).mono ?_; rintro r w2 ⟨rfl, hB⟩))
    go_end0
    exact ⟨rfl, VBetween.later HF.out.2.2 hB⟩
end Go.Proofs.Ytelbahfmkpncaaa
