/- The document's writer, call by call. The document's writer: Raw, Text, Out. The document's reader: Open, fail, Left, End, and Num. The document's number, read. The document's number, read: where digits follow, or none. The document's reader: Raw and Text. The document's writer and reader, made since a world w. The document's effects: Check, Same, Less, Size, Bytes. event.Same. -/
import Derived.Test.YtgbidlhgmeglmaaGreatDoorZetd
import Derived.Test.YtgbidlhgmeglmaaGreatDoorZetb
import Derived.Deep.RegionHeld3
import Derived.Deep.AppendLies
import Derived.Deep.Cut
import Derived.Deep.QuietTactic
import Derived.BigQuiet
import Derived.RegionTactic
namespace Go.Proofs.YtgbidlhgmeglmaaGreatDoor
section
open Go.RowKit

def VWr (w : World) (b g : Nat) (xs : List UInt8) (e : Int) : Prop :=
  ∃ A c, w.heap[b]? = some (.cells #[.slice A xs.length c, .int .i64 e] 74 (0, 0)) ∧ OwnB w A c xs ∧ (A = none ∧ g = b ∨ A = some ⟨g, 0, none⟩)
theorem VWr.chg {S : List Nat} {w w' : World} {b g : Nat} {xs : List UInt8} {e : Int} (h : VWr w b g xs e) (hc : Chg S w w') (hb : b ∉ S) (hg : g ∉ S) : VWr w' b g xs e := by
  obtain ⟨A, c, h1, h2, h3⟩ := h
  refine ⟨A, c, hc.at_ h1 hb, h2.chg hc ?_, h3⟩
  rintro a rfl
  rcases h3 with ⟨h3, _⟩ | h3
  · cases h3
  · cases h3; exact hg
theorem VWr.lt {w : World} {b g : Nat} {xs : List UInt8} {e : Int} (h : VWr w b g xs e) : b < w.heap.size ∧ g < w.heap.size := by
  obtain ⟨A, c, h1, h2, h3⟩ := h
  have hb := lt_of_heap h1
  rcases h3 with ⟨_, rfl⟩ | rfl
  · exact ⟨hb, hb⟩
  · rcases h2.form with ⟨h, _⟩ | ⟨g', cur, h, h4, _⟩
    · cases h
    · cases h; exact ⟨hb, lt_of_heap h4⟩
def VBetween (w wr : World) (b g : Nat) (xs : List UInt8) (e : Int) : Prop := ∃ g', VWr wr b g' xs e ∧ Chg [b, g] w wr ∧ (g' = g ∨ w.heap.size ≤ g')
theorem VBetween.refl {w : World} {b g : Nat} {xs : List UInt8} {e : Int} (h : VWr w b g xs e) : VBetween w w b g xs e := ⟨g, h, Chg.refl _ _, .inl rfl⟩
/-- What is new ahead of the call is no matter. -/
theorem VBetween.later {w w1 w2 : World} {b g : Nat} {xs : List UInt8} {e : Int} (hc : Chg [] w w1) (h : VBetween w1 w2 b g xs e) : VBetween w w2 b g xs e := by
  obtain ⟨g', h1, h2, h3⟩ := h
  have := hc.size
  refine ⟨g', h1, (hc.mono (by simp)).trans h2, ?_⟩
  rcases h3 with h3 | h3
  · exact .inl h3
  · right; omega

set_option maxHeartbeats 400000 in
theorem vput_had (w : World) (b g : Nat) (xs : List UInt8) (e e' : Int) (B : Option Addr) (m d : Nat) (h : VWr w b g xs e) (he : (e != 0) = true) :
    Calls Tryz.prog 111 #[.pointer (some ⟨b, 0, none⟩), .slice B m d, .int .i64 e'] w fun r w' => r = .returned (.tuple #[]) ∧ w = w' := by
  obtain ⟨A, c, h1, _, _⟩ := h
  have h0 := cell_of h1 1
  simp only [List.getElem?_toArray, List.getElem?_cons_zero, List.getElem?_cons_succ] at h0
  have H := Lib.hid h1
  clear h1
  go_enter Tryz.func111, Tryz.ntmps111
  go_wp2
  refine bodyPost_ret (results_none rfl _ _ _) rfl ?_
  exact ⟨rfl, rfl⟩

theorem verr_fin {w : World} {b g : Nat} {xs : List UInt8} {A : Option Addr} {c : Nat} (e0 e : Int) (h1 : w.heap[b]? = some (.cells #[.slice A xs.length c, .int .i64 e0] 74 (0, 0))) (h2 : OwnB w A c xs) (h3 : A = none ∧ g = b ∨ A = some ⟨g, 0, none⟩) :
    VBetween w (w.setCell ⟨b, 1, none⟩ (.int .i64 e)) b g xs e := by
  have q := heap_setCell_same w b 1 _ _ (.int .i64 e) h1
  have hne := h2.ne h1 (by decide)
  refine ⟨g, ⟨A, c, by simpa using q, h2.keep fun g o eA ho => ?_, h3⟩, (Chg.refl _ _).setCell (by simp) _, .inl rfl⟩
  rw [Below.heap_setCell _ _ _ _ (by have := hne _ eA; exact this)]; exact ho

set_option maxHeartbeats 400000 in
theorem vput_err (w : World) (b g : Nat) (xs : List UInt8) (e' : Int) (B : Option Addr) (m d : Nat) (h : VWr w b g xs 0) (he : (e' == 0) = false) :
    Calls Tryz.prog 111 #[.pointer (some ⟨b, 0, none⟩), .slice B m d, .int .i64 e'] w fun r w' => r = .returned (.tuple #[]) ∧ VBetween w w' b g xs e' := by
  obtain ⟨A, c, h1, h2, h3⟩ := h
  have h0 := cell_of h1 1
  have f0 := free_of h1 1
  simp only [List.getElem?_toArray, List.getElem?_cons_zero, List.getElem?_cons_succ] at h0
  have H := Lib.hid h1
  have H3 := Lib.hid h3
  clear h1 h3
  go_enter Tryz.func111, Tryz.ntmps111
  go_wp2
  go_end0
  exact ⟨rfl, verr_fin _ _ H.out h2 H3.out⟩
set_option maxHeartbeats 400000 in
theorem vput_long (w : World) (b g : Nat) (xs : List UInt8) (B : Option Addr) (m d : Nat) (h : VWr w b g xs 0) (hx : xs.length ≤ 1048576) (hm : m ≤ 140737488355300) (hl : 1048576 < xs.length + m) :
    Calls Tryz.prog 111 #[.pointer (some ⟨b, 0, none⟩), .slice B m d, .int .i64 0] w fun r w' => r = .returned (.tuple #[]) ∧ VBetween w w' b g xs 3 := by
  obtain ⟨A, c, h1, h2, h3⟩ := h
  have h0 := cell_of h1 1
  have h4 := cell_of h1 0
  have f0 := free_of h1 1
  simp only [List.getElem?_toArray, List.getElem?_cons_zero, List.getElem?_cons_succ] at h0 h4
  have H := Lib.hid h1
  have H3 := Lib.hid h3
  clear h1 h3
  go_enter Tryz.func111, Tryz.ntmps111
  go_wp2
  go_end0
  exact ⟨rfl, verr_fin _ _ H.out h2 H3.out⟩

theorem vwr_put {w w1 : World} {b g : Nat} {xs zs : List UInt8} {e : Int} {A A' : Option Addr} {c c' n : Nat} (h1 : w.heap[b]? = some (.cells #[.slice A xs.length c, .int .i64 e] 74 (0, 0))) (h2 : OwnB w A c xs)
    (h3 : A = none ∧ g = b ∨ A = some ⟨g, 0, none⟩) (own1 : OwnB w1 A' c' zs) (hg1 : w.grownBy w1 (A.map (·.block))) (hA1 : A' = A ∨ A' = some ⟨w.heap.size, 0, none⟩) (hn : n = zs.length) :
    VBetween w (w1.setCell ⟨b, 0, none⟩ (.slice A' n c')) b g zs e := by
  subst hn
  have hne := h2.ne h1 (by decide)
  have q1 := grown_at hg1 h1 hne
  have q2 := heap_setCell_same w1 b 0 _ _ (.slice A' zs.length c') q1
  have hne' := own1.ne q1 (by decide)
  have own2 : OwnB (w1.setCell ⟨b, 0, none⟩ (.slice A' zs.length c')) A' c' zs := own1.keep fun g o eA ho => by
    rw [Below.heap_setCell _ _ _ _ (by have := hne' _ eA; exact this)]; exact ho
  have hc : Chg [b, g] w (w1.setCell ⟨b, 0, none⟩ (.slice A' zs.length c')) :=
    ((Chg.refl _ _).grown hg1 (fun k hk => by
      rcases h3 with ⟨rfl, _⟩ | rfl
      · cases hk
      · simp at hk; subst hk; simp)).setCell (by simp) _
  rcases hA1 with rfl | rfl
  · exact ⟨g, ⟨A', c', by simpa using q2, own2, h3⟩, hc, .inl rfl⟩
  · exact ⟨w.heap.size, ⟨_, c', by simpa using q2, own2, .inr rfl⟩, hc, .inr (Nat.le_refl _)⟩

theorem set_same {w : World} {b : Nat} {cs : Array Value} {t : TypeId} {j : Nat} {v : Value} (h : w.heap[b]? = some (.cells cs t (0, 0))) (hj : cs[j]? = some v) : w.setCell ⟨b, j, none⟩ v = w := by
  have : (w.setCell ⟨b, j, none⟩ v).heap = w.heap := by
    apply Array.ext_getElem?
    intro i
    by_cases hi : i = b
    · subst hi
      rw [heap_setCell_same w i j _ _ v h, h]
      congr 2
      apply Array.ext_getElem?
      intro k
      rw [Array.getElem?_setIfInBounds]
      split
      · rename_i e; subst e
        obtain ⟨h5, h6⟩ := Array.getElem?_eq_some_iff.1 hj
        simp [h5, h6]
      · rfl
    · exact Below.heap_setCell _ _ _ _ hi
  unfold World.setCell at this ⊢
  simp only at this
  rw [this]

set_option maxHeartbeats 400000 in
theorem vput_fine (w : World) (b g : Nat) (xs : List UInt8) (B : Option Addr) (m d : Nat) (ys : List UInt8) (h : VWr w b g xs 0) (hr : Bs w B m ys) (hl : xs.length + m ≤ 1048576) :
    Calls Tryz.prog 111 #[.pointer (some ⟨b, 0, none⟩), .slice B m d, .int .i64 0] w fun r w' => r = .returned (.tuple #[]) ∧ VBetween w w' b g (xs ++ ys) 0 := by
  obtain ⟨A, c, h1, h2, h3⟩ := h
  have hs : w.setCell ⟨b, 1, none⟩ (.int .i64 0) = w := set_same h1 rfl
  have hne := h2.ne h1 (by decide)
  have h0 := cell_of h1 1
  have h4 := cell_of h1 0
  have f0 := free_of h1 1
  simp only [List.getElem?_toArray, List.getElem?_cons_zero, List.getElem?_cons_succ] at h0 h4
  have H := Lib.hid h1
  have H3 := Lib.hid h3
  clear h1 h3
  go_enter Tryz.func111, Tryz.ntmps111
  go_wp2_with (at_builtin; refine wpList_app rfl _ _ rfl rfl h2 rfl rfl hr (by omega) ?_; intro A' c' w1 own1 hg1 hA1; have q1 := grown_at hg1 H.out hne; have Q1 := Lib.hid q1; have q2 := cell_of q1 0; have q3 := free_of q1 0; simp only [List.getElem?_toArray, List.getElem?_cons_zero] at q2; clear q1)
  go_end0
  exact ⟨rfl, vwr_put H.out h2 H3.out own1 hg1 hA1 (by simp [hr.len])⟩

theorem nb_fits (n : Nat) (h : n ≤ 9223372036854775807) : nb n ≤ 8 := nb_le n (by omega)

set_option maxHeartbeats 400000 in
theorem vnum_any (w : World) (b g : Nat) (xs : List UInt8) (e x : Int) (h : VWr w b g xs e) (hlen : xs.length ≤ 1048576) (hx : -9223372036854775808 ≤ x) (hx2 : x ≤ 9223372036854775807) :
    Calls Tryz.prog 54 #[.pointer (some ⟨b, 0, none⟩), .int .i64 x] w fun r w' => r = .returned (.tuple #[]) ∧ VBetween w w' b g (wNum xs e x).1 (wNum xs e x).2 := by
  by_cases h1 : x < 0 ∨ 4611686018427387903 < x
  · have hp : Calls Tryz.prog 111 #[.pointer (some ⟨b, 0, none⟩), .slice none 0 0, .int .i64 5] w fun r w' => r = .returned (.tuple #[]) ∧ VBetween w w' b g (wNum xs e x).1 (wNum xs e x).2 := by
      unfold wNum
      by_cases he : e = 0
      · subst he
        simp only [ne_eq, not_true_eq_false, if_false, if_pos h1]
        exact vput_err w b g xs 5 none 0 0 h rfl
      · simp only [ne_eq, he, not_false_eq_true, if_true]
        exact (vput_had w b g xs e 5 none 0 0 h (by simpa using he)).mono fun r w' ⟨h1, h2⟩ => ⟨h1, h2 ▸ VBetween.refl h⟩
    have HP := Lib.hid hp
    clear hp
    rcases h1 with h1 | h1
    all_goals
      go_enter Tryz.func54, Tryz.ntmps54
      go_wp2_with (go_at_call 111; refine HP.out.mono ?_; rintro r w1 ⟨rfl, hB⟩)
      refine bodyPost_ret (results_none rfl _ _ _) rfl ?_
      exact ⟨rfl, hB⟩
  · have h2 : 0 ≤ x := by omega
    have h3 : x ≤ 4611686018427387903 := by omega
    have hb := nb_fits x.toNat (by omega)
    have hp : ∀ w1 A c, Fresh w w1 A c (enc x.toNat) → Calls Tryz.prog 111 #[.pointer (some ⟨b, 0, none⟩), .slice A (1 + nb x.toNat) c, .int .i64 0] w1 fun r w' => r = .returned (.tuple #[]) ∧ VBetween w1 w' b g (wNum xs e x).1 (wNum xs e x).2 := by
      intro w1 A c hF
      have hv := h.chg hF.2.2 (by simp) (by simp)
      have hr := hF.1.reads
      rw [enc_len] at hr
      unfold wNum
      by_cases he : e = 0
      · subst he
        by_cases h4 : 1048576 < 1 + nb x.toNat + xs.length
        · simp only [ne_eq, not_true_eq_false, if_false, if_neg h1, if_pos h4]
          exact vput_long w1 b g xs A _ c hv hlen (by omega) (by omega)
        · simp only [ne_eq, not_true_eq_false, if_false, if_neg h1, if_neg h4]
          exact vput_fine w1 b g xs A _ c _ hv hr (by omega)
      · simp only [ne_eq, he, not_false_eq_true, if_true]
        exact (vput_had w1 b g xs e 0 A _ c hv (by simpa using he)).mono fun r w' ⟨h1, h2⟩ => ⟨h1, h2 ▸ VBetween.refl hv⟩
    have HP := Lib.hid hp
    clear hp h1
    go_enter Tryz.func54, Tryz.ntmps54
    go_wp2_with (first
      | (go_at_call 112; refine (form_any _ x h2 (by omega)).mono ?_; rintro r w1 ⟨A, c, rfl, hF⟩; have HF := Lib.hid hF; clear hF)
      | (go_at_call 111; refine (HP.out _ _ _ HF.out).mono ?_; rintro r w2 ⟨rfl, hB⟩))
    go_end0
    exact ⟨rfl, VBetween.later HF.out.2.2 hB⟩
end
section
open Go.RowKit

theorem fresh_grown {w w1 w2 : World} {A A' : Option Addr} {c c' : Nat} {xs zs : List UInt8} (hF : Fresh w w1 A c xs) (own : OwnB w2 A' c' zs) (hg : w1.grownBy w2 (A.map (·.block))) (hA : A' = A ∨ A' = some ⟨w1.heap.size, 0, none⟩) : Fresh w w2 A' c' zs := by
  have hs := hF.2.2.size
  refine ⟨own, ?_, hF.2.2.grown hg (fun k hk => ?_)⟩
  · rintro a rfl
    rcases hA with h | h
    · exact hF.2.1 _ h.symm
    · cases h; exact hs
  · cases A with
    | none => cases hk
    | some a => simp at hk; subst hk; exact .inr (hF.2.1 _ rfl)

set_option maxHeartbeats 400000 in
theorem vraw_any (w : World) (b g : Nat) (xs : List UInt8) (e : Int) (B : Option Addr) (m d : Nat) (ys : List UInt8) (h : VWr w b g xs e) (hlen : xs.length ≤ 1048576) (hm : m ≤ 140737488351232) (hr : Bs w B m ys) :
    Calls Tryz.prog 56 #[.pointer (some ⟨b, 0, none⟩), .slice B m d] w fun r w' => r = .returned (.tuple #[]) ∧ VBetween w w' b g (wRaw xs e ys).1 (wRaw xs e ys).2 := by
  have hl := hr.len
  subst hl
  have hb := nb_fits ys.length (by omega)
  have hp : ∀ w1 A c, Fresh w w1 A c (enc (ys.length : Int).toNat ++ ys) → Calls Tryz.prog 111 #[.pointer (some ⟨b, 0, none⟩), .slice A (1 + nb ys.length + ys.length) c, .int .i64 0] w1 fun r w' => r = .returned (.tuple #[]) ∧ VBetween w1 w' b g (wRaw xs e ys).1 (wRaw xs e ys).2 := by
    intro w1 A c hF
    have hv := h.chg hF.2.2 (by simp) (by simp)
    have hr := hF.1.reads
    rw [List.length_append, enc_len, Int.toNat_natCast] at hr
    unfold wRaw
    by_cases he : e = 0
    · subst he
      by_cases h4 : 1048576 < 1 + nb ys.length + ys.length + xs.length
      · simp only [ne_eq, not_true_eq_false, if_false, if_pos h4]
        exact vput_long w1 b g xs A _ c hv hlen (by omega) (by omega)
      · simp only [ne_eq, not_true_eq_false, if_false, if_neg h4, List.append_assoc]
        exact vput_fine w1 b g xs A _ c _ hv hr (by omega)
    · simp only [ne_eq, he, not_false_eq_true, if_true]
      exact (vput_had w1 b g xs e 0 A _ c hv (by simpa using he)).mono fun r w' ⟨h1, h2⟩ => ⟨h1, h2 ▸ VBetween.refl hv⟩
  have HP := Lib.hid hp
  have HR := Lib.hid hr
  have hel : (enc (ys.length : Int).toNat).length = 1 + nb ys.length := by rw [enc_len, Int.toNat_natCast]
  have HE := Lib.hid hel
  clear hp hr hel
  go_enter Tryz.func56, Tryz.ntmps56
  go_wp2_with (first
    | (go_at_call 112; refine (form_any _ _ (by omega) (by omega)).mono ?_; rintro r w1 ⟨A, c, rfl, hF⟩; have HF := Lib.hid hF; clear hF)
    | (at_builtin; refine wpList_app rfl _ _ rfl rfl HF.out.1 HE.out rfl (HR.out.chg HF.out.2.2 (by simp)) (by omega) ?_; intro A2 c2 w2 own2 hg2 hA2; have HF2 := Lib.hid (fresh_grown HF.out own2 hg2 hA2); clear own2 hg2 hA2)
    | (go_at_call 111; refine (HP.out _ _ _ HF2.out).mono ?_; rintro r w3 ⟨rfl, hB⟩))
  go_end0
  exact ⟨rfl, VBetween.later HF2.out.2.2 hB⟩

set_option maxHeartbeats 400000 in
theorem vtext_any (w : World) (b g : Nat) (xs : List UInt8) (e : Int) (s : ByteArray) (h : VWr w b g xs e) (hlen : xs.length ≤ 1048576) (hm : s.size ≤ 140737488351232) :
    Calls Tryz.prog 55 #[.pointer (some ⟨b, 0, none⟩), .string s] w fun r w' => r = .returned (.tuple #[]) ∧ VBetween w w' b g (wRaw xs e s.data.toList).1 (wRaw xs e s.data.toList).2 := by
  have hcv := fun w => run_bytes_of_string (P := Tryz.prog) w 9 24 5 s Tryz.underlying9 Tryz.underlying24 Tryz.underlying5
  have hc : Chg [] w (w.alloc (.cells (bytesRow s (grownCap w s.size 0 5)) 5 ((bytesRow s (grownCap w s.size 0 5)).size, (bytesRow s (grownCap w s.size 0 5)).size + 1))).drew := ((Chg.refl [] w).alloc _).drew
  have hv := vraw_any _ b g xs e (some ⟨w.heap.size, 0, none⟩) s.size (grownCap w s.size 0 5) s.data.toList (h.chg hc (by simp) (by simp)) hlen hm (Bs.str w s _ _)
  have HV := Lib.hid hv
  have HC := Lib.hid hc
  clear hv hc
  go_enter Tryz.func55, Tryz.ntmps55
  go_wp2_with (go_at_call 56; refine HV.out.mono ?_; rintro r w1 ⟨rfl, hB⟩)
  go_end0
  exact ⟨rfl, VBetween.later HC.out hB⟩

set_option maxHeartbeats 400000 in
theorem vout_any (w : World) (b g : Nat) (xs : List UInt8) (e : Int) (h : VWr w b g xs e) (hlen : xs.length ≤ 1048576) :
    Calls Tryz.prog 57 #[.pointer (some ⟨b, 0, none⟩)] w fun r w' => ∃ A c, r = .returned (.tuple #[.slice A (outs xs e).length c, .int .i64 e]) ∧ Fresh w w' A c (outs xs e) := by
  obtain ⟨A, c, h1, h2, _⟩ := id h
  have k1 := cell_of h1 0
  have k2 := cell_of h1 1
  simp only [List.getElem?_toArray, List.getElem?_cons_zero, List.getElem?_cons_succ] at k1 k2
  have hb := lt_of_heap h1
  have H := Lib.hid h1
  clear h1
  unfold outs
  by_cases he : e = 0
  · subst he
    simp only [if_true]
    go_enter Tryz.func57, Tryz.ntmps57
    go_wp2_with (at_builtin; refine wpList_app rfl _ _ rfl rfl (OwnB.empty w) rfl rfl (h2.reads.chg ((Chg.refl [] w).alloc _) (by simp)) (by simp; omega) ?_; intro A' c' w1 own1 hg1 hA1)
    go_ret2
    exact ⟨A', c', by simp, fresh_app own1 hg1 hA1⟩
  · simp only [if_neg he]
    have he' : (e != 0) = true := by simpa using he
    clear he
    go_enter Tryz.func57, Tryz.ntmps57
    go_wp2
    go_region
    all_goals (go_wp2; go_ret2; exact ⟨none, 0, rfl, OwnB.none_ _, by simp, (Chg.refl _ _).drew⟩)
end
section
open Go.RowKit

/-- The document's reader at block v, of the bytes at A. -/
def URdr (w : World) (v : Nat) (A : Option Addr) (c : Nat) (xs : List UInt8) (p : Nat) (fe fa : Int) : Prop :=
  w.heap[v]? = some (.cells #[.slice A xs.length c, .int .i64 p, .int .i64 fe, .int .i64 fa] 127 (0, 0)) ∧ Bs w A xs.length xs ∧ (xs = [] ∨ ∀ a, A = some a → a.block ≠ v) ∧ xs.length ≤ c ∧ c ≤ 9223372036854775807

theorem URdr.chg {S : List Nat} {w w' : World} {v : Nat} {A : Option Addr} {c : Nat} {xs : List UInt8} {p : Nat} {fe fa : Int} (h : URdr w v A c xs p fe fa) (hc : Chg S w w') (hv : v ∉ S) (hA : xs = [] ∨ ∀ a, A = some a → a.block ∉ S) : URdr w' v A c xs p fe fa := by
  obtain ⟨h1, h2, h3⟩ := h
  refine ⟨hc.at_ h1 hv, ?_, h3⟩
  rcases hA with rfl | hA
  · exact Bs.nil _ _
  · exact h2.chg hc hA
theorem URdr.cells {w : World} {v : Nat} {A : Option Addr} {c : Nat} {xs : List UInt8} {p : Nat} {fe fa : Int} (h : URdr w v A c xs p fe fa) :
    w.cell? ⟨v, 0, none⟩ = some (.slice A xs.length c) ∧ w.cell? ⟨v, 1, none⟩ = some (.int .i64 p) ∧ w.cell? ⟨v, 2, none⟩ = some (.int .i64 fe) ∧ w.cell? ⟨v, 3, none⟩ = some (.int .i64 fa) ∧ ∀ j, w.frozen? ⟨v, j, none⟩ = false :=
  ⟨cell_of h.1 0, cell_of h.1 1, cell_of h.1 2, cell_of h.1 3, fun j => free_of h.1 j⟩
theorem URdr.set {w : World} {v : Nat} {A : Option Addr} {c : Nat} {xs : List UInt8} {p : Nat} {fe fa : Int} (h : URdr w v A c xs p fe fa) (e q : Int) :
    URdr ((w.setCell ⟨v, 2, none⟩ (.int .i64 e)).setCell ⟨v, 3, none⟩ (.int .i64 q)) v A c xs p e q ∧ Chg [v] w ((w.setCell ⟨v, 2, none⟩ (.int .i64 e)).setCell ⟨v, 3, none⟩ (.int .i64 q)) := by
  have q1 := heap_setCell_same w v 2 _ _ (.int .i64 e) h.1
  have q2 := heap_setCell_same _ v 3 _ _ (.int .i64 q) q1
  have hc : Chg [v] w ((w.setCell ⟨v, 2, none⟩ (.int .i64 e)).setCell ⟨v, 3, none⟩ (.int .i64 q)) := ((Chg.refl _ _).setCell (by simp) _).setCell (by simp) _
  refine ⟨⟨by simpa using q2, ?_, h.2.2⟩, hc⟩
  rcases h.2.2.1 with h3 | h3
  · subst h3; exact Bs.nil _ _
  · exact h.2.1.chg hc (fun a e => by simpa using h3 a e)
theorem URdr.place {w : World} {v : Nat} {A : Option Addr} {c : Nat} {xs : List UInt8} {p : Nat} {fe fa : Int} (h : URdr w v A c xs p fe fa) (q : Nat) :
    URdr (w.setCell ⟨v, 1, none⟩ (.int .i64 q)) v A c xs q fe fa ∧ Chg [v] w (w.setCell ⟨v, 1, none⟩ (.int .i64 q)) := by
  have q1 := heap_setCell_same w v 1 _ _ (.int .i64 q) h.1
  have hc : Chg [v] w (w.setCell ⟨v, 1, none⟩ (.int .i64 q)) := (Chg.refl _ _).setCell (by simp) _
  refine ⟨⟨by simpa using q1, ?_, h.2.2⟩, hc⟩
  rcases h.2.2.1 with h3 | h3
  · subst h3; exact Bs.nil _ _
  · exact h.2.1.chg hc (fun a e => by simpa using h3 a e)
theorem URdr.drewN {w : World} {v : Nat} {A : Option Addr} {c : Nat} {xs : List UInt8} {p : Nat} {fe fa : Int} (h : URdr w v A c xs p fe fa) (n : Nat) : URdr (w.drewN n) v A c xs p fe fa := h.chg ((Chg.refl [] w).drewN n) (by simp) (.inr (by simp))
/-- Where the bytes lie. -/
theorem Bs.from {w : World} {A : Option Addr} {n : Nat} {xs : List UInt8} (h : Bs w A n xs) (h0 : 0 < xs.length) : ∃ g o, A = some ⟨g, o, none⟩ ∧ ∀ j, j < xs.length → w.cell? ⟨g, o + j, none⟩ = some (.int .u8 ((xs.getD j 0).toNat : Int)) := by
  obtain ⟨a, rfl, hc⟩ := h.cells 0 _ (List.getElem?_eq_getElem h0)
  have hsp := World.cell?_spot hc
  obtain ⟨g, o, sp⟩ := a
  have hsp : sp = none := by simpa [Addr.add] using hsp
  subst hsp
  refine ⟨g, o, rfl, fun j hj => ?_⟩
  obtain ⟨a', e, hcj⟩ := h.cells j _ (List.getElem?_eq_getElem hj)
  cases e
  rw [add_lit] at hcj
  rw [hcj]
  simp [bv, List.getD, hj]
end
section
open Go.RowKit
end
section
open Go.RowKit

theorem URdr.step {w : World} {v : Nat} {A : Option Addr} {c : Nat} {xs : List UInt8} {p : Nat} {fe fa : Int} (h : URdr w v A c xs p fe fa) (n q : Nat) :
    URdr ((w.drewN n).setCell ⟨v, 1, none⟩ (.int .i64 q)) v A c xs q fe fa ∧ Chg [v] w ((w.drewN n).setCell ⟨v, 1, none⟩ (.int .i64 q)) :=
  ⟨((h.drewN n).place q).1, ((Chg.refl _ _).drewN n).trans ((h.drewN n).place q).2⟩
end
section
open Go.RowKit

theorem add_twice (a : Addr) (i j : Nat) : (a.add i).add j = a.add (i + j) := by
  unfold Addr.add
  by_cases hi : i = 0 <;> by_cases hj : j = 0 <;> simp [hi, hj, Nat.add_assoc]
/-- A part of bytes. -/
theorem Bs.part {w : World} {A : Option Addr} {xs : List UInt8} (h : Bs w A xs.length xs) (q n : Nat) (hq : q + n ≤ xs.length) : Bs w (Option.map (fun x => x.add q) A) n ((xs.drop q).take n) := by
  refine ⟨by simp; omega, fun j u hj => ?_⟩
  rw [List.getElem?_take, List.getElem?_drop] at hj
  split at hj
  · obtain ⟨a, rfl, hc⟩ := h.cells (q + j) u hj
    exact ⟨a.add q, rfl, by rw [add_twice]; exact hc⟩
  · cases hj

/-- What Raw of the document's reader leaves. -/
def URawPost (w : World) (v : Nat) (A : Option Addr) (c : Nat) (xs : List UInt8) (r : List UInt8 × Nat × Int × Int) (e : Ending) (w' : World) : Prop :=
  ∃ A' c', e = .returned (.slice A' r.1.length c') ∧ OwnB w' A' c' r.1 ∧ (∀ a, A' = some a → w.heap.size ≤ a.block) ∧ URdr w' v A c xs r.2.1 r.2.2.1 r.2.2.2 ∧ Chg [v] w w'

theorem URdr.back {w : World} {v : Nat} {A : Option Addr} {c : Nat} {xs : List UInt8} {p q : Nat} {fe fa : Int} (h : URdr w v A c xs q fe fa) (n : Nat) :
    URawPost w v A c xs ([], p, fe, fa) (.returned (.slice none 0 0)) ((w.drewN n).setCell ⟨v, 1, none⟩ (.int .i64 p)) :=
  ⟨none, 0, rfl, OwnB.none_ _, by simp, h.step n p⟩
theorem URawPost.after {w w1 w' : World} {v : Nat} {A : Option Addr} {c : Nat} {xs : List UInt8} {r : List UInt8 × Nat × Int × Int} {e : Ending} (hc : Chg [v] w w1) (h : URawPost w1 v A c xs r e w') : URawPost w v A c xs r e w' := by
  obtain ⟨A', c', h1, h2, h3, h4, h5⟩ := h
  have := hc.size
  exact ⟨A', c', h1, h2, fun a e => by have := h3 a e; omega, h4, hc.trans h5⟩
end
section
open Go.RowKit

/-- The document's writer, made since w. -/
def Vs (w w' : World) (b : Nat) (xs : List UInt8) (e : Int) : Prop := ∃ g, VWr w' b g xs e ∧ w.heap.size ≤ b ∧ w.heap.size ≤ g ∧ Chg [] w w'
theorem Vs.chg {w w' : World} {b : Nat} {xs : List UInt8} {e : Int} (h : Vs w w' b xs e) : Chg [] w w' := by obtain ⟨_, _, _, _, h⟩ := h; exact h
theorem Vs.past {w w1 w2 : World} {b : Nat} {xs : List UInt8} {e : Int} (h : Vs w w1 b xs e) (hc : Chg [] w1 w2) : Vs w w2 b xs e := by
  obtain ⟨g, h1, h2, h3, h4⟩ := h
  exact ⟨g, h1.chg hc (by simp) (by simp), h2, h3, h4.trans hc⟩
theorem vs_between {w w1 w2 : World} {b g : Nat} {xs : List UInt8} {e : Int} (h2 : w.heap.size ≤ b) (h3 : w.heap.size ≤ g) (h4 : Chg [] w w1) (h : VBetween w1 w2 b g xs e) : Vs w w2 b xs e := by
  obtain ⟨g', q1, q2, q3⟩ := h
  have := h4.size
  refine ⟨g', q1, h2, by omega, h4.both q2 ?_⟩
  intro i hi
  simp at hi
  omega
/-- A writer in a new block. -/
theorem vs_new (w w1 : World) (hc : Chg [] w w1) : Vs w (w1.alloc (.cells #[.slice none 0 0, .int .i64 0] 74)) w1.heap.size [] 0 :=
  ⟨w1.heap.size, ⟨none, 0, heap_alloc_new w1 _, OwnB.none_ _, .inl ⟨rfl, rfl⟩⟩, hc.size, hc.size, hc.alloc _⟩
theorem vs_num (w w1 : World) (b : Nat) (xs : List UInt8) (e x : Int) (h : Vs w w1 b xs e) (hlen : xs.length ≤ 1048576) (hx : -9223372036854775808 ≤ x) (hx2 : x ≤ 9223372036854775807) :
    Calls Tryz.prog 54 #[.pointer (some ⟨b, 0, none⟩), .int .i64 x] w1 fun r w' => r = .returned (.tuple #[]) ∧ Vs w w' b (wNum xs e x).1 (wNum xs e x).2 := by
  obtain ⟨g, h1, h2, h3, h4⟩ := h
  exact (vnum_any w1 b g xs e x h1 hlen hx hx2).mono fun _ _ ⟨q1, q2⟩ => ⟨q1, vs_between h2 h3 h4 q2⟩
theorem vs_raw (w w1 : World) (b : Nat) (xs : List UInt8) (e : Int) (B : Option Addr) (m d : Nat) (ys : List UInt8) (h : Vs w w1 b xs e) (hlen : xs.length ≤ 1048576) (hm : m ≤ 140737488351232) (hr : Bs w B m ys) :
    Calls Tryz.prog 56 #[.pointer (some ⟨b, 0, none⟩), .slice B m d] w1 fun r w' => r = .returned (.tuple #[]) ∧ Vs w w' b (wRaw xs e ys).1 (wRaw xs e ys).2 := by
  obtain ⟨g, h1, h2, h3, h4⟩ := h
  exact (vraw_any w1 b g xs e B m d ys h1 hlen hm (hr.chg h4 (by simp))).mono fun _ _ ⟨q1, q2⟩ => ⟨q1, vs_between h2 h3 h4 q2⟩
theorem vs_text (w w1 : World) (b : Nat) (xs : List UInt8) (e : Int) (s : ByteArray) (h : Vs w w1 b xs e) (hlen : xs.length ≤ 1048576) (hm : s.size ≤ 140737488351232) :
    Calls Tryz.prog 55 #[.pointer (some ⟨b, 0, none⟩), .string s] w1 fun r w' => r = .returned (.tuple #[]) ∧ Vs w w' b (wRaw xs e s.data.toList).1 (wRaw xs e s.data.toList).2 := by
  obtain ⟨g, h1, h2, h3, h4⟩ := h
  exact (vtext_any w1 b g xs e s h1 hlen hm).mono fun _ _ ⟨q1, q2⟩ => ⟨q1, vs_between h2 h3 h4 q2⟩
theorem vs_out (w w1 : World) (b : Nat) (xs : List UInt8) (e : Int) (h : Vs w w1 b xs e) (hlen : xs.length ≤ 1048576) :
    Calls Tryz.prog 57 #[.pointer (some ⟨b, 0, none⟩)] w1 fun r w' => ∃ A c, r = .returned (.tuple #[.slice A (outs xs e).length c, .int .i64 e]) ∧ Fresh w w' A c (outs xs e) := by
  obtain ⟨g, h1, h2, h3, h4⟩ := h
  exact (vout_any w1 b g xs e h1 hlen).mono fun _ _ ⟨A, c, q1, q2⟩ => ⟨A, c, q1, q2.since h4⟩
/-- The document's reader of bytes that w has, made since w. -/
def Us (w w' : World) (v : Nat) (A : Option Addr) (c : Nat) (xs : List UInt8) (p : Nat) (fe fa : Int) : Prop := URdr w' v A c xs p fe fa ∧ w.heap.size ≤ v ∧ Chg [] w w' ∧ Bs w A xs.length xs ∧ p ≤ xs.length ∧ xs.length ≤ 140737488351232
theorem Us.chg {w w' : World} {v : Nat} {A : Option Addr} {c : Nat} {xs : List UInt8} {p : Nat} {fe fa : Int} (h : Us w w' v A c xs p fe fa) : Chg [] w w' := h.2.2.1
theorem Us.past {w w1 w2 : World} {v : Nat} {A : Option Addr} {c : Nat} {xs : List UInt8} {p : Nat} {fe fa : Int} (h : Us w w1 v A c xs p fe fa) (hc : Chg [] w1 w2) : Us w w2 v A c xs p fe fa :=
  ⟨h.1.chg hc (by simp) (.inr (by simp)), h.2.1, h.2.2.1.trans hc, h.2.2.2⟩
end
section
open Go.RowKit

set_option maxHeartbeats 4000000 in
theorem fcheck_any (w : World) (k m : Int) (A : Option Addr) (n c : Nat) (hn : n ≤ 140737488351232) :
    Calls Tryz.prog 65 #[.agg #[.int .i64 k, .int .i64 m, .slice A n c]] w fun e w' => e = .returned (.int .i64 (chkE k m n)) ∧ Chg [] w w' := by
  have go : ∀ v, chkE k m n = v → Calls Tryz.prog 65 #[.agg #[.int .i64 k, .int .i64 m, .slice A n c]] w (fun e w' => e = .returned (.int .i64 v) ∧ Chg [] w w') → Calls Tryz.prog 65 #[.agg #[.int .i64 k, .int .i64 m, .slice A n c]] w fun e w' => e = .returned (.int .i64 (chkE k m n)) ∧ Chg [] w w' := fun v hv h => hv ▸ h
  by_cases h1 : k = 1
  · subst h1
    by_cases m0 : m < 0
    · refine go 2 (chkE_odd (by unfold Fine; omega)) ?_
      have m0' : ¬ 0 ≤ m := by omega
      clear go
      go_enter Tryz.func65, Tryz.ntmps65
      go_wp2
      go_ret
      exact ⟨rfl, (Chg.refl _ _).alloc _⟩
    have m0' : 0 ≤ m := by omega
    by_cases m1 : 511 < m
    · refine go 2 (chkE_odd (by unfold Fine; omega)) ?_
      have m1' : ¬ m ≤ 511 := by omega
      clear go
      go_enter Tryz.func65, Tryz.ntmps65
      go_wp2
      go_ret
      exact ⟨rfl, (Chg.refl _ _).alloc _⟩
    have m1' : m ≤ 511 := by omega
    by_cases n1 : 1000 < n
    · refine go 2 (chkE_odd (by unfold Fine; omega)) ?_
      have n1' : decide ((n : Int) ≤ 1000) = false := by simp; omega
      clear go
      go_enter Tryz.func65, Tryz.ntmps65
      go_wp2
      go_ret
      exact ⟨rfl, (Chg.refl _ _).alloc _⟩
    · refine go 0 (chkE_fine (by unfold Fine; omega)) ?_
      have n1' : decide ((n : Int) ≤ 1000) = true := by simp; omega
      clear go
      go_enter Tryz.func65, Tryz.ntmps65
      go_wp2
      go_ret
      exact ⟨rfl, (Chg.refl _ _).alloc _⟩
  have h1' : (k == 1) = false := by simpa using h1
  by_cases h2 : k = 2
  · subst h2
    by_cases m0 : m < 0
    · refine go 2 (chkE_odd (by unfold Fine; omega)) ?_
      have m0' : ¬ 0 ≤ m := by omega
      clear go
      go_enter Tryz.func65, Tryz.ntmps65
      go_wp2
      go_ret
      exact ⟨rfl, (Chg.refl _ _).alloc _⟩
    have m0' : 0 ≤ m := by omega
    by_cases m1 : 511 < m
    · refine go 2 (chkE_odd (by unfold Fine; omega)) ?_
      have m1' : ¬ m ≤ 511 := by omega
      clear go
      go_enter Tryz.func65, Tryz.ntmps65
      go_wp2
      go_ret
      exact ⟨rfl, (Chg.refl _ _).alloc _⟩
    have m1' : m ≤ 511 := by omega
    by_cases n1 : n = 0
    · subst n1
      refine go 0 (chkE_fine (by unfold Fine; omega)) ?_
      clear go
      go_enter Tryz.func65, Tryz.ntmps65
      go_wp2
      go_ret
      exact ⟨rfl, (Chg.refl _ _).alloc _⟩
    · refine go 2 (chkE_odd (by unfold Fine; omega)) ?_
      have n1' : ((n : Int) == 0) = false := by simp; omega
      clear go
      go_enter Tryz.func65, Tryz.ntmps65
      go_wp2
      go_ret
      exact ⟨rfl, (Chg.refl _ _).alloc _⟩
  have h2' : (k == 2) = false := by simpa using h2
  by_cases h3 : k = 3
  · subst h3
    by_cases m0 : m = 0
    · subst m0
      by_cases n1 : n = 0
      · subst n1
        refine go 0 (chkE_fine (by unfold Fine; omega)) ?_
        clear go
        go_enter Tryz.func65, Tryz.ntmps65
        go_wp2
        go_ret
        exact ⟨rfl, (Chg.refl _ _).alloc _⟩
      · refine go 2 (chkE_odd (by unfold Fine; omega)) ?_
        have n1' : ((n : Int) == 0) = false := by simp; omega
        clear go
        go_enter Tryz.func65, Tryz.ntmps65
        go_wp2
        go_ret
        exact ⟨rfl, (Chg.refl _ _).alloc _⟩
    · refine go 2 (chkE_odd (by unfold Fine; omega)) ?_
      have m0' : (m == 0) = false := by simpa using m0
      clear go
      go_enter Tryz.func65, Tryz.ntmps65
      go_wp2
      go_ret
      exact ⟨rfl, (Chg.refl _ _).alloc _⟩
  have h3' : (k == 3) = false := by simpa using h3
  refine go 2 (chkE_odd (by unfold Fine; omega)) ?_
  clear go
  go_enter Tryz.func65, Tryz.ntmps65
  go_wp2
  go_ret
  exact ⟨rfl, (Chg.refl _ _).alloc _⟩

theorem cmpI_zeroF {a b : Int} : cmpI a b = 0 ↔ a = b := by
  unfold cmpI
  split
  · constructor <;> omega
  · split
    · constructor <;> omega
    · constructor <;> omega
theorem cmpB_zero : ∀ (a b : List UInt8), Lib.compareBytes a b = 0 ↔ a = b
  | [], [] => by simp [Lib.compareBytes]
  | [], _ :: _ => by simp [Lib.compareBytes]
  | _ :: _, [] => by simp [Lib.compareBytes]
  | x :: a, y :: b => by
    unfold Lib.compareBytes
    have ih := cmpB_zero a b
    by_cases h : x < y
    · rw [if_pos h]
      constructor
      · intro e; simp at e
      · intro e; cases e; exact absurd h (UInt8.lt_irrefl _)
    · by_cases h' : y < x
      · rw [if_neg h, if_pos h']
        constructor
        · intro e; simp at e
        · intro e; cases e; exact absurd h' (UInt8.lt_irrefl _)
      · rw [if_neg h, if_neg h', ih]
        have : x = y := UInt8.le_antisymm (UInt8.not_lt.1 h') (UInt8.not_lt.1 h)
        subst this
        simp
theorem or3_zero {a b c : Int} : or3 a b c = 0 ↔ a = 0 ∧ b = 0 ∧ c = 0 := by
  unfold or3
  split
  · constructor <;> omega
  · split
    · constructor <;> omega
    · constructor <;> omega
theorem cmpE_zero {k m k' m' : Int} {xs ys : List UInt8} : cmpE k m xs k' m' ys = 0 ↔ k = k' ∧ m = m' ∧ xs = ys := by
  unfold cmpE
  rw [or3_zero, cmpI_zeroF, cmpI_zeroF, cmpB_zero]
set_option maxRecDepth 20000 in
set_option maxHeartbeats 1000000 in
theorem fsame_any (w : World) (k m k' m' : Int) (A B : Option Addr) (n c n' d : Nat) (xs ys : List UInt8) (h : Bs w A n xs) (h' : Bs w B n' ys) :
    Calls Tryz.prog 72 #[.agg #[.int .i64 k, .int .i64 m, .slice A n c], .agg #[.int .i64 k', .int .i64 m', .slice B n' d]] w fun e w' => e = .returned (.bool (cmpE k m xs k' m' ys == 0)) ∧ Chg [] w w' := by
  have c0 := ((Chg.refl [] w).alloc (.cells #[.int .i64 k, .int .i64 m, .slice A n c] 26)).alloc (.cells #[.int .i64 k', .int .i64 m', .slice B n' d] 26)
  have C0 := Lib.hid c0
  have s1 := run_str _ (c := c) (h.chg c0 (by simp))
  have s2 := run_str _ (c := d) (h'.chg c0 (by simp))
  clear c0 h h'
  generalize hr : (cmpE k m xs k' m' ys == 0) = R
  have HR := Lib.hid hr
  clear hr
  by_cases e1 : k = k'
  · subst e1
    by_cases e2 : m = m'
    · subst e2
      go_enter Tryz.func72, Tryz.ntmps72
      go_wp2
      go_ret
      refine ⟨?_, C0.out⟩
      show Ending.returned (.bool (xs == ys)) = Ending.returned (.bool R)
      rw [← HR.out]
      congr 2
      rw [Bool.eq_iff_iff, beq_iff_eq, beq_iff_eq, cmpE_zero]
      simp
    · have e2' : (m == m') = false := by simpa using e2
      clear s1 s2
      go_enter Tryz.func72, Tryz.ntmps72
      go_wp2
      go_ret
      refine ⟨?_, C0.out⟩
      show Ending.returned (.bool false) = Ending.returned (.bool R)
      rw [← HR.out]
      congr 2
      rw [Bool.eq_iff_iff, beq_iff_eq, cmpE_zero]
      simp [e2]
  · have e1' : (k == k') = false := by simpa using e1
    clear s1 s2
    go_enter Tryz.func72, Tryz.ntmps72
    go_wp2
    go_ret
    refine ⟨?_, C0.out⟩
    show Ending.returned (.bool false) = Ending.returned (.bool R)
    rw [← HR.out]
    congr 2
    rw [Bool.eq_iff_iff, beq_iff_eq, cmpE_zero]
    simp [e1]

set_option maxHeartbeats 1000000 in
theorem fbytes_any (w : World) (k m : Int) (A : Option Addr) (n c : Nat) (ys : List UInt8) (h : Bs w A n ys) (hn : n ≤ 140737488351232) :
    Calls Tryz.prog 52 #[.agg #[.int .i64 k, .int .i64 m, .slice A n c]] w fun e w' => ∃ A' c', e = .returned (.tuple #[.slice A' (effO k m ys).length c', .int .i64 (chkE k m n)]) ∧ Fresh w w' A' c' (effO k m ys) := by
  have hl := h.len
  subst hl
  obtain ⟨w0, hw0⟩ : ∃ w0 : World, w0 = w.alloc (.cells #[.int .i64 k, .int .i64 m, .slice A ys.length c] 26) := ⟨_, rfl⟩
  have c0 : Chg [] w w0 := hw0 ▸ (Chg.refl [] w).alloc _
  have b0 : w0.heap[w.heap.size]? = some (.cells #[.int .i64 k, .int .i64 m, .slice A ys.length c] 26 (0, 0)) := hw0 ▸ heap_alloc_new w _
  have k0 := cell_of b0 0
  have k1 := cell_of b0 1
  have k2 := cell_of b0 2
  simp only [List.getElem?_toArray, List.getElem?_cons_succ, List.getElem?_cons_zero] at k0 k1 k2
  have H := Lib.hid (h.chg c0 (by simp))
  have W0 := Lib.hid hw0
  have C0 := Lib.hid c0
  clear hw0 c0 b0 h
  unfold effO
  by_cases hf : Fine k m ys.length
  · rw [if_pos hf, chkE_fine hf]
    obtain ⟨e1, e2, e3, l1, l2, l3⟩ := eff_writes hf
    have hb := fine_len hf
    have E1 := Lib.hid e1
    have E2 := Lib.hid e2
    have E3 := Lib.hid e3
    have hc := fcheck_any w0 k m A ys.length c hn
    rw [chkE_fine hf] at hc
    have HC := Lib.hid hc
    clear e1 e2 e3 hf hc
    go_enter Tryz.func52, Tryz.ntmps52
    go_wp2_with fail
    rw [← W0.out]
    refine HC.out.mono ?_
    rintro e w1 ⟨rfl, c1⟩
    have C1 := Lib.hid c1
    have hv := vs_new w0 w1 c1
    have p0 := (hv.chg).cell k0 (by simp)
    have K2 := Lib.hid hv
    clear c1 hv
    generalize w.heap.size = s at *
    go_wp2_with fail
    refine (vs_num w0 _ _ [] 0 k K2.out (by simp) (by omega) (by omega)).mono ?_
    rintro e w3 ⟨rfl, h3⟩
    rw [E1.out] at h3
    have p1 := h3.chg.cell k1 (by simp)
    have K3 := Lib.hid h3
    clear h3 p0 K2
    generalize w1.heap.size = b at *
    go_wp2_with fail
    refine (vs_num w0 w3 b _ 0 m K3.out (by omega) (by omega) (by omega)).mono ?_
    rintro e w4 ⟨rfl, h4⟩
    rw [E2.out] at h4
    have p2 := h4.chg.cell k2 (by simp)
    have K4 := Lib.hid h4
    clear h4 p1 K3
    go_wp2_with fail
    refine (vs_raw w0 w4 b _ 0 A ys.length c ys K4.out (by omega) hn H.out).mono ?_
    rintro e w5 ⟨rfl, h5⟩
    rw [E3.out] at h5
    have K5 := Lib.hid h5
    clear h5 p2 K4
    go_wp2_with fail
    refine (vs_out w0 w5 b _ 0 K5.out (by omega)).mono ?_
    rintro e w6 ⟨A', c', rfl, h6⟩
    have e0 : outs (effB k m ys) 0 = effB k m ys := by simp [outs]
    rw [e0] at h6 ⊢
    have K6 := Lib.hid (h6.since C0.out)
    clear h6 e0 k0 k1 k2 K5
    go_wp2
    go_ret2
    exact ⟨A', c', rfl, K6.out⟩
  · rw [if_neg hf, chkE_odd hf]
    have hc := fcheck_any w0 k m A ys.length c hn
    rw [chkE_odd hf] at hc
    have HC := Lib.hid hc
    clear hf hc
    go_enter Tryz.func52, Tryz.ntmps52
    go_wp2_with fail
    rw [← W0.out]
    refine HC.out.mono ?_
    rintro e w1 ⟨rfl, c1⟩
    have C1 := Lib.hid (C0.out.trans c1)
    clear c1
    go_wp2
    go_ret2
    exact ⟨none, 0, rfl, Fresh.none_ C1.out⟩
end
section
open Go.RowKit Go.Lib
set_option linter.unusedSimpArgs false
set_option linter.unusedVariables false


set_option maxHeartbeats 1000000 in
theorem equalspan_any (w : World) (A B : Option Addr) (n m c d : Nat) (xs ys : List (Int × Int × Int)) (h : RdK spanTy w A n xs) (h' : RdK spanTy w B m ys) (hn : n ≤ 140737488351232) (hm : m ≤ 140737488351232) :
    Calls Tryz.prog 120 #[.slice A n c, .slice B m d] w fun e w' => e = .returned (.bool (xs == ys)) ∧ Chg [] w w' := by
  have hl := h.len
  have hl2 := h'.len
  subst hl hl2
  by_cases hne : xs.length = ys.length
  · have hb : ((xs.length : Int) == (ys.length : Int)) = true := by simp; omega
    have HN := Lib.hid hne
    have HA := Lib.hid h
    have HB := Lib.hid h'
    clear hne h h'
    go_enter Tryz.func120, Tryz.ntmps120
    go_wp2
    go_loopw [5, 13] (fun _ i wr => ∃ k : Nat, k ≤ xs.length ∧ i = .int .i64 k ∧ Hid (xs.take k = ys.take k ∧ Chg [] w wr)) (fun _ i _ => xs.length - (RowKit.intOf i).toNat)
    case atStart => exact ⟨0, Nat.zero_le _, rfl, rfl, Chg.refl _ _⟩
    case round =>
      obtain ⟨k, hk, rfl, HI⟩ := hrel
      by_cases hlt : k < xs.length
      · have hlt2 : k < ys.length := by have := HN.out; omega
        obtain ⟨g, o, eA, _⟩ := HA.out.line (by omega)
        obtain ⟨g2, o2, eB, _⟩ := HB.out.line (by omega)
        subst eA eB
        have ex := List.getElem?_eq_getElem hlt
        have ey := List.getElem?_eq_getElem hlt2
        obtain ⟨p0, p1, p2⟩ := spanCells (HA.out.chg HI.out.2 (by simp)) ex
        obtain ⟨q0, q1, q2⟩ := spanCells (HB.out.chg HI.out.2 (by simp)) ey
        generalize hx : xs[k] = x at *
        generalize hy : ys[k] = y at *
        have i0 : (0 : Int) ≤ (k : Int) := by omega
        have i1 : (k : Int) < (xs.length : Int) := by omega
        have i2 : (k : Int) < (ys.length : Int) := by omega
        have HX := Lib.hid (And.intro ex ey)
        clear ex ey hx hy
        refine (Decidable.em (x = y)).elim (fun hxy => ?EQ) (fun hxy => ?NE)
        case EQ =>
          subst hxy
          go_wp2
          go_quiet (fail)
          go_wp2
          refine ⟨⟨k + 1, by omega, by simp, ?_, HI.out.2.drewN _⟩, by simp [RowKit.intOf]; omega⟩
          rw [List.take_add_one, List.take_add_one, HI.out.1, HX.out.1, HX.out.2]
        case NE =>
          have hf : (xs == ys) = false := by
            rw [beq_eq_false_iff_ne]
            intro e
            apply hxy
            have h1 := HX.out.1
            rw [e, HX.out.2] at h1
            exact (Option.some.inj h1).symm
          have HF := Lib.hid hf
          clear hf
          by_cases h0 : x.1 = y.1
          · skip
            by_cases h1 : x.2.1 = y.2.1
            · skip
              have h2 : ¬ x.2.2 = y.2.2 := fun h => hxy (by exact Prod.ext h0 (Prod.ext h1 h))
              clear hxy
              go_wp2
              go_quiet (fail)
              go_wp2
              go_ret
              exact ⟨by rw [HF.out]; rfl, HI.out.2.drewN _⟩
            · clear hxy
              go_wp2
              go_quiet (fail)
              go_wp2
              go_ret
              exact ⟨by rw [HF.out]; rfl, HI.out.2.drewN _⟩
          · clear hxy
            go_wp2
            go_quiet (fail)
            go_wp2
            go_ret
            exact ⟨by rw [HF.out]; rfl, HI.out.2.drewN _⟩
      · obtain rfl : k = xs.length := by omega
        have ht : (xs == ys) = true := by
          have := HI.out.1
          rw [List.take_of_length_le (Nat.le_refl _), List.take_of_length_le (by have := HN.out; omega)] at this
          simpa using this
        have HF := Lib.hid ht
        clear ht
        go_wp2
        go_ret
        exact ⟨by rw [HF.out]; rfl, HI.out.2⟩
  · have hb : ((xs.length : Int) == (ys.length : Int)) = false := by simp; omega
    have hf : (xs == ys) = false := by
      rw [beq_eq_false_iff_ne]
      intro e
      exact hne (by rw [e])
    rw [hf]
    clear hne h h' hf
    go_enter Tryz.func120, Tryz.ntmps120
    go_wp2
    go_ret
    exact ⟨rfl, Chg.refl _ _⟩

theorem cmpE_same (k m : Int) (xs : List UInt8) (k' m' : Int) (ys : List UInt8) : (cmpE k m xs k' m' ys == 0) = sameX k m xs k' m' ys := by
  rw [Bool.eq_iff_iff, beq_iff_eq, cmpE_zero]
  unfold sameX
  simp [and_assoc]
theorem esamex_any (w : World) (k m k' m' : Int) (A B : Option Addr) (n c n' d : Nat) (xs ys : List UInt8) (h : Bs w A n xs) (h' : Bs w B n' ys) :
    Calls Tryz.prog 119 #[.agg #[.int .i64 k, .int .i64 m, .slice A n c], .agg #[.int .i64 k', .int .i64 m', .slice B n' d]] w fun e w' => e = .returned (.bool (sameX k m xs k' m' ys)) ∧ Chg [] w w' := by
  rw [← cmpE_same]
  exact esame_any w k m k' m' A B n c n' d xs ys h h'
theorem fsamex_any (w : World) (k m k' m' : Int) (A B : Option Addr) (n c n' d : Nat) (xs ys : List UInt8) (h : Bs w A n xs) (h' : Bs w B n' ys) :
    Calls Tryz.prog 72 #[.agg #[.int .i64 k, .int .i64 m, .slice A n c], .agg #[.int .i64 k', .int .i64 m', .slice B n' d]] w fun e w' => e = .returned (.bool (sameX k m xs k' m' ys)) ∧ Chg [] w w' := by
  rw [← cmpE_same]
  exact fsame_any w k m k' m' A B n c n' d xs ys h h'

set_option maxRecDepth 100000 in
set_option maxHeartbeats 8000000 in
theorem evalike_0 (w : World) (un us : Int) (up : List UInt8) (uk um : Int) (uA : Option Addr) (ul uc : Nat) (uB : Option Addr) (ubl ubc : Nat) (ub : List UInt8) (uq : List (Int × Int × Int)) (vn vs : Int) (vp : List UInt8) (vk vm : Int) (vA : Option Addr) (vl vc : Nat) (vB : Option Addr) (vbl vbc : Nat) (vb : List UInt8) (vq : List (Int × Int × Int)) (ha : Bs w uA ul ub) (hq : RdK spanTy w uB ubl uq) (hb : Bs w vA vl vb) (hr : RdK spanTy w vB vbl vq) (hn : ubl ≤ 140737488351232 ∧ vbl ≤ 140737488351232) (hne : un ≠ vn) :
    Calls Tryz.prog 71 #[.agg #[.int .i64 un, .int .i64 us, .string (strOf up), .int .i64 uk, .int .i64 um, .slice uA ul uc, .slice uB ubl ubc], .agg #[.int .i64 vn, .int .i64 vs, .string (strOf vp), .int .i64 vk, .int .i64 vm, .slice vA vl vc, .slice vB vbl vbc]] w fun r w' => r = .returned (.bool false) ∧ Chg [] w w' := by
  obtain ⟨w2, hw, hc, b0, b1⟩ := news2 w (.cells #[.int .i64 un, .int .i64 us, .string (strOf up), .int .i64 uk, .int .i64 um, .slice uA ul uc, .slice uB ubl ubc] 29) (.cells #[.int .i64 vn, .int .i64 vs, .string (strOf vp), .int .i64 vk, .int .i64 vm, .slice vA vl vc, .slice vB vbl vbc] 29)
  have W2 := Lib.hid hw
  have C := Lib.hid hc
  have HA := Lib.hid (ha.chg hc (by simp))
  have HB := Lib.hid (hb.chg hc (by simp))
  have HQ := Lib.hid (hq.chg hc (by simp))
  have HR := Lib.hid (hr.chg hc (by simp))
  have HN := Lib.hid hn
  have e0 : (un == vn) = false := beq_eq_false_iff_ne.2 hne
  have hN := Lib.hid hne
  clear hne
  clear hw hc ha hq hb hr hn
  go_enter Tryz.func71, Tryz.ntmps71
  go_upto_region 1 with fail
  rw [← W2.out]
  generalize w.heap.size + 1 = g1 at *
  generalize w.heap.size = g0 at *
  have z0 := cell_of b0 0
  have z1 := cell_of b0 1
  have z2 := cell_of b0 2
  have z3 := cell_of b0 3
  have z4 := cell_of b0 4
  have z5 := cell_of b0 5
  have z6 := cell_of b0 6
  have y0 := cell_of b1 0
  have y1 := cell_of b1 1
  have y2 := cell_of b1 2
  have y3 := cell_of b1 3
  have y4 := cell_of b1 4
  have y5 := cell_of b1 5
  have y6 := cell_of b1 6
  simp only [List.getElem?_toArray, List.getElem?_cons_succ, List.getElem?_cons_zero] at z0 z1 z2 z3 z4 z5 z6 y0 y1 y2 y3 y4 y5 y6
  clear b0 b1
  go_wp2
  go_ret
  exact ⟨rfl, C.out⟩
set_option maxRecDepth 100000 in
set_option maxHeartbeats 8000000 in
theorem evalike_1 (w : World) (un us : Int) (up : List UInt8) (uk um : Int) (uA : Option Addr) (ul uc : Nat) (uB : Option Addr) (ubl ubc : Nat) (ub : List UInt8) (uq : List (Int × Int × Int)) (vs : Int) (vp : List UInt8) (vk vm : Int) (vA : Option Addr) (vl vc : Nat) (vB : Option Addr) (vbl vbc : Nat) (vb : List UInt8) (vq : List (Int × Int × Int)) (ha : Bs w uA ul ub) (hq : RdK spanTy w uB ubl uq) (hb : Bs w vA vl vb) (hr : RdK spanTy w vB vbl vq) (hn : ubl ≤ 140737488351232 ∧ vbl ≤ 140737488351232) (hne : us ≠ vs) :
    Calls Tryz.prog 71 #[.agg #[.int .i64 un, .int .i64 us, .string (strOf up), .int .i64 uk, .int .i64 um, .slice uA ul uc, .slice uB ubl ubc], .agg #[.int .i64 un, .int .i64 vs, .string (strOf vp), .int .i64 vk, .int .i64 vm, .slice vA vl vc, .slice vB vbl vbc]] w fun r w' => r = .returned (.bool false) ∧ Chg [] w w' := by
  obtain ⟨w2, hw, hc, b0, b1⟩ := news2 w (.cells #[.int .i64 un, .int .i64 us, .string (strOf up), .int .i64 uk, .int .i64 um, .slice uA ul uc, .slice uB ubl ubc] 29) (.cells #[.int .i64 un, .int .i64 vs, .string (strOf vp), .int .i64 vk, .int .i64 vm, .slice vA vl vc, .slice vB vbl vbc] 29)
  have W2 := Lib.hid hw
  have C := Lib.hid hc
  have HA := Lib.hid (ha.chg hc (by simp))
  have HB := Lib.hid (hb.chg hc (by simp))
  have HQ := Lib.hid (hq.chg hc (by simp))
  have HR := Lib.hid (hr.chg hc (by simp))
  have HN := Lib.hid hn
  have e0 : (us == vs) = false := beq_eq_false_iff_ne.2 hne
  have hN := Lib.hid hne
  clear hne
  clear hw hc ha hq hb hr hn
  go_enter Tryz.func71, Tryz.ntmps71
  go_upto_region 1 with fail
  rw [← W2.out]
  generalize w.heap.size + 1 = g1 at *
  generalize w.heap.size = g0 at *
  have z0 := cell_of b0 0
  have z1 := cell_of b0 1
  have z2 := cell_of b0 2
  have z3 := cell_of b0 3
  have z4 := cell_of b0 4
  have z5 := cell_of b0 5
  have z6 := cell_of b0 6
  have y0 := cell_of b1 0
  have y1 := cell_of b1 1
  have y2 := cell_of b1 2
  have y3 := cell_of b1 3
  have y4 := cell_of b1 4
  have y5 := cell_of b1 5
  have y6 := cell_of b1 6
  simp only [List.getElem?_toArray, List.getElem?_cons_succ, List.getElem?_cons_zero] at z0 z1 z2 z3 z4 z5 z6 y0 y1 y2 y3 y4 y5 y6
  clear b0 b1
  go_wp2
  go_ret
  exact ⟨rfl, C.out⟩
set_option maxRecDepth 100000 in
set_option maxHeartbeats 8000000 in
theorem evalike_2 (w : World) (un us : Int) (up : List UInt8) (uk um : Int) (uA : Option Addr) (ul uc : Nat) (uB : Option Addr) (ubl ubc : Nat) (ub : List UInt8) (uq : List (Int × Int × Int)) (vp : List UInt8) (vk vm : Int) (vA : Option Addr) (vl vc : Nat) (vB : Option Addr) (vbl vbc : Nat) (vb : List UInt8) (vq : List (Int × Int × Int)) (ha : Bs w uA ul ub) (hq : RdK spanTy w uB ubl uq) (hb : Bs w vA vl vb) (hr : RdK spanTy w vB vbl vq) (hn : ubl ≤ 140737488351232 ∧ vbl ≤ 140737488351232) (hne : up ≠ vp) :
    Calls Tryz.prog 71 #[.agg #[.int .i64 un, .int .i64 us, .string (strOf up), .int .i64 uk, .int .i64 um, .slice uA ul uc, .slice uB ubl ubc], .agg #[.int .i64 un, .int .i64 us, .string (strOf vp), .int .i64 vk, .int .i64 vm, .slice vA vl vc, .slice vB vbl vbc]] w fun r w' => r = .returned (.bool false) ∧ Chg [] w w' := by
  obtain ⟨w2, hw, hc, b0, b1⟩ := news2 w (.cells #[.int .i64 un, .int .i64 us, .string (strOf up), .int .i64 uk, .int .i64 um, .slice uA ul uc, .slice uB ubl ubc] 29) (.cells #[.int .i64 un, .int .i64 us, .string (strOf vp), .int .i64 vk, .int .i64 vm, .slice vA vl vc, .slice vB vbl vbc] 29)
  have W2 := Lib.hid hw
  have C := Lib.hid hc
  have HA := Lib.hid (ha.chg hc (by simp))
  have HB := Lib.hid (hb.chg hc (by simp))
  have HQ := Lib.hid (hq.chg hc (by simp))
  have HR := Lib.hid (hr.chg hc (by simp))
  have HN := Lib.hid hn
  have e0 := strOf_ne hne
  have e1 := strOf_ne2 hne
  have e2 : (up == vp) = false := beq_eq_false_iff_ne.2 hne
  clear hw hc ha hq hb hr hn
  go_enter Tryz.func71, Tryz.ntmps71
  go_upto_region 1 with fail
  rw [← W2.out]
  generalize w.heap.size + 1 = g1 at *
  generalize w.heap.size = g0 at *
  have z0 := cell_of b0 0
  have z1 := cell_of b0 1
  have z2 := cell_of b0 2
  have z3 := cell_of b0 3
  have z4 := cell_of b0 4
  have z5 := cell_of b0 5
  have z6 := cell_of b0 6
  have y0 := cell_of b1 0
  have y1 := cell_of b1 1
  have y2 := cell_of b1 2
  have y3 := cell_of b1 3
  have y4 := cell_of b1 4
  have y5 := cell_of b1 5
  have y6 := cell_of b1 6
  simp only [List.getElem?_toArray, List.getElem?_cons_succ, List.getElem?_cons_zero] at z0 z1 z2 z3 z4 z5 z6 y0 y1 y2 y3 y4 y5 y6
  clear b0 b1
  go_wp2
  go_ret
  exact ⟨rfl, C.out⟩
set_option maxRecDepth 100000 in
set_option maxHeartbeats 8000000 in
theorem evalike_3 (w : World) (un us : Int) (up : List UInt8) (uk um : Int) (uA : Option Addr) (ul uc : Nat) (uB : Option Addr) (ubl ubc : Nat) (ub : List UInt8) (uq : List (Int × Int × Int)) (vk vm : Int) (vA : Option Addr) (vl vc : Nat) (vB : Option Addr) (vbl vbc : Nat) (vb : List UInt8) (vq : List (Int × Int × Int)) (ha : Bs w uA ul ub) (hq : RdK spanTy w uB ubl uq) (hb : Bs w vA vl vb) (hr : RdK spanTy w vB vbl vq) (hn : ubl ≤ 140737488351232 ∧ vbl ≤ 140737488351232) :
    Calls Tryz.prog 71 #[.agg #[.int .i64 un, .int .i64 us, .string (strOf up), .int .i64 uk, .int .i64 um, .slice uA ul uc, .slice uB ubl ubc], .agg #[.int .i64 un, .int .i64 us, .string (strOf up), .int .i64 vk, .int .i64 vm, .slice vA vl vc, .slice vB vbl vbc]] w fun r w' => r = .returned (.bool (sameX uk um ub vk vm vb && (uq == vq))) ∧ Chg [] w w' := by
  obtain ⟨w2, hw, hc, b0, b1⟩ := news2 w (.cells #[.int .i64 un, .int .i64 us, .string (strOf up), .int .i64 uk, .int .i64 um, .slice uA ul uc, .slice uB ubl ubc] 29) (.cells #[.int .i64 un, .int .i64 us, .string (strOf up), .int .i64 vk, .int .i64 vm, .slice vA vl vc, .slice vB vbl vbc] 29)
  have W2 := Lib.hid hw
  have C := Lib.hid hc
  have HA := Lib.hid (ha.chg hc (by simp))
  have HB := Lib.hid (hb.chg hc (by simp))
  have HQ := Lib.hid (hq.chg hc (by simp))
  have HR := Lib.hid (hr.chg hc (by simp))
  have HN := Lib.hid hn
  generalize hv : sameX uk um ub vk vm vb = v
  have HV := Lib.hid hv
  clear hv
  generalize hu : (uq == vq) = u
  have HU := Lib.hid hu
  clear hu
  clear hw hc ha hq hb hr hn
  go_enter Tryz.func71, Tryz.ntmps71
  go_upto_region 1 with fail
  rw [← W2.out]
  generalize w.heap.size + 1 = g1 at *
  generalize w.heap.size = g0 at *
  have z0 := cell_of b0 0
  have z1 := cell_of b0 1
  have z2 := cell_of b0 2
  have z3 := cell_of b0 3
  have z4 := cell_of b0 4
  have z5 := cell_of b0 5
  have z6 := cell_of b0 6
  have y0 := cell_of b1 0
  have y1 := cell_of b1 1
  have y2 := cell_of b1 2
  have y3 := cell_of b1 3
  have y4 := cell_of b1 4
  have y5 := cell_of b1 5
  have y6 := cell_of b1 6
  simp only [List.getElem?_toArray, List.getElem?_cons_succ, List.getElem?_cons_zero] at z0 z1 z2 z3 z4 z5 z6 y0 y1 y2 y3 y4 y5 y6
  clear b0 b1
  go_wp2_with fail
  refine (esamex_any _ uk um vk vm uA vA ul uc vl vc ub vb HA.out HB.out).mono ?_
  rintro r w3 ⟨rfl, h3⟩
  rw [HV.out]
  have cz6 := h3.cell z6 (by simp)
  have cy6 := h3.cell y6 (by simp)
  replace C := Lib.hid (C.out.trans h3)
  replace HQ := Lib.hid (HQ.out.chg h3 (by simp))
  replace HR := Lib.hid (HR.out.chg h3 (by simp))
  clear h3 HV z0 z1 z2 z3 z4 z5 z6 y0 y1 y2 y3 y4 y5 y6
  rcases v with _ | _
  · clear cz6 cy6
    go_wp2
    go_ret
    exact ⟨rfl, C.out⟩
  go_wp2_with fail
  refine (equalspan_any _ uB vB ubl vbl ubc vbc uq vq HQ.out HR.out HN.out.1 HN.out.2).mono ?_
  rintro r w4 ⟨rfl, h4⟩
  rw [HU.out]
  replace C := Lib.hid (C.out.trans h4)
  clear h4 cz6 cy6 HU
  rcases u with _ | _
  all_goals (go_wp2; go_ret; exact ⟨rfl, C.out⟩)
theorem evalike_raw (w : World) (un us : Int) (up : List UInt8) (uk um : Int) (uA : Option Addr) (ul uc : Nat) (uB : Option Addr) (ubl ubc : Nat) (ub : List UInt8) (uq : List (Int × Int × Int)) (vn vs : Int) (vp : List UInt8) (vk vm : Int) (vA : Option Addr) (vl vc : Nat) (vB : Option Addr) (vbl vbc : Nat) (vb : List UInt8) (vq : List (Int × Int × Int)) (ha : Bs w uA ul ub) (hq : RdK spanTy w uB ubl uq) (hb : Bs w vA vl vb) (hr : RdK spanTy w vB vbl vq) (hn : ubl ≤ 140737488351232 ∧ vbl ≤ 140737488351232) :
    Calls Tryz.prog 71 #[.agg #[.int .i64 un, .int .i64 us, .string (strOf up), .int .i64 uk, .int .i64 um, .slice uA ul uc, .slice uB ubl ubc], .agg #[.int .i64 vn, .int .i64 vs, .string (strOf vp), .int .i64 vk, .int .i64 vm, .slice vA vl vc, .slice vB vbl vbc]] w fun r w' => r = .returned (.bool (sameP ⟨un, us, up, uk, um, ub, uq⟩ ⟨vn, vs, vp, vk, vm, vb, vq⟩)) ∧ Chg [] w w' := by
  unfold sameP
  by_cases h1 : un = vn
  · subst h1
    by_cases h2 : us = vs
    · subst h2
      by_cases h3 : up = vp
      · subst h3
        have q := evalike_3 w un us up uk um uA ul uc uB ubl ubc ub uq vk vm vA vl vc vB vbl vbc vb vq ha hq hb hr hn
        unfold sameX at q
        simpa using q
      · have q := evalike_2 w un us up uk um uA ul uc uB ubl ubc ub uq vp vk vm vA vl vc vB vbl vbc vb vq ha hq hb hr hn h3
        simpa [h3] using q
    · have q := evalike_1 w un us up uk um uA ul uc uB ubl ubc ub uq vs vp vk vm vA vl vc vB vbl vbc vb vq ha hq hb hr hn h2
      simpa [h2] using q
  · have q := evalike_0 w un us up uk um uA ul uc uB ubl ubc ub uq vn vs vp vk vm vA vl vc vB vbl vbc vb vq ha hq hb hr hn h1
    simpa [h1] using q
theorem evalike_any (w : World) (x y : EvT) (e f : EvP) (hx : EvR w x e) (hy : EvR w y f) (hn : e.q.length ≤ 140737488351232 ∧ f.q.length ≤ 140737488351232) :
    Calls Tryz.prog 71 #[.agg #[.int .i64 x.n, .int .i64 x.s, .string x.p, .int .i64 x.k, .int .i64 x.m, .slice x.A x.l x.c, .slice x.B x.bl x.bc], .agg #[.int .i64 y.n, .int .i64 y.s, .string y.p, .int .i64 y.k, .int .i64 y.m, .slice y.A y.l y.c, .slice y.B y.bl y.bc]] w fun r w' => r = .returned (.bool (sameP e f)) ∧ Chg [] w w' := by
  have q := evalike_raw w e.n e.s e.p e.k e.m x.A x.l x.c x.B x.bl x.bc e.b e.q f.n f.s f.p f.k f.m y.A y.l y.c y.B y.bl y.bc f.b f.q hx.A hx.B hy.A hy.B (by rw [hx.bl, hy.bl]; exact hn)
  have en := hx.n
  have es := hx.s
  have ep := hx.p
  have ek := hx.k
  have em := hx.m
  have fn := hy.n
  have fs := hy.s
  have fp := hy.p
  have fk := hy.k
  have fm := hy.m
  rw [en, es, ep, ek, em, fn, fs, fp, fk, fm]
  exact q

theorem rd_oneE {w : World} {g : Nat} {x : EvT} (h : w.heap[g]? = some (.cells #[.int .i64 x.n, .int .i64 x.s, .string x.p, .int .i64 x.k, .int .i64 x.m, .slice x.A x.l x.c, .slice x.B x.bl x.bc] 29)) : RdK evTy w (some ⟨g, 0, none⟩) 1 [x] :=
  ⟨rfl, fun j v hj => ⟨_, rfl, by rw [add_zero_lit, cell_of h j]; simpa [RowTy.flat, evTy] using hj⟩⟩
set_option maxRecDepth 100000 in
set_option maxHeartbeats 8000000 in
theorem equalfuncev_any (w : World) (g g' : Nat) (c d : Nat) (x y : EvT) (e f : EvP) (h : RdK evTy w (some ⟨g, 0, none⟩) 1 [x]) (h' : RdK evTy w (some ⟨g', 0, none⟩) 1 [y]) (hx : EvR w x e) (hy : EvR w y f) (hn : e.q.length ≤ 140737488351232 ∧ f.q.length ≤ 140737488351232) :
    Calls Tryz.prog 70 #[.slice (some ⟨g, 0, none⟩) 1 c, .slice (some ⟨g', 0, none⟩) 1 d, .func (.func 71) #[] #[]] w fun r w' => r = .returned (.bool (sameP e f)) ∧ Chg [] w w' := by
  have HA := Lib.hid h
  have HB := Lib.hid h'
  have HX := Lib.hid hx
  have HY := Lib.hid hy
  have HN := Lib.hid hn
  clear h h' hx hy hn
  generalize hv : sameP e f = v
  have HV := Lib.hid hv
  clear hv
  go_enter Tryz.func70, Tryz.ntmps70
  go_wp2
  go_loopw [7, 8, 9, 17] (fun _ _ _ i wr => ∃ k : Nat, k ≤ 1 ∧ i = .int .i64 k ∧ Hid (k = 1 → v = true) ∧ Hid (Chg [] w wr)) (fun _ _ _ i _ => 1 - (RowKit.intOf i).toNat)
  case atStart => exact ⟨0, by omega, rfl, Lib.hid (fun q => absurd q (by omega)), Chg.refl _ _⟩
  case round =>
    obtain ⟨k, hk, rfl, KV, RC⟩ := hrel
    by_cases hlt : k = 0
    · subst hlt
      obtain ⟨z0, z1, z2, z3, z4, z5, z6⟩ := evCells (j := 0) (HA.out.chg RC.out (by simp)) rfl
      simp only [Nat.zero_mul, Nat.zero_add, Nat.add_zero] at z0 z1 z2 z3 z4 z5 z6
      obtain ⟨w1, hw, hc, b0⟩ := news1 wr (.cells #[.int .i64 x.n, .int .i64 x.s, .string x.p, .int .i64 x.k, .int .i64 x.m, .slice x.A x.l x.c, .slice x.B x.bl x.bc] 29)
      have W1 := Lib.hid hw
      have B0 := Lib.hid b0
      have C1 := Lib.hid (RC.out.trans hc)
      clear hw hc b0
      go_upto_region 6 with fail
      rw [← W1.out]
      generalize wr.heap.size = g0 at *
      clear z0 z1 z2 z3 z4 z5 z6 W1
      obtain ⟨y0, y1, y2, y3, y4, y5, y6⟩ := evCells (j := 0) (HB.out.chg C1.out (by simp)) rfl
      simp only [Nat.zero_mul, Nat.zero_add, Nat.add_zero] at y0 y1 y2 y3 y4 y5 y6
      obtain ⟨w2, hw, hc, b1⟩ := news1 w1 (.cells #[.int .i64 y.n, .int .i64 y.s, .string y.p, .int .i64 y.k, .int .i64 y.m, .slice y.A y.l y.c, .slice y.B y.bl y.bc] 29)
      have W2 := Lib.hid hw
      have B1 := Lib.hid b1
      replace B0 := Lib.hid (hc.at_ B0.out (by simp))
      have C2 := Lib.hid (C1.out.trans hc)
      clear hw hc b1
      go_upto_region 7 with fail
      rw [← W2.out]
      generalize w1.heap.size = g1 at *
      clear y0 y1 y2 y3 y4 y5 y6
      have z0 := cell_of B0.out 0
      have y0 := cell_of B1.out 0
      have z1 := cell_of B0.out 1
      have y1 := cell_of B1.out 1
      have z2 := cell_of B0.out 2
      have y2 := cell_of B1.out 2
      have z3 := cell_of B0.out 3
      have y3 := cell_of B1.out 3
      have z4 := cell_of B0.out 4
      have y4 := cell_of B1.out 4
      have z5 := cell_of B0.out 5
      have y5 := cell_of B1.out 5
      have z6 := cell_of B0.out 6
      have y6 := cell_of B1.out 6
      simp only [List.getElem?_toArray, List.getElem?_cons_succ, List.getElem?_cons_zero] at z0 y0 z1 y1 z2 y2 z3 y3 z4 y4 z5 y5 z6 y6
      go_wp2_with fail
      clear z0 y0 z1 y1 z2 y2 z3 y3 z4 y4 z5 y5 z6 y6
      refine (evalike_any w2 x y e f (HX.out.chg C2.out) (HY.out.chg C2.out) HN.out).mono ?_
      rintro r w3 ⟨rfl, h3⟩
      rw [HV.out]
      have C3 := Lib.hid (C2.out.trans h3)
      clear h3
      rcases v with _ | _
      · go_wp2
        go_ret
        exact ⟨rfl, C3.out⟩
      · go_wp2
        go_round
        case rel => exact ⟨1, by omega, by go_num, Lib.hid (fun _ => by first | rfl | exact True.intro), C3.out⟩
        case measure => simp [RowKit.intOf]
    · obtain rfl : k = 1 := by omega
      obtain rfl := KV.out rfl
      go_wp2
      go_ret
      exact ⟨rfl, RC.out⟩

set_option maxRecDepth 100000 in
set_option maxHeartbeats 8000000 in
/-- event.Same, whatever comes. -/
theorem evsame_any (w : World) (x y : EvT) (e f : EvP) (hx : EvR w x e) (hy : EvR w y f) (hn : e.q.length ≤ 140737488351232 ∧ f.q.length ≤ 140737488351232) :
    Calls Tryz.prog 21 #[.agg #[.int .i64 x.n, .int .i64 x.s, .string x.p, .int .i64 x.k, .int .i64 x.m, .slice x.A x.l x.c, .slice x.B x.bl x.bc], .agg #[.int .i64 y.n, .int .i64 y.s, .string y.p, .int .i64 y.k, .int .i64 y.m, .slice y.A y.l y.c, .slice y.B y.bl y.bc]] w fun r w' => r = .returned (.bool (sameP e f)) ∧ Chg [] w w' := by
  obtain ⟨w2, hw, hc, b0, b1⟩ := news2 w (.cells #[.int .i64 x.n, .int .i64 x.s, .string x.p, .int .i64 x.k, .int .i64 x.m, .slice x.A x.l x.c, .slice x.B x.bl x.bc] 29) (.cells #[.int .i64 y.n, .int .i64 y.s, .string y.p, .int .i64 y.k, .int .i64 y.m, .slice y.A y.l y.c, .slice y.B y.bl y.bc] 29)
  obtain ⟨w4, hw4, hc4, b2, b3⟩ := news2 w2 (.cells #[.int .i64 x.n, .int .i64 x.s, .string x.p, .int .i64 x.k, .int .i64 x.m, .slice x.A x.l x.c, .slice x.B x.bl x.bc] 29) (.cells #[.int .i64 y.n, .int .i64 y.s, .string y.p, .int .i64 y.k, .int .i64 y.m, .slice y.A y.l y.c, .slice y.B y.bl y.bc] 29)
  have W2 := Lib.hid hw
  have W4 := Lib.hid hw4
  have C := Lib.hid (hc.trans hc4)
  have HX := Lib.hid (hx.chg (hc.trans hc4))
  have HY := Lib.hid (hy.chg (hc.trans hc4))
  have HN := Lib.hid hn
  have R2 := Lib.hid (rd_oneE b2)
  have R3 := Lib.hid (rd_oneE b3)
  generalize hv : sameP e f = v
  have HV := Lib.hid hv
  have z0 := cell_of b0 0
  have y0 := cell_of b1 0
  have z1 := cell_of b0 1
  have y1 := cell_of b1 1
  have z2 := cell_of b0 2
  have y2 := cell_of b1 2
  have z3 := cell_of b0 3
  have y3 := cell_of b1 3
  have z4 := cell_of b0 4
  have y4 := cell_of b1 4
  have z5 := cell_of b0 5
  have y5 := cell_of b1 5
  have z6 := cell_of b0 6
  have y6 := cell_of b1 6
  simp only [List.getElem?_toArray, List.getElem?_cons_succ, List.getElem?_cons_zero] at z0 y0 z1 y1 z2 y2 z3 y3 z4 y4 z5 y5 z6 y6
  clear hv hw hc hw4 hc4 b0 b1 b2 b3 hx hy hn
  go_enter Tryz.func21, Tryz.ntmps21
  go_upto_region 1 with fail
  rw [← W2.out]
  generalize w.heap.size + 1 = g1 at *
  generalize w.heap.size = g0 at *
  have x0 := ((Chg.refl [] w2).alloc (.cells #[.int .i64 x.n, .int .i64 x.s, .string x.p, .int .i64 x.k, .int .i64 x.m, .slice x.A x.l x.c, .slice x.B x.bl x.bc] 29)).cell y0 (by simp)
  have x1 := ((Chg.refl [] w2).alloc (.cells #[.int .i64 x.n, .int .i64 x.s, .string x.p, .int .i64 x.k, .int .i64 x.m, .slice x.A x.l x.c, .slice x.B x.bl x.bc] 29)).cell y1 (by simp)
  have x2 := ((Chg.refl [] w2).alloc (.cells #[.int .i64 x.n, .int .i64 x.s, .string x.p, .int .i64 x.k, .int .i64 x.m, .slice x.A x.l x.c, .slice x.B x.bl x.bc] 29)).cell y2 (by simp)
  have x3 := ((Chg.refl [] w2).alloc (.cells #[.int .i64 x.n, .int .i64 x.s, .string x.p, .int .i64 x.k, .int .i64 x.m, .slice x.A x.l x.c, .slice x.B x.bl x.bc] 29)).cell y3 (by simp)
  have x4 := ((Chg.refl [] w2).alloc (.cells #[.int .i64 x.n, .int .i64 x.s, .string x.p, .int .i64 x.k, .int .i64 x.m, .slice x.A x.l x.c, .slice x.B x.bl x.bc] 29)).cell y4 (by simp)
  have x5 := ((Chg.refl [] w2).alloc (.cells #[.int .i64 x.n, .int .i64 x.s, .string x.p, .int .i64 x.k, .int .i64 x.m, .slice x.A x.l x.c, .slice x.B x.bl x.bc] 29)).cell y5 (by simp)
  have x6 := ((Chg.refl [] w2).alloc (.cells #[.int .i64 x.n, .int .i64 x.s, .string x.p, .int .i64 x.k, .int .i64 x.m, .slice x.A x.l x.c, .slice x.B x.bl x.bc] 29)).cell y6 (by simp)
  go_wp2_with fail
  rw [← W4.out]
  generalize w2.heap.size + 1 = g3 at *
  generalize w2.heap.size = g2 at *
  clear z0 y0 x0 z1 y1 x1 z2 y2 x2 z3 y3 x3 z4 y4 x4 z5 y5 x5 z6 y6 x6
  refine (equalfuncev_any w4 g2 g3 1 1 x y e f R2.out R3.out HX.out HY.out HN.out).mono ?_
  rintro r w5 ⟨rfl, h5⟩
  rw [HV.out]
  replace C := Lib.hid (C.out.trans h5)
  clear h5
  go_wp2
  go_ret
  exact ⟨rfl, C.out⟩
end
end Go.Proofs.YtgbidlhgmeglmaaGreatDoor
