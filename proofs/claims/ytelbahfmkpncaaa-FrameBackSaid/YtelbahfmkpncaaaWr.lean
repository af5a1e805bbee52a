/- The writer of package wire: what each of its calls does. -/
import Derived.Test.YtelbahfmkpncaaaLen
namespace Go.Proofs.Ytelbahfmkpncaaa
open Go.RowKit

/-- A writer at block b that has written xs (in row g; g = b: in none yet) and found the error e. -/
def Wrt (w : World) (b g : Nat) (xs : List UInt8) (e : Int) : Prop :=
  ∃ A c, w.heap[b]? = some (.cells #[.pointer (some ⟨b, 0, none⟩), .slice A xs.length c, .int .i64 e] 75 (0, 0)) ∧ OwnB w A c xs ∧ (A = none ∧ g = b ∨ A = some ⟨g, 0, none⟩)

theorem Wrt.chg {S : List Nat} {w w' : World} {b g : Nat} {xs : List UInt8} {e : Int} (h : Wrt w b g xs e) (hc : Chg S w w') (hb : b ∉ S) (hg : g ∉ S) : Wrt w' b g xs e := by
  obtain ⟨A, c, h1, h2, h3⟩ := h
  refine ⟨A, c, hc.at_ h1 hb, h2.chg hc ?_, h3⟩
  rintro a rfl
  rcases h3 with ⟨h3, _⟩ | h3
  · cases h3
  · cases h3; exact hg
theorem Wrt.lt {w : World} {b g : Nat} {xs : List UInt8} {e : Int} (h : Wrt w b g xs e) : b < w.heap.size ∧ g < w.heap.size := by
  obtain ⟨A, c, h1, h2, h3⟩ := h
  have hb := lt_of_heap h1
  rcases h3 with ⟨_, rfl⟩ | rfl
  · exact ⟨hb, hb⟩
  · rcases h2.form with ⟨h, _⟩ | ⟨g', cur, h, h4, _⟩
    · cases h
    · cases h; exact ⟨hb, lt_of_heap h4⟩

theorem someW : (Try.prog.info? 75).isSome = true := by kernel_rfl
theorem eqlPW (a : Addr) (w : World) : (binOp .eql 53 (.pointer (some a)) (.pointer (some a))).run Try.prog w = .ok (.bool true) w := by
  obtain ⟨j, hj⟩ := Option.isSome_iff_exists.1 someW
  exact run_eql_ptr_same w a Try.underlying53 hj

/-- What an append that is stored in the writer's field leaves. -/
theorem wrt_put {w w1 : World} {b g : Nat} {xs zs : List UInt8} {e : Int} {A A' : Option Addr} {c c' n : Nat} (h1 : w.heap[b]? = some (.cells #[.pointer (some ⟨b, 0, none⟩), .slice A xs.length c, .int .i64 e] 75 (0, 0))) (h2 : OwnB w A c xs)
    (h3 : A = none ∧ g = b ∨ A = some ⟨g, 0, none⟩) (own1 : OwnB w1 A' c' zs) (hg1 : w.grownBy w1 (A.map (·.block))) (hA1 : A' = A ∨ A' = some ⟨w.heap.size, 0, none⟩) (hn : n = zs.length) :
    ∃ g', Wrt (w1.setCell ⟨b, 1, none⟩ (.slice A' n c')) b g' zs e ∧ Chg [b, g] w (w1.setCell ⟨b, 1, none⟩ (.slice A' n c')) ∧ (g' = g ∨ w.heap.size ≤ g') := by
  subst hn
  have hne := h2.ne h1 (by decide)
  have hb := lt_of_heap h1
  have q1 := grown_at hg1 h1 hne
  have q2 := heap_setCell_same w1 b 1 _ _ (.slice A' zs.length c') q1
  have hne' := own1.ne q1 (by decide)
  have own2 : OwnB (w1.setCell ⟨b, 1, none⟩ (.slice A' zs.length c')) A' c' zs := own1.keep fun g o eA ho => by
    rw [Below.heap_setCell _ _ _ _ (by have := hne' _ eA; exact this)]; exact ho
  have hc : Chg [b, g] w (w1.setCell ⟨b, 1, none⟩ (.slice A' zs.length c')) :=
    ((Chg.refl _ _).grown hg1 (fun k hk => by
      rcases h3 with ⟨rfl, _⟩ | rfl
      · cases hk
      · simp at hk; subst hk; simp)).setCell (by simp) _
  rcases hA1 with rfl | rfl
  · exact ⟨g, ⟨A', c', by simpa using q2, own2, h3⟩, hc, .inl rfl⟩
  · exact ⟨w.heap.size, ⟨_, c', by simpa using q2, own2, .inr rfl⟩, hc, .inr (Nat.le_refl _)⟩

set_option maxHeartbeats 400000 in
theorem put_any (w : World) (b g : Nat) (xs : List UInt8) (e : Int) (B : Option Addr) (m d : Nat) (ys : List UInt8) (h : Wrt w b g xs e) (hr : Bs w B m ys) (hlen : xs.length + m ≤ 140737488355327) :
    Calls Try.prog 56 #[.pointer (some ⟨b, 0, none⟩), .slice B m d] w fun r w' => r = .returned (.tuple #[]) ∧ ∃ g', Wrt w' b g' (xs ++ ys) e ∧ Chg [b, g] w w' ∧ (g' = g ∨ w.heap.size ≤ g') := by
  obtain ⟨A, c, h1, h2, h3⟩ := h
  have hne := h2.ne h1 (by decide)
  have k1 := cell_of h1 1
  simp only [List.getElem?_toArray, List.getElem?_cons_succ, List.getElem?_cons_zero] at k1
  have H1 := Lib.hid h1
  have H3 := Lib.hid h3
  clear h1 h3
  go_enter Try.func56, Try.ntmps56
  go_wp2_with (at_builtin; refine wpList_app rfl _ _ rfl rfl h2 rfl rfl hr hlen ?_; intro A' c' w1 own1 hg1 hA1; have q1 := grown_at hg1 H1.out hne; have Q1 := Lib.hid q1; have q2 := cell_of q1 1; have q3 := free_of q1 1; simp only [List.getElem?_toArray, List.getElem?_cons_succ, List.getElem?_cons_zero] at q2; clear q1)
  go_end0
  exact ⟨rfl, wrt_put H1.out h2 H3.out own1 hg1 hA1 (by simp [hr.len])⟩

set_option maxHeartbeats 400000 in
theorem new_any (w : World) :
    Calls Try.prog 32 #[] w fun r w' => r = .returned (.pointer (some ⟨w.heap.size, 0, none⟩)) ∧ Wrt w' w.heap.size w.heap.size [] 0 ∧ Chg [] w w' := by
  go_enter Try.func32, Try.ntmps32
  go_wp2
  go_ret
  exact ⟨rfl, ⟨none, 0, heap_alloc_new w _, OwnB.none_ _, .inl ⟨rfl, rfl⟩⟩, (Chg.refl _ _).alloc _⟩

set_option maxHeartbeats 400000 in
theorem made_nil (w : World) :
    Calls Try.prog 53 #[.pointer none] w fun e w' => e = .returned (.bool false) ∧ w = w' := by
  go_enter Try.func53, Try.ntmps53
  go_wp2
  go_ret
  exact ⟨rfl, rfl⟩
set_option maxHeartbeats 400000 in
theorem made_yes (w : World) (b g : Nat) (xs : List UInt8) (e : Int) (h : Wrt w b g xs e) :
    Calls Try.prog 53 #[.pointer (some ⟨b, 0, none⟩)] w fun e w' => e = .returned (.bool true) ∧ w = w' := by
  obtain ⟨A, c, h1, _, _⟩ := h
  have h0 := cell_of h1 0
  simp only [List.getElem?_toArray, List.getElem?_cons_zero] at h0
  have H := Lib.hid h1
  clear h1
  have h1 := eqlPW ⟨b, 0, none⟩
  go_enter Try.func53, Try.ntmps53
  go_wp2
  go_ret
  exact ⟨rfl, rfl⟩

theorem u8_of (x : Int) (k : Nat) (h : x = (k : Int)) (hk : k < 256) : x = ((UInt8.ofNat k).toNat : Int) := by
  rw [UInt8.toNat_ofNat', Nat.mod_eq_of_lt hk]; exact h

theorem u8_shift (n k : Nat) : ((n : Int) / 2 ^ (8 * k) % 256) = ((UInt8.ofNat (n / 256 ^ k)).toNat : Int) := by
  rw [UInt8.toNat_ofNat']
  have e : (2 : Int) ^ (8 * k) = ((256 ^ k : Nat) : Int) := by
    rw [Int.pow_mul, show (2 : Int) ^ 8 = ((256 : Nat) : Int) from rfl, ← Int.natCast_pow]
  rw [e]
  omega

/-- What is known of a world between two bytes of a number. -/
def Between (w wr : World) (b g : Nat) (xs : List UInt8) (e : Int) : Prop := ∃ g', Wrt wr b g' xs e ∧ Chg [b, g] w wr ∧ (g' = g ∨ w.heap.size ≤ g')

theorem Between.put {w wr w' : World} {b g g' : Nat} {xs ys : List UInt8} {e : Int} (hc : Chg [b, g] w wr) (hg : g' = g ∨ w.heap.size ≤ g') {o : Obj}
    (h : ∃ g2, Wrt w' b g2 (xs ++ ys) e ∧ Chg [b, g'] (wr.alloc o) w' ∧ (g2 = g' ∨ (wr.alloc o).heap.size ≤ g2)) : Between w w' b g (xs ++ ys) e := by
  obtain ⟨g2, h1, h2, h3⟩ := h
  refine ⟨g2, h1, (hc.alloc o).trans' h2 ?_, ?_⟩
  · intro i hi
    simp at hi ⊢
    rcases hi with rfl | rfl
    · exact .inl (.inl rfl)
    · rcases hg with rfl | hg
      · exact .inl (.inr rfl)
      · exact .inr hg
  · have := hc.size
    rcases h3 with rfl | h3
    · exact hg
    · simp at h3; right; omega

set_option maxHeartbeats 400000 in
theorem number_any (w : World) (b g : Nat) (xs : List UInt8) (e : Int) (x : Int) (h0 : 0 ≤ x) (hn : x ≤ 9223372036854775807) (h : Wrt w b g xs e) (hlen : xs.length ≤ 1099511627776) :
    Calls Try.prog 57 #[.func (.func 56) #[.pointer (some ⟨b, 0, none⟩)] #[], .int .i64 x] w fun r w' => r = .returned (.tuple #[]) ∧ Between w w' b g (xs ++ enc x.toNat) e := by
  obtain ⟨n, rfl⟩ := Int.eq_ofNat_of_zero_le h0
  have hb := nb_le n (by omega)
  go_enter Try.func57, Try.ntmps57
  go_wp2_with (first
    | (go_at_call 55; refine (width_any _ _ (by omega) (by omega)).mono ?_; rintro e w' ⟨rfl, rfl⟩)
    | (go_at_call 56; refine (put_any _ b g xs e _ _ _ [UInt8.ofNat (nb n)] (h.chg ((Chg.refl [] w).alloc _) (by simp) (by simp)) (Bs.one _ _ _ (u8_of _ _ (by omega) (by omega))) (by omega)).mono ?_; rintro e1 w1 ⟨rfl, hp⟩; have hq := Lib.hid (Between.put (Chg.refl _ _) (.inl rfl) hp); clear hp))
  go_loopw [5] (fun v wr => ∃ (k : Nat) (p : List UInt8), k ≤ nb n ∧ v = .int .i64 ((k : Int) - 1) ∧ p ++ be k n = be (nb n) n ∧ Between w wr b g (xs ++ UInt8.ofNat (nb n) :: p) e) (fun v _ => (intOf v + 1).toNat)
  case atStart => exact ⟨nb n, [], by omega, by simp; omega, by simp, by simpa using hq.out⟩
  case round =>
    obtain ⟨k, p, hk, rfl, hp, hbt⟩ := hrel
    have Hp := Lib.hid hp
    have Hb := Lib.hid hbt
    clear hp hbt
    rcases k with _ | k
    · go_wp2
      go_end0
      refine ⟨rfl, ?_⟩
      have hp := Hp.out
      simp only [be, List.append_nil] at hp
      have hb := Hb.out
      rw [hp] at hb
      exact hb
    · obtain ⟨g', hw, hc, hg⟩ := Hb.out
      have hlw : (xs ++ UInt8.ofNat (nb n) :: p).length + 1 ≤ 140737488355327 := by
        have hl := congrArg List.length Hp.out
        simp only [List.length_append, be_len, List.length_cons] at hl ⊢
        omega
      have Hg := Lib.hid hg
      clear hg
      go_wp2_with (go_at_call 56; refine (put_any _ b g' _ e _ _ _ [UInt8.ofNat (n / 256 ^ k)] (hw.chg ((Chg.refl [] wr).alloc _) (by simp) (by simp)) (Bs.one _ _ _ (u8_shift n k)) hlw).mono ?_; rintro e1 w2 ⟨rfl, hp2⟩; have hq2 := Lib.hid (Between.put hc Hg.out hp2); clear hp2)
      go_roundw
      case rel =>
        refine ⟨k, p ++ [UInt8.ofNat (n / 256 ^ k)], by omega, by go_num, ?_, ?_⟩
        · rw [← Hp.out]; simp [be]
        · have := hq2.out; simpa using this
      case measure => simp [intOf]

set_option maxHeartbeats 400000 in
theorem fits_yes (w : World) (b g : Nat) (xs : List UInt8) (n : Int) (h : Wrt w b g xs 0) (hlen : xs.length ≤ 1099511627776) (hn2 : n + xs.length ≤ 1048576) :
    Calls Try.prog 54 #[.pointer (some ⟨b, 0, none⟩), .int .i64 n] w fun r w' => r = .returned (.bool true) ∧ w = w' := by
  obtain ⟨A, c, h1, _, _⟩ := h
  have k1 := cell_of h1 1
  have k2 := cell_of h1 2
  simp only [List.getElem?_toArray, List.getElem?_cons_succ, List.getElem?_cons_zero] at k1 k2
  have H := Lib.hid h1
  clear h1
  go_enter Try.func54, Try.ntmps54
  go_wp2
  go_ret
  exact ⟨rfl, rfl⟩
set_option maxHeartbeats 400000 in
theorem fits_no (w : World) (b g : Nat) (xs : List UInt8) (n : Int) (h : Wrt w b g xs 0) (hlen : xs.length ≤ 1099511627776) (hn2 : 1048576 < n + xs.length) :
    Calls Try.prog 54 #[.pointer (some ⟨b, 0, none⟩), .int .i64 n] w fun r w' => r = .returned (.bool false) ∧ Between w w' b g xs 3 := by
  obtain ⟨A, c, h1, h2, h3⟩ := h
  have k1 := cell_of h1 1
  have k2 := cell_of h1 2
  have k3 := free_of h1 2
  simp only [List.getElem?_toArray, List.getElem?_cons_succ, List.getElem?_cons_zero] at k1 k2
  have H := Lib.hid h1
  have H3 := Lib.hid h3
  clear h1 h3
  go_enter Try.func54, Try.ntmps54
  go_wp2
  go_ret
  have q := heap_setCell_same w b 2 _ _ (.int .i64 3) H.out
  have hne := h2.ne H.out (by decide)
  refine ⟨rfl, g, ⟨A, c, by simpa using q, h2.keep fun g o eA ho => ?_, H3.out⟩, (Chg.refl _ _).setCell (by simp) _, .inl rfl⟩
  rw [Below.heap_setCell _ _ _ _ (by have := hne _ eA; exact this)]; exact ho
end Go.Proofs.Ytelbahfmkpncaaa
