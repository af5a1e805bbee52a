/- Receive, among other memory. Two lists of blocks apart. Lists are held against one another; a packet is copied. What an end took is the beginning of what the other one was sent to send: plain functions. No function of the program is named here. What one end has out is handed to the other one. -/
import Derived.Test.YtmblalcigbghfaaSge
import Derived.Test.YtmblalcigbghfaaSgf
import Derived.Test.YtmblalcigbghfaaSgb
import Derived.Test.YtmblalcigbghfaaSga
namespace Go.Proofs.Ytmblalcigbghfaa
section
open Go.RowKit Go.Lib
set_option linter.unusedSimpArgs false
set_option linter.unusedVariables false

def RelQ (K : Nat) (w : World) (D : List Nat) (s : SQ) (st : SesT) : Prop := Ab s st ∧ ∀ (i : Nat) (v : BV) (x : List UInt8 × Int), s.q[i]? = some v → st.q[i]? = some x → BodyP K w D v x
theorem rel_meet {K : Nat} {w : World} {D : List Nat} {s : SQ} {st : SesT} (f : Int) (h : RelQ K w D s st) : RelQ K w D (meetQ s f) (meetS st f) := by
  obtain ⟨a, q⟩ := h
  unfold meetQ meetS
  rw [a.peer]
  split
  · exact ⟨⟨a.ep, rfl, by simp [turnQ, turnS, a.turns], rfl, rfl, rfl, rfl, a.n⟩, by simp [turnQ]⟩
  · exact ⟨a, q⟩
theorem rel_drop {K : Nat} {w : World} {D : List Nat} {s : SQ} {st : SesT} (x : Int) (h : RelQ K w D s st) : RelQ K w D (dropQ s x) (dropS st x) := by
  obtain ⟨a, q⟩ := h
  unfold dropQ dropS
  rw [a.base, a.q]
  split
  · refine ⟨⟨a.ep, a.peer, a.turns, rfl, a.came, a.owes, by simp [a.q], a.n⟩, fun i v y hv hy => ?_⟩
    simp only [List.getElem?_drop] at hv hy
    exact q _ v y hv hy
  · exact ⟨a, q⟩
theorem rel_owe {K : Nat} {w : World} {D : List Nat} {s : SQ} {st : SesT} (h : RelQ K w D s st) : RelQ K w D { s with owes := true } (oweS st) := ⟨⟨h.1.ep, h.1.peer, h.1.turns, h.1.base, h.1.came, rfl, h.1.q, h.1.n⟩, h.2⟩
theorem rel_chg {K L : Nat} {w w' : World} {S D D' : List Nat} {s : SQ} {st : SesT} (h : RelQ K w D s st) (hc : Chg S w w') (hd : ∀ d ∈ D, d ∉ S) (hl : K ≤ L) (hD : ∀ d ∈ D, d ∈ D') : RelQ L w' D' s st := ⟨h.1, fun i v x hv hx => ((h.2 i v x hv hx).chg hc hd).more hl hD⟩
theorem drop_inn (st : SesT) (a : Int) : (dropS st a).inn = st.inn := by unfold dropS; split <;> rfl
theorem meet_inn (st : SesT) (f : Int) : (meetS st f).inn = st.inn := by unfold meetS; split <;> rfl
/-- The ledger out of its parts. -/
theorem mkL {K L : Nat} {w w' : World} {S D : List Nat} {b : Nat} {A : Option Addr} {st st' : SesT} {s s' : SQ} {lt : List SlV} (h : SesP K w b A D st s lt) (hq : QH w' b s') (hr : RelQ K w D s' st') (hl : K ≤ L) (hc : Chg [b] w w') (hi : InvS L st') (hn : st'.inn = st.inn) (hA : s'.A = s.A) (hcc : s'.c = s.c) : SesL L w' b A D st' := by
  have hd : ∀ d ∈ D, d ∉ [b] := fun d hd hm => h.nb (by simp at hm; exact hm ▸ hd)
  have ho := h.own.chg hc (fun a ha hm => (h.far a ha).1 (by simpa using hm))
  have r2 := rel_chg hr hc hd hl (fun _ h => h)
  exact ⟨s', lt, hq, r2.1, r2.2, by rw [hA]; exact h.eA, by rw [hcc]; exact ho, by rw [hn]; exact h.lst.chg hc hd, h.nb, h.far, fun d hm => Nat.lt_of_lt_of_le (h.lo d hm) hc.size, hi⟩
theorem recvL {K : Nat} {w : World} {b : Nat} {A : Option Addr} {D : List Nat} {st : SesT} (h : SesL K w b A D st) (hK : K ≤ 900000) (f t m a : Int) (B : Option Addr) (n d : Nat) (ys : List UInt8) (hr : Bs w B n ys) (hn : n ≤ 140737488351232) (hB : ∀ x, B = some x → x.block ≠ b) :
    Calls Try.prog 28 #[.pointer (some ⟨b, 0, none⟩), .agg #[.int .i64 f, .int .i64 t, .int .i64 m, .int .i64 a, .slice B n d]] w fun e w' => ∃ A' D', e = .returned (.tuple #[]) ∧ SesL (K + 2) w' b A' D' (recvS st (f, t, m, a, ys)) ∧ (∀ x, A' = some x → A = some x ∨ w.heap.size ≤ x.block) ∧ (∀ z ∈ D', z ∈ D ∨ w.heap.size ≤ z) ∧ Chg (b :: blkOf A) w w' := by
  have hL := h
  obtain ⟨s, lt, h⟩ := h
  have hlen := hr.len
  have hp := h.inv.peer
  have hpe := h.ab.peer
  have hba := h.inv.base
  have hbe := h.ab.base
  have htu := h.inv.turned
  have hte := h.ab.turns
  have hii := recv_inv h.inv (f, t, m, a, ys)
  have r0 : RelQ K w D s st := ⟨h.ab, h.q⟩
  have r1 := rel_meet f r0
  have r2 := rel_drop a r1
  have one : ∀ {w' : World} {s' : SQ} {st' : SesT}, QH w' b s' → RelQ K w D s' st' → Chg [b] w w' → InvS (K + 2) st' → st'.inn = st.inn → s'.A = s.A → s'.c = s.c → SesL (K + 2) w' b A D st' ∧ (∀ x, A = some x → A = some x ∨ w.heap.size ≤ x.block) ∧ (∀ z ∈ D, z ∈ D ∨ w.heap.size ≤ z) ∧ Chg (b :: blkOf A) w w' := fun q r c i e1 e2 e3 =>
    ⟨mkL (S := []) h q r (by omega) c i e1 e2 e3, fun x hx => .inl hx, fun z hz => .inl hz, c.mono (fun i hi => .inl (by simp at hi; simp [hi]))⟩
  by_cases hM : MindsQ s.peer f t m a n
  · have hM2 : Minds st (f, t, m, a, ys) := by
      obtain ⟨q1, q2, q3, q4, q5, q6, q7, q8⟩ := hM
      exact ⟨by rw [← hpe]; exact q1, q2, q3, q4, q5, q6, q7, by simp only [hlen]; exact q8⟩
    have i1 := meet_inv h.inv (f := f) ⟨hM.2.1, hM.2.2.1⟩
    have i2 := drop_inv a i1
    by_cases ht : t = s.ep
    · have ht2 : t = st.ep := by rw [ht]; exact h.ab.ep
      by_cases hm : m = 0
      · have e : recvS st (f, t, m, a, ys) = dropS (meetS st f) a := by unfold recvS; rw [if_pos hM2, if_pos ht2, if_pos hm]
        rw [e] at hii ⊢
        have fin : ∀ {w' : World}, QH w' b (dropQ (meetQ s f) a) → Chg [b] w w' → _ := fun q c => one q r2 c hii (by rw [drop_inn, meet_inn]) (by rw [(dropQ_same _ _).2.2.2.1, (meetQ_same _ _).2.1]) (by rw [(dropQ_same _ _).2.2.2.2.2.1, (meetQ_same _ _).2.2.2])
        by_cases hpf : s.peer < f
        · refine (serecv_zero_t w b s h.h f t m a B n d hn (by omega) hM (by omega) (by omega) hpf ht hm).mono ?_
          rintro e w' ⟨rfl, q, c⟩
          exact ⟨A, D, rfl, fin q c⟩
        · refine (serecv_zero_f w b s h.h f t m a B n d hn (by omega) hM (by omega) (by omega) hpf ht hm).mono ?_
          rintro e w' ⟨rfl, q, c⟩
          exact ⟨A, D, rfl, fin q c⟩
      · have hce := r2.1.came
        have hci := i2.came
        by_cases hc : (dropQ (meetQ s f) a).came + 1 = m
        · have e : recvS st (f, t, m, a, ys) = { oweS (dropS (meetS st f) a) with came := (oweS (dropS (meetS st f) a)).came + 1, inn := (oweS (dropS (meetS st f) a)).inn ++ [ys] } := by
            unfold recvS
            rw [if_pos hM2, if_pos ht2, if_neg hm]
            unfold comeS
            rw [if_pos (show (oweS (dropS (meetS st f) a)).came + 1 = m by simp only [oweS]; omega)]
          rw [e] at hii ⊢
          have hlt : s.n = lt.length ∧ lt.length ≤ 1000000 := ⟨by rw [h.ab.n, h.lst.1], by rw [h.lst.1]; have := h.inv.inn; omega⟩
          have hcm : ∀ s7, s7 = dropQ (meetQ s f) a → (0 ≤ s7.came ∧ s7.came ≤ 1000000) ∧ s7.came + 1 = m ∧ s7.A = s.A ∧ s7.n = s.n ∧ s7.c = s.c := by
            rintro s7 rfl
            exact ⟨⟨by omega, by omega⟩, hc, by rw [(dropQ_same _ _).2.2.2.1, (meetQ_same _ _).2.1], by rw [(dropQ_same _ _).2.2.2.2.1, (meetQ_same _ _).2.2.1], by rw [(dropQ_same _ _).2.2.2.2.2.1, (meetQ_same _ _).2.2.2]⟩
          have hfar : ∀ x, s.A = some x → x.block ≠ b := fun x hx => (h.far x (by rw [← h.eA]; exact hx)).1
          have ho : OwnK lstTy w s.A s.c lt := by rw [h.eA]; exact h.own
          have fin : ∀ {w' : World} {A2 : Option Addr} {c2 : Nat} {A3 : Option Addr} {c3 : Nat}, QH w' b { dropQ (meetQ s f) a with owes := true, came := (dropQ (meetQ s f) a).came + 1, A := A3, n := lt.length + 1, c := c3 } → OwnK lstTy w' A3 c3 (lt ++ [(A2, n, c2)]) → OwnB w' A2 c2 ys → (∀ x, A2 = some x → w.heap.size ≤ x.block) → (∀ x, A3 = some x → s.A = some x ∨ w.heap.size ≤ x.block) → Chg (b :: blkOf s.A) w w' → ∃ A' D', Ending.returned (Value.tuple #[]) = .returned (.tuple #[]) ∧ SesL (K + 2) w' b A' D' { oweS (dropS (meetS st f) a) with came := (oweS (dropS (meetS st f) a)).came + 1, inn := (oweS (dropS (meetS st f) a)).inn ++ [ys] } ∧ (∀ x, A' = some x → A = some x ∨ w.heap.size ≤ x.block) ∧ (∀ z ∈ D', z ∈ D ∨ w.heap.size ≤ z) ∧ Chg (b :: blkOf A) w w' := by
            intro w' A2 c2 A3 c3 q o1 o2 n2 n3 c
            rw [h.eA] at c n3
            have hd : ∀ z ∈ D, z ∉ b :: blkOf A := fun z hz hm => by
              rcases List.mem_cons.1 hm with e | e
              · exact h.nb (e ▸ hz)
              · obtain ⟨x, hx, e⟩ := of_blkOf e
                exact (h.far x hx).2 (e ▸ hz)
            have hbl := h.h.lt
            have hal := h.own.lt
            have r3 := rel_chg r2 c hd (L := K + 2) (D' := blkOf A2 ++ D) (by omega) (fun z hz => List.mem_append_right _ hz)
            have l1 := (h.lst.chg c hd).more (D' := blkOf A2 ++ D) (fun z hz => List.mem_append_right _ hz)
            refine ⟨A3, blkOf A2 ++ D, rfl, ⟨_, _, q, ⟨r3.1.ep, r3.1.peer, r3.1.turns, r3.1.base, by have := r3.1.came; simp only [oweS]; omega, rfl, r3.1.q, by simp only [oweS, drop_inn, meet_inn, List.length_append, List.length_singleton, h.lst.1]⟩, r3.2, rfl, o1, ⟨?_, ?_⟩, ?_, ?_, ?_, hii⟩, n3, ?_, c⟩
            · simp only [oweS, drop_inn, meet_inn, List.length_append, List.length_singleton, h.lst.1]
            · intro i x y hx hy
              simp only [oweS, drop_inn, meet_inn] at hy
              by_cases ei : i = lt.length
              · subst ei
                rw [List.getElem?_append_right (Nat.le_refl _)] at hx
                rw [h.lst.1, List.getElem?_append_right (Nat.le_refl _)] at hy
                simp at hx hy
                subst hx; subst hy
                exact ⟨by have := o2.reads; rwa [hlen] at this, fun z hz => List.mem_append_left _ (mem_blkOf hz)⟩
              · have hi2 : i < lt.length + 1 := by simpa using (List.getElem?_eq_some_iff.1 hx).1
                rw [List.getElem?_append_left (by omega)] at hx
                rw [List.getElem?_append_left (by have := h.lst.1; omega)] at hy
                exact l1.2 i x y hx hy
            · intro hm
              rcases List.mem_append.1 hm with e | e
              · obtain ⟨x, hx, e⟩ := of_blkOf e
                have := n2 x hx
                omega
              · exact h.nb e
            · intro x hx
              refine ⟨fun e => ?_, fun hm => ?_⟩
              · rcases n3 x hx with e1 | e1
                · exact (h.far x e1).1 e
                · omega
              · rcases List.mem_append.1 hm with e | e
                · obtain ⟨y, hy, e⟩ := of_blkOf e
                  rcases o1.shape with ⟨e1, _⟩ | ⟨g, e1, _⟩
                  · rw [e1] at hx; cases hx
                  · rw [e1] at hx
                    cases hx
                    obtain ⟨g', full, e1', hg, _⟩ : ∃ (g' : Nat) (full : List SlV), A3 = some ⟨g', 0, none⟩ ∧ w'.heap[g']? = some (.cells (lstTy.flat full).toArray lstTy.T (0, 0)) ∧ True := by
                      rcases o1 with ⟨e2, _⟩ | ⟨g', full, e2, hg, _⟩
                      · rw [e2] at e1; cases e1
                      · exact ⟨g', full, e2, hg, trivial⟩
                    rw [e1'] at e1
                    cases e1
                    exact o2.ne hg (by decide) y hy e
                · rcases n3 x hx with e1 | e1
                  · exact (h.far x e1).2 e
                  · have := h.lo _ e
                    omega
            · intro z hm
              rcases List.mem_append.1 hm with e | e
              · obtain ⟨y, hy, rfl⟩ := of_blkOf e
                exact o2.lt y hy
              · exact Nat.lt_of_lt_of_le (h.lo z e) c.size
            · intro z hm
              rcases List.mem_append.1 hm with e | e
              · obtain ⟨y, hy, rfl⟩ := of_blkOf e
                exact .inr (n2 y hy)
              · exact .inl e
          by_cases hpf : s.peer < f
          · refine (serecv_come_t w b s h.h f t m a B n d hn (by omega) hM (by omega) (by omega) hpf ht hm hcm lt ho hlt hfar ys hr hB).mono ?_
            rintro e w' ⟨rfl, A2, c2, A3, c3, q, o1, o2, n2, n3, c⟩
            exact fin q o1 o2 n2 n3 c
          · refine (serecv_come_f w b s h.h f t m a B n d hn (by omega) hM (by omega) (by omega) hpf ht hm hcm lt ho hlt hfar ys hr hB).mono ?_
            rintro e w' ⟨rfl, A2, c2, A3, c3, q, o1, o2, n2, n3, c⟩
            exact fin q o1 o2 n2 n3 c
        · have e : recvS st (f, t, m, a, ys) = oweS (dropS (meetS st f) a) := by
            unfold recvS
            rw [if_pos hM2, if_pos ht2, if_neg hm]
            unfold comeS
            rw [if_neg (show ¬ (oweS (dropS (meetS st f) a)).came + 1 = m by simp only [oweS]; omega)]
          rw [e] at hii ⊢
          have hcm : ∀ s7, s7 = dropQ (meetQ s f) a → (0 ≤ s7.came ∧ s7.came ≤ 1000000) ∧ ¬ s7.came + 1 = m := by
            rintro s7 rfl
            exact ⟨⟨by omega, by omega⟩, hc⟩
          have fin : ∀ {w' : World}, QH w' b { dropQ (meetQ s f) a with owes := true } → Chg [b] w w' → _ := fun q c => one q (rel_owe r2) c hii (by simp only [oweS, drop_inn, meet_inn]) (by simp only [(dropQ_same _ _).2.2.2.1, (meetQ_same _ _).2.1]) (by simp only [(dropQ_same _ _).2.2.2.2.2.1, (meetQ_same _ _).2.2.2])
          by_cases hpf : s.peer < f
          · refine (serecv_old_t w b s h.h f t m a B n d hn (by omega) hM (by omega) (by omega) hpf ht hm hcm).mono ?_
            rintro e w' ⟨rfl, q, c⟩
            exact ⟨A, D, rfl, fin q c⟩
          · refine (serecv_old_f w b s h.h f t m a B n d hn (by omega) hM (by omega) (by omega) hpf ht hm hcm).mono ?_
            rintro e w' ⟨rfl, q, c⟩
            exact ⟨A, D, rfl, fin q c⟩
    · have ht2 : ¬ t = st.ep := by rw [← h.ab.ep]; exact ht
      have e : recvS st (f, t, m, a, ys) = oweS (meetS st f) := by unfold recvS; rw [if_pos hM2, if_neg ht2]
      rw [e] at hii ⊢
      have fin : ∀ {w' : World}, QH w' b { meetQ s f with owes := true } → Chg [b] w w' → _ := fun q c => one q (rel_owe r1) c hii (by simp only [oweS, meet_inn]) (by simp only [(meetQ_same _ _).2.1]) (by simp only [(meetQ_same _ _).2.2.2])
      by_cases hpf : s.peer < f
      · refine (serecv_owe_t w b s h.h f t m a B n d hn (by omega) hM (by omega) (by omega) hpf ht).mono ?_
        rintro e w' ⟨rfl, q, c⟩
        exact ⟨A, D, rfl, fin q c⟩
      · refine (serecv_owe_f w b s h.h f t m a B n d hn (by omega) hM (by omega) (by omega) hpf ht).mono ?_
        rintro e w' ⟨rfl, q, c⟩
        exact ⟨A, D, rfl, fin q c⟩
  · have hM2 : ¬ Minds st (f, t, m, a, ys) := fun q => hM (by
      obtain ⟨q1, q2, q3, q4, q5, q6, q7, q8⟩ := q
      exact ⟨by rw [hpe]; exact q1, q2, q3, q4, q5, q6, q7, by simp only [hlen] at q8; exact q8⟩)
    have e : recvS st (f, t, m, a, ys) = st := by unfold recvS; rw [if_neg hM2]
    rw [e]
    refine (serecv_none w b s h.h f t m a B n d hn (by omega) hM).mono ?_
    rintro e w' ⟨rfl, c⟩
    exact ⟨A, D, rfl, (hL.chg c (by simp) (by simp) (by simp)).more (by omega), fun x hx => .inl hx, fun z hz => .inl hz, c.mono (by simp)⟩
end
section
open Go.RowKit Go.Lib
set_option linter.unusedSimpArgs false
set_option linter.unusedVariables false


/-- The blocks of both sessions lie behind n, apart from one another and from X. -/
def Sep (n : Nat) (X : List Nat) (b : Nat) (A : Option Addr) (D L : List Nat) : Prop := (∀ z ∈ b :: (blkOf A ++ D), n ≤ z ∧ z ∉ L ∧ z ∉ X) ∧ ∀ z ∈ L, n ≤ z ∧ z ∉ X
theorem sep1 {n m : Nat} {X : List Nat} {b : Nat} {A A' : Option Addr} {D D' L : List Nat} (h : Sep n X b A D L) (hL : ∀ z ∈ L, z < m) (hX : ∀ z ∈ X, z < m) (hn : n ≤ m) (hA : ∀ x, A' = some x → A = some x ∨ m ≤ x.block) (hD : ∀ z ∈ D', z ∈ D ∨ m ≤ z) : Sep n X b A' D' L := by
  refine ⟨fun z hz => ?_, h.2⟩
  have new : m ≤ z → n ≤ z ∧ z ∉ L ∧ z ∉ X := fun hm => ⟨by omega, fun hl => by have := hL z hl; omega, fun hx => by have := hX z hx; omega⟩
  simp only [List.mem_cons, List.mem_append] at hz
  rcases hz with e | e | e
  · exact h.1 z (by simp [e])
  · obtain ⟨x, hx, rfl⟩ := of_blkOf e
    rcases hA x hx with e | e
    · exact h.1 _ (by simp [mem_blkOf e])
    · exact new e
  · rcases hD z e with e | e
    · exact h.1 z (by simp [e])
    · exact new e
theorem sep2 {n m : Nat} {X : List Nat} {b : Nat} {A : Option Addr} {D L L' : List Nat} (h : Sep n X b A D L) (hS : ∀ z ∈ b :: (blkOf A ++ D), z < m) (hX : ∀ z ∈ X, z < m) (hn : n ≤ m) (hL : ∀ z ∈ L', z ∈ L ∨ m ≤ z) : Sep n X b A D L' := by
  refine ⟨fun z hz => ⟨(h.1 z hz).1, fun hl => ?_, (h.1 z hz).2.2⟩, fun z hz => ?_⟩
  · rcases hL z hl with e | e
    · exact (h.1 z hz).2.1 e
    · have := hS z hz; omega
  · rcases hL z hz with e | e
    · exact h.2 z e
    · exact ⟨by omega, fun hx => by have := hX z hx; omega⟩
theorem sepX {n : Nat} {X X' : List Nat} {b : Nat} {A : Option Addr} {D L : List Nat} (h : Sep n X b A D L) (hx : ∀ z ∈ X', z ∈ X ∨ ((∀ y ∈ b :: (blkOf A ++ D), y < z) ∧ ∀ y ∈ L, y < z)) : Sep n X' b A D L := by
  refine ⟨fun z hz => ⟨(h.1 z hz).1, (h.1 z hz).2.1, fun hm => ?_⟩, fun z hz => ⟨(h.2 z hz).1, fun hm => ?_⟩⟩
  · rcases hx z hm with e | e
    · exact (h.1 z hz).2.2 e
    · exact absurd (e.1 z hz) (by omega)
  · rcases hx z hm with e | e
    · exact (h.2 z hz).2 e
    · exact absurd (e.2 z hz) (by omega)
theorem SesL.lts {K : Nat} {w : World} {b : Nat} {A : Option Addr} {D : List Nat} {st : SesT} (h : SesL K w b A D st) : ∀ z ∈ b :: (blkOf A ++ D), z < w.heap.size := by
  intro z hz
  simp only [List.mem_cons, List.mem_append] at hz
  rcases hz with rfl | e | e
  · exact h.lt.1
  · obtain ⟨x, hx, rfl⟩ := of_blkOf e
    exact h.lt.2.1 x hx
  · exact h.lt.2.2 z e
/-- The program's ledger, when blocks S that are none of its own turned. -/
theorem SesL.off {K : Nat} {w w' : World} {S : List Nat} {b : Nat} {A : Option Addr} {D : List Nat} {st : SesT} (h : SesL K w b A D st) (hc : Chg S w w') (hz : ∀ z ∈ b :: (blkOf A ++ D), z ∉ S) : SesL K w' b A D st :=
  h.chg hc (hz b (by simp)) (fun a ha => hz _ (by simp [mem_blkOf ha])) (fun z hd => hz z (by simp [hd]))
theorem Bs.go {w0 w w' : World} {S : List Nat} {Y : Option Addr} {n : Nat} {ys : List UInt8} (h : Bs w Y n ys) (hc : Chg S w w') (hY : ys = [] ∨ ∀ x, Y = some x → x.block < w0.heap.size) (hs : ∀ z ∈ S, w0.heap.size ≤ z) : Bs w' Y n ys := by
  rcases hY with rfl | hY
  · have := h.len
    subst this
    exact Bs.nil _ _
  · exact h.chg hc (fun a ha hm => by have := hs _ hm; have := hY a ha; omega)
theorem Chg.on {S : List Nat} {w0 w w' : World} (h : Chg [] w0 w) (hc : Chg S w w') (hs : ∀ z ∈ S, w0.heap.size ≤ z) : Chg [] w0 w' := h.trans' hc (fun z hz => .inr (hs z hz))
end
section
open Go.RowKit Go.Lib
set_option linter.unusedSimpArgs false
set_option linter.unusedVariables false


theorem samelists_nil (w : World) (A B : Option Addr) (d d' : Nat) : Calls Try.prog 15 #[.slice A 0 d, .slice B 0 d'] w fun e w' => e = .returned (.bool true) ∧ w = w' := by
  have h0 : ((0 : Nat) : Int) = 0 := rfl
  go_enter Try.func15, Try.ntmps15
  go_wp2
  go_loopw [5] (fun v wr => v = .int .i64 0 ∧ w = wr) (fun _ _ => 0)
  case atStart => exact ⟨rfl, rfl⟩
  case round =>
    obtain ⟨rfl, rfl⟩ := hrel
    go_wp2
    go_ret
    exact ⟨rfl, rfl⟩
set_option maxHeartbeats 8000000 in
theorem samelists_yes (w : World) (g o g' o' d d' n : Nat) (l l' : List SlV) (h : RdK lstTy w (some ⟨g, o, none⟩) n l) (h' : RdK lstTy w (some ⟨g', o', none⟩) n l') (hn : n ≤ 1000000)
    (hs : ∀ (j : Nat) (x : SlV), l[j]? = some x → ∃ (y : SlV) (zs : List UInt8), l'[j]? = some y ∧ Bs w x.1 x.2.1 zs ∧ Bs w y.1 y.2.1 zs) :
    Calls Try.prog 15 #[.slice (some ⟨g, o, none⟩) n d, .slice (some ⟨g', o', none⟩) n d'] w fun e w' => e = .returned (.bool true) ∧ Chg [] w w' := by
  have HL := Lib.hid h.len
  have H := Lib.hid h
  have H' := Lib.hid h'
  have HS := Lib.hid hs
  have h0 : ((n : Int) != (n : Int)) = false := by simp
  clear h h' hs
  go_enter Try.func15, Try.ntmps15
  go_wp2
  go_loopw [5] (fun v wr => ∃ j : Nat, j ≤ n ∧ v = .int .i64 (j : Int) ∧ Hid (Chg [] w wr)) (fun v _ => n - (RowKit.intOf v).toNat)
  case atStart => exact ⟨0, Nat.zero_le _, rfl, Chg.refl _ _⟩
  case round =>
    obtain ⟨j, hj, rfl, HI⟩ := hrel
    have i0 : (0 : Int) ≤ (j : Int) := by omega
    have i1 : IntKind.i64.wrap ((j : Int) + 1) = (j : Int) + 1 := IntWalk.i64_in _ (by omega)
    by_cases hlt : j < n
    · have i2 : (j : Int) < (n : Int) := by omega
      obtain ⟨x, hx⟩ : ∃ x, l[j]? = some x := ⟨_, List.getElem?_eq_getElem (by have := HL.out; omega)⟩
      obtain ⟨y, zs, hy, hb, hb'⟩ := HS.out j x hx
      have CE := Lib.hid (fun (w' : World) (hc : Chg [] w w') => lstCell (H.out.chg hc (by simp)) hx)
      have CF := Lib.hid (fun (w' : World) (hc : Chg [] w w') => lstCell (H'.out.chg hc (by simp)) hy)
      clear hx hy
      obtain ⟨xA, xn, xd⟩ := x
      obtain ⟨yA, yn, yd⟩ := y
      dsimp only at hb hb' CE CF
      have HB := Lib.hid (fun (w' : World) (hc : Chg [] w w') => (⟨hb.chg hc (by simp), hb'.chg hc (by simp)⟩ : _ ∧ _))
      clear hb hb'
      have HK : Hid (∀ w', Chg [] wr w' → (w'.cell? ⟨g, o + j, none⟩ = some (.slice xA xn xd) ∧ w'.cell? ⟨g', o' + j, none⟩ = some (.slice yA yn yd)) ∧ Chg [] wr w') := Lib.hid (fun w' hc => ⟨⟨CE.out w' (HI.out.trans hc), CF.out w' (HI.out.trans hc)⟩, hc⟩)
      go_upto_region 6 with fail
      refine wp_region_held_drew (S := fun w' => (w'.cell? ⟨g, o + j, none⟩ = some (.slice xA xn xd) ∧ w'.cell? ⟨g', o' + j, none⟩ = some (.slice yA yn yd)) ∧ Chg [] wr w') (by kernel_rfl) (HK.out _ (Chg.refl [] wr).drew) (fun hHeld => ?_)
      refine sy 0 17 rfl rfl ?_
      try simp only [Act.put, sA, s0, s1]
      refine sy 1 18 rfl rfl ?_
      try simp only [Act.put, sA, s0, s1]
      refine sy 2 19 rfl rfl ?_
      try simp only [Act.put, sA, s0, s1]
      refine sy 3 20 rfl rfl ?_
      try simp only [Act.put, sA, s0, s1]
      refine sy 4 21 rfl rfl ?_
      try simp only [Act.put, sA, s0, s1]
      refine sy 5 22 rfl rfl ?_
      try simp only [Act.put, sA, s0, s1]
      refine sy 6 23 rfl rfl ?_
      try simp only [Act.put, sA, s0, s1]
      refine sy 7 24 rfl rfl ?_
      try simp only [Act.put, sA, s0, s1]
      refine wpAnyH_ready (rs := [8]) (by kernel_rfl) (by simp) ?_
      refine AllReadyH.cons rfl (fun K hK => ?_) AllReadyH.nil
      replace hK := Lib.hid hK
      go_simp
      refine (same_yes _ xA yA xn yn xd yd zs zs (HB.out _ (HI.out.trans hHeld.2)).1 (HB.out _ (HI.out.trans hHeld.2)).2 rfl).mono ?_
      rintro e w9 ⟨rfl, rfl⟩
      have hh := hHeld
      refine hK.out _ _ hh (fun hHeld => ?_)
      clear hK K
      try simp only [Act.put, sA, s0, s1]
      refine sy 9 26 rfl rfl ?_
      try simp only [Act.put, sA, s0, s1]
      refine wpAnyH_done (by kernel_rfl) ?_ _
      have C9 := Lib.hid (HI.out.trans hHeld.2)
      clear hHeld
      go_wp2
      go_round
      case measure => simp [RowKit.intOf]; omega
      exact ⟨j + 1, by omega, by go_num, C9.out⟩
    · have i2 : ¬ (j : Int) < (n : Int) := by omega
      go_wp2
      go_ret
      exact ⟨rfl, HI.out⟩
theorem samelists_ok (w : World) (A B : Option Addr) (c d : Nat) (D D' : List Nat) (l l' : List SlV) (ls : List (List UInt8)) (h : OwnK lstTy w A c l) (h' : OwnK lstTy w B d l') (hp : ListP w D l ls) (hp' : ListP w D' l' ls) (hn : ls.length ≤ 1000000) :
    Calls Try.prog 15 #[.slice A ls.length c, .slice B ls.length d] w fun e w' => e = .returned (.bool true) ∧ Chg [] w w' := by
  have e1 := hp.1
  have e2 := hp'.1
  by_cases h0 : ls.length = 0
  · rw [h0]
    refine (samelists_nil w A B c d).mono ?_
    rintro e w' ⟨rfl, rfl⟩
    exact ⟨rfl, Chg.refl _ _⟩
  · have r1 := h.reads
    have r2 := h'.reads
    rw [e1] at r1
    rw [e2] at r2
    obtain ⟨g, o, rfl, _⟩ := r1.line (by omega)
    obtain ⟨g', o', rfl, _⟩ := r2.line (by omega)
    refine samelists_yes w g o g' o' c d _ l l' r1 r2 hn (fun j x hx => ?_)
    have hj := (List.getElem?_eq_some_iff.1 hx).1
    obtain ⟨y, hy⟩ : ∃ y, l'[j]? = some y := ⟨_, List.getElem?_eq_getElem (by omega)⟩
    obtain ⟨p, hpp⟩ : ∃ p, ls[j]? = some p := ⟨_, List.getElem?_eq_getElem (by omega)⟩
    exact ⟨y, p, hy, (hp.2 j x p hx hpp).1, (hp'.2 j y p hy hpp).1⟩

set_option maxHeartbeats 4000000 in
theorem copypack_any (w : World) (k i s a : Int) (A : Option Addr) (n c : Nat) (xs : List UInt8) (h : Bs w A n xs) (hn : n ≤ 140737488351232) :
    Calls Try.prog 38 #[.agg #[.int .i64 k, .int .i64 i, .int .i64 s, .int .i64 a, .slice A n c]] w fun e w' => ∃ A' c', e = .returned (.agg #[.int .i64 k, .int .i64 i, .int .i64 s, .int .i64 a, .slice A' n c']) ∧ Fresh w w' A' c' xs := by
  obtain ⟨w0, hw0, c0, b0, b1⟩ := news2 w (.cells #[.int .i64 k, .int .i64 i, .int .i64 s, .int .i64 a, .slice A n c] 35) (.cells #[.int .i64 0, .int .i64 0, .int .i64 0, .int .i64 0, .slice none 0 0] 35)
  have W0 := Lib.hid hw0
  have H := Lib.hid (h.chg c0 (by simp))
  have HS0 := Lib.hid (fun (w' : World) (j : Nat) (v : Value) (h : Chg [] w w') => h.put (s := w.heap.size) (Nat.le_refl _) j v)
  have HS1 := Lib.hid (fun (w' : World) (j : Nat) (v : Value) (h : Chg [] w w') => h.put (s := w.heap.size + 1) (Nat.le_succ _) j v)
  have hs2 : ¬ w.heap.size = w.heap.size + 1 := by omega
  have d5 : ¬ w.heap.size + 1 = w.heap.size := by omega
  have g0 := lt_of_heap b0
  have g1 := lt_of_heap b1
  have C0 := Lib.hid c0
  have B0 := Lib.hid b0
  have B1 := Lib.hid b1
  clear hw0 c0 b0 b1 h
  go_enter Try.func38, Try.ntmps38
  go_upto_region 1 with fail
  rw [← W0.out]
  generalize w.heap.size + 1 = s1 at *
  generalize w.heap.size = s0 at *
  have z4 := cell_of B0.out 4
  simp only [List.getElem?_toArray, List.getElem?_cons_succ, List.getElem?_cons_zero] at z4
  go_wp2_with fail
  clear z4
  refine (copy_any w0 A n c xs H.out hn).mono ?_
  rintro e w1 ⟨A1, c1, rfl, f1⟩
  have b0 := f1.2.2.at_ B0.out (by simp)
  have b1 := f1.2.2.at_ B1.out (by simp)
  have n1 : ∀ a, A1 = some a → a.block ∉ [s0, s1] := fun a e => by have := f1.2.1 a e; simp; omega
  have p0 := heap_setCell_same w1 s0 4 _ _ (.slice A1 n c1) b0
  have p1 := ((Chg.refl [s0] w1).setCell (p := ⟨s0, 4, none⟩) (.inl (by simp)) (.slice A1 n c1)).at_ b1 (by simpa using fun e => hs2 e.symm)
  simp only [List.setIfInBounds_toArray, List.set_cons_zero, List.set_cons_succ] at p0
  have f4 := free_of b0 4
  have z4 := cell_of b0 4
  simp only [List.getElem?_toArray, List.getElem?_cons_succ, List.getElem?_cons_zero] at z4
  have C1 := Lib.hid (HS0.out _ 4 (.slice A1 n c1) (C0.out.trans f1.2.2))
  have O1 := Lib.hid (f1.1.chg ((Chg.refl [s0, s1] w1).setCell (p := ⟨s0, 4, none⟩) (.inl (by simp)) (.slice A1 n c1)) n1)
  have N1 := Lib.hid f1.2.1
  have L1 := Lib.hid n1
  have P0 := Lib.hid p0
  have P1 := Lib.hid p1
  clear p0 p1 b0 b1 f1 n1
  go_upto_region 2 with fail
  generalize w1.setCell ⟨s0, 4, none⟩ (.slice A1 n c1) = w2 at *
  clear z4 f4
  have z0 := cell_of P0.out 0
  have z1 := cell_of P0.out 1
  have z2 := cell_of P0.out 2
  have z3 := cell_of P0.out 3
  have z4 := cell_of P0.out 4
  have y0 := cell_of P1.out 0
  have y1 := cell_of P1.out 1
  have y2 := cell_of P1.out 2
  have y3 := cell_of P1.out 3
  have y4 := cell_of P1.out 4
  have k0 := free_of P1.out 0
  have k1 := free_of P1.out 1
  have k2 := free_of P1.out 2
  have k3 := free_of P1.out 3
  have k4 := free_of P1.out 4
  simp only [List.getElem?_toArray, List.getElem?_cons_succ, List.getElem?_cons_zero] at z0 z1 z2 z3 z4 y0 y1 y2 y3 y4
  have P2 := Lib.hid (put5_0 (.int .i64 k) (.int .i64 i) (.int .i64 s) (.int .i64 a) (.slice A1 n c1) P1.out)
  have C2 := Lib.hid (HS1.out _ 4 (.slice A1 n c1) (HS1.out _ 3 (.int .i64 a) (HS1.out _ 2 (.int .i64 s) (HS1.out _ 1 (.int .i64 i) (HS1.out _ 0 (.int .i64 k) C1.out)))))
  have O2 := Lib.hid (O1.out.chg ((((((Chg.refl [s0, s1] w2).setCell (p := ⟨s1, 0, none⟩) (.inl (by simp)) (.int .i64 k)).setCell (p := ⟨s1, 1, none⟩) (.inl (by simp)) (.int .i64 i)).setCell (p := ⟨s1, 2, none⟩) (.inl (by simp)) (.int .i64 s)).setCell (p := ⟨s1, 3, none⟩) (.inl (by simp)) (.int .i64 a)).setCell (p := ⟨s1, 4, none⟩) (.inl (by simp)) (.slice A1 n c1)) L1.out)
  go_wp2
  clear z0 z1 z2 z3 z4 y0 y1 y2 y3 y4 k0 k1 k2 k3 k4
  generalize (((((w2.setCell ⟨s1, 0, none⟩ (.int .i64 k)).setCell ⟨s1, 1, none⟩ (.int .i64 i)).setCell ⟨s1, 2, none⟩ (.int .i64 s)).setCell ⟨s1, 3, none⟩ (.int .i64 a)).setCell ⟨s1, 4, none⟩ (.slice A1 n c1)) = W at *
  have z0 := cell_of P2.out 0
  have z1 := cell_of P2.out 1
  have z2 := cell_of P2.out 2
  have z3 := cell_of P2.out 3
  have z4 := cell_of P2.out 4
  simp only [List.getElem?_toArray, List.getElem?_cons_succ, List.getElem?_cons_zero] at z0 z1 z2 z3 z4
  refine bodyPost_ret (v := .agg #[.int .i64 k, .int .i64 i, .int .i64 s, .int .i64 a, .slice A1 n c1]) (by simp [results, Try.results38, go_sem, z0, z1, z2, z3, z4]) rfl ?_
  exact ⟨A1, c1, rfl, O2.out, fun a e => Nat.le_trans C0.out.size (N1.out a e), C2.out⟩
end
section
set_option linter.unusedSimpArgs false
set_option linter.unusedVariables false

/-- A packet of the sender s, of what it was sent to send. -/
structure PakOk (s r : SesT) (sent : List (List UInt8)) (p : PakT) : Prop where
  frm : p.1 = s.ep
  to : p.2.1 = r.ep
  num : p.2.2.1 = 0 ∨ ∃ i : Nat, p.2.2.1 = (i : Int) + 1 ∧ sent[i]? = some p.2.2.2.2
  ack : p.2.2.2.1 ≤ s.came
/-- One way: s sends, r takes: what was sent, what was taken, what is in the air. -/
structure Way (s r : SesT) (sent took : List (List UInt8)) (air : List PakT) : Prop where
  met1 : r.peer = s.ep
  met2 : s.peer = r.ep
  came : r.came = ((took ++ r.inn).length : Int)
  pre : took ++ r.inn = sent.take (took ++ r.inn).length
  base : ∃ k : Nat, s.base = (k : Int) + 1 ∧ k ≤ (took ++ r.inn).length ∧ s.q.map (·.1) = sent.drop k
  air : ∀ p ∈ air, PakOk s r sent p
theorem Way.lens {s r : SesT} {sent took : List (List UInt8)} {air : List PakT} (h : Way s r sent took air) : (took ++ r.inn).length ≤ sent.length := by
  have := congrArg List.length h.pre
  rw [List.length_take] at this
  omega
/-- Whatever the sender is sent. -/
theorem way_send {s r : SesT} {sent took : List (List UInt8)} {air : List PakT} (h : Way s r sent took air) (b : List UInt8) : Way (sendS s b) r (if sendE s b = 0 then sent ++ [b] else sent) took air := by
  have hl := h.lens
  unfold sendS sendE
  by_cases c1 : 400 < b.length
  · rw [if_pos (.inl c1), if_pos c1, if_neg (by decide)]; exact h
  by_cases c2 : s.peer = 0
  · rw [if_pos (.inr (.inl c2)), if_neg c1, if_pos c2, if_neg (by decide)]; exact h
  by_cases c3 : 8 ≤ s.q.length
  · rw [if_pos (.inr (.inr c3)), if_neg c1, if_neg c2, if_pos c3, if_neg (by decide)]; exact h
  rw [if_neg (by omega), if_neg c1, if_neg c2, if_neg c3, if_pos rfl]
  obtain ⟨k, b1, b2, b3⟩ := h.base
  refine ⟨h.met1, h.met2, h.came, ?_, ⟨k, b1, b2, ?_⟩, fun p hp => ?_⟩
  · rw [List.take_append_of_le_length hl]; exact h.pre
  · simp only [List.map_append, List.map_cons, List.map_nil, b3]
    rw [List.drop_append_of_le_length (by omega)]
  · have q := h.air p hp
    refine ⟨q.frm, q.to, ?_, q.ack⟩
    rcases q.num with e | ⟨i, e1, e2⟩
    · exact .inl e
    · exact .inr ⟨i, e1, by rw [List.getElem?_append_left (List.getElem?_eq_some_iff.1 e2).1]; exact e2⟩
theorem way_tick {s r : SesT} {sent took : List (List UInt8)} {air : List PakT} (h : Way s r sent took air) : Way (tickS s) r sent took air := by
  obtain ⟨k, b1, b2, b3⟩ := h.base
  refine ⟨h.met1, h.met2, h.came, h.pre, ⟨k, b1, b2, ?_⟩, fun p hp => ⟨(h.air p hp).frm, (h.air p hp).to, (h.air p hp).num, (h.air p hp).ack⟩⟩
  simpa [tickS, Function.comp_def] using b3
theorem way_tick' {s r : SesT} {sent took : List (List UInt8)} {air : List PakT} (h : Way s r sent took air) : Way s (tickS r) sent took air := ⟨h.met1, h.met2, h.came, h.pre, h.base, fun p hp => ⟨(h.air p hp).frm, (h.air p hp).to, (h.air p hp).num, (h.air p hp).ack⟩⟩
theorem way_send' {s r : SesT} {sent took : List (List UInt8)} {air : List PakT} (h : Way s r sent took air) (b : List UInt8) : Way s (sendS r b) sent took air := by
  have e : (sendS r b).peer = r.peer ∧ (sendS r b).ep = r.ep ∧ (sendS r b).came = r.came ∧ (sendS r b).inn = r.inn := by unfold sendS; split <;> exact ⟨rfl, rfl, rfl, rfl⟩
  exact ⟨by rw [e.1]; exact h.met1, by rw [e.2.1]; exact h.met2, by rw [e.2.2.1, e.2.2.2]; exact h.came, by rw [e.2.2.2]; exact h.pre, by rw [e.2.2.2]; exact h.base, fun p hp => ⟨(h.air p hp).frm, by rw [e.2.1]; exact (h.air p hp).to, (h.air p hp).num, (h.air p hp).ack⟩⟩
/-- The packets that go out. -/
theorem outQ_mem {ep peer came : Int} : ∀ {n : Int} {l : List (List UInt8 × Int)} {p : PakT}, p ∈ outQ ep peer came n l → ∃ (i : Nat) (x : List UInt8 × Int), l[i]? = some x ∧ p = (ep, peer, n + i, came, x.1)
  | n, [], p, h => by simp [outQ] at h
  | n, x :: xs, p, h => by
    have rest : p ∈ outQ ep peer came (n + 1) xs → ∃ (i : Nat) (y : List UInt8 × Int), (x :: xs)[i]? = some y ∧ p = (ep, peer, n + i, came, y.1) := fun hm => by
      obtain ⟨i, y, h1, h2⟩ := outQ_mem hm
      exact ⟨i + 1, y, by simpa using h1, by rw [h2]; simp; omega⟩
    unfold outQ at h
    split at h
    · rcases List.mem_cons.1 h with e | e
      · exact ⟨0, x, rfl, by rw [e]; simp⟩
      · exact rest e
    · exact rest h
theorem way_out_ok {s r : SesT} {sent took : List (List UInt8)} {air : List PakT} (h : Way s r sent took air) : ∀ p ∈ outL s, PakOk s r sent p := by
  intro p hp
  obtain ⟨k, b1, b2, b3⟩ := h.base
  unfold outL at hp
  split at hp
  · simp at hp
    subst hp
    exact ⟨rfl, h.met2, .inl rfl, Int.le_refl _⟩
  · obtain ⟨i, x, h1, rfl⟩ := outQ_mem hp
    refine ⟨rfl, h.met2, .inr ⟨k + i, by simp only; omega, ?_⟩, Int.le_refl _⟩
    have : (s.q.map (·.1))[i]? = some x.1 := by rw [List.getElem?_map, h1]; rfl
    rw [b3, List.getElem?_drop] at this
    exact this
theorem way_out {s r : SesT} {sent took : List (List UInt8)} {air : List PakT} (h : Way s r sent took air) (new : List PakT) (hn : ∀ p ∈ new, p ∈ outL s) : Way (outS s) r sent took (air ++ new) := by
  have ok := way_out_ok h
  obtain ⟨k, b1, b2, b3⟩ := h.base
  refine ⟨h.met1, h.met2, h.came, h.pre, ⟨k, b1, b2, ?_⟩, fun p hp => ?_⟩
  · rw [← b3]
    simp only [outS, List.map_map]
    exact List.map_congr_left (fun x _ => by simp only [Function.comp, was]; split <;> rfl)
  · rcases List.mem_append.1 hp with e | e
    · exact ⟨(h.air p e).frm, (h.air p e).to, (h.air p e).num, (h.air p e).ack⟩
    · have q := ok p (hn p e)
      exact ⟨q.frm, q.to, q.num, q.ack⟩
theorem way_out' {s r : SesT} {sent took : List (List UInt8)} {air : List PakT} (h : Way s r sent took air) : Way s (outS r) sent took air := ⟨h.met1, h.met2, h.came, h.pre, h.base, fun p hp => ⟨(h.air p hp).frm, (h.air p hp).to, (h.air p hp).num, (h.air p hp).ack⟩⟩
theorem way_less {s r : SesT} {sent took : List (List UInt8)} {air air' : List PakT} (h : Way s r sent took air) (ha : ∀ p ∈ air', p ∈ air) : Way s r sent took air' := ⟨h.met1, h.met2, h.came, h.pre, h.base, fun p hp => h.air p (ha p hp)⟩
theorem way_take {s r : SesT} {sent took : List (List UInt8)} {air : List PakT} (h : Way s r sent took air) : Way s (takeS r) sent (took ++ r.inn) air := by
  have e : (took ++ r.inn) ++ (takeS r).inn = took ++ r.inn := by simp [takeS]
  exact ⟨h.met1, h.met2, by rw [e]; exact h.came, by rw [e]; exact h.pre, by rw [e]; exact h.base, fun p hp => ⟨(h.air p hp).frm, (h.air p hp).to, (h.air p hp).num, (h.air p hp).ack⟩⟩
theorem way_take' {s r : SesT} {sent took : List (List UInt8)} {air : List PakT} (h : Way s r sent took air) : Way (takeS s) r sent took air := ⟨h.met1, h.met2, h.came, h.pre, h.base, fun p hp => ⟨(h.air p hp).frm, (h.air p hp).to, (h.air p hp).num, (h.air p hp).ack⟩⟩
/-- What came at r of a packet of s's: for the way from s to r. -/
theorem way_recv {s r : SesT} {sent took : List (List UInt8)} {air : List PakT} (h : Way s r sent took air) (p : PakT) (hp : PakOk s r sent p) : Way s (recvS r p) sent took air := by
  have hm : meetS r p.1 = r := by unfold meetS; rw [if_neg]; rw [h.met1, hp.frm]; omega
  have hd : ∀ a, (dropS r a).ep = r.ep ∧ (dropS r a).peer = r.peer ∧ (dropS r a).came = r.came ∧ (dropS r a).inn = r.inn := fun a => by unfold dropS; split <;> exact ⟨rfl, rfl, rfl, rfl⟩
  have keep : ∀ r' : SesT, r'.ep = r.ep → r'.peer = r.peer → r'.came = r.came → r'.inn = r.inn → Way s r' sent took air := fun r' e1 e2 e3 e4 =>
    ⟨by rw [e2]; exact h.met1, by rw [e1]; exact h.met2, by rw [e3, e4]; exact h.came, by rw [e4]; exact h.pre, by rw [e4]; exact h.base, fun q hq => ⟨(h.air q hq).frm, by rw [e1]; exact (h.air q hq).to, (h.air q hq).num, (h.air q hq).ack⟩⟩
  unfold recvS
  split
  · rw [if_pos hp.to, hm]
    obtain ⟨d1, d2, d3, d4⟩ := hd p.2.2.2.1
    split
    · exact keep _ d1 d2 d3 d4
    · rename_i hn
      unfold comeS
      split
      · rename_i hc
        simp only [oweS, d3] at hc
        rcases hp.num with e | ⟨i, e1, e2⟩
        · exact absurd e hn
        · have hcame := h.came
          have hi : i = (took ++ r.inn).length := by omega
          subst hi
          have hpre := h.pre
          have e3 : took ++ (r.inn ++ [p.2.2.2.2]) = sent.take ((took ++ r.inn).length + 1) := by
            rw [← List.append_assoc, List.take_add_one, e2, ← hpre]; rfl
          have e4 : (took ++ (r.inn ++ [p.2.2.2.2])).length = (took ++ r.inn).length + 1 := by simp; omega
          obtain ⟨k, b1, b2, b3⟩ := h.base
          refine ⟨by simp only [oweS, d2]; exact h.met1, by simp only [oweS, d1]; exact h.met2, ?_, ?_, ⟨k, b1, ?_, b3⟩, fun q hq => ⟨(h.air q hq).frm, by simp only [oweS, d1]; exact (h.air q hq).to, (h.air q hq).num, (h.air q hq).ack⟩⟩
          · simp only [oweS, d3, d4, e4]; omega
          · simp only [oweS, d4, e4]; exact e3
          · simp only [oweS, d4, e4]; omega
      · exact keep _ d1 d2 d3 d4
  · exact h
/-- What came at s of a packet of r's: for the way from s to r. -/
theorem way_recv' {s r : SesT} {sent took : List (List UInt8)} {air : List PakT} (h : Way s r sent took air) (p : PakT) (hf : p.1 = r.ep) (ht : p.2.1 = s.ep) (ha : p.2.2.2.1 ≤ r.came) : Way (recvS s p) r sent took air := by
  have hm : meetS s p.1 = s := by unfold meetS; rw [if_neg]; rw [h.met2, hf]; omega
  obtain ⟨k, b1, b2, b3⟩ := h.base
  have hcame := h.came
  have hdrop : ∃ k' : Nat, (dropS s p.2.2.2.1).base = (k' : Int) + 1 ∧ k' ≤ (took ++ r.inn).length ∧ (dropS s p.2.2.2.1).q.map (·.1) = sent.drop k' := by
    unfold dropS
    split
    · rename_i hc
      refine ⟨p.2.2.2.1.toNat, by simp only; omega, by omega, ?_⟩
      simp only [List.map_drop, b3, List.drop_drop]
      congr 1
      omega
    · exact ⟨k, b1, b2, b3⟩
  have hd : (dropS s p.2.2.2.1).ep = s.ep ∧ (dropS s p.2.2.2.1).peer = s.peer ∧ (dropS s p.2.2.2.1).came = s.came := by unfold dropS; split <;> exact ⟨rfl, rfl, rfl⟩
  have keep : ∀ s' : SesT, s'.ep = s.ep → s'.peer = s.peer → s.came ≤ s'.came → (∃ k' : Nat, s'.base = (k' : Int) + 1 ∧ k' ≤ (took ++ r.inn).length ∧ s'.q.map (·.1) = sent.drop k') → Way s' r sent took air := fun s' e1 e2 e3 e4 =>
    ⟨by rw [e1]; exact h.met1, by rw [e2]; exact h.met2, h.came, h.pre, e4, fun q hq => ⟨by rw [e1]; exact (h.air q hq).frm, (h.air q hq).to, (h.air q hq).num, by have := (h.air q hq).ack; omega⟩⟩
  unfold recvS
  split
  · rw [hm]
    split
    · exact keep _ hd.1 hd.2.1 (by rw [hd.2.2]; omega) hdrop
    · unfold comeS
      split
      · exact keep _ (by simp only [oweS]; exact hd.1) (by simp only [oweS]; exact hd.2.1) (by simp only [oweS, hd.2.2]; omega) (by simp only [oweS]; exact hdrop)
      · exact keep _ (by simp only [oweS]; exact hd.1) (by simp only [oweS]; exact hd.2.1) (by simp only [oweS, hd.2.2]; omega) (by simp only [oweS]; exact hdrop)
  · exact h
/-- So what was taken is the beginning of what was sent. -/
theorem way_begins {s r : SesT} {sent took : List (List UInt8)} {air : List PakT} (h : Way s r sent took air) : took.length ≤ sent.length ∧ sent.take took.length = took := by
  have hl := h.lens
  have := h.pre
  refine ⟨by simp at hl; omega, ?_⟩
  have e := congrArg (List.take took.length) this
  rw [List.take_take, List.take_left, Nat.min_eq_left (by simp)] at e
  exact e.symm
end
section
open Go.RowKit Go.Lib
set_option linter.unusedSimpArgs false
set_option linter.unusedVariables false


/-- Two sessions of the program, apart from one another, behind w0. -/
def Two (w0 w : World) (a b K : Nat) (sa sb : SesT) : Prop := ∃ A D A' D', SesL K w a A D sa ∧ SesL K w b A' D' sb ∧ Sep w0.heap.size [] a A D (b :: (blkOf A' ++ D')) ∧ Chg [] w0 w
theorem Two.swap {w0 w : World} {a b K : Nat} {sa sb : SesT} (h : Two w0 w a b K sa sb) : Two w0 w b a K sb sa := by
  obtain ⟨A, D, A', D', h1, h2, h3, h4⟩ := h
  exact ⟨A', D', A, D, h2, h1, ⟨fun z hz => ⟨(h3.2 z hz).1, fun hm => (h3.1 z hm).2.1 hz, by simp⟩, fun z hz => ⟨(h3.1 z hz).1, by simp⟩⟩, h4⟩
theorem Two.more {w0 w : World} {a b K L : Nat} {sa sb : SesT} (h : Two w0 w a b K sa sb) (hl : K ≤ L) : Two w0 w a b L sa sb := by
  obtain ⟨A, D, A', D', h1, h2, h3, h4⟩ := h
  exact ⟨A, D, A', D', h1.more hl, h2.more hl, h3, h4⟩
theorem Two.chg {w0 w w' : World} {a b K : Nat} {sa sb : SesT} (h : Two w0 w a b K sa sb) (hc : Chg [] w w') : Two w0 w' a b K sa sb := by
  obtain ⟨A, D, A', D', h1, h2, h3, h4⟩ := h
  exact ⟨A, D, A', D', h1.chg hc (by simp) (by simp) (by simp), h2.chg hc (by simp) (by simp) (by simp), h3, h4.trans hc⟩
theorem outL_len {K : Nat} {st : SesT} (h : InvS K st) : (outL st).length ≤ 9 := by
  have e2 := outQ_len st.ep st.peer st.came st.base st.q
  have := h.q
  unfold outL
  split
  · simp
  · omega
theorem outL_small {K : Nat} {st : SesT} (h : InvS K st) {p : PakT} (hp : p ∈ outL st) : p.2.2.2.2.length ≤ 400 := by
  unfold outL at hp
  split at hp
  · simp at hp; subst hp; simp
  · obtain ⟨i, x, h1, rfl⟩ := outQ_mem hp
    exact (h.ages x (List.mem_of_getElem? h1)).2.2
theorem fold_snoc (st : SesT) (ps : List PakT) (i : Nat) (p : PakT) (h : ps[i]? = some p) : (ps.take (i + 1)).foldl recvS st = recvS ((ps.take i).foldl recvS st) p := by
  rw [List.take_add_one, h]
  simp
set_option maxHeartbeats 8000000 in
set_option maxRecDepth 100000 in
theorem hands_two (w0 w : World) (a b K : Nat) (sa sb : SesT) (h : Two w0 w a b K sa sb) (hK : K ≤ 500000) :
    Calls Try.prog 26 #[.pointer (some ⟨a, 0, none⟩), .pointer (some ⟨b, 0, none⟩), .bool false] w fun e w' => e = .returned (.tuple #[]) ∧ Two w0 w' a b (K + 20) (outS sa) ((outL sa).foldl recvS sb) := by
  obtain ⟨A, D, A', D', h1, h2, h3, h4⟩ := h
  have HS := Lib.hid h1
  have HT := Lib.hid h2
  have SP := Lib.hid h3
  have C0 := Lib.hid h4
  have HK := Lib.hid hK
  have LL := Lib.hid (outL_len h1.inv)
  have LA := Lib.hid h1.lts
  have SAI := Lib.hid h1.inv
  have LB := Lib.hid h2.lts
  clear h1 h2 h3 h4 hK
  go_enter Try.func26, Try.ntmps26
  go_wp2_with fail
  refine (outLL HS.out (by have := HK.out; omega)).mono ?_
  rintro r w1 ⟨B, c, l, rfl, o1, n1, p1, hs, hC⟩
  have O1 := Lib.hid o1
  have P1 := Lib.hid p1
  have N1 := Lib.hid n1
  have OS := Lib.hid hC.size
  have IN : Hid (∀ (i : Nat) (x : PakV) (y : Addr), l[i]? = some x → x.2.2.2.2.1 = some y → w.heap.size ≤ y.block ∧ y.block < w1.heap.size) := Lib.hid (fun i x y hx hy => p1.lt hx hy)
  have INB : Hid (∀ y, B = some y → w.heap.size ≤ y.block ∧ y.block < w1.heap.size) := Lib.hid (fun y hy => ⟨n1 y hy, o1.lt y hy⟩)
  have EL := Lib.hid p1.len
  replace HS := Lib.hid hs
  replace HT := Lib.hid (HT.out.off hC (fun z hz hm => by simp at hm; subst hm; exact (SP.out.1 z (by simp)).2.1 hz))
  replace C0 := Lib.hid (C0.out.on hC (fun z hz => (SP.out.1 z (by simp at hz; simp [hz])).1))
  clear hs hC o1 p1 n1
  go_wp2_with fail
  go_loopw [7] (fun v wr => ∃ i : Nat, i ≤ l.length ∧ v = .int .i64 (i : Int) ∧ Hid (∃ Ai Di, SesL (K + 1) wr a A D (outS sa) ∧ SesL (K + 2 * i) wr b Ai Di (((outL sa).take i).foldl recvS sb) ∧ Sep w0.heap.size [] a A D (b :: (blkOf Ai ++ Di)) ∧ (∀ z ∈ b :: (blkOf Ai ++ Di), z < w.heap.size ∨ w1.heap.size ≤ z) ∧ Chg [] w0 wr ∧ OwnK pakTy wr B c l ∧ PaksP wr w.heap.size l (outL sa) ∧ w1.heap.size ≤ wr.heap.size)) (fun v _ => l.length - (RowKit.intOf v).toNat)
  case atStart => exact ⟨0, Nat.zero_le _, rfl, A', D', HS.out, HT.out, SP.out, fun z hz => .inl (LB.out z hz), C0.out, O1.out, P1.out, Nat.le_refl _⟩
  case round =>
    obtain ⟨i, hi, rfl, HR⟩ := hrel
    obtain ⟨Ai, Di, hs, ht, hsp, hin, hc0, ho, hp, hw1⟩ := HR.out
    have i0 : (0 : Int) ≤ (i : Int) := by omega
    have i1 : IntKind.i64.wrap ((i : Int) + 1) = (i : Int) + 1 := IntWalk.i64_in _ (by have := LL.out; have := EL.out; omega)
    have HS2 := Lib.hid hs
    have HT2 := Lib.hid ht
    have SP2 := Lib.hid hsp
    have HIN := Lib.hid hin
    have CW := Lib.hid hc0
    have O2 := Lib.hid ho
    have P2 := Lib.hid hp
    have W1 := Lib.hid hw1
    clear hs ht hsp hin hc0 ho hp hw1 HR HS HT O1 P1
    by_cases hlt : i < l.length
    · have i2 : (i : Int) < (l.length : Int) := by omega
      obtain ⟨x, hx⟩ : ∃ x, l[i]? = some x := ⟨_, List.getElem?_eq_getElem hlt⟩
      obtain ⟨p, hpp⟩ : ∃ p, (outL sa)[i]? = some p := ⟨_, List.getElem?_eq_getElem (by have := EL.out; omega)⟩
      obtain ⟨e1, e2, e3, e4, e5, ob, _⟩ := P2.out.at_ i x p hx hpp
      have rd := O2.out.reads
      obtain ⟨gB, oB, eB, _⟩ := rd.line (by omega)
      rw [eB] at rd
      obtain ⟨q0, q1, q2, q3, q4⟩ := pakCells rd hx
      have xin := IN.out i x
      obtain ⟨x1, x2, x3, x4, xA, xn, xd⟩ := x
      obtain ⟨p1, p2, p3, p4, pb⟩ := p
      dsimp only at e1 e2 e3 e4 e5 ob q0 q1 q2 q3 q4 xin
      subst e1; subst e2; subst e3; subst e4
      have HPP := Lib.hid hpp
      have RB : Hid (Bs wr xA xn pb) := Lib.hid (by rw [e5]; exact ob.reads)
      have XN : Hid (∀ y, xA = some y → y.block ≠ b) := Lib.hid (fun y hy e => by have := (xin y hx hy).1; have := LB.out b (by simp); omega)
      have XL : Hid (xn ≤ 140737488351232) := Lib.hid (by
        have hm := List.mem_of_getElem? hpp
        have : pb.length ≤ 400 := outL_small SAI.out hm
        omega)
      clear hx hpp ob rd e5 xin
      subst eB
      go_wp2_with fail
      refine (recvL HT2.out (by have := HK.out; have := LL.out; have := EL.out; omega) x1 x2 x3 x4 xA xn xd pb RB.out XL.out XN.out).mono ?_
      rintro r w5 ⟨A5, D5, rfl, ht, hA, hD, hC⟩
      have sub : ∀ z ∈ b :: blkOf Ai, z ∈ b :: (blkOf Ai ++ Di) := fun z hz => by simp at hz ⊢; rcases hz with h | h <;> simp [h]
      have T5 := Lib.hid ht
      have S5 := Lib.hid (HS2.out.off hC (fun z hz hm => (SP2.out.1 z hz).2.1 (sub z hm)))
      have L5 : ∀ z ∈ b :: (blkOf A5 ++ D5), z ∈ b :: (blkOf Ai ++ Di) ∨ wr.heap.size ≤ z := fun z hz => by
        simp only [List.mem_cons, List.mem_append] at hz
        rcases hz with e | e | e
        · exact .inl (by simp [e])
        · obtain ⟨y, hy, rfl⟩ := of_blkOf e
          rcases hA y hy with e | e
          · exact .inl (by simp [mem_blkOf e])
          · exact .inr e
        · rcases hD z e with e | e
          · exact .inl (by simp [e])
          · exact .inr e
      have SP5 := Lib.hid (sep2 SP2.out (m := wr.heap.size) HS2.out.lts (by simp) CW.out.size L5)
      have IN5 : Hid (∀ z ∈ b :: (blkOf A5 ++ D5), z < w.heap.size ∨ w1.heap.size ≤ z) := Lib.hid (fun z hz => by
        rcases L5 z hz with e | e
        · exact HIN.out z e
        · exact .inr (Nat.le_trans W1.out e))
      have CW5 := Lib.hid (CW.out.on hC (fun z hz => (SP2.out.2 z (sub z hz)).1))
      have O5 := Lib.hid (O2.out.chg hC (fun y hy hm => by have := INB.out y hy; have := HIN.out _ (sub _ hm); omega))
      have P5 := Lib.hid (P2.out.chg hC (fun j y u hy hu hm => by have := IN.out j y u hy hu; have := HIN.out _ (sub _ hm); omega))
      have W5 := Lib.hid (Nat.le_trans W1.out hC.size)
      have FE : Hid (((outL sa).take (i + 1)).foldl recvS sb = recvS (((outL sa).take i).foldl recvS sb) (x1, x2, x3, x4, pb)) := Lib.hid (fold_snoc sb _ i _ HPP.out)
      clear ht hA hD hC sub L5 q0 q1 q2 q3 q4
      go_wp2
      go_round
      case measure => simp [RowKit.intOf]; omega
      exact ⟨i + 1, by omega, by go_num, A5, D5, S5.out, by rw [FE.out]; exact T5.out, SP5.out, IN5.out, CW5.out, O5.out, P5.out, W5.out⟩
    · obtain rfl : i = l.length := by omega
      have i2 : ¬ (l.length : Int) < (l.length : Int) := by omega
      have FI : Hid (Two w0 wr a b (K + 20) (outS sa) ((outL sa).foldl recvS sb)) := Lib.hid ⟨A, D, Ai, Di, HS2.out.more (by omega), by
        have := HT2.out
        rw [EL.out, List.take_length] at this
        exact this.more (by have := LL.out; have := EL.out; omega), SP2.out, CW.out⟩
      go_wp2
      go_end0
      exact ⟨rfl, FI.out⟩
end
end Go.Proofs.Ytmblalcigbghfaa
