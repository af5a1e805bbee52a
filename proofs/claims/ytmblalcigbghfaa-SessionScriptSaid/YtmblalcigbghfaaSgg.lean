/- Receive, among other memory. The document's session. -/
import Derived.Test.YtmblalcigbghfaaSge
import Derived.Test.YtmblalcigbghfaaSgf
import Derived.Test.YtmblalcigbghfaaRowO
namespace Go.Proofs.Ytmblalcigbghfaa
section
open Go.RowKit Go.Lib
set_option linter.unusedSimpArgs false
set_option linter.unusedVariables false

def RelQ (K : Nat) (w : World) (D : List Nat) (s : SQ) (st : SesT) : Prop := Ab s st ∧ ∀ (i : Nat) (v : BV) (x : List UInt8 × Int), s.q[i]? = some v → st.q[i]? = some x → BodyP K w D v x
theorem rel_meet {K : Nat} {w : World} {D : List Nat} {s : SQ} {st : SesT} (f : Int) (h : RelQ K w D s st) : RelQ K w D (meetQ s f) (meetS st f) := by
  obtain ⟨a, q⟩ := h
  unfold meetQ meetS
  rw [a.peer]
  split
  · exact ⟨⟨a.ep, rfl, by simp [turnQ, turnS, a.turns], rfl, rfl, rfl, rfl, a.n⟩, by simp [turnQ]⟩
  · exact ⟨a, q⟩
theorem rel_drop {K : Nat} {w : World} {D : List Nat} {s : SQ} {st : SesT} (x : Int) (h : RelQ K w D s st) : RelQ K w D (dropQ s x) (dropS st x) := by
  obtain ⟨a, q⟩ := h
  unfold dropQ dropS
  rw [a.base, a.q]
  split
  · refine ⟨⟨a.ep, a.peer, a.turns, rfl, a.came, a.owes, by simp [a.q], a.n⟩, fun i v y hv hy => ?_⟩
    simp only [List.getElem?_drop] at hv hy
    exact q _ v y hv hy
  · exact ⟨a, q⟩
theorem rel_owe {K : Nat} {w : World} {D : List Nat} {s : SQ} {st : SesT} (h : RelQ K w D s st) : RelQ K w D { s with owes := true } (oweS st) := ⟨⟨h.1.ep, h.1.peer, h.1.turns, h.1.base, h.1.came, rfl, h.1.q, h.1.n⟩, h.2⟩
theorem rel_chg {K L : Nat} {w w' : World} {S D D' : List Nat} {s : SQ} {st : SesT} (h : RelQ K w D s st) (hc : Chg S w w') (hd : ∀ d ∈ D, d ∉ S) (hl : K ≤ L) (hD : ∀ d ∈ D, d ∈ D') : RelQ L w' D' s st := ⟨h.1, fun i v x hv hx => ((h.2 i v x hv hx).chg hc hd).more hl hD⟩
theorem drop_inn (st : SesT) (a : Int) : (dropS st a).inn = st.inn := by unfold dropS; split <;> rfl
theorem meet_inn (st : SesT) (f : Int) : (meetS st f).inn = st.inn := by unfold meetS; split <;> rfl
/-- The ledger out of its parts. -/
theorem mkL {K L : Nat} {w w' : World} {S D : List Nat} {b : Nat} {A : Option Addr} {st st' : SesT} {s s' : SQ} {lt : List SlV} (h : SesP K w b A D st s lt) (hq : QH w' b s') (hr : RelQ K w D s' st') (hl : K ≤ L) (hc : Chg [b] w w') (hi : InvS L st') (hn : st'.inn = st.inn) (hA : s'.A = s.A) (hcc : s'.c = s.c) : SesL L w' b A D st' := by
  have hd : ∀ d ∈ D, d ∉ [b] := fun d hd hm => h.nb (by simp at hm; exact hm ▸ hd)
  have ho := h.own.chg hc (fun a ha hm => (h.far a ha).1 (by simpa using hm))
  have r2 := rel_chg hr hc hd hl (fun _ h => h)
  exact ⟨s', lt, hq, r2.1, r2.2, by rw [hA]; exact h.eA, by rw [hcc]; exact ho, by rw [hn]; exact h.lst.chg hc hd, h.nb, h.far, fun d hm => Nat.lt_of_lt_of_le (h.lo d hm) hc.size, hi⟩
theorem recvL {K : Nat} {w : World} {b : Nat} {A : Option Addr} {D : List Nat} {st : SesT} (h : SesL K w b A D st) (hK : K ≤ 900000) (f t m a : Int) (B : Option Addr) (n d : Nat) (ys : List UInt8) (hr : Bs w B n ys) (hn : n ≤ 140737488351232) (hB : ∀ x, B = some x → x.block ≠ b) :
    Calls Try.prog 28 #[.pointer (some ⟨b, 0, none⟩), .agg #[.int .i64 f, .int .i64 t, .int .i64 m, .int .i64 a, .slice B n d]] w fun e w' => ∃ A' D', e = .returned (.tuple #[]) ∧ SesL (K + 2) w' b A' D' (recvS st (f, t, m, a, ys)) ∧ (∀ x, A' = some x → A = some x ∨ w.heap.size ≤ x.block) ∧ (∀ z ∈ D', z ∈ D ∨ w.heap.size ≤ z) ∧ Chg (b :: blkOf A) w w' := by
  have hL := h
  obtain ⟨s, lt, h⟩ := h
  have hlen := hr.len
  have hp := h.inv.peer
  have hpe := h.ab.peer
  have hba := h.inv.base
  have hbe := h.ab.base
  have htu := h.inv.turned
  have hte := h.ab.turns
  have hii := recv_inv h.inv (f, t, m, a, ys)
  have r0 : RelQ K w D s st := ⟨h.ab, h.q⟩
  have r1 := rel_meet f r0
  have r2 := rel_drop a r1
  have one : ∀ {w' : World} {s' : SQ} {st' : SesT}, QH w' b s' → RelQ K w D s' st' → Chg [b] w w' → InvS (K + 2) st' → st'.inn = st.inn → s'.A = s.A → s'.c = s.c → SesL (K + 2) w' b A D st' ∧ (∀ x, A = some x → A = some x ∨ w.heap.size ≤ x.block) ∧ (∀ z ∈ D, z ∈ D ∨ w.heap.size ≤ z) ∧ Chg (b :: blkOf A) w w' := fun q r c i e1 e2 e3 =>
    ⟨mkL (S := []) h q r (by omega) c i e1 e2 e3, fun x hx => .inl hx, fun z hz => .inl hz, c.mono (fun i hi => .inl (by simp at hi; simp [hi]))⟩
  by_cases hM : MindsQ s.peer f t m a n
  · have hM2 : Minds st (f, t, m, a, ys) := by
      obtain ⟨q1, q2, q3, q4, q5, q6, q7, q8⟩ := hM
      exact ⟨by rw [← hpe]; exact q1, q2, q3, q4, q5, q6, q7, by simp only [hlen]; exact q8⟩
    have i1 := meet_inv h.inv (f := f) ⟨hM.2.1, hM.2.2.1⟩
    have i2 := drop_inv a i1
    by_cases ht : t = s.ep
    · have ht2 : t = st.ep := by rw [ht]; exact h.ab.ep
      by_cases hm : m = 0
      · have e : recvS st (f, t, m, a, ys) = dropS (meetS st f) a := by unfold recvS; rw [if_pos hM2, if_pos ht2, if_pos hm]
        rw [e] at hii ⊢
        have fin : ∀ {w' : World}, QH w' b (dropQ (meetQ s f) a) → Chg [b] w w' → _ := fun q c => one q r2 c hii (by rw [drop_inn, meet_inn]) (by rw [(dropQ_same _ _).2.2.2.1, (meetQ_same _ _).2.1]) (by rw [(dropQ_same _ _).2.2.2.2.2.1, (meetQ_same _ _).2.2.2])
        by_cases hpf : s.peer < f
        · refine (serecv_zero_t w b s h.h f t m a B n d hn (by omega) hM (by omega) (by omega) hpf ht hm).mono ?_
          rintro e w' ⟨rfl, q, c⟩
          exact ⟨A, D, rfl, fin q c⟩
        · refine (serecv_zero_f w b s h.h f t m a B n d hn (by omega) hM (by omega) (by omega) hpf ht hm).mono ?_
          rintro e w' ⟨rfl, q, c⟩
          exact ⟨A, D, rfl, fin q c⟩
      · have hce := r2.1.came
        have hci := i2.came
        by_cases hc : (dropQ (meetQ s f) a).came + 1 = m
        · have e : recvS st (f, t, m, a, ys) = { oweS (dropS (meetS st f) a) with came := (oweS (dropS (meetS st f) a)).came + 1, inn := (oweS (dropS (meetS st f) a)).inn ++ [ys] } := by
            unfold recvS
            rw [if_pos hM2, if_pos ht2, if_neg hm]
            unfold comeS
            rw [if_pos (show (oweS (dropS (meetS st f) a)).came + 1 = m by simp only [oweS]; omega)]
          rw [e] at hii ⊢
          have hlt : s.n = lt.length ∧ lt.length ≤ 1000000 := ⟨by rw [h.ab.n, h.lst.1], by rw [h.lst.1]; have := h.inv.inn; omega⟩
          have hcm : ∀ s7, s7 = dropQ (meetQ s f) a → (0 ≤ s7.came ∧ s7.came ≤ 1000000) ∧ s7.came + 1 = m ∧ s7.A = s.A ∧ s7.n = s.n ∧ s7.c = s.c := by
            rintro s7 rfl
            exact ⟨⟨by omega, by omega⟩, hc, by rw [(dropQ_same _ _).2.2.2.1, (meetQ_same _ _).2.1], by rw [(dropQ_same _ _).2.2.2.2.1, (meetQ_same _ _).2.2.1], by rw [(dropQ_same _ _).2.2.2.2.2.1, (meetQ_same _ _).2.2.2]⟩
          have hfar : ∀ x, s.A = some x → x.block ≠ b := fun x hx => (h.far x (by rw [← h.eA]; exact hx)).1
          have ho : OwnK lstTy w s.A s.c lt := by rw [h.eA]; exact h.own
          have fin : ∀ {w' : World} {A2 : Option Addr} {c2 : Nat} {A3 : Option Addr} {c3 : Nat}, QH w' b { dropQ (meetQ s f) a with owes := true, came := (dropQ (meetQ s f) a).came + 1, A := A3, n := lt.length + 1, c := c3 } → OwnK lstTy w' A3 c3 (lt ++ [(A2, n, c2)]) → OwnB w' A2 c2 ys → (∀ x, A2 = some x → w.heap.size ≤ x.block) → (∀ x, A3 = some x → s.A = some x ∨ w.heap.size ≤ x.block) → Chg (b :: blkOf s.A) w w' → ∃ A' D', Ending.returned (Value.tuple #[]) = .returned (.tuple #[]) ∧ SesL (K + 2) w' b A' D' { oweS (dropS (meetS st f) a) with came := (oweS (dropS (meetS st f) a)).came + 1, inn := (oweS (dropS (meetS st f) a)).inn ++ [ys] } ∧ (∀ x, A' = some x → A = some x ∨ w.heap.size ≤ x.block) ∧ (∀ z ∈ D', z ∈ D ∨ w.heap.size ≤ z) ∧ Chg (b :: blkOf A) w w' := by
            intro w' A2 c2 A3 c3 q o1 o2 n2 n3 c
            rw [h.eA] at c n3
            have hd : ∀ z ∈ D, z ∉ b :: blkOf A := fun z hz hm => by
              rcases List.mem_cons.1 hm with e | e
              · exact h.nb (e ▸ hz)
              · obtain ⟨x, hx, e⟩ := of_blkOf e
                exact (h.far x hx).2 (e ▸ hz)
            have hbl := h.h.lt
            have hal := h.own.lt
            have r3 := rel_chg r2 c hd (L := K + 2) (D' := blkOf A2 ++ D) (by omega) (fun z hz => List.mem_append_right _ hz)
            have l1 := (h.lst.chg c hd).more (D' := blkOf A2 ++ D) (fun z hz => List.mem_append_right _ hz)
            refine ⟨A3, blkOf A2 ++ D, rfl, ⟨_, _, q, ⟨r3.1.ep, r3.1.peer, r3.1.turns, r3.1.base, by have := r3.1.came; simp only [oweS]; omega, rfl, r3.1.q, by simp only [oweS, drop_inn, meet_inn, List.length_append, List.length_singleton, h.lst.1]⟩, r3.2, rfl, o1, ⟨?_, ?_⟩, ?_, ?_, ?_, hii⟩, n3, ?_, c⟩
            · simp only [oweS, drop_inn, meet_inn, List.length_append, List.length_singleton, h.lst.1]
            · intro i x y hx hy
              simp only [oweS, drop_inn, meet_inn] at hy
              by_cases ei : i = lt.length
              · subst ei
                rw [List.getElem?_append_right (Nat.le_refl _)] at hx
                rw [h.lst.1, List.getElem?_append_right (Nat.le_refl _)] at hy
                simp at hx hy
                subst hx; subst hy
                exact ⟨by have := o2.reads; rwa [hlen] at this, fun z hz => List.mem_append_left _ (mem_blkOf hz)⟩
              · have hi2 : i < lt.length + 1 := by simpa using (List.getElem?_eq_some_iff.1 hx).1
                rw [List.getElem?_append_left (by omega)] at hx
                rw [List.getElem?_append_left (by have := h.lst.1; omega)] at hy
                exact l1.2 i x y hx hy
            · intro hm
              rcases List.mem_append.1 hm with e | e
              · obtain ⟨x, hx, e⟩ := of_blkOf e
                have := n2 x hx
                omega
              · exact h.nb e
            · intro x hx
              refine ⟨fun e => ?_, fun hm => ?_⟩
              · rcases n3 x hx with e1 | e1
                · exact (h.far x e1).1 e
                · omega
              · rcases List.mem_append.1 hm with e | e
                · obtain ⟨y, hy, e⟩ := of_blkOf e
                  rcases o1.shape with ⟨e1, _⟩ | ⟨g, e1, _⟩
                  · rw [e1] at hx; cases hx
                  · rw [e1] at hx
                    cases hx
                    obtain ⟨g', full, e1', hg, _⟩ : ∃ (g' : Nat) (full : List SlV), A3 = some ⟨g', 0, none⟩ ∧ w'.heap[g']? = some (.cells (lstTy.flat full).toArray lstTy.T (0, 0)) ∧ True := by
                      rcases o1 with ⟨e2, _⟩ | ⟨g', full, e2, hg, _⟩
                      · rw [e2] at e1; cases e1
                      · exact ⟨g', full, e2, hg, trivial⟩
                    rw [e1'] at e1
                    cases e1
                    exact o2.ne hg (by decide) y hy e
                · rcases n3 x hx with e1 | e1
                  · exact (h.far x e1).2 e
                  · have := h.lo _ e
                    omega
            · intro z hm
              rcases List.mem_append.1 hm with e | e
              · obtain ⟨y, hy, rfl⟩ := of_blkOf e
                exact o2.lt y hy
              · exact Nat.lt_of_lt_of_le (h.lo z e) c.size
            · intro z hm
              rcases List.mem_append.1 hm with e | e
              · obtain ⟨y, hy, rfl⟩ := of_blkOf e
                exact .inr (n2 y hy)
              · exact .inl e
          by_cases hpf : s.peer < f
          · refine (serecv_come_t w b s h.h f t m a B n d hn (by omega) hM (by omega) (by omega) hpf ht hm hcm lt ho hlt hfar ys hr hB).mono ?_
            rintro e w' ⟨rfl, A2, c2, A3, c3, q, o1, o2, n2, n3, c⟩
            exact fin q o1 o2 n2 n3 c
          · refine (serecv_come_f w b s h.h f t m a B n d hn (by omega) hM (by omega) (by omega) hpf ht hm hcm lt ho hlt hfar ys hr hB).mono ?_
            rintro e w' ⟨rfl, A2, c2, A3, c3, q, o1, o2, n2, n3, c⟩
            exact fin q o1 o2 n2 n3 c
        · have e : recvS st (f, t, m, a, ys) = oweS (dropS (meetS st f) a) := by
            unfold recvS
            rw [if_pos hM2, if_pos ht2, if_neg hm]
            unfold comeS
            rw [if_neg (show ¬ (oweS (dropS (meetS st f) a)).came + 1 = m by simp only [oweS]; omega)]
          rw [e] at hii ⊢
          have hcm : ∀ s7, s7 = dropQ (meetQ s f) a → (0 ≤ s7.came ∧ s7.came ≤ 1000000) ∧ ¬ s7.came + 1 = m := by
            rintro s7 rfl
            exact ⟨⟨by omega, by omega⟩, hc⟩
          have fin : ∀ {w' : World}, QH w' b { dropQ (meetQ s f) a with owes := true } → Chg [b] w w' → _ := fun q c => one q (rel_owe r2) c hii (by simp only [oweS, drop_inn, meet_inn]) (by simp only [(dropQ_same _ _).2.2.2.1, (meetQ_same _ _).2.1]) (by simp only [(dropQ_same _ _).2.2.2.2.2.1, (meetQ_same _ _).2.2.2])
          by_cases hpf : s.peer < f
          · refine (serecv_old_t w b s h.h f t m a B n d hn (by omega) hM (by omega) (by omega) hpf ht hm hcm).mono ?_
            rintro e w' ⟨rfl, q, c⟩
            exact ⟨A, D, rfl, fin q c⟩
          · refine (serecv_old_f w b s h.h f t m a B n d hn (by omega) hM (by omega) (by omega) hpf ht hm hcm).mono ?_
            rintro e w' ⟨rfl, q, c⟩
            exact ⟨A, D, rfl, fin q c⟩
    · have ht2 : ¬ t = st.ep := by rw [← h.ab.ep]; exact ht
      have e : recvS st (f, t, m, a, ys) = oweS (meetS st f) := by unfold recvS; rw [if_pos hM2, if_neg ht2]
      rw [e] at hii ⊢
      have fin : ∀ {w' : World}, QH w' b { meetQ s f with owes := true } → Chg [b] w w' → _ := fun q c => one q (rel_owe r1) c hii (by simp only [oweS, meet_inn]) (by simp only [(meetQ_same _ _).2.1]) (by simp only [(meetQ_same _ _).2.2.2])
      by_cases hpf : s.peer < f
      · refine (serecv_owe_t w b s h.h f t m a B n d hn (by omega) hM (by omega) (by omega) hpf ht).mono ?_
        rintro e w' ⟨rfl, q, c⟩
        exact ⟨A, D, rfl, fin q c⟩
      · refine (serecv_owe_f w b s h.h f t m a B n d hn (by omega) hM (by omega) (by omega) hpf ht).mono ?_
        rintro e w' ⟨rfl, q, c⟩
        exact ⟨A, D, rfl, fin q c⟩
  · have hM2 : ¬ Minds st (f, t, m, a, ys) := fun q => hM (by
      obtain ⟨q1, q2, q3, q4, q5, q6, q7, q8⟩ := q
      exact ⟨by rw [hpe]; exact q1, q2, q3, q4, q5, q6, q7, by simp only [hlen] at q8; exact q8⟩)
    have e : recvS st (f, t, m, a, ys) = st := by unfold recvS; rw [if_neg hM2]
    rw [e]
    refine (serecv_none w b s h.h f t m a B n d hn (by omega) hM).mono ?_
    rintro e w' ⟨rfl, c⟩
    exact ⟨A, D, rfl, (hL.chg c (by simp) (by simp) (by simp)).more (by omega), fun x hx => .inl hx, fun z hz => .inl hz, c.mono (by simp)⟩
end
section
open Go.RowKit Go.Lib
set_option linter.unusedSimpArgs false
set_option linter.unusedVariables false


abbrev SentV := Option Addr × Nat × Nat × Int
def sentTy : RowTy SentV where
  enc := fun x => [.slice x.1 x.2.1 x.2.2.1, .int .i64 x.2.2.2]
  k := 2
  T := 95
  TS := 82
  z := (none, 0, 0, 0)
  zv := .agg #[.slice none 0 0, .int .i64 0]
  bytes := 32
  klen := fun _ => rfl
  one := by intro x v hv; simp at hv; rcases hv with rfl | rfl <;> rfl
  zc := rfl
  kpos := by decide
  bpos := by decide
  under := by kernel_rfl
  info := by kernel_rfl
/-- The document's session, in its cells. -/
structure DV where
  ep : Int
  ot : Int
  A : Option Addr
  n : Nat
  c : Nat
  base : Int
  came : Int
  iA : Option Addr
  iN : Nat
  iC : Nat
  owes : Bool
  turned : Int
def DH (w : World) (b : Nat) (d : DV) : Prop := w.heap[b]? = some (.cells #[.int .i64 d.ep, .int .i64 d.ot, .slice d.A d.n d.c, .int .i64 d.base, .int .i64 d.came, .slice d.iA d.iN d.iC, .bool d.owes, .int .i64 d.turned] 84 (0, 0))
theorem DH.chg {S : List Nat} {w w' : World} {b : Nat} {d : DV} (h : DH w b d) (hc : Chg S w w') (hn : b ∉ S) : DH w' b d := Chg.at_ hc h hn
theorem DH.get {w : World} {b : Nat} {d : DV} (h : DH w b d) : w.cell? ⟨b, 0, none⟩ = some (.int .i64 d.ep) ∧ w.cell? ⟨b, 1, none⟩ = some (.int .i64 d.ot) ∧ w.cell? ⟨b, 2, none⟩ = some (.slice d.A d.n d.c) ∧ w.cell? ⟨b, 3, none⟩ = some (.int .i64 d.base) ∧ w.cell? ⟨b, 4, none⟩ = some (.int .i64 d.came) ∧ w.cell? ⟨b, 5, none⟩ = some (.slice d.iA d.iN d.iC) ∧ w.cell? ⟨b, 6, none⟩ = some (.bool d.owes) ∧ w.cell? ⟨b, 7, none⟩ = some (.int .i64 d.turned) :=
  ⟨(cell_of h 0).trans rfl, (cell_of h 1).trans rfl, (cell_of h 2).trans rfl, (cell_of h 3).trans rfl, (cell_of h 4).trans rfl, (cell_of h 5).trans rfl, (cell_of h 6).trans rfl, (cell_of h 7).trans rfl⟩
theorem DH.free {w : World} {b : Nat} {d : DV} (h : DH w b d) (j : Nat) : w.frozen? ⟨b, j, none⟩ = false := free_of h j
theorem DH.lt {w : World} {b : Nat} {d : DV} (h : DH w b d) : b < w.heap.size := lt_of_heap h
theorem DH.sQ {w : World} {b : Nat} {d : DV} (h : DH w b d) (A : Option Addr) (n c : Nat) : DH (w.setCell ⟨b, 2, none⟩ (.slice A n c)) b { d with A := A, n := n, c := c } := heap_setCell_same _ b 2 _ _ _ h
theorem DH.sBase {w : World} {b : Nat} {d : DV} (h : DH w b d) (x : Int) : DH (w.setCell ⟨b, 3, none⟩ (.int .i64 x)) b { d with base := x } := heap_setCell_same _ b 3 _ _ _ h
theorem DH.sOt {w : World} {b : Nat} {d : DV} (h : DH w b d) (x : Int) : DH (w.setCell ⟨b, 1, none⟩ (.int .i64 x)) b { d with ot := x } := heap_setCell_same _ b 1 _ _ _ h
theorem DH.sCame {w : World} {b : Nat} {d : DV} (h : DH w b d) (x : Int) : DH (w.setCell ⟨b, 4, none⟩ (.int .i64 x)) b { d with came := x } := heap_setCell_same _ b 4 _ _ _ h
theorem DH.sIn {w : World} {b : Nat} {d : DV} (h : DH w b d) (A : Option Addr) (n c : Nat) : DH (w.setCell ⟨b, 5, none⟩ (.slice A n c)) b { d with iA := A, iN := n, iC := c } := heap_setCell_same _ b 5 _ _ _ h
theorem DH.sOwes {w : World} {b : Nat} {d : DV} (h : DH w b d) (x : Bool) : DH (w.setCell ⟨b, 6, none⟩ (.bool x)) b { d with owes := x } := heap_setCell_same _ b 6 _ _ _ h
theorem DH.sTurned {w : World} {b : Nat} {d : DV} (h : DH w b d) (x : Int) : DH (w.setCell ⟨b, 7, none⟩ (.int .i64 x)) b { d with turned := x } := heap_setCell_same _ b 7 _ _ _ h
theorem sentCells {w : World} {g o n j : Nat} {xs : List SentV} (h : RdK sentTy w (some ⟨g, o, none⟩) n xs) {x : SentV} (hx : xs[j]? = some x) : w.cell? ⟨g, o + j * 2, none⟩ = some (.slice x.1 x.2.1 x.2.2.1) ∧ w.cell? ⟨g, o + j * 2 + 1, none⟩ = some (.int .i64 x.2.2.2) :=
  ⟨h.at_ j 0 x _ hx rfl, h.at_ j 1 x _ hx rfl⟩
def newD (e : Int) : DV := ⟨e, 0, none, 0, 0, 1, 0, none, 0, 0, true, 0⟩
theorem dnew_bad (w : World) (q : Int) (h : q < 1 ∨ 1099511627776 < q) : Calls Try.prog 8 #[.int .i64 q] w fun e w' => e = .returned (.tuple #[.pointer none, .int .i64 2]) ∧ w' = w := by
  by_cases h0 : q < 1
  · clear h
    go_enter Try.func8, Try.ntmps8
    go_wp2
    go_ret2
    exact ⟨rfl, rfl⟩
  · have h1 : 1099511627776 < q := by omega
    clear h
    go_enter Try.func8, Try.ntmps8
    go_wp2
    go_ret2
    exact ⟨rfl, rfl⟩
theorem dnew_any (w : World) (q : Int) (h0 : 1 ≤ q) (h1 : q ≤ 1099511627776) : Calls Try.prog 8 #[.int .i64 q] w fun e w' => ∃ b, e = .returned (.tuple #[.pointer (some ⟨b, 0, none⟩), .int .i64 0]) ∧ DH w' b (newD q) ∧ w.heap.size ≤ b ∧ Chg [] w w' := by
  have i0 : ¬ q < 1 := by omega
  have i1 : ¬ 1099511627776 < q := by omega
  obtain ⟨w1, hw1, c1, b1⟩ := news1 w (.cells #[.int .i64 q, .int .i64 0, .slice none 0 0, .int .i64 1, .int .i64 0, .slice none 0 0, .bool true, .int .i64 0] 84)
  have W1 := Lib.hid hw1
  have B1 := Lib.hid b1
  have C1 := Lib.hid c1
  clear h0 h1 hw1 c1 b1
  go_enter Try.func8, Try.ntmps8
  go_wp2
  rw [← W1.out]
  generalize hg : w.heap.size = g at *
  go_ret2
  exact ⟨g, rfl, B1.out, by omega, C1.out⟩
theorem dtake_any (w : World) (b : Nat) (d : DV) (h : DH w b d) : Calls Try.prog 17 #[.pointer (some ⟨b, 0, none⟩)] w fun e w' => e = .returned (.slice d.iA d.iN d.iC) ∧ DH w' b { d with iA := none, iN := 0, iC := 0 } ∧ Chg [b] w w' := by
  obtain ⟨_, _, _, _, _, z5, _⟩ := h.get
  have f5 := h.free 5
  have H := Lib.hid h
  clear h
  go_enter Try.func17, Try.ntmps17
  go_wp2
  go_ret
  exact ⟨rfl, H.out.sIn none 0 0, (Chg.refl [b] _).setCell (.inl (List.mem_singleton.2 rfl)) _⟩
end
end Go.Proofs.Ytmblalcigbghfaa
