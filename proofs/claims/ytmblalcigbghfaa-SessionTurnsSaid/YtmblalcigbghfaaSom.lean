/- If nothing is lost, all comes in one round: plain functions. No function of the program is named here. -/
import Derived.Test.YtmblalcigbghfaaSoa
namespace Go.Proofs.Ytmblalcigbghfaa
section
set_option linter.unusedSimpArgs false
set_option linter.unusedVariables false
/-- What a packet of the other end's, for this one, comes to. -/
theorem recv_proper {r : SesT} {p : PakT} (hm : Minds r p) (ht : p.2.1 = r.ep) (hf : p.1 = r.peer) : recvS r p = if p.2.2.1 = 0 then dropS r p.2.2.2.1 else comeS (oweS (dropS r p.2.2.2.1)) p.2.2.1 p.2.2.2.2 := by
  have h2 : meetS r p.1 = r := by unfold meetS; rw [if_neg (by omega)]
  unfold recvS
  rw [if_pos hm, if_pos ht, h2]
theorem drop_same (r : SesT) (a : Int) : (dropS r a).ep = r.ep ∧ (dropS r a).peer = r.peer ∧ (dropS r a).came = r.came ∧ (dropS r a).owes = r.owes := by unfold dropS; split <;> exact ⟨rfl, rfl, rfl, rfl⟩
theorem drop_sub (r : SesT) (a : Int) : ∀ x ∈ (dropS r a).q, x ∈ r.q := by
  unfold dropS
  split
  · exact fun x hx => List.mem_of_mem_drop hx
  · exact fun x hx => hx
theorem come_same (r : SesT) (n : Int) (b : List UInt8) : (comeS r n b).ep = r.ep ∧ (comeS r n b).peer = r.peer ∧ (comeS r n b).owes = r.owes ∧ (comeS r n b).q = r.q ∧ (comeS r n b).base = r.base := by unfold comeS; split <;> exact ⟨rfl, rfl, rfl, rfl, rfl⟩
theorem recv_same {r : SesT} {p : PakT} (hm : Minds r p) (ht : p.2.1 = r.ep) (hf : p.1 = r.peer) : (recvS r p).ep = r.ep ∧ (recvS r p).peer = r.peer ∧ r.came ≤ (recvS r p).came ∧ (r.owes = true → (recvS r p).owes = true) ∧ (∀ x ∈ (recvS r p).q, x ∈ r.q) := by
  have d := drop_same r p.2.2.2.1
  rw [recv_proper hm ht hf]
  split
  · exact ⟨d.1, d.2.1, by rw [d.2.2.1]; omega, fun h => by rw [d.2.2.2]; exact h, drop_sub r _⟩
  · have c := come_same (oweS (dropS r p.2.2.2.1)) p.2.2.1 p.2.2.2.2
    refine ⟨c.1.trans d.1, c.2.1.trans d.2.1, ?_, fun _ => by rw [c.2.2.1]; rfl, fun x hx => by rw [c.2.2.2.1] at hx; exact drop_sub r _ x hx⟩
    unfold comeS
    split <;> simp only [oweS, d.2.2.1] <;> omega
theorem recv_num {r : SesT} {p : PakT} (hm : Minds r p) (ht : p.2.1 = r.ep) (hf : p.1 = r.peer) (hn : p.2.2.1 ≠ 0) (hc : p.2.2.1 - 1 ≤ r.came) : p.2.2.1 ≤ (recvS r p).came ∧ (recvS r p).owes = true := by
  have d := drop_same r p.2.2.2.1
  rw [recv_proper hm ht hf, if_neg hn]
  refine ⟨?_, by rw [(come_same _ _ _).2.2.1]; rfl⟩
  unfold comeS
  split
  · rename_i e
    simp only [oweS, d.2.2.1] at e ⊢
    omega
  · rename_i e
    simp only [oweS, d.2.2.1] at e ⊢
    omega
theorem minds_peer {r r' : SesT} {p : PakT} (h : Minds r p) (e : r'.peer = r.peer) : Minds r' p := by unfold Minds at h ⊢; rw [e]; exact h
/-- Packets of the other end's, for this one. -/
def Props (r : SesT) (ps : List PakT) : Prop := ∀ p ∈ ps, Minds r p ∧ p.2.1 = r.ep ∧ p.1 = r.peer
theorem Props.next {r : SesT} {p : PakT} {ps : List PakT} (h : Props r (p :: ps)) : Props (recvS r p) ps := by
  obtain ⟨h1, h2, h3⟩ := h p (by simp)
  have e := recv_same h1 h2 h3
  exact fun q hq => by
    obtain ⟨k1, k2, k3⟩ := h q (by simp [hq])
    exact ⟨minds_peer k1 e.2.1, by rw [e.1]; exact k2, by rw [e.2.1]; exact k3⟩
theorem fold_same : ∀ (ps : List PakT) (r : SesT), Props r ps → (ps.foldl recvS r).ep = r.ep ∧ (ps.foldl recvS r).peer = r.peer ∧ r.came ≤ (ps.foldl recvS r).came ∧ (r.owes = true → (ps.foldl recvS r).owes = true) ∧ (∀ x ∈ (ps.foldl recvS r).q, x ∈ r.q)
  | [], r, _ => ⟨rfl, rfl, Int.le_refl _, id, fun _ h => h⟩
  | p :: ps, r, h => by
    obtain ⟨h1, h2, h3⟩ := h p (by simp)
    have e := recv_same h1 h2 h3
    have f := fold_same ps (recvS r p) h.next
    rw [List.foldl_cons]
    exact ⟨f.1.trans e.1, f.2.1.trans e.2.1, Int.le_trans e.2.2.1 f.2.2.1, fun ho => f.2.2.2.1 (e.2.2.2.1 ho), fun x hx => e.2.2.2.2 x (f.2.2.2.2 x hx)⟩
theorem fold_came (ep peer came : Int) : ∀ (l : List (List UInt8 × Int)) (n : Int) (r : SesT), 1 ≤ n → (∀ x ∈ l, due x.2 = true) → Props r (outQ ep peer came n l) → n - 1 ≤ r.came → n - 1 + l.length ≤ ((outQ ep peer came n l).foldl recvS r).came ∧ (l ≠ [] → ((outQ ep peer came n l).foldl recvS r).owes = true)
  | [], n, r, _, _, _, hc => by simp [outQ]; omega
  | x :: xs, n, r, hn, hd, hp, hc => by
    have e : outQ ep peer came n (x :: xs) = (ep, peer, n, came, x.1) :: outQ ep peer came (n + 1) xs := by simp only [outQ, hd x (by simp), if_true]
    rw [e] at hp ⊢
    obtain ⟨h1, h2, h3⟩ := hp (ep, peer, n, came, x.1) (by simp)
    have hn0 : ((ep, peer, n, came, x.1) : PakT).2.2.1 ≠ 0 := by simp only; omega
    have q := recv_num h1 h2 h3 hn0 (by simpa using hc)
    have f := fold_came ep peer came xs (n + 1) (recvS r (ep, peer, n, came, x.1)) (by omega) (fun y hy => hd y (by simp [hy])) hp.next (by have := q.1; simp only at this; omega)
    have g := fold_same _ _ hp.next
    rw [List.foldl_cons]
    refine ⟨by have := f.1; simp only [List.length_cons]; omega, fun _ => g.2.2.2.1 q.2⟩
theorem fold_ack (a : Int) : ∀ (ps : List PakT) (r : SesT), Props r ps → (∀ p ∈ ps, p.2.2.2.1 = a) → a = r.base + r.q.length - 1 → (ps ≠ [] ∨ r.q = []) → (ps.foldl recvS r).q = []
  | [], r, _, _, _, h => by rcases h with h | h; exact absurd rfl h; exact h
  | p :: ps, r, hp, ha, hb, _ => by
    obtain ⟨h1, h2, h3⟩ := hp p (by simp)
    have e : (recvS r p).q = [] ∧ (recvS r p).base = a + 1 := by
      have d : (dropS r a).q = [] ∧ (dropS r a).base = a + 1 := by
        unfold dropS
        split
        · exact ⟨List.drop_of_length_le (by omega), rfl⟩
        · have hl : r.q.length = 0 := by omega
          exact ⟨List.eq_nil_of_length_eq_zero hl, by omega⟩
      rw [recv_proper h1 h2 h3, ha p (by simp)]
      split
      · exact d
      · have c := come_same (oweS (dropS r a)) p.2.2.1 p.2.2.2.2
        exact ⟨c.2.2.2.1.trans d.1, c.2.2.2.2.trans d.2⟩
    rw [List.foldl_cons]
    exact fold_ack a ps _ hp.next (fun q hq => ha q (by simp [hq])) (by rw [e.1, e.2]; simp) (.inr e.1)
theorem outL_shape {s : SesT} {p : PakT} (h : p ∈ outL s) : p.1 = s.ep ∧ p.2.1 = s.peer ∧ p.2.2.2.1 = s.came ∧ ((p.2.2.1 = 0 ∧ p.2.2.2.2 = []) ∨ ∃ (i : Nat) (x : List UInt8 × Int), s.q[i]? = some x ∧ p.2.2.1 = s.base + i ∧ p.2.2.2.2 = x.1) := by
  unfold outL at h
  split at h
  · simp at h; subst h; exact ⟨rfl, rfl, rfl, .inl ⟨rfl, rfl⟩⟩
  · obtain ⟨i, x, h1, rfl⟩ := outQ_mem h
    exact ⟨rfl, rfl, rfl, .inr ⟨i, x, h1, rfl, rfl⟩⟩
theorem outL_props {K : Nat} {s r : SesT} (h : InvS K s) (hK : K ≤ 1000000) (e1 : r.peer = s.ep) (e2 : s.peer = r.ep) : Props r (outL s) := by
  intro p hp
  obtain ⟨q1, q2, q3, q4⟩ := outL_shape hp
  refine ⟨⟨by omega, by have := h.ep; omega, by have := h.ep; omega, by have := h.peer; omega, ?_, ?_, by have := h.came; omega, ?_⟩, by omega, by omega⟩
  · rcases q4 with ⟨e, _⟩ | ⟨i, x, _, e, _⟩
    · omega
    · have := h.base; omega
  · rcases q4 with ⟨e, _⟩ | ⟨i, x, k, e, _⟩
    · omega
    · have := h.base; have := (List.getElem?_eq_some_iff.1 k).1; omega
  · rcases q4 with ⟨_, e⟩ | ⟨i, x, k, _, e⟩
    · rw [e]; simp
    · rw [e]; exact (h.ages x (List.mem_of_getElem? k)).2.2
theorem fold_way {s : SesT} {sent took sent' took' : List (List UInt8)} : ∀ (ps : List PakT) (r : SesT), Way s r sent took [] → Way r s sent' took' [] → (∀ p ∈ ps, PakOk s r sent p) → Way s (ps.foldl recvS r) sent took [] ∧ Way (ps.foldl recvS r) s sent' took' []
  | [], r, h, h', _ => ⟨h, h'⟩
  | p :: ps, r, h, h', hp => by
    have k := hp p (by simp)
    have a := way_recv h p k
    have b := way_recv' h' p k.frm k.to k.ack
    rw [List.foldl_cons]
    exact fold_way ps _ a b (fun q hq => by
      have z := hp q (by simp [hq])
      exact ⟨z.frm, by rw [z.to, ← h.met2]; exact a.met2, z.num, z.ack⟩)
theorem outS_q (s : SesT) : (outS s).q = s.q.map was ∧ (outS s).base = s.base ∧ (outS s).inn = s.inn ∧ (outS s).came = s.came ∧ (outS s).peer = s.peer ∧ (outS s).ep = s.ep := ⟨rfl, rfl, rfl, rfl, rfl, rfl⟩
theorem outL_owes {s : SesT} (h : s.owes = true) : outL s ≠ [] := by
  unfold outL
  split
  · simp
  · rename_i e
    exact fun k => e ⟨k, .inl h⟩
/-- One end's packets are handed to the other one, if all that is in its queue is due. -/
theorem phase {K : Nat} {s r : SesT} {sent took sent' took' : List (List UInt8)} (h : Way s r sent took []) (h' : Way r s sent' took' []) (hi : InvS K s) (hK : K ≤ 1000000) (hd : ∀ x ∈ s.q, due x.2 = true) :
    Way (outS s) ((outL s).foldl recvS r) sent took [] ∧ Way ((outL s).foldl recvS r) (outS s) sent' took' [] ∧ took ++ ((outL s).foldl recvS r).inn = sent ∧ (s.q ≠ [] → ((outL s).foldl recvS r).owes = true) ∧ (∀ x ∈ ((outL s).foldl recvS r).q, x ∈ r.q) ∧ (took' ++ s.inn = sent' → outL s ≠ [] ∨ r.q = [] → ((outL s).foldl recvS r).q = []) := by
  have w1 := way_less (way_out h [] (by simp)) (air' := []) (by simp)
  have w2 := way_out' h'
  have ok := way_out_ok h
  obtain ⟨a1, a2⟩ := fold_way (outL s) r w1 w2 (fun p hp => ⟨(ok p hp).frm, (ok p hp).to, (ok p hp).num, (ok p hp).ack⟩)
  have pr := outL_props hi hK h.met1 h.met2
  have fs := fold_same _ _ pr
  obtain ⟨k, b1, b2, b3⟩ := h.base
  have len3 : s.q.length + k = sent.length ∨ (s.q.length = 0 ∧ sent.length ≤ k) := by
    have := congrArg List.length b3
    simp at this
    omega
  have hl := h.lens
  have hc0 : (k : Int) ≤ r.came := by rw [h.came]; omega
  have cm : (s.base - 1 + s.q.length ≤ ((outL s).foldl recvS r).came) ∧ (s.q ≠ [] → ((outL s).foldl recvS r).owes = true) := by
    by_cases hq : s.q = []
    · rw [hq]
      exact ⟨by have := fs.2.2.1; simp; omega, fun z => absurd rfl z⟩
    · have e : outL s = outQ s.ep s.peer s.came s.base s.q := by
        unfold outL
        rw [if_neg]
        rintro ⟨z, _⟩
        cases hqq : s.q with
        | nil => exact hq hqq
        | cons x xs =>
          rw [hqq] at z
          have := hd x (by rw [hqq]; simp)
          simp only [outQ, this, if_true] at z
          exact absurd z (by simp)
      rw [e] at pr ⊢
      exact fold_came _ _ _ s.q s.base r (by omega) hd pr (by omega)
  refine ⟨a1, a2, ?_, cm.2, fs.2.2.2.2, fun ht hor => ?_⟩
  · have c := a1.came
    have p := a1.pre
    have := cm.1
    have lo : sent.length ≤ (took ++ ((outL s).foldl recvS r).inn).length := by omega
    rw [List.take_of_length_le lo] at p
    exact p
  · obtain ⟨k', d1, d2, d3⟩ := h'.base
    have c' := h'.came
    rw [ht] at c' d2
    have l3 := congrArg List.length d3
    simp at l3
    refine fold_ack s.came _ r pr (fun p hp => (outL_shape hp).2.2.1) ?_ hor
    omega
theorem tick_due {K : Nat} {s : SesT} (h : InvS K s) : ∀ x ∈ (tickS (tickS (tickS (tickS s)))).q, due x.2 = true := by
  intro x hx
  simp only [tickS, List.mem_map] at hx
  obtain ⟨_, ⟨_, ⟨_, ⟨y, hy, rfl⟩, rfl⟩, rfl⟩, rfl⟩ := hx
  have := h.ages y hy
  have o : ∀ a : Int, older a = if 0 ≤ a ∧ a < 4 then a + 1 else a := fun _ => rfl
  simp only [due, o, decide_eq_true_eq]
  have : y.2 = -1 ∨ y.2 = 0 ∨ y.2 = 1 ∨ y.2 = 2 ∨ y.2 = 3 ∨ y.2 = 4 := by omega
  rcases this with e | e | e | e | e | e <;> rw [e] <;> decide
/-- Two rounds, both ways. -/
theorem two_rounds {a0 b0 a1 b1 a2 b2 a3 b3 a4 b4 : SesT} {s0 s1 t0 t1 : List (List UInt8)} (h : Way a0 b0 s0 t1 []) (h' : Way b0 a0 s1 t0 []) (K : Nat) (hK : K ≤ 1000000) (ia : InvS K a0) (da : ∀ x ∈ a0.q, due x.2 = true) (db : ∀ x ∈ b0.q, due x.2 = true)
    (eb1 : b1 = (outL a0).foldl recvS b0) (ea1 : a1 = outS a0) (i1 : InvS K b1)
    (ea2 : a2 = (outL b1).foldl recvS a1) (eb2 : b2 = outS b1) (i2 : InvS K a2)
    (eb3 : b3 = (outL a2).foldl recvS b2) (ea3 : a3 = outS a2) (i3 : InvS K b3)
    (ea4 : a4 = (outL b3).foldl recvS a3) (eb4 : b4 = outS b3) :
    t1 ++ b4.inn = s0 ∧ t0 ++ a4.inn = s1 ∧ a4.q = [] ∧ b4.q = [] := by
  obtain ⟨A1, A2, A3, A4, A5, _⟩ := phase h h' ia hK da
  rw [← eb1, ← ea1] at A1 A2
  rw [← eb1] at A3 A4 A5
  obtain ⟨B1, B2, B3, B4, B5, B6⟩ := phase A2 A1 i1 hK (fun x hx => db x (A5 x hx))
  rw [← ea2, ← eb2] at B1 B2
  rw [← ea2] at B3 B4 B5 B6
  have qa1 : a1.q = a0.q.map was := by rw [ea1]; rfl
  have qa2 : a2.q = [] := B6 A3 (by
    by_cases e : a0.q = []
    · exact .inr (by rw [qa1, e]; rfl)
    · exact .inl (outL_owes (A4 e)))
  obtain ⟨C1, C2, C3, C4, C5, C6⟩ := phase B2 B1 i2 hK (by rw [qa2]; simp)
  rw [← eb3, ← ea3] at C1 C2
  rw [← eb3] at C3 C4 C5 C6
  have qb2 : b2.q = b1.q.map was := by rw [eb2]; rfl
  have qb3 : b3.q = [] := C6 B3 (by
    by_cases e : b1.q = []
    · exact .inr (by rw [qb2, e]; rfl)
    · exact .inl (outL_owes (B4 e)))
  have qa3 : a3.q = [] := by rw [ea3]; show a2.q.map was = []; rw [qa2]; rfl
  obtain ⟨D1, D2, D3, D4, D5, D6⟩ := phase C2 C1 i3 hK (by rw [qb3]; simp)
  rw [← ea4] at D3 D5
  refine ⟨by rw [eb4]; exact C3, D3, ?_, by rw [eb4]; show b3.q.map was = []; rw [qb3]; rfl⟩
  cases hq : a4.q with
  | nil => rfl
  | cons x xs =>
    have := D5 x (by rw [hq]; simp)
    rw [qa3] at this
    exact absurd this (by simp)
/-- One round both ways. -/
def rn (x : SesT × SesT) : SesT × SesT := ((outL ((outL x.1).foldl recvS x.2)).foldl recvS (outS x.1), outS ((outL x.1).foldl recvS x.2))
def rnN : Nat → SesT × SesT → SesT × SesT
  | 0, x => x
  | k + 1, x => rn (rnN k x)
end
end Go.Proofs.Ytmblalcigbghfaa
