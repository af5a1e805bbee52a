/- The document's session among other memory: its ledger; New, Send, Tick, Out, Take. The document's Receive, among other memory. -/
import Derived.Test.YtmblalcigbghfaaSgi
import Derived.Test.YtmblalcigbghfaaSgj
import Derived.Test.YtmblalcigbghfaaSgk
import Derived.Test.YtmblalcigbghfaaSgl
import Derived.Test.YtmblalcigbghfaaSgm
import Derived.Test.YtmblalcigbghfaaSgn
namespace Go.Proofs.Ytmblalcigbghfaa
section
open Go.RowKit Go.Lib
set_option linter.unusedSimpArgs false
set_option linter.unusedVariables false

structure AbD (d : DV) (st : SesT) : Prop where
  ep : d.ep = st.ep
  ot : d.ot = st.peer
  turned : d.turned = st.turned
  base : d.base = st.base
  came : d.came = st.came
  owes : d.owes = st.owes
  n : d.n = st.q.length
  iN : d.iN = st.inn.length
structure SentP (w : World) (D : List Nat) (v : SentV) (x : List UInt8 × Int) : Prop where
  rd : Bs w v.1 v.2.1 x.1
  age : v.2.2.2 = x.2
  blk : ∀ a, v.1 = some a → a.block ∈ D
theorem SentP.chg {w w' : World} {S D : List Nat} {v : SentV} {x : List UInt8 × Int} (h : SentP w D v x) (hc : Chg S w w') (hd : ∀ d ∈ D, d ∉ S) : SentP w' D v x := ⟨h.rd.chg hc (fun a ha => hd _ (h.blk a ha)), h.age, h.blk⟩
theorem SentP.more {w : World} {D D' : List Nat} {v : SentV} {x : List UInt8 × Int} (h : SentP w D v x) (hd : ∀ d ∈ D, d ∈ D') : SentP w D' v x := ⟨h.rd, h.age, fun a ha => hd _ (h.blk a ha)⟩
structure DocP (K : Nat) (w : World) (b : Nat) (D : List Nat) (st : SesT) (d : DV) (lq : List SentV) (li : List SlV) : Prop where
  h : DH w b d
  ab : AbD d st
  q : OwnO sentTy w d.A d.c lq
  ql : lq.length = d.n
  qq : ∀ (i : Nat) (v : SentV) (x : List UInt8 × Int), lq[i]? = some v → st.q[i]? = some x → SentP w D v x
  i : OwnK lstTy w d.iA d.iC li
  il : ListP w D li st.inn
  nb : b ∉ D
  fq : ∀ a, d.A = some a → a.block ≠ b ∧ a.block ∉ D
  fi : ∀ a, d.iA = some a → a.block ≠ b ∧ a.block ∉ D
  lo : ∀ z ∈ D, z < w.heap.size
  inv : InvS K st
/-- The document's session at b, all whose blocks are among L: its state. -/
def DocL (K : Nat) (w : World) (b : Nat) (L : List Nat) (st : SesT) : Prop := ∃ d lq li D, DocP K w b D st d lq li ∧ (∀ z ∈ b :: (blkOf d.A ++ (blkOf d.iA ++ D)), z ∈ L) ∧ ∀ z ∈ L, z < w.heap.size
/-- A row of bodies and a row of what is in the queue are two. -/
theorem apartOK {w : World} {A A' : Option Addr} {c c' : Nat} {xs : List SentV} {ys : List SlV} (h : OwnO sentTy w A c xs) (k : OwnK lstTy w A' c' ys) : ∀ a a', A = some a → A' = some a' → a.block ≠ a'.block := by
  rintro a a' rfl rfl e
  rcases k with ⟨k1, _⟩ | ⟨g, full, k1, k2, _⟩
  · cases k1
  · cases k1
    exact h.ne k2 (by decide) a rfl e
theorem apartBO {w : World} {A A' : Option Addr} {c c' : Nat} {xs : List UInt8} {ys : List SentV} (h : OwnB w A c xs) (k : OwnO sentTy w A' c' ys) : ∀ a a', A = some a → A' = some a' → a.block ≠ a'.block := by
  rintro a a' rfl rfl e
  rcases k with ⟨k1, _⟩ | ⟨g, o, full, k1, k2, _⟩
  · cases k1
  · cases k1
    exact h.ne k2 (by decide) a rfl e
theorem apartBK {w : World} {A A' : Option Addr} {c c' : Nat} {xs : List UInt8} {ys : List SlV} (h : OwnB w A c xs) (k : OwnK lstTy w A' c' ys) : ∀ a a', A = some a → A' = some a' → a.block ≠ a'.block := by
  rintro a a' rfl rfl e
  rcases k with ⟨k1, _⟩ | ⟨g, full, k1, k2, _⟩
  · cases k1
  · cases k1
    exact h.ne k2 (by decide) a rfl e
theorem DocL.chg {K : Nat} {w w' : World} {S : List Nat} {b : Nat} {L : List Nat} {st : SesT} (h : DocL K w b L st) (hc : Chg S w w') (hL : ∀ z ∈ L, z ∉ S) : DocL K w' b L st := by
  obtain ⟨d, lq, li, D, h, hs, hl⟩ := h
  have hD : ∀ z ∈ D, z ∉ S := fun z hz => hL z (hs z (by simp [hz]))
  refine ⟨d, lq, li, D, ⟨h.h.chg hc (hL b (hs b (by simp))), h.ab, h.q.chg hc (fun a ha => hL _ (hs _ (by simp [mem_blkOf ha]))), h.ql, fun i v x hv hx => (h.qq i v x hv hx).chg hc hD, h.i.chg hc (fun a ha => hL _ (hs _ (by simp [mem_blkOf ha]))), h.il.chg hc hD, h.nb, h.fq, h.fi, fun z hz => Nat.lt_of_lt_of_le (h.lo z hz) hc.size, h.inv⟩, hs, fun z hz => Nat.lt_of_lt_of_le (hl z hz) hc.size⟩
theorem DocL.get {K : Nat} {w : World} {b : Nat} {L : List Nat} {st : SesT} (h : DocL K w b L st) : w.cell? ⟨b, 1, none⟩ = some (.int .i64 st.peer) ∧ (∃ A c, w.cell? ⟨b, 2, none⟩ = some (.slice A st.q.length c)) ∧ w.cell? ⟨b, 7, none⟩ = some (.int .i64 st.turned) := by
  obtain ⟨d, lq, li, D, h, hs, hl⟩ := h
  have := h.h.get
  rw [← h.ab.ot, ← h.ab.n, ← h.ab.turned]
  exact ⟨this.2.1, ⟨_, _, this.2.2.1⟩, this.2.2.2.2.2.2.2⟩
theorem DocL.more {K K' : Nat} {w : World} {b : Nat} {L : List Nat} {st : SesT} (h : DocL K w b L st) (hk : K ≤ K') : DocL K' w b L st := by
  obtain ⟨d, lq, li, D, h, hs, hl⟩ := h
  exact ⟨d, lq, li, D, ⟨h.h, h.ab, h.q, h.ql, h.qq, h.i, h.il, h.nb, h.fq, h.fi, h.lo, h.inv.more hk⟩, hs, hl⟩
theorem newDL {w : World} {b : Nat} {q : Int} (h : DH w b (newD q)) (hq : 1 ≤ q ∧ q ≤ 1099511627776) : DocL 0 w b [b] (newS q) :=
  ⟨newD q, [], [], [], ⟨h, ⟨rfl, rfl, rfl, rfl, rfl, rfl, rfl, rfl⟩, OwnO.none_ _, rfl, by simp, OwnK.none_ _, ⟨rfl, by simp⟩, by simp, by simp [newD], by simp [newD], by simp, new_inv hq⟩, by simp [newD, blkOf], by have := h.lt; simp; exact this⟩
section
variable {K : Nat} {w : World} {b : Nat} {L : List Nat} {st : SesT}
theorem dtakeL (h : DocL K w b L st) : Calls Try.prog 17 #[.pointer (some ⟨b, 0, none⟩)] w fun e w' => ∃ A c lt D, e = .returned (.slice A st.inn.length c) ∧ OwnK lstTy w' A c lt ∧ ListP w' D lt st.inn ∧ DocL K w' b L (takeS st) ∧ Chg L w w' := by
  obtain ⟨d, lq, li, D, h, hs, hl⟩ := h
  refine (dtake_any w b d h.h).mono ?_
  rintro e w' ⟨rfl, hq, hc⟩
  have hD : ∀ z ∈ D, z ∉ [b] := fun z hz hm => h.nb (by simp at hm; exact hm ▸ hz)
  refine ⟨d.iA, d.iC, li, D, by rw [h.ab.iN], h.i.chg hc (fun a ha hm => (h.fi a ha).1 (by simpa using hm)), h.il.chg hc hD, ⟨_, lq, [], D, ⟨hq, ⟨h.ab.ep, h.ab.ot, h.ab.turned, h.ab.base, h.ab.came, h.ab.owes, h.ab.n, rfl⟩, h.q.chg hc (fun a ha hm => (h.fq a ha).1 (by simpa using hm)), h.ql, fun i v x hv hx => (h.qq i v x hv hx).chg hc hD, OwnK.none_ _, ⟨rfl, by simp⟩, h.nb, h.fq, by simp, fun z hz => Nat.lt_of_lt_of_le (h.lo z hz) hc.size, take_inv h.inv⟩, fun z hz => hs z ?_, fun z hz => Nat.lt_of_lt_of_le (hl z hz) hc.size⟩, hc.mono (fun z hz => .inl (by simp at hz; subst hz; exact hs _ (by simp)))⟩
  simp [blkOf] at hz ⊢
  rcases hz with e | e | e
  · exact .inl e
  · exact .inr (.inl e)
  · exact .inr (.inr (.inr e))
theorem dsendL (h : DocL K w b L st) (B : Option Addr) (n c : Nat) (ys : List UInt8) (hr : Bs w B n ys) (hn : n ≤ 140737488351232) : Calls Try.prog 34 #[.pointer (some ⟨b, 0, none⟩), .slice B n c] w fun e w' => ∃ L', e = .returned (.int .i64 (sendE st ys)) ∧ DocL (K + 1) w' b L' (sendS st ys) ∧ (∀ z ∈ L', z ∈ L ∨ w.heap.size ≤ z) ∧ Chg L w w' := by
  have hL := h
  obtain ⟨d, lq, li, D, h, hs, hl⟩ := h
  have hlen := hr.len
  by_cases h1 : 400 < n
  · refine (dsend_long w b d h.h B n c h1 hn).mono ?_
    rintro e w' ⟨rfl, rfl⟩
    rw [sendE, sendS, if_pos (by omega), if_pos (.inl (by omega))]
    exact ⟨L, rfl, hL.more (by omega), fun z hz => .inl hz, Chg.refl _ _⟩
  by_cases h2 : d.ot = 0
  · refine (dsend_state w b d h.h B n c h1 h2).mono ?_
    rintro e w' ⟨rfl, rfl⟩
    have h2' : st.peer = 0 := by rw [← h.ab.ot]; exact h2
    rw [sendE, sendS, if_neg (by omega), if_pos h2', if_pos (.inr (.inl h2'))]
    exact ⟨L, rfl, hL.more (by omega), fun z hz => .inl hz, Chg.refl _ _⟩
  have h2' : ¬ st.peer = 0 := by rw [← h.ab.ot]; exact h2
  have hq8 := h.inv.q
  have hqq := h.ab.n
  have hql := h.ql
  by_cases h3 : 8 ≤ d.n
  · refine (dsend_full w b d h.h B n c h1 h2 h3).mono ?_
    rintro e w' ⟨rfl, rfl⟩
    rw [sendE, sendS, if_neg (by omega), if_neg h2', if_pos (by omega), if_pos (.inr (.inr (by omega)))]
    exact ⟨L, rfl, hL.more (by omega), fun z hz => .inl hz, Chg.refl _ _⟩
  · refine (dsend_ok w b d h.h lq h.q h.ql (fun x hx => (h.fq x hx).1) B n c ys hr h1 h2 (by omega)).mono ?_
    rintro e w' ⟨A4, c4, A6, c6, rfl, hq, o6, o4, n4, n6, hc⟩
    have hi := send_inv h.inv ys
    rw [sendE, if_neg (by omega), if_neg h2', if_neg (by omega)]
    rw [sendS, if_neg (by omega)] at hi ⊢
    have hD : ∀ z ∈ D, z ∉ b :: blkOf d.A := fun z hz hm => by
      rcases List.mem_cons.1 hm with e | e
      · exact h.nb (e ▸ hz)
      · obtain ⟨x, hx, e⟩ := of_blkOf e
        exact (h.fq x hx).2 (e ▸ hz)
    have hbl := h.h.lt
    have hiA : ∀ a, d.iA = some a → a.block ∉ b :: blkOf d.A := fun a ha hm => by
      rcases List.mem_cons.1 hm with e | e
      · exact (h.fi a ha).1 e
      · obtain ⟨x, hx, e⟩ := of_blkOf e
        exact apartOK h.q h.i x a hx ha e
    have oi := h.i.chg hc hiA
    have new : ∀ z ∈ blkOf A4, w.heap.size ≤ z := fun z hz => by
      obtain ⟨x, hx, rfl⟩ := of_blkOf hz
      exact n4 x hx
    refine ⟨b :: (blkOf A6 ++ (blkOf d.iA ++ (blkOf A4 ++ D))), rfl, ⟨_, _, li, blkOf A4 ++ D, ⟨hq, ⟨h.ab.ep, h.ab.ot, h.ab.turned, h.ab.base, h.ab.came, h.ab.owes, by simp [h.ab.n], h.ab.iN⟩, o6, by simp [h.ql], fun i v x hv hx => ?_, oi, (h.il.chg hc hD).more (fun z hz => List.mem_append_right _ hz), ?_, ?_, ?_, ?_, hi⟩, fun z hz => hz, ?_⟩, ?_, ?_⟩
    · by_cases e : i = lq.length
      · subst e
        rw [List.getElem?_append_right (Nat.le_refl _)] at hv
        rw [hql, hqq, List.getElem?_append_right (Nat.le_refl _)] at hx
        simp at hv hx
        subst hv
        subst hx
        exact ⟨by have := o4.reads; rwa [hlen] at this, rfl, fun a ha => List.mem_append_left _ (mem_blkOf ha)⟩
      · have hi2 : i < lq.length + 1 := by simpa using (List.getElem?_eq_some_iff.1 hv).1
        rw [List.getElem?_append_left (by omega)] at hv hx
        exact ((h.qq i v x hv hx).chg hc hD).more (fun z hz => List.mem_append_right _ hz)
    · intro hm
      rcases List.mem_append.1 hm with e | e
      · have := new b e; omega
      · exact h.nb e
    · intro x hx
      refine ⟨fun e => ?_, fun hm => ?_⟩
      · rcases n6 x hx with e1 | e1
        · exact (h.fq x e1).1 e
        · omega
      · rcases List.mem_append.1 hm with e | e
        · obtain ⟨y, hy, e⟩ := of_blkOf e
          exact apartBO o4 o6 y x hy hx e
        · rcases n6 x hx with e1 | e1
          · exact (h.fq x e1).2 e
          · have := h.lo _ e; omega
    · intro x hx
      refine ⟨(h.fi x hx).1, fun hm => ?_⟩
      rcases List.mem_append.1 hm with e | e
      · have := new _ e
        have := h.i.lt x hx
        omega
      · exact (h.fi x hx).2 e
    · intro z hm
      rcases List.mem_append.1 hm with e | e
      · obtain ⟨y, hy, rfl⟩ := of_blkOf e
        exact o4.lt y hy
      · exact Nat.lt_of_lt_of_le (h.lo z e) hc.size
    · intro z hz
      simp only [List.mem_cons, List.mem_append] at hz
      rcases hz with rfl | e | e | e | e
      · exact hq.lt
      · obtain ⟨y, hy, rfl⟩ := of_blkOf e
        exact o6.lt y hy
      · obtain ⟨y, hy, rfl⟩ := of_blkOf e
        exact oi.lt y hy
      · obtain ⟨y, hy, rfl⟩ := of_blkOf e
        exact o4.lt y hy
      · exact Nat.lt_of_lt_of_le (h.lo z e) hc.size
    · intro z hz
      simp only [List.mem_cons, List.mem_append] at hz
      rcases hz with rfl | e | e | e | e
      · exact .inl (hs _ (by simp))
      · obtain ⟨y, hy, rfl⟩ := of_blkOf e
        rcases n6 y hy with e1 | e1
        · exact .inl (hs _ (by simp [mem_blkOf e1]))
        · exact .inr e1
      · exact .inl (hs _ (by simp [e]))
      · exact .inr (new z e)
      · exact .inl (hs _ (by simp [e]))
    · refine hc.mono (fun z hz => .inl (hs z ?_))
      rcases List.mem_cons.1 hz with e | e
      · simp [e]
      · simp [e]
theorem dtickL (h : DocL K w b L st) : Calls Try.prog 35 #[.pointer (some ⟨b, 0, none⟩)] w fun e w' => e = .returned (.tuple #[]) ∧ DocL (K + 1) w' b L (tickS st) ∧ Chg L w w' := by
  obtain ⟨d, lq, li, D, h, hs, hl⟩ := h
  have hq8 := h.inv.q
  have hqq := h.ab.n
  have hql := h.ql
  refine (dtick_any w b d h.h lq h.q h.ql (fun x hx => (h.fq x hx).1) (by omega) ?_).mono ?_
  · intro v hv
    obtain ⟨i, hi, rfl⟩ := List.getElem_of_mem hv
    have hi2 : i < st.q.length := by omega
    rw [(h.qq i _ _ (List.getElem?_eq_getElem hi) (List.getElem?_eq_getElem hi2)).age]
    exact (h.inv.ages _ (List.getElem_mem hi2)).2.1
  rintro e w' ⟨rfl, hq, o6, hc⟩
  have hD : ∀ z ∈ D, z ∉ blkOf d.A := fun z hz hm => by
    obtain ⟨x, hx, e⟩ := of_blkOf hm
    exact (h.fq x hx).2 (e ▸ hz)
  refine ⟨rfl, ⟨d, _, li, D, ⟨hq, ⟨h.ab.ep, h.ab.ot, h.ab.turned, h.ab.base, h.ab.came, h.ab.owes, by simp [tickS, h.ab.n], h.ab.iN⟩, o6, by simp [h.ql], fun i v x hv hx => ?_, h.i.chg hc (fun a ha hm => by obtain ⟨x, hx, e⟩ := of_blkOf hm; exact apartOK h.q h.i x a hx ha e), h.il.chg hc hD, h.nb, h.fq, h.fi, fun z hz => Nat.lt_of_lt_of_le (h.lo z hz) hc.size, tick_inv h.inv⟩, hs, fun z hz => Nat.lt_of_lt_of_le (hl z hz) hc.size⟩, hc.mono (fun z hz => .inl (hs z (by simp [hz])))⟩
  simp only [tickS, List.getElem?_map, Option.map_eq_some_iff] at hv hx
  obtain ⟨v0, hv0, rfl⟩ := hv
  obtain ⟨x0, hx0, rfl⟩ := hx
  have hb := (h.qq i v0 x0 hv0 hx0).chg hc hD
  exact ⟨hb.rd, by simp only [tickD, hb.age], hb.blk⟩
theorem doutL (h : DocL K w b L st) (hK : K ≤ 1000000) : Calls Try.prog 14 #[.pointer (some ⟨b, 0, none⟩)] w fun e w' => ∃ B c l, e = .returned (.slice B l.length c) ∧ OwnK pakTy w' B c l ∧ (∀ a, B = some a → w.heap.size ≤ a.block) ∧ PaksP w' w.heap.size l (outL st) ∧ DocL (K + 1) w' b L (outS st) ∧ Chg L w w' := by
  obtain ⟨d, lq, li, D, h, hs, hl⟩ := h
  have hq8 := h.inv.q
  have hqq := h.ab.n
  have hba := h.inv.base
  have hbe := h.ab.base
  refine (dout_any w b d h.h lq h.q h.ql (fun x hx => (h.fq x hx).1) (by omega) st.q hqq.symm (by omega) (fun i v x hv hx => ⟨(h.qq i v x hv hx).rd, (h.qq i v x hv hx).age, fun a ha hm => ?_⟩) (fun x hx => (h.inv.ages x hx).2.2)).mono ?_
  · obtain ⟨y, hy, e⟩ := of_blkOf hm
    exact (h.fq y hy).2 (e ▸ (h.qq i v x hv hx).blk a ha)
  rintro e w' ⟨B, c, l, rfl, hO, hB, hp, hq, o6, hc⟩
  have hD : ∀ z ∈ D, z ∉ b :: blkOf d.A := fun z hz hm => by
    rcases List.mem_cons.1 hm with e | e
    · exact h.nb (e ▸ hz)
    · obtain ⟨x, hx, e⟩ := of_blkOf e
      exact (h.fq x hx).2 (e ▸ hz)
  have eo : outLD d st.q = outL st := by unfold outLD outL; rw [h.ab.ep, h.ab.ot, h.ab.came, h.ab.base, h.ab.owes]
  rw [eo] at hp
  refine ⟨B, c, l, rfl, hO, hB, hp, ⟨_, _, li, D, ⟨hq, ⟨h.ab.ep, h.ab.ot, h.ab.turned, h.ab.base, h.ab.came, rfl, by simp [outS, h.ab.n], h.ab.iN⟩, o6, by simp [h.ql], fun i v x hv hx => ?_, h.i.chg hc (fun a ha hm => ?_), h.il.chg hc hD, h.nb, h.fq, h.fi, fun z hz => Nat.lt_of_lt_of_le (h.lo z hz) hc.size, out_inv h.inv⟩, hs, fun z hz => Nat.lt_of_lt_of_le (hl z hz) hc.size⟩, hc.mono (fun z hz => .inl (hs z ?_))⟩
  · simp only [outS, List.getElem?_map, Option.map_eq_some_iff] at hv hx
    obtain ⟨v0, hv0, rfl⟩ := hv
    obtain ⟨x0, hx0, rfl⟩ := hx
    have hb := (h.qq i v0 x0 hv0 hx0).chg hc hD
    have e1 : (wasD v0).1 = v0.1 ∧ (wasD v0).2.1 = v0.2.1 := by unfold wasD; split <;> exact ⟨rfl, rfl⟩
    refine ⟨by rw [e1.1, e1.2, was_keeps]; exact hb.rd, ?_, by rw [e1.1]; exact hb.blk⟩
    unfold wasD was
    rw [hb.age]
    split
    · rfl
    · exact hb.age
  · rcases List.mem_cons.1 hm with e | e
    · exact (h.fi a ha).1 e
    · obtain ⟨x, hx, e⟩ := of_blkOf e
      exact apartOK h.q h.i x a hx ha e
  · rcases List.mem_cons.1 hz with e | e
    · simp [e]
    · simp [e]
end
end
section
open Go.RowKit Go.Lib
set_option linter.unusedSimpArgs false
set_option linter.unusedVariables false

def RelD (w : World) (D : List Nat) (d : DV) (lq : List SentV) (st : SesT) : Prop := AbD d st ∧ OwnO sentTy w d.A d.c lq ∧ lq.length = d.n ∧ ∀ (i : Nat) (v : SentV) (x : List UInt8 × Int), lq[i]? = some v → st.q[i]? = some x → SentP w D v x
theorem reld_meet {w : World} {D : List Nat} {d : DV} {lq : List SentV} {st : SesT} (f : Int) (h : RelD w D d lq st) : ∃ lq', RelD w D (meetD d f) lq' (meetS st f) := by
  obtain ⟨a, o, l, q⟩ := h
  unfold meetD meetS
  rw [a.ot]
  split
  · exact ⟨[], ⟨a.ep, rfl, by simp [turnD, turnS, a.turned], rfl, rfl, rfl, rfl, a.iN⟩, OwnO.none_ _, rfl, by simp⟩
  · exact ⟨lq, a, o, l, q⟩
theorem reld_drop {w : World} {D : List Nat} {d : DV} {lq : List SentV} {st : SesT} (x : Int) (h : RelD w D d lq st) : ∃ lq', RelD w D (dropD d x) lq' (dropS st x) := by
  obtain ⟨a, o, l, q⟩ := h
  unfold dropD dropS
  rw [a.base, a.n]
  split
  · rename_i hc
    have hn := a.n
    refine ⟨lq.drop (x - st.base + 1).toNat, ⟨a.ep, a.ot, a.turned, rfl, a.came, a.owes, by simp, a.iN⟩, o.sliced _ (by omega), by simp; omega, fun i v y hv hy => ?_⟩
    simp only [List.getElem?_drop] at hv hy
    exact q _ v y hv hy
  · exact ⟨lq, a, o, l, q⟩
theorem meetD_A {d : DV} {f a : Int} : ∀ x, (dropD (meetD d f) a).A = some x → ∃ y, d.A = some y ∧ y.block = x.block := by
  intro x hx
  have h1 : ∀ (s : DV) x, (dropD s a).A = some x → ∃ y, s.A = some y ∧ y.block = x.block := by
    intro s x hx
    unfold dropD at hx
    split at hx
    · simp only at hx
      split at hx
      · exact ⟨x, hx, rfl⟩
      · obtain ⟨y, hy, e⟩ := Option.map_eq_some_iff.1 hx
        exact ⟨y, hy, by rw [← e, block_add]⟩
    · exact ⟨x, hx, rfl⟩
  obtain ⟨y, hy, e⟩ := h1 _ x hx
  unfold meetD at hy
  split at hy
  · cases hy
  · exact ⟨y, hy, e⟩
theorem meetD_A0 {d : DV} {f : Int} : ∀ x, (meetD d f).A = some x → ∃ y, d.A = some y ∧ y.block = x.block := by
  intro x hy
  unfold meetD at hy
  split at hy
  · cases hy
  · exact ⟨x, hy, rfl⟩
theorem drecvL {K : Nat} {w : World} {b : Nat} {L : List Nat} {st : SesT} (h : DocL K w b L st) (hK : K ≤ 900000) (f t m a : Int) (B : Option Addr) (n e : Nat) (ys : List UInt8) (hr : Bs w B n ys) (hn : n ≤ 140737488351232) (hB : ∀ x, B = some x → x.block ≠ b) :
    Calls Try.prog 37 #[.pointer (some ⟨b, 0, none⟩), .agg #[.int .i64 f, .int .i64 t, .int .i64 m, .int .i64 a, .slice B n e]] w fun r w' => ∃ L', r = .returned (.tuple #[]) ∧ DocL (K + 2) w' b L' (recvS st (f, t, m, a, ys)) ∧ (∀ z ∈ L', z ∈ L ∨ w.heap.size ≤ z) ∧ Chg L w w' := by
  have hL := h
  obtain ⟨d, lq, li, D, h, hs, hl⟩ := h
  have hlen := hr.len
  have hp := h.inv.peer
  have hpe := h.ab.ot
  have hba := h.inv.base
  have hbe := h.ab.base
  have hq8 := h.inv.q
  have hne := h.ab.n
  have hcp := h.q.cap
  have hql := h.ql
  have htu : 0 ≤ d.turned ∧ d.turned ≤ 4611686018427387904 := by have := h.inv.turned; have := h.ab.turned; omega
  have hii := recv_inv h.inv (f, t, m, a, ys)
  obtain ⟨lq1, r1⟩ := reld_meet f (⟨h.ab, h.q, h.ql, h.qq⟩ : RelD w D d lq st)
  obtain ⟨lq2, r2⟩ := reld_drop a r1
  have hbl := h.h.lt
  have hDb : ∀ z ∈ D, z ∉ [b] := fun z hz hm => h.nb (by simp at hm; exact hm ▸ hz)
  have subb : ∀ z ∈ [b], z ∈ L := fun z hz => hs z (by simp at hz; simp [hz])
  have one : ∀ {w' : World} {d' : DV} {lq' : List SentV} {st' : SesT}, DH w' b d' → RelD w D d' lq' st' → Chg [b] w w' → InvS (K + 2) st' → st'.inn = st.inn → d'.iA = d.iA → d'.iC = d.iC → (∀ x, d'.A = some x → ∃ y, d.A = some y ∧ y.block = x.block) → ∃ L', Ending.returned (Value.tuple #[]) = .returned (.tuple #[]) ∧ DocL (K + 2) w' b L' st' ∧ (∀ z ∈ L', z ∈ L ∨ w.heap.size ≤ z) ∧ Chg L w w' := by
    intro w' d' lq' st' q r c i e1 e2 e3 e4
    have far : ∀ x, d'.A = some x → x.block ≠ b ∧ x.block ∉ D := fun x hx => by
      obtain ⟨y, hy, e⟩ := e4 x hx
      rw [← e]
      exact h.fq y hy
    refine ⟨L, rfl, ⟨d', lq', li, D, ⟨q, r.1, r.2.1.chg c (fun x hx hm => (far x hx).1 (by simpa using hm)), r.2.2.1, fun i v x hv hx => (r.2.2.2 i v x hv hx).chg c hDb, by rw [e2, e3]; exact h.i.chg c (fun x hx hm => (h.fi x hx).1 (by simpa using hm)), by rw [e1]; exact h.il.chg c hDb, h.nb, far, by rw [e2]; exact h.fi, fun z hz => Nat.lt_of_lt_of_le (h.lo z hz) c.size, i⟩, fun z hz => ?_, fun z hz => Nat.lt_of_lt_of_le (hl z hz) c.size⟩, fun z hz => .inl hz, c.mono (fun z hz => .inl (subb z hz))⟩
    simp only [List.mem_cons, List.mem_append, e2] at hz
    rcases hz with rfl | hz | hz | hz
    · exact hs _ (by simp)
    · obtain ⟨x, hx, rfl⟩ := of_blkOf hz
      obtain ⟨y, hy, e⟩ := e4 x hx
      rw [← e]
      exact hs _ (by simp [mem_blkOf hy])
    · exact hs _ (by simp [hz])
    · exact hs _ (by simp [hz])
  have hbs : ∀ s5, s5 = meetD d f → 1 ≤ s5.base ∧ s5.base ≤ 2000000 ∧ s5.n ≤ 8 ∧ s5.n ≤ s5.c := by
    rintro s5 rfl
    unfold meetD
    split
    · simp [turnD]
    · omega
  by_cases hM : f < 1 ∨ 1099511627776 < f ∨ f < d.ot ∨ t < 0 ∨ m < 0 ∨ 1099511627776 < m ∨ a < 0 ∨ (400 : Int) < (n : Int)
  · have hM2 : ¬ Minds st (f, t, m, a, ys) := fun q => by
      obtain ⟨q1, q2, q3, q4, q5, q6, q7, q8⟩ := q
      simp only at q1 q2 q3 q4 q5 q6 q7 q8
      omega
    have e0 : recvS st (f, t, m, a, ys) = st := by unfold recvS; rw [if_neg hM2]
    rw [e0]
    have fin : ∀ {r : Ending} {w' : World}, (r = .returned (.tuple #[]) ∧ Chg [] w w') → ∃ L', r = .returned (.tuple #[]) ∧ DocL (K + 2) w' b L' st ∧ (∀ z ∈ L', z ∈ L ∨ w.heap.size ≤ z) ∧ Chg L w w' := fun hh => ⟨L, hh.1, (hL.chg hh.2 (by simp)).more (by omega), fun z hz => .inl hz, hh.2.mono (by simp)⟩
    by_cases h0 : f < 1
    · exact (drecv_no0 w b d h.h f t m a B n e hn h0).mono (fun _ _ => fin)
    by_cases h1 : 1099511627776 < f
    · exact (drecv_no1 w b d h.h f t m a B n e hn h0 h1).mono (fun _ _ => fin)
    by_cases h2 : f < d.ot
    · exact (drecv_no2 w b d h.h f t m a B n e hn h0 h1 h2).mono (fun _ _ => fin)
    by_cases h3 : t < 0
    · exact (drecv_no3 w b d h.h f t m a B n e hn h0 h1 h2 h3).mono (fun _ _ => fin)
    by_cases h4 : m < 0
    · exact (drecv_no4 w b d h.h f t m a B n e hn h0 h1 h2 h3 h4).mono (fun _ _ => fin)
    by_cases h5 : 1099511627776 < m
    · exact (drecv_no5 w b d h.h f t m a B n e hn h0 h1 h2 h3 h4 h5).mono (fun _ _ => fin)
    by_cases h6 : a < 0
    · exact (drecv_no6 w b d h.h f t m a B n e hn h0 h1 h2 h3 h4 h5 h6).mono (fun _ _ => fin)
    · exact (drecv_no7 w b d h.h f t m a B n e hn h0 h1 h2 h3 h4 h5 h6 (by omega)).mono (fun _ _ => fin)
  have h0 : ¬ f < 1 := by omega
  have h1 : ¬ 1099511627776 < f := by omega
  have h2 : ¬ f < d.ot := by omega
  have h3 : ¬ t < 0 := by omega
  have h4 : ¬ m < 0 := by omega
  have h5 : ¬ 1099511627776 < m := by omega
  have h6 : ¬ a < 0 := by omega
  have h7 : ¬ (400 : Int) < (n : Int) := by omega
  have hM2 : Minds st (f, t, m, a, ys) := ⟨by simp only; omega, by simp only; omega, by simp only; omega, by simp only; omega, by simp only; omega, by simp only; omega, by simp only; omega, by simp only; omega⟩
  have i1 := meet_inv h.inv (f := f) ⟨by omega, by omega⟩
  have i2 := drop_inv a i1
  have tri : ∀ s5 : DV, a < s5.base ∨ (s5.base ≤ a ∧ s5.base + s5.n ≤ a) ∨ (s5.base ≤ a ∧ a < s5.base + s5.n) := fun s5 => by omega
  have noin : d.ot < f → ¬ ((meetD d f).base ≤ a ∧ a < (meetD d f).base + (meetD d f).n) := fun hp => by
    unfold meetD
    rw [if_pos hp]
    simp only [turnD]
    omega
  by_cases ht : t = d.ep
  · have ht2 : t = st.ep := by rw [ht]; exact h.ab.ep
    by_cases hm : m = 0
    · have e0 : recvS st (f, t, m, a, ys) = dropS (meetS st f) a := by unfold recvS; rw [if_pos hM2, if_pos ht2, if_pos hm]
      rw [e0] at hii ⊢
      have fin : ∀ {r : Ending} {w' : World}, (r = .returned (.tuple #[]) ∧ DH w' b (dropD (meetD d f) a) ∧ Chg [b] w w') → ∃ L', r = .returned (.tuple #[]) ∧ DocL (K + 2) w' b L' (dropS (meetS st f) a) ∧ (∀ z ∈ L', z ∈ L ∨ w.heap.size ≤ z) ∧ Chg L w w' := by
        rintro r w' ⟨rfl, q, c⟩
        exact one q r2 c hii (by rw [drop_inn, meet_inn]) (by rw [(dropD_same _ _).2.2.2.1, (meetD_same _ _).2.1]) (by rw [(dropD_same _ _).2.2.2.2.2.1, (meetD_same _ _).2.2.2]) meetD_A
      by_cases hpf : d.ot < f
      · rcases tri (meetD d f) with g | g | g
        · exact (drecv_zerotlo w b d h.h f t m a B n e hn h0 h1 h2 h3 h4 h5 h6 h7 htu hpf hbs ht hm (by rintro _ rfl; exact g)).mono (fun _ _ => fin)
        · exact (drecv_zerothi w b d h.h f t m a B n e hn h0 h1 h2 h3 h4 h5 h6 h7 htu hpf hbs ht hm (by rintro _ rfl; exact g)).mono (fun _ _ => fin)
        · exact absurd g (noin hpf)
      · rcases tri (meetD d f) with g | g | g
        · exact (drecv_zeroflo w b d h.h f t m a B n e hn h0 h1 h2 h3 h4 h5 h6 h7 htu hpf hbs ht hm (by rintro _ rfl; exact g)).mono (fun _ _ => fin)
        · exact (drecv_zerofhi w b d h.h f t m a B n e hn h0 h1 h2 h3 h4 h5 h6 h7 htu hpf hbs ht hm (by rintro _ rfl; exact g)).mono (fun _ _ => fin)
        · exact (drecv_zerofin w b d h.h f t m a B n e hn h0 h1 h2 h3 h4 h5 h6 h7 htu hpf hbs ht hm (by rintro _ rfl; exact g)).mono (fun _ _ => fin)
    · have hce := r2.1.came
      have hci := i2.came
      by_cases hc : (dropD (meetD d f) a).came + 1 = m
      · have e0 : recvS st (f, t, m, a, ys) = { oweS (dropS (meetS st f) a) with came := (oweS (dropS (meetS st f) a)).came + 1, inn := (oweS (dropS (meetS st f) a)).inn ++ [ys] } := by
          unfold recvS
          rw [if_pos hM2, if_pos ht2, if_neg hm]
          unfold comeS
          rw [if_pos (show (oweS (dropS (meetS st f) a)).came + 1 = m by simp only [oweS]; omega)]
        rw [e0] at hii ⊢
        have hlt : d.iN = li.length ∧ li.length ≤ 1000000 := ⟨by rw [h.ab.iN, h.il.1], by rw [h.il.1]; have := h.inv.inn; omega⟩
        have hcm : ∀ s7, s7 = dropD (meetD d f) a → (0 ≤ s7.came ∧ s7.came ≤ 1000000) ∧ s7.came + 1 = m ∧ s7.iA = d.iA ∧ s7.iN = d.iN ∧ s7.iC = d.iC := by
          rintro s7 rfl
          exact ⟨⟨by omega, by omega⟩, hc, by rw [(dropD_same _ _).2.2.2.1, (meetD_same _ _).2.1], by rw [(dropD_same _ _).2.2.2.2.1, (meetD_same _ _).2.2.1], by rw [(dropD_same _ _).2.2.2.2.2.1, (meetD_same _ _).2.2.2]⟩
        have fin : ∀ {r : Ending} {w' : World}, (r = .returned (.tuple #[]) ∧ ∃ A2 c2 A3 c3, DH w' b { dropD (meetD d f) a with owes := true, came := (dropD (meetD d f) a).came + 1, iA := A3, iN := li.length + 1, iC := c3 } ∧ OwnK lstTy w' A3 c3 (li ++ [(A2, n, c2)]) ∧ OwnB w' A2 c2 ys ∧ (∀ x, A2 = some x → w.heap.size ≤ x.block) ∧ (∀ x, A3 = some x → d.iA = some x ∨ w.heap.size ≤ x.block) ∧ Chg (b :: blkOf d.iA) w w') → ∃ L', r = .returned (.tuple #[]) ∧ DocL (K + 2) w' b L' { oweS (dropS (meetS st f) a) with came := (oweS (dropS (meetS st f) a)).came + 1, inn := (oweS (dropS (meetS st f) a)).inn ++ [ys] } ∧ (∀ z ∈ L', z ∈ L ∨ w.heap.size ≤ z) ∧ Chg L w w' := by
          rintro r w' ⟨rfl, A2, c2, A3, c3, q, o1, o2, n2, n3, c⟩
          have hd : ∀ z ∈ D, z ∉ b :: blkOf d.iA := fun z hz hm => by
            rcases List.mem_cons.1 hm with e | e
            · exact h.nb (e ▸ hz)
            · obtain ⟨x, hx, e⟩ := of_blkOf e
              exact (h.fi x hx).2 (e ▸ hz)
          have far : ∀ x, (dropD (meetD d f) a).A = some x → x.block ≠ b ∧ x.block ∉ D ∧ x.block ∉ blkOf d.iA ∧ x.block ∈ L ∧ x.block < w.heap.size := fun x hx => by
            obtain ⟨y, hy, e⟩ := meetD_A x hx
            rw [← e]
            exact ⟨(h.fq y hy).1, (h.fq y hy).2, fun hm => by obtain ⟨z, hz, e⟩ := of_blkOf hm; exact apartOK h.q h.i y z hy hz e.symm, hs _ (by simp [mem_blkOf hy]), h.q.lt y hy⟩
          have oq := r2.2.1.chg c (fun x hx hm => by
            rcases List.mem_cons.1 hm with e | e
            · exact (far x hx).1 e
            · exact (far x hx).2.2.1 e)
          have l1 := (h.il.chg c hd).more (D' := blkOf A2 ++ D) (fun z hz => List.mem_append_right _ hz)
          have new : ∀ z ∈ blkOf A2, w.heap.size ≤ z := fun z hz => by
            obtain ⟨x, hx, rfl⟩ := of_blkOf hz
            exact n2 x hx
          refine ⟨b :: (blkOf (dropD (meetD d f) a).A ++ (blkOf A3 ++ (blkOf A2 ++ D))), rfl, ⟨_, lq2, _, blkOf A2 ++ D, ⟨q, ⟨r2.1.ep, r2.1.ot, r2.1.turned, r2.1.base, by simp only [oweS]; omega, rfl, r2.1.n, by simp only [oweS, drop_inn, meet_inn, List.length_append, List.length_singleton, h.il.1]⟩, oq, r2.2.2.1, fun i v x hv hx => ((r2.2.2.2 i v x hv hx).chg c hd).more (fun z hz => List.mem_append_right _ hz), o1, ⟨?_, ?_⟩, ?_, ?_, ?_, ?_, hii⟩, fun z hz => hz, ?_⟩, ?_, ?_⟩
          · simp only [oweS, drop_inn, meet_inn, List.length_append, List.length_singleton, h.il.1]
          · intro i x y hx hy
            simp only [oweS, drop_inn, meet_inn] at hy
            by_cases ei : i = li.length
            · subst ei
              rw [List.getElem?_append_right (Nat.le_refl _)] at hx
              rw [h.il.1, List.getElem?_append_right (Nat.le_refl _)] at hy
              simp at hx hy
              subst hx; subst hy
              exact ⟨by have := o2.reads; rwa [hlen] at this, fun z hz => List.mem_append_left _ (mem_blkOf hz)⟩
            · have hi2 : i < li.length + 1 := by simpa using (List.getElem?_eq_some_iff.1 hx).1
              rw [List.getElem?_append_left (by omega)] at hx
              rw [List.getElem?_append_left (by have := h.il.1; omega)] at hy
              exact l1.2 i x y hx hy
          · intro hm
            rcases List.mem_append.1 hm with e | e
            · have := new b e; omega
            · exact h.nb e
          · intro x hx
            refine ⟨(far x hx).1, fun hm => ?_⟩
            rcases List.mem_append.1 hm with e | e
            · have := new _ e
              have := (far x hx).2.2.2.2
              omega
            · exact (far x hx).2.1 e
          · intro x hx
            refine ⟨fun e => ?_, fun hm => ?_⟩
            · rcases n3 x hx with e1 | e1
              · exact (h.fi x e1).1 e
              · omega
            · rcases List.mem_append.1 hm with e | e
              · obtain ⟨y, hy, e⟩ := of_blkOf e
                exact apartBK o2 o1 y x hy hx e
              · rcases n3 x hx with e1 | e1
                · exact (h.fi x e1).2 e
                · have := h.lo _ e; omega
          · intro z hm
            rcases List.mem_append.1 hm with e | e
            · obtain ⟨y, hy, rfl⟩ := of_blkOf e
              exact o2.lt y hy
            · exact Nat.lt_of_lt_of_le (h.lo z e) c.size
          · intro z hz
            simp only [List.mem_cons, List.mem_append] at hz
            rcases hz with rfl | e | e | e | e
            · exact q.lt
            · obtain ⟨y, hy, rfl⟩ := of_blkOf e
              exact oq.lt y hy
            · obtain ⟨y, hy, rfl⟩ := of_blkOf e
              exact o1.lt y hy
            · obtain ⟨y, hy, rfl⟩ := of_blkOf e
              exact o2.lt y hy
            · exact Nat.lt_of_lt_of_le (h.lo z e) c.size
          · intro z hz
            simp only [List.mem_cons, List.mem_append] at hz
            rcases hz with rfl | e | e | e | e
            · exact .inl (hs _ (by simp))
            · obtain ⟨y, hy, rfl⟩ := of_blkOf e
              exact .inl (far y hy).2.2.2.1
            · obtain ⟨y, hy, rfl⟩ := of_blkOf e
              rcases n3 y hy with e1 | e1
              · exact .inl (hs _ (by simp [mem_blkOf e1]))
              · exact .inr e1
            · exact .inr (new z e)
            · exact .inl (hs _ (by simp [e]))
          · refine c.mono (fun z hz => .inl (hs z ?_))
            rcases List.mem_cons.1 hz with e | e
            · simp [e]
            · simp [e]
        by_cases hpf : d.ot < f
        · rcases tri (meetD d f) with g | g | g
          · exact (drecv_cometlo w b d h.h f t m a B n e hn h0 h1 h2 h3 h4 h5 h6 h7 htu hpf hbs ht hm hcm li h.i hlt (fun x hx => (h.fi x hx).1) ys hr hB (by rintro _ rfl; exact g)).mono (fun _ _ => fin)
          · exact (drecv_comethi w b d h.h f t m a B n e hn h0 h1 h2 h3 h4 h5 h6 h7 htu hpf hbs ht hm hcm li h.i hlt (fun x hx => (h.fi x hx).1) ys hr hB (by rintro _ rfl; exact g)).mono (fun _ _ => fin)
          · exact absurd g (noin hpf)
        · rcases tri (meetD d f) with g | g | g
          · exact (drecv_comeflo w b d h.h f t m a B n e hn h0 h1 h2 h3 h4 h5 h6 h7 htu hpf hbs ht hm hcm li h.i hlt (fun x hx => (h.fi x hx).1) ys hr hB (by rintro _ rfl; exact g)).mono (fun _ _ => fin)
          · exact (drecv_comefhi w b d h.h f t m a B n e hn h0 h1 h2 h3 h4 h5 h6 h7 htu hpf hbs ht hm hcm li h.i hlt (fun x hx => (h.fi x hx).1) ys hr hB (by rintro _ rfl; exact g)).mono (fun _ _ => fin)
          · exact (drecv_comefin w b d h.h f t m a B n e hn h0 h1 h2 h3 h4 h5 h6 h7 htu hpf hbs ht hm hcm li h.i hlt (fun x hx => (h.fi x hx).1) ys hr hB (by rintro _ rfl; exact g)).mono (fun _ _ => fin)
      · have e0 : recvS st (f, t, m, a, ys) = oweS (dropS (meetS st f) a) := by
          unfold recvS
          rw [if_pos hM2, if_pos ht2, if_neg hm]
          unfold comeS
          rw [if_neg (show ¬ (oweS (dropS (meetS st f) a)).came + 1 = m by simp only [oweS]; omega)]
        rw [e0] at hii ⊢
        have hcm : ∀ s7, s7 = dropD (meetD d f) a → (0 ≤ s7.came ∧ s7.came ≤ 1000000) ∧ ¬ s7.came + 1 = m := by
          rintro s7 rfl
          exact ⟨⟨by omega, by omega⟩, hc⟩
        have r3 : RelD w D { dropD (meetD d f) a with owes := true } lq2 (oweS (dropS (meetS st f) a)) := ⟨⟨r2.1.ep, r2.1.ot, r2.1.turned, r2.1.base, r2.1.came, rfl, r2.1.n, r2.1.iN⟩, r2.2⟩
        have fin : ∀ {r : Ending} {w' : World}, (r = .returned (.tuple #[]) ∧ DH w' b { dropD (meetD d f) a with owes := true } ∧ Chg [b] w w') → ∃ L', r = .returned (.tuple #[]) ∧ DocL (K + 2) w' b L' (oweS (dropS (meetS st f) a)) ∧ (∀ z ∈ L', z ∈ L ∨ w.heap.size ≤ z) ∧ Chg L w w' := by
          rintro r w' ⟨rfl, q, c⟩
          exact one q r3 c hii (by simp only [oweS, drop_inn, meet_inn]) (by simp only [(dropD_same _ _).2.2.2.1, (meetD_same _ _).2.1]) (by simp only [(dropD_same _ _).2.2.2.2.2.1, (meetD_same _ _).2.2.2]) meetD_A
        by_cases hpf : d.ot < f
        · rcases tri (meetD d f) with g | g | g
          · exact (drecv_oldtlo w b d h.h f t m a B n e hn h0 h1 h2 h3 h4 h5 h6 h7 htu hpf hbs ht hm hcm (by rintro _ rfl; exact g)).mono (fun _ _ => fin)
          · exact (drecv_oldthi w b d h.h f t m a B n e hn h0 h1 h2 h3 h4 h5 h6 h7 htu hpf hbs ht hm hcm (by rintro _ rfl; exact g)).mono (fun _ _ => fin)
          · exact absurd g (noin hpf)
        · rcases tri (meetD d f) with g | g | g
          · exact (drecv_oldflo w b d h.h f t m a B n e hn h0 h1 h2 h3 h4 h5 h6 h7 htu hpf hbs ht hm hcm (by rintro _ rfl; exact g)).mono (fun _ _ => fin)
          · exact (drecv_oldfhi w b d h.h f t m a B n e hn h0 h1 h2 h3 h4 h5 h6 h7 htu hpf hbs ht hm hcm (by rintro _ rfl; exact g)).mono (fun _ _ => fin)
          · exact (drecv_oldfin w b d h.h f t m a B n e hn h0 h1 h2 h3 h4 h5 h6 h7 htu hpf hbs ht hm hcm (by rintro _ rfl; exact g)).mono (fun _ _ => fin)
  · have ht2 : ¬ t = st.ep := by rw [← h.ab.ep]; exact ht
    have e0 : recvS st (f, t, m, a, ys) = oweS (meetS st f) := by unfold recvS; rw [if_pos hM2, if_neg ht2]
    rw [e0] at hii ⊢
    have r3 : RelD w D { meetD d f with owes := true } lq1 (oweS (meetS st f)) := ⟨⟨r1.1.ep, r1.1.ot, r1.1.turned, r1.1.base, r1.1.came, rfl, r1.1.n, r1.1.iN⟩, r1.2⟩
    have fin : ∀ {r : Ending} {w' : World}, (r = .returned (.tuple #[]) ∧ DH w' b { meetD d f with owes := true } ∧ Chg [b] w w') → ∃ L', r = .returned (.tuple #[]) ∧ DocL (K + 2) w' b L' (oweS (meetS st f)) ∧ (∀ z ∈ L', z ∈ L ∨ w.heap.size ≤ z) ∧ Chg L w w' := by
      rintro r w' ⟨rfl, q, c⟩
      exact one q r3 c hii (by simp only [oweS, meet_inn]) (by simp only [(meetD_same _ _).2.1]) (by simp only [(meetD_same _ _).2.2.2]) meetD_A0
    by_cases hpf : d.ot < f
    · exact (drecv_owet w b d h.h f t m a B n e hn h0 h1 h2 h3 h4 h5 h6 h7 htu hpf hbs ht).mono (fun _ _ => fin)
    · exact (drecv_owef w b d h.h f t m a B n e hn h0 h1 h2 h3 h4 h5 h6 h7 htu hpf hbs ht).mono (fun _ _ => fin)
end
end Go.Proofs.Ytmblalcigbghfaa
