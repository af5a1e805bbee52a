/- Two sessions among other memory: one hands to the other. SessionTurns: what the two ends come to (pure). -/
import Derived.Test.YtmblalcigbghfaaSoa
import Derived.Test.YtmblalcigbghfaaSom
namespace Go.Proofs.Ytmblalcigbghfaa
section
open Go.RowKit Go.Lib
set_option linter.unusedSimpArgs false
set_option linter.unusedVariables false

/-- Two sessions of the program, whose own blocks lie in X or behind w0; nothing else has turned since w0. -/
def Duo (X : List Nat) (w0 w : World) (a b K : Nat) (sa sb : SesT) : Prop := ∃ A D A' D', SesL K w a A D sa ∧ SesL K w b A' D' sb ∧ (∀ z ∈ a :: blkOf A, (z ∈ X ∨ w0.heap.size ≤ z) ∧ z ∉ b :: (blkOf A' ++ D')) ∧ (∀ z ∈ b :: blkOf A', (z ∈ X ∨ w0.heap.size ≤ z) ∧ z ∉ D) ∧ Chg X w0 w
theorem Duo.swap {X : List Nat} {w0 w : World} {a b K : Nat} {sa sb : SesT} (h : Duo X w0 w a b K sa sb) : Duo X w0 w b a K sb sa := by
  obtain ⟨A, D, A', D', h1, h2, h3, h4, h5⟩ := h
  refine ⟨A', D', A, D, h2, h1, fun z hz => ⟨(h4 z hz).1, fun hm => ?_⟩, fun z hz => ⟨(h3 z hz).1, fun hm => (h3 z hz).2 (by simp [hm])⟩, h5⟩
  simp only [List.mem_cons, List.mem_append] at hm
  have k : z ∈ b :: (blkOf A' ++ D') := by simp at hz ⊢; rcases hz with q | q <;> simp [q]
  rcases hm with e | e | e
  · exact (h3 z (by simp [e])).2 k
  · exact (h3 z (by simp [e])).2 k
  · exact (h4 z hz).2 e
theorem Duo.more {X : List Nat} {w0 w : World} {a b K L : Nat} {sa sb : SesT} (h : Duo X w0 w a b K sa sb) (hl : K ≤ L) : Duo X w0 w a b L sa sb := by
  obtain ⟨A, D, A', D', h1, h2, h3, h4, h5⟩ := h
  exact ⟨A, D, A', D', h1.more hl, h2.more hl, h3, h4, h5⟩
theorem Duo.chg {X : List Nat} {w0 w w' : World} {a b K : Nat} {sa sb : SesT} (h : Duo X w0 w a b K sa sb) (hc : Chg [] w w') : Duo X w0 w' a b K sa sb := by
  obtain ⟨A, D, A', D', h1, h2, h3, h4, h5⟩ := h
  exact ⟨A, D, A', D', h1.chg hc (by simp) (by simp) (by simp), h2.chg hc (by simp) (by simp) (by simp), h3, h4, h5.trans' hc (by simp)⟩
theorem Duo.on {X : List Nat} {w0 w : World} {a b K : Nat} {sa sb : SesT} (h : Duo X w0 w a b K sa sb) : Chg X w0 w := by
  obtain ⟨A, D, A', D', h1, h2, h3, h4, h5⟩ := h
  exact h5
theorem Duo.inv {X : List Nat} {w0 w : World} {a b K : Nat} {sa sb : SesT} (h : Duo X w0 w a b K sa sb) : InvS K sa ∧ InvS K sb := by
  obtain ⟨A, D, A', D', h1, h2, h3, h4, h5⟩ := h
  exact ⟨h1.inv, h2.inv⟩
theorem Duo.peer {X : List Nat} {w0 w : World} {a b K : Nat} {sa sb : SesT} (h : Duo X w0 w a b K sa sb) : Calls Try.prog 29 #[.pointer (some ⟨a, 0, none⟩)] w fun e w' => e = .returned (.int .i64 sa.peer) ∧ w' = w := by
  obtain ⟨A, D, A', D', h1, _⟩ := h
  exact peerL h1
theorem Duo.turns {X : List Nat} {w0 w : World} {a b K : Nat} {sa sb : SesT} (h : Duo X w0 w a b K sa sb) : Calls Try.prog 24 #[.pointer (some ⟨a, 0, none⟩)] w fun e w' => e = .returned (.int .i64 sa.turned) ∧ w' = w := by
  obtain ⟨A, D, A', D', h1, _⟩ := h
  exact turnsL h1
theorem Duo.waiting {X : List Nat} {w0 w : World} {a b K : Nat} {sa sb : SesT} (h : Duo X w0 w a b K sa sb) : Calls Try.prog 27 #[.pointer (some ⟨a, 0, none⟩)] w fun e w' => e = .returned (.int .i64 sa.q.length) ∧ w' = w := by
  obtain ⟨A, D, A', D', h1, _⟩ := h
  exact waitingL h1
theorem Duo.tick {X : List Nat} {w0 w : World} {a b K : Nat} {sa sb : SesT} (h : Duo X w0 w a b K sa sb) (hK : K ≤ 1000000) : Calls Try.prog 25 #[.pointer (some ⟨a, 0, none⟩)] w fun e w' => e = .returned (.tuple #[]) ∧ Duo X w0 w' a b (K + 1) (tickS sa) sb := by
  obtain ⟨A, D, A', D', h1, h2, h3, h4, h5⟩ := h
  refine (tickL h1 hK).mono ?_
  rintro e w' ⟨rfl, hs, hc⟩
  exact ⟨rfl, A, D, A', D', hs, (h2.off hc (fun z hz hm => by simp at hm; subst hm; exact (h3 z (by simp)).2 hz)).more (by omega), h3, h4, h5.trans' hc (fun z hz => (h3 z (by simp at hz; simp [hz])).1)⟩
/-- What was taken: a row of rows, all new to none. -/
theorem Duo.take {X : List Nat} {w0 w : World} {a b K : Nat} {sa sb : SesT} (h : Duo X w0 w a b K sa sb) : Calls Try.prog 16 #[.pointer (some ⟨a, 0, none⟩)] w fun e w' => ∃ A c lt D, e = .returned (.slice A sa.inn.length c) ∧ OwnK lstTy w' A c lt ∧ ListP w' D lt sa.inn ∧ (∀ y, A = some y → y.block ∈ X ∨ w0.heap.size ≤ y.block) ∧ Duo X w0 w' a b K (takeS sa) sb ∧ Chg [a] w w' := by
  obtain ⟨A, D, A', D', h1, h2, h3, h4, h5⟩ := h
  refine (takeL h1).mono ?_
  rintro e w' ⟨c, lt, rfl, ho, hp, hs, hc⟩
  exact ⟨A, c, lt, D, rfl, ho, hp, fun y hy => (h3 y.block (by simp [mem_blkOf hy])).1, ⟨none, D, A', D', hs, h2.off hc (fun z hz hm => by simp at hm; subst hm; exact (h3 z (by simp)).2 hz), fun z hz => h3 z (by simp [blkOf] at hz; simp [hz]), h4, h5.trans' hc (fun z hz => (h3 z (by simp at hz; simp [hz])).1)⟩, hc⟩
theorem Duo.recv {X : List Nat} {w0 w : World} {a b K : Nat} {sa sb : SesT} (h : Duo X w0 w a b K sa sb) (hK : K ≤ 900000) (f t m k : Int) (B : Option Addr) (n d : Nat) (ys : List UInt8) (hr : Bs w B n ys) (hn : n ≤ 140737488351232) (hB : ∀ x, B = some x → x.block ≠ a) :
    Calls Try.prog 28 #[.pointer (some ⟨a, 0, none⟩), .agg #[.int .i64 f, .int .i64 t, .int .i64 m, .int .i64 k, .slice B n d]] w fun e w' => e = .returned (.tuple #[]) ∧ Duo X w0 w' a b (K + 2) (recvS sa (f, t, m, k, ys)) sb := by
  obtain ⟨A, D, A', D', h1, h2, h3, h4, h5⟩ := h
  refine (recvL h1 hK f t m k B n d ys hr hn hB).mono ?_
  rintro e w' ⟨A2, D2, rfl, hs, hA, hD, hc⟩
  have nA : ∀ z ∈ a :: blkOf A2, z ∈ a :: blkOf A ∨ w.heap.size ≤ z := fun z hz => by
    rcases List.mem_cons.1 hz with e | e
    · exact .inl (by simp [e])
    · obtain ⟨y, hy, rfl⟩ := of_blkOf e
      rcases hA y hy with e | e
      · exact .inl (by simp [mem_blkOf e])
      · exact .inr e
  have sz := h5.size
  refine ⟨rfl, A2, D2, A', D', hs, (h2.off hc (fun z hz hm => (h3 z hm).2 hz)).more (by omega), fun z hz => ?_, fun z hz => ⟨(h4 z hz).1, fun hm => ?_⟩, h5.trans' hc (fun z hz => (h3 z hz).1)⟩
  · rcases nA z hz with e | e
    · exact h3 z e
    · exact ⟨.inr (by omega), fun hm => by have := h2.lts z hm; omega⟩
  · rcases hD z hm with e | e
    · exact (h4 z hz).2 e
    · have := h2.lts z (by simp at hz ⊢; rcases hz with q | q <;> simp [q])
      omega
theorem Duo.send {X : List Nat} {w0 w : World} {a b K : Nat} {sa sb : SesT} (h : Duo X w0 w a b K sa sb) (B : Option Addr) (n c : Nat) (ys : List UInt8) (hr : Bs w B n ys) (hn : n ≤ 140737488351232) : Calls Try.prog 30 #[.pointer (some ⟨a, 0, none⟩), .slice B n c] w fun e w' => e = .returned (.int .i64 (sendE sa ys)) ∧ Duo X w0 w' a b (K + 1) (sendS sa ys) sb := by
  obtain ⟨A, D, A', D', h1, h2, h3, h4, h5⟩ := h
  refine (sendL h1 B n c ys hr hn).mono ?_
  rintro e w' ⟨D2, rfl, hs, hD, hc⟩
  refine ⟨rfl, A, D2, A', D', hs, (h2.off hc (fun z hz hm => by simp at hm; subst hm; exact (h3 z (by simp)).2 hz)).more (by omega), h3, fun z hz => ⟨(h4 z hz).1, fun hm => ?_⟩, h5.trans' hc (fun z hz => (h3 z (by simp at hz; simp [hz])).1)⟩
  rcases hD z hm with e | e
  · exact (h4 z hz).2 e
  · have := h2.lts z (by simp at hz ⊢; rcases hz with q | q <;> simp [q])
    omega
set_option maxHeartbeats 8000000 in
set_option maxRecDepth 100000 in
theorem hands_duo (X : List Nat) (w0 w : World) (a b K : Nat) (sa sb : SesT) (h : Duo X w0 w a b K sa sb) (hK : K ≤ 500000) :
    Calls Try.prog 26 #[.pointer (some ⟨a, 0, none⟩), .pointer (some ⟨b, 0, none⟩), .bool false] w fun e w' => e = .returned (.tuple #[]) ∧ Duo X w0 w' a b (K + 20) (outS sa) ((outL sa).foldl recvS sb) := by
  obtain ⟨A, D, A', D', h1, h2, h3, h3', h4⟩ := h
  have HS := Lib.hid h1
  have HT := Lib.hid h2
  have SP := Lib.hid h3
  have SQ' := Lib.hid h3'
  have C0 := Lib.hid h4
  have HK := Lib.hid hK
  have LL := Lib.hid (outL_len h1.inv)
  have LA := Lib.hid h1.lts
  have SAI := Lib.hid h1.inv
  have LB := Lib.hid h2.lts
  clear h1 h2 h3 h3' h4 hK
  go_enter Try.func26, Try.ntmps26
  go_wp2_with fail
  refine (outLL HS.out (by have := HK.out; omega)).mono ?_
  rintro r w1 ⟨B, c, l, rfl, o1, n1, p1, hs, hC⟩
  have O1 := Lib.hid o1
  have P1 := Lib.hid p1
  have N1 := Lib.hid n1
  have OS := Lib.hid hC.size
  have IN : Hid (∀ (i : Nat) (x : PakV) (y : Addr), l[i]? = some x → x.2.2.2.2.1 = some y → w.heap.size ≤ y.block ∧ y.block < w1.heap.size) := Lib.hid (fun i x y hx hy => p1.lt hx hy)
  have INB : Hid (∀ y, B = some y → w.heap.size ≤ y.block ∧ y.block < w1.heap.size) := Lib.hid (fun y hy => ⟨n1 y hy, o1.lt y hy⟩)
  have EL := Lib.hid p1.len
  replace HS := Lib.hid hs
  replace HT := Lib.hid (HT.out.off hC (fun z hz hm => by simp at hm; subst hm; exact (SP.out z (by simp)).2 hz))
  replace C0 := Lib.hid (C0.out.trans' hC (fun z hz => (SP.out z (by simp at hz; simp [hz])).1))
  clear hs hC o1 p1 n1
  go_wp2_with fail
  go_loopw [7] (fun v wr => ∃ i : Nat, i ≤ l.length ∧ v = .int .i64 (i : Int) ∧ Hid (∃ Ai Di, SesL (K + 1) wr a A D (outS sa) ∧ SesL (K + 2 * i) wr b Ai Di (((outL sa).take i).foldl recvS sb) ∧ (∀ z ∈ a :: blkOf A, (z ∈ X ∨ w0.heap.size ≤ z) ∧ z ∉ b :: (blkOf Ai ++ Di)) ∧ (∀ z ∈ b :: blkOf Ai, (z ∈ X ∨ w0.heap.size ≤ z) ∧ z ∉ D) ∧ (∀ z ∈ b :: (blkOf Ai ++ Di), z < w.heap.size ∨ w1.heap.size ≤ z) ∧ Chg X w0 wr ∧ OwnK pakTy wr B c l ∧ PaksP wr w.heap.size l (outL sa) ∧ w1.heap.size ≤ wr.heap.size)) (fun v _ => l.length - (RowKit.intOf v).toNat)
  case atStart => exact ⟨0, Nat.zero_le _, rfl, A', D', HS.out, HT.out, SP.out, SQ'.out, fun z hz => .inl (LB.out z hz), C0.out, O1.out, P1.out, Nat.le_refl _⟩
  case round =>
    obtain ⟨i, hi, rfl, HR⟩ := hrel
    obtain ⟨Ai, Di, hs, ht, hsp, hsq, hin, hc0, ho, hp, hw1⟩ := HR.out
    have i0 : (0 : Int) ≤ (i : Int) := by omega
    have i1 : IntKind.i64.wrap ((i : Int) + 1) = (i : Int) + 1 := IntWalk.i64_in _ (by have := LL.out; have := EL.out; omega)
    have HS2 := Lib.hid hs
    have HT2 := Lib.hid ht
    have SP2 := Lib.hid hsp
    have SQ2 := Lib.hid hsq
    have HIN := Lib.hid hin
    have CW := Lib.hid hc0
    have O2 := Lib.hid ho
    have P2 := Lib.hid hp
    have W1 := Lib.hid hw1
    clear hs ht hsp hsq hin hc0 ho hp hw1 HR HS HT O1 P1
    by_cases hlt : i < l.length
    · have i2 : (i : Int) < (l.length : Int) := by omega
      obtain ⟨x, hx⟩ : ∃ x, l[i]? = some x := ⟨_, List.getElem?_eq_getElem hlt⟩
      obtain ⟨p, hpp⟩ : ∃ p, (outL sa)[i]? = some p := ⟨_, List.getElem?_eq_getElem (by have := EL.out; omega)⟩
      obtain ⟨e1, e2, e3, e4, e5, ob, _⟩ := P2.out.at_ i x p hx hpp
      have rd := O2.out.reads
      obtain ⟨gB, oB, eB, _⟩ := rd.line (by omega)
      rw [eB] at rd
      obtain ⟨q0, q1, q2, q3, q4⟩ := pakCells rd hx
      have xin := IN.out i x
      obtain ⟨x1, x2, x3, x4, xA, xn, xd⟩ := x
      obtain ⟨p1, p2, p3, p4, pb⟩ := p
      dsimp only at e1 e2 e3 e4 e5 ob q0 q1 q2 q3 q4 xin
      subst e1; subst e2; subst e3; subst e4
      have HPP := Lib.hid hpp
      have RB : Hid (Bs wr xA xn pb) := Lib.hid (by rw [e5]; exact ob.reads)
      have XN : Hid (∀ y, xA = some y → y.block ≠ b) := Lib.hid (fun y hy e => by have := (xin y hx hy).1; have := LB.out b (by simp); omega)
      have XL : Hid (xn ≤ 140737488351232) := Lib.hid (by
        have hm := List.mem_of_getElem? hpp
        have : pb.length ≤ 400 := outL_small SAI.out hm
        omega)
      clear hx hpp ob rd e5 xin
      subst eB
      go_wp2_with fail
      refine (recvL HT2.out (by have := HK.out; have := LL.out; have := EL.out; omega) x1 x2 x3 x4 xA xn xd pb RB.out XL.out XN.out).mono ?_
      rintro r w5 ⟨A5, D5, rfl, ht, hA, hD, hC⟩
      have sub : ∀ z ∈ b :: blkOf Ai, z ∈ b :: (blkOf Ai ++ Di) := fun z hz => by simp at hz ⊢; rcases hz with h | h <;> simp [h]
      have T5 := Lib.hid ht
      have S5 := Lib.hid (HS2.out.off hC (fun z hz hm => by
        simp only [List.mem_cons, List.mem_append] at hz
        rcases hz with e | e | e
        · exact (SP2.out z (by simp [e])).2 (sub z hm)
        · exact (SP2.out z (by simp [e])).2 (sub z hm)
        · exact (SQ2.out z hm).2 e))
      have L5 : ∀ z ∈ b :: (blkOf A5 ++ D5), z ∈ b :: (blkOf Ai ++ Di) ∨ wr.heap.size ≤ z := fun z hz => by
        simp only [List.mem_cons, List.mem_append] at hz
        rcases hz with e | e | e
        · exact .inl (by simp [e])
        · obtain ⟨y, hy, rfl⟩ := of_blkOf e
          rcases hA y hy with e | e
          · exact .inl (by simp [mem_blkOf e])
          · exact .inr e
        · rcases hD z e with e | e
          · exact .inl (by simp [e])
          · exact .inr e
      have SP5 : Hid (∀ z ∈ a :: blkOf A, (z ∈ X ∨ w0.heap.size ≤ z) ∧ z ∉ b :: (blkOf A5 ++ D5)) := Lib.hid (fun z hz => ⟨(SP2.out z hz).1, fun hm => by
        rcases L5 z hm with e | e
        · exact (SP2.out z hz).2 e
        · have := HS2.out.lts z (by simp at hz ⊢; rcases hz with q | q <;> simp [q]); omega⟩)
      have SQ5 : Hid (∀ z ∈ b :: blkOf A5, (z ∈ X ∨ w0.heap.size ≤ z) ∧ z ∉ D) := Lib.hid (fun z hz => by
        have old : z ∈ b :: blkOf Ai ∨ wr.heap.size ≤ z := by
          rcases List.mem_cons.1 hz with e | e
          · exact .inl (by simp [e])
          · obtain ⟨y, hy, rfl⟩ := of_blkOf e
            rcases hA y hy with e | e
            · exact .inl (by simp [mem_blkOf e])
            · exact .inr e
        rcases old with e | e
        · exact SQ2.out z e
        · exact ⟨.inr (by have := CW.out.size; omega), fun hm => by have := HS2.out.lts z (by simp [hm]); omega⟩)
      have IN5 : Hid (∀ z ∈ b :: (blkOf A5 ++ D5), z < w.heap.size ∨ w1.heap.size ≤ z) := Lib.hid (fun z hz => by
        rcases L5 z hz with e | e
        · exact HIN.out z e
        · exact .inr (Nat.le_trans W1.out e))
      have CW5 := Lib.hid (CW.out.trans' hC (fun z hz => (SQ2.out z hz).1))
      have O5 := Lib.hid (O2.out.chg hC (fun y hy hm => by have := INB.out y hy; have := HIN.out _ (sub _ hm); omega))
      have P5 := Lib.hid (P2.out.chg hC (fun j y u hy hu hm => by have := IN.out j y u hy hu; have := HIN.out _ (sub _ hm); omega))
      have W5 := Lib.hid (Nat.le_trans W1.out hC.size)
      have FE : Hid (((outL sa).take (i + 1)).foldl recvS sb = recvS (((outL sa).take i).foldl recvS sb) (x1, x2, x3, x4, pb)) := Lib.hid (fold_snoc sb _ i _ HPP.out)
      clear ht hA hD hC sub L5 q0 q1 q2 q3 q4
      go_wp2
      go_round
      case measure => simp [RowKit.intOf]; omega
      exact ⟨i + 1, by omega, by go_num, A5, D5, S5.out, by rw [FE.out]; exact T5.out, SP5.out, SQ5.out, IN5.out, CW5.out, O5.out, P5.out, W5.out⟩
    · obtain rfl : i = l.length := by omega
      have i2 : ¬ (l.length : Int) < (l.length : Int) := by omega
      have FI : Hid (Duo X w0 wr a b (K + 20) (outS sa) ((outL sa).foldl recvS sb)) := Lib.hid ⟨A, D, Ai, Di, HS2.out.more (by omega), by
        have := HT2.out
        rw [EL.out, List.take_length] at this
        exact this.more (by have := LL.out; have := EL.out; omega), SP2.out, SQ2.out, CW.out⟩
      go_wp2
      go_end0
      exact ⟨rfl, FI.out⟩
end
section
set_option linter.unusedSimpArgs false
set_option linter.unusedVariables false
/-- The new end, before it heard from the other one, or behind that. -/
def zMet : SesT := ⟨9, 4, [], 1, 0, [], true, 1⟩
def ZOk (st : SesT) : Prop := st = newS 9 ∨ st = zMet
def zEnd : SesT := ⟨9, 4, [], 1, 0, [], false, 1⟩
def yEnd : SesT := ⟨4, 9, [], 1, 0, [], false, 2⟩
theorem zok_recv {st : SesT} (h : ZOk st) {p : PakT} (e1 : p.1 = 4) (e2 : p.2.1 = 3) : ZOk (recvS st p) := by
  unfold recvS
  split
  · rcases h with rfl | rfl
    · rw [if_neg (by simp only [newS]; omega), e1]
      have e : meetS (newS 9) 4 = turnS (newS 9) 4 := if_pos (by decide)
      rw [e]
      exact .inr rfl
    · rw [if_neg (by simp only [zMet]; omega), e1]
      have e : meetS zMet 4 = zMet := if_neg (by decide)
      rw [e]
      exact .inr rfl
  · exact h
theorem yend_recv {p : PakT} (e : p.1 = 3) : recvS yEnd p = yEnd := by
  unfold recvS
  rw [if_neg]
  intro h
  have := h.1
  simp only [yEnd] at this
  omega
theorem recv_yes {r : SesT} {p : PakT} (hm : Minds r p) (ht : p.2.1 = r.ep) : recvS r p = if p.2.2.1 = 0 then dropS (meetS r p.1) p.2.2.2.1 else comeS (oweS (dropS (meetS r p.1) p.2.2.2.1)) p.2.2.1 p.2.2.2.2 := by
  unfold recvS
  rw [if_pos hm, if_pos ht]
theorem recv_oth {r : SesT} {p : PakT} (hm : Minds r p) (ht : ¬ p.2.1 = r.ep) : recvS r p = oweS (meetS r p.1) := by
  unfold recvS
  rw [if_pos hm, if_neg ht]
theorem meet_yes {r : SesT} {f : Int} (h : r.peer < f) : meetS r f = turnS r f := if_pos h
theorem meet_no {r : SesT} {f : Int} (h : ¬ r.peer < f) : meetS r f = r := if_neg h
theorem minds_num {r : SesT} {f t n : Int} {b : List UInt8} (h1 : r.peer ≤ f) (h2 : 1 ≤ f ∧ f ≤ 9) (h3 : 0 ≤ t) (h4 : 0 ≤ n ∧ n ≤ 9) (h5 : b.length ≤ 400) : Minds r (f, t, n, 0, b) := by
  refine ⟨h1, h2.1, ?_, h3, h4.1, ?_, ?_, h5⟩ <;> simp only <;> omega
theorem y_turned {s : SesT} (h1 : s.ep = 4) (h2 : s.peer = 3) (h3 : s.inn = []) (h4 : s.turned = 1) (t : Int) (ht : t = 0 ∨ t = 4) : recvS s (9, t, 0, 0, []) = { yEnd with owes := true } := by
  obtain ⟨ep, peer, q, base, came, inn, owes, turned⟩ := s
  dsimp only at h1 h2 h3 h4
  subst h1; subst h2; subst h3; subst h4
  have hm : Minds ⟨4, 3, q, base, came, [], owes, 1⟩ (9, t, 0, 0, []) := minds_num (by show (3 : Int) ≤ 9; decide) (by decide) (by omega) (by decide) (by simp)
  have e : meetS ⟨4, 3, q, base, came, [], owes, 1⟩ 9 = { yEnd with owes := true } := (meet_yes (by show (3 : Int) < 9; decide)).trans rfl
  rcases ht with rfl | rfl
  · rw [recv_oth hm (by show ¬ (0 : Int) = 4; decide), show ((9, 0, 0, 0, []) : PakT).1 = 9 from rfl, e]; rfl
  · rw [recv_yes hm rfl, show ((9, 4, 0, 0, []) : PakT).1 = 9 from rfl, e]; rfl
theorem z_turned : recvS { newS 9 with owes := false } (4, 9, 0, 0, []) = zMet ∧ recvS { zMet with owes := false } (4, 9, 0, 0, []) = zEnd ∧ recvS zEnd (4, 9, 0, 0, []) = zEnd := by
  have hm : ∀ (s : SesT), s.peer ≤ 4 → Minds s (4, 9, 0, 0, []) := fun s h => minds_num h (by decide) (by decide) (by decide) (by simp)
  refine ⟨?_, ?_, ?_⟩
  · rw [recv_yes (hm _ (by decide)) rfl, show ((4, 9, 0, 0, []) : PakT).1 = 4 from rfl, meet_yes (by decide)]; rfl
  · rw [recv_yes (hm _ (by decide)) rfl, show ((4, 9, 0, 0, []) : PakT).1 = 4 from rfl, meet_no (by decide)]; rfl
  · rw [recv_yes (hm _ (by decide)) rfl, show ((4, 9, 0, 0, []) : PakT).1 = 4 from rfl, meet_no (by decide)]; rfl
theorem y_stays : recvS yEnd (9, 4, 0, 0, []) = yEnd := by
  rw [recv_yes (r := yEnd) (p := (9, 4, 0, 0, [])) (minds_num (by decide) (by decide) (by decide) (by decide) (by simp)) rfl, show ((9, 4, 0, 0, []) : PakT).1 = 9 from rfl, meet_no (by decide)]; rfl
theorem turns_end {st s : SesT} (h : ZOk st) (h1 : s.ep = 4) (h2 : s.peer = 3) (h3 : s.inn = []) (h4 : s.turned = 1) : rnN 2 (st, s) = (zEnd, yEnd) := by
  have r1 : rn (st, s) = (zMet, yEnd) ∨ rn (st, s) = (zEnd, yEnd) := by
    rcases h with rfl | rfl
    · left
      have o : outL (newS 9) = [(9, 0, 0, 0, [])] := rfl
      simp only [rn, o, List.foldl_cons, List.foldl_nil, y_turned h1 h2 h3 h4 0 (.inl rfl)]
      have o2 : outL { yEnd with owes := true } = [(4, 9, 0, 0, [])] := rfl
      rw [o2]
      simp only [List.foldl_cons, List.foldl_nil]
      exact Prod.ext z_turned.1 rfl
    · right
      have o : outL zMet = [(9, 4, 0, 0, [])] := rfl
      simp only [rn, o, List.foldl_cons, List.foldl_nil, y_turned h1 h2 h3 h4 4 (.inr rfl)]
      have o2 : outL { yEnd with owes := true } = [(4, 9, 0, 0, [])] := rfl
      rw [o2]
      simp only [List.foldl_cons, List.foldl_nil]
      exact Prod.ext z_turned.2.1 rfl
  have r2 : rn (zMet, yEnd) = (zEnd, yEnd) := by
    have o : outL zMet = [(9, 4, 0, 0, [])] := rfl
    simp only [rn, o, List.foldl_cons, List.foldl_nil, y_stays]
    rfl
  have r3 : rn (zEnd, yEnd) = (zEnd, yEnd) := rfl
  show rn (rn (st, s)) = _
  rcases r1 with e | e
  · rw [e, r2]
  · rw [e, r3]
theorem zend_send {b : List UInt8} (h : b.length ≤ 400) : sendE zEnd b = 0 ∧ sendS zEnd b = { zEnd with q := [(b, -1)] } := by
  unfold sendE sendS
  exact ⟨by rw [if_neg (by omega), if_neg (by decide), if_neg (by decide)], by rw [if_neg]; rfl; rintro (q | q | q); omega; exact absurd q (by decide); exact absurd q (by decide)⟩
theorem zend_out {b : List UInt8} : outL { zEnd with q := [(b, -1)] } = [(9, 4, 1, 0, b)] := by simp [outL, outQ, due, zEnd]
theorem zend_recv {b : List UInt8} (h : b.length ≤ 400) : [((9, 4, 1, 0, b) : PakT)].foldl recvS yEnd = { yEnd with came := 1, inn := [b], owes := true } := by
  simp only [List.foldl_cons, List.foldl_nil]
  rw [recv_yes (r := yEnd) (p := (9, 4, 1, 0, b)) (minds_num (by decide) (by decide) (by decide) (by decide) h) rfl, show ((9, 4, 1, 0, b) : PakT).1 = 9 from rfl, meet_no (by decide)]; rfl
end
end Go.Proofs.Ytmblalcigbghfaa
