/- Within the law's world: one end ticks. Within the law's world: one end's packets are handed to the other one. Within the law's world: one end's packets are handed to the other one. -/
import Derived.Test.YtmblalcigbghfaaSob
import Derived.Test.YtmblalcigbghfaaSoa
namespace Go.Proofs.Ytmblalcigbghfaa
section
open Go.RowKit Go.Lib
set_option linter.unusedSimpArgs false
set_option linter.unusedVariables false
theorem tick_wl_a (w0 w : World) (g a b K : Nat) (wo : WoT) (hW : WL w0.heap.size w g a b K wo) (hc0 : Chg [] w0 w) (hK : K ≤ 400000) :
    Calls Try.prog 25 #[.pointer (some ⟨a, 0, none⟩)] w fun r w' => r = .returned (.tuple #[]) ∧ WL w0.heap.size w' g a b (K + 1) { wo with sa := tickS wo.sa } ∧ Chg [] w0 w' := by
  obtain ⟨Ar, cr, lr, P0, c0, l0, P1, c1, l1, Q0, d0, m0, Q1, d1, m1, Aa, Da, Ab, Db, F, h⟩ := hW
  refine (tickL h.sa (by omega)).mono ?_
  rintro r w2 ⟨rfl, hs, hC⟩
  exact ⟨rfl, ⟨_, _, _, _, _, _, _, _, _, _, _, _, _, _, _, _, _, _, _, _, h.sesa hC (fun z hz => by simp at hz; simp [hz]) [] (by omega) Aa Da _ hs (fun z hz => .inl hz) (by simp) (fun z hz => .inl hz) (fun z hz => Nat.lt_of_lt_of_le (h.lo (a :: blkOf Aa) (by simp) z hz).2 hC.size) (by simp) hc0.size⟩, hc0.on hC (fun z hz => (h.lo (a :: blkOf Aa) (by simp) z (by simp at hz; simp [hz])).1)⟩
theorem tick_wl_b (w0 w : World) (g a b K : Nat) (wo : WoT) (hW : WL w0.heap.size w g a b K wo) (hc0 : Chg [] w0 w) (hK : K ≤ 400000) :
    Calls Try.prog 25 #[.pointer (some ⟨b, 0, none⟩)] w fun r w' => r = .returned (.tuple #[]) ∧ WL w0.heap.size w' g a b (K + 1) { wo with sb := tickS wo.sb } ∧ Chg [] w0 w' := by
  obtain ⟨Ar, cr, lr, P0, c0, l0, P1, c1, l1, Q0, d0, m0, Q1, d1, m1, Aa, Da, Ab, Db, F, h⟩ := hW
  refine (tickL h.sb (by omega)).mono ?_
  rintro r w2 ⟨rfl, hs, hC⟩
  exact ⟨rfl, ⟨_, _, _, _, _, _, _, _, _, _, _, _, _, _, _, _, _, _, _, _, h.sesb hC (fun z hz => by simp at hz; simp [hz]) [] (by omega) Ab Db _ hs (fun z hz => .inl hz) (by simp) (fun z hz => .inl hz) (fun z hz => Nat.lt_of_lt_of_le (h.lo (b :: blkOf Ab) (by simp) z hz).2 hC.size) (by simp) hc0.size⟩, hc0.on hC (fun z hz => (h.lo (b :: blkOf Ab) (by simp) z (by simp at hz; simp [hz])).1)⟩
end
section
open Go.RowKit Go.Lib
set_option linter.unusedSimpArgs false
set_option linter.unusedVariables false
set_option maxHeartbeats 8000000 in
set_option maxRecDepth 100000 in
theorem hands_wl_ab (w0 w : World) (g a b K : Nat) (wo : WoT) (hW : WL w0.heap.size w g a b K wo) (hc0 : Chg [] w0 w) (hK : K ≤ 400000) :
    Calls Try.prog 26 #[.pointer (some ⟨a, 0, none⟩), .pointer (some ⟨b, 0, none⟩), .bool false] w fun r w' => r = .returned (.tuple #[]) ∧ WL w0.heap.size w' g a b (K + 20) { wo with sa := outS wo.sa, sb := (outL wo.sa).foldl recvS wo.sb } ∧ Chg [] w0 w' := by
  obtain ⟨Ar, cr, lr, P0, c0, l0, P1, c1, l1, Q0, d0, m0, Q1, d1, m1, Aa, Da, Ab, Db, F, h⟩ := hW
  have HS := Lib.hid h
  have C0 := Lib.hid hc0
  have HK := Lib.hid hK
  have LL := Lib.hid (outL_len h.sa.inv)
  have SAI := Lib.hid h.sa.inv
  have LB := Lib.hid (fun z hz => (h.lo (b :: blkOf Ab) (by simp) z hz).2)
  clear h hc0 hK
  go_enter Try.func26, Try.ntmps26
  go_wp2_with fail
  refine (outLL HS.out.sa (by have := HK.out; omega)).mono ?_
  rintro r w1 ⟨B, c, l, rfl, o1, n1, p1, hs, hC⟩
  have O1 := Lib.hid o1
  have P1' := Lib.hid p1
  have N1 := Lib.hid n1
  have OS := Lib.hid hC.size
  have IN : Hid (∀ (i : Nat) (x : PakV) (y : Addr), l[i]? = some x → x.2.2.2.2.1 = some y → w.heap.size ≤ y.block ∧ y.block < w1.heap.size) := Lib.hid (fun i x y hx hy => p1.lt hx hy)
  have INB : Hid (∀ y, B = some y → w.heap.size ≤ y.block ∧ y.block < w1.heap.size) := Lib.hid (fun y hy => ⟨n1 y hy, o1.lt y hy⟩)
  have EL := Lib.hid p1.len
  have W1 := Lib.hid (HS.out.sesa hC (fun z hz => by simp at hz; simp [hz]) [] (K' := K + 1) (by omega) Aa Da _ hs (fun z hz => .inl hz) (by simp) (fun z hz => .inl hz) (fun z hz => Nat.lt_of_lt_of_le (HS.out.lo (a :: blkOf Aa) (by simp) z hz).2 hC.size) (by simp) C0.out.size)
  replace C0 := Lib.hid (C0.out.on hC (fun z hz => (HS.out.lo (a :: blkOf Aa) (by simp) z (by simp at hz; simp [hz])).1))
  clear hs hC o1 p1 n1 HS
  go_wp2_with fail
  go_loopw [7] (fun v wr => ∃ i : Nat, i ≤ l.length ∧ v = .int .i64 (i : Int) ∧ Hid (∃ Ai Di Fi, WP w0.heap.size wr g a b (K + 1 + 2 * i) { wo with sa := outS wo.sa, sb := ((outL wo.sa).take i).foldl recvS wo.sb } Ar cr lr P0 c0 l0 P1 c1 l1 Q0 d0 m0 Q1 d1 m1 Aa Da Ai Di Fi ∧ (∀ z ∈ b :: blkOf Ai, z < w.heap.size ∨ w1.heap.size ≤ z) ∧ Chg [] w0 wr ∧ OwnK pakTy wr B c l ∧ PaksP wr w.heap.size l (outL wo.sa) ∧ w1.heap.size ≤ wr.heap.size)) (fun v _ => l.length - (RowKit.intOf v).toNat)
  case atStart => exact ⟨0, Nat.zero_le _, rfl, Ab, Db, _, W1.out, fun z hz => .inl (LB.out z hz), C0.out, O1.out, P1'.out, Nat.le_refl _⟩
  case round =>
    obtain ⟨i, hi, rfl, HR⟩ := hrel
    obtain ⟨Ai, Di, Fi, ht, hin, hc0, ho, hp, hw1⟩ := HR.out
    have i0 : (0 : Int) ≤ (i : Int) := by omega
    have i1 : IntKind.i64.wrap ((i : Int) + 1) = (i : Int) + 1 := IntWalk.i64_in _ (by have := LL.out; have := EL.out; omega)
    have HT2 := Lib.hid ht
    have HIN := Lib.hid hin
    have CW := Lib.hid hc0
    have O2 := Lib.hid ho
    have P2 := Lib.hid hp
    have W1' := Lib.hid hw1
    clear ht hin hc0 ho hp hw1 HR W1 O1 P1'
    by_cases hlt : i < l.length
    · have i2 : (i : Int) < (l.length : Int) := by omega
      obtain ⟨x, hx⟩ : ∃ x, l[i]? = some x := ⟨_, List.getElem?_eq_getElem hlt⟩
      obtain ⟨p, hpp⟩ : ∃ p, (outL wo.sa)[i]? = some p := ⟨_, List.getElem?_eq_getElem (by have := EL.out; omega)⟩
      obtain ⟨e1, e2, e3, e4, e5, ob, _⟩ := P2.out.at_ i x p hx hpp
      have rd := O2.out.reads
      obtain ⟨gB, oB, eB, _⟩ := rd.line (by omega)
      rw [eB] at rd
      obtain ⟨q0, q1, q2, q3, q4⟩ := pakCells rd hx
      have xin := IN.out i x
      obtain ⟨x1, x2, x3, x4, xA, xn, xd⟩ := x
      obtain ⟨p1, p2, p3, p4, pb⟩ := p
      dsimp only at e1 e2 e3 e4 e5 ob q0 q1 q2 q3 q4 xin
      subst e1; subst e2; subst e3; subst e4
      have HPP := Lib.hid hpp
      have RB : Hid (Bs wr xA xn pb) := Lib.hid (by rw [e5]; exact ob.reads)
      have XN : Hid (∀ y, xA = some y → y.block ≠ b) := Lib.hid (fun y hy e => by have := (xin y hx hy).1; have := LB.out b (by simp); omega)
      have XL : Hid (xn ≤ 140737488351232) := Lib.hid (by
        have hm := List.mem_of_getElem? hpp
        have : pb.length ≤ 400 := outL_small SAI.out hm
        omega)
      clear hx hpp ob rd e5 xin
      subst eB
      go_wp2_with fail
      refine (recvL HT2.out.sb (by have := HK.out; have := LL.out; have := EL.out; omega) x1 x2 x3 x4 xA xn xd pb RB.out XL.out XN.out).mono ?_
      rintro r w5 ⟨A5, D5, rfl, ht, hA, hD, hC⟩
      have W5 := Lib.hid (HT2.out.sesb hC (fun z hz => hz) (D5.filter (fun z => decide (wr.heap.size ≤ z))) (K' := K + 1 + 2 * (i + 1)) (by omega) A5 D5 _ (ht.more (by omega)) (fun z hz => by
        rcases hD z hz with q | q
        · exact .inl q
        · exact .inr (by simp [hz, q])) (fun z hz => by
        simp at hz
        exact ⟨hz.2, ht.lt.2.2 z hz.1⟩) (fun z hz => by
        rcases List.mem_cons.1 hz with q | q
        · exact .inl (by simp [q])
        · obtain ⟨y, hy, rfl⟩ := of_blkOf q
          exact (hA y hy).imp (fun q => by simp [mem_blkOf q]) id) (fun z hz => by
        rcases List.mem_cons.1 hz with q | q
        · rw [q]; exact ht.lt.1
        · obtain ⟨y, hy, rfl⟩ := of_blkOf q
          exact ht.lt.2.1 y hy) (fun z hz hm => by
        simp at hz
        obtain ⟨s, lt, h⟩ := ht
        rcases List.mem_cons.1 hm with q | q
        · rw [q] at hz; exact h.nb hz.1
        · obtain ⟨y, hy, rfl⟩ := of_blkOf q
          exact (h.far y hy).2 hz.1) CW.out.size)
      have IN5 : Hid (∀ z ∈ b :: blkOf A5, z < w.heap.size ∨ w1.heap.size ≤ z) := Lib.hid (fun z hz => by
        rcases List.mem_cons.1 hz with e | e
        · exact HIN.out z (by simp [e])
        · obtain ⟨y, hy, rfl⟩ := of_blkOf e
          rcases hA y hy with e | e
          · exact HIN.out _ (by simp [mem_blkOf e])
          · exact .inr (Nat.le_trans W1'.out e))
      have CW5 := Lib.hid (CW.out.on hC (fun z hz => (HT2.out.lo (b :: blkOf Ai) (by simp) z hz).1))
      have O5 := Lib.hid (O2.out.chg hC (fun y hy hm => by have := INB.out y hy; have := HIN.out _ hm; omega))
      have P5 := Lib.hid (P2.out.chg hC (fun j y u hy hu hm => by have := IN.out j y u hy hu; have := HIN.out _ hm; omega))
      have W6 := Lib.hid (Nat.le_trans W1'.out hC.size)
      have FE : Hid (((outL wo.sa).take (i + 1)).foldl recvS wo.sb = recvS (((outL wo.sa).take i).foldl recvS wo.sb) (x1, x2, x3, x4, pb)) := Lib.hid (fold_snoc wo.sb _ i _ HPP.out)
      clear ht hA hD hC q0 q1 q2 q3 q4
      go_wp2
      go_round
      case measure => simp [RowKit.intOf]; omega
      exact ⟨i + 1, by omega, by go_num, A5, D5, _, by rw [FE.out]; exact W5.out, IN5.out, CW5.out, O5.out, P5.out, W6.out⟩
    · obtain rfl : i = l.length := by omega
      have i2 : ¬ (l.length : Int) < (l.length : Int) := by omega
      have FI : Hid (WL w0.heap.size wr g a b (K + 20) { wo with sa := outS wo.sa, sb := (outL wo.sa).foldl recvS wo.sb }) := Lib.hid (by
        have q := HT2.out
        rw [EL.out, List.take_length] at q
        exact ⟨_, _, _, _, _, _, _, _, _, _, _, _, _, _, _, _, _, _, _, _, q.moreK (by have := LL.out; have := EL.out; omega)⟩)
      go_wp2
      go_end0
      exact ⟨rfl, FI.out, CW.out⟩
end
section
open Go.RowKit Go.Lib
set_option linter.unusedSimpArgs false
set_option linter.unusedVariables false
set_option maxHeartbeats 8000000 in
set_option maxRecDepth 100000 in
theorem hands_wl_ba (w0 w : World) (g a b K : Nat) (wo : WoT) (hW : WL w0.heap.size w g a b K wo) (hc0 : Chg [] w0 w) (hK : K ≤ 400000) :
    Calls Try.prog 26 #[.pointer (some ⟨b, 0, none⟩), .pointer (some ⟨a, 0, none⟩), .bool false] w fun r w' => r = .returned (.tuple #[]) ∧ WL w0.heap.size w' g a b (K + 20) { wo with sb := outS wo.sb, sa := (outL wo.sb).foldl recvS wo.sa } ∧ Chg [] w0 w' := by
  obtain ⟨Ar, cr, lr, P0, c0, l0, P1, c1, l1, Q0, d0, m0, Q1, d1, m1, Aa, Da, Ab, Db, F, h⟩ := hW
  have HS := Lib.hid h
  have C0 := Lib.hid hc0
  have HK := Lib.hid hK
  have LL := Lib.hid (outL_len h.sb.inv)
  have SAI := Lib.hid h.sb.inv
  have LB := Lib.hid (fun z hz => (h.lo (a :: blkOf Aa) (by simp) z hz).2)
  clear h hc0 hK
  go_enter Try.func26, Try.ntmps26
  go_wp2_with fail
  refine (outLL HS.out.sb (by have := HK.out; omega)).mono ?_
  rintro r w1 ⟨B, c, l, rfl, o1, n1, p1, hs, hC⟩
  have O1 := Lib.hid o1
  have P1' := Lib.hid p1
  have N1 := Lib.hid n1
  have OS := Lib.hid hC.size
  have IN : Hid (∀ (i : Nat) (x : PakV) (y : Addr), l[i]? = some x → x.2.2.2.2.1 = some y → w.heap.size ≤ y.block ∧ y.block < w1.heap.size) := Lib.hid (fun i x y hx hy => p1.lt hx hy)
  have INB : Hid (∀ y, B = some y → w.heap.size ≤ y.block ∧ y.block < w1.heap.size) := Lib.hid (fun y hy => ⟨n1 y hy, o1.lt y hy⟩)
  have EL := Lib.hid p1.len
  have W1 := Lib.hid (HS.out.sesb hC (fun z hz => by simp at hz; simp [hz]) [] (K' := K + 1) (by omega) Ab Db _ hs (fun z hz => .inl hz) (by simp) (fun z hz => .inl hz) (fun z hz => Nat.lt_of_lt_of_le (HS.out.lo (b :: blkOf Ab) (by simp) z hz).2 hC.size) (by simp) C0.out.size)
  replace C0 := Lib.hid (C0.out.on hC (fun z hz => (HS.out.lo (b :: blkOf Ab) (by simp) z (by simp at hz; simp [hz])).1))
  clear hs hC o1 p1 n1 HS
  go_wp2_with fail
  go_loopw [7] (fun v wr => ∃ i : Nat, i ≤ l.length ∧ v = .int .i64 (i : Int) ∧ Hid (∃ Ai Di Fi, WP w0.heap.size wr g a b (K + 1 + 2 * i) { wo with sb := outS wo.sb, sa := ((outL wo.sb).take i).foldl recvS wo.sa } Ar cr lr P0 c0 l0 P1 c1 l1 Q0 d0 m0 Q1 d1 m1 Ai Di Ab Db Fi ∧ (∀ z ∈ a :: blkOf Ai, z < w.heap.size ∨ w1.heap.size ≤ z) ∧ Chg [] w0 wr ∧ OwnK pakTy wr B c l ∧ PaksP wr w.heap.size l (outL wo.sb) ∧ w1.heap.size ≤ wr.heap.size)) (fun v _ => l.length - (RowKit.intOf v).toNat)
  case atStart => exact ⟨0, Nat.zero_le _, rfl, Aa, Da, _, W1.out, fun z hz => .inl (LB.out z hz), C0.out, O1.out, P1'.out, Nat.le_refl _⟩
  case round =>
    obtain ⟨i, hi, rfl, HR⟩ := hrel
    obtain ⟨Ai, Di, Fi, ht, hin, hc0, ho, hp, hw1⟩ := HR.out
    have i0 : (0 : Int) ≤ (i : Int) := by omega
    have i1 : IntKind.i64.wrap ((i : Int) + 1) = (i : Int) + 1 := IntWalk.i64_in _ (by have := LL.out; have := EL.out; omega)
    have HT2 := Lib.hid ht
    have HIN := Lib.hid hin
    have CW := Lib.hid hc0
    have O2 := Lib.hid ho
    have P2 := Lib.hid hp
    have W1' := Lib.hid hw1
    clear ht hin hc0 ho hp hw1 HR W1 O1 P1'
    by_cases hlt : i < l.length
    · have i2 : (i : Int) < (l.length : Int) := by omega
      obtain ⟨x, hx⟩ : ∃ x, l[i]? = some x := ⟨_, List.getElem?_eq_getElem hlt⟩
      obtain ⟨p, hpp⟩ : ∃ p, (outL wo.sb)[i]? = some p := ⟨_, List.getElem?_eq_getElem (by have := EL.out; omega)⟩
      obtain ⟨e1, e2, e3, e4, e5, ob, _⟩ := P2.out.at_ i x p hx hpp
      have rd := O2.out.reads
      obtain ⟨gB, oB, eB, _⟩ := rd.line (by omega)
      rw [eB] at rd
      obtain ⟨q0, q1, q2, q3, q4⟩ := pakCells rd hx
      have xin := IN.out i x
      obtain ⟨x1, x2, x3, x4, xA, xn, xd⟩ := x
      obtain ⟨p1, p2, p3, p4, pb⟩ := p
      dsimp only at e1 e2 e3 e4 e5 ob q0 q1 q2 q3 q4 xin
      subst e1; subst e2; subst e3; subst e4
      have HPP := Lib.hid hpp
      have RB : Hid (Bs wr xA xn pb) := Lib.hid (by rw [e5]; exact ob.reads)
      have XN : Hid (∀ y, xA = some y → y.block ≠ a) := Lib.hid (fun y hy e => by have := (xin y hx hy).1; have := LB.out a (by simp); omega)
      have XL : Hid (xn ≤ 140737488351232) := Lib.hid (by
        have hm := List.mem_of_getElem? hpp
        have : pb.length ≤ 400 := outL_small SAI.out hm
        omega)
      clear hx hpp ob rd e5 xin
      subst eB
      go_wp2_with fail
      refine (recvL HT2.out.sa (by have := HK.out; have := LL.out; have := EL.out; omega) x1 x2 x3 x4 xA xn xd pb RB.out XL.out XN.out).mono ?_
      rintro r w5 ⟨A5, D5, rfl, ht, hA, hD, hC⟩
      have W5 := Lib.hid (HT2.out.sesa hC (fun z hz => hz) (D5.filter (fun z => decide (wr.heap.size ≤ z))) (K' := K + 1 + 2 * (i + 1)) (by omega) A5 D5 _ (ht.more (by omega)) (fun z hz => by
        rcases hD z hz with q | q
        · exact .inl q
        · exact .inr (by simp [hz, q])) (fun z hz => by
        simp at hz
        exact ⟨hz.2, ht.lt.2.2 z hz.1⟩) (fun z hz => by
        rcases List.mem_cons.1 hz with q | q
        · exact .inl (by simp [q])
        · obtain ⟨y, hy, rfl⟩ := of_blkOf q
          exact (hA y hy).imp (fun q => by simp [mem_blkOf q]) id) (fun z hz => by
        rcases List.mem_cons.1 hz with q | q
        · rw [q]; exact ht.lt.1
        · obtain ⟨y, hy, rfl⟩ := of_blkOf q
          exact ht.lt.2.1 y hy) (fun z hz hm => by
        simp at hz
        obtain ⟨s, lt, h⟩ := ht
        rcases List.mem_cons.1 hm with q | q
        · rw [q] at hz; exact h.nb hz.1
        · obtain ⟨y, hy, rfl⟩ := of_blkOf q
          exact (h.far y hy).2 hz.1) CW.out.size)
      have IN5 : Hid (∀ z ∈ a :: blkOf A5, z < w.heap.size ∨ w1.heap.size ≤ z) := Lib.hid (fun z hz => by
        rcases List.mem_cons.1 hz with e | e
        · exact HIN.out z (by simp [e])
        · obtain ⟨y, hy, rfl⟩ := of_blkOf e
          rcases hA y hy with e | e
          · exact HIN.out _ (by simp [mem_blkOf e])
          · exact .inr (Nat.le_trans W1'.out e))
      have CW5 := Lib.hid (CW.out.on hC (fun z hz => (HT2.out.lo (a :: blkOf Ai) (by simp) z hz).1))
      have O5 := Lib.hid (O2.out.chg hC (fun y hy hm => by have := INB.out y hy; have := HIN.out _ hm; omega))
      have P5 := Lib.hid (P2.out.chg hC (fun j y u hy hu hm => by have := IN.out j y u hy hu; have := HIN.out _ hm; omega))
      have W6 := Lib.hid (Nat.le_trans W1'.out hC.size)
      have FE : Hid (((outL wo.sb).take (i + 1)).foldl recvS wo.sa = recvS (((outL wo.sb).take i).foldl recvS wo.sa) (x1, x2, x3, x4, pb)) := Lib.hid (fold_snoc wo.sa _ i _ HPP.out)
      clear ht hA hD hC q0 q1 q2 q3 q4
      go_wp2
      go_round
      case measure => simp [RowKit.intOf]; omega
      exact ⟨i + 1, by omega, by go_num, A5, D5, _, by rw [FE.out]; exact W5.out, IN5.out, CW5.out, O5.out, P5.out, W6.out⟩
    · obtain rfl : i = l.length := by omega
      have i2 : ¬ (l.length : Int) < (l.length : Int) := by omega
      have FI : Hid (WL w0.heap.size wr g a b (K + 20) { wo with sb := outS wo.sb, sa := (outL wo.sb).foldl recvS wo.sa }) := Lib.hid (by
        have q := HT2.out
        rw [EL.out, List.take_length] at q
        exact ⟨_, _, _, _, _, _, _, _, _, _, _, _, _, _, _, _, _, _, _, _, q.moreK (by have := LL.out; have := EL.out; omega)⟩)
      go_wp2
      go_end0
      exact ⟨rfl, FI.out, CW.out⟩
end
end Go.Proofs.Ytmblalcigbghfaa
