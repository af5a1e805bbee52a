/- Packets' and messages' bytes are read as they were; what is read is its bytes: no memory here. -/
import Derived.Test.YtelbahfmkpncaaaNget
import Derived.Test.YtelbahfmkpncaaaAgain0
namespace Go.Proofs.Ytelbahfmkpncaaa
open Go.RowKit
set_option linter.unusedSimpArgs false
set_option linter.unusedVariables false

theorem num_go (pre rest : List UInt8) (n low high : Int) (h0 : 0 ≤ n) (h1 : n ≤ 4611686018427387903) (hl : low ≤ n) (hh : n ≤ high) (fa : Int) : rNum (pre ++ (enc n.toNat ++ rest)) pre.length 0 fa low high = (n, pre.length + (enc n.toNat).length, 0, fa) := by
  unfold rNum
  rw [if_neg (by simp), numAt_enc pre rest n.toNat low high (by omega) (by omega) (by omega)]
  simp only [enc_len, Prod.mk.injEq, and_true]
  omega
theorem raw_go (pre ys rest : List UInt8) (most fa : Int) (h : (ys.length : Int) ≤ most) (hy : ys.length ≤ 4611686018427387903) : rRaw (pre ++ ((enc ys.length ++ ys) ++ rest)) pre.length 0 fa most = (ys, pre.length + (enc ys.length ++ ys).length, 0, fa) := by
  unfold rRaw
  rw [if_neg (by simp), List.append_assoc, numAt_enc pre (ys ++ rest) ys.length 0 4611686018427387903 (by omega) (by omega) (by omega)]
  have hl : (pre ++ (enc ys.length ++ (ys ++ rest))).length = pre.length + (1 + nb ys.length) + ys.length + rest.length := by simp [enc_len]; omega
  simp only
  rw [if_neg (by omega), if_neg (by rw [hl]; omega)]
  have hd : (pre ++ (enc ys.length ++ (ys ++ rest))).drop (pre.length + 1 + nb ys.length) = ys ++ rest := by
    rw [← List.append_assoc, List.drop_append_of_le_length (by simp [enc_len]; omega)]
    have : (pre ++ enc ys.length).drop (pre.length + 1 + nb ys.length) = [] := List.drop_eq_nil_of_le (by simp [enc_len]; omega)
    rw [this, List.nil_append]
  rw [hd, List.take_left]
  simp [enc_len]
  omega

theorem readQ_back {f t m a : Int} {ys : List UInt8} (h : FineP f t m a ys.length) : readQ (pkB f t m a ys) = ((f, t, m, a, ys), 0, 0) := by
  obtain ⟨h1, h2, ⟨h3, h4⟩, ⟨h5, h6⟩, ⟨h7, h8⟩, h9, _⟩ := id h
  have n1 : pN1 (pkB f t m a ys) = (f, (enc f.toNat).length, 0, 0) := by
    unfold pN1
    have := num_go [] (enc t.toNat ++ enc m.toNat ++ enc a.toNat ++ enc ys.length ++ ys) f 1 1099511627776 (by omega) (by omega) h1 h2 0
    rw [show pkB f t m a ys = [] ++ (enc f.toNat ++ (enc t.toNat ++ enc m.toNat ++ enc a.toNat ++ enc ys.length ++ ys)) by unfold pkB; simp]
    simpa using this
  have n2 : pN2 (pkB f t m a ys) = (t, (enc f.toNat ++ enc t.toNat).length, 0, 0) := by
    unfold pN2
    rw [n1, show pkB f t m a ys = enc f.toNat ++ (enc t.toNat ++ (enc m.toNat ++ enc a.toNat ++ enc ys.length ++ ys)) by unfold pkB; simp]
    simp only
    rw [num_go (enc f.toNat) _ t 0 1099511627776 h3 (by omega) h3 h4 0]
    simp
  have n3 : pN3 (pkB f t m a ys) = (m, (enc f.toNat ++ enc t.toNat ++ enc m.toNat).length, 0, 0) := by
    unfold pN3
    rw [n2, show pkB f t m a ys = (enc f.toNat ++ enc t.toNat) ++ (enc m.toNat ++ (enc a.toNat ++ enc ys.length ++ ys)) by unfold pkB; simp]
    simp only
    rw [num_go (enc f.toNat ++ enc t.toNat) _ m 0 1099511627776 h5 (by omega) h5 h6 0]
    simp
    omega
  have n4 : pN4 (pkB f t m a ys) = (a, (enc f.toNat ++ enc t.toNat ++ enc m.toNat ++ enc a.toNat).length, 0, 0) := by
    unfold pN4
    rw [n3, show pkB f t m a ys = (enc f.toNat ++ enc t.toNat ++ enc m.toNat) ++ (enc a.toNat ++ (enc ys.length ++ ys)) by unfold pkB; simp]
    simp only
    rw [num_go (enc f.toNat ++ enc t.toNat ++ enc m.toNat) _ a 0 1099511627776 h7 (by omega) h7 h8 0]
    simp
    omega
  have n5 : pR5 (pkB f t m a ys) = (ys, (pkB f t m a ys).length, 0, 0) := by
    unfold pR5
    rw [n4, show pkB f t m a ys = (enc f.toNat ++ enc t.toNat ++ enc m.toNat ++ enc a.toNat) ++ ((enc ys.length ++ ys) ++ []) by unfold pkB; simp]
    simp only
    rw [raw_go (enc f.toNat ++ enc t.toNat ++ enc m.toNat ++ enc a.toNat) ys [] 400 0 (by omega) (by omega)]
    simp
    omega
  have nf : pF (pkB f t m a ys) = (0, 0) := by
    unfold pF
    rw [n5]
    unfold endR
    simp
  unfold readQ
  rw [nf, n1, n2, n3, n4, n5]
  simp [h]
theorem whole_pk (zs : List UInt8) : whole (zs ++ sumB zs) ∧ (zs ++ sumB zs).take ((zs ++ sumB zs).length - 8) = zs := by
  have h8 := sumB_len zs
  have e : (zs ++ sumB zs).length - 8 = zs.length := by rw [List.length_append]; omega
  refine ⟨⟨by rw [List.length_append]; omega, ?_⟩, by rw [e, List.take_left]⟩
  rw [e, List.take_left, List.drop_left]
/-- A packet's bytes are read as it. -/
theorem readP_back {f t m a : Int} {ys : List UInt8} (h : FineP f t m a ys.length) : readP (pkO f t m a ys) = ((f, t, m, a, ys), 0, 0) := by
  obtain ⟨h1, h2⟩ := whole_pk (pkB f t m a ys)
  unfold readP pkO
  rw [if_pos h, if_pos h1, h2]
  exact readQ_back h
theorem readQ_again {xs : List UInt8} (h : (readQ xs).2.1 = 0) : FineP (readQ xs).1.1 (readQ xs).1.2.1 (readQ xs).1.2.2.1 (readQ xs).1.2.2.2.1 (readQ xs).1.2.2.2.2.length ∧ pkB (readQ xs).1.1 (readQ xs).1.2.1 (readQ xs).1.2.2.1 (readQ xs).1.2.2.2.1 (readQ xs).1.2.2.2.2 = xs := by
  unfold readQ at h ⊢
  by_cases hf : (pF xs).1 ≠ 0
  · rw [if_pos hf] at h; exact absurd h hf
  · rw [if_neg hf] at h ⊢
    by_cases hg : FineP (pN1 xs).1 (pN2 xs).1 (pN3 xs).1 (pN4 xs).1 (pR5 xs).1.length
    · rw [if_pos hg]
      refine ⟨hg, ?_⟩
      have hz : (pF xs).1 = 0 := by simpa using hf
      unfold pF at hz
      obtain ⟨z5, _, hp⟩ := endR_calm hz
      have z5' := z5
      unfold pR5 at z5'
      obtain ⟨z4, _⟩ := rRaw_calm z5'
      have z4' := z4
      unfold pN4 at z4'
      obtain ⟨z3, _⟩ := rNum_calm z4'
      have z3' := z3
      unfold pN3 at z3'
      obtain ⟨z2, _⟩ := rNum_calm z3'
      have z2' := z2
      unfold pN2 at z2'
      obtain ⟨z1, _⟩ := rNum_calm z2'
      have l1 : (pN1 xs).2.1 ≤ xs.length := by unfold pN1; exact rNum_le (by omega)
      have l2 : (pN2 xs).2.1 ≤ xs.length := by unfold pN2; exact rNum_le l1
      have l3 : (pN3 xs).2.1 ≤ xs.length := by unfold pN3; exact rNum_le l2
      have l4 : (pN4 xs).2.1 ≤ xs.length := by unfold pN4; exact rNum_le l3
      have t1 := (rNum_take (xs := xs) (p := 0) (fe := 0) (fa := 0) (low := 1) (high := 1099511627776) (by omega) (by unfold pN1 at z1; exact z1)).1
      have t2 := (rNum_take (xs := xs) l1 z2').1
      have t3 := (rNum_take (xs := xs) l2 z3').1
      have t4 := (rNum_take (xs := xs) l3 z4').1
      have t5 := rRaw_take (xs := xs) l4 z5'
      change xs.take (pN1 xs).2.1 = _ ++ enc (pN1 xs).1.toNat at t1
      change xs.take (pN2 xs).2.1 = _ ++ enc (pN2 xs).1.toNat at t2
      change xs.take (pN3 xs).2.1 = _ ++ enc (pN3 xs).1.toNat at t3
      change xs.take (pN4 xs).2.1 = _ ++ enc (pN4 xs).1.toNat at t4
      change xs.take (pR5 xs).2.1 = _ ++ (enc (pR5 xs).1.length ++ (pR5 xs).1) at t5
      rw [List.take_of_length_le hp, t4, t3, t2, t1] at t5
      unfold pkB
      rw [List.take_zero, List.nil_append] at t5
      conv => rhs; rw [t5]
      simp
    · rw [if_neg hg] at h; simp at h
/-- What reads as a packet is its bytes. -/
theorem readP_again {xs : List UInt8} (h : (readP xs).2.1 = 0) : FineP (readP xs).1.1 (readP xs).1.2.1 (readP xs).1.2.2.1 (readP xs).1.2.2.2.1 (readP xs).1.2.2.2.2.length ∧ pkO (readP xs).1.1 (readP xs).1.2.1 (readP xs).1.2.2.1 (readP xs).1.2.2.2.1 (readP xs).1.2.2.2.2 = xs := by
  unfold readP at h ⊢
  by_cases hw : whole xs
  · rw [if_pos hw] at h ⊢
    obtain ⟨h1, h2⟩ := readQ_again h
    refine ⟨h1, ?_⟩
    unfold pkO
    rw [if_pos h1, h2, hw.2, List.take_append_drop]
  · rw [if_neg hw] at h; simp at h

theorem mS_part {xs : List UInt8} (h : (mN1 xs).1 = 1) : mS xs = ((mN3 xs).1, (mN4 xs).1, (mR5 xs).1) ∧ mE xs = (mR5 xs).2 := ⟨if_pos h, if_pos h⟩
theorem mS_none {xs : List UInt8} (h : ¬ (mN1 xs).1 = 1) : mS xs = (0, 0, []) ∧ mE xs = (mN2 xs).2 := ⟨if_neg h, if_neg h⟩
/-- A message's bytes are read as it. -/
theorem readM_back {k i s a : Int} {ys : List UInt8} (h : FineM k i s a ys.length) : readM (mO k i s a ys) = ((k, i, s, a, ys), 0, 0) := by
  have hO : mO k i s a ys = mB k i s a ys := if_pos h
  rw [hO]
  obtain ⟨h1, h2, hk⟩ := id h
  by_cases hp : k = 1
  · subst hp
    have hP : PartP s a ys.length := by
      rcases hk with ⟨_, h⟩ | ⟨h, _⟩
      · exact h
      · omega
    obtain ⟨p1, p2, p3, p4, p5, p6, p7⟩ := id hP
    have eB : mB 1 i s a ys = enc (1 : Int).toNat ++ enc i.toNat ++ enc s.toNat ++ enc a.toNat ++ enc ys.length ++ ys := if_pos rfl
    rw [eB]
    have n1 : mN1 (enc (1 : Int).toNat ++ enc i.toNat ++ enc s.toNat ++ enc a.toNat ++ enc ys.length ++ ys) = (1, (enc (1 : Int).toNat).length, 0, 0) := by
      unfold mN1
      have := num_go [] (enc i.toNat ++ enc s.toNat ++ enc a.toNat ++ enc ys.length ++ ys) 1 1 3 (by omega) (by omega) (by omega) (by omega) 0
      rw [show enc (1 : Int).toNat ++ enc i.toNat ++ enc s.toNat ++ enc a.toNat ++ enc ys.length ++ ys = [] ++ (enc (1 : Int).toNat ++ (enc i.toNat ++ enc s.toNat ++ enc a.toNat ++ enc ys.length ++ ys)) by simp]
      simpa using this
    have n2 : mN2 (enc (1 : Int).toNat ++ enc i.toNat ++ enc s.toNat ++ enc a.toNat ++ enc ys.length ++ ys) = (i, (enc (1 : Int).toNat ++ enc i.toNat).length, 0, 0) := by
      unfold mN2
      rw [n1, show enc (1 : Int).toNat ++ enc i.toNat ++ enc s.toNat ++ enc a.toNat ++ enc ys.length ++ ys = enc (1 : Int).toNat ++ (enc i.toNat ++ (enc s.toNat ++ enc a.toNat ++ enc ys.length ++ ys)) by simp]
      simp only
      rw [num_go (enc (1 : Int).toNat) _ i 1 1099511627776 (by omega) (by omega) h1 h2 0]
      simp
    have n3 : mN3 (enc (1 : Int).toNat ++ enc i.toNat ++ enc s.toNat ++ enc a.toNat ++ enc ys.length ++ ys) = (s, (enc (1 : Int).toNat ++ enc i.toNat ++ enc s.toNat).length, 0, 0) := by
      unfold mN3
      rw [n2, show enc (1 : Int).toNat ++ enc i.toNat ++ enc s.toNat ++ enc a.toNat ++ enc ys.length ++ ys = (enc (1 : Int).toNat ++ enc i.toNat) ++ (enc s.toNat ++ (enc a.toNat ++ enc ys.length ++ ys)) by simp]
      simp only
      rw [num_go (enc (1 : Int).toNat ++ enc i.toNat) _ s 1 60000 (by omega) (by omega) p1 p2 0]
      simp
      omega
    have n4 : mN4 (enc (1 : Int).toNat ++ enc i.toNat ++ enc s.toNat ++ enc a.toNat ++ enc ys.length ++ ys) = (a, (enc (1 : Int).toNat ++ enc i.toNat ++ enc s.toNat ++ enc a.toNat).length, 0, 0) := by
      unfold mN4
      rw [n3, show enc (1 : Int).toNat ++ enc i.toNat ++ enc s.toNat ++ enc a.toNat ++ enc ys.length ++ ys = (enc (1 : Int).toNat ++ enc i.toNat ++ enc s.toNat) ++ (enc a.toNat ++ (enc ys.length ++ ys)) by simp]
      simp only
      rw [num_go (enc (1 : Int).toNat ++ enc i.toNat ++ enc s.toNat) _ a 0 60000 (by omega) (by omega) p3 (by omega) 0]
      simp
      omega
    have n5 : mR5 (enc (1 : Int).toNat ++ enc i.toNat ++ enc s.toNat ++ enc a.toNat ++ enc ys.length ++ ys) = (ys, (enc (1 : Int).toNat ++ enc i.toNat ++ enc s.toNat ++ enc a.toNat ++ enc ys.length ++ ys).length, 0, 0) := by
      unfold mR5
      rw [n4, show enc (1 : Int).toNat ++ enc i.toNat ++ enc s.toNat ++ enc a.toNat ++ enc ys.length ++ ys = (enc (1 : Int).toNat ++ enc i.toNat ++ enc s.toNat ++ enc a.toNat) ++ ((enc ys.length ++ ys) ++ []) by simp]
      simp only
      rw [raw_go (enc (1 : Int).toNat ++ enc i.toNat ++ enc s.toNat ++ enc a.toNat) ys [] 200 0 (by omega) (by omega)]
      simp
      omega
    obtain ⟨e1, e2⟩ := mS_part (by rw [n1])
    have nf : mF (enc (1 : Int).toNat ++ enc i.toNat ++ enc s.toNat ++ enc a.toNat ++ enc ys.length ++ ys) = (0, 0) := by
      unfold mF
      rw [e2, n5]
      unfold endR
      simp
    unfold readM
    rw [nf, e1, n1, n2, n3, n4, n5]
    simp [h]
  · have hQ : (k = 2 ∨ k = 3) ∧ s = 0 ∧ a = 0 ∧ ys.length = 0 := by
      rcases hk with ⟨h, _⟩ | h
      · exact absurd h hp
      · exact h
    obtain ⟨q1, rfl, rfl, q4⟩ := hQ
    obtain rfl := List.eq_nil_of_length_eq_zero q4
    have eB : mB k i 0 0 [] = enc k.toNat ++ enc i.toNat := if_neg hp
    rw [eB]
    have n1 : mN1 (enc k.toNat ++ enc i.toNat) = (k, (enc k.toNat).length, 0, 0) := by
      unfold mN1
      have := num_go [] (enc i.toNat) k 1 3 (by omega) (by omega) (by omega) (by omega) 0
      rw [show enc k.toNat ++ enc i.toNat = [] ++ (enc k.toNat ++ enc i.toNat) by simp]
      simpa using this
    have n2 : mN2 (enc k.toNat ++ enc i.toNat) = (i, (enc k.toNat ++ enc i.toNat).length, 0, 0) := by
      unfold mN2
      rw [n1, show enc k.toNat ++ enc i.toNat = enc k.toNat ++ (enc i.toNat ++ []) by simp]
      simp only
      rw [num_go (enc k.toNat) _ i 1 1099511627776 (by omega) (by omega) h1 h2 0]
      simp
    obtain ⟨e1, e2⟩ := mS_none (xs := enc k.toNat ++ enc i.toNat) (by rw [n1]; exact hp)
    have nf : mF (enc k.toNat ++ enc i.toNat) = (0, 0) := by
      unfold mF
      rw [e2, n2]
      unfold endR
      simp
    unfold readM
    rw [nf, e1, n1, n2]
    have h' : FineM k i 0 0 0 := h
    simp [h']
/-- What reads as a message is its bytes. -/
theorem readM_again {xs : List UInt8} (h : (readM xs).2.1 = 0) : FineM (readM xs).1.1 (readM xs).1.2.1 (readM xs).1.2.2.1 (readM xs).1.2.2.2.1 (readM xs).1.2.2.2.2.length ∧ mO (readM xs).1.1 (readM xs).1.2.1 (readM xs).1.2.2.1 (readM xs).1.2.2.2.1 (readM xs).1.2.2.2.2 = xs := by
  unfold readM at h ⊢
  by_cases hf : (mF xs).1 ≠ 0
  · rw [if_pos hf] at h; exact absurd h hf
  · rw [if_neg hf] at h ⊢
    by_cases hg : FineM (mN1 xs).1 (mN2 xs).1 (mS xs).1 (mS xs).2.1 (mS xs).2.2.length
    · rw [if_pos hg]
      refine ⟨hg, ?_⟩
      simp only
      rw [show mO (mN1 xs).1 (mN2 xs).1 (mS xs).1 (mS xs).2.1 (mS xs).2.2 = mB (mN1 xs).1 (mN2 xs).1 (mS xs).1 (mS xs).2.1 (mS xs).2.2 from if_pos hg]
      have hz : (mF xs).1 = 0 := by simpa using hf
      unfold mF at hz
      obtain ⟨z5, _, hp⟩ := endR_calm hz
      have l1 : (mN1 xs).2.1 ≤ xs.length := by unfold mN1; exact rNum_le (by omega)
      have l2 : (mN2 xs).2.1 ≤ xs.length := by unfold mN2; exact rNum_le l1
      have l3 : (mN3 xs).2.1 ≤ xs.length := by unfold mN3; exact rNum_le l2
      have l4 : (mN4 xs).2.1 ≤ xs.length := by unfold mN4; exact rNum_le l3
      by_cases hk : (mN1 xs).1 = 1
      · obtain ⟨e1, e2⟩ := mS_part hk
        rw [e2] at z5 hp
        rw [e1, hk]
        have z5' := z5
        unfold mR5 at z5'
        obtain ⟨z4, _⟩ := rRaw_calm z5'
        have z4' := z4
        unfold mN4 at z4'
        obtain ⟨z3, _⟩ := rNum_calm z4'
        have z3' := z3
        unfold mN3 at z3'
        obtain ⟨z2, _⟩ := rNum_calm z3'
        have z2' := z2
        unfold mN2 at z2'
        obtain ⟨z1, _⟩ := rNum_calm z2'
        have t1 := (rNum_take (xs := xs) (p := 0) (fe := 0) (fa := 0) (low := 1) (high := 3) (by omega) (by unfold mN1 at z1; exact z1)).1
        have t2 := (rNum_take (xs := xs) l1 z2').1
        have t3 := (rNum_take (xs := xs) l2 z3').1
        have t4 := (rNum_take (xs := xs) l3 z4').1
        have t5 := rRaw_take (xs := xs) l4 z5'
        change xs.take (mN1 xs).2.1 = _ ++ enc (mN1 xs).1.toNat at t1
        change xs.take (mN2 xs).2.1 = _ ++ enc (mN2 xs).1.toNat at t2
        change xs.take (mN3 xs).2.1 = _ ++ enc (mN3 xs).1.toNat at t3
        change xs.take (mN4 xs).2.1 = _ ++ enc (mN4 xs).1.toNat at t4
        change xs.take (mR5 xs).2.1 = _ ++ (enc (mR5 xs).1.length ++ (mR5 xs).1) at t5
        rw [List.take_of_length_le hp, t4, t3, t2, t1, hk] at t5
        unfold mB
        rw [if_pos rfl]
        rw [List.take_zero, List.nil_append] at t5
        conv => rhs; rw [t5]
        simp
      · obtain ⟨e1, e2⟩ := mS_none hk
        rw [e2] at z5 hp
        rw [e1]
        have z2' := z5
        unfold mN2 at z2'
        obtain ⟨z1, _⟩ := rNum_calm z2'
        have t1 := (rNum_take (xs := xs) (p := 0) (fe := 0) (fa := 0) (low := 1) (high := 3) (by omega) (by unfold mN1 at z1; exact z1)).1
        have t2 := (rNum_take (xs := xs) l1 z2').1
        change xs.take (mN1 xs).2.1 = _ ++ enc (mN1 xs).1.toNat at t1
        change xs.take (mN2 xs).2.1 = _ ++ enc (mN2 xs).1.toNat at t2
        rw [List.take_of_length_le hp, t1] at t2
        unfold mB
        rw [if_neg hk]
        rw [List.take_zero, List.nil_append] at t2
        exact t2.symm
    · rw [if_neg hg] at h; simp at h
/-- Behind a fault no kind is told. -/
theorem readM_fault {xs : List UInt8} (h : ¬ (readM xs).2.1 = 0) : (readM xs).1.1 = 0 := by
  unfold readM at h ⊢
  by_cases hf : (mF xs).1 ≠ 0
  · rw [if_pos hf]
  · rw [if_neg hf] at h ⊢
    by_cases hg : FineM (mN1 xs).1 (mN2 xs).1 (mS xs).1 (mS xs).2.1 (mS xs).2.2.length
    · rw [if_pos hg] at h; simp at h
    · rw [if_neg hg]
theorem nb_two (n : Nat) (h : n < 65536) : nb n ≤ 2 := by
  have := Lib.bitLen_le n 16 (by omega) (by omega)
  unfold nb
  omega
theorem mO_small {k i s a : Int} {ys : List UInt8} (h : FineM k i s a ys.length) : (mO k i s a ys).length ≤ 240 := by
  have hO : mO k i s a ys = mB k i s a ys := if_pos h
  rw [hO]
  obtain ⟨h1, h2, hk⟩ := id h
  have e0 := enc_len k.toNat
  have e1 := enc_le (x := i) ⟨by omega, h2⟩
  have n0 : k.toNat ≤ 3 → (enc k.toNat).length ≤ 2 := fun hk => by
    have := enc_len k.toNat
    have hh : ∀ n : Nat, n ≤ 3 → nb n ≤ 1 := by decide +kernel
    have := hh _ hk
    omega
  have hk3 : k.toNat ≤ 3 := by
    rcases hk with ⟨h, _⟩ | ⟨h, _⟩
    · omega
    · omega
  have := n0 hk3
  unfold mB
  split
  · rename_i hp
    have hP : PartP s a ys.length := by
      rcases hk with ⟨_, h⟩ | ⟨h, _⟩
      · exact h
      · omega
    obtain ⟨p1, p2, p3, p4, p5, p6, p7⟩ := hP
    have e2 := nb_two s.toNat (by omega)
    have e3 := nb_two a.toNat (by omega)
    have e4 := nb_two ys.length (by omega)
    simp only [List.length_append, enc_len] at *
    omega
  · simp only [List.length_append]
    omega
end Go.Proofs.Ytelbahfmkpncaaa
