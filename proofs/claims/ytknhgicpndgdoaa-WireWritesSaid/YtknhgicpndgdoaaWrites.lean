/- The walk of WireWrites: two writers, one row of acts. -/
import Derived.Test.YtknhgicpndgdoaaSay
import Derived.Test.YtknhgicpndgdoaaAwake
namespace Go.Proofs.Ytknhgicpndgdoaa
open Go.RowKit

/-- Two writers that hold the same, apart, in blocks that are new since w0. -/
structure Both (w0 w : World) (b v g h : Nat) (xs : List UInt8) (e : Int) : Prop where
  wr : Wrt w b g xs e
  vr : VWr w v h xs e
  ne : g ≠ h
  gn : w0.heap.size ≤ g
  hn : w0.heap.size ≤ h
  len : xs.length ≤ 1048576
  chg : Chg [] w0 w

theorem Both.after {w0 w w2 w3 : World} {b v g h : Nat} {xs ys : List UInt8} {e f : Int} (hB : Both w0 w b v g h xs e) (hb : w0.heap.size ≤ b) (hv : w0.heap.size ≤ v)
    (h1 : Between w w2 b g ys f) (h2 : VBetween w2 w3 v h ys f) (hl : ys.length ≤ 1048576) : ∃ g' h', Both w0 w3 b v g' h' ys f := by
  obtain ⟨g', p1, p2, p3⟩ := h1
  obtain ⟨h', q1, q2, q3⟩ := h2
  obtain ⟨a1, a2, a3⟩ := apart2 hB.wr hB.vr
  have hne := hB.ne
  have s1 := hB.wr.lt
  have s2 := hB.vr.lt
  have s3 := p1.lt
  have s4 := p2.size
  have s0 := hB.chg.size
  have t1 := hB.gn
  have t2 := hB.hn
  have hg : g' ∉ [v, h] := by
    simp only [List.mem_cons, List.not_mem_nil, or_false, not_or]
    rcases p3 with rfl | p3
    · exact ⟨a3, hne⟩
    · omega
  refine ⟨g', h', p1.chg q2 (by simp; exact ⟨a1, a2⟩) hg, q1, ?_, ?_, ?_, hl, (hB.chg.trans' p2 ?_).trans' q2 ?_⟩
  · simp only [List.mem_cons, List.not_mem_nil, or_false, not_or] at hg
    rcases q3 with rfl | q3
    · exact hg.2
    · omega
  · rcases p3 with rfl | p3 <;> omega
  · rcases q3 with rfl | q3 <;> omega
  · intro i hi
    simp at hi
    omega
  · intro i hi
    simp at hi
    omega

theorem Both.past {w0 w w2 : World} {b v g h : Nat} {xs : List UInt8} {e : Int} (hB : Both w0 w b v g h xs e) (hc : Chg [] w w2) : Both w0 w2 b v g h xs e :=
  ⟨hB.wr.chg hc (by simp) (by simp), hB.vr.chg hc (by simp) (by simp), hB.ne, hB.gn, hB.hn, hB.len, hB.chg.trans hc⟩
/-- An answer that is written over is new. -/
theorem Chg.past_own {w w1 w2 w3 : World} {A : Option Addr} (h1 : Chg [] w w1) (h2 : Chg [] w1 w2) (hn : ∀ a, A = some a → w.heap.size ≤ a.block) (ho : ∀ S : List Nat, (∀ a, A = some a → a.block ∈ S) → Chg S w2 w3) : Chg [] w w3 := by
  cases A with
  | none => exact (h1.trans h2).trans (ho [] (by simp))
  | some a =>
    refine (h1.trans h2).trans' (ho [a.block] (by rintro _ ⟨⟩; simp)) ?_
    intro i hi
    simp at hi
    subst hi
    exact .inr (hn a rfl)
theorem Acts.chg {w w' : World} {A : Option Addr} {len : Nat} {l : List ActD} (h : Acts w A len l) (hc : Chg [] w w') : Acts w' A len l :=
  ⟨h.1, fun j a hj => by
    obtain ⟨b, off, h1, h2⟩ := h.2 j a hj
    exact ⟨b, off, h1, h2.below hc.toBelow (Nat.le_refl _)⟩⟩

set_option maxHeartbeats 2000000 in
theorem writes_yes (w : World) (A : Option Addr) (len c : Nat) (l : List ActD) (h : Acts w A len l) (hlen : len ≤ 140737488351232) :
    Calls Try.prog 3 #[.slice A len c] w fun r w' => r = .returned (.bool true) ∧ Chg [] w w' := by
  have HA := Lib.hid h
  clear h
  go_enter Try.func3, Try.ntmps3
  go_wp2_with fail
  refine (new_any w).mono ?_
  rintro r w1 ⟨rfl, h1, c1⟩
  have H1 := Lib.hid h1
  have C1 := Lib.hid c1
  clear h1 c1
  have hb0 := heap_alloc_new w1 (.cells #[.slice none 0 0, .int .i64 0] 29)
  have c2 := C1.out.alloc (.cells #[.slice none 0 0, .int .i64 0] 29)
  have s1 := H1.out.lt.1
  have hv : VWr (w1.alloc (.cells #[.slice none 0 0, .int .i64 0] 29)) w1.heap.size w1.heap.size [] 0 := ⟨none, 0, hb0, .none_ _, .inl ⟨rfl, rfl⟩⟩
  have hB : Both w (w1.alloc (.cells #[.slice none 0 0, .int .i64 0] 29)) w.heap.size w1.heap.size w.heap.size w1.heap.size [] 0 :=
    ⟨H1.out.chg ((Chg.refl [] _).alloc _) (by simp) (by simp), hv, by omega, by omega, by omega, by simp, c2⟩
  have hb1 : w.heap.size ≤ w.heap.size := Nat.le_refl _
  have hv1 : w.heap.size ≤ w1.heap.size := by omega
  clear hb0 c2 hv
  go_wp2_with fail
  clear H1 C1
  generalize (w1.alloc (.cells #[.slice none 0 0, .int .i64 0] 29)) = w2 at hB ⊢
  generalize w1.heap.size = v at hB s1 hv1 ⊢
  generalize hb : w.heap.size = b at hB s1 hb1 hv1 ⊢
  have HB := Lib.hid hB
  clear hB
  refine (long_any w2 A len c l (HA.out.chg HB.out.chg) hlen).mono ?_
  rintro r w3 ⟨rfl, rfl⟩
  by_cases hl : longs l = true
  · rw [hl]
    go_wp2_with fail
    refine (awake_yes _).mono ?_
    rintro r w3 ⟨rfl, c3⟩
    have C3 := Lib.hid (HB.out.chg.trans c3)
    clear c3
    go_wp2
    go_ret
    exact ⟨rfl, C3.out⟩
  · have hl' : longs l = false := by simpa using hl
    rw [hl']
    clear hl
    go_wp2
    go_loopw [5] (fun i wr => ∃ (j g h : Nat) (xs : List UInt8) (e : Int), j ≤ len ∧ i = .int .i64 j ∧ Both w wr b v g h xs e) (fun i _ => len - (intOf i).toNat)
    case atStart => exact ⟨0, _, _, _, _, by omega, rfl, HB.out⟩
    case round =>
      obtain ⟨j, g, h, xs, e, hj, rfl, hB⟩ := hrel
      have HB2 := Lib.hid hB
      clear hB hl' HB
      by_cases hlt : j < len
      · obtain ⟨a, ha⟩ : ∃ a, l[j]? = some a := ⟨l[j]'(by have := HA.out.1; omega), List.getElem?_eq_getElem _⟩
        obtain ⟨ab, off, rfl, hAt⟩ := HA.out.2 j a ha
        clear ha
        obtain ⟨_, _, _, _, hbs, z1, z2, z3, z4⟩ := id hAt
        have HAt := Lib.hid hAt
        have hap : Apart a.B a.ys b g := hbs.apart (hb ▸ hb1) HB2.out.gn
        have hbs := (HAt.out.below HB2.out.chg.toBelow (Nat.le_refl _)).bytes
        have hAt := HAt.out.below HB2.out.chg.toBelow (Nat.le_refl _)
        have k0 := hAt.c0
        have k1 := hAt.c1
        have k2 := hAt.c2
        have k3 := hAt.c3
        have HBs := Lib.hid hbs
        have Hap := Lib.hid hap
        clear hAt hbs hap
        go_wp2_with fail
        refine (write_any wr b g xs e a.kind a.n a.s a.B a.m a.d a.ys HB2.out.wr HB2.out.len z1 z2 HBs.out Hap.out).mono ?_
        rintro r w4 ⟨rfl, hW⟩
        have hc4 : Chg [] w w4 := by
          obtain ⟨_, _, p2, _⟩ := hW
          have := HB2.out.gn
          refine HB2.out.chg.trans' p2 ?_
          intro i hi
          simp at hi
          omega
        have hAt := HAt.out.below hc4.toBelow (Nat.le_refl _)
        have hbs := hAt.bytes
        clear k0 k1 k2 k3
        have k0 := hAt.c0
        have k1 := hAt.c1
        have k2 := hAt.c2
        have k3 := hAt.c3
        have hv4 : VWr w4 v h xs e := by
          obtain ⟨_, _, p2, _⟩ := hW
          obtain ⟨a1, a2, a3⟩ := apart2 HB2.out.wr HB2.out.vr
          have := HB2.out.ne
          refine HB2.out.vr.chg p2 ?_ ?_
          · simp; exact ⟨fun e => a1 e.symm, fun e => a3 e.symm⟩
          · simp; exact ⟨fun e => a2 e.symm, fun e => this e.symm⟩
        have HV4 := Lib.hid hv4
        have HBs4 := Lib.hid hbs
        have HW := Lib.hid hW
        clear hv4 hbs hW hAt hc4 HBs Hap
        go_wp2_with fail
        refine (say_any w4 v h xs e a.kind a.n a.s a.B a.m a.d a.ys HV4.out HB2.out.len z1 z2 z3 z4 HBs4.out).mono ?_
        rintro r w5 ⟨rfl, hV⟩
        have hlen2 : (wAct xs e a.kind a.n a.s.data.toList a.ys).1.length ≤ 1048576 := wAct_len HB2.out.len
        obtain ⟨g2, h2, hB5⟩ := HB2.out.after (hb ▸ hb1) (hb ▸ hv1) HW.out hV hlen2
        clear k0 k1 k2 k3 HV4 HBs4 HW hV z1 z2 z3 z4
        generalize wAct xs e a.kind a.n a.s.data.toList a.ys = st at hlen2 hB5
        obtain ⟨zs, f⟩ := st
        have HB5 := Lib.hid hB5
        clear hB5 hlen2
        go_wp2_with fail
        refine (wout_any w5 b g2 zs f HB5.out.wr HB5.out.len).mono ?_
        rintro r w6 ⟨A6, c6, rfl, f6, n6, d6⟩
        have F6 := Lib.hid f6
        have N6 := Lib.hid n6
        have D6 := Lib.hid d6
        clear f6 n6 d6
        go_wp2_with fail
        refine (vout_any w6 v h2 zs f (HB5.out.vr.chg D6.out (by simp) (by simp)) HB5.out.len).mono ?_
        rintro r w7 ⟨A7, c7, rfl, f7, n7, d7⟩
        have F7 := Lib.hid f7
        have D7 := Lib.hid d7
        clear f7 n7 d7
        go_wp2_with fail
        refine (same_yes _ _ _ _ _ _ _ (outs zs f) (outs zs f) (F6.out.chg D7.out (by simp)).reads F7.out.reads rfl).mono ?_
        rintro r w8 ⟨rfl, rfl⟩
        go_wp2_with fail
        refine (over_own w7 A6 c6 _ _ (F6.out.chg D7.out (by simp)) rfl).mono ?_
        rintro r w8 ⟨rfl, ho⟩
        have hB8 : Both w w8 b v g2 h2 zs f := by
          refine HB5.out.past (Chg.past_own D6.out D7.out N6.out ho)
        have HB8 := Lib.hid hB8
        clear hB8 ho F6 N6 D6 F7 D7 HB5 HB2 HAt hbs hAt
        go_wp2
        exact ⟨⟨j + 1, g2, h2, zs, f, by omega, by go_num, HB8.out⟩, by simp [intOf]; omega⟩
      · go_wp2_with fail
        refine (awake_yes _).mono ?_
        rintro r w3 ⟨rfl, c3⟩
        have C3 := Lib.hid (HB2.out.chg.trans c3)
        clear c3
        go_wp2
        go_ret
        exact ⟨rfl, C3.out⟩
end Go.Proofs.Ytknhgicpndgdoaa
