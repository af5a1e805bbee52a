/- The walk of WireAgain. -/
import Derived.Test.YtknhgicpndgdoaaAgain0
import Derived.Test.YtknhgicpndgdoaaReqs
import Derived.Test.YtknhgicpndgdoaaAwake
import Derived.Deep.RegionHeld3
import Derived.Deep.Cut
import Derived.Deep.CutRange
namespace Go.Proofs.Ytknhgicpndgdoaa
open Go.RowKit

/-- What stands behind one reading. -/
structure Got (w w8 : World) (b g b2 g2 s10 s11 : Nat) (xs : List UInt8) (p : Nat) (fe fa ak : Int) (p2 : Nat) (fe2 fa2 N : Int) (S : ByteArray) (A1 : Option Addr) (m1 c1 : Nat) (ys : List UInt8) : Prop where
  r : Rdr w8 b2 g2 xs p2 fe2 fa2
  wr : Wrt w8 b g (xs.take p) 0
  x : w8.heap[s11]? = some (.cells #[.int .i64 ak, .int .i64 N, .string S, .slice A1 m1 c1] 34 (0, 0))
  y : w8.heap[s10]? = some (.cells #[.int .i64 fe, .int .i64 fa] 51 (0, 0))
  chg : Chg [] w w8
  bs : Bs w8 A1 m1 ys
  ap : Apart A1 ys b g
  le : p2 ≤ xs.length
  ge : p ≤ p2
  good : fe2 = 0 → wAct (xs.take p) 0 ak N S.data.toList ys = (xs.take p2, 0)
  bad : fe2 ≠ 0 → N = 0 ∧ S = ⟨#[]⟩ ∧ m1 = 0 ∧ p2 = p ∧ (fe ≠ 0 → fe2 = fe ∧ fa2 = fa)
  small : S.size ≤ 1000 ∧ m1 ≤ 1000

theorem got_mk {w w6 w7 w8 : World} {b g b2 g2 s10 s11 : Nat} {xs : List UInt8} {p p2 : Nat} {fe fa ak fe2 fa2 N : Int} {S : ByteArray} {A1 : Option Addr} {m1 c1 : Nat} {ys : List UInt8} (hc6 : Chg [] w w6) (hR : Rdr w7 b2 g2 xs p2 fe2 fa2) (hW : Wrt w6 b g (xs.take p) 0) (c7 : Chg [b2] w6 w7) (cs : Chg [s11] w7 w8)
    (hx : w8.heap[s11]? = some (.cells #[.int .i64 ak, .int .i64 N, .string S, .slice A1 m1 c1] 34 (0, 0))) (hy : w6.heap[s10]? = some (.cells #[.int .i64 fe, .int .i64 fa] 51 (0, 0)))
    (h1 : b ≠ b2) (h2 : g ≠ b2) (h3 : s11 ≠ b2) (h4 : s10 ≠ b2) (h5 : s11 ≠ b) (h6 : s11 ≠ g) (h7 : s11 ≠ g2) (h8 : s11 ≠ s10) (hb2 : w.heap.size ≤ b2) (h9 : w.heap.size ≤ s11)
    (bs : Bs w8 A1 m1 ys) (ap : Apart A1 ys b g) (le : p2 ≤ xs.length) (ge : p ≤ p2) (good : fe2 = 0 → wAct (xs.take p) 0 ak N S.data.toList ys = (xs.take p2, 0)) (bad : fe2 ≠ 0 → N = 0 ∧ S = ⟨#[]⟩ ∧ m1 = 0 ∧ p2 = p ∧ (fe ≠ 0 → fe2 = fe ∧ fa2 = fa)) (small : S.size ≤ 1000 ∧ m1 ≤ 1000) :
    Got w w8 b g b2 g2 s10 s11 xs p fe fa ak p2 fe2 fa2 N S A1 m1 c1 ys :=
  ⟨hR.chg cs (by simp; exact fun e => h3 e.symm) (by simp; exact fun e => h7 e.symm), (hW.chg c7 (by simpa using h1) (by simpa using h2)).chg cs (by simp; exact fun e => h5 e.symm) (by simp; exact fun e => h6 e.symm), hx, cs.at_ (c7.at_ hy (by simpa using h4)) (by simp; exact fun e => h8 e.symm),
    (hc6.trans' c7 (by intro i hi; simp at hi; subst hi; exact .inr hb2)).trans' cs (by intro i hi; simp at hi; subst hi; exact .inr h9), bs, ap, le, ge, good, bad, small⟩
theorem num_math {xs : List UInt8} {p : Nat} (fe fa low high : Int) (hl : xs.length ≤ 1000) (hp : p ≤ xs.length) :
    (rNum xs p fe fa low high).2.1 ≤ xs.length ∧ p ≤ (rNum xs p fe fa low high).2.1 ∧ ((rNum xs p fe fa low high).2.2.1 = 0 → wNum (xs.take p) 0 (rNum xs p fe fa low high).1 = (xs.take (rNum xs p fe fa low high).2.1, 0)) := by
  have hle := rNum_le (fe := fe) (fa := fa) (low := low) (high := high) hp
  refine ⟨hle, ?_, fun e => ?_⟩
  · by_cases e : (rNum xs p fe fa low high).2.2.1 = 0
    · have h := congrArg List.length (rNum_take hp e).1
      simp [enc_len] at h
      omega
    · rw [(rNum_failed e).2.1]
      exact Nat.le_refl _
  · obtain ⟨t1, t2, t3⟩ := rNum_take hp e
    have hnb := nb_le (rNum xs p fe fa low high).1.toNat (by omega)
    unfold wNum
    rw [if_neg (by simp), if_neg (by omega), if_neg (by simp; omega), t1]
theorem raw_math {xs : List UInt8} {p : Nat} (fe fa high : Int) (hl : xs.length ≤ 1000) (hp : p ≤ xs.length) :
    (rRaw xs p fe fa high).2.1 ≤ xs.length ∧ p ≤ (rRaw xs p fe fa high).2.1 ∧ ((rRaw xs p fe fa high).2.2.1 = 0 → wRaw (xs.take p) 0 (rRaw xs p fe fa high).1 = (xs.take (rRaw xs p fe fa high).2.1, 0)) ∧ (rRaw xs p fe fa high).1.length ≤ 1000 := by
  have hle := rRaw_le (fe := fe) (fa := fa) (most := high) hp
  refine ⟨hle.2, ?_, fun e => ?_, by omega⟩
  · by_cases e : (rRaw xs p fe fa high).2.2.1 = 0
    · have h := congrArg List.length (rRaw_take hp e)
      simp [enc_len] at h
      omega
    · rw [(rRaw_failed e).2.1]
      exact Nat.le_refl _
  · have t1 := rRaw_take hp e
    have hnb := nb_le (rRaw xs p fe fa high).1.length (by omega)
    unfold wRaw
    rw [if_neg (by simp), if_neg (by simp; omega), t1, List.append_assoc]

theorem field_err' (e f : Int) (w : World) : (Instr.field 51 (.agg #[.int .i64 e, .int .i64 f]) 0).run Try.prog w = .ok (.int .i64 e) w := by
  simp [go_sem, Instr.field, run_underlying Try.underlying51, asAgg]
theorem Bs.head {w : World} {A : Option Addr} {n : Nat} {xs : List UInt8} (h : Bs w A n xs) (p : Nat) (hp : p ≤ xs.length) : Bs w A p (xs.take p) := by
  refine ⟨by simp; omega, fun j u hj => ?_⟩
  rw [List.getElem?_take] at hj
  split at hj
  · exact h.cells j u hj
  · cases hj
theorem Got.past {w w8 w9 : World} {b g b2 g2 s10 s11 : Nat} {xs : List UInt8} {p p2 : Nat} {fe fa ak fe2 fa2 N : Int} {S : ByteArray} {A1 : Option Addr} {m1 c1 : Nat} {ys : List UInt8} (h : Got w w8 b g b2 g2 s10 s11 xs p fe fa ak p2 fe2 fa2 N S A1 m1 c1 ys) (hc : Chg [] w8 w9) :
    Got w w9 b g b2 g2 s10 s11 xs p fe fa ak p2 fe2 fa2 N S A1 m1 c1 ys :=
  ⟨h.r.chg hc (by simp) (by simp), h.wr.chg hc (by simp) (by simp), hc.at_ h.x (by simp), hc.at_ h.y (by simp), h.chg.trans hc, h.bs.chg hc (by simp), h.ap, h.le, h.ge, h.good, h.bad, h.small⟩
theorem Chg.keep0 {w w' : World} {a : Addr} {u : Value} (hc : Chg [] w w') (h : w.cell? a = some u) : w'.cell? a = some u := hc.cell h (by simp)
theorem again_fin {w w10 w11 : World} {b g b2 g2 : Nat} {xs ys zs : List UInt8} {p : Nat} {fe fa f : Int} (hr : Rdr w10 b2 g2 xs p fe fa) (hw : Wrt w10 b g zs 0) (hc : Chg [] w w10) (hB : Between w10 w11 b g ys f) (hb : w.heap.size ≤ b) (hg : w.heap.size ≤ g) (h1 : g ≠ b2) (h2 : g ≠ g2) (h3 : b ≠ b2) (h4 : b ≠ g2) :
    ∃ g', Rdr w11 b2 g2 xs p fe fa ∧ Wrt w11 b g' ys f ∧ w.heap.size ≤ g' ∧ g' ≠ b2 ∧ g' ≠ g2 ∧ Chg [] w w11 := by
  obtain ⟨g', q1, q2, q3⟩ := hB
  have s1 := hr.lt
  have s2 := hc.size
  refine ⟨g', hr.chg q2 (by simp; exact ⟨fun e => h3 e.symm, fun e => h1 e.symm⟩) (by simp; exact ⟨fun e => h4 e.symm, fun e => h2 e.symm⟩), q1, ?_, ?_, ?_, hc.trans' q2 ?_⟩
  · rcases q3 with rfl | q3 <;> omega
  · rcases q3 with rfl | q3 <;> omega
  · rcases q3 with rfl | q3 <;> omega
  · intro i hi
    simp at hi
    omega

section
variable {P : Program} {ops : Array Oper} {Q : Exit → Act → World → Prop} {md : Region.Mode} {S : World → Prop}
/-- A step that yields at once, its slot written out. -/
theorem take_yes (i d : Nat) (v : Value) {oi : Oper} {fuel : Nat} {listed : Array Bool} {a : Act} {w : World} (hS : S w) (hi : ops[i]? = some oi) (hd : oi.dst = some d)
    (hs : Region.noSelect ops = true) (hf : Region.free md ops listed i = true) (hr : (Region.ready md ops listed).contains i = true)
    (hQ : ∀ c a w, Q (.panic c) (a.put (some d) v) w → Q (.panic c) a w) (hw : Region.wanted oi (yielded ops a.tmps) = true) (hy : ∀ w, S w → (execOp a.eval oi).run P w = .ok (.value v) w)
    (h : wpAnyH P md ops Q S fuel (listed.setIfInBounds i true) (a.put (some d) v) w) : wpAnyH P md ops Q S (fuel + 1) listed a w :=
  wpAnyH_take hi hs hf hr (by rw [hd]; exact hQ) (.inl ⟨hw, hy⟩) hS (by rw [hd]; exact h)
/-- A step that is not wanted. -/
theorem take_no (i d : Nat) {oi : Oper} {fuel : Nat} {listed : Array Bool} {a : Act} {w : World} (hS : S w) (hi : ops[i]? = some oi) (hd : oi.dst = some d)
    (hs : Region.noSelect ops = true) (hf : Region.free md ops listed i = true) (hr : (Region.ready md ops listed).contains i = true)
    (hQ : ∀ c a w, Q (.panic c) (a.put (some d) undef) w → Q (.panic c) a w) (hw : Region.wanted oi (yielded ops a.tmps) = false)
    (h : wpAnyH P md ops Q S fuel (listed.setIfInBounds i true) (a.put (some d) undef) w) : wpAnyH P md ops Q S (fuel + 1) listed a w :=
  wpAnyH_take hi hs hf hr (by rw [hd]; exact hQ) (.inr ⟨hw, rfl⟩) hS (by rw [hd]; exact h)
end
set_option maxRecDepth 20000 in
set_option maxHeartbeats 4000000 in
theorem agains_yes (w : World) (A B : Option Addr) (n c len d : Nat) (xs : List UInt8) (h : Bs w A n xs) (hn : n ≤ c) (hc : c ≤ 9223372036854775807) (hn2 : n ≤ 140737488351232) (hl : Reqs w B len) (hlen : len ≤ 140737488351232) :
    Calls Try.prog 8 #[.slice A n c, .slice B len d] w fun r w' => r = .returned (.bool true) ∧ Chg [] w w' := by
  have hl1 := h.len
  subst hl1
  have HB := Lib.hid h
  have HL := Lib.hid hl
  clear h hl
  have hfe := field_err'
  go_enter Try.func8, Try.ntmps8
  go_wp2_with fail
  refine (awake_yes w).mono ?_
  rintro r w1 ⟨rfl, c1⟩
  have C1 := Lib.hid c1
  clear c1
  go_wp2_with fail
  refine (open_any w1 A _ c xs (HB.out.chg C1.out (by simp)) hn2).mono ?_
  rintro r w2 ⟨b2, g2, rfl, hR, c2, hb2, hg2⟩
  have HR := Lib.hid hR
  have C2 := Lib.hid (C1.out.trans c2)
  have hb2w : w.heap.size ≤ b2 := by have := C1.out.size; omega
  have hg2w : w.heap.size ≤ g2 := by have := C1.out.size; omega
  clear hR c2 hb2 hg2
  go_wp2_with fail
  refine (new_any w2).mono ?_
  rintro r w3 ⟨rfl, hW, c3⟩
  have hlt2 := HR.out.lt
  have hbw : w.heap.size ≤ w2.heap.size := C2.out.size
  have hne : b2 ≠ w2.heap.size ∧ g2 ≠ w2.heap.size := by omega
  have HR3 := Lib.hid (HR.out.chg c3 (by simp) (by simp))
  have C3 := Lib.hid (C2.out.trans c3)
  have HW := Lib.hid hW
  clear HR C2 c3 hW hlt2 C1
  generalize w2.heap.size = b at *
  by_cases hbig : 1000 < xs.length ∨ xs.length ≤ 1000 ∧ 60 < len
  · rcases hbig with hb | ⟨hb, hb2⟩
    all_goals
      go_wp2
      go_ret
      exact ⟨rfl, C3.out⟩
  have hs1 : xs.length ≤ 1000 := by omega
  have hs2 : len ≤ 60 := by omega
  clear hbig
  go_wp2
  go_loopw [8] (fun i wr => ∃ (j p g : Nat) (fe fa : Int), j ≤ len ∧ i = .int .i64 j ∧ p ≤ xs.length ∧ Rdr wr b2 g2 xs p fe fa ∧ Wrt wr b g (xs.take p) 0 ∧ w.heap.size ≤ g ∧ g ≠ b2 ∧ g ≠ g2 ∧ Chg [] w wr) (fun i _ => len - (intOf i).toNat)
  case atStart => exact ⟨0, 0, b, 0, 0, by omega, rfl, by omega, HR3.out, HW.out, hbw, fun e => hne.1 e.symm, fun e => hne.2 e.symm, C3.out⟩
  case round =>
    obtain ⟨j, p, g, fe, fa, hj, rfl, hp, hR, hW, hg, hgb, hgg, hC⟩ := hrel
    have HRr := Lib.hid hR
    have HWr := Lib.hid hW
    have HCr := Lib.hid hC
    clear hR hW hC HR3 HW C3
    by_cases hlt : j < len
    · obtain ⟨ab, off, ak, lo, hi, rfl, ha⟩ := HL.out j hlt
      have hab := lt_of_cell ha.c0
      have HA := Lib.hid ha
      clear ha
      go_wp2_with fail
      refine (rat_any wr b2 g2 xs p fe fa HRr.out).mono ?_
      rintro r w4 ⟨rfl, rfl⟩
      go_wp2_with fail
      refine (rfault_any wr b2 g2 xs p fe fa HRr.out).mono ?_
      rintro r w4 ⟨rfl, c4⟩
      have HR4 := Lib.hid (HRr.out.chg c4 (by simp) (by simp))
      have HW4 := Lib.hid (HWr.out.chg c4 (by simp) (by simp))
      have HC4 := Lib.hid (HCr.out.trans c4)
      have hA4 := (HA.out.chg HC4.out (by simp))
      have k0 := hA4.c0
      have k1 := hA4.c1
      have k2 := hA4.c2
      have hab4 := lt_of_cell k0
      clear c4 hA4 HRr HWr HCr
      go_upto_region 12 with fail
      obtain ⟨w6, hw6⟩ : ∃ w6 : World, w6 = (w4.alloc (.cells #[.int .i64 fe, .int .i64 fa] 51)).alloc (.cells #[.int .i64 ak, .int .i64 0, .string ⟨#[]⟩, .slice none 0 0] 34) := ⟨_, rfl⟩
      have c6 : Chg [] w4 w6 := hw6 ▸ ((Chg.refl [] w4).alloc _).alloc _
      have hx : w6.heap[w4.heap.size + 1]? = some (.cells #[.int .i64 ak, .int .i64 0, .string ⟨#[]⟩, .slice none 0 0] 34 (0, 0)) := hw6 ▸ heap_alloc_two w4 _ _
      have hy : w6.heap[w4.heap.size]? = some (.cells #[.int .i64 fe, .int .i64 fa] 51 (0, 0)) := hw6 ▸ ((Chg.refl [] _).alloc _).at_ (heap_alloc_new w4 _) (by simp)
      rw [← hw6]
      have k0 : w6.cell? ⟨ab, off + j * 3, none⟩ = _ := c6.cell k0 (by simp)
      have k1 : w6.cell? ⟨ab, off + j * 3 + 1, none⟩ = _ := c6.cell k1 (by simp)
      have k2 : w6.cell? ⟨ab, off + j * 3 + 2, none⟩ = _ := c6.cell k2 (by simp)
      have HX := Lib.hid hx
      have HY := Lib.hid hy
      have r1 := HR4.out.lt
      have r2 := HW4.out.lt
      have hsz := HC4.out.size
      have HR6 := Lib.hid (HR4.out.chg c6 (by simp) (by simp))
      have HW6 := Lib.hid (HW4.out.chg c6 (by simp) (by simp))
      have HC6 := Lib.hid (HC4.out.trans c6)
      have d1 : b ≠ b2 := fun e => hne.1 e.symm
      have d3 : w4.heap.size + 1 ≠ b2 := by omega
      have d4 : w4.heap.size ≠ b2 := by omega
      have d5 : w4.heap.size + 1 ≠ b := by omega
      have d6 : w4.heap.size + 1 ≠ g := by omega
      have d7 : w4.heap.size + 1 ≠ g2 := by omega
      have d8 : w4.heap.size + 1 ≠ w4.heap.size := by omega
      have d9 : w.heap.size ≤ w4.heap.size + 1 := by omega
      have da : w4.heap.size + 1 ≠ ab := by omega
      have db : ¬ b2 = ab := by omega
      clear c6 hx hy hw6 HR4 HW4 HC4 r1 r2 hsz hab4
      generalize w4.heap.size + 1 = s11 at *
      generalize w4.heap.size = s10 at *
      by_cases ha0 : ak = 0
      · subst ha0
        go_wp2
        have HRd := Lib.hid (HR6.out.chg ((Chg.refl [] w6).drew) (by simp) (by simp))
        have hll : xs.length ≤ 140737488351232 := by omega
        go_region_held3 (fun w' => w'.cell? ⟨ab, off + j * 3 + 1, none⟩ = some (.int .i64 lo) ∧ w'.cell? ⟨ab, off + j * 3 + 2, none⟩ = some (.int .i64 hi)) (first | exact ⟨q1, q2⟩ | go_keep)
          ((go_at_call 29; refine (rnum_any _ b2 g2 xs p fe fa lo hi HRd.out hp hll).mono ?_; rintro e w7 ⟨rfl, r7, c7⟩; have q1 := c7.cell k1 (List.not_mem_cons_of_ne_of_not_mem (fun e => db e.symm) List.not_mem_nil); have q2 := c7.cell k2 (List.not_mem_cons_of_ne_of_not_mem (fun e => db e.symm) List.not_mem_nil); have x7 := c7.at_ HX.out (List.not_mem_cons_of_ne_of_not_mem d3 List.not_mem_nil); have f1 := free_of x7 1; have x71 : w7.cell? ⟨s11, 1, none⟩ = some (.int .i64 0) := cell_of x7 1; have R7 := Lib.hid r7; have C7 := Lib.hid c7; have X7 := Lib.hid x7; clear r7 c7 x7))
        have hgot : Got w (w7.setCell ⟨s11, 1, none⟩ (.int .i64 (rNum xs p fe fa lo hi).1)) b g b2 g2 s10 s11 xs p fe fa 0 (rNum xs p fe fa lo hi).2.1 (rNum xs p fe fa lo hi).2.2.1 (rNum xs p fe fa lo hi).2.2.2 (rNum xs p fe fa lo hi).1 ⟨#[]⟩ none 0 0 [] := by
          obtain ⟨m1, m2, m3⟩ := num_math fe fa lo hi hs1 hp
          have hq := heap_setCell_same w7 s11 1 _ _ (.int .i64 (rNum xs p fe fa lo hi).1) X7.out
          exact got_mk (w6 := w6.drew) HC6.out.drew R7.out (HW6.out.chg ((Chg.refl [] w6).drew) (by simp) (by simp)) C7.out ((Chg.refl _ _).setCell (by simp) _) (by simpa using hq) HY.out d1 hgb d3 d4 d5 d6 d7 d8 hb2w d9 (Bs.nil _ _) (.inl rfl) m1 m2
            (fun e => by unfold wAct; rw [if_pos rfl]; exact m3 e) (fun e => by obtain ⟨t1, t2, t3⟩ := rNum_failed e; exact ⟨t1, rfl, rfl, t2, t3⟩) (by decide)
        have HG := Lib.hid hgot
        clear hgot R7 C7 X7 q1 q2 f1 x71 HRd k0 k1 k2
        generalize rNum xs p fe fa lo hi = R at *
        obtain ⟨N, p2, fe2, fa2⟩ := R
        generalize w7.setCell ⟨s11, 1, none⟩ (.int .i64 _) = w8 at *
        go_wp2_with fail
        have hle1 := HG.out.le
        have v1 : (p : Int) ≤ p2 := by have := HG.out.ge; omega
        have v2 : (p2 : Int) ≤ xs.length := by omega
        refine (rat_any w8 b2 g2 xs p2 fe2 fa2 HG.out.r).mono ?_
        rintro r w9 ⟨rfl, rfl⟩
        go_wp2_with fail
        refine (rat_any w8 b2 g2 xs p2 fe2 fa2 HG.out.r).mono ?_
        rintro r w9 ⟨rfl, rfl⟩
        go_wp2_with fail
        refine (rat_any w8 b2 g2 xs p2 fe2 fa2 HG.out.r).mono ?_
        rintro r w9 ⟨rfl, rfl⟩
        go_wp2_with fail
        refine (rleft_any w8 b2 g2 xs p2 fe2 fa2 HG.out.r hle1 (by omega)).mono ?_
        rintro r w9 ⟨rfl, c9⟩
        have HG9 := Lib.hid (HG.out.past c9)
        clear c9
        have v3 : (p2 : Int) + ((xs.length : Int) - p2) = xs.length := by omega
        go_wp2_with fail
        refine (rfault_any w9 b2 g2 xs p2 fe2 fa2 HG9.out.r).mono ?_
        rintro r w10 ⟨rfl, c10⟩
        have HGt := Lib.hid (HG9.out.past c10)
        clear c10 HG HG9 v3
        have x0 := cell_of HGt.out.x 0
        have x1 := cell_of HGt.out.x 1
        have x2 := cell_of HGt.out.x 2
        have x3 := cell_of HGt.out.x 3
        have y0 := cell_of HGt.out.y 0
        have y1 := cell_of HGt.out.y 1
        simp only [List.getElem?_toArray, List.getElem?_cons_succ, List.getElem?_cons_zero] at x0 x1 x2 x3 y0 y1
        by_cases e2 : fe2 = 0
        · subst e2
          clear y0 y1
          go_wp2_with fail
          refine (write_any w10 b g (xs.take p) 0 _ _ _ _ _ _ _ HGt.out.wr (by simp; omega) (Nat.le_trans HGt.out.small.1 (by decide)) (Nat.le_trans HGt.out.small.2 (by decide)) HGt.out.bs HGt.out.ap).mono ?_
          rintro r w11 ⟨rfl, hB⟩
          rw [HGt.out.good rfl] at hB
          have hfin := again_fin HGt.out.r HGt.out.wr HGt.out.chg hB hbw hg hgb hgg d1 (fun e => hne.2 e.symm)
          have HF := Lib.hid hfin
          clear hB hfin x0 x1 x2 x3
          go_wp2
          obtain ⟨g', f1, f2, f3, f4, f5, f6⟩ := HF.out
          exact ⟨⟨j + 1, p2, g', 0, fa2, by omega, by go_num, hle1, f1, f2, f3, f4, f5, f6⟩, by simp [intOf]; omega⟩
        · obtain ⟨b1, bS, b3, b4, b5⟩ := HGt.out.bad e2
          have e2' : (fe2 == 0) = false := by simpa using e2
          have E2 := Lib.hid e2
          have B5 := Lib.hid b5
          clear e2 b5 x0
          by_cases hf : fe = 0
          · have hf' : (fe != 0) = false := by subst hf; rfl
            clear hf
            subst b1 b4
            go_wp2
            have HGd := Lib.hid (HGt.out.past ((Chg.refl [] w10).drew))
            have x1 : w10.drew.cell? _ = _ := x1
            have x2 : w10.drew.cell? _ = _ := x2
            have x3 : w10.drew.cell? _ = _ := x3
            have y0 : w10.drew.cell? _ = _ := y0
            have y1 : w10.drew.cell? _ = _ := y1
            refine wp_region_held_drew (S := (fun w' : World => w'.cell? ⟨s11, 1, none⟩ = some (.int .i64 0) ∧ w'.cell? ⟨s11, 2, none⟩ = some (.string ⟨#[]⟩) ∧ w'.cell? ⟨s11, 3, none⟩ = some (.slice none 0 0) ∧ w'.cell? ⟨s10, 0, none⟩ = some (.int .i64 fe) ∧ w'.cell? ⟨s10, 1, none⟩ = some (.int .i64 fa))) (by kernel_rfl) ⟨x1, x2, x3, y0, y1⟩ (fun hHeld => ?_)
            refine take_yes 0 122 ?_ (by assumption) rfl rfl (by kernel_rfl) (by kernel_rfl) (by kernel_rfl) (fun _ _ _ h => h) (by rfl) ?_ ?_
            rotate_left
            · (intro w hSw; (try dsimp only at hSw); go_simp; try with_reducible rfl)
            try simp only [Act.put, List.setIfInBounds_toArray, List.set_cons_zero, List.set_cons_succ]
            refine take_yes 1 123 ?_ (by assumption) rfl rfl (by kernel_rfl) (by kernel_rfl) (by kernel_rfl) (fun _ _ _ h => h) (by rfl) ?_ ?_
            rotate_left
            · (intro w hSw; (try dsimp only at hSw); go_simp; try with_reducible rfl)
            try simp only [Act.put, List.setIfInBounds_toArray, List.set_cons_zero, List.set_cons_succ]
            refine take_yes 2 124 ?_ (by assumption) rfl rfl (by kernel_rfl) (by kernel_rfl) (by kernel_rfl) (fun _ _ _ h => h) (by rfl) ?_ ?_
            rotate_left
            · (intro w hSw; (try dsimp only at hSw); go_simp; try with_reducible rfl)
            try simp only [Act.put, List.setIfInBounds_toArray, List.set_cons_zero, List.set_cons_succ]
            refine take_yes 3 125 ?_ (by assumption) rfl rfl (by kernel_rfl) (by kernel_rfl) (by kernel_rfl) (fun _ _ _ h => h) (by rfl) ?_ ?_
            rotate_left
            · (intro w hSw; (try dsimp only at hSw); go_simp; try with_reducible rfl)
            try simp only [Act.put, List.setIfInBounds_toArray, List.set_cons_zero, List.set_cons_succ]
            refine take_yes 4 126 ?_ (by assumption) rfl rfl (by kernel_rfl) (by kernel_rfl) (by kernel_rfl) (fun _ _ _ h => h) (by rfl) ?_ ?_
            rotate_left
            · (intro w hSw; (try dsimp only at hSw); go_simp; try with_reducible rfl)
            try simp only [Act.put, List.setIfInBounds_toArray, List.set_cons_zero, List.set_cons_succ]
            refine take_yes 5 127 ?_ (by assumption) rfl rfl (by kernel_rfl) (by kernel_rfl) (by kernel_rfl) (fun _ _ _ h => h) (by rfl) ?_ ?_
            rotate_left
            · (intro w hSw; (try dsimp only at hSw); go_simp; try with_reducible rfl)
            try simp only [Act.put, List.setIfInBounds_toArray, List.set_cons_zero, List.set_cons_succ]
            refine take_yes 6 128 ?_ (by assumption) rfl rfl (by kernel_rfl) (by kernel_rfl) (by kernel_rfl) (fun _ _ _ h => h) (by rfl) ?_ ?_
            rotate_left
            · (intro w hSw; (try dsimp only at hSw); go_simp; try with_reducible rfl)
            try simp only [Act.put, List.setIfInBounds_toArray, List.set_cons_zero, List.set_cons_succ]
            refine take_yes 7 129 ?_ (by assumption) rfl rfl (by kernel_rfl) (by kernel_rfl) (by kernel_rfl) (fun _ _ _ h => h) (by rfl) ?_ ?_
            rotate_left
            · (intro w hSw; (try dsimp only at hSw); go_simp; try with_reducible rfl)
            try simp only [Act.put, List.setIfInBounds_toArray, List.set_cons_zero, List.set_cons_succ]
            refine take_yes 8 130 ?_ (by assumption) rfl rfl (by kernel_rfl) (by kernel_rfl) (by kernel_rfl) (fun _ _ _ h => h) (by rfl) ?_ ?_
            rotate_left
            · (intro w hSw; (try dsimp only at hSw); go_simp; try with_reducible rfl)
            try simp only [Act.put, List.setIfInBounds_toArray, List.set_cons_zero, List.set_cons_succ]
            refine take_yes 9 131 ?_ (by assumption) rfl rfl (by kernel_rfl) (by kernel_rfl) (by kernel_rfl) (fun _ _ _ h => h) (by rfl) ?_ ?_
            rotate_left
            · (intro w hSw; (try dsimp only at hSw); go_simp; try with_reducible rfl)
            try simp only [Act.put, List.setIfInBounds_toArray, List.set_cons_zero, List.set_cons_succ]
            refine take_yes 10 132 ?_ (by assumption) rfl rfl (by kernel_rfl) (by kernel_rfl) (by kernel_rfl) (fun _ _ _ h => h) (by rfl) ?_ ?_
            rotate_left
            · (intro w hSw; (try dsimp only at hSw); go_simp; try with_reducible rfl)
            try simp only [Act.put, List.setIfInBounds_toArray, List.set_cons_zero, List.set_cons_succ]
            refine take_yes 11 133 ?_ (by assumption) rfl rfl (by kernel_rfl) (by kernel_rfl) (by kernel_rfl) (fun _ _ _ h => h) (by rfl) ?_ ?_
            rotate_left
            · (intro w hSw; (try dsimp only at hSw); go_simp; try with_reducible rfl)
            try simp only [Act.put, List.setIfInBounds_toArray, List.set_cons_zero, List.set_cons_succ]
            refine take_yes 12 134 ?_ (by assumption) rfl rfl (by kernel_rfl) (by kernel_rfl) (by kernel_rfl) (fun _ _ _ h => h) (by rfl) ?_ ?_
            rotate_left
            · (intro w hSw; (try dsimp only at hSw); go_simp; try with_reducible rfl)
            try simp only [Act.put, List.setIfInBounds_toArray, List.set_cons_zero, List.set_cons_succ]
            refine take_yes 13 135 ?_ (by assumption) rfl rfl (by kernel_rfl) (by kernel_rfl) (by kernel_rfl) (fun _ _ _ h => h) (by rfl) ?_ ?_
            rotate_left
            · (intro w hSw; (try dsimp only at hSw); go_simp; try with_reducible rfl)
            try simp only [Act.put, List.setIfInBounds_toArray, List.set_cons_zero, List.set_cons_succ]
            refine take_yes 14 136 ?_ (by assumption) rfl rfl (by kernel_rfl) (by kernel_rfl) (by kernel_rfl) (fun _ _ _ h => h) (by rfl) ?_ ?_
            rotate_left
            · (intro w hSw; (try dsimp only at hSw); go_simp; try with_reducible rfl)
            try simp only [Act.put, List.setIfInBounds_toArray, List.set_cons_zero, List.set_cons_succ]
            refine take_yes 15 137 ?_ (by assumption) rfl rfl (by kernel_rfl) (by kernel_rfl) (by kernel_rfl) (fun _ _ _ h => h) (by rfl) ?_ ?_
            rotate_left
            · (intro w hSw; (try dsimp only at hSw); go_simp; try with_reducible rfl)
            try simp only [Act.put, List.setIfInBounds_toArray, List.set_cons_zero, List.set_cons_succ]
            refine take_yes 17 139 ?_ (by assumption) rfl rfl (by kernel_rfl) (by kernel_rfl) (by kernel_rfl) (fun _ _ _ h => h) (by rfl) ?_ ?_
            rotate_left
            · (intro w hSw; (try dsimp only at hSw); go_simp; try with_reducible rfl)
            try simp only [Act.put, List.setIfInBounds_toArray, List.set_cons_zero, List.set_cons_succ]
            refine wpAnyH_ready (rs := [16]) (by kernel_rfl) (by simp) ?_
            refine AllReadyH.cons (o := { dst := some 138, op := .call { callee := .value (.func 22), args := #[.tmp 137], argTypes := #[42] }, type := 3, pos := _, after := _, guard := some (14, false) }) rfl (fun K hK => ?_) AllReadyH.nil
            go_simp
            refine (rat_any _ b2 g2 xs _ _ _ HGd.out.r).mono ?_
            rintro e w12 ⟨rfl, rfl⟩
            go_wp2_with fail
            refine hK.out _ _ ⟨x1, x2, x3, y0, y1⟩ (fun hHeld => ?_)
            clear hK K
            try simp only [Act.put, List.setIfInBounds_toArray, List.set_cons_zero, List.set_cons_succ]
            refine take_yes 18 140 ?_ (by assumption) rfl rfl (by kernel_rfl) (by kernel_rfl) (by kernel_rfl) (fun _ _ _ h => h) (by rfl) ?_ ?_
            rotate_left
            · (intro w hSw; (try dsimp only at hSw); go_simp; try with_reducible rfl)
            try simp only [Act.put, List.setIfInBounds_toArray, List.set_cons_zero, List.set_cons_succ]
            refine take_yes 19 141 ?_ (by assumption) rfl rfl (by kernel_rfl) (by kernel_rfl) (by kernel_rfl) (fun _ _ _ h => h) (by rfl) ?_ ?_
            rotate_left
            · (intro w hSw; (try dsimp only at hSw); go_simp; try with_reducible rfl)
            try simp only [Act.put, List.setIfInBounds_toArray, List.set_cons_zero, List.set_cons_succ]
            refine take_yes 20 142 ?_ (by assumption) rfl rfl (by kernel_rfl) (by kernel_rfl) (by kernel_rfl) (fun _ _ _ h => h) (by rfl) ?_ ?_
            rotate_left
            · (intro w hSw; (try dsimp only at hSw); go_simp; try with_reducible rfl)
            try simp only [Act.put, List.setIfInBounds_toArray, List.set_cons_zero, List.set_cons_succ]
            refine take_yes 21 143 ?_ (by assumption) rfl rfl (by kernel_rfl) (by kernel_rfl) (by kernel_rfl) (fun _ _ _ h => h) (by rfl) ?_ ?_
            rotate_left
            · (intro w hSw; (try dsimp only at hSw); go_simp; try with_reducible rfl)
            try simp only [Act.put, List.setIfInBounds_toArray, List.set_cons_zero, List.set_cons_succ]
            refine take_yes 22 144 ?_ (by assumption) rfl rfl (by kernel_rfl) (by kernel_rfl) (by kernel_rfl) (fun _ _ _ h => h) (by rfl) ?_ ?_
            rotate_left
            · (intro w hSw; (try dsimp only at hSw); go_simp; try with_reducible rfl)
            try simp only [Act.put, List.setIfInBounds_toArray, List.set_cons_zero, List.set_cons_succ]
            refine take_yes 23 145 ?_ (by assumption) rfl rfl (by kernel_rfl) (by kernel_rfl) (by kernel_rfl) (fun _ _ _ h => h) (by rfl) ?_ ?_
            rotate_left
            · (intro w hSw; (try dsimp only at hSw); go_simp; try with_reducible rfl)
            try simp only [Act.put, List.setIfInBounds_toArray, List.set_cons_zero, List.set_cons_succ]
            refine take_yes 24 146 ?_ (by assumption) rfl rfl (by kernel_rfl) (by kernel_rfl) (by kernel_rfl) (fun _ _ _ h => h) (by rfl) ?_ ?_
            rotate_left
            · (intro w hSw; (try dsimp only at hSw); go_simp; try with_reducible rfl)
            try simp only [Act.put, List.setIfInBounds_toArray, List.set_cons_zero, List.set_cons_succ]
            refine take_no 25 147 (by assumption) rfl rfl (by kernel_rfl) (by kernel_rfl) (by kernel_rfl) (fun _ _ _ h => h) (by rfl) ?_
            try simp only [Act.put, List.setIfInBounds_toArray, List.set_cons_zero, List.set_cons_succ]
            refine take_no 27 149 (by assumption) rfl rfl (by kernel_rfl) (by kernel_rfl) (by kernel_rfl) (fun _ _ _ h => h) (by rfl) ?_
            try simp only [Act.put, List.setIfInBounds_toArray, List.set_cons_zero, List.set_cons_succ]
            refine take_no 26 148 (by assumption) rfl rfl (by kernel_rfl) (by kernel_rfl) (by kernel_rfl) (fun _ _ _ h => h) (by rfl) ?_
            try simp only [Act.put, List.setIfInBounds_toArray, List.set_cons_zero, List.set_cons_succ]
            refine take_no 28 150 (by assumption) rfl rfl (by kernel_rfl) (by kernel_rfl) (by kernel_rfl) (fun _ _ _ h => h) (by rfl) ?_
            try simp only [Act.put, List.setIfInBounds_toArray, List.set_cons_zero, List.set_cons_succ]
            refine take_yes 29 151 ?_ (by assumption) rfl rfl (by kernel_rfl) (by kernel_rfl) (by kernel_rfl) (fun _ _ _ h => h) (by rfl) ?_ ?_
            rotate_left
            · (intro w hSw; (try dsimp only at hSw); go_simp; try with_reducible rfl)
            try simp only [Act.put, List.setIfInBounds_toArray, List.set_cons_zero, List.set_cons_succ]
            refine take_yes 30 152 ?_ (by assumption) rfl rfl (by kernel_rfl) (by kernel_rfl) (by kernel_rfl) (fun _ _ _ h => h) (by rfl) ?_ ?_
            rotate_left
            · (intro w hSw; (try dsimp only at hSw); go_simp; try with_reducible rfl)
            try simp only [Act.put, List.setIfInBounds_toArray, List.set_cons_zero, List.set_cons_succ]
            refine take_yes 31 153 ?_ (by assumption) rfl rfl (by kernel_rfl) (by kernel_rfl) (by kernel_rfl) (fun _ _ _ h => h) (by rfl) ?_ ?_
            rotate_left
            · (intro w hSw; (try dsimp only at hSw); go_simp; try with_reducible rfl)
            try simp only [Act.put, List.setIfInBounds_toArray, List.set_cons_zero, List.set_cons_succ]
            refine take_yes 32 154 ?_ (by assumption) rfl rfl (by kernel_rfl) (by kernel_rfl) (by kernel_rfl) (fun _ _ _ h => h) (by rfl) ?_ ?_
            rotate_left
            · (intro w hSw; (try dsimp only at hSw); go_simp; try with_reducible rfl)
            try simp only [Act.put, List.setIfInBounds_toArray, List.set_cons_zero, List.set_cons_succ]
            refine take_yes 34 156 ?_ (by assumption) rfl rfl (by kernel_rfl) (by kernel_rfl) (by kernel_rfl) (fun _ _ _ h => h) (by rfl) ?_ ?_
            rotate_left
            · (intro w hSw; (try dsimp only at hSw); go_simp; try with_reducible rfl)
            try simp only [Act.put, List.setIfInBounds_toArray, List.set_cons_zero, List.set_cons_succ]
            refine wpAnyH_ready (rs := [33]) (by kernel_rfl) (by simp) ?_
            refine AllReadyH.cons (o := { dst := some 155, op := .call { callee := .value (.func 26), args := #[.tmp 154], argTypes := #[42] }, type := 51, pos := _, after := _, guard := some (31, false) }) rfl (fun K hK => ?_) AllReadyH.nil
            go_simp
            refine (rend_done _ b2 g2 xs _ _ _ HGd.out.r (fun e => absurd e E2.out) hll).mono ?_
            rintro e w12 ⟨rfl, hc⟩
            have x1 := hc.keep0 x1
            have x2 := hc.keep0 x2
            have x3 := hc.keep0 x3
            have y0 := hc.keep0 y0
            have y1 := hc.keep0 y1
            have HGd := Lib.hid (HGd.out.past hc)
            clear hc
            go_wp2_with fail
            refine hK.out _ _ ⟨x1, x2, x3, y0, y1⟩ (fun hHeld => ?_)
            clear hK K
            try simp only [Act.put, List.setIfInBounds_toArray, List.set_cons_zero, List.set_cons_succ]
            refine wpAnyH_ready (rs := [35]) (by kernel_rfl) (by simp) ?_
            refine AllReadyH.cons (o := { dst := some 157, op := .call { callee := .value (.func 25), args := #[.tmp 156], argTypes := #[42] }, type := 51, pos := _, after := _, guard := some (31, false) }) rfl (fun K hK => ?_) AllReadyH.nil
            go_simp
            refine (rfault_any _ b2 g2 xs _ _ _ HGd.out.r).mono ?_
            rintro e w13 ⟨rfl, hc⟩
            have x1 := hc.keep0 x1
            have x2 := hc.keep0 x2
            have x3 := hc.keep0 x3
            have y0 := hc.keep0 y0
            have y1 := hc.keep0 y1
            have HGd := Lib.hid (HGd.out.past hc)
            clear hc
            go_wp2_with fail
            refine hK.out _ _ ⟨x1, x2, x3, y0, y1⟩ (fun hHeld => ?_)
            clear hK K
            try simp only [Act.put, List.setIfInBounds_toArray, List.set_cons_zero, List.set_cons_succ]
            refine take_yes 36 158 ?_ (by assumption) rfl rfl (by kernel_rfl) (by kernel_rfl) (by kernel_rfl) (fun _ _ _ h => h) (by rfl) ?_ ?_
            rotate_left
            · (intro w hSw; (try dsimp only at hSw); go_simp; try with_reducible rfl)
            try simp only [Act.put, List.setIfInBounds_toArray, List.set_cons_zero, List.set_cons_succ]
            refine take_yes 37 159 ?_ (by assumption) rfl rfl (by kernel_rfl) (by kernel_rfl) (by kernel_rfl) (fun _ _ _ h => h) (by rfl) ?_ ?_
            rotate_left
            · (intro w hSw; (try dsimp only at hSw); go_simp; try with_reducible rfl)
            try simp only [Act.put, List.setIfInBounds_toArray, List.set_cons_zero, List.set_cons_succ]
            refine wpAnyH_done (by kernel_rfl) ?_ _
            all_goals
              go_wp2
              exact ⟨⟨j + 1, _, g, _, _, by omega, by go_num, HGd.out.le, HGd.out.r, HGd.out.wr, hg, hgb, hgg, HGd.out.chg⟩, by simp [intOf]; omega⟩
          · obtain ⟨b6, b7⟩ := B5.out hf
            have hf' : (fe != 0) = true := by simpa using hf
            subst b6 b7
            subst b1 b4
            go_wp2
            have HGd := Lib.hid (HGt.out.past ((Chg.refl [] w10).drew))
            go_region_held3 (fun w' => w'.cell? ⟨s11, 1, none⟩ = some (.int .i64 0) ∧ w'.cell? ⟨s11, 2, none⟩ = some (.string ⟨#[]⟩) ∧ w'.cell? ⟨s11, 3, none⟩ = some (.slice none 0 0) ∧ w'.cell? ⟨s10, 0, none⟩ = some (.int .i64 fe2) ∧ w'.cell? ⟨s10, 1, none⟩ = some (.int .i64 fa2)) (first | exact ⟨x1, x2, x3, y0, y1⟩ | go_keep)
              ((first
                | (go_at_call 22; refine (rat_any _ b2 g2 xs _ _ _ HGd.out.r).mono ?_; rintro e w12 ⟨rfl, rfl⟩)
                | (go_at_call 25; refine (rfault_any _ b2 g2 xs _ _ _ HGd.out.r).mono ?_; rintro e w12 ⟨rfl, hc⟩; have x1 := hc.keep0 x1; have x2 := hc.keep0 x2; have x3 := hc.keep0 x3; have y0 := hc.keep0 y0; have y1 := hc.keep0 y1; have HGd := Lib.hid (HGd.out.past hc); clear hc)
                | (go_at_call 26; refine (rend_done _ b2 g2 xs _ _ _ HGd.out.r (fun e => absurd e E2.out) hll).mono ?_; rintro e w12 ⟨rfl, hc⟩; have x1 := hc.keep0 x1; have x2 := hc.keep0 x2; have x3 := hc.keep0 x3; have y0 := hc.keep0 y0; have y1 := hc.keep0 y1; have HGd := Lib.hid (HGd.out.past hc); clear hc)))
            all_goals
              go_wp2
              exact ⟨⟨j + 1, _, g, _, _, by omega, by go_num, HGd.out.le, HGd.out.r, HGd.out.wr, hg, hgb, hgg, HGd.out.chg⟩, by simp [intOf]; omega⟩
      by_cases ha1 : ak = 1
      · subst ha1
        have hll : xs.length ≤ 140737488351232 := by omega
        go_wp2_with fail
        refine (rtext_any _ b2 g2 xs p fe fa hi HR6.out hp hll).mono ?_
        rintro e w7 ⟨rfl, r7, c7⟩
        have x7 := c7.at_ HX.out (List.not_mem_cons_of_ne_of_not_mem d3 List.not_mem_nil)
        have f1 := free_of x7 2
        have x71 : w7.cell? ⟨s11, 2, none⟩ = some (.string ⟨#[]⟩) := cell_of x7 2
        have R7 := Lib.hid r7
        have C7 := Lib.hid c7
        have X7 := Lib.hid x7
        clear r7 c7 x7
        go_upto_region 16 with fail
        have hgot : Got w (w7.setCell ⟨s11, 2, none⟩ (.string (strOf (rRaw xs p fe fa hi).1))) b g b2 g2 s10 s11 xs p fe fa 1 (rRaw xs p fe fa hi).2.1 (rRaw xs p fe fa hi).2.2.1 (rRaw xs p fe fa hi).2.2.2 0 (strOf (rRaw xs p fe fa hi).1) none 0 0 [] := by
          obtain ⟨m1, m2, m3, m4⟩ := raw_math fe fa hi hs1 hp
          have hq := heap_setCell_same w7 s11 2 _ _ (.string (strOf (rRaw xs p fe fa hi).1)) X7.out
          exact got_mk HC6.out R7.out HW6.out C7.out ((Chg.refl _ _).setCell (by simp) _) (by simpa using hq) HY.out d1 hgb d3 d4 d5 d6 d7 d8 hb2w d9 (Bs.nil _ _) (.inl rfl) m1 m2
            (fun e => by unfold wAct; rw [if_neg (by decide), if_pos rfl, strOf_data]; exact m3 e) (fun e => by obtain ⟨t1, t2, t3⟩ := rRaw_failed e; exact ⟨rfl, by rw [t1]; rfl, rfl, t2, t3⟩) ⟨by rw [strOf_size]; exact m4, by decide⟩
        have HG := Lib.hid hgot
        clear hgot R7 C7 X7 f1 x71 k0 k1 k2
        generalize rRaw xs p fe fa hi = R at *
        obtain ⟨ts, p2, fe2, fa2⟩ := R
        generalize strOf ts = TS at *
        generalize w7.setCell ⟨s11, 2, none⟩ (.string TS) = w8 at *
        go_wp2_with fail
        have hle1 := HG.out.le
        have v1 : (p : Int) ≤ p2 := by have := HG.out.ge; omega
        have v2 : (p2 : Int) ≤ xs.length := by omega
        refine (rat_any w8 b2 g2 xs p2 fe2 fa2 HG.out.r).mono ?_
        rintro r w9 ⟨rfl, rfl⟩
        go_wp2_with fail
        refine (rat_any w8 b2 g2 xs p2 fe2 fa2 HG.out.r).mono ?_
        rintro r w9 ⟨rfl, rfl⟩
        go_wp2_with fail
        refine (rat_any w8 b2 g2 xs p2 fe2 fa2 HG.out.r).mono ?_
        rintro r w9 ⟨rfl, rfl⟩
        go_wp2_with fail
        refine (rleft_any w8 b2 g2 xs p2 fe2 fa2 HG.out.r hle1 (by omega)).mono ?_
        rintro r w9 ⟨rfl, c9⟩
        have HG9 := Lib.hid (HG.out.past c9)
        clear c9
        have v3 : (p2 : Int) + ((xs.length : Int) - p2) = xs.length := by omega
        go_wp2_with fail
        refine (rfault_any w9 b2 g2 xs p2 fe2 fa2 HG9.out.r).mono ?_
        rintro r w10 ⟨rfl, c10⟩
        have HGt := Lib.hid (HG9.out.past c10)
        clear c10 HG HG9 v3
        have x0 := cell_of HGt.out.x 0
        have x1 := cell_of HGt.out.x 1
        have x2 := cell_of HGt.out.x 2
        have x3 := cell_of HGt.out.x 3
        have y0 := cell_of HGt.out.y 0
        have y1 := cell_of HGt.out.y 1
        simp only [List.getElem?_toArray, List.getElem?_cons_succ, List.getElem?_cons_zero] at x0 x1 x2 x3 y0 y1
        by_cases e2 : fe2 = 0
        · subst e2
          clear y0 y1
          go_wp2_with fail
          refine (write_any w10 b g (xs.take p) 0 _ _ _ _ _ _ _ HGt.out.wr (by simp; omega) (Nat.le_trans HGt.out.small.1 (by decide)) (Nat.le_trans HGt.out.small.2 (by decide)) HGt.out.bs HGt.out.ap).mono ?_
          rintro r w11 ⟨rfl, hB⟩
          rw [HGt.out.good rfl] at hB
          have hfin := again_fin HGt.out.r HGt.out.wr HGt.out.chg hB hbw hg hgb hgg d1 (fun e => hne.2 e.symm)
          have HF := Lib.hid hfin
          clear hB hfin x0 x1 x2 x3
          go_wp2
          obtain ⟨g', f1, f2, f3, f4, f5, f6⟩ := HF.out
          exact ⟨⟨j + 1, p2, g', 0, fa2, by omega, by go_num, hle1, f1, f2, f3, f4, f5, f6⟩, by simp [intOf]; omega⟩
        · obtain ⟨b1, bS, b3, b4, b5⟩ := HGt.out.bad e2
          have e2' : (fe2 == 0) = false := by simpa using e2
          have E2 := Lib.hid e2
          have B5 := Lib.hid b5
          clear e2 b5 x0
          by_cases hf : fe = 0
          · have hf' : (fe != 0) = false := by subst hf; rfl
            clear hf
            subst bS b4
            go_wp2
            have HGd := Lib.hid (HGt.out.past ((Chg.refl [] w10).drew))
            have x1 : w10.drew.cell? _ = _ := x1
            have x2 : w10.drew.cell? _ = _ := x2
            have x3 : w10.drew.cell? _ = _ := x3
            have y0 : w10.drew.cell? _ = _ := y0
            have y1 : w10.drew.cell? _ = _ := y1
            refine wp_region_held_drew (S := (fun w' : World => w'.cell? ⟨s11, 1, none⟩ = some (.int .i64 0) ∧ w'.cell? ⟨s11, 2, none⟩ = some (.string ⟨#[]⟩) ∧ w'.cell? ⟨s11, 3, none⟩ = some (.slice none 0 0) ∧ w'.cell? ⟨s10, 0, none⟩ = some (.int .i64 fe) ∧ w'.cell? ⟨s10, 1, none⟩ = some (.int .i64 fa))) (by kernel_rfl) ⟨x1, x2, x3, y0, y1⟩ (fun hHeld => ?_)
            refine take_yes 0 122 ?_ (by assumption) rfl rfl (by kernel_rfl) (by kernel_rfl) (by kernel_rfl) (fun _ _ _ h => h) (by rfl) ?_ ?_
            rotate_left
            · (intro w hSw; (try dsimp only at hSw); go_simp; try with_reducible rfl)
            try simp only [Act.put, List.setIfInBounds_toArray, List.set_cons_zero, List.set_cons_succ]
            refine take_yes 1 123 ?_ (by assumption) rfl rfl (by kernel_rfl) (by kernel_rfl) (by kernel_rfl) (fun _ _ _ h => h) (by rfl) ?_ ?_
            rotate_left
            · (intro w hSw; (try dsimp only at hSw); go_simp; try with_reducible rfl)
            try simp only [Act.put, List.setIfInBounds_toArray, List.set_cons_zero, List.set_cons_succ]
            refine take_yes 2 124 ?_ (by assumption) rfl rfl (by kernel_rfl) (by kernel_rfl) (by kernel_rfl) (fun _ _ _ h => h) (by rfl) ?_ ?_
            rotate_left
            · (intro w hSw; (try dsimp only at hSw); go_simp; try with_reducible rfl)
            try simp only [Act.put, List.setIfInBounds_toArray, List.set_cons_zero, List.set_cons_succ]
            refine take_yes 3 125 ?_ (by assumption) rfl rfl (by kernel_rfl) (by kernel_rfl) (by kernel_rfl) (fun _ _ _ h => h) (by rfl) ?_ ?_
            rotate_left
            · (intro w hSw; (try dsimp only at hSw); go_simp; try with_reducible rfl)
            try simp only [Act.put, List.setIfInBounds_toArray, List.set_cons_zero, List.set_cons_succ]
            refine take_yes 4 126 ?_ (by assumption) rfl rfl (by kernel_rfl) (by kernel_rfl) (by kernel_rfl) (fun _ _ _ h => h) (by rfl) ?_ ?_
            rotate_left
            · (intro w hSw; (try dsimp only at hSw); go_simp; try with_reducible rfl)
            try simp only [Act.put, List.setIfInBounds_toArray, List.set_cons_zero, List.set_cons_succ]
            refine take_yes 5 127 ?_ (by assumption) rfl rfl (by kernel_rfl) (by kernel_rfl) (by kernel_rfl) (fun _ _ _ h => h) (by rfl) ?_ ?_
            rotate_left
            · (intro w hSw; (try dsimp only at hSw); go_simp; try with_reducible rfl)
            try simp only [Act.put, List.setIfInBounds_toArray, List.set_cons_zero, List.set_cons_succ]
            refine take_yes 6 128 ?_ (by assumption) rfl rfl (by kernel_rfl) (by kernel_rfl) (by kernel_rfl) (fun _ _ _ h => h) (by rfl) ?_ ?_
            rotate_left
            · (intro w hSw; (try dsimp only at hSw); go_simp; try with_reducible rfl)
            try simp only [Act.put, List.setIfInBounds_toArray, List.set_cons_zero, List.set_cons_succ]
            refine take_yes 7 129 ?_ (by assumption) rfl rfl (by kernel_rfl) (by kernel_rfl) (by kernel_rfl) (fun _ _ _ h => h) (by rfl) ?_ ?_
            rotate_left
            · (intro w hSw; (try dsimp only at hSw); go_simp; try with_reducible rfl)
            try simp only [Act.put, List.setIfInBounds_toArray, List.set_cons_zero, List.set_cons_succ]
            refine take_yes 8 130 ?_ (by assumption) rfl rfl (by kernel_rfl) (by kernel_rfl) (by kernel_rfl) (fun _ _ _ h => h) (by rfl) ?_ ?_
            rotate_left
            · (intro w hSw; (try dsimp only at hSw); go_simp; try with_reducible rfl)
            try simp only [Act.put, List.setIfInBounds_toArray, List.set_cons_zero, List.set_cons_succ]
            refine take_yes 9 131 ?_ (by assumption) rfl rfl (by kernel_rfl) (by kernel_rfl) (by kernel_rfl) (fun _ _ _ h => h) (by rfl) ?_ ?_
            rotate_left
            · (intro w hSw; (try dsimp only at hSw); go_simp; try with_reducible rfl)
            try simp only [Act.put, List.setIfInBounds_toArray, List.set_cons_zero, List.set_cons_succ]
            refine take_yes 10 132 ?_ (by assumption) rfl rfl (by kernel_rfl) (by kernel_rfl) (by kernel_rfl) (fun _ _ _ h => h) (by rfl) ?_ ?_
            rotate_left
            · (intro w hSw; (try dsimp only at hSw); go_simp; try with_reducible rfl)
            try simp only [Act.put, List.setIfInBounds_toArray, List.set_cons_zero, List.set_cons_succ]
            refine take_yes 11 133 ?_ (by assumption) rfl rfl (by kernel_rfl) (by kernel_rfl) (by kernel_rfl) (fun _ _ _ h => h) (by rfl) ?_ ?_
            rotate_left
            · (intro w hSw; (try dsimp only at hSw); go_simp; try with_reducible rfl)
            try simp only [Act.put, List.setIfInBounds_toArray, List.set_cons_zero, List.set_cons_succ]
            refine take_yes 12 134 ?_ (by assumption) rfl rfl (by kernel_rfl) (by kernel_rfl) (by kernel_rfl) (fun _ _ _ h => h) (by rfl) ?_ ?_
            rotate_left
            · (intro w hSw; (try dsimp only at hSw); go_simp; try with_reducible rfl)
            try simp only [Act.put, List.setIfInBounds_toArray, List.set_cons_zero, List.set_cons_succ]
            refine take_yes 13 135 ?_ (by assumption) rfl rfl (by kernel_rfl) (by kernel_rfl) (by kernel_rfl) (fun _ _ _ h => h) (by rfl) ?_ ?_
            rotate_left
            · (intro w hSw; (try dsimp only at hSw); go_simp; try with_reducible rfl)
            try simp only [Act.put, List.setIfInBounds_toArray, List.set_cons_zero, List.set_cons_succ]
            refine take_yes 14 136 ?_ (by assumption) rfl rfl (by kernel_rfl) (by kernel_rfl) (by kernel_rfl) (fun _ _ _ h => h) (by rfl) ?_ ?_
            rotate_left
            · (intro w hSw; (try dsimp only at hSw); go_simp; try with_reducible rfl)
            try simp only [Act.put, List.setIfInBounds_toArray, List.set_cons_zero, List.set_cons_succ]
            refine take_yes 15 137 ?_ (by assumption) rfl rfl (by kernel_rfl) (by kernel_rfl) (by kernel_rfl) (fun _ _ _ h => h) (by rfl) ?_ ?_
            rotate_left
            · (intro w hSw; (try dsimp only at hSw); go_simp; try with_reducible rfl)
            try simp only [Act.put, List.setIfInBounds_toArray, List.set_cons_zero, List.set_cons_succ]
            refine take_yes 17 139 ?_ (by assumption) rfl rfl (by kernel_rfl) (by kernel_rfl) (by kernel_rfl) (fun _ _ _ h => h) (by rfl) ?_ ?_
            rotate_left
            · (intro w hSw; (try dsimp only at hSw); go_simp; try with_reducible rfl)
            try simp only [Act.put, List.setIfInBounds_toArray, List.set_cons_zero, List.set_cons_succ]
            refine wpAnyH_ready (rs := [16]) (by kernel_rfl) (by simp) ?_
            refine AllReadyH.cons (o := { dst := some 138, op := .call { callee := .value (.func 22), args := #[.tmp 137], argTypes := #[42] }, type := 3, pos := _, after := _, guard := some (14, false) }) rfl (fun K hK => ?_) AllReadyH.nil
            go_simp
            refine (rat_any _ b2 g2 xs _ _ _ HGd.out.r).mono ?_
            rintro e w12 ⟨rfl, rfl⟩
            go_wp2_with fail
            refine hK.out _ _ ⟨x1, x2, x3, y0, y1⟩ (fun hHeld => ?_)
            clear hK K
            try simp only [Act.put, List.setIfInBounds_toArray, List.set_cons_zero, List.set_cons_succ]
            refine take_yes 18 140 ?_ (by assumption) rfl rfl (by kernel_rfl) (by kernel_rfl) (by kernel_rfl) (fun _ _ _ h => h) (by rfl) ?_ ?_
            rotate_left
            · (intro w hSw; (try dsimp only at hSw); go_simp; try with_reducible rfl)
            try simp only [Act.put, List.setIfInBounds_toArray, List.set_cons_zero, List.set_cons_succ]
            refine take_yes 19 141 ?_ (by assumption) rfl rfl (by kernel_rfl) (by kernel_rfl) (by kernel_rfl) (fun _ _ _ h => h) (by rfl) ?_ ?_
            rotate_left
            · (intro w hSw; (try dsimp only at hSw); go_simp; try with_reducible rfl)
            try simp only [Act.put, List.setIfInBounds_toArray, List.set_cons_zero, List.set_cons_succ]
            refine take_yes 20 142 ?_ (by assumption) rfl rfl (by kernel_rfl) (by kernel_rfl) (by kernel_rfl) (fun _ _ _ h => h) (by rfl) ?_ ?_
            rotate_left
            · (intro w hSw; (try dsimp only at hSw); go_simp; try with_reducible rfl)
            try simp only [Act.put, List.setIfInBounds_toArray, List.set_cons_zero, List.set_cons_succ]
            refine take_yes 21 143 ?_ (by assumption) rfl rfl (by kernel_rfl) (by kernel_rfl) (by kernel_rfl) (fun _ _ _ h => h) (by rfl) ?_ ?_
            rotate_left
            · (intro w hSw; (try dsimp only at hSw); go_simp; try with_reducible rfl)
            try simp only [Act.put, List.setIfInBounds_toArray, List.set_cons_zero, List.set_cons_succ]
            refine take_yes 22 144 ?_ (by assumption) rfl rfl (by kernel_rfl) (by kernel_rfl) (by kernel_rfl) (fun _ _ _ h => h) (by rfl) ?_ ?_
            rotate_left
            · (intro w hSw; (try dsimp only at hSw); go_simp; try with_reducible rfl)
            try simp only [Act.put, List.setIfInBounds_toArray, List.set_cons_zero, List.set_cons_succ]
            refine take_yes 23 145 ?_ (by assumption) rfl rfl (by kernel_rfl) (by kernel_rfl) (by kernel_rfl) (fun _ _ _ h => h) (by rfl) ?_ ?_
            rotate_left
            · (intro w hSw; (try dsimp only at hSw); go_simp; try with_reducible rfl)
            try simp only [Act.put, List.setIfInBounds_toArray, List.set_cons_zero, List.set_cons_succ]
            refine take_yes 24 146 ?_ (by assumption) rfl rfl (by kernel_rfl) (by kernel_rfl) (by kernel_rfl) (fun _ _ _ h => h) (by rfl) ?_ ?_
            rotate_left
            · (intro w hSw; (try dsimp only at hSw); go_simp; try with_reducible rfl)
            try simp only [Act.put, List.setIfInBounds_toArray, List.set_cons_zero, List.set_cons_succ]
            refine take_no 25 147 (by assumption) rfl rfl (by kernel_rfl) (by kernel_rfl) (by kernel_rfl) (fun _ _ _ h => h) (by rfl) ?_
            try simp only [Act.put, List.setIfInBounds_toArray, List.set_cons_zero, List.set_cons_succ]
            refine take_no 27 149 (by assumption) rfl rfl (by kernel_rfl) (by kernel_rfl) (by kernel_rfl) (fun _ _ _ h => h) (by rfl) ?_
            try simp only [Act.put, List.setIfInBounds_toArray, List.set_cons_zero, List.set_cons_succ]
            refine take_no 26 148 (by assumption) rfl rfl (by kernel_rfl) (by kernel_rfl) (by kernel_rfl) (fun _ _ _ h => h) (by rfl) ?_
            try simp only [Act.put, List.setIfInBounds_toArray, List.set_cons_zero, List.set_cons_succ]
            refine take_no 28 150 (by assumption) rfl rfl (by kernel_rfl) (by kernel_rfl) (by kernel_rfl) (fun _ _ _ h => h) (by rfl) ?_
            try simp only [Act.put, List.setIfInBounds_toArray, List.set_cons_zero, List.set_cons_succ]
            refine take_yes 29 151 ?_ (by assumption) rfl rfl (by kernel_rfl) (by kernel_rfl) (by kernel_rfl) (fun _ _ _ h => h) (by rfl) ?_ ?_
            rotate_left
            · (intro w hSw; (try dsimp only at hSw); go_simp; try with_reducible rfl)
            try simp only [Act.put, List.setIfInBounds_toArray, List.set_cons_zero, List.set_cons_succ]
            refine take_yes 30 152 ?_ (by assumption) rfl rfl (by kernel_rfl) (by kernel_rfl) (by kernel_rfl) (fun _ _ _ h => h) (by rfl) ?_ ?_
            rotate_left
            · (intro w hSw; (try dsimp only at hSw); go_simp; try with_reducible rfl)
            try simp only [Act.put, List.setIfInBounds_toArray, List.set_cons_zero, List.set_cons_succ]
            refine take_yes 31 153 ?_ (by assumption) rfl rfl (by kernel_rfl) (by kernel_rfl) (by kernel_rfl) (fun _ _ _ h => h) (by rfl) ?_ ?_
            rotate_left
            · (intro w hSw; (try dsimp only at hSw); go_simp; try with_reducible rfl)
            try simp only [Act.put, List.setIfInBounds_toArray, List.set_cons_zero, List.set_cons_succ]
            refine take_yes 32 154 ?_ (by assumption) rfl rfl (by kernel_rfl) (by kernel_rfl) (by kernel_rfl) (fun _ _ _ h => h) (by rfl) ?_ ?_
            rotate_left
            · (intro w hSw; (try dsimp only at hSw); go_simp; try with_reducible rfl)
            try simp only [Act.put, List.setIfInBounds_toArray, List.set_cons_zero, List.set_cons_succ]
            refine take_yes 34 156 ?_ (by assumption) rfl rfl (by kernel_rfl) (by kernel_rfl) (by kernel_rfl) (fun _ _ _ h => h) (by rfl) ?_ ?_
            rotate_left
            · (intro w hSw; (try dsimp only at hSw); go_simp; try with_reducible rfl)
            try simp only [Act.put, List.setIfInBounds_toArray, List.set_cons_zero, List.set_cons_succ]
            refine wpAnyH_ready (rs := [33]) (by kernel_rfl) (by simp) ?_
            refine AllReadyH.cons (o := { dst := some 155, op := .call { callee := .value (.func 26), args := #[.tmp 154], argTypes := #[42] }, type := 51, pos := _, after := _, guard := some (31, false) }) rfl (fun K hK => ?_) AllReadyH.nil
            go_simp
            refine (rend_done _ b2 g2 xs _ _ _ HGd.out.r (fun e => absurd e E2.out) hll).mono ?_
            rintro e w12 ⟨rfl, hc⟩
            have x1 := hc.keep0 x1
            have x2 := hc.keep0 x2
            have x3 := hc.keep0 x3
            have y0 := hc.keep0 y0
            have y1 := hc.keep0 y1
            have HGd := Lib.hid (HGd.out.past hc)
            clear hc
            go_wp2_with fail
            refine hK.out _ _ ⟨x1, x2, x3, y0, y1⟩ (fun hHeld => ?_)
            clear hK K
            try simp only [Act.put, List.setIfInBounds_toArray, List.set_cons_zero, List.set_cons_succ]
            refine wpAnyH_ready (rs := [35]) (by kernel_rfl) (by simp) ?_
            refine AllReadyH.cons (o := { dst := some 157, op := .call { callee := .value (.func 25), args := #[.tmp 156], argTypes := #[42] }, type := 51, pos := _, after := _, guard := some (31, false) }) rfl (fun K hK => ?_) AllReadyH.nil
            go_simp
            refine (rfault_any _ b2 g2 xs _ _ _ HGd.out.r).mono ?_
            rintro e w13 ⟨rfl, hc⟩
            have x1 := hc.keep0 x1
            have x2 := hc.keep0 x2
            have x3 := hc.keep0 x3
            have y0 := hc.keep0 y0
            have y1 := hc.keep0 y1
            have HGd := Lib.hid (HGd.out.past hc)
            clear hc
            go_wp2_with fail
            refine hK.out _ _ ⟨x1, x2, x3, y0, y1⟩ (fun hHeld => ?_)
            clear hK K
            try simp only [Act.put, List.setIfInBounds_toArray, List.set_cons_zero, List.set_cons_succ]
            refine take_yes 36 158 ?_ (by assumption) rfl rfl (by kernel_rfl) (by kernel_rfl) (by kernel_rfl) (fun _ _ _ h => h) (by rfl) ?_ ?_
            rotate_left
            · (intro w hSw; (try dsimp only at hSw); go_simp; try with_reducible rfl)
            try simp only [Act.put, List.setIfInBounds_toArray, List.set_cons_zero, List.set_cons_succ]
            refine take_yes 37 159 ?_ (by assumption) rfl rfl (by kernel_rfl) (by kernel_rfl) (by kernel_rfl) (fun _ _ _ h => h) (by rfl) ?_ ?_
            rotate_left
            · (intro w hSw; (try dsimp only at hSw); go_simp; try with_reducible rfl)
            try simp only [Act.put, List.setIfInBounds_toArray, List.set_cons_zero, List.set_cons_succ]
            refine wpAnyH_done (by kernel_rfl) ?_ _
            all_goals
              go_wp2
              exact ⟨⟨j + 1, _, g, _, _, by omega, by go_num, HGd.out.le, HGd.out.r, HGd.out.wr, hg, hgb, hgg, HGd.out.chg⟩, by simp [intOf]; omega⟩
          · obtain ⟨b6, b7⟩ := B5.out hf
            have hf' : (fe != 0) = true := by simpa using hf
            subst b6 b7
            subst bS b4
            go_wp2
            have HGd := Lib.hid (HGt.out.past ((Chg.refl [] w10).drew))
            go_region_held3 (fun w' => w'.cell? ⟨s11, 1, none⟩ = some (.int .i64 0) ∧ w'.cell? ⟨s11, 2, none⟩ = some (.string ⟨#[]⟩) ∧ w'.cell? ⟨s11, 3, none⟩ = some (.slice none 0 0) ∧ w'.cell? ⟨s10, 0, none⟩ = some (.int .i64 fe2) ∧ w'.cell? ⟨s10, 1, none⟩ = some (.int .i64 fa2)) (first | exact ⟨x1, x2, x3, y0, y1⟩ | go_keep)
              ((first
                | (go_at_call 22; refine (rat_any _ b2 g2 xs _ _ _ HGd.out.r).mono ?_; rintro e w12 ⟨rfl, rfl⟩)
                | (go_at_call 25; refine (rfault_any _ b2 g2 xs _ _ _ HGd.out.r).mono ?_; rintro e w12 ⟨rfl, hc⟩; have x1 := hc.keep0 x1; have x2 := hc.keep0 x2; have x3 := hc.keep0 x3; have y0 := hc.keep0 y0; have y1 := hc.keep0 y1; have HGd := Lib.hid (HGd.out.past hc); clear hc)
                | (go_at_call 26; refine (rend_done _ b2 g2 xs _ _ _ HGd.out.r (fun e => absurd e E2.out) hll).mono ?_; rintro e w12 ⟨rfl, hc⟩; have x1 := hc.keep0 x1; have x2 := hc.keep0 x2; have x3 := hc.keep0 x3; have y0 := hc.keep0 y0; have y1 := hc.keep0 y1; have HGd := Lib.hid (HGd.out.past hc); clear hc)))
            all_goals
              go_wp2
              exact ⟨⟨j + 1, _, g, _, _, by omega, by go_num, HGd.out.le, HGd.out.r, HGd.out.wr, hg, hgb, hgg, HGd.out.chg⟩, by simp [intOf]; omega⟩
      · have ea0 : (ak == 0) = false := by simpa using ha0
        have ea1 : (ak == 1) = false := by simpa using ha1
        have hll : xs.length ≤ 140737488351232 := by omega
        go_wp2_with fail
        refine (rraw_any _ b2 g2 xs p fe fa hi HR6.out hp hll).mono ?_
        rintro e w7 ⟨A7, c7', rfl, o7, n7, r7, c7⟩
        have x7 := c7.at_ HX.out (List.not_mem_cons_of_ne_of_not_mem d3 List.not_mem_nil)
        have f1 := free_of x7 3
        have x71 : w7.cell? ⟨s11, 3, none⟩ = some (.slice none 0 0) := cell_of x7 3
        have R7 := Lib.hid r7
        have C7 := Lib.hid c7
        have X7 := Lib.hid x7
        have O7 := Lib.hid o7
        have N7 := Lib.hid n7
        clear r7 c7 x7 o7 n7
        go_upto_region 16 with fail
        have hgot : Got w (w7.setCell ⟨s11, 3, none⟩ (.slice A7 (rRaw xs p fe fa hi).1.length c7')) b g b2 g2 s10 s11 xs p fe fa ak (rRaw xs p fe fa hi).2.1 (rRaw xs p fe fa hi).2.2.1 (rRaw xs p fe fa hi).2.2.2 0 ⟨#[]⟩ A7 (rRaw xs p fe fa hi).1.length c7' (rRaw xs p fe fa hi).1 := by
          obtain ⟨m1, m2, m3, m4⟩ := raw_math fe fa hi hs1 hp
          have hq := heap_setCell_same w7 s11 3 _ _ (.slice A7 (rRaw xs p fe fa hi).1.length c7') X7.out
          have cs : Chg [s11] w7 (w7.setCell ⟨s11, 3, none⟩ (.slice A7 (rRaw xs p fe fa hi).1.length c7')) := (Chg.refl _ _).setCell (by simp) _
          have hlt := HW6.out.lt
          exact got_mk HC6.out R7.out HW6.out C7.out cs (by simpa using hq) HY.out d1 hgb d3 d4 d5 d6 d7 d8 hb2w d9 (O7.out.reads.chg cs (fun a e => by simpa using O7.out.ne X7.out (by decide) a e)) (.inr fun a e => by have := N7.out a e; omega) m1 m2
            (fun e => by unfold wAct; rw [if_neg ha0, if_neg ha1]; exact m3 e) (fun e => by obtain ⟨t1, t2, t3⟩ := rRaw_failed e; exact ⟨rfl, rfl, by rw [t1]; rfl, t2, t3⟩) ⟨by decide, m4⟩
        have HG := Lib.hid hgot
        clear hgot R7 C7 X7 O7 N7 f1 x71 k0 k1 k2
        generalize rRaw xs p fe fa hi = R at *
        obtain ⟨ts, p2, fe2, fa2⟩ := R
        generalize hml : ts.length = m1 at *
        clear hml
        generalize w7.setCell ⟨s11, 3, none⟩ (.slice A7 m1 c7') = w8 at *
        go_wp2_with fail
        have hle1 := HG.out.le
        have v1 : (p : Int) ≤ p2 := by have := HG.out.ge; omega
        have v2 : (p2 : Int) ≤ xs.length := by omega
        refine (rat_any w8 b2 g2 xs p2 fe2 fa2 HG.out.r).mono ?_
        rintro r w9 ⟨rfl, rfl⟩
        go_wp2_with fail
        refine (rat_any w8 b2 g2 xs p2 fe2 fa2 HG.out.r).mono ?_
        rintro r w9 ⟨rfl, rfl⟩
        go_wp2_with fail
        refine (rat_any w8 b2 g2 xs p2 fe2 fa2 HG.out.r).mono ?_
        rintro r w9 ⟨rfl, rfl⟩
        go_wp2_with fail
        refine (rleft_any w8 b2 g2 xs p2 fe2 fa2 HG.out.r hle1 (by omega)).mono ?_
        rintro r w9 ⟨rfl, c9⟩
        have HG9 := Lib.hid (HG.out.past c9)
        clear c9
        have v3 : (p2 : Int) + ((xs.length : Int) - p2) = xs.length := by omega
        go_wp2_with fail
        refine (rfault_any w9 b2 g2 xs p2 fe2 fa2 HG9.out.r).mono ?_
        rintro r w10 ⟨rfl, c10⟩
        have HGt := Lib.hid (HG9.out.past c10)
        clear c10 HG HG9 v3
        have x0 := cell_of HGt.out.x 0
        have x1 := cell_of HGt.out.x 1
        have x2 := cell_of HGt.out.x 2
        have x3 := cell_of HGt.out.x 3
        have y0 := cell_of HGt.out.y 0
        have y1 := cell_of HGt.out.y 1
        simp only [List.getElem?_toArray, List.getElem?_cons_succ, List.getElem?_cons_zero] at x0 x1 x2 x3 y0 y1
        by_cases e2 : fe2 = 0
        · subst e2
          clear y0 y1
          go_wp2_with fail
          refine (write_any w10 b g (xs.take p) 0 _ _ _ _ _ _ _ HGt.out.wr (by simp; omega) (Nat.le_trans HGt.out.small.1 (by decide)) (Nat.le_trans HGt.out.small.2 (by decide)) HGt.out.bs HGt.out.ap).mono ?_
          rintro r w11 ⟨rfl, hB⟩
          rw [HGt.out.good rfl] at hB
          have hfin := again_fin HGt.out.r HGt.out.wr HGt.out.chg hB hbw hg hgb hgg d1 (fun e => hne.2 e.symm)
          have HF := Lib.hid hfin
          clear hB hfin x0 x1 x2 x3
          go_wp2
          obtain ⟨g', f1, f2, f3, f4, f5, f6⟩ := HF.out
          exact ⟨⟨j + 1, p2, g', 0, fa2, by omega, by go_num, hle1, f1, f2, f3, f4, f5, f6⟩, by simp [intOf]; omega⟩
        · obtain ⟨b1, bS, b3, b4, b5⟩ := HGt.out.bad e2
          have e2' : (fe2 == 0) = false := by simpa using e2
          have E2 := Lib.hid e2
          have B5 := Lib.hid b5
          clear e2 b5 x0
          by_cases hf : fe = 0
          · have hf' : (fe != 0) = false := by subst hf; rfl
            clear hf
            subst b3 b4
            go_wp2
            have HGd := Lib.hid (HGt.out.past ((Chg.refl [] w10).drew))
            have x1 : w10.drew.cell? _ = _ := x1
            have x2 : w10.drew.cell? _ = _ := x2
            have x3 : w10.drew.cell? _ = _ := x3
            have y0 : w10.drew.cell? _ = _ := y0
            have y1 : w10.drew.cell? _ = _ := y1
            refine wp_region_held_drew (S := (fun w' : World => w'.cell? ⟨s11, 1, none⟩ = some (.int .i64 0) ∧ w'.cell? ⟨s11, 2, none⟩ = some (.string ⟨#[]⟩) ∧ w'.cell? ⟨s11, 3, none⟩ = some (.slice A7 0 c7') ∧ w'.cell? ⟨s10, 0, none⟩ = some (.int .i64 fe) ∧ w'.cell? ⟨s10, 1, none⟩ = some (.int .i64 fa))) (by kernel_rfl) ⟨x1, x2, x3, y0, y1⟩ (fun hHeld => ?_)
            refine take_yes 0 122 ?_ (by assumption) rfl rfl (by kernel_rfl) (by kernel_rfl) (by kernel_rfl) (fun _ _ _ h => h) (by rfl) ?_ ?_
            rotate_left
            · (intro w hSw; (try dsimp only at hSw); go_simp; try with_reducible rfl)
            try simp only [Act.put, List.setIfInBounds_toArray, List.set_cons_zero, List.set_cons_succ]
            refine take_yes 1 123 ?_ (by assumption) rfl rfl (by kernel_rfl) (by kernel_rfl) (by kernel_rfl) (fun _ _ _ h => h) (by rfl) ?_ ?_
            rotate_left
            · (intro w hSw; (try dsimp only at hSw); go_simp; try with_reducible rfl)
            try simp only [Act.put, List.setIfInBounds_toArray, List.set_cons_zero, List.set_cons_succ]
            refine take_yes 2 124 ?_ (by assumption) rfl rfl (by kernel_rfl) (by kernel_rfl) (by kernel_rfl) (fun _ _ _ h => h) (by rfl) ?_ ?_
            rotate_left
            · (intro w hSw; (try dsimp only at hSw); go_simp; try with_reducible rfl)
            try simp only [Act.put, List.setIfInBounds_toArray, List.set_cons_zero, List.set_cons_succ]
            refine take_yes 3 125 ?_ (by assumption) rfl rfl (by kernel_rfl) (by kernel_rfl) (by kernel_rfl) (fun _ _ _ h => h) (by rfl) ?_ ?_
            rotate_left
            · (intro w hSw; (try dsimp only at hSw); go_simp; try with_reducible rfl)
            try simp only [Act.put, List.setIfInBounds_toArray, List.set_cons_zero, List.set_cons_succ]
            refine take_yes 4 126 ?_ (by assumption) rfl rfl (by kernel_rfl) (by kernel_rfl) (by kernel_rfl) (fun _ _ _ h => h) (by rfl) ?_ ?_
            rotate_left
            · (intro w hSw; (try dsimp only at hSw); go_simp; try with_reducible rfl)
            try simp only [Act.put, List.setIfInBounds_toArray, List.set_cons_zero, List.set_cons_succ]
            refine take_yes 5 127 ?_ (by assumption) rfl rfl (by kernel_rfl) (by kernel_rfl) (by kernel_rfl) (fun _ _ _ h => h) (by rfl) ?_ ?_
            rotate_left
            · (intro w hSw; (try dsimp only at hSw); go_simp; try with_reducible rfl)
            try simp only [Act.put, List.setIfInBounds_toArray, List.set_cons_zero, List.set_cons_succ]
            refine take_yes 6 128 ?_ (by assumption) rfl rfl (by kernel_rfl) (by kernel_rfl) (by kernel_rfl) (fun _ _ _ h => h) (by rfl) ?_ ?_
            rotate_left
            · (intro w hSw; (try dsimp only at hSw); go_simp; try with_reducible rfl)
            try simp only [Act.put, List.setIfInBounds_toArray, List.set_cons_zero, List.set_cons_succ]
            refine take_yes 7 129 ?_ (by assumption) rfl rfl (by kernel_rfl) (by kernel_rfl) (by kernel_rfl) (fun _ _ _ h => h) (by rfl) ?_ ?_
            rotate_left
            · (intro w hSw; (try dsimp only at hSw); go_simp; try with_reducible rfl)
            try simp only [Act.put, List.setIfInBounds_toArray, List.set_cons_zero, List.set_cons_succ]
            refine take_yes 8 130 ?_ (by assumption) rfl rfl (by kernel_rfl) (by kernel_rfl) (by kernel_rfl) (fun _ _ _ h => h) (by rfl) ?_ ?_
            rotate_left
            · (intro w hSw; (try dsimp only at hSw); go_simp; try with_reducible rfl)
            try simp only [Act.put, List.setIfInBounds_toArray, List.set_cons_zero, List.set_cons_succ]
            refine take_yes 9 131 ?_ (by assumption) rfl rfl (by kernel_rfl) (by kernel_rfl) (by kernel_rfl) (fun _ _ _ h => h) (by rfl) ?_ ?_
            rotate_left
            · (intro w hSw; (try dsimp only at hSw); go_simp; try with_reducible rfl)
            try simp only [Act.put, List.setIfInBounds_toArray, List.set_cons_zero, List.set_cons_succ]
            refine take_yes 10 132 ?_ (by assumption) rfl rfl (by kernel_rfl) (by kernel_rfl) (by kernel_rfl) (fun _ _ _ h => h) (by rfl) ?_ ?_
            rotate_left
            · (intro w hSw; (try dsimp only at hSw); go_simp; try with_reducible rfl)
            try simp only [Act.put, List.setIfInBounds_toArray, List.set_cons_zero, List.set_cons_succ]
            refine take_yes 11 133 ?_ (by assumption) rfl rfl (by kernel_rfl) (by kernel_rfl) (by kernel_rfl) (fun _ _ _ h => h) (by rfl) ?_ ?_
            rotate_left
            · (intro w hSw; (try dsimp only at hSw); go_simp; try with_reducible rfl)
            try simp only [Act.put, List.setIfInBounds_toArray, List.set_cons_zero, List.set_cons_succ]
            refine take_yes 12 134 ?_ (by assumption) rfl rfl (by kernel_rfl) (by kernel_rfl) (by kernel_rfl) (fun _ _ _ h => h) (by rfl) ?_ ?_
            rotate_left
            · (intro w hSw; (try dsimp only at hSw); go_simp; try with_reducible rfl)
            try simp only [Act.put, List.setIfInBounds_toArray, List.set_cons_zero, List.set_cons_succ]
            refine take_yes 13 135 ?_ (by assumption) rfl rfl (by kernel_rfl) (by kernel_rfl) (by kernel_rfl) (fun _ _ _ h => h) (by rfl) ?_ ?_
            rotate_left
            · (intro w hSw; (try dsimp only at hSw); go_simp; try with_reducible rfl)
            try simp only [Act.put, List.setIfInBounds_toArray, List.set_cons_zero, List.set_cons_succ]
            refine take_yes 14 136 ?_ (by assumption) rfl rfl (by kernel_rfl) (by kernel_rfl) (by kernel_rfl) (fun _ _ _ h => h) (by rfl) ?_ ?_
            rotate_left
            · (intro w hSw; (try dsimp only at hSw); go_simp; try with_reducible rfl)
            try simp only [Act.put, List.setIfInBounds_toArray, List.set_cons_zero, List.set_cons_succ]
            refine take_yes 15 137 ?_ (by assumption) rfl rfl (by kernel_rfl) (by kernel_rfl) (by kernel_rfl) (fun _ _ _ h => h) (by rfl) ?_ ?_
            rotate_left
            · (intro w hSw; (try dsimp only at hSw); go_simp; try with_reducible rfl)
            try simp only [Act.put, List.setIfInBounds_toArray, List.set_cons_zero, List.set_cons_succ]
            refine take_yes 17 139 ?_ (by assumption) rfl rfl (by kernel_rfl) (by kernel_rfl) (by kernel_rfl) (fun _ _ _ h => h) (by rfl) ?_ ?_
            rotate_left
            · (intro w hSw; (try dsimp only at hSw); go_simp; try with_reducible rfl)
            try simp only [Act.put, List.setIfInBounds_toArray, List.set_cons_zero, List.set_cons_succ]
            refine wpAnyH_ready (rs := [16]) (by kernel_rfl) (by simp) ?_
            refine AllReadyH.cons (o := { dst := some 138, op := .call { callee := .value (.func 22), args := #[.tmp 137], argTypes := #[42] }, type := 3, pos := _, after := _, guard := some (14, false) }) rfl (fun K hK => ?_) AllReadyH.nil
            go_simp
            refine (rat_any _ b2 g2 xs _ _ _ HGd.out.r).mono ?_
            rintro e w12 ⟨rfl, rfl⟩
            go_wp2_with fail
            refine hK.out _ _ ⟨x1, x2, x3, y0, y1⟩ (fun hHeld => ?_)
            clear hK K
            try simp only [Act.put, List.setIfInBounds_toArray, List.set_cons_zero, List.set_cons_succ]
            refine take_yes 18 140 ?_ (by assumption) rfl rfl (by kernel_rfl) (by kernel_rfl) (by kernel_rfl) (fun _ _ _ h => h) (by rfl) ?_ ?_
            rotate_left
            · (intro w hSw; (try dsimp only at hSw); go_simp; try with_reducible rfl)
            try simp only [Act.put, List.setIfInBounds_toArray, List.set_cons_zero, List.set_cons_succ]
            refine take_yes 19 141 ?_ (by assumption) rfl rfl (by kernel_rfl) (by kernel_rfl) (by kernel_rfl) (fun _ _ _ h => h) (by rfl) ?_ ?_
            rotate_left
            · (intro w hSw; (try dsimp only at hSw); go_simp; try with_reducible rfl)
            try simp only [Act.put, List.setIfInBounds_toArray, List.set_cons_zero, List.set_cons_succ]
            refine take_yes 20 142 ?_ (by assumption) rfl rfl (by kernel_rfl) (by kernel_rfl) (by kernel_rfl) (fun _ _ _ h => h) (by rfl) ?_ ?_
            rotate_left
            · (intro w hSw; (try dsimp only at hSw); go_simp; try with_reducible rfl)
            try simp only [Act.put, List.setIfInBounds_toArray, List.set_cons_zero, List.set_cons_succ]
            refine take_yes 21 143 ?_ (by assumption) rfl rfl (by kernel_rfl) (by kernel_rfl) (by kernel_rfl) (fun _ _ _ h => h) (by rfl) ?_ ?_
            rotate_left
            · (intro w hSw; (try dsimp only at hSw); go_simp; try with_reducible rfl)
            try simp only [Act.put, List.setIfInBounds_toArray, List.set_cons_zero, List.set_cons_succ]
            refine take_yes 22 144 ?_ (by assumption) rfl rfl (by kernel_rfl) (by kernel_rfl) (by kernel_rfl) (fun _ _ _ h => h) (by rfl) ?_ ?_
            rotate_left
            · (intro w hSw; (try dsimp only at hSw); go_simp; try with_reducible rfl)
            try simp only [Act.put, List.setIfInBounds_toArray, List.set_cons_zero, List.set_cons_succ]
            refine take_yes 23 145 ?_ (by assumption) rfl rfl (by kernel_rfl) (by kernel_rfl) (by kernel_rfl) (fun _ _ _ h => h) (by rfl) ?_ ?_
            rotate_left
            · (intro w hSw; (try dsimp only at hSw); go_simp; try with_reducible rfl)
            try simp only [Act.put, List.setIfInBounds_toArray, List.set_cons_zero, List.set_cons_succ]
            refine take_yes 24 146 ?_ (by assumption) rfl rfl (by kernel_rfl) (by kernel_rfl) (by kernel_rfl) (fun _ _ _ h => h) (by rfl) ?_ ?_
            rotate_left
            · (intro w hSw; (try dsimp only at hSw); go_simp; try with_reducible rfl)
            try simp only [Act.put, List.setIfInBounds_toArray, List.set_cons_zero, List.set_cons_succ]
            refine take_no 25 147 (by assumption) rfl rfl (by kernel_rfl) (by kernel_rfl) (by kernel_rfl) (fun _ _ _ h => h) (by rfl) ?_
            try simp only [Act.put, List.setIfInBounds_toArray, List.set_cons_zero, List.set_cons_succ]
            refine take_no 27 149 (by assumption) rfl rfl (by kernel_rfl) (by kernel_rfl) (by kernel_rfl) (fun _ _ _ h => h) (by rfl) ?_
            try simp only [Act.put, List.setIfInBounds_toArray, List.set_cons_zero, List.set_cons_succ]
            refine take_no 26 148 (by assumption) rfl rfl (by kernel_rfl) (by kernel_rfl) (by kernel_rfl) (fun _ _ _ h => h) (by rfl) ?_
            try simp only [Act.put, List.setIfInBounds_toArray, List.set_cons_zero, List.set_cons_succ]
            refine take_no 28 150 (by assumption) rfl rfl (by kernel_rfl) (by kernel_rfl) (by kernel_rfl) (fun _ _ _ h => h) (by rfl) ?_
            try simp only [Act.put, List.setIfInBounds_toArray, List.set_cons_zero, List.set_cons_succ]
            refine take_yes 29 151 ?_ (by assumption) rfl rfl (by kernel_rfl) (by kernel_rfl) (by kernel_rfl) (fun _ _ _ h => h) (by rfl) ?_ ?_
            rotate_left
            · (intro w hSw; (try dsimp only at hSw); go_simp; try with_reducible rfl)
            try simp only [Act.put, List.setIfInBounds_toArray, List.set_cons_zero, List.set_cons_succ]
            refine take_yes 30 152 ?_ (by assumption) rfl rfl (by kernel_rfl) (by kernel_rfl) (by kernel_rfl) (fun _ _ _ h => h) (by rfl) ?_ ?_
            rotate_left
            · (intro w hSw; (try dsimp only at hSw); go_simp; try with_reducible rfl)
            try simp only [Act.put, List.setIfInBounds_toArray, List.set_cons_zero, List.set_cons_succ]
            refine take_yes 31 153 ?_ (by assumption) rfl rfl (by kernel_rfl) (by kernel_rfl) (by kernel_rfl) (fun _ _ _ h => h) (by rfl) ?_ ?_
            rotate_left
            · (intro w hSw; (try dsimp only at hSw); go_simp; try with_reducible rfl)
            try simp only [Act.put, List.setIfInBounds_toArray, List.set_cons_zero, List.set_cons_succ]
            refine take_yes 32 154 ?_ (by assumption) rfl rfl (by kernel_rfl) (by kernel_rfl) (by kernel_rfl) (fun _ _ _ h => h) (by rfl) ?_ ?_
            rotate_left
            · (intro w hSw; (try dsimp only at hSw); go_simp; try with_reducible rfl)
            try simp only [Act.put, List.setIfInBounds_toArray, List.set_cons_zero, List.set_cons_succ]
            refine take_yes 34 156 ?_ (by assumption) rfl rfl (by kernel_rfl) (by kernel_rfl) (by kernel_rfl) (fun _ _ _ h => h) (by rfl) ?_ ?_
            rotate_left
            · (intro w hSw; (try dsimp only at hSw); go_simp; try with_reducible rfl)
            try simp only [Act.put, List.setIfInBounds_toArray, List.set_cons_zero, List.set_cons_succ]
            refine wpAnyH_ready (rs := [33]) (by kernel_rfl) (by simp) ?_
            refine AllReadyH.cons (o := { dst := some 155, op := .call { callee := .value (.func 26), args := #[.tmp 154], argTypes := #[42] }, type := 51, pos := _, after := _, guard := some (31, false) }) rfl (fun K hK => ?_) AllReadyH.nil
            go_simp
            refine (rend_done _ b2 g2 xs _ _ _ HGd.out.r (fun e => absurd e E2.out) hll).mono ?_
            rintro e w12 ⟨rfl, hc⟩
            have x1 := hc.keep0 x1
            have x2 := hc.keep0 x2
            have x3 := hc.keep0 x3
            have y0 := hc.keep0 y0
            have y1 := hc.keep0 y1
            have HGd := Lib.hid (HGd.out.past hc)
            clear hc
            go_wp2_with fail
            refine hK.out _ _ ⟨x1, x2, x3, y0, y1⟩ (fun hHeld => ?_)
            clear hK K
            try simp only [Act.put, List.setIfInBounds_toArray, List.set_cons_zero, List.set_cons_succ]
            refine wpAnyH_ready (rs := [35]) (by kernel_rfl) (by simp) ?_
            refine AllReadyH.cons (o := { dst := some 157, op := .call { callee := .value (.func 25), args := #[.tmp 156], argTypes := #[42] }, type := 51, pos := _, after := _, guard := some (31, false) }) rfl (fun K hK => ?_) AllReadyH.nil
            go_simp
            refine (rfault_any _ b2 g2 xs _ _ _ HGd.out.r).mono ?_
            rintro e w13 ⟨rfl, hc⟩
            have x1 := hc.keep0 x1
            have x2 := hc.keep0 x2
            have x3 := hc.keep0 x3
            have y0 := hc.keep0 y0
            have y1 := hc.keep0 y1
            have HGd := Lib.hid (HGd.out.past hc)
            clear hc
            go_wp2_with fail
            refine hK.out _ _ ⟨x1, x2, x3, y0, y1⟩ (fun hHeld => ?_)
            clear hK K
            try simp only [Act.put, List.setIfInBounds_toArray, List.set_cons_zero, List.set_cons_succ]
            refine take_yes 36 158 ?_ (by assumption) rfl rfl (by kernel_rfl) (by kernel_rfl) (by kernel_rfl) (fun _ _ _ h => h) (by rfl) ?_ ?_
            rotate_left
            · (intro w hSw; (try dsimp only at hSw); go_simp; try with_reducible rfl)
            try simp only [Act.put, List.setIfInBounds_toArray, List.set_cons_zero, List.set_cons_succ]
            refine take_yes 37 159 ?_ (by assumption) rfl rfl (by kernel_rfl) (by kernel_rfl) (by kernel_rfl) (fun _ _ _ h => h) (by rfl) ?_ ?_
            rotate_left
            · (intro w hSw; (try dsimp only at hSw); go_simp; try with_reducible rfl)
            try simp only [Act.put, List.setIfInBounds_toArray, List.set_cons_zero, List.set_cons_succ]
            refine wpAnyH_done (by kernel_rfl) ?_ _
            all_goals
              go_wp2
              exact ⟨⟨j + 1, _, g, _, _, by omega, by go_num, HGd.out.le, HGd.out.r, HGd.out.wr, hg, hgb, hgg, HGd.out.chg⟩, by simp [intOf]; omega⟩
          · obtain ⟨b6, b7⟩ := B5.out hf
            have hf' : (fe != 0) = true := by simpa using hf
            subst b6 b7
            subst b3 b4
            go_wp2
            have HGd := Lib.hid (HGt.out.past ((Chg.refl [] w10).drew))
            go_region_held3 (fun w' => w'.cell? ⟨s11, 1, none⟩ = some (.int .i64 0) ∧ w'.cell? ⟨s11, 2, none⟩ = some (.string ⟨#[]⟩) ∧ w'.cell? ⟨s11, 3, none⟩ = some (.slice A7 0 c7') ∧ w'.cell? ⟨s10, 0, none⟩ = some (.int .i64 fe2) ∧ w'.cell? ⟨s10, 1, none⟩ = some (.int .i64 fa2)) (first | exact ⟨x1, x2, x3, y0, y1⟩ | go_keep)
              ((first
                | (go_at_call 22; refine (rat_any _ b2 g2 xs _ _ _ HGd.out.r).mono ?_; rintro e w12 ⟨rfl, rfl⟩)
                | (go_at_call 25; refine (rfault_any _ b2 g2 xs _ _ _ HGd.out.r).mono ?_; rintro e w12 ⟨rfl, hc⟩; have x1 := hc.keep0 x1; have x2 := hc.keep0 x2; have x3 := hc.keep0 x3; have y0 := hc.keep0 y0; have y1 := hc.keep0 y1; have HGd := Lib.hid (HGd.out.past hc); clear hc)
                | (go_at_call 26; refine (rend_done _ b2 g2 xs _ _ _ HGd.out.r (fun e => absurd e E2.out) hll).mono ?_; rintro e w12 ⟨rfl, hc⟩; have x1 := hc.keep0 x1; have x2 := hc.keep0 x2; have x3 := hc.keep0 x3; have y0 := hc.keep0 y0; have y1 := hc.keep0 y1; have HGd := Lib.hid (HGd.out.past hc); clear hc)))
            all_goals
              go_wp2
              exact ⟨⟨j + 1, _, g, _, _, by omega, by go_num, HGd.out.le, HGd.out.r, HGd.out.wr, hg, hgb, hgg, HGd.out.chg⟩, by simp [intOf]; omega⟩
    · go_wp2_with fail
      refine (wout_any wr b g _ 0 HWr.out (by simp; omega)).mono ?_
      rintro r w4 ⟨A1, c1, rfl, o1, n1, c4⟩
      have e0 : outs (xs.take p) 0 = xs.take p := by simp [outs]
      rw [e0] at o1 ⊢
      have O1 := Lib.hid o1
      have HC4 := Lib.hid (HCr.out.trans c4)
      have HR4 := Lib.hid (HRr.out.chg c4 (by simp) (by simp))
      clear o1 n1 c4 e0
      go_wp2_with fail
      refine (rat_any _ b2 g2 xs p fe fa HR4.out).mono ?_
      rintro r w5 ⟨rfl, rfl⟩
      have hlp : (xs.take p).length = p := by simp; omega
      have ho := O1.out.reads
      rw [hlp] at ho
      have hbb := (HB.out.chg HC4.out (by simp)).head p hp
      have HO := Lib.hid ho
      have HBB := Lib.hid hbb
      have u1 : (p : Int) ≤ (c : Int) := by omega
      clear ho hbb hlp
      by_cases hc0 : c = 0
      · subst hc0
        go_wp2_with fail
        refine (same_yes _ _ _ _ _ _ _ _ _ HO.out HBB.out rfl).mono ?_
        rintro r w6 ⟨rfl, rfl⟩
        go_wp2
        go_ret
        exact ⟨rfl, HC4.out⟩
      · go_wp2_with fail
        refine (same_yes _ _ _ _ _ _ _ _ _ HO.out HBB.out rfl).mono ?_
        rintro r w6 ⟨rfl, rfl⟩
        go_wp2
        go_ret
        exact ⟨rfl, HC4.out⟩
end Go.Proofs.Ytknhgicpndgdoaa
