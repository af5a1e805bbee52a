/- The walk of WireReads: two readers, one row of asks. -/
import Derived.Test.YtknhgicpndgdoaaAsk
import Derived.Test.YtknhgicpndgdoaaAwake
namespace Go.Proofs.Ytknhgicpndgdoaa
open Go.RowKit

/-- An ask's three cells at ⟨b, o⟩. -/
structure AskAt (w : World) (b o : Nat) (k lo hi : Int) : Prop where
  c0 : w.cell? ⟨b, o, none⟩ = some (.int .i64 k)
  c1 : w.cell? ⟨b, o + 1, none⟩ = some (.int .i64 lo)
  c2 : w.cell? ⟨b, o + 2, none⟩ = some (.int .i64 hi)
/-- A row of asks. -/
def Asks (w : World) (A : Option Addr) (len : Nat) : Prop := ∀ j, j < len → ∃ b off k lo hi, A = some ⟨b, off, none⟩ ∧ AskAt w b (off + j * 3) k lo hi
theorem AskAt.chg {w w' : World} {b o : Nat} {k lo hi : Int} (h : AskAt w b o k lo hi) {S : List Nat} (hc : Chg S w w') (hS : ∀ i ∈ S, i ≠ b) : AskAt w' b o k lo hi := by
  have hb : b ∉ S := fun hm => hS b hm rfl
  exact ⟨hc.cell h.c0 hb, hc.cell h.c1 hb, hc.cell h.c2 hb⟩

theorem endF_left {xs : List UInt8} {p : Nat} {fa : Int} (h : p < xs.length) : endF xs p 0 fa = (4, (p : Int)) := by simp [endF, h]
theorem rend_any (w : World) (b g : Nat) (xs : List UInt8) (p : Nat) (fe fa : Int) (h : Rdr w b g xs p fe fa) (hp : p ≤ xs.length) (hx : xs.length ≤ 140737488351232) :
    Calls Try.prog 26 #[.pointer (some ⟨b, 0, none⟩)] w fun e w' => e = .returned (.agg #[.int .i64 (endF xs p fe fa).1, .int .i64 (endF xs p fe fa).2]) ∧ Chg [] w w' := by
  unfold endF
  by_cases he : fe = 0 ∧ p < xs.length
  · obtain ⟨rfl, hlt⟩ := he
    simp only [true_and, if_pos hlt]
    exact rend_left w b g xs p fa h hlt hx
  · rw [if_neg he]
    exact rend_done w b g xs p fe fa h (fun e => by subst e; simp at he; omega) hx

theorem Chg.cell0 {w w' : World} {a : Addr} {u : Value} (hc : Chg [] w w') (h : w.cell? a = some u) : w'.cell? a = some u := hc.cell h (by simp)
theorem Chg.more {S : List Nat} {a b c : World} (h : Chg S a b) (k : Chg [] b c) : Chg S a c := h.trans (k.mono (by simp))

theorem Chg.old {w wr w' : World} {b v : Nat} (h : Chg [b, v] wr.drew w') (k : Chg [] w wr) (hb : w.heap.size ≤ b) (hv : w.heap.size ≤ v) : Chg [] w w' := by
  refine k.drew.trans' h ?_
  intro i hi
  simp at hi
  rcases hi with rfl | rfl
  · exact .inr hb
  · exact .inr hv

set_option maxHeartbeats 4000000 in
theorem reads_yes (w : World) (A B : Option Addr) (n c len d : Nat) (xs : List UInt8) (h : Bs w A n xs) (hn : n ≤ c) (hc : c ≤ 9223372036854775807) (hn2 : n ≤ 140737488351232) (hl : Asks w B len) (hlen : len ≤ 140737488351232) :
    Calls Try.prog 4 #[.slice A n c, .slice B len d] w fun r w' => r = .returned (.bool true) ∧ Chg [] w w' := by
  have hl1 := h.len
  subst hl1
  have HB := Lib.hid h
  have HL := Lib.hid hl
  clear h hl
  by_cases hbig : 1000 < xs.length ∨ xs.length ≤ 1000 ∧ 60 < len
  · rcases hbig with hb | ⟨hb, hb2⟩
    all_goals
      go_enter Try.func4, Try.ntmps4
      go_wp2_with fail
      refine (awake_yes _).mono ?_
      rintro r w3 ⟨rfl, c3⟩
      go_wp2
      go_ret
      exact ⟨rfl, c3⟩
  have hs1 : xs.length ≤ 1000 := by omega
  have hs2 : len ≤ 60 := by omega
  clear hbig
  go_enter Try.func4, Try.ntmps4
  go_wp2_with fail
  refine (lent_any w A _ c xs HB.out hn2).mono ?_
  rintro r w1 ⟨gl, rfl, hL, hgl, c1⟩
  have hL' := Lib.hid hL
  have C1 := Lib.hid c1
  clear hL c1
  go_wp2_with fail
  refine (open_any w1 (some ⟨gl, 0, none⟩) xs.length _ xs hL'.out.reads hn2).mono ?_
  rintro r w2 ⟨b, g, rfl, hR, c2, hb, hg⟩
  have HR := Lib.hid hR
  have C2 := Lib.hid c2
  clear hR c2
  go_wp2_with fail
  refine (vopen_any w2 A c xs ((HB.out.chg C1.out (by simp)).chg C2.out (by simp)) hn hc).mono ?_
  rintro r w3 ⟨rfl, hU, c3⟩
  have hpair : Pair w3 b g w2.heap.size A c xs 0 0 0 := by
    have q := HR.out.lt
    have s1 := C1.out.size
    refine ⟨HR.out.chg c3 (by simp) (by simp), hU, by omega, hn2, by omega, by omega, ?_⟩
    rcases HB.out.old with e | e
    · exact .inl e
    · exact .inr fun a ea => by have := e a ea; omega
  have hL3 : Lent w3 gl xs := (hL'.out.chg C2.out (by simp)).chg c3 (by simp)
  have hgb : gl ≠ b := by
    obtain ⟨_, hh, _⟩ := hL'.out
    have := lt_of_heap hh
    omega
  have hgv : gl ≠ w2.heap.size := by
    obtain ⟨_, hh, _⟩ := hL'.out
    have := lt_of_heap hh
    have := C2.out.size
    omega
  have hbw : w.heap.size ≤ b := by have := C1.out.size; omega
  have hvw : w.heap.size ≤ w2.heap.size := by have := C1.out.size; have := C2.out.size; omega
  have HP := Lib.hid hpair
  have HL3 := Lib.hid hL3
  have C3 := Lib.hid ((C1.out.trans C2.out).trans c3)
  clear hpair hL3 hU c3 HR hL' C1 C2 hb hg
  generalize w2.heap.size = v at *
  go_wp2
  go_loopw [8] (fun i wr => ∃ (j p : Nat) (fe fa : Int), j ≤ len ∧ i = .int .i64 j ∧ Pair wr b g v A c xs p fe fa ∧ Lent wr gl xs ∧ Chg [] w wr) (fun i _ => len - (intOf i).toNat)
  case atStart => exact ⟨0, 0, 0, 0, by omega, rfl, HP.out, HL3.out, C3.out⟩
  case round =>
    obtain ⟨j, p, fe, fa, hj, rfl, hP, hL, hC⟩ := hrel
    have HPr := Lib.hid hP
    have HLr := Lib.hid hL
    have HCr := Lib.hid hC
    clear hP hL hC HP HL3 C3
    by_cases hlt : j < len
    · obtain ⟨ab, off, ak, lo, hi, rfl, ha⟩ := HL.out j hlt
      have ha' := ha.chg HCr.out (by simp)
      have k0 := ha'.c0
      have k1 := ha'.c1
      have k2 := ha'.c2
      have hab : ab < w.heap.size := lt_of_cell ha.c0
      have hP := HPr.out.chg ((Chg.refl [] wr).drew)
      have HPd := Lib.hid hP
      have hne : ab ∉ [b, v] := by simp; omega
      have HNE := Lib.hid hne
      clear hP ha ha' hne
      go_wp2
      go_region_with
        (first
          | (go_at_call 21; refine (read_any _ b g v A c xs p fe fa ak lo hi HPd.out).mono ?_; rintro e w4 ⟨rfl, p2, fe2, fa2, hP, hC⟩; obtain ⟨i0, i1, i2, i3, _⟩ := hP.u.cells; have HP := Lib.hid hP; have HC := Lib.hid hC; clear hP hC)
          | (go_at_call 22; refine (rat_any _ b g xs _ _ _ HP.out.r).mono ?_; rintro r w5 ⟨rfl, rfl⟩)
          | (go_at_call 23; refine (rleft_any _ b g xs _ _ _ HP.out.r HP.out.le HP.out.len).mono ?_; rintro e w5 ⟨rfl, hc⟩; have i2 := hc.cell0 i2; have i3 := hc.cell0 i3; have HP := Lib.hid (HP.out.chg hc); have HC := Lib.hid (HC.out.more hc); clear hc)
          | (go_at_call 24; refine (uleft_any _ v A c xs _ _ _ HP.out.u HP.out.le HP.out.len).mono ?_; rintro e w5 ⟨rfl, hc⟩; have i2 := hc.cell0 i2; have i3 := hc.cell0 i3; have HP := Lib.hid (HP.out.chg hc); have HC := Lib.hid (HC.out.more hc); clear hc)
          | (go_at_call 25; refine (rfault_any _ b g xs _ _ _ HP.out.r).mono ?_; rintro e w5 ⟨rfl, hc⟩; have i2 := hc.cell0 i2; have i3 := hc.cell0 i3; have HP := Lib.hid (HP.out.chg hc); have HC := Lib.hid (HC.out.more hc); clear hc)
          | (go_at_call 26; refine (rend_any _ b g xs _ _ _ HP.out.r HP.out.le HP.out.len).mono ?_; rintro e w5 ⟨rfl, hc⟩; have HP := Lib.hid (HP.out.chg hc); have HC := Lib.hid (HC.out.more hc); clear hc)
          | (go_at_call 27; refine (uend_any _ v A c xs _ _ _ HP.out.u).mono ?_; rintro e w5 ⟨rfl, hc⟩; have HP := Lib.hid (HP.out.chg hc); have HC := Lib.hid (HC.out.more hc); clear hc))
      all_goals
        have hCC := HC.out.old HCr.out hbw hvw
        have hLL := Lent.chg (w := wr.drew) (HLr.out.chg ((Chg.refl [] wr).drew) (by simp)) HC.out (by simp; exact ⟨hgb, hgv⟩)
        have HCC := Lib.hid hCC
        have HLL := Lib.hid hLL
        clear hCC hLL
        go_wp2
        exact ⟨⟨j + 1, _, _, _, by omega, by go_num, HP.out, HLL.out, HCC.out⟩, by simp [intOf]; omega⟩
    · obtain rfl : j = len := by omega
      go_wp2_with fail
      refine (rend_any wr b g xs p fe fa HPr.out.r HPr.out.le hn2).mono ?_
      rintro r w4 ⟨rfl, c4⟩
      have HP4 := Lib.hid (HPr.out.chg c4)
      have HC4 := Lib.hid (HCr.out.trans c4)
      have HL4 := Lib.hid (HLr.out.chg c4 (by simp))
      clear c4
      go_wp2_with fail
      refine (uend_any w4 v A c xs p fe fa HP4.out.u).mono ?_
      rintro r w5 ⟨rfl, c5⟩
      have HP5 := Lib.hid (HP4.out.chg c5)
      have HC5 := Lib.hid (HC4.out.trans c5)
      have HL5 := Lib.hid (HL4.out.chg c5 (by simp))
      clear c5
      go_wp2_with fail
      refine (rleft_any w5 b g xs p fe fa HP5.out.r HP5.out.le hn2).mono ?_
      rintro r w6 ⟨rfl, c6⟩
      have HP6 := Lib.hid (HP5.out.chg c6)
      have HC6 := Lib.hid (HC5.out.trans c6)
      have HL6 := Lib.hid (HL5.out.chg c6 (by simp))
      clear c6
      go_wp2_with fail
      refine (uleft_any w6 v A c xs p fe fa HP6.out.u HP6.out.le hn2).mono ?_
      rintro r w7 ⟨rfl, c7⟩
      have HC7 := Lib.hid (HC6.out.trans c7)
      have HL7 := Lib.hid (HL6.out.chg c7 (by simp))
      clear c7
      go_wp2_with fail
      refine (kept_any w7 gl A _ c xs HL7.out (HB.out.chg HC7.out (by simp)) hn2).mono ?_
      rintro r w8 ⟨rfl, c8⟩
      have HC8 := Lib.hid (HC7.out.trans c8)
      clear c8
      go_wp2_with fail
      refine (awake_yes w8).mono ?_
      rintro r w9 ⟨rfl, c9⟩
      have HC9 := Lib.hid (HC8.out.trans c9)
      clear c9
      go_wp2
      go_ret
      exact ⟨rfl, HC9.out⟩
end Go.Proofs.Ytknhgicpndgdoaa
