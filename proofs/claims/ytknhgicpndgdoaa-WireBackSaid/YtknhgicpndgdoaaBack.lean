/- right and back. -/
import Derived.Test.YtknhgicpndgdoaaRound2
import Derived.Test.YtknhgicpndgdoaaKit
import Derived.Deep.RegionHeld3
namespace Go.Proofs.Ytknhgicpndgdoaa
open Go.RowKit

/-- An act as a value. -/
def ActD.val (a : ActD) (n : Int) : Value := .agg #[.int .i64 a.kind, .int .i64 n, .string a.s, .slice a.B a.m a.d]

set_option maxHeartbeats 400000 in
theorem right_any (w : World) (a : ActD) : Calls Try.prog 35 #[.agg #[.int .i64 a.kind, .int .i64 a.n, .string a.s, .slice a.B a.m a.d]] w fun e w' => e = .returned (.agg #[.int .i64 a.kind, .int .i64 a.rn, .string a.s, .slice a.B a.m a.d]) ∧ Chg [] w w' := by
  unfold ActD.rn
  by_cases k0 : a.kind = 0
  · rw [if_pos k0]
    obtain ⟨kind, n, s, B, m, d, ys⟩ := a
    simp only at k0
    subst k0
    go_enter Try.func35, Try.ntmps35
    go_wp2_with (go_at_call 53; refine (pick_any _ n 4611686018427387904 (by decide) (by decide)).mono ?_; rintro e w1 ⟨rfl, rfl⟩)
    refine bodyPost_ret (v := .agg #[.int .i64 0, .int .i64 (n % 4611686018427387904), .string s, .slice B m d]) (by simp [results, Try.results35, go_sem]) rfl ?_
    exact ⟨rfl, ((Chg.refl _ _).alloc _).alloc _⟩
  · rw [if_neg k0]
    have e0 : (a.kind == 0) = false := by simpa using k0
    clear k0
    go_enter Try.func35, Try.ntmps35
    go_wp2
    refine bodyPost_ret (v := .agg #[.int .i64 a.kind, .int .i64 a.n, .string a.s, .slice a.B a.m a.d]) (by simp [results, Try.results35, go_sem]) rfl ?_
    exact ⟨rfl, ((Chg.refl _ _).alloc _).alloc _⟩

theorem cell1' {w w1 : World} {b a j : Nat} {u : Value} (hc : Chg [b] w w1) (hb : b ≠ a) (h : w.cell? ⟨a, j, none⟩ = some u) : w1.cell? ⟨a, j, none⟩ = some u :=
  hc.cell h (by simp; exact fun e => hb e.symm)

/-- What back leaves. -/
def BackPost (w : World) (b g : Nat) (xs : List UInt8) (ok : Bool) (p : Nat) (fe fa : Int) (e : Ending) (w' : World) : Prop :=
  e = .returned (.bool ok) ∧ Rdr w' b g xs p fe fa ∧ Chg [b] w w'

set_option maxHeartbeats 1000000 in
theorem back_num (w : World) (b g : Nat) (xs : List UInt8) (p : Nat) (fe fa n : Int) (s : ByteArray) (B : Option Addr) (m d : Nat) (h : Rdr w b g xs p fe fa) (hp : p ≤ xs.length) (hl : xs.length ≤ 140737488351232) :
    Calls Try.prog 36 #[.pointer (some ⟨b, 0, none⟩), .agg #[.int .i64 0, .int .i64 n, .string s, .slice B m d]] w (BackPost w b g xs ((rNum xs p fe fa n n).1 == n) (rNum xs p fe fa n n).2.1 (rNum xs p fe fa n n).2.2.1 (rNum xs p fe fa n n).2.2.2) := by
  have hc0 : Chg [] w (w.alloc (.cells #[.int .i64 0, .int .i64 n, .string s, .slice B m d] 34)) := (Chg.refl [] w).alloc _
  have hr := h.chg hc0 (by simp) (by simp)
  have hb := h.lt.1
  have k := heap_alloc_new w (.cells #[.int .i64 0, .int .i64 n, .string s, .slice B m d] 34)
  have k0 := cell_of k 0
  have k1 := cell_of k 1
  simp only [List.getElem?_toArray, List.getElem?_cons_succ, List.getElem?_cons_zero] at k0 k1
  have HR := Lib.hid hr
  have HC0 := Lib.hid hc0
  have hba : b ≠ w.heap.size := by omega
  have hnn := fun w0 (h : Rdr w0 b g xs p fe fa) => rnum_any w0 b g xs p fe fa n n h hp hl
  generalize rNum xs p fe fa n n = R at hnn
  have HN := Lib.hid hnn
  clear hr hc0 h k hnn
  go_enter Try.func36, Try.ntmps36
  go_wp2
  generalize w.alloc (.cells #[.int .i64 0, .int .i64 n, .string s, .slice B m d] 34) = w0 at *
  generalize w.heap.size = a at *
  have HRd := Lib.hid (HR.out.chg ((Chg.refl [] w0).drew) (by simp) (by simp))
  go_region_held3 (fun w' => w'.cell? ⟨a, 1, none⟩ = some (.int .i64 n)) (first | go_keep | exact q1)
    ((go_at_call 29; refine (HN.out _ HRd.out).mono ?_; rintro e w1 ⟨rfl, r1, cr⟩; have q1 := cell1' cr hba k1; have R1 := Lib.hid r1; have CR := Lib.hid cr; clear r1 cr))
  go_wp2
  go_ret
  exact ⟨rfl, R1.out, ((HC0.out.drew).mono (by simp)).trans CR.out⟩
set_option maxHeartbeats 1000000 in
theorem back_text (w : World) (b g : Nat) (xs : List UInt8) (p : Nat) (fe fa n : Int) (s : ByteArray) (B : Option Addr) (m d : Nat) (h : Rdr w b g xs p fe fa) (hp : p ≤ xs.length) (hl : xs.length ≤ 140737488351232) :
    Calls Try.prog 36 #[.pointer (some ⟨b, 0, none⟩), .agg #[.int .i64 1, .int .i64 n, .string s, .slice B m d]] w (BackPost w b g xs ((rRaw xs p fe fa s.size).1 == s.toList) (rRaw xs p fe fa s.size).2.1 (rRaw xs p fe fa s.size).2.2.1 (rRaw xs p fe fa s.size).2.2.2) := by
  have hc0 : Chg [] w (w.alloc (.cells #[.int .i64 1, .int .i64 n, .string s, .slice B m d] 34)) := (Chg.refl [] w).alloc _
  have hr := h.chg hc0 (by simp) (by simp)
  have hb := h.lt.1
  have k := heap_alloc_new w (.cells #[.int .i64 1, .int .i64 n, .string s, .slice B m d] 34)
  have k0 := cell_of k 0
  have k1 := cell_of k 2
  simp only [List.getElem?_toArray, List.getElem?_cons_succ, List.getElem?_cons_zero] at k0 k1
  have HR := Lib.hid hr
  have HC0 := Lib.hid hc0
  have hba : b ≠ w.heap.size := by omega
  have hnn := fun w0 (h : Rdr w0 b g xs p fe fa) => rtext_any w0 b g xs p fe fa s.size h hp hl
  generalize rRaw xs p fe fa s.size = R at hnn
  have HN := Lib.hid hnn
  clear hr hc0 h k hnn
  go_enter Try.func36, Try.ntmps36
  go_wp2
  generalize w.alloc (.cells #[.int .i64 1, .int .i64 n, .string s, .slice B m d] 34) = w0 at *
  generalize w.heap.size = a at *
  have HRd := Lib.hid (HR.out.chg ((Chg.refl [] w0).drew) (by simp) (by simp))
  go_region_held3 (fun w' => w'.cell? ⟨a, 2, none⟩ = some (.string s)) (first | go_keep | exact q1)
    ((go_at_call 30; refine (HN.out _ HRd.out).mono ?_; rintro e w1 ⟨rfl, r1, cr⟩; have q1 := cell1' cr hba k1; have R1 := Lib.hid r1; have CR := Lib.hid cr; clear r1 cr))
  go_wp2
  go_ret
  exact ⟨rfl, R1.out, ((HC0.out.drew).mono (by simp)).trans CR.out⟩
set_option maxHeartbeats 1000000 in
theorem back_raw (w : World) (b g : Nat) (xs : List UInt8) (p : Nat) (fe fa kind n : Int) (s : ByteArray) (B : Option Addr) (m d : Nat) (ys : List UInt8) (h : Rdr w b g xs p fe fa) (hp : p ≤ xs.length) (hl : xs.length ≤ 140737488351232) (hbs : Bs w B m ys) (hap : Apart B ys b b) (e0 : (kind == 0) = false) (e1 : (kind == 1) = false) :
    Calls Try.prog 36 #[.pointer (some ⟨b, 0, none⟩), .agg #[.int .i64 kind, .int .i64 n, .string s, .slice B m d]] w (BackPost w b g xs ((rRaw xs p fe fa m).1 == ys) (rRaw xs p fe fa m).2.1 (rRaw xs p fe fa m).2.2.1 (rRaw xs p fe fa m).2.2.2) := by
  have hc0 : Chg [] w (w.alloc (.cells #[.int .i64 kind, .int .i64 n, .string s, .slice B m d] 34)) := (Chg.refl [] w).alloc _
  have hr := h.chg hc0 (by simp) (by simp)
  have hb := h.lt.1
  have k := heap_alloc_new w (.cells #[.int .i64 kind, .int .i64 n, .string s, .slice B m d] 34)
  have k0 := cell_of k 0
  have k1 := cell_of k 3
  simp only [List.getElem?_toArray, List.getElem?_cons_succ, List.getElem?_cons_zero] at k0 k1
  have HR := Lib.hid hr
  have HC0 := Lib.hid hc0
  have hba : b ≠ w.heap.size := by omega
  have hnn := fun w0 (h : Rdr w0 b g xs p fe fa) => rraw_any w0 b g xs p fe fa m h hp hl
  generalize rRaw xs p fe fa m = R at hnn
  have HN := Lib.hid hnn
  have hb2 : ∀ w1, Chg [b] (w.alloc (.cells #[.int .i64 kind, .int .i64 n, .string s, .slice B m d] 34)).drew w1 → Bs w1 B m ys := fun w1 hc => ((hbs.chg hc0 (by simp)).chg ((Chg.refl [] _).drew) (by simp)).past (hc.mono (by simp)) hap
  have HBs := Lib.hid hb2
  clear hr hc0 h k hnn hb2 hbs hap
  go_enter Try.func36, Try.ntmps36
  go_wp2
  generalize w.alloc (.cells #[.int .i64 kind, .int .i64 n, .string s, .slice B m d] 34) = w0 at *
  generalize w.heap.size = a at *
  have HRd := Lib.hid (HR.out.chg ((Chg.refl [] w0).drew) (by simp) (by simp))
  go_region_held3 (fun w' => w'.cell? ⟨a, 3, none⟩ = some (.slice B m d)) (first | go_keep | exact q1)
    ((first
      | (go_at_call 31; refine (HN.out _ HRd.out).mono ?_; rintro e w1 ⟨A1, c1, rfl, o1, n1, r1, cr⟩; have q1 := cell1' cr hba k1; have O1 := Lib.hid o1; have N1 := Lib.hid n1; have R1 := Lib.hid r1; have CR := Lib.hid cr; clear o1 n1 r1 cr)
      | (go_at_call 16; refine (same_any _ A1 B _ _ c1 d R.1 ys O1.out.reads (HBs.out _ CR.out)).mono ?_; rintro e w2 ⟨rfl, rfl⟩)))
  all_goals
    go_wp2
    go_ret
    exact ⟨rfl, R1.out, ((HC0.out.drew).mono (by simp)).trans CR.out⟩

theorem toList_data (s : ByteArray) : s.toList = s.data.toList := by
  have e : strOf s.data.toList = s := by unfold strOf; rfl
  have := strOf_toList s.data.toList
  rwa [e] at this

/-- An act that was written is read. -/
theorem back_ok (w : World) (b g : Nat) (pre rest : List UInt8) (a : ActD) (ha : a.short) (h : Rdr w b g (pre ++ (a.put ++ rest)) pre.length 0 0) (hl : (pre ++ (a.put ++ rest)).length ≤ 140737488351232) (hm : a.ys.length = a.m) (hbs : Bs w a.B a.m a.ys) (hap : Apart a.B a.ys b b) :
    Calls Try.prog 36 #[.pointer (some ⟨b, 0, none⟩), .agg #[.int .i64 a.kind, .int .i64 a.rn, .string a.s, .slice a.B a.m a.d]] w (BackPost w b g (pre ++ (a.put ++ rest)) true (pre.length + a.put.length) 0 0) := by
  have hp : pre.length ≤ (pre ++ (a.put ++ rest)).length := by simp
  by_cases k0 : a.kind = 0
  · have hr := rn_range a k0
    have e : a.put = enc a.rn.toNat := by unfold ActD.put; rw [if_pos k0]
    have h1 := back_num w b g _ _ 0 0 a.rn a.s a.B a.m a.d h hp hl
    rw [e] at h1 ⊢
    rw [rNum_enc pre rest a.rn hr.1 hr.2] at h1
    rw [k0]
    simpa using h1
  · by_cases k1 : a.kind = 1
    · have e : a.put = enc a.s.data.toList.length ++ a.s.data.toList := by unfold ActD.put; rw [if_neg k0, if_pos k1]
      have h1 := back_text w b g _ _ 0 0 a.rn a.s a.B a.m a.d h hp hl
      rw [e] at h1 ⊢
      have hsz : a.s.size = a.s.data.toList.length := by rw [Array.length_toList]; rfl
      rw [toList_data, hsz, rRaw_enc pre a.s.data.toList rest ha.1] at h1
      rw [k1]
      simpa using h1
    · have e : a.put = enc a.ys.length ++ a.ys := by unfold ActD.put; rw [if_neg k0, if_neg k1]
      have h1 := back_raw w b g _ _ 0 0 a.kind a.rn a.s a.B a.m a.d a.ys h hp hl hbs hap (by simpa using k0) (by simpa using k1)
      rw [e] at h1 ⊢
      rw [← hm, rRaw_enc pre a.ys rest ha.2] at h1
      rw [← hm]
      simpa using h1

/-- An act that lacks its last byte. -/
theorem back_cut (w : World) (b g : Nat) (pre : List UInt8) (a : ActD) (ha : a.short) (h : Rdr w b g (pre ++ a.put.dropLast) pre.length 0 0) (hl : (pre ++ a.put.dropLast).length ≤ 140737488351232) (hm : a.ys.length = a.m) (hbs : Bs w a.B a.m a.ys) (hap : Apart a.B a.ys b b) :
    Calls Try.prog 36 #[.pointer (some ⟨b, 0, none⟩), .agg #[.int .i64 a.kind, .int .i64 a.rn, .string a.s, .slice a.B a.m a.d]] w fun e w' => ∃ ok, BackPost w b g (pre ++ a.put.dropLast) ok pre.length 4 (pre ++ a.put.dropLast).length e w' := by
  have hp : pre.length ≤ (pre ++ a.put.dropLast).length := by simp
  by_cases k0 : a.kind = 0
  · have hr := rn_range a k0
    have e : a.put = enc a.rn.toNat := by unfold ActD.put; rw [if_pos k0]
    have h1 := back_num w b g _ _ 0 0 a.rn a.s a.B a.m a.d h hp hl
    rw [e] at h1 ⊢
    rw [rNum_cut pre a.rn hr.1 hr.2] at h1
    rw [k0]
    exact h1.mono fun e w' h => ⟨_, h⟩
  · by_cases k1 : a.kind = 1
    · have e : a.put = enc a.s.data.toList.length ++ a.s.data.toList := by unfold ActD.put; rw [if_neg k0, if_pos k1]
      have h1 := back_text w b g _ _ 0 0 a.rn a.s a.B a.m a.d h hp hl
      rw [e] at h1 ⊢
      have hsz : a.s.size = a.s.data.toList.length := by rw [Array.length_toList]; rfl
      rw [hsz, rRaw_cut pre a.s.data.toList ha.1] at h1
      rw [k1]
      exact h1.mono fun e w' h => ⟨_, h⟩
    · have e : a.put = enc a.ys.length ++ a.ys := by unfold ActD.put; rw [if_neg k0, if_neg k1]
      have h1 := back_raw w b g _ _ 0 0 a.kind a.rn a.s a.B a.m a.d a.ys h hp hl hbs hap (by simpa using k0) (by simpa using k1)
      rw [e] at h1 ⊢
      rw [← hm, rRaw_cut pre a.ys ha.2] at h1
      rw [← hm]
      exact h1.mono fun e w' h => ⟨_, h⟩
end Go.Proofs.Ytknhgicpndgdoaa
