/- read: what two readers tell, of whatever is asked for. -/
import Derived.Test.YtknhgicpndgdoaaUw
import Derived.Test.YtknhgicpndgdoaaKit
namespace Go.Proofs.Ytknhgicpndgdoaa
open Go.RowKit

/-- Two readers that stand alike. -/
structure Pair (w : World) (b g v : Nat) (A : Option Addr) (c : Nat) (xs : List UInt8) (p : Nat) (fe fa : Int) : Prop where
  r : Rdr w b g xs p fe fa
  u : URdr w v A c xs p fe fa
  le : p ≤ xs.length
  len : xs.length ≤ 140737488351232
  bv : b ≠ v
  gv : g ≠ v
  apart : xs = [] ∨ ∀ a, A = some a → a.block ≠ b

theorem Pair.chg {w w' : World} {b g v : Nat} {A : Option Addr} {c : Nat} {xs : List UInt8} {p : Nat} {fe fa : Int} (h : Pair w b g v A c xs p fe fa) (hc : Chg [] w w') : Pair w' b g v A c xs p fe fa :=
  ⟨h.r.chg hc (by simp) (by simp), h.u.chg hc (by simp) (.inr (by simp)), h.le, h.len, h.bv, h.gv, h.apart⟩
/-- The program's reader has gone on. -/
theorem Pair.u1 {w w' : World} {b g v : Nat} {A : Option Addr} {c : Nat} {xs : List UInt8} {p : Nat} {fe fa : Int} (h : Pair w b g v A c xs p fe fa) (hc : Chg [b] w w') : URdr w' v A c xs p fe fa :=
  h.u.chg hc (by simp; exact fun e => h.bv e.symm) (by simpa using h.apart)
/-- The document's reader has gone on. -/
theorem Pair.r1 {w w' : World} {b g v : Nat} {A : Option Addr} {c : Nat} {xs : List UInt8} {p : Nat} {fe fa : Int} (h : Pair w b g v A c xs p fe fa) (hc : Chg [v] w w') : Rdr w' b g xs p fe fa :=
  h.r.chg hc (by simp; exact h.bv) (by simp; exact h.gv)
theorem Pair.both {w w1 w2 : World} {b g v : Nat} {A : Option Addr} {c : Nat} {xs : List UInt8} {p q : Nat} {fe fa fe' fa' : Int} (h : Pair w b g v A c xs p fe fa) (hr : Rdr w1 b g xs q fe' fa') (hc : Chg [b] w w1) (hu : URdr w2 v A c xs q fe' fa') (hc2 : Chg [v] w1 w2) (hq : q ≤ xs.length) :
    Pair w2 b g v A c xs q fe' fa' ∧ Chg [b, v] w w2 :=
  ⟨⟨hr.chg hc2 (by simp; exact h.bv) (by simp; exact h.gv), hu, hq, h.len, h.bv, h.gv, h.apart⟩, (hc.mono (by simp)).trans (hc2.mono (by simp))⟩
theorem Pair.both' {w w1 w2 : World} {b g v : Nat} {A : Option Addr} {c : Nat} {xs : List UInt8} {p q : Nat} {fe fa fe' fa' : Int} (h : Pair w b g v A c xs p fe fa) (hu : URdr w1 v A c xs q fe' fa') (hc : Chg [v] w w1) (hr : Rdr w2 b g xs q fe' fa') (hc2 : Chg [b] w1 w2) (hq : q ≤ xs.length) :
    Pair w2 b g v A c xs q fe' fa' ∧ Chg [b, v] w w2 :=
  ⟨⟨hr, hu.chg hc2 (by simp; exact fun e => h.bv e.symm) (by simpa using h.apart), hq, h.len, h.bv, h.gv, h.apart⟩, (hc.mono (by simp)).trans (hc2.mono (by simp))⟩

/-- What read leaves. -/
def ReadPost (w : World) (b g v : Nat) (A : Option Addr) (c : Nat) (xs : List UInt8) (e : Ending) (w' : World) : Prop :=
  e = .returned (.bool true) ∧ ∃ p fe fa, Pair w' b g v A c xs p fe fa ∧ Chg [b, v] w w'

theorem cell1 {w w1 : World} {b a j : Nat} {u : Value} (hc : Chg [b] w w1) (hb : b ≠ a) (h : w.cell? ⟨a, j, none⟩ = some u) : w1.cell? ⟨a, j, none⟩ = some u :=
  hc.cell h (by simp; exact fun e => hb e.symm)

theorem read_fin {w w0 w2 : World} {b g v : Nat} {A : Option Addr} {c : Nat} {xs : List UInt8} {p : Nat} {fe fa : Int} (hc : Chg [] w w0) (h : Pair w2 b g v A c xs p fe fa ∧ Chg [b, v] w0.drew w2) : ReadPost w b g v A c xs (.returned (.bool true)) w2 :=
  ⟨rfl, p, fe, fa, h.1, ((hc.drew).mono (by simp)).trans h.2⟩

set_option maxHeartbeats 1000000 in
theorem read_num (w : World) (b g v : Nat) (A : Option Addr) (c : Nat) (xs : List UInt8) (p : Nat) (fe fa low high : Int) (h : Pair w b g v A c xs p fe fa) :
    Calls Try.prog 21 #[.pointer (some ⟨b, 0, none⟩), .pointer (some ⟨v, 0, none⟩), .agg #[.int .i64 0, .int .i64 low, .int .i64 high]] w (ReadPost w b g v A c xs) := by
  have hc0 : Chg [] w (w.alloc (.cells #[.int .i64 0, .int .i64 low, .int .i64 high] 48)) := (Chg.refl [] w).alloc _
  have hP := h.chg hc0
  have HC0 := Lib.hid hc0
  have hb := h.r.lt.1
  have hv := lt_of_heap h.u.1
  have k := heap_alloc_new w (.cells #[.int .i64 0, .int .i64 low, .int .i64 high] 48)
  have k0 := cell_of k 0
  have k1 := cell_of k 1
  have k2 := cell_of k 2
  simp only [List.getElem?_toArray, List.getElem?_cons_succ, List.getElem?_cons_zero] at k0 k1 k2
  have HP := Lib.hid hP
  clear hP hc0 h k
  go_enter Try.func21, Try.ntmps21
  go_wp2
  have hba : b ≠ w.heap.size := by omega
  have hva : v ≠ w.heap.size := by omega
  generalize w.alloc (.cells #[.int .i64 0, .int .i64 low, .int .i64 high] 48) = w0 at *
  generalize w.heap.size = a at *
  clear hb hv k0
  have hP := HP.out.chg ((Chg.refl [] w0).drew)
  have HPd := Lib.hid hP
  clear hP
  go_region_held3 (fun w' => w'.cell? ⟨a, 1, none⟩ = some (.int .i64 low) ∧ w'.cell? ⟨a, 2, none⟩ = some (.int .i64 high)) (first | go_keep | exact ⟨q1, q2⟩ | exact ⟨q3, q4⟩)
    ((first
      | (go_at_call 29; refine (rnum_any _ b g xs p fe fa low high HPd.out.r HPd.out.le HPd.out.len).mono ?_; rintro e w1 ⟨rfl, r1, cr⟩; have q1 := cell1 cr hba k1; have q2 := cell1 cr hba k2; have R1 := Lib.hid r1; have CR := Lib.hid cr; clear r1 cr)
      | (go_at_call 46; refine (unum_any _ v A c xs p fe fa low high (HPd.out.u1 CR.out) HPd.out.le HPd.out.len).mono ?_; rintro e w2 ⟨rfl, u1, cu⟩; have q3 := cell1 cu hva q1; have q4 := cell1 cu hva q2; have U1 := Lib.hid u1; have CU := Lib.hid cu; clear u1 cu)
      | (go_at_call 46; refine (unum_any _ v A c xs p fe fa low high HPd.out.u HPd.out.le HPd.out.len).mono ?_; rintro e w1 ⟨rfl, u1, cu⟩; have q1 := cell1 cu hva k1; have q2 := cell1 cu hva k2; have U1 := Lib.hid u1; have CU := Lib.hid cu; clear u1 cu)
      | (go_at_call 29; refine (rnum_any _ b g xs p fe fa low high (HPd.out.r1 CU.out) HPd.out.le HPd.out.len).mono ?_; rintro e w2 ⟨rfl, r1, cr⟩; have q3 := cell1 cr hba q1; have q4 := cell1 cr hba q2; have R1 := Lib.hid r1; have CR := Lib.hid cr; clear r1 cr)))
  all_goals
    have hq := rNum_le (fe := fe) (fa := fa) (low := low) (high := high) HPd.out.le
    go_wp2
    go_ret
    first
    | exact read_fin HC0.out (HPd.out.both R1.out CR.out U1.out CU.out hq)
    | exact read_fin HC0.out (HPd.out.both' U1.out CU.out R1.out CR.out hq)

set_option maxHeartbeats 1000000 in
theorem read_text (w : World) (b g v : Nat) (A : Option Addr) (c : Nat) (xs : List UInt8) (p : Nat) (fe fa low high : Int) (h : Pair w b g v A c xs p fe fa) :
    Calls Try.prog 21 #[.pointer (some ⟨b, 0, none⟩), .pointer (some ⟨v, 0, none⟩), .agg #[.int .i64 1, .int .i64 low, .int .i64 high]] w (ReadPost w b g v A c xs) := by
  have hc0 : Chg [] w (w.alloc (.cells #[.int .i64 1, .int .i64 low, .int .i64 high] 48)) := (Chg.refl [] w).alloc _
  have hP := h.chg hc0
  have HC0 := Lib.hid hc0
  have hb := h.r.lt.1
  have hv := lt_of_heap h.u.1
  have k := heap_alloc_new w (.cells #[.int .i64 1, .int .i64 low, .int .i64 high] 48)
  have k0 := cell_of k 0
  have k1 := cell_of k 1
  have k2 := cell_of k 2
  simp only [List.getElem?_toArray, List.getElem?_cons_succ, List.getElem?_cons_zero] at k0 k1 k2
  have HP := Lib.hid hP
  clear hP hc0 h k
  go_enter Try.func21, Try.ntmps21
  go_wp2
  have hba : b ≠ w.heap.size := by omega
  have hva : v ≠ w.heap.size := by omega
  generalize w.alloc (.cells #[.int .i64 1, .int .i64 low, .int .i64 high] 48) = w0 at *
  generalize w.heap.size = a at *
  clear hb hv k0
  have hP := HP.out.chg ((Chg.refl [] w0).drew)
  have HPd := Lib.hid hP
  clear hP
  go_region_held3 (fun w' => w'.cell? ⟨a, 1, none⟩ = some (.int .i64 low) ∧ w'.cell? ⟨a, 2, none⟩ = some (.int .i64 high)) (first | go_keep | exact ⟨q1, q2⟩ | exact ⟨q3, q4⟩)
    ((first
      | (go_at_call 30; refine (rtext_any _ b g xs p fe fa high HPd.out.r HPd.out.le HPd.out.len).mono ?_; rintro e w1 ⟨rfl, r1, cr⟩; have q1 := cell1 cr hba k1; have q2 := cell1 cr hba k2; have R1 := Lib.hid r1; have CR := Lib.hid cr; clear r1 cr)
      | (go_at_call 47; refine (utext_any _ v A c xs p fe fa high (HPd.out.u1 CR.out) HPd.out.le HPd.out.len).mono ?_; rintro e w2 ⟨rfl, u1, cu⟩; have q3 := cell1 cu hva q1; have q4 := cell1 cu hva q2; have U1 := Lib.hid u1; have CU := Lib.hid cu; clear u1 cu)
      | (go_at_call 47; refine (utext_any _ v A c xs p fe fa high HPd.out.u HPd.out.le HPd.out.len).mono ?_; rintro e w1 ⟨rfl, u1, cu⟩; have q1 := cell1 cu hva k1; have q2 := cell1 cu hva k2; have U1 := Lib.hid u1; have CU := Lib.hid cu; clear u1 cu)
      | (go_at_call 30; refine (rtext_any _ b g xs p fe fa high (HPd.out.r1 CU.out) HPd.out.le HPd.out.len).mono ?_; rintro e w2 ⟨rfl, r1, cr⟩; have q3 := cell1 cr hba q1; have q4 := cell1 cr hba q2; have R1 := Lib.hid r1; have CR := Lib.hid cr; clear r1 cr)))
  all_goals
    have hq := (rRaw_le (fe := fe) (fa := fa) (most := high) HPd.out.le).2
    go_wp2
    go_ret
    first
    | exact read_fin HC0.out (HPd.out.both R1.out CR.out U1.out CU.out hq)
    | exact read_fin HC0.out (HPd.out.both' U1.out CU.out R1.out CR.out hq)

/-- Blocks that are new are no matter to two readers. -/
theorem Pair.over {w0 w2 w3 : World} {b g v : Nat} {A : Option Addr} {c : Nat} {xs : List UInt8} {p q : Nat} {fe fa fe' fa' : Int} (h0 : Pair w0 b g v A c xs p fe fa) (h : Pair w2 b g v A c xs q fe' fa') {S : List Nat} (hc : Chg S w2 w3) (hS : ∀ i ∈ S, w0.heap.size ≤ i) : Pair w3 b g v A c xs q fe' fa' := by
  have s1 := h0.r.lt
  have s2 := lt_of_heap h0.u.1
  refine ⟨h.r.chg hc (fun hm => ?_) (fun hm => ?_), h.u.chg hc (fun hm => ?_) ?_, h.le, h.len, h.bv, h.gv, h.apart⟩
  · have := hS _ hm; omega
  · have := hS _ hm; omega
  · have := hS _ hm; omega
  · rcases h0.u.2.1.old with e | e
    · exact .inl e
    · exact .inr fun a ea hm => by have := hS _ hm; have := e a ea; omega
theorem read_raw_fin {w w0 w2 w3 : World} {b g v : Nat} {A A1 : Option Addr} {c : Nat} {xs : List UInt8} {p q : Nat} {fe fa fe' fa' : Int} (hc : Chg [] w w0) (h0 : Pair w0 b g v A c xs p fe fa) (h : Pair w2 b g v A c xs q fe' fa' ∧ Chg [b, v] w0 w2) (hn : ∀ a, A1 = some a → w0.heap.size ≤ a.block) (ho : ∀ S : List Nat, (∀ a, A1 = some a → a.block ∈ S) → Chg S w2 w3) :
    ReadPost w b g v A c xs (.returned (.bool true)) w3 := by
  have hs := hc.size
  cases A1 with
  | none => exact ⟨rfl, q, fe', fa', h0.over h.1 (ho [] (by simp)) (by simp), ((hc.mono (by simp)).trans h.2).trans ((ho [] (by simp)).mono (by simp))⟩
  | some a =>
    have ha := hn a rfl
    have hS := ho [a.block] (by rintro _ ⟨⟩; simp)
    refine ⟨rfl, q, fe', fa', h0.over h.1 hS (by simpa using ha), ((hc.mono (by simp)).trans h.2).trans' hS ?_⟩
    intro i hi
    simp at hi
    subst hi
    right; omega

set_option maxHeartbeats 1000000 in
theorem read_raw (w : World) (b g v : Nat) (A : Option Addr) (c : Nat) (xs : List UInt8) (p : Nat) (fe fa kind low high : Int) (h : Pair w b g v A c xs p fe fa) (hk0 : (kind == 0) = false) (hk1 : (kind == 1) = false) :
    Calls Try.prog 21 #[.pointer (some ⟨b, 0, none⟩), .pointer (some ⟨v, 0, none⟩), .agg #[.int .i64 kind, .int .i64 low, .int .i64 high]] w (ReadPost w b g v A c xs) := by
  have hc0 : Chg [] w (w.alloc (.cells #[.int .i64 kind, .int .i64 low, .int .i64 high] 48)) := (Chg.refl [] w).alloc _
  have hP := h.chg hc0
  have HC0 := Lib.hid hc0
  have hb := h.r.lt.1
  have hv := lt_of_heap h.u.1
  have k := heap_alloc_new w (.cells #[.int .i64 kind, .int .i64 low, .int .i64 high] 48)
  have k0 := cell_of k 0
  have k1 := cell_of k 1
  have k2 := cell_of k 2
  simp only [List.getElem?_toArray, List.getElem?_cons_succ, List.getElem?_cons_zero] at k0 k1 k2
  have HP := Lib.hid hP
  clear hP hc0 h k
  go_enter Try.func21, Try.ntmps21
  go_wp2_with fail
  have hle := rRaw_le (fe := fe) (fa := fa) (most := high) HP.out.le
  have hba : b ≠ w.heap.size := by omega
  have hva : v ≠ w.heap.size := by omega
  have hrr := fun (w0 : World) (h : Rdr w0 b g xs p fe fa) => rraw_any w0 b g xs p fe fa high h HP.out.le HP.out.len
  have huu := fun (w0 : World) (h : URdr w0 v A c xs p fe fa) => uraw_any w0 v A c xs p fe fa high h HP.out.le HP.out.len
  generalize rRaw xs p fe fa high = R at hle hrr huu
  have HRR := Lib.hid hrr
  have HUU := Lib.hid huu
  clear hrr huu
  generalize w.alloc (.cells #[.int .i64 kind, .int .i64 low, .int .i64 high] 48) = w0 at *
  generalize w.heap.size = a at *
  clear k0 k1
  refine (HRR.out w0 HP.out.r).mono ?_
  rintro e w1 ⟨A1, c1, rfl, o1, n1, r1, cr⟩
  have q2 := cell1 cr hba k2
  have O1 := Lib.hid o1
  have N1 := Lib.hid n1
  have R1 := Lib.hid r1
  have CR := Lib.hid cr
  clear o1 n1 r1 cr k2
  go_wp2_with fail
  refine (HUU.out w1 (HP.out.u1 CR.out)).mono ?_
  rintro e w2 ⟨A2, c2, rfl, o2, n2, u2, cu⟩
  have hne : ∀ a', A1 = some a' → a'.block ∉ [v] := by
    intro a' e
    have h1 := N1.out a' e
    have h2 := lt_of_heap HP.out.u.1
    simp; omega
  have o1' := O1.out.chg cu hne
  have O1' := Lib.hid o1'
  have O2 := Lib.hid o2
  have hpair := HP.out.both R1.out CR.out u2 cu hle.2
  have HPair := Lib.hid hpair
  clear hne o1' o2 n2 u2 cu hpair
  go_wp2_with fail
  refine (same_yes _ _ _ _ _ _ _ R.1 R.1 O1'.out.reads O2.out.reads rfl).mono ?_
  rintro e w3 ⟨rfl, rfl⟩
  go_wp2_with fail
  refine (over_own w2 A1 c1 _ _ O1'.out rfl).mono ?_
  rintro e w3 ⟨rfl, ho⟩
  have HO := Lib.hid ho
  clear ho
  go_wp2
  go_ret
  exact read_raw_fin HC0.out HP.out HPair.out N1.out HO.out

/-- read, of whatever is asked for. -/
theorem read_any (w : World) (b g v : Nat) (A : Option Addr) (c : Nat) (xs : List UInt8) (p : Nat) (fe fa kind low high : Int) (h : Pair w b g v A c xs p fe fa) :
    Calls Try.prog 21 #[.pointer (some ⟨b, 0, none⟩), .pointer (some ⟨v, 0, none⟩), .agg #[.int .i64 kind, .int .i64 low, .int .i64 high]] w (ReadPost w b g v A c xs) := by
  by_cases k0 : kind = 0
  · subst k0; exact read_num w b g v A c xs p fe fa low high h
  · by_cases k1 : kind = 1
    · subst k1; exact read_text w b g v A c xs p fe fa low high h
    · exact read_raw w b g v A c xs p fe fa kind low high h (by simpa using k0) (by simpa using k1)
end Go.Proofs.Ytknhgicpndgdoaa
