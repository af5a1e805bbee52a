/- Acts that came in: what they read as, and whether they are too many (long). -/
import Derived.Test.YtknhgicpndgdoaaLaw
namespace Go.Proofs.Ytknhgicpndgdoaa
open Go.RowKit

/-- An act's parts as they lie in memory. -/
structure ActD where
  kind : Int
  n : Int
  s : ByteArray
  B : Option Addr
  m : Nat
  d : Nat
  ys : List UInt8

/-- The four cells of an act at ⟨b, o⟩, and its bytes. -/
structure ActAt (w : World) (b o : Nat) (a : ActD) : Prop where
  c0 : w.cell? ⟨b, o, none⟩ = some (.int .i64 a.kind)
  c1 : w.cell? ⟨b, o + 1, none⟩ = some (.int .i64 a.n)
  c2 : w.cell? ⟨b, o + 2, none⟩ = some (.string a.s)
  c3 : w.cell? ⟨b, o + 3, none⟩ = some (.slice a.B a.m a.d)
  bytes : Bs w a.B a.m a.ys
  small : a.s.size ≤ 140737488351232 ∧ a.m ≤ 140737488351232 ∧ -9223372036854775808 ≤ a.n ∧ a.n ≤ 9223372036854775807

theorem ActAt.below {w w' : World} {b o : Nat} {a : ActD} {B : Nat} (h : ActAt w b o a) (hb : Below B w w') (hB : w.heap.size ≤ B) : ActAt w' b o a := by
  have hlt : b < B := Nat.lt_of_lt_of_le (lt_of_cell h.c0) hB
  refine ⟨(hb.cell (p := ⟨b, o, none⟩) hlt).trans h.c0, (hb.cell (p := ⟨b, o + 1, none⟩) hlt).trans h.c1, (hb.cell (p := ⟨b, o + 2, none⟩) hlt).trans h.c2, (hb.cell (p := ⟨b, o + 3, none⟩) hlt).trans h.c3, ?_, h.small⟩
  rcases h.bytes.old with h1 | h1
  · have := h.bytes.len
    rw [h1] at this ⊢
    rw [← this]
    exact Bs.nil _ _
  · exact h.bytes.below hb (fun a e => by have := h1 a e; omega)

/-- A row of acts. -/
def Acts (w : World) (A : Option Addr) (len : Nat) (l : List ActD) : Prop :=
  l.length = len ∧ ∀ j a, l[j]? = some a → ∃ b off, A = some ⟨b, off, none⟩ ∧ ActAt w b (off + j * 4) a

/-- Is an act longer than is gone through? -/
def bad (a : ActD) : Bool := decide (300 < a.s.size) || decide (300 < a.m)
def longs (l : List ActD) : Bool := l.any bad || decide (60 < l.length)
theorem longs_bad {l : List ActD} {j : Nat} {a : ActD} (h : l[j]? = some a) (hb : bad a = true) : longs l = true := by
  have : l.any bad = true := List.any_eq_true.2 ⟨a, List.mem_of_getElem? h, hb⟩
  simp [longs, this]
theorem any_more {l : List ActD} {j : Nat} {a : ActD} (h : l[j]? = some a) (hn : (l.take j).any bad = false) (hb : bad a = false) : (l.take (j + 1)).any bad = false := by
  rw [List.take_add_one, h, List.any_append, hn]
  simp [hb]

set_option maxHeartbeats 400000 in
theorem long_any (w : World) (A : Option Addr) (len c : Nat) (l : List ActD) (h : Acts w A len l) (hlen : len ≤ 140737488351232) :
    Calls Try.prog 10 #[.slice A len c] w fun e w' => e = .returned (.bool (longs l)) ∧ w = w' := by
  obtain ⟨hl, hat⟩ := h
  have HA := Lib.hid hat
  have HL := Lib.hid hl
  clear hat hl
  go_enter Try.func10, Try.ntmps10
  go_wp2
  go_loop [3] (fun i => ∃ j : Nat, j ≤ len ∧ i = .int .i64 j ∧ (l.take j).any bad = false) (fun i => len - (intOf i).toNat)
  case atStart => exact ⟨0, by omega, rfl, rfl⟩
  case round =>
    obtain ⟨j, hj, rfl, hn⟩ := hrel
    have HN := Lib.hid hn
    clear hn
    by_cases hlt : j < len
    · obtain ⟨a, ha⟩ : ∃ a, l[j]? = some a := ⟨l[j]'(by have := HL.out; omega), List.getElem?_eq_getElem _⟩
      obtain ⟨b, off, rfl, hA⟩ := HA.out j a ha
      have c2 := hA.c2
      have c3 := hA.c3
      obtain ⟨s1, s2, s3, s4⟩ := hA.small
      have Ha := Lib.hid ha
      clear ha hA HA
      by_cases h1 : 300 < a.s.size
      · have hb : bad a = true := by simp [bad, h1]
        have HB := Lib.hid (longs_bad Ha.out hb)
        clear hb
        go_wp2
        go_ret
        exact ⟨by rw [HB.out]; rfl, rfl⟩
      · by_cases h2 : 300 < a.m
        · have hb : bad a = true := by simp [bad, h2]
          have HB := Lib.hid (longs_bad Ha.out hb)
          clear hb
          go_wp2
          go_ret
          exact ⟨by rw [HB.out]; rfl, rfl⟩
        · have hb : bad a = false := by simp [bad, h1, h2]
          have HB := Lib.hid (any_more Ha.out HN.out hb)
          clear hb
          go_wp2
          go_round
          case rel => exact ⟨j + 1, by omega, by go_num, HB.out⟩
          case measure => simp [intOf]; omega
    · have hjl : j = len := by omega
      have hfin : longs l = decide (60 < len) := by
        have hn := HN.out
        rw [hjl, ← HL.out, List.take_length] at hn
        simp [longs, hn, HL.out]
      have HF := Lib.hid hfin
      clear hfin hjl
      go_wp2
      go_ret
      exact ⟨by rw [HF.out]; simp; omega, rfl⟩
end Go.Proofs.Ytknhgicpndgdoaa
