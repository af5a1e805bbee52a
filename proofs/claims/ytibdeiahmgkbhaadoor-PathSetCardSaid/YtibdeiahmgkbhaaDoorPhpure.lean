/- Paths, purely: the parts of a text, which parts may be, which texts are paths. No program is named here. -/
import Derived.Test.YtibdeiahmgkbhaaDoorBase
import Derived.Lib.DecodeN
namespace Go.Proofs.YtibdeiahmgkbhaaDoor
open Go.RowKit

/-- What stands between the bytes 47 of a text; acc: what was read of the first one. -/
def cutA : List UInt8 → List UInt8 → List (List UInt8)
  | acc, [] => [acc]
  | acc, b :: l => if b = 47 then acc :: cutA [] l else cutA (acc ++ [b]) l
def cutL (l : List UInt8) : List (List UInt8) := cutA [] l
theorem cutA_ne : ∀ acc l, cutA acc l ≠ []
  | acc, [] => by simp [cutA]
  | acc, b :: l => by
    unfold cutA
    split
    · simp
    · exact cutA_ne _ l
theorem cutA_no : ∀ (l acc : List UInt8), 47 ∉ l → cutA acc l = [acc ++ l]
  | [], acc, _ => by simp [cutA]
  | b :: l, acc, h => by
    simp only [List.mem_cons, not_or] at h
    rw [cutA, if_neg (fun e => h.1 e.symm), cutA_no l _ h.2, List.append_assoc]
    rfl
theorem cutA_at : ∀ (a acc b : List UInt8), 47 ∉ a → cutA acc (a ++ 47 :: b) = (acc ++ a) :: cutA [] b
  | [], acc, b, _ => by simp [cutA]
  | x :: a, acc, b, h => by
    simp only [List.mem_cons, not_or] at h
    rw [List.cons_append, cutA, if_neg (fun e => h.1 e.symm), cutA_at a _ b h.2, List.append_assoc]
    rfl
theorem cutA_len (l : List UInt8) : ∀ acc, (cutA acc l).length ≤ l.length + 1 := by
  induction l with
  | nil => intro acc; simp [cutA]
  | cons b l ih =>
    intro acc
    unfold cutA
    split
    · have := ih []; simp; omega
    · have := ih (acc ++ [b]); simp; omega

/-- May a byte be in a part? -/
def okB (b : UInt8) : Bool := (97 ≤ b.toNat && b.toNat ≤ 122) || (48 ≤ b.toNat && b.toNat ≤ 57) || b == 46 || b == 95 || b == 45
def partL (most : Nat) (p : List UInt8) : Bool := p.all okB && decide (1 ≤ p.length) && decide (p.length ≤ most) && p != [46] && p != [46, 46]
def checkL (parts most : Nat) (l : List UInt8) : Bool := decide ((cutL l).length ≤ parts) && (cutL l).all (partL most)
/-- Has a letter no place in a part? -/
def foreignR (c : Nat) : Bool := !((97 ≤ c && c ≤ 122) || (48 ≤ c && c ≤ 57) || c == 46 || c == 95 || c == 45)
theorem foreign_byte (b : UInt8) : foreignR b.toNat = !okB b := by
  have e : ∀ k : UInt8, (b.toNat == k.toNat) = (b == k) := fun k => by
    rw [Bool.eq_iff_iff, beq_iff_eq, beq_iff_eq]
    exact ⟨fun h => UInt8.toNat_inj.1 h, fun h => by rw [h]⟩
  unfold foreignR okB
  have e1 := e 46
  have e2 := e 95
  have e3 := e 45
  simp only [show (46 : UInt8).toNat = 46 from rfl, show (95 : UInt8).toNat = 95 from rfl, show (45 : UInt8).toNat = 45 from rfl] at e1 e2 e3
  rw [e1, e2, e3]
theorem foreign_ge {c : Nat} (h : 128 ≤ c) : foreignR c = true := by
  simp [foreignR]
  omega
theorem decodeN_ge (n b0 b1 b2 b3 : Nat) (h : 128 ≤ b0) : 128 ≤ (Lib.decodeN n b0 b1 b2 b3).1 := by
  unfold Lib.decodeN
  repeat' split
  all_goals first | omega | (simp only; omega)
theorem get_at (s : ByteArray) (i : Nat) (b : UInt8) (h : s.data.toList[i]? = some b) : s.get! i = b := by
  have hi : i < s.data.size := by
    have := (List.getElem?_eq_some_iff.1 h).1
    simpa using this
  have : s.data[i]? = some b := by rwa [Array.getElem?_toList] at h
  show s.data[i]! = b
  rw [getElem!_pos s.data i hi]
  exact (Array.getElem?_eq_some_iff.1 this).2
/-- The letter at a byte that may be in a part is that byte; at another one it has no place in a part. -/
theorem foreign_at (s : ByteArray) (i : Nat) (b : UInt8) (h : s.data.toList[i]? = some b) : foreignR (Utf8.decode s i).1 = !okB b ∧ (okB b = true → (Utf8.decode s i).2 = 1) := by
  rw [Lib.decode_at, get_at s i b h]
  by_cases hb : b.toNat < 128
  · have e : ∀ n x y z, Lib.decodeN n b.toNat x y z = (b.toNat, 1) := fun n x y z => by unfold Lib.decodeN; rw [if_pos hb]
    rw [e]
    exact ⟨foreign_byte b, fun _ => rfl⟩
  · have hb : 128 ≤ b.toNat := by omega
    have ho : okB b = false := by
      have := foreign_byte b
      rw [foreign_ge hb] at this
      simpa using this.symm
    rw [ho]
    exact ⟨foreign_ge (decodeN_ge _ _ _ _ _ hb), fun h => by cases h⟩
end Go.Proofs.YtibdeiahmgkbhaaDoor
