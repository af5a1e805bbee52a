/- Numbers in digits, dots in texts: no memory here. -/
import Derived.Test.YtmcnfopiilplnaaDoorDchk
import Derived.Lib.ItoaNum
import Derived.Lib.ParseIntBCases
namespace Go.Proofs.YtmcnfopiilplnaaDoor
open Go.RowKit Go.Lib
set_option linter.unusedSimpArgs false
set_option linter.unusedVariables false

def isDig (c : UInt8) : Bool := decide (48 ≤ c.toNat ∧ c.toNat ≤ 57)
/-- The number of digits. -/
def valL (l : List UInt8) : Nat := l.foldl (fun n c => 10 * n + (c.toNat - 48)) 0
theorem valL_snoc (l : List UInt8) (c : UInt8) : valL (l ++ [c]) = 10 * valL l + (c.toNat - 48) := by simp [valL]
/-- The number that digits tell, of at most ten, the first not 0; 0: they tell none. -/
def refN (l : List UInt8) : Nat := if l.length < 1 ∨ 10 < l.length ∨ l.head? = some 48 then 0 else if l.all isDig then valL l else 0

theorem snoc_ind {P : List UInt8 → Prop} (h0 : P []) (h1 : ∀ l c, P l → P (l ++ [c])) (l : List UInt8) : P l := by
  have : ∀ m : List UInt8, P m.reverse := by
    intro m
    induction m with
    | nil => exact h0
    | cons c m ih => rw [List.reverse_cons]; exact h1 _ _ ih
  have h := this l.reverse
  rwa [List.reverse_reverse] at h
theorem dig_eq {c : UInt8} (h : 48 ≤ c.toNat) : UInt8.ofNat (48 + (c.toNat - 48)) = c := by
  apply UInt8.toNat_inj.1
  have := c.toNat_lt
  rw [UInt8.toNat_ofNat']
  omega
theorem dig_val (d : Nat) (h : d < 10) : (UInt8.ofNat (48 + d)).toNat = 48 + d := by rw [UInt8.toNat_ofNat']; omega
/-- Digits whose first is not 0 are their number's. -/
theorem dec_valL : ∀ l : List UInt8, l ≠ [] → l.all isDig = true → l.head? ≠ some 48 → 1 ≤ valL l ∧ decDigits (valL l) = l := by
  refine snoc_ind (fun h => absurd rfl h) ?_
  intro l c ih hne hall hhd
  rw [List.all_append, Bool.and_eq_true] at hall
  obtain ⟨ha, hc⟩ := hall
  have hc : 48 ≤ c.toNat ∧ c.toNat ≤ 57 := by simpa [isDig] using hc
  rw [valL_snoc]
  cases l with
  | nil =>
    have h48 : c ≠ 48 := by simpa using hhd
    have : c.toNat ≠ 48 := fun h => h48 (UInt8.toNat_inj.1 (by simpa using h))
    simp only [valL, List.foldl_nil, List.nil_append, Nat.mul_zero, Nat.zero_add]
    refine ⟨by omega, ?_⟩
    rw [decDigits_one (by omega), dig_eq hc.1]
  | cons a l =>
    obtain ⟨h1, h2⟩ := ih (by simp) ha (by simpa using hhd)
    refine ⟨by omega, ?_⟩
    rw [decDigits, dif_neg (by omega)]
    have e1 : (10 * valL (a :: l) + (c.toNat - 48)) / 10 = valL (a :: l) := by omega
    have e2 : (10 * valL (a :: l) + (c.toNat - 48)) % 10 = c.toNat - 48 := by omega
    rw [e1, e2, h2, dig_eq hc.1]
/-- A number's digits: what they are. -/
theorem dec_props (v : Nat) : decDigits v ≠ [] ∧ (decDigits v).all isDig = true ∧ valL (decDigits v) = v ∧ (1 ≤ v → (decDigits v).head? ≠ some 48) := by
  induction v using Nat.strongRecOn with
  | ind v ih =>
    by_cases h : v < 10
    · rw [decDigits_one h]
      have e := dig_val v h
      refine ⟨by simp, ?_, ?_, ?_⟩
      · simp only [List.all_cons, List.all_nil, Bool.and_true, isDig, e]; simp; omega
      · simp only [valL, List.foldl_cons, List.foldl_nil, e]; omega
      · intro h1 h2
        simp only [List.head?_cons, Option.some.injEq] at h2
        have := congrArg UInt8.toNat h2
        rw [e] at this
        simp at this
        omega
    · obtain ⟨h1, h2, h3, h4⟩ := ih (v / 10) (by omega)
      rw [decDigits, dif_neg h]
      have e := dig_val (v % 10) (by omega)
      refine ⟨by simp, ?_, ?_, ?_⟩
      · rw [List.all_append, h2]
        simp only [List.all_cons, List.all_nil, Bool.and_true, isDig, e]; simp; omega
      · rw [valL_snoc, h3, e]; omega
      · intro _
        rw [List.head?_append]
        have := h4 (by omega)
        cases hd : decDigits (v / 10) with
        | nil => exact absurd hd h1
        | cons a l => rw [hd] at this; simpa using this
theorem dec_len {v : Nat} (h : v < 10000000000) : (decDigits v).length ≤ 10 := by
  rw [decDigits_length]
  have : ∀ k v, v < 10 ^ (k + 1) → nDigits v ≤ k + 1 := by
    intro k
    induction k with
    | zero => intro v hv; rw [nDigits_small (by simpa using hv)]; exact Nat.le_refl _
    | succ k ih =>
      intro v hv
      by_cases hs : v < 10
      · rw [nDigits_small hs]; omega
      · rw [nDigits_big hs]
        have := ih (v / 10) (by rw [Nat.pow_succ] at hv; omega)
        omega
  exact this 9 v (by simpa using h)
theorem refN_dec {v : Nat} (h1 : 1 ≤ v) (h2 : v < 10000000000) : refN (decDigits v) = v := by
  obtain ⟨a, b, c, d⟩ := dec_props v
  have hl := dec_len h2
  have : 0 < (decDigits v).length := List.length_pos_iff.2 a
  unfold refN
  rw [if_neg (fun h => h.elim (fun h => by omega) (fun h => h.elim (fun h => by omega) (fun h => d h1 h))), if_pos b, c]
theorem dec_refN {l : List UInt8} (h : refN l ≠ 0) : decDigits (refN l) = l := by
  unfold refN at h ⊢
  split at h
  · exact absurd rfl h
  · rename_i h1
    split at h
    · rename_i h2
      rw [if_neg h1, if_pos h2]
      refine (dec_valL l ?_ h2 ?_).2
      · rintro rfl; exact h1 (.inl (by simp))
      · exact fun h3 => h1 (.inr (.inr h3))
    · exact absurd rfl h
theorem parseM_app (M : Nat) : ∀ (l r : List UInt8) (acc a : Nat), parseUintM M acc l = .ok a → parseUintM M acc (l ++ r) = parseUintM M a r
  | [], r, acc, a, h => by cases h; rfl
  | c :: l, r, acc, a, h => by
    simp only [List.cons_append, parseUintM] at h ⊢
    by_cases h1 : 48 ≤ c.toNat ∧ c.toNat ≤ 57
    · rw [if_pos h1] at h ⊢
      by_cases h2 : 1844674407370955162 ≤ acc
      · rw [if_pos h2] at h; cases h
      · rw [if_neg h2] at h ⊢
        by_cases h3 : M < acc * 10 + (c.toNat - 48)
        · rw [if_pos h3] at h; cases h
        · rw [if_neg h3] at h ⊢
          exact parseM_app M l r _ a h
    · rw [if_neg h1] at h; cases h
theorem parseM_dec (M : Nat) (hM : M ≤ 4294967295) (v : Nat) (hv : v ≤ M) : parseUintM M 0 (decDigits v) = .ok v := by
  induction v using Nat.strongRecOn with
  | ind v ih =>
    by_cases h : v < 10
    · rw [decDigits_one h]
      simp only [parseUintM, dig_val v h]
      rw [if_pos (by omega), if_neg (by omega), if_neg (by omega)]
      congr 1; omega
    · rw [decDigits, dif_neg h, parseM_app M _ _ 0 (v / 10) (ih (v / 10) (by omega) (by omega))]
      simp only [parseUintM, dig_val (v % 10) (by omega)]
      rw [if_pos (by omega), if_neg (by omega), if_neg (by omega)]
      congr 1; omega
theorem parseB_dec {v : Nat} (hv : v ≤ 4294967295) : parseUintB 32 (decDigits v) = .ok v := by
  unfold parseUintB
  rw [if_neg (dec_props v).1]
  exact parseM_dec _ (by decide) v (by simpa using hv)

/-- What stands ahead of the first dot, and behind it. -/
def cutDot : List UInt8 → Option (List UInt8 × List UInt8)
  | [] => none
  | c :: l => if c = 46 then some ([], l) else (cutDot l).map fun p => (c :: p.1, p.2)
theorem cutDot_some : ∀ {l a b : List UInt8}, cutDot l = some (a, b) → l = a ++ 46 :: b ∧ 46 ∉ a
  | [], a, b, h => by simp [cutDot] at h
  | c :: l, a, b, h => by
    unfold cutDot at h
    split at h
    · rename_i hc; cases h; subst hc; simp
    · rename_i hc
      rw [Option.map_eq_some_iff] at h
      obtain ⟨p, hp, e⟩ := h
      cases e
      obtain ⟨h1, h2⟩ := cutDot_some (a := p.1) (b := p.2) hp
      exact ⟨by rw [h1]; rfl, by simp [h2]; exact fun h => hc h.symm⟩
theorem cutDot_app : ∀ (a b : List UInt8), 46 ∉ a → cutDot (a ++ 46 :: b) = some (a, b)
  | [], b, _ => by simp [cutDot]
  | c :: a, b, h => by
    have h1 : c ≠ 46 := fun e => h (by simp [e])
    have h2 : 46 ∉ a := fun e => h (by simp [e])
    simp only [List.cons_append, cutDot, if_neg h1, cutDot_app a b h2, Option.map_some]
theorem cutDot_none : ∀ {l : List UInt8}, cutDot l = none ↔ 46 ∉ l
  | [] => by simp [cutDot]
  | c :: l => by
    unfold cutDot
    split
    · rename_i h; simp [h]
    · rename_i h
      rw [Option.map_eq_none_iff, cutDot_none, List.mem_cons, not_or]
      exact ⟨fun h' => ⟨fun e => h e.symm, h'⟩, fun h' => h'.2⟩
theorem dig_nodot {l : List UInt8} (h : l.all isDig = true) : 46 ∉ l := fun hm => by
  have := List.all_eq_true.1 h _ hm
  simp [isDig] at this

/-- A dot's text. -/
def dotT (n s : Int) : List UInt8 := decDigits n.toNat ++ 46 :: decDigits s.toNat
def textO (n s : Int) : List UInt8 := if FineD n s then dotT n s else []
theorem textO_fine {n s : Int} (h : FineD n s) : textO n s = dotT n s := if_pos h
theorem textO_odd {n s : Int} (h : ¬ FineD n s) : textO n s = [] := if_neg h
/-- Which dot a text is, or what is wrong. -/
def parseD (l : List UInt8) : (Int × Int) × Int :=
  match cutDot l with
  | none => ((0, 0), 2)
  | some (a, b) => if FineD (refN a) (refN b) then ((refN a, refN b), 0) else ((0, 0), 2)
theorem parseD_text {n s : Int} (h : FineD n s) : parseD (dotT n s) = ((n, s), 0) := by
  obtain ⟨h1, h2, h3, h4⟩ := h
  unfold parseD dotT
  rw [cutDot_app _ _ (dig_nodot (dec_props _).2.1)]
  simp only
  rw [refN_dec (by omega) (by omega), refN_dec (by omega) (by omega)]
  have e1 : (n.toNat : Int) = n := by omega
  have e2 : (s.toNat : Int) = s := by omega
  rw [e1, e2, if_pos ⟨h1, h2, h3, h4⟩]
theorem parseD_back {l : List UInt8} (h : (parseD l).2 = 0) : FineD (parseD l).1.1 (parseD l).1.2 ∧ dotT (parseD l).1.1 (parseD l).1.2 = l := by
  unfold parseD at h ⊢
  split at h
  · exact absurd h (by decide)
  · rename_i a b hc
    split at h
    · rename_i hf
      simp only [if_pos hf]
      refine ⟨hf, ?_⟩
      obtain ⟨h1, h2⟩ := cutDot_some hc
      have ha : refN a ≠ 0 := by have := hf.1; omega
      have hb : refN b ≠ 0 := by have := hf.2.2.1; omega
      unfold dotT
      rw [Int.toNat_natCast, Int.toNat_natCast, dec_refN ha, dec_refN hb, h1]
    · exact absurd h (by decide)
theorem parseD_two {l : List UInt8} (h : (parseD l).2 ≠ 0) : parseD l = ((0, 0), 2) := by
  unfold parseD at h ⊢
  split at h
  · rfl
  · split at h
    · exact absurd rfl h
    · rename_i hf; simp only [if_neg hf]
/-- How the program tells it: two numbers, whose text is the text that was read. -/
theorem parseD_no {l : List UInt8} (h : ∀ n s : Int, FineD n s → l ≠ dotT n s) : parseD l = ((0, 0), 2) := by
  refine parseD_two (fun h0 => ?_)
  obtain ⟨h1, h2⟩ := parseD_back h0
  exact h _ _ h1 h2.symm
end Go.Proofs.YtmcnfopiilplnaaDoor
