/- past.stands, past.apart. -/
import Derived.Test.YtpgelolchfglbaaSpans
import Derived.Deep.Cut
import Derived.Deep.RegionHeld3
namespace Go.Proofs.Ytpgelolchfglbaa
open Go.RowKit Go.Lib
set_option linter.unusedSimpArgs false
set_option linter.unusedVariables false


/-- Which spans may be, by themselves. -/
def FineS (n f t : Int) : Prop := 1 ≤ n ∧ n ≤ 200 ∧ 1 ≤ f ∧ f ≤ t ∧ t ≤ 2147483647
instance (n f t : Int) : Decidable (FineS n f t) := by unfold FineS; exact inferInstance
/-- The second is behind the first, and does not touch it. -/
def ApartS (n t m g : Int) : Prop := n < m ∨ n = m ∧ t + 1 < g
instance (n t m g : Int) : Decidable (ApartS n t m g) := by unfold ApartS; exact inferInstance
/-- May the rest be, behind that one? -/
def okFrom : Option (Int × Int × Int) → List (Int × Int × Int) → Bool
  | _, [] => true
  | none, x :: l => decide (FineS x.1 x.2.1 x.2.2) && okFrom (some x) l
  | some y, x :: l => decide (FineS x.1 x.2.1 x.2.2) && decide (ApartS y.1 y.2.2 x.1 x.2.1) && okFrom (some x) l
/-- Why a past may not be. -/
def chkS (xs : List (Int × Int × Int)) : Int := if xs.length ≤ 4000 ∧ okFrom none xs = true then 0 else 2
/-- The one ahead of place k. -/
def prevS (xs : List (Int × Int × Int)) (k : Nat) : Option (Int × Int × Int) := if k = 0 then none else xs[k - 1]?
theorem okFrom_next (xs : List (Int × Int × Int)) (k : Nat) (x : Int × Int × Int) (hx : xs[k]? = some x) :
    okFrom (prevS xs k) (xs.drop k) = (decide (FineS x.1 x.2.1 x.2.2) && (match prevS xs k with | none => true | some y => decide (ApartS y.1 y.2.2 x.1 x.2.1)) && okFrom (prevS xs (k + 1)) (xs.drop (k + 1))) := by
  obtain ⟨hk, rfl⟩ := List.getElem?_eq_some_iff.1 hx
  rw [List.drop_eq_getElem_cons hk]
  have e : prevS xs (k + 1) = some xs[k] := by unfold prevS; rw [if_neg (by omega)]; exact List.getElem?_eq_getElem hk
  rw [e]
  cases prevS xs k <;> simp [okFrom]

set_option maxHeartbeats 400000 in
theorem stands_any (w : World) (n f t : Int) : Calls Try.prog 62 #[.agg #[.int .i64 n, .int .i64 f, .int .i64 t]] w fun e w' => e = .returned (.bool (decide (FineS n f t))) ∧ Chg [] w w' := by
  have go : ∀ v, decide (FineS n f t) = v → Calls Try.prog 62 #[.agg #[.int .i64 n, .int .i64 f, .int .i64 t]] w (fun e w' => e = .returned (.bool v) ∧ Chg [] w w') → Calls Try.prog 62 #[.agg #[.int .i64 n, .int .i64 f, .int .i64 t]] w fun e w' => e = .returned (.bool (decide (FineS n f t))) ∧ Chg [] w w' := fun v hv h => hv ▸ h
  by_cases h : FineS n f t
  · refine go true (decide_eq_true h) ?_
    obtain ⟨h1, h2, h3, h4, h5⟩ := h
    clear go
    go_enter Try.func62, Try.ntmps62
    go_wp2
    go_ret
    exact ⟨rfl, (Chg.refl _ _).alloc _⟩
  · refine go false (decide_eq_false h) ?_
    unfold FineS at h
    by_cases h1 : 1 ≤ n
    rotate_left
    · clear h
      clear go
      go_enter Try.func62, Try.ntmps62
      go_wp2
      go_ret
      exact ⟨rfl, (Chg.refl _ _).alloc _⟩
    by_cases h2 : n ≤ 200
    rotate_left
    · clear h
      clear go
      go_enter Try.func62, Try.ntmps62
      go_wp2
      go_ret
      exact ⟨rfl, (Chg.refl _ _).alloc _⟩
    by_cases h3 : 1 ≤ f
    rotate_left
    · clear h
      clear go
      go_enter Try.func62, Try.ntmps62
      go_wp2
      go_ret
      exact ⟨rfl, (Chg.refl _ _).alloc _⟩
    by_cases h4 : f ≤ t
    rotate_left
    · clear h
      clear go
      go_enter Try.func62, Try.ntmps62
      go_wp2
      go_ret
      exact ⟨rfl, (Chg.refl _ _).alloc _⟩
    have h5 : ¬ t ≤ 2147483647 := by omega
    clear h
    clear go
    go_enter Try.func62, Try.ntmps62
    go_wp2
    go_ret
    exact ⟨rfl, (Chg.refl _ _).alloc _⟩
set_option maxHeartbeats 400000 in
theorem apart_any (w : World) (n f t m g u : Int) (ht : -2147483648 ≤ t) (ht2 : t ≤ 2147483647) : Calls Try.prog 63 #[.agg #[.int .i64 n, .int .i64 f, .int .i64 t], .agg #[.int .i64 m, .int .i64 g, .int .i64 u]] w fun e w' => e = .returned (.bool (decide (ApartS n t m g))) ∧ Chg [] w w' := by
  have go : ∀ v, decide (ApartS n t m g) = v → Calls Try.prog 63 #[.agg #[.int .i64 n, .int .i64 f, .int .i64 t], .agg #[.int .i64 m, .int .i64 g, .int .i64 u]] w (fun e w' => e = .returned (.bool v) ∧ Chg [] w w') → Calls Try.prog 63 #[.agg #[.int .i64 n, .int .i64 f, .int .i64 t], .agg #[.int .i64 m, .int .i64 g, .int .i64 u]] w fun e w' => e = .returned (.bool (decide (ApartS n t m g))) ∧ Chg [] w w' := fun v hv h => hv ▸ h
  have wr : IntKind.i64.wrap (t + 1) = t + 1 := IntWalk.i64_in _ (by omega)
  by_cases h1 : n < m
  · refine go true (decide_eq_true (.inl h1)) ?_
    clear go
    go_enter Try.func63, Try.ntmps63
    go_wp2
    go_ret
    exact ⟨rfl, ((Chg.refl _ _).alloc _).alloc _⟩
  by_cases h2 : n = m
  rotate_left
  · refine go false (decide_eq_false (by unfold ApartS; omega)) ?_
    clear go
    go_enter Try.func63, Try.ntmps63
    go_wp2
    go_ret
    exact ⟨rfl, ((Chg.refl _ _).alloc _).alloc _⟩
  by_cases h3 : t + 1 < g
  · refine go true (decide_eq_true (.inr ⟨h2, h3⟩)) ?_
    subst h2
    clear go
    go_enter Try.func63, Try.ntmps63
    go_wp2
    go_ret
    exact ⟨rfl, ((Chg.refl _ _).alloc _).alloc _⟩
  · refine go false (decide_eq_false (by unfold ApartS; omega)) ?_
    subst h2
    clear go
    go_enter Try.func63, Try.ntmps63
    go_wp2
    go_ret
    exact ⟨rfl, ((Chg.refl _ _).alloc _).alloc _⟩
end Go.Proofs.Ytpgelolchfglbaa
