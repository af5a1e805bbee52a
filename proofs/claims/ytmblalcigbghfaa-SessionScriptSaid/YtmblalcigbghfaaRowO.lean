/- Rows that a slice owns from a place on (x = x[k:], then append). No function of the program is named here. -/
import Derived.Test.YtmblalcigbghfaaRowK
namespace Go.Proofs.Ytmblalcigbghfaa
open Go.RowKit
set_option linter.unusedSimpArgs false
set_option linter.unusedVariables false

theorem run_append_roomO {P : Program} (w : World) (t ty e : TypeId) (i : TypeInfo) (ht : P.underlying t = some (.slice e)) (hi : P.info? e = some i)
    (g off sLen sCap : Nat) (cur : Array Value) (hg : w.heap[g]? = some (.cells cur e (0, 0)))
    (a : Addr) (m c : Nat) (news : List Value) (hl : news.length = m * i.size) (hnews : ∀ j u, news[j]? = some u → w.cell? (a.add j) = some u) (h1 : ∀ u ∈ news, u.oneCell' = true)
    (hroom : sLen + m ≤ sCap) (hfit : off + sLen * i.size + news.length ≤ cur.size) :
    (Builtin.append_ #[t, t] ty #[.slice (some ⟨g, off, none⟩) sLen sCap, .slice (some a) m c]).run P w =
      .ok (.slice (some ⟨g, off, none⟩) (sLen + m) sCap) (w.setRow g (cur.toList.take (off + sLen * i.size) ++ news ++ cur.toList.drop (off + sLen * i.size + news.length)).toArray) := by
  have hf := run_firstCells_some (P := P) w i.size m a m c news hl hnews
  have hst := run_storeCells_at P g (off + sLen * i.size) e news 0 cur w hg (by simpa using hfit) h1
  simp only [Nat.add_zero] at hst
  simp [Builtin.append_, run_underlying ht, sizeOf, typeInfo, hi, Builtin.lenOf, hroom, hf, Addr.add_lit, hst]
section
variable {α : Type} (R : RowTy α)
/-- The slice '.slice A xs.length c' owns a row from a place on: what is ahead of the place is nobody's. -/
def OwnO (w : World) (A : Option Addr) (c : Nat) (xs : List α) : Prop :=
  (A = none ∧ xs = [] ∧ c = 0) ∨ ∃ (g o : Nat) (full : List α), A = some ⟨g, o * R.k, none⟩ ∧ w.heap[g]? = some (.cells (R.flat full).toArray R.T (0, 0)) ∧ o + c ≤ full.length ∧ c ≤ maxLen ∧ xs.length ≤ c ∧ (full.drop o).take xs.length = xs
end
section
variable {α : Type} {R : RowTy α}
theorem OwnO.none_ (w : World) : OwnO R w none 0 [] := .inl ⟨rfl, rfl, rfl⟩
theorem OwnO.ofK {w : World} {A : Option Addr} {c : Nat} {xs : List α} (h : OwnK R w A c xs) : OwnO R w A c xs := by
  rcases h with h | ⟨g, full, h1, h2, h3, h4, h5, h6⟩
  · exact .inl h
  · exact .inr ⟨g, 0, full, by rw [h1, Nat.zero_mul], h2, by omega, h4, h5, by simpa using h6⟩
theorem OwnO.chg {S : List Nat} {w w' : World} {A : Option Addr} {c : Nat} {xs : List α} (h : OwnO R w A c xs) (hc : Chg S w w') (hn : ∀ a, A = some a → a.block ∉ S) : OwnO R w' A c xs := by
  rcases h with h | ⟨g, o, full, h1, h2, r⟩
  · exact .inl h
  · exact .inr ⟨g, o, full, h1, hc.at_ h2 (hn _ h1), r⟩
theorem OwnO.lt {w : World} {A : Option Addr} {c : Nat} {xs : List α} (h : OwnO R w A c xs) : ∀ a, A = some a → a.block < w.heap.size := by
  rintro a rfl
  rcases h with ⟨h, _, _⟩ | ⟨g, o, full, h, hg, _⟩
  · cases h
  · cases h; exact lt_of_heap hg
theorem OwnO.cap {w : World} {A : Option Addr} {c : Nat} {xs : List α} (h : OwnO R w A c xs) : xs.length ≤ c ∧ c ≤ maxLen := by
  rcases h with ⟨_, rfl, rfl⟩ | ⟨_, _, _, _, _, _, h1, h2, _⟩
  · simp [maxLen]
  · exact ⟨h2, h1⟩
theorem OwnO.ne {w : World} {A : Option Addr} {c : Nat} {xs : List α} (h : OwnO R w A c xs) {b : Nat} {cs : Array Value} {t : TypeId} {fr : Nat × Nat} (hb : w.heap[b]? = some (.cells cs t fr)) (ht : t ≠ R.T) : ∀ a, A = some a → a.block ≠ b := by
  rintro a rfl e
  rcases h with ⟨h, _, _⟩ | ⟨g, o, full, h, hg, _⟩
  · cases h
  · cases h
    simp only at e
    subst e
    rw [hb] at hg
    cases hg
    exact ht rfl
theorem OwnO.reads {w : World} {A : Option Addr} {c : Nat} {xs : List α} (h : OwnO R w A c xs) : RdK R w A xs.length xs := by
  refine ⟨rfl, fun j u hj => ?_⟩
  rcases h with ⟨_, rfl, _⟩ | ⟨g, o, full, rfl, hg, _, _, _, ht⟩
  · simp [RowTy.flat] at hj
  · refine ⟨_, rfl, ?_⟩
    rw [← ht, R.flat_take, List.getElem?_take] at hj
    split at hj
    · rw [R.flat_drop, List.getElem?_drop] at hj
      rw [add_lit, cell_of hg]; simpa using hj
    · cases hj
/-- x[m:]. -/
theorem OwnO.drop {w : World} {g o c : Nat} {xs : List α} (h : OwnO R w (some ⟨g, o, none⟩) c xs) (m : Nat) (hm : m ≤ xs.length) : OwnO R w (some ⟨g, o + m * R.k, none⟩) (c - m) (xs.drop m) := by
  rcases h with ⟨h, _, _⟩ | ⟨g', o', full, h1, h2, h3, h4, h5, h6⟩
  · cases h
  · cases h1
    refine .inr ⟨g, o' + m, full, by rw [Nat.add_mul], h2, by omega, by omega, by simp; omega, ?_⟩
    rw [← List.drop_drop, List.length_drop]
    conv => rhs; rw [← h6]
    rw [List.drop_take]
/-- x[m:], as the slicing spells it. -/
theorem OwnO.sliced {w : World} {A : Option Addr} {c : Nat} {xs : List α} (h : OwnO R w A c xs) (m : Nat) (hm : m ≤ xs.length) : OwnO R w (if c = m then A else A.map (·.add (m * R.k))) (c - m) (xs.drop m) := by
  have hcap := h.cap
  by_cases e : c = m
  · rw [if_pos e]
    rcases h with ⟨h1, rfl, h3⟩ | ⟨g, o, full, h1, h2, h3, h4, h5, h6⟩
    · exact .inl ⟨h1, by simp, by omega⟩
    · exact .inr ⟨g, o, full, h1, h2, by omega, by omega, by simp; omega, by rw [List.drop_of_length_le (show xs.length ≤ m by omega)]; simp⟩
  · rw [if_neg e]
    rcases h with ⟨rfl, rfl, rfl⟩ | ⟨g, o, full, rfl, h2, h3, h4, h5, h6⟩
    · simp at hm
      omega
    · rw [show (Option.map (·.add (m * R.k)) (some (⟨g, o * R.k, none⟩ : Addr))) = some ⟨g, o * R.k + m * R.k, none⟩ by simp [add_lit]]
      exact OwnO.drop (.inr ⟨g, o, full, rfl, h2, h3, h4, h5, h6⟩) m hm
theorem flat_set (xs : List α) (j i : Nat) (x y : α) (v : Value) (hx : xs[j]? = some x) (hi : i < R.k) (he : (R.enc x).set i v = R.enc y) : (R.flat xs).set (j * R.k + i) v = R.flat (xs.set j y) := by
  refine R.flat_ext _ _ (by rw [List.length_set, R.flat_len, List.length_set]) (fun q p z hz hp => ?_)
  have hj := (List.getElem?_eq_some_iff.1 hx).1
  by_cases e : q = j
  · subst e
    rw [List.getElem?_set_self hj] at hz
    cases hz
    rw [← he]
    by_cases e2 : p = i
    · subst e2
      rw [List.getElem?_set_self (by rw [R.flat_len]; have := Nat.mul_le_mul_right R.k (show q + 1 ≤ xs.length from hj); rw [Nat.succ_mul] at this; omega), List.getElem?_set_self (by rw [R.klen]; exact hp)]
    · rw [List.getElem?_set_ne (by omega), List.getElem?_set_ne (fun h => e2 h.symm)]
      exact R.flat_at xs q p x hx hp
  · rw [List.getElem?_set_ne (fun h => e h.symm)] at hz
    have : q * R.k + p ≠ j * R.k + i := by
      intro h
      have h1 : (q * R.k + p) / R.k = q := by rw [Nat.mul_comm, Nat.mul_add_div R.kpos, Nat.div_eq_of_lt hp]; rfl
      have h2 : (j * R.k + i) / R.k = j := by rw [Nat.mul_comm, Nat.mul_add_div R.kpos, Nat.div_eq_of_lt hi]; rfl
      rw [h, h2] at h1
      exact e h1.symm
    rw [List.getElem?_set_ne (fun h => this h.symm)]
    exact R.flat_at xs q p z hz hp
/-- One cell of an element, stored. -/
theorem OwnO.put {w : World} {g o c : Nat} {xs : List α} (h : OwnO R w (some ⟨g, o, none⟩) c xs) (j i : Nat) (x y : α) (v : Value) (hx : xs[j]? = some x) (hi : i < R.k) (he : (R.enc x).set i v = R.enc y) : OwnO R (w.setCell ⟨g, o + (j * R.k + i), none⟩ v) (some ⟨g, o, none⟩) c (xs.set j y) := by
  rcases h with ⟨h, _, _⟩ | ⟨g', o', full, h1, h2, h3, h4, h5, h6⟩
  · cases h
  · cases h1
    have hj := (List.getElem?_eq_some_iff.1 hx).1
    have hf : full[o' + j]? = some x := by
      rw [← hx]
      conv => rhs; rw [← h6]
      rw [List.getElem?_take, if_pos hj, List.getElem?_drop]
    refine .inr ⟨g, o', full.set (o' + j) y, rfl, ?_, by rw [List.length_set]; exact h3, h4, by rw [List.length_set]; exact h5, ?_⟩
    · rw [heap_setCell_same _ g _ _ _ v h2, List.setIfInBounds_toArray, show o' * R.k + (j * R.k + i) = (o' + j) * R.k + i by rw [Nat.add_mul]; omega, flat_set full (o' + j) i x y v hf hi he]
    · rw [List.length_set, List.drop_set, if_neg (by omega), show o' + j - o' = j by omega, List.take_set, h6]
theorem OwnO.frz {w : World} {g o c : Nat} {xs : List α} (h : OwnO R w (some ⟨g, o, none⟩) c xs) (j : Nat) : w.frozen? ⟨g, j, none⟩ = false := by
  rcases h with ⟨h, _, _⟩ | ⟨g', o', full, h1, h2, h3, h4, h5, h6⟩
  · cases h
  · cases h1
    exact free_of h2 j
set_option maxRecDepth 100000 in
/-- append of elements to a row that is owned from a place on. -/
theorem run_appO (w : World) (ty : TypeId) {A : Option Addr} {c : Nat} {xs : List α} (hown : OwnO R w A c xs) {B : Option Addr} {m d : Nat} {ys : List α} (hr : RdK R w B m ys) (hlen : (xs.length + m) * 400 ≤ 140737488355327) :
    ∃ A' c' w', (Builtin.append_ #[R.TS, R.TS] ty #[.slice A xs.length c, .slice B m d]).run Try.prog w = .ok (.slice A' (xs.length + m) c') w' ∧ OwnO R w' A' c' (xs ++ ys) ∧
      w.grownBy w' (A.map (·.block)) ∧ (A' = A ∨ A' = some ⟨w.heap.size, 0, none⟩) := by
  rcases hown with ⟨rfl, rfl, rfl⟩ | ⟨g, o, full, rfl, hg, hfl, hcm, hnc, htake⟩
  · obtain ⟨A', c', w', h1, h2, h3, h4⟩ := run_appK (R := R) w ty (OwnK.none_ w) (d := d) hr hlen
    exact ⟨A', c', w', h1, .ofK h2, h3, h4⟩
  obtain ⟨i0, hi, hz0, hz1, hz2⟩ := info_parts R.info
  have hbp := R.bpos
  have hzs : R.zv.cells.size = R.k := by rw [← Array.length_toList, R.zc, R.klen]
  have hm := hr.len
  subst hm
  rcases B with _ | ad
  · have hy : ys = [] := by
      cases ys with
      | nil => rfl
      | cons y ys =>
        have : 0 < (R.flat (y :: ys)).length := by rw [R.flat_len, List.length_cons]; exact Nat.mul_pos (by omega) R.kpos
        obtain ⟨a, h, _⟩ := hr.cells 0 _ (List.getElem?_eq_getElem this); cases h
    subst hy
    have hoo : OwnO R w (some ⟨g, o * R.k, none⟩) c xs := .inr ⟨g, o, full, rfl, hg, hfl, hcm, hnc, htake⟩
    refine ⟨some ⟨g, o * R.k, none⟩, c, w, ?_, by rw [List.append_nil]; exact hoo, World.grownBy.refl w _, .inl rfl⟩
    simp [Builtin.append_, run_underlying R.under, sizeOf, typeInfo, hi, Builtin.lenOf, Builtin.firstCells, hnc, storeCells]
  have hnews : ∀ j u, (R.flat ys)[j]? = some u → w.cell? (ad.add j) = some u := by
    intro j u hu
    obtain ⟨a, e, hc⟩ := hr.cells j u hu
    cases e
    exact hc
  have hl : (R.flat ys).length = ys.length * i0.size := by rw [hz1, R.flat_len]
  have h1 := R.flat_one ys
  have hbnd : ∀ q, q * 400 ≤ 140737488355327 → (q * 2) * i0.bytes ≤ 281474976710656 := fun q hq => by
    rw [hz2]
    have := Nat.mul_le_mul_left (q * 2) hbp
    omega
  by_cases hroom : xs.length + ys.length ≤ c
  · have hfit : o * R.k + xs.length * i0.size + (R.flat ys).length ≤ (R.flat full).toArray.size := by
      rw [hz1, R.flat_len, List.size_toArray, R.flat_len, ← Nat.add_mul, ← Nat.add_mul]; exact Nat.mul_le_mul_right _ (by omega)
    have hr := run_append_roomO (P := Try.prog) w R.TS ty R.T i0 R.under hi g (o * R.k) xs.length c _ hg ad ys.length d (R.flat ys) hl hnews h1 hroom hfit
    refine ⟨_, _, _, hr, .inr ⟨g, o, full.take (o + xs.length) ++ ys ++ full.drop (o + xs.length + ys.length), rfl, ?_, by simp; omega, hcm, by simpa using hroom, ?_⟩, ⟨rfl, rfl, rfl, by simp, fun k hk hne => setRow_other w g k _ (fun e => hne (by simp [e]))⟩, .inl rfl⟩
    · have hs := setRow_heap w g _ ((R.flat full).toArray.toList.take (o * R.k + xs.length * i0.size) ++ R.flat ys ++ (R.flat full).toArray.toList.drop (o * R.k + xs.length * i0.size + (R.flat ys).length)).toArray _ _ hg
      rw [hs, R.flat_app, R.flat_app, R.flat_take, R.flat_drop, hz1, R.flat_len, Nat.add_mul, Nat.add_mul, Nat.add_mul]
    · rw [List.append_assoc, List.drop_append_of_le_length (by simp; omega)]
      have e : (full.take (o + xs.length)).drop o = xs := by rw [List.drop_take, show o + xs.length - o = xs.length by omega, htake]
      rw [e, List.length_append, ← List.append_assoc, List.take_append_of_le_length (by simp), List.take_of_length_le (by simp)]
  · have holds : ∀ j u, (R.flat xs)[j]? = some u → w.cell? ((⟨g, o * R.k, none⟩ : Addr).add j) = some u := by
      intro j u hu
      obtain ⟨a, e, hc⟩ := (OwnO.reads (R := R) (.inr ⟨g, o, full, rfl, hg, hfl, hcm, hnc, htake⟩)).cells j u hu
      cases e
      exact hc
    have hr := run_append_grow (P := Try.prog) w R.TS ty R.T i0 R.zv R.under hi hz0 ⟨g, o * R.k, none⟩ xs.length c (R.flat xs) (by rw [hz1, R.flat_len]) holds ad ys.length d (R.flat ys) hl hnews (by omega) (by omega)
      (growslice_fits (by omega) (by rw [hz2]; have := Nat.mul_le_mul_left (xs.length + ys.length) hbp; omega))
    have hge : xs.length + ys.length ≤ grownCap w (xs.length + ys.length) c R.T := grownCap_ge w _ c _
    have hcm2 : grownCap w (xs.length + ys.length) c R.T ≤ maxLen := grownCap_le_maxLen w _ c _ (by simp only [maxLen]; omega)
    generalize hcap : grownCap w (xs.length + ys.length) c R.T = cap' at hr hge hcm2
    have e : (R.flat (xs ++ ys ++ List.replicate (cap' - (xs.length + ys.length)) R.z)).toArray = (R.flat xs).toArray ++ (R.flat ys).toArray ++ (R.flat (List.replicate (cap' - (xs.length + ys.length)) R.z)).toArray := by
      rw [R.flat_app, R.flat_app, List.append_toArray, List.append_toArray]
    refine ⟨_, _, _, hr, .ofK (.of (full := xs ++ ys ++ List.replicate (cap' - (xs.length + ys.length)) R.z) ?_ (by simpa using hge) hcm2 (by simp; omega) List.take_left), ⟨rfl, rfl, rfl, by simp, fun k hk _ => Below.heap_alloc w.drew _ k hk⟩, .inr rfl⟩
    rw [R.zeros, e]
    exact heap_alloc_new w.drew _
theorem step_appO {ops : Array Oper} {o : Oper} {a : Act} {w : World} {K : Act → World → Prop} {Q : Exit → Act → World → Prop} {E : Prop} (hgd : o.guard = none) (s x : Operand)
    (ho : o.op = .call { callee := .builtin .append, args := #[s, x], argTypes := #[R.TS, R.TS] })
    {A : Option Addr} {c n : Nat} {xs : List α} (hs : a.eval s = .slice A n c) (hown : OwnO R w A c xs) (hn : xs.length = n) {B : Option Addr} {m d : Nat} {ys : List α} (hx : a.eval x = .slice B m d) (hr : RdK R w B m ys) (hlen : (n + m) * 400 ≤ 140737488355327)
    (h : ∀ A' c' w', OwnO R w' A' c' (xs ++ ys) → w.grownBy w' (A.map (·.block)) → (A' = A ∨ A' = some ⟨w.heap.size, 0, none⟩) → K (a.put o.dst (.slice A' (n + m) c')) w') :
    if Region.wanted o (yielded ops a.tmps) = true then Oper.wp Try.prog o a w K Q else E := by
  have hw : Region.wanted o (yielded ops a.tmps) = true := by simp [Region.wanted, hgd]
  rw [if_pos hw]
  subst hn
  obtain ⟨A', c', w', hrun, h2, h3, h4⟩ := run_appO w o.type hown (d := d) hr hlen
  unfold Oper.wp execOp
  simp only [ho, resolve, invoke, builtin, Sem.run_bind, Sem.run_pure, Result.andThen_ok, List.map_toArray, List.map_cons, List.map_nil, hs, hx, hrun]
  exact h A' c' w' h2 h3 h4
end
end Go.Proofs.Ytmblalcigbghfaa
