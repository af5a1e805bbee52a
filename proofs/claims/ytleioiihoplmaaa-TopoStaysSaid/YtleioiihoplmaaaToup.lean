/- Topologies: is there such a node; the iterator upward; the document's way up. -/
import Derived.Test.YtleioiihoplmaaaTopure
import Derived.Test.YtleioiihoplmaaaTorows
import Derived.Test.YtleioiihoplmaaaRangeo
import Derived.Sort.LoopGhostIn
import Derived.RangeFuncLeaves
import Derived.RangeFuncNested
namespace Go.Proofs.Ytleioiihoplmaaa
open Go.RowKit
set_option linter.unusedSimpArgs false
set_option linter.unusedVariables false
attribute [local go_sem] Oper.semAt_some
theorem wayT_succ (t : List MemT) (f : Nat) (n : Int) : wayT t (f + 1) n = if thereT t n then n :: (if n = 1 then [] else wayT t f (memT t n).2.1) else [] := rfl
theorem way_take (t : List MemT) : ∀ f n, (wayT t (f + 1) n).take f = wayT t f n
  | 0, n => by simp [wayT]
  | f + 1, n => by
    rw [wayT_succ t (f + 1) n, wayT_succ t f n]
    by_cases ht : thereT t n = true
    · rw [if_pos ht, if_pos ht, List.take_succ_cons]
      by_cases h1 : n = 1
      · rw [if_pos h1, if_pos h1]; simp
      · rw [if_neg h1, if_neg h1, way_take t f]
    · rw [if_neg ht, if_neg ht]; simp
theorem there_at {t : List MemT} {n : Int} (h : thereT t n = true) : 1 ≤ n ∧ n ≤ (t.length : Int) ∧ (n - 1).toNat < t.length ∧ ((n - 1).toNat : Int) = n - 1 ∧ t[(n - 1).toNat]? = some (memT t n) := by
  obtain ⟨h1, h2⟩ := there_iff.1 h
  have hlt : (n - 1).toNat < t.length := by omega
  refine ⟨h1, h2, hlt, by omega, ?_⟩
  unfold memT
  rw [List.getD_eq_getElem?_getD, List.getElem?_eq_getElem hlt]
  rfl
theorem tohas_any (w : World) (A : Option Addr) (c : Nat) (t : List MemT) (x : Int) :
    Calls Try.prog 44 #[.slice A t.length c, .int .i64 x] w fun e w' => e = .returned (.bool (thereT t x)) ∧ w' = w := by
  by_cases h1 : 1 ≤ x
  · by_cases h2 : x ≤ (t.length : Int)
    · have ht : thereT t x = true := there_iff.2 ⟨h1, h2⟩
      rw [ht]
      clear ht
      go_enter Try.func44, Try.ntmps44
      go_wp2
      go_ret
      exact ⟨rfl, rfl⟩
    · have ht : thereT t x = false := by unfold thereT; simp; omega
      rw [ht]
      clear ht
      go_enter Try.func44, Try.ntmps44
      go_wp2
      go_ret
      exact ⟨rfl, rfl⟩
  · have ht : thereT t x = false := by unfold thereT; simp; omega
    rw [ht]
    clear ht
    go_enter Try.func44, Try.ntmps44
    go_wp2
    go_ret
    exact ⟨rfl, rfl⟩
theorem tqthere_any (w : World) (A : Option Addr) (c : Nat) (t : List MemT) (x : Int) :
    Calls Try.prog 36 #[.slice A t.length c, .int .i64 x] w fun e w' => e = .returned (.bool (thereT t x)) ∧ w' = w := by
  by_cases h1 : 1 ≤ x
  · by_cases h2 : x ≤ (t.length : Int)
    · have ht : thereT t x = true := there_iff.2 ⟨h1, h2⟩
      rw [ht]
      clear ht
      go_enter Try.func36, Try.ntmps36
      go_wp2
      go_ret
      exact ⟨rfl, rfl⟩
    · have ht : thereT t x = false := by unfold thereT; simp; omega
      rw [ht]
      clear ht
      go_enter Try.func36, Try.ntmps36
      go_wp2
      go_ret
      exact ⟨rfl, rfl⟩
  · have ht : thereT t x = false := by unfold thereT; simp; omega
    rw [ht]
    clear ht
    go_enter Try.func36, Try.ntmps36
    go_wp2
    go_ret
    exact ⟨rfl, rfl⟩
theorem RdK.kpt {α : Type} {R : RowTy α} {m : Nat} {T : List Nat} {w w' : World} {A : Option Addr} {n : Nat} {xs : List α} (h : RdK R w A n xs) (hk : Kpt m T w w') (hA : ∀ a, A = some a → a.block < m ∧ a.block ∉ T) : RdK R w' A n xs :=
  ⟨h.len, fun j u hj => by
    obtain ⟨a, ha, hc⟩ := h.cells j u hj
    exact ⟨a, ha, (World.cell?_of_block (hk.block _ (by rw [block_add]; exact (hA a ha).1) (by rw [block_add]; exact (hA a ha).2))).trans hc⟩⟩
set_option maxRecDepth 100000 in
set_option maxHeartbeats 2000000 in
theorem upa_gives (n : Nat) (l n₁ bt bn : Nat) (T : List Nat) (A : Option Addr) (c N : Nat) (t : List MemT) (n0 : Int) (hN : t.length ≤ 140737488351232)
    (J Jx : List Int → World → Prop) (W : World) (ht1 : bt < n₁) (hn1 : bn < n₁) (hbn : bt ≠ bn) (hTt : bt ∉ T) (hTn : bn ∉ T) (hn₁ : n₁ ≤ W.heap.size) (hA : ∀ a, A = some a → a.block < n₁ ∧ a.block ≠ bn ∧ a.block ∉ T)
    (hJ : ∀ pre A B, J pre A → Chg [bn] A B → J pre B) (hJb : ∀ pre W, J pre W → pre.length ≤ N)
    (hY : ∀ pre x W1, J pre W1 → (thereT t x = true ∧ ∀ f, wayT t (pre.length + f) n0 = pre ++ wayT t f x) → YieldAt Fence.wide n Try.prog l #[.int .i64 x] W1 fun e W' => (e = .returned (.bool true) ∧ J (pre ++ [x]) W' ∧ Kpt n₁ T W1 W') ∨ (e = .returned (.bool false) ∧ Jx (pre ++ [x]) W'))
    (ht : W.cell? ⟨bt, 0, none⟩ = some (.slice A t.length c)) (hv : W.heap[bn]? = some (.cells #[.int .i64 n0] 3 (0, 0))) (hR : RdK memTy W A t.length t) (h0 : J [] W) :
    CallsIn Fence.wide (n + 1) Try.prog 48 #[.func (.yield l) #[] #[], .pointer (some ⟨bt, 0, none⟩), .pointer (some ⟨bn, 0, none⟩)] W fun e W' => (∃ v, e = .returned v) ∧ ((∃ ys, (∀ f, wayT t (ys.length + f) n0 = ys) ∧ J ys W') ∨ ∃ ys, True ∧ Jx ys W') := by
  have h1 : 1 ≤ n + 1 := by omega
  have hro : Fence.wide.round = none := rfl
  refine callsIn_of_wp Try.func48 rfl trivial ?_ hro
  simp only [Try.ntmps48, List.size_toArray, List.length_cons, List.length_nil, Nat.reduceAdd, Nat.reduceSub, Array.replicate_succ, Array.replicate_zero, List.push_toArray, List.append_toArray, List.nil_append, List.cons_append]
  have HR := Lib.hid hR
  clear hR
  gi_wp2
  gi_loopg [] (N + 1) (fun G wr => ∃ (pre : List Int) (x : Int), Hid (∀ f, wayT t (pre.length + f) n0 = pre ++ wayT t f x) ∧ wr.heap[bn]? = some (.cells #[.int .i64 x] 3 (0, 0)) ∧ J pre wr ∧ Hid (Kpt n₁ (bn :: T) W wr) ∧ N - pre.length < G)
  case atStart => exact ⟨[], n0, Lib.hid (fun f => by simp), hv, h0, Lib.hid (Kpt.refl _ _ _), by simp⟩
  case round =>
    obtain ⟨pre, x, HE, hcell, hJs, HK, hG⟩ := hrel
    have cs := cell_of hcell 0
    simp only [List.getElem?_toArray, List.getElem?_cons_zero] at cs
    have cf := free_of hcell 0
    have ct : wr.cell? ⟨bt, 0, none⟩ = some (.slice A t.length c) := (World.cell?_of_block (HK.out.block bt ht1 (by simp; exact ⟨hbn, hTt⟩))).trans ht
    cases hth : thereT t x with
    | false =>
      have TH := Lib.hid (fun w => hth ▸ tohas_any w A c t x)
      have HE2 := Lib.hid (show ∀ f, wayT t (pre.length + f) n0 = pre from fun f => by rw [HE.out, way_none hth, List.append_nil])
      clear hth
      gi_wp2_with (refine ⟨trivial, ?_⟩; gi_at_call 44; refine (callsIn_wide.2 (TH.out _)).mono ?_; rintro e w1 ⟨rfl, rfl⟩)
      refine ⟨(fun f hf => by cases hf), ?_⟩
      gi_wp2
      go_end0
      exact ⟨⟨_, rfl⟩, .inl ⟨pre, HE2.out, hJs⟩⟩
    | true =>
      obtain ⟨fn, tmps, assign, body, hy, hRn⟩ := hY pre x wr hJs ⟨hth, HE.out⟩
      have TH := Lib.hid (fun w => hth ▸ tohas_any w A c t x)
      have HT := Lib.hid hth
      clear hth
      gi_wp2_with (refine ⟨trivial, ?_⟩; gi_at_call 44; refine (callsIn_wide.2 (TH.out _)).mono ?_; rintro e w1 ⟨rfl, rfl⟩)
      refine hRn.mono ?_
      rintro e W3 (⟨rfl, hJ3, hk3⟩ | ⟨rfl, hx⟩)
      · have hl3 := hJb _ _ hJ3
        rw [List.length_append] at hl3
        simp only [List.length_cons, List.length_nil] at hl3
        have hc3 : W3.heap[bn]? = some (.cells #[.int .i64 x] 3 (0, 0)) := (hk3.block bn hn1 hTn).trans hcell
        have cs3 := cell_of hc3 0
        simp only [List.getElem?_toArray, List.getElem?_cons_zero] at cs3
        have cf3 := free_of hc3 0
        have ct3 : W3.cell? ⟨bt, 0, none⟩ = some (.slice A t.length c) := (World.cell?_of_block (hk3.block bt ht1 hTt)).trans ct
        by_cases hx1 : x = 1
        · have HE2 := Lib.hid (show ∀ f, wayT t ((pre ++ [x]).length + f) n0 = pre ++ [x] from fun f => by
            rw [List.length_append, show pre.length + [x].length + f = pre.length + (f + 1) by simp; omega, HE.out, wayT_succ, if_pos HT.out, if_pos hx1])
          subst hx1
          have HJ3 := Lib.hid hJ3
          clear hJ3
          gi_wp2
          go_end0
          exact ⟨⟨_, rfl⟩, .inl ⟨_, HE2.out, HJ3.out⟩⟩
        · have HE2 := Lib.hid (show ∀ f, wayT t ((pre ++ [x]).length + f) n0 = (pre ++ [x]) ++ wayT t f (memT t x).2.1 from fun f => by
            rw [List.length_append, show pre.length + [x].length + f = pre.length + (f + 1) by simp; omega, HE.out, wayT_succ, if_pos HT.out, if_neg hx1]; simp)
          obtain ⟨e1, e2, e3, e4, e5⟩ := there_at HT.out
          have HJ3 := Lib.hid hJ3
          have R3 := HR.out.kpt (HK.out.trans (hk3.mono (Nat.le_refl _) (fun y hy => List.mem_cons_of_mem _ hy))) (fun a ha => by have := hA a ha; simp; exact ⟨this.1, this.2.1, this.2.2⟩)
          obtain ⟨g, o, eA, _⟩ := R3.line (by omega)
          subst eA
          obtain ⟨_, m1, _⟩ := memCells R3 e5
          obtain ⟨k, hk⟩ : ∃ k : Nat, x = (k : Int) + 1 := ⟨(x - 1).toNat, by omega⟩
          have hk0 : (x - 1).toNat = k := by omega
          rw [hk0] at m1 e3
          generalize memT t x = m at *
          obtain ⟨m0, mu, md⟩ := m
          simp only at m1
          have q1 : IntKind.i64.wrap ((k : Int)) = (k : Int) := IntWalk.i64_in _ (by omega)
          have q2 : (0 : Int) ≤ (k : Int) := by omega
          have q3 : (k : Int) < (t.length : Int) := by omega
          have hne : ((x == 1) : Bool) = false := by simpa using hx1
          have q4 : (k : Int) ≠ 0 := by omega
          have e9 : (W3.setCell ⟨bn, 0, none⟩ (.int .i64 mu)).heap[bn]? = some (.cells #[.int .i64 mu] 3 (0, 0)) := by simpa using heap_setCell_same W3 bn 0 _ _ (.int .i64 mu) hc3
          have C9 := Lib.hid ((Chg.refl [bn] W3).setCell (p := ⟨bn, 0, none⟩) (.inl (by simp)) (.int .i64 mu))
          have E9 := Lib.hid e9
          have K3 := Lib.hid hk3
          clear hc3 e9 hJ3 hk3 e1 e2 e4 e5 hk0 R3 HT TH hy hRn
          subst hk
          gi_wp2
          gi_roundg (N - pre.length)
          case measure => exact hG
          case rel =>
            refine ⟨pre ++ [(k : Int) + 1], mu, HE2, E9.out, hJ _ _ _ HJ3.out C9.out, Lib.hid ((HK.out.trans (K3.out.mono (Nat.le_refl _) (fun y hy => List.mem_cons_of_mem _ hy))).trans (Kpt.of_chg (C9.out.mono (fun i hi => .inl (by simp at hi; simp [hi]))) ?_)), by simp; omega⟩
            have := HK.out.size; have := K3.out.size; omega
      · gi_wp2
        go_end0
        exact ⟨⟨_, rfl⟩, .inr ⟨_, trivial, hx⟩⟩
end Go.Proofs.Ytleioiihoplmaaa
