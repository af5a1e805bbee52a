/- What a session answers: plain functions. No function of the program is named here. sync/atomic's numbers and flags, by their calls. A session's memory: its row of cells, with the ring of bodies in it. The ring's body at a place. drop. The small methods of a session. Tick. turn. Packets. A session among other memory: its ledger. -/
import Derived.Test.YtmblalcigbghfaaMem
import Derived.Laws.LoneSync
import Derived.Deep.QuietTactic
import Derived.BigQuiet
import Derived.RegionTactic
import Derived.Deep.RegionHeld3
import Derived.Deep.Cut
import Derived.Test.YtmblalcigbghfaaCkm
import Derived.Deep.MidRow
import Derived.Test.YtmblalcigbghfaaRowK
namespace Go.Proofs.Ytmblalcigbghfaa
section
set_option linter.unusedSimpArgs false
set_option linter.unusedVariables false

/-- A session: its epoch, the other end's; what is in the queue (bytes; how many ticks ago it was out, at most four; below 0: never), the first one's number; how many came; those that were not taken; is an answer owed; how often it turned. -/
structure SesT where
  ep : Int
  peer : Int
  q : List (List UInt8 × Int)
  base : Int
  came : Int
  inn : List (List UInt8)
  owes : Bool
  turned : Int
abbrev PakT := Int × Int × Int × Int × List UInt8
def newS (e : Int) : SesT := ⟨e, 0, [], 1, 0, [], true, 0⟩
def sendS (st : SesT) (b : List UInt8) : SesT := if 400 < b.length ∨ st.peer = 0 ∨ 8 ≤ st.q.length then st else { st with q := st.q ++ [(b, -1)] }
def sendE (st : SesT) (b : List UInt8) : Int := if 400 < b.length then 3 else if st.peer = 0 then 9 else if 8 ≤ st.q.length then 8 else 0
def older (a : Int) : Int := if 0 ≤ a ∧ a < 4 then a + 1 else a
def tickS (st : SesT) : SesT := { st with q := st.q.map (fun x => (x.1, older x.2)) }
def due (a : Int) : Bool := decide (a < 0 ∨ 4 ≤ a)
def outQ (ep peer came : Int) : Int → List (List UInt8 × Int) → List PakT
  | _, [] => []
  | n, x :: xs => if due x.2 then (ep, peer, n, came, x.1) :: outQ ep peer came (n + 1) xs else outQ ep peer came (n + 1) xs
def was (x : List UInt8 × Int) : List UInt8 × Int := if due x.2 then (x.1, 0) else x
def outL (st : SesT) : List PakT := if outQ st.ep st.peer st.came st.base st.q = [] ∧ (st.owes = true ∨ st.peer = 0) then [(st.ep, st.peer, 0, st.came, [])] else outQ st.ep st.peer st.came st.base st.q
def outS (st : SesT) : SesT := { st with q := st.q.map was, owes := false }
def Minds (st : SesT) (p : PakT) : Prop := st.peer ≤ p.1 ∧ 1 ≤ p.1 ∧ p.1 ≤ 1099511627776 ∧ 0 ≤ p.2.1 ∧ 0 ≤ p.2.2.1 ∧ p.2.2.1 ≤ 1099511627776 ∧ 0 ≤ p.2.2.2.1 ∧ p.2.2.2.2.length ≤ 400
instance (st : SesT) (p : PakT) : Decidable (Minds st p) := by unfold Minds; exact inferInstance
def turnS (st : SesT) (f : Int) : SesT := { st with peer := f, q := [], base := 1, came := 0, owes := true, turned := st.turned + 1 }
def meetS (st : SesT) (f : Int) : SesT := if st.peer < f then turnS st f else st
def dropS (st : SesT) (a : Int) : SesT := if st.base ≤ a ∧ a < st.base + st.q.length then { st with q := st.q.drop (a - st.base + 1).toNat, base := a + 1 } else st
def oweS (st : SesT) : SesT := { st with owes := true }
def comeS (st : SesT) (n : Int) (b : List UInt8) : SesT := if st.came + 1 = n then { st with came := st.came + 1, inn := st.inn ++ [b] } else st
def recvS (st : SesT) (p : PakT) : SesT :=
  if Minds st p then
    if p.2.1 = st.ep then
      if p.2.2.1 = 0 then dropS (meetS st p.1) p.2.2.2.1 else comeS (oweS (dropS (meetS st p.1) p.2.2.2.1)) p.2.2.1 p.2.2.2.2
    else oweS (meetS st p.1)
  else st
def takeS (st : SesT) : SesT := { st with inn := [] }
/-- Within K calls. -/
structure InvS (K : Nat) (st : SesT) : Prop where
  ep : 1 ≤ st.ep ∧ st.ep ≤ 1099511627776
  peer : 0 ≤ st.peer ∧ st.peer ≤ 1099511627776
  q : st.q.length ≤ 8
  base : 1 ≤ st.base ∧ st.base + st.q.length ≤ K + 1
  came : 0 ≤ st.came ∧ st.came ≤ K
  inn : st.inn.length ≤ K
  turned : 0 ≤ st.turned ∧ st.turned ≤ K
  ages : ∀ x ∈ st.q, -1 ≤ x.2 ∧ x.2 ≤ 4 ∧ x.1.length ≤ 400
  inl : ∀ x ∈ st.inn, x.length ≤ 400
theorem InvS.more {K L : Nat} {st : SesT} (h : InvS K st) (hl : K ≤ L) : InvS L st :=
  ⟨h.ep, h.peer, h.q, ⟨h.base.1, by have := h.base.2; omega⟩, ⟨h.came.1, by have := h.came.2; omega⟩, by have := h.inn; omega, ⟨h.turned.1, by have := h.turned.2; omega⟩, h.ages, h.inl⟩
theorem new_inv {e : Int} (h : 1 ≤ e ∧ e ≤ 1099511627776) : InvS 0 (newS e) := ⟨h, by simp [newS], by simp [newS], by simp [newS], by simp [newS], by simp [newS], by simp [newS], by simp [newS], by simp [newS]⟩
theorem send_inv {K : Nat} {st : SesT} (h : InvS K st) (b : List UInt8) : InvS (K + 1) (sendS st b) := by
  unfold sendS
  split
  · exact h.more (by omega)
  · rename_i hn
    have h1 := h.q; have h2 := h.base
    refine ⟨h.ep, h.peer, ?_, ⟨h2.1, ?_⟩, ⟨h.came.1, by have := h.came.2; simp only; omega⟩, by have := h.inn; simp only; omega, ⟨h.turned.1, by have := h.turned.2; simp only; omega⟩, ?_, h.inl⟩
    · simp only [List.length_append, List.length_singleton]; omega
    · simp only [List.length_append, List.length_singleton]; omega
    · intro x hx
      rcases List.mem_append.1 hx with e | e
      · exact h.ages x e
      · simp at e; subst e; simp; omega
theorem tick_inv {K : Nat} {st : SesT} (h : InvS K st) : InvS (K + 1) (tickS st) := by
  refine ⟨h.ep, h.peer, by simpa [tickS] using h.q, ⟨h.base.1, by have := h.base.2; simp [tickS]; omega⟩, ⟨h.came.1, by have := h.came.2; simp [tickS]; omega⟩, by have := h.inn; simp [tickS]; omega, ⟨h.turned.1, by have := h.turned.2; simp [tickS]; omega⟩, ?_, h.inl⟩
  intro x hx
  simp [tickS] at hx
  obtain ⟨a, c, hm, rfl⟩ := hx
  have := h.ages _ hm
  simp only [older]
  split <;> simp at * <;> omega
theorem out_inv {K : Nat} {st : SesT} (h : InvS K st) : InvS (K + 1) (outS st) := by
  refine ⟨h.ep, h.peer, by simpa [outS] using h.q, ⟨h.base.1, by have := h.base.2; simp [outS]; omega⟩, ⟨h.came.1, by have := h.came.2; simp [outS]; omega⟩, by have := h.inn; simp [outS]; omega, ⟨h.turned.1, by have := h.turned.2; simp [outS]; omega⟩, ?_, h.inl⟩
  intro x hx
  simp only [outS, List.mem_map] at hx
  obtain ⟨a, hm, rfl⟩ := hx
  have := h.ages _ hm
  simp only [was]
  split
  · refine ⟨?_, ?_, this.2.2⟩ <;> simp
  · exact this
theorem meet_inv {K : Nat} {st : SesT} {f : Int} (h : InvS K st) (hf : 1 ≤ f ∧ f ≤ 1099511627776) : InvS (K + 1) (meetS st f) := by
  unfold meetS
  split
  · refine ⟨h.ep, ⟨by simp only [turnS]; omega, hf.2⟩, by simp [turnS], by simp [turnS]; omega, by simp [turnS]; omega, by have := h.inn; simp only [turnS]; omega, ⟨by have := h.turned.1; simp only [turnS]; omega, by have := h.turned.2; simp only [turnS]; omega⟩, by simp [turnS], h.inl⟩
  · exact h.more (by omega)
theorem drop_inv {K : Nat} {st : SesT} (a : Int) (h : InvS K st) : InvS K (dropS st a) := by
  unfold dropS
  split
  · rename_i hc
    have h1 := h.q; have h2 := h.base
    refine ⟨h.ep, h.peer, by simp only [List.length_drop]; omega, ⟨by simp only; omega, by simp only [List.length_drop]; omega⟩, h.came, h.inn, h.turned, fun x hx => h.ages x (List.mem_of_mem_drop hx), h.inl⟩
  · exact h
theorem owe_inv {K : Nat} {st : SesT} (h : InvS K st) : InvS K (oweS st) := ⟨h.ep, h.peer, h.q, h.base, h.came, h.inn, h.turned, h.ages, h.inl⟩
theorem recv_inv {K : Nat} {st : SesT} (h : InvS K st) (p : PakT) : InvS (K + 2) (recvS st p) := by
  unfold recvS
  split
  · rename_i hm
    have h1 := meet_inv h (f := p.1) ⟨hm.2.1, hm.2.2.1⟩
    split
    · split
      · exact (drop_inv _ h1).more (by omega)
      · have h2 := owe_inv (drop_inv p.2.2.2.1 h1)
        unfold comeS
        split
        · refine ⟨h2.ep, h2.peer, h2.q, ⟨h2.base.1, by have := h2.base.2; simp only at this ⊢; omega⟩, ⟨by have := h2.came.1; simp only; omega, by have := h2.came.2; simp only at this ⊢; omega⟩, by have := h2.inn; simp only [List.length_append, List.length_singleton]; omega, ⟨h2.turned.1, by have := h2.turned.2; simp only at this ⊢; omega⟩, h2.ages, ?_⟩
          intro x hx
          rcases List.mem_append.1 hx with e | e
          · exact h2.inl x e
          · simp at e; subst e; exact hm.2.2.2.2.2.2.2
        · exact h2.more (by omega)
    · exact (owe_inv h1).more (by omega)
  · exact h.more (by omega)
theorem take_inv {K : Nat} {st : SesT} (h : InvS K st) : InvS K (takeS st) := ⟨h.ep, h.peer, h.q, h.base, h.came, by simp [takeS], h.turned, h.ages, by simp [takeS]⟩
theorem outQ_len (ep peer came : Int) : ∀ (n : Int) (l : List (List UInt8 × Int)), (outQ ep peer came n l).length ≤ l.length
  | _, [] => by simp [outQ]
  | n, x :: xs => by
    have := outQ_len ep peer came (n + 1) xs
    unfold outQ
    split <;> simp <;> omega
theorem outQ_snoc (ep peer came : Int) : ∀ (n : Int) (l : List (List UInt8 × Int)) (x : List UInt8 × Int), outQ ep peer came n (l ++ [x]) = outQ ep peer came n l ++ (if due x.2 then [(ep, peer, n + l.length, came, x.1)] else [])
  | n, [], x => by by_cases h : due x.2 = true <;> simp [outQ, h]
  | n, y :: ys, x => by
    have e := outQ_snoc ep peer came (n + 1) ys x
    have e2 : n + 1 + (ys.length : Int) = n + ((y :: ys).length : Int) := by simp; omega
    rw [e2] at e
    by_cases h : due y.2 = true
    · simp only [List.cons_append, outQ, h, if_true, e]
    · simp only [List.cons_append, outQ, h, Bool.false_eq_true, if_false, e]
end
section
open Go.RowKit Go.Lib
set_option linter.unusedSimpArgs false
set_option linter.unusedVariables false

theorem run_call_swap {P : Program} {f : FuncId} {fn : Func} (hf : P.funcs[f]? = some fn) (hname : (fn.name == "runtime.NumGoroutine") = false) (hb : fn.body.isNone = true) (hn : Extern.findNext fn = none) (k : IntKind)
    (he : Extern.find fn = some (Extern.Atomic.swapT (.int k))) {a : Addr} {x y : Int} {w : World} (hc : w.cell? a = some (.int k x)) (hz : w.frozen? a = false) :
    (callFunc f #[.pointer (some a), .int k y]).run P w = .ok (.value (.int k x)) (w.setCell a (.int k y)) := by
  rw [run_callFunc_extern hf hname hb hn he]
  change (Sem.run P (do
    let a' ← asAddr (.pointer (some a))
    let old ← Extern.Atomic.read (.int k) a'
    store a' (.int k y) .atomic
    pure old) w).andThen _ = _
  simp [Extern.Atomic.read, asAddr, hc, hz, run_store P w a (.int k y) .atomic rfl, Result.andThen]
/-- A flag as its number. -/
def u32b (b : Bool) : Int := if b then 1 else 0
theorem b32_f (w : World) : Calls Try.prog 56 #[.bool false] w fun e w' => e = .returned (.int .u32 0) ∧ w' = w := by
  go_enter Try.func56, Try.ntmps56
  go_wp2
  go_ret
  exact ⟨rfl, rfl⟩
theorem b32_t (w : World) : Calls Try.prog 56 #[.bool true] w fun e w' => e = .returned (.int .u32 1) ∧ w' = w := by
  go_enter Try.func56, Try.ntmps56
  go_wp2
  go_ret
  exact ⟨rfl, rfl⟩

theorem bswap_f (w : World) (b o : Nat) (x : Bool) (hc : w.cell? ⟨b, o, none⟩ = some (.int .u32 (u32b x))) (hz : w.frozen? ⟨b, o, none⟩ = false) :
    Calls Try.prog 44 #[.pointer (some ⟨b, o, none⟩), .bool false] w fun e w' => e = .returned (.bool x) ∧ w' = w.drew.setCell ⟨b, o, none⟩ (.int .u32 0) := by
  go_enter Try.func44, Try.ntmps44
  go_upto_region 1 with fail
  refine wp_region_held_drew (S := fun _ => True) (by kernel_rfl) trivial (fun hHeld => ?_)
  refine sy 0 5 rfl rfl ?_
  try simp only [Act.put, sA, s0, s1]
  refine sy 1 6 rfl rfl ?_
  try simp only [Act.put, sA, s0, s1]
  refine sy 2 7 rfl rfl ?_
  try simp only [Act.put, sA, s0, s1]
  refine sy 3 8 rfl rfl ?_
  try simp only [Act.put, sA, s0, s1]
  refine wpAnyH_ready (rs := [4]) (by kernel_rfl) (by simp) ?_
  refine AllReadyH.cons rfl (fun K hK => ?_) AllReadyH.nil
  replace hK := Lib.hid hK
  go_simp
  refine (b32_f _).mono ?_
  rintro e w9 ⟨rfl, rfl⟩
  refine hK.out _ _ trivial (fun hHeld => ?_)
  clear hK K
  try simp only [Act.put, sA, s0, s1]
  have hs := run_call_swap (P := Try.prog) (y := 0) Try.func55 (by kernel_rfl) (by kernel_rfl) (by kernel_rfl) .u32 (by kernel_rfl) (w := w.drew) (a := ⟨b, o, none⟩) (x := u32b x) hc hz
  refine wpAnyH_ready (rs := [5]) (by kernel_rfl) (by simp) ?_
  refine AllReadyH.cons rfl (fun K hK => ?_) AllReadyH.nil
  replace hK := Lib.hid hK
  skip
  go_simp
  refine hK.out _ _ trivial (fun hHeld => ?_)
  clear hK K
  try simp only [Act.put, sA, s0, s1]
  have e0 : decide (u32b x = 0) = !x := by cases x <;> rfl
  have e1 : (!decide (u32b x = 0)) = x := by cases x <;> rfl
  refine sy 6 11 rfl rfl ?_
  try simp only [Act.put, sA, s0, s1]
  refine sy 7 4 rfl rfl ?_
  try simp only [Act.put, sA, s0, s1]
  refine wpAnyH_done (by kernel_rfl) ?_ _
  go_wp2
  go_ret
  refine ⟨?_, rfl⟩
  cases x <;> rfl

theorem bcas_f (w : World) (b o : Nat) (hc : w.cell? ⟨b, o, none⟩ = some (.int .u32 0)) (hz : w.frozen? ⟨b, o, none⟩ = false) :
    Calls Try.prog 54 #[.pointer (some ⟨b, o, none⟩), .bool false, .bool true] w fun e w' => e = .returned (.bool true) ∧ w' = w.drew.setCell ⟨b, o, none⟩ (.int .u32 1) := by
  go_enter Try.func54, Try.ntmps54
  go_upto_region 1 with fail
  refine wp_region_held_drew (S := fun _ => True) (by kernel_rfl) trivial (fun hHeld => ?_)
  refine sy 0 7 rfl rfl ?_
  try simp only [Act.put, sA, s0, s1]
  refine sy 1 8 rfl rfl ?_
  try simp only [Act.put, sA, s0, s1]
  refine sy 2 9 rfl rfl ?_
  try simp only [Act.put, sA, s0, s1]
  refine sy 3 10 rfl rfl ?_
  try simp only [Act.put, sA, s0, s1]
  refine sy 5 12 rfl rfl ?_
  try simp only [Act.put, sA, s0, s1]
  refine wpAnyH_ready (rs := [4]) (by kernel_rfl) (by simp) ?_
  refine AllReadyH.cons rfl (fun K hK => ?_) AllReadyH.nil
  replace hK := Lib.hid hK
  go_simp
  refine (b32_f _).mono ?_
  rintro e w9 ⟨rfl, rfl⟩
  refine hK.out _ _ trivial (fun hHeld => ?_)
  clear hK K
  try simp only [Act.put, sA, s0, s1]
  refine wpAnyH_ready (rs := [6]) (by kernel_rfl) (by simp) ?_
  refine AllReadyH.cons rfl (fun K hK => ?_) AllReadyH.nil
  replace hK := Lib.hid hK
  go_simp
  refine (b32_t _).mono ?_
  rintro e w9 ⟨rfl, rfl⟩
  refine hK.out _ _ trivial (fun hHeld => ?_)
  clear hK K
  try simp only [Act.put, sA, s0, s1]
  have hs := run_call_cas_hit (P := Try.prog) (y := 1) Try.func60 (by kernel_rfl) (by kernel_rfl) (by kernel_rfl) .u32 (by kernel_rfl) (w := w.drew) (a := ⟨b, o, none⟩) (x := 0) hc hz
  refine wpAnyH_ready (rs := [7]) (by kernel_rfl) (by simp) ?_
  refine AllReadyH.cons rfl (fun K hK => ?_) AllReadyH.nil
  replace hK := Lib.hid hK
  skip
  go_simp
  refine hK.out _ _ trivial (fun hHeld => ?_)
  clear hK K
  try simp only [Act.put, sA, s0, s1]
  refine sy 8 6 rfl rfl ?_
  try simp only [Act.put, sA, s0, s1]
  refine wpAnyH_done (by kernel_rfl) ?_ _
  go_wp2
  go_ret
  exact ⟨rfl, rfl⟩

theorem bcas_t (w : World) (b o : Nat) (hc : w.cell? ⟨b, o, none⟩ = some (.int .u32 1)) (hz : w.frozen? ⟨b, o, none⟩ = false) :
    Calls Try.prog 54 #[.pointer (some ⟨b, o, none⟩), .bool false, .bool true] w fun e w' => e = .returned (.bool false) ∧ w' = w.drew := by
  go_enter Try.func54, Try.ntmps54
  go_upto_region 1 with fail
  refine wp_region_held_drew (S := fun _ => True) (by kernel_rfl) trivial (fun hHeld => ?_)
  refine sy 0 7 rfl rfl ?_
  try simp only [Act.put, sA, s0, s1]
  refine sy 1 8 rfl rfl ?_
  try simp only [Act.put, sA, s0, s1]
  refine sy 2 9 rfl rfl ?_
  try simp only [Act.put, sA, s0, s1]
  refine sy 3 10 rfl rfl ?_
  try simp only [Act.put, sA, s0, s1]
  refine sy 5 12 rfl rfl ?_
  try simp only [Act.put, sA, s0, s1]
  refine wpAnyH_ready (rs := [4]) (by kernel_rfl) (by simp) ?_
  refine AllReadyH.cons rfl (fun K hK => ?_) AllReadyH.nil
  replace hK := Lib.hid hK
  go_simp
  refine (b32_f _).mono ?_
  rintro e w9 ⟨rfl, rfl⟩
  refine hK.out _ _ trivial (fun hHeld => ?_)
  clear hK K
  try simp only [Act.put, sA, s0, s1]
  refine wpAnyH_ready (rs := [6]) (by kernel_rfl) (by simp) ?_
  refine AllReadyH.cons rfl (fun K hK => ?_) AllReadyH.nil
  replace hK := Lib.hid hK
  go_simp
  refine (b32_t _).mono ?_
  rintro e w9 ⟨rfl, rfl⟩
  refine hK.out _ _ trivial (fun hHeld => ?_)
  clear hK K
  try simp only [Act.put, sA, s0, s1]
  have hs := run_call_cas_miss (P := Try.prog) (o := 0) (y := 1) Try.func60 (by kernel_rfl) (by kernel_rfl) (by kernel_rfl) .u32 (by kernel_rfl) (w := w.drew) (a := ⟨b, o, none⟩) (x := 1) hc hz (by decide)
  refine wpAnyH_ready (rs := [7]) (by kernel_rfl) (by simp) ?_
  refine AllReadyH.cons rfl (fun K hK => ?_) AllReadyH.nil
  replace hK := Lib.hid hK
  skip
  go_simp
  refine hK.out _ _ trivial (fun hHeld => ?_)
  clear hK K
  try simp only [Act.put, sA, s0, s1]
  refine sy 8 6 rfl rfl ?_
  try simp only [Act.put, sA, s0, s1]
  refine wpAnyH_done (by kernel_rfl) ?_ _
  go_wp2
  go_ret
  exact ⟨rfl, rfl⟩

theorem iload_any (w : World) (b o : Nat) (x : Int) (hc : w.cell? ⟨b, o, none⟩ = some (.int .i64 x)) : Calls Try.prog 50 #[.pointer (some ⟨b, o, none⟩)] w fun e w' => e = .returned (.int .i64 x) ∧ w' = w := by
  have hs := run_call_load (P := Try.prog) Try.func58 (by kernel_rfl) (by kernel_rfl) (by kernel_rfl) .i64 (by kernel_rfl) hc
  go_enter Try.func50, Try.ntmps50
  go_wp2
  go_ret
  exact ⟨rfl, rfl⟩
theorem iadd_one (w : World) (b o : Nat) (x : Int) (hc : w.cell? ⟨b, o, none⟩ = some (.int .i64 x)) (hz : w.frozen? ⟨b, o, none⟩ = false) (h0 : 0 ≤ x) (h1 : x ≤ 1000000) : Calls Try.prog 51 #[.pointer (some ⟨b, o, none⟩), .int .i64 1] w fun e w' => e = .returned (.int .i64 (x + 1)) ∧ w' = w.setCell ⟨b, o, none⟩ (.int .i64 (x + 1)) := by
  have hw : IntKind.i64.wrap (x + 1) = x + 1 := IntWalk.i64_in _ (by omega)
  have hs := run_call_add (P := Try.prog) (y := 1) (s := x + 1) Try.func59 (by kernel_rfl) (by kernel_rfl) (by kernel_rfl) .i64 (by kernel_rfl) hc hz (by simp [go_sem, hw])
  go_enter Try.func51, Try.ntmps51
  go_wp2
  go_ret
  exact ⟨rfl, rfl⟩
theorem iswap_any (w : World) (b o : Nat) (x : Int) (hc : w.cell? ⟨b, o, none⟩ = some (.int .i64 x)) (hz : w.frozen? ⟨b, o, none⟩ = false) : Calls Try.prog 57 #[.pointer (some ⟨b, o, none⟩), .int .i64 0] w fun e w' => e = .returned (.int .i64 x) ∧ w' = w.setCell ⟨b, o, none⟩ (.int .i64 0) := by
  have hs := run_call_swap (P := Try.prog) (y := 0) Try.func61 (by kernel_rfl) (by kernel_rfl) (by kernel_rfl) .i64 (by kernel_rfl) hc hz
  go_enter Try.func57, Try.ntmps57
  go_wp2
  go_ret
  exact ⟨rfl, rfl⟩
end
section
open Go.RowKit Go.Lib
set_option linter.unusedSimpArgs false
set_option linter.unusedVariables false

/-- A body in the ring: its slice, whether it was out, how long ago. -/
abbrev BV := Option Addr × Nat × Nat × Bool × Int
def encB (v : BV) : List Value := [.slice v.1 v.2.1 v.2.2.1, .bool v.2.2.2.1, .int .i64 v.2.2.2.2]
structure SesV where
  ep : Int
  peer : Int
  turns : Int
  ring : List BV
  first : Nat
  count : Nat
  base : Int
  A : Option Addr
  n : Nat
  c : Nat
  came : Int
  owes : Bool
def cellsS (b : Nat) (s : SesV) : List Value := .pointer (some ⟨b, 0, none⟩) :: .int .i64 s.ep :: .int .i64 s.peer :: .int .i64 s.turns :: (s.ring.flatMap encB ++ [.int .i64 s.first, .int .i64 s.count, .int .i64 s.base, .slice s.A s.n s.c, .int .i64 s.came, .int .u32 (u32b s.owes)])
def SesH (w : World) (b : Nat) (s : SesV) : Prop := w.heap[b]? = some (.cells (cellsS b s).toArray 81 (0, 0)) ∧ s.ring.length = 8
theorem eight {α : Type} {l : List α} (h : l.length = 8) : ∃ a0 a1 a2 a3 a4 a5 a6 a7, l = [a0, a1, a2, a3, a4, a5, a6, a7] := by
  match l, h with
  | [a0, a1, a2, a3, a4, a5, a6, a7], _ => exact ⟨_, _, _, _, _, _, _, _, rfl⟩
theorem SesH.free {w : World} {b : Nat} {s : SesV} (h : SesH w b s) (j : Nat) : w.frozen? ⟨b, j, none⟩ = false := free_of h.1 j
theorem SesH.get {w : World} {b : Nat} {s : SesV} (h : SesH w b s) :
    w.cell? ⟨b, 0, none⟩ = some (.pointer (some ⟨b, 0, none⟩)) ∧ w.cell? ⟨b, 1, none⟩ = some (.int .i64 s.ep) ∧ w.cell? ⟨b, 2, none⟩ = some (.int .i64 s.peer) ∧ w.cell? ⟨b, 3, none⟩ = some (.int .i64 s.turns) ∧
    w.cell? ⟨b, 28, none⟩ = some (.int .i64 s.first) ∧ w.cell? ⟨b, 29, none⟩ = some (.int .i64 s.count) ∧ w.cell? ⟨b, 30, none⟩ = some (.int .i64 s.base) ∧ w.cell? ⟨b, 31, none⟩ = some (.slice s.A s.n s.c) ∧
    w.cell? ⟨b, 32, none⟩ = some (.int .i64 s.came) ∧ w.cell? ⟨b, 33, none⟩ = some (.int .u32 (u32b s.owes)) := by
  obtain ⟨ep, peer, turns, ring, first, count, base, A, n, c, came, owes⟩ := s
  obtain ⟨h, hl⟩ := h
  obtain ⟨a0, a1, a2, a3, a4, a5, a6, a7, rfl⟩ := eight hl
  exact ⟨(cell_of' h 0).trans rfl, (cell_of' h 1).trans rfl, (cell_of' h 2).trans rfl, (cell_of' h 3).trans rfl, (cell_of' h 28).trans rfl, (cell_of' h 29).trans rfl, (cell_of' h 30).trans rfl, (cell_of' h 31).trans rfl, (cell_of' h 32).trans rfl, (cell_of' h 33).trans rfl⟩
theorem SesH.body {w : World} {b : Nat} {s : SesV} (h : SesH w b s) {k : Nat} {v : BV} (hv : s.ring[k]? = some v) :
    w.cell? ⟨b, 4 + k * 3, none⟩ = some (.slice v.1 v.2.1 v.2.2.1) ∧ w.cell? ⟨b, 4 + k * 3 + 1, none⟩ = some (.bool v.2.2.2.1) ∧ w.cell? ⟨b, 4 + k * 3 + 2, none⟩ = some (.int .i64 v.2.2.2.2) := by
  obtain ⟨ep, peer, turns, ring, first, count, base, A, n, c, came, owes⟩ := s
  obtain ⟨h, hl⟩ := h
  obtain ⟨a0, a1, a2, a3, a4, a5, a6, a7, rfl⟩ := eight hl
  have hk : k < 8 := (List.getElem?_eq_some_iff.1 hv).1
  rcases (show k = 0 ∨ k = 1 ∨ k = 2 ∨ k = 3 ∨ k = 4 ∨ k = 5 ∨ k = 6 ∨ k = 7 by omega) with rfl | rfl | rfl | rfl | rfl | rfl | rfl | rfl <;>
  · cases hv
    exact ⟨(cell_of' h _).trans rfl, (cell_of' h _).trans rfl, (cell_of' h _).trans rfl⟩
theorem SesH.put {w : World} {b : Nat} {s : SesV} (h : SesH w b s) (j : Nat) (v : Value) (s' : SesV) (hl : s'.ring.length = 8) (he : (cellsS b s).set j v = cellsS b s') : SesH (w.setCell ⟨b, j, none⟩ v) b s' := by
  refine ⟨?_, hl⟩
  rw [heap_setCell_same _ b j _ _ v h.1, List.setIfInBounds_toArray, he]
theorem SesH.peer {w : World} {b : Nat} {s : SesV} (h : SesH w b s) (x : Int) : SesH (w.setCell ⟨b, 2, none⟩ (.int .i64 x)) b { s with peer := x } := h.put 2 _ _ h.2 rfl
theorem SesH.turns {w : World} {b : Nat} {s : SesV} (h : SesH w b s) (x : Int) : SesH (w.setCell ⟨b, 3, none⟩ (.int .i64 x)) b { s with turns := x } := h.put 3 _ _ h.2 rfl
section
variable {w : World} {b : Nat} {s : SesV}
theorem set_tail (h : s.ring.length = 8) (j : Nat) (v : Value) (s' : SesV) (hr : s'.ring = s.ring) (he : ∀ a0 a1 a2 a3 a4 a5 a6 a7 : BV, (cellsS b { s with ring := [a0, a1, a2, a3, a4, a5, a6, a7] }).set j v = cellsS b { s' with ring := [a0, a1, a2, a3, a4, a5, a6, a7] }) : (cellsS b s).set j v = cellsS b s' := by
  obtain ⟨ep, peer, turns, ring, first, count, base, A, n, c, came, owes⟩ := s
  obtain ⟨ep', peer', turns', ring', first', count', base', A', n', c', came', owes'⟩ := s'
  obtain ⟨a0, a1, a2, a3, a4, a5, a6, a7, e⟩ := eight h
  dsimp only at hr e
  subst hr
  subst e
  exact he a0 a1 a2 a3 a4 a5 a6 a7
theorem SesH.first (h : SesH w b s) (x : Nat) : SesH (w.setCell ⟨b, 28, none⟩ (.int .i64 x)) b { s with first := x } := h.put 28 _ _ h.2 (set_tail h.2 _ _ _ rfl (fun _ _ _ _ _ _ _ _ => rfl))
theorem SesH.count (h : SesH w b s) (x : Nat) : SesH (w.setCell ⟨b, 29, none⟩ (.int .i64 x)) b { s with count := x } := h.put 29 _ _ h.2 (set_tail h.2 _ _ _ rfl (fun _ _ _ _ _ _ _ _ => rfl))
theorem SesH.base (h : SesH w b s) (x : Int) : SesH (w.setCell ⟨b, 30, none⟩ (.int .i64 x)) b { s with base := x } := h.put 30 _ _ h.2 (set_tail h.2 _ _ _ rfl (fun _ _ _ _ _ _ _ _ => rfl))
theorem SesH.taken (h : SesH w b s) (A : Option Addr) (n c : Nat) : SesH (w.setCell ⟨b, 31, none⟩ (.slice A n c)) b { s with A := A, n := n, c := c } := h.put 31 _ _ h.2 (set_tail h.2 _ _ _ rfl (fun _ _ _ _ _ _ _ _ => rfl))
theorem SesH.came (h : SesH w b s) (x : Int) : SesH (w.setCell ⟨b, 32, none⟩ (.int .i64 x)) b { s with came := x } := h.put 32 _ _ h.2 (set_tail h.2 _ _ _ rfl (fun _ _ _ _ _ _ _ _ => rfl))
theorem SesH.owes (h : SesH w b s) (x : Bool) : SesH (w.setCell ⟨b, 33, none⟩ (.int .u32 (u32b x))) b { s with owes := x } := h.put 33 _ _ h.2 (set_tail h.2 _ _ _ rfl (fun _ _ _ _ _ _ _ _ => rfl))
theorem set_ring (h : s.ring.length = 8) {k : Nat} {v : BV} (hv : s.ring[k]? = some v) (i : Nat) (x : Value) (v' : BV) (hi : i < 3) (he : (encB v).set i x = encB v') : (cellsS b s).set (4 + k * 3 + i) x = cellsS b { s with ring := s.ring.set k v' } := by
  obtain ⟨ep, peer, turns, ring, first, count, base, A, n, c, came, owes⟩ := s
  obtain ⟨a0, a1, a2, a3, a4, a5, a6, a7, rfl⟩ := eight h
  have hk : k < 8 := (List.getElem?_eq_some_iff.1 hv).1
  rcases (show i = 0 ∨ i = 1 ∨ i = 2 by omega) with rfl | rfl | rfl <;>
  · have e0 := congrArg (·[0]?) he
    have e1 := congrArg (·[1]?) he
    have e2 := congrArg (·[2]?) he
    simp only [encB, List.set_cons_zero, List.set_cons_succ, List.getElem?_cons_zero, List.getElem?_cons_succ, Option.some.injEq] at e0 e1 e2
    rcases (show k = 0 ∨ k = 1 ∨ k = 2 ∨ k = 3 ∨ k = 4 ∨ k = 5 ∨ k = 6 ∨ k = 7 by omega) with rfl | rfl | rfl | rfl | rfl | rfl | rfl | rfl <;>
    · cases hv
      simp only [cellsS, List.set_cons_zero, List.set_cons_succ, List.flatMap_cons, List.flatMap_nil, encB, List.cons_append, List.nil_append, List.append_nil, ← e0, ← e1, ← e2]
      try rfl
theorem SesH.bodyb (h : SesH w b s) {k : Nat} {v : BV} (hv : s.ring[k]? = some v) (A : Option Addr) (n c : Nat) : SesH (w.setCell ⟨b, 4 + k * 3, none⟩ (.slice A n c)) b { s with ring := s.ring.set k (A, n, c, v.2.2.2) } := h.put (4 + k * 3 + 0) _ _ (by simpa using h.2) (set_ring h.2 hv 0 _ _ (by omega) rfl)
theorem SesH.bodyo (h : SesH w b s) {k : Nat} {v : BV} (hv : s.ring[k]? = some v) (x : Bool) : SesH (w.setCell ⟨b, 4 + k * 3 + 1, none⟩ (.bool x)) b { s with ring := s.ring.set k (v.1, v.2.1, v.2.2.1, x, v.2.2.2.2) } := h.put (4 + k * 3 + 1) _ _ (by simpa using h.2) (set_ring h.2 hv 1 _ _ (by omega) rfl)
theorem SesH.bodya (h : SesH w b s) {k : Nat} {v : BV} (hv : s.ring[k]? = some v) (x : Int) : SesH (w.setCell ⟨b, 4 + k * 3 + 2, none⟩ (.int .i64 x)) b { s with ring := s.ring.set k (v.1, v.2.1, v.2.2.1, v.2.2.2.1, x) } := h.put (4 + k * 3 + 2) _ _ (by simpa using h.2) (set_ring h.2 hv 2 _ _ (by omega) rfl)
end
/-- A session whose ring holds this queue. -/
structure SQ where
  ep : Int
  peer : Int
  turns : Int
  q : List BV
  base : Int
  A : Option Addr
  n : Nat
  c : Nat
  came : Int
  owes : Bool
def SQ.v (s : SQ) (ring : List BV) (first : Nat) : SesV := ⟨s.ep, s.peer, s.turns, ring, first, s.q.length, s.base, s.A, s.n, s.c, s.came, s.owes⟩
def RingP (ring : List BV) (first : Nat) (q : List BV) : Prop := first < 8 ∧ q.length ≤ 8 ∧ ∀ i v, q[i]? = some v → ring[(first + i) % 8]? = some v
def QH (w : World) (b : Nat) (s : SQ) : Prop := ∃ ring first, SesH w b (s.v ring first) ∧ RingP ring first s.q
theorem SesH.chg {S : List Nat} {w w' : World} {b : Nat} {s : SesV} (h : SesH w b s) (hc : Chg S w w') (hn : b ∉ S) : SesH w' b s := ⟨hc.at_ h.1 hn, h.2⟩
theorem QH.chg {S : List Nat} {w w' : World} {b : Nat} {s : SQ} (h : QH w b s) (hc : Chg S w w') (hn : b ∉ S) : QH w' b s := by
  obtain ⟨r, f, h1, h2⟩ := h
  exact ⟨r, f, h1.chg hc hn, h2⟩
theorem QH.lt {w : World} {b : Nat} {s : SQ} (h : QH w b s) : b < w.heap.size := by
  obtain ⟨r, f, h1, h2⟩ := h
  exact lt_of_heap h1.1
theorem QH.get {w : World} {b : Nat} {s : SQ} (h : QH w b s) :
    w.cell? ⟨b, 0, none⟩ = some (.pointer (some ⟨b, 0, none⟩)) ∧ w.cell? ⟨b, 1, none⟩ = some (.int .i64 s.ep) ∧ w.cell? ⟨b, 2, none⟩ = some (.int .i64 s.peer) ∧ w.cell? ⟨b, 3, none⟩ = some (.int .i64 s.turns) ∧
    w.cell? ⟨b, 29, none⟩ = some (.int .i64 s.q.length) ∧ w.cell? ⟨b, 30, none⟩ = some (.int .i64 s.base) ∧ w.cell? ⟨b, 31, none⟩ = some (.slice s.A s.n s.c) ∧
    w.cell? ⟨b, 32, none⟩ = some (.int .i64 s.came) ∧ w.cell? ⟨b, 33, none⟩ = some (.int .u32 (u32b s.owes)) := by
  obtain ⟨r, f, h1, h2⟩ := h
  have := h1.get
  exact ⟨this.1, this.2.1, this.2.2.1, this.2.2.2.1, this.2.2.2.2.2.1, this.2.2.2.2.2.2.1, this.2.2.2.2.2.2.2.1, this.2.2.2.2.2.2.2.2.1, this.2.2.2.2.2.2.2.2.2⟩
theorem QH.free {w : World} {b : Nat} {s : SQ} (h : QH w b s) (j : Nat) : w.frozen? ⟨b, j, none⟩ = false := by
  obtain ⟨r, f, h1, h2⟩ := h
  exact h1.free j
theorem SesH.body3 {w : World} {b : Nat} {s : SesV} (h : SesH w b s) {k : Nat} (hk : k < 8) (A : Option Addr) (n c : Nat) (o : Bool) (g : Int) :
    SesH (((w.setCell ⟨b, 4 + k * 3, none⟩ (.slice A n c)).setCell ⟨b, 4 + k * 3 + 1, none⟩ (.bool o)).setCell ⟨b, 4 + k * 3 + 2, none⟩ (.int .i64 g)) b { s with ring := s.ring.set k (A, n, c, o, g) } := by
  have hl := h.2
  obtain ⟨v, hv⟩ : ∃ v, s.ring[k]? = some v := ⟨_, List.getElem?_eq_getElem (by omega)⟩
  have h1 := h.bodyb hv A n c
  have h2 := h1.bodyo (k := k) (v := (A, n, c, v.2.2.2)) (List.getElem?_set_self (by omega)) o
  have h3 := h2.bodya (k := k) (v := (A, n, c, o, v.2.2.2.2)) (List.getElem?_set_self (by simp; omega)) g
  simpa only [List.set_set] using h3
theorem SesH.body2 {w : World} {b : Nat} {s : SesV} (h : SesH w b s) {k : Nat} {v : BV} (hv : s.ring[k]? = some v) (o : Bool) (g : Int) :
    SesH ((w.setCell ⟨b, 4 + k * 3 + 1, none⟩ (.bool o)).setCell ⟨b, 4 + k * 3 + 2, none⟩ (.int .i64 g)) b { s with ring := s.ring.set k (v.1, v.2.1, v.2.2.1, o, g) } := by
  have hk := (List.getElem?_eq_some_iff.1 hv).1
  have h2 := h.bodyo hv o
  have h3 := h2.bodya (k := k) (v := (v.1, v.2.1, v.2.2.1, o, v.2.2.2.2)) (List.getElem?_set_self hk) g
  simpa only [List.set_set] using h3
theorem RingP.at_ {ring : List BV} {first : Nat} {q : List BV} (h : RingP ring first q) {i : Nat} {v : BV} (hi : q[i]? = some v) : ring[(first + i) % 8]? = some v := h.2.2 i v hi
theorem RingP.push {ring : List BV} {first : Nat} {q : List BV} (h : RingP ring first q) (hl : ring.length = 8) (hq : q.length < 8) (v : BV) : RingP (ring.set ((first + q.length) % 8) v) first (q ++ [v]) := by
  refine ⟨h.1, by simp; omega, fun i x hx => ?_⟩
  have hi : i < q.length + 1 := by simpa using (List.getElem?_eq_some_iff.1 hx).1
  by_cases e : i = q.length
  · subst e
    simp at hx
    subst hx
    exact List.getElem?_set_self (by omega)
  · rw [List.getElem?_append_left (by omega)] at hx
    rw [List.getElem?_set_ne (by omega)]
    exact h.2.2 i x hx
theorem RingP.set {ring : List BV} {first : Nat} {q : List BV} (h : RingP ring first q) (hl : ring.length = 8) {j : Nat} (hj : j < q.length) (v : BV) : RingP (ring.set ((first + j) % 8) v) first (q.set j v) := by
  have hq := h.2.1
  refine ⟨h.1, by simpa using hq, fun i x hx => ?_⟩
  have hi : i < q.length := by simpa using (List.getElem?_eq_some_iff.1 hx).1
  by_cases e : i = j
  · subst e
    rw [List.getElem?_set_self hj] at hx
    cases hx
    exact List.getElem?_set_self (by omega)
  · rw [List.getElem?_set_ne (fun h => e h.symm)] at hx
    rw [List.getElem?_set_ne (by omega)]
    exact h.2.2 i x hx
theorem RingP.drop {ring ring' : List BV} {first : Nat} {q : List BV} (h : RingP ring first q) (n : Nat) (hn : n ≤ q.length) (hr : ∀ i v, n ≤ i → q[i]? = some v → ring'[(first + i) % 8]? = some v) : RingP ring' ((first + n) % 8) (q.drop n) := by
  have hq := h.2.1
  refine ⟨Nat.mod_lt _ (by decide), by simp; omega, fun i x hx => ?_⟩
  rw [List.getElem?_drop] at hx
  have := hr (n + i) x (by omega) hx
  rwa [show ((first + n) % 8 + i) % 8 = (first + (n + i)) % 8 by omega]
/-- A list of which those ahead of i have turned. -/
def turnedTo {α : Type} (f : α → α) (q : List α) (i : Nat) : List α := (q.take i).map f ++ q.drop i
theorem turnedTo_zero {α : Type} (f : α → α) (q : List α) : turnedTo f q 0 = q := by simp [turnedTo]
theorem turnedTo_all {α : Type} (f : α → α) (q : List α) : turnedTo f q q.length = q.map f := by simp [turnedTo]
theorem turnedTo_len {α : Type} (f : α → α) (q : List α) (i : Nat) : (turnedTo f q i).length = q.length := by simp [turnedTo]; omega
theorem turnedTo_at {α : Type} (f : α → α) (q : List α) (i : Nat) (x : α) (h : q[i]? = some x) : (turnedTo f q i)[i]? = some x := by
  have hi := (List.getElem?_eq_some_iff.1 h).1
  unfold turnedTo
  rw [List.getElem?_append_right (by simp; omega)]
  simp
  rw [show i + (i - min i q.length) = i by omega, h]
theorem turnedTo_set {α : Type} (f : α → α) (q : List α) (i : Nat) (x : α) (h : q[i]? = some x) : (turnedTo f q i).set i (f x) = turnedTo f q (i + 1) := by
  have hi := (List.getElem?_eq_some_iff.1 h).1
  apply List.ext_getElem?
  intro j
  by_cases e : j = i
  · subst e
    rw [List.getElem?_set_self (by rw [turnedTo_len]; exact hi)]
    unfold turnedTo
    rw [List.getElem?_append_left (by simp; omega)]
    simp [h]
  · rw [List.getElem?_set_ne (fun h => e h.symm)]
    unfold turnedTo
    by_cases e2 : j < i
    · rw [List.getElem?_append_left (by simp; omega), List.getElem?_append_left (by simp; omega)]
      simp [List.getElem?_take, e2, show j < i + 1 by omega]
    · rw [List.getElem?_append_right (by simp; omega), List.getElem?_append_right (by simp; omega)]
      simp
      congr 1
      omega
theorem turnedTo_same {α : Type} (f : α → α) (q : List α) (i : Nat) (x : α) (h : q[i]? = some x) (e : f x = x) : turnedTo f q (i + 1) = turnedTo f q i := by
  rw [← turnedTo_set f q i x h, e]
  apply List.ext_getElem?
  intro j
  have ha := turnedTo_at f q i x h
  by_cases ej : i = j
  · subst ej
    rw [List.getElem?_set_self (List.getElem?_eq_some_iff.1 ha).1, ha]
  · rw [List.getElem?_set_ne ej]
end
section
open Go.RowKit Go.Lib
set_option linter.unusedSimpArgs false
set_option linter.unusedVariables false

theorem at_any (w : World) (b first i : Nat) (h28 : w.cell? ⟨b, 28, none⟩ = some (.int .i64 first)) (h1 : first < 8) (h2 : i ≤ 8) (k : Nat) (hk : k = (first + i) % 8) :
    Calls Try.prog 42 #[.pointer (some ⟨b, 4, none⟩), .int .i64 i] w fun e w' => e = .returned (.pointer (some ⟨b, 4 + k * 3, none⟩)) ∧ Chg [] w w' := by
  obtain ⟨m, hm⟩ : ∃ m : Nat, m = first + i := ⟨_, rfl⟩
  have e1 : IntKind.i64.wrap ((first : Int) + (i : Int)) = (m : Int) := by
    rw [hm, show ((first + i : Nat) : Int) = (first : Int) + (i : Int) by omega]
    exact IntWalk.i64_in _ (by omega)
  have e2 : Int.tmod (m : Int) 8 = (k : Int) := by
    rw [hk, ← hm]; exact Int.tmod_eq_emod_of_nonneg (by omega)
  have e3 : IntKind.i64.wrap (k : Int) = (k : Int) := IntWalk.i64_in _ (by omega)
  have e4 : (k : Int) < 8 := by omega
  have e5 : (0 : Int) ≤ (k : Int) := by omega
  have e6 : k < 8 := by omega
  clear hm hk h1 h2
  go_enter Try.func42, Try.ntmps42
  go_upto_region 1 with fail
  go_quiet (fail)
  have hq := (Chg.refl [] w).drewN nq
  generalize w.drewN nq = w2 at *
  go_wp2
  go_ret
  exact ⟨rfl, hq⟩
theorem push_full (w : World) (b : Nat) (s : SQ) (h : QH w b s) (A : Option Addr) (n c : Nat) (hq : s.q.length = 8) :
    Calls Try.prog 53 #[.pointer (some ⟨b, 4, none⟩), .slice A n c] w fun e w' => e = .returned (.bool false) ∧ w' = w := by
  obtain ⟨_, _, _, _, h29, _⟩ := h.get
  rw [hq] at h29
  go_enter Try.func53, Try.ntmps53
  go_wp2
  go_ret
  exact ⟨rfl, rfl⟩
theorem push_ok (w : World) (b : Nat) (s : SQ) (h : QH w b s) (A : Option Addr) (n c : Nat) (hq : s.q.length < 8) :
    Calls Try.prog 53 #[.pointer (some ⟨b, 4, none⟩), .slice A n c] w fun e w' => e = .returned (.bool true) ∧ QH w' b { s with q := s.q ++ [(A, n, c, false, 0)] } ∧ Chg [b] w w' := by
  obtain ⟨ring, first, h1, h2⟩ := h
  obtain ⟨_, _, _, _, h28, h29, _⟩ := h1.get
  obtain ⟨k, hk⟩ : ∃ k, k = (first + s.q.length) % 8 := ⟨_, rfl⟩
  have AT := Lib.hid (at_any w b first s.q.length h28 h2.1 (by omega) k hk)
  have H1 := Lib.hid h1
  have H2 := Lib.hid h2
  have HK := Lib.hid hk
  have LQ := Lib.hid hq
  have e1 : ¬ (s.q.length : Int) = 8 := by omega
  have e2 : IntKind.i64.wrap ((s.q.length : Int) + 1) = (s.q.length : Int) + 1 := IntWalk.i64_in _ (by omega)
  change w.cell? ⟨b, 29, none⟩ = some (.int .i64 (s.q.length : Int)) at h29
  clear h1 h2 hk hq h28
  go_enter Try.func53, Try.ntmps53
  go_wp2_with fail
  refine AT.out.mono ?_
  rintro e w1 ⟨rfl, hc⟩
  have h1 := H1.out.chg hc (by simp)
  have HB := Lib.hid h1
  have C1 := Lib.hid hc
  obtain ⟨_, _, _, _, _, f29, _⟩ := h1.get
  change w1.cell? ⟨b, 29, none⟩ = some (.int .i64 (s.q.length : Int)) at f29
  have hl := h1.2
  have hk8 : k < 8 := by rw [HK.out]; exact Nat.mod_lt _ (by decide)
  obtain ⟨v, hv⟩ : ∃ v, (SQ.v s ring first).ring[k]? = some v := ⟨_, List.getElem?_eq_getElem (by omega)⟩
  obtain ⟨g0, g1, g2⟩ := h1.body hv
  have fr := fun j => h1.free j
  obtain ⟨w2, hw2⟩ : ∃ w2, w2 = (((w1.setCell ⟨b, 4 + k * 3, none⟩ (.slice A n c)).setCell ⟨b, 4 + k * 3 + 1, none⟩ (.bool false)).setCell ⟨b, 4 + k * 3 + 2, none⟩ (.int .i64 0)) := ⟨_, rfl⟩
  have hb2 := h1.body3 (k := k) hk8 A n c false 0
  rw [← hw2] at hb2
  have C2 : Hid (Chg [b] w w2) := Lib.hid (by rw [hw2]; exact (((C1.out.mono (by simp)).setCell (.inl (by simp)) _).setCell (.inl (by simp)) _).setCell (.inl (by simp)) _)
  have B2 := Lib.hid hb2
  have W2 := Lib.hid hw2
  clear h1 hc hl hk8 hv h29 hb2 hw2 HB C1
  go_upto_region 4 with fail
  rw [← W2.out]
  clear W2 g0 g1 g2 fr f29
  obtain ⟨_, _, _, _, _, f29, _⟩ := B2.out.get
  have fr := B2.out.free 29
  change w2.cell? ⟨b, 29, none⟩ = some (.int .i64 (s.q.length : Int)) at f29
  go_wp2
  go_ret
  refine ⟨rfl, ⟨ring.set k (A, n, c, false, 0), first, ?_, ?_⟩, ?_⟩
  · have hh := B2.out.count (s.q.length + 1)
    simpa [SQ.v] using hh
  · rw [HK.out]
    exact H2.out.push H1.out.2 LQ.out _
  · exact C2.out.setCell (.inl (by simp)) _
end
section
open Go.RowKit Go.Lib
set_option linter.unusedSimpArgs false
set_option linter.unusedVariables false


theorem drop_no (w : World) (b : Nat) (s : SQ) (h : QH w b s) (to : Int) (hb : 0 ≤ s.base) (hb2 : s.base ≤ 4611686018427387904) (hn : ¬ (s.base ≤ to ∧ to < s.base + s.q.length)) :
    Calls Try.prog 49 #[.pointer (some ⟨b, 4, none⟩), .int .i64 to] w fun e w' => e = .returned (.tuple #[]) ∧ Chg [] w w' := by
  obtain ⟨_, _, _, _, h29, h30, _⟩ := h.get
  have hl : s.q.length ≤ 8 := by obtain ⟨_, _, _, h2⟩ := h; exact h2.2.1
  have e1 : IntKind.i64.wrap (s.base + (s.q.length : Int)) = s.base + (s.q.length : Int) := IntWalk.i64_in _ (by omega)
  have e2 : (s.base + (s.q.length : Int) ≤ to) = (s.base + (s.q.length : Int) ≤ to) := rfl
  by_cases hlt : to < s.base
  · have d1 : decide (to < s.base) = true := decide_eq_true hlt
    go_enter Try.func49, Try.ntmps49
    go_upto_region 0 with fail
    go_quiet (fail)
    have hq := (Chg.refl [] w).drewN nq
    generalize w.drewN nq = w2 at *
    go_wp2
    refine bodyPost_ret (results_none rfl _ _ _) rfl ?_
    exact ⟨rfl, hq⟩
  · have d1 : decide (to < s.base) = false := decide_eq_false hlt
    have d2 : s.base + (s.q.length : Int) ≤ to := by omega
    have d3 : decide (s.base + (s.q.length : Int) ≤ to) = true := decide_eq_true d2
    go_enter Try.func49, Try.ntmps49
    go_upto_region 0 with fail
    go_quiet (fail)
    have hq := (Chg.refl [] w).drewN nq
    generalize w.drewN nq = w2 at *
    go_wp2
    refine bodyPost_ret (results_none rfl _ _ _) rfl ?_
    exact ⟨rfl, hq⟩

set_option maxRecDepth 100000 in
set_option maxHeartbeats 4000000 in
theorem drop_ok (w : World) (b : Nat) (s : SQ) (h : QH w b s) (to : Int) (hb : 0 ≤ s.base) (hb2 : s.base ≤ 4611686018427387904) (hy : s.base ≤ to ∧ to < s.base + s.q.length) (m : Nat) (hm : (m : Int) = to - s.base + 1) :
    Calls Try.prog 49 #[.pointer (some ⟨b, 4, none⟩), .int .i64 to] w fun e w' => e = .returned (.tuple #[]) ∧ QH w' b { s with q := s.q.drop m, base := to + 1 } ∧ Chg [b] w w' := by
  obtain ⟨ring, first, h1, h2⟩ := h
  obtain ⟨_, _, _, _, h28, h29, h30, _⟩ := h1.get
  change w.cell? ⟨b, 29, none⟩ = some (.int .i64 (s.q.length : Int)) at h29
  change w.cell? ⟨b, 30, none⟩ = some (.int .i64 s.base) at h30
  have hl := h2.2.1
  have hf := h2.1
  have e1 : IntKind.i64.wrap (s.base + (s.q.length : Int)) = s.base + (s.q.length : Int) := IntWalk.i64_in _ (by omega)
  have d1 : decide (to < s.base) = false := decide_eq_false (by omega)
  have d0 : ¬ to < s.base := by omega
  have d2 : ¬ s.base + (s.q.length : Int) ≤ to := by omega
  have d3 : decide (s.base + (s.q.length : Int) ≤ to) = false := decide_eq_false d2
  have e4 : IntKind.i64.wrap (to - s.base) = to - s.base := IntWalk.i64_in _ (by omega)
  have e5 : IntKind.i64.wrap (to - s.base + 1) = (m : Int) := by rw [IntWalk.i64_in _ (by omega)]; omega
  have H1 := Lib.hid h1
  have H2 := Lib.hid h2
  have HF := Lib.hid hf
  have HL := Lib.hid (show m ≤ s.q.length ∧ s.q.length ≤ 8 by omega)
  have HM := Lib.hid hm
  have HB := Lib.hid (And.intro hb hb2)
  clear h1 h2 hl h28 hf hm
  go_enter Try.func49, Try.ntmps49
  go_upto_region 0 with fail
  go_quiet (fail)
  have hq := (Chg.refl [] w).drewN nq
  generalize w.drewN nq = w2 at *
  have C2 := Lib.hid hq
  have HS2 : Hid (∃ ring', SesH w2 b (s.v ring' first) ∧ ∀ i v, 0 ≤ i → s.q[i]? = some v → ring'[(first + i) % 8]? = some v) := Lib.hid ⟨ring, H1.out.chg hq (by simp), fun i v _ hv => H2.out.2.2 i v hv⟩
  have f30 := hq.cell h30 (by simp)
  have EM := Lib.hid (show to - s.base + 1 = (m : Int) by have := HM.out; omega)
  clear h29 h30 hq d1 d2 d3 e1 d0 e5
  have e5 : IntKind.i64.wrap (to - s.base + 1) = to - s.base + 1 := IntWalk.i64_in _ (by have := EM.out; have := HL.out; omega)
  go_wp2
  rw [EM.out]
  go_loopw [33] (fun v wr => ∃ j : Nat, j ≤ m ∧ v = .int .i64 (j : Int) ∧ Hid (∃ ring', SesH wr b (s.v ring' first) ∧ ∀ i v, j ≤ i → s.q[i]? = some v → ring'[(first + i) % 8]? = some v) ∧ Hid (Chg [b] w wr)) (fun v _ => m - (RowKit.intOf v).toNat)
  case atStart => exact ⟨0, Nat.zero_le _, rfl, HS2.out, C2.out.mono (by simp)⟩
  case round =>
    obtain ⟨j, hj, rfl, HS, HI⟩ := hrel
    have i0 : (0 : Int) ≤ (j : Int) := by omega
    have i1 : IntKind.i64.wrap ((j : Int) + 1) = (j : Int) + 1 := IntWalk.i64_in _ (by have := HL.out; omega)
    by_cases hlt : j < m
    · have i2 : (j : Int) < (m : Int) := by omega
      obtain ⟨r1, hr1, hr2⟩ := HS.out
      obtain ⟨_, _, _, _, z28, _⟩ := hr1.get
      obtain ⟨k, hk⟩ : ∃ k, k = (first + j) % 8 := ⟨_, rfl⟩
      have AT := Lib.hid (at_any wr b first j z28 HF.out (by have := HL.out; omega) k hk)
      have R1 := Lib.hid hr1
      have R2 := Lib.hid hr2
      have KK := Lib.hid hk
      clear HS hr1 hr2 hk z28 f30
      go_wp2_with fail
      refine AT.out.mono ?_
      rintro e w3 ⟨rfl, hc⟩
      have h1 := R1.out.chg hc (by simp)
      have hk8 : k < 8 := by rw [KK.out]; exact Nat.mod_lt _ (by decide)
      have hl := h1.2
      obtain ⟨v, hv⟩ : ∃ v, (SQ.v s r1 first).ring[k]? = some v := ⟨_, List.getElem?_eq_getElem (by omega)⟩
      obtain ⟨g0, g1, g2⟩ := h1.body hv
      have fr := fun j => h1.free j
      have P1 := Lib.hid (h1.body3 (k := k) hk8 none 0 0 false 0)
      have C3 := Lib.hid (HI.out.trans (hc.mono (S' := [b]) (by simp)))
      clear h1 hk8 hv hl hc AT
      go_wp2
      go_round
      case measure => simp [RowKit.intOf]; omega
      refine ⟨j + 1, by omega, by go_num, ⟨r1.set k (none, 0, 0, false, 0), P1.out, fun i x hi hx => ?_⟩, ?_⟩
      · have hx8 := (List.getElem?_eq_some_iff.1 hx).1
        have := HL.out
        rw [List.getElem?_set_ne (by rw [KK.out]; have := HF.out; omega)]
        exact R2.out i x (by omega) hx
      · exact (((C3.out.setCell (.inl (List.mem_singleton.2 rfl)) _).setCell (.inl (List.mem_singleton.2 rfl)) _).setCell (.inl (List.mem_singleton.2 rfl)) _)
    · obtain rfl : j = m := by omega
      have i2 : ¬ (j : Int) < (j : Int) := by omega
      obtain ⟨r1, hr1, hr2⟩ := HS.out
      obtain ⟨_, _, _, _, z28, z29, _⟩ := hr1.get
      change wr.cell? ⟨b, 28, none⟩ = some (.int .i64 (first : Int)) at z28
      change wr.cell? ⟨b, 29, none⟩ = some (.int .i64 (s.q.length : Int)) at z29
      have fr := fun j => hr1.free j
      have R1 := Lib.hid hr1
      have R2 := Lib.hid hr2
      have e6 : IntKind.i64.wrap ((first : Int) + (j : Int)) = ((first + j : Nat) : Int) := by rw [IntWalk.i64_in _ (by have := HL.out; have := HF.out; omega)]; omega
      have e7 : Int.tmod ((first + j : Nat) : Int) 8 = (((first + j) % 8 : Nat) : Int) := by rw [Int.tmod_eq_emod_of_nonneg (by omega)]; omega
      generalize hfj : first + j = fj at e6 e7
      have e8 : IntKind.i64.wrap (((fj % 8 : Nat)) : Int) = ((fj % 8 : Nat) : Int) := IntWalk.i64_in _ (by omega)
      generalize hf8 : fj % 8 = f8 at e7 e8
      have e9 : IntKind.i64.wrap ((s.q.length : Int) - (j : Int)) = ((s.q.length - j : Nat) : Int) := by rw [IntWalk.i64_in _ (by have := HL.out; omega)]; have := HL.out; omega
      generalize hlj : s.q.length - j = lj at e9
      have e10 : IntKind.i64.wrap (to + 1) = to + 1 := IntWalk.i64_in _ (by have := HB.out; have := HL.out; omega)
      have HFJ := Lib.hid (show f8 = (first + j) % 8 by omega)
      have HLJ := Lib.hid (show lj = s.q.length - j by omega)
      clear HS hr1 hr2 hfj hf8 hlj f30
      go_upto_region 7 with fail
      have W := Lib.hid (Chg.refl [] wr).drew
      refine wp_region_held_drew (S := fun _ => True) (by kernel_rfl) trivial (fun hHeld => ?_)
      have q30 : wr.drew.cell? ⟨b, 30, none⟩ = some (.int .i64 s.base) := R1.out.get.2.2.2.2.2.2.1
      have q28 : wr.drew.cell? ⟨b, 28, none⟩ = some (.int .i64 (first : Int)) := z28
      have q29 : wr.drew.cell? ⟨b, 29, none⟩ = some (.int .i64 (s.q.length : Int)) := z29
      have frq : ∀ j, wr.drew.frozen? ⟨b, j, none⟩ = false := fr
      have RQ := Lib.hid (R1.out.chg W.out (by simp))
      have CQ := Lib.hid (HI.out.trans (W.out.mono (S' := [b]) (by simp)))
      clear z28 z29 fr R1 HI W
      generalize wr.drew = wd at *
      refine sy 0 42 rfl rfl ?_
      try simp only [Act.put, sA, s0, s1]
      refine sy 1 43 rfl rfl ?_
      try simp only [Act.put, sA, s0, s1]
      refine sy 2 44 rfl rfl ?_
      try simp only [Act.put, sA, s0, s1]
      refine sy 3 45 rfl rfl ?_
      try simp only [Act.put, sA, s0, s1]
      refine sy 4 46 rfl rfl ?_
      try simp only [Act.put, sA, s0, s1]
      refine sy 5 47 rfl rfl ?_
      try simp only [Act.put, sA, s0, s1]
      refine sy 7 49 rfl rfl ?_
      try simp only [Act.put, sA, s0, s1]
      refine sy 10 52 rfl rfl ?_
      try simp only [Act.put, sA, s0, s1]
      refine sy 11 53 rfl rfl ?_
      try simp only [Act.put, sA, s0, s1]
      refine sy 12 54 rfl rfl ?_
      try simp only [Act.put, sA, s0, s1]
      refine sy 14 56 rfl rfl ?_
      try simp only [Act.put, sA, s0, s1]
      refine sy 16 58 rfl rfl ?_
      try simp only [Act.put, sA, s0, s1]
      refine sy 17 59 rfl rfl ?_
      try simp only [Act.put, sA, s0, s1]
      refine wpAnyH_ready (rs := [6, 13]) (by kernel_rfl) (by simp) ?_
      refine AllReadyH.cons rfl (fun K hK => ?_) (AllReadyH.cons rfl (fun K hK => ?_) AllReadyH.nil)
      · skip
        replace hK := Lib.hid hK
        go_simp
        refine hK.out _ _ trivial (fun hHeld => ?_)
        clear hK K
        try simp only [Act.put, sA, s0, s1]
        refine sy 8 50 rfl rfl ?_
        try simp only [Act.put, sA, s0, s1]
        refine sy 9 51 rfl rfl ?_
        try simp only [Act.put, sA, s0, s1]
        refine wpAnyH_ready (rs := [13]) (by kernel_rfl) (by simp) ?_
        refine AllReadyH.cons rfl (fun K hK => ?_) AllReadyH.nil
        replace hK := Lib.hid hK
        go_simp
        refine hK.out _ _ trivial (fun hHeld => ?_)
        clear hK K
        try simp only [Act.put, sA, s0, s1]
        refine sy 15 57 rfl rfl ?_
        try simp only [Act.put, sA, s0, s1]
        refine sy 18 60 rfl rfl ?_
        try simp only [Act.put, sA, s0, s1]
        refine sy 19 61 rfl rfl ?_
        try simp only [Act.put, sA, s0, s1]
        refine wpAnyH_ready (rs := [20]) (by kernel_rfl) (by simp) ?_
        refine AllReadyH.cons rfl (fun K hK => ?_) AllReadyH.nil
        replace hK := Lib.hid hK
        go_simp
        refine hK.out _ _ trivial (fun hHeld => ?_)
        clear hK K
        try simp only [Act.put, sA, s0, s1]
        refine sy 21 62 rfl rfl ?_
        try simp only [Act.put, sA, s0, s1]
        refine sy 22 63 rfl rfl ?_
        try simp only [Act.put, sA, s0, s1]
        refine wpAnyH_ready (rs := [23]) (by kernel_rfl) (by simp) ?_
        refine AllReadyH.cons rfl (fun K hK => ?_) AllReadyH.nil
        replace hK := Lib.hid hK
        go_simp
        refine hK.out _ _ trivial (fun hHeld => ?_)
        clear hK K
        try simp only [Act.put, sA, s0, s1]
        refine sy 24 64 rfl rfl ?_
        try simp only [Act.put, sA, s0, s1]
        refine sy 25 65 rfl rfl ?_
        try simp only [Act.put, sA, s0, s1]
        refine wpAnyH_ready (rs := [26]) (by kernel_rfl) (by simp) ?_
        refine AllReadyH.cons rfl (fun K hK => ?_) AllReadyH.nil
        replace hK := Lib.hid hK
        go_simp
        refine hK.out _ _ trivial (fun hHeld => ?_)
        clear hK K
        try simp only [Act.put, sA, s0, s1]
        refine wpAnyH_done (by kernel_rfl) ?_ _
        go_wp2
        go_end0
        refine ⟨rfl, ⟨r1, f8, ?_, ?_⟩, ?_⟩
        · have hh := ((RQ.out.first f8).count lj).base (to + 1)
          have hlen : (s.q.drop j).length = lj := by rw [List.length_drop, HLJ.out]
          simpa [SQ.v, hlen] using hh
        · rw [HFJ.out]
          exact H2.out.drop j HL.out.1 (fun i v hi hv => R2.out i v hi hv)
        · exact (((CQ.out.setCell (.inl (by simp)) _).setCell (.inl (by simp)) _).setCell (.inl (by simp)) _)
      · skip
        replace hK := Lib.hid hK
        go_simp
        refine hK.out _ _ trivial (fun hHeld => ?_)
        clear hK K
        try simp only [Act.put, sA, s0, s1]
        refine sy 15 57 rfl rfl ?_
        try simp only [Act.put, sA, s0, s1]
        refine wpAnyH_ready (rs := [6]) (by kernel_rfl) (by simp) ?_
        refine AllReadyH.cons rfl (fun K hK => ?_) AllReadyH.nil
        replace hK := Lib.hid hK
        go_simp
        refine hK.out _ _ trivial (fun hHeld => ?_)
        clear hK K
        try simp only [Act.put, sA, s0, s1]
        refine sy 8 50 rfl rfl ?_
        try simp only [Act.put, sA, s0, s1]
        refine sy 9 51 rfl rfl ?_
        try simp only [Act.put, sA, s0, s1]
        refine sy 18 60 rfl rfl ?_
        try simp only [Act.put, sA, s0, s1]
        refine sy 19 61 rfl rfl ?_
        try simp only [Act.put, sA, s0, s1]
        refine wpAnyH_ready (rs := [20]) (by kernel_rfl) (by simp) ?_
        refine AllReadyH.cons rfl (fun K hK => ?_) AllReadyH.nil
        replace hK := Lib.hid hK
        go_simp
        refine hK.out _ _ trivial (fun hHeld => ?_)
        clear hK K
        try simp only [Act.put, sA, s0, s1]
        refine sy 21 62 rfl rfl ?_
        try simp only [Act.put, sA, s0, s1]
        refine sy 22 63 rfl rfl ?_
        try simp only [Act.put, sA, s0, s1]
        refine wpAnyH_ready (rs := [23]) (by kernel_rfl) (by simp) ?_
        refine AllReadyH.cons rfl (fun K hK => ?_) AllReadyH.nil
        replace hK := Lib.hid hK
        go_simp
        refine hK.out _ _ trivial (fun hHeld => ?_)
        clear hK K
        try simp only [Act.put, sA, s0, s1]
        refine sy 24 64 rfl rfl ?_
        try simp only [Act.put, sA, s0, s1]
        refine sy 25 65 rfl rfl ?_
        try simp only [Act.put, sA, s0, s1]
        refine wpAnyH_ready (rs := [26]) (by kernel_rfl) (by simp) ?_
        refine AllReadyH.cons rfl (fun K hK => ?_) AllReadyH.nil
        replace hK := Lib.hid hK
        go_simp
        refine hK.out _ _ trivial (fun hHeld => ?_)
        clear hK K
        try simp only [Act.put, sA, s0, s1]
        refine wpAnyH_done (by kernel_rfl) ?_ _
        go_wp2
        go_end0
        refine ⟨rfl, ⟨r1, f8, ?_, ?_⟩, ?_⟩
        · have hh := ((RQ.out.first f8).count lj).base (to + 1)
          have hlen : (s.q.drop j).length = lj := by rw [List.length_drop, HLJ.out]
          simpa [SQ.v, hlen] using hh
        · rw [HFJ.out]
          exact H2.out.drop j HL.out.1 (fun i v hi hv => R2.out i v hi hv)
        · exact (((CQ.out.setCell (.inl (by simp)) _).setCell (.inl (by simp)) _).setCell (.inl (by simp)) _)
end
section
open Go.RowKit Go.Lib
set_option linter.unusedSimpArgs false
set_option linter.unusedVariables false


theorem eqlPS (a : Addr) (w : World) : (binOp .eql 23 (.pointer (some a)) (.pointer (some a))).run Try.prog w = .ok (.bool true) w := by
  obtain ⟨j, hj⟩ := Option.isSome_iff_exists.1 (show (Try.prog.info? 81).isSome = true by kernel_rfl)
  exact run_eql_ptr_same w a Try.underlying23 hj
theorem semade_any (w : World) (b : Nat) (s : SQ) (h : QH w b s) : Calls Try.prog 41 #[.pointer (some ⟨b, 0, none⟩)] w fun e w' => e = .returned (.bool true) ∧ w' = w := by
  obtain ⟨z0, _⟩ := h.get
  have ep := fun W => eqlPS ⟨b, 0, none⟩ W
  clear h
  go_enter Try.func41, Try.ntmps41
  go_wp2
  go_ret
  exact ⟨rfl, rfl⟩

theorem sepeer_any (w : World) (b : Nat) (s : SQ) (h : QH w b s) : Calls Try.prog 29 #[.pointer (some ⟨b, 0, none⟩)] w fun e w' => e = .returned (.int .i64 s.peer) ∧ w' = w := by
  have MD := Lib.hid (semade_any w b s h)
  obtain ⟨_, _, z, _, _, _, _, _, _⟩ := h.get
  clear h
  go_enter Try.func29, Try.ntmps29
  go_wp2_with fail
  refine MD.out.mono ?_
  rintro e w1 ⟨rfl, rfl⟩
  go_wp2
  go_ret
  exact ⟨rfl, rfl⟩

theorem sewaiting_any (w : World) (b : Nat) (s : SQ) (h : QH w b s) : Calls Try.prog 27 #[.pointer (some ⟨b, 0, none⟩)] w fun e w' => e = .returned (.int .i64 s.q.length) ∧ w' = w := by
  have MD := Lib.hid (semade_any w b s h)
  obtain ⟨_, _, _, _, z, _, _, _, _⟩ := h.get
  clear h
  go_enter Try.func27, Try.ntmps27
  go_wp2_with fail
  refine MD.out.mono ?_
  rintro e w1 ⟨rfl, rfl⟩
  go_wp2
  go_ret
  exact ⟨rfl, rfl⟩

theorem seturns_any (w : World) (b : Nat) (s : SQ) (h : QH w b s) : Calls Try.prog 24 #[.pointer (some ⟨b, 0, none⟩)] w fun e w' => e = .returned (.int .i64 s.turns) ∧ w' = w := by
  have MD := Lib.hid (semade_any w b s h)
  obtain ⟨_, _, _, z, _, _, _, _, _⟩ := h.get
  clear h
  go_enter Try.func24, Try.ntmps24
  go_wp2_with fail
  refine MD.out.mono ?_
  rintro e w1 ⟨rfl, rfl⟩
  go_wp2
  go_ret
  exact ⟨rfl, rfl⟩

theorem setake_any (w : World) (b : Nat) (s : SQ) (h : QH w b s) : Calls Try.prog 16 #[.pointer (some ⟨b, 0, none⟩)] w fun e w' => e = .returned (.slice s.A s.n s.c) ∧ QH w' b { s with A := none, n := 0, c := 0 } ∧ Chg [b] w w' := by
  have MD := Lib.hid (semade_any w b s h)
  obtain ⟨_, _, _, _, _, _, z31, _⟩ := h.get
  have fr := h.free 31
  obtain ⟨ring, first, h1, h2⟩ := h
  have H1 := Lib.hid h1
  have H2 := Lib.hid h2
  clear h1 h2
  go_enter Try.func16, Try.ntmps16
  go_wp2_with fail
  refine MD.out.mono ?_
  rintro e w1 ⟨rfl, rfl⟩
  go_wp2
  go_ret
  exact ⟨rfl, ⟨ring, first, H1.out.taken none 0 0, H2.out⟩, (Chg.refl [b] _).setCell (.inl (List.mem_singleton.2 rfl)) _⟩
theorem owe_any (w : World) (b : Nat) (s : SQ) (h : QH w b s) : Calls Try.prog 31 #[.pointer (some ⟨b, 0, none⟩)] w fun e w' => e = .returned (.tuple #[]) ∧ QH w' b { s with owes := true } ∧ Chg [b] w w' := by
  obtain ⟨_, _, _, _, _, _, _, _, z33⟩ := h.get
  have fr := h.free 33
  obtain ⟨ring, first, h1, h2⟩ := h
  have H1 := Lib.hid h1
  have H2 := Lib.hid h2
  clear h1 h2
  cases ho : s.owes with
  | false =>
    rw [ho] at z33
    have B := Lib.hid (bcas_f w b 33 z33 fr)
    go_enter Try.func31, Try.ntmps31
    go_wp2_with fail
    refine B.out.mono ?_
    rintro e w1 ⟨rfl, rfl⟩
    go_wp2
    go_end0
    exact ⟨rfl, ⟨ring, first, (H1.out.chg (Chg.refl [] w).drew (by simp)).owes true, H2.out⟩, (Chg.refl [b] _).drew.setCell (.inl (List.mem_singleton.2 rfl)) _⟩
  | true =>
    rw [ho] at z33
    have B := Lib.hid (bcas_t w b 33 z33 fr)
    go_enter Try.func31, Try.ntmps31
    go_wp2_with fail
    refine B.out.mono ?_
    rintro e w1 ⟨rfl, rfl⟩
    go_wp2
    go_end0
    refine ⟨rfl, ⟨ring, first, ?_, H2.out⟩, (Chg.refl [b] _).drew⟩
    have := (H1.out.chg (Chg.refl [] w).drew (by simp))
    have e : s.v ring first = SQ.v { s with owes := true } ring first := by rw [← ho]
    rwa [e] at this

theorem sesend_long (w : World) (b : Nat) (s : SQ) (h : QH w b s) (A : Option Addr) (n c : Nat) (hn : 400 < n) (hn2 : n ≤ 140737488351232) : Calls Try.prog 30 #[.pointer (some ⟨b, 0, none⟩), .slice A n c] w fun e w' => e = .returned (.int .i64 3) ∧ Chg [] w w' := by
  have MD := Lib.hid (semade_any w b s h)
  have i1 : (400 : Int) < (n : Int) := by omega
  clear h
  go_enter Try.func30, Try.ntmps30
  go_wp2_with fail
  refine MD.out.mono ?_
  rintro e w1 ⟨rfl, rfl⟩
  go_wp2
  go_ret
  exact ⟨rfl, Chg.refl _ _⟩
theorem sesend_state (w : World) (b : Nat) (s : SQ) (h : QH w b s) (A : Option Addr) (n c : Nat) (hn : ¬ 400 < n) (hp : s.peer = 0) : Calls Try.prog 30 #[.pointer (some ⟨b, 0, none⟩), .slice A n c] w fun e w' => e = .returned (.int .i64 9) ∧ Chg [] w w' := by
  have MD := Lib.hid (semade_any w b s h)
  have i1 : ¬ (400 : Int) < (n : Int) := by omega
  obtain ⟨_, _, z2, _⟩ := h.get
  rw [hp] at z2
  clear h
  go_enter Try.func30, Try.ntmps30
  go_wp2_with fail
  refine MD.out.mono ?_
  rintro e w1 ⟨rfl, rfl⟩
  go_wp2
  go_ret
  exact ⟨rfl, Chg.refl _ _⟩

set_option maxHeartbeats 4000000 in
theorem sesend_full (w : World) (b : Nat) (s : SQ) (h : QH w b s) (A : Option Addr) (n c : Nat) (ys : List UInt8) (hr : Bs w A n ys) (hn : ¬ 400 < n) (hp : ¬ s.peer = 0) (hq : s.q.length = 8) : Calls Try.prog 30 #[.pointer (some ⟨b, 0, none⟩), .slice A n c] w fun e w' => e = .returned (.int .i64 8) ∧ Chg [] w w' := by
  have MD := Lib.hid (semade_any w b s h)
  have i1 : ¬ (400 : Int) < (n : Int) := by omega
  obtain ⟨_, _, z2, _⟩ := h.get
  have H := Lib.hid h
  have HR := Lib.hid hr
  have HQ := Lib.hid hq
  have HN := Lib.hid hn
  clear h hr hq hn
  go_enter Try.func30, Try.ntmps30
  go_wp2_with fail
  refine MD.out.mono ?_
  rintro e w1 ⟨rfl, rfl⟩
  go_upto_region 7 with fail
  refine wp_region_held_drew (S := fun _ => True) (by kernel_rfl) trivial (fun hHeld => ?_)
  have D := Lib.hid (Chg.refl [] w1).drew
  replace H := Lib.hid (H.out.chg D.out (by simp))
  replace HR := Lib.hid (HR.out.chg D.out (by simp))
  clear z2
  generalize w1.drew = wd at *
  refine step_yes 0 20 ?_ (by assumption) rfl rfl (by kernel_rfl) (by kernel_rfl) (by kernel_rfl) (fun _ _ _ h => h) (by rfl) ?_ ?_
  rotate_left
  · (intro w hSw; (try dsimp only at hSw); go_simp; try with_reducible rfl)
  try simp only [Act.put, List.setIfInBounds_toArray, List.set_cons_zero, List.set_cons_succ]
  refine step_yes 1 21 ?_ (by assumption) rfl rfl (by kernel_rfl) (by kernel_rfl) (by kernel_rfl) (fun _ _ _ h => h) (by rfl) ?_ ?_
  rotate_left
  · (intro w hSw; (try dsimp only at hSw); go_simp; try with_reducible rfl)
  try simp only [Act.put, List.setIfInBounds_toArray, List.set_cons_zero, List.set_cons_succ]
  refine step_yes 2 22 ?_ (by assumption) rfl rfl (by kernel_rfl) (by kernel_rfl) (by kernel_rfl) (fun _ _ _ h => h) (by rfl) ?_ ?_
  rotate_left
  · (intro w hSw; (try dsimp only at hSw); go_simp; try with_reducible rfl)
  try simp only [Act.put, List.setIfInBounds_toArray, List.set_cons_zero, List.set_cons_succ]
  refine step_yes 3 23 ?_ (by assumption) rfl rfl (by kernel_rfl) (by kernel_rfl) (by kernel_rfl) (fun _ _ _ h => h) (by rfl) ?_ ?_
  rotate_left
  · (intro w hSw; (try dsimp only at hSw); go_simp; try with_reducible rfl)
  try simp only [Act.put, List.setIfInBounds_toArray, List.set_cons_zero, List.set_cons_succ]
  refine wpAnyH_ready (rs := [4]) (by kernel_rfl) (by simp) ?_
  refine AllReadyH.cons rfl (fun K hK => ?_) AllReadyH.nil
  replace hK := Lib.hid hK
  go_simp
  refine (clone_any wd A n c ys HR.out (by have := HN.out; omega)).mono ?_
  rintro e w3 ⟨A2, c2, rfl, hO, hA, hC⟩
  have O2 := Lib.hid hO
  have N2 := Lib.hid hA
  have C2 := Lib.hid hC
  replace H := Lib.hid (H.out.chg hC (by simp))
  clear hO hA hC
  refine hK.out _ _ trivial (fun hHeld => ?_)
  clear hK K
  try simp only [Act.put, List.setIfInBounds_toArray, List.set_cons_zero, List.set_cons_succ]
  refine wpAnyH_ready (rs := [5]) (by kernel_rfl) (by simp) ?_
  refine AllReadyH.cons rfl (fun K hK => ?_) AllReadyH.nil
  replace hK := Lib.hid hK
  go_simp
  refine (push_full w3 b s H.out A2 n c2 HQ.out).mono ?_
  rintro e w4 ⟨rfl, rfl⟩
  refine hK.out _ _ trivial (fun hHeld => ?_)
  clear hK K
  try simp only [Act.put, List.setIfInBounds_toArray, List.set_cons_zero, List.set_cons_succ]
  refine step_yes 6 26 ?_ (by assumption) rfl rfl (by kernel_rfl) (by kernel_rfl) (by kernel_rfl) (fun _ _ _ h => h) (by rfl) ?_ ?_
  rotate_left
  · (intro w hSw; (try dsimp only at hSw); go_simp; try with_reducible rfl)
  try simp only [Act.put, List.setIfInBounds_toArray, List.set_cons_zero, List.set_cons_succ]
  refine step_yes 7 19 ?_ (by assumption) rfl rfl (by kernel_rfl) (by kernel_rfl) (by kernel_rfl) (fun _ _ _ h => h) (by rfl) ?_ ?_
  rotate_left
  · (intro w hSw; (try dsimp only at hSw); go_simp; try with_reducible rfl)
  try simp only [Act.put, List.setIfInBounds_toArray, List.set_cons_zero, List.set_cons_succ]
  refine wpAnyH_done (by kernel_rfl) ?_ _
  go_wp2
  go_ret
  exact ⟨rfl, D.out.trans C2.out⟩

set_option maxHeartbeats 4000000 in
theorem sesend_ok (w : World) (b : Nat) (s : SQ) (h : QH w b s) (A : Option Addr) (n c : Nat) (ys : List UInt8) (hr : Bs w A n ys) (hn : ¬ 400 < n) (hp : ¬ s.peer = 0) (hq : s.q.length < 8) : Calls Try.prog 30 #[.pointer (some ⟨b, 0, none⟩), .slice A n c] w fun e w' => ∃ A2 c2, e = .returned (.int .i64 0) ∧ QH w' b { s with q := s.q ++ [(A2, n, c2, false, 0)] } ∧ OwnB w' A2 c2 ys ∧ (∀ a, A2 = some a → w.heap.size ≤ a.block) ∧ Chg [b] w w' := by
  have hb := h.lt
  have MD := Lib.hid (semade_any w b s h)
  have i1 : ¬ (400 : Int) < (n : Int) := by omega
  obtain ⟨_, _, z2, _⟩ := h.get
  have H := Lib.hid h
  have HR := Lib.hid hr
  have HQ := Lib.hid hq
  have HN := Lib.hid hn
  clear h hr hq hn
  go_enter Try.func30, Try.ntmps30
  go_wp2_with fail
  refine MD.out.mono ?_
  rintro e w1 ⟨rfl, rfl⟩
  go_upto_region 7 with fail
  refine wp_region_held_drew (S := fun _ => True) (by kernel_rfl) trivial (fun hHeld => ?_)
  have D := Lib.hid (Chg.refl [] w1).drew
  replace H := Lib.hid (H.out.chg D.out (by simp))
  replace HR := Lib.hid (HR.out.chg D.out (by simp))
  clear z2
  generalize w1.drew = wd at *
  refine step_yes 0 20 ?_ (by assumption) rfl rfl (by kernel_rfl) (by kernel_rfl) (by kernel_rfl) (fun _ _ _ h => h) (by rfl) ?_ ?_
  rotate_left
  · (intro w hSw; (try dsimp only at hSw); go_simp; try with_reducible rfl)
  try simp only [Act.put, List.setIfInBounds_toArray, List.set_cons_zero, List.set_cons_succ]
  refine step_yes 1 21 ?_ (by assumption) rfl rfl (by kernel_rfl) (by kernel_rfl) (by kernel_rfl) (fun _ _ _ h => h) (by rfl) ?_ ?_
  rotate_left
  · (intro w hSw; (try dsimp only at hSw); go_simp; try with_reducible rfl)
  try simp only [Act.put, List.setIfInBounds_toArray, List.set_cons_zero, List.set_cons_succ]
  refine step_yes 2 22 ?_ (by assumption) rfl rfl (by kernel_rfl) (by kernel_rfl) (by kernel_rfl) (fun _ _ _ h => h) (by rfl) ?_ ?_
  rotate_left
  · (intro w hSw; (try dsimp only at hSw); go_simp; try with_reducible rfl)
  try simp only [Act.put, List.setIfInBounds_toArray, List.set_cons_zero, List.set_cons_succ]
  refine step_yes 3 23 ?_ (by assumption) rfl rfl (by kernel_rfl) (by kernel_rfl) (by kernel_rfl) (fun _ _ _ h => h) (by rfl) ?_ ?_
  rotate_left
  · (intro w hSw; (try dsimp only at hSw); go_simp; try with_reducible rfl)
  try simp only [Act.put, List.setIfInBounds_toArray, List.set_cons_zero, List.set_cons_succ]
  refine wpAnyH_ready (rs := [4]) (by kernel_rfl) (by simp) ?_
  refine AllReadyH.cons rfl (fun K hK => ?_) AllReadyH.nil
  replace hK := Lib.hid hK
  go_simp
  refine (clone_any wd A n c ys HR.out (by have := HN.out; omega)).mono ?_
  rintro e w3 ⟨A2, c2, rfl, hO, hA, hC⟩
  have O2 := Lib.hid hO
  have N2 := Lib.hid hA
  have C2 := Lib.hid hC
  replace H := Lib.hid (H.out.chg hC (by simp))
  clear hO hA hC
  refine hK.out _ _ trivial (fun hHeld => ?_)
  clear hK K
  try simp only [Act.put, List.setIfInBounds_toArray, List.set_cons_zero, List.set_cons_succ]
  refine wpAnyH_ready (rs := [5]) (by kernel_rfl) (by simp) ?_
  refine AllReadyH.cons rfl (fun K hK => ?_) AllReadyH.nil
  replace hK := Lib.hid hK
  go_simp
  refine (push_ok w3 b s H.out A2 n c2 HQ.out).mono ?_
  rintro e w4 ⟨rfl, hq4, hc4⟩
  have H4 := Lib.hid hq4
  have C4 := Lib.hid hc4
  clear hq4 hc4
  refine hK.out _ _ trivial (fun hHeld => ?_)
  clear hK K
  try simp only [Act.put, List.setIfInBounds_toArray, List.set_cons_zero, List.set_cons_succ]
  refine step_yes 6 26 ?_ (by assumption) rfl rfl (by kernel_rfl) (by kernel_rfl) (by kernel_rfl) (fun _ _ _ h => h) (by rfl) ?_ ?_
  rotate_left
  · (intro w hSw; (try dsimp only at hSw); go_simp; try with_reducible rfl)
  try simp only [Act.put, List.setIfInBounds_toArray, List.set_cons_zero, List.set_cons_succ]
  refine step_yes 7 19 ?_ (by assumption) rfl rfl (by kernel_rfl) (by kernel_rfl) (by kernel_rfl) (fun _ _ _ h => h) (by rfl) ?_ ?_
  rotate_left
  · (intro w hSw; (try dsimp only at hSw); go_simp; try with_reducible rfl)
  try simp only [Act.put, List.setIfInBounds_toArray, List.set_cons_zero, List.set_cons_succ]
  refine wpAnyH_done (by kernel_rfl) ?_ _
  go_wp2
  go_ret
  exact ⟨A2, c2, rfl, H4.out, O2.out.chg C4.out (by rintro a ha hm; have := N2.out a ha; have := D.out.size; simp at hm; have := hb; omega), fun a ha => by have := N2.out a ha; have := D.out.size; omega, ((D.out.trans C2.out).mono (S' := [b]) (by simp)).trans C4.out⟩

theorem senew_bad (w : World) (q : Int) (h : q < 1 ∨ 1099511627776 < q) : Calls Try.prog 7 #[.int .i64 q] w fun e w' => e = .returned (.tuple #[.pointer none, .int .i64 2]) ∧ w' = w := by
  by_cases h0 : q < 1
  · clear h
    go_enter Try.func7, Try.ntmps7
    go_wp2
    go_ret2
    exact ⟨rfl, rfl⟩
  · have h1 : 1099511627776 < q := by omega
    clear h
    go_enter Try.func7, Try.ntmps7
    go_wp2
    go_ret2
    exact ⟨rfl, rfl⟩
/-- The session that New makes. -/
def newQ (q : Int) : SQ := ⟨q, 0, 0, [], 1, none, 0, 0, 0, true⟩
set_option maxRecDepth 100000 in
theorem senew_any (w : World) (q : Int) (h0 : 1 ≤ q) (h1 : q ≤ 1099511627776) : Calls Try.prog 7 #[.int .i64 q] w fun e w' => ∃ b, e = .returned (.tuple #[.pointer (some ⟨b, 0, none⟩), .int .i64 0]) ∧ QH w' b (newQ q) ∧ w.heap.size ≤ b ∧ Chg [] w w' := by
  have i0 : ¬ q < 1 := by omega
  have i1 : ¬ 1099511627776 < q := by omega
  obtain ⟨w1, hw1, c1, b1⟩ := news1 w (.cells #[.pointer none, .int .i64 q, .int .i64 0, .int .i64 0, .slice none 0 0, .bool false, .int .i64 0, .slice none 0 0, .bool false, .int .i64 0, .slice none 0 0, .bool false, .int .i64 0, .slice none 0 0, .bool false, .int .i64 0, .slice none 0 0, .bool false, .int .i64 0, .slice none 0 0, .bool false, .int .i64 0, .slice none 0 0, .bool false, .int .i64 0, .slice none 0 0, .bool false, .int .i64 0, .int .i64 0, .int .i64 0, .int .i64 1, .slice none 0 0, .int .i64 0, .int .u32 0] 81)
  have W1 := Lib.hid hw1
  have z0 := cell_of b1 0
  have f0 := free_of b1 0
  simp only [List.getElem?_toArray, List.getElem?_cons_succ, List.getElem?_cons_zero] at z0
  have hp := heap_setCell_same _ w.heap.size 0 _ _ (.pointer (some ⟨w.heap.size, 0, none⟩)) b1
  have HC := Lib.hid (c1.put (s := w.heap.size) (Nat.le_refl _) 0 (.pointer (some ⟨w.heap.size, 0, none⟩)))
  have HS : Hid (QH (w1.setCell ⟨w.heap.size, 0, none⟩ (.pointer (some ⟨w.heap.size, 0, none⟩))) w.heap.size { newQ q with owes := false }) := Lib.hid ⟨List.replicate 8 (none, 0, 0, false, 0), 0, ⟨hp, rfl⟩, by decide, by simp [newQ], by simp [newQ]⟩
  clear h0 h1 hw1 c1 b1 hp
  go_enter Try.func7, Try.ntmps7
  go_upto_region 4 with fail
  rw [← W1.out]
  generalize hg : w.heap.size = g at *
  go_wp2_with fail
  refine (owe_any _ g _ HS.out).mono ?_
  rintro e w2 ⟨rfl, hq, hc⟩
  have HQ := Lib.hid hq
  have C2 := Lib.hid (HC.out.trans' hc (by simp; omega))
  clear hq hc
  go_wp2
  go_ret2
  exact ⟨g, rfl, HQ.out, by omega, C2.out⟩
end
section
open Go.RowKit Go.Lib
set_option linter.unusedSimpArgs false
set_option linter.unusedVariables false


/-- A body, a tick later. -/
def tickV (v : BV) : BV := if v.2.2.2.1 = true then (v.1, v.2.1, v.2.2.1, v.2.2.2.1, v.2.2.2.2 + 1) else v
set_option maxHeartbeats 4000000 in
theorem setick_any (w : World) (b : Nat) (s : SQ) (h : QH w b s) (ha : ∀ v ∈ s.q, 0 ≤ v.2.2.2.2 ∧ v.2.2.2.2 ≤ 4611686018427387904) : Calls Try.prog 25 #[.pointer (some ⟨b, 0, none⟩)] w fun e w' => e = .returned (.tuple #[]) ∧ QH w' b { s with q := s.q.map tickV } ∧ Chg [b] w w' := by
  have MD := Lib.hid (semade_any w b s h)
  obtain ⟨ring, first, h1, h2⟩ := h
  obtain ⟨_, _, _, _, _, h29, _⟩ := h1.get
  change w.cell? ⟨b, 29, none⟩ = some (.int .i64 (s.q.length : Int)) at h29
  have HL := Lib.hid h2.2.1
  have HF := Lib.hid h2.1
  have HA := Lib.hid ha
  have HS0 : Hid (∃ ring', SesH w b (s.v ring' first) ∧ RingP ring' first (turnedTo tickV s.q 0)) := Lib.hid ⟨ring, h1, by rw [turnedTo_zero]; exact h2⟩
  clear h1 h2 ha
  go_enter Try.func25, Try.ntmps25
  go_wp2_with fail
  refine MD.out.mono ?_
  rintro e w1 ⟨rfl, rfl⟩
  go_wp2_with fail
  clear h29
  go_loopw [12] (fun v wr => ∃ j : Nat, j ≤ s.q.length ∧ v = .int .i64 (j : Int) ∧ Hid (∃ ring', SesH wr b (s.v ring' first) ∧ RingP ring' first (turnedTo tickV s.q j)) ∧ Hid (Chg [b] w1 wr)) (fun v _ => s.q.length - (RowKit.intOf v).toNat)
  case atStart => exact ⟨0, Nat.zero_le _, rfl, HS0.out, Chg.refl _ _⟩
  case round =>
    obtain ⟨j, hj, rfl, HS, HI⟩ := hrel
    have i0 : (0 : Int) ≤ (j : Int) := by omega
    have i1 : IntKind.i64.wrap ((j : Int) + 1) = (j : Int) + 1 := IntWalk.i64_in _ (by have := HL.out; omega)
    by_cases hlt : j < s.q.length
    · have i2 : (j : Int) < (s.q.length : Int) := by omega
      obtain ⟨x, hx⟩ : ∃ x, s.q[j]? = some x := ⟨_, List.getElem?_eq_getElem hlt⟩
      obtain ⟨r1, hr1, hr2⟩ := HS.out
      obtain ⟨_, _, _, _, z28, _⟩ := hr1.get
      obtain ⟨k, hk⟩ : ∃ k, k = (first + j) % 8 := ⟨_, rfl⟩
      have AT := Lib.hid (at_any wr b first j z28 HF.out (by have := HL.out; omega) k hk)
      have hv := hr2.at_ (turnedTo_at tickV s.q j x hx)
      rw [← hk] at hv
      have HV := Lib.hid hv
      have R1 := Lib.hid hr1
      have R2 := Lib.hid hr2
      have KK := Lib.hid hk
      have HX := Lib.hid hx
      have hxa := HA.out x (List.mem_of_getElem? hx)
      clear HS hr1 hr2 hk z28 hv hx
      go_wp2_with fail
      refine AT.out.mono ?_
      rintro e w3 ⟨rfl, hc⟩
      have h1 := R1.out.chg hc (by simp)
      obtain ⟨g0, g1, g2⟩ := h1.body HV.out
      have fr := fun j => h1.free j
      have C3 := Lib.hid (HI.out.trans (hc.mono (S' := [b]) (by simp)))
      obtain ⟨xA, xn, xc, xo, xg⟩ := x
      dsimp only at g0 g1 g2 hxa
      have i3 : IntKind.i64.wrap (xg + 1) = xg + 1 := IntWalk.i64_in _ (by omega)
      have P0 := Lib.hid h1
      clear AT hc h1
      cases xo with
      | true =>
        have P1 := Lib.hid (P0.out.bodya HV.out (xg + 1))
        go_wp2
        go_round
        case measure => simp [RowKit.intOf]; omega
        refine ⟨j + 1, by omega, by go_num, ⟨r1.set k (xA, xn, xc, true, xg + 1), P1.out, ?_⟩, ?_⟩
        · rw [← turnedTo_set tickV s.q j _ HX.out, KK.out]
          exact R2.out.set P0.out.2 (by rw [turnedTo_len]; exact hlt) _
        · exact C3.out.setCell (.inl (List.mem_singleton.2 rfl)) _
      | false =>
        go_wp2
        go_round
        case measure => simp [RowKit.intOf]; omega
        refine ⟨j + 1, by omega, by go_num, ⟨r1, P0.out, ?_⟩, C3.out⟩
        rw [turnedTo_same tickV s.q j _ HX.out rfl]
        exact R2.out
    · obtain rfl : j = s.q.length := by omega
      have i2 : ¬ (s.q.length : Int) < (s.q.length : Int) := by omega
      obtain ⟨r1, hr1, hr2⟩ := HS.out
      rw [turnedTo_all] at hr2
      have R1 := Lib.hid hr1
      have R2 := Lib.hid hr2
      clear HS hr1 hr2
      go_wp2
      go_end0
      refine ⟨rfl, ⟨r1, first, ?_, R2.out⟩, HI.out⟩
      simpa [SQ.v] using R1.out
end
section
open Go.RowKit Go.Lib
set_option linter.unusedSimpArgs false
set_option linter.unusedVariables false


theorem cells_len {b : Nat} {s : SesV} (h : s.ring.length = 8) : (cellsS b s).length = 34 := by
  obtain ⟨a0, a1, a2, a3, a4, a5, a6, a7, e⟩ := eight h
  simp [cellsS, e, encB]
def turnQ (s : SQ) (f : Int) : SQ := { s with peer := f, turns := s.turns + 1, q := [], base := 1, came := 0, owes := true }
set_option maxHeartbeats 4000000 in
set_option maxRecDepth 100000 in
theorem turn_any (w : World) (b : Nat) (s : SQ) (h : QH w b s) (f : Int) (ht : 0 ≤ s.turns ∧ s.turns ≤ 4611686018427387904) : Calls Try.prog 48 #[.pointer (some ⟨b, 0, none⟩), .int .i64 f] w fun e w' => e = .returned (.tuple #[]) ∧ QH w' b (turnQ s f) ∧ Chg [b] w w' := by
  obtain ⟨ring, first, h1, h2⟩ := h
  have z2 := h1.get.2.2.1
  have f2 := h1.free 2
  have p1 := h1.peer f
  have T0 := Lib.hid ht
  have c1 := (Chg.refl [b] w).setCell (p := ⟨b, 2, none⟩) (.inl (List.mem_singleton.2 rfl)) (.int .i64 f)
  go_enter Try.func48, Try.ntmps48
  go_upto_region 1 with fail
  generalize w.setCell ⟨b, 2, none⟩ (.int .i64 f) = w1 at *
  have C1 := Lib.hid c1
  have P1 := Lib.hid p1
  have fr := fun j => p1.free j
  obtain ⟨a0, a1, a2, a3, a4, a5, a6, a7, ea⟩ := eight p1.2
  clear h1 h2 z2 f2 c1 T0
  have HX : SesH (((((((((((((((((((((((((((w1.setCell ⟨b, 4, none⟩ (.slice none 0 0)).setCell ⟨b, 5, none⟩ (.bool false)).setCell ⟨b, 6, none⟩ (.int .i64 0)).setCell ⟨b, 7, none⟩ (.slice none 0 0)).setCell ⟨b, 8, none⟩ (.bool false)).setCell ⟨b, 9, none⟩ (.int .i64 0)).setCell ⟨b, 10, none⟩ (.slice none 0 0)).setCell ⟨b, 11, none⟩ (.bool false)).setCell ⟨b, 12, none⟩ (.int .i64 0)).setCell ⟨b, 13, none⟩ (.slice none 0 0)).setCell ⟨b, 14, none⟩ (.bool false)).setCell ⟨b, 15, none⟩ (.int .i64 0)).setCell ⟨b, 16, none⟩ (.slice none 0 0)).setCell ⟨b, 17, none⟩ (.bool false)).setCell ⟨b, 18, none⟩ (.int .i64 0)).setCell ⟨b, 19, none⟩ (.slice none 0 0)).setCell ⟨b, 20, none⟩ (.bool false)).setCell ⟨b, 21, none⟩ (.int .i64 0)).setCell ⟨b, 22, none⟩ (.slice none 0 0)).setCell ⟨b, 23, none⟩ (.bool false)).setCell ⟨b, 24, none⟩ (.int .i64 0)).setCell ⟨b, 25, none⟩ (.slice none 0 0)).setCell ⟨b, 26, none⟩ (.bool false)).setCell ⟨b, 27, none⟩ (.int .i64 0)).setCell ⟨b, 28, none⟩ (.int .i64 0)).setCell ⟨b, 29, none⟩ (.int .i64 0)).setCell ⟨b, 30, none⟩ (.int .i64 1)) b _ := ((((((((((p1.body3 (k := 0) (by decide) none 0 0 false 0).body3 (k := 1) (by decide) none 0 0 false 0).body3 (k := 2) (by decide) none 0 0 false 0).body3 (k := 3) (by decide) none 0 0 false 0).body3 (k := 4) (by decide) none 0 0 false 0).body3 (k := 5) (by decide) none 0 0 false 0).body3 (k := 6) (by decide) none 0 0 false 0).body3 (k := 7) (by decide) none 0 0 false 0).first 0).count 0).base 1
  have CX : Chg [b] w1 (((((((((((((((((((((((((((w1.setCell ⟨b, 4, none⟩ (.slice none 0 0)).setCell ⟨b, 5, none⟩ (.bool false)).setCell ⟨b, 6, none⟩ (.int .i64 0)).setCell ⟨b, 7, none⟩ (.slice none 0 0)).setCell ⟨b, 8, none⟩ (.bool false)).setCell ⟨b, 9, none⟩ (.int .i64 0)).setCell ⟨b, 10, none⟩ (.slice none 0 0)).setCell ⟨b, 11, none⟩ (.bool false)).setCell ⟨b, 12, none⟩ (.int .i64 0)).setCell ⟨b, 13, none⟩ (.slice none 0 0)).setCell ⟨b, 14, none⟩ (.bool false)).setCell ⟨b, 15, none⟩ (.int .i64 0)).setCell ⟨b, 16, none⟩ (.slice none 0 0)).setCell ⟨b, 17, none⟩ (.bool false)).setCell ⟨b, 18, none⟩ (.int .i64 0)).setCell ⟨b, 19, none⟩ (.slice none 0 0)).setCell ⟨b, 20, none⟩ (.bool false)).setCell ⟨b, 21, none⟩ (.int .i64 0)).setCell ⟨b, 22, none⟩ (.slice none 0 0)).setCell ⟨b, 23, none⟩ (.bool false)).setCell ⟨b, 24, none⟩ (.int .i64 0)).setCell ⟨b, 25, none⟩ (.slice none 0 0)).setCell ⟨b, 26, none⟩ (.bool false)).setCell ⟨b, 27, none⟩ (.int .i64 0)).setCell ⟨b, 28, none⟩ (.int .i64 0)).setCell ⟨b, 29, none⟩ (.int .i64 0)).setCell ⟨b, 30, none⟩ (.int .i64 1)) := ((((((((((((((((((((((((((((Chg.refl [b] w1).setCell (.inl (List.mem_singleton.2 rfl)) _).setCell (.inl (List.mem_singleton.2 rfl)) _).setCell (.inl (List.mem_singleton.2 rfl)) _).setCell (.inl (List.mem_singleton.2 rfl)) _).setCell (.inl (List.mem_singleton.2 rfl)) _).setCell (.inl (List.mem_singleton.2 rfl)) _).setCell (.inl (List.mem_singleton.2 rfl)) _).setCell (.inl (List.mem_singleton.2 rfl)) _).setCell (.inl (List.mem_singleton.2 rfl)) _).setCell (.inl (List.mem_singleton.2 rfl)) _).setCell (.inl (List.mem_singleton.2 rfl)) _).setCell (.inl (List.mem_singleton.2 rfl)) _).setCell (.inl (List.mem_singleton.2 rfl)) _).setCell (.inl (List.mem_singleton.2 rfl)) _).setCell (.inl (List.mem_singleton.2 rfl)) _).setCell (.inl (List.mem_singleton.2 rfl)) _).setCell (.inl (List.mem_singleton.2 rfl)) _).setCell (.inl (List.mem_singleton.2 rfl)) _).setCell (.inl (List.mem_singleton.2 rfl)) _).setCell (.inl (List.mem_singleton.2 rfl)) _).setCell (.inl (List.mem_singleton.2 rfl)) _).setCell (.inl (List.mem_singleton.2 rfl)) _).setCell (.inl (List.mem_singleton.2 rfl)) _).setCell (.inl (List.mem_singleton.2 rfl)) _).setCell (.inl (List.mem_singleton.2 rfl)) _).setCell (.inl (List.mem_singleton.2 rfl)) _).setCell (.inl (List.mem_singleton.2 rfl)) _)
  have hth : w1.there b 4 27 := fun j hj => ⟨by rw [cell_of p1.1, List.getElem?_toArray, List.getElem?_eq_getElem (by rw [cells_len p1.2]; omega)]; rfl, p1.free _⟩
  have hx : w1.setCells b 4 [.slice none 0 0, .bool false, .int .i64 0, .slice none 0 0, .bool false, .int .i64 0, .slice none 0 0, .bool false, .int .i64 0, .slice none 0 0, .bool false, .int .i64 0, .slice none 0 0, .bool false, .int .i64 0, .slice none 0 0, .bool false, .int .i64 0, .slice none 0 0, .bool false, .int .i64 0, .slice none 0 0, .bool false, .int .i64 0, .int .i64 0, .int .i64 0, .int .i64 1] = (((((((((((((((((((((((((((w1.setCell ⟨b, 4, none⟩ (.slice none 0 0)).setCell ⟨b, 5, none⟩ (.bool false)).setCell ⟨b, 6, none⟩ (.int .i64 0)).setCell ⟨b, 7, none⟩ (.slice none 0 0)).setCell ⟨b, 8, none⟩ (.bool false)).setCell ⟨b, 9, none⟩ (.int .i64 0)).setCell ⟨b, 10, none⟩ (.slice none 0 0)).setCell ⟨b, 11, none⟩ (.bool false)).setCell ⟨b, 12, none⟩ (.int .i64 0)).setCell ⟨b, 13, none⟩ (.slice none 0 0)).setCell ⟨b, 14, none⟩ (.bool false)).setCell ⟨b, 15, none⟩ (.int .i64 0)).setCell ⟨b, 16, none⟩ (.slice none 0 0)).setCell ⟨b, 17, none⟩ (.bool false)).setCell ⟨b, 18, none⟩ (.int .i64 0)).setCell ⟨b, 19, none⟩ (.slice none 0 0)).setCell ⟨b, 20, none⟩ (.bool false)).setCell ⟨b, 21, none⟩ (.int .i64 0)).setCell ⟨b, 22, none⟩ (.slice none 0 0)).setCell ⟨b, 23, none⟩ (.bool false)).setCell ⟨b, 24, none⟩ (.int .i64 0)).setCell ⟨b, 25, none⟩ (.slice none 0 0)).setCell ⟨b, 26, none⟩ (.bool false)).setCell ⟨b, 27, none⟩ (.int .i64 0)).setCell ⟨b, 28, none⟩ (.int .i64 0)).setCell ⟨b, 29, none⟩ (.int .i64 0)).setCell ⟨b, 30, none⟩ (.int .i64 1)) := rfl
  obtain ⟨w2, hw2⟩ : ∃ w2, w2 = w1.setCells b 4 [.slice none 0 0, .bool false, .int .i64 0, .slice none 0 0, .bool false, .int .i64 0, .slice none 0 0, .bool false, .int .i64 0, .slice none 0 0, .bool false, .int .i64 0, .slice none 0 0, .bool false, .int .i64 0, .slice none 0 0, .bool false, .int .i64 0, .slice none 0 0, .bool false, .int .i64 0, .slice none 0 0, .bool false, .int .i64 0, .int .i64 0, .int .i64 0, .int .i64 1] := ⟨_, rfl⟩
  have HX2 : SesH w2 b _ := Eq.subst (motive := fun W => SesH W b _) (hw2.trans hx).symm HX
  have CX2 : Chg [b] w1 w2 := Eq.subst (motive := fun W => Chg [b] w1 W) (hw2.trans hx).symm CX
  clear HX CX hx
  refine wp_region_lit ?_
  refine wpList_plain rfl (fun K hK => ?_)
  replace hK := Lib.hid hK
  go_simp
  refine hK.out _ _ ?_
  clear hK K
  try simp only [Act.put, List.setIfInBounds_toArray, List.set_cons_zero, List.set_cons_succ]
  refine wpList_plain rfl (fun K hK => ?_)
  replace hK := Lib.hid hK
  go_simp
  refine hK.out _ _ ?_
  clear hK K
  try simp only [Act.put, List.setIfInBounds_toArray, List.set_cons_zero, List.set_cons_succ]
  refine wpList_plain rfl (fun K hK => ?_)
  replace hK := Lib.hid hK
  go_simp
  refine hK.out _ _ ?_
  clear hK K
  try simp only [Act.put, List.setIfInBounds_toArray, List.set_cons_zero, List.set_cons_succ]
  refine wpList_plain rfl (fun K hK => ?_)
  replace hK := Lib.hid hK
  go_simp
  refine hK.out _ _ ?_
  clear hK K
  try simp only [Act.put, List.setIfInBounds_toArray, List.set_cons_zero, List.set_cons_succ]
  refine wpList_store_mid rfl _ _ _ rfl b 4 #[.slice none 0 0, .bool false, .int .i64 0, .slice none 0 0, .bool false, .int .i64 0, .slice none 0 0, .bool false, .int .i64 0, .slice none 0 0, .bool false, .int .i64 0, .slice none 0 0, .bool false, .int .i64 0, .slice none 0 0, .bool false, .int .i64 0, .slice none 0 0, .bool false, .int .i64 0, .slice none 0 0, .bool false, .int .i64 0, .int .i64 0, .int .i64 0, .int .i64 1] rfl rfl hth (by kernel_rfl) (by kernel_rfl) ?_
  rw [show (#[.slice none 0 0, .bool false, .int .i64 0, .slice none 0 0, .bool false, .int .i64 0, .slice none 0 0, .bool false, .int .i64 0, .slice none 0 0, .bool false, .int .i64 0, .slice none 0 0, .bool false, .int .i64 0, .slice none 0 0, .bool false, .int .i64 0, .slice none 0 0, .bool false, .int .i64 0, .slice none 0 0, .bool false, .int .i64 0, .int .i64 0, .int .i64 0, .int .i64 1] : Array Value).toList = [.slice none 0 0, .bool false, .int .i64 0, .slice none 0 0, .bool false, .int .i64 0, .slice none 0 0, .bool false, .int .i64 0, .slice none 0 0, .bool false, .int .i64 0, .slice none 0 0, .bool false, .int .i64 0, .slice none 0 0, .bool false, .int .i64 0, .slice none 0 0, .bool false, .int .i64 0, .slice none 0 0, .bool false, .int .i64 0, .int .i64 0, .int .i64 0, .int .i64 1] from rfl, ← hw2]
  refine wpList_nil ?_
  try simp only [Act.put, List.setIfInBounds_toArray, List.set_cons_zero, List.set_cons_succ]
  clear p1 ea hth fr P1 hw2
  have H2 : Hid (QH w2 b { s with peer := f, q := [], base := 1 }) := Lib.hid ⟨_, 0, HX2, by decide, by simp, by simp⟩
  have C2 := Lib.hid (C1.out.trans CX2)
  clear HX2 CX2 C1
  go_wp2_with fail
  refine (iswap_any w2 b 32 s.came H2.out.get.2.2.2.2.2.2.2.1 (H2.out.free 32)).mono ?_
  rintro e w3 ⟨rfl, rfl⟩
  have H3 : Hid (QH (w2.setCell ⟨b, 32, none⟩ (.int .i64 0)) b { s with peer := f, q := [], base := 1, came := 0 }) := Lib.hid (by
    obtain ⟨r, q, h, hr⟩ := H2.out
    exact ⟨r, q, h.came 0, hr⟩)
  have C3 := Lib.hid (C2.out.setCell (p := ⟨b, 32, none⟩) (.inl (List.mem_singleton.2 rfl)) (.int .i64 0))
  generalize w2.setCell ⟨b, 32, none⟩ (.int .i64 0) = w3 at *
  clear H2 C2
  go_wp2_with fail
  refine (owe_any w3 b _ H3.out).mono ?_
  rintro e w4 ⟨rfl, hq, hc⟩
  have H4 := Lib.hid hq
  have C4 := Lib.hid (C3.out.trans hc)
  clear hq hc H3 C3
  have z3 := H4.out.get.2.2.2.1
  have f3 := H4.out.free 3
  have i1 : IntKind.i64.wrap (s.turns + 1) = s.turns + 1 := IntWalk.i64_in _ (by omega)
  go_wp2
  go_end0
  refine ⟨rfl, ?_, C4.out.setCell (.inl (List.mem_singleton.2 rfl)) _⟩
  obtain ⟨r, q, h, hr⟩ := H4.out
  exact ⟨r, q, h.turns _, hr⟩
end
section
open Go.RowKit Go.Lib
set_option linter.unusedSimpArgs false
set_option linter.unusedVariables false


abbrev PakV := Int × Int × Int × Int × Option Addr × Nat × Nat
def pakTy : RowTy PakV where
  enc := fun x => [.int .i64 x.1, .int .i64 x.2.1, .int .i64 x.2.2.1, .int .i64 x.2.2.2.1, .slice x.2.2.2.2.1 x.2.2.2.2.2.1 x.2.2.2.2.2.2]
  k := 5
  T := 35
  TS := 39
  z := (0, 0, 0, 0, none, 0, 0)
  zv := .agg #[.int .i64 0, .int .i64 0, .int .i64 0, .int .i64 0, .slice none 0 0]
  bytes := 56
  klen := fun _ => rfl
  one := by intro x v hv; simp at hv; rcases hv with rfl | rfl | rfl | rfl | rfl <;> rfl
  zc := rfl
  kpos := by decide
  bpos := by decide
  under := by kernel_rfl
  info := by kernel_rfl
theorem pakCells {w : World} {g o n j : Nat} {xs : List PakV} (h : RdK pakTy w (some ⟨g, o, none⟩) n xs) {x : PakV} (hx : xs[j]? = some x) : w.cell? ⟨g, o + j * 5, none⟩ = some (.int .i64 x.1) ∧ w.cell? ⟨g, o + j * 5 + 1, none⟩ = some (.int .i64 x.2.1) ∧ w.cell? ⟨g, o + j * 5 + 2, none⟩ = some (.int .i64 x.2.2.1) ∧ w.cell? ⟨g, o + j * 5 + 3, none⟩ = some (.int .i64 x.2.2.2.1) ∧ w.cell? ⟨g, o + j * 5 + 4, none⟩ = some (.slice x.2.2.2.2.1 x.2.2.2.2.2.1 x.2.2.2.2.2.2) :=
  ⟨h.at_ j 0 x _ hx rfl, h.at_ j 1 x _ hx rfl, h.at_ j 2 x _ hx rfl, h.at_ j 3 x _ hx rfl, h.at_ j 4 x _ hx rfl⟩
/-- A slice of bytes, as an element. -/
abbrev SlV := Option Addr × Nat × Nat
def lstTy : RowTy SlV where
  enc := fun x => [.slice x.1 x.2.1 x.2.2]
  k := 1
  T := 33
  TS := 42
  z := (none, 0, 0)
  zv := .slice none 0 0
  bytes := 24
  klen := fun _ => rfl
  one := by intro x v hv; simp at hv; rcases hv with rfl <;> rfl
  zc := rfl
  kpos := by decide
  bpos := by decide
  under := by kernel_rfl
  info := by kernel_rfl
theorem lstCell {w : World} {g o n j : Nat} {xs : List SlV} (h : RdK lstTy w (some ⟨g, o, none⟩) n xs) {x : SlV} (hx : xs[j]? = some x) : w.cell? ⟨g, o + j, none⟩ = some (.slice x.1 x.2.1 x.2.2) := by
  have := h.at_ j 0 x _ hx rfl
  rwa [show lstTy.k = 1 from rfl, Nat.mul_one, Nat.add_zero] at this
theorem row_one {α : Type} {R : RowTy α} {w : World} {g : Nat} {x : α} (h : w.heap[g]? = some (.cells (R.enc x).toArray R.T (0, 0))) : RdK R w (some ⟨g, 0, none⟩) 1 [x] := by
  have e : (R.flat [x]) = R.enc x := by simp [RowTy.flat]
  exact (OwnK.of (R := R) (c := 1) (full := [x]) (xs := [x]) (by rw [e]; exact h) (Nat.le_refl _) (by decide) rfl rfl).reads

set_option maxHeartbeats 4000000 in
set_option maxRecDepth 100000 in
theorem sepacket_any (w : World) (b : Nat) (s : SQ) (h : QH w b s) (num : Int) (A : Option Addr) (n c : Nat) (ys : List UInt8) (hr : Bs w A n ys) (hn : n ≤ 140737488351232) : Calls Try.prog 43 #[.pointer (some ⟨b, 0, none⟩), .int .i64 num, .slice A n c] w fun e w' => ∃ A2 c2, e = .returned (.agg #[.int .i64 s.ep, .int .i64 s.peer, .int .i64 num, .int .i64 s.came, .slice A2 n c2]) ∧ Fresh w w' A2 c2 ys := by
  obtain ⟨w1, hw1, c1, b1⟩ := news1 w (.cells #[.int .i64 0, .int .i64 0, .int .i64 0, .int .i64 0, .slice none 0 0] 35)
  have W1 := Lib.hid hw1
  have lt := lt_of_heap b1
  have B1 := Lib.hid b1
  have H1 := Lib.hid (h.chg c1 (by simp))
  have R1 := Lib.hid (hr.chg c1 (by simp))
  have CB := Lib.hid c1
  have HN := Lib.hid hn
  have BG := Lib.hid h.lt
  clear hw1 b1 c1 hr hn h
  go_enter Try.func43, Try.ntmps43
  go_upto_region 1 with fail
  rw [← W1.out]
  have HG := Lib.hid (Nat.le_refl w.heap.size)
  generalize hg : w.heap.size = g at *
  refine wp_region_held_drew (S := fun w' => Chg [g] w1 w') (by kernel_rfl) (Chg.refl [g] w1).drew (fun hHeld => ?_)
  have CW := Lib.hid (Chg.refl [] w1).drew
  clear W1
  generalize w1.drew = wd at *
  refine sy 0 7 rfl rfl ?_
  try simp only [Act.put, sA, s0, s1]
  refine sy 1 8 rfl rfl ?_
  try simp only [Act.put, sA, s0, s1]
  refine sy 2 9 rfl rfl ?_
  try simp only [Act.put, sA, s0, s1]
  refine sy 3 10 rfl rfl ?_ (hy := by (intro w hSw; (try dsimp only at hSw); have q := (H1.out.chg hSw (by have := BG.out; simp; omega)).get; obtain ⟨_, q1, q2, _⟩ := q; go_simp; try with_reducible rfl))
  try simp only [Act.put, sA, s0, s1]
  refine sy 4 11 rfl rfl ?_
  try simp only [Act.put, sA, s0, s1]
  refine sy 5 12 rfl rfl ?_
  try simp only [Act.put, sA, s0, s1]
  refine sy 6 13 rfl rfl ?_
  try simp only [Act.put, sA, s0, s1]
  refine sy 7 14 rfl rfl ?_ (hy := by (intro w hSw; (try dsimp only at hSw); have q := (H1.out.chg hSw (by have := BG.out; simp; omega)).get; obtain ⟨_, q1, q2, _⟩ := q; go_simp; try with_reducible rfl))
  try simp only [Act.put, sA, s0, s1]
  refine sy 8 15 rfl rfl ?_
  try simp only [Act.put, sA, s0, s1]
  refine sy 9 16 rfl rfl ?_
  try simp only [Act.put, sA, s0, s1]
  refine sy 10 17 rfl rfl ?_
  try simp only [Act.put, sA, s0, s1]
  refine sy 11 18 rfl rfl ?_
  try simp only [Act.put, sA, s0, s1]
  refine sy 13 20 rfl rfl ?_
  try simp only [Act.put, sA, s0, s1]
  refine wpAnyH_ready (rs := [12]) (by kernel_rfl) (by simp) ?_
  refine AllReadyH.cons rfl (fun K hK => ?_) AllReadyH.nil
  replace hK := Lib.hid hK
  go_simp
  refine (iload_any wd b 32 s.came (H1.out.chg CW.out (by simp)).get.2.2.2.2.2.2.2.1).mono ?_
  rintro e w9 ⟨rfl, rfl⟩
  refine hK.out _ _ hHeld (fun hHeld => ?_)
  clear hK K
  try simp only [Act.put, sA, s0, s1]
  refine wpAnyH_ready (rs := [14]) (by kernel_rfl) (by simp) ?_
  refine AllReadyH.cons rfl (fun K hK => ?_) AllReadyH.nil
  replace hK := Lib.hid hK
  go_simp
  refine (clone_any w9 A n c ys (R1.out.chg CW.out (by simp)) (by have := HN.out; omega)).mono ?_
  rintro e w3 ⟨A2, c2, rfl, hO, hA, hC⟩
  have O2 := Lib.hid hO
  have N2 := Lib.hid hA
  have C2 := Lib.hid hC
  have S9 := Lib.hid CW.out.size
  have CW2 := Lib.hid (CW.out.trans hC)
  clear hO hA hC hHeld
  refine hK.out _ _ (CW2.out.mono (S' := [g]) (by simp)) (fun hHeld => ?_)
  clear hK K
  try simp only [Act.put, sA, s0, s1]
  refine sy 15 22 rfl rfl ?_
  try simp only [Act.put, sA, s0, s1]
  refine wpAnyH_ready (rs := [16]) (by kernel_rfl) (by simp) ?_
  refine AllReadyH.cons rfl (fun K hK => ?_) AllReadyH.nil
  replace hK := Lib.hid hK
  have bb := CW2.out.at_ B1.out (by simp)
  have y0 := cell_of bb 0
  have k0 := free_of bb 0
  have y1 := cell_of bb 1
  have k1 := free_of bb 1
  have y2 := cell_of bb 2
  have k2 := free_of bb 2
  have y3 := cell_of bb 3
  have k3 := free_of bb 3
  have y4 := cell_of bb 4
  have k4 := free_of bb 4
  simp only [List.getElem?_toArray, List.getElem?_cons_succ, List.getElem?_cons_zero] at y0 y1 y2 y3 y4
  have P2 := Lib.hid (put5_0 (.int .i64 s.ep) (.int .i64 s.peer) (.int .i64 num) (.int .i64 s.came) (.slice A2 n c2) bb)
  have C3 : Hid (Chg [g] w3 (((((w3.setCell ⟨g, 0, none⟩ (.int .i64 s.ep)).setCell ⟨g, 1, none⟩ (.int .i64 s.peer)).setCell ⟨g, 2, none⟩ (.int .i64 num)).setCell ⟨g, 3, none⟩ (.int .i64 s.came)).setCell ⟨g, 4, none⟩ (.slice A2 n c2))) := Lib.hid ((((((Chg.refl [g] w3).setCell (.inl (by simp)) _).setCell (.inl (by simp)) _).setCell (.inl (by simp)) _).setCell (.inl (by simp)) _).setCell (.inl (by simp)) _)
  go_simp
  clear bb y0 y1 y2 y3 y4 k0 k1 k2 k3 k4
  generalize (((((w3.setCell ⟨g, 0, none⟩ (.int .i64 s.ep)).setCell ⟨g, 1, none⟩ (.int .i64 s.peer)).setCell ⟨g, 2, none⟩ (.int .i64 num)).setCell ⟨g, 3, none⟩ (.int .i64 s.came)).setCell ⟨g, 4, none⟩ (.slice A2 n c2)) = W at *
  refine hK.out _ _ ((CW2.out.mono (S' := [g]) (by simp)).trans C3.out) (fun hHeld => ?_)
  clear hK K
  try simp only [Act.put, sA, s0, s1]
  refine wpAnyH_done (by kernel_rfl) ?_ _
  try go_wp2
  have z0 := cell_of P2.out 0
  have z1 := cell_of P2.out 1
  have z2 := cell_of P2.out 2
  have z3 := cell_of P2.out 3
  have z4 := cell_of P2.out 4
  simp only [List.getElem?_toArray, List.getElem?_cons_succ, List.getElem?_cons_zero] at z0 z1 z2 z3 z4
  refine bodyPost_ret (v := .agg #[.int .i64 s.ep, .int .i64 s.peer, .int .i64 num, .int .i64 s.came, .slice A2 n c2]) (by simp [results, Try.results43, go_sem, z0, z1, z2, z3, z4]) rfl ?_
  have hA2 : ∀ a, A2 = some a → g < a.block := fun a ha => by have := N2.out a ha; have := S9.out; omega
  exact ⟨A2, c2, rfl, O2.out.chg C3.out (by intro a ha hm; have := hA2 a ha; simp at hm; omega), fun a ha => by have := hA2 a ha; omega, (CB.out.trans CW2.out).trans' C3.out (by intro i hi; right; simp at hi; omega)⟩
end
section
open Go.RowKit Go.Lib
set_option linter.unusedSimpArgs false
set_option linter.unusedVariables false

/-- What the ring holds of a body's age. -/
def AgeR (K : Nat) (v : BV) (a : Int) : Prop := (v.2.2.2.1 = false ∧ v.2.2.2.2 = 0 ∧ a = -1) ∨ (v.2.2.2.1 = true ∧ 0 ≤ v.2.2.2.2 ∧ v.2.2.2.2 ≤ K ∧ a = if v.2.2.2.2 ≤ 4 then v.2.2.2.2 else 4)
structure BodyP (K : Nat) (w : World) (D : List Nat) (v : BV) (x : List UInt8 × Int) : Prop where
  rd : Bs w v.1 v.2.1 x.1
  age : AgeR K v x.2
  blk : ∀ a, v.1 = some a → a.block ∈ D
def ListP (w : World) (D : List Nat) (lt : List SlV) (ls : List (List UInt8)) : Prop := lt.length = ls.length ∧ ∀ (i : Nat) (x : SlV) (y : List UInt8), lt[i]? = some x → ls[i]? = some y → Bs w x.1 x.2.1 y ∧ ∀ a, x.1 = some a → a.block ∈ D
structure Ab (s : SQ) (st : SesT) : Prop where
  ep : s.ep = st.ep
  peer : s.peer = st.peer
  turns : s.turns = st.turned
  base : s.base = st.base
  came : s.came = st.came
  owes : s.owes = st.owes
  q : s.q.length = st.q.length
  n : s.n = st.inn.length
structure SesP (K : Nat) (w : World) (b : Nat) (A : Option Addr) (D : List Nat) (st : SesT) (s : SQ) (lt : List SlV) : Prop where
  h : QH w b s
  ab : Ab s st
  q : ∀ (i : Nat) (v : BV) (x : List UInt8 × Int), s.q[i]? = some v → st.q[i]? = some x → BodyP K w D v x
  eA : s.A = A
  own : OwnK lstTy w A s.c lt
  lst : ListP w D lt st.inn
  nb : b ∉ D
  far : ∀ a, A = some a → a.block ≠ b ∧ a.block ∉ D
  lo : ∀ d ∈ D, d < w.heap.size
  inv : InvS K st
/-- The session at b, its row of those that came at A, its bodies in the blocks D: its state. -/
def SesL (K : Nat) (w : World) (b : Nat) (A : Option Addr) (D : List Nat) (st : SesT) : Prop := ∃ s lt, SesP K w b A D st s lt
theorem BodyP.chg {K : Nat} {w w' : World} {S D : List Nat} {v : BV} {x : List UInt8 × Int} (h : BodyP K w D v x) (hc : Chg S w w') (hd : ∀ d ∈ D, d ∉ S) : BodyP K w' D v x := ⟨h.rd.chg hc (fun a ha => hd _ (h.blk a ha)), h.age, h.blk⟩
theorem BodyP.more {K L : Nat} {w : World} {D D' : List Nat} {v : BV} {x : List UInt8 × Int} (h : BodyP K w D v x) (hl : K ≤ L) (hd : ∀ d ∈ D, d ∈ D') : BodyP L w D' v x := by
  refine ⟨h.rd, ?_, fun a ha => hd _ (h.blk a ha)⟩
  rcases h.age with e | ⟨e1, e2, e3, e4⟩
  · exact .inl e
  · exact .inr ⟨e1, e2, by omega, e4⟩
theorem ListP.chg {w w' : World} {S D : List Nat} {lt : List SlV} {ls : List (List UInt8)} (h : ListP w D lt ls) (hc : Chg S w w') (hd : ∀ d ∈ D, d ∉ S) : ListP w' D lt ls :=
  ⟨h.1, fun i x y hx hy => ⟨(h.2 i x y hx hy).1.chg hc (fun a ha => hd _ ((h.2 i x y hx hy).2 a ha)), (h.2 i x y hx hy).2⟩⟩
theorem ListP.more {w : World} {D D' : List Nat} {lt : List SlV} {ls : List (List UInt8)} (h : ListP w D lt ls) (hd : ∀ d ∈ D, d ∈ D') : ListP w D' lt ls := ⟨h.1, fun i x y hx hy => ⟨(h.2 i x y hx hy).1, fun a ha => hd _ ((h.2 i x y hx hy).2 a ha)⟩⟩
theorem SesL.chg {K : Nat} {w w' : World} {S : List Nat} {b : Nat} {A : Option Addr} {D : List Nat} {st : SesT} (h : SesL K w b A D st) (hc : Chg S w w') (hb : b ∉ S) (hA : ∀ a, A = some a → a.block ∉ S) (hd : ∀ d ∈ D, d ∉ S) : SesL K w' b A D st := by
  obtain ⟨s, lt, h⟩ := h
  exact ⟨s, lt, h.h.chg hc hb, h.ab, fun i v x hv hx => (h.q i v x hv hx).chg hc hd, h.eA, h.own.chg hc hA, h.lst.chg hc hd, h.nb, h.far, fun d hm => Nat.lt_of_lt_of_le (h.lo d hm) hc.size, h.inv⟩
theorem SesL.lt {K : Nat} {w : World} {b : Nat} {A : Option Addr} {D : List Nat} {st : SesT} (h : SesL K w b A D st) : b < w.heap.size ∧ (∀ a, A = some a → a.block < w.heap.size) ∧ ∀ d ∈ D, d < w.heap.size := by
  obtain ⟨s, lt, h⟩ := h
  exact ⟨h.h.lt, h.own.lt, h.lo⟩
theorem SesL.inv {K : Nat} {w : World} {b : Nat} {A : Option Addr} {D : List Nat} {st : SesT} (h : SesL K w b A D st) : InvS K st := by
  obtain ⟨s, lt, h⟩ := h
  exact h.inv
theorem SesL.more {K L : Nat} {w : World} {b : Nat} {A : Option Addr} {D : List Nat} {st : SesT} (h : SesL K w b A D st) (hl : K ≤ L) : SesL L w b A D st := by
  obtain ⟨s, lt, h⟩ := h
  exact ⟨s, lt, h.h, h.ab, fun i v x hv hx => (h.q i v x hv hx).more hl (fun _ h => h), h.eA, h.own, h.lst, h.nb, h.far, h.lo, h.inv.more hl⟩

theorem newL {w : World} {b : Nat} {q : Int} (h : QH w b (newQ q)) (hq : 1 ≤ q ∧ q ≤ 1099511627776) : SesL 0 w b none [] (newS q) :=
  ⟨newQ q, [], h, ⟨rfl, rfl, rfl, rfl, rfl, rfl, rfl, rfl⟩, by simp [newQ, newS], rfl, OwnK.none_ _, ⟨rfl, by simp⟩, by simp, by simp, by simp, new_inv hq⟩
section
variable {K : Nat} {w : World} {b : Nat} {A : Option Addr} {D : List Nat} {st : SesT}
theorem peerL (h : SesL K w b A D st) : Calls Try.prog 29 #[.pointer (some ⟨b, 0, none⟩)] w fun e w' => e = .returned (.int .i64 st.peer) ∧ w' = w := by
  obtain ⟨s, lt, h⟩ := h
  rw [← h.ab.peer]
  exact sepeer_any w b s h.h
theorem waitingL (h : SesL K w b A D st) : Calls Try.prog 27 #[.pointer (some ⟨b, 0, none⟩)] w fun e w' => e = .returned (.int .i64 st.q.length) ∧ w' = w := by
  obtain ⟨s, lt, h⟩ := h
  rw [← h.ab.q]
  exact sewaiting_any w b s h.h
theorem turnsL (h : SesL K w b A D st) : Calls Try.prog 24 #[.pointer (some ⟨b, 0, none⟩)] w fun e w' => e = .returned (.int .i64 st.turned) ∧ w' = w := by
  obtain ⟨s, lt, h⟩ := h
  rw [← h.ab.turns]
  exact seturns_any w b s h.h
theorem takeL (h : SesL K w b A D st) : Calls Try.prog 16 #[.pointer (some ⟨b, 0, none⟩)] w fun e w' => ∃ c lt, e = .returned (.slice A st.inn.length c) ∧ OwnK lstTy w' A c lt ∧ ListP w' D lt st.inn ∧ SesL K w' b none D (takeS st) ∧ Chg [b] w w' := by
  obtain ⟨s, lt, h⟩ := h
  refine (setake_any w b s h.h).mono ?_
  rintro e w' ⟨rfl, hq, hc⟩
  have hd : ∀ d ∈ D, d ∉ [b] := fun d hd hm => h.nb (by simp at hm; exact hm ▸ hd)
  have ho := h.own.chg hc (fun a ha hm => (h.far a ha).1 (by simpa using hm))
  refine ⟨s.c, lt, by rw [h.eA, h.ab.n], ho, h.lst.chg hc hd, ⟨_, [], hq, ⟨h.ab.ep, h.ab.peer, h.ab.turns, h.ab.base, h.ab.came, h.ab.owes, h.ab.q, rfl⟩, fun i v x hv hx => (h.q i v x hv hx).chg hc hd, rfl, OwnK.none_ _, ⟨rfl, by simp⟩, h.nb, by simp, fun d hm => Nat.lt_of_lt_of_le (h.lo d hm) hc.size, take_inv h.inv⟩, hc⟩
theorem age_tick {v : BV} {a : Int} (h : AgeR K v a) : AgeR (K + 1) (tickV v) (older a) := by
  obtain ⟨vA, vn, vc, vo, vg⟩ := v
  rcases h with ⟨h1, h2, rfl⟩ | ⟨h1, h2, h3, rfl⟩
  · dsimp only at h1 h2
    subst h1; subst h2
    exact .inl ⟨rfl, rfl, by decide⟩
  · dsimp only at h1 h2 h3
    subst h1
    refine .inr ⟨rfl, by simp [tickV]; omega, by simp [tickV]; omega, ?_⟩
    simp only [tickV, older, if_true]
    split <;> split <;> split <;> omega
theorem tickL (h : SesL K w b A D st) (hK : K ≤ 1000000) : Calls Try.prog 25 #[.pointer (some ⟨b, 0, none⟩)] w fun e w' => e = .returned (.tuple #[]) ∧ SesL (K + 1) w' b A D (tickS st) ∧ Chg [b] w w' := by
  obtain ⟨s, lt, h⟩ := h
  refine (setick_any w b s h.h ?_).mono ?_
  · intro v hv
    obtain ⟨i, hi, rfl⟩ := List.getElem_of_mem hv
    have hi2 : i < st.q.length := by have := h.ab.q; omega
    rcases (h.q i _ _ (List.getElem?_eq_getElem hi) (List.getElem?_eq_getElem hi2)).age with ⟨_, e, _⟩ | ⟨_, e1, e2, _⟩ <;> omega
  rintro e w' ⟨rfl, hq, hc⟩
  have hd : ∀ d ∈ D, d ∉ [b] := fun d hd hm => h.nb (by simp at hm; exact hm ▸ hd)
  have ho := h.own.chg hc (fun a ha hm => (h.far a ha).1 (by simpa using hm))
  refine ⟨rfl, ⟨_, lt, hq, ⟨h.ab.ep, h.ab.peer, h.ab.turns, h.ab.base, h.ab.came, h.ab.owes, by simp [tickS, h.ab.q], h.ab.n⟩, fun i v x hv hx => ?_, h.eA, ho, h.lst.chg hc hd, h.nb, h.far, fun d hm => Nat.lt_of_lt_of_le (h.lo d hm) hc.size, tick_inv h.inv⟩, hc⟩
  simp only [tickS, List.getElem?_map, Option.map_eq_some_iff] at hv hx
  obtain ⟨v0, hv0, rfl⟩ := hv
  obtain ⟨x0, hx0, rfl⟩ := hx
  have hb := (h.q i v0 x0 hv0 hx0).chg hc hd
  have e1 : (tickV v0).1 = v0.1 ∧ (tickV v0).2.1 = v0.2.1 := by unfold tickV; split <;> exact ⟨rfl, rfl⟩
  exact ⟨by rw [e1.1, e1.2]; exact hb.rd, age_tick hb.age, by rw [e1.1]; exact hb.blk⟩
theorem sendL (h : SesL K w b A D st) (B : Option Addr) (n c : Nat) (ys : List UInt8) (hr : Bs w B n ys) (hn : n ≤ 140737488351232) : Calls Try.prog 30 #[.pointer (some ⟨b, 0, none⟩), .slice B n c] w fun e w' => ∃ D', e = .returned (.int .i64 (sendE st ys)) ∧ SesL (K + 1) w' b A D' (sendS st ys) ∧ (∀ d ∈ D', d ∈ D ∨ w.heap.size ≤ d) ∧ Chg [b] w w' := by
  have hL := h
  obtain ⟨s, lt, h⟩ := h
  have hlen := hr.len
  by_cases h1 : 400 < n
  · refine (sesend_long w b s h.h B n c h1 hn).mono ?_
    rintro e w' ⟨rfl, hc⟩
    rw [sendE, sendS, if_pos (by omega), if_pos (.inl (by omega))]
    exact ⟨D, rfl, (hL.chg hc (by simp) (by simp) (by simp)).more (by omega), fun d hd => .inl hd, hc.mono (by simp)⟩
  by_cases h2 : s.peer = 0
  · refine (sesend_state w b s h.h B n c h1 h2).mono ?_
    rintro e w' ⟨rfl, hc⟩
    have h2' : st.peer = 0 := by rw [← h.ab.peer]; exact h2
    rw [sendE, sendS, if_neg (by omega), if_pos h2', if_pos (.inr (.inl h2'))]
    exact ⟨D, rfl, (hL.chg hc (by simp) (by simp) (by simp)).more (by omega), fun d hd => .inl hd, hc.mono (by simp)⟩
  have h2' : ¬ st.peer = 0 := by rw [← h.ab.peer]; exact h2
  have hq8 := h.inv.q
  have hqq := h.ab.q
  by_cases h3 : s.q.length = 8
  · refine (sesend_full w b s h.h B n c ys hr h1 h2 h3).mono ?_
    rintro e w' ⟨rfl, hc⟩
    rw [sendE, sendS, if_neg (by omega), if_neg h2', if_pos (by omega), if_pos (.inr (.inr (by omega)))]
    exact ⟨D, rfl, (hL.chg hc (by simp) (by simp) (by simp)).more (by omega), fun d hd => .inl hd, hc.mono (by simp)⟩
  · refine (sesend_ok w b s h.h B n c ys hr h1 h2 (by omega)).mono ?_
    rintro e w' ⟨A2, c2, rfl, hq, hO, hA, hc⟩
    have hi := send_inv h.inv ys
    rw [sendE, if_neg (by omega), if_neg h2', if_neg (by omega)]
    rw [sendS, if_neg (by omega)] at hi ⊢
    have hd : ∀ d ∈ D, d ∉ [b] := fun d hd hm => h.nb (by simp at hm; exact hm ▸ hd)
    have ho := h.own.chg hc (fun a ha hm => (h.far a ha).1 (by simpa using hm))
    have hbl := h.h.lt
    refine ⟨blkOf A2 ++ D, rfl, ⟨_, lt, hq, ⟨h.ab.ep, h.ab.peer, h.ab.turns, h.ab.base, h.ab.came, h.ab.owes, by simp [h.ab.q], h.ab.n⟩, fun i v x hv hx => ?_, h.eA, ho, (h.lst.chg hc hd).more (fun d hd => List.mem_append_right _ hd), ?_, ?_, ?_, hi⟩, ?_, hc⟩
    · by_cases e : i = s.q.length
      · subst e
        rw [List.getElem?_append_right (Nat.le_refl _)] at hv
        rw [hqq, List.getElem?_append_right (Nat.le_refl _)] at hx
        simp at hv hx
        subst hv
        subst hx
        exact ⟨by have := hO.reads; rwa [hlen] at this, .inl ⟨rfl, rfl, rfl⟩, fun a ha => List.mem_append_left _ (mem_blkOf ha)⟩
      · have hi2 : i < s.q.length + 1 := by simpa using (List.getElem?_eq_some_iff.1 hv).1
        rw [List.getElem?_append_left (by omega)] at hv hx
        exact ((h.q i v x hv hx).chg hc hd).more (by omega) (fun d hd => List.mem_append_right _ hd)
    · intro hm
      rcases List.mem_append.1 hm with e | e
      · obtain ⟨a, ha, e⟩ := of_blkOf e
        have := hA a ha
        omega
      · exact h.nb e
    · intro a ha
      refine ⟨(h.far a ha).1, fun hm => ?_⟩
      rcases List.mem_append.1 hm with e | e
      · obtain ⟨a', ha', e⟩ := of_blkOf e
        have := hA a' ha'
        have := h.own.lt a ha
        omega
      · exact (h.far a ha).2 e
    · intro d hm
      rcases List.mem_append.1 hm with e | e
      · obtain ⟨a, ha, rfl⟩ := of_blkOf e
        exact hO.lt a ha
      · exact Nat.lt_of_lt_of_le (h.lo d e) hc.size
    · intro d hm
      rcases List.mem_append.1 hm with e | e
      · obtain ⟨a, ha, rfl⟩ := of_blkOf e
        exact .inr (hA a ha)
      · exact .inl e
end
end
end Go.Proofs.Ytmblalcigbghfaa
