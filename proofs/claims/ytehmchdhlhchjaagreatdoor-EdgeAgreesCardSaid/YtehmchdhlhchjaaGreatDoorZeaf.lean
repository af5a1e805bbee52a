/- As XRangeo, over a method as a value (bound arguments la). A range over a function whose body also makes memory of its own (a row that grows): the iterator promises to leave alone all that there is but its own blocks. No program here. past: what is kept. The reader of package wire: Open, and what tells without reading. The reader's number: what it tells, and what is wrong. The reader's number where no digit follows. The reader's number where digits follow. The reader's number, whatever stands there; Num, Text and Raw. The reader's piece; Raw and Text. The reader's Raw and Text, whatever stands there. Rows of events, and events handed in: what their cells are, and what their slices read as. Paths, purely: the parts of a text, which parts may be, which texts are paths. No program is named here. Rows of texts. strings.SplitSeq at the byte 47: what its iterator hands over. path.isPart: which texts are parts. path.Check: which texts are paths. -/
import Derived.Test.YtehmchdhlhchjaaGreatDoorZeaa
import Derived.Test.YtehmchdhlhchjaaGreatDoorZeae
import Derived.Test.YtehmchdhlhchjaaGreatDoorZeab
import Derived.Deep.QuietTactic
import Derived.BigQuiet
import Derived.ScopeJumps
import Derived.Lib.DecodeN
import Derived.Test.YtehmchdhlhchjaaGreatDoorShelf
import Derived.Shelf.Strings.Search3
import Derived.Shelf.GgClosure.StringsRunes
import Derived.Scope
set_option linter.unusedSimpArgs false
set_option linter.unusedVariables false
set_option maxHeartbeats 32000000
namespace Go.Proofs.YtehmchdhlhchjaaGreatDoor
section
open Go.RowKit

theorem range_bound {α : Type} {P : Program} {n : Nat} {g : Operand} {ps : Array Tmp} {assign body : Code} {Q : Exit → Act → World → Prop} {a : Act} {w : World} {gf : Nat} {lb bd : Array Value}
  (hg : a.eval g = .func (.func gf) bd lb) (eg : ∀ args w, (callFunc gf args).run P w = .ok (.enter gf args) w) {encs : α → Array Value} {S Sp : List α → Prop} {Ex : List α → α → World → Prop} {Bd : List α → Prop} {n₁ : Nat} (hn₁ : n₁ ≤ w.heap.size) {Si T : List Nat} (hSi : ∀ x ∈ Si, x < w.heap.size)
  (hseq : ∀ (l : Nat) (J Jx : List α → World → Prop) (W : World), Below w.heap.size w W → (∀ pre A B, J pre A → Chg Si A B → J pre B) → (∀ pre A B, Jx pre A → Chg Si A B → Jx pre B) → (∀ pre A, J pre A → Bd pre) →
   (∀ pre x W1, J pre W1 → Ex pre x W1 → YieldAt Fence.wide (n - 1 - 1) P l (encs x) W1 fun e W' => (e = .returned (.bool true) ∧ J (pre ++ [x]) W' ∧ Kpt n₁ T W1 W') ∨ (e = .returned (.bool false) ∧ Jx (pre ++ [x]) W')) →
   J [] W → CallsIn Fence.wide (n - 1) P gf ((bd ++ #[.func (.yield l) #[] #[]]) ++ lb) W fun e W' => (∃ v, e = .returned v) ∧ ((∃ xs, S xs ∧ J xs W') ∨ ∃ xs, Sp xs ∧ Jx xs W'))
  (hps : ∀ x, (encs x).size = ps.size) (I : List α → World → Prop) (Ix : Code → List α → World → Prop) (hI : ∀ pre A B, I pre A → Chg Si A B → I pre B) (hIx : ∀ c pre A B, Ix c pre A → Chg Si A B → Ix c pre B)
  (hIl : ∀ pre W l o o', W.heap[l]? = some o → o.isCells = false → w.heap.size ≤ l → I pre W → I pre (W.putObj l o')) (hIxl : ∀ c pre W l o o', W.heap[l]? = some o → o.isCells = false → w.heap.size ≤ l → Ix c pre W → Ix c pre (W.putObj l o')) (hBd : ∀ pre A, I pre A → Bd pre) (h0 : I [] w)
  (hEx : ∀ pre x W l o o', W.heap[l]? = some o → o.isCells = false → Ex pre x W → Ex pre x (W.putObj l o')) (a₁ : α → Act)
  (hassign : ∀ (l : Nat) (x : α) (W : World) (K : Act → World → Prop), K (a₁ x) W →
   assign.wpIn (Fence.wide.inRound l) (n - 1 - 1) P (Exit.then K (fun _ _ _ => False)) { tmps := (ps.zip (encs x)).foldl (fun t (p, v) => t.setIfInBounds p v) a.tmps, defers := [] } W)
  (hbody : ∀ (l : Nat) (pre : List α) (x : α) (W : World), I pre W → Ex pre x W → body.wpIn (Fence.wide.inRound l) (n - 1 - 1) P (brkPost I Ix n₁ T (pre ++ [x]) W) (a₁ x) W)
  (hdone : ∀ (D : Nat) (xs : List α) (W : World), w.heap.size ≤ D → S xs → I xs W → W.heap[D]? = some (.deferred (some [])) → Q .normal { a with defers := { target := .collected D, args := #[] } :: a.defers } W)
  (hstop : ∀ (D : Nat) (c : Code) (xs : List α) (W : World), w.heap.size ≤ D → Sp xs → Ix c xs W → W.heap[D]? = some (.deferred (some [])) → c.wpIn Fence.wide n P Q { a with defers := { target := .collected D, args := #[] } :: a.defers } W) :
  (Code.rangeFunc g ps assign body).wpIn Fence.wide n P Q a w := by
 refine wpIn_rangeFunc ?_
 intro fn hfn
 obtain ⟨rc, hrc⟩ : ∃ rc : LoopState → Option Code → Loop, rc = fun st pe => { state := st, pending := pe, fn, tmps := a.tmps, params := ps, assign, body, defers := w.heap.size } := ⟨_, rfl⟩
 obtain ⟨V, hV, hcV, hD0, hL0⟩ := news2 w (.deferred (some [])) (.loop (rc .ready none))
 have hsV : V.heap.size = w.heap.size + 2 := by rw [hV]; simp
 have bV : Below w.heap.size w V := by rw [hV]; exact ((Below.refl _ w).alloc (Nat.le_refl _) _).alloc (by simp) _
 refine ⟨w.heap.size + 1, [{ target := .collected w.heap.size, args := #[] }], V, { target := .fn (.func gf) lb, args := bd ++ #[.func (.yield (w.heap.size + 1)) #[] #[]] }, V, gf,
  (bd ++ #[.func (.yield (w.heap.size + 1)) #[] #[]]) ++ lb, V, ?_, ?_, fun _ _ => trivial, ?_, fun h => by simp [Fence.wide] at h, ?_⟩
 ·
  rw [hV, hrc]; exact run_enterLoop_outer _ _ _ _ _
 ·
  simp only [resolve, hg]
  simp [go_sem]
 ·
  simp [invoke, go_sem, eg]
 ·
  -- the record and the row of deferred calls, turned or not, lie at or behind w's end
  have turn : ∀ (W : World) (o : Obj) (o' : Obj), W.heap[w.heap.size + 1]? = some o → o.isCells = false → o.isWalk = false → ∀ m, m ≤ w.heap.size → Below m W (W.putObj (w.heap.size + 1) o') :=
   fun W o o' h hc hw m hm => belowK_b (w := w) hm W _ o o' (by omega) h hc hw
  have far : ∀ k, w.heap.size ≤ k → k ∉ Si := fun k hk h => by have := hSi k h; omega
  refine (hseq (w.heap.size + 1) (fun pre W => I pre W ∧ W.heap[w.heap.size + 1]? = some (.loop (rc .ready none)) ∧ W.heap[w.heap.size]? = some (.deferred (some [])))
   (fun pre W => ∃ c, Ix c pre W ∧ W.heap[w.heap.size + 1]? = some (.loop (rc .done (some c))) ∧ W.heap[w.heap.size]? = some (.deferred (some []))) V bV ?_ ?_ (fun pre A h => hBd _ _ h.1) ?_
   ⟨hI _ _ _ h0 (Chg.ofBelow bV (Nat.le_refl _) _), hL0, hD0⟩).mono ?_
  ·
   rintro pre A B ⟨hi, hl, hk⟩ hb
   exact ⟨hI _ _ _ hi hb, hb.at_ hl (far _ (by omega)), hb.at_ hk (far _ (Nat.le_refl _))⟩
  ·
   rintro pre A B ⟨c, hi, hl, hk⟩ hb
   exact ⟨c, hIx _ _ _ _ hi hb, hb.at_ hl (far _ (by omega)), hb.at_ hk (far _ (Nat.le_refl _))⟩
  ·
   rintro pre x W ⟨hi, hl, hk⟩ hx
   have hlt := lt_of_heap hl
   have hy := run_yield (P := P) (args := encs x) hl (by rw [hrc]; exact hps x)
   rw [hrc] at hy
   refine ⟨fn, _, assign, body, hy, roundIn_of_wpIn hfn (hassign _ x W _ ⟨_, run_beginRound hl (by rw [hrc]), ?_⟩)⟩
   have hl2 : (W.putObj (w.heap.size + 1) (.loop { rc .ready none with state := .busy })).heap[w.heap.size + 1]? = some (.loop { rc .ready none with state := .busy }) := World.putObj_heap_same hlt
   have hk2 : (W.putObj (w.heap.size + 1) (.loop { rc .ready none with state := .busy })).heap[w.heap.size]? = some (.deferred (some [])) := (World.putObj_heap_other (by omega)).trans hk
   have b2 := turn W _ (.loop { rc .ready none with state := .busy }) hl rfl rfl
   refine wpIn_mono (hbody _ pre x _ (hIl _ _ _ _ _ hl rfl (by omega) hi) (hEx pre x W _ _ _ hl rfl hx)) ?_
   have fin : ∀ (c : Code) (W3 : World), KeepsOthers (W.putObj (w.heap.size + 1) (.loop { rc .ready none with state := .busy })) W3 → Ix c (pre ++ [x]) W3 →
     ∃ v w', (Instr.endRound (w.heap.size + 1) (some c)).run P W3 = .ok v w' ∧ ((Ending.returned v = .returned (.bool true) ∧ (I (pre ++ [x]) w' ∧ w'.heap[w.heap.size + 1]? = some (.loop (rc .ready none)) ∧ w'.heap[w.heap.size]? = some (.deferred (some []))) ∧ Kpt n₁ T W w') ∨
      (Ending.returned v = .returned (.bool false) ∧ ∃ c, Ix c (pre ++ [x]) w' ∧ w'.heap[w.heap.size + 1]? = some (.loop (rc .done (some c))) ∧ w'.heap[w.heap.size]? = some (.deferred (some [])))) := by
    intro c W3 hk3 hi3
    have hl3 := hk3.same _ _ hl2 rfl
    have hd3 := hk3.same _ _ hk2 rfl
    have hr := run_endRound (P := P) (some c) hl3
    have b4 := turn W3 _ (.loop (rc .done (some c))) hl3 rfl rfl
    refine ⟨_, _, hr, .inr ⟨rfl, c, ?_, ?_, ?_⟩⟩
    ·
     have := hIxl _ _ _ _ _ (.loop (rc .done (some c))) hl3 rfl (by omega) hi3
     rw [hrc] at this ⊢
     exact this
    ·
     rw [hrc]; exact World.putObj_heap_same (lt_of_heap hl3)
    ·
     exact (World.putObj_heap_other (by omega)).trans hd3
   rintro e a3 W3 hp
   cases e with
   | normal =>
    obtain ⟨hk3, hb3, hi3⟩ := hp
    have hl3 := hk3.same _ _ hl2 rfl
    have hd3 := hk3.same _ _ hk2 rfl
    have hr := run_endRound (P := P) none hl3
    have b4 := turn W3 _ (.loop (rc .ready none)) hl3 rfl rfl
    refine ⟨_, _, hr, .inl ⟨rfl, ⟨?_, ?_, ?_⟩, ?_⟩⟩
    ·
     have := hIl _ _ _ _ (.loop (rc .ready none)) hl3 rfl (by omega) hi3
     rw [hrc] at this ⊢
     exact this
    ·
     rw [hrc]; exact World.putObj_heap_same (lt_of_heap hl3)
    ·
     exact (World.putObj_heap_other (by omega)).trans hd3
    ·
     have := ((Kpt.of_below (T := T) (b2 _ hn₁) (Nat.le_refl _)).trans hb3).trans (Kpt.of_below (b4 _ hn₁) (Nat.le_refl _))
     rw [hrc] at this ⊢
     exact this
   | ret => exact fin .ret W3 hp.1 hp.2
   | exit id => exact fin (.exit id) W3 hp.1 hp.2
   | goto t => exact hp.elim
   | panic ch => exact hp.elim
   | outgrown => exact hp.elim
  ·
   rintro e W2 ⟨⟨v, rfl⟩, (⟨xs, hS, hi, hl, hk⟩ | ⟨xs, hS, c, hi, hl, hk⟩)⟩
   ·
    refine ⟨none, _, by have := run_endLoop (P := P) hl (by rw [hrc]; simp); rw [hrc] at this; exact this, hdone _ xs _ (Nat.le_refl _) hS ?_ ((World.putObj_heap_other (by omega)).trans hk)⟩
    exact hIl _ _ _ _ _ hl rfl (by omega) hi
   ·
    refine ⟨some c, _, by have := run_endLoop (P := P) hl (by rw [hrc]; simp); rw [hrc] at this; exact this, hstop _ c xs _ (Nat.le_refl _) hS ?_ ((World.putObj_heap_other (by omega)).trans hk)⟩
    exact hIxl _ _ _ _ _ _ hl rfl (by omega) hi
end
section
open Go.RowKit Go.Lib


theorem either_any (w : World) (x y : Bool) : Calls Tryz.prog 198 #[.bool x, .bool y] w fun e w' => e = .returned (.bool (kE x y)) ∧ Chg [] w w' := by
 cases x <;> cases y
 all_goals
  go_enter Tryz.func198, Tryz.ntmps198
  go_wp2; go_ret
  exact ⟨rfl, Chg.refl _ _⟩
theorem first_any (w : World) (x y : Bool) : Calls Tryz.prog 155 #[.bool x, .bool y] w fun e w' => e = .returned (.bool (kF x y)) ∧ Chg [] w w' := by
 cases x <;> cases y
 all_goals
  go_enter Tryz.func155, Tryz.ntmps155
  go_wp2; go_ret
  exact ⟨rfl, Chg.refl _ _⟩
theorem RdK.kpt {α : Type} {R : RowTy α} {w w' : World} {n₁ : Nat} {T : List Nat} {A : Option Addr} {n : Nat} {xs : List α} (h : RdK R w A n xs) (hk : Kpt n₁ T w w') (ha : ∀ a, A = some a → a.block < n₁ ∧ a.block ∉ T) : RdK R w' A n xs := by
 refine ⟨h.len, fun j v hj => ?_⟩
 obtain ⟨a, e, hc⟩ := h.cells j v hj
 refine ⟨a, e, ?_⟩
 have := ha a e
 have e2 : (a.add j).block = a.block := by unfold Addr.add; split <;> rfl
 exact (World.cell?_of_block (hk.block (a.add j).block (by rw [e2]; exact this.1) (by rw [e2]; exact this.2))).trans hc
theorem SwP.kpt {w w' : World} {n₁ : Nat} {T : List Nat} {g : Nat} {X : List Nat} {la lb : List Sp} {kf : Nat} (h : SwP w g X la lb kf) (hk : Kpt n₁ T w w') (hg : g < n₁ ∧ g ∉ T) (hX : ∀ z ∈ X, z < n₁ ∧ z ∉ T) : SwP w' g X la lb kf := by
 obtain ⟨A, c, B, d, h⟩ := h
 exact ⟨A, c, B, d, (hk.block g hg.1 hg.2).trans h.hg, rd_old h.ra (h.na.imp id (fun q => h.ra.kpt hk (fun a ha => hX _ (q a ha)))), h.ca, h.na, rd_old h.rb (h.nb.imp id (fun q => h.rb.kpt hk (fun a ha => hX _ (q a ha)))), h.cb, h.nb, h.gx⟩
end
section
open Go.RowKit

def Rdr (w : World) (b g : Nat) (xs : List UInt8) (p : Nat) (fe fa : Int) : Prop :=
 ∃ A c, w.heap[b]? = some (.cells #[.pointer (some ⟨b, 0, none⟩), .slice A xs.length c, .int .i64 p, .int .i64 fe, .int .i64 fa] 158 (0, 0)) ∧ OwnB w A c xs ∧ (A = none ∧ g = b ∨ A = some ⟨g, 0, none⟩)

theorem Rdr.chg {S : List Nat} {w w' : World} {b g : Nat} {xs : List UInt8} {p : Nat} {fe fa : Int} (h : Rdr w b g xs p fe fa) (hc : Chg S w w') (hb : b ∉ S) (hg : g ∉ S) : Rdr w' b g xs p fe fa := by
 obtain ⟨A, c, h1, h2, h3⟩ := h
 refine ⟨A, c, hc.at_ h1 hb, h2.chg hc ?_, h3⟩
 rintro a rfl
 rcases h3 with ⟨h3, _⟩ | h3
 ·
  cases h3
 ·
  cases h3; exact hg
theorem someR : (Tryz.prog.info? 158).isSome = true := by kernel_rfl
theorem eqlPR (a : Addr) (w : World) : (binOp .eql 119 (.pointer (some a)) (.pointer (some a))).run Tryz.prog w = .ok (.bool true) w := by
 obtain ⟨j, hj⟩ := Option.isSome_iff_exists.1 someR
 exact run_eql_ptr_same w a Tryz.underlying119 hj

theorem flipw {P : Program} {f : FuncId} {args : Array Value} {w : World} {v : Value} (h : Calls P f args w fun e w' => e = .returned v ∧ w = w') : Calls P f args w fun e w' => e = .returned v ∧ w' = w :=
 h.mono fun _ _ hh => ⟨hh.1, hh.2.symm⟩
theorem Rdr.drewN {w : World} {b g : Nat} {xs : List UInt8} {p : Nat} {fe fa : Int} (h : Rdr w b g xs p fe fa) (n : Nat) : Rdr (w.drewN n) b g xs p fe fa := h.chg ((Chg.refl [] w).drewN n) (by simp) (by simp)

theorem open_any (w : World) (B : Option Addr) (m d : Nat) (ys : List UInt8) (hr : Bs w B m ys) (hm : m ≤ 140737488351232) :
  Calls Tryz.prog 90 #[.slice B m d] w fun r w' => ∃ b g, r = .returned (.pointer (some ⟨b, 0, none⟩)) ∧ Rdr w' b g ys 0 0 0 ∧ Chg [] w w' ∧ w.heap.size ≤ b ∧ w.heap.size ≤ g := by
 have hl := hr.len
 go_enter Tryz.func90, Tryz.ntmps90
 go_wp2_with (go_at_call 133; refine (clone_any _ _ _ _ ys hr hm).mono ?_; rintro r w1 ⟨A1, c1, rfl, hF⟩)
 go_ret; subst hl
 obtain ⟨h1, h2, h3⟩ := hF
 have h4 := h3.alloc (.cells #[.pointer (some ⟨w1.heap.size, 0, none⟩), .slice A1 ys.length c1, .int .i64 0, .int .i64 0, .int .i64 0] 158)
 have hs := h3.size
 have own : OwnB (w1.alloc (.cells #[.pointer (some ⟨w1.heap.size, 0, none⟩), .slice A1 ys.length c1, .int .i64 0, .int .i64 0, .int .i64 0] 158)) A1 c1 ys := h1.chg ((Chg.refl [] w1).alloc _) (by simp)
 rcases h1.form with ⟨rfl, _⟩ | ⟨g, cur, rfl, _⟩
 ·
  exact ⟨_, _, rfl, ⟨none, c1, heap_alloc_new w1 _, own, .inl ⟨rfl, rfl⟩⟩, h4, hs, hs⟩
 ·
  exact ⟨_, g, rfl, ⟨_, c1, heap_alloc_new w1 _, own, .inr rfl⟩, h4, hs, h2 _ rfl⟩

theorem rmade_yes (w : World) (b g : Nat) (xs : List UInt8) (p : Nat) (fe fa : Int) (h : Rdr w b g xs p fe fa) :
  Calls Tryz.prog 178 #[.pointer (some ⟨b, 0, none⟩)] w fun e w' => e = .returned (.bool true) ∧ w = w' := by
 obtain ⟨A, c, h1, _, _⟩ := h
 have h0 := ce1 h1
 have H := h_ h1
 clear h1
 have h1 := eqlPR ⟨b, 0, none⟩
 go_enter Tryz.func178, Tryz.ntmps178
 go_wp2; go_ret
 exact ⟨rfl, rfl⟩
theorem rreads_any (w : World) (b g : Nat) (xs : List UInt8) (p : Nat) (fe fa : Int) (h : Rdr w b g xs p fe fa) :
  Calls Tryz.prog 134 #[.pointer (some ⟨b, 0, none⟩)] w fun e w' => e = .returned (.bool (fe == 0)) ∧ w = w' := by
 obtain ⟨A, c, h1, _, _⟩ := id h
 have h0 := cell_of h1 3
 simp only [List.getElem?_toArray, List.getElem?_cons_zero, List.getElem?_cons_succ] at h0
 have H := h_ h1
 clear h1
 go_enter Tryz.func134, Tryz.ntmps134
 go_wp2_with (go_at_call 178; refine (rmade_yes _ b g xs p fe fa h).mono ?_; rintro r w' ⟨rfl, rfl⟩)
 go_ret
 exact ⟨rfl, rfl⟩
theorem rfault_any (w : World) (b g : Nat) (xs : List UInt8) (p : Nat) (fe fa : Int) (h : Rdr w b g xs p fe fa) :
  Calls Tryz.prog 137 #[.pointer (some ⟨b, 0, none⟩)] w fun e w' => e = .returned (.agg #[.int .i64 fe, .int .i64 fa]) ∧ Chg [] w w' := by
 obtain ⟨A, c, h1, _, _⟩ := id h
 have h0 := cell_of h1 3
 have h2 := cell_of h1 4
 simp only [List.getElem?_toArray, List.getElem?_cons_zero, List.getElem?_cons_succ] at h0 h2
 have hb := lt_of_heap h1
 have H := h_ h1
 clear h1
 have h' := h.chg ((Chg.refl [] w).alloc (.cells #[.int .i64 0, .int .i64 0] 85)) (by simp) (by simp)
 go_enter Tryz.func137, Tryz.ntmps137
 go_wp2_with (go_at_call 178; refine (rmade_yes _ b g xs p fe fa h').mono ?_; rintro r w' ⟨rfl, rfl⟩)
 refine bodyPost_ret (v := .agg #[.int .i64 fe, .int .i64 fa]) (by simp [results, Tryz.results137, go_sem]) rfl ?_
 exact ⟨rfl, (Chg.refl _ _).alloc _⟩

theorem rend_left (w : World) (b g : Nat) (xs : List UInt8) (p : Nat) (fa : Int) (h : Rdr w b g xs p 0 fa) (hp : p < xs.length) (_hx : xs.length ≤ 140737488351232) :
  Calls Tryz.prog 93 #[.pointer (some ⟨b, 0, none⟩)] w fun e w' => e = .returned (.agg #[.int .i64 4, .int .i64 p]) ∧ Chg [] w w' := by
 obtain ⟨A, c, h1, _, _⟩ := id h
 have h0 := cell_of h1 2
 have h2 := cell_of h1 1
 simp only [List.getElem?_toArray, List.getElem?_cons_zero, List.getElem?_cons_succ] at h0 h2
 have hb := lt_of_heap h1
 have H := h_ h1
 clear h1
 have h' := h.chg ((Chg.refl [] w).alloc (.cells #[.int .i64 0, .int .i64 0] 85)) (by simp) (by simp)
 go_enter Tryz.func93, Tryz.ntmps93
 go_wp2
 go_quiet ((go_at_call 134; exact Calls.quiet_of_same (flipw (rreads_any _ b g xs p 0 fa (h'.drewN _)))))
 go_wp2
 refine bodyPost_ret (v := .agg #[.int .i64 4, .int .i64 p]) (by simp [results, Tryz.results93, go_sem]) rfl ?_
 exact ⟨rfl, ((((Chg.refl _ _).alloc _).drewN _).setCell (.inr (Nat.le_refl _)) _).setCell (.inr (Nat.le_refl _)) _⟩
theorem rend_done (w : World) (b g : Nat) (xs : List UInt8) (p : Nat) (fe fa : Int) (h : Rdr w b g xs p fe fa) (hp : fe = 0 → p = xs.length) (_hx : xs.length ≤ 140737488351232) :
  Calls Tryz.prog 93 #[.pointer (some ⟨b, 0, none⟩)] w fun e w' => e = .returned (.agg #[.int .i64 fe, .int .i64 fa]) ∧ Chg [] w w' := by
 obtain ⟨A, c, h1, _, _⟩ := id h
 have h0 := cell_of h1 2
 have h2 := cell_of h1 1
 simp only [List.getElem?_toArray, List.getElem?_cons_zero, List.getElem?_cons_succ] at h0 h2
 have hb := lt_of_heap h1
 have H := h_ h1
 clear h1
 have hc := (Chg.refl [] w).alloc (.cells #[.int .i64 0, .int .i64 0] 85)
 have h' := h.chg hc (by simp) (by simp)
 have Hh := h_ h'
 by_cases he : fe = 0
 ·
  have hp' := hp he
  subst he hp'
  clear hp
  go_enter Tryz.func93, Tryz.ntmps93
  go_wp2
  go_quiet ((go_at_call 134; exact Calls.quiet_of_same (flipw (rreads_any _ b g xs xs.length 0 fa (Hh.out.drewN _)))))
  go_wp2_with (go_at_call 137; refine (rfault_any _ b g xs xs.length 0 fa (Hh.out.drewN _)).mono ?_; rintro r w1 ⟨rfl, hc1⟩; have q := hc1.at_ (heap_alloc_new w (.cells #[.int .i64 0, .int .i64 0] 85)) (by simp); have q0 := cell_of q 0; have q1 := cell_of q 1; have f0 := free_of q 0; have f1 := free_of q 1; simp only [List.getElem?_toArray, List.getElem?_cons_zero, List.getElem?_cons_succ] at q0 q1; have Q := h_ q; clear q; have C1 := h_ hc1; clear hc1)
  refine bodyPost_ret (v := .agg #[.int .i64 0, .int .i64 fa]) (by simp [results, Tryz.results93, go_sem, q0, q1]) rfl ?_
  exact ⟨rfl, (((hc.drewN nq).trans C1.out).setCell (.inr (Nat.le_refl _)) _).setCell (.inr (Nat.le_refl _)) _⟩
 ·
  have he' : (fe == 0) = false := by simpa using he
  clear hp
  have hr : ∀ n, Calls Tryz.prog 134 #[.pointer (some ⟨b, 0, none⟩)] ((w.alloc (.cells #[.int .i64 0, .int .i64 0] 85)).drewN n) fun e w' => e = .returned (.bool false) ∧ w' = ((w.alloc (.cells #[.int .i64 0, .int .i64 0] 85)).drewN n) := fun n => by
   have := flipw (rreads_any _ b g xs p fe fa (Hh.out.drewN n))
   rwa [he'] at this
  have Hr := h_ hr
  clear hr
  go_enter Tryz.func93, Tryz.ntmps93
  go_wp2
  go_quiet ((go_at_call 134; exact Calls.quiet_of_same (Hr.out _)))
  go_wp2_with (go_at_call 137; refine (rfault_any _ b g xs p fe fa (Hh.out.drewN _)).mono ?_; rintro r w1 ⟨rfl, hc1⟩; have q := hc1.at_ (heap_alloc_new w (.cells #[.int .i64 0, .int .i64 0] 85)) (by simp); have q0 := cell_of q 0; have q1 := cell_of q 1; have f0 := free_of q 0; have f1 := free_of q 1; simp only [List.getElem?_toArray, List.getElem?_cons_zero, List.getElem?_cons_succ] at q0 q1; have Q := h_ q; clear q; have C1 := h_ hc1; clear hc1)
  refine bodyPost_ret (v := .agg #[.int .i64 fe, .int .i64 fa]) (by simp [results, Tryz.results93, go_sem, q0, q1]) rfl ?_
  exact ⟨rfl, (((hc.drewN nq).trans C1.out).setCell (.inr (Nat.le_refl _)) _).setCell (.inr (Nat.le_refl _)) _⟩
end
section
open Go.RowKit

theorem wp_scope_fwd {P : Program} {a : Act} {w : World} {Q : Exit → Act → World → Prop} {c rest : Code} (l : Nat) (hf : findLabel c l = some rest)
  (first : c.wp P (Exit.jump l (fun a' w' => rest.wp P (Exit.jump l (fun _ _ => False) Q) a' w') Q) a w) : (Code.scope c).wp P Q a w := by
 refine wp_scope_jumps l _ (fun _ _ => 0) hf first ?_
 intro a w h b k cs
 obtain ⟨e, a', w', hq, harr⟩ := h b k cs
 refine ⟨e, a', w', ?_, harr⟩
 cases e with
 | goto l' => exact absurd hq.2 (by simp)
 | _ => exact hq

def val (l : List UInt8) : Nat := l.foldl (fun n x => n * 256 + x.toNat) 0

def Failed (w w' : World) (b g : Nat) (xs : List UInt8) (p : Nat) (fe fa : Int) : Prop := Rdr w' b g xs p fe fa ∧ Chg [b] w w'

theorem failed_of {w : World} {b g : Nat} {xs : List UInt8} {p : Nat} {A : Option Addr} {c : Nat} {fe0 fa0 : Int} (h1 : w.heap[b]? = some (.cells #[.pointer (some ⟨b, 0, none⟩), .slice A xs.length c, .int .i64 p, .int .i64 fe0, .int .i64 fa0] 158 (0, 0)))
  (h2 : OwnB w A c xs) (h3 : A = none ∧ g = b ∨ A = some ⟨g, 0, none⟩) (n m : Nat) (fe fa : Int) :
  Failed w ((((w.drewN n).setCell ⟨b, 3, none⟩ (.int .i64 fe)).setCell ⟨b, 4, none⟩ (.int .i64 fa)).drewN m) b g xs p fe fa := by
 have hne := h2.ne h1 (by decide)
 have q1 := heap_setCell_same (w.drewN n) b 3 _ _ (.int .i64 fe) h1
 have q2 := heap_setCell_same _ b 4 _ _ (.int .i64 fa) q1
 refine ⟨⟨A, c, by simpa using q2, h2.keep fun g o eA ho => ?_, h3⟩, ((((Chg.refl _ _).drewN _).setCell (by simp) _).setCell (by simp) _).drewN _⟩
 have hn := hne _ eA
 show (((w.drewN n).setCell ⟨b, 3, none⟩ (.int .i64 fe)).setCell ⟨b, 4, none⟩ (.int .i64 fa)).heap[g]? = _
 rw [Below.heap_setCell _ _ _ _ hn, Below.heap_setCell _ _ _ _ hn]; exact ho

theorem num_end (w : World) (b g : Nat) (xs : List UInt8) (fa low high : Int) (h : Rdr w b g xs xs.length 0 fa) :
  Calls Tryz.prog 135 #[.pointer (some ⟨b, 0, none⟩), .int .i64 low, .int .i64 high] w fun e w' => e = .returned (.tuple #[.int .i64 0, .int .i64 xs.length]) ∧ Failed w w' b g xs xs.length 4 xs.length := by
 obtain ⟨A, c, h1, h2, h3⟩ := h
 have k1 := cell_of h1 1
 have k2 := cell_of h1 2
 have k3 := cell_of h1 3
 have k4 := cell_of h1 4
 have f3 := free_of h1 3
 have f4 := free_of h1 4
 simp only [List.getElem?_toArray, List.getElem?_cons_zero, List.getElem?_cons_succ] at k1 k2 k3 k4
 have H := h_ h1
 have H3 := h_ h3
 clear h1 h3
 go_enter Tryz.func135, Tryz.ntmps135
 go_wp2
 refine wp_scope_fwd 0 rfl ?_
 go_wp2
 go_quiet (fail)
 go_wp2
 go_quiet (fail)
 go_wp2
 go_step3
 refine And.intro rfl ?_
 show Code.wp _ _ _ _ _
 go_wp2
 go_quiet (fail)
 go_wp2
 simp only [Exit.jump]
 go_ret2
 exact ⟨rfl, failed_of H.out h2 H3.out _ _ _ _⟩

theorem OwnB.at_ {w : World} {A : Option Addr} {c g : Nat} {xs : List UInt8} (h : OwnB w A c xs) {b p : Nat} (h3 : A = none ∧ g = b ∨ A = some ⟨g, 0, none⟩) {x : UInt8} (hx : xs[p]? = some x) : A = some ⟨g, 0, none⟩ ∧ w.cell? ⟨g, p, none⟩ = some (.int .u8 (x.toNat : Int)) := by
 obtain ⟨a, e, hc⟩ := h.reads.cells p x hx
 rcases h3 with ⟨h3, _⟩ | h3
 ·
  rw [h3] at e; cases e
 ·
  rw [h3] at e; cases e
  rw [add_zero_lit] at hc
  exact ⟨h3, hc⟩

theorem num_arg (w : World) (b g : Nat) (xs : List UInt8) (p : Nat) (fa low high : Int) (h : Rdr w b g xs p 0 fa) (x : UInt8) (hx : xs[p]? = some x) (h8 : 8 < (x.toNat : Int)) :
  Calls Tryz.prog 135 #[.pointer (some ⟨b, 0, none⟩), .int .i64 low, .int .i64 high] w fun e w' => e = .returned (.tuple #[.int .i64 0, .int .i64 p]) ∧ Failed w w' b g xs p 2 p := by
 obtain ⟨A, c, h1, h2, h3⟩ := h
 have hp : p < xs.length := (List.getElem?_eq_some_iff.1 hx).1
 have hne : ((p : Int) == xs.length) = false := by simp; omega
 obtain ⟨rfl, hc⟩ := h2.at_ h3 hx
 have k1 := cell_of h1 1
 have k2 := cell_of h1 2
 have k3 := cell_of h1 3
 have k4 := cell_of h1 4
 have f3 := free_of h1 3
 have f4 := free_of h1 4
 simp only [List.getElem?_toArray, List.getElem?_cons_zero, List.getElem?_cons_succ] at k1 k2 k3 k4
 have H := h_ h1
 have H3 := h_ h3
 have Hx := h_ hx
 clear h1 h3 hx
 go_enter Tryz.func135, Tryz.ntmps135
 go_wp2
 refine wp_scope_fwd 0 rfl ?_
 go_wp2
 iterate 4 (go_quiet (fail); go_wp2)
 go_step3
 refine And.intro rfl ?_
 show Code.wp _ _ _ _ _
 go_wp2
 go_quiet (fail)
 go_wp2
 simp only [Exit.jump]
 go_ret2
 exact ⟨rfl, failed_of H.out h2 (.inr rfl) _ _ _ _⟩

theorem num_short (w : World) (b g : Nat) (xs : List UInt8) (p : Nat) (fa low high : Int) (h : Rdr w b g xs p 0 fa) (hl : xs.length ≤ 140737488351232) (x : UInt8) (hx : xs[p]? = some x) (h8 : (x.toNat : Int) ≤ 8) (hs : xs.length - (p + 1) < x.toNat) :
  Calls Tryz.prog 135 #[.pointer (some ⟨b, 0, none⟩), .int .i64 low, .int .i64 high] w fun e w' => e = .returned (.tuple #[.int .i64 0, .int .i64 p]) ∧ Failed w w' b g xs p 4 xs.length := by
 obtain ⟨A, c, h1, h2, h3⟩ := h
 have hp : p < xs.length := (List.getElem?_eq_some_iff.1 hx).1
 have hcap := h2.cap
 unfold maxLen at hcap
 have hne : ((p : Int) == xs.length) = false := by simp; omega
 obtain ⟨rfl, hc⟩ := h2.at_ h3 hx
 have k1 := cell_of h1 1
 have k2 := cell_of h1 2
 have k3 := cell_of h1 3
 have k4 := cell_of h1 4
 have f3 := free_of h1 3
 have f4 := free_of h1 4
 simp only [List.getElem?_toArray, List.getElem?_cons_zero, List.getElem?_cons_succ] at k1 k2 k3 k4
 have H := h_ h1
 have Hx := h_ hx
 clear h1 h3 hx
 go_enter Tryz.func135, Tryz.ntmps135
 go_wp2
 refine wp_scope_fwd 0 rfl ?_
 go_wp2
 iterate 4 (go_quiet (fail); go_wp2)
 all_goals
  go_quiet (fail)
  go_wp2
  go_step3
  refine And.intro rfl ?_
  show Code.wp _ _ _ _ _
  go_wp2
  go_quiet (fail)
  go_wp2
  simp only [Exit.jump]
  go_ret2
  exact ⟨rfl, failed_of H.out h2 (.inr rfl) _ _ _ _⟩

theorem num_zero (w : World) (b g : Nat) (xs : List UInt8) (p : Nat) (fa low high : Int) (h : Rdr w b g xs p 0 fa) (hl : xs.length ≤ 140737488351232) (x : UInt8) (hx : xs[p]? = some x) (h8 : (x.toNat : Int) ≤ 8) (hs : x.toNat ≤ xs.length - (p + 1)) (h1 : 0 < x.toNat) (hz : xs[p + 1]? = some 0) :
  Calls Tryz.prog 135 #[.pointer (some ⟨b, 0, none⟩), .int .i64 low, .int .i64 high] w fun e w' => e = .returned (.tuple #[.int .i64 0, .int .i64 p]) ∧ Failed w w' b g xs p 2 p := by
 obtain ⟨A, c, h1, h2, h3⟩ := h
 have hp : p < xs.length := (List.getElem?_eq_some_iff.1 hx).1
 have hcap := h2.cap
 unfold maxLen at hcap
 have hne : ((p : Int) == xs.length) = false := by simp; omega
 have hcc : ¬ c = p + 1 := by omega
 obtain ⟨rfl, hc⟩ := h2.at_ h3 hx
 obtain ⟨_, hc2⟩ := h2.at_ h3 hz
 have k1 := cell_of h1 1
 have k2 := cell_of h1 2
 have k3 := cell_of h1 3
 have k4 := cell_of h1 4
 have f3 := free_of h1 3
 have f4 := free_of h1 4
 simp only [List.getElem?_toArray, List.getElem?_cons_zero, List.getElem?_cons_succ] at k1 k2 k3 k4
 have H := h_ h1
 have Hx := h_ hx
 have Hz := h_ hz
 clear h1 h3 hx hz
 go_enter Tryz.func135, Tryz.ntmps135
 go_wp2
 refine wp_scope_fwd 0 rfl ?_
 go_wp2
 iterate 7 (go_quiet (fail); go_wp2)
 go_step3
 refine And.intro rfl ?_
 show Code.wp _ _ _ _ _
 go_wp2
 go_quiet (fail)
 go_wp2
 simp only [Exit.jump]
 go_ret2
 exact ⟨rfl, failed_of H.out h2 (.inr rfl) _ _ _ _⟩
end
section
open Go.RowKit

theorem num_none (w : World) (b g : Nat) (xs : List UInt8) (p : Nat) (fa low high : Int) (h : Rdr w b g xs p 0 fa) (hl : xs.length ≤ 140737488351232) (x : UInt8) (hx : xs[p]? = some x) (h0 : x.toNat = 0) (hr : low ≤ 0) (hr2 : 0 ≤ high) :
  Calls Tryz.prog 135 #[.pointer (some ⟨b, 0, none⟩), .int .i64 low, .int .i64 high] w fun e w' => e = .returned (.tuple #[.int .i64 0, .int .i64 ((p : Int) + 1)]) ∧ Chg [] w w' := by
 obtain ⟨A, c, h1, h2, h3⟩ := h
 have hp : p < xs.length := (List.getElem?_eq_some_iff.1 hx).1
 have hcap := h2.cap
 unfold maxLen at hcap
 have hne : ((p : Int) == xs.length) = false := by simp; omega
 obtain ⟨rfl, hc⟩ := h2.at_ h3 hx
 rw [h0] at hc
 have k1 := cell_of h1 1
 have k2 := cell_of h1 2
 simp only [List.getElem?_toArray, List.getElem?_cons_zero, List.getElem?_cons_succ] at k1 k2
 have H := h_ h1
 have Hx := h_ hx
 have H0 := h_ h0
 clear h1 h3 hx h0
 go_enter Tryz.func135, Tryz.ntmps135
 go_wp2
 refine wp_scope_fwd 0 rfl ?_
 go_wp2
 iterate 4 (go_quiet (fail); go_wp2)
 all_goals
  iterate 2 (go_quiet (fail); go_wp2)
  refine wp_loop_rounds 1 ?_
  rw [rounds_succ]
  go_wp2
  go_quiet (fail)
  go_wp2
  simp only [Exit.jump]
  go_ret2
  exact ⟨rfl, ((Chg.refl _ _).drewN _).drewN _⟩

theorem num_none_out (w : World) (b g : Nat) (xs : List UInt8) (p : Nat) (fa low high : Int) (h : Rdr w b g xs p 0 fa) (x : UInt8) (hx : xs[p]? = some x) (h0 : x.toNat = 0) (hr : 0 < low ∨ low ≤ 0 ∧ high < 0) :
  Calls Tryz.prog 135 #[.pointer (some ⟨b, 0, none⟩), .int .i64 low, .int .i64 high] w fun e w' => e = .returned (.tuple #[.int .i64 0, .int .i64 p]) ∧ Failed w w' b g xs p 5 p := by
 obtain ⟨A, c, h1, h2, h3⟩ := h
 have hp : p < xs.length := (List.getElem?_eq_some_iff.1 hx).1
 have hcap := h2.cap
 unfold maxLen at hcap
 have hne : ((p : Int) == xs.length) = false := by simp; omega
 obtain ⟨rfl, hc⟩ := h2.at_ h3 hx
 rw [h0] at hc
 have k1 := cell_of h1 1
 have k2 := cell_of h1 2
 have k3 := cell_of h1 3
 have k4 := cell_of h1 4
 have f3 := free_of h1 3
 have f4 := free_of h1 4
 simp only [List.getElem?_toArray, List.getElem?_cons_zero, List.getElem?_cons_succ] at k1 k2 k3 k4
 have H := h_ h1
 have Hx := h_ hx
 have H0 := h_ h0
 clear h1 h3 hx h0
 rcases hr with hr | ⟨hr, hr2⟩
 all_goals
  go_enter Tryz.func135, Tryz.ntmps135
  go_wp2
  refine wp_scope_fwd 0 rfl ?_
  go_wp2
  iterate 4 (go_quiet (fail); go_wp2)
  all_goals
   iterate 2 (go_quiet (fail); go_wp2)
   refine wp_loop_rounds 1 ?_
   rw [rounds_succ]
   go_wp2
   go_quiet (fail)
   go_wp2
   go_step3
   refine And.intro rfl ?_
   show Code.wp _ _ _ _ _
   go_wp2
   go_quiet (fail)
   go_wp2
   simp only [Exit.jump]
   go_ret2
   exact ⟨rfl, failed_of H.out h2 (.inr rfl) _ _ _ _⟩
end
section
open Go.RowKit

theorem val_snoc (l : List UInt8) (c : UInt8) : val (l ++ [c]) = val l * 256 + c.toNat := by simp [val, List.foldl_append]
theorem val_nil : val [] = 0 := rfl
theorem val_lt : ∀ (k : Nat) (l : List UInt8), l.length = k → val l < 256 ^ k
 | 0, l, h => by
  have : l = [] := List.eq_nil_of_length_eq_zero h
  subst this; decide
 | k + 1, l, h => by
  obtain ⟨c, hc⟩ : ∃ c, l = l.take k ++ [c] := ⟨l[k]'(by omega), by rw [List.take_append_getElem]; exact (List.take_of_length_le (by omega)).symm⟩
  have hk := val_lt k (l.take k) (by simp; omega)
  have hb := c.toNat_lt
  rw [hc, val_snoc, Nat.pow_succ]
  omega
theorem take_more (l : List UInt8) (j : Nat) (h : j < l.length) : l.take (j + 1) = l.take j ++ [l.getD j 0] := by
 rw [List.take_succ_eq_append_getElem h]
 simp [List.getD, h]

def dv (xs : List UInt8) (p j : Nat) : Nat := val ((xs.drop (p + 1)).take j)
theorem dv_zero (xs : List UInt8) (p : Nat) : dv xs p 0 = 0 := by simp [dv, val_nil]
def bt (xs : List UInt8) (j : Nat) : Nat := (xs.getD j 0).toNat
theorem bt_lt (xs : List UInt8) (j : Nat) : bt xs j < 256 := (xs.getD j 0).toNat_lt
theorem dv_succ (xs : List UInt8) (p j : Nat) (h : p + 1 + j < xs.length) : dv xs p (j + 1) = dv xs p j * 256 + bt xs (p + 1 + j) := by
 unfold dv bt
 rw [take_more _ _ (by simp; omega), val_snoc]
 congr 2
 simp [List.getD, List.getElem?_drop]
theorem dv_lt (xs : List UInt8) (p j : Nat) (h : p + 1 + j ≤ xs.length) : dv xs p j < 256 ^ j := val_lt j _ (by simp; omega)
theorem dv_lt8 (xs : List UInt8) (p j : Nat) (h : p + 1 + j ≤ xs.length) (hj : j ≤ 8) : dv xs p j ≤ 18446744073709551615 := by
 have h1 := dv_lt xs p j h
 have h2 : 256 ^ j ≤ 256 ^ 8 := Nat.pow_le_pow_right (by omega) hj
 have h3 : 256 ^ 8 = 18446744073709551616 := by decide
 omega

theorem or_join (a b : Nat) (h : a * 256 + b ≤ 18446744073709551615) (hb : b < 256) : bits .or .u64 ((a : Int) * 256) (b : Int) = ((a * 256 + b : Nat) : Int) := by
 rw [show (a : Int) * 256 = ((a * 256 : Nat) : Int) by omega, u64_or_nat _ _ (by omega) (by omega), nat_join 8 _ _ (by omega) (by omega)]

theorem num_digits (w : World) (b g : Nat) (xs : List UInt8) (p : Nat) (fa low high : Int) (h : Rdr w b g xs p 0 fa) (hl : xs.length ≤ 140737488351232) (x : UInt8) (hx : xs[p]? = some x) (h8 : (x.toNat : Int) ≤ 8) (hs : x.toNat ≤ xs.length - (p + 1)) (h0 : 0 < x.toNat) (hz : bt xs (p + 1) ≠ 0)
  (hv : dv xs p x.toNat ≤ 4611686018427387903) (hr : low ≤ dv xs p x.toNat) (hr2 : dv xs p x.toNat ≤ high) :
  Calls Tryz.prog 135 #[.pointer (some ⟨b, 0, none⟩), .int .i64 low, .int .i64 high] w fun e w' => e = .returned (.tuple #[.int .i64 (dv xs p x.toNat), .int .i64 ((p : Int) + 1 + x.toNat)]) ∧ Chg [] w w' := by
 obtain ⟨A, c, h1, h2, h3⟩ := h
 have hp : p < xs.length := (List.getElem?_eq_some_iff.1 hx).1
 have hcap := h2.cap
 unfold maxLen at hcap
 have hne : ((p : Int) == xs.length) = false := by simp; omega
 have hcc : ¬ c = p + 1 := by omega
 obtain ⟨rfl, hc⟩ := h2.at_ h3 hx
 have hcell : ∀ j, p + 1 + j < xs.length → w.cell? ⟨g, p + 1 + j, none⟩ = some (.int .u8 (bt xs (p + 1 + j) : Int)) := fun j hj => by
  have e : xs[p + 1 + j]? = some (xs.getD (p + 1 + j) 0) := by simp [List.getD, hj]
  exact (h2.at_ h3 e).2
 have hc2 := hcell 0 (by omega)
 rw [Nat.add_zero] at hc2
 have hz0 : ((bt xs (p + 1) : Int) == 0) = false := by simp only [beq_eq_false_iff_ne, ne_eq]; omega
 have k1 := cell_of h1 1
 have k2 := cell_of h1 2
 simp only [List.getElem?_toArray, List.getElem?_cons_zero, List.getElem?_cons_succ] at k1 k2
 have H := h_ h1
 have Hx := h_ hx
 have Hc := h_ hcell
 clear h1 h3 hx hz hcell
 go_enter Tryz.func135, Tryz.ntmps135
 go_wp2
 refine wp_scope_fwd 0 rfl ?_
 go_wp2
 iterate 6 (go_quiet (fail); go_wp2)
 clear hc2 hz0
 go_loop [8, 95] (fun n i => ∃ j : Nat, j ≤ x.toNat ∧ i = .int .i64 j ∧ n = .int .u64 (dv xs p j)) (fun _ i => x.toNat - (intOf i).toNat)
 case atStart => exact ⟨0, by omega, rfl, by rw [dv_zero]; rfl⟩
 case round =>
  obtain ⟨j, hj, rfl, rfl⟩ := hrel
  by_cases hlt : j < x.toNat
  ·
   have hcj := Hc.out j (by omega)
   have hbj := dv_lt8 xs p (j + 1) (by omega) (by omega)
   rw [dv_succ xs p j (by omega)] at hbj
   have hbb := bt_lt xs (p + 1 + j)
   go_wp2; go_round
   case rel => exact ⟨j + 1, by omega, by go_num, by rw [or_join _ _ hbj hbb, ← dv_succ xs p j (by omega)]⟩
   case measure => simp [intOf]; omega
  ·
   obtain rfl : j = x.toNat := by omega
   go_wp2
   go_quiet (fail)
   go_wp2
   simp only [Exit.jump]
   go_ret2
   exact ⟨rfl, ((Chg.refl _ _).drewN _).drewN _⟩
theorem num_digits_out (w : World) (b g : Nat) (xs : List UInt8) (p : Nat) (fa low high : Int) (h : Rdr w b g xs p 0 fa) (hl : xs.length ≤ 140737488351232) (x : UInt8) (hx : xs[p]? = some x) (h8 : (x.toNat : Int) ≤ 8) (hs : x.toNat ≤ xs.length - (p + 1)) (h0 : 0 < x.toNat) (hz : bt xs (p + 1) ≠ 0)
  (hv : 4611686018427387903 < dv xs p x.toNat ∨ dv xs p x.toNat ≤ 4611686018427387903 ∧ (dv xs p x.toNat : Int) < low ∨ dv xs p x.toNat ≤ 4611686018427387903 ∧ low ≤ dv xs p x.toNat ∧ high < dv xs p x.toNat) :
  Calls Tryz.prog 135 #[.pointer (some ⟨b, 0, none⟩), .int .i64 low, .int .i64 high] w fun e w' => e = .returned (.tuple #[.int .i64 0, .int .i64 p]) ∧ Failed w w' b g xs p 5 p := by
 obtain ⟨A, c, h1, h2, h3⟩ := h
 have hp : p < xs.length := (List.getElem?_eq_some_iff.1 hx).1
 have hcap := h2.cap
 unfold maxLen at hcap
 have hne : ((p : Int) == xs.length) = false := by simp; omega
 have hcc : ¬ c = p + 1 := by omega
 obtain ⟨rfl, hc⟩ := h2.at_ h3 hx
 have hcell : ∀ j, p + 1 + j < xs.length → w.cell? ⟨g, p + 1 + j, none⟩ = some (.int .u8 (bt xs (p + 1 + j) : Int)) := fun j hj => by
  have e : xs[p + 1 + j]? = some (xs.getD (p + 1 + j) 0) := by simp [List.getD, hj]
  exact (h2.at_ h3 e).2
 have hc2 := hcell 0 (by omega)
 rw [Nat.add_zero] at hc2
 have hz0 : ((bt xs (p + 1) : Int) == 0) = false := by simp only [beq_eq_false_iff_ne, ne_eq]; omega
 have k1 := cell_of h1 1
 have k2 := cell_of h1 2
 have k3 := cell_of h1 3
 have k4 := cell_of h1 4
 have f3 := free_of h1 3
 have f4 := free_of h1 4
 simp only [List.getElem?_toArray, List.getElem?_cons_zero, List.getElem?_cons_succ] at k1 k2 k3 k4
 have H := h_ h1
 have Hx := h_ hx
 have Hc := h_ hcell
 clear h1 h3 hx hz hcell
 go_enter Tryz.func135, Tryz.ntmps135
 go_wp2
 refine wp_scope_fwd 0 rfl ?_
 go_wp2
 iterate 6 (go_quiet (fail); go_wp2)
 clear hc2 hz0
 go_loop [8, 95] (fun n i => ∃ j : Nat, j ≤ x.toNat ∧ i = .int .i64 j ∧ n = .int .u64 (dv xs p j)) (fun _ i => x.toNat - (intOf i).toNat)
 case atStart => exact ⟨0, by omega, rfl, by rw [dv_zero]; rfl⟩
 case round =>
  obtain ⟨j, hj, rfl, rfl⟩ := hrel
  by_cases hlt : j < x.toNat
  ·
   have hcj := Hc.out j (by omega)
   have hbj := dv_lt8 xs p (j + 1) (by omega) (by omega)
   rw [dv_succ xs p j (by omega)] at hbj
   have hbb := bt_lt xs (p + 1 + j)
   go_wp2; go_round
   case rel => exact ⟨j + 1, by omega, by go_num, by rw [or_join _ _ hbj hbb, ← dv_succ xs p j (by omega)]⟩
   case measure => simp [intOf]; omega
  ·
   obtain rfl : j = x.toNat := by omega
   rcases hv with hv | ⟨hv, hv2⟩ | ⟨hv, hv2, hv3⟩
   all_goals
    go_wp2
    go_quiet (fail)
    go_wp2
    go_step3
    refine And.intro rfl ?_
    show Code.wp _ _ _ _ _
    go_wp2
    go_quiet (fail)
    go_wp2
    simp only [Exit.jump]
    go_ret2
    exact ⟨rfl, failed_of H.out h2 (.inr rfl) _ _ _ _⟩
end
section
open Go.RowKit

def numAt (xs : List UInt8) (p : Nat) (low high : Int) : Except (Nat × Nat) (Nat × Nat) :=
 if p = xs.length then .error (4, xs.length)
 else if 8 < bt xs p then .error (2, p)
 else if xs.length - (p + 1) < bt xs p then .error (4, xs.length)
 else if 0 < bt xs p ∧ bt xs (p + 1) = 0 then .error (2, p)
 else if 4611686018427387903 < dv xs p (bt xs p) ∨ (dv xs p (bt xs p) : Int) < low ∨ high < (dv xs p (bt xs p) : Int) then .error (5, p)
 else .ok (dv xs p (bt xs p), p + 1 + bt xs p)

def NumPost (w : World) (b g : Nat) (xs : List UInt8) (p : Nat) (low high : Int) (e : Ending) (w' : World) : Prop :=
 (∀ f q, numAt xs p low high = .error (f, q) → e = .returned (.tuple #[.int .i64 0, .int .i64 p]) ∧ Failed w w' b g xs p f q) ∧
 (∀ v q, numAt xs p low high = .ok (v, q) → e = .returned (.tuple #[.int .i64 v, .int .i64 q]) ∧ Chg [] w w')

theorem post_err {w w' : World} {b g : Nat} {xs : List UInt8} {p : Nat} {low high : Int} {e : Ending} {f q : Nat} (h : numAt xs p low high = .error (f, q)) (he : e = .returned (.tuple #[.int .i64 0, .int .i64 p]) ∧ Failed w w' b g xs p f q) : NumPost w b g xs p low high e w' :=
 ⟨fun f' q' h' => (by rw [h] at h'; cases h'; exact he), fun v q' h' => (by rw [h] at h'; cases h')⟩
theorem post_ok {w w' : World} {b g : Nat} {xs : List UInt8} {p : Nat} {low high : Int} {e : Ending} {v q : Nat} (h : numAt xs p low high = .ok (v, q)) (he : e = .returned (.tuple #[.int .i64 v, .int .i64 q]) ∧ Chg [] w w') : NumPost w b g xs p low high e w' :=
 ⟨fun f' q' h' => (by rw [h] at h'; cases h'), fun v' q' h' => (by rw [h] at h'; cases h'; exact he)⟩

theorem rnumber_any (w : World) (b g : Nat) (xs : List UInt8) (p : Nat) (fa low high : Int) (h : Rdr w b g xs p 0 fa) (hp : p ≤ xs.length) (hl : xs.length ≤ 140737488351232) :
  Calls Tryz.prog 135 #[.pointer (some ⟨b, 0, none⟩), .int .i64 low, .int .i64 high] w (NumPost w b g xs p low high) := by
 by_cases h1 : p = xs.length
 ·
  subst h1
  refine (num_end w b g xs fa low high h).mono fun e w' he => post_err (f := 4) (q := xs.length) ?_ he
  simp only [numAt, if_pos]
 obtain ⟨x, hx⟩ : ∃ x, xs[p]? = some x := ⟨xs[p]'(by omega), List.getElem?_eq_getElem (by omega)⟩
 have hb : bt xs p = x.toNat := by simp [bt, List.getD, hx]
 by_cases h2 : 8 < bt xs p
 ·
  refine (num_arg w b g xs p fa low high h x hx (by omega)).mono fun e w' he => post_err (f := 2) (q := p) ?_ he
  simp only [numAt, if_neg h1, if_pos h2]
 by_cases h3 : xs.length - (p + 1) < bt xs p
 ·
  refine (num_short w b g xs p fa low high h hl x hx (by omega) (by omega)).mono fun e w' he => post_err (f := 4) (q := xs.length) ?_ he
  simp only [numAt, if_neg h1, if_neg h2, if_pos h3]
 by_cases h4 : 0 < bt xs p ∧ bt xs (p + 1) = 0
 ·
  have hz : xs[p + 1]? = some 0 := by
   have hlt : p + 1 < xs.length := by omega
   rw [List.getElem?_eq_getElem hlt]
   have := h4.2
   simp only [bt, List.getD, List.getElem?_eq_getElem hlt, Option.getD_some] at this
   congr 1
   exact UInt8.toNat_inj.1 this
  refine (num_zero w b g xs p fa low high h hl x hx (by omega) (by omega) (by omega) hz).mono fun e w' he => post_err (f := 2) (q := p) ?_ he
  simp only [numAt, if_neg h1, if_neg h2, if_neg h3, if_pos h4]
 by_cases h5 : 4611686018427387903 < dv xs p (bt xs p) ∨ (dv xs p (bt xs p) : Int) < low ∨ high < (dv xs p (bt xs p) : Int)
 ·
  have hn : numAt xs p low high = .error (5, p) := by simp only [numAt, if_neg h1, if_neg h2, if_neg h3, if_neg h4, if_pos h5]
  by_cases h6 : bt xs p = 0
  ·
   rw [h6, dv_zero] at h5
   exact (num_none_out w b g xs p fa low high h x hx (by omega) (by omega)).mono fun e w' he => post_err hn he
  ·
   rw [hb] at h5
   exact (num_digits_out w b g xs p fa low high h hl x hx (by omega) (by omega) (by omega) (by omega) (by omega)).mono fun e w' he => post_err hn he
 ·
  have hn : numAt xs p low high = .ok (dv xs p (bt xs p), p + 1 + bt xs p) := by simp only [numAt, if_neg h1, if_neg h2, if_neg h3, if_neg h4, if_neg h5]
  by_cases h6 : bt xs p = 0
  ·
   rw [h6, dv_zero] at h5 hn
   exact (num_none w b g xs p fa low high h hl x hx (by omega) (by omega) (by omega)).mono fun e w' he => post_ok hn (by simpa using he)
  ·
   rw [hb] at h5 hn
   exact (num_digits w b g xs p fa low high h hl x hx (by omega) (by omega) (by omega) (by omega) (by omega) (by omega) (by omega)).mono fun e w' he => post_ok hn (by simpa using he)

theorem numAt_ok {xs : List UInt8} {p : Nat} {low high : Int} {v q : Nat} (h : numAt xs p low high = .ok (v, q)) (hp : p ≤ xs.length) : q ≤ xs.length ∧ p < q ∧ v ≤ 4611686018427387903 ∧ low ≤ v ∧ v ≤ high := by
 unfold numAt at h
 repeat (split at h; · cases h)
 cases h
 omega

theorem numAt_err {xs : List UInt8} {p : Nat} {low high : Int} {f q : Nat} (h : numAt xs p low high = .error (f, q)) : f ≠ 0 := by
 unfold numAt at h
 repeat (split at h; · (cases h; decide))
 cases h

def rNum (xs : List UInt8) (p : Nat) (fe fa : Int) (low high : Int) : Int × Nat × Int × Int :=
 if fe ≠ 0 then (0, p, fe, fa) else match numAt xs p low high with
  | .error (f, q) => (0, p, (f : Int), (q : Int))
  | .ok (v, q) => ((v : Int), q, 0, fa)

theorem Rdr.place {w : World} {b g : Nat} {xs : List UInt8} {p q : Nat} {fe fa : Int} (h : Rdr w b g xs p fe fa) : Rdr (w.setCell ⟨b, 2, none⟩ (.int .i64 q)) b g xs q fe fa ∧ Chg [b] w (w.setCell ⟨b, 2, none⟩ (.int .i64 q)) := by
 obtain ⟨A, c, h1, h2, h3⟩ := h
 have hne := h2.ne h1 (by decide)
 have q1 := heap_setCell_same w b 2 _ _ (.int .i64 q) h1
 refine ⟨⟨A, c, by simpa using q1, h2.keep fun g o eA ho => ?_, h3⟩, (Chg.refl _ _).setCell (by simp) _⟩
 rw [Below.heap_setCell _ _ _ _ (hne _ eA)]; exact ho

theorem rreads_yes (w : World) (b g : Nat) (xs : List UInt8) (p : Nat) (fa : Int) (h : Rdr w b g xs p 0 fa) :
 Calls Tryz.prog 134 #[.pointer (some ⟨b, 0, none⟩)] w fun e w' => e = .returned (.bool true) ∧ w = w' := rreads_any w b g xs p 0 fa h
theorem rreads_no (w : World) (b g : Nat) (xs : List UInt8) (p : Nat) (fe fa : Int) (h : Rdr w b g xs p fe fa) (he : fe ≠ 0) :
  Calls Tryz.prog 134 #[.pointer (some ⟨b, 0, none⟩)] w fun e w' => e = .returned (.bool false) ∧ w = w' := by
 have := rreads_any w b g xs p fe fa h
 rwa [show (fe == 0) = false by simpa using he] at this

theorem rnum_no (w : World) (b g : Nat) (xs : List UInt8) (p : Nat) (fe fa low high : Int) (h : Rdr w b g xs p fe fa) (he : fe ≠ 0) :
  Calls Tryz.prog 91 #[.pointer (some ⟨b, 0, none⟩), .int .i64 low, .int .i64 high] w fun e w' => e = .returned (.int .i64 0) ∧ w = w' := by
 have H := h_ he
 clear he
 go_enter Tryz.func91, Tryz.ntmps91
 go_wp2_with (go_at_call 134; refine (rreads_no _ b g xs p fe fa h H.out).mono ?_; rintro r w' ⟨rfl, rfl⟩)
 go_ret
 exact ⟨rfl, rfl⟩

theorem rnum_err (w : World) (b g : Nat) (xs : List UInt8) (p : Nat) (fa low high : Int) (h : Rdr w b g xs p 0 fa) (hp : p ≤ xs.length) (hl : xs.length ≤ 140737488351232) (f q : Nat) (hn : numAt xs p low high = .error (f, q)) :
  Calls Tryz.prog 91 #[.pointer (some ⟨b, 0, none⟩), .int .i64 low, .int .i64 high] w fun e w' => e = .returned (.int .i64 0) ∧ Failed w w' b g xs p f q := by
 have H := h_ hn
 clear hn
 go_enter Tryz.func91, Tryz.ntmps91
 go_wp2_with (first
  | (go_at_call 134; refine (rreads_yes _ b g xs p fa h).mono ?_; rintro r w' ⟨rfl, rfl⟩)
  | (go_at_call 135; refine (rnumber_any _ b g xs p fa low high h hp hl).mono ?_; rintro r w1 hpost; obtain ⟨rfl, hf⟩ := hpost.1 _ _ H.out; clear hpost; obtain ⟨A1, c1, i1, i2, i3⟩ := id hf.1; have k2 := cell_of i1 2; have k3 := free_of i1 2; simp only [List.getElem?_toArray, List.getElem?_cons_zero, List.getElem?_cons_succ] at k2; have HF := h_ hf; have I3 := h_ i3; have I1 := h_ i1; clear hf i1 i3))
 go_ret
 have hp2 := (HF.out.1.place (q := p))
 exact ⟨rfl, hp2.1, HF.out.2.trans hp2.2⟩

theorem rnum_ok (w : World) (b g : Nat) (xs : List UInt8) (p : Nat) (fa low high : Int) (h : Rdr w b g xs p 0 fa) (hp : p ≤ xs.length) (hl : xs.length ≤ 140737488351232) (v q : Nat) (hn : numAt xs p low high = .ok (v, q)) :
  Calls Tryz.prog 91 #[.pointer (some ⟨b, 0, none⟩), .int .i64 low, .int .i64 high] w fun e w' => e = .returned (.int .i64 v) ∧ Rdr w' b g xs q 0 fa ∧ Chg [b] w w' := by
 have H := h_ hn
 clear hn
 go_enter Tryz.func91, Tryz.ntmps91
 go_wp2_with (first
  | (go_at_call 134; refine (rreads_yes _ b g xs p fa h).mono ?_; rintro r w' ⟨rfl, rfl⟩)
  | (go_at_call 135; refine (rnumber_any _ b g xs p fa low high h hp hl).mono ?_; rintro r w1 hpost; obtain ⟨rfl, hf⟩ := hpost.2 _ _ H.out; clear hpost; have hr1 := h.chg hf (by simp) (by simp); obtain ⟨A1, c1, i1, i2, i3⟩ := id hr1; have k2 := cell_of i1 2; have k3 := free_of i1 2; simp only [List.getElem?_toArray, List.getElem?_cons_zero, List.getElem?_cons_succ] at k2; have HF := h_ hf; have I3 := h_ i3; have I1 := h_ i1; clear hf i1 i3))
 go_ret
 have hp2 := hr1.place (q := q)
 exact ⟨rfl, hp2.1, (HF.out.mono (by simp)).trans hp2.2⟩

theorem rnum_any (w : World) (b g : Nat) (xs : List UInt8) (p : Nat) (fe fa low high : Int) (h : Rdr w b g xs p fe fa) (hp : p ≤ xs.length) (hl : xs.length ≤ 140737488351232) :
  Calls Tryz.prog 91 #[.pointer (some ⟨b, 0, none⟩), .int .i64 low, .int .i64 high] w fun e w' => e = .returned (.int .i64 (rNum xs p fe fa low high).1) ∧ Rdr w' b g xs (rNum xs p fe fa low high).2.1 (rNum xs p fe fa low high).2.2.1 (rNum xs p fe fa low high).2.2.2 ∧ Chg [b] w w' := by
 unfold rNum
 by_cases he : fe = 0
 ·
  subst he
  simp only [ne_eq, not_true_eq_false, if_false]
  cases hn : numAt xs p low high with
  | error x => obtain ⟨f, q⟩ := x; exact (rnum_err w b g xs p fa low high h hp hl f q hn).mono fun e w' he => ⟨he.1, he.2.1, he.2.2⟩
  | ok x => obtain ⟨v, q⟩ := x; exact rnum_ok w b g xs p fa low high h hp hl v q hn
 ·
  simp only [ne_eq, he, not_false_eq_true, if_true]
  exact (rnum_no w b g xs p fe fa low high h he).mono fun e w' ⟨h1, h2⟩ => ⟨h1, h2 ▸ h, h2 ▸ Chg.refl _ _⟩
end
section
open Go.RowKit

theorem piece_no (w : World) (b g : Nat) (xs : List UInt8) (p : Nat) (fe fa most : Int) (h : Rdr w b g xs p fe fa) (he : fe ≠ 0) :
  Calls Tryz.prog 136 #[.pointer (some ⟨b, 0, none⟩), .int .i64 most] w fun e w' => e = .returned (.slice none 0 0) ∧ w = w' := by
 have H := h_ he
 clear he
 go_enter Tryz.func136, Tryz.ntmps136
 go_wp2
 refine wp_scope_fwd 0 rfl ?_
 go_wp2_with (go_at_call 134; refine (rreads_no _ b g xs p fe fa h H.out).mono ?_; rintro r w' ⟨rfl, rfl⟩)
 simp only [Exit.jump]
 go_ret
 exact ⟨rfl, rfl⟩

theorem piece_err (w : World) (b g : Nat) (xs : List UInt8) (p : Nat) (fa most : Int) (h : Rdr w b g xs p 0 fa) (hp : p ≤ xs.length) (hl : xs.length ≤ 140737488351232) (f q : Nat) (hn : numAt xs p 0 4611686018427387903 = .error (f, q)) :
  Calls Tryz.prog 136 #[.pointer (some ⟨b, 0, none⟩), .int .i64 most] w fun e w' => e = .returned (.slice none 0 0) ∧ Failed w w' b g xs p f q := by
 have H := h_ hn
 have hf0 : ((f : Int) != 0) = true := by have := numAt_err hn; simp; omega
 clear hn
 go_enter Tryz.func136, Tryz.ntmps136
 go_wp2
 refine wp_scope_fwd 0 rfl ?_
 go_wp2_with (first
  | (go_at_call 134; refine (rreads_yes _ b g xs p fa h).mono ?_; rintro r w' ⟨rfl, rfl⟩)
  | (go_at_call 135; refine (rnumber_any _ b g xs p fa _ _ h hp hl).mono ?_; rintro r w1 hpost; obtain ⟨rfl, hf⟩ := hpost.1 _ _ H.out; clear hpost; obtain ⟨A1, c1, i1, i2, i3⟩ := id hf.1; have k2 := cell_of i1 3; simp only [List.getElem?_toArray, List.getElem?_cons_zero, List.getElem?_cons_succ] at k2; have HF := h_ hf; have I3 := h_ i3; have I1 := h_ i1; clear hf i1 i3))
 simp only [Exit.jump]
 go_ret
 exact ⟨rfl, HF.out⟩

theorem failed_after {w w1 : World} {b g : Nat} {xs : List UInt8} {p : Nat} {A : Option Addr} {c : Nat} {fe0 fa0 : Int} (hc : Chg [] w w1) (h1 : w1.heap[b]? = some (.cells #[.pointer (some ⟨b, 0, none⟩), .slice A xs.length c, .int .i64 p, .int .i64 fe0, .int .i64 fa0] 158 (0, 0)))
  (h2 : OwnB w1 A c xs) (h3 : A = none ∧ g = b ∨ A = some ⟨g, 0, none⟩) (n m : Nat) (fe fa : Int) :
  Failed w ((((w1.drewN n).setCell ⟨b, 3, none⟩ (.int .i64 fe)).setCell ⟨b, 4, none⟩ (.int .i64 fa)).drewN m) b g xs p fe fa := by
 have := failed_of h1 h2 h3 n m fe fa
 exact ⟨this.1, (hc.mono (by simp)).trans this.2⟩

theorem piece_long (w : World) (b g : Nat) (xs : List UInt8) (p : Nat) (fa most : Int) (h : Rdr w b g xs p 0 fa) (hp : p ≤ xs.length) (hl : xs.length ≤ 140737488351232) (n q : Nat) (hn : numAt xs p 0 4611686018427387903 = .ok (n, q)) (hm : most < n) :
  Calls Tryz.prog 136 #[.pointer (some ⟨b, 0, none⟩), .int .i64 most] w fun e w' => e = .returned (.slice none 0 0) ∧ Failed w w' b g xs p 3 p := by
 have hb := numAt_ok hn hp
 have H := h_ hn
 clear hn
 go_enter Tryz.func136, Tryz.ntmps136
 go_wp2
 refine wp_scope_fwd 0 rfl ?_
 go_wp2_with (first
  | (go_at_call 134; refine (rreads_yes _ b g xs p fa h).mono ?_; rintro r w' ⟨rfl, rfl⟩)
  | (go_at_call 135; refine (rnumber_any _ b g xs p fa _ _ h hp hl).mono ?_; rintro r w1 hpost; obtain ⟨rfl, hf⟩ := hpost.2 _ _ H.out; clear hpost; have hr1 := h.chg hf (by simp) (by simp); obtain ⟨A1, c1, i1, i2, i3⟩ := id hr1; have k1 := cell_of i1 1; have k2 := cell_of i1 2; have k3 := cell_of i1 3; have k4 := cell_of i1 4; have f3 := free_of i1 3; have f4 := free_of i1 4; simp only [List.getElem?_toArray, List.getElem?_cons_zero, List.getElem?_cons_succ] at k1 k2 k3 k4; have HF := h_ hf; have I3 := h_ i3; have I1 := h_ i1; clear hf i1 i3))
 go_step3
 refine And.intro rfl ?_
 show Code.wp _ _ _ _ _
 go_wp2
 simp only [Exit.jump]
 go_ret
 exact ⟨rfl, failed_after HF.out I1.out i2 I3.out 0 0 _ _⟩
theorem piece_end (w : World) (b g : Nat) (xs : List UInt8) (p : Nat) (fa most : Int) (h : Rdr w b g xs p 0 fa) (hp : p ≤ xs.length) (hl : xs.length ≤ 140737488351232) (n q : Nat) (hn : numAt xs p 0 4611686018427387903 = .ok (n, q)) (hm : (n : Int) ≤ most) (hm2 : (xs.length : Int) - q < n) :
  Calls Tryz.prog 136 #[.pointer (some ⟨b, 0, none⟩), .int .i64 most] w fun e w' => e = .returned (.slice none 0 0) ∧ Failed w w' b g xs p 4 xs.length := by
 have hb := numAt_ok hn hp
 have H := h_ hn
 clear hn
 go_enter Tryz.func136, Tryz.ntmps136
 go_wp2
 refine wp_scope_fwd 0 rfl ?_
 go_wp2_with (first
  | (go_at_call 134; refine (rreads_yes _ b g xs p fa h).mono ?_; rintro r w' ⟨rfl, rfl⟩)
  | (go_at_call 135; refine (rnumber_any _ b g xs p fa _ _ h hp hl).mono ?_; rintro r w1 hpost; obtain ⟨rfl, hf⟩ := hpost.2 _ _ H.out; clear hpost; have hr1 := h.chg hf (by simp) (by simp); obtain ⟨A1, c1, i1, i2, i3⟩ := id hr1; have k1 := cell_of i1 1; have k2 := cell_of i1 2; have k3 := cell_of i1 3; have k4 := cell_of i1 4; have f3 := free_of i1 3; have f4 := free_of i1 4; simp only [List.getElem?_toArray, List.getElem?_cons_zero, List.getElem?_cons_succ] at k1 k2 k3 k4; have HF := h_ hf; have I3 := h_ i3; have I1 := h_ i1; clear hf i1 i3))
 go_quiet (fail)
 go_wp2
 go_step3
 refine And.intro rfl ?_
 show Code.wp _ _ _ _ _
 go_wp2
 simp only [Exit.jump]
 go_ret
 exact ⟨rfl, failed_after HF.out I1.out i2 I3.out _ 0 _ _⟩
theorem piece_bs {w : World} {A : Option Addr} {c : Nat} {xs : List UInt8} (own : OwnB w A c xs) (n q : Nat) (h : q + n ≤ xs.length) : Bs w (A.map (fun x => x.add q)) n ((xs.drop q).take n) := by
 refine ⟨by simp; omega, fun j u hj => ?_⟩
 rw [List.getElem?_take] at hj
 split at hj
 ·
  rw [List.getElem?_drop] at hj
  obtain ⟨a, e, hc⟩ := own.reads.cells (q + j) u hj
  rcases own.form with ⟨rfl, _⟩ | ⟨g, cur, rfl, _⟩
  ·
   cases e
  ·
   cases e
   refine ⟨⟨g, q, none⟩, by simp [add_zero_lit], ?_⟩
   rw [add_zero_lit] at hc
   rw [add_lit]; exact hc
 ·
  cases hj

def Piece (w w' : World) (b g : Nat) (xs : List UInt8) (n q : Nat) (fa : Int) (e : Ending) : Prop :=
 ∃ A c, e = .returned (.slice A n c) ∧ Bs w' A n ((xs.drop q).take n) ∧ (∀ a, A = some a → a.block = g) ∧ Rdr w' b g xs (q + n) 0 fa ∧ Chg [b] w w'

theorem piece_fin {w w1 : World} {b g : Nat} {xs : List UInt8} {p n q : Nat} {fa : Int} {A : Option Addr} {c : Nat} (hc : Chg [] w w1) (h : Rdr w1 b g xs p 0 fa) (h1 : w1.heap[b]? = some (.cells #[.pointer (some ⟨b, 0, none⟩), .slice A xs.length c, .int .i64 p, .int .i64 0, .int .i64 fa] 158 (0, 0)))
  (own : OwnB w1 A c xs) (h3 : A = none ∧ g = b ∨ A = some ⟨g, 0, none⟩) (hq : q + n ≤ xs.length) (m : Nat) (B : Option Addr) (d : Nat) (hB : B = A.map (fun x => x.add q) ∨ n = 0 ∧ B = A) :
  Piece w ((w1.setCell ⟨b, 2, none⟩ (.int .i64 ((q : Int) + n))).drewN m) b g xs n q fa (.returned (.slice B n d)) := by
 have hp := h.place (q := q + n)
 have hne := own.ne h1 (by decide)
 have hg : ∀ a, A = some a → a.block = g := by
  rintro a rfl
  rcases h3 with ⟨h3, _⟩ | h3
  ·
   cases h3
  ·
   cases h3; rfl
 have hs : Chg [b] w1 ((w1.setCell ⟨b, 2, none⟩ (.int .i64 ((q : Int) + n))).drewN m) := hp.2.drewN m
 refine ⟨B, d, rfl, ?_, ?_, hp.1.drewN m, (hc.mono (by simp)).trans hs⟩
 ·
  rcases hB with rfl | ⟨rfl, rfl⟩
  ·
   refine (piece_bs own n q hq).chg hs ?_
   rintro a e
   cases A with
   | none => cases e
   | some a0 =>
    simp at e
    subst e
    rw [block_add]
    simpa using hne _ rfl
  ·
   simpa using Bs.nil _ B
 ·
  rintro a rfl
  rcases hB with hB | ⟨_, hB⟩
  ·
   cases A with
   | none => cases hB
   | some a0 =>
    simp at hB
    subst hB
    rw [block_add]
    exact hg _ rfl
  ·
   exact hg a hB.symm

theorem piece_ok (w : World) (b g : Nat) (xs : List UInt8) (p : Nat) (fa most : Int) (h : Rdr w b g xs p 0 fa) (hp : p ≤ xs.length) (hl : xs.length ≤ 140737488351232) (n q : Nat) (hn : numAt xs p 0 4611686018427387903 = .ok (n, q)) (hm : (n : Int) ≤ most) (hm2 : (n : Int) ≤ xs.length - q) :
  Calls Tryz.prog 136 #[.pointer (some ⟨b, 0, none⟩), .int .i64 most] w fun e w' => Piece w w' b g xs n q fa e := by
 have hb := numAt_ok hn hp
 have H := h_ hn
 clear hn
 go_enter Tryz.func136, Tryz.ntmps136
 go_wp2
 refine wp_scope_fwd 0 rfl ?_
 go_wp2_with (first
  | (go_at_call 134; refine (rreads_yes _ b g xs p fa h).mono ?_; rintro r w' ⟨rfl, rfl⟩)
  | (go_at_call 135; refine (rnumber_any _ b g xs p fa _ _ h hp hl).mono ?_; rintro r w1 hpost; obtain ⟨rfl, hf⟩ := hpost.2 _ _ H.out; clear hpost; have hr1 := h.chg hf (by simp) (by simp); obtain ⟨A1, c1, i1, i2, i3⟩ := id hr1; have k1 := cell_of i1 1; have k2 := cell_of i1 2; have k3 := cell_of i1 3; have hcap := i2.cap; unfold maxLen at hcap; have f2 := free_of i1 2; simp only [List.getElem?_toArray, List.getElem?_cons_zero, List.getElem?_cons_succ] at k1 k2 k3; have HF := h_ hf; have I3 := h_ i3; have I1 := h_ i1; clear hf i1 i3))
 go_quiet (fail)
 go_wp2
 ·
  simp only [Exit.jump]
  go_ret
  have e0 : n = 0 := by omega
  exact piece_fin HF.out hr1 I1.out i2 I3.out (by omega) _ _ _ (.inr ⟨e0, rfl⟩)
 ·
  simp only [Exit.jump]
  go_ret
  exact piece_fin HF.out hr1 I1.out i2 I3.out (by omega) _ _ _ (.inl rfl)
end
section
open Go.RowKit

def rRaw (xs : List UInt8) (p : Nat) (fe fa most : Int) : List UInt8 × Nat × Int × Int :=
 if fe ≠ 0 then ([], p, fe, fa) else match numAt xs p 0 4611686018427387903 with
  | .error (f, q) => ([], p, (f : Int), (q : Int))
  | .ok (n, q) => if most < n then ([], p, 3, (p : Int)) else if (xs.length : Int) - q < n then ([], p, 4, (xs.length : Int)) else ((xs.drop q).take n, q + n, 0, fa)

def PiecePost (w : World) (b g : Nat) (xs : List UInt8) (r : List UInt8 × Nat × Int × Int) (e : Ending) (w' : World) : Prop :=
 ∃ A c, e = .returned (.slice A r.1.length c) ∧ Bs w' A r.1.length r.1 ∧ (∀ a, A = some a → a.block = g) ∧ Rdr w' b g xs r.2.1 r.2.2.1 r.2.2.2 ∧ Chg [b] w w'

theorem piece_failed {w w' : World} {b g : Nat} {xs : List UInt8} {p : Nat} {fe fa : Int} {e : Ending} (h : e = .returned (.slice none 0 0) ∧ Failed w w' b g xs p fe fa) : PiecePost w b g xs ([], p, fe, fa) e w' :=
 ⟨none, 0, h.1, Bs.nil _ _, by simp, h.2.1, h.2.2⟩

theorem piece_any (w : World) (b g : Nat) (xs : List UInt8) (p : Nat) (fe fa most : Int) (h : Rdr w b g xs p fe fa) (hp : p ≤ xs.length) (hl : xs.length ≤ 140737488351232) :
  Calls Tryz.prog 136 #[.pointer (some ⟨b, 0, none⟩), .int .i64 most] w (PiecePost w b g xs (rRaw xs p fe fa most)) := by
 unfold rRaw
 by_cases he : fe = 0
 ·
  subst he
  simp only [ne_eq, not_true_eq_false, if_false]
  cases hn : numAt xs p 0 4611686018427387903 with
  | error x => obtain ⟨f, q⟩ := x; exact (piece_err w b g xs p fa most h hp hl f q hn).mono fun e w' he => piece_failed he
  | ok x =>
   obtain ⟨n, q⟩ := x
   by_cases h1 : most < n
   ·
    simp only [if_pos h1]; exact (piece_long w b g xs p fa most h hp hl n q hn h1).mono fun e w' he => piece_failed he
   ·
    by_cases h2 : (xs.length : Int) - q < n
    ·
     simp only [if_neg h1, if_pos h2]; exact (piece_end w b g xs p fa most h hp hl n q hn (by omega) h2).mono fun e w' he => piece_failed he
    ·
     simp only [if_neg h1, if_neg h2]
     refine (piece_ok w b g xs p fa most h hp hl n q hn (by omega) (by omega)).mono fun e w' he => ?_
     obtain ⟨A, c, h3, h4, h5, h6, h7⟩ := he
     have hlen := h4.len
     refine ⟨A, c, ?_, ?_, h5, h6, h7⟩
     ·
      show _ = Ending.returned (.slice A ((xs.drop q).take n).length c)
      rw [hlen]; exact h3
     ·
      show Bs w' A ((xs.drop q).take n).length ((xs.drop q).take n)
      rw [hlen]; exact h4
 ·
  simp only [ne_eq, he, not_false_eq_true, if_true]
  exact (piece_no w b g xs p fe fa most h he).mono fun e w' ⟨h1, h2⟩ => ⟨none, 0, h1, Bs.nil _ _, by simp, h2 ▸ h, h2 ▸ Chg.refl _ _⟩

theorem rRaw_le {xs : List UInt8} {p : Nat} {fe fa most : Int} (hp : p ≤ xs.length) : (rRaw xs p fe fa most).1.length ≤ xs.length ∧ (rRaw xs p fe fa most).2.1 ≤ xs.length := by
 unfold rRaw
 split
 ·
  exact ⟨Nat.zero_le _, hp⟩
 ·
  split
  ·
   exact ⟨Nat.zero_le _, hp⟩
  ·
   rename_i n q hn
   have := numAt_ok hn hp
   split
   ·
    exact ⟨Nat.zero_le _, hp⟩
   ·
    split
    ·
     exact ⟨Nat.zero_le _, hp⟩
    ·
     simp; omega
theorem rNum_le {xs : List UInt8} {p : Nat} {fe fa low high : Int} (hp : p ≤ xs.length) : (rNum xs p fe fa low high).2.1 ≤ xs.length := by
 unfold rNum
 split
 ·
  exact hp
 ·
  split
  ·
   exact hp
  ·
   rename_i n q hn
   exact (numAt_ok hn hp).1

def RawPost (w : World) (b g : Nat) (xs : List UInt8) (r : List UInt8 × Nat × Int × Int) (e : Ending) (w' : World) : Prop :=
 ∃ A c, e = .returned (.slice A r.1.length c) ∧ OwnB w' A c r.1 ∧ (∀ a, A = some a → w.heap.size ≤ a.block) ∧ Rdr w' b g xs r.2.1 r.2.2.1 r.2.2.2 ∧ Chg [b] w w'

theorem rraw_any (w : World) (b g : Nat) (xs : List UInt8) (p : Nat) (fe fa most : Int) (h : Rdr w b g xs p fe fa) (hp : p ≤ xs.length) (hl : xs.length ≤ 140737488351232) :
  Calls Tryz.prog 92 #[.pointer (some ⟨b, 0, none⟩), .int .i64 most] w (RawPost w b g xs (rRaw xs p fe fa most)) := by
 have hle := (rRaw_le (fe := fe) (fa := fa) (most := most) hp).1
 have hpc := piece_any w b g xs p fe fa most h hp hl
 generalize rRaw xs p fe fa most = r at hle hpc
 have HP := h_ hpc
 clear hpc
 go_enter Tryz.func92, Tryz.ntmps92
 go_wp2_with (first
  | (go_at_call 136; refine HP.out.mono ?_; rintro e w1 ⟨A, c, rfl, q1, q2, q3, q4⟩; have Q2 := h_ q2; clear q2)
  | (go_at_call 133; refine (clone_any _ _ _ _ r.1 q1 (by omega)).mono ?_; rintro e w2 ⟨A2, c2, rfl, f1, f2, f3⟩; have F2 := h_ f2; clear f2))
 go_ret
 have hs := q4.size
 refine ⟨A2, c2, rfl, f1, fun a e => ?_, q3.chg f3 (by simp) (by simp), q4.trans (f3.mono (by simp))⟩
 have := F2.out a e
 omega
end
section
open Go.RowKit Go.Lib

structure EvT where
 n : Int
 s : Int
 p : ByteArray
 k : Int
 m : Int
 A : Option Addr
 l : Nat
 c : Nat
 B : Option Addr
 bl : Nat
 bc : Nat
def evTy : RowTy EvT where
 enc := fun x => [.int .i64 x.n, .int .i64 x.s, .string x.p, .int .i64 x.k, .int .i64 x.m, .slice x.A x.l x.c, .slice x.B x.bl x.bc]
 k := 7
 T := 40
 TS := 22
 z := ⟨0, 0, ⟨#[]⟩, 0, 0, none, 0, 0, none, 0, 0⟩
 zv := .agg #[.int .i64 0, .int .i64 0, .string ⟨#[]⟩, .int .i64 0, .int .i64 0, .slice none 0 0, .slice none 0 0]
 bytes := 96
 klen := fun _ => rfl
 one := by intro x v hv; simp at hv; rcases hv with rfl | rfl | rfl | rfl | rfl | rfl | rfl <;> rfl
 zc := rfl
 kpos := by decide
 bpos := by decide
 under := by kernel_rfl
 info := by kernel_rfl
structure EvP where
 n : Int
 s : Int
 p : List UInt8
 k : Int
 m : Int
 b : List UInt8
 q : List (Int × Int × Int)
structure EvR (w : World) (x : EvT) (e : EvP) : Prop where
 n : x.n = e.n
 s : x.s = e.s
 p : x.p = strOf e.p
 k : x.k = e.k
 m : x.m = e.m
 l : x.l = e.b.length
 bl : x.bl = e.q.length
 A : Bs w x.A x.l e.b
 B : RdK spanTy w x.B x.bl e.q
theorem EvR.chg {w w' : World} {x : EvT} {e : EvP} (h : EvR w x e) (hc : Chg [] w w') : EvR w' x e := ⟨h.n, h.s, h.p, h.k, h.m, h.l, h.bl, h.A.chg hc (by simp), h.B.chg hc (by simp)⟩
theorem evCells {w : World} {g o n j : Nat} {xs : List EvT} (h : RdK evTy w (some ⟨g, o, none⟩) n xs) {x : EvT} (hx : xs[j]? = some x) : w.cell? ⟨g, o + j * 7, none⟩ = some (.int .i64 x.n) ∧ w.cell? ⟨g, o + j * 7 + 1, none⟩ = some (.int .i64 x.s) ∧ w.cell? ⟨g, o + j * 7 + 2, none⟩ = some (.string x.p) ∧ w.cell? ⟨g, o + j * 7 + 3, none⟩ = some (.int .i64 x.k) ∧ w.cell? ⟨g, o + j * 7 + 4, none⟩ = some (.int .i64 x.m) ∧ w.cell? ⟨g, o + j * 7 + 5, none⟩ = some (.slice x.A x.l x.c) ∧ w.cell? ⟨g, o + j * 7 + 6, none⟩ = some (.slice x.B x.bl x.bc) :=
 ⟨h.at_ j 0 x _ hx rfl, h.at_ j 1 x _ hx rfl, h.at_ j 2 x _ hx rfl, h.at_ j 3 x _ hx rfl, h.at_ j 4 x _ hx rfl, h.at_ j 5 x _ hx rfl, h.at_ j 6 x _ hx rfl⟩
end
section
open Go.RowKit

def cutA : List UInt8 → List UInt8 → List (List UInt8)
 | acc, [] => [acc]
 | acc, b :: l => if b = 47 then acc :: cutA [] l else cutA (acc ++ [b]) l
def cutL (l : List UInt8) : List (List UInt8) := cutA [] l
theorem cutA_ne : ∀ acc l, cutA acc l ≠ []
 | acc, [] => by simp [cutA]
 | acc, b :: l => by
  unfold cutA
  split
  ·
   simp
  ·
   exact cutA_ne _ l
theorem cutA_no : ∀ (l acc : List UInt8), 47 ∉ l → cutA acc l = [acc ++ l]
 | [], acc, _ => by simp [cutA]
 | b :: l, acc, h => by
  simp only [List.mem_cons, not_or] at h
  rw [cutA, if_neg (fun e => h.1 e.symm), cutA_no l _ h.2, List.append_assoc]
  rfl
theorem cutA_at : ∀ (a acc b : List UInt8), 47 ∉ a → cutA acc (a ++ 47 :: b) = (acc ++ a) :: cutA [] b
 | [], acc, b, _ => by simp [cutA]
 | x :: a, acc, b, h => by
  simp only [List.mem_cons, not_or] at h
  rw [List.cons_append, cutA, if_neg (fun e => h.1 e.symm), cutA_at a _ b h.2, List.append_assoc]
  rfl
theorem cutA_len (l : List UInt8) : ∀ acc, (cutA acc l).length ≤ l.length + 1 := by
 induction l with
 | nil => intro acc; simp [cutA]
 | cons b l ih =>
  intro acc
  unfold cutA
  split
  ·
   have := ih []; simp; omega
  ·
   have := ih (acc ++ [b]); simp; omega

def okB (b : UInt8) : Bool := (97 ≤ b.toNat && b.toNat ≤ 122) || (48 ≤ b.toNat && b.toNat ≤ 57) || b == 46 || b == 95 || b == 45
def partL (most : Nat) (p : List UInt8) : Bool := p.all okB && decide (1 ≤ p.length) && decide (p.length ≤ most) && p != [46] && p != [46, 46]
def checkL (parts most : Nat) (l : List UInt8) : Bool := decide ((cutL l).length ≤ parts) && (cutL l).all (partL most)
def foreignR (c : Nat) : Bool := !((97 ≤ c && c ≤ 122) || (48 ≤ c && c ≤ 57) || c == 46 || c == 95 || c == 45)
theorem foreign_byte (b : UInt8) : foreignR b.toNat = !okB b := by
 have e : ∀ k : UInt8, (b.toNat == k.toNat) = (b == k) := fun k => by
  rw [Bool.eq_iff_iff, beq_iff_eq, beq_iff_eq]
  exact ⟨fun h => UInt8.toNat_inj.1 h, fun h => by rw [h]⟩
 unfold foreignR okB
 have e1 := e 46
 have e2 := e 95
 have e3 := e 45
 simp only [show (46 : UInt8).toNat = 46 from rfl, show (95 : UInt8).toNat = 95 from rfl, show (45 : UInt8).toNat = 45 from rfl] at e1 e2 e3
 rw [e1, e2, e3]
theorem foreign_ge {c : Nat} (h : 128 ≤ c) : foreignR c = true := by
 simp [foreignR]
 omega
theorem decodeN_ge (n b0 b1 b2 b3 : Nat) (h : 128 ≤ b0) : 128 ≤ (Lib.decodeN n b0 b1 b2 b3).1 := by
 unfold Lib.decodeN
 repeat' split
 all_goals first | omega | (simp only; omega)
theorem get_at (s : ByteArray) (i : Nat) (b : UInt8) (h : s.data.toList[i]? = some b) : s.get! i = b := by
 have hi : i < s.data.size := by
  have := (List.getElem?_eq_some_iff.1 h).1
  simpa using this
 have : s.data[i]? = some b := by rwa [Array.getElem?_toList] at h
 show s.data[i]! = b
 rw [getElem!_pos s.data i hi]
 exact (Array.getElem?_eq_some_iff.1 this).2
theorem foreign_at (s : ByteArray) (i : Nat) (b : UInt8) (h : s.data.toList[i]? = some b) : foreignR (Utf8.decode s i).1 = !okB b ∧ (okB b = true → (Utf8.decode s i).2 = 1) := by
 rw [Lib.decode_at, get_at s i b h]
 by_cases hb : b.toNat < 128
 ·
  have e : ∀ n x y z, Lib.decodeN n b.toNat x y z = (b.toNat, 1) := fun n x y z => by unfold Lib.decodeN; rw [if_pos hb]
  rw [e]
  exact ⟨foreign_byte b, fun _ => rfl⟩
 ·
  have hb : 128 ≤ b.toNat := by omega
  have ho : okB b = false := by
   have := foreign_byte b
   rw [foreign_ge hb] at this
   simpa using this.symm
  rw [ho]
  exact ⟨foreign_ge (decodeN_ge _ _ _ _ _ hb), fun h => by cases h⟩
end
section
open Go.RowKit
def textTy : RowTy (List UInt8) where
 enc := fun x => [.string (strOf x)]
 k := 1
 T := 9
 TS := 108
 z := []
 zv := .string ⟨#[]⟩
 bytes := 16
 klen := fun _ => rfl
 one := by intro x v hv; simp at hv; rcases hv with rfl <;> rfl
 zc := rfl
 kpos := by decide
 bpos := by decide
 under := by kernel_rfl
 info := by kernel_rfl
theorem textCells {w : World} {g o n j : Nat} {xs : List (List UInt8)} (h : RdK textTy w (some ⟨g, o, none⟩) n xs) {x : List UInt8} (hx : xs[j]? = some x) : w.cell? ⟨g, o + j, none⟩ = some (.string (strOf x)) := by
 have := h.at_ j 0 x _ hx rfl
 rwa [show textTy.k = 1 from rfl, Nat.mul_one, Nat.add_zero] at this
theorem strOf_of (s : ByteArray) : strOf s.data.toList = s := by
 unfold strOf
 rw [Array.toArray_toList]
theorem strOf_inj {a b : List UInt8} (h : strOf a = strOf b) : a = b := by
 have := congrArg (fun s : ByteArray => s.data.toList) h
 simpa [strOf] using this
theorem strOf_ext (l : List UInt8) (a b : Nat) : (strOf l).extract a b = strOf ((l.drop a).take (b - a)) := by
 apply ByteArray.ext
 apply Array.toList_inj.1
 rw [show ((strOf l).extract a b).data = (strOf l).data.extract a b from ByteArray.data_extract]
 simp [strOf, List.extract_eq_take_drop]
end
section
open Go.RowKit
attribute [local go_sem] Oper.semAt_some

theorem idx_no : ∀ (l : List UInt8), 47 ∉ l → Lib.indexByte l 47 = -1
 | [], _ => rfl
 | b :: l, h => by
  simp only [List.mem_cons, not_or] at h
  have hb : (b == 47) = false := by simpa using fun e => h.1 e.symm
  simp [Lib.indexByte, hb, idx_no l h.2]
theorem idx_at : ∀ (a b : List UInt8), 47 ∉ a → Lib.indexByte (a ++ 47 :: b) 47 = (a.length : Int)
 | [], b, _ => by simp [Lib.indexByte]
 | x :: a, b, h => by
  simp only [List.mem_cons, not_or] at h
  have hb : (x == 47) = false := by simpa using fun e => h.1 e.symm
  have := idx_at a b h.2
  simp only [List.cons_append, Lib.indexByte, hb, this]
  have h2 : ((a.length : Int) == -1) = false := by simp
  simp [h2]
theorem at47 (l : List UInt8) : 47 ∉ l ∨ ∃ a b, l = a ++ 47 :: b ∧ 47 ∉ a := by
 by_cases h : 47 ∈ l
 ·
  right
  induction l with
  | nil => simp at h
  | cons x l ih =>
   by_cases hx : x = 47
   ·
    subst hx; exact ⟨[], l, rfl, by simp⟩
   ·
    have : 47 ∈ l := by
     rcases List.mem_cons.1 h with h | h
     ·
      exact absurd h.symm hx
     ·
      exact h
    obtain ⟨a, b, e, ha⟩ := ih this
    refine ⟨x :: a, b, by rw [e]; rfl, ?_⟩
    simp only [List.mem_cons, not_or]
    exact ⟨fun e => hx e.symm, ha⟩
 ·
  exact .inl h
theorem index_no (w : World) (l : List UInt8) (h : 47 ∉ l) : Calls Tryz.prog 216 #[.string (strOf l), .string ⟨#[47]⟩] w fun e w' => e = .returned (.int .i64 (-1)) ∧ w' = w := by
 refine (Any.strings_Index_one Tryz.lays143 (strOf l) 47 w).mono ?_
 rintro e w' ⟨rfl, rfl⟩
 rw [strOf_data, idx_no l h]
 exact ⟨rfl, rfl⟩
theorem index_at (w : World) (a b : List UInt8) (h : 47 ∉ a) : Calls Tryz.prog 216 #[.string (strOf (a ++ 47 :: b)), .string ⟨#[47]⟩] w fun e w' => e = .returned (.int .i64 (a.length : Int)) ∧ w' = w := by
 refine (Any.strings_Index_one Tryz.lays143 (strOf (a ++ 47 :: b)) 47 w).mono ?_
 rintro e w' ⟨rfl, rfl⟩
 rw [strOf_data, idx_at a b h]
 exact ⟨rfl, rfl⟩
set_option maxRecDepth 100000 in
theorem split1_gives (n : Nat) (l n₁ bs bp bv : Nat) (T : List Nat) (xs : List UInt8) (hlen : xs.length ≤ 140737488351232)
  (J Jx : List (List UInt8) → World → Prop) (W : World) (hs1 : bs < n₁) (hp1 : bp < n₁) (hv1 : bv < n₁) (hsp : bs ≠ bp) (hsv : bs ≠ bv) (hTs : bs ∉ T) (hTp : bp ∉ T) (hTv : bv ∉ T) (hn₁ : n₁ ≤ W.heap.size)
  (hJ : ∀ pre A B, J pre A → Kpt W.heap.size [bs] A B → J pre B)
  (hY : ∀ pre x W1, J pre W1 → (pre ++ [x]) <+: cutL xs → YieldAt Fence.wide n Tryz.prog l #[.string (strOf x)] W1 fun e W' => (e = .returned (.bool true) ∧ J (pre ++ [x]) W' ∧ Kpt n₁ T W1 W') ∨ (e = .returned (.bool false) ∧ Jx (pre ++ [x]) W'))
  (hp : W.cell? ⟨bp, 0, none⟩ = some (.string ⟨#[47]⟩)) (hs : W.heap[bs]? = some (.cells #[.string (strOf xs)] 9 (0, 0))) (hv : W.cell? ⟨bv, 0, none⟩ = some (.int .i64 0)) (h0 : J [] W) :
  CallsIn Fence.wide (n + 1) Tryz.prog 218 #[.func (.yield l) #[] #[], .pointer (some ⟨bp, 0, none⟩), .pointer (some ⟨bs, 0, none⟩), .pointer (some ⟨bv, 0, none⟩)] W fun e W' => (∃ v, e = .returned v) ∧ ((∃ ys, ys = cutL xs ∧ J ys W') ∨ ∃ ys, True ∧ Jx ys W') := by
 have h1 : 1 ≤ n + 1 := by omega
 have hro : Fence.wide.round = none := rfl
 refine callsIn_of_wp Tryz.func218 rfl trivial ?_ hro
 simp only [Tryz.ntmps218, List.size_toArray, List.length_cons, List.length_nil, Nat.reduceAdd, Nat.reduceSub, Array.replicate_succ, Array.replicate_zero, List.push_toArray, List.append_toArray, List.nil_append, List.cons_append]
 gi_wp2
 gi_loopw [7, 8] (fun v7 v8 wr => ∃ (pre : List (List UInt8)) (rest : List UInt8), pre ++ cutA [] rest = cutL xs ∧ rest.length ≤ xs.length ∧ wr.heap[bs]? = some (.cells #[.string (strOf rest)] 9 (0, 0)) ∧ J pre wr ∧ Kpt n₁ (bs :: T) W wr)
  (fun _ _ wr => match wr.cell? ⟨bs, 0, none⟩ with | some (.string s) => s.size | _ => 0)
 case atStart => exact ⟨[], xs, rfl, Nat.le_refl _, hs, h0, Kpt.refl _ _ _⟩
 case round =>
  obtain ⟨pre, rest, hcut, hrl, hcell, hJs, hk⟩ := hrel
  have hbs := lt_of_heap hcell
  have cs := ce1 hcell
  have cf := free_of hcell 0
  have cp := ((by rw [World.cell?, World.cell?, hk.block bp hp1 (by simp; exact ⟨fun e => hsp e.symm, hTp⟩)] : wr.cell? ⟨bp, 0, none⟩ = W.cell? ⟨bp, 0, none⟩)).trans hp
  have cv := ((by rw [World.cell?, World.cell?, hk.block bv hv1 (by simp; exact ⟨fun e => hsv e.symm, hTv⟩)] : wr.cell? ⟨bv, 0, none⟩ = W.cell? ⟨bv, 0, none⟩)).trans hv
  rcases at47 rest with hno | ⟨a, b, rfl, hno⟩
  ·
   -- the last piece
   rw [cutA_no _ _ hno, List.nil_append] at hcut
   obtain ⟨fn, tmps, assign, body, hy, hR⟩ := hY pre rest wr hJs (by rw [hcut]; exact List.prefix_refl _)
   gi_wp2_with (refine ⟨trivial, ?_⟩; gi_at_call 216; refine (callsIn_wide.2 (index_no _ rest hno)).mono ?_; rintro e w1 ⟨rfl, rfl⟩)
   refine hR.mono ?_
   rintro e W3 (⟨rfl, hJ3, hk3⟩ | ⟨rfl, hx⟩)
   ·
    gi_wp2
    go_end0
    exact ⟨⟨_, rfl⟩, .inl ⟨_, hcut, hJ3⟩⟩
   ·
    gi_wp2
    go_end0
    exact ⟨⟨_, rfl⟩, .inr ⟨_, trivial, hx⟩⟩
  ·
   -- a piece, and more behind it
   rw [cutA_at _ _ _ hno, List.nil_append] at hcut
   obtain ⟨fn, tmps, assign, body, hy, hR⟩ := hY pre a wr hJs ⟨cutA [] b, by rw [← hcut]; simp⟩
   have ez : (strOf (a ++ 47 :: b)).size = a.length + 1 + b.length := by rw [strOf_size]; simp; omega
   have hrl' : a.length + 1 + b.length ≤ xs.length := by rw [← strOf_size, ez] at hrl; exact hrl
   have i0 : (0 : Int) ≤ (a.length : Int) := by omega
   have i4 : a.length + 1 ≤ 140737488351232 := by omega
   have i1 : ¬ ((a.length : Int) < 0) := by omega
   have i2 : (a.length : Int) ≤ ((strOf (a ++ 47 :: b)).size : Int) := by rw [ez]; omega
   have i3 : (a.length : Int) + 1 ≤ ((strOf (a ++ 47 :: b)).size : Int) := by rw [ez]; omega
   have e1 : (strOf (a ++ 47 :: b)).extract 0 a.length = strOf a := by rw [strOf_ext]; simp
   have e2 : (strOf (a ++ 47 :: b)).extract (a.length + 1) (strOf (a ++ 47 :: b)).size = strOf b := by
    rw [strOf_ext, ez]
    congr 1
    rw [show (a ++ 47 :: b).drop (a.length + 1) = b by rw [show a ++ 47 :: b = (a ++ [47]) ++ b by simp]; exact List.drop_left' (by simp)]
    exact List.take_of_length_le (by omega)
   gi_wp2_with (refine ⟨trivial, ?_⟩; gi_at_call 216; refine (callsIn_wide.2 (index_at _ a b hno)).mono ?_; rintro e w1 ⟨rfl, rfl⟩)
   refine hR.mono ?_
   rintro e W3 (⟨rfl, hJ3, hk3⟩ | ⟨rfl, hx⟩)
   ·
    have hc3 : W3.heap[bs]? = some (.cells #[.string (strOf (a ++ 47 :: b))] 9 (0, 0)) := (hk3.block bs hs1 hTs).trans hcell
    have cs3 := ce1 hc3
    have cf3 := free_of hc3 0
    have cp3 : W3.cell? ⟨bp, 0, none⟩ = some (.string ⟨#[47]⟩) := ((by rw [World.cell?, World.cell?, hk3.block bp hp1 hTp] : W3.cell? ⟨bp, 0, none⟩ = w1.cell? ⟨bp, 0, none⟩)).trans cp
    have e3 : (W3.setCell ⟨bs, 0, none⟩ (.string (strOf b))).heap[bs]? = some (.cells #[.string (strOf b)] 9 (0, 0)) := by simpa using heap_setCell_same W3 bs 0 _ _ (.string (strOf b)) hc3
    have E2 := h_ (show (strOf (a ++ 47 :: b)).extract (a.length + 1) (a.length + 1 + b.length) = strOf b by rw [← ez]; exact e2)
    have K3 := h_ hc3
    have JJ := h_ (hJ _ _ (W3.setCell ⟨bs, 0, none⟩ (.string (strOf b))) hJ3 (Kpt.of_chg ((Chg.refl [bs] W3).setCell (p := ⟨bs, 0, none⟩) (.inl (by simp)) _) (by have := hk.size; have := hk3.size; omega)))
    clear hc3
    gi_wp2
    go_roundw
    case rel =>
     rw [E2.out]
     exact ⟨pre ++ [a], b, by rw [← hcut]; simp, by omega, e3, JJ.out, (hk.trans (hk3.mono (Nat.le_refl _) (fun x h => List.mem_cons_of_mem _ h))).trans (Kpt.of_chg ((Chg.refl [bs] W3).setCell (p := ⟨bs, 0, none⟩) (.inl (by simp)) _) (by have := hk.size; have := hk3.size; omega) |>.mono (Nat.le_refl _) (by simp))⟩
    case measure =>
     have e4 := ce1 e3
     rw [E2.out, e4, cs]
     show (strOf b).size < (strOf (a ++ 47 :: b)).size
     rw [strOf_size, ez]
     omega
   ·
    gi_wp2
    refine bodyPost_ret (results_none rfl _ _ _) rfl ?_
    exact ⟨⟨_, rfl⟩, .inr ⟨_, trivial, hx⟩⟩
end
section
open Go.RowKit
theorem isForeign_any (w : World) (x : Nat) (hx : x ≤ 1114111) :
  Calls Tryz.prog 207 #[.int .i32 (x : Int)] w fun e w' => e = .returned (.bool (foreignR x)) ∧ ∃ q, w' = w.drewN q := by
 go_enter Tryz.func207, Tryz.ntmps207
 go_wp2
 all_goals
  go_ret
  refine ⟨congrArg (fun b => Ending.returned (Value.bool b)) ?_, 0, rfl⟩
  rw [Bool.eq_iff_iff]
  simp [foreignR]
  omega
theorem idxFunc_okB (s : ByteArray) : ∀ (f pos : Nat), s.size ≤ pos + f → (0 ≤ Lib.idxFuncFrom foreignR true s f pos ↔ (s.data.toList.drop pos).all okB = false)
 | 0, pos, h => by
  have : s.data.toList.drop pos = [] := List.drop_of_length_le (by simpa using h)
  rw [this]
  simp [Lib.idxFuncFrom]
 | f + 1, pos, h => by
  unfold Lib.idxFuncFrom
  by_cases hp : pos < s.size
  ·
   rw [if_pos hp]
   have hp' : pos < s.data.toList.length := by simpa using hp
   have hb := List.getElem?_eq_getElem hp'
   obtain ⟨h1, h2⟩ := foreign_at s pos _ hb
   rw [List.drop_eq_getElem_cons hp', List.all_cons]
   cases ho : okB s.data.toList[pos] with
   | false =>
    rw [ho] at h1
    rw [if_pos (by rw [h1]; rfl)]
    simp
   | true =>
    rw [ho] at h1
    rw [if_neg (by rw [h1]; simp), h2 ho, idxFunc_okB s f (pos + 1) (by omega)]
    simp
  ·
   rw [if_neg hp]
   have : s.data.toList.drop pos = [] := List.drop_of_length_le (by simpa using hp)
   rw [this]
   simp
theorem contains_any (w : World) (l : List UInt8) :
  Calls Tryz.prog 206 #[.string (strOf l), .func (.func 207) #[] #[]] w fun e w' => e = .returned (.bool (!l.all okB)) ∧ Below w.heap.size w w' := by
 refine (Any.strings_ContainsFunc_runes Tryz.laysGw17 207 #[] (enters_of Tryz.func207 (by kernel_rfl) rfl) foreignR (strOf l) w (fun W x hx _ => isForeign_any W x hx)).mono ?_
 rintro e w' ⟨rfl, h⟩
 refine ⟨?_, h⟩
 congr 2
 have := idxFunc_okB (strOf l) (strOf l).size 0 (by omega)
 rw [List.drop_zero, strOf_data] at this
 unfold Lib.idxFunc
 cases ha : l.all okB with
 | true =>
  rw [ha] at this
  simpa using this
 | false =>
  rw [ha] at this
  simpa using this
theorem partL_no {l : List UInt8} (h : l = [] ∨ 12 < l.length ∨ l = [46] ∨ l = [46, 46]) : partL 12 l = false := by
 rcases h with rfl | h | rfl | rfl
 ·
  rfl
 ·
  simp [partL]
  omega
 ·
  rfl
 ·
  rfl
theorem partL_yes {l : List UInt8} (h0 : l ≠ []) (h1 : l.length ≤ 12) (h2 : l ≠ [46]) (h3 : l ≠ [46, 46]) : partL 12 l = l.all okB := by
 have : 1 ≤ l.length := by
  cases l with
  | nil => exact absurd rfl h0
  | cons => simp
 rw [Bool.eq_iff_iff]
 simp [partL, h1, h2, h3, this]
theorem isPart_any (w : World) (l : List UInt8) :
  Calls Tryz.prog 187 #[.string (strOf l)] w fun e w' => e = .returned (.bool (partL 12 l)) ∧ Below w.heap.size w w' := by
 have hs := strOf_size l
 by_cases h : l = [] ∨ 12 < l.length ∨ l = [46] ∨ l = [46, 46]
 ·
  rw [partL_no h]
  rcases h with h | h | h | h
  ·
   subst h
   go_enter Tryz.func187, Tryz.ntmps187
   go_wp2_with fail; go_ret
   exact ⟨rfl, Below.refl _ _⟩
  ·
   have h1 : l ≠ [] := by rintro rfl; simp at h
   have h2 : (12 : Int) < ((strOf l).size : Int) := by omega
   have h3 : l.isEmpty = false := by simpa using h1
   go_enter Tryz.func187, Tryz.ntmps187
   go_wp2_with fail; go_ret
   exact ⟨rfl, Below.refl _ _⟩
  ·
   subst h
   go_enter Tryz.func187, Tryz.ntmps187
   go_wp2_with fail; go_ret
   exact ⟨rfl, Below.refl _ _⟩
  ·
   subst h
   go_enter Tryz.func187, Tryz.ntmps187
   go_wp2_with fail; go_ret
   exact ⟨rfl, Below.refl _ _⟩
 ·
  simp only [not_or] at h
  obtain ⟨h0, h1, h2, h3⟩ := h
  rw [partL_yes h0 (by omega) h2 h3]
  have e0 : l.isEmpty = false := by simpa using h0
  have e1 : ((strOf l).size : Int) ≤ 12 := by omega
  have e2 : (l == [46]) = false := by simpa using h2
  have e3 : (l == [46, 46]) = false := by simpa using h3
  have e4 : ¬ ((12 : Int) < ((strOf l).size : Int)) := by omega
  go_enter Tryz.func187, Tryz.ntmps187
  go_wp2_with fail
  refine (contains_any _ l).mono ?_
  rintro e w1 ⟨rfl, hb⟩
  go_wp2_with fail; go_ret
  exact ⟨by simp, hb⟩
end
section
open Go.RowKit
attribute [local go_sem] Oper.semAt_some
theorem wpIn_scope {P : Program} {n : Nat} {c : Code} {Q : Exit → Act → World → Prop} {a : Act} {w : World} (h : c.wpIn Fence.wide n P (Exit.noGoto Q) a w) : (Code.scope c).wpIn Fence.wide n P Q a w := wpIn_wide.2 (wp_scope_straight (wpIn_wide.1 h))
theorem below_others {W W' : World} (h : Below W.heap.size W W') : KeepsOthers W W' :=
 ⟨h.size, fun k o hk _ => (h.block k (Array.getElem?_eq_some_iff.1 hk).1).trans hk⟩
theorem splitSeq0_any (w : World) (l : List UInt8) : Calls Tryz.prog 205 #[.string (strOf l), .string ⟨#[47]⟩, .int .i64 0] w fun e w' =>
  e = .returned (.func (.func 218) #[] #[.pointer (some ⟨w.heap.size + 1, 0, none⟩), .pointer (some ⟨w.heap.size, 0, none⟩), .pointer (some ⟨w.heap.size + 2, 0, none⟩)]) ∧
  w' = ((w.alloc (.cells #[.string (strOf l)] 9)).alloc (.cells #[.string ⟨#[47]⟩] 9)).alloc (.cells #[.int .i64 0] 3) := by
 go_enter Tryz.func205, Tryz.ntmps205
 go_wp2; go_ret
 exact ⟨by simp, rfl⟩
theorem splitSeq_any (w : World) (l : List UInt8) : Calls Tryz.prog 186 #[.string (strOf l), .string ⟨#[47]⟩] w fun e w' =>
  e = .returned (.func (.func 218) #[] #[.pointer (some ⟨w.heap.size + 1, 0, none⟩), .pointer (some ⟨w.heap.size, 0, none⟩), .pointer (some ⟨w.heap.size + 2, 0, none⟩)]) ∧
  w' = ((w.alloc (.cells #[.string (strOf l)] 9)).alloc (.cells #[.string ⟨#[47]⟩] 9)).alloc (.cells #[.int .i64 0] 3) := by
 go_enter Tryz.func186, Tryz.ntmps186
 go_wp2_with fail
 refine (splitSeq0_any _ l).mono ?_
 rintro e w1 ⟨rfl, rfl⟩
 go_wp2; go_ret
 exact ⟨by simp, rfl⟩
theorem all_prefix {p : List UInt8 → Bool} {pre l : List (List UInt8)} {x : List UInt8} (h : (pre ++ [x]) <+: l) (hx : p x = false) : l.all p = false := by
 obtain ⟨t, rfl⟩ := h
 simp [hx]
theorem check_no1 {l : List UInt8} {pre : List (List UInt8)} {x : List UInt8} (h : (pre ++ [x]) <+: cutL l) (hx : partL 12 x = false) : checkL 6 12 l = false := by
 unfold checkL
 rw [all_prefix h hx, Bool.and_false]
theorem check_no2 {l : List UInt8} {pre : List (List UInt8)} {x : List UInt8} (h : (pre ++ [x]) <+: cutL l) (hx : 6 ≤ pre.length) : checkL 6 12 l = false := by
 unfold checkL
 have := h.length_le
 simp at this
 have : ¬ (cutL l).length ≤ 6 := by omega
 simp [this]
set_option maxRecDepth 100000 in
theorem phcheck_any (w : World) (l : List UInt8) (hlen : l.length ≤ 140737488351232) :
  Calls Tryz.prog 150 #[.string (strOf l)] w fun e w' => e = .returned (.int .i64 (if checkL 6 12 l then 0 else 2)) ∧ Below w.heap.size w w' := by
 have h1 : 1 ≤ 5 := by omega
 have hro : Fence.wide.round = none := rfl
 refine (callsIn_wide (n := 5)).1 ?_
 refine callsIn_of_wp_marks Tryz.func150 rfl trivial ?_ hro
 simp only [Tryz.ntmps150, List.size_toArray, List.length_cons, List.length_nil, Nat.reduceAdd, Nat.reduceSub, Array.replicate_succ, Array.replicate_zero, List.push_toArray, List.append_toArray, List.nil_append, List.cons_append]
 gi_wp2
 refine wpIn_scope ?_
 obtain ⟨w1, hw1, C1, b0, b1⟩ := news2 w (.cells #[.int .i64 0] 3) (.cells #[.int .i64 0] 50)
 gi_wp2
 refine wpIn_label ?_
 rw [← hw1]
 have hs1 : w1.heap.size = w.heap.size + 2 := by rw [hw1]; simp
 have bw1 : Below w.heap.size w w1 := by rw [hw1]; exact ((Below.refl _ w).alloc (Nat.le_refl _) _).alloc (by simp) _
 obtain ⟨V, hV, CV, v0, v1, v2⟩ := news3 w1 (.cells #[.string (strOf l)] 9) (.cells #[.string ⟨#[47]⟩] 9) (.cells #[.int .i64 0] 3)
 have hsV : V.heap.size = w1.heap.size + 3 := by rw [hV]; simp
 have bV : Below w1.heap.size w1 V := by rw [hV]; exact (((Below.refl _ w1).alloc (Nat.le_refl _) _).alloc (by simp) _).alloc (by simp; omega) _
 have b0' := (bV.block (w.heap.size) (by omega)).trans b0
 have b1' := (bV.block (w.heap.size + 1) (by omega)).trans b1
 have bwV : Below w.heap.size w V := bw1.trans ⟨bV.os, bV.tape, bV.output, bV.size, fun i hi => bV.block i (by omega)⟩
 have HW1 := h_ hw1
 have HS1 := h_ hs1
 clear hw1 b0 b1 bw1 C1 hs1
 gi_wp2_with (refine ⟨trivial, ?_⟩; gi_at_call 186; refine (callsIn_wide.2 (splitSeq_any _ l)).mono ?_; rintro e w2 ⟨rfl, rfl⟩)
 rw [← hV]
 have hs1 := HS1.out
 refine range_brk (gf := 218) (lb := #[.pointer (some ⟨w1.heap.size + 1, 0, none⟩), .pointer (some ⟨w1.heap.size, 0, none⟩), .pointer (some ⟨w1.heap.size + 2, 0, none⟩)]) rfl (enters_of Tryz.func218 (by kernel_rfl) rfl) (encs := fun x : List UInt8 => #[.string (strOf x)]) (n₁ := V.heap.size) (Nat.le_refl _)
  (S := fun ys => ys = cutL l) (Sp := fun _ => True) (Ex := fun pre x _ => (pre ++ [x]) <+: cutL l) (Si := [w1.heap.size]) (T := [w.heap.size, w.heap.size + 1]) ?si ?seq (fun _ => rfl)
  (fun pre W => (W.heap[w.heap.size]? = some (.cells #[.int .i64 (pre.length : Int)] 3 (0, 0)) ∧ W.heap[w.heap.size + 1]? = some (.cells #[.int .i64 0] 50 (0, 0))) ∧ (pre.length ≤ 6 ∧ pre.all (partL 12) = true) ∧ Below w.heap.size w W ∧ V.heap.size ≤ W.heap.size)
  (fun c pre W => c = .exit 0 ∧ W.heap[w.heap.size + 1]? = some (.cells #[.int .i64 2] 50 (0, 0)) ∧ checkL 6 12 l = false ∧ Below w.heap.size w W)
  ?keep ?keepx ⟨⟨by simpa using b0', b1'⟩, ⟨by simp, rfl⟩, bwV, Nat.le_refl _⟩ ?elem
  (fun x => { tmps := #[.string (strOf l), undef, .int .i64 0, .pointer (some ⟨w.heap.size, 0, none⟩), .pointer (some ⟨w.heap.size + 1, 0, none⟩), .string (strOf x), .string (strOf l), .func (.func 218) #[] #[.pointer (some ⟨w1.heap.size + 1, 0, none⟩), .pointer (some ⟨w1.heap.size, 0, none⟩), .pointer (some ⟨w1.heap.size + 2, 0, none⟩)], .string (strOf x), undef, undef, undef, undef, undef, undef, undef, undef, undef, undef], defers := [] }) ?assign ?body ?done ?stop
 case si => intro x hx; simp at hx; omega
 case seq =>
  intro l' J Jx W hW hJ hJx hY h0
  have hs2 := hW.size
  exact split1_gives 3 l' V.heap.size w1.heap.size (w1.heap.size + 1) (w1.heap.size + 2) [w.heap.size, w.heap.size + 1] l hlen J Jx W (by omega) (by omega) (by omega) (by omega) (by omega) (by simp; omega) (by simp; omega) (by simp; omega) (by omega) hJ hY
   ((hW.cell (p := ⟨w1.heap.size + 1, 0, none⟩) (show w1.heap.size + 1 < V.heap.size by omega)).trans (by rw [cell_of v1]; rfl)) ((hW.block _ (by omega)).trans v0) ((hW.cell (p := ⟨w1.heap.size + 2, 0, none⟩) (show w1.heap.size + 2 < V.heap.size by omega)).trans (by rw [cell_of v2]; rfl)) h0
 case keep =>
  rintro pre A' B' ⟨⟨e4, e5⟩, hp, b, hz⟩ hb
  exact ⟨⟨(hb.block _ (by omega) (by simp; omega)).trans e4, (hb.block _ (by omega) (by simp; omega)).trans e5⟩, hp, b.trans ⟨hb.os, hb.tape, hb.output, hb.size, fun k hk => hb.block k (by omega) (by simp; omega)⟩, Nat.le_trans hz hb.size⟩
 case keepx =>
  rintro c pre A' B' ⟨hc, e5, hp, b⟩ hb
  exact ⟨hc, (hb.block _ (by omega) (by simp; omega)).trans e5, hp, b.trans ⟨hb.os, hb.tape, hb.output, hb.size, fun k hk => hb.block k (by omega) (by simp; omega)⟩⟩
 case elem =>
  rintro pre x W l o o' hl ho hx
  exact hx
 case assign =>
  intro l x W K hK
  clear hs1
  gi_wp2
  exact hK
 case body =>
  rintro l' pre x W ⟨⟨e4, e5⟩, ⟨hp1, hp2⟩, b, hz⟩ hx
  have c4 := cell_of e4 0
  have f4 := free_of e4 0
  have c5 := cell_of e5 0
  have f5 := free_of e5 0
  simp only [gA, gZ] at c4 c5
  have q4 : (W.setCell ⟨w.heap.size, 0, none⟩ (.int .i64 ((pre.length : Int) + 1))).heap[w.heap.size]? = some (.cells #[.int .i64 ((pre.length : Int) + 1)] 3 (0, 0)) := by simpa using heap_setCell_same W w.heap.size 0 _ _ (.int .i64 ((pre.length : Int) + 1)) e4
  have q5 : (W.setCell ⟨w.heap.size, 0, none⟩ (.int .i64 ((pre.length : Int) + 1))).heap[w.heap.size + 1]? = some (.cells #[.int .i64 0] 50 (0, 0)) := (heap_setCell_other W ⟨w.heap.size, 0, none⟩ (w.heap.size + 1) _ (by simp)).trans e5
  have bW : Below w.heap.size w (W.setCell ⟨w.heap.size, 0, none⟩ (.int .i64 ((pre.length : Int) + 1))) := b.setCell (p := ⟨w.heap.size, 0, none⟩) (Nat.le_refl _) _
  have HX := h_ hx
  have HP := h_ hp2
  have BW := h_ bW
  have Q4 := h_ q4
  have Q5 := h_ q5
  have HZ := h_ hz
  have KW := h_ ((Chg.refl [w.heap.size] W).setCell (p := ⟨w.heap.size, 0, none⟩) (.inl (by simp)) (.int .i64 ((pre.length : Int) + 1)))
  clear hs1 hx hp2 b e4 e5 q4 q5 bW hz
  have k0 : IntKind.i64.wrap ((pre.length : Int) + 1) = (pre.length : Int) + 1 := IntWalk.i64_in _ (by omega)
  by_cases h6 : 6 ≤ pre.length
  ·
   have i6 : (6 : Int) < (pre.length : Int) + 1 := by omega
   gi_wp2_with (refine ⟨trivial, ?_⟩)
   exact ⟨(KeepsOthers.setCell _ _ _).trans (KeepsOthers.setCell _ _ _), rfl, by simpa using heap_setCell_same _ (w.heap.size + 1) 0 _ _ (.int .i64 2) Q5.out, check_no2 HX.out h6, BW.out.setCell (p := ⟨w.heap.size + 1, 0, none⟩) (Nat.le_succ _) _⟩
  ·
   have i6 : ¬ ((6 : Int) < (pre.length : Int) + 1) := by omega
   have i7 : (pre.length : Int) + 1 ≤ 6 := by omega
   cases hpx : partL 12 x with
   | false =>
    have PX := h_ (fun w => hpx ▸ isPart_any w x)
    have HPX := h_ hpx
    clear hpx
    gi_wp2_with (refine ⟨trivial, ?_⟩; gi_at_call 187; refine (CallsIn.inRound l' (callsIn_wide.2 (PX.out _))).mono ?_; rintro e w9 ⟨rfl, hb9⟩; have p5 := (hb9.block (w.heap.size + 1) (lt_of_heap Q5.out)).trans Q5.out; have c59 := cell_of p5 0; simp only [gA, gZ] at c59; have f59 := free_of p5 0; have P5 := h_ p5; have P4 := h_ ((hb9.block w.heap.size (lt_of_heap Q4.out)).trans Q4.out); have HB9 := h_ hb9; clear p5 hb9)
    have hbw : Below w.heap.size w w9 := BW.out.trans ⟨HB9.out.os, HB9.out.tape, HB9.out.output, HB9.out.size, fun i hi => HB9.out.block i (Nat.lt_of_lt_of_le hi BW.out.size)⟩
    exact ⟨((KeepsOthers.setCell _ _ _).trans (below_others HB9.out)).trans (KeepsOthers.setCell _ _ _), rfl, by simpa using heap_setCell_same w9 (w.heap.size + 1) 0 _ _ (.int .i64 2) P5.out, check_no1 HX.out HPX.out, hbw.setCell (p := ⟨w.heap.size + 1, 0, none⟩) (Nat.le_succ _) _⟩
   | true =>
    have PX := h_ (fun w => hpx ▸ isPart_any w x)
    have HPX := h_ hpx
    clear hpx
    gi_wp2_with (refine ⟨trivial, ?_⟩; gi_at_call 187; refine (CallsIn.inRound l' (callsIn_wide.2 (PX.out _))).mono ?_; rintro e w9 ⟨rfl, hb9⟩; have p5 := (hb9.block (w.heap.size + 1) (lt_of_heap Q5.out)).trans Q5.out; have c59 := cell_of p5 0; simp only [gA, gZ] at c59; have f59 := free_of p5 0; have P5 := h_ p5; have P4 := h_ ((hb9.block w.heap.size (lt_of_heap Q4.out)).trans Q4.out); have HB9 := h_ hb9; clear p5 hb9)
    have hbw : Below w.heap.size w w9 := BW.out.trans ⟨HB9.out.os, HB9.out.tape, HB9.out.output, HB9.out.size, fun i hi => HB9.out.block i (Nat.lt_of_lt_of_le hi BW.out.size)⟩
    refine ⟨(KeepsOthers.setCell _ _ _).trans (below_others HB9.out), ?_, ⟨⟨by simpa using P4.out, P5.out⟩, ⟨by simp; omega, by simp [HPX.out]; simpa using HP.out⟩, hbw, ?_⟩⟩
    ·
     exact ((Kpt.of_chg KW.out HZ.out).mono (Nat.le_refl _) (by simp)).trans (Kpt.of_below HB9.out (Nat.le_trans HZ.out KW.out.size))
    ·
     exact Nat.le_trans HZ.out (Nat.le_trans KW.out.size HB9.out.size)
 case done =>
  rintro D ys W hD rfl ⟨⟨_, e5⟩, ⟨hp1, hp2⟩, hB, _⟩ hK
  have hck : checkL 6 12 l = true := by simp [checkL, hp1, hp2]
  have c5 := cell_of e5 0
  simp at c5
  have HC := h_ hck
  clear hs1 hck
  gi_wp2
  refine ⟨by simp, .inl ⟨_, _, rfl, run_takeDeferred hK, ?_⟩⟩
  exact ⟨_, results_tmp rfl _ _ _, by rw [HC.out]; rfl, hB.trans (belowK_b (w := w) (Nat.le_refl _) W D _ _ (by have := HS1.out; omega) hK rfl rfl)⟩
 case stop =>
  rintro D c ys W hD _ ⟨rfl, e5, hck, hB⟩ hK
  have c5 := cell_of e5 0
  simp at c5
  have HC := h_ hck
  clear hs1 hck
  refine wpIn_exit ?_
  gi_wp2
  refine ⟨by simp, .inl ⟨_, _, rfl, run_takeDeferred hK, ?_⟩⟩
  exact ⟨_, results_tmp rfl _ _ _, by rw [HC.out]; rfl, hB.trans (belowK_b (w := w) (Nat.le_refl _) W D _ _ (by have := HS1.out; omega) hK rfl rfl)⟩
end
end Go.Proofs.YtehmchdhlhchjaaGreatDoor
