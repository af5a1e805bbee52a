/- numbered, of slices.Chunk. -/
import Derived.Test.YtnpilljjkfjjiaaCkseq
import Derived.Test.YtnpilljjkfjjiaaCkbox
import Derived.OwnWalkIn
namespace Go.Proofs.Ytnpilljjkfjjiaa
open Go.RowKit
set_option linter.unusedSimpArgs false
set_option linter.unusedVariables false
attribute [local go_sem] Oper.semAt_some

def encQ (g o len j : Nat) : Array Value := #[.int .i64 (j : Int), .slice (some ⟨g, o + j * 200, none⟩) (pieceL len j) (pieceL len j)]
theorem Chg.ofPut (k : Nat) (A : World) (o : Obj) : Chg [k] A (A.putObj k o) := ⟨rfl, rfl, rfl, by simp [World.putObj], fun i _ hn => World.putObj_heap_other (by simpa using hn)⟩
set_option maxRecDepth 100000 in
set_option maxHeartbeats 4000000 in
theorem numba_gives (p l bl bs bn g o len c : Nat) (T : List Nat) (hl0 : 0 < len) (hlc : len ≤ c) (hc : c ≤ 9223372036854775807) (hlen : len ≤ 60000) (J : Nat → List Nat → World → Prop) (W : World) (hl : l < W.heap.size) (hbl : bl < W.heap.size) (hbs : bs < W.heap.size) (hbn : bn < W.heap.size) (nbl : bl ∉ l :: T) (nbs : bs ∉ l :: T) (nbn : bn ∉ l :: T) (hTs : ∀ x ∈ T, x < W.heap.size)
    (hJ : ∀ m pre A B Sx, (∀ k ∈ Sx, W.heap.size ≤ k ∧ k < m) → J m pre A → Chg Sx A B → J m pre B)
    (hY : ∀ m pre x W1, m ≤ W1.heap.size → W.heap.size ≤ m → J m pre W1 → (x = pre.length ∧ x * 200 < len) → YieldAt Fence.wide (p + 1) Try.prog l (encQ g o len x) W1 fun e W' => e = .returned (.bool true) ∧ J m (pre ++ [x]) W' ∧ Kpt m (l :: T) W1 W' ∧ KeepsOthers W1 W')
    (h0 : ∀ m, J m [] W) (cl : W.cell? ⟨bl, 0, none⟩ = some (.func (.func 39) #[] #[.pointer (some ⟨bs, 0, none⟩), .pointer (some ⟨bn, 0, none⟩)])) (cs : W.cell? ⟨bs, 0, none⟩ = some (.slice (some ⟨g, o, none⟩) len c)) (cn : W.cell? ⟨bn, 0, none⟩ = some (.int .i64 200)) :
    CallsIn Fence.wide (p + 2) Try.prog 38 #[.func (.yield l) #[] #[], .pointer (some ⟨bl, 0, none⟩)] W fun e W' => (∃ v, e = .returned v) ∧ ∃ m ys, ys.length = piecesN len ∧ J m ys W' := by
  have h1 : 1 ≤ p + 2 := by omega
  have hro : Fence.wide.round = none := rfl
  refine callsIn_of_wp_marks Try.func38 rfl trivial ?_ hro
  simp only [Try.ntmps38, List.size_toArray, List.length_cons, List.length_nil, Nat.reduceAdd, Nat.reduceSub, Array.replicate_succ, Array.replicate_zero, List.push_toArray, List.append_toArray, List.nil_append, List.cons_append]
  obtain ⟨V1, hV1, C1, b0, b1⟩ := news2 W (.cells #[.func (.yield l) #[] #[]] 34) (.cells #[.int .i64 0] 3)
  have hs1 : V1.heap.size = W.heap.size + 2 := by rw [hV1]; simp
  have c1 := C1.cell cl (by simp)
  have c2 := C1.cell cs (by simp)
  have c3 := C1.cell cn (by simp)
  have HV := Lib.hid hV1
  clear hV1
  gi_wp2
  rw [← HV.out]
  refine range_own1 (gf := 39) (lb := #[.pointer (some ⟨bs, 0, none⟩), .pointer (some ⟨bn, 0, none⟩)]) rfl (enters_of Try.func39 (by kernel_rfl) rfl) (encs := encP g o len) (n₁ := V1.heap.size) (Nat.le_refl _)
    (S := fun ys => ys.length = piecesN len) (Sp := fun _ => True) (Ex := fun pre x _ => x = pre.length ∧ x * 200 < len) (Bd := fun _ => True) (Si := []) (T := (W.heap.size + 1) :: l :: T) ?si ?seq (fun _ => rfl)
    (fun pre V => J (V1.heap.size + 2) pre V ∧ V.heap[W.heap.size]? = some (.cells #[.func (.yield l) #[] #[]] 34 (0, 0)) ∧ V.heap[W.heap.size + 1]? = some (.cells #[.int .i64 (pre.length : Int)] 3 (0, 0)) ∧ V1.heap.size ≤ V.heap.size)
    (fun _ _ _ => False) ?keep ?keepx ?kl ?kxl ?bd ⟨hJ _ _ _ _ [] (by simp) (h0 _) C1, b0, b1, Nat.le_refl _⟩ ?elem
    (fun x => { tmps := #[.func (.yield l) #[] #[], .pointer (some ⟨bl, 0, none⟩), .pointer (some ⟨W.heap.size, 0, none⟩), .pointer (some ⟨W.heap.size + 1, 0, none⟩), .slice (some ⟨g, o + x * 200, none⟩) (pieceL len x) (pieceL len x), .func (.func 39) #[] #[.pointer (some ⟨bs, 0, none⟩), .pointer (some ⟨bn, 0, none⟩)], .slice (some ⟨g, o + x * 200, none⟩) (pieceL len x) (pieceL len x), undef, undef, undef, undef, undef, undef, undef], defers := [] }) ?assign ?body ?done ?stop
  case si => intro x hx; cases hx
  case seq =>
    intro l' J' Jx' W2 hW hJ' hJx' hJb' hY' hI0
    have hsz := hW.size
    have nT : ∀ y, y < W.heap.size → y ∉ l :: T → y ∉ (W.heap.size + 1) :: l :: T := fun y h1 h2 hm => by rcases List.mem_cons.1 hm with e | e; omega; exact h2 e
    exact chunka_gives p l' V1.heap.size bs bn ((W.heap.size + 1) :: l :: T) g o len c hl0 hlc hc hlen J' Jx' W2 (by omega) (by omega) (nT bs hbs nbs) (nT bn hbn nbn) hsz hJ' hY'
      ((hW.cell (p := ⟨bs, 0, none⟩) (show bs < V1.heap.size by omega)).trans c2) ((hW.cell (p := ⟨bn, 0, none⟩) (show bn < V1.heap.size by omega)).trans c3) hI0
  case keep =>
    rintro pre A B ⟨hj, e0, e1, hz⟩ hb
    exact ⟨hJ _ _ _ _ [] (by simp) hj hb, hb.at_ e0 (by simp), hb.at_ e1 (by simp), Nat.le_trans hz hb.size⟩
  case keepx => rintro c pre A B h; exact h.elim
  case kl =>
    rintro pre A l1 o1 o' hl1 ho rfl ⟨hj, e0, e1, hz⟩
    exact ⟨hJ _ _ _ _ [V1.heap.size + 1] (by simp; omega) hj (Chg.ofPut _ _ _), (World.putObj_heap_other (by omega)).trans e0, (World.putObj_heap_other (by omega)).trans e1, by simpa [World.putObj] using hz⟩
  case kxl => rintro c pre A l1 o1 o' hl1 ho _ h; exact h.elim
  case bd => exact fun _ _ _ => trivial
  case elem => rintro pre x W l o o' hl ho hx; exact hx
  case assign =>
    intro l1 x V K hK
    clear hs1
    unfold encP
    gi_wp2
    exact hK
  case body =>
    rintro l' pre x V hV2 ⟨hj, e0, e1, hz⟩ ⟨rfl, hlt⟩
    have k0 := cell_of e0 0
    have k1 := cell_of e1 0
    simp only [List.getElem?_toArray, List.getElem?_cons_zero] at k0 k1
    obtain ⟨fn, tt, asg, bd, hy, hR⟩ := hY (V1.heap.size + 2) pre pre.length V hV2 (by omega) hj ⟨rfl, hlt⟩
    unfold encQ at hy
    have HS := Lib.hid hs1
    have i0 : IntKind.i64.wrap ((pre.length : Int) + 1) = ((pre.length + 1 : Nat) : Int) := by rw [IntWalk.i64_in _ (by omega)]; omega
    clear hs1
    gi_wp2
    refine ⟨fun hd => Bool.noConfusion hd, (RoundIn.within (m := p - 1) (l' := l') hR).mono ?_⟩
    rintro e W3 ⟨rfl, hj3, hk3, ho3⟩
    have hs1 := HS.out
    have nT : ∀ y, W.heap.size ≤ y → y ∉ l :: T := fun y h1 hm => by rcases List.mem_cons.1 hm with e | e; omega; have := hTs y e; omega
    have e03 := (hk3.block W.heap.size (by omega) (nT _ (Nat.le_refl _))).trans e0
    have e13 := (hk3.block (W.heap.size + 1) (by omega) (nT _ (by omega))).trans e1
    have k3 := cell_of e13 0
    have f3 := free_of e13 0
    simp only [List.getElem?_toArray, List.getElem?_cons_zero] at k3
    have E03 := Lib.hid e03
    have E13 := Lib.hid e13
    have J3 := Lib.hid hj3
    have K3 := Lib.hid hk3
    have O3 := Lib.hid ho3
    clear e03 e13 hj3 hk3 ho3 hj e0 e1 hR hy k0 k1 hs1
    gi_wp2
    have hs1 := HS.out
    have hst := (Chg.refl [W.heap.size + 1] W3).setCell (p := ⟨W.heap.size + 1, 0, none⟩) (.inl (by simp)) (.int .i64 ((pre.length : Int) + 1))
    refine ⟨O3.out.trans (KeepsOthers.setCell _ _ _), ?_, hJ _ _ _ _ [W.heap.size + 1] (by simp; omega) J3.out hst, hst.at_ E03.out (by simp), ?_, ?_⟩
    · exact ((K3.out.mono (n := V1.heap.size) (T := (W.heap.size + 1) :: l :: T) (by omega) (fun x hx => List.mem_cons_of_mem _ hx))).trans (Kpt.of_chg (hst.mono (fun i hi => .inl (by simp at hi; simp [hi]))) (by have := K3.out.size; omega))
    · have := heap_setCell_same W3 (W.heap.size + 1) 0 _ _ (.int .i64 ((pre.length : Int) + 1)) E13.out
      simpa using this
    · have := K3.out.size
      have := hst.size
      omega
  case done =>
    rintro D ys V rfl hS ⟨hj, e0, e1, hz⟩ hK
    have HJ := Lib.hid (hJ _ _ _ _ [V1.heap.size] (by simp; omega) hj (Chg.ofPut V1.heap.size V (.deferred none)))
    clear hj e0 e1 hs1
    gi_wp2
    refine ⟨by simp, .inl ⟨_, _, rfl, run_takeDeferred hK, ?_⟩⟩
    refine ⟨_, results_none rfl _ _ _, ⟨_, rfl⟩, V1.heap.size + 2, ys, hS, ?_⟩
    exact HJ.out
  case stop => rintro D c xs V _ _ h; exact h.elim
end Go.Proofs.Ytnpilljjkfjjiaa
