/- slices.Clone, slices.Compact over dots; dot.Sort. -/
import Derived.Test.YtmcnfopiilplnaaDoorDsort
namespace Go.Proofs.YtmcnfopiilplnaaDoor
open Go.RowKit Go.Sort Go.Lib
set_option linter.unusedSimpArgs false
set_option linter.unusedVariables false

theorem RdK.none_nil {α : Type} {R : RowTy α} {w : World} {n : Nat} {xs : List α} (h : RdK R w none n xs) : xs = [] := by
  cases xs with
  | nil => rfl
  | cons y ys =>
    have : 0 < (R.flat (y :: ys)).length := by rw [R.flat_len, List.length_cons]; exact Nat.mul_pos (by omega) R.kpos
    obtain ⟨a, h, _⟩ := h.cells 0 _ (List.getElem?_eq_getElem this); cases h
set_option maxRecDepth 100000 in
set_option maxHeartbeats 1000000 in
theorem cloneDot_any (w : World) (A : Option Addr) (n c : Nat) (xs : List (Int × Int)) (h : RdK dotTy w A n xs) (hn : n * 400 ≤ 140737488355327) :
    Calls Tryd.prog 34 #[.slice A n c] w fun e w' => ∃ A' c', e = .returned (.slice A' n c') ∧ OwnK dotTy w' A' c' xs ∧ (∀ a, A' = some a → w.heap.size ≤ a.block) ∧ Chg [] w w' := by
  have heq := fun W => Lib.run_eql_slice_nil (P := Tryd.prog) W 24 23 A n c 0 0 Tryd.underlying24
  cases A with
  | none =>
    have hx := h.none_nil
    subst hx
    have hl : n = 0 := h.len.symm
    subst hl
    clear h
    go_enter Tryd.func34, Tryd.ntmps34
    go_wp2
    go_ret
    exact ⟨none, 0, rfl, OwnK.none_ _, by simp, Chg.refl _ _⟩
  | some ad =>
    obtain ⟨w1, hw1, c1, b1⟩ := news1 w (.cells #[] 23)
    have W1 := Lib.hid hw1
    have HA := Lib.hid (h.chg c1 (by simp))
    have HO : Hid (OwnK dotTy w1 (some ⟨w.heap.size, 0, none⟩) 0 []) := Lib.hid (.of (full := []) b1 (Nat.le_refl _) (Nat.zero_le _) rfl rfl)
    have C1 := Lib.hid c1
    have HN : Hid ((0 + n) * 400 ≤ 140737488355327) := Lib.hid (by rw [Nat.zero_add]; exact hn)
    clear hw1 c1 b1 h hn
    go_enter Tryd.func34, Tryd.ntmps34
    go_wp2_with (at_builtin; rw [← W1.out]; refine wpList_appK rfl _ _ rfl rfl HO.out rfl rfl HA.out HN.out ?_; intro A2 c2 w2 u2 d2 e2)
    go_ret
    rw [Nat.zero_add] at *
    have hA2 : ∀ a, A2 = some a → w.heap.size ≤ a.block := by
      rintro a rfl
      rcases e2 with h | h
      · cases h; exact Nat.le_refl _
      · cases h; exact C1.out.size
    exact ⟨A2, c2, by simp, by simpa using u2, hA2, C1.out.grown d2 (fun k hk => by simp at hk; subst hk; exact .inr (Nat.le_refl _))⟩

/-- What is cleared from some place on. -/
theorem run_clearD (w : World) (ty : TypeId) (g c n k : Nat) (full : List (Int × Int)) (hg : w.heap[g]? = some (.cells (dotTy.flat full).toArray 23 (0, 0))) (hl : full.length = c) (hn : n ≤ c) (hk : k < n) :
    (Builtin.clear_ #[24] ty #[.slice (some ⟨g, k * 2, none⟩) (n - k) (c - k)]).run Tryd.prog w = .ok (.tuple #[]) (w.setRow g (dotTy.flat (full.take k ++ List.replicate (n - k) (0, 0) ++ full.drop n)).toArray) := by
  have hz := dotTy.zeros (n - k)
  have hk2 : dotTy.k = 2 := rfl
  have hlen : (dotTy.flat full).length = full.length * 2 := dotTy.flat_len full
  have hlz : (dotTy.flat (List.replicate (n - k) dotTy.z)).length = (n - k) * 2 := by rw [dotTy.flat_len, List.length_replicate, hk2]
  have hst := run_storeCells_at (P := Tryd.prog) g (k * 2) 23 (dotTy.flat (List.replicate (n - k) dotTy.z)) 0 _ w hg (by rw [hlz, List.size_toArray, hlen]; omega) (dotTy.flat_one _)
  have ht := dotTy.flat_take full k
  have hd := dotTy.flat_drop full n
  rw [hk2] at ht hd
  have hfin : ((dotTy.flat full).toArray.toList.take (k * 2 + 0) ++ dotTy.flat (List.replicate (n - k) dotTy.z) ++ (dotTy.flat full).toArray.toList.drop (k * 2 + 0 + (dotTy.flat (List.replicate (n - k) dotTy.z)).length)) = dotTy.flat (full.take k ++ List.replicate (n - k) (0, 0) ++ full.drop n) := by
    rw [dotTy.flat_app, dotTy.flat_app, ht, hd, hlz, show k * 2 + 0 + (n - k) * 2 = n * 2 by omega]
    rfl
  rw [hfin] at hst
  obtain ⟨m, hm⟩ : ∃ m, n - k = m + 1 := ⟨n - k - 1, by omega⟩
  have hzv : ∀ w, (zeroValue 23).run Tryd.prog w = .ok (.agg #[.int .i64 0, .int .i64 0]) w := Tryd.zeroValue23
  have hzz : (Builtin.zeroCells (Value.agg #[.int .i64 0, .int .i64 0]).cells (n - k)).toList = dotTy.flat (List.replicate (n - k) dotTy.z) := by
    exact (congrArg Array.toList hz).trans (by simp)
  rw [hm] at hst hzz ⊢
  simp [Builtin.clear_, run_underlying Tryd.underlying24, hzv, hzz, hst]
instance : Inhabited (Int × Int) := ⟨(0, 0)⟩
theorem dk_at {dk : Array (Int × Int)} {rest : List (Int × Int)} {j : Nat} (h : j < dk.size) : (dk.toList ++ rest)[j]? = some dk[j]! := by
  rw [List.getElem?_append_left (by simpa using h), Array.getElem?_toList, Array.getElem?_eq_getElem h, getElem!_pos dk j h]
theorem dk_set {dk : Array (Int × Int)} {rest : List (Int × Int)} {j : Nat} (x : Int × Int) (h : j < dk.size) : (dk.toList ++ rest).set j x = (dk.setIfInBounds j x).toList ++ rest := by
  rw [List.set_append_left _ _ (by simpa using h), Array.toList_setIfInBounds]
/-- The row, as far as it is gone through. -/
structure RowD (w wr : World) (g : Nat) (dk : Array (Int × Int)) (rest : List (Int × Int)) : Prop where
  row : wr.heap[g]? = some (.cells (dotTy.flat (dk.toList ++ rest)).toArray 23 (0, 0))
  chg : Chg [g] w wr
theorem RowD.at_ {w wr : World} {g : Nat} {dk : Array (Int × Int)} {rest : List (Int × Int)} (h : RowD w wr g dk rest) (hm : (dk.toList ++ rest).length ≤ maxLen) {j : Nat} (hj : j < dk.size) :
    (wr.cell? ⟨g, j * 2, none⟩ = some (.int .i64 dk[j]!.1) ∧ wr.cell? ⟨g, j * 2 + 1, none⟩ = some (.int .i64 dk[j]!.2)) ∧ wr.frozen? ⟨g, j * 2, none⟩ = false ∧ wr.frozen? ⟨g, j * 2 + 1, none⟩ = false := by
  have hrd : RdK dotTy wr (some ⟨g, 0, none⟩) (dk.toList ++ rest).length (dk.toList ++ rest) := (OwnK.of (R := dotTy) (xs := dk.toList ++ rest) h.row (Nat.le_refl _) hm rfl (List.take_length)).reads
  have := dotCells hrd (dk_at hj)
  simp only [Nat.zero_add] at this
  exact ⟨this, free_of h.row _, free_of h.row _⟩
theorem RowD.put {w wr : World} {g : Nat} {dk : Array (Int × Int)} {rest : List (Int × Int)} (h : RowD w wr g dk rest) {j : Nat} (hj : j < dk.size) (x : Int × Int) :
    RowD w ((wr.setCell ⟨g, j * 2, none⟩ (.int .i64 x.1)).setCell ⟨g, j * 2 + 1, none⟩ (.int .i64 x.2)) g (dk.setIfInBounds j x) rest := by
  refine ⟨?_, h.chg.trans (((Chg.refl [g] wr).setCell (p := ⟨g, j * 2, none⟩) (.inl (by simp)) _).setCell (p := ⟨g, j * 2 + 1, none⟩) (.inl (by simp)) _)⟩
  have := dotPut wr g j (dk.toList ++ rest) x h.row (by simp; omega)
  rwa [dk_set x hj] at this
theorem RowD.drew {w wr : World} {g : Nat} {dk : Array (Int × Int)} {rest : List (Int × Int)} (h : RowD w wr g dk rest) (n : Nat) : RowD w (wr.drewN n) g dk rest := ⟨h.row, h.chg.drewN n⟩
theorem Lib.CompInv.take_ {d dk : Array (Int × Int)} {m k : Nat} (h : CompInv d m k dk) (hm : m ≤ d.size) : dk.toList.take k = compactUpTo d m := by
  apply List.ext_getElem?
  intro j
  have hk := h.lt
  have hs := h.size
  by_cases hj : j < k
  · rw [List.getElem?_take, if_pos hj, h.low j hj, Array.getElem?_toList, Array.getElem?_eq_getElem (by omega), getElem!_pos dk j (by omega)]
  · rw [List.getElem?_eq_none (by simp; omega), List.getElem?_eq_none (by rw [h.len]; omega)]
/-- What is left when what is told twice is left out. -/
def cmpct (xs : List (Int × Int)) : List (Int × Int) := compactUpTo xs.toArray xs.length
set_option maxHeartbeats 4000000 in
theorem compactDot_row (w : World) (g c : Nat) (xs rest : List (Int × Int)) (hg : w.heap[g]? = some (.cells (dotTy.flat (xs ++ rest)).toArray 23 (0, 0))) (hc : (xs ++ rest).length = c) (hcm : c ≤ 9223372036854775807) (h2 : ¬ xs.length < 2) :
    Calls Tryd.prog 37 #[.slice (some ⟨g, 0, none⟩) xs.length c] w fun e w' => e = .returned (.slice (some ⟨g, 0, none⟩) (cmpct xs).length c) ∧ OwnK dotTy w' (some ⟨g, 0, none⟩) c (cmpct xs) ∧ Chg [g] w w' := by
  obtain ⟨d, hd⟩ : ∃ d : Array (Int × Int), d = xs.toArray := ⟨_, rfl⟩
  have hds : d.size = xs.length := by rw [hd]; simp
  have hdl : d.toList = xs := by rw [hd]
  have hcr : d.size + rest.length = c := by rw [hds, ← hc, List.length_append]
  have hml : ∀ dk : Array (Int × Int), dk.size = d.size → (dk.toList ++ rest).length ≤ maxLen := fun dk h => by rw [List.length_append, Array.length_toList]; unfold maxLen; omega
  have HM := Lib.hid hml
  have hall0 : (∀ j, j < d.size → keeps d j = true) → cmpct xs = xs := fun h => by
    unfold cmpct
    rw [← hds, ← hd, compactUpTo_all d _ h, range_map_get, hdl]
  have HX := Lib.hid hall0
  have hct : cmpct xs = compactUpTo d d.size := by unfold cmpct; rw [hd]; simp
  have HC := Lib.hid hct
  have HR : Hid (RowD w w g d rest) := Lib.hid ⟨by rw [hdl]; exact hg, Chg.refl _ _⟩
  have HO := Lib.hid (OwnK.of (R := dotTy) (full := xs ++ rest) (xs := xs) hg (by rw [← hc]; simp) (by unfold maxLen; omega) hc List.take_left)
  have HD := Lib.hid hdl
  rw [← hds] at h2 ⊢
  have h2' : ¬ ((d.size : Int) < 2) := by omega
  have HS := Lib.hid hds
  have HCR := Lib.hid hcr
  have hle : d.size ≤ c := by omega
  clear hd hds hdl hml hall0 hct hg hc hcr
  go_enter Tryd.func37, Tryd.ntmps37
  go_wp2
  go_loopg [3] d.size (fun G s3 wr => ∃ k : Nat, 1 ≤ k ∧ k ≤ d.size ∧ d.size - k ≤ G ∧ s3 = .int .i64 k ∧ Hid (Chg [] w wr ∧ ∀ j, j < k → keeps d j = true))
  case atStart => exact ⟨1, Nat.le_refl _, by omega, by omega, rfl, Chg.refl _ _, keeps_lt_one d⟩
  case round =>
    obtain ⟨k, hk1, hk, hG, rfl, HA⟩ := hrel
    by_cases hlt : k < d.size
    · have hrow : RowD w wr g d rest := ⟨HA.out.1.at_ HR.out.row (by simp), HA.out.1.mono (by simp)⟩
      obtain ⟨⟨p0, p1⟩, _⟩ := hrow.at_ (HM.out d rfl) hlt
      obtain ⟨⟨q0, q1⟩, _⟩ := hrow.at_ (HM.out d rfl) (j := k - 1) (by omega)
      have HRW := Lib.hid hrow
      have i0 : (0 : Int) ≤ (k : Int) := by omega
      have i1 : (k : Int) < (d.size : Int) := by omega
      have i2 : IntKind.i64.wrap ((k : Int) - 1) = ((k - 1 : Nat) : Int) := by rw [IntWalk.i64_in _ (by omega)]; omega
      have i3 : ((k - 1 : Nat) : Int) < (d.size : Int) := by omega
      generalize hx : d[k]! = x at *
      generalize hy : d[k - 1]! = y at *
      have B := Lib.hid (And.intro hx hy)
      clear hrow hx hy
      by_cases hxy : x = y
      · subst hxy
        skip
        go_wp2_with fail
        go_quiet (fail)
        clear p0 p1 q0 q1
        have i4 : (0 : Int) ≤ ((d.size - k : Nat) : Int) := by omega
        have i5 : ¬ c = k := by omega
        go_wp2
        go_loopg [3, 5] d.size (fun G s3 s5 wr => ∃ (kk k2 : Nat) (dk : Array (Int × Int)), s3 = .int .i64 kk ∧ s5 = .int .i64 k2 ∧ 1 ≤ k2 ∧ k + k2 ≤ d.size ∧ d.size - (k + k2) ≤ G ∧ Hid (RowD w wr g dk rest ∧ CompInv d (k + k2) kk dk))
        case atStart => exact ⟨k, 1, d, rfl, rfl, Nat.le_refl _, by omega, by omega, HRW.out.drew _, CompInv.start HA.out.2 (keeps_neg (by omega) (by rw [B.out.1, B.out.2]))⟩
        case round =>
          obtain ⟨kk, k2, dk, rfl, rfl, h1, hle2, hg2, HI⟩ := hrel
          have hkk := HI.out.2.lt
          have hds := HI.out.2.size
          by_cases hlt2 : k + k2 < d.size
          · obtain ⟨⟨p0, p1⟩, _⟩ := HI.out.1.at_ (HM.out dk hds) (j := k + k2) (by omega)
            obtain ⟨⟨q0, q1⟩, _⟩ := HI.out.1.at_ (HM.out dk hds) (j := k + k2 - 1) (by omega)
            obtain ⟨⟨r0, r1⟩, f0, f1⟩ := HI.out.1.at_ (HM.out dk hds) (j := kk) (by omega)
            rw [HI.out.2.high (k + k2) (by omega), show (k + k2) * 2 = k * 2 + k2 * 2 by omega] at p0 p1
            rw [HI.out.2.high (k + k2 - 1) (by omega), show (k + k2 - 1) * 2 = k * 2 + (k2 - 1) * 2 by omega] at q0 q1
            generalize hu : d[k + k2]! = u at *
            generalize hv : d[k + k2 - 1]! = v at *
            generalize dk[kk]! = old at *
            have C := Lib.hid (And.intro hu hv)
            clear hu hv
            have HP := Lib.hid ((HI.out.1.drew 1).put (j := kk) (by omega) u)
            have j0 : (0 : Int) ≤ (k2 : Int) := by omega
            have j1 : (k2 : Int) < ((d.size - k : Nat) : Int) := by omega
            have j2 : IntKind.i64.wrap ((k2 : Int) - 1) = ((k2 - 1 : Nat) : Int) := by rw [IntWalk.i64_in _ (by omega)]; omega
            have j3 : ((k2 - 1 : Nat) : Int) < ((d.size - k : Nat) : Int) := by omega
            have j4 : (0 : Int) ≤ (kk : Int) := by omega
            have j5 : (kk : Int) < (d.size : Int) := by omega
            by_cases huv : u = v
            · subst huv
              go_wp2_with fail
              go_quiet (fail)
              go_wp2
              go_roundg (d.size - (k + (k2 + 1)))
              case measure => omega
              case rel => exact ⟨kk, k2 + 1, dk, rfl, by go_num, by omega, by omega, Nat.le_refl _, HI.out.1.drew _, HI.out.2.skip (keeps_neg (by omega) (by rw [C.out.1, C.out.2]))⟩
            · have HU := Lib.hid huv
              by_cases h0 : u.1 = v.1
              · have h1 : ¬ u.2 = v.2 := fun h => huv (Prod.ext h0 h)
                clear huv
                go_wp2_with fail
                go_quiet (fail)
                go_wp2
                go_roundg (d.size - (k + (k2 + 1)))
                case measure => omega
                case rel => exact ⟨kk + 1, k2 + 1, dk.setIfInBounds kk u, by go_num, by go_num, by omega, by omega, Nat.le_refl _, by have hp := (HI.out.1.drew nq).put (j := kk) (by omega) u; first | exact hp | (rw [h0] at hp; exact hp), by have := HI.out.2.keep hlt2 (keeps_pos (by rw [C.out.1, C.out.2]; exact HU.out)); rwa [C.out.1] at this⟩
              · skip
                clear huv
                go_wp2_with fail
                go_quiet (fail)
                go_wp2
                go_roundg (d.size - (k + (k2 + 1)))
                case measure => omega
                case rel => exact ⟨kk + 1, k2 + 1, dk.setIfInBounds kk u, by go_num, by go_num, by omega, by omega, Nat.le_refl _, by have hp := (HI.out.1.drew nq).put (j := kk) (by omega) u; first | exact hp | (rw [h0] at hp; exact hp), by have := HI.out.2.keep hlt2 (keeps_pos (by rw [C.out.1, C.out.2]; exact HU.out)); rwa [C.out.1] at this⟩
          · have hend : k + k2 = d.size := by omega
            have hcl := fun ty => run_clearD wr ty g c d.size kk (dk.toList ++ rest) HI.out.1.row (by rw [List.length_append, Array.length_toList, hds]; exact HCR.out) hle (by omega)
            have hI := HI.out.2
            rw [hend] at hI
            have hlen := hI.len
            have hdn := hI.done (0, 0)
            have j6 : ¬ c = kk := by omega
            have j7 : (kk : Int) ≤ (d.size : Int) := by omega
            have j8 : (0 : Int) ≤ (kk : Int) := by omega
            have HF := Lib.hid (And.intro hI hdn)
            clear hI hlen hdn
            have HJ := Lib.hid (And.intro hend (And.intro hkk hds))
            have hz : decide (k2 < d.size - k) = false := by simp; omega
            have hz2 : ¬ k2 < d.size - k := by omega
            clear hend hkk hds hlt2
            have hown := OwnK.of (R := dotTy) (w := wr.setRow g (dotTy.flat (List.take kk (dk.toList ++ rest) ++ (List.replicate (d.size - kk) (0, 0) ++ List.drop d.size (dk.toList ++ rest)))).toArray) (g := g) (c := c) (full := List.take kk (dk.toList ++ rest) ++ (List.replicate (d.size - kk) (0, 0) ++ List.drop d.size (dk.toList ++ rest))) (xs := cmpct xs) (setRow_heap wr g _ _ _ _ HI.out.1.row)
              (by rw [HC.out, HF.out.1.len]; omega) (by unfold maxLen; omega) (by have := HJ.out.2.2; have := HCR.out; simp; omega) (by rw [HC.out, HF.out.1.len, List.take_append_of_le_length (by have := HJ.out; simp; omega), List.take_take, Nat.min_self, List.take_append_of_le_length (by have := HJ.out; simp; omega)]; exact Lib.CompInv.take_ HF.out.1 (Nat.le_refl _))
            have hch : Chg [g] w (wr.setRow g (dotTy.flat (List.take kk (dk.toList ++ rest) ++ (List.replicate (d.size - kk) (0, 0) ++ List.drop d.size (dk.toList ++ rest)))).toArray) := HI.out.1.chg.trans ⟨rfl, rfl, rfl, by simp, fun i hi hn => setRow_other wr g i _ (by simpa using hn)⟩
            have HE := Lib.hid (And.intro hown hch)
            clear hown hch
            go_wp2
            go_ret
            exact ⟨by rw [HC.out, HF.out.1.len]; rfl, HE.out.1, HE.out.2⟩
      · have HU := Lib.hid hxy
        by_cases h0 : x.1 = y.1
        · have h1 : ¬ x.2 = y.2 := fun h => hxy (Prod.ext h0 h)
          clear hxy
          go_wp2_with fail
          go_quiet (fail)
          go_wp2
          go_roundg (d.size - (k + 1))
          case measure => omega
          case rel =>
            refine ⟨k + 1, by omega, by omega, Nat.le_refl _, by go_num, HA.out.1.drewN _, fun j hj => ?_⟩
            by_cases e : j = k
            · subst e
              exact keeps_pos (by rw [B.out.1, B.out.2]; exact HU.out)
            · exact HA.out.2 j (by omega)
        · skip
          clear hxy
          go_wp2_with fail
          go_quiet (fail)
          go_wp2
          go_roundg (d.size - (k + 1))
          case measure => omega
          case rel =>
            refine ⟨k + 1, by omega, by omega, Nat.le_refl _, by go_num, HA.out.1.drewN _, fun j hj => ?_⟩
            by_cases e : j = k
            · subst e
              exact keeps_pos (by rw [B.out.1, B.out.2]; exact HU.out)
            · exact HA.out.2 j (by omega)
    · obtain rfl : k = d.size := by omega
      clear hlt
      go_wp2
      go_ret
      rw [HX.out HA.out.2]
      exact ⟨by rw [← HS.out]; rfl, HO.out.chg HA.out.1 (by simp), HA.out.1.mono (by simp)⟩
end Go.Proofs.YtmcnfopiilplnaaDoor
