/- slices.Clone, slices.Compact over dots; dot.Sort. dot.Sort: each dot once, in order. What is told once, in order: there is one such list. The document's Sort: one by one, each put where it belongs: no memory here. The program's Of. The document's Add. -/
import Derived.Test.YtgafkphhnlifiaaZpbi
import Derived.Test.YtgafkphhnlifiaaZpbf
import Derived.Test.YtgafkphhnlifiaaZpbd
import Derived.Test.YtgafkphhnlifiaaZpba
import Derived.Deep.Cut
import Derived.Test.YtgafkphhnlifiaaZpbe
import Derived.Test.YtgafkphhnlifiaaZpbc
import Derived.Deep.RegionHeld3
namespace Go.Proofs.Ytgafkphhnlifiaa
section
open Go.RowKit Go.Sort Go.Lib
set_option linter.unusedSimpArgs false
set_option linter.unusedVariables false

theorem RdK.none_nil {α : Type} {R : RowTy α} {w : World} {n : Nat} {xs : List α} (h : RdK R w none n xs) : xs = [] := by
  cases xs with
  | nil => rfl
  | cons y ys =>
    have : 0 < (R.flat (y :: ys)).length := by rw [R.flat_len, List.length_cons]; exact Nat.mul_pos (by omega) R.kpos
    obtain ⟨a, h, _⟩ := h.cells 0 _ (List.getElem?_eq_getElem this); cases h
set_option maxRecDepth 100000 in
set_option maxHeartbeats 1000000 in
theorem cloneDot_any (w : World) (A : Option Addr) (n c : Nat) (xs : List (Int × Int)) (h : RdK dotTy w A n xs) (hn : n * 400 ≤ 140737488355327) :
    Calls Try.prog 64 #[.slice A n c] w fun e w' => ∃ A' c', e = .returned (.slice A' n c') ∧ OwnK dotTy w' A' c' xs ∧ (∀ a, A' = some a → w.heap.size ≤ a.block) ∧ Chg [] w w' := by
  have heq := fun W => Lib.run_eql_slice_nil (P := Try.prog) W 23 37 A n c 0 0 Try.underlying23
  cases A with
  | none =>
    have hx := h.none_nil
    subst hx
    have hl : n = 0 := h.len.symm
    subst hl
    clear h
    go_enter Try.func64, Try.ntmps64
    go_wp2
    go_ret
    exact ⟨none, 0, rfl, OwnK.none_ _, by simp, Chg.refl _ _⟩
  | some ad =>
    obtain ⟨w1, hw1, c1, b1⟩ := news1 w (.cells #[] 37)
    have W1 := Lib.hid hw1
    have HA := Lib.hid (h.chg c1 (by simp))
    have HO : Hid (OwnK dotTy w1 (some ⟨w.heap.size, 0, none⟩) 0 []) := Lib.hid (.of (full := []) b1 (Nat.le_refl _) (Nat.zero_le _) rfl rfl)
    have C1 := Lib.hid c1
    have HN : Hid ((0 + n) * 400 ≤ 140737488355327) := Lib.hid (by rw [Nat.zero_add]; exact hn)
    clear hw1 c1 b1 h hn
    go_enter Try.func64, Try.ntmps64
    go_wp2_with (at_builtin; rw [← W1.out]; refine wpList_appK rfl _ _ rfl rfl HO.out rfl rfl HA.out HN.out ?_; intro A2 c2 w2 u2 d2 e2)
    go_ret
    rw [Nat.zero_add] at *
    have hA2 : ∀ a, A2 = some a → w.heap.size ≤ a.block := by
      rintro a rfl
      rcases e2 with h | h
      · cases h; exact Nat.le_refl _
      · cases h; exact C1.out.size
    exact ⟨A2, c2, by simp, by simpa using u2, hA2, C1.out.grown d2 (fun k hk => by simp at hk; subst hk; exact .inr (Nat.le_refl _))⟩

/-- What is cleared from some place on. -/
theorem run_clearD (w : World) (ty : TypeId) (g c n k : Nat) (full : List (Int × Int)) (hg : w.heap[g]? = some (.cells (dotTy.flat full).toArray 37 (0, 0))) (hl : full.length = c) (hn : n ≤ c) (hk : k < n) :
    (Builtin.clear_ #[23] ty #[.slice (some ⟨g, k * 2, none⟩) (n - k) (c - k)]).run Try.prog w = .ok (.tuple #[]) (w.setRow g (dotTy.flat (full.take k ++ List.replicate (n - k) (0, 0) ++ full.drop n)).toArray) := by
  have hz := dotTy.zeros (n - k)
  have hk2 : dotTy.k = 2 := rfl
  have hlen : (dotTy.flat full).length = full.length * 2 := dotTy.flat_len full
  have hlz : (dotTy.flat (List.replicate (n - k) dotTy.z)).length = (n - k) * 2 := by rw [dotTy.flat_len, List.length_replicate, hk2]
  have hst := run_storeCells_at (P := Try.prog) g (k * 2) 37 (dotTy.flat (List.replicate (n - k) dotTy.z)) 0 _ w hg (by rw [hlz, List.size_toArray, hlen]; omega) (dotTy.flat_one _)
  have ht := dotTy.flat_take full k
  have hd := dotTy.flat_drop full n
  rw [hk2] at ht hd
  have hfin : ((dotTy.flat full).toArray.toList.take (k * 2 + 0) ++ dotTy.flat (List.replicate (n - k) dotTy.z) ++ (dotTy.flat full).toArray.toList.drop (k * 2 + 0 + (dotTy.flat (List.replicate (n - k) dotTy.z)).length)) = dotTy.flat (full.take k ++ List.replicate (n - k) (0, 0) ++ full.drop n) := by
    rw [dotTy.flat_app, dotTy.flat_app, ht, hd, hlz, show k * 2 + 0 + (n - k) * 2 = n * 2 by omega]
    rfl
  rw [hfin] at hst
  obtain ⟨m, hm⟩ : ∃ m, n - k = m + 1 := ⟨n - k - 1, by omega⟩
  have hzv : ∀ w, (zeroValue 37).run Try.prog w = .ok (.agg #[.int .i64 0, .int .i64 0]) w := Try.zeroValue37
  have hzz : (Builtin.zeroCells (Value.agg #[.int .i64 0, .int .i64 0]).cells (n - k)).toList = dotTy.flat (List.replicate (n - k) dotTy.z) := by
    exact (congrArg Array.toList hz).trans (by simp)
  rw [hm] at hst hzz ⊢
  simp [Builtin.clear_, run_underlying Try.underlying23, hzv, hzz, hst]
instance : Inhabited (Int × Int) := ⟨(0, 0)⟩
theorem dk_at {dk : Array (Int × Int)} {rest : List (Int × Int)} {j : Nat} (h : j < dk.size) : (dk.toList ++ rest)[j]? = some dk[j]! := by
  rw [List.getElem?_append_left (by simpa using h), Array.getElem?_toList, Array.getElem?_eq_getElem h, getElem!_pos dk j h]
theorem dk_set {dk : Array (Int × Int)} {rest : List (Int × Int)} {j : Nat} (x : Int × Int) (h : j < dk.size) : (dk.toList ++ rest).set j x = (dk.setIfInBounds j x).toList ++ rest := by
  rw [List.set_append_left _ _ (by simpa using h), Array.toList_setIfInBounds]
/-- The row, as far as it is gone through. -/
structure RowD (w wr : World) (g : Nat) (dk : Array (Int × Int)) (rest : List (Int × Int)) : Prop where
  row : wr.heap[g]? = some (.cells (dotTy.flat (dk.toList ++ rest)).toArray 37 (0, 0))
  chg : Chg [g] w wr
theorem RowD.at_ {w wr : World} {g : Nat} {dk : Array (Int × Int)} {rest : List (Int × Int)} (h : RowD w wr g dk rest) (hm : (dk.toList ++ rest).length ≤ maxLen) {j : Nat} (hj : j < dk.size) :
    (wr.cell? ⟨g, j * 2, none⟩ = some (.int .i64 dk[j]!.1) ∧ wr.cell? ⟨g, j * 2 + 1, none⟩ = some (.int .i64 dk[j]!.2)) ∧ wr.frozen? ⟨g, j * 2, none⟩ = false ∧ wr.frozen? ⟨g, j * 2 + 1, none⟩ = false := by
  have hrd : RdK dotTy wr (some ⟨g, 0, none⟩) (dk.toList ++ rest).length (dk.toList ++ rest) := (OwnK.of (R := dotTy) (xs := dk.toList ++ rest) h.row (Nat.le_refl _) hm rfl (List.take_length)).reads
  have := dotCells hrd (dk_at hj)
  simp only [Nat.zero_add] at this
  exact ⟨this, free_of h.row _, free_of h.row _⟩
theorem RowD.put {w wr : World} {g : Nat} {dk : Array (Int × Int)} {rest : List (Int × Int)} (h : RowD w wr g dk rest) {j : Nat} (hj : j < dk.size) (x : Int × Int) :
    RowD w ((wr.setCell ⟨g, j * 2, none⟩ (.int .i64 x.1)).setCell ⟨g, j * 2 + 1, none⟩ (.int .i64 x.2)) g (dk.setIfInBounds j x) rest := by
  refine ⟨?_, h.chg.trans (((Chg.refl [g] wr).setCell (p := ⟨g, j * 2, none⟩) (.inl (by simp)) _).setCell (p := ⟨g, j * 2 + 1, none⟩) (.inl (by simp)) _)⟩
  have := dotPut wr g j (dk.toList ++ rest) x h.row (by simp; omega)
  rwa [dk_set x hj] at this
theorem RowD.drew {w wr : World} {g : Nat} {dk : Array (Int × Int)} {rest : List (Int × Int)} (h : RowD w wr g dk rest) (n : Nat) : RowD w (wr.drewN n) g dk rest := ⟨h.row, h.chg.drewN n⟩
theorem Lib.CompInv.take_ {d dk : Array (Int × Int)} {m k : Nat} (h : CompInv d m k dk) (hm : m ≤ d.size) : dk.toList.take k = compactUpTo d m := by
  apply List.ext_getElem?
  intro j
  have hk := h.lt
  have hs := h.size
  by_cases hj : j < k
  · rw [List.getElem?_take, if_pos hj, h.low j hj, Array.getElem?_toList, Array.getElem?_eq_getElem (by omega), getElem!_pos dk j (by omega)]
  · rw [List.getElem?_eq_none (by simp; omega), List.getElem?_eq_none (by rw [h.len]; omega)]
/-- What is left when what is told twice is left out. -/
def cmpct (xs : List (Int × Int)) : List (Int × Int) := compactUpTo xs.toArray xs.length
set_option maxHeartbeats 4000000 in
theorem compactDot_row (w : World) (g c : Nat) (xs rest : List (Int × Int)) (hg : w.heap[g]? = some (.cells (dotTy.flat (xs ++ rest)).toArray 37 (0, 0))) (hc : (xs ++ rest).length = c) (hcm : c ≤ 9223372036854775807) (h2 : ¬ xs.length < 2) :
    Calls Try.prog 67 #[.slice (some ⟨g, 0, none⟩) xs.length c] w fun e w' => e = .returned (.slice (some ⟨g, 0, none⟩) (cmpct xs).length c) ∧ OwnK dotTy w' (some ⟨g, 0, none⟩) c (cmpct xs) ∧ Chg [g] w w' := by
  obtain ⟨d, hd⟩ : ∃ d : Array (Int × Int), d = xs.toArray := ⟨_, rfl⟩
  have hds : d.size = xs.length := by rw [hd]; simp
  have hdl : d.toList = xs := by rw [hd]
  have hcr : d.size + rest.length = c := by rw [hds, ← hc, List.length_append]
  have hml : ∀ dk : Array (Int × Int), dk.size = d.size → (dk.toList ++ rest).length ≤ maxLen := fun dk h => by rw [List.length_append, Array.length_toList]; unfold maxLen; omega
  have HM := Lib.hid hml
  have hall0 : (∀ j, j < d.size → keeps d j = true) → cmpct xs = xs := fun h => by
    unfold cmpct
    rw [← hds, ← hd, compactUpTo_all d _ h, range_map_get, hdl]
  have HX := Lib.hid hall0
  have hct : cmpct xs = compactUpTo d d.size := by unfold cmpct; rw [hd]; simp
  have HC := Lib.hid hct
  have HR : Hid (RowD w w g d rest) := Lib.hid ⟨by rw [hdl]; exact hg, Chg.refl _ _⟩
  have HO := Lib.hid (OwnK.of (R := dotTy) (full := xs ++ rest) (xs := xs) hg (by rw [← hc]; simp) (by unfold maxLen; omega) hc List.take_left)
  have HD := Lib.hid hdl
  rw [← hds] at h2 ⊢
  have h2' : ¬ ((d.size : Int) < 2) := by omega
  have HS := Lib.hid hds
  have HCR := Lib.hid hcr
  have hle : d.size ≤ c := by omega
  clear hd hds hdl hml hall0 hct hg hc hcr
  go_enter Try.func67, Try.ntmps67
  go_wp2
  go_loopg [3] d.size (fun G s3 wr => ∃ k : Nat, 1 ≤ k ∧ k ≤ d.size ∧ d.size - k ≤ G ∧ s3 = .int .i64 k ∧ Hid (Chg [] w wr ∧ ∀ j, j < k → keeps d j = true))
  case atStart => exact ⟨1, Nat.le_refl _, by omega, by omega, rfl, Chg.refl _ _, keeps_lt_one d⟩
  case round =>
    obtain ⟨k, hk1, hk, hG, rfl, HA⟩ := hrel
    by_cases hlt : k < d.size
    · have hrow : RowD w wr g d rest := ⟨HA.out.1.at_ HR.out.row (by simp), HA.out.1.mono (by simp)⟩
      obtain ⟨⟨p0, p1⟩, _⟩ := hrow.at_ (HM.out d rfl) hlt
      obtain ⟨⟨q0, q1⟩, _⟩ := hrow.at_ (HM.out d rfl) (j := k - 1) (by omega)
      have HRW := Lib.hid hrow
      have i0 : (0 : Int) ≤ (k : Int) := by omega
      have i1 : (k : Int) < (d.size : Int) := by omega
      have i2 : IntKind.i64.wrap ((k : Int) - 1) = ((k - 1 : Nat) : Int) := by rw [IntWalk.i64_in _ (by omega)]; omega
      have i3 : ((k - 1 : Nat) : Int) < (d.size : Int) := by omega
      generalize hx : d[k]! = x at *
      generalize hy : d[k - 1]! = y at *
      have B := Lib.hid (And.intro hx hy)
      clear hrow hx hy
      by_cases hxy : x = y
      · subst hxy
        skip
        go_wp2_with fail
        go_quiet (fail)
        clear p0 p1 q0 q1
        have i4 : (0 : Int) ≤ ((d.size - k : Nat) : Int) := by omega
        have i5 : ¬ c = k := by omega
        go_wp2
        go_loopg [3, 5] d.size (fun G s3 s5 wr => ∃ (kk k2 : Nat) (dk : Array (Int × Int)), s3 = .int .i64 kk ∧ s5 = .int .i64 k2 ∧ 1 ≤ k2 ∧ k + k2 ≤ d.size ∧ d.size - (k + k2) ≤ G ∧ Hid (RowD w wr g dk rest ∧ CompInv d (k + k2) kk dk))
        case atStart => exact ⟨k, 1, d, rfl, rfl, Nat.le_refl _, by omega, by omega, HRW.out.drew _, CompInv.start HA.out.2 (keeps_neg (by omega) (by rw [B.out.1, B.out.2]))⟩
        case round =>
          obtain ⟨kk, k2, dk, rfl, rfl, h1, hle2, hg2, HI⟩ := hrel
          have hkk := HI.out.2.lt
          have hds := HI.out.2.size
          by_cases hlt2 : k + k2 < d.size
          · obtain ⟨⟨p0, p1⟩, _⟩ := HI.out.1.at_ (HM.out dk hds) (j := k + k2) (by omega)
            obtain ⟨⟨q0, q1⟩, _⟩ := HI.out.1.at_ (HM.out dk hds) (j := k + k2 - 1) (by omega)
            obtain ⟨⟨r0, r1⟩, f0, f1⟩ := HI.out.1.at_ (HM.out dk hds) (j := kk) (by omega)
            rw [HI.out.2.high (k + k2) (by omega), show (k + k2) * 2 = k * 2 + k2 * 2 by omega] at p0 p1
            rw [HI.out.2.high (k + k2 - 1) (by omega), show (k + k2 - 1) * 2 = k * 2 + (k2 - 1) * 2 by omega] at q0 q1
            generalize hu : d[k + k2]! = u at *
            generalize hv : d[k + k2 - 1]! = v at *
            generalize dk[kk]! = old at *
            have C := Lib.hid (And.intro hu hv)
            clear hu hv
            have HP := Lib.hid ((HI.out.1.drew 1).put (j := kk) (by omega) u)
            have j0 : (0 : Int) ≤ (k2 : Int) := by omega
            have j1 : (k2 : Int) < ((d.size - k : Nat) : Int) := by omega
            have j2 : IntKind.i64.wrap ((k2 : Int) - 1) = ((k2 - 1 : Nat) : Int) := by rw [IntWalk.i64_in _ (by omega)]; omega
            have j3 : ((k2 - 1 : Nat) : Int) < ((d.size - k : Nat) : Int) := by omega
            have j4 : (0 : Int) ≤ (kk : Int) := by omega
            have j5 : (kk : Int) < (d.size : Int) := by omega
            by_cases huv : u = v
            · subst huv
              go_wp2_with fail
              go_quiet (fail)
              go_wp2
              go_roundg (d.size - (k + (k2 + 1)))
              case measure => omega
              case rel => exact ⟨kk, k2 + 1, dk, rfl, by go_num, by omega, by omega, Nat.le_refl _, HI.out.1.drew _, HI.out.2.skip (keeps_neg (by omega) (by rw [C.out.1, C.out.2]))⟩
            · have HU := Lib.hid huv
              by_cases h0 : u.1 = v.1
              · have h1 : ¬ u.2 = v.2 := fun h => huv (Prod.ext h0 h)
                clear huv
                go_wp2_with fail
                go_quiet (fail)
                go_wp2
                go_roundg (d.size - (k + (k2 + 1)))
                case measure => omega
                case rel => exact ⟨kk + 1, k2 + 1, dk.setIfInBounds kk u, by go_num, by go_num, by omega, by omega, Nat.le_refl _, by have hp := (HI.out.1.drew nq).put (j := kk) (by omega) u; first | exact hp | (rw [h0] at hp; exact hp), by have := HI.out.2.keep hlt2 (keeps_pos (by rw [C.out.1, C.out.2]; exact HU.out)); rwa [C.out.1] at this⟩
              · skip
                clear huv
                go_wp2_with fail
                go_quiet (fail)
                go_wp2
                go_roundg (d.size - (k + (k2 + 1)))
                case measure => omega
                case rel => exact ⟨kk + 1, k2 + 1, dk.setIfInBounds kk u, by go_num, by go_num, by omega, by omega, Nat.le_refl _, by have hp := (HI.out.1.drew nq).put (j := kk) (by omega) u; first | exact hp | (rw [h0] at hp; exact hp), by have := HI.out.2.keep hlt2 (keeps_pos (by rw [C.out.1, C.out.2]; exact HU.out)); rwa [C.out.1] at this⟩
          · have hend : k + k2 = d.size := by omega
            have hcl := fun ty => run_clearD wr ty g c d.size kk (dk.toList ++ rest) HI.out.1.row (by rw [List.length_append, Array.length_toList, hds]; exact HCR.out) hle (by omega)
            have hI := HI.out.2
            rw [hend] at hI
            have hlen := hI.len
            have hdn := hI.done (0, 0)
            have j6 : ¬ c = kk := by omega
            have j7 : (kk : Int) ≤ (d.size : Int) := by omega
            have j8 : (0 : Int) ≤ (kk : Int) := by omega
            have HF := Lib.hid (And.intro hI hdn)
            clear hI hlen hdn
            have HJ := Lib.hid (And.intro hend (And.intro hkk hds))
            have hz : decide (k2 < d.size - k) = false := by simp; omega
            have hz2 : ¬ k2 < d.size - k := by omega
            clear hend hkk hds hlt2
            have hown := OwnK.of (R := dotTy) (w := wr.setRow g (dotTy.flat (List.take kk (dk.toList ++ rest) ++ (List.replicate (d.size - kk) (0, 0) ++ List.drop d.size (dk.toList ++ rest)))).toArray) (g := g) (c := c) (full := List.take kk (dk.toList ++ rest) ++ (List.replicate (d.size - kk) (0, 0) ++ List.drop d.size (dk.toList ++ rest))) (xs := cmpct xs) (setRow_heap wr g _ _ _ _ HI.out.1.row)
              (by rw [HC.out, HF.out.1.len]; omega) (by unfold maxLen; omega) (by have := HJ.out.2.2; have := HCR.out; simp; omega) (by rw [HC.out, HF.out.1.len, List.take_append_of_le_length (by have := HJ.out; simp; omega), List.take_take, Nat.min_self, List.take_append_of_le_length (by have := HJ.out; simp; omega)]; exact Lib.CompInv.take_ HF.out.1 (Nat.le_refl _))
            have hch : Chg [g] w (wr.setRow g (dotTy.flat (List.take kk (dk.toList ++ rest) ++ (List.replicate (d.size - kk) (0, 0) ++ List.drop d.size (dk.toList ++ rest)))).toArray) := HI.out.1.chg.trans ⟨rfl, rfl, rfl, by simp, fun i hi hn => setRow_other wr g i _ (by simpa using hn)⟩
            have HE := Lib.hid (And.intro hown hch)
            clear hown hch
            go_wp2
            go_ret
            exact ⟨by rw [HC.out, HF.out.1.len]; rfl, HE.out.1, HE.out.2⟩
      · have HU := Lib.hid hxy
        by_cases h0 : x.1 = y.1
        · have h1 : ¬ x.2 = y.2 := fun h => hxy (Prod.ext h0 h)
          clear hxy
          go_wp2_with fail
          go_quiet (fail)
          go_wp2
          go_roundg (d.size - (k + 1))
          case measure => omega
          case rel =>
            refine ⟨k + 1, by omega, by omega, Nat.le_refl _, by go_num, HA.out.1.drewN _, fun j hj => ?_⟩
            by_cases e : j = k
            · subst e
              exact keeps_pos (by rw [B.out.1, B.out.2]; exact HU.out)
            · exact HA.out.2 j (by omega)
        · skip
          clear hxy
          go_wp2_with fail
          go_quiet (fail)
          go_wp2
          go_roundg (d.size - (k + 1))
          case measure => omega
          case rel =>
            refine ⟨k + 1, by omega, by omega, Nat.le_refl _, by go_num, HA.out.1.drewN _, fun j hj => ?_⟩
            by_cases e : j = k
            · subst e
              exact keeps_pos (by rw [B.out.1, B.out.2]; exact HU.out)
            · exact HA.out.2 j (by omega)
    · obtain rfl : k = d.size := by omega
      clear hlt
      go_wp2
      go_ret
      rw [HX.out HA.out.2]
      exact ⟨by rw [← HS.out]; rfl, HO.out.chg HA.out.1 (by simp), HA.out.1.mono (by simp)⟩
end
section
open Go.RowKit Go.Sort Go.Lib
set_option linter.unusedSimpArgs false
set_option linter.unusedVariables false

theorem cmpct_small {xs : List (Int × Int)} (h : xs.length < 2) : cmpct xs = xs := by
  unfold cmpct
  have hk : ∀ j, j < xs.length → keeps xs.toArray j = true := fun j hj => keeps_lt_one _ j (by omega)
  rw [compactUpTo_all _ _ hk]
  have := range_map_get xs.toArray
  simpa using this
theorem compactDot_any (w : World) (A : Option Addr) (n c : Nat) (xs : List (Int × Int)) (h : OwnK dotTy w A c xs) (hn : n = xs.length) (hm : n ≤ 140737488351232) :
    Calls Try.prog 67 #[.slice A n c] w fun e w' => e = .returned (.slice A (cmpct xs).length c) ∧ OwnK dotTy w' A c (cmpct xs) ∧ Chg (blkOf A) w w' := by
  subst hn
  by_cases h2 : xs.length < 2
  · rw [cmpct_small h2]
    have hi : (xs.length : Int) < 2 := by omega
    have HO := Lib.hid h
    clear h h2
    go_enter Try.func67, Try.ntmps67
    go_wp2
    go_ret
    exact ⟨rfl, HO.out, Chg.refl _ _⟩
  · rcases h with ⟨_, rfl, _⟩ | ⟨g, full, rfl, hg, hl, hc, hn, ht⟩
    · simp at h2
    · have hs : full = xs ++ full.drop xs.length := by
        conv => lhs; rw [← List.take_append_drop xs.length full]
        rw [ht]
      have := compactDot_row w g c xs (full.drop xs.length) (by rw [← hs]; exact hg) (by rw [← hs]; exact hl) (by unfold maxLen at hc; exact hc) h2
      exact this
theorem sortfunc_any (w : World) (A : Option Addr) (n c : Nat) (xs : List (Int × Int)) (h : OwnK dotTy w A c xs) (hn : n = xs.length) (hm : n ≤ 140737488351232) :
    Calls Try.prog 65 #[.slice A n c, .func (.func 66) #[] #[]] w fun e w' => e = .returned (.tuple #[]) ∧ OwnK dotTy w' A c (sortL xs) ∧ Chg (blkOf A) w w' := by
  subst hn
  rcases h.shape with ⟨rfl, rfl, rfl⟩ | ⟨g, rfl, _⟩
  · have := AnyF.slices_SortFunc_none Try.llLaysF06 none 0 (.func (.func 66) #[] #[]) w
    refine Calls.mono this ?_
    rintro e w' ⟨he, rfl⟩
    have e0 : sortL [] = [] := List.eq_nil_of_length_eq_zero (sortL_len [])
    rw [e0]
    exact ⟨he, OwnK.none_ _, Chg.refl _ _⟩
  · exact sortfunc_some w g c xs h (by omega)
/-- Each once, in order. -/
def sortD (xs : List (Int × Int)) : List (Int × Int) := cmpct (sortL xs)
set_option maxHeartbeats 1000000 in
theorem dsort_any (w : World) (A : Option Addr) (n c : Nat) (xs : List (Int × Int)) (h : RdK dotTy w A n xs) (hn : n * 400 ≤ 140737488355327) :
    Calls Try.prog 33 #[.slice A n c] w fun e w' => ∃ A' c', e = .returned (.slice A' (sortD xs).length c') ∧ OwnK dotTy w' A' c' (sortD xs) ∧ (∀ a, A' = some a → w.heap.size ≤ a.block) ∧ Chg [] w w' := by
  have hl := h.len
  have HA := Lib.hid h
  have HN := Lib.hid hn
  have HL := Lib.hid hl
  clear h hn hl
  go_enter Try.func33, Try.ntmps33
  go_wp2_with fail
  refine (cloneDot_any w A n c xs HA.out HN.out).mono ?_
  rintro e w1 ⟨A1, c1, rfl, o1, n1, h1⟩
  have O1 := Lib.hid o1
  have N1 := Lib.hid n1
  have C1 := Lib.hid h1
  clear o1 n1 h1
  go_wp2_with fail
  refine (sortfunc_any w1 A1 n c1 xs O1.out HL.out.symm (by have := HN.out; omega)).mono ?_
  rintro e w2 ⟨rfl, o2, h2⟩
  have O2 := Lib.hid o2
  have C2 := Lib.hid (C1.out.trans' h2 fun i hi => .inr (blkOf_new N1.out i hi))
  clear o2 h2 O1
  go_wp2_with fail
  refine (compactDot_any w2 A1 n c1 (sortL xs) O2.out (by rw [sortL_len]; exact HL.out.symm) (by have := HN.out; omega)).mono ?_
  rintro e w3 ⟨rfl, o3, h3⟩
  have O3 := Lib.hid o3
  have C3 := Lib.hid (C2.out.trans' h3 fun i hi => .inr (blkOf_new N1.out i hi))
  clear o3 h3
  go_wp2
  go_ret
  exact ⟨A1, c1, rfl, O3.out, N1.out, C3.out⟩
end
section
open Go.RowKit Go.Sort Go.Lib
set_option linter.unusedSimpArgs false
set_option linter.unusedVariables false

def LtP (x y : Int × Int) : Prop := LtD x.1 x.2 y.1 y.2
instance (x y : Int × Int) : Decidable (LtP x y) := by unfold LtP; exact inferInstance
theorem LtP.irr (x : Int × Int) : ¬ LtP x x := by unfold LtP LtD; omega
theorem LtP.tr {x y z : Int × Int} (h : LtP x y) (k : LtP y z) : LtP x z := by unfold LtP LtD at *; omega
theorem LtP.conn {x y : Int × Int} (h : ¬ LtP x y) (k : ¬ LtP y x) : x = y := by
  unfold LtP LtD at *
  refine Prod.ext ?_ ?_ <;> omega
/-- Two rising lists of the same elements are one. -/
theorem strict_ext : ∀ {l m : List (Int × Int)}, l.Pairwise LtP → m.Pairwise LtP → (∀ x, x ∈ l ↔ x ∈ m) → l = m
  | [], [], _, _, _ => rfl
  | [], y :: m, _, _, h => absurd ((h y).2 (by simp)) (by simp)
  | x :: l, [], _, _, h => absurd ((h x).1 (by simp)) (by simp)
  | x :: l, y :: m, hl, hm, h => by
    rw [List.pairwise_cons] at hl hm
    have hxy : x = y := by
      have h1 := (h x).1 (by simp)
      have h2 := (h y).2 (by simp)
      rw [List.mem_cons] at h1 h2
      rcases h1 with h1 | h1
      · exact h1
      · rcases h2 with h2 | h2
        · exact h2.symm
        · exact absurd ((hm.1 x h1).tr (hl.1 y h2)) (LtP.irr y)
    subst hxy
    congr 1
    refine strict_ext hl.2 hm.2 fun z => ?_
    have := h z
    rw [List.mem_cons, List.mem_cons] at this
    constructor
    · intro hz
      rcases this.1 (.inr hz) with e | e
      · subst e; exact absurd (hl.1 z hz) (LtP.irr z)
      · exact e
    · intro hz
      rcases this.2 (.inr hz) with e | e
      · subst e; exact absurd (hm.1 z hz) (LtP.irr z)
      · exact e
theorem sortL_sorted (xs : List (Int × Int)) : (sortL xs).Pairwise fun x y => ¬ LtP y x := by
  have h := List.pairwise_mergeSort (le := fun x y => !(ltOf cmpDD) y x) (fun a b c h1 h2 => by
    simp only [ltDD, Bool.not_eq_true', decide_eq_false_iff_not] at *
    unfold LtD at *; omega) (fun a b => by
    simp only [ltDD, Bool.or_eq_true, Bool.not_eq_true', decide_eq_false_iff_not] at *
    unfold LtD; omega) xs
  refine h.imp ?_
  intro a b hab
  simp only [ltDD, Bool.not_eq_true', decide_eq_false_iff_not] at hab
  exact hab
theorem sortL_mem (xs : List (Int × Int)) (x : Int × Int) : x ∈ sortL xs ↔ x ∈ xs := List.mem_mergeSort
theorem range_cmp (xs : List (Int × Int)) (m : Nat) (hm : m ≤ xs.length) (hs : xs.Pairwise fun x y => ¬ LtP y x) :
    (compactUpTo xs.toArray m).Pairwise LtP ∧ (∀ x, x ∈ compactUpTo xs.toArray m ↔ x ∈ xs.take m) := by
  induction m with
  | zero => simp [compactUpTo]
  | succ m ih =>
    obtain ⟨h1, h2⟩ := ih (by omega)
    have hml : m < xs.length := by omega
    have hx : xs.toArray[m]! = xs[m] := by rw [getElem!_pos xs.toArray m (by simpa using hml)]; simp
    have ht : xs.take (m + 1) = xs.take m ++ [xs[m]] := List.take_succ_eq_append_getElem hml
    have hlo : ∀ a ∈ xs.take m, ¬ LtP xs[m] a := by
      intro a ha
      obtain ⟨i, hi, e⟩ := List.getElem_of_mem ha
      rw [List.length_take] at hi
      rw [List.getElem_take] at e
      subst e
      exact List.pairwise_iff_getElem.1 hs i m (by omega) hml (by omega)
    rw [compactUpTo_succ, ht, hx]
    by_cases hk : keeps xs.toArray m = true
    · rw [if_pos hk]
      refine ⟨?_, fun x => by rw [List.mem_append, List.mem_append, h2]⟩
      rw [List.pairwise_append]
      refine ⟨h1, by simp, fun a ha b hb => ?_⟩
      rw [List.mem_singleton] at hb
      subst hb
      have ha2 := (h2 a).1 ha
      refine Decidable.byContradiction fun hc => ?_
      have e : a = xs[m] := LtP.conn hc (hlo a ha2)
      -- a is xs[m] and lies ahead: all between are it, so xs[m-1] is it
      simp only [keeps, decide_eq_true_eq] at hk
      rcases hk with hk | hk
      · subst hk; simp at ha2
      · apply hk
        rw [hx, getElem!_pos xs.toArray (m - 1) (by simp; omega)]
        obtain ⟨i, hi, e2⟩ := List.getElem_of_mem ha2
        rw [List.length_take] at hi
        rw [List.getElem_take] at e2
        have h0 : 0 < m := by omega
        by_cases him : i = m - 1
        · subst him; simp only [List.getElem_toArray]; rw [e2, e]
        · have p1 := List.pairwise_iff_getElem.1 hs i (m - 1) (by omega) (by omega) (by omega)
          have p2 := List.pairwise_iff_getElem.1 hs (m - 1) m (by omega) hml (by omega)
          rw [e2, e] at p1
          simp only [List.getElem_toArray]
          exact (LtP.conn p1 p2).symm
    · rw [if_neg hk, List.append_nil]
      refine ⟨h1, fun x => ?_⟩
      rw [h2, List.mem_append, List.mem_singleton]
      constructor
      · exact .inl
      · rintro (h | rfl)
        · exact h
        · simp only [keeps, decide_eq_true_eq, not_or, Decidable.not_not, ne_eq] at hk
          obtain ⟨h0, he⟩ := hk
          rw [hx, getElem!_pos xs.toArray (m - 1) (by simp; omega)] at he
          simp only [List.getElem_toArray] at he
          rw [he]
          exact List.mem_iff_getElem.2 ⟨m - 1, by rw [List.length_take]; omega, by rw [List.getElem_take]⟩
theorem sortD_strict (xs : List (Int × Int)) : (sortD xs).Pairwise LtP ∧ ∀ x, x ∈ sortD xs ↔ x ∈ xs := by
  obtain ⟨h1, h2⟩ := range_cmp (sortL xs) (sortL xs).length (Nat.le_refl _) (sortL_sorted xs)
  refine ⟨h1, fun x => ?_⟩
  show x ∈ compactUpTo (sortL xs).toArray (sortL xs).length ↔ _
  rw [h2, List.take_length, sortL_mem]
end
section
open Go.RowKit Go.Sort Go.Lib
set_option linter.unusedSimpArgs false
set_option linter.unusedVariables false

/-- How many of a rising list come ahead. -/
def cntD (x : Int × Int) : List (Int × Int) → Nat
  | [] => 0
  | y :: l => if LtP y x then cntD x l + 1 else 0
/-- One more, if it is not there. -/
def insD (x : Int × Int) (l : List (Int × Int)) : List (Int × Int) :=
  if l[cntD x l]? = some x then l else l.take (cntD x l) ++ x :: l.drop (cntD x l)
theorem cntD_le (x : Int × Int) : ∀ l, cntD x l ≤ l.length
  | [] => Nat.le_refl _
  | y :: l => by unfold cntD; split <;> have := cntD_le x l <;> simp <;> omega
theorem cntD_lt (x : Int × Int) : ∀ (l : List (Int × Int)) (i : Nat) (y : Int × Int), l[i]? = some y → i < cntD x l → LtP y x
  | [], i, y, h, _ => by simp at h
  | z :: l, 0, y, h, hi => by
    simp at h; subst h
    unfold cntD at hi
    split at hi
    · assumption
    · omega
  | z :: l, i + 1, y, h, hi => by
    unfold cntD at hi
    split at hi
    · exact cntD_lt x l i y (by simpa using h) (by omega)
    · omega
theorem cntD_at (x : Int × Int) : ∀ (l : List (Int × Int)) (y : Int × Int), l[cntD x l]? = some y → ¬ LtP y x
  | [], y, h => by simp at h
  | z :: l, y, h => by
    unfold cntD at h
    split at h
    · exact cntD_at x l y (by simpa using h)
    · simp at h; subst h; assumption
theorem insD_len (x : Int × Int) (l : List (Int × Int)) : (insD x l).length ≤ l.length + 1 := by
  unfold insD
  have := cntD_le x l
  split <;> simp <;> omega
theorem insD_mem (x y : Int × Int) (l : List (Int × Int)) : y ∈ insD x l ↔ y = x ∨ y ∈ l := by
  unfold insD
  split
  · rename_i h
    constructor
    · exact .inr
    · rintro (rfl | h2)
      · exact List.mem_of_getElem? h
      · exact h2
  · rw [List.mem_append, List.mem_cons]
    conv => rhs; rw [← List.take_append_drop (cntD x l) l, List.mem_append]
    constructor
    · rintro (h | h | h)
      · exact .inr (.inl h)
      · exact .inl h
      · exact .inr (.inr h)
    · rintro (h | h | h)
      · exact .inr (.inl h)
      · exact .inl h
      · exact .inr (.inr h)
theorem insD_strict (x : Int × Int) (l : List (Int × Int)) (h : l.Pairwise LtP) : (insD x l).Pairwise LtP := by
  unfold insD
  split
  · exact h
  · rename_i hne
    have hs : (l.take (cntD x l) ++ l.drop (cntD x l)).Pairwise LtP := by rw [List.take_append_drop]; exact h
    rw [List.pairwise_append] at hs ⊢
    obtain ⟨a, b, c⟩ := hs
    have hd : ∀ y ∈ l.drop (cntD x l), LtP x y := by
      cases hdr : l.drop (cntD x l) with
      | nil => simp
      | cons z r =>
        have hz : l[cntD x l]? = some z := by
          have := List.getElem?_drop (xs := l) (i := cntD x l) (j := 0)
          rw [hdr] at this
          simpa using this.symm
        have h1 := cntD_at x l z hz
        have hxz : LtP x z := Decidable.byContradiction fun hc => hne (by rw [hz, LtP.conn h1 hc])
        rw [hdr, List.pairwise_cons] at b
        intro y hy
        rcases List.mem_cons.1 hy with rfl | hy
        · exact hxz
        · exact hxz.tr (b.1 y hy)
    have ht : ∀ y ∈ l.take (cntD x l), LtP y x := by
      intro y hy
      obtain ⟨i, hi, e⟩ := List.getElem_of_mem hy
      rw [List.length_take] at hi
      rw [List.getElem_take] at e
      subst e
      exact cntD_lt x l i _ (List.getElem?_eq_getElem (by omega)) (by omega)
    refine ⟨a, ?_, ?_⟩
    · rw [List.pairwise_cons]; exact ⟨hd, b⟩
    · intro y hy z hz
      rcases List.mem_cons.1 hz with rfl | hz
      · exact ht y hy
      · exact c y hy z hz
/-- All of a list, one by one. -/
def insAll (xs : List (Int × Int)) : List (Int × Int) := xs.foldl (fun l x => insD x l) []
theorem insAll_snoc (xs : List (Int × Int)) (x : Int × Int) : insAll (xs ++ [x]) = insD x (insAll xs) := by simp [insAll]
theorem insAll_props (xs : List (Int × Int)) : (insAll xs).Pairwise LtP ∧ (∀ x, x ∈ insAll xs ↔ x ∈ xs) ∧ (insAll xs).length ≤ xs.length := by
  have : ∀ m : List (Int × Int), (insAll m.reverse).Pairwise LtP ∧ (∀ x, x ∈ insAll m.reverse ↔ x ∈ m.reverse) ∧ (insAll m.reverse).length ≤ m.length := by
    intro m
    induction m with
    | nil => simp [insAll]
    | cons y m ih =>
      rw [List.reverse_cons, insAll_snoc]
      refine ⟨insD_strict _ _ ih.1, fun x => ?_, ?_⟩
      · rw [insD_mem, ih.2.1, List.mem_append, List.mem_singleton]
        constructor
        · rintro (h | h); exact .inr h; exact .inl h
        · rintro (h | h); exact .inr h; exact .inl h
      · have := insD_len y (insAll m.reverse)
        simp; omega
  have h := this xs.reverse
  rw [List.reverse_reverse, List.length_reverse] at h
  exact h
theorem insAll_sortD (xs : List (Int × Int)) : insAll xs = sortD xs := by
  refine strict_ext (insAll_props xs).1 (sortD_strict xs).1 fun x => ?_
  rw [(insAll_props xs).2.1, (sortD_strict xs).2]
end
section
open Go.RowKit Go.Lib
set_option linter.unusedSimpArgs false
set_option linter.unusedVariables false


set_option maxRecDepth 100000 in
set_option maxHeartbeats 4000000 in
theorem of1_any (w : World) (n s : Int) : Calls Try.prog 41 #[.agg #[.int .i64 n, .int .i64 s]] w fun e w' => e = .returned (.bool (decide (¬ FineQ n s))) ∧ Chg [] w w' := by
  obtain ⟨w1, hw1, c1, b1⟩ := news1 w (.cells #[.int .i64 n, .int .i64 s] 37)
  have W1 := Lib.hid hw1
  have C := Lib.hid c1
  have z0 := cell_of b1 0
  have z1 := cell_of b1 1
  simp only [List.getElem?_toArray, List.getElem?_cons_succ, List.getElem?_cons_zero] at z0 z1
  clear hw1 c1 b1
  generalize hv : decide (¬ FineQ n s) = v
  have HV := Lib.hid hv
  clear hv
  go_enter Try.func41, Try.ntmps41
  go_upto_region 1 with fail
  rw [← W1.out]
  generalize w.heap.size = g0 at *
  go_wp2_with fail
  refine (dcheck_any w1 n s).mono ?_
  rintro e w2 ⟨rfl, hc⟩
  replace C := Lib.hid (C.out.trans hc)
  clear hc z0 z1
  by_cases hf : FineQ n s
  · rw [chkD_fine hf]
    obtain rfl : v = false := by rw [← HV.out]; exact decide_eq_false (fun q => q hf)
    clear hf HV
    go_wp2
    go_ret
    exact ⟨rfl, C.out⟩
  · rw [chkD_odd hf]
    obtain rfl : v = true := by rw [← HV.out]; exact decide_eq_true hf
    clear hf HV
    go_wp2
    go_ret
    exact ⟨rfl, C.out⟩
set_option maxRecDepth 100000 in
set_option maxHeartbeats 4000000 in
theorem idxdot_any (w : World) (A : Option Addr) (c : Nat) (l : List (Int × Int)) (h : RdK dotTy w A l.length l) (hn : l.length ≤ 140737488351232) :
    Calls Try.prog 70 #[.slice A l.length c, .func (.func 41) #[] #[]] w fun e w' => (∃ v : Int, e = .returned (.int .i64 v) ∧ fineL l = decide (v < 0)) ∧ Chg [] w w' := by
  have H := Lib.hid h
  have HN := Lib.hid hn
  clear h hn
  go_enter Try.func70, Try.ntmps70
  go_wp2
  go_loopw [5, 8] (fun v5 v8 wr => ∃ (k : Nat), k ≤ l.length ∧ v8 = .int .i64 k ∧ Hid (fineL (l.take k) = true) ∧ Hid (Chg [] w wr)) (fun _ v8 _ => l.length - (RowKit.intOf v8).toNat)
  case atStart => exact ⟨0, Nat.zero_le _, rfl, Lib.hid rfl, Chg.refl _ _⟩
  case round =>
    obtain ⟨k, hk, rfl, FN, RC⟩ := hrel
    have i0 : (0 : Int) ≤ (k : Int) := by omega
    by_cases hlt : k < l.length
    · have i1 : (k : Int) < (l.length : Int) := by omega
      have i3 : IntKind.i64.wrap ((k : Int) + 1) = (k : Int) + 1 := IntWalk.i64_in _ (by have := HN.out; omega)
      obtain ⟨x, hx⟩ : ∃ x, l[k]? = some x := ⟨_, List.getElem?_eq_getElem hlt⟩
      obtain ⟨g, o, eA, _⟩ := H.out.line (by omega)
      subst eA
      obtain ⟨q0, q1⟩ := dotCells (H.out.chg RC.out (by simp)) hx
      have FT := Lib.hid (fine_take hx)
      have NO : Hid (¬ FineQ x.1 x.2 → fineL l = false) := Lib.hid (fun q => fine_no hx q)
      clear hx
      go_wp2_with fail
      refine (of1_any wr x.1 x.2).mono ?_
      rintro e w2 ⟨rfl, hc⟩
      have C2 := Lib.hid (RC.out.trans hc)
      clear hc q0 q1
      by_cases hf : FineQ x.1 x.2
      · rw [decide_eq_false (fun q => q hf)]
        have NF : Hid (Hid (fineL (l.take (k + 1)) = true)) := Lib.hid (Lib.hid (by rw [FT.out, FN.out, decide_eq_true hf]; rfl))
        clear hf NO FT FN
        go_wp2
        go_round
        case rel => exact ⟨k + 1, by omega, by go_num, NF.out, C2.out⟩
        case measure => simp [RowKit.intOf]; omega
      · rw [decide_eq_true hf]
        have NF := Lib.hid (NO.out hf)
        clear hf NO FT FN
        go_wp2
        go_ret
        exact ⟨by rw [NF.out]; simp, C2.out⟩
    · obtain rfl : k = l.length := by omega
      rw [List.take_length] at FN
      have i1 : ¬ (l.length : Int) < (l.length : Int) := by omega
      go_wp2
      go_ret
      exact ⟨by rw [FN.out]; simp, RC.out⟩
set_option maxRecDepth 100000 in
set_option maxHeartbeats 4000000 in
theorem containsdot_any (w : World) (A : Option Addr) (c : Nat) (l : List (Int × Int)) (h : RdK dotTy w A l.length l) (hn : l.length ≤ 140737488351232) :
    Calls Try.prog 40 #[.slice A l.length c, .func (.func 41) #[] #[]] w fun e w' => e = .returned (.bool (!fineL l)) ∧ Chg [] w w' := by
  have go : ∀ v, (!fineL l) = v → Calls Try.prog 40 #[.slice A l.length c, .func (.func 41) #[] #[]] w (fun e w' => e = .returned (.bool v) ∧ Chg [] w w') → Calls Try.prog 40 #[.slice A l.length c, .func (.func 41) #[] #[]] w fun e w' => e = .returned (.bool (!fineL l)) ∧ Chg [] w w' := fun v hv h => hv ▸ h
  have H := Lib.hid h
  have HN := Lib.hid hn
  clear h hn
  rcases hf : fineL l with _ | _
  · rw [hf] at go
    refine go true rfl ?_
    clear go
    go_enter Try.func40, Try.ntmps40
    go_wp2_with fail
    refine (idxdot_any w A c l H.out HN.out).mono ?_
    rintro e w2 ⟨⟨v, rfl, hv⟩, hc⟩
    have C := Lib.hid hc
    have hv2 : decide ((0 : Int) ≤ v) = true := decide_eq_true (by rw [hf] at hv; have := of_decide_eq_false hv.symm; omega)
    clear hv hc hf
    go_wp2
    go_ret
    exact ⟨rfl, C.out⟩
  · rw [hf] at go
    refine go false rfl ?_
    clear go
    go_enter Try.func40, Try.ntmps40
    go_wp2_with fail
    refine (idxdot_any w A c l H.out HN.out).mono ?_
    rintro e w2 ⟨⟨v, rfl, hv⟩, hc⟩
    have C := Lib.hid hc
    have hv2 : decide ((0 : Int) ≤ v) = false := decide_eq_false (by rw [hf] at hv; have := of_decide_eq_true hv.symm; omega)
    clear hv hc hf
    go_wp2
    go_ret
    exact ⟨rfl, C.out⟩
set_option maxRecDepth 100000 in
set_option maxHeartbeats 4000000 in
theorem of2_any (w : World) (A : Option Addr) (c : Nat) (xs : List Sp) (n s : Int) (h : OwnK spanTy w A c xs) (hn : xs.length ≤ 100000) (hb : ∀ x ∈ xs, B3 x) :
    Calls Try.prog 45 #[.slice A xs.length c, .agg #[.int .i64 n, .int .i64 s]] w fun e w' => ∃ A' c', e = .returned (.slice A' (pushP xs (n, s, s)).length c') ∧ OwnK spanTy w' A' c' (pushP xs (n, s, s)) ∧ (A' = A ∨ ∀ a, A' = some a → w.heap.size ≤ a.block) ∧ ∀ S : List Nat, (∀ a, A = some a → a.block ∈ S) → Chg S w w' := by
  obtain ⟨w1, hw1, c1, b1⟩ := news1 w (.cells #[.int .i64 n, .int .i64 s] 37)
  have W1 := Lib.hid hw1
  have C := Lib.hid c1
  have H := Lib.hid (h.chg c1 (by simp))
  have HN := Lib.hid hn
  have HB := Lib.hid hb
  have z0 := cell_of b1 0
  have z1 := cell_of b1 1
  simp only [List.getElem?_toArray, List.getElem?_cons_succ, List.getElem?_cons_zero] at z0 z1
  clear hw1 c1 b1 h hn hb
  generalize hSZ : w.heap.size = sz
  have SZ := Lib.hid hSZ
  clear hSZ
  go_enter Try.func45, Try.ntmps45
  go_upto_region 1 with fail
  rw [← W1.out]
  rw [SZ.out] at z0 z1
  rw [SZ.out]
  go_wp2_with fail
  refine (alone_any w1 n s).mono ?_
  rintro e w2 ⟨rfl, hc⟩
  replace H := Lib.hid (H.out.chg hc (by simp))
  replace C := Lib.hid (C.out.trans hc)
  clear hc z0 z1
  go_wp2_with fail
  refine (push_any w2 c (n, s, s) A xs H.out HN.out HB.out).mono ?_
  rintro e w3 ⟨A3, c3, rfl, ho, ha, hs⟩
  have HO := Lib.hid ho
  have HA : Hid (A3 = A ∨ ∀ a, A3 = some a → sz ≤ a.block) := Lib.hid (ha.imp id (fun q a e => by have := q a e; have := C.out.size; rw [SZ.out] at this; omega))
  have HS : Hid (∀ S : List Nat, (∀ a, A = some a → a.block ∈ S) → Chg S w w3) := Lib.hid (fun S q => (C.out.mono (S' := S) (by simp)).trans (hs S q))
  clear ho ha hs
  go_wp2
  go_ret
  exact ⟨A3, c3, rfl, HO.out, HA.out, HS.out⟩
set_option maxRecDepth 100000 in
set_option maxHeartbeats 4000000 in
theorem foldof_any (w : World) (A : Option Addr) (c : Nat) (l : List (Int × Int)) (h : RdK dotTy w A l.length l) (hn : l.length ≤ 100000) (hf : fineL l = true) :
    Calls Try.prog 44 #[.slice A l.length c, .slice none 0 0, .func (.func 45) #[] #[]] w fun e w' => ∃ A' c', e = .returned (.slice A' ((l.map aloneP).foldl pushP []).length c') ∧ OwnK spanTy w' A' c' ((l.map aloneP).foldl pushP []) ∧ (∀ a, A' = some a → w.heap.size ≤ a.block) ∧ Chg [] w w' := by
  have H := Lib.hid h
  have HN := Lib.hid hn
  have HF := Lib.hid hf
  clear h hn hf
  go_enter Try.func44, Try.ntmps44
  go_wp2
  go_loopw [1, 11] (fun v1 v11 wr => ∃ (k : Nat) (A' : Option Addr) (d' : Nat), k ≤ l.length ∧ v11 = .int .i64 k ∧ v1 = .slice A' (((l.take k).map aloneP).foldl pushP []).length d' ∧ Hid (OwnK spanTy wr A' d' (((l.take k).map aloneP).foldl pushP [])) ∧ Hid (∀ a, A' = some a → w.heap.size ≤ a.block) ∧ Hid (Chg [] w wr)) (fun _ v11 _ => l.length - (RowKit.intOf v11).toNat)
  case atStart => exact ⟨0, none, 0, Nat.zero_le _, rfl, rfl, OwnK.none_ _, Lib.hid (by simp), Chg.refl _ _⟩
  case round =>
    obtain ⟨k, A1, d1, hk, rfl, rfl, RO, RN, HI⟩ := hrel
    generalize wr = w4 at *
    clear wr
    by_cases hlt : k < l.length
    · obtain ⟨x, hx⟩ : ∃ x, l[k]? = some x := ⟨_, List.getElem?_eq_getElem hlt⟩
      obtain ⟨g, o, eA, _⟩ := H.out.line (by omega)
      subst eA
      obtain ⟨q0, q1⟩ := dotCells (H.out.chg HI.out (by simp)) hx
      have i0 : (0 : Int) ≤ (k : Int) := by omega
      have i1 : (k : Int) < (l.length : Int) := by omega
      have i3 : IntKind.i64.wrap ((k : Int) + 1) = (k : Int) + 1 := IntWalk.i64_in _ (by have := HN.out; omega)
      have FS : Hid (((l.take (k + 1)).map aloneP).foldl pushP [] = pushP (((l.take k).map aloneP).foldl pushP []) (x.1, x.2, x.2)) := Lib.hid (by rw [alone_take hx, List.foldl_append]; rfl)
      have PR := Lib.hid (fold_props ((l.take k).map aloneP) [] (by simp) (fun y hy => by
        obtain ⟨d, hd, rfl⟩ := List.mem_map.1 hy
        exact alone_B3 HF.out _ (List.mem_map.2 ⟨d, List.mem_of_mem_take hd, rfl⟩)))
      have LK : Hid (((l.take k).map aloneP).length ≤ 100000) := Lib.hid (by have := HN.out; rw [List.length_map, List.length_take]; omega)
      generalize ((l.take k).map aloneP).foldl pushP [] = out at *
      obtain ⟨w5, hw5, c5, b5⟩ := news1 w4 (.cells #[.int .i64 x.1, .int .i64 x.2] 37)
      have W5 := Lib.hid hw5
      have B5 := Lib.hid b5
      replace RO := Lib.hid (RO.out.chg c5 (by simp))
      replace HI := Lib.hid (HI.out.trans c5)
      clear hw5 c5 hx b5
      go_upto_region 4 with fail
      rw [← W5.out]
      generalize w4.heap.size = g4 at *
      have y0 := cell_of B5.out 0
      have y1 := cell_of B5.out 1
      simp only [List.getElem?_toArray, List.getElem?_cons_succ, List.getElem?_cons_zero] at y0 y1
      go_wp2_with fail
      refine (of2_any w5 A1 d1 out x.1 x.2 RO.out (by have := PR.out.2; have := LK.out; simp at *; omega) PR.out.1).mono ?_
      rintro e w6 ⟨A6, c6, rfl, ho, ha, hs⟩
      have O6 := Lib.hid ho
      have N6 : Hid (∀ a, A6 = some a → w.heap.size ≤ a.block) := Lib.hid (fun a e => by
        rcases ha with rfl | q
        · exact RN.out a e
        · exact Nat.le_trans HI.out.size (q a e))
      have C6 : Hid (Chg [] w w6) := Lib.hid (HI.out.trans' (hs (blkOf A1) (fun a e => mem_blkOf e)) (fun i hi => by
        obtain ⟨u, hu, rfl⟩ := of_blkOf hi
        exact .inr (RN.out u hu)))
      clear ho ha hs q0 q1 y0 y1
      go_wp2
      go_round
      case rel => exact ⟨k + 1, A6, c6, by omega, by go_num, by rw [FS.out], by rw [FS.out]; exact O6, N6, C6⟩
      case measure => simp [RowKit.intOf]; omega
    · obtain rfl : k = l.length := by omega
      rw [List.take_length] at RO ⊢
      have i1 : ¬ (l.length : Int) < (l.length : Int) := by omega
      go_wp2
      go_ret
      exact ⟨A1, d1, rfl, RO.out, RN.out, HI.out⟩
set_option maxRecDepth 100000 in
set_option maxHeartbeats 4000000 in
theorem paof_any (w : World) (A : Option Addr) (c : Nat) (l : List (Int × Int)) (h : RdK dotTy w A l.length l) (hn : l.length ≤ 100000) :
    Calls Try.prog 11 #[.slice A l.length c] w fun e w' => ∃ A' c', e = .returned (.tuple #[.slice A' (ofE l).2.length c', .int .i64 (ofE l).1]) ∧ OwnK spanTy w' A' c' (ofE l).2 ∧ (∀ a, A' = some a → w.heap.size ≤ a.block) ∧ Chg [] w w' := by
  have H := Lib.hid h
  have HN := Lib.hid hn
  clear h hn
  rcases hf : fineL l with _ | _
  · have e1 : ofE l = (2, []) := by unfold ofE; rw [hf]; rfl
    rw [e1]
    go_enter Try.func11, Try.ntmps11
    go_wp2_with fail
    refine (containsdot_any w A c l H.out (by have := HN.out; omega)).mono ?_
    rintro e w2 ⟨rfl, hc⟩
    rw [hf]
    have C := Lib.hid hc
    clear hc
    go_wp2
    go_ret2
    exact ⟨none, 0, rfl, OwnK.none_ _, by simp, C.out⟩
  · have e1 : ofE l = boundP (tidyS (l.map aloneP)) := by unfold ofE; rw [if_pos hf]
    have ss := sortD_strict l
    have e2 : ((sortD l).map aloneP).foldl pushP [] = tidyS (l.map aloneP) := of_sorted ss.2 (ss.1.imp (fun {x y} q => by unfold LtP LtD at q; exact q))
    have FS : Hid (fineL (sortD l) = true) := Lib.hid (fineL_iff.2 (fun d hd => fineL_iff.1 hf d ((ss.2 d).1 hd)))
    have SL : Hid ((sortD l).length ≤ 100000) := Lib.hid (by
      have a := (insAll_props l).2.2
      rw [insAll_sortD] at a
      have := HN.out
      omega)
    rw [e1, ← e2]
    clear e1 e2 ss
    generalize hRR : boundP (((sortD l).map aloneP).foldl pushP []) = RR
    have HRR := Lib.hid hRR
    clear hRR
    go_enter Try.func11, Try.ntmps11
    go_wp2_with fail
    refine (containsdot_any w A c l H.out (by have := HN.out; omega)).mono ?_
    rintro e w2 ⟨rfl, hc⟩
    rw [hf]
    have C := Lib.hid hc
    clear hc hf
    go_wp2_with fail
    refine (dsort_any w2 A l.length c l (H.out.chg C.out (by simp)) (by have := HN.out; omega)).mono ?_
    rintro e w3 ⟨A3, c3, rfl, ho, ha, hc⟩
    have O3 := Lib.hid ho
    replace C := Lib.hid (C.out.trans hc)
    clear ho ha hc
    generalize sortD l = m at *
    go_wp2_with fail
    refine (foldof_any w3 A3 c3 m O3.out.reads SL.out FS.out).mono ?_
    rintro e w4 ⟨A4, c4, rfl, ho, ha, hc⟩
    have O4 := Lib.hid ho
    have N4 : Hid (∀ a, A4 = some a → w.heap.size ≤ a.block) := Lib.hid (fun a e => Nat.le_trans C.out.size (ha a e))
    replace C := Lib.hid (C.out.trans hc)
    clear ho ha hc
    generalize (m.map aloneP).foldl pushP [] = out at *
    by_cases hb : out.length ≤ 4000
    · obtain rfl : RR = (0, out) := by rw [← HRR.out]; exact bound_le hb
      go_wp2_with fail
      refine (bounded_few w4 A4 out.length c4 hb).mono ?_
      rintro e w5 ⟨rfl, hc⟩
      have O5 := Lib.hid (O4.out.chg hc (by simp))
      replace C := Lib.hid (C.out.trans hc)
      clear hc
      go_wp2
      go_ret2
      exact ⟨A4, c4, rfl, O5.out, N4.out, C.out⟩
    · obtain rfl : RR = (8, []) := by rw [← HRR.out]; unfold boundP; rw [if_pos (by omega)]
      go_wp2_with fail
      refine (bounded_many w4 A4 out.length c4 (by omega)).mono ?_
      rintro e w5 ⟨rfl, hc⟩
      replace C := Lib.hid (C.out.trans hc)
      clear hc
      go_wp2
      go_ret2
      exact ⟨none, 0, rfl, OwnK.none_ _, by simp, C.out⟩
end
section
open Go.RowKit Go.Lib
set_option linter.unusedSimpArgs false
set_option linter.unusedVariables false
end
end Go.Proofs.Ytgafkphhnlifiaa
