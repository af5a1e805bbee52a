/- path.Sort. -/
import Derived.Test.YtibdeiahmgkbhaaDoorPhcmpd
import Derived.Test.YtibdeiahmgkbhaaDoorPhmath
import Derived.Test.YtibdeiahmgkbhaaDoorOsort
import Derived.Test.YtibdeiahmgkbhaaDoorShelf3
import Derived.Test.YtibdeiahmgkbhaaDoorRowSort
import Derived.Shelf.Slices.CompactS
namespace Go.Proofs.YtibdeiahmgkbhaaDoor
open Go.RowKit Go.Sort Go.Lib
set_option linter.unusedSimpArgs false
set_option linter.unusedVariables false



theorem RdK.none_nil {α : Type} {R : RowTy α} {w : World} {n : Nat} {xs : List α} (h : RdK R w none n xs) : xs = [] := by
  cases xs with
  | nil => rfl
  | cons y ys =>
    have : 0 < (R.flat (y :: ys)).length := by rw [R.flat_len, List.length_cons]; exact Nat.mul_pos (by omega) R.kpos
    obtain ⟨a, h, _⟩ := h.cells 0 _ (List.getElem?_eq_getElem this); cases h
set_option maxRecDepth 100000 in
set_option maxHeartbeats 1000000 in
theorem cloneT_any (w : World) (A : Option Addr) (n c : Nat) (xs : List (List UInt8)) (h : RdK textTy w A n xs) (hn : n * 400 ≤ 140737488355327) :
    Calls Tryd.prog 47 #[.slice A n c] w fun e w' => ∃ A' c', e = .returned (.slice A' n c') ∧ OwnK textTy w' A' c' xs ∧ (∀ a, A' = some a → w.heap.size ≤ a.block) ∧ Chg [] w w' := by
  have heq := fun W => Lib.run_eql_slice_nil (P := Tryd.prog) W 22 9 A n c 0 0 Tryd.underlying22
  cases A with
  | none =>
    have hx := h.none_nil
    subst hx
    have hl : n = 0 := h.len.symm
    subst hl
    clear h
    go_enter Tryd.func47, Tryd.ntmps47
    go_wp2
    go_ret
    exact ⟨none, 0, rfl, OwnK.none_ _, by simp, Chg.refl _ _⟩
  | some ad =>
    obtain ⟨w1, hw1, c1, b1⟩ := news1 w (.cells #[] 9)
    have W1 := Lib.hid hw1
    have HA := Lib.hid (h.chg c1 (by simp))
    have HO : Hid (OwnK textTy w1 (some ⟨w.heap.size, 0, none⟩) 0 []) := Lib.hid (.of (full := []) b1 (Nat.le_refl _) (Nat.zero_le _) rfl rfl)
    have C1 := Lib.hid c1
    have HN : Hid ((0 + n) * 400 ≤ 140737488355327) := Lib.hid (by rw [Nat.zero_add]; exact hn)
    clear hw1 c1 b1 h hn
    go_enter Tryd.func47, Tryd.ntmps47
    go_wp2_with (at_builtin; rw [← W1.out]; refine wpList_appK rfl _ _ rfl rfl HO.out rfl rfl HA.out HN.out ?_; intro A2 c2 w2 u2 d2 e2)
    go_ret
    rw [Nat.zero_add] at *
    have hA2 : ∀ a, A2 = some a → w.heap.size ≤ a.block := by
      rintro a rfl
      rcases e2 with h | h
      · cases h; exact Nat.le_refl _
      · cases h; exact C1.out.size
    exact ⟨A2, c2, by simp, by simpa using u2, hA2, C1.out.grown d2 (fun k hk => by simp at hk; subst hk; exact .inr (Nat.le_refl _))⟩


abbrev TxS := { x : List UInt8 // x.length ≤ 10000000 }
instance : Inhabited TxS := ⟨⟨[], Nat.zero_le _⟩⟩
def encS (x : TxS) : Value := tv x.1
def cfS (x y : TxS) : Int := cmpT (cutL x.1) (cutL y.1)
theorem ltS (x y : TxS) : ltOf cfS x y = lessL x.1 y.1 := rfl
theorem ordL : OrdT lessL where
  irr := less_self
  tr := fun x y z h k => less_trans x y z h k
  conn := fun x y h k => by
    have := less_eq x y
    rw [h, k] at this
    simpa using this
theorem less_ntr {x y z : List UInt8} (h1 : lessL x y = false) (h2 : lessL y z = false) : lessL x z = false := by
  cases h3 : lessL x z with
  | false => rfl
  | true =>
    cases h4 : lessL y x with
    | true => rw [less_trans y x z h4 h3] at h2; cases h2
    | false => have := ordL.conn x y h1 h4; subst this; rw [h3] at h2; cases h2
theorem swoS : SWO (ltOf cfS) where
  irrefl x := less_self x.1
  trans x y z h1 h2 := less_trans x.1 y.1 z.1 h1 h2
  ntrans x y z h1 h2 := less_ntr (x := x.1) (y := y.1) (z := z.1) h1 h2
theorem totalS (x y : TxS) (h1 : ltOf cfS x y = false) (h2 : ltOf cfS y x = false) : x = y := Subtype.ext (ordL.conn x.1 y.1 h1 h2)
theorem put_enc {β : Type} [Inhabited β] (f : β → List UInt8) (d : Array β) : putCells (fun x => tv (f x)) 0 d = putCells id 0 (flatK textTy.enc textTy.k (d.map f)) := by
  funext c
  unfold putCells
  have hk : textTy.k = 1 := rfl
  have hs : (flatK textTy.enc textTy.k (d.map f)).size = d.size := by rw [size_flatK, hk]; simp
  apply Array.ext
  · simp
  · intro i h1 h2
    simp only [Array.getElem_mapIdx, Nat.zero_le, true_and, Nat.zero_add, Nat.sub_zero, hs]
    split
    · rename_i hi
      have hm : i < (d.map f).size * textTy.k := by rw [hk]; simpa using hi
      have e := get_flatK textTy.enc textTy.k (d.map f) i hm
      rw [hk] at e
      rw [hk, id_eq, e, Nat.div_one, Nat.mod_one, getElem!_pos d i hi, getElem!_pos (d.map f) i (by simpa using hi)]
      simp [textTy, tv]
    · rfl
theorem OwnK.sortedS {β : Type} [Inhabited β] (f : β → List UInt8) {w : World} {g c : Nat} {xs : List (List UInt8)} (h : OwnK textTy w (some ⟨g, 0, none⟩) c xs) (d : List β) (hl : d.length = xs.length) (n : Nat) (os : Array Obj) :
    OwnK textTy (sortWorld (fun x => tv (f x)) w g 0 n d.toArray os) (some ⟨g, 0, none⟩) c (d.map f) ∧ Chg [g] w (sortWorld (fun x => tv (f x)) w g 0 n d.toArray os) := by
  have := h.sorted (ys := d.map f) (by rw [List.length_map]; exact hl) n os
  have e : sortWorld (fun x => tv (f x)) w g 0 n d.toArray os = sortWorldK textTy.enc textTy.k w g 0 n (d.map f).toArray os := by
    unfold sortWorld sortWorldK putRowK putRow
    rw [put_enc, List.map_toArray]
  rwa [e]
theorem OwnK.holdsS {β : Type} [Inhabited β] (f : β → List UInt8) {w : World} {g c : Nat} (d : List β) (h : OwnK textTy w (some ⟨g, 0, none⟩) c (d.map f)) : Holds (fun x => tv (f x)) w g 0 d.toArray := by
  intro j hj
  have hjl : j < d.length := by simpa using hj
  have hr := h.reads
  have z := textCells hr (j := j) (x := f d[j]) (by rw [List.getElem?_map, List.getElem?_eq_getElem hjl]; rfl)
  refine ⟨?_, ?_⟩
  · rw [getElem!_pos d.toArray j hj]
    exact z
  · rcases h with ⟨h, _⟩ | ⟨g', full, h, hg, _⟩
    · cases h
    · cases h; exact free_of hg _
theorem sortfuncS (w : World) (g c : Nat) (ds : List TxS) (h : OwnK textTy w (some ⟨g, 0, none⟩) c (ds.map (·.1))) (hm : ds.length < 4611686018427387904) :
    Calls Tryd.prog 48 #[.slice (some ⟨g, 0, none⟩) ds.length c, .func (.func 46) #[] #[]] w fun e w' => e = .returned (.tuple #[]) ∧ OwnK textTy w' (some ⟨g, 0, none⟩) c ((ds.mergeSort fun x y => !(ltOf cfS) y x).map (·.1)) ∧ Chg [g] w w' := by
  have hblk : g < w.heap.size := by
    rcases h.shape with ⟨h, _⟩ | ⟨g', h, hl⟩
    · cases h
    · cases h; exact hl
  have eg : ∀ args w, (callFunc 46 args).run Tryd.prog w = .ok (.enter 46 args) w := enters_of Tryd.func46 (by kernel_rfl) rfl
  have hcmp : CmpLays1 Tryd.prog 46 #[] encS cfS g 0 ds.toArray.size w := fun m os dk _ x y => by
    have := (phcompare_d (sortWorld encS w g 0 m dk os) x.1 y.1 x.2 y.2).mono (fun e w' ⟨he, hc, hd⟩ => (⟨he, grow_of hc hd⟩ : e = Ending.returned (.int .i64 (cfS x y)) ∧ ∃ q os', w' = grow ((sortWorld encS w g 0 m dk os).drewN q) os'))
    exact this
  have hcon := Any.slices_SortFunc_total Tryd.llLaysF6 encS (fun _ => rfl) cfS swoS 46 #[] g 0 c ds.toArray w eg hcmp (OwnK.holdsS (fun x : TxS => x.1) ds h) hblk (by simpa using hm) totalS
  refine Calls.mono hcon ?_
  rintro e w' ⟨he, n, os, hw⟩
  refine ⟨he, ?_⟩
  rw [hw]
  exact h.sortedS (fun x : TxS => x.1) (ds.mergeSort fun x y => !(ltOf cfS) y x) (by rw [List.length_mergeSort, List.length_map]) n os
theorem compactT_row (w : World) (g c : Nat) (xs : List (List UInt8)) (h : OwnK textTy w (some ⟨g, 0, none⟩) c xs) :
    Calls Tryd.prog 49 #[.slice (some ⟨g, 0, none⟩) xs.length c] w fun e w' => e = .returned (.slice (some ⟨g, 0, none⟩) (compactUpTo xs.toArray xs.length).length c) ∧ OwnK textTy w' (some ⟨g, 0, none⟩) c (compactUpTo xs.toArray xs.length) ∧ Chg [g] w w' := by
  have hH := OwnK.holdsS id xs (by rw [List.map_id]; exact h)
  have hcap := h.cap
  have hcon := Any.slices_Compact_string_arr Tryd.lays194 g 0 c xs.toArray w hH (by have := hcap.2; unfold maxLen at this; simp; omega) (by simpa using hcap.1)
  refine Calls.mono hcon ?_
  rintro e w' ⟨he, q, hw⟩
  refine ⟨by simpa using he, ?_⟩
  rw [hw]
  have hle : (compactUpTo xs.toArray xs.length).length ≤ xs.length := by
    unfold compactUpTo
    rw [List.length_map]
    have := List.length_filter_le (keeps xs.toArray) (List.range xs.length)
    simpa using this
  have hs : xs.toArray.size = xs.length := by simp
  have := h.sortedS (f := id) (compactUpTo xs.toArray xs.length ++ List.replicate (xs.length - (compactUpTo xs.toArray xs.length).length) []) (by simp; omega) q #[]
  rw [List.map_id] at this
  have e2 : sortWorld (fun x => tv (id x)) w g 0 q (compactUpTo xs.toArray xs.length ++ List.replicate (xs.length - (compactUpTo xs.toArray xs.length).length) []).toArray #[] = putRow encStr (Sort.ahead w q) g 0 (compactUpTo xs.toArray xs.length ++ List.replicate (xs.length - (compactUpTo xs.toArray xs.length).length) []).toArray := by
    unfold sortWorld
    rw [grow_empty]
    rfl
  rw [e2] at this
  rw [hs]
  have h2 := this.1.take (compactUpTo xs.toArray xs.length).length
  rw [List.take_left] at h2
  exact ⟨h2, this.2⟩
/-- Each once, in order. -/
def sortT (xs : List (List UInt8)) : List (List UInt8) := insAllT lessL xs
theorem sorted_is (xs : List (List UInt8)) (ds : List TxS) (hd : ds.map (·.1) = xs) : compactUpTo ((ds.mergeSort fun x y => !(ltOf cfS) y x).map (·.1)).toArray ((ds.mergeSort fun x y => !(ltOf cfS) y x).map (·.1)).length = sortT xs := by
  refine compact_ins ordL xs _ ?_ ?_
  · rw [List.pairwise_map]
    have h := List.pairwise_mergeSort (le := fun x y => !(ltOf cfS) y x) (fun a b c h1 h2 => by
      simp only [ltS, Bool.not_eq_true'] at *
      exact less_ntr h2 h1) (fun a b => by
      simp only [ltS, Bool.or_eq_true, Bool.not_eq_true']
      cases h : lessL b.1 a.1 with
      | false => exact .inl rfl
      | true => exact .inr (less_not _ _ h)) ds
    refine h.imp ?_
    intro a b hab
    simpa [ltS] using hab
  · intro x
    rw [List.mem_map]
    constructor
    · rintro ⟨y, hy, rfl⟩
      rw [List.mem_mergeSort] at hy
      rw [← hd]
      exact List.mem_map.2 ⟨y, hy, rfl⟩
    · intro hx
      rw [← hd, List.mem_map] at hx
      obtain ⟨y, hy, rfl⟩ := hx
      exact ⟨y, List.mem_mergeSort.2 hy, rfl⟩
theorem subs {xs : List (List UInt8)} (h : ∀ x ∈ xs, x.length ≤ 10000000) : ∃ ds : List TxS, ds.map (·.1) = xs := by
  induction xs with
  | nil => exact ⟨[], rfl⟩
  | cons x xs ih =>
    obtain ⟨ds, hd⟩ := ih (fun y hy => h y (List.mem_cons_of_mem _ hy))
    exact ⟨⟨x, h x (by simp)⟩ :: ds, by simp [hd]⟩
set_option maxHeartbeats 1000000 in
theorem phsort_any (w : World) (A : Option Addr) (c : Nat) (xs : List (List UInt8)) (h : RdK textTy w A xs.length xs) (hn : xs.length * 400 ≤ 140737488355327) (hx : ∀ x ∈ xs, x.length ≤ 10000000) :
    Calls Tryd.prog 32 #[.slice A xs.length c] w fun e w' => ∃ A' c', e = .returned (.slice A' (sortT xs).length c') ∧ OwnK textTy w' A' c' (sortT xs) ∧ (∀ a, A' = some a → w.heap.size ≤ a.block) ∧ Chg [] w w' := by
  obtain ⟨ds, hd⟩ := subs hx
  have hdl : ds.length = xs.length := by rw [← hd, List.length_map]
  have HA := Lib.hid h
  have HN := Lib.hid hn
  have HD := Lib.hid hd
  have HL := Lib.hid hdl
  clear h hn hx hd hdl
  go_enter Tryd.func32, Tryd.ntmps32
  go_wp2_with fail
  refine (cloneT_any w A xs.length c xs HA.out HN.out).mono ?_
  rintro e w1 ⟨A1, c1, rfl, o1, n1, h1⟩
  have O1 := Lib.hid o1
  have N1 := Lib.hid n1
  have C1 := Lib.hid h1
  clear o1 n1 h1
  rcases O1.out.shape with ⟨rfl, hx0, rfl⟩ | ⟨g, rfl, hgl⟩
  · subst hx0
    go_wp2_with fail
    refine (AnyF.slices_SortFunc_none Tryd.llLaysF06 none 0 (.func (.func 46) #[] #[]) _).mono ?_
    rintro e w2 ⟨rfl, rfl⟩
    go_wp2_with fail
    refine (Any.slices_Compact_string_empty Tryd.lays194 none 0 _).mono ?_
    rintro e w3 ⟨rfl, rfl⟩
    go_wp2
    go_ret
    exact ⟨none, 0, rfl, OwnK.none_ _, by simp, C1.out⟩
  · have SF := Lib.hid (sortfuncS w1 g c1 ds (by rw [HD.out]; exact O1.out) (by rw [HL.out]; have := HN.out; omega))
    rw [HL.out] at SF
    have HSI := Lib.hid (sorted_is xs ds HD.out)
    have hml : ((ds.mergeSort fun x y => !(ltOf cfS) y x).map (·.1)).length = xs.length := by rw [List.length_map, List.length_mergeSort, HL.out]
    generalize (ds.mergeSort fun x y => !(ltOf cfS) y x).map (·.1) = ms at *
    have HML := Lib.hid hml
    clear hml hgl
    go_wp2_with fail
    refine SF.out.mono ?_
    rintro e w2 ⟨rfl, o2, h2⟩
    have CT := Lib.hid (compactT_row w2 g c1 ms o2)
    rw [HSI.out, HML.out] at CT
    have C2 := Lib.hid (C1.out.trans' h2 fun i hi => by simp at hi; subst hi; exact .inr (N1.out _ rfl))
    clear o2 h2
    go_wp2_with fail
    refine CT.out.mono ?_
    rintro e w3 ⟨rfl, o3, h3⟩
    have O3 := Lib.hid o3
    have C3 := Lib.hid (C2.out.trans' h3 fun i hi => by simp at hi; subst hi; exact .inr (N1.out _ rfl))
    clear o3 h3
    go_wp2
    go_ret
    exact ⟨some ⟨g, 0, none⟩, c1, rfl, O3.out, N1.out, C3.out⟩
end Go.Proofs.YtibdeiahmgkbhaaDoor
