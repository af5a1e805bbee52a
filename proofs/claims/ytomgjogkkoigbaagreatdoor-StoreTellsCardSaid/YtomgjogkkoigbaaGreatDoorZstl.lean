/- The document's tidy. -/
import Derived.Test.YtomgjogkkoigbaaGreatDoorZstj
import Derived.Test.YtomgjogkkoigbaaGreatDoorZstd
import Derived.Test.YtomgjogkkoigbaaGreatDoorZstk
import Derived.Deep.Cut
import Derived.Deep.RegionHeld3
import Derived.BigQuiet
import Derived.RegionTactic
set_option linter.unusedSimpArgs false
set_option linter.unusedVariables false
namespace Go.Proofs.YtomgjogkkoigbaaGreatDoor
section
open Go.RowKit Go.Lib


theorem rise_last (xs : List Sp) (hb : ∀ x ∈ xs, B3 x) (k : Nat) (x : Sp) (hx : (riseS xs)[k]? = some x) : ∀ y, (((riseS xs).take k).foldl pushP []).getLast? = some y → Le y x := by
 obtain ⟨a, b, _⟩ := rise_props xs
 have ok : ∀ z ∈ riseS xs, SpOk z := fun z hz => by have := hb z ((b z).1 hz); unfold B3 at this; unfold SpOk; omega
 have hk := (List.getElem?_eq_some_iff.1 hx).1
 refine fold_last _ [] x norm_nil (fun z hz => ok z (List.mem_of_mem_take hz)) ((a.sublist (List.take_sublist _ _)).imp Ge3.le) (fun z hz => ?_) (by simp) (by simp)
 obtain ⟨q, hq, rfl⟩ := List.getElem_of_mem hz
 rw [List.length_take] at hq
 rw [List.getElem_take]
 have h1 := List.pairwise_iff_getElem.1 a q k (by omega) hk (by omega)
 rw [List.getElem?_eq_getElem hk] at hx
 cases hx
 exact h1.le
theorem own_emptyS {w : World} {g : Nat} (h : w.heap[g]? = some (.cells #[] 72)) : OwnK spanTy w (some ⟨g, 0, none⟩) 0 [] := .of (full := []) h (Nat.le_refl _) (Nat.zero_le _) rfl rfl
theorem join9 {α β γ δ ε ζ η θ ι : Type} {F R : α → β → γ → δ → ε → ζ → η → θ → ι → Prop} {G : Prop} (h1 : (∀ a b c d e f g h i, F a b c d e f g h i → R a b c d e f g h i) → G) (h2 : ∀ a b c d e f g h i, F a b c d e f g h i → R a b c d e f g h i) : G := h1 h2
theorem fresh_appS {w2 w w' : World} {A A' : Option Addr} (hA : ∀ a, A = some a → w2.heap.size ≤ a.block) (hC : Chg [] w2 w) (g : w.grownBy w' (A.map (·.block))) (e : A' = A ∨ A' = some ⟨w.heap.size, 0, none⟩) :
  (∀ a, A' = some a → w2.heap.size ≤ a.block) ∧ Chg [] w2 w' := by
 refine ⟨?_, hC.grown g ?_⟩
 ·
  rintro a rfl
  rcases e with h | h
  ·
   exact hA a h.symm
  ·
   cases h; exact hC.size
 ·
  intro k hk
  cases A with
  | none => simp at hk
  | some a => simp at hk; subst hk; exact .inr (hA a rfl)
theorem rd_overS {w w' : World} {g0 gx : Nat} {x : Sp} (h : RdK spanTy w (some ⟨gx, 0, none⟩) 1 [x]) (hne : gx ≠ g0) (g : w.grownBy w' ((some (⟨g0, 0, none⟩ : Addr)).map (·.block))) : RdK spanTy w' (some ⟨gx, 0, none⟩) 1 [x] :=
 h.chg ((Chg.refl [g0] w).grown g (by simp)) (by rintro a h; cases h; simpa using hne)
theorem sized {w2 w : World} {p : Nat} (hC : Chg [] w2 w) (h : w.heap.size = p) : ∀ a, (some ⟨p, 0, none⟩ : Option Addr) = some a → w2.heap.size ≤ a.block := by
 rintro a e; cases e; have := hC.size; show _ ≤ p; omega
set_option maxRecDepth 100000 in
set_option maxHeartbeats 16000000 in
theorem qtidy_any (w : World) (A : Option Addr) (c : Nat) (xs : List Sp) (h : RdK spanTy w A xs.length xs) (hn : xs.length ≤ 100000) (hb : ∀ x ∈ xs, B3 x) :
  Calls Tryz.prog 130 #[.slice A xs.length c] w fun e w' => ∃ A' c', e = .returned (.tuple #[.slice A' (boundP (tidyS xs)).2.length c', .int .i64 (boundP (tidyS xs)).1]) ∧ OwnK spanTy w' A' c' (boundP (tidyS xs)).2 ∧ (∀ a, A' = some a → w.heap.size ≤ a.block) ∧ Chg [] w w' := by

 have HX := Lib.hid h
 have HN := Lib.hid hn
 have HB := Lib.hid hb
 clear h hn hb
 go_enter Tryz.func130, Tryz.ntmps130
 go_wp2
 go_loopw [4, 5] (fun o i wr => ∃ (k : Nat) (A' : Option Addr) (d : Nat), k ≤ xs.length ∧ i = .int .i64 k ∧ o = .slice A' (riseS (xs.take k)).length d ∧ Hid (OwnK spanTy wr A' d (riseS (xs.take k))) ∧ Hid (∀ a, A' = some a → w.heap.size ≤ a.block) ∧ Hid (Chg [] w wr)) (fun _ i _ => xs.length - (RowKit.intOf i).toNat)
 case atStart => exact ⟨0, none, 0, Nat.zero_le _, rfl, rfl, OwnK.none_ _, Lib.hid (by simp), Chg.refl _ _⟩
 case round =>
  obtain ⟨i, A1, d, hi, rfl, rfl, RO, RN, RC⟩ := hrel
  generalize wr = w1 at *
  clear wr
  by_cases hlt : i < xs.length
  ·
   obtain ⟨x, hx⟩ : ∃ x, xs[i]? = some x := ⟨_, List.getElem?_eq_getElem hlt⟩
   obtain ⟨g, o, eA, _⟩ := HX.out.line (by omega)
   subst eA
   have EX := Lib.hid hx
   have HINS : Hid (riseS (xs.take (i + 1)) = insS x (riseS (xs.take i))) := Lib.hid (by rw [List.take_add_one, hx]; simp [riseS])
   have OL : (riseS (xs.take i)).length = i := by rw [(rise_props _).2.2, List.length_take]; omega
   have HNi : i ≤ 100000 := by have := HN.out; omega
   clear hx
   generalize riseS (xs.take i) = out at *
   have OLH := Lib.hid OL
   have HNI := Lib.hid HNi
   clear OL HNi
   have i0 : (0 : Int) ≤ (i : Int) := by omega
   have i1 : (i : Int) < (xs.length : Int) := by omega
   have XC := Lib.hid (fun (w' : World) (hc : Chg [] w1 w') => spanCells ((HX.out.chg RC.out (by simp)).chg hc (by simp)) EX.out)
   go_wp2
   go_loopw [6] (fun j wq => ∃ (k : Nat), k ≤ out.length ∧ j = .int .i64 k ∧ Hid (Chg [] w1 wq) ∧ Hid (∀ p y, out[p]? = some y → p < k → Lt3 y x)) (fun j _ => out.length - (RowKit.intOf j).toNat)
   case atStart => exact ⟨0, Nat.zero_le _, rfl, Chg.refl _ _, Lib.hid (by intros; omega)⟩
   case round =>
    obtain ⟨k, hk, rfl, KC, KL⟩ := hrel
    by_cases hkl : k < out.length
    ·
     obtain ⟨y, hy⟩ : ∃ y, out[k]? = some y := ⟨_, List.getElem?_eq_getElem hkl⟩
     obtain ⟨g2, o2, eB, _⟩ := RO.out.reads.line (by omega)
     have eo : o2 = 0 := by
      rcases RO.out.shape with ⟨h, _⟩ | ⟨g', h, _⟩
      ·
       rw [h] at eB; cases eB
      ·
       rw [h] at eB; cases eB; rfl
     subst eo; subst eB
     have EY := Lib.hid hy
     have HKL := Lib.hid hkl
     clear hy
     have YC := Lib.hid (fun (w' : World) (hc : Chg [] w1 w') => spanCells ((RO.out.reads).chg hc (by simp)) EY.out)
     have LS := Lib.hid (fun w => ahead_any w y x)
     have j0 : (0 : Int) ≤ (k : Int) := by omega
     have j1 : (k : Int) < (out.length : Int) := by omega
     have j2 : decide ((k : Int) < (out.length : Int)) = true := by simp; omega
     have j3 : decide (k < out.length) = true := by simpa using hkl
     have j5 : IntKind.i64.wrap ((k : Int) + 1) = (k : Int) + 1 := IntWalk.i64_in _ (by have := HNI.out; have := OLH.out; omega)
     generalize hbb : decide (Lt3 y x) = bb at *
     have HBB := Lib.hid hbb
     clear hbb
     go_upto_region 6 with fail
     refine wp_region_held_drew (S := fun w' => Chg [] wr w') (by kernel_rfl) (Chg.refl [] wr).drew (fun hHeld => ?_)
     refine sy 0 16 rfl rfl ?_; try simp only [Act.put, sA, s0, s1]
     refine sy 1 17 rfl rfl ?_; try simp only [Act.put, sA, s0, s1]
     refine sy 2 18 rfl rfl ?_; try simp only [Act.put, sA, s0, s1]
     refine sy 3 19 rfl rfl ?_; try simp only [Act.put, sA, s0, s1]
     refine sy 4 20 rfl rfl ?_; try simp only [Act.put, sA, s0, s1]
     refine sy 5 21 rfl rfl ?_; try simp only [Act.put, sA, s0, s1]
     refine sy 6 22 rfl rfl ?_; try simp only [Act.put, sA, s0, s1]
     refine sy 7 23 rfl rfl ?_; try simp only [Act.put, sA, s0, s1]
     refine sy 8 24 rfl rfl ?_ (hy := by (intro w hSw; (try dsimp only at hSw); have hq := YC.out _ (KC.out.trans hSw); obtain ⟨q0, q1, q2⟩ := hq; simp only [Nat.zero_add] at q0 q1 q2; go_simp; try with_reducible rfl))
     try simp only [Act.put, sA, s0, s1]
     refine sy 9 25 rfl rfl ?_; try simp only [Act.put, sA, s0, s1]
     refine sy 10 26 rfl rfl ?_; try simp only [Act.put, sA, s0, s1]
     refine sy 11 27 rfl rfl ?_; try simp only [Act.put, sA, s0, s1]
     refine sy 12 28 rfl rfl ?_ (hy := by (intro w hSw; (try dsimp only at hSw); have hq := XC.out _ (KC.out.trans hSw); obtain ⟨q0, q1, q2⟩ := hq; go_simp; try with_reducible rfl))
     try simp only [Act.put, sA, s0, s1]
     refine wpAnyH_ready (rs := [13]) (by kernel_rfl) (by simp) ?_; refine AllReadyH.cons rfl (fun K hK => ?_) AllReadyH.nil; replace hK := Lib.hid hK; go_simp
     refine (LS.out _).mono ?_
     rintro e w9 ⟨rfl, hc⟩
     have C9 := Lib.hid (hHeld.trans hc)
     clear hc hHeld
     refine hK.out _ _ C9.out (fun hHeld => ?_)
     clear hK K; try simp only [Act.put, sA, s0, s1]
     refine sy 14 30 rfl rfl ?_; try simp only [Act.put, sA, s0, s1]
     refine wpAnyH_done (by kernel_rfl) ?_ _; clear hHeld LS
     replace KC := Lib.hid (KC.out.trans C9.out)
     clear C9
     cases bb
     ·
      have HCN : Hid (cntS x out = k) := Lib.hid (cntS_is x out k KL.out (by omega) (fun z hz => by rw [EY.out] at hz; cases hz; exact of_decide_eq_false HBB.out))
      have HLO : out.length ≤ 100000 := by have := OLH.out; have := HNI.out; omega
      have HCD := RO.out.cap.1
      clear HBB YC EY HKL
      go_upto_region 8 with fail
      obtain ⟨q0, q1, q2⟩ := XC.out _ KC.out
      refine wp_region_held_drew (S := fun w' => w'.cell? ⟨g, o + i * 3, none⟩ = some (.int .i64 x.1) ∧ w'.cell? ⟨g, o + i * 3 + 1, none⟩ = some (.int .i64 x.2.1) ∧ w'.cell? ⟨g, o + i * 3 + 2, none⟩ = some (.int .i64 x.2.2)) (by kernel_rfl) ⟨q0, q1, q2⟩ (fun hHeld => ?_)
      have KD := Lib.hid (KC.out.trans (Chg.refl [] w9).drew)
      clear q0 q1 q2 hHeld
      generalize w9.drew = wd at *
      have DX := Lib.hid (fun (w' : World) (hc : Chg [] wd w') => XC.out w' (KD.out.trans hc))
      have R1 : Hid (∀ w', Chg [] wd w' → RdK spanTy w' (some ⟨g2, 0, none⟩) (k) (out.take (k))) := Lib.hid (fun w' hc => by
       have q := (RO.out.take (k)).reads.chg (KD.out.trans hc) (by simp)
       rwa [List.length_take, Nat.min_eq_left (by omega)] at q)
      have R2 : Hid (∀ w', Chg [] wd w' → RdK spanTy w' (some ⟨g2, k * 3, none⟩) (out.length - k) (out.drop k)) := Lib.hid (fun w' hc => by
       have q := (RO.out.reads.chg (KD.out.trans hc) (by simp)).part k (out.length - k) (by omega)
       rwa [List.take_of_length_le (by simp), Nat.zero_add] at q)
      have HF : Hid (([] ++ out.take (k)) ++ [x] ++ out.drop (k) = insS x out) := Lib.hid (by unfold insS; rw [HCN.out]; simp)
      have N2 : Hid ((k + 1) * 400 ≤ 140737488355327) := Lib.hid (by omega)
      have N3 : Hid ((k + 1 + (out.length - k)) * 400 ≤ 140737488355327) := Lib.hid (by omega)
      have L1 : Hid (([] ++ out.take (k)).length = k) := Lib.hid (by simp <;> omega)
      have L2 : Hid (([] ++ out.take (k) ++ [x]).length = k + 1) := Lib.hid (by simp <;> omega)
      have N1 : Hid ((0 + k) * 400 ≤ 140737488355327) := Lib.hid (by omega)
      have b0 : (0 : Int) ≤ (k : Nat) := Int.natCast_nonneg _
      have b1 : k ≤ d := by omega
      have b1' : ((k : Nat) : Int) ≤ ((d : Nat) : Int) := by omega
      have b2 : ¬ k = d := by omega
      have b3 : ¬ d = k := by omega
      have b4 : ((k : Nat) : Int) ≤ ((out.length : Nat) : Int) := by omega
      clear XC KC RO
      have C := Lib.hid (Chg.refl [] wd)
      obtain ⟨wc, hwc⟩ : ∃ wc, wd = wc := ⟨_, rfl⟩
      rw [hwc] at C ⊢
      have C : Hid (Chg [] wd wc) := Lib.hid (hwc ▸ Chg.refl [] wd)
      clear hwc
      refine' join9 (F := fun (p q : Nat) (A5 : Option Addr) (c5 : Nat) (A6 : Option Addr) (c6 : Nat) (A7 : Option Addr) (c7 : Nat) (w7 : World) => Hid (OwnK spanTy w7 A7 c7 (insS x out)) ∧ Hid (∀ a, A7 = some a → wd.heap.size ≤ a.block) ∧ Hid (Chg [] wd w7)) (R := _) (fun JOIN => ?leaf) ?rest
      case leaf =>
       refine sy 1 34 rfl rfl ?_ (hS := (DX.out _ C.out))
       try simp only [Act.put, sA, s0, s1]
       refine sy 2 35 rfl rfl ?_ (hS := (DX.out _ C.out))
       try simp only [Act.put, sA, s0, s1]
       refine sy 3 36 rfl rfl ?_ (hS := (DX.out _ C.out))
       try simp only [Act.put, sA, s0, s1]
       refine sy 5 38 rfl rfl ?_ (hS := (DX.out _ C.out))
       try simp only [Act.put, sA, s0, s1]
       refine sy 6 39 rfl rfl ?_ (hS := (DX.out _ C.out))
       try simp only [Act.put, sA, s0, s1]
       refine sy 7 40 rfl rfl ?_ (hS := (DX.out _ C.out))
       try simp only [Act.put, sA, s0, s1]
       refine sy 8 41 rfl rfl ?_ (hS := (DX.out _ C.out)) (hy := by (intro w hSw; (try dsimp only at hSw); obtain ⟨q0, q1, q2⟩ := hSw; go_simp; try with_reducible rfl))
       try simp only [Act.put, sA, s0, s1]
       refine sy 11 44 rfl rfl ?_ (hS := (DX.out _ C.out))
       try simp only [Act.put, sA, s0, s1]
       refine sy 12 45 rfl rfl ?_ (hS := (DX.out _ C.out))
       try simp only [Act.put, sA, s0, s1]
       refine sy 13 46 rfl rfl ?_ (hS := (DX.out _ C.out))
       try simp only [Act.put, sA, s0, s1]
       refine wpAnyH_ready (rs := [0, 9]) (by kernel_rfl) (by simp) ?_
       refine AllReadyH.cons rfl (fun K hK => ?_) (AllReadyH.cons rfl (fun K hK => ?_) AllReadyH.nil)
       ·
        skip; replace hK := Lib.hid hK
        have hHeld := DX.out _ C.out
        obtain ⟨q0, q1, q2⟩ := hHeld
        obtain ⟨pe, hpp⟩ : ∃ p, wc.heap.size = p := ⟨_, rfl⟩
        have SZpe := Lib.hid (sized C.out hpp)
        have NSpe := Lib.hid hpp
        clear hpp; go_simp; clear q0 q1 q2
        obtain ⟨wc, hw, cn, bn⟩ := news1 wc (.cells #[] 72)
        rw [← hw, NSpe.out]
        rw [NSpe.out] at bn
        have EO := Lib.hid (own_emptyS bn)
        have LTpe := Lib.hid (lt_of_heap bn)
        replace C := Lib.hid (C.out.trans cn)
        try replace XR := Lib.hid (XR.out.chg cn (by simp))
        try have NE : Hid (px ≠ pe) := Lib.hid (by have := NSpe.out; have := LTpx.out; omega)
        clear hw cn bn
        refine hK.out _ _ (DX.out _ C.out) (fun hHeld => ?_)
        clear hK K; try simp only [Act.put, sA, s0, s1]
        refine wpAnyH_ready (rs := [4, 9]) (by kernel_rfl) (by simp) ?_
        refine AllReadyH.cons rfl (fun K hK => ?_) (AllReadyH.cons rfl (fun K hK => ?_) AllReadyH.nil)
        ·
         skip; replace hK := Lib.hid hK
         refine step_appK (R := spanTy) rfl (.tmp 33) (.tmp 36) rfl rfl (A := some ⟨pe, 0, none⟩) (B := some ⟨g2, 0, none⟩) (n := 0) (m := k) (c := 0) (d := d) (xs := []) (ys := out.take (k)) EO.out rfl rfl (R1.out _ C.out) N1.out ?_
         rw [Nat.zero_add]
         intro A5 c5 wc o5 g5 e5
         have O5 := Lib.hid o5
         have F5 := Lib.hid (fresh_appS SZpe.out C.out g5 e5)
         replace C := Lib.hid F5.out.2
         try replace XR := Lib.hid (rd_overS XR.out NE.out g5)
         clear o5 g5 e5
         refine hK.out _ _ (DX.out _ C.out) (fun hHeld => ?_)
         clear hK K; try simp only [Act.put, sA, s0, s1]
         refine wpAnyH_ready (rs := [9]) (by kernel_rfl) (by simp) ?_; refine AllReadyH.cons rfl (fun K hK => ?_) AllReadyH.nil; replace hK := Lib.hid hK
         have hHeld := DX.out _ C.out
         obtain ⟨q0, q1, q2⟩ := hHeld
         obtain ⟨px, hpp⟩ : ∃ p, wc.heap.size = p := ⟨_, rfl⟩
         have SZpx := Lib.hid (sized C.out hpp)
         have NSpx := Lib.hid hpp
         clear hpp; go_simp; clear q0 q1 q2
         obtain ⟨wc, hw, cn, bn⟩ := news1 wc (.cells #[.int .i64 x.1, .int .i64 x.2.1, .int .i64 x.2.2] 72)
         rw [← hw, NSpx.out]
         rw [NSpx.out] at bn
         have XR := Lib.hid (rd_oneS (x := x) bn)
         have LTpx := Lib.hid (lt_of_heap bn)
         replace C := Lib.hid (C.out.trans cn)
         try replace EO := Lib.hid (EO.out.chg cn (by simp))
         try replace O5 := Lib.hid (O5.out.chg cn (by simp))
         try have NE : Hid (px ≠ pe) := Lib.hid (by have := NSpx.out; have := LTpe.out; omega)
         clear hw cn bn
         refine hK.out _ _ (DX.out _ C.out) (fun hHeld => ?_)
         clear hK K; try simp only [Act.put, sA, s0, s1]
         refine wpAnyH_ready (rs := [10]) (by kernel_rfl) (by simp) ?_; refine AllReadyH.cons rfl (fun K hK => ?_) AllReadyH.nil; replace hK := Lib.hid hK
         refine step_appK (R := spanTy) rfl (.tmp 37) (.tmp 42) rfl rfl (A := A5) (B := some ⟨px, 0, none⟩) (n := k) (m := 1) (c := c5) (d := 1) (xs := [] ++ out.take (k)) (ys := [x]) O5.out L1.out rfl XR.out N2.out ?_
         intro A6 c6 wc o6 g6 e6
         have O6 := Lib.hid o6
         have F6 := Lib.hid (fresh_appS F5.out.1 C.out g6 e6)
         replace C := Lib.hid F6.out.2
         clear o6 g6 e6
         refine hK.out _ _ (DX.out _ C.out) (fun hHeld => ?_)
         clear hK K; try simp only [Act.put, sA, s0, s1]
         refine wpAnyH_ready (rs := [14]) (by kernel_rfl) (by simp) ?_; refine AllReadyH.cons rfl (fun K hK => ?_) AllReadyH.nil; replace hK := Lib.hid hK
         refine step_appK (R := spanTy) rfl (.tmp 43) (.tmp 46) rfl rfl (A := A6) (B := some ⟨g2, k * 3, none⟩) (n := k + 1) (m := out.length - k) (c := c6) (d := d - k) (xs := [] ++ out.take (k) ++ [x]) (ys := out.drop (k)) O6.out L2.out rfl (R2.out _ C.out) N3.out ?_
         intro A7 c7 wc o7 g7 e7
         have O7 := Lib.hid o7
         have F7 := Lib.hid (fresh_appS F6.out.1 C.out g7 e7)
         replace C := Lib.hid F7.out.2
         clear o7 g7 e7
         refine hK.out _ _ (DX.out _ C.out) (fun hHeld => ?_)
         clear hK K; try simp only [Act.put, sA, s0, s1]
         refine sy 15 4 rfl rfl ?_ (hS := (DX.out _ C.out))
         try simp only [Act.put, sA, s0, s1]
         refine wpAnyH_done (by kernel_rfl) ?_ _; clear hHeld
         have O8 := Lib.hid (HF.out ▸ O7.out)
         exact JOIN pe px A5 c5 A6 c6 A7 c7 wc ⟨O8, Lib.hid F7.out.1, C⟩
        ·
         skip; replace hK := Lib.hid hK
         have hHeld := DX.out _ C.out
         obtain ⟨q0, q1, q2⟩ := hHeld
         obtain ⟨px, hpp⟩ : ∃ p, wc.heap.size = p := ⟨_, rfl⟩
         have SZpx := Lib.hid (sized C.out hpp)
         have NSpx := Lib.hid hpp
         clear hpp; go_simp; clear q0 q1 q2
         obtain ⟨wc, hw, cn, bn⟩ := news1 wc (.cells #[.int .i64 x.1, .int .i64 x.2.1, .int .i64 x.2.2] 72)
         rw [← hw, NSpx.out]
         rw [NSpx.out] at bn
         have XR := Lib.hid (rd_oneS (x := x) bn)
         have LTpx := Lib.hid (lt_of_heap bn)
         replace C := Lib.hid (C.out.trans cn)
         try replace EO := Lib.hid (EO.out.chg cn (by simp))
         try replace O5 := Lib.hid (O5.out.chg cn (by simp))
         try have NE : Hid (px ≠ pe) := Lib.hid (by have := NSpx.out; have := LTpe.out; omega)
         clear hw cn bn
         refine hK.out _ _ (DX.out _ C.out) (fun hHeld => ?_)
         clear hK K; try simp only [Act.put, sA, s0, s1]
         refine wpAnyH_ready (rs := [4]) (by kernel_rfl) (by simp) ?_; refine AllReadyH.cons rfl (fun K hK => ?_) AllReadyH.nil; replace hK := Lib.hid hK
         refine step_appK (R := spanTy) rfl (.tmp 33) (.tmp 36) rfl rfl (A := some ⟨pe, 0, none⟩) (B := some ⟨g2, 0, none⟩) (n := 0) (m := k) (c := 0) (d := d) (xs := []) (ys := out.take (k)) EO.out rfl rfl (R1.out _ C.out) N1.out ?_
         rw [Nat.zero_add]
         intro A5 c5 wc o5 g5 e5
         have O5 := Lib.hid o5
         have F5 := Lib.hid (fresh_appS SZpe.out C.out g5 e5)
         replace C := Lib.hid F5.out.2
         try replace XR := Lib.hid (rd_overS XR.out NE.out g5)
         clear o5 g5 e5
         refine hK.out _ _ (DX.out _ C.out) (fun hHeld => ?_)
         clear hK K; try simp only [Act.put, sA, s0, s1]
         refine wpAnyH_ready (rs := [10]) (by kernel_rfl) (by simp) ?_; refine AllReadyH.cons rfl (fun K hK => ?_) AllReadyH.nil; replace hK := Lib.hid hK
         refine step_appK (R := spanTy) rfl (.tmp 37) (.tmp 42) rfl rfl (A := A5) (B := some ⟨px, 0, none⟩) (n := k) (m := 1) (c := c5) (d := 1) (xs := [] ++ out.take (k)) (ys := [x]) O5.out L1.out rfl XR.out N2.out ?_
         intro A6 c6 wc o6 g6 e6
         have O6 := Lib.hid o6
         have F6 := Lib.hid (fresh_appS F5.out.1 C.out g6 e6)
         replace C := Lib.hid F6.out.2
         clear o6 g6 e6
         refine hK.out _ _ (DX.out _ C.out) (fun hHeld => ?_)
         clear hK K; try simp only [Act.put, sA, s0, s1]
         refine wpAnyH_ready (rs := [14]) (by kernel_rfl) (by simp) ?_; refine AllReadyH.cons rfl (fun K hK => ?_) AllReadyH.nil; replace hK := Lib.hid hK
         refine step_appK (R := spanTy) rfl (.tmp 43) (.tmp 46) rfl rfl (A := A6) (B := some ⟨g2, k * 3, none⟩) (n := k + 1) (m := out.length - k) (c := c6) (d := d - k) (xs := [] ++ out.take (k) ++ [x]) (ys := out.drop (k)) O6.out L2.out rfl (R2.out _ C.out) N3.out ?_
         intro A7 c7 wc o7 g7 e7
         have O7 := Lib.hid o7
         have F7 := Lib.hid (fresh_appS F6.out.1 C.out g7 e7)
         replace C := Lib.hid F7.out.2
         clear o7 g7 e7
         refine hK.out _ _ (DX.out _ C.out) (fun hHeld => ?_)
         clear hK K; try simp only [Act.put, sA, s0, s1]
         refine sy 15 4 rfl rfl ?_ (hS := (DX.out _ C.out))
         try simp only [Act.put, sA, s0, s1]
         refine wpAnyH_done (by kernel_rfl) ?_ _; clear hHeld
         have O8 := Lib.hid (HF.out ▸ O7.out)
         exact JOIN pe px A5 c5 A6 c6 A7 c7 wc ⟨O8, Lib.hid F7.out.1, C⟩
       ·
        skip; replace hK := Lib.hid hK
        have hHeld := DX.out _ C.out
        obtain ⟨q0, q1, q2⟩ := hHeld
        obtain ⟨px, hpp⟩ : ∃ p, wc.heap.size = p := ⟨_, rfl⟩
        have SZpx := Lib.hid (sized C.out hpp)
        have NSpx := Lib.hid hpp
        clear hpp; go_simp; clear q0 q1 q2
        obtain ⟨wc, hw, cn, bn⟩ := news1 wc (.cells #[.int .i64 x.1, .int .i64 x.2.1, .int .i64 x.2.2] 72)
        rw [← hw, NSpx.out]
        rw [NSpx.out] at bn
        have XR := Lib.hid (rd_oneS (x := x) bn)
        have LTpx := Lib.hid (lt_of_heap bn)
        replace C := Lib.hid (C.out.trans cn)
        try replace EO := Lib.hid (EO.out.chg cn (by simp))
        try replace O5 := Lib.hid (O5.out.chg cn (by simp))
        try have NE : Hid (px ≠ pe) := Lib.hid (by have := NSpx.out; have := LTpe.out; omega)
        clear hw cn bn
        refine hK.out _ _ (DX.out _ C.out) (fun hHeld => ?_)
        clear hK K; try simp only [Act.put, sA, s0, s1]
        refine wpAnyH_ready (rs := [0]) (by kernel_rfl) (by simp) ?_; refine AllReadyH.cons rfl (fun K hK => ?_) AllReadyH.nil; replace hK := Lib.hid hK
        have hHeld := DX.out _ C.out
        obtain ⟨q0, q1, q2⟩ := hHeld
        obtain ⟨pe, hpp⟩ : ∃ p, wc.heap.size = p := ⟨_, rfl⟩
        have SZpe := Lib.hid (sized C.out hpp)
        have NSpe := Lib.hid hpp
        clear hpp; go_simp; clear q0 q1 q2
        obtain ⟨wc, hw, cn, bn⟩ := news1 wc (.cells #[] 72)
        rw [← hw, NSpe.out]
        rw [NSpe.out] at bn
        have EO := Lib.hid (own_emptyS bn)
        have LTpe := Lib.hid (lt_of_heap bn)
        replace C := Lib.hid (C.out.trans cn)
        try replace XR := Lib.hid (XR.out.chg cn (by simp))
        try have NE : Hid (px ≠ pe) := Lib.hid (by have := NSpe.out; have := LTpx.out; omega)
        clear hw cn bn
        refine hK.out _ _ (DX.out _ C.out) (fun hHeld => ?_)
        clear hK K; try simp only [Act.put, sA, s0, s1]
        refine wpAnyH_ready (rs := [4]) (by kernel_rfl) (by simp) ?_; refine AllReadyH.cons rfl (fun K hK => ?_) AllReadyH.nil; replace hK := Lib.hid hK
        refine step_appK (R := spanTy) rfl (.tmp 33) (.tmp 36) rfl rfl (A := some ⟨pe, 0, none⟩) (B := some ⟨g2, 0, none⟩) (n := 0) (m := k) (c := 0) (d := d) (xs := []) (ys := out.take (k)) EO.out rfl rfl (R1.out _ C.out) N1.out ?_
        rw [Nat.zero_add]
        intro A5 c5 wc o5 g5 e5
        have O5 := Lib.hid o5
        have F5 := Lib.hid (fresh_appS SZpe.out C.out g5 e5)
        replace C := Lib.hid F5.out.2
        try replace XR := Lib.hid (rd_overS XR.out NE.out g5)
        clear o5 g5 e5
        refine hK.out _ _ (DX.out _ C.out) (fun hHeld => ?_)
        clear hK K; try simp only [Act.put, sA, s0, s1]
        refine wpAnyH_ready (rs := [10]) (by kernel_rfl) (by simp) ?_; refine AllReadyH.cons rfl (fun K hK => ?_) AllReadyH.nil; replace hK := Lib.hid hK
        refine step_appK (R := spanTy) rfl (.tmp 37) (.tmp 42) rfl rfl (A := A5) (B := some ⟨px, 0, none⟩) (n := k) (m := 1) (c := c5) (d := 1) (xs := [] ++ out.take (k)) (ys := [x]) O5.out L1.out rfl XR.out N2.out ?_
        intro A6 c6 wc o6 g6 e6
        have O6 := Lib.hid o6
        have F6 := Lib.hid (fresh_appS F5.out.1 C.out g6 e6)
        replace C := Lib.hid F6.out.2
        clear o6 g6 e6
        refine hK.out _ _ (DX.out _ C.out) (fun hHeld => ?_)
        clear hK K; try simp only [Act.put, sA, s0, s1]
        refine wpAnyH_ready (rs := [14]) (by kernel_rfl) (by simp) ?_; refine AllReadyH.cons rfl (fun K hK => ?_) AllReadyH.nil; replace hK := Lib.hid hK
        refine step_appK (R := spanTy) rfl (.tmp 43) (.tmp 46) rfl rfl (A := A6) (B := some ⟨g2, k * 3, none⟩) (n := k + 1) (m := out.length - k) (c := c6) (d := d - k) (xs := [] ++ out.take (k) ++ [x]) (ys := out.drop (k)) O6.out L2.out rfl (R2.out _ C.out) N3.out ?_
        intro A7 c7 wc o7 g7 e7
        have O7 := Lib.hid o7
        have F7 := Lib.hid (fresh_appS F6.out.1 C.out g7 e7)
        replace C := Lib.hid F7.out.2
        clear o7 g7 e7
        refine hK.out _ _ (DX.out _ C.out) (fun hHeld => ?_)
        clear hK K; try simp only [Act.put, sA, s0, s1]
        refine sy 15 4 rfl rfl ?_ (hS := (DX.out _ C.out))
        try simp only [Act.put, sA, s0, s1]
        refine wpAnyH_done (by kernel_rfl) ?_ _; clear hHeld
        have O8 := Lib.hid (HF.out ▸ O7.out)
        exact JOIN pe px A5 c5 A6 c6 A7 c7 wc ⟨O8, Lib.hid F7.out.1, C⟩
      case rest =>
       intro pe px A5 c5 A6 c6 A7 c7 w7 FJ
       obtain ⟨O7, F7, C7⟩ := FJ
       have RC7 := Lib.hid (RC.out.trans (KD.out.trans C7.out))
       clear R1 R2 DX HF N1 N2 N3 L1 L2 C
       have FN : Hid (∀ a, A7 = some a → w.heap.size ≤ a.block) := Lib.hid (fun a ha => by have := F7.out a ha; have := (RC.out.trans KD.out).size; omega)
       have i3 : IntKind.i64.wrap ((i : Int) + 1) = (i : Int) + 1 := IntWalk.i64_in _ (by have := HNI.out; omega)
       go_wp2; go_round
       case rel => exact ⟨i + 1, A7, c7, by omega, by go_num, by rw [HINS.out]; first | (congr 1; done) | ((congr 1; rw [insS_len]) <;> (have := OLH.out; omega)), by rw [HINS.out]; exact O7, FN, RC7⟩
       case measure => simp [RowKit.intOf]; omega
     ·
      have YLT : Hid (∀ p z, out[p]? = some z → p < k + 1 → Lt3 z x) := Lib.hid (fun p z hz hp => by
       by_cases e : p = k
       ·
        subst e; rw [EY.out] at hz; cases hz; exact of_decide_eq_true HBB.out
       ·
        exact KL.out p z hz (by omega))
      go_wp2; go_round
      case rel => exact ⟨k + 1, HKL.out, by go_num, KC, YLT⟩
      case measure => have := HKL.out; simp [RowKit.intOf]; omega
    ·
     have j2 : ¬ (k : Int) < (out.length : Int) := by omega
     have j4 : decide ((k : Int) < (out.length : Int)) = false := by simp; omega
     have j3 : ¬ k < out.length := hkl
     go_upto_region 6 with fail
     go_quiet (fail)
     have hq := (Chg.refl [] wr).drewN nq
     generalize wr.drewN nq = w9 at *
     replace KC := Lib.hid (KC.out.trans hq)
     clear hq
     obtain rfl : k = out.length := by omega
     have HCN : Hid (cntS x out = out.length) := Lib.hid (cntS_is x out out.length KL.out (by omega) (fun z hz => by simp at hz))
     have HLO : out.length ≤ 100000 := by have := OLH.out; have := HNI.out; omega
     clear j2 j3 j4 hkl
     go_upto_region 8 with fail
     rcases RO.out.shape with ⟨eB, eo, ed⟩ | ⟨g2, eB, _⟩
     ·
      subst eB eo ed
      simp only [List.length_nil] at *
      obtain ⟨q0, q1, q2⟩ := XC.out _ KC.out
      refine wp_region_held_drew (S := fun w' => w'.cell? ⟨g, o + i * 3, none⟩ = some (.int .i64 x.1) ∧ w'.cell? ⟨g, o + i * 3 + 1, none⟩ = some (.int .i64 x.2.1) ∧ w'.cell? ⟨g, o + i * 3 + 2, none⟩ = some (.int .i64 x.2.2)) (by kernel_rfl) ⟨q0, q1, q2⟩ (fun hHeld => ?_)
      have KD := Lib.hid (KC.out.trans (Chg.refl [] w9).drew)
      clear q0 q1 q2 hHeld
      generalize w9.drew = wd at *
      have DX := Lib.hid (fun (w' : World) (hc : Chg [] wd w') => XC.out w' (KD.out.trans hc))
      have R1 : Hid (∀ w', Chg [] wd w' → RdK spanTy w' none 0 (([] : List Sp).take 0)) := Lib.hid (fun w' hc => RdK.nil w' none)
      have R2 : Hid (∀ w', Chg [] wd w' → RdK spanTy w' none 0 (([] : List Sp).drop 0)) := Lib.hid (fun w' hc => RdK.nil w' none)
      have HF : Hid (([] ++ ([] : List Sp).take (0)) ++ [x] ++ ([] : List Sp).drop (0) = insS x ([] : List Sp)) := Lib.hid (by unfold insS; rw [HCN.out]; simp)
      have N2 : Hid ((0 + 1) * 400 ≤ 140737488355327) := Lib.hid (by omega)
      have N3 : Hid ((0 + 1 + (0)) * 400 ≤ 140737488355327) := Lib.hid (by omega)
      have L1 : Hid (([] ++ ([] : List Sp).take (0)).length = 0) := Lib.hid (by simp <;> omega)
      have L2 : Hid (([] ++ ([] : List Sp).take (0) ++ [x]).length = 0 + 1) := Lib.hid (by simp <;> omega)
      have N1 : Hid ((0 + 0) * 400 ≤ 140737488355327) := Lib.hid (by omega)
      clear XC KC RO
      have C := Lib.hid (Chg.refl [] wd)
      obtain ⟨wc, hwc⟩ : ∃ wc, wd = wc := ⟨_, rfl⟩
      rw [hwc] at C ⊢
      have C : Hid (Chg [] wd wc) := Lib.hid (hwc ▸ Chg.refl [] wd)
      clear hwc
      refine' join9 (F := fun (p q : Nat) (A5 : Option Addr) (c5 : Nat) (A6 : Option Addr) (c6 : Nat) (A7 : Option Addr) (c7 : Nat) (w7 : World) => Hid (OwnK spanTy w7 A7 c7 (insS x ([] : List Sp))) ∧ Hid (∀ a, A7 = some a → wd.heap.size ≤ a.block) ∧ Hid (Chg [] wd w7)) (R := _) (fun JOIN => ?leaf) ?rest
      case leaf =>
       refine sy 1 34 rfl rfl ?_ (hS := (DX.out _ C.out))
       try simp only [Act.put, sA, s0, s1]
       refine sy 2 35 rfl rfl ?_ (hS := (DX.out _ C.out))
       try simp only [Act.put, sA, s0, s1]
       refine sy 3 36 rfl rfl ?_ (hS := (DX.out _ C.out))
       try simp only [Act.put, sA, s0, s1]
       refine sy 5 38 rfl rfl ?_ (hS := (DX.out _ C.out))
       try simp only [Act.put, sA, s0, s1]
       refine sy 6 39 rfl rfl ?_ (hS := (DX.out _ C.out))
       try simp only [Act.put, sA, s0, s1]
       refine sy 7 40 rfl rfl ?_ (hS := (DX.out _ C.out))
       try simp only [Act.put, sA, s0, s1]
       refine sy 8 41 rfl rfl ?_ (hS := (DX.out _ C.out)) (hy := by (intro w hSw; (try dsimp only at hSw); obtain ⟨q0, q1, q2⟩ := hSw; go_simp; try with_reducible rfl))
       try simp only [Act.put, sA, s0, s1]
       refine sy 11 44 rfl rfl ?_ (hS := (DX.out _ C.out))
       try simp only [Act.put, sA, s0, s1]
       refine sy 12 45 rfl rfl ?_ (hS := (DX.out _ C.out))
       try simp only [Act.put, sA, s0, s1]
       refine sy 13 46 rfl rfl ?_ (hS := (DX.out _ C.out))
       try simp only [Act.put, sA, s0, s1]
       refine wpAnyH_ready (rs := [0, 9]) (by kernel_rfl) (by simp) ?_
       refine AllReadyH.cons rfl (fun K hK => ?_) (AllReadyH.cons rfl (fun K hK => ?_) AllReadyH.nil)
       ·
        skip; replace hK := Lib.hid hK
        have hHeld := DX.out _ C.out
        obtain ⟨q0, q1, q2⟩ := hHeld
        obtain ⟨pe, hpp⟩ : ∃ p, wc.heap.size = p := ⟨_, rfl⟩
        have SZpe := Lib.hid (sized C.out hpp)
        have NSpe := Lib.hid hpp
        clear hpp; go_simp; clear q0 q1 q2
        obtain ⟨wc, hw, cn, bn⟩ := news1 wc (.cells #[] 72)
        rw [← hw, NSpe.out]
        rw [NSpe.out] at bn
        have EO := Lib.hid (own_emptyS bn)
        have LTpe := Lib.hid (lt_of_heap bn)
        replace C := Lib.hid (C.out.trans cn)
        try replace XR := Lib.hid (XR.out.chg cn (by simp))
        try have NE : Hid (px ≠ pe) := Lib.hid (by have := NSpe.out; have := LTpx.out; omega)
        clear hw cn bn
        refine hK.out _ _ (DX.out _ C.out) (fun hHeld => ?_)
        clear hK K; try simp only [Act.put, sA, s0, s1]
        refine wpAnyH_ready (rs := [4, 9]) (by kernel_rfl) (by simp) ?_
        refine AllReadyH.cons rfl (fun K hK => ?_) (AllReadyH.cons rfl (fun K hK => ?_) AllReadyH.nil)
        ·
         skip; replace hK := Lib.hid hK
         refine step_appK (R := spanTy) rfl (.tmp 33) (.tmp 36) rfl rfl (A := some ⟨pe, 0, none⟩) (B := none) (n := 0) (m := 0) (c := 0) (d := 0) (xs := []) (ys := ([] : List Sp).take (0)) EO.out rfl rfl (R1.out _ C.out) N1.out ?_
         rw [Nat.zero_add]
         intro A5 c5 wc o5 g5 e5
         have O5 := Lib.hid o5
         have F5 := Lib.hid (fresh_appS SZpe.out C.out g5 e5)
         replace C := Lib.hid F5.out.2
         try replace XR := Lib.hid (rd_overS XR.out NE.out g5)
         clear o5 g5 e5
         refine hK.out _ _ (DX.out _ C.out) (fun hHeld => ?_)
         clear hK K; try simp only [Act.put, sA, s0, s1]
         refine wpAnyH_ready (rs := [9]) (by kernel_rfl) (by simp) ?_; refine AllReadyH.cons rfl (fun K hK => ?_) AllReadyH.nil; replace hK := Lib.hid hK
         have hHeld := DX.out _ C.out
         obtain ⟨q0, q1, q2⟩ := hHeld
         obtain ⟨px, hpp⟩ : ∃ p, wc.heap.size = p := ⟨_, rfl⟩
         have SZpx := Lib.hid (sized C.out hpp)
         have NSpx := Lib.hid hpp
         clear hpp; go_simp; clear q0 q1 q2
         obtain ⟨wc, hw, cn, bn⟩ := news1 wc (.cells #[.int .i64 x.1, .int .i64 x.2.1, .int .i64 x.2.2] 72)
         rw [← hw, NSpx.out]
         rw [NSpx.out] at bn
         have XR := Lib.hid (rd_oneS (x := x) bn)
         have LTpx := Lib.hid (lt_of_heap bn)
         replace C := Lib.hid (C.out.trans cn)
         try replace EO := Lib.hid (EO.out.chg cn (by simp))
         try replace O5 := Lib.hid (O5.out.chg cn (by simp))
         try have NE : Hid (px ≠ pe) := Lib.hid (by have := NSpx.out; have := LTpe.out; omega)
         clear hw cn bn
         refine hK.out _ _ (DX.out _ C.out) (fun hHeld => ?_)
         clear hK K; try simp only [Act.put, sA, s0, s1]
         refine wpAnyH_ready (rs := [10]) (by kernel_rfl) (by simp) ?_; refine AllReadyH.cons rfl (fun K hK => ?_) AllReadyH.nil; replace hK := Lib.hid hK
         refine step_appK (R := spanTy) rfl (.tmp 37) (.tmp 42) rfl rfl (A := A5) (B := some ⟨px, 0, none⟩) (n := 0) (m := 1) (c := c5) (d := 1) (xs := [] ++ ([] : List Sp).take (0)) (ys := [x]) O5.out L1.out rfl XR.out N2.out ?_
         intro A6 c6 wc o6 g6 e6
         have O6 := Lib.hid o6
         have F6 := Lib.hid (fresh_appS F5.out.1 C.out g6 e6)
         replace C := Lib.hid F6.out.2
         clear o6 g6 e6
         refine hK.out _ _ (DX.out _ C.out) (fun hHeld => ?_)
         clear hK K; try simp only [Act.put, sA, s0, s1]
         refine wpAnyH_ready (rs := [14]) (by kernel_rfl) (by simp) ?_; refine AllReadyH.cons rfl (fun K hK => ?_) AllReadyH.nil; replace hK := Lib.hid hK
         refine step_appK (R := spanTy) rfl (.tmp 43) (.tmp 46) rfl rfl (A := A6) (B := none) (n := 0 + 1) (m := 0) (c := c6) (d := 0) (xs := [] ++ ([] : List Sp).take (0) ++ [x]) (ys := ([] : List Sp).drop (0)) O6.out L2.out rfl (R2.out _ C.out) N3.out ?_
         intro A7 c7 wc o7 g7 e7
         have O7 := Lib.hid o7
         have F7 := Lib.hid (fresh_appS F6.out.1 C.out g7 e7)
         replace C := Lib.hid F7.out.2
         clear o7 g7 e7
         refine hK.out _ _ (DX.out _ C.out) (fun hHeld => ?_)
         clear hK K; try simp only [Act.put, sA, s0, s1]
         refine sy 15 4 rfl rfl ?_ (hS := (DX.out _ C.out))
         try simp only [Act.put, sA, s0, s1]
         refine wpAnyH_done (by kernel_rfl) ?_ _; clear hHeld
         have O8 := Lib.hid (HF.out ▸ O7.out)
         exact JOIN pe px A5 c5 A6 c6 A7 c7 wc ⟨O8, Lib.hid F7.out.1, C⟩
        ·
         skip; replace hK := Lib.hid hK
         have hHeld := DX.out _ C.out
         obtain ⟨q0, q1, q2⟩ := hHeld
         obtain ⟨px, hpp⟩ : ∃ p, wc.heap.size = p := ⟨_, rfl⟩
         have SZpx := Lib.hid (sized C.out hpp)
         have NSpx := Lib.hid hpp
         clear hpp; go_simp; clear q0 q1 q2
         obtain ⟨wc, hw, cn, bn⟩ := news1 wc (.cells #[.int .i64 x.1, .int .i64 x.2.1, .int .i64 x.2.2] 72)
         rw [← hw, NSpx.out]
         rw [NSpx.out] at bn
         have XR := Lib.hid (rd_oneS (x := x) bn)
         have LTpx := Lib.hid (lt_of_heap bn)
         replace C := Lib.hid (C.out.trans cn)
         try replace EO := Lib.hid (EO.out.chg cn (by simp))
         try replace O5 := Lib.hid (O5.out.chg cn (by simp))
         try have NE : Hid (px ≠ pe) := Lib.hid (by have := NSpx.out; have := LTpe.out; omega)
         clear hw cn bn
         refine hK.out _ _ (DX.out _ C.out) (fun hHeld => ?_)
         clear hK K; try simp only [Act.put, sA, s0, s1]
         refine wpAnyH_ready (rs := [4]) (by kernel_rfl) (by simp) ?_; refine AllReadyH.cons rfl (fun K hK => ?_) AllReadyH.nil; replace hK := Lib.hid hK
         refine step_appK (R := spanTy) rfl (.tmp 33) (.tmp 36) rfl rfl (A := some ⟨pe, 0, none⟩) (B := none) (n := 0) (m := 0) (c := 0) (d := 0) (xs := []) (ys := ([] : List Sp).take (0)) EO.out rfl rfl (R1.out _ C.out) N1.out ?_
         rw [Nat.zero_add]
         intro A5 c5 wc o5 g5 e5
         have O5 := Lib.hid o5
         have F5 := Lib.hid (fresh_appS SZpe.out C.out g5 e5)
         replace C := Lib.hid F5.out.2
         try replace XR := Lib.hid (rd_overS XR.out NE.out g5)
         clear o5 g5 e5
         refine hK.out _ _ (DX.out _ C.out) (fun hHeld => ?_)
         clear hK K; try simp only [Act.put, sA, s0, s1]
         refine wpAnyH_ready (rs := [10]) (by kernel_rfl) (by simp) ?_; refine AllReadyH.cons rfl (fun K hK => ?_) AllReadyH.nil; replace hK := Lib.hid hK
         refine step_appK (R := spanTy) rfl (.tmp 37) (.tmp 42) rfl rfl (A := A5) (B := some ⟨px, 0, none⟩) (n := 0) (m := 1) (c := c5) (d := 1) (xs := [] ++ ([] : List Sp).take (0)) (ys := [x]) O5.out L1.out rfl XR.out N2.out ?_
         intro A6 c6 wc o6 g6 e6
         have O6 := Lib.hid o6
         have F6 := Lib.hid (fresh_appS F5.out.1 C.out g6 e6)
         replace C := Lib.hid F6.out.2
         clear o6 g6 e6
         refine hK.out _ _ (DX.out _ C.out) (fun hHeld => ?_)
         clear hK K; try simp only [Act.put, sA, s0, s1]
         refine wpAnyH_ready (rs := [14]) (by kernel_rfl) (by simp) ?_; refine AllReadyH.cons rfl (fun K hK => ?_) AllReadyH.nil; replace hK := Lib.hid hK
         refine step_appK (R := spanTy) rfl (.tmp 43) (.tmp 46) rfl rfl (A := A6) (B := none) (n := 0 + 1) (m := 0) (c := c6) (d := 0) (xs := [] ++ ([] : List Sp).take (0) ++ [x]) (ys := ([] : List Sp).drop (0)) O6.out L2.out rfl (R2.out _ C.out) N3.out ?_
         intro A7 c7 wc o7 g7 e7
         have O7 := Lib.hid o7
         have F7 := Lib.hid (fresh_appS F6.out.1 C.out g7 e7)
         replace C := Lib.hid F7.out.2
         clear o7 g7 e7
         refine hK.out _ _ (DX.out _ C.out) (fun hHeld => ?_)
         clear hK K; try simp only [Act.put, sA, s0, s1]
         refine sy 15 4 rfl rfl ?_ (hS := (DX.out _ C.out))
         try simp only [Act.put, sA, s0, s1]
         refine wpAnyH_done (by kernel_rfl) ?_ _; clear hHeld
         have O8 := Lib.hid (HF.out ▸ O7.out)
         exact JOIN pe px A5 c5 A6 c6 A7 c7 wc ⟨O8, Lib.hid F7.out.1, C⟩
       ·
        skip; replace hK := Lib.hid hK
        have hHeld := DX.out _ C.out
        obtain ⟨q0, q1, q2⟩ := hHeld
        obtain ⟨px, hpp⟩ : ∃ p, wc.heap.size = p := ⟨_, rfl⟩
        have SZpx := Lib.hid (sized C.out hpp)
        have NSpx := Lib.hid hpp
        clear hpp; go_simp; clear q0 q1 q2
        obtain ⟨wc, hw, cn, bn⟩ := news1 wc (.cells #[.int .i64 x.1, .int .i64 x.2.1, .int .i64 x.2.2] 72)
        rw [← hw, NSpx.out]
        rw [NSpx.out] at bn
        have XR := Lib.hid (rd_oneS (x := x) bn)
        have LTpx := Lib.hid (lt_of_heap bn)
        replace C := Lib.hid (C.out.trans cn)
        try replace EO := Lib.hid (EO.out.chg cn (by simp))
        try replace O5 := Lib.hid (O5.out.chg cn (by simp))
        try have NE : Hid (px ≠ pe) := Lib.hid (by have := NSpx.out; have := LTpe.out; omega)
        clear hw cn bn
        refine hK.out _ _ (DX.out _ C.out) (fun hHeld => ?_)
        clear hK K; try simp only [Act.put, sA, s0, s1]
        refine wpAnyH_ready (rs := [0]) (by kernel_rfl) (by simp) ?_; refine AllReadyH.cons rfl (fun K hK => ?_) AllReadyH.nil; replace hK := Lib.hid hK
        have hHeld := DX.out _ C.out
        obtain ⟨q0, q1, q2⟩ := hHeld
        obtain ⟨pe, hpp⟩ : ∃ p, wc.heap.size = p := ⟨_, rfl⟩
        have SZpe := Lib.hid (sized C.out hpp)
        have NSpe := Lib.hid hpp
        clear hpp; go_simp; clear q0 q1 q2
        obtain ⟨wc, hw, cn, bn⟩ := news1 wc (.cells #[] 72)
        rw [← hw, NSpe.out]
        rw [NSpe.out] at bn
        have EO := Lib.hid (own_emptyS bn)
        have LTpe := Lib.hid (lt_of_heap bn)
        replace C := Lib.hid (C.out.trans cn)
        try replace XR := Lib.hid (XR.out.chg cn (by simp))
        try have NE : Hid (px ≠ pe) := Lib.hid (by have := NSpe.out; have := LTpx.out; omega)
        clear hw cn bn
        refine hK.out _ _ (DX.out _ C.out) (fun hHeld => ?_)
        clear hK K; try simp only [Act.put, sA, s0, s1]
        refine wpAnyH_ready (rs := [4]) (by kernel_rfl) (by simp) ?_; refine AllReadyH.cons rfl (fun K hK => ?_) AllReadyH.nil; replace hK := Lib.hid hK
        refine step_appK (R := spanTy) rfl (.tmp 33) (.tmp 36) rfl rfl (A := some ⟨pe, 0, none⟩) (B := none) (n := 0) (m := 0) (c := 0) (d := 0) (xs := []) (ys := ([] : List Sp).take (0)) EO.out rfl rfl (R1.out _ C.out) N1.out ?_
        rw [Nat.zero_add]
        intro A5 c5 wc o5 g5 e5
        have O5 := Lib.hid o5
        have F5 := Lib.hid (fresh_appS SZpe.out C.out g5 e5)
        replace C := Lib.hid F5.out.2
        try replace XR := Lib.hid (rd_overS XR.out NE.out g5)
        clear o5 g5 e5
        refine hK.out _ _ (DX.out _ C.out) (fun hHeld => ?_)
        clear hK K; try simp only [Act.put, sA, s0, s1]
        refine wpAnyH_ready (rs := [10]) (by kernel_rfl) (by simp) ?_; refine AllReadyH.cons rfl (fun K hK => ?_) AllReadyH.nil; replace hK := Lib.hid hK
        refine step_appK (R := spanTy) rfl (.tmp 37) (.tmp 42) rfl rfl (A := A5) (B := some ⟨px, 0, none⟩) (n := 0) (m := 1) (c := c5) (d := 1) (xs := [] ++ ([] : List Sp).take (0)) (ys := [x]) O5.out L1.out rfl XR.out N2.out ?_
        intro A6 c6 wc o6 g6 e6
        have O6 := Lib.hid o6
        have F6 := Lib.hid (fresh_appS F5.out.1 C.out g6 e6)
        replace C := Lib.hid F6.out.2
        clear o6 g6 e6
        refine hK.out _ _ (DX.out _ C.out) (fun hHeld => ?_)
        clear hK K; try simp only [Act.put, sA, s0, s1]
        refine wpAnyH_ready (rs := [14]) (by kernel_rfl) (by simp) ?_; refine AllReadyH.cons rfl (fun K hK => ?_) AllReadyH.nil; replace hK := Lib.hid hK
        refine step_appK (R := spanTy) rfl (.tmp 43) (.tmp 46) rfl rfl (A := A6) (B := none) (n := 0 + 1) (m := 0) (c := c6) (d := 0) (xs := [] ++ ([] : List Sp).take (0) ++ [x]) (ys := ([] : List Sp).drop (0)) O6.out L2.out rfl (R2.out _ C.out) N3.out ?_
        intro A7 c7 wc o7 g7 e7
        have O7 := Lib.hid o7
        have F7 := Lib.hid (fresh_appS F6.out.1 C.out g7 e7)
        replace C := Lib.hid F7.out.2
        clear o7 g7 e7
        refine hK.out _ _ (DX.out _ C.out) (fun hHeld => ?_)
        clear hK K; try simp only [Act.put, sA, s0, s1]
        refine sy 15 4 rfl rfl ?_ (hS := (DX.out _ C.out))
        try simp only [Act.put, sA, s0, s1]
        refine wpAnyH_done (by kernel_rfl) ?_ _; clear hHeld
        have O8 := Lib.hid (HF.out ▸ O7.out)
        exact JOIN pe px A5 c5 A6 c6 A7 c7 wc ⟨O8, Lib.hid F7.out.1, C⟩
      case rest =>
       intro pe px A5 c5 A6 c6 A7 c7 w7 FJ
       obtain ⟨O7, F7, C7⟩ := FJ
       have RC7 := Lib.hid (RC.out.trans (KD.out.trans C7.out))
       clear R1 R2 DX HF N1 N2 N3 L1 L2 C
       have FN : Hid (∀ a, A7 = some a → w.heap.size ≤ a.block) := Lib.hid (fun a ha => by have := F7.out a ha; have := (RC.out.trans KD.out).size; omega)
       have i3 : IntKind.i64.wrap ((i : Int) + 1) = (i : Int) + 1 := IntWalk.i64_in _ (by have := HNI.out; omega)
       go_wp2; go_round
       case rel => exact ⟨i + 1, A7, c7, by omega, by go_num, by rw [HINS.out]; first | (congr 1; done) | ((congr 1; rw [insS_len]) <;> (have := OLH.out; simp at this; omega)), by rw [HINS.out]; exact O7, FN, RC7⟩
       case measure => simp [RowKit.intOf]; omega
     ·
      subst eB
      have HCD := RO.out.cap.1
      by_cases hkd : out.length = d
      ·
       subst hkd
       obtain ⟨q0, q1, q2⟩ := XC.out _ KC.out
       refine wp_region_held_drew (S := fun w' => w'.cell? ⟨g, o + i * 3, none⟩ = some (.int .i64 x.1) ∧ w'.cell? ⟨g, o + i * 3 + 1, none⟩ = some (.int .i64 x.2.1) ∧ w'.cell? ⟨g, o + i * 3 + 2, none⟩ = some (.int .i64 x.2.2)) (by kernel_rfl) ⟨q0, q1, q2⟩ (fun hHeld => ?_)
       have KD := Lib.hid (KC.out.trans (Chg.refl [] w9).drew)
       clear q0 q1 q2 hHeld
       generalize w9.drew = wd at *
       have DX := Lib.hid (fun (w' : World) (hc : Chg [] wd w') => XC.out w' (KD.out.trans hc))
       have R1 : Hid (∀ w', Chg [] wd w' → RdK spanTy w' (some ⟨g2, 0, none⟩) (out.length) (out.take (out.length))) := Lib.hid (fun w' hc => by
        have q := (RO.out.take (out.length)).reads.chg (KD.out.trans hc) (by simp)
        rwa [List.length_take, Nat.min_eq_left (by omega)] at q)
       have R2 : Hid (∀ w', Chg [] wd w' → RdK spanTy w' (some ⟨g2, 0, none⟩) 0 (out.drop out.length)) := Lib.hid (fun w' hc => by rw [List.drop_of_length_le (Nat.le_refl _)]; exact RdK.nil w' _)
       have HF : Hid (([] ++ out.take (out.length)) ++ [x] ++ out.drop (out.length) = insS x out) := Lib.hid (by unfold insS; rw [HCN.out]; simp)
       have N2 : Hid ((out.length + 1) * 400 ≤ 140737488355327) := Lib.hid (by omega)
       have N3 : Hid ((out.length + 1 + (0)) * 400 ≤ 140737488355327) := Lib.hid (by omega)
       have L1 : Hid (([] ++ out.take (out.length)).length = out.length) := Lib.hid (by simp <;> omega)
       have L2 : Hid (([] ++ out.take (out.length) ++ [x]).length = out.length + 1) := Lib.hid (by simp <;> omega)
       have N1 : Hid ((0 + out.length) * 400 ≤ 140737488355327) := Lib.hid (by omega)
       have b0 : (0 : Int) ≤ (out.length : Nat) := Int.natCast_nonneg _
       have b1 : out.length ≤ out.length := by omega
       have b1' : ((out.length : Nat) : Int) ≤ ((out.length : Nat) : Int) := by omega
       clear XC KC RO
       have C := Lib.hid (Chg.refl [] wd)
       obtain ⟨wc, hwc⟩ : ∃ wc, wd = wc := ⟨_, rfl⟩
       rw [hwc] at C ⊢
       have C : Hid (Chg [] wd wc) := Lib.hid (hwc ▸ Chg.refl [] wd)
       clear hwc
       refine' join9 (F := fun (p q : Nat) (A5 : Option Addr) (c5 : Nat) (A6 : Option Addr) (c6 : Nat) (A7 : Option Addr) (c7 : Nat) (w7 : World) => Hid (OwnK spanTy w7 A7 c7 (insS x out)) ∧ Hid (∀ a, A7 = some a → wd.heap.size ≤ a.block) ∧ Hid (Chg [] wd w7)) (R := _) (fun JOIN => ?leaf) ?rest
       case leaf =>
        refine sy 1 34 rfl rfl ?_ (hS := (DX.out _ C.out))
        try simp only [Act.put, sA, s0, s1]
        refine sy 2 35 rfl rfl ?_ (hS := (DX.out _ C.out))
        try simp only [Act.put, sA, s0, s1]
        refine sy 3 36 rfl rfl ?_ (hS := (DX.out _ C.out))
        try simp only [Act.put, sA, s0, s1]
        refine sy 5 38 rfl rfl ?_ (hS := (DX.out _ C.out))
        try simp only [Act.put, sA, s0, s1]
        refine sy 6 39 rfl rfl ?_ (hS := (DX.out _ C.out))
        try simp only [Act.put, sA, s0, s1]
        refine sy 7 40 rfl rfl ?_ (hS := (DX.out _ C.out))
        try simp only [Act.put, sA, s0, s1]
        refine sy 8 41 rfl rfl ?_ (hS := (DX.out _ C.out)) (hy := by (intro w hSw; (try dsimp only at hSw); obtain ⟨q0, q1, q2⟩ := hSw; go_simp; try with_reducible rfl))
        try simp only [Act.put, sA, s0, s1]
        refine sy 11 44 rfl rfl ?_ (hS := (DX.out _ C.out))
        try simp only [Act.put, sA, s0, s1]
        refine sy 12 45 rfl rfl ?_ (hS := (DX.out _ C.out))
        try simp only [Act.put, sA, s0, s1]
        refine sy 13 46 rfl rfl ?_ (hS := (DX.out _ C.out))
        try simp only [Act.put, sA, s0, s1]
        refine wpAnyH_ready (rs := [0, 9]) (by kernel_rfl) (by simp) ?_
        refine AllReadyH.cons rfl (fun K hK => ?_) (AllReadyH.cons rfl (fun K hK => ?_) AllReadyH.nil)
        ·
         skip; replace hK := Lib.hid hK
         have hHeld := DX.out _ C.out
         obtain ⟨q0, q1, q2⟩ := hHeld
         obtain ⟨pe, hpp⟩ : ∃ p, wc.heap.size = p := ⟨_, rfl⟩
         have SZpe := Lib.hid (sized C.out hpp)
         have NSpe := Lib.hid hpp
         clear hpp; go_simp; clear q0 q1 q2
         obtain ⟨wc, hw, cn, bn⟩ := news1 wc (.cells #[] 72)
         rw [← hw, NSpe.out]
         rw [NSpe.out] at bn
         have EO := Lib.hid (own_emptyS bn)
         have LTpe := Lib.hid (lt_of_heap bn)
         replace C := Lib.hid (C.out.trans cn)
         try replace XR := Lib.hid (XR.out.chg cn (by simp))
         try have NE : Hid (px ≠ pe) := Lib.hid (by have := NSpe.out; have := LTpx.out; omega)
         clear hw cn bn
         refine hK.out _ _ (DX.out _ C.out) (fun hHeld => ?_)
         clear hK K; try simp only [Act.put, sA, s0, s1]
         refine wpAnyH_ready (rs := [4, 9]) (by kernel_rfl) (by simp) ?_
         refine AllReadyH.cons rfl (fun K hK => ?_) (AllReadyH.cons rfl (fun K hK => ?_) AllReadyH.nil)
         ·
          skip; replace hK := Lib.hid hK
          refine step_appK (R := spanTy) rfl (.tmp 33) (.tmp 36) rfl rfl (A := some ⟨pe, 0, none⟩) (B := some ⟨g2, 0, none⟩) (n := 0) (m := out.length) (c := 0) (d := out.length) (xs := []) (ys := out.take (out.length)) EO.out rfl rfl (R1.out _ C.out) N1.out ?_
          rw [Nat.zero_add]
          intro A5 c5 wc o5 g5 e5
          have O5 := Lib.hid o5
          have F5 := Lib.hid (fresh_appS SZpe.out C.out g5 e5)
          replace C := Lib.hid F5.out.2
          try replace XR := Lib.hid (rd_overS XR.out NE.out g5)
          clear o5 g5 e5
          refine hK.out _ _ (DX.out _ C.out) (fun hHeld => ?_)
          clear hK K; try simp only [Act.put, sA, s0, s1]
          refine wpAnyH_ready (rs := [9]) (by kernel_rfl) (by simp) ?_; refine AllReadyH.cons rfl (fun K hK => ?_) AllReadyH.nil; replace hK := Lib.hid hK
          have hHeld := DX.out _ C.out
          obtain ⟨q0, q1, q2⟩ := hHeld
          obtain ⟨px, hpp⟩ : ∃ p, wc.heap.size = p := ⟨_, rfl⟩
          have SZpx := Lib.hid (sized C.out hpp)
          have NSpx := Lib.hid hpp
          clear hpp; go_simp; clear q0 q1 q2
          obtain ⟨wc, hw, cn, bn⟩ := news1 wc (.cells #[.int .i64 x.1, .int .i64 x.2.1, .int .i64 x.2.2] 72)
          rw [← hw, NSpx.out]
          rw [NSpx.out] at bn
          have XR := Lib.hid (rd_oneS (x := x) bn)
          have LTpx := Lib.hid (lt_of_heap bn)
          replace C := Lib.hid (C.out.trans cn)
          try replace EO := Lib.hid (EO.out.chg cn (by simp))
          try replace O5 := Lib.hid (O5.out.chg cn (by simp))
          try have NE : Hid (px ≠ pe) := Lib.hid (by have := NSpx.out; have := LTpe.out; omega)
          clear hw cn bn
          refine hK.out _ _ (DX.out _ C.out) (fun hHeld => ?_)
          clear hK K; try simp only [Act.put, sA, s0, s1]
          refine wpAnyH_ready (rs := [10]) (by kernel_rfl) (by simp) ?_; refine AllReadyH.cons rfl (fun K hK => ?_) AllReadyH.nil; replace hK := Lib.hid hK
          refine step_appK (R := spanTy) rfl (.tmp 37) (.tmp 42) rfl rfl (A := A5) (B := some ⟨px, 0, none⟩) (n := out.length) (m := 1) (c := c5) (d := 1) (xs := [] ++ out.take (out.length)) (ys := [x]) O5.out L1.out rfl XR.out N2.out ?_
          intro A6 c6 wc o6 g6 e6
          have O6 := Lib.hid o6
          have F6 := Lib.hid (fresh_appS F5.out.1 C.out g6 e6)
          replace C := Lib.hid F6.out.2
          clear o6 g6 e6
          refine hK.out _ _ (DX.out _ C.out) (fun hHeld => ?_)
          clear hK K; try simp only [Act.put, sA, s0, s1]
          refine wpAnyH_ready (rs := [14]) (by kernel_rfl) (by simp) ?_; refine AllReadyH.cons rfl (fun K hK => ?_) AllReadyH.nil; replace hK := Lib.hid hK
          refine step_appK (R := spanTy) rfl (.tmp 43) (.tmp 46) rfl rfl (A := A6) (B := some ⟨g2, 0, none⟩) (n := out.length + 1) (m := 0) (c := c6) (d := 0) (xs := [] ++ out.take (out.length) ++ [x]) (ys := out.drop (out.length)) O6.out L2.out rfl (R2.out _ C.out) N3.out ?_
          intro A7 c7 wc o7 g7 e7
          have O7 := Lib.hid o7
          have F7 := Lib.hid (fresh_appS F6.out.1 C.out g7 e7)
          replace C := Lib.hid F7.out.2
          clear o7 g7 e7
          refine hK.out _ _ (DX.out _ C.out) (fun hHeld => ?_)
          clear hK K; try simp only [Act.put, sA, s0, s1]
          refine sy 15 4 rfl rfl ?_ (hS := (DX.out _ C.out))
          try simp only [Act.put, sA, s0, s1]
          refine wpAnyH_done (by kernel_rfl) ?_ _; clear hHeld
          have O8 := Lib.hid (HF.out ▸ O7.out)
          exact JOIN pe px A5 c5 A6 c6 A7 c7 wc ⟨O8, Lib.hid F7.out.1, C⟩
         ·
          skip; replace hK := Lib.hid hK
          have hHeld := DX.out _ C.out
          obtain ⟨q0, q1, q2⟩ := hHeld
          obtain ⟨px, hpp⟩ : ∃ p, wc.heap.size = p := ⟨_, rfl⟩
          have SZpx := Lib.hid (sized C.out hpp)
          have NSpx := Lib.hid hpp
          clear hpp; go_simp; clear q0 q1 q2
          obtain ⟨wc, hw, cn, bn⟩ := news1 wc (.cells #[.int .i64 x.1, .int .i64 x.2.1, .int .i64 x.2.2] 72)
          rw [← hw, NSpx.out]
          rw [NSpx.out] at bn
          have XR := Lib.hid (rd_oneS (x := x) bn)
          have LTpx := Lib.hid (lt_of_heap bn)
          replace C := Lib.hid (C.out.trans cn)
          try replace EO := Lib.hid (EO.out.chg cn (by simp))
          try replace O5 := Lib.hid (O5.out.chg cn (by simp))
          try have NE : Hid (px ≠ pe) := Lib.hid (by have := NSpx.out; have := LTpe.out; omega)
          clear hw cn bn
          refine hK.out _ _ (DX.out _ C.out) (fun hHeld => ?_)
          clear hK K; try simp only [Act.put, sA, s0, s1]
          refine wpAnyH_ready (rs := [4]) (by kernel_rfl) (by simp) ?_; refine AllReadyH.cons rfl (fun K hK => ?_) AllReadyH.nil; replace hK := Lib.hid hK
          refine step_appK (R := spanTy) rfl (.tmp 33) (.tmp 36) rfl rfl (A := some ⟨pe, 0, none⟩) (B := some ⟨g2, 0, none⟩) (n := 0) (m := out.length) (c := 0) (d := out.length) (xs := []) (ys := out.take (out.length)) EO.out rfl rfl (R1.out _ C.out) N1.out ?_
          rw [Nat.zero_add]
          intro A5 c5 wc o5 g5 e5
          have O5 := Lib.hid o5
          have F5 := Lib.hid (fresh_appS SZpe.out C.out g5 e5)
          replace C := Lib.hid F5.out.2
          try replace XR := Lib.hid (rd_overS XR.out NE.out g5)
          clear o5 g5 e5
          refine hK.out _ _ (DX.out _ C.out) (fun hHeld => ?_)
          clear hK K; try simp only [Act.put, sA, s0, s1]
          refine wpAnyH_ready (rs := [10]) (by kernel_rfl) (by simp) ?_; refine AllReadyH.cons rfl (fun K hK => ?_) AllReadyH.nil; replace hK := Lib.hid hK
          refine step_appK (R := spanTy) rfl (.tmp 37) (.tmp 42) rfl rfl (A := A5) (B := some ⟨px, 0, none⟩) (n := out.length) (m := 1) (c := c5) (d := 1) (xs := [] ++ out.take (out.length)) (ys := [x]) O5.out L1.out rfl XR.out N2.out ?_
          intro A6 c6 wc o6 g6 e6
          have O6 := Lib.hid o6
          have F6 := Lib.hid (fresh_appS F5.out.1 C.out g6 e6)
          replace C := Lib.hid F6.out.2
          clear o6 g6 e6
          refine hK.out _ _ (DX.out _ C.out) (fun hHeld => ?_)
          clear hK K; try simp only [Act.put, sA, s0, s1]
          refine wpAnyH_ready (rs := [14]) (by kernel_rfl) (by simp) ?_; refine AllReadyH.cons rfl (fun K hK => ?_) AllReadyH.nil; replace hK := Lib.hid hK
          refine step_appK (R := spanTy) rfl (.tmp 43) (.tmp 46) rfl rfl (A := A6) (B := some ⟨g2, 0, none⟩) (n := out.length + 1) (m := 0) (c := c6) (d := 0) (xs := [] ++ out.take (out.length) ++ [x]) (ys := out.drop (out.length)) O6.out L2.out rfl (R2.out _ C.out) N3.out ?_
          intro A7 c7 wc o7 g7 e7
          have O7 := Lib.hid o7
          have F7 := Lib.hid (fresh_appS F6.out.1 C.out g7 e7)
          replace C := Lib.hid F7.out.2
          clear o7 g7 e7
          refine hK.out _ _ (DX.out _ C.out) (fun hHeld => ?_)
          clear hK K; try simp only [Act.put, sA, s0, s1]
          refine sy 15 4 rfl rfl ?_ (hS := (DX.out _ C.out))
          try simp only [Act.put, sA, s0, s1]
          refine wpAnyH_done (by kernel_rfl) ?_ _; clear hHeld
          have O8 := Lib.hid (HF.out ▸ O7.out)
          exact JOIN pe px A5 c5 A6 c6 A7 c7 wc ⟨O8, Lib.hid F7.out.1, C⟩
        ·
         skip; replace hK := Lib.hid hK
         have hHeld := DX.out _ C.out
         obtain ⟨q0, q1, q2⟩ := hHeld
         obtain ⟨px, hpp⟩ : ∃ p, wc.heap.size = p := ⟨_, rfl⟩
         have SZpx := Lib.hid (sized C.out hpp)
         have NSpx := Lib.hid hpp
         clear hpp; go_simp; clear q0 q1 q2
         obtain ⟨wc, hw, cn, bn⟩ := news1 wc (.cells #[.int .i64 x.1, .int .i64 x.2.1, .int .i64 x.2.2] 72)
         rw [← hw, NSpx.out]
         rw [NSpx.out] at bn
         have XR := Lib.hid (rd_oneS (x := x) bn)
         have LTpx := Lib.hid (lt_of_heap bn)
         replace C := Lib.hid (C.out.trans cn)
         try replace EO := Lib.hid (EO.out.chg cn (by simp))
         try replace O5 := Lib.hid (O5.out.chg cn (by simp))
         try have NE : Hid (px ≠ pe) := Lib.hid (by have := NSpx.out; have := LTpe.out; omega)
         clear hw cn bn
         refine hK.out _ _ (DX.out _ C.out) (fun hHeld => ?_)
         clear hK K; try simp only [Act.put, sA, s0, s1]
         refine wpAnyH_ready (rs := [0]) (by kernel_rfl) (by simp) ?_; refine AllReadyH.cons rfl (fun K hK => ?_) AllReadyH.nil; replace hK := Lib.hid hK
         have hHeld := DX.out _ C.out
         obtain ⟨q0, q1, q2⟩ := hHeld
         obtain ⟨pe, hpp⟩ : ∃ p, wc.heap.size = p := ⟨_, rfl⟩
         have SZpe := Lib.hid (sized C.out hpp)
         have NSpe := Lib.hid hpp
         clear hpp; go_simp; clear q0 q1 q2
         obtain ⟨wc, hw, cn, bn⟩ := news1 wc (.cells #[] 72)
         rw [← hw, NSpe.out]
         rw [NSpe.out] at bn
         have EO := Lib.hid (own_emptyS bn)
         have LTpe := Lib.hid (lt_of_heap bn)
         replace C := Lib.hid (C.out.trans cn)
         try replace XR := Lib.hid (XR.out.chg cn (by simp))
         try have NE : Hid (px ≠ pe) := Lib.hid (by have := NSpe.out; have := LTpx.out; omega)
         clear hw cn bn
         refine hK.out _ _ (DX.out _ C.out) (fun hHeld => ?_)
         clear hK K; try simp only [Act.put, sA, s0, s1]
         refine wpAnyH_ready (rs := [4]) (by kernel_rfl) (by simp) ?_; refine AllReadyH.cons rfl (fun K hK => ?_) AllReadyH.nil; replace hK := Lib.hid hK
         refine step_appK (R := spanTy) rfl (.tmp 33) (.tmp 36) rfl rfl (A := some ⟨pe, 0, none⟩) (B := some ⟨g2, 0, none⟩) (n := 0) (m := out.length) (c := 0) (d := out.length) (xs := []) (ys := out.take (out.length)) EO.out rfl rfl (R1.out _ C.out) N1.out ?_
         rw [Nat.zero_add]
         intro A5 c5 wc o5 g5 e5
         have O5 := Lib.hid o5
         have F5 := Lib.hid (fresh_appS SZpe.out C.out g5 e5)
         replace C := Lib.hid F5.out.2
         try replace XR := Lib.hid (rd_overS XR.out NE.out g5)
         clear o5 g5 e5
         refine hK.out _ _ (DX.out _ C.out) (fun hHeld => ?_)
         clear hK K; try simp only [Act.put, sA, s0, s1]
         refine wpAnyH_ready (rs := [10]) (by kernel_rfl) (by simp) ?_; refine AllReadyH.cons rfl (fun K hK => ?_) AllReadyH.nil; replace hK := Lib.hid hK
         refine step_appK (R := spanTy) rfl (.tmp 37) (.tmp 42) rfl rfl (A := A5) (B := some ⟨px, 0, none⟩) (n := out.length) (m := 1) (c := c5) (d := 1) (xs := [] ++ out.take (out.length)) (ys := [x]) O5.out L1.out rfl XR.out N2.out ?_
         intro A6 c6 wc o6 g6 e6
         have O6 := Lib.hid o6
         have F6 := Lib.hid (fresh_appS F5.out.1 C.out g6 e6)
         replace C := Lib.hid F6.out.2
         clear o6 g6 e6
         refine hK.out _ _ (DX.out _ C.out) (fun hHeld => ?_)
         clear hK K; try simp only [Act.put, sA, s0, s1]
         refine wpAnyH_ready (rs := [14]) (by kernel_rfl) (by simp) ?_; refine AllReadyH.cons rfl (fun K hK => ?_) AllReadyH.nil; replace hK := Lib.hid hK
         refine step_appK (R := spanTy) rfl (.tmp 43) (.tmp 46) rfl rfl (A := A6) (B := some ⟨g2, 0, none⟩) (n := out.length + 1) (m := 0) (c := c6) (d := 0) (xs := [] ++ out.take (out.length) ++ [x]) (ys := out.drop (out.length)) O6.out L2.out rfl (R2.out _ C.out) N3.out ?_
         intro A7 c7 wc o7 g7 e7
         have O7 := Lib.hid o7
         have F7 := Lib.hid (fresh_appS F6.out.1 C.out g7 e7)
         replace C := Lib.hid F7.out.2
         clear o7 g7 e7
         refine hK.out _ _ (DX.out _ C.out) (fun hHeld => ?_)
         clear hK K; try simp only [Act.put, sA, s0, s1]
         refine sy 15 4 rfl rfl ?_ (hS := (DX.out _ C.out))
         try simp only [Act.put, sA, s0, s1]
         refine wpAnyH_done (by kernel_rfl) ?_ _; clear hHeld
         have O8 := Lib.hid (HF.out ▸ O7.out)
         exact JOIN pe px A5 c5 A6 c6 A7 c7 wc ⟨O8, Lib.hid F7.out.1, C⟩
       case rest =>
        intro pe px A5 c5 A6 c6 A7 c7 w7 FJ
        obtain ⟨O7, F7, C7⟩ := FJ
        have RC7 := Lib.hid (RC.out.trans (KD.out.trans C7.out))
        clear R1 R2 DX HF N1 N2 N3 L1 L2 C
        have FN : Hid (∀ a, A7 = some a → w.heap.size ≤ a.block) := Lib.hid (fun a ha => by have := F7.out a ha; have := (RC.out.trans KD.out).size; omega)
        have i3 : IntKind.i64.wrap ((i : Int) + 1) = (i : Int) + 1 := IntWalk.i64_in _ (by have := HNI.out; omega)
        go_wp2; go_round
        case rel => exact ⟨i + 1, A7, c7, by omega, by go_num, by rw [HINS.out]; first | (congr 1; done) | ((congr 1; rw [insS_len]) <;> (have := OLH.out; omega)), by rw [HINS.out]; exact O7, FN, RC7⟩
        case measure => simp [RowKit.intOf]; omega
      ·
       skip
       obtain ⟨q0, q1, q2⟩ := XC.out _ KC.out
       refine wp_region_held_drew (S := fun w' => w'.cell? ⟨g, o + i * 3, none⟩ = some (.int .i64 x.1) ∧ w'.cell? ⟨g, o + i * 3 + 1, none⟩ = some (.int .i64 x.2.1) ∧ w'.cell? ⟨g, o + i * 3 + 2, none⟩ = some (.int .i64 x.2.2)) (by kernel_rfl) ⟨q0, q1, q2⟩ (fun hHeld => ?_)
       have KD := Lib.hid (KC.out.trans (Chg.refl [] w9).drew)
       clear q0 q1 q2 hHeld
       generalize w9.drew = wd at *
       have DX := Lib.hid (fun (w' : World) (hc : Chg [] wd w') => XC.out w' (KD.out.trans hc))
       have R1 : Hid (∀ w', Chg [] wd w' → RdK spanTy w' (some ⟨g2, 0, none⟩) (out.length) (out.take (out.length))) := Lib.hid (fun w' hc => by
        have q := (RO.out.take (out.length)).reads.chg (KD.out.trans hc) (by simp)
        rwa [List.length_take, Nat.min_eq_left (by omega)] at q)
       have R2 : Hid (∀ w', Chg [] wd w' → RdK spanTy w' (some ⟨g2, out.length * 3, none⟩) 0 (out.drop out.length)) := Lib.hid (fun w' hc => by rw [List.drop_of_length_le (Nat.le_refl _)]; exact RdK.nil w' _)
       have HF : Hid (([] ++ out.take (out.length)) ++ [x] ++ out.drop (out.length) = insS x out) := Lib.hid (by unfold insS; rw [HCN.out]; simp)
       have N2 : Hid ((out.length + 1) * 400 ≤ 140737488355327) := Lib.hid (by omega)
       have N3 : Hid ((out.length + 1 + (0)) * 400 ≤ 140737488355327) := Lib.hid (by omega)
       have L1 : Hid (([] ++ out.take (out.length)).length = out.length) := Lib.hid (by simp <;> omega)
       have L2 : Hid (([] ++ out.take (out.length) ++ [x]).length = out.length + 1) := Lib.hid (by simp <;> omega)
       have N1 : Hid ((0 + out.length) * 400 ≤ 140737488355327) := Lib.hid (by omega)
       have b0 : (0 : Int) ≤ (out.length : Nat) := Int.natCast_nonneg _
       have b1 : out.length ≤ d := by omega
       have b1' : ((out.length : Nat) : Int) ≤ ((d : Nat) : Int) := by omega
       have b2 : ¬ out.length = d := by omega
       have b3 : ¬ d = out.length := by omega
       clear XC KC RO
       have C := Lib.hid (Chg.refl [] wd)
       obtain ⟨wc, hwc⟩ : ∃ wc, wd = wc := ⟨_, rfl⟩
       rw [hwc] at C ⊢
       have C : Hid (Chg [] wd wc) := Lib.hid (hwc ▸ Chg.refl [] wd)
       clear hwc
       refine' join9 (F := fun (p q : Nat) (A5 : Option Addr) (c5 : Nat) (A6 : Option Addr) (c6 : Nat) (A7 : Option Addr) (c7 : Nat) (w7 : World) => Hid (OwnK spanTy w7 A7 c7 (insS x out)) ∧ Hid (∀ a, A7 = some a → wd.heap.size ≤ a.block) ∧ Hid (Chg [] wd w7)) (R := _) (fun JOIN => ?leaf) ?rest
       case leaf =>
        refine sy 1 34 rfl rfl ?_ (hS := (DX.out _ C.out))
        try simp only [Act.put, sA, s0, s1]
        refine sy 2 35 rfl rfl ?_ (hS := (DX.out _ C.out))
        try simp only [Act.put, sA, s0, s1]
        refine sy 3 36 rfl rfl ?_ (hS := (DX.out _ C.out))
        try simp only [Act.put, sA, s0, s1]
        refine sy 5 38 rfl rfl ?_ (hS := (DX.out _ C.out))
        try simp only [Act.put, sA, s0, s1]
        refine sy 6 39 rfl rfl ?_ (hS := (DX.out _ C.out))
        try simp only [Act.put, sA, s0, s1]
        refine sy 7 40 rfl rfl ?_ (hS := (DX.out _ C.out))
        try simp only [Act.put, sA, s0, s1]
        refine sy 8 41 rfl rfl ?_ (hS := (DX.out _ C.out)) (hy := by (intro w hSw; (try dsimp only at hSw); obtain ⟨q0, q1, q2⟩ := hSw; go_simp; try with_reducible rfl))
        try simp only [Act.put, sA, s0, s1]
        refine sy 11 44 rfl rfl ?_ (hS := (DX.out _ C.out))
        try simp only [Act.put, sA, s0, s1]
        refine sy 12 45 rfl rfl ?_ (hS := (DX.out _ C.out))
        try simp only [Act.put, sA, s0, s1]
        refine sy 13 46 rfl rfl ?_ (hS := (DX.out _ C.out))
        try simp only [Act.put, sA, s0, s1]
        refine wpAnyH_ready (rs := [0, 9]) (by kernel_rfl) (by simp) ?_
        refine AllReadyH.cons rfl (fun K hK => ?_) (AllReadyH.cons rfl (fun K hK => ?_) AllReadyH.nil)
        ·
         skip; replace hK := Lib.hid hK
         have hHeld := DX.out _ C.out
         obtain ⟨q0, q1, q2⟩ := hHeld
         obtain ⟨pe, hpp⟩ : ∃ p, wc.heap.size = p := ⟨_, rfl⟩
         have SZpe := Lib.hid (sized C.out hpp)
         have NSpe := Lib.hid hpp
         clear hpp; go_simp; clear q0 q1 q2
         obtain ⟨wc, hw, cn, bn⟩ := news1 wc (.cells #[] 72)
         rw [← hw, NSpe.out]
         rw [NSpe.out] at bn
         have EO := Lib.hid (own_emptyS bn)
         have LTpe := Lib.hid (lt_of_heap bn)
         replace C := Lib.hid (C.out.trans cn)
         try replace XR := Lib.hid (XR.out.chg cn (by simp))
         try have NE : Hid (px ≠ pe) := Lib.hid (by have := NSpe.out; have := LTpx.out; omega)
         clear hw cn bn
         refine hK.out _ _ (DX.out _ C.out) (fun hHeld => ?_)
         clear hK K; try simp only [Act.put, sA, s0, s1]
         refine wpAnyH_ready (rs := [4, 9]) (by kernel_rfl) (by simp) ?_
         refine AllReadyH.cons rfl (fun K hK => ?_) (AllReadyH.cons rfl (fun K hK => ?_) AllReadyH.nil)
         ·
          skip; replace hK := Lib.hid hK
          refine step_appK (R := spanTy) rfl (.tmp 33) (.tmp 36) rfl rfl (A := some ⟨pe, 0, none⟩) (B := some ⟨g2, 0, none⟩) (n := 0) (m := out.length) (c := 0) (d := d) (xs := []) (ys := out.take (out.length)) EO.out rfl rfl (R1.out _ C.out) N1.out ?_
          rw [Nat.zero_add]
          intro A5 c5 wc o5 g5 e5
          have O5 := Lib.hid o5
          have F5 := Lib.hid (fresh_appS SZpe.out C.out g5 e5)
          replace C := Lib.hid F5.out.2
          try replace XR := Lib.hid (rd_overS XR.out NE.out g5)
          clear o5 g5 e5
          refine hK.out _ _ (DX.out _ C.out) (fun hHeld => ?_)
          clear hK K; try simp only [Act.put, sA, s0, s1]
          refine wpAnyH_ready (rs := [9]) (by kernel_rfl) (by simp) ?_; refine AllReadyH.cons rfl (fun K hK => ?_) AllReadyH.nil; replace hK := Lib.hid hK
          have hHeld := DX.out _ C.out
          obtain ⟨q0, q1, q2⟩ := hHeld
          obtain ⟨px, hpp⟩ : ∃ p, wc.heap.size = p := ⟨_, rfl⟩
          have SZpx := Lib.hid (sized C.out hpp)
          have NSpx := Lib.hid hpp
          clear hpp; go_simp; clear q0 q1 q2
          obtain ⟨wc, hw, cn, bn⟩ := news1 wc (.cells #[.int .i64 x.1, .int .i64 x.2.1, .int .i64 x.2.2] 72)
          rw [← hw, NSpx.out]
          rw [NSpx.out] at bn
          have XR := Lib.hid (rd_oneS (x := x) bn)
          have LTpx := Lib.hid (lt_of_heap bn)
          replace C := Lib.hid (C.out.trans cn)
          try replace EO := Lib.hid (EO.out.chg cn (by simp))
          try replace O5 := Lib.hid (O5.out.chg cn (by simp))
          try have NE : Hid (px ≠ pe) := Lib.hid (by have := NSpx.out; have := LTpe.out; omega)
          clear hw cn bn
          refine hK.out _ _ (DX.out _ C.out) (fun hHeld => ?_)
          clear hK K; try simp only [Act.put, sA, s0, s1]
          refine wpAnyH_ready (rs := [10]) (by kernel_rfl) (by simp) ?_; refine AllReadyH.cons rfl (fun K hK => ?_) AllReadyH.nil; replace hK := Lib.hid hK
          refine step_appK (R := spanTy) rfl (.tmp 37) (.tmp 42) rfl rfl (A := A5) (B := some ⟨px, 0, none⟩) (n := out.length) (m := 1) (c := c5) (d := 1) (xs := [] ++ out.take (out.length)) (ys := [x]) O5.out L1.out rfl XR.out N2.out ?_
          intro A6 c6 wc o6 g6 e6
          have O6 := Lib.hid o6
          have F6 := Lib.hid (fresh_appS F5.out.1 C.out g6 e6)
          replace C := Lib.hid F6.out.2
          clear o6 g6 e6
          refine hK.out _ _ (DX.out _ C.out) (fun hHeld => ?_)
          clear hK K; try simp only [Act.put, sA, s0, s1]
          refine wpAnyH_ready (rs := [14]) (by kernel_rfl) (by simp) ?_; refine AllReadyH.cons rfl (fun K hK => ?_) AllReadyH.nil; replace hK := Lib.hid hK
          refine step_appK (R := spanTy) rfl (.tmp 43) (.tmp 46) rfl rfl (A := A6) (B := some ⟨g2, out.length * 3, none⟩) (n := out.length + 1) (m := 0) (c := c6) (d := d - out.length) (xs := [] ++ out.take (out.length) ++ [x]) (ys := out.drop (out.length)) O6.out L2.out rfl (R2.out _ C.out) N3.out ?_
          intro A7 c7 wc o7 g7 e7
          have O7 := Lib.hid o7
          have F7 := Lib.hid (fresh_appS F6.out.1 C.out g7 e7)
          replace C := Lib.hid F7.out.2
          clear o7 g7 e7
          refine hK.out _ _ (DX.out _ C.out) (fun hHeld => ?_)
          clear hK K; try simp only [Act.put, sA, s0, s1]
          refine sy 15 4 rfl rfl ?_ (hS := (DX.out _ C.out))
          try simp only [Act.put, sA, s0, s1]
          refine wpAnyH_done (by kernel_rfl) ?_ _; clear hHeld
          have O8 := Lib.hid (HF.out ▸ O7.out)
          exact JOIN pe px A5 c5 A6 c6 A7 c7 wc ⟨O8, Lib.hid F7.out.1, C⟩
         ·
          skip; replace hK := Lib.hid hK
          have hHeld := DX.out _ C.out
          obtain ⟨q0, q1, q2⟩ := hHeld
          obtain ⟨px, hpp⟩ : ∃ p, wc.heap.size = p := ⟨_, rfl⟩
          have SZpx := Lib.hid (sized C.out hpp)
          have NSpx := Lib.hid hpp
          clear hpp; go_simp; clear q0 q1 q2
          obtain ⟨wc, hw, cn, bn⟩ := news1 wc (.cells #[.int .i64 x.1, .int .i64 x.2.1, .int .i64 x.2.2] 72)
          rw [← hw, NSpx.out]
          rw [NSpx.out] at bn
          have XR := Lib.hid (rd_oneS (x := x) bn)
          have LTpx := Lib.hid (lt_of_heap bn)
          replace C := Lib.hid (C.out.trans cn)
          try replace EO := Lib.hid (EO.out.chg cn (by simp))
          try replace O5 := Lib.hid (O5.out.chg cn (by simp))
          try have NE : Hid (px ≠ pe) := Lib.hid (by have := NSpx.out; have := LTpe.out; omega)
          clear hw cn bn
          refine hK.out _ _ (DX.out _ C.out) (fun hHeld => ?_)
          clear hK K; try simp only [Act.put, sA, s0, s1]
          refine wpAnyH_ready (rs := [4]) (by kernel_rfl) (by simp) ?_; refine AllReadyH.cons rfl (fun K hK => ?_) AllReadyH.nil; replace hK := Lib.hid hK
          refine step_appK (R := spanTy) rfl (.tmp 33) (.tmp 36) rfl rfl (A := some ⟨pe, 0, none⟩) (B := some ⟨g2, 0, none⟩) (n := 0) (m := out.length) (c := 0) (d := d) (xs := []) (ys := out.take (out.length)) EO.out rfl rfl (R1.out _ C.out) N1.out ?_
          rw [Nat.zero_add]
          intro A5 c5 wc o5 g5 e5
          have O5 := Lib.hid o5
          have F5 := Lib.hid (fresh_appS SZpe.out C.out g5 e5)
          replace C := Lib.hid F5.out.2
          try replace XR := Lib.hid (rd_overS XR.out NE.out g5)
          clear o5 g5 e5
          refine hK.out _ _ (DX.out _ C.out) (fun hHeld => ?_)
          clear hK K; try simp only [Act.put, sA, s0, s1]
          refine wpAnyH_ready (rs := [10]) (by kernel_rfl) (by simp) ?_; refine AllReadyH.cons rfl (fun K hK => ?_) AllReadyH.nil; replace hK := Lib.hid hK
          refine step_appK (R := spanTy) rfl (.tmp 37) (.tmp 42) rfl rfl (A := A5) (B := some ⟨px, 0, none⟩) (n := out.length) (m := 1) (c := c5) (d := 1) (xs := [] ++ out.take (out.length)) (ys := [x]) O5.out L1.out rfl XR.out N2.out ?_
          intro A6 c6 wc o6 g6 e6
          have O6 := Lib.hid o6
          have F6 := Lib.hid (fresh_appS F5.out.1 C.out g6 e6)
          replace C := Lib.hid F6.out.2
          clear o6 g6 e6
          refine hK.out _ _ (DX.out _ C.out) (fun hHeld => ?_)
          clear hK K; try simp only [Act.put, sA, s0, s1]
          refine wpAnyH_ready (rs := [14]) (by kernel_rfl) (by simp) ?_; refine AllReadyH.cons rfl (fun K hK => ?_) AllReadyH.nil; replace hK := Lib.hid hK
          refine step_appK (R := spanTy) rfl (.tmp 43) (.tmp 46) rfl rfl (A := A6) (B := some ⟨g2, out.length * 3, none⟩) (n := out.length + 1) (m := 0) (c := c6) (d := d - out.length) (xs := [] ++ out.take (out.length) ++ [x]) (ys := out.drop (out.length)) O6.out L2.out rfl (R2.out _ C.out) N3.out ?_
          intro A7 c7 wc o7 g7 e7
          have O7 := Lib.hid o7
          have F7 := Lib.hid (fresh_appS F6.out.1 C.out g7 e7)
          replace C := Lib.hid F7.out.2
          clear o7 g7 e7
          refine hK.out _ _ (DX.out _ C.out) (fun hHeld => ?_)
          clear hK K; try simp only [Act.put, sA, s0, s1]
          refine sy 15 4 rfl rfl ?_ (hS := (DX.out _ C.out))
          try simp only [Act.put, sA, s0, s1]
          refine wpAnyH_done (by kernel_rfl) ?_ _; clear hHeld
          have O8 := Lib.hid (HF.out ▸ O7.out)
          exact JOIN pe px A5 c5 A6 c6 A7 c7 wc ⟨O8, Lib.hid F7.out.1, C⟩
        ·
         skip; replace hK := Lib.hid hK
         have hHeld := DX.out _ C.out
         obtain ⟨q0, q1, q2⟩ := hHeld
         obtain ⟨px, hpp⟩ : ∃ p, wc.heap.size = p := ⟨_, rfl⟩
         have SZpx := Lib.hid (sized C.out hpp)
         have NSpx := Lib.hid hpp
         clear hpp; go_simp; clear q0 q1 q2
         obtain ⟨wc, hw, cn, bn⟩ := news1 wc (.cells #[.int .i64 x.1, .int .i64 x.2.1, .int .i64 x.2.2] 72)
         rw [← hw, NSpx.out]
         rw [NSpx.out] at bn
         have XR := Lib.hid (rd_oneS (x := x) bn)
         have LTpx := Lib.hid (lt_of_heap bn)
         replace C := Lib.hid (C.out.trans cn)
         try replace EO := Lib.hid (EO.out.chg cn (by simp))
         try replace O5 := Lib.hid (O5.out.chg cn (by simp))
         try have NE : Hid (px ≠ pe) := Lib.hid (by have := NSpx.out; have := LTpe.out; omega)
         clear hw cn bn
         refine hK.out _ _ (DX.out _ C.out) (fun hHeld => ?_)
         clear hK K; try simp only [Act.put, sA, s0, s1]
         refine wpAnyH_ready (rs := [0]) (by kernel_rfl) (by simp) ?_; refine AllReadyH.cons rfl (fun K hK => ?_) AllReadyH.nil; replace hK := Lib.hid hK
         have hHeld := DX.out _ C.out
         obtain ⟨q0, q1, q2⟩ := hHeld
         obtain ⟨pe, hpp⟩ : ∃ p, wc.heap.size = p := ⟨_, rfl⟩
         have SZpe := Lib.hid (sized C.out hpp)
         have NSpe := Lib.hid hpp
         clear hpp; go_simp; clear q0 q1 q2
         obtain ⟨wc, hw, cn, bn⟩ := news1 wc (.cells #[] 72)
         rw [← hw, NSpe.out]
         rw [NSpe.out] at bn
         have EO := Lib.hid (own_emptyS bn)
         have LTpe := Lib.hid (lt_of_heap bn)
         replace C := Lib.hid (C.out.trans cn)
         try replace XR := Lib.hid (XR.out.chg cn (by simp))
         try have NE : Hid (px ≠ pe) := Lib.hid (by have := NSpe.out; have := LTpx.out; omega)
         clear hw cn bn
         refine hK.out _ _ (DX.out _ C.out) (fun hHeld => ?_)
         clear hK K; try simp only [Act.put, sA, s0, s1]
         refine wpAnyH_ready (rs := [4]) (by kernel_rfl) (by simp) ?_; refine AllReadyH.cons rfl (fun K hK => ?_) AllReadyH.nil; replace hK := Lib.hid hK
         refine step_appK (R := spanTy) rfl (.tmp 33) (.tmp 36) rfl rfl (A := some ⟨pe, 0, none⟩) (B := some ⟨g2, 0, none⟩) (n := 0) (m := out.length) (c := 0) (d := d) (xs := []) (ys := out.take (out.length)) EO.out rfl rfl (R1.out _ C.out) N1.out ?_
         rw [Nat.zero_add]
         intro A5 c5 wc o5 g5 e5
         have O5 := Lib.hid o5
         have F5 := Lib.hid (fresh_appS SZpe.out C.out g5 e5)
         replace C := Lib.hid F5.out.2
         try replace XR := Lib.hid (rd_overS XR.out NE.out g5)
         clear o5 g5 e5
         refine hK.out _ _ (DX.out _ C.out) (fun hHeld => ?_)
         clear hK K; try simp only [Act.put, sA, s0, s1]
         refine wpAnyH_ready (rs := [10]) (by kernel_rfl) (by simp) ?_; refine AllReadyH.cons rfl (fun K hK => ?_) AllReadyH.nil; replace hK := Lib.hid hK
         refine step_appK (R := spanTy) rfl (.tmp 37) (.tmp 42) rfl rfl (A := A5) (B := some ⟨px, 0, none⟩) (n := out.length) (m := 1) (c := c5) (d := 1) (xs := [] ++ out.take (out.length)) (ys := [x]) O5.out L1.out rfl XR.out N2.out ?_
         intro A6 c6 wc o6 g6 e6
         have O6 := Lib.hid o6
         have F6 := Lib.hid (fresh_appS F5.out.1 C.out g6 e6)
         replace C := Lib.hid F6.out.2
         clear o6 g6 e6
         refine hK.out _ _ (DX.out _ C.out) (fun hHeld => ?_)
         clear hK K; try simp only [Act.put, sA, s0, s1]
         refine wpAnyH_ready (rs := [14]) (by kernel_rfl) (by simp) ?_; refine AllReadyH.cons rfl (fun K hK => ?_) AllReadyH.nil; replace hK := Lib.hid hK
         refine step_appK (R := spanTy) rfl (.tmp 43) (.tmp 46) rfl rfl (A := A6) (B := some ⟨g2, out.length * 3, none⟩) (n := out.length + 1) (m := 0) (c := c6) (d := d - out.length) (xs := [] ++ out.take (out.length) ++ [x]) (ys := out.drop (out.length)) O6.out L2.out rfl (R2.out _ C.out) N3.out ?_
         intro A7 c7 wc o7 g7 e7
         have O7 := Lib.hid o7
         have F7 := Lib.hid (fresh_appS F6.out.1 C.out g7 e7)
         replace C := Lib.hid F7.out.2
         clear o7 g7 e7
         refine hK.out _ _ (DX.out _ C.out) (fun hHeld => ?_)
         clear hK K; try simp only [Act.put, sA, s0, s1]
         refine sy 15 4 rfl rfl ?_ (hS := (DX.out _ C.out))
         try simp only [Act.put, sA, s0, s1]
         refine wpAnyH_done (by kernel_rfl) ?_ _; clear hHeld
         have O8 := Lib.hid (HF.out ▸ O7.out)
         exact JOIN pe px A5 c5 A6 c6 A7 c7 wc ⟨O8, Lib.hid F7.out.1, C⟩
       case rest =>
        intro pe px A5 c5 A6 c6 A7 c7 w7 FJ
        obtain ⟨O7, F7, C7⟩ := FJ
        have RC7 := Lib.hid (RC.out.trans (KD.out.trans C7.out))
        clear R1 R2 DX HF N1 N2 N3 L1 L2 C
        have FN : Hid (∀ a, A7 = some a → w.heap.size ≤ a.block) := Lib.hid (fun a ha => by have := F7.out a ha; have := (RC.out.trans KD.out).size; omega)
        have i3 : IntKind.i64.wrap ((i : Int) + 1) = (i : Int) + 1 := IntWalk.i64_in _ (by have := HNI.out; omega)
        go_wp2; go_round
        case rel => exact ⟨i + 1, A7, c7, by omega, by go_num, by rw [HINS.out]; first | (congr 1; done) | ((congr 1; rw [insS_len]) <;> (have := OLH.out; omega)), by rw [HINS.out]; exact O7, FN, RC7⟩
        case measure => simp [RowKit.intOf]; omega
  ·
   obtain rfl : i = xs.length := by omega
   have i1 : ¬ (xs.length : Int) < (xs.length : Int) := by omega
   have HRP := rise_props xs
   have RL := HRP.2.2
   have RB : Hid (∀ x ∈ riseS xs, B3 x) := Lib.hid (fun x hx => HB.out x ((HRP.2.1 x).1 hx))
   have LF := Lib.hid (fun k x hx => rise_last xs HB.out k x hx)
   have TS : Hid (tidyS xs = (riseS xs).foldl pushP []) := Lib.hid rfl
   clear HRP
   rw [List.take_length] at RO ⊢
   generalize riseS xs = rs at *
   have RLB : rs.length ≤ 100000 := by have := HN.out; omega
   have RLH := Lib.hid RLB
   clear RL; go_wp2
   go_loopw [7, 8] (fun v7 v8 wr => ∃ (k : Nat) (A2 : Option Addr) (c2 : Nat), k ≤ rs.length ∧ v8 = .int .i64 k ∧ v7 = .slice A2 ((rs.take k).foldl pushP []).length c2 ∧ Hid (OwnK spanTy wr A2 c2 ((rs.take k).foldl pushP [])) ∧ Hid (∀ a, A2 = some a → w1.heap.size ≤ a.block) ∧ Hid (Chg [] w1 wr)) (fun _ v8 _ => rs.length - (RowKit.intOf v8).toNat)
   case atStart => exact ⟨0, none, 0, Nat.zero_le _, rfl, rfl, OwnK.none_ _, Lib.hid (by simp), Chg.refl _ _⟩
   case round =>
    obtain ⟨k, A2, c2, hk, rfl, rfl, PO, PN, PC⟩ := hrel
    have j0 : (0 : Int) ≤ (k : Int) := by omega
    by_cases hlt : k < rs.length
    ·
     have j1 : (k : Int) < (rs.length : Int) := by omega
     have j3 : IntKind.i64.wrap ((k : Int) + 1) = (k : Int) + 1 := IntWalk.i64_in _ (by omega)
     obtain ⟨x, hx⟩ : ∃ x, rs[k]? = some x := ⟨_, List.getElem?_eq_getElem hlt⟩
     obtain ⟨g3, o3, eA, _⟩ := RO.out.reads.line (by omega)
     have eo : o3 = 0 := by
      rcases RO.out.shape with ⟨h, _⟩ | ⟨g', h, _⟩
      ·
       rw [h] at eA; cases eA
      ·
       rw [h] at eA; cases eA; rfl
     subst eo; subst eA
     have XB := RB.out x (List.mem_of_getElem? hx)
     unfold B3 at XB
     have LX := Lib.hid (LF.out k x hx)
     have FS : Hid ((rs.take (k + 1)).foldl pushP [] = pushP ((rs.take k).foldl pushP []) x) := Lib.hid (by rw [List.take_add_one, hx]; simp)
     have OB : Hid (∀ y ∈ (rs.take k).foldl pushP [], B3 y) := Lib.hid ((fold_props (rs.take k) [] (by simp) (fun y hy => RB.out y (List.mem_of_mem_take hy))).1)
     have OL : ((rs.take k).foldl pushP []).length ≤ k := by have := (fold_props (rs.take k) [] (by simp) (fun y hy => RB.out y (List.mem_of_mem_take hy))).2; rw [List.length_take] at this; simp at this; omega
     have EX := Lib.hid hx
     have XC : Hid (∀ w', Chg [] w1 w' → w'.cell? ⟨g3, k * 3, none⟩ = some (.int .i64 x.1) ∧ w'.cell? ⟨g3, k * 3 + 1, none⟩ = some (.int .i64 x.2.1) ∧ w'.cell? ⟨g3, k * 3 + 2, none⟩ = some (.int .i64 x.2.2)) := Lib.hid (fun w' hc => by
      have q := spanCells (RO.out.reads.chg hc (by simp)) EX.out
      simpa only [Nat.zero_add] using q)
     clear hx
     generalize (rs.take k).foldl pushP [] = out at *
     have POL : Hid (out.length ≤ 100000) := Lib.hid (by omega)
     obtain ⟨q0, q1, q2⟩ := XC.out _ PC.out
     by_cases h0 : out = []
     ·
      have e1 : IntKind.i64.wrap ((out.length : Int) - 1) = -1 := by rw [h0]; rfl
      have e2 : Hid (out = []) := Lib.hid h0
      clear h0
      go_upto_region 14 with fail
      go_upto_region 14 with fail
      go_quiet (fail)
      have hq := (Chg.refl [] wr).drewN nq
      generalize wr.drewN nq = wr at *
      have C9 := Lib.hid (PC.out.trans hq)
      replace PO := Lib.hid (PO.out.chg hq (by simp))
      clear hq; clear q0 q1 q2
      have HP : Hid ((rs.take (k + 1)).foldl pushP [] = out ++ [x]) := Lib.hid (by rw [FS.out, e2.out, push_none]; rfl)
      obtain ⟨q0, q1, q2⟩ := XC.out _ C9.out
      obtain ⟨w2, hw, cn, bn⟩ := news1 wr (.cells #[.int .i64 x.1, .int .i64 x.2.1, .int .i64 x.2.2] 72)
      have W2 := Lib.hid hw
      have XR := Lib.hid (rd_oneS (x := x) bn)
      replace C9 := Lib.hid (C9.out.trans cn)
      replace PO := Lib.hid (PO.out.chg cn (by simp))
      have N4 : Hid ((out.length + 1) * 400 ≤ 140737488355327) := Lib.hid (by have := POL.out; omega)
      clear hw cn bn
      go_wp2_with (at_builtin; rw [← W2.out]; refine wpList_appK rfl _ _ rfl rfl PO.out rfl rfl XR.out N4.out ?_; intro A7 c7 wc o7 g7 e7)
      have O7 := Lib.hid o7
      have F7 := Lib.hid (fresh_appS PN.out C9.out g7 e7)
      replace C9 := Lib.hid F7.out.2
      clear o7 g7 e7 q0 q1 q2; go_wp2; go_round
      case rel => exact ⟨k + 1, A7, c7, by omega, by go_num, by rw [HP.out, List.length_append]; rfl, by rw [HP.out]; exact O7, Lib.hid F7.out.1, C9⟩
      case measure => simp [RowKit.intOf]; omega
     ·
      have hp : 0 < out.length := List.length_pos_iff.2 h0
      obtain ⟨y, hy⟩ : ∃ y, out[out.length - 1]? = some y := ⟨_, List.getElem?_eq_getElem (by omega)⟩
      have YB := OB.out y (List.mem_of_getElem? hy)
      unfold B3 at YB
      have LE := LX.out y (last_at hy)
      unfold Le at LE
      obtain ⟨g2, o2, eB, _⟩ := PO.out.reads.line hp
      have eo : o2 = 0 := by
       rcases PO.out.shape with ⟨h, _⟩ | ⟨g', h, _⟩
       ·
        rw [h] at eB; cases eB
       ·
        rw [h] at eB; cases eB; rfl
      subst eo; subst eB
      have EY := Lib.hid hy
      obtain ⟨p0, p1, p2⟩ := spanCells PO.out.reads hy
      simp only [Nat.zero_add] at p0 p1 p2
      have e1 : IntKind.i64.wrap ((out.length : Int) - 1) = ((out.length - 1 : Nat) : Int) := by rw [IntWalk.i64_in _ (by omega)]; omega
      have e2 : (0 : Int) ≤ ((out.length - 1 : Nat) : Int) := by omega
      have e3 : ((out.length - 1 : Nat) : Int) < (out.length : Int) := by omega
      have e4 : IntKind.i64.wrap (y.2.2 + 1) = y.2.2 + 1 := IntWalk.i64_in _ (by omega)
      have e5 : out.length - 1 < out.length := by omega
      clear h0 hy
      by_cases f1 : y.1 = x.1
      rotate_left
      ·
       have AP := Lib.hid (push_apart' EY.out (show Ap y x by unfold Ap; omega))
       have f2 : ((y.1 == x.1) : Bool) = false := by simpa using f1
       clear f1 LE XB YB
       go_upto_region 14 with fail
       go_quiet (fail)
       have hq := (Chg.refl [] wr).drewN nq
       generalize wr.drewN nq = wr at *
       have C9 := Lib.hid (PC.out.trans hq)
       replace PO := Lib.hid (PO.out.chg hq (by simp))
       clear hq; clear q0 q1 q2 p0 p1 p2
       have HP : Hid ((rs.take (k + 1)).foldl pushP [] = out ++ [x]) := Lib.hid (by rw [FS.out, AP.out])
       obtain ⟨q0, q1, q2⟩ := XC.out _ C9.out
       obtain ⟨w2, hw, cn, bn⟩ := news1 wr (.cells #[.int .i64 x.1, .int .i64 x.2.1, .int .i64 x.2.2] 72)
       have W2 := Lib.hid hw
       have XR := Lib.hid (rd_oneS (x := x) bn)
       replace C9 := Lib.hid (C9.out.trans cn)
       replace PO := Lib.hid (PO.out.chg cn (by simp))
       have N4 : Hid ((out.length + 1) * 400 ≤ 140737488355327) := Lib.hid (by have := POL.out; omega)
       clear hw cn bn
       go_wp2_with (at_builtin; rw [← W2.out]; refine wpList_appK rfl _ _ rfl rfl PO.out rfl rfl XR.out N4.out ?_; intro A7 c7 wc o7 g7 e7)
       have O7 := Lib.hid o7
       have F7 := Lib.hid (fresh_appS PN.out C9.out g7 e7)
       replace C9 := Lib.hid F7.out.2
       clear o7 g7 e7 q0 q1 q2; go_wp2; go_round
       case rel => exact ⟨k + 1, A7, c7, by omega, by go_num, by rw [HP.out, List.length_append]; rfl, by rw [HP.out]; exact O7, Lib.hid F7.out.1, C9⟩
       case measure => simp [RowKit.intOf]; omega
      by_cases f3 : x.2.1 ≤ y.2.2 + 1
      rotate_left
      ·
       have AP := Lib.hid (push_apart' EY.out (show Ap y x by unfold Ap; omega))
       have f2 : ((y.1 == x.1) : Bool) = true := by simpa using f1
       clear f1 LE XB YB
       go_upto_region 14 with fail
       go_quiet (fail)
       have hq := (Chg.refl [] wr).drewN nq
       generalize wr.drewN nq = wr at *
       have C9 := Lib.hid (PC.out.trans hq)
       replace PO := Lib.hid (PO.out.chg hq (by simp))
       clear hq; clear q0 q1 q2 p0 p1 p2
       have HP : Hid ((rs.take (k + 1)).foldl pushP [] = out ++ [x]) := Lib.hid (by rw [FS.out, AP.out])
       obtain ⟨q0, q1, q2⟩ := XC.out _ C9.out
       obtain ⟨w2, hw, cn, bn⟩ := news1 wr (.cells #[.int .i64 x.1, .int .i64 x.2.1, .int .i64 x.2.2] 72)
       have W2 := Lib.hid hw
       have XR := Lib.hid (rd_oneS (x := x) bn)
       replace C9 := Lib.hid (C9.out.trans cn)
       replace PO := Lib.hid (PO.out.chg cn (by simp))
       have N4 : Hid ((out.length + 1) * 400 ≤ 140737488355327) := Lib.hid (by have := POL.out; omega)
       clear hw cn bn
       go_wp2_with (at_builtin; rw [← W2.out]; refine wpList_appK rfl _ _ rfl rfl PO.out rfl rfl XR.out N4.out ?_; intro A7 c7 wc o7 g7 e7)
       have O7 := Lib.hid o7
       have F7 := Lib.hid (fresh_appS PN.out C9.out g7 e7)
       replace C9 := Lib.hid F7.out.2
       clear o7 g7 e7 q0 q1 q2; go_wp2; go_round
       case rel => exact ⟨k + 1, A7, c7, by omega, by go_num, by rw [HP.out, List.length_append]; rfl, by rw [HP.out]; exact O7, Lib.hid F7.out.1, C9⟩
       case measure => simp [RowKit.intOf]; omega
      have AP := Lib.hid (push_touch EY.out (show ¬ Ap y x by unfold Ap; omega))
      have HP : Hid ((rs.take (k + 1)).foldl pushP [] = out.set (out.length - 1) (y.1, y.2.1, max y.2.2 x.2.2)) := Lib.hid (by rw [FS.out, AP.out])
      have f2 : ((y.1 == x.1) : Bool) = true := by simpa using f1
      clear f1 LE XB YB
      go_upto_region 14 with fail
      go_quiet (fail)
      have hq := (Chg.refl [] wr).drewN nq
      generalize wr.drewN nq = wr at *
      have C9 := Lib.hid (PC.out.trans hq)
      replace PO := Lib.hid (PO.out.chg hq (by simp))
      clear hq; clear q0 q1 q2 p0 p1 p2
      go_upto_region 15 with fail
      have zt := (XC.out _ C9.out).2.2
      refine wp_region_held_drew (S := fun w' => w'.cell? ⟨g3, k * 3 + 2, none⟩ = some (.int .i64 x.2.2)) (by kernel_rfl) zt (fun hHeld => ?_)
      have CD := Lib.hid (Chg.refl [] wr).drew
      replace C9 := Lib.hid (C9.out.trans CD.out)
      replace PO := Lib.hid (PO.out.chg CD.out (by simp))
      have ZT : wr.drew.cell? ⟨g3, k * 3 + 2, none⟩ = some (.int .i64 x.2.2) := CD.out.cell zt (by simp)
      have BG : Hid (g3 ≠ g2) := Lib.hid (by have h1 := RO.out.lt _ rfl; have h2 := PN.out _ rfl; simp only at h1 h2; omega)
      have NB : Hid (w1.heap.size ≤ g2) := Lib.hid (PN.out _ rfl)
      have SPC := Lib.hid (spanCells PO.out.reads EY.out)
      have FR := Lib.hid (own_free PO.out ((out.length - 1) * 3 + 2))
      clear CD zt
      generalize wr.drew = wd at *
      refine sy 0 86 rfl rfl ?_; try simp only [Act.put, sA, s0, s1]
      refine sy 1 87 rfl rfl ?_; try simp only [Act.put, sA, s0, s1]
      refine sy 2 88 rfl rfl ?_; try simp only [Act.put, sA, s0, s1]
      refine sy 3 89 rfl rfl ?_; try simp only [Act.put, sA, s0, s1]
      refine sy 4 90 rfl rfl ?_; try simp only [Act.put, sA, s0, s1]
      refine sy 5 91 rfl rfl ?_; try simp only [Act.put, sA, s0, s1]
      refine sy 7 93 rfl rfl ?_; try simp only [Act.put, sA, s0, s1]
      refine sy 8 94 rfl rfl ?_; try simp only [Act.put, sA, s0, s1]
      refine sy 9 95 rfl rfl ?_; try simp only [Act.put, sA, s0, s1]
      refine sy 10 96 rfl rfl ?_; try simp only [Act.put, sA, s0, s1]
      refine sy 11 97 rfl rfl ?_ (hy := by (intro w hSw; (try dsimp only at hSw); have q := hSw; go_simp; try with_reducible rfl))
      try simp only [Act.put, sA, s0, s1]
      refine wpAnyH_ready (rs := [6]) (by kernel_rfl) (by simp) ?_; refine AllReadyH.cons rfl (fun K hK => ?_) AllReadyH.nil; replace hK := Lib.hid hK
      have z := SPC.out.2.2
      rw [Nat.zero_add] at z
      go_simp; clear z hHeld
      refine hK.out _ _ ZT (fun hHeld => ?_)
      clear hK K; try simp only [Act.put, sA, s0, s1]
      refine sy 12 98 rfl rfl ?_; try simp only [Act.put, sA, s0, s1]
      refine sy 13 99 rfl rfl ?_; try simp only [Act.put, sA, s0, s1]
      refine sy 14 100 rfl rfl ?_; try simp only [Act.put, sA, s0, s1]
      refine wpAnyH_ready (rs := [15]) (by kernel_rfl) (by simp) ?_; refine AllReadyH.cons rfl (fun K hK => ?_) AllReadyH.nil; replace hK := Lib.hid hK
      have z := SPC.out.2.2
      rw [Nat.zero_add] at z
      have fz := FR.out
      go_simp; clear z fz hHeld
      refine hK.out _ _ (((Chg.refl [g2] wd).setCell (p := ⟨g2, (out.length - 1) * 3 + 2, none⟩) (.inl (by simp)) _).cell ZT (by simp; exact BG.out)) (fun hHeld => ?_)
      clear hK K; try simp only [Act.put, sA, s0, s1]
      refine wpAnyH_done (by kernel_rfl) ?_ _
      have HX2 : Hid (∀ v : Int, v = max y.2.2 x.2.2 → OwnK spanTy (wd.setCell ⟨g2, (out.length - 1) * 3 + 2, none⟩ (.int .i64 v)) (some ⟨g2, 0, none⟩) c2 (out.set (out.length - 1) (y.1, y.2.1, max y.2.2 x.2.2)) ∧ Chg [] w1 (wd.setCell ⟨g2, (out.length - 1) * 3 + 2, none⟩ (.int .i64 v))) := Lib.hid (fun v hv => by
       subst hv
       exact ⟨PO.out.setc (out.length - 1) 2 y (y.1, y.2.1, max y.2.2 x.2.2) (.int .i64 (max y.2.2 x.2.2)) EY.out (by decide) (spanSetTo y _), C9.out.setCell (p := ⟨g2, (out.length - 1) * 3 + 2, none⟩) (.inr NB.out) _⟩)
      clear hHeld; go_wp2
      all_goals
       go_round
       case rel => exact ⟨k + 1, some ⟨g2, 0, none⟩, c2, by omega, by go_num, by rw [HP.out, List.length_set], by rw [HP.out]; exact Lib.hid (HX2.out _ (by omega)).1, PN, Lib.hid (HX2.out _ (by omega)).2⟩
       case measure => simp [RowKit.intOf]; omega
    ·
     obtain rfl : k = rs.length := by omega
     have j1 : ¬ (rs.length : Int) < (rs.length : Int) := by omega
     rw [List.take_length, ← TS.out] at PO ⊢
     by_cases hb : 4000 < (tidyS xs).length
     ·
      have BE : Hid (boundP (tidyS xs) = (8, [])) := Lib.hid (by unfold boundP; rw [if_pos hb])
      have b1 : (4000 : Int) < ((tidyS xs).length : Int) := by omega
      go_wp2; go_ret2
      rw [BE.out]
      exact ⟨none, 0, rfl, OwnK.none_ _, by simp, RC.out.trans PC.out⟩
     ·
      have BE : Hid (boundP (tidyS xs) = (0, tidyS xs)) := Lib.hid (by unfold boundP; rw [if_neg hb])
      have b1 : ¬ (4000 : Int) < ((tidyS xs).length : Int) := by omega
      go_wp2; go_ret2
      rw [BE.out]
      exact ⟨A2, c2, rfl, PO.out, fun a ha => Nat.le_trans RC.out.size (PN.out a ha), RC.out.trans PC.out⟩
end
end Go.Proofs.YtomgjogkkoigbaaGreatDoor
