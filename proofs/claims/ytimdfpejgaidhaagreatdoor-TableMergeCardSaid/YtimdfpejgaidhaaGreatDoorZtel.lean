/- The kit's CopyEntries. table.together. What is changed within two bounds. slices.IndexFunc, ContainsFunc, DeleteFunc over entries. table.find. fresh.Entry. table.Get. table.anyUnder, parentIs. A tree, checked entry by entry: purely. Sets of texts. -/
import Derived.Test.YtimdfpejgaidhaaGreatDoorZteg
import Derived.Test.YtimdfpejgaidhaaGreatDoorZtef
import Derived.Test.YtimdfpejgaidhaaGreatDoorZtek
import Derived.Deep.Cut
import Derived.Deep.RegionHeld3
import Derived.Test.YtimdfpejgaidhaaGreatDoorZted
import Derived.Test.YtimdfpejgaidhaaGreatDoorZtea
import Derived.Test.YtimdfpejgaidhaaGreatDoorZteb
import Derived.Test.YtimdfpejgaidhaaGreatDoorZtec
import Derived.Maps.OwnSet
import Derived.DeepKeys4
import Derived.StringKeys
namespace Go.Proofs.YtimdfpejgaidhaaGreatDoor
section
open Go.RowKit Go.Lib
set_option linter.unusedSimpArgs false
set_option linter.unusedVariables false

theorem fresh_appN {w2 w w' : World} {A A' : Option Addr} (hA : ∀ a, A = some a → w2.heap.size ≤ a.block) (hC : Chg [] w2 w) (g : w.grownBy w' (A.map (·.block))) (e : A' = A ∨ A' = some ⟨w.heap.size, 0, none⟩) :
    (∀ a, A' = some a → w2.heap.size ≤ a.block) ∧ Chg [] w2 w' := by
  refine ⟨?_, hC.grown g ?_⟩
  · rintro a ha
    rcases e with rfl | rfl
    · exact hA a ha
    · cases ha; exact hC.size
  · rintro i hi
    cases A with
    | none => simp at hi
    | some a => simp at hi; subst hi; exact .inr (hA a rfl)
end
section
open Go.RowKit Go.Lib
set_option linter.unusedSimpArgs false
set_option linter.unusedVariables false

/-- The tail of a row of entries. -/
def subN (A : Option Addr) (c i : Nat) : Option Addr := if c = i then A else A.map (fun x => x.add (i * 4))
theorem rd_subN {w : World} {A : Option Addr} {c : Nat} {xs : List EnT} (h : RdK enTy w A xs.length xs) (hc : xs.length ≤ c) {i : Nat} (hi : i ≤ xs.length) : RdK enTy w (subN A c i) (xs.length - i) (xs.drop i) := by
  by_cases q : i < xs.length
  · obtain ⟨g, o, eA, _⟩ := h.line (by omega)
    subst eA
    have r := h.part i (xs.length - i) (by omega)
    rw [List.take_of_length_le (by simp)] at r
    unfold subN
    rw [if_neg (by omega)]
    have k4 : enTy.k = 4 := rfl
    rw [k4] at r
    by_cases z : i = 0
    · subst z
      simpa [Addr.add] using r
    · have z4 : ¬ i * 4 = 0 := by omega
      simpa only [Option.map_some, Addr.add, z4, if_false] using r
  · rw [show xs.length - i = 0 by omega, List.drop_of_length_le (by omega)]
    exact RdK.nil _ _
theorem drop_get {α : Type} {l l' : List α} {x : α} {i : Nat} (h : l.drop i = x :: l') : l[i]? = some x ∧ l.drop (i + 1) = l' := by
  have a : (l.drop i)[0]? = some x := by rw [h]; rfl
  have b : (l.drop i).drop 1 = l' := by rw [h]; rfl
  rw [List.getElem?_drop] at a
  rw [List.drop_drop] at b
  exact ⟨by simpa using a, b⟩
theorem walk_neg {es fs : List EnP} {i j : Nat} (h1 : es.Pairwise ltT) (h2 : fs.Pairwise ltT) (h : whoV (es.drop i) (fs.drop j) < 0) : ∃ e, es[i]? = some e ∧ walkL (es.drop i) (fs.drop j) = prT e.p e noT :: walkL (es.drop (i + 1)) (fs.drop j) := by
  have h1' : (es.drop i).Pairwise ltT := h1.sublist (List.drop_sublist _ _)
  have h2' : (fs.drop j).Pairwise ltT := h2.sublist (List.drop_sublist _ _)
  rcases hA : es.drop i with _ | ⟨e, a⟩
  · rw [hA] at h; exact absurd h (by simp [whoV])
  · obtain ⟨q1, q2⟩ := drop_get hA
    refine ⟨e, q1, ?_⟩
    rw [hA] at h h1'
    rw [q2]
    refine walk_left h1' ?_
    rcases hB : fs.drop j with _ | ⟨f, b⟩
    · simp
    · rw [hB] at h h2'
      exact heads_less h2' (cmpL_neg.1 h)
theorem walk_pos {es fs : List EnP} {i j : Nat} (h1 : es.Pairwise ltT) (h2 : fs.Pairwise ltT) (hn : i < es.length ∨ j < fs.length) (h : 0 < whoV (es.drop i) (fs.drop j)) : ∃ f, fs[j]? = some f ∧ walkL (es.drop i) (fs.drop j) = prT f.p noT f :: walkL (es.drop i) (fs.drop (j + 1)) := by
  have h1' : (es.drop i).Pairwise ltT := h1.sublist (List.drop_sublist _ _)
  have h2' : (fs.drop j).Pairwise ltT := h2.sublist (List.drop_sublist _ _)
  rcases hB : fs.drop j with _ | ⟨f, b⟩
  · rcases hA : es.drop i with _ | ⟨e, a⟩
    · have l1 := congrArg List.length hA
      have l2 := congrArg List.length hB
      simp at l1 l2
      omega
    · rw [hA, hB] at h; exact absurd h (by simp [whoV])
  · obtain ⟨q1, q2⟩ := drop_get hB
    refine ⟨f, q1, ?_⟩
    rw [hB] at h h2'
    rw [q2]
    refine walk_right h2' ?_
    rcases hA : es.drop i with _ | ⟨e, a⟩
    · simp
    · rw [hA] at h h1'
      refine heads_less h1' ?_
      have h : 0 < cmpL e.p f.p := h
      unfold cmpL at h
      split at h
      · exact absurd h (by decide)
      · split at h
        · assumption
        · exact absurd h (by decide)
theorem walk_zero {es fs : List EnP} {i j : Nat} (h1 : es.Pairwise ltT) (h2 : fs.Pairwise ltT) (h : whoV (es.drop i) (fs.drop j) = 0) : ∃ e f, es[i]? = some e ∧ fs[j]? = some f ∧ e.p = f.p ∧ walkL (es.drop i) (fs.drop j) = prT e.p e f :: walkL (es.drop (i + 1)) (fs.drop (j + 1)) := by
  have h1' : (es.drop i).Pairwise ltT := h1.sublist (List.drop_sublist _ _)
  have h2' : (fs.drop j).Pairwise ltT := h2.sublist (List.drop_sublist _ _)
  rcases hA : es.drop i with _ | ⟨e, a⟩
  · rw [hA] at h; exact absurd h (by simp [whoV])
  · rcases hB : fs.drop j with _ | ⟨f, b⟩
    · rw [hA, hB] at h; exact absurd h (by simp [whoV])
    · obtain ⟨q1, q2⟩ := drop_get hA
      obtain ⟨q3, q4⟩ := drop_get hB
      rw [hA, hB] at h
      rw [hA] at h1'
      rw [hB] at h2'
      have h : cmpL e.p f.p = 0 := h
      have he : e.p = f.p := by
        unfold cmpL at h
        split at h
        · exact absurd h (by decide)
        · rename_i n1
          split at h
          · exact absurd h (by decide)
          · rename_i n2
            rcases less_tri e.p f.p with q | q | q
            · exact q
            · exact absurd q n1
            · exact absurd q n2
      exact ⟨e, f, q1, q3, he, by rw [q2, q4]; exact walk_both h1' h2' he⟩
theorem noT_R (w : World) : EnR w ⟨⟨#[]⟩, 0, 0, none, 0, 0⟩ noT := ⟨rfl, rfl, rfl, rfl, ⟨rfl, fun j v hj => by simp [noT] at hj⟩⟩
set_option maxRecDepth 100000 in
set_option maxHeartbeats 16000000 in
/-- table.together of two trees. -/
theorem tbtog_any (w : World) (A B : Option Addr) (c d : Nat) (xs ys : List EnT) (es fs : List EnP) (h : RdK enTy w A xs.length xs) (h' : RdK enTy w B ys.length ys) (hx : EnsR w xs es) (hy : EnsR w ys fs) (hn : xs.length ≤ 100000 ∧ ys.length ≤ 100000 ∧ xs.length ≤ c ∧ ys.length ≤ d) (hsrt : es.Pairwise ltT ∧ fs.Pairwise ltT) (hs : (∀ e ∈ es, EnSm e ∧ e.p ≠ []) ∧ ∀ e ∈ fs, EnSm e ∧ e.p ≠ []) :
    Calls Tryz.prog 58 #[.slice A xs.length c, .slice B ys.length d, .func (.func 59) #[] #[], .func (.func 61) #[] #[]] w fun r w' => ∃ (A' : Option Addr) (c' : Nat) (us : List PrT), r = .returned (.slice A' us.length c') ∧ OwnK prTy w' A' c' us ∧ PrsR w' us (walkL es fs) ∧ (∀ a, A' = some a → w.heap.size ≤ a.block) ∧ Chg [] w w' := by
  obtain ⟨w1, hw, hc0, b0⟩ := news1 w (.cells #[.string ⟨#[]⟩, .int .i64 0, .int .i64 0, .slice none 0 0] 55)
  have W1 := Lib.hid hw
  obtain ⟨g0, hg0⟩ : ∃ g, w.heap.size = g := ⟨_, rfl⟩
  have G0 := Lib.hid hg0
  rw [hg0] at b0
  have DZ : Hid (∀ w', Chg [] w1 w' → w'.cell? ⟨g0, 0, none⟩ = some (.string ⟨#[]⟩) ∧ w'.cell? ⟨g0, 1, none⟩ = some (.int .i64 0) ∧ w'.cell? ⟨g0, 2, none⟩ = some (.int .i64 0) ∧ w'.cell? ⟨g0, 3, none⟩ = some (.slice none 0 0)) := Lib.hid (fun w' hc => by
    have q := hc.at_ b0 (by simp)
    exact ⟨cell_of q 0, cell_of q 1, cell_of q 2, cell_of q 3⟩)
  have HA := Lib.hid (h.chg hc0 (by simp))
  have HB := Lib.hid (h'.chg hc0 (by simp))
  have HX := Lib.hid (hx.chg hc0)
  have HY := Lib.hid (hy.chg hc0)
  have C0 := Lib.hid hc0
  have NA := Lib.hid hn
  have SRT := Lib.hid hsrt
  have SM := Lib.hid hs
  have XE : Hid (xs.length = es.length) := Lib.hid hx.1
  have YE : Hid (ys.length = fs.length) := Lib.hid hy.1
  clear hw hc0 b0 hg0 h h' hx hy hn hsrt hs
  go_enter Tryz.func58, Tryz.ntmps58
  go_wp2
  refine wp_scope_straight ?_
  go_wp2
  refine wp_label ?_
  go_wp2
  rw [← W1.out]
  try rw [G0.out]
  clear W1
  go_loopw [9, 11, 12] (fun v9 v11 v12 wr => ∃ (i j : Nat) (Ao : Option Addr) (co : Nat) (us : List PrT) (OUT : List PrP), i ≤ xs.length ∧ j ≤ ys.length ∧ v11 = .int .i64 (i : Int) ∧ v12 = .int .i64 (j : Int) ∧ v9 = .slice Ao us.length co ∧ Hid (us.length ≤ i + j) ∧ Hid (OUT ++ walkL (es.drop i) (fs.drop j) = walkL es fs) ∧ Hid (OwnK prTy wr Ao co us) ∧ Hid (PrsR wr us OUT) ∧ Hid (∀ a, Ao = some a → w1.heap.size ≤ a.block) ∧ Hid (Chg [] w1 wr)) (fun _ v11 v12 _ => xs.length + ys.length - ((RowKit.intOf v11).toNat + (RowKit.intOf v12).toNat))
  case atStart => exact ⟨0, 0, none, 0, [], [], Nat.zero_le _, Nat.zero_le _, rfl, rfl, rfl, Lib.hid (by simp), Lib.hid (by simp), OwnK.none_ _, Lib.hid (PrsR.nil _), Lib.hid (by simp), Chg.refl _ _⟩
  case round =>
    obtain ⟨i, j, Ao, co, us, OUT, hi, hj, rfl, rfl, rfl, UL, EQ, RO, RU, RN, RC⟩ := hrel
    have i0 : (0 : Int) ≤ (i : Int) := by omega
    have j0 : (0 : Int) ≤ (j : Int) := by omega
    have i3 : IntKind.i64.wrap ((i : Int) + 1) = (i : Int) + 1 := IntWalk.i64_in _ (by have := NA.out.1; omega)
    have j3 : IntKind.i64.wrap ((j : Int) + 1) = (j : Int) + 1 := IntWalk.i64_in _ (by have := NA.out.2.1; omega)
    have n1 : (i : Int) ≤ (xs.length : Int) := by omega
    have n2 : (xs.length : Int) ≤ (c : Int) := by have := NA.out.2.2.1; omega
    have n3 : (j : Int) ≤ (ys.length : Int) := by omega
    have n4 : (ys.length : Int) ≤ (d : Int) := by have := NA.out.2.2.2; omega
    have n5 : (i : Int) ≤ (c : Int) := by omega
    have n6 : (j : Int) ≤ (d : Int) := by omega
    obtain ⟨v, hv⟩ : ∃ v, whoV (es.drop i) (fs.drop j) = v := ⟨_, rfl⟩
    obtain ⟨AS, hAS⟩ : ∃ AS : Option Addr, (if c = i then A else A.map (fun x => x.add (i * 4))) = AS := ⟨_, rfl⟩
    obtain ⟨BS, hBS⟩ : ∃ BS : Option Addr, (if d = j then B else B.map (fun x => x.add (j * 4))) = BS := ⟨_, rfl⟩
    have WHO : Hid (∀ w', Chg [] w1 w' → Calls Tryz.prog 93 #[.slice AS (xs.length - i) (c - i), .slice BS (ys.length - j) (d - j), .func (.func 59) #[] #[]] w' fun r w2 => r = .returned (.int .i64 v) ∧ Chg [] w' w2) := Lib.hid (fun w' hc => by
      have q := tbwhose_any w' AS BS (c - i) (d - j) (xs.drop i) (ys.drop j) (es.drop i) (fs.drop j)
      rw [List.length_drop, List.length_drop, hv] at q
      refine q ?_ ?_ ((HX.out.chg hc).drop i) ((HY.out.chg hc).drop j) ⟨fun e he => (SM.out.1 e (List.mem_of_mem_drop he)).1.1, fun e he => (SM.out.2 e (List.mem_of_mem_drop he)).1.1⟩
      · rw [← hAS]; exact rd_subN (HA.out.chg hc (by simp)) NA.out.2.2.1 hi
      · rw [← hBS]; exact rd_subN (HB.out.chg hc (by simp)) NA.out.2.2.2 hj)
    have VV := Lib.hid hv
    clear hv
    by_cases hlt : i < xs.length
    · have i1 : (i : Int) < (xs.length : Int) := by omega
      have i2 : decide ((i : Int) < (xs.length : Int)) = true := decide_eq_true i1
      go_upto_region 5 with fail
      refine wp_region_held_drew (S := fun w' => Chg [] w1 w') (by kernel_rfl) (RC.out.trans (Chg.refl [] wr).drew) (fun hHeld => ?_)
      have RD : Hid (Chg [] wr wr.drew) := Lib.hid (Chg.refl [] wr).drew
      clear hHeld
      replace RO := Lib.hid (RO.out.chg RD.out (by simp))
      replace RU := Lib.hid (RU.out.chg RD.out)
      replace RC := Lib.hid (RC.out.trans RD.out)
      clear RD
      generalize wr.drew = wc at *
      refine sy 0 24 rfl rfl ?_ (hS := RC.out)
      try simp only [Act.put, sA, s0, s1]
      refine sy 1 25 rfl rfl ?_ (hS := RC.out)
      try simp only [Act.put, sA, s0, s1]
      refine sy 2 26 rfl rfl ?_ (hS := RC.out)
      try simp only [Act.put, sA, s0, s1]
      refine sy 3 27 rfl rfl ?_ (hS := RC.out)
      try simp only [Act.put, sA, s0, s1]
      refine sy 4 28 rfl rfl ?_ (hS := RC.out)
      try simp only [Act.put, sA, s0, s1]
      refine sy 5 29 rfl rfl ?_ (hS := RC.out)
      try simp only [Act.put, sA, s0, s1]
      refine sy 6 30 rfl rfl ?_ (hS := RC.out)
      try simp only [Act.put, sA, s0, s1]
      refine wpAnyH_ready (rs := [7]) (by kernel_rfl) (by simp) ?_
      refine AllReadyH.cons rfl (fun K hK => ?_) AllReadyH.nil
      replace hK := Lib.hid hK
      go_simp
      refine (WHO.out wc RC.out).mono ?_
      rintro r w5 ⟨rfl, hc⟩
      replace RO := Lib.hid (RO.out.chg hc (by simp))
      replace RU := Lib.hid (RU.out.chg hc)
      replace RC := Lib.hid (RC.out.trans hc)
      clear hc
      refine hK.out _ _ RC.out (fun hHeld => ?_)
      clear hK K
      try simp only [Act.put, sA, s0, s1]
      refine sy 8 13 rfl rfl ?_ (hS := RC.out)
      try simp only [Act.put, sA, s0, s1]
      refine wpAnyH_done (by kernel_rfl) ?_ _
      clear hHeld WHO
      rcases Int.lt_trichotomy v 0 with vn | vz | vp
      · skip
        have v1 : decide (v < 0) = true := decide_eq_true vn
        obtain ⟨e, he, hst⟩ := walk_neg SRT.out.1 SRT.out.2 (by rw [VV.out]; exact vn)
        have il : i < xs.length := by rw [XE.out]; exact (List.getElem?_eq_some_iff.1 he).1
        have i1' : (i : Int) < (xs.length : Int) := by omega
        obtain ⟨gA, oA, eA, _⟩ := HA.out.line (by omega)
        subst eA
        obtain ⟨x, e', ex, ee, rx⟩ := HX.out.at_ il
        obtain rfl : e = e' := by rw [he] at ee; exact Option.some.inj ee
        have RX := Lib.hid rx
        have SE := Lib.hid (SM.out.1 _ (List.mem_of_getElem? he))
        have DX : Hid (∀ w', Chg [] w1 w' → w'.cell? ⟨gA, oA + i * 4, none⟩ = some (.string x.p) ∧ w'.cell? ⟨gA, oA + i * 4 + 1, none⟩ = some (.int .i64 x.k) ∧ w'.cell? ⟨gA, oA + i * 4 + 2, none⟩ = some (.int .i64 x.m) ∧ w'.cell? ⟨gA, oA + i * 4 + 3, none⟩ = some (.slice x.A x.l x.c)) := Lib.hid (fun w' hc => enCells (HA.out.chg hc (by simp)) ex)
        clear ee rx he ex il hAS
        have STP := Lib.hid hst
        clear hst
        go_upto_region 7 with fail
        refine wp_region_held_drew (S := fun w' => Chg [] w1 w') (by kernel_rfl) (RC.out.trans (Chg.refl [] w5).drew) (fun hHeld => ?_)
        have RD : Hid (Chg [] w5 w5.drew) := Lib.hid (Chg.refl [] w5).drew
        clear hHeld
        replace RO := Lib.hid (RO.out.chg RD.out (by simp))
        replace RU := Lib.hid (RU.out.chg RD.out)
        replace RC := Lib.hid (RC.out.trans RD.out)
        clear RD
        generalize w5.drew = wd at *
        refine sy 0 35 rfl rfl ?_ (hS := RC.out)
        try simp only [Act.put, sA, s0, s1]
        refine sy 1 36 rfl rfl ?_ (hS := RC.out)
        try simp only [Act.put, sA, s0, s1]
        refine sy 2 37 rfl rfl ?_ (hS := RC.out)
        try simp only [Act.put, sA, s0, s1]
        refine sy 3 38 rfl rfl ?_ (hS := RC.out)
        try simp only [Act.put, sA, s0, s1]
        refine sy 4 39 rfl rfl ?_ (hS := RC.out)
        try simp only [Act.put, sA, s0, s1]
        refine sy 5 40 rfl rfl ?_ (hS := RC.out) (hy := by (intro w hSw; (try dsimp only at hSw); have hq := DX.out _ hSw; obtain ⟨q0, q1, q2, q3⟩ := hq; go_simp; try with_reducible rfl))
        try simp only [Act.put, sA, s0, s1]
        refine sy 6 41 rfl rfl ?_ (hS := RC.out) (hy := by (intro w hSw; (try dsimp only at hSw); have hz := DZ.out _ hSw; obtain ⟨z0, z1, z2, z3⟩ := hz; go_simp; try with_reducible rfl))
        try simp only [Act.put, sA, s0, s1]
        refine wpAnyH_ready (rs := [7]) (by kernel_rfl) (by simp) ?_
        refine AllReadyH.cons rfl (fun K hK => ?_) AllReadyH.nil
        replace hK := Lib.hid hK
        go_simp
        refine (tbpair_any wd x ⟨⟨#[]⟩, 0, 0, none, 0, 0⟩ e noT e.p (RX.out.chg RC.out) (noT_R wd) ⟨SE.out.1.2, by unfold noT; simp⟩ (maxS_left e.p)).mono ?_
        rintro r w6 ⟨X, rfl, xr, hc⟩
        have XR := Lib.hid xr
        replace RO := Lib.hid (RO.out.chg hc (by simp))
        replace RU := Lib.hid (RU.out.chg hc)
        replace RC := Lib.hid (RC.out.trans hc)
        clear xr hc
        refine hK.out _ _ RC.out (fun hHeld => ?_)
        clear hK K
        try simp only [Act.put, sA, s0, s1]
        refine wpAnyH_ready (rs := [8]) (by kernel_rfl) (by simp) ?_
        refine AllReadyH.cons rfl (fun K hK => ?_) AllReadyH.nil
        replace hK := Lib.hid hK
        go_simp
        obtain ⟨w7, hw, hc, b3⟩ := news1 w6 (.cells #[.string X.p, .int .i64 X.k, .int .i64 X.m, .slice X.A X.l X.c, .int .i64 X.k2, .int .i64 X.m2, .slice X.B X.bl X.bc] 50)
        rw [← hw]
        have R3 := Lib.hid (rd_onePr b3)
        replace RO := Lib.hid (RO.out.chg hc (by simp))
        replace RU := Lib.hid (RU.out.chg hc)
        replace RC := Lib.hid (RC.out.trans hc)
        replace XR := Lib.hid (XR.out.chg hc)
        clear hw hc b3 hHeld
        refine hK.out _ _ RC.out (fun hHeld => ?_)
        clear hK K
        try simp only [Act.put, sA, s0, s1]
        refine wpAnyH_ready (rs := [9]) (by kernel_rfl) (by simp) ?_
        refine AllReadyH.cons rfl (fun K hK => ?_) AllReadyH.nil
        replace hK := Lib.hid hK
        have N4 : Hid ((us.length + 1) * 400 ≤ 140737488355327) := Lib.hid (by have := UL.out; have := NA.out; omega)
        refine step_appK (R := prTy) rfl (.tmp 35) (.tmp 43) rfl rfl (A := Ao) (B := some ⟨w6.heap.size, 0, none⟩) (n := us.length) (m := 1) (c := co) (d := 1) (xs := us) (ys := [X]) RO.out rfl rfl R3.out N4.out ?_
        intro A7 c7 w8 o7 g7 e7
        have O7 := Lib.hid o7
        have F7 := Lib.hid (fresh_appN RN.out RC.out g7 e7)
        have G7 := Lib.hid g7
        clear o7 g7 e7 hHeld
        refine hK.out _ _ F7.out.2 (fun hHeld => ?_)
        clear hK K
        try simp only [Act.put, sA, s0, s1]
        refine sy 10 9 rfl rfl ?_ (hS := F7.out.2)
        try simp only [Act.put, sA, s0, s1]
        refine wpAnyH_done (by kernel_rfl) ?_ _
        clear hHeld
        have CG : Hid (Chg (blkOf Ao) w7 w8) := Lib.hid ((Chg.refl (blkOf Ao) w7).grown G7.out (fun i hi => by
          cases Ao with
          | none => simp at hi
          | some a => simp at hi; subst hi; exact .inl (mem_blkOf rfl)))
        have RU8 : Hid (PrsR w8 (us ++ [X]) (OUT ++ [prT e.p e noT])) := Lib.hid ((RU.out.row RO.out CG.out).snoc (XR.out.row RO.out CG.out))
        have EQ8 : Hid ((OUT ++ [prT e.p e noT]) ++ walkL (es.drop (i + 1)) (fs.drop (j)) = walkL es fs) := Lib.hid (by
          rw [← EQ.out, STP.out, List.append_assoc]
          rfl)
        have UL8 : Hid ((us ++ [X]).length ≤ (i + 1) + (j)) := Lib.hid (by have := UL.out; simp; omega)
        clear CG G7 RO RU EQ UL XR R3 N4
        go_wp2
        go_round
        case rel => exact ⟨i + 1, j, A7, c7, us ++ [X], OUT ++ [prT e.p e noT], by omega, by omega, by go_num, by go_num, by simp, UL8, EQ8, O7, RU8, Lib.hid F7.out.1, F7.out.2⟩
        case measure => simp [RowKit.intOf]; omega
      · skip
        have v1 : ¬ v < 0 := by omega
        have v2 : ¬ 0 < v := by omega
        have v3 : ¬ v > 0 := by omega
        obtain ⟨e, f, he, hf, hpe, hst⟩ := walk_zero SRT.out.1 SRT.out.2 (by rw [VV.out]; exact vz)
        have PE := Lib.hid hpe
        clear hpe
        have il : i < xs.length := by rw [XE.out]; exact (List.getElem?_eq_some_iff.1 he).1
        have i1' : (i : Int) < (xs.length : Int) := by omega
        obtain ⟨gA, oA, eA, _⟩ := HA.out.line (by omega)
        subst eA
        obtain ⟨x, e', ex, ee, rx⟩ := HX.out.at_ il
        obtain rfl : e = e' := by rw [he] at ee; exact Option.some.inj ee
        have RX := Lib.hid rx
        have SE := Lib.hid (SM.out.1 _ (List.mem_of_getElem? he))
        have DX : Hid (∀ w', Chg [] w1 w' → w'.cell? ⟨gA, oA + i * 4, none⟩ = some (.string x.p) ∧ w'.cell? ⟨gA, oA + i * 4 + 1, none⟩ = some (.int .i64 x.k) ∧ w'.cell? ⟨gA, oA + i * 4 + 2, none⟩ = some (.int .i64 x.m) ∧ w'.cell? ⟨gA, oA + i * 4 + 3, none⟩ = some (.slice x.A x.l x.c)) := Lib.hid (fun w' hc => enCells (HA.out.chg hc (by simp)) ex)
        clear ee rx he ex il hAS
        have jl : j < ys.length := by rw [YE.out]; exact (List.getElem?_eq_some_iff.1 hf).1
        have j1' : (j : Int) < (ys.length : Int) := by omega
        obtain ⟨gB, oB, eB, _⟩ := HB.out.line (by omega)
        subst eB
        obtain ⟨y, f', ey, ef, ry⟩ := HY.out.at_ jl
        obtain rfl : f = f' := by rw [hf] at ef; exact Option.some.inj ef
        have RY := Lib.hid ry
        have SF := Lib.hid (SM.out.2 _ (List.mem_of_getElem? hf))
        have DY : Hid (∀ w', Chg [] w1 w' → w'.cell? ⟨gB, oB + j * 4, none⟩ = some (.string y.p) ∧ w'.cell? ⟨gB, oB + j * 4 + 1, none⟩ = some (.int .i64 y.k) ∧ w'.cell? ⟨gB, oB + j * 4 + 2, none⟩ = some (.int .i64 y.m) ∧ w'.cell? ⟨gB, oB + j * 4 + 3, none⟩ = some (.slice y.A y.l y.c)) := Lib.hid (fun w' hc => enCells (HB.out.chg hc (by simp)) ey)
        clear ef ry hf ey jl hBS
        have STP := Lib.hid hst
        clear hst
        go_upto_region 12 with fail
        refine wp_region_held_drew (S := fun w' => Chg [] w1 w') (by kernel_rfl) (RC.out.trans (Chg.refl [] w5).drew) (fun hHeld => ?_)
        have RD : Hid (Chg [] w5 w5.drew) := Lib.hid (Chg.refl [] w5).drew
        clear hHeld
        replace RO := Lib.hid (RO.out.chg RD.out (by simp))
        replace RU := Lib.hid (RU.out.chg RD.out)
        replace RC := Lib.hid (RC.out.trans RD.out)
        clear RD
        generalize w5.drew = wd at *
        refine sy 0 62 rfl rfl ?_ (hS := RC.out)
        try simp only [Act.put, sA, s0, s1]
        refine sy 1 63 rfl rfl ?_ (hS := RC.out)
        try simp only [Act.put, sA, s0, s1]
        refine sy 2 64 rfl rfl ?_ (hS := RC.out)
        try simp only [Act.put, sA, s0, s1]
        refine sy 3 65 rfl rfl ?_ (hS := RC.out)
        try simp only [Act.put, sA, s0, s1]
        refine sy 4 66 rfl rfl ?_ (hS := RC.out)
        try simp only [Act.put, sA, s0, s1]
        refine sy 5 67 rfl rfl ?_ (hS := RC.out) (hy := by (intro w hSw; (try dsimp only at hSw); have hq := DX.out _ hSw; obtain ⟨q0, q1, q2, q3⟩ := hq; go_simp; try with_reducible rfl))
        try simp only [Act.put, sA, s0, s1]
        refine sy 6 68 rfl rfl ?_ (hS := RC.out)
        try simp only [Act.put, sA, s0, s1]
        refine sy 7 69 rfl rfl ?_ (hS := RC.out)
        try simp only [Act.put, sA, s0, s1]
        refine sy 8 70 rfl rfl ?_ (hS := RC.out)
        try simp only [Act.put, sA, s0, s1]
        refine sy 9 71 rfl rfl ?_ (hS := RC.out) (hy := by (intro w hSw; (try dsimp only at hSw); have hr := DY.out _ hSw; obtain ⟨r0, r1, r2, r3⟩ := hr; go_simp; try with_reducible rfl))
        try simp only [Act.put, sA, s0, s1]
        refine wpAnyH_ready (rs := [10]) (by kernel_rfl) (by simp) ?_
        refine AllReadyH.cons rfl (fun K hK => ?_) AllReadyH.nil
        replace hK := Lib.hid hK
        go_simp
        refine (tbpair_any wd x y e f e.p (RX.out.chg RC.out) (RY.out.chg RC.out) ⟨SE.out.1.2, SF.out.1.2⟩ (by rw [← PE.out]; exact maxS_self e.p)).mono ?_
        rintro r w6 ⟨X, rfl, xr, hc⟩
        have XR := Lib.hid xr
        replace RO := Lib.hid (RO.out.chg hc (by simp))
        replace RU := Lib.hid (RU.out.chg hc)
        replace RC := Lib.hid (RC.out.trans hc)
        clear xr hc
        refine hK.out _ _ RC.out (fun hHeld => ?_)
        clear hK K
        try simp only [Act.put, sA, s0, s1]
        refine wpAnyH_ready (rs := [11]) (by kernel_rfl) (by simp) ?_
        refine AllReadyH.cons rfl (fun K hK => ?_) AllReadyH.nil
        replace hK := Lib.hid hK
        go_simp
        obtain ⟨w7, hw, hc, b3⟩ := news1 w6 (.cells #[.string X.p, .int .i64 X.k, .int .i64 X.m, .slice X.A X.l X.c, .int .i64 X.k2, .int .i64 X.m2, .slice X.B X.bl X.bc] 50)
        rw [← hw]
        have R3 := Lib.hid (rd_onePr b3)
        replace RO := Lib.hid (RO.out.chg hc (by simp))
        replace RU := Lib.hid (RU.out.chg hc)
        replace RC := Lib.hid (RC.out.trans hc)
        replace XR := Lib.hid (XR.out.chg hc)
        clear hw hc b3 hHeld
        refine hK.out _ _ RC.out (fun hHeld => ?_)
        clear hK K
        try simp only [Act.put, sA, s0, s1]
        refine wpAnyH_ready (rs := [12]) (by kernel_rfl) (by simp) ?_
        refine AllReadyH.cons rfl (fun K hK => ?_) AllReadyH.nil
        replace hK := Lib.hid hK
        have N4 : Hid ((us.length + 1) * 400 ≤ 140737488355327) := Lib.hid (by have := UL.out; have := NA.out; omega)
        refine step_appK (R := prTy) rfl (.tmp 62) (.tmp 73) rfl rfl (A := Ao) (B := some ⟨w6.heap.size, 0, none⟩) (n := us.length) (m := 1) (c := co) (d := 1) (xs := us) (ys := [X]) RO.out rfl rfl R3.out N4.out ?_
        intro A7 c7 w8 o7 g7 e7
        have O7 := Lib.hid o7
        have F7 := Lib.hid (fresh_appN RN.out RC.out g7 e7)
        have G7 := Lib.hid g7
        clear o7 g7 e7 hHeld
        refine hK.out _ _ F7.out.2 (fun hHeld => ?_)
        clear hK K
        try simp only [Act.put, sA, s0, s1]
        refine sy 13 9 rfl rfl ?_ (hS := F7.out.2)
        try simp only [Act.put, sA, s0, s1]
        refine wpAnyH_done (by kernel_rfl) ?_ _
        clear hHeld
        have CG : Hid (Chg (blkOf Ao) w7 w8) := Lib.hid ((Chg.refl (blkOf Ao) w7).grown G7.out (fun i hi => by
          cases Ao with
          | none => simp at hi
          | some a => simp at hi; subst hi; exact .inl (mem_blkOf rfl)))
        have RU8 : Hid (PrsR w8 (us ++ [X]) (OUT ++ [prT e.p e f])) := Lib.hid ((RU.out.row RO.out CG.out).snoc (XR.out.row RO.out CG.out))
        have EQ8 : Hid ((OUT ++ [prT e.p e f]) ++ walkL (es.drop (i + 1)) (fs.drop (j + 1)) = walkL es fs) := Lib.hid (by
          rw [← EQ.out, STP.out, List.append_assoc]
          rfl)
        have UL8 : Hid ((us ++ [X]).length ≤ (i + 1) + (j + 1)) := Lib.hid (by have := UL.out; simp; omega)
        clear CG G7 RO RU EQ UL XR R3 N4
        go_wp2
        go_round
        case rel => exact ⟨i + 1, j + 1, A7, c7, us ++ [X], OUT ++ [prT e.p e f], by omega, by omega, by go_num, by go_num, by simp, UL8, EQ8, O7, RU8, Lib.hid F7.out.1, F7.out.2⟩
        case measure => simp [RowKit.intOf]; omega
      · skip
        have v1 : ¬ v < 0 := by omega
        have v3 : v > 0 := vp
        obtain ⟨f, hf, hst⟩ := walk_pos SRT.out.1 SRT.out.2 (.inl (by rw [← XE.out]; exact hlt)) (by rw [VV.out]; exact vp)
        have jl : j < ys.length := by rw [YE.out]; exact (List.getElem?_eq_some_iff.1 hf).1
        have j1' : (j : Int) < (ys.length : Int) := by omega
        obtain ⟨gB, oB, eB, _⟩ := HB.out.line (by omega)
        subst eB
        obtain ⟨y, f', ey, ef, ry⟩ := HY.out.at_ jl
        obtain rfl : f = f' := by rw [hf] at ef; exact Option.some.inj ef
        have RY := Lib.hid ry
        have SF := Lib.hid (SM.out.2 _ (List.mem_of_getElem? hf))
        have DY : Hid (∀ w', Chg [] w1 w' → w'.cell? ⟨gB, oB + j * 4, none⟩ = some (.string y.p) ∧ w'.cell? ⟨gB, oB + j * 4 + 1, none⟩ = some (.int .i64 y.k) ∧ w'.cell? ⟨gB, oB + j * 4 + 2, none⟩ = some (.int .i64 y.m) ∧ w'.cell? ⟨gB, oB + j * 4 + 3, none⟩ = some (.slice y.A y.l y.c)) := Lib.hid (fun w' hc => enCells (HB.out.chg hc (by simp)) ey)
        clear ef ry hf ey jl hBS
        have STP := Lib.hid hst
        clear hst
        go_upto_region 10 with fail
        refine wp_region_held_drew (S := fun w' => Chg [] w1 w') (by kernel_rfl) (RC.out.trans (Chg.refl [] w5).drew) (fun hHeld => ?_)
        have RD : Hid (Chg [] w5 w5.drew) := Lib.hid (Chg.refl [] w5).drew
        clear hHeld
        replace RO := Lib.hid (RO.out.chg RD.out (by simp))
        replace RU := Lib.hid (RU.out.chg RD.out)
        replace RC := Lib.hid (RC.out.trans RD.out)
        clear RD
        generalize w5.drew = wd at *
        refine sy 0 50 rfl rfl ?_ (hS := RC.out)
        try simp only [Act.put, sA, s0, s1]
        refine sy 1 51 rfl rfl ?_ (hS := RC.out)
        try simp only [Act.put, sA, s0, s1]
        refine sy 2 52 rfl rfl ?_ (hS := RC.out) (hy := by (intro w hSw; (try dsimp only at hSw); have hz := DZ.out _ hSw; obtain ⟨z0, z1, z2, z3⟩ := hz; go_simp; try with_reducible rfl))
        try simp only [Act.put, sA, s0, s1]
        refine sy 3 53 rfl rfl ?_ (hS := RC.out)
        try simp only [Act.put, sA, s0, s1]
        refine sy 4 54 rfl rfl ?_ (hS := RC.out)
        try simp only [Act.put, sA, s0, s1]
        refine sy 5 55 rfl rfl ?_ (hS := RC.out)
        try simp only [Act.put, sA, s0, s1]
        refine sy 6 56 rfl rfl ?_ (hS := RC.out) (hy := by (intro w hSw; (try dsimp only at hSw); have hr := DY.out _ hSw; obtain ⟨r0, r1, r2, r3⟩ := hr; go_simp; try with_reducible rfl))
        try simp only [Act.put, sA, s0, s1]
        refine wpAnyH_ready (rs := [7]) (by kernel_rfl) (by simp) ?_
        refine AllReadyH.cons rfl (fun K hK => ?_) AllReadyH.nil
        replace hK := Lib.hid hK
        go_simp
        refine (tbpair_any wd ⟨⟨#[]⟩, 0, 0, none, 0, 0⟩ y noT f f.p (noT_R wd) (RY.out.chg RC.out) ⟨by unfold noT; simp, SF.out.1.2⟩ (maxS_right SF.out.2)).mono ?_
        rintro r w6 ⟨X, rfl, xr, hc⟩
        have XR := Lib.hid xr
        replace RO := Lib.hid (RO.out.chg hc (by simp))
        replace RU := Lib.hid (RU.out.chg hc)
        replace RC := Lib.hid (RC.out.trans hc)
        clear xr hc
        refine hK.out _ _ RC.out (fun hHeld => ?_)
        clear hK K
        try simp only [Act.put, sA, s0, s1]
        refine wpAnyH_ready (rs := [8]) (by kernel_rfl) (by simp) ?_
        refine AllReadyH.cons rfl (fun K hK => ?_) AllReadyH.nil
        replace hK := Lib.hid hK
        go_simp
        obtain ⟨w7, hw, hc, b3⟩ := news1 w6 (.cells #[.string X.p, .int .i64 X.k, .int .i64 X.m, .slice X.A X.l X.c, .int .i64 X.k2, .int .i64 X.m2, .slice X.B X.bl X.bc] 50)
        rw [← hw]
        have R3 := Lib.hid (rd_onePr b3)
        replace RO := Lib.hid (RO.out.chg hc (by simp))
        replace RU := Lib.hid (RU.out.chg hc)
        replace RC := Lib.hid (RC.out.trans hc)
        replace XR := Lib.hid (XR.out.chg hc)
        clear hw hc b3 hHeld
        refine hK.out _ _ RC.out (fun hHeld => ?_)
        clear hK K
        try simp only [Act.put, sA, s0, s1]
        refine wpAnyH_ready (rs := [9]) (by kernel_rfl) (by simp) ?_
        refine AllReadyH.cons rfl (fun K hK => ?_) AllReadyH.nil
        replace hK := Lib.hid hK
        have N4 : Hid ((us.length + 1) * 400 ≤ 140737488355327) := Lib.hid (by have := UL.out; have := NA.out; omega)
        refine step_appK (R := prTy) rfl (.tmp 50) (.tmp 58) rfl rfl (A := Ao) (B := some ⟨w6.heap.size, 0, none⟩) (n := us.length) (m := 1) (c := co) (d := 1) (xs := us) (ys := [X]) RO.out rfl rfl R3.out N4.out ?_
        intro A7 c7 w8 o7 g7 e7
        have O7 := Lib.hid o7
        have F7 := Lib.hid (fresh_appN RN.out RC.out g7 e7)
        have G7 := Lib.hid g7
        clear o7 g7 e7 hHeld
        refine hK.out _ _ F7.out.2 (fun hHeld => ?_)
        clear hK K
        try simp only [Act.put, sA, s0, s1]
        refine sy 10 9 rfl rfl ?_ (hS := F7.out.2)
        try simp only [Act.put, sA, s0, s1]
        refine wpAnyH_done (by kernel_rfl) ?_ _
        clear hHeld
        have CG : Hid (Chg (blkOf Ao) w7 w8) := Lib.hid ((Chg.refl (blkOf Ao) w7).grown G7.out (fun i hi => by
          cases Ao with
          | none => simp at hi
          | some a => simp at hi; subst hi; exact .inl (mem_blkOf rfl)))
        have RU8 : Hid (PrsR w8 (us ++ [X]) (OUT ++ [prT f.p noT f])) := Lib.hid ((RU.out.row RO.out CG.out).snoc (XR.out.row RO.out CG.out))
        have EQ8 : Hid ((OUT ++ [prT f.p noT f]) ++ walkL (es.drop (i)) (fs.drop (j + 1)) = walkL es fs) := Lib.hid (by
          rw [← EQ.out, STP.out, List.append_assoc]
          rfl)
        have UL8 : Hid ((us ++ [X]).length ≤ (i) + (j + 1)) := Lib.hid (by have := UL.out; simp; omega)
        clear CG G7 RO RU EQ UL XR R3 N4
        go_wp2
        go_round
        case rel => exact ⟨i, j + 1, A7, c7, us ++ [X], OUT ++ [prT f.p noT f], by omega, by omega, by go_num, by go_num, by simp, UL8, EQ8, O7, RU8, Lib.hid F7.out.1, F7.out.2⟩
        case measure => simp [RowKit.intOf]; omega
    · have IE : Hid (i = xs.length) := Lib.hid (by omega)
      have i1 : ¬ (i : Int) < (xs.length : Int) := by omega
      have i2 : decide ((i : Int) < (xs.length : Int)) = false := decide_eq_false i1
      by_cases hjt : j < ys.length
      · have j1 : (j : Int) < (ys.length : Int) := by omega
        have j2 : decide ((j : Int) < (ys.length : Int)) = true := decide_eq_true j1
        have vp : 0 < v := by rw [← VV.out, List.drop_of_length_le (by rw [← XE.out, IE.out]; exact Nat.le_refl _)]; exact Int.zero_lt_one
        go_upto_region 5 with fail
        refine wp_region_held_drew (S := fun w' => Chg [] w1 w') (by kernel_rfl) (RC.out.trans (Chg.refl [] wr).drew) (fun hHeld => ?_)
        have RD : Hid (Chg [] wr wr.drew) := Lib.hid (Chg.refl [] wr).drew
        clear hHeld
        replace RO := Lib.hid (RO.out.chg RD.out (by simp))
        replace RU := Lib.hid (RU.out.chg RD.out)
        replace RC := Lib.hid (RC.out.trans RD.out)
        clear RD
        generalize wr.drew = wc at *
        refine sy 0 24 rfl rfl ?_ (hS := RC.out)
        try simp only [Act.put, sA, s0, s1]
        refine sy 1 25 rfl rfl ?_ (hS := RC.out)
        try simp only [Act.put, sA, s0, s1]
        refine sy 2 26 rfl rfl ?_ (hS := RC.out)
        try simp only [Act.put, sA, s0, s1]
        refine sy 3 27 rfl rfl ?_ (hS := RC.out)
        try simp only [Act.put, sA, s0, s1]
        refine sy 4 28 rfl rfl ?_ (hS := RC.out)
        try simp only [Act.put, sA, s0, s1]
        refine sy 5 29 rfl rfl ?_ (hS := RC.out)
        try simp only [Act.put, sA, s0, s1]
        refine sy 6 30 rfl rfl ?_ (hS := RC.out)
        try simp only [Act.put, sA, s0, s1]
        refine wpAnyH_ready (rs := [7]) (by kernel_rfl) (by simp) ?_
        refine AllReadyH.cons rfl (fun K hK => ?_) AllReadyH.nil
        replace hK := Lib.hid hK
        go_simp
        refine (WHO.out wc RC.out).mono ?_
        rintro r w5 ⟨rfl, hc⟩
        replace RO := Lib.hid (RO.out.chg hc (by simp))
        replace RU := Lib.hid (RU.out.chg hc)
        replace RC := Lib.hid (RC.out.trans hc)
        clear hc
        refine hK.out _ _ RC.out (fun hHeld => ?_)
        clear hK K
        try simp only [Act.put, sA, s0, s1]
        refine sy 8 13 rfl rfl ?_ (hS := RC.out)
        try simp only [Act.put, sA, s0, s1]
        refine wpAnyH_done (by kernel_rfl) ?_ _
        clear hHeld WHO
        have v1 : ¬ v < 0 := by omega
        have v3 : v > 0 := vp
        obtain ⟨f, hf, hst⟩ := walk_pos SRT.out.1 SRT.out.2 (.inr (by rw [← YE.out]; exact hjt)) (by rw [VV.out]; exact vp)
        have jl : j < ys.length := by rw [YE.out]; exact (List.getElem?_eq_some_iff.1 hf).1
        have j1' : (j : Int) < (ys.length : Int) := by omega
        obtain ⟨gB, oB, eB, _⟩ := HB.out.line (by omega)
        subst eB
        obtain ⟨y, f', ey, ef, ry⟩ := HY.out.at_ jl
        obtain rfl : f = f' := by rw [hf] at ef; exact Option.some.inj ef
        have RY := Lib.hid ry
        have SF := Lib.hid (SM.out.2 _ (List.mem_of_getElem? hf))
        have DY : Hid (∀ w', Chg [] w1 w' → w'.cell? ⟨gB, oB + j * 4, none⟩ = some (.string y.p) ∧ w'.cell? ⟨gB, oB + j * 4 + 1, none⟩ = some (.int .i64 y.k) ∧ w'.cell? ⟨gB, oB + j * 4 + 2, none⟩ = some (.int .i64 y.m) ∧ w'.cell? ⟨gB, oB + j * 4 + 3, none⟩ = some (.slice y.A y.l y.c)) := Lib.hid (fun w' hc => enCells (HB.out.chg hc (by simp)) ey)
        clear ef ry hf ey jl hBS
        have STP := Lib.hid hst
        clear hst
        go_upto_region 10 with fail
        refine wp_region_held_drew (S := fun w' => Chg [] w1 w') (by kernel_rfl) (RC.out.trans (Chg.refl [] w5).drew) (fun hHeld => ?_)
        have RD : Hid (Chg [] w5 w5.drew) := Lib.hid (Chg.refl [] w5).drew
        clear hHeld
        replace RO := Lib.hid (RO.out.chg RD.out (by simp))
        replace RU := Lib.hid (RU.out.chg RD.out)
        replace RC := Lib.hid (RC.out.trans RD.out)
        clear RD
        generalize w5.drew = wd at *
        refine sy 0 50 rfl rfl ?_ (hS := RC.out)
        try simp only [Act.put, sA, s0, s1]
        refine sy 1 51 rfl rfl ?_ (hS := RC.out)
        try simp only [Act.put, sA, s0, s1]
        refine sy 2 52 rfl rfl ?_ (hS := RC.out) (hy := by (intro w hSw; (try dsimp only at hSw); have hz := DZ.out _ hSw; obtain ⟨z0, z1, z2, z3⟩ := hz; go_simp; try with_reducible rfl))
        try simp only [Act.put, sA, s0, s1]
        refine sy 3 53 rfl rfl ?_ (hS := RC.out)
        try simp only [Act.put, sA, s0, s1]
        refine sy 4 54 rfl rfl ?_ (hS := RC.out)
        try simp only [Act.put, sA, s0, s1]
        refine sy 5 55 rfl rfl ?_ (hS := RC.out)
        try simp only [Act.put, sA, s0, s1]
        refine sy 6 56 rfl rfl ?_ (hS := RC.out) (hy := by (intro w hSw; (try dsimp only at hSw); have hr := DY.out _ hSw; obtain ⟨r0, r1, r2, r3⟩ := hr; go_simp; try with_reducible rfl))
        try simp only [Act.put, sA, s0, s1]
        refine wpAnyH_ready (rs := [7]) (by kernel_rfl) (by simp) ?_
        refine AllReadyH.cons rfl (fun K hK => ?_) AllReadyH.nil
        replace hK := Lib.hid hK
        go_simp
        refine (tbpair_any wd ⟨⟨#[]⟩, 0, 0, none, 0, 0⟩ y noT f f.p (noT_R wd) (RY.out.chg RC.out) ⟨by unfold noT; simp, SF.out.1.2⟩ (maxS_right SF.out.2)).mono ?_
        rintro r w6 ⟨X, rfl, xr, hc⟩
        have XR := Lib.hid xr
        replace RO := Lib.hid (RO.out.chg hc (by simp))
        replace RU := Lib.hid (RU.out.chg hc)
        replace RC := Lib.hid (RC.out.trans hc)
        clear xr hc
        refine hK.out _ _ RC.out (fun hHeld => ?_)
        clear hK K
        try simp only [Act.put, sA, s0, s1]
        refine wpAnyH_ready (rs := [8]) (by kernel_rfl) (by simp) ?_
        refine AllReadyH.cons rfl (fun K hK => ?_) AllReadyH.nil
        replace hK := Lib.hid hK
        go_simp
        obtain ⟨w7, hw, hc, b3⟩ := news1 w6 (.cells #[.string X.p, .int .i64 X.k, .int .i64 X.m, .slice X.A X.l X.c, .int .i64 X.k2, .int .i64 X.m2, .slice X.B X.bl X.bc] 50)
        rw [← hw]
        have R3 := Lib.hid (rd_onePr b3)
        replace RO := Lib.hid (RO.out.chg hc (by simp))
        replace RU := Lib.hid (RU.out.chg hc)
        replace RC := Lib.hid (RC.out.trans hc)
        replace XR := Lib.hid (XR.out.chg hc)
        clear hw hc b3 hHeld
        refine hK.out _ _ RC.out (fun hHeld => ?_)
        clear hK K
        try simp only [Act.put, sA, s0, s1]
        refine wpAnyH_ready (rs := [9]) (by kernel_rfl) (by simp) ?_
        refine AllReadyH.cons rfl (fun K hK => ?_) AllReadyH.nil
        replace hK := Lib.hid hK
        have N4 : Hid ((us.length + 1) * 400 ≤ 140737488355327) := Lib.hid (by have := UL.out; have := NA.out; omega)
        refine step_appK (R := prTy) rfl (.tmp 50) (.tmp 58) rfl rfl (A := Ao) (B := some ⟨w6.heap.size, 0, none⟩) (n := us.length) (m := 1) (c := co) (d := 1) (xs := us) (ys := [X]) RO.out rfl rfl R3.out N4.out ?_
        intro A7 c7 w8 o7 g7 e7
        have O7 := Lib.hid o7
        have F7 := Lib.hid (fresh_appN RN.out RC.out g7 e7)
        have G7 := Lib.hid g7
        clear o7 g7 e7 hHeld
        refine hK.out _ _ F7.out.2 (fun hHeld => ?_)
        clear hK K
        try simp only [Act.put, sA, s0, s1]
        refine sy 10 9 rfl rfl ?_ (hS := F7.out.2)
        try simp only [Act.put, sA, s0, s1]
        refine wpAnyH_done (by kernel_rfl) ?_ _
        clear hHeld
        have CG : Hid (Chg (blkOf Ao) w7 w8) := Lib.hid ((Chg.refl (blkOf Ao) w7).grown G7.out (fun i hi => by
          cases Ao with
          | none => simp at hi
          | some a => simp at hi; subst hi; exact .inl (mem_blkOf rfl)))
        have RU8 : Hid (PrsR w8 (us ++ [X]) (OUT ++ [prT f.p noT f])) := Lib.hid ((RU.out.row RO.out CG.out).snoc (XR.out.row RO.out CG.out))
        have EQ8 : Hid ((OUT ++ [prT f.p noT f]) ++ walkL (es.drop (i)) (fs.drop (j + 1)) = walkL es fs) := Lib.hid (by
          rw [← EQ.out, STP.out, List.append_assoc]
          rfl)
        have UL8 : Hid ((us ++ [X]).length ≤ (i) + (j + 1)) := Lib.hid (by have := UL.out; simp; omega)
        clear CG G7 RO RU EQ UL XR R3 N4
        go_wp2
        go_round
        case rel => exact ⟨i, j + 1, A7, c7, us ++ [X], OUT ++ [prT f.p noT f], by omega, by omega, by go_num, by go_num, by simp, UL8, EQ8, O7, RU8, Lib.hid F7.out.1, F7.out.2⟩
        case measure => simp [RowKit.intOf]; omega
      · have JE : Hid (j = ys.length) := Lib.hid (by omega)
        have j1 : ¬ (j : Int) < (ys.length : Int) := by omega
        have j2 : decide ((j : Int) < (ys.length : Int)) = false := decide_eq_false j1
        have QU : Hid (PrsR wr us (walkL es fs)) := Lib.hid (by
          have q := EQ.out
          rw [List.drop_of_length_le (by rw [← XE.out, IE.out]; exact Nat.le_refl _), List.drop_of_length_le (by rw [← YE.out, JE.out]; exact Nat.le_refl _), walk_nil, List.append_nil] at q
          rw [← q]
          exact RU.out)
        go_wp2
        go_ret
        exact ⟨Ao, co, us, rfl, RO.out, QU.out, fun a ha => Nat.le_trans C0.out.size (RN.out a ha), C0.out.trans RC.out⟩
end
section
open Go.RowKit Go.Lib
set_option linter.unusedSimpArgs false
set_option linter.unusedVariables false

theorem getElem?_of_drop {α : Type} {xs ys : List α} {k i : Nat} (h : xs.drop k = ys.drop k) (hi : k ≤ i) : xs[i]? = ys[i]? := by
  have := congrArg (fun l => l[i - k]?) h
  simpa [List.getElem?_drop, Nat.add_sub_cancel' hi] using this
end
section
open Go.RowKit Go.Lib
set_option linter.unusedSimpArgs false
set_option linter.unusedVariables false

/-- What a search by a func tells: the first of which it is so; -1: none. -/
def IdxN (es : List EnP) (p : EnP → Bool) (v : Int) : Prop := (v = -1 ∧ ∀ e ∈ es, p e = false) ∨ ∃ (k : Nat) (e : EnP), v = k ∧ es[k]? = some e ∧ p e = true ∧ ∀ e ∈ es.take k, p e = false
theorem IdxN.any {es : List EnP} {p : EnP → Bool} {v : Int} (h : IdxN es p v) : es.any p = decide (0 ≤ v) := by
  rcases h with ⟨rfl, h⟩ | ⟨k, e, rfl, hk, hp, _⟩
  · rw [List.any_eq_false.2 (fun e he => by rw [h e he]; decide)]
    rfl
  · rw [List.any_eq_true.2 ⟨e, List.mem_of_getElem? hk, hp⟩]
    exact (decide_eq_true (by omega)).symm
theorem all_take_noN {es : List EnP} {p : EnP → Bool} {k : Nat} {e : EnP} (h : ∀ e ∈ es.take k, p e = false) (hk : es[k]? = some e) (he : p e = false) : ∀ e ∈ es.take (k + 1), p e = false := by
  intro x hx
  rw [List.take_add_one, hk] at hx
  rcases List.mem_append.1 hx with q | q
  · exact h x q
  · simp at q
    subst q
    exact he

theorem run_clearN (w : World) (ty : TypeId) (g c n k : Nat) (full : List EnT) (hg : w.heap[g]? = some (.cells (enTy.flat full).toArray 55 (0, 0))) (hl : full.length = c) (hn : n ≤ c) (hk : k < n) :
    (Builtin.clear_ #[22] ty #[.slice (some ⟨g, k * 4, none⟩) (n - k) (c - k)]).run Tryz.prog w = .ok (.tuple #[]) (w.setRow g (enTy.flat (full.take k ++ List.replicate (n - k) enTy.z ++ full.drop n)).toArray) := by
  have hz := enTy.zeros (n - k)
  have hk2 : enTy.k = 4 := rfl
  have hlen : (enTy.flat full).length = full.length * 4 := enTy.flat_len full
  have hlz : (enTy.flat (List.replicate (n - k) enTy.z)).length = (n - k) * 4 := by rw [enTy.flat_len, List.length_replicate, hk2]
  have hst := run_storeCells_at (P := Tryz.prog) g (k * 4) 55 (enTy.flat (List.replicate (n - k) enTy.z)) 0 _ w hg (by rw [hlz, List.size_toArray, hlen]; omega) (enTy.flat_one _)
  have ht := enTy.flat_take full k
  have hd := enTy.flat_drop full n
  rw [hk2] at ht hd
  have hfin : ((enTy.flat full).toArray.toList.take (k * 4 + 0) ++ enTy.flat (List.replicate (n - k) enTy.z) ++ (enTy.flat full).toArray.toList.drop (k * 4 + 0 + (enTy.flat (List.replicate (n - k) enTy.z)).length)) = enTy.flat (full.take k ++ List.replicate (n - k) enTy.z ++ full.drop n) := by
    rw [enTy.flat_app, enTy.flat_app, ht, hd, hlz, show k * 4 + 0 + (n - k) * 4 = n * 4 by omega]
    rfl
  rw [hfin] at hst
  obtain ⟨m, hm⟩ : ∃ m, n - k = m + 1 := ⟨n - k - 1, by omega⟩
  have hzv : ∀ w, (zeroValue 55).run Tryz.prog w = .ok (.agg #[.string ⟨#[]⟩, .int .i64 0, .int .i64 0, .slice none 0 0]) w := Tryz.zeroValue55
  have hzz : (Builtin.zeroCells (Value.agg #[.string ⟨#[]⟩, .int .i64 0, .int .i64 0, .slice none 0 0]).cells (n - k)).toList = enTy.flat (List.replicate (n - k) enTy.z) := by
    exact (congrArg Array.toList hz).trans (by simp)
  rw [hm] at hst hzz ⊢
  simp [Builtin.clear_, run_underlying Tryz.underlying22, hzv, hzz, hst]
/-- Those that stay. -/
theorem filt_takeN {es : List EnP} {q : EnP → Bool} {k : Nat} {e : EnP} (he : es[k]? = some e) : (es.take (k + 1)).filter q = (es.take k).filter q ++ (if q e = true then [e] else []) := by
  rw [List.take_add_one, he, List.filter_append]
  cases h : q e <;> simp [h]
theorem take_set_nextN {α : Type} {zs : List α} {i : Nat} {x : α} (hi : i < zs.length) : (zs.set i x).take (i + 1) = zs.take i ++ [x] := by
  rw [List.take_add_one, List.getElem?_set, if_pos rfl, if_pos hi, List.take_set, List.set_eq_of_length_le (by rw [List.length_take]; omega)]
  rfl
set_option maxRecDepth 100000 in
set_option maxHeartbeats 4000000 in
theorem enfindex_any (w : World) (A : Option Addr) (c : Nat) (xs : List EnT) (es : List EnP) (gf : Nat) (lb : Array Value) (d : EnP → Bool) (eg : ∀ args w, (callFunc gf args).run Tryz.prog w = .ok (.enter gf args) w) (h : RdK enTy w A xs.length xs) (hx : EnsR w xs es) (hn : xs.length ≤ 100000) (hcall : ∀ (wr : World), Chg [] w wr → ∀ (i : Nat) (x : EnT) (e : EnP), xs[i]? = some x → es[i]? = some e → Calls Tryz.prog gf (#[.agg #[.string x.p, .int .i64 x.k, .int .i64 x.m, .slice x.A x.l x.c]] ++ lb) wr fun r w' => r = .returned (.bool (d e)) ∧ Chg [] wr w') :
    Calls Tryz.prog 81 #[.slice A xs.length c, .func (.func gf) #[] lb] w fun r w' => (∃ v : Int, r = .returned (.int .i64 v) ∧ IdxN es d v) ∧ Chg [] w w' := by
  have HA := Lib.hid h
  have HX := Lib.hid hx
  have HN := Lib.hid hn
  have HCALL := Lib.hid hcall
  have CLEARS : True := trivial
  clear CLEARS h hx hn hcall
  go_enter Tryz.func81, Tryz.ntmps81
  go_wp2
  go_loopw [5, 8] (fun v5 v8 wr => ∃ (k : Nat), k ≤ xs.length ∧ v8 = .int .i64 k ∧ Hid (∀ e ∈ es.take k, d e = false) ∧ Hid (Chg [] w wr)) (fun _ v8 _ => xs.length - (RowKit.intOf v8).toNat)
  case atStart => exact ⟨0, Nat.zero_le _, rfl, Lib.hid (by simp), Chg.refl _ _⟩
  case round =>
    obtain ⟨k, hk, rfl, FN_, RC⟩ := hrel
    have i0 : (0 : Int) ≤ (k : Int) := by omega
    by_cases hlt : k < xs.length
    · have i1 : (k : Int) < (xs.length : Int) := by omega
      have i3 : IntKind.i64.wrap ((k : Int) + 1) = (k : Int) + 1 := IntWalk.i64_in _ (by have := HN.out; omega)
      obtain ⟨x, e, ex, ee, rx⟩ := HX.out.at_ hlt
      obtain ⟨g, o, eA, _⟩ := HA.out.line (by omega)
      subst eA
      obtain ⟨z0, z1, z2, z3⟩ := enCells (HA.out.chg RC.out (by simp)) ex
      have EE := Lib.hid ee
      have CL := Lib.hid (HCALL.out wr RC.out _ x e ex ee)
      clear ex ee rx
      go_wp2_with fail
      refine CL.out.mono ?_
      rintro r w2 ⟨rfl, hc⟩
      have C2 := Lib.hid (RC.out.trans hc)
      clear hc CL z0 z1 z2 z3
      rcases hb : d e with _ | _
      · have FN1 := Lib.hid (all_take_noN FN_.out EE.out hb)
        clear hb FN_
        go_wp2
        go_round
        case rel => exact ⟨k + 1, by omega, by go_num, FN1, C2⟩
        case measure => simp [RowKit.intOf]; omega
      · have AN : Hid (IdxN es d (k : Int)) := Lib.hid (.inr ⟨k, e, rfl, EE.out, hb, FN_.out⟩)
        clear hb FN_
        go_wp2
        go_ret
        exact ⟨⟨k, rfl, AN.out⟩, C2.out⟩
    · obtain rfl : k = xs.length := by omega
      have ET : es.take xs.length = es := by rw [HX.out.1]; exact List.take_length
      rw [ET] at FN_
      clear ET
      have i1 : ¬ (xs.length : Int) < (xs.length : Int) := by omega
      go_wp2
      go_ret
      exact ⟨⟨-1, rfl, .inl ⟨rfl, FN_.out⟩⟩, RC.out⟩

set_option maxRecDepth 100000 in
set_option maxHeartbeats 4000000 in
theorem enfcontains_any (w : World) (A : Option Addr) (c : Nat) (xs : List EnT) (es : List EnP) (gf : Nat) (lb : Array Value) (d : EnP → Bool) (eg : ∀ args w, (callFunc gf args).run Tryz.prog w = .ok (.enter gf args) w) (h : RdK enTy w A xs.length xs) (hx : EnsR w xs es) (hn : xs.length ≤ 100000) (hcall : ∀ (wr : World), Chg [] w wr → ∀ (i : Nat) (x : EnT) (e : EnP), xs[i]? = some x → es[i]? = some e → Calls Tryz.prog gf (#[.agg #[.string x.p, .int .i64 x.k, .int .i64 x.m, .slice x.A x.l x.c]] ++ lb) wr fun r w' => r = .returned (.bool (d e)) ∧ Chg [] wr w') :
    Calls Tryz.prog 106 #[.slice A xs.length c, .func (.func gf) #[] lb] w fun r w' => r = .returned (.bool (es.any d)) ∧ Chg [] w w' := by
  have IX := Lib.hid (enfindex_any w A c xs es gf lb d eg h hx hn hcall)
  clear h hx hn hcall
  generalize hv : es.any d = v
  have HV := Lib.hid hv
  clear hv
  go_enter Tryz.func106, Tryz.ntmps106
  go_wp2_with fail
  refine IX.out.mono ?_
  rintro e w2 ⟨⟨u, rfl, hu⟩, hc⟩
  have C := Lib.hid hc
  have HU : Hid (decide ((0 : Int) ≤ u) = v) := Lib.hid (by rw [← HV.out]; exact hu.any.symm)
  clear hu hc
  go_wp2
  go_ret
  exact ⟨by rw [HU.out]; rfl, C.out⟩


theorem take_sub_next {α : Type} (l : List α) (k : Nat) : (l.take k).Sublist (l.take (k + 1)) := by
  have : l.take k = (l.take (k + 1)).take k := by rw [List.take_take, Nat.min_eq_left (Nat.le_succ k)]
  rw [this]
  exact List.take_sublist _ _
theorem zip_next {α β : Type} {l : List α} {m : List β} {j : Nat} {x : α} {e : β} (hx : l[j]? = some x) (he : m[j]? = some e) : (l.zip m).take (j + 1) = (l.zip m).take j ++ [(x, e)] := by
  rw [List.take_add_one, List.getElem?_zip_eq_some (z := (x, e)) |>.2 ⟨hx, he⟩]
  rfl
theorem take_zipN {α β : Type} (l : List α) (m : List β) (k : Nat) : (l.zip m).take k = (l.take k).zip (m.take k) := by
  rw [List.zip_eq_zipWith, List.zip_eq_zipWith, List.take_zipWith]
set_option maxRecDepth 100000 in
set_option maxHeartbeats 16000000 in
theorem enfdel_S (S0 : List Nat) (wb w0 w : World) (A : Option Addr) (c : Nat) (xs : List EnT) (es : List EnP) (gf : Nat) (lb : Array Value) (d : EnP → Bool) (eg : ∀ args w, (callFunc gf args).run Tryz.prog w = .ok (.enter gf args) w) (hxw : EnsR w xs es) (h0 : Chg S0 w0 w) (h : OwnK enTy w A c xs) (hA : ∀ a, A = some a → a.block ∈ S0 ∨ w0.heap.size ≤ a.block) (hx : EnsR wb xs es) (hn : xs.length ≤ 100000) (hcall : ∀ (wr : World), Chg S0 w0 wr → ∀ (i : Nat) (x : EnT) (e : EnP), xs[i]? = some x → es[i]? = some e → Calls Tryz.prog gf (#[.agg #[.string x.p, .int .i64 x.k, .int .i64 x.m, .slice x.A x.l x.c]] ++ lb) wr fun r w' => r = .returned (.bool (d e)) ∧ Chg [] wr w') :
    Calls Tryz.prog 49 #[.slice A xs.length c, .func (.func gf) #[] lb] w fun r w' => ∃ ys : List EnT, r = .returned (.slice A ys.length c) ∧ ys.length ≤ xs.length ∧ EnsR wb ys (es.filter (fun e => !d e)) ∧ (ys.zip (es.filter (fun e => !d e))).Sublist (xs.zip es) ∧ OwnK enTy w' A c ys ∧ Chg S0 w0 w' := by
  have IX := Lib.hid (enfindex_any w A c xs es gf lb d eg h.reads hxw hn (fun wr hc => hcall wr (h0.trans (hc.mono (by simp)))))
  have W1C := Lib.hid hcall
  have O0 := Lib.hid h
  have C0 := Lib.hid h0
  have NA := Lib.hid hA
  have HX := Lib.hid hx
  have HN := Lib.hid hn
  clear h h0 hxw hA hx hn hcall
  go_enter Tryz.func49, Tryz.ntmps49
  go_wp2_with fail
  refine IX.out.mono ?_
  rintro r w1 ⟨⟨v, rfl, hv⟩, hc⟩
  have C1 := Lib.hid (C0.out.trans (hc.mono (by simp)))
  have O1 := Lib.hid (O0.out.chg hc (by simp))
  clear hc O0 C0 IX
  rcases hv with ⟨rfl, no⟩ | ⟨k, e, rfl, ek, pk, nk⟩
  · have ES : Hid (es.filter (fun e => !d e) = es) := Lib.hid (List.filter_eq_self.2 (fun e he => by have q : d e = false := no e he; rw [q]; rfl))
    clear no
    go_wp2
    go_ret
    exact ⟨xs, rfl, Nat.le_refl _, by rw [ES.out]; exact HX.out, by rw [ES.out]; exact List.Sublist.refl _, O1.out, C1.out⟩
  · have kl : k < xs.length := by rw [HX.out.1]; exact (List.getElem?_eq_some_iff.1 ek).1
    have F0 : Hid ((es.take (k + 1)).filter (fun e => !d e) = es.take k) := Lib.hid (by
      rw [filt_takeN ek]
      have pk : d e = true := pk
      simp only [pk, Bool.not_true, Bool.false_eq_true, if_false, List.append_nil]
      exact List.filter_eq_self.2 (fun e he => by have q : d e = false := nk e he; rw [q]; rfl))
    have E0 : Hid (EnsR wb (xs.take k) (es.take k)) := Lib.hid ⟨by rw [List.length_take, List.length_take, HX.out.1], fun i x d hx hd => by
      rw [List.getElem?_take] at hx hd
      split at hx
      · rename_i q; rw [if_pos q] at hd; exact HX.out.2 i x d hx hd
      · cases hx⟩
    obtain ⟨g, eA, _⟩ : ∃ g, A = some ⟨g, 0, none⟩ ∧ g < w1.heap.size := by
      rcases O1.out.shape with ⟨_, q, _⟩ | q
      · rw [q] at kl; simp at kl
      · exact q
    subst eA
    have CP := Lib.hid O1.out.cap
    have n1 : ¬ ((k : Int) = -1) := by omega
    have n2 : (((k : Int) == -1) : Bool) = false := by first | (simp; done) | (simp; omega)
    have n3 : IntKind.i64.wrap ((k : Int) + 1) = ((k + 1 : Nat) : Int) := by rw [IntWalk.i64_in _ (by have := HN.out; omega)]; omega
    have KL := Lib.hid kl
    clear ek pk nk kl
    go_upto_region 5 with fail
    go_loopw [5, 6] (fun v5 v6 wr => ∃ (i j : Nat) (zs : List EnT), i + 1 ≤ j ∧ j ≤ xs.length ∧ v5 = .int .i64 i ∧ v6 = .int .i64 j ∧ Hid (zs.length = xs.length ∧ zs.drop j = xs.drop j) ∧ Hid (EnsR wb (zs.take i) ((es.take j).filter (fun e => !d e))) ∧ Hid (((zs.take i).zip ((es.take j).filter (fun e => !d e))).Sublist ((xs.zip es).take j)) ∧ Hid (OwnK enTy wr (some ⟨g, 0, none⟩) c zs) ∧ Hid (Chg S0 w0 wr)) (fun _ v6 _ => xs.length - (RowKit.intOf v6).toNat)
    case atStart => exact ⟨k, k + 1, xs, Nat.le_refl _, KL.out, rfl, rfl, Lib.hid ⟨rfl, rfl⟩, Lib.hid (by rw [F0.out]; exact E0.out), Lib.hid (by rw [F0.out, ← take_zipN]; exact take_sub_next _ _), O1, C1⟩
    case round =>
      obtain ⟨i, j, zs, hij, hj, rfl, rfl, ZL, RE, ZS, RO, RC⟩ := hrel
      have i0 : (0 : Int) ≤ (i : Int) := by omega
      have j0 : (0 : Int) ≤ (j : Int) := by omega
      by_cases hlt : j < xs.length
      · have j1 : (j : Int) < (xs.length : Int) := by omega
        have i1 : (i : Int) < (xs.length : Int) := by omega
        have j3 : IntKind.i64.wrap ((j : Int) + 1) = (j : Int) + 1 := IntWalk.i64_in _ (by have := HN.out; omega)
        have i3 : IntKind.i64.wrap ((i : Int) + 1) = (i : Int) + 1 := IntWalk.i64_in _ (by have := HN.out; omega)
        obtain ⟨x, e, ex, ee, rx⟩ := HX.out.at_ hlt
        have zx : zs[j]? = some x := by rw [getElem?_of_drop ZL.out.2 (Nat.le_refl _)]; exact ex
        obtain ⟨z0, z1, z2, z3⟩ := enCells RO.out.reads zx
        rw [Nat.zero_add] at z0 z1 z2 z3
        have EE := Lib.hid ee
        have RX := Lib.hid rx
        have EX := Lib.hid ex
        clear ex ee rx zx
        obtain ⟨w2, hw2, c2, b2⟩ := news1 wr (.cells #[.string x.p, .int .i64 x.k, .int .i64 x.m, .slice x.A x.l x.c] 55)
        have W2 := Lib.hid hw2
        have B2 := Lib.hid b2
        have SB : Hid (g ≠ wr.heap.size) := Lib.hid (by
          have := RO.out.lt_ _ rfl
          intro q
          rw [q] at this
          exact Nat.lt_irrefl _ this)
        replace RO := Lib.hid (RO.out.chg c2 (by simp))
        replace RC := Lib.hid (RC.out.trans (c2.mono (by simp)))
        clear hw2 c2 b2
        go_upto_region 8 with fail
        rw [← W2.out]
        generalize wr.heap.size = s2 at *
        clear W2 z0 z1 z2 z3
        have y0 := cell_of B2.out 0
        have y1 := cell_of B2.out 1
        have y2 := cell_of B2.out 2
        have y3 := cell_of B2.out 3
        simp only [List.getElem?_toArray, List.getElem?_cons_succ, List.getElem?_cons_zero] at y0 y1 y2 y3
        have CC := Lib.hid (W1C.out w2 RC.out _ x e EX.out EE.out)
        go_wp2_with fail
        refine CC.out.mono ?_
        rintro r w3 ⟨rfl, hc⟩
        replace RO := Lib.hid (RO.out.chg hc (by simp))
        replace RC := Lib.hid (RC.out.trans (hc.mono (by simp)))
        replace B2 := Lib.hid (hc.at_ B2.out (by simp))
        clear hc CC y0 y1 y2 y3
        rcases ha : d e with _ | _
        · have FT : Hid ((es.take (j + 1)).filter (fun e => !d e) = (es.take j).filter (fun e => !d e) ++ [e]) := Lib.hid (by rw [filt_takeN EE.out]; simp [ha])
          clear ha
          have y0 := cell_of B2.out 0
          have y1 := cell_of B2.out 1
          have y2 := cell_of B2.out 2
          have y3 := cell_of B2.out 3
          simp only [List.getElem?_toArray, List.getElem?_cons_succ, List.getElem?_cons_zero] at y0 y1 y2 y3
          obtain ⟨u, hu⟩ : ∃ u, zs[i]? = some u := ⟨_, List.getElem?_eq_getElem (by rw [ZL.out.1]; omega)⟩
          obtain ⟨z0, z1, z2, z3⟩ := enCells RO.out.reads hu
          rw [Nat.zero_add] at z0 z1 z2 z3
          have F3 : ∀ j, w3.frozen? ⟨g, j, none⟩ = false := fun j => by
            rcases RO.out with ⟨h, _⟩ | ⟨g', full, e, hg, _⟩
            · cases h
            · cases e; exact free_of hg j
          have f0 := F3 (i * 4)
          have f1 := F3 (i * 4 + 1)
          have f2 := F3 (i * 4 + 2)
          have f3 := F3 (i * 4 + 3)
          have RO4 := Lib.hid (RO.out.setn4 i _ x hu)
          have RC4 := Lib.hid (RC.out.setn4 (g := g) (NA.out _ rfl) (i * 4) (.string x.p) (.int .i64 x.k) (.int .i64 x.m) (.slice x.A x.l x.c))
          have ZL4 : Hid ((zs.set i x).length = xs.length ∧ (zs.set i x).drop (j + 1) = xs.drop (j + 1)) := Lib.hid ⟨by rw [List.length_set]; exact ZL.out.1, by
            rw [List.drop_set_of_lt (by omega)]
            have := congrArg (List.drop 1) ZL.out.2
            simpa [List.drop_drop] using this⟩
          have RE4 : Hid (EnsR wb ((zs.set i x).take (i + 1)) ((es.take (j + 1)).filter (fun e => !d e))) := Lib.hid (by
            rw [FT.out, take_set_nextN (by rw [ZL.out.1]; omega)]
            exact RE.out.snoc RX.out)
          have ZS4 : Hid ((((zs.set i x).take (i + 1)).zip ((es.take (j + 1)).filter (fun e => !d e))).Sublist ((xs.zip es).take (j + 1))) := Lib.hid (by
            rw [FT.out, take_set_nextN (by rw [ZL.out.1]; omega), List.zip_append RE.out.1, zip_next EX.out EE.out]
            exact List.Sublist.append ZS.out (List.Sublist.refl _))
          clear F3 hu
          go_upto_region 10 with fail
          clear z0 z1 z2 z3 f0 f1 f2 f3 y0 y1 y2 y3
          generalize ((((w3.setCell ⟨g, i * 4, none⟩ (.string x.p)).setCell ⟨g, i * 4 + 1, none⟩ (.int .i64 x.k)).setCell ⟨g, i * 4 + 2, none⟩ (.int .i64 x.m)).setCell ⟨g, i * 4 + 3, none⟩ (.slice x.A x.l x.c)) = w4 at *
          go_wp2
          go_round
          case rel => exact ⟨i + 1, j + 1, zs.set i x, by omega, by omega, by go_num, by go_num, ZL4, RE4, ZS4, RO4, RC4⟩
          case measure => simp [RowKit.intOf]; omega
        · have FT : Hid ((es.take (j + 1)).filter (fun e => !d e) = (es.take j).filter (fun e => !d e)) := Lib.hid (by rw [filt_takeN EE.out]; simp [ha])
          clear ha
          have ZL4 : Hid (zs.length = xs.length ∧ zs.drop (j + 1) = xs.drop (j + 1)) := Lib.hid ⟨ZL.out.1, by
            have := congrArg (List.drop 1) ZL.out.2
            simpa [List.drop_drop] using this⟩
          rw [← FT.out] at RE ZS
          have ZS4 := Lib.hid (ZS.out.trans (take_sub_next _ _))
          clear ZS
          go_wp2
          go_round
          case rel => exact ⟨i, j + 1, zs, by omega, by omega, rfl, by go_num, ZL4, RE, ZS4, RO, RC⟩
          case measure => simp [RowKit.intOf]; omega
      · obtain rfl : j = xs.length := by omega
        have j1 : ¬ (xs.length : Int) < (xs.length : Int) := by omega
        have ET : es.take xs.length = es := by rw [HX.out.1]; exact List.take_length
        rw [ET] at RE ZS
        have ZE : Hid ((xs.zip es).take xs.length = xs.zip es) := Lib.hid (List.take_of_length_le (by rw [List.length_zip]; omega))
        rw [ZE.out] at ZS
        clear ET ZE
        obtain ⟨full, hg, hfl, hcm, hzl, hft⟩ : ∃ full, wr.heap[g]? = some (.cells (enTy.flat full).toArray 55 (0, 0)) ∧ full.length = c ∧ c ≤ maxLen ∧ zs.length ≤ c ∧ full.take zs.length = zs := by
          rcases RO.out with ⟨h, _⟩ | ⟨g', full, e, hg, h1, h2, h3, h4⟩
          · cases h
          · cases e; exact ⟨full, hg, h1, h2, h3, h4⟩
        have il : i < xs.length := by omega
        have nc : xs.length ≤ c := by rw [← ZL.out.1]; exact hzl
        have hcl := fun ty => run_clearN wr ty g c xs.length i full hg hfl nc il
        have hown := OwnK.of (R := enTy) (w := wr.setRow g (enTy.flat (full.take i ++ (List.replicate (xs.length - i) enTy.z ++ full.drop xs.length))).toArray) (g := g) (c := c) (full := full.take i ++ (List.replicate (xs.length - i) enTy.z ++ full.drop xs.length)) (xs := zs.take i) (setRow_heap wr g _ _ _ _ hg) (by rw [List.length_take, ZL.out.1]; omega) hcm (by simp; omega) (by
          have e1 : (zs.take i).length = i := by rw [List.length_take, ZL.out.1]; omega
          rw [e1, List.take_append_of_le_length (by rw [List.length_take, hfl]; omega), List.take_take, Nat.min_self, ← hft, List.take_take, Nat.min_eq_left (by rw [ZL.out.1]; omega)])
        have hch : Chg S0 w0 (wr.setRow g (enTy.flat (full.take i ++ (List.replicate (xs.length - i) enTy.z ++ full.drop xs.length))).toArray) := RC.out.trans' (S' := [g]) ⟨rfl, rfl, rfl, by simp, fun j hj hn => setRow_other wr g j _ (by simpa using hn)⟩ (fun j hj => by simp at hj; subst hj; exact NA.out _ rfl)
        have HE := Lib.hid (And.intro hown hch)
        have IL : Hid ((zs.take i).length = i) := Lib.hid (by rw [List.length_take, ZL.out.1]; omega)
        have j7 : (i : Int) ≤ (xs.length : Int) := by omega
        have j8 : (i : Int) ≤ (c : Int) := by omega
        have j9 : i ≤ xs.length := by omega
        have j6 : ¬ c = i := by omega
        clear hown hch hg hfl hcm hzl hft
        go_wp2
        go_ret
        exact ⟨zs.take i, by rw [IL.out]; rfl, by rw [IL.out]; omega, RE.out, ZS.out, HE.out.1, HE.out.2⟩
end
section
open Go.RowKit Go.Lib
set_option linter.unusedSimpArgs false
set_option linter.unusedVariables false

/-- Where the first of a path is; -1: none is. -/
def findT (t : List EnP) (p : List UInt8) : Int → Prop := IdxN t (fun e => decide (e.p = p))
set_option maxRecDepth 100000 in
set_option maxHeartbeats 4000000 in
theorem tbfind1_any (w : World) (x : EnT) (e : EnP) (h : EnR w x e) (gb : Nat) (p : List UInt8) (hb : w.heap[gb]? = some (.cells #[.string (strOf p)] 9 (0, 0))) :
    Calls Tryz.prog 82 #[.agg #[.string x.p, .int .i64 x.k, .int .i64 x.m, .slice x.A x.l x.c], .pointer (some ⟨gb, 0, none⟩)] w fun r w' => r = .returned (.bool (decide (e.p = p))) ∧ Chg [] w w' := by
  obtain ⟨w1, hw, hc, b0⟩ := news1 w (.cells #[.string x.p, .int .i64 x.k, .int .i64 x.m, .slice x.A x.l x.c] 55)
  have W1 := Lib.hid hw
  have C := Lib.hid hc
  have y0 := cell_of (hc.at_ hb (by simp)) 0
  have z0 := cell_of b0 0
  have z1 := cell_of b0 1
  have z2 := cell_of b0 2
  have z3 := cell_of b0 3
  simp only [List.getElem?_toArray, List.getElem?_cons_succ, List.getElem?_cons_zero] at y0 z0 z1 z2 z3
  have XP : Hid (x.p = strOf e.p) := Lib.hid h.p
  generalize hv : decide (e.p = p) = v
  have HV := Lib.hid hv
  clear hw hc b0 h hb hv
  go_enter Tryz.func82, Tryz.ntmps82
  go_upto_region 1 with fail
  rw [← W1.out]
  generalize w.heap.size = g0 at *
  clear W1
  rw [XP.out] at z0
  by_cases hp : e.p = p
  · obtain rfl : v = true := by rw [← HV.out]; exact decide_eq_true hp
    have e1 : ((e.p == p) : Bool) = true := by simpa using hp
    clear hp HV
    go_wp2
    go_ret
    exact ⟨rfl, C.out⟩
  · obtain rfl : v = false := by rw [← HV.out]; exact decide_eq_false hp
    have e1 : ((e.p == p) : Bool) = false := by simpa using hp
    clear hp HV
    go_wp2
    go_ret
    exact ⟨rfl, C.out⟩
set_option maxRecDepth 100000 in
set_option maxHeartbeats 4000000 in
theorem tbfind_any (w : World) (A : Option Addr) (c : Nat) (xs : List EnT) (es : List EnP) (p : List UInt8) (h : RdK enTy w A xs.length xs) (hx : EnsR w xs es) (hn : xs.length ≤ 100000) :
    Calls Tryz.prog 40 #[.slice A xs.length c, .string (strOf p)] w fun r w' => (∃ v : Int, r = .returned (.int .i64 v) ∧ findT es p v) ∧ Chg [] w w' := by
  obtain ⟨w1, hw, hc, b0⟩ := news1 w (.cells #[.string (strOf p)] 9)
  have W1 := Lib.hid hw
  have C := Lib.hid hc
  have IX := Lib.hid (enfindex_any w1 A c xs es 82 #[.pointer (some ⟨w.heap.size, 0, none⟩)] (fun e => decide (e.p = p)) (enters_of Tryz.func82 (by kernel_rfl) rfl) (h.chg hc (by simp)) (hx.chg hc) hn (fun wr hcc i x e ex ee => tbfind1_any wr x e ((hx.2 i x e ex ee).chg (hc.trans hcc)) w.heap.size p (hcc.at_ b0 (by simp))))
  clear hw hc b0 h hx hn
  go_enter Tryz.func40, Tryz.ntmps40
  go_upto_region 1 with fail
  rw [← W1.out]
  generalize w.heap.size = g0 at *
  clear W1
  go_wp2_with fail
  refine IX.out.mono ?_
  rintro r w2 ⟨⟨v, rfl, hv⟩, hc⟩
  have HV := Lib.hid hv
  have C2 := Lib.hid (C.out.trans hc)
  clear hv hc IX
  go_wp2
  go_ret
  exact ⟨⟨v, rfl, HV.out⟩, C2.out⟩
end
section
open Go.RowKit Go.Lib
set_option linter.unusedSimpArgs false
set_option linter.unusedVariables false

theorem en4_3 {w : World} {g : Nat} {a0 a1 a2 a3 : Value} {T : TypeId} (v1 v2 v3 : Value) (h : w.heap[g]? = some (.cells #[a0, a1, a2, a3] T (0, 0))) :
    (((w.setCell ⟨g, 1, none⟩ v1).setCell ⟨g, 2, none⟩ v2).setCell ⟨g, 3, none⟩ v3).heap[g]? = some (.cells #[a0, v1, v2, v3] T (0, 0)) ∧ Chg [g] w (((w.setCell ⟨g, 1, none⟩ v1).setCell ⟨g, 2, none⟩ v2).setCell ⟨g, 3, none⟩ v3) := by
  have p1 := heap_setCell_same _ g 1 _ _ v1 h
  have p2 := heap_setCell_same _ g 2 _ _ v2 p1
  have p3 := heap_setCell_same _ g 3 _ _ v3 p2
  exact ⟨by simpa using p3, (((Chg.refl [g] w).setCell (p := ⟨g, 1, none⟩) (.inl (by simp)) v1).setCell (p := ⟨g, 2, none⟩) (.inl (by simp)) v2).setCell (p := ⟨g, 3, none⟩) (.inl (by simp)) v3⟩
theorem en4_all {w : World} {g : Nat} {a0 a1 a2 a3 : Value} {T : TypeId} (v0 v1 v2 v3 : Value) (h : w.heap[g]? = some (.cells #[a0, a1, a2, a3] T (0, 0))) :
    ((((w.setCell ⟨g, 0, none⟩ v0).setCell ⟨g, 1, none⟩ v1).setCell ⟨g, 2, none⟩ v2).setCell ⟨g, 3, none⟩ v3).heap[g]? = some (.cells #[v0, v1, v2, v3] T (0, 0)) ∧ Chg [g] w ((((w.setCell ⟨g, 0, none⟩ v0).setCell ⟨g, 1, none⟩ v1).setCell ⟨g, 2, none⟩ v2).setCell ⟨g, 3, none⟩ v3) := by
  have p0 := heap_setCell_same _ g 0 _ _ v0 h
  have p1 := heap_setCell_same _ g 1 _ _ v1 p0
  have p2 := heap_setCell_same _ g 2 _ _ v2 p1
  have p3 := heap_setCell_same _ g 3 _ _ v3 p2
  exact ⟨by simpa using p3, ((((Chg.refl [g] w).setCell (p := ⟨g, 0, none⟩) (.inl (by simp)) v0).setCell (p := ⟨g, 1, none⟩) (.inl (by simp)) v1).setCell (p := ⟨g, 2, none⟩) (.inl (by simp)) v2).setCell (p := ⟨g, 3, none⟩) (.inl (by simp)) v3⟩
set_option maxRecDepth 100000 in
set_option maxHeartbeats 8000000 in
/-- A copy of an entry, in memory of its own. -/
theorem fren_any (w : World) (x : EnT) (e : EnP) (h : EnR w x e) (hs : e.b.length ≤ 140737488351232) :
    Calls Tryz.prog 78 #[.agg #[.string x.p, .int .i64 x.k, .int .i64 x.m, .slice x.A x.l x.c]] w fun r w' => ∃ X : EnT, r = .returned (.agg #[.string X.p, .int .i64 X.k, .int .i64 X.m, .slice X.A X.l X.c]) ∧ EnR w' X e ∧ OwnB w' X.A X.c e.b ∧ (∀ a, X.A = some a → w.heap.size ≤ a.block) ∧ Chg [] w w' := by
  obtain ⟨w2, hw, hc, b0, b1⟩ := news2 w (.cells #[.string x.p, .int .i64 x.k, .int .i64 x.m, .slice x.A x.l x.c] 55) (.cells #[.string ⟨#[]⟩, .int .i64 0, .int .i64 0, .slice none 0 0] 55)
  have W2 := Lib.hid hw
  have HR := Lib.hid (h.chg hc)
  have C := Lib.hid hc
  have HS := Lib.hid (show x.l ≤ 140737488351232 by rw [h.l]; exact hs)
  obtain ⟨g0, hg0⟩ : ∃ g, w.heap.size = g := ⟨_, rfl⟩
  obtain ⟨g1, hg1⟩ : ∃ g, w.heap.size + 1 = g := ⟨_, rfl⟩
  rw [hg0] at b0
  rw [hg1] at b1
  have S1 := Lib.hid hg1
  have SZ := Lib.hid hg0
  have B0 := Lib.hid b0
  have B1 := Lib.hid b1
  have L0 := Lib.hid (lt_of_heap b0)
  have L1 := Lib.hid (lt_of_heap b1)
  have NE : Hid (g1 ≠ g0) := Lib.hid (by omega)
  have NE' : Hid (g0 ≠ g1) := Lib.hid (by omega)
  clear hw hc b0 b1 h hs hg0 hg1
  go_enter Tryz.func78, Tryz.ntmps78
  go_upto_region 1 with fail
  rw [← W2.out, S1.out, SZ.out]
  clear W2
  have z0 := cell_of B0.out 0
  have fz0 := free_of B0.out 0
  have z1 := cell_of B0.out 1
  have fz1 := free_of B0.out 1
  have z2 := cell_of B0.out 2
  have fz2 := free_of B0.out 2
  have z3 := cell_of B0.out 3
  have fz3 := free_of B0.out 3
  simp only [List.getElem?_toArray, List.getElem?_cons_succ, List.getElem?_cons_zero] at z0 z1 z2 z3
  go_wp2_with fail
  refine (freff_any w2 x.k x.m x.A x.l x.c e.b HR.out.A HS.out).mono ?_
  rintro r w3 ⟨A3, c3, rfl, h3⟩
  clear z0 z1 z2 z3 fz0 fz1 fz2 fz3
  replace B0 := Lib.hid (h3.2.2.at_ B0.out (by simp))
  replace B1 := Lib.hid (h3.2.2.at_ B1.out (by simp))
  have O3 := Lib.hid h3.1
  have N3 := Lib.hid h3.2.1
  have S2 := Lib.hid C.out.size
  replace C := Lib.hid (C.out.trans h3.2.2)
  have LT3 : Hid (∀ a, A3 = some a → a.block ≠ g0 ∧ a.block ≠ g1) := Lib.hid (fun a ha => by
    have q := N3.out a ha
    have r0 := L0.out
    have r1 := L1.out
    omega)
  clear h3
  have z0 := cell_of B0.out 0
  have fz0 := free_of B0.out 0
  have z1 := cell_of B0.out 1
  have fz1 := free_of B0.out 1
  have z2 := cell_of B0.out 2
  have fz2 := free_of B0.out 2
  have z3 := cell_of B0.out 3
  have fz3 := free_of B0.out 3
  simp only [List.getElem?_toArray, List.getElem?_cons_succ, List.getElem?_cons_zero] at z0 z1 z2 z3
  go_upto_region 2 with fail
  clear z0 z1 z2 z3 fz0 fz1 fz2 fz3
  obtain ⟨p0, pc⟩ := en4_3 (.int .i64 x.k) (.int .i64 x.m) (.slice A3 x.l c3) B0.out
  replace B0 := Lib.hid p0
  replace B1 := Lib.hid (pc.at_ B1.out (by have := NE.out; simpa using this))
  have O4 := Lib.hid (O3.out.chg pc (fun a ha => by simp; exact (LT3.out a ha).1))
  replace C := Lib.hid (C.out.trans' pc (fun i hi => .inr (by have := SZ.out; simp at hi; omega)))
  clear p0 pc O3
  obtain ⟨w4, hW⟩ : ∃ w9 : World, (((w3.setCell ⟨g0, 1, none⟩ (.int .i64 x.k)).setCell ⟨g0, 2, none⟩ (.int .i64 x.m)).setCell ⟨g0, 3, none⟩ (.slice A3 x.l c3)) = w9 := ⟨_, rfl⟩
  rw [hW] at B0 B1 O4 C ⊢
  clear hW
  have z0 := cell_of B0.out 0
  have fz0 := free_of B0.out 0
  have z1 := cell_of B0.out 1
  have fz1 := free_of B0.out 1
  have z2 := cell_of B0.out 2
  have fz2 := free_of B0.out 2
  have z3 := cell_of B0.out 3
  have fz3 := free_of B0.out 3
  simp only [List.getElem?_toArray, List.getElem?_cons_succ, List.getElem?_cons_zero] at z0 z1 z2 z3
  have y0 := cell_of B1.out 0
  have fy0 := free_of B1.out 0
  have y1 := cell_of B1.out 1
  have fy1 := free_of B1.out 1
  have y2 := cell_of B1.out 2
  have fy2 := free_of B1.out 2
  have y3 := cell_of B1.out 3
  have fy3 := free_of B1.out 3
  simp only [List.getElem?_toArray, List.getElem?_cons_succ, List.getElem?_cons_zero] at y0 y1 y2 y3
  go_wp2
  clear z0 z1 z2 z3 fz0 fz1 fz2 fz3
  clear y0 y1 y2 y3 fy0 fy1 fy2 fy3
  obtain ⟨p0, pc⟩ := en4_all (.string x.p) (.int .i64 x.k) (.int .i64 x.m) (.slice A3 x.l c3) B1.out
  replace B1 := Lib.hid p0
  have O5 := Lib.hid (O4.out.chg pc (fun a ha => by simp; exact (LT3.out a ha).2))
  replace C := Lib.hid (C.out.trans' pc (fun i hi => .inr (by have := S1.out; simp at hi; omega)))
  clear p0 pc O4
  obtain ⟨w5, hW⟩ : ∃ w9 : World, ((((w4.setCell ⟨g1, 0, none⟩ (.string x.p)).setCell ⟨g1, 1, none⟩ (.int .i64 x.k)).setCell ⟨g1, 2, none⟩ (.int .i64 x.m)).setCell ⟨g1, 3, none⟩ (.slice A3 x.l c3)) = w9 := ⟨_, rfl⟩
  rw [hW] at B1 O5 C ⊢
  clear hW
  have y0 := cell_of B1.out 0
  have y1 := cell_of B1.out 1
  have y2 := cell_of B1.out 2
  have y3 := cell_of B1.out 3
  simp only [List.getElem?_toArray, List.getElem?_cons_succ, List.getElem?_cons_zero] at y0 y1 y2 y3
  refine bodyPost_ret (v := .agg #[.string x.p, .int .i64 x.k, .int .i64 x.m, .slice A3 x.l c3]) (by simp [results, Tryz.results78, go_sem, y0, y1, y2, y3]) rfl ?_
  exact ⟨⟨x.p, x.k, x.m, A3, x.l, c3⟩, rfl, ⟨HR.out.p, HR.out.k, HR.out.m, HR.out.l, by have q := O5.out.reads; rw [← HR.out.l] at q; exact q⟩, O5.out, fun a ha => Nat.le_trans S2.out (N3.out a ha), C.out⟩
end
section
open Go.RowKit Go.Lib
set_option linter.unusedSimpArgs false
set_option linter.unusedVariables false

theorem find_get {es : List EnP} {p : List UInt8} {v : Int} (h : findT es p v) : (v = -1 ∧ getT es p = none) ∨ ∃ (k : Nat) (e : EnP), v = k ∧ es[k]? = some e ∧ getT es p = some e := by
  rcases h with ⟨h1, h2⟩ | ⟨k, e, h1, h2, h3, h4⟩
  · refine .inl ⟨h1, get_none.2 (fun e he q => ?_)⟩
    have := h2 e he
    simp only [decide_eq_false_iff_not] at this
    exact this q
  · refine .inr ⟨k, e, h1, h2, ?_⟩
    unfold getT
    have hk := (List.getElem?_eq_some_iff.1 h2).1
    rw [← List.take_append_drop k es, List.find?_append, List.find?_eq_none.2 (fun x hx => by have := h4 x hx; simpa using this)]
    have hd : es.drop k = e :: es.drop (k + 1) := by
      rw [List.drop_eq_getElem_cons hk, (List.getElem?_eq_some_iff.1 h2).2]
    have h5 : decide (e.p = p) = true := h3
    rw [hd, List.find?_cons, h5]
    rfl
end
section
open Go.RowKit Go.Lib
set_option linter.unusedSimpArgs false
set_option linter.unusedVariables false

set_option maxRecDepth 100000 in
set_option maxHeartbeats 4000000 in
theorem tbany1_any (w : World) (x : EnT) (e : EnP) (h : EnR w x e) (hs : e.p.length ≤ 10000000) (gb : Nat) (p : List UInt8) (hp : p.length ≤ 10000000) (hb : w.heap[gb]? = some (.cells #[.string (strOf p)] 9 (0, 0))) :
    Calls Tryz.prog 107 #[.agg #[.string x.p, .int .i64 x.k, .int .i64 x.m, .slice x.A x.l x.c], .pointer (some ⟨gb, 0, none⟩)] w fun r w' => r = .returned (.bool (underL p e.p)) ∧ Chg [] w w' := by
  obtain ⟨w1, hw, hc, b0⟩ := news1 w (.cells #[.string x.p, .int .i64 x.k, .int .i64 x.m, .slice x.A x.l x.c] 55)
  have W1 := Lib.hid hw
  have C := Lib.hid hc
  have y0 := cell_of (hc.at_ hb (by simp)) 0
  have z0 := cell_of b0 0
  have z1 := cell_of b0 1
  have z2 := cell_of b0 2
  have z3 := cell_of b0 3
  simp only [List.getElem?_toArray, List.getElem?_cons_succ, List.getElem?_cons_zero] at y0 z0 z1 z2 z3
  have UX : Hid (∀ w', Calls Tryz.prog 30 #[.string (strOf p), .string x.p] w' fun r w2 => r = .returned (.bool (underL p e.p)) ∧ Chg [] w' w2) := Lib.hid (fun w' => by
    rw [h.p]
    exact (phunder_any w' p e.p (by omega) (by omega)).mono fun r w2 ⟨a, b⟩ => ⟨a, below_chgN b⟩)
  clear hw hc b0 h hb hs hp
  go_enter Tryz.func107, Tryz.ntmps107
  go_upto_region 1 with fail
  rw [← W1.out]
  generalize w.heap.size = g0 at *
  clear W1
  go_wp2_with fail
  refine (UX.out w1).mono ?_
  rintro r w2 ⟨rfl, hc⟩
  replace C := Lib.hid (C.out.trans hc)
  clear hc UX y0 z0 z1 z2 z3
  go_wp2
  go_ret
  exact ⟨rfl, C.out⟩
set_option maxRecDepth 100000 in
set_option maxHeartbeats 4000000 in
theorem tbany_any (w : World) (A : Option Addr) (c : Nat) (xs : List EnT) (es : List EnP) (p : List UInt8) (hp : p.length ≤ 10000000) (h : RdK enTy w A xs.length xs) (hx : EnsR w xs es) (hn : xs.length ≤ 100000) (hs : ∀ e ∈ es, e.p.length ≤ 10000000) :
    Calls Tryz.prog 76 #[.slice A xs.length c, .string (strOf p)] w fun r w' => r = .returned (.bool (anyT es p)) ∧ Chg [] w w' := by
  obtain ⟨w1, hw, hc, b0⟩ := news1 w (.cells #[.string (strOf p)] 9)
  have W1 := Lib.hid hw
  have C := Lib.hid hc
  have IX := Lib.hid (enfcontains_any w1 A c xs es 107 #[.pointer (some ⟨w.heap.size, 0, none⟩)] (fun e => underL p e.p) (enters_of Tryz.func107 (by kernel_rfl) rfl) (h.chg hc (by simp)) (hx.chg hc) hn (fun wr hcc i x e ex ee => tbany1_any wr x e ((hx.2 i x e ex ee).chg (hc.trans hcc)) (hs e (List.mem_of_getElem? ee)) w.heap.size p hp (hcc.at_ b0 (by simp))))
  clear hw hc b0 h hx hn hs hp
  go_enter Tryz.func76, Tryz.ntmps76
  go_upto_region 1 with fail
  rw [← W1.out]
  generalize w.heap.size = g0 at *
  clear W1
  go_wp2_with fail
  refine IX.out.mono ?_
  rintro r w2 ⟨rfl, hc⟩
  have C2 := Lib.hid (C.out.trans hc)
  clear hc IX
  go_wp2
  go_ret
  exact ⟨rfl, C2.out⟩
set_option maxRecDepth 100000 in
set_option maxHeartbeats 4000000 in
theorem tbparent_any (w : World) (A : Option Addr) (c : Nat) (xs : List EnT) (es : List EnP) (p : List UInt8) (hp : p.length ≤ 10000000) (h : RdK enTy w A xs.length xs) (hx : EnsR w xs es) (hn : xs.length ≤ 100000) :
    Calls Tryz.prog 72 #[.slice A xs.length c, .string (strOf p)] w fun r w' => r = .returned (.int .i64 (parT es p)) ∧ Chg [] w w' := by
  have HA := Lib.hid h
  have HX := Lib.hid hx
  have PX : Hid (Calls Tryz.prog 43 #[.string (strOf p)] w fun r w2 => r = .returned (.tuple #[.string (strOf (parentL p)), .bool (hasParent p)]) ∧ Chg [] w w2) := Lib.hid ((phparent_any w p (by omega)).mono fun r w2 ⟨a, b⟩ => ⟨a, below_chgN b⟩)
  have FI : Hid (∀ w', Chg [] w w' → Calls Tryz.prog 40 #[.slice A xs.length c, .string (strOf (parentL p))] w' fun r w2 => (∃ v : Int, r = .returned (.int .i64 v) ∧ findT es (parentL p) v) ∧ Chg [] w' w2) := Lib.hid (fun w' hc => tbfind_any w' A c xs es (parentL p) (h.chg hc (by simp)) (hx.chg hc) hn)
  generalize hv : parT es p = v
  have HV := Lib.hid hv
  clear h hx hn hp hv
  go_enter Tryz.func72, Tryz.ntmps72
  go_wp2_with fail
  refine PX.out.mono ?_
  rintro r w1 ⟨rfl, hc⟩
  have C := Lib.hid hc
  clear hc PX
  rcases hh : hasParent p with _ | _
  · obtain rfl : v = 0 := by rw [← HV.out]; unfold parT; rw [hh]; rfl
    clear hh HV
    go_wp2
    go_ret
    exact ⟨rfl, C.out⟩
  have HP := Lib.hid hh
  clear hh
  go_wp2_with fail
  refine (FI.out w1 C.out).mono ?_
  rintro r w2 ⟨⟨u, rfl, hu⟩, hc⟩
  have FV := Lib.hid (find_get hu)
  replace C := Lib.hid (C.out.trans hc)
  clear hu hc FI
  rcases FV.out with ⟨rfl, hg⟩ | ⟨k, e, rfl, ek, hg⟩
  · obtain rfl : v = 6 := by rw [← HV.out]; unfold parT; rw [HP.out, hg]; rfl
    clear hg FV HV
    go_wp2
    go_ret
    exact ⟨rfl, C.out⟩
  · have kl : k < xs.length := by rw [HX.out.1]; exact (List.getElem?_eq_some_iff.1 ek).1
    obtain ⟨x, e', ex, ee, rx⟩ := HX.out.at_ kl
    rw [ek] at ee
    cases ee
    obtain ⟨g, o, eA, _⟩ := HA.out.line (by omega)
    subst eA
    obtain ⟨z0, z1, z2, z3⟩ := enCells (HA.out.chg C.out (by simp)) ex
    have KE : Hid (x.k = e.k) := Lib.hid rx.k
    have VE : Hid (v = if e.k = 2 then 0 else 12) := Lib.hid (by rw [← HV.out]; unfold parT; rw [HP.out, hg]; rfl)
    have k0 : (0 : Int) ≤ (k : Int) := by omega
    have k1 : (k : Int) < (xs.length : Int) := by omega
    have k2 : ¬ (k : Int) < 0 := by omega
    clear hg FV ek ex rx kl HV
    by_cases hk : x.k = 2
    · have h1 : ((x.k == 2) : Bool) = true := by simpa using hk
      have h2 : ((x.k != 2) : Bool) = false := by unfold bne; rw [h1]; rfl
      obtain rfl : v = 0 := by rw [VE.out, if_pos (KE.out ▸ hk)]
      clear hk VE
      go_wp2
      go_ret
      exact ⟨rfl, C.out⟩
    · have h1 : ((x.k == 2) : Bool) = false := by simpa using hk
      have h2 : ((x.k != 2) : Bool) = true := by unfold bne; rw [h1]; rfl
      obtain rfl : v = 12 := by rw [VE.out, if_neg (fun q => hk (KE.out.trans q))]
      clear hk VE
      go_wp2
      go_ret
      exact ⟨rfl, C.out⟩
end
section
open Go.RowKit Go.Lib
set_option linter.unusedSimpArgs false
set_option linter.unusedVariables false

/-- The first k entries are as those of a tree. -/
def PreT (t : List EnP) (k : Nat) : Prop := (∀ e ∈ t.take k, Stands e) ∧ (t.take k).Pairwise ltT ∧ ∀ e ∈ t.take k, parT t e.p = 0
theorem PreT.zero (t : List EnP) : PreT t 0 := ⟨by simp, by simp, by simp⟩
theorem PreT.next {t : List EnP} {k : Nat} {e : EnP} (h : PreT t k) (he : t[k]? = some e) (hs : Stands e) (hl : ∀ f, 0 < k → t[k - 1]? = some f → ltT f e) (hp : parT t e.p = 0) : PreT t (k + 1) := by
  have ht : t.take (k + 1) = t.take k ++ [e] := by rw [List.take_add_one, he]; rfl
  unfold PreT
  rw [ht]
  refine ⟨fun y hy => ?_, ?_, fun y hy => ?_⟩
  · rcases List.mem_append.1 hy with q | q
    · exact h.1 y q
    · simp at q; rw [q]; exact hs
  · rw [List.pairwise_append]
    refine ⟨h.2.1, List.pairwise_singleton _ _, fun y hy z hz => ?_⟩
    simp at hz
    subst hz
    obtain ⟨i, hi, rfl⟩ := List.getElem_of_mem hy
    have hk : 0 < k := by rw [List.length_take] at hi; omega
    have kl := (List.getElem?_eq_some_iff.1 he).1
    have hkl : k - 1 < (t.take k).length := by rw [List.length_take]; omega
    have hlast : ltT ((t.take k)[k - 1]) z := by
      have e1 : (t.take k)[k - 1] = t[k - 1] := by rw [List.getElem_take]
      rw [e1]
      exact hl _ hk (List.getElem?_eq_getElem (by omega))
    by_cases q : i = k - 1
    · subst q; exact hlast
    · exact ltT_tr _ _ _ (List.pairwise_iff_getElem.1 h.2.1 i (k - 1) hi hkl (by rw [List.length_take] at hi; omega)) hlast
  · rcases List.mem_append.1 hy with q | q
    · exact h.2.2 y q
    · simp at q; rw [q]; exact hp
theorem PreT.all {t : List EnP} (h : PreT t t.length) : TabOk t := by
  unfold PreT at h
  rw [List.take_length] at h
  exact ⟨h.1, h.2.1, fun e he hp => parT_zero (h.2.2 e he) hp⟩
theorem tab_at {t : List EnP} (h : TabOk t) {k : Nat} {e : EnP} (he : t[k]? = some e) : Stands e ∧ (∀ f, 0 < k → t[k - 1]? = some f → ltT f e) ∧ parT t e.p = 0 := by
  have m := List.mem_of_getElem? he
  refine ⟨h.1 e m, fun f hk hf => ?_, parT_of h.2.1 (h.2.2 e m)⟩
  obtain ⟨l1, e1⟩ := List.getElem?_eq_some_iff.1 hf
  obtain ⟨l2, e2⟩ := List.getElem?_eq_some_iff.1 he
  have := List.pairwise_iff_getElem.1 h.2.1 (k - 1) k l1 l2 (by omega)
  rwa [e1, e2] at this
end
section
open Go.RowKit Go.Lib Go.Maps
set_option linter.unusedSimpArgs false
set_option linter.unusedVariables false

theorem law_text : Keyed Tryz.prog 9 := string_keyed Tryz.underlying9
theorem zero_unit (w : World) : (zeroValue 68).run Tryz.prog w = .ok (.agg #[]) w := Tryz.zeroValue68 w
theorem keyText (l : List UInt8) (h : l.length ≤ maxLen) : keyOf Tryz.prog 9 (.string (strOf l)) = some (.string l) := by
  have := Go.WideMaps.keyOf_string_mk Tryz.underlying9 (s := strOf l) (by simpa [strOf, ByteArray.size] using h)
  rw [this]
  simp [strOf]
def textSet (ps : List (List UInt8)) : DataW Unit := Go.Maps.setOf (.agg []) (ps.map (fun p => Lit.string p))
theorem textSet_snoc (ps : List (List UInt8)) (p : List UInt8) : textSet (ps ++ [p]) = (textSet ps).put (.string p) (.agg []) := by
  unfold textSet
  rw [List.map_append]
  exact Go.Maps.setOf_snoc _ _ _
theorem textSet_has (ps : List (List UInt8)) (p : List UInt8) : Go.Maps.has (textSet ps) (.string p) = decide (p ∈ ps) := by
  unfold textSet
  rw [Go.Maps.has_setOf _ _ _ (fun x hx => by obtain ⟨q, _, rfl⟩ := List.mem_map.1 hx; trivial), Bool.eq_iff_iff, List.any_eq_true, decide_eq_true_eq]
  constructor
  · rintro ⟨x, hx, hs⟩
    obtain ⟨q, hq, rfl⟩ := List.mem_map.1 hx
    have := WideAt.sameKey_eq hs
    cases this
    exact hq
  · intro h
    exact ⟨.string p, List.mem_map.2 ⟨p, h, rfl⟩, WideAt.sameKey_self trivial⟩
theorem ownsMap_chg {H : Type} {w w' : World} {S : List Nat} {P : Program} {k : TypeId} {R : Value → Option (DataW H × List MemPlace)} {b n : Nat} {D : DataW H} (h : w.ownsMap P k R b n D) (hc : Chg S w w') (hb : b ∉ S) : w'.ownsMap P k R b n D := by
  obtain ⟨es, clock, q, r⟩ := h
  exact ⟨es, clock, hc.at_ q hb, r⟩
end
end Go.Proofs.YtimdfpejgaidhaaGreatDoor
