/- The document's Send. The document's Tick. -/
import Derived.Test.YtmblalcigbghfaaSgg
namespace Go.Proofs.Ytmblalcigbghfaa
section
open Go.RowKit Go.Lib
set_option linter.unusedSimpArgs false
set_option linter.unusedVariables false


theorem dsend_long (w : World) (b : Nat) (d : DV) (h : DH w b d) (B : Option Addr) (n c : Nat) (hn : 400 < n) (hn2 : n ≤ 140737488351232) : Calls Try.prog 34 #[.pointer (some ⟨b, 0, none⟩), .slice B n c] w fun e w' => e = .returned (.int .i64 3) ∧ w' = w := by
  have i1 : (400 : Int) < (n : Int) := by omega
  clear h
  go_enter Try.func34, Try.ntmps34
  go_wp2
  go_ret
  exact ⟨rfl, rfl⟩
theorem dsend_state (w : World) (b : Nat) (d : DV) (h : DH w b d) (B : Option Addr) (n c : Nat) (hn : ¬ 400 < n) (hp : d.ot = 0) : Calls Try.prog 34 #[.pointer (some ⟨b, 0, none⟩), .slice B n c] w fun e w' => e = .returned (.int .i64 9) ∧ w' = w := by
  have i1 : ¬ (400 : Int) < (n : Int) := by omega
  obtain ⟨_, z1, _⟩ := h.get
  rw [hp] at z1
  clear h hp
  go_enter Try.func34, Try.ntmps34
  go_wp2
  go_ret
  exact ⟨rfl, rfl⟩
theorem dsend_full (w : World) (b : Nat) (d : DV) (h : DH w b d) (B : Option Addr) (n c : Nat) (hn : ¬ 400 < n) (hp : ¬ d.ot = 0) (hq : 8 ≤ d.n) : Calls Try.prog 34 #[.pointer (some ⟨b, 0, none⟩), .slice B n c] w fun e w' => e = .returned (.int .i64 8) ∧ w' = w := by
  have i1 : ¬ (400 : Int) < (n : Int) := by omega
  have i2 : (8 : Int) ≤ (d.n : Int) := by omega
  obtain ⟨_, z1, z2, _⟩ := h.get
  clear h
  go_enter Try.func34, Try.ntmps34
  go_wp2
  go_ret
  exact ⟨rfl, rfl⟩

set_option maxHeartbeats 8000000 in
set_option maxRecDepth 100000 in
theorem dsend_ok (w : World) (b : Nat) (d : DV) (h : DH w b d) (lq : List SentV) (ho : OwnO sentTy w d.A d.c lq) (hl : lq.length = d.n) (hf : ∀ x, d.A = some x → x.block ≠ b) (B : Option Addr) (n c : Nat) (ys : List UInt8) (hr : Bs w B n ys) (hn : ¬ 400 < n) (hp : ¬ d.ot = 0) (hq : d.n < 8) : Calls Try.prog 34 #[.pointer (some ⟨b, 0, none⟩), .slice B n c] w fun e w' => ∃ A4 c4 A6 c6, e = .returned (.int .i64 0) ∧ DH w' b { d with A := A6, n := d.n + 1, c := c6 } ∧ OwnO sentTy w' A6 c6 (lq ++ [(A4, n, c4, -1)]) ∧ OwnB w' A4 c4 ys ∧ (∀ x, A4 = some x → w.heap.size ≤ x.block) ∧ (∀ x, A6 = some x → d.A = some x ∨ w.heap.size ≤ x.block) ∧ Chg (b :: blkOf d.A) w w' := by
  have i1 : ¬ (400 : Int) < (n : Int) := by omega
  have i2 : ¬ (8 : Int) ≤ (d.n : Int) := by omega
  obtain ⟨_, z1, z2, _⟩ := h.get
  have H := Lib.hid h
  have HR := Lib.hid hr
  have HO := Lib.hid ho
  have HN := Lib.hid (show lq.length = d.n ∧ d.n < 8 ∧ n ≤ 400 from ⟨hl, hq, by omega⟩)
  have HF := Lib.hid hf
  have BL := Lib.hid h.lt
  have OL := Lib.hid ho.lt
  clear h hr hq hn ho hl hf
  go_enter Try.func34, Try.ntmps34
  go_upto_region 7 with fail
  refine wp_region_held_drew (S := fun _ => True) (by kernel_rfl) trivial (fun hHeld => ?_)
  have D := Lib.hid (Chg.refl [] w).drew
  replace H := Lib.hid (H.out.chg D.out (by simp))
  replace HR := Lib.hid (HR.out.chg D.out (by simp))
  replace HO := Lib.hid (HO.out.chg D.out (by simp))
  clear z1 z2
  generalize w.drew = wd at *
  refine sy 0 19 rfl rfl ?_
  try simp only [Act.put, sA, s0, s1]
  refine sy 1 20 rfl rfl ?_
  try simp only [Act.put, sA, s0, s1]
  refine sy 2 21 rfl rfl ?_
  try simp only [Act.put, sA, s0, s1]
  refine sy 3 22 rfl rfl ?_
  try simp only [Act.put, sA, s0, s1]
  refine sy 6 25 rfl rfl ?_
  try simp only [Act.put, sA, s0, s1]
  refine wpAnyH_ready (rs := [4, 5]) (by kernel_rfl) (by simp) ?_
  refine AllReadyH.cons rfl (fun K hK => ?_) (AllReadyH.cons rfl (fun K hK => ?_) AllReadyH.nil)
  · skip
    replace hK := Lib.hid hK
    have z2 := (H.out.chg (Chg.refl [] wd) (by simp)).get.2.2.1
    go_simp
    clear z2
    refine hK.out _ _ trivial (fun hHeld => ?_)
    clear hK K
    try simp only [Act.put, sA, s0, s1]
    refine wpAnyH_ready (rs := [5]) (by kernel_rfl) (by simp) ?_
    refine AllReadyH.cons rfl (fun K hK => ?_) AllReadyH.nil
    replace hK := Lib.hid hK
    obtain ⟨w3, hw3, c3, m3⟩ := news1 wd (.cells #[] 5)
    have W3 := Lib.hid hw3
    have O3 := Lib.hid (show OwnB w3 (some ⟨wd.heap.size, 0, none⟩) 0 [] from (by rw [hw3]; exact OwnB.empty wd))
    have C3 := Lib.hid c3
    clear hw3 c3 m3
    go_simp
    rw [← W3.out]
    clear W3 hHeld
    refine hK.out _ _ trivial (fun hHeld => ?_)
    clear hK K
    try simp only [Act.put, sA, s0, s1]
    refine wpAnyH_ready (rs := [7]) (by kernel_rfl) (by simp) ?_
    refine AllReadyH.cons rfl (fun K hK => ?_) AllReadyH.nil
    replace hK := Lib.hid hK
    refine step_app rfl (.tmp 24) (.tmp 25) rfl rfl (A := some ⟨wd.heap.size, 0, none⟩) (B := B) (n := 0) (m := n) (c := 0) (d := c) (xs := []) (ys := ys) O3.out rfl rfl (HR.out.chg C3.out (by simp)) (by have := HN.out; omega) ?_
    intro A4 c4 w4 o4 g4 e4
    have O4 : Hid (OwnB w4 A4 c4 ys) := Lib.hid (by simpa using o4)
    have C4 : Hid (Chg [] wd w4) := Lib.hid (C3.out.grown g4 (fun k hk => .inr (by simp at hk; omega)))
    have N4 : Hid (∀ a, A4 = some a → wd.heap.size ≤ a.block) := Lib.hid (fun a ha => by rcases e4 with e | e <;> rw [e] at ha <;> cases ha <;> have := C3.out.size <;> simp <;> omega)
    simp only [Nat.zero_add]
    clear o4 g4 e4 O3 hHeld
    refine hK.out _ _ trivial (fun hHeld => ?_)
    clear hK K
    try simp only [Act.put, sA, s0, s1]
    refine sy 8 27 rfl rfl ?_
    try simp only [Act.put, sA, s0, s1]
    refine wpAnyH_ready (rs := [9]) (by kernel_rfl) (by simp) ?_
    refine AllReadyH.cons rfl (fun K hK => ?_) AllReadyH.nil
    replace hK := Lib.hid hK
    obtain ⟨w5, hw5, c5, m5⟩ := news1 w4 (.cells #[.slice A4 n c4, .int .i64 (-1)] 95)
    have W5 := Lib.hid hw5
    have M5 : Hid (RdK sentTy w5 (some ⟨w4.heap.size, 0, none⟩) 1 [((A4, n, c4, -1) : SentV)]) := Lib.hid (row_one m5)
    have C45 := Lib.hid c5
    have C5 := Lib.hid (C4.out.trans c5)
    clear hw5 c5 m5
    go_simp
    rw [← W5.out]
    clear W5 hHeld
    refine hK.out _ _ trivial (fun hHeld => ?_)
    clear hK K
    try simp only [Act.put, sA, s0, s1]
    refine wpAnyH_ready (rs := [10]) (by kernel_rfl) (by simp) ?_
    refine AllReadyH.cons rfl (fun K hK => ?_) AllReadyH.nil
    replace hK := Lib.hid hK
    refine step_appO (R := sentTy) rfl (.tmp 23) (.tmp 28) rfl rfl (A := d.A) (B := some ⟨w4.heap.size, 0, none⟩) (n := d.n) (m := 1) (c := d.c) (d := 1) (xs := lq) (ys := [((A4, n, c4, -1) : SentV)]) (HO.out.chg C5.out (by simp)) HN.out.1 rfl M5.out (by have := HN.out; omega) ?_
    intro A6 c6 w6 o6 g6 e6
    have O6 := Lib.hid o6
    have C56 : Hid (Chg (blkOf d.A) w5 w6) := Lib.hid ((Chg.refl (blkOf d.A) w5).grown g6 (fun k hk => .inl (by simpa [blkOf] using hk)))
    have E6 := Lib.hid e6
    have NBA : Hid (b ∉ blkOf d.A) := Lib.hid (fun hm => by obtain ⟨x, hx, e⟩ := of_blkOf hm; exact HF.out x hx e)
    have H6 := Lib.hid ((H.out.chg C5.out (by simp)).chg C56.out NBA.out)
    clear o6 g6 e6 hHeld
    refine hK.out _ _ trivial (fun hHeld => ?_)
    clear hK K
    try simp only [Act.put, sA, s0, s1]
    refine sy 11 30 rfl rfl ?_
    try simp only [Act.put, sA, s0, s1]
    refine sy 12 31 rfl rfl ?_
    try simp only [Act.put, sA, s0, s1]
    refine wpAnyH_ready (rs := [13]) (by kernel_rfl) (by simp) ?_
    refine AllReadyH.cons rfl (fun K hK => ?_) AllReadyH.nil
    replace hK := Lib.hid hK
    have z2 := H6.out.get.2.2.1
    have f2 := H6.out.free 2
    go_simp
    clear z2 f2 hHeld
    refine hK.out _ _ trivial (fun hHeld => ?_)
    clear hK K
    try simp only [Act.put, sA, s0, s1]
    refine wpAnyH_done (by kernel_rfl) ?_ _
    go_wp2
    go_ret
    have A6N : ∀ x, A6 = some x → d.A = some x ∨ w.heap.size ≤ x.block := fun x hx => by
      rcases E6.out with e | e
      · exact .inl (e ▸ hx)
      · right
        rw [e] at hx
        cases hx
        have := C5.out.size
        have := D.out.size
        simp only
        omega
    have A6B : ∀ x, A6 = some x → x.block ≠ b := fun x hx => by
      rcases A6N x hx with e | e
      · exact HF.out x e
      · have := BL.out; omega
    have n4 : ∀ x, A4 = some x → w.heap.size ≤ x.block := fun x hx => by have := N4.out x hx; have := D.out.size; omega
    refine ⟨rfl, A4, c4, A6, c6, H6.out.sQ A6 (d.n + 1) c6, O6.out.chg ((Chg.refl [b] w6).setCell (p := ⟨b, 2, none⟩) (.inl (List.mem_singleton.2 rfl)) _) (fun x hx hm => A6B x hx (by simpa using hm)), ?_, n4, A6N, ?_⟩
    · refine ((O4.out.chg C45.out (by simp)).chg C56.out (fun x hx hm => ?_)).chg ((Chg.refl [b] w6).setCell (p := ⟨b, 2, none⟩) (.inl (List.mem_singleton.2 rfl)) _) (fun x hx hm => ?_)
      · obtain ⟨x', hx', e⟩ := of_blkOf hm
        have := OL.out x' hx'
        have := n4 x hx
        omega
      · have := n4 x hx
        have := BL.out
        simp at hm
        omega
    · exact (((D.out.trans C5.out).mono (S' := b :: blkOf d.A) (by simp)).trans (C56.out.mono (fun i hi => .inl (List.mem_cons_of_mem _ hi)))).setCell (.inl (List.mem_cons_self ..)) _
  · skip
    replace hK := Lib.hid hK
    obtain ⟨w3, hw3, c3, m3⟩ := news1 wd (.cells #[] 5)
    have W3 := Lib.hid hw3
    have O3 := Lib.hid (show OwnB w3 (some ⟨wd.heap.size, 0, none⟩) 0 [] from (by rw [hw3]; exact OwnB.empty wd))
    have C3 := Lib.hid c3
    clear hw3 c3 m3
    go_simp
    rw [← W3.out]
    clear W3 hHeld
    refine hK.out _ _ trivial (fun hHeld => ?_)
    clear hK K
    try simp only [Act.put, sA, s0, s1]
    refine wpAnyH_ready (rs := [4, 7]) (by kernel_rfl) (by simp) ?_
    refine AllReadyH.cons rfl (fun K hK => ?_) (AllReadyH.cons rfl (fun K hK => ?_) AllReadyH.nil)
    · skip
      replace hK := Lib.hid hK
      have z2 := (H.out.chg C3.out (by simp)).get.2.2.1
      go_simp
      clear z2
      refine hK.out _ _ trivial (fun hHeld => ?_)
      clear hK K
      try simp only [Act.put, sA, s0, s1]
      refine wpAnyH_ready (rs := [7]) (by kernel_rfl) (by simp) ?_
      refine AllReadyH.cons rfl (fun K hK => ?_) AllReadyH.nil
      replace hK := Lib.hid hK
      refine step_app rfl (.tmp 24) (.tmp 25) rfl rfl (A := some ⟨wd.heap.size, 0, none⟩) (B := B) (n := 0) (m := n) (c := 0) (d := c) (xs := []) (ys := ys) O3.out rfl rfl (HR.out.chg C3.out (by simp)) (by have := HN.out; omega) ?_
      intro A4 c4 w4 o4 g4 e4
      have O4 : Hid (OwnB w4 A4 c4 ys) := Lib.hid (by simpa using o4)
      have C4 : Hid (Chg [] wd w4) := Lib.hid (C3.out.grown g4 (fun k hk => .inr (by simp at hk; omega)))
      have N4 : Hid (∀ a, A4 = some a → wd.heap.size ≤ a.block) := Lib.hid (fun a ha => by rcases e4 with e | e <;> rw [e] at ha <;> cases ha <;> have := C3.out.size <;> simp <;> omega)
      simp only [Nat.zero_add]
      clear o4 g4 e4 O3 hHeld
      refine hK.out _ _ trivial (fun hHeld => ?_)
      clear hK K
      try simp only [Act.put, sA, s0, s1]
      refine sy 8 27 rfl rfl ?_
      try simp only [Act.put, sA, s0, s1]
      refine wpAnyH_ready (rs := [9]) (by kernel_rfl) (by simp) ?_
      refine AllReadyH.cons rfl (fun K hK => ?_) AllReadyH.nil
      replace hK := Lib.hid hK
      obtain ⟨w5, hw5, c5, m5⟩ := news1 w4 (.cells #[.slice A4 n c4, .int .i64 (-1)] 95)
      have W5 := Lib.hid hw5
      have M5 : Hid (RdK sentTy w5 (some ⟨w4.heap.size, 0, none⟩) 1 [((A4, n, c4, -1) : SentV)]) := Lib.hid (row_one m5)
      have C45 := Lib.hid c5
      have C5 := Lib.hid (C4.out.trans c5)
      clear hw5 c5 m5
      go_simp
      rw [← W5.out]
      clear W5 hHeld
      refine hK.out _ _ trivial (fun hHeld => ?_)
      clear hK K
      try simp only [Act.put, sA, s0, s1]
      refine wpAnyH_ready (rs := [10]) (by kernel_rfl) (by simp) ?_
      refine AllReadyH.cons rfl (fun K hK => ?_) AllReadyH.nil
      replace hK := Lib.hid hK
      refine step_appO (R := sentTy) rfl (.tmp 23) (.tmp 28) rfl rfl (A := d.A) (B := some ⟨w4.heap.size, 0, none⟩) (n := d.n) (m := 1) (c := d.c) (d := 1) (xs := lq) (ys := [((A4, n, c4, -1) : SentV)]) (HO.out.chg C5.out (by simp)) HN.out.1 rfl M5.out (by have := HN.out; omega) ?_
      intro A6 c6 w6 o6 g6 e6
      have O6 := Lib.hid o6
      have C56 : Hid (Chg (blkOf d.A) w5 w6) := Lib.hid ((Chg.refl (blkOf d.A) w5).grown g6 (fun k hk => .inl (by simpa [blkOf] using hk)))
      have E6 := Lib.hid e6
      have NBA : Hid (b ∉ blkOf d.A) := Lib.hid (fun hm => by obtain ⟨x, hx, e⟩ := of_blkOf hm; exact HF.out x hx e)
      have H6 := Lib.hid ((H.out.chg C5.out (by simp)).chg C56.out NBA.out)
      clear o6 g6 e6 hHeld
      refine hK.out _ _ trivial (fun hHeld => ?_)
      clear hK K
      try simp only [Act.put, sA, s0, s1]
      refine sy 11 30 rfl rfl ?_
      try simp only [Act.put, sA, s0, s1]
      refine sy 12 31 rfl rfl ?_
      try simp only [Act.put, sA, s0, s1]
      refine wpAnyH_ready (rs := [13]) (by kernel_rfl) (by simp) ?_
      refine AllReadyH.cons rfl (fun K hK => ?_) AllReadyH.nil
      replace hK := Lib.hid hK
      have z2 := H6.out.get.2.2.1
      have f2 := H6.out.free 2
      go_simp
      clear z2 f2 hHeld
      refine hK.out _ _ trivial (fun hHeld => ?_)
      clear hK K
      try simp only [Act.put, sA, s0, s1]
      refine wpAnyH_done (by kernel_rfl) ?_ _
      go_wp2
      go_ret
      have A6N : ∀ x, A6 = some x → d.A = some x ∨ w.heap.size ≤ x.block := fun x hx => by
        rcases E6.out with e | e
        · exact .inl (e ▸ hx)
        · right
          rw [e] at hx
          cases hx
          have := C5.out.size
          have := D.out.size
          simp only
          omega
      have A6B : ∀ x, A6 = some x → x.block ≠ b := fun x hx => by
        rcases A6N x hx with e | e
        · exact HF.out x e
        · have := BL.out; omega
      have n4 : ∀ x, A4 = some x → w.heap.size ≤ x.block := fun x hx => by have := N4.out x hx; have := D.out.size; omega
      refine ⟨rfl, A4, c4, A6, c6, H6.out.sQ A6 (d.n + 1) c6, O6.out.chg ((Chg.refl [b] w6).setCell (p := ⟨b, 2, none⟩) (.inl (List.mem_singleton.2 rfl)) _) (fun x hx hm => A6B x hx (by simpa using hm)), ?_, n4, A6N, ?_⟩
      · refine ((O4.out.chg C45.out (by simp)).chg C56.out (fun x hx hm => ?_)).chg ((Chg.refl [b] w6).setCell (p := ⟨b, 2, none⟩) (.inl (List.mem_singleton.2 rfl)) _) (fun x hx hm => ?_)
        · obtain ⟨x', hx', e⟩ := of_blkOf hm
          have := OL.out x' hx'
          have := n4 x hx
          omega
        · have := n4 x hx
          have := BL.out
          simp at hm
          omega
      · exact (((D.out.trans C5.out).mono (S' := b :: blkOf d.A) (by simp)).trans (C56.out.mono (fun i hi => .inl (List.mem_cons_of_mem _ hi)))).setCell (.inl (List.mem_cons_self ..)) _
    · skip
      replace hK := Lib.hid hK
      refine step_app rfl (.tmp 24) (.tmp 25) rfl rfl (A := some ⟨wd.heap.size, 0, none⟩) (B := B) (n := 0) (m := n) (c := 0) (d := c) (xs := []) (ys := ys) O3.out rfl rfl (HR.out.chg C3.out (by simp)) (by have := HN.out; omega) ?_
      intro A4 c4 w4 o4 g4 e4
      have O4 : Hid (OwnB w4 A4 c4 ys) := Lib.hid (by simpa using o4)
      have C4 : Hid (Chg [] wd w4) := Lib.hid (C3.out.grown g4 (fun k hk => .inr (by simp at hk; omega)))
      have N4 : Hid (∀ a, A4 = some a → wd.heap.size ≤ a.block) := Lib.hid (fun a ha => by rcases e4 with e | e <;> rw [e] at ha <;> cases ha <;> have := C3.out.size <;> simp <;> omega)
      simp only [Nat.zero_add]
      clear o4 g4 e4 O3 hHeld
      refine hK.out _ _ trivial (fun hHeld => ?_)
      clear hK K
      try simp only [Act.put, sA, s0, s1]
      refine sy 8 27 rfl rfl ?_
      try simp only [Act.put, sA, s0, s1]
      refine wpAnyH_ready (rs := [4, 9]) (by kernel_rfl) (by simp) ?_
      refine AllReadyH.cons rfl (fun K hK => ?_) (AllReadyH.cons rfl (fun K hK => ?_) AllReadyH.nil)
      · skip
        replace hK := Lib.hid hK
        have z2 := (H.out.chg C4.out (by simp)).get.2.2.1
        go_simp
        clear z2
        refine hK.out _ _ trivial (fun hHeld => ?_)
        clear hK K
        try simp only [Act.put, sA, s0, s1]
        refine wpAnyH_ready (rs := [9]) (by kernel_rfl) (by simp) ?_
        refine AllReadyH.cons rfl (fun K hK => ?_) AllReadyH.nil
        replace hK := Lib.hid hK
        obtain ⟨w5, hw5, c5, m5⟩ := news1 w4 (.cells #[.slice A4 n c4, .int .i64 (-1)] 95)
        have W5 := Lib.hid hw5
        have M5 : Hid (RdK sentTy w5 (some ⟨w4.heap.size, 0, none⟩) 1 [((A4, n, c4, -1) : SentV)]) := Lib.hid (row_one m5)
        have C45 := Lib.hid c5
        have C5 := Lib.hid (C4.out.trans c5)
        clear hw5 c5 m5
        go_simp
        rw [← W5.out]
        clear W5 hHeld
        refine hK.out _ _ trivial (fun hHeld => ?_)
        clear hK K
        try simp only [Act.put, sA, s0, s1]
        refine wpAnyH_ready (rs := [10]) (by kernel_rfl) (by simp) ?_
        refine AllReadyH.cons rfl (fun K hK => ?_) AllReadyH.nil
        replace hK := Lib.hid hK
        refine step_appO (R := sentTy) rfl (.tmp 23) (.tmp 28) rfl rfl (A := d.A) (B := some ⟨w4.heap.size, 0, none⟩) (n := d.n) (m := 1) (c := d.c) (d := 1) (xs := lq) (ys := [((A4, n, c4, -1) : SentV)]) (HO.out.chg C5.out (by simp)) HN.out.1 rfl M5.out (by have := HN.out; omega) ?_
        intro A6 c6 w6 o6 g6 e6
        have O6 := Lib.hid o6
        have C56 : Hid (Chg (blkOf d.A) w5 w6) := Lib.hid ((Chg.refl (blkOf d.A) w5).grown g6 (fun k hk => .inl (by simpa [blkOf] using hk)))
        have E6 := Lib.hid e6
        have NBA : Hid (b ∉ blkOf d.A) := Lib.hid (fun hm => by obtain ⟨x, hx, e⟩ := of_blkOf hm; exact HF.out x hx e)
        have H6 := Lib.hid ((H.out.chg C5.out (by simp)).chg C56.out NBA.out)
        clear o6 g6 e6 hHeld
        refine hK.out _ _ trivial (fun hHeld => ?_)
        clear hK K
        try simp only [Act.put, sA, s0, s1]
        refine sy 11 30 rfl rfl ?_
        try simp only [Act.put, sA, s0, s1]
        refine sy 12 31 rfl rfl ?_
        try simp only [Act.put, sA, s0, s1]
        refine wpAnyH_ready (rs := [13]) (by kernel_rfl) (by simp) ?_
        refine AllReadyH.cons rfl (fun K hK => ?_) AllReadyH.nil
        replace hK := Lib.hid hK
        have z2 := H6.out.get.2.2.1
        have f2 := H6.out.free 2
        go_simp
        clear z2 f2 hHeld
        refine hK.out _ _ trivial (fun hHeld => ?_)
        clear hK K
        try simp only [Act.put, sA, s0, s1]
        refine wpAnyH_done (by kernel_rfl) ?_ _
        go_wp2
        go_ret
        have A6N : ∀ x, A6 = some x → d.A = some x ∨ w.heap.size ≤ x.block := fun x hx => by
          rcases E6.out with e | e
          · exact .inl (e ▸ hx)
          · right
            rw [e] at hx
            cases hx
            have := C5.out.size
            have := D.out.size
            simp only
            omega
        have A6B : ∀ x, A6 = some x → x.block ≠ b := fun x hx => by
          rcases A6N x hx with e | e
          · exact HF.out x e
          · have := BL.out; omega
        have n4 : ∀ x, A4 = some x → w.heap.size ≤ x.block := fun x hx => by have := N4.out x hx; have := D.out.size; omega
        refine ⟨rfl, A4, c4, A6, c6, H6.out.sQ A6 (d.n + 1) c6, O6.out.chg ((Chg.refl [b] w6).setCell (p := ⟨b, 2, none⟩) (.inl (List.mem_singleton.2 rfl)) _) (fun x hx hm => A6B x hx (by simpa using hm)), ?_, n4, A6N, ?_⟩
        · refine ((O4.out.chg C45.out (by simp)).chg C56.out (fun x hx hm => ?_)).chg ((Chg.refl [b] w6).setCell (p := ⟨b, 2, none⟩) (.inl (List.mem_singleton.2 rfl)) _) (fun x hx hm => ?_)
          · obtain ⟨x', hx', e⟩ := of_blkOf hm
            have := OL.out x' hx'
            have := n4 x hx
            omega
          · have := n4 x hx
            have := BL.out
            simp at hm
            omega
        · exact (((D.out.trans C5.out).mono (S' := b :: blkOf d.A) (by simp)).trans (C56.out.mono (fun i hi => .inl (List.mem_cons_of_mem _ hi)))).setCell (.inl (List.mem_cons_self ..)) _
      · skip
        replace hK := Lib.hid hK
        obtain ⟨w5, hw5, c5, m5⟩ := news1 w4 (.cells #[.slice A4 n c4, .int .i64 (-1)] 95)
        have W5 := Lib.hid hw5
        have M5 : Hid (RdK sentTy w5 (some ⟨w4.heap.size, 0, none⟩) 1 [((A4, n, c4, -1) : SentV)]) := Lib.hid (row_one m5)
        have C45 := Lib.hid c5
        have C5 := Lib.hid (C4.out.trans c5)
        clear hw5 c5 m5
        go_simp
        rw [← W5.out]
        clear W5 hHeld
        refine hK.out _ _ trivial (fun hHeld => ?_)
        clear hK K
        try simp only [Act.put, sA, s0, s1]
        refine wpAnyH_ready (rs := [4]) (by kernel_rfl) (by simp) ?_
        refine AllReadyH.cons rfl (fun K hK => ?_) AllReadyH.nil
        replace hK := Lib.hid hK
        have z2 := (H.out.chg C5.out (by simp)).get.2.2.1
        go_simp
        clear z2
        refine hK.out _ _ trivial (fun hHeld => ?_)
        clear hK K
        try simp only [Act.put, sA, s0, s1]
        refine wpAnyH_ready (rs := [10]) (by kernel_rfl) (by simp) ?_
        refine AllReadyH.cons rfl (fun K hK => ?_) AllReadyH.nil
        replace hK := Lib.hid hK
        refine step_appO (R := sentTy) rfl (.tmp 23) (.tmp 28) rfl rfl (A := d.A) (B := some ⟨w4.heap.size, 0, none⟩) (n := d.n) (m := 1) (c := d.c) (d := 1) (xs := lq) (ys := [((A4, n, c4, -1) : SentV)]) (HO.out.chg C5.out (by simp)) HN.out.1 rfl M5.out (by have := HN.out; omega) ?_
        intro A6 c6 w6 o6 g6 e6
        have O6 := Lib.hid o6
        have C56 : Hid (Chg (blkOf d.A) w5 w6) := Lib.hid ((Chg.refl (blkOf d.A) w5).grown g6 (fun k hk => .inl (by simpa [blkOf] using hk)))
        have E6 := Lib.hid e6
        have NBA : Hid (b ∉ blkOf d.A) := Lib.hid (fun hm => by obtain ⟨x, hx, e⟩ := of_blkOf hm; exact HF.out x hx e)
        have H6 := Lib.hid ((H.out.chg C5.out (by simp)).chg C56.out NBA.out)
        clear o6 g6 e6 hHeld
        refine hK.out _ _ trivial (fun hHeld => ?_)
        clear hK K
        try simp only [Act.put, sA, s0, s1]
        refine sy 11 30 rfl rfl ?_
        try simp only [Act.put, sA, s0, s1]
        refine sy 12 31 rfl rfl ?_
        try simp only [Act.put, sA, s0, s1]
        refine wpAnyH_ready (rs := [13]) (by kernel_rfl) (by simp) ?_
        refine AllReadyH.cons rfl (fun K hK => ?_) AllReadyH.nil
        replace hK := Lib.hid hK
        have z2 := H6.out.get.2.2.1
        have f2 := H6.out.free 2
        go_simp
        clear z2 f2 hHeld
        refine hK.out _ _ trivial (fun hHeld => ?_)
        clear hK K
        try simp only [Act.put, sA, s0, s1]
        refine wpAnyH_done (by kernel_rfl) ?_ _
        go_wp2
        go_ret
        have A6N : ∀ x, A6 = some x → d.A = some x ∨ w.heap.size ≤ x.block := fun x hx => by
          rcases E6.out with e | e
          · exact .inl (e ▸ hx)
          · right
            rw [e] at hx
            cases hx
            have := C5.out.size
            have := D.out.size
            simp only
            omega
        have A6B : ∀ x, A6 = some x → x.block ≠ b := fun x hx => by
          rcases A6N x hx with e | e
          · exact HF.out x e
          · have := BL.out; omega
        have n4 : ∀ x, A4 = some x → w.heap.size ≤ x.block := fun x hx => by have := N4.out x hx; have := D.out.size; omega
        refine ⟨rfl, A4, c4, A6, c6, H6.out.sQ A6 (d.n + 1) c6, O6.out.chg ((Chg.refl [b] w6).setCell (p := ⟨b, 2, none⟩) (.inl (List.mem_singleton.2 rfl)) _) (fun x hx hm => A6B x hx (by simpa using hm)), ?_, n4, A6N, ?_⟩
        · refine ((O4.out.chg C45.out (by simp)).chg C56.out (fun x hx hm => ?_)).chg ((Chg.refl [b] w6).setCell (p := ⟨b, 2, none⟩) (.inl (List.mem_singleton.2 rfl)) _) (fun x hx hm => ?_)
          · obtain ⟨x', hx', e⟩ := of_blkOf hm
            have := OL.out x' hx'
            have := n4 x hx
            omega
          · have := n4 x hx
            have := BL.out
            simp at hm
            omega
        · exact (((D.out.trans C5.out).mono (S' := b :: blkOf d.A) (by simp)).trans (C56.out.mono (fun i hi => .inl (List.mem_cons_of_mem _ hi)))).setCell (.inl (List.mem_cons_self ..)) _
end
section
open Go.RowKit Go.Lib
set_option linter.unusedSimpArgs false
set_option linter.unusedVariables false


def tickD (v : SentV) : SentV := (v.1, v.2.1, v.2.2.1, older v.2.2.2)
theorem Chg.selfB {A : Option Addr} {g o : Nat} (h : A = some ⟨g, o, none⟩) : g ∈ blkOf A := mem_blkOf (a := ⟨g, o, none⟩) h
set_option maxHeartbeats 8000000 in
theorem dtick_any (w : World) (b : Nat) (d : DV) (h : DH w b d) (lq : List SentV) (ho : OwnO sentTy w d.A d.c lq) (hl : lq.length = d.n) (hf : ∀ x, d.A = some x → x.block ≠ b) (hn : d.n ≤ 8) (ha : ∀ v ∈ lq, v.2.2.2 ≤ 4) : Calls Try.prog 35 #[.pointer (some ⟨b, 0, none⟩)] w fun e w' => e = .returned (.tuple #[]) ∧ DH w' b d ∧ OwnO sentTy w' d.A d.c (lq.map tickD) ∧ Chg (blkOf d.A) w w' := by
  have H := Lib.hid h
  have HN := Lib.hid (show lq.length = d.n ∧ d.n ≤ 8 from ⟨hl, hn⟩)
  have HA := Lib.hid ha
  have NBA : Hid (b ∉ blkOf d.A) := Lib.hid (fun hm => by obtain ⟨x, hx, e⟩ := of_blkOf hm; exact hf x hx e)
  have HO : Hid (OwnO sentTy w d.A d.c (turnedTo tickD lq 0)) := Lib.hid (by rw [turnedTo_zero]; exact ho)
  clear h ho hl hf hn ha
  go_enter Try.func35, Try.ntmps35
  go_wp2_with fail
  go_loopw [2] (fun v wr => ∃ j : Nat, j ≤ d.n ∧ v = .int .i64 (j : Int) ∧ Hid (OwnO sentTy wr d.A d.c (turnedTo tickD lq j)) ∧ Hid (Chg (blkOf d.A) w wr)) (fun v _ => d.n - (RowKit.intOf v).toNat)
  case atStart => exact ⟨0, Nat.zero_le _, rfl, HO.out, Chg.refl _ _⟩
  case round =>
    obtain ⟨j, hj, rfl, HS, HI⟩ := hrel
    have i0 : (0 : Int) ≤ (j : Int) := by omega
    have i1 : IntKind.i64.wrap ((j : Int) + 1) = (j : Int) + 1 := IntWalk.i64_in _ (by have := HN.out; omega)
    obtain ⟨_, _, z2, _⟩ := (H.out.chg HI.out NBA.out).get
    by_cases hlt : j < d.n
    · have i2 : (j : Int) < (d.n : Int) := by omega
      obtain ⟨x, hx⟩ : ∃ x, lq[j]? = some x := ⟨_, List.getElem?_eq_getElem (by have := HN.out; omega)⟩
      have hlen : (turnedTo tickD lq j).length = d.n := by rw [turnedTo_len]; exact HN.out.1
      have hrd := HS.out.reads
      rw [hlen] at hrd
      obtain ⟨g, o, hA, hg⟩ := hrd.line (by omega)
      have hxt := turnedTo_at tickD lq j x hx
      rw [hA] at hrd z2
      obtain ⟨q0, q1⟩ := sentCells hrd hxt
      have hS2 := HS.out
      rw [hA] at hS2
      have fr := hS2.frz (o + j * 2 + 1)
      have HX := Lib.hid hx
      have HXT := Lib.hid hxt
      have S2 := Lib.hid hS2
      have EA := Lib.hid hA
      have hx4 := HA.out x (List.mem_of_getElem? hx)
      obtain ⟨xA, xn, xc, xg⟩ := x
      dsimp only at q0 q1 hx4
      clear hx hxt hS2 hA hrd hg hlen
      by_cases ho : 0 ≤ xg ∧ xg < 4
      · obtain ⟨h1, h2⟩ := ho
        have hv : tickD (xA, xn, xc, xg) = (xA, xn, xc, xg + 1) := by simp only [tickD, older]; rw [if_pos ⟨h1, h2⟩]
        have i3 : IntKind.i64.wrap (xg + 1) = xg + 1 := IntWalk.i64_in _ (by omega)
        have P1 : Hid (OwnO sentTy (wr.setCell ⟨g, o + j * 2 + 1, none⟩ (.int .i64 (xg + 1))) d.A d.c (turnedTo tickD lq (j + 1))) := Lib.hid (by
          rw [EA.out, ← turnedTo_set tickD lq j _ HX.out, hv]
          exact S2.out.put j 1 _ (xA, xn, xc, xg + 1) (.int .i64 (xg + 1)) HXT.out (by decide) rfl)
        have d1 : decide (0 ≤ xg) = true := decide_eq_true h1
        have d2 : decide (xg < 4) = true := decide_eq_true h2
        go_wp2
        go_round
        case measure => simp [RowKit.intOf]; omega
        exact ⟨j + 1, by omega, by go_num, P1.out, HI.out.setCell (.inl (Chg.selfB EA.out)) _⟩
      · have hv : tickD (xA, xn, xc, xg) = (xA, xn, xc, xg) := by simp only [tickD, older]; rw [if_neg ho]
        have P1 : Hid (OwnO sentTy wr d.A d.c (turnedTo tickD lq (j + 1))) := Lib.hid (by rw [turnedTo_same tickD lq j _ HX.out hv]; exact HS.out)
        by_cases h1 : 0 ≤ xg
        · have h2 : ¬ xg < 4 := fun h => ho ⟨h1, h⟩
          have d1 : decide (0 ≤ xg) = true := decide_eq_true h1
          have d2 : decide (xg < 4) = false := decide_eq_false h2
          clear ho
          go_wp2
          go_round
          case measure => simp [RowKit.intOf]; omega
          exact ⟨j + 1, by omega, by go_num, P1.out, HI.out⟩
        · have d1 : decide (0 ≤ xg) = false := decide_eq_false h1
          clear ho
          go_wp2
          go_round
          case measure => simp [RowKit.intOf]; omega
          exact ⟨j + 1, by omega, by go_num, P1.out, HI.out⟩
    · obtain rfl : j = d.n := by omega
      have i2 : ¬ (d.n : Int) < (d.n : Int) := by omega
      have hfin := HS.out
      rw [← HN.out.1, turnedTo_all] at hfin
      have FI := Lib.hid hfin
      clear hfin HS
      go_wp2
      go_end0
      exact ⟨rfl, H.out.chg HI.out NBA.out, FI.out, HI.out⟩
end
end Go.Proofs.Ytmblalcigbghfaa
