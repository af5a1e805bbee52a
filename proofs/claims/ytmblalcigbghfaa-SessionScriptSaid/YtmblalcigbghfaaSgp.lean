/- Packets and lists are held against one another. -/
import Derived.Test.YtmblalcigbghfaaSgg
namespace Go.Proofs.Ytmblalcigbghfaa
section
open Go.RowKit Go.Lib
set_option linter.unusedSimpArgs false
set_option linter.unusedVariables false


theorem samepaks_nil (w : World) (A B : Option Addr) (d d' : Nat) : Calls Try.prog 12 #[.slice A 0 d, .slice B 0 d'] w fun e w' => e = .returned (.bool true) ∧ w = w' := by
  have h0 : ((0 : Nat) : Int) = 0 := rfl
  go_enter Try.func12, Try.ntmps12
  go_wp2
  go_loopw [5] (fun v wr => v = .int .i64 0 ∧ w = wr) (fun _ _ => 0)
  case atStart => exact ⟨rfl, rfl⟩
  case round =>
    obtain ⟨rfl, rfl⟩ := hrel
    go_wp2
    go_ret
    exact ⟨rfl, rfl⟩
set_option maxRecDepth 100000 in
set_option maxHeartbeats 8000000 in
theorem samepaks_yes (w : World) (g o g' o' d d' n : Nat) (l l' : List PakV) (h : RdK pakTy w (some ⟨g, o, none⟩) n l) (h' : RdK pakTy w (some ⟨g', o', none⟩) n l') (hn : n ≤ 1000000)
    (hs : ∀ (j : Nat) (x : PakV), l[j]? = some x → ∃ (y : PakV) (zs : List UInt8), l'[j]? = some y ∧ y.1 = x.1 ∧ y.2.1 = x.2.1 ∧ y.2.2.1 = x.2.2.1 ∧ y.2.2.2.1 = x.2.2.2.1 ∧ Bs w x.2.2.2.2.1 x.2.2.2.2.2.1 zs ∧ Bs w y.2.2.2.2.1 y.2.2.2.2.2.1 zs) :
    Calls Try.prog 12 #[.slice (some ⟨g, o, none⟩) n d, .slice (some ⟨g', o', none⟩) n d'] w fun e w' => e = .returned (.bool true) ∧ Chg [] w w' := by
  have HL := Lib.hid h.len
  have H := Lib.hid h
  have H' := Lib.hid h'
  have HS := Lib.hid hs
  have h0 : ((n : Int) != (n : Int)) = false := by simp
  clear h h' hs
  go_enter Try.func12, Try.ntmps12
  go_wp2
  go_loopw [5] (fun v wr => ∃ j : Nat, j ≤ n ∧ v = .int .i64 (j : Int) ∧ Hid (Chg [] w wr)) (fun v _ => n - (RowKit.intOf v).toNat)
  case atStart => exact ⟨0, Nat.zero_le _, rfl, Chg.refl _ _⟩
  case round =>
    obtain ⟨j, hj, rfl, HI⟩ := hrel
    have i0 : (0 : Int) ≤ (j : Int) := by omega
    have i1 : IntKind.i64.wrap ((j : Int) + 1) = (j : Int) + 1 := IntWalk.i64_in _ (by omega)
    by_cases hlt : j < n
    · have i2 : (j : Int) < (n : Int) := by omega
      obtain ⟨x, hx⟩ : ∃ x, l[j]? = some x := ⟨_, List.getElem?_eq_getElem (by have := HL.out; omega)⟩
      obtain ⟨y, zs, hy, q1, q2, q3, q4, hb, hb'⟩ := HS.out j x hx
      have CE := Lib.hid (fun (w' : World) (hc : Chg [] w w') => pakCells (H.out.chg hc (by simp)) hx)
      have CF := Lib.hid (fun (w' : World) (hc : Chg [] w w') => pakCells (H'.out.chg hc (by simp)) hy)
      clear hx hy
      obtain ⟨x1, x2, x3, x4, xA, xn, xd⟩ := x
      obtain ⟨y1, y2, y3, y4, yA, yn, yd⟩ := y
      dsimp only at q1 q2 q3 q4 hb hb' CE CF
      subst q1; subst q2; subst q3; subst q4
      have HB := Lib.hid (fun (w' : World) (hc : Chg [] w w') => (⟨hb.chg hc (by simp), hb'.chg hc (by simp)⟩ : _ ∧ _))
      clear hb hb'
      have HK : Hid (∀ w', Chg [] wr w' → (w'.cell? ⟨g, o + j * 5, none⟩ = some (.int .i64 y1) ∧ w'.cell? ⟨g, o + j * 5 + 1, none⟩ = some (.int .i64 y2) ∧ w'.cell? ⟨g, o + j * 5 + 2, none⟩ = some (.int .i64 y3) ∧ w'.cell? ⟨g, o + j * 5 + 3, none⟩ = some (.int .i64 y4) ∧ w'.cell? ⟨g, o + j * 5 + 4, none⟩ = some (.slice xA xn xd) ∧ w'.cell? ⟨g', o' + j * 5, none⟩ = some (.int .i64 y1) ∧ w'.cell? ⟨g', o' + j * 5 + 1, none⟩ = some (.int .i64 y2) ∧ w'.cell? ⟨g', o' + j * 5 + 2, none⟩ = some (.int .i64 y3) ∧ w'.cell? ⟨g', o' + j * 5 + 3, none⟩ = some (.int .i64 y4) ∧ w'.cell? ⟨g', o' + j * 5 + 4, none⟩ = some (.slice yA yn yd)) ∧ Chg [] wr w') := Lib.hid (fun w' hc => by
        obtain ⟨a0, a1, a2, a3, a4⟩ := CE.out w' (HI.out.trans hc)
        obtain ⟨b0, b1, b2, b3, b4⟩ := CF.out w' (HI.out.trans hc)
        exact ⟨⟨a0, a1, a2, a3, a4, b0, b1, b2, b3, b4⟩, hc⟩)
      go_upto_region 6 with fail
      refine wp_region_held_drew (S := fun w' => (w'.cell? ⟨g, o + j * 5, none⟩ = some (.int .i64 y1) ∧ w'.cell? ⟨g, o + j * 5 + 1, none⟩ = some (.int .i64 y2) ∧ w'.cell? ⟨g, o + j * 5 + 2, none⟩ = some (.int .i64 y3) ∧ w'.cell? ⟨g, o + j * 5 + 3, none⟩ = some (.int .i64 y4) ∧ w'.cell? ⟨g, o + j * 5 + 4, none⟩ = some (.slice xA xn xd) ∧ w'.cell? ⟨g', o' + j * 5, none⟩ = some (.int .i64 y1) ∧ w'.cell? ⟨g', o' + j * 5 + 1, none⟩ = some (.int .i64 y2) ∧ w'.cell? ⟨g', o' + j * 5 + 2, none⟩ = some (.int .i64 y3) ∧ w'.cell? ⟨g', o' + j * 5 + 3, none⟩ = some (.int .i64 y4) ∧ w'.cell? ⟨g', o' + j * 5 + 4, none⟩ = some (.slice yA yn yd)) ∧ Chg [] wr w') (by kernel_rfl) (HK.out _ (Chg.refl [] wr).drew) (fun hHeld => ?_)
      refine sy 0 17 rfl rfl ?_
      try simp only [Act.put, sA, s0, s1]
      refine sy 1 18 rfl rfl ?_
      try simp only [Act.put, sA, s0, s1]
      refine sy 2 19 rfl rfl ?_
      try simp only [Act.put, sA, s0, s1]
      refine sy 3 20 rfl rfl ?_
      try simp only [Act.put, sA, s0, s1]
      refine sy 4 21 rfl rfl ?_
      try simp only [Act.put, sA, s0, s1]
      refine sy 5 22 rfl rfl ?_
      try simp only [Act.put, sA, s0, s1]
      refine sy 6 23 rfl rfl ?_
      try simp only [Act.put, sA, s0, s1]
      refine sy 7 24 rfl rfl ?_
      try simp only [Act.put, sA, s0, s1]
      refine sy 8 25 rfl rfl ?_
      try simp only [Act.put, sA, s0, s1]
      refine sy 9 26 rfl rfl ?_
      try simp only [Act.put, sA, s0, s1]
      refine sy 10 27 rfl rfl ?_
      try simp only [Act.put, sA, s0, s1]
      refine sy 11 28 rfl rfl ?_
      try simp only [Act.put, sA, s0, s1]
      refine sy 12 29 rfl rfl ?_
      try simp only [Act.put, sA, s0, s1]
      refine sy 13 30 rfl rfl ?_
      try simp only [Act.put, sA, s0, s1]
      refine sy 14 31 rfl rfl ?_
      try simp only [Act.put, sA, s0, s1]
      refine sy 15 32 rfl rfl ?_
      try simp only [Act.put, sA, s0, s1]
      refine sy 16 33 rfl rfl ?_
      try simp only [Act.put, sA, s0, s1]
      refine sy 17 34 rfl rfl ?_
      try simp only [Act.put, sA, s0, s1]
      refine sy 18 35 rfl rfl ?_
      try simp only [Act.put, sA, s0, s1]
      refine sy 19 36 rfl rfl ?_
      try simp only [Act.put, sA, s0, s1]
      refine sy 20 37 rfl rfl ?_
      try simp only [Act.put, sA, s0, s1]
      refine sy 21 38 rfl rfl ?_
      try simp only [Act.put, sA, s0, s1]
      refine sy 22 39 rfl rfl ?_
      try simp only [Act.put, sA, s0, s1]
      refine sy 23 40 rfl rfl ?_
      try simp only [Act.put, sA, s0, s1]
      refine sy 24 41 rfl rfl ?_
      try simp only [Act.put, sA, s0, s1]
      refine sy 25 42 rfl rfl ?_
      try simp only [Act.put, sA, s0, s1]
      refine sy 26 43 rfl rfl ?_
      try simp only [Act.put, sA, s0, s1]
      refine sy 27 44 rfl rfl ?_
      try simp only [Act.put, sA, s0, s1]
      refine sy 28 45 rfl rfl ?_
      try simp only [Act.put, sA, s0, s1]
      refine sy 29 46 rfl rfl ?_
      try simp only [Act.put, sA, s0, s1]
      refine sy 30 47 rfl rfl ?_
      try simp only [Act.put, sA, s0, s1]
      refine sy 31 48 rfl rfl ?_
      try simp only [Act.put, sA, s0, s1]
      refine sy 32 49 rfl rfl ?_
      try simp only [Act.put, sA, s0, s1]
      refine sy 33 50 rfl rfl ?_
      try simp only [Act.put, sA, s0, s1]
      refine sy 34 51 rfl rfl ?_
      try simp only [Act.put, sA, s0, s1]
      refine sy 35 52 rfl rfl ?_
      try simp only [Act.put, sA, s0, s1]
      refine sy 36 53 rfl rfl ?_
      try simp only [Act.put, sA, s0, s1]
      refine sy 37 54 rfl rfl ?_
      try simp only [Act.put, sA, s0, s1]
      refine sy 38 55 rfl rfl ?_
      try simp only [Act.put, sA, s0, s1]
      refine sy 39 56 rfl rfl ?_
      try simp only [Act.put, sA, s0, s1]
      refine sy 40 57 rfl rfl ?_
      try simp only [Act.put, sA, s0, s1]
      refine sy 41 58 rfl rfl ?_
      try simp only [Act.put, sA, s0, s1]
      refine sy 42 59 rfl rfl ?_
      try simp only [Act.put, sA, s0, s1]
      refine sy 43 60 rfl rfl ?_
      try simp only [Act.put, sA, s0, s1]
      refine sy 44 61 rfl rfl ?_
      try simp only [Act.put, sA, s0, s1]
      refine sy 45 62 rfl rfl ?_
      try simp only [Act.put, sA, s0, s1]
      refine sy 46 63 rfl rfl ?_
      try simp only [Act.put, sA, s0, s1]
      refine sy 47 64 rfl rfl ?_
      try simp only [Act.put, sA, s0, s1]
      refine sy 48 65 rfl rfl ?_
      try simp only [Act.put, sA, s0, s1]
      refine sy 49 66 rfl rfl ?_
      try simp only [Act.put, sA, s0, s1]
      refine sy 50 67 rfl rfl ?_
      try simp only [Act.put, sA, s0, s1]
      refine sy 51 68 rfl rfl ?_
      try simp only [Act.put, sA, s0, s1]
      refine sy 52 69 rfl rfl ?_
      try simp only [Act.put, sA, s0, s1]
      refine sy 53 70 rfl rfl ?_
      try simp only [Act.put, sA, s0, s1]
      refine sy 54 71 rfl rfl ?_
      try simp only [Act.put, sA, s0, s1]
      refine sy 55 72 rfl rfl ?_
      try simp only [Act.put, sA, s0, s1]
      refine sy 56 73 rfl rfl ?_
      try simp only [Act.put, sA, s0, s1]
      refine sy 57 74 rfl rfl ?_
      try simp only [Act.put, sA, s0, s1]
      refine sy 58 75 rfl rfl ?_
      try simp only [Act.put, sA, s0, s1]
      refine sy 59 76 rfl rfl ?_
      try simp only [Act.put, sA, s0, s1]
      refine sy 60 77 rfl rfl ?_
      try simp only [Act.put, sA, s0, s1]
      refine wpAnyH_ready (rs := [61]) (by kernel_rfl) (by simp) ?_
      refine AllReadyH.cons rfl (fun K hK => ?_) AllReadyH.nil
      replace hK := Lib.hid hK
      go_simp
      refine (same_yes _ xA yA xn yn xd yd zs zs (HB.out _ (HI.out.trans hHeld.2)).1 (HB.out _ (HI.out.trans hHeld.2)).2 rfl).mono ?_
      rintro e w9 ⟨rfl, rfl⟩
      have hh := hHeld
      refine hK.out _ _ hh (fun hHeld => ?_)
      clear hK K
      try simp only [Act.put, sA, s0, s1]
      refine sy 62 79 rfl rfl ?_
      try simp only [Act.put, sA, s0, s1]
      refine sy 63 80 rfl rfl ?_
      try simp only [Act.put, sA, s0, s1]
      refine wpAnyH_done (by kernel_rfl) ?_ _
      have C9 := Lib.hid (HI.out.trans hHeld.2)
      clear hHeld
      go_wp2
      go_round
      case measure => simp [RowKit.intOf]; omega
      exact ⟨j + 1, by omega, by go_num, C9.out⟩
    · have i2 : ¬ (j : Int) < (n : Int) := by omega
      go_wp2
      go_ret
      exact ⟨rfl, HI.out⟩
theorem samepaks_ok (w : World) (A B : Option Addr) (c d lo lo' : Nat) (l l' : List PakV) (ps : List PakT) (h : OwnK pakTy w A c l) (h' : OwnK pakTy w B d l') (hp : PaksP w lo l ps) (hp' : PaksP w lo' l' ps) (hn : l.length ≤ 1000000) :
    Calls Try.prog 12 #[.slice A l.length c, .slice B l'.length d] w fun e w' => e = .returned (.bool true) ∧ Chg [] w w' := by
  have e1 := hp.len
  have e2 := hp'.len
  by_cases h0 : l.length = 0
  · rw [h0, show l'.length = 0 by omega]
    refine (samepaks_nil w A B c d).mono ?_
    rintro e w' ⟨rfl, rfl⟩
    exact ⟨rfl, Chg.refl _ _⟩
  · have r1 := h.reads
    have r2 := h'.reads
    rw [show l'.length = l.length by omega] at r2 ⊢
    obtain ⟨g, o, rfl, _⟩ := r1.line (by omega)
    obtain ⟨g', o', rfl, _⟩ := r2.line (by omega)
    refine samepaks_yes w g o g' o' c d _ l l' r1 r2 hn (fun j x hx => ?_)
    have hj := (List.getElem?_eq_some_iff.1 hx).1
    obtain ⟨y, hy⟩ : ∃ y, l'[j]? = some y := ⟨_, List.getElem?_eq_getElem (by omega)⟩
    obtain ⟨p, hpp⟩ : ∃ p, ps[j]? = some p := ⟨_, List.getElem?_eq_getElem (by omega)⟩
    obtain ⟨a1, a2, a3, a4, a5, a6, _⟩ := hp.at_ j x p hx hpp
    obtain ⟨b1, b2, b3, b4, b5, b6, _⟩ := hp'.at_ j y p hy hpp
    exact ⟨y, p.2.2.2.2, hy, by rw [b1, a1], by rw [b2, a2], by rw [b3, a3], by rw [b4, a4], by rw [a5]; exact a6.reads, by rw [b5]; exact b6.reads⟩

theorem samelists_nil (w : World) (A B : Option Addr) (d d' : Nat) : Calls Try.prog 15 #[.slice A 0 d, .slice B 0 d'] w fun e w' => e = .returned (.bool true) ∧ w = w' := by
  have h0 : ((0 : Nat) : Int) = 0 := rfl
  go_enter Try.func15, Try.ntmps15
  go_wp2
  go_loopw [5] (fun v wr => v = .int .i64 0 ∧ w = wr) (fun _ _ => 0)
  case atStart => exact ⟨rfl, rfl⟩
  case round =>
    obtain ⟨rfl, rfl⟩ := hrel
    go_wp2
    go_ret
    exact ⟨rfl, rfl⟩
set_option maxHeartbeats 8000000 in
theorem samelists_yes (w : World) (g o g' o' d d' n : Nat) (l l' : List SlV) (h : RdK lstTy w (some ⟨g, o, none⟩) n l) (h' : RdK lstTy w (some ⟨g', o', none⟩) n l') (hn : n ≤ 1000000)
    (hs : ∀ (j : Nat) (x : SlV), l[j]? = some x → ∃ (y : SlV) (zs : List UInt8), l'[j]? = some y ∧ Bs w x.1 x.2.1 zs ∧ Bs w y.1 y.2.1 zs) :
    Calls Try.prog 15 #[.slice (some ⟨g, o, none⟩) n d, .slice (some ⟨g', o', none⟩) n d'] w fun e w' => e = .returned (.bool true) ∧ Chg [] w w' := by
  have HL := Lib.hid h.len
  have H := Lib.hid h
  have H' := Lib.hid h'
  have HS := Lib.hid hs
  have h0 : ((n : Int) != (n : Int)) = false := by simp
  clear h h' hs
  go_enter Try.func15, Try.ntmps15
  go_wp2
  go_loopw [5] (fun v wr => ∃ j : Nat, j ≤ n ∧ v = .int .i64 (j : Int) ∧ Hid (Chg [] w wr)) (fun v _ => n - (RowKit.intOf v).toNat)
  case atStart => exact ⟨0, Nat.zero_le _, rfl, Chg.refl _ _⟩
  case round =>
    obtain ⟨j, hj, rfl, HI⟩ := hrel
    have i0 : (0 : Int) ≤ (j : Int) := by omega
    have i1 : IntKind.i64.wrap ((j : Int) + 1) = (j : Int) + 1 := IntWalk.i64_in _ (by omega)
    by_cases hlt : j < n
    · have i2 : (j : Int) < (n : Int) := by omega
      obtain ⟨x, hx⟩ : ∃ x, l[j]? = some x := ⟨_, List.getElem?_eq_getElem (by have := HL.out; omega)⟩
      obtain ⟨y, zs, hy, hb, hb'⟩ := HS.out j x hx
      have CE := Lib.hid (fun (w' : World) (hc : Chg [] w w') => lstCell (H.out.chg hc (by simp)) hx)
      have CF := Lib.hid (fun (w' : World) (hc : Chg [] w w') => lstCell (H'.out.chg hc (by simp)) hy)
      clear hx hy
      obtain ⟨xA, xn, xd⟩ := x
      obtain ⟨yA, yn, yd⟩ := y
      dsimp only at hb hb' CE CF
      have HB := Lib.hid (fun (w' : World) (hc : Chg [] w w') => (⟨hb.chg hc (by simp), hb'.chg hc (by simp)⟩ : _ ∧ _))
      clear hb hb'
      have HK : Hid (∀ w', Chg [] wr w' → (w'.cell? ⟨g, o + j, none⟩ = some (.slice xA xn xd) ∧ w'.cell? ⟨g', o' + j, none⟩ = some (.slice yA yn yd)) ∧ Chg [] wr w') := Lib.hid (fun w' hc => ⟨⟨CE.out w' (HI.out.trans hc), CF.out w' (HI.out.trans hc)⟩, hc⟩)
      go_upto_region 6 with fail
      refine wp_region_held_drew (S := fun w' => (w'.cell? ⟨g, o + j, none⟩ = some (.slice xA xn xd) ∧ w'.cell? ⟨g', o' + j, none⟩ = some (.slice yA yn yd)) ∧ Chg [] wr w') (by kernel_rfl) (HK.out _ (Chg.refl [] wr).drew) (fun hHeld => ?_)
      refine sy 0 17 rfl rfl ?_
      try simp only [Act.put, sA, s0, s1]
      refine sy 1 18 rfl rfl ?_
      try simp only [Act.put, sA, s0, s1]
      refine sy 2 19 rfl rfl ?_
      try simp only [Act.put, sA, s0, s1]
      refine sy 3 20 rfl rfl ?_
      try simp only [Act.put, sA, s0, s1]
      refine sy 4 21 rfl rfl ?_
      try simp only [Act.put, sA, s0, s1]
      refine sy 5 22 rfl rfl ?_
      try simp only [Act.put, sA, s0, s1]
      refine sy 6 23 rfl rfl ?_
      try simp only [Act.put, sA, s0, s1]
      refine sy 7 24 rfl rfl ?_
      try simp only [Act.put, sA, s0, s1]
      refine wpAnyH_ready (rs := [8]) (by kernel_rfl) (by simp) ?_
      refine AllReadyH.cons rfl (fun K hK => ?_) AllReadyH.nil
      replace hK := Lib.hid hK
      go_simp
      refine (same_yes _ xA yA xn yn xd yd zs zs (HB.out _ (HI.out.trans hHeld.2)).1 (HB.out _ (HI.out.trans hHeld.2)).2 rfl).mono ?_
      rintro e w9 ⟨rfl, rfl⟩
      have hh := hHeld
      refine hK.out _ _ hh (fun hHeld => ?_)
      clear hK K
      try simp only [Act.put, sA, s0, s1]
      refine sy 9 26 rfl rfl ?_
      try simp only [Act.put, sA, s0, s1]
      refine wpAnyH_done (by kernel_rfl) ?_ _
      have C9 := Lib.hid (HI.out.trans hHeld.2)
      clear hHeld
      go_wp2
      go_round
      case measure => simp [RowKit.intOf]; omega
      exact ⟨j + 1, by omega, by go_num, C9.out⟩
    · have i2 : ¬ (j : Int) < (n : Int) := by omega
      go_wp2
      go_ret
      exact ⟨rfl, HI.out⟩
theorem samelists_ok (w : World) (A B : Option Addr) (c d : Nat) (D D' : List Nat) (l l' : List SlV) (ls : List (List UInt8)) (h : OwnK lstTy w A c l) (h' : OwnK lstTy w B d l') (hp : ListP w D l ls) (hp' : ListP w D' l' ls) (hn : ls.length ≤ 1000000) :
    Calls Try.prog 15 #[.slice A ls.length c, .slice B ls.length d] w fun e w' => e = .returned (.bool true) ∧ Chg [] w w' := by
  have e1 := hp.1
  have e2 := hp'.1
  by_cases h0 : ls.length = 0
  · rw [h0]
    refine (samelists_nil w A B c d).mono ?_
    rintro e w' ⟨rfl, rfl⟩
    exact ⟨rfl, Chg.refl _ _⟩
  · have r1 := h.reads
    have r2 := h'.reads
    rw [e1] at r1
    rw [e2] at r2
    obtain ⟨g, o, rfl, _⟩ := r1.line (by omega)
    obtain ⟨g', o', rfl, _⟩ := r2.line (by omega)
    refine samelists_yes w g o g' o' c d _ l l' r1 r2 hn (fun j x hx => ?_)
    have hj := (List.getElem?_eq_some_iff.1 hx).1
    obtain ⟨y, hy⟩ : ∃ y, l'[j]? = some y := ⟨_, List.getElem?_eq_getElem (by omega)⟩
    obtain ⟨p, hpp⟩ : ∃ p, ls[j]? = some p := ⟨_, List.getElem?_eq_getElem (by omega)⟩
    exact ⟨y, p, hy, (hp.2 j x p hx hpp).1, (hp'.2 j y p hy hpp).1⟩

set_option maxHeartbeats 4000000 in
theorem copypack_any (w : World) (k i s a : Int) (A : Option Addr) (n c : Nat) (xs : List UInt8) (h : Bs w A n xs) (hn : n ≤ 140737488351232) :
    Calls Try.prog 38 #[.agg #[.int .i64 k, .int .i64 i, .int .i64 s, .int .i64 a, .slice A n c]] w fun e w' => ∃ A' c', e = .returned (.agg #[.int .i64 k, .int .i64 i, .int .i64 s, .int .i64 a, .slice A' n c']) ∧ Fresh w w' A' c' xs := by
  obtain ⟨w0, hw0, c0, b0, b1⟩ := news2 w (.cells #[.int .i64 k, .int .i64 i, .int .i64 s, .int .i64 a, .slice A n c] 35) (.cells #[.int .i64 0, .int .i64 0, .int .i64 0, .int .i64 0, .slice none 0 0] 35)
  have W0 := Lib.hid hw0
  have H := Lib.hid (h.chg c0 (by simp))
  have HS0 := Lib.hid (fun (w' : World) (j : Nat) (v : Value) (h : Chg [] w w') => h.put (s := w.heap.size) (Nat.le_refl _) j v)
  have HS1 := Lib.hid (fun (w' : World) (j : Nat) (v : Value) (h : Chg [] w w') => h.put (s := w.heap.size + 1) (Nat.le_succ _) j v)
  have hs2 : ¬ w.heap.size = w.heap.size + 1 := by omega
  have d5 : ¬ w.heap.size + 1 = w.heap.size := by omega
  have g0 := lt_of_heap b0
  have g1 := lt_of_heap b1
  have C0 := Lib.hid c0
  have B0 := Lib.hid b0
  have B1 := Lib.hid b1
  clear hw0 c0 b0 b1 h
  go_enter Try.func38, Try.ntmps38
  go_upto_region 1 with fail
  rw [← W0.out]
  generalize w.heap.size + 1 = s1 at *
  generalize w.heap.size = s0 at *
  have z4 := cell_of B0.out 4
  simp only [List.getElem?_toArray, List.getElem?_cons_succ, List.getElem?_cons_zero] at z4
  go_wp2_with fail
  clear z4
  refine (copy_any w0 A n c xs H.out hn).mono ?_
  rintro e w1 ⟨A1, c1, rfl, f1⟩
  have b0 := f1.2.2.at_ B0.out (by simp)
  have b1 := f1.2.2.at_ B1.out (by simp)
  have n1 : ∀ a, A1 = some a → a.block ∉ [s0, s1] := fun a e => by have := f1.2.1 a e; simp; omega
  have p0 := heap_setCell_same w1 s0 4 _ _ (.slice A1 n c1) b0
  have p1 := ((Chg.refl [s0] w1).setCell (p := ⟨s0, 4, none⟩) (.inl (by simp)) (.slice A1 n c1)).at_ b1 (by simpa using fun e => hs2 e.symm)
  simp only [List.setIfInBounds_toArray, List.set_cons_zero, List.set_cons_succ] at p0
  have f4 := free_of b0 4
  have z4 := cell_of b0 4
  simp only [List.getElem?_toArray, List.getElem?_cons_succ, List.getElem?_cons_zero] at z4
  have C1 := Lib.hid (HS0.out _ 4 (.slice A1 n c1) (C0.out.trans f1.2.2))
  have O1 := Lib.hid (f1.1.chg ((Chg.refl [s0, s1] w1).setCell (p := ⟨s0, 4, none⟩) (.inl (by simp)) (.slice A1 n c1)) n1)
  have N1 := Lib.hid f1.2.1
  have L1 := Lib.hid n1
  have P0 := Lib.hid p0
  have P1 := Lib.hid p1
  clear p0 p1 b0 b1 f1 n1
  go_upto_region 2 with fail
  generalize w1.setCell ⟨s0, 4, none⟩ (.slice A1 n c1) = w2 at *
  clear z4 f4
  have z0 := cell_of P0.out 0
  have z1 := cell_of P0.out 1
  have z2 := cell_of P0.out 2
  have z3 := cell_of P0.out 3
  have z4 := cell_of P0.out 4
  have y0 := cell_of P1.out 0
  have y1 := cell_of P1.out 1
  have y2 := cell_of P1.out 2
  have y3 := cell_of P1.out 3
  have y4 := cell_of P1.out 4
  have k0 := free_of P1.out 0
  have k1 := free_of P1.out 1
  have k2 := free_of P1.out 2
  have k3 := free_of P1.out 3
  have k4 := free_of P1.out 4
  simp only [List.getElem?_toArray, List.getElem?_cons_succ, List.getElem?_cons_zero] at z0 z1 z2 z3 z4 y0 y1 y2 y3 y4
  have P2 := Lib.hid (put5_0 (.int .i64 k) (.int .i64 i) (.int .i64 s) (.int .i64 a) (.slice A1 n c1) P1.out)
  have C2 := Lib.hid (HS1.out _ 4 (.slice A1 n c1) (HS1.out _ 3 (.int .i64 a) (HS1.out _ 2 (.int .i64 s) (HS1.out _ 1 (.int .i64 i) (HS1.out _ 0 (.int .i64 k) C1.out)))))
  have O2 := Lib.hid (O1.out.chg ((((((Chg.refl [s0, s1] w2).setCell (p := ⟨s1, 0, none⟩) (.inl (by simp)) (.int .i64 k)).setCell (p := ⟨s1, 1, none⟩) (.inl (by simp)) (.int .i64 i)).setCell (p := ⟨s1, 2, none⟩) (.inl (by simp)) (.int .i64 s)).setCell (p := ⟨s1, 3, none⟩) (.inl (by simp)) (.int .i64 a)).setCell (p := ⟨s1, 4, none⟩) (.inl (by simp)) (.slice A1 n c1)) L1.out)
  go_wp2
  clear z0 z1 z2 z3 z4 y0 y1 y2 y3 y4 k0 k1 k2 k3 k4
  generalize (((((w2.setCell ⟨s1, 0, none⟩ (.int .i64 k)).setCell ⟨s1, 1, none⟩ (.int .i64 i)).setCell ⟨s1, 2, none⟩ (.int .i64 s)).setCell ⟨s1, 3, none⟩ (.int .i64 a)).setCell ⟨s1, 4, none⟩ (.slice A1 n c1)) = W at *
  have z0 := cell_of P2.out 0
  have z1 := cell_of P2.out 1
  have z2 := cell_of P2.out 2
  have z3 := cell_of P2.out 3
  have z4 := cell_of P2.out 4
  simp only [List.getElem?_toArray, List.getElem?_cons_succ, List.getElem?_cons_zero] at z0 z1 z2 z3 z4
  refine bodyPost_ret (v := .agg #[.int .i64 k, .int .i64 i, .int .i64 s, .int .i64 a, .slice A1 n c1]) (by simp [results, Try.results38, go_sem, z0, z1, z2, z3, z4]) rfl ?_
  exact ⟨A1, c1, rfl, O2.out, fun a e => Nat.le_trans C0.out.size (N1.out a e), C2.out⟩
end
end Go.Proofs.Ytmblalcigbghfaa
