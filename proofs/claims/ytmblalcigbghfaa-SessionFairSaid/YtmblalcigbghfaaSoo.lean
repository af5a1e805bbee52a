/- SessionFair. -/
import Derived.Test.YtmblalcigbghfaaSol
import Derived.Test.YtmblalcigbghfaaSoj
import Derived.Test.YtmblalcigbghfaaSon
import Derived.Test.YtmblalcigbghfaaSom
import Derived.Test.YtmblalcigbghfaaSawk
namespace Go.Proofs.Ytmblalcigbghfaa
section
open Go.RowKit Go.Lib
set_option linter.unusedSimpArgs false
set_option linter.unusedVariables false
def tickN : Nat → SesT → SesT
  | 0, s => s
  | k + 1, s => tickS (tickN k s)
theorem good_ticks {wo : WoT} {n : Nat} (h : Good wo n) : ∀ k : Nat, Good { wo with sa := tickN k wo.sa, sb := tickN k wo.sb } n
  | 0 => h
  | k + 1 => good_tick_b (good_tick_a (good_ticks h k))
/-- All states on the way are such. -/
def RnOk (k : Nat) (x : SesT × SesT) : Prop := (∀ i, i ≤ k → InvS 1000000 (rnN i x).1) ∧ ∀ i, i < k → InvS 1000000 ((outL (rnN i x).1).foldl recvS (rnN i x).2)
theorem RnOk.zero {a b : SesT} (ha : InvS 1000000 a) (hb : InvS 1000000 b) : RnOk 0 (a, b) := by
  refine ⟨fun i hi => ?_, fun i hi => by omega⟩
  obtain rfl : i = 0 := by omega
  exact ha
theorem RnOk.next {k : Nat} {x : SesT × SesT} (h : RnOk k x) (h5 : InvS 1000000 ((outL (rnN k x).1).foldl recvS (rnN k x).2)) (ha : InvS 1000000 (rnN (k + 1) x).1) (hb : InvS 1000000 (rnN (k + 1) x).2) : RnOk (k + 1) x := by
  refine ⟨fun i hi => ?_, fun i hi => ?_⟩
  · by_cases e : i = k + 1
    · subst e; exact ha
    · exact h.1 i (by omega)
  · by_cases e : i = k
    · subst e; exact h5
    · exact h.2 i (by omega)
theorem fair_end {wo : WoT} {n : Nat} {a b : SesT} (h : Good { wo with sa := a, sb := b } n) (r : RnOk 2 (a, b)) (da : ∀ x ∈ a.q, due x.2 = true) (db : ∀ x ∈ b.q, due x.2 = true) :
    wo.t1 ++ (rnN 2 (a, b)).2.inn = wo.s0 ∧ wo.t0 ++ (rnN 2 (a, b)).1.inn = wo.s1 ∧ (rnN 2 (a, b)).1.q = [] ∧ (rnN 2 (a, b)).2.q = [] ∧ wo.s0.length ≤ n ∧ wo.s1.length ≤ n := by
  have q := two_rounds (way_less h.ab (air' := []) (by simp)) (way_less h.ba (air' := []) (by simp)) 1000000 (Nat.le_refl _) (r.1 0 (by omega)) da db rfl rfl (r.2 0 (by omega)) rfl rfl (r.1 1 (by omega)) rfl rfl (r.2 1 (by omega)) rfl rfl
  exact ⟨q.1, q.2.1, q.2.2.1, q.2.2.2, h.l0, h.l1⟩
theorem join4 {α β γ δ : Type} {F R : α → β → γ → δ → Prop} {G : Prop} (h1 : (∀ a b c d, F a b c d → R a b c d) → G) (h2 : ∀ a b c d, F a b c d → R a b c d) : G := h1 h2
theorem fair_small {wo : WoT} {m0 m1 : List SlV} {sa9 sb9 : SesT} {j : Nat} {P Q : Prop} (h0 : m0.length = wo.t0.length) (h1 : m1.length = wo.t1.length) (f : wo.t1 ++ sb9.inn = wo.s0 ∧ wo.t0 ++ sa9.inn = wo.s1 ∧ P ∧ Q ∧ wo.s0.length ≤ j ∧ wo.s1.length ≤ j) (hj : j ≤ 120) : m0.length ≤ 1000000 ∧ m1.length ≤ 1000000 ∧ sa9.inn.length ≤ 1000000 ∧ sb9.inn.length ≤ 1000000 := by
  obtain ⟨a, b, _, _, c, d⟩ := f
  have e1 := congrArg List.length a
  have e2 := congrArg List.length b
  simp only [List.length_append] at e1 e2
  omega
theorem same_took (w : World) (A B : Option Addr) (c d : Nat) (D D' : List Nat) (l l' : List SlV) (ls ls' : List (List UInt8)) (h : OwnK lstTy w A c l) (h' : OwnK lstTy w B d l') (hp : ListP w D l ls) (hp' : ListP w D' l' ls') (hn : ls.length ≤ 1000000) (e : ls' = ls) :
    Calls Try.prog 15 #[.slice A l.length c, .slice B l'.length d] w fun e w' => e = .returned (.bool true) ∧ Chg [] w w' := by
  subst e
  rw [hp.1, hp'.1]
  exact samelists_ok w A B c d D D' l l' ls' h h' hp hp' hn
set_option maxRecDepth 100000 in
set_option maxHeartbeats 8000000 in
theorem fair_yes (w : World) (A : Option Addr) (n c : Nat) (zs : List TurnV) (h : RdK turnTy w A n zs) (hu : ∀ x ∈ zs, TurnR w x) (hm : n * 48 ≤ 140737488351232) :
    Calls Try.prog 5 #[.slice A n c] w fun e w' => e = .returned (.bool true) ∧ Chg [] w w' := by
  have H := Lib.hid h
  have HU := Lib.hid hu
  have HM := Lib.hid hm
  clear h hu hm
  go_enter Try.func5, Try.ntmps5
  go_wp2_with fail
  refine (l18awake_run w).mono ?_
  rintro r w1 ⟨rfl, hc1⟩
  have C1 := Lib.hid hc1
  clear hc1
  go_wp2_with fail
  refine (met_two w1 3 4 (by decide) (by decide)).mono ?_
  rintro r w2 ⟨a, b, rfl, tw⟩
  have TW := Lib.hid tw
  clear tw
  go_wp2_with fail
  have C2 : Hid (Chg [] w w2) := Lib.hid (C1.out.trans (by obtain ⟨_, _, _, _, _, _, _, q⟩ := TW.out; exact q))
  refine (longs_any w2 A n c zs (H.out.chg C2.out (by simp)) (by have := HM.out; omega) (fun x hx => by obtain ⟨ys, _, q⟩ := HU.out x hx; exact q)).mono ?_
  rintro r w3 ⟨⟨bb, rfl, hb⟩, rfl⟩
  have HB := Lib.hid hb
  clear hb
  cases bb
  case true =>
    go_wp2
    go_ret
    exact ⟨rfl, C2.out⟩
  have NL := Lib.hid (HB.out rfl)
  have LN := Lib.hid H.out.len
  go_upto_region 6 with fail
  have WB := Lib.hid TW.out.wl
  have CB : Hid (Chg [] w1 (w3.alloc (.cells #[.pointer (some ⟨a, 0, none⟩), .pointer (some ⟨b, 0, none⟩), .slice none 0 0, .slice none 0 0, .slice none 0 0, .slice none 0 0, .slice none 0 0] 55))) := Lib.hid (Chg.trans (by obtain ⟨_, _, _, _, _, _, _, q⟩ := TW.out; exact q) ((Chg.refl [] w3).alloc _))
  have GM := Lib.hid (good_met 3 4)
  generalize hgg : w3.heap.size = g at *
  clear C2 TW HB hgg
  go_wp2_with fail
  go_loopw [7] (fun v wr => ∃ j : Nat, j ≤ n ∧ v = .int .i64 (j : Int) ∧ Hid (∃ wo, WL w1.heap.size wr g a b (60 + 4 * j) wo ∧ Good wo j) ∧ Hid (Chg [] w1 wr)) (fun v _ => n - (RowKit.intOf v).toNat)
  case atStart => exact ⟨0, Nat.zero_le _, rfl, Lib.hid ⟨_, WB.out, GM.out⟩, CB.out⟩
  case round =>
    clear WB CB GM
    obtain ⟨j, hj, rfl, HWG, CJ⟩ := hrel
    have i0 : (0 : Int) ≤ (j : Int) := by omega
    have nl := NL.out.1
    have ln := LN.out
    have i1 : IntKind.i64.wrap ((j : Int) + 1) = (j : Int) + 1 := IntWalk.i64_in _ (by omega)
    by_cases hlt : j < n
    · have i2 : (j : Int) < (n : Int) := by omega
      obtain ⟨x, hx⟩ : ∃ x, zs[j]? = some x := ⟨_, List.getElem?_eq_getElem (by omega)⟩
      obtain ⟨gz, oz, rfl, _⟩ := H.out.line (by omega)
      have rj := (H.out.chg C1.out (by simp)).chg CJ.out (by simp)
      obtain ⟨f1, f2, f3, f4⟩ := turnCells rj hx
      obtain ⟨ys, by_, sm⟩ := HU.out x (List.mem_of_getElem? hx)
      obtain ⟨x1, x2, x3, xA, xn, xd⟩ := x
      dsimp only at f1 f2 f3 f4 by_ sm
      have BY := Lib.hid by_
      have SM := Lib.hid sm
      clear hx rj by_ sm
      obtain ⟨wo, hwl, hgood⟩ := HWG.out
      have WJ := Lib.hid hwl
      have GJ := Lib.hid hgood
      have BJ := Lib.hid ((BY.out.chg C1.out (by simp)).chg CJ.out (by simp))
      have YL : Hid (ys = [] ∨ ∀ y, xA = some y → y.block < w1.heap.size) := Lib.hid (BY.out.chg C1.out (by simp)).old
      clear hwl hgood HWG
      go_wp2_with fail
      refine (lawturn_any w1 wr g a b (60 + 4 * j) j wo WJ.out CJ.out (by omega) GJ.out (by omega) x2 x3 xA xn xd x1 ys BJ.out YL.out SM.out).mono ?_
      rintro r w5 ⟨rfl, h5, c5⟩
      have W5 : Hid (∃ wo, WL w1.heap.size w5 g a b (60 + 4 * (j + 1)) wo ∧ Good wo (j + 1)) := Lib.hid h5
      have C5 := Lib.hid c5
      clear h5 c5 WJ GJ BJ YL f1 f2 f3 f4
      go_wp2
      go_round
      case measure => simp [RowKit.intOf]; omega
      exact ⟨j + 1, by omega, by go_num, W5.out, C5.out⟩
    have i2 : ¬ (j : Int) < (n : Int) := by omega
    obtain ⟨wo, hwl, hgood⟩ := HWG.out
    have WJ := Lib.hid hwl
    have GJ := Lib.hid hgood
    have JN : Hid (j ≤ 120) := Lib.hid (by omega)
    have WJI := Lib.hid hwl
    clear hwl hgood HWG hlt i0 i1 nl ln hj
    go_wp2_with fail
    clear i2
    generalize wr = wl at *
    clear wr
    go_loopw [8] (fun v wr => ∃ k : Nat, k ≤ 4 ∧ v = .int .i64 (k : Int) ∧ Hid (WL w1.heap.size wr g a b (60 + 4 * j + 2 * k) { wo with sa := tickN k wo.sa, sb := tickN k wo.sb }) ∧ Hid (Chg [] w1 wr)) (fun v _ => 4 - (RowKit.intOf v).toNat)
    case atStart => exact ⟨0, Nat.zero_le _, rfl, WJ.out, CJ.out⟩
    case round =>
      clear WJ CJ
      obtain ⟨k, hk, rfl, HW, CK⟩ := hrel
      have i0 : (0 : Int) ≤ (k : Int) := by omega
      have i1 : IntKind.i64.wrap ((k : Int) + 1) = (k : Int) + 1 := IntWalk.i64_in _ (by omega)
      by_cases hlt : k < 4
      · have i2 : (k : Int) < 4 := by omega
        go_wp2_with fail
        refine (tick_wl_a w1 wr g a b _ _ HW.out CK.out (by have := JN.out; omega)).mono ?_
        rintro r w5 ⟨rfl, h5, c5⟩
        have W5 := Lib.hid h5
        have C5 := Lib.hid c5
        clear h5 c5 HW CK
        go_wp2_with fail
        refine (tick_wl_b w1 w5 g a b _ _ W5.out C5.out (by have := JN.out; omega)).mono ?_
        rintro r w6 ⟨rfl, h6, c6⟩
        have W6 : Hid (WL w1.heap.size w6 g a b (60 + 4 * j + 2 * (k + 1)) { wo with sa := tickN (k + 1) wo.sa, sb := tickN (k + 1) wo.sb }) := Lib.hid h6
        have C6 := Lib.hid c6
        clear h6 c6 W5 C5
        go_wp2
        go_round
        case measure => simp [RowKit.intOf]; omega
        exact ⟨k + 1, by omega, by go_num, W6.out, C6.out⟩
      obtain rfl : k = 4 := by omega
      have i2 : ¬ ((4 : Nat) : Int) < 4 := by omega
      have KE : Hid (InvS 1000000 (tickN 4 wo.sa) ∧ InvS 1000000 (tickN 4 wo.sb)) := Lib.hid (by
        obtain ⟨Ar, cr, lr, P0, c0, l0, P1, c1, l1, Q0, d0, m0, Q1, d1, m1, Aa, Da, Ab, Db, F, h⟩ := HW.out
        exact ⟨h.sa.inv.more (by have := JN.out; omega), h.sb.inv.more (by have := JN.out; omega)⟩)
      have GT : Hid (Good { wo with sa := tickN 4 wo.sa, sb := tickN 4 wo.sb } j) := Lib.hid (good_ticks GJ.out 4)
      have DU : Hid ((∀ x ∈ (tickN 4 wo.sa).q, due x.2 = true) ∧ ∀ x ∈ (tickN 4 wo.sb).q, due x.2 = true) := Lib.hid (by
        have q := GJ.out
        exact ⟨tick_due (K := 1000000) (by obtain ⟨Ar, cr, lr, P0, c0, l0, P1, c1, l1, Q0, d0, m0, Q1, d1, m1, Aa, Da, Ab, Db, F, h⟩ := WJI.out; exact h.sa.inv.more (by have := JN.out; omega)), tick_due (K := 1000000) (by obtain ⟨Ar, cr, lr, P0, c0, l0, P1, c1, l1, Q0, d0, m0, Q1, d1, m1, Aa, Da, Ab, Db, F, h⟩ := WJI.out; exact h.sb.inv.more (by have := JN.out; omega))⟩)
      clear GJ hk i0 i1 hlt
      go_wp2_with fail
      clear i2
      generalize wr = wk at *
      clear wr
      generalize tickN 4 wo.sa = sta at *
      generalize tickN 4 wo.sb = stb at *
      go_loopw [9] (fun v wr => ∃ k : Nat, k ≤ 2 ∧ v = .int .i64 (k : Int) ∧ Hid (WL w1.heap.size wr g a b (68 + 4 * j + 40 * k) { wo with sa := (rnN k (sta, stb)).1, sb := (rnN k (sta, stb)).2 }) ∧ Hid (RnOk k (sta, stb)) ∧ Hid (Chg [] w1 wr)) (fun v _ => 2 - (RowKit.intOf v).toNat)
      case atStart => exact ⟨0, Nat.zero_le _, rfl, by
        have q := HW.out
        rw [show 60 + 4 * j + 2 * 4 = 68 + 4 * j + 40 * 0 from by omega] at q
        exact q, RnOk.zero KE.out.1 KE.out.2, CK.out⟩
      case round =>
        clear HW CK
        obtain ⟨k, hk, rfl, HW, RO, CK⟩ := hrel
        have i0 : (0 : Int) ≤ (k : Int) := by omega
        have i1 : IntKind.i64.wrap ((k : Int) + 1) = (k : Int) + 1 := IntWalk.i64_in _ (by omega)
        by_cases hlt : k < 2
        · have i2 : (k : Int) < 2 := by omega
          go_wp2_with fail
          refine (hands_wl_ab w1 wr g a b _ _ HW.out CK.out (by have := JN.out; omega)).mono ?_
          rintro r w5 ⟨rfl, h5, c5⟩
          have W5 := Lib.hid h5
          have C5 := Lib.hid c5
          clear h5 c5 HW CK
          have IV5 : Hid (InvS 1000000 ((outL (rnN k (sta, stb)).1).foldl recvS (rnN k (sta, stb)).2)) := Lib.hid (by
            obtain ⟨Ar, cr, lr, P0, c0, l0, P1, c1, l1, Q0, d0, m0, Q1, d1, m1, Aa, Da, Ab, Db, F, h⟩ := W5.out
            exact h.sb.inv.more (by have := JN.out; omega))
          go_wp2_with fail
          refine (hands_wl_ba w1 w5 g a b _ _ W5.out C5.out (by have := JN.out; omega)).mono ?_
          rintro r w6 ⟨rfl, h6, c6⟩
          have W6 : Hid (WL w1.heap.size w6 g a b (68 + 4 * j + 40 * (k + 1)) { wo with sa := (rnN (k + 1) (sta, stb)).1, sb := (rnN (k + 1) (sta, stb)).2 }) := Lib.hid (by
            have e : 68 + 4 * j + 40 * k + 20 + 20 = 68 + 4 * j + 40 * (k + 1) := by omega
            rw [e] at h6
            exact h6)
          have C6 := Lib.hid c6
          clear h6 c6 W5 C5
          have RO6 : Hid (RnOk (k + 1) (sta, stb)) := Lib.hid (by
            obtain ⟨Ar, cr, lr, P0, c0, l0, P1, c1, l1, Q0, d0, m0, Q1, d1, m1, Aa, Da, Ab, Db, F, h⟩ := W6.out
            exact RO.out.next IV5.out (h.sa.inv.more (by have := JN.out; omega)) (h.sb.inv.more (by have := JN.out; omega)))
          go_wp2
          go_round
          case measure => simp [RowKit.intOf]; omega
          exact ⟨k + 1, by omega, by go_num, W6.out, RO6.out, C6.out⟩
        obtain rfl : k = 2 := by omega
        have i2 : ¬ ((2 : Nat) : Int) < 2 := by omega
        have FA := Lib.hid (fair_end GT.out RO.out DU.out.1 DU.out.2)
        clear hk i0 i1 hlt GT RO DU KE
        go_upto_region 20 with fail
        clear i2
        generalize rnN 2 (sta, stb) = fin at *
        obtain ⟨sa9, sb9⟩ := fin
        dsimp only at HW FA
        generalize 68 + 4 * j + 40 * 2 = kk at *
        obtain ⟨Ar, cr, lr, P0, c0, l0, P1, c1, l1, Q0, d0, m0, Q1, d1, m1, Aa, Da, Ab, Db, F, hw⟩ := HW.out
        replace HW := Lib.hid hw
        replace CX := CK
        clear hw CK
        have SZ : Hid (m0.length ≤ 1000000 ∧ m1.length ≤ 1000000 ∧ sa9.inn.length ≤ 1000000 ∧ sb9.inn.length ≤ 1000000) := Lib.hid (fair_small HW.out.r0.1 HW.out.r1.1 FA.out JN.out)
        refine wp_region_held_drew (S := fun _ => True) (by kernel_rfl) trivial (fun hHeld => ?_)
        have CD := Lib.hid (Chg.refl [] wr).drew
        replace HW := Lib.hid (HW.out.off CD.out (by simp))
        replace CX := Lib.hid (CX.out.trans CD.out)
        have NG : Hid (g ∉ [a]) := Lib.hid (fun q => HW.out.pw.pick (i := 0) (j := 6) rfl rfl (by decide) g (by simp) (by simp at q; simp [q]))
        clear CD hHeld
        generalize wr.drew = wt at *
        refine' join4 (F := fun (A5 : Option Addr) (c5 cu : Nat) (w6 : World) => Hid (∃ lt, WP w1.heap.size w6 g a b kk { wo with sa := takeS sa9, sb := sb9, t0 := wo.t0 ++ sa9.inn } Ar cr lr P0 c0 l0 P1 c1 l1 A5 c5 (m0 ++ lt) Q1 d1 m1 none Da Ab Db F ∧ lt.length = sa9.inn.length) ∧ Hid (Chg [] w1 w6)) (R := _) (fun JOIN => ?leaf) ?rest
        case leaf =>
          have hHeld := trivial
          refine sy 0 69 rfl rfl ?_ (hS := trivial)
          try simp only [Act.put, sA, s0, s1]
          refine sy 1 70 rfl rfl ?_ (hS := trivial)
          try simp only [Act.put, sA, s0, s1]
          refine sy 2 71 rfl rfl ?_ (hS := trivial)
          try simp only [Act.put, sA, s0, s1]
          refine sy 3 72 rfl rfl ?_ (hS := trivial)
          try simp only [Act.put, sA, s0, s1]
          refine sy 4 73 rfl rfl ?_ (hS := trivial)
          try simp only [Act.put, sA, s0, s1]
          refine sy 6 75 rfl rfl ?_ (hS := trivial)
          try simp only [Act.put, sA, s0, s1]
          refine sy 9 78 rfl rfl ?_ (hS := trivial)
          try simp only [Act.put, sA, s0, s1]
          refine sy 10 79 rfl rfl ?_ (hS := trivial)
          try simp only [Act.put, sA, s0, s1]
          refine wpAnyH_ready (rs := [5, 7]) (by kernel_rfl) (by simp) ?_
          refine AllReadyH.cons rfl (fun K hK => ?_) (AllReadyH.cons rfl (fun K hK => ?_) AllReadyH.nil)
          · skip
            replace hK := Lib.hid hK
            have z := cell_of (Chg.at_ (Chg.refl [] wt) HW.out.hg (by simp)) 5
            simp only [List.getElem?_toArray, List.getElem?_cons_succ, List.getElem?_cons_zero] at z
            go_simp
            clear z
            refine hK.out _ _ trivial (fun hHeld => ?_)
            clear hK K
            try simp only [Act.put, sA, s0, s1]
            refine wpAnyH_ready (rs := [7]) (by kernel_rfl) (by simp) ?_
            refine AllReadyH.cons rfl (fun K hK => ?_) AllReadyH.nil
            replace hK := Lib.hid hK
            go_simp
            refine (takeL HW.out.sa).mono ?_
            rintro r wu ⟨cu, lt, rfl, ou, pu, su, hu⟩
            have OU := Lib.hid ou
            have PU := Lib.hid pu
            have SU := Lib.hid su
            have CU := Lib.hid hu
            clear ou pu su hu hHeld
            refine hK.out _ _ trivial (fun hHeld => ?_)
            clear hK K
            try simp only [Act.put, sA, s0, s1]
            refine wpAnyH_ready (rs := [8]) (by kernel_rfl) (by simp) ?_
            refine AllReadyH.cons rfl (fun K hK => ?_) AllReadyH.nil
            replace hK := Lib.hid hK
            have QO : OwnK lstTy wu Q0 d0 m0 := HW.out.q0.chg CU.out (fun y hy hm => HW.out.pw.pick (i := 4) (j := 6) rfl rfl (by decide) y.block (mem_blkOf hy) (by simp at hm; simp [hm]))
            have LT : lt.length = sa9.inn.length := PU.out.1
            have OR := OU.out.reads
            rw [LT] at OR
            refine step_appK (R := lstTy) rfl (.tmp 74) (.tmp 76) rfl rfl (A := Q0) (B := Aa) (n := m0.length) (m := sa9.inn.length) (c := d0) (d := cu) (xs := m0) (ys := lt) QO rfl rfl OR (by have := SZ.out.1; have := SZ.out.2.1; have := SZ.out.2.2.1; have := SZ.out.2.2.2; omega) ?_
            intro A5 c5 w5 o5 g5 e5
            have O5 := Lib.hid o5
            have C5 : Hid (Chg (blkOf Q0) wu w5) := Lib.hid ((Chg.refl (blkOf Q0) wu).grown g5 (fun k hk => .inl (by simpa [blkOf] using hk)))
            have E5 := Lib.hid e5
            have QN : Hid (g ∉ blkOf Q0) := Lib.hid (fun q => HW.out.pw.pick (i := 0) (j := 4) rfl rfl (by decide) g (by simp) q)
            have HG5 := Lib.hid (C5.out.at_ (CU.out.at_ HW.out.hg NG.out) QN.out)
            have LT2 := Lib.hid LT
            clear o5 g5 e5 hHeld QO LT OR
            refine hK.out _ _ trivial (fun hHeld => ?_)
            clear hK K
            try simp only [Act.put, sA, s0, s1]
            refine sy 11 80 rfl rfl ?_ (hS := trivial)
            try simp only [Act.put, sA, s0, s1]
            refine wpAnyH_ready (rs := [12]) (by kernel_rfl) (by simp) ?_
            refine AllReadyH.cons rfl (fun K hK => ?_) AllReadyH.nil
            replace hK := Lib.hid hK
            have z := cell_of HG5.out 5
            have fz := free_of HG5.out 5
            simp only [List.getElem?_toArray, List.getElem?_cons_succ, List.getElem?_cons_zero] at z
            go_simp
            clear z fz hHeld
            refine hK.out _ _ trivial (fun hHeld => ?_)
            clear hK K
            try simp only [Act.put, sA, s0, s1]
            refine wpAnyH_done (by kernel_rfl) ?_ _
            have hg' := heap_setCell_same _ g 5 _ _ (.slice A5 (m0.length + sa9.inn.length) c5) HG5.out
            have cg : Chg [g] w5 (w5.setCell ⟨g, 5, none⟩ (.slice A5 (m0.length + sa9.inn.length) c5)) := (Chg.refl [g] w5).setCell (.inl (by simp)) _
            generalize (w5.setCell ⟨g, 5, none⟩ (.slice A5 (m0.length + sa9.inn.length) c5)) = w6 at *
            have WT := HW.out.sesa CU.out (fun z hz => by simp at hz; simp [hz]) [] (K' := kk) (by omega) none Da _ (SU.out.more (by omega)) (fun z hz => .inl hz) (by simp) (fun z hz => .inl (by simp [blkOf] at hz; simp [hz])) (fun z hz => by simp [blkOf] at hz; rw [hz]; exact SU.out.lt.1) (by simp) CX.out.size
            have CT := CX.out.on CU.out (fun z hz => (HW.out.lo (a :: blkOf Aa) (by simp) z (by simp at hz; simp [hz])).1)
            have A5N : ∀ x, A5 = some x → Q0 = some x ∨ wu.heap.size ≤ x.block := fun x hx => by
              rcases E5.out with q | q
              · exact .inl (q ▸ hx)
              · right; rw [q] at hx; cases hx; exact Nat.le_refl _
            have glt : g < wu.heap.size := lt_of_heap WT.hg
            have A5g : g ∉ blkOf A5 := fun hm => by
              obtain ⟨x, hx, q⟩ := of_blkOf hm
              rcases A5N x hx with q2 | q2
              · exact QN.out (by rw [← q]; exact mem_blkOf q2)
              · omega
            have hc : Chg (g :: blkOf Q0) wu w6 := (C5.out.mono (fun z hz => .inl (List.mem_cons_of_mem _ hz))).trans (cg.mono (fun z hz => .inl (by simp at hz; simp [hz])))
            have frz : ∀ z ∈ F, z ∉ g :: blkOf Q0 := fun z hz hm => by
              rcases List.mem_cons.1 hm with q | q
              · exact WT.pw.pick (i := 8) (j := 0) rfl rfl (by decide) z hz (by simp [q])
              · exact WT.pw.pick (i := 8) (j := 4) rfl rfl (by decide) z hz q
            have o6 := O5.out.chg cg (fun x hx hm => A5g (by simp at hm; rw [← hm]; exact mem_blkOf hx))
            have l6 := (lp_app WT.r0 (PU.out.more HW.out.fa)).chg hc frz
            have WF := Lib.hid (WT.rowQ0 hc (fun z hz => List.mem_cons.1 hz) [] (K' := kk) (Nat.le_refl _) A5 c5 (m0 ++ lt) _ (by rw [hg', show (m0 ++ lt).length = m0.length + sa9.inn.length from by rw [List.length_append, LT2.out]]; simp) o6 l6 (by simp) (fun z hz => by obtain ⟨y, hy, rfl⟩ := of_blkOf hz; exact (A5N y hy).imp (fun q => mem_blkOf q) id) (fun z hz => by obtain ⟨y, hy, rfl⟩ := of_blkOf hz; exact o6.lt y hy) (by simp) CT.size)
            have CF := Lib.hid (CT.on hc (fun z hz => by
              rcases List.mem_cons.1 hz with q | q
              · exact (WT.lo [g] (by simp) z (by simp [q])).1
              · exact (WT.lo (blkOf Q0) (by simp) z q).1))
            exact JOIN A5 c5 cu w6 ⟨Lib.hid ⟨lt, WF.out, LT2.out⟩, CF⟩
          · skip
            replace hK := Lib.hid hK
            go_simp
            refine (takeL HW.out.sa).mono ?_
            rintro r wu ⟨cu, lt, rfl, ou, pu, su, hu⟩
            have OU := Lib.hid ou
            have PU := Lib.hid pu
            have SU := Lib.hid su
            have CU := Lib.hid hu
            clear ou pu su hu hHeld
            refine hK.out _ _ trivial (fun hHeld => ?_)
            clear hK K
            try simp only [Act.put, sA, s0, s1]
            refine wpAnyH_ready (rs := [5]) (by kernel_rfl) (by simp) ?_
            refine AllReadyH.cons rfl (fun K hK => ?_) AllReadyH.nil
            replace hK := Lib.hid hK
            have z := cell_of (Chg.at_ CU.out HW.out.hg NG.out) 5
            simp only [List.getElem?_toArray, List.getElem?_cons_succ, List.getElem?_cons_zero] at z
            go_simp
            clear z
            refine hK.out _ _ trivial (fun hHeld => ?_)
            clear hK K
            try simp only [Act.put, sA, s0, s1]
            refine wpAnyH_ready (rs := [8]) (by kernel_rfl) (by simp) ?_
            refine AllReadyH.cons rfl (fun K hK => ?_) AllReadyH.nil
            replace hK := Lib.hid hK
            have QO : OwnK lstTy wu Q0 d0 m0 := HW.out.q0.chg CU.out (fun y hy hm => HW.out.pw.pick (i := 4) (j := 6) rfl rfl (by decide) y.block (mem_blkOf hy) (by simp at hm; simp [hm]))
            have LT : lt.length = sa9.inn.length := PU.out.1
            have OR := OU.out.reads
            rw [LT] at OR
            refine step_appK (R := lstTy) rfl (.tmp 74) (.tmp 76) rfl rfl (A := Q0) (B := Aa) (n := m0.length) (m := sa9.inn.length) (c := d0) (d := cu) (xs := m0) (ys := lt) QO rfl rfl OR (by have := SZ.out.1; have := SZ.out.2.1; have := SZ.out.2.2.1; have := SZ.out.2.2.2; omega) ?_
            intro A5 c5 w5 o5 g5 e5
            have O5 := Lib.hid o5
            have C5 : Hid (Chg (blkOf Q0) wu w5) := Lib.hid ((Chg.refl (blkOf Q0) wu).grown g5 (fun k hk => .inl (by simpa [blkOf] using hk)))
            have E5 := Lib.hid e5
            have QN : Hid (g ∉ blkOf Q0) := Lib.hid (fun q => HW.out.pw.pick (i := 0) (j := 4) rfl rfl (by decide) g (by simp) q)
            have HG5 := Lib.hid (C5.out.at_ (CU.out.at_ HW.out.hg NG.out) QN.out)
            have LT2 := Lib.hid LT
            clear o5 g5 e5 hHeld QO LT OR
            refine hK.out _ _ trivial (fun hHeld => ?_)
            clear hK K
            try simp only [Act.put, sA, s0, s1]
            refine sy 11 80 rfl rfl ?_ (hS := trivial)
            try simp only [Act.put, sA, s0, s1]
            refine wpAnyH_ready (rs := [12]) (by kernel_rfl) (by simp) ?_
            refine AllReadyH.cons rfl (fun K hK => ?_) AllReadyH.nil
            replace hK := Lib.hid hK
            have z := cell_of HG5.out 5
            have fz := free_of HG5.out 5
            simp only [List.getElem?_toArray, List.getElem?_cons_succ, List.getElem?_cons_zero] at z
            go_simp
            clear z fz hHeld
            refine hK.out _ _ trivial (fun hHeld => ?_)
            clear hK K
            try simp only [Act.put, sA, s0, s1]
            refine wpAnyH_done (by kernel_rfl) ?_ _
            have hg' := heap_setCell_same _ g 5 _ _ (.slice A5 (m0.length + sa9.inn.length) c5) HG5.out
            have cg : Chg [g] w5 (w5.setCell ⟨g, 5, none⟩ (.slice A5 (m0.length + sa9.inn.length) c5)) := (Chg.refl [g] w5).setCell (.inl (by simp)) _
            generalize (w5.setCell ⟨g, 5, none⟩ (.slice A5 (m0.length + sa9.inn.length) c5)) = w6 at *
            have WT := HW.out.sesa CU.out (fun z hz => by simp at hz; simp [hz]) [] (K' := kk) (by omega) none Da _ (SU.out.more (by omega)) (fun z hz => .inl hz) (by simp) (fun z hz => .inl (by simp [blkOf] at hz; simp [hz])) (fun z hz => by simp [blkOf] at hz; rw [hz]; exact SU.out.lt.1) (by simp) CX.out.size
            have CT := CX.out.on CU.out (fun z hz => (HW.out.lo (a :: blkOf Aa) (by simp) z (by simp at hz; simp [hz])).1)
            have A5N : ∀ x, A5 = some x → Q0 = some x ∨ wu.heap.size ≤ x.block := fun x hx => by
              rcases E5.out with q | q
              · exact .inl (q ▸ hx)
              · right; rw [q] at hx; cases hx; exact Nat.le_refl _
            have glt : g < wu.heap.size := lt_of_heap WT.hg
            have A5g : g ∉ blkOf A5 := fun hm => by
              obtain ⟨x, hx, q⟩ := of_blkOf hm
              rcases A5N x hx with q2 | q2
              · exact QN.out (by rw [← q]; exact mem_blkOf q2)
              · omega
            have hc : Chg (g :: blkOf Q0) wu w6 := (C5.out.mono (fun z hz => .inl (List.mem_cons_of_mem _ hz))).trans (cg.mono (fun z hz => .inl (by simp at hz; simp [hz])))
            have frz : ∀ z ∈ F, z ∉ g :: blkOf Q0 := fun z hz hm => by
              rcases List.mem_cons.1 hm with q | q
              · exact WT.pw.pick (i := 8) (j := 0) rfl rfl (by decide) z hz (by simp [q])
              · exact WT.pw.pick (i := 8) (j := 4) rfl rfl (by decide) z hz q
            have o6 := O5.out.chg cg (fun x hx hm => A5g (by simp at hm; rw [← hm]; exact mem_blkOf hx))
            have l6 := (lp_app WT.r0 (PU.out.more HW.out.fa)).chg hc frz
            have WF := Lib.hid (WT.rowQ0 hc (fun z hz => List.mem_cons.1 hz) [] (K' := kk) (Nat.le_refl _) A5 c5 (m0 ++ lt) _ (by rw [hg', show (m0 ++ lt).length = m0.length + sa9.inn.length from by rw [List.length_append, LT2.out]]; simp) o6 l6 (by simp) (fun z hz => by obtain ⟨y, hy, rfl⟩ := of_blkOf hz; exact (A5N y hy).imp (fun q => mem_blkOf q) id) (fun z hz => by obtain ⟨y, hy, rfl⟩ := of_blkOf hz; exact o6.lt y hy) (by simp) CT.size)
            have CF := Lib.hid (CT.on hc (fun z hz => by
              rcases List.mem_cons.1 hz with q | q
              · exact (WT.lo [g] (by simp) z (by simp [q])).1
              · exact (WT.lo (blkOf Q0) (by simp) z q).1))
            exact JOIN A5 c5 cu w6 ⟨Lib.hid ⟨lt, WF.out, LT2.out⟩, CF⟩
        case rest =>
          rintro A5 c5 cu w6 ⟨HX, CX⟩
          obtain ⟨lt, hw, hlt⟩ := HX.out
          have HW := Lib.hid hw
          have LTA := Lib.hid hlt
          clear hw hlt HX
          generalize A5 = R0 at *
          generalize c5 = e0 at *
          generalize hml : m0 ++ lt = k0 at *
          have LK0 : Hid (k0.length = m0.length + sa9.inn.length) := Lib.hid (by rw [← hml, List.length_append, LTA.out])
          clear hml LTA
          go_upto_region 21 with fail
          refine wp_region_held_drew (S := fun _ => True) (by kernel_rfl) trivial (fun hHeld => ?_)
          have CD := Lib.hid (Chg.refl [] w6).drew
          replace HW := Lib.hid (HW.out.off CD.out (by simp))
          replace CX := Lib.hid (CX.out.trans CD.out)
          have NG : Hid (g ∉ [b]) := Lib.hid (fun q => HW.out.pw.pick (i := 0) (j := 7) rfl rfl (by decide) g (by simp) (by simp at q; simp [q]))
          clear CD hHeld
          generalize w6.drew = wt at *
          refine' join4 (F := fun (A5 : Option Addr) (c5 cu : Nat) (w6 : World) => Hid (∃ lt, WP w1.heap.size w6 g a b kk { wo with sa := takeS sa9, sb := takeS sb9, t0 := wo.t0 ++ sa9.inn, t1 := wo.t1 ++ sb9.inn } Ar cr lr P0 c0 l0 P1 c1 l1 R0 e0 k0 A5 c5 (m1 ++ lt) none Da none Db F ∧ lt.length = sb9.inn.length) ∧ Hid (Chg [] w1 w6)) (R := _) (fun JOIN => ?leaf) ?rest
          case leaf =>
            have hHeld := trivial
            refine sy 0 81 rfl rfl ?_ (hS := trivial)
            try simp only [Act.put, sA, s0, s1]
            refine sy 1 82 rfl rfl ?_ (hS := trivial)
            try simp only [Act.put, sA, s0, s1]
            refine sy 2 83 rfl rfl ?_ (hS := trivial)
            try simp only [Act.put, sA, s0, s1]
            refine sy 3 84 rfl rfl ?_ (hS := trivial)
            try simp only [Act.put, sA, s0, s1]
            refine sy 4 85 rfl rfl ?_ (hS := trivial)
            try simp only [Act.put, sA, s0, s1]
            refine sy 6 87 rfl rfl ?_ (hS := trivial)
            try simp only [Act.put, sA, s0, s1]
            refine sy 9 90 rfl rfl ?_ (hS := trivial)
            try simp only [Act.put, sA, s0, s1]
            refine sy 10 91 rfl rfl ?_ (hS := trivial)
            try simp only [Act.put, sA, s0, s1]
            refine wpAnyH_ready (rs := [5, 7]) (by kernel_rfl) (by simp) ?_
            refine AllReadyH.cons rfl (fun K hK => ?_) (AllReadyH.cons rfl (fun K hK => ?_) AllReadyH.nil)
            · skip
              replace hK := Lib.hid hK
              have z := cell_of (Chg.at_ (Chg.refl [] wt) HW.out.hg (by simp)) 6
              simp only [List.getElem?_toArray, List.getElem?_cons_succ, List.getElem?_cons_zero] at z
              go_simp
              clear z
              refine hK.out _ _ trivial (fun hHeld => ?_)
              clear hK K
              try simp only [Act.put, sA, s0, s1]
              refine wpAnyH_ready (rs := [7]) (by kernel_rfl) (by simp) ?_
              refine AllReadyH.cons rfl (fun K hK => ?_) AllReadyH.nil
              replace hK := Lib.hid hK
              go_simp
              refine (takeL HW.out.sb).mono ?_
              rintro r wu ⟨cu, lt, rfl, ou, pu, su, hu⟩
              have OU := Lib.hid ou
              have PU := Lib.hid pu
              have SU := Lib.hid su
              have CU := Lib.hid hu
              clear ou pu su hu hHeld
              refine hK.out _ _ trivial (fun hHeld => ?_)
              clear hK K
              try simp only [Act.put, sA, s0, s1]
              refine wpAnyH_ready (rs := [8]) (by kernel_rfl) (by simp) ?_
              refine AllReadyH.cons rfl (fun K hK => ?_) AllReadyH.nil
              replace hK := Lib.hid hK
              have QO : OwnK lstTy wu Q1 d1 m1 := HW.out.q1.chg CU.out (fun y hy hm => HW.out.pw.pick (i := 5) (j := 7) rfl rfl (by decide) y.block (mem_blkOf hy) (by simp at hm; simp [hm]))
              have LT : lt.length = sb9.inn.length := PU.out.1
              have OR := OU.out.reads
              rw [LT] at OR
              refine step_appK (R := lstTy) rfl (.tmp 86) (.tmp 88) rfl rfl (A := Q1) (B := Ab) (n := m1.length) (m := sb9.inn.length) (c := d1) (d := cu) (xs := m1) (ys := lt) QO rfl rfl OR (by have := SZ.out.1; have := SZ.out.2.1; have := SZ.out.2.2.1; have := SZ.out.2.2.2; omega) ?_
              intro A5 c5 w5 o5 g5 e5
              have O5 := Lib.hid o5
              have C5 : Hid (Chg (blkOf Q1) wu w5) := Lib.hid ((Chg.refl (blkOf Q1) wu).grown g5 (fun k hk => .inl (by simpa [blkOf] using hk)))
              have E5 := Lib.hid e5
              have QN : Hid (g ∉ blkOf Q1) := Lib.hid (fun q => HW.out.pw.pick (i := 0) (j := 5) rfl rfl (by decide) g (by simp) q)
              have HG5 := Lib.hid (C5.out.at_ (CU.out.at_ HW.out.hg NG.out) QN.out)
              have LT2 := Lib.hid LT
              clear o5 g5 e5 hHeld QO LT OR
              refine hK.out _ _ trivial (fun hHeld => ?_)
              clear hK K
              try simp only [Act.put, sA, s0, s1]
              refine sy 11 92 rfl rfl ?_ (hS := trivial)
              try simp only [Act.put, sA, s0, s1]
              refine wpAnyH_ready (rs := [12]) (by kernel_rfl) (by simp) ?_
              refine AllReadyH.cons rfl (fun K hK => ?_) AllReadyH.nil
              replace hK := Lib.hid hK
              have z := cell_of HG5.out 6
              have fz := free_of HG5.out 6
              simp only [List.getElem?_toArray, List.getElem?_cons_succ, List.getElem?_cons_zero] at z
              go_simp
              clear z fz hHeld
              refine hK.out _ _ trivial (fun hHeld => ?_)
              clear hK K
              try simp only [Act.put, sA, s0, s1]
              refine wpAnyH_done (by kernel_rfl) ?_ _
              have hg' := heap_setCell_same _ g 6 _ _ (.slice A5 (m1.length + sb9.inn.length) c5) HG5.out
              have cg : Chg [g] w5 (w5.setCell ⟨g, 6, none⟩ (.slice A5 (m1.length + sb9.inn.length) c5)) := (Chg.refl [g] w5).setCell (.inl (by simp)) _
              generalize (w5.setCell ⟨g, 6, none⟩ (.slice A5 (m1.length + sb9.inn.length) c5)) = w6 at *
              have WT := HW.out.sesb CU.out (fun z hz => by simp at hz; simp [hz]) [] (K' := kk) (by omega) none Db _ (SU.out.more (by omega)) (fun z hz => .inl hz) (by simp) (fun z hz => .inl (by simp [blkOf] at hz; simp [hz])) (fun z hz => by simp [blkOf] at hz; rw [hz]; exact SU.out.lt.1) (by simp) CX.out.size
              have CT := CX.out.on CU.out (fun z hz => (HW.out.lo (b :: blkOf Ab) (by simp) z (by simp at hz; simp [hz])).1)
              have A5N : ∀ x, A5 = some x → Q1 = some x ∨ wu.heap.size ≤ x.block := fun x hx => by
                rcases E5.out with q | q
                · exact .inl (q ▸ hx)
                · right; rw [q] at hx; cases hx; exact Nat.le_refl _
              have glt : g < wu.heap.size := lt_of_heap WT.hg
              have A5g : g ∉ blkOf A5 := fun hm => by
                obtain ⟨x, hx, q⟩ := of_blkOf hm
                rcases A5N x hx with q2 | q2
                · exact QN.out (by rw [← q]; exact mem_blkOf q2)
                · omega
              have hc : Chg (g :: blkOf Q1) wu w6 := (C5.out.mono (fun z hz => .inl (List.mem_cons_of_mem _ hz))).trans (cg.mono (fun z hz => .inl (by simp at hz; simp [hz])))
              have frz : ∀ z ∈ F, z ∉ g :: blkOf Q1 := fun z hz hm => by
                rcases List.mem_cons.1 hm with q | q
                · exact WT.pw.pick (i := 8) (j := 0) rfl rfl (by decide) z hz (by simp [q])
                · exact WT.pw.pick (i := 8) (j := 5) rfl rfl (by decide) z hz q
              have o6 := O5.out.chg cg (fun x hx hm => A5g (by simp at hm; rw [← hm]; exact mem_blkOf hx))
              have l6 := (lp_app WT.r1 (PU.out.more HW.out.fb)).chg hc frz
              have WF := Lib.hid (WT.rowQ1 hc (fun z hz => List.mem_cons.1 hz) [] (K' := kk) (Nat.le_refl _) A5 c5 (m1 ++ lt) _ (by rw [hg', show (m1 ++ lt).length = m1.length + sb9.inn.length from by rw [List.length_append, LT2.out]]; simp) o6 l6 (by simp) (fun z hz => by obtain ⟨y, hy, rfl⟩ := of_blkOf hz; exact (A5N y hy).imp (fun q => mem_blkOf q) id) (fun z hz => by obtain ⟨y, hy, rfl⟩ := of_blkOf hz; exact o6.lt y hy) (by simp) CT.size)
              have CF := Lib.hid (CT.on hc (fun z hz => by
                rcases List.mem_cons.1 hz with q | q
                · exact (WT.lo [g] (by simp) z (by simp [q])).1
                · exact (WT.lo (blkOf Q1) (by simp) z q).1))
              exact JOIN A5 c5 cu w6 ⟨Lib.hid ⟨lt, WF.out, LT2.out⟩, CF⟩
            · skip
              replace hK := Lib.hid hK
              go_simp
              refine (takeL HW.out.sb).mono ?_
              rintro r wu ⟨cu, lt, rfl, ou, pu, su, hu⟩
              have OU := Lib.hid ou
              have PU := Lib.hid pu
              have SU := Lib.hid su
              have CU := Lib.hid hu
              clear ou pu su hu hHeld
              refine hK.out _ _ trivial (fun hHeld => ?_)
              clear hK K
              try simp only [Act.put, sA, s0, s1]
              refine wpAnyH_ready (rs := [5]) (by kernel_rfl) (by simp) ?_
              refine AllReadyH.cons rfl (fun K hK => ?_) AllReadyH.nil
              replace hK := Lib.hid hK
              have z := cell_of (Chg.at_ CU.out HW.out.hg NG.out) 6
              simp only [List.getElem?_toArray, List.getElem?_cons_succ, List.getElem?_cons_zero] at z
              go_simp
              clear z
              refine hK.out _ _ trivial (fun hHeld => ?_)
              clear hK K
              try simp only [Act.put, sA, s0, s1]
              refine wpAnyH_ready (rs := [8]) (by kernel_rfl) (by simp) ?_
              refine AllReadyH.cons rfl (fun K hK => ?_) AllReadyH.nil
              replace hK := Lib.hid hK
              have QO : OwnK lstTy wu Q1 d1 m1 := HW.out.q1.chg CU.out (fun y hy hm => HW.out.pw.pick (i := 5) (j := 7) rfl rfl (by decide) y.block (mem_blkOf hy) (by simp at hm; simp [hm]))
              have LT : lt.length = sb9.inn.length := PU.out.1
              have OR := OU.out.reads
              rw [LT] at OR
              refine step_appK (R := lstTy) rfl (.tmp 86) (.tmp 88) rfl rfl (A := Q1) (B := Ab) (n := m1.length) (m := sb9.inn.length) (c := d1) (d := cu) (xs := m1) (ys := lt) QO rfl rfl OR (by have := SZ.out.1; have := SZ.out.2.1; have := SZ.out.2.2.1; have := SZ.out.2.2.2; omega) ?_
              intro A5 c5 w5 o5 g5 e5
              have O5 := Lib.hid o5
              have C5 : Hid (Chg (blkOf Q1) wu w5) := Lib.hid ((Chg.refl (blkOf Q1) wu).grown g5 (fun k hk => .inl (by simpa [blkOf] using hk)))
              have E5 := Lib.hid e5
              have QN : Hid (g ∉ blkOf Q1) := Lib.hid (fun q => HW.out.pw.pick (i := 0) (j := 5) rfl rfl (by decide) g (by simp) q)
              have HG5 := Lib.hid (C5.out.at_ (CU.out.at_ HW.out.hg NG.out) QN.out)
              have LT2 := Lib.hid LT
              clear o5 g5 e5 hHeld QO LT OR
              refine hK.out _ _ trivial (fun hHeld => ?_)
              clear hK K
              try simp only [Act.put, sA, s0, s1]
              refine sy 11 92 rfl rfl ?_ (hS := trivial)
              try simp only [Act.put, sA, s0, s1]
              refine wpAnyH_ready (rs := [12]) (by kernel_rfl) (by simp) ?_
              refine AllReadyH.cons rfl (fun K hK => ?_) AllReadyH.nil
              replace hK := Lib.hid hK
              have z := cell_of HG5.out 6
              have fz := free_of HG5.out 6
              simp only [List.getElem?_toArray, List.getElem?_cons_succ, List.getElem?_cons_zero] at z
              go_simp
              clear z fz hHeld
              refine hK.out _ _ trivial (fun hHeld => ?_)
              clear hK K
              try simp only [Act.put, sA, s0, s1]
              refine wpAnyH_done (by kernel_rfl) ?_ _
              have hg' := heap_setCell_same _ g 6 _ _ (.slice A5 (m1.length + sb9.inn.length) c5) HG5.out
              have cg : Chg [g] w5 (w5.setCell ⟨g, 6, none⟩ (.slice A5 (m1.length + sb9.inn.length) c5)) := (Chg.refl [g] w5).setCell (.inl (by simp)) _
              generalize (w5.setCell ⟨g, 6, none⟩ (.slice A5 (m1.length + sb9.inn.length) c5)) = w6 at *
              have WT := HW.out.sesb CU.out (fun z hz => by simp at hz; simp [hz]) [] (K' := kk) (by omega) none Db _ (SU.out.more (by omega)) (fun z hz => .inl hz) (by simp) (fun z hz => .inl (by simp [blkOf] at hz; simp [hz])) (fun z hz => by simp [blkOf] at hz; rw [hz]; exact SU.out.lt.1) (by simp) CX.out.size
              have CT := CX.out.on CU.out (fun z hz => (HW.out.lo (b :: blkOf Ab) (by simp) z (by simp at hz; simp [hz])).1)
              have A5N : ∀ x, A5 = some x → Q1 = some x ∨ wu.heap.size ≤ x.block := fun x hx => by
                rcases E5.out with q | q
                · exact .inl (q ▸ hx)
                · right; rw [q] at hx; cases hx; exact Nat.le_refl _
              have glt : g < wu.heap.size := lt_of_heap WT.hg
              have A5g : g ∉ blkOf A5 := fun hm => by
                obtain ⟨x, hx, q⟩ := of_blkOf hm
                rcases A5N x hx with q2 | q2
                · exact QN.out (by rw [← q]; exact mem_blkOf q2)
                · omega
              have hc : Chg (g :: blkOf Q1) wu w6 := (C5.out.mono (fun z hz => .inl (List.mem_cons_of_mem _ hz))).trans (cg.mono (fun z hz => .inl (by simp at hz; simp [hz])))
              have frz : ∀ z ∈ F, z ∉ g :: blkOf Q1 := fun z hz hm => by
                rcases List.mem_cons.1 hm with q | q
                · exact WT.pw.pick (i := 8) (j := 0) rfl rfl (by decide) z hz (by simp [q])
                · exact WT.pw.pick (i := 8) (j := 5) rfl rfl (by decide) z hz q
              have o6 := O5.out.chg cg (fun x hx hm => A5g (by simp at hm; rw [← hm]; exact mem_blkOf hx))
              have l6 := (lp_app WT.r1 (PU.out.more HW.out.fb)).chg hc frz
              have WF := Lib.hid (WT.rowQ1 hc (fun z hz => List.mem_cons.1 hz) [] (K' := kk) (Nat.le_refl _) A5 c5 (m1 ++ lt) _ (by rw [hg', show (m1 ++ lt).length = m1.length + sb9.inn.length from by rw [List.length_append, LT2.out]]; simp) o6 l6 (by simp) (fun z hz => by obtain ⟨y, hy, rfl⟩ := of_blkOf hz; exact (A5N y hy).imp (fun q => mem_blkOf q) id) (fun z hz => by obtain ⟨y, hy, rfl⟩ := of_blkOf hz; exact o6.lt y hy) (by simp) CT.size)
              have CF := Lib.hid (CT.on hc (fun z hz => by
                rcases List.mem_cons.1 hz with q | q
                · exact (WT.lo [g] (by simp) z (by simp [q])).1
                · exact (WT.lo (blkOf Q1) (by simp) z q).1))
              exact JOIN A5 c5 cu w6 ⟨Lib.hid ⟨lt, WF.out, LT2.out⟩, CF⟩
          case rest =>
            rintro A5 c5 cu2 w7 ⟨HX, CX⟩
            obtain ⟨lt, hw, hlt⟩ := HX.out
            have HW := Lib.hid hw
            have LTB := Lib.hid hlt
            clear hw hlt HX
            generalize A5 = R1 at *
            generalize c5 = e1 at *
            generalize hml : m1 ++ lt = k1 at *
            clear hml LTB SZ LK0
            go_upto_region 22 with fail
            have z3 := cell_of HW.out.hg 3
            have z4 := cell_of HW.out.hg 4
            have z5 := cell_of HW.out.hg 5
            have z6 := cell_of HW.out.hg 6
            simp only [List.getElem?_toArray, List.getElem?_cons_succ, List.getElem?_cons_zero] at z3 z4 z5 z6
            refine wp_region_held_drew (S := fun w' => w'.cell? ⟨g, 3, none⟩ = some (.slice P0 l0.length c0) ∧ w'.cell? ⟨g, 4, none⟩ = some (.slice P1 l1.length c1) ∧ w'.cell? ⟨g, 5, none⟩ = some (.slice R0 k0.length e0) ∧ w'.cell? ⟨g, 6, none⟩ = some (.slice R1 k1.length e1)) (by kernel_rfl) ⟨z3, z4, z5, z6⟩ (fun hHeld => ?_)
            have HS := Lib.hid (fun (w' : World) (hc : Chg [] w7 w') => (⟨hc.cell z3 (by simp), hc.cell z4 (by simp), hc.cell z5 (by simp), hc.cell z6 (by simp)⟩ : w'.cell? ⟨g, 3, none⟩ = some (.slice P0 l0.length c0) ∧ w'.cell? ⟨g, 4, none⟩ = some (.slice P1 l1.length c1) ∧ w'.cell? ⟨g, 5, none⟩ = some (.slice R0 k0.length e0) ∧ w'.cell? ⟨g, 6, none⟩ = some (.slice R1 k1.length e1)))
            have CD := Lib.hid (Chg.refl [] w7).drew
            clear z3 z4 z5 z6
            generalize w7.drew = wd at *
            refine sy 0 93 rfl rfl ?_
            try simp only [Act.put, sA, s0, s1]
            refine sy 1 94 rfl rfl ?_
            try simp only [Act.put, sA, s0, s1]
            refine sy 2 95 rfl rfl ?_
            try simp only [Act.put, sA, s0, s1]
            refine sy 3 96 rfl rfl ?_
            try simp only [Act.put, sA, s0, s1]
            refine sy 4 97 rfl rfl ?_
            try simp only [Act.put, sA, s0, s1]
            refine sy 5 98 rfl rfl ?_
            try simp only [Act.put, sA, s0, s1]
            refine sy 6 99 rfl rfl ?_ (hy := by (intro w hSw; (try dsimp only at hSw); (obtain ⟨q1, q2, q3, q4⟩ := hSw); go_simp; try with_reducible rfl))
            try simp only [Act.put, sA, s0, s1]
            refine sy 7 100 rfl rfl ?_
            try simp only [Act.put, sA, s0, s1]
            refine sy 8 101 rfl rfl ?_
            try simp only [Act.put, sA, s0, s1]
            refine sy 9 102 rfl rfl ?_
            try simp only [Act.put, sA, s0, s1]
            refine sy 10 103 rfl rfl ?_
            try simp only [Act.put, sA, s0, s1]
            refine sy 11 104 rfl rfl ?_ (hy := by (intro w hSw; (try dsimp only at hSw); (obtain ⟨q1, q2, q3, q4⟩ := hSw); go_simp; try with_reducible rfl))
            try simp only [Act.put, sA, s0, s1]
            refine wpAnyH_ready (rs := [12]) (by kernel_rfl) (by simp) ?_
            refine AllReadyH.cons rfl (fun K hK => ?_) AllReadyH.nil
            replace hK := Lib.hid hK
            go_simp
            refine (same_took wd P0 R1 c0 e1 F F l0 k1 wo.s0 (wo.t1 ++ sb9.inn) (HW.out.o0.chg CD.out (by simp)) (HW.out.q1.chg CD.out (by simp)) (HW.out.p0.chg CD.out (by simp)) (HW.out.r1.chg CD.out (by simp)) (by have := FA.out.2.2.2.2.1; have := JN.out; omega) FA.out.1).mono ?_
            rintro r w8 ⟨rfl, h8⟩
            have C8 := Lib.hid (CD.out.trans h8)
            clear h8 hHeld
            refine hK.out _ _ (HS.out w8 C8.out) (fun hHeld => ?_)
            clear hK K
            try simp only [Act.put, sA, s0, s1]
            refine sy 13 106 rfl rfl ?_
            try simp only [Act.put, sA, s0, s1]
            refine sy 14 107 rfl rfl ?_
            try simp only [Act.put, sA, s0, s1]
            refine sy 15 108 rfl rfl ?_
            try simp only [Act.put, sA, s0, s1]
            refine sy 16 109 rfl rfl ?_
            try simp only [Act.put, sA, s0, s1]
            refine sy 17 110 rfl rfl ?_
            try simp only [Act.put, sA, s0, s1]
            refine sy 18 111 rfl rfl ?_
            try simp only [Act.put, sA, s0, s1]
            refine sy 19 112 rfl rfl ?_ (hy := by (intro w hSw; (try dsimp only at hSw); (obtain ⟨q1, q2, q3, q4⟩ := hSw); go_simp; try with_reducible rfl))
            try simp only [Act.put, sA, s0, s1]
            refine sy 20 113 rfl rfl ?_
            try simp only [Act.put, sA, s0, s1]
            refine sy 21 114 rfl rfl ?_
            try simp only [Act.put, sA, s0, s1]
            refine sy 22 115 rfl rfl ?_
            try simp only [Act.put, sA, s0, s1]
            refine sy 23 116 rfl rfl ?_
            try simp only [Act.put, sA, s0, s1]
            refine sy 24 117 rfl rfl ?_ (hy := by (intro w hSw; (try dsimp only at hSw); (obtain ⟨q1, q2, q3, q4⟩ := hSw); go_simp; try with_reducible rfl))
            try simp only [Act.put, sA, s0, s1]
            refine wpAnyH_ready (rs := [25]) (by kernel_rfl) (by simp) ?_
            refine AllReadyH.cons rfl (fun K hK => ?_) AllReadyH.nil
            replace hK := Lib.hid hK
            go_simp
            refine (same_took w8 P1 R0 c1 e0 F F l1 k0 wo.s1 (wo.t0 ++ sa9.inn) (HW.out.o1.chg C8.out (by simp)) (HW.out.q0.chg C8.out (by simp)) (HW.out.p1.chg C8.out (by simp)) (HW.out.r0.chg C8.out (by simp)) (by have := FA.out.2.2.2.2.2; have := JN.out; omega) FA.out.2.1).mono ?_
            rintro r w9 ⟨rfl, h9⟩
            have C9 := Lib.hid (C8.out.trans h9)
            clear h9 hHeld
            refine hK.out _ _ (HS.out w9 C9.out) (fun hHeld => ?_)
            clear hK K
            try simp only [Act.put, sA, s0, s1]
            refine sy 26 119 rfl rfl ?_
            try simp only [Act.put, sA, s0, s1]
            refine sy 27 120 rfl rfl ?_
            try simp only [Act.put, sA, s0, s1]
            refine sy 28 121 rfl rfl ?_
            try simp only [Act.put, sA, s0, s1]
            refine wpAnyH_ready (rs := [29]) (by kernel_rfl) (by simp) ?_
            refine AllReadyH.cons rfl (fun K hK => ?_) AllReadyH.nil
            replace hK := Lib.hid hK
            go_simp
            refine (waitingL (HW.out.sa.chg C9.out (by simp) (by simp) (by simp))).mono ?_
            rintro r w10 ⟨rfl, e10⟩
            obtain rfl := e10.symm
            have WE : (takeS sa9).q.length = 0 := by show sa9.q.length = 0; rw [FA.out.2.2.1]; rfl
            rw [WE]
            clear WE hHeld
            refine hK.out _ _ (HS.out w9 C9.out) (fun hHeld => ?_)
            clear hK K
            try simp only [Act.put, sA, s0, s1]
            refine sy 30 123 rfl rfl ?_
            try simp only [Act.put, sA, s0, s1]
            refine sy 31 124 rfl rfl ?_
            try simp only [Act.put, sA, s0, s1]
            refine sy 32 125 rfl rfl ?_
            try simp only [Act.put, sA, s0, s1]
            refine sy 33 126 rfl rfl ?_
            try simp only [Act.put, sA, s0, s1]
            refine wpAnyH_ready (rs := [34]) (by kernel_rfl) (by simp) ?_
            refine AllReadyH.cons rfl (fun K hK => ?_) AllReadyH.nil
            replace hK := Lib.hid hK
            go_simp
            refine (waitingL (HW.out.sb.chg C9.out (by simp) (by simp) (by simp))).mono ?_
            rintro r w10 ⟨rfl, e10⟩
            obtain rfl := e10.symm
            have WE : (takeS sb9).q.length = 0 := by show sb9.q.length = 0; rw [FA.out.2.2.2.1]; rfl
            rw [WE]
            clear WE hHeld
            refine hK.out _ _ (HS.out w9 C9.out) (fun hHeld => ?_)
            clear hK K
            try simp only [Act.put, sA, s0, s1]
            refine sy 35 128 rfl rfl ?_
            try simp only [Act.put, sA, s0, s1]
            refine sy 36 129 rfl rfl ?_
            try simp only [Act.put, sA, s0, s1]
            refine sy 37 2 rfl rfl ?_
            try simp only [Act.put, sA, s0, s1]
            refine wpAnyH_done (by kernel_rfl) ?_ _
            go_wp2
            go_ret
            exact ⟨rfl, C1.out.trans (CX.out.trans C9.out)⟩
end
end Go.Proofs.Ytmblalcigbghfaa
