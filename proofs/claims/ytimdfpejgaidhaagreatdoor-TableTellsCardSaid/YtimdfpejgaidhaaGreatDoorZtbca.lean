/- Changes of trees, and rows of them. The law's does. The document's without. The document's own. The document's Get. SameTexts; the document's join, Split. The document's Split, Parent, Base. The document's parent. The document's Check of an effect. The document's Check. The document's Remove. The document's Under. The document's Put. -/
import Derived.Test.YtimdfpejgaidhaaGreatDoorZtbaa
import Derived.Test.YtimdfpejgaidhaaGreatDoorZtbab
import Derived.Test.YtimdfpejgaidhaaGreatDoorZtbac
import Derived.Test.YtimdfpejgaidhaaGreatDoorZtbam
import Derived.Test.YtimdfpejgaidhaaGreatDoorZtban
import Derived.Deep.Cut
import Derived.Test.YtimdfpejgaidhaaGreatDoorZtbak
import Derived.Test.YtimdfpejgaidhaaGreatDoorZtbae
import Derived.Test.YtimdfpejgaidhaaGreatDoorZtbal
import Derived.Deep.RegionHeld3
import Derived.Test.YtimdfpejgaidhaaGreatDoorZtbao
namespace Go.Proofs.YtimdfpejgaidhaaGreatDoor
section
open Go.RowKit Go.Lib
set_option linter.unusedSimpArgs false
set_option linter.unusedVariables false

/-- A change of a tree as it lies in memory. -/
structure AcT where
  kd : Int
  p : ByteArray
  t : ByteArray
  k : Int
  m : Int
  A : Option Addr
  l : Nat
  c : Nat
/-- What it is. -/
structure AcP where
  kd : Int
  p : List UInt8
  t : List UInt8
  k : Int
  m : Int
  b : List UInt8
def acTy : RowTy AcT where
  enc := fun x => [.int .i64 x.kd, .string x.p, .string x.t, .int .i64 x.k, .int .i64 x.m, .slice x.A x.l x.c]
  k := 6
  T := 27
  TS := 30
  z := ⟨0, ⟨#[]⟩, ⟨#[]⟩, 0, 0, none, 0, 0⟩
  zv := .agg #[.int .i64 0, .string ⟨#[]⟩, .string ⟨#[]⟩, .int .i64 0, .int .i64 0, .slice none 0 0]
  bytes := 80
  klen := fun _ => rfl
  one := by intro x v hv; simp at hv; rcases hv with rfl | rfl | rfl | rfl | rfl | rfl <;> rfl
  zc := rfl
  kpos := by decide
  bpos := by decide
  under := by kernel_rfl
  info := by kernel_rfl
structure AcR (w : World) (x : AcT) (a : AcP) : Prop where
  kd : x.kd = a.kd
  p : x.p = strOf a.p
  t : x.t = strOf a.t
  k : x.k = a.k
  m : x.m = a.m
  l : x.l = a.b.length
  A : Bs w x.A x.l a.b
theorem AcR.chg {w w' : World} {x : AcT} {a : AcP} (h : AcR w x a) (hc : Chg [] w w') : AcR w' x a := ⟨h.kd, h.p, h.t, h.k, h.m, h.l, h.A.chg hc (by simp)⟩
/-- The act in a row of n cells at o. -/
theorem acCells {w : World} {g o n j : Nat} {xs : List AcT} (h : RdK acTy w (some ⟨g, o, none⟩) n xs) {x : AcT} (hx : xs[j]? = some x) : w.cell? ⟨g, o + j * 6, none⟩ = some (.int .i64 x.kd) ∧ w.cell? ⟨g, o + j * 6 + 1, none⟩ = some (.string x.p) ∧ w.cell? ⟨g, o + j * 6 + 2, none⟩ = some (.string x.t) ∧ w.cell? ⟨g, o + j * 6 + 3, none⟩ = some (.int .i64 x.k) ∧ w.cell? ⟨g, o + j * 6 + 4, none⟩ = some (.int .i64 x.m) ∧ w.cell? ⟨g, o + j * 6 + 5, none⟩ = some (.slice x.A x.l x.c) :=
  ⟨h.at_ j 0 x _ hx rfl, h.at_ j 1 x _ hx rfl, h.at_ j 2 x _ hx rfl, h.at_ j 3 x _ hx rfl, h.at_ j 4 x _ hx rfl, h.at_ j 5 x _ hx rfl⟩
end
section
open Go.RowKit Go.Lib
set_option linter.unusedSimpArgs false
set_option linter.unusedVariables false

/-- What a change makes of a tree. -/
def doesT (t : List EnP) (a : AcP) : Int × List EnP := if a.kd = 0 then putT t ⟨a.p, a.k, a.m, a.b⟩ else if a.kd = 1 then removeT t a.p else if a.kd = 2 then moveT t a.p a.t else (0, t)
/-- Of a change no more than is gone through. -/
def AcSm (a : AcP) : Prop := a.p.length ≤ 900000 ∧ a.t.length ≤ 900000 ∧ a.b.length ≤ 140737488350000
set_option maxRecDepth 100000 in
set_option maxHeartbeats 8000000 in
theorem l5does_any (w : World) (A : Option Addr) (c : Nat) (xs : List EnT) (es : List EnP) (x : AcT) (a : AcP) (h : RdK enTy w A xs.length xs) (hx : EnsR w xs es) (hn : xs.length ≤ 190) (hs : ∀ e ∈ es, EnSm e ∧ e.p.length ≤ 900000) (hy : AcR w x a) (ht : AcSm a) :
    Calls Tryz.prog 21 #[.slice A xs.length c, .agg #[.int .i64 x.kd, .string x.p, .string x.t, .int .i64 x.k, .int .i64 x.m, .slice x.A x.l x.c]] w fun r w' => ∃ (A' : Option Addr) (c' : Nat) (ys : List EnT), r = .returned (.tuple #[.slice A' ys.length c', .int .i64 (doesT es a).1]) ∧ RdK enTy w' A' ys.length ys ∧ EnsR w' ys (doesT es a).2 ∧ Chg [] w w' ∧ (0 ≤ a.kd → a.kd ≤ 2 → NsF w' w.heap.size w'.heap.size A' c' ys (doesT es a).2) := by
  obtain ⟨R, hR⟩ : ∃ R, doesT es a = R := ⟨_, rfl⟩
  rw [hR]
  have HRR := Lib.hid hR
  obtain ⟨w1, hw, hc, b0⟩ := news1 w (.cells #[.int .i64 x.kd, .string (strOf a.p), .string (strOf a.t), .int .i64 x.k, .int .i64 x.m, .slice x.A x.l x.c] 27)
  have W1 := Lib.hid hw
  have z0 := cell_of b0 0
  have z1 := cell_of b0 1
  have z2 := cell_of b0 2
  have z3 := cell_of b0 3
  have z4 := cell_of b0 4
  have z5 := cell_of b0 5
  simp only [List.getElem?_toArray, List.getElem?_cons_succ, List.getElem?_cons_zero] at z0 z1 z2 z3 z4 z5
  have C0 := Lib.hid hc
  have HA := Lib.hid (h.chg hc (by simp))
  have HX := Lib.hid (hx.chg hc)
  have HY := Lib.hid (hy.chg hc)
  have HN := Lib.hid hn
  have HS := Lib.hid hs
  have HT := Lib.hid ht
  rw [hy.p, hy.t]
  have KD : Hid (x.kd = a.kd) := Lib.hid hy.kd
  clear hw hc b0 h hx hn hs hy ht hR
  go_enter Tryz.func21, Tryz.ntmps21
  go_upto_region 1 with fail
  rw [← W1.out]
  generalize w.heap.size = g0 at z0 z1 z2 z3 z4 z5 ⊢
  clear W1
  by_cases k0 : x.kd = 0
  · have ER : Hid (R = putT es ⟨a.p, a.k, a.m, a.b⟩) := Lib.hid (by rw [← HRR.out]; unfold doesT; rw [if_pos (by rw [← KD.out]; exact k0)])
    have t0 : ((x.kd == 0) : Bool) = true := by simpa using k0
    have PU := Lib.hid (tbput_any w1 A c xs es ⟨strOf a.p, x.k, x.m, x.A, x.l, x.c⟩ ⟨a.p, a.k, a.m, a.b⟩ HA.out HX.out HN.out (fun e he => (HS.out e he).1) ⟨rfl, HY.out.k, HY.out.m, HY.out.l, HY.out.A⟩ ⟨by have := HT.out.1; show a.p.length ≤ _; omega, by have := HT.out.2.2; show a.b.length ≤ _; omega⟩)
    go_wp2_with fail
    clear z0 z1 z2 z3 z4 z5
    refine PU.out.mono ?_
    rintro r w2 ⟨A2, c2, ys, rfl, hf, hc⟩
    have F2 := Lib.hid hf
    have C2 := Lib.hid (C0.out.trans hc)
    clear hf hc PU
    go_wp2
    go_ret2
    rw [ER.out]
    exact ⟨A2, c2, ys, rfl, F2.out.row.reads, F2.out.all.ev, C2.out, fun _ _ => F2.out.low C0.out.size⟩
  have t0 : ((x.kd == 0) : Bool) = false := by simpa using k0
  by_cases k1 : x.kd = 1
  · have ER : Hid (R = removeT es a.p) := Lib.hid (by rw [← HRR.out]; unfold doesT; rw [if_neg (by rw [← KD.out]; exact k0), if_pos (by rw [← KD.out]; exact k1)])
    have t1 : ((x.kd == 1) : Bool) = true := by simpa using k1
    have PU := Lib.hid (tbremove_any w1 A c xs es a.p (by have := HT.out.1; omega) HA.out HX.out HN.out (fun e he => (HS.out e he).1))
    go_wp2_with fail
    clear z0 z1 z2 z3 z4 z5
    refine PU.out.mono ?_
    rintro r w2 ⟨A2, c2, ys, rfl, hf, hc⟩
    have F2 := Lib.hid hf
    have C2 := Lib.hid (C0.out.trans hc)
    clear hf hc PU
    go_wp2
    go_ret2
    rw [ER.out]
    exact ⟨A2, c2, ys, rfl, F2.out.row.reads, F2.out.all.ev, C2.out, fun _ _ => F2.out.low C0.out.size⟩
  have t1 : ((x.kd == 1) : Bool) = false := by simpa using k1
  by_cases k2 : x.kd = 2
  · have ER : Hid (R = moveT es a.p a.t) := Lib.hid (by rw [← HRR.out]; unfold doesT; rw [if_neg (by rw [← KD.out]; exact k0), if_neg (by rw [← KD.out]; exact k1), if_pos (by rw [← KD.out]; exact k2)])
    have t2 : ((x.kd == 2) : Bool) = true := by simpa using k2
    have PU := Lib.hid (tbmove_any w1 A c xs es a.p a.t (by have := HT.out.1; omega) (by have := HT.out.2.1; omega) HA.out HX.out HN.out (fun e he => (HS.out e he).1))
    go_wp2_with fail
    clear z0 z1 z2 z3 z4 z5
    refine PU.out.mono ?_
    rintro r w2 ⟨A2, c2, ys, rfl, hf, hc⟩
    have F2 := Lib.hid hf
    have C2 := Lib.hid (C0.out.trans hc)
    clear hf hc PU
    go_wp2
    go_ret2
    rw [ER.out]
    exact ⟨A2, c2, ys, rfl, F2.out.row.reads, F2.out.all.ev, C2.out, fun _ _ => F2.out.low C0.out.size⟩
  have t2 : ((x.kd == 2) : Bool) = false := by simpa using k2
  have ER : Hid (R = (0, es)) := Lib.hid (by rw [← HRR.out]; unfold doesT; rw [if_neg (by rw [← KD.out]; exact k0), if_neg (by rw [← KD.out]; exact k1), if_neg (by rw [← KD.out]; exact k2)])
  have NK : Hid (¬ (0 ≤ a.kd ∧ a.kd ≤ 2)) := Lib.hid (by rw [← KD.out]; omega)
  go_wp2
  go_ret2
  rw [ER.out]
  exact ⟨A, c, xs, rfl, HA.out, HX.out, C0.out, fun p q => absurd ⟨p, q⟩ NK.out⟩
end
section
open Go.RowKit Go.Lib
set_option linter.unusedSimpArgs false
set_option linter.unusedVariables false

set_option maxRecDepth 100000 in
set_option maxHeartbeats 8000000 in
theorem tdwithout_any (w : World) (A : Option Addr) (c : Nat) (xs : List EnT) (es : List EnP) (p : List UInt8) (hp : p.length ≤ 900000) (h : RdK enTy w A xs.length xs) (hx : EnsR w xs es) (hn : xs.length ≤ 100000) (hs : ∀ e ∈ es, e.p.length ≤ 900000) :
    Calls Tryz.prog 92 #[.slice A xs.length c, .string (strOf p)] w fun r w' => ∃ (A' : Option Addr) (c' : Nat) (ys : List EnT), r = .returned (.slice A' ys.length c') ∧ RdK enTy w' A' ys.length ys ∧ EnsR w' ys (es.filter (fun e => !(decide (e.p = p) || underL p e.p))) ∧ Chg [] w w' := by
  obtain ⟨D, hD⟩ : ∃ D, es.filter (fun e => !(decide (e.p = p) || underL p e.p)) = D := ⟨_, rfl⟩
  rw [hD]
  have HD := Lib.hid hD
  clear hD
  have HA := Lib.hid h
  have HX := Lib.hid hx
  have HN := Lib.hid hn
  have UX : Hid (∀ w' e, e ∈ es → Calls Tryz.prog 53 #[.string (strOf p), .string (strOf e.p)] w' fun r w2 => r = .returned (.bool (underL p e.p)) ∧ Chg [] w' w2) := Lib.hid (fun w' e he => qhunder_any w' p e.p (by omega) (by have := hs e he; omega))
  clear h hx hn hp hs
  go_enter Tryz.func92, Tryz.ntmps92
  go_wp2
  go_loopw [5, 6] (fun o i wr => ∃ (k : Nat) (A1 : Option Addr) (d1 : Nat) (ys : List EnT), k ≤ xs.length ∧ ys.length ≤ k ∧ i = .int .i64 k ∧ o = .slice A1 ys.length d1 ∧ Hid (OwnK enTy wr A1 d1 ys) ∧ Hid (EnsR w ys ((es.take k).filter (fun e => !(decide (e.p = p) || underL p e.p)))) ∧ Hid (∀ a, A1 = some a → w.heap.size ≤ a.block) ∧ Hid (Chg [] w wr)) (fun _ i _ => xs.length - (RowKit.intOf i).toNat)
  case atStart => exact ⟨0, none, 0, [], Nat.zero_le _, Nat.zero_le _, rfl, rfl, OwnK.none_ _, Lib.hid (by simpa using EnsR.nil _), Lib.hid (by simp), Chg.refl _ _⟩
  case round =>
    obtain ⟨k, A1, d1, ys, hk, hyl, rfl, rfl, RO, RE, RN, RC⟩ := hrel
    have i0 : (0 : Int) ≤ (k : Int) := by omega
    by_cases hlt : k < xs.length
    · have i1 : (k : Int) < (xs.length : Int) := by omega
      have i3 : IntKind.i64.wrap ((k : Int) + 1) = (k : Int) + 1 := IntWalk.i64_in _ (by have := HN.out; omega)
      obtain ⟨g, o, eA, _⟩ := HA.out.line (by omega)
      subst eA
      obtain ⟨x, e, ex, ee, rx⟩ := HX.out.at_ hlt
      obtain ⟨z0, z1, z2, z3⟩ := enCells (HA.out.chg RC.out (by simp)) ex
      have EX := Lib.hid ex
      have RX := Lib.hid rx
      have ET : Hid ((es.take (k + 1)).filter (fun e => !(decide (e.p = p) || underL p e.p)) = (es.take k).filter (fun e => !(decide (e.p = p) || underL p e.p)) ++ (if (!(decide (e.p = p) || underL p e.p)) = true then [e] else [])) := Lib.hid (filt_takeN ee)
      have EM := Lib.hid (List.mem_of_getElem? ee)
      have YL := Lib.hid hyl
      rw [RX.out.p] at z0
      clear ex ee rx hyl
      by_cases hp : e.p = p
      · skip
        have e4 : (e.p == p) = true := by rw [hp]; exact beq_self_eq_true _
        have e5 : ((strOf e.p == strOf p) : Bool) = true := by rw [hp]; exact str_self _
        have e6 : ((strOf e.p != strOf p) : Bool) = false := by simp only [bne, e5]; rfl
        have e7 : (e.p != p) = false := by simp only [bne, e4]; rfl
        have hq : (!(decide (e.p = p) || underL p e.p)) = false := by rw [decide_eq_true hp]; rfl
        clear hp
        have ET0 : Hid ((es.take (k + 1)).filter (fun e => !(decide (e.p = p) || underL p e.p)) = (es.take k).filter (fun e => !(decide (e.p = p) || underL p e.p))) := Lib.hid (by rw [ET.out, hq]; simp)
        rw [← ET0.out] at RE
        clear hq ET
        go_wp2
        go_round
        case rel => exact ⟨k + 1, A1, d1, ys, by omega, by have := YL.out; omega, by go_num, rfl, RO, RE, RN, RC⟩
        case measure => simp [RowKit.intOf]; omega
      · skip
        have e1 := strOf_ne hp
        have e3 := strOf_ne2 hp
        have e4 : (e.p == p) = false := beq_eq_false_iff_ne.2 hp
        have e6 : ((strOf e.p != strOf p) : Bool) = true := by simp only [bne, e1]; rfl
        have e7 : (e.p != p) = true := by simp only [bne, e4]; rfl
        have hq0 : decide (e.p = p) = false := decide_eq_false hp
        clear hp
        go_wp2_with fail
        clear z0 z1 z2 z3 e1 e3 e4 e6 e7
        refine (UX.out wr e EM.out).mono ?_
        rintro r w2 ⟨rfl, hc⟩
        replace RO := Lib.hid (RO.out.chg hc (by simp))
        replace RC := Lib.hid (RC.out.trans hc)
        clear hc
        rcases hu : underL p e.p with _ | _
        · have hq : (!(decide (e.p = p) || underL p e.p)) = true := by rw [hq0, hu]; rfl
          clear hq0 hu
          have RE7 : Hid (EnsR w (ys ++ [x]) ((es.take (k + 1)).filter (fun e => !(decide (e.p = p) || underL p e.p)))) := Lib.hid (by rw [ET.out, hq, if_pos rfl]; exact RE.out.snoc RX.out)
          obtain ⟨z0, z1, z2, z3⟩ := enCells (HA.out.chg RC.out (by simp)) EX.out
          obtain ⟨w3, hw, hc, b3⟩ := news1 w2 (.cells #[.string x.p, .int .i64 x.k, .int .i64 x.m, .slice x.A x.l x.c] 55)
          have W3 := Lib.hid hw
          have R3 := Lib.hid (rd_oneEn b3)
          replace RO := Lib.hid (RO.out.chg hc (by simp))
          replace RC := Lib.hid (RC.out.trans hc)
          have N4 : Hid ((ys.length + 1) * 400 ≤ 140737488355327) := Lib.hid (by have := YL.out; have := HN.out; omega)
          clear hw hc b3 hq ET
          go_wp2_with (at_builtin; rw [← W3.out]; refine wpList_appK (R := enTy) rfl (.tmp 30) (.tmp 35) rfl rfl (A := A1) (n := ys.length) (m := 1) (c := d1) (d := 1) (xs := ys) (ys := [x]) RO.out rfl rfl R3.out N4.out ?_; intro A7 c7 w7 o7 g7 e7; have O7 := Lib.hid o7; have F7 := Lib.hid (fresh_appN RN.out RC.out g7 e7); clear o7 g7 e7)
          clear RO RE
          go_wp2
          go_round
          case rel => exact ⟨k + 1, A7, c7, ys ++ [x], by omega, by have := YL.out; simp; omega, by go_num, by simp, O7, RE7, Lib.hid F7.out.1, F7.out.2⟩
          case measure => simp [RowKit.intOf]; omega
        · have hq : (!(decide (e.p = p) || underL p e.p)) = false := by rw [hq0, hu]; rfl
          clear hq0 hu
          have ET0 : Hid ((es.take (k + 1)).filter (fun e => !(decide (e.p = p) || underL p e.p)) = (es.take k).filter (fun e => !(decide (e.p = p) || underL p e.p))) := Lib.hid (by rw [ET.out, hq]; simp)
          rw [← ET0.out] at RE
          clear hq ET
          go_wp2
          go_round
          case rel => exact ⟨k + 1, A1, d1, ys, by omega, by have := YL.out; omega, by go_num, rfl, RO, RE, RN, RC⟩
          case measure => simp [RowKit.intOf]; omega
    · obtain rfl : k = xs.length := by omega
      have i1 : ¬ (xs.length : Int) < (xs.length : Int) := by omega
      have ET : (es.take xs.length).filter (fun e => !(decide (e.p = p) || underL p e.p)) = es.filter (fun e => !(decide (e.p = p) || underL p e.p)) := by rw [HX.out.1, List.take_length]
      rw [ET, HD.out] at RE
      have YL := Lib.hid hyl
      clear hyl ET
      go_wp2
      go_ret
      exact ⟨A1, d1, ys, rfl, RO.out.reads, RE.out.chg RC.out, RC.out⟩
end
section
open Go.RowKit Go.Lib
set_option linter.unusedSimpArgs false
set_option linter.unusedVariables false

theorem app_ownn {w w6 w7 : World} {B A2 : Option Addr} (hB : ∀ a, B = some a → w.heap.size ≤ a.block) (hC : Chg [] w w6) (d2 : w6.grownBy w7 (B.map (·.block))) (e2 : A2 = B ∨ A2 = some ⟨w6.heap.size, 0, none⟩) : (∀ a, A2 = some a → w.heap.size ≤ a.block) ∧ Chg [] w w7 := by
  refine ⟨?_, hC.grown d2 (fun i hi => ?_)⟩
  · rcases e2 with rfl | rfl
    · exact hB
    · rintro a ⟨⟩; exact hC.size
  · cases B with
    | none => simp at hi
    | some a => simp at hi; subst hi; exact .inr (hB a rfl)
set_option maxRecDepth 100000 in
set_option maxHeartbeats 8000000 in
/-- Entries in memory of their own. -/
theorem tdown_any (w : World) (A : Option Addr) (c : Nat) (xs : List EnT) (es : List EnP) (h : RdK enTy w A xs.length xs) (hx : EnsR w xs es) (hn : xs.length ≤ 100000) (hs : ∀ e ∈ es, e.b.length ≤ 140737488350000) :
    Calls Tryz.prog 90 #[.slice A xs.length c] w fun r w' => ∃ (A' : Option Addr) (c' : Nat) (ys : List EnT), r = .returned (.slice A' ys.length c') ∧ RdK enTy w' A' ys.length ys ∧ EnsR w' ys es ∧ Chg [] w w' := by
  have HA := Lib.hid h
  have HX := Lib.hid hx
  have HN := Lib.hid hn
  have HS := Lib.hid hs
  clear h hx hn hs
  go_enter Tryz.func90, Tryz.ntmps90
  go_wp2
  go_loopw [3, 4] (fun o i wr => ∃ (k : Nat) (A1 : Option Addr) (d1 : Nat) (ys : List EnT), k ≤ xs.length ∧ ys.length = k ∧ i = .int .i64 k ∧ o = .slice A1 ys.length d1 ∧ Hid (OwnK enTy wr A1 d1 ys) ∧ Hid (EnsR wr ys (es.take k)) ∧ Hid (ApartN wr A1 ys) ∧ Hid (∀ a, A1 = some a → w.heap.size ≤ a.block) ∧ Hid (Chg [] w wr)) (fun _ i _ => xs.length - (RowKit.intOf i).toNat)
  case atStart => exact ⟨0, none, 0, [], Nat.zero_le _, rfl, rfl, rfl, OwnK.none_ _, Lib.hid (by simpa using EnsR.nil _), Lib.hid (fun x hx => by simp at hx), Lib.hid (by simp), Chg.refl _ _⟩
  case round =>
    obtain ⟨k, A1, d1, ys, hk, hyl, rfl, rfl, RO, RE, RA, RN, RC⟩ := hrel
    have i0 : (0 : Int) ≤ (k : Int) := by omega
    by_cases hlt : k < xs.length
    · have i1 : (k : Int) < (xs.length : Int) := by omega
      have i3 : IntKind.i64.wrap ((k : Int) + 1) = (k : Int) + 1 := IntWalk.i64_in _ (by have := HN.out; omega)
      obtain ⟨g, o, eA, _⟩ := HA.out.line (by omega)
      subst eA
      obtain ⟨x, e, ex, ee, rx⟩ := HX.out.at_ hlt
      obtain ⟨z0, z1, z2, z3⟩ := enCells (HA.out.chg RC.out (by simp)) ex
      have LA1 := Lib.hid RO.out.lt_
      have RX := Lib.hid (rx.chg RC.out)
      have ET : Hid (es.take (k + 1) = es.take k ++ [e]) := Lib.hid (by rw [List.take_add_one, ee]; rfl)
      have EB := Lib.hid (HS.out e (List.mem_of_getElem? ee))
      have YL := Lib.hid hyl
      clear ex ee rx hyl
      go_upto_region 6 with fail
      clear z0 z1 z2 z3
      obtain ⟨w4, hw, hc, b4⟩ := news1 wr (.cells #[.string x.p, .int .i64 x.k, .int .i64 x.m, .slice x.A x.l x.c] 55)
      rw [← hw]
      obtain ⟨g4, hg4⟩ : ∃ g, wr.heap.size = g := ⟨_, rfl⟩
      rw [hg4] at b4 ⊢
      have GW := Lib.hid hg4
      have B4 := Lib.hid b4
      have LT4 := Lib.hid (lt_of_heap b4)
      have CB := Lib.hid hc
      clear hw hc b4 hg4
      obtain ⟨wb, hwb, cb, bb⟩ := news1 w4 (.cells #[] 5)
      have WB := Lib.hid hwb
      have OB := Lib.hid (show OwnB wb (some ⟨w4.heap.size, 0, none⟩) 0 [] from .of (full := []) bb (Nat.zero_le _) (Nat.zero_le _) rfl rfl)
      have RB := Lib.hid (RX.out.A.chg (CB.out.trans cb) (by simp))
      have CBB := Lib.hid cb
      have BD : Hid (0 + x.l ≤ 140737488355327) := Lib.hid (by have := EB.out; rw [RX.out.l]; omega)
      have zb := cell_of (cb.at_ B4.out (by simp)) 3
      simp only [List.getElem?_toArray, List.getElem?_cons_succ, List.getElem?_cons_zero] at zb
      clear hwb cb bb
      go_upto_region 7 with (first | (at_builtin; refine wpList_app rfl (.tmp 16) (.tmp 19) rfl rfl OB.out rfl rfl RB.out BD.out ?_; intro A3 c3 w3 o3 g3 e3; have h3 : OwnB w3 A3 c3 e.b ∧ (∀ a, A3 = some a → w4.heap.size ≤ a.block) ∧ Chg [] w4 w3 := ⟨by simpa using o3, app_ownn (fun a ha => by cases ha; exact Nat.le_refl _) CBB.out g3 e3⟩; have b3 := h3.2.2.at_ B4.out (by simp); have zz := cell_of b3 3; have ff := free_of b3 3; simp only [List.getElem?_toArray, List.getElem?_cons_succ, List.getElem?_cons_zero] at zz; clear b3; clear o3 g3 e3 WB OB RB CBB BD zb; rw [Nat.zero_add]) | rw [← WB.out])
      clear zz ff
      have b3 := h3.2.2.at_ B4.out (by simp)
      have p0 := heap_setCell_same _ g4 3 _ _ (.slice A3 x.l c3) b3
      have AN : ∀ a, A3 = some a → a.block ≠ g4 := fun a ha q => by have := h3.2.1 a ha; have := LT4.out; omega
      have CS : Chg [g4] w3 (w3.setCell ⟨g4, 3, none⟩ (.slice A3 x.l c3)) := (Chg.refl [g4] w3).setCell (p := ⟨g4, 3, none⟩) (.inl (by simp)) _
      have O5 := h3.1.chg CS (fun a ha => by simpa using AN a ha)
      have C5 : Chg [] wr (w3.setCell ⟨g4, 3, none⟩ (.slice A3 x.l c3)) := (CB.out.trans h3.2.2).trans' CS (fun i hi => .inr (by have := GW.out; simp at hi; omega))
      obtain ⟨w5, hW⟩ : ∃ w9 : World, w3.setCell ⟨g4, 3, none⟩ (.slice A3 x.l c3) = w9 := ⟨_, rfl⟩
      rw [hW] at p0 O5 C5 ⊢
      have XR : Hid (EnR w5 ⟨x.p, x.k, x.m, A3, x.l, c3⟩ e) := Lib.hid ⟨RX.out.p, RX.out.k, RX.out.m, RX.out.l, by have q := O5.reads; show Bs w5 A3 x.l e.b; rw [RX.out.l]; exact q⟩
      have B5 : Hid (w5.heap[g4]? = some (.cells #[.string x.p, .int .i64 x.k, .int .i64 x.m, .slice A3 x.l c3] 55 (0, 0))) := Lib.hid (by simpa using p0)
      have KA : Hid (∀ a, A3 = some a → a.block < w5.heap.size ∧ wr.heap.size ≤ a.block) := Lib.hid (fun a ha => ⟨O5.lt a ha, by have := h3.2.1 a ha; have := CB.out.size; omega⟩)
      have S5 := Lib.hid C5.size
      replace RO := Lib.hid (RO.out.chg C5 (by simp))
      replace RE := Lib.hid (RE.out.chg C5)
      replace RC := Lib.hid (RC.out.trans C5)
      clear b3 p0 AN CS O5 C5 hW h3 CB RX B4 LT4 GW
      have z0 := cell_of B5.out 0
      have z1 := cell_of B5.out 1
      have z2 := cell_of B5.out 2
      have z3 := cell_of B5.out 3
      simp only [List.getElem?_toArray, List.getElem?_cons_succ, List.getElem?_cons_zero] at z0 z1 z2 z3
      obtain ⟨w6, hw, hc, b6⟩ := news1 w5 (.cells #[.string x.p, .int .i64 x.k, .int .i64 x.m, .slice A3 x.l c3] 55)
      have W6 := Lib.hid hw
      have R6 := Lib.hid (rd_oneEn (X := ⟨x.p, x.k, x.m, A3, x.l, c3⟩) b6)
      have XR6 := Lib.hid (XR.out.chg hc)
      have S6 := Lib.hid hc.size
      replace RO := Lib.hid (RO.out.chg hc (by simp))
      replace RE := Lib.hid (RE.out.chg hc)
      replace RC := Lib.hid (RC.out.trans hc)
      have N4 : Hid ((ys.length + 1) * 400 ≤ 140737488355327) := Lib.hid (by have := YL.out; have := HN.out; omega)
      clear hw hc b6
      go_wp2_with (at_builtin; rw [← W6.out]; refine wpList_appK (R := enTy) rfl (.tmp 23) (.tmp 25) rfl rfl (A := A1) (n := ys.length) (m := 1) (c := d1) (d := 1) (xs := ys) (ys := [⟨x.p, x.k, x.m, A3, x.l, c3⟩]) RO.out rfl rfl R6.out N4.out ?_; intro A7 c7 w7 o7 g7 e7)
      have O7 := Lib.hid o7
      have F7 := Lib.hid (fresh_appN RN.out RC.out g7 e7)
      have G7 := Lib.hid g7
      have E7 := Lib.hid e7
      clear o7 g7 e7 z0 z1 z2 z3
      have CG : Hid (Chg (blkOf A1) w6 w7) := Lib.hid ((Chg.refl (blkOf A1) w6).grown G7.out (fun i hi => by
        cases A1 with
        | none => simp at hi
        | some a => simp at hi; subst hi; exact .inl (mem_blkOf rfl)))
      have RE7 : Hid (EnsR w7 (ys ++ [⟨x.p, x.k, x.m, A3, x.l, c3⟩]) (es.take (k + 1))) := Lib.hid (by
        rw [ET.out]
        refine EnsR.snoc (RE.out.chgS CG.out (fun y hy a ha q => ?_)) (XR6.out.chgS CG.out (fun a ha q => ?_))
        · obtain ⟨b, hb, e⟩ := of_blkOf q; exact (RA.out y hy a ha).2 b hb e.symm
        · obtain ⟨b, hb, e⟩ := of_blkOf q; have := LA1.out b hb; have := (KA.out a ha).2; omega)
      have RA7 : Hid (ApartN w7 A7 (ys ++ [⟨x.p, x.k, x.m, A3, x.l, c3⟩])) := Lib.hid (fun y hy => by
        have s7 := CG.out.size
        have s6 := S6.out
        have s5 := S5.out
        have lo : ∀ a : Addr, a.block < w6.heap.size → (∀ b, A1 = some b → a.block ≠ b.block) → a.block < w7.heap.size ∧ ∀ b, A7 = some b → a.block ≠ b.block := fun a h1 h2 => ⟨by omega, fun b hb => by
          rcases E7.out with q | q
          · rw [q] at hb; exact h2 b hb
          · rw [q] at hb; cases hb; exact Nat.ne_of_lt h1⟩
        rcases List.mem_append.1 hy with r | r
        · exact fun a ha => lo a (by have := (RA.out y r a ha).1; omega) (RA.out y r a ha).2
        · simp at r
          subst r
          exact fun a ha => lo a (by have := (KA.out a ha).1; omega) (fun b hb => by have := LA1.out b hb; have := (KA.out a ha).2; omega))
      clear CG G7 E7 RO RE RA W6 R6 XR6 B5 XR
      go_wp2
      go_round
      case rel => exact ⟨k + 1, A7, c7, ys ++ [⟨x.p, x.k, x.m, A3, x.l, c3⟩], by omega, by have := YL.out; simp; omega, by go_num, by simp, O7, RE7, RA7, Lib.hid F7.out.1, F7.out.2⟩
      case measure => simp [RowKit.intOf]; omega
    · obtain rfl : k = xs.length := by omega
      have i1 : ¬ (xs.length : Int) < (xs.length : Int) := by omega
      have ET : es.take xs.length = es := by rw [HX.out.1, List.take_length]
      rw [ET] at RE
      have YL := Lib.hid hyl
      clear ET hyl
      go_wp2
      go_ret
      exact ⟨A1, d1, ys, rfl, RO.out.reads, RE.out, RC.out⟩
end
section
open Go.RowKit Go.Lib
set_option linter.unusedSimpArgs false
set_option linter.unusedVariables false

/-- Bytes do not lie in the box of an effect. -/
theorem bs_ebox {w w' : World} {A B : Option Addr} {n l c g : Nat} {xs : List UInt8} {k m : Int} {T : TypeId} (h : Bs w A n xs) (hb : w.heap[g]? = some (.cells #[.int .i64 k, .int .i64 m, .slice B l c] T (0, 0))) (hc : Chg [g] w w') : Bs w' A n xs := by
  refine ⟨h.len, fun j v hj => ?_⟩
  obtain ⟨a, ha, hx⟩ := h.cells j v hj
  refine ⟨a, ha, hc.cell hx (fun q => ?_)⟩
  have q : (a.add j).block = g := by simpa using q
  simp only [World.cell?, q, hb] at hx
  split at hx
  · cases hx
  · have r := List.mem_of_getElem? (show ([.int .i64 k, .int .i64 m, .slice B l c] : List Value)[(a.add j).off]? = some (bv v) by simpa using hx)
    simp [bv] at r
theorem get_first {t : List EnP} {p : List UInt8} {k : Nat} {e : EnP} (he : t[k]? = some e) (hp : e.p = p) (hn : ∀ x ∈ t.take k, x.p ≠ p) : getT t p = some e := by
  rcases find_get (es := t) (p := p) (v := k) (.inr ⟨k, e, rfl, he, decide_eq_true hp, fun x hx => decide_eq_false (hn x hx)⟩) with ⟨h, _⟩ | ⟨j, f, hj, hf, hg⟩
  · omega
  · obtain rfl : k = j := by omega
    rw [he] at hf
    cases hf
    exact hg
set_option maxRecDepth 100000 in
set_option maxHeartbeats 4000000 in
theorem tdget_any (w : World) (A : Option Addr) (c : Nat) (xs : List EnT) (es : List EnP) (p : List UInt8) (h : RdK enTy w A xs.length xs) (hx : EnsR w xs es) (hn : xs.length ≤ 100000) :
    Calls Tryz.prog 14 #[.slice A xs.length c, .string (strOf p)] w fun r w' => ∃ (A' : Option Addr) (c' : Nat), r = .returned (.tuple #[.agg #[.int .i64 ((getT es p).getD ⟨[], 0, 0, []⟩).k, .int .i64 ((getT es p).getD ⟨[], 0, 0, []⟩).m, .slice A' ((getT es p).getD ⟨[], 0, 0, []⟩).b.length c'], .bool (getT es p).isSome]) ∧ Bs w' A' ((getT es p).getD ⟨[], 0, 0, []⟩).b.length ((getT es p).getD ⟨[], 0, 0, []⟩).b ∧ Chg [] w w' := by
  obtain ⟨w1, hw, hc, b0⟩ := news1 w (.cells #[.int .i64 0, .int .i64 0, .slice none 0 0] 25)
  have W1 := Lib.hid hw
  have C := Lib.hid hc
  have B0 := Lib.hid b0
  have HA := Lib.hid (h.chg hc (by simp))
  have HX := Lib.hid (hx.chg hc)
  have HN := Lib.hid hn
  obtain ⟨R, hR⟩ : ∃ R, getT es p = R := ⟨_, rfl⟩
  rw [hR]
  have RN := Lib.hid hR
  clear hw hc b0 h hx hn hR
  go_enter Tryz.func14, Tryz.ntmps14
  go_upto_region 1 with fail
  rw [← W1.out]
  obtain ⟨g0, hg0⟩ : ∃ g, w.heap.size = g := ⟨_, rfl⟩
  rw [hg0] at B0 ⊢
  have G0 : Hid (w.heap.size ≤ g0) := Lib.hid (by omega)
  clear W1 hg0
  go_wp2
  go_loopw [6] (fun v6 wr => ∃ k : Nat, k ≤ xs.length ∧ v6 = .int .i64 (k : Int) ∧ Hid (∀ x ∈ es.take k, x.p ≠ p) ∧ wr = w1) (fun v6 _ => xs.length - (RowKit.intOf v6).toNat)
  case atStart => exact ⟨0, Nat.zero_le _, rfl, Lib.hid (by simp), rfl⟩
  case round =>
    obtain ⟨k, hk, rfl, NO, rfl⟩ := hrel
    have i0 : (0 : Int) ≤ (k : Int) := by omega
    by_cases hlt : k < xs.length
    · have i1 : (k : Int) < (xs.length : Int) := by omega
      have i3 : IntKind.i64.wrap ((k : Int) + 1) = (k : Int) + 1 := IntWalk.i64_in _ (by have := HN.out; omega)
      obtain ⟨x, e, ex, ee, rx⟩ := HX.out.at_ hlt
      obtain ⟨g, o, eA, _⟩ := HA.out.line (by omega)
      subst eA
      obtain ⟨t0, t1, t2, t3⟩ := enCells HA.out ex
      have RX := Lib.hid rx
      have EE := Lib.hid ee
      rw [RX.out.p] at t0
      rw [RX.out.k] at t1
      rw [RX.out.m] at t2
      rw [RX.out.l] at t3
      clear ex ee rx
      by_cases hp : e.p = p
      · obtain rfl : R = some e := by rw [← RN.out]; exact get_first EE.out hp NO.out
        have e1 : ((e.p == p) : Bool) = true := by simpa using hp
        replace RX : Hid (EnR wr ⟨x.p, x.k, x.m, x.A, e.b.length, x.c⟩ e) := Lib.hid ⟨RX.out.p, RX.out.k, RX.out.m, rfl, by have q := RX.out.A; rw [RX.out.l] at q; exact q⟩
        clear hp
        have z0 := cell_of B0.out 0
        have fz0 := free_of B0.out 0
        have z1 := cell_of B0.out 1
        have fz1 := free_of B0.out 1
        have z2 := cell_of B0.out 2
        have fz2 := free_of B0.out 2
        simp only [List.getElem?_toArray, List.getElem?_cons_succ, List.getElem?_cons_zero] at z0 z1 z2
        go_wp2
        clear z0 z1 z2 fz0 fz1 fz2
        clear t0 t1 t2 t3
        obtain ⟨p0, pc⟩ := ef3_all (.int .i64 e.k) (.int .i64 e.m) (.slice x.A e.b.length x.c) B0.out
        have RB := Lib.hid (bs_ebox RX.out.A B0.out pc)
        replace B0 := Lib.hid p0
        replace C := Lib.hid (C.out.trans' pc (fun i hi => .inr (by have := G0.out; simp at hi; omega)))
        clear p0 pc
        obtain ⟨w4, hW⟩ : ∃ w9 : World, (((wr.setCell ⟨g0, 0, none⟩ (.int .i64 e.k)).setCell ⟨g0, 1, none⟩ (.int .i64 e.m)).setCell ⟨g0, 2, none⟩ (.slice x.A e.b.length x.c)) = w9 := ⟨_, rfl⟩
        rw [hW] at B0 C RB ⊢
        clear hW
        have y0 := cell_of B0.out 0
        have y1 := cell_of B0.out 1
        have y2 := cell_of B0.out 2
        simp only [List.getElem?_toArray, List.getElem?_cons_succ, List.getElem?_cons_zero] at y0 y1 y2
        refine bodyPost_ret (v := .tuple #[.agg #[.int .i64 e.k, .int .i64 e.m, .slice x.A e.b.length x.c], .bool true]) (by simp [results, Tryz.results14, go_sem, y0, y1, y2]) rfl ?_
        exact ⟨x.A, x.c, rfl, RB.out, C.out⟩
      · have e1 : ((e.p == p) : Bool) = false := by simpa using hp
        have NO1 : Hid (∀ y ∈ es.take (k + 1), y.p ≠ p) := Lib.hid (fun y hy => by
          rw [List.take_add_one, EE.out, List.mem_append] at hy
          rcases hy with q | q
          · exact NO.out y q
          · simp at q; rw [q]; exact hp)
        clear hp
        go_wp2
        go_round
        case rel => first | exact ⟨k + 1, by omega, by go_num, NO1, rfl⟩ | exact ⟨k + 1, by omega, by go_num, NO1, trivial⟩
        case measure => simp [RowKit.intOf]; omega
    · obtain rfl : k = xs.length := by omega
      have i1 : ¬ (xs.length : Int) < (xs.length : Int) := by omega
      obtain rfl : R = none := by rw [← RN.out]; exact get_none.2 (fun y hy => NO.out y (by rw [HX.out.1, List.take_length]; exact hy))
      have z0 := cell_of B0.out 0
      have fz0 := free_of B0.out 0
      have z1 := cell_of B0.out 1
      have fz1 := free_of B0.out 1
      have z2 := cell_of B0.out 2
      have fz2 := free_of B0.out 2
      simp only [List.getElem?_toArray, List.getElem?_cons_succ, List.getElem?_cons_zero] at z0 z1 z2
      go_wp2
      clear z0 z1 z2 fz0 fz1 fz2
      obtain ⟨p0, pc⟩ := ef3_all (.int .i64 0) (.int .i64 0) (.slice none 0 0) B0.out
      replace B0 := Lib.hid p0
      replace C := Lib.hid (C.out.trans' pc (fun i hi => .inr (by have := G0.out; simp at hi; omega)))
      clear p0 pc
      obtain ⟨w4, hW⟩ : ∃ w9 : World, (((wr.setCell ⟨g0, 0, none⟩ (.int .i64 0)).setCell ⟨g0, 1, none⟩ (.int .i64 0)).setCell ⟨g0, 2, none⟩ (.slice none 0 0)) = w9 := ⟨_, rfl⟩
      rw [hW] at B0 C ⊢
      clear hW
      have y0 := cell_of B0.out 0
      have y1 := cell_of B0.out 1
      have y2 := cell_of B0.out 2
      simp only [List.getElem?_toArray, List.getElem?_cons_succ, List.getElem?_cons_zero] at y0 y1 y2
      refine bodyPost_ret (v := .tuple #[.agg #[.int .i64 0, .int .i64 0, .slice none 0 0], .bool false]) (by simp [results, Tryz.results14, go_sem, y0, y1, y2]) rfl ?_
      first | exact ⟨none, 0, rfl, ⟨rfl, fun j v hj => by simp at hj⟩, C.out⟩ | exact ⟨none, ⟨0, rfl⟩, ⟨rfl, fun j v hj => by simp at hj⟩, C.out⟩
end
section
open Go.RowKit
set_option linter.unusedSimpArgs false
set_option linter.unusedVariables false
theorem unc_len (M : Nat) : ∀ xs : List (List UInt8), (∀ x ∈ xs, x.length ≤ M) → (unc xs).length ≤ xs.length * (M + 1)
  | [], _ => by simp [unc]
  | [x], h => by have := h x (by simp); simp [unc]; omega
  | x :: y :: r, h => by
    have h1 := h x (by simp)
    have h2 := unc_len M (y :: r) (fun z hz => h z (by simp at hz ⊢; exact .inr hz))
    rw [unc_cons x (y :: r) (by simp), List.length_append, List.length_cons, List.length_cons (a := x), Nat.succ_mul]
    omega
set_option maxRecDepth 100000 in
set_option maxHeartbeats 2000000 in
theorem qjoin_any (w : World) (A : Option Addr) (c : Nat) (xs : List (List UInt8)) (h : RdK textTy w A xs.length xs) (hn : xs.length ≤ 1000000) (hl : ∀ x ∈ xs, x.length ≤ 10000000) :
    Calls Tryz.prog 114 #[.slice A xs.length c] w fun e w' => e = .returned (.string (strOf (unc xs))) ∧ w' = w := by
  have HA := Lib.hid h
  obtain ⟨R, hR⟩ : ∃ R, strOf (unc xs) = R := ⟨_, rfl⟩
  rw [hR]
  have HR := Lib.hid hR
  have HL := Lib.hid hl
  clear h hR hl
  go_enter Tryz.func114, Tryz.ntmps114
  go_wp2
  go_loopw [3, 4] (fun v3 v4 wr => ∃ k : Nat, k ≤ xs.length ∧ v4 = .int .i64 (k : Int) ∧ v3 = .string (strOf (unc (xs.take k))) ∧ wr = w) (fun _ v4 _ => xs.length - (RowKit.intOf v4).toNat)
  case atStart => exact ⟨0, Nat.zero_le _, rfl, rfl, rfl⟩
  case round =>
    obtain ⟨k, hk, rfl, rfl, rfl⟩ := hrel
    have k1 : IntKind.i64.wrap ((k : Int) + 1) = (k : Int) + 1 := IntWalk.i64_in _ (by omega)
    have i0 : (0 : Int) ≤ (k : Int) := by omega
    by_cases hlt : k < xs.length
    · have i1 : (k : Int) < (xs.length : Int) := by omega
      obtain ⟨g, o, eA, _⟩ := HA.out.line (by omega)
      subst eA
      have ex := List.getElem?_eq_getElem hlt
      have z := textCells HA.out ex
      have HT := Lib.hid (List.take_succ_eq_append_getElem hlt)
      have hx := HL.out xs[k] (List.getElem_mem hlt)
      have hu := unc_len 10000000 (xs.take k) (fun x hx => HL.out x (List.mem_of_mem_take hx))
      have hu2 : (xs.take k).length * (10000000 + 1) ≤ 1000000 * (10000000 + 1) := Nat.mul_le_mul_right _ (by rw [List.length_take]; omega)
      generalize xs[k] = x at *
      have sx := strOf_size x
      by_cases hk0 : k = 0
      · subst hk0
        rw [Nat.add_zero] at z
        have i2 : ¬ ((0 : Int) < 0) := by omega
        rw [show unc (xs.take 0) = [] from rfl]
        have s0 := strOf_size []
        have ea : strOf [] ++ strOf x = strOf x := by apply ByteArray.ext; simp [strOf]
        have e1 : unc (xs.take (0 + 1)) = x := by rw [HT.out]; rfl
        have HE := Lib.hid e1
        clear ex e1 hu hu2
        go_wp2
        exact ⟨⟨1, by omega, by simp, by first | (rw [HE.out]; simp [ea]; done) | (rw [HE.out]; done) | (rw [HE.out]; exact congrArg Value.string ea), trivial⟩, by simp [RowKit.intOf]; omega⟩
      · have i2 : (0 : Int) < (k : Int) := by omega
        have hne : xs.take k ≠ [] := by
          intro e
          have := congrArg List.length e
          rw [List.length_take, Nat.min_eq_left hk] at this
          exact hk0 this
        have e1 : unc (xs.take (k + 1)) = unc (xs.take k) ++ 47 :: x := by rw [HT.out, unc_snoc _ _ hne]
        have HE := Lib.hid e1
        have hu3 : (unc (xs.take k)).length ≤ 10000001000000 := by omega
        clear ex e1 hne hu hu2
        generalize unc (xs.take k) = p at *
        have s0 := strOf_size p
        have ea : strOf p ++ (⟨#[47]⟩ : ByteArray) = strOf (p ++ [47]) := by apply ByteArray.ext; simp [strOf]
        have s1 := strOf_size (p ++ [47])
        have s2 : (p ++ [47]).length = p.length + 1 := by simp
        have eb : strOf (p ++ [47]) ++ strOf x = strOf (p ++ 47 :: x) := by apply ByteArray.ext; simp [strOf]
        go_wp2
        exact ⟨⟨k + 1, by omega, by simp, by first | (rw [HE.out]; done) | (rw [HE.out]; simp [ea, eb]), trivial⟩, by simp [RowKit.intOf]; omega⟩
    · obtain rfl : k = xs.length := by omega
      rw [List.take_length]
      have i1 : ¬ ((xs.length : Int) < (xs.length : Int)) := by omega
      rw [HR.out]
      go_wp2
      go_ret
      exact ⟨rfl, rfl⟩
end
section
open Go.RowKit
set_option linter.unusedSimpArgs false
set_option linter.unusedVariables false
theorem qsplit_no (w : World) (l : List UInt8) (hl : l.length ≤ 10000000) (hp : okP l = false) :
    Calls Tryz.prog 113 #[.string (strOf l)] w fun e w' => e = .returned (.tuple #[.slice none 0 0, .int .i64 2]) ∧ Chg [] w w' := by
  have C1 := Lib.hid (qcheck_p l false hp hl)
  clear hp
  go_enter Tryz.func113, Tryz.ntmps113
  go_wp2_with fail
  refine (C1.out _).mono ?_
  rintro e w1 ⟨rfl, hc⟩
  go_wp2
  go_ret2
  exact ⟨rfl, hc⟩
theorem qsplit_yes (w : World) (l : List UInt8) (hl : l.length ≤ 10000000) (hp : okP l = true) :
    Calls Tryz.prog 113 #[.string (strOf l)] w fun e w' => ∃ A c, e = .returned (.tuple #[.slice A (cutL l).length c, .int .i64 0]) ∧ OwnK textTy w' A c (cutL l) ∧ (∀ a, A = some a → w.heap.size ≤ a.block) ∧ Chg [] w w' := by
  have C1 := Lib.hid (qcheck_p l true hp hl)
  have C2 := Lib.hid (fun w => qcut_any w l hl)
  clear hp
  generalize cutL l = xs at *
  go_enter Tryz.func113, Tryz.ntmps113
  go_wp2_with fail
  refine (C1.out _).mono ?_
  rintro e w1 ⟨rfl, hc⟩
  go_wp2_with fail
  refine (C2.out _).mono ?_
  rintro e w2 ⟨A, c, rfl, h1, h2, h3⟩
  have H1 := Lib.hid h1
  have H2 := Lib.hid h2
  have H3 := Lib.hid h3
  clear h1 h2 h3
  go_wp2
  go_ret2
  exact ⟨A, c, rfl, H1.out, fun a ha => Nat.le_trans hc.size (H2.out a ha), hc.trans H3.out⟩
set_option maxHeartbeats 2000000 in
theorem qparent_any (w : World) (l : List UInt8) (hl : l.length ≤ 900000) :
    Calls Tryz.prog 88 #[.string (strOf l)] w fun e w' => e = .returned (.tuple #[.string (strOf (parentL l)), .bool (hasParent l)]) ∧ Chg [] w w' := by
  cases hp : okP l with
  | false =>
    have hq : parentL l = [] := by unfold parentL; rw [hp]; rfl
    have hh : hasParent l = false := by unfold hasParent; rw [hp]; rfl
    rw [hq, hh]
    have C1 := Lib.hid (fun w => qsplit_no w l (by omega) hp)
    clear hp hq hh
    go_enter Tryz.func88, Tryz.ntmps88
    go_wp2_with fail
    refine (C1.out _).mono ?_
    rintro e w1 ⟨rfl, hc⟩
    go_wp2
    go_ret2
    exact ⟨rfl, hc⟩
  | true =>
    have C1 := Lib.hid (fun w => qsplit_yes w l (by omega) hp)
    have hq : parentL l = if 2 ≤ (cutL l).length then unc (cutL l).dropLast else [] := by unfold parentL; rw [hp]; simp
    have hh : hasParent l = decide (2 ≤ (cutL l).length) := by unfold hasParent; rw [hp]; simp
    rw [hq, hh]
    have hx : ∀ x ∈ cutL l, x.length ≤ 10000000 := fun x hx => by have := cutA_short l [] x hx; simp at this; omega
    have hn : (cutL l).length ≤ 1000000 := by have := cutA_len l []; show (cutA [] l).length ≤ _; omega
    clear hp hq hh
    generalize cutL l = xs at *
    have HX := Lib.hid hx
    clear hx
    by_cases h2 : 2 ≤ xs.length
    · rw [if_pos h2, decide_eq_true h2]
      have i1 : ¬ ((xs.length : Int) < 2) := by omega
      have k1 : IntKind.i64.wrap ((xs.length : Int) - 1) = (xs.length : Int) - 1 := IntWalk.i64_in _ (by omega)
      have i2 : (0 : Int) ≤ (xs.length : Int) - 1 := by omega
      have nt : ((xs.length : Int) - 1).toNat = xs.length - 1 := by omega
      go_enter Tryz.func88, Tryz.ntmps88
      go_wp2_with fail
      refine (C1.out _).mono ?_
      rintro e w1 ⟨A, c, rfl, h1, _, h3⟩
      have hcap := h1.cap.1
      have i3 : (xs.length : Int) - 1 ≤ (c : Int) := by omega
      have i4 : xs.length - 1 ≤ c := by omega
      have QJ := Lib.hid (show Calls Tryz.prog 114 #[.slice A (xs.length - 1) c] w1 fun e w' => e = .returned (.string (strOf (unc xs.dropLast))) ∧ w' = w1 from by
        have ho := (h1.take (xs.length - 1)).reads
        have := qjoin_any w1 A c (xs.take (xs.length - 1)) ho (by rw [List.length_take]; omega) (fun x hx => HX.out x (List.mem_of_mem_take hx))
        rw [List.length_take, Nat.min_eq_left (by omega), ← List.dropLast_eq_take] at this
        exact this)
      have H3 := Lib.hid h3
      obtain ⟨e0, e1, e2⟩ | ⟨g, e0, _⟩ := h1.shape
      · subst e1; simp at h2
      subst e0
      clear h1 h3
      go_wp2_with fail
      refine QJ.out.mono ?_
      rintro e w2 ⟨rfl, rfl⟩
      go_wp2
      go_ret2
      exact ⟨rfl, H3.out⟩
    · rw [if_neg h2, decide_eq_false h2]
      have i1 : ((xs.length : Int) < 2) := by omega
      go_enter Tryz.func88, Tryz.ntmps88
      go_wp2_with fail
      refine (C1.out _).mono ?_
      rintro e w1 ⟨A, c, rfl, _, _, h3⟩
      go_wp2
      go_ret2
      exact ⟨rfl, h3⟩
end
section
open Go.RowKit Go.Lib
set_option linter.unusedSimpArgs false
set_option linter.unusedVariables false

set_option maxRecDepth 100000 in
set_option maxHeartbeats 4000000 in
theorem tdparent_any (w : World) (A : Option Addr) (c : Nat) (xs : List EnT) (es : List EnP) (p : List UInt8) (hp : p.length ≤ 900000) (h : RdK enTy w A xs.length xs) (hx : EnsR w xs es) (hn : xs.length ≤ 100000) :
    Calls Tryz.prog 47 #[.slice A xs.length c, .string (strOf p)] w fun r w' => r = .returned (.int .i64 (parT es p)) ∧ Chg [] w w' := by
  have PX := Lib.hid (qparent_any w p hp)
  have GE : Hid (∀ w', Chg [] w w' → _) := Lib.hid (fun w' hc => tdget_any w' A c xs es (parentL p) (h.chg hc (by simp)) (hx.chg hc) hn)
  generalize hv : parT es p = v
  have HV := Lib.hid hv
  clear h hx hn hp hv
  go_enter Tryz.func47, Tryz.ntmps47
  go_wp2_with fail
  refine PX.out.mono ?_
  rintro r w1 ⟨rfl, hc⟩
  have C := Lib.hid hc
  clear hc PX
  rcases hh : hasParent p with _ | _
  · obtain rfl : v = 0 := by rw [← HV.out]; unfold parT; rw [hh]; rfl
    clear hh HV
    go_wp2
    go_ret
    exact ⟨rfl, C.out⟩
  have HP := Lib.hid hh
  clear hh
  go_wp2_with fail
  refine (GE.out w1 C.out).mono ?_
  rintro r w2 ⟨A', c', rfl, _, hc⟩
  replace C := Lib.hid (C.out.trans hc)
  clear hc GE
  rcases hg : getT es (parentL p) with _ | e
  · obtain rfl : v = 6 := by rw [← HV.out]; unfold parT; rw [HP.out, hg]; rfl
    clear hg HV
    go_wp2
    go_ret
    have hc0 : Chg [] w2 (w2.alloc (.cells #[.int .i64 0, .int .i64 0, .slice A' 0 c'] 25)) := by
      obtain ⟨w3, hw, hc, b3⟩ := news1 w2 (.cells #[.int .i64 0, .int .i64 0, .slice A' 0 c'] 25)
      rw [← hw]; exact hc
    exact ⟨rfl, C.out.trans hc0⟩
  · have VE : Hid (v = if e.k = 2 then 0 else 12) := Lib.hid (by rw [← HV.out]; unfold parT; rw [HP.out, hg]; rfl)
    obtain ⟨w3, hw, hc, b3⟩ := news1 w2 (.cells #[.int .i64 e.k, .int .i64 e.m, .slice A' e.b.length c'] 25)
    have W3 := Lib.hid hw
    have y0 := cell_of b3 0
    have y1 := cell_of b3 1
    have y2 := cell_of b3 2
    simp only [List.getElem?_toArray, List.getElem?_cons_succ, List.getElem?_cons_zero] at y0 y1 y2
    replace C := Lib.hid (C.out.trans hc)
    clear hg HV hw hc b3
    go_upto_region 5 with fail
    rw [← W3.out]
    generalize w2.heap.size = g0 at *
    clear W3
    by_cases hk : e.k = 2
    · have h1 : ((e.k == 2) : Bool) = true := by simpa using hk
      have h2 : ((e.k != 2) : Bool) = false := by unfold bne; rw [h1]; rfl
      obtain rfl : v = 0 := by rw [VE.out, if_pos hk]
      clear hk VE
      go_wp2
      go_ret
      exact ⟨rfl, C.out⟩
    · have h1 : ((e.k == 2) : Bool) = false := by simpa using hk
      have h2 : ((e.k != 2) : Bool) = true := by unfold bne; rw [h1]; rfl
      obtain rfl : v = 12 := by rw [VE.out, if_neg hk]
      clear hk VE
      go_wp2
      go_ret
      exact ⟨rfl, C.out⟩
end
section
open Go.RowKit Go.Lib
set_option linter.unusedSimpArgs false
set_option linter.unusedVariables false

set_option maxHeartbeats 4000000 in
theorem fcheck_any (w : World) (k m : Int) (A : Option Addr) (n c : Nat) (hn : n ≤ 140737488351232) :
    Calls Tryz.prog 45 #[.agg #[.int .i64 k, .int .i64 m, .slice A n c]] w fun e w' => e = .returned (.int .i64 (chkE k m n)) ∧ Chg [] w w' := by
  have go : ∀ v, chkE k m n = v → Calls Tryz.prog 45 #[.agg #[.int .i64 k, .int .i64 m, .slice A n c]] w (fun e w' => e = .returned (.int .i64 v) ∧ Chg [] w w') → Calls Tryz.prog 45 #[.agg #[.int .i64 k, .int .i64 m, .slice A n c]] w fun e w' => e = .returned (.int .i64 (chkE k m n)) ∧ Chg [] w w' := fun v hv h => hv ▸ h
  by_cases h1 : k = 1
  · subst h1
    by_cases m0 : m < 0
    · refine go 2 (chkE_odd (by unfold Fine; omega)) ?_
      have m0' : ¬ 0 ≤ m := by omega
      clear go
      go_enter Tryz.func45, Tryz.ntmps45
      go_wp2
      go_ret
      exact ⟨rfl, (Chg.refl _ _).alloc _⟩
    have m0' : 0 ≤ m := by omega
    by_cases m1 : 511 < m
    · refine go 2 (chkE_odd (by unfold Fine; omega)) ?_
      have m1' : ¬ m ≤ 511 := by omega
      clear go
      go_enter Tryz.func45, Tryz.ntmps45
      go_wp2
      go_ret
      exact ⟨rfl, (Chg.refl _ _).alloc _⟩
    have m1' : m ≤ 511 := by omega
    by_cases n1 : 1000 < n
    · refine go 2 (chkE_odd (by unfold Fine; omega)) ?_
      have n1' : decide ((n : Int) ≤ 1000) = false := by simp; omega
      clear go
      go_enter Tryz.func45, Tryz.ntmps45
      go_wp2
      go_ret
      exact ⟨rfl, (Chg.refl _ _).alloc _⟩
    · refine go 0 (chkE_fine (by unfold Fine; omega)) ?_
      have n1' : decide ((n : Int) ≤ 1000) = true := by simp; omega
      clear go
      go_enter Tryz.func45, Tryz.ntmps45
      go_wp2
      go_ret
      exact ⟨rfl, (Chg.refl _ _).alloc _⟩
  have h1' : (k == 1) = false := by simpa using h1
  by_cases h2 : k = 2
  · subst h2
    by_cases m0 : m < 0
    · refine go 2 (chkE_odd (by unfold Fine; omega)) ?_
      have m0' : ¬ 0 ≤ m := by omega
      clear go
      go_enter Tryz.func45, Tryz.ntmps45
      go_wp2
      go_ret
      exact ⟨rfl, (Chg.refl _ _).alloc _⟩
    have m0' : 0 ≤ m := by omega
    by_cases m1 : 511 < m
    · refine go 2 (chkE_odd (by unfold Fine; omega)) ?_
      have m1' : ¬ m ≤ 511 := by omega
      clear go
      go_enter Tryz.func45, Tryz.ntmps45
      go_wp2
      go_ret
      exact ⟨rfl, (Chg.refl _ _).alloc _⟩
    have m1' : m ≤ 511 := by omega
    by_cases n1 : n = 0
    · subst n1
      refine go 0 (chkE_fine (by unfold Fine; omega)) ?_
      clear go
      go_enter Tryz.func45, Tryz.ntmps45
      go_wp2
      go_ret
      exact ⟨rfl, (Chg.refl _ _).alloc _⟩
    · refine go 2 (chkE_odd (by unfold Fine; omega)) ?_
      have n1' : ((n : Int) == 0) = false := by simp; omega
      clear go
      go_enter Tryz.func45, Tryz.ntmps45
      go_wp2
      go_ret
      exact ⟨rfl, (Chg.refl _ _).alloc _⟩
  have h2' : (k == 2) = false := by simpa using h2
  by_cases h3 : k = 3
  · subst h3
    by_cases m0 : m = 0
    · subst m0
      by_cases n1 : n = 0
      · subst n1
        refine go 0 (chkE_fine (by unfold Fine; omega)) ?_
        clear go
        go_enter Tryz.func45, Tryz.ntmps45
        go_wp2
        go_ret
        exact ⟨rfl, (Chg.refl _ _).alloc _⟩
      · refine go 2 (chkE_odd (by unfold Fine; omega)) ?_
        have n1' : ((n : Int) == 0) = false := by simp; omega
        clear go
        go_enter Tryz.func45, Tryz.ntmps45
        go_wp2
        go_ret
        exact ⟨rfl, (Chg.refl _ _).alloc _⟩
    · refine go 2 (chkE_odd (by unfold Fine; omega)) ?_
      have m0' : (m == 0) = false := by simpa using m0
      clear go
      go_enter Tryz.func45, Tryz.ntmps45
      go_wp2
      go_ret
      exact ⟨rfl, (Chg.refl _ _).alloc _⟩
  have h3' : (k == 3) = false := by simpa using h3
  refine go 2 (chkE_odd (by unfold Fine; omega)) ?_
  clear go
  go_enter Tryz.func45, Tryz.ntmps45
  go_wp2
  go_ret
  exact ⟨rfl, (Chg.refl _ _).alloc _⟩
end
section
open Go.RowKit Go.Lib
set_option linter.unusedSimpArgs false
set_option linter.unusedVariables false

set_option maxRecDepth 100000 in
set_option maxHeartbeats 8000000 in
theorem tdcheck_any (w : World) (A : Option Addr) (c : Nat) (xs : List EnT) (es : List EnP) (h : RdK enTy w A xs.length xs) (hx : EnsR w xs es) (hn : xs.length ≤ 200) (hs : ∀ e ∈ es, EnSm e ∧ e.p.length ≤ 900000) :
    Calls Tryz.prog 16 #[.slice A xs.length c] w fun r w' => r = .returned (.int .i64 (tabE es)) ∧ Chg [] w w' := by
  have HA := Lib.hid h
  have HX := Lib.hid hx
  have HN := Lib.hid hn
  have HS := Lib.hid hs
  have n200 : ¬ (200 : Int) < (xs.length : Int) := by omega
  generalize hv : tabE es = v
  have HV := Lib.hid hv
  have NO : Hid (¬ TabOk es → v = 2) := Lib.hid (fun q => by rw [← hv]; exact if_neg q)
  clear h hx hn hs hv
  go_enter Tryz.func16, Tryz.ntmps16
  go_wp2
  clear n200
  go_loopw [3] (fun v3 wr => ∃ k : Nat, k ≤ xs.length ∧ v3 = .int .i64 (k : Int) ∧ Hid (PreT es k) ∧ Hid (Chg [] w wr)) (fun v3 _ => xs.length - (RowKit.intOf v3).toNat)
  case atStart => exact ⟨0, Nat.zero_le _, rfl, Lib.hid (PreT.zero es), Chg.refl _ _⟩
  case round =>
    obtain ⟨k, hk, rfl, PT, RC⟩ := hrel
    have i0 : (0 : Int) ≤ (k : Int) := by omega
    by_cases hlt : k < xs.length
    · have i1 : (k : Int) < (xs.length : Int) := by omega
      have i3 : IntKind.i64.wrap ((k : Int) + 1) = (k : Int) + 1 := IntWalk.i64_in _ (by have := HN.out; omega)
      obtain ⟨x, e, ex, ee, rx⟩ := HX.out.at_ hlt
      obtain ⟨g, o, eA, _⟩ := HA.out.line (by omega)
      subst eA
      obtain ⟨t0, t1, t2, t3⟩ := enCells (HA.out.chg RC.out (by simp)) ex
      have EE := Lib.hid ee
      have RX := Lib.hid rx
      have SM := Lib.hid (HS.out e (List.mem_of_getElem? ee))
      have KL := Lib.hid hlt
      rw [RX.out.p] at t0
      clear ex ee rx
      go_upto_region 7 with fail
      clear t0 t1 t2 t3
      obtain ⟨w1, hw, hc, b4⟩ := news1 wr (.cells #[.string (strOf e.p), .int .i64 x.k, .int .i64 x.m, .slice x.A x.l x.c] 55)
      rw [← hw]
      generalize wr.heap.size = g4 at *
      have B4 := Lib.hid b4
      replace RC := Lib.hid (RC.out.trans hc)
      clear hw hc b4
      have QC := Lib.hid (qcheck_any w1 e.p SM.out.1.1)
      have FC : Hid (∀ w', Calls Tryz.prog 45 #[.agg #[.int .i64 x.k, .int .i64 x.m, .slice x.A x.l x.c]] w' fun r w2 => r = .returned (.int .i64 (chkE e.k e.m e.b.length)) ∧ Chg [] w' w2) := Lib.hid (fun w' => by
        have q := fcheck_any w' x.k x.m x.A x.l x.c (by rw [RX.out.l]; exact SM.out.1.2)
        rw [RX.out.k, RX.out.m, RX.out.l] at q
        rw [RX.out.k, RX.out.m, RX.out.l]
        exact q)
      have z0 := cell_of B4.out 0
      have z1 := cell_of B4.out 1
      have z2 := cell_of B4.out 2
      have z3 := cell_of B4.out 3
      simp only [List.getElem?_toArray, List.getElem?_cons_succ, List.getElem?_cons_zero] at z0 z1 z2 z3

      go_wp2_with fail
      clear z0 z1 z2 z3
      refine QC.out.mono ?_
      rintro r w2 ⟨rfl, hc⟩
      replace B4 := Lib.hid (hc.at_ B4.out (by simp))
      replace RC := Lib.hid (RC.out.trans hc)
      clear hc QC
      by_cases hp : checkL 6 12 e.p = true
      rotate_left
      · skip
        obtain rfl : v = 2 := NO.out (fun q => hp (tab_at q EE.out).1.1)
        rw [if_neg hp]
        clear hp HV NO
        go_wp2
        go_ret
        exact ⟨rfl, RC.out⟩
      rw [if_pos hp]
      have OKP : Hid (okP e.p = true) := Lib.hid hp
      clear hp
      have z0 := cell_of B4.out 0
      have z1 := cell_of B4.out 1
      have z2 := cell_of B4.out 2
      have z3 := cell_of B4.out 3
      simp only [List.getElem?_toArray, List.getElem?_cons_succ, List.getElem?_cons_zero] at z0 z1 z2 z3

      go_wp2_with fail
      clear z0 z1 z2 z3
      refine (FC.out w2).mono ?_
      rintro r w3 ⟨rfl, hc⟩
      replace B4 := Lib.hid (hc.at_ B4.out (by simp))
      replace RC := Lib.hid (RC.out.trans hc)
      clear hc FC
      by_cases he : chkE e.k e.m e.b.length = 0
      rotate_left
      · skip
        obtain rfl : v = 2 := NO.out (fun q => he (tab_at q EE.out).1.2.1)
        have h1 : ((chkE e.k e.m e.b.length == 0) : Bool) = false := by simpa using he
        have h2 : ((chkE e.k e.m e.b.length != 0) : Bool) = true := by unfold bne; rw [h1]; rfl
        clear HV NO
        go_wp2
        go_ret
        exact ⟨rfl, RC.out⟩
      rw [he]
      have HE := Lib.hid he
      clear he
      have z0 := cell_of B4.out 0
      have z1 := cell_of B4.out 1
      have z2 := cell_of B4.out 2
      have z3 := cell_of B4.out 3
      simp only [List.getElem?_toArray, List.getElem?_cons_succ, List.getElem?_cons_zero] at z0 z1 z2 z3

      by_cases hk3 : x.k = 3
      · skip
        obtain rfl : v = 2 := NO.out (fun q => (tab_at q EE.out).1.2.2 (by rw [← RX.out.k]; exact hk3))
        have h1 : ((x.k == 3) : Bool) = true := by simpa using hk3
        clear hk3 HV NO
        go_wp2
        go_ret
        exact ⟨rfl, RC.out⟩
      have h1 : ((x.k == 3) : Bool) = false := by simpa using hk3
      have ST : Hid (Stands e) := Lib.hid ⟨OKP.out, HE.out, fun q => hk3 (by rw [RX.out.k]; exact q)⟩
      clear hk3
      by_cases hk0 : k = 0
      · skip
        have d1 : ¬ (0 : Int) < (k : Int) := by omega
        have d2 : decide ((0 : Int) < (k : Int)) = false := decide_eq_false d1
        have d7 : decide (0 < k) = false := decide_eq_false (by omega)
        have DX : Hid (∀ w', Chg [] w3 w' → (fun w' => w'.cell? ⟨g4, 0, none⟩ = some (.string (strOf e.p)) ∧ w'.cell? ⟨g4, 1, none⟩ = some (.int .i64 x.k) ∧ w'.cell? ⟨g4, 2, none⟩ = some (.int .i64 x.m) ∧ w'.cell? ⟨g4, 3, none⟩ = some (.slice x.A x.l x.c)) w') := Lib.hid (fun w' hc => by
          have b4 := hc.at_ B4.out (by simp)
          exact ⟨cell_of b4 0, cell_of b4 1, cell_of b4 2, cell_of b4 3⟩)
        go_upto_region 9 with fail
        clear z0 z1 z2 z3 h1
        refine wp_region_held_drew (S := fun w' => w'.cell? ⟨g4, 0, none⟩ = some (.string (strOf e.p)) ∧ w'.cell? ⟨g4, 1, none⟩ = some (.int .i64 x.k) ∧ w'.cell? ⟨g4, 2, none⟩ = some (.int .i64 x.m) ∧ w'.cell? ⟨g4, 3, none⟩ = some (.slice x.A x.l x.c)) (by kernel_rfl) (DX.out _ (Chg.refl [] w3).drew) (fun hHeld => ?_)
        have CC : Hid (Chg [] w3 w3.drew) := Lib.hid (Chg.refl [] w3).drew
        clear hHeld
        obtain ⟨wc, hwc⟩ : ∃ wc, w3.drew = wc := ⟨_, rfl⟩
        rw [hwc] at CC ⊢
        clear hwc
        refine sy 0 34 rfl rfl ?_ (hS := (DX.out _ CC.out))
        try simp only [Act.put, sA, s0, s1]
        refine sy 1 35 rfl rfl ?_ (hS := (DX.out _ CC.out))
        try simp only [Act.put, sA, s0, s1]
        refine sy 2 36 rfl rfl ?_ (hS := (DX.out _ CC.out))
        try simp only [Act.put, sA, s0, s1]
        refine sn 3 37 rfl rfl ?_ (hS := (DX.out _ CC.out))
        try simp only [Act.put, sA, s0, s1]
        refine sn 4 38 rfl rfl ?_ (hS := (DX.out _ CC.out))
        try simp only [Act.put, sA, s0, s1]
        refine sn 5 39 rfl rfl ?_ (hS := (DX.out _ CC.out))
        try simp only [Act.put, sA, s0, s1]
        refine sn 6 40 rfl rfl ?_ (hS := (DX.out _ CC.out))
        try simp only [Act.put, sA, s0, s1]
        refine sn 7 41 rfl rfl ?_ (hS := (DX.out _ CC.out))
        try simp only [Act.put, sA, s0, s1]
        refine sn 8 42 rfl rfl ?_ (hS := (DX.out _ CC.out))
        try simp only [Act.put, sA, s0, s1]
        refine sn 9 43 rfl rfl ?_ (hS := (DX.out _ CC.out))
        try simp only [Act.put, sA, s0, s1]
        refine sn 10 44 rfl rfl ?_ (hS := (DX.out _ CC.out))
        try simp only [Act.put, sA, s0, s1]
        refine sn 11 45 rfl rfl ?_ (hS := (DX.out _ CC.out))
        try simp only [Act.put, sA, s0, s1]
        refine sn 12 46 rfl rfl ?_ (hS := (DX.out _ CC.out))
        try simp only [Act.put, sA, s0, s1]
        refine sy 13 47 rfl rfl ?_ (hS := (DX.out _ CC.out))
        try simp only [Act.put, sA, s0, s1]
        refine sy 14 48 rfl rfl ?_ (hS := (DX.out _ CC.out))
        try simp only [Act.put, sA, s0, s1]
        refine sy 15 49 rfl rfl ?_ (hS := (DX.out _ CC.out))
        try simp only [Act.put, sA, s0, s1]
        refine sy 16 50 rfl rfl ?_ (hS := (DX.out _ CC.out))
        try simp only [Act.put, sA, s0, s1]
        refine sy 17 51 rfl rfl ?_ (hS := (DX.out _ CC.out)) (hy := by (intro w hSw; (try dsimp only at hSw); obtain ⟨q0, q1, q2, q3⟩ := hSw; go_simp; try with_reducible rfl))
        try simp only [Act.put, sA, s0, s1]
        refine wpAnyH_ready (rs := [18]) (by kernel_rfl) (by simp) ?_
        refine AllReadyH.cons rfl (fun K hK => ?_) AllReadyH.nil
        replace hK := Lib.hid hK
        go_simp
        refine (tdparent_any wc (some ⟨g, o, none⟩) c xs es e.p SM.out.2 (HA.out.chg (RC.out.trans CC.out) (by simp)) (HX.out.chg (RC.out.trans CC.out)) (by have := HN.out; omega)).mono ?_
        rintro r wn ⟨rfl, hc⟩
        replace CC := Lib.hid (CC.out.trans hc)
        clear hc
        generalize hpp : parT es e.p = pv
        generalize wn = wc at *
        refine hK.out _ _ (DX.out _ CC.out) (fun hHeld => ?_)
        clear hK K
        try simp only [Act.put, sA, s0, s1]
        refine sy 19 53 rfl rfl ?_ (hS := (DX.out _ CC.out))
        try simp only [Act.put, sA, s0, s1]
        refine sy 20 54 rfl rfl ?_ (hS := (DX.out _ CC.out))
        try simp only [Act.put, sA, s0, s1]
        refine wpAnyH_done (by kernel_rfl) ?_ _
        clear hHeld
        by_cases h0 : pv = 0
        · skip
          have PN : Hid (PreT es (k + 1)) := Lib.hid (PT.out.next EE.out ST.out (fun f2 h _ => absurd h (by omega)) (hpp.trans h0))
          subst h0
          clear hpp
          go_wp2
          go_round
          case rel => exact ⟨k + 1, by omega, by go_num, PN, RC.out.trans CC.out⟩
          case measure => simp [RowKit.intOf]; omega
        have h1 : ((pv == 0) : Bool) = false := by simpa using h0
        have h2 : ((pv != 0) : Bool) = true := by unfold bne; rw [h1]; rfl
        obtain rfl : v = 2 := NO.out (fun q => h0 (hpp.symm.trans (tab_at q EE.out).2.2))
        clear h0 hpp HV NO
        go_wp2
        go_ret
        exact ⟨rfl, RC.out.trans CC.out⟩
      have d1 : (0 : Int) < (k : Int) := by omega
      have d2 : decide ((0 : Int) < (k : Int)) = true := decide_eq_true d1
      have d6 : 0 < k := by omega
      have d7 : decide (0 < k) = true := decide_eq_true d6
      have d3 : IntKind.i64.wrap ((k : Int) - 1) = ((k - 1 : Nat) : Int) := by rw [IntWalk.i64_in _ (by have := HN.out; omega)]; omega
      have d4 : (0 : Int) ≤ ((k - 1 : Nat) : Int) := by omega
      have d5 : ((k - 1 : Nat) : Int) < (xs.length : Int) := by omega
      obtain ⟨fx, f, ex, ef, rf⟩ := HX.out.at_ (show k - 1 < xs.length by omega)
      have FX := Lib.hid ex
      have FE := Lib.hid ef
      have FR := Lib.hid rf
      have FS := Lib.hid (HS.out f (List.mem_of_getElem? ef))
      clear ex ef rf
      rcases hl : lessL f.p e.p with _ | _
      · skip
        have LV := Lib.hid hl
        have ltNO : Hid (¬ ltT f e) := Lib.hid (by unfold ltT; rw [hl]; simp)
        clear hl
        have DX : Hid (∀ w', Chg [] w3 w' → (fun w' => w'.cell? ⟨g4, 0, none⟩ = some (.string (strOf e.p)) ∧ w'.cell? ⟨g4, 1, none⟩ = some (.int .i64 x.k) ∧ w'.cell? ⟨g4, 2, none⟩ = some (.int .i64 x.m) ∧ w'.cell? ⟨g4, 3, none⟩ = some (.slice x.A x.l x.c) ∧ w'.cell? ⟨g, o + (k - 1) * 4, none⟩ = some (.string (strOf f.p))) w') := Lib.hid (fun w' hc => by
          have b4 := hc.at_ B4.out (by simp)
          have q := (enCells (HA.out.chg (RC.out.trans hc) (by simp)) FX.out).1
          rw [FR.out.p] at q
          exact ⟨cell_of b4 0, cell_of b4 1, cell_of b4 2, cell_of b4 3, q⟩)
        go_upto_region 9 with fail
        clear z0 z1 z2 z3 h1
        refine wp_region_held_drew (S := fun w' => w'.cell? ⟨g4, 0, none⟩ = some (.string (strOf e.p)) ∧ w'.cell? ⟨g4, 1, none⟩ = some (.int .i64 x.k) ∧ w'.cell? ⟨g4, 2, none⟩ = some (.int .i64 x.m) ∧ w'.cell? ⟨g4, 3, none⟩ = some (.slice x.A x.l x.c) ∧ w'.cell? ⟨g, o + (k - 1) * 4, none⟩ = some (.string (strOf f.p))) (by kernel_rfl) (DX.out _ (Chg.refl [] w3).drew) (fun hHeld => ?_)
        have CC : Hid (Chg [] w3 w3.drew) := Lib.hid (Chg.refl [] w3).drew
        clear hHeld
        obtain ⟨wc, hwc⟩ : ∃ wc, w3.drew = wc := ⟨_, rfl⟩
        rw [hwc] at CC ⊢
        clear hwc
        refine sy 0 34 rfl rfl ?_ (hS := (DX.out _ CC.out))
        try simp only [Act.put, sA, s0, s1]
        refine sy 1 35 rfl rfl ?_ (hS := (DX.out _ CC.out))
        try simp only [Act.put, sA, s0, s1]
        refine sy 2 36 rfl rfl ?_ (hS := (DX.out _ CC.out))
        try simp only [Act.put, sA, s0, s1]
        refine sy 3 37 rfl rfl ?_ (hS := (DX.out _ CC.out))
        try simp only [Act.put, sA, s0, s1]
        refine sy 4 38 rfl rfl ?_ (hS := (DX.out _ CC.out))
        try simp only [Act.put, sA, s0, s1]
        refine sy 5 39 rfl rfl ?_ (hS := (DX.out _ CC.out))
        try simp only [Act.put, sA, s0, s1]
        refine sy 6 40 rfl rfl ?_ (hS := (DX.out _ CC.out))
        try simp only [Act.put, sA, s0, s1]
        refine sy 7 41 rfl rfl ?_ (hS := (DX.out _ CC.out))
        try simp only [Act.put, sA, s0, s1]
        refine sy 8 42 rfl rfl ?_ (hS := (DX.out _ CC.out)) (hy := by (intro w hSw; (try dsimp only at hSw); obtain ⟨q0, q1, q2, q3, q4⟩ := hSw; go_simp; try with_reducible rfl))
        try simp only [Act.put, sA, s0, s1]
        refine sy 9 43 rfl rfl ?_ (hS := (DX.out _ CC.out))
        try simp only [Act.put, sA, s0, s1]
        refine sy 10 44 rfl rfl ?_ (hS := (DX.out _ CC.out)) (hy := by (intro w hSw; (try dsimp only at hSw); obtain ⟨q0, q1, q2, q3, q4⟩ := hSw; go_simp; try with_reducible rfl))
        try simp only [Act.put, sA, s0, s1]
        refine wpAnyH_ready (rs := [11]) (by kernel_rfl) (by simp) ?_
        refine AllReadyH.cons rfl (fun K hK => ?_) AllReadyH.nil
        replace hK := Lib.hid hK
        go_simp
        refine (qhless_any wc f.p e.p (by have := FS.out.1.1; omega) (by have := SM.out.1.1; omega)).mono ?_
        rintro r wn ⟨rfl, hc⟩
        rw [LV.out]
        replace CC := Lib.hid (CC.out.trans hc)
        clear hc
        generalize wn = wc at *
        refine hK.out _ _ (DX.out _ CC.out) (fun hHeld => ?_)
        clear hK K
        try simp only [Act.put, sA, s0, s1]
        refine sy 12 46 rfl rfl ?_ (hS := (DX.out _ CC.out))
        try simp only [Act.put, sA, s0, s1]
        refine sy 13 47 rfl rfl ?_ (hS := (DX.out _ CC.out))
        try simp only [Act.put, sA, s0, s1]
        refine sy 14 48 rfl rfl ?_ (hS := (DX.out _ CC.out))
        try simp only [Act.put, sA, s0, s1]
        refine sn 15 49 rfl rfl ?_ (hS := (DX.out _ CC.out))
        try simp only [Act.put, sA, s0, s1]
        refine sn 16 50 rfl rfl ?_ (hS := (DX.out _ CC.out))
        try simp only [Act.put, sA, s0, s1]
        refine sn 17 51 rfl rfl ?_ (hS := (DX.out _ CC.out))
        try simp only [Act.put, sA, s0, s1]
        refine sn 18 52 rfl rfl ?_ (hS := (DX.out _ CC.out))
        try simp only [Act.put, sA, s0, s1]
        refine sn 19 53 rfl rfl ?_ (hS := (DX.out _ CC.out))
        try simp only [Act.put, sA, s0, s1]
        refine sy 20 54 rfl rfl ?_ (hS := (DX.out _ CC.out))
        try simp only [Act.put, sA, s0, s1]
        refine wpAnyH_done (by kernel_rfl) ?_ _
        clear hHeld
        obtain rfl : v = 2 := NO.out (fun q => ltNO.out ((tab_at q EE.out).2.1 f (by omega) FE.out))
        clear HV NO
        go_wp2
        go_ret
        exact ⟨rfl, RC.out.trans CC.out⟩
      · skip
        have LV := Lib.hid hl
        have ltYES : Hid (ltT f e) := Lib.hid hl
        clear hl
        have DX : Hid (∀ w', Chg [] w3 w' → (fun w' => w'.cell? ⟨g4, 0, none⟩ = some (.string (strOf e.p)) ∧ w'.cell? ⟨g4, 1, none⟩ = some (.int .i64 x.k) ∧ w'.cell? ⟨g4, 2, none⟩ = some (.int .i64 x.m) ∧ w'.cell? ⟨g4, 3, none⟩ = some (.slice x.A x.l x.c) ∧ w'.cell? ⟨g, o + (k - 1) * 4, none⟩ = some (.string (strOf f.p))) w') := Lib.hid (fun w' hc => by
          have b4 := hc.at_ B4.out (by simp)
          have q := (enCells (HA.out.chg (RC.out.trans hc) (by simp)) FX.out).1
          rw [FR.out.p] at q
          exact ⟨cell_of b4 0, cell_of b4 1, cell_of b4 2, cell_of b4 3, q⟩)
        go_upto_region 9 with fail
        clear z0 z1 z2 z3 h1
        refine wp_region_held_drew (S := fun w' => w'.cell? ⟨g4, 0, none⟩ = some (.string (strOf e.p)) ∧ w'.cell? ⟨g4, 1, none⟩ = some (.int .i64 x.k) ∧ w'.cell? ⟨g4, 2, none⟩ = some (.int .i64 x.m) ∧ w'.cell? ⟨g4, 3, none⟩ = some (.slice x.A x.l x.c) ∧ w'.cell? ⟨g, o + (k - 1) * 4, none⟩ = some (.string (strOf f.p))) (by kernel_rfl) (DX.out _ (Chg.refl [] w3).drew) (fun hHeld => ?_)
        have CC : Hid (Chg [] w3 w3.drew) := Lib.hid (Chg.refl [] w3).drew
        clear hHeld
        obtain ⟨wc, hwc⟩ : ∃ wc, w3.drew = wc := ⟨_, rfl⟩
        rw [hwc] at CC ⊢
        clear hwc
        refine sy 0 34 rfl rfl ?_ (hS := (DX.out _ CC.out))
        try simp only [Act.put, sA, s0, s1]
        refine sy 1 35 rfl rfl ?_ (hS := (DX.out _ CC.out))
        try simp only [Act.put, sA, s0, s1]
        refine sy 2 36 rfl rfl ?_ (hS := (DX.out _ CC.out))
        try simp only [Act.put, sA, s0, s1]
        refine sy 3 37 rfl rfl ?_ (hS := (DX.out _ CC.out))
        try simp only [Act.put, sA, s0, s1]
        refine sy 4 38 rfl rfl ?_ (hS := (DX.out _ CC.out))
        try simp only [Act.put, sA, s0, s1]
        refine sy 5 39 rfl rfl ?_ (hS := (DX.out _ CC.out))
        try simp only [Act.put, sA, s0, s1]
        refine sy 6 40 rfl rfl ?_ (hS := (DX.out _ CC.out))
        try simp only [Act.put, sA, s0, s1]
        refine sy 7 41 rfl rfl ?_ (hS := (DX.out _ CC.out))
        try simp only [Act.put, sA, s0, s1]
        refine sy 8 42 rfl rfl ?_ (hS := (DX.out _ CC.out)) (hy := by (intro w hSw; (try dsimp only at hSw); obtain ⟨q0, q1, q2, q3, q4⟩ := hSw; go_simp; try with_reducible rfl))
        try simp only [Act.put, sA, s0, s1]
        refine sy 9 43 rfl rfl ?_ (hS := (DX.out _ CC.out))
        try simp only [Act.put, sA, s0, s1]
        refine sy 10 44 rfl rfl ?_ (hS := (DX.out _ CC.out)) (hy := by (intro w hSw; (try dsimp only at hSw); obtain ⟨q0, q1, q2, q3, q4⟩ := hSw; go_simp; try with_reducible rfl))
        try simp only [Act.put, sA, s0, s1]
        refine wpAnyH_ready (rs := [11]) (by kernel_rfl) (by simp) ?_
        refine AllReadyH.cons rfl (fun K hK => ?_) AllReadyH.nil
        replace hK := Lib.hid hK
        go_simp
        refine (qhless_any wc f.p e.p (by have := FS.out.1.1; omega) (by have := SM.out.1.1; omega)).mono ?_
        rintro r wn ⟨rfl, hc⟩
        rw [LV.out]
        replace CC := Lib.hid (CC.out.trans hc)
        clear hc
        generalize wn = wc at *
        refine hK.out _ _ (DX.out _ CC.out) (fun hHeld => ?_)
        clear hK K
        try simp only [Act.put, sA, s0, s1]
        refine sy 12 46 rfl rfl ?_ (hS := (DX.out _ CC.out))
        try simp only [Act.put, sA, s0, s1]
        refine sy 13 47 rfl rfl ?_ (hS := (DX.out _ CC.out))
        try simp only [Act.put, sA, s0, s1]
        refine sy 14 48 rfl rfl ?_ (hS := (DX.out _ CC.out))
        try simp only [Act.put, sA, s0, s1]
        refine sy 15 49 rfl rfl ?_ (hS := (DX.out _ CC.out))
        try simp only [Act.put, sA, s0, s1]
        refine sy 16 50 rfl rfl ?_ (hS := (DX.out _ CC.out))
        try simp only [Act.put, sA, s0, s1]
        refine sy 17 51 rfl rfl ?_ (hS := (DX.out _ CC.out)) (hy := by (intro w hSw; (try dsimp only at hSw); obtain ⟨q0, q1, q2, q3, q4⟩ := hSw; go_simp; try with_reducible rfl))
        try simp only [Act.put, sA, s0, s1]
        refine wpAnyH_ready (rs := [18]) (by kernel_rfl) (by simp) ?_
        refine AllReadyH.cons rfl (fun K hK => ?_) AllReadyH.nil
        replace hK := Lib.hid hK
        go_simp
        refine (tdparent_any wc (some ⟨g, o, none⟩) c xs es e.p SM.out.2 (HA.out.chg (RC.out.trans CC.out) (by simp)) (HX.out.chg (RC.out.trans CC.out)) (by have := HN.out; omega)).mono ?_
        rintro r wn ⟨rfl, hc⟩
        replace CC := Lib.hid (CC.out.trans hc)
        clear hc
        generalize hpp : parT es e.p = pv
        generalize wn = wc at *
        refine hK.out _ _ (DX.out _ CC.out) (fun hHeld => ?_)
        clear hK K
        try simp only [Act.put, sA, s0, s1]
        refine sy 19 53 rfl rfl ?_ (hS := (DX.out _ CC.out))
        try simp only [Act.put, sA, s0, s1]
        refine sy 20 54 rfl rfl ?_ (hS := (DX.out _ CC.out))
        try simp only [Act.put, sA, s0, s1]
        refine wpAnyH_done (by kernel_rfl) ?_ _
        clear hHeld
        by_cases h0 : pv = 0
        · skip
          have PN : Hid (PreT es (k + 1)) := Lib.hid (PT.out.next EE.out ST.out (fun f2 _ hf2 => by have q := FE.out; rw [hf2] at q; cases q; exact ltYES.out) (hpp.trans h0))
          subst h0
          clear hpp
          go_wp2
          go_round
          case rel => exact ⟨k + 1, by omega, by go_num, PN, RC.out.trans CC.out⟩
          case measure => simp [RowKit.intOf]; omega
        have h1 : ((pv == 0) : Bool) = false := by simpa using h0
        have h2 : ((pv != 0) : Bool) = true := by unfold bne; rw [h1]; rfl
        obtain rfl : v = 2 := NO.out (fun q => h0 (hpp.symm.trans (tab_at q EE.out).2.2))
        clear h0 hpp HV NO
        go_wp2
        go_ret
        exact ⟨rfl, RC.out.trans CC.out⟩
    · obtain rfl : k = xs.length := by omega
      have i1 : ¬ (xs.length : Int) < (xs.length : Int) := by omega
      obtain rfl : v = 0 := by rw [← HV.out]; exact if_pos (by have q := PT.out; rw [HX.out.1] at q; exact q.all)
      clear HV NO
      go_wp2
      go_ret
      exact ⟨rfl, RC.out⟩
end
section
open Go.RowKit Go.Lib
set_option linter.unusedSimpArgs false
set_option linter.unusedVariables false

set_option maxRecDepth 100000 in
set_option maxHeartbeats 8000000 in
theorem tdremove_any (w : World) (A : Option Addr) (c : Nat) (xs : List EnT) (es : List EnP) (p : List UInt8) (hp : p.length ≤ 900000) (h : RdK enTy w A xs.length xs) (hx : EnsR w xs es) (hn : xs.length ≤ 190) (hs : ∀ e ∈ es, EnSm e ∧ e.p.length ≤ 900000) :
    Calls Tryz.prog 55 #[.slice A xs.length c, .string (strOf p)] w fun r w' => ∃ (A' : Option Addr) (c' : Nat) (ys : List EnT), r = .returned (.tuple #[.slice A' ys.length c', .int .i64 (removeT es p).1]) ∧ RdK enTy w' A' ys.length ys ∧ EnsR w' ys (removeT es p).2 ∧ Chg [] w w' := by
  obtain ⟨R, hR⟩ : ∃ R, removeT es p = R := ⟨_, rfl⟩
  rw [hR]
  have HRR := Lib.hid hR
  have HA := Lib.hid h
  have HX := Lib.hid hx
  have HN := Lib.hid hn
  have HS := Lib.hid hs
  have HP := Lib.hid hp
  have CK := Lib.hid (tdcheck_any w A c xs es h hx (by omega) hs)
  have PC : Hid (∀ (w' : World) (p : List UInt8), p.length ≤ 900000 → Calls Tryz.prog 44 #[.string (strOf p)] w' fun r w3 => r = .returned (.int .i64 (if checkL 6 12 p then 0 else 2)) ∧ Chg [] w' w3) := Lib.hid (fun w' p q => qcheck_any w' p (by omega))
  clear h hx hn hs hR hp
  go_enter Tryz.func55, Tryz.ntmps55
  go_wp2_with fail
  refine CK.out.mono ?_
  rintro r w2 ⟨rfl, hc⟩
  have C := Lib.hid hc
  clear hc CK
  rcases tabE_two es with e1 | e1
  rotate_left
  · have ER : Hid (R = (2, [])) := Lib.hid (by rw [← HRR.out]; unfold removeT; rw [if_pos (fun q => by rw [tabE_zero.2 q.1] at e1; cases e1)])
    rw [e1]
    clear e1
    go_wp2
    go_ret2
    rw [ER.out]
    exact ⟨none, 0, [], rfl, RdK.nil _ _, EnsR.nil _, C.out⟩
  have OK : Hid (TabOk es) := Lib.hid (tabE_zero.1 e1)
  rw [e1]
  clear e1
  go_wp2_with fail
  refine (PC.out _ p HP.out).mono ?_
  rintro r w3 ⟨rfl, hc⟩
  replace C := Lib.hid (C.out.trans hc)
  clear hc
  by_cases hok : checkL 6 12 p = true
  rotate_left
  · have ER : Hid (R = (2, [])) := Lib.hid (by rw [← HRR.out]; unfold removeT; rw [if_pos (fun q => hok q.2)])
    rw [if_neg hok]
    clear hok
    go_wp2
    go_ret2
    rw [ER.out]
    exact ⟨none, 0, [], rfl, RdK.nil _ _, EnsR.nil _, C.out⟩
  have OP : Hid (okP p = true) := Lib.hid hok
  rw [if_pos hok]
  clear hok
  have GT := Lib.hid (tdget_any w3 A c xs es p (HA.out.chg C.out (by simp)) (HX.out.chg C.out) (by have := HN.out; omega))
  go_wp2_with fail
  refine GT.out.mono ?_
  rintro r w4 ⟨A4, c4, rfl, hb, hc⟩
  replace C := Lib.hid (C.out.trans hc)
  clear hb hc GT
  rcases hg : getT es p with _ | ge
  · have ER : Hid (R = (6, [])) := Lib.hid (by rw [← HRR.out]; unfold removeT; rw [if_neg (fun q => q ⟨OK.out, OP.out⟩), if_pos hg])
    obtain ⟨w5, hw, hc, b5⟩ := news1 w4 (.cells #[.int .i64 0, .int .i64 0, .slice A4 ([] : List UInt8).length c4] 25)
    have W5 := Lib.hid hw
    have C5 := Lib.hid (C.out.trans hc)
    clear hw hc b5 hg
    simp only [Option.getD_none, Option.isSome_none, List.length_nil] at W5 ⊢
    go_upto_region 4 with fail
    rw [← W5.out]
    clear W5
    go_wp2
    go_ret2
    rw [ER.out]
    exact ⟨none, 0, [], rfl, RdK.nil _ _, EnsR.nil _, C5.out⟩
  have ER : Hid (R = (0, es.filter (fun e => !(decide (e.p = p) || underL p e.p)))) := Lib.hid (by rw [← HRR.out]; unfold removeT; rw [if_neg (fun q => q ⟨OK.out, OP.out⟩), if_neg (by rw [hg]; simp)])
  obtain ⟨w5, hw, hc, b5⟩ := news1 w4 (.cells #[.int .i64 ge.k, .int .i64 ge.m, .slice A4 ge.b.length c4] 25)
  have W5 := Lib.hid hw
  have C5 := Lib.hid (C.out.trans hc)
  clear hw hc b5 hg
  simp only [Option.getD_some, Option.isSome_some]
  go_upto_region 4 with fail
  rw [← W5.out]
  clear W5
  have WO := Lib.hid (tdwithout_any w5 A c xs es p HP.out (HA.out.chg C5.out (by simp)) (HX.out.chg C5.out) (by have := HN.out; omega) (fun e he => (HS.out e he).2))
  go_wp2_with fail
  refine WO.out.mono ?_
  rintro r w6 ⟨A6, c6, ys, rfl, hr, he, hc⟩
  have C6 := Lib.hid (C5.out.trans hc)
  have YL : Hid (ys.length ≤ 190) := Lib.hid (by rw [he.1]; have := List.length_filter_le (fun e => !(decide (e.p = p) || underL p e.p)) es; have := HX.out.1; have := HN.out; omega)
  have OW := Lib.hid (tdown_any w6 A6 c6 ys _ hr he (by have := YL.out; omega) (fun e h => by have := (HS.out e (List.mem_filter.1 h).1).1.2; have := (OK.out.1 e (List.mem_filter.1 h).1).2.1; have := chkE_len this; omega))
  clear hr he hc WO
  go_wp2_with fail
  refine OW.out.mono ?_
  rintro r w7 ⟨A7, c7, zs, rfl, hr, he, hc⟩
  have C7 := Lib.hid (C6.out.trans hc)
  have HR7 := Lib.hid hr
  have HE7 := Lib.hid he
  clear hr he hc OW
  go_wp2
  go_ret2
  rw [ER.out]
  exact ⟨A7, c7, zs, rfl, HR7.out, HE7.out, C7.out⟩
end
section
open Go.RowKit Go.Lib
set_option linter.unusedSimpArgs false
set_option linter.unusedVariables false

set_option maxRecDepth 100000 in
set_option maxHeartbeats 8000000 in
theorem tdunder_any (w : World) (A : Option Addr) (c : Nat) (xs : List EnT) (es : List EnP) (p : List UInt8) (hp : p.length ≤ 900000) (h : RdK enTy w A xs.length xs) (hx : EnsR w xs es) (hn : xs.length ≤ 100000) (hs : ∀ e ∈ es, e.p.length ≤ 900000) :
    Calls Tryz.prog 20 #[.slice A xs.length c, .string (strOf p)] w fun r w' => ∃ (A' : Option Addr) (c' : Nat) (ys : List EnT), r = .returned (.slice A' ys.length c') ∧ RdK enTy w' A' ys.length ys ∧ EnsR w' ys (underT es p) ∧ Chg [] w w' := by
  have HA := Lib.hid h
  have HX := Lib.hid hx
  have HN := Lib.hid hn
  have UX : Hid (∀ w' e, e ∈ es → Calls Tryz.prog 53 #[.string (strOf p), .string (strOf e.p)] w' fun r w2 => r = .returned (.bool (underL p e.p)) ∧ Chg [] w' w2) := Lib.hid (fun w' e he => qhunder_any w' p e.p (by omega) (by have := hs e he; omega))
  clear h hx hn hp hs
  go_enter Tryz.func20, Tryz.ntmps20
  go_wp2
  go_loopw [5, 6] (fun o i wr => ∃ (k : Nat) (A1 : Option Addr) (d1 : Nat) (ys : List EnT), k ≤ xs.length ∧ ys.length ≤ k ∧ i = .int .i64 k ∧ o = .slice A1 ys.length d1 ∧ Hid (OwnK enTy wr A1 d1 ys) ∧ Hid (EnsR w ys ((es.take k).filter (fun e => underL p e.p))) ∧ Hid (∀ a, A1 = some a → w.heap.size ≤ a.block) ∧ Hid (Chg [] w wr)) (fun _ i _ => xs.length - (RowKit.intOf i).toNat)
  case atStart => exact ⟨0, none, 0, [], Nat.zero_le _, Nat.zero_le _, rfl, rfl, OwnK.none_ _, Lib.hid (by simpa using EnsR.nil _), Lib.hid (by simp), Chg.refl _ _⟩
  case round =>
    obtain ⟨k, A1, d1, ys, hk, hyl, rfl, rfl, RO, RE, RN, RC⟩ := hrel
    have i0 : (0 : Int) ≤ (k : Int) := by omega
    by_cases hlt : k < xs.length
    · have i1 : (k : Int) < (xs.length : Int) := by omega
      have i3 : IntKind.i64.wrap ((k : Int) + 1) = (k : Int) + 1 := IntWalk.i64_in _ (by have := HN.out; omega)
      obtain ⟨g, o, eA, _⟩ := HA.out.line (by omega)
      subst eA
      obtain ⟨x, e, ex, ee, rx⟩ := HX.out.at_ hlt
      obtain ⟨z0, z1, z2, z3⟩ := enCells (HA.out.chg RC.out (by simp)) ex
      have EX := Lib.hid ex
      have RX := Lib.hid rx
      have ET : Hid ((es.take (k + 1)).filter (fun e => underL p e.p) = (es.take k).filter (fun e => underL p e.p) ++ (if underL p e.p = true then [e] else [])) := Lib.hid (filt_takeN ee)
      have EM := Lib.hid (List.mem_of_getElem? ee)
      have YL := Lib.hid hyl
      rw [RX.out.p] at z0
      clear ex ee rx hyl
      go_wp2_with fail
      clear z0 z1 z2 z3
      refine (UX.out wr e EM.out).mono ?_
      rintro r w2 ⟨rfl, hc⟩
      replace RO := Lib.hid (RO.out.chg hc (by simp))
      replace RC := Lib.hid (RC.out.trans hc)
      clear hc
      rcases hu : underL p e.p with _ | _
      · have ET0 : Hid ((es.take (k + 1)).filter (fun e => underL p e.p) = (es.take k).filter (fun e => underL p e.p)) := Lib.hid (by rw [ET.out, hu]; simp)
        rw [← ET0.out] at RE
        clear hu ET
        go_wp2
        go_round
        case rel => exact ⟨k + 1, A1, d1, ys, by omega, by have := YL.out; omega, by go_num, rfl, RO, RE, RN, RC⟩
        case measure => simp [RowKit.intOf]; omega
      · have RE7 : Hid (EnsR w (ys ++ [x]) ((es.take (k + 1)).filter (fun e => underL p e.p))) := Lib.hid (by rw [ET.out, hu, if_pos rfl]; exact RE.out.snoc RX.out)
        obtain ⟨z0, z1, z2, z3⟩ := enCells (HA.out.chg RC.out (by simp)) EX.out
        obtain ⟨w3, hw, hc, b3⟩ := news1 w2 (.cells #[.string x.p, .int .i64 x.k, .int .i64 x.m, .slice x.A x.l x.c] 55)
        have W3 := Lib.hid hw
        have R3 := Lib.hid (rd_oneEn b3)
        replace RO := Lib.hid (RO.out.chg hc (by simp))
        replace RC := Lib.hid (RC.out.trans hc)
        have N4 : Hid ((ys.length + 1) * 400 ≤ 140737488355327) := Lib.hid (by have := YL.out; have := HN.out; omega)
        clear hw hc b3 hu ET
        go_wp2_with (at_builtin; rw [← W3.out]; refine wpList_appK (R := enTy) rfl (.tmp 20) (.tmp 25) rfl rfl (A := A1) (n := ys.length) (m := 1) (c := d1) (d := 1) (xs := ys) (ys := [x]) RO.out rfl rfl R3.out N4.out ?_; intro A7 c7 w7 o7 g7 e7; have O7 := Lib.hid o7; have F7 := Lib.hid (fresh_appN RN.out RC.out g7 e7); clear o7 g7 e7)
        clear RO RE
        go_wp2
        go_round
        case rel => exact ⟨k + 1, A7, c7, ys ++ [x], by omega, by have := YL.out; simp; omega, by go_num, by simp, O7, RE7, Lib.hid F7.out.1, F7.out.2⟩
        case measure => simp [RowKit.intOf]; omega
    · obtain rfl : k = xs.length := by omega
      have i1 : ¬ (xs.length : Int) < (xs.length : Int) := by omega
      have ET : (es.take xs.length).filter (fun e => underL p e.p) = underT es p := by rw [HX.out.1, List.take_length]; rfl
      rw [ET] at RE
      have YL := Lib.hid hyl
      clear hyl ET
      go_wp2
      go_ret
      exact ⟨A1, d1, ys, rfl, RO.out.reads, RE.out.chg RC.out, RC.out⟩
end
section
open Go.RowKit Go.Lib
set_option linter.unusedSimpArgs false
set_option linter.unusedVariables false

set_option maxRecDepth 100000 in
set_option maxHeartbeats 8000000 in
theorem tdput_any (w : World) (A : Option Addr) (c : Nat) (xs : List EnT) (es : List EnP) (y : EnT) (f : EnP) (h : RdK enTy w A xs.length xs) (hx : EnsR w xs es) (hn : xs.length ≤ 190) (hs : ∀ e ∈ es, EnSm e ∧ e.p.length ≤ 900000) (hy : EnR w y f) (ht : EnSm f ∧ f.p.length ≤ 900000) :
    Calls Tryz.prog 54 #[.slice A xs.length c, .string (strOf f.p), .agg #[.int .i64 y.k, .int .i64 y.m, .slice y.A y.l y.c]] w fun r w' => ∃ (A' : Option Addr) (c' : Nat) (ys : List EnT), r = .returned (.tuple #[.slice A' ys.length c', .int .i64 (putT es f).1]) ∧ RdK enTy w' A' ys.length ys ∧ EnsR w' ys (putT es f).2 ∧ Chg [] w w' := by
  obtain ⟨R, hR⟩ : ∃ R, putT es f = R := ⟨_, rfl⟩
  rw [hR]
  have HRR := Lib.hid hR
  obtain ⟨w1, hw, hc, b0⟩ := news1 w (.cells #[.int .i64 y.k, .int .i64 y.m, .slice y.A y.l y.c] 25)
  have W1 := Lib.hid hw
  obtain ⟨g0, hg0⟩ : ∃ g, w.heap.size = g := ⟨_, rfl⟩
  have G0 := Lib.hid hg0
  rw [hg0] at b0
  have BX : Hid (∀ w', Chg [] w1 w' → w'.cell? ⟨g0, 0, none⟩ = some (.int .i64 y.k) ∧ w'.cell? ⟨g0, 1, none⟩ = some (.int .i64 y.m) ∧ w'.cell? ⟨g0, 2, none⟩ = some (.slice y.A y.l y.c)) := Lib.hid (fun w' hc => by
    have q := hc.at_ b0 (by simp)
    exact ⟨cell_of q 0, cell_of q 1, cell_of q 2⟩)
  have HA := Lib.hid (h.chg hc (by simp))
  have HX := Lib.hid (hx.chg hc)
  have HY := Lib.hid (hy.chg hc)
  have C0 := Lib.hid hc
  have HN := Lib.hid hn
  have HS := Lib.hid hs
  have HT := Lib.hid ht
  have CK := Lib.hid (tdcheck_any w1 A c xs es (h.chg hc (by simp)) (hx.chg hc) (by omega) hs)
  have FC : Hid (∀ w', Calls Tryz.prog 45 #[.agg #[.int .i64 y.k, .int .i64 y.m, .slice y.A y.l y.c]] w' fun r w2 => r = .returned (.int .i64 (chkE f.k f.m f.b.length)) ∧ Chg [] w' w2) := Lib.hid (fun w' => by
    have q := fcheck_any w' y.k y.m y.A y.l y.c (by rw [hy.l]; exact ht.1.2)
    rw [hy.k, hy.m, hy.l] at q
    rw [hy.k, hy.m, hy.l]
    exact q)
  clear hw hc b0 hg0 h hx hn hs hy ht hR
  go_enter Tryz.func54, Tryz.ntmps54
  go_upto_region 1 with fail
  rw [← W1.out, G0.out]
  clear W1
  go_wp2_with fail
  refine CK.out.mono ?_
  rintro r w2 ⟨rfl, hc⟩
  have C := Lib.hid hc
  clear hc CK
  rcases tabE_two es with e1 | e1
  rotate_left
  · have ER : Hid (R = (2, [])) := Lib.hid (by rw [← HRR.out]; unfold putT; rw [if_pos (fun q => by rw [tabE_zero.2 q.1] at e1; cases e1)])
    rw [e1]
    clear e1
    go_wp2
    go_ret2
    rw [ER.out]
    exact ⟨none, 0, [], rfl, RdK.nil _ _, EnsR.nil _, C0.out.trans C.out⟩
  have OK : Hid (TabOk es) := Lib.hid (tabE_zero.1 e1)
  rw [e1]
  clear e1
  go_wp2_with fail
  refine (qcheck_any w2 f.p (by have := HT.out.1.1; omega)).mono ?_
  rintro r w3 ⟨rfl, hc⟩
  replace C := Lib.hid (C.out.trans hc)
  clear hc
  by_cases hok : checkL 6 12 f.p = true
  rotate_left
  · have ER : Hid (R = (2, [])) := Lib.hid (by rw [← HRR.out]; unfold putT; rw [if_pos (fun q => hok q.2.1)])
    rw [if_neg hok]
    clear hok
    go_wp2
    go_ret2
    rw [ER.out]
    exact ⟨none, 0, [], rfl, RdK.nil _ _, EnsR.nil _, C0.out.trans C.out⟩
  have OP : Hid (okP f.p = true) := Lib.hid hok
  rw [if_pos hok]
  clear hok
  obtain ⟨y0, y1, y2⟩ := BX.out _ C.out
  go_wp2_with fail
  clear y0 y1 y2
  refine (FC.out w3).mono ?_
  rintro r w4 ⟨rfl, hc⟩
  replace C := Lib.hid (C.out.trans hc)
  clear hc FC
  by_cases hck : chkE f.k f.m f.b.length = 0
  rotate_left
  · have ER : Hid (R = (2, [])) := Lib.hid (by rw [← HRR.out]; unfold putT; rw [if_pos (fun q => hck q.2.2.1)])
    have h1 : ((chkE f.k f.m f.b.length == 0) : Bool) = false := by simpa using hck
    have h2 : ((chkE f.k f.m f.b.length != 0) : Bool) = true := by unfold bne; rw [h1]; rfl
    clear hck
    go_wp2
    go_ret2
    rw [ER.out]
    exact ⟨none, 0, [], rfl, RdK.nil _ _, EnsR.nil _, C0.out.trans C.out⟩
  have CE := Lib.hid hck
  rw [hck]
  clear hck
  obtain ⟨y0, y1, y2⟩ := BX.out _ C.out
  by_cases hk3 : y.k = 3
  · have ER : Hid (R = (2, [])) := Lib.hid (by rw [← HRR.out]; unfold putT; rw [if_pos (fun q => q.2.2.2 (by rw [← HY.out.k]; exact hk3))])
    have h1 : ((y.k == 3) : Bool) = true := by simpa using hk3
    clear hk3
    go_wp2
    go_ret2
    rw [ER.out]
    exact ⟨none, 0, [], rfl, RdK.nil _ _, EnsR.nil _, C0.out.trans C.out⟩
  have ST : Hid (Stands f) := Lib.hid ⟨OP.out, CE.out, fun q => hk3 (by rw [HY.out.k]; exact q)⟩
  have h1 : ((y.k == 3) : Bool) = false := by simpa using hk3
  clear hk3
  have PX := Lib.hid (tdparent_any w4 A c xs es f.p HT.out.2 (HA.out.chg C.out (by simp)) (HX.out.chg C.out) (by have := HN.out; omega))
  go_wp2_with fail
  clear y0 y1 y2 h1
  refine PX.out.mono ?_
  rintro r w5 ⟨rfl, hc⟩
  replace C := Lib.hid (C.out.trans hc)
  clear hc PX
  by_cases hpp : parT es f.p = 0
  rotate_left
  · have ER : Hid (R = (parT es f.p, [])) := Lib.hid (by rw [← HRR.out]; unfold putT; rw [if_neg (fun q => q ⟨OK.out, ST.out⟩), if_pos hpp])
    generalize parT es f.p = pv at *
    have h1 : ((pv == 0) : Bool) = false := by simpa using hpp
    have h2 : ((pv != 0) : Bool) = true := by unfold bne; rw [h1]; rfl
    clear hpp
    go_wp2
    go_ret2
    rw [ER.out]
    exact ⟨none, 0, [], rfl, RdK.nil _ _, EnsR.nil _, C0.out.trans C.out⟩
  have PP := Lib.hid hpp
  rw [hpp]
  clear hpp
  obtain ⟨y0, y1, y2⟩ := BX.out _ C.out
  have NK : Hid (¬ (f.k ≠ 2 ∧ anyT es f.p = true) → R = (0, layT es f)) := Lib.hid (fun q => by rw [← HRR.out]; unfold putT; rw [if_neg (fun q => q ⟨OK.out, ST.out⟩), if_neg (fun q => q PP.out), if_neg q])
  have TAIL : Hid (∀ w5, Chg [] w1 w5 → True) := Lib.hid (fun _ _ => trivial)
  by_cases hk2 : y.k = 2
  · have h1 : ((y.k == 2) : Bool) = true := by simpa using hk2
    have h2 : ((y.k != 2) : Bool) = false := by unfold bne; rw [h1]; rfl
    have ER : Hid (R = (0, layT es f)) := Lib.hid (NK.out (fun q => q.1 (by rw [← HY.out.k]; exact hk2)))
    clear hk2 NK
    obtain ⟨wk, hwk⟩ : ∃ wk, w5 = wk := ⟨_, rfl⟩
    rw [hwk] at C y0 y1 y2 ⊢
    clear hwk
    have GT := Lib.hid (tdget_any wk A c xs es f.p (HA.out.chg C.out (by simp)) (HX.out.chg C.out) (by have := HN.out; omega))
    go_wp2_with fail
    clear y0 y1 y2 h1 h2
    refine GT.out.mono ?_
    rintro r w6 ⟨A4, c4, rfl, hb, hc⟩
    replace C := Lib.hid (C.out.trans hc)
    clear hb hc GT
    have l200 : ¬ (200 : Int) ≤ (xs.length : Int) := by have := HN.out; omega
    have l201 : decide ((200 : Int) ≤ (xs.length : Int)) = false := decide_eq_false l200
    obtain ⟨G, hG⟩ : ∃ G, (getT es f.p).getD ⟨[], 0, 0, []⟩ = G := ⟨_, rfl⟩
    rw [hG]
    obtain ⟨w7, hw, hc, b5⟩ := news1 w6 (.cells #[.int .i64 G.k, .int .i64 G.m, .slice A4 G.b.length c4] 25)
    have W7 := Lib.hid hw
    replace C := Lib.hid (C.out.trans hc)
    clear hw hc b5 hG
    go_upto_region 9 with fail
    rw [← W7.out]
    clear W7
    obtain ⟨y0, y1, y2⟩ := BX.out _ C.out
    have LY := Lib.hid (tdlay_any w7 A c xs es ⟨strOf f.p, y.k, y.m, y.A, y.l, y.c⟩ f (HA.out.chg C.out (by simp)) (HX.out.chg C.out) ⟨rfl, HY.out.k, HY.out.m, HY.out.l, HY.out.A.chg C.out (by simp)⟩ (by have := HN.out; omega) (fun e he => (HS.out e he).2) HT.out.2 OK.out.2.1)
    have LAST : Hid (∀ w8 A8 c8 (zs : List EnT), RdK enTy w8 A8 zs.length zs → EnsR w8 zs (layT es f) → Calls Tryz.prog 90 #[.slice A8 zs.length c8] w8 fun r w' => ∃ (A' : Option Addr) (c' : Nat) (ys : List EnT), r = .returned (.slice A' ys.length c') ∧ RdK enTy w' A' ys.length ys ∧ EnsR w' ys (layT es f) ∧ Chg [] w8 w') := Lib.hid (fun w8 A8 c8 zs hr he => tdown_any w8 A8 c8 zs _ hr he (by
      rw [he.1]
      have a : (layT es f).length ≤ es.length + (es.length + 1) := by
        unfold layT
        rw [List.length_append, List.length_cons]
        have := List.length_filter_le (fun e => lessL e.p f.p) es
        have := List.length_filter_le (fun e => lessL f.p e.p) es
        omega
      have := HX.out.1
      have := HN.out
      omega) (fun e h => by
      rcases lay_mem.1 h with rfl | q
      · have := chkE_len CE.out; omega
      · have := chkE_len (OK.out.1 e q.1).2.1; omega))
    cases hgs : (getT es f.p).isSome
    · skip
      go_wp2_with fail
      clear y0 y1 y2 l200 l201
      refine LY.out.mono ?_
      rintro r w8 ⟨A8, c8, zs, rfl, hr, he, hc⟩
      replace C := Lib.hid (C.out.trans hc)
      have LS := Lib.hid (LAST.out w8 A8 c8 zs hr he)
      clear hr he hc LY LAST
      go_wp2_with fail
      refine LS.out.mono ?_
      rintro r w9 ⟨A9, c9, us9, rfl, hr, he, hc⟩
      replace C := Lib.hid (C.out.trans hc)
      have HR9 := Lib.hid hr
      have HE9 := Lib.hid he
      clear hr he hc LS
      go_wp2
      go_ret2
      rw [ER.out]
      exact ⟨A9, c9, us9, rfl, HR9.out, HE9.out, C0.out.trans C.out⟩
    · skip
      go_wp2_with fail
      clear y0 y1 y2 l200 l201
      refine LY.out.mono ?_
      rintro r w8 ⟨A8, c8, zs, rfl, hr, he, hc⟩
      replace C := Lib.hid (C.out.trans hc)
      have LS := Lib.hid (LAST.out w8 A8 c8 zs hr he)
      clear hr he hc LY LAST
      go_wp2_with fail
      refine LS.out.mono ?_
      rintro r w9 ⟨A9, c9, us9, rfl, hr, he, hc⟩
      replace C := Lib.hid (C.out.trans hc)
      have HR9 := Lib.hid hr
      have HE9 := Lib.hid he
      clear hr he hc LS
      go_wp2
      go_ret2
      rw [ER.out]
      exact ⟨A9, c9, us9, rfl, HR9.out, HE9.out, C0.out.trans C.out⟩
  · have h1 : ((y.k == 2) : Bool) = false := by simpa using hk2
    have h2 : ((y.k != 2) : Bool) = true := by unfold bne; rw [h1]; rfl
    have FK : Hid (f.k ≠ 2) := Lib.hid (by rw [← HY.out.k]; exact hk2)
    have UN := Lib.hid (tdunder_any w5 A c xs es f.p HT.out.2 (HA.out.chg C.out (by simp)) (HX.out.chg C.out) (by have := HN.out; omega) (fun e he => (HS.out e he).2))
    clear hk2
    go_wp2_with fail
    clear y0 y1 y2 h1 h2
    refine UN.out.mono ?_
    rintro r wk ⟨Au, cu, us, rfl, hur, hue, hc⟩
    have ULN : Hid (us.length = (underT es f.p).length) := Lib.hid hue.1
    replace C := Lib.hid (C.out.trans hc)
    clear hur hue hc UN
    rcases hany : anyT es f.p with _ | _
    rotate_left
    · have ER : Hid (R = (12, [])) := Lib.hid (by rw [← HRR.out]; unfold putT; rw [if_neg (fun q => q ⟨OK.out, ST.out⟩), if_neg (fun q => q PP.out), if_pos ⟨FK.out, hany⟩])
      have u1 : (0 : Int) < (us.length : Int) := by
        unfold anyT at hany
        rw [List.any_eq_true] at hany
        obtain ⟨e, he, hu⟩ := hany
        have : e ∈ underT es f.p := List.mem_filter.2 ⟨he, hu⟩
        have := List.length_pos_of_mem this
        have := ULN.out
        omega
      have u3 : 0 < us.length := by omega
      clear hany
      go_wp2
      go_ret2
      rw [ER.out]
      exact ⟨none, 0, [], rfl, RdK.nil _ _, EnsR.nil _, C0.out.trans C.out⟩
    have ER : Hid (R = (0, layT es f)) := Lib.hid (NK.out (fun q => by rw [hany] at q; cases q.2))
    have u2 : us.length = 0 := by
      rw [ULN.out]
      unfold anyT at hany
      unfold underT
      rw [List.length_eq_zero_iff, List.filter_eq_nil_iff]
      intro e he q
      have := List.any_eq_false.1 hany e he
      exact this q
    rw [u2]
    have u1 : ¬ (0 : Int) < ((0 : Nat) : Int) := by omega
    clear hany NK u2
    have GT := Lib.hid (tdget_any wk A c xs es f.p (HA.out.chg C.out (by simp)) (HX.out.chg C.out) (by have := HN.out; omega))
    go_wp2_with fail
    refine GT.out.mono ?_
    rintro r w6 ⟨A4, c4, rfl, hb, hc⟩
    replace C := Lib.hid (C.out.trans hc)
    clear hb hc GT
    have l200 : ¬ (200 : Int) ≤ (xs.length : Int) := by have := HN.out; omega
    have l201 : decide ((200 : Int) ≤ (xs.length : Int)) = false := decide_eq_false l200
    obtain ⟨G, hG⟩ : ∃ G, (getT es f.p).getD ⟨[], 0, 0, []⟩ = G := ⟨_, rfl⟩
    rw [hG]
    obtain ⟨w7, hw, hc, b5⟩ := news1 w6 (.cells #[.int .i64 G.k, .int .i64 G.m, .slice A4 G.b.length c4] 25)
    have W7 := Lib.hid hw
    replace C := Lib.hid (C.out.trans hc)
    clear hw hc b5 hG
    go_upto_region 9 with fail
    rw [← W7.out]
    clear W7
    obtain ⟨y0, y1, y2⟩ := BX.out _ C.out
    have LY := Lib.hid (tdlay_any w7 A c xs es ⟨strOf f.p, y.k, y.m, y.A, y.l, y.c⟩ f (HA.out.chg C.out (by simp)) (HX.out.chg C.out) ⟨rfl, HY.out.k, HY.out.m, HY.out.l, HY.out.A.chg C.out (by simp)⟩ (by have := HN.out; omega) (fun e he => (HS.out e he).2) HT.out.2 OK.out.2.1)
    have LAST : Hid (∀ w8 A8 c8 (zs : List EnT), RdK enTy w8 A8 zs.length zs → EnsR w8 zs (layT es f) → Calls Tryz.prog 90 #[.slice A8 zs.length c8] w8 fun r w' => ∃ (A' : Option Addr) (c' : Nat) (ys : List EnT), r = .returned (.slice A' ys.length c') ∧ RdK enTy w' A' ys.length ys ∧ EnsR w' ys (layT es f) ∧ Chg [] w8 w') := Lib.hid (fun w8 A8 c8 zs hr he => tdown_any w8 A8 c8 zs _ hr he (by
      rw [he.1]
      have a : (layT es f).length ≤ es.length + (es.length + 1) := by
        unfold layT
        rw [List.length_append, List.length_cons]
        have := List.length_filter_le (fun e => lessL e.p f.p) es
        have := List.length_filter_le (fun e => lessL f.p e.p) es
        omega
      have := HX.out.1
      have := HN.out
      omega) (fun e h => by
      rcases lay_mem.1 h with rfl | q
      · have := chkE_len CE.out; omega
      · have := chkE_len (OK.out.1 e q.1).2.1; omega))
    cases hgs : (getT es f.p).isSome
    · skip
      go_wp2_with fail
      clear y0 y1 y2 l200 l201
      refine LY.out.mono ?_
      rintro r w8 ⟨A8, c8, zs, rfl, hr, he, hc⟩
      replace C := Lib.hid (C.out.trans hc)
      have LS := Lib.hid (LAST.out w8 A8 c8 zs hr he)
      clear hr he hc LY LAST
      go_wp2_with fail
      refine LS.out.mono ?_
      rintro r w9 ⟨A9, c9, us9, rfl, hr, he, hc⟩
      replace C := Lib.hid (C.out.trans hc)
      have HR9 := Lib.hid hr
      have HE9 := Lib.hid he
      clear hr he hc LS
      go_wp2
      go_ret2
      rw [ER.out]
      exact ⟨A9, c9, us9, rfl, HR9.out, HE9.out, C0.out.trans C.out⟩
    · skip
      go_wp2_with fail
      clear y0 y1 y2 l200 l201
      refine LY.out.mono ?_
      rintro r w8 ⟨A8, c8, zs, rfl, hr, he, hc⟩
      replace C := Lib.hid (C.out.trans hc)
      have LS := Lib.hid (LAST.out w8 A8 c8 zs hr he)
      clear hr he hc LY LAST
      go_wp2_with fail
      refine LS.out.mono ?_
      rintro r w9 ⟨A9, c9, us9, rfl, hr, he, hc⟩
      replace C := Lib.hid (C.out.trans hc)
      have HR9 := Lib.hid hr
      have HE9 := Lib.hid he
      clear hr he hc LS
      go_wp2
      go_ret2
      rw [ER.out]
      exact ⟨A9, c9, us9, rfl, HR9.out, HE9.out, C0.out.trans C.out⟩
end
end Go.Proofs.YtimdfpejgaidhaaGreatDoor
