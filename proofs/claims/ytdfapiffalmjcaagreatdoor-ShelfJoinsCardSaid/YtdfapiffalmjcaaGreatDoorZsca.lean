/- ShelfJoins. -/
import Derived.Test.YtdfapiffalmjcaaGreatDoorZsaj
import Derived.Test.YtdfapiffalmjcaaGreatDoorZsad
import Derived.Test.YtdfapiffalmjcaaGreatDoorZsba
import Derived.Test.YtdfapiffalmjcaaGreatDoorZsaw
import Derived.Test.YtdfapiffalmjcaaGreatDoorZsaq
import Derived.Test.YtdfapiffalmjcaaGreatDoorZsai
import Derived.Deep.Cut
import Derived.Deep.RegionHeld3
namespace Go.Proofs.YtdfapiffalmjcaaGreatDoor
section
open Go.RowKit Go.Lib
set_option linter.unusedSimpArgs false
set_option linter.unusedVariables false


def shOkL (l : List EvP) : Prop := ShOk (l.foldl putE [])
theorem shOkL_of {l : List EvP} (hc : ∀ e ∈ l, chkEv e = 0) (hp : ∀ e ∈ l, ∀ f ∈ l, e.p = f.p) : shOkL l := puts_ok l [] (by simp [ShOk]) hc (fun u hu v hv => by simp at hu) hp
theorem join_all {U L R B : List EvP} (hU : closedE U = true) (hL : ∀ x ∈ L, x ∈ U) (hR : ∀ x ∈ R, x ∈ U) (hB : ∀ x, x ∈ B ↔ x ∈ L ∨ x ∈ R) (tL : shOkL L) (tR : shOkL R) (tB : shOkL B) (hp : ∀ e ∈ B, ∀ f ∈ B, e.p = f.p) : shJoinE (L.foldl putE []) (R.foldl putE []) = (0, B.foldl putE []) := by
  rw [← joins_same hU hL hR hB]
  refine shJoin_yes tL tR (fun x y hx hy => ?_)
  have a := (puts_mem (List.mem_of_getElem? hx)).elim (fun q => by simp at q) id
  have b := (puts_mem (List.mem_of_getElem? hy)).elim (fun q => by simp at q) id
  exact hp x ((hB x).2 (.inl a)) y ((hB y).2 (.inr b))
/-- Two rows lie apart. -/
def ApA (A B : Option Addr) : Prop := ∀ a b, A = some a → B = some b → a.block ≠ b.block
theorem ApA.sym {A B : Option Addr} (h : ApA A B) : ApA B A := fun a b ha hb e => h b a hb ha e.symm
/-- One of the lists that are gathered. -/
structure RowL (w0 w : World) (A : Option Addr) (c : Nat) (ys : List EvT) (fs es : List EvP) (k : Nat) : Prop where
  row : OwnK evTy w A c ys
  ev : EvsR w0 ys fs
  new : ∀ a, A = some a → w0.heap.size ≤ a.block
  sub : ∀ e ∈ fs, e ∈ es
  len : ys.length ≤ k
  chg : Chg [] w0 w
theorem RowL.nil (w0 : World) (es : List EvP) (k : Nat) : RowL w0 w0 none 0 [] [] es k := ⟨OwnK.none_ _, EvsR.nil _, (by simp), (by simp), Nat.zero_le _, Chg.refl _ _⟩
theorem RowL.go {w0 w w' : World} {A : Option Addr} {c k : Nat} {ys : List EvT} {fs es : List EvP} (h : RowL w0 w A c ys fs es k) (hc : Chg [] w w') : RowL w0 w' A c ys fs es k := ⟨h.row.chg hc (by simp), h.ev, h.new, h.sub, h.len, h.chg.trans hc⟩
theorem RowL.next {w0 w : World} {A : Option Addr} {c k : Nat} {ys : List EvT} {fs es : List EvP} (h : RowL w0 w A c ys fs es k) : RowL w0 w A c ys fs es (k + 1) := ⟨h.row, h.ev, h.new, h.sub, Nat.le_succ_of_le h.len, h.chg⟩
theorem RowL.aside {w0 w w' : World} {A B : Option Addr} {c k : Nat} {ys : List EvT} {fs es : List EvP} (h : RowL w0 w B c ys fs es k) (g : w.grownBy w' (A.map (·.block))) (hd : ApA A B) (hA : ∀ a, A = some a → w0.heap.size ≤ a.block) : RowL w0 w' B c ys fs es k := by
  have hc : Chg (blkOf A) w w' := (Chg.refl (blkOf A) w).grown g (fun i hi => by
    cases A with
    | none => simp at hi
    | some a => simp at hi; subst hi; exact .inl (mem_blkOf rfl))
  refine ⟨h.row.chg hc (fun a ha q => ?_), h.ev, h.new, h.sub, h.len, h.chg.trans' hc (fun i hi => ?_)⟩
  · obtain ⟨b, hb, e⟩ := of_blkOf q
    exact hd b a hb ha e
  · obtain ⟨b, hb, e⟩ := of_blkOf hi
    rw [← e]
    exact .inr (hA b hb)
theorem RowL.snoc {w0 w w' : World} {A A' : Option Addr} {c c' k : Nat} {ys : List EvT} {fs es : List EvP} {x : EvT} {e : EvP} (h : RowL w0 w A c ys fs es (k + 1)) (hk : ys.length ≤ k) (o : OwnK evTy w' A' c' (ys ++ [x])) (g : w.grownBy w' (A.map (·.block))) (e9 : A' = A ∨ A' = some ⟨w.heap.size, 0, none⟩) (r : EvR w0 x e) (m : e ∈ es) : RowL w0 w' A' c' (ys ++ [x]) (fs ++ [e]) es (k + 1) := by
  have f := fresh_appE h.new h.chg g e9
  exact ⟨o, h.ev.snoc r, f.1, fun u hu => (List.mem_append.1 hu).elim (h.sub u) (fun q => by rw [List.mem_singleton.1 q]; exact m), by simp; omega, f.2⟩
theorem eq_l {fb fl fr : List EvP} (h : ∀ x, x ∈ fb ↔ x ∈ fl ∨ x ∈ fr) (e : EvP) : ∀ x, x ∈ fb ++ [e] ↔ x ∈ fl ++ [e] ∨ x ∈ fr := fun x => by
  simp only [List.mem_append, List.mem_singleton, h x]
  constructor
  · rintro ((a | a) | a)
    · exact .inl (.inl a)
    · exact .inr a
    · exact .inl (.inr a)
  · rintro ((a | a) | a)
    · exact .inl (.inl a)
    · exact .inr a
    · exact .inl (.inr a)
theorem eq_r {fb fl fr : List EvP} (h : ∀ x, x ∈ fb ↔ x ∈ fl ∨ x ∈ fr) (e : EvP) : ∀ x, x ∈ fb ++ [e] ↔ x ∈ fl ∨ x ∈ fr ++ [e] := fun x => by
  simp only [List.mem_append, List.mem_singleton, h x, or_assoc]
theorem eq_b {fb fl fr : List EvP} (h : ∀ x, x ∈ fb ↔ x ∈ fl ∨ x ∈ fr) (e : EvP) : ∀ x, x ∈ fb ++ [e] ↔ x ∈ fl ++ [e] ∨ x ∈ fr ++ [e] := fun x => by
  simp only [List.mem_append, List.mem_singleton, h x]
  constructor
  · rintro ((a | a) | a)
    · exact .inl (.inl a)
    · exact .inr (.inl a)
    · exact .inl (.inr a)
  · rintro ((a | a) | (a | a))
    · exact .inl (.inl a)
    · exact .inr a
    · exact .inl (.inr a)
    · exact .inr a
set_option maxRecDepth 100000 in
set_option maxHeartbeats 32000000 in
theorem shelfjoins_yes (w : World) (A : Option Addr) (n c : Nat) (xs : List EvT) (es : List EvP) (hb : RdK evTy w A n xs) (hr : EvsR w xs es) (hn : n * 96 ≤ 140737488351232) (hm : n ≤ c) (hz : ∀ (i : Nat) (x : EvT) (e : EvP), xs[i]? = some x → es[i]? = some e → EvZ x e) (B : Option Addr) (nb cb0 : Nat) (bs : List Bool) (hbs : RdK boolTy w B nb bs) (hnb : nb * 1 ≤ 140737488351232) (D : Option Addr) (nd cd0 : Nat) (ds : List Bool) (hds : RdK boolTy w D nd ds) (hnd : nd * 1 ≤ 140737488351232) :
    Calls Tryz.prog 5 #[.slice A n c, .slice B nb cb0, .slice D nd cd0] w fun r w' => r = .returned (.bool true) ∧ Chg [] w w' := by

  have hl := hb.len
  subst hl
  have HFT := Lib.hid (fit_args hr hz)
  have HL0 : Hid (xs.length ≤ 140737488351232) := Lib.hid (by omega)
  have XL : Hid (∀ x ∈ xs, x.l ≤ 140737488351232) := Lib.hid (fun x hx => by
    obtain ⟨i, hi⟩ := List.getElem?_of_mem hx
    obtain ⟨x2, e, ex, ee, rx⟩ := hr.at_ (show i < xs.length from (List.getElem?_eq_some_iff.1 hi).1)
    rw [hi] at ex
    cases ex
    have a := rx.l
    have b := (hz i x e hi ee).1
    omega)
  have hlb := hbs.len
  subst hlb
  have hld := hds.len
  subst hld
  have HA := Lib.hid hb
  have HR := Lib.hid hr
  have HB := Lib.hid hbs
  have HD := Lib.hid hds
  have C := Lib.hid (Chg.refl [] w)
  clear hb hr hn hm hz hbs hds hnb hnd
  go_enter Tryz.func5, Tryz.ntmps5
  go_wp2_with fail
  refine (l9awake_run w).mono ?_
  rintro r w0 ⟨rfl, hc⟩
  replace C := Lib.hid (C.out.trans hc)
  clear hc
  go_wp2_with fail
  have lv := longevs_any w0 A c xs 12 (HA.out.chg C.out (by simp)) HL0.out (by omega) XL.out
  rw [show ((12 : Nat) : Int) = 12 from rfl] at lv
  refine lv.mono ?_
  rintro r w1 ⟨rfl, hc⟩
  clear lv
  replace C := Lib.hid (C.out.trans hc)
  clear hc
  rcases hlong : longE xs 12 with _ | _
  rotate_left
  · go_wp2
    go_ret
    first | exact C.out | exact ⟨rfl, C.out⟩
  have sm := smallEvs HR.out hlong
  have SM : Hid (∀ e ∈ es, EvSm e ∧ e.q.length ≤ 100000) := Lib.hid (fun e he => ⟨(sm.1 e he).1, by have := (sm.1 e he).2.1; omega⟩)
  have LN : Hid (xs.length ≤ 12) := Lib.hid sm.2
  clear sm hlong
  go_wp2_with fail
  refine (evclosed_any w1 A c xs es (HA.out.chg C.out (by simp)) (HR.out.chg C.out) (HFT.out.chg C.out) (by have := LN.out; omega) (fun e he => (SM.out e he).1)).mono ?_
  rintro r w2 ⟨rfl, hc⟩
  replace C := Lib.hid (C.out.trans hc)
  clear hc
  rcases hcl : closedE es with _ | _
  · go_wp2
    go_ret
    first | exact C.out | exact ⟨rfl, C.out⟩
  have CL := Lib.hid hcl
  clear hcl
  go_wp2_with fail
  refine (l9at_any w2 A c xs es (HA.out.chg C.out (by simp)) (HR.out.chg C.out) (by have := LN.out; omega)).mono ?_
  rintro r w3 ⟨A0, c0, ys, fs, rfl, ho, he, hin, hle, hsp, hnw, hc⟩
  have HF := Lib.hid ho.reads
  have FE := Lib.hid (he.chg hc)
  have FIN := Lib.hid hin
  have FSP := Lib.hid hsp
  have FL : Hid (ys.length ≤ 12) := Lib.hid (by have := LN.out; omega)
  have FW : Hid (∀ a, A0 = some a → a.block < w3.heap.size) := Lib.hid (fun a ha => ho.lt a ha)
  replace C := Lib.hid (C.out.trans hc)
  clear hc ho he hin hle hsp hnw
  have C3 := C
  clear C
  go_wp2
  go_loopw [8, 9, 10, 11] (fun v8 v9 v10 v11 wr => ∃ (k : Nat) (Al : Option Addr) (cl : Nat) (yl : List EvT) (fl : List EvP) (Ar : Option Addr) (cr : Nat) (yr : List EvT) (fr : List EvP) (Ab : Option Addr) (cb : Nat) (yb : List EvT) (fb : List EvP), k ≤ ys.length ∧ v11 = .int .i64 k ∧ v8 = .slice Al yl.length cl ∧ v9 = .slice Ar yr.length cr ∧ v10 = .slice Ab yb.length cb ∧ Hid (RowL w3 wr Al cl yl fl fs k) ∧ Hid (RowL w3 wr Ar cr yr fr fs k) ∧ Hid (RowL w3 wr Ab cb yb fb fs k) ∧ Hid (ApA Al Ar) ∧ Hid (ApA Al Ab) ∧ Hid (ApA Ar Ab) ∧ Hid (∀ x, x ∈ fb ↔ x ∈ fl ∨ x ∈ fr) ∧ Hid (Chg [] w3 wr)) (fun _ _ _ v _ => ys.length - (RowKit.intOf v).toNat)
  case atStart => exact ⟨0, none, 0, [], [], none, 0, [], [], none, 0, [], [], Nat.zero_le _, rfl, rfl, rfl, rfl, RowL.nil _ _ _, RowL.nil _ _ _, RowL.nil _ _ _, Lib.hid (fun a b h => by cases h), Lib.hid (fun a b h => by cases h), Lib.hid (fun a b h => by cases h), Lib.hid (by simp), Chg.refl _ _⟩
  case round =>
    obtain ⟨k, Al, cl, yl, fl, Ar, cr, yr, fr, Ab, cb, yb, fb, hk, rfl, rfl, rfl, rfl, OL, OR, OB, DLR, DLB, DRB, EQ, PC⟩ := hrel
    have j0 : (0 : Int) ≤ (k : Int) := by omega
    by_cases hlt : k < ys.length
    · have j1 : (k : Int) < (ys.length : Int) := by omega
      have j3 : IntKind.i64.wrap ((k : Int) + 1) = (k : Int) + 1 := IntWalk.i64_in _ (by have := FL.out; omega)
      obtain ⟨g3, o3, eA, _⟩ := HF.out.line (by omega)
      subst eA
      obtain ⟨x, e, ex, ee, rx⟩ := FE.out.at_ hlt
      have EX := Lib.hid ex
      have RX := Lib.hid rx
      have EM := Lib.hid (List.mem_of_getElem? ee)
      clear ex ee rx
      go_upto_region 9 with fail
      by_cases hP : k < bs.length
      · skip
        have P1 : (k : Int) < (bs.length : Int) := by omega
        have P2 : decide ((k : Int) < (bs.length : Int)) = true := decide_eq_true (by omega)
        have P3 : decide (k < bs.length) = true := decide_eq_true (by omega)
        obtain ⟨gb, ob, eP, _⟩ := HB.out.line (by omega)
        subst eP
        obtain ⟨p, hp⟩ : ∃ p, bs[k]? = some p := ⟨_, List.getElem?_eq_getElem hP⟩
        have BB : Hid (∀ w', Chg [] wr w' → w'.cell? ⟨gb, ob + k, none⟩ = some (.bool p)) := Lib.hid (fun w' hc => boolCells (HB.out.chg (C3.out.trans (PC.out.trans hc)) (by simp)) hp)
        replace hp := Lib.hid hp
        by_cases hQ : k < ds.length
        · skip
          have Q1 : (k : Int) < (ds.length : Int) := by omega
          have Q2 : decide ((k : Int) < (ds.length : Int)) = true := decide_eq_true (by omega)
          have Q3 : decide (k < ds.length) = true := decide_eq_true (by omega)
          obtain ⟨gd, od, eQ, _⟩ := HD.out.line (by omega)
          subst eQ
          obtain ⟨q, hq⟩ : ∃ q, ds[k]? = some q := ⟨_, List.getElem?_eq_getElem hQ⟩
          have BD : Hid (∀ w', Chg [] wr w' → w'.cell? ⟨gd, od + k, none⟩ = some (.bool q)) := Lib.hid (fun w' hc => boolCells (HD.out.chg (C3.out.trans (PC.out.trans hc)) (by simp)) hq)
          replace hq := Lib.hid hq
          refine wp_region_held_drew (S := fun w' => Chg [] wr w') (by kernel_rfl) (Chg.refl [] wr).drew (fun hHeld => ?_)
          refine sy 0 43 rfl rfl ?_
          try simp only [Act.put, sA, s0, s1]
          refine sy 1 44 rfl rfl ?_
          try simp only [Act.put, sA, s0, s1]
          refine sy 2 45 rfl rfl ?_
          try simp only [Act.put, sA, s0, s1]
          refine sy 3 46 rfl rfl ?_
          try simp only [Act.put, sA, s0, s1]
          refine sy 4 47 rfl rfl ?_
          try simp only [Act.put, sA, s0, s1]
          refine sy 5 48 rfl rfl ?_
          try simp only [Act.put, sA, s0, s1]
          refine sy 6 49 rfl rfl ?_
          try simp only [Act.put, sA, s0, s1]
          refine sy 7 50 rfl rfl ?_
          try simp only [Act.put, sA, s0, s1]
          refine sy 8 51 rfl rfl ?_ (hy := by (intro w hSw; (try dsimp only at hSw); have hq := BB.out _ hSw; go_simp; try with_reducible rfl))
          try simp only [Act.put, sA, s0, s1]
          refine sy 9 52 rfl rfl ?_
          try simp only [Act.put, sA, s0, s1]
          refine sy 10 53 rfl rfl ?_
          try simp only [Act.put, sA, s0, s1]
          refine sy 11 54 rfl rfl ?_
          try simp only [Act.put, sA, s0, s1]
          refine sy 12 55 rfl rfl ?_
          try simp only [Act.put, sA, s0, s1]
          refine sy 13 56 rfl rfl ?_
          try simp only [Act.put, sA, s0, s1]
          refine sy 14 57 rfl rfl ?_
          try simp only [Act.put, sA, s0, s1]
          refine sy 15 58 rfl rfl ?_
          try simp only [Act.put, sA, s0, s1]
          refine sy 16 59 rfl rfl ?_
          try simp only [Act.put, sA, s0, s1]
          refine sy 17 60 rfl rfl ?_
          try simp only [Act.put, sA, s0, s1]
          refine sy 18 61 rfl rfl ?_ (hy := by (intro w hSw; (try dsimp only at hSw); have hq := BD.out _ hSw; go_simp; try with_reducible rfl))
          try simp only [Act.put, sA, s0, s1]
          refine sy 19 62 rfl rfl ?_
          try simp only [Act.put, sA, s0, s1]
          refine sy 20 12 rfl rfl ?_
          try simp only [Act.put, sA, s0, s1]
          refine sy 21 13 rfl rfl ?_
          try simp only [Act.put, sA, s0, s1]
          refine wpAnyH_done (by kernel_rfl) ?_ _
          replace PC := Lib.hid (PC.out.trans hHeld)
          replace OL := Lib.hid (OL.out.go hHeld)
          replace OR := Lib.hid (OR.out.go hHeld)
          replace OB := Lib.hid (OB.out.go hHeld)
          clear hHeld BB BD
          generalize wr.drew = w5 at *
          rcases p with _ | _
          · skip
            rcases q with _ | _
            · skip
              have KL := Lib.hid OL.out.len
              have KR := Lib.hid OR.out.len
              have KB := Lib.hid OB.out.len
              replace OL := Lib.hid (OL.out.next)
              replace OR := Lib.hid (OR.out.next)
              replace OB := Lib.hid (OB.out.next)
              go_wp2
              go_round
              case rel => exact ⟨k + 1, Al, cl, yl, fl, Ar, cr, yr, fr, Ab, cb, yb, fb, by omega, by go_num, by first | rfl | simp, by first | rfl | simp, by first | rfl | simp, OL, OR, OB, DLR, DLB, DRB, EQ, PC⟩
              case measure => simp [RowKit.intOf]; omega
            · skip
              have KL := Lib.hid OL.out.len
              have KR := Lib.hid OR.out.len
              have KB := Lib.hid OB.out.len
              replace OL := Lib.hid (OL.out.next)
              replace OR := Lib.hid (OR.out.next)
              replace OB := Lib.hid (OB.out.next)
              go_upto_region 13 with fail
              obtain ⟨z0, z1, z2, z3, z4, z5, z6⟩ := evCells (HF.out.chg PC.out (by simp)) EX.out
              obtain ⟨v1, hw, cn, bn⟩ := news1 w5 (.cells #[.int .i64 x.n, .int .i64 x.s, .string x.p, .int .i64 x.k, .int .i64 x.m, .slice x.A x.l x.c, .slice x.B x.bl x.bc] 30)
              have WN := Lib.hid hw
              have XR := Lib.hid (rd_oneEc bn)
              replace OL := Lib.hid (OL.out.go cn)
              replace OR := Lib.hid (OR.out.go cn)
              replace OB := Lib.hid (OB.out.go cn)
              replace PC := Lib.hid (PC.out.trans cn)
              have N4 : Hid ((yr.length + 1) * 400 ≤ 140737488355327) := Lib.hid (by have := OR.out.len; have := FL.out; omega)
              clear hw cn bn
              go_upto_region 14 with (at_builtin; rw [← WN.out]; refine wpList_appK (R := evTy) rfl (.tmp 72) (.tmp 77) rfl rfl (A := Ar) (n := yr.length) (m := 1) (c := cr) (d := 1) (xs := yr) (ys := [x]) OR.out.row rfl rfl XR.out N4.out ?_; intro A1 c1 u1 o9 g9 e9)
              clear z0 z1 z2 z3 z4 z5 z6 WN XR N4
              have OLL : Hid (∀ a, Al = some a → a.block < v1.heap.size) := Lib.hid (fun a ha => OL.out.row.lt a ha)
              have OBL : Hid (∀ a, Ab = some a → a.block < v1.heap.size) := Lib.hid (fun a ha => OB.out.row.lt a ha)
              have NEWA : Hid (∀ a, Ar = some a → w3.heap.size ≤ a.block) := Lib.hid OR.out.new
              replace OL := Lib.hid (OL.out.aside g9 DLR.out.sym NEWA.out)
              have DLR9 := Lib.hid (show ApA Al A1 from fun a b ha hb => e9.elim (fun t => DLR.out a b ha (t ▸ hb)) (fun t => by rw [t] at hb; cases hb; exact Nat.ne_of_lt (OLL.out a ha)))
              replace OB := Lib.hid (OB.out.aside g9 DRB.out NEWA.out)
              have DRB9 := Lib.hid (show ApA A1 Ab from fun a b ha hb => e9.elim (fun t => DRB.out a b (t ▸ ha) hb) (fun t => by rw [t] at ha; cases ha; exact Nat.ne_of_gt (OBL.out b hb)))
              replace OR := Lib.hid (OR.out.snoc KR.out o9 g9 e9 RX.out EM.out)
              replace PC := Lib.hid (OR.out.chg)
              clear OLL
              have DLR := DLR9
              clear DLR9
              clear OBL
              have DRB := DRB9
              clear DRB9
              clear o9 g9 e9 NEWA
              have NL : Hid (yr.length + 1 = (yr ++ [x]).length) := Lib.hid (by simp)
              rw [NL.out]
              clear NL
              go_upto_region 15 with fail
              obtain ⟨z0, z1, z2, z3, z4, z5, z6⟩ := evCells (HF.out.chg PC.out (by simp)) EX.out
              obtain ⟨v2, hw, cn, bn⟩ := news1 u1 (.cells #[.int .i64 x.n, .int .i64 x.s, .string x.p, .int .i64 x.k, .int .i64 x.m, .slice x.A x.l x.c, .slice x.B x.bl x.bc] 30)
              have WN := Lib.hid hw
              have XR := Lib.hid (rd_oneEc bn)
              replace OL := Lib.hid (OL.out.go cn)
              replace OR := Lib.hid (OR.out.go cn)
              replace OB := Lib.hid (OB.out.go cn)
              replace PC := Lib.hid (PC.out.trans cn)
              have N4 : Hid ((yb.length + 1) * 400 ≤ 140737488355327) := Lib.hid (by have := OB.out.len; have := FL.out; omega)
              clear hw cn bn
              go_upto_region 8 with (at_builtin; rw [← WN.out]; refine wpList_appK (R := evTy) rfl (.tmp 83) (.tmp 88) rfl rfl (A := Ab) (n := yb.length) (m := 1) (c := cb) (d := 1) (xs := yb) (ys := [x]) OB.out.row rfl rfl XR.out N4.out ?_; intro A2 c2 u2 o9 g9 e9)
              clear z0 z1 z2 z3 z4 z5 z6 WN XR N4
              have OLL : Hid (∀ a, Al = some a → a.block < v2.heap.size) := Lib.hid (fun a ha => OL.out.row.lt a ha)
              have ORL : Hid (∀ a, A1 = some a → a.block < v2.heap.size) := Lib.hid (fun a ha => OR.out.row.lt a ha)
              have NEWA : Hid (∀ a, Ab = some a → w3.heap.size ≤ a.block) := Lib.hid OB.out.new
              replace OL := Lib.hid (OL.out.aside g9 DLB.out.sym NEWA.out)
              have DLB9 := Lib.hid (show ApA Al A2 from fun a b ha hb => e9.elim (fun t => DLB.out a b ha (t ▸ hb)) (fun t => by rw [t] at hb; cases hb; exact Nat.ne_of_lt (OLL.out a ha)))
              replace OR := Lib.hid (OR.out.aside g9 DRB.out.sym NEWA.out)
              have DRB9 := Lib.hid (show ApA A1 A2 from fun a b ha hb => e9.elim (fun t => DRB.out a b ha (t ▸ hb)) (fun t => by rw [t] at hb; cases hb; exact Nat.ne_of_lt (ORL.out a ha)))
              replace OB := Lib.hid (OB.out.snoc KB.out o9 g9 e9 RX.out EM.out)
              replace PC := Lib.hid (OB.out.chg)
              clear OLL
              have DLB := DLB9
              clear DLB9
              clear ORL
              have DRB := DRB9
              clear DRB9
              clear o9 g9 e9 NEWA
              have NL : Hid (yb.length + 1 = (yb ++ [x]).length) := Lib.hid (by simp)
              rw [NL.out]
              clear NL
              go_wp2
              go_round
              case rel => exact ⟨k + 1, Al, cl, yl, fl, A1, c1, (yr ++ [x]), (fr ++ [e]), A2, c2, (yb ++ [x]), (fb ++ [e]), by omega, by go_num, by first | rfl | simp, by first | rfl | simp, by first | rfl | simp, OL, OR, OB, DLR, DLB, DRB, Lib.hid (eq_r EQ.out e), PC⟩
              case measure => simp [RowKit.intOf]; omega
          · skip
            rcases q with _ | _
            · skip
              have KL := Lib.hid OL.out.len
              have KR := Lib.hid OR.out.len
              have KB := Lib.hid OB.out.len
              replace OL := Lib.hid (OL.out.next)
              replace OR := Lib.hid (OR.out.next)
              replace OB := Lib.hid (OB.out.next)
              go_upto_region 11 with fail
              obtain ⟨z0, z1, z2, z3, z4, z5, z6⟩ := evCells (HF.out.chg PC.out (by simp)) EX.out
              obtain ⟨v3, hw, cn, bn⟩ := news1 w5 (.cells #[.int .i64 x.n, .int .i64 x.s, .string x.p, .int .i64 x.k, .int .i64 x.m, .slice x.A x.l x.c, .slice x.B x.bl x.bc] 30)
              have WN := Lib.hid hw
              have XR := Lib.hid (rd_oneEc bn)
              replace OL := Lib.hid (OL.out.go cn)
              replace OR := Lib.hid (OR.out.go cn)
              replace OB := Lib.hid (OB.out.go cn)
              replace PC := Lib.hid (PC.out.trans cn)
              have N4 : Hid ((yl.length + 1) * 400 ≤ 140737488355327) := Lib.hid (by have := OL.out.len; have := FL.out; omega)
              clear hw cn bn
              go_upto_region 12 with (at_builtin; rw [← WN.out]; refine wpList_appK (R := evTy) rfl (.tmp 64) (.tmp 69) rfl rfl (A := Al) (n := yl.length) (m := 1) (c := cl) (d := 1) (xs := yl) (ys := [x]) OL.out.row rfl rfl XR.out N4.out ?_; intro A3 c3 u3 o9 g9 e9)
              clear z0 z1 z2 z3 z4 z5 z6 WN XR N4
              have ORL : Hid (∀ a, Ar = some a → a.block < v3.heap.size) := Lib.hid (fun a ha => OR.out.row.lt a ha)
              have OBL : Hid (∀ a, Ab = some a → a.block < v3.heap.size) := Lib.hid (fun a ha => OB.out.row.lt a ha)
              have NEWA : Hid (∀ a, Al = some a → w3.heap.size ≤ a.block) := Lib.hid OL.out.new
              replace OR := Lib.hid (OR.out.aside g9 DLR.out NEWA.out)
              have DLR9 := Lib.hid (show ApA A3 Ar from fun a b ha hb => e9.elim (fun t => DLR.out a b (t ▸ ha) hb) (fun t => by rw [t] at ha; cases ha; exact Nat.ne_of_gt (ORL.out b hb)))
              replace OB := Lib.hid (OB.out.aside g9 DLB.out NEWA.out)
              have DLB9 := Lib.hid (show ApA A3 Ab from fun a b ha hb => e9.elim (fun t => DLB.out a b (t ▸ ha) hb) (fun t => by rw [t] at ha; cases ha; exact Nat.ne_of_gt (OBL.out b hb)))
              replace OL := Lib.hid (OL.out.snoc KL.out o9 g9 e9 RX.out EM.out)
              replace PC := Lib.hid (OL.out.chg)
              clear ORL
              have DLR := DLR9
              clear DLR9
              clear OBL
              have DLB := DLB9
              clear DLB9
              clear o9 g9 e9 NEWA
              have NL : Hid (yl.length + 1 = (yl ++ [x]).length) := Lib.hid (by simp)
              rw [NL.out]
              clear NL
              go_upto_region 15 with fail
              obtain ⟨z0, z1, z2, z3, z4, z5, z6⟩ := evCells (HF.out.chg PC.out (by simp)) EX.out
              obtain ⟨v4, hw, cn, bn⟩ := news1 u3 (.cells #[.int .i64 x.n, .int .i64 x.s, .string x.p, .int .i64 x.k, .int .i64 x.m, .slice x.A x.l x.c, .slice x.B x.bl x.bc] 30)
              have WN := Lib.hid hw
              have XR := Lib.hid (rd_oneEc bn)
              replace OL := Lib.hid (OL.out.go cn)
              replace OR := Lib.hid (OR.out.go cn)
              replace OB := Lib.hid (OB.out.go cn)
              replace PC := Lib.hid (PC.out.trans cn)
              have N4 : Hid ((yb.length + 1) * 400 ≤ 140737488355327) := Lib.hid (by have := OB.out.len; have := FL.out; omega)
              clear hw cn bn
              go_upto_region 8 with (at_builtin; rw [← WN.out]; refine wpList_appK (R := evTy) rfl (.tmp 83) (.tmp 88) rfl rfl (A := Ab) (n := yb.length) (m := 1) (c := cb) (d := 1) (xs := yb) (ys := [x]) OB.out.row rfl rfl XR.out N4.out ?_; intro A4 c4 u4 o9 g9 e9)
              clear z0 z1 z2 z3 z4 z5 z6 WN XR N4
              have OLL : Hid (∀ a, A3 = some a → a.block < v4.heap.size) := Lib.hid (fun a ha => OL.out.row.lt a ha)
              have ORL : Hid (∀ a, Ar = some a → a.block < v4.heap.size) := Lib.hid (fun a ha => OR.out.row.lt a ha)
              have NEWA : Hid (∀ a, Ab = some a → w3.heap.size ≤ a.block) := Lib.hid OB.out.new
              replace OL := Lib.hid (OL.out.aside g9 DLB.out.sym NEWA.out)
              have DLB9 := Lib.hid (show ApA A3 A4 from fun a b ha hb => e9.elim (fun t => DLB.out a b ha (t ▸ hb)) (fun t => by rw [t] at hb; cases hb; exact Nat.ne_of_lt (OLL.out a ha)))
              replace OR := Lib.hid (OR.out.aside g9 DRB.out.sym NEWA.out)
              have DRB9 := Lib.hid (show ApA Ar A4 from fun a b ha hb => e9.elim (fun t => DRB.out a b ha (t ▸ hb)) (fun t => by rw [t] at hb; cases hb; exact Nat.ne_of_lt (ORL.out a ha)))
              replace OB := Lib.hid (OB.out.snoc KB.out o9 g9 e9 RX.out EM.out)
              replace PC := Lib.hid (OB.out.chg)
              clear OLL
              have DLB := DLB9
              clear DLB9
              clear ORL
              have DRB := DRB9
              clear DRB9
              clear o9 g9 e9 NEWA
              have NL : Hid (yb.length + 1 = (yb ++ [x]).length) := Lib.hid (by simp)
              rw [NL.out]
              clear NL
              go_wp2
              go_round
              case rel => exact ⟨k + 1, A3, c3, (yl ++ [x]), (fl ++ [e]), Ar, cr, yr, fr, A4, c4, (yb ++ [x]), (fb ++ [e]), by omega, by go_num, by first | rfl | simp, by first | rfl | simp, by first | rfl | simp, OL, OR, OB, DLR, DLB, DRB, Lib.hid (eq_l EQ.out e), PC⟩
              case measure => simp [RowKit.intOf]; omega
            · skip
              have KL := Lib.hid OL.out.len
              have KR := Lib.hid OR.out.len
              have KB := Lib.hid OB.out.len
              replace OL := Lib.hid (OL.out.next)
              replace OR := Lib.hid (OR.out.next)
              replace OB := Lib.hid (OB.out.next)
              go_upto_region 11 with fail
              obtain ⟨z0, z1, z2, z3, z4, z5, z6⟩ := evCells (HF.out.chg PC.out (by simp)) EX.out
              obtain ⟨v5, hw, cn, bn⟩ := news1 w5 (.cells #[.int .i64 x.n, .int .i64 x.s, .string x.p, .int .i64 x.k, .int .i64 x.m, .slice x.A x.l x.c, .slice x.B x.bl x.bc] 30)
              have WN := Lib.hid hw
              have XR := Lib.hid (rd_oneEc bn)
              replace OL := Lib.hid (OL.out.go cn)
              replace OR := Lib.hid (OR.out.go cn)
              replace OB := Lib.hid (OB.out.go cn)
              replace PC := Lib.hid (PC.out.trans cn)
              have N4 : Hid ((yl.length + 1) * 400 ≤ 140737488355327) := Lib.hid (by have := OL.out.len; have := FL.out; omega)
              clear hw cn bn
              go_upto_region 12 with (at_builtin; rw [← WN.out]; refine wpList_appK (R := evTy) rfl (.tmp 64) (.tmp 69) rfl rfl (A := Al) (n := yl.length) (m := 1) (c := cl) (d := 1) (xs := yl) (ys := [x]) OL.out.row rfl rfl XR.out N4.out ?_; intro A5 c5 u5 o9 g9 e9)
              clear z0 z1 z2 z3 z4 z5 z6 WN XR N4
              have ORL : Hid (∀ a, Ar = some a → a.block < v5.heap.size) := Lib.hid (fun a ha => OR.out.row.lt a ha)
              have OBL : Hid (∀ a, Ab = some a → a.block < v5.heap.size) := Lib.hid (fun a ha => OB.out.row.lt a ha)
              have NEWA : Hid (∀ a, Al = some a → w3.heap.size ≤ a.block) := Lib.hid OL.out.new
              replace OR := Lib.hid (OR.out.aside g9 DLR.out NEWA.out)
              have DLR9 := Lib.hid (show ApA A5 Ar from fun a b ha hb => e9.elim (fun t => DLR.out a b (t ▸ ha) hb) (fun t => by rw [t] at ha; cases ha; exact Nat.ne_of_gt (ORL.out b hb)))
              replace OB := Lib.hid (OB.out.aside g9 DLB.out NEWA.out)
              have DLB9 := Lib.hid (show ApA A5 Ab from fun a b ha hb => e9.elim (fun t => DLB.out a b (t ▸ ha) hb) (fun t => by rw [t] at ha; cases ha; exact Nat.ne_of_gt (OBL.out b hb)))
              replace OL := Lib.hid (OL.out.snoc KL.out o9 g9 e9 RX.out EM.out)
              replace PC := Lib.hid (OL.out.chg)
              clear ORL
              have DLR := DLR9
              clear DLR9
              clear OBL
              have DLB := DLB9
              clear DLB9
              clear o9 g9 e9 NEWA
              have NL : Hid (yl.length + 1 = (yl ++ [x]).length) := Lib.hid (by simp)
              rw [NL.out]
              clear NL
              go_upto_region 13 with fail
              obtain ⟨z0, z1, z2, z3, z4, z5, z6⟩ := evCells (HF.out.chg PC.out (by simp)) EX.out
              obtain ⟨v6, hw, cn, bn⟩ := news1 u5 (.cells #[.int .i64 x.n, .int .i64 x.s, .string x.p, .int .i64 x.k, .int .i64 x.m, .slice x.A x.l x.c, .slice x.B x.bl x.bc] 30)
              have WN := Lib.hid hw
              have XR := Lib.hid (rd_oneEc bn)
              replace OL := Lib.hid (OL.out.go cn)
              replace OR := Lib.hid (OR.out.go cn)
              replace OB := Lib.hid (OB.out.go cn)
              replace PC := Lib.hid (PC.out.trans cn)
              have N4 : Hid ((yr.length + 1) * 400 ≤ 140737488355327) := Lib.hid (by have := OR.out.len; have := FL.out; omega)
              clear hw cn bn
              go_upto_region 14 with (at_builtin; rw [← WN.out]; refine wpList_appK (R := evTy) rfl (.tmp 72) (.tmp 77) rfl rfl (A := Ar) (n := yr.length) (m := 1) (c := cr) (d := 1) (xs := yr) (ys := [x]) OR.out.row rfl rfl XR.out N4.out ?_; intro A6 c6 u6 o9 g9 e9)
              clear z0 z1 z2 z3 z4 z5 z6 WN XR N4
              have OLL : Hid (∀ a, A5 = some a → a.block < v6.heap.size) := Lib.hid (fun a ha => OL.out.row.lt a ha)
              have OBL : Hid (∀ a, Ab = some a → a.block < v6.heap.size) := Lib.hid (fun a ha => OB.out.row.lt a ha)
              have NEWA : Hid (∀ a, Ar = some a → w3.heap.size ≤ a.block) := Lib.hid OR.out.new
              replace OL := Lib.hid (OL.out.aside g9 DLR.out.sym NEWA.out)
              have DLR9 := Lib.hid (show ApA A5 A6 from fun a b ha hb => e9.elim (fun t => DLR.out a b ha (t ▸ hb)) (fun t => by rw [t] at hb; cases hb; exact Nat.ne_of_lt (OLL.out a ha)))
              replace OB := Lib.hid (OB.out.aside g9 DRB.out NEWA.out)
              have DRB9 := Lib.hid (show ApA A6 Ab from fun a b ha hb => e9.elim (fun t => DRB.out a b (t ▸ ha) hb) (fun t => by rw [t] at ha; cases ha; exact Nat.ne_of_gt (OBL.out b hb)))
              replace OR := Lib.hid (OR.out.snoc KR.out o9 g9 e9 RX.out EM.out)
              replace PC := Lib.hid (OR.out.chg)
              clear OLL
              have DLR := DLR9
              clear DLR9
              clear OBL
              have DRB := DRB9
              clear DRB9
              clear o9 g9 e9 NEWA
              have NL : Hid (yr.length + 1 = (yr ++ [x]).length) := Lib.hid (by simp)
              rw [NL.out]
              clear NL
              go_upto_region 15 with fail
              obtain ⟨z0, z1, z2, z3, z4, z5, z6⟩ := evCells (HF.out.chg PC.out (by simp)) EX.out
              obtain ⟨v7, hw, cn, bn⟩ := news1 u6 (.cells #[.int .i64 x.n, .int .i64 x.s, .string x.p, .int .i64 x.k, .int .i64 x.m, .slice x.A x.l x.c, .slice x.B x.bl x.bc] 30)
              have WN := Lib.hid hw
              have XR := Lib.hid (rd_oneEc bn)
              replace OL := Lib.hid (OL.out.go cn)
              replace OR := Lib.hid (OR.out.go cn)
              replace OB := Lib.hid (OB.out.go cn)
              replace PC := Lib.hid (PC.out.trans cn)
              have N4 : Hid ((yb.length + 1) * 400 ≤ 140737488355327) := Lib.hid (by have := OB.out.len; have := FL.out; omega)
              clear hw cn bn
              go_upto_region 8 with (at_builtin; rw [← WN.out]; refine wpList_appK (R := evTy) rfl (.tmp 83) (.tmp 88) rfl rfl (A := Ab) (n := yb.length) (m := 1) (c := cb) (d := 1) (xs := yb) (ys := [x]) OB.out.row rfl rfl XR.out N4.out ?_; intro A7 c7 u7 o9 g9 e9)
              clear z0 z1 z2 z3 z4 z5 z6 WN XR N4
              have OLL : Hid (∀ a, A5 = some a → a.block < v7.heap.size) := Lib.hid (fun a ha => OL.out.row.lt a ha)
              have ORL : Hid (∀ a, A6 = some a → a.block < v7.heap.size) := Lib.hid (fun a ha => OR.out.row.lt a ha)
              have NEWA : Hid (∀ a, Ab = some a → w3.heap.size ≤ a.block) := Lib.hid OB.out.new
              replace OL := Lib.hid (OL.out.aside g9 DLB.out.sym NEWA.out)
              have DLB9 := Lib.hid (show ApA A5 A7 from fun a b ha hb => e9.elim (fun t => DLB.out a b ha (t ▸ hb)) (fun t => by rw [t] at hb; cases hb; exact Nat.ne_of_lt (OLL.out a ha)))
              replace OR := Lib.hid (OR.out.aside g9 DRB.out.sym NEWA.out)
              have DRB9 := Lib.hid (show ApA A6 A7 from fun a b ha hb => e9.elim (fun t => DRB.out a b ha (t ▸ hb)) (fun t => by rw [t] at hb; cases hb; exact Nat.ne_of_lt (ORL.out a ha)))
              replace OB := Lib.hid (OB.out.snoc KB.out o9 g9 e9 RX.out EM.out)
              replace PC := Lib.hid (OB.out.chg)
              clear OLL
              have DLB := DLB9
              clear DLB9
              clear ORL
              have DRB := DRB9
              clear DRB9
              clear o9 g9 e9 NEWA
              have NL : Hid (yb.length + 1 = (yb ++ [x]).length) := Lib.hid (by simp)
              rw [NL.out]
              clear NL
              go_wp2
              go_round
              case rel => exact ⟨k + 1, A5, c5, (yl ++ [x]), (fl ++ [e]), A6, c6, (yr ++ [x]), (fr ++ [e]), A7, c7, (yb ++ [x]), (fb ++ [e]), by omega, by go_num, by first | rfl | simp, by first | rfl | simp, by first | rfl | simp, OL, OR, OB, DLR, DLB, DRB, Lib.hid (eq_b EQ.out e), PC⟩
              case measure => simp [RowKit.intOf]; omega
        · skip
          have Q1 : ¬ (k : Int) < (ds.length : Int) := by omega
          have Q2 : decide ((k : Int) < (ds.length : Int)) = false := decide_eq_false (by omega)
          have Q3 : decide (k < ds.length) = false := decide_eq_false (by omega)
          refine wp_region_held_drew (S := fun w' => Chg [] wr w') (by kernel_rfl) (Chg.refl [] wr).drew (fun hHeld => ?_)
          refine sy 0 43 rfl rfl ?_
          try simp only [Act.put, sA, s0, s1]
          refine sy 1 44 rfl rfl ?_
          try simp only [Act.put, sA, s0, s1]
          refine sy 2 45 rfl rfl ?_
          try simp only [Act.put, sA, s0, s1]
          refine sy 3 46 rfl rfl ?_
          try simp only [Act.put, sA, s0, s1]
          refine sy 4 47 rfl rfl ?_
          try simp only [Act.put, sA, s0, s1]
          refine sy 5 48 rfl rfl ?_
          try simp only [Act.put, sA, s0, s1]
          refine sy 6 49 rfl rfl ?_
          try simp only [Act.put, sA, s0, s1]
          refine sy 7 50 rfl rfl ?_
          try simp only [Act.put, sA, s0, s1]
          refine sy 8 51 rfl rfl ?_ (hy := by (intro w hSw; (try dsimp only at hSw); have hq := BB.out _ hSw; go_simp; try with_reducible rfl))
          try simp only [Act.put, sA, s0, s1]
          refine sy 9 52 rfl rfl ?_
          try simp only [Act.put, sA, s0, s1]
          refine sy 10 53 rfl rfl ?_
          try simp only [Act.put, sA, s0, s1]
          refine sy 11 54 rfl rfl ?_
          try simp only [Act.put, sA, s0, s1]
          refine sy 12 55 rfl rfl ?_
          try simp only [Act.put, sA, s0, s1]
          refine sy 13 56 rfl rfl ?_
          try simp only [Act.put, sA, s0, s1]
          refine sy 14 57 rfl rfl ?_
          try simp only [Act.put, sA, s0, s1]
          refine sn 15 58 rfl rfl ?_
          try simp only [Act.put, sA, s0, s1]
          refine sn 16 59 rfl rfl ?_
          try simp only [Act.put, sA, s0, s1]
          refine sn 17 60 rfl rfl ?_
          try simp only [Act.put, sA, s0, s1]
          refine sn 18 61 rfl rfl ?_
          try simp only [Act.put, sA, s0, s1]
          refine sy 19 62 rfl rfl ?_
          try simp only [Act.put, sA, s0, s1]
          refine sy 20 12 rfl rfl ?_
          try simp only [Act.put, sA, s0, s1]
          refine sy 21 13 rfl rfl ?_
          try simp only [Act.put, sA, s0, s1]
          refine wpAnyH_done (by kernel_rfl) ?_ _
          replace PC := Lib.hid (PC.out.trans hHeld)
          replace OL := Lib.hid (OL.out.go hHeld)
          replace OR := Lib.hid (OR.out.go hHeld)
          replace OB := Lib.hid (OB.out.go hHeld)
          clear hHeld BB
          generalize wr.drew = w5 at *
          rcases p with _ | _
          · skip
            have KL := Lib.hid OL.out.len
            have KR := Lib.hid OR.out.len
            have KB := Lib.hid OB.out.len
            replace OL := Lib.hid (OL.out.next)
            replace OR := Lib.hid (OR.out.next)
            replace OB := Lib.hid (OB.out.next)
            go_wp2
            go_round
            case rel => exact ⟨k + 1, Al, cl, yl, fl, Ar, cr, yr, fr, Ab, cb, yb, fb, by omega, by go_num, by first | rfl | simp, by first | rfl | simp, by first | rfl | simp, OL, OR, OB, DLR, DLB, DRB, EQ, PC⟩
            case measure => simp [RowKit.intOf]; omega
          · skip
            have KL := Lib.hid OL.out.len
            have KR := Lib.hid OR.out.len
            have KB := Lib.hid OB.out.len
            replace OL := Lib.hid (OL.out.next)
            replace OR := Lib.hid (OR.out.next)
            replace OB := Lib.hid (OB.out.next)
            go_upto_region 11 with fail
            obtain ⟨z0, z1, z2, z3, z4, z5, z6⟩ := evCells (HF.out.chg PC.out (by simp)) EX.out
            obtain ⟨v8, hw, cn, bn⟩ := news1 w5 (.cells #[.int .i64 x.n, .int .i64 x.s, .string x.p, .int .i64 x.k, .int .i64 x.m, .slice x.A x.l x.c, .slice x.B x.bl x.bc] 30)
            have WN := Lib.hid hw
            have XR := Lib.hid (rd_oneEc bn)
            replace OL := Lib.hid (OL.out.go cn)
            replace OR := Lib.hid (OR.out.go cn)
            replace OB := Lib.hid (OB.out.go cn)
            replace PC := Lib.hid (PC.out.trans cn)
            have N4 : Hid ((yl.length + 1) * 400 ≤ 140737488355327) := Lib.hid (by have := OL.out.len; have := FL.out; omega)
            clear hw cn bn
            go_upto_region 12 with (at_builtin; rw [← WN.out]; refine wpList_appK (R := evTy) rfl (.tmp 64) (.tmp 69) rfl rfl (A := Al) (n := yl.length) (m := 1) (c := cl) (d := 1) (xs := yl) (ys := [x]) OL.out.row rfl rfl XR.out N4.out ?_; intro A8 c8 u8 o9 g9 e9)
            clear z0 z1 z2 z3 z4 z5 z6 WN XR N4
            have ORL : Hid (∀ a, Ar = some a → a.block < v8.heap.size) := Lib.hid (fun a ha => OR.out.row.lt a ha)
            have OBL : Hid (∀ a, Ab = some a → a.block < v8.heap.size) := Lib.hid (fun a ha => OB.out.row.lt a ha)
            have NEWA : Hid (∀ a, Al = some a → w3.heap.size ≤ a.block) := Lib.hid OL.out.new
            replace OR := Lib.hid (OR.out.aside g9 DLR.out NEWA.out)
            have DLR9 := Lib.hid (show ApA A8 Ar from fun a b ha hb => e9.elim (fun t => DLR.out a b (t ▸ ha) hb) (fun t => by rw [t] at ha; cases ha; exact Nat.ne_of_gt (ORL.out b hb)))
            replace OB := Lib.hid (OB.out.aside g9 DLB.out NEWA.out)
            have DLB9 := Lib.hid (show ApA A8 Ab from fun a b ha hb => e9.elim (fun t => DLB.out a b (t ▸ ha) hb) (fun t => by rw [t] at ha; cases ha; exact Nat.ne_of_gt (OBL.out b hb)))
            replace OL := Lib.hid (OL.out.snoc KL.out o9 g9 e9 RX.out EM.out)
            replace PC := Lib.hid (OL.out.chg)
            clear ORL
            have DLR := DLR9
            clear DLR9
            clear OBL
            have DLB := DLB9
            clear DLB9
            clear o9 g9 e9 NEWA
            have NL : Hid (yl.length + 1 = (yl ++ [x]).length) := Lib.hid (by simp)
            rw [NL.out]
            clear NL
            go_upto_region 15 with fail
            obtain ⟨z0, z1, z2, z3, z4, z5, z6⟩ := evCells (HF.out.chg PC.out (by simp)) EX.out
            obtain ⟨v9, hw, cn, bn⟩ := news1 u8 (.cells #[.int .i64 x.n, .int .i64 x.s, .string x.p, .int .i64 x.k, .int .i64 x.m, .slice x.A x.l x.c, .slice x.B x.bl x.bc] 30)
            have WN := Lib.hid hw
            have XR := Lib.hid (rd_oneEc bn)
            replace OL := Lib.hid (OL.out.go cn)
            replace OR := Lib.hid (OR.out.go cn)
            replace OB := Lib.hid (OB.out.go cn)
            replace PC := Lib.hid (PC.out.trans cn)
            have N4 : Hid ((yb.length + 1) * 400 ≤ 140737488355327) := Lib.hid (by have := OB.out.len; have := FL.out; omega)
            clear hw cn bn
            go_upto_region 8 with (at_builtin; rw [← WN.out]; refine wpList_appK (R := evTy) rfl (.tmp 83) (.tmp 88) rfl rfl (A := Ab) (n := yb.length) (m := 1) (c := cb) (d := 1) (xs := yb) (ys := [x]) OB.out.row rfl rfl XR.out N4.out ?_; intro A9 c9 u9 o9 g9 e9)
            clear z0 z1 z2 z3 z4 z5 z6 WN XR N4
            have OLL : Hid (∀ a, A8 = some a → a.block < v9.heap.size) := Lib.hid (fun a ha => OL.out.row.lt a ha)
            have ORL : Hid (∀ a, Ar = some a → a.block < v9.heap.size) := Lib.hid (fun a ha => OR.out.row.lt a ha)
            have NEWA : Hid (∀ a, Ab = some a → w3.heap.size ≤ a.block) := Lib.hid OB.out.new
            replace OL := Lib.hid (OL.out.aside g9 DLB.out.sym NEWA.out)
            have DLB9 := Lib.hid (show ApA A8 A9 from fun a b ha hb => e9.elim (fun t => DLB.out a b ha (t ▸ hb)) (fun t => by rw [t] at hb; cases hb; exact Nat.ne_of_lt (OLL.out a ha)))
            replace OR := Lib.hid (OR.out.aside g9 DRB.out.sym NEWA.out)
            have DRB9 := Lib.hid (show ApA Ar A9 from fun a b ha hb => e9.elim (fun t => DRB.out a b ha (t ▸ hb)) (fun t => by rw [t] at hb; cases hb; exact Nat.ne_of_lt (ORL.out a ha)))
            replace OB := Lib.hid (OB.out.snoc KB.out o9 g9 e9 RX.out EM.out)
            replace PC := Lib.hid (OB.out.chg)
            clear OLL
            have DLB := DLB9
            clear DLB9
            clear ORL
            have DRB := DRB9
            clear DRB9
            clear o9 g9 e9 NEWA
            have NL : Hid (yb.length + 1 = (yb ++ [x]).length) := Lib.hid (by simp)
            rw [NL.out]
            clear NL
            go_wp2
            go_round
            case rel => exact ⟨k + 1, A8, c8, (yl ++ [x]), (fl ++ [e]), Ar, cr, yr, fr, A9, c9, (yb ++ [x]), (fb ++ [e]), by omega, by go_num, by first | rfl | simp, by first | rfl | simp, by first | rfl | simp, OL, OR, OB, DLR, DLB, DRB, Lib.hid (eq_l EQ.out e), PC⟩
            case measure => simp [RowKit.intOf]; omega
      · skip
        have P1 : ¬ (k : Int) < (bs.length : Int) := by omega
        have P2 : decide ((k : Int) < (bs.length : Int)) = false := decide_eq_false (by omega)
        have P3 : decide (k < bs.length) = false := decide_eq_false (by omega)
        by_cases hQ : k < ds.length
        · skip
          have Q1 : (k : Int) < (ds.length : Int) := by omega
          have Q2 : decide ((k : Int) < (ds.length : Int)) = true := decide_eq_true (by omega)
          have Q3 : decide (k < ds.length) = true := decide_eq_true (by omega)
          obtain ⟨gd, od, eQ, _⟩ := HD.out.line (by omega)
          subst eQ
          obtain ⟨q, hq⟩ : ∃ q, ds[k]? = some q := ⟨_, List.getElem?_eq_getElem hQ⟩
          have BD : Hid (∀ w', Chg [] wr w' → w'.cell? ⟨gd, od + k, none⟩ = some (.bool q)) := Lib.hid (fun w' hc => boolCells (HD.out.chg (C3.out.trans (PC.out.trans hc)) (by simp)) hq)
          replace hq := Lib.hid hq
          refine wp_region_held_drew (S := fun w' => Chg [] wr w') (by kernel_rfl) (Chg.refl [] wr).drew (fun hHeld => ?_)
          refine sy 0 43 rfl rfl ?_
          try simp only [Act.put, sA, s0, s1]
          refine sy 1 44 rfl rfl ?_
          try simp only [Act.put, sA, s0, s1]
          refine sy 2 45 rfl rfl ?_
          try simp only [Act.put, sA, s0, s1]
          refine sy 3 46 rfl rfl ?_
          try simp only [Act.put, sA, s0, s1]
          refine sy 4 47 rfl rfl ?_
          try simp only [Act.put, sA, s0, s1]
          refine sn 5 48 rfl rfl ?_
          try simp only [Act.put, sA, s0, s1]
          refine sn 6 49 rfl rfl ?_
          try simp only [Act.put, sA, s0, s1]
          refine sn 7 50 rfl rfl ?_
          try simp only [Act.put, sA, s0, s1]
          refine sn 8 51 rfl rfl ?_
          try simp only [Act.put, sA, s0, s1]
          refine sy 9 52 rfl rfl ?_
          try simp only [Act.put, sA, s0, s1]
          refine sy 10 53 rfl rfl ?_
          try simp only [Act.put, sA, s0, s1]
          refine sy 11 54 rfl rfl ?_
          try simp only [Act.put, sA, s0, s1]
          refine sy 12 55 rfl rfl ?_
          try simp only [Act.put, sA, s0, s1]
          refine sy 13 56 rfl rfl ?_
          try simp only [Act.put, sA, s0, s1]
          refine sy 14 57 rfl rfl ?_
          try simp only [Act.put, sA, s0, s1]
          refine sy 15 58 rfl rfl ?_
          try simp only [Act.put, sA, s0, s1]
          refine sy 16 59 rfl rfl ?_
          try simp only [Act.put, sA, s0, s1]
          refine sy 17 60 rfl rfl ?_
          try simp only [Act.put, sA, s0, s1]
          refine sy 18 61 rfl rfl ?_ (hy := by (intro w hSw; (try dsimp only at hSw); have hq := BD.out _ hSw; go_simp; try with_reducible rfl))
          try simp only [Act.put, sA, s0, s1]
          refine sy 19 62 rfl rfl ?_
          try simp only [Act.put, sA, s0, s1]
          refine sy 20 12 rfl rfl ?_
          try simp only [Act.put, sA, s0, s1]
          refine sy 21 13 rfl rfl ?_
          try simp only [Act.put, sA, s0, s1]
          refine wpAnyH_done (by kernel_rfl) ?_ _
          replace PC := Lib.hid (PC.out.trans hHeld)
          replace OL := Lib.hid (OL.out.go hHeld)
          replace OR := Lib.hid (OR.out.go hHeld)
          replace OB := Lib.hid (OB.out.go hHeld)
          clear hHeld BD
          generalize wr.drew = w5 at *
          rcases q with _ | _
          · skip
            have KL := Lib.hid OL.out.len
            have KR := Lib.hid OR.out.len
            have KB := Lib.hid OB.out.len
            replace OL := Lib.hid (OL.out.next)
            replace OR := Lib.hid (OR.out.next)
            replace OB := Lib.hid (OB.out.next)
            go_wp2
            go_round
            case rel => exact ⟨k + 1, Al, cl, yl, fl, Ar, cr, yr, fr, Ab, cb, yb, fb, by omega, by go_num, by first | rfl | simp, by first | rfl | simp, by first | rfl | simp, OL, OR, OB, DLR, DLB, DRB, EQ, PC⟩
            case measure => simp [RowKit.intOf]; omega
          · skip
            have KL := Lib.hid OL.out.len
            have KR := Lib.hid OR.out.len
            have KB := Lib.hid OB.out.len
            replace OL := Lib.hid (OL.out.next)
            replace OR := Lib.hid (OR.out.next)
            replace OB := Lib.hid (OB.out.next)
            go_upto_region 13 with fail
            obtain ⟨z0, z1, z2, z3, z4, z5, z6⟩ := evCells (HF.out.chg PC.out (by simp)) EX.out
            obtain ⟨v10, hw, cn, bn⟩ := news1 w5 (.cells #[.int .i64 x.n, .int .i64 x.s, .string x.p, .int .i64 x.k, .int .i64 x.m, .slice x.A x.l x.c, .slice x.B x.bl x.bc] 30)
            have WN := Lib.hid hw
            have XR := Lib.hid (rd_oneEc bn)
            replace OL := Lib.hid (OL.out.go cn)
            replace OR := Lib.hid (OR.out.go cn)
            replace OB := Lib.hid (OB.out.go cn)
            replace PC := Lib.hid (PC.out.trans cn)
            have N4 : Hid ((yr.length + 1) * 400 ≤ 140737488355327) := Lib.hid (by have := OR.out.len; have := FL.out; omega)
            clear hw cn bn
            go_upto_region 14 with (at_builtin; rw [← WN.out]; refine wpList_appK (R := evTy) rfl (.tmp 72) (.tmp 77) rfl rfl (A := Ar) (n := yr.length) (m := 1) (c := cr) (d := 1) (xs := yr) (ys := [x]) OR.out.row rfl rfl XR.out N4.out ?_; intro A10 c10 u10 o9 g9 e9)
            clear z0 z1 z2 z3 z4 z5 z6 WN XR N4
            have OLL : Hid (∀ a, Al = some a → a.block < v10.heap.size) := Lib.hid (fun a ha => OL.out.row.lt a ha)
            have OBL : Hid (∀ a, Ab = some a → a.block < v10.heap.size) := Lib.hid (fun a ha => OB.out.row.lt a ha)
            have NEWA : Hid (∀ a, Ar = some a → w3.heap.size ≤ a.block) := Lib.hid OR.out.new
            replace OL := Lib.hid (OL.out.aside g9 DLR.out.sym NEWA.out)
            have DLR9 := Lib.hid (show ApA Al A10 from fun a b ha hb => e9.elim (fun t => DLR.out a b ha (t ▸ hb)) (fun t => by rw [t] at hb; cases hb; exact Nat.ne_of_lt (OLL.out a ha)))
            replace OB := Lib.hid (OB.out.aside g9 DRB.out NEWA.out)
            have DRB9 := Lib.hid (show ApA A10 Ab from fun a b ha hb => e9.elim (fun t => DRB.out a b (t ▸ ha) hb) (fun t => by rw [t] at ha; cases ha; exact Nat.ne_of_gt (OBL.out b hb)))
            replace OR := Lib.hid (OR.out.snoc KR.out o9 g9 e9 RX.out EM.out)
            replace PC := Lib.hid (OR.out.chg)
            clear OLL
            have DLR := DLR9
            clear DLR9
            clear OBL
            have DRB := DRB9
            clear DRB9
            clear o9 g9 e9 NEWA
            have NL : Hid (yr.length + 1 = (yr ++ [x]).length) := Lib.hid (by simp)
            rw [NL.out]
            clear NL
            go_upto_region 15 with fail
            obtain ⟨z0, z1, z2, z3, z4, z5, z6⟩ := evCells (HF.out.chg PC.out (by simp)) EX.out
            obtain ⟨v11, hw, cn, bn⟩ := news1 u10 (.cells #[.int .i64 x.n, .int .i64 x.s, .string x.p, .int .i64 x.k, .int .i64 x.m, .slice x.A x.l x.c, .slice x.B x.bl x.bc] 30)
            have WN := Lib.hid hw
            have XR := Lib.hid (rd_oneEc bn)
            replace OL := Lib.hid (OL.out.go cn)
            replace OR := Lib.hid (OR.out.go cn)
            replace OB := Lib.hid (OB.out.go cn)
            replace PC := Lib.hid (PC.out.trans cn)
            have N4 : Hid ((yb.length + 1) * 400 ≤ 140737488355327) := Lib.hid (by have := OB.out.len; have := FL.out; omega)
            clear hw cn bn
            go_upto_region 8 with (at_builtin; rw [← WN.out]; refine wpList_appK (R := evTy) rfl (.tmp 83) (.tmp 88) rfl rfl (A := Ab) (n := yb.length) (m := 1) (c := cb) (d := 1) (xs := yb) (ys := [x]) OB.out.row rfl rfl XR.out N4.out ?_; intro A11 c11 u11 o9 g9 e9)
            clear z0 z1 z2 z3 z4 z5 z6 WN XR N4
            have OLL : Hid (∀ a, Al = some a → a.block < v11.heap.size) := Lib.hid (fun a ha => OL.out.row.lt a ha)
            have ORL : Hid (∀ a, A10 = some a → a.block < v11.heap.size) := Lib.hid (fun a ha => OR.out.row.lt a ha)
            have NEWA : Hid (∀ a, Ab = some a → w3.heap.size ≤ a.block) := Lib.hid OB.out.new
            replace OL := Lib.hid (OL.out.aside g9 DLB.out.sym NEWA.out)
            have DLB9 := Lib.hid (show ApA Al A11 from fun a b ha hb => e9.elim (fun t => DLB.out a b ha (t ▸ hb)) (fun t => by rw [t] at hb; cases hb; exact Nat.ne_of_lt (OLL.out a ha)))
            replace OR := Lib.hid (OR.out.aside g9 DRB.out.sym NEWA.out)
            have DRB9 := Lib.hid (show ApA A10 A11 from fun a b ha hb => e9.elim (fun t => DRB.out a b ha (t ▸ hb)) (fun t => by rw [t] at hb; cases hb; exact Nat.ne_of_lt (ORL.out a ha)))
            replace OB := Lib.hid (OB.out.snoc KB.out o9 g9 e9 RX.out EM.out)
            replace PC := Lib.hid (OB.out.chg)
            clear OLL
            have DLB := DLB9
            clear DLB9
            clear ORL
            have DRB := DRB9
            clear DRB9
            clear o9 g9 e9 NEWA
            have NL : Hid (yb.length + 1 = (yb ++ [x]).length) := Lib.hid (by simp)
            rw [NL.out]
            clear NL
            go_wp2
            go_round
            case rel => exact ⟨k + 1, Al, cl, yl, fl, A10, c10, (yr ++ [x]), (fr ++ [e]), A11, c11, (yb ++ [x]), (fb ++ [e]), by omega, by go_num, by first | rfl | simp, by first | rfl | simp, by first | rfl | simp, OL, OR, OB, DLR, DLB, DRB, Lib.hid (eq_r EQ.out e), PC⟩
            case measure => simp [RowKit.intOf]; omega
        · skip
          have Q1 : ¬ (k : Int) < (ds.length : Int) := by omega
          have Q2 : decide ((k : Int) < (ds.length : Int)) = false := decide_eq_false (by omega)
          have Q3 : decide (k < ds.length) = false := decide_eq_false (by omega)
          refine wp_region_held_drew (S := fun w' => Chg [] wr w') (by kernel_rfl) (Chg.refl [] wr).drew (fun hHeld => ?_)
          refine sy 0 43 rfl rfl ?_
          try simp only [Act.put, sA, s0, s1]
          refine sy 1 44 rfl rfl ?_
          try simp only [Act.put, sA, s0, s1]
          refine sy 2 45 rfl rfl ?_
          try simp only [Act.put, sA, s0, s1]
          refine sy 3 46 rfl rfl ?_
          try simp only [Act.put, sA, s0, s1]
          refine sy 4 47 rfl rfl ?_
          try simp only [Act.put, sA, s0, s1]
          refine sn 5 48 rfl rfl ?_
          try simp only [Act.put, sA, s0, s1]
          refine sn 6 49 rfl rfl ?_
          try simp only [Act.put, sA, s0, s1]
          refine sn 7 50 rfl rfl ?_
          try simp only [Act.put, sA, s0, s1]
          refine sn 8 51 rfl rfl ?_
          try simp only [Act.put, sA, s0, s1]
          refine sy 9 52 rfl rfl ?_
          try simp only [Act.put, sA, s0, s1]
          refine sy 10 53 rfl rfl ?_
          try simp only [Act.put, sA, s0, s1]
          refine sy 11 54 rfl rfl ?_
          try simp only [Act.put, sA, s0, s1]
          refine sy 12 55 rfl rfl ?_
          try simp only [Act.put, sA, s0, s1]
          refine sy 13 56 rfl rfl ?_
          try simp only [Act.put, sA, s0, s1]
          refine sy 14 57 rfl rfl ?_
          try simp only [Act.put, sA, s0, s1]
          refine sn 15 58 rfl rfl ?_
          try simp only [Act.put, sA, s0, s1]
          refine sn 16 59 rfl rfl ?_
          try simp only [Act.put, sA, s0, s1]
          refine sn 17 60 rfl rfl ?_
          try simp only [Act.put, sA, s0, s1]
          refine sn 18 61 rfl rfl ?_
          try simp only [Act.put, sA, s0, s1]
          refine sy 19 62 rfl rfl ?_
          try simp only [Act.put, sA, s0, s1]
          refine sy 20 12 rfl rfl ?_
          try simp only [Act.put, sA, s0, s1]
          refine sy 21 13 rfl rfl ?_
          try simp only [Act.put, sA, s0, s1]
          refine wpAnyH_done (by kernel_rfl) ?_ _
          replace PC := Lib.hid (PC.out.trans hHeld)
          replace OL := Lib.hid (OL.out.go hHeld)
          replace OR := Lib.hid (OR.out.go hHeld)
          replace OB := Lib.hid (OB.out.go hHeld)
          clear hHeld
          generalize wr.drew = w5 at *
          have KL := Lib.hid OL.out.len
          have KR := Lib.hid OR.out.len
          have KB := Lib.hid OB.out.len
          replace OL := Lib.hid (OL.out.next)
          replace OR := Lib.hid (OR.out.next)
          replace OB := Lib.hid (OB.out.next)
          go_wp2
          go_round
          case rel => exact ⟨k + 1, Al, cl, yl, fl, Ar, cr, yr, fr, Ab, cb, yb, fb, by omega, by go_num, by first | rfl | simp, by first | rfl | simp, by first | rfl | simp, OL, OR, OB, DLR, DLB, DRB, EQ, PC⟩
          case measure => simp [RowKit.intOf]; omega
    · obtain rfl : k = ys.length := by omega
      have j1 : ¬ (ys.length : Int) < (ys.length : Int) := by omega
      have C : Hid (Chg [] w wr) := Lib.hid (C3.out.trans PC.out)
      have CHK : Hid (∀ e ∈ fs, chkEv e = 0) := Lib.hid (fun e he => cl_chk CL.out (FIN.out e he))
      have SMF : Hid (∀ e ∈ fs, EvSm e ∧ e.q.length ≤ 100000) := Lib.hid (fun e he => SM.out e (FIN.out e he))
      clear PC hlt hk C3
      have ML : Hid (∀ e ∈ fl, e ∈ fs) := Lib.hid OL.out.sub
      have MR : Hid (∀ e ∈ fr, e ∈ fs) := Lib.hid OR.out.sub
      have MB : Hid (∀ e ∈ fb, e ∈ fs) := Lib.hid OB.out.sub
      have SL : Hid (∀ e ∈ fl, EvSm e ∧ e.q.length ≤ 100000) := Lib.hid (fun e he => SMF.out e (ML.out e he))
      have SR : Hid (∀ e ∈ fr, EvSm e ∧ e.q.length ≤ 100000) := Lib.hid (fun e he => SMF.out e (MR.out e he))
      have SB : Hid (∀ e ∈ fb, EvSm e ∧ e.q.length ≤ 100000) := Lib.hid (fun e he => SMF.out e (MB.out e he))
      have TL : Hid (shOkL fl) := Lib.hid (shOkL_of (fun e he => CHK.out e (ML.out e he)) (fun e he f hf => FSP.out e (ML.out e he) f (ML.out f hf)))
      have TR : Hid (shOkL fr) := Lib.hid (shOkL_of (fun e he => CHK.out e (MR.out e he)) (fun e he f hf => FSP.out e (MR.out e he) f (MR.out f hf)))
      have TB : Hid (shOkL fb) := Lib.hid (shOkL_of (fun e he => CHK.out e (MB.out e he)) (fun e he f hf => FSP.out e (MB.out e he) f (MB.out f hf)))
      go_wp2_with fail
      refine (l9all_any wr Al cl yl fl OL.out.row.reads (OL.out.ev.chg OL.out.chg) (by have := OL.out.len; have := FL.out; omega) SL.out (fun e he => CHK.out e (ML.out e he)) (fun e he f hf => FSP.out e (ML.out e he) f (ML.out f hf))).mono ?_
      rintro r x0 ⟨AL, cL, zL, rfl, he, hc⟩
      have GL := Lib.hid he
      replace C := Lib.hid (C.out.trans hc)
      replace OL := Lib.hid (OL.out.go hc)
      replace OR := Lib.hid (OR.out.go hc)
      replace OB := Lib.hid (OB.out.go hc)
      clear hc he
      go_wp2_with fail
      refine (l9all_any x0 Ar cr yr fr OR.out.row.reads (OR.out.ev.chg OR.out.chg) (by have := OR.out.len; have := FL.out; omega) SR.out (fun e he => CHK.out e (MR.out e he)) (fun e he f hf => FSP.out e (MR.out e he) f (MR.out f hf))).mono ?_
      rintro r x1 ⟨AR, cR, zR, rfl, he, hc⟩
      have GR := Lib.hid he
      replace C := Lib.hid (C.out.trans hc)
      replace OL := Lib.hid (OL.out.go hc)
      replace OR := Lib.hid (OR.out.go hc)
      replace OB := Lib.hid (OB.out.go hc)
      replace GL := Lib.hid (GL.out.chg hc (by simp))
      clear hc he
      go_wp2_with fail
      refine (l9all_any x1 Ab cb yb fb OB.out.row.reads (OB.out.ev.chg OB.out.chg) (by have := OB.out.len; have := FL.out; omega) SB.out (fun e he => CHK.out e (MB.out e he)) (fun e he f hf => FSP.out e (MB.out e he) f (MB.out f hf))).mono ?_
      rintro r x2 ⟨AB, cB, zB, rfl, he, hc⟩
      have GB := Lib.hid he
      replace C := Lib.hid (C.out.trans hc)
      replace OL := Lib.hid (OL.out.go hc)
      replace OR := Lib.hid (OR.out.go hc)
      replace OB := Lib.hid (OB.out.go hc)
      replace GL := Lib.hid (GL.out.chg hc (by simp))
      replace GR := Lib.hid (GR.out.chg hc (by simp))
      clear hc he
      have ZL : Hid (zL.length ≤ 12 ∧ (∀ e ∈ fl.foldl putE [], EvSm e ∧ e.q.length ≤ 100000)) := Lib.hid ⟨by have a := GL.out.all.ev.1; have b := puts_len fl []; have d := OL.out.len; have e1 := OL.out.ev.1; have := FL.out; simp at b; omega, fun e he => (puts_mem he).elim (fun q => by simp at q) (SL.out e)⟩
      have ZR : Hid (zR.length ≤ 12 ∧ (∀ e ∈ fr.foldl putE [], EvSm e ∧ e.q.length ≤ 100000)) := Lib.hid ⟨by have a := GR.out.all.ev.1; have b := puts_len fr []; have d := OR.out.len; have e1 := OR.out.ev.1; have := FL.out; simp at b; omega, fun e he => (puts_mem he).elim (fun q => by simp at q) (SR.out e)⟩
      have ZB : Hid (zB.length ≤ 12 ∧ (∀ e ∈ fb.foldl putE [], EvSm e ∧ e.q.length ≤ 100000)) := Lib.hid ⟨by have a := GB.out.all.ev.1; have b := puts_len fb []; have d := OB.out.len; have e1 := OB.out.ev.1; have := FL.out; simp at b; omega, fun e he => (puts_mem he).elim (fun q => by simp at q) (SB.out e)⟩
      have J1 : Hid (shJoinE (fl.foldl putE []) (fr.foldl putE []) = (0, fb.foldl putE [])) := Lib.hid (join_all CL.out (fun e he => FIN.out e (ML.out e he)) (fun e he => FIN.out e (MR.out e he)) EQ.out TL.out TR.out TB.out (fun e he f hf => FSP.out e (MB.out e he) f (MB.out f hf)))
      have J2 : Hid (shJoinE (fr.foldl putE []) (fl.foldl putE []) = (0, fb.foldl putE [])) := Lib.hid (join_all CL.out (fun e he => FIN.out e (MR.out e he)) (fun e he => FIN.out e (ML.out e he)) (fun x => (EQ.out x).trans or_comm) TR.out TL.out TB.out (fun e he f hf => FSP.out e (MB.out e he) f (MB.out f hf)))
      have J3 : Hid (shJoinE (fb.foldl putE []) (fb.foldl putE []) = (0, fb.foldl putE [])) := Lib.hid (join_all CL.out (fun e he => FIN.out e (MB.out e he)) (fun e he => FIN.out e (MB.out e he)) (fun x => (or_self_iff).symm) TB.out TB.out TB.out (fun e he f hf => FSP.out e (MB.out e he) f (MB.out f hf)))
      go_wp2_with fail
      refine (shjoin_any x2 AL AR cL cR zL zR _ _ GL.out.row.reads GR.out.row.reads GL.out.all.ev GR.out.all.ev (by have := ZL.out.1; have := ZR.out.1; omega) ZL.out.2 ZR.out.2).mono ?_
      rintro r y0 ⟨AX, cX, zX, rfl, he, hc⟩
      rw [J1.out] at he ⊢
      have GX : Hid (EsF y0 x2.heap.size y0.heap.size AX cX zX (fb.foldl putE [])) := Lib.hid he
      replace C := Lib.hid (C.out.trans hc)
      replace OL := Lib.hid (OL.out.go hc)
      replace OR := Lib.hid (OR.out.go hc)
      replace OB := Lib.hid (OB.out.go hc)
      replace GL := Lib.hid (GL.out.chg hc (by simp))
      replace GR := Lib.hid (GR.out.chg hc (by simp))
      replace GB := Lib.hid (GB.out.chg hc (by simp))
      clear hc he
      go_wp2_with fail
      refine (shjoin_any y0 AR AL cR cL zR zL _ _ GR.out.row.reads GL.out.row.reads GR.out.all.ev GL.out.all.ev (by have := ZR.out.1; have := ZL.out.1; omega) ZR.out.2 ZL.out.2).mono ?_
      rintro r y1 ⟨AY, cY, zY, rfl, he, hc⟩
      rw [J2.out] at he ⊢
      have GY : Hid (EsF y1 y0.heap.size y1.heap.size AY cY zY (fb.foldl putE [])) := Lib.hid he
      replace C := Lib.hid (C.out.trans hc)
      replace OL := Lib.hid (OL.out.go hc)
      replace OR := Lib.hid (OR.out.go hc)
      replace OB := Lib.hid (OB.out.go hc)
      replace GL := Lib.hid (GL.out.chg hc (by simp))
      replace GR := Lib.hid (GR.out.chg hc (by simp))
      replace GB := Lib.hid (GB.out.chg hc (by simp))
      replace GX := Lib.hid (GX.out.chg hc (by simp))
      clear hc he
      go_wp2_with fail
      refine (shjoin_any y1 AB AB cB cB zB zB _ _ GB.out.row.reads GB.out.row.reads GB.out.all.ev GB.out.all.ev (by have := ZB.out.1; have := ZB.out.1; omega) ZB.out.2 ZB.out.2).mono ?_
      rintro r y2 ⟨AW, cW, zW, rfl, he, hc⟩
      rw [J3.out] at he ⊢
      have GW : Hid (EsF y2 y1.heap.size y2.heap.size AW cW zW (fb.foldl putE [])) := Lib.hid he
      replace C := Lib.hid (C.out.trans hc)
      replace OL := Lib.hid (OL.out.go hc)
      replace OR := Lib.hid (OR.out.go hc)
      replace OB := Lib.hid (OB.out.go hc)
      replace GL := Lib.hid (GL.out.chg hc (by simp))
      replace GR := Lib.hid (GR.out.chg hc (by simp))
      replace GB := Lib.hid (GB.out.chg hc (by simp))
      replace GX := Lib.hid (GX.out.chg hc (by simp))
      replace GY := Lib.hid (GY.out.chg hc (by simp))
      clear hc he
      have BQ : Hid (∀ e ∈ fb.foldl putE [], e.q.length ≤ 140737488351232) := Lib.hid (fun e he => by have := (ZB.out.2 e he).2; omega)
      go_wp2_with fail
      refine (sameevs_any y2 AX AB cX cB zX zB _ _ GX.out.row.reads GB.out.row.reads GX.out.all.ev GB.out.all.ev ⟨by have a := GX.out.all.ev.1; have b := GB.out.all.ev.1; have := ZB.out.1; omega, by have := ZB.out.1; omega⟩ ⟨BQ.out, BQ.out⟩).mono ?_
      rintro r s0 ⟨rfl, hc⟩
      rw [sameL_refl]
      replace C := Lib.hid (C.out.trans hc)
      replace OL := Lib.hid (OL.out.go hc)
      replace OR := Lib.hid (OR.out.go hc)
      replace OB := Lib.hid (OB.out.go hc)
      replace GL := Lib.hid (GL.out.chg hc (by simp))
      replace GR := Lib.hid (GR.out.chg hc (by simp))
      replace GB := Lib.hid (GB.out.chg hc (by simp))
      replace GX := Lib.hid (GX.out.chg hc (by simp))
      replace GY := Lib.hid (GY.out.chg hc (by simp))
      replace GW := Lib.hid (GW.out.chg hc (by simp))
      clear hc
      go_wp2_with fail
      refine (sameevs_any s0 AY AB cY cB zY zB _ _ GY.out.row.reads GB.out.row.reads GY.out.all.ev GB.out.all.ev ⟨by have a := GY.out.all.ev.1; have b := GB.out.all.ev.1; have := ZB.out.1; omega, by have := ZB.out.1; omega⟩ ⟨BQ.out, BQ.out⟩).mono ?_
      rintro r s1 ⟨rfl, hc⟩
      rw [sameL_refl]
      replace C := Lib.hid (C.out.trans hc)
      replace OL := Lib.hid (OL.out.go hc)
      replace OR := Lib.hid (OR.out.go hc)
      replace OB := Lib.hid (OB.out.go hc)
      replace GL := Lib.hid (GL.out.chg hc (by simp))
      replace GR := Lib.hid (GR.out.chg hc (by simp))
      replace GB := Lib.hid (GB.out.chg hc (by simp))
      replace GX := Lib.hid (GX.out.chg hc (by simp))
      replace GY := Lib.hid (GY.out.chg hc (by simp))
      replace GW := Lib.hid (GW.out.chg hc (by simp))
      clear hc
      go_wp2_with fail
      refine (sameevs_any s1 AW AB cW cB zW zB _ _ GW.out.row.reads GB.out.row.reads GW.out.all.ev GB.out.all.ev ⟨by have a := GW.out.all.ev.1; have b := GB.out.all.ev.1; have := ZB.out.1; omega, by have := ZB.out.1; omega⟩ ⟨BQ.out, BQ.out⟩).mono ?_
      rintro r s2 ⟨rfl, hc⟩
      rw [sameL_refl]
      replace C := Lib.hid (C.out.trans hc)
      replace OL := Lib.hid (OL.out.go hc)
      replace OR := Lib.hid (OR.out.go hc)
      replace OB := Lib.hid (OB.out.go hc)
      replace GL := Lib.hid (GL.out.chg hc (by simp))
      replace GR := Lib.hid (GR.out.chg hc (by simp))
      replace GB := Lib.hid (GB.out.chg hc (by simp))
      replace GX := Lib.hid (GX.out.chg hc (by simp))
      replace GY := Lib.hid (GY.out.chg hc (by simp))
      replace GW := Lib.hid (GW.out.chg hc (by simp))
      clear hc
      go_wp2
      go_ret
      first | exact ⟨rfl, C.out⟩ | exact C.out
end
end Go.Proofs.YtdfapiffalmjcaaGreatDoor
