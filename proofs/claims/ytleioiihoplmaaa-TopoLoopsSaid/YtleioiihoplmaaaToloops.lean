/- TopoLoops, walked. -/
import Derived.Test.YtleioiihoplmaaaTostk
import Derived.Test.YtleioiihoplmaaaToacts
import Derived.Deep.Cut
namespace Go.Proofs.Ytleioiihoplmaaa
open Go.RowKit
set_option linter.unusedSimpArgs false
set_option linter.unusedVariables false



set_option maxRecDepth 100000 in
set_option maxHeartbeats 8000000 in
theorem topoloops_walk (w : World) (A : Option Addr) (c : Nat) (l : List ActT) (n0 up0 : Int) (h : RdK actTy w A l.length l) (hN : l.length ≤ 140737488351232) :
    Calls Try.prog 7 #[.slice A l.length c, .int .i64 n0, .int .i64 up0] w fun e w' => e = .returned (.bool true) ∧ Chg [] w w' := by
  have KN := Lib.hid (fun W => topoAwake_run W)
  have HX := Lib.hid h
  by_cases hl : 60 < l.length
  · have i1 : (60 : Int) < (l.length : Int) := by omega
    clear h hl
    go_enter Try.func7, Try.ntmps7
    go_wp2_with fail
    refine (KN.out _).mono ?_
    rintro e w1 ⟨rfl, h1⟩
    have K1 := Lib.hid h1
    clear h1
    go_wp2
    go_ret
    exact ⟨rfl, K1.out⟩
  have i1 : ¬ (60 : Int) < (l.length : Int) := by omega
  have hll : l.length ≤ 60 := by omega
  clear h hl hN
  go_enter Try.func7, Try.ntmps7
  go_wp2_with fail
  refine (KN.out _).mono ?_
  rintro e w1 ⟨rfl, h1⟩
  have K1 := Lib.hid h1
  clear h1
  go_wp2_with fail
  refine (tonew_any _).mono ?_
  rintro e w2 ⟨rfl, hg, hc⟩
  have K2 := Lib.hid (K1.out.trans hc)
  have G2 := Lib.hid (show OwnK memTy w2 (some ⟨w1.heap.size, 0, none⟩) 1 [(1, 0, false)] from .of (full := [(1, 0, false)]) hg (Nat.le_refl _) (by decide) rfl rfl)
  clear hg hc
  generalize w1.heap.size = g1 at *
  go_wp2
  go_loopw [8, 9, 10, 11] (fun v8 v9 v10 v11 wr => ∃ (k : Nat) (B : Option Addr) (d : Nat), k ≤ l.length ∧ v9 = .int .i64 (k : Int) ∧ v8 = .slice B (actsT (l.take k)).length d ∧ Hid (RdK memTy wr B (actsT (l.take k)).length (actsT (l.take k))) ∧ Hid (∀ a, B = some a → a.block < wr.heap.size) ∧ Hid (Chg [] w wr)) (fun _ v9 _ _ _ => l.length - (RowKit.intOf v9).toNat)
  case atStart => exact ⟨0, some ⟨g1, 0, none⟩, 1, Nat.zero_le _, rfl, rfl, Lib.hid G2.out.reads, Lib.hid G2.out.lt, K2⟩
  case round =>
    obtain ⟨k, B, d, hk, rfl, rfl, HR, HB, HC⟩ := hrel
    generalize wr = w3 at *
    clear wr
    have k1 : IntKind.i64.wrap ((k : Int) + 1) = (k : Int) + 1 := IntWalk.i64_in _ (by omega)
    have i0 : (0 : Int) ≤ (k : Int) := by omega
    obtain ⟨hck, hcl⟩ := acts_ok (l.take k)
    rw [List.length_take] at hcl
    by_cases hlt : k < l.length
    · have i2 : (k : Int) < (l.length : Int) := by omega
      have HT := Lib.hid (List.take_succ_eq_append_getElem hlt)
      have ey := List.getElem?_eq_getElem hlt
      have HS := Lib.hid (acts_snoc (l.take k) l[k])
      obtain ⟨g, o, eA, _⟩ := HX.out.line (by omega)
      subst eA
      obtain ⟨z0, z1, z2, z3⟩ := actCells (HX.out.chg HC.out (by simp)) ey
      have DC := Lib.hid (topodoes_any w3 B d (actsT (l.take k)) l[k] HR.out HB.out (by omega))
      generalize l[k] = x at *
      generalize ht : actsT (l.take k) = t at *
      generalize (doesT t x).2 = en at *
      generalize (doesT t x).1 = m at *
      clear ey ht
      go_wp2_with fail
      refine DC.out.mono ?_
      rintro e w4 ⟨B4, d4, rfl, hO, hB, hc⟩
      have K4 := Lib.hid (HC.out.trans hc)
      have R4 := Lib.hid hO
      have L4 := Lib.hid hB
      clear hO hB hc z0 z1 z2 z3
      go_wp2
      exact ⟨⟨k + 1, B4, d4, by omega, by simp, by rw [HT.out, HS.out], Lib.hid (by rw [HT.out, HS.out]; exact R4.out), L4, K4⟩, by simp [RowKit.intOf]; omega⟩
    · obtain rfl : k = l.length := by omega
      have i2 : ¬ (l.length : Int) < (l.length : Int) := by omega
      generalize actsT (l.take l.length) = t at *
      have htl : t.length ≤ 61 := by omega
      have htp : 1 ≤ t.length := (check_iff.1 hck).1
      have PN := Lib.hid (fun W => pick_any W n0 (t.length : Int) (by omega) (by omega))
      have PU := Lib.hid (fun W => pick_any W up0 (t.length : Int) (by omega) (by omega))
      have a0 := Int.emod_nonneg n0 (show (t.length : Int) ≠ 0 by omega)
      have a1 := Int.emod_lt_of_pos n0 (show (0 : Int) < (t.length : Int) by omega)
      have b0 := Int.emod_nonneg up0 (show (t.length : Int) ≠ 0 by omega)
      have b1 := Int.emod_lt_of_pos up0 (show (0 : Int) < (t.length : Int) by omega)
      generalize n0 % (t.length : Int) = na at *
      generalize up0 % (t.length : Int) = ua at *
      obtain ⟨ka, hka⟩ : ∃ q : Nat, na = (q : Int) := ⟨na.toNat, by omega⟩
      obtain ⟨kb, hkb⟩ : ∃ q : Nat, ua = (q : Int) := ⟨ua.toNat, by omega⟩
      subst hka hkb
      have hla : ka < t.length := by omega
      have hlb : kb < t.length := by omega
      have wa : IntKind.i64.wrap (1 + (ka : Int)) = (ka : Int) + 1 := by rw [Int.add_comm]; exact IntWalk.i64_in _ (by omega)
      have wb : IntKind.i64.wrap (1 + (kb : Int)) = (kb : Int) + 1 := by rw [Int.add_comm]; exact IntWalk.i64_in _ (by omega)
      have hta := there_succ hla
      have htb := there_succ hlb
      have qaa : IntKind.i64.wrap ((ka : Int)) = (ka : Int) := IntWalk.i64_in _ (by omega)
      have qab : IntKind.i64.wrap ((kb : Int)) = (kb : Int) := IntWalk.i64_in _ (by omega)
      have pa0 : (0 : Int) ≤ (ka : Int) := by omega
      have pb0 : (0 : Int) ≤ (kb : Int) := by omega
      have pa1 : (ka : Int) < (t.length : Int) := by omega
      have pb1 : (kb : Int) < (t.length : Int) := by omega
      have sa : ((ka : Int) + 1 - 1).toNat = ka := by omega
      have hmay := move_may hck hta htb
      have HBK := Lib.hid (fun e => move_back (t := t) (n := (ka : Int) + 1) (up := (kb : Int) + 1) e)
      have HOK := Lib.hid (fun e => move_ok (t := t) (n := (ka : Int) + 1) (up := (kb : Int) + 1) e)
      have HNO := Lib.hid (fun e => move_none (t := t) (n := (ka : Int) + 1) (up := (kb : Int) + 1) e)
      have HCM := Lib.hid (fun a b c => check_move (d := (memT t ((ka : Int) + 1)).2.2) hck hta htb a b c)
      have HCI := Lib.hid ((check_iff.1 hck).2.2.2 ((ka : Int) + 1))
      have HTA := Lib.hid hta
      have PM := Lib.hid (fun (w' : World) (hc : Chg [] w3 w') => tomove_any w' B d t ((ka : Int) + 1) ((kb : Int) + 1) (HR.out.chg hc (by simp)) (fun a ha => Nat.lt_of_lt_of_le (HB.out a ha) hc.size) (by omega))
      have WY := Lib.hid (fun (w' : World) (hc : Chg [] w3 w') => toway_any w' B d t ((kb : Int) + 1) (HR.out.chg hc (by simp)) (fun a ha => Nat.lt_of_lt_of_le (HB.out a ha) hc.size) (by omega))
      have hz : namesR t [(kb : Int) + 1] = 0 := by rw [names_one, htb, hck]; rfl
      have hwr : wayR t ((kb : Int) + 1) = wayT t t.length ((kb : Int) + 1) := by unfold wayR; rw [if_pos hz]
      rw [hz, hwr] at WY
      have WZ := way_len' t t.length ((kb : Int) + 1)
      generalize wayT t t.length ((kb : Int) + 1) = wl at *
      have RT := Lib.hid (fun (w' : World) (hc : Chg [] w3 w') => HR.out.chg hc (by simp))
      obtain ⟨g, o, eA, _⟩ := HR.out.line (by omega)
      subst eA
      have ea := mem_succ hla
      have eb := mem_succ hlb
      have CA := Lib.hid (fun (w' : World) (hc : Chg [] w3 w') => memCells (RT.out w' hc) ea)
      have CB := Lib.hid (fun (w' : World) (hc : Chg [] w3 w') => memCells (RT.out w' hc) eb)
      clear hz hwr hta htb hck ea eb
      generalize memT t ((kb : Int) + 1) = mb at *
      generalize hma : memT t ((ka : Int) + 1) = ma at *
      have HMA := Lib.hid hma
      clear hma
      obtain ⟨x0a, xua, xda⟩ := ma
      obtain ⟨x0b, xub, xdb⟩ := mb
      simp only at hmay CA CB HBK HOK HCM HCI
      by_cases h1 : ka = 0
      · have g1 : (((ka : Int) + 1) != 1) = false := by subst h1; rfl
        have hne : (moveR t ((ka : Int) + 1) ((kb : Int) + 1)).2 ≠ 0 := fun e => by have hh := hmay.1 e; exact hh.1 (by omega)
        have hnil := HNO.out hne
        rw [hnil] at PM
        clear HBK HOK HNO HCM hnil hmay
        generalize (moveR t ((ka : Int) + 1) ((kb : Int) + 1)).2 = en at *
        have hneb : (en == 0) = false := by simpa using hne
        clear h1
        go_wp2_with fail
        refine (PN.out _).mono ?_
        rintro e v3 ⟨rfl, rfl⟩
        go_wp2_with fail
        refine (PU.out _).mono ?_
        rintro e v4 ⟨rfl, rfl⟩
        go_wp2_with fail
        refine (PM.out _ (Chg.refl _ _)).mono ?_
        rintro e w5 ⟨B5, d5, rfl, hO, hB, hc⟩
        have O5 := Lib.hid hO
        have K5 := Lib.hid hc
        clear hO hB hc
        go_wp2_with fail
        refine (WY.out _ K5.out).mono ?_
        rintro e w6 ⟨B6, d6, rfl, hO, hB, hc⟩
        have R6 := Lib.hid hO.reads
        have K6 := Lib.hid (K5.out.trans hc)
        have O6 := Lib.hid (O5.out.chg hc (by simp))
        clear hO hB hc
        obtain ⟨p0, p1, p2⟩ := CA.out _ K6.out
        obtain ⟨q0, q1, q2⟩ := CB.out _ K6.out
        (try simp only at p0 p1 p2 q0 q1 q2)
        go_wp2
        go_ret
        exact ⟨rfl, HC.out.trans K6.out⟩
      have n1 : (((ka : Int) + 1) != 1) = true := by simp; omega
      have n1b : ((ka : Int) + 1) ≠ 1 := by omega
      cases xda with
      | true =>
        have hne : (moveR t ((ka : Int) + 1) ((kb : Int) + 1)).2 ≠ 0 := fun e => by have hh := hmay.1 e; cases hh.2.1
        have hnil := HNO.out hne
        rw [hnil] at PM
        clear HBK HOK HNO HCM hnil hmay
        generalize (moveR t ((ka : Int) + 1) ((kb : Int) + 1)).2 = en at *
        have hneb : (en == 0) = false := by simpa using hne
        go_wp2_with fail
        refine (PN.out _).mono ?_
        rintro e v3 ⟨rfl, rfl⟩
        go_wp2_with fail
        refine (PU.out _).mono ?_
        rintro e v4 ⟨rfl, rfl⟩
        go_wp2_with fail
        refine (PM.out _ (Chg.refl _ _)).mono ?_
        rintro e w5 ⟨B5, d5, rfl, hO, hB, hc⟩
        have O5 := Lib.hid hO
        have K5 := Lib.hid hc
        clear hO hB hc
        go_wp2_with fail
        refine (WY.out _ K5.out).mono ?_
        rintro e w6 ⟨B6, d6, rfl, hO, hB, hc⟩
        have R6 := Lib.hid hO.reads
        have K6 := Lib.hid (K5.out.trans hc)
        have O6 := Lib.hid (O5.out.chg hc (by simp))
        clear hO hB hc
        obtain ⟨p0, p1, p2⟩ := CA.out _ K6.out
        obtain ⟨q0, q1, q2⟩ := CB.out _ K6.out
        (try simp only at p0 p1 p2 q0 q1 q2)
        go_wp2
        go_ret
        exact ⟨rfl, HC.out.trans K6.out⟩
      | false =>
        cases xdb with
        | true =>
          have hne : (moveR t ((ka : Int) + 1) ((kb : Int) + 1)).2 ≠ 0 := fun e => by have hh := hmay.1 e; cases hh.2.2.1
          have hnil := HNO.out hne
          rw [hnil] at PM
          clear HBK HOK HNO HCM hnil hmay
          generalize (moveR t ((ka : Int) + 1) ((kb : Int) + 1)).2 = en at *
          have hneb : (en == 0) = false := by simpa using hne
          go_wp2_with fail
          refine (PN.out _).mono ?_
          rintro e v3 ⟨rfl, rfl⟩
          go_wp2_with fail
          refine (PU.out _).mono ?_
          rintro e v4 ⟨rfl, rfl⟩
          go_wp2_with fail
          refine (PM.out _ (Chg.refl _ _)).mono ?_
          rintro e w5 ⟨B5, d5, rfl, hO, hB, hc⟩
          have O5 := Lib.hid hO
          have K5 := Lib.hid hc
          clear hO hB hc
          go_wp2_with fail
          refine (WY.out _ K5.out).mono ?_
          rintro e w6 ⟨B6, d6, rfl, hO, hB, hc⟩
          have R6 := Lib.hid hO.reads
          have K6 := Lib.hid (K5.out.trans hc)
          have O6 := Lib.hid (O5.out.chg hc (by simp))
          clear hO hB hc
          obtain ⟨p0, p1, p2⟩ := CA.out _ K6.out
          obtain ⟨q0, q1, q2⟩ := CB.out _ K6.out
          (try simp only at p0 p1 p2 q0 q1 q2)
          go_wp2
          go_ret
          exact ⟨rfl, HC.out.trans K6.out⟩
        | false =>
          by_cases h3 : x0b = 3
          · subst h3
            have hne : (moveR t ((ka : Int) + 1) ((kb : Int) + 1)).2 ≠ 0 := fun e => by have hh := hmay.1 e; exact hh.2.2.2.1 rfl
            have hnil := HNO.out hne
            rw [hnil] at PM
            clear HBK HOK HNO HCM hnil hmay
            generalize (moveR t ((ka : Int) + 1) ((kb : Int) + 1)).2 = en at *
            have hneb : (en == 0) = false := by simpa using hne
            have g3 : ((3 : Int) != 3) = false := by decide
            go_wp2_with fail
            refine (PN.out _).mono ?_
            rintro e v3 ⟨rfl, rfl⟩
            go_wp2_with fail
            refine (PU.out _).mono ?_
            rintro e v4 ⟨rfl, rfl⟩
            go_wp2_with fail
            refine (PM.out _ (Chg.refl _ _)).mono ?_
            rintro e w5 ⟨B5, d5, rfl, hO, hB, hc⟩
            have O5 := Lib.hid hO
            have K5 := Lib.hid hc
            clear hO hB hc
            go_wp2_with fail
            refine (WY.out _ K5.out).mono ?_
            rintro e w6 ⟨B6, d6, rfl, hO, hB, hc⟩
            have R6 := Lib.hid hO.reads
            have K6 := Lib.hid (K5.out.trans hc)
            have O6 := Lib.hid (O5.out.chg hc (by simp))
            clear hO hB hc
            obtain ⟨p0, p1, p2⟩ := CA.out _ K6.out
            obtain ⟨q0, q1, q2⟩ := CB.out _ K6.out
            (try simp only at p0 p1 p2 q0 q1 q2)
            go_wp2
            go_ret
            exact ⟨rfl, HC.out.trans K6.out⟩
          have n3 : (x0b != 3) = true := by simpa using h3
          cases hct : wl.contains ((ka : Int) + 1) with
          | true =>
            have hne : (moveR t ((ka : Int) + 1) ((kb : Int) + 1)).2 ≠ 0 := fun e => by have hh := hmay.1 e; exact hh.2.2.2.2 (by rwa [List.contains_iff_mem] at hct)
            have hnil := HNO.out hne
            rw [hnil] at PM
            clear HBK HOK HNO HCM hnil hmay
            generalize (moveR t ((ka : Int) + 1) ((kb : Int) + 1)).2 = en at *
            have hneb : (en == 0) = false := by simpa using hne
            go_wp2_with fail
            refine (PN.out _).mono ?_
            rintro e v3 ⟨rfl, rfl⟩
            go_wp2_with fail
            refine (PU.out _).mono ?_
            rintro e v4 ⟨rfl, rfl⟩
            go_wp2_with fail
            refine (PM.out _ (Chg.refl _ _)).mono ?_
            rintro e w5 ⟨B5, d5, rfl, hO, hB, hc⟩
            have O5 := Lib.hid hO
            have K5 := Lib.hid hc
            clear hO hB hc
            go_wp2_with fail
            refine (WY.out _ K5.out).mono ?_
            rintro e w6 ⟨B6, d6, rfl, hO, hB, hc⟩
            have R6 := Lib.hid hO.reads
            have K6 := Lib.hid (K5.out.trans hc)
            have O6 := Lib.hid (O5.out.chg hc (by simp))
            clear hO hB hc
            obtain ⟨p0, p1, p2⟩ := CA.out _ K6.out
            obtain ⟨q0, q1, q2⟩ := CB.out _ K6.out
            (try simp only at p0 p1 p2 q0 q1 q2)
            go_wp2_with fail
            refine (tohasl_any _ B6 d6 wl ((ka : Int) + 1) R6.out (by omega)).mono ?_
            rw [hct]
            rintro e w7 ⟨rfl, rfl⟩
            go_wp2
            go_ret
            exact ⟨rfl, HC.out.trans K6.out⟩
          | false =>
            have hnw : ((ka : Int) + 1) ∉ wl := by rw [← List.contains_iff_mem, hct]; decide
            have he := hmay.2 ⟨n1b, rfl, rfl, h3, hnw⟩
            obtain ⟨_, _, _, _, _, _, hr1⟩ := HOK.out he
            have hbk := HBK.out he
            have hcm := HCM.out n1b h3 hnw
            obtain ⟨c1, c2, c3, _⟩ := HCI.out (by omega) (by omega)
            rw [sa] at hr1 hbk hcm
            rw [hr1, he] at PM
            generalize hm : t.set ka (x0a, (kb : Int) + 1, false) = m at *
            have hml : m.length ≤ 61 := by rw [← hm, List.length_set]; omega
            clear HBK HOK HNO HCM HCI hmay he hr1 hnw hm h3 n1b
            have ec := (there_at c2).2.2.2.2
            obtain ⟨cc1, cc2⟩ := there_iff.1 c2
            obtain ⟨kc, hkc⟩ : ∃ q : Nat, xua = (q : Int) + 1 := ⟨(xua - 1).toNat, by omega⟩
            have sc : (xua - 1).toNat = kc := by omega
            rw [sc] at ec
            have CC := Lib.hid (fun (w' : World) (hc : Chg [] w3 w') => memCells (RT.out w' hc) ec)
            generalize memT t xua = mc at *
            obtain ⟨x0c, xuc, xdc⟩ := mc
            simp only at hbk CC
            subst hkc
            have qac : IntKind.i64.wrap ((kc : Int)) = (kc : Int) := IntWalk.i64_in _ (by omega)
            have pc0 : (0 : Int) ≤ (kc : Int) := by omega
            have pc1 : (kc : Int) < (t.length : Int) := by omega
            clear ec c2 cc1 cc2 sc c1 c3
            have PB := Lib.hid (fun (w' : World) (B5 : Option Addr) (d5 : Nat) (h : RdK memTy w' B5 m.length m) hA => tomove_any w' B5 d5 m ((ka : Int) + 1) ((kc : Int) + 1) h hA (by omega))
            have PC := Lib.hid (fun (w' : World) (B5 : Option Addr) (d5 : Nat) (h : RdK memTy w' B5 m.length m) hA => tocheck_any w' B5 d5 m h hA (by omega))
            rw [hbk] at PB
            rw [hcm] at PC
            clear hbk hcm
            cases xdc with
            | true =>
              (try simp only [Bool.false_eq_true, if_false, if_true, eq_self] at PB)
              go_wp2_with fail
              refine (PN.out _).mono ?_
              rintro e v3 ⟨rfl, rfl⟩
              go_wp2_with fail
              refine (PU.out _).mono ?_
              rintro e v4 ⟨rfl, rfl⟩
              go_wp2_with fail
              refine (PM.out _ (Chg.refl _ _)).mono ?_
              rintro e w5 ⟨B5, d5, rfl, hO, hB, hc⟩
              have O5 := Lib.hid hO
              have K5 := Lib.hid hc
              clear hO hB hc
              go_wp2_with fail
              refine (WY.out _ K5.out).mono ?_
              rintro e w6 ⟨B6, d6, rfl, hO, hB, hc⟩
              have R6 := Lib.hid hO.reads
              have K6 := Lib.hid (K5.out.trans hc)
              have O6 := Lib.hid (O5.out.chg hc (by simp))
              clear hO hB hc
              obtain ⟨p0, p1, p2⟩ := CA.out _ K6.out
              obtain ⟨q0, q1, q2⟩ := CB.out _ K6.out
              (try simp only at p0 p1 p2 q0 q1 q2)
              go_wp2_with fail
              refine (tohasl_any _ B6 d6 wl ((ka : Int) + 1) R6.out (by omega)).mono ?_
              rw [hct]
              rintro e w7 ⟨rfl, rfl⟩
              clear q0 q1 q2
              go_wp2_with fail
              refine (PB.out _ _ _ O6.out.reads O6.out.lt).mono ?_
              rintro e w8 ⟨B8, d8, rfl, hO, hB, hc⟩
              have O8 := Lib.hid hO
              have K8 := Lib.hid (K6.out.trans hc)
              have O9 := Lib.hid (O6.out.chg hc (by simp))
              clear hO hB hc p0 p1 p2
              obtain ⟨p0, p1, p2⟩ := CA.out _ K8.out
              obtain ⟨r0, r1, r2⟩ := CC.out _ K8.out
              (try simp only at p0 p1 p2 r0 r1 r2)
              go_wp2
              go_ret
              exact ⟨rfl, HC.out.trans K8.out⟩
            | false =>
              (try simp only [Bool.false_eq_true, if_false, if_true, eq_self] at PB)
              go_wp2_with fail
              refine (PN.out _).mono ?_
              rintro e v3 ⟨rfl, rfl⟩
              go_wp2_with fail
              refine (PU.out _).mono ?_
              rintro e v4 ⟨rfl, rfl⟩
              go_wp2_with fail
              refine (PM.out _ (Chg.refl _ _)).mono ?_
              rintro e w5 ⟨B5, d5, rfl, hO, hB, hc⟩
              have O5 := Lib.hid hO
              have K5 := Lib.hid hc
              clear hO hB hc
              go_wp2_with fail
              refine (WY.out _ K5.out).mono ?_
              rintro e w6 ⟨B6, d6, rfl, hO, hB, hc⟩
              have R6 := Lib.hid hO.reads
              have K6 := Lib.hid (K5.out.trans hc)
              have O6 := Lib.hid (O5.out.chg hc (by simp))
              clear hO hB hc
              obtain ⟨p0, p1, p2⟩ := CA.out _ K6.out
              obtain ⟨q0, q1, q2⟩ := CB.out _ K6.out
              (try simp only at p0 p1 p2 q0 q1 q2)
              go_wp2_with fail
              refine (tohasl_any _ B6 d6 wl ((ka : Int) + 1) R6.out (by omega)).mono ?_
              rw [hct]
              rintro e w7 ⟨rfl, rfl⟩
              clear q0 q1 q2
              go_wp2_with fail
              refine (PB.out _ _ _ O6.out.reads O6.out.lt).mono ?_
              rintro e w8 ⟨B8, d8, rfl, hO, hB, hc⟩
              have O8 := Lib.hid hO
              have K8 := Lib.hid (K6.out.trans hc)
              have O9 := Lib.hid (O6.out.chg hc (by simp))
              clear hO hB hc p0 p1 p2
              obtain ⟨p0, p1, p2⟩ := CA.out _ K8.out
              obtain ⟨r0, r1, r2⟩ := CC.out _ K8.out
              (try simp only at p0 p1 p2 r0 r1 r2)
              go_wp2_with fail
              refine (samemem_any _ _ _ _ _ _ _ t t O8.out.reads (RT.out _ K8.out) (by omega) (by omega)).mono ?_
              rw [show (t == t) = true by simp]
              rintro e w9 ⟨rfl, hc⟩
              have K9 := Lib.hid (K8.out.trans hc)
              have OA := Lib.hid (O9.out.chg hc (by simp))
              clear hc
              go_wp2_with fail
              refine (PC.out _ _ _ OA.out.reads OA.out.lt).mono ?_
              rintro e w10 ⟨rfl, hc⟩
              have KA := Lib.hid (K9.out.trans hc)
              clear hc
              go_wp2
              go_ret
              exact ⟨rfl, HC.out.trans KA.out⟩

theorem topoloops_yes (w : World) (A : Option Addr) (m c : Nat) (l : List ActT) (n up : Int) (h : RdK actTy w A m l) (hm : m * 32 ≤ 140737488351232) :
    Calls Try.prog 7 #[.slice A m c, .int .i64 n, .int .i64 up] w fun e w' => e = .returned (.bool true) ∧ Chg [] w w' := by
  have hl := h.len
  subst hl
  exact topoloops_walk w A c l n up h (by omega)
end Go.Proofs.Ytleioiihoplmaaa
