/- ChunkBack, walked. -/
import Derived.Test.YtnpilljjkfjjiaaCkknw
namespace Go.Proofs.Ytnpilljjkfjjiaa
open Go.RowKit Go.Lib
set_option linter.unusedSimpArgs false
set_option linter.unusedVariables false

/-- What the box has ahead of piece i. -/
def PB (q it : Int) (xs : List UInt8) (i : Nat) (st : BoxT) : Prop := i = 0 ∨ (q < (xs.length : Int) ∧ st = (0, 0, [])) ∨ (¬ q < (xs.length : Int) ∧ i * 200 < xs.length ∧ st = (it, (xs.length : Int), xs.take (i * 200))) ∨ (¬ q < (xs.length : Int) ∧ xs.length ≤ i * 200 ∧ st = (0, 0, []))
theorem put_pieces {q it : Int} {xs : List UInt8} {i : Nat} {st : BoxT} (i1 : 1 ≤ it) (i2 : it ≤ 1099511627776) (hl : xs.length ≤ 60000) (hi : i * 200 < xs.length) (h : PB q it xs i st) :
    (q < (xs.length : Int) → i = 0 → putC q st 1 it (xs.length : Int) ((i : Int) * 200) (pieceR xs i) = ([], 8, 0, 0, [])) ∧
    (q < (xs.length : Int) → i ≠ 0 → putC q st 1 it (xs.length : Int) ((i : Int) * 200) (pieceR xs i) = ([], 9, 0, 0, [])) ∧
    (¬ q < (xs.length : Int) → (i + 1) * 200 < xs.length → putC q st 1 it (xs.length : Int) ((i : Int) * 200) (pieceR xs i) = ([], 0, it, (xs.length : Int), xs.take ((i + 1) * 200))) ∧
    (¬ q < (xs.length : Int) → xs.length ≤ (i + 1) * 200 → putC q st 1 it (xs.length : Int) ((i : Int) * 200) (pieceR xs i) = (xs, 0, 0, 0, [])) := by
  have both : ¬ q < (xs.length : Int) → putC q st 1 it (xs.length : Int) ((i : Int) * 200) (pieceR xs i) = finC it (xs.length : Int) (xs.take ((i + 1) * 200)) := by
    intro hq
    by_cases h0 : i = 0
    · subst h0
      exact put_first st i1 i2 hl (by omega) hq
    · rcases h with h | ⟨h, _⟩ | ⟨_, _, rfl⟩ | ⟨_, h, _⟩
      · exact absurd h h0
      · exact absurd h hq
      · exact put_next i1 i2 hl (by omega) hi
      · omega
  refine ⟨fun hq h0 => ?_, fun hq h0 => ?_, fun hq hm => (both hq).trans (fin_more hm), fun hq hm => (both hq).trans (fin_last hm)⟩
  · subst h0
    exact put_full st i1 i2 hl (by omega) hq
  · rcases h with h | ⟨_, rfl⟩ | ⟨h, _, _⟩ | ⟨h, _, _⟩
    · exact absurd h h0
    · exact put_state (0, 0, []) i1 i2 hl (by omega) hi (by simp; omega)
    · exact absurd hq h
    · exact absurd hq h

set_option maxRecDepth 100000 in
set_option maxHeartbeats 8000000 in
theorem ckback_yes (w : World) (it0 : Int) (A : Option Addr) (n c : Nat) (xs : List UInt8) (q0 : Int) (A3 : Option Addr) (n3 c3 : Nat) (zs : List MsgT) (hr : Bs w A n xs) (hn : n ≤ 140737488351232) (hnc : n ≤ c) (hc : c ≤ 9223372036854775807) (h3 : RdK msgTy w A3 n3 zs) (hn3 : n3 ≤ 140737488351232) (hu : ∀ x ∈ zs, MsgR w x) :
    Calls Try.prog 7 #[.int .i64 it0, .slice A n c, .int .i64 q0, .slice A3 n3 c3] w fun e w' => e = .returned (.bool true) ∧ Chg [] w w' := by
  have hl := hr.len
  subst hl
  have p0 := Int.emod_nonneg it0 (show (1099511627776 : Int) ≠ 0 by omega)
  have p1 := Int.emod_lt_of_pos it0 (show (0 : Int) < 1099511627776 by omega)
  have q0_ := Int.emod_nonneg q0 (show (4000 : Int) ≠ 0 by omega)
  have q1 := Int.emod_lt_of_pos q0 (show (0 : Int) < 4000 by omega)
  have PK := Lib.hid (fun W => pick_any W it0 1099511627776 (by omega) (by omega))
  have PQ := Lib.hid (fun W => pick_any W q0 4000 (by omega) (by omega))
  have KN := Lib.hid (fun W => ckknown_any W)
  generalize it0 % 1099511627776 = p at *
  generalize q0 % 4000 = q at *
  obtain ⟨it, hit⟩ : ∃ it, it = 1 + p := ⟨_, rfl⟩
  have i1 : 1 ≤ it := by omega
  have i2 : it ≤ 1099511627776 := by omega
  have kw : IntKind.i64.wrap (1 + p) = it := by rw [IntWalk.i64_in _ (by omega)]; exact hit.symm
  have NW := Lib.hid (fun W => bxnew_any W q (by omega) (by omega))
  have QQ := Lib.hid (show 0 ≤ q ∧ q ≤ 60000 from ⟨by omega, by omega⟩)
  have II := Lib.hid (show 1 ≤ it ∧ it ≤ 1099511627776 from ⟨i1, i2⟩)
  have H := Lib.hid hr
  have H3 := Lib.hid h3
  have HU := Lib.hid hu
  have HN := Lib.hid (show xs.length ≤ c ∧ c ≤ 9223372036854775807 ∧ n3 ≤ 140737488351232 from ⟨hnc, hc, hn3⟩)
  clear p0 p1 q0_ q1 hit i1 i2 h3 hu hn hnc hc hn3
  go_enter Try.func7, Try.ntmps7
  go_wp2_with fail
  refine (KN.out w).mono ?_
  rintro e w1 ⟨rfl, hC⟩
  have C := Lib.hid hC
  have C1 := Lib.hid hC
  clear hC KN
  go_wp2_with fail
  refine (PK.out _).mono ?_
  rintro e v1 ⟨rfl, rfl⟩
  go_wp2_with fail
  refine (PQ.out _).mono ?_
  rintro e v1 ⟨rfl, rfl⟩
  go_wp2_with fail
  refine (NW.out _).mono ?_
  rintro e w2 ⟨bx, rfl, hbx, hlx, hC⟩
  have B := Lib.hid hbx
  have LX := Lib.hid (show w1.heap.size ≤ bx ∧ bx < w2.heap.size from ⟨hlx, lt_of_heap hbx⟩)
  replace C := Lib.hid (C.out.trans hC)
  clear hbx hlx hC PK PQ NW kw
  by_cases hz : xs.length = 0
  · skip
    have t0 : ((xs.length : Int) == 0) = true := by simpa using hz
    have t1 : ((xs.length : Int) = 0) := by omega
    have HZ := Lib.hid hz
    clear hz
    go_wp2
    go_ret
    exact ⟨rfl, C.out⟩
  have t0 : ((xs.length : Int) == 0) = false := by simpa using hz
  have t1 : ¬ ((xs.length : Int) = 0) := by omega
  by_cases hb : 3000 < xs.length
  · skip
    have t2 : ((xs.length : Int) > 3000) := by omega
    go_wp2
    go_ret
    exact ⟨rfl, C.out⟩
  have t2 : ¬ ((xs.length : Int) > 3000) := by omega
  by_cases ha : 20 < n3
  · skip
    have t3 : ((n3 : Int) > 20) := by omega
    go_wp2
    go_ret
    exact ⟨rfl, C.out⟩
  have t3 : ¬ ((n3 : Int) > 20) := by omega
  have h0 : 0 < xs.length := by omega
  obtain ⟨ga, oa, rfl⟩ : ∃ g o, A = some ⟨g, o, none⟩ := by
    obtain ⟨ad, rfl, hcell⟩ := H.out.cells 0 _ (List.getElem?_eq_getElem h0)
    have hsp := World.cell?_spot hcell
    obtain ⟨b, f, sp⟩ := ad
    have hsp : sp = none := by simpa [Addr.add] using hsp
    subst hsp
    exact ⟨b, f, rfl⟩
  have hga : ga < w.heap.size := by
    rcases H.out.old with e | e
    · rw [e] at h0; simp at h0
    · exact e _ rfl
  have CT := Lib.hid (bxcut_any w2 it ga oa c xs (H.out.chg C.out (by simp)) h0 (by omega) HN.out.1 HN.out.2.1 II.out.1 II.out.2 (by have := C.out.size; omega))
  have GA := Lib.hid hga
  have XL := Lib.hid (show 0 < xs.length ∧ xs.length ≤ 3000 from ⟨h0, by omega⟩)
  have NL := Lib.hid (show n3 ≤ 20 by omega)
  clear hga h0 hz hb ha
  go_wp2_with fail
  refine CT.out.mono ?_
  rintro e w3 ⟨B', d, l, rfl, hO, hln, hP, hB, hC⟩
  obtain ⟨gB, rfl⟩ := hO.row0 (by have := XL.out; rw [hln]; unfold piecesN; omega)
  have O := Lib.hid hO
  have P := Lib.hid hP
  have LN := Lib.hid hln
  have t4 : (((xs.length : Int) + 199).tdiv 200) = (l.length : Int) := by rw [Int.tdiv_eq_ediv_of_nonneg (by omega), hln]; unfold piecesN; omega
  have t5 : IntKind.i64.wrap ((xs.length : Int) + 199) = (xs.length : Int) + 199 := IntWalk.i64_in _ (by have := XL.out; omega)
  have t6 : IntKind.i64.wrap (l.length : Int) = (l.length : Int) := IntWalk.i64_in _ (by have := XL.out; rw [hln]; unfold piecesN; omega)
  have C3 := Lib.hid hC
  replace B := Lib.hid (hC.at_ B.out (by simp))
  have GB := Lib.hid (show gB < w3.heap.size ∧ gB ≠ bx from ⟨by
    rcases hO.reads.old with e | e
    · rw [e] at hln; have := XL.out; simp [piecesN] at hln; omega
    · exact e _ rfl, by have q : w2.heap.size ≤ gB := hB _ rfl; have := LX.out; omega⟩)
  have K0 : Hid (∃ st, KnS w3 w3 bx bx q st ∧ InvC q st) := Lib.hid ⟨(0, 0, []), ⟨none, 0, B.out, OwnB.none_ _, by simp, Chg.refl _ _⟩, by have := QQ.out; unfold InvC; simp; omega⟩
  clear hO hP hln hC hB CT
  go_wp2
  clear t0 t1 t2 t3 t4 t5 t6
  go_loopw [14] (fun v wr => ∃ k : Nat, k ≤ n3 ∧ v = .int .i64 (k : Int) ∧ Hid (∃ st, KnS w3 wr bx bx q st ∧ InvC q st)) (fun v _ => n3 - (RowKit.intOf v).toNat)
  case atStart => exact ⟨0, Nat.zero_le _, rfl, K0⟩
  case round =>
    obtain ⟨k, hk, rfl, HI⟩ := hrel
    have j0 : (0 : Int) ≤ (k : Int) := by omega
    have j1 : IntKind.i64.wrap ((k : Int) + 1) = (k : Int) + 1 := IntWalk.i64_in _ (by have := NL.out; omega)
    by_cases hlt : k < n3
    · have j2 : (k : Int) < (n3 : Int) := by omega
      have hzl := H3.out.len
      obtain ⟨x, hx⟩ : ∃ x, zs[k]? = some x := ⟨_, List.getElem?_eq_getElem (by omega)⟩
      obtain ⟨ys, hy, hyn, _, _⟩ := HU.out x (List.mem_of_getElem? hx)
      obtain ⟨g3, o3, rfl, hg3⟩ := H3.out.line (by omega)
      obtain ⟨st, hkn, hinv⟩ := HI.out
      have hcc := C.out.trans C3.out
      have hne : ∀ z, z < w.heap.size → z ∉ [bx, bx] := fun z hz hm => by have := LX.out; have := C1.out.size; simp at hm; omega
      have cc := msgCells ((H3.out.chg hcc (by simp)).chg hkn.k (by rintro a ⟨⟩; exact hne _ hg3)) hx
      have hyo := hy.old
      have hy4 : Bs wr x.2.2.2.2.1 x.2.2.2.2.2.1 ys := by
        cases ys with
        | nil => have := hy.len; simp at this; rw [← this]; exact Bs.nil _ _
        | cons y ys => exact (hy.chg hcc (by simp)).chg hkn.k (fun a ha => hne _ ((hyo.resolve_left (by simp)) a ha))
      obtain ⟨m1, m2, m3, m4, MA, mn, md⟩ := x
      dsimp only at cc hy4 hyn hyo
      obtain ⟨u0, u1, u2, u3, u4⟩ := cc
      obtain ⟨R, hR⟩ : ∃ R, putC q st m1 m2 m3 m4 ys = R := ⟨_, rfl⟩
      have PT := Lib.hid (put_kn hkn (by have := LX.out; have := C3.out.size; omega) hinv.2.2.1 m1 m2 m3 m4 MA mn md ys hy4 hyn (fun hne x hx => by have q := (hyo.resolve_left hne) x hx; have := LX.out; have := C1.out.size; have := hcc.size; omega) R hR)
      have IV := Lib.hid (show InvC q R.2.2 by rw [← hR]; exact putC_inv QQ.out.1 hinv)
      clear hx hy hyn hkn hinv hcc hne hyo hy4 hR hzl hg3
      go_wp2_with fail
      refine PT.out.mono ?_
      rintro e w5 ⟨A1, d1, rfl, _, hk5, _⟩
      have K5 := Lib.hid hk5
      clear hk5 PT u0 u1 u2 u3 u4
      go_wp2
      exact ⟨⟨k + 1, by omega, by simp, ⟨_, K5.out, IV.out⟩⟩, by simp [RowKit.intOf]; omega⟩
    · have j2 : ¬ (k : Int) < (n3 : Int) := by omega
      clear hlt j1 NL
      obtain ⟨stZ, hkZ, hiZ⟩ := HI.out
      have KZ := Lib.hid hkZ
      have IZ := Lib.hid hiZ
      clear hkZ hiZ HI
      go_wp2
      clear j2 j0 hk
      go_loopw [15, 16, 17, 18] (fun v v16 v17 v18 wq => ∃ i : Nat, i ≤ l.length ∧ v = .int .i64 (i : Int) ∧ Hid (∃ st, KnS w3 wq bx bx q st ∧ st.2.2.length ≤ 60000 ∧ PB q it xs i st)) (fun v _ _ _ _ => l.length - (RowKit.intOf v).toNat)
      case atStart => exact ⟨0, Nat.zero_le _, rfl, _, KZ.out, IZ.out.2.2.1, .inl rfl⟩
      case round =>
        clear KZ IZ
        obtain ⟨i, hi, rfl, HI⟩ := hrel
        generalize wr = wv at *
        have j0 : (0 : Int) ≤ (i : Int) := by omega
        have LB := Lib.hid (show l.length ≤ 15 ∧ 0 < l.length by have := XL.out; rw [LN.out]; unfold piecesN; omega)
        have j1 : IntKind.i64.wrap ((i : Int) + 1) = (i : Int) + 1 := IntWalk.i64_in _ (by have := LB.out; omega)
        have j3 : IntKind.i64.wrap ((l.length : Int) - 1) = (l.length : Int) - 1 := IntWalk.i64_in _ (by have := LB.out; omega)
        obtain ⟨st, hkn, hsl, hpb⟩ := HI.out
        by_cases hlt : i < l.length
        · have j2 : (i : Int) < (l.length : Int) := by omega
          have hil : i * 200 < xs.length := by have := LN.out; unfold piecesN at this; omega
          have hx := List.getElem?_eq_getElem hlt
          obtain ⟨h, cc, ex, oh, hh⟩ := P.out.1 i _ hx
          rw [ex] at hx
          have hhb : h ≠ bx := by have := LX.out; omega
          have hhl : h < w3.heap.size := oh.lt _ rfl
          have CE := Lib.hid (fun (W' : World) (hc : Chg [bx, bx] w3 W') => msgCells (O.out.reads.chg hc (by rintro a ⟨⟩; have := GB.out; simp; omega)) hx)
          simp only [Nat.zero_add] at CE
          have BE := Lib.hid (fun (W' : World) (hc : Chg [bx, bx] w3 W') => (show Bs W' (some ⟨h, 0, none⟩) (pieceL xs.length i) (pieceR xs i) by have := (oh.chg hc (by rintro a ⟨⟩; simp; omega)).reads; rwa [pieceR_len] at this))
          have MC := Lib.hid (fun W => mcheckm_any W 1 it (xs.length : Int) ((i : Int) * 200) (some ⟨h, 0, none⟩) (pieceL xs.length i) cc (by have := pieceL_le xs.length i; omega))
          have hck := piece_chk (it := it) (xs := xs) (j := i) II.out.1 II.out.2 (by have := XL.out; omega) hil
          rw [pieceR_len] at hck
          rw [hck] at MC
          have PT := Lib.hid (fun (W : World) (hk : KnS w3 W bx bx q st) (R : List UInt8 × Int × BoxT) (hR : putC q st 1 it (xs.length : Int) ((i : Int) * 200) (pieceR xs i) = R) => put_kn hk (by have := LX.out; have := C3.out.size; omega) hsl 1 it (xs.length : Int) ((i : Int) * 200) (some ⟨h, 0, none⟩) (pieceL xs.length i) cc (pieceR xs i) (BE.out _ hk.k) (by have := pieceL_le xs.length i; omega) (fun _ x hx => by cases hx; exact ⟨hhl, hhb⟩) R hR)
          have KW := Lib.hid hkn
          have PR := Lib.hid (put_pieces (q := q) II.out.1 II.out.2 (by have := XL.out; omega) hil hpb)
          have LT := Lib.hid hlt
          have LI := Lib.hid hil
          clear hkn hsl hpb hlt hil hx ex oh hh hhb hhl hck HI O P

          by_cases hq : q < (xs.length : Int)
          · skip
            have s0 : ((xs.length : Int) > q) := hq
            by_cases hz : i = 0
            · skip
              have HR := Lib.hid (PR.out.1 hq hz)
              have NB : Hid (PB q it xs (i + 1) (0, 0, [])) := Lib.hid (.inr (.inl ⟨hq, rfl⟩))
              have s1 : ((i : Int) == 0) = true := by simpa using hz
              clear hq hz
              obtain ⟨u0, u1, u2, u3, u4⟩ := CE.out _ KW.out.k
              go_wp2_with fail
              refine (MC.out _).mono ?_
              rintro e v5 ⟨rfl, hc⟩
              have K5 := Lib.hid (KW.out.chg hc)
              clear hc u0 u1 u2 u3 u4
              obtain ⟨u0, u1, u2, u3, u4⟩ := CE.out _ K5.out.k
              go_wp2_with fail
              refine (PT.out _ K5.out _ HR.out).mono ?_
              rintro e v6 ⟨A1, d1, rfl, oa1, hk, _⟩
              have K6 := Lib.hid hk
              obtain ⟨A2, d2, hb2, _, _, _⟩ := hk
              have IT := Lib.hid (bxitem_any _ _ _ _ _ _ _ _ hb2)
              have US := Lib.hid (bxused_any _ _ _ _ _ _ _ _ hb2)
              have OA := Lib.hid oa1
              clear u0 u1 u2 u3 u4 hb2 oa1
              go_wp2_with fail
              refine IT.out.mono ?_
              rintro e v7 ⟨rfl, rfl⟩
              go_wp2_with fail
              refine US.out.mono ?_
              rintro e v7 ⟨rfl, rfl⟩
              go_wp2
              exact ⟨⟨i + 1, by have := LT.out; omega, by simp, _, K6.out, by first | (simp; done) | (simp; have := XL.out; omega), NB.out⟩, by have := LT.out; simp [RowKit.intOf]; omega⟩
            have HR := Lib.hid (PR.out.2.1 hq hz)
            have NB : Hid (PB q it xs (i + 1) (0, 0, [])) := Lib.hid (.inr (.inl ⟨hq, rfl⟩))
            have s1 : ((i : Int) == 0) = false := by simpa using hz
            have s2 : ¬ (i : Int) = 0 := by omega
            clear hq hz
            obtain ⟨u0, u1, u2, u3, u4⟩ := CE.out _ KW.out.k
            go_wp2_with fail
            refine (MC.out _).mono ?_
            rintro e v5 ⟨rfl, hc⟩
            have K5 := Lib.hid (KW.out.chg hc)
            clear hc u0 u1 u2 u3 u4
            obtain ⟨u0, u1, u2, u3, u4⟩ := CE.out _ K5.out.k
            go_wp2_with fail
            refine (PT.out _ K5.out _ HR.out).mono ?_
            rintro e v6 ⟨A1, d1, rfl, oa1, hk, _⟩
            have K6 := Lib.hid hk
            obtain ⟨A2, d2, hb2, _, _, _⟩ := hk
            have IT := Lib.hid (bxitem_any _ _ _ _ _ _ _ _ hb2)
            have US := Lib.hid (bxused_any _ _ _ _ _ _ _ _ hb2)
            have OA := Lib.hid oa1
            clear u0 u1 u2 u3 u4 hb2 oa1
            go_wp2_with fail
            refine US.out.mono ?_
            rintro e v7 ⟨rfl, rfl⟩
            go_wp2
            exact ⟨⟨i + 1, by have := LT.out; omega, by simp, _, K6.out, by first | (simp; done) | (simp; have := XL.out; omega), NB.out⟩, by have := LT.out; simp [RowKit.intOf]; omega⟩
          have s0 : ¬ ((xs.length : Int) > q) := hq
          by_cases hm : (i + 1) * 200 < xs.length
          · skip
            have HR := Lib.hid (PR.out.2.2.1 hq hm)
            have NB : Hid (PB q it xs (i + 1) (it, (xs.length : Int), xs.take ((i + 1) * 200))) := Lib.hid (.inr (.inr (.inl ⟨hq, hm, rfl⟩)))
            have s2 : ¬ (i : Int) = (l.length : Int) - 1 := by have := LN.out; unfold piecesN at this; omega
            have s1 : ((i : Int) == (l.length : Int) - 1) = false := by simpa using s2
            clear hq hm
            obtain ⟨u0, u1, u2, u3, u4⟩ := CE.out _ KW.out.k
            go_wp2_with fail
            refine (MC.out _).mono ?_
            rintro e v5 ⟨rfl, hc⟩
            have K5 := Lib.hid (KW.out.chg hc)
            clear hc u0 u1 u2 u3 u4
            obtain ⟨u0, u1, u2, u3, u4⟩ := CE.out _ K5.out.k
            go_wp2_with fail
            refine (PT.out _ K5.out _ HR.out).mono ?_
            rintro e v6 ⟨A1, d1, rfl, oa1, hk, _⟩
            have K6 := Lib.hid hk
            obtain ⟨A2, d2, hb2, _, _, _⟩ := hk
            have IT := Lib.hid (bxitem_any _ _ _ _ _ _ _ _ hb2)
            have US := Lib.hid (bxused_any _ _ _ _ _ _ _ _ hb2)
            have OA := Lib.hid oa1
            clear u0 u1 u2 u3 u4 hb2 oa1
            go_wp2
            exact ⟨⟨i + 1, by have := LT.out; omega, by simp, _, K6.out, by first | (simp; done) | (simp; have := XL.out; omega), NB.out⟩, by have := LT.out; simp [RowKit.intOf]; omega⟩
          have HR := Lib.hid (PR.out.2.2.2 hq (by omega))
          have NB : Hid (PB q it xs (i + 1) (0, 0, [])) := Lib.hid (.inr (.inr (.inr ⟨hq, by omega, rfl⟩)))
          have s2 : (i : Int) = (l.length : Int) - 1 := by have hn := LN.out; have := LT.out; have := LB.out; unfold piecesN at hn; omega
          have s1 : ((i : Int) == (l.length : Int) - 1) = true := by simpa using s2
          clear hq hm s2
          obtain ⟨u0, u1, u2, u3, u4⟩ := CE.out _ KW.out.k
          go_wp2_with fail
          refine (MC.out _).mono ?_
          rintro e v5 ⟨rfl, hc⟩
          have K5 := Lib.hid (KW.out.chg hc)
          clear hc u0 u1 u2 u3 u4
          obtain ⟨u0, u1, u2, u3, u4⟩ := CE.out _ K5.out.k
          go_wp2_with fail
          refine (PT.out _ K5.out _ HR.out).mono ?_
          rintro e v6 ⟨A1, d1, rfl, oa1, hk, _⟩
          have K6 := Lib.hid hk
          obtain ⟨A2, d2, hb2, _, _, _⟩ := hk
          have IT := Lib.hid (bxitem_any _ _ _ _ _ _ _ _ hb2)
          have US := Lib.hid (bxused_any _ _ _ _ _ _ _ _ hb2)
          have OA := Lib.hid oa1
          clear u0 u1 u2 u3 u4 hb2 oa1
          go_wp2_with fail
          refine (same_yes _ _ _ _ _ _ _ xs xs OA.out.reads ((H.out.chg (C.out.trans C3.out) (by simp)).chg K6.out.k (by rintro a ⟨⟩; have := GA.out; have := LX.out; have := C1.out.size; simp; omega)) rfl).mono ?_
          rintro e v7 ⟨rfl, rfl⟩
          go_wp2
          exact ⟨⟨i + 1, by have := LT.out; omega, by simp, _, K6.out, by first | (simp; done) | (simp; have := XL.out; omega), NB.out⟩, by have := LT.out; simp [RowKit.intOf]; omega⟩
        · skip
          have j2 : ¬ (i : Int) < (l.length : Int) := by omega
          have hst : st = (0, 0, []) := by
            have := LB.out
            have hn := LN.out
            unfold piecesN at hn
            rcases hpb with h | ⟨_, h⟩ | ⟨_, h, _⟩ | ⟨_, _, h⟩
            · omega
            · exact h
            · omega
            · exact h
          subst hst
          have K6 := Lib.hid hkn
          obtain ⟨A2, d2, hb2, _, _, _⟩ := hkn
          have IT := Lib.hid (bxitem_any _ _ _ _ _ _ _ _ hb2)
          have US := Lib.hid (bxused_any _ _ _ _ _ _ _ _ hb2)
          clear hb2 hpb hsl hlt hi HI
          go_wp2_with fail
          refine IT.out.mono ?_
          rintro e v7 ⟨rfl, rfl⟩
          go_wp2_with fail
          refine US.out.mono ?_
          rintro e v7 ⟨rfl, rfl⟩
          go_wp2
          go_ret
          refine ⟨rfl, (C.out.trans C3.out).trans' K6.out.k (fun z hz => .inr ?_)⟩
          have := LX.out
          have := C1.out.size
          simp at hz
          omega
end Go.Proofs.Ytnpilljjkfjjiaa
