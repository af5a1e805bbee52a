/- Topologies: Move, the document's. -/
import Derived.Test.YtleioiihoplmaaaTochg0
import Derived.Deep.Cut
namespace Go.Proofs.Ytleioiihoplmaaa
open Go.RowKit
set_option linter.unusedSimpArgs false
set_option linter.unusedVariables false



set_option maxRecDepth 100000 in
set_option maxHeartbeats 4000000 in
theorem tqmove_any (w : World) (A : Option Addr) (c : Nat) (t : List MemT) (n up : Int) (h : RdK memTy w A t.length t) (hN : t.length ≤ 100000000) :
    Calls Try.prog 14 #[.slice A t.length c, .int .i64 n, .int .i64 up] w fun e w' => ∃ B d, e = .returned (.tuple #[.slice B (moveR t n up).1.length d, .int .i64 (moveR t n up).2]) ∧ OwnK memTy w' B d (moveR t n up).1 ∧ (∀ a, B = some a → w.heap.size ≤ a.block) ∧ Chg [] w w' := by
  obtain ⟨R, hR⟩ : ∃ R, moveR t n up = R := ⟨_, rfl⟩
  rw [hR]
  unfold moveR at hR
  have CK := Lib.hid (tqcheck_any w A c t h hN)
  have TH := Lib.hid (fun w => tqthere_any w A c t n)
  have TU := Lib.hid (fun w => tqthere_any w A c t up)
  have UP := Lib.hid (fun (w' : World) (hc : Chg [] w w') => tqup_any w' A c t up (h.chg hc (by simp)) hN)
  have HR := Lib.hid h
  cases hck : checkT t with
  | false =>
    rw [hck] at CK
    have hr : R = ([], 2) := by rw [← hR]; simp [hck]
    subst hr
    clear hR
    go_enter Try.func14, Try.ntmps14
    go_wp2_with fail
    refine CK.out.mono ?_
    rintro e w2 ⟨rfl, h2⟩
    have K2 := Lib.hid h2
    clear h2
    go_wp2
    go_ret2
    exact ⟨none, 0, rfl, OwnK.none_ _, by simp, K2.out⟩
  | true =>
    rw [hck] at CK
    cases htha : thereT t n with
    | false =>
      rw [htha] at TH
      have hr : R = ([], 2) := by rw [← hR]; simp [htha]
      subst hr
      clear hR
      go_enter Try.func14, Try.ntmps14
      go_wp2_with fail
      refine CK.out.mono ?_
      rintro e w2 ⟨rfl, h2⟩
      have K2 := Lib.hid h2
      clear h2
      go_wp2_with fail
      refine (TH.out _).mono ?_
      rintro e v2 ⟨rfl, hv⟩
      subst hv
      go_wp2
      go_ret2
      exact ⟨none, 0, rfl, OwnK.none_ _, by simp, K2.out⟩
    | true =>
      rw [htha] at TH
      cases hthb : thereT t up with
      | false =>
        rw [hthb] at TU
        have hr : R = ([], 2) := by rw [← hR]; simp [hthb]
        subst hr
        clear hR
        go_enter Try.func14, Try.ntmps14
        go_wp2_with fail
        refine CK.out.mono ?_
        rintro e w2 ⟨rfl, h2⟩
        have K2 := Lib.hid h2
        clear h2
        go_wp2_with fail
        refine (TH.out _).mono ?_
        rintro e v2 ⟨rfl, hv⟩
        subst hv
        go_wp2_with fail
        refine (TU.out _).mono ?_
        rintro e v2 ⟨rfl, hv⟩
        subst hv
        go_wp2
        go_ret2
        exact ⟨none, 0, rfl, OwnK.none_ _, by simp, K2.out⟩
      | true =>
        have hb : (thereT t n && thereT t up && checkT t) = true := by rw [htha, hthb, hck]; rfl
        rw [hb] at hR
        rw [hthb] at TU
        obtain ⟨_, hw0, _⟩ := check_way hck hthb
        have LW := way_len' t t.length up
        rw [← hw0] at UP
        generalize wayT t t.length up = wl at *
        clear hw0
        simp only [Bool.not_true, Bool.false_eq_true, if_false] at hR
        by_cases h1 : n = 1
        · subst h1
          have h1b : ((1 : Int) == 1) = true := by decide
          have hr : R = ([], 2) := by rw [← hR]; simp []
          subst hr
          clear hR
          go_enter Try.func14, Try.ntmps14
          go_wp2_with fail
          refine CK.out.mono ?_
          rintro e w2 ⟨rfl, h2⟩
          have K2 := Lib.hid h2
          clear h2
          go_wp2_with fail
          refine (TH.out _).mono ?_
          rintro e v2 ⟨rfl, hv⟩
          subst hv
          go_wp2_with fail
          refine (TU.out _).mono ?_
          rintro e v2 ⟨rfl, hv⟩
          subst hv
          go_wp2
          go_ret2
          exact ⟨none, 0, rfl, OwnK.none_ _, by simp, K2.out⟩
        have h1b : (n == 1) = false := by simpa using h1
        rw [h1b] at hR
        simp only [Bool.false_eq_true, if_false] at hR
        have hEa := there_at htha
        obtain ⟨g, o, eA, _⟩ := h.line (by omega)
        subst eA
        obtain ⟨ka, hka⟩ : ∃ k : Nat, n = (k : Int) + 1 := ⟨(n - 1).toNat, by omega⟩
        have hk0a : (n - 1).toNat = ka := by omega
        have PMa := Lib.hid (fun (w' : World) (hc : Chg [] w w') => memCells (h.chg hc (by simp)) hEa.2.2.2.2)
        have EXa := Lib.hid hEa.2.2.2.2
        rw [hk0a] at PMa EXa
        (try rw [hk0a] at hR)
        have KLa : ka < t.length := by omega
        generalize memT t n = ma at *
        obtain ⟨x0a, xua, xda⟩ := ma
        (try simp only at PMa hR)
        have qaa : IntKind.i64.wrap ((ka : Int)) = (ka : Int) := IntWalk.i64_in _ (by omega)
        have qba : (0 : Int) ≤ (ka : Int) := by omega
        have qca : (ka : Int) < (t.length : Int) := by omega
        clear hEa hk0a
        have hEb := there_at hthb
        skip
        skip
        obtain ⟨kb, hkb⟩ : ∃ k : Nat, up = (k : Int) + 1 := ⟨(up - 1).toNat, by omega⟩
        have hk0b : (up - 1).toNat = kb := by omega
        have PMb := Lib.hid (fun (w' : World) (hc : Chg [] w w') => memCells (h.chg hc (by simp)) hEb.2.2.2.2)
        have EXb := Lib.hid hEb.2.2.2.2
        rw [hk0b] at PMb EXb
        (try rw [hk0b] at hR)
        have KLb : kb < t.length := by omega
        generalize memT t up = mb at *
        obtain ⟨x0b, xub, xdb⟩ := mb
        (try simp only at PMb hR)
        have qab : IntKind.i64.wrap ((kb : Int)) = (kb : Int) := IntWalk.i64_in _ (by omega)
        have qbb : (0 : Int) ≤ (kb : Int) := by omega
        have qcb : (kb : Int) < (t.length : Int) := by omega
        clear hEb hk0b
        cases xda with
        | true =>
          have hr : R = ([], 14) := by rw [← hR]; simp []
          subst hr
          clear hR
          subst hka
          subst hkb
          go_enter Try.func14, Try.ntmps14
          go_wp2_with fail
          refine CK.out.mono ?_
          rintro e w2 ⟨rfl, h2⟩
          have K2 := Lib.hid h2
          clear h2
          go_wp2_with fail
          refine (TH.out _).mono ?_
          rintro e v2 ⟨rfl, hv⟩
          subst hv
          go_wp2_with fail
          refine (TU.out _).mono ?_
          rintro e v2 ⟨rfl, hv⟩
          subst hv
          obtain ⟨p0a, p1a, p2a⟩ := PMa.out _ K2.out
          (try simp only at p0a p1a p2a)
          obtain ⟨p0b, p1b, p2b⟩ := PMb.out _ K2.out
          (try simp only at p0b p1b p2b)
          go_wp2
          go_ret2
          exact ⟨none, 0, rfl, OwnK.none_ _, by simp, K2.out⟩
        | false =>
          cases xdb with
          | true =>
            have hr : R = ([], 14) := by rw [← hR]; simp []
            subst hr
            clear hR
            subst hka
            subst hkb
            go_enter Try.func14, Try.ntmps14
            go_wp2_with fail
            refine CK.out.mono ?_
            rintro e w2 ⟨rfl, h2⟩
            have K2 := Lib.hid h2
            clear h2
            go_wp2_with fail
            refine (TH.out _).mono ?_
            rintro e v2 ⟨rfl, hv⟩
            subst hv
            go_wp2_with fail
            refine (TU.out _).mono ?_
            rintro e v2 ⟨rfl, hv⟩
            subst hv
            obtain ⟨p0a, p1a, p2a⟩ := PMa.out _ K2.out
            (try simp only at p0a p1a p2a)
            obtain ⟨p0b, p1b, p2b⟩ := PMb.out _ K2.out
            (try simp only at p0b p1b p2b)
            go_wp2
            go_ret2
            exact ⟨none, 0, rfl, OwnK.none_ _, by simp, K2.out⟩
          | false =>
            simp only [Bool.or_false, Bool.false_eq_true, if_false] at hR
            by_cases h3 : x0b = 3
            · subst h3
              have hr : R = ([], 15) := by rw [← hR]; simp []
              subst hr
              clear hR
              subst hka
              subst hkb
              go_enter Try.func14, Try.ntmps14
              go_wp2_with fail
              refine CK.out.mono ?_
              rintro e w2 ⟨rfl, h2⟩
              have K2 := Lib.hid h2
              clear h2
              go_wp2_with fail
              refine (TH.out _).mono ?_
              rintro e v2 ⟨rfl, hv⟩
              subst hv
              go_wp2_with fail
              refine (TU.out _).mono ?_
              rintro e v2 ⟨rfl, hv⟩
              subst hv
              obtain ⟨p0a, p1a, p2a⟩ := PMa.out _ K2.out
              (try simp only at p0a p1a p2a)
              obtain ⟨p0b, p1b, p2b⟩ := PMb.out _ K2.out
              (try simp only at p0b p1b p2b)
              go_wp2
              go_ret2
              exact ⟨none, 0, rfl, OwnK.none_ _, by simp, K2.out⟩
            have h3b : (x0b == 3) = false := by simpa using h3
            rw [h3b] at hR
            simp only [Bool.false_eq_true, if_false] at hR
            cases hct : wl.contains n with
            | true =>
              rw [hct] at hR
              have hr : R = ([], 13) := by rw [← hR]; simp []
              subst hr
              clear hR
              subst hka
              subst hkb
              go_enter Try.func14, Try.ntmps14
              go_wp2_with fail
              refine CK.out.mono ?_
              rintro e w2 ⟨rfl, h2⟩
              have K2 := Lib.hid h2
              clear h2
              go_wp2_with fail
              refine (TH.out _).mono ?_
              rintro e v2 ⟨rfl, hv⟩
              subst hv
              go_wp2_with fail
              refine (TU.out _).mono ?_
              rintro e v2 ⟨rfl, hv⟩
              subst hv
              obtain ⟨p0a, p1a, p2a⟩ := PMa.out _ K2.out
              (try simp only at p0a p1a p2a)
              obtain ⟨p0b, p1b, p2b⟩ := PMb.out _ K2.out
              (try simp only at p0b p1b p2b)
              go_wp2_with fail
              refine (UP.out _ K2.out).mono ?_
              rintro e w3 ⟨B3, d3, rfl, o3, n3, h3⟩
              have K3 := Lib.hid (K2.out.trans h3)
              have R3 := Lib.hid o3.reads
              clear o3 n3 h3 p0a p1a p2a p0b p1b p2b
              go_wp2
              go_loopw [9] (fun v5 wr => ∃ k : Nat, k ≤ wl.length ∧ v5 = .int .i64 (k : Int) ∧ Hid (((ka : Int) + 1) ∉ wl.take k) ∧ wr = w3) (fun v5 _ => wl.length - (RowKit.intOf v5).toNat)
              case atStart => exact ⟨0, Nat.zero_le _, rfl, Lib.hid (by simp), rfl⟩
              case round =>
                obtain ⟨k, hk, rfl, HC, rfl⟩ := hrel
                have k1 : IntKind.i64.wrap ((k : Int) + 1) = (k : Int) + 1 := IntWalk.i64_in _ (by omega)
                have i0 : (0 : Int) ≤ (k : Int) := by omega
                by_cases hlt : k < wl.length
                · skip
                  have i1 : (k : Int) < (wl.length : Int) := by omega
                  obtain ⟨g3, o3, eB, _⟩ := R3.out.line (by omega)
                  subst eB
                  have ex := List.getElem?_eq_getElem hlt
                  have z := intCells R3.out ex
                  have HT := Lib.hid (List.take_succ_eq_append_getElem hlt)
                  have HM := Lib.hid (List.getElem_mem hlt)
                  generalize wl[k] = y at *
                  clear ex
                  by_cases hx : y = (ka : Int) + 1
                  · skip
                    subst hx
                    go_wp2
                    go_ret2
                    exact ⟨none, 0, rfl, OwnK.none_ _, by simp, K3.out⟩
                  · skip
                    have hxb : (y == (ka : Int) + 1) = false := by simpa using hx
                    have HX := Lib.hid hx
                    clear hx
                    go_wp2
                    exact ⟨⟨k + 1, by omega, by simp, Lib.hid (by rw [HT.out, List.mem_append]; rintro (h | h); exact HC.out h; exact HX.out (List.mem_singleton.1 h).symm), trivial⟩, by simp [RowKit.intOf]; omega⟩
                · skip
                  obtain rfl : k = wl.length := by omega
                  have := HC.out
                  rw [List.take_length, ← List.contains_iff_mem] at this
                  exact absurd hct this
            | false =>
              rw [hct] at hR
              have hr : R = (t.set ka (x0a, up, false), 0) := by rw [← hR]; simp []
              subst hr
              clear hR
              subst hka
              subst hkb
              go_enter Try.func14, Try.ntmps14
              go_wp2_with fail
              refine CK.out.mono ?_
              rintro e w2 ⟨rfl, h2⟩
              have K2 := Lib.hid h2
              clear h2
              go_wp2_with fail
              refine (TH.out _).mono ?_
              rintro e v2 ⟨rfl, hv⟩
              subst hv
              go_wp2_with fail
              refine (TU.out _).mono ?_
              rintro e v2 ⟨rfl, hv⟩
              subst hv
              obtain ⟨p0a, p1a, p2a⟩ := PMa.out _ K2.out
              (try simp only at p0a p1a p2a)
              obtain ⟨p0b, p1b, p2b⟩ := PMb.out _ K2.out
              (try simp only at p0b p1b p2b)
              go_wp2_with fail
              refine (UP.out _ K2.out).mono ?_
              rintro e w3 ⟨B3, d3, rfl, o3, n3, h3⟩
              have K3 := Lib.hid (K2.out.trans h3)
              have R3 := Lib.hid o3.reads
              clear o3 n3 h3 p0a p1a p2a p0b p1b p2b
              go_wp2
              go_loopw [9] (fun v5 wr => ∃ k : Nat, k ≤ wl.length ∧ v5 = .int .i64 (k : Int) ∧ Hid (((ka : Int) + 1) ∉ wl.take k) ∧ wr = w3) (fun v5 _ => wl.length - (RowKit.intOf v5).toNat)
              case atStart => exact ⟨0, Nat.zero_le _, rfl, Lib.hid (by simp), rfl⟩
              case round =>
                obtain ⟨k, hk, rfl, HC, rfl⟩ := hrel
                have k1 : IntKind.i64.wrap ((k : Int) + 1) = (k : Int) + 1 := IntWalk.i64_in _ (by omega)
                have i0 : (0 : Int) ≤ (k : Int) := by omega
                by_cases hlt : k < wl.length
                · skip
                  have i1 : (k : Int) < (wl.length : Int) := by omega
                  obtain ⟨g3, o3, eB, _⟩ := R3.out.line (by omega)
                  subst eB
                  have ex := List.getElem?_eq_getElem hlt
                  have z := intCells R3.out ex
                  have HT := Lib.hid (List.take_succ_eq_append_getElem hlt)
                  have HM := Lib.hid (List.getElem_mem hlt)
                  generalize wl[k] = y at *
                  clear ex
                  by_cases hx : y = (ka : Int) + 1
                  · skip
                    subst hx
                    have := HM.out
                    rw [← List.contains_iff_mem, hct] at this
                    cases this
                  · skip
                    have hxb : (y == (ka : Int) + 1) = false := by simpa using hx
                    have HX := Lib.hid hx
                    clear hx
                    go_wp2
                    exact ⟨⟨k + 1, by omega, by simp, Lib.hid (by rw [HT.out, List.mem_append]; rintro (h | h); exact HC.out h; exact HX.out (List.mem_singleton.1 h).symm), trivial⟩, by simp [RowKit.intOf]; omega⟩
                · skip
                  obtain rfl : k = wl.length := by omega
                  have i1 : ¬ (wl.length : Int) < (wl.length : Int) := by omega
                  clear HC hk hlt
                  skip
                  go_upto_region 14 with (at_builtin; refine wpList_appK (R := memTy) rfl _ _ rfl rfl (OwnK.of (R := memTy) (full := []) (xs := []) (heap_alloc_new _ _) (Nat.le_refl _) (by decide) rfl rfl) rfl rfl ((HR.out.chg K3.out (by simp)).chg ((Chg.refl [] _).alloc _) (by simp)) (by omega) ?_; rw [Nat.zero_add]; intro A5 c5 w5 o5 d5 e5; rw [List.nil_append] at o5; have O5 := Lib.hid o5; have K5 := Lib.hid ((K3.out.trans ((Chg.refl [] _).alloc _)).grown d5 (fun k hk => by simp at hk; subst hk; exact .inr K3.out.size)); have F5 := Lib.hid (show ∀ a, A5 = some a → w.heap.size ≤ a.block by rintro a rfl; rcases e5 with e | e; cases e; exact K3.out.size; cases e; simp; exact Nat.le_succ_of_le K3.out.size); clear o5 d5 e5)
                  obtain ⟨g5, eg5⟩ : ∃ g5, A5 = some ⟨g5, 0, none⟩ := by
                    rcases O5.out.shape with ⟨_, e, _⟩ | ⟨g5, e, _⟩
                    · rw [e] at KLa; simp at KLa
                    · exact ⟨g5, e⟩
                  subst eg5
                  have OP := Lib.hid (O5.out.put1 (i := 1) (v := .int .i64 ((kb : Int) + 1)) (y := (x0a, (kb : Int) + 1, false)) EXa.out (by decide) rfl)
                  have z := (memCells O5.out.reads EXa.out).2.1
                  (try simp only [Nat.zero_add] at z)
                  have hfz : w5.frozen? ⟨g5, ka * 3 + 1, none⟩ = false := by rcases O5.out with ⟨h, _⟩ | ⟨g', full, h, hg, _⟩; cases h; cases h; exact free_of hg _
                  have KS := Lib.hid (K5.out.setCell (p := ⟨g5, ka * 3 + 1, none⟩) (.inr (F5.out ⟨g5, 0, none⟩ rfl)) (.int .i64 ((kb : Int) + 1)))
                  rw [show memTy.k = 3 from rfl] at OP
                  go_wp2
                  go_ret2
                  exact ⟨some ⟨g5, 0, none⟩, c5, by simp, OP.out, F5.out, KS.out⟩
end Go.Proofs.Ytleioiihoplmaaa
