/- Sets of texts. table.Check. slices.IndexFunc, DeleteFunc over pairs. A writer, a reader that were made since a world w, and all that was there is as it was: the calls in this form. Package effect: compare, Same, Less, Size, Bytes. The document's writer (tributaryref01): form, put, Num, Raw, Text, Out. The document's writer, call by call. The document's writer: Raw, Text, Out. -/
import Derived.Test.YtimdfpejgaidhaaGreatDoorZtwa
import Derived.Maps.OwnSet
import Derived.DeepKeys4
import Derived.StringKeys
import Derived.Test.YtimdfpejgaidhaaGreatDoorZtwn
import Derived.Test.YtimdfpejgaidhaaGreatDoorZtwk
import Derived.Test.YtimdfpejgaidhaaGreatDoorZtwc
import Derived.Deep.Cut
import Derived.Deep.RegionHeld3
import Derived.Test.YtimdfpejgaidhaaGreatDoorZtwl
import Derived.Test.YtimdfpejgaidhaaGreatDoorZtwd
import Derived.Test.YtimdfpejgaidhaaGreatDoorZtwh
import Derived.Test.YtimdfpejgaidhaaGreatDoorZtwb
namespace Go.Proofs.YtimdfpejgaidhaaGreatDoor
section
open Go.RowKit Go.Lib Go.Maps
set_option linter.unusedSimpArgs false
set_option linter.unusedVariables false

theorem law_text : Keyed Tryz.prog 9 := string_keyed Tryz.underlying9
theorem zero_unit (w : World) : (zeroValue 68).run Tryz.prog w = .ok (.agg #[]) w := Tryz.zeroValue68 w
theorem keyText (l : List UInt8) (h : l.length ≤ maxLen) : keyOf Tryz.prog 9 (.string (strOf l)) = some (.string l) := by
  have := Go.WideMaps.keyOf_string_mk Tryz.underlying9 (s := strOf l) (by simpa [strOf, ByteArray.size] using h)
  rw [this]
  simp [strOf]
def textSet (ps : List (List UInt8)) : DataW Unit := Go.Maps.setOf (.agg []) (ps.map (fun p => Lit.string p))
theorem textSet_snoc (ps : List (List UInt8)) (p : List UInt8) : textSet (ps ++ [p]) = (textSet ps).put (.string p) (.agg []) := by
  unfold textSet
  rw [List.map_append]
  exact Go.Maps.setOf_snoc _ _ _
theorem textSet_has (ps : List (List UInt8)) (p : List UInt8) : Go.Maps.has (textSet ps) (.string p) = decide (p ∈ ps) := by
  unfold textSet
  rw [Go.Maps.has_setOf _ _ _ (fun x hx => by obtain ⟨q, _, rfl⟩ := List.mem_map.1 hx; trivial), Bool.eq_iff_iff, List.any_eq_true, decide_eq_true_eq]
  constructor
  · rintro ⟨x, hx, hs⟩
    obtain ⟨q, hq, rfl⟩ := List.mem_map.1 hx
    have := WideAt.sameKey_eq hs
    cases this
    exact hq
  · intro h
    exact ⟨.string p, List.mem_map.2 ⟨p, h, rfl⟩, WideAt.sameKey_self trivial⟩
theorem ownsMap_chg {H : Type} {w w' : World} {S : List Nat} {P : Program} {k : TypeId} {R : Value → Option (DataW H × List MemPlace)} {b n : Nat} {D : DataW H} (h : w.ownsMap P k R b n D) (hc : Chg S w w') (hb : b ∉ S) : w'.ownsMap P k R b n D := by
  obtain ⟨es, clock, q, r⟩ := h
  exact ⟨es, clock, hc.at_ q hb, r⟩
end
section
open Go.RowKit Go.Lib
set_option linter.unusedSimpArgs false
set_option linter.unusedVariables false

/-- The paths of directories, in order. -/
def dirsE (t : List EnP) : List (List UInt8) := (t.filter (fun e => decide (e.k = 2))).map (·.p)
theorem dirs_snoc_yes {t : List EnP} {e : EnP} (h : e.k = 2) : dirsE (t ++ [e]) = dirsE t ++ [e.p] := by
  unfold dirsE; rw [List.filter_append, List.map_append]; simp [h]
theorem dirs_snoc_no {t : List EnP} {e : EnP} (h : e.k ≠ 2) : dirsE (t ++ [e]) = dirsE t := by
  unfold dirsE; rw [List.filter_append, List.map_append]; simp [h]
theorem dirs_mem {t : List EnP} {p : List UInt8} : p ∈ dirsE t ↔ HasDir t p := by
  unfold dirsE HasDir
  rw [List.mem_map]
  constructor
  · rintro ⟨f, hf, hp⟩; rw [List.mem_filter] at hf; exact ⟨f, hf.1, hp, of_decide_eq_true hf.2⟩
  · rintro ⟨f, hf, hp, hk⟩; exact ⟨f, List.mem_filter.2 ⟨hf, decide_eq_true hk⟩, hp⟩
theorem PreT.par {t : List EnP} {k : Nat} {p : List UInt8} (h : PreT t k) (hd : HasDir (t.take k) p) : ∃ f, getT t p = some f ∧ f.k = 2 := by
  obtain ⟨f, hf, fp, fk⟩ := hd
  refine ⟨f, ?_, fk⟩
  have := (get_iff h.2.1).2 ⟨hf, fp⟩
  unfold getT at this ⊢
  rw [← List.take_append_drop k t, List.find?_append, this]
  rfl
theorem PreT.parT {t : List EnP} {k : Nat} {p : List UInt8} (h : PreT t k) (hd : hasParent p = true → HasDir (t.take k) (parentL p)) : parT t p = 0 := by
  unfold Go.Proofs.YtimdfpejgaidhaaGreatDoor.parT
  by_cases hp : hasParent p = true
  · obtain ⟨f, hf, fk⟩ := h.par (hd hp)
    rw [if_pos hp, hf]
    simp [fk]
  · rw [if_neg hp]
theorem tab_dir {t : List EnP} (h : TabOk t) {k : Nat} {e : EnP} (he : t[k]? = some e) (hp : hasParent e.p = true) : HasDir (t.take k) (parentL e.p) := by
  obtain ⟨f, hf, fp, fk⟩ := h.2.2 e (List.mem_of_getElem? he) hp
  refine ⟨f, ?_, fp, fk⟩
  obtain ⟨i, hi, rfl⟩ := List.getElem_of_mem hf
  have hl : lessL t[i].p e.p = true := by rw [fp]; exact parent_less hp
  obtain ⟨l2, e2⟩ := List.getElem?_eq_some_iff.1 he
  have ik : i < k := by
    rcases Nat.lt_trichotomy i k with q | q | q
    · exact q
    · subst q; rw [e2, less_self] at hl; cases hl
    · have := List.pairwise_iff_getElem.1 h.2.1 k i l2 hi q
      rw [e2] at this
      have a := less_not _ _ this
      rw [hl] at a; cases a
  have hik : i < (t.take k).length := by rw [List.length_take]; omega
  have : (t.take k)[i] = t[i] := by rw [List.getElem_take]
  rw [← this]
  exact List.getElem_mem hik
set_option maxRecDepth 100000 in
set_option maxHeartbeats 16000000 in
theorem tbcheck_any (w : World) (A : Option Addr) (c : Nat) (xs : List EnT) (es : List EnP) (h : RdK enTy w A xs.length xs) (hx : EnsR w xs es) (hn : xs.length ≤ 200) (hs : ∀ e ∈ es, EnSm e) :
    Calls Tryz.prog 15 #[.slice A xs.length c] w fun r w' => r = .returned (.int .i64 (tabE es)) ∧ Chg [] w w' := by
  have hmm := @run_makeMap Tryz.prog
  obtain ⟨w0, hw0, c0, q0⟩ := news1 w (.map #[] 0)
  have W0 := Lib.hid hw0
  have C0 := Lib.hid c0
  have QM : Hid (w0.ownsMap Tryz.prog 9 (unitElem (H := Unit)) w.heap.size 0 (textSet [])) := Lib.hid ⟨#[], 0, q0, ⟨by simp, Go.MapKept.stamped_empty 0, by simp⟩, Nat.le_refl _, rfl⟩
  have BLT := Lib.hid (lt_of_heap q0)
  have HA := Lib.hid h
  have HX := Lib.hid hx
  have HN := Lib.hid hn
  have HS := Lib.hid hs
  have n200 : ¬ (200 : Int) < (xs.length : Int) := by omega
  generalize hv : tabE es = v
  have HV := Lib.hid hv
  have NO : Hid (¬ TabOk es → v = 2) := Lib.hid (fun q => by rw [← hv]; exact if_neg q)
  clear h hx hn hs hv hw0 c0 q0
  go_enter Tryz.func15, Tryz.ntmps15
  go_upto_region 4 with fail
  rw [← W0.out]
  obtain ⟨b, hb⟩ : ∃ b, w.heap.size = b := ⟨_, rfl⟩
  rw [hb] at QM BLT ⊢
  have WC : Hid (∀ w', Chg [b] w0 w' → Chg [] w w') := Lib.hid (fun w' hc => C0.out.trans' hc (fun i hi => .inr (by simp at hi; omega)))
  clear W0 hb n200 hmm
  go_wp2
  go_loopw [16] (fun v16 wr => ∃ k : Nat, k ≤ xs.length ∧ v16 = .int .i64 (k : Int) ∧ Hid (PreT es k) ∧ Hid (wr.ownsMap Tryz.prog 9 (unitElem (H := Unit)) b k (textSet (dirsE (es.take k)))) ∧ Hid (Chg [b] w0 wr)) (fun v16 _ => xs.length - (RowKit.intOf v16).toNat)
  case atStart => exact ⟨0, Nat.zero_le _, rfl, Lib.hid (PreT.zero es), QM, Chg.refl _ _⟩
  case round =>
    obtain ⟨k, hk, rfl, PT, OM, RC⟩ := hrel
    have i0 : (0 : Int) ≤ (k : Int) := by omega
    by_cases hlt : k < xs.length
    · have i1 : (k : Int) < (xs.length : Int) := by omega
      have i3 : IntKind.i64.wrap ((k : Int) + 1) = (k : Int) + 1 := IntWalk.i64_in _ (by have := HN.out; omega)
      obtain ⟨x, e, ex, ee, rx⟩ := HX.out.at_ hlt
      obtain ⟨g, o, eA, _⟩ := HA.out.line (by omega)
      subst eA
      have HG : Hid (∀ w', Chg [b] w0 w' → RdK enTy w' (some ⟨g, o, none⟩) xs.length xs) := Lib.hid (fun w' hc => HA.out.chg (WC.out _ hc) (by simp))
      obtain ⟨t0, t1, t2, t3⟩ := enCells (HG.out _ RC.out) ex
      have EE := Lib.hid ee
      have RX := Lib.hid rx
      have EX := Lib.hid ex
      have SM := Lib.hid (HS.out e (List.mem_of_getElem? ee))
      have KL := Lib.hid hlt
      have ET : Hid (es.take (k + 1) = es.take k ++ [e]) := Lib.hid (by rw [List.take_add_one, ee]; rfl)
      rw [RX.out.p] at t0
      clear ex ee rx
      go_upto_region 7 with fail
      clear t0 t1 t2 t3
      obtain ⟨w1, hw, hc, b4⟩ := news1 wr (.cells #[.string (strOf e.p), .int .i64 x.k, .int .i64 x.m, .slice x.A x.l x.c] 55)
      rw [← hw]
      have GB : Hid (¬ wr.heap.size = b ∧ ¬ b = wr.heap.size) := Lib.hid (by have := RC.out.size; have := BLT.out; omega)
      generalize wr.heap.size = g4 at *
      have B4 := Lib.hid b4
      replace OM := Lib.hid (ownsMap_chg OM.out hc (by simp))
      replace RC := Lib.hid (RC.out.trans (hc.mono (S' := [b]) (by simp)))
      clear hw hc b4
      have FC : Hid (∀ w', Chg [] w1 w' → Calls Tryz.prog 42 #[.agg #[.string (strOf e.p), .int .i64 x.k, .int .i64 x.m, .slice x.A x.l x.c]] w' fun r w2 => r = .returned (.bool (decide (Stands e))) ∧ Chg [] w' w2) := Lib.hid (fun w' hc => by
        have q := tbstands_any w' x e (RX.out.chg (WC.out _ (RC.out.trans (hc.mono (S' := [b]) (by simp))))) SM.out
        rwa [RX.out.p] at q)
      clear wr
      by_cases hst : Stands e
      rotate_left
      · skip
        have NST := Lib.hid hst
        have SV : Hid (decide (Stands e) = false) := Lib.hid (decide_eq_false hst)
        clear hst
        have DX : Hid (∀ w', Chg [] w1 w' → (fun w' => w'.cell? ⟨g4, 0, none⟩ = some (.string (strOf e.p)) ∧ w'.cell? ⟨g4, 1, none⟩ = some (.int .i64 x.k) ∧ w'.cell? ⟨g4, 2, none⟩ = some (.int .i64 x.m) ∧ w'.cell? ⟨g4, 3, none⟩ = some (.slice x.A x.l x.c)) w') := Lib.hid (fun w' hc => by
          have b4 := hc.at_ B4.out (by simp)
          exact ⟨cell_of b4 0, cell_of b4 1, cell_of b4 2, cell_of b4 3⟩)
        refine wp_region_held_drew (S := fun w' => w'.cell? ⟨g4, 0, none⟩ = some (.string (strOf e.p)) ∧ w'.cell? ⟨g4, 1, none⟩ = some (.int .i64 x.k) ∧ w'.cell? ⟨g4, 2, none⟩ = some (.int .i64 x.m) ∧ w'.cell? ⟨g4, 3, none⟩ = some (.slice x.A x.l x.c)) (by kernel_rfl) (DX.out _ (Chg.refl [] w1).drew) (fun hHeld => ?_)
        have CC : Hid (Chg [] w1 w1.drew) := Lib.hid (Chg.refl [] w1).drew
        clear hHeld
        obtain ⟨wc, hwc⟩ : ∃ wc, w1.drew = wc := ⟨_, rfl⟩
        rw [hwc] at CC ⊢
        clear hwc
        refine sy 0 21 rfl rfl ?_ (hS := (DX.out _ CC.out)) (hy := by (intro w hSw; (try dsimp only at hSw); obtain ⟨q0, q1, q2, q3⟩ := hSw; go_simp; try with_reducible rfl))
        try simp only [Act.put, sA, s0, s1]
        refine wpAnyH_ready (rs := [1]) (by kernel_rfl) (by simp) ?_
        refine AllReadyH.cons rfl (fun K hK => ?_) AllReadyH.nil
        replace hK := Lib.hid hK
        go_simp
        refine (FC.out wc CC.out).mono ?_
        rintro r wn ⟨rfl, hc⟩
        rw [SV.out]
        replace CC := Lib.hid (CC.out.trans hc)
        clear hc
        generalize wn = wc at *
        refine hK.out _ _ (DX.out _ CC.out) (fun hHeld => ?_)
        clear hK K
        try simp only [Act.put, sA, s0, s1]
        refine sy 2 23 rfl rfl ?_ (hS := (DX.out _ CC.out))
        try simp only [Act.put, sA, s0, s1]
        refine sy 3 24 rfl rfl ?_ (hS := (DX.out _ CC.out))
        try simp only [Act.put, sA, s0, s1]
        refine sn 4 25 rfl rfl ?_ (hS := (DX.out _ CC.out))
        try simp only [Act.put, sA, s0, s1]
        refine sn 5 26 rfl rfl ?_ (hS := (DX.out _ CC.out))
        try simp only [Act.put, sA, s0, s1]
        refine sn 6 27 rfl rfl ?_ (hS := (DX.out _ CC.out))
        try simp only [Act.put, sA, s0, s1]
        refine sn 7 28 rfl rfl ?_ (hS := (DX.out _ CC.out))
        try simp only [Act.put, sA, s0, s1]
        refine sn 8 29 rfl rfl ?_ (hS := (DX.out _ CC.out))
        try simp only [Act.put, sA, s0, s1]
        refine sn 9 30 rfl rfl ?_ (hS := (DX.out _ CC.out))
        try simp only [Act.put, sA, s0, s1]
        refine sn 10 31 rfl rfl ?_ (hS := (DX.out _ CC.out))
        try simp only [Act.put, sA, s0, s1]
        refine sn 11 32 rfl rfl ?_ (hS := (DX.out _ CC.out))
        try simp only [Act.put, sA, s0, s1]
        refine sn 12 33 rfl rfl ?_ (hS := (DX.out _ CC.out))
        try simp only [Act.put, sA, s0, s1]
        refine sn 13 34 rfl rfl ?_ (hS := (DX.out _ CC.out))
        try simp only [Act.put, sA, s0, s1]
        refine sn 14 35 rfl rfl ?_ (hS := (DX.out _ CC.out))
        try simp only [Act.put, sA, s0, s1]
        refine sn 15 36 rfl rfl ?_ (hS := (DX.out _ CC.out))
        try simp only [Act.put, sA, s0, s1]
        refine sn 16 37 rfl rfl ?_ (hS := (DX.out _ CC.out))
        try simp only [Act.put, sA, s0, s1]
        refine sn 17 38 rfl rfl ?_ (hS := (DX.out _ CC.out))
        try simp only [Act.put, sA, s0, s1]
        refine sy 18 39 rfl rfl ?_ (hS := (DX.out _ CC.out))
        try simp only [Act.put, sA, s0, s1]
        refine wpAnyH_done (by kernel_rfl) ?_ _
        clear hHeld FC
        obtain rfl : v = 2 := NO.out (fun q => NST.out (tab_at q EE.out).1)
        clear HV NO OM
        go_wp2
        go_ret
        exact ⟨rfl, WC.out _ (RC.out.trans (CC.out.mono (by simp)))⟩
      have STD := Lib.hid hst
      have SV : Hid (decide (Stands e) = true) := Lib.hid (decide_eq_true hst)
      clear hst
      by_cases hk0 : k = 0
      · skip
        have d1 : ¬ (0 : Int) < (k : Int) := by omega
        have d2 : decide ((0 : Int) < (k : Int)) = false := decide_eq_false d1
        have d7 : decide (0 < k) = false := decide_eq_false (by omega)
        have DX : Hid (∀ w', Chg [] w1 w' → (fun w' => w'.cell? ⟨g4, 0, none⟩ = some (.string (strOf e.p)) ∧ w'.cell? ⟨g4, 1, none⟩ = some (.int .i64 x.k) ∧ w'.cell? ⟨g4, 2, none⟩ = some (.int .i64 x.m) ∧ w'.cell? ⟨g4, 3, none⟩ = some (.slice x.A x.l x.c)) w') := Lib.hid (fun w' hc => by
          have b4 := hc.at_ B4.out (by simp)
          exact ⟨cell_of b4 0, cell_of b4 1, cell_of b4 2, cell_of b4 3⟩)
        refine wp_region_held_drew (S := fun w' => w'.cell? ⟨g4, 0, none⟩ = some (.string (strOf e.p)) ∧ w'.cell? ⟨g4, 1, none⟩ = some (.int .i64 x.k) ∧ w'.cell? ⟨g4, 2, none⟩ = some (.int .i64 x.m) ∧ w'.cell? ⟨g4, 3, none⟩ = some (.slice x.A x.l x.c)) (by kernel_rfl) (DX.out _ (Chg.refl [] w1).drew) (fun hHeld => ?_)
        have CC : Hid (Chg [] w1 w1.drew) := Lib.hid (Chg.refl [] w1).drew
        clear hHeld
        obtain ⟨wc, hwc⟩ : ∃ wc, w1.drew = wc := ⟨_, rfl⟩
        rw [hwc] at CC ⊢
        clear hwc
        refine sy 0 21 rfl rfl ?_ (hS := (DX.out _ CC.out)) (hy := by (intro w hSw; (try dsimp only at hSw); obtain ⟨q0, q1, q2, q3⟩ := hSw; go_simp; try with_reducible rfl))
        try simp only [Act.put, sA, s0, s1]
        refine wpAnyH_ready (rs := [1]) (by kernel_rfl) (by simp) ?_
        refine AllReadyH.cons rfl (fun K hK => ?_) AllReadyH.nil
        replace hK := Lib.hid hK
        go_simp
        refine (FC.out wc CC.out).mono ?_
        rintro r wn ⟨rfl, hc⟩
        rw [SV.out]
        replace CC := Lib.hid (CC.out.trans hc)
        clear hc
        generalize wn = wc at *
        refine hK.out _ _ (DX.out _ CC.out) (fun hHeld => ?_)
        clear hK K
        try simp only [Act.put, sA, s0, s1]
        refine sy 2 23 rfl rfl ?_ (hS := (DX.out _ CC.out))
        try simp only [Act.put, sA, s0, s1]
        refine sy 3 24 rfl rfl ?_ (hS := (DX.out _ CC.out))
        try simp only [Act.put, sA, s0, s1]
        refine sy 4 25 rfl rfl ?_ (hS := (DX.out _ CC.out))
        try simp only [Act.put, sA, s0, s1]
        refine sy 5 26 rfl rfl ?_ (hS := (DX.out _ CC.out))
        try simp only [Act.put, sA, s0, s1]
        refine sy 6 27 rfl rfl ?_ (hS := (DX.out _ CC.out))
        try simp only [Act.put, sA, s0, s1]
        refine sn 7 28 rfl rfl ?_ (hS := (DX.out _ CC.out))
        try simp only [Act.put, sA, s0, s1]
        refine sn 8 29 rfl rfl ?_ (hS := (DX.out _ CC.out))
        try simp only [Act.put, sA, s0, s1]
        refine sn 9 30 rfl rfl ?_ (hS := (DX.out _ CC.out))
        try simp only [Act.put, sA, s0, s1]
        refine sn 10 31 rfl rfl ?_ (hS := (DX.out _ CC.out))
        try simp only [Act.put, sA, s0, s1]
        refine sn 11 32 rfl rfl ?_ (hS := (DX.out _ CC.out))
        try simp only [Act.put, sA, s0, s1]
        refine sn 12 33 rfl rfl ?_ (hS := (DX.out _ CC.out))
        try simp only [Act.put, sA, s0, s1]
        refine sn 13 34 rfl rfl ?_ (hS := (DX.out _ CC.out))
        try simp only [Act.put, sA, s0, s1]
        refine sn 14 35 rfl rfl ?_ (hS := (DX.out _ CC.out))
        try simp only [Act.put, sA, s0, s1]
        refine sn 15 36 rfl rfl ?_ (hS := (DX.out _ CC.out))
        try simp only [Act.put, sA, s0, s1]
        refine sn 16 37 rfl rfl ?_ (hS := (DX.out _ CC.out))
        try simp only [Act.put, sA, s0, s1]
        refine sy 17 38 rfl rfl ?_ (hS := (DX.out _ CC.out))
        try simp only [Act.put, sA, s0, s1]
        refine sy 18 39 rfl rfl ?_ (hS := (DX.out _ CC.out))
        try simp only [Act.put, sA, s0, s1]
        refine wpAnyH_done (by kernel_rfl) ?_ _
        clear hHeld FC
        replace B4 := Lib.hid (CC.out.at_ B4.out (by simp))
        replace OM := Lib.hid (ownsMap_chg OM.out CC.out (by simp))
        replace RC := Lib.hid (RC.out.trans (CC.out.mono (S' := [b]) (by simp)))
        clear CC DX
        have PX := Lib.hid (fun w' => (phparent_any w' e.p (by have := SM.out.1; omega)).mono fun r w2 ⟨a, c⟩ => (⟨a, below_chgN c⟩ : _ ∧ Chg [] w' w2))
        have z0 := cell_of B4.out 0
        have z1 := cell_of B4.out 1
        have z2 := cell_of B4.out 2
        have z3 := cell_of B4.out 3
        simp only [List.getElem?_toArray, List.getElem?_cons_succ, List.getElem?_cons_zero] at z0 z1 z2 z3

        go_wp2_with fail
        clear z0 z1 z2 z3
        refine (PX.out wc).mono ?_
        rintro r w3 ⟨rfl, hc⟩
        replace B4 := Lib.hid (hc.at_ B4.out (by simp))
        replace OM := Lib.hid (ownsMap_chg OM.out hc (by simp))
        replace RC := Lib.hid (RC.out.trans (hc.mono (S' := [b]) (by simp)))
        clear hc PX wc
        by_cases hpar : hasParent e.p = true
        rotate_left
        · skip
          have PAR : Hid (parT es e.p = 0) := Lib.hid (PT.out.parT (fun q => absurd q hpar))
          have hp0 : hasParent e.p = false := by simpa using hpar
          rw [hp0]
          clear hpar hp0
          have PN : Hid (PreT es (k + 1)) := Lib.hid (PT.out.next EE.out STD.out (fun f2 h _ => absurd h (by omega)) PAR.out)
          have z0 := cell_of B4.out 0
          have z1 := cell_of B4.out 1
          have z2 := cell_of B4.out 2
          have z3 := cell_of B4.out 3
          simp only [List.getElem?_toArray, List.getElem?_cons_succ, List.getElem?_cons_zero] at z0 z1 z2 z3

          by_cases hk2 : x.k = 2
          · skip
            have h1 : ((x.k == 2) : Bool) = true := by simpa using hk2
            have ND : Hid (dirsE (es.take (k + 1)) = dirsE (es.take k) ++ [e.p]) := Lib.hid (by rw [ET.out]; exact dirs_snoc_yes (by rw [← RX.out.k]; exact hk2))
            have KEY := Lib.hid (keyText e.p (by have := SM.out.1; unfold maxLen; omega))
            have KB : Hid (k < maxLen) := Lib.hid (by have := HN.out; unfold maxLen; omega)
            clear hk2
            go_wp2_with (at_mapUpdate; refine wpList_mapUpdate_own _ rfl _ _ _ 64 rfl 9 68 law_text Tryz.underlying64 (unitElem (H := Unit)) b k _ rfl OM.out KB.out _ _ _ rfl rfl KEY.out (.agg []) [] unitElem_mk ?_; intro w6 own6 grow6)
            have C6 : Hid (Chg [b] w0 w6) := Lib.hid (RC.out.grown grow6 (fun i hi => by simp at hi; subst hi; exact .inl (by simp)))
            have OM6 : Hid (w6.ownsMap Tryz.prog 9 (unitElem (H := Unit)) b (k + 1) (textSet (dirsE (es.take (k + 1))))) := Lib.hid (by rw [ND.out, textSet_snoc]; exact own6)
            clear own6 grow6 z0 z1 z2 z3
            go_round
            case rel => exact ⟨k + 1, by omega, by go_num, PN, OM6, C6.out⟩
            case measure => simp [RowKit.intOf]; omega
          · skip
            have h1 : ((x.k == 2) : Bool) = false := by simpa using hk2
            have OM6 : Hid (w3.ownsMap Tryz.prog 9 (unitElem (H := Unit)) b (k + 1) (textSet (dirsE (es.take (k + 1))))) := Lib.hid (by
              have q : dirsE (es.take (k + 1)) = dirsE (es.take k) := by rw [ET.out]; exact dirs_snoc_no (by rw [← RX.out.k]; exact hk2)
              rw [q]
              obtain ⟨es', clock, a, c, d⟩ := OM.out
              exact ⟨es', clock, a, c, Nat.le_trans d.1 (Nat.le_succ _), d.2⟩)
            clear hk2
            go_wp2
            go_round
            case rel => exact ⟨k + 1, by omega, by go_num, PN, OM6, RC.out⟩
            case measure => simp [RowKit.intOf]; omega
        rw [hpar]
        have KEYP := Lib.hid (keyText (parentL e.p) (by have := parent_short hpar; have := SM.out.1; unfold maxLen; omega))
        obtain ⟨w5, hw5, c5, q5⟩ := news1 w3 (.cells #[] 68)
        have W5 := Lib.hid hw5
        have C5 := Lib.hid c5
        clear hw5 c5 q5
        by_cases hin : parentL e.p ∈ dirsE (es.take k)
        rotate_left
        · skip
          have e6 : decide (parentL e.p ∈ dirsE (es.take k)) = false := decide_eq_false hin
          obtain rfl : v = 2 := NO.out (fun q => hin (dirs_mem.2 (tab_dir q EE.out hpar)))
          clear hin hpar HV NO
          go_upto_region 12 with (at_lookup; refine wpList_lookup_own_unit _ rfl _ _ 64 rfl 9 68 law_text Tryz.underlying64 (zero_unit _) b k (textSet (dirsE (es.take k))) rfl OM.out _ _ rfl KEYP.out ?_; rw [textSet_has, e6])
          rw [← W5.out]
          clear W5
          go_wp2
          go_ret
          exact ⟨rfl, WC.out _ (RC.out.trans (C5.out.mono (by simp)))⟩
        have e6 : decide (parentL e.p ∈ dirsE (es.take k)) = true := decide_eq_true hin
        have PAR : Hid (parT es e.p = 0) := Lib.hid (PT.out.parT (fun _ => dirs_mem.1 hin))
        clear hin hpar
        go_upto_region 12 with (at_lookup; refine wpList_lookup_own_unit _ rfl _ _ 64 rfl 9 68 law_text Tryz.underlying64 (zero_unit _) b k (textSet (dirsE (es.take k))) rfl OM.out _ _ rfl KEYP.out ?_; rw [textSet_has, e6])
        rw [← W5.out]
        replace B4 := Lib.hid (C5.out.at_ B4.out (by simp))
        replace OM := Lib.hid (ownsMap_chg OM.out C5.out (by simp))
        replace RC := Lib.hid (RC.out.trans (C5.out.mono (S' := [b]) (by simp)))
        clear W5 C5 e6
        generalize w3.heap.size = g5 at *
        clear w3
        obtain ⟨w3, hw3⟩ : ∃ w9, w5 = w9 := ⟨_, rfl⟩
        rw [hw3] at B4 OM RC ⊢
        clear hw3
        have PN : Hid (PreT es (k + 1)) := Lib.hid (PT.out.next EE.out STD.out (fun f2 h _ => absurd h (by omega)) PAR.out)
        have z0 := cell_of B4.out 0
        have z1 := cell_of B4.out 1
        have z2 := cell_of B4.out 2
        have z3 := cell_of B4.out 3
        simp only [List.getElem?_toArray, List.getElem?_cons_succ, List.getElem?_cons_zero] at z0 z1 z2 z3

        by_cases hk2 : x.k = 2
        · skip
          have h1 : ((x.k == 2) : Bool) = true := by simpa using hk2
          have ND : Hid (dirsE (es.take (k + 1)) = dirsE (es.take k) ++ [e.p]) := Lib.hid (by rw [ET.out]; exact dirs_snoc_yes (by rw [← RX.out.k]; exact hk2))
          have KEY := Lib.hid (keyText e.p (by have := SM.out.1; unfold maxLen; omega))
          have KB : Hid (k < maxLen) := Lib.hid (by have := HN.out; unfold maxLen; omega)
          clear hk2
          go_wp2_with (at_mapUpdate; refine wpList_mapUpdate_own _ rfl _ _ _ 64 rfl 9 68 law_text Tryz.underlying64 (unitElem (H := Unit)) b k _ rfl OM.out KB.out _ _ _ rfl rfl KEY.out (.agg []) [] unitElem_mk ?_; intro w6 own6 grow6)
          have C6 : Hid (Chg [b] w0 w6) := Lib.hid (RC.out.grown grow6 (fun i hi => by simp at hi; subst hi; exact .inl (by simp)))
          have OM6 : Hid (w6.ownsMap Tryz.prog 9 (unitElem (H := Unit)) b (k + 1) (textSet (dirsE (es.take (k + 1))))) := Lib.hid (by rw [ND.out, textSet_snoc]; exact own6)
          clear own6 grow6 z0 z1 z2 z3
          go_round
          case rel => exact ⟨k + 1, by omega, by go_num, PN, OM6, C6.out⟩
          case measure => simp [RowKit.intOf]; omega
        · skip
          have h1 : ((x.k == 2) : Bool) = false := by simpa using hk2
          have OM6 : Hid (w3.ownsMap Tryz.prog 9 (unitElem (H := Unit)) b (k + 1) (textSet (dirsE (es.take (k + 1))))) := Lib.hid (by
            have q : dirsE (es.take (k + 1)) = dirsE (es.take k) := by rw [ET.out]; exact dirs_snoc_no (by rw [← RX.out.k]; exact hk2)
            rw [q]
            obtain ⟨es', clock, a, c, d⟩ := OM.out
            exact ⟨es', clock, a, c, Nat.le_trans d.1 (Nat.le_succ _), d.2⟩)
          clear hk2
          go_wp2
          go_round
          case rel => exact ⟨k + 1, by omega, by go_num, PN, OM6, RC.out⟩
          case measure => simp [RowKit.intOf]; omega
      have d1 : (0 : Int) < (k : Int) := by omega
      have d2 : decide ((0 : Int) < (k : Int)) = true := decide_eq_true d1
      have d6 : 0 < k := by omega
      have d7 : decide (0 < k) = true := decide_eq_true d6
      have d3 : IntKind.i64.wrap ((k : Int) - 1) = ((k - 1 : Nat) : Int) := by rw [IntWalk.i64_in _ (by have := HN.out; omega)]; omega
      have d4 : (0 : Int) ≤ ((k - 1 : Nat) : Int) := by omega
      have d5 : ((k - 1 : Nat) : Int) < (xs.length : Int) := by omega
      obtain ⟨fx, f, ex, ef, rf⟩ := HX.out.at_ (show k - 1 < xs.length by omega)
      have FX := Lib.hid ex
      have FE := Lib.hid ef
      have FR := Lib.hid rf
      have FS := Lib.hid (HS.out f (List.mem_of_getElem? ef))
      clear ex ef rf
      rcases hl : lessL f.p e.p with _ | _
      · skip
        have LV := Lib.hid hl
        have ltNO : Hid (¬ ltT f e) := Lib.hid (by unfold ltT; rw [hl]; simp)
        clear hl
        have DX : Hid (∀ w', Chg [] w1 w' → (fun w' => w'.cell? ⟨g4, 0, none⟩ = some (.string (strOf e.p)) ∧ w'.cell? ⟨g4, 1, none⟩ = some (.int .i64 x.k) ∧ w'.cell? ⟨g4, 2, none⟩ = some (.int .i64 x.m) ∧ w'.cell? ⟨g4, 3, none⟩ = some (.slice x.A x.l x.c) ∧ w'.cell? ⟨g, o + (k - 1) * 4, none⟩ = some (.string (strOf f.p))) w') := Lib.hid (fun w' hc => by
          have b4 := hc.at_ B4.out (by simp)
          have q := (enCells (HG.out _ (RC.out.trans (hc.mono (S' := [b]) (by simp)))) FX.out).1
          rw [FR.out.p] at q
          exact ⟨cell_of b4 0, cell_of b4 1, cell_of b4 2, cell_of b4 3, q⟩)
        refine wp_region_held_drew (S := fun w' => w'.cell? ⟨g4, 0, none⟩ = some (.string (strOf e.p)) ∧ w'.cell? ⟨g4, 1, none⟩ = some (.int .i64 x.k) ∧ w'.cell? ⟨g4, 2, none⟩ = some (.int .i64 x.m) ∧ w'.cell? ⟨g4, 3, none⟩ = some (.slice x.A x.l x.c) ∧ w'.cell? ⟨g, o + (k - 1) * 4, none⟩ = some (.string (strOf f.p))) (by kernel_rfl) (DX.out _ (Chg.refl [] w1).drew) (fun hHeld => ?_)
        have CC : Hid (Chg [] w1 w1.drew) := Lib.hid (Chg.refl [] w1).drew
        clear hHeld
        obtain ⟨wc, hwc⟩ : ∃ wc, w1.drew = wc := ⟨_, rfl⟩
        rw [hwc] at CC ⊢
        clear hwc
        refine sy 0 21 rfl rfl ?_ (hS := (DX.out _ CC.out)) (hy := by (intro w hSw; (try dsimp only at hSw); obtain ⟨q0, q1, q2, q3, q4⟩ := hSw; go_simp; try with_reducible rfl))
        try simp only [Act.put, sA, s0, s1]
        refine wpAnyH_ready (rs := [1]) (by kernel_rfl) (by simp) ?_
        refine AllReadyH.cons rfl (fun K hK => ?_) AllReadyH.nil
        replace hK := Lib.hid hK
        go_simp
        refine (FC.out wc CC.out).mono ?_
        rintro r wn ⟨rfl, hc⟩
        rw [SV.out]
        replace CC := Lib.hid (CC.out.trans hc)
        clear hc
        generalize wn = wc at *
        refine hK.out _ _ (DX.out _ CC.out) (fun hHeld => ?_)
        clear hK K
        try simp only [Act.put, sA, s0, s1]
        refine sy 2 23 rfl rfl ?_ (hS := (DX.out _ CC.out))
        try simp only [Act.put, sA, s0, s1]
        refine sy 3 24 rfl rfl ?_ (hS := (DX.out _ CC.out))
        try simp only [Act.put, sA, s0, s1]
        refine sy 4 25 rfl rfl ?_ (hS := (DX.out _ CC.out))
        try simp only [Act.put, sA, s0, s1]
        refine sy 5 26 rfl rfl ?_ (hS := (DX.out _ CC.out))
        try simp only [Act.put, sA, s0, s1]
        refine sy 6 27 rfl rfl ?_ (hS := (DX.out _ CC.out))
        try simp only [Act.put, sA, s0, s1]
        refine sy 7 28 rfl rfl ?_ (hS := (DX.out _ CC.out))
        try simp only [Act.put, sA, s0, s1]
        refine sy 8 29 rfl rfl ?_ (hS := (DX.out _ CC.out))
        try simp only [Act.put, sA, s0, s1]
        refine sy 9 30 rfl rfl ?_ (hS := (DX.out _ CC.out))
        try simp only [Act.put, sA, s0, s1]
        refine sy 10 31 rfl rfl ?_ (hS := (DX.out _ CC.out))
        try simp only [Act.put, sA, s0, s1]
        refine sy 11 32 rfl rfl ?_ (hS := (DX.out _ CC.out))
        try simp only [Act.put, sA, s0, s1]
        refine sy 12 33 rfl rfl ?_ (hS := (DX.out _ CC.out)) (hy := by (intro w hSw; (try dsimp only at hSw); obtain ⟨q0, q1, q2, q3, q4⟩ := hSw; go_simp; try with_reducible rfl))
        try simp only [Act.put, sA, s0, s1]
        refine sy 13 34 rfl rfl ?_ (hS := (DX.out _ CC.out))
        try simp only [Act.put, sA, s0, s1]
        refine sy 14 35 rfl rfl ?_ (hS := (DX.out _ CC.out)) (hy := by (intro w hSw; (try dsimp only at hSw); obtain ⟨q0, q1, q2, q3, q4⟩ := hSw; go_simp; try with_reducible rfl))
        try simp only [Act.put, sA, s0, s1]
        refine wpAnyH_ready (rs := [15]) (by kernel_rfl) (by simp) ?_
        refine AllReadyH.cons rfl (fun K hK => ?_) AllReadyH.nil
        replace hK := Lib.hid hK
        go_simp
        refine (phless_any wc f.p e.p FS.out.1 SM.out.1).mono ?_
        rintro r wn ⟨rfl, hc⟩
        rw [LV.out]
        replace CC := Lib.hid (CC.out.trans hc)
        clear hc
        generalize wn = wc at *
        refine hK.out _ _ (DX.out _ CC.out) (fun hHeld => ?_)
        clear hK K
        try simp only [Act.put, sA, s0, s1]
        refine sy 16 37 rfl rfl ?_ (hS := (DX.out _ CC.out))
        try simp only [Act.put, sA, s0, s1]
        refine sy 17 38 rfl rfl ?_ (hS := (DX.out _ CC.out))
        try simp only [Act.put, sA, s0, s1]
        refine sy 18 39 rfl rfl ?_ (hS := (DX.out _ CC.out))
        try simp only [Act.put, sA, s0, s1]
        refine wpAnyH_done (by kernel_rfl) ?_ _
        clear hHeld FC
        obtain rfl : v = 2 := NO.out (fun q => ltNO.out ((tab_at q EE.out).2.1 f (by omega) FE.out))
        clear HV NO OM
        go_wp2
        go_ret
        exact ⟨rfl, WC.out _ (RC.out.trans (CC.out.mono (by simp)))⟩
      · skip
        have LV := Lib.hid hl
        have ltYES : Hid (ltT f e) := Lib.hid hl
        clear hl
        have DX : Hid (∀ w', Chg [] w1 w' → (fun w' => w'.cell? ⟨g4, 0, none⟩ = some (.string (strOf e.p)) ∧ w'.cell? ⟨g4, 1, none⟩ = some (.int .i64 x.k) ∧ w'.cell? ⟨g4, 2, none⟩ = some (.int .i64 x.m) ∧ w'.cell? ⟨g4, 3, none⟩ = some (.slice x.A x.l x.c) ∧ w'.cell? ⟨g, o + (k - 1) * 4, none⟩ = some (.string (strOf f.p))) w') := Lib.hid (fun w' hc => by
          have b4 := hc.at_ B4.out (by simp)
          have q := (enCells (HG.out _ (RC.out.trans (hc.mono (S' := [b]) (by simp)))) FX.out).1
          rw [FR.out.p] at q
          exact ⟨cell_of b4 0, cell_of b4 1, cell_of b4 2, cell_of b4 3, q⟩)
        refine wp_region_held_drew (S := fun w' => w'.cell? ⟨g4, 0, none⟩ = some (.string (strOf e.p)) ∧ w'.cell? ⟨g4, 1, none⟩ = some (.int .i64 x.k) ∧ w'.cell? ⟨g4, 2, none⟩ = some (.int .i64 x.m) ∧ w'.cell? ⟨g4, 3, none⟩ = some (.slice x.A x.l x.c) ∧ w'.cell? ⟨g, o + (k - 1) * 4, none⟩ = some (.string (strOf f.p))) (by kernel_rfl) (DX.out _ (Chg.refl [] w1).drew) (fun hHeld => ?_)
        have CC : Hid (Chg [] w1 w1.drew) := Lib.hid (Chg.refl [] w1).drew
        clear hHeld
        obtain ⟨wc, hwc⟩ : ∃ wc, w1.drew = wc := ⟨_, rfl⟩
        rw [hwc] at CC ⊢
        clear hwc
        refine sy 0 21 rfl rfl ?_ (hS := (DX.out _ CC.out)) (hy := by (intro w hSw; (try dsimp only at hSw); obtain ⟨q0, q1, q2, q3, q4⟩ := hSw; go_simp; try with_reducible rfl))
        try simp only [Act.put, sA, s0, s1]
        refine wpAnyH_ready (rs := [1]) (by kernel_rfl) (by simp) ?_
        refine AllReadyH.cons rfl (fun K hK => ?_) AllReadyH.nil
        replace hK := Lib.hid hK
        go_simp
        refine (FC.out wc CC.out).mono ?_
        rintro r wn ⟨rfl, hc⟩
        rw [SV.out]
        replace CC := Lib.hid (CC.out.trans hc)
        clear hc
        generalize wn = wc at *
        refine hK.out _ _ (DX.out _ CC.out) (fun hHeld => ?_)
        clear hK K
        try simp only [Act.put, sA, s0, s1]
        refine sy 2 23 rfl rfl ?_ (hS := (DX.out _ CC.out))
        try simp only [Act.put, sA, s0, s1]
        refine sy 3 24 rfl rfl ?_ (hS := (DX.out _ CC.out))
        try simp only [Act.put, sA, s0, s1]
        refine sy 4 25 rfl rfl ?_ (hS := (DX.out _ CC.out))
        try simp only [Act.put, sA, s0, s1]
        refine sy 5 26 rfl rfl ?_ (hS := (DX.out _ CC.out))
        try simp only [Act.put, sA, s0, s1]
        refine sy 6 27 rfl rfl ?_ (hS := (DX.out _ CC.out))
        try simp only [Act.put, sA, s0, s1]
        refine sy 7 28 rfl rfl ?_ (hS := (DX.out _ CC.out))
        try simp only [Act.put, sA, s0, s1]
        refine sy 8 29 rfl rfl ?_ (hS := (DX.out _ CC.out))
        try simp only [Act.put, sA, s0, s1]
        refine sy 9 30 rfl rfl ?_ (hS := (DX.out _ CC.out))
        try simp only [Act.put, sA, s0, s1]
        refine sy 10 31 rfl rfl ?_ (hS := (DX.out _ CC.out))
        try simp only [Act.put, sA, s0, s1]
        refine sy 11 32 rfl rfl ?_ (hS := (DX.out _ CC.out))
        try simp only [Act.put, sA, s0, s1]
        refine sy 12 33 rfl rfl ?_ (hS := (DX.out _ CC.out)) (hy := by (intro w hSw; (try dsimp only at hSw); obtain ⟨q0, q1, q2, q3, q4⟩ := hSw; go_simp; try with_reducible rfl))
        try simp only [Act.put, sA, s0, s1]
        refine sy 13 34 rfl rfl ?_ (hS := (DX.out _ CC.out))
        try simp only [Act.put, sA, s0, s1]
        refine sy 14 35 rfl rfl ?_ (hS := (DX.out _ CC.out)) (hy := by (intro w hSw; (try dsimp only at hSw); obtain ⟨q0, q1, q2, q3, q4⟩ := hSw; go_simp; try with_reducible rfl))
        try simp only [Act.put, sA, s0, s1]
        refine wpAnyH_ready (rs := [15]) (by kernel_rfl) (by simp) ?_
        refine AllReadyH.cons rfl (fun K hK => ?_) AllReadyH.nil
        replace hK := Lib.hid hK
        go_simp
        refine (phless_any wc f.p e.p FS.out.1 SM.out.1).mono ?_
        rintro r wn ⟨rfl, hc⟩
        rw [LV.out]
        replace CC := Lib.hid (CC.out.trans hc)
        clear hc
        generalize wn = wc at *
        refine hK.out _ _ (DX.out _ CC.out) (fun hHeld => ?_)
        clear hK K
        try simp only [Act.put, sA, s0, s1]
        refine sy 16 37 rfl rfl ?_ (hS := (DX.out _ CC.out))
        try simp only [Act.put, sA, s0, s1]
        refine sy 17 38 rfl rfl ?_ (hS := (DX.out _ CC.out))
        try simp only [Act.put, sA, s0, s1]
        refine sy 18 39 rfl rfl ?_ (hS := (DX.out _ CC.out))
        try simp only [Act.put, sA, s0, s1]
        refine wpAnyH_done (by kernel_rfl) ?_ _
        clear hHeld FC
        replace B4 := Lib.hid (CC.out.at_ B4.out (by simp))
        replace OM := Lib.hid (ownsMap_chg OM.out CC.out (by simp))
        replace RC := Lib.hid (RC.out.trans (CC.out.mono (S' := [b]) (by simp)))
        clear CC DX
        have PX := Lib.hid (fun w' => (phparent_any w' e.p (by have := SM.out.1; omega)).mono fun r w2 ⟨a, c⟩ => (⟨a, below_chgN c⟩ : _ ∧ Chg [] w' w2))
        have z0 := cell_of B4.out 0
        have z1 := cell_of B4.out 1
        have z2 := cell_of B4.out 2
        have z3 := cell_of B4.out 3
        simp only [List.getElem?_toArray, List.getElem?_cons_succ, List.getElem?_cons_zero] at z0 z1 z2 z3

        go_wp2_with fail
        clear z0 z1 z2 z3
        refine (PX.out wc).mono ?_
        rintro r w3 ⟨rfl, hc⟩
        replace B4 := Lib.hid (hc.at_ B4.out (by simp))
        replace OM := Lib.hid (ownsMap_chg OM.out hc (by simp))
        replace RC := Lib.hid (RC.out.trans (hc.mono (S' := [b]) (by simp)))
        clear hc PX wc
        by_cases hpar : hasParent e.p = true
        rotate_left
        · skip
          have PAR : Hid (parT es e.p = 0) := Lib.hid (PT.out.parT (fun q => absurd q hpar))
          have hp0 : hasParent e.p = false := by simpa using hpar
          rw [hp0]
          clear hpar hp0
          have PN : Hid (PreT es (k + 1)) := Lib.hid (PT.out.next EE.out STD.out (fun f2 _ hf2 => by have q := FE.out; rw [hf2] at q; cases q; exact ltYES.out) PAR.out)
          have z0 := cell_of B4.out 0
          have z1 := cell_of B4.out 1
          have z2 := cell_of B4.out 2
          have z3 := cell_of B4.out 3
          simp only [List.getElem?_toArray, List.getElem?_cons_succ, List.getElem?_cons_zero] at z0 z1 z2 z3

          by_cases hk2 : x.k = 2
          · skip
            have h1 : ((x.k == 2) : Bool) = true := by simpa using hk2
            have ND : Hid (dirsE (es.take (k + 1)) = dirsE (es.take k) ++ [e.p]) := Lib.hid (by rw [ET.out]; exact dirs_snoc_yes (by rw [← RX.out.k]; exact hk2))
            have KEY := Lib.hid (keyText e.p (by have := SM.out.1; unfold maxLen; omega))
            have KB : Hid (k < maxLen) := Lib.hid (by have := HN.out; unfold maxLen; omega)
            clear hk2
            go_wp2_with (at_mapUpdate; refine wpList_mapUpdate_own _ rfl _ _ _ 64 rfl 9 68 law_text Tryz.underlying64 (unitElem (H := Unit)) b k _ rfl OM.out KB.out _ _ _ rfl rfl KEY.out (.agg []) [] unitElem_mk ?_; intro w6 own6 grow6)
            have C6 : Hid (Chg [b] w0 w6) := Lib.hid (RC.out.grown grow6 (fun i hi => by simp at hi; subst hi; exact .inl (by simp)))
            have OM6 : Hid (w6.ownsMap Tryz.prog 9 (unitElem (H := Unit)) b (k + 1) (textSet (dirsE (es.take (k + 1))))) := Lib.hid (by rw [ND.out, textSet_snoc]; exact own6)
            clear own6 grow6 z0 z1 z2 z3
            go_round
            case rel => exact ⟨k + 1, by omega, by go_num, PN, OM6, C6.out⟩
            case measure => simp [RowKit.intOf]; omega
          · skip
            have h1 : ((x.k == 2) : Bool) = false := by simpa using hk2
            have OM6 : Hid (w3.ownsMap Tryz.prog 9 (unitElem (H := Unit)) b (k + 1) (textSet (dirsE (es.take (k + 1))))) := Lib.hid (by
              have q : dirsE (es.take (k + 1)) = dirsE (es.take k) := by rw [ET.out]; exact dirs_snoc_no (by rw [← RX.out.k]; exact hk2)
              rw [q]
              obtain ⟨es', clock, a, c, d⟩ := OM.out
              exact ⟨es', clock, a, c, Nat.le_trans d.1 (Nat.le_succ _), d.2⟩)
            clear hk2
            go_wp2
            go_round
            case rel => exact ⟨k + 1, by omega, by go_num, PN, OM6, RC.out⟩
            case measure => simp [RowKit.intOf]; omega
        rw [hpar]
        have KEYP := Lib.hid (keyText (parentL e.p) (by have := parent_short hpar; have := SM.out.1; unfold maxLen; omega))
        obtain ⟨w5, hw5, c5, q5⟩ := news1 w3 (.cells #[] 68)
        have W5 := Lib.hid hw5
        have C5 := Lib.hid c5
        clear hw5 c5 q5
        by_cases hin : parentL e.p ∈ dirsE (es.take k)
        rotate_left
        · skip
          have e6 : decide (parentL e.p ∈ dirsE (es.take k)) = false := decide_eq_false hin
          obtain rfl : v = 2 := NO.out (fun q => hin (dirs_mem.2 (tab_dir q EE.out hpar)))
          clear hin hpar HV NO
          go_upto_region 12 with (at_lookup; refine wpList_lookup_own_unit _ rfl _ _ 64 rfl 9 68 law_text Tryz.underlying64 (zero_unit _) b k (textSet (dirsE (es.take k))) rfl OM.out _ _ rfl KEYP.out ?_; rw [textSet_has, e6])
          rw [← W5.out]
          clear W5
          go_wp2
          go_ret
          exact ⟨rfl, WC.out _ (RC.out.trans (C5.out.mono (by simp)))⟩
        have e6 : decide (parentL e.p ∈ dirsE (es.take k)) = true := decide_eq_true hin
        have PAR : Hid (parT es e.p = 0) := Lib.hid (PT.out.parT (fun _ => dirs_mem.1 hin))
        clear hin hpar
        go_upto_region 12 with (at_lookup; refine wpList_lookup_own_unit _ rfl _ _ 64 rfl 9 68 law_text Tryz.underlying64 (zero_unit _) b k (textSet (dirsE (es.take k))) rfl OM.out _ _ rfl KEYP.out ?_; rw [textSet_has, e6])
        rw [← W5.out]
        replace B4 := Lib.hid (C5.out.at_ B4.out (by simp))
        replace OM := Lib.hid (ownsMap_chg OM.out C5.out (by simp))
        replace RC := Lib.hid (RC.out.trans (C5.out.mono (S' := [b]) (by simp)))
        clear W5 C5 e6
        generalize w3.heap.size = g5 at *
        clear w3
        obtain ⟨w3, hw3⟩ : ∃ w9, w5 = w9 := ⟨_, rfl⟩
        rw [hw3] at B4 OM RC ⊢
        clear hw3
        have PN : Hid (PreT es (k + 1)) := Lib.hid (PT.out.next EE.out STD.out (fun f2 _ hf2 => by have q := FE.out; rw [hf2] at q; cases q; exact ltYES.out) PAR.out)
        have z0 := cell_of B4.out 0
        have z1 := cell_of B4.out 1
        have z2 := cell_of B4.out 2
        have z3 := cell_of B4.out 3
        simp only [List.getElem?_toArray, List.getElem?_cons_succ, List.getElem?_cons_zero] at z0 z1 z2 z3

        by_cases hk2 : x.k = 2
        · skip
          have h1 : ((x.k == 2) : Bool) = true := by simpa using hk2
          have ND : Hid (dirsE (es.take (k + 1)) = dirsE (es.take k) ++ [e.p]) := Lib.hid (by rw [ET.out]; exact dirs_snoc_yes (by rw [← RX.out.k]; exact hk2))
          have KEY := Lib.hid (keyText e.p (by have := SM.out.1; unfold maxLen; omega))
          have KB : Hid (k < maxLen) := Lib.hid (by have := HN.out; unfold maxLen; omega)
          clear hk2
          go_wp2_with (at_mapUpdate; refine wpList_mapUpdate_own _ rfl _ _ _ 64 rfl 9 68 law_text Tryz.underlying64 (unitElem (H := Unit)) b k _ rfl OM.out KB.out _ _ _ rfl rfl KEY.out (.agg []) [] unitElem_mk ?_; intro w6 own6 grow6)
          have C6 : Hid (Chg [b] w0 w6) := Lib.hid (RC.out.grown grow6 (fun i hi => by simp at hi; subst hi; exact .inl (by simp)))
          have OM6 : Hid (w6.ownsMap Tryz.prog 9 (unitElem (H := Unit)) b (k + 1) (textSet (dirsE (es.take (k + 1))))) := Lib.hid (by rw [ND.out, textSet_snoc]; exact own6)
          clear own6 grow6 z0 z1 z2 z3
          go_round
          case rel => exact ⟨k + 1, by omega, by go_num, PN, OM6, C6.out⟩
          case measure => simp [RowKit.intOf]; omega
        · skip
          have h1 : ((x.k == 2) : Bool) = false := by simpa using hk2
          have OM6 : Hid (w3.ownsMap Tryz.prog 9 (unitElem (H := Unit)) b (k + 1) (textSet (dirsE (es.take (k + 1))))) := Lib.hid (by
            have q : dirsE (es.take (k + 1)) = dirsE (es.take k) := by rw [ET.out]; exact dirs_snoc_no (by rw [← RX.out.k]; exact hk2)
            rw [q]
            obtain ⟨es', clock, a, c, d⟩ := OM.out
            exact ⟨es', clock, a, c, Nat.le_trans d.1 (Nat.le_succ _), d.2⟩)
          clear hk2
          go_wp2
          go_round
          case rel => exact ⟨k + 1, by omega, by go_num, PN, OM6, RC.out⟩
          case measure => simp [RowKit.intOf]; omega
    · obtain rfl : k = xs.length := by omega
      have i1 : ¬ (xs.length : Int) < (xs.length : Int) := by omega
      obtain rfl : v = 0 := by rw [← HV.out]; exact if_pos (by have q := PT.out; rw [HX.out.1] at q; exact q.all)
      clear HV NO
      go_wp2
      go_ret
      exact ⟨rfl, WC.out _ RC.out⟩
end
section
open Go.RowKit Go.Lib
set_option linter.unusedSimpArgs false
set_option linter.unusedVariables false

/-- A pair is stored into its place of a row. -/
theorem OwnK.setp7 {w : World} {g c : Nat} {xs : List PrT} (h : OwnK prTy w (some ⟨g, 0, none⟩) c xs) (j : Nat) (y x : PrT) (hx : xs[j]? = some y) :
    OwnK prTy (((((((w.setCell ⟨g, j * 7, none⟩ (.string x.p)).setCell ⟨g, j * 7 + 1, none⟩ (.int .i64 x.k)).setCell ⟨g, j * 7 + 2, none⟩ (.int .i64 x.m)).setCell ⟨g, j * 7 + 3, none⟩ (.slice x.A x.l x.c)).setCell ⟨g, j * 7 + 4, none⟩ (.int .i64 x.k2)).setCell ⟨g, j * 7 + 5, none⟩ (.int .i64 x.m2)).setCell ⟨g, j * 7 + 6, none⟩ (.slice x.B x.bl x.bc)) (some ⟨g, 0, none⟩) c (xs.set j x) := by
  have st : ∀ {ys : List PrT} {j : Nat} {y : PrT} (x : PrT), ys[j]? = some y → (ys.set j x)[j]? = some x := fun x h => by
    rw [List.getElem?_set]
    simp [(List.getElem?_eq_some_iff.1 h).1]
  have a0 := h.setc j 0 y ⟨x.p, y.k, y.m, y.A, y.l, y.c, y.k2, y.m2, y.B, y.bl, y.bc⟩ (.string x.p) hx (by decide) (fun q hq => by rcases q with _ | _ | _ | _ | _ | _ | _ | q <;> rfl)
  have a1 := a0.setc j 1 _ ⟨x.p, x.k, y.m, y.A, y.l, y.c, y.k2, y.m2, y.B, y.bl, y.bc⟩ (.int .i64 x.k) (st _ hx) (by decide) (fun q hq => by rcases q with _ | _ | _ | _ | _ | _ | _ | q <;> rfl)
  rw [List.set_set] at a1
  have a2 := a1.setc j 2 _ ⟨x.p, x.k, x.m, y.A, y.l, y.c, y.k2, y.m2, y.B, y.bl, y.bc⟩ (.int .i64 x.m) (st _ hx) (by decide) (fun q hq => by rcases q with _ | _ | _ | _ | _ | _ | _ | q <;> rfl)
  rw [List.set_set] at a2
  have a3 := a2.setc j 3 _ ⟨x.p, x.k, x.m, x.A, x.l, x.c, y.k2, y.m2, y.B, y.bl, y.bc⟩ (.slice x.A x.l x.c) (st _ hx) (by decide) (fun q hq => by rcases q with _ | _ | _ | _ | _ | _ | _ | q <;> rfl)
  rw [List.set_set] at a3
  have a4 := a3.setc j 4 _ ⟨x.p, x.k, x.m, x.A, x.l, x.c, x.k2, y.m2, y.B, y.bl, y.bc⟩ (.int .i64 x.k2) (st _ hx) (by decide) (fun q hq => by rcases q with _ | _ | _ | _ | _ | _ | _ | q <;> rfl)
  rw [List.set_set] at a4
  have a5 := a4.setc j 5 _ ⟨x.p, x.k, x.m, x.A, x.l, x.c, x.k2, x.m2, y.B, y.bl, y.bc⟩ (.int .i64 x.m2) (st _ hx) (by decide) (fun q hq => by rcases q with _ | _ | _ | _ | _ | _ | _ | q <;> rfl)
  rw [List.set_set] at a5
  have a6 := a5.setc j 6 _ x (.slice x.B x.bl x.bc) (st _ hx) (by decide) (fun q hq => by rcases q with _ | _ | _ | _ | _ | _ | _ | q <;> rfl)
  rw [List.set_set] at a6
  exact a6
theorem Chg.setp7 {S : List Nat} {w0 w : World} {g : Nat} (h : Chg S w0 w) (hg : g ∈ S ∨ w0.heap.size ≤ g) (o : Nat) (v0 v1 v2 v3 v4 v5 v6 : Value) :
    Chg S w0 (((((((w.setCell ⟨g, o, none⟩ v0).setCell ⟨g, o + 1, none⟩ v1).setCell ⟨g, o + 2, none⟩ v2).setCell ⟨g, o + 3, none⟩ v3).setCell ⟨g, o + 4, none⟩ v4).setCell ⟨g, o + 5, none⟩ v5).setCell ⟨g, o + 6, none⟩ v6) :=
  ((((((h.setCell (p := ⟨g, o, none⟩) hg v0).setCell (p := ⟨g, o + 1, none⟩) hg v1).setCell (p := ⟨g, o + 2, none⟩) hg v2).setCell (p := ⟨g, o + 3, none⟩) hg v3).setCell (p := ⟨g, o + 4, none⟩) hg v4).setCell (p := ⟨g, o + 5, none⟩) hg v5).setCell (p := ⟨g, o + 6, none⟩) hg v6
/-- What a search by a func tells: the first of which it is so; -1: none. -/
def IdxQ (es : List PrP) (p : PrP → Bool) (v : Int) : Prop := (v = -1 ∧ ∀ e ∈ es, p e = false) ∨ ∃ (k : Nat) (e : PrP), v = k ∧ es[k]? = some e ∧ p e = true ∧ ∀ e ∈ es.take k, p e = false
theorem all_take_noQ {es : List PrP} {p : PrP → Bool} {k : Nat} {e : PrP} (h : ∀ e ∈ es.take k, p e = false) (hk : es[k]? = some e) (he : p e = false) : ∀ e ∈ es.take (k + 1), p e = false := by
  intro x hx
  rw [List.take_add_one, hk] at hx
  rcases List.mem_append.1 hx with q | q
  · exact h x q
  · simp at q
    subst q
    exact he

theorem run_clearQ (w : World) (ty : TypeId) (g c n k : Nat) (full : List PrT) (hg : w.heap[g]? = some (.cells (prTy.flat full).toArray 50 (0, 0))) (hl : full.length = c) (hn : n ≤ c) (hk : k < n) :
    (Builtin.clear_ #[45] ty #[.slice (some ⟨g, k * 7, none⟩) (n - k) (c - k)]).run Tryz.prog w = .ok (.tuple #[]) (w.setRow g (prTy.flat (full.take k ++ List.replicate (n - k) prTy.z ++ full.drop n)).toArray) := by
  have hz := prTy.zeros (n - k)
  have hk2 : prTy.k = 7 := rfl
  have hlen : (prTy.flat full).length = full.length * 7 := prTy.flat_len full
  have hlz : (prTy.flat (List.replicate (n - k) prTy.z)).length = (n - k) * 7 := by rw [prTy.flat_len, List.length_replicate, hk2]
  have hst := run_storeCells_at (P := Tryz.prog) g (k * 7) 50 (prTy.flat (List.replicate (n - k) prTy.z)) 0 _ w hg (by rw [hlz, List.size_toArray, hlen]; omega) (prTy.flat_one _)
  have ht := prTy.flat_take full k
  have hd := prTy.flat_drop full n
  rw [hk2] at ht hd
  have hfin : ((prTy.flat full).toArray.toList.take (k * 7 + 0) ++ prTy.flat (List.replicate (n - k) prTy.z) ++ (prTy.flat full).toArray.toList.drop (k * 7 + 0 + (prTy.flat (List.replicate (n - k) prTy.z)).length)) = prTy.flat (full.take k ++ List.replicate (n - k) prTy.z ++ full.drop n) := by
    rw [prTy.flat_app, prTy.flat_app, ht, hd, hlz, show k * 7 + 0 + (n - k) * 7 = n * 7 by omega]
    rfl
  rw [hfin] at hst
  obtain ⟨m, hm⟩ : ∃ m, n - k = m + 1 := ⟨n - k - 1, by omega⟩
  have hzv : ∀ w, (zeroValue 50).run Tryz.prog w = .ok (.agg #[.string ⟨#[]⟩, .int .i64 0, .int .i64 0, .slice none 0 0, .int .i64 0, .int .i64 0, .slice none 0 0]) w := Tryz.zeroValue50
  have hzz : (Builtin.zeroCells (Value.agg #[.string ⟨#[]⟩, .int .i64 0, .int .i64 0, .slice none 0 0, .int .i64 0, .int .i64 0, .slice none 0 0]).cells (n - k)).toList = prTy.flat (List.replicate (n - k) prTy.z) := by
    exact (congrArg Array.toList hz).trans (by simp)
  rw [hm] at hst hzz ⊢
  simp [Builtin.clear_, run_underlying Tryz.underlying45, hzv, hzz, hst]
/-- Those that stay. -/
theorem filt_takeQ {es : List PrP} {q : PrP → Bool} {k : Nat} {e : PrP} (he : es[k]? = some e) : (es.take (k + 1)).filter q = (es.take k).filter q ++ (if q e = true then [e] else []) := by
  rw [List.take_add_one, he, List.filter_append]
  cases h : q e <;> simp [h]
theorem take_set_nextQ {α : Type} {zs : List α} {i : Nat} {x : α} (hi : i < zs.length) : (zs.set i x).take (i + 1) = zs.take i ++ [x] := by
  rw [List.take_add_one, List.getElem?_set, if_pos rfl, if_pos hi, List.take_set, List.set_eq_of_length_le (by rw [List.length_take]; omega)]
  rfl
set_option maxRecDepth 100000 in
set_option maxHeartbeats 4000000 in
theorem prfindex_any (w : World) (A : Option Addr) (c : Nat) (xs : List PrT) (es : List PrP) (gf : Nat) (lb : Array Value) (d : PrP → Bool) (eg : ∀ args w, (callFunc gf args).run Tryz.prog w = .ok (.enter gf args) w) (h : RdK prTy w A xs.length xs) (hx : PrsR w xs es) (hn : xs.length ≤ 100000) (hcall : ∀ (wr : World), Chg [] w wr → ∀ (i : Nat) (x : PrT) (e : PrP), xs[i]? = some x → es[i]? = some e → Calls Tryz.prog gf (#[.agg #[.string x.p, .int .i64 x.k, .int .i64 x.m, .slice x.A x.l x.c, .int .i64 x.k2, .int .i64 x.m2, .slice x.B x.bl x.bc]] ++ lb) wr fun r w' => r = .returned (.bool (d e)) ∧ Chg [] wr w') :
    Calls Tryz.prog 95 #[.slice A xs.length c, .func (.func gf) #[] lb] w fun r w' => (∃ v : Int, r = .returned (.int .i64 v) ∧ IdxQ es d v) ∧ Chg [] w w' := by
  have HA := Lib.hid h
  have HX := Lib.hid hx
  have HN := Lib.hid hn
  have HCALL := Lib.hid hcall
  have CLEARS : True := trivial
  clear CLEARS h hx hn hcall
  go_enter Tryz.func95, Tryz.ntmps95
  go_wp2
  go_loopw [5, 8] (fun v5 v8 wr => ∃ (k : Nat), k ≤ xs.length ∧ v8 = .int .i64 k ∧ Hid (∀ e ∈ es.take k, d e = false) ∧ Hid (Chg [] w wr)) (fun _ v8 _ => xs.length - (RowKit.intOf v8).toNat)
  case atStart => exact ⟨0, Nat.zero_le _, rfl, Lib.hid (by simp), Chg.refl _ _⟩
  case round =>
    obtain ⟨k, hk, rfl, FN_, RC⟩ := hrel
    have i0 : (0 : Int) ≤ (k : Int) := by omega
    by_cases hlt : k < xs.length
    · have i1 : (k : Int) < (xs.length : Int) := by omega
      have i3 : IntKind.i64.wrap ((k : Int) + 1) = (k : Int) + 1 := IntWalk.i64_in _ (by have := HN.out; omega)
      obtain ⟨x, e, ex, ee, rx⟩ := HX.out.at_ hlt
      obtain ⟨g, o, eA, _⟩ := HA.out.line (by omega)
      subst eA
      obtain ⟨z0, z1, z2, z3, z4, z5, z6⟩ := prCells (HA.out.chg RC.out (by simp)) ex
      have EE := Lib.hid ee
      have CL := Lib.hid (HCALL.out wr RC.out _ x e ex ee)
      clear ex ee rx
      go_wp2_with fail
      refine CL.out.mono ?_
      rintro r w2 ⟨rfl, hc⟩
      have C2 := Lib.hid (RC.out.trans hc)
      clear hc CL z0 z1 z2 z3 z4 z5 z6
      rcases hb : d e with _ | _
      · have FN1 := Lib.hid (all_take_noQ FN_.out EE.out hb)
        clear hb FN_
        go_wp2
        go_round
        case rel => exact ⟨k + 1, by omega, by go_num, FN1, C2⟩
        case measure => simp [RowKit.intOf]; omega
      · have AN : Hid (IdxQ es d (k : Int)) := Lib.hid (.inr ⟨k, e, rfl, EE.out, hb, FN_.out⟩)
        clear hb FN_
        go_wp2
        go_ret
        exact ⟨⟨k, rfl, AN.out⟩, C2.out⟩
    · obtain rfl : k = xs.length := by omega
      have ET : es.take xs.length = es := by rw [HX.out.1]; exact List.take_length
      rw [ET] at FN_
      clear ET
      have i1 : ¬ (xs.length : Int) < (xs.length : Int) := by omega
      go_wp2
      go_ret
      exact ⟨⟨-1, rfl, .inl ⟨rfl, FN_.out⟩⟩, RC.out⟩

set_option maxRecDepth 100000 in
set_option maxHeartbeats 16000000 in
theorem prfdel_S (S0 : List Nat) (wb w0 w : World) (A : Option Addr) (c : Nat) (xs : List PrT) (es : List PrP) (gf : Nat) (lb : Array Value) (d : PrP → Bool) (eg : ∀ args w, (callFunc gf args).run Tryz.prog w = .ok (.enter gf args) w) (hxw : PrsR w xs es) (h0 : Chg S0 w0 w) (h : OwnK prTy w A c xs) (hA : ∀ a, A = some a → a.block ∈ S0 ∨ w0.heap.size ≤ a.block) (hx : PrsR wb xs es) (hn : xs.length ≤ 100000) (hcall : ∀ (wr : World), Chg S0 w0 wr → ∀ (i : Nat) (x : PrT) (e : PrP), xs[i]? = some x → es[i]? = some e → Calls Tryz.prog gf (#[.agg #[.string x.p, .int .i64 x.k, .int .i64 x.m, .slice x.A x.l x.c, .int .i64 x.k2, .int .i64 x.m2, .slice x.B x.bl x.bc]] ++ lb) wr fun r w' => r = .returned (.bool (d e)) ∧ Chg [] wr w') :
    Calls Tryz.prog 63 #[.slice A xs.length c, .func (.func gf) #[] lb] w fun r w' => ∃ ys : List PrT, r = .returned (.slice A ys.length c) ∧ ys.length ≤ xs.length ∧ PrsR wb ys (es.filter (fun e => !d e)) ∧ OwnK prTy w' A c ys ∧ Chg S0 w0 w' := by
  have IX := Lib.hid (prfindex_any w A c xs es gf lb d eg h.reads hxw hn (fun wr hc => hcall wr (h0.trans (hc.mono (by simp)))))
  have W1C := Lib.hid hcall
  have O0 := Lib.hid h
  have C0 := Lib.hid h0
  have NA := Lib.hid hA
  have HX := Lib.hid hx
  have HN := Lib.hid hn
  clear h h0 hxw hA hx hn hcall
  go_enter Tryz.func63, Tryz.ntmps63
  go_wp2_with fail
  refine IX.out.mono ?_
  rintro r w1 ⟨⟨v, rfl, hv⟩, hc⟩
  have C1 := Lib.hid (C0.out.trans (hc.mono (by simp)))
  have O1 := Lib.hid (O0.out.chg hc (by simp))
  clear hc O0 C0 IX
  rcases hv with ⟨rfl, no⟩ | ⟨k, e, rfl, ek, pk, nk⟩
  · have ES : Hid (es.filter (fun e => !d e) = es) := Lib.hid (List.filter_eq_self.2 (fun e he => by have q : d e = false := no e he; rw [q]; rfl))
    clear no
    go_wp2
    go_ret
    exact ⟨xs, rfl, Nat.le_refl _, by rw [ES.out]; exact HX.out, O1.out, C1.out⟩
  · have kl : k < xs.length := by rw [HX.out.1]; exact (List.getElem?_eq_some_iff.1 ek).1
    have F0 : Hid ((es.take (k + 1)).filter (fun e => !d e) = es.take k) := Lib.hid (by
      rw [filt_takeQ ek]
      have pk : d e = true := pk
      simp only [pk, Bool.not_true, Bool.false_eq_true, if_false, List.append_nil]
      exact List.filter_eq_self.2 (fun e he => by have q : d e = false := nk e he; rw [q]; rfl))
    have E0 : Hid (PrsR wb (xs.take k) (es.take k)) := Lib.hid ⟨by rw [List.length_take, List.length_take, HX.out.1], fun i x d hx hd => by
      rw [List.getElem?_take] at hx hd
      split at hx
      · rename_i q; rw [if_pos q] at hd; exact HX.out.2 i x d hx hd
      · cases hx⟩
    obtain ⟨g, eA, _⟩ : ∃ g, A = some ⟨g, 0, none⟩ ∧ g < w1.heap.size := by
      rcases O1.out.shape with ⟨_, q, _⟩ | q
      · rw [q] at kl; simp at kl
      · exact q
    subst eA
    have CP := Lib.hid O1.out.cap
    have n1 : ¬ ((k : Int) = -1) := by omega
    have n2 : (((k : Int) == -1) : Bool) = false := by first | (simp; done) | (simp; omega)
    have n3 : IntKind.i64.wrap ((k : Int) + 1) = ((k + 1 : Nat) : Int) := by rw [IntWalk.i64_in _ (by have := HN.out; omega)]; omega
    have KL := Lib.hid kl
    clear ek pk nk kl
    go_upto_region 5 with fail
    go_loopw [5, 6] (fun v5 v6 wr => ∃ (i j : Nat) (zs : List PrT), i + 1 ≤ j ∧ j ≤ xs.length ∧ v5 = .int .i64 i ∧ v6 = .int .i64 j ∧ Hid (zs.length = xs.length ∧ zs.drop j = xs.drop j) ∧ Hid (PrsR wb (zs.take i) ((es.take j).filter (fun e => !d e))) ∧ Hid (OwnK prTy wr (some ⟨g, 0, none⟩) c zs) ∧ Hid (Chg S0 w0 wr)) (fun _ v6 _ => xs.length - (RowKit.intOf v6).toNat)
    case atStart => exact ⟨k, k + 1, xs, Nat.le_refl _, KL.out, rfl, rfl, Lib.hid ⟨rfl, rfl⟩, Lib.hid (by rw [F0.out]; exact E0.out), O1, C1⟩
    case round =>
      obtain ⟨i, j, zs, hij, hj, rfl, rfl, ZL, RE, RO, RC⟩ := hrel
      have i0 : (0 : Int) ≤ (i : Int) := by omega
      have j0 : (0 : Int) ≤ (j : Int) := by omega
      by_cases hlt : j < xs.length
      · have j1 : (j : Int) < (xs.length : Int) := by omega
        have i1 : (i : Int) < (xs.length : Int) := by omega
        have j3 : IntKind.i64.wrap ((j : Int) + 1) = (j : Int) + 1 := IntWalk.i64_in _ (by have := HN.out; omega)
        have i3 : IntKind.i64.wrap ((i : Int) + 1) = (i : Int) + 1 := IntWalk.i64_in _ (by have := HN.out; omega)
        obtain ⟨x, e, ex, ee, rx⟩ := HX.out.at_ hlt
        have zx : zs[j]? = some x := by rw [getElem?_of_drop ZL.out.2 (Nat.le_refl _)]; exact ex
        obtain ⟨z0, z1, z2, z3, z4, z5, z6⟩ := prCells RO.out.reads zx
        rw [Nat.zero_add] at z0 z1 z2 z3 z4 z5 z6
        have EE := Lib.hid ee
        have RX := Lib.hid rx
        have EX := Lib.hid ex
        clear ex ee rx zx
        obtain ⟨w2, hw2, c2, b2⟩ := news1 wr (.cells #[.string x.p, .int .i64 x.k, .int .i64 x.m, .slice x.A x.l x.c, .int .i64 x.k2, .int .i64 x.m2, .slice x.B x.bl x.bc] 50)
        have W2 := Lib.hid hw2
        have B2 := Lib.hid b2
        have SB : Hid (g ≠ wr.heap.size) := Lib.hid (by
          have := RO.out.lt_ _ rfl
          intro q
          rw [q] at this
          exact Nat.lt_irrefl _ this)
        replace RO := Lib.hid (RO.out.chg c2 (by simp))
        replace RC := Lib.hid (RC.out.trans (c2.mono (by simp)))
        clear hw2 c2 b2
        go_upto_region 8 with fail
        rw [← W2.out]
        generalize wr.heap.size = s2 at *
        clear W2 z0 z1 z2 z3 z4 z5 z6
        have y0 := cell_of B2.out 0
        have y1 := cell_of B2.out 1
        have y2 := cell_of B2.out 2
        have y3 := cell_of B2.out 3
        have y4 := cell_of B2.out 4
        have y5 := cell_of B2.out 5
        have y6 := cell_of B2.out 6
        simp only [List.getElem?_toArray, List.getElem?_cons_succ, List.getElem?_cons_zero] at y0 y1 y2 y3 y4 y5 y6
        have CC := Lib.hid (W1C.out w2 RC.out _ x e EX.out EE.out)
        go_wp2_with fail
        refine CC.out.mono ?_
        rintro r w3 ⟨rfl, hc⟩
        replace RO := Lib.hid (RO.out.chg hc (by simp))
        replace RC := Lib.hid (RC.out.trans (hc.mono (by simp)))
        replace B2 := Lib.hid (hc.at_ B2.out (by simp))
        clear hc CC y0 y1 y2 y3 y4 y5 y6
        rcases ha : d e with _ | _
        · have FT : Hid ((es.take (j + 1)).filter (fun e => !d e) = (es.take j).filter (fun e => !d e) ++ [e]) := Lib.hid (by rw [filt_takeQ EE.out]; simp [ha])
          clear ha
          have y0 := cell_of B2.out 0
          have y1 := cell_of B2.out 1
          have y2 := cell_of B2.out 2
          have y3 := cell_of B2.out 3
          have y4 := cell_of B2.out 4
          have y5 := cell_of B2.out 5
          have y6 := cell_of B2.out 6
          simp only [List.getElem?_toArray, List.getElem?_cons_succ, List.getElem?_cons_zero] at y0 y1 y2 y3 y4 y5 y6
          obtain ⟨u, hu⟩ : ∃ u, zs[i]? = some u := ⟨_, List.getElem?_eq_getElem (by rw [ZL.out.1]; omega)⟩
          obtain ⟨z0, z1, z2, z3, z4, z5, z6⟩ := prCells RO.out.reads hu
          rw [Nat.zero_add] at z0 z1 z2 z3 z4 z5 z6
          have F3 : ∀ j, w3.frozen? ⟨g, j, none⟩ = false := fun j => by
            rcases RO.out with ⟨h, _⟩ | ⟨g', full, e, hg, _⟩
            · cases h
            · cases e; exact free_of hg j
          have f0 := F3 (i * 7)
          have f1 := F3 (i * 7 + 1)
          have f2 := F3 (i * 7 + 2)
          have f3 := F3 (i * 7 + 3)
          have f4 := F3 (i * 7 + 4)
          have f5 := F3 (i * 7 + 5)
          have f6 := F3 (i * 7 + 6)
          have RO4 := Lib.hid (RO.out.setp7 i _ x hu)
          have RC4 := Lib.hid (RC.out.setp7 (g := g) (NA.out _ rfl) (i * 7) (.string x.p) (.int .i64 x.k) (.int .i64 x.m) (.slice x.A x.l x.c) (.int .i64 x.k2) (.int .i64 x.m2) (.slice x.B x.bl x.bc))
          have ZL4 : Hid ((zs.set i x).length = xs.length ∧ (zs.set i x).drop (j + 1) = xs.drop (j + 1)) := Lib.hid ⟨by rw [List.length_set]; exact ZL.out.1, by
            rw [List.drop_set_of_lt (by omega)]
            have := congrArg (List.drop 1) ZL.out.2
            simpa [List.drop_drop] using this⟩
          have RE4 : Hid (PrsR wb ((zs.set i x).take (i + 1)) ((es.take (j + 1)).filter (fun e => !d e))) := Lib.hid (by
            rw [FT.out, take_set_nextQ (by rw [ZL.out.1]; omega)]
            exact RE.out.snoc RX.out)
          clear F3 hu
          go_upto_region 10 with fail
          clear z0 z1 z2 z3 z4 z5 z6 f0 f1 f2 f3 f4 f5 f6 y0 y1 y2 y3 y4 y5 y6
          generalize (((((((w3.setCell ⟨g, i * 7, none⟩ (.string x.p)).setCell ⟨g, i * 7 + 1, none⟩ (.int .i64 x.k)).setCell ⟨g, i * 7 + 2, none⟩ (.int .i64 x.m)).setCell ⟨g, i * 7 + 3, none⟩ (.slice x.A x.l x.c)).setCell ⟨g, i * 7 + 4, none⟩ (.int .i64 x.k2)).setCell ⟨g, i * 7 + 5, none⟩ (.int .i64 x.m2)).setCell ⟨g, i * 7 + 6, none⟩ (.slice x.B x.bl x.bc)) = w4 at *
          go_wp2
          go_round
          case rel => exact ⟨i + 1, j + 1, zs.set i x, by omega, by omega, by go_num, by go_num, ZL4, RE4, RO4, RC4⟩
          case measure => simp [RowKit.intOf]; omega
        · have FT : Hid ((es.take (j + 1)).filter (fun e => !d e) = (es.take j).filter (fun e => !d e)) := Lib.hid (by rw [filt_takeQ EE.out]; simp [ha])
          clear ha
          have ZL4 : Hid (zs.length = xs.length ∧ zs.drop (j + 1) = xs.drop (j + 1)) := Lib.hid ⟨ZL.out.1, by
            have := congrArg (List.drop 1) ZL.out.2
            simpa [List.drop_drop] using this⟩
          rw [← FT.out] at RE
          go_wp2
          go_round
          case rel => exact ⟨i, j + 1, zs, by omega, by omega, rfl, by go_num, ZL4, RE, RO, RC⟩
          case measure => simp [RowKit.intOf]; omega
      · obtain rfl : j = xs.length := by omega
        have j1 : ¬ (xs.length : Int) < (xs.length : Int) := by omega
        have ET : es.take xs.length = es := by rw [HX.out.1]; exact List.take_length
        rw [ET] at RE
        clear ET
        obtain ⟨full, hg, hfl, hcm, hzl, hft⟩ : ∃ full, wr.heap[g]? = some (.cells (prTy.flat full).toArray 50 (0, 0)) ∧ full.length = c ∧ c ≤ maxLen ∧ zs.length ≤ c ∧ full.take zs.length = zs := by
          rcases RO.out with ⟨h, _⟩ | ⟨g', full, e, hg, h1, h2, h3, h4⟩
          · cases h
          · cases e; exact ⟨full, hg, h1, h2, h3, h4⟩
        have il : i < xs.length := by omega
        have nc : xs.length ≤ c := by rw [← ZL.out.1]; exact hzl
        have hcl := fun ty => run_clearQ wr ty g c xs.length i full hg hfl nc il
        have hown := OwnK.of (R := prTy) (w := wr.setRow g (prTy.flat (full.take i ++ (List.replicate (xs.length - i) prTy.z ++ full.drop xs.length))).toArray) (g := g) (c := c) (full := full.take i ++ (List.replicate (xs.length - i) prTy.z ++ full.drop xs.length)) (xs := zs.take i) (setRow_heap wr g _ _ _ _ hg) (by rw [List.length_take, ZL.out.1]; omega) hcm (by simp; omega) (by
          have e1 : (zs.take i).length = i := by rw [List.length_take, ZL.out.1]; omega
          rw [e1, List.take_append_of_le_length (by rw [List.length_take, hfl]; omega), List.take_take, Nat.min_self, ← hft, List.take_take, Nat.min_eq_left (by rw [ZL.out.1]; omega)])
        have hch : Chg S0 w0 (wr.setRow g (prTy.flat (full.take i ++ (List.replicate (xs.length - i) prTy.z ++ full.drop xs.length))).toArray) := RC.out.trans' (S' := [g]) ⟨rfl, rfl, rfl, by simp, fun j hj hn => setRow_other wr g j _ (by simpa using hn)⟩ (fun j hj => by simp at hj; subst hj; exact NA.out _ rfl)
        have HE := Lib.hid (And.intro hown hch)
        have IL : Hid ((zs.take i).length = i) := Lib.hid (by rw [List.length_take, ZL.out.1]; omega)
        have j7 : (i : Int) ≤ (xs.length : Int) := by omega
        have j8 : (i : Int) ≤ (c : Int) := by omega
        have j9 : i ≤ xs.length := by omega
        have j6 : ¬ c = i := by omega
        clear hown hch hg hfl hcm hzl hft
        go_wp2
        go_ret
        exact ⟨zs.take i, by rw [IL.out]; rfl, by rw [IL.out]; omega, RE.out, HE.out.1, HE.out.2⟩
end
section
open Go.RowKit

/-- How two effects compare. -/
def cmpE (k m : Int) (xs : List UInt8) (k' m' : Int) (ys : List UInt8) : Int := or3 (cmpI k k') (cmpI m m') (Lib.compareBytes xs ys)

set_option maxHeartbeats 1000000 in
theorem ecompare_any (w : World) (k m k' m' : Int) (A B : Option Addr) (n c n' d : Nat) (xs ys : List UInt8) (h : Bs w A n xs) (h' : Bs w B n' ys) :
    Calls Tryz.prog 96 #[.agg #[.int .i64 k, .int .i64 m, .slice A n c], .agg #[.int .i64 k', .int .i64 m', .slice B n' d]] w fun e w' => e = .returned (.int .i64 (cmpE k m xs k' m' ys)) ∧ Chg [] w w' := by
  obtain ⟨w0, hw0⟩ : ∃ w0 : World, w0 = (w.alloc (.cells #[.int .i64 k, .int .i64 m, .slice A n c] 25)).alloc (.cells #[.int .i64 k', .int .i64 m', .slice B n' d] 25) := ⟨_, rfl⟩
  have c0 : Chg [] w w0 := hw0 ▸ ((Chg.refl [] w).alloc _).alloc _
  have b0 : w0.heap[w.heap.size]? = some (.cells #[.int .i64 k, .int .i64 m, .slice A n c] 25 (0, 0)) := hw0 ▸ ((Chg.refl [] _).alloc _).at_ (heap_alloc_new w _) (by simp)
  have b1 : w0.heap[w.heap.size + 1]? = some (.cells #[.int .i64 k', .int .i64 m', .slice B n' d] 25 (0, 0)) := hw0 ▸ heap_alloc_two w _ _
  have k0 := cell_of b0 0
  have k1 := cell_of b0 1
  have k2 := cell_of b0 2
  have k3 := cell_of b1 0
  have k4 := cell_of b1 1
  have k5 := cell_of b1 2
  simp only [List.getElem?_toArray, List.getElem?_cons_succ, List.getElem?_cons_zero] at k0 k1 k2 k3 k4 k5
  have g0 := lt_of_heap b0
  have g1 := lt_of_heap b1
  have H := Lib.hid (h.chg c0 (by simp))
  have H' := Lib.hid (h'.chg c0 (by simp))
  have W0 := Lib.hid hw0
  have C0 := Lib.hid c0
  clear hw0 c0 b0 b1 h h'
  unfold cmpE
  have hz : ∀ j, ¬ (w0.heap.size = w.heap.size) := fun _ => by omega
  generalize hr : or3 (cmpI k k') (cmpI m m') (Lib.compareBytes xs ys) = R
  have HR := Lib.hid hr
  clear hr hz
  go_enter Tryz.func96, Tryz.ntmps96
  go_wp2
  rw [← W0.out]
  have n1 := World.new_ne w0 ⟨w.heap.size, 0, none⟩ k0
  have n2 := World.new_ne w0 ⟨w.heap.size + 1, 0, none⟩ k3
  generalize w.heap.size + 1 = s1 at *
  generalize w.heap.size = s0 at *
  go_region_held3 (fun w' => w'.cell? ⟨s0, 0, none⟩ = some (.int .i64 k) ∧ w'.cell? ⟨s0, 1, none⟩ = some (.int .i64 m) ∧ w'.cell? ⟨s0, 2, none⟩ = some (.slice A n c) ∧ w'.cell? ⟨s1, 0, none⟩ = some (.int .i64 k') ∧ w'.cell? ⟨s1, 1, none⟩ = some (.int .i64 m') ∧ w'.cell? ⟨s1, 2, none⟩ = some (.slice B n' d)) (first | exact ⟨k0, k1, k2, k3, k4, k5⟩ | go_keep)
    ((first
      | (go_at_call 115; refine (cmpint_any _ _ _).mono ?_; rintro e w1 ⟨rfl, rfl⟩)
      | (go_at_call 116; refine (bcmp_any _ A B n n' c d xs ys (by first | exact H.out.chg (Chg.refl [] w0).drew (by simp) | exact H.out.chg ((Chg.refl [] w0).alloc _).drew (by simp)) (by first | exact H'.out.chg (Chg.refl [] w0).drew (by simp) | exact H'.out.chg ((Chg.refl [] w0).alloc _).drew (by simp))).mono ?_; rintro e w1 ⟨rfl, rfl⟩)))
  all_goals
    go_wp2_with fail
    refine (or3_any _ w0.heap.size (cmpI k k') (cmpI m m') (Lib.compareBytes xs ys) (show (w0.alloc _).drew.heap[_]? = _ from heap_alloc_new w0 _)).mono ?_
    rintro e w1 ⟨rfl, rfl⟩
    go_wp2
    go_ret
    exact ⟨by rw [HR.out]; rfl, (C0.out.alloc _).drew⟩

set_option maxHeartbeats 400000 in
theorem esame_any (w : World) (k m k' m' : Int) (A B : Option Addr) (n c n' d : Nat) (xs ys : List UInt8) (h : Bs w A n xs) (h' : Bs w B n' ys) :
    Calls Tryz.prog 65 #[.agg #[.int .i64 k, .int .i64 m, .slice A n c], .agg #[.int .i64 k', .int .i64 m', .slice B n' d]] w fun e w' => e = .returned (.bool (cmpE k m xs k' m' ys == 0)) ∧ Chg [] w w' := by
  have c0 := ((Chg.refl [] w).alloc (.cells #[.int .i64 k, .int .i64 m, .slice A n c] 25)).alloc (.cells #[.int .i64 k', .int .i64 m', .slice B n' d] 25)
  have C0 := Lib.hid c0
  have H := Lib.hid (h.chg c0 (by simp))
  have H' := Lib.hid (h'.chg c0 (by simp))
  clear c0 h h'
  go_enter Tryz.func65, Tryz.ntmps65
  go_wp2_with fail
  refine (ecompare_any _ k m k' m' A B n c n' d xs ys H.out H'.out).mono ?_
  rintro e w1 ⟨rfl, c1⟩
  have C1 := Lib.hid (C0.out.trans c1)
  clear c1
  go_wp2
  go_ret
  exact ⟨rfl, C1.out⟩
end
end Go.Proofs.YtimdfpejgaidhaaGreatDoor
