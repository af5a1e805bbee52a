/- table.anyUnder, parentIs. A tree, checked entry by entry: purely. Sets of texts. table.Check. A tree of which a path is moved: purely. order.Of over texts. Where an entry stands in a tree: purely. An entry is looked for by its path. An entry laid in the midst of others. slices.Clone of entries. A new row of zeros. fresh.list of entries. table.Under. -/
import Derived.Test.YtimdfpejgaidhaaGreatDoorZtbak
import Derived.Test.YtimdfpejgaidhaaGreatDoorZtbab
import Derived.Test.YtimdfpejgaidhaaGreatDoorZtbac
import Derived.Deep.Cut
import Derived.Test.YtimdfpejgaidhaaGreatDoorZtbaa
import Derived.Maps.OwnSet
import Derived.DeepKeys4
import Derived.StringKeys
import Derived.Deep.RegionHeld3
import Derived.Test.YtimdfpejgaidhaaGreatDoorZtbad
namespace Go.Proofs.YtimdfpejgaidhaaGreatDoor
section
open Go.RowKit Go.Lib
set_option linter.unusedSimpArgs false
set_option linter.unusedVariables false

set_option maxRecDepth 100000 in
set_option maxHeartbeats 4000000 in
theorem tbany1_any (w : World) (x : EnT) (e : EnP) (h : EnR w x e) (hs : e.p.length ≤ 10000000) (gb : Nat) (p : List UInt8) (hp : p.length ≤ 10000000) (hb : w.heap[gb]? = some (.cells #[.string (strOf p)] 9 (0, 0))) :
    Calls Tryz.prog 107 #[.agg #[.string x.p, .int .i64 x.k, .int .i64 x.m, .slice x.A x.l x.c], .pointer (some ⟨gb, 0, none⟩)] w fun r w' => r = .returned (.bool (underL p e.p)) ∧ Chg [] w w' := by
  obtain ⟨w1, hw, hc, b0⟩ := news1 w (.cells #[.string x.p, .int .i64 x.k, .int .i64 x.m, .slice x.A x.l x.c] 55)
  have W1 := Lib.hid hw
  have C := Lib.hid hc
  have y0 := cell_of (hc.at_ hb (by simp)) 0
  have z0 := cell_of b0 0
  have z1 := cell_of b0 1
  have z2 := cell_of b0 2
  have z3 := cell_of b0 3
  simp only [List.getElem?_toArray, List.getElem?_cons_succ, List.getElem?_cons_zero] at y0 z0 z1 z2 z3
  have UX : Hid (∀ w', Calls Tryz.prog 30 #[.string (strOf p), .string x.p] w' fun r w2 => r = .returned (.bool (underL p e.p)) ∧ Chg [] w' w2) := Lib.hid (fun w' => by
    rw [h.p]
    exact (phunder_any w' p e.p (by omega) (by omega)).mono fun r w2 ⟨a, b⟩ => ⟨a, below_chgN b⟩)
  clear hw hc b0 h hb hs hp
  go_enter Tryz.func107, Tryz.ntmps107
  go_upto_region 1 with fail
  rw [← W1.out]
  generalize w.heap.size = g0 at *
  clear W1
  go_wp2_with fail
  refine (UX.out w1).mono ?_
  rintro r w2 ⟨rfl, hc⟩
  replace C := Lib.hid (C.out.trans hc)
  clear hc UX y0 z0 z1 z2 z3
  go_wp2
  go_ret
  exact ⟨rfl, C.out⟩
set_option maxRecDepth 100000 in
set_option maxHeartbeats 4000000 in
theorem tbany_any (w : World) (A : Option Addr) (c : Nat) (xs : List EnT) (es : List EnP) (p : List UInt8) (hp : p.length ≤ 10000000) (h : RdK enTy w A xs.length xs) (hx : EnsR w xs es) (hn : xs.length ≤ 100000) (hs : ∀ e ∈ es, e.p.length ≤ 10000000) :
    Calls Tryz.prog 76 #[.slice A xs.length c, .string (strOf p)] w fun r w' => r = .returned (.bool (anyT es p)) ∧ Chg [] w w' := by
  obtain ⟨w1, hw, hc, b0⟩ := news1 w (.cells #[.string (strOf p)] 9)
  have W1 := Lib.hid hw
  have C := Lib.hid hc
  have IX := Lib.hid (enfcontains_any w1 A c xs es 107 #[.pointer (some ⟨w.heap.size, 0, none⟩)] (fun e => underL p e.p) (enters_of Tryz.func107 (by kernel_rfl) rfl) (h.chg hc (by simp)) (hx.chg hc) hn (fun wr hcc i x e ex ee => tbany1_any wr x e ((hx.2 i x e ex ee).chg (hc.trans hcc)) (hs e (List.mem_of_getElem? ee)) w.heap.size p hp (hcc.at_ b0 (by simp))))
  clear hw hc b0 h hx hn hs hp
  go_enter Tryz.func76, Tryz.ntmps76
  go_upto_region 1 with fail
  rw [← W1.out]
  generalize w.heap.size = g0 at *
  clear W1
  go_wp2_with fail
  refine IX.out.mono ?_
  rintro r w2 ⟨rfl, hc⟩
  have C2 := Lib.hid (C.out.trans hc)
  clear hc IX
  go_wp2
  go_ret
  exact ⟨rfl, C2.out⟩
set_option maxRecDepth 100000 in
set_option maxHeartbeats 4000000 in
theorem tbparent_any (w : World) (A : Option Addr) (c : Nat) (xs : List EnT) (es : List EnP) (p : List UInt8) (hp : p.length ≤ 10000000) (h : RdK enTy w A xs.length xs) (hx : EnsR w xs es) (hn : xs.length ≤ 100000) :
    Calls Tryz.prog 72 #[.slice A xs.length c, .string (strOf p)] w fun r w' => r = .returned (.int .i64 (parT es p)) ∧ Chg [] w w' := by
  have HA := Lib.hid h
  have HX := Lib.hid hx
  have PX : Hid (Calls Tryz.prog 43 #[.string (strOf p)] w fun r w2 => r = .returned (.tuple #[.string (strOf (parentL p)), .bool (hasParent p)]) ∧ Chg [] w w2) := Lib.hid ((phparent_any w p (by omega)).mono fun r w2 ⟨a, b⟩ => ⟨a, below_chgN b⟩)
  have FI : Hid (∀ w', Chg [] w w' → Calls Tryz.prog 40 #[.slice A xs.length c, .string (strOf (parentL p))] w' fun r w2 => (∃ v : Int, r = .returned (.int .i64 v) ∧ findT es (parentL p) v) ∧ Chg [] w' w2) := Lib.hid (fun w' hc => tbfind_any w' A c xs es (parentL p) (h.chg hc (by simp)) (hx.chg hc) hn)
  generalize hv : parT es p = v
  have HV := Lib.hid hv
  clear h hx hn hp hv
  go_enter Tryz.func72, Tryz.ntmps72
  go_wp2_with fail
  refine PX.out.mono ?_
  rintro r w1 ⟨rfl, hc⟩
  have C := Lib.hid hc
  clear hc PX
  rcases hh : hasParent p with _ | _
  · obtain rfl : v = 0 := by rw [← HV.out]; unfold parT; rw [hh]; rfl
    clear hh HV
    go_wp2
    go_ret
    exact ⟨rfl, C.out⟩
  have HP := Lib.hid hh
  clear hh
  go_wp2_with fail
  refine (FI.out w1 C.out).mono ?_
  rintro r w2 ⟨⟨u, rfl, hu⟩, hc⟩
  have FV := Lib.hid (find_get hu)
  replace C := Lib.hid (C.out.trans hc)
  clear hu hc FI
  rcases FV.out with ⟨rfl, hg⟩ | ⟨k, e, rfl, ek, hg⟩
  · obtain rfl : v = 6 := by rw [← HV.out]; unfold parT; rw [HP.out, hg]; rfl
    clear hg FV HV
    go_wp2
    go_ret
    exact ⟨rfl, C.out⟩
  · have kl : k < xs.length := by rw [HX.out.1]; exact (List.getElem?_eq_some_iff.1 ek).1
    obtain ⟨x, e', ex, ee, rx⟩ := HX.out.at_ kl
    rw [ek] at ee
    cases ee
    obtain ⟨g, o, eA, _⟩ := HA.out.line (by omega)
    subst eA
    obtain ⟨z0, z1, z2, z3⟩ := enCells (HA.out.chg C.out (by simp)) ex
    have KE : Hid (x.k = e.k) := Lib.hid rx.k
    have VE : Hid (v = if e.k = 2 then 0 else 12) := Lib.hid (by rw [← HV.out]; unfold parT; rw [HP.out, hg]; rfl)
    have k0 : (0 : Int) ≤ (k : Int) := by omega
    have k1 : (k : Int) < (xs.length : Int) := by omega
    have k2 : ¬ (k : Int) < 0 := by omega
    clear hg FV ek ex rx kl HV
    by_cases hk : x.k = 2
    · have h1 : ((x.k == 2) : Bool) = true := by simpa using hk
      have h2 : ((x.k != 2) : Bool) = false := by unfold bne; rw [h1]; rfl
      obtain rfl : v = 0 := by rw [VE.out, if_pos (KE.out ▸ hk)]
      clear hk VE
      go_wp2
      go_ret
      exact ⟨rfl, C.out⟩
    · have h1 : ((x.k == 2) : Bool) = false := by simpa using hk
      have h2 : ((x.k != 2) : Bool) = true := by unfold bne; rw [h1]; rfl
      obtain rfl : v = 12 := by rw [VE.out, if_neg (fun q => hk (KE.out.trans q))]
      clear hk VE
      go_wp2
      go_ret
      exact ⟨rfl, C.out⟩
end
section
open Go.RowKit Go.Lib
set_option linter.unusedSimpArgs false
set_option linter.unusedVariables false

/-- The first k entries are as those of a tree. -/
def PreT (t : List EnP) (k : Nat) : Prop := (∀ e ∈ t.take k, Stands e) ∧ (t.take k).Pairwise ltT ∧ ∀ e ∈ t.take k, parT t e.p = 0
theorem PreT.zero (t : List EnP) : PreT t 0 := ⟨by simp, by simp, by simp⟩
theorem PreT.next {t : List EnP} {k : Nat} {e : EnP} (h : PreT t k) (he : t[k]? = some e) (hs : Stands e) (hl : ∀ f, 0 < k → t[k - 1]? = some f → ltT f e) (hp : parT t e.p = 0) : PreT t (k + 1) := by
  have ht : t.take (k + 1) = t.take k ++ [e] := by rw [List.take_add_one, he]; rfl
  unfold PreT
  rw [ht]
  refine ⟨fun y hy => ?_, ?_, fun y hy => ?_⟩
  · rcases List.mem_append.1 hy with q | q
    · exact h.1 y q
    · simp at q; rw [q]; exact hs
  · rw [List.pairwise_append]
    refine ⟨h.2.1, List.pairwise_singleton _ _, fun y hy z hz => ?_⟩
    simp at hz
    subst hz
    obtain ⟨i, hi, rfl⟩ := List.getElem_of_mem hy
    have hk : 0 < k := by rw [List.length_take] at hi; omega
    have kl := (List.getElem?_eq_some_iff.1 he).1
    have hkl : k - 1 < (t.take k).length := by rw [List.length_take]; omega
    have hlast : ltT ((t.take k)[k - 1]) z := by
      have e1 : (t.take k)[k - 1] = t[k - 1] := by rw [List.getElem_take]
      rw [e1]
      exact hl _ hk (List.getElem?_eq_getElem (by omega))
    by_cases q : i = k - 1
    · subst q; exact hlast
    · exact ltT_tr _ _ _ (List.pairwise_iff_getElem.1 h.2.1 i (k - 1) hi hkl (by rw [List.length_take] at hi; omega)) hlast
  · rcases List.mem_append.1 hy with q | q
    · exact h.2.2 y q
    · simp at q; rw [q]; exact hp
theorem PreT.all {t : List EnP} (h : PreT t t.length) : TabOk t := by
  unfold PreT at h
  rw [List.take_length] at h
  exact ⟨h.1, h.2.1, fun e he hp => parT_zero (h.2.2 e he) hp⟩
theorem tab_at {t : List EnP} (h : TabOk t) {k : Nat} {e : EnP} (he : t[k]? = some e) : Stands e ∧ (∀ f, 0 < k → t[k - 1]? = some f → ltT f e) ∧ parT t e.p = 0 := by
  have m := List.mem_of_getElem? he
  refine ⟨h.1 e m, fun f hk hf => ?_, parT_of h.2.1 (h.2.2 e m)⟩
  obtain ⟨l1, e1⟩ := List.getElem?_eq_some_iff.1 hf
  obtain ⟨l2, e2⟩ := List.getElem?_eq_some_iff.1 he
  have := List.pairwise_iff_getElem.1 h.2.1 (k - 1) k l1 l2 (by omega)
  rwa [e1, e2] at this
end
section
open Go.RowKit Go.Lib Go.Maps
set_option linter.unusedSimpArgs false
set_option linter.unusedVariables false

theorem law_text : Keyed Tryz.prog 9 := string_keyed Tryz.underlying9
theorem zero_unit (w : World) : (zeroValue 68).run Tryz.prog w = .ok (.agg #[]) w := Tryz.zeroValue68 w
theorem keyText (l : List UInt8) (h : l.length ≤ maxLen) : keyOf Tryz.prog 9 (.string (strOf l)) = some (.string l) := by
  have := Go.WideMaps.keyOf_string_mk Tryz.underlying9 (s := strOf l) (by simpa [strOf, ByteArray.size] using h)
  rw [this]
  simp [strOf]
def textSet (ps : List (List UInt8)) : DataW Unit := Go.Maps.setOf (.agg []) (ps.map (fun p => Lit.string p))
theorem textSet_snoc (ps : List (List UInt8)) (p : List UInt8) : textSet (ps ++ [p]) = (textSet ps).put (.string p) (.agg []) := by
  unfold textSet
  rw [List.map_append]
  exact Go.Maps.setOf_snoc _ _ _
theorem textSet_has (ps : List (List UInt8)) (p : List UInt8) : Go.Maps.has (textSet ps) (.string p) = decide (p ∈ ps) := by
  unfold textSet
  rw [Go.Maps.has_setOf _ _ _ (fun x hx => by obtain ⟨q, _, rfl⟩ := List.mem_map.1 hx; trivial), Bool.eq_iff_iff, List.any_eq_true, decide_eq_true_eq]
  constructor
  · rintro ⟨x, hx, hs⟩
    obtain ⟨q, hq, rfl⟩ := List.mem_map.1 hx
    have := WideAt.sameKey_eq hs
    cases this
    exact hq
  · intro h
    exact ⟨.string p, List.mem_map.2 ⟨p, h, rfl⟩, WideAt.sameKey_self trivial⟩
theorem ownsMap_chg {H : Type} {w w' : World} {S : List Nat} {P : Program} {k : TypeId} {R : Value → Option (DataW H × List MemPlace)} {b n : Nat} {D : DataW H} (h : w.ownsMap P k R b n D) (hc : Chg S w w') (hb : b ∉ S) : w'.ownsMap P k R b n D := by
  obtain ⟨es, clock, q, r⟩ := h
  exact ⟨es, clock, hc.at_ q hb, r⟩
end
section
open Go.RowKit Go.Lib
set_option linter.unusedSimpArgs false
set_option linter.unusedVariables false

/-- The paths of directories, in order. -/
def dirsE (t : List EnP) : List (List UInt8) := (t.filter (fun e => decide (e.k = 2))).map (·.p)
theorem dirs_snoc_yes {t : List EnP} {e : EnP} (h : e.k = 2) : dirsE (t ++ [e]) = dirsE t ++ [e.p] := by
  unfold dirsE; rw [List.filter_append, List.map_append]; simp [h]
theorem dirs_snoc_no {t : List EnP} {e : EnP} (h : e.k ≠ 2) : dirsE (t ++ [e]) = dirsE t := by
  unfold dirsE; rw [List.filter_append, List.map_append]; simp [h]
theorem dirs_mem {t : List EnP} {p : List UInt8} : p ∈ dirsE t ↔ HasDir t p := by
  unfold dirsE HasDir
  rw [List.mem_map]
  constructor
  · rintro ⟨f, hf, hp⟩; rw [List.mem_filter] at hf; exact ⟨f, hf.1, hp, of_decide_eq_true hf.2⟩
  · rintro ⟨f, hf, hp, hk⟩; exact ⟨f, List.mem_filter.2 ⟨hf, decide_eq_true hk⟩, hp⟩
theorem PreT.par {t : List EnP} {k : Nat} {p : List UInt8} (h : PreT t k) (hd : HasDir (t.take k) p) : ∃ f, getT t p = some f ∧ f.k = 2 := by
  obtain ⟨f, hf, fp, fk⟩ := hd
  refine ⟨f, ?_, fk⟩
  have := (get_iff h.2.1).2 ⟨hf, fp⟩
  unfold getT at this ⊢
  rw [← List.take_append_drop k t, List.find?_append, this]
  rfl
theorem PreT.parT {t : List EnP} {k : Nat} {p : List UInt8} (h : PreT t k) (hd : hasParent p = true → HasDir (t.take k) (parentL p)) : parT t p = 0 := by
  unfold Go.Proofs.YtimdfpejgaidhaaGreatDoor.parT
  by_cases hp : hasParent p = true
  · obtain ⟨f, hf, fk⟩ := h.par (hd hp)
    rw [if_pos hp, hf]
    simp [fk]
  · rw [if_neg hp]
theorem tab_dir {t : List EnP} (h : TabOk t) {k : Nat} {e : EnP} (he : t[k]? = some e) (hp : hasParent e.p = true) : HasDir (t.take k) (parentL e.p) := by
  obtain ⟨f, hf, fp, fk⟩ := h.2.2 e (List.mem_of_getElem? he) hp
  refine ⟨f, ?_, fp, fk⟩
  obtain ⟨i, hi, rfl⟩ := List.getElem_of_mem hf
  have hl : lessL t[i].p e.p = true := by rw [fp]; exact parent_less hp
  obtain ⟨l2, e2⟩ := List.getElem?_eq_some_iff.1 he
  have ik : i < k := by
    rcases Nat.lt_trichotomy i k with q | q | q
    · exact q
    · subst q; rw [e2, less_self] at hl; cases hl
    · have := List.pairwise_iff_getElem.1 h.2.1 k i l2 hi q
      rw [e2] at this
      have a := less_not _ _ this
      rw [hl] at a; cases a
  have hik : i < (t.take k).length := by rw [List.length_take]; omega
  have : (t.take k)[i] = t[i] := by rw [List.getElem_take]
  rw [← this]
  exact List.getElem_mem hik
set_option maxRecDepth 100000 in
set_option maxHeartbeats 16000000 in
theorem tbcheck_any (w : World) (A : Option Addr) (c : Nat) (xs : List EnT) (es : List EnP) (h : RdK enTy w A xs.length xs) (hx : EnsR w xs es) (hn : xs.length ≤ 200) (hs : ∀ e ∈ es, EnSm e) :
    Calls Tryz.prog 15 #[.slice A xs.length c] w fun r w' => r = .returned (.int .i64 (tabE es)) ∧ Chg [] w w' := by
  have hmm := @run_makeMap Tryz.prog
  obtain ⟨w0, hw0, c0, q0⟩ := news1 w (.map #[] 0)
  have W0 := Lib.hid hw0
  have C0 := Lib.hid c0
  have QM : Hid (w0.ownsMap Tryz.prog 9 (unitElem (H := Unit)) w.heap.size 0 (textSet [])) := Lib.hid ⟨#[], 0, q0, ⟨by simp, Go.MapKept.stamped_empty 0, by simp⟩, Nat.le_refl _, rfl⟩
  have BLT := Lib.hid (lt_of_heap q0)
  have HA := Lib.hid h
  have HX := Lib.hid hx
  have HN := Lib.hid hn
  have HS := Lib.hid hs
  have n200 : ¬ (200 : Int) < (xs.length : Int) := by omega
  generalize hv : tabE es = v
  have HV := Lib.hid hv
  have NO : Hid (¬ TabOk es → v = 2) := Lib.hid (fun q => by rw [← hv]; exact if_neg q)
  clear h hx hn hs hv hw0 c0 q0
  go_enter Tryz.func15, Tryz.ntmps15
  go_upto_region 4 with fail
  rw [← W0.out]
  obtain ⟨b, hb⟩ : ∃ b, w.heap.size = b := ⟨_, rfl⟩
  rw [hb] at QM BLT ⊢
  have WC : Hid (∀ w', Chg [b] w0 w' → Chg [] w w') := Lib.hid (fun w' hc => C0.out.trans' hc (fun i hi => .inr (by simp at hi; omega)))
  clear W0 hb n200 hmm
  go_wp2
  go_loopw [16] (fun v16 wr => ∃ k : Nat, k ≤ xs.length ∧ v16 = .int .i64 (k : Int) ∧ Hid (PreT es k) ∧ Hid (wr.ownsMap Tryz.prog 9 (unitElem (H := Unit)) b k (textSet (dirsE (es.take k)))) ∧ Hid (Chg [b] w0 wr)) (fun v16 _ => xs.length - (RowKit.intOf v16).toNat)
  case atStart => exact ⟨0, Nat.zero_le _, rfl, Lib.hid (PreT.zero es), QM, Chg.refl _ _⟩
  case round =>
    obtain ⟨k, hk, rfl, PT, OM, RC⟩ := hrel
    have i0 : (0 : Int) ≤ (k : Int) := by omega
    by_cases hlt : k < xs.length
    · have i1 : (k : Int) < (xs.length : Int) := by omega
      have i3 : IntKind.i64.wrap ((k : Int) + 1) = (k : Int) + 1 := IntWalk.i64_in _ (by have := HN.out; omega)
      obtain ⟨x, e, ex, ee, rx⟩ := HX.out.at_ hlt
      obtain ⟨g, o, eA, _⟩ := HA.out.line (by omega)
      subst eA
      have HG : Hid (∀ w', Chg [b] w0 w' → RdK enTy w' (some ⟨g, o, none⟩) xs.length xs) := Lib.hid (fun w' hc => HA.out.chg (WC.out _ hc) (by simp))
      obtain ⟨t0, t1, t2, t3⟩ := enCells (HG.out _ RC.out) ex
      have EE := Lib.hid ee
      have RX := Lib.hid rx
      have EX := Lib.hid ex
      have SM := Lib.hid (HS.out e (List.mem_of_getElem? ee))
      have KL := Lib.hid hlt
      have ET : Hid (es.take (k + 1) = es.take k ++ [e]) := Lib.hid (by rw [List.take_add_one, ee]; rfl)
      rw [RX.out.p] at t0
      clear ex ee rx
      go_upto_region 7 with fail
      clear t0 t1 t2 t3
      obtain ⟨w1, hw, hc, b4⟩ := news1 wr (.cells #[.string (strOf e.p), .int .i64 x.k, .int .i64 x.m, .slice x.A x.l x.c] 55)
      rw [← hw]
      have GB : Hid (¬ wr.heap.size = b ∧ ¬ b = wr.heap.size) := Lib.hid (by have := RC.out.size; have := BLT.out; omega)
      generalize wr.heap.size = g4 at *
      have B4 := Lib.hid b4
      replace OM := Lib.hid (ownsMap_chg OM.out hc (by simp))
      replace RC := Lib.hid (RC.out.trans (hc.mono (S' := [b]) (by simp)))
      clear hw hc b4
      have FC : Hid (∀ w', Chg [] w1 w' → Calls Tryz.prog 42 #[.agg #[.string (strOf e.p), .int .i64 x.k, .int .i64 x.m, .slice x.A x.l x.c]] w' fun r w2 => r = .returned (.bool (decide (Stands e))) ∧ Chg [] w' w2) := Lib.hid (fun w' hc => by
        have q := tbstands_any w' x e (RX.out.chg (WC.out _ (RC.out.trans (hc.mono (S' := [b]) (by simp))))) SM.out
        rwa [RX.out.p] at q)
      clear wr
      by_cases hst : Stands e
      rotate_left
      · skip
        have NST := Lib.hid hst
        have SV : Hid (decide (Stands e) = false) := Lib.hid (decide_eq_false hst)
        clear hst
        have DX : Hid (∀ w', Chg [] w1 w' → (fun w' => w'.cell? ⟨g4, 0, none⟩ = some (.string (strOf e.p)) ∧ w'.cell? ⟨g4, 1, none⟩ = some (.int .i64 x.k) ∧ w'.cell? ⟨g4, 2, none⟩ = some (.int .i64 x.m) ∧ w'.cell? ⟨g4, 3, none⟩ = some (.slice x.A x.l x.c)) w') := Lib.hid (fun w' hc => by
          have b4 := hc.at_ B4.out (by simp)
          exact ⟨cell_of b4 0, cell_of b4 1, cell_of b4 2, cell_of b4 3⟩)
        refine wp_region_held_drew (S := fun w' => w'.cell? ⟨g4, 0, none⟩ = some (.string (strOf e.p)) ∧ w'.cell? ⟨g4, 1, none⟩ = some (.int .i64 x.k) ∧ w'.cell? ⟨g4, 2, none⟩ = some (.int .i64 x.m) ∧ w'.cell? ⟨g4, 3, none⟩ = some (.slice x.A x.l x.c)) (by kernel_rfl) (DX.out _ (Chg.refl [] w1).drew) (fun hHeld => ?_)
        have CC : Hid (Chg [] w1 w1.drew) := Lib.hid (Chg.refl [] w1).drew
        clear hHeld
        obtain ⟨wc, hwc⟩ : ∃ wc, w1.drew = wc := ⟨_, rfl⟩
        rw [hwc] at CC ⊢
        clear hwc
        refine sy 0 21 rfl rfl ?_ (hS := (DX.out _ CC.out)) (hy := by (intro w hSw; (try dsimp only at hSw); obtain ⟨q0, q1, q2, q3⟩ := hSw; go_simp; try with_reducible rfl))
        try simp only [Act.put, sA, s0, s1]
        refine wpAnyH_ready (rs := [1]) (by kernel_rfl) (by simp) ?_
        refine AllReadyH.cons rfl (fun K hK => ?_) AllReadyH.nil
        replace hK := Lib.hid hK
        go_simp
        refine (FC.out wc CC.out).mono ?_
        rintro r wn ⟨rfl, hc⟩
        rw [SV.out]
        replace CC := Lib.hid (CC.out.trans hc)
        clear hc
        generalize wn = wc at *
        refine hK.out _ _ (DX.out _ CC.out) (fun hHeld => ?_)
        clear hK K
        try simp only [Act.put, sA, s0, s1]
        refine sy 2 23 rfl rfl ?_ (hS := (DX.out _ CC.out))
        try simp only [Act.put, sA, s0, s1]
        refine sy 3 24 rfl rfl ?_ (hS := (DX.out _ CC.out))
        try simp only [Act.put, sA, s0, s1]
        refine sn 4 25 rfl rfl ?_ (hS := (DX.out _ CC.out))
        try simp only [Act.put, sA, s0, s1]
        refine sn 5 26 rfl rfl ?_ (hS := (DX.out _ CC.out))
        try simp only [Act.put, sA, s0, s1]
        refine sn 6 27 rfl rfl ?_ (hS := (DX.out _ CC.out))
        try simp only [Act.put, sA, s0, s1]
        refine sn 7 28 rfl rfl ?_ (hS := (DX.out _ CC.out))
        try simp only [Act.put, sA, s0, s1]
        refine sn 8 29 rfl rfl ?_ (hS := (DX.out _ CC.out))
        try simp only [Act.put, sA, s0, s1]
        refine sn 9 30 rfl rfl ?_ (hS := (DX.out _ CC.out))
        try simp only [Act.put, sA, s0, s1]
        refine sn 10 31 rfl rfl ?_ (hS := (DX.out _ CC.out))
        try simp only [Act.put, sA, s0, s1]
        refine sn 11 32 rfl rfl ?_ (hS := (DX.out _ CC.out))
        try simp only [Act.put, sA, s0, s1]
        refine sn 12 33 rfl rfl ?_ (hS := (DX.out _ CC.out))
        try simp only [Act.put, sA, s0, s1]
        refine sn 13 34 rfl rfl ?_ (hS := (DX.out _ CC.out))
        try simp only [Act.put, sA, s0, s1]
        refine sn 14 35 rfl rfl ?_ (hS := (DX.out _ CC.out))
        try simp only [Act.put, sA, s0, s1]
        refine sn 15 36 rfl rfl ?_ (hS := (DX.out _ CC.out))
        try simp only [Act.put, sA, s0, s1]
        refine sn 16 37 rfl rfl ?_ (hS := (DX.out _ CC.out))
        try simp only [Act.put, sA, s0, s1]
        refine sn 17 38 rfl rfl ?_ (hS := (DX.out _ CC.out))
        try simp only [Act.put, sA, s0, s1]
        refine sy 18 39 rfl rfl ?_ (hS := (DX.out _ CC.out))
        try simp only [Act.put, sA, s0, s1]
        refine wpAnyH_done (by kernel_rfl) ?_ _
        clear hHeld FC
        obtain rfl : v = 2 := NO.out (fun q => NST.out (tab_at q EE.out).1)
        clear HV NO OM
        go_wp2
        go_ret
        exact ⟨rfl, WC.out _ (RC.out.trans (CC.out.mono (by simp)))⟩
      have STD := Lib.hid hst
      have SV : Hid (decide (Stands e) = true) := Lib.hid (decide_eq_true hst)
      clear hst
      by_cases hk0 : k = 0
      · skip
        have d1 : ¬ (0 : Int) < (k : Int) := by omega
        have d2 : decide ((0 : Int) < (k : Int)) = false := decide_eq_false d1
        have d7 : decide (0 < k) = false := decide_eq_false (by omega)
        have DX : Hid (∀ w', Chg [] w1 w' → (fun w' => w'.cell? ⟨g4, 0, none⟩ = some (.string (strOf e.p)) ∧ w'.cell? ⟨g4, 1, none⟩ = some (.int .i64 x.k) ∧ w'.cell? ⟨g4, 2, none⟩ = some (.int .i64 x.m) ∧ w'.cell? ⟨g4, 3, none⟩ = some (.slice x.A x.l x.c)) w') := Lib.hid (fun w' hc => by
          have b4 := hc.at_ B4.out (by simp)
          exact ⟨cell_of b4 0, cell_of b4 1, cell_of b4 2, cell_of b4 3⟩)
        refine wp_region_held_drew (S := fun w' => w'.cell? ⟨g4, 0, none⟩ = some (.string (strOf e.p)) ∧ w'.cell? ⟨g4, 1, none⟩ = some (.int .i64 x.k) ∧ w'.cell? ⟨g4, 2, none⟩ = some (.int .i64 x.m) ∧ w'.cell? ⟨g4, 3, none⟩ = some (.slice x.A x.l x.c)) (by kernel_rfl) (DX.out _ (Chg.refl [] w1).drew) (fun hHeld => ?_)
        have CC : Hid (Chg [] w1 w1.drew) := Lib.hid (Chg.refl [] w1).drew
        clear hHeld
        obtain ⟨wc, hwc⟩ : ∃ wc, w1.drew = wc := ⟨_, rfl⟩
        rw [hwc] at CC ⊢
        clear hwc
        refine sy 0 21 rfl rfl ?_ (hS := (DX.out _ CC.out)) (hy := by (intro w hSw; (try dsimp only at hSw); obtain ⟨q0, q1, q2, q3⟩ := hSw; go_simp; try with_reducible rfl))
        try simp only [Act.put, sA, s0, s1]
        refine wpAnyH_ready (rs := [1]) (by kernel_rfl) (by simp) ?_
        refine AllReadyH.cons rfl (fun K hK => ?_) AllReadyH.nil
        replace hK := Lib.hid hK
        go_simp
        refine (FC.out wc CC.out).mono ?_
        rintro r wn ⟨rfl, hc⟩
        rw [SV.out]
        replace CC := Lib.hid (CC.out.trans hc)
        clear hc
        generalize wn = wc at *
        refine hK.out _ _ (DX.out _ CC.out) (fun hHeld => ?_)
        clear hK K
        try simp only [Act.put, sA, s0, s1]
        refine sy 2 23 rfl rfl ?_ (hS := (DX.out _ CC.out))
        try simp only [Act.put, sA, s0, s1]
        refine sy 3 24 rfl rfl ?_ (hS := (DX.out _ CC.out))
        try simp only [Act.put, sA, s0, s1]
        refine sy 4 25 rfl rfl ?_ (hS := (DX.out _ CC.out))
        try simp only [Act.put, sA, s0, s1]
        refine sy 5 26 rfl rfl ?_ (hS := (DX.out _ CC.out))
        try simp only [Act.put, sA, s0, s1]
        refine sy 6 27 rfl rfl ?_ (hS := (DX.out _ CC.out))
        try simp only [Act.put, sA, s0, s1]
        refine sn 7 28 rfl rfl ?_ (hS := (DX.out _ CC.out))
        try simp only [Act.put, sA, s0, s1]
        refine sn 8 29 rfl rfl ?_ (hS := (DX.out _ CC.out))
        try simp only [Act.put, sA, s0, s1]
        refine sn 9 30 rfl rfl ?_ (hS := (DX.out _ CC.out))
        try simp only [Act.put, sA, s0, s1]
        refine sn 10 31 rfl rfl ?_ (hS := (DX.out _ CC.out))
        try simp only [Act.put, sA, s0, s1]
        refine sn 11 32 rfl rfl ?_ (hS := (DX.out _ CC.out))
        try simp only [Act.put, sA, s0, s1]
        refine sn 12 33 rfl rfl ?_ (hS := (DX.out _ CC.out))
        try simp only [Act.put, sA, s0, s1]
        refine sn 13 34 rfl rfl ?_ (hS := (DX.out _ CC.out))
        try simp only [Act.put, sA, s0, s1]
        refine sn 14 35 rfl rfl ?_ (hS := (DX.out _ CC.out))
        try simp only [Act.put, sA, s0, s1]
        refine sn 15 36 rfl rfl ?_ (hS := (DX.out _ CC.out))
        try simp only [Act.put, sA, s0, s1]
        refine sn 16 37 rfl rfl ?_ (hS := (DX.out _ CC.out))
        try simp only [Act.put, sA, s0, s1]
        refine sy 17 38 rfl rfl ?_ (hS := (DX.out _ CC.out))
        try simp only [Act.put, sA, s0, s1]
        refine sy 18 39 rfl rfl ?_ (hS := (DX.out _ CC.out))
        try simp only [Act.put, sA, s0, s1]
        refine wpAnyH_done (by kernel_rfl) ?_ _
        clear hHeld FC
        replace B4 := Lib.hid (CC.out.at_ B4.out (by simp))
        replace OM := Lib.hid (ownsMap_chg OM.out CC.out (by simp))
        replace RC := Lib.hid (RC.out.trans (CC.out.mono (S' := [b]) (by simp)))
        clear CC DX
        have PX := Lib.hid (fun w' => (phparent_any w' e.p (by have := SM.out.1; omega)).mono fun r w2 ⟨a, c⟩ => (⟨a, below_chgN c⟩ : _ ∧ Chg [] w' w2))
        have z0 := cell_of B4.out 0
        have z1 := cell_of B4.out 1
        have z2 := cell_of B4.out 2
        have z3 := cell_of B4.out 3
        simp only [List.getElem?_toArray, List.getElem?_cons_succ, List.getElem?_cons_zero] at z0 z1 z2 z3

        go_wp2_with fail
        clear z0 z1 z2 z3
        refine (PX.out wc).mono ?_
        rintro r w3 ⟨rfl, hc⟩
        replace B4 := Lib.hid (hc.at_ B4.out (by simp))
        replace OM := Lib.hid (ownsMap_chg OM.out hc (by simp))
        replace RC := Lib.hid (RC.out.trans (hc.mono (S' := [b]) (by simp)))
        clear hc PX wc
        by_cases hpar : hasParent e.p = true
        rotate_left
        · skip
          have PAR : Hid (parT es e.p = 0) := Lib.hid (PT.out.parT (fun q => absurd q hpar))
          have hp0 : hasParent e.p = false := by simpa using hpar
          rw [hp0]
          clear hpar hp0
          have PN : Hid (PreT es (k + 1)) := Lib.hid (PT.out.next EE.out STD.out (fun f2 h _ => absurd h (by omega)) PAR.out)
          have z0 := cell_of B4.out 0
          have z1 := cell_of B4.out 1
          have z2 := cell_of B4.out 2
          have z3 := cell_of B4.out 3
          simp only [List.getElem?_toArray, List.getElem?_cons_succ, List.getElem?_cons_zero] at z0 z1 z2 z3

          by_cases hk2 : x.k = 2
          · skip
            have h1 : ((x.k == 2) : Bool) = true := by simpa using hk2
            have ND : Hid (dirsE (es.take (k + 1)) = dirsE (es.take k) ++ [e.p]) := Lib.hid (by rw [ET.out]; exact dirs_snoc_yes (by rw [← RX.out.k]; exact hk2))
            have KEY := Lib.hid (keyText e.p (by have := SM.out.1; unfold maxLen; omega))
            have KB : Hid (k < maxLen) := Lib.hid (by have := HN.out; unfold maxLen; omega)
            clear hk2
            go_wp2_with (at_mapUpdate; refine wpList_mapUpdate_own _ rfl _ _ _ 64 rfl 9 68 law_text Tryz.underlying64 (unitElem (H := Unit)) b k _ rfl OM.out KB.out _ _ _ rfl rfl KEY.out (.agg []) [] unitElem_mk ?_; intro w6 own6 grow6)
            have C6 : Hid (Chg [b] w0 w6) := Lib.hid (RC.out.grown grow6 (fun i hi => by simp at hi; subst hi; exact .inl (by simp)))
            have OM6 : Hid (w6.ownsMap Tryz.prog 9 (unitElem (H := Unit)) b (k + 1) (textSet (dirsE (es.take (k + 1))))) := Lib.hid (by rw [ND.out, textSet_snoc]; exact own6)
            clear own6 grow6 z0 z1 z2 z3
            go_round
            case rel => exact ⟨k + 1, by omega, by go_num, PN, OM6, C6.out⟩
            case measure => simp [RowKit.intOf]; omega
          · skip
            have h1 : ((x.k == 2) : Bool) = false := by simpa using hk2
            have OM6 : Hid (w3.ownsMap Tryz.prog 9 (unitElem (H := Unit)) b (k + 1) (textSet (dirsE (es.take (k + 1))))) := Lib.hid (by
              have q : dirsE (es.take (k + 1)) = dirsE (es.take k) := by rw [ET.out]; exact dirs_snoc_no (by rw [← RX.out.k]; exact hk2)
              rw [q]
              obtain ⟨es', clock, a, c, d⟩ := OM.out
              exact ⟨es', clock, a, c, Nat.le_trans d.1 (Nat.le_succ _), d.2⟩)
            clear hk2
            go_wp2
            go_round
            case rel => exact ⟨k + 1, by omega, by go_num, PN, OM6, RC.out⟩
            case measure => simp [RowKit.intOf]; omega
        rw [hpar]
        have KEYP := Lib.hid (keyText (parentL e.p) (by have := parent_short hpar; have := SM.out.1; unfold maxLen; omega))
        obtain ⟨w5, hw5, c5, q5⟩ := news1 w3 (.cells #[] 68)
        have W5 := Lib.hid hw5
        have C5 := Lib.hid c5
        clear hw5 c5 q5
        by_cases hin : parentL e.p ∈ dirsE (es.take k)
        rotate_left
        · skip
          have e6 : decide (parentL e.p ∈ dirsE (es.take k)) = false := decide_eq_false hin
          obtain rfl : v = 2 := NO.out (fun q => hin (dirs_mem.2 (tab_dir q EE.out hpar)))
          clear hin hpar HV NO
          go_upto_region 12 with (at_lookup; refine wpList_lookup_own_unit _ rfl _ _ 64 rfl 9 68 law_text Tryz.underlying64 (zero_unit _) b k (textSet (dirsE (es.take k))) rfl OM.out _ _ rfl KEYP.out ?_; rw [textSet_has, e6])
          rw [← W5.out]
          clear W5
          go_wp2
          go_ret
          exact ⟨rfl, WC.out _ (RC.out.trans (C5.out.mono (by simp)))⟩
        have e6 : decide (parentL e.p ∈ dirsE (es.take k)) = true := decide_eq_true hin
        have PAR : Hid (parT es e.p = 0) := Lib.hid (PT.out.parT (fun _ => dirs_mem.1 hin))
        clear hin hpar
        go_upto_region 12 with (at_lookup; refine wpList_lookup_own_unit _ rfl _ _ 64 rfl 9 68 law_text Tryz.underlying64 (zero_unit _) b k (textSet (dirsE (es.take k))) rfl OM.out _ _ rfl KEYP.out ?_; rw [textSet_has, e6])
        rw [← W5.out]
        replace B4 := Lib.hid (C5.out.at_ B4.out (by simp))
        replace OM := Lib.hid (ownsMap_chg OM.out C5.out (by simp))
        replace RC := Lib.hid (RC.out.trans (C5.out.mono (S' := [b]) (by simp)))
        clear W5 C5 e6
        generalize w3.heap.size = g5 at *
        clear w3
        obtain ⟨w3, hw3⟩ : ∃ w9, w5 = w9 := ⟨_, rfl⟩
        rw [hw3] at B4 OM RC ⊢
        clear hw3
        have PN : Hid (PreT es (k + 1)) := Lib.hid (PT.out.next EE.out STD.out (fun f2 h _ => absurd h (by omega)) PAR.out)
        have z0 := cell_of B4.out 0
        have z1 := cell_of B4.out 1
        have z2 := cell_of B4.out 2
        have z3 := cell_of B4.out 3
        simp only [List.getElem?_toArray, List.getElem?_cons_succ, List.getElem?_cons_zero] at z0 z1 z2 z3

        by_cases hk2 : x.k = 2
        · skip
          have h1 : ((x.k == 2) : Bool) = true := by simpa using hk2
          have ND : Hid (dirsE (es.take (k + 1)) = dirsE (es.take k) ++ [e.p]) := Lib.hid (by rw [ET.out]; exact dirs_snoc_yes (by rw [← RX.out.k]; exact hk2))
          have KEY := Lib.hid (keyText e.p (by have := SM.out.1; unfold maxLen; omega))
          have KB : Hid (k < maxLen) := Lib.hid (by have := HN.out; unfold maxLen; omega)
          clear hk2
          go_wp2_with (at_mapUpdate; refine wpList_mapUpdate_own _ rfl _ _ _ 64 rfl 9 68 law_text Tryz.underlying64 (unitElem (H := Unit)) b k _ rfl OM.out KB.out _ _ _ rfl rfl KEY.out (.agg []) [] unitElem_mk ?_; intro w6 own6 grow6)
          have C6 : Hid (Chg [b] w0 w6) := Lib.hid (RC.out.grown grow6 (fun i hi => by simp at hi; subst hi; exact .inl (by simp)))
          have OM6 : Hid (w6.ownsMap Tryz.prog 9 (unitElem (H := Unit)) b (k + 1) (textSet (dirsE (es.take (k + 1))))) := Lib.hid (by rw [ND.out, textSet_snoc]; exact own6)
          clear own6 grow6 z0 z1 z2 z3
          go_round
          case rel => exact ⟨k + 1, by omega, by go_num, PN, OM6, C6.out⟩
          case measure => simp [RowKit.intOf]; omega
        · skip
          have h1 : ((x.k == 2) : Bool) = false := by simpa using hk2
          have OM6 : Hid (w3.ownsMap Tryz.prog 9 (unitElem (H := Unit)) b (k + 1) (textSet (dirsE (es.take (k + 1))))) := Lib.hid (by
            have q : dirsE (es.take (k + 1)) = dirsE (es.take k) := by rw [ET.out]; exact dirs_snoc_no (by rw [← RX.out.k]; exact hk2)
            rw [q]
            obtain ⟨es', clock, a, c, d⟩ := OM.out
            exact ⟨es', clock, a, c, Nat.le_trans d.1 (Nat.le_succ _), d.2⟩)
          clear hk2
          go_wp2
          go_round
          case rel => exact ⟨k + 1, by omega, by go_num, PN, OM6, RC.out⟩
          case measure => simp [RowKit.intOf]; omega
      have d1 : (0 : Int) < (k : Int) := by omega
      have d2 : decide ((0 : Int) < (k : Int)) = true := decide_eq_true d1
      have d6 : 0 < k := by omega
      have d7 : decide (0 < k) = true := decide_eq_true d6
      have d3 : IntKind.i64.wrap ((k : Int) - 1) = ((k - 1 : Nat) : Int) := by rw [IntWalk.i64_in _ (by have := HN.out; omega)]; omega
      have d4 : (0 : Int) ≤ ((k - 1 : Nat) : Int) := by omega
      have d5 : ((k - 1 : Nat) : Int) < (xs.length : Int) := by omega
      obtain ⟨fx, f, ex, ef, rf⟩ := HX.out.at_ (show k - 1 < xs.length by omega)
      have FX := Lib.hid ex
      have FE := Lib.hid ef
      have FR := Lib.hid rf
      have FS := Lib.hid (HS.out f (List.mem_of_getElem? ef))
      clear ex ef rf
      rcases hl : lessL f.p e.p with _ | _
      · skip
        have LV := Lib.hid hl
        have ltNO : Hid (¬ ltT f e) := Lib.hid (by unfold ltT; rw [hl]; simp)
        clear hl
        have DX : Hid (∀ w', Chg [] w1 w' → (fun w' => w'.cell? ⟨g4, 0, none⟩ = some (.string (strOf e.p)) ∧ w'.cell? ⟨g4, 1, none⟩ = some (.int .i64 x.k) ∧ w'.cell? ⟨g4, 2, none⟩ = some (.int .i64 x.m) ∧ w'.cell? ⟨g4, 3, none⟩ = some (.slice x.A x.l x.c) ∧ w'.cell? ⟨g, o + (k - 1) * 4, none⟩ = some (.string (strOf f.p))) w') := Lib.hid (fun w' hc => by
          have b4 := hc.at_ B4.out (by simp)
          have q := (enCells (HG.out _ (RC.out.trans (hc.mono (S' := [b]) (by simp)))) FX.out).1
          rw [FR.out.p] at q
          exact ⟨cell_of b4 0, cell_of b4 1, cell_of b4 2, cell_of b4 3, q⟩)
        refine wp_region_held_drew (S := fun w' => w'.cell? ⟨g4, 0, none⟩ = some (.string (strOf e.p)) ∧ w'.cell? ⟨g4, 1, none⟩ = some (.int .i64 x.k) ∧ w'.cell? ⟨g4, 2, none⟩ = some (.int .i64 x.m) ∧ w'.cell? ⟨g4, 3, none⟩ = some (.slice x.A x.l x.c) ∧ w'.cell? ⟨g, o + (k - 1) * 4, none⟩ = some (.string (strOf f.p))) (by kernel_rfl) (DX.out _ (Chg.refl [] w1).drew) (fun hHeld => ?_)
        have CC : Hid (Chg [] w1 w1.drew) := Lib.hid (Chg.refl [] w1).drew
        clear hHeld
        obtain ⟨wc, hwc⟩ : ∃ wc, w1.drew = wc := ⟨_, rfl⟩
        rw [hwc] at CC ⊢
        clear hwc
        refine sy 0 21 rfl rfl ?_ (hS := (DX.out _ CC.out)) (hy := by (intro w hSw; (try dsimp only at hSw); obtain ⟨q0, q1, q2, q3, q4⟩ := hSw; go_simp; try with_reducible rfl))
        try simp only [Act.put, sA, s0, s1]
        refine wpAnyH_ready (rs := [1]) (by kernel_rfl) (by simp) ?_
        refine AllReadyH.cons rfl (fun K hK => ?_) AllReadyH.nil
        replace hK := Lib.hid hK
        go_simp
        refine (FC.out wc CC.out).mono ?_
        rintro r wn ⟨rfl, hc⟩
        rw [SV.out]
        replace CC := Lib.hid (CC.out.trans hc)
        clear hc
        generalize wn = wc at *
        refine hK.out _ _ (DX.out _ CC.out) (fun hHeld => ?_)
        clear hK K
        try simp only [Act.put, sA, s0, s1]
        refine sy 2 23 rfl rfl ?_ (hS := (DX.out _ CC.out))
        try simp only [Act.put, sA, s0, s1]
        refine sy 3 24 rfl rfl ?_ (hS := (DX.out _ CC.out))
        try simp only [Act.put, sA, s0, s1]
        refine sy 4 25 rfl rfl ?_ (hS := (DX.out _ CC.out))
        try simp only [Act.put, sA, s0, s1]
        refine sy 5 26 rfl rfl ?_ (hS := (DX.out _ CC.out))
        try simp only [Act.put, sA, s0, s1]
        refine sy 6 27 rfl rfl ?_ (hS := (DX.out _ CC.out))
        try simp only [Act.put, sA, s0, s1]
        refine sy 7 28 rfl rfl ?_ (hS := (DX.out _ CC.out))
        try simp only [Act.put, sA, s0, s1]
        refine sy 8 29 rfl rfl ?_ (hS := (DX.out _ CC.out))
        try simp only [Act.put, sA, s0, s1]
        refine sy 9 30 rfl rfl ?_ (hS := (DX.out _ CC.out))
        try simp only [Act.put, sA, s0, s1]
        refine sy 10 31 rfl rfl ?_ (hS := (DX.out _ CC.out))
        try simp only [Act.put, sA, s0, s1]
        refine sy 11 32 rfl rfl ?_ (hS := (DX.out _ CC.out))
        try simp only [Act.put, sA, s0, s1]
        refine sy 12 33 rfl rfl ?_ (hS := (DX.out _ CC.out)) (hy := by (intro w hSw; (try dsimp only at hSw); obtain ⟨q0, q1, q2, q3, q4⟩ := hSw; go_simp; try with_reducible rfl))
        try simp only [Act.put, sA, s0, s1]
        refine sy 13 34 rfl rfl ?_ (hS := (DX.out _ CC.out))
        try simp only [Act.put, sA, s0, s1]
        refine sy 14 35 rfl rfl ?_ (hS := (DX.out _ CC.out)) (hy := by (intro w hSw; (try dsimp only at hSw); obtain ⟨q0, q1, q2, q3, q4⟩ := hSw; go_simp; try with_reducible rfl))
        try simp only [Act.put, sA, s0, s1]
        refine wpAnyH_ready (rs := [15]) (by kernel_rfl) (by simp) ?_
        refine AllReadyH.cons rfl (fun K hK => ?_) AllReadyH.nil
        replace hK := Lib.hid hK
        go_simp
        refine (phless_any wc f.p e.p FS.out.1 SM.out.1).mono ?_
        rintro r wn ⟨rfl, hc⟩
        rw [LV.out]
        replace CC := Lib.hid (CC.out.trans hc)
        clear hc
        generalize wn = wc at *
        refine hK.out _ _ (DX.out _ CC.out) (fun hHeld => ?_)
        clear hK K
        try simp only [Act.put, sA, s0, s1]
        refine sy 16 37 rfl rfl ?_ (hS := (DX.out _ CC.out))
        try simp only [Act.put, sA, s0, s1]
        refine sy 17 38 rfl rfl ?_ (hS := (DX.out _ CC.out))
        try simp only [Act.put, sA, s0, s1]
        refine sy 18 39 rfl rfl ?_ (hS := (DX.out _ CC.out))
        try simp only [Act.put, sA, s0, s1]
        refine wpAnyH_done (by kernel_rfl) ?_ _
        clear hHeld FC
        obtain rfl : v = 2 := NO.out (fun q => ltNO.out ((tab_at q EE.out).2.1 f (by omega) FE.out))
        clear HV NO OM
        go_wp2
        go_ret
        exact ⟨rfl, WC.out _ (RC.out.trans (CC.out.mono (by simp)))⟩
      · skip
        have LV := Lib.hid hl
        have ltYES : Hid (ltT f e) := Lib.hid hl
        clear hl
        have DX : Hid (∀ w', Chg [] w1 w' → (fun w' => w'.cell? ⟨g4, 0, none⟩ = some (.string (strOf e.p)) ∧ w'.cell? ⟨g4, 1, none⟩ = some (.int .i64 x.k) ∧ w'.cell? ⟨g4, 2, none⟩ = some (.int .i64 x.m) ∧ w'.cell? ⟨g4, 3, none⟩ = some (.slice x.A x.l x.c) ∧ w'.cell? ⟨g, o + (k - 1) * 4, none⟩ = some (.string (strOf f.p))) w') := Lib.hid (fun w' hc => by
          have b4 := hc.at_ B4.out (by simp)
          have q := (enCells (HG.out _ (RC.out.trans (hc.mono (S' := [b]) (by simp)))) FX.out).1
          rw [FR.out.p] at q
          exact ⟨cell_of b4 0, cell_of b4 1, cell_of b4 2, cell_of b4 3, q⟩)
        refine wp_region_held_drew (S := fun w' => w'.cell? ⟨g4, 0, none⟩ = some (.string (strOf e.p)) ∧ w'.cell? ⟨g4, 1, none⟩ = some (.int .i64 x.k) ∧ w'.cell? ⟨g4, 2, none⟩ = some (.int .i64 x.m) ∧ w'.cell? ⟨g4, 3, none⟩ = some (.slice x.A x.l x.c) ∧ w'.cell? ⟨g, o + (k - 1) * 4, none⟩ = some (.string (strOf f.p))) (by kernel_rfl) (DX.out _ (Chg.refl [] w1).drew) (fun hHeld => ?_)
        have CC : Hid (Chg [] w1 w1.drew) := Lib.hid (Chg.refl [] w1).drew
        clear hHeld
        obtain ⟨wc, hwc⟩ : ∃ wc, w1.drew = wc := ⟨_, rfl⟩
        rw [hwc] at CC ⊢
        clear hwc
        refine sy 0 21 rfl rfl ?_ (hS := (DX.out _ CC.out)) (hy := by (intro w hSw; (try dsimp only at hSw); obtain ⟨q0, q1, q2, q3, q4⟩ := hSw; go_simp; try with_reducible rfl))
        try simp only [Act.put, sA, s0, s1]
        refine wpAnyH_ready (rs := [1]) (by kernel_rfl) (by simp) ?_
        refine AllReadyH.cons rfl (fun K hK => ?_) AllReadyH.nil
        replace hK := Lib.hid hK
        go_simp
        refine (FC.out wc CC.out).mono ?_
        rintro r wn ⟨rfl, hc⟩
        rw [SV.out]
        replace CC := Lib.hid (CC.out.trans hc)
        clear hc
        generalize wn = wc at *
        refine hK.out _ _ (DX.out _ CC.out) (fun hHeld => ?_)
        clear hK K
        try simp only [Act.put, sA, s0, s1]
        refine sy 2 23 rfl rfl ?_ (hS := (DX.out _ CC.out))
        try simp only [Act.put, sA, s0, s1]
        refine sy 3 24 rfl rfl ?_ (hS := (DX.out _ CC.out))
        try simp only [Act.put, sA, s0, s1]
        refine sy 4 25 rfl rfl ?_ (hS := (DX.out _ CC.out))
        try simp only [Act.put, sA, s0, s1]
        refine sy 5 26 rfl rfl ?_ (hS := (DX.out _ CC.out))
        try simp only [Act.put, sA, s0, s1]
        refine sy 6 27 rfl rfl ?_ (hS := (DX.out _ CC.out))
        try simp only [Act.put, sA, s0, s1]
        refine sy 7 28 rfl rfl ?_ (hS := (DX.out _ CC.out))
        try simp only [Act.put, sA, s0, s1]
        refine sy 8 29 rfl rfl ?_ (hS := (DX.out _ CC.out))
        try simp only [Act.put, sA, s0, s1]
        refine sy 9 30 rfl rfl ?_ (hS := (DX.out _ CC.out))
        try simp only [Act.put, sA, s0, s1]
        refine sy 10 31 rfl rfl ?_ (hS := (DX.out _ CC.out))
        try simp only [Act.put, sA, s0, s1]
        refine sy 11 32 rfl rfl ?_ (hS := (DX.out _ CC.out))
        try simp only [Act.put, sA, s0, s1]
        refine sy 12 33 rfl rfl ?_ (hS := (DX.out _ CC.out)) (hy := by (intro w hSw; (try dsimp only at hSw); obtain ⟨q0, q1, q2, q3, q4⟩ := hSw; go_simp; try with_reducible rfl))
        try simp only [Act.put, sA, s0, s1]
        refine sy 13 34 rfl rfl ?_ (hS := (DX.out _ CC.out))
        try simp only [Act.put, sA, s0, s1]
        refine sy 14 35 rfl rfl ?_ (hS := (DX.out _ CC.out)) (hy := by (intro w hSw; (try dsimp only at hSw); obtain ⟨q0, q1, q2, q3, q4⟩ := hSw; go_simp; try with_reducible rfl))
        try simp only [Act.put, sA, s0, s1]
        refine wpAnyH_ready (rs := [15]) (by kernel_rfl) (by simp) ?_
        refine AllReadyH.cons rfl (fun K hK => ?_) AllReadyH.nil
        replace hK := Lib.hid hK
        go_simp
        refine (phless_any wc f.p e.p FS.out.1 SM.out.1).mono ?_
        rintro r wn ⟨rfl, hc⟩
        rw [LV.out]
        replace CC := Lib.hid (CC.out.trans hc)
        clear hc
        generalize wn = wc at *
        refine hK.out _ _ (DX.out _ CC.out) (fun hHeld => ?_)
        clear hK K
        try simp only [Act.put, sA, s0, s1]
        refine sy 16 37 rfl rfl ?_ (hS := (DX.out _ CC.out))
        try simp only [Act.put, sA, s0, s1]
        refine sy 17 38 rfl rfl ?_ (hS := (DX.out _ CC.out))
        try simp only [Act.put, sA, s0, s1]
        refine sy 18 39 rfl rfl ?_ (hS := (DX.out _ CC.out))
        try simp only [Act.put, sA, s0, s1]
        refine wpAnyH_done (by kernel_rfl) ?_ _
        clear hHeld FC
        replace B4 := Lib.hid (CC.out.at_ B4.out (by simp))
        replace OM := Lib.hid (ownsMap_chg OM.out CC.out (by simp))
        replace RC := Lib.hid (RC.out.trans (CC.out.mono (S' := [b]) (by simp)))
        clear CC DX
        have PX := Lib.hid (fun w' => (phparent_any w' e.p (by have := SM.out.1; omega)).mono fun r w2 ⟨a, c⟩ => (⟨a, below_chgN c⟩ : _ ∧ Chg [] w' w2))
        have z0 := cell_of B4.out 0
        have z1 := cell_of B4.out 1
        have z2 := cell_of B4.out 2
        have z3 := cell_of B4.out 3
        simp only [List.getElem?_toArray, List.getElem?_cons_succ, List.getElem?_cons_zero] at z0 z1 z2 z3

        go_wp2_with fail
        clear z0 z1 z2 z3
        refine (PX.out wc).mono ?_
        rintro r w3 ⟨rfl, hc⟩
        replace B4 := Lib.hid (hc.at_ B4.out (by simp))
        replace OM := Lib.hid (ownsMap_chg OM.out hc (by simp))
        replace RC := Lib.hid (RC.out.trans (hc.mono (S' := [b]) (by simp)))
        clear hc PX wc
        by_cases hpar : hasParent e.p = true
        rotate_left
        · skip
          have PAR : Hid (parT es e.p = 0) := Lib.hid (PT.out.parT (fun q => absurd q hpar))
          have hp0 : hasParent e.p = false := by simpa using hpar
          rw [hp0]
          clear hpar hp0
          have PN : Hid (PreT es (k + 1)) := Lib.hid (PT.out.next EE.out STD.out (fun f2 _ hf2 => by have q := FE.out; rw [hf2] at q; cases q; exact ltYES.out) PAR.out)
          have z0 := cell_of B4.out 0
          have z1 := cell_of B4.out 1
          have z2 := cell_of B4.out 2
          have z3 := cell_of B4.out 3
          simp only [List.getElem?_toArray, List.getElem?_cons_succ, List.getElem?_cons_zero] at z0 z1 z2 z3

          by_cases hk2 : x.k = 2
          · skip
            have h1 : ((x.k == 2) : Bool) = true := by simpa using hk2
            have ND : Hid (dirsE (es.take (k + 1)) = dirsE (es.take k) ++ [e.p]) := Lib.hid (by rw [ET.out]; exact dirs_snoc_yes (by rw [← RX.out.k]; exact hk2))
            have KEY := Lib.hid (keyText e.p (by have := SM.out.1; unfold maxLen; omega))
            have KB : Hid (k < maxLen) := Lib.hid (by have := HN.out; unfold maxLen; omega)
            clear hk2
            go_wp2_with (at_mapUpdate; refine wpList_mapUpdate_own _ rfl _ _ _ 64 rfl 9 68 law_text Tryz.underlying64 (unitElem (H := Unit)) b k _ rfl OM.out KB.out _ _ _ rfl rfl KEY.out (.agg []) [] unitElem_mk ?_; intro w6 own6 grow6)
            have C6 : Hid (Chg [b] w0 w6) := Lib.hid (RC.out.grown grow6 (fun i hi => by simp at hi; subst hi; exact .inl (by simp)))
            have OM6 : Hid (w6.ownsMap Tryz.prog 9 (unitElem (H := Unit)) b (k + 1) (textSet (dirsE (es.take (k + 1))))) := Lib.hid (by rw [ND.out, textSet_snoc]; exact own6)
            clear own6 grow6 z0 z1 z2 z3
            go_round
            case rel => exact ⟨k + 1, by omega, by go_num, PN, OM6, C6.out⟩
            case measure => simp [RowKit.intOf]; omega
          · skip
            have h1 : ((x.k == 2) : Bool) = false := by simpa using hk2
            have OM6 : Hid (w3.ownsMap Tryz.prog 9 (unitElem (H := Unit)) b (k + 1) (textSet (dirsE (es.take (k + 1))))) := Lib.hid (by
              have q : dirsE (es.take (k + 1)) = dirsE (es.take k) := by rw [ET.out]; exact dirs_snoc_no (by rw [← RX.out.k]; exact hk2)
              rw [q]
              obtain ⟨es', clock, a, c, d⟩ := OM.out
              exact ⟨es', clock, a, c, Nat.le_trans d.1 (Nat.le_succ _), d.2⟩)
            clear hk2
            go_wp2
            go_round
            case rel => exact ⟨k + 1, by omega, by go_num, PN, OM6, RC.out⟩
            case measure => simp [RowKit.intOf]; omega
        rw [hpar]
        have KEYP := Lib.hid (keyText (parentL e.p) (by have := parent_short hpar; have := SM.out.1; unfold maxLen; omega))
        obtain ⟨w5, hw5, c5, q5⟩ := news1 w3 (.cells #[] 68)
        have W5 := Lib.hid hw5
        have C5 := Lib.hid c5
        clear hw5 c5 q5
        by_cases hin : parentL e.p ∈ dirsE (es.take k)
        rotate_left
        · skip
          have e6 : decide (parentL e.p ∈ dirsE (es.take k)) = false := decide_eq_false hin
          obtain rfl : v = 2 := NO.out (fun q => hin (dirs_mem.2 (tab_dir q EE.out hpar)))
          clear hin hpar HV NO
          go_upto_region 12 with (at_lookup; refine wpList_lookup_own_unit _ rfl _ _ 64 rfl 9 68 law_text Tryz.underlying64 (zero_unit _) b k (textSet (dirsE (es.take k))) rfl OM.out _ _ rfl KEYP.out ?_; rw [textSet_has, e6])
          rw [← W5.out]
          clear W5
          go_wp2
          go_ret
          exact ⟨rfl, WC.out _ (RC.out.trans (C5.out.mono (by simp)))⟩
        have e6 : decide (parentL e.p ∈ dirsE (es.take k)) = true := decide_eq_true hin
        have PAR : Hid (parT es e.p = 0) := Lib.hid (PT.out.parT (fun _ => dirs_mem.1 hin))
        clear hin hpar
        go_upto_region 12 with (at_lookup; refine wpList_lookup_own_unit _ rfl _ _ 64 rfl 9 68 law_text Tryz.underlying64 (zero_unit _) b k (textSet (dirsE (es.take k))) rfl OM.out _ _ rfl KEYP.out ?_; rw [textSet_has, e6])
        rw [← W5.out]
        replace B4 := Lib.hid (C5.out.at_ B4.out (by simp))
        replace OM := Lib.hid (ownsMap_chg OM.out C5.out (by simp))
        replace RC := Lib.hid (RC.out.trans (C5.out.mono (S' := [b]) (by simp)))
        clear W5 C5 e6
        generalize w3.heap.size = g5 at *
        clear w3
        obtain ⟨w3, hw3⟩ : ∃ w9, w5 = w9 := ⟨_, rfl⟩
        rw [hw3] at B4 OM RC ⊢
        clear hw3
        have PN : Hid (PreT es (k + 1)) := Lib.hid (PT.out.next EE.out STD.out (fun f2 _ hf2 => by have q := FE.out; rw [hf2] at q; cases q; exact ltYES.out) PAR.out)
        have z0 := cell_of B4.out 0
        have z1 := cell_of B4.out 1
        have z2 := cell_of B4.out 2
        have z3 := cell_of B4.out 3
        simp only [List.getElem?_toArray, List.getElem?_cons_succ, List.getElem?_cons_zero] at z0 z1 z2 z3

        by_cases hk2 : x.k = 2
        · skip
          have h1 : ((x.k == 2) : Bool) = true := by simpa using hk2
          have ND : Hid (dirsE (es.take (k + 1)) = dirsE (es.take k) ++ [e.p]) := Lib.hid (by rw [ET.out]; exact dirs_snoc_yes (by rw [← RX.out.k]; exact hk2))
          have KEY := Lib.hid (keyText e.p (by have := SM.out.1; unfold maxLen; omega))
          have KB : Hid (k < maxLen) := Lib.hid (by have := HN.out; unfold maxLen; omega)
          clear hk2
          go_wp2_with (at_mapUpdate; refine wpList_mapUpdate_own _ rfl _ _ _ 64 rfl 9 68 law_text Tryz.underlying64 (unitElem (H := Unit)) b k _ rfl OM.out KB.out _ _ _ rfl rfl KEY.out (.agg []) [] unitElem_mk ?_; intro w6 own6 grow6)
          have C6 : Hid (Chg [b] w0 w6) := Lib.hid (RC.out.grown grow6 (fun i hi => by simp at hi; subst hi; exact .inl (by simp)))
          have OM6 : Hid (w6.ownsMap Tryz.prog 9 (unitElem (H := Unit)) b (k + 1) (textSet (dirsE (es.take (k + 1))))) := Lib.hid (by rw [ND.out, textSet_snoc]; exact own6)
          clear own6 grow6 z0 z1 z2 z3
          go_round
          case rel => exact ⟨k + 1, by omega, by go_num, PN, OM6, C6.out⟩
          case measure => simp [RowKit.intOf]; omega
        · skip
          have h1 : ((x.k == 2) : Bool) = false := by simpa using hk2
          have OM6 : Hid (w3.ownsMap Tryz.prog 9 (unitElem (H := Unit)) b (k + 1) (textSet (dirsE (es.take (k + 1))))) := Lib.hid (by
            have q : dirsE (es.take (k + 1)) = dirsE (es.take k) := by rw [ET.out]; exact dirs_snoc_no (by rw [← RX.out.k]; exact hk2)
            rw [q]
            obtain ⟨es', clock, a, c, d⟩ := OM.out
            exact ⟨es', clock, a, c, Nat.le_trans d.1 (Nat.le_succ _), d.2⟩)
          clear hk2
          go_wp2
          go_round
          case rel => exact ⟨k + 1, by omega, by go_num, PN, OM6, RC.out⟩
          case measure => simp [RowKit.intOf]; omega
    · obtain rfl : k = xs.length := by omega
      have i1 : ¬ (xs.length : Int) < (xs.length : Int) := by omega
      obtain rfl : v = 0 := by rw [← HV.out]; exact if_pos (by have q := PT.out; rw [HX.out.1] at q; exact q.all)
      clear HV NO
      go_wp2
      go_ret
      exact ⟨rfl, WC.out _ RC.out⟩
end
section
open Go.RowKit Go.Lib
set_option linter.unusedSimpArgs false
set_option linter.unusedVariables false

def AtU (f p : List UInt8) : Prop := p = f ∨ underL f p = true
instance (f p : List UInt8) : Decidable (AtU f p) := by unfold AtU; exact inferInstance
theorem mvP_yes {f g p : List UInt8} (h : AtU f p) : mvP f g p = g ++ p.drop f.length := if_pos h
theorem mvP_no {f g p : List UInt8} (h : ¬ AtU f p) : mvP f g p = p := if_neg h
theorem atU_split {f p : List UInt8} (h : AtU f p) : ∃ d, p = f ++ d ∧ (d = [] ∨ ∃ r, d = 47 :: r) := by
  rcases h with rfl | h
  · exact ⟨[], by simp, .inl rfl⟩
  · obtain ⟨_, _, d, rfl⟩ := under_split h
    exact ⟨47 :: d, rfl, .inr ⟨d, rfl⟩⟩
theorem mvP_app {f g d : List UInt8} (h : AtU f (f ++ d)) : mvP f g (f ++ d) = g ++ d := by
  rw [mvP_yes h, List.drop_left]
theorem mv_at {f g p : List UInt8} (h : AtU f p) (hg : okP g = true) (ho : okP (mvP f g p) = true) : AtU g (mvP f g p) := by
  obtain ⟨d, rfl, hd⟩ := atU_split h
  rw [mvP_app h] at ho ⊢
  rcases hd with rfl | ⟨r, rfl⟩
  · exact .inl (by simp)
  · exact .inr (under_of hg ho)
theorem mv_back {f g p : List UInt8} (h : AtU f p) (hg : okP g = true) (ho : okP (mvP f g p) = true) : mvP g f (mvP f g p) = p := by
  have a := mv_at h hg ho
  obtain ⟨d, rfl, hd⟩ := atU_split h
  rw [mvP_app h] at a ⊢
  rw [mvP_app a]
/-- The parent of what is moved. -/
theorem mv_parent {f g p : List UInt8} (h : underL f p = true) (ho : okP (mvP f g p) = true) : hasParent (mvP f g p) = true ∧ parentL (mvP f g p) = mvP f g (parentL p) ∧ AtU f (parentL p) := by
  obtain ⟨hp, q⟩ := under_parent h
  have okp : okP p = true := (under_split h).2.1
  have a : AtU f (parentL p) := q
  obtain ⟨d, hd, _⟩ := atU_split a
  have e := (parent_base hp).1
  have n47 := base_no okp
  have h' : AtU f p := .inr h
  have ep : p = f ++ (d ++ 47 :: baseL p) := by rw [← List.append_assoc, ← hd]; exact e.symm
  have em : mvP f g p = (g ++ d) ++ 47 :: baseL p := by
    have : AtU f (f ++ (d ++ 47 :: baseL p)) := by rw [← ep]; exact h'
    have r := mvP_app (g := g) this
    rw [← ep] at r
    rw [r, List.append_assoc]
  rw [em] at ho ⊢
  obtain ⟨r1, r2⟩ := parent_is ho n47
  refine ⟨r1, ?_, a⟩
  rw [r2, hd, mvP_app (by rw [← hd]; exact a)]
section
variable {t : List EnP} {f g : List UInt8} (h : TabOk t) (hf : getT t f ≠ none) (hg : getT t g = none) (hgo : okP g = true) (hl : ¬ AtU f g) (hpar : parT t g = 0) (hok : ∀ e ∈ t, okP (mvP f g e.p) = true)
include h hf hg hgo hl
/-- The new path lies not over the old one. -/
theorem not_over : ¬ AtU g f := by
  have _ := hgo
  obtain ⟨e, he⟩ := Option.ne_none_iff_exists'.1 hf
  obtain ⟨he1, he2⟩ := get_some he
  rintro (q | q)
  · exact hl (.inl q.symm)
  · have := none_under h hg e he1
    rw [he2, q] at this
    cases this
include hok
theorem mv_inj {a b : EnP} (ha : a ∈ t) (hb : b ∈ t) (e : mvP f g a.p = mvP f g b.p) : a = b := by
  have _ := hf
  have _ := hl
  have no : ∀ x ∈ t, ¬ AtU g x.p := fun x hx q => q.elim (fun r => get_none.1 hg x hx r) (fun r => by rw [none_under h hg x hx] at r; cases r)
  have key : a.p = b.p := by
    by_cases p : AtU f a.p <;> by_cases q : AtU f b.p
    · have := congrArg (mvP g f) e
      rwa [mv_back p hgo (hok a ha), mv_back q hgo (hok b hb)] at this
    · have r := mv_at p hgo (hok a ha)
      rw [e, mvP_no q] at r
      exact absurd r (no b hb)
    · have r := mv_at q hgo (hok b hb)
      rw [← e, mvP_no p] at r
      exact absurd r (no a ha)
    · rwa [mvP_no p, mvP_no q] at e
  exact same_path h.2.1 ha hb key
theorem mv_apart : (t.map (mvE f g)).Pairwise (fun a b => a.p ≠ b.p) := by
  rw [List.pairwise_map]
  refine h.2.1.imp_of_mem (fun {a b} ha hb hlt e => ?_)
  have := mv_inj h hf hg hgo hl hok ha hb e
  rw [this] at hlt
  exact ltT_irr b hlt
theorem mv_mem {x : EnP} : x ∈ sortTN (t.map (mvE f g)) ↔ ∃ e ∈ t, x = mvE f g e := by
  rw [sort_mem (mv_apart h hf hg hgo hl hok), List.mem_map]
  constructor
  · rintro ⟨e, he, rfl⟩; exact ⟨e, he, rfl⟩
  · rintro ⟨e, he, rfl⟩; exact ⟨e, he, rfl⟩
include hpar
theorem mv_tab : TabOk (sortTN (t.map (mvE f g))) := by
  have mem := fun x => mv_mem h hf hg hgo hl hok (x := x)
  refine ⟨fun x hx => ?_, sort_sorted _, fun x hx hp => ?_⟩
  · obtain ⟨e, he, rfl⟩ := (mem x).1 hx
    exact ⟨hok e he, (h.1 e he).2.1, (h.1 e he).2.2⟩
  · obtain ⟨e, he, rfl⟩ := (mem x).1 hx
    have hp2 : hasParent (mvP f g e.p) = true := hp
    show HasDir _ (parentL (mvP f g e.p))
    by_cases q : underL f e.p = true
    · obtain ⟨_, r2, r3⟩ := mv_parent q (hok e he)
      obtain ⟨d, hd, dp, dk⟩ := h.2.2 e he (under_parent q).1
      exact ⟨mvE f g d, (mem _).2 ⟨d, hd, rfl⟩, by rw [r2]; show mvP f g d.p = _; rw [dp], dk⟩
    · by_cases r : e.p = f
      · have em : mvP f g e.p = g := by rw [r, mvP_yes (.inl rfl), List.drop_length, List.append_nil]
        rw [em] at hp2 ⊢
        obtain ⟨d, hd, dp, dk⟩ := parT_zero hpar hp2
        refine ⟨mvE f g d, (mem _).2 ⟨d, hd, rfl⟩, ?_, dk⟩
        show mvP f g d.p = _
        rw [mvP_no, dp]
        rw [dp]
        exact fun s => hl (.inr (parent_under hp2 s))
      · have no : ¬ AtU f e.p := fun s => s.elim r q
        rw [mvP_no no] at hp2 ⊢
        obtain ⟨d, hd, dp, dk⟩ := h.2.2 e he hp2
        refine ⟨mvE f g d, (mem _).2 ⟨d, hd, rfl⟩, ?_, dk⟩
        show mvP f g d.p = _
        rw [mvP_no, dp]
        rw [dp]
        exact fun s => no (.inr (parent_under hp2 s))
/-- Moved back it is as it was. -/
theorem mv_mv (hfo : okP f = true) : moveT (sortTN (t.map (mvE f g))) g f = (0, t) := by
  have mem := fun x => mv_mem h hf hg hgo hl hok (x := x)
  have no := not_over h hf hg hgo hl
  have tab := mv_tab h hf hg hgo hl hpar hok
  have none_f : getT (sortTN (t.map (mvE f g))) f = none := by
    rw [get_none]
    intro x hx q
    obtain ⟨e, he, rfl⟩ := (mem x).1 hx
    have q : mvP f g e.p = f := q
    by_cases s : AtU f e.p
    · have := mv_at s hgo (hok e he)
      rw [q] at this
      exact no this
    · rw [mvP_no s] at q
      exact s (.inl q)
  have some_g : getT (sortTN (t.map (mvE f g))) g ≠ none := by
    obtain ⟨e, he⟩ := Option.ne_none_iff_exists'.1 hf
    obtain ⟨he1, he2⟩ := get_some he
    intro q
    refine get_none.1 q (mvE f g e) ((mem _).2 ⟨e, he1, rfl⟩) ?_
    show mvP f g e.p = g
    rw [he2, mvP_yes (.inl rfl), List.drop_length, List.append_nil]
  have par_f : parT (sortTN (t.map (mvE f g))) f = 0 := parT_of tab.2.1 (fun hp => by
    obtain ⟨e, he⟩ := Option.ne_none_iff_exists'.1 hf
    obtain ⟨he1, he2⟩ := get_some he
    obtain ⟨d, hd, dp, dk⟩ := h.2.2 e he1 (by rw [he2]; exact hp)
    rw [he2] at dp
    refine ⟨mvE f g d, (mem _).2 ⟨d, hd, rfl⟩, ?_, dk⟩
    show mvP f g d.p = _
    rw [mvP_no, dp]
    rw [dp]
    rintro (s | s)
    · have := parent_less hp
      rw [s, less_self] at this
      cases this
    · have a := under_less _ _ s
      rw [less_not _ _ (parent_less hp)] at a
      cases a)
  have back : ∀ e ∈ t, mvP g f (mvP f g e.p) = e.p := fun e he => by
    by_cases s : AtU f e.p
    · exact mv_back s hgo (hok e he)
    · rw [mvP_no s, mvP_no (fun q => q.elim (fun r => get_none.1 hg e he r) (fun r => by rw [none_under h hg e he] at r; cases r))]
  have fine : (sortTN (t.map (mvE f g))).any (fun e => !okP (mvP g f e.p)) = false := by
    rw [List.any_eq_false]
    intro x hx
    obtain ⟨e, he, rfl⟩ := (mem x).1 hx
    have : okP (mvP g f (mvP f g e.p)) = true := by rw [back e he]; exact (h.1 e he).1
    show ¬ ((!okP (mvP g f (mvP f g e.p))) = true)
    rw [this]
    simp
  unfold moveT
  rw [if_neg (fun q => q ⟨tab, hgo, hfo⟩), if_neg some_g, if_neg (show ¬ (f = g ∨ underL g f = true) from no), if_neg (fun q => q none_f), if_neg (fun q => q par_f), if_neg (by rw [fine]; simp)]
  refine congrArg (fun z => ((0 : Int), z)) (t_ext (sort_sorted _) h.2.1 (fun x => ?_))
  have ap := mv_apart tab some_g none_f hfo no (fun e he => by
    rcases q : okP (mvP g f e.p) with _ | _
    · have := List.any_eq_false.1 fine e he
      rw [q] at this
      exact absurd rfl this
    · rfl)
  rw [sort_mem ap, List.mem_map]
  constructor
  · rintro ⟨y, hy, rfl⟩
    obtain ⟨e, he, rfl⟩ := (mem y).1 hy
    have : mvE g f (mvE f g e) = e := by
      show EnP.mk (mvP g f (mvP f g e.p)) _ _ _ = e
      rw [back e he]
      rfl
    rw [this]
    exact he
  · intro hx
    refine ⟨mvE f g x, (mem _).2 ⟨x, hx, rfl⟩, ?_⟩
    show EnP.mk (mvP g f (mvP f g x.p)) _ _ _ = x
    rw [back x hx]
    rfl
end
theorem move_yes {t u : List EnP} {f g : List UInt8} (h : moveT t f g = (0, u)) : TabOk t ∧ okP f = true ∧ okP g = true ∧ getT t f ≠ none ∧ ¬ AtU f g ∧ getT t g = none ∧ parT t g = 0 ∧ (∀ e ∈ t, okP (mvP f g e.p) = true) ∧ u = sortTN (t.map (mvE f g)) := by
  unfold moveT at h
  split at h
  · cases h
  · rename_i h1
    have h1 := Decidable.not_not.1 h1
    split at h
    · cases h
    · rename_i h2
      split at h
      · cases h
      · rename_i h3
        split at h
        · cases h
        · rename_i h4
          have h4 := Decidable.not_not.1 h4
          split at h
          · rename_i h5; exact absurd (congrArg Prod.fst h) h5
          · rename_i h5
            have h5 := Decidable.not_not.1 h5
            split at h
            · cases h
            · rename_i h6
              refine ⟨h1.1, h1.2.1, h1.2.2, h2, h3, h4, h5, fun e he => ?_, (congrArg Prod.snd h).symm⟩
              rcases q : okP (mvP f g e.p) with _ | _
              · exact absurd (List.any_eq_true.2 ⟨e, he, by rw [q]; rfl⟩) h6
              · rfl
theorem move_tab {t u : List EnP} {f g : List UInt8} (h : moveT t f g = (0, u)) : TabOk t ∧ TabOk u := by
  obtain ⟨a, b, c, d, e, i, j, k, rfl⟩ := move_yes h
  exact ⟨a, mv_tab a d i c e j k⟩
theorem move_back {t u : List EnP} {f g : List UInt8} (h : moveT t f g = (0, u)) : moveT u g f = (0, t) := by
  obtain ⟨a, b, c, d, e, i, j, k, rfl⟩ := move_yes h
  exact mv_mv a d i c e j k b
theorem move_len {t u : List EnP} {f g : List UInt8} (h : moveT t f g = (0, u)) : u.length = t.length := by
  obtain ⟨a, b, c, d, e, i, j, k, rfl⟩ := move_yes h
  have hs := mv_apart a d i c e k
  have key : ∀ (l t : List EnP), (l ++ t).Pairwise (fun a b => a.p ≠ b.p) → t.Pairwise ltT → (l.foldl layT t).length = l.length + t.length := by
    intro l
    induction l with
    | nil => intro t _ _; simp
    | cons x l ih =>
      intro t hp ht
      rw [List.cons_append, List.pairwise_cons] at hp
      have hx : ∀ y ∈ t, y.p ≠ x.p := fun y hy q => hp.1 y (by simp [hy]) q.symm
      have ln : (layT t x).length = t.length + 1 := by
        have : ∀ t : List EnP, (∀ y ∈ t, y.p ≠ x.p) → (t.filter (fun e => lessL e.p x.p)).length + (t.filter (fun e => lessL x.p e.p)).length = t.length := by
          intro t
          induction t with
          | nil => intro _; rfl
          | cons y t ih2 =>
            intro hy
            have := ih2 (fun z hz => hy z (by simp [hz]))
            rw [List.filter_cons, List.filter_cons]
            rcases less_tri y.p x.p with q | q | q
            · exact absurd q (hy y (by simp))
            · rw [q, less_not _ _ q]; simp; omega
            · rw [q, less_not _ _ q]; simp; omega
        unfold layT
        rw [List.length_append, List.length_cons]
        have := this t hx
        omega
      rw [List.foldl_cons, ih (layT t x) ?_ (lay_sorted ht x), ln, List.length_cons]
      · omega
      · rw [List.pairwise_append] at hp ⊢
        obtain ⟨h1, h2, h3, h4⟩ := hp
        refine ⟨h2, (lay_sorted ht x).imp (fun q => ltT_ne q), fun a ha b hb => ?_⟩
        rcases lay_mem.1 hb with rfl | q
        · exact (h1 a (by simp [ha])).symm
        · exact h4 a ha b q.1
  have := key (t.map (mvE f g)) [] (by rw [List.append_nil]; exact hs) List.Pairwise.nil
  unfold sortTN
  rw [this]
  simp
/-- What is moved stands at its new path; nothing at the old one. -/
theorem move_got {t u : List EnP} {f g : List UInt8} (h : moveT t f g = (0, u)) : (∃ e, getT t f = some e ∧ getT u g = some ⟨g, e.k, e.m, e.b⟩) ∧ getT u f = none ∧ underT u f = [] ∧ (underT u g).length = (underT t f).length ∧ (∀ p, ¬ AtU f p → ¬ AtU g p → getT u p = getT t p) := by
  have hb := move_yes (move_back h)
  obtain ⟨a, b, c, d, e, i, j, k, hu⟩ := move_yes h
  have ut := (move_tab h).2
  have mem : ∀ x, x ∈ u ↔ ∃ e ∈ t, x = mvE f g e := fun x => by rw [hu]; exact mv_mem a d i c e k
  refine ⟨?_, hb.2.2.2.2.2.1, ?_, ?_, fun p hp hq => ?_⟩
  · obtain ⟨x, hx⟩ := Option.ne_none_iff_exists'.1 d
    obtain ⟨x1, x2⟩ := get_some hx
    refine ⟨x, hx, (get_iff ut.2.1).2 ⟨(mem _).2 ⟨x, x1, ?_⟩, rfl⟩⟩
    unfold mvE
    rw [x2, mvP_yes (.inl rfl), List.drop_length, List.append_nil]
  · unfold underT
    rw [List.filter_eq_nil_iff]
    intro x hx
    rw [none_under ut hb.2.2.2.2.2.1 x hx]
    simp
  · unfold underT
    have key : ((t.filter (fun e => underL f e.p)).map (mvE f g)).foldl layT [] = u.filter (fun e => underL g e.p) := by
      have ap : ((t.filter (fun e => underL f e.p)).map (mvE f g)).Pairwise (fun a b => a.p ≠ b.p) := (mv_apart a d i c e k).sublist (List.Sublist.map _ List.filter_sublist)
      refine t_ext (lays_sorted _ List.Pairwise.nil) (ut.2.1.sublist List.filter_sublist) (fun x => ?_)
      rw [lays_mem _ (by rw [List.append_nil]; exact ap), List.mem_filter, mem, List.mem_map]
      constructor
      · rintro (⟨y, hy, rfl⟩ | q)
        · obtain ⟨y1, y2⟩ := List.mem_filter.1 hy
          refine ⟨⟨y, y1, rfl⟩, ?_⟩
          obtain ⟨_, _, dd, hd⟩ := under_split y2
          have o := k y y1
          show underL g (mvP f g y.p) = true
          rw [hd] at o y2 ⊢
          rw [mvP_app (.inr y2)] at o ⊢
          exact under_of c o
        · simp at q
      · rintro ⟨⟨y, y1, rfl⟩, q⟩
        left
        refine ⟨y, List.mem_filter.2 ⟨y1, ?_⟩, rfl⟩
        have q : underL g (mvP f g y.p) = true := q
        by_cases s : AtU f y.p
        · rcases s with s | s
          · rw [s, mvP_yes (.inl rfl), List.drop_length, List.append_nil, under_self] at q; cases q
          · exact s
        · rw [mvP_no s, none_under a i y y1] at q; cases q
    rw [← key]
    have len : ∀ (l : List EnP), l.Pairwise (fun a b => a.p ≠ b.p) → (sortTN l).length = l.length := fun l hl => by
      have p1 : (sortTN l).Nodup := (sort_sorted l).imp (fun {a b} q r => by subst r; exact ltT_irr _ q)
      have p2 : l.Nodup := hl.imp (fun {a b} q r => q (congrArg EnP.p r))
      exact ((List.perm_ext_iff_of_nodup p1 p2).2 (fun x => sort_mem hl)).length_eq
    have ap : ((t.filter (fun e => underL f e.p)).map (mvE f g)).Pairwise (fun a b => a.p ≠ b.p) := (mv_apart a d i c e k).sublist (List.Sublist.map _ List.filter_sublist)
    have := len _ ap
    unfold sortTN at this
    rw [this, List.length_map]
  · have two : ∀ x, (x ∈ u ∧ x.p = p) ↔ (x ∈ t ∧ x.p = p) := fun x => by
      rw [mem]
      constructor
      · rintro ⟨⟨y, y1, rfl⟩, q⟩
        have q : mvP f g y.p = p := q
        by_cases s : AtU f y.p
        · have := mv_at s c (k y y1)
          rw [q] at this
          exact absurd this hq
        · rw [mvP_no s] at q
          have : mvE f g y = y := by unfold mvE; rw [mvP_no s]
          rw [this]
          exact ⟨y1, q⟩
      · rintro ⟨x1, q⟩
        refine ⟨⟨x, x1, ?_⟩, q⟩
        unfold mvE
        rw [mvP_no (by rw [q]; exact hp)]
    rcases q : getT t p with _ | x
    · rw [get_none] at q ⊢
      exact fun x hx r => q x ((two x).1 ⟨hx, r⟩).1 r
    · exact (get_iff ut.2.1).2 ((two x).2 (get_some q))
end
section
open Go.RowKit Go.Lib
set_option linter.unusedSimpArgs false
set_option linter.unusedVariables false


/-- A text beside a text. -/
def cmpL (a b : List UInt8) : Int := if lessL a b = true then -1 else if lessL b a = true then 1 else 0
theorem cmpL_neg {a b : List UInt8} : cmpL a b < 0 ↔ lessL a b = true := by
  unfold cmpL
  split
  · rename_i h; exact ⟨fun _ => h, fun _ => by decide⟩
  · rename_i h; split <;> exact ⟨fun q => absurd q (by decide), fun q => absurd q h⟩
set_option maxRecDepth 100000 in
set_option maxHeartbeats 2000000 in
theorem orderofs_any (w : World) (a b : List UInt8) (ha : a.length ≤ 10000000) (hb : b.length ≤ 10000000) :
    Calls Tryz.prog 94 #[.string (strOf a), .string (strOf b), .func (.func 32) #[] #[]] w fun e w' => e = .returned (.int .i64 (cmpL a b)) ∧ Chg [] w w' := by
  have L1 := Lib.hid (fun w => phless_any w a b ha hb)
  have L2 := Lib.hid (fun w => phless_any w b a hb ha)
  unfold cmpL
  generalize lessL a b = u at *
  generalize lessL b a = v at *
  clear ha hb
  go_enter Tryz.func94, Tryz.ntmps94
  go_wp2_with fail
  refine (L1.out _).mono ?_
  rintro e w1 ⟨rfl, hc⟩
  have C1 := Lib.hid hc
  clear hc
  cases u
  · go_wp2_with fail
    refine (L2.out _).mono ?_
    rintro e w2 ⟨rfl, hc⟩
    have C2 := Lib.hid (C1.out.trans hc)
    clear hc
    cases v
    · go_wp2
      go_ret
      exact ⟨rfl, C2.out⟩
    · go_wp2
      go_ret
      exact ⟨rfl, C2.out⟩
  · go_wp2
    go_ret
    exact ⟨rfl, C1.out⟩
end
section
open Go.RowKit Go.Lib
set_option linter.unusedSimpArgs false
set_option linter.unusedVariables false

theorem cmpL_zero {a b : List UInt8} : cmpL a b = 0 ↔ a = b := by
  unfold cmpL
  constructor
  · intro h
    split at h
    · cases h
    · rename_i h1
      split at h
      · cases h
      · rename_i h2
        rcases less_tri a b with q | q | q
        · exact q
        · exact absurd q h1
        · exact absurd q h2
  · rintro rfl
    rw [less_self]
    rfl
def LoN (es : List EnP) (q : List UInt8) (i : Nat) : Prop := ∀ p x, es[p]? = some x → p < i → lessL x.p q = true
def HiN (es : List EnP) (q : List UInt8) (j : Nat) : Prop := ∀ p x, es[p]? = some x → j ≤ p → lessL x.p q = false
theorem en_at {l : List EnP} (h : l.Pairwise ltT) {p q : Nat} {x y : EnP} (hx : l[p]? = some x) (hy : l[q]? = some y) (hl : p < q) : lessL x.p y.p = true := by
  obtain ⟨l1, e1⟩ := List.getElem?_eq_some_iff.1 hx
  obtain ⟨l2, e2⟩ := List.getElem?_eq_some_iff.1 hy
  have := List.pairwise_iff_getElem.1 h p q l1 l2 hl
  rw [e1, e2] at this
  exact this
theorem loN_next {es : List EnP} {q : List UInt8} (hn : es.Pairwise ltT) {h : Nat} {x : EnP} (hx : es[h]? = some x) (hc : lessL x.p q = true) : LoN es q (h + 1) := by
  intro p y hy hp
  by_cases e : p = h
  · subst e; rw [hx] at hy; cases hy; exact hc
  · exact less_trans _ _ _ (en_at hn hy hx (by omega)) hc
theorem hiN_next {es : List EnP} {q : List UInt8} (hn : es.Pairwise ltT) {h : Nat} {x : EnP} (hx : es[h]? = some x) (hc : lessL x.p q = false) : HiN es q h := by
  intro p y hy hp
  by_cases e : p = h
  · subst e; rw [hx] at hy; cases hy; exact hc
  · rcases r : lessL y.p q with _ | _
    · rfl
    · rw [less_trans _ _ _ (en_at hn hx hy (by omega)) r] at hc
      cases hc
theorem get_here {es : List EnP} {q : List UInt8} (hn : es.Pairwise ltT) {i : Nat} {x : EnP} (hx : es[i]? = some x) (hl : LoN es q i) (hh : HiN es q i) : (getT es q).isSome = decide (cmpL x.p q = 0) := by
  by_cases e : x.p = q
  · rw [decide_eq_true (cmpL_zero.2 e), (get_iff hn).2 ⟨List.mem_of_getElem? hx, e⟩]
    rfl
  · rw [decide_eq_false (fun h => e (cmpL_zero.1 h))]
    rcases h : getT es q with _ | y
    · rfl
    · obtain ⟨hy, hp⟩ := get_some h
      obtain ⟨k, hk, rfl⟩ := List.getElem_of_mem hy
      have ek := List.getElem?_eq_getElem hk
      rcases Nat.lt_trichotomy k i with r | r | r
      · exact absurd hp (less_ne (hl k _ ek r))
      · subst r; rw [hx] at ek; cases ek; exact absurd hp e
      · have a := en_at hn hx ek r
        rw [hp] at a
        rw [hh i _ hx (Nat.le_refl _)] at a
        cases a
theorem get_end {es : List EnP} {q : List UInt8} {i : Nat} (hi : es.length ≤ i) (hl : LoN es q i) : getT es q = none := get_none.2 (fun e he hp => by
  obtain ⟨k, hk, rfl⟩ := List.getElem_of_mem he
  exact less_ne (hl k _ (List.getElem?_eq_getElem hk) (by omega)) hp)
theorem split_at {es : List EnP} {q : List UInt8} {i : Nat} (hl : LoN es q i) (hh : HiN es q i) : es.filter (fun e => lessL e.p q) = es.take i ∧ es.filter (fun e => !lessL e.p q) = es.drop i := by
  have a : ∀ x ∈ es.take i, lessL x.p q = true := fun x hx => by
    obtain ⟨k, hk, rfl⟩ := List.getElem_of_mem hx
    rw [List.length_take] at hk
    rw [List.getElem_take]
    exact hl k _ (List.getElem?_eq_getElem (by omega)) (by omega)
  have b : ∀ x ∈ es.drop i, lessL x.p q = false := fun x hx => by
    obtain ⟨k, hk, rfl⟩ := List.getElem_of_mem hx
    rw [List.length_drop] at hk
    rw [List.getElem_drop]
    exact hh (i + k) _ (List.getElem?_eq_getElem (by omega)) (by omega)
  have e : es = es.take i ++ es.drop i := (List.take_append_drop i es).symm
  constructor
  · conv => lhs; rw [e]
    rw [List.filter_append, List.filter_eq_self.2 a, List.filter_eq_nil_iff.2 (fun x hx => by rw [b x hx]; simp), List.append_nil]
  · conv => lhs; rw [e]
    rw [List.filter_append, List.filter_eq_nil_iff.2 (fun x hx => by rw [a x hx]; simp), List.filter_eq_self.2 (fun x hx => by rw [b x hx]; rfl), List.nil_append]
/-- Where nothing stands at the path. -/
theorem lay_new {es : List EnP} {x : EnP} {i : Nat} (hl : LoN es x.p i) (hh : HiN es x.p i) (hg : getT es x.p = none) : layT es x = es.take i ++ x :: es.drop i := by
  obtain ⟨a, b⟩ := split_at hl hh
  unfold layT
  rw [a, ← b]
  congr 2
  refine List.filter_congr (fun e he => ?_)
  rcases less_tri e.p x.p with q | q | q
  · exact absurd q (get_none.1 hg e he)
  · rw [q, less_not _ _ q]; rfl
  · rw [q, less_not _ _ q]; rfl
/-- Where something stands there. -/
theorem lay_there {es : List EnP} {x e : EnP} {i : Nat} (hn : es.Pairwise ltT) (hl : LoN es x.p i) (hh : HiN es x.p i) (hg : getT es x.p = some e) : es[i]? = some e ∧ layT es x = es.set i x := by
  obtain ⟨a, b⟩ := split_at hl hh
  obtain ⟨he, hp⟩ := get_some hg
  have hi : i < es.length := by
    rcases Nat.lt_or_ge i es.length with q | q
    · exact q
    · rw [get_end q hl] at hg; cases hg
  have ei := List.getElem?_eq_getElem hi
  have hx : es[i] = e := by
    have q := get_here hn ei hl hh
    rw [hg] at q
    have := cmpL_zero.1 (of_decide_eq_true q.symm)
    exact same_path hn (List.mem_of_getElem? ei) he (this.trans hp.symm)
  refine ⟨by rw [ei, hx], ?_⟩
  unfold layT
  rw [a]
  have hd : es.drop i = e :: es.drop (i + 1) := by rw [List.drop_eq_getElem_cons hi, hx]
  have hf : es.filter (fun f => lessL x.p f.p) = es.drop (i + 1) := by
    have e0 : es = es.take i ++ e :: es.drop (i + 1) := by rw [← hd]; exact (List.take_append_drop i es).symm
    have hn2 := hn
    rw [e0, List.pairwise_append, List.pairwise_cons] at hn2
    conv => lhs; rw [e0]
    rw [List.filter_append, List.filter_cons, ← hp, less_self]
    rw [List.filter_eq_nil_iff.2 (fun y hy => by
      have : lessL y.p e.p = true := hn2.2.2 y hy e (by simp)
      rw [less_not _ _ this]; simp), List.filter_eq_self.2 (fun y hy => hn2.2.1.1 y hy)]
    rfl
  rw [hf, List.set_eq_take_append_cons_drop, if_pos hi]
end
section
open Go.RowKit Go.Lib
set_option linter.unusedSimpArgs false
set_option linter.unusedVariables false

set_option maxRecDepth 100000 in
set_option maxHeartbeats 2000000 in
theorem tbbypath_any (w : World) (x : EnT) (a b : List UInt8) (hx : x.p = strOf a) (ha : a.length ≤ 10000000) (hb : b.length ≤ 10000000) :
    Calls Tryz.prog 60 #[.agg #[.string x.p, .int .i64 x.k, .int .i64 x.m, .slice x.A x.l x.c], .string (strOf b)] w fun e w' => e = .returned (.int .i64 (cmpL a b)) ∧ Chg [] w w' := by
  obtain ⟨w1, hw1, c1, b1⟩ := news1 w (.cells #[.string x.p, .int .i64 x.k, .int .i64 x.m, .slice x.A x.l x.c] 55)
  have W1 := Lib.hid hw1
  have C1 := Lib.hid c1
  have CC := Lib.hid (orderofs_any w1 a b ha hb)
  have z0 := cell_of b1 0
  simp only [List.getElem?_toArray, List.getElem?_cons_succ, List.getElem?_cons_zero] at z0
  rw [hx] at z0
  clear hw1 c1 b1 hx ha hb
  go_enter Tryz.func60, Tryz.ntmps60
  go_upto_region 1 with fail
  rw [← W1.out]
  generalize w.heap.size = g1 at *
  clear W1
  go_wp2_with fail
  clear z0
  refine CC.out.mono ?_
  rintro r w2 ⟨rfl, hc⟩
  replace C1 := Lib.hid (C1.out.trans hc)
  clear hc CC
  go_wp2
  go_ret
  exact ⟨rfl, C1.out⟩
set_option maxRecDepth 100000 in
set_option maxHeartbeats 8000000 in
theorem binen_any (w : World) (A : Option Addr) (c : Nat) (xs : List EnT) (es : List EnP) (q : List UInt8) (h : RdK enTy w A xs.length xs) (hx : EnsR w xs es) (hn : es.Pairwise ltT) (hl : xs.length ≤ 100000) (hq : q.length ≤ 10000000) (he : ∀ e ∈ es, e.p.length ≤ 10000000) :
    Calls Tryz.prog 77 #[.slice A xs.length c, .string (strOf q), .func (.func 60) #[] #[]] w fun r w' => ∃ i : Nat, i ≤ xs.length ∧ LoN es q i ∧ HiN es q i ∧ r = .returned (.tuple #[.int .i64 (i : Int), .bool (getT es q).isSome]) ∧ Chg [] w w' := by
  have HA := Lib.hid h
  have HX := Lib.hid hx
  have HNM := Lib.hid hn
  have HL := Lib.hid hl
  have HCMP : Hid (∀ (w' : World) (k : Nat) (x : EnT) (e : EnP), xs[k]? = some x → es[k]? = some e → Calls Tryz.prog 60 #[.agg #[.string x.p, .int .i64 x.k, .int .i64 x.m, .slice x.A x.l x.c], .string (strOf q)] w' fun r w2 => r = .returned (.int .i64 (cmpL e.p q)) ∧ Chg [] w' w2) := Lib.hid (fun w' k x e h1 h2 => tbbypath_any w' x e.p q (hx.2 k x e h1 h2).p (he e (List.mem_of_getElem? h2)) hq)
  have HP := Lib.hid (fun e h => he e h)
  clear h hx hn hl hq he
  go_enter Tryz.func77, Tryz.ntmps77
  go_wp2
  go_loopw [9, 10] (fun v9 v10 wr => ∃ (i j : Nat), i ≤ j ∧ j ≤ xs.length ∧ v9 = .int .i64 (i : Int) ∧ v10 = .int .i64 (j : Int) ∧ Hid (LoN es q i ∧ HiN es q j) ∧ Hid (Chg [] w wr)) (fun v9 v10 _ => (RowKit.intOf v10).toNat - (RowKit.intOf v9).toNat)
  case atStart => exact ⟨0, xs.length, Nat.zero_le _, Nat.le_refl _, rfl, rfl, Lib.hid ⟨fun p x _ h => absurd h (by omega), fun p x hx h => absurd ((List.getElem?_eq_some_iff.1 hx).1) (by have := HX.out.1; omega)⟩, Chg.refl _ _⟩
  case round =>
    obtain ⟨i, j, hij, hj, rfl, rfl, HI, HC⟩ := hrel
    have i0 : (0 : Int) ≤ (i : Int) := by omega
    have hl := HL.out
    have i1 : IntKind.i64.wrap ((i : Int) + (j : Int)) = ((i + j : Nat) : Int) := by rw [IntWalk.i64_in _ (by omega)]; omega
    by_cases hlt : i < j
    · have i2 : (i : Int) < (j : Int) := by omega
      go_upto_region 5 with fail
      obtain ⟨k, hk⟩ : ∃ k : Nat, k = (i + j) / 2 := ⟨_, rfl⟩
      have e1 : ((i : Int) + (j : Int)) / 2 = (k : Int) := by omega
      rw [e1]
      have hk1 : i ≤ k ∧ k < j := by omega
      clear hk e1 i1 i2
      obtain ⟨x, e, ex, ee, _⟩ := HX.out.at_ (show k < xs.length by omega)
      obtain ⟨g, o, eA, _⟩ := HA.out.line (by omega)
      subst eA
      obtain ⟨z0, z1, z2, z3⟩ := enCells (HA.out.chg HC.out (by simp)) ex
      have k0 : (0 : Int) ≤ (k : Int) := by omega
      have k1 : (k : Int) < (xs.length : Int) := by omega
      have EE := Lib.hid ee
      have CL := Lib.hid (HCMP.out wr k x e ex ee)
      clear ex ee
      go_wp2_with fail
      clear z0 z1 z2 z3
      refine CL.out.mono ?_
      rintro r w2 ⟨rfl, hc⟩
      have CE := Lib.hid (HC.out.trans hc)
      clear hc CL
      by_cases hneg : cmpL e.p q < 0
      · have LO := Lib.hid (loN_next HNM.out EE.out (cmpL_neg.1 hneg))
        have dn1 : decide (cmpL e.p q < 0) = true := decide_eq_true hneg
        have w1' : IntKind.i64.wrap ((k : Int) + 1) = (k : Int) + 1 := IntWalk.i64_in _ (by omega)
        go_wp2
        go_round
        case rel => exact ⟨k + 1, j, by omega, hj, by go_num, rfl, Lib.hid ⟨LO.out, HI.out.2⟩, CE⟩
        case measure => simp [RowKit.intOf]; omega
      · have HIN := Lib.hid (hiN_next HNM.out EE.out (by
          rcases t : lessL e.p q with _ | _
          · rfl
          · exact absurd (cmpL_neg.2 t) hneg))
        have dn1 : decide (cmpL e.p q < 0) = false := decide_eq_false hneg
        go_wp2
        go_round
        case rel => exact ⟨i, k, by omega, by omega, rfl, rfl, Lib.hid ⟨HI.out.1, HIN.out⟩, CE⟩
        case measure => simp [RowKit.intOf]; omega
    · obtain rfl : i = j := by omega
      have i2 : ¬ (i : Int) < (i : Int) := by omega
      by_cases hin : i < xs.length
      · have k1 : (i : Int) < (xs.length : Int) := by omega
        obtain ⟨x, e, ex, ee, _⟩ := HX.out.at_ hin
        obtain ⟨g, o, eA, _⟩ := HA.out.line (by omega)
        subst eA
        obtain ⟨z0, z1, z2, z3⟩ := enCells (HA.out.chg HC.out (by simp)) ex
        have CL := Lib.hid (HCMP.out wr i x e ex ee)
        have ANS : Hid ((getT es q).isSome = decide (cmpL e.p q = 0)) := Lib.hid (get_here HNM.out ee HI.out.1 HI.out.2)
        clear ex ee
        go_wp2_with fail
        clear z0 z1 z2 z3
        refine CL.out.mono ?_
        rintro r w2 ⟨rfl, hc⟩
        have CE := Lib.hid (HC.out.trans hc)
        clear hc CL
        by_cases hz : cmpL e.p q = 0
        · have AN : (getT es q).isSome = true := by rw [ANS.out, decide_eq_true hz]
          have dz : ((cmpL e.p q == 0) : Bool) = true := by simpa using hz
          clear ANS
          go_wp2
          go_ret2
          exact ⟨i, by omega, HI.out.1, HI.out.2, by rw [AN]; first | rfl | (rw [dz]), CE.out⟩
        · have AN : (getT es q).isSome = false := by rw [ANS.out, decide_eq_false hz]
          have dz : ((cmpL e.p q == 0) : Bool) = false := by simpa using hz
          clear ANS
          go_wp2
          go_ret2
          exact ⟨i, by omega, HI.out.1, HI.out.2, by rw [AN]; first | rfl | (rw [dz]), CE.out⟩
      · have k1 : ¬ (i : Int) < (xs.length : Int) := by omega
        have k2 : decide ((i : Int) < (xs.length : Int)) = false := by simp; omega
        have AN : (getT es q).isSome = false := by rw [get_end (by have := HX.out.1; omega) HI.out.1]; rfl
        go_wp2
        go_ret2
        exact ⟨i, by omega, HI.out.1, HI.out.2, by first | rfl | (rw [AN]; rfl), HC.out⟩
end
section
open Go.RowKit Go.Lib
set_option linter.unusedSimpArgs false
set_option linter.unusedVariables false

theorem mid_at {α : Type} {l : List α} {a b : Nat} {x : α} (ha : a ≤ l.length) (i : Nat) : (l.take a ++ x :: l.drop b)[i]? = if i < a then l[i]? else if i = a then some x else l[i - a - 1 + b]? := by
  have hl : (l.take a).length = a := by rw [List.length_take]; omega
  by_cases h : i < a
  · rw [if_pos h, List.getElem?_append_left (by omega), List.getElem?_take, if_pos h]
  · rw [if_neg h, List.getElem?_append_right (by omega), hl]
    by_cases h2 : i = a
    · rw [if_pos h2, h2, Nat.sub_self]; rfl
    · rw [if_neg h2]
      obtain ⟨j, hj⟩ : ∃ j, i - a = j + 1 := ⟨i - a - 1, by omega⟩
      rw [hj, List.getElem?_cons_succ, List.getElem?_drop, show j + 1 - 1 + b = b + j by omega]
theorem both_mid {α β : Type} {P : α → β → Prop} {ys : List α} {es : List β} (hl : ys.length = es.length) (h : ∀ (i : Nat) (y : α) (e : β), ys[i]? = some y → es[i]? = some e → P y e) {a b : Nat} {x : α} {f : β} (ha : a ≤ ys.length) (hx : P x f) : ∀ (i : Nat) (y : α) (e : β), (ys.take a ++ x :: ys.drop b)[i]? = some y → (es.take a ++ f :: es.drop b)[i]? = some e → P y e := by
  intro i y e hy he
  rw [mid_at ha] at hy
  rw [mid_at (by omega)] at he
  by_cases h1 : i < a
  · rw [if_pos h1] at hy he; exact h i y e hy he
  · rw [if_neg h1] at hy he
    by_cases h2 : i = a
    · rw [if_pos h2] at hy he; cases hy; cases he; exact hx
    · rw [if_neg h2] at hy he; exact h _ y e hy he
theorem EnsR.mid {w : World} {ys : List EnT} {es : List EnP} {X : EnT} {f : EnP} {a b : Nat} (h : EnsR w ys es) (ha : a ≤ ys.length) (r : EnR w X f) : EnsR w (ys.take a ++ X :: ys.drop b) (es.take a ++ f :: es.drop b) :=
  ⟨by have := h.1; simp; omega, both_mid h.1 h.2 ha r⟩
theorem take_drop_sub {α : Type} (l : List α) {a b : Nat} (h : a ≤ b) : (l.take a ++ l.drop b).Sublist l := by
  conv => rhs; rw [← List.take_append_drop b l]
  refine List.Sublist.append ?_ (List.Sublist.refl _)
  have : l.take a = (l.take b).take a := by rw [List.take_take, Nat.min_eq_left h]
  rw [this]
  exact List.take_sublist _ _
theorem OwnNs.mid {w : World} {lo hi hi' : Nat} {G : Option Addr} {ys : List EnT} {es : List EnP} {X : EnT} {f : EnP} {a b : Nat} (h : OwnNs w lo hi G ys es) (ha : a ≤ ys.length) (hab : a ≤ b) (hh : lo ≤ hi ∧ hi ≤ hi') (r : EnR w X f) (hA : OwnB w X.A X.c f.b) (hX : ∀ q, X.A = some q → hi ≤ q.block ∧ q.block < hi' ∧ ∀ g, G = some g → q.block ≠ g.block) : OwnNs w lo hi' G (ys.take a ++ X :: ys.drop b) (es.take a ++ f :: es.drop b) := by
  have inn : ∀ y, y ∈ ys.take a ++ X :: ys.drop b → y = X ∨ y ∈ ys := fun y hy => by
    rcases List.mem_append.1 hy with q | q
    · exact .inr (List.mem_of_mem_take q)
    · rcases List.mem_cons.1 q with q | q
      · exact .inl q
      · exact .inr (List.mem_of_mem_drop q)
  refine ⟨h.ev.mid ha r, both_mid (P := fun y e => OwnB w y.A y.c e.b) h.ev.1 h.own ha hA, fun y hy q hq => ?_, ?_⟩
  · rcases inn y hy with rfl | hy
    · have := hX q hq
      exact ⟨by omega, this.2⟩
    · have := h.at_ y hy q hq
      exact ⟨this.1, by omega, this.2.2⟩
  · have s := h.apart.sublist (take_drop_sub ys hab)
    rw [List.pairwise_append] at s ⊢
    refine ⟨s.1, List.pairwise_cons.2 ⟨fun z hz p q hp hq => ?_, s.2.1⟩, fun y hy z hz p q hp hq => ?_⟩
    · have := (hX p hp).1
      have := (h.at_ z (List.mem_of_mem_drop hz) q hq).2.1
      omega
    · rcases List.mem_cons.1 hz with rfl | hz
      · have := (hX q hq).1
        have := (h.at_ y (List.mem_of_mem_take hy) p hp).2.1
        omega
      · exact s.2.2 y hy z hz p q hp hq
theorem OwnNs.row {w : World} {lo hi : Nat} {G G' : Option Addr} {ys : List EnT} {es : List EnP} (h : OwnNs w lo hi G ys es) (hG : ∀ a, G' = some a → G = some a ∨ hi ≤ a.block) : OwnNs w lo hi G' ys es :=
  ⟨h.ev, h.own, fun y hy a ha => ⟨(h.at_ y hy a ha).1, (h.at_ y hy a ha).2.1, fun b hb => by
    rcases hG b hb with q | q
    · exact (h.at_ y hy a ha).2.2 b q
    · have := (h.at_ y hy a ha).2.1; omega⟩, h.apart⟩
theorem NsF.low {w : World} {lo lo' hi : Nat} {A : Option Addr} {c : Nat} {ys : List EnT} {es : List EnP} (h : NsF w lo hi A c ys es) (hh : lo' ≤ lo) : NsF w lo' hi A c ys es :=
  ⟨h.row, fun a ha => ⟨Nat.le_trans hh (h.rowAt a ha).1, (h.rowAt a ha).2⟩, h.all.low hh⟩
theorem NsF.mono {w : World} {lo hi hi' : Nat} {A : Option Addr} {c : Nat} {ys : List EnT} {es : List EnP} (h : NsF w lo hi A c ys es) (hh : hi ≤ hi') : NsF w lo hi' A c ys es :=
  ⟨h.row, fun a ha => ⟨(h.rowAt a ha).1, Nat.lt_of_lt_of_le (h.rowAt a ha).2 hh⟩, h.all.mono hh⟩
theorem set_mid {α : Type} {l : List α} {i : Nat} {x : α} (h : i < l.length) : l.set i x = l.take i ++ x :: l.drop (i + 1) := by
  rw [List.set_eq_take_append_cons_drop, if_pos h]
/-- Some of a list's entries. -/
theorem OwnNs.sub {w : World} {lo hi : Nat} {G : Option Addr} {ys zs : List EnT} {es fs : List EnP} (h : OwnNs w lo hi G ys es) (hr : EnsR w zs fs) (hs : (zs.zip fs).Sublist (ys.zip es)) : OwnNs w lo hi G zs fs := by
  have pr : ∀ (i : Nat) (z : EnT) (e : EnP), zs[i]? = some z → fs[i]? = some e → ∃ k, ys[k]? = some z ∧ es[k]? = some e := fun i z e hz he => by
    have m := hs.subset (List.mem_of_getElem? ((List.getElem?_zip_eq_some (z := (z, e))).2 ⟨hz, he⟩))
    obtain ⟨k, hk⟩ := List.getElem?_of_mem m
    exact ⟨k, (List.getElem?_zip_eq_some (z := (z, e))).1 hk⟩
  have z1 : (zs.zip fs).map Prod.fst = zs := List.map_fst_zip (by rw [hr.1]; exact Nat.le_refl _)
  have y1 : (ys.zip es).map Prod.fst = ys := List.map_fst_zip (by rw [h.ev.1]; exact Nat.le_refl _)
  have sb : zs.Sublist ys := by
    have := hs.map Prod.fst
    rwa [z1, y1] at this
  refine ⟨hr, fun i z e hz he => ?_, fun z hz => h.at_ z (sb.subset hz), h.apart.sublist sb⟩
  obtain ⟨k, a, b⟩ := pr i z e hz he
  exact h.own k z e a b
end
section
open Go.RowKit Go.Lib
set_option linter.unusedSimpArgs false
set_option linter.unusedVariables false

set_option maxRecDepth 100000 in
set_option maxHeartbeats 1000000 in
theorem cloneEn_any (w : World) (A : Option Addr) (n c : Nat) (xs : List EnT) (h : RdK enTy w A n xs) (hn : n * 400 ≤ 140737488355327) :
    Calls Tryz.prog 50 #[.slice A n c] w fun e w' => ∃ A' c', e = .returned (.slice A' n c') ∧ OwnK enTy w' A' c' xs ∧ (∀ a, A' = some a → w.heap.size ≤ a.block) ∧ Chg [] w w' := by
  have heq := fun W => Lib.run_eql_slice_nil (P := Tryz.prog) W 22 55 A n c 0 0 Tryz.underlying22
  cases A with
  | none =>
    have hx := rdk_nil h
    subst hx
    have hl : n = 0 := h.len.symm
    subst hl
    clear h
    go_enter Tryz.func50, Tryz.ntmps50
    go_wp2
    go_ret
    exact ⟨none, 0, rfl, OwnK.none_ _, by simp, Chg.refl _ _⟩
  | some ad =>
    obtain ⟨w1, hw1, c1, b1⟩ := news1 w (.cells #[] 55)
    have W1 := Lib.hid hw1
    have HA := Lib.hid (h.chg c1 (by simp))
    have HO : Hid (OwnK enTy w1 (some ⟨w.heap.size, 0, none⟩) 0 []) := Lib.hid (.of (full := []) b1 (Nat.le_refl _) (Nat.zero_le _) rfl rfl)
    have C1 := Lib.hid c1
    have HN : Hid ((0 + n) * 400 ≤ 140737488355327) := Lib.hid (by rw [Nat.zero_add]; exact hn)
    clear hw1 c1 b1 h hn
    go_enter Tryz.func50, Tryz.ntmps50
    go_wp2_with (at_builtin; rw [← W1.out]; refine wpList_appK rfl _ _ rfl rfl HO.out rfl rfl HA.out HN.out ?_; intro A2 c2 w2 u2 d2 e2)
    go_ret
    rw [Nat.zero_add] at *
    have hA2 : ∀ a, A2 = some a → w.heap.size ≤ a.block := by
      rintro a rfl
      rcases e2 with h | h
      · cases h; exact Nat.le_refl _
      · cases h; exact C1.out.size
    exact ⟨A2, c2, rfl, by simpa using u2, hA2, C1.out.grown d2 (fun k hk => by simp at hk; subst hk; exact .inr (Nat.le_refl _))⟩
end
section
open Go.RowKit Go.Lib
set_option linter.unusedSimpArgs false
set_option linter.unusedVariables false

/-- A new row of zeros. -/
theorem RowTy.run_mk {α : Type} (R : RowTy α) (n : Nat) (h : n ≤ 1000000) (w : World) : (Instr.makeSlice R.TS (.int .i64 (n : Int)) (.int .i64 (n : Int))).run Tryz.prog w = .ok (.slice (some ⟨w.heap.size, 0, none⟩) n n) (w.alloc (.cells (R.flat (List.replicate n R.z)).toArray R.T)) := by
  have hinf := R.info
  obtain ⟨i0, hi, hm⟩ := Option.map_eq_some_iff.1 hinf
  have hz : i0.zero = some R.zv := congrArg Prod.fst hm
  have hs : i0.size = R.k := congrArg (fun p => p.2.1) hm
  have hb : i0.bytes = R.bytes := congrArg (fun p => p.2.2) hm
  have hr := run_make (P := Tryz.prog) w R.TS R.T i0 R.zv R.under hi hz .i64 .i64 n n (by omega) (by omega) (by rw [hb]; have := R.bpos; have : (R.bytes : Int) * (n : Int) ≤ 200 * (n : Int) := Int.mul_le_mul_of_nonneg_right (by omega) (by omega); omega) (by omega)
  rw [hr, hs, Int.toNat_natCast]
  have hk : R.zv.cells.size = R.k := by rw [← Array.length_toList, R.zc, R.klen]
  have e : madeCells R.zv.cells (n * R.k) = (R.flat (List.replicate n R.z)).toArray := by
    rw [← R.zeros]
    unfold madeCells Builtin.zeroCells
    simp [hk]
  rw [e]
end
section
open Go.RowKit Go.Lib
set_option linter.unusedSimpArgs false
set_option linter.unusedVariables false

set_option maxRecDepth 100000 in
set_option maxHeartbeats 8000000 in
theorem frlistn_any (w : World) (A : Option Addr) (c : Nat) (xs : List EnT) (es : List EnP) (h : RdK enTy w A xs.length xs) (hx : EnsR w xs es) (hn : xs.length ≤ 100000) (hq : ∀ e ∈ es, e.b.length ≤ 140737488351232 ) :
    Calls Tryz.prog 89 #[.slice A xs.length c, .func (.func 78) #[] #[]] w fun r w' => ∃ (A' : Option Addr) (c' : Nat) (ys : List EnT), r = .returned (.slice A' ys.length c') ∧ ys.length = xs.length ∧ NsF w' w.heap.size w'.heap.size A' c' ys es ∧ Chg [] w w' := by
  have HA := Lib.hid h
  have HX := Lib.hid hx
  have HN := Lib.hid hn
  have HQ := Lib.hid hq
  by_cases h0 : xs.length = 0
  · have hx0 : xs = [] := List.length_eq_zero_iff.1 h0
    subst hx0
    have he : es = [] := List.length_eq_zero_iff.1 (by have := hx.1; simpa using this.symm)
    subst he
    clear HA HX HN HQ h hx hn hq h0
    go_enter Tryz.func89, Tryz.ntmps89
    go_wp2
    go_ret
    exact ⟨none, 0, [], rfl, rfl, NsF.nil _ _ _, Chg.refl _ _⟩
  · have hn0 : ¬ (xs.length : Int) = 0 := by omega
    have HP := Lib.hid h0
    have hmk : ∀ w : World, (Instr.makeSlice 22 (.int .i64 (xs.length : Int)) (.int .i64 (xs.length : Int))).run Tryz.prog w = .ok (.slice (some ⟨w.heap.size, 0, none⟩) xs.length xs.length) (w.alloc (.cells (enTy.flat (List.replicate xs.length enTy.z)).toArray 55)) := enTy.run_mk xs.length (by omega)
    obtain ⟨w1, hw1, c1, b1⟩ := news1 w (.cells (enTy.flat (List.replicate xs.length enTy.z)).toArray 55)
    have W1 := Lib.hid hw1
    have C1 := Lib.hid c1
    have O1 : Hid (OwnK enTy w1 (some ⟨w.heap.size, 0, none⟩) xs.length (List.replicate xs.length enTy.z)) := Lib.hid (OwnK.of (full := List.replicate xs.length enTy.z) b1 (by simp) (by unfold maxLen; omega) (by simp) (by simp))
    have SZ1 : Hid (w.heap.size + 1 ≤ w1.heap.size) := Lib.hid (lt_of_heap b1)
    clear h hx hn hq hw1 c1 b1 h0
    go_enter Tryz.func89, Tryz.ntmps89
    go_upto_region 4 with fail
    rw [← W1.out]
    obtain ⟨g, hg⟩ : ∃ g, w.heap.size = g := ⟨_, rfl⟩
    have HG := Lib.hid hg
    rw [hg] at O1 SZ1 ⊢
    clear W1 hmk hg
    go_wp2
    have h0b : (((xs.length : Int) == 0) : Bool) = false := by simpa using hn0
    rw [h0b]
    clear h0b
    go_loopw [16] (fun v16 wr => ∃ (k : Nat) (ys : List EnT), k ≤ xs.length ∧ ys.length = k ∧ v16 = .int .i64 k ∧ Hid (OwnK enTy wr (some ⟨g, 0, none⟩) xs.length (ys ++ List.replicate (xs.length - k) enTy.z)) ∧ Hid (OwnNs wr g wr.heap.size (some ⟨g, 0, none⟩) ys (es.take k)) ∧ Hid (g + 1 ≤ wr.heap.size) ∧ Hid (Chg [] w wr)) (fun v16 _ => xs.length - (RowKit.intOf v16).toNat)
    case atStart => exact ⟨0, [], Nat.zero_le _, rfl, rfl, Lib.hid (by simpa using O1.out), Lib.hid (by simpa using OwnNs.nil _ _ _ _), SZ1, C1⟩
    case round =>
      obtain ⟨k, ys, hk, hyl, rfl, RO, RE, RS, RC⟩ := hrel
      have i0 : (0 : Int) ≤ (k : Int) := by omega
      by_cases hlt : k < xs.length
      · have i1 : (k : Int) < (xs.length : Int) := by omega
        have i3 : IntKind.i64.wrap ((k : Int) + 1) = (k : Int) + 1 := IntWalk.i64_in _ (by have := HN.out; omega)
        obtain ⟨g2, o2, eA, _⟩ := HA.out.line (by omega)
        subst eA
        obtain ⟨x, e, ex, ee, rx⟩ := HX.out.at_ hlt
        obtain ⟨z0, z1, z2, z3⟩ := enCells (HA.out.chg RC.out (by simp)) ex
        have RX := Lib.hid rx
        have ET : Hid (es.take (k + 1) = es.take k ++ [e]) := Lib.hid (by rw [List.take_add_one, ee]; rfl)
        have EQ := Lib.hid (HQ.out e (List.mem_of_getElem? ee))
        have YL := Lib.hid hyl
        clear ex ee rx hyl
        go_upto_region 7 with fail
        clear z0 z1 z2 z3
        obtain ⟨w2, hw2, c2, b2⟩ := news1 wr (.cells #[.string x.p, .int .i64 x.k, .int .i64 x.m, .slice x.A x.l x.c] 55)
        have W2 := Lib.hid hw2
        have RO2 := Lib.hid (RO.out.chg c2 (by simp))
        have RE2 := Lib.hid ((RE.out.chg c2 (by simp)).mono c2.size)
        have RS2 : Hid (g + 1 ≤ w2.heap.size) := Lib.hid (Nat.le_trans RS.out c2.size)
        have RC2 := Lib.hid (RC.out.trans c2)
        have y0 := cell_of b2 0
        have y1 := cell_of b2 1
        have y2 := cell_of b2 2
        have y3 := cell_of b2 3
        simp only [List.getElem?_toArray, List.getElem?_cons_succ, List.getElem?_cons_zero] at y0 y1 y2 y3
        clear hw2 c2 b2 RO RE RS RC
        rw [← W2.out]
        generalize wr.heap.size = s2 at *
        clear W2
        go_wp2_with fail
        clear y0 y1 y2 y3
        refine (fren_any w2 x e (RX.out.chg RC2.out) EQ.out).mono ?_
        rintro r w3 ⟨X, rfl, hR, hA, hnA, hc⟩
        have hsz := hc.size
        have RE3 : Hid (OwnNs w3 g w3.heap.size (some ⟨g, 0, none⟩) (ys ++ [X]) (es.take (k + 1))) := Lib.hid (by
          rw [ET.out]
          refine (RE2.out.chg hc (by simp)).snoc ⟨by have := RS2.out; omega, hsz⟩ hR hA (fun a ha => ?_)
          have lo : w2.heap.size ≤ a.block ∧ a.block < w3.heap.size := ⟨hnA a ha, hA.lt a ha⟩
          refine ⟨lo.1, lo.2, fun b hb e => ?_⟩
          cases hb
          have e : a.block = g := e
          have := RS2.out
          have := lo.1
          omega)
        have RO3 := Lib.hid (RO2.out.chg hc (by simp))
        have RS3 : Hid (g + 1 ≤ w3.heap.size) := Lib.hid (Nat.le_trans RS2.out hsz)
        have RC3 := Lib.hid (RC2.out.trans hc)
        clear hR hA hnA hc hsz RO2 RE2 RS2 RC2 EQ RX ET
        have kz : (ys ++ List.replicate (xs.length - k) enTy.z)[k]? = some enTy.z := by
          rw [List.getElem?_append_right (by rw [YL.out]; exact Nat.le_refl _), YL.out, Nat.sub_self, List.getElem?_replicate]
          simp
          omega
        obtain ⟨z0, z1, z2, z3⟩ := enCells RO3.out.reads kz
        rw [Nat.zero_add] at z0 z1 z2 z3
        have F3 : ∀ j, w3.frozen? ⟨g, j, none⟩ = false := fun j => by
          rcases RO3.out with ⟨h, _⟩ | ⟨g', full, e, hg, _⟩
          · cases h
          · cases e; exact free_of hg j
        have f0 := F3 (k * 4)
        have f1 := F3 (k * 4 + 1)
        have f2 := F3 (k * 4 + 2)
        have f3 := F3 (k * 4 + 3)
        have KZ := Lib.hid kz
        clear kz F3
        have RO4 := Lib.hid (RO3.out.setn4 k _ X KZ.out)
        have C4 := Lib.hid ((Chg.refl [g] w3).setn4 (g := g) (.inl (by simp)) (k * 4) (.string X.p) (.int .i64 X.k) (.int .i64 X.m) (.slice X.A X.l X.c))
        have RC4 := Lib.hid (RC3.out.setn4 (g := g) (.inr (by rw [HG.out]; exact Nat.le_refl _)) (k * 4) (.string X.p) (.int .i64 X.k) (.int .i64 X.m) (.slice X.A X.l X.c))
        go_upto_region 8 with fail
        clear z0 z1 z2 z3 f0 f1 f2 f3
        generalize ((((w3.setCell ⟨g, k * 4, none⟩ (.string X.p)).setCell ⟨g, k * 4 + 1, none⟩ (.int .i64 X.k)).setCell ⟨g, k * 4 + 2, none⟩ (.int .i64 X.m)).setCell ⟨g, k * 4 + 3, none⟩ (.slice X.A X.l X.c)) = w4 at *
        have SZ4 := C4.out.size
        have RE4 : Hid (OwnNs w4 g w4.heap.size (some ⟨g, 0, none⟩) (ys ++ [X]) (es.take (k + 1))) := Lib.hid ((RE3.out.chg C4.out (fun i hi _ => ⟨⟨g, 0, none⟩, rfl, by simp at hi; exact hi.symm⟩)).mono SZ4)
        have RS4 : Hid (g + 1 ≤ w4.heap.size) := Lib.hid (Nat.le_trans RS3.out SZ4)
        have SET : Hid ((ys ++ List.replicate (xs.length - k) enTy.z).set k X = (ys ++ [X]) ++ List.replicate (xs.length - (k + 1)) enTy.z) := Lib.hid (by
          have hr : xs.length - k = (xs.length - (k + 1)) + 1 := by omega
          rw [hr, List.replicate_succ, List.set_append_right _ _ (by rw [YL.out]; exact Nat.le_refl _), YL.out, Nat.sub_self]
          simp)
        rw [SET.out] at RO4
        clear SZ4 C4 RC3 RE3 RO3 RS3 KZ SET
        go_wp2
        go_round
        case rel => exact ⟨k + 1, ys ++ [X], by omega, by simp [YL.out], by go_num, RO4, RE4, RS4, RC4⟩
        case measure => simp [RowKit.intOf]; omega
      · obtain rfl : k = xs.length := by omega
        have i1 : ¬ (xs.length : Int) < (xs.length : Int) := by omega
        have ET : es.take xs.length = es := by rw [HX.out.1]; exact List.take_length
        rw [ET, HG.out.symm] at RE
        rw [Nat.sub_self, List.replicate_zero, List.append_nil] at RO
        have YL := Lib.hid hyl
        clear hyl ET
        go_wp2
        go_ret
        refine ⟨some ⟨g, 0, none⟩, xs.length, ys, by rw [YL.out]; rfl, YL.out, ⟨RO.out, fun a ha => ?_, ?_⟩, RC.out⟩
        · cases ha
          exact ⟨by rw [HG.out]; exact Nat.le_refl _, RS.out⟩
        · have := RE.out
          rw [HG.out] at this ⊢
          exact this
set_option maxRecDepth 100000 in
set_option maxHeartbeats 4000000 in
theorem frentries_any (w : World) (A : Option Addr) (c : Nat) (xs : List EnT) (es : List EnP) (h : RdK enTy w A xs.length xs) (hx : EnsR w xs es) (hn : xs.length ≤ 100000) (hq : ∀ e ∈ es, e.b.length ≤ 140737488351232 ) :
    Calls Tryz.prog 52 #[.slice A xs.length c] w fun r w' => ∃ (A' : Option Addr) (c' : Nat) (ys : List EnT), r = .returned (.slice A' ys.length c') ∧ ys.length = xs.length ∧ NsF w' w.heap.size w'.heap.size A' c' ys es ∧ Chg [] w w' := by
  have CC := Lib.hid (frlistn_any w A c xs es h hx hn hq)
  clear h hx hn hq
  go_enter Tryz.func52, Tryz.ntmps52
  go_wp2_with fail
  refine CC.out.mono ?_
  rintro r w2 ⟨A', c', ys, rfl, hl, he, hc⟩
  have P := Lib.hid (And.intro hl (And.intro he hc))
  clear CC hl he hc
  go_wp2
  go_ret
  exact ⟨A', c', ys, rfl, P.out.1, P.out.2.1, P.out.2.2⟩
end
section
open Go.RowKit Go.Lib
set_option linter.unusedSimpArgs false
set_option linter.unusedVariables false

set_option maxRecDepth 100000 in
set_option maxHeartbeats 4000000 in
theorem tbunder1_any (w : World) (x : EnT) (e : EnP) (h : EnR w x e) (hs : e.p.length ≤ 10000000) (gb : Nat) (p : List UInt8) (hp : p.length ≤ 10000000) (hb : w.heap[gb]? = some (.cells #[.string (strOf p)] 9 (0, 0))) :
    Calls Tryz.prog 51 #[.agg #[.string x.p, .int .i64 x.k, .int .i64 x.m, .slice x.A x.l x.c], .pointer (some ⟨gb, 0, none⟩)] w fun r w' => r = .returned (.bool (!underL p e.p)) ∧ Chg [] w w' := by
  obtain ⟨w1, hw, hc, b0⟩ := news1 w (.cells #[.string x.p, .int .i64 x.k, .int .i64 x.m, .slice x.A x.l x.c] 55)
  have W1 := Lib.hid hw
  have C := Lib.hid hc
  have y0 := cell_of (hc.at_ hb (by simp)) 0
  have z0 := cell_of b0 0
  have z1 := cell_of b0 1
  have z2 := cell_of b0 2
  have z3 := cell_of b0 3
  simp only [List.getElem?_toArray, List.getElem?_cons_succ, List.getElem?_cons_zero] at y0 z0 z1 z2 z3
  have UX : Hid (∀ w', Calls Tryz.prog 30 #[.string (strOf p), .string x.p] w' fun r w2 => r = .returned (.bool (underL p e.p)) ∧ Chg [] w' w2) := Lib.hid (fun w' => by
    rw [h.p]
    exact (phunder_any w' p e.p (by omega) (by omega)).mono fun r w2 ⟨a, b⟩ => ⟨a, below_chgN b⟩)
  clear hw hc b0 h hb hs hp
  go_enter Tryz.func51, Tryz.ntmps51
  go_upto_region 1 with fail
  rw [← W1.out]
  generalize w.heap.size = g0 at *
  clear W1
  go_wp2_with fail
  refine (UX.out w1).mono ?_
  rintro r w2 ⟨rfl, hc⟩
  replace C := Lib.hid (C.out.trans hc)
  clear hc UX y0 z0 z1 z2 z3
  go_wp2
  go_ret
  exact ⟨rfl, C.out⟩
set_option maxRecDepth 100000 in
set_option maxHeartbeats 4000000 in
theorem tbunder_any (w : World) (A : Option Addr) (c : Nat) (xs : List EnT) (es : List EnP) (p : List UInt8) (hp : p.length ≤ 10000000) (h : RdK enTy w A xs.length xs) (hx : EnsR w xs es) (hn : xs.length ≤ 100000) (hs : ∀ e ∈ es, EnSm e) :
    Calls Tryz.prog 19 #[.slice A xs.length c, .string (strOf p)] w fun r w' => ∃ (A' : Option Addr) (c' : Nat) (ys : List EnT), r = .returned (.slice A' ys.length c') ∧ NsF w' w.heap.size w'.heap.size A' c' ys (underT es p) ∧ Chg [] w w' := by
  obtain ⟨w1, hw, hc, b0⟩ := news1 w (.cells #[.string (strOf p)] 9)
  have W1 := Lib.hid hw
  have C := Lib.hid hc
  have B0 := Lib.hid b0
  have HX := Lib.hid hx
  have HN := Lib.hid hn
  have HS := Lib.hid hs
  have HP := Lib.hid hp
  have CL := Lib.hid (cloneEn_any w1 A xs.length c xs (h.chg hc (by simp)) (by omega))
  have LT := Lib.hid (lt_of_heap b0)
  obtain ⟨g0, hg0⟩ : ∃ g, w.heap.size = g := ⟨_, rfl⟩
  rw [hg0] at b0 LT B0
  have G0 := Lib.hid hg0
  clear hw hc b0 h hx hn hs hp hg0
  go_enter Tryz.func19, Tryz.ntmps19
  go_upto_region 1 with fail
  rw [← W1.out, G0.out]
  clear W1
  go_wp2_with fail
  refine CL.out.mono ?_
  rintro r w2 ⟨A2, c2, rfl, ho, hA, hc⟩
  have DE := Lib.hid (enfdel_any w w1 w2 A2 c2 xs es 51 #[.pointer (some ⟨g0, 0, none⟩)] (fun e => !underL p e.p) (enters_of Tryz.func51 (by kernel_rfl) rfl) C.out hc ho hA HX.out HN.out (fun wr hcc i x e ex ee => tbunder1_any wr x e ((HX.out.2 i x e ex ee).chg (C.out.trans hcc)) (HS.out e (List.mem_of_getElem? ee)).1 g0 p HP.out (hcc.at_ B0.out (by simp))))
  have S1 := Lib.hid C.out.size
  clear ho hA hc CL
  go_wp2_with fail
  refine DE.out.mono ?_
  rintro r w3 ⟨ys, rfl, hyl, hye, hyo, hc3⟩
  have FU : Hid (es.filter (fun e => !!underL p e.p) = underT es p) := Lib.hid (by unfold underT; simp)
  rw [FU.out] at hye
  have US : Hid (∀ e ∈ underT es p, e.b.length ≤ 140737488351232) := Lib.hid (fun e he => (HS.out e (List.mem_filter.1 he).1).2)
  have FR := Lib.hid (frentries_any w3 A2 c2 ys (underT es p) hyo.reads (hye.chg (C.out.trans hc3)) (by have := HN.out; omega) US.out)
  have C3 := Lib.hid (C.out.trans hc3)
  clear hyl hye hyo hc3 DE FU
  go_wp2_with fail
  refine FR.out.mono ?_
  rintro r w4 ⟨A4, c4, zs, rfl, hzl, hf, hc⟩
  have FF : Hid (NsF w4 w.heap.size w4.heap.size A4 c4 zs (underT es p)) := Lib.hid ⟨hf.row, fun a ha => ⟨by have := (hf.rowAt a ha).1; have := C3.out.size; omega, (hf.rowAt a ha).2⟩, hf.all.low C3.out.size⟩
  replace C3 := Lib.hid (C3.out.trans hc)
  clear hf hc FR hzl
  go_wp2
  go_ret
  exact ⟨A4, c4, zs, rfl, FF.out, C3.out⟩
end
end Go.Proofs.YtimdfpejgaidhaaGreatDoor
