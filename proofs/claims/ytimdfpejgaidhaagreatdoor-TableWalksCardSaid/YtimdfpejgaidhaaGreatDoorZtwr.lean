/- The document's lay. table.Remove. slices.SortFunc at structs under a 'cmp' that need not part any two: what was there, in order. slices.SortFunc at structs of which the 'cmp' tells by what they read as. Entries sorted by their paths. table.Move. -/
import Derived.Test.YtimdfpejgaidhaaGreatDoorZtwk
import Derived.Test.YtimdfpejgaidhaaGreatDoorZtwi
import Derived.Test.YtimdfpejgaidhaaGreatDoorZtwl
import Derived.Deep.Cut
import Derived.Deep.RegionHeld3
import Derived.Test.YtimdfpejgaidhaaGreatDoorZtwq
import Derived.Test.YtimdfpejgaidhaaGreatDoorZtwo
import Derived.Test.YtimdfpejgaidhaaGreatDoorZtwj
import Derived.Test.YtimdfpejgaidhaaGreatDoorZtwh
import Derived.Test.YtimdfpejgaidhaaGreatDoorZtwn
import Derived.Test.YtimdfpejgaidhaaGreatDoorShelf4
import Derived.Test.YtimdfpejgaidhaaGreatDoorZtwb
namespace Go.Proofs.YtimdfpejgaidhaaGreatDoor
section
open Go.RowKit Go.Lib
set_option linter.unusedSimpArgs false
set_option linter.unusedVariables false

theorem str_self (a : List UInt8) : ((strOf a == strOf a) : Bool) = true := by show ((a.toArray == a.toArray) : Bool) = true; simp
end
section
open Go.RowKit Go.Lib
set_option linter.unusedSimpArgs false
set_option linter.unusedVariables false

set_option maxRecDepth 100000 in
set_option maxHeartbeats 4000000 in
theorem tbremove1_any (w : World) (x : EnT) (e : EnP) (h : EnR w x e) (hs : e.p.length ≤ 10000000) (gb : Nat) (p : List UInt8) (hpl : p.length ≤ 10000000) (hb : w.heap[gb]? = some (.cells #[.string (strOf p)] 9 (0, 0))) :
    Calls Tryz.prog 80 #[.agg #[.string x.p, .int .i64 x.k, .int .i64 x.m, .slice x.A x.l x.c], .pointer (some ⟨gb, 0, none⟩)] w fun r w' => r = .returned (.bool (decide (e.p = p) || underL p e.p)) ∧ Chg [] w w' := by
  obtain ⟨w1, hw, hc, b0⟩ := news1 w (.cells #[.string (strOf e.p), .int .i64 x.k, .int .i64 x.m, .slice x.A x.l x.c] 55)
  have W1 := Lib.hid hw
  obtain ⟨g0, hg0⟩ : ∃ g, w.heap.size = g := ⟨_, rfl⟩
  have G0 := Lib.hid hg0
  rw [hg0] at b0
  rw [h.p]
  have DX : Hid (∀ w', Chg [] w1 w' → w'.cell? ⟨g0, 0, none⟩ = some (.string (strOf e.p)) ∧ w'.cell? ⟨gb, 0, none⟩ = some (.string (strOf p))) := Lib.hid (fun w' hc2 => ⟨cell_of (hc2.at_ b0 (by simp)) 0, cell_of (hc2.at_ (hc.at_ hb (by simp)) (by simp)) 0⟩)
  have C := Lib.hid hc
  clear hw hc b0 hg0 h hb
  go_enter Tryz.func80, Tryz.ntmps80
  go_upto_region 1 with fail
  rw [← W1.out, G0.out]
  clear W1 G0
  obtain ⟨z0, y0⟩ := DX.out _ (Chg.refl [] w1)
  have UX : Hid (∀ w' : World, Calls Tryz.prog 30 #[.string (strOf p), .string (strOf e.p)] w' fun r w2 => r = .returned (.bool (underL p e.p)) ∧ Chg [] w' w2) := Lib.hid (fun w' => (phunder_any w' p e.p (by omega) (by omega)).mono fun r w2 ⟨a, c⟩ => ⟨a, below_chgN c⟩)
  clear hs hpl DX
  by_cases hp : e.p = p
  · skip
    have DV : Hid ((decide (e.p = p) || underL p e.p) = true) := Lib.hid (by rw [decide_eq_true hp]; rfl)
    have e4 : (e.p == p) = true := by rw [hp]; exact beq_self_eq_true _
    have e5 : ((strOf e.p == strOf p) : Bool) = true := by rw [hp]; exact str_self _
    have e6 : ((strOf e.p != strOf p) : Bool) = false := by simp only [bne, e5]; rfl
    have e7 : (e.p != p) = false := by simp only [bne, e4]; rfl
    clear hp
    go_wp2
    go_ret
    exact ⟨by rw [DV.out]; rfl, C.out⟩
  · skip
    have DV : Hid ((decide (e.p = p) || underL p e.p) = underL p e.p) := Lib.hid (by rw [decide_eq_false hp]; rfl)
    have e1 := strOf_ne hp
    have e3 := strOf_ne2 hp
    have e4 : (e.p == p) = false := beq_eq_false_iff_ne.2 hp
    have e6 : ((strOf e.p != strOf p) : Bool) = true := by simp only [bne, e1]; rfl
    have e7 : (e.p != p) = true := by simp only [bne, e4]; rfl
    clear hp
    go_wp2_with fail
    refine (UX.out w1).mono ?_
    rintro r w5 ⟨rfl, hc⟩
    have C5 := Lib.hid (C.out.trans hc)
    clear hc UX z0 y0 e1 e3 e4 e6 e7
    go_wp2
    go_ret
    exact ⟨by rw [DV.out]; rfl, C5.out⟩
set_option maxRecDepth 100000 in
set_option maxHeartbeats 8000000 in
/-- table.Remove. -/
theorem tbremove_any (w : World) (A : Option Addr) (c : Nat) (xs : List EnT) (es : List EnP) (p : List UInt8) (hp : p.length ≤ 10000000) (h : RdK enTy w A xs.length xs) (hx : EnsR w xs es) (hn : xs.length ≤ 190) (hs : ∀ e ∈ es, EnSm e) :
    Calls Tryz.prog 37 #[.slice A xs.length c, .string (strOf p)] w fun r w' => ∃ (A' : Option Addr) (c' : Nat) (ys : List EnT), r = .returned (.tuple #[.slice A' ys.length c', .int .i64 (removeT es p).1]) ∧ NsF w' w.heap.size w'.heap.size A' c' ys (removeT es p).2 ∧ Chg [] w w' := by
  obtain ⟨R, hR⟩ : ∃ R, removeT es p = R := ⟨_, rfl⟩
  rw [hR]
  have HRR := Lib.hid hR
  obtain ⟨w1, hw, hc, b0⟩ := news1 w (.cells #[.string (strOf p)] 9)
  have W1 := Lib.hid hw
  obtain ⟨g0, hg0⟩ : ∃ g, w.heap.size = g := ⟨_, rfl⟩
  have G0 := Lib.hid hg0
  rw [hg0] at b0
  have B0 := Lib.hid b0
  have HA := Lib.hid (h.chg hc (by simp))
  have HX := Lib.hid (hx.chg hc)
  have C0 := Lib.hid hc
  have HN := Lib.hid hn
  have HS := Lib.hid hs
  have HP := Lib.hid hp
  have CK := Lib.hid (tbcheck_any w1 A c xs es (h.chg hc (by simp)) (hx.chg hc) (by omega) hs)
  clear hw hc b0 hg0 h hx hn hs hR hp
  go_enter Tryz.func37, Tryz.ntmps37
  go_upto_region 1 with fail
  rw [← W1.out, G0.out]
  clear W1
  go_wp2_with fail
  refine CK.out.mono ?_
  rintro r w2 ⟨rfl, hc⟩
  have C := Lib.hid hc
  clear hc CK
  rcases tabE_two es with e1 | e1
  rotate_left
  · have ER : Hid (R = (2, [])) := Lib.hid (by rw [← HRR.out]; unfold removeT; rw [if_pos (fun q => by rw [tabE_zero.2 q.1] at e1; cases e1)])
    rw [e1]
    clear e1
    go_wp2
    go_ret2
    rw [ER.out]
    exact ⟨none, 0, [], rfl, NsF.nil _ _ _, C0.out.trans C.out⟩
  have OK : Hid (TabOk es) := Lib.hid (tabE_zero.1 e1)
  rw [e1]
  clear e1
  have z0 := cell_of (C.out.at_ B0.out (by simp)) 0
  simp only [List.getElem?_toArray, List.getElem?_cons_zero] at z0
  have PC := Lib.hid ((phcheck_any w2 p (by have := HP.out; omega)).mono fun r w3 ⟨a, b⟩ => (⟨a, below_chgN b⟩ : _ ∧ Chg [] w2 w3))
  go_wp2_with fail
  clear z0
  refine PC.out.mono ?_
  rintro r w3 ⟨rfl, hc⟩
  replace C := Lib.hid (C.out.trans hc)
  clear hc PC
  by_cases hok : checkL 6 12 p = true
  rotate_left
  · have ER : Hid (R = (2, [])) := Lib.hid (by rw [← HRR.out]; unfold removeT; rw [if_pos (fun q => hok q.2)])
    rw [if_neg hok]
    clear hok
    go_wp2
    go_ret2
    rw [ER.out]
    exact ⟨none, 0, [], rfl, NsF.nil _ _ _, C0.out.trans C.out⟩
  have OP : Hid (okP p = true) := Lib.hid hok
  rw [if_pos hok]
  clear hok
  have z0 := cell_of (C.out.at_ B0.out (by simp)) 0
  simp only [List.getElem?_toArray, List.getElem?_cons_zero] at z0
  have FI := Lib.hid (tbfind_any w3 A c xs es p (HA.out.chg C.out (by simp)) (HX.out.chg C.out) (by have := HN.out; omega))
  go_wp2_with fail
  clear z0
  refine FI.out.mono ?_
  rintro r w4 ⟨⟨v, rfl, hv⟩, hc⟩
  have FV := Lib.hid (find_get hv)
  replace C := Lib.hid (C.out.trans hc)
  clear hv hc FI
  rcases FV.out with ⟨rfl, hg⟩ | ⟨k, e, rfl, ek, hg⟩
  · have ER : Hid (R = (6, [])) := Lib.hid (by rw [← HRR.out]; unfold removeT; rw [if_neg (fun q => q ⟨OK.out, OP.out⟩), if_pos hg])
    clear hg FV
    go_wp2
    go_ret2
    rw [ER.out]
    exact ⟨none, 0, [], rfl, NsF.nil _ _ _, C0.out.trans C.out⟩
  have ER : Hid (R = (0, es.filter (fun e => !(decide (e.p = p) || underL p e.p)))) := Lib.hid (by rw [← HRR.out]; unfold removeT; rw [if_neg (fun q => q ⟨OK.out, OP.out⟩), if_neg (by rw [hg]; simp)])
  have k2 : ¬ (k : Int) < 0 := by omega
  clear hg FV ek
  have FRS := Lib.hid (frentries_any w4 A c xs es (HA.out.chg C.out (by simp)) (HX.out.chg C.out) (by have := HN.out; omega) (fun e he => (HS.out e he).2))
  go_wp2_with fail
  refine FRS.out.mono ?_
  rintro r w5 ⟨A5, c5, ys, rfl, hyl, hf, hc⟩
  have F5 := Lib.hid hf
  have YL := Lib.hid hyl
  have S4 := Lib.hid (C0.out.trans C.out).size
  have SG : Hid (g0 < w4.heap.size) := Lib.hid (by have := lt_of_heap B0.out; have := C.out.size; omega)
  replace C := Lib.hid (C.out.trans hc)
  clear hyl hf hc FRS
  have BA : Hid (∀ x ∈ ys, ∀ a, x.A = some a → a.block ∉ blkOf A5) := Lib.hid (fun x hx a ha q => by
    obtain ⟨b, hb, e⟩ := of_blkOf q
    exact (F5.out.all.at_ x hx a ha).2.2 b hb e.symm)
  have GA : Hid (g0 ∉ blkOf A5) := Lib.hid (fun q => by
    obtain ⟨b, hb, e⟩ := of_blkOf q
    have := (F5.out.rowAt b hb).1
    have := SG.out
    omega)
  have DE := Lib.hid (enfdel_S (blkOf A5) w5 w5 w5 A5 c5 ys es 80 #[.pointer (some ⟨g0, 0, none⟩)] (fun e => decide (e.p = p) || underL p e.p) (enters_of Tryz.func80 (by kernel_rfl) rfl) F5.out.all.ev (Chg.refl _ _) F5.out.row (fun a ha => .inl (mem_blkOf ha)) F5.out.all.ev (by rw [YL.out]; have := HN.out; omega) (fun wr hcc i x e ex ee => tbremove1_any wr x e ((F5.out.all.ev.2 i x e ex ee).chgS hcc (BA.out x (List.mem_of_getElem? ex))) (HS.out e (List.mem_of_getElem? ee)).1 g0 p HP.out (hcc.at_ (C.out.at_ B0.out (by simp)) GA.out)))
  go_wp2_with fail
  refine DE.out.mono ?_
  rintro r w6 ⟨zs, rfl, hzl, hze, hzs, hzo, hc⟩
  have FIN : Hid (NsF w6 w4.heap.size w6.heap.size A5 c5 zs (es.filter (fun e => !(decide (e.p = p) || underL p e.p)))) := Lib.hid ⟨hzo, fun a ha => ⟨(F5.out.rowAt a ha).1, hzo.lt_ a ha⟩, ((F5.out.all.sub hze hzs).chg hc (fun j hj _ => by obtain ⟨b, hb, e⟩ := of_blkOf hj; exact ⟨b, hb, e⟩)).mono hc.size⟩
  have C6 : Hid (Chg [] w w6) := Lib.hid ((C0.out.trans C.out).trans' hc (fun j hj => by
    obtain ⟨b, hb, e⟩ := of_blkOf hj
    have := (F5.out.rowAt b hb).1
    have := S4.out
    exact .inr (by omega)))
  clear hzl hze hzs hzo hc DE BA GA
  go_wp2
  go_ret2
  rw [ER.out]
  exact ⟨A5, c5, zs, rfl, FIN.out.low S4.out, C6.out⟩
end
section
open Go.RowKit Go.Sort Go.Shelf
set_option linter.unusedSimpArgs false
set_option linter.unusedVariables false

theorem grow_ofp {w w' : World} (h : Chg [] w w') (hd : w.drawn ≤ w'.drawn) : ∃ q os, w' = Sort.grow (w.drewN q) os := by
  refine ⟨w'.drawn - w.drawn, w'.heap.extract w.heap.size w'.heap.size, ?_⟩
  obtain ⟨h1, h2, h3, h4, h5⟩ := h
  obtain ⟨hp, tp, dr, os, ou⟩ := w'
  obtain ⟨hp0, tp0, dr0, os0, ou0⟩ := w
  simp only at h1 h2 h3 h4 h5 hd ⊢
  subst h1 h2 h3
  simp only [Sort.grow, World.drewN, World.mk.injEq, true_and, and_true]
  refine ⟨?_, by omega⟩
  apply Array.ext_getElem?
  intro i
  by_cases hi : i < hp0.size
  · rw [Array.getElem?_append_left hi]
    exact h5 i hi (by simp)
  · rw [Array.getElem?_append_right (by omega), Array.getElem?_extract]
    by_cases hj : i < hp.size
    · rw [if_pos (by omega)]
      congr 1
      omega
    · rw [if_neg (by omega), Array.getElem?_eq_none (by omega)]
end
section
open Go.RowKit Go.Sort Go.Shelf
set_option linter.unusedSimpArgs false
set_option linter.unusedVariables false

theorem flatK_map {α β : Type} [Inhabited α] [Inhabited β] (R : RowTy α) (f : β → α) (ds : List β) : flatK (fun d => R.enc (f d)) R.k ds.toArray = flatK R.enc R.k (ds.map f).toArray := by
  have sz : (flatK (fun d => R.enc (f d)) R.k ds.toArray).size = ds.length * R.k := by simp
  have sz2 : (flatK R.enc R.k (ds.map f).toArray).size = ds.length * R.k := by simp
  apply Array.ext
  · rw [sz, sz2]
  · intro i h1 h2
    have hi : i < ds.length * R.k := by rw [← sz]; exact h1
    have hk := R.kpos
    have hq : i / R.k < ds.length := (Nat.div_lt_iff_lt_mul hk).2 hi
    have e1 := get_flatK (fun d => R.enc (f d)) R.k ds.toArray i (by simpa using hi)
    have e2 := get_flatK R.enc R.k (ds.map f).toArray i (by simpa using hi)
    rw [getElem!_pos _ i h1] at e1
    rw [getElem!_pos _ i h2] at e2
    rw [e1, e2]
    congr 2
    have a1 : ds.toArray[i / R.k]! = ds[i / R.k] := by rw [getElem!_pos _ _ (by simpa using hq)]; simp
    have a2 : (ds.map f).toArray[i / R.k]! = f ds[i / R.k] := by rw [getElem!_pos _ _ (by simpa using hq)]; simp
    rw [a1, a2]
theorem sortq_any {α β : Type} [Inhabited α] [Inhabited β] {R : RowTy α} {ρ : Ren} (L : SlLaysF0.n6 Tryz.prog ρ) (aE : ∀ w, (isAgg (ρ.t 24)).run Tryz.prog w = .ok true w) (zE : ∀ w, (Go.sizeOf (ρ.t 24)).run Tryz.prog w = .ok R.k w) (f : β → α) (cf : β → β → Int) (hO : SWO (ltOf cf)) (g : Nat) (eg : ∀ args w, (callFunc g args).run Tryz.prog w = .ok (.enter g args) w)
    (hcmp : ∀ (W : World) (x y : β), Calls Tryz.prog g #[.agg (R.enc (f x)).toArray, .agg (R.enc (f y)).toArray] W fun e w' => e = .returned (.int .i64 (cf x y)) ∧ Chg [] W w' ∧ W.drawn ≤ w'.drawn) (w : World) (A : Option Addr) (c : Nat) (ds : List β) (h : OwnK R w A c (ds.map f)) (hm : ds.length < 4611686018427387904) :
    Calls Tryz.prog (ρ.f 6) #[.slice A ds.length c, .func (.func g) #[] #[]] w fun e w' => e = .returned (.tuple #[]) ∧ ∃ es : List β, es.Perm ds ∧ es.Pairwise (fun x y => ltOf cf y x = false) ∧ OwnK R w' A c (es.map f) ∧ Chg (blkOf A) w w' := by
  rcases h.shape with ⟨rfl, hz, rfl⟩ | ⟨b, rfl, hblk⟩
  · have hz : ds = [] := by cases ds with | nil => rfl | cons _ _ => cases hz
    subst hz
    have := AnyF.slices_SortFunc_none L none 0 (.func (.func g) #[] #[]) w
    refine Calls.mono this ?_
    rintro e w' ⟨he, rfl⟩
    exact ⟨he, [], List.Perm.refl _, List.Pairwise.nil, OwnK.none_ _, Chg.refl _ _⟩
  · have hh : HoldsK (fun d => R.enc (f d)) R.k w b 0 ds.toArray := by
      have := h.holds
      unfold HoldsK at this ⊢
      rw [flatK_map]
      exact this
    have hc2 : CmpLays Tryz.prog g #[] (fun d => R.enc (f d)) R.k cf b 0 ds.toArray.size w := fun m os dk _ x y => by
      have := (hcmp (sortWorldK (fun d => R.enc (f d)) R.k w b 0 m dk os) x y).mono (fun e w' ⟨he, hc, hd⟩ => (⟨he, grow_ofp hc hd⟩ : e = Ending.returned (.int .i64 (cf x y)) ∧ ∃ q os', w' = grow ((sortWorldK (fun d => R.enc (f d)) R.k w b 0 m dk os).drewN q) os'))
      exact this
    have hcon := AnyQ.slices_SortFunc L R.k aE zE (fun d => R.enc (f d)) (fun d => R.klen (f d)) (fun d => R.one (f d)) cf hO g #[] b 0 c ds.toArray w eg hc2 hh hblk (by simpa using hm)
    refine Calls.mono hcon ?_
    rintro e w' ⟨he, d', n, os, ⟨hsz, _, hp⟩, hs, hw⟩
    have hlen : d'.toList.length = ds.length := by simpa using hsz
    have hsz2 : d'.size = ds.toArray.size := hsz
    have hp2 : d'.toList.Perm ds := by
      rw [← hsz, Array.extract_size] at hp
      rw [hsz, Array.extract_size] at hp
      simpa using hp
    have o := h.sorted (ys := d'.toList.map f) (by simpa using hlen) n os
    have e2 : sortWorldK (fun d => R.enc (f d)) R.k w b 0 n d' os = sortWorldK R.enc R.k w b 0 n (d'.toList.map f).toArray os := by
      have := flatK_map R f d'.toList
      rw [show d'.toList.toArray = d' by simp] at this
      unfold sortWorldK putRowK
      rw [this]
    rw [← e2, ← hw] at o
    refine ⟨he, d'.toList, hp2, ?_, o.1, by simpa [blkOf] using o.2⟩
    rw [List.pairwise_iff_getElem]
    intro i j hi hj hij
    have hi' : i < d'.size := by simpa using hi
    have hj' : j < d'.size := by simpa using hj
    have := hs i j (Nat.zero_le _) hij (by rw [← hsz2]; exact hj')
    rw [getElem!_pos d' j hj', getElem!_pos d' i hi'] at this
    simpa using this
end
section
open Go.RowKit Go.Lib
set_option linter.unusedSimpArgs false
set_option linter.unusedVariables false

theorem phless_d (w : World) (a b : List UInt8) (ha : a.length ≤ 10000000) (hb : b.length ≤ 10000000) :
    Calls Tryz.prog 32 #[.string (strOf a), .string (strOf b)] w fun e w' => e = .returned (.bool (lessL a b)) ∧ (Chg [] w w' ∧ w.drawn ≤ w'.drawn) := by
  have CC := Lib.hid (fun w => phcompare_d w a b ha hb)
  unfold lessL
  generalize cmpT (cutL a) (cutL b) = q at *
  go_enter Tryz.func32, Tryz.ntmps32
  go_wp2_with fail
  refine (CC.out _).mono ?_
  rintro e w1 ⟨rfl, hc⟩
  have C1 := Lib.hid hc
  clear hc
  go_wp2
  go_ret
  exact ⟨rfl, C1.out⟩
set_option maxRecDepth 100000 in
set_option maxHeartbeats 2000000 in
theorem orderofs_d (w : World) (a b : List UInt8) (ha : a.length ≤ 10000000) (hb : b.length ≤ 10000000) :
    Calls Tryz.prog 94 #[.string (strOf a), .string (strOf b), .func (.func 32) #[] #[]] w fun e w' => e = .returned (.int .i64 (cmpL a b)) ∧ (Chg [] w w' ∧ w.drawn ≤ w'.drawn) := by
  have L1 := Lib.hid (fun w => phless_d w a b ha hb)
  have L2 := Lib.hid (fun w => phless_d w b a hb ha)
  unfold cmpL
  generalize lessL a b = u at *
  generalize lessL b a = v at *
  clear ha hb
  go_enter Tryz.func94, Tryz.ntmps94
  go_wp2_with fail
  refine (L1.out _).mono ?_
  rintro e w1 ⟨rfl, hc⟩
  have C1 := Lib.hid hc
  clear hc
  cases u
  · go_wp2_with fail
    refine (L2.out _).mono ?_
    rintro e w2 ⟨rfl, hc⟩
    have C2 : Hid (Chg [] w w2 ∧ w.drawn ≤ w2.drawn) := Lib.hid ⟨C1.out.1.trans hc.1, Nat.le_trans C1.out.2 hc.2⟩
    clear hc
    cases v
    · go_wp2
      go_ret
      exact ⟨rfl, C2.out⟩
    · go_wp2
      go_ret
      exact ⟨rfl, C2.out⟩
  · go_wp2
    go_ret
    exact ⟨rfl, C1.out⟩
set_option maxRecDepth 100000 in
set_option maxHeartbeats 2000000 in
theorem tbbypath_d (w : World) (x : EnT) (a b : List UInt8) (hx : x.p = strOf a) (ha : a.length ≤ 10000000) (hb : b.length ≤ 10000000) :
    Calls Tryz.prog 60 #[.agg #[.string x.p, .int .i64 x.k, .int .i64 x.m, .slice x.A x.l x.c], .string (strOf b)] w fun e w' => e = .returned (.int .i64 (cmpL a b)) ∧ (Chg [] w w' ∧ w.drawn ≤ w'.drawn) := by
  obtain ⟨w1, hw1, c1, b1⟩ := news1 w (.cells #[.string x.p, .int .i64 x.k, .int .i64 x.m, .slice x.A x.l x.c] 55)
  have W1 := Lib.hid hw1
  have C1 : Hid (Chg [] w w1 ∧ w.drawn ≤ w1.drawn) := Lib.hid ⟨c1, by rw [hw1]; exact Nat.le_refl _⟩
  have CC := Lib.hid (orderofs_d w1 a b ha hb)
  have z0 := cell_of b1 0
  simp only [List.getElem?_toArray, List.getElem?_cons_succ, List.getElem?_cons_zero] at z0
  rw [hx] at z0
  clear hw1 c1 b1 hx ha hb
  go_enter Tryz.func60, Tryz.ntmps60
  go_upto_region 1 with fail
  rw [← W1.out]
  generalize w.heap.size = g1 at *
  clear W1
  go_wp2_with fail
  clear z0
  refine CC.out.mono ?_
  rintro r w2 ⟨rfl, hc⟩
  have C2 : Hid (Chg [] w w2 ∧ w.drawn ≤ w2.drawn) := Lib.hid ⟨C1.out.1.trans hc.1, Nat.le_trans C1.out.2 hc.2⟩
  clear hc CC
  go_wp2
  go_ret
  exact ⟨rfl, C2.out⟩
set_option maxRecDepth 100000 in
set_option maxHeartbeats 2000000 in
theorem tbmove1_d (w : World) (x y : EnT) (a b : List UInt8) (hx : x.p = strOf a) (hy : y.p = strOf b) (ha : a.length ≤ 10000000) (hb : b.length ≤ 10000000) :
    Calls Tryz.prog 74 #[.agg #[.string x.p, .int .i64 x.k, .int .i64 x.m, .slice x.A x.l x.c], .agg #[.string y.p, .int .i64 y.k, .int .i64 y.m, .slice y.A y.l y.c]] w fun e w' => e = .returned (.int .i64 (cmpL a b)) ∧ (Chg [] w w' ∧ w.drawn ≤ w'.drawn) := by
  obtain ⟨w1, hw1, c1, b0, b1⟩ := news2 w (.cells #[.string x.p, .int .i64 x.k, .int .i64 x.m, .slice x.A x.l x.c] 55) (.cells #[.string y.p, .int .i64 y.k, .int .i64 y.m, .slice y.A y.l y.c] 55)
  have W1 := Lib.hid hw1
  have C1 : Hid (Chg [] w w1 ∧ w.drawn ≤ w1.drawn) := Lib.hid ⟨c1, by rw [hw1]; exact Nat.le_refl _⟩
  have CC := Lib.hid (tbbypath_d w1 x a b hx ha hb)
  have z0 := cell_of b0 0
  have z1 := cell_of b0 1
  have z2 := cell_of b0 2
  have z3 := cell_of b0 3
  have y0 := cell_of b1 0
  simp only [List.getElem?_toArray, List.getElem?_cons_succ, List.getElem?_cons_zero] at z0 z1 z2 z3 y0
  rw [hy] at y0
  clear hw1 c1 b0 b1 hx hy ha hb
  go_enter Tryz.func74, Tryz.ntmps74
  go_upto_region 1 with fail
  rw [← W1.out]
  generalize w.heap.size + 1 = g1 at *
  generalize w.heap.size = g0 at *
  clear W1
  go_wp2_with fail
  clear z0 z1 z2 z3 y0
  refine CC.out.mono ?_
  rintro r w2 ⟨rfl, hc⟩
  have C2 : Hid (Chg [] w w2 ∧ w.drawn ≤ w2.drawn) := Lib.hid ⟨C1.out.1.trans hc.1, Nat.le_trans C1.out.2 hc.2⟩
  clear hc CC
  go_wp2
  go_ret
  exact ⟨rfl, C2.out⟩
/-- An entry in memory, beside what it reads as. -/
abbrev EnS := { q : EnT × EnP // q.1.p = strOf q.2.p ∧ q.2.p.length ≤ 10000000 }
instance inhEnS : Inhabited EnS := ⟨⟨(⟨⟨#[]⟩, 0, 0, none, 0, 0⟩, ⟨[], 0, 0, []⟩), rfl, Nat.zero_le _⟩⟩
instance inhEnT : Inhabited EnT := ⟨⟨⟨#[]⟩, 0, 0, none, 0, 0⟩⟩
def cfN (x y : EnS) : Int := cmpL x.1.2.p y.1.2.p
theorem ltN (x y : EnS) : ltOf cfN x y = lessL x.1.2.p y.1.2.p := by
  unfold ltOf cfN
  rcases h : lessL x.1.2.p y.1.2.p with _ | _
  · exact decide_eq_false (fun q => by rw [cmpL_neg.1 q] at h; cases h)
  · exact decide_eq_true (cmpL_neg.2 h)
theorem swoN : Go.Sort.SWO (ltOf cfN) where
  irrefl x := by rw [ltN]; exact less_self _
  trans x y z h1 h2 := by rw [ltN] at *; exact less_trans _ _ _ h1 h2
  ntrans x y z h1 h2 := by rw [ltN] at *; exact less_ntr h1 h2
theorem ens_of : ∀ {ys : List EnT} {es : List EnP}, ys.length = es.length → (∀ (i : Nat) (y : EnT) (e : EnP), ys[i]? = some y → es[i]? = some e → y.p = strOf e.p ∧ e.p.length ≤ 10000000) → ∃ ds : List EnS, ds.map (fun q => q.1.1) = ys ∧ ds.map (fun q => q.1.2) = es
  | [], [], _, _ => ⟨[], rfl, rfl⟩
  | [], _ :: _, h, _ => by cases h
  | _ :: _, [], h, _ => by cases h
  | y :: ys, e :: es, h, k => by
    obtain ⟨ds, h1, h2⟩ := ens_of (ys := ys) (es := es) (by simpa using h) (fun i a b ha hb => k (i + 1) a b (by simpa using ha) (by simpa using hb))
    exact ⟨⟨(y, e), k 0 y e rfl rfl⟩ :: ds, by simp [h1], by simp [h2]⟩
theorem ens_zip (ds : List EnS) : (ds.map (fun q => q.1.1)).zip (ds.map (fun q => q.1.2)) = ds.map (fun q => q.1) := by
  induction ds with
  | nil => rfl
  | cons d ds ih => simp [ih]
theorem OwnNs.perm {w : World} {lo hi : Nat} {G : Option Addr} {ys zs : List EnT} {es fs : List EnP} (h : OwnNs w lo hi G ys es) (hl : zs.length = fs.length) (hp : (zs.zip fs).Perm (ys.zip es)) : OwnNs w lo hi G zs fs := by
  have pr : ∀ (i : Nat) (z : EnT) (e : EnP), zs[i]? = some z → fs[i]? = some e → ∃ k, ys[k]? = some z ∧ es[k]? = some e := fun i z e hz he => by
    have m := hp.mem_iff.1 (List.mem_of_getElem? ((List.getElem?_zip_eq_some (z := (z, e))).2 ⟨hz, he⟩))
    obtain ⟨k, hk⟩ := List.getElem?_of_mem m
    exact ⟨k, (List.getElem?_zip_eq_some (z := (z, e))).1 hk⟩
  have z1 : (zs.zip fs).map Prod.fst = zs := List.map_fst_zip (by rw [hl]; exact Nat.le_refl _)
  have y1 : (ys.zip es).map Prod.fst = ys := List.map_fst_zip (by rw [h.ev.1]; exact Nat.le_refl _)
  have sb : zs.Perm ys := by
    have := hp.map Prod.fst
    rwa [z1, y1] at this
  refine ⟨⟨hl, fun i z e hz he => ?_⟩, fun i z e hz he => ?_, fun z hz => h.at_ z (sb.mem_iff.1 hz), (sb.pairwise_iff (fun {x y} q a b ha hb e => q b a hb ha e.symm)).2 h.apart⟩
  · obtain ⟨k, a, b⟩ := pr i z e hz he
    exact h.ev.2 k z e a b
  · obtain ⟨k, a, b⟩ := pr i z e hz he
    exact h.own k z e a b
set_option maxHeartbeats 2000000 in
/-- Entries of their own, sorted by paths. -/
theorem tbsort_any (w : World) (lo hi : Nat) (A : Option Addr) (c : Nat) (ys : List EnT) (es : List EnP) (h : NsF w lo hi A c ys es) (hn : ys.length ≤ 100000) (hs : ∀ e ∈ es, e.p.length ≤ 10000000) :
    Calls Tryz.prog 73 #[.slice A ys.length c, .func (.func 74) #[] #[]] w fun r w' => r = .returned (.tuple #[]) ∧ ∃ (zs : List EnT) (fs : List EnP), zs.length = ys.length ∧ fs.Perm es ∧ fs.Pairwise (fun x y => lessL y.p x.p = false) ∧ NsF w' lo hi A c zs fs ∧ Chg (blkOf A) w w' := by
  obtain ⟨ds, h1, h2⟩ := ens_of h.all.ev.1 (fun i y e hy he => ⟨(h.all.ev.2 i y e hy he).p, hs e (List.mem_of_getElem? he)⟩)
  have hr : OwnK enTy w A c (ds.map (fun q => q.1.1)) := by rw [h1]; exact h.row
  have dl : ds.length = ys.length := by rw [← h1, List.length_map]
  have := sortq_any (R := enTy) Tryz.llLaysN06 Tryz.isAgg55 Tryz.sizeOf55 (fun q : EnS => q.1.1) cfN swoN 74 (enters_of Tryz.func74 (by kernel_rfl) rfl) (fun W x y => tbmove1_d W x.1.1 y.1.1 x.1.2.p y.1.2.p x.2.1 y.2.1 x.2.2 y.2.2) w A c ds hr (by omega)
  rw [dl] at this
  refine this.mono ?_
  rintro r w' ⟨he, us, hp, hsrt, ho, hc⟩
  refine ⟨he, us.map (fun q => q.1.1), us.map (fun q => q.1.2), by rw [List.length_map, hp.length_eq, dl], by rw [← h2]; exact hp.map _, ?_, ⟨ho, h.rowAt, ?_⟩, hc⟩
  · rw [List.pairwise_map]
    exact hsrt.imp (fun {x y} q => by rw [ltN] at q; exact q)
  · refine (h.all.perm (by simp) ?_).chg hc (fun j hj _ => by obtain ⟨b, hb, e⟩ := of_blkOf hj; exact ⟨b, hb, e⟩)
    rw [ens_zip, ← h1, ← h2, ens_zip]
    exact hp.map _
end
section
open Go.RowKit Go.Lib
set_option linter.unusedSimpArgs false
set_option linter.unusedVariables false

/-- An entry's path is changed. -/
theorem OwnNs.path {w : World} {lo hi : Nat} {G : Option Addr} {ys : List EnT} {es : List EnP} (h : OwnNs w lo hi G ys es) {i : Nat} {y : EnT} {e : EnP} (hy : ys[i]? = some y) (he : es[i]? = some e) (p : List UInt8) : OwnNs w lo hi G (ys.set i ⟨strOf p, y.k, y.m, y.A, y.l, y.c⟩) (es.set i ⟨p, e.k, e.m, e.b⟩) := by
  have r := h.ev.2 i y e hy he
  have iy := (List.getElem?_eq_some_iff.1 hy).1
  have ie := (List.getElem?_eq_some_iff.1 he).1
  have two : ∀ (P : EnT → EnP → Prop), (∀ (j : Nat) (z : EnT) (d : EnP), ys[j]? = some z → es[j]? = some d → P z d) → P ⟨strOf p, y.k, y.m, y.A, y.l, y.c⟩ ⟨p, e.k, e.m, e.b⟩ → ∀ (j : Nat) (z : EnT) (d : EnP), (ys.set i ⟨strOf p, y.k, y.m, y.A, y.l, y.c⟩)[j]? = some z → (es.set i ⟨p, e.k, e.m, e.b⟩)[j]? = some d → P z d := fun P a b j z d hz hd => by
    rw [List.getElem?_set] at hz hd
    by_cases q : i = j
    · rw [if_pos q] at hz hd
      subst q
      rw [if_pos iy] at hz
      rw [if_pos ie] at hd
      cases hz
      cases hd
      exact b
    · rw [if_neg q] at hz hd
      exact a j z d hz hd
  have am : (ys.set i ⟨strOf p, y.k, y.m, y.A, y.l, y.c⟩).map (·.A) = ys.map (·.A) := by
    rw [List.map_set]
    apply List.ext_getElem?
    intro j
    rw [List.getElem?_set]
    by_cases q : i = j
    · subst q
      rw [if_pos rfl, if_pos (by simpa using iy), List.getElem?_map, hy]
      rfl
    · rw [if_neg q]
  refine ⟨⟨by simp [h.ev.1], two _ h.ev.2 ⟨rfl, r.k, r.m, r.l, r.A⟩⟩, two (fun z d => OwnB w z.A z.c d.b) h.own (h.own i y e hy he), fun z hz => ?_, ?_⟩
  · rcases List.mem_or_eq_of_mem_set hz with q | q
    · exact h.at_ z q
    · subst q; exact h.at_ y (List.mem_of_getElem? hy)
  · have := h.apart
    have e1 : ∀ l : List EnT, l.Pairwise (fun y z => ∀ a b, y.A = some a → z.A = some b → a.block ≠ b.block) ↔ (l.map (·.A)).Pairwise (fun x z => ∀ a b : Addr, x = some a → z = some b → a.block ≠ b.block) := fun l => by rw [List.pairwise_map]
    rw [e1] at this ⊢
    rw [am]
    exact this
theorem strOf_appN (xs ys : List UInt8) : strOf xs ++ strOf ys = strOf (xs ++ ys) := by
  apply ByteArray.ext
  simp [strOf, ByteArray.data_append]
theorem str_move (g p f : List UInt8) : strOf g ++ (strOf p).extract (strOf f).size (strOf p).size = strOf (g ++ p.drop f.length) := by
  rw [strOf_ext, strOf_size, strOf_size, List.take_of_length_le (by rw [List.length_drop]; exact Nat.le_refl _), strOf_appN]
theorem set_sameN {α : Type} {l : List α} {k : Nat} {e : α} (h : l[k]? = some e) : l.set k e = l := by
  apply List.ext_getElem?
  intro j
  rw [List.getElem?_set]
  by_cases q : k = j
  · subst q
    rw [if_pos rfl, if_pos (List.getElem?_eq_some_iff.1 h).1, h]
  · rw [if_neg q]
theorem unc_lenN : ∀ (xs : List (List UInt8)), (∀ x ∈ xs, x.length ≤ 12) → (unc xs).length ≤ 13 * xs.length
  | [], _ => by simp [unc]
  | [x], h => by have := h x (by simp); simp [unc]; omega
  | x :: y :: r, h => by
    have a := h x (by simp)
    have b := unc_lenN (y :: r) (fun z hz => h z (by simp [hz]))
    rw [unc_cons x (y :: r) (by simp)]
    simp only [List.length_append, List.length_cons] at b ⊢
    omega
theorem ok_short {p : List UInt8} (h : okP p = true) : p.length ≤ 78 := by
  have e := unc_cut p []
  have h2 := h
  unfold okP checkL at h2
  simp only [Bool.and_eq_true, decide_eq_true_eq, List.all_eq_true] at h2
  have b := unc_lenN (cutL p) (fun x hx => by
    have := h2.2 x hx
    unfold partL at this
    simp only [Bool.and_eq_true, decide_eq_true_eq] at this
    exact this.1.1.2)
  have : (unc (cutL p)).length = p.length := by
    show (unc (cutA [] p)).length = _
    rw [e]
    rfl
  omega
set_option maxRecDepth 100000 in
set_option maxHeartbeats 16000000 in
/-- table.Move. -/
theorem tbmove_any (w : World) (A : Option Addr) (c : Nat) (xs : List EnT) (es : List EnP) (f g : List UInt8) (hf : f.length ≤ 10000000) (hg : g.length ≤ 10000000) (h : RdK enTy w A xs.length xs) (hx : EnsR w xs es) (hn : xs.length ≤ 190) (hs : ∀ e ∈ es, EnSm e) :
    Calls Tryz.prog 31 #[.slice A xs.length c, .string (strOf f), .string (strOf g)] w fun r w' => ∃ (A' : Option Addr) (c' : Nat) (ys : List EnT), r = .returned (.tuple #[.slice A' ys.length c', .int .i64 (moveT es f g).1]) ∧ NsF w' w.heap.size w'.heap.size A' c' ys (moveT es f g).2 ∧ Chg [] w w' := by
  obtain ⟨R, hR⟩ : ∃ R, moveT es f g = R := ⟨_, rfl⟩
  rw [hR]
  have HRR := Lib.hid hR
  have HA := Lib.hid h
  have HX := Lib.hid hx
  have HN := Lib.hid hn
  have HS := Lib.hid hs
  have HF := Lib.hid hf
  have HG := Lib.hid hg
  have CK := Lib.hid (tbcheck_any w A c xs es h hx (by omega) hs)
  have PC : Hid (∀ (w' : World) (p : List UInt8), p.length ≤ 10000000 → Calls Tryz.prog 71 #[.string (strOf p)] w' fun r w3 => r = .returned (.int .i64 (if checkL 6 12 p then 0 else 2)) ∧ Chg [] w' w3) := Lib.hid (fun w' p q => (phcheck_any w' p (by omega)).mono fun r w3 ⟨a, b⟩ => ⟨a, below_chgN b⟩)
  clear h hx hn hs hR hf hg
  go_enter Tryz.func31, Tryz.ntmps31
  go_wp2_with fail
  refine CK.out.mono ?_
  rintro r w2 ⟨rfl, hc⟩
  have C := Lib.hid hc
  clear hc CK
  rcases tabE_two es with e1 | e1
  rotate_left
  · have ER : Hid (R = (2, [])) := Lib.hid (by rw [← HRR.out]; unfold moveT; rw [if_pos (fun q => by rw [tabE_zero.2 q.1] at e1; cases e1)])
    rw [e1]
    clear e1
    go_wp2
    go_ret2
    rw [ER.out]
    exact ⟨none, 0, [], rfl, NsF.nil _ _ _, C.out⟩
  have OK : Hid (TabOk es) := Lib.hid (tabE_zero.1 e1)
  rw [e1]
  clear e1
  go_wp2_with fail
  refine (PC.out _ f HF.out).mono ?_
  rintro r w3 ⟨rfl, hc⟩
  replace C := Lib.hid (C.out.trans hc)
  clear hc
  by_cases hok : checkL 6 12 f = true
  rotate_left
  · have ER : Hid (R = (2, [])) := Lib.hid (by rw [← HRR.out]; unfold moveT; rw [if_pos (fun q => hok q.2.1)])
    rw [if_neg hok]
    clear hok
    go_wp2
    go_ret2
    rw [ER.out]
    exact ⟨none, 0, [], rfl, NsF.nil _ _ _, C.out⟩
  have OF : Hid (okP f = true) := Lib.hid hok
  rw [if_pos hok]
  clear hok
  go_wp2_with fail
  refine (PC.out _ g HG.out).mono ?_
  rintro r w4 ⟨rfl, hc⟩
  replace C := Lib.hid (C.out.trans hc)
  clear hc
  by_cases hok : checkL 6 12 g = true
  rotate_left
  · have ER : Hid (R = (2, [])) := Lib.hid (by rw [← HRR.out]; unfold moveT; rw [if_pos (fun q => hok q.2.2)])
    rw [if_neg hok]
    clear hok
    go_wp2
    go_ret2
    rw [ER.out]
    exact ⟨none, 0, [], rfl, NsF.nil _ _ _, C.out⟩
  have OG : Hid (okP g = true) := Lib.hid hok
  rw [if_pos hok]
  clear hok
  have N1 : Hid (¬ ¬ (TabOk es ∧ okP f = true ∧ okP g = true)) := Lib.hid (fun q => q ⟨OK.out, OF.out, OG.out⟩)
  have FI := Lib.hid (tbfind_any w4 A c xs es f (HA.out.chg C.out (by simp)) (HX.out.chg C.out) (by have := HN.out; omega))
  go_wp2_with fail
  refine FI.out.mono ?_
  rintro r w5 ⟨⟨v, rfl, hv⟩, hc⟩
  have FV := Lib.hid (find_get hv)
  replace C := Lib.hid (C.out.trans hc)
  clear hv hc FI
  rcases FV.out with ⟨rfl, hgf⟩ | ⟨k, e, rfl, ek, hgf⟩
  · have ER : Hid (R = (6, [])) := Lib.hid (by rw [← HRR.out]; unfold moveT; rw [if_neg N1.out, if_pos hgf])
    clear hgf FV
    go_wp2
    go_ret2
    rw [ER.out]
    exact ⟨none, 0, [], rfl, NsF.nil _ _ _, C.out⟩
  have N2 : Hid (¬ getT es f = none) := Lib.hid (by rw [hgf]; simp)
  have k2 : ¬ (k : Int) < 0 := by omega
  clear hgf FV ek
  by_cases hp : g = f
  · have ER : Hid (R = (13, [])) := Lib.hid (by rw [← HRR.out]; unfold moveT; rw [if_neg N1.out, if_neg N2.out, if_pos (.inl hp)])
    have e4 : (g == f) = true := by rw [hp]; exact beq_self_eq_true _
    have e5 : ((strOf g == strOf f) : Bool) = true := by rw [hp]; exact str_self _
    have e6 : ((strOf g != strOf f) : Bool) = false := by simp only [bne, e5]; rfl
    have e7 : (g != f) = false := by simp only [bne, e4]; rfl
    clear hp
    go_wp2
    go_ret2
    rw [ER.out]
    exact ⟨none, 0, [], rfl, NsF.nil _ _ _, C.out⟩
  have NGF := Lib.hid hp
  have e1 := strOf_ne hp
  have e3 := strOf_ne2 hp
  have e4 : (g == f) = false := beq_eq_false_iff_ne.2 hp
  have e6 : ((strOf g != strOf f) : Bool) = true := by simp only [bne, e1]; rfl
  have e7 : (g != f) = true := by simp only [bne, e4]; rfl
  clear hp
  have UX : Hid (∀ (w' : World) (p q : List UInt8), p.length ≤ 10000000 → q.length ≤ 10000000 → Calls Tryz.prog 30 #[.string (strOf p), .string (strOf q)] w' fun r w2 => r = .returned (.bool (underL p q)) ∧ Chg [] w' w2) := Lib.hid (fun w' p q hp hq => (phunder_any w' p q (by omega) (by omega)).mono fun r w2 ⟨a, c⟩ => ⟨a, below_chgN c⟩)
  go_wp2_with fail
  clear e1 e3 e4 e6 e7
  refine (UX.out _ f g HF.out HG.out).mono ?_
  rintro r w6 ⟨rfl, hc⟩
  replace C := Lib.hid (C.out.trans hc)
  clear hc
  rcases hu : underL f g with _ | _
  rotate_left
  · have ER : Hid (R = (13, [])) := Lib.hid (by rw [← HRR.out]; unfold moveT; rw [if_neg N1.out, if_neg N2.out, if_pos (.inr hu)])
    clear hu
    go_wp2
    go_ret2
    rw [ER.out]
    exact ⟨none, 0, [], rfl, NsF.nil _ _ _, C.out⟩
  have N3 : Hid (¬ (g = f ∨ underL f g = true)) := Lib.hid (fun q => q.elim NGF.out (fun r => by rw [hu] at r; cases r))
  clear hu
  have FI := Lib.hid (tbfind_any w6 A c xs es g (HA.out.chg C.out (by simp)) (HX.out.chg C.out) (by have := HN.out; omega))
  go_wp2_with fail
  refine FI.out.mono ?_
  rintro r w7 ⟨⟨v, rfl, hv⟩, hc⟩
  have FV := Lib.hid (find_get hv)
  replace C := Lib.hid (C.out.trans hc)
  clear hv hc FI
  rcases FV.out with ⟨rfl, hgg⟩ | ⟨k9, e9, rfl, ek, hgg⟩
  rotate_left
  · have ER : Hid (R = (7, [])) := Lib.hid (by rw [← HRR.out]; unfold moveT; rw [if_neg N1.out, if_neg N2.out, if_neg N3.out, if_pos (by rw [hgg]; simp)])
    have k3 : (0 : Int) ≤ (k9 : Int) := by omega
    clear hgg FV ek
    go_wp2
    go_ret2
    rw [ER.out]
    exact ⟨none, 0, [], rfl, NsF.nil _ _ _, C.out⟩
  have N4 : Hid (¬ getT es g ≠ none) := Lib.hid (fun q => q hgg)
  clear hgg FV
  have PX := Lib.hid (tbparent_any w7 A c xs es g HG.out (HA.out.chg C.out (by simp)) (HX.out.chg C.out) (by have := HN.out; omega))
  go_wp2_with fail
  refine PX.out.mono ?_
  rintro r w8 ⟨rfl, hc⟩
  replace C := Lib.hid (C.out.trans hc)
  clear hc PX
  by_cases hpp : parT es g = 0
  rotate_left
  · have ER : Hid (R = (parT es g, [])) := Lib.hid (by rw [← HRR.out]; unfold moveT; rw [if_neg N1.out, if_neg N2.out, if_neg N3.out, if_neg N4.out, if_pos hpp])
    generalize parT es g = pv at *
    have h1 : ((pv == 0) : Bool) = false := by simpa using hpp
    have h2 : ((pv != 0) : Bool) = true := by unfold bne; rw [h1]; rfl
    clear hpp
    go_wp2
    go_ret2
    rw [ER.out]
    exact ⟨none, 0, [], rfl, NsF.nil _ _ _, C.out⟩
  have N5 : Hid (¬ parT es g ≠ 0) := Lib.hid (fun q => q hpp)
  rw [hpp]
  clear hpp
  have FRS := Lib.hid (frentries_any w8 A c xs es (HA.out.chg C.out (by simp)) (HX.out.chg C.out) (by have := HN.out; omega) (fun e he => (HS.out e he).2))
  go_wp2_with fail
  refine FRS.out.mono ?_
  rintro r w9 ⟨A9, c9, ys, rfl, hyl, hf, hc⟩
  have F9 := Lib.hid hf
  have YN : Hid (ys.length ≤ 190) := Lib.hid (by rw [hyl]; exact HN.out)
  have YE : Hid (ys.length = es.length) := Lib.hid hf.all.ev.1
  have S8 := Lib.hid C.out.size
  have C9 := Lib.hid (C.out.trans hc)
  clear hyl hf hc FRS C
  go_wp2
  go_loopw [55] (fun v55 wr => ∃ (k : Nat) (zs : List EnT), k ≤ ys.length ∧ v55 = .int .i64 (k : Int) ∧ Hid (zs.length = ys.length ∧ zs.drop k = ys.drop k) ∧ Hid (∀ e ∈ es.take k, okP (mvP f g e.p) = true) ∧ Hid (OwnK enTy wr A9 c9 zs) ∧ Hid (OwnNs w9 w8.heap.size w9.heap.size A9 zs ((es.take k).map (mvE f g) ++ es.drop k)) ∧ Hid (Chg (blkOf A9) w9 wr)) (fun v55 _ => ys.length - (RowKit.intOf v55).toNat)
  case atStart => exact ⟨0, ys, Nat.zero_le _, rfl, Lib.hid ⟨rfl, rfl⟩, Lib.hid (by simp), F9.out.row, Lib.hid (by simpa using F9.out.all), Chg.refl _ _⟩
  case round =>
    obtain ⟨k, zs, hk, rfl, ZL, OKS, RO, RE, RC⟩ := hrel
    have i0 : (0 : Int) ≤ (k : Int) := by omega
    by_cases hlt : k < ys.length
    · have i1 : (k : Int) < (ys.length : Int) := by omega
      have i3 : IntKind.i64.wrap ((k : Int) + 1) = (k : Int) + 1 := IntWalk.i64_in _ (by have := YN.out; omega)
      obtain ⟨g9, rfl⟩ : ∃ g9, A9 = some ⟨g9, 0, none⟩ := by
        rcases RO.out.shape with ⟨_, q, _⟩ | ⟨g, q, _⟩
        · have := ZL.out.1; rw [q] at this; simp at this; omega
        · exact ⟨g, q⟩
      obtain ⟨x, hx⟩ : ∃ x, ys[k]? = some x := ⟨_, List.getElem?_eq_getElem hlt⟩
      obtain ⟨e, he⟩ : ∃ e, es[k]? = some e := ⟨_, List.getElem?_eq_getElem (by rw [← YE.out]; exact hlt)⟩
      have zx : zs[k]? = some x := by rw [getElem?_of_drop ZL.out.2 (Nat.le_refl _)]; exact hx
      have RX := Lib.hid (F9.out.all.ev.2 k x e hx he)
      have ZX := Lib.hid zx
      have EE := Lib.hid he
      have SM := Lib.hid (HS.out e (List.mem_of_getElem? he))
      obtain ⟨z0, z1, z2, z3⟩ := enCells (o := 0) RO.out.reads zx
      rw [RX.out.p] at z0
      simp only [Nat.zero_add] at z0 z1 z2 z3
      have KL := Lib.hid hlt
      clear hx he zx
      obtain ⟨v1, hw, hc, b4⟩ := news1 wr (.cells #[.string (strOf e.p), .int .i64 x.k, .int .i64 x.m, .slice x.A x.l x.c] 55)
      have V1 := Lib.hid hw
      go_upto_region 16 with fail
      rw [← V1.out]
      obtain ⟨g4, hg4⟩ : ∃ g, wr.heap.size = g := ⟨_, rfl⟩
      rw [hg4] at b4 ⊢
      have B4 := Lib.hid b4
      have NE4 : Hid (¬ g9 = g4 ∧ ¬ g4 = g9) := Lib.hid (by have := RO.out.lt_ _ rfl; simp at this; omega)
      replace RO := Lib.hid (RO.out.chg hc (by simp))
      replace RC := Lib.hid (RC.out.trans (hc.mono (S' := blkOf (some ⟨g9, 0, none⟩)) (by simp)))
      clear hw hc b4 V1 hg4 z0 z1 z2 z3
      have DRP : Hid (es.drop k = e :: es.drop (k + 1)) := Lib.hid (by obtain ⟨l1, e1⟩ := List.getElem?_eq_some_iff.1 EE.out; rw [List.drop_eq_getElem_cons l1, e1])
      have TKE : Hid ((es.take (k + 1)).map (mvE f g) ++ es.drop (k + 1) = ((es.take k).map (mvE f g) ++ es.drop k).set k (mvE f g e)) := Lib.hid (by
        rw [DRP.out, List.take_add_one, EE.out, List.map_append, List.set_append_right _ _ (by simp; omega)]
        have l1 := (List.getElem?_eq_some_iff.1 EE.out).1
        have : k - ((es.take k).map (mvE f g)).length = 0 := by simp; omega
        rw [this]
        simp)
      have EK : Hid (((es.take k).map (mvE f g) ++ es.drop k)[k]? = some e) := Lib.hid (by
        have hl : ((es.take k).map (mvE f g)).length = k := by have := (List.getElem?_eq_some_iff.1 EE.out).1; simp; omega
        rw [List.getElem?_append_right (by omega), hl, Nat.sub_self, DRP.out]
        rfl)
      have NXT : Hid (∀ e2 ∈ es.take (k + 1), okP (mvP f g e.p) = true → okP (mvP f g e2.p) = true) := Lib.hid (fun e2 h2 q => by
        rw [List.take_add_one, EE.out] at h2
        rcases List.mem_append.1 h2 with r | r
        · exact OKS.out e2 r
        · simp at r; rw [r]; exact q)
      have y0 := cell_of B4.out 0
      simp only [List.getElem?_toArray, List.getElem?_cons_zero] at y0
      by_cases hp : e.p = f
      · skip
        have AT : Hid (AtU f e.p) := Lib.hid (.inl hp)
        have e4 : (e.p == f) = true := by rw [hp]; exact beq_self_eq_true _
        have e5 : ((strOf e.p == strOf f) : Bool) = true := by rw [hp]; exact str_self _
        have e6 : ((strOf e.p != strOf f) : Bool) = false := by simp only [bne, e5]; rfl
        have e7 : (e.p != f) = false := by simp only [bne, e4]; rfl
        clear hp
        go_upto_region 17 with fail
        clear e4 e5 e6 e7
        obtain ⟨wk, hwk⟩ : ∃ wk, v1 = wk := ⟨_, rfl⟩
        rw [hwk] at B4 RO RC y0 ⊢
        clear hwk
        have MP : Hid (mvP f g e.p = g ++ e.p.drop f.length) := Lib.hid (mvP_yes AT.out)
        have FL : Hid (f.length ≤ e.p.length) := Lib.hid (by
          rcases AT.out with q | q
          · rw [q]; exact Nat.le_refl _
          · obtain ⟨_, _, d, hd⟩ := under_split q; rw [hd]; simp)
        have u1 : (f.length : Int) ≤ (e.p.length : Int) := by have := FL.out; omega
        have u2 : (0 : Int) ≤ (f.length : Int) := by omega
        obtain ⟨z0, z1, z2, z3⟩ := enCells (o := 0) RO.out.reads ZX.out
        simp only [Nat.zero_add] at z0 z1 z2 z3
        have f0 : wk.frozen? ⟨g9, k * 4, none⟩ = false := by
          rcases RO.out with ⟨h, _⟩ | ⟨g', full, e, hg, _⟩
          · cases h
          · cases e; exact free_of hg _
        have i5 : (k : Int) < (ys.length : Int) := by have := KL.out; omega
        have sz9 : ¬ 9223372036854775807 < (strOf g).size + ((strOf e.p).extract (strOf f).size (strOf e.p).size).size := by
          have := HG.out
          have := SM.out.1
          rw [strOf_ext, strOf_size, strOf_size, List.length_take, List.length_drop]
          omega
        have sz8 : ¬ 9223372036854775807 < g.length + ((strOf e.p).extract (strOf f).size (strOf e.p).size).size := by rw [strOf_size] at sz9; exact sz9
        go_upto_region 18 with fail
        rw [str_move, ← MP.out]
        clear z0 z1 z2 z3 f0 y0 MP FL u1 u2 sz8 sz9
        have RO4 := RO.out.setc k 0 x ⟨strOf (mvP f g e.p), x.k, x.m, x.A, x.l, x.c⟩ (.string (strOf (mvP f g e.p))) ZX.out (by decide) (fun q hq => by rcases q with _ | _ | _ | _ | q <;> rfl)
        have CST := (Chg.refl (blkOf (some ⟨g9, 0, none⟩)) wk).setCell (p := ⟨g9, k * 4, none⟩) (.inl (by simp [blkOf])) (.string (strOf (mvP f g e.p)))
        have RE2 : Hid (OwnNs w9 w8.heap.size w9.heap.size (some ⟨g9, 0, none⟩) (zs.set k ⟨strOf (mvP f g e.p), x.k, x.m, x.A, x.l, x.c⟩) ((es.take (k + 1)).map (mvE f g) ++ es.drop (k + 1))) := Lib.hid (by rw [TKE.out]; exact RE.out.path ZX.out EK.out _)
        have ZL2 : Hid ((zs.set k ⟨strOf (mvP f g e.p), x.k, x.m, x.A, x.l, x.c⟩).length = ys.length ∧ (zs.set k ⟨strOf (mvP f g e.p), x.k, x.m, x.A, x.l, x.c⟩).drop (k + 1) = ys.drop (k + 1)) := Lib.hid ⟨by rw [List.length_set]; exact ZL.out.1, by
          rw [List.drop_set_of_lt (by omega)]
          have := congrArg (List.drop 1) ZL.out.2
          simpa [List.drop_drop] using this⟩
        obtain ⟨wl, hwl⟩ : ∃ wl : World, wk.setCell ⟨g9, k * 4, none⟩ (.string (strOf (mvP f g e.p))) = wl := ⟨_, rfl⟩
        have RO5 : OwnK enTy wl (some ⟨g9, 0, none⟩) c9 (zs.set k ⟨strOf (mvP f g e.p), x.k, x.m, x.A, x.l, x.c⟩) := by rw [← hwl]; exact RO4
        rw [hwl] at CST ⊢
        replace RO := Lib.hid RO5
        replace RC := Lib.hid (RC.out.trans CST)
        clear RO4 RO5 CST hwl RE ZL
        obtain ⟨zs4, hz4⟩ : ∃ z, zs.set k ⟨strOf (mvP f g e.p), x.k, x.m, x.A, x.l, x.c⟩ = z := ⟨_, rfl⟩
        have Z4 : Hid (zs4[k]? = some ⟨strOf (mvP f g e.p), x.k, x.m, x.A, x.l, x.c⟩) := Lib.hid (by rw [← hz4, List.getElem?_set_self (List.getElem?_eq_some_iff.1 ZX.out).1])
        rw [hz4] at RO RE2 ZL2
        clear hz4
        have z0 := (enCells (o := 0) RO.out.reads Z4.out).1
        simp only [Nat.zero_add] at z0
        go_wp2_with fail
        clear z0
        refine (PC.out wl (mvP f g e.p) (by
          have a := SM.out.1
          have b := HG.out
          have c := OG.out
          have d := ok_short c
          rw [mvP_yes AT.out, List.length_append, List.length_drop]
          rcases Nat.le_total (g.length + (e.p.length - f.length)) 10000000 with q | q
          · exact q
          · have := ok_short (OK.out.1 e (List.mem_of_getElem? EE.out)).1
            omega)).mono ?_
        rintro r wm ⟨rfl, hc⟩
        replace RO := Lib.hid (RO.out.chg hc (by simp))
        replace RC := Lib.hid (RC.out.trans (hc.mono (S' := blkOf (some ⟨g9, 0, none⟩)) (by simp)))
        clear hc
        by_cases hok : checkL 6 12 (mvP f g e.p) = true
        rotate_left
        · have ER : Hid (R = (2, [])) := Lib.hid (by rw [← HRR.out]; unfold moveT; rw [if_neg N1.out, if_neg N2.out, if_neg N3.out, if_neg N4.out, if_neg N5.out, if_pos (List.any_eq_true.2 ⟨e, List.mem_of_getElem? EE.out, by have q : okP (mvP f g e.p) = false := by { unfold okP; simpa using hok }; rw [q]; rfl⟩)])
          have CW : Hid (Chg [] w wm) := Lib.hid (C9.out.trans' RC.out (fun j hj => by obtain ⟨b, hb, e⟩ := of_blkOf hj; have := (F9.out.rowAt b hb).1; have := S8.out; exact .inr (by omega)))
          rw [if_neg hok]
          clear hok
          go_wp2
          go_ret2
          rw [ER.out]
          exact ⟨none, 0, [], rfl, NsF.nil _ _ _, CW.out⟩
        have OK2 : Hid (∀ e ∈ es.take (k + 1), okP (mvP f g e.p) = true) := Lib.hid (fun e2 h2 => NXT.out e2 h2 hok)
        rw [if_pos hok]
        clear hok
        go_wp2
        go_round
        case rel => exact ⟨k + 1, zs4, by omega, by go_num, ZL2, OK2, RO, RE2, RC⟩
        case measure => simp [RowKit.intOf]; omega
      · skip
        have NEF := Lib.hid hp
        have e1 := strOf_ne hp
        have e3 := strOf_ne2 hp
        have e4 : (e.p == f) = false := beq_eq_false_iff_ne.2 hp
        have e6 : ((strOf e.p != strOf f) : Bool) = true := by simp only [bne, e1]; rfl
        have e7 : (e.p != f) = true := by simp only [bne, e4]; rfl
        clear hp
        go_wp2_with fail
        clear y0 e1 e3 e4 e6 e7
        refine (UX.out _ f e.p HF.out SM.out.1).mono ?_
        rintro r wk ⟨rfl, hc⟩
        replace B4 := Lib.hid (hc.at_ B4.out (by simp))
        replace RO := Lib.hid (RO.out.chg hc (by simp))
        replace RC := Lib.hid (RC.out.trans (hc.mono (S' := blkOf (some ⟨g9, 0, none⟩)) (by simp)))
        clear hc
        rcases hu : underL f e.p with _ | _
        · skip
          have NAT : Hid (¬ AtU f e.p) := Lib.hid (fun q => q.elim NEF.out (fun r => by rw [hu] at r; cases r))
          have SAME : Hid (mvE f g e = e) := Lib.hid (by unfold mvE; rw [mvP_no NAT.out])
          have RE2 : Hid (OwnNs w9 w8.heap.size w9.heap.size (some ⟨g9, 0, none⟩) zs ((es.take (k + 1)).map (mvE f g) ++ es.drop (k + 1))) := Lib.hid (by rw [TKE.out, SAME.out, set_sameN EK.out]; exact RE.out)
          have ZL2 : Hid (zs.length = ys.length ∧ zs.drop (k + 1) = ys.drop (k + 1)) := Lib.hid ⟨ZL.out.1, by
            have := congrArg (List.drop 1) ZL.out.2
            simpa [List.drop_drop] using this⟩
          have OK2 : Hid (∀ e ∈ es.take (k + 1), okP (mvP f g e.p) = true) := Lib.hid (fun e2 h2 => NXT.out e2 h2 (by rw [mvP_no NAT.out]; exact (OK.out.1 e (List.mem_of_getElem? EE.out)).1))
          clear hu RE ZL
          go_wp2
          go_round
          case rel => exact ⟨k + 1, zs, by omega, by go_num, ZL2, OK2, RO, RE2, RC⟩
          case measure => simp [RowKit.intOf]; omega
        · skip
          have AT : Hid (AtU f e.p) := Lib.hid (.inr hu)
          clear hu
          have y0 := cell_of B4.out 0
          simp only [List.getElem?_toArray, List.getElem?_cons_zero] at y0
          go_upto_region 17 with fail
          have MP : Hid (mvP f g e.p = g ++ e.p.drop f.length) := Lib.hid (mvP_yes AT.out)
          have FL : Hid (f.length ≤ e.p.length) := Lib.hid (by
            rcases AT.out with q | q
            · rw [q]; exact Nat.le_refl _
            · obtain ⟨_, _, d, hd⟩ := under_split q; rw [hd]; simp)
          have u1 : (f.length : Int) ≤ (e.p.length : Int) := by have := FL.out; omega
          have u2 : (0 : Int) ≤ (f.length : Int) := by omega
          obtain ⟨z0, z1, z2, z3⟩ := enCells (o := 0) RO.out.reads ZX.out
          simp only [Nat.zero_add] at z0 z1 z2 z3
          have f0 : wk.frozen? ⟨g9, k * 4, none⟩ = false := by
            rcases RO.out with ⟨h, _⟩ | ⟨g', full, e, hg, _⟩
            · cases h
            · cases e; exact free_of hg _
          have i5 : (k : Int) < (ys.length : Int) := by have := KL.out; omega
          have sz9 : ¬ 9223372036854775807 < (strOf g).size + ((strOf e.p).extract (strOf f).size (strOf e.p).size).size := by
            have := HG.out
            have := SM.out.1
            rw [strOf_ext, strOf_size, strOf_size, List.length_take, List.length_drop]
            omega
          have sz8 : ¬ 9223372036854775807 < g.length + ((strOf e.p).extract (strOf f).size (strOf e.p).size).size := by rw [strOf_size] at sz9; exact sz9
          go_upto_region 18 with fail
          rw [str_move, ← MP.out]
          clear z0 z1 z2 z3 f0 y0 MP FL u1 u2 sz8 sz9
          have RO4 := RO.out.setc k 0 x ⟨strOf (mvP f g e.p), x.k, x.m, x.A, x.l, x.c⟩ (.string (strOf (mvP f g e.p))) ZX.out (by decide) (fun q hq => by rcases q with _ | _ | _ | _ | q <;> rfl)
          have CST := (Chg.refl (blkOf (some ⟨g9, 0, none⟩)) wk).setCell (p := ⟨g9, k * 4, none⟩) (.inl (by simp [blkOf])) (.string (strOf (mvP f g e.p)))
          have RE2 : Hid (OwnNs w9 w8.heap.size w9.heap.size (some ⟨g9, 0, none⟩) (zs.set k ⟨strOf (mvP f g e.p), x.k, x.m, x.A, x.l, x.c⟩) ((es.take (k + 1)).map (mvE f g) ++ es.drop (k + 1))) := Lib.hid (by rw [TKE.out]; exact RE.out.path ZX.out EK.out _)
          have ZL2 : Hid ((zs.set k ⟨strOf (mvP f g e.p), x.k, x.m, x.A, x.l, x.c⟩).length = ys.length ∧ (zs.set k ⟨strOf (mvP f g e.p), x.k, x.m, x.A, x.l, x.c⟩).drop (k + 1) = ys.drop (k + 1)) := Lib.hid ⟨by rw [List.length_set]; exact ZL.out.1, by
            rw [List.drop_set_of_lt (by omega)]
            have := congrArg (List.drop 1) ZL.out.2
            simpa [List.drop_drop] using this⟩
          obtain ⟨wl, hwl⟩ : ∃ wl : World, wk.setCell ⟨g9, k * 4, none⟩ (.string (strOf (mvP f g e.p))) = wl := ⟨_, rfl⟩
          have RO5 : OwnK enTy wl (some ⟨g9, 0, none⟩) c9 (zs.set k ⟨strOf (mvP f g e.p), x.k, x.m, x.A, x.l, x.c⟩) := by rw [← hwl]; exact RO4
          rw [hwl] at CST ⊢
          replace RO := Lib.hid RO5
          replace RC := Lib.hid (RC.out.trans CST)
          clear RO4 RO5 CST hwl RE ZL
          obtain ⟨zs4, hz4⟩ : ∃ z, zs.set k ⟨strOf (mvP f g e.p), x.k, x.m, x.A, x.l, x.c⟩ = z := ⟨_, rfl⟩
          have Z4 : Hid (zs4[k]? = some ⟨strOf (mvP f g e.p), x.k, x.m, x.A, x.l, x.c⟩) := Lib.hid (by rw [← hz4, List.getElem?_set_self (List.getElem?_eq_some_iff.1 ZX.out).1])
          rw [hz4] at RO RE2 ZL2
          clear hz4
          have z0 := (enCells (o := 0) RO.out.reads Z4.out).1
          simp only [Nat.zero_add] at z0
          go_wp2_with fail
          clear z0
          refine (PC.out wl (mvP f g e.p) (by
            have a := SM.out.1
            have b := HG.out
            have c := OG.out
            have d := ok_short c
            rw [mvP_yes AT.out, List.length_append, List.length_drop]
            rcases Nat.le_total (g.length + (e.p.length - f.length)) 10000000 with q | q
            · exact q
            · have := ok_short (OK.out.1 e (List.mem_of_getElem? EE.out)).1
              omega)).mono ?_
          rintro r wm ⟨rfl, hc⟩
          replace RO := Lib.hid (RO.out.chg hc (by simp))
          replace RC := Lib.hid (RC.out.trans (hc.mono (S' := blkOf (some ⟨g9, 0, none⟩)) (by simp)))
          clear hc
          by_cases hok : checkL 6 12 (mvP f g e.p) = true
          rotate_left
          · have ER : Hid (R = (2, [])) := Lib.hid (by rw [← HRR.out]; unfold moveT; rw [if_neg N1.out, if_neg N2.out, if_neg N3.out, if_neg N4.out, if_neg N5.out, if_pos (List.any_eq_true.2 ⟨e, List.mem_of_getElem? EE.out, by have q : okP (mvP f g e.p) = false := by { unfold okP; simpa using hok }; rw [q]; rfl⟩)])
            have CW : Hid (Chg [] w wm) := Lib.hid (C9.out.trans' RC.out (fun j hj => by obtain ⟨b, hb, e⟩ := of_blkOf hj; have := (F9.out.rowAt b hb).1; have := S8.out; exact .inr (by omega)))
            rw [if_neg hok]
            clear hok
            go_wp2
            go_ret2
            rw [ER.out]
            exact ⟨none, 0, [], rfl, NsF.nil _ _ _, CW.out⟩
          have OK2 : Hid (∀ e ∈ es.take (k + 1), okP (mvP f g e.p) = true) := Lib.hid (fun e2 h2 => NXT.out e2 h2 hok)
          rw [if_pos hok]
          clear hok
          go_wp2
          go_round
          case rel => exact ⟨k + 1, zs4, by omega, by go_num, ZL2, OK2, RO, RE2, RC⟩
          case measure => simp [RowKit.intOf]; omega
    · obtain rfl : k = ys.length := by omega
      have i1 : ¬ (ys.length : Int) < (ys.length : Int) := by omega
      have ET : es.take ys.length = es := by rw [YE.out, List.take_length]
      have ED : es.drop ys.length = [] := by rw [YE.out, List.drop_length]
      rw [ET, ED, List.append_nil] at RE
      rw [ET] at OKS
      have ZN : Hid (zs.length = ys.length) := Lib.hid ZL.out.1
      have NS : Hid (NsF wr w8.heap.size w9.heap.size A9 c9 zs (es.map (mvE f g))) := Lib.hid ⟨RO.out, F9.out.rowAt, RE.out.chg RC.out (fun j hj _ => by obtain ⟨b, hb, e⟩ := of_blkOf hj; exact ⟨b, hb, e⟩)⟩
      have AP := Lib.hid (mv_apart OK.out N2.out (Decidable.not_not.1 N4.out) OG.out N3.out OKS.out)
      have SO := Lib.hid (tbsort_any wr w8.heap.size w9.heap.size A9 c9 zs (es.map (mvE f g)) NS.out (by rw [ZN.out]; have := YN.out; omega) (fun e he => by
        obtain ⟨d, hd, rfl⟩ := List.mem_map.1 he
        have := ok_short (OKS.out d hd)
        show (mvP f g d.p).length ≤ _
        omega))
      rw [ZN.out] at SO
      clear ET ED ZL
      go_wp2_with fail
      refine SO.out.mono ?_
      rintro r wz ⟨rfl, us, fs, hul, hfp, hfs, hns, hc⟩
      have FE : Hid (fs = sortTN (es.map (mvE f g))) := Lib.hid (sort_is AP.out hfp hfs)
      have ER : Hid (R = (0, sortTN (es.map (mvE f g)))) := Lib.hid (by rw [← HRR.out]; unfold moveT; rw [if_neg N1.out, if_neg N2.out, if_neg N3.out, if_neg N4.out, if_neg N5.out, if_neg (fun q => by
        obtain ⟨d, hd, e⟩ := List.any_eq_true.1 q
        rw [OKS.out d hd] at e
        cases e)])
      have UL : Hid (ys.length = us.length) := Lib.hid (by rw [hul])
      have NSF : Hid (NsF wz w.heap.size wz.heap.size A9 c9 us (sortTN (es.map (mvE f g)))) := Lib.hid (by rw [← FE.out]; exact (hns.mono (by have := RC.out.size; have := hc.size; omega)).low S8.out)
      have CW : Hid (Chg [] w wz) := Lib.hid (C9.out.trans' (RC.out.trans hc) (fun j hj => by obtain ⟨b, hb, e⟩ := of_blkOf hj; have := (F9.out.rowAt b hb).1; have := S8.out; exact .inr (by omega)))
      clear hul hfp hfs hns hc SO AP NS
      rw [UL.out]
      go_wp2
      go_ret2
      rw [ER.out]
      exact ⟨A9, c9, us, rfl, NSF.out, CW.out⟩
end
end Go.Proofs.YtimdfpejgaidhaaGreatDoor
