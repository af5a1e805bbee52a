/- slices.IndexFunc, ContainsFunc, DeleteFunc over entries. table.find. Rows of events, and events handed in: what their cells are, and what their slices read as. past.stands, past.apart. past.Check. Sets of dots as lists of spans: plain functions. No function of the program is named here. Two sets of dots gone through at a time: plain functions. No function of the program is named here. Spans in any order made a past, as the document does it: plain functions. No function of the program is named here. The pasts that may be, as lists of spans in order. No memory here. -/
import Derived.Test.YtimdfpejgaidhaaGreatDoorZtwd
import Derived.Test.YtimdfpejgaidhaaGreatDoorZtwh
import Derived.Deep.Cut
import Derived.Test.YtimdfpejgaidhaaGreatDoorZtwc
import Derived.Test.YtimdfpejgaidhaaGreatDoorZtwa
import Derived.Test.YtimdfpejgaidhaaGreatDoorZtwb
import Derived.Deep.RegionHeld3
namespace Go.Proofs.YtimdfpejgaidhaaGreatDoor
section
open Go.RowKit Go.Lib
set_option linter.unusedSimpArgs false
set_option linter.unusedVariables false

/-- What a search by a func tells: the first of which it is so; -1: none. -/
def IdxN (es : List EnP) (p : EnP → Bool) (v : Int) : Prop := (v = -1 ∧ ∀ e ∈ es, p e = false) ∨ ∃ (k : Nat) (e : EnP), v = k ∧ es[k]? = some e ∧ p e = true ∧ ∀ e ∈ es.take k, p e = false
theorem IdxN.any {es : List EnP} {p : EnP → Bool} {v : Int} (h : IdxN es p v) : es.any p = decide (0 ≤ v) := by
  rcases h with ⟨rfl, h⟩ | ⟨k, e, rfl, hk, hp, _⟩
  · rw [List.any_eq_false.2 (fun e he => by rw [h e he]; decide)]
    rfl
  · rw [List.any_eq_true.2 ⟨e, List.mem_of_getElem? hk, hp⟩]
    exact (decide_eq_true (by omega)).symm
theorem all_take_noN {es : List EnP} {p : EnP → Bool} {k : Nat} {e : EnP} (h : ∀ e ∈ es.take k, p e = false) (hk : es[k]? = some e) (he : p e = false) : ∀ e ∈ es.take (k + 1), p e = false := by
  intro x hx
  rw [List.take_add_one, hk] at hx
  rcases List.mem_append.1 hx with q | q
  · exact h x q
  · simp at q
    subst q
    exact he

theorem run_clearN (w : World) (ty : TypeId) (g c n k : Nat) (full : List EnT) (hg : w.heap[g]? = some (.cells (enTy.flat full).toArray 55 (0, 0))) (hl : full.length = c) (hn : n ≤ c) (hk : k < n) :
    (Builtin.clear_ #[22] ty #[.slice (some ⟨g, k * 4, none⟩) (n - k) (c - k)]).run Tryz.prog w = .ok (.tuple #[]) (w.setRow g (enTy.flat (full.take k ++ List.replicate (n - k) enTy.z ++ full.drop n)).toArray) := by
  have hz := enTy.zeros (n - k)
  have hk2 : enTy.k = 4 := rfl
  have hlen : (enTy.flat full).length = full.length * 4 := enTy.flat_len full
  have hlz : (enTy.flat (List.replicate (n - k) enTy.z)).length = (n - k) * 4 := by rw [enTy.flat_len, List.length_replicate, hk2]
  have hst := run_storeCells_at (P := Tryz.prog) g (k * 4) 55 (enTy.flat (List.replicate (n - k) enTy.z)) 0 _ w hg (by rw [hlz, List.size_toArray, hlen]; omega) (enTy.flat_one _)
  have ht := enTy.flat_take full k
  have hd := enTy.flat_drop full n
  rw [hk2] at ht hd
  have hfin : ((enTy.flat full).toArray.toList.take (k * 4 + 0) ++ enTy.flat (List.replicate (n - k) enTy.z) ++ (enTy.flat full).toArray.toList.drop (k * 4 + 0 + (enTy.flat (List.replicate (n - k) enTy.z)).length)) = enTy.flat (full.take k ++ List.replicate (n - k) enTy.z ++ full.drop n) := by
    rw [enTy.flat_app, enTy.flat_app, ht, hd, hlz, show k * 4 + 0 + (n - k) * 4 = n * 4 by omega]
    rfl
  rw [hfin] at hst
  obtain ⟨m, hm⟩ : ∃ m, n - k = m + 1 := ⟨n - k - 1, by omega⟩
  have hzv : ∀ w, (zeroValue 55).run Tryz.prog w = .ok (.agg #[.string ⟨#[]⟩, .int .i64 0, .int .i64 0, .slice none 0 0]) w := Tryz.zeroValue55
  have hzz : (Builtin.zeroCells (Value.agg #[.string ⟨#[]⟩, .int .i64 0, .int .i64 0, .slice none 0 0]).cells (n - k)).toList = enTy.flat (List.replicate (n - k) enTy.z) := by
    exact (congrArg Array.toList hz).trans (by simp)
  rw [hm] at hst hzz ⊢
  simp [Builtin.clear_, run_underlying Tryz.underlying22, hzv, hzz, hst]
/-- Those that stay. -/
theorem filt_takeN {es : List EnP} {q : EnP → Bool} {k : Nat} {e : EnP} (he : es[k]? = some e) : (es.take (k + 1)).filter q = (es.take k).filter q ++ (if q e = true then [e] else []) := by
  rw [List.take_add_one, he, List.filter_append]
  cases h : q e <;> simp [h]
theorem take_set_nextN {α : Type} {zs : List α} {i : Nat} {x : α} (hi : i < zs.length) : (zs.set i x).take (i + 1) = zs.take i ++ [x] := by
  rw [List.take_add_one, List.getElem?_set, if_pos rfl, if_pos hi, List.take_set, List.set_eq_of_length_le (by rw [List.length_take]; omega)]
  rfl
set_option maxRecDepth 100000 in
set_option maxHeartbeats 4000000 in
theorem enfindex_any (w : World) (A : Option Addr) (c : Nat) (xs : List EnT) (es : List EnP) (gf : Nat) (lb : Array Value) (d : EnP → Bool) (eg : ∀ args w, (callFunc gf args).run Tryz.prog w = .ok (.enter gf args) w) (h : RdK enTy w A xs.length xs) (hx : EnsR w xs es) (hn : xs.length ≤ 100000) (hcall : ∀ (wr : World), Chg [] w wr → ∀ (i : Nat) (x : EnT) (e : EnP), xs[i]? = some x → es[i]? = some e → Calls Tryz.prog gf (#[.agg #[.string x.p, .int .i64 x.k, .int .i64 x.m, .slice x.A x.l x.c]] ++ lb) wr fun r w' => r = .returned (.bool (d e)) ∧ Chg [] wr w') :
    Calls Tryz.prog 81 #[.slice A xs.length c, .func (.func gf) #[] lb] w fun r w' => (∃ v : Int, r = .returned (.int .i64 v) ∧ IdxN es d v) ∧ Chg [] w w' := by
  have HA := Lib.hid h
  have HX := Lib.hid hx
  have HN := Lib.hid hn
  have HCALL := Lib.hid hcall
  have CLEARS : True := trivial
  clear CLEARS h hx hn hcall
  go_enter Tryz.func81, Tryz.ntmps81
  go_wp2
  go_loopw [5, 8] (fun v5 v8 wr => ∃ (k : Nat), k ≤ xs.length ∧ v8 = .int .i64 k ∧ Hid (∀ e ∈ es.take k, d e = false) ∧ Hid (Chg [] w wr)) (fun _ v8 _ => xs.length - (RowKit.intOf v8).toNat)
  case atStart => exact ⟨0, Nat.zero_le _, rfl, Lib.hid (by simp), Chg.refl _ _⟩
  case round =>
    obtain ⟨k, hk, rfl, FN_, RC⟩ := hrel
    have i0 : (0 : Int) ≤ (k : Int) := by omega
    by_cases hlt : k < xs.length
    · have i1 : (k : Int) < (xs.length : Int) := by omega
      have i3 : IntKind.i64.wrap ((k : Int) + 1) = (k : Int) + 1 := IntWalk.i64_in _ (by have := HN.out; omega)
      obtain ⟨x, e, ex, ee, rx⟩ := HX.out.at_ hlt
      obtain ⟨g, o, eA, _⟩ := HA.out.line (by omega)
      subst eA
      obtain ⟨z0, z1, z2, z3⟩ := enCells (HA.out.chg RC.out (by simp)) ex
      have EE := Lib.hid ee
      have CL := Lib.hid (HCALL.out wr RC.out _ x e ex ee)
      clear ex ee rx
      go_wp2_with fail
      refine CL.out.mono ?_
      rintro r w2 ⟨rfl, hc⟩
      have C2 := Lib.hid (RC.out.trans hc)
      clear hc CL z0 z1 z2 z3
      rcases hb : d e with _ | _
      · have FN1 := Lib.hid (all_take_noN FN_.out EE.out hb)
        clear hb FN_
        go_wp2
        go_round
        case rel => exact ⟨k + 1, by omega, by go_num, FN1, C2⟩
        case measure => simp [RowKit.intOf]; omega
      · have AN : Hid (IdxN es d (k : Int)) := Lib.hid (.inr ⟨k, e, rfl, EE.out, hb, FN_.out⟩)
        clear hb FN_
        go_wp2
        go_ret
        exact ⟨⟨k, rfl, AN.out⟩, C2.out⟩
    · obtain rfl : k = xs.length := by omega
      have ET : es.take xs.length = es := by rw [HX.out.1]; exact List.take_length
      rw [ET] at FN_
      clear ET
      have i1 : ¬ (xs.length : Int) < (xs.length : Int) := by omega
      go_wp2
      go_ret
      exact ⟨⟨-1, rfl, .inl ⟨rfl, FN_.out⟩⟩, RC.out⟩

set_option maxRecDepth 100000 in
set_option maxHeartbeats 4000000 in
theorem enfcontains_any (w : World) (A : Option Addr) (c : Nat) (xs : List EnT) (es : List EnP) (gf : Nat) (lb : Array Value) (d : EnP → Bool) (eg : ∀ args w, (callFunc gf args).run Tryz.prog w = .ok (.enter gf args) w) (h : RdK enTy w A xs.length xs) (hx : EnsR w xs es) (hn : xs.length ≤ 100000) (hcall : ∀ (wr : World), Chg [] w wr → ∀ (i : Nat) (x : EnT) (e : EnP), xs[i]? = some x → es[i]? = some e → Calls Tryz.prog gf (#[.agg #[.string x.p, .int .i64 x.k, .int .i64 x.m, .slice x.A x.l x.c]] ++ lb) wr fun r w' => r = .returned (.bool (d e)) ∧ Chg [] wr w') :
    Calls Tryz.prog 106 #[.slice A xs.length c, .func (.func gf) #[] lb] w fun r w' => r = .returned (.bool (es.any d)) ∧ Chg [] w w' := by
  have IX := Lib.hid (enfindex_any w A c xs es gf lb d eg h hx hn hcall)
  clear h hx hn hcall
  generalize hv : es.any d = v
  have HV := Lib.hid hv
  clear hv
  go_enter Tryz.func106, Tryz.ntmps106
  go_wp2_with fail
  refine IX.out.mono ?_
  rintro e w2 ⟨⟨u, rfl, hu⟩, hc⟩
  have C := Lib.hid hc
  have HU : Hid (decide ((0 : Int) ≤ u) = v) := Lib.hid (by rw [← HV.out]; exact hu.any.symm)
  clear hu hc
  go_wp2
  go_ret
  exact ⟨by rw [HU.out]; rfl, C.out⟩


theorem take_sub_next {α : Type} (l : List α) (k : Nat) : (l.take k).Sublist (l.take (k + 1)) := by
  have : l.take k = (l.take (k + 1)).take k := by rw [List.take_take, Nat.min_eq_left (Nat.le_succ k)]
  rw [this]
  exact List.take_sublist _ _
theorem zip_next {α β : Type} {l : List α} {m : List β} {j : Nat} {x : α} {e : β} (hx : l[j]? = some x) (he : m[j]? = some e) : (l.zip m).take (j + 1) = (l.zip m).take j ++ [(x, e)] := by
  rw [List.take_add_one, List.getElem?_zip_eq_some (z := (x, e)) |>.2 ⟨hx, he⟩]
  rfl
theorem take_zipN {α β : Type} (l : List α) (m : List β) (k : Nat) : (l.zip m).take k = (l.take k).zip (m.take k) := by
  rw [List.zip_eq_zipWith, List.zip_eq_zipWith, List.take_zipWith]
set_option maxRecDepth 100000 in
set_option maxHeartbeats 16000000 in
theorem enfdel_S (S0 : List Nat) (wb w0 w : World) (A : Option Addr) (c : Nat) (xs : List EnT) (es : List EnP) (gf : Nat) (lb : Array Value) (d : EnP → Bool) (eg : ∀ args w, (callFunc gf args).run Tryz.prog w = .ok (.enter gf args) w) (hxw : EnsR w xs es) (h0 : Chg S0 w0 w) (h : OwnK enTy w A c xs) (hA : ∀ a, A = some a → a.block ∈ S0 ∨ w0.heap.size ≤ a.block) (hx : EnsR wb xs es) (hn : xs.length ≤ 100000) (hcall : ∀ (wr : World), Chg S0 w0 wr → ∀ (i : Nat) (x : EnT) (e : EnP), xs[i]? = some x → es[i]? = some e → Calls Tryz.prog gf (#[.agg #[.string x.p, .int .i64 x.k, .int .i64 x.m, .slice x.A x.l x.c]] ++ lb) wr fun r w' => r = .returned (.bool (d e)) ∧ Chg [] wr w') :
    Calls Tryz.prog 49 #[.slice A xs.length c, .func (.func gf) #[] lb] w fun r w' => ∃ ys : List EnT, r = .returned (.slice A ys.length c) ∧ ys.length ≤ xs.length ∧ EnsR wb ys (es.filter (fun e => !d e)) ∧ (ys.zip (es.filter (fun e => !d e))).Sublist (xs.zip es) ∧ OwnK enTy w' A c ys ∧ Chg S0 w0 w' := by
  have IX := Lib.hid (enfindex_any w A c xs es gf lb d eg h.reads hxw hn (fun wr hc => hcall wr (h0.trans (hc.mono (by simp)))))
  have W1C := Lib.hid hcall
  have O0 := Lib.hid h
  have C0 := Lib.hid h0
  have NA := Lib.hid hA
  have HX := Lib.hid hx
  have HN := Lib.hid hn
  clear h h0 hxw hA hx hn hcall
  go_enter Tryz.func49, Tryz.ntmps49
  go_wp2_with fail
  refine IX.out.mono ?_
  rintro r w1 ⟨⟨v, rfl, hv⟩, hc⟩
  have C1 := Lib.hid (C0.out.trans (hc.mono (by simp)))
  have O1 := Lib.hid (O0.out.chg hc (by simp))
  clear hc O0 C0 IX
  rcases hv with ⟨rfl, no⟩ | ⟨k, e, rfl, ek, pk, nk⟩
  · have ES : Hid (es.filter (fun e => !d e) = es) := Lib.hid (List.filter_eq_self.2 (fun e he => by have q : d e = false := no e he; rw [q]; rfl))
    clear no
    go_wp2
    go_ret
    exact ⟨xs, rfl, Nat.le_refl _, by rw [ES.out]; exact HX.out, by rw [ES.out]; exact List.Sublist.refl _, O1.out, C1.out⟩
  · have kl : k < xs.length := by rw [HX.out.1]; exact (List.getElem?_eq_some_iff.1 ek).1
    have F0 : Hid ((es.take (k + 1)).filter (fun e => !d e) = es.take k) := Lib.hid (by
      rw [filt_takeN ek]
      have pk : d e = true := pk
      simp only [pk, Bool.not_true, Bool.false_eq_true, if_false, List.append_nil]
      exact List.filter_eq_self.2 (fun e he => by have q : d e = false := nk e he; rw [q]; rfl))
    have E0 : Hid (EnsR wb (xs.take k) (es.take k)) := Lib.hid ⟨by rw [List.length_take, List.length_take, HX.out.1], fun i x d hx hd => by
      rw [List.getElem?_take] at hx hd
      split at hx
      · rename_i q; rw [if_pos q] at hd; exact HX.out.2 i x d hx hd
      · cases hx⟩
    obtain ⟨g, eA, _⟩ : ∃ g, A = some ⟨g, 0, none⟩ ∧ g < w1.heap.size := by
      rcases O1.out.shape with ⟨_, q, _⟩ | q
      · rw [q] at kl; simp at kl
      · exact q
    subst eA
    have CP := Lib.hid O1.out.cap
    have n1 : ¬ ((k : Int) = -1) := by omega
    have n2 : (((k : Int) == -1) : Bool) = false := by first | (simp; done) | (simp; omega)
    have n3 : IntKind.i64.wrap ((k : Int) + 1) = ((k + 1 : Nat) : Int) := by rw [IntWalk.i64_in _ (by have := HN.out; omega)]; omega
    have KL := Lib.hid kl
    clear ek pk nk kl
    go_upto_region 5 with fail
    go_loopw [5, 6] (fun v5 v6 wr => ∃ (i j : Nat) (zs : List EnT), i + 1 ≤ j ∧ j ≤ xs.length ∧ v5 = .int .i64 i ∧ v6 = .int .i64 j ∧ Hid (zs.length = xs.length ∧ zs.drop j = xs.drop j) ∧ Hid (EnsR wb (zs.take i) ((es.take j).filter (fun e => !d e))) ∧ Hid (((zs.take i).zip ((es.take j).filter (fun e => !d e))).Sublist ((xs.zip es).take j)) ∧ Hid (OwnK enTy wr (some ⟨g, 0, none⟩) c zs) ∧ Hid (Chg S0 w0 wr)) (fun _ v6 _ => xs.length - (RowKit.intOf v6).toNat)
    case atStart => exact ⟨k, k + 1, xs, Nat.le_refl _, KL.out, rfl, rfl, Lib.hid ⟨rfl, rfl⟩, Lib.hid (by rw [F0.out]; exact E0.out), Lib.hid (by rw [F0.out, ← take_zipN]; exact take_sub_next _ _), O1, C1⟩
    case round =>
      obtain ⟨i, j, zs, hij, hj, rfl, rfl, ZL, RE, ZS, RO, RC⟩ := hrel
      have i0 : (0 : Int) ≤ (i : Int) := by omega
      have j0 : (0 : Int) ≤ (j : Int) := by omega
      by_cases hlt : j < xs.length
      · have j1 : (j : Int) < (xs.length : Int) := by omega
        have i1 : (i : Int) < (xs.length : Int) := by omega
        have j3 : IntKind.i64.wrap ((j : Int) + 1) = (j : Int) + 1 := IntWalk.i64_in _ (by have := HN.out; omega)
        have i3 : IntKind.i64.wrap ((i : Int) + 1) = (i : Int) + 1 := IntWalk.i64_in _ (by have := HN.out; omega)
        obtain ⟨x, e, ex, ee, rx⟩ := HX.out.at_ hlt
        have zx : zs[j]? = some x := by rw [getElem?_of_drop ZL.out.2 (Nat.le_refl _)]; exact ex
        obtain ⟨z0, z1, z2, z3⟩ := enCells RO.out.reads zx
        rw [Nat.zero_add] at z0 z1 z2 z3
        have EE := Lib.hid ee
        have RX := Lib.hid rx
        have EX := Lib.hid ex
        clear ex ee rx zx
        obtain ⟨w2, hw2, c2, b2⟩ := news1 wr (.cells #[.string x.p, .int .i64 x.k, .int .i64 x.m, .slice x.A x.l x.c] 55)
        have W2 := Lib.hid hw2
        have B2 := Lib.hid b2
        have SB : Hid (g ≠ wr.heap.size) := Lib.hid (by
          have := RO.out.lt_ _ rfl
          intro q
          rw [q] at this
          exact Nat.lt_irrefl _ this)
        replace RO := Lib.hid (RO.out.chg c2 (by simp))
        replace RC := Lib.hid (RC.out.trans (c2.mono (by simp)))
        clear hw2 c2 b2
        go_upto_region 8 with fail
        rw [← W2.out]
        generalize wr.heap.size = s2 at *
        clear W2 z0 z1 z2 z3
        have y0 := cell_of B2.out 0
        have y1 := cell_of B2.out 1
        have y2 := cell_of B2.out 2
        have y3 := cell_of B2.out 3
        simp only [List.getElem?_toArray, List.getElem?_cons_succ, List.getElem?_cons_zero] at y0 y1 y2 y3
        have CC := Lib.hid (W1C.out w2 RC.out _ x e EX.out EE.out)
        go_wp2_with fail
        refine CC.out.mono ?_
        rintro r w3 ⟨rfl, hc⟩
        replace RO := Lib.hid (RO.out.chg hc (by simp))
        replace RC := Lib.hid (RC.out.trans (hc.mono (by simp)))
        replace B2 := Lib.hid (hc.at_ B2.out (by simp))
        clear hc CC y0 y1 y2 y3
        rcases ha : d e with _ | _
        · have FT : Hid ((es.take (j + 1)).filter (fun e => !d e) = (es.take j).filter (fun e => !d e) ++ [e]) := Lib.hid (by rw [filt_takeN EE.out]; simp [ha])
          clear ha
          have y0 := cell_of B2.out 0
          have y1 := cell_of B2.out 1
          have y2 := cell_of B2.out 2
          have y3 := cell_of B2.out 3
          simp only [List.getElem?_toArray, List.getElem?_cons_succ, List.getElem?_cons_zero] at y0 y1 y2 y3
          obtain ⟨u, hu⟩ : ∃ u, zs[i]? = some u := ⟨_, List.getElem?_eq_getElem (by rw [ZL.out.1]; omega)⟩
          obtain ⟨z0, z1, z2, z3⟩ := enCells RO.out.reads hu
          rw [Nat.zero_add] at z0 z1 z2 z3
          have F3 : ∀ j, w3.frozen? ⟨g, j, none⟩ = false := fun j => by
            rcases RO.out with ⟨h, _⟩ | ⟨g', full, e, hg, _⟩
            · cases h
            · cases e; exact free_of hg j
          have f0 := F3 (i * 4)
          have f1 := F3 (i * 4 + 1)
          have f2 := F3 (i * 4 + 2)
          have f3 := F3 (i * 4 + 3)
          have RO4 := Lib.hid (RO.out.setn4 i _ x hu)
          have RC4 := Lib.hid (RC.out.setn4 (g := g) (NA.out _ rfl) (i * 4) (.string x.p) (.int .i64 x.k) (.int .i64 x.m) (.slice x.A x.l x.c))
          have ZL4 : Hid ((zs.set i x).length = xs.length ∧ (zs.set i x).drop (j + 1) = xs.drop (j + 1)) := Lib.hid ⟨by rw [List.length_set]; exact ZL.out.1, by
            rw [List.drop_set_of_lt (by omega)]
            have := congrArg (List.drop 1) ZL.out.2
            simpa [List.drop_drop] using this⟩
          have RE4 : Hid (EnsR wb ((zs.set i x).take (i + 1)) ((es.take (j + 1)).filter (fun e => !d e))) := Lib.hid (by
            rw [FT.out, take_set_nextN (by rw [ZL.out.1]; omega)]
            exact RE.out.snoc RX.out)
          have ZS4 : Hid ((((zs.set i x).take (i + 1)).zip ((es.take (j + 1)).filter (fun e => !d e))).Sublist ((xs.zip es).take (j + 1))) := Lib.hid (by
            rw [FT.out, take_set_nextN (by rw [ZL.out.1]; omega), List.zip_append RE.out.1, zip_next EX.out EE.out]
            exact List.Sublist.append ZS.out (List.Sublist.refl _))
          clear F3 hu
          go_upto_region 10 with fail
          clear z0 z1 z2 z3 f0 f1 f2 f3 y0 y1 y2 y3
          generalize ((((w3.setCell ⟨g, i * 4, none⟩ (.string x.p)).setCell ⟨g, i * 4 + 1, none⟩ (.int .i64 x.k)).setCell ⟨g, i * 4 + 2, none⟩ (.int .i64 x.m)).setCell ⟨g, i * 4 + 3, none⟩ (.slice x.A x.l x.c)) = w4 at *
          go_wp2
          go_round
          case rel => exact ⟨i + 1, j + 1, zs.set i x, by omega, by omega, by go_num, by go_num, ZL4, RE4, ZS4, RO4, RC4⟩
          case measure => simp [RowKit.intOf]; omega
        · have FT : Hid ((es.take (j + 1)).filter (fun e => !d e) = (es.take j).filter (fun e => !d e)) := Lib.hid (by rw [filt_takeN EE.out]; simp [ha])
          clear ha
          have ZL4 : Hid (zs.length = xs.length ∧ zs.drop (j + 1) = xs.drop (j + 1)) := Lib.hid ⟨ZL.out.1, by
            have := congrArg (List.drop 1) ZL.out.2
            simpa [List.drop_drop] using this⟩
          rw [← FT.out] at RE ZS
          have ZS4 := Lib.hid (ZS.out.trans (take_sub_next _ _))
          clear ZS
          go_wp2
          go_round
          case rel => exact ⟨i, j + 1, zs, by omega, by omega, rfl, by go_num, ZL4, RE, ZS4, RO, RC⟩
          case measure => simp [RowKit.intOf]; omega
      · obtain rfl : j = xs.length := by omega
        have j1 : ¬ (xs.length : Int) < (xs.length : Int) := by omega
        have ET : es.take xs.length = es := by rw [HX.out.1]; exact List.take_length
        rw [ET] at RE ZS
        have ZE : Hid ((xs.zip es).take xs.length = xs.zip es) := Lib.hid (List.take_of_length_le (by rw [List.length_zip]; omega))
        rw [ZE.out] at ZS
        clear ET ZE
        obtain ⟨full, hg, hfl, hcm, hzl, hft⟩ : ∃ full, wr.heap[g]? = some (.cells (enTy.flat full).toArray 55 (0, 0)) ∧ full.length = c ∧ c ≤ maxLen ∧ zs.length ≤ c ∧ full.take zs.length = zs := by
          rcases RO.out with ⟨h, _⟩ | ⟨g', full, e, hg, h1, h2, h3, h4⟩
          · cases h
          · cases e; exact ⟨full, hg, h1, h2, h3, h4⟩
        have il : i < xs.length := by omega
        have nc : xs.length ≤ c := by rw [← ZL.out.1]; exact hzl
        have hcl := fun ty => run_clearN wr ty g c xs.length i full hg hfl nc il
        have hown := OwnK.of (R := enTy) (w := wr.setRow g (enTy.flat (full.take i ++ (List.replicate (xs.length - i) enTy.z ++ full.drop xs.length))).toArray) (g := g) (c := c) (full := full.take i ++ (List.replicate (xs.length - i) enTy.z ++ full.drop xs.length)) (xs := zs.take i) (setRow_heap wr g _ _ _ _ hg) (by rw [List.length_take, ZL.out.1]; omega) hcm (by simp; omega) (by
          have e1 : (zs.take i).length = i := by rw [List.length_take, ZL.out.1]; omega
          rw [e1, List.take_append_of_le_length (by rw [List.length_take, hfl]; omega), List.take_take, Nat.min_self, ← hft, List.take_take, Nat.min_eq_left (by rw [ZL.out.1]; omega)])
        have hch : Chg S0 w0 (wr.setRow g (enTy.flat (full.take i ++ (List.replicate (xs.length - i) enTy.z ++ full.drop xs.length))).toArray) := RC.out.trans' (S' := [g]) ⟨rfl, rfl, rfl, by simp, fun j hj hn => setRow_other wr g j _ (by simpa using hn)⟩ (fun j hj => by simp at hj; subst hj; exact NA.out _ rfl)
        have HE := Lib.hid (And.intro hown hch)
        have IL : Hid ((zs.take i).length = i) := Lib.hid (by rw [List.length_take, ZL.out.1]; omega)
        have j7 : (i : Int) ≤ (xs.length : Int) := by omega
        have j8 : (i : Int) ≤ (c : Int) := by omega
        have j9 : i ≤ xs.length := by omega
        have j6 : ¬ c = i := by omega
        clear hown hch hg hfl hcm hzl hft
        go_wp2
        go_ret
        exact ⟨zs.take i, by rw [IL.out]; rfl, by rw [IL.out]; omega, RE.out, ZS.out, HE.out.1, HE.out.2⟩
end
section
open Go.RowKit Go.Lib
set_option linter.unusedSimpArgs false
set_option linter.unusedVariables false

/-- Where the first of a path is; -1: none is. -/
def findT (t : List EnP) (p : List UInt8) : Int → Prop := IdxN t (fun e => decide (e.p = p))
set_option maxRecDepth 100000 in
set_option maxHeartbeats 4000000 in
theorem tbfind1_any (w : World) (x : EnT) (e : EnP) (h : EnR w x e) (gb : Nat) (p : List UInt8) (hb : w.heap[gb]? = some (.cells #[.string (strOf p)] 9 (0, 0))) :
    Calls Tryz.prog 82 #[.agg #[.string x.p, .int .i64 x.k, .int .i64 x.m, .slice x.A x.l x.c], .pointer (some ⟨gb, 0, none⟩)] w fun r w' => r = .returned (.bool (decide (e.p = p))) ∧ Chg [] w w' := by
  obtain ⟨w1, hw, hc, b0⟩ := news1 w (.cells #[.string x.p, .int .i64 x.k, .int .i64 x.m, .slice x.A x.l x.c] 55)
  have W1 := Lib.hid hw
  have C := Lib.hid hc
  have y0 := cell_of (hc.at_ hb (by simp)) 0
  have z0 := cell_of b0 0
  have z1 := cell_of b0 1
  have z2 := cell_of b0 2
  have z3 := cell_of b0 3
  simp only [List.getElem?_toArray, List.getElem?_cons_succ, List.getElem?_cons_zero] at y0 z0 z1 z2 z3
  have XP : Hid (x.p = strOf e.p) := Lib.hid h.p
  generalize hv : decide (e.p = p) = v
  have HV := Lib.hid hv
  clear hw hc b0 h hb hv
  go_enter Tryz.func82, Tryz.ntmps82
  go_upto_region 1 with fail
  rw [← W1.out]
  generalize w.heap.size = g0 at *
  clear W1
  rw [XP.out] at z0
  by_cases hp : e.p = p
  · obtain rfl : v = true := by rw [← HV.out]; exact decide_eq_true hp
    have e1 : ((e.p == p) : Bool) = true := by simpa using hp
    clear hp HV
    go_wp2
    go_ret
    exact ⟨rfl, C.out⟩
  · obtain rfl : v = false := by rw [← HV.out]; exact decide_eq_false hp
    have e1 : ((e.p == p) : Bool) = false := by simpa using hp
    clear hp HV
    go_wp2
    go_ret
    exact ⟨rfl, C.out⟩
set_option maxRecDepth 100000 in
set_option maxHeartbeats 4000000 in
theorem tbfind_any (w : World) (A : Option Addr) (c : Nat) (xs : List EnT) (es : List EnP) (p : List UInt8) (h : RdK enTy w A xs.length xs) (hx : EnsR w xs es) (hn : xs.length ≤ 100000) :
    Calls Tryz.prog 40 #[.slice A xs.length c, .string (strOf p)] w fun r w' => (∃ v : Int, r = .returned (.int .i64 v) ∧ findT es p v) ∧ Chg [] w w' := by
  obtain ⟨w1, hw, hc, b0⟩ := news1 w (.cells #[.string (strOf p)] 9)
  have W1 := Lib.hid hw
  have C := Lib.hid hc
  have IX := Lib.hid (enfindex_any w1 A c xs es 82 #[.pointer (some ⟨w.heap.size, 0, none⟩)] (fun e => decide (e.p = p)) (enters_of Tryz.func82 (by kernel_rfl) rfl) (h.chg hc (by simp)) (hx.chg hc) hn (fun wr hcc i x e ex ee => tbfind1_any wr x e ((hx.2 i x e ex ee).chg (hc.trans hcc)) w.heap.size p (hcc.at_ b0 (by simp))))
  clear hw hc b0 h hx hn
  go_enter Tryz.func40, Tryz.ntmps40
  go_upto_region 1 with fail
  rw [← W1.out]
  generalize w.heap.size = g0 at *
  clear W1
  go_wp2_with fail
  refine IX.out.mono ?_
  rintro r w2 ⟨⟨v, rfl, hv⟩, hc⟩
  have HV := Lib.hid hv
  have C2 := Lib.hid (C.out.trans hc)
  clear hv hc IX
  go_wp2
  go_ret
  exact ⟨⟨v, rfl, HV.out⟩, C2.out⟩
end
end Go.Proofs.YtimdfpejgaidhaaGreatDoor
