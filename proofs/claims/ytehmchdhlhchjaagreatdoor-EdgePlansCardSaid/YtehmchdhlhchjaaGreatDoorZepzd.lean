/- Events gone through by slices.Values, and gathered anew. Events gathered and sorted by their dots. Closed's func, and the search by it. event.Closed. edge.Plan, Agreed. slices.Index, Contains of dots; Next's func. edge.from. edge.Next. The document's Next. Archives that are the same; boxes and events. -/
import Derived.Test.YtehmchdhlhchjaaGreatDoorZepq
import Derived.Test.YtehmchdhlhchjaaGreatDoorZepj
import Derived.Test.YtehmchdhlhchjaaGreatDoorZepzc
import Derived.Sort.CutIn
import Derived.Deep.Cut
import Derived.Test.YtehmchdhlhchjaaGreatDoorShelf4
import Derived.Test.YtehmchdhlhchjaaGreatDoorZepy
import Derived.Test.YtehmchdhlhchjaaGreatDoorZepd
import Derived.BigQuiet
import Derived.Test.YtehmchdhlhchjaaGreatDoorZepx
import Derived.Test.YtehmchdhlhchjaaGreatDoorZepzb
import Derived.Test.YtehmchdhlhchjaaGreatDoorZept
import Derived.Test.YtehmchdhlhchjaaGreatDoorZepb
set_option linter.unusedSimpArgs false
set_option linter.unusedVariables false
set_option maxHeartbeats 32000000
namespace Go.Proofs.YtehmchdhlhchjaaGreatDoor
section
open Go.RowKit Go.Lib

attribute [local go_sem] Oper.semAt_some
def evAgg (x : EvT) : Value := .agg #[.int .i64 x.n, .int .i64 x.s, .string x.p, .int .i64 x.k, .int .i64 x.m, .slice x.A x.l x.c, .slice x.B x.bl x.bc]
theorem valuesev_any (w : World) (A : Option Addr) (n c : Nat) : Calls Tryz.prog 34 #[.slice A n c] w fun e w' => e = .returned (.func (.func 69) #[] #[.pointer (some ⟨w.heap.size, 0, none⟩)]) ∧ w' = w.alloc (.cells #[.slice A n c] 22) := by
 go_enter Tryz.func34, Tryz.ntmps34
 go_wp2; go_ret
 exact ⟨rfl, rfl⟩
set_option maxRecDepth 100000 in
theorem valuesev1_gives (n l n₁ bs : Nat) (T : List Nat) (A : Option Addr) (c : Nat) (xs : List EvT)
  (J Jx : List EvT → World → Prop) (W : World) (hb : bs < n₁) (hT : bs ∉ T) (hn₁ : n₁ ≤ W.heap.size) (hA : xs = [] ∨ ∀ a, A = some a → a.block < n₁ ∧ a.block ∉ T)
  (hJ : ∀ pre A B, J pre A → Chg [] A B → J pre B) (hr : RdK evTy W A xs.length xs) (hn : xs.length ≤ 100000)
  (hs : W.heap[bs]? = some (.cells #[.slice A xs.length c] 22 (0, 0)))
  (hY : ∀ pre x W1, J pre W1 → (xs[pre.length]? = some x ∧ pre = xs.take pre.length) → YieldAt Fence.wide n Tryz.prog l #[evAgg x] W1 fun e W' => (e = .returned (.bool true) ∧ J (pre ++ [x]) W' ∧ Kpt n₁ T W1 W') ∨ (e = .returned (.bool false) ∧ Jx (pre ++ [x]) W'))
  (h0 : J [] W) :
  CallsIn Fence.wide (n + 1) Tryz.prog 69 #[.func (.yield l) #[] #[], .pointer (some ⟨bs, 0, none⟩)] W fun e W' => (∃ v, e = .returned v) ∧ ((∃ ys, ys = xs ∧ J ys W') ∨ ∃ ys, True ∧ Jx ys W') := by
 have h1 : 1 ≤ n + 1 := by omega
 have hro : Fence.wide.round = none := rfl
 have HS := h_ hs
 have HR := h_ hr
 have HN := h_ hn
 have HA := h_ hA
 have HB := h_ (And.intro hb (And.intro hT hn₁))
 have HJ := h_ hJ
 have HY := h_ hY
 have z0 := ce1 hs
 clear hs hr hn hA hb hT hn₁ hJ hY
 refine callsIn_of_wp Tryz.func69 rfl trivial ?_ hro
 simp only [Tryz.ntmps69, List.size_toArray, List.length_cons, List.length_nil, Nat.reduceAdd, Nat.reduceSub, Array.replicate_succ, Array.replicate_zero, List.push_toArray, List.append_toArray, List.nil_append, List.cons_append]
 gi_wp2
 clear z0
 gi_loopw [7] (fun v7 wr => ∃ (k : Nat), k ≤ xs.length ∧ v7 = .int .i64 (k : Int) ∧ Hid (J (xs.take k) wr) ∧ Hid (Kpt n₁ T W wr))
  (fun v7 _ => xs.length - (RowKit.intOf v7).toNat)
 case atStart => exact ⟨0, Nat.zero_le _, rfl, h_ h0, h_ (Kpt.refl _ _ _)⟩
 case round =>
  obtain ⟨k, hkl, rfl, JP, KP⟩ := hrel
  have k0 : (0 : Int) ≤ (k : Int) := by omega
  by_cases hlt : k < xs.length
  ·
   have k1 : (k : Int) < (xs.length : Int) := by omega
   have k3 : IntKind.i64.wrap ((k : Int) + 1) = (k : Int) + 1 := IntWalk.i64_in _ (by have := HN.out; omega)
   have RX := HR.out.kpt KP.out (HA.out.resolve_left (by intro q; rw [q] at hlt; simp at hlt))
   obtain ⟨g, o, eA, _⟩ := RX.line (by omega)
   subst eA
   obtain ⟨x, hx⟩ : ∃ x, xs[k]? = some x := ⟨_, List.getElem?_eq_getElem hlt⟩
   obtain ⟨q0, q1, q2, q3, q4, q5, q6⟩ := evCells RX hx
   obtain ⟨wb, hwb, cb, bb⟩ := news1 wr (.cells #[.int .i64 x.n, .int .i64 x.s, .string x.p, .int .i64 x.k, .int .i64 x.m, .slice x.A x.l x.c, .slice x.B x.bl x.bc] 40)
   have hlen : (xs.take k).length = k := by rw [List.length_take]; omega
   have hsn : xs.take k ++ [x] = xs.take (k + 1) := by rw [List.take_add_one, hx]; rfl
   have YY := h_ (HY.out (xs.take k) x wb (HJ.out _ _ _ JP.out cb) ⟨by rw [hlen]; exact hx, by rw [hlen]⟩)
   have WB := h_ hwb
   obtain ⟨y0, y1, y2, y3, y4, y5, y6⟩ := ce7 bb
   have SN := h_ hsn
   have KB : Hid (Kpt n₁ T W wb) := h_ (KP.out.trans (Kpt.of_chg (cb.mono (by simp)) (Nat.le_trans HB.out.2.2 KP.out.size)))
   clear hwb cb bb hsn hlen RX hx
   gi_upto_region 3 with fail
   rw [← WB.out]
   clear q0 q1 q2 q3 q4 q5 q6
   obtain ⟨gb, hgb⟩ : ∃ g, wr.heap.size = g := ⟨_, rfl⟩
   rw [hgb] at y0 y1 y2 y3 y4 y5 y6 ⊢
   obtain ⟨fn, tmps, assign, body, hy, hR⟩ := YY.out
   unfold evAgg at hy
   gi_wp2
   refine hR.mono ?_
   rintro e W3 (⟨rfl, hJ3, hk3⟩ | ⟨rfl, hj3⟩)
   ·
    have J3 := h_ hJ3
    have K3 := h_ (KB.out.trans hk3)
    rw [SN.out] at J3
    clear hJ3 hk3 hR hy y0 y1 y2 y3 y4 y5 y6
    gi_wp2
    go_roundw
    case rel => exact ⟨k + 1, by omega, by first | rfl | simp, J3, K3⟩
    case measure => simp [RowKit.intOf]; omega
   ·
    have J3 := h_ hj3
    clear hj3 hR hy y0 y1 y2 y3 y4 y5 y6
    gi_wp2
    refine bodyPost_ret (results_none rfl _ _ _) rfl ?_
    exact ⟨⟨_, rfl⟩, .inr ⟨_, trivial, J3.out⟩⟩
  ·
   obtain rfl : k = xs.length := by omega
   have k1 : ¬ (xs.length : Int) < (xs.length : Int) := by omega
   have ET : Hid (xs.take xs.length = xs) := h_ List.take_length
   gi_wp2
   go_end0
   have JX := JP.out
   rw [ET.out] at JX
   first | exact ⟨⟨_, rfl⟩, .inl ⟨xs, rfl, JX⟩⟩ | exact ⟨⟨_, rfl⟩, .inl JX⟩
set_option maxRecDepth 100000 in
theorem appendseq_any (w : World) (bs : Nat) (A : Option Addr) (c : Nat) (xs : List EvT) (h : RdK evTy w A xs.length xs) (ho : xs = [] ∨ ∀ a, A = some a → a.block < w.heap.size) (hn : xs.length ≤ 100000) (hs : w.heap[bs]? = some (.cells #[.slice A xs.length c] 22 (0, 0))) :
  Calls Tryz.prog 117 #[.slice none 0 0, .func (.func 69) #[] #[.pointer (some ⟨bs, 0, none⟩)]] w fun e w' => ∃ B d, e = .returned (.slice B xs.length d) ∧ OwnK evTy w' B d xs ∧ (∀ a, B = some a → w.heap.size ≤ a.block) ∧ Chg [] w w' := by
 have LB := h_ (lt_of_heap hs)
 have HS := h_ hs
 have HR := h_ h
 have HO := h_ ho
 have HN := h_ hn
 clear hs h ho hn
 refine (callsIn_wide (n := 5)).1 ?_
 refine callsIn_of_wp_marks Tryz.func117 rfl trivial ?_ rfl
 simp only [Tryz.ntmps117, List.size_toArray, List.length_cons, List.length_nil, Nat.reduceAdd, Nat.reduceSub, Array.replicate_succ, Array.replicate_zero, List.push_toArray, List.append_toArray, List.nil_append, List.cons_append]
 obtain ⟨V, hV, CV, b0⟩ := news1 w (.cells #[.slice none 0 0] 22)
 have hsV : V.heap.size = w.heap.size + 1 := by rw [hV]; simp
 have HV := h_ hV
 clear hV
 gi_wp2
 rw [← HV.out]
 have lb := LB.out
 refine range_boundx (gf := 69) (bd := #[]) (lb := #[.pointer (some ⟨bs, 0, none⟩)]) rfl (enters_of Tryz.func69 (by kernel_rfl) rfl) (encs := fun x : EvT => #[evAgg x]) (n₁ := V.heap.size) (Nat.le_refl _)
  (S := fun ys => ys = xs) (Sp := fun _ => True) (Ex := fun pre x _ => xs[pre.length]? = some x ∧ pre = xs.take pre.length) (Bd := fun _ => True) (Si := []) (T := [w.heap.size]) ?si ?seq (fun _ => rfl)
  (fun pre W => (∃ B d, W.heap[w.heap.size]? = some (.cells #[.slice B pre.length d] 22 (0, 0)) ∧ OwnK evTy W B d pre ∧ ∀ a, B = some a → V.heap.size ≤ a.block) ∧ Chg [] w W ∧ V.heap.size ≤ W.heap.size)
  (fun _ _ _ => False) ?keep ?keepx ?kl ?kxl ?bd ⟨⟨none, 0, b0, OwnK.none_ _, by simp⟩, CV, Nat.le_refl _⟩ ?elem ?elemA
  (fun x => .cells #[.int .i64 x.n, .int .i64 x.s, .string x.p, .int .i64 x.k, .int .i64 x.m, .slice x.A x.l x.c, .slice x.B x.bl x.bc] 40) (fun _ => rfl)
  (fun x nb => { tmps := #[.slice none 0 0, .func (.func 69) #[] #[.pointer (some ⟨bs, 0, none⟩)], .pointer (some ⟨w.heap.size, 0, none⟩), undef, .slice none 0 0, .pointer (some ⟨nb, 0, none⟩), .func (.func 69) #[] #[.pointer (some ⟨bs, 0, none⟩)], evAgg x, undef, undef, undef, undef, undef], defers := [] }) ?assign ?body ?done ?stop
 case si => intro x hx; simp at hx
 case seq =>
  intro l' J Jx W hW hJ hJx hJb hY h0
  have hs2 := hW.size
  refine (valuesev1_gives 3 l' V.heap.size bs [w.heap.size] A c xs J Jx W (by omega) (by simp; omega) hs2 (HO.out.imp id (fun q a ha => by have := q a ha; refine ⟨by omega, by simp; omega⟩)) hJ ((HR.out.chg CV (by simp)).chg (Chg.ofBelow hW (Nat.le_refl _) []) (by simp)) HN.out ((hW.block _ (by omega)).trans (CV.at_ HS.out (by simp))) hY h0)
 case keep =>
  rintro pre A' B' ⟨⟨B, d, e1, hO, hB⟩, hC, hz⟩ hb
  exact ⟨⟨B, d, hb.at_ e1 (by simp), hO.chg hb (by simp), hB⟩, hC.trans hb, Nat.le_trans hz hb.size⟩
 case keepx => rintro c pre A B h; exact h.elim
 case kl =>
  rintro pre W l o o' hl ho hll ⟨⟨B, d, e1, hO, hB⟩, hC, hz⟩
  exact ⟨⟨B, d, (World.putObj_heap_other (by omega)).trans e1, hO.putl hl ho, hB⟩, hC.putl (by omega), by simpa [World.putObj] using hz⟩
 case kxl => rintro c pre W l o o' hl ho hll h; exact h.elim
 case bd => exact fun _ _ _ => trivial
 case elem => rintro pre x W l o o' hl ho hx; exact hx
 case elemA => rintro pre x W o hx; exact hx
 case assign =>
  intro l x W K hK
  clear hsV lb
  unfold evAgg at *
  gi_wp2
  exact hK
 case body =>
  rintro l' nb pre x W hnb hbx ⟨⟨B, d, e1, hO, hB⟩, hC, hz⟩ ⟨hx, hpre⟩
  have hlen : pre.length < xs.length := (List.getElem?_eq_some_iff.1 hx).1
  obtain ⟨W1, hW1, CW1, bW1⟩ := news1 W (.cells #[.int .i64 x.n, .int .i64 x.s, .string x.p, .int .i64 x.k, .int .i64 x.m, .slice x.A x.l x.c, .slice x.B x.bl x.bc] 40)
  have HW := h_ hW1
  have R1 := h_ (rd_oneEc (X := x) bW1)
  have O1 := h_ (hO.chg CW1 (by simp))
  have F1 := h_ (CW1.at_ e1 (by simp))
  have KW := h_ (show KeepsOthers W W1 by rw [hW1]; exact KeepsOthers.alloc1 _ _)
  have CC := h_ CW1
  have HC := h_ hC
  have N1 := h_ (show (pre.length + 1) * 400 ≤ 140737488355327 by have := HN.out; omega)
  have HZ := h_ hz
  have HBB := h_ hB
  have HSV := h_ hsV
  have y0 := ce1 e1
  obtain ⟨x0, x1, x2, x3, x4, x5, x6⟩ := ce7 hbx
  clear hW1 CW1 bW1 hO e1 hC hz hB hsV lb hlen hpre hx hbx
  gi_wp2_with (gi_at_builtin; rw [← HW.out]; refine wpListIn_appK (R := evTy) rfl _ _ rfl rfl O1.out rfl rfl R1.out N1.out ?_; intro B2 d2 W2 o2 g2 e2; have q2 := grown_at g2 F1.out (fun a ha => by have := HBB.out a ha; have := HSV.out; omega); have k2 := cell_of q2 0; have f2 := free_of q2 0; simp only [gA, gZ] at k2; have Q2 := h_ q2; have O2 := h_ o2; have G2 := h_ g2; have E2 := h_ e2; clear q2 o2 g2 e2)
  have hsv := HSV.out
  have hw2 : W.heap.size ≤ W2.heap.size := Nat.le_trans CC.out.size G2.out.size
  have hB2 : ∀ a, B2 = some a → V.heap.size ≤ a.block := by
   rintro a rfl
   rcases E2.out with e | e
   ·
    exact HBB.out a e.symm
   ·
    cases e; have := HZ.out; have := CC.out.size; show _ ≤ W1.heap.size; omega
  have rowk : ∀ k, B.map (·.block) = some k → V.heap.size ≤ k := fun k hk => by
   cases B with
   | none => cases hk
   | some a => simp at hk; have := HBB.out a rfl; omega
  have st := (Chg.refl [w.heap.size] W2).setCell (p := ⟨w.heap.size, 0, none⟩) (.inl (by simp)) (.slice B2 (pre.length + 1) d2)
  have KP : Kpt V.heap.size [w.heap.size] W (W2.setCell ⟨w.heap.size, 0, none⟩ (.slice B2 (pre.length + 1) d2)) := ((Kpt.of_chg (T := [w.heap.size]) (CC.out.mono (by simp)) HZ.out).trans (Kpt.grown G2.out (Nat.le_trans HZ.out CC.out.size) (fun k hk => .inl (rowk k hk)))).trans (Kpt.of_chg st (Nat.le_trans HZ.out hw2))
  refine ⟨(KW.out.trans (KeepsOthers.grown G2.out O1.out.cells)).trans (KeepsOthers.setCell _ _ _), KP, ⟨B2, d2, ?_, ?_, hB2⟩, ?_, Nat.le_trans HZ.out KP.size⟩
  ·
   have := heap_setCell_same W2 w.heap.size 0 _ _ (.slice B2 (pre.length + 1) d2) Q2.out
   simpa using this
  ·
   exact O2.out.chg st (fun a ha => by have := hB2 a ha; simp; omega)
  ·
   exact HC.out.trans' (show Chg (w.heap.size :: blkOf B) W _ from ((CC.out.mono (by simp)).grown G2.out (fun k hk => .inl (by
    cases B with
    | none => cases hk
    | some a => simp at hk; subst hk; simp [blkOf]))).setCell (.inl (by simp)) _) (fun z hz => by
     rcases List.mem_cons.1 hz with rfl | q
     ·
      exact .inr (Nat.le_refl _)
     ·
      obtain ⟨y, hy, rfl⟩ := of_blkOf q
      have := HBB.out y hy
      exact .inr (by omega))
 case done =>
  rintro D ys W hD hS ⟨⟨B, d, e1, hO, hB⟩, hC, hz⟩ hK
  have HSW := h_ hS
  have HO2 := h_ hO
  have HBB := h_ hB
  have HC := h_ hC
  have HSV := h_ hsV
  have k1 := ce1 e1
  clear hS e1 hO hB hC hz hsV lb
  gi_wp2
  refine ⟨by simp, .inl ⟨_, _, rfl, run_takeDeferred hK, ?_⟩⟩
  refine ⟨_, results_tmp rfl _ _ _, B, d, ?_, ?_, fun a ha => ?_, HC.out.putl ?_⟩
  ·
   rw [HSW.out]; rfl
  ·
   rw [← HSW.out]; exact HO2.out.putl hK rfl
  ·
   have := HBB.out a ha; have := HSV.out; omega
  ·
   have := HSV.out; omega
 case stop => rintro D c xs V _ _ h; exact h.elim
theorem collect_any (w : World) (bs : Nat) (A : Option Addr) (c : Nat) (xs : List EvT) (h : RdK evTy w A xs.length xs) (ho : xs = [] ∨ ∀ a, A = some a → a.block < w.heap.size) (hn : xs.length ≤ 100000) (hs : w.heap[bs]? = some (.cells #[.slice A xs.length c] 22 (0, 0))) :
  Calls Tryz.prog 68 #[.func (.func 69) #[] #[.pointer (some ⟨bs, 0, none⟩)]] w fun e w' => ∃ B d, e = .returned (.slice B xs.length d) ∧ OwnK evTy w' B d xs ∧ (∀ a, B = some a → w.heap.size ≤ a.block) ∧ Chg [] w w' := by
 have AP := h_ (appendseq_any w bs A c xs h ho hn hs)
 clear h ho hn hs
 go_enter Tryz.func68, Tryz.ntmps68
 go_wp2_with fail
 refine AP.out.mono ?_
 rintro e w1 ⟨B, d, rfl, a, b, cc⟩
 have P := h_ (And.intro a (And.intro b cc))
 clear a b cc AP; go_wp2; go_ret
 exact ⟨B, d, rfl, P.out⟩
end
section
open Go.RowKit Go.Lib

set_option maxRecDepth 100000 in
theorem edcmp_says : CmpSays evTy 36 cmpEv := fun w x y => by
 show Calls Tryz.prog 36 #[.agg #[.int .i64 x.n, .int .i64 x.s, .string x.p, .int .i64 x.k, .int .i64 x.m, .slice x.A x.l x.c, .slice x.B x.bl x.bc], .agg #[.int .i64 y.n, .int .i64 y.s, .string y.p, .int .i64 y.k, .int .i64 y.m, .slice y.A y.l y.c, .slice y.B y.bl y.bc]] w fun e w' => e = .returned (.int .i64 (cmpD x.n x.s y.n y.s)) ∧ Gr w w'
 obtain ⟨w0, hw0, c0, b0, b1⟩ := gr2 w (.cells #[.int .i64 x.n, .int .i64 x.s, .string x.p, .int .i64 x.k, .int .i64 x.m, .slice x.A x.l x.c, .slice x.B x.bl x.bc] 40) (.cells #[.int .i64 y.n, .int .i64 y.s, .string y.p, .int .i64 y.k, .int .i64 y.m, .slice y.A y.l y.c, .slice y.B y.bl y.bc] 40)
 have W0 := h_ hw0
 have G := h_ c0
 obtain ⟨k0, k1, k2, k3, k4, k5, k6⟩ := ce7 b0
 obtain ⟨d0, d1, d2, d3, d4, d5, d6⟩ := ce7 b1
 clear hw0 c0 b0 b1
 go_enter Tryz.func36, Tryz.ntmps36
 go_upto_region 1 with fail
 rw [← W0.out]
 generalize w.heap.size + 1 = s1 at *
 generalize w.heap.size = s0 at *
 go_wp2_with fail
 refine (orderof_gr _ _ _ _ _).mono ?_
 rintro e w1 ⟨rfl, c1⟩
 replace G := h_ (G.out.trans c1)
 clear c1 k0 k1 k2 k3 k4 k5 k6 d0 d1 d2 d3 d4 d5 d6; go_wp2; go_ret
 exact ⟨rfl, G.out⟩
set_option maxRecDepth 100000 in
theorem sortedfunc_any (w : World) (bs : Nat) (A : Option Addr) (c : Nat) (xs : List EvT) (h : RdK evTy w A xs.length xs) (ho : xs = [] ∨ ∀ a, A = some a → a.block < w.heap.size) (hn : xs.length ≤ 100000) (hs : w.heap[bs]? = some (.cells #[.slice A xs.length c] 22 (0, 0))) :
  Calls Tryz.prog 33 #[.func (.func 69) #[] #[.pointer (some ⟨bs, 0, none⟩)], .func (.func 36) #[] #[]] w fun e w' => ∃ B d ys, e = .returned (.slice B ys.length d) ∧ ys.Perm xs ∧ ys.Pairwise (fun x y => ltOf cmpEv y x = false) ∧ OwnK evTy w' B d ys ∧ (∀ a, B = some a → w.heap.size ≤ a.block) ∧ Chg [] w w' := by
 have CO := h_ (collect_any w bs A c xs h ho hn hs)
 have HN := h_ hn
 clear h ho hn hs
 go_enter Tryz.func33, Tryz.ntmps33
 go_wp2_with fail
 refine CO.out.mono ?_
 rintro e w1 ⟨B, d, rfl, o1, n1, h1⟩
 have O1 := h_ o1
 have N1 := h_ n1
 have C1 := h_ h1
 clear o1 n1 h1 CO; go_wp2_with fail
 refine (sortp_any (R := evTy) Tryz.llLaysE06 Tryz.isAgg40 Tryz.sizeOf40 cmpEv swoEv 36 (enters_of Tryz.func36 (by kernel_rfl) rfl) edcmp_says w1 B d xs O1.out (by have := HN.out; omega)).mono ?_
 rintro r w3 ⟨rfl, ms, hp, hs, o2, h2⟩
 have P := h_ (And.intro hp (And.intro hs o2))
 have C2 := h_ (C1.out.trans' h2 fun i hi => .inr (blkOf_new N1.out i hi))
 have ML : xs.length = ms.length := hp.length_eq.symm
 rw [ML]
 clear hp hs o2 h2 O1 ML; go_wp2; go_ret
 exact ⟨B, d, ms, rfl, P.out.1, P.out.2.1, P.out.2.2, N1.out, C2.out⟩
end
section
open Go.RowKit Go.Lib


theorem OwnEs.perm {w : World} {lo hi : Nat} {G G' : Option Addr} {zs ys : List EvT} {es : List EvP} (h : OwnEs w lo hi G zs es) (hp : ys.Perm zs) (hG : ∀ b, G' = some b → hi ≤ b.block) : ∃ fs, fs.Perm es ∧ OwnEs w lo hi G' ys fs := by
 obtain ⟨fs, hl, hz⟩ := perm_zip hp es h.ev.1.symm
 have hm : ys.length = zs.length := hp.length_eq
 have at2 : ∀ (i : Nat) (x : EvT) (e : EvP), ys[i]? = some x → fs[i]? = some e → ∃ j, zs[j]? = some x ∧ es[j]? = some e := fun i x e hx he => by
  have hi : (x, e) ∈ ys.zip fs := List.mem_of_getElem? (i := i) (by rw [List.getElem?_zip_eq_some]; exact ⟨hx, he⟩)
  obtain ⟨j, hj⟩ := List.getElem?_of_mem (hz.mem_iff.1 hi)
  rw [List.getElem?_zip_eq_some] at hj
  exact ⟨j, hj.1, hj.2⟩
 refine ⟨fs, ?_, ⟨hl.symm, fun i x e hx he => ?_⟩, fun i x e hx he => ?_, fun y hy a ha => ?_, fun y hy => h.two y (hp.mem_iff.1 hy), (hp.pairwise_iff (fun {a b} q c d hc hd r => q d c hd hc r.symm)).2 h.apart⟩
 ·
  have := hz.map Prod.snd
  rwa [List.map_snd_zip (by omega), List.map_snd_zip (by rw [h.ev.1]; exact Nat.le_refl _)] at this
 ·
  obtain ⟨j, a, b⟩ := at2 i x e hx he
  exact h.ev.2 j x e a b
 ·
  obtain ⟨j, a, b⟩ := at2 i x e hx he
  exact h.own j x e a b
 ·
  obtain ⟨a1, a2, a3⟩ := h.at_ y (hp.mem_iff.1 hy) a ha
  exact ⟨a1, a2, fun b hb q => by have := hG b hb; omega⟩
theorem sorted_fs {w : World} {ys : List EvT} {fs l : List EvP} (h : EvsR w ys fs) (hd : l.Pairwise dotNe) (hp : fs.Perm l) (hs : ys.Pairwise (fun x y => ltOf cmpEv y x = false)) : fs = byDt l := by
 refine byDt_is hd hp ?_
 rw [List.pairwise_iff_getElem] at hs ⊢
 intro i j hi hj hij
 have hl := h.1
 have q := hs i j (by omega) (by omega) hij
 have r1 := h.2 i _ _ (List.getElem?_eq_getElem (show i < ys.length by omega)) (List.getElem?_eq_getElem hi)
 have r2 := h.2 j _ _ (List.getElem?_eq_getElem (show j < ys.length by omega)) (List.getElem?_eq_getElem hj)
 rw [ltEv, decide_eq_false_iff_not] at q
 unfold LtEv
 rw [← r1.n, ← r1.s, ← r2.n, ← r2.s]
 exact q

set_option maxRecDepth 100000 in
theorem edplan_any (w : World) (A : Option Addr) (c : Nat) (xs : List EvT) (es : List EvP) (n : Int) (B : Option Addr) (bc : Nat) (ks : List Sp) (h : RdK evTy w A xs.length xs) (hc : xs.length ≤ c) (ho : xs = [] ∨ ∀ a, A = some a → a.block < w.heap.size) (hx : EvsR w xs es) (hn : xs.length ≤ 1000) (hs : ∀ e ∈ es, EvSm e ∧ e.q.length ≤ 100000) (hk : RdK spanTy w B ks.length ks) (hkn : ks.length ≤ 140737488351232) :
  Calls Tryz.prog 9 #[.slice A xs.length c, .agg #[.int .i64 n, .slice B ks.length bc]] w fun r w' => ∃ (A' : Option Addr) (c' : Nat) (zs : List EvT), r = .returned (.slice A' zs.length c') ∧ EsF w' w.heap.size w'.heap.size A' c' zs (planA es n ks) ∧ Chg [] w w' := by
 obtain ⟨w1, hw1, c1, b1⟩ := news1 w (.cells #[.int .i64 n, .slice B ks.length bc] 25)
 have W1 := h_ hw1
 have C1 := h_ c1
 have B1 := h_ b1
 have CK := h_ (stcheck_any w1 A c xs es (h.chg c1 (by simp)) hc (ho.imp id (fun q a ha => Nat.lt_of_lt_of_le (q a ha) c1.size)) (hx.chg c1) (by omega) (fun e he => (hs e he).1))
 have EC : Hid (∀ w', Chg [] w1 w' → Calls Tryz.prog 32 #[.agg #[.int .i64 n, .slice B ks.length bc]] w' fun r w2 => r = .returned (.int .i64 (chkA n ks)) ∧ Chg [] w' w2) := h_ (fun w' hc => edcheck_any w' n B ks.length bc ks (hk.chg (c1.trans hc) (by simp)) hkn)
 have MI : Hid (∀ w', Chg [] w1 w' → Calls Tryz.prog 35 #[.slice A xs.length c, .slice B ks.length bc] w' fun r w2 => ∃ (A' : Option Addr) (c' : Nat) (zs : List EvT), r = .returned (.slice A' zs.length c') ∧ EsF w2 w'.heap.size w2.heap.size A' c' zs (es.filter (fun e => !hasE ks e.n e.s)) ∧ Chg [] w' w2) := h_ (fun w' hc => stmissing_any w' A c xs es B bc ks ((h.chg c1 (by simp)).chg hc (by simp)) ((hx.chg c1).chg hc) (by omega) (hk.chg (c1.trans hc) (by simp)) hkn hs)
 have HN := h_ (show es.length ≤ 1000 by rw [← hx.1]; exact hn)
 clear hw1 c1 b1 h hc ho hx hn hs hk hkn
 obtain ⟨R, hR⟩ : ∃ R, planA es n ks = R := ⟨_, rfl⟩
 rw [hR]
 have HR := h_ hR
 clear hR
 go_enter Tryz.func9, Tryz.ntmps9
 go_upto_region 1 with fail
 rw [← W1.out]
 obtain ⟨g1, hg1⟩ : ∃ g, w.heap.size = g := ⟨_, rfl⟩
 have HG := h_ hg1
 rw [hg1] at B1 ⊢
 clear hg1; go_wp2_with fail
 refine CK.out.mono ?_
 rintro r w2 ⟨rfl, hc⟩
 have D2 := h_ hc
 replace B1 := h_ (hc.at_ B1.out (by simp))
 clear hc CK
 have NO : Hid (¬ (StOk es ∧ chkA n ks = 0) → R = []) := h_ (fun q => by rw [← HR.out]; unfold planA; rw [if_neg q])
 rcases stE_two es with e1 | e1
 rotate_left
 ·
  obtain rfl : R = [] := NO.out (fun q => by rw [stE_zero.2 q.1] at e1; cases e1)
  rw [e1]
  clear e1 HR NO; go_wp2; go_ret
  exact ⟨none, 0, [], rfl, EsF.nil _ _ _, C1.out.trans D2.out⟩
 have S1 := h_ (stE_zero.1 e1)
 rw [e1]
 clear e1
 obtain ⟨y0, y1⟩ := ce2 B1.out
 go_wp2_with fail
 refine (EC.out w2 D2.out).mono ?_
 rintro r w3 ⟨rfl, hc⟩
 have D3 := h_ (D2.out.trans hc)
 replace B1 := h_ (hc.at_ B1.out (by simp))
 clear hc EC y0 y1
 rcases chkA_two n ks with e1 | e1
 rotate_left
 ·
  obtain rfl : R = [] := NO.out (fun q => by rw [q.2] at e1; cases e1)
  rw [e1]
  clear e1 HR NO; go_wp2; go_ret
  exact ⟨none, 0, [], rfl, EsF.nil _ _ _, C1.out.trans D3.out⟩
 have YES : Hid (R = byDt (es.filter (fun e => !hasE ks e.n e.s))) := h_ (by rw [← HR.out]; unfold planA; rw [if_pos ⟨S1.out, e1⟩])
 rw [e1]
 clear e1 HR NO
 obtain ⟨y0, y1⟩ := ce2 B1.out
 go_wp2_with fail
 refine (MI.out w3 D3.out).mono ?_
 rintro r w4 ⟨A4, c4, zs, rfl, he, hc⟩
 have E4 := h_ he
 have D4 := h_ (D3.out.trans hc)
 have SZ : Hid (zs.length ≤ 1000) := h_ (by rw [he.all.ev.1]; exact Nat.le_trans (List.length_filter_le _ _) HN.out)
 have S34 := h_ hc.size
 clear he hc MI y0 y1; go_wp2_with fail
 refine (valuesev_any w4 A4 zs.length c4).mono ?_
 rintro r w5 ⟨rfl, hw5⟩
 have D45 : Chg [] w4 w5 := by rw [hw5]; exact (Chg.refl [] w4).alloc _
 have b5 : w5.heap[w4.heap.size]? = some (.cells #[.slice A4 zs.length c4] 22 (0, 0)) := by rw [hw5]; exact heap_alloc_new w4 _
 have SF := h_ (sortedfunc_any w5 w4.heap.size A4 c4 zs (E4.out.row.reads.chg D45 (by simp)) (.inr (fun a ha => by have := E4.out.row.lt_ a ha; have := D45.size; omega)) (by have := SZ.out; omega) b5)
 have E5 := h_ (E4.out.chg D45 (by simp))
 have D5 := h_ (D4.out.trans D45)
 have S45 := h_ D45.size
 clear hw5 D45 b5 D4; go_wp2_with fail
 refine SF.out.mono ?_
 rintro r w6 ⟨A6, c6, ys, rfl, hp, hs, ho, hnw, hc⟩
 have D6 := h_ (D5.out.trans hc)
 obtain ⟨fs, fp, of_⟩ := (E5.out.all.chg hc (by simp)).perm (G' := A6) hp (fun b hb => by have := hnw b hb; have := S45.out; omega)
 have EQ : Hid (R = fs) := h_ (by
  rw [YES.out]
  exact (sorted_fs of_.ev (S1.out.2.1.sublist List.filter_sublist) fp hs).symm)
 have LO : Hid (w.heap.size ≤ w3.heap.size) := h_ (C1.out.trans D3.out).size
 have F6 : Hid (EsF w6 w.heap.size w6.heap.size A6 c6 ys R) := h_ (by
  rw [EQ.out]
  have s5 := hc.size
  exact ⟨ho, fun a ha => ⟨by have := hnw a ha; have := LO.out; have := S34.out; have := S45.out; omega, ho.lt_ a ha⟩, (of_.low LO.out).mono (by have := S45.out; omega)⟩)
 clear hp hs ho hnw hc fp of_ SF E5 D5 E4 EQ YES; go_wp2; go_ret
 exact ⟨A6, c6, ys, rfl, F6.out, C1.out.trans D6.out⟩

set_option maxRecDepth 100000 in
theorem edagreed_any (w : World) (A : Option Addr) (c : Nat) (xs : List EvT) (es : List EvP) (n : Int) (B : Option Addr) (bc : Nat) (ks : List Sp) (h : RdK evTy w A xs.length xs) (hc : xs.length ≤ c) (ho : xs = [] ∨ ∀ a, A = some a → a.block < w.heap.size) (hx : EvsR w xs es) (hn : xs.length ≤ 1000) (hs : ∀ e ∈ es, EvSm e ∧ e.q.length ≤ 100000) (hk : RdK spanTy w B ks.length ks) (hkn : ks.length ≤ 140737488351232) :
  Calls Tryz.prog 17 #[.slice A xs.length c, .agg #[.int .i64 n, .slice B ks.length bc]] w fun r w' => r = .returned (.bool (agreedA es n ks)) ∧ Chg [] w w' := by
 obtain ⟨w1, hw1, c1, b1⟩ := news1 w (.cells #[.int .i64 n, .slice B ks.length bc] 25)
 have W1 := h_ hw1
 have C1 := h_ c1
 have B1 := h_ b1
 have CK := h_ (stcheck_any w1 A c xs es (h.chg c1 (by simp)) hc (ho.imp id (fun q a ha => Nat.lt_of_lt_of_le (q a ha) c1.size)) (hx.chg c1) (by omega) (fun e he => (hs e he).1))
 have EC : Hid (∀ w', Chg [] w1 w' → Calls Tryz.prog 32 #[.agg #[.int .i64 n, .slice B ks.length bc]] w' fun r w2 => r = .returned (.int .i64 (chkA n ks)) ∧ Chg [] w' w2) := h_ (fun w' hc => edcheck_any w' n B ks.length bc ks (hk.chg (c1.trans hc) (by simp)) hkn)
 have MI : Hid (∀ w', Chg [] w1 w' → Calls Tryz.prog 35 #[.slice A xs.length c, .slice B ks.length bc] w' fun r w2 => ∃ (A' : Option Addr) (c' : Nat) (zs : List EvT), r = .returned (.slice A' zs.length c') ∧ EsF w2 w'.heap.size w2.heap.size A' c' zs (es.filter (fun e => !hasE ks e.n e.s)) ∧ Chg [] w' w2) := h_ (fun w' hc => stmissing_any w' A c xs es B bc ks ((h.chg c1 (by simp)).chg hc (by simp)) ((hx.chg c1).chg hc) (by omega) (hk.chg (c1.trans hc) (by simp)) hkn hs)
 have HN := h_ (show es.length ≤ 1000 by rw [← hx.1]; exact hn)
 clear hw1 c1 b1 h hc ho hx hn hs hk hkn
 obtain ⟨R, hR⟩ : ∃ R, agreedA es n ks = R := ⟨_, rfl⟩
 rw [hR]
 have HR := h_ hR
 clear hR
 go_enter Tryz.func17, Tryz.ntmps17
 go_upto_region 1 with fail
 rw [← W1.out]
 obtain ⟨g1, hg1⟩ : ∃ g, w.heap.size = g := ⟨_, rfl⟩
 rw [hg1] at B1 ⊢
 clear hg1; go_wp2_with fail
 refine CK.out.mono ?_
 rintro r w2 ⟨rfl, hc⟩
 have D2 := h_ hc
 replace B1 := h_ (hc.at_ B1.out (by simp))
 clear hc CK
 have NO : Hid (¬ (StOk es ∧ chkA n ks = 0) → R = false) := h_ (fun q => by
  rw [← HR.out]
  unfold agreedA
  by_cases s : StOk es
  ·
   rw [decide_eq_false (fun r => q ⟨s, r⟩)]; simp
  ·
   rw [decide_eq_false s]; rfl)
 rcases stE_two es with e1 | e1
 rotate_left
 ·
  obtain rfl : R = false := NO.out (fun q => by rw [stE_zero.2 q.1] at e1; cases e1)
  rw [e1]
  clear e1 HR NO; go_wp2; go_ret
  exact ⟨rfl, C1.out.trans D2.out⟩
 have S1 := h_ (stE_zero.1 e1)
 rw [e1]
 clear e1
 obtain ⟨y0, y1⟩ := ce2 B1.out
 go_wp2_with fail
 refine (EC.out w2 D2.out).mono ?_
 rintro r w3 ⟨rfl, hc⟩
 have D3 := h_ (D2.out.trans hc)
 replace B1 := h_ (hc.at_ B1.out (by simp))
 clear hc EC y0 y1
 rcases chkA_two n ks with e1 | e1
 rotate_left
 ·
  obtain rfl : R = false := NO.out (fun q => by rw [q.2] at e1; cases e1)
  rw [e1]
  clear e1 HR NO; go_wp2; go_ret
  exact ⟨rfl, C1.out.trans D3.out⟩
 have YES : Hid (R = (es.filter (fun e => !hasE ks e.n e.s)).isEmpty) := h_ (by rw [← HR.out]; unfold agreedA; rw [decide_eq_true S1.out, decide_eq_true e1]; rfl)
 rw [e1]
 clear e1 HR NO
 obtain ⟨y0, y1⟩ := ce2 B1.out
 go_wp2_with fail
 refine (MI.out w3 D3.out).mono ?_
 rintro r w4 ⟨A4, c4, zs, rfl, he, hc⟩
 have D4 := h_ (D3.out.trans hc)
 have ZL : Hid (decide (zs.length = 0) = R) := h_ (by
  rw [YES.out, he.all.ev.1]
  cases es.filter (fun e => !hasE ks e.n e.s) <;> simp)
 clear he hc MI y0 y1 YES
 by_cases hz : zs.length = 0
 ·
  obtain rfl : R = true := by rw [← ZL.out, hz]; rfl
  rw [hz]
  clear hz ZL; go_wp2; go_ret
  exact ⟨rfl, C1.out.trans D4.out⟩
 ·
  obtain rfl : R = false := by rw [← ZL.out]; exact decide_eq_false hz
  have q0 : (((zs.length : Int)) == 0) = false := beq_eq_false_iff_ne.2 (by omega)
  have q1 : ¬ (zs.length : Int) = 0 := by omega
  clear ZL; go_wp2; go_ret
  exact ⟨rfl, C1.out.trans D4.out⟩
end
section
open Go.RowKit Go.Lib


set_option maxRecDepth 100000 in
theorem edidxdot_any (w : World) (A : Option Addr) (c : Nat) (ds : List (Int × Int)) (n s : Int) (h : RdK dotTy w A ds.length ds) (hn : ds.length ≤ 100000) :
  Calls Tryz.prog 83 #[.slice A ds.length c, .agg #[.int .i64 n, .int .i64 s]] w fun e w' => (∃ k : Int, e = .returned (.int .i64 k) ∧ (0 ≤ k ↔ (n, s) ∈ ds)) ∧ Chg [] w w' := by
 obtain ⟨w1, hw1, c1, b1⟩ := news1 w (.cells #[.int .i64 n, .int .i64 s] 35)
 have W1 := h_ hw1
 have B1 := h_ b1
 have C1 := h_ c1
 have HA := h_ h
 have HN := h_ hn
 clear hw1 b1 c1 h hn
 go_enter Tryz.func83, Tryz.ntmps83
 go_upto_region 1 with fail
 rw [← W1.out]
 obtain ⟨g1, hg1⟩ : ∃ g, w.heap.size = g := ⟨_, rfl⟩
 rw [hg1] at B1 ⊢
 clear hg1; go_wp2
 go_loopw [8, 5] (fun v8 v5 wr => ∃ k : Nat, k ≤ ds.length ∧ v8 = .int .i64 (k : Int) ∧ Hid ((n, s) ∉ ds.take k) ∧ Hid (Chg [] w1 wr)) (fun v8 _ _ => ds.length - (RowKit.intOf v8).toNat)
 case atStart => exact ⟨0, Nat.zero_le _, rfl, h_ (by simp), h_ (Chg.refl [] _)⟩
 case round =>
  obtain ⟨k, hk, rfl, HC, PC⟩ := hrel
  have k1 : IntKind.i64.wrap ((k : Int) + 1) = (k : Int) + 1 := IntWalk.i64_in _ (by have := HN.out; omega)
  have i0 : (0 : Int) ≤ (k : Int) := by omega
  by_cases hlt : k < ds.length
  ·
   have i1 : (k : Int) < (ds.length : Int) := by omega
   obtain ⟨g, o, eA, _⟩ := HA.out.line (by omega)
   subst eA
   obtain ⟨x, ex⟩ : ∃ x, ds[k]? = some x := ⟨_, List.getElem?_eq_getElem hlt⟩
   obtain ⟨z0, z1⟩ := dotCells (HA.out.chg (C1.out.trans PC.out) (by simp)) ex
   obtain ⟨y0, y1⟩ := ce2 (PC.out.at_ B1.out (by simp))
   have EX := h_ ex
   have HK := h_ hlt
   clear ex
   have fin : ((n, s) = x → ((0 : Int) ≤ (k : Int) ↔ (n, s) ∈ ds)) ∧ ((n, s) ≠ x → (n, s) ∉ ds.take (k + 1)) := by
    refine ⟨fun q => ⟨fun _ => q ▸ List.mem_of_getElem? EX.out, fun _ => i0⟩, fun q r => ?_⟩
    rw [List.take_add_one, EX.out, List.mem_append] at r
    rcases r with r | r
    ·
     exact HC.out r
    ·
     simp at r; exact q r
   have FIN := h_ fin
   clear fin
   by_cases q1 : n = x.1
   ·
    have p1 : ((n == x.1) : Bool) = true := by simpa using q1
    by_cases q2 : s = x.2
    ·
     have p2 : ((s == x.2) : Bool) = true := by simpa using q2
     have ANS := h_ (FIN.out.1 (by rw [q1, q2]))
     clear q1 q2
     go_upto_region 4 with fail
     go_quiet (fail)
     have PC9 := h_ (PC.out.drewN nq)
     go_wp2; go_ret
     exact ⟨⟨k, rfl, ANS.out⟩, C1.out.trans PC9.out⟩
    ·
     have p2 : ((s == x.2) : Bool) = false := by simpa using q2
     have ANS := h_ (FIN.out.2 (fun e => q2 (congrArg Prod.snd e)))
     clear q1 q2
     go_upto_region 4 with fail
     go_quiet (fail)
     have PC9 := h_ (PC.out.drewN nq)
     go_wp2; go_round
     case rel => exact ⟨k + 1, by omega, by go_num, ANS, PC9⟩
     case measure => simp [RowKit.intOf]; omega
   ·
    have p1 : ((n == x.1) : Bool) = false := by simpa using q1
    have ANS := h_ (FIN.out.2 (fun e => q1 (congrArg Prod.fst e)))
    clear q1
    go_upto_region 4 with fail
    go_quiet (fail)
    have PC9 := h_ (PC.out.drewN nq)
    go_wp2; go_round
    case rel => exact ⟨k + 1, by omega, by go_num, ANS, PC9⟩
    case measure => simp [RowKit.intOf]; omega
  ·
   obtain rfl : k = ds.length := by omega
   have i1 : ¬ (ds.length : Int) < (ds.length : Int) := by omega
   have ET : Hid ((n, s) ∉ ds) := h_ (by have := HC.out; rwa [List.take_length] at this)
   go_wp2; go_ret
   exact ⟨⟨-1, rfl, ⟨fun h => absurd h (by decide), fun h => absurd h ET.out⟩⟩, C1.out.trans PC.out⟩
set_option maxRecDepth 100000 in
theorem edcontdot_any (w : World) (A : Option Addr) (c : Nat) (ds : List (Int × Int)) (n s : Int) (h : RdK dotTy w A ds.length ds) (hn : ds.length ≤ 100000) :
  Calls Tryz.prog 45 #[.slice A ds.length c, .agg #[.int .i64 n, .int .i64 s]] w fun e w' => e = .returned (.bool (decide ((n, s) ∈ ds))) ∧ Chg [] w w' := by
 obtain ⟨w1, hw1, c1, b1⟩ := news1 w (.cells #[.int .i64 n, .int .i64 s] 35)
 have W1 := h_ hw1
 have C1 := h_ c1
 have IX := h_ (edidxdot_any w1 A c ds n s (h.chg c1 (by simp)) hn)
 obtain ⟨R, hR⟩ : ∃ R, decide ((n, s) ∈ ds) = R := ⟨_, rfl⟩
 rw [hR]
 have HR := h_ hR
 obtain ⟨y0, y1⟩ := ce2 b1
 clear hw1 c1 b1 h hn hR
 go_enter Tryz.func45, Tryz.ntmps45
 go_upto_region 1 with fail
 rw [← W1.out]
 generalize w.heap.size = g1 at *
 go_wp2_with fail
 refine IX.out.mono ?_
 rintro e w2 ⟨⟨k, rfl, hk⟩, hc⟩
 have C2 := h_ (C1.out.trans hc)
 have HK : Hid (decide ((0 : Int) ≤ k) = R) := h_ (by rw [← HR.out]; exact decide_eq_decide.2 hk)
 clear hk hc IX y0 y1; go_wp2; go_ret
 exact ⟨by rw [HK.out]; rfl, C2.out⟩

set_option maxRecDepth 100000 in
theorem ednext1_any (w : World) (gb : Nat) (A : Option Addr) (c : Nat) (ds : List (Int × Int)) (x : EvT) (e : EvP) (hb : w.heap[gb]? = some (.cells #[.slice A ds.length c] 26 (0, 0))) (h : RdK dotTy w A ds.length ds) (hn : ds.length ≤ 100000) (hx : x.n = e.n ∧ x.s = e.s) :
  Calls Tryz.prog 44 #[.agg #[.int .i64 x.n, .int .i64 x.s, .string x.p, .int .i64 x.k, .int .i64 x.m, .slice x.A x.l x.c, .slice x.B x.bl x.bc], .pointer (some ⟨gb, 0, none⟩)] w fun r w' => r = .returned (.bool (!decide ((e.n, e.s) ∈ ds))) ∧ Chg [] w w' := by
 obtain ⟨w1, hw1, c1, b1⟩ := news1 w (.cells #[.int .i64 x.n, .int .i64 x.s, .string x.p, .int .i64 x.k, .int .i64 x.m, .slice x.A x.l x.c, .slice x.B x.bl x.bc] 40)
 have W1 := h_ hw1
 have C1 := h_ c1
 have CO := h_ (edcontdot_any w1 A c ds x.n x.s (h.chg c1 (by simp)) hn)
 rw [← hx.1, ← hx.2]
 generalize decide ((x.n, x.s) ∈ ds) = v at *
 have p0 := cell_of (c1.at_ hb (by simp)) 0
 obtain ⟨y0, y1, y2, y3, y4, y5, y6⟩ := ce7 b1
 simp only [gA, gZ] at p0
 clear hw1 c1 b1 hb h hn hx
 go_enter Tryz.func44, Tryz.ntmps44
 go_upto_region 1 with fail
 rw [← W1.out]
 generalize w.heap.size = g1 at *
 clear W1; go_wp2_with fail
 refine CO.out.mono ?_
 rintro r w2 ⟨rfl, hc⟩
 have C2 := h_ (C1.out.trans hc)
 clear hc CO p0 y0 y1 y2 y3 y4 y5 y6; go_wp2; go_ret
 exact ⟨rfl, C2.out⟩
end
section
open Go.RowKit Go.Lib


theorem set7W {w : World} {g : Nat} {a0 a1 a2 a3 a4 a5 a6 : Value} {T : TypeId} (v0 v1 v2 v3 v4 v5 v6 : Value) (h : w.heap[g]? = some (.cells #[a0, a1, a2, a3, a4, a5, a6] T (0, 0))) :
  (((((((w.setCell ⟨g, 0, none⟩ v0).setCell ⟨g, 1, none⟩ v1).setCell ⟨g, 2, none⟩ v2).setCell ⟨g, 3, none⟩ v3).setCell ⟨g, 4, none⟩ v4).setCell ⟨g, 5, none⟩ v5).setCell ⟨g, 6, none⟩ v6).heap[g]? = some (.cells #[v0, v1, v2, v3, v4, v5, v6] T (0, 0)) ∧ Chg [g] w (((((((w.setCell ⟨g, 0, none⟩ v0).setCell ⟨g, 1, none⟩ v1).setCell ⟨g, 2, none⟩ v2).setCell ⟨g, 3, none⟩ v3).setCell ⟨g, 4, none⟩ v4).setCell ⟨g, 5, none⟩ v5).setCell ⟨g, 6, none⟩ v6) := by
 have p0 := heap_setCell_same _ g 0 _ _ v0 h
 have p1 := heap_setCell_same _ g 1 _ _ v1 p0
 have p2 := heap_setCell_same _ g 2 _ _ v2 p1
 have p3 := heap_setCell_same _ g 3 _ _ v3 p2
 have p4 := heap_setCell_same _ g 4 _ _ v4 p3
 have p5 := heap_setCell_same _ g 5 _ _ v5 p4
 have p6 := heap_setCell_same _ g 6 _ _ v6 p5
 refine ⟨by simpa using p6, (((((((Chg.refl [g] w).setCell (p := ⟨g, 0, none⟩) (.inl (by simp)) v0).setCell (p := ⟨g, 1, none⟩) (.inl (by simp)) v1).setCell (p := ⟨g, 2, none⟩) (.inl (by simp)) v2).setCell (p := ⟨g, 3, none⟩) (.inl (by simp)) v3).setCell (p := ⟨g, 4, none⟩) (.inl (by simp)) v4).setCell (p := ⟨g, 5, none⟩) (.inl (by simp)) v5).setCell (p := ⟨g, 6, none⟩) (.inl (by simp)) v6⟩
theorem zeroRd (w : World) : EvR w evTy.z ⟨0, 0, [], 0, 0, [], []⟩ := ⟨rfl, rfl, rfl, rfl, rfl, rfl, rfl, ⟨rfl, fun j v hj => by simp at hj⟩, RdK.nil _ _⟩
theorem next_none {p : List EvP} {but : List (Int × Int)} (h : ∀ e ∈ p, (!decide ((e.n, e.s) ∈ but)) = false) : nextA p but = none := by
 unfold nextA
 rw [List.find?_eq_none]
 intro x hx
 rw [h x hx]
 simp
theorem next_at {p : List EvP} {but : List (Int × Int)} {k : Nat} {e : EvP} (he : p[k]? = some e) (hy : (!decide ((e.n, e.s) ∈ but)) = true) (hn : ∀ e ∈ p.take k, (!decide ((e.n, e.s) ∈ but)) = false) : nextA p but = some e := by
 unfold nextA
 have hk := (List.getElem?_eq_some_iff.1 he).1
 rw [← List.take_append_drop k p, List.find?_append, List.find?_eq_none.2 (fun x hx => by rw [hn x hx]; simp)]
 have hd : p.drop k = e :: p.drop (k + 1) := by
  rw [List.drop_eq_getElem_cons hk]
  rw [(List.getElem?_eq_some_iff.1 he).2]
 rw [hd, List.find?_cons, hy]
 rfl

set_option maxRecDepth 100000 in
theorem edfrom_any (w : World) (A : Option Addr) (c : Nat) (xs : List EvT) (es : List EvP) (ds : List (Int × Int)) (gb : Nat) (D : Option Addr) (dc : Nat) (h : RdK evTy w A xs.length xs) (hc : xs.length ≤ c ∧ c ≤ maxLen) (hx : EvsR w xs es) (hn : xs.length ≤ 100000) (hb : w.heap[gb]? = some (.cells #[.slice D ds.length dc] 26 (0, 0))) (hd : RdK dotTy w D ds.length ds) (hdn : ds.length ≤ 100000) :
  Calls Tryz.prog 43 #[.slice A xs.length c, .func (.func 44) #[] #[.pointer (some ⟨gb, 0, none⟩)]] w fun r w' => (∃ (A' : Option Addr) (c' : Nat) (us : List EvT) (fs : List EvP), r = .returned (.slice A' us.length c') ∧ RdK evTy w' A' us.length us ∧ us.length ≤ c' ∧ EvsR w' us fs ∧ fs.head? = nextA es ds ∧ ∀ u ∈ us, u ∈ xs) ∧ Chg [] w w' := by
 have IX := h_ (evfindex_any w A c xs es 44 #[.pointer (some ⟨gb, 0, none⟩)] (fun e => !decide ((e.n, e.s) ∈ ds)) (enters_of Tryz.func44 (by kernel_rfl) rfl) h hx hn (fun wr hc i x e ex ee => ednext1_any wr gb D dc ds x e (hc.at_ hb (by simp)) (hd.chg hc (by simp)) hdn ⟨(hx.2 i x e ex ee).n, (hx.2 i x e ex ee).s⟩))
 have HA := h_ h
 have HX := h_ hx
 have HC := h_ hc
 have HN := h_ hn
 clear h hc hx hn hb hd hdn
 go_enter Tryz.func43, Tryz.ntmps43
 go_wp2_with fail
 refine IX.out.mono ?_
 rintro e w2 ⟨⟨v, rfl, hu⟩, hc⟩
 have C := h_ hc
 clear hc IX
 rcases hu with ⟨rfl, no⟩ | ⟨k, e, rfl, ek, pk, nk⟩
 ·
  have NX := h_ (next_none no)
  clear no; go_wp2; go_ret
  refine ⟨⟨none, 0, [], [], rfl, RdK.nil _ _, Nat.zero_le _, EvsR.nil _, ?_, by simp⟩, C.out⟩
  rw [NX.out]; rfl
 ·
  have NX := h_ (next_at ek pk nk)
  have kl : k < xs.length := by rw [HX.out.1]; exact (List.getElem?_eq_some_iff.1 ek).1
  have HD0 : Hid ((es.drop k).head? = some e) := h_ (by rw [List.head?_drop]; exact ek)
  have KL := h_ kl
  clear pk nk ek
  obtain ⟨g, o, eA, _⟩ := HA.out.line (by omega)
  subst eA
  have k0 : (0 : Int) ≤ (k : Int) := by omega
  have k1 : ¬ (k : Int) < 0 := by omega
  have k2 : (k : Int) ≤ (xs.length : Int) := by omega
  have k3 : k ≤ xs.length := by omega
  have k4 : xs.length ≤ c := HC.out.1
  have k5 : ¬ c = k := by have := HC.out.1; omega
  have k6 : k ≤ c := by omega
  clear kl; go_wp2; go_ret
  refine ⟨⟨some ⟨g, o + k * 7, none⟩, c - k, xs.drop k, es.drop k, ?_, ?_, ?_, ?_, ?_, fun u hu => List.mem_of_mem_drop hu⟩, C.out⟩
  ·
   rw [List.length_drop]; rfl
  ·
   have q := (HA.out.chg C.out (by simp)).part k (xs.length - k) (by have := KL.out; omega)
   rw [List.take_of_length_le (by rw [List.length_drop]; omega)] at q
   rw [List.length_drop]
   exact q
  ·
   rw [List.length_drop]; have := HC.out.1; omega
  ·
   refine ⟨by rw [List.length_drop, List.length_drop, HX.out.1], fun i x e hx he => ?_⟩
   rw [List.getElem?_drop] at hx he
   exact (HX.out.2 _ x e hx he).chg C.out
  ·
   rw [NX.out, HD0.out]
end
section
open Go.RowKit Go.Lib


set_option maxRecDepth 100000 in
theorem ednext_any (w : World) (A : Option Addr) (c : Nat) (xs : List EvT) (es : List EvP) (n : Int) (B : Option Addr) (bc : Nat) (ks : List Sp) (h : RdK evTy w A xs.length xs) (hc : xs.length ≤ c) (ho : xs = [] ∨ ∀ a, A = some a → a.block < w.heap.size) (hx : EvsR w xs es) (hn : xs.length ≤ 1000) (hs : ∀ e ∈ es, EvSm e ∧ e.q.length ≤ 100000) (hk : RdK spanTy w B ks.length ks) (hkn : ks.length ≤ 140737488351232) (D : Option Addr) (dc : Nat) (ds : List (Int × Int)) (hd : RdK dotTy w D ds.length ds) (hdn : ds.length ≤ 100000) :
  Calls Tryz.prog 13 #[.slice A xs.length c, .agg #[.int .i64 n, .slice B ks.length bc], .slice D ds.length dc] w fun r w' => ∃ (x : EvT) (e : EvP), r = .returned (.tuple #[.agg #[.int .i64 x.n, .int .i64 x.s, .string x.p, .int .i64 x.k, .int .i64 x.m, .slice x.A x.l x.c, .slice x.B x.bl x.bc], .bool (nextA (planA es n ks) ds).isSome]) ∧ EvR w' x e ∧ e = (nextA (planA es n ks) ds).getD ⟨0, 0, [], 0, 0, [], []⟩ ∧ (∀ a, (x.A = some a ∨ x.B = some a) → w.heap.size ≤ a.block) ∧ Chg [] w w' := by
 obtain ⟨w1, hw1, c1, b0, b1, b2⟩ := news3 w (.cells #[.int .i64 n, .slice B ks.length bc] 25) (.cells #[.slice D ds.length dc] 26) (.cells #[.int .i64 0, .int .i64 0, .string ⟨#[]⟩, .int .i64 0, .int .i64 0, .slice none 0 0, .slice none 0 0] 40)
 have W1 := h_ hw1
 have C1 := h_ c1
 have B1 := h_ b1
 have B2 := h_ b2
 have PL := h_ (edplan_any w1 A c xs es n B bc ks (h.chg c1 (by simp)) hc (ho.imp id (fun q a ha => Nat.lt_of_lt_of_le (q a ha) c1.size)) (hx.chg c1) hn hs (hk.chg c1 (by simp)) hkn)
 have HD := h_ (hd.chg c1 (by simp))
 have HDN := h_ hdn
 have HN := h_ (show (planA es n ks).length ≤ 1000 by
  have := List.length_filter_le (fun e : EvP => !hasE ks e.n e.s) es
  unfold planA
  split
  ·
   rw [byDt_len]; have := hx.1; omega
  ·
   simp)
 obtain ⟨y0, y1⟩ := ce2 b0
 clear hw1 c1 b0 b1 b2 h hc ho hx hn hs hk hkn hd hdn
 obtain ⟨P, hP⟩ : ∃ P, planA es n ks = P := ⟨_, rfl⟩
 rw [hP] at PL HN ⊢
 clear hP
 obtain ⟨R, hR⟩ : ∃ R, nextA P ds = R := ⟨_, rfl⟩
 rw [hR]
 have HR := h_ hR
 clear hR
 go_enter Tryz.func13, Tryz.ntmps13
 go_upto_region 1 with fail
 rw [← W1.out]
 have HZ : Hid (∃ h, w.heap.size = h) := h_ ⟨_, rfl⟩
 generalize hz2 : w.heap.size + 2 = g2 at *
 generalize hz1 : w.heap.size + 1 = g1 at *
 have NE : Hid (w.heap.size ≤ g2) := h_ (by omega)
 generalize hz0 : w.heap.size = g0 at B1 B2 y0 y1 hz1 hz2 ⊢
 have n01 : ¬ g0 = g1 := by omega
 have n02 : ¬ g0 = g2 := by omega
 have n10 : ¬ g1 = g0 := by omega
 have n12 : ¬ g1 = g2 := by omega
 have n20 : ¬ g2 = g0 := by omega
 have n21 : ¬ g2 = g1 := by omega
 clear W1 HZ hz0 hz1 hz2; go_wp2_with fail
 refine PL.out.mono ?_
 rintro r w2 ⟨A2, c2, zs, rfl, hf, hc⟩
 have F2 := h_ hf
 have D2 := h_ hc
 have ZL : Hid (zs.length = P.length) := h_ hf.all.ev.1
 have Q1 := h_ (hc.at_ B1.out (by simp))
 have Q2 := h_ (hc.at_ B2.out (by simp))
 have B2L := h_ B2.out
 clear hf hc PL y0 y1 B1 B2
 have FAR : Hid (∀ y ∈ zs, ∀ a, (y.A = some a ∨ y.B = some a) → a.block ≠ g2) := h_ (fun y hy a ha q => by have := (F2.out.all.at_ y hy a ha).1; have := lt_of_heap B2L.out; omega)
 have FAR2 : Hid (∀ y ∈ zs, ∀ a, (y.A = some a ∨ y.B = some a) → w.heap.size ≤ a.block) := h_ (fun y hy a ha => Nat.le_trans C1.out.size (F2.out.all.at_ y hy a ha).1)
 have FR := h_ (edfrom_any w2 A2 c2 zs P ds g1 D dc F2.out.row.reads F2.out.row.cap F2.out.all.ev (by have := HN.out; have := ZL.out; omega) Q1.out (HD.out.chg D2.out (by simp)) HDN.out)
 go_wp2_with fail
 refine FR.out.mono ?_
 rintro r w3 ⟨⟨A3, c3, us, fs, rfl, hr, hl, ho, he, hm⟩, hc⟩
 have HM := h_ hm
 have D3 := h_ (D2.out.trans hc)
 replace Q2 := h_ (hc.at_ Q2.out (by simp))
 have E3 := h_ (And.intro hr (And.intro hl ho))
 have HE := h_ he
 clear hr hl ho he hm hc FR Q1
 rcases hfs : fs with _ | ⟨e, fs'⟩
 ·
  have u0 : us = [] := by have := E3.out.2.2.1; rw [hfs] at this; exact List.eq_nil_of_length_eq_zero this
  have R0 : R = none := by rw [← HR.out, ← HE.out, hfs]; rfl
  subst R0 u0
  clear hfs HR HE
  have f0 := free_of Q2.out 0
  have f1 := free_of Q2.out 1
  have f2 := free_of Q2.out 2
  have f3 := free_of Q2.out 3
  have f4 := free_of Q2.out 4
  have f5 := free_of Q2.out 5
  have f6 := free_of Q2.out 6
  obtain ⟨t0, t1, t2, t3, t4, t5, t6⟩ := ce7 Q2.out
  have C3 := h_ (C1.out.trans D3.out)
  have q0 : ((((0 : Nat) : Int)) == 0) = true := rfl
  go_wp2
  obtain ⟨q9, cw⟩ := set7W (.int .i64 0) (.int .i64 0) (.string ⟨#[]⟩) (.int .i64 0) (.int .i64 0) (.slice none 0 0) (.slice none 0 0) Q2.out
  have CW := h_ cw
  have Q9 := h_ q9
  clear q9 cw
  generalize (((((((w3.setCell ⟨g2, 0, none⟩ (.int .i64 0)).setCell ⟨g2, 1, none⟩ (.int .i64 0)).setCell ⟨g2, 2, none⟩ (.string ⟨#[]⟩)).setCell ⟨g2, 3, none⟩ (.int .i64 0)).setCell ⟨g2, 4, none⟩ (.int .i64 0)).setCell ⟨g2, 5, none⟩ (.slice none 0 0)).setCell ⟨g2, 6, none⟩ (.slice none 0 0)) = W at *
  obtain ⟨y0, y1, y2, y3, y4, y5, y6⟩ := ce7 Q9.out
  refine bodyPost_ret (v := .tuple #[.agg #[.int .i64 0, .int .i64 0, .string ⟨#[]⟩, .int .i64 0, .int .i64 0, .slice none 0 0, .slice none 0 0], .bool false]) (by simp [results, Tryz.results13, go_sem, y0, y1, y2, y3, y4, y5, y6]) rfl ?_
  exact ⟨evTy.z, _, rfl, zeroRd _, rfl, (fun a ha => by rcases ha with ha | ha <;> cases ha), C3.out.trans' CW.out (fun i hi => .inr (by simp at hi; rw [hi]; exact NE.out))⟩
 ·
  obtain ⟨u, hu⟩ : ∃ u, us[0]? = some u := ⟨_, List.getElem?_eq_getElem (by have := E3.out.2.2.1; rw [hfs] at this; simp at this; omega)⟩
  have R0 : R = some e := by rw [← HR.out, ← HE.out, hfs]; rfl
  subst R0
  have RU := h_ (E3.out.2.2.2 0 u e hu (by rw [hfs]; rfl))
  have UM := h_ (HM.out u (List.mem_of_getElem? hu))
  have UL : us.length ≠ 0 := by have := (List.getElem?_eq_some_iff.1 hu).1; omega
  obtain ⟨g, o, eA, gl⟩ := E3.out.1.line (by omega)
  subst eA
  obtain ⟨z0, z1, z2, z3, z4, z5, z6⟩ := evCells E3.out.1 hu
  simp only [Nat.zero_mul, Nat.add_zero] at z0 z1 z2 z3 z4 z5 z6
  clear hfs HR HE hu gl
  have f0 := free_of Q2.out 0
  have f1 := free_of Q2.out 1
  have f2 := free_of Q2.out 2
  have f3 := free_of Q2.out 3
  have f4 := free_of Q2.out 4
  have f5 := free_of Q2.out 5
  have f6 := free_of Q2.out 6
  obtain ⟨t0, t1, t2, t3, t4, t5, t6⟩ := ce7 Q2.out
  have C3 := h_ (C1.out.trans D3.out)
  have q0 : (((us.length : Int)) == 0) = false := beq_eq_false_iff_ne.2 (by omega)
  have q1 : ¬ (us.length : Int) = 0 := by omega
  have q2 : (0 : Int) < (us.length : Int) := by omega
  have q3 : 0 < us.length := by omega
  go_wp2
  obtain ⟨q9, cw⟩ := set7W (.int .i64 u.n) (.int .i64 u.s) (.string u.p) (.int .i64 u.k) (.int .i64 u.m) (.slice u.A u.l u.c) (.slice u.B u.bl u.bc) Q2.out
  have CW := h_ cw
  have Q9 := h_ q9
  clear q9 cw
  generalize (((((((w3.setCell ⟨g2, 0, none⟩ (.int .i64 u.n)).setCell ⟨g2, 1, none⟩ (.int .i64 u.s)).setCell ⟨g2, 2, none⟩ (.string u.p)).setCell ⟨g2, 3, none⟩ (.int .i64 u.k)).setCell ⟨g2, 4, none⟩ (.int .i64 u.m)).setCell ⟨g2, 5, none⟩ (.slice u.A u.l u.c)).setCell ⟨g2, 6, none⟩ (.slice u.B u.bl u.bc)) = W at *
  obtain ⟨y0, y1, y2, y3, y4, y5, y6⟩ := ce7 Q9.out
  refine bodyPost_ret (v := .tuple #[.agg #[.int .i64 u.n, .int .i64 u.s, .string u.p, .int .i64 u.k, .int .i64 u.m, .slice u.A u.l u.c, .slice u.B u.bl u.bc], .bool true]) (by simp [results, Tryz.results13, go_sem, y0, y1, y2, y3, y4, y5, y6]) rfl ?_
  exact ⟨u, e, rfl, RU.out.chgS CW.out (fun a ha => by have := E3.out.2.1; simp; intro q; exact FAR.out u UM.out a (.inl ha) q) (fun a ha => by simp; intro q; exact FAR.out u UM.out a (.inr ha) q), rfl, FAR2.out u UM.out, C3.out.trans' CW.out (fun i hi => .inr (by simp at hi; rw [hi]; exact NE.out))⟩
end
section
open Go.RowKit Go.Lib


theorem box_cell {w : World} {g : Nat} {cs : Array Value} {T : TypeId} (h : w.heap[g]? = some (.cells cs T (0, 0))) {a : Addr} (ha : a.block = g) {v : Value} (hv : w.cell? a = some v) : cs.toList[a.off]? = some v := by
 simp only [World.cell?, ha, h] at hv
 split at hv
 ·
  cases hv
 ·
  rw [Array.getElem?_toList]; exact hv
theorem evr_box {w w' : World} {x : EvT} {e : EvP} {g : Nat} {n s k m : Int} {p : ByteArray} {A B : Option Addr} {l c bl bc : Nat} {T : TypeId} (h : EvR w x e) (hb : w.heap[g]? = some (.cells #[.int .i64 n, .int .i64 s, .string p, .int .i64 k, .int .i64 m, .slice A l c, .slice B bl bc] T (0, 0))) (hc : Chg [g] w w') : EvR w' x e := by
 refine ⟨h.n, h.s, h.p, h.k, h.m, h.l, h.bl, ⟨h.A.len, fun j v hj => ?_⟩, ⟨h.B.len, fun j v hj => ?_⟩⟩
 ·
  obtain ⟨a, ha, hx⟩ := h.A.cells j v hj
  refine ⟨a, ha, hc.cell hx (fun q => ?_)⟩
  have r := List.mem_of_getElem? (box_cell hb (by simpa using q) hx)
  simp [bv] at r
  try (rcases r with r | r | r | r | r | r | r <;> cases r)
 ·
  obtain ⟨a, ha, hx⟩ := h.B.cells j v hj
  refine ⟨a, ha, hc.cell hx (fun q => ?_)⟩
  rcases hq : e.q with _ | ⟨y, ys⟩
  ·
   rw [hq] at hj; simp [RowTy.flat] at hj
  ·
   have e0 : (spanTy.flat e.q)[0]? = some (.int .i64 y.1) := by rw [hq]; rfl
   have e1 : (spanTy.flat e.q)[1]? = some (.int .i64 y.2.1) := by rw [hq]; rfl
   have e2 : (spanTy.flat e.q)[2]? = some (.int .i64 y.2.2) := by rw [hq]; rfl
   obtain ⟨a0, h0, x0⟩ := h.B.cells 0 _ e0
   obtain ⟨a1, h1, x1⟩ := h.B.cells 1 _ e1
   obtain ⟨a2, h2, x2⟩ := h.B.cells 2 _ e2
   obtain rfl : a = a0 := by rw [ha] at h0; exact Option.some.inj h0
   obtain rfl : a = a1 := by rw [ha] at h1; exact Option.some.inj h1
   obtain rfl : a = a2 := by rw [ha] at h2; exact Option.some.inj h2
   have ab : a.block = g := by simpa [block_add] using q
   have r0 := box_cell hb (by rw [block_add]; exact ab) x0
   have r1 := box_cell hb (by rw [block_add]; exact ab) x1
   have r2 := box_cell hb (by rw [block_add]; exact ab) x2
   simp only [Addr.add, Nat.add_zero, ite_self, Nat.one_ne_zero, if_true, if_false, ↓reduceIte, reduceCtorEq] at r0 r1 r2
   generalize a.off = o at r0 r1 r2
   match o with
   | 0 => cases r2
   | 1 => cases r1
   | 2 => cases r0
   | 3 => cases r2
   | 4 => cases r1
   | 5 => cases r0
   | 6 => cases r0
   | o + 7 => simp at r0

set_option maxRecDepth 100000 in
theorem fdnext_any (w : World) (A : Option Addr) (c : Nat) (xs : List EvT) (es : List EvP) (n : Int) (B : Option Addr) (bc : Nat) (ks : List Sp) (h : RdK evTy w A xs.length xs) (hc : xs.length ≤ c) (ho : xs = [] ∨ ∀ a, A = some a → a.block < w.heap.size) (hx : EvsR w xs es) (hn : xs.length ≤ 1000) (hs : ∀ e ∈ es, EvSm e ∧ e.q.length ≤ 100000) (hk : RdK spanTy w B ks.length ks) (hkn : ks.length ≤ 140737488351232) (D : Option Addr) (dc : Nat) (ds : List (Int × Int)) (hd : RdK dotTy w D ds.length ds) (hdn : ds.length ≤ 100000) :
  Calls Tryz.prog 15 #[.slice A xs.length c, .agg #[.int .i64 n, .slice B ks.length bc], .slice D ds.length dc] w fun r w' => ∃ (x : EvT), r = .returned (.tuple #[.agg #[.int .i64 x.n, .int .i64 x.s, .string x.p, .int .i64 x.k, .int .i64 x.m, .slice x.A x.l x.c, .slice x.B x.bl x.bc], .bool (nextA (planA es n ks) ds).isSome]) ∧ EvR w' x ((nextA (planA es n ks) ds).getD ⟨0, 0, [], 0, 0, [], []⟩) ∧ Chg [] w w' := by

 obtain ⟨w1, hw1, c1, b0, b1⟩ := news2 w (.cells #[.int .i64 n, .slice B ks.length bc] 25) (.cells #[.int .i64 0, .int .i64 0, .string ⟨#[]⟩, .int .i64 0, .int .i64 0, .slice none 0 0, .slice none 0 0] 40)
 have W1 := h_ hw1
 have C1 := h_ c1
 have B1 := h_ b1
 have PL := h_ (fdplan_any w1 A c xs es n B bc ks (h.chg c1 (by simp)) hc (ho.imp id (fun q a ha => Nat.lt_of_lt_of_le (q a ha) c1.size)) (hx.chg c1) hn hs (hk.chg c1 (by simp)) hkn)
 have HD := h_ (hd.chg c1 (by simp))
 have HDN := h_ hdn
 have HN := h_ (show (planA es n ks).length ≤ 1000 by
  have := List.length_filter_le (fun e : EvP => !hasE ks e.n e.s) es
  unfold planA
  split
  ·
   rw [byDt_len]; have := hx.1; omega
  ·
   simp)
 obtain ⟨y0, y1⟩ := ce2 b0
 clear hw1 c1 b0 b1 h hc ho hx hn hs hk hkn hd hdn
 obtain ⟨P, hP⟩ : ∃ P, planA es n ks = P := ⟨_, rfl⟩
 rw [hP] at PL HN ⊢
 clear hP
 obtain ⟨R, hR⟩ : ∃ R, nextA P ds = R := ⟨_, rfl⟩
 rw [hR]
 have HR := h_ hR
 clear hR
 go_enter Tryz.func15, Tryz.ntmps15
 go_upto_region 1 with fail
 rw [← W1.out]
 generalize hz1 : w.heap.size + 1 = g2 at *
 have NE : Hid (w.heap.size ≤ g2) := h_ (by omega)
 generalize hz0 : w.heap.size = g0 at B1 y0 y1 hz1 ⊢
 clear W1 hz0 hz1; go_wp2_with fail
 refine PL.out.mono ?_
 rintro r w2 ⟨A2, c2, zs, rfl, hf, he, hc⟩
 have F2 := h_ hf
 have E2 := h_ he
 have D2 := h_ hc
 have ZL : Hid (zs.length = P.length) := h_ he.1
 have ZN : Hid (zs.length ≤ 1000) := h_ (by rw [he.1]; exact HN.out)
 replace B1 := h_ (hc.at_ B1.out (by simp))
 clear hf he hc PL y0 y1; go_wp2
 go_loopw [9] (fun v9 wr => ∃ (i : Nat), i ≤ zs.length ∧ v9 = .int .i64 (i : Int) ∧ Hid (∀ e ∈ P.take i, (!decide ((e.n, e.s) ∈ ds)) = false) ∧ Hid (Chg [] w2 wr)) (fun v9 _ => zs.length - (RowKit.intOf v9).toNat)
 case atStart => exact ⟨0, Nat.zero_le _, rfl, h_ (by simp), Chg.refl _ _⟩
 case round =>
  obtain ⟨i, hi, rfl, NO, PC⟩ := hrel
  have i0 : (0 : Int) ≤ (i : Int) := by omega
  by_cases hlt : i < zs.length
  ·
   have i1 : (i : Int) < (zs.length : Int) := by omega
   have i3 : IntKind.i64.wrap ((i : Int) + 1) = (i : Int) + 1 := IntWalk.i64_in _ (by have := ZN.out; omega)
   obtain ⟨x, e, ex, ee, rx⟩ := E2.out.at_ hlt
   have EX := h_ ex
   have EE := h_ ee
   have RX := h_ rx
   obtain ⟨g3, o3, eA, _⟩ := F2.out.line (by omega)
   subst eA; clear ex ee rx; go_wp2
   go_loopw [10, 11] (fun v10 v11 wr => ∃ (j : Nat), j ≤ ds.length ∧ v11 = .int .i64 (j : Int) ∧ v10 = .bool (!decide ((x.n, x.s) ∈ ds.take j)) ∧ Hid (Chg [] w2 wr)) (fun _ v11 _ => ds.length - (RowKit.intOf v11).toNat)
   case atStart => exact ⟨0, Nat.zero_le _, rfl, by simp, PC⟩
   case round =>
    clear PC
    obtain ⟨j, hj, rfl, rfl, PC⟩ := hrel
    have j0 : (0 : Int) ≤ (j : Int) := by omega
    by_cases hjl : j < ds.length
    ·
     have j1 : (j : Int) < (ds.length : Int) := by omega
     have j3 : IntKind.i64.wrap ((j : Int) + 1) = (j : Int) + 1 := IntWalk.i64_in _ (by have := HDN.out; omega)
     obtain ⟨g, o, eA, _⟩ := HD.out.line (by omega)
     subst eA
     obtain ⟨d, ed⟩ : ∃ d, ds[j]? = some d := ⟨_, List.getElem?_eq_getElem hjl⟩
     have ED := h_ ed
     have TK : Hid (∀ p, p ∈ ds.take (j + 1) ↔ p ∈ ds.take j ∨ p = d) := h_ (fun p => by rw [List.take_add_one, ED.out, List.mem_append]; simp)
     obtain ⟨z0, z1⟩ := dotCells (HD.out.chg (D2.out.trans PC.out) (by simp)) ed
     obtain ⟨t0, t1, _⟩ := evCells (F2.out.chg PC.out (by simp)) EX.out
     have JL := h_ hjl
     clear ed
     by_cases hf : (x.n, x.s) ∈ ds.take j
     ·
      have FV : (!decide ((x.n, x.s) ∈ ds.take j)) = false := by simp [hf]
      have ANS : Hid ((!decide ((x.n, x.s) ∈ ds.take (j + 1))) = false) := h_ (by have := (TK.out (x.n, x.s)).2 (.inl hf); simp [this])
      rw [FV]
      clear FV hf
      go_upto_region 9 with fail
      go_quiet (fail)
      have PC9 := h_ (PC.out.drewN nq)
      go_wp2; go_round
      case rel => exact ⟨j + 1, by omega, by go_num, by rw [ANS.out], PC9⟩
      case measure => simp [RowKit.intOf]; omega
     ·
      have FV : (!decide ((x.n, x.s) ∈ ds.take j)) = true := by simp [hf]
      have FIN : Hid ((!decide ((x.n, x.s) ∈ ds.take (j + 1))) = decide ((x.n, x.s) ≠ d)) := h_ (by
       have := TK.out (x.n, x.s)
       by_cases q : (x.n, x.s) = d
       ·
        have r := this.2 (.inr q); rw [decide_eq_true r, q]; simp
       ·
        have r : (x.n, x.s) ∉ ds.take (j + 1) := fun h => (this.1 h).elim hf q
        simp [r, q])
      rw [FV]
      clear FV hf
      by_cases q1 : d.1 = x.n
      ·
       have p1 : ((d.1 == x.n) : Bool) = true := by simpa using q1
       by_cases q2 : d.2 = x.s
       ·
        have p2 : ((d.2 == x.s) : Bool) = true := by simpa using q2
        have ANS : Hid ((!decide ((x.n, x.s) ∈ ds.take (j + 1))) = false) := h_ (by rw [FIN.out, ← q1, ← q2]; simp)
        clear q1 q2
        go_upto_region 9 with fail
        go_quiet (fail)
        have PC9 := h_ (PC.out.drewN nq)
        go_wp2; go_round
        case rel => exact ⟨j + 1, by omega, by go_num, by rw [ANS.out], PC9⟩
        case measure => simp [RowKit.intOf]; omega
       ·
        have p2 : ((d.2 == x.s) : Bool) = false := by simpa using q2
        have ANS : Hid ((!decide ((x.n, x.s) ∈ ds.take (j + 1))) = true) := h_ (by rw [FIN.out]; exact decide_eq_true (fun e => q2 (congrArg Prod.snd e).symm))
        clear q1 q2
        go_upto_region 9 with fail
        go_quiet (fail)
        have PC9 := h_ (PC.out.drewN nq)
        go_wp2; go_round
        case rel => exact ⟨j + 1, by omega, by go_num, by rw [ANS.out], PC9⟩
        case measure => simp [RowKit.intOf]; omega
      ·
       have p1 : ((d.1 == x.n) : Bool) = false := by simpa using q1
       have ANS : Hid ((!decide ((x.n, x.s) ∈ ds.take (j + 1))) = true) := h_ (by rw [FIN.out]; exact decide_eq_true (fun e => q1 (congrArg Prod.fst e).symm))
       clear q1
       go_upto_region 9 with fail
       go_quiet (fail)
       have PC9 := h_ (PC.out.drewN nq)
       go_wp2; go_round
       case rel => exact ⟨j + 1, by omega, by go_num, by rw [ANS.out], PC9⟩
       case measure => simp [RowKit.intOf]; omega
    ·
     obtain rfl : j = ds.length := by omega
     have j1 : ¬ (ds.length : Int) < (ds.length : Int) := by omega
     rw [List.take_length]
     clear hj hjl
     have XE : Hid ((x.n, x.s) = (e.n, e.s)) := h_ (by rw [RX.out.n, RX.out.s])
     by_cases hf : (x.n, x.s) ∈ ds
     ·
      have FV : (!decide ((x.n, x.s) ∈ ds)) = false := by simp [hf]
      have NO1 : Hid (∀ y ∈ P.take (i + 1), (!decide ((y.n, y.s) ∈ ds)) = false) := h_ (fun y hy => by
       rw [List.take_add_one, EE.out, List.mem_append] at hy
       rcases hy with q | q
       ·
        exact NO.out y q
       ·
        simp at q; rw [q, ← XE.out]; exact FV)
      rw [FV]
      clear FV hf; go_wp2; go_round
      case rel => exact ⟨i + 1, by omega, by go_num, NO1, PC⟩
      case measure => simp [RowKit.intOf]; omega
     ·
      have FV : (!decide ((x.n, x.s) ∈ ds)) = true := by simp [hf]
      have R0 : R = some e := by rw [← HR.out]; exact next_at EE.out (by rw [← XE.out]; exact FV) NO.out
      subst R0
      rw [FV]
      clear FV hf
      have Q2 := h_ (PC.out.at_ B1.out (by simp))
      obtain ⟨z0, z1, z2, z3, z4, z5, z6⟩ := evCells (F2.out.chg PC.out (by simp)) EX.out
      have f0 := free_of Q2.out 0
      have f1 := free_of Q2.out 1
      have f2 := free_of Q2.out 2
      have f3 := free_of Q2.out 3
      have f4 := free_of Q2.out 4
      have f5 := free_of Q2.out 5
      have f6 := free_of Q2.out 6
      obtain ⟨t0, t1, t2, t3, t4, t5, t6⟩ := ce7 Q2.out
      have D3 := h_ ((C1.out.trans D2.out).trans PC.out)
      go_wp2
      obtain ⟨q9, cw⟩ := set7W (.int .i64 x.n) (.int .i64 x.s) (.string x.p) (.int .i64 x.k) (.int .i64 x.m) (.slice x.A x.l x.c) (.slice x.B x.bl x.bc) Q2.out
      have CW := h_ cw
      have Q9 := h_ q9
      clear q9 cw
      generalize (((((((wr.setCell ⟨g2, 0, none⟩ (.int .i64 x.n)).setCell ⟨g2, 1, none⟩ (.int .i64 x.s)).setCell ⟨g2, 2, none⟩ (.string x.p)).setCell ⟨g2, 3, none⟩ (.int .i64 x.k)).setCell ⟨g2, 4, none⟩ (.int .i64 x.m)).setCell ⟨g2, 5, none⟩ (.slice x.A x.l x.c)).setCell ⟨g2, 6, none⟩ (.slice x.B x.bl x.bc)) = W at *
      obtain ⟨y0, y1, y2, y3, y4, y5, y6⟩ := ce7 Q9.out
      refine bodyPost_ret (v := .tuple #[.agg #[.int .i64 x.n, .int .i64 x.s, .string x.p, .int .i64 x.k, .int .i64 x.m, .slice x.A x.l x.c, .slice x.B x.bl x.bc], .bool true]) (by simp [results, Tryz.results15, go_sem, y0, y1, y2, y3, y4, y5, y6]) rfl ?_
      exact ⟨x, rfl, evr_box (RX.out.chg PC.out) Q2.out CW.out, D3.out.trans' CW.out (fun i hi => .inr (by simp at hi; rw [hi]; exact NE.out))⟩
  ·
   obtain rfl : i = zs.length := by omega
   have i1 : ¬ (zs.length : Int) < (zs.length : Int) := by omega
   have R0 : R = none := by rw [← HR.out]; exact next_none (fun y hy => NO.out y (by rw [ZL.out, List.take_length]; exact hy))
   subst R0
   have Q2 := h_ (PC.out.at_ B1.out (by simp))
   have f0 := free_of Q2.out 0
   have f1 := free_of Q2.out 1
   have f2 := free_of Q2.out 2
   have f3 := free_of Q2.out 3
   have f4 := free_of Q2.out 4
   have f5 := free_of Q2.out 5
   have f6 := free_of Q2.out 6
   obtain ⟨t0, t1, t2, t3, t4, t5, t6⟩ := ce7 Q2.out
   have D3 := h_ ((C1.out.trans D2.out).trans PC.out)
   go_wp2
   obtain ⟨q9, cw⟩ := set7W (.int .i64 0) (.int .i64 0) (.string ⟨#[]⟩) (.int .i64 0) (.int .i64 0) (.slice none 0 0) (.slice none 0 0) Q2.out
   have CW := h_ cw
   have Q9 := h_ q9
   clear q9 cw
   generalize (((((((wr.setCell ⟨g2, 0, none⟩ (.int .i64 0)).setCell ⟨g2, 1, none⟩ (.int .i64 0)).setCell ⟨g2, 2, none⟩ (.string ⟨#[]⟩)).setCell ⟨g2, 3, none⟩ (.int .i64 0)).setCell ⟨g2, 4, none⟩ (.int .i64 0)).setCell ⟨g2, 5, none⟩ (.slice none 0 0)).setCell ⟨g2, 6, none⟩ (.slice none 0 0)) = W at *
   obtain ⟨y0, y1, y2, y3, y4, y5, y6⟩ := ce7 Q9.out
   refine bodyPost_ret (v := .tuple #[.agg #[.int .i64 0, .int .i64 0, .string ⟨#[]⟩, .int .i64 0, .int .i64 0, .slice none 0 0, .slice none 0 0], .bool false]) (by simp [results, Tryz.results15, go_sem, y0, y1, y2, y3, y4, y5, y6]) rfl ?_
   exact ⟨evTy.z, rfl, zeroRd _, D3.out.trans' CW.out (fun i hi => .inr (by simp at hi; rw [hi]; exact NE.out))⟩
end
section
open Go.RowKit Go.Lib


set_option maxRecDepth 100000 in
theorem l20arcs_any (w : World) (n : Int) (A B : Option Addr) (ac bc : Nat) (ks : List Sp) (h : RdK spanTy w A ks.length ks) (h' : RdK spanTy w B ks.length ks) (hn : ks.length ≤ 140737488351232) :
  Calls Tryz.prog 19 #[.agg #[.int .i64 n, .slice A ks.length ac], .agg #[.int .i64 n, .slice B ks.length bc]] w fun r w' => r = .returned (.bool true) ∧ Chg [] w w' := by
 obtain ⟨w1, hw, hc, b0, b1⟩ := news2 w (.cells #[.int .i64 n, .slice A ks.length ac] 25) (.cells #[.int .i64 n, .slice B ks.length bc] 25)
 have W1 := h_ hw
 have C1 := h_ hc
 have SP := h_ (samespan_any w1 A B ks.length ks.length ac bc ks ks (h.chg hc (by simp)) (h'.chg hc (by simp)) hn hn)
 obtain ⟨y0, y1⟩ := ce2 b0
 obtain ⟨z0, z1⟩ := ce2 b1
 have e1 : ((n == n) : Bool) = true := by simp
 clear hw hc b0 b1 h h' hn
 go_enter Tryz.func19, Tryz.ntmps19
 go_upto_region 1 with fail
 rw [← W1.out]
 generalize w.heap.size + 1 = g1 at *
 generalize w.heap.size = g0 at *
 clear W1; go_wp2_with fail
 refine SP.out.mono ?_
 rintro r w2 ⟨rfl, hc⟩
 rw [beq_self_eq_true]
 have C2 := h_ (C1.out.trans hc)
 clear hc SP y0 y1 z0 z1 e1; go_wp2; go_ret
 exact ⟨rfl, C2.out⟩

theorem evr_abox {w w' : World} {x : EvT} {e : EvP} {g : Nat} {n : Int} {A : Option Addr} {l c : Nat} {T : TypeId} (h : EvR w x e) (hb : w.heap[g]? = some (.cells #[.int .i64 n, .slice A l c] T (0, 0))) (hc : Chg [g] w w') : EvR w' x e := by
 refine ⟨h.n, h.s, h.p, h.k, h.m, h.l, h.bl, ⟨h.A.len, fun j v hj => ?_⟩, ⟨h.B.len, fun j v hj => ?_⟩⟩
 ·
  obtain ⟨a, ha, hx⟩ := h.A.cells j v hj
  refine ⟨a, ha, hc.cell hx (fun q => ?_)⟩
  have r := List.mem_of_getElem? (box_cell hb (by simpa using q) hx)
  simp [bv] at r
  try (rcases r with r | r <;> cases r)
 ·
  obtain ⟨a, ha, hx⟩ := h.B.cells j v hj
  refine ⟨a, ha, hc.cell hx (fun q => ?_)⟩
  rcases hq : e.q with _ | ⟨y, ys⟩
  ·
   rw [hq] at hj; simp [RowTy.flat] at hj
  ·
   have e0 : (spanTy.flat e.q)[0]? = some (.int .i64 y.1) := by rw [hq]; rfl
   have e1 : (spanTy.flat e.q)[1]? = some (.int .i64 y.2.1) := by rw [hq]; rfl
   obtain ⟨a0, h0, x0⟩ := h.B.cells 0 _ e0
   obtain ⟨a1, h1, x1⟩ := h.B.cells 1 _ e1
   obtain rfl : a = a0 := by rw [ha] at h0; exact Option.some.inj h0
   obtain rfl : a = a1 := by rw [ha] at h1; exact Option.some.inj h1
   have ab : a.block = g := by simpa [block_add] using q
   have r0 := box_cell hb (by rw [block_add]; exact ab) x0
   have r1 := box_cell hb (by rw [block_add]; exact ab) x1
   simp only [Addr.add, Nat.add_zero, ite_self, Nat.one_ne_zero, if_true, if_false, ↓reduceIte, reduceCtorEq] at r0 r1
   generalize a.off = o at r0 r1
   match o with
   | 0 => cases r1
   | 1 => cases r0
   | o + 2 => simp at r0
theorem EvsR.abox {w w' : World} {xs : List EvT} {es : List EvP} {g : Nat} {n : Int} {A : Option Addr} {l c : Nat} {T : TypeId} (h : EvsR w xs es) (hb : w.heap[g]? = some (.cells #[.int .i64 n, .slice A l c] T (0, 0))) (hc : Chg [g] w w') : EvsR w' xs es :=
 ⟨h.1, fun i x e hx he => evr_abox (h.2 i x e hx he) hb hc⟩
theorem ownE_ne {w : World} {A : Option Addr} {c : Nat} {ys : List EvT} {g : Nat} {cs : Array Value} (h : OwnK evTy w A c ys) (hb : w.heap[g]? = some (.cells cs 25 (0, 0))) : ∀ a, A = some a → a.block ≠ g := by
 intro a ha q
 rcases h with ⟨h1, _⟩ | ⟨k, full, h1, h2, _⟩
 ·
  rw [h1] at ha; cases ha
 ·
  rw [h1] at ha
  cases ha
  simp only at q
  rw [q, hb] at h2
  simp [evTy] at h2
theorem arcS {w : World} {g : Nat} {a0 a1 : Value} (v0 v1 : Value) (h : w.heap[g]? = some (.cells #[a0, a1] 25 (0, 0))) :
  ((w.setCell ⟨g, 0, none⟩ v0).setCell ⟨g, 1, none⟩ v1).heap[g]? = some (.cells #[v0, v1] 25 (0, 0)) ∧ Chg [g] w ((w.setCell ⟨g, 0, none⟩ v0).setCell ⟨g, 1, none⟩ v1) := by
 have p0 := heap_setCell_same _ g 0 _ _ v0 h
 have p1 := heap_setCell_same _ g 1 _ _ v1 p0
 exact ⟨by simpa using p1, ((Chg.refl [g] w).setCell (p := ⟨g, 0, none⟩) (.inl (by simp)) _).setCell (p := ⟨g, 1, none⟩) (.inl (by simp)) _⟩
theorem arcS1 {w : World} {g : Nat} {a0 a1 : Value} (v1 : Value) (h : w.heap[g]? = some (.cells #[a0, a1] 25 (0, 0))) :
  (w.setCell ⟨g, 1, none⟩ v1).heap[g]? = some (.cells #[a0, v1] 25 (0, 0)) ∧ Chg [g] w (w.setCell ⟨g, 1, none⟩ v1) := by
 have p1 := heap_setCell_same _ g 1 _ _ v1 h
 exact ⟨by simpa using p1, (Chg.refl [g] w).setCell (p := ⟨g, 1, none⟩) (.inl (by simp)) _⟩
theorem joinE4 {α β γ δ : Type} {F R : α → β → γ → δ → World → Prop} {G : Prop} (h1 : (∀ a b c d e, F a b c d e → R a b c d e) → G) (h2 : ∀ a b c d e, F a b c d e → R a b c d e) : G := h1 h2
end
end Go.Proofs.YtehmchdhlhchjaaGreatDoor
