/- The program's Of. store.Shelf, Near, Missing, Known. store.Put, store.Join. Sixteen letters: a number's digits to the base 16: no memory here. strconv.FormatUint at the base 16, strings.Repeat of '0', print.Text. The fingerprint: through, More, Sum; the document's. print.Mix: the pieces of numbers, eight bytes each. Slices of numbers as arguments. The law's puts (layer 10). What a store misses of another one: purely. What is written is read as it was: no memory here. -/
import Derived.Test.YtehmchdhlhchjaaGreatDoorZepw
import Derived.Test.YtehmchdhlhchjaaGreatDoorZepn
import Derived.Test.YtehmchdhlhchjaaGreatDoorZepk
import Derived.Test.YtehmchdhlhchjaaGreatDoorZepb
import Derived.Deep.Cut
import Derived.Test.YtehmchdhlhchjaaGreatDoorZepv
import Derived.Test.YtehmchdhlhchjaaGreatDoorZepj
import Derived.RangeFuncCalls
import Derived.Test.YtehmchdhlhchjaaGreatDoorZepd
import Derived.Test.YtehmchdhlhchjaaGreatDoorZepu
import Derived.Test.YtehmchdhlhchjaaGreatDoorZepa
import Derived.Test.YtehmchdhlhchjaaGreatDoorZepq
set_option linter.unusedSimpArgs false
set_option linter.unusedVariables false
namespace Go.Proofs.YtehmchdhlhchjaaGreatDoor
section
open Go.RowKit Go.Lib


theorem fineDQ (n s : Int) : FineD n s ↔ FineQ n s := Iff.rfl
end
section
open Go.RowKit Go.Lib


set_option maxRecDepth 100000 in
set_option maxHeartbeats 4000000 in
theorem stmissing_any (w : World) (A : Option Addr) (c : Nat) (xs : List EvT) (es : List EvP) (K : Option Addr) (kc : Nat) (ks : List Sp) (h : RdK evTy w A xs.length xs) (hx : EvsR w xs es) (hn : xs.length ≤ 100000) (hk : RdK spanTy w K ks.length ks) (hkn : ks.length ≤ 140737488351232) (hs : ∀ e ∈ es, EvSm e ∧ e.q.length ≤ 100000) :
  Calls Tryz.prog 35 #[.slice A xs.length c, .slice K ks.length kc] w fun r w' => ∃ (A' : Option Addr) (c' : Nat) (zs : List EvT), r = .returned (.slice A' zs.length c') ∧ EsF w' w.heap.size w'.heap.size A' c' zs (es.filter (fun e => !hasE ks e.n e.s)) ∧ Chg [] w w' := by
 obtain ⟨w1, hw1, c1, b1⟩ := news1 w (.cells #[.slice K ks.length kc] 23)
 have W1 := h_ hw1
 have C1 := h_ c1
 have TH := h_ (stthose_any w1 A c xs es 71 #[.pointer (some ⟨w.heap.size, 0, none⟩)] (fun e => !hasE ks e.n e.s) (h.chg c1 (by simp)) (hx.chg c1) hn (fun e he => ⟨(hs e he).1.2.1, (hs e he).2⟩) (enters_of Tryz.func71 (by kernel_rfl) rfl) (fun w' hc i x e ex ee => stmissing1_any w' w.heap.size K kc ks x e (hc.at_ b1 (by simp)) (hk.chg (c1.trans hc) (by simp)) hkn ⟨(hx.2 i x e ex ee).n, (hx.2 i x e ex ee).s⟩))
 clear hw1 c1 b1 h hx hn hs
 go_enter Tryz.func35, Tryz.ntmps35
 go_upto_region 1 with fail
 rw [← W1.out]
 obtain ⟨g1, hg1⟩ : ∃ g, w.heap.size = g := ⟨_, rfl⟩
 rw [hg1] at TH ⊢
 clear W1; go_wp2_with fail
 refine TH.out.mono ?_
 rintro r w2 ⟨A2, c2, zs, rfl, hl, he, hc⟩
 have P := h_ (And.intro (he.low C1.out.size) (C1.out.trans hc))
 clear hl he hc TH; go_wp2; go_ret
 exact ⟨A2, c2, zs, rfl, P.out.1, P.out.2⟩
end
end Go.Proofs.YtehmchdhlhchjaaGreatDoor
