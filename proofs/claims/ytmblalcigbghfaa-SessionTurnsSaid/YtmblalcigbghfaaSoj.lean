/- The law's world: what holds of it after each turn (pure). The law's world: its beginning. Rows of turns; the law's longs. -/
import Derived.Test.YtmblalcigbghfaaSoa
import Derived.Test.YtmblalcigbghfaaSob
import Derived.Test.YtmblalcigbghfaaSturnargs
namespace Go.Proofs.Ytmblalcigbghfaa
section
set_option linter.unusedSimpArgs false
set_option linter.unusedVariables false
/-- What is in the air for one end. -/
def airT (air : List (PakT × Bool)) (f : Bool) : List PakT := (air.filter (fun x => x.2 == f)).map (·.1)
theorem mem_airT {air : List (PakT × Bool)} {f : Bool} {p : PakT} : p ∈ airT air f ↔ (p, f) ∈ air := by
  unfold airT
  simp only [List.mem_map, List.mem_filter, beq_iff_eq]
  constructor
  · rintro ⟨⟨q, b⟩, ⟨h1, h2⟩, rfl⟩
    simp only at h2
    subst h2
    exact h1
  · exact fun h => ⟨(p, f), ⟨h, rfl⟩, rfl⟩
theorem turned_recv {r : SesT} {p : PakT} (h : p.1 = r.peer) : (recvS r p).turned = r.turned := by
  have hm : meetS r p.1 = r := by unfold meetS; rw [if_neg (by omega)]
  have hd : ∀ a, (dropS r a).turned = r.turned := by intro a; unfold dropS; split <;> rfl
  unfold recvS
  split
  · rw [hm]
    split
    · split
      · exact hd _
      · unfold comeS oweS
        split <;> exact hd _
    · rfl
  · rfl
theorem turned_send (s : SesT) (b : List UInt8) : (sendS s b).turned = s.turned := by unfold sendS; split <;> rfl
structure Good (wo : WoT) (n : Nat) : Prop where
  ab : Way wo.sa wo.sb wo.s0 wo.t1 (airT wo.air true)
  ba : Way wo.sb wo.sa wo.s1 wo.t0 (airT wo.air false)
  air : wo.air.length ≤ 200
  l0 : wo.s0.length ≤ n
  l1 : wo.s1.length ≤ n
  tu : wo.sa.turned = 1 ∧ wo.sb.turned = 1
theorem Good.more {wo : WoT} {n m : Nat} (h : Good wo n) (hm : n ≤ m) : Good wo m := ⟨h.ab, h.ba, h.air, Nat.le_trans h.l0 hm, Nat.le_trans h.l1 hm, h.tu⟩
theorem good_tick_a {wo : WoT} {n : Nat} (h : Good wo n) : Good { wo with sa := tickS wo.sa } n := ⟨way_tick h.ab, way_tick' h.ba, h.air, h.l0, h.l1, h.tu⟩
theorem good_tick_b {wo : WoT} {n : Nat} (h : Good wo n) : Good { wo with sb := tickS wo.sb } n := ⟨way_tick' h.ab, way_tick h.ba, h.air, h.l0, h.l1, h.tu⟩
theorem good_send_ok_a {wo : WoT} {n : Nat} (h : Good wo n) (ys : List UInt8) (he : sendE wo.sa ys = 0) : Good { wo with sa := sendS wo.sa ys, s0 := wo.s0 ++ [ys] } (n + 1) :=
  ⟨by have := way_send h.ab ys; rwa [if_pos he] at this, way_send' h.ba ys, h.air, by have := h.l0; simp; omega, by have := h.l1; exact Nat.le_succ_of_le this, ⟨(turned_send _ _).trans h.tu.1, h.tu.2⟩⟩
theorem good_send_ok_b {wo : WoT} {n : Nat} (h : Good wo n) (ys : List UInt8) (he : sendE wo.sb ys = 0) : Good { wo with sb := sendS wo.sb ys, s1 := wo.s1 ++ [ys] } (n + 1) :=
  ⟨way_send' h.ab ys, by have := way_send h.ba ys; rwa [if_pos he] at this, h.air, by have := h.l0; exact Nat.le_succ_of_le this, by have := h.l1; simp; omega, ⟨h.tu.1, (turned_send _ _).trans h.tu.2⟩⟩
theorem good_send_no_a {wo : WoT} {n : Nat} (h : Good wo n) (ys : List UInt8) (he : ¬ sendE wo.sa ys = 0) : Good { wo with sa := sendS wo.sa ys } n :=
  ⟨by have := way_send h.ab ys; rwa [if_neg he] at this, way_send' h.ba ys, h.air, h.l0, h.l1, ⟨(turned_send _ _).trans h.tu.1, h.tu.2⟩⟩
theorem good_send_no_b {wo : WoT} {n : Nat} (h : Good wo n) (ys : List UInt8) (he : ¬ sendE wo.sb ys = 0) : Good { wo with sb := sendS wo.sb ys } n :=
  ⟨way_send' h.ab ys, by have := way_send h.ba ys; rwa [if_neg he] at this, h.air, h.l0, h.l1, ⟨h.tu.1, (turned_send _ _).trans h.tu.2⟩⟩
theorem airT_out {air : List (PakT × Bool)} (l : List PakT) (f : Bool) : airT (air ++ l.map (fun p => (p, f))) f = airT air f ++ l := by
  unfold airT
  simp [List.filter_append, List.filter_map, Function.comp_def]
theorem airT_out' {air : List (PakT × Bool)} (l : List PakT) (f g : Bool) (h : g ≠ f) : airT (air ++ l.map (fun p => (p, f))) g = airT air g := by
  unfold airT
  simp [List.filter_append, List.filter_map, Function.comp_def, h.symm]
theorem good_out_a {wo : WoT} {n j : Nat} (h : Good wo n) (hl : wo.air.length + min j (outL wo.sa).length ≤ 200) : Good { wo with sa := outS wo.sa, air := wo.air ++ ((outL wo.sa).take j).map (fun p => (p, true)) } n := by
  refine ⟨?_, ?_, by simpa using hl, h.l0, h.l1, h.tu⟩
  · change Way _ _ _ _ (airT (wo.air ++ _) true)
    rw [airT_out]
    exact way_out h.ab _ (fun p hp => List.mem_of_mem_take hp)
  · change Way _ _ _ _ (airT (wo.air ++ _) false)
    rw [airT_out' _ _ _ (by decide)]
    exact way_out' h.ba
theorem good_out_b {wo : WoT} {n j : Nat} (h : Good wo n) (hl : wo.air.length + min j (outL wo.sb).length ≤ 200) : Good { wo with sb := outS wo.sb, air := wo.air ++ ((outL wo.sb).take j).map (fun p => (p, false)) } n := by
  refine ⟨?_, ?_, by simpa using hl, h.l0, h.l1, h.tu⟩
  · change Way _ _ _ _ (airT (wo.air ++ _) true)
    rw [airT_out' _ _ _ (by decide)]
    exact way_out' h.ab
  · change Way _ _ _ _ (airT (wo.air ++ _) false)
    rw [airT_out]
    exact way_out h.ba _ (fun p hp => List.mem_of_mem_take hp)
/-- Less in the air. -/
theorem good_less {wo : WoT} {n : Nat} (h : Good wo n) (k : Nat) : Good { wo with air := wo.air.take k ++ wo.air.drop (k + 1) } n := by
  have sub : ∀ f, ∀ p ∈ airT (wo.air.take k ++ wo.air.drop (k + 1)) f, p ∈ airT wo.air f := fun f p hp => by
    rw [mem_airT] at hp ⊢
    rcases List.mem_append.1 hp with q | q
    · exact List.mem_of_mem_take q
    · exact List.mem_of_mem_drop q
  exact ⟨way_less h.ab (sub true), way_less h.ba (sub false), by have := h.air; simp; omega, h.l0, h.l1, h.tu⟩
theorem good_recv_b {wo : WoT} {n : Nat} (h : Good wo n) (p : PakT) (hp : PakOk wo.sa wo.sb wo.s0 p) : Good { wo with sb := takeS (recvS wo.sb p), t1 := wo.t1 ++ (recvS wo.sb p).inn } n :=
  ⟨way_take (way_recv h.ab p hp), way_take' (way_recv' h.ba p hp.frm hp.to hp.ack), h.air, h.l0, h.l1, ⟨h.tu.1, (turned_recv (hp.frm.trans h.ab.met1.symm)).trans h.tu.2⟩⟩
theorem good_recv_a {wo : WoT} {n : Nat} (h : Good wo n) (p : PakT) (hp : PakOk wo.sb wo.sa wo.s1 p) : Good { wo with sa := takeS (recvS wo.sa p), t0 := wo.t0 ++ (recvS wo.sa p).inn } n :=
  ⟨way_take' (way_recv' h.ab p hp.frm hp.to hp.ack), way_take (way_recv h.ba p hp), h.air, h.l0, h.l1, ⟨(turned_recv (hp.frm.trans h.ba.met1.symm)).trans h.tu.1, h.tu.2⟩⟩
theorem good_take_b {wo : WoT} {n : Nat} (h : Good wo n) : Good { wo with sb := takeS wo.sb, t1 := wo.t1 ++ wo.sb.inn } n := ⟨way_take h.ab, way_take' h.ba, h.air, h.l0, h.l1, h.tu⟩
theorem good_take_a {wo : WoT} {n : Nat} (h : Good wo n) : Good { wo with sa := takeS wo.sa, t0 := wo.t0 ++ wo.sa.inn } n := ⟨way_take' h.ab, way_take h.ba, h.air, h.l0, h.l1, h.tu⟩
theorem Good.pak_t {wo : WoT} {n k : Nat} (h : Good wo n) {p : PakT} (hp : wo.air[k]? = some (p, true)) : PakOk wo.sa wo.sb wo.s0 p := h.ab.air p (mem_airT.2 (List.mem_of_getElem? hp))
theorem Good.pak_f {wo : WoT} {n k : Nat} (h : Good wo n) {p : PakT} (hp : wo.air[k]? = some (p, false)) : PakOk wo.sb wo.sa wo.s1 p := h.ba.air p (mem_airT.2 (List.mem_of_getElem? hp))
/-- What was taken, and what came, are no more than was sent. -/
theorem Good.t_le {wo : WoT} {n : Nat} (h : Good wo n) : wo.t1.length + wo.sb.inn.length ≤ n ∧ wo.t0.length + wo.sa.inn.length ≤ n := by
  have h1 := h.ab.lens
  have h2 := h.ba.lens
  have h3 := h.l0
  have h4 := h.l1
  simp only [List.length_append] at h1 h2
  omega
end
section
open Go.RowKit Go.Lib
set_option linter.unusedSimpArgs false
set_option linter.unusedVariables false
theorem good_met (e f : Int) : Good ⟨metA e f, metB e f, [], [], [], [], []⟩ 0 := ⟨(met_way e f).1, (met_way e f).2, by simp, by simp, by simp, ⟨rfl, rfl⟩⟩
theorem Two.wl {w0 w : World} {a b K : Nat} {sa sb : SesT} (h : Two w0 w a b K sa sb) :
    WL w0.heap.size (w.alloc (.cells #[.pointer (some ⟨a, 0, none⟩), .pointer (some ⟨b, 0, none⟩), .slice none 0 0, .slice none 0 0, .slice none 0 0, .slice none 0 0, .slice none 0 0] 55)) w.heap.size a b K ⟨sa, sb, [], [], [], [], []⟩ := by
  obtain ⟨A, D, A', D', h1, h2, h3, h4⟩ := h
  have L1 := h1.lt
  have L2 := h2.lt
  have hc : Chg [] w (w.alloc (.cells #[.pointer (some ⟨a, 0, none⟩), .pointer (some ⟨b, 0, none⟩), .slice none 0 0, .slice none 0 0, .slice none 0 0, .slice none 0 0, .slice none 0 0] 55)) := (Chg.refl [] w).alloc _
  have lp : ∀ F, ListP (w.alloc (.cells #[.pointer (some ⟨a, 0, none⟩), .pointer (some ⟨b, 0, none⟩), .slice none 0 0, .slice none 0 0, .slice none 0 0, .slice none 0 0, .slice none 0 0] 55)) F [] [] := fun F => ⟨rfl, by simp⟩
  have ia : ∀ z ∈ a :: blkOf A, z < w.heap.size ∧ z ∉ D := by
    obtain ⟨s, lt, q⟩ := h1
    intro z hz
    rcases List.mem_cons.1 hz with e | e
    · rw [e]; exact ⟨L1.1, q.nb⟩
    · obtain ⟨y, hy, rfl⟩ := of_blkOf e
      exact ⟨L1.2.1 y hy, (q.far y hy).2⟩
  have ib : ∀ z ∈ b :: blkOf A', z < w.heap.size ∧ z ∉ D' := by
    obtain ⟨s, lt, q⟩ := h2
    intro z hz
    rcases List.mem_cons.1 hz with e | e
    · rw [e]; exact ⟨L2.1, q.nb⟩
    · obtain ⟨y, hy, rfl⟩ := of_blkOf e
      exact ⟨L2.2.1 y hy, (q.far y hy).2⟩
  have sa' : ∀ z, z ∈ a :: (blkOf A ++ D) → w0.heap.size ≤ z ∧ z ∉ b :: (blkOf A' ++ D') := fun z hz => ⟨(h3.1 z hz).1, (h3.1 z hz).2.1⟩
  have sb' : ∀ z, z ∈ b :: (blkOf A' ++ D') → w0.heap.size ≤ z := fun z hz => (h3.2 z hz).1
  have ma : ∀ z, z ∈ a :: blkOf A → z ∈ a :: (blkOf A ++ D) := fun z hz => by simp at hz ⊢; rcases hz with e | e <;> simp [e]
  have mb : ∀ z, z ∈ b :: blkOf A' → z ∈ b :: (blkOf A' ++ D') := fun z hz => by simp at hz ⊢; rcases hz with e | e <;> simp [e]
  have md : ∀ z, z ∈ D → z ∈ a :: (blkOf A ++ D) := fun z hz => by simp [hz]
  have md' : ∀ z, z ∈ D' → z ∈ b :: (blkOf A' ++ D') := fun z hz => by simp [hz]
  refine ⟨none, 0, [], none, 0, [], none, 0, [], none, 0, [], none, 0, [], A, D, A', D', D ++ D', heap_alloc_new _ _, OwnK.none_ _, ⟨rfl, by simp⟩, OwnK.none_ _, lp _, OwnK.none_ _, lp _, OwnK.none_ _, lp _, OwnK.none_ _, lp _, h1.chg hc (by simp) (by simp) (by simp), fun z hz => List.mem_append_left _ hz, h2.chg hc (by simp) (by simp) (by simp), fun z hz => List.mem_append_right _ hz, ?_, ?_⟩
  · have n0 : blkOf (none : Option Addr) = [] := rfl
    rw [n0]
    unfold Pw
    refine List.Pairwise.cons ?_ (List.Pairwise.cons (by simp) (List.Pairwise.cons (by simp) (List.Pairwise.cons (by simp) (List.Pairwise.cons (by simp) (List.Pairwise.cons (by simp) (List.Pairwise.cons ?_ (List.Pairwise.cons ?_ (List.Pairwise.cons (by simp) List.Pairwise.nil))))))))
    · intro l hl z hz hm
      simp only [List.mem_singleton] at hz
      subst hz
      simp only [List.mem_cons, List.not_mem_nil, or_false] at hl
      rcases hl with rfl | rfl | rfl | rfl | rfl | rfl | rfl | rfl
      · simp at hm
      · simp at hm
      · simp at hm
      · simp at hm
      · simp at hm
      · have := (ia _ hm).1; omega
      · have := (ib _ hm).1; omega
      · rcases List.mem_append.1 hm with q | q
        · have := L1.2.2 _ q; omega
        · have := L2.2.2 _ q; omega
    · intro l hl z hz hm
      simp only [List.mem_cons, List.not_mem_nil, or_false] at hl
      rcases hl with rfl | rfl
      · exact (sa' z (ma z hz)).2 (mb z hm)
      · rcases List.mem_append.1 hm with q | q
        · exact (ia z hz).2 q
        · exact (sa' z (ma z hz)).2 (md' z q)
    · intro l hl z hz hm
      simp only [List.mem_cons, List.not_mem_nil, or_false] at hl
      subst hl
      rcases List.mem_append.1 hm with q | q
      · exact (sa' z (md z q)).2 (mb z hz)
      · exact (ib z hz).2 q
  · intro l hl z hz
    have sz := hc.size
    have gsz : w.heap.size < (w.alloc (.cells #[.pointer (some ⟨a, 0, none⟩), .pointer (some ⟨b, 0, none⟩), .slice none 0 0, .slice none 0 0, .slice none 0 0, .slice none 0 0, .slice none 0 0] 55)).heap.size := lt_of_heap (heap_alloc_new _ _)
    have n0 : blkOf (none : Option Addr) = [] := rfl
    rw [n0] at hl
    simp only [List.mem_cons, List.not_mem_nil, or_false] at hl
    have hw := h4.size
    rcases hl with rfl | rfl | rfl | rfl | rfl | rfl | rfl | rfl | rfl
    · simp only [List.mem_singleton] at hz
      subst hz
      exact ⟨hw, gsz⟩
    · simp at hz
    · simp at hz
    · simp at hz
    · simp at hz
    · simp at hz
    · exact ⟨(sa' z (ma z hz)).1, by have := (ia z hz).1; omega⟩
    · exact ⟨sb' z (mb z hz), by have := (ib z hz).1; omega⟩
    · rcases List.mem_append.1 hz with q | q
      · exact ⟨(sa' z (md z q)).1, by have := L1.2.2 z q; omega⟩
      · exact ⟨sb' z (md' z q), by have := L2.2.2 z q; omega⟩
end
section
open Go.RowKit Go.Lib
set_option linter.unusedSimpArgs false
set_option linter.unusedVariables false


def LongsP (zs : List TurnV) (e : Ending) : Prop := ∃ bb, e = .returned (.bool bb) ∧ (bb = false → zs.length ≤ 120 ∧ ∀ x ∈ zs, x.2.2.2.2.1 ≤ 400)
theorem LongsP.mk {zs : List TurnV} {bb : Bool} (h : bb = false → zs.length ≤ 120 ∧ ∀ x ∈ zs, x.2.2.2.2.1 ≤ 400) : LongsP zs (.returned (.bool bb)) := ⟨bb, rfl, h⟩
theorem longs_nil (w : World) (A : Option Addr) (c : Nat) : Calls Try.prog 21 #[.slice A 0 c] w fun e w' => LongsP [] e ∧ w' = w := by
  have h0 : ((0 : Nat) : Int) = 0 := rfl
  go_enter Try.func21, Try.ntmps21
  go_wp2
  go_loopw [3] (fun v wr => v = .int .i64 0 ∧ w = wr) (fun _ _ => 0)
  case atStart => exact ⟨rfl, rfl⟩
  case round =>
    obtain ⟨rfl, rfl⟩ := hrel
    go_wp2
    go_ret
    exact ⟨LongsP.mk (by simp), rfl⟩
set_option maxHeartbeats 4000000 in
theorem longs_row (w : World) (g o n c : Nat) (zs : List TurnV) (h : RdK turnTy w (some ⟨g, o, none⟩) n zs) (hn : n ≤ 4398046511104) (hu : ∀ x ∈ zs, x.2.2.2.2.1 ≤ 140737488351232) :
    Calls Try.prog 21 #[.slice (some ⟨g, o, none⟩) n c] w fun e w' => LongsP zs e ∧ w' = w := by
  have H := Lib.hid h
  have HU := Lib.hid hu
  have HL := Lib.hid h.len
  clear h hu
  go_enter Try.func21, Try.ntmps21
  go_wp2
  go_loopw [3] (fun v wr => ∃ j : Nat, j ≤ n ∧ v = .int .i64 (j : Int) ∧ Hid (∀ i x, i < j → zs[i]? = some x → x.2.2.2.2.1 ≤ 400) ∧ w = wr) (fun v _ => n - (RowKit.intOf v).toNat)
  case atStart => exact ⟨0, Nat.zero_le _, rfl, Lib.hid (fun i x h => by omega), rfl⟩
  case round =>
    obtain ⟨j, hj, rfl, HJ, rfl⟩ := hrel
    have i0 : (0 : Int) ≤ (j : Int) := by omega
    have i1 : IntKind.i64.wrap ((j : Int) + 1) = (j : Int) + 1 := IntWalk.i64_in _ (by omega)
    by_cases hlt : j < n
    · have i2 : (j : Int) < (n : Int) := by omega
      obtain ⟨x, hx⟩ : ∃ x, zs[j]? = some x := ⟨_, List.getElem?_eq_getElem (by have := HL.out; omega)⟩
      obtain ⟨-, -, -, q5⟩ := turnCells H.out hx
      have hxn := HU.out x (List.mem_of_getElem? hx)
      have HX := Lib.hid hx
      obtain ⟨x1, x2, x3, xA, xn, xd⟩ := x
      dsimp only at q5 hxn
      clear hx
      by_cases hb : 400 < xn
      · have i3 : (400 : Int) < (xn : Int) := by omega
        go_wp2
        go_ret
        exact ⟨LongsP.mk (by simp), rfl⟩
      · have i3 : ¬ (400 : Int) < (xn : Int) := by omega
        go_wp2
        go_round
        case measure => simp [RowKit.intOf]; omega
        refine ⟨j + 1, by omega, by go_num, Lib.hid (fun i y hi hy => ?_), trivial⟩
        by_cases e : i = j
        · subst e
          rw [HX.out] at hy
          cases hy
          exact Nat.le_of_not_lt hb
        · exact HJ.out i y (by omega) hy
    · have i2 : ¬ (j : Int) < (n : Int) := by omega
      go_wp2
      go_ret
      exact ⟨LongsP.mk (fun h => by
        have := of_decide_eq_false h
        have hL := HL.out
        refine ⟨by omega, fun x hx => ?_⟩
        obtain ⟨i, hi, rfl⟩ := List.getElem_of_mem hx
        exact HJ.out i _ (by omega) (List.getElem?_eq_getElem hi)), rfl⟩
theorem longs_any (w : World) (A : Option Addr) (n c : Nat) (zs : List TurnV) (h : RdK turnTy w A n zs) (hn : n ≤ 4398046511104) (hu : ∀ x ∈ zs, x.2.2.2.2.1 ≤ 140737488351232) :
    Calls Try.prog 21 #[.slice A n c] w fun e w' => LongsP zs e ∧ w' = w := by
  by_cases h0 : n = 0
  · subst h0
    obtain rfl : zs = [] := List.eq_nil_of_length_eq_zero h.len
    exact longs_nil w A c
  · obtain ⟨g, o, rfl, _⟩ := h.line (by omega)
    exact longs_row w g o n c zs h hn hu
end
end Go.Proofs.Ytmblalcigbghfaa
