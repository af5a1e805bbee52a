/- Two ends meet. The law's world: its ledger. The law's world, one part of it changed. The law's turn: what is asked of it. The law's turn: the pieces of the hand. -/
import Derived.Test.YtmblalcigbghfaaSoa
namespace Go.Proofs.Ytmblalcigbghfaa
section
open Go.RowKit Go.Lib
set_option linter.unusedSimpArgs false
set_option linter.unusedVariables false


/-- Two ends that know one another, at rest: the one that began, the other one. -/
def metA (e f : Int) : SesT := ⟨e, f, [], 1, 0, [], true, 1⟩
def metB (e f : Int) : SesT := ⟨f, e, [], 1, 0, [], false, 1⟩
theorem met_out1 (e : Int) : outL (newS e) = [(e, 0, 0, 0, [])] := rfl
theorem met_st1 (e : Int) : outS (newS e) = { newS e with owes := false } := rfl
theorem met_in1 {e f : Int} (he : 1 ≤ e ∧ e ≤ 1099511627776) (hf : 1 ≤ f) : recvS (newS f) (e, 0, 0, 0, []) = { metB e f with owes := true } := by
  unfold recvS
  have hm : Minds (newS f) (e, 0, 0, 0, []) := ⟨by simp only [newS]; omega, he.1, he.2, by simp, by simp, by simp, by simp, by simp⟩
  rw [if_pos hm, if_neg (by simp only [newS]; omega)]
  unfold meetS
  rw [if_pos (by simp only [newS]; omega)]
  rfl
theorem met_out2 (e f : Int) : outL { metB e f with owes := true } = [(f, e, 0, 0, [])] := rfl
theorem met_st2 (e f : Int) : outS { metB e f with owes := true } = metB e f := rfl
theorem met_in2 {e f : Int} (he : 1 ≤ e) (hf : 1 ≤ f ∧ f ≤ 1099511627776) : recvS { newS e with owes := false } (f, e, 0, 0, []) = metA e f := by
  unfold recvS
  have hm : Minds { newS e with owes := false } (f, e, 0, 0, []) := ⟨by simp only [newS]; omega, hf.1, hf.2, by simp only; omega, by simp, by simp, by simp, by simp⟩
  rw [if_pos hm, if_pos (show ((f, e, 0, 0, []) : PakT).2.1 = ({ newS e with owes := false } : SesT).ep from rfl), if_pos (show ((f, e, 0, 0, []) : PakT).2.2.1 = 0 from rfl)]
  have h2 : meetS { newS e with owes := false } f = turnS { newS e with owes := false } f := if_pos (by simp only [newS]; omega)
  rw [show ((f, e, 0, 0, []) : PakT).1 = f from rfl, h2]
  rfl
theorem met_way (e f : Int) : Way (metA e f) (metB e f) [] [] [] ∧ Way (metB e f) (metA e f) [] [] [] :=
  ⟨⟨rfl, rfl, rfl, rfl, ⟨0, rfl, Nat.le_refl _, rfl⟩, by simp⟩, ⟨rfl, rfl, rfl, rfl, ⟨0, rfl, Nat.le_refl _, rfl⟩, by simp⟩⟩
theorem Two.peer {w0 w : World} {a b K : Nat} {sa sb : SesT} (h : Two w0 w a b K sa sb) : Calls Try.prog 29 #[.pointer (some ⟨a, 0, none⟩)] w fun e w' => e = .returned (.int .i64 sa.peer) ∧ w' = w := by
  obtain ⟨A, D, A', D', h1, _⟩ := h
  exact peerL h1
set_option maxHeartbeats 4000000 in
set_option maxRecDepth 100000 in
theorem met_two (w : World) (e f : Int) (he : 1 ≤ e ∧ e ≤ 1099511627776) (hf : 1 ≤ f ∧ f ≤ 1099511627776) :
    Calls Try.prog 19 #[.int .i64 e, .int .i64 f] w fun r w' => ∃ a b, r = .returned (.tuple #[.pointer (some ⟨a, 0, none⟩), .pointer (some ⟨b, 0, none⟩)]) ∧ Two w w' a b 60 (metA e f) (metB e f) := by
  have HE := Lib.hid he
  have HF := Lib.hid hf
  clear he hf
  go_enter Try.func19, Try.ntmps19
  go_wp2_with fail
  refine (senew_any w e HE.out.1 HE.out.2).mono ?_
  rintro r w1 ⟨a, rfl, hq, hb, hc⟩
  have HS := Lib.hid (newL hq HE.out)
  have HA := Lib.hid hb
  have C1 := Lib.hid hc
  clear hq hb hc
  go_wp2_with fail
  refine (senew_any w1 f HF.out.1 HF.out.2).mono ?_
  rintro r w2 ⟨b, rfl, hq, hb, hc⟩
  have TW : Hid (Two w w2 a b 0 (newS e) (newS f)) := Lib.hid ⟨none, [], none, [], HS.out.chg hc (by simp) (by simp) (by simp), newL hq HF.out, ⟨fun z hz => by
    have := HS.out.lt.1
    have := HA.out
    simp [blkOf] at hz
    subst hz
    exact ⟨by omega, by simp [blkOf]; omega, by simp⟩, fun z hz => by
    have := C1.out.size
    simp [blkOf] at hz
    subst hz
    exact ⟨by omega, by simp⟩⟩, C1.out.trans hc⟩
  clear hq hb hc HS HA C1
  go_wp2_with fail
  refine (hands_two w w2 a b 0 _ _ TW.out (by omega)).mono ?_
  rintro r w3 ⟨rfl, ht⟩
  rw [met_out1, met_st1, List.foldl_cons, List.foldl_nil, met_in1 HE.out HF.out.1] at ht
  have T3 := Lib.hid ht
  clear ht TW
  go_wp2_with fail
  refine (hands_two w w3 b a 20 _ _ T3.out.swap (by omega)).mono ?_
  rintro r w4 ⟨rfl, ht⟩
  rw [met_out2, met_st2, List.foldl_cons, List.foldl_nil, met_in2 HE.out.1 HF.out] at ht
  have T4 := Lib.hid ht.swap
  clear ht T3
  have ne1 : (f != f) = false := by simp
  have ne2 : (e != e) = false := by simp
  go_wp2_with fail
  refine T4.out.peer.mono ?_
  rintro r w5 ⟨rfl, rfl⟩
  simp only [metA]
  go_wp2_with fail
  refine T4.out.swap.peer.mono ?_
  rintro r w6 ⟨rfl, rfl⟩
  simp only [metB]
  go_wp2
  go_ret2
  exact ⟨a, b, rfl, T4.out.more (by omega)⟩
end
section
open Go.RowKit Go.Lib
set_option linter.unusedSimpArgs false
set_option linter.unusedVariables false


/-- A packet in the air: its cells, and whether it goes to the second end. -/
abbrev FlV := PakV × Bool
def flTy : RowTy FlV where
  enc := fun x => [.int .i64 x.1.1, .int .i64 x.1.2.1, .int .i64 x.1.2.2.1, .int .i64 x.1.2.2.2.1, .slice x.1.2.2.2.2.1 x.1.2.2.2.2.2.1 x.1.2.2.2.2.2.2, .bool x.2]
  k := 6
  T := 63
  TS := 52
  z := ((0, 0, 0, 0, none, 0, 0), false)
  zv := .agg #[.int .i64 0, .int .i64 0, .int .i64 0, .int .i64 0, .slice none 0 0, .bool false]
  bytes := 64
  klen := fun _ => rfl
  one := by intro x v hv; simp at hv; rcases hv with rfl | rfl | rfl | rfl | rfl | rfl <;> rfl
  zc := rfl
  kpos := by decide
  bpos := by decide
  under := by kernel_rfl
  info := by kernel_rfl
theorem flCells {w : World} {g o n j : Nat} {xs : List FlV} (h : RdK flTy w (some ⟨g, o, none⟩) n xs) {x : FlV} (hx : xs[j]? = some x) : w.cell? ⟨g, o + j * 6, none⟩ = some (.int .i64 x.1.1) ∧ w.cell? ⟨g, o + j * 6 + 1, none⟩ = some (.int .i64 x.1.2.1) ∧ w.cell? ⟨g, o + j * 6 + 2, none⟩ = some (.int .i64 x.1.2.2.1) ∧ w.cell? ⟨g, o + j * 6 + 3, none⟩ = some (.int .i64 x.1.2.2.2.1) ∧ w.cell? ⟨g, o + j * 6 + 4, none⟩ = some (.slice x.1.2.2.2.2.1 x.1.2.2.2.2.2.1 x.1.2.2.2.2.2.2) ∧ w.cell? ⟨g, o + j * 6 + 5, none⟩ = some (.bool x.2) :=
  ⟨h.at_ j 0 x _ hx rfl, h.at_ j 1 x _ hx rfl, h.at_ j 2 x _ hx rfl, h.at_ j 3 x _ hx rfl, h.at_ j 4 x _ hx rfl, h.at_ j 5 x _ hx rfl⟩
/-- What is in the air. -/
def FlP (w : World) (F : List Nat) (x : FlV) (p : PakT × Bool) : Prop := x.1.1 = p.1.1 ∧ x.1.2.1 = p.1.2.1 ∧ x.1.2.2.1 = p.1.2.2.1 ∧ x.1.2.2.2.1 = p.1.2.2.2.1 ∧ Bs w x.1.2.2.2.2.1 x.1.2.2.2.2.2.1 p.1.2.2.2.2 ∧ p.1.2.2.2.2.length ≤ 400 ∧ (∀ y, x.1.2.2.2.2.1 = some y → y.block ∈ F) ∧ x.2 = p.2
def AirP (w : World) (F : List Nat) (l : List FlV) (ps : List (PakT × Bool)) : Prop := l.length = ps.length ∧ ∀ (i : Nat) (x : FlV) (p : PakT × Bool), l[i]? = some x → ps[i]? = some p → FlP w F x p
theorem AirP.chg {w w' : World} {S F : List Nat} {l : List FlV} {ps : List (PakT × Bool)} (h : AirP w F l ps) (hc : Chg S w w') (hd : ∀ z ∈ F, z ∉ S) : AirP w' F l ps :=
  ⟨h.1, fun i x p hx hp => by
    obtain ⟨a1, a2, a3, a4, a5, a6, a7, a8⟩ := h.2 i x p hx hp
    exact ⟨a1, a2, a3, a4, a5.chg hc (fun y hy => hd _ (a7 y hy)), a6, a7, a8⟩⟩
theorem AirP.more {w : World} {F F' : List Nat} {l : List FlV} {ps : List (PakT × Bool)} (h : AirP w F l ps) (hd : ∀ z ∈ F, z ∈ F') : AirP w F' l ps :=
  ⟨h.1, fun i x p hx hp => by
    obtain ⟨a1, a2, a3, a4, a5, a6, a7, a8⟩ := h.2 i x p hx hp
    exact ⟨a1, a2, a3, a4, a5, a6, fun y hy => hd _ (a7 y hy), a8⟩⟩
/-- Two ends, what is in the air, what each was sent to send, and took. -/
structure WoT where
  sa : SesT
  sb : SesT
  air : List (PakT × Bool)
  s0 : List (List UInt8)
  s1 : List (List UInt8)
  t0 : List (List UInt8)
  t1 : List (List UInt8)
/-- Lists of blocks, each apart from the others. -/
def Pw (pl : List (List Nat)) : Prop := pl.Pairwise (fun x y => ∀ z ∈ x, z ∉ y)
theorem Pw.pick {pl : List (List Nat)} (h : Pw pl) {i j : Nat} {x y : List Nat} (hi : pl[i]? = some x) (hj : pl[j]? = some y) (hne : i ≠ j) : ∀ z ∈ x, z ∉ y := by
  intro z hz hm
  have hi' := List.getElem?_eq_some_iff.1 hi
  have hj' := List.getElem?_eq_some_iff.1 hj
  obtain ⟨li, ei⟩ := hi'
  obtain ⟨lj, ej⟩ := hj'
  have hp := List.pairwise_iff_getElem.1 h
  rcases Nat.lt_or_ge i j with hlt | hge
  · exact hp i j li lj hlt z (by rw [ei]; exact hz) (by rw [ej]; exact hm)
  · exact hp j i lj li (by omega) z (by rw [ej]; exact hm) (by rw [ei]; exact hz)
theorem Pw.set {pl : List (List Nat)} (h : Pw pl) (i : Nat) {x x' : List Nat} {m : Nat} (hi : pl[i]? = some x) (hm : ∀ l ∈ pl, ∀ z ∈ l, z < m) (hx : ∀ z ∈ x', z ∈ x ∨ m ≤ z) : Pw (pl.set i x') := by
  have li := (List.getElem?_eq_some_iff.1 hi).1
  refine List.pairwise_iff_getElem.2 (fun p q hp hq hlt z hz hm2 => ?_)
  rw [List.length_set] at hp hq
  have old : ∀ r (hr : r < pl.length), r ≠ i → z ∈ pl[r] → z ∉ x' := fun r hr hne hzr hzx => by
    rcases hx z hzx with e | e
    · exact h.pick (List.getElem?_eq_getElem hr) hi hne z hzr e
    · have := hm _ (List.getElem_mem hr) z hzr
      omega
  rw [List.getElem_set] at hz hm2
  split at hz
  · rename_i e
    subst e
    rw [if_neg (by omega)] at hm2
    exact old q hq (by omega) hm2 hz
  · rename_i e
    split at hm2
    · rename_i e2
      exact old p hp (fun e3 => e e3.symm) hz hm2
    · exact h.pick (List.getElem?_eq_getElem hp) (List.getElem?_eq_getElem hq) (by omega) z hz hm2
structure WP (n : Nat) (w : World) (g a b K : Nat) (wo : WoT) (Ar : Option Addr) (cr : Nat) (lr : List FlV) (P0 : Option Addr) (c0 : Nat) (l0 : List SlV) (P1 : Option Addr) (c1 : Nat) (l1 : List SlV) (Q0 : Option Addr) (d0 : Nat) (m0 : List SlV) (Q1 : Option Addr) (d1 : Nat) (m1 : List SlV) (Aa : Option Addr) (Da : List Nat) (Ab : Option Addr) (Db : List Nat) (F : List Nat) : Prop where
  hg : w.heap[g]? = some (.cells #[.pointer (some ⟨a, 0, none⟩), .pointer (some ⟨b, 0, none⟩), .slice Ar lr.length cr, .slice P0 l0.length c0, .slice P1 l1.length c1, .slice Q0 m0.length d0, .slice Q1 m1.length d1] 55 (0, 0))
  oa : OwnK flTy w Ar cr lr
  pa : AirP w F lr wo.air
  o0 : OwnK lstTy w P0 c0 l0
  p0 : ListP w F l0 wo.s0
  o1 : OwnK lstTy w P1 c1 l1
  p1 : ListP w F l1 wo.s1
  q0 : OwnK lstTy w Q0 d0 m0
  r0 : ListP w F m0 wo.t0
  q1 : OwnK lstTy w Q1 d1 m1
  r1 : ListP w F m1 wo.t1
  sa : SesL K w a Aa Da wo.sa
  fa : ∀ z ∈ Da, z ∈ F
  sb : SesL K w b Ab Db wo.sb
  fb : ∀ z ∈ Db, z ∈ F
  pw : Pw ([[g], blkOf Ar, blkOf P0, blkOf P1, blkOf Q0, blkOf Q1, a :: blkOf Aa, b :: blkOf Ab, F] : List (List Nat))
  lo : ∀ l ∈ ([[g], blkOf Ar, blkOf P0, blkOf P1, blkOf Q0, blkOf Q1, a :: blkOf Aa, b :: blkOf Ab, F] : List (List Nat)), ∀ z ∈ l, n ≤ z ∧ z < w.heap.size
/-- The law's world at g. -/
def WL (n : Nat) (w : World) (g a b K : Nat) (wo : WoT) : Prop := ∃ Ar cr lr P0 c0 l0 P1 c1 l1 Q0 d0 m0 Q1 d1 m1 Aa Da Ab Db F, WP n w g a b K wo Ar cr lr P0 c0 l0 P1 c1 l1 Q0 d0 m0 Q1 d1 m1 Aa Da Ab Db F

theorem WL.off {n : Nat} {w w' : World} {S : List Nat} {g a b K : Nat} {wo : WoT} (h : WL n w g a b K wo) (hc : Chg S w w') (hs : ∀ z ∈ S, z < n ∨ w.heap.size ≤ z) : WL n w' g a b K wo := by
  obtain ⟨Ar, cr, lr, P0, c0, l0, P1, c1, l1, Q0, d0, m0, Q1, d1, m1, Aa, Da, Ab, Db, F, h⟩ := h
  have out : ∀ l ∈ ([[g], blkOf Ar, blkOf P0, blkOf P1, blkOf Q0, blkOf Q1, a :: blkOf Aa, b :: blkOf Ab, F] : List (List Nat)), ∀ z ∈ l, z ∉ S := fun l hl z hz hm => by
    have := h.lo l hl z hz
    have := hs z hm
    omega
  have o : ∀ (i : Nat) (x : List Nat), ([[g], blkOf Ar, blkOf P0, blkOf P1, blkOf Q0, blkOf Q1, a :: blkOf Aa, b :: blkOf Ab, F] : List (List Nat))[i]? = some x → ∀ z ∈ x, z ∉ S := fun i x hi => out x (List.mem_of_getElem? hi)
  exact ⟨Ar, cr, lr, P0, c0, l0, P1, c1, l1, Q0, d0, m0, Q1, d1, m1, Aa, Da, Ab, Db, F, hc.at_ h.hg (o 0 _ rfl g (by simp)), h.oa.chg hc (fun y hy => o 1 _ rfl _ (mem_blkOf hy)), h.pa.chg hc (o 8 _ rfl), h.o0.chg hc (fun y hy => o 2 _ rfl _ (mem_blkOf hy)), h.p0.chg hc (o 8 _ rfl), h.o1.chg hc (fun y hy => o 3 _ rfl _ (mem_blkOf hy)), h.p1.chg hc (o 8 _ rfl), h.q0.chg hc (fun y hy => o 4 _ rfl _ (mem_blkOf hy)), h.r0.chg hc (o 8 _ rfl), h.q1.chg hc (fun y hy => o 5 _ rfl _ (mem_blkOf hy)), h.r1.chg hc (o 8 _ rfl), h.sa.chg hc (o 6 _ rfl a (by simp)) (fun y hy => o 6 _ rfl _ (by simp [mem_blkOf hy])) (fun z hz => o 8 _ rfl z (h.fa z hz)), h.fa, h.sb.chg hc (o 7 _ rfl b (by simp)) (fun y hy => o 7 _ rfl _ (by simp [mem_blkOf hy])) (fun z hz => o 8 _ rfl z (h.fb z hz)), h.fb, h.pw, fun l hl z hz => ⟨(h.lo l hl z hz).1, Nat.lt_of_lt_of_le (h.lo l hl z hz).2 hc.size⟩⟩
end
section
open Go.RowKit Go.Lib
set_option linter.unusedSimpArgs false
set_option linter.unusedVariables false


theorem Pw.put {pl : List (List Nat)} (h : Pw pl) (i : Nat) {x' : List Nat} (hx : ∀ j y, j ≠ i → pl[j]? = some y → ∀ z ∈ x', z ∉ y) : Pw (pl.set i x') := by
  refine List.pairwise_iff_getElem.2 (fun p q hp hq hlt z hz hm2 => ?_)
  rw [List.length_set] at hp hq
  rw [List.getElem_set] at hz hm2
  split at hz
  · rename_i e
    subst e
    rw [if_neg (by omega)] at hm2
    exact hx q _ (by omega) (List.getElem?_eq_getElem hq) z hz hm2
  · rename_i e
    split at hm2
    · rename_i e2
      exact hx p _ (fun e3 => e e3.symm) (List.getElem?_eq_getElem hp) z hm2 hz
    · exact h.pick (List.getElem?_eq_getElem hp) (List.getElem?_eq_getElem hq) (by omega) z hz hm2
/-- The frozen blocks grow, and one part turns: what is new is fresh. -/
theorem Pw.turn {pl : List (List Nat)} (h : Pw pl) (i k : Nat) {x x' F F2 : List Nat} {m : Nat} (hi : pl[i]? = some x) (hk : pl[k]? = some F) (hik : i ≠ k) (hm : ∀ l ∈ pl, ∀ z ∈ l, z < m) (hF : ∀ z ∈ F2, m ≤ z) (hx : ∀ z ∈ x', z ∈ x ∨ m ≤ z) (hFx : ∀ z ∈ F2, z ∉ x') : Pw ((pl.set k (F2 ++ F)).set i x') := by
  have h2 : Pw (pl.set k (F2 ++ F)) := h.set k hk hm (fun z hz => (List.mem_append.1 hz).elim (fun e => .inr (hF z e)) .inl)
  refine h2.put i (fun j y hj hy z hz hzy => ?_)
  by_cases e : j = k
  · subst e
    have lk := (List.getElem?_eq_some_iff.1 hk).1
    rw [List.getElem?_set_self lk] at hy
    cases hy
    rcases List.mem_append.1 hzy with e | e
    · exact hFx z e hz
    · rcases hx z hz with e2 | e2
      · exact h.pick hi hk hik z e2 e
      · have := hm _ (List.mem_of_getElem? hk) z e; omega
  · rw [List.getElem?_set_ne (fun h => e h.symm)] at hy
    rcases hx z hz with e2 | e2
    · exact h.pick hi hy (fun h => hj h.symm) z e2 hzy
    · have := hm _ (List.mem_of_getElem? hy) z hzy; omega

theorem WP.off {n : Nat} {w : World} {g a b K : Nat} {wo : WoT} {Ar : Option Addr} {cr : Nat} {lr : List FlV} {P0 : Option Addr} {c0 : Nat} {l0 : List SlV} {P1 : Option Addr} {c1 : Nat} {l1 : List SlV} {Q0 : Option Addr} {d0 : Nat} {m0 : List SlV} {Q1 : Option Addr} {d1 : Nat} {m1 : List SlV} {Aa : Option Addr} {Da : List Nat} {Ab : Option Addr} {Db : List Nat} {F : List Nat} (h : WP n w g a b K wo Ar cr lr P0 c0 l0 P1 c1 l1 Q0 d0 m0 Q1 d1 m1 Aa Da Ab Db F) {S : List Nat} {w' : World} (hc : Chg S w w') (hs : ∀ z ∈ S, z < n ∨ w.heap.size ≤ z) : WP n w' g a b K wo Ar cr lr P0 c0 l0 P1 c1 l1 Q0 d0 m0 Q1 d1 m1 Aa Da Ab Db F := by
  have out : ∀ l ∈ ([[g], blkOf Ar, blkOf P0, blkOf P1, blkOf Q0, blkOf Q1, a :: blkOf Aa, b :: blkOf Ab, F] : List (List Nat)), ∀ z ∈ l, z ∉ S := fun l hl z hz hm => by
    have := h.lo l hl z hz
    have := hs z hm
    omega
  have o : ∀ (i : Nat) (x : List Nat), ([[g], blkOf Ar, blkOf P0, blkOf P1, blkOf Q0, blkOf Q1, a :: blkOf Aa, b :: blkOf Ab, F] : List (List Nat))[i]? = some x → ∀ z ∈ x, z ∉ S := fun i x hi => out x (List.mem_of_getElem? hi)
  exact ⟨hc.at_ h.hg (o 0 _ rfl g (by simp)), h.oa.chg hc (fun y hy => o 1 _ rfl _ (mem_blkOf hy)), h.pa.chg hc (o 8 _ rfl), h.o0.chg hc (fun y hy => o 2 _ rfl _ (mem_blkOf hy)), h.p0.chg hc (o 8 _ rfl), h.o1.chg hc (fun y hy => o 3 _ rfl _ (mem_blkOf hy)), h.p1.chg hc (o 8 _ rfl), h.q0.chg hc (fun y hy => o 4 _ rfl _ (mem_blkOf hy)), h.r0.chg hc (o 8 _ rfl), h.q1.chg hc (fun y hy => o 5 _ rfl _ (mem_blkOf hy)), h.r1.chg hc (o 8 _ rfl), h.sa.chg hc (o 6 _ rfl a (by simp)) (fun y hy => o 6 _ rfl _ (by simp [mem_blkOf hy])) (fun z hz => o 8 _ rfl z (h.fa z hz)), h.fa, h.sb.chg hc (o 7 _ rfl b (by simp)) (fun y hy => o 7 _ rfl _ (by simp [mem_blkOf hy])) (fun z hz => o 8 _ rfl z (h.fb z hz)), h.fb, h.pw, fun l hl z hz => ⟨(h.lo l hl z hz).1, Nat.lt_of_lt_of_le (h.lo l hl z hz).2 hc.size⟩⟩

theorem WP.sesa {n : Nat} {w : World} {g a b K : Nat} {wo : WoT} {Ar : Option Addr} {cr : Nat} {lr : List FlV} {P0 : Option Addr} {c0 : Nat} {l0 : List SlV} {P1 : Option Addr} {c1 : Nat} {l1 : List SlV} {Q0 : Option Addr} {d0 : Nat} {m0 : List SlV} {Q1 : Option Addr} {d1 : Nat} {m1 : List SlV} {Aa : Option Addr} {Da : List Nat} {Ab : Option Addr} {Db : List Nat} {F : List Nat} (h : WP n w g a b K wo Ar cr lr P0 c0 l0 P1 c1 l1 Q0 d0 m0 Q1 d1 m1 Aa Da Ab Db F) {S : List Nat} {w' : World} (hc : Chg S w w') (hsrc : ∀ z ∈ S, z ∈ a :: blkOf Aa) (F2 : List Nat) {K' : Nat} (hK : K ≤ K') (A' : Option Addr) (D' : List Nat) (st : SesT) (hs : SesL K' w' a A' D' st) (hd : ∀ z ∈ D', z ∈ Da ∨ z ∈ F2) (hF : ∀ z ∈ F2, w.heap.size ≤ z ∧ z < w'.heap.size) (hx : ∀ z ∈ a :: blkOf A', z ∈ a :: blkOf Aa ∨ w.heap.size ≤ z) (hx2 : ∀ z ∈ a :: blkOf A', z < w'.heap.size) (hFx : ∀ z ∈ F2, z ∉ a :: blkOf A') (hn : n ≤ w.heap.size) : WP n w' g a b K' { wo with sa := st } Ar cr lr P0 c0 l0 P1 c1 l1 Q0 d0 m0 Q1 d1 m1 A' D' Ab Db (F2 ++ F) := by
  have o : ∀ (j : Nat) (x : List Nat), ([[g], blkOf Ar, blkOf P0, blkOf P1, blkOf Q0, blkOf Q1, a :: blkOf Aa, b :: blkOf Ab, F] : List (List Nat))[j]? = some x → j ≠ 6 → ∀ z ∈ x, z ∉ S := fun j x hj hne z hz hm => by
    exact h.pw.pick (j := 6) hj rfl hne z hz (hsrc z hm)
  have lo : ∀ l ∈ ((([[g], blkOf Ar, blkOf P0, blkOf P1, blkOf Q0, blkOf Q1, a :: blkOf Aa, b :: blkOf Ab, F] : List (List Nat)).set 8 (F2 ++ F)).set 6 (a :: blkOf A')), ∀ z ∈ l, n ≤ z ∧ z < w'.heap.size := fun l hl z hz => by
    have old : ∀ l ∈ ([[g], blkOf Ar, blkOf P0, blkOf P1, blkOf Q0, blkOf Q1, a :: blkOf Aa, b :: blkOf Ab, F] : List (List Nat)), ∀ z ∈ l, n ≤ z ∧ z < w'.heap.size := fun l hl z hz => ⟨(h.lo l hl z hz).1, Nat.lt_of_lt_of_le (h.lo l hl z hz).2 hc.size⟩
    rcases List.mem_or_eq_of_mem_set hl with e | rfl
    · rcases List.mem_or_eq_of_mem_set e with e | rfl
      · exact old l e z hz
      · rcases List.mem_append.1 hz with e | e
        · exact ⟨Nat.le_trans hn (hF z e).1, (hF z e).2⟩
        · exact old F (by simp) z e
    · refine ⟨?_, hx2 z hz⟩
      rcases hx z hz with e | e
      · exact (old (a :: blkOf Aa) (by simp) z e).1
      · omega
  exact ⟨hc.at_ h.hg ((o 0 _ rfl (by decide)) g (by simp)), h.oa.chg hc (fun y hy => (o 1 _ rfl (by decide)) _ (mem_blkOf hy)), (h.pa.chg hc (o 8 _ rfl (by decide))).more (fun z hz => List.mem_append_right _ hz), h.o0.chg hc (fun y hy => (o 2 _ rfl (by decide)) _ (mem_blkOf hy)), (h.p0.chg hc (o 8 _ rfl (by decide))).more (fun z hz => List.mem_append_right _ hz), h.o1.chg hc (fun y hy => (o 3 _ rfl (by decide)) _ (mem_blkOf hy)), (h.p1.chg hc (o 8 _ rfl (by decide))).more (fun z hz => List.mem_append_right _ hz), h.q0.chg hc (fun y hy => (o 4 _ rfl (by decide)) _ (mem_blkOf hy)), (h.r0.chg hc (o 8 _ rfl (by decide))).more (fun z hz => List.mem_append_right _ hz), h.q1.chg hc (fun y hy => (o 5 _ rfl (by decide)) _ (mem_blkOf hy)), (h.r1.chg hc (o 8 _ rfl (by decide))).more (fun z hz => List.mem_append_right _ hz), hs, fun z hz => (hd z hz).elim (fun q => List.mem_append_right _ (h.fa z q)) (List.mem_append_left _), (h.sb.chg hc ((o 7 _ rfl (by decide)) b (by simp)) (fun y hy => (o 7 _ rfl (by decide)) _ (by simp [mem_blkOf hy])) (fun z hz => (o 8 _ rfl (by decide)) z (h.fb z hz))).more hK, fun z hz => List.mem_append_right _ (h.fb z hz), h.pw.turn 6 8 (m := w.heap.size) rfl rfl (by decide) (fun l hl z hz => (h.lo l hl z hz).2) (fun z hz => (hF z hz).1) hx hFx, lo⟩

theorem WP.sesb {n : Nat} {w : World} {g a b K : Nat} {wo : WoT} {Ar : Option Addr} {cr : Nat} {lr : List FlV} {P0 : Option Addr} {c0 : Nat} {l0 : List SlV} {P1 : Option Addr} {c1 : Nat} {l1 : List SlV} {Q0 : Option Addr} {d0 : Nat} {m0 : List SlV} {Q1 : Option Addr} {d1 : Nat} {m1 : List SlV} {Aa : Option Addr} {Da : List Nat} {Ab : Option Addr} {Db : List Nat} {F : List Nat} (h : WP n w g a b K wo Ar cr lr P0 c0 l0 P1 c1 l1 Q0 d0 m0 Q1 d1 m1 Aa Da Ab Db F) {S : List Nat} {w' : World} (hc : Chg S w w') (hsrc : ∀ z ∈ S, z ∈ b :: blkOf Ab) (F2 : List Nat) {K' : Nat} (hK : K ≤ K') (A' : Option Addr) (D' : List Nat) (st : SesT) (hs : SesL K' w' b A' D' st) (hd : ∀ z ∈ D', z ∈ Db ∨ z ∈ F2) (hF : ∀ z ∈ F2, w.heap.size ≤ z ∧ z < w'.heap.size) (hx : ∀ z ∈ b :: blkOf A', z ∈ b :: blkOf Ab ∨ w.heap.size ≤ z) (hx2 : ∀ z ∈ b :: blkOf A', z < w'.heap.size) (hFx : ∀ z ∈ F2, z ∉ b :: blkOf A') (hn : n ≤ w.heap.size) : WP n w' g a b K' { wo with sb := st } Ar cr lr P0 c0 l0 P1 c1 l1 Q0 d0 m0 Q1 d1 m1 Aa Da A' D' (F2 ++ F) := by
  have o : ∀ (j : Nat) (x : List Nat), ([[g], blkOf Ar, blkOf P0, blkOf P1, blkOf Q0, blkOf Q1, a :: blkOf Aa, b :: blkOf Ab, F] : List (List Nat))[j]? = some x → j ≠ 7 → ∀ z ∈ x, z ∉ S := fun j x hj hne z hz hm => by
    exact h.pw.pick (j := 7) hj rfl hne z hz (hsrc z hm)
  have lo : ∀ l ∈ ((([[g], blkOf Ar, blkOf P0, blkOf P1, blkOf Q0, blkOf Q1, a :: blkOf Aa, b :: blkOf Ab, F] : List (List Nat)).set 8 (F2 ++ F)).set 7 (b :: blkOf A')), ∀ z ∈ l, n ≤ z ∧ z < w'.heap.size := fun l hl z hz => by
    have old : ∀ l ∈ ([[g], blkOf Ar, blkOf P0, blkOf P1, blkOf Q0, blkOf Q1, a :: blkOf Aa, b :: blkOf Ab, F] : List (List Nat)), ∀ z ∈ l, n ≤ z ∧ z < w'.heap.size := fun l hl z hz => ⟨(h.lo l hl z hz).1, Nat.lt_of_lt_of_le (h.lo l hl z hz).2 hc.size⟩
    rcases List.mem_or_eq_of_mem_set hl with e | rfl
    · rcases List.mem_or_eq_of_mem_set e with e | rfl
      · exact old l e z hz
      · rcases List.mem_append.1 hz with e | e
        · exact ⟨Nat.le_trans hn (hF z e).1, (hF z e).2⟩
        · exact old F (by simp) z e
    · refine ⟨?_, hx2 z hz⟩
      rcases hx z hz with e | e
      · exact (old (b :: blkOf Ab) (by simp) z e).1
      · omega
  exact ⟨hc.at_ h.hg ((o 0 _ rfl (by decide)) g (by simp)), h.oa.chg hc (fun y hy => (o 1 _ rfl (by decide)) _ (mem_blkOf hy)), (h.pa.chg hc (o 8 _ rfl (by decide))).more (fun z hz => List.mem_append_right _ hz), h.o0.chg hc (fun y hy => (o 2 _ rfl (by decide)) _ (mem_blkOf hy)), (h.p0.chg hc (o 8 _ rfl (by decide))).more (fun z hz => List.mem_append_right _ hz), h.o1.chg hc (fun y hy => (o 3 _ rfl (by decide)) _ (mem_blkOf hy)), (h.p1.chg hc (o 8 _ rfl (by decide))).more (fun z hz => List.mem_append_right _ hz), h.q0.chg hc (fun y hy => (o 4 _ rfl (by decide)) _ (mem_blkOf hy)), (h.r0.chg hc (o 8 _ rfl (by decide))).more (fun z hz => List.mem_append_right _ hz), h.q1.chg hc (fun y hy => (o 5 _ rfl (by decide)) _ (mem_blkOf hy)), (h.r1.chg hc (o 8 _ rfl (by decide))).more (fun z hz => List.mem_append_right _ hz), (h.sa.chg hc ((o 6 _ rfl (by decide)) a (by simp)) (fun y hy => (o 6 _ rfl (by decide)) _ (by simp [mem_blkOf hy])) (fun z hz => (o 8 _ rfl (by decide)) z (h.fa z hz))).more hK, fun z hz => List.mem_append_right _ (h.fa z hz), hs, fun z hz => (hd z hz).elim (fun q => List.mem_append_right _ (h.fb z q)) (List.mem_append_left _), h.pw.turn 7 8 (m := w.heap.size) rfl rfl (by decide) (fun l hl z hz => (h.lo l hl z hz).2) (fun z hz => (hF z hz).1) hx hFx, lo⟩

theorem WP.rowP0 {n : Nat} {w : World} {g a b K : Nat} {wo : WoT} {Ar : Option Addr} {cr : Nat} {lr : List FlV} {P0 : Option Addr} {c0 : Nat} {l0 : List SlV} {P1 : Option Addr} {c1 : Nat} {l1 : List SlV} {Q0 : Option Addr} {d0 : Nat} {m0 : List SlV} {Q1 : Option Addr} {d1 : Nat} {m1 : List SlV} {Aa : Option Addr} {Da : List Nat} {Ab : Option Addr} {Db : List Nat} {F : List Nat} (h : WP n w g a b K wo Ar cr lr P0 c0 l0 P1 c1 l1 Q0 d0 m0 Q1 d1 m1 Aa Da Ab Db F) {S : List Nat} {w' : World} (hc : Chg S w w') (hsrc : ∀ z ∈ S, z = g ∨ z ∈ blkOf P0) (F2 : List Nat) {K' : Nat} (hK : K ≤ K') (A' : Option Addr) (c' : Nat) (l' : List SlV) (ls' : List (List UInt8)) (hg' : w'.heap[g]? = some (.cells #[.pointer (some ⟨a, 0, none⟩), .pointer (some ⟨b, 0, none⟩), .slice Ar lr.length cr, .slice A' l'.length c', .slice P1 l1.length c1, .slice Q0 m0.length d0, .slice Q1 m1.length d1] 55 (0, 0))) (ho : OwnK lstTy w' A' c' l') (hp : ListP w' (F2 ++ F) l' ls') (hF : ∀ z ∈ F2, w.heap.size ≤ z ∧ z < w'.heap.size) (hx : ∀ z ∈ blkOf A', z ∈ blkOf P0 ∨ w.heap.size ≤ z) (hx2 : ∀ z ∈ blkOf A', z < w'.heap.size) (hFx : ∀ z ∈ F2, z ∉ blkOf A') (hn : n ≤ w.heap.size) : WP n w' g a b K' { wo with s0 := ls' } Ar cr lr A' c' l' P1 c1 l1 Q0 d0 m0 Q1 d1 m1 Aa Da Ab Db (F2 ++ F) := by
  have o : ∀ (j : Nat) (x : List Nat), ([[g], blkOf Ar, blkOf P0, blkOf P1, blkOf Q0, blkOf Q1, a :: blkOf Aa, b :: blkOf Ab, F] : List (List Nat))[j]? = some x → j ≠ 2 → j ≠ 0 → ∀ z ∈ x, z ∉ S := fun j x hj hne hn0 z hz hm => by
    rcases hsrc z hm with rfl | e
    · exact h.pw.pick (j := 0) hj rfl hn0 z hz (by simp)
    · exact h.pw.pick (j := 2) hj rfl hne z hz e
  have lo : ∀ l ∈ ((([[g], blkOf Ar, blkOf P0, blkOf P1, blkOf Q0, blkOf Q1, a :: blkOf Aa, b :: blkOf Ab, F] : List (List Nat)).set 8 (F2 ++ F)).set 2 (blkOf A')), ∀ z ∈ l, n ≤ z ∧ z < w'.heap.size := fun l hl z hz => by
    have old : ∀ l ∈ ([[g], blkOf Ar, blkOf P0, blkOf P1, blkOf Q0, blkOf Q1, a :: blkOf Aa, b :: blkOf Ab, F] : List (List Nat)), ∀ z ∈ l, n ≤ z ∧ z < w'.heap.size := fun l hl z hz => ⟨(h.lo l hl z hz).1, Nat.lt_of_lt_of_le (h.lo l hl z hz).2 hc.size⟩
    rcases List.mem_or_eq_of_mem_set hl with e | rfl
    · rcases List.mem_or_eq_of_mem_set e with e | rfl
      · exact old l e z hz
      · rcases List.mem_append.1 hz with e | e
        · exact ⟨Nat.le_trans hn (hF z e).1, (hF z e).2⟩
        · exact old F (by simp) z e
    · refine ⟨?_, hx2 z hz⟩
      rcases hx z hz with e | e
      · exact (old (blkOf P0) (by simp) z e).1
      · omega
  exact ⟨hg', h.oa.chg hc (fun y hy => (o 1 _ rfl (by decide) (by decide)) _ (mem_blkOf hy)), (h.pa.chg hc (o 8 _ rfl (by decide) (by decide))).more (fun z hz => List.mem_append_right _ hz), ho, hp, h.o1.chg hc (fun y hy => (o 3 _ rfl (by decide) (by decide)) _ (mem_blkOf hy)), (h.p1.chg hc (o 8 _ rfl (by decide) (by decide))).more (fun z hz => List.mem_append_right _ hz), h.q0.chg hc (fun y hy => (o 4 _ rfl (by decide) (by decide)) _ (mem_blkOf hy)), (h.r0.chg hc (o 8 _ rfl (by decide) (by decide))).more (fun z hz => List.mem_append_right _ hz), h.q1.chg hc (fun y hy => (o 5 _ rfl (by decide) (by decide)) _ (mem_blkOf hy)), (h.r1.chg hc (o 8 _ rfl (by decide) (by decide))).more (fun z hz => List.mem_append_right _ hz), (h.sa.chg hc ((o 6 _ rfl (by decide) (by decide)) a (by simp)) (fun y hy => (o 6 _ rfl (by decide) (by decide)) _ (by simp [mem_blkOf hy])) (fun z hz => (o 8 _ rfl (by decide) (by decide)) z (h.fa z hz))).more hK, fun z hz => List.mem_append_right _ (h.fa z hz), (h.sb.chg hc ((o 7 _ rfl (by decide) (by decide)) b (by simp)) (fun y hy => (o 7 _ rfl (by decide) (by decide)) _ (by simp [mem_blkOf hy])) (fun z hz => (o 8 _ rfl (by decide) (by decide)) z (h.fb z hz))).more hK, fun z hz => List.mem_append_right _ (h.fb z hz), h.pw.turn 2 8 (m := w.heap.size) rfl rfl (by decide) (fun l hl z hz => (h.lo l hl z hz).2) (fun z hz => (hF z hz).1) hx hFx, lo⟩

theorem WP.rowP1 {n : Nat} {w : World} {g a b K : Nat} {wo : WoT} {Ar : Option Addr} {cr : Nat} {lr : List FlV} {P0 : Option Addr} {c0 : Nat} {l0 : List SlV} {P1 : Option Addr} {c1 : Nat} {l1 : List SlV} {Q0 : Option Addr} {d0 : Nat} {m0 : List SlV} {Q1 : Option Addr} {d1 : Nat} {m1 : List SlV} {Aa : Option Addr} {Da : List Nat} {Ab : Option Addr} {Db : List Nat} {F : List Nat} (h : WP n w g a b K wo Ar cr lr P0 c0 l0 P1 c1 l1 Q0 d0 m0 Q1 d1 m1 Aa Da Ab Db F) {S : List Nat} {w' : World} (hc : Chg S w w') (hsrc : ∀ z ∈ S, z = g ∨ z ∈ blkOf P1) (F2 : List Nat) {K' : Nat} (hK : K ≤ K') (A' : Option Addr) (c' : Nat) (l' : List SlV) (ls' : List (List UInt8)) (hg' : w'.heap[g]? = some (.cells #[.pointer (some ⟨a, 0, none⟩), .pointer (some ⟨b, 0, none⟩), .slice Ar lr.length cr, .slice P0 l0.length c0, .slice A' l'.length c', .slice Q0 m0.length d0, .slice Q1 m1.length d1] 55 (0, 0))) (ho : OwnK lstTy w' A' c' l') (hp : ListP w' (F2 ++ F) l' ls') (hF : ∀ z ∈ F2, w.heap.size ≤ z ∧ z < w'.heap.size) (hx : ∀ z ∈ blkOf A', z ∈ blkOf P1 ∨ w.heap.size ≤ z) (hx2 : ∀ z ∈ blkOf A', z < w'.heap.size) (hFx : ∀ z ∈ F2, z ∉ blkOf A') (hn : n ≤ w.heap.size) : WP n w' g a b K' { wo with s1 := ls' } Ar cr lr P0 c0 l0 A' c' l' Q0 d0 m0 Q1 d1 m1 Aa Da Ab Db (F2 ++ F) := by
  have o : ∀ (j : Nat) (x : List Nat), ([[g], blkOf Ar, blkOf P0, blkOf P1, blkOf Q0, blkOf Q1, a :: blkOf Aa, b :: blkOf Ab, F] : List (List Nat))[j]? = some x → j ≠ 3 → j ≠ 0 → ∀ z ∈ x, z ∉ S := fun j x hj hne hn0 z hz hm => by
    rcases hsrc z hm with rfl | e
    · exact h.pw.pick (j := 0) hj rfl hn0 z hz (by simp)
    · exact h.pw.pick (j := 3) hj rfl hne z hz e
  have lo : ∀ l ∈ ((([[g], blkOf Ar, blkOf P0, blkOf P1, blkOf Q0, blkOf Q1, a :: blkOf Aa, b :: blkOf Ab, F] : List (List Nat)).set 8 (F2 ++ F)).set 3 (blkOf A')), ∀ z ∈ l, n ≤ z ∧ z < w'.heap.size := fun l hl z hz => by
    have old : ∀ l ∈ ([[g], blkOf Ar, blkOf P0, blkOf P1, blkOf Q0, blkOf Q1, a :: blkOf Aa, b :: blkOf Ab, F] : List (List Nat)), ∀ z ∈ l, n ≤ z ∧ z < w'.heap.size := fun l hl z hz => ⟨(h.lo l hl z hz).1, Nat.lt_of_lt_of_le (h.lo l hl z hz).2 hc.size⟩
    rcases List.mem_or_eq_of_mem_set hl with e | rfl
    · rcases List.mem_or_eq_of_mem_set e with e | rfl
      · exact old l e z hz
      · rcases List.mem_append.1 hz with e | e
        · exact ⟨Nat.le_trans hn (hF z e).1, (hF z e).2⟩
        · exact old F (by simp) z e
    · refine ⟨?_, hx2 z hz⟩
      rcases hx z hz with e | e
      · exact (old (blkOf P1) (by simp) z e).1
      · omega
  exact ⟨hg', h.oa.chg hc (fun y hy => (o 1 _ rfl (by decide) (by decide)) _ (mem_blkOf hy)), (h.pa.chg hc (o 8 _ rfl (by decide) (by decide))).more (fun z hz => List.mem_append_right _ hz), h.o0.chg hc (fun y hy => (o 2 _ rfl (by decide) (by decide)) _ (mem_blkOf hy)), (h.p0.chg hc (o 8 _ rfl (by decide) (by decide))).more (fun z hz => List.mem_append_right _ hz), ho, hp, h.q0.chg hc (fun y hy => (o 4 _ rfl (by decide) (by decide)) _ (mem_blkOf hy)), (h.r0.chg hc (o 8 _ rfl (by decide) (by decide))).more (fun z hz => List.mem_append_right _ hz), h.q1.chg hc (fun y hy => (o 5 _ rfl (by decide) (by decide)) _ (mem_blkOf hy)), (h.r1.chg hc (o 8 _ rfl (by decide) (by decide))).more (fun z hz => List.mem_append_right _ hz), (h.sa.chg hc ((o 6 _ rfl (by decide) (by decide)) a (by simp)) (fun y hy => (o 6 _ rfl (by decide) (by decide)) _ (by simp [mem_blkOf hy])) (fun z hz => (o 8 _ rfl (by decide) (by decide)) z (h.fa z hz))).more hK, fun z hz => List.mem_append_right _ (h.fa z hz), (h.sb.chg hc ((o 7 _ rfl (by decide) (by decide)) b (by simp)) (fun y hy => (o 7 _ rfl (by decide) (by decide)) _ (by simp [mem_blkOf hy])) (fun z hz => (o 8 _ rfl (by decide) (by decide)) z (h.fb z hz))).more hK, fun z hz => List.mem_append_right _ (h.fb z hz), h.pw.turn 3 8 (m := w.heap.size) rfl rfl (by decide) (fun l hl z hz => (h.lo l hl z hz).2) (fun z hz => (hF z hz).1) hx hFx, lo⟩

theorem WP.rowQ0 {n : Nat} {w : World} {g a b K : Nat} {wo : WoT} {Ar : Option Addr} {cr : Nat} {lr : List FlV} {P0 : Option Addr} {c0 : Nat} {l0 : List SlV} {P1 : Option Addr} {c1 : Nat} {l1 : List SlV} {Q0 : Option Addr} {d0 : Nat} {m0 : List SlV} {Q1 : Option Addr} {d1 : Nat} {m1 : List SlV} {Aa : Option Addr} {Da : List Nat} {Ab : Option Addr} {Db : List Nat} {F : List Nat} (h : WP n w g a b K wo Ar cr lr P0 c0 l0 P1 c1 l1 Q0 d0 m0 Q1 d1 m1 Aa Da Ab Db F) {S : List Nat} {w' : World} (hc : Chg S w w') (hsrc : ∀ z ∈ S, z = g ∨ z ∈ blkOf Q0) (F2 : List Nat) {K' : Nat} (hK : K ≤ K') (A' : Option Addr) (c' : Nat) (l' : List SlV) (ls' : List (List UInt8)) (hg' : w'.heap[g]? = some (.cells #[.pointer (some ⟨a, 0, none⟩), .pointer (some ⟨b, 0, none⟩), .slice Ar lr.length cr, .slice P0 l0.length c0, .slice P1 l1.length c1, .slice A' l'.length c', .slice Q1 m1.length d1] 55 (0, 0))) (ho : OwnK lstTy w' A' c' l') (hp : ListP w' (F2 ++ F) l' ls') (hF : ∀ z ∈ F2, w.heap.size ≤ z ∧ z < w'.heap.size) (hx : ∀ z ∈ blkOf A', z ∈ blkOf Q0 ∨ w.heap.size ≤ z) (hx2 : ∀ z ∈ blkOf A', z < w'.heap.size) (hFx : ∀ z ∈ F2, z ∉ blkOf A') (hn : n ≤ w.heap.size) : WP n w' g a b K' { wo with t0 := ls' } Ar cr lr P0 c0 l0 P1 c1 l1 A' c' l' Q1 d1 m1 Aa Da Ab Db (F2 ++ F) := by
  have o : ∀ (j : Nat) (x : List Nat), ([[g], blkOf Ar, blkOf P0, blkOf P1, blkOf Q0, blkOf Q1, a :: blkOf Aa, b :: blkOf Ab, F] : List (List Nat))[j]? = some x → j ≠ 4 → j ≠ 0 → ∀ z ∈ x, z ∉ S := fun j x hj hne hn0 z hz hm => by
    rcases hsrc z hm with rfl | e
    · exact h.pw.pick (j := 0) hj rfl hn0 z hz (by simp)
    · exact h.pw.pick (j := 4) hj rfl hne z hz e
  have lo : ∀ l ∈ ((([[g], blkOf Ar, blkOf P0, blkOf P1, blkOf Q0, blkOf Q1, a :: blkOf Aa, b :: blkOf Ab, F] : List (List Nat)).set 8 (F2 ++ F)).set 4 (blkOf A')), ∀ z ∈ l, n ≤ z ∧ z < w'.heap.size := fun l hl z hz => by
    have old : ∀ l ∈ ([[g], blkOf Ar, blkOf P0, blkOf P1, blkOf Q0, blkOf Q1, a :: blkOf Aa, b :: blkOf Ab, F] : List (List Nat)), ∀ z ∈ l, n ≤ z ∧ z < w'.heap.size := fun l hl z hz => ⟨(h.lo l hl z hz).1, Nat.lt_of_lt_of_le (h.lo l hl z hz).2 hc.size⟩
    rcases List.mem_or_eq_of_mem_set hl with e | rfl
    · rcases List.mem_or_eq_of_mem_set e with e | rfl
      · exact old l e z hz
      · rcases List.mem_append.1 hz with e | e
        · exact ⟨Nat.le_trans hn (hF z e).1, (hF z e).2⟩
        · exact old F (by simp) z e
    · refine ⟨?_, hx2 z hz⟩
      rcases hx z hz with e | e
      · exact (old (blkOf Q0) (by simp) z e).1
      · omega
  exact ⟨hg', h.oa.chg hc (fun y hy => (o 1 _ rfl (by decide) (by decide)) _ (mem_blkOf hy)), (h.pa.chg hc (o 8 _ rfl (by decide) (by decide))).more (fun z hz => List.mem_append_right _ hz), h.o0.chg hc (fun y hy => (o 2 _ rfl (by decide) (by decide)) _ (mem_blkOf hy)), (h.p0.chg hc (o 8 _ rfl (by decide) (by decide))).more (fun z hz => List.mem_append_right _ hz), h.o1.chg hc (fun y hy => (o 3 _ rfl (by decide) (by decide)) _ (mem_blkOf hy)), (h.p1.chg hc (o 8 _ rfl (by decide) (by decide))).more (fun z hz => List.mem_append_right _ hz), ho, hp, h.q1.chg hc (fun y hy => (o 5 _ rfl (by decide) (by decide)) _ (mem_blkOf hy)), (h.r1.chg hc (o 8 _ rfl (by decide) (by decide))).more (fun z hz => List.mem_append_right _ hz), (h.sa.chg hc ((o 6 _ rfl (by decide) (by decide)) a (by simp)) (fun y hy => (o 6 _ rfl (by decide) (by decide)) _ (by simp [mem_blkOf hy])) (fun z hz => (o 8 _ rfl (by decide) (by decide)) z (h.fa z hz))).more hK, fun z hz => List.mem_append_right _ (h.fa z hz), (h.sb.chg hc ((o 7 _ rfl (by decide) (by decide)) b (by simp)) (fun y hy => (o 7 _ rfl (by decide) (by decide)) _ (by simp [mem_blkOf hy])) (fun z hz => (o 8 _ rfl (by decide) (by decide)) z (h.fb z hz))).more hK, fun z hz => List.mem_append_right _ (h.fb z hz), h.pw.turn 4 8 (m := w.heap.size) rfl rfl (by decide) (fun l hl z hz => (h.lo l hl z hz).2) (fun z hz => (hF z hz).1) hx hFx, lo⟩

theorem WP.rowQ1 {n : Nat} {w : World} {g a b K : Nat} {wo : WoT} {Ar : Option Addr} {cr : Nat} {lr : List FlV} {P0 : Option Addr} {c0 : Nat} {l0 : List SlV} {P1 : Option Addr} {c1 : Nat} {l1 : List SlV} {Q0 : Option Addr} {d0 : Nat} {m0 : List SlV} {Q1 : Option Addr} {d1 : Nat} {m1 : List SlV} {Aa : Option Addr} {Da : List Nat} {Ab : Option Addr} {Db : List Nat} {F : List Nat} (h : WP n w g a b K wo Ar cr lr P0 c0 l0 P1 c1 l1 Q0 d0 m0 Q1 d1 m1 Aa Da Ab Db F) {S : List Nat} {w' : World} (hc : Chg S w w') (hsrc : ∀ z ∈ S, z = g ∨ z ∈ blkOf Q1) (F2 : List Nat) {K' : Nat} (hK : K ≤ K') (A' : Option Addr) (c' : Nat) (l' : List SlV) (ls' : List (List UInt8)) (hg' : w'.heap[g]? = some (.cells #[.pointer (some ⟨a, 0, none⟩), .pointer (some ⟨b, 0, none⟩), .slice Ar lr.length cr, .slice P0 l0.length c0, .slice P1 l1.length c1, .slice Q0 m0.length d0, .slice A' l'.length c'] 55 (0, 0))) (ho : OwnK lstTy w' A' c' l') (hp : ListP w' (F2 ++ F) l' ls') (hF : ∀ z ∈ F2, w.heap.size ≤ z ∧ z < w'.heap.size) (hx : ∀ z ∈ blkOf A', z ∈ blkOf Q1 ∨ w.heap.size ≤ z) (hx2 : ∀ z ∈ blkOf A', z < w'.heap.size) (hFx : ∀ z ∈ F2, z ∉ blkOf A') (hn : n ≤ w.heap.size) : WP n w' g a b K' { wo with t1 := ls' } Ar cr lr P0 c0 l0 P1 c1 l1 Q0 d0 m0 A' c' l' Aa Da Ab Db (F2 ++ F) := by
  have o : ∀ (j : Nat) (x : List Nat), ([[g], blkOf Ar, blkOf P0, blkOf P1, blkOf Q0, blkOf Q1, a :: blkOf Aa, b :: blkOf Ab, F] : List (List Nat))[j]? = some x → j ≠ 5 → j ≠ 0 → ∀ z ∈ x, z ∉ S := fun j x hj hne hn0 z hz hm => by
    rcases hsrc z hm with rfl | e
    · exact h.pw.pick (j := 0) hj rfl hn0 z hz (by simp)
    · exact h.pw.pick (j := 5) hj rfl hne z hz e
  have lo : ∀ l ∈ ((([[g], blkOf Ar, blkOf P0, blkOf P1, blkOf Q0, blkOf Q1, a :: blkOf Aa, b :: blkOf Ab, F] : List (List Nat)).set 8 (F2 ++ F)).set 5 (blkOf A')), ∀ z ∈ l, n ≤ z ∧ z < w'.heap.size := fun l hl z hz => by
    have old : ∀ l ∈ ([[g], blkOf Ar, blkOf P0, blkOf P1, blkOf Q0, blkOf Q1, a :: blkOf Aa, b :: blkOf Ab, F] : List (List Nat)), ∀ z ∈ l, n ≤ z ∧ z < w'.heap.size := fun l hl z hz => ⟨(h.lo l hl z hz).1, Nat.lt_of_lt_of_le (h.lo l hl z hz).2 hc.size⟩
    rcases List.mem_or_eq_of_mem_set hl with e | rfl
    · rcases List.mem_or_eq_of_mem_set e with e | rfl
      · exact old l e z hz
      · rcases List.mem_append.1 hz with e | e
        · exact ⟨Nat.le_trans hn (hF z e).1, (hF z e).2⟩
        · exact old F (by simp) z e
    · refine ⟨?_, hx2 z hz⟩
      rcases hx z hz with e | e
      · exact (old (blkOf Q1) (by simp) z e).1
      · omega
  exact ⟨hg', h.oa.chg hc (fun y hy => (o 1 _ rfl (by decide) (by decide)) _ (mem_blkOf hy)), (h.pa.chg hc (o 8 _ rfl (by decide) (by decide))).more (fun z hz => List.mem_append_right _ hz), h.o0.chg hc (fun y hy => (o 2 _ rfl (by decide) (by decide)) _ (mem_blkOf hy)), (h.p0.chg hc (o 8 _ rfl (by decide) (by decide))).more (fun z hz => List.mem_append_right _ hz), h.o1.chg hc (fun y hy => (o 3 _ rfl (by decide) (by decide)) _ (mem_blkOf hy)), (h.p1.chg hc (o 8 _ rfl (by decide) (by decide))).more (fun z hz => List.mem_append_right _ hz), h.q0.chg hc (fun y hy => (o 4 _ rfl (by decide) (by decide)) _ (mem_blkOf hy)), (h.r0.chg hc (o 8 _ rfl (by decide) (by decide))).more (fun z hz => List.mem_append_right _ hz), ho, hp, (h.sa.chg hc ((o 6 _ rfl (by decide) (by decide)) a (by simp)) (fun y hy => (o 6 _ rfl (by decide) (by decide)) _ (by simp [mem_blkOf hy])) (fun z hz => (o 8 _ rfl (by decide) (by decide)) z (h.fa z hz))).more hK, fun z hz => List.mem_append_right _ (h.fa z hz), (h.sb.chg hc ((o 7 _ rfl (by decide) (by decide)) b (by simp)) (fun y hy => (o 7 _ rfl (by decide) (by decide)) _ (by simp [mem_blkOf hy])) (fun z hz => (o 8 _ rfl (by decide) (by decide)) z (h.fb z hz))).more hK, fun z hz => List.mem_append_right _ (h.fb z hz), h.pw.turn 5 8 (m := w.heap.size) rfl rfl (by decide) (fun l hl z hz => (h.lo l hl z hz).2) (fun z hz => (hF z hz).1) hx hFx, lo⟩

theorem WP.rowA {n : Nat} {w : World} {g a b K : Nat} {wo : WoT} {Ar : Option Addr} {cr : Nat} {lr : List FlV} {P0 : Option Addr} {c0 : Nat} {l0 : List SlV} {P1 : Option Addr} {c1 : Nat} {l1 : List SlV} {Q0 : Option Addr} {d0 : Nat} {m0 : List SlV} {Q1 : Option Addr} {d1 : Nat} {m1 : List SlV} {Aa : Option Addr} {Da : List Nat} {Ab : Option Addr} {Db : List Nat} {F : List Nat} (h : WP n w g a b K wo Ar cr lr P0 c0 l0 P1 c1 l1 Q0 d0 m0 Q1 d1 m1 Aa Da Ab Db F) {S : List Nat} {w' : World} (hc : Chg S w w') (hsrc : ∀ z ∈ S, z = g ∨ z ∈ blkOf Ar) (F2 : List Nat) {K' : Nat} (hK : K ≤ K') (A' : Option Addr) (c' : Nat) (l' : List FlV) (ps' : List (PakT × Bool)) (hg' : w'.heap[g]? = some (.cells #[.pointer (some ⟨a, 0, none⟩), .pointer (some ⟨b, 0, none⟩), .slice A' l'.length c', .slice P0 l0.length c0, .slice P1 l1.length c1, .slice Q0 m0.length d0, .slice Q1 m1.length d1] 55 (0, 0))) (ho : OwnK flTy w' A' c' l') (hp : AirP w' (F2 ++ F) l' ps') (hF : ∀ z ∈ F2, w.heap.size ≤ z ∧ z < w'.heap.size) (hx : ∀ z ∈ blkOf A', z ∈ blkOf Ar ∨ w.heap.size ≤ z) (hx2 : ∀ z ∈ blkOf A', z < w'.heap.size) (hFx : ∀ z ∈ F2, z ∉ blkOf A') (hn : n ≤ w.heap.size) : WP n w' g a b K' { wo with air := ps' } A' c' l' P0 c0 l0 P1 c1 l1 Q0 d0 m0 Q1 d1 m1 Aa Da Ab Db (F2 ++ F) := by
  have o : ∀ (j : Nat) (x : List Nat), ([[g], blkOf Ar, blkOf P0, blkOf P1, blkOf Q0, blkOf Q1, a :: blkOf Aa, b :: blkOf Ab, F] : List (List Nat))[j]? = some x → j ≠ 1 → j ≠ 0 → ∀ z ∈ x, z ∉ S := fun j x hj hne hn0 z hz hm => by
    rcases hsrc z hm with rfl | e
    · exact h.pw.pick (j := 0) hj rfl hn0 z hz (by simp)
    · exact h.pw.pick (j := 1) hj rfl hne z hz e
  have lo : ∀ l ∈ ((([[g], blkOf Ar, blkOf P0, blkOf P1, blkOf Q0, blkOf Q1, a :: blkOf Aa, b :: blkOf Ab, F] : List (List Nat)).set 8 (F2 ++ F)).set 1 (blkOf A')), ∀ z ∈ l, n ≤ z ∧ z < w'.heap.size := fun l hl z hz => by
    have old : ∀ l ∈ ([[g], blkOf Ar, blkOf P0, blkOf P1, blkOf Q0, blkOf Q1, a :: blkOf Aa, b :: blkOf Ab, F] : List (List Nat)), ∀ z ∈ l, n ≤ z ∧ z < w'.heap.size := fun l hl z hz => ⟨(h.lo l hl z hz).1, Nat.lt_of_lt_of_le (h.lo l hl z hz).2 hc.size⟩
    rcases List.mem_or_eq_of_mem_set hl with e | rfl
    · rcases List.mem_or_eq_of_mem_set e with e | rfl
      · exact old l e z hz
      · rcases List.mem_append.1 hz with e | e
        · exact ⟨Nat.le_trans hn (hF z e).1, (hF z e).2⟩
        · exact old F (by simp) z e
    · refine ⟨?_, hx2 z hz⟩
      rcases hx z hz with e | e
      · exact (old (blkOf Ar) (by simp) z e).1
      · omega
  exact ⟨hg', ho, hp, h.o0.chg hc (fun y hy => (o 2 _ rfl (by decide) (by decide)) _ (mem_blkOf hy)), (h.p0.chg hc (o 8 _ rfl (by decide) (by decide))).more (fun z hz => List.mem_append_right _ hz), h.o1.chg hc (fun y hy => (o 3 _ rfl (by decide) (by decide)) _ (mem_blkOf hy)), (h.p1.chg hc (o 8 _ rfl (by decide) (by decide))).more (fun z hz => List.mem_append_right _ hz), h.q0.chg hc (fun y hy => (o 4 _ rfl (by decide) (by decide)) _ (mem_blkOf hy)), (h.r0.chg hc (o 8 _ rfl (by decide) (by decide))).more (fun z hz => List.mem_append_right _ hz), h.q1.chg hc (fun y hy => (o 5 _ rfl (by decide) (by decide)) _ (mem_blkOf hy)), (h.r1.chg hc (o 8 _ rfl (by decide) (by decide))).more (fun z hz => List.mem_append_right _ hz), (h.sa.chg hc ((o 6 _ rfl (by decide) (by decide)) a (by simp)) (fun y hy => (o 6 _ rfl (by decide) (by decide)) _ (by simp [mem_blkOf hy])) (fun z hz => (o 8 _ rfl (by decide) (by decide)) z (h.fa z hz))).more hK, fun z hz => List.mem_append_right _ (h.fa z hz), (h.sb.chg hc ((o 7 _ rfl (by decide) (by decide)) b (by simp)) (fun y hy => (o 7 _ rfl (by decide) (by decide)) _ (by simp [mem_blkOf hy])) (fun z hz => (o 8 _ rfl (by decide) (by decide)) z (h.fb z hz))).more hK, fun z hz => List.mem_append_right _ (h.fb z hz), h.pw.turn 1 8 (m := w.heap.size) rfl rfl (by decide) (fun l hl z hz => (h.lo l hl z hz).2) (fun z hz => (hF z hz).1) hx hFx, lo⟩
end
section
open Go.RowKit Go.Lib
set_option linter.unusedSimpArgs false
set_option linter.unusedVariables false


theorem WP.moreK {n : Nat} {w : World} {g a b K : Nat} {wo : WoT} {Ar : Option Addr} {cr : Nat} {lr : List FlV} {P0 : Option Addr} {c0 : Nat} {l0 : List SlV} {P1 : Option Addr} {c1 : Nat} {l1 : List SlV} {Q0 : Option Addr} {d0 : Nat} {m0 : List SlV} {Q1 : Option Addr} {d1 : Nat} {m1 : List SlV} {Aa : Option Addr} {Da : List Nat} {Ab : Option Addr} {Db : List Nat} {F : List Nat} (h : WP n w g a b K wo Ar cr lr P0 c0 l0 P1 c1 l1 Q0 d0 m0 Q1 d1 m1 Aa Da Ab Db F) {K' : Nat} (hK : K ≤ K') : WP n w g a b K' wo Ar cr lr P0 c0 l0 P1 c1 l1 Q0 d0 m0 Q1 d1 m1 Aa Da Ab Db F := ⟨h.hg, h.oa, h.pa, h.o0, h.p0, h.o1, h.p1, h.q0, h.r0, h.q1, h.r1, h.sa.more hK, h.fa, h.sb.more hK, h.fb, h.pw, h.lo⟩
theorem apartBK2 {w : World} {A A' : Option Addr} {c c' : Nat} {xs : List UInt8} {ys : List SlV} (h : OwnB w A c xs) (k : OwnK lstTy w A' c' ys) : ∀ a a', A = some a → A' = some a' → a.block ≠ a'.block := by
  rintro a a' rfl rfl e
  rcases k with ⟨k1, _⟩ | ⟨g, full, k1, k2, _⟩
  · cases k1
  · cases k1
    exact h.ne k2 (by decide) a rfl e
theorem lp_snoc {w : World} {F F' : List Nat} {l : List SlV} {ls : List (List UInt8)} (h : ListP w F l ls) (hf : ∀ z ∈ F, z ∈ F') {A : Option Addr} {m c : Nat} {ys : List UInt8} (hb : Bs w A m ys) (hA : ∀ y, A = some y → y.block ∈ F') : ListP w F' (l ++ [(A, m, c)]) (ls ++ [ys]) := by
  have hl := h.1
  refine ⟨by simp [hl], fun i x y hx hy => ?_⟩
  by_cases e : i = l.length
  · subst e
    rw [List.getElem?_append_right (Nat.le_refl _)] at hx
    rw [hl, List.getElem?_append_right (Nat.le_refl _)] at hy
    simp at hx hy
    subst hx; subst hy
    exact ⟨hb, hA⟩
  · have hi2 : i < l.length + 1 := by simpa using (List.getElem?_eq_some_iff.1 hx).1
    rw [List.getElem?_append_left (by omega)] at hx hy
    exact ⟨(h.2 i x y hx hy).1, fun z hz => hf _ ((h.2 i x y hx hy).2 z hz)⟩
end
section
open Go.RowKit Go.Lib
set_option linter.unusedSimpArgs false
set_option linter.unusedVariables false


theorem join5 {α β γ δ ε : Type} {F R : α → β → γ → δ → ε → Prop} {G : Prop} (h1 : (∀ a b c d e, F a b c d e → R a b c d e) → G) (h2 : ∀ a b c d e, F a b c d e → R a b c d e) : G := h1 h2
theorem flown_empty {w : World} {g : Nat} (h : w.heap[g]? = some (.cells #[] 63 (0, 0))) : OwnK flTy w (some ⟨g, 0, none⟩) 0 [] := .of (full := []) h (Nat.le_refl _) (Nat.zero_le _) rfl rfl
theorem AirP.less {w : World} {F : List Nat} {l : List FlV} {ps : List (PakT × Bool)} (h : AirP w F l ps) (k : Nat) : AirP w F (l.take k ++ l.drop (k + 1)) (ps.take k ++ ps.drop (k + 1)) := by
  have hl := h.1
  refine ⟨by simp [hl], fun i x p hx hp => ?_⟩
  by_cases e : i < min k l.length
  · rw [List.getElem?_append_left (by simpa using e)] at hx
    rw [List.getElem?_append_left (by simp; omega)] at hp
    rw [List.getElem?_take] at hx hp
    rw [if_pos (by omega)] at hx hp
    exact h.2 i x p hx hp
  · rw [List.getElem?_append_right (by simpa using e)] at hx
    rw [List.getElem?_append_right (by simp; omega)] at hp
    rw [List.getElem?_drop] at hx hp
    rw [List.length_take] at hx hp
    rw [← hl] at hp
    exact h.2 _ x p hx hp
theorem dn5_ok {w0 wf w6 : World} {g a b kk : Nat} {wo : WoT} {Ar : Option Addr} {cr : Nat} {lr : List FlV} {P0 : Option Addr} {c0 : Nat} {l0 : List SlV} {P1 : Option Addr} {c1 : Nat} {l1 : List SlV} {Q0 : Option Addr} {d0 : Nat} {m0 : List SlV} {Q1 : Option Addr} {d1 : Nat} {m1 : List SlV} {Aa : Option Addr} {Da : List Nat} {Ab : Option Addr} {Db : List Nat} {F : List Nat} (HW : WP w0.heap.size wf g a b kk wo Ar cr lr P0 c0 l0 P1 c1 l1 Q0 d0 m0 Q1 d1 m1 Aa Da Ab Db F) (C0 : Chg [] w0 wf) {k : Nat} (hk : k < lr.length) {A6 : Option Addr} {c6 : Nat} (O6 : OwnK flTy w6 A6 c6 (lr.take k ++ lr.drop (k + 1))) (C6 : Chg [] wf w6) (N6 : ∀ y, A6 = some y → wf.heap.size ≤ y.block) {gx gf : Nat} (h1 : g < gx) (h2 : gx < gf ∧ gf < wf.heap.size) {ox oy : Obj} (BX : wf.heap[gx]? = some ox) (FX : wf.heap[gf]? = some oy) {X : FlV} {P : PakT × Bool} (HXY : FlP wf F X P) :
    Hid (WP w0.heap.size (w6.setCell ⟨g, 2, none⟩ (.slice A6 (k + (lr.length - (k + 1))) c6)) g a b kk { wo with air := wo.air.take k ++ wo.air.drop (k + 1) } A6 c6 (lr.take k ++ lr.drop (k + 1)) P0 c0 l0 P1 c1 l1 Q0 d0 m0 Q1 d1 m1 Aa Da Ab Db F) ∧ Hid ((w6.setCell ⟨g, 2, none⟩ (.slice A6 (k + (lr.length - (k + 1))) c6)).heap[gf]? = some oy) ∧ Hid ((w6.setCell ⟨g, 2, none⟩ (.slice A6 (k + (lr.length - (k + 1))) c6)).heap[gx]? = some ox) ∧ Hid (FlP (w6.setCell ⟨g, 2, none⟩ (.slice A6 (k + (lr.length - (k + 1))) c6)) F X P) ∧ Hid (Chg [] w0 (w6.setCell ⟨g, 2, none⟩ (.slice A6 (k + (lr.length - (k + 1))) c6))) ∧ Hid (gx < gf ∧ gf < (w6.setCell ⟨g, 2, none⟩ (.slice A6 (k + (lr.length - (k + 1))) c6)).heap.size) := by
  have HG6 := C6.at_ HW.hg (by simp)
  have hg' := heap_setCell_same _ g 2 _ _ (.slice A6 (k + (lr.length - (k + 1))) c6) HG6
  have cg : Chg [g] w6 (w6.setCell ⟨g, 2, none⟩ (.slice A6 (k + (lr.length - (k + 1))) c6)) := (Chg.refl [g] w6).setCell (.inl (by simp)) _
  have hc : Chg [g] wf (w6.setCell ⟨g, 2, none⟩ (.slice A6 (k + (lr.length - (k + 1))) c6)) := (C6.mono (by simp)).trans cg
  generalize w6.setCell ⟨g, 2, none⟩ (.slice A6 (k + (lr.length - (k + 1))) c6) = w7 at *
  have glt : g < wf.heap.size := lt_of_heap HW.hg
  have hlen : (lr.take k ++ lr.drop (k + 1)).length = k + (lr.length - (k + 1)) := by simp; omega
  have frz : ∀ z ∈ F, z ∉ [g] := fun z hz hm => HW.pw.pick (i := 8) (j := 0) rfl rfl (by decide) z hz (by simpa using hm)
  have o7 : OwnK flTy w7 A6 c6 (lr.take k ++ lr.drop (k + 1)) := O6.chg cg (fun x hx hm => by have := N6 x hx; simp at hm; omega)
  have HXY7 : FlP w7 F X P := by
    obtain ⟨a1, a2, a3, a4, a5, a6, a7, a8⟩ := HXY
    exact ⟨a1, a2, a3, a4, a5.chg hc (fun y hy => frz _ (a7 y hy)), a6, a7, a8⟩
  exact ⟨Lib.hid (HW.rowA hc (fun z hz => .inl (by simpa using hz)) [] (K' := kk) (Nat.le_refl _) A6 c6 (lr.take k ++ lr.drop (k + 1)) (wo.air.take k ++ wo.air.drop (k + 1)) (by rw [hg', hlen]; simp) o7 ((HW.pa.chg hc frz).less k) (by simp) (fun z hz => by obtain ⟨y, hy, rfl⟩ := of_blkOf hz; exact .inr (N6 y hy)) (fun z hz => by obtain ⟨y, hy, rfl⟩ := of_blkOf hz; exact o7.lt y hy) (by simp) C0.size), Lib.hid (hc.at_ FX (by simp; omega)), Lib.hid (hc.at_ BX (by simp; omega)), Lib.hid HXY7, Lib.hid (C0.on hc (fun z hz => (HW.lo [g] (by simp) z (by simpa using hz)).1)), Lib.hid ⟨h2.1, Nat.lt_of_lt_of_le h2.2 hc.size⟩⟩
theorem a1_ok {wf w4 w5 : World} {A5 : Option Addr} (C4 : Chg [] wf w4) (g5 : w4.grownBy w5 ((some ⟨wf.heap.size, 0, none⟩ : Option Addr).map (·.block))) (e5 : A5 = some ⟨wf.heap.size, 0, none⟩ ∨ A5 = some ⟨w4.heap.size, 0, none⟩) : Hid (Chg [] wf w5) ∧ Hid (∀ y, A5 = some y → wf.heap.size ≤ y.block) :=
  ⟨Lib.hid (C4.on ((Chg.refl [wf.heap.size] w4).grown g5 (fun k hk => .inl (by simp at hk; simp [hk]))) (by simp)), Lib.hid (fun y hy => by rcases e5 with q | q <;> (rw [q] at hy; cases hy; simp only); exact Nat.le_refl _; exact C4.size)⟩
theorem a2_ok {wf w5 w6 : World} {A5 A6 : Option Addr} (C5 : Chg [] wf w5) (N5 : ∀ y, A5 = some y → wf.heap.size ≤ y.block) (g6 : w5.grownBy w6 (A5.map (·.block))) (e6 : A6 = A5 ∨ A6 = some ⟨w5.heap.size, 0, none⟩) : Hid (Chg [] wf w6) ∧ Hid (∀ y, A6 = some y → wf.heap.size ≤ y.block) :=
  ⟨Lib.hid (C5.on ((Chg.refl (blkOf A5) w5).grown g6 (fun k hk => .inl (by simpa [blkOf] using hk))) (fun z hz => by obtain ⟨y, hy, rfl⟩ := of_blkOf hz; exact N5 y hy)), Lib.hid (fun y hy => by rcases e6 with q | q; exact N5 y (q ▸ hy); rw [q] at hy; cases hy; exact C5.size)⟩
theorem lp_app {w : World} {F : List Nat} {l l' : List SlV} {ls ls' : List (List UInt8)} (h : ListP w F l ls) (h' : ListP w F l' ls') : ListP w F (l ++ l') (ls ++ ls') := by
  have hl := h.1
  have hl' := h'.1
  refine ⟨by simp [hl, hl'], fun i x y hx hy => ?_⟩
  by_cases e : i < l.length
  · rw [List.getElem?_append_left e] at hx
    rw [List.getElem?_append_left (by omega)] at hy
    exact h.2 i x y hx hy
  · rw [List.getElem?_append_right (by omega)] at hx
    rw [List.getElem?_append_right (by omega), ← hl] at hy
    exact h'.2 _ x y hx hy
theorem apartLL {w : World} {A A' : Option Addr} {c c' : Nat} {xs ys : List SlV} {n m : Nat} (h : ∀ a, A = some a → a.block < n) (k : ∀ a, A' = some a → m ≤ a.block) (q : n ≤ m) : ∀ a a', A = some a → A' = some a' → a.block ≠ a'.block := fun a a' e e' z => by have := h a e; have := k a' e'; omega
end
end Go.Proofs.Ytmblalcigbghfaa
