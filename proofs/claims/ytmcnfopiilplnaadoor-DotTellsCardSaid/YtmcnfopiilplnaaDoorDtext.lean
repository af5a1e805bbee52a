/- Package dot: Text; the document's. -/
import Derived.Test.YtmcnfopiilplnaaDoorDnum
import Derived.Test.YtmcnfopiilplnaaDoorMem
import Derived.Test.YtmcnfopiilplnaaDoorShelf
import Derived.Lib.AppendIntMem
import Derived.Lib.LaidTab
import Derived.Deep.RegionHeld3
namespace Go.Proofs.YtmcnfopiilplnaaDoor
open Go.RowKit Go.Lib
set_option linter.unusedSimpArgs false
set_option linter.unusedVariables false

/-- What is asked of the variables: the table of powers; the two errors are errors. -/
structure TabD (w : World) : Prop where
  pow : Lib.TabIs Tryd.prog w "internal/strconv.uint64pow10" .u64 Lib.pow10Tab
  syn : ∃ te pe, w.cell? ⟨1, 0, none⟩ = some (.iface te pe)
  ran : ∃ te pe, w.cell? ⟨2, 0, none⟩ = some (.iface te pe)
theorem mapM_congr {α β : Type} {f g : α → Option β} : ∀ {l : List α} {r : List β}, l.mapM f = some r → (∀ a ∈ l, ∀ b, f a = some b → g a = some b) → l.mapM g = some r
  | [], r, h, _ => by simpa using h
  | x :: l, r, h, k => by
    simp only [List.mapM_cons, Option.bind_eq_bind, Option.bind_eq_some_iff, Option.pure_def, Option.some.injEq] at h ⊢
    obtain ⟨b, hb, r', hr', rfl⟩ := h
    exact ⟨b, k x (by simp) b hb, r', mapM_congr hr' (fun a ha => k a (by simp [ha])), rfl⟩
theorem var_chg {w w' : World} (hc : Chg [] w w') {n : String} {v : Array Value} (h : w.var? Tryd.prog n = some v) : w'.var? Tryd.prog n = some v := by
  unfold World.var? at h ⊢
  rw [Option.bind_eq_some_iff] at h ⊢
  obtain ⟨g, hg, h⟩ := h
  refine ⟨g, hg, ?_⟩
  split at h
  · rename_i hb
    rw [hc.at_ hb (by simp)]
    exact h
  · cases h
theorem TabD.chg {w w' : World} (h : TabD w) (hc : Chg [] w w') : TabD w' :=
  ⟨var_chg hc h.pow, by obtain ⟨a, b, e⟩ := h.syn; exact ⟨a, b, hc.cell e (by simp)⟩, by obtain ⟨a, b, e⟩ := h.ran; exact ⟨a, b, hc.cell e (by simp)⟩⟩
theorem Chg.below_ {w w' : World} (h : Below w.heap.size w w') : Chg [] w w' := ⟨h.os, h.tape, h.output, h.size, fun k hk _ => h.block k hk⟩
theorem itoa_any (w : World) (n : Int) (h0 : 0 ≤ n) (h1 : n ≤ 9223372036854775807) (hT : TabD w) :
    Calls Tryd.prog 39 #[.int .i64 n] w fun e w' => e = .returned (.string (strOf (decDigits n.toNat))) ∧ Chg [] w w' :=
  (Any.strconv_Itoa Tryd.laysM171 n (by omega) h1 w hT.pow).mono fun e w' h => by
    obtain ⟨rfl, k, os, rfl⟩ := h
    have e1 : Lib.itoa n = decDigits n.toNat := by unfold Lib.itoa; rw [if_neg (by omega)]
    rw [e1]
    exact ⟨rfl, Chg.below_ (below_grow _ _ (Nat.le_refl _) _ _)⟩
set_option maxHeartbeats 1000000 in
theorem dtext_fine (w : World) (n s : Int) (hf : FineD n s) (hT : TabD w) :
    Calls Tryd.prog 29 #[.agg #[.int .i64 n, .int .i64 s]] w fun e w' => e = .returned (.tuple #[.string (strOf (dotT n s)), .int .i64 0]) ∧ Chg [] w w' := by
  obtain ⟨w1, hw1, c1, b0⟩ := news1 w (.cells #[.int .i64 n, .int .i64 s] 23)
  have W1 := Lib.hid hw1
  have hk := chkD_fine hf
  have hck := dcheck_any w1 n s
  rw [hk] at hck
  have HF := Lib.hid hf
  have HT := Lib.hid hT
  clear hw1 hk hf hT
  go_enter Tryd.func29, Tryd.ntmps29
  go_wp2_with fail
  rw [← W1.out]
  clear W1
  generalize w.heap.size = s0 at *
  refine hck.mono ?_
  rintro e w2 ⟨rfl, c2⟩
  have q := c2.at_ b0 (by simp)
  have k0 := cell_of q 0
  have k1 := cell_of q 1
  simp only [List.getElem?_toArray, List.getElem?_cons_succ, List.getElem?_cons_zero] at k0 k1
  have C2 := Lib.hid (c1.trans c2)
  have HT2 := Lib.hid (HT.out.chg (c1.trans c2))
  clear c1 c2 b0 q hck HT
  have hkp : ∀ w', Chg [] w2 w' → w'.cell? ⟨s0, 0, none⟩ = some (.int .i64 n) ∧ w'.cell? ⟨s0, 1, none⟩ = some (.int .i64 s) ∧ Chg [] w2 w' := fun w' hc => ⟨hc.cell k0 (by simp), hc.cell k1 (by simp), hc⟩
  have HK := Lib.hid hkp
  have HI1 := Lib.hid (fun (w' : World) (hc : Chg [] w2 w') => itoa_any w' n (by have := HF.out.1; omega) (by have := HF.out.2.1; omega) (HT2.out.chg hc))
  have HI2 := Lib.hid (fun (w' : World) (hc : Chg [] w2 w') => itoa_any w' s (by have := HF.out.2.2.1; omega) (by have := HF.out.2.2.2; omega) (HT2.out.chg hc))
  have ej : strOf (decDigits n.toNat) ++ ⟨#[46]⟩ ++ strOf (decDigits s.toNat) = strOf (dotT n s) := by
    apply ByteArray.ext
    simp [strOf, dotT, ByteArray.append]
  have z1 : (strOf (decDigits n.toNat)).size ≤ 10 := by rw [strOf_size]; exact dec_len (by have := HF.out.2.1; omega)
  have z2 : (strOf (decDigits s.toNat)).size ≤ 10 := by rw [strOf_size]; exact dec_len (by have := HF.out.2.2.2; omega)
  generalize strOf (decDigits n.toNat) = A at *
  generalize strOf (decDigits s.toNat) = B at *
  have EJ := Lib.hid ej
  have z3 : ¬ 9223372036854775807 < A.size + 1 := by omega
  have z4 : ¬ 9223372036854775807 < A.size + 1 + B.size := by omega
  clear hkp k0 k1 ej
  go_wp2
  go_region_held3 (fun w' => w'.cell? ⟨s0, 0, none⟩ = some (.int .i64 n) ∧ w'.cell? ⟨s0, 1, none⟩ = some (.int .i64 s) ∧ Chg [] w2 w')
    (first | exact HK.out _ (Chg.refl [] w2).drew | exact HK.out _ hC | (have hC := And.right (And.right ‹_ ∧ _ ∧ Chg [] w2 _›); exact HK.out _ hC))
    (((have hC := And.right (And.right ‹_ ∧ _ ∧ Chg [] w2 _›)); (go_at_call 39; (first | (with_reducible refine (HI1.out _ hC).mono ?_) | (with_reducible refine (HI2.out _ hC).mono ?_)); rintro e w9 ⟨rfl, hc⟩; have hC := hC.trans hc)))
  all_goals
    have hC := And.right (And.right ‹_ ∧ _ ∧ Chg [] w2 _›)
    have HC := Lib.hid (C2.out.trans hC)
    clear hC
    go_wp2
    go_ret2
    exact ⟨by rw [← EJ.out]; rfl, HC.out⟩
theorem dtext_any (w : World) (n s : Int) (hT : TabD w) :
    Calls Tryd.prog 29 #[.agg #[.int .i64 n, .int .i64 s]] w fun e w' => e = .returned (.tuple #[.string (strOf (textO n s)), .int .i64 (chkD n s)]) ∧ Chg [] w w' := by
  by_cases hf : FineD n s
  · rw [textO_fine hf, chkD_fine hf]
    exact dtext_fine w n s hf hT
  · rw [textO_odd hf, chkD_odd hf]
    obtain ⟨w1, hw1, c1, b0⟩ := news1 w (.cells #[.int .i64 n, .int .i64 s] 23)
    have W1 := Lib.hid hw1
    have hck := dcheck_any w1 n s
    rw [chkD_odd hf] at hck
    clear hw1 hf hT
    go_enter Tryd.func29, Tryd.ntmps29
    go_wp2_with fail
    rw [← W1.out]
    clear W1
    generalize w.heap.size = s0 at *
    refine hck.mono ?_
    rintro e w2 ⟨rfl, c2⟩
    have C2 := Lib.hid (c1.trans c2)
    clear c1 c2 b0 hck
    go_wp2
    go_ret2
    exact ⟨rfl, C2.out⟩

/-- The document's digits. -/
theorem strOf_cons (c : UInt8) (l : List UInt8) : strOf [c] ++ strOf l = strOf (c :: l) := by
  apply ByteArray.ext
  simp [strOf, ByteArray.append]
def decP (v : Nat) : List UInt8 := if v = 0 then [] else decDigits v
theorem decP_step {v : Nat} (h : 0 < v) : decP v = decP (v / 10) ++ [UInt8.ofNat (48 + v % 10)] := by
  unfold decP
  rw [if_neg (by omega)]
  by_cases hs : v < 10
  · rw [decDigits_one hs, if_pos (by omega), Nat.mod_eq_of_lt hs]; rfl
  · rw [if_neg (by omega), decDigits, dif_neg hs]
set_option maxHeartbeats 1000000 in
theorem hdigits_any (w : World) (n : Nat) (hn : 1 ≤ n) (h10 : n < 10000000000) :
    Calls Tryd.prog 40 #[.int .i64 (n : Int)] w fun e w' => e = .returned (.string (strOf (decDigits n))) ∧ Chg [] w w' := by
  have HL := Lib.hid (dec_len h10)
  have HN := Lib.hid (And.intro hn h10)
  clear hn h10
  go_enter Tryd.func40, Tryd.ntmps40
  go_wp2
  go_loopw [0, 3] (fun a b wr => ∃ (v : Nat) (ys : List UInt8), a = .int .i64 (v : Int) ∧ b = .string (strOf ys) ∧ v ≤ 10000000000 ∧ Hid (decP v ++ ys = decDigits n ∧ Chg [] w wr)) (fun a _ _ => (RowKit.intOf a).toNat)
  case atStart => exact ⟨n, [], rfl, rfl, by have := HN.out; omega, by unfold decP; rw [if_neg (by have := HN.out; omega)]; simp, Chg.refl _ _⟩
  case round =>
    obtain ⟨v, ys, rfl, rfl, hv, HI⟩ := hrel
    by_cases h0 : 0 < v
    · have hx : (48 + (v : Int) % 10) = ((UInt8.ofNat (48 + v % 10)).toNat : Int) := by rw [UInt8.toNat_ofNat']; omega
      have hstr := run_str _ (c := 1) (Bs.one wr (UInt8.ofNat (48 + v % 10)) _ hx)
      have hl : ys.length ≤ 10 := by have := HL.out; rw [← HI.out.1] at this; simp at this; omega
      have hj := strOf_cons (UInt8.ofNat (48 + v % 10)) ys
      have hz1 : (strOf [UInt8.ofNat (48 + v % 10)]).size = 1 := by rw [strOf_size]; rfl
      have hz2 : (strOf ys).size = ys.length := strOf_size ys
      have hst := decP_step h0
      have HJ := Lib.hid hj
      generalize strOf [UInt8.ofNat (48 + v % 10)] = Z at *
      generalize hY : strOf ys = Y at *
      have HY := Lib.hid hY
      have HS := Lib.hid hst
      clear hst hj hx hY
      go_wp2
      refine ⟨⟨v / 10, UInt8.ofNat (48 + v % 10) :: ys, by simp, congrArg Value.string HJ.out, by omega, ?_, HI.out.2.alloc _⟩, by simp [RowKit.intOf]; omega⟩
      rw [← HI.out.1, HS.out]
      simp
    · obtain rfl : v = 0 := by omega
      go_wp2
      go_ret
      have := HI.out
      unfold decP at this
      rw [if_pos rfl] at this
      exact ⟨by rw [← this.1]; rfl, this.2⟩
theorem hdig_any (w : World) (n : Int) (hn : 1 ≤ n) (h10 : n < 10000000000) :
    Calls Tryd.prog 40 #[.int .i64 n] w fun e w' => e = .returned (.string (strOf (decDigits n.toNat))) ∧ Chg [] w w' := by
  have h := hdigits_any w n.toNat (by omega) (by omega)
  rwa [show ((n.toNat : Nat) : Int) = n by omega] at h
set_option maxHeartbeats 1000000 in
theorem htext_fine (w : World) (n s : Int) (hf : FineD n s) :
    Calls Tryd.prog 30 #[.agg #[.int .i64 n, .int .i64 s]] w fun e w' => e = .returned (.tuple #[.string (strOf (dotT n s)), .int .i64 0]) ∧ Chg [] w w' := by
  obtain ⟨w1, hw1, c1, b0⟩ := news1 w (.cells #[.int .i64 n, .int .i64 s] 23)
  have W1 := Lib.hid hw1
  have hk := chkD_fine hf
  have hck := hcheck_any w1 n s
  rw [hk] at hck
  have HF := Lib.hid hf
  clear hw1 hk hf
  go_enter Tryd.func30, Tryd.ntmps30
  go_wp2_with fail
  rw [← W1.out]
  clear W1
  generalize w.heap.size = s0 at *
  refine hck.mono ?_
  rintro e w2 ⟨rfl, c2⟩
  have q := c2.at_ b0 (by simp)
  have k0 := cell_of q 0
  have k1 := cell_of q 1
  simp only [List.getElem?_toArray, List.getElem?_cons_succ, List.getElem?_cons_zero] at k0 k1
  have C2 := Lib.hid (c1.trans c2)
  clear c1 c2 b0 q hck
  have hkp : ∀ w', Chg [] w2 w' → w'.cell? ⟨s0, 0, none⟩ = some (.int .i64 n) ∧ w'.cell? ⟨s0, 1, none⟩ = some (.int .i64 s) ∧ Chg [] w2 w' := fun w' hc => ⟨hc.cell k0 (by simp), hc.cell k1 (by simp), hc⟩
  have HK := Lib.hid hkp
  have HI1 := Lib.hid (fun (w' : World) (hc : Chg [] w2 w') => hdig_any w' n HF.out.1 (by have := HF.out.2.1; omega))
  have HI2 := Lib.hid (fun (w' : World) (hc : Chg [] w2 w') => hdig_any w' s HF.out.2.2.1 (by have := HF.out.2.2.2; omega))
  have ej : strOf (decDigits n.toNat) ++ ⟨#[46]⟩ ++ strOf (decDigits s.toNat) = strOf (dotT n s) := by
    apply ByteArray.ext
    simp [strOf, dotT, ByteArray.append]
  have z1 : (strOf (decDigits n.toNat)).size ≤ 10 := by rw [strOf_size]; exact dec_len (by have := HF.out.2.1; omega)
  have z2 : (strOf (decDigits s.toNat)).size ≤ 10 := by rw [strOf_size]; exact dec_len (by have := HF.out.2.2.2; omega)
  generalize strOf (decDigits n.toNat) = A at *
  generalize strOf (decDigits s.toNat) = B at *
  have EJ := Lib.hid ej
  have z3 : ¬ 9223372036854775807 < A.size + 1 := by omega
  have z4 : ¬ 9223372036854775807 < A.size + 1 + B.size := by omega
  clear hkp k0 k1 ej
  go_wp2
  go_region_held3 (fun w' => w'.cell? ⟨s0, 0, none⟩ = some (.int .i64 n) ∧ w'.cell? ⟨s0, 1, none⟩ = some (.int .i64 s) ∧ Chg [] w2 w')
    (first | exact HK.out _ (Chg.refl [] w2).drew | exact HK.out _ hC | (have hC := And.right (And.right ‹_ ∧ _ ∧ Chg [] w2 _›); exact HK.out _ hC))
    (((have hC := And.right (And.right ‹_ ∧ _ ∧ Chg [] w2 _›)); (go_at_call 40; (first | (with_reducible refine (HI1.out _ hC).mono ?_) | (with_reducible refine (HI2.out _ hC).mono ?_)); rintro e w9 ⟨rfl, hc⟩; have hC := hC.trans hc)))
  all_goals
    have hC := And.right (And.right ‹_ ∧ _ ∧ Chg [] w2 _›)
    have HC := Lib.hid (C2.out.trans hC)
    clear hC
    go_wp2
    go_ret2
    exact ⟨by rw [← EJ.out]; rfl, HC.out⟩
theorem htext_any (w : World) (n s : Int) :
    Calls Tryd.prog 30 #[.agg #[.int .i64 n, .int .i64 s]] w fun e w' => e = .returned (.tuple #[.string (strOf (textO n s)), .int .i64 (chkD n s)]) ∧ Chg [] w w' := by
  by_cases hf : FineD n s
  · rw [textO_fine hf, chkD_fine hf]
    exact htext_fine w n s hf
  · rw [textO_odd hf, chkD_odd hf]
    obtain ⟨w1, hw1, c1, b0⟩ := news1 w (.cells #[.int .i64 n, .int .i64 s] 23)
    have W1 := Lib.hid hw1
    have hck := hcheck_any w1 n s
    rw [chkD_odd hf] at hck
    clear hw1 hf
    go_enter Tryd.func30, Tryd.ntmps30
    go_wp2_with fail
    rw [← W1.out]
    clear W1
    generalize w.heap.size = s0 at *
    refine hck.mono ?_
    rintro e w2 ⟨rfl, c2⟩
    have C2 := Lib.hid (c1.trans c2)
    clear c1 c2 b0 hck
    go_wp2
    go_ret2
    exact ⟨rfl, C2.out⟩

end Go.Proofs.YtmcnfopiilplnaaDoor
