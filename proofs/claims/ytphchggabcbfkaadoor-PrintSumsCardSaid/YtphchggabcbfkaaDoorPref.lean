/- The document's Parse and Text of layer 2. -/
import Derived.Test.YtphchggabcbfkaaDoorParse2
import Derived.Lib.QuoteBits
namespace Go.Proofs.YtphchggabcbfkaaDoor
open Go.RowKit
set_option linter.unusedSimpArgs false
set_option linter.unusedVariables false

def digitV (c : UInt8) : Int := if unhex c < 16 then (unhex c : Int) else -1
set_option maxHeartbeats 1000000 in
theorem pdigit_any (w : World) (c : UInt8) : Calls Tryd.prog 35 #[.int .u8 (c.toNat : Int)] w fun e w' => e = .returned (.int .i64 (digitV c)) ∧ w = w' := by
  have hc := c.toNat_lt
  have h1 : 48 ≤ c.toNat ∧ c.toNat ≤ 57 → digitV c = (c.toNat : Int) - 48 := fun h => by
    have hu : unhex c = c.toNat - 48 := by unfold unhex; rw [if_pos h]
    unfold digitV
    rw [hu, if_pos (by omega)]
    omega
  have h2 : 97 ≤ c.toNat ∧ c.toNat ≤ 102 → digitV c = 10 + ((c.toNat : Int) - 97) := fun h => by
    have hu : unhex c = c.toNat - 87 := by unfold unhex; rw [if_neg (by omega), if_pos h]
    unfold digitV
    rw [hu, if_pos (by omega)]
    omega
  have h3 : ¬ (48 ≤ c.toNat ∧ c.toNat ≤ 57) → ¬ (97 ≤ c.toNat ∧ c.toNat ≤ 102) → digitV c = -1 := fun h h' => by
    have hu : unhex c = 16 := by unfold unhex; rw [if_neg h, if_neg h']
    unfold digitV
    rw [hu, if_neg (by omega)]
  have H1 := Lib.hid h1
  have H2 := Lib.hid h2
  have H3 := Lib.hid h3
  clear h1 h2 h3
  generalize digitV c = d at *
  generalize c.toNat = x at *
  refine (Decidable.em (x < 48)).elim (fun h1 => ?a) (fun h1 => (Decidable.em (x ≤ 57)).elim (fun h2 => ?b) (fun h2 => (Decidable.em (x < 97)).elim (fun h3 => ?c) (fun h3 => (Decidable.em (x ≤ 102)).elim (fun h4 => ?d) (fun h4 => ?e))))
  case a =>
    have := H3.out (by omega) (by omega)
    subst this
    go_enter Tryd.func35, Tryd.ntmps35
    go_wp2
    go_ret
    exact ⟨rfl, rfl⟩
  case b =>
    have := H1.out (by omega)
    subst this
    go_enter Tryd.func35, Tryd.ntmps35
    go_wp2
    go_ret
    exact ⟨rfl, rfl⟩
  case c =>
    have := H3.out (by omega) (by omega)
    subst this
    go_enter Tryd.func35, Tryd.ntmps35
    go_wp2
    go_ret
    exact ⟨rfl, rfl⟩
  case d =>
    have := H2.out (by omega)
    subst this
    go_enter Tryd.func35, Tryd.ntmps35
    go_wp2
    go_ret
    exact ⟨rfl, rfl⟩
  case e =>
    have := H3.out (by omega) (by omega)
    subst this
    go_enter Tryd.func35, Tryd.ntmps35
    go_wp2
    go_ret
    exact ⟨rfl, rfl⟩
set_option maxHeartbeats 1000000 in
theorem pref_any (w : World) (s : ByteArray) (hs : s.size ≤ 140737488351232) :
    Calls Tryd.prog 21 #[.string s] w fun e w' => e = .returned (faultV (parseR s.data.toList)) ∧ Chg [] w w' := by
  have hl : s.data.toList.length = s.size := by rw [Array.length_toList]; rfl
  refine (Decidable.em (s.size < 16)).elim (fun h1 => ?short) (fun h1 => (Decidable.em (16 < s.size)).elim (fun h2 => ?long) (fun h2 => ?fits))
  case short =>
    rw [parseR_lt (by omega), hl]
    have e1 : ((s.size : Int) == 16) = false := by simp; omega
    have e2 : min (s.size : Int) 16 = (s.size : Int) := by omega
    go_enter Tryd.func21, Tryd.ntmps21
    go_wp2
    refine bodyPost_ret (by simp [results, Tryd.results21, go_sem]; try rfl) rfl ?_
    exact ⟨rfl, (Chg.refl [] w).alloc _⟩
  case long =>
    rw [parseR_gt (by omega)]
    have e1 : ((s.size : Int) == 16) = false := by simp; omega
    have e2 : min (s.size : Int) 16 = 16 := by omega
    go_enter Tryd.func21, Tryd.ntmps21
    go_wp2
    refine bodyPost_ret (by simp [results, Tryd.results21, go_sem]; try rfl) rfl ?_
    exact ⟨rfl, (Chg.refl [] w).alloc _⟩
  case fits =>
    have h16 : s.size = 16 := by omega
    have e0 : ((s.size : Int) == 16) = true := by simp; omega
    obtain ⟨xs, hxs⟩ : ∃ xs, s.data.toList = xs := ⟨_, rfl⟩
    rw [hxs] at hl ⊢
    have hx16 : xs.length = 16 := by omega
    have HX := Lib.hid hxs
    have H16 := Lib.hid hx16
    obtain ⟨V, hV, hcV, hb⟩ := news1 w (.cells #[.int .i64 0, .int .i64 0] 35)
    have k0 := cell_of hb 0
    have k1 := cell_of hb 1
    have f0 := free_of hb 0
    have f1 := free_of hb 1
    simp at k0 k1
    have HC := Lib.hid hcV
    have HB := Lib.hid hb
    have HV := Lib.hid hV
    clear hxs hx16 hl hcV hb hV
    go_enter Tryd.func21, Tryd.ntmps21
    go_wp2
    rw [← HV.out]
    go_loop [4, 5] (fun v i => ∃ k : Nat, k ≤ 16 ∧ i = .int .i64 k ∧ v = .int .u64 (unhexs (xs.take k) : Int) ∧ ∀ j, j < k → bad (xs.getD j 0) = false) (fun _ i => 16 - (intOf i).toNat)
    case atStart => exact ⟨0, by omega, rfl, rfl, fun j hj => by omega⟩
    case round =>
      obtain ⟨k, hk, rfl, rfl, hgood⟩ := hrel
      refine (Decidable.em (k < 16)).elim (fun h1 => ?more) (fun h1 => ?done)
      case more =>
        have hkx : k < xs.length := by rw [H16.out]; exact h1
        obtain ⟨c, hc⟩ : ∃ c, xs.getD k 0 = c := ⟨_, rfl⟩
        have hix : s[k]'(by omega) = c := by
          have e : s.data.toList[k]? = some c := by
            rw [HX.out, List.getElem?_eq_getElem hkx, ← hc]
            simp [List.getD_eq_getElem?_getD, hkx]
          rw [Array.getElem?_toList] at e
          obtain ⟨_, e⟩ := Array.getElem?_eq_some_iff.1 e
          exact e
        have HG := Lib.hid hgood
        have HCc := Lib.hid hc
        have hsn : unhexs (xs.take (k + 1)) = unhexs (xs.take k) * 16 + unhex c := by
          rw [List.take_succ_eq_append_getElem hkx, unhexs_snoc]
          have : xs[k] = c := by rw [← hc]; simp [List.getD_eq_getElem?_getD, hkx]
          rw [this]
        have HSn := Lib.hid hsn
        clear hgood hc hsn
        refine (Decidable.em (unhex c < 16)).elim (fun hg => ?good) (fun hg => ?wrong)
        case wrong =>
          have hd : digitV c = -1 := by unfold digitV; rw [if_neg hg]
          have hbad : bad c = true := by unfold bad; have := unhex_le c; exact decide_eq_true (by omega)
          have hat := badAt_is xs k hkx (by rw [HCc.out]; exact hbad) HG.out
          have hpr : parseR xs = (0, 2, (k : Int)) := by rw [parseR_bad H16.out (by omega), hat]
          have HPr := Lib.hid hpr
          clear hat hpr hbad
          go_wp2_with (go_at_call 35; refine (pdigit_any _ c).mono ?_; rintro e w1 ⟨rfl, rfl⟩; rw [hd])
          rw [HPr.out]
          have hb2 := heap_setCell_same _ w.heap.size 1 _ _ (.int .i64 (k : Int)) (heap_setCell_same _ w.heap.size 0 _ _ (.int .i64 2) HB.out)
          have z0 := cell_of hb2 0
          have z1 := cell_of hb2 1
          simp at z0 z1
          refine bodyPost_ret (v := faultV (0, 2, (k : Int))) (by simp [results, Tryd.results21, go_sem, faultV, z0, z1]) rfl ⟨rfl, (HC.out.put (Nat.le_refl _) 0 _).put (Nat.le_refl _) 1 _⟩
        case good =>
          have hd : digitV c = (unhex c : Int) := by unfold digitV; rw [if_pos hg]
          have hgd : bad c = false := by unfold bad; exact decide_eq_false (by omega)
          have hall : ∀ x ∈ xs.take k, unhex x < 16 := by
            intro x hx
            obtain ⟨j, hj, rfl⟩ := List.getElem_of_mem hx
            have hj' : j < k := by simp at hj; omega
            have := HG.out j hj'
            have hjx : j < xs.length := by omega
            have e : xs.getD j 0 = (xs.take k)[j] := by simp [List.getD_eq_getElem?_getD, hjx]
            rw [e] at this
            have hle := unhex_le ((xs.take k)[j])
            unfold bad at this
            have := of_decide_eq_false this
            omega
          have hlt := unhexs_lt _ hall
          have hlt2 : unhexs (xs.take k) * 16 < 18446744073709551616 := by
            have e1 : (xs.take k).length = k := by simp; omega
            rw [e1] at hlt
            have : 16 ^ k ≤ 16 ^ 15 := Nat.pow_le_pow_right (by omega) (by omega)
            omega
          have hor := or_low (unhexs (xs.take k)) (unhex c) hg hlt2
          clear hall hlt
          generalize unhexs (xs.take k) = q at *
          generalize unhex c = d at *
          go_wp2_with (go_at_call 35; refine (pdigit_any _ c).mono ?_; rintro e w1 ⟨rfl, rfl⟩; rw [hd])
          go_round
          case rel =>
            refine ⟨k + 1, by omega, by go_num, ?_, fun j hj => ?_⟩
            · rw [HSn.out]
              exact congrArg (Value.int .u64) (by omega)
            · by_cases e : j = k
              · subst e; rw [HCc.out]; exact hgd
              · exact HG.out j (by omega)
          case measure => simp [intOf]; omega
      case done =>
        obtain rfl : k = 16 := by omega
        have hbl := badAt_none xs (fun j hj => hgood j (by have := H16.out; omega))
        have ht : xs.take 16 = xs := List.take_of_length_le (by have := H16.out; omega)
        rw [ht]
        have hpr : parseR xs = ((unhexs xs : Int), 0, 0) := parseR_ok H16.out (by have := H16.out; omega)
        have HPr := Lib.hid hpr
        clear hpr hbl ht hgood
        generalize unhexs xs = q at *
        go_wp2
        rw [HPr.out]
        have hb2 := heap_setCell_same _ w.heap.size 1 _ _ (.int .i64 0) (heap_setCell_same _ w.heap.size 0 _ _ (.int .i64 0) HB.out)
        have z0 := cell_of hb2 0
        have z1 := cell_of hb2 1
        simp at z0 z1
        refine bodyPost_ret (v := faultV ((q : Int), 0, 0)) (by simp [results, Tryd.results21, go_sem, faultV, z0, z1]) rfl ⟨rfl, (HC.out.put (Nat.le_refl _) 0 _).put (Nat.le_refl _) 1 _⟩

theorem and15_wrap (x : Nat) (h : x < 18446744073709551616) : bits .and .i64 (wrap64 (x : Int)) 15 = ((x % 16 : Nat) : Int) := by
  show IntKind.i64.wrap ((BitVec.ofInt 64 (wrap64 (x : Int)) &&& BitVec.ofInt 64 ((15 : Nat) : Int)).toNat : Int) = _
  have e : BitVec.ofInt 64 (wrap64 (x : Int)) = BitVec.ofInt 64 (x : Int) := by
    have h2 : wrap64 (x : Int) % 18446744073709551616 = (x : Int) % 18446744073709551616 := by unfold wrap64; omega
    apply BitVec.eq_of_toNat_eq
    rw [BitVec.toNat_ofInt, BitVec.toNat_ofInt, show ((2 ^ 64 : Nat) : Int) = 18446744073709551616 by rfl, h2]
  rw [e, BitVec.toNat_and, ofInt_u64 x (by omega), ofInt_u64 15 (by omega), nat_mask4]
  exact Lib.wrap_i64_small _ (by omega)
theorem hexs_at : ∀ (k n j : Nat), j < k → (hexs k n)[j]? = some (hexd (n / 16 ^ (k - 1 - j) % 16))
  | 0, n, j, h => by omega
  | k + 1, n, 0, h => by simp [hexs]
  | k + 1, n, j + 1, h => by
    simp only [hexs, List.getElem?_cons_succ]
    rw [hexs_at k n j (by omega), show k + 1 - 1 - (j + 1) = k - 1 - j by omega]
theorem hexs_more (u e : Nat) (he : e < 16) : (hexs 16 u).take (16 - e) = (hexs 16 u).take (15 - e) ++ [hexd (u / 16 ^ e % 16)] := by
  have hl : 15 - e < (hexs 16 u).length := by rw [hexs_len]; omega
  rw [show 16 - e = (15 - e) + 1 by omega, List.take_succ_eq_append_getElem hl]
  have := hexs_at 16 u (15 - e) (by omega)
  rw [List.getElem?_eq_getElem hl, show 16 - 1 - (15 - e) = e by omega] at this
  rw [Option.some.inj this]
set_option maxRecDepth 100000 in
set_option maxHeartbeats 2000000 in
theorem ptext_any (w : World) (u : Nat) (hu : u < 18446744073709551616) :
    Calls Tryd.prog 23 #[.int .u64 (u : Int)] w fun e w' => e = .returned (.string (strOf (hexs 16 u))) ∧ Chg [] w w' := by
  have HU := Lib.hid hu
  clear hu
  go_enter Tryd.func23, Tryd.ntmps23
  go_wp2
  go_loopw [3, 4] (fun v i wr => ∃ (k : Nat) (A : Option Addr) (c : Nat), k ≤ 16 ∧ i = .int .i64 ((k : Int) - 1) ∧ v = .slice A (16 - k) c ∧ Fresh w wr A c ((hexs 16 u).take (16 - k))) (fun _ i _ => (intOf i + 1).toNat)
  case atStart => exact ⟨16, none, 0, by omega, rfl, rfl, by simpa using OwnB.none_ w, by simp, Chg.refl _ _⟩
  case round =>
    obtain ⟨k, A, c, hk, rfl, rfl, hown, hA, hch⟩ := hrel
    refine (Decidable.em (k = 0)).elim (fun h1 => ?done) (fun h1 => ?more)
    case done =>
      subst h1
      have hr := hown.reads
      have ht : (hexs 16 u).take 16 = hexs 16 u := List.take_of_length_le (by rw [hexs_len]; omega)
      rw [show 16 - 0 = 16 by rfl, ht, hexs_len] at hr
      have hst := run_str wr (c := c) hr
      have HCh := Lib.hid hch
      clear hown hA hch hr ht
      go_wp2
      go_ret
      exact ⟨rfl, HCh.out⟩
    case more =>
      obtain ⟨e, rfl⟩ : ∃ e, k = e + 1 := ⟨k - 1, by omega⟩
      rw [show ((e + 1 : Nat) : Int) - 1 = (e : Int) by omega, show 16 - (e + 1) = 15 - e by omega] at *
      have hm := hexs_more u e (by omega)
      have hlen : ((hexs 16 u).take (15 - e)).length = 15 - e := by simp [hexs_len]; omega
      obtain ⟨d, hd⟩ : ∃ d, u / 16 ^ e % 16 = d := ⟨_, rfl⟩
      have hd16 : d < 16 := by rw [← hd]; exact Nat.mod_lt _ (by omega)
      have hand : bits .and .i64 (wrap64 ((u : Int) / 2 ^ (4 * e))) 15 = (d : Int) := by
        have h2 := and15_wrap (u / 2 ^ (4 * e)) (Nat.lt_of_le_of_lt (Nat.div_le_self _ _) HU.out)
        have e3 : ((u / 2 ^ (4 * e) : Nat) : Int) = (u : Int) / 2 ^ (4 * e) := by simp
        rw [e3] at h2
        rw [h2, ← hd, Nat.pow_mul]
      rw [hd] at hm
      have HM := Lib.hid hm
      have HLen := Lib.hid hlen
      have F2 := Lib.hid hA
      clear hm hd hA
      generalize (hexs 16 u).take (15 - e) = p at *
      refine (Decidable.em (d < 10)).elim (fun h10 => ?low) (fun h10 => ?high)
      case low =>
        go_wp2_with (at_builtin; refine wpList_app rfl _ _ rfl rfl (hown.chg ((Chg.refl [] wr).alloc _) (by simp)) hlen rfl (Bs.one wr (hexd d) _ (by rw [hexd_toNat _ hd16, if_pos h10]; (try unfold wrap64); omega)) (by omega) ?_; intro A' c' w1 own1 hg1 hA1)
        refine ⟨⟨e, A', c', by omega, rfl, by rw [show 16 - e = 15 - e + 1 by omega], ?_⟩, by simp [intOf]⟩
        rw [HM.out]
        exact app_fresh own1 F2.out hch hg1 hA1
      case high =>
        go_wp2_with (at_builtin; refine wpList_app rfl _ _ rfl rfl (hown.chg ((Chg.refl [] wr).alloc _) (by simp)) hlen rfl (Bs.one wr (hexd d) _ (by rw [hexd_toNat _ hd16, if_neg h10]; (try unfold wrap64); omega)) (by omega) ?_; intro A' c' w1 own1 hg1 hA1)
        refine ⟨⟨e, A', c', by omega, rfl, by rw [show 16 - e = 15 - e + 1 by omega], ?_⟩, by simp [intOf]⟩
        rw [HM.out]
        exact app_fresh own1 F2.out hch hg1 hA1
end Go.Proofs.YtphchggabcbfkaaDoor
