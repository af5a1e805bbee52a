/- A box among other memory. -/
import Derived.Test.YtnpilljjkfjjiaaCkpure
import Derived.Test.YtnpilljjkfjjiaaCkput
import Derived.Test.YtnpilljjkfjjiaaCkroom
namespace Go.Proofs.Ytnpilljjkfjjiaa
open Go.RowKit Go.Lib
set_option linter.unusedSimpArgs false
set_option linter.unusedVariables false

/-- The box at bx, with the quota q, after w4: its state; nothing that was there at w4 has turned but the boxes. -/
def KnS (w4 wr : World) (bx byy : Nat) (q : Int) (st : BoxT) : Prop := ∃ A c, wr.heap[bx]? = some (.cells #[.pointer (some ⟨bx, 0, none⟩), .int .i64 q, .int .i64 st.1, .int .i64 st.2.1, .slice A st.2.2.length c] 51 (0, 0)) ∧ OwnB wr A c st.2.2 ∧ (∀ a, A = some a → w4.heap.size ≤ a.block) ∧ Chg [bx, byy] w4 wr
theorem KnS.chg {w4 wr w' : World} {bx byy : Nat} {q : Int} {st : BoxT} (h : KnS w4 wr bx byy q st) (hc : Chg [] wr w') : KnS w4 w' bx byy q st := by
  obtain ⟨A, c, h1, h2, h3, h4⟩ := h
  exact ⟨A, c, hc.at_ h1 (by simp), h2.chg hc (by simp), h3, h4.trans hc.into⟩
theorem KnS.k {w4 wr : World} {bx byy : Nat} {q : Int} {st : BoxT} (h : KnS w4 wr bx byy q st) : Chg [bx, byy] w4 wr := by
  obtain ⟨A, c, h1, h2, h3, h4⟩ := h
  exact h4
theorem put_kn {w4 wr : World} {bx byy : Nat} {q : Int} {st : BoxT} (h : KnS w4 wr bx byy q st) (hb : bx < w4.heap.size) (hl : st.2.2.length ≤ 60000) (k i s a : Int) (B : Option Addr) (n d : Nat) (ys : List UInt8) (hr : Bs wr B n ys) (hn : n ≤ 140737488351232) (hB : ys ≠ [] → ∀ x, B = some x → x.block < w4.heap.size ∧ x.block ≠ bx) (R : List UInt8 × Int × BoxT) (hR : putC q st k i s a ys = R) :
    Calls Try.prog 21 #[.pointer (some ⟨bx, 0, none⟩), .agg #[.int .i64 k, .int .i64 i, .int .i64 s, .int .i64 a, .slice B n d]] wr fun e w' => ∃ A1 c1, e = .returned (.tuple #[.slice A1 R.1.length c1, .int .i64 R.2.1]) ∧ OwnB w' A1 c1 R.1 ∧ KnS w4 w' bx byy q R.2.2 ∧ (∀ z o, z < w4.heap.size → z ≠ bx → wr.heap[z]? = some o → w'.heap[z]? = some o) := by
  obtain ⟨A, c, h1, h2, h3, h4⟩ := h
  obtain ⟨it, sz, xs⟩ := st
  have ab : ∀ z, z < w4.heap.size → z ≠ bx → z ∉ bx :: blkOf A := fun z hz hne hm => by
    rcases List.mem_cons.1 hm with e | e
    · exact hne e
    · obtain ⟨y, hy, e⟩ := of_blkOf e
      have := h3 y hy
      omega
  refine (bxput_any wr bx q it sz A c xs k i s a B n d ys h1 h2 hl hr hn (fun hne x hx => ab _ (hB hne x hx).1 (hB hne x hx).2) R hR).mono ?_
  rintro e w' ⟨A1, c1, A2, c2, rfl, o1, b2, o2, _, _, _, n2, hc⟩
  have hs := h4.size
  refine ⟨A1, c1, rfl, o1, ⟨A2, c2, b2, o2, fun a ha => ?_, ?_⟩, fun z o hz hne ho => hc.at_ ho (ab z hz hne)⟩
  · rcases n2 a ha with e | e
    · exact h3 a (e ▸ ha)
    · omega
  · refine h4.trans' hc (fun z hz => ?_)
    rcases List.mem_cons.1 hz with e | e
    · subst e; exact .inl (by simp)
    · obtain ⟨y, hy, e⟩ := of_blkOf e
      have := h3 y hy
      exact .inr (by omega)
end Go.Proofs.Ytnpilljjkfjjiaa
