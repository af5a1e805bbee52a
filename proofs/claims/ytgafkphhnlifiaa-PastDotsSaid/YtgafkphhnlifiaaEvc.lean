/- The run on marks, with all that is the same at each visit reckoned once (the kernel remembers what a closed box holds). No program is named here. -/
import Derived.Test.YtgafkphhnlifiaaEv1
import Derived.Laws.Strings
namespace Go.Proofs.Ytgafkphhnlifiaa
namespace Ev
set_option linter.unusedVariables false
set_option linter.unusedSimpArgs false

def bnd {α β : Type} (x : Option α) (f : α → Option β) : Option β := Option.casesOn (motive := fun _ => Option β) x none f
theorem bnd_eq {α β : Type} (x : Option α) (f : α → Option β) : bnd x f = x.bind f := by cases x <;> rfl
def bndM {α β : Type} (x : Option (List α)) (f : α → Option (List β)) : Option (List β) :=
  Option.casesOn (motive := fun _ => Option (List β)) x none fun l => List.casesOn (motive := fun _ => Option (List β)) l (some []) fun a t => List.casesOn (motive := fun _ => Option (List β)) t (f a) fun _ _ => goM f (a :: t)
theorem bndM_eq {α β : Type} (x : Option (List α)) (f : α → Option (List β)) : bndM x f = bindM x f := by
  cases x with
  | none => rfl
  | some l =>
    cases l with
    | nil => rfl
    | cons a t =>
      cases t with
      | nil =>
        show f a = goM f [a]
        simp only [goM]
        cases f a <;> simp
      | cons b t => rfl
def liftQ {α : Type} (x : Option α) : Option (List α) := Option.casesOn (motive := fun _ => Option (List α)) x none fun a => some [a]
theorem liftQ_eq {α : Type} (x : Option α) : liftQ x = lift1 x := by cases x <;> rfl
def detQ {α : Type} (x : Option (List α)) : Option α := Option.casesOn (motive := fun _ => Option α) x none fun l => List.casesOn (motive := fun _ => Option α) l none fun a t => List.casesOn (motive := fun _ => Option α) t (some a) fun _ _ => none
theorem detQ_eq {α : Type} (x : Option (List α)) : detQ x = det x := by
  cases x with
  | none => rfl
  | some l =>
    cases l with
    | nil => rfl
    | cons a t => cases t <;> rfl
def orUndef (x : Option Value) : Value := Option.casesOn (motive := fun _ => Value) x undef (fun v => v)
theorem orUndef_eq (x : Option Value) : orUndef x = x.getD undef := by cases x <;> rfl

/-- A long list, in pieces that are remembered. -/
def chunkF {α : Type} (l : List α) (k : Nat) : Bx (List α) := Nat.rec (motive := fun _ => Bx (List α)) ⟨l⟩ (fun _ ih => ⟨ih.fn.drop 16⟩) k
theorem chunkF_eq {α : Type} (l : List α) : ∀ k, (chunkF l k).fn = l.drop (16 * k)
  | 0 => rfl
  | k + 1 => by
    show (chunkF l k).fn.drop 16 = _
    rw [chunkF_eq l k, List.drop_drop, Nat.mul_succ]
def nthF {α : Type} (l : List α) (n : Nat) : Option α := ((chunkF l (n / 16)).fn)[n % 16]?
theorem nthF_eq {α : Type} (l : Array α) (n : Nat) : nthF l.toList n = l[n]? := by
  unfold nthF
  rw [chunkF_eq, List.getElem?_drop, Nat.div_add_mod, Array.getElem?_toList]
def cEval (G : Cx) (x : Operand) : Bx (Tr Value → Option Value) :=
  match x with
  | .tmp t => ⟨fun τ => some (orUndef (τ.get t))⟩
  | .const v => bif closedV v then ⟨fun _ => some v⟩ else ⟨fun _ => none⟩
  | .global g => bif Nat.blt g G.n then ⟨fun _ => some (.pointer (some ⟨g, 0, none⟩))⟩ else ⟨fun _ => none⟩
  | .func f => ⟨fun _ => some (.func (.func f) #[] #[])⟩
theorem cEval_eq (G : Cx) (x : Operand) (τ : Tr Value) : (cEval G x).fn τ = eval G τ x := by
  cases x with
  | tmp t => simp only [cEval, eval, orUndef_eq]
  | const v => simp only [cEval, eval]; cases closedV v <;> rfl
  | global g => simp only [cEval, eval]; cases Nat.blt g G.n <;> rfl
  | func f => rfl
def cEvalL (G : Cx) : List Operand → Bx (Tr Value → Option (List Value))
  | [] => ⟨fun _ => some []⟩
  | x :: l => ⟨fun τ => bnd ((cEval G x).fn τ) fun v => bnd ((cEvalL G l).fn τ) fun vs => some (v :: vs)⟩
theorem cEvalL_eq (G : Cx) (τ : Tr Value) : ∀ l, (cEvalL G l).fn τ = evalL G τ l
  | [] => rfl
  | x :: l => by simp only [cEvalL, evalL, bnd_eq, cEval_eq, cEvalL_eq G τ l]
def cEvalP (G : Cx) : List (Nat × Operand) → Bx (Tr Value → Option (List (Nat × Value)))
  | [] => ⟨fun _ => some []⟩
  | (i, x) :: l => ⟨fun τ => bnd ((cEval G x).fn τ) fun v => bnd ((cEvalP G l).fn τ) fun vs => some ((i, v) :: vs)⟩
theorem cEvalP_eq (G : Cx) (τ : Tr Value) : ∀ l, (cEvalP G l).fn τ = evalP G τ l
  | [] => rfl
  | (i, x) :: l => by simp only [cEvalP, evalP, bnd_eq, cEval_eq, cEvalP_eq G τ l]

/-- A pointer's row. -/
def ptrCells (a : Value) (st : St) : Option (Nat × List Value) :=
  match a with
  | .pointer (some ⟨i, off, none⟩) => bnd (st.cells i) fun q => some (off, q.1)
  | _ => none
def cLoad (P : Program) (t : TypeId) : Bx (Value → St → Option Value) :=
  match isAggP P t with
  | some true => match sizeP P t with
    | some n => ⟨fun a st => bnd (ptrCells a st) fun q => bnd (sub q.2 q.1 n) fun l => some (.agg l.toArray)⟩
    | none => ⟨fun _ _ => none⟩
  | some false => ⟨fun a st => bnd (ptrCells a st) fun q => q.2[q.1]?⟩
  | none => ⟨fun _ _ => none⟩
theorem ptr_cases (a : Value) (st : St) : (∃ i off, a = .pointer (some ⟨i, off, none⟩)) ∨ (ptrCells a st = none ∧ ∀ P t, loadP P t a st = none) := by
  cases a with
  | pointer p =>
    cases p with
    | none => exact .inr ⟨rfl, fun _ _ => rfl⟩
    | some ad =>
      obtain ⟨i, off, sp⟩ := ad
      cases sp with
      | none => exact .inl ⟨i, off, rfl⟩
      | some s => exact .inr ⟨rfl, fun _ _ => rfl⟩
  | _ => exact .inr ⟨rfl, fun _ _ => rfl⟩
theorem cLoad_eq (P : Program) (t : TypeId) (a : Value) (st : St) : (cLoad P t).fn a st = loadP P t a st := by
  rcases ptr_cases a st with ⟨i, off, rfl⟩ | ⟨h1, h2⟩
  · unfold cLoad loadP ptrCells
    split
    · rename_i hA
      split
      · rename_i n hn
        simp only [bnd_eq, hA, hn, Option.bind_some]
        cases st.cells i <;> rfl
      · rename_i hn
        simp only [hA, hn, Option.bind_some, Option.bind_none]
        cases st.cells i <;> rfl
    · rename_i hA
      simp only [bnd_eq, hA, Option.bind_some]
      cases st.cells i <;> rfl
    · rename_i hA
      simp only [hA, Option.bind_none]
      cases st.cells i <;> rfl
  · rw [h2]
    unfold cLoad
    split
    · split
      · simp only [h1, bnd_eq, Option.bind_none]
      · rfl
    · simp only [h1, bnd_eq, Option.bind_none]
    · rfl

def eqBs : List UInt8 → List UInt8 → Bool
  | [], [] => true
  | x :: l, y :: m => bif Nat.beq x.toNat y.toNat then eqBs l m else false
  | _, _ => false
theorem eqBs_eq : ∀ (l m : List UInt8), eqBs l m = decide (l = m)
  | [], [] => rfl
  | [], _ :: _ => rfl
  | _ :: _, [] => rfl
  | x :: l, y :: m => by
    unfold eqBs
    rw [eqBs_eq l m]
    by_cases h : x = y
    · subst h
      have : Nat.beq x.toNat x.toNat = true := Nat.beq_refl _
      simp [this]
    · have : Nat.beq x.toNat y.toNat = false := by
        rw [beq_dec]
        exact decide_eq_false (fun e => h (UInt8.toNat_inj.1 e))
      simp [this, h]
def eqStr (a b : ByteArray) : Bool := eqBs a.data.toList b.data.toList
theorem eqStr_eq (a b : ByteArray) : eqStr a b = (a.toList == b.toList) := by
  unfold eqStr
  rw [eqBs_eq, ByteArray.toList_eq, ByteArray.toList_eq]
  by_cases h : a.data.toList = b.data.toList
  · rw [h]; simp
  · rw [decide_eq_false h]; symm; simpa using h
theorem pureRun_under {α : Type} {P : Program} {t : TypeId} {d : TypeDesc} (hu : P.underlying t = some d) (k : TypeDesc → Sem α) : pureRun P (underlying t >>= k) = pureRun P (k d) := by
  have : pureRun P (underlying t >>= k) = pureRun P ((match P.underlying t with | some d => (pure d : Sem TypeDesc) | none => stuck "no such type") >>= k) := rfl
  rw [this, hu]
  rfl
theorem op1_not {P : Program} {G : Cx} {τ : Tr Value} {o : Oper} {st : St} {t : TypeId} {x : Operand} {b : Bool} (e : o.op = .unOp .not t x) (hx : eval G τ x = some (.bool b)) : op1 P G τ o st = some (.bool !b, st) := by
  simp [op1, e, plainP, Op.operands, hx, closedV, execOp, Op.unary]
  rfl
theorem op1_str {P : Program} {G : Cx} {τ : Tr Value} {o : Oper} {st : St} {op : BinOp} {t yt : TypeId} {x y : Operand} {a b : ByteArray} (e : o.op = .binOp op t x y yt) (hx : eval G τ x = some (.string a)) (hy : eval G τ y = some (.string b)) :
    (op = .eql → op1 P G τ o st = some (.bool (eqStr a b), st)) ∧ (op = .neq → op1 P G τ o st = some (.bool !(eqStr a b), st)) := by
  constructor
  · rintro rfl
    simp [op1, e, plainP, Op.operands, hx, hy, closedV, execOp, binOp, Op.stringOp, eqGuard, intP, eqP, nilEq, ptrEqP, eqStr_eq]
    rfl
  · rintro rfl
    simp [op1, e, plainP, Op.operands, hx, hy, closedV, execOp, binOp, Op.stringOp, eqGuard, intP, eqP, nilEq, ptrEqP, eqStr_eq]
    rfl
theorem evalL_one {G : Cx} {τ : Tr Value} {l : List Operand} {v : Value} (h : evalL G τ l = some [v]) : ∃ x, l = [x] ∧ eval G τ x = some v := by
  match l, h with
  | [], h => cases h
  | x :: m, h =>
    unfold evalL at h
    cases hx : eval G τ x with
    | none => simp [hx] at h
    | some v1 =>
      cases hm : evalL G τ m with
      | none => simp [hx, hm] at h
      | some vs =>
        simp [hx, hm] at h
        obtain ⟨rfl, rfl⟩ := h
        cases m with
        | nil => exact ⟨x, rfl, hx⟩
        | cons y m =>
          unfold evalL at hm
          cases hy : eval G τ y with
          | none => simp [hy] at hm
          | some v2 =>
            cases hz : evalL G τ m with
            | none => simp [hy, hz] at hm
            | some _ => simp [hy, hz] at hm
theorem op1_lens {P : Program} {G : Cx} {τ : Tr Value} {o : Oper} {st : St} {args : Array Operand} {argTypes : Array TypeId} {t : TypeId} {tl : List TypeId} {s : ByteArray} (e : o.op = .call { callee := .builtin .len, args, argTypes }) (ht : argTypes.toList = t :: tl) (hu : P.underlying t = some .string)
    (hv : evalL G τ args.toList = some [.string s]) : op1 P G τ o st = some (.int .i64 (Int.ofNat s.data.toList.length), st) := by
  have ht0 : argTypes[0]? = some t := by rw [← Array.getElem?_toList, ht]; rfl
  obtain ⟨x, hx, hev⟩ := evalL_one hv
  have hargs : args = #[x] := by apply Array.toList_inj.1; simpa using hx
  subst hargs
  simp [op1, e, hv, plainP, Op.operands, Call.operands, hev, closedV, execOp, resolve, invoke, builtin, Builtin.len_, ht0]
  rw [pureRun_under hu]
  rfl
theorem op1_lenn {P : Program} {G : Cx} {τ : Tr Value} {o : Oper} {st : St} {args : Array Operand} {argTypes : Array TypeId} {t : TypeId} {tl : List TypeId} {el : TypeId} {n c : Nat} (e : o.op = .call { callee := .builtin .len, args, argTypes }) (ht : argTypes.toList = t :: tl) (hu : P.underlying t = some (.slice el))
    (hv : evalL G τ args.toList = some [.slice none n c]) : op1 P G τ o st = some (.int .i64 (n : Int), st) := by
  have ht0 : argTypes[0]? = some t := by rw [← Array.getElem?_toList, ht]; rfl
  obtain ⟨x, hx, hev⟩ := evalL_one hv
  have hargs : args = #[x] := by apply Array.toList_inj.1; simpa using hx
  subst hargs
  simp [op1, e, hv, plainP, Op.operands, Call.operands, hev, closedV, execOp, resolve, invoke, builtin, Builtin.len_, ht0]
  rw [pureRun_under hu]
  rfl
theorem op1_index {P : Program} {G : Cx} {τ : Tr Value} {o : Oper} {st : St} {t : TypeId} {x i : Operand} {s : ByteArray} {k : IntKind} {n : Nat} {b : UInt8} (e : o.op = .index t x i) (hu : P.underlying t = some .string) (hx : eval G τ x = some (.string s)) (hi : eval G τ i = some (.int k (.ofNat n))) (hb : s.data.toList[n]? = some b) :
    op1 P G τ o st = some (.int .u8 (b.toNat : Int), st) := by
  have hb2 : s[n]? = some b := by
    have h1 : n < s.data.toList.length := (List.getElem?_eq_some_iff.1 hb).1
    have h2 : n < s.size := by show n < s.data.size; rw [← Array.length_toList]; exact h1
    rw [getElem?_pos s n h2]
    have := (List.getElem?_eq_some_iff.1 hb).2
    rw [← this]
    rfl
  simp [op1, e, plainP, Op.operands, hx, hi, closedV, execOp, Instr.index, asIntOf]
  rw [pureRun_under hu]
  simp only [hb2]
  rfl
def cOp1 (P : Program) (G : Cx) (o : Oper) : Bx (Tr Value → St → Option (Value × St)) :=
  match o.op with
  | .move x => ⟨fun τ st => bnd ((cEval G x).fn τ) fun v => some (v, st)⟩
  | .assign x => ⟨fun τ st => bnd ((cEval G x).fn τ) fun v => some (v, st)⟩
  | .extract t i => ⟨fun τ st => bnd ((cEval G t).fn τ) fun t => match t with
    | .tuple vs => bnd (vs.toList[i]?) fun v => some (v, st)
    | _ => none⟩
  | .load t a => ⟨fun τ st => bnd ((cEval G a).fn τ) fun a => bnd ((cLoad P t).fn a st) fun v => some (v, st)⟩
  | .store t a x => ⟨fun τ st => bnd ((cEval G a).fn τ) fun a => bnd ((cEval G x).fn τ) fun x => bnd (storeP P t a x st) fun st => some (undef, st)⟩
  | .alloc T => match zeroP P T with
    | some z => ⟨fun τ st => some (.pointer (some ⟨st.n, 0, none⟩), st.new (.cells z.cells.toList T none))⟩
    | none => ⟨fun τ st => none⟩
  | .build t ps => ⟨fun τ st => bnd ((cEvalP G ps.toList).fn τ) fun ps => bnd (buildP P t ps) fun v => some (v, st)⟩
  | .buildSlice t n ps => ⟨fun τ st => bnd ((cEvalP G ps.toList).fn τ) fun ps => buildSliceP P t n ps st⟩
  | .nilCheck x => ⟨fun τ st => bnd ((cEval G x).fn τ) fun v => match v with
    | .pointer (some _) => some (v, st)
    | .func (.func _) _ _ => some (v, st)
    | .iface _ _ => some (v, st)
    | .func (.method name) first _ => bnd (nilFnP P name first) fun _ => some (v, st)
    | _ => none⟩
  | .field t x f => ⟨fun τ st => bnd ((cEval G x).fn τ) fun x => bnd (fieldP P t x f) fun v => some (v, st)⟩
  | .fieldAddr t x f => ⟨fun τ st => bnd ((cEval G x).fn τ) fun x => bnd (fieldAddrP P t x f) fun v => some (v, st)⟩
  | .indexAddr t x i => ⟨fun τ st => bnd ((cEval G x).fn τ) fun x => bnd ((cEval G i).fn τ) fun i => bnd (indexAddrP P t x i) fun v => some (v, st)⟩
  | .makeFunc fn a b => match fn with
    | .func _ => ⟨fun τ st => bnd ((cEvalL G a.toList).fn τ) fun a => bnd ((cEvalL G b.toList).fn τ) fun b => some (.func fn a.toArray b.toArray, st)⟩
    | .method _ => ⟨fun τ st => bnd ((cEvalL G a.toList).fn τ) fun a => bnd ((cEvalL G b.toList).fn τ) fun b => some (.func fn a.toArray b.toArray, st)⟩
    | _ => ⟨fun τ st => none⟩
  | .binOp op t x y _ => ⟨fun τ st => bnd ((cEval G x).fn τ) fun a => bnd ((cEval G y).fn τ) fun b => match intP op a b with
    | some v => some (v, st)
    | none => match op, a, b with
      | .eql, .string a, .string b => some (.bool (eqStr a b), st)
      | .neq, .string a, .string b => some (.bool !(eqStr a b), st)
      | _, _, _ => op1 P G τ o st⟩
  | .pick c a b => ⟨fun τ st => bnd ((cEval G c).fn τ) fun c => match c with
    | .bool true => bnd ((cEval G a).fn τ) fun v => bnd ((cEval G b).fn τ) fun _ => some (v, st)
    | .bool false => bnd ((cEval G a).fn τ) fun _ => bnd ((cEval G b).fn τ) fun v => some (v, st)
    | _ => none⟩
  | .box T x => ⟨fun τ st => bnd ((cEval G x).fn τ) fun v => some (.pointer (some ⟨st.n, 0, none⟩), st.new (.cells v.cells.toList T none))⟩
  | .unOp op t x => match op with
    | .not => ⟨fun τ st => match (cEval G x).fn τ with
      | some (.bool b) => some (.bool !b, st)
      | _ => op1 P G τ o st⟩
    | _ => ⟨fun τ st => op1 P G τ o st⟩
  | .index t x i => match P.underlying t with
    | some .string => ⟨fun τ st => match (cEval G x).fn τ, (cEval G i).fn τ with
      | some (.string s), some (.int k (.ofNat n)) => match s.data.toList[n]? with
        | some b => some (.int .u8 (b.toNat : Int), st)
        | none => op1 P G τ o st
      | _, _ => op1 P G τ o st⟩
    | _ => ⟨fun τ st => op1 P G τ o st⟩
  | .range t x => ⟨fun τ st => op1 P G τ o st⟩
  | .next it s => ⟨fun τ st => bnd ((cEval G it).fn τ) fun it => nextP it s st⟩
  | .lookup t m k ok => ⟨fun τ st => bnd ((cEval G m).fn τ) fun m => bnd ((cEval G k).fn τ) fun k => bnd (lookupP P t m k ok st) fun v => some (v, st)⟩
  | .mapUpdate t m k x => ⟨fun τ st => bnd ((cEval G m).fn τ) fun m => bnd ((cEval G k).fn τ) fun k => bnd ((cEval G x).fn τ) fun x => bnd (mapUpdateP P t m k x st) fun st => some (undef, st)⟩
  | .call { callee := .builtin b, args, argTypes } => match b with
    | .append => ⟨fun τ st => bnd ((cEvalL G args.toList).fn τ) fun vs => match vs with
      | [s, x] => appendP P argTypes.toList s x st
      | _ => op1 P G τ o st⟩
    | .len => match argTypes.toList with
      | t :: _ => match P.underlying t with
        | some (.slice _) => ⟨fun τ st => bnd ((cEvalL G args.toList).fn τ) fun vs => match vs with
          | [.slice (some _) n _] => some (.int .i64 (n : Int), st)
          | [.slice none n _] => some (.int .i64 (n : Int), st)
          | _ => op1 P G τ o st⟩
        | some .string => ⟨fun τ st => bnd ((cEvalL G args.toList).fn τ) fun vs => match vs with
          | [.string s] => some (.int .i64 (Int.ofNat s.data.toList.length), st)
          | _ => op1 P G τ o st⟩
        | _ => ⟨fun τ st => op1 P G τ o st⟩
      | _ => ⟨fun τ st => op1 P G τ o st⟩
    | _ => ⟨fun τ st => op1 P G τ o st⟩
  | _ => ⟨fun τ st => op1 P G τ o st⟩
set_option maxHeartbeats 1000000 in
theorem cOp1_eq (P : Program) (G : Cx) (o : Oper) (τ : Tr Value) (st : St) : (cOp1 P G o).fn τ st = op1 P G τ o st := by
  unfold cOp1
  split
  all_goals first | rfl | skip
  all_goals (rename_i e; try (simp only [op1, e, bnd_eq, cEval_eq, cEvalL_eq, cEvalP_eq, cLoad_eq]; done))
  · -- extract
    simp only [op1, e, bnd_eq, cEval_eq]
    congr 1
    funext v
    cases v <;> first | rfl | (simp only [Array.getElem?_toList])
  · -- alloc
    simp only [op1, e]
    split <;> rename_i h <;> simp only [h, Option.bind_some, Option.bind_none]
  · -- nilCheck
    simp only [op1, e, bnd_eq, cEval_eq]
    congr 1
  · -- makeFunc
    simp only [op1, e]
    split
    · simp only [bnd_eq, cEvalL_eq]
    · simp only [bnd_eq, cEvalL_eq]
    · rename_i fn _ _ _ hne hne2
      cases fn <;> first | rfl | exact absurd rfl (hne _) | exact absurd rfl (hne2 _)
  · -- binOp
    rename_i op t x y yt
    simp only [bnd_eq, cEval_eq]
    cases hx : eval G τ x with
    | none => simp only [op1, e, hx, Option.bind_none]
    | some a =>
      cases hy : eval G τ y with
      | none => simp only [op1, e, hx, hy, Option.bind_none, Option.bind_some]
      | some b =>
        simp only [Option.bind_some]
        split
        · rename_i v hi
          simp only [op1, e, hx, hy, Option.bind_some, hi]
        · split
          · exact ((op1_str e hx hy).1 rfl).symm
          · exact ((op1_str e hx hy).2 rfl).symm
          · rfl
  · -- pick
    simp only [op1, e, bnd_eq, cEval_eq]
    congr 1
  · -- unOp
    split
    · simp only [cEval_eq]
      split
      · rename_i hx
        exact (op1_not e hx).symm
      · rfl
    · rfl
  · -- index
    split
    · rename_i hu
      simp only [cEval_eq]
      split
      · rename_i hx hi
        split
        · rename_i hb
          exact (op1_index e hu hx hi hb).symm
        · rfl
      · rfl
    · rfl
  · -- builtin
    rename_i b args argTypes
    split
    · simp only [bnd_eq, cEvalL_eq]
      cases hv : evalL G τ args.toList with
      | none => simp only [op1, e, hv, Option.bind_none]
      | some vs =>
        simp only [Option.bind_some]
        split
        · simp only [op1, e, hv, Option.bind_some]
        · rfl
    · split
      · rename_i t tl ht
        split
        · rename_i el hu
          simp only [bnd_eq, cEvalL_eq]
          cases hv : evalL G τ args.toList with
          | none => simp only [op1, e, hv, Option.bind_none]
          | some vs =>
            simp only [Option.bind_some]
            split
            · simp only [op1, e, hv, ht, hu, Option.bind_some]
            · exact (op1_lenn e ht hu hv).symm
            · rfl
        · rename_i hu
          simp only [bnd_eq, cEvalL_eq]
          cases hv : evalL G τ args.toList with
          | none => simp only [op1, e, hv, Option.bind_none]
          | some vs =>
            simp only [Option.bind_some]
            split
            · exact (op1_lens e ht hu hv).symm
            · rfl
        · rfl
      · rfl
    · rfl

section
variable (P : Program) (G : Cx)
abbrev Rec := Task → Option (List Res)
def cOp (o : Oper) : Bx (Rec → Tr Value → St → Option (List (Value × St))) :=
  match o.op with
  | .call { callee := .value f, args, .. } => match f with
    | .func k => match nthF P.funcs.toList k with
      | some fn => match fn.body with
        | some _ => ⟨fun rec τ st => bnd ((cEvalL G args.toList).fn τ) fun args => bndM (rec (.call k args st)) fun r => Res.casesOn (motive := fun _ => Option (List (Value × St))) r fun _ v _ st => some [(v, st)]⟩
        | none => ⟨fun rec τ st => opP P G rec τ o st⟩
      | none => ⟨fun rec τ st => opP P G rec τ o st⟩
    | _ => ⟨fun rec τ st => bnd ((cEval G f).fn τ) fun f => bnd ((cEvalL G args.toList).fn τ) fun args => bnd (leadP P f args) fun ld => toLead P G rec ld st⟩
  | .call { callee := .invoke r name, args, .. } => ⟨fun rec τ st => opP P G rec τ o st⟩
  | .next it false => ⟨fun rec τ st => bnd ((cEval G it).fn τ) fun it => nextMN it st⟩
  | _ => ⟨fun rec τ st => liftQ ((cOp1 P G o).fn τ st)⟩
theorem cOp_eq (rec : Rec) (τ : Tr Value) (o : Oper) (st : St) : (cOp P G o).fn rec τ st = opP P G rec τ o st := by
  unfold cOp
  split
  · rename_i f args _ e
    split
    · rename_i k
      split
      · rename_i fn hfn
        rw [nthF_eq] at hfn
        split
        · rename_i c hc
          simp only [opP, e, eval, leadP, toLead, hfn, hc, bnd_eq, bndM_eq, cEvalL_eq, Option.bind_some, List.append_nil, List.nil_append, Array.toList_empty]
        · rfl
      · rfl
    · simp only [opP, e, bnd_eq, cEval_eq, cEvalL_eq]
  · rfl
  · rename_i it e
    simp only [opP, e, bnd_eq, cEval_eq]
  · rename_i h1 h2 h3
    show liftQ ((cOp1 P G o).fn τ st) = _
    rw [cOp1_eq, liftQ_eq]
    unfold opP
    split
    · rename_i e; exact absurd e (h1 _ _ _)
    · rename_i e; exact absurd e (h2 _ _ _ _)
    · rename_i e; exact absurd e (h3 _)
    · rfl
def cWant (all : List Oper) (o : Oper) : Bx (Tr Value → Bool) :=
  match o.guard with
  | none => ⟨fun _ => true⟩
  | some (j, want) => match all[j]? with
    | some oj => match oj.dst with
      | some d => match want with
        | true => ⟨fun τ => match orUndef (τ.get d) with
          | .bool b => b
          | _ => false⟩
        | false => ⟨fun τ => match orUndef (τ.get d) with
          | .bool b => !b
          | _ => false⟩
      | none => ⟨fun _ => false⟩
    | none => ⟨fun _ => false⟩
theorem cWant_eq (all : List Oper) (o : Oper) (τ : Tr Value) : (cWant all o).fn τ = wantedP all τ o := by
  unfold cWant wantedP
  split
  · rename_i h; simp only [h]
  · rename_i j want h
    simp only [h]
    split
    · rename_i oj h2
      simp only [h2]
      split
      · rename_i d h3
        simp only [h3]
        cases want <;> simp only [orUndef_eq] <;> cases (τ.get d).getD undef <;> simp
      · rename_i h3
        simp only [h3]
    · rename_i h2
      simp only [h2]
def cPut (d : Option Tmp) : Bx (Fr → Value → Option Fr) :=
  match d with
  | none => ⟨fun fr _ => some fr⟩
  | some t => ⟨fun fr v => Fr.casesOn (motive := fun _ => Option Fr) fr fun τ N ds => bif Nat.blt t N then some ⟨τ.put t (some v), N, ds⟩ else none⟩
theorem cPut_eq (d : Option Tmp) (fr : Fr) (v : Value) : (cPut d).fn fr v = put fr d v := by cases d <;> rfl
def cOps (all : List Oper) : List Oper → Bx (Rec → Fr → St → Option (List (Fr × St)))
  | [] => ⟨fun _ fr st => some [(fr, st)]⟩
  | o :: l => match o.guard with
    | none => ⟨fun rec fr st => bndM ((cOp P G o).fn rec fr.τ st) fun q => Prod.casesOn (motive := fun _ => Option (List (Fr × St))) q fun v st => bnd ((cPut o.dst).fn fr v) fun fr => chkO st.n ((cOps all l).fn rec fr st)⟩
    | some _ => ⟨fun rec fr st => match (cWant all o).fn fr.τ with
      | true => bndM ((cOp P G o).fn rec fr.τ st) fun q => Prod.casesOn (motive := fun _ => Option (List (Fr × St))) q fun v st => bnd ((cPut o.dst).fn fr v) fun fr => chkO st.n ((cOps all l).fn rec fr st)
      | false => bnd ((cPut o.dst).fn fr undef) fun fr => (cOps all l).fn rec fr st⟩
theorem cOps_eq (rec : Rec) (all : List Oper) : ∀ (l : List Oper) (fr : Fr) (st : St), (cOps P G all l).fn rec fr st = opsP P G rec all l fr st
  | [], _, _ => rfl
  | o :: l, fr, st => by
    unfold cOps opsP
    split
    · rename_i h
      have hw : wantedP all fr.τ o = true := by simp only [wantedP, h]
      simp only [hw, bnd_eq, bndM_eq, cOp_eq, cPut_eq, cOps_eq rec all l]
    · simp only [bnd_eq, bndM_eq, cOp_eq, cPut_eq, cOps_eq rec all l, cWant_eq]
      cases wantedP all fr.τ o <;> rfl
end
def andQ (a b : Bool) : Bool := Bool.casesOn (motive := fun _ => Bool) a false b
theorem andQ_eq (a b : Bool) : andQ a b = (a && b) := by cases a <;> rfl
def orQ (a b : Bool) : Bool := Bool.casesOn (motive := fun _ => Bool) a b true
theorem orQ_eq (a b : Bool) : orQ a b = (a || b) := by cases a <;> rfl
def allQ {α : Type} (l : List α) (p : α → Bool) : Bool := List.casesOn (motive := fun _ => Bool) l true (fun _ _ => l.all p)
theorem allQ_eq {α : Type} (l : List α) (p : α → Bool) : allQ l p = l.all p := by cases l <;> rfl
def disjQ (a b : List Nat) : Bool := List.casesOn (motive := fun _ => Bool) b true (fun _ _ => allQ a fun x => !(b.contains x))
theorem disjQ_eq (a b : List Nat) : disjQ a b = disj a b := by
  cases b with
  | nil => simp [disjQ, disj]
  | cons x b => simp only [disjQ, disj, allQ_eq]
def outQ (l : List Nat) (lo hi : Nat) : Bool := List.casesOn (motive := fun _ => Bool) l true (fun _ _ => bif Nat.beq lo hi then true else l.all fun x => !(inR lo hi x))
theorem outQ_eq (l : List Nat) (lo hi : Nat) : outQ l lo hi = l.all (fun x => !(inR lo hi x)) := by
  cases l with
  | nil => rfl
  | cons y l =>
    simp only [outQ]
    cases h : Nat.beq lo hi with
    | false => rfl
    | true =>
      have h := Nat.eq_of_beq_eq_true h
      subst h
      symm
      simp only [cond_true, List.all_eq_true]
      intro x _
      have : inR lo lo x = false := by
        unfold inR
        cases h1 : Nat.ble lo x with
        | false => rfl
        | true =>
          have h1 := Nat.le_of_ble_eq_true h1
          cases h2 : Nat.blt x lo with
          | false => rfl
          | true =>
            have h2 : x < lo := Nat.le_of_ble_eq_true h2
            omega
      simp [this]
def needQ (need : Option (List Nat)) (W : List Nat) (lo hi : Nat) : Bool := Option.casesOn (motive := fun _ => Bool) need (List.casesOn (motive := fun _ => Bool) W true (fun _ _ => false)) (fun l => andQ (disjQ l W) (outQ l lo hi))
theorem needQ_eq (need : Option (List Nat)) (W : List Nat) (lo hi : Nat) : needQ need W lo hi = (match need with
   | some l => disj l W && l.all (fun x => !(inR lo hi x))
   | none => W.isEmpty) := by
  cases need with
  | none => cases W <;> rfl
  | some l => simp only [needQ, andQ_eq, disjQ_eq, outQ_eq]
/-- Two operations' places, the same at each visit. -/
def tmpOk (reads : List Tmp) (dst : Option Tmp) (reads2 : List Tmp) (dst2 : Option Tmp) : Bool :=
  reads.all (fun t => !(match dst2 with | some d => Nat.beq d t | none => false)) && reads2.all (fun t => !(match dst with | some d => Nat.beq d t | none => false)) &&
  (match dst with | some d => !(match dst2 with | some d2 => Nat.beq d2 d | none => false) | none => true)
def allPairsF (bef lo hi : Nat) (W : List Nat) (need : Option (List Nat)) (dst : Option Tmp) (reads : List Tmp) : List Rc → Bool
  | [] => true
  | Q :: l => andQ (orQ (bef.testBit l.length) (Rc.casesOn (motive := fun _ => Bool) Q fun _ lo2 hi2 W2 need2 dst2 reads2 _ _ =>
      andQ (tmpOk reads dst reads2 dst2) (andQ (disjQ W W2) (andQ (outQ W lo2 hi2) (andQ (needQ need W2 lo2 hi2) (needQ need2 W lo hi)))))) (allPairsF bef lo hi W need dst reads l)
theorem allPairsF_eq (R : Rc) : ∀ l : List Rc, allPairsF R.bef R.lo R.hi R.W R.need R.dst R.reads l = allPairs R l
  | [] => rfl
  | Q :: l => by
    obtain ⟨bef2, lo2, hi2, W2, need2, dst2, reads2, H2, v2⟩ := Q
    simp only [allPairsF, allPairs, andQ_eq, orQ_eq, disjQ_eq, outQ_eq, needQ_eq, allPairsF_eq R l]
    congr 2
    simp only [pairOk, tmpOk, Rc.writes]
    rw [Bool.and_comm (_ && _ && _)]
    simp only [Bool.and_assoc]
    cases R.dst <;> simp <;> rfl
/-- Which operations come ahead: asked of the numbers alone. -/
def befL (bs : List Nat) (j : Nat) : List Edge → Option Nat
  | [] => some 0
  | e :: l => (befL bs j l).bind fun s => bif Region.binds .any e then
      (bif Nat.blt e.on j then (bs[j - 1 - e.on]?).bind fun b => some (s ||| 2 ^ e.on ||| b) else none) else some s
theorem befL_eq (recs : List Rc) (j : Nat) : ∀ l, befL (recs.map Rc.bef) j l = befOf recs j l
  | [] => rfl
  | e :: l => by
    unfold befL befOf
    rw [befL_eq recs j l]
    congr 1
    funext s
    cases Region.binds .any e with
    | false => rfl
    | true =>
      simp only [cond_true]
      cases Nat.blt e.on j with
      | false => rfl
      | true =>
        simp only [cond_true, List.getElem?_map]
        cases recs[j - 1 - e.on]? <;> rfl
section
variable (P : Program) (G : Cx)
def drawOneF (rec : Rec) (all : List Oper) (bef : Nat) (recs : List Rc) (o : Oper) (fr : Fr) (st : St) : Option (Rc × Fr × St) :=
  bnd (match (cWant all o).fn (restrictT fr.τ (readsOf all o)) with
   | false => some (undef, ({ H := .nil, n := st.n, W := [] } : St), some ([] : List Nat))
   | true => bif isLead o then
       bnd (detQ ((cOp P G o).fn rec (restrictT fr.τ (readsOf all o)) { H := stripH st.H (strange bef recs), n := st.n, W := [] })) fun q => some (q.1, q.2, none)
     else
       bnd (detQ ((cOp P G o).fn rec (restrictT fr.τ (readsOf all o)) { H := restrictH st.H (needsOf G (restrictT fr.τ (readsOf all o)) o), n := st.n, W := [] })) fun q => some (q.1, q.2, some (needsOf G (restrictT fr.τ (readsOf all o)) o))) fun q =>
  Prod.casesOn (motive := fun _ => Option (Rc × Fr × St)) q fun v q => Prod.casesOn (motive := fun _ => Option (Rc × Fr × St)) q fun st' need => St.casesOn (motive := fun _ => Option (Rc × Fr × St)) st' fun H' n' W' =>
  bif andQ (andQ (allPairsF bef st.n n' (W'.filter (fun x => Nat.blt x st.n)) need o.dst (readsOf all o) recs) (allQ W' (fun x => Nat.blt x n'))) (Nat.ble st.n n') then
    bnd ((cPut o.dst).fn fr v) fun fr' => some (⟨bef, st.n, n', W'.filter (fun x => Nat.blt x st.n), need, o.dst, readsOf all o, H', v⟩, fr', { H := applyH st.H H' (W'.filter (fun x => Nat.blt x st.n) ++ rangeL st.n (n' - st.n)), n := n', W := W' ++ st.W })
  else none
theorem drawOneF_eq (rec : Rec) (all : List Oper) (recs : List Rc) (o : Oper) (fr : Fr) (st : St) :
    (befOf recs recs.length o.after.toList).bind (fun bef => drawOneF P G rec all bef recs o fr st) = drawOne P G rec all recs o fr st := by
  unfold drawOneF drawOne
  simp only [bnd_eq, detQ_eq, cOp_eq, cPut_eq, cWant_eq]
  refine congrArg (Option.bind _) (funext fun bef => ?_)
  refine congr (congrArg Option.bind ?_) (funext fun q => ?_)
  · cases wantedP all (restrictT fr.τ (readsOf all o)) o <;> rfl
  · obtain ⟨v, ⟨H', n', W'⟩, need⟩ := q
    have e := allPairsF_eq ⟨bef, st.n, n', W'.filter (fun x => Nat.blt x st.n), need, o.dst, readsOf all o, H', v⟩ recs
    dsimp only at e
    simp only [andQ_eq, allQ_eq, e]
def drawF (rec : Rec) (all : List Oper) : List Oper → List Nat → List Rc → Fr → St → Option (List Rc × Fr × St)
  | [], bs, recs, fr, st => some (recs, fr, st)
  | o :: l, bs, recs, fr, st => bnd (befL bs bs.length o.after.toList) fun bef => bnd (drawOneF P G rec all bef recs o fr st) fun q => Prod.casesOn (motive := fun _ => Option (List Rc × Fr × St)) q fun R q => Prod.casesOn (motive := fun _ => Option (List Rc × Fr × St)) q fun fr st => drawF rec all l (bef :: bs) (R :: recs) fr st
theorem drawOneF_bef {rec : Rec} {all : List Oper} {bef : Nat} {recs : List Rc} {o : Oper} {fr : Fr} {st : St} {q : Rc × Fr × St} (h : drawOneF P G rec all bef recs o fr st = some q) : q.1.bef = bef := by
  unfold drawOneF at h
  simp only [bnd_eq] at h
  rw [Option.bind_eq_some_iff] at h
  obtain ⟨⟨v, ⟨H', n', W'⟩, need⟩, _, h⟩ := h
  dsimp only at h
  simp only [cond_eq_ite] at h
  split at h
  · rw [Option.bind_eq_some_iff] at h
    obtain ⟨fr', _, h⟩ := h
    cases h
    rfl
  · cases h
theorem drawF_eq (rec : Rec) (all : List Oper) : ∀ (l : List Oper) (recs : List Rc) (fr : Fr) (st : St), drawF P G rec all l (recs.map Rc.bef) recs fr st = drawP P G rec all l recs fr st
  | [], _, _, _ => rfl
  | o :: l, recs, fr, st => by
    simp only [drawF, drawP, bnd_eq, ← drawOneF_eq, befL_eq, List.length_map]
    rw [Option.bind_assoc]
    refine congrArg (Option.bind _) (funext fun bef => ?_)
    cases h : drawOneF P G rec all bef recs o fr st with
    | none => rfl
    | some q =>
      have hb := drawOneF_bef P G h
      obtain ⟨R, fr', st'⟩ := q
      dsimp only at hb
      subst hb
      exact drawF_eq rec all l (R :: recs) fr' st'
def cCode (c : Code) : Bx (Rec → Option Nat → Fr → St → Option (List Res)) :=
  match c with
  | .skip => ⟨fun _ _ fr st => some [⟨.normal, undef, fr, st⟩]⟩
  | .label _ => ⟨fun _ _ fr st => some [⟨.normal, undef, fr, st⟩]⟩
  | .ret => ⟨fun _ _ fr st => some [⟨.ret, undef, fr, st⟩]⟩
  | .exit id => ⟨fun _ _ fr st => some [⟨.exit id, undef, fr, st⟩]⟩
  | .seq a b => ⟨fun rec rd fr st => bndM (rec (.code a rd fr st)) fun r => Res.casesOn (motive := fun _ => Option (List Res)) r fun out v fr st => match out with
    | .normal => chk st.n (rec (.code b rd fr st))
    | _ => some [⟨out, v, fr, st⟩]⟩
  | .cond x a b => ⟨fun rec rd fr st => bnd ((cEval G x).fn fr.τ) fun v => match v with
    | .bool true => rec (.code a rd fr st)
    | .bool false => rec (.code b rd fr st)
    | _ => none⟩
  | .block id b => ⟨fun rec rd fr st => bndM (rec (.code b rd fr st)) fun r => Res.casesOn (motive := fun _ => Option (List Res)) r fun out v fr st => match out with
    | .exit i => bif Nat.beq i id then some [⟨.normal, v, fr, st⟩] else some [⟨out, v, fr, st⟩]
    | _ => some [⟨out, v, fr, st⟩]⟩
  | .loop b => ⟨fun rec rd fr st => bndM (rec (.code b rd fr st)) fun r => Res.casesOn (motive := fun _ => Option (List Res)) r fun out v fr st => match out with
    | .normal => chk st.n (rec (.code (.loop b) rd fr st))
    | _ => some [⟨out, v, fr, st⟩]⟩
  | .region _ ops draw => match draw with
    | false => ⟨fun rec rd fr st => bndM ((cOps P G ops.toList ops.toList).fn rec fr st) fun q => Prod.casesOn (motive := fun _ => Option (List Res)) q fun fr st => some [⟨.normal, undef, fr, st⟩]⟩
    | true => ⟨fun rec rd fr st => bnd (drawF P G rec ops.toList ops.toList [] [] fr st) fun q => some [⟨.normal, undef, q.2.1, q.2.2⟩]⟩
  | .scope b => ⟨fun rec rd fr st => rec (.inSc b b rd fr st)⟩
  | _ => ⟨fun rec rd fr st => codeP P G rec c rd fr st⟩
theorem cCode_eq (rec : Rec) (c : Code) (rd : Option Nat) (fr : Fr) (st : St) : (cCode P G c).fn rec rd fr st = codeP P G rec c rd fr st := by
  unfold cCode
  split
  all_goals first | rfl | skip
  · simp only [codeP, bndM_eq]
    congr 1
  · simp only [codeP, bnd_eq, cEval_eq]
    congr 1
  · simp only [codeP, bndM_eq]
    congr 1
  · simp only [codeP, bndM_eq]
    congr 1
  · split
    · simp only [codeP, bndM_eq, cOps_eq]
    · have e := drawF_eq P G rec
      rename_i ops _
      have e := e ops.toList ops.toList [] fr st
      simp only [List.map_nil] at e
      simp only [codeP, bnd_eq, e]
def cBody (f : Nat) : Bx (Rec → List Value → St → Option (List Res)) :=
  match nthF P.funcs.toList f with
    | some fn => match fn.body with
      | some c => ⟨fun rec args st => bif Nat.ble args.length fn.ntmps then
          bndM (rec (.code c none ⟨argTr args, fn.ntmps, []⟩ st)) fun r => Res.casesOn (motive := fun _ => Option (List Res)) r fun out _ fr st => match out with
          | .normal => bnd (shutP fr.ds st) fun st => bnd (resultP P fn fr.τ st) fun v => some [⟨.normal, v, fr, st⟩]
          | .ret => bnd (shutP fr.ds st) fun st => bnd (resultP P fn fr.τ st) fun v => some [⟨.normal, v, fr, st⟩]
          | _ => none
        else none⟩
      | none => ⟨fun rec args st => none⟩
    | none => ⟨fun rec args st => none⟩
theorem cBody_eq (rec : Rec) (f : Nat) (args : List Value) (st : St) : (cBody P f).fn rec args st = callP P rec f args st := by
  unfold cBody callP
  rw [nthF_eq]
  split
  · rename_i fn hfn
    split
    · rename_i c hc
      simp only [hfn, hc, Option.bind_some, bnd_eq, bndM_eq]
      cases Nat.ble args.length fn.ntmps
      · rfl
      · simp only [cond_true]
        congr 1
    · rename_i hc
      simp only [hfn, hc, Option.bind_some, Option.bind_none]
  · rename_i hfn
    simp only [hfn, Option.bind_none]
def cCallX (f : Nat) : Bx (Rec → List Value → St → Option (List Res)) :=
  match findX G.X f with
  | some .yes => ⟨fun rec args st => match args with
      | [] => some [⟨.normal, .bool true, ⟨.nil, 0, []⟩, st⟩]
      | _ => none⟩
  | _ => bif G.J.contains f then ⟨fun rec args st => bnd ((cBody P f).fn rec args { H := st.H, n := st.n, W := [] }) (joinL st)⟩ else cBody P f
def cCall (f : Nat) : Bx (Rec → List Value → St → Option (List Res)) :=
  bif G.M.any (fun m => Nat.beq m.1 f) then ⟨fun rec args st => match findM G.M f args with
    | some v => some [⟨.normal, v, ⟨.nil, 0, []⟩, st⟩]
    | none => (cCallX P G f).fn rec args st⟩ else cCallX P G f
def stepF (rec : Rec) (t : Task) : Option (List Res) :=
  match t with
  | .code c rd fr st => (cCode P G c).fn rec rd fr st
  | .inSc all c rd fr st => scopedP rec all c rd fr st
  | .call f args st => (cCall P G f).fn rec args st
theorem findM_no : ∀ {L : List (Nat × List Value × Value)} {f : Nat} {args : List Value}, (L.any fun m => Nat.beq m.1 f) = false → findM L f args = none
  | [], _, _, _ => rfl
  | (g, xs, u) :: l, f, args, h => by
    simp only [List.any_cons, Bool.or_eq_false_iff] at h
    simp only [findM, h.1, Bool.false_and, cond_false]
    exact findM_no h.2
theorem cCallX_eq (rec : Rec) (f : Nat) (args : List Value) (st : St) : (cCallX P G f).fn rec args st = callX P G rec f args st := by
    unfold callX
    unfold cCallX
    split
    · rename_i hy
      simp only [hy]
      cases args <;> rfl
    · rename_i hy
      have e1 : (match findX G.X f with | some .yes => (match args with | [] => some [⟨.normal, .bool true, ⟨.nil, 0, []⟩, st⟩] | _ => none) | _ => bif G.J.contains f then joinC P rec f args st else callP P rec f args st) = (bif G.J.contains f then joinC P rec f args st else callP P rec f args st) := by
        split
        · rename_i h2; exact absurd h2 hy
        · rfl
      refine Eq.trans ?_ e1.symm
      cases G.J.contains f with
      | true => simp only [cond_true, bnd_eq, cBody_eq, joinC]
      | false => simp only [cond_false, cBody_eq]
theorem stepF_eq (rec : Rec) (t : Task) : stepF P G rec t = stepP P G rec t := by
  cases t with
  | code c rd fr st => exact cCode_eq P G rec c rd fr st
  | inSc all c rd fr st => rfl
  | call f args st =>
    simp only [stepF, stepP]
    unfold cCall
    cases hb : G.M.any fun m => Nat.beq m.1 f with
    | true =>
      simp only [cond_true]
      cases findM G.M f args with
      | some v => rfl
      | none => exact cCallX_eq P G rec f args st
    | false =>
      simp only [cond_false, findM_no hb]
      exact cCallX_eq P G rec f args st
end
def runF (P : Program) (G : Cx) (n : Nat) : Task → Option (List Res) :=
  Nat.rec (motive := fun _ => Task → Option (List Res)) (fun _ => none) (fun _ r => stepF P G r) n
theorem runF_eq (P : Program) (G : Cx) : ∀ n, runF P G n = run P G n
  | 0 => rfl
  | n + 1 => by
    have ih := runF_eq P G n
    funext t
    show stepF P G (runF P G n) t = stepP P G (run P G n) t
    rw [ih, stepF_eq]
end Ev
end Go.Proofs.Ytgafkphhnlifiaa
