/- A run of the program on marks in the place of blocks: plain functions that the kernel can run. No program is named here. What a mark stands for: values, rows and worlds against their marks. No program is named here. Worlds against marks: what holds of each mark, and a step from one to the next. No program is named here. Single operations on marks, and what the model makes of them: reading, writing, making. No program is named here. -/
import Derived.Test.YtcnbgdplkobenaaGreatDoorRows
import Derived.RangeFuncLeaves
import Derived.OrdersIn
import Derived.LoopNIn
import Derived.WalkKit
import Derived.Below
namespace Go.Proofs.YtcnbgdplkobenaaGreatDoor
section
namespace Ev
set_option linter.unusedVariables false

/-- A capacity from here on says 'what the row has, less so much'. -/
def big : Nat := 1152921504606846976

mutual
/-- No block is named in it. -/
def closedV : Value → Bool
  | .pointer (some _) => false
  | .slice (some _) _ _ => false
  | .map (some _) => false
  | .chan (some _) => false
  | .func (.yield _) _ _ => false
  | .func _ xs ys => closedA xs && closedA ys
  | .iface _ v => closedV v
  | .agg cs => closedA cs
  | .tuple vs => closedA vs
  | .bool _ => true
  | .int _ _ => true
  | .float _ _ => true
  | .complex _ _ _ => true
  | .string _ => true
  | .pointer none => true
  | .slice none _ _ => true
  | .map none => true
  | .chan none => true
  | .nilFunc => true
  | .nilIface => true
def closedA : Array Value → Bool
  | ⟨l⟩ => closedL l
def closedL : List Value → Bool
  | [] => true
  | v :: l => closedV v && closedL l
end

/-- What a piece of the model yields that asks nothing of the world. -/
def pureRun {α : Type} (P : Program) : Sem α → Option α
  | .pure a => some a
  | .program k => pureRun P (k P)
  | .mark _ k => pureRun P k
  | _ => none

inductive Tr (α : Type) where
  | nil
  | node (l : Tr α) (v : Option α) (r : Tr α)
/-- What is reckoned once: the kernel remembers it. -/
structure Bx (α : Type) where
  fn : α
def getF (α : Type) (f : Nat) : Nat → Bx (Tr α → Option α) :=
  Nat.rec (motive := fun _ => Nat → Bx (Tr α → Option α)) (fun _ => ⟨fun _ => none⟩) (fun _ ih n =>
    bif Nat.beq n 0 then ⟨fun t => Tr.casesOn (motive := fun _ => Option α) t none (fun _ v _ => v)⟩
    else bif Nat.beq (n % 2) 1 then ⟨fun t => Tr.casesOn (motive := fun _ => Option α) t none (fun l _ _ => (ih (n / 2)).fn l)⟩
    else ⟨fun t => Tr.casesOn (motive := fun _ => Option α) t none (fun _ _ r => (ih (n / 2 - 1)).fn r)⟩) f
def setF (α : Type) (f : Nat) : Nat → Bx (Option α → Tr α → Tr α) :=
  Nat.rec (motive := fun _ => Nat → Bx (Option α → Tr α → Tr α)) (fun _ => ⟨fun _ t => t⟩) (fun _ ih n =>
    bif Nat.beq n 0 then ⟨fun x t => Tr.casesOn (motive := fun _ => Tr α) t (.node .nil x .nil) (fun l _ r => .node l x r)⟩
    else bif Nat.beq (n % 2) 1 then ⟨fun x t => Tr.casesOn (motive := fun _ => Tr α) t (.node ((ih (n / 2)).fn x .nil) none .nil) (fun l v r => .node ((ih (n / 2)).fn x l) v r)⟩
    else ⟨fun x t => Tr.casesOn (motive := fun _ => Tr α) t (.node .nil none ((ih (n / 2 - 1)).fn x .nil)) (fun l v r => .node l v ((ih (n / 2 - 1)).fn x r))⟩) f
def Tr.get {α : Type} (t : Tr α) (n : Nat) : Option α := (getF α (n + 1) n).fn t
def Tr.put {α : Type} (t : Tr α) (n : Nat) (x : Option α) : Tr α := (setF α (n + 1) n).fn x t

/-- What lies under a mark. -/
inductive SObj where
  | cells (cs : List Value) (T : TypeId) (more : Option Nat)
  | map (es : List (Value × Value × Nat)) (clock : Nat)
  | loop (state : LoopState) (pending : Option Code) (tmps : Tr Value) (N : Nat) (params : Array Tmp) (assign body : Code) (around : Nat)
  | deferred
  | sIter (s : ByteArray) (pos : Nat)
  | mIter (m : Option Nat) (since : Nat) (seen : List Nat) (last : Nat)

structure St where
  H : Tr SObj
  n : Nat
  W : List Nat

structure Fr where
  τ : Tr Value
  N : Nat
  ds : List Nat

inductive Out where
  | normal
  | exit (id : Nat)
  | goto (l : Nat)
  | ret

inductive Task where
  | code (c : Code) (rd : Option Nat) (fr : Fr) (st : St)
  | inSc (all c : Code) (rd : Option Nat) (fr : Fr) (st : St)
  | call (f : Nat) (args : List Value) (st : St)

structure Res where
  out : Out
  v : Value
  fr : Fr
  st : St

/-- All that may come; none: not known. -/
def goM {α β : Type} (f : α → Option (List β)) : List α → Option (List β)
  | [] => some []
  | a :: l => (f a).bind fun r => (goM f l).bind fun s => some (r ++ s)
def bindM {α β : Type} (x : Option (List α)) (f : α → Option (List β)) : Option (List β) := x.bind (goM f)
def lift1 {α : Type} (x : Option α) : Option (List α) := x.bind fun a => some [a]
/-- The only one. -/
def det {α : Type} (x : Option (List α)) : Option α := x.bind fun l => match l with
  | [a] => some a
  | _ => none

/-- What the model stands in for: memory touched all at once. -/
inductive Ext where
  | load (k : IntKind)
  | store
  | swap (k : IntKind)
  | cas (k : IntKind)
  | add (k : IntKind)
  | compare
  | overlaps (ps rs : List TypeId)
  | yes
/-- How many package variables there are, and which functions the model stands in for. -/
structure Cx where
  n : Nat
  X : List (Nat × Ext)
  J : List Nat := []
  M : List (Nat × List Value × Value) := []
def eval (G : Cx) (τ : Tr Value) : Operand → Option Value
  | .tmp t => some ((τ.get t).getD undef)
  | .const v => bif closedV v then some v else none
  | .global g => bif Nat.blt g G.n then some (.pointer (some ⟨g, 0, none⟩)) else none
  | .func f => some (.func (.func f) #[] #[])
def evalL (G : Cx) (τ : Tr Value) : List Operand → Option (List Value)
  | [] => some []
  | x :: l => (eval G τ x).bind fun v => (evalL G τ l).bind fun vs => some (v :: vs)
def evalP (G : Cx) (τ : Tr Value) : List (Nat × Operand) → Option (List (Nat × Value))
  | [] => some []
  | (i, x) :: l => (eval G τ x).bind fun v => (evalP G τ l).bind fun vs => some ((i, v) :: vs)
def evalO (G : Cx) (τ : Tr Value) : Option Operand → Option (Option Value)
  | none => some none
  | some x => (eval G τ x).bind fun v => some (some v)

def put (fr : Fr) (d : Option Tmp) (v : Value) : Option Fr :=
  match d with
  | none => some fr
  | some t => bif Nat.blt t fr.N then some { fr with τ := fr.τ.put t (some v) } else none

/-- n elements from off on. -/
def sub (l : List Value) (off n : Nat) : Option (List Value) :=
  bif Nat.ble (off + n) l.length then some ((l.drop off).take n) else none
def over (l : List Value) (off : Nat) (vs : List Value) : Option (List Value) :=
  bif Nat.ble (off + vs.length) l.length then some (l.take off ++ (vs ++ l.drop (off + vs.length))) else none

def St.new (st : St) (o : SObj) : St := { H := st.H.put st.n (some o), n := st.n + 1, W := st.W }
def St.upd (st : St) (i : Nat) (o : SObj) : St := { H := st.H.put i (some o), n := st.n, W := i :: st.W }
def St.cells (st : St) (i : Nat) : Option (List Value × TypeId × Option Nat) :=
  match st.H.get i with
  | some (.cells cs T m) => some (cs, T, m)
  | _ => none

def isAggP (P : Program) (t : TypeId) : Option Bool :=
  (P.underlying t).bind fun d => match d with
    | .struct _ => some true
    | .array _ _ => some true
    | _ => some false
def sizeP (P : Program) (t : TypeId) : Option Nat := (P.info? t).bind fun i => some i.size
def zeroP (P : Program) (t : TypeId) : Option Value := (P.info? t).bind fun i => i.zero.bind fun z => bif closedV z then some z else none

def partP (P : Program) (t : TypeId) (cs : List Value) (off : Nat) : Option Value :=
  (isAggP P t).bind fun g => match g with
    | true => (sizeP P t).bind fun n => (sub cs off n).bind fun l => some (.agg l.toArray)
    | false => cs[off]?
def loadP (P : Program) (t : TypeId) (a : Value) (st : St) : Option Value :=
  match a with
  | .pointer (some ⟨i, off, none⟩) => (st.cells i).bind fun (cs, _, _) => (isAggP P t).bind fun g =>
      match g with
      | true => (sizeP P t).bind fun n => (sub cs off n).bind fun l => some (.agg l.toArray)
      | false => cs[off]?
  | _ => none
/-- Not a struct, no tuple: what one cell holds. -/
def one (v : Value) : Bool :=
  match v with
  | .agg _ => false
  | .tuple _ => false
  | _ => true
def allOne : List Value → Bool
  | [] => true
  | v :: l => one v && allOne l
def storeP (P : Program) (t : TypeId) (a v : Value) (st : St) : Option St :=
  match a with
  | .pointer (some ⟨i, off, none⟩) => (st.cells i).bind fun (cs, T, m) => (sizeP P t).bind fun n =>
      let vs := v.cells.toList
      bif Nat.beq vs.length n && allOne vs then (over cs off vs).bind fun cs' => some (st.upd i (.cells cs' T m)) else none
  | _ => none

def places (P : Program) : List Field → Option (List (Nat × Nat))
  | [] => some []
  | f :: l => (sizeP P f.type).bind fun n => (places P l).bind fun ps => some ((f.offset, n) :: ps)

def buildP (P : Program) (t : TypeId) (parts : List (Nat × Value)) : Option Value :=
  (zeroP P t).bind fun z => (P.underlying t).bind fun d => match d with
    | .struct fields => (places P fields.toList).bind fun ps => (Instr.fill (fun i => ps[i]?) z.cells parts).bind fun cs => some (.agg cs)
    | .array _ elem => (sizeP P elem).bind fun n => (Instr.fill (fun i => some (i * n, n)) z.cells parts).bind fun cs => some (.agg cs)
    | _ => none
def zeros (z : List Value) : Nat → List Value
  | 0 => []
  | n + 1 => z ++ zeros z n
def buildSliceP (P : Program) (t : TypeId) (len : Nat) (parts : List (Nat × Value)) (st : St) : Option (Value × St) :=
  (P.underlying t).bind fun d => match d with
    | .slice elem => (sizeP P elem).bind fun n => (zeroP P elem).bind fun z =>
      bif Nat.ble (len * n) 16777216 && Nat.beq z.cells.size n && Nat.blt len big then
        (Instr.fill (fun i => some (i * n, n)) (zeros z.cells.toList len).toArray parts).bind fun cs =>
          some (.slice (some ⟨st.n, 0, none⟩) len len, st.new (.cells cs.toList elem none))
      else none
    | _ => none
def makeSliceP (P : Program) (t : TypeId) (l c : Value) (st : St) : Option (Value × St) :=
  (P.underlying t).bind fun d => match d, l, c with
    | .slice elem, .int .i64 (.ofNat l), .int .i64 (.ofNat c) => (P.info? elem).bind fun i => (zeroP P elem).bind fun z =>
      bif Nat.ble l c && Nat.ble (c * i.bytes) 140737488355328 && Nat.blt c big && Nat.beq z.cells.size i.size then
        some (.slice (some ⟨st.n, 0, none⟩) l c, st.new (.cells (zeros z.cells.toList c) elem none))
      else none
    | _, _, _ => none
def fieldP (P : Program) (t : TypeId) (x : Value) (f : Nat) : Option Value :=
  (P.underlying t).bind fun d => match d, x with
    | .struct fields, .agg cs => (fields[f]?).bind fun fd => partP P fd.type cs.toList fd.offset
    | _, _ => none
def fieldAddrP (P : Program) (t : TypeId) (x : Value) (f : Nat) : Option Value :=
  (P.underlying t).bind fun d => match d, x with
    | .struct fields, .pointer (some ⟨i, off, none⟩) => (fields[f]?).bind fun fd => (sizeP P fd.type).bind fun n =>
      bif Nat.beq n 0 then none else some (.pointer (some ⟨i, off + fd.offset, none⟩))
    | _, _ => none
def indexAddrP (P : Program) (t : TypeId) (x ix : Value) : Option Value :=
  (P.underlying t).bind fun d => match d, x, ix with
    | .slice elem, .slice (some ⟨i, off, none⟩) len _, .int _ (.ofNat k) => (sizeP P elem).bind fun n =>
      bif Nat.blt k len then some (.pointer (some ⟨i, off + k * n, none⟩)) else none
    | .array len elem, .pointer (some ⟨i, off, none⟩), .int _ (.ofNat k) => (sizeP P elem).bind fun n =>
      bif Nat.blt k len then some (.pointer (some ⟨i, off + k * n, none⟩)) else none
    | _, _, _ => none
/-- A bound of a slice, as a number. -/
def bound : Option Value → Nat → Option Nat
  | none, d => some d
  | some (.int _ (.ofNat k)), _ => some k
  | some _, _ => none
/-- A slice with all three bounds. -/
def slice3P (n i off cap : Nat) (lo hi mx : Option Value) (st : St) : Option Value :=
  (bound lo 0).bind fun l => match hi with
    | none => none
    | some hv => (bound (some hv) 0).bind fun h => (bound mx 0).bind fun m =>
      bif Nat.ble l h && Nat.ble h m && Nat.blt m big then
        bif Nat.ble big cap then
          (st.cells i).bind fun (cs, _, mo) => match mo with
            | some n' => bif Nat.beq n n' && Nat.beq off ((cap - big) * n) && Nat.ble (off + m * n) cs.length && Nat.blt 0 n then
                some (.slice (some ⟨i, bif Nat.beq m l then off else off + l * n, none⟩) (h - l) (m - l)) else none
            | none => none
        else bif Nat.ble m cap then some (.slice (some ⟨i, bif Nat.beq m l then off else off + l * n, none⟩) (h - l) (m - l)) else none
      else none
/-- A slice of an array behind a pointer. -/
def sliceA (n i off len : Nat) (lo hi : Option Value) : Option Value :=
  (bound lo 0).bind fun l => (bound hi len).bind fun h =>
    bif Nat.ble l h && Nat.ble h len && Nat.blt len big then some (.slice (some ⟨i, bif Nat.beq len l then off else off + l * n, none⟩) (h - l) (len - l)) else none
def sliceP (P : Program) (t : TypeId) (x : Value) (lo hi mx : Option Value) (st : St) : Option Value :=
  (P.underlying t).bind fun d => match d, x, mx with
    | .slice elem, .slice (some ⟨i, off, none⟩) len cap, none => (sizeP P elem).bind fun n => (bound lo 0).bind fun l => (bound hi len).bind fun h =>
      bif Nat.ble l h then
        bif Nat.ble big cap then
          -- the row's end is not known: as far as it is, and not up to it
          (st.cells i).bind fun (cs, _, m) => match m with
            | some n' => bif Nat.beq n n' && Nat.beq off ((cap - big) * n) && Nat.ble (off + h * n) cs.length && Nat.blt 0 n then
                bif Nat.blt l h then some (.slice (some ⟨i, off + l * n, none⟩) (h - l) (cap + l))
                else bif Nat.beq l 0 then some (.slice (some ⟨i, off, none⟩) 0 cap) else some (.slice (some ⟨i, off + l * n, some off⟩) 0 (cap + l)) else none
            | none => none
        else bif Nat.ble h cap then some (.slice (some ⟨i, bif Nat.beq l cap then off else off + l * n, none⟩) (h - l) (cap - l)) else none
      else none
    | .slice elem, .slice (some ⟨i, off, none⟩) _ cap, some mx => (sizeP P elem).bind fun n => slice3P n i off cap lo hi (some mx) st
    | .array len elem, .pointer (some ⟨i, off, none⟩), none => (sizeP P elem).bind fun n => sliceA n i off len lo hi
    | .slice elem, .slice (some ⟨i, off, some o2⟩) len cap, none => (sizeP P elem).bind fun _ => (bound lo 0).bind fun l => (bound hi len).bind fun h =>
      bif Nat.beq l 0 && Nat.beq h 0 then some (.slice (some ⟨i, off, some o2⟩) 0 cap) else none
    | _, _, _ => none

/-- The first n elements of a slice, or a string's bytes. -/
def firstP (size n : Nat) (x : Value) (st : St) : Option (List Value) :=
  match x with
  | .slice (some ⟨i, off, none⟩) _ _ => (st.cells i).bind fun (cs, _, _) => sub cs off (n * size)
  | .slice none _ _ => bif Nat.beq n 0 then some [] else none
  | .slice (some ⟨_, _, some _⟩) _ _ => bif Nat.beq n 0 then some [] else none
  | .string s => bif Nat.beq size 1 && Nat.beq n s.data.toList.length then some (s.data.toList.map fun b => .int .u8 (b.toNat : Int)) else none
  | _ => none
def lenP : Value → Option Nat
  | .slice _ n _ => some n
  | .string s => some s.data.toList.length
  | _ => none
def isIntD : TypeDesc → Bool
  | .int _ => true
  | _ => false
/-- What is to be appended: how many, and their cells. -/
def newP (bytes size : Nat) (z : Value) (dx : TypeDesc) (x : Value) (st : St) : Option (Nat × List Value) :=
  bif isIntD dx then
    match x with
    | .int .i64 (.ofNat n) => bif Nat.ble (n * bytes) 70368744177664 && Nat.ble n 70368744177664 then some (n, zeros z.cells.toList n) else none
    | _ => none
  else (lenP x).bind fun n => (firstP size n x st).bind fun news => some (n, news)
def appendP (P : Program) (ts : List TypeId) (s x : Value) (st : St) : Option (Value × St) :=
  match ts with
  | t :: tx :: _ => (P.underlying t).bind fun d => (P.underlying tx).bind fun dx => match d with
    | .slice elem => (P.info? elem).bind fun i => (zeroP P elem).bind fun z => (newP i.bytes i.size z dx x st).bind fun (n, news) =>
      bif Nat.beq i.size 0 || !(Nat.beq z.cells.size i.size) || !(allOne news) || !(Nat.beq news.length (n * i.size)) then none else
      match s with
      | .slice none 0 0 =>
        bif Nat.beq n 0 then some (s, st) else
        bif Nat.ble (n * i.bytes) 70368744177664 && Nat.ble n 70368744177664 then some (.slice (some ⟨st.n, 0, none⟩) n big, st.new (.cells news elem (some i.size))) else none
      | .slice (some ⟨b, off, none⟩) len cap => (st.cells b).bind fun (cs, T, m) =>
        bif Nat.ble big cap then
          bif Nat.beq cap big && Nat.beq off 0 && Nat.ble (len * i.size) cs.length && Nat.beq T elem then
            match m with
            | some n' =>
              bif Nat.beq n' i.size then
                bif Nat.beq n 0 then some (s, st) else
                bif Nat.ble ((len + n) * i.bytes) 70368744177664 && Nat.ble (len + n) 70368744177664 then
                  some (.slice (some ⟨st.n, 0, none⟩) (len + n) big, { H := (st.H.put b none).put st.n (some (.cells (cs.take (len * i.size) ++ news) elem (some i.size))), n := st.n + 1, W := b :: st.W })
                else none
              else none
            | none => none
          else none
        else bif Nat.ble (len + n) cap then
          bif Nat.beq n 0 then some (s, st) else
          (over cs (off + len * i.size) news).bind fun cs' => some (.slice (some ⟨b, off, none⟩) (len + n) cap, st.upd b (.cells cs' T m))
        else
          (sub cs off (len * i.size)).bind fun olds =>
          bif Nat.ble ((len + n) * i.bytes) 70368744177664 && Nat.ble (len + n) 70368744177664 && Nat.ble len cap then
            some (.slice (some ⟨st.n, 0, none⟩) (len + n) big, st.new (.cells (olds ++ news) elem (some i.size)))
          else none
      | _ => none
    | _ => none
  | _ => none
def copyP (P : Program) (ts : List TypeId) (dst src : Value) (st : St) : Option (Value × St) :=
  match ts with
  | t :: _ => (P.underlying t).bind fun d => match d, dst with
    | .slice elem, .slice (some ⟨b, off, none⟩) len _ => (sizeP P elem).bind fun size => (lenP src).bind fun m =>
      (firstP size (Nat.min m len) src st).bind fun l => bif !(allOne l) then none else (st.cells b).bind fun (cs, T, mo) => (over cs off l).bind fun cs' =>
        some (.int .i64 (Nat.min m len : Nat), st.upd b (.cells cs' T mo))
    | _, _ => none
  | _ => none

/-- Cells that are bytes. -/
def bytesOf : List Value → Option (List UInt8)
  | [] => some []
  | .int .u8 (.ofNat n) :: l => bif Nat.blt n 256 then (bytesOf l).bind fun bs => some (UInt8.ofNat n :: bs) else none
  | _ => none
/-- Bytes to a string, a string to bytes, a type to another one of the same make. -/
def convP (P : Program) (src dst : TypeId) (x : Value) (st : St) : Option (Value × St) :=
  (P.underlying src).bind fun d => (P.underlying dst).bind fun d' => match d, d', x with
    | .slice e, .string, .slice (some ⟨b, off, none⟩) n _ => (P.underlying e).bind fun de => match de with
      | .int .u8 => (st.cells b).bind fun (cs, _, _) => (sub cs off n).bind fun l => (bytesOf l).bind fun bs => some (.string ⟨bs.toArray⟩, st)
      | _ => none
    | .string, .slice e, .string s => (P.underlying e).bind fun de => match de with
      | .int .u8 => bif Nat.blt s.data.toList.length 70368744177664 then
          some (.slice (some ⟨st.n, 0, none⟩) s.data.toList.length big, st.new (.cells (s.data.toList.map fun b => .int .u8 (b.toNat : Int)) e (some 1)))
        else none
      | _ => none
    | _, _, _ => none

/-- Nothing of the world is asked: the model's own piece, run. -/
def plainP (P : Program) (ev : Operand → Option Value) (o : Oper) : Option Value :=
  bif (match o.op with | .select _ _ => false | .defer _ => false | _ => true) && o.op.operands.toList.all (fun x => match ev x with | some v => closedV v | none => false) then
    match pureRun P (execOp (fun x => (ev x).getD undef) o) with
    | some (.value v) => bif closedV v then some v else none
    | some .skip => none
    | _ => none
  else none
def isSome : Value → Bool
  | .pointer (some _) | .slice (some _) _ _ | .map (some _) | .func _ _ _ | .iface _ _ => true
  | _ => false
/-- What is there against nil. -/
def nilEq (x y : Value) : Bool :=
  match x, y with
  | .pointer (some _), .pointer none => true
  | .slice (some _) _ _, .slice none _ _ => true
  | .map (some _), .map none => true
  | .func _ _ _, .nilFunc => true
  | .iface _ _, .nilIface => true
  | _, _ => false
def nilKind (d : TypeDesc) (x : Value) : Bool :=
  match d, x with
  | .pointer _, .pointer _ => true
  | .slice _, .slice _ _ _ => true
  | .map _ _, .map _ => true
  | .func _ _ _, .func _ _ _ => true
  | .func _ _ _, .nilFunc => true
  | .interface _, .iface _ _ => true
  | .interface _, .nilIface => true
  | _, _ => false
def eqP (P : Program) (op : BinOp) (t : TypeId) (x y : Value) : Option Value :=
  bif nilEq x y || nilEq y x then
    (P.underlying t).bind fun d => bif nilKind d x then
      match op with
      | .eql => some (.bool false)
      | .neq => some (.bool true)
      | _ => none
    else none
  else none
/-- A row that is surely not marked. -/
def unmarked : Option Nat → Bool
  | none => true
  | some n => !(Nat.beq n 1)
/-- Two pointers, both to rows that live. -/
def ptrEqP (P : Program) (op : BinOp) (t : TypeId) (x y : Value) (st : St) : Option Value :=
  match x, y with
  | .pointer (some ⟨i, o1, none⟩), .pointer (some ⟨j, o2, none⟩) => (P.underlying t).bind fun d => match d with
    | .pointer elem => (sizeP P elem).bind fun n => bif Nat.beq n 0 then none else
      (st.cells i).bind fun (_, _, m1) => (st.cells j).bind fun (_, _, m2) => bif unmarked m1 && unmarked m2 then
        match op with
        | .eql => some (.bool (Nat.beq i j && Nat.beq o1 o2))
        | .neq => some (.bool !(Nat.beq i j && Nat.beq o1 o2))
        | _ => none
      else none
    | _ => none
  | _, _ => none
def ltI : Int → Int → Bool
  | .ofNat a, .ofNat b => Nat.blt a b
  | .ofNat _, .negSucc _ => false
  | .negSucc _, .ofNat _ => true
  | .negSucc a, .negSucc b => Nat.blt b a
def eqI : Int → Int → Bool
  | .ofNat a, .ofNat b => Nat.beq a b
  | .negSucc a, .negSucc b => Nat.beq a b
  | _, _ => false
def lim : Nat := 9223372036854775808
def wrapQ (k : IntKind) (n : Int) : Int :=
  match k, n with
  | .i64, .ofNat m => bif Nat.blt m lim then .ofNat m else k.wrap n
  | .i64, .negSucc m => bif Nat.blt m lim then .negSucc m else k.wrap n
  | _, _ => k.wrap n
/-- Integers of one kind. -/
def intP (op : BinOp) (x y : Value) : Option Value :=
  match x, y with
  | .int k a, .int k' b => bif k == k' then
      match op with
      | .add => some (.int k (wrapQ k (a + b)))
      | .sub => some (.int k (wrapQ k (a - b)))
      | .eql => some (.bool (eqI a b))
      | .neq => some (.bool !(eqI a b))
      | .lss => some (.bool (ltI a b))
      | .leq => some (.bool !(ltI b a))
      | .gtr => some (.bool (ltI b a))
      | .geq => some (.bool !(ltI a b))
      | _ => none
    else none
  | _, _ => none
def assertP (P : Program) (x : Value) (asserted : TypeId) (ok : Bool) : Option Value :=
  match x with
  | .iface t v => (P.underlying asserted).bind fun d => match d with
    | .interface _ => none
    | _ => bif Nat.beq t asserted then some (match ok with | true => .tuple #[v, .bool true] | false => v) else none
  | _ => none

/-- A string's walk. -/
def rangeP (P : Program) (t : TypeId) (x : Value) (st : St) : Option (Value × St) :=
  (P.underlying t).bind fun d => match d, x with
    | .string, .string s => some (.pointer (some ⟨st.n, 0, none⟩), st.new (.sIter s 0))
    | _, _ => none
def nextSP (it : Value) (st : St) : Option (Value × St) :=
  match it with
  | .pointer (some ⟨i, 0, none⟩) => (st.H.get i).bind fun o => match o with
    | .sIter s pos => bif Nat.blt pos s.data.toList.length then
        some (.tuple #[.bool true, .int .i64 (pos : Nat), .int .i32 ((Utf8.decode s pos).1 : Nat)], st.upd i (.sIter s (pos + (Utf8.decode s pos).2)))
      else some (.tuple #[.bool false], st)
    | _ => none
  | _ => none
/-- Entries of a map: keys that name no block. -/
def St.map (st : St) (i : Nat) : Option (List (Value × Value × Nat) × Nat) :=
  match st.H.get i with
  | some (.map es c) => some (es, c)
  | _ => none
def dumb : List (Value × Value × Nat) → List MapEntry
  | [] => []
  | (k, _, n) :: l => { key := k, val := undef, born := n } :: dumb l
/-- Where the key stands. -/
def findP (P : Program) (kt : TypeId) (empty : Bool) (k : Value) (es : List (Value × Value × Nat)) : Option (Option Nat) :=
  bif closedV k then (P.underlying kt).bind fun _ =>
    match pureRun P (Instr.checkKey empty 10000 kt k) with
    | some _ => (pureRun P (Instr.findKey kt k (dumb es))).bind fun r => some (r.map (·.1))
    | none => none
  else none
def stays (P : Program) (old new : Value) : Option Value := (pureRun P (Instr.keyThatStays old new)).bind fun k => bif closedV k then some k else none
def mapDesc (P : Program) (t : TypeId) : Option (TypeId × TypeId) := (P.underlying t).bind fun d => match d with
  | .map k e => some (k, e)
  | _ => none
def makeMapP (P : Program) (t : TypeId) (reserve : Option Value) (st : St) : Option (Value × St) :=
  match reserve with
  | none => some (.map (some st.n), st.new (.map [] 0))
  | some (.int _ _) => (mapDesc P t).bind fun _ => some (.map (some st.n), st.new (.map [] 0))
  | _ => none
def entries (m : Value) (st : St) : Option (List (Value × Value × Nat)) :=
  match m with
  | .map none => some []
  | .map (some i) => (st.map i).bind fun (es, _) => some es
  | _ => none
def nilL {α : Type} : List α → Bool
  | [] => true
  | _ => false
/-- A map's walk: as long as at most one entry is left. -/
def rangeMP (P : Program) (t : TypeId) (x : Value) (st : St) : Option (Value × St) :=
  (P.underlying t).bind fun d => match d, x with
    | .map _ _, .map none => some (.pointer (some ⟨st.n, 0, none⟩), st.new (.mIter none 0 [] 0))
    | .map _ _, .map (some i) => (st.map i).bind fun q => some (.pointer (some ⟨st.n, 0, none⟩), st.new (.mIter (some i) q.2 [] q.2))
    | _, _ => none
def nextMP (it : Value) (st : St) : Option (Value × St) :=
  match it with
  | .pointer (some ⟨i, 0, none⟩) => (st.H.get i).bind fun o => match o with
    | .mIter m since seen last => match m with
      | none => some (.tuple #[.bool false], st)
      | some j => (st.map j).bind fun q =>
        bif !(nilL seen) && (!(nilL q.1) && q.1.all (fun e => Nat.ble last e.2.2)) then none else
        match q.1.filter (fun e => !(seen.contains e.2.2)) with
        | [] => some (.tuple #[.bool false], st)
        | [e] => bif Nat.blt e.2.2 since then some (.tuple #[.bool true, e.1, e.2.1], st.upd i (.mIter (some j) since (seen ++ [e.2.2]) q.2)) else none
        | _ => none
    | _ => none
  | _ => none
/-- A map's walk, whatever entry comes next. -/
def nextMN (it : Value) (st : St) : Option (List (Value × St)) :=
  match it with
  | .pointer (some ⟨i, 0, none⟩) => (st.H.get i).bind fun o => match o with
    | .mIter m since seen last => match m with
      | none => some [(.tuple #[.bool false], st)]
      | some j => (st.map j).bind fun q =>
        bif !(nilL seen) && (!(nilL q.1) && q.1.all (fun e => Nat.ble last e.2.2)) then none else
        match q.1.filter (fun e => !(seen.contains e.2.2)) with
        | [] => some [(.tuple #[.bool false], st)]
        | l => bif l.all (fun e => Nat.blt e.2.2 since) then some (l.map fun e => (.tuple #[.bool true, e.1, e.2.1], st.upd i (.mIter (some j) since (seen ++ [e.2.2]) q.2))) else none
    | _ => none
  | _ => none
def entryP (it : Value) (st : St) : Option Value :=
  match it with
  | .pointer (some ⟨i, 0, none⟩) => (st.H.get i).bind fun o => match o with
    | .mIter (some j) _ seen last => (seen.getLast?).bind fun stamp => (st.map j).bind fun q =>
      bif Nat.beq q.2 last then (q.1.find? (fun e => Nat.beq e.2.2 stamp)).bind fun e => some (.tuple #[e.1, e.2.1]) else none
    | _ => none
  | _ => none
def nextP (it : Value) (isString : Bool) (st : St) : Option (Value × St) :=
  match isString with
  | true => nextSP it st
  | false => nextMP it st
def lookupP (P : Program) (t : TypeId) (m k : Value) (ok : Bool) (st : St) : Option Value :=
  (mapDesc P t).bind fun (kt, elem) => (entries m st).bind fun es => (findP P kt (nilL es) k es).bind fun r =>
    (match r with
      | some j => (es[j]?).bind fun e => some (e.2.1, true)
      | none => (zeroP P elem).bind fun z => some (z, false)).bind fun (v, b) => some (match ok with | true => .tuple #[v, .bool b] | false => v)
def mapUpdateP (P : Program) (t : TypeId) (m k x : Value) (st : St) : Option St :=
  match m with
  | .map (some i) => (mapDesc P t).bind fun (kt, _) => (st.map i).bind fun (es, c) => (findP P kt false k es).bind fun r => match r with
    | some j => (es[j]?).bind fun e => (stays P e.1 k).bind fun k' => some (st.upd i (.map (es.set j (k', x, e.2.2)) c))
    | none => some (st.upd i (.map (es ++ [(k, x, c)]) (c + 1)))
  | _ => none
def deleteP (P : Program) (ts : List TypeId) (m k : Value) (st : St) : Option (Value × St) :=
  match ts, m with
  | t :: _, .map (some i) => (mapDesc P t).bind fun (kt, _) => (st.map i).bind fun (es, c) => (findP P kt (nilL es) k es).bind fun r => match r with
    | some j => some (.tuple #[], st.upd i (.map (es.eraseIdx j) c))
    | none => some (.tuple #[], st.upd i (.map es c))
  | _, _ => none

/-- A slice's cells are all zero. -/
def clearP (P : Program) (ts : List TypeId) (x : Value) (st : St) : Option (Value × St) :=
  match ts with
  | t :: _ => (P.underlying t).bind fun d => match d, x with
    | .slice elem, .slice (some ⟨b, off, none⟩) (n + 1) _ => (zeroP P elem).bind fun z => bif allOne z.cells.toList then
        (st.cells b).bind fun (cs, T, m) => (over cs off (zeros z.cells.toList (n + 1))).bind fun cs' => some (.tuple #[], st.upd b (.cells cs' T m))
      else none
    | _, _ => none
  | _ => none

/-- A method of what lies behind an interface: its receiver is no nil pointer. -/
def nilFnP (P : Program) (name : String) (first : Array Value) : Option Unit :=
  match first.toList with
  | .iface t _ :: _ => (P.info? t).bind fun i => (i.methods.toList.find? (·.name == name)).bind fun m => m.func.bind fun q =>
    bif m.path.isEmpty then
      match q.2 with
      | true => some ()
      | false => (P.underlying t).bind fun d => match d with
        | .pointer _ => none
        | _ => some ()
    else none
  | _ => none

/-- An operation that calls no function of the program's. -/
def op1 (P : Program) (G : Cx) (τ : Tr Value) (o : Oper) (st : St) : Option (Value × St) :=
  let ev := eval G τ
  match o.op with
  | .move x | .assign x => (ev x).bind fun v => some (v, st)
  | .pick c a b => (ev c).bind fun c => match c with
    | .bool true => (ev a).bind fun v => (ev b).bind fun _ => some (v, st)
    | .bool false => (ev a).bind fun _ => (ev b).bind fun v => some (v, st)
    | _ => none
  | .extract t i => (ev t).bind fun t => match t with
    | .tuple vs => (vs[i]?).bind fun v => some (v, st)
    | _ => none
  | .alloc T => (zeroP P T).bind fun z => some (.pointer (some ⟨st.n, 0, none⟩), st.new (.cells z.cells.toList T none))
  | .box T x => (ev x).bind fun v => some (.pointer (some ⟨st.n, 0, none⟩), st.new (.cells v.cells.toList T none))
  | .build t ps => (evalP G τ ps.toList).bind fun ps => (buildP P t ps).bind fun v => some (v, st)
  | .buildSlice t n ps => (evalP G τ ps.toList).bind fun ps => buildSliceP P t n ps st
  | .makeSlice t l c => (ev l).bind fun l => (ev c).bind fun c => makeSliceP P t l c st
  | .load t a => (ev a).bind fun a => (loadP P t a st).bind fun v => some (v, st)
  | .store t a x => (ev a).bind fun a => (ev x).bind fun x => (storeP P t a x st).bind fun st => some (undef, st)
  | .nilCheck x => (ev x).bind fun v => match v with
    | .pointer (some _) => some (v, st)
    | .func (.func _) _ _ => some (v, st)
    | .iface _ _ => some (v, st)
    | .func (.method name) first _ => (nilFnP P name first).bind fun _ => some (v, st)
    | _ => none
  | .field t x f => (ev x).bind fun x => (fieldP P t x f).bind fun v => some (v, st)
  | .fieldAddr t x f => (ev x).bind fun x => (fieldAddrP P t x f).bind fun v => some (v, st)
  | .indexAddr t x i => (ev x).bind fun x => (ev i).bind fun i => (indexAddrP P t x i).bind fun v => some (v, st)
  | .slice t x lo hi mx => (ev x).bind fun x' => match x' with
    | .string _ => (plainP P ev o).bind fun v => some (v, st)
    | .slice none _ _ => (plainP P ev o).bind fun v => some (v, st)
    | _ => (evalO G τ lo).bind fun lo => (evalO G τ hi).bind fun hi => (evalO G τ mx).bind fun mx => (sliceP P t x' lo hi mx st).bind fun v => some (v, st)
  | .makeInterface t x => (ev x).bind fun v => (P.underlying t).bind fun d => match d with
    | .interface _ => none
    | _ => some (.iface t v, st)
  | .makeFunc fn a b => match fn with
    | .func _ => (evalL G τ a.toList).bind fun a => (evalL G τ b.toList).bind fun b => some (.func fn a.toArray b.toArray, st)
    | .method _ => (evalL G τ a.toList).bind fun a => (evalL G τ b.toList).bind fun b => some (.func fn a.toArray b.toArray, st)
    | _ => none
  | .convert src dst x => (ev x).bind fun x' => match convP P src dst x' st with
    | some r => some r
    | none => (plainP P ev o).bind fun v => some (v, st)
  | .typeAssert x _ T ok => (ev x).bind fun x => match assertP P x T ok with
    | some v => some (v, st)
    | none => (plainP P ev o).bind fun v => some (v, st)
  | .binOp op t x y _ => (ev x).bind fun a => (ev y).bind fun b => match intP op a b with
    | some v => some (v, st)
    | none => match eqP P op t a b with
      | some v => some (v, st)
      | none => match ptrEqP P op t a b st with
        | some v => some (v, st)
        | none => (plainP P ev o).bind fun v => some (v, st)
  | .range t x => (ev x).bind fun x => match x with
    | .map _ => rangeMP P t x st
    | _ => rangeP P t x st
  | .next it s => (ev it).bind fun it => nextP it s st
  | .entry it => (ev it).bind fun it => (entryP it st).bind fun v => some (v, st)
  | .makeMap t r => (evalO G τ r).bind fun r => makeMapP P t r st
  | .lookup t m k ok => (ev m).bind fun m => (ev k).bind fun k => (lookupP P t m k ok st).bind fun v => some (v, st)
  | .mapUpdate t m k x => (ev m).bind fun m => (ev k).bind fun k => (ev x).bind fun x => (mapUpdateP P t m k x st).bind fun st => some (undef, st)
  | .insert t m k x => (ev m).bind fun m => (ev k).bind fun k => (ev x).bind fun x => (mapUpdateP P t m k x st).bind fun st => some (undef, st)
  | .call { callee := .builtin b, args, argTypes } => (evalL G τ args.toList).bind fun vs => match b, vs with
    | .append, [s, x] => appendP P argTypes.toList s x st
    | .copy, [d, s] => copyP P argTypes.toList d s st
    | .delete, [m, k] => deleteP P argTypes.toList m k st
    | .len, [.map (some i)] => match argTypes.toList with
      | t :: _ => (mapDesc P t).bind fun _ => (st.map i).bind fun (es, _) => some (.int .i64 (es.length : Nat), st)
      | _ => none
    | .clear, [x] => clearP P argTypes.toList x st
    | .len, [.slice (some _) n _] => match argTypes.toList with
      | t :: _ => (P.underlying t).bind fun d => match d with
        | .slice _ => some (.int .i64 (n : Int), st)
        | _ => none
      | _ => none
    | .cap, [.slice (some _) _ c] => match argTypes.toList with
      | t :: _ => (P.underlying t).bind fun d => match d with
        | .slice _ => bif Nat.ble big c then none else some (.int .i64 (c : Int), st)
        | _ => none
      | _ => none
    | _, _ => (plainP P ev o).bind fun v => some (v, st)
  | .call _ => none
  | _ => (plainP P ev o).bind fun v => some (v, st)

def resL (P : Program) (τ : Tr Value) (st : St) : List ResultVar → Option (List Value)
  | [] => some []
  | .tmp t :: l => (resL P τ st l).bind fun vs => some ((τ.get t).getD undef :: vs)
  | .cell a t :: l => (loadP P t ((τ.get a).getD undef) st).bind fun v => (resL P τ st l).bind fun vs => some (v :: vs)
def resultP (P : Program) (fn : Func) (τ : Tr Value) (st : St) : Option Value :=
  (resL P τ st fn.results.toList).bind fun vs => match vs with
    | [v] => some v
    | _ => some (.tuple vs.toArray)

def wantedP (ops : List Oper) (τ : Tr Value) (o : Oper) : Bool :=
  match o.guard with
  | none => true
  | some (j, want) => match ops[j]? with
    | some oj => match oj.dst with
      | some d => match (τ.get d).getD undef with
        | .bool b => b == want
        | _ => false
      | none => false
    | none => false

/-- Which function a call's callee leads to, and on what. -/
inductive Lead where
  | fn (f : Nat) (args : List Value)
  | round (l : Nat) (args : List Value)
def leadP (P : Program) (f : Value) (args : List Value) : Option Lead :=
  match f with
  | .func (.func k) first captured => some (.fn k (first.toList ++ args ++ captured.toList))
  | .func (.yield l) first captured => bif first.isEmpty && captured.isEmpty then some (.round l args) else none
  | _ => none
def methodP (P : Program) (r : Value) (name : String) (args : List Value) : Option Lead :=
  match r with
  | .iface t v => (P.info? t).bind fun i => (i.methods.toList.find? (·.name == name)).bind fun m => m.func.bind fun (f, pr) =>
    bif m.path.isEmpty then (P.underlying t).bind fun d => match d, pr with
      | .pointer _, true => some (.fn f (v :: args))
      | .pointer _, false => none
      | _, false => some (.fn f (v :: args))
      | _, true => none
    else none
  | _ => none
def seedTr : Tr Value → List Tmp → List Value → Tr Value
  | τ, t :: ts, v :: vs => seedTr (τ.put t (some v)) ts vs
  | τ, _, _ => τ
def argTr (args : List Value) : Tr Value := seedTr .nil (List.range args.length) args

set_option linter.unusedVariables false
/-- No mark is given back. -/
def chk (n : Nat) (x : Option (List Res)) : Option (List Res) := x.bind fun L => match L with
  | [] => none
  | r :: l => bif Nat.ble n r.st.n && l.all (fun r => Nat.ble n r.st.n) then some (r :: l) else none
def chkO (n : Nat) (x : Option (List (Fr × St))) : Option (List (Fr × St)) := x.bind fun L => match L with
  | [] => none
  | r :: l => bif Nat.ble n r.2.n && l.all (fun r => Nat.ble n r.2.n) then some (r :: l) else none
section
variable (P : Program) (G : Cx) (rec : Task → Option (List Res))

def findX : List (Nat × Ext) → Nat → Option Ext
  | [], _ => none
  | (f, e) :: l, g => bif Nat.beq f g then some e else findX l g
/-- A cell under a pointer, and all that lies beside it. -/
def cellP (a : Value) (st : St) : Option (Nat × Nat × List Value × TypeId × Option Nat × Value) :=
  match a with
  | .pointer (some ⟨i, off, none⟩) => (st.cells i).bind fun (cs, T, m) => (cs[off]?).bind fun v => some (i, off, cs, T, m, v)
  | _ => none
/-- A slice's bytes, a string's. -/
def bytesP (x : Value) (st : St) : Option (List UInt8) :=
  match x with
  | .slice (some ⟨i, off, none⟩) n _ => (firstP 1 n (.slice (some ⟨i, off, none⟩) n 0) st).bind bytesOf
  | .slice none 0 _ => some []
  | .string s => some s.data.toList
  | _ => none
def overlapsP (P : Program) (t : TypeId) (a b : Value) (st : St) : Option Value :=
  (P.underlying t).bind fun d => match d with
    | .slice elem => (sizeP P elem).bind fun size => match a, b with
      | .slice (some ⟨i, o1, none⟩) la _, .slice (some ⟨j, o2, none⟩) lb _ =>
        bif Nat.beq la 0 || Nat.beq lb 0 || Nat.beq size 0 then some (.bool false) else
        (st.cells i).bind fun (_, _, m1) => (st.cells j).bind fun (_, _, m2) =>
          bif unmarked m1 && unmarked m2 then
            bif Nat.beq i j then some (.bool (Nat.blt o1 (o2 + lb * size) && Nat.blt o2 (o1 + la * size))) else some (.bool false)
          else none
      | .slice none _ _, .slice none _ _ => some (.bool false)
      | .slice none _ _, .slice (some ⟨_, _, none⟩) _ _ => some (.bool false)
      | .slice (some ⟨_, _, none⟩) _ _, .slice none _ _ => some (.bool false)
      | _, _ => none
    | _ => none
def extP (e : Ext) (args : List Value) (st : St) : Option (Value × St) :=
  match e, args with
  | .load k, [a] => (cellP a st).bind fun (_, _, _, _, _, v) => match v with
    | .int k' n => bif k == k' then some (.int k' n, st) else none
    | _ => none
  | .store, [a, v] => (cellP a st).bind fun (i, off, cs, T, m, _) => bif one v then (over cs off [v]).bind fun cs' => some (undef, st.upd i (.cells cs' T m)) else none
  | .swap k, [a, v] => (cellP a st).bind fun (i, off, cs, T, m, u) => match u with
    | .int k' n => bif k == k' && one v then (over cs off [v]).bind fun cs' => some (.int k' n, st.upd i (.cells cs' T m)) else none
    | _ => none
  | .cas k, [a, .int _ y, v] => (cellP a st).bind fun (i, off, cs, T, m, u) => match u with
    | .int k' n => bif k == k' && one v then
        bif n == y then (over cs off [v]).bind fun cs' => some (.bool true, st.upd i (.cells cs' T m)) else some (.bool false, st)
      else none
    | _ => none
  | .compare, [a, b] => (bytesP a st).bind fun x => (bytesP b st).bind fun y => some (.int .i64 (Extern.BytealgCompare.cmp ⟨x.toArray⟩ ⟨y.toArray⟩), st)
  | .overlaps (t :: _) _, [a, b] => (overlapsP P t a b st).bind fun v => some (v, st)
  | .add k, [a, .int _ y] => (cellP a st).bind fun (i, off, cs, T, m, u) => match u with
    | .int k' n => bif k == k' then (over cs off [.int k (k.wrap (n + y))]).bind fun cs' => some (.int k (k.wrap (n + y)), st.upd i (.cells cs' T m)) else none
    | _ => none
  | _, _ => none
def toLead (ld : Lead) (st : St) : Option (List (Value × St)) :=
  match ld with
  | .fn f args => (P.funcs[f]?).bind fun fn => match fn.body with
    | some _ => bindM (rec (.call f args st)) fun r => some [(r.v, r.st)]
    | none => lift1 (match findX G.X f with
      | some e => extP P e args st
      | none => bif closedL args then match pureRun P (callFunc f args.toArray) with
        | some (.value v) => bif closedV v then some (v, st) else none
        | _ => none
      else none)
  | .round l args => match st.H.get l with
    | some (.loop .ready none τ N ps asg body ar) =>
      bif Nat.beq args.length ps.size && ps.toList.all (fun t => Nat.blt t N) then
        bindM (rec (.code asg (some l) { τ := seedTr τ ps.toList args, N, ds := [] } st)) fun r => match r.out with
          | .normal => match r.st.H.get l with
            | some (.loop .ready none τ1 N1 ps1 asg1 body1 ar1) =>
            bindM (chk r.st.n (rec (.code body (some l) r.fr (r.st.upd l (.loop .busy none τ1 N1 ps1 asg1 body1 ar1))))) fun r2 =>
              match r2.st.H.get l with
              | some (.loop .busy none τ2 N2 ps2 asg2 body2 ar2) => match r2.out with
                  | .normal => some [(.bool true, r2.st.upd l (.loop .ready none τ2 N2 ps2 asg2 body2 ar2))]
                  | .ret => some [(.bool false, r2.st.upd l (.loop .done (some .ret) τ2 N2 ps2 asg2 body2 ar2))]
                  | .exit id => some [(.bool false, r2.st.upd l (.loop .done (some (.exit id)) τ2 N2 ps2 asg2 body2 ar2))]
                  | .goto t => some [(.bool false, r2.st.upd l (.loop .done (some (.goto t)) τ2 N2 ps2 asg2 body2 ar2))]
              | _ => none
            | _ => none
          | _ => none
      else none
    | _ => none

def opP (τ : Tr Value) (o : Oper) (st : St) : Option (List (Value × St)) :=
  match o.op with
  | .call { callee := .value f, args, .. } => (eval G τ f).bind fun f => (evalL G τ args.toList).bind fun args => (leadP P f args).bind fun ld => toLead P G rec ld st
  | .call { callee := .invoke r name, args, .. } => (eval G τ r).bind fun r => (evalL G τ args.toList).bind fun args => (methodP P r name args).bind fun ld => toLead P G rec ld st
  | .next it false => (eval G τ it).bind fun it => nextMN it st
  | _ => lift1 (op1 P G τ o st)

def opsP (all : List Oper) : List Oper → Fr → St → Option (List (Fr × St))
  | [], fr, st => some [(fr, st)]
  | o :: l, fr, st => match wantedP all fr.τ o with
    | true => bindM (opP P G rec fr.τ o st) fun (v, st1) => (put fr o.dst v).bind fun fr => chkO st1.n (opsP all l fr st1)
    | false => (put fr o.dst undef).bind fun fr => opsP all l fr st

/-- What one operation of a region that draws its order has done. -/
structure Rc where
  bef : Nat
  lo : Nat
  hi : Nat
  W : List Nat
  need : Option (List Nat)
  dst : Option Tmp
  reads : List Tmp
  H : Tr SObj
  v : Value
def inR (lo hi x : Nat) : Bool := Nat.ble lo x && Nat.blt x hi
def Rc.touch (R : Rc) (x : Nat) : Bool := R.W.contains x || inR R.lo R.hi x
def Rc.writes (R : Rc) (t : Nat) : Bool := match R.dst with | some d => Nat.beq d t | none => false
def restrictH (H : Tr SObj) : List Nat → Tr SObj
  | [] => .nil
  | i :: l => match H.get i with
    | some o => (restrictH H l).put i (some o)
    | none => restrictH H l
def stripH (H : Tr SObj) : List Nat → Tr SObj
  | [] => H
  | i :: l => (stripH H l).put i none
def applyH (H H' : Tr SObj) : List Nat → Tr SObj
  | [] => H
  | i :: l => (applyH H H' l).put i (H'.get i)
def restrictT (τ : Tr Value) : List Tmp → Tr Value
  | [] => .nil
  | t :: l => (restrictT τ l).put t (some ((τ.get t).getD undef))
def rangeL (lo n : Nat) : List Nat := match n with
  | 0 => []
  | n + 1 => lo :: rangeL (lo + 1) n
def readsOf (all : List Oper) (o : Oper) : List Tmp :=
  (o.op.operands.toList.filterMap fun | .tmp t => some t | _ => none) ++
  (match o.guard with
   | some (j, _) => match all[j]? with
     | some oj => oj.dst.toList
     | none => []
   | none => [])
def needV : Value → List Nat
  | .pointer (some a) => [a.block]
  | .slice (some a) _ _ => [a.block]
  | .map (some i) => [i]
  | _ => []
def needsOf (G : Cx) (τ : Tr Value) (o : Oper) : List Nat := match o.op with
  | .next _ _ | .load _ _ | .store _ _ _ | .binOp _ _ _ _ _ | .slice _ _ _ _ _ | .convert _ _ _ | .call _ | .lookup _ _ _ _ | .mapUpdate _ _ _ _ | .insert _ _ _ _ | .mapEntry _ _ _ | .entryStore _ _ _ _ => o.op.operands.toList.flatMap fun x => match eval G τ x with | some v => needV v | none => []
  | _ => []
def isLead (o : Oper) : Bool := match o.op with
  | .call { callee := .value _, .. } => true
  | .call { callee := .invoke _ _, .. } => true
  | _ => false
/-- Which operations come ahead, as bits. -/
def befOf (recs : List Rc) (j : Nat) : List Edge → Option Nat
  | [] => some 0
  | e :: l => (befOf recs j l).bind fun s => bif Region.binds .any e then
      (bif Nat.blt e.on j then (recs[j - 1 - e.on]?).bind fun R => some (s ||| 2 ^ e.on ||| R.bef) else none) else some s
def disj (a b : List Nat) : Bool := a.all fun x => !(b.contains x)
/-- Two operations of which neither comes ahead of the other: R behind Q in the text. -/
def pairOk (R Q : Rc) : Bool :=
  disj R.W Q.W && R.W.all (fun x => !(inR Q.lo Q.hi x)) &&
  (match R.need with
   | some l => disj l Q.W && l.all (fun x => !(inR Q.lo Q.hi x))
   | none => Q.W.isEmpty) &&
  (match Q.need with
   | some l => disj l R.W && l.all (fun x => !(inR R.lo R.hi x))
   | none => R.W.isEmpty) &&
  R.reads.all (fun t => !(Q.writes t)) && Q.reads.all (fun t => !(R.writes t)) &&
  (match R.dst with | some d => !(Q.writes d) | none => true)
/-- Against all that lie ahead in the text: 'i' is the number of the list's head, and one more. -/
def allPairs (R : Rc) : List Rc → Bool
  | [] => true
  | Q :: l => (R.bef.testBit l.length || pairOk R Q) && allPairs R l
/-- New marks of those that need not have come ahead. -/
def strange (bef : Nat) : List Rc → List Nat
  | [] => []
  | Q :: l => bif bef.testBit l.length then strange bef l else rangeL Q.lo (Q.hi - Q.lo) ++ strange bef l

def drawOne (all : List Oper) (recs : List Rc) (o : Oper) (fr : Fr) (st : St) : Option (Rc × Fr × St) :=
  (befOf recs recs.length o.after.toList).bind fun bef =>
  let reads := readsOf all o
  let τ := restrictT fr.τ reads
  (match wantedP all τ o with
   | false => some (undef, ({ H := .nil, n := st.n, W := [] } : St), some ([] : List Nat))
   | true => bif isLead o then
       (det (opP P G rec τ o { H := stripH st.H (strange bef recs), n := st.n, W := [] })).bind fun (v, st') => some (v, st', none)
     else
       (det (opP P G rec τ o { H := restrictH st.H (needsOf G τ o), n := st.n, W := [] })).bind fun (v, st') => some (v, st', some (needsOf G τ o))).bind fun (v, st', need) =>
  let R : Rc := { bef, lo := st.n, hi := st'.n, W := st'.W.filter (fun x => Nat.blt x st.n), need, dst := o.dst, reads, H := st'.H, v }
  bif allPairs R recs && st'.W.all (fun x => Nat.blt x st'.n) && Nat.ble st.n st'.n then
    (put fr o.dst v).bind fun fr' => some (R, fr', { H := applyH st.H st'.H (R.W ++ rangeL st.n (st'.n - st.n)), n := st'.n, W := st'.W ++ st.W })
  else none
def drawP (all : List Oper) : List Oper → List Rc → Fr → St → Option (List Rc × Fr × St)
  | [], recs, fr, st => some (recs, fr, st)
  | o :: l, recs, fr, st => (drawOne P G rec all recs o fr st).bind fun (R, fr', st') => drawP all l (R :: recs) fr' st'

def codeP (c : Code) (rd : Option Nat) (fr : Fr) (st : St) : Option (List Res) :=
  match c with
  | .skip => some [⟨.normal, undef, fr, st⟩]
  | .label _ => some [⟨.normal, undef, fr, st⟩]
  | .ret => some [⟨.ret, undef, fr, st⟩]
  | .exit id => some [⟨.exit id, undef, fr, st⟩]
  | .goto l => some [⟨.goto l, undef, fr, st⟩]
  | .seq a b => bindM (rec (.code a rd fr st)) fun r => match r.out with
    | .normal => chk r.st.n (rec (.code b rd r.fr r.st))
    | _ => some [r]
  | .cond x a b => (eval G fr.τ x).bind fun v => match v with
    | .bool true => rec (.code a rd fr st)
    | .bool false => rec (.code b rd fr st)
    | _ => none
  | .block id b => bindM (rec (.code b rd fr st)) fun r => match r.out with
    | .exit i => bif Nat.beq i id then some [{ r with out := .normal }] else some [r]
    | _ => some [r]
  | .loop b => bindM (rec (.code b rd fr st)) fun r => match r.out with
    | .normal => chk r.st.n (rec (.code (.loop b) rd r.fr r.st))
    | _ => some [r]
  | .region _ ops draw => match draw with
    | false => bindM (opsP P G rec ops.toList ops.toList fr st) fun (fr, st) => some [⟨.normal, undef, fr, st⟩]
    | true => (drawP P G rec ops.toList ops.toList [] fr st).bind fun (_, fr, st) => some [⟨.normal, undef, fr, st⟩]
  | .scope b => rec (.inSc b b rd fr st)
  | .rangeFunc f ps asg body => (eval G fr.τ f).bind fun fv =>
    (match rd with
      | none => some (st.n + 1, (st.new .deferred).new (.loop .ready none fr.τ fr.N ps asg body st.n), st.n :: fr.ds)
      | some l => match st.H.get l with
        | some (.loop _ _ _ _ _ _ _ ar) => some (st.n, st.new (.loop .ready none fr.τ fr.N ps asg body ar), fr.ds)
        | _ => none).bind fun (L, st1, ds) =>
    (leadP P fv [.func (.yield L) #[] #[]]).bind fun ld => match ld with
      | .fn k args => (P.funcs[k]?).bind fun fn => fn.body.bind fun _ =>
        bindM (chk st1.n (rec (.call k args st1))) fun r => match r.st.H.get L with
          | some (.loop state pending τ N ps' asg' body' ar) => match state with
            | .busy => none
            | .exhausted => none
            | _ => match pending with
              | none => some [⟨.normal, undef, { fr with ds := ds }, r.st.upd L (.loop .exhausted pending τ N ps' asg' body' ar)⟩]
              | some c => chk r.st.n <| rec (.code c rd { fr with ds := ds } (r.st.upd L (.loop .exhausted pending τ N ps' asg' body' ar)))
          | _ => none
      | _ => none
  | _ => none

/-- A scope: what is left of it to do, and where its labels are. -/
def scopedP (all c : Code) (rd : Option Nat) (fr : Fr) (st : St) : Option (List Res) :=
  bindM (rec (.code c rd fr st)) fun r => match r.out with
    | .goto l => match findLabel all l with
      | some rest => chk r.st.n (rec (.inSc all rest rd r.fr r.st))
      | none => some [r]
    | _ => some [r]
/-- The rounds' rows of deferred calls, all empty, are shut. -/
def shutP : List Nat → St → Option St
  | [], st => some st
  | d :: ds, st => match st.H.get d with
    | some .deferred => shutP ds { H := st.H.put d none, n := st.n, W := d :: st.W }
    | _ => none

def callP (f : Nat) (args : List Value) (st : St) : Option (List Res) :=
  (P.funcs[f]?).bind fun fn => fn.body.bind fun c =>
    bif Nat.ble args.length fn.ntmps then
      bindM (rec (.code c none { τ := argTr args, N := fn.ntmps, ds := [] } st)) fun r => match r.out with
        | .normal => (shutP r.fr.ds r.st).bind fun st => (resultP P fn r.fr.τ st).bind fun v => some [⟨.normal, v, r.fr, st⟩]
        | .ret => (shutP r.fr.ds r.st).bind fun st => (resultP P fn r.fr.τ st).bind fun v => some [⟨.normal, v, r.fr, st⟩]
        | _ => none
    else none

/-- Values that are surely the same. -/
def eqV : Nat → Value → Value → Bool
  | 0, _, _ => false
  | d + 1, v, v' => match v, v' with
    | .bool a, .bool b => a == b
    | .int k a, .int k' b => k == k' && eqI a b
    | .string a, .string b => a.data.toList == b.data.toList
    | .pointer none, .pointer none => true
    | .pointer (some ⟨i, o, none⟩), .pointer (some ⟨j, q, none⟩) => Nat.beq i j && Nat.beq o q
    | .slice none n c, .slice none m e => Nat.beq n m && Nat.beq c e
    | .slice (some ⟨i, o, none⟩) n c, .slice (some ⟨j, q, none⟩) m e => Nat.beq i j && Nat.beq o q && Nat.beq n m && Nat.beq c e
    | .map none, .map none => true
    | .map (some i), .map (some j) => Nat.beq i j
    | .nilFunc, .nilFunc => true
    | .nilIface, .nilIface => true
    | .iface t x, .iface t' y => Nat.beq t t' && eqV d x y
    | .tuple ⟨l⟩, .tuple ⟨m⟩ => Nat.beq l.length m.length && (l.zip m).all fun q => eqV d q.1 q.2
    | .agg ⟨l⟩, .agg ⟨m⟩ => Nat.beq l.length m.length && (l.zip m).all fun q => eqV d q.1 q.2
    | _, _ => false
def eqVs (l m : List Value) : Bool := Nat.beq l.length m.length && (l.zip m).all fun q => eqV 5 q.1 q.2
def eqM : Option Nat → Option Nat → Bool
  | none, none => true
  | some a, some b => Nat.beq a b
  | _, _ => false
def eqEs (l m : List (Value × Value × Nat)) : Bool := Nat.beq l.length m.length && (l.zip m).all fun q => eqV 5 q.1.1 q.2.1 && eqV 5 q.1.2.1 q.2.2.1 && Nat.beq q.1.2.2 q.2.2.2
def eqO : SObj → SObj → Bool
  | .cells cs T m, .cells cs' T' m' => Nat.beq T T' && eqM m m' && eqVs cs cs'
  | .map es c, .map es' c' => Nat.beq c c' && eqEs es es'
  | _, _ => false
/-- What lies under a mark in all of them. -/
def meetAt (H : Tr SObj) (rs : List Res) (i : Nat) : Option SObj := match H.get i with
  | some o => bif rs.all (fun r => match r.st.H.get i with | some o' => eqO o o' | none => false) then some o else none
  | none => none
def putAll (H : Tr SObj) (f : Nat → Option SObj) : List Nat → Tr SObj
  | [] => H
  | i :: l => (putAll H f l).put i (f i)
def dedup : List Nat → List Nat
  | [] => []
  | i :: l => bif l.contains i then dedup l else i :: dedup l
/-- The row of a result that is a slice gets the mark N. -/
def place (lo N : Nat) (r : Res) : Res := match r.v with
  | .slice (some ⟨i, off, none⟩) n c => bif Nat.ble lo i && Nat.blt i N then match r.st.H.get i with
      | some o => { out := r.out, v := .slice (some ⟨N, off, none⟩) n c, fr := r.fr, st := { H := (r.st.H.put i none).put N (some o), n := N + 1, W := r.st.W } }
      | none => r
    else r
  | _ => r
/-- All that may come of a call, as one: what is the same in all of it. -/
def joinL (st : St) (L : List Res) : Option (List Res) :=
  match L with
  | [r] => some [{ out := r.out, v := r.v, fr := r.fr, st := { H := r.st.H, n := r.st.n, W := r.st.W ++ st.W } }]
  | L =>
  let N := L.foldl (fun m r => bif Nat.ble m r.st.n then r.st.n else m) st.n
  match L.map (place st.n N) with
  | [] => none
  | r :: rs =>
    let Wz := dedup (((r :: rs).flatMap fun r => r.st.W).filter fun i => Nat.blt i st.n)
    bif rs.all (fun q => eqV 5 r.v q.v) && ((r :: rs).all (fun q => q.st.W.all fun i => Nat.blt i (N + 1)) && Wz.all (fun i => (st.H.get i).isSome)) then
      let H1 := putAll st.H (meetAt r.st.H rs) Wz
      let H2 := match Wz with
        | [] => putAll H1 (meetAt r.st.H rs) [N]
        | _ => putAll H1 (meetAt r.st.H rs) (rangeL st.n (N + 1 - st.n))
      some [⟨.normal, r.v, r.fr, { H := H2, n := N + 1, W := Wz ++ st.W }⟩]
    else none
def joinC (f : Nat) (args : List Value) (st : St) : Option (List Res) :=
  (callP P rec f args { H := st.H, n := st.n, W := [] }).bind (joinL st)

/-- What is known of a call with just these arguments. -/
def findM : List (Nat × List Value × Value) → Nat → List Value → Option Value
  | [], _, _ => none
  | (g, xs, v) :: l, f, args => bif Nat.beq g f && eqVs args xs then some v else findM l f args
def callX (f : Nat) (args : List Value) (st : St) : Option (List Res) := match findX G.X f with
  | some .yes => match args with
    | [] => some [⟨.normal, .bool true, { τ := .nil, N := 0, ds := [] }, st⟩]
    | _ => none
  | _ => bif G.J.contains f then joinC P rec f args st else callP P rec f args st
def stepP (t : Task) : Option (List Res) :=
  match t with
  | .code c rd fr st => codeP P G rec c rd fr st
  | .inSc all c rd fr st => scopedP rec all c rd fr st
  | .call f args st => match findM G.M f args with
    | some v => some [⟨.normal, v, { τ := .nil, N := 0, ds := [] }, st⟩]
    | none => callX P G rec f args st
end
/-- The run, at most so deep. -/
def run (P : Program) (G : Cx) (n : Nat) : Task → Option (List Res) :=
  Nat.rec (motive := fun _ => Task → Option (List Res)) (fun _ => none) (fun _ r => stepP P G r) n

end Ev
end
section
namespace Ev
set_option linter.unusedVariables false
set_option linter.unusedSimpArgs false

/-- Marks to blocks, with what the block's row has room for. -/
abbrev Ren := Nat → Option (Nat × Nat)
def Ren.le (r r' : Ren) : Prop := ∀ i x, r i = some x → r' i = some x
theorem Ren.le_refl (r : Ren) : r.le r := fun _ _ h => h
theorem Ren.le_trans {a b c : Ren} (h : a.le b) (k : b.le c) : a.le c := fun i x hx => k i x (h i x hx)

mutual
inductive VR (r : Ren) : Value → Value → Prop
  | bool (b) : VR r (.bool b) (.bool b)
  | int (k n) : VR r (.int k n) (.int k n)
  | float (k n) : VR r (.float k n) (.float k n)
  | complex (k a b) : VR r (.complex k a b) (.complex k a b)
  | string (s) : VR r (.string s) (.string s)
  | ptrNil : VR r (.pointer none) (.pointer none)
  | sliceNil (n c) : VR r (.slice none n c) (.slice none n c)
  | mapNil : VR r (.map none) (.map none)
  | chanNil : VR r (.chan none) (.chan none)
  | nilFunc : VR r .nilFunc .nilFunc
  | nilIface : VR r .nilIface .nilIface
  | ptr {i b k} (off sp) (h : r i = some (b, k)) : VR r (.pointer (some ⟨i, off, sp⟩)) (.pointer (some ⟨b, off, sp⟩))
  | map {i b k} (h : r i = some (b, k)) : VR r (.map (some i)) (.map (some b))
  | slice {i b k} (off n c) (h : r i = some (b, k)) (hc : c < big) : VR r (.slice (some ⟨i, off, none⟩) n c) (.slice (some ⟨b, off, none⟩) n c)
  | sliceBig {i b k} (off n c) (h : r i = some (b, k)) (hc : big ≤ c) : VR r (.slice (some ⟨i, off, none⟩) n c) (.slice (some ⟨b, off, none⟩) n (k - (c - big)))
  | sliceEnd {i b k} (off o2 c) (h : r i = some (b, k)) (hc : big ≤ c) : VR r (.slice (some ⟨i, off, some o2⟩) 0 c) (.slice (some ⟨b, if k ≤ c - big then o2 else off, none⟩) 0 (k - (c - big)))
  | yield {i b k} (h : r i = some (b, k)) {xs ys xs' ys'} (hx : LR r xs xs') (hy : LR r ys ys') : VR r (.func (.yield i) ⟨xs⟩ ⟨ys⟩) (.func (.yield b) ⟨xs'⟩ ⟨ys'⟩)
  | func (f) (hf : ∀ l, f ≠ .yield l) {xs ys xs' ys'} (hx : LR r xs xs') (hy : LR r ys ys') : VR r (.func f ⟨xs⟩ ⟨ys⟩) (.func f ⟨xs'⟩ ⟨ys'⟩)
  | iface (t) {v v'} (h : VR r v v') : VR r (.iface t v) (.iface t v')
  | agg {xs xs'} (h : LR r xs xs') : VR r (.agg ⟨xs⟩) (.agg ⟨xs'⟩)
  | tuple {xs xs'} (h : LR r xs xs') : VR r (.tuple ⟨xs⟩) (.tuple ⟨xs'⟩)
inductive LR (r : Ren) : List Value → List Value → Prop
  | nil : LR r [] []
  | cons {v v' l l'} (h : VR r v v') (hl : LR r l l') : LR r (v :: l) (v' :: l')
end

mutual
theorem VR.mono {r r' : Ren} (hr : r.le r') : ∀ {v v'}, VR r v v' → VR r' v v'
  | _, _, .bool b => .bool b
  | _, _, .int k n => .int k n
  | _, _, .float k n => .float k n
  | _, _, .complex k a b => .complex k a b
  | _, _, .string s => .string s
  | _, _, .ptrNil => .ptrNil
  | _, _, .sliceNil n c => .sliceNil n c
  | _, _, .mapNil => .mapNil
  | _, _, .chanNil => .chanNil
  | _, _, .nilFunc => .nilFunc
  | _, _, .nilIface => .nilIface
  | _, _, .ptr off sp h => .ptr off sp (hr _ _ h)
  | _, _, .map h => .map (hr _ _ h)
  | _, _, .slice off n c h hc => .slice off n c (hr _ _ h) hc
  | _, _, .sliceBig off n c h hc => .sliceBig off n c (hr _ _ h) hc
  | _, _, .sliceEnd off o2 c h hc => .sliceEnd off o2 c (hr _ _ h) hc
  | _, _, .yield h hx hy => .yield (hr _ _ h) (LR.mono hr hx) (LR.mono hr hy)
  | _, _, .func f hf hx hy => .func f hf (LR.mono hr hx) (LR.mono hr hy)
  | _, _, .iface t h => .iface t (VR.mono hr h)
  | _, _, .agg h => .agg (LR.mono hr h)
  | _, _, .tuple h => .tuple (LR.mono hr h)
theorem LR.mono {r r' : Ren} (hr : r.le r') : ∀ {l l'}, LR r l l' → LR r' l l'
  | _, _, .nil => .nil
  | _, _, .cons h hl => .cons (VR.mono hr h) (LR.mono hr hl)
end

mutual
theorem VR.closed {r : Ren} : ∀ (v : Value), closedV v = true → VR r v v
  | .bool b, _ => .bool b
  | .int k n, _ => .int k n
  | .float k n, _ => .float k n
  | .complex k a b, _ => .complex k a b
  | .string s, _ => .string s
  | .pointer none, _ => .ptrNil
  | .pointer (some _), h => by simp [closedV] at h
  | .slice none n c, _ => .sliceNil n c
  | .slice (some _) _ _, h => by simp [closedV] at h
  | .map none, _ => .mapNil
  | .map (some _), h => by simp [closedV] at h
  | .chan none, _ => .chanNil
  | .chan (some _), h => by simp [closedV] at h
  | .nilFunc, _ => .nilFunc
  | .nilIface, _ => .nilIface
  | .func (.yield _) _ _, h => by simp [closedV] at h
  | .func (.func f) ⟨xs⟩ ⟨ys⟩, h => .func _ (by simp) (LR.closed xs (by simp [closedV, closedA] at h; exact h.1)) (LR.closed ys (by simp [closedV, closedA] at h; exact h.2))
  | .func (.method f) ⟨xs⟩ ⟨ys⟩, h => .func _ (by simp) (LR.closed xs (by simp [closedV, closedA] at h; exact h.1)) (LR.closed ys (by simp [closedV, closedA] at h; exact h.2))
  | .func (.methodOf t f) ⟨xs⟩ ⟨ys⟩, h => .func _ (by simp) (LR.closed xs (by simp [closedV, closedA] at h; exact h.1)) (LR.closed ys (by simp [closedV, closedA] at h; exact h.2))
  | .func (.via t p f b) ⟨xs⟩ ⟨ys⟩, h => .func _ (by simp) (LR.closed xs (by simp [closedV, closedA] at h; exact h.1)) (LR.closed ys (by simp [closedV, closedA] at h; exact h.2))
  | .iface t v, h => .iface t (VR.closed v (by simpa [closedV] using h))
  | .agg ⟨xs⟩, h => .agg (LR.closed xs (by simpa [closedV, closedA] using h))
  | .tuple ⟨xs⟩, h => .tuple (LR.closed xs (by simpa [closedV, closedA] using h))
theorem LR.closed {r : Ren} : ∀ (l : List Value), closedL l = true → LR r l l
  | [], _ => .nil
  | v :: l, h => .cons (VR.closed v (by simp [closedL] at h; exact h.1)) (LR.closed l (by simp [closedL] at h; exact h.2))
end
mutual
theorem VR.closed_eq {r : Ren} : ∀ {v v' : Value}, VR r v v' → closedV v = true → v' = v
  | _, _, .bool b, _ => rfl
  | _, _, .int k n, _ => rfl
  | _, _, .float k n, _ => rfl
  | _, _, .complex k a b, _ => rfl
  | _, _, .string s, _ => rfl
  | _, _, .ptrNil, _ => rfl
  | _, _, .sliceNil n c, _ => rfl
  | _, _, .mapNil, _ => rfl
  | _, _, .chanNil, _ => rfl
  | _, _, .nilFunc, _ => rfl
  | _, _, .nilIface, _ => rfl
  | _, _, .ptr off sp h, hc => by simp [closedV] at hc
  | _, _, .map h, hc => by simp [closedV] at hc
  | _, _, .slice off n c h _, hc => by simp [closedV] at hc
  | _, _, .sliceBig off n c h _, hc => by simp [closedV] at hc
  | _, _, .sliceEnd off o2 c h _, hc => by simp [closedV] at hc
  | _, _, .yield h hx hy, hc => by simp [closedV] at hc
  | _, _, .func (xs := xs) (ys := ys) f hf hx hy, hc => by
    have hc' : closedL xs = true ∧ closedL ys = true := by
      cases f <;> first | exact absurd rfl (hf _) | simpa [closedV, closedA] using hc
    rw [LR.closed_eq hx hc'.1, LR.closed_eq hy hc'.2]
  | _, _, .iface t h, hc => by rw [VR.closed_eq h (by simpa [closedV] using hc)]
  | _, _, .agg h, hc => by rw [LR.closed_eq h (by simpa [closedV, closedA] using hc)]
  | _, _, .tuple h, hc => by rw [LR.closed_eq h (by simpa [closedV, closedA] using hc)]
theorem LR.closed_eq {r : Ren} : ∀ {l l' : List Value}, LR r l l' → closedL l = true → l' = l
  | _, _, .nil, _ => rfl
  | _, _, .cons h hl, hc => by
    simp [closedL] at hc
    rw [VR.closed_eq h hc.1, LR.closed_eq hl hc.2]
end

theorem LR.length {r : Ren} {l l'} : LR r l l' → l'.length = l.length
  | .nil => rfl
  | .cons _ h => by simp [h.length]
theorem LR.append {r : Ren} {a a' b b'} (h : LR r a a') (k : LR r b b') : LR r (a ++ b) (a' ++ b') := by
  induction a generalizing a' with
  | nil => cases h; exact k
  | cons v a ih => cases h with | cons hv hl => exact .cons hv (ih hl)
theorem LR.drop {r : Ren} : ∀ {l l'} (n : Nat), LR r l l' → LR r (l.drop n) (l'.drop n)
  | _, _, 0, h => h
  | _, _, _ + 1, .nil => .nil
  | _, _, n + 1, .cons _ h => LR.drop n h
theorem LR.take {r : Ren} : ∀ {l l'} (n : Nat), LR r l l' → LR r (l.take n) (l'.take n)
  | _, _, 0, _ => .nil
  | _, _, _ + 1, .nil => .nil
  | _, _, n + 1, .cons h hl => .cons h (LR.take n hl)
theorem LR.at_ {r : Ren} : ∀ {l l'} (n : Nat) {v}, LR r l l' → l[n]? = some v → ∃ v', l'[n]? = some v' ∧ VR r v v'
  | _, _, 0, v, .cons h _, e => by simp at e; subst e; exact ⟨_, rfl, h⟩
  | _, _, n + 1, v, .cons _ hl, e => by simp at e; simpa using LR.at_ n hl e
theorem LR.sub {r : Ren} {l l' : List Value} {off n : Nat} {s : List Value} (h : LR r l l') (hs : sub l off n = some s) :
    LR r s ((l'.drop off).take n) ∧ off + n ≤ l.length ∧ s.length = n := by
  unfold Ev.sub at hs
  cases hb : Nat.ble (off + n) l.length with
  | false => rw [hb] at hs; cases hs
  | true =>
    rw [hb] at hs
    cases hs
    have := Nat.le_of_ble_eq_true hb
    exact ⟨(h.drop off).take n, this, by simp; omega⟩
theorem VR.cells {r : Ren} {v v' : Value} (h : VR r v v') : LR r v.cells.toList v'.cells.toList := by
  have hh := h
  cases h <;> first | (rename_i h; exact h) | exact .cons hh .nil

def getO {α : Type} : Tr α → Nat → Option α
  | .nil, _ => none
  | .node l v r, n => if n = 0 then v else if n % 2 = 1 then getO l (n / 2) else getO r (n / 2 - 1)
theorem beq_dec (a b : Nat) : Nat.beq a b = decide (a = b) := by
  cases hd : Nat.beq a b with
  | true => have := Nat.eq_of_beq_eq_true hd; simp [this]
  | false => have := Nat.ne_of_beq_eq_false hd; simp [this]
theorem getO_nil {α : Type} (m : Nat) : getO (Tr.nil : Tr α) m = none := by cases m <;> rfl
theorem getF_ok {α : Type} : ∀ (f n : Nat) (t : Tr α), n < f → (getF α f n).fn t = getO t n
  | 0, _, _, h => absurd h (Nat.not_lt_zero _)
  | f + 1, n, t, h => by
    have ih := fun n t h => getF_ok (α := α) f n t h
    rw [show getF α (f + 1) n = (bif Nat.beq n 0 then ⟨fun t => Tr.casesOn (motive := fun _ => Option α) t none (fun _ v _ => v)⟩
      else bif Nat.beq (n % 2) 1 then ⟨fun t => Tr.casesOn (motive := fun _ => Option α) t none (fun l _ _ => (getF α f (n / 2)).fn l)⟩
      else ⟨fun t => Tr.casesOn (motive := fun _ => Option α) t none (fun _ _ r => (getF α f (n / 2 - 1)).fn r)⟩) from rfl]
    simp only [beq_dec, cond_eq_ite, decide_eq_true_eq]
    by_cases h0 : n = 0
    · rw [if_pos h0]; cases t <;> simp [getO, h0]
    · rw [if_neg h0]
      by_cases h1 : n % 2 = 1
      · rw [if_pos h1]; cases t <;> simp [getO, h0, h1]; exact ih _ _ (by omega)
      · rw [if_neg h1]; cases t <;> simp [getO, h0, h1]; exact ih _ _ (by omega)
theorem setF_ok {α : Type} : ∀ (f n m : Nat) (t : Tr α) (x : Option α), n < f → getO ((setF α f n).fn x t) m = if m = n then x else getO t m
  | 0, _, _, _, _, h => absurd h (Nat.not_lt_zero _)
  | f + 1, n, m, t, x, h => by
    have ih := fun n m t x h => setF_ok (α := α) f n m t x h
    rw [show setF α (f + 1) n = (bif Nat.beq n 0 then ⟨fun x t => Tr.casesOn (motive := fun _ => Tr α) t (.node .nil x .nil) (fun l _ r => .node l x r)⟩
      else bif Nat.beq (n % 2) 1 then ⟨fun x t => Tr.casesOn (motive := fun _ => Tr α) t (.node ((setF α f (n / 2)).fn x .nil) none .nil) (fun l v r => .node ((setF α f (n / 2)).fn x l) v r)⟩
      else ⟨fun x t => Tr.casesOn (motive := fun _ => Tr α) t (.node .nil none ((setF α f (n / 2 - 1)).fn x .nil)) (fun l v r => .node l v ((setF α f (n / 2 - 1)).fn x r))⟩) from rfl]
    simp only [beq_dec, cond_eq_ite, decide_eq_true_eq]
    by_cases h0 : n = 0
    · rw [if_pos h0]
      subst h0
      cases t <;> simp only [getO, getO_nil] <;> (by_cases hm : m = 0 <;> simp [hm])
    · rw [if_neg h0]
      by_cases h1 : n % 2 = 1
      · rw [if_pos h1]
        cases t <;> simp only [getO, getO_nil, ih _ _ _ _ (by omega : n / 2 < f)] <;> (repeat' split) <;> first | rfl | omega
      · rw [if_neg h1]
        cases t <;> simp only [getO, getO_nil, ih _ _ _ _ (by omega : n / 2 - 1 < f)] <;> (repeat' split) <;> first | rfl | omega
theorem Tr.get_eq {α : Type} (t : Tr α) (n : Nat) : t.get n = getO t n := getF_ok _ _ _ (by omega)
theorem Tr.get_put {α : Type} (t : Tr α) (n m : Nat) (x : Option α) : (t.put n x).get m = if m = n then x else t.get m := by
  rw [Tr.get_eq, Tr.get_eq]
  exact setF_ok _ _ _ _ _ (by omega)
theorem Tr.get_nil {α : Type} (m : Nat) : (Tr.nil : Tr α).get m = none := by rw [Tr.get_eq]; exact getO_nil m
end Ev
end
section
namespace Ev
set_option linter.unusedVariables false
set_option linter.unusedSimpArgs false

def TR (r : Ren) (τ : Tr Value) (tmps : Array Value) : Prop := ∀ t, VR r ((τ.get t).getD undef) (tmps.getD t undef)
theorem TR.mono {r r' : Ren} (h : r.le r') {τ tmps} (t : TR r τ tmps) : TR r' τ tmps := fun i => (t i).mono h

/-- Only a row whose room is not known may be marked, and then past its end. -/
def fzOk (fz : Nat × Nat) (n : Nat) : Option Nat → Prop
  | none => fz = (0, 0)
  | some sz => fz = (0, 0) ∨ (sz = 1 ∧ n ≤ fz.1)
theorem fzOk.or {fz n more} (h : fzOk fz n more) : fz = (0, 0) ∨ n ≤ fz.1 := by
  cases more with
  | none => exact .inl h
  | some _ => exact h.imp id (·.2)
theorem fzOk.plain {fz n more} (h : fzOk fz n more) (hu : unmarked more = true) : fz = (0, 0) := by
  cases more with
  | none => exact h
  | some sz =>
    rcases h with h | ⟨rfl, _⟩
    · exact h
    · cases hu
theorem fzOk.zero (n : Nat) (more : Option Nat) : fzOk (0, 0) n more := by cases more <;> simp [fzOk]
/-- Entries of a map: keys that name no block, values of the same make. -/
inductive ER (r : Ren) : List (Value × Value × Nat) → List MapEntry → Prop
  | nil : ER r [] []
  | cons {k v v' n l l'} (hk : closedV k = true) (hv : VR r v v') (hl : ER r l l') : ER r ((k, v, n) :: l) ({ key := k, val := v', born := n } :: l')
theorem ER.mono {r r' : Ren} (h : r.le r') {l l'} (e : ER r l l') : ER r' l l' := by
  induction e with
  | nil => exact .nil
  | cons hk hv _ ih => exact .cons hk (hv.mono h) ih
/-- Which map a walk is of. -/
inductive MR (r : Ren) : Option Nat → Option Nat → Prop
  | none : MR r none none
  | some {i b k} (h : r i = some (b, k)) : MR r (some i) (some b)
theorem MR.mono {r r' : Ren} (h : r.le r') {m m'} (e : MR r m m') : MR r' m m' := by
  cases e with
  | none => exact .none
  | some h1 => exact .some (h _ _ h1)
def objR (r : Ren) (w : World) (b k : Nat) : SObj → Prop
  | .cells cs T more => ∃ cs' rest fz, LR r cs cs' ∧ w.heap[b]? = some (.cells (cs' ++ rest).toArray T fz) ∧ fzOk fz (cs' ++ rest).length more ∧
      (match more with
       | none => rest = []
       | some sz => cs'.length + rest.length = k * sz ∧ k ≤ 9223372036854775807)
  | .map es clock => ∃ es', ER r es es' ∧ w.heap[b]? = some (.map es'.toArray clock)
  | .loop state pending τ N ps asg body ar => ∃ fn tmps D kD, r ar = some (D, kD) ∧ tmps.size = N ∧ TR r τ tmps ∧
      w.heap[b]? = some (.loop { state, pending, fn, tmps, params := ps, assign := asg, body, defers := D })
  | .deferred => w.heap[b]? = some (.deferred (some []))
  | .sIter s pos => w.heap[b]? = some (.stringIter s pos)
  | .mIter m since seen last => ∃ m', MR r m m' ∧ w.heap[b]? = some (.mapIter m' since seen.toArray last)
theorem objR.keep {r r' : Ren} {w w' : World} {b k : Nat} {o : SObj} (h : objR r w b k o) (hr : r.le r') (hb : w'.heap[b]? = w.heap[b]?) : objR r' w' b k o := by
  cases o with
  | cells cs T more => obtain ⟨cs', rest, fz, h1, h2, h3⟩ := h; exact ⟨cs', rest, fz, h1.mono hr, hb.trans h2, h3⟩
  | map es c => obtain ⟨es', h1, h2⟩ := h; exact ⟨es', h1.mono hr, hb.trans h2⟩
  | loop state pending τ N ps asg body ar => obtain ⟨fn, tmps, D, kD, h1, h2, h3, h4⟩ := h; exact ⟨fn, tmps, D, kD, hr _ _ h1, h2, h3.mono hr, hb.trans h4⟩
  | deferred => exact hb.trans h
  | sIter s pos => exact hb.trans h
  | mIter m since seen last => obtain ⟨m', h1, h2⟩ := h; exact ⟨m', h1.mono hr, hb.trans h2⟩
theorem objR.lt {r : Ren} {w : World} {b k : Nat} {o : SObj} (h : objR r w b k o) : b < w.heap.size := by
  cases o with
  | cells cs T more => obtain ⟨cs', rest, fz, h1, h2, h3⟩ := h; exact (Array.getElem?_eq_some_iff.1 h2).1
  | map es c => obtain ⟨es', h1, h2⟩ := h; exact (Array.getElem?_eq_some_iff.1 h2).1
  | loop state pending τ N ps asg body ar => obtain ⟨fn, tmps, D, kD, h1, h2, h3, h4⟩ := h; exact (Array.getElem?_eq_some_iff.1 h4).1
  | deferred => exact (Array.getElem?_eq_some_iff.1 h).1
  | sIter s pos => exact (Array.getElem?_eq_some_iff.1 h).1
  | mIter m since seen last => obtain ⟨m', h1, h2⟩ := h; exact (Array.getElem?_eq_some_iff.1 h2).1

structure RelF (G : Cx) (r : Ren) (h : Nat → Option SObj) (w : World) : Prop where
  obj : ∀ i o, h i = some o → ∃ b k, r i = some (b, k) ∧ objR r w b k o
  inj : ∀ i j o o' b k k', h i = some o → h j = some o' → r i = some (b, k) → r j = some (b, k') → i = j
  glob : ∀ g, g < G.n → ∃ k, r g = some (g, k)
abbrev Rel (G : Cx) (r : Ren) (st : St) (w : World) : Prop := RelF G r st.H.get w

structure Step (G : Cx) (r : Ren) (st : St) (w : World) (r' : Ren) (st' : St) (w' : World) : Prop where
  rel : Rel G r' st' w'
  le : r.le r'
  new : ∀ i, r i = none → r' i ≠ none → st.n ≤ i ∧ i < st'.n
  mono : st.n ≤ st'.n
  wsub : ∀ i, i ∈ st.W → i ∈ st'.W
  wlive : ∀ i, i ∈ st'.W → i ∈ st.W ∨ (∃ o, st.H.get i = some o) ∨ st.n ≤ i
  dies : ∀ i o, st'.H.get i = some o → (∃ o, st.H.get i = some o) ∨ st.n ≤ i
  fresh : ∀ i b k, r i = none → r' i = some (b, k) → w.heap.size ≤ b ∨ ∃ j k', j ∈ st'.W ∧ r j = some (b, k')
  frame : ∀ b, b < w.heap.size → (∀ i k, i ∈ st'.W → r i ≠ some (b, k)) → w'.heap[b]? = w.heap[b]?
  size : w.heap.size ≤ w'.heap.size
  os : w'.os = w.os
  tape : w'.tape = w.tape
  output : w'.output = w.output

theorem Step.refl {G r st w} (h : Rel G r st w) : Step G r st w r st w where
  rel := h
  le := Ren.le_refl r
  new := fun i h h' => absurd h h'
  mono := Nat.le_refl _
  wsub := fun _ h => h
  wlive := fun _ h => .inl h
  dies := fun _ _ h => .inl ⟨_, h⟩
  fresh := fun i b k h h' => by rw [h] at h'; cases h'
  frame := fun _ _ _ => rfl
  size := Nat.le_refl _
  os := rfl
  tape := rfl
  output := rfl

theorem Step.trans {G r st w r1 st1 w1 r2 st2 w2} (h : Step G r st w r1 st1 w1) (k : Step G r1 st1 w1 r2 st2 w2) : Step G r st w r2 st2 w2 where
  rel := k.rel
  le := Ren.le_trans h.le k.le
  new := fun i hi hi2 => by
    cases h1 : r1 i with
    | none => have := k.new i h1 hi2; have := h.mono; omega
    | some x => have := h.new i hi (by simp [h1]); have := k.mono; omega
  mono := Nat.le_trans h.mono k.mono
  wsub := fun i hi => k.wsub i (h.wsub i hi)
  wlive := fun i hi => by
    rcases k.wlive i hi with h1 | ⟨o, h1⟩ | h1
    · exact h.wlive i h1
    · exact .inr (h.dies i o h1)
    · exact .inr (.inr (Nat.le_trans h.mono h1))
  dies := fun i o hi => by
    rcases k.dies i o hi with ⟨o, h1⟩ | h1
    · exact h.dies i o h1
    · exact .inr (Nat.le_trans h.mono h1)
  fresh := fun i b kk hi hi2 => by
    cases h1 : r1 i with
    | none =>
      rcases k.fresh i b kk h1 hi2 with h' | ⟨j, k', hj, hrj⟩
      · have := h.size; left; omega
      · cases hj0 : r j with
        | none =>
          rcases h.fresh j b k' hj0 hrj with h' | ⟨j2, k2, hj2, hr2⟩
          · exact .inl h'
          · exact .inr ⟨j2, k2, k.wsub _ hj2, hr2⟩
        | some x =>
          have := h.le j x hj0
          rw [hrj] at this
          cases this
          exact .inr ⟨j, k', hj, hj0⟩
    | some x =>
      have := k.le i x h1
      rw [hi2] at this
      cases this
      rcases h.fresh i b kk hi h1 with h' | ⟨j, k', hj, hrj⟩
      · exact .inl h'
      · exact .inr ⟨j, k', k.wsub _ hj, hrj⟩
  frame := fun b hb hW => by
    have e1 := h.frame b hb (fun i kk hi => hW i kk (k.wsub i hi))
    refine (k.frame b (Nat.lt_of_lt_of_le hb h.size) (fun i kk hi hr1 => ?_)).trans e1
    cases hi0 : r i with
    | none =>
      rcases h.fresh i b kk hi0 hr1 with h' | ⟨j, k', hj, hrj⟩
      · omega
      · exact hW j k' (k.wsub _ hj) hrj
    | some x =>
      have := h.le i x hi0
      rw [hr1] at this
      cases this
      exact hW i kk hi hi0
  size := Nat.le_trans h.size k.size
  os := k.os.trans h.os
  tape := k.tape.trans h.tape
  output := k.output.trans h.output

def Ren.set (r : Ren) (i : Nat) (x : Nat × Nat) : Ren := fun j => if j = i then some x else r j
theorem Ren.le_set {r : Ren} {i : Nat} {x : Nat × Nat} (h : r i = none) : r.le (r.set i x) := fun j y hy => by
  unfold Ren.set
  split
  · rename_i e; subst e; rw [h] at hy; cases hy
  · exact hy

/-- A new block under a new mark. -/
theorem Step.alloc {G r st w w' k} {o : SObj} (hR : Rel G r st w) (hf : r st.n = none) (ho : ∀ r', r.le r' → objR r' w' w.heap.size k o)
    (hk : ∀ b, b < w.heap.size → w'.heap[b]? = w.heap[b]?) (hs : w.heap.size ≤ w'.heap.size) (h1 : w'.os = w.os) (h2 : w'.tape = w.tape) (h3 : w'.output = w.output) :
    Step G r st w (r.set st.n (w.heap.size, k)) (st.new o) w' := by
  have hle : r.le (r.set st.n (w.heap.size, k)) := Ren.le_set hf
  refine ⟨⟨?_, ?_, ?_⟩, hle, ?_, by simp [St.new], fun i h => h, fun i h => .inl h, fun i o h => ?_, ?_, fun b hb _ => hk b hb, hs, h1, h2, h3⟩
  · intro i o' hi
    simp only [St.new, Tr.get_put] at hi
    by_cases e : i = st.n
    · subst e
      rw [if_pos rfl] at hi
      cases hi
      exact ⟨_, k, by simp [Ren.set], ho _ hle⟩
    · rw [if_neg e] at hi
      obtain ⟨b, kk, hr, hob⟩ := hR.obj i o' hi
      exact ⟨b, kk, hle _ _ hr, hob.keep hle (hk b hob.lt)⟩
  · intro i j oi oj b ki kj hi hj hri hrj
    simp only [St.new, Tr.get_put] at hi hj
    have old : ∀ i o', i ≠ st.n → st.H.get i = some o' → ∀ b kk, (r.set st.n (w.heap.size, k)) i = some (b, kk) → r i = some (b, kk) ∧ b < w.heap.size := by
      intro i o' e hi b kk hr
      simp only [Ren.set, if_neg e] at hr
      obtain ⟨b', k', hr', hob⟩ := hR.obj i o' hi
      rw [hr] at hr'
      cases hr'
      exact ⟨hr, hob.lt⟩
    by_cases ei : i = st.n <;> by_cases ej : j = st.n
    · rw [ei, ej]
    · subst ei
      rw [if_neg ej] at hj
      have := (old j _ ej hj b kj hrj).2
      simp [Ren.set] at hri
      omega
    · subst ej
      rw [if_neg ei] at hi
      have := (old i _ ei hi b ki hri).2
      simp [Ren.set] at hrj
      omega
    · rw [if_neg ei] at hi
      rw [if_neg ej] at hj
      exact hR.inj i j _ _ b ki kj hi hj (old i _ ei hi b ki hri).1 (old j _ ej hj b kj hrj).1
  · intro g hg
    obtain ⟨kk, h⟩ := hR.glob g hg
    exact ⟨kk, hle _ _ h⟩
  · intro i hi hi2
    by_cases e : i = st.n
    · subst e; simp [St.new]
    · simp only [Ren.set, if_neg e] at hi2; exact absurd hi hi2
  · simp only [St.new, Tr.get_put] at h
    by_cases e : i = st.n
    · exact .inr (by omega)
    · rw [if_neg e] at h; exact .inl ⟨_, h⟩
  · intro i b kk hi hi2
    by_cases e : i = st.n
    · subst e; simp [Ren.set] at hi2; exact .inl (by omega)
    · simp only [Ren.set, if_neg e] at hi2; rw [hi] at hi2; cases hi2

/-- What lies under a mark is turned. -/
theorem Step.turn {G r st w w' i b k} {o o' : SObj} (hR : Rel G r st w) (hi : st.H.get i = some o) (hr : r i = some (b, k)) (ho : objR r w' b k o')
    (hk : ∀ c, c ≠ b → w'.heap[c]? = w.heap[c]?) (hs : w'.heap.size = w.heap.size) (h1 : w'.os = w.os) (h2 : w'.tape = w.tape) (h3 : w'.output = w.output) :
    Step G r st w r (st.upd i o') w' := by
  refine ⟨⟨?_, ?_, hR.glob⟩, Ren.le_refl r, fun j h h' => absurd h h', Nat.le_refl _, fun j h => List.mem_cons_of_mem _ h, fun j h => ?_, fun j oj h => ?_, fun j b kk h h' => (by rw [h] at h'; cases h'), ?_, by omega, h1, h2, h3⟩
  · intro j oj hj
    simp only [St.upd, Tr.get_put] at hj
    by_cases e : j = i
    · subst e
      rw [if_pos rfl] at hj
      cases hj
      exact ⟨b, k, hr, ho⟩
    · rw [if_neg e] at hj
      obtain ⟨c, kk, hrj, hob⟩ := hR.obj j oj hj
      refine ⟨c, kk, hrj, hob.keep (Ren.le_refl r) (hk c ?_)⟩
      rintro rfl
      exact e (hR.inj j i _ _ c kk k hj hi hrj hr)
  · intro x y ox oy c kx ky hx hy hrx hry
    simp only [St.upd, Tr.get_put] at hx hy
    have hx' : ∃ o, st.H.get x = some o := by
      by_cases e : x = i
      · subst e; exact ⟨_, hi⟩
      · rw [if_neg e] at hx; exact ⟨_, hx⟩
    have hy' : ∃ o, st.H.get y = some o := by
      by_cases e : y = i
      · subst e; exact ⟨_, hi⟩
      · rw [if_neg e] at hy; exact ⟨_, hy⟩
    obtain ⟨_, hx'⟩ := hx'
    obtain ⟨_, hy'⟩ := hy'
    exact hR.inj x y _ _ c kx ky hx' hy' hrx hry
  · rcases List.mem_cons.1 h with rfl | h
    · exact .inr (.inl ⟨_, hi⟩)
    · exact .inl h
  · simp only [St.upd, Tr.get_put] at h
    by_cases e : j = i
    · subst e; exact .inl ⟨_, hi⟩
    · rw [if_neg e] at h; exact .inl ⟨_, h⟩
  · intro c hc hW
    refine hk c ?_
    rintro rfl
    exact hW i k (List.mem_cons_self ..) hr

/-- A mark's row is given up for another mark's: the same block, or a new one. -/
theorem Step.moved {G r st w w' i b k b' k'} {o o' : SObj} (hR : Rel G r st w) (hi : st.H.get i = some o) (hr : r i = some (b, k)) (hf : r st.n = none)
    (ho : ∀ r', r.le r' → objR r' w' b' k' o') (hb : b' = b ∨ b' = w.heap.size)
    (hk : ∀ c, c ≠ b → c < w.heap.size → w'.heap[c]? = w.heap[c]?) (hs : w.heap.size ≤ w'.heap.size) (h1 : w'.os = w.os) (h2 : w'.tape = w.tape) (h3 : w'.output = w.output) :
    Step G r st w (r.set st.n (b', k')) { H := (st.H.put i none).put st.n (some o'), n := st.n + 1, W := i :: st.W } w' := by
  have hle : r.le (r.set st.n (b', k')) := Ren.le_set hf
  have hin : i ≠ st.n := by rintro rfl; rw [hf] at hr; cases hr
  have old : ∀ j oj, ((st.H.put i none).put st.n (some o')).get j = some oj → j ≠ st.n → j ≠ i ∧ st.H.get j = some oj := by
    intro j oj hj e
    simp only [Tr.get_put] at hj
    rw [if_neg e] at hj
    by_cases e2 : j = i
    · rw [if_pos e2] at hj; cases hj
    · rw [if_neg e2] at hj; exact ⟨e2, hj⟩
  have oldr : ∀ j, j ≠ st.n → (r.set st.n (b', k')) j = r j := fun j e => by simp [Ren.set, e]
  refine ⟨⟨?_, ?_, ?_⟩, hle, ?_, by simp, fun j h => List.mem_cons_of_mem _ h, fun j h => ?_, fun j oj h => ?_, ?_, ?_, hs, h1, h2, h3⟩
  · intro j oj hj
    by_cases e : j = st.n
    · subst e
      simp only [Tr.get_put, if_true] at hj
      cases hj
      exact ⟨b', k', by simp [Ren.set], ho _ hle⟩
    · obtain ⟨e2, hj'⟩ := old j oj hj e
      obtain ⟨c, kk, hrj, hob⟩ := hR.obj j oj hj'
      refine ⟨c, kk, hle _ _ hrj, hob.keep hle (hk c ?_ hob.lt)⟩
      rintro rfl
      exact e2 (hR.inj j i _ _ c kk k hj' hi hrj hr)
  · intro x y ox oy c kx ky hx hy hrx hry
    have no : ∀ j oj kj, ((st.H.put i none).put st.n (some o')).get j = some oj → j ≠ st.n → (r.set st.n (b', k')) j = some (b', kj) → False := by
      intro j oj kj hj e hrj
      obtain ⟨e2, hj'⟩ := old j oj hj e
      rw [oldr j e] at hrj
      rcases hb with rfl | rfl
      · exact e2 (hR.inj j i _ _ b' kj k hj' hi hrj hr)
      · obtain ⟨c, kk, hrj', hob⟩ := hR.obj j oj hj'
        rw [hrj] at hrj'
        cases hrj'
        exact Nat.lt_irrefl _ hob.lt
    by_cases ex : x = st.n <;> by_cases ey : y = st.n
    · rw [ex, ey]
    · subst ex
      simp [Ren.set] at hrx
      obtain ⟨rfl, rfl⟩ := hrx
      exact (no y oy ky hy ey hry).elim
    · subst ey
      simp [Ren.set] at hry
      obtain ⟨rfl, rfl⟩ := hry
      exact (no x ox kx hx ex hrx).elim
    · rw [oldr x ex] at hrx
      rw [oldr y ey] at hry
      exact hR.inj x y _ _ c kx ky (old x ox hx ex).2 (old y oy hy ey).2 hrx hry
  · intro g hg
    obtain ⟨kk, h⟩ := hR.glob g hg
    exact ⟨kk, hle _ _ h⟩
  · intro j hj hj2
    by_cases e : j = st.n
    · subst e; simp
    · rw [oldr j e] at hj2; exact absurd hj hj2
  · rcases List.mem_cons.1 h with rfl | h
    · exact .inr (.inl ⟨_, hi⟩)
    · exact .inl h
  · by_cases e : j = st.n
    · exact .inr (by omega)
    · exact .inl ⟨_, (old j oj h e).2⟩
  · intro j c kk hj hj2
    by_cases e : j = st.n
    · subst e
      simp [Ren.set] at hj2
      obtain ⟨rfl, rfl⟩ := hj2
      rcases hb with rfl | rfl
      · exact .inr ⟨i, k, List.mem_cons_self .., hr⟩
      · exact .inl (Nat.le_refl _)
    · rw [oldr j e, hj] at hj2; cases hj2
  · intro c hc hW
    refine hk c ?_ hc
    rintro rfl
    exact hW i k (List.mem_cons_self ..) hr

/-- What lies under a mark is turned, and nothing is known of it any more. -/
theorem Step.drop {G r st w w' i b k} {o : SObj} (hR : Rel G r st w) (hi : st.H.get i = some o) (hr : r i = some (b, k))
    (hk : ∀ c, c ≠ b → w'.heap[c]? = w.heap[c]?) (hs : w'.heap.size = w.heap.size) (h1 : w'.os = w.os) (h2 : w'.tape = w.tape) (h3 : w'.output = w.output) :
    Step G r st w r { H := st.H.put i none, n := st.n, W := i :: st.W } w' := by
  have old : ∀ j oj, (st.H.put i none).get j = some oj → j ≠ i ∧ st.H.get j = some oj := by
    intro j oj hj
    simp only [Tr.get_put] at hj
    by_cases e2 : j = i
    · rw [if_pos e2] at hj; cases hj
    · rw [if_neg e2] at hj; exact ⟨e2, hj⟩
  refine ⟨⟨?_, ?_, hR.glob⟩, Ren.le_refl r, fun j h h' => absurd h h', Nat.le_refl _, fun j h => List.mem_cons_of_mem _ h, fun j h => ?_, fun j oj h => .inl ⟨_, (old j oj h).2⟩, fun j b kk h h' => (by rw [h] at h'; cases h'), ?_, by omega, h1, h2, h3⟩
  · intro j oj hj
    obtain ⟨e, hj⟩ := old j oj hj
    obtain ⟨c, kk, hrj, hob⟩ := hR.obj j oj hj
    refine ⟨c, kk, hrj, hob.keep (Ren.le_refl r) (hk c ?_)⟩
    rintro rfl
    exact e (hR.inj j i _ _ c kk k hj hi hrj hr)
  · intro x y ox oy c kx ky hx hy hrx hry
    exact hR.inj x y _ _ c kx ky (old x ox hx).2 (old y oy hy).2 hrx hry
  · rcases List.mem_cons.1 h with rfl | h
    · exact .inr (.inl ⟨_, hi⟩)
    · exact .inl h
  · intro c hc hW
    refine hk c ?_
    rintro rfl
    exact hW i k (List.mem_cons_self ..) hr

/-- The tape's count has moved on. -/
theorem RelF.drawn {G r st w} {n : Nat} (h : Rel G r st w) : Rel G r st { w with drawn := n } :=
  ⟨fun i o hi => let ⟨b, k, h1, h2⟩ := h.obj i o hi; ⟨b, k, h1, h2.keep (Ren.le_refl r) rfl⟩, h.inj, h.glob⟩
theorem Step.drawn {G r st w} {n : Nat} (h : Rel G r st w) : Step G r st w r st { w with drawn := n } :=
  { Step.refl h with rel := h.drawn, frame := fun _ _ _ => rfl, size := Nat.le_refl _, os := rfl, tape := rfl, output := rfl }

theorem RelF.cells {G r st w} (h : Rel G r st w) {i cs T m} (hc : st.cells i = some (cs, T, m)) :
    st.H.get i = some (.cells cs T m) ∧ ∃ b k, r i = some (b, k) ∧ objR r w b k (.cells cs T m) := by
  unfold St.cells at hc
  split at hc
  · rename_i hg
    cases hc
    exact ⟨hg, h.obj i _ hg⟩
  · cases hc
theorem eval_ok {G r st w τ} {a : Act} (hR : Rel G r st w) (hT : TR r τ a.tmps) : ∀ x v, eval G τ x = some v → VR r v (a.eval x) := by
  intro x v h
  cases x with
  | tmp t => simp only [eval] at h; cases h; exact hT t
  | const c =>
    simp only [eval, cond_eq_ite] at h
    split at h
    · cases h; exact VR.closed v ‹_›
    · cases h
  | global g =>
    simp only [eval, cond_eq_ite] at h
    split at h
    · rename_i hg
      cases h
      obtain ⟨k, hk⟩ := hR.glob g (by simpa [Nat.blt_eq] using hg)
      exact .ptr 0 none hk
    · cases h
  | func f => simp only [eval] at h; cases h; exact .func _ (by simp) .nil .nil
end Ev
end
section
namespace Ev
set_option linter.unusedVariables false
set_option linter.unusedSimpArgs false
open Go.RowKit
variable {P : Program} {G : Cx} {r : Ren} {st : St} {w : World}

theorem run_isAggP {t : TypeId} {g : Bool} (h : isAggP P t = some g) (w : World) : (isAgg t).run P w = .ok g w := by
  unfold isAggP at h
  obtain ⟨d, hd, h⟩ := Option.bind_eq_some_iff.1 h
  simp only [isAgg, Sem.run_bind, run_underlying hd, Result.andThen_ok]
  cases d <;> simp_all
theorem sizeP_info {t : TypeId} {n : Nat} (h : sizeP P t = some n) : ∃ i, P.info? t = some i ∧ i.size = n := by
  unfold sizeP at h
  obtain ⟨i, hi, h⟩ := Option.bind_eq_some_iff.1 h
  exact ⟨i, hi, by simpa using h⟩
theorem run_sizeP {t : TypeId} {n : Nat} (h : sizeP P t = some n) (w : World) : (sizeOf t).run P w = .ok n w := by
  obtain ⟨i, hi, rfl⟩ := sizeP_info h
  simp [sizeOf, typeInfo, hi]
theorem zeroP_info {t : TypeId} {z : Value} (h : zeroP P t = some z) : (∃ i, P.info? t = some i ∧ i.zero = some z) ∧ closedV z = true := by
  unfold zeroP at h
  obtain ⟨i, hi, h⟩ := Option.bind_eq_some_iff.1 h
  obtain ⟨z', hz, h⟩ := Option.bind_eq_some_iff.1 h
  simp only [cond_eq_ite] at h
  split at h
  · cases h; exact ⟨⟨i, hi, hz⟩, ‹_›⟩
  · cases h
theorem run_zeroP {t : TypeId} {z : Value} (h : zeroP P t = some z) (w : World) : (zeroValue t).run P w = .ok z w := by
  obtain ⟨⟨i, hi, hz⟩, _⟩ := zeroP_info h
  simp [zeroValue, typeInfo, hi, hz]
theorem cell_row {w : World} {b : Nat} {row : List Value} {T fr} (h : w.heap[b]? = some (.cells row.toArray T fr)) (j : Nat) : w.cell? ⟨b, j, none⟩ = row[j]? := by simp [World.cell?, h]
theorem cond_none {α : Type} {c : Bool} {x : Option α} {y : α} (h : (bif c then x else none) = some y) : c = true ∧ x = some y := by
  cases c
  · cases h
  · exact ⟨rfl, h⟩

theorem load_ok {t a v a'} (hR : Rel G r st w) (h : loadP P t a st = some v) (ha : VR r a a') : ∃ v', (Instr.loadAt t a').run P w = .ok v' w ∧ VR r v v' := by
  unfold loadP at h
  split at h
  · rename_i i off
    obtain ⟨⟨cs, T, m⟩, hc, h⟩ := Option.bind_eq_some_iff.1 h
    obtain ⟨g, hg, h⟩ := Option.bind_eq_some_iff.1 h
    obtain ⟨hgi, b, k, hr, cs', rest, fz, hl, hb, _⟩ := hR.cells hc
    cases ha with
    | ptr _ _ hr2 =>
    rw [hr] at hr2
    cases hr2
    have hcell := cell_row hb
    simp only [Instr.loadAt, Instr.sureAddr, Sem.run_bind, Sem.run_pure, Result.andThen_ok, loadVar, run_isAggP hg]
    cases g with
    | true =>
      obtain ⟨n, hn, h⟩ := Option.bind_eq_some_iff.1 h
      obtain ⟨l, hs, h⟩ := Option.bind_eq_some_iff.1 h
      cases h
      obtain ⟨hl2, hle, hlen⟩ := hl.sub hs
      have hll := hl.length
      have hl' : ((cs'.drop off).take n).length = n := by simp; omega
      have hload := run_loadCells_list (P := P) w ⟨b, off, none⟩ ((cs'.drop off).take n) (by
        intro j v hj
        rw [Addr.add_lit, hcell]
        rw [List.getElem?_take] at hj
        split at hj
        · rw [List.getElem?_drop] at hj
          rw [List.getElem?_append_left (by have := (List.getElem?_eq_some_iff.1 hj).1; exact this)]
          exact hj
        · cases hj)
      rw [hl'] at hload
      refine ⟨.agg ((cs'.drop off).take n).toArray, ?_, .agg hl2⟩
      simp [run_sizeP hn, hload]
    | false =>
      simp at h
      obtain ⟨v', hv', hvr⟩ := hl.at_ off h
      refine ⟨v', ?_, hvr⟩
      have : w.cell? ⟨b, off, none⟩ = some v' := by rw [hcell, List.getElem?_append_left (List.getElem?_eq_some_iff.1 hv').1]; exact hv'
      simp [this]
  · cases h

theorem run_storeCells_atE (P : Program) (g o : Nat) (t : TypeId) (fz : Nat × Nat) : ∀ (vs : List Value) (i : Nat) (cur : Array Value) (w : World), w.heap[g]? = some (.cells cur t fz) → (fz = (0, 0) ∨ cur.size ≤ fz.1) → o + i + vs.length ≤ cur.size → (∀ v ∈ vs, v.oneCell' = true) →
    (storeCells ⟨g, o, none⟩ vs i).run P w = .ok () (w.setRow g (cur.toList.take (o + i) ++ vs ++ cur.toList.drop (o + i + vs.length)).toArray)
  | [], i, cur, w, hg, _, _, _ => by
    simp only [storeCells, List.append_nil, List.length_nil, Nat.add_zero, List.take_append_drop, Array.toArray_toList]
    rw [setRow_self w g cur t fz hg]
    rfl
  | v :: rest, i, cur, w, hg, hfz, hl, h1 => by
    have hi : o + i < cur.size := by simp at hl; omega
    have hadd : (⟨g, o, none⟩ : Addr).add i = ⟨g, o + i, none⟩ := by unfold Addr.add; split <;> simp_all
    have hcell : w.cell? ⟨g, o + i, none⟩ = some cur[o + i] := by simp [World.cell?, hg, hi]
    have hfro : w.frozen? ⟨g, o + i, none⟩ = false := by
      obtain ⟨lo, hi'⟩ := fz
      simp only [World.frozen?, hg, Bool.and_eq_false_iff, decide_eq_false_iff_not]
      rcases hfz with hfz | hfz
      · cases hfz
        exact .inr (by omega)
      · simp only at hfz
        exact .inl (by omega)
    have hst : (store ((⟨g, o, none⟩ : Addr).add i) v).run P w = .ok () (w.setRow g (cur.setIfInBounds (o + i) v)) := by
      rw [hadd, run_store P w _ v _ (h1 v (by simp)), hcell]
      simp [hfro, setCell_eq_setRow w g (o + i) cur t fz v hg]
    have ih := run_storeCells_atE P g o t fz rest (i + 1) (cur.setIfInBounds (o + i) v) (w.setRow g (cur.setIfInBounds (o + i) v)) (setRow_heap w g cur _ t _ hg) (by simpa using hfz) (by simp at hl ⊢; omega) (fun x hx => h1 x (by simp [hx]))
    simp only [storeCells, Sem.run_bind, hst, Result.andThen_ok, ih, setRow_setRow]
    congr 3
    have e := list_seg_step cur.toList (o + i) v rest (by simp at hl ⊢; omega)
    simpa [Array.toList_setIfInBounds, Nat.add_assoc] using e
theorem one_ok {v v' : Value} (h : VR r v v') (ho : one v = true) : v'.oneCell' = true := by cases h <;> first | rfl | cases ho
theorem allOne_ok : ∀ {l l' : List Value}, LR r l l' → allOne l = true → ∀ v ∈ l', v.oneCell' = true
  | _, _, .nil, _ => by simp
  | _, _, .cons h hl, ho => by
    simp [allOne] at ho
    intro v hv
    rcases List.mem_cons.1 hv with rfl | hv
    · exact one_ok h ho.1
    · exact allOne_ok hl ho.2 v hv
theorem LR.over {l l' : List Value} {off : Nat} {vs vs' s : List Value} (h : LR r l l') (hv : LR r vs vs') (hs : over l off vs = some s) :
    LR r s (l'.take off ++ (vs' ++ l'.drop (off + vs.length))) ∧ off + vs.length ≤ l.length := by
  unfold Ev.over at hs
  obtain ⟨hb, hs⟩ := cond_none hs
  cases hs
  exact ⟨(h.take off).append (hv.append (h.drop _)), Nat.le_of_ble_eq_true hb⟩
/-- Cells are written over. -/
theorem write_ok {i cs T m b k off vs vs' cs2} (hR : Rel G r st w) (hc : st.cells i = some (cs, T, m)) (hr : r i = some (b, k)) (ho : over cs off vs = some cs2) (hv : LR r vs vs') (h1 : allOne vs = true) :
    ∃ w', (storeCells ⟨b, off, none⟩ vs').run P w = .ok () w' ∧ Step G r st w r (st.upd i (.cells cs2 T m)) w' := by
  obtain ⟨hgi, b2, k2, hr2, cs', rest, fz, hl, hb, hfz, hm⟩ := hR.cells hc
  rw [hr] at hr2
  cases hr2
  obtain ⟨hl2, hle⟩ := hl.over hv ho
  have hlen := hl.length
  have hvl := hv.length
  have hst := run_storeCells_atE P b off T fz vs' 0 (cs' ++ rest).toArray w hb (by simpa using hfz.or) (by simp; omega) (allOne_ok hv h1)
  refine ⟨_, hst, Step.turn hR hgi hr ⟨cs'.take off ++ (vs' ++ cs'.drop (off + vs.length)), rest, fz, hl2, ?_, ?_, ?_⟩ (fun c hcb => setRow_other w b c _ hcb) (by simp) rfl rfl rfl⟩
  · rw [setRow_heap w b _ _ T fz hb]
    have e : ((cs' ++ rest).toArray.toList.take (off + 0) ++ vs' ++ (cs' ++ rest).toArray.toList.drop (off + 0 + vs'.length)) = cs'.take off ++ (vs' ++ cs'.drop (off + vs.length)) ++ rest := by
      rw [List.toList_toArray, Nat.add_zero, List.take_append_of_le_length (by omega), List.drop_append_of_le_length (by omega), hvl]
      simp [List.append_assoc]
    rw [e]
  · have e : (cs'.take off ++ (vs' ++ cs'.drop (off + vs.length)) ++ rest).length = (cs' ++ rest).length := by
      simp
      omega
    rw [e]
    exact hfz
  · cases m with
    | none => exact hm
    | some sz =>
      refine ⟨?_, hm.2⟩
      rw [← hm.1]
      simp
      omega
theorem store_ok {t a v a' v' st'} (hR : Rel G r st w) (h : storeP P t a v st = some st') (ha : VR r a a') (hv : VR r v v') :
    ∃ w', (Instr.storeAt t a' v').run P w = .ok () w' ∧ Step G r st w r st' w' := by
  unfold storeP at h
  split at h
  · rename_i i off
    obtain ⟨⟨cs, T, m⟩, hc, h⟩ := Option.bind_eq_some_iff.1 h
    obtain ⟨n, hn, h⟩ := Option.bind_eq_some_iff.1 h
    obtain ⟨hb, h⟩ := cond_none h
    obtain ⟨cs2, ho, h⟩ := Option.bind_eq_some_iff.1 h
    cases h
    simp only [Bool.and_eq_true] at hb
    have hn2 := Nat.eq_of_beq_eq_true hb.1
    cases ha with
    | @ptr _ b k _ _ hr =>
    obtain ⟨w', hw, hs⟩ := write_ok (P := P) hR hc hr ho hv.cells hb.2
    refine ⟨w', ?_, hs⟩
    have hsz : v'.cells.size = n := by rw [← hn2, ← Array.length_toList, hv.cells.length]
    simp [Instr.storeAt, Instr.sureAddr, storeVar, run_sizeP hn, hsz, hw]
  · cases h

/-- Something new, its cells all known. -/
theorem new_ok {cs cs' T} (hR : Rel G r st w) (hf : r st.n = none) (hl : LR r cs cs') :
    Step G r st w (r.set st.n (w.heap.size, 0)) (st.new (.cells cs T none)) (w.alloc (.cells cs'.toArray T)) :=
  Step.alloc hR hf (fun r' hr' => ⟨cs', [], (0, 0), hl.mono hr', by rw [List.append_nil]; exact heap_alloc_new w _, fzOk.zero _ _, rfl⟩) (fun b hb => Below.heap_alloc _ _ _ hb) (by simp) rfl rfl rfl
theorem set_new (r : Ren) (i : Nat) (x : Nat × Nat) : (r.set i x) i = some x := by simp [Ren.set]

theorem Fill.step {f g : List Value} {cells cells' : Array Value} {v v' : Value} (off : Nat) (h : LR r cells.toList cells'.toList) (hv : VR r v v') :
    LR r (v.cells.zipIdx.foldl (fun cs (c, j) => cs.setIfInBounds (off + j) c) cells).toList (v'.cells.zipIdx.foldl (fun cs (c, j) => cs.setIfInBounds (off + j) c) cells').toList := by
  have hset : ∀ (l l' : List Value) (n : Nat) (u u' : Value), LR r l l' → VR r u u' → LR r (l.set n u) (l'.set n u') := by
    intro l
    induction l with
    | nil => intro l' n u u' h hu; cases h; exact .nil
    | cons x l ih =>
      intro l' n u u' h hu
      cases h with
      | cons hx hl =>
        cases n with
        | zero => exact .cons hu hl
        | succ n => exact .cons hx (ih _ n u u' hl hu)
  have hc := hv.cells
  have key : ∀ (l l' : List Value), LR r l l' → ∀ (s : Nat) (cs cs' : Array Value), LR r cs.toList cs'.toList →
      LR r ((l.zipIdx s).foldl (fun (cs : Array Value) (x : Value × Nat) => cs.setIfInBounds (off + x.2) x.1) cs).toList ((l'.zipIdx s).foldl (fun (cs : Array Value) (x : Value × Nat) => cs.setIfInBounds (off + x.2) x.1) cs').toList := by
    intro l
    induction l with
    | nil => intro l' h s cs cs' hcs; cases h; exact hcs
    | cons x l ih =>
      intro l' h s cs cs' hcs
      cases h with
      | cons hx hl =>
        simp only [List.zipIdx_cons, List.foldl_cons]
        exact ih _ hl (s + 1) _ _ (by rw [Array.toList_setIfInBounds, Array.toList_setIfInBounds]; exact hset _ _ _ _ _ hcs hx)
  have e : ∀ (u : Value) (cs : Array Value), (u.cells.zipIdx.foldl (fun cs (c, j) => cs.setIfInBounds (off + j) c) cs) = ((u.cells.toList.zipIdx 0).foldl (fun (cs : Array Value) (x : Value × Nat) => cs.setIfInBounds (off + x.2) x.1) cs) := by
    intro u cs
    rw [← Array.foldl_toList, Array.toList_zipIdx]
  rw [e, e]
  exact key _ _ hc 0 _ _ h
/-- Related parts. -/
inductive PR (r : Ren) : List (Nat × Value) → List (Nat × Value) → Prop
  | nil : PR r [] []
  | cons {i v v' l l'} (h : VR r v v') (hl : PR r l l') : PR r ((i, v) :: l) ((i, v') :: l')
theorem fill_ok {place : Nat → Option (Nat × Nat)} : ∀ {ps ps' : List (Nat × Value)} {cells cells' out : Array Value}, PR r ps ps' → LR r cells.toList cells'.toList → Instr.fill place cells ps = some out →
    ∃ out', Instr.fill place cells' ps' = some out' ∧ LR r out.toList out'.toList
  | _, _, cells, cells', out, .nil, hc, h => by simp [Instr.fill] at h; subst h; exact ⟨cells', rfl, hc⟩
  | _, _, cells, cells', out, .cons (i := i) (v := v) (v' := v') hv hl, hc, h => by
    simp only [Instr.fill] at h ⊢
    cases hp : place i with
    | none => rw [hp] at h; cases h
    | some x =>
      obtain ⟨off, size⟩ := x
      rw [hp] at h
      simp only at h ⊢
      have e1 : v'.cells.size = v.cells.size := by have := hv.cells.length; simpa using this
      have e2 : cells'.size = cells.size := by have := hc.length; simpa using this
      rw [e1, e2]
      split at h
      · cases h
      · rename_i hcond
        rw [if_neg hcond]
        exact fill_ok hl (Fill.step (f := []) (g := []) off hc hv) h
end Ev
end
end Go.Proofs.YtcnbgdplkobenaaGreatDoor
