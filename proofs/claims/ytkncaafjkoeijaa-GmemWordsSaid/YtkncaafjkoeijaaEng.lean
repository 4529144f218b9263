
/- A small machine for calls that take no memory from outside: it runs a function's text on a heap of its own. That what it answers is what the call answers is proved in the texts behind this one. -/
import Derived.WalkKit
namespace Go.Proofs.Ytkncaafjkoeijaa.Eng
open Go

/-- A table by numbers. -/
inductive Tr (α : Type) where
  | e
  | n (v : Option α) (l r : Tr α)

def Tr.get {α : Type} : Tr α → Nat → Option α
  | .e, _ => none
  | .n v l r, i => bif Nat.beq i 0 then v else bif Nat.beq (i % 2) 1 then l.get (i / 2) else r.get (i / 2 - 1)

def Tr.put {α : Type} : Nat → Tr α → Nat → Option α → Tr α
  | 0, t, _, _ => t
  | f + 1, .e, i, x => bif Nat.beq i 0 then .n x .e .e else bif Nat.beq (i % 2) 1 then .n none (Tr.put f .e (i / 2) x) .e else .n none .e (Tr.put f .e (i / 2 - 1) x)
  | f + 1, .n v l r, i, x => bif Nat.beq i 0 then .n x l r else bif Nat.beq (i % 2) 1 then .n v (Tr.put f l (i / 2) x) r else .n v l (Tr.put f r (i / 2 - 1) x)

def Tr.set {α : Type} (t : Tr α) (i : Nat) (x : Option α) : Tr α := Tr.put (i + 1) t i x

def evens {α : Type} : List α → List α
  | [] => []
  | [x] => [x]
  | x :: _ :: l => x :: evens l
def odds {α : Type} : List α → List α
  | [] => []
  | [_] => []
  | _ :: y :: l => y :: odds l
def Tr.ofF {α : Type} : Nat → List α → Tr α
  | 0, _ => .e
  | _ + 1, [] => .e
  | f + 1, x :: l => .n (some x) (Tr.ofF f (evens l)) (Tr.ofF f (odds l))
def Tr.of {α : Type} (l : List α) : Tr α := Tr.ofF (l.length + 1) l

/-- A program, its types and its functions by number. -/
structure Env where
  P : Program
  info : Tr TypeInfo
  fns : Tr Func

def Env.und (E : Env) (t : TypeId) : Option TypeDesc :=
  match E.info.get t with
  | some i => (match i.desc with
    | .named _ u => (match E.info.get u with | some j => some j.desc | none => none)
    | d => some d)
  | none => none

def Env.of (P : Program) : Env := ⟨P, Tr.of P.types.toList, Tr.of P.funcs.toList⟩

/-- What nothing is known of. -/
def bot : Value := .chan (some 0)
def isBot : Value → Bool
  | .chan (some _) => true
  | _ => false

/-- What one cell can hold. -/
def isCell : Value → Bool
  | .chan (some _) | .agg _ | .tuple _ => false
  | _ => true

/-- Values without an address. -/
def ground : Nat → Value → Bool
  | 0, _ => false
  | d + 1, v => match v with
    | .bool _ | .int _ _ | .float _ _ | .complex _ _ _ | .string _ | .nilFunc | .nilIface => true
    | .pointer none | .map none | .chan none => true
    | .slice none n c => Nat.beq n 0 && Nat.beq c 0
    | .iface _ v => ground d v
    | .agg cs => cs.toList.all (ground d)
    | .tuple cs => cs.toList.all (ground d)
    | .func _ a b => a.toList.all (ground d) && b.toList.all (ground d)
    | _ => false

/-- What is in memory: a row of cells (what was written; what stood there at first, again and again), and, if it can grow where it is, the size of its elements. -/
inductive LObj where
  | cells (n : Nat) (c : Tr Value) (z : List Value) (zn : Nat) (es : Nat)
  | map (es : List MapEntry) (clock : Nat)
  | siter (s : ByteArray) (pos : Nat)

structure LS where
  h : Tr LObj
  nx : Nat
  low : Nat

def nth : List Value → Nat → Value
  | [], _ => bot
  | v :: l, i => bif Nat.beq i 0 then v else nth l (i - 1)

def cellAt (c : Tr Value) (z : List Value) (zn k : Nat) : Value :=
  match c.get k with
  | some v => v
  | none => nth z (k % zn)

def LS.load (s : LS) (b o : Nat) : Option Value :=
  match s.h.get b with
  | some (.cells n c z zn _) => bif Nat.blt o n then some (cellAt c z zn o) else none
  | _ => none

def LS.loads (s : LS) (b : Nat) : Nat → Nat → Option (List Value)
  | _, 0 => some []
  | o, n + 1 => match s.load b o with
    | some v => match LS.loads s b (o + 1) n with
      | some l => some (v :: l)
      | none => none
    | none => none

def LS.store (s : LS) (b o : Nat) (v : Value) : Option LS :=
  match s.h.get b with
  | some (.cells n c z zn es) => bif Nat.blt o n && isCell v then some ⟨s.h.set b (some (.cells n (c.set o (some v)) z zn es)), s.nx, bif Nat.blt b s.low then b else s.low⟩ else none
  | _ => none

def LS.stores (s : LS) (b : Nat) : Nat → List Value → Option LS
  | _, [] => some s
  | o, v :: l => match s.store b o v with
    | some s => s.stores b (o + 1) l
    | none => none

def LS.new (s : LS) (o : LObj) : Nat × LS := (s.nx, ⟨s.h.set s.nx (some o), s.nx + 1, s.low⟩)
/-- A row of these cells. -/
def LS.row (s : LS) (l : List Value) (es : Nat) : Value × LS :=
  (.pointer (some ⟨s.nx, 0, none⟩), ⟨s.h.set s.nx (some (.cells l.length .e l l.length es)), s.nx + 1, s.low⟩)

def lev (t : Tr Value) : Operand → Value
  | .tmp i => match t.get i with | some v => v | none => undef
  | .const v => bif ground 4 v then v else bot
  | .global _ => bot
  | .func f => .func (.func f) #[] #[]

def pureRun {α : Type} (P : Program) : Sem α → Option α
  | .pure a => some a
  | .program k => pureRun P (k P)
  | _ => none

def pureG (P : Program) (s : Sem Value) : Option Value :=
  match pureRun P s with
  | some v => bif ground 4 v then some v else none
  | none => none

def isAggT (E : Env) (t : TypeId) : Bool :=
  match E.und t with
  | some (.struct _) => true
  | some (.array _ _) => true
  | _ => false

def sizeT (E : Env) (t : TypeId) : Nat := match E.info.get t with | some i => i.size | none => 0
def zeroT (E : Env) (t : TypeId) : Option (List Value) := match E.info.get t with | some i => (match i.zero with | some v => bif v.cells.toList.all (ground 4) && v.cells.toList.all isCell then some v.cells.toList else none | none => none) | none => none
def bytesT (E : Env) (t : TypeId) : Nat := match E.info.get t with | some i => i.bytes | none => 0
def okT (E : Env) (t : TypeId) : Bool := (E.info.get t).isSome && (E.und t).isSome

/-- An address of the heap's own. -/
def addrOf : Value → Option (Nat × Nat)
  | .pointer (some ⟨b, o, none⟩) => some (b, o)
  | _ => none

def loadVarL (E : Env) (s : LS) (t : TypeId) (b o : Nat) : Option Value :=
  bif okT E t then
    bif isAggT E t then match s.loads b o (sizeT E t) with
      | some l => some (.agg l.toArray)
      | none => none
    else s.load b o
  else none

def storeVarL (E : Env) (s : LS) (t : TypeId) (b o : Nat) (v : Value) : Option LS :=
  bif okT E t && Nat.beq v.cells.size (sizeT E t) && !isBot v then s.stores b o v.cells.toList else none

def noBot (l : List Value) : Bool := l.all fun v => !isBot v

def partL (E : Env) (t : TypeId) (cs : Array Value) (off : Nat) : Option Value :=
  bif okT E t then
    bif isAggT E t then some (.agg (cs.extract off (off + sizeT E t))) else cs[off]?
  else none

def buildL (E : Env) (t : TypeId) (parts : List (Nat × Value)) : Option Value :=
  bif noBot (parts.map (·.2)) then
    match zeroT E t, E.und t with
    | some zero, some (.struct fields) =>
      match Instr.fill ((fields.map fun f => (f.offset, sizeT E f.type))[·]?) zero.toArray parts with
      | some cells => bif fields.toList.all (fun f => (E.info.get f.type).isSome) then some (.agg cells) else none
      | none => none
    | some zero, some (.array _ elem) =>
      match Instr.fill (fun i => some (i * sizeT E elem, sizeT E elem)) zero.toArray parts with
      | some cells => bif (E.info.get elem).isSome then some (.agg cells) else none
      | none => none
    | _, _ => none
  else none

/-- The zeros of n elements. -/
def zeros (z : List Value) : Nat → List Value
  | 0 => []
  | n + 1 => z ++ zeros z n

def natOf : Value → Option Nat
  | .int _ (.ofNat n) => some n
  | _ => none

def boundL (v : Value) (y : Nat) : Option Nat :=
  match natOf v with
  | some m => bif Nat.ble m y then some m else none
  | none => none

def sliceB (len cap : Nat) (lo hi mx : Option Value) : Option (Nat × Nat × Nat) :=
  (match mx with | some v => boundL v cap | none => some cap).bind fun m =>
  (match hi, mx with | some v, _ => boundL v m | none, none => some len | none, some _ => none).bind fun h =>
  (match lo with | some v => boundL v h | none => some 0).bind fun l => some (l, h, m)

/-- The element size of a row that can grow; 0. -/
def LS.grows (s : LS) (b : Nat) : Option Nat := match s.h.get b with | some (.cells _ _ _ _ es) => some es | _ => none

def LS.fits (s : LS) (b n : Nat) : Bool := match s.grows b with | some es => Nat.beq es 0 || Nat.beq es n | none => false
def LS.exact (s : LS) (b : Nat) : Bool := match s.grows b with | some es => Nat.beq es 0 | none => false

def bytesOf : List Value → Option (List UInt8)
  | [] => some []
  | .int .u8 n :: l => match bytesOf l with | some r => some (UInt8.ofNat n.toNat :: r) | none => none
  | _ => none

def intOp (op : BinOp) (k : IntKind) (a b : Int) : Option Value :=
  match op with
  | .add => some (.int k (k.wrap (a + b)))
  | .sub => some (.int k (k.wrap (a - b)))
  | .mul => some (.int k (k.wrap (a * b)))
  | .eql => some (.bool (a == b))
  | .neq => some (.bool (a != b))
  | .lss => some (.bool (a < b))
  | .leq => some (.bool (a ≤ b))
  | .gtr => some (.bool (a > b))
  | .geq => some (.bool (a ≥ b))
  | _ => none

def sameKind (j k : IntKind) : Bool := decide (j = k)

def nilEq (E : Env) (t : TypeId) (x y : Value) : Option Bool :=
  match E.und t, x, y with
  | some (.pointer _), .pointer (some _), .pointer none => some false
  | some (.pointer _), .pointer none, .pointer (some _) => some false
  | some (.slice _), .slice (some _) _ _, .slice none _ _ => some false
  | some (.slice _), .slice none _ _, .slice (some _) _ _ => some false
  | some (.map _ _), .map (some _), .map none => some false
  | some (.map _ _), .map none, .map (some _) => some false
  | some (.func _ _ _), .nilFunc, .func _ _ _ => some false
  | some (.func _ _ _), .func _ _ _, .nilFunc => some false
  | some (.interface _), .nilIface, .iface _ _ => some false
  | some (.interface _), .iface _ _, .nilIface => some false
  | some (.pointer e), .pointer (some ⟨a, i, none⟩), .pointer (some ⟨b, j, none⟩) => bif Nat.beq (sizeT E e) 0 || !Nat.beq a b then none else some (Nat.beq i j)
  | _, _, _ => none

def binL (E : Env) (op : BinOp) (t : TypeId) (x y : Operand) (a b : Value) : Option Value :=
  match (match a, b with
    | .int j m, .int k n => bif sameKind j k then intOp op j m n else none
    | _, _ => none) with
  | some v => some v
  | none =>
    bif ground 4 a && ground 4 b then pureG E.P (do eqGuard op t x y a b; binOp op t a b)
    else match op with
      | .eql => match nilEq E t a b with | some r => some (.bool r) | none => none
      | .neq => match nilEq E t a b with | some r => some (.bool !r) | none => none
      | _ => none

/-- An operation that leaves memory: what it gives. -/
def pureL (E : Env) (t : Tr Value) (o : Op) : Option Value :=
  match o with
  | .move x => some (lev t x)
  | .assign x => some (lev t x)
  | .pick c a b => match lev t c with
    | .bool true => some (lev t a)
    | .bool false => some (lev t b)
    | _ => none
  | .build ty parts => buildL E ty (parts.toList.map fun p => (p.1, lev t p.2))
  | .nilCheck x => match lev t x with
    | .pointer (some a) => some (.pointer (some a))
    | .func (.func f) a b => some (.func (.func f) a b)
    | .iface d v => some (.iface d v)
    | _ => none
  | .binOp op ty x y _ => binL E op ty x y (lev t x) (lev t y)
  | .unOp op _ x => bif ground 4 (lev t x) then pureG E.P (Op.unary op (lev t x)) else none
  | .convert src dst x => match lev t x with
    | .int k n => pureG E.P (convert src dst (.int k n))
    | .string s => match E.und src, E.und dst with | some _, some .string => some (.string s) | _, _ => none
    | _ => none
  | .makeInterface ty x => match E.und ty with
    | some (.interface _) => none
    | some _ => some (.iface ty (lev t x))
    | none => none
  | .makeFunc fn a b => some (.func fn (a.map (lev t)) (b.map (lev t)))
  | .slice ty x lo hi mx => match E.und ty, lev t x with
    | some (.array n elem), .pointer (some ⟨b, o, none⟩) =>
      match sliceB n n (lo.map (lev t)) (hi.map (lev t)) (mx.map (lev t)) with
      | some (l, h, m) => bif (E.info.get elem).isSome then some (.slice (some ⟨b, bif Nat.beq m l then o else o + l * sizeT E elem, none⟩) (h - l) (m - l)) else none
      | none => none
    | some .string, .string str =>
      match mx with
      | some _ => none
      | none => match sliceB str.size str.size (lo.map (lev t)) (hi.map (lev t)) none with
        | some (l, h, _) => some (.string (str.extract l h))
        | none => none
    | _, _ => none
  | .fieldAddr sty x f => match E.und sty, addrOf (lev t x) with
    | some (.struct fields), some (b, o) => match fields[f]? with
      | some fd => bif Nat.beq (sizeT E fd.type) 0 then none else some (.pointer (some ⟨b, o + fd.offset, none⟩))
      | none => none
    | _, _ => none
  | .field ty x f => match E.und ty, lev t x with
    | some (.struct fields), .agg cs => match fields[f]? with
      | some fd => partL E fd.type cs fd.offset
      | none => none
    | _, _ => none
  | .indexAddr ty x ix => match E.und ty, lev t x, natOf (lev t ix) with
    | some (.array n elem), .pointer (some ⟨b, o, none⟩), some i => bif Nat.blt i n && (E.info.get elem).isSome then some (.pointer (some ⟨b, o + i * sizeT E elem, none⟩)) else none
    | some (.slice elem), .slice (some ⟨b, o, none⟩) n _, some i => bif Nat.blt i n && (E.info.get elem).isSome then some (.pointer (some ⟨b, o + i * sizeT E elem, none⟩)) else none
    | _, _, _ => none
  | .index ty x ix => match E.und ty, lev t x, natOf (lev t ix) with
    | some (.array n elem), .agg cs, some i => bif Nat.blt i n then partL E elem cs (i * sizeT E elem) else none
    | some .string, .string s, some i => match s[i]? with
      | some b => some (.int .u8 b.toNat)
      | none => none
    | _, _, _ => none
  | .extract x i => match lev t x with
    | .tuple vs => vs[i]?
    | _ => none
  | .sliceToArrayPointer ty x => match E.und ty, lev t x with
    | some (.array n _), .slice (some a) len cap => bif Nat.ble n len && !Nat.beq cap 0 then some (.pointer (some a)) else none
    | _, _ => none
  | .call { callee := .builtin .len, args, argTypes } => match args[0]?, argTypes[0]? with
    | some x, some ty => match E.und ty, lev t x with
      | some .string, .string s => some (.int .i64 s.size)
      | some (.array n _), _ => some (.int .i64 n)
      | some (.slice _), .slice _ n _ => some (.int .i64 n)
      | some (.map _ _), .map none => some (.int .i64 0)
      | _, _ => none
    | _, _ => none
  | .call { callee := .builtin .min, args, argTypes } => bif args.toList.all (fun x => ground 4 (lev t x)) then pureG E.P (Builtin.min_ argTypes 0 (args.map (lev t))) else none
  | .call { callee := .builtin .max, args, argTypes } => bif args.toList.all (fun x => ground 4 (lev t x)) then pureG E.P (Builtin.max_ argTypes 0 (args.map (lev t))) else none
  | _ => none

def die : LObj := .siter .empty 0

/-- append: a row that is known to have room takes it; else there is a new row, and the old one, if it could grow where it is, is gone. -/
def appendL (s : LS) (size : Nat) (x : Value) (new : List Value) (n : Nat) : Option (Value × LS) :=
  match x with
  | .slice none len cap => bif !(Nat.beq len 0 && Nat.beq cap 0) then none else bif Nat.beq n 0 then some (.slice none 0 0, s) else
      some (.slice (some ⟨s.nx, 0, none⟩) n n, ⟨s.h.set s.nx (some (.cells new.length .e new new.length size)), s.nx + 1, s.low⟩)
  | .slice (some ⟨b, o, none⟩) len cap =>
    bif Nat.ble (len + n) cap then
      match s.stores b (o + len * size) new with
      | some s => some (.slice (some ⟨b, o, none⟩) (len + n) cap, s)
      | none => none
    else bif !(Nat.ble len 1000000) then none else match s.loads b o (len * size), s.grows b with
      | some old, some es =>
        bif Nat.beq es 0 then some (.slice (some ⟨s.nx, 0, none⟩) (len + n) (len + n), ⟨s.h.set s.nx (some (.cells (old ++ new).length .e (old ++ new) (old ++ new).length size)), s.nx + 1, s.low⟩)
        else bif Nat.beq es size && new.all isCell then
          some (.slice (some ⟨s.nx, 0, none⟩) (len + n) (len + n), ⟨(s.h.set b none).set s.nx (some (.cells (old ++ new).length .e (old ++ new) (old ++ new).length es)), s.nx + 1, bif Nat.blt b s.low then b else s.low⟩)
        else none
      | _, _ => none
  | _ => none

/-- The type's parts that an append looks at are in order. -/
def okApp (E : Env) (elem : TypeId) (z : List Value) (n : Nat) : Bool :=
  Nat.ble n 1000000 && Nat.ble (bytesT E elem) 1000000 && Nat.beq z.length (sizeT E elem) && !Nat.beq z.length 0

/-- The cells of the first n elements. -/
def srcL (s : LS) (size n : Nat) : Value → Option (List Value)
  | .slice (some ⟨b, o, none⟩) _ _ => s.loads b o (n * size)
  | .slice none _ _ => some []
  | .string str => some ((str.extract 0 n).data.toList.map fun b => .int .u8 b.toNat)
  | _ => none

def lenL : Value → Option Nat
  | .slice _ n _ => some n
  | .string s => some s.size
  | _ => none

/-- An operation that is no call of a function. -/
def opL (E : Env) (s : LS) (t : Tr Value) (o : Op) : Option (Value × LS) :=
  match o with
  | .alloc e => match zeroT E e with
    | some z => some (s.row z 0)
    | none => none
  | .box _ x => bif isBot (lev t x) then none else some (s.row (lev t x).cells.toList 0)
  | .buildSlice ty len parts => match E.und ty with
    | some (.slice elem) => match zeroT E elem with
      | some z =>
        bif Nat.ble (len * sizeT E elem) 1000000 && Nat.beq z.length (sizeT E elem) && (E.info.get elem).isSome && noBot (parts.toList.map fun p => lev t p.2) then
          match Instr.fill (fun i => some (i * sizeT E elem, sizeT E elem)) (zeros z len).toArray (parts.toList.map fun p => (p.1, lev t p.2)) with
          | some cells => some (.slice (some ⟨s.nx, 0, none⟩) len len, (s.row cells.toList 0).2)
          | none => none
        else none
      | none => none
    | _ => none
  | .load ty a => match addrOf (lev t a) with
    | some (b, o) => match loadVarL E s ty b o with
      | some v => some (v, s)
      | none => none
    | none => none
  | .store ty a x => match addrOf (lev t a) with
    | some (b, o) => match storeVarL E s ty b o (lev t x) with
      | some s => some (undef, s)
      | none => none
    | none => none
  | .convert src dst x => match lev t x with
    | .slice none _ _ => match E.und src, E.und dst with
      | some (.slice e), some .string => match E.und e with
        | some (.int .u8) => some (.string .empty, s)
        | _ => none
      | _, _ => none
    | .slice (some ⟨b, o, none⟩) n _ => match E.und src, E.und dst with
      | some (.slice e), some .string => match E.und e, s.loads b o n with
        | some (.int .u8), some l => match bytesOf l with
          | some bs => some (.string ⟨bs.toArray⟩, s)
          | none => none
        | _, _ => none
      | _, _ => none
    | _ => match pureL E t o with
      | some v => some (v, s)
      | none => none
  | .slice ty x lo hi mx => match E.und ty, lev t x with
    | some (.slice elem), .slice a len cap =>
      match sliceB len cap (lo.map (lev t)) (hi.map (lev t)) (mx.map (lev t)), a with
      | some (l, h, m), some ⟨b, o, none⟩ =>
        bif (E.info.get elem).isSome && s.fits b (sizeT E elem) then
          some (.slice (some ⟨b, bif Nat.beq m l then o else o + l * sizeT E elem, none⟩) (h - l) (m - l), s) else none
      | some (_, _, _), none => bif (E.info.get elem).isSome then some (.slice none 0 0, s) else none
      | _, _ => none
    | _, _ => match pureL E t o with
      | some v => some (v, s)
      | none => none
  | .makeSlice ty l c => match E.und ty, natOf (lev t l), natOf (lev t c) with
    | some (.slice elem), some l, some c => match zeroT E elem with
      | some z => bif Nat.ble l c && Nat.ble c 1000000 && Nat.ble (bytesT E elem) 1000000 && Nat.beq z.length (sizeT E elem) && (E.info.get elem).isSome then
          some (.slice (some ⟨s.nx, 0, none⟩) l c, ⟨s.h.set s.nx (some (.cells (c * sizeT E elem) .e z z.length 0)), s.nx + 1, s.low⟩) else none
      | none => none
    | _, _, _ => none
  | .call { callee := .builtin .append, args, argTypes } => match args[0]?, args[1]?, argTypes[0]?, argTypes[1]? with
    | some x, some y, some tx, some ty => match E.und tx, E.und ty with
      | some (.slice elem), some (.int _) => match natOf (lev t y), zeroT E elem with
        | some n, some z => bif okApp E elem z n && !Nat.beq n 0 then
            match lev t x with
            | .slice none 0 0 => some (.slice (some ⟨s.nx, 0, none⟩) n n, ⟨s.h.set s.nx (some (.cells (n * sizeT E elem) .e z z.length (sizeT E elem))), s.nx + 1, s.low⟩)
            | _ => appendL s (sizeT E elem) (lev t x) (zeros z n) n
          else none
        | _, _ => none
      | some (.slice elem), some _ => match lenL (lev t y), zeroT E elem with
        | some n, some z => bif okApp E elem z n then
            match srcL s (sizeT E elem) n (lev t y) with
            | some new => bif Nat.beq new.length (n * sizeT E elem) then appendL s (sizeT E elem) (lev t x) new n else none
            | none => none
          else none
        | _, _ => none
      | _, _ => none
    | _, _, _, _ => none
  | .call { callee := .builtin .cap, args, argTypes } => match args[0]?, argTypes[0]? with
    | some x, some ty => match E.und ty, lev t x with
      | some (.slice _), .slice none _ c => some (.int .i64 c, s)
      | some (.slice _), .slice (some a) _ c => bif s.exact a.block then some (.int .i64 c, s) else none
      | some (.array n _), _ => some (.int .i64 n, s)
      | _, _ => none
    | _, _ => none
  | .call { callee := .builtin .copy, args, argTypes } => match args[0]?, args[1]?, argTypes[0]? with
    | some x, some y, some tx => match E.und tx, lev t x, lenL (lev t y) with
      | some (.slice elem), .slice a len _, some m =>
        bif !(E.info.get elem).isSome then none else bif Nat.beq (Nat.min m len) 0 then some (.int .i64 0, s) else
        match srcL s (sizeT E elem) (Nat.min m len) (lev t y), a with
        | some cells, some ⟨b, o, none⟩ => match s.stores b o cells with
            | some s => some (.int .i64 (Nat.min m len), s)
            | none => none
        | _, _ => none
      | _, _, _ => none
    | _, _, _ => none
  | .call { callee := .builtin .clear, args, argTypes } => match args[0]?, argTypes[0]? with
    | some x, some tx => match E.und tx, lev t x with
      | some (.slice elem), .slice (some ⟨b, o, none⟩) n _ => match zeroT E elem with
        | some z => match s.h.get b with
          | some (.cells len _ _ _ es) => bif Nat.beq n 0 then some (.tuple #[], s) else bif Nat.beq o 0 && Nat.beq (n * sizeT E elem) len && Nat.beq z.length (sizeT E elem) && !Nat.beq z.length 0 then
              some (.tuple #[], ⟨s.h.set b (some (.cells len .e z z.length es)), s.nx, bif Nat.blt b s.low then b else s.low⟩)
            else none
          | _ => none
        | none => none
      | some (.slice _), .slice none _ _ => some (.tuple #[], s)
      | _, _ => none
    | _, _ => none
  | _ => match pureL E t o with
    | some v => some (v, s)
    | none => none

/-- What comes out: an answer, or where it stopped (for whoever looks for the reason). -/
inductive Out (α : Type) where
  | ok (a : α)
  | bad (l : List Nat)

inductive LX where
  | normal
  | exit (id : Nat)
  | ret

/-- What is called. -/
def calleeL (t : Tr Value) (o : Op) : Option (FuncId × List Value) :=
  match o with
  | .call { callee := .value f, args, .. } => match lev t f with
    | .func (.func g) a b => some (g, a.toList ++ (args.toList.map (lev t) ++ b.toList))
    | _ => none
  | _ => none

def putL (t : Tr Value) (d : Option Nat) (v : Value) : Tr Value :=
  match d with
  | some d => t.set d (some v)
  | none => t

def dstOk (nt : Nat) : Option Nat → Bool
  | some d => Nat.blt d nt
  | none => true

def wantedL (ops : Array Oper) (t : Tr Value) (g : Option (Nat × Bool)) : Option Bool :=
  match g with
  | none => some true
  | some (j, want) => match ops[j]? with
    | some oj => match oj.dst with
      | some d => match t.get d with
        | some (.bool b) => some (b == want)
        | some v => bif isBot v then none else some false
        | none => some false
      | none => some false
    | none => some false

def frameL : Nat → List Value → Tr Value
  | _, [] => .e
  | i, v :: l => (frameL (i + 1) l).set i (some v)

def resultsL (E : Env) (s : LS) (t : Tr Value) : List ResultVar → Option (List Value)
  | [] => some []
  | .tmp i :: l => match resultsL E s t l with | some r => some (lev t (.tmp i) :: r) | none => none
  | .cell a ty :: l => match addrOf (lev t (.tmp a)) with
    | some (b, o) => match loadVarL E s ty b o, resultsL E s t l with
      | some v, some r => some (v :: r)
      | _, _ => none
    | none => none

def resultL (l : List Value) : Value := match l with | [v] => v | l => .tuple l.toArray

/-- On which operations of its region each one waits, as a number of bits. -/
def masks : List Oper → List Nat → List Nat
  | [], acc => acc
  | o :: l, acc => masks l (acc ++ [o.after.toList.foldl (fun m e => bif Region.binds .any e then m ||| 2 ^ e.on ||| acc.getD e.on 0 else m) 0])

def tmpsOf (ops : List Oper) (o : Oper) : List Tmp := Oper.looksAt ops.toArray o

/-- Which operation writes a slot: all of them. -/
def writers (d : Tmp) : List Oper → Nat → List Nat
  | [], _ => []
  | o :: l, j => match o.dst with
    | some e => bif Nat.beq e d then j :: writers d l (j + 1) else writers d l (j + 1)
    | none => writers d l (j + 1)

/-- Each operation waits for what it looks at, and no two write one slot; what it waits for stands before it. -/
def sound (ops : List Oper) (ms : List Nat) : List Oper → Nat → Bool
  | [], _ => true
  | o :: l, j =>
    (tmpsOf ops o).all (fun d => (writers d ops 0).all fun k => Nat.testBit (ms.getD j 0) k) &&
    (match o.dst with | some d => (writers d ops 0).all (fun k => Nat.beq k j) | none => true) &&
    o.after.toList.all (fun e => !Region.binds .any e || Nat.blt e.on j) && sound ops ms l (j + 1)

/-- Everything else comes before it, or behind it. -/
def isBar (n : Nat) (ms : List Nat) (j : Nat) : Bool :=
  (List.range n).all fun k => Nat.beq k j || bif Nat.blt k j then Nat.testBit (ms.getD j 0) k else Nat.testBit (ms.getD k 0) j

/-- For each operation: what it waits for, and whether all others are before it or behind it. -/
def plan (ops : List Oper) : Option (List (Nat × Bool)) :=
  let ms := masks ops []
  bif sound ops ms ops 0 then some ((List.range ops.length).map fun j => (ms.getD j 0, isBar ops.length ms j)) else none

/-- The rows from a number on, laid on a heap. -/
def merge (h h' : Tr LObj) : Nat → Nat → Tr LObj
  | _, 0 => h
  | i, n + 1 => merge (h.set i (h'.get i)) h' (i + 1) n

def big : Nat := 2 ^ 60

mutual
def execL (E : Env) : Nat → Nat → Code → Tr Value → LS → Out (LX × Tr Value × LS)
  | 0, _, _, _, _ => .bad [1]
  | f + 1, nt, c, t, s => match c with
    | .skip => .ok (.normal, t, s)
    | .label _ => .ok (.normal, t, s)
    | .exit id => .ok (.exit id, t, s)
    | .ret => .ok (.ret, t, s)
    | .seq a b => match execL E f nt a t s with
      | .ok (.normal, t, s) => execL E f nt b t s
      | r => r
    | .cond x a b => match lev t x with
      | .bool true => execL E f nt a t s
      | .bool false => execL E f nt b t s
      | _ => .bad [2]
    | .block id a => match execL E f nt a t s with
      | .ok (.exit j, t, s) => bif Nat.beq j id then .ok (.normal, t, s) else .ok (.exit j, t, s)
      | r => r
    | .loop a => match execL E f nt a t s with
      | .ok (.normal, t, s) => execL E f nt (.loop a) t s
      | r => r
    | .region id ops false => match opsL E f nt ops ops.toList t s with
      | .ok (t, s) => .ok (.normal, t, s)
      | .bad l => .bad ((1000 + id) :: l)
    | .region id ops true => match plan ops.toList with
      | some pl => match drawL E f nt ops ops.toList pl t s s.h 0 0 with
        | .ok (t, s) => .ok (.normal, t, s)
        | .bad l => .bad ((1000 + id) :: l)
      | none => .bad [1000 + id, 13]
    | _ => .bad [3]
def opsL (E : Env) : Nat → Nat → Array Oper → List Oper → Tr Value → LS → Out (Tr Value × LS)
  | 0, _, _, _, _, _ => .bad [4]
  | _ + 1, _, _, [], t, s => .ok (t, s)
  | f + 1, nt, ops, o :: l, t, s => match wantedL ops t o.guard with
    | none => .bad [5, l.length]
    | some false => bif dstOk nt o.dst then opsL E f nt ops l (putL t o.dst undef) s else .bad [6]
    | some true =>
      bif dstOk nt o.dst then
        match actL E f s t o.op with
        | .ok (v, s) => opsL E f nt ops l (putL t o.dst v) s
        | .bad w => .bad (l.length :: w)
      else .bad [6]
/-- A region that draws its order, in the order of the text: 'hb': the heap behind the last operation that all others are before or behind; 'mk': which ones have made something since. -/
def drawL (E : Env) : Nat → Nat → Array Oper → List Oper → List (Nat × Bool) → Tr Value → LS → Tr LObj → Nat → Nat → Out (Tr Value × LS)
  | 0, _, _, _, _, _, _, _, _, _ => .bad [14]
  | _ + 1, _, _, [], _, t, s, _, _, _ => .ok (t, s)
  | _ + 1, _, _, _ :: _, [], _, _, _, _, _ => .bad [15]
  | f + 1, nt, ops, o :: l, (m, bar) :: pl, t, s, hb, mk, j =>
    bif !dstOk nt o.dst then .bad [6] else
    match wantedL ops t o.guard with
    | none => .bad [5, l.length]
    | some false => drawL E f nt ops l pl (putL t o.dst undef) s hb mk (j + 1)
    | some true => bif bar then
        match actL E f s t o.op with
        | .ok (v, s) => drawL E f nt ops l pl (putL t o.dst v) s s.h 0 (j + 1)
        | .bad w => .bad ((2000 + l.length) :: w)
      else bif Nat.beq (mk &&& m) mk then
        match actL E f ⟨s.h, s.nx, big⟩ t o.op with
        | .ok (v, s1) => bif Nat.ble s.nx s1.low && Nat.blt s.nx big then drawL E f nt ops l pl (putL t o.dst v) ⟨s1.h, s1.nx, s.low⟩ hb (bif Nat.beq s1.nx s.nx then mk else mk ||| 2 ^ j) (j + 1) else .bad [16, l.length]
        | .bad w => .bad ((3000 + l.length) :: w)
      else
        match actL E f ⟨hb, s.nx, big⟩ t o.op with
        | .ok (v, s1) => bif Nat.ble s.nx s1.low && Nat.blt s.nx big then drawL E f nt ops l pl (putL t o.dst v) ⟨merge s.h s1.h s.nx (s1.nx - s.nx), s1.nx, s.low⟩ hb (bif Nat.beq s1.nx s.nx then mk else mk ||| 2 ^ j) (j + 1) else .bad [17, l.length]
        | .bad w => .bad ((4000 + l.length) :: w)
/-- One operation. -/
def actL (E : Env) : Nat → LS → Tr Value → Op → Out (Value × LS)
  | 0, _, _, _ => .bad [18]
  | f + 1, s, t, o => match calleeL t o with
    | some (g, args) => match callL E f g args s with
      | .ok (v, s) => .ok (v, s)
      | .bad w => .bad ((100000 + g) :: w)
    | none => match opL E s t o with
      | some (v, s) => .ok (v, s)
      | none => .bad [7]
def callL (E : Env) : Nat → FuncId → List Value → LS → Out (Value × LS)
  | 0, _, _, _ => .bad [8]
  | f + 1, g, args, s => match E.fns.get g with
    | some fn => match fn.body with
      | some c => match execL E f (Nat.max args.length fn.ntmps) c (frameL 0 args) s with
        | .ok (.normal, t, s) => match resultsL E s t fn.results.toList with | some l => .ok (resultL l, s) | none => .bad [9]
        | .ok (.ret, t, s) => match resultsL E s t fn.results.toList with | some l => .ok (resultL l, s) | none => .bad [9]
        | .ok _ => .bad [10]
        | .bad l => .bad l
      | none => .bad [11]
    | none => .bad [12]
end

def runL (E : Env) (fuel : Nat) (g : FuncId) (args : List Value) : Out Value :=
  match callL E fuel g args ⟨.e, 0, 0⟩ with
  | .ok (v, _) => .ok v
  | .bad l => .bad l

def isTrue : Out Value → Bool
  | .ok (.bool true) => true
  | _ => false
def why : Out Value → List Nat
  | .ok (.bool true) => [0]
  | .ok _ => [1]
  | .bad l => l

end Go.Proofs.Ytkncaafjkoeijaa.Eng
