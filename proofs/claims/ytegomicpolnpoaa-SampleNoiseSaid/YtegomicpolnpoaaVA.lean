/- A machine that runs a call whose values are known: what it is; what its states stand for; what it reads and makes. -/
import Derived.Orders
import Derived.Below
import Derived.Laws.Sem
import Derived.Laws.Cells
import Derived.Laws.Slices
import Derived.Laws.Pointers
import Derived.WalkSpells
import Derived.LaidEql
import Derived.MapKept
import Derived.Laws.IdiomStrings

/- EvA: A machine that runs a call whose values are known, over memory of which the own blocks alone are known: its states and its steps. -/
namespace Go.Ev

/-- A known value: own blocks bear numbers of their own. -/
inductive SV where
  | bool (b : Bool)
  | int (k : IntKind) (n : Int)
  | str (s : ByteArray)
  | nilp | nils | nilm | nilf | nili
  | opq (k : Nat)
  | glob (g off : Nat)
  | ptr (b off : Nat)
  | slice (b off len cap : Nat)
  | gslice (b off skip len : Nat)
  | map (b : Nat)
  | func (fn : FuncId) (first caps : List SV)
  | yield (b : Nat)
  | meth (name : String) (t : TypeId) (k : IntKind) (n : Int)
  | iface (t : TypeId) (v : SV)
  | agg (l : List SV)
  | tuple (l : List SV)

/-- A deferred call. -/
inductive SD where
  | fn (f : FuncId) (caps args : List SV)
  | coll (b : Nat)

inductive SO where
  | cells (c : List SV) (t : TypeId)
  | row (c : List SV) (t : TypeId)
  | map (es : List (SV × SV × Nat)) (clock : Nat)
  | siter (s : ByteArray) (pos : Nat)
  | loop (st : LoopState) (pend : Option Code) (fn : FuncId) (tmps : List SV) (params : Array Tmp) (assign body : Code) (defers : Nat)
  | defd (calls : Option (List SD))
  | gone

inductive SI where
  | code (c : Code)
  | inBlock (id : Nat)
  | inLoop (body : Code)
  | inScope (body : Code)
  | inReg (ops : Array Oper) (l : List Nat)
  | inDraw (ops : Array Oper) (done : Array Bool) (lag : List (Nat × Option Nat)) (pend : Option Nat)
  | inRF (l : Nat)
  | endRF (l : Nat)
  | beginRound

inductive SM where
  | run
  | ret
  | pan (l : List (SV × Bool))

structure SF where
  fn : FuncId
  tmps : List SV
  todo : List SI
  defers : List SD
  mode : SM
  kind : CallKind
  rnd : Option Nat

structure St where
  fr : SF
  cs : List SF
  H : List SO

def undefS : SV := .tuple []
def oneV : Value → Bool
  | .agg _ | .tuple _ | .bool _ => false
  | _ => true

def methS (name : String) (first caps : Array Value) : Option SV := match first.toList, caps.toList with
  | [.iface t (.int k n)], [] => some (.meth name t k n)
  | _, _ => none
/-- A plain value's leaves, known. -/
def leafS : Value → Option SV
  | .bool b => some (.bool b)
  | .int k n => some (.int k n)
  | .string s => some (.str s)
  | .pointer none => some .nilp
  | .slice none 0 0 => some .nils
  | .map none => some .nilm
  | .nilFunc => some .nilf
  | .nilIface => some .nili
  | .func (.func f) first caps => if first.isEmpty && caps.isEmpty then some (.func f [] []) else none
  | .func (.method name) first caps => methS name first caps
  | _ => none

def leavesS : List Value → Option (List SV)
  | [] => some []
  | v :: r => match leafS v, leavesS r with
    | some s, some l => some (s :: l)
    | _, _ => none

/-- A value without addresses, known. -/
def ofV : Value → Option SV
  | .agg cs => (leavesS cs.toList).map .agg
  | .tuple cs => match leavesS cs.toList with
    | some l => some (.tuple l)
    | none => match cs.toList with
      | [.agg a, v] => match leavesS a.toList, leafS v with
        | some l, some s => some (.tuple [.agg l, s])
        | _, _ => none
      | _ => none
  | .iface t (.agg cs) => (leavesS cs.toList).map fun l => .iface t (.agg l)
  | .iface t v => (leafS v).map (.iface t)
  | v => leafS v

def leafV : SV → Option Value
  | .bool b => some (.bool b)
  | .int k n => some (.int k n)
  | .str s => some (.string s)
  | .nilp => some (.pointer none)
  | .nils => some (.slice none 0 0)
  | .nilm => some (.map none)
  | .nilf => some .nilFunc
  | .nili => some .nilIface
  | .glob g off => some (.pointer (some ⟨g, off, none⟩))
  | .func f [] [] => some (.func (.func f) #[] #[])
  | .meth name t k n => some (.func (.method name) #[.iface t (.int k n)] #[])
  | _ => none

def leavesV : List SV → Option (List Value)
  | [] => some []
  | v :: r => match leafV v, leavesV r with
    | some s, some l => some (s :: l)
    | _, _ => none

/-- The value of a known one that bears no own block. -/
def toV : SV → Option Value
  | .agg l => (leavesV l).map fun l => .agg l.toArray
  | .tuple l => (leavesV l).map fun l => .tuple l.toArray
  | .iface t (.agg l) => (leavesV l).map fun l => .iface t (.agg l.toArray)
  | .iface t v => (leafV v).map (.iface t)
  | v => leafV v

/-- What an operation's parts that ask nothing of the world come to. -/
def quiet {α : Type} (P : Program) : Sem α → Option (Except Value α)
  | .pure a => some (.ok a)
  | .program k => quiet P (k P)
  | .mark _ k => quiet P k
  | .halt (.panic v) => some (.error v)
  | _ => none

def ev (tmps : List SV) : Operand → Option SV
  | .tmp t => some ((tmps[t]?).getD undefS)
  | .const v => ofV v
  | .global g => some (.glob g 0)
  | .func f => some (.func f [] [])

def pv (tmps : List SV) (x : Operand) : Value := (((ev tmps x).bind toV)).getD undef

def evs (tmps : List SV) : List Operand → Option (List SV)
  | [] => some []
  | x :: r => match ev tmps x, evs tmps r with
    | some s, some l => some (s :: l)
    | _, _ => none

def plainArgs (tmps : List SV) (l : List Operand) : Bool := l.all fun x => ((ev tmps x).bind toV).isSome

/-- One cell's value. -/
def oneS : SV → Bool
  | .agg _ | .tuple _ => false
  | _ => true

def cellsS : SV → List SV
  | .agg l => l
  | v => [v]

def sizeOfT (P : Program) (t : TypeId) : Option Nat := (P.info? t).map (·.size)
def isAggT (P : Program) (t : TypeId) : Option Bool := (P.underlying t).map fun d => match d with | .struct _ | .array _ _ => true | _ => false
def zeroS (P : Program) (t : TypeId) : Option SV := ((P.info? t).bind (·.zero)).bind ofV

def rowOf : SO → Option (List SV × TypeId)
  | .cells c t => some (c, t)
  | .row c t => some (c, t)
  | _ => none

/-- Cells of a block, as a variable of a type. -/
def cut (P : Program) (t : TypeId) (c : List SV) (off : Nat) : Option SV :=
  match isAggT P t, sizeOfT P t with
  | some true, some n => if off + n ≤ c.length then some (.agg ((c.drop off).take n)) else none
  | some false, some _ => c[off]?
  | _, _ => none

def loadS (P : Program) (G : Nat → List SV) (H : List SO) (t : TypeId) : SV → Option SV
  | .ptr b off => match (H[b]?).bind rowOf with
    | some (c, _) => cut P t c off
    | none => none
  | .glob g off => if (G g).isEmpty then none else cut P t (G g) off
  | _ => none

def fillS (place : Nat → Option (Nat × Nat)) (cells : List SV) : List (Nat × SV) → Option (List SV)
  | [] => some cells
  | (i, v) :: rest =>
    match place i with
    | none => none
    | some (off, size) =>
      if (cellsS v).length ≠ size || off + (cellsS v).length > cells.length then none
      else fillS place (cells.take off ++ cellsS v ++ cells.drop (off + (cellsS v).length)) rest

def partsS (tmps : List SV) : List (Nat × Operand) → Option (List (Nat × SV))
  | [] => some []
  | (i, x) :: r => match ev tmps x, partsS tmps r with
    | some s, some l => some ((i, s) :: l)
    | _, _ => none

def placesOf (P : Program) : List Field → Option (List (Nat × Nat))
  | [] => some []
  | f :: r => match sizeOfT P f.type, placesOf P r with
    | some n, some l => some ((f.offset, n) :: l)
    | _, _ => none

def buildS (P : Program) (t : TypeId) (parts : List (Nat × SV)) : Option SV :=
  match zeroS P t, P.underlying t with
  | some z, some (.struct fields) => match placesOf P fields.toList with
    | some places => (fillS (fun i => places[i]?) (cellsS z) parts).map .agg
    | none => none
  | some z, some (.array _ elem) => match sizeOfT P elem with
    | some size => (fillS (fun i => some (i * size, size)) (cellsS z) parts).map .agg
    | none => none
  | _, _ => none

def nilS : SV → Bool
  | .nilp | .nils | .nilm | .nilf | .nili => true
  | _ => false
/-- Neither nil nor plain. -/
def notNilS : SV → Bool
  | .ptr .. | .slice .. | .gslice .. | .map .. | .func .. | .iface .. => true
  | _ => false

def intS : SV → Option Int
  | .int _ n => some n
  | _ => none
def optInt (tmps : List SV) : Option Operand → Option (Option Nat)
  | none => some none
  | some x => match ev tmps x with
    | some (.int _ (.ofNat n)) => some (some n)
    | _ => none

def findS (k : SV) : List (SV × SV × Nat) → Option (Option (Nat × SV))
  | [] => some none
  | (x, v, _) :: r =>
    match k, x with
    | .int a n, .int b m => if a = b then (if n = m then some (some (0, v)) else (findS k r).map fun o => o.map fun p => (p.1 + 1, p.2)) else none
    | .str s, .str t => if s.data.toList = t.data.toList then some (some (0, v)) else (findS k r).map fun o => o.map fun p => (p.1 + 1, p.2)
    | _, _ => none

end Go.Ev

/- EvB: A machine that runs a call whose values are known: what an operation gives. -/
namespace Go.Ev

def partS (P : Program) (t : TypeId) (c : List SV) (off : Nat) : Option SV :=
  match isAggT P t, sizeOfT P t with
  | some true, some n => if off + n ≤ c.length then some (.agg ((c.drop off).take n)) else none
  | some false, some _ => c[off]?
  | _, _ => none

def addS (n : Nat) : SV → Option SV
  | .ptr b off => some (.ptr b (off + n))
  | .glob g off => some (.glob g (off + n))
  | _ => none

def fieldS (P : Program) (s : TypeId) (x : SV) (f : Nat) : Option SV :=
  match P.underlying s with
  | some (.struct fields) => match fields[f]? with
    | some fd => match sizeOfT P fd.type with
      | some (_ + 1) => addS fd.offset x
      | _ => none
    | none => none
  | _ => none

def indexS (P : Program) (t : TypeId) (x ix : SV) : Option SV :=
  match ix with
  | .int _ (.ofNat i) => match P.underlying t, x with
    | some (.array len elem), x => match sizeOfT P elem with
      | some n => if i < len then addS (i * n) x else none
      | none => none
    | some (.slice elem), .slice b off len _ => match sizeOfT P elem with
      | some n => if i < len then some (.ptr b (off + i * n)) else none
      | none => none
    | some (.slice elem), .gslice b off _ len => match sizeOfT P elem with
      | some n => if i < len then some (.ptr b (off + i * n)) else none
      | none => none
    | _, _ => none
  | _ => none

def atS (P : Program) (t : TypeId) (x ix : SV) : Option SV :=
  match ix, P.underlying t, x with
  | .int _ (.ofNat i), some (.array len elem), .agg cs => match sizeOfT P elem with
    | some n => if i < len then partS P elem cs (i * n) else none
    | none => none
  | _, _, _ => none

def sliceS (P : Program) (H : List SO) (t : TypeId) (x : SV) (lo hi : Option Nat) : Option SV :=
  match P.underlying t, x with
  | some (.slice elem), .slice b off len cap => match sizeOfT P elem with
    | some n =>
      let h := hi.getD len
      let l := lo.getD 0
      if l ≤ h && h ≤ cap then some (.slice b (if cap = l then off else off + l * n) (h - l) (cap - l)) else none
    | none => none
  | some (.slice elem), .gslice b off skip len => match sizeOfT P elem with
    | some n =>
      let h := hi.getD len
      let l := lo.getD 0
      if l ≤ h && h ≤ len && l < len && 1 ≤ n then match H[b]? with
        | some (.row c e) => if (skip + len) * n ≤ c.length && e = elem then some (.gslice b (off + l * n) (skip + l) (h - l)) else none
        | _ => none
      else none
    | none => none
  | some (.slice elem), .nils => match sizeOfT P elem with
    | some _ => if lo.getD 0 = 0 && hi.getD 0 = 0 then some .nils else none
    | none => none
  | _, _ => none

/-- A key that is a number or a text. -/
def fitsK : TypeDesc → SV → Bool
  | .int _, .int _ _ => true
  | .string, .str _ => true
  | _, _ => false

def lookS (P : Program) (H : List SO) (t : TypeId) (m k : SV) (ok : Bool) : Option SV :=
  match P.underlying t, m with
  | some (.map key elem), .map b => match P.underlying key, H[b]?, zeroS P elem with
    | some d, some (.map es _), some z =>
      if fitsK d k then match findS k es with
        | some (some (_, v)) => some (if ok then .tuple [v, .bool true] else v)
        | some none => some (if ok then .tuple [z, .bool false] else z)
        | none => none
      else none
    | _, _, _ => none
  | some (.map key elem), .nilm => match P.underlying key, zeroS P elem with
    | some d, some z =>
      if fitsK d k then some (if ok then .tuple [z, .bool false] else z) else none
    | _, _ => none
  | _, _ => none

def isIfaceT (P : Program) (t : TypeId) : Bool := match P.underlying t with | some (.interface _) => true | _ => false

def assertS (P : Program) (x : SV) (asserted : TypeId) (ok : Bool) : Option SV :=
  match P.underlying asserted, x with
  | some (.interface _), _ => none
  | some _, .nili => if ok then (zeroS P asserted).map fun z => .tuple [z, .bool false] else none
  | some _, .iface t v => if t = asserted then some (if ok then .tuple [v, .bool true] else v) else if ok then (zeroS P asserted).map fun z => .tuple [z, .bool false] else none
  | _, _ => none

/-- Is one nil and the other none? -/
def eqNil (P : Program) (t : TypeId) (x y : SV) : Bool :=
  match P.underlying t, x, y with
  | some (.pointer _), .nilp, .ptr _ _ | some (.pointer _), .ptr _ _, .nilp => true
  | some (.slice _), .nils, .slice _ _ _ _ | some (.slice _), .slice _ _ _ _, .nils | some (.slice _), .nils, .gslice _ _ _ _ | some (.slice _), .gslice _ _ _ _, .nils => true
  | some (.map _ _), .nilm, .map _ | some (.map _ _), .map _, .nilm => true
  | some (.func _ _ _), .nilf, .func _ _ _ | some (.func _ _ _), .func _ _ _, .nilf => true
  | some (.interface _), .nili, .iface _ _ | some (.interface _), .iface _ _, .nili => true
  | _, _, _ => false

def lenS (P : Program) (H : List SO) (t : TypeId) (x : SV) : Option SV :=
  match P.underlying t, x with
  | some (.slice _), .slice _ _ n _ | some (.slice _), .gslice _ _ _ n => some (.int .i64 n)
  | some (.map _ _), .map b => match H[b]? with
    | some (.map es _) => some (.int .i64 es.length)
    | _ => none
  | _, _ => none

/-- What only reads. -/
def sq0 (P : Program) (G : Nat → List SV) (tmps : List SV) (H : List SO) (o : Oper) : Option SV :=
  match o.op with
  | .move x => ev tmps x
  | .assign x => ev tmps x
  | .pick c a b => match ev tmps c with
    | some (.bool true) => ev tmps a
    | some (.bool false) => ev tmps b
    | _ => none
  | .load t a => (ev tmps a).bind (loadS P G H t)
  | .fieldAddr s x f => (ev tmps x).bind fun v => fieldS P s v f
  | .field s x f => match ev tmps x, P.underlying s with
    | some (.agg cs), some (.struct fields) => match fields[f]? with
      | some fd => partS P fd.type cs fd.offset
      | none => none
    | _, _ => none
  | .indexAddr t x i => match ev tmps x, ev tmps i with
    | some a, some b => indexS P t a b
    | _, _ => none
  | .index t x i => match ev tmps x, ev tmps i with
    | some a, some b => atS P t a b
    | _, _ => none
  | .slice t x lo hi none => match ev tmps x, optInt tmps lo, optInt tmps hi with
    | some a, some l, some h => sliceS P H t a l h
    | _, _, _ => none
  | .extract x i => match ev tmps x with
    | some (.tuple l) => l[i]?
    | _ => none
  | .makeInterface t x => match P.underlying t with
    | some _ => if isIfaceT P t then none else (ev tmps x).map (.iface t)
    | none => none
  | .makeFunc (.func f) first caps => match evs tmps first.toList, evs tmps caps.toList with
    | some a, some b => some (.func f a b)
    | _, _ => none
  | .typeAssert x _ t ok => (ev tmps x).bind fun v => assertS P v t ok
  | .build t parts => (partsS tmps parts.toList).bind (buildS P t)
  | .binOp .eql t x y _ => match ev tmps x, ev tmps y with
    | some a, some b => if eqNil P t a b then some (.bool false) else none
    | _, _ => none
  | .binOp .neq t x y _ => match ev tmps x, ev tmps y with
    | some a, some b => if eqNil P t a b then some (.bool true) else none
    | _, _ => none
  | .lookup t m k ok => match ev tmps m, ev tmps k with
    | some a, some b => lookS P H t a b ok
    | _, _ => none
  | .nilCheck x => match ev tmps x with
    | some (.ptr b off) => some (.ptr b off)
    | some (.func f a c) => some (.func f a c)
    | some (.iface t v) => some (.iface t v)
    | some (.yield b) => some (.yield b)
    | _ => none
  | .call { callee := .builtin .len, args := args, argTypes := ts } => match args.toList, ts[0]? with
    | [x], some t => (ev tmps x).bind (lenS P H t)
    | _, _ => none
  | _ => none

/-- What asks nothing of the world, of operands without addresses. -/
def sp (P : Program) (tmps : List SV) (o : Oper) : Option (Except SV SV) :=
  if plainArgs tmps o.op.operands.toList then
    match quiet P (execOp (pv tmps) o) with
    | some (.ok (.value u)) => (ofV u).map .ok
    | some (.error u) => (ofV u).map .error
    | _ => none
  else none

def isSelect : Op → Bool
  | .select .. => true
  | _ => false

/-- The cells of a slice. -/
def contents (P : Program) (H : List SO) (size : Nat) : SV → Option (List SV × Nat)
  | .nils => some ([], 0)
  | .slice b off len _ => match (H[b]?).bind rowOf with
    | some (c, _) => if off + len * size ≤ c.length then some ((c.drop off).take (len * size), len) else none
    | none => none
  | .gslice b off _ len => match (H[b]?).bind rowOf with
    | some (c, _) => if off + len * size ≤ c.length then some ((c.drop off).take (len * size), len) else none
    | none => none
  | _ => none

def bytesS : List SV → Option (List UInt8)
  | [] => some []
  | .int .u8 n :: r => if 0 ≤ n ∧ n ≤ 255 then (bytesS r).map (UInt8.ofNat n.toNat :: ·) else none
  | _ => none
/-- The bytes of a slice as a string. -/
def strS (P : Program) (H : List SO) (src dst : TypeId) (a : SV) : Option SV :=
  match P.underlying src, P.underlying dst with
  | some (.slice e), some .string => match P.underlying e with
    | some (.int .u8) => match a with
      | .nils => none
      | _ => match contents P H 1 a with
        | some (l, _) => (bytesS l).map fun b => .str ⟨b.toArray⟩
        | none => none
    | _ => none
  | _, _ => none
def strOp (P : Program) (tmps : List SV) (H : List SO) (o : Oper) : Option SV := match o.op with
  | .convert src dst x => (ev tmps x).bind (strS P H src dst)
  | _ => none

def sq (P : Program) (G : Nat → List SV) (tmps : List SV) (H : List SO) (o : Oper) : Option SV :=
  match sq0 P G tmps H o with
  | some v => some v
  | none => strOp P tmps H o

def squiet (P : Program) (G : Nat → List SV) (tmps : List SV) (H : List SO) (o : Oper) : Option SV :=
  match sq P G tmps H o with
  | some v => some v
  | none => if isSelect o.op then none else match sp P tmps o with
    | some (.ok v) => some v
    | _ => none

inductive SR where
  | val (v : SV) (H : List SO)
  | enter (f : FuncId) (args : List SV)
  | round (b : Nat) (args : List SV)
  | defer (d : SD)
  | recover
  | panic (v : SV)

def storeS (P : Program) (H : List SO) (t : TypeId) (a v : SV) : Option (List SO) :=
  match a, sizeOfT P t with
  | .ptr b off, some n =>
    if (cellsS v).length = n && (cellsS v).all oneS then
      match H[b]? with
      | some (.cells c e) => if off + n ≤ c.length then some (H.set b (.cells (c.take off ++ cellsS v ++ c.drop (off + n)) e)) else none
      | some (.row c e) => if off + n ≤ c.length then some (H.set b (.row (c.take off ++ cellsS v ++ c.drop (off + n)) e)) else none
      | _ => none
    else none
  | _, _ => none

def appendS (P : Program) (H : List SO) (st : TypeId) (s x : SV) : Option (SV × List SO) :=
  match P.underlying st with
  | some (.slice elem) => match sizeOfT P elem, (P.info? elem).map (·.bytes), zeroS P elem with
    | some size, some bytes, some z => match contents P H size s, contents P H size x with
      | some (old, m), some (new, n) =>
        if (m + n) * bytes ≤ 2 ^ 47 && m + n ≤ 2 ^ 60 && 1 ≤ n && 1 ≤ size && new.all oneS && (cellsS z).length = size then
          match s with
          | .nils => some (.gslice H.length 0 0 n, H ++ [.row new elem])
          | .slice b off _ cap =>
            if m + n ≤ cap then
              match off, H[b]? with
              | 0, some (.cells c e) => if e = elem && (m + n) * size ≤ c.length then some (.slice b 0 (m + n) cap, H.set b (.cells (c.take (m * size) ++ new ++ c.drop (m * size + new.length)) e)) else none
              | _, _ => none
            else some (.gslice H.length 0 0 (m + n), H ++ [.row (old ++ new) elem])
          | .gslice b 0 0 _ => match H[b]? with
            | some (.row c e) => if c.length = m * size && e = elem then some (.gslice H.length 0 0 (m + n), H.set b .gone ++ [.row (old ++ new) elem]) else none
            | _ => none
          | _ => none
        else none
      | _, _ => none
    | _, _, _ => none
  | _ => none

def zerosS (z : List SV) : Nat → List SV
  | 0 => []
  | n + 1 => z ++ zerosS z n

def makeSliceS (P : Program) (H : List SO) (t : TypeId) (l c : SV) : Option (SV × List SO) :=
  match P.underlying t, l, c with
  | some (.slice elem), .int .i64 (.ofNat l), .int .i64 (.ofNat c) => match sizeOfT P elem, (P.info? elem).map (·.bytes), zeroS P elem with
    | some size, some bytes, some z =>
      if l ≤ c && c ≤ 2 ^ 40 && bytes * c ≤ 2 ^ 47 && 1 ≤ size && 1 ≤ c && (cellsS z).length = size then some (.slice H.length 0 l c, H ++ [.cells (zerosS (cellsS z) c) elem]) else none
    | _, _, _ => none
  | _, _, _ => none

def setMap (k v : SV) (i : Nat) (es : List (SV × SV × Nat)) : List (SV × SV × Nat) := match es[i]? with
  | some (_, _, b) => es.set i (k, v, b)
  | none => es

def insertS (P : Program) (H : List SO) (t : TypeId) (m k v : SV) : Option (List SO) :=
  match P.underlying t, m with
  | some (.map key _), .map b => match P.underlying key, H[b]? with
    | some d, some (.map es clock) =>
      if fitsK d k then match findS k es with
        | some (some (i, _)) => some (H.set b (.map (setMap k v i es) clock))
        | some none => some (H.set b (.map (es ++ [(k, v, clock)]) (clock + 1)))
        | none => none
      else none
    | _, _ => none
  | _, _ => none

/-- The method of a type, and what it is handed. -/
def methodS (P : Program) (t : TypeId) (v : SV) (name : String) : Option FuncId :=
  match P.info? t with
  | some i => match i.methods.find? (·.name == name) with
    | some m => match m.path.isEmpty, m.func, P.underlying t with
      | true, some (f, true), some (.pointer _) => some f
      | true, some (_, false), some (.pointer _) => none
      | true, some (f, false), some _ => some f
      | _, _, _ => none
    | none => none
  | none => none

def bodied (P : Program) (f : FuncId) : Bool := match P.funcs[f]? with
  | some fn => fn.body.isSome && !(fn.name == "runtime.NumGoroutine")
  | none => false

def callS (P : Program) (tmps : List SV) (c : Call) : Option SR :=
  match evs tmps c.args.toList with
  | some args => match c.callee with
    | .value f => match ev tmps f with
      | some (.func g first caps) => if bodied P g then some (.enter g (first ++ args ++ caps)) else none
      | some (.yield b) => some (.round b args)
      | _ => none
    | .invoke recv name => match ev tmps recv with
      | some (.iface t v) => match methodS P t v name with
        | some f => if bodied P f then some (.enter f (v :: args)) else none
        | none => none
      | _ => none
    | .builtin .recover => some .recover
    | .builtin _ => none
  | none => none

def deferS (tmps : List SV) (c : Call) : Option SR :=
  match evs tmps c.args.toList with
  | some args => match c.callee with
    | .value f => match ev tmps f with
      | some (.func g first caps) => some (.defer (.fn g caps (first ++ args)))
      | _ => none
    | _ => none
  | none => none

/-- What makes a block: the block, and what the operation gives. -/
inductive MK where
  | ptr
  | slice (len : Nat)
  | map

def mkV (b : Nat) : MK → SV
  | .ptr => .ptr b 0
  | .slice n => .slice b 0 n n
  | .map => .map b

def mkS (P : Program) (tmps : List SV) (o : Oper) : Option (SO × MK) :=
  match o.op with
  | .alloc t => (zeroS P t).map fun z => (.cells (cellsS z) t, .ptr)
  | .box t x => (ev tmps x).map fun v => (.cells (cellsS v) t, .ptr)
  | .buildSlice t len parts => match P.underlying t, partsS tmps parts.toList with
    | some (.slice elem), some ps => match sizeOfT P elem, zeroS P elem with
      | some size, some z => if len * size ≤ 2 ^ 20 && 1 ≤ size && 1 ≤ len && (cellsS z).length = size then
          (fillS (fun i => some (i * size, size)) (zerosS (cellsS z) len) ps).map fun c => (.cells c elem, .slice len)
        else none
      | _, _ => none
    | _, _ => none
  | .makeMap t r => match r with
    | none => some (.map [] 0, .map)
    | some x => match P.underlying t, ev tmps x with
      | some (.map _ _), some (.int _ _) => some (.map [] 0, .map)
      | _, _ => none
  | _ => none

def sx (P : Program) (G : Nat → List SV) (tmps : List SV) (H : List SO) (o : Oper) : Option SR :=
  match sq P G tmps H o with
  | some v => some (.val v H)
  | none => match mkS P tmps o with
    | some (b, k) => some (.val (mkV H.length k) (H ++ [b]))
    | none =>
      match o.op with
      | .store t a x => match ev tmps a, ev tmps x with
        | some a, some v => (storeS P H t a v).map fun h => .val undefS h
        | _, _ => none
      | .insert t m k v => match ev tmps m, ev tmps k, ev tmps v with
        | some a, some b, some c => (insertS P H t a b c).map fun h => .val undefS h
        | _, _, _ => none
      | .mapUpdate t m k v => match ev tmps m, ev tmps k, ev tmps v with
        | some a, some b, some c => (insertS P H t a b c).map fun h => .val undefS h
        | _, _, _ => none
      | .makeSlice t l c => match ev tmps l, ev tmps c with
        | some a, some b => (makeSliceS P H t a b).map fun p => .val p.1 p.2
        | _, _ => none
      | .call { callee := .builtin .append, args := args, argTypes := ts } => match args.toList, ts.toList with
        | [s, x], [st, xt] => match ev tmps s, ev tmps x, P.underlying xt with
          | some a, some b, some (.slice _) => if st = xt then (appendS P H st a b).map fun p => .val p.1 p.2 else none
          | _, _, _ => none
        | _, _ => none
      | .defer c => deferS tmps c
      | .select .. => none
      | op => match sp P tmps o with
        | some (.ok v) => some (.val v H)
        | some (.error v) => some (.panic v)
        | none => match op with
          | .call c => callS P tmps c
          | _ => none

end Go.Ev

/- EvC: A machine that runs a call whose values are known: its steps. -/
namespace Go.Ev

def exitS (id : Nat) : List SI → Option (List SI)
  | .inBlock id' :: k => if id' == id then some k else exitS id k
  | _ :: k => exitS id k
  | [] => none

def gotoS (l : Nat) : List SI → Option (List SI)
  | .inScope body :: k =>
    match findLabel body l with
    | some rest => some (.code rest :: .inScope body :: k)
    | none => gotoS l k
  | _ :: k => gotoS l k
  | [] => none

def yieldedS (ops : Array Oper) (tmps : List SV) (j : Nat) : Option Bool :=
  match ((ops[j]?).bind (·.dst)).bind (tmps[·]?) with
  | some (.bool b) => some b
  | _ => none

def putS (tmps : List SV) (dst : Option Tmp) (v : SV) : List SV := match dst with
  | some d => tmps.set d v
  | none => tmps

/-- Must one of them have come up ahead of the other one? -/
def dep (bf : Array Nat) (k i : Nat) : Bool := (bf.getD k 0).testBit i

def dstOf (ops : Array Oper) (i : Nat) : Option Tmp := (ops[i]?).bind (·.dst)

mutual
def eqS : SV → SV → Bool
  | .bool a, .bool b => a == b
  | .int j a, .int k b => decide (j = k) && decide (a = b)
  | .str a, .str b => decide (a.data.toList = b.data.toList)
  | .nilp, .nilp => true
  | .nils, .nils => true
  | .nilm, .nilm => true
  | .nilf, .nilf => true
  | .nili, .nili => true
  | .opq a, .opq b => a == b
  | .glob a b, .glob c d => a == c && b == d
  | .ptr a b, .ptr c d => a == c && b == d
  | .slice a b c d, .slice e f g h => a == e && b == f && c == g && d == h
  | .gslice a b c d, .gslice e f g h => a == e && b == f && c == g && d == h
  | .map a, .map b => a == b
  | .func f a c, .func g b d => f == g && eqSs a b && eqSs c d
  | .yield a, .yield b => a == b
  | .meth a b c d, .meth e f g h => a == e && b == f && c == g && d == h
  | .iface t a, .iface u b => t == u && eqS a b
  | .agg a, .agg b => eqSs a b
  | .tuple a, .tuple b => eqSs a b
  | _, _ => false
def eqSs : List SV → List SV → Bool
  | [], [] => true
  | a :: r, b :: s => eqS a b && eqSs r s
  | _, _ => false
end

def eqO : SO → SO → Bool
  | .cells a t, .cells b u => eqSs a b && t == u
  | .map [] a, .map [] b => a == b
  | _, _ => false

/-- Nothing else writes its slot, and what reads it comes up behind it. -/
def fresh (ops : Array Oper) (bf : Array Nat) (i : Nat) : Bool :=
  match dstOf ops i with
  | some d => (List.range ops.size).all fun k => match ops[k]? with
    | some b => if k = i then !(b.looksAt ops).contains d else b.dst != some d && (!(b.looksAt ops).contains d || dep bf k i)
    | none => true
  | none => false

/-- One that may lag does not look at the slot of one that comes up. -/
def clear (ops : Array Oper) (bf : Array Nat) (k j : Nat) : Bool :=
  dep bf k j || (match ops[j]?, dstOf ops k with
    | some b, some d => !(b.looksAt ops).contains d
    | some _, none => true
    | none, _ => false)

/-- What may still be to come gives what it gave. -/
def lagOk (P : Program) (G : Nat → List SV) (ops : Array Oper) (tmps : List SV) (H : List SO) (ib : Nat × Option Nat) : Bool :=
  match ops[ib.1]? with
  | some o => match o.dst with
    | some d => match tmps[d]? with
      | some v =>
        if Region.wanted o (yieldedS ops tmps) then
          match ib.2 with
          | none => match squiet P G tmps H o with
            | some a => eqS a v
            | none => false
          | some b => match mkS P tmps o, H[b]? with
            | some (ob, k), some h => eqO ob h && eqS (mkV b k) v
            | _, _ => false
        else ib.2.isNone && eqS undefS v
      | none => false
    | none => false
  | none => false

def finishS (P : Program) (G : Nat → List SV) (H : List SO) (f : SF) (v : SV) : Option SF :=
  match f.todo with
  | .inReg ops (i :: rest) :: k => some { f with tmps := putS f.tmps (dstOf ops i) v, todo := .inReg ops rest :: k }
  | .inDraw ops done lag (some i) :: k =>
    let tmps := putS f.tmps (dstOf ops i) v
    let lag := lag.filter fun j => !dep (Region.before ops) i j.1
    if lag.all (lagOk P G ops tmps H) then some { f with tmps := tmps, todo := .inDraw ops (done.setIfInBounds i true) lag none :: k } else none
  | .inRF l :: k => some { f with todo := .endRF l :: k }
  | .beginRound :: k => some { f with todo := k }
  | _ => none

def raiseS (f : SF) (l : List (SV × Bool)) : SF := match f.mode with
  | .pan chain => { f with mode := .pan (l ++ chain) }
  | _ => { f with mode := .pan l }

def enterS (P : Program) (f : FuncId) (args : List SV) (kind : CallKind) : Option SF :=
  match P.funcs[f]? with
  | some fn => match fn.body with
    | some c => some { fn := f, tmps := args ++ List.replicate (fn.ntmps - args.length) undefS, todo := [.code c], defers := [], mode := .run, kind := kind, rnd := none }
    | none => none
  | none => none

def putAll : List Tmp → List SV → List SV → List SV
  | p :: ps, a :: as, tmps => putAll ps as (tmps.set p a)
  | _, _, tmps => tmps

def roundS (H : List SO) (b : Nat) (args : List SV) (kind : CallKind) : Option SF :=
  match H[b]? with
  | some (.loop _ _ fn tmps params assign body _) =>
    if args.length = params.size then some { fn := fn, tmps := putAll params.toList args tmps, todo := [.code assign, .beginRound, .code body], defers := [], mode := .run, kind := kind, rnd := some b } else none
  | _ => none

/-- recover: the value, and the callers behind it. -/
def recoverS (f : SF) (cs : List SF) : Option (SV × List SF) :=
  match f.kind, cs with
  | .deferred, c :: rest => match c.mode with
    | .pan ((v, false) :: older) => some (v, { c with mode := .pan ((v, true) :: older) } :: rest)
    | _ => some (.nili, cs)
  | .normal, _ => some (.nili, cs)
  | _, _ => none

/-- Hooks: calls that are known as a whole. -/
abbrev Hooks := FuncId → List SV → List SO → Option (SV × List SO)

def applyS (P : Program) (G : Nat → List SV) (K : Hooks) (f : SF) (cs : List SF) : SR → List SO → Option St
  | .val v H', _ => (finishS P G H' f v).map fun f => ⟨f, cs, H'⟩
  | .enter g args, H => match K g args H with
    | some (v, H') => (finishS P G H' f v).map fun f => ⟨f, cs, H'⟩
    | none => (enterS P g args .normal).map fun n => ⟨n, f :: cs, H⟩
  | .round b args, H => (roundS H b args .normal).map fun n => ⟨n, f :: cs, H⟩
  | .defer d, H => match f.rnd with
    | none => (finishS P G H { f with defers := d :: f.defers } undefS).map fun f => ⟨f, cs, H⟩
    | some _ => none
  | .recover, H => match f.rnd with
    | none => match recoverS f cs with
      | some (v, cs) => (finishS P G H f v).map fun f => ⟨f, cs, H⟩
      | none => none
    | some _ => none
  | .panic v, H => some ⟨raiseS f [(v, false)], cs, H⟩

def leaveS (s : St) (jump : Option Code) : Option St :=
  match s.fr.rnd with
  | none => match jump with
    | none => some { s with fr := { s.fr with mode := .ret } }
    | some .ret => some { s with fr := { s.fr with mode := .ret } }
    | _ => none
  | some _ => none

def loopAt (H : List SO) (b : Nat) : Option (LoopState × Option Code × FuncId × List SV × Array Tmp × Code × Code × Nat) := match H[b]? with
  | some (.loop st pend fn tmps params assign body d) => some (st, pend, fn, tmps, params, assign, body, d)
  | _ => none

/-- In the middle of a run whose order is open, with nothing asked for. -/
def waits : List SI → Bool
  | .inDraw _ _ _ none :: _ => true
  | _ => false

/-- A frame hands a value back. -/
def returnS (P : Program) (G : Nat → List SV) (f : SF) (cs : List SF) (v : SV) (H : List SO) : Option St :=
  match cs with
  | c :: rest => match f.kind with
    | .normal => (finishS P G H c v).map fun c => ⟨c, rest, H⟩
    | .deferred => if waits c.todo then none else match c.mode with
      | .pan ((_, true) :: _) => some ⟨{ c with mode := .ret }, rest, H⟩
      | _ => some ⟨c, rest, H⟩
    | _ => none
  | [] => none

/-- The end of a round, with a jump that it leaves by. -/
def endRoundS (P : Program) (G : Nat → List SV) (s : St) (b : Nat) (jump : Option Code) : Option St :=
  match loopAt s.H b with
  | some (_, _, fn, tmps, params, assign, body, d) =>
    returnS P G s.fr s.cs (.bool jump.isNone) (s.H.set b (.loop (if jump.isNone then .ready else .done) jump fn tmps params assign body d))
  | none => none

def leaveAt (P : Program) (G : Nat → List SV) (s : St) (jump : Option Code) : Option St :=
  match s.fr.rnd with
  | none => leaveS s jump
  | some b => endRoundS P G s b jump

def toF (s : St) (k : List SI) : Option St := some { s with fr := { s.fr with todo := k } }

/-- An operation of a region that does not draw. -/
def regS (P : Program) (G : Nat → List SV) (K : Hooks) (s : St) (ops : Array Oper) (i : Nat) : Option St :=
  match ops[i]? with
  | some o =>
    if Region.wanted o (yieldedS ops s.fr.tmps) then
      match sx P G s.fr.tmps s.H o with
      | some r => applyS P G K s.fr s.cs r s.H
      | none => none
    else (finishS P G s.H s.fr undefS).map fun f => { s with fr := f }
  | none => none

/-- The first of them that only reads or makes a block, and what it gives. -/
def firstQuiet (P : Program) (G : Nat → List SV) (ops : Array Oper) (bf : Array Nat) (tmps : List SV) (H : List SO) : List Nat → Option (Nat × SV × Option SO)
  | [] => none
  | i :: r => match ops[i]? with
    | some o =>
      if fresh ops bf i then
        if Region.wanted o (yieldedS ops tmps) then
          match squiet P G tmps H o with
          | some v => some (i, v, none)
          | none => match mkS P tmps o with
            | some (b, k) => some (i, mkV H.length k, some b)
            | none => firstQuiet P G ops bf tmps H r
        else some (i, undefS, none)
      else firstQuiet P G ops bf tmps H r
    | none => none

def drawS (P : Program) (G : Nat → List SV) (K : Hooks) (s : St) (ops : Array Oper) (done : Array Bool) (lag : List (Nat × Option Nat)) (k : List SI) : Option St :=
  match Region.ready .any ops done with
  | [] => toF s k
  | rs => match firstQuiet P G ops (Region.before ops) s.fr.tmps s.H rs with
    | some (i, v, ob) =>
      let tmps := putS s.fr.tmps (dstOf ops i) v
      let H := match ob with | some b => s.H ++ [b] | none => s.H
      let x := (i, ob.map fun _ => s.H.length)
      if (x :: lag).all (lagOk P G ops tmps H) then
        some { s with fr := { s.fr with tmps := tmps, todo := .inDraw ops (done.setIfInBounds i true) (x :: lag) none :: k }, H := H }
      else none
    | none => match rs with
      | [i] => match ops[i]? with
        | some o =>
          if lag.all (fun j => clear ops (Region.before ops) i j.1) then
            if Region.wanted o (yieldedS ops s.fr.tmps) then
              match sx P G s.fr.tmps s.H o with
              | some (.panic _) => none
              | some r => applyS P G K { s.fr with todo := .inDraw ops done lag (some i) :: k } s.cs r s.H
              | none => none
            else (finishS P G s.H { s.fr with todo := .inDraw ops done lag (some i) :: k } undefS).map fun f => { s with fr := f }
          else none
        | none => none
      | _ => none

/-- The edges of a region go back. -/
def backB (ops : Array Oper) : Bool := (List.range ops.size).all fun i => match ops[i]? with
  | some o => o.after.all fun e => !Region.binds .any e || decide (e.on < i)
  | none => false

def runS (P : Program) (G : Nat → List SV) (K : Hooks) (s : St) : Option St :=
  match s.fr.todo with
  | [] => leaveAt P G s none
  | .code .ret :: _ => leaveAt P G s (some .ret)
  | .code .skip :: k => toF s k
  | .code (.label _) :: k => toF s k
  | .inBlock _ :: k => toF s k
  | .inScope _ :: k => toF s k
  | .code (.seq a b) :: k => toF s (.code a :: .code b :: k)
  | .code (.cond c thn els) :: k => match ev s.fr.tmps c with
    | some (.bool b) => toF s (.code (if b then thn else els) :: k)
    | _ => none
  | .code (.block id body) :: k => toF s (.code body :: .inBlock id :: k)
  | .code (.loop body) :: k => toF s (.code body :: .inLoop body :: k)
  | .inLoop body :: k => toF s (.code body :: .inLoop body :: k)
  | .code (.scope body) :: k => toF s (.code body :: .inScope body :: k)
  | .code (.exit id) :: k => match exitS id k with
    | some k => toF s k
    | none => leaveAt P G s (some (.exit id))
  | .code (.goto l) :: k => match gotoS l k with
    | some k => toF s k
    | none => leaveAt P G s (some (.goto l))
  | .code (.rangeFunc f params assign body) :: k => match s.fr.rnd, ev s.fr.tmps f with
    | none, some (.func g first caps) =>
      if bodied P g then
        let H := s.H ++ [.defd (some []), .loop .ready none s.fr.fn s.fr.tmps params assign body s.H.length]
        (enterS P g (first ++ [.yield (s.H.length + 1)] ++ caps) .normal).map fun n =>
          ⟨n, { s.fr with todo := .inRF (s.H.length + 1) :: k, defers := .coll s.H.length :: s.fr.defers } :: s.cs, H⟩
      else none
    | _, _ => none
  | .beginRound :: k => match s.fr.rnd with
    | some b => match loopAt s.H b with
      | some (.ready, pend, fn, tmps, params, assign, body, d) => some { s with fr := { s.fr with todo := k }, H := s.H.set b (.loop .busy pend fn tmps params assign body d) }
      | _ => none
    | none => none
  | .endRF b :: k => match loopAt s.H b with
    | some (.busy, _) => none
    | some (_, pend, fn, tmps, params, assign, body, d) =>
      some { s with fr := { s.fr with todo := (pend.map SI.code).toList ++ k }, H := s.H.set b (.loop .exhausted pend fn tmps params assign body d) }
    | none => none
  | .code (.region _ ops draw) :: k =>
    if draw then (if backB ops && P.follows .mixedOrders then toF s (.inDraw ops (Array.replicate ops.size false) [] none :: k) else none)
    else toF s (.inReg ops (List.range ops.size) :: k)
  | .inReg _ [] :: k => toF s k
  | .inReg ops (i :: _) :: _ => regS P G K s ops i
  | .inDraw ops done lag none :: k => drawS P G K s ops done lag k
  | _ => none

def cellsOfRes (P : Program) (G : Nat → List SV) (H : List SO) (tmps : List SV) : List ResultVar → Option (List SV)
  | [] => some []
  | .tmp t :: r => (cellsOfRes P G H tmps r).map fun l => ((tmps[t]?).getD undefS) :: l
  | .cell a t :: r => match loadS P G H t ((tmps[a]?).getD undefS), cellsOfRes P G H tmps r with
    | some v, some l => some (v :: l)
    | _, _ => none

def resS (P : Program) (G : Nat → List SV) (H : List SO) (fn : FuncId) (tmps : List SV) : Option SV :=
  match P.funcs[fn]? with
  | some f => match cellsOfRes P G H tmps f.results.toList with
    | some [v] => some v
    | some l => some (.tuple l)
    | none => none
  | none => none

def drawnB : List SI → Bool
  | .inDraw .. :: _ => true
  | _ => false

def unwindS (P : Program) (G : Nat → List SV) (s : St) : Option St :=
  match s.fr.defers with
  | .coll b :: ds => match s.H[b]? with
    | some (.defd (some l)) => if waits s.fr.todo then none else some { s with fr := { s.fr with defers := l ++ ds }, H := s.H.set b (.defd none) }
    | _ => none
  | .fn f caps args :: ds => if bodied P f then (enterS P f (args ++ caps) .deferred).map fun n => ⟨n, { s.fr with defers := ds } :: s.cs, s.H⟩ else none
  | [] => match s.fr.mode with
    | .run => none
    | .pan l => match s.cs with
      | c :: rest => if waits c.todo then none else some ⟨raiseS c l, rest, s.H⟩
      | [] => none
    | .ret => if drawnB s.fr.todo then none else match resS P G s.H s.fr.fn s.fr.tmps with
      | some v => returnS P G s.fr s.cs v s.H
      | none => none

def stepS (P : Program) (G : Nat → List SV) (K : Hooks) (s : St) : Option St :=
  match s.fr.mode with
  | .run => runS P G K s
  | _ => unwindS P G s

/-- The last frame has come to its end: what it hands back. -/
def overS (P : Program) (G : Nat → List SV) (s : St) : Option SV :=
  match s.cs, s.fr.mode, s.fr.defers, s.fr.kind, s.fr.rnd with
  | [], .ret, [], .normal, none => if drawnB s.fr.todo then none else resS P G s.H s.fr.fn s.fr.tmps
  | _, _, _, _, _ => none

def goS (P : Program) (G : Nat → List SV) (K : Hooks) (f : FuncId) : Nat → St → Option (SV × List SO)
  | 0, _ => none
  | n + 1, s => match overS P G s with
    | some v => if s.fr.fn = f then some (v, s.H) else none
    | none => match stepS P G K s with
      | some s => goS P G K f n s
      | none => none

def callAt (P : Program) (G : Nat → List SV) (K : Hooks) (n : Nat) (f : FuncId) (args : List SV) (H : List SO) : Option (SV × List SO) :=
  match enterS P f args .normal with
  | some fr => goS P G K f n ⟨fr, [], H⟩
  | none => none

end Go.Ev

/- EvD: A machine that runs a call whose values are known: what its states stand for. -/
namespace Go.Ev

/-- Where an own block lies: not made yet (by the frame at that depth), or there, with its capacity. -/
inductive Ent where
  | pend (d : Nat)
  | lies (r k : Nat)

abbrev Env := List Ent
def blk (E : Env) (b : Nat) : Option (Nat × Nat) := match E[b]? with
  | some (.lies r k) => some (r, k)
  | _ => none
theorem blk_eq {E : Env} {b r k : Nat} : blk E b = some (r, k) ↔ E[b]? = some (.lies r k) := by
  unfold blk
  split
  · rename_i r' k' h; rw [h]; simp
  · rename_i h; constructor
    · intro e; cases e
    · intro e; exact absurd e (h r k)

variable (ν : Nat → Value)
mutual
def den (E : Env) : SV → Option Value
  | .bool b => some (.bool b)
  | .int k n => some (.int k n)
  | .str s => some (.string s)
  | .nilp => some (.pointer none)
  | .nils => some (.slice none 0 0)
  | .nilm => some (.map none)
  | .nilf => some .nilFunc
  | .nili => some .nilIface
  | .opq k => if oneV (ν k) then some (ν k) else none
  | .glob g off => some (.pointer (some ⟨g, off, none⟩))
  | .ptr b off => (blk E b).map fun p => .pointer (some ⟨p.1, off, none⟩)
  | .slice b off len cap => (blk E b).map fun p => .slice (some ⟨p.1, off, none⟩) len cap
  | .gslice b off skip len => (blk E b).map fun p => .slice (some ⟨p.1, off, none⟩) len (p.2 - skip)
  | .map b => (blk E b).map fun p => .map (some p.1)
  | .func f a c => (dens E a).bind fun a' => (dens E c).map fun c' => .func (.func f) a'.toArray c'.toArray
  | .yield b => (blk E b).map fun p => .func (.yield p.1) #[] #[]
  | .meth name t k n => some (.func (.method name) #[.iface t (.int k n)] #[])
  | .iface t v => (den E v).map (.iface t)
  | .agg l => (dens E l).map fun l => .agg l.toArray
  | .tuple l => (dens E l).map fun l => .tuple l.toArray
def dens (E : Env) : List SV → Option (List Value)
  | [] => some []
  | x :: r => (den E x).bind fun v => (dens E r).map fun l => v :: l
end

/-- What is known stays so; only the frame at that depth makes what it owes. -/
structure Ext (d : Nat) (E E' : Env) : Prop where
  len : E.length ≤ E'.length
  lies : ∀ (b r k : Nat), E[b]? = some (.lies r k) → E'[b]? = some (.lies r k)
  pend : ∀ (b e : Nat), E[b]? = some (.pend e) → e ≠ d → E'[b]? = some (.pend e)
theorem Ext.refl (d : Nat) (E : Env) : Ext d E E := ⟨Nat.le_refl _, fun _ _ _ h => h, fun _ _ h _ => h⟩
theorem Ext.trans {d : Nat} {E E' E'' : Env} (h : Ext d E E') (h' : Ext d E' E'') : Ext d E E'' :=
  ⟨Nat.le_trans h.len h'.len, fun b r k e => h'.lies b r k (h.lies b r k e), fun b e he hd => h'.pend b e (h.pend b e he hd) hd⟩
theorem Ext.push (d : Nat) (E : Env) (x : Ent) : Ext d E (E ++ [x]) :=
  ⟨by simp, fun b r k h => by rw [List.getElem?_append_left (by have := (List.getElem?_eq_some_iff.1 h).1; exact this)]; exact h,
    fun b e h _ => by rw [List.getElem?_append_left (by have := (List.getElem?_eq_some_iff.1 h).1; exact this)]; exact h⟩
theorem Ext.blk {d : Nat} {E E' : Env} (h : Ext d E E') {b r k : Nat} (hb : Ev.blk E b = some (r, k)) : Ev.blk E' b = some (r, k) :=
  blk_eq.2 (h.lies b r k (blk_eq.1 hb))
theorem Ext.blk_map {d : Nat} {E E' : Env} (h : Ext d E E') {b : Nat} {f : Nat × Nat → Value} {v : Value} (hb : (Ev.blk E b).map f = some v) : (Ev.blk E' b).map f = some v := by
  cases hx : Ev.blk E b with
  | none => rw [hx] at hb; cases hb
  | some p => obtain ⟨r, k⟩ := p; rw [hx] at hb; rw [h.blk hx]; exact hb

variable {ν}
mutual
theorem den_mono {d : Nat} {E E' : Env} (h : Ext d E E') : ∀ (s : SV) (v : Value), den ν E s = some v → den ν E' s = some v
  | .bool b, v, e => by simpa [den] using e
  | .int k n, v, e => by simpa [den] using e
  | .str s, v, e => by simpa [den] using e
  | .nilp, v, e => by simpa [den] using e
  | .nils, v, e => by simpa [den] using e
  | .nilm, v, e => by simpa [den] using e
  | .nilf, v, e => by simpa [den] using e
  | .nili, v, e => by simpa [den] using e
  | .opq k, v, e => by rw [den] at e ⊢; exact e
  | .meth name t k n, v, e => by rw [den] at e ⊢; exact e
  | .glob g off, v, e => by simpa [den] using e
  | .ptr b off, v, e => by rw [den] at e ⊢; exact h.blk_map e
  | .slice b off len cap, v, e => by rw [den] at e ⊢; exact h.blk_map e
  | .gslice b off skip len, v, e => by rw [den] at e ⊢; exact h.blk_map e
  | .map b, v, e => by rw [den] at e ⊢; exact h.blk_map e
  | .yield b, v, e => by rw [den] at e ⊢; exact h.blk_map e
  | .func f a c, v, e => by
    rw [den] at e ⊢
    cases ha : dens ν E a with
    | none => rw [ha] at e; cases e
    | some a' =>
      cases hc : dens ν E c with
      | none => rw [ha, hc] at e; cases e
      | some c' => rw [dens_mono h a a' ha, dens_mono h c c' hc]; rw [ha, hc] at e; exact e
  | .iface t x, v, e => by
    rw [den] at e ⊢
    cases hx : den ν E x with
    | none => rw [hx] at e; cases e
    | some x' => rw [den_mono h x x' hx]; rw [hx] at e; exact e
  | .agg l, v, e => by
    rw [den] at e ⊢
    cases hx : dens ν E l with
    | none => rw [hx] at e; cases e
    | some x' => rw [dens_mono h l x' hx]; rw [hx] at e; exact e
  | .tuple l, v, e => by
    rw [den] at e ⊢
    cases hx : dens ν E l with
    | none => rw [hx] at e; cases e
    | some x' => rw [dens_mono h l x' hx]; rw [hx] at e; exact e
theorem dens_mono {d : Nat} {E E' : Env} (h : Ext d E E') : ∀ (s : List SV) (v : List Value), dens ν E s = some v → dens ν E' s = some v
  | [], v, e => by simpa [dens] using e
  | x :: r, v, e => by
    rw [dens] at e ⊢
    cases hx : den ν E x with
    | none => rw [hx] at e; cases e
    | some x' =>
      cases hr : dens ν E r with
      | none => rw [hx, hr] at e; cases e
      | some r' => rw [den_mono h x x' hx, dens_mono h r r' hr]; rw [hx, hr] at e; exact e
end

theorem dens_cons {E : Env} {x : SV} {r : List SV} {l : List Value} : dens ν E (x :: r) = some l ↔ ∃ v t, den ν E x = some v ∧ dens ν E r = some t ∧ l = v :: t := by
  rw [dens]
  cases hx : den ν E x with
  | none => simp
  | some v => cases hr : dens ν E r with
    | none => simp
    | some t => simp [eq_comm]
theorem dens_len {E : Env} : ∀ {s : List SV} {l : List Value}, dens ν E s = some l → l.length = s.length
  | [], l, h => by simp [dens] at h; subst h; rfl
  | x :: r, l, h => by
    obtain ⟨v, t, _, ht, rfl⟩ := dens_cons.1 h
    simp [dens_len ht]
theorem dens_get {E : Env} : ∀ {s : List SV} {l : List Value} {i : Nat} {x : SV}, dens ν E s = some l → s[i]? = some x → ∃ v, l[i]? = some v ∧ den ν E x = some v
  | [], l, i, x, h, hx => by simp at hx
  | y :: r, l, i, x, h, hx => by
    obtain ⟨v, t, hv, ht, rfl⟩ := dens_cons.1 h
    cases i with
    | zero => simp at hx; subst hx; exact ⟨v, rfl, hv⟩
    | succ i => simp at hx; obtain ⟨u, h1, h2⟩ := dens_get ht hx; exact ⟨u, by simpa using h1, h2⟩
theorem dens_append {E : Env} : ∀ {s t : List SV} {l m : List Value}, dens ν E s = some l → dens ν E t = some m → dens ν E (s ++ t) = some (l ++ m)
  | [], t, l, m, h, h' => by simp [dens] at h; subst h; simpa using h'
  | x :: r, t, l, m, h, h' => by
    obtain ⟨v, u, hv, hu, rfl⟩ := dens_cons.1 h
    exact dens_cons.2 ⟨v, u ++ m, hv, dens_append hu h', rfl⟩
theorem dens_take {E : Env} : ∀ (n : Nat) {s : List SV} {l : List Value}, dens ν E s = some l → dens ν E (s.take n) = some (l.take n)
  | 0, s, l, h => by simp [dens]
  | n + 1, [], l, h => by simp [dens] at h; subst h; simp [dens]
  | n + 1, x :: r, l, h => by
    obtain ⟨v, u, hv, hu, rfl⟩ := dens_cons.1 h
    exact dens_cons.2 ⟨v, _, hv, dens_take n hu, rfl⟩
theorem dens_drop {E : Env} : ∀ (n : Nat) {s : List SV} {l : List Value}, dens ν E s = some l → dens ν E (s.drop n) = some (l.drop n)
  | 0, s, l, h => by simpa using h
  | n + 1, [], l, h => by simp [dens] at h; subst h; simp [dens]
  | n + 1, x :: r, l, h => by
    obtain ⟨v, u, hv, hu, rfl⟩ := dens_cons.1 h
    simpa using dens_drop n hu
theorem dens_set {E : Env} : ∀ {s : List SV} {l : List Value} (i : Nat) {x : SV} {v : Value}, dens ν E s = some l → den ν E x = some v → dens ν E (s.set i x) = some (l.set i v)
  | [], l, i, x, v, h, hx => by simp [dens] at h; subst h; simp [dens]
  | y :: r, l, i, x, v, h, hx => by
    obtain ⟨u, t, hu, ht, rfl⟩ := dens_cons.1 h
    cases i with
    | zero => exact dens_cons.2 ⟨v, t, hx, ht, rfl⟩
    | succ i => exact dens_cons.2 ⟨u, _, hu, dens_set i ht hx, rfl⟩

/-- Plain values. -/
theorem methS_den {name : String} {first caps : Array Value} {s : SV} (h : methS name first caps = some s) (E : Env) : den ν E s = some (.func (.method name) first caps) := by
  unfold methS at h
  split at h
  · rename_i t k n h1 h2
    simp only [Option.some.injEq] at h; subst h
    have e1 : first = #[.iface t (.int k n)] := Array.toList_inj.1 h1
    have e2 : caps = #[] := Array.toList_inj.1 h2
    simp [den, e1, e2]
  · cases h
theorem leafS_den {v : Value} {s : SV} (h : leafS v = some s) (E : Env) : den ν E s = some v := by
  unfold leafS at h
  split at h <;> first
    | (simp only [Option.some.injEq] at h; subst h; simp [den]; done)
    | (split at h
       · rename_i hc
         simp only [Option.some.injEq] at h; subst h
         simp only [Bool.and_eq_true, Array.isEmpty_iff] at hc
         simp [den, dens, hc.1, hc.2]
       · cases h)
    | exact methS_den h E
    | cases h
theorem leavesS_dens : ∀ {v : List Value} {s : List SV}, leavesS v = some s → ∀ (E : Env), dens ν E s = some v
  | [], s, h, E => by simp [leavesS] at h; subst h; simp [dens]
  | x :: r, s, h, E => by
    rw [leavesS] at h
    split at h
    · rename_i a l ha hl
      simp only [Option.some.injEq] at h
      subst h
      exact dens_cons.2 ⟨x, r, leafS_den ha E, leavesS_dens hl E, rfl⟩
    · cases h
theorem ofV_den {v : Value} {s : SV} (h : ofV v = some s) (E : Env) : den ν E s = some v := by
  unfold ofV at h
  split at h
  · rename_i cs
    cases hl : leavesS cs.toList with
    | none => rw [hl] at h; cases h
    | some l => rw [hl] at h; simp at h; subst h; simp [den, leavesS_dens hl E]
  · rename_i cs
    split at h
    · rename_i l hl
      simp at h; subst h; simp [den, leavesS_dens hl E]
    · split at h
      · rename_i a v hc
        split at h
        · rename_i l s ha hv
          simp at h; subst h
          have : cs = #[.agg a, v] := by rw [← hc]
          simp [den, dens, leavesS_dens ha E, leafS_den hv E, this]
        · cases h
      · cases h
  · rename_i t cs
    cases hl : leavesS cs.toList with
    | none => rw [hl] at h; cases h
    | some l => rw [hl] at h; simp at h; subst h; simp [den, leavesS_dens hl E]
  · rename_i t v _
    cases hl : leafS v with
    | none => rw [hl] at h; cases h
    | some l => rw [hl] at h; simp at h; subst h; simp [den, leafS_den hl E]
  · exact leafS_den h E

theorem leafV_den {s : SV} {v : Value} (h : leafV s = some v) (E : Env) : den ν E s = some v := by
  unfold leafV at h
  split at h <;> first
    | (simp only [Option.some.injEq] at h; subst h; simp [den, dens]; done)
    | cases h
theorem leavesV_dens : ∀ {s : List SV} {v : List Value}, leavesV s = some v → ∀ (E : Env), dens ν E s = some v
  | [], s, h, E => by simp [leavesV] at h; subst h; simp [dens]
  | x :: r, s, h, E => by
    rw [leavesV] at h
    split at h
    · rename_i a l ha hl
      simp only [Option.some.injEq] at h
      subst h
      exact dens_cons.2 ⟨a, l, leafV_den ha E, leavesV_dens hl E, rfl⟩
    · cases h
theorem toV_den {s : SV} {v : Value} (h : toV s = some v) (E : Env) : den ν E s = some v := by
  unfold toV at h
  split at h
  · rename_i l
    cases hl : leavesV l with
    | none => rw [hl] at h; cases h
    | some l' => rw [hl] at h; simp at h; subst h; simp [den, leavesV_dens hl E]
  · rename_i l
    cases hl : leavesV l with
    | none => rw [hl] at h; cases h
    | some l' => rw [hl] at h; simp at h; subst h; simp [den, leavesV_dens hl E]
  · rename_i t l
    cases hl : leavesV l with
    | none => rw [hl] at h; cases h
    | some l' => rw [hl] at h; simp at h; subst h; simp [den, leavesV_dens hl E]
  · rename_i t v _
    cases hl : leafV v with
    | none => rw [hl] at h; cases h
    | some l' => rw [hl] at h; simp at h; subst h; simp [den, leafV_den hl E]
  · exact leafV_den h E

/-- What asks nothing of the world. -/
theorem quiet_ok {α : Type} {P : Program} : ∀ {x : Sem α} {a : α}, quiet P x = some (.ok a) → ∀ w, x.run P w = .ok a w
  | .pure b, a, h, w => by simp [quiet] at h; subst h; rfl
  | .program k, a, h, w => by rw [quiet] at h; rw [Sem.run]; exact quiet_ok h w
  | .mark m k, a, h, w => by rw [quiet] at h; rw [Sem.run]; exact quiet_ok h w
  | .halt h', a, h, w => by cases h' <;> simp [quiet] at h
  | .load .., a, h, w => by simp [quiet] at h
  | .store .., a, h, w => by simp [quiet] at h
  | .new .., a, h, w => by simp [quiet] at h
  | .shape .., a, h, w => by simp [quiet] at h
  | .freeze .., a, h, w => by simp [quiet] at h
  | .frozen .., a, h, w => by simp [quiet] at h
  | .getObj .., a, h, w => by simp [quiet] at h
  | .setObj .., a, h, w => by simp [quiet] at h
  | .choose .., a, h, w => by simp [quiet] at h
  | .sys .., a, h, w => by simp [quiet] at h
theorem quiet_panic {α : Type} {P : Program} : ∀ {x : Sem α} {v : Value}, quiet P x = some (.error v) → ∀ w, x.run P w = .halt (.panic v) w
  | .pure b, a, h, w => by simp [quiet] at h
  | .program k, a, h, w => by rw [quiet] at h; rw [Sem.run]; exact quiet_panic h w
  | .mark m k, a, h, w => by rw [quiet] at h; rw [Sem.run]; exact quiet_panic h w
  | .halt h', a, h, w => by cases h' <;> simp [quiet] at h; subst h; rfl
  | .load .., a, h, w => by simp [quiet] at h
  | .store .., a, h, w => by simp [quiet] at h
  | .new .., a, h, w => by simp [quiet] at h
  | .shape .., a, h, w => by simp [quiet] at h
  | .freeze .., a, h, w => by simp [quiet] at h
  | .frozen .., a, h, w => by simp [quiet] at h
  | .getObj .., a, h, w => by simp [quiet] at h
  | .setObj .., a, h, w => by simp [quiet] at h
  | .choose .., a, h, w => by simp [quiet] at h
  | .sys .., a, h, w => by simp [quiet] at h

theorem eqS_eq_aux : True := trivial
end Go.Ev

/- EvE: A machine that runs a call whose values are known: its memory. -/
namespace Go.Ev
open Go.RowKit

mutual
theorem eqS_eq : ∀ (a b : SV), eqS a b = true → a = b
  | .bool a, b, h => by cases b <;> simp [eqS] at h; rw [h]
  | .int j a, b, h => by cases b <;> simp [eqS] at h; rw [h.1, h.2]
  | .str s, b, h => by
    cases b <;> simp [eqS] at h
    rename_i t
    cases s; cases t
    simp at h
    rw [h]
  | .nilp, b, h => by cases b <;> simp [eqS] at h; rfl
  | .nils, b, h => by cases b <;> simp [eqS] at h; rfl
  | .nilm, b, h => by cases b <;> simp [eqS] at h; rfl
  | .nilf, b, h => by cases b <;> simp [eqS] at h; rfl
  | .nili, b, h => by cases b <;> simp [eqS] at h; rfl
  | .opq k, b, h => by cases b <;> simp [eqS] at h; rw [h]
  | .glob g o, b, h => by cases b <;> simp [eqS] at h; rw [h.1, h.2]
  | .ptr g o, b, h => by cases b <;> simp [eqS] at h; rw [h.1, h.2]
  | .slice a c d e, b, h => by cases b <;> simp [eqS] at h; obtain ⟨⟨⟨rfl, rfl⟩, rfl⟩, rfl⟩ := h; rfl
  | .gslice a c d e, b, h => by cases b <;> simp [eqS] at h; obtain ⟨⟨⟨rfl, rfl⟩, rfl⟩, rfl⟩ := h; rfl
  | .map a, b, h => by cases b <;> simp [eqS] at h; rw [h]
  | .func f a c, b, h => by
    cases b <;> simp [eqS] at h
    obtain ⟨⟨rfl, h1⟩, h2⟩ := h
    rw [eqSs_eq _ _ h1, eqSs_eq _ _ h2]
  | .yield a, b, h => by cases b <;> simp [eqS] at h; rw [h]
  | .meth a c d e, b, h => by cases b <;> simp [eqS] at h; obtain ⟨⟨⟨rfl, rfl⟩, rfl⟩, rfl⟩ := h; rfl
  | .iface t a, b, h => by
    cases b <;> simp [eqS] at h
    obtain ⟨rfl, h1⟩ := h
    rw [eqS_eq _ _ h1]
  | .agg a, b, h => by cases b <;> simp [eqS] at h; rw [eqSs_eq _ _ h]
  | .tuple a, b, h => by cases b <;> simp [eqS] at h; rw [eqSs_eq _ _ h]
theorem eqSs_eq : ∀ (a b : List SV), eqSs a b = true → a = b
  | [], b, h => by cases b <;> simp [eqSs] at h; rfl
  | x :: r, b, h => by
    cases b <;> simp [eqSs] at h
    rw [eqS_eq _ _ h.1, eqSs_eq _ _ h.2]
end
theorem eqO_eq {a b : SO} (h : eqO a b = true) : a = b := by
  unfold eqO at h
  split at h
  · simp at h; rw [eqSs_eq _ _ h.1, h.2]
  · simp at h; rw [h]
  · cases h

section
variable (P : Program) (ν : Nat → Value)

def densM (E : Env) : List (SV × SV × Nat) → Option (List MapEntry)
  | [] => some []
  | (k, v, b) :: r => (den ν E k).bind fun k' => (den ν E v).bind fun v' => (densM E r).map fun l => { key := k', val := v', born := b } :: l

def denD (E : Env) : SD → Option Deferred
  | .fn f caps args => (dens ν E caps).bind fun c => (dens ν E args).map fun a => { target := .fn (.func f) c.toArray, args := a.toArray }
  | .coll b => (blk E b).map fun p => { target := .collected p.1, args := #[] }
def densD (E : Env) : List SD → Option (List Deferred)
  | [] => some []
  | x :: r => (denD ν E x).bind fun v => (densD E r).map fun l => v :: l

/-- What a block stands for. -/
def ORel (E : Env) (k : Nat) : SO → Obj → Prop
  | .cells c t, o => ∃ l, dens ν E c = some l ∧ o = .cells l.toArray t
  | .row c t, o => ∃ l rest n, dens ν E c = some l ∧ o = .cells (l ++ rest).toArray t ∧ sizeOfT P t = some n ∧ k * n ≤ (l ++ rest).length ∧ c.length ≤ k * n
  | .map es clock, o => ∃ l, densM ν E es = some l ∧ o = .map l.toArray clock
  | .siter s pos, o => o = .stringIter s pos
  | .loop st pend fn tmps params assign body d, o => ∃ l r k, dens ν E tmps = some l ∧ blk E d = some (r, k) ∧ o = .loop { state := st, pending := pend, fn := fn, tmps := l.toArray, params := params, assign := assign, body := body, defers := r }
  | .defd none, o => o = .deferred none
  | .defd (some l), o => ∃ l', densD ν E l = some l' ∧ o = .deferred (some l')
  | .gone, _ => True

def goneB : SO → Bool
  | .gone => true
  | _ => false

structure WRel (w0 : World) (E : Env) (H : List SO) (w : World) : Prop where
  below : Below w0.heap.size w0 w
  len : E.length = H.length
  obj : ∀ (b : Nat) (o : SO) (r k : Nat), H[b]? = some o → E[b]? = some (.lies r k) → w0.heap.size ≤ r ∧ r < w.heap.size ∧ (goneB o = false → ∃ ob, w.heap[r]? = some ob ∧ ORel P ν E k o ob)
  apart : ∀ (b b' r k k' : Nat) (o o' : SO), b ≠ b' → E[b]? = some (.lies r k) → E[b']? = some (.lies r k') → H[b]? = some o → H[b']? = some o' → goneB o = true ∨ goneB o' = true
end

variable {P : Program} {ν : Nat → Value}
theorem densM_mono {d : Nat} {E E' : Env} (h : Ext d E E') : ∀ (s : List (SV × SV × Nat)) (v : List MapEntry), densM ν E s = some v → densM ν E' s = some v
  | [], v, e => by simpa [densM] using e
  | (k, x, b) :: r, v, e => by
    rw [densM] at e ⊢
    cases hk : den ν E k with
    | none => rw [hk] at e; cases e
    | some k' => cases hx : den ν E x with
      | none => rw [hk, hx] at e; cases e
      | some x' => cases hr : densM ν E r with
        | none => rw [hk, hx, hr] at e; cases e
        | some r' => rw [den_mono h _ _ hk, den_mono h _ _ hx, densM_mono h _ _ hr]; rw [hk, hx, hr] at e; exact e
theorem denD_mono {d : Nat} {E E' : Env} (h : Ext d E E') {s : SD} {v : Deferred} (e : denD ν E s = some v) : denD ν E' s = some v := by
  cases s with
  | fn f caps args =>
    rw [denD] at e ⊢
    cases hc : dens ν E caps with
    | none => rw [hc] at e; cases e
    | some c => cases ha : dens ν E args with
      | none => rw [hc, ha] at e; cases e
      | some a => rw [dens_mono h _ _ hc, dens_mono h _ _ ha]; rw [hc, ha] at e; exact e
  | coll b =>
    rw [denD] at e ⊢
    cases hx : blk E b with
    | none => rw [hx] at e; cases e
    | some p => obtain ⟨r, k⟩ := p; rw [hx] at e; rw [h.blk hx]; exact e
theorem densD_cons {E : Env} {x : SD} {r : List SD} {l : List Deferred} : densD ν E (x :: r) = some l ↔ ∃ v t, denD ν E x = some v ∧ densD ν E r = some t ∧ l = v :: t := by
  rw [densD]
  cases hx : denD ν E x with
  | none => simp
  | some v => cases hr : densD ν E r with
    | none => simp
    | some t => simp [eq_comm]
theorem densD_mono {d : Nat} {E E' : Env} (h : Ext d E E') : ∀ (s : List SD) (v : List Deferred), densD ν E s = some v → densD ν E' s = some v
  | [], v, e => by simpa [densD] using e
  | x :: r, v, e => by
    obtain ⟨a, t, ha, ht, rfl⟩ := densD_cons.1 e
    exact densD_cons.2 ⟨a, t, denD_mono h ha, densD_mono h r t ht, rfl⟩
theorem densD_append {E : Env} : ∀ {s t : List SD} {l m : List Deferred}, densD ν E s = some l → densD ν E t = some m → densD ν E (s ++ t) = some (l ++ m)
  | [], t, l, m, h, h' => by simp [densD] at h; subst h; simpa using h'
  | x :: r, t, l, m, h, h' => by
    obtain ⟨v, u, hv, hu, rfl⟩ := densD_cons.1 h
    exact densD_cons.2 ⟨v, u ++ m, hv, densD_append hu h', rfl⟩

theorem ORel.mono {d : Nat} {E E' : Env} (h : Ext d E E') {k : Nat} {o : SO} {ob : Obj} (hr : ORel P ν E k o ob) : ORel P ν E' k o ob := by
  cases o with
  | cells c t => obtain ⟨l, h1, h2⟩ := hr; exact ⟨l, dens_mono h _ _ h1, h2⟩
  | row c t => obtain ⟨l, rest, n, h1, h2⟩ := hr; exact ⟨l, rest, n, dens_mono h _ _ h1, h2⟩
  | map es clock => obtain ⟨l, h1, h2⟩ := hr; exact ⟨l, densM_mono h _ _ h1, h2⟩
  | siter s pos => exact hr
  | loop st pend fn tmps params assign body dd => obtain ⟨l, r, k, h1, h2, h3⟩ := hr; exact ⟨l, r, k, dens_mono h _ _ h1, h.blk h2, h3⟩
  | defd c => cases c with
    | none => exact hr
    | some l => obtain ⟨l', h1, h2⟩ := hr; exact ⟨l', densD_mono h _ _ h1, h2⟩
  | gone => trivial

theorem heap_setCell (w : World) (r off : Nat) (v : Value) {c : Array Value} {t : TypeId} {fz : Nat × Nat} (h : w.heap[r]? = some (.cells c t fz)) :
    w.setCell ⟨r, off, none⟩ v = { w with heap := w.heap.setIfInBounds r (.cells (c.setIfInBounds off v) t fz) } := by
  have hlt := (Array.getElem?_eq_some_iff.1 h).1
  unfold World.setCell
  congr 1
  apply Array.ext_getElem?
  intro i
  rw [Array.getElem?_modify, Array.getElem?_setIfInBounds]
  by_cases hi : r = i
  · subst hi
    have hg : w.heap[r] = .cells c t fz := (Array.getElem?_eq_some_iff.1 h).2
    simp [hlt, hg]
  · simp [hi]

/-- A block is written. -/
theorem WRel.upd {w0 : World} {E : Env} {H : List SO} {w : World} (h : WRel P ν w0 E H w) {b r k : Nat} {o o' : SO} {ob : Obj} (hb : H[b]? = some o) (hE : E[b]? = some (.lies r k)) (hg : goneB o = false) (hr : ORel P ν E k o' ob) :
    WRel P ν w0 E (H.set b o') { w with heap := w.heap.setIfInBounds r ob } := by
  obtain ⟨hbase, _, hob⟩ := h.obj b o r k hb hE
  obtain ⟨ob0, h0, _⟩ := hob hg
  have hlt := (Array.getElem?_eq_some_iff.1 h0).1
  have hbl := (List.getElem?_eq_some_iff.1 hb).1
  refine ⟨?_, by simp [h.len], ?_, ?_⟩
  · refine h.below.trans ⟨rfl, rfl, rfl, by simp, fun i hi => ?_⟩
    simp only
    rw [Array.getElem?_setIfInBounds, if_neg (by omega)]
  · intro b' o1 r' k' hb' hE'
    by_cases e : b = b'
    · subst e
      rw [hE] at hE'
      cases hE'
      refine ⟨hbase, by simpa using hlt, fun _ => ⟨ob, by simp [hlt], ?_⟩⟩
      rw [List.getElem?_set_self hbl] at hb'
      cases hb'
      exact hr
    · rw [List.getElem?_set_ne e] at hb'
      obtain ⟨g1, g0, g2⟩ := h.obj b' o1 r' k' hb' hE'
      refine ⟨g1, by simpa using g0, fun hg' => ?_⟩
      obtain ⟨ob', g3, g4⟩ := g2 hg'
      refine ⟨ob', ?_, g4⟩
      have hne : r ≠ r' := fun e' => by
        subst e'
        rcases h.apart b b' r k k' o o1 e hE hE' hb hb' with g | g
        · rw [hg] at g; cases g
        · rw [hg'] at g; cases g
      simp only
      rw [Array.getElem?_setIfInBounds, if_neg hne]
      exact g3
  · intro b1 b2 r1 k1 k2 o1 o2 hne e1 e2 g1 g2
    have key : ∀ (b1 : Nat) (o1 : SO), (H.set b o')[b1]? = some o1 → ∃ o1', H[b1]? = some o1' ∧ (goneB o1' = true → b1 ≠ b ∧ goneB o1 = true) := by
      intro b1 o1 g1
      by_cases e : b = b1
      · subst e; exact ⟨o, hb, fun hh => by rw [hg] at hh; cases hh⟩
      · rw [List.getElem?_set_ne e] at g1; exact ⟨o1, g1, fun hh => ⟨fun e' => e e'.symm, hh⟩⟩
    obtain ⟨o1', f1, f2⟩ := key b1 o1 g1
    obtain ⟨o2', f3, f4⟩ := key b2 o2 g2
    rcases h.apart b1 b2 r1 k1 k2 o1' o2' hne e1 e2 f1 f3 with g | g
    · exact .inl (f2 g).2
    · exact .inr (f4 g).2

/-- A new block. -/
theorem WRel.new {w0 : World} {E : Env} {H : List SO} {w : World} (h : WRel P ν w0 E H w) {k : Nat} {o : SO} {ob : Obj} (hr : ORel P ν (E ++ [.lies w.heap.size k]) k o ob) :
    WRel P ν w0 (E ++ [.lies w.heap.size k]) (H ++ [o]) { w with heap := w.heap.push ob } := by
  have hx := Ext.push 0 E (.lies w.heap.size k)
  have old : ∀ b x, (E ++ [Ent.lies w.heap.size k])[b]? = some x → b < E.length → E[b]? = some x := fun b x hb hlt => by rw [List.getElem?_append_left hlt] at hb; exact hb
  refine ⟨?_, by simp [h.len], ?_, ?_⟩
  · refine h.below.trans ⟨rfl, rfl, rfl, by simp, fun i hi => ?_⟩
    have := h.below.size
    simp only
    rw [Array.getElem?_push, if_neg (by omega)]
  · intro b o1 r k' hb hE
    by_cases hlt : b < E.length
    · have hE1 := old b _ hE hlt
      rw [List.getElem?_append_left (by rw [← h.len]; exact hlt)] at hb
      obtain ⟨g1, g0, g2⟩ := h.obj b o1 r k' hb hE1
      refine ⟨g1, by simp; omega, fun hg => ?_⟩
      obtain ⟨ob', g3, g4⟩ := g2 hg
      have hlt' := (Array.getElem?_eq_some_iff.1 g3).1
      refine ⟨ob', ?_, g4.mono hx⟩
      simp only
      rw [Array.getElem?_push, if_neg (by omega)]; exact g3
    · have hb1 : b = E.length := by
        have := (List.getElem?_eq_some_iff.1 hE).1
        simp at this; omega
      subst hb1
      rw [List.getElem?_concat_length] at hE
      rw [h.len, List.getElem?_concat_length] at hb
      cases hE; cases hb
      exact ⟨h.below.size, by simp, fun _ => ⟨ob, by simp, hr⟩⟩
  · intro b1 b2 r1 k1 k2 o1 o2 hne e1 e2 g1 g2
    have l1 := (List.getElem?_eq_some_iff.1 e1).1
    have l2 := (List.getElem?_eq_some_iff.1 e2).1
    simp at l1 l2
    by_cases c1 : b1 < E.length
    · by_cases c2 : b2 < E.length
      · rw [List.getElem?_append_left (by rw [← h.len]; exact c1)] at g1
        rw [List.getElem?_append_left (by rw [← h.len]; exact c2)] at g2
        exact h.apart b1 b2 r1 k1 k2 o1 o2 hne (old _ _ e1 c1) (old _ _ e2 c2) g1 g2
      · have : b2 = E.length := by omega
        subst this
        rw [List.getElem?_concat_length] at e2
        cases e2
        rw [List.getElem?_append_left (by rw [← h.len]; exact c1)] at g1
        have := (h.obj b1 o1 _ _ g1 (old _ _ e1 c1)).2.1
        omega
    · have : b1 = E.length := by omega
      subst this
      have c2 : b2 < E.length := by omega
      rw [List.getElem?_concat_length] at e1
      cases e1
      rw [List.getElem?_append_left (by rw [← h.len]; exact c2)] at g2
      have := (h.obj b2 o2 _ _ g2 (old _ _ e2 c2)).2.1
      omega

/-- A block that is still to be made. -/
theorem WRel.owe {w0 : World} {E : Env} {H : List SO} {w : World} (h : WRel P ν w0 E H w) (d : Nat) (o : SO) : WRel P ν w0 (E ++ [.pend d]) (H ++ [o]) w := by
  have hx := Ext.push 0 E (.pend d)
  have old : ∀ (b r k : Nat), (E ++ [Ent.pend d])[b]? = some (.lies r k) → E[b]? = some (.lies r k) := fun b r k hb => by
    by_cases hlt : b < E.length
    · rw [List.getElem?_append_left hlt] at hb; exact hb
    · have := (List.getElem?_eq_some_iff.1 hb).1
      simp at this
      have hb1 : b = E.length := by omega
      subst hb1
      rw [List.getElem?_concat_length] at hb
      cases hb
  have oldH : ∀ (b r k : Nat) (o1 : SO), E[b]? = some (.lies r k) → (H ++ [o])[b]? = some o1 → H[b]? = some o1 := fun b r k o1 hE hb => by
    have := (List.getElem?_eq_some_iff.1 hE).1
    rw [List.getElem?_append_left (by rw [← h.len]; exact this)] at hb; exact hb
  refine ⟨h.below, by simp [h.len], ?_, ?_⟩
  · intro b o1 r k hb hE
    have hE1 := old b r k hE
    obtain ⟨g1, g0, g2⟩ := h.obj b o1 r k (oldH b r k o1 hE1 hb) hE1
    exact ⟨g1, g0, fun hg => let ⟨ob, g3, g4⟩ := g2 hg; ⟨ob, g3, g4.mono hx⟩⟩
  · intro b1 b2 r1 k1 k2 o1 o2 hne e1 e2 g1 g2
    exact h.apart b1 b2 r1 k1 k2 o1 o2 hne (old _ _ _ e1) (old _ _ _ e2) (oldH _ _ _ _ (old _ _ _ e1) g1) (oldH _ _ _ _ (old _ _ _ e2) g2)

theorem Ext.make {d : Nat} {E : Env} {b : Nat} (h : E[b]? = some (.pend d)) (r k : Nat) : Ext d E (E.set b (.lies r k)) :=
  ⟨by simp, fun b' r' k' h' => by
      by_cases e : b = b'
      · subst e; rw [h] at h'; cases h'
      · rw [List.getElem?_set_ne e]; exact h',
    fun b' e' h' hd => by
      by_cases e : b = b'
      · subst e; rw [h] at h'; cases h'; exact absurd rfl hd
      · rw [List.getElem?_set_ne e]; exact h'⟩

/-- What was owed is made. -/
theorem WRel.make {w0 : World} {E : Env} {H : List SO} {w : World} (h : WRel P ν w0 E H w) {d b k : Nat} {o : SO} {ob : Obj} (hE : E[b]? = some (.pend d)) (hb : H[b]? = some o) (hr : ORel P ν E k o ob) :
    WRel P ν w0 (E.set b (.lies w.heap.size k)) H { w with heap := w.heap.push ob } := by
  have hx := Ext.make hE w.heap.size k
  have hbl := (List.getElem?_eq_some_iff.1 hE).1
  have old : ∀ (b' r' k' : Nat), b ≠ b' → (E.set b (Ent.lies w.heap.size k))[b']? = some (.lies r' k') → E[b']? = some (.lies r' k') := fun b' r' k' e hb => by
    rw [List.getElem?_set_ne e] at hb; exact hb
  refine ⟨?_, by simp [h.len], ?_, ?_⟩
  · refine h.below.trans ⟨rfl, rfl, rfl, by simp, fun i hi => ?_⟩
    have := h.below.size
    simp only
    rw [Array.getElem?_push, if_neg (by omega)]
  · intro b' o1 r k' hb' hE'
    by_cases e : b = b'
    · subst e
      rw [List.getElem?_set_self hbl] at hE'
      cases hE'
      rw [hb] at hb'
      cases hb'
      exact ⟨h.below.size, by simp, fun _ => ⟨ob, by simp, hr.mono hx⟩⟩
    · obtain ⟨g1, g0, g2⟩ := h.obj b' o1 r k' hb' (old b' r k' e hE')
      refine ⟨g1, by simp; omega, fun hg => ?_⟩
      obtain ⟨ob', g3, g4⟩ := g2 hg
      refine ⟨ob', ?_, g4.mono hx⟩
      simp only
      rw [Array.getElem?_push, if_neg (by omega)]; exact g3
  · intro b1 b2 r1 k1 k2 o1 o2 hne e1 e2 g1 g2
    by_cases c1 : b = b1
    · subst c1
      rw [List.getElem?_set_self hbl] at e1
      cases e1
      have := (h.obj b2 o2 _ _ g2 (old b2 _ _ hne e2)).2.1
      omega
    · by_cases c2 : b = b2
      · subst c2
        rw [List.getElem?_set_self hbl] at e2
        cases e2
        have := (h.obj b1 o1 _ _ g1 (old b1 _ _ c1 e1)).2.1
        omega
      · exact h.apart b1 b2 r1 k1 k2 o1 o2 hne (old _ _ _ c1 e1) (old _ _ _ c2 e2) g1 g2

/-- New blocks of others. -/
theorem WRel.others {w0 : World} {E : Env} {H : List SO} {w w' : World} (h : WRel P ν w0 E H w) (hb : Below w.heap.size w w') : WRel P ν w0 E H w' := by
  refine ⟨h.below.trans (hb.mono h.below.size), h.len, fun b o r k h1 h2 => ?_, h.apart⟩
  obtain ⟨g1, g0, g2⟩ := h.obj b o r k h1 h2
  exact ⟨g1, Nat.lt_of_lt_of_le g0 hb.size, fun hg => let ⟨ob, g3, g4⟩ := g2 hg; ⟨ob, by rw [hb.block r g0]; exact g3, g4⟩⟩

/-- A block goes by a new number. -/
theorem WRel.rename {w0 : World} {E : Env} {H : List SO} {w : World} (h : WRel P ν w0 E H w) {b r k : Nat} {o : SO} (hb : H[b]? = some o) (hE : E[b]? = some (.lies r k)) :
    WRel P ν w0 (E ++ [.lies r k]) (H.set b .gone ++ [o]) w := by
  have hbl := (List.getElem?_eq_some_iff.1 hb).1
  have hx := Ext.push 0 E (.lies r k)
  have hlen : (H.set b SO.gone).length = E.length := by simp [h.len]
  have old : ∀ (b' r' k' : Nat), b' < E.length → (E ++ [Ent.lies r k])[b']? = some (.lies r' k') → E[b']? = some (.lies r' k') := fun b' r' k' hlt hb => by
    rw [List.getElem?_append_left hlt] at hb; exact hb
  have oldH : ∀ (b' : Nat) (o1 : SO), b' < E.length → (H.set b SO.gone ++ [o])[b']? = some o1 → (b' = b ∧ o1 = .gone) ∨ (b' ≠ b ∧ H[b']? = some o1) := fun b' o1 hlt hb' => by
    rw [List.getElem?_append_left (by rw [hlen]; exact hlt)] at hb'
    by_cases e : b = b'
    · subst e; rw [List.getElem?_set_self hbl] at hb'; cases hb'; exact .inl ⟨rfl, rfl⟩
    · rw [List.getElem?_set_ne e] at hb'; exact .inr ⟨fun e' => e e'.symm, hb'⟩
  have new : ∀ (b' : Nat) (x : Ent) (o1 : SO), (E ++ [Ent.lies r k])[b']? = some x → (H.set b SO.gone ++ [o])[b']? = some o1 → ¬ b' < E.length → b' = E.length ∧ x = .lies r k ∧ o1 = o := fun b' x o1 h1 h2 hn => by
    have := (List.getElem?_eq_some_iff.1 h1).1
    simp at this
    have hb1 : b' = E.length := by omega
    subst hb1
    rw [List.getElem?_concat_length] at h1
    rw [← hlen, List.getElem?_concat_length] at h2
    cases h1; cases h2
    exact ⟨rfl, rfl, rfl⟩
  refine ⟨h.below, by simp [h.len], ?_, ?_⟩
  · intro b' o1 r' k' hb' hE'
    by_cases hlt : b' < E.length
    · have hE1 := old b' r' k' hlt hE'
      rcases oldH b' o1 hlt hb' with ⟨rfl, rfl⟩ | ⟨hne, hb1⟩
      · obtain ⟨g1, g0, _⟩ := h.obj b' o r' k' hb hE1
        exact ⟨g1, g0, fun hg => by cases hg⟩
      · obtain ⟨g1, g0, g2⟩ := h.obj b' o1 r' k' hb1 hE1
        exact ⟨g1, g0, fun hg => let ⟨ob, g3, g4⟩ := g2 hg; ⟨ob, g3, g4.mono hx⟩⟩
    · obtain ⟨_, e1, rfl⟩ := new b' _ o1 hE' hb' hlt
      cases e1
      obtain ⟨g1, g0, g2⟩ := h.obj b _ r k hb hE
      exact ⟨g1, g0, fun hg => let ⟨ob, g3, g4⟩ := g2 hg; ⟨ob, g3, g4.mono hx⟩⟩
  · have key : ∀ (b2 r1 k2 : Nat) (o2 : SO), r1 = r → b2 < E.length → (E ++ [Ent.lies r k])[b2]? = some (.lies r1 k2) → (H.set b SO.gone ++ [o])[b2]? = some o2 → goneB o = true ∨ goneB o2 = true := by
      intro b2 r1 k2 o2 hr hlt e2 g2
      subst hr
      rcases oldH b2 o2 hlt g2 with ⟨rfl, rfl⟩ | ⟨hne, hb1⟩
      · exact .inr rfl
      · exact h.apart b b2 r1 k k2 o o2 (fun e => hne e.symm) hE (old _ _ _ hlt e2) hb hb1
    intro b1 b2 r1 k1 k2 o1 o2 hne e1 e2 g1 g2
    by_cases c1 : b1 < E.length
    · by_cases c2 : b2 < E.length
      · rcases oldH b1 o1 c1 g1 with ⟨rfl, rfl⟩ | ⟨n1, f1⟩
        · exact .inl rfl
        · rcases oldH b2 o2 c2 g2 with ⟨rfl, rfl⟩ | ⟨n2, f2⟩
          · exact .inr rfl
          · exact h.apart b1 b2 r1 k1 k2 o1 o2 hne (old _ _ _ c1 e1) (old _ _ _ c2 e2) f1 f2
      · obtain ⟨_, h2, rfl⟩ := new b2 _ o2 e2 g2 c2
        cases h2
        exact (key b1 _ k1 o1 rfl c1 e1 g1).symm
    · obtain ⟨h0, h2, rfl⟩ := new b1 _ o1 e1 g1 c1
      cases h2
      by_cases c2 : b2 < E.length
      · exact key b2 _ k2 o2 rfl c2 e2 g2
      · obtain ⟨h3, _⟩ := new b2 _ o2 e2 g2 c2
        exact absurd (h0.trans h3.symm) hne
/-- A block has gone. -/
theorem WRel.forget {w0 : World} {E : Env} {H : List SO} {w : World} (h : WRel P ν w0 E H w) (b : Nat) : WRel P ν w0 E (H.set b .gone) w := by
  refine ⟨h.below, by simp [h.len], ?_, ?_⟩
  · intro b' o1 r' k' hb' hE'
    by_cases e : b = b'
    · subst e
      have hl : b < H.length := by have := (List.getElem?_eq_some_iff.1 hb').1; simpa using this
      rw [List.getElem?_set_self hl] at hb'
      cases hb'
      obtain ⟨g1, g0, _⟩ := h.obj b H[b] r' k' (List.getElem?_eq_getElem hl) hE'
      exact ⟨g1, g0, fun hg => by cases hg⟩
    · rw [List.getElem?_set_ne e] at hb'
      exact h.obj b' o1 r' k' hb' hE'
  · intro b1 b2 r1 k1 k2 o1 o2 hne e1 e2 g1 g2
    have key : ∀ (b1 : Nat) (o1 : SO), (H.set b SO.gone)[b1]? = some o1 → o1 = .gone ∨ H[b1]? = some o1 := by
      intro b1 o1 g1
      by_cases e : b = b1
      · subst e
        have hl : b < H.length := by have := (List.getElem?_eq_some_iff.1 g1).1; simpa using this
        rw [List.getElem?_set_self hl] at g1
        cases g1; exact .inl rfl
      · rw [List.getElem?_set_ne e] at g1; exact .inr g1
    rcases key b1 o1 g1 with rfl | f1
    · exact .inl rfl
    · rcases key b2 o2 g2 with rfl | f2
      · exact .inr rfl
      · exact h.apart b1 b2 r1 k1 k2 o1 o2 hne e1 e2 f1 f2
end Go.Ev

/- EvF: A machine that runs a call whose values are known: what only reads. -/
namespace Go.Ev
open Go.RowKit

variable {P : Program} {ν : Nat → Value}

theorem run_sizeOfT {t : TypeId} {n : Nat} (h : sizeOfT P t = some n) (w : World) : (sizeOf t).run P w = .ok n w := by
  unfold sizeOfT at h
  cases hi : P.info? t with
  | none => rw [hi] at h; cases h
  | some i => rw [hi] at h; simp at h; simp [sizeOf, typeInfo, hi, h]
theorem run_isAggT {t : TypeId} {b : Bool} (h : isAggT P t = some b) (w : World) : (isAgg t).run P w = .ok b w := by
  unfold isAggT at h
  cases hi : P.underlying t with
  | none => rw [hi] at h; cases h
  | some d =>
    rw [hi] at h
    simp only [Option.map_some, Option.some.injEq] at h
    simp only [isAgg, Sem.run_bind, underlying, run_program, hi, Sem.run_pure, Result.andThen_ok]
    cases d <;> simp at h <;> subst h <;> rfl
theorem run_zeroS {t : TypeId} {z : SV} (h : zeroS P t = some z) (w : World) : ∃ v, (zeroValue t).run P w = .ok v w ∧ ∀ E, den ν E z = some v := by
  unfold zeroS at h
  cases hi : P.info? t with
  | none => rw [hi] at h; cases h
  | some i =>
    rw [hi] at h
    simp only [Option.bind_some] at h
    cases hz : i.zero with
    | none => rw [hz] at h; cases h
    | some v =>
      rw [hz] at h
      simp only [Option.bind_some] at h
      exact ⟨v, by simp [zeroValue, typeInfo, hi, hz], fun E => ofV_den h E⟩

theorem den_cells {E : Env} {s : SV} {v : Value} (h : den ν E s = some v) : dens ν E (cellsS s) = some v.cells.toList := by
  have one : ∀ {s : SV} {v : Value}, den ν E s = some v → (∀ cs, v ≠ .agg cs) → dens ν E [s] = some v.cells.toList := fun {s v} h hv => by
    have : v.cells = #[v] := by cases v <;> first | rfl | exact absurd rfl (hv _)
    rw [this]
    exact dens_cons.2 ⟨v, [], h, by simp [dens], rfl⟩
  cases s with
  | agg l =>
    rw [den] at h
    cases hl : dens ν E l with
    | none => rw [hl] at h; cases h
    | some l' => rw [hl] at h; simp at h; subst h; simpa [cellsS, Value.cells] using hl
  | opq k =>
    refine one h fun cs e => ?_
    rw [den] at h
    split at h
    · rename_i h1
      simp at h
      rw [h, e] at h1
      cases h1
    · cases h
  | func f a c =>
    refine one h fun cs e => ?_
    subst e
    rw [den] at h
    cases ha : dens ν E a with
    | none => rw [ha] at h; cases h
    | some a' => cases hc : dens ν E c with
      | none => rw [ha, hc] at h; cases h
      | some c' => rw [ha, hc] at h; cases h
  | iface t x =>
    refine one h fun cs e => ?_
    subst e
    rw [den] at h
    cases hx : den ν E x with
    | none => rw [hx] at h; cases h
    | some x' => rw [hx] at h; cases h
  | tuple l =>
    refine one h fun cs e => ?_
    subst e
    rw [den] at h
    cases hx : dens ν E l with
    | none => rw [hx] at h; cases h
    | some x' => rw [hx] at h; cases h
  | ptr b off => 
    refine one h fun cs e => ?_
    subst e
    rw [den] at h
    cases hx : blk E b with
    | none => rw [hx] at h; cases h
    | some x' => rw [hx] at h; cases h
  | slice b off n c => 
    refine one h fun cs e => ?_
    subst e
    rw [den] at h
    cases hx : blk E b with
    | none => rw [hx] at h; cases h
    | some x' => rw [hx] at h; cases h
  | gslice b off n c => 
    refine one h fun cs e => ?_
    subst e
    rw [den] at h
    cases hx : blk E b with
    | none => rw [hx] at h; cases h
    | some x' => rw [hx] at h; cases h
  | map b => 
    refine one h fun cs e => ?_
    subst e
    rw [den] at h
    cases hx : blk E b with
    | none => rw [hx] at h; cases h
    | some x' => rw [hx] at h; cases h
  | yield b => 
    refine one h fun cs e => ?_
    subst e
    rw [den] at h
    cases hx : blk E b with
    | none => rw [hx] at h; cases h
    | some x' => rw [hx] at h; cases h
  | _ => exact one h fun cs e => by subst e; simp [den] at h

theorem den_agg {E : Env} {l : List SV} {v : Value} : den ν E (.agg l) = some v ↔ ∃ l', dens ν E l = some l' ∧ v = .agg l'.toArray := by
  rw [den]; cases hl : dens ν E l with
  | none => simp
  | some l' => simp [eq_comm]
theorem den_tuple {E : Env} {l : List SV} {v : Value} : den ν E (.tuple l) = some v ↔ ∃ l', dens ν E l = some l' ∧ v = .tuple l'.toArray := by
  rw [den]; cases hl : dens ν E l with
  | none => simp
  | some l' => simp [eq_comm]
theorem den_iface {E : Env} {t : TypeId} {x : SV} {v : Value} : den ν E (.iface t x) = some v ↔ ∃ u, den ν E x = some u ∧ v = .iface t u := by
  rw [den]; cases hl : den ν E x with
  | none => simp
  | some l' => simp [eq_comm]
theorem den_func {E : Env} {f : FuncId} {a c : List SV} {v : Value} : den ν E (.func f a c) = some v ↔ ∃ a' c', dens ν E a = some a' ∧ dens ν E c = some c' ∧ v = .func (.func f) a'.toArray c'.toArray := by
  rw [den]; cases ha : dens ν E a with
  | none => simp
  | some a' => cases hc : dens ν E c with
    | none => simp
    | some c' => simp [eq_comm]
theorem den_ptr {E : Env} {b off : Nat} {v : Value} : den ν E (.ptr b off) = some v ↔ ∃ r k, E[b]? = some (.lies r k) ∧ v = .pointer (some ⟨r, off, none⟩) := by
  rw [den]; cases hb : blk E b with
  | none => simp; intro r k h; rw [blk_eq.2 h] at hb; cases hb
  | some p => obtain ⟨r, k⟩ := p; have := blk_eq.1 hb; simp [this]; exact ⟨fun h => h.symm, fun h => h.symm⟩
theorem den_slice {E : Env} {b off n c : Nat} {v : Value} : den ν E (.slice b off n c) = some v ↔ ∃ r k, E[b]? = some (.lies r k) ∧ v = .slice (some ⟨r, off, none⟩) n c := by
  rw [den]; cases hb : blk E b with
  | none => simp; intro r k h; rw [blk_eq.2 h] at hb; cases hb
  | some p => obtain ⟨r, k⟩ := p; have := blk_eq.1 hb; simp [this]; exact ⟨fun h => h.symm, fun h => h.symm⟩
theorem den_gslice {E : Env} {b off n c : Nat} {v : Value} : den ν E (.gslice b off n c) = some v ↔ ∃ r k, E[b]? = some (.lies r k) ∧ v = .slice (some ⟨r, off, none⟩) c (k - n) := by
  rw [den]; cases hb : blk E b with
  | none => simp; intro r k h; rw [blk_eq.2 h] at hb; cases hb
  | some p =>
    obtain ⟨r, k⟩ := p
    have := blk_eq.1 hb
    simp only [Option.map_some, Option.some.injEq, this, Ent.lies.injEq]
    constructor
    · rintro rfl; exact ⟨r, k, ⟨rfl, rfl⟩, rfl⟩
    · rintro ⟨_, _, ⟨rfl, rfl⟩, rfl⟩; rfl
theorem den_map {E : Env} {b : Nat} {v : Value} : den ν E (.map b) = some v ↔ ∃ r k, E[b]? = some (.lies r k) ∧ v = .map (some r) := by
  rw [den]; cases hb : blk E b with
  | none => simp; intro r k h; rw [blk_eq.2 h] at hb; cases hb
  | some p => obtain ⟨r, k⟩ := p; have := blk_eq.1 hb; simp [this]; exact ⟨fun h => h.symm, fun h => h.symm⟩
theorem den_yield {E : Env} {b : Nat} {v : Value} : den ν E (.yield b) = some v ↔ ∃ r k, E[b]? = some (.lies r k) ∧ v = .func (.yield r) #[] #[] := by
  rw [den]; cases hb : blk E b with
  | none => simp; intro r k h; rw [blk_eq.2 h] at hb; cases hb
  | some p => obtain ⟨r, k⟩ := p; have := blk_eq.1 hb; simp [this]; exact ⟨fun h => h.symm, fun h => h.symm⟩

/-- A row's first cells. -/
def CellsAt (w : World) (r : Nat) (l : List Value) : Prop := ∀ (i : Nat) (v : Value), l[i]? = some v → w.cell? ⟨r, i, none⟩ = some v
theorem cellsAt_of {w : World} {r : Nat} {l rest : List Value} {t : TypeId} {fz : Nat × Nat} (h : w.heap[r]? = some (.cells (l ++ rest).toArray t fz)) : CellsAt w r l := fun i v hi => by
  have hlt := (List.getElem?_eq_some_iff.1 hi).1
  simp [World.cell?, h, List.getElem?_append_left hlt, hi]
theorem add_off (r off i : Nat) : (Addr.mk r off none).add i = ⟨r, off + i, none⟩ := by
  unfold Addr.add
  split
  · rename_i h; subst h; rfl
  · rfl
theorem row_of {w0 w : World} {E : Env} {H : List SO} (h : WRel P ν w0 E H w) {b r k : Nat} {o : SO} {c : List SV} {t : TypeId} (hb : H[b]? = some o) (hE : E[b]? = some (.lies r k)) (ho : rowOf o = some (c, t)) :
    ∃ l rest, dens ν E c = some l ∧ w.heap[r]? = some (.cells (l ++ rest).toArray t) := by
  obtain ⟨_, _, h3⟩ := h.obj b o r k hb hE
  cases o with
  | cells c' t' =>
    simp [rowOf] at ho
    obtain ⟨rfl, rfl⟩ := ho
    obtain ⟨ob, h4, l, h5, h6⟩ := h3 rfl
    exact ⟨l, [], h5, by rw [h4, h6]; simp⟩
  | row c' t' =>
    simp [rowOf] at ho
    obtain ⟨rfl, rfl⟩ := ho
    obtain ⟨ob, h4, l, rest, n, h5, h6, _⟩ := h3 rfl
    exact ⟨l, rest, h5, by rw [h4, h6]⟩
  | _ => simp [rowOf] at ho

/-- A variable's reading. -/
theorem cut_run {w : World} {E : Env} {t : TypeId} {c : List SV} {off : Nat} {v : SV} (hc : cut P t c off = some v) {l : List Value} (hl : dens ν E c = some l) {r : Nat} (hr : CellsAt w r l) :
    ∃ u, (loadVar t ⟨r, off, none⟩).run P w = .ok u w ∧ den ν E v = some u := by
  unfold cut at hc
  split at hc
  · rename_i n ha hs
    split at hc
    · rename_i hle
      simp at hc
      subst hc
      have hlen := dens_len hl
      have hd : dens ν E ((c.drop off).take n) = some ((l.drop off).take n) := dens_take n (dens_drop off hl)
      refine ⟨.agg ((l.drop off).take n).toArray, ?_, den_agg.2 ⟨_, hd, rfl⟩⟩
      have hcells := run_loadCells_list (P := P) w ⟨r, off, none⟩ ((l.drop off).take n) (fun j v hj => by
        rw [add_off]
        refine hr _ v ?_
        have hjl := (List.getElem?_eq_some_iff.1 hj).1
        rw [List.getElem?_take_of_lt (by simp at hjl; omega), List.getElem?_drop] at hj
        exact hj)
      have hn : ((l.drop off).take n).length = n := by simp; omega
      rw [hn] at hcells
      simp [loadVar, run_isAggT ha, run_sizeOfT hs, hcells]
    · cases hc
  · rename_i ha hs
    obtain ⟨u, h1, h2⟩ := dens_get hl hc
    refine ⟨u, ?_, h2⟩
    have := hr off u h1
    simp [loadVar, run_isAggT ha, this]
  · cases hc

/-- The known cells of package-level variables. -/
def GOk (ν : Nat → Value) (G : Nat → List SV) (w0 : World) : Prop := ∀ g, G g ≠ [] → g < w0.heap.size ∧ ∃ l, dens ν [] (G g) = some l ∧ CellsAt w0 g l
theorem Ext.nil (E : Env) : Ext 0 [] E := ⟨by simp, fun b r k h => by simp at h, fun b e h => by simp at h⟩

theorem loadS_run {w0 w : World} {E : Env} {H : List SO} {G : Nat → List SV} (h : WRel P ν w0 E H w) (hG : GOk ν G w0) {t : TypeId} {a v : SV} (hl : loadS P G H t a = some v) {x : Value} (hx : den ν E a = some x) :
    ∃ r off u, x = .pointer (some ⟨r, off, none⟩) ∧ (loadVar t ⟨r, off, none⟩).run P w = .ok u w ∧ den ν E v = some u := by
  unfold loadS at hl
  split at hl
  · rename_i b off
    obtain ⟨r, k, hE, rfl⟩ := den_ptr.1 hx
    split at hl
    · rename_i c t' hb
      cases hb' : H[b]? with
      | none => rw [hb'] at hb; cases hb
      | some o =>
        rw [hb'] at hb
        obtain ⟨l, rest, h1, h2⟩ := row_of h hb' hE hb
        obtain ⟨u, h3, h4⟩ := cut_run hl h1 (cellsAt_of h2)
        exact ⟨r, off, u, rfl, h3, h4⟩
    · cases hl
  · rename_i g off
    simp [den] at hx
    subst hx
    split at hl
    · cases hl
    rename_i he
    have hne : G g ≠ [] := by simpa using he
    obtain ⟨h1, l, h2, h3⟩ := hG g hne
    have h3' : CellsAt w g l := fun i v hi => by
      rw [h.below.cell (p := ⟨g, i, none⟩) h1]; exact h3 i v hi
    obtain ⟨u, h4, h5⟩ := cut_run hl (dens_mono (Ext.nil E) _ _ h2) h3'
    exact ⟨g, off, u, rfl, h4, h5⟩
  · cases hl
end Go.Ev

/- EvG: A machine that runs a call whose values are known: operations that only read. -/
namespace Go.Ev
open Go.RowKit

variable {P : Program} {ν : Nat → Value}

def Sees (ν : Nat → Value) (E : Env) (tmps : List SV) (ρ : Operand → Value) (o : Oper) : Prop := ∀ x ∈ o.op.operands, ∀ s, ev tmps x = some s → den ν E s = some (ρ x)

theorem evs_dens {E : Env} {tmps : List SV} {ρ : Operand → Value} : ∀ {l : List Operand} {ss : List SV}, (∀ x ∈ l, ∀ s, ev tmps x = some s → den ν E s = some (ρ x)) → evs tmps l = some ss → dens ν E ss = some (l.map ρ)
  | [], ss, _, h => by simp [evs] at h; subst h; simp [dens]
  | x :: r, ss, hρ, h => by
    rw [evs] at h
    split at h
    · rename_i s l hs hl
      simp at h; subst h
      exact dens_cons.2 ⟨ρ x, _, hρ x (by simp) s hs, evs_dens (fun y hy => hρ y (by simp [hy])) hl, rfl⟩
    · cases h
theorem parts_dens {E : Env} {tmps : List SV} {ρ : Operand → Value} : ∀ {l : List (Nat × Operand)} {ss : List (Nat × SV)}, (∀ x ∈ l.map (·.2), ∀ s, ev tmps x = some s → den ν E s = some (ρ x)) → partsS tmps l = some ss →
    ss.map (·.1) = l.map (·.1) ∧ dens ν E (ss.map (·.2)) = some (l.map fun p => ρ p.2)
  | [], ss, _, h => by simp [partsS] at h; subst h; simp [dens]
  | (i, x) :: r, ss, hρ, h => by
    rw [partsS] at h
    split at h
    · rename_i s l hs hl
      simp at h; subst h
      obtain ⟨h1, h2⟩ := parts_dens (fun y hy => hρ y (by simp at hy ⊢; exact .inr hy)) hl
      exact ⟨by simp [h1], dens_cons.2 ⟨ρ x, _, hρ x (by simp) s hs, h2, rfl⟩⟩
    · cases h

theorem fold_set (off : Nat) : ∀ (vs : List Value) (k : Nat) (cs : List Value), off + k + vs.length ≤ cs.length →
    (vs.zipIdx k).foldl (fun (cs : Array Value) (x : Value × Nat) => cs.setIfInBounds (off + x.2) x.1) cs.toArray = (cs.take (off + k) ++ vs ++ cs.drop (off + k + vs.length)).toArray
  | [], k, cs, _ => by simp
  | x :: xs, k, cs, hk => by
    simp only [List.length_cons] at hk
    have hset : (cs.toArray.setIfInBounds (off + k) x) = (cs.take (off + k) ++ x :: cs.drop (off + k + 1)).toArray := by
      rw [List.setIfInBounds_toArray, List.set_eq_take_append_cons_drop, if_pos (by omega)]
    have hA : (cs.take (off + k)).length = off + k := by simp; omega
    rw [List.zipIdx_cons, List.foldl_cons, hset, fold_set off xs (k + 1) _ (by simp; omega)]
    congr 1
    have h1 : (cs.take (off + k) ++ x :: cs.drop (off + k + 1)).take (off + (k + 1)) = cs.take (off + k) ++ [x] := by
      rw [List.take_append, hA, List.take_of_length_le (by omega), show off + (k + 1) - (off + k) = 1 by omega]
      simp
    have h2 : (cs.take (off + k) ++ x :: cs.drop (off + k + 1)).drop (off + (k + 1) + xs.length) = cs.drop (off + k + (xs.length + 1)) := by
      rw [List.drop_append, hA, List.drop_of_length_le (by omega), show off + (k + 1) + xs.length - (off + k) = xs.length + 1 by omega]
      simp [List.drop_drop]
      congr 1; omega
    rw [h1, h2]
    simp

/-- A composite's parts. -/
theorem fill_run {E : Env} {place : Nat → Option (Nat × Nat)} : ∀ {parts : List (Nat × SV)} {cells c : List SV} {vs : List Value} {l : List Value}, fillS place cells parts = some c → dens ν E cells = some l → dens ν E (parts.map (·.2)) = some vs →
    ∃ l', Instr.fill place l.toArray ((parts.map (·.1)).zip vs) = some l'.toArray ∧ dens ν E c = some l'
  | [], cells, c, vs, l, h, hl, hv => by
    simp [fillS] at h; subst h
    simp [dens] at hv; subst hv
    exact ⟨l, by simp [Instr.fill], hl⟩
  | (i, v) :: rest, cells, c, vs, l, h, hl, hv => by
    obtain ⟨u, t, hu, ht, rfl⟩ := dens_cons.1 hv
    rw [fillS] at h
    simp only [List.map_cons, List.zip_cons_cons, Instr.fill]
    cases hp : place i with
    | none => rw [hp] at h; cases h
    | some os =>
      obtain ⟨off, size⟩ := os
      rw [hp] at h
      simp only at h ⊢
      have hc := den_cells hu
      have hlen := dens_len hc
      have hl2 := dens_len hl
      simp at hlen
      split at h
      · cases h
      · rename_i hn
        simp only [bne_iff_ne, ne_eq, Bool.or_eq_true, decide_eq_true_eq, not_or, Decidable.not_not, Nat.not_lt] at hn
        rw [if_neg (by simp; omega)]
        have hd : dens ν E (cells.take off ++ cellsS v ++ cells.drop (off + (cellsS v).length)) = some (l.take off ++ u.cells.toList ++ l.drop (off + (cellsS v).length)) :=
          dens_append (dens_append (dens_take _ hl) hc) (dens_drop _ hl)
        have hf := fold_set off u.cells.toList 0 l (by simp; omega)
        obtain ⟨l', h1, h2⟩ := fill_run (E := E) (place := place) h hd ht
        refine ⟨l', ?_, h2⟩
        rw [← h1]
        congr 1
        rw [← Array.foldl_toList, Array.toList_zipIdx]
        simp only [Nat.add_zero, Array.length_toList] at hf
        rw [hlen] at hf
        rw [hf]
theorem places_run {w : World} {g : Field → Sem (Nat × Nat)} (hg : ∀ (f : Field) n, sizeOfT P f.type = some n → (g f).run P w = .ok (f.offset, n) w) :
    ∀ {fs : List Field} {l : List (Nat × Nat)}, placesOf P fs = some l → (fs.mapM g).run P w = .ok l w
  | [], l, h => by simp [placesOf] at h; subst h; simp
  | f :: r, l, h => by
    rw [placesOf] at h
    split at h
    · rename_i n l' hn hl
      simp at h; subst h
      simp [List.mapM_cons, hg f n hn, places_run hg hl]
    · cases h
theorem buildS_run {w : World} {E : Env} {t : TypeId} {ps : List (Nat × SV)} {v : SV} (h : buildS P t ps = some v) {vs : List Value} (hv : dens ν E (ps.map (·.2)) = some vs) :
    ∃ u, (Instr.build t ((ps.map (·.1)).zip vs).toArray).run P w = .ok u w ∧ den ν E v = some u := by
  unfold buildS at h
  split at h
  · rename_i z fields hz hu
    obtain ⟨zv, hz1, hz2⟩ := run_zeroS (ν := ν) hz w
    split at h
    · rename_i places hp
      cases hf : fillS (fun i => places[i]?) (cellsS z) ps with
      | none => rw [hf] at h; cases h
      | some c =>
        rw [hf] at h
        simp at h; subst h
        obtain ⟨l', h1, h2⟩ := fill_run hf (den_cells (hz2 E)) hv
        refine ⟨.agg l'.toArray, ?_, den_agg.2 ⟨l', h2, rfl⟩⟩
        have hm : (fields.mapM fun (f : Field) => (do pure (f.offset, ← sizeOf f.type) : Sem (Nat × Nat))).run P w = .ok places.toArray w := by
          rw [Array.mapM_eq_mapM_toList, Sem.run_map, places_run (fun f n hn => by simp [run_sizeOfT hn]) hp]
          rfl
        have hm' := hm
        simp only [bind_pure_comp] at hm'
        simp only [Array.toArray_toList] at h1
        simp [Instr.build, hz1, underlying, hu, hm', h1]
    · cases h
  · rename_i z n elem hz hu
    obtain ⟨zv, hz1, hz2⟩ := run_zeroS (ν := ν) hz w
    split at h
    · rename_i size hs
      cases hf : fillS (fun i => some (i * size, size)) (cellsS z) ps with
      | none => rw [hf] at h; cases h
      | some c =>
        rw [hf] at h
        simp at h; subst h
        obtain ⟨l', h1, h2⟩ := fill_run hf (den_cells (hz2 E)) hv
        refine ⟨.agg l'.toArray, ?_, den_agg.2 ⟨l', h2, rfl⟩⟩
        simp only [Array.toArray_toList] at h1
        simp [Instr.build, hz1, underlying, hu, run_sizeOfT hs, h1]
    · cases h
  · cases h
end Go.Ev

/- EvH: A machine that runs a call whose values are known: operations that only read, one by one. -/
namespace Go.Ev
open Go.RowKit

variable {P : Program} {ν : Nat → Value}

theorem addS_den {E : Env} {n : Nat} {x v : SV} (h : addS n x = some v) {u : Value} (hx : den ν E x = some u) : ∃ a, u = .pointer (some a) ∧ den ν E v = some (.pointer (some (a.add n))) := by
  unfold addS at h
  split at h
  · simp at h; subst h
    obtain ⟨r, k, h1, rfl⟩ := den_ptr.1 hx
    exact ⟨_, rfl, den_ptr.2 ⟨r, k, h1, by rw [add_off]⟩⟩
  · simp at h; subst h
    simp [den] at hx; subst hx
    exact ⟨_, rfl, by simp [den, add_off]⟩
  · cases h

theorem fieldS_run {w : World} {E : Env} {s : TypeId} {x v : SV} {f : Nat} (h : fieldS P s x f = some v) {u : Value} (hx : den ν E x = some u) :
    ∃ y, (Instr.fieldAt s u f).run P w = .ok y w ∧ den ν E v = some y := by
  unfold fieldS at h
  split at h
  · rename_i fields hu
    split at h
    · rename_i fd hfd
      split at h
      · rename_i m hs
        obtain ⟨a, rfl, hd⟩ := addS_den h hx
        exact ⟨_, by simp [Instr.fieldAt, underlying, hu, hfd, Instr.sureAddr, fieldPlace, run_sizeOfT hs], hd⟩
      · cases h
    · cases h
  · cases h

theorem indexS_run {w : World} {E : Env} {t : TypeId} {x i v : SV} (h : indexS P t x i = some v) {u j : Value} (hx : den ν E x = some u) (hi : den ν E i = some j) :
    ∃ y, (Instr.indexAt t u j).run P w = .ok y w ∧ den ν E v = some y := by
  unfold indexS at h
  split at h
  · rename_i kk n
    simp [den] at hi; subst hi
    split at h
    · rename_i _ _ len elem hu
      split at h
      · rename_i s hs
        split at h
        · rename_i hlt
          obtain ⟨a, rfl, hd⟩ := addS_den h hx
          refine ⟨_, ?_, hd⟩
          simp [Instr.indexAt, asIntOf, underlying, hu, Instr.sureAddr, run_sizeOfT hs, hlt]
        · cases h
      · cases h
    · rename_i elem b off len cap hu
      split at h
      · rename_i s hs
        split at h
        · rename_i hlt
          simp at h; subst h
          obtain ⟨r, k, h1, rfl⟩ := den_slice.1 hx
          refine ⟨_, ?_, den_ptr.2 ⟨r, k, h1, rfl⟩⟩
          simp [Instr.indexAt, asIntOf, underlying, hu, run_sizeOfT hs, hlt, add_off]
        · cases h
      · cases h
    · rename_i elem b off skip len hu
      split at h
      · rename_i s hs
        split at h
        · rename_i hlt
          simp at h; subst h
          obtain ⟨r, k, h1, rfl⟩ := den_gslice.1 hx
          refine ⟨_, ?_, den_ptr.2 ⟨r, k, h1, rfl⟩⟩
          simp [Instr.indexAt, asIntOf, underlying, hu, run_sizeOfT hs, hlt, add_off]
        · cases h
      · cases h
    · cases h
  · cases h

theorem partS_run {w : World} {E : Env} {t : TypeId} {c : List SV} {off : Nat} {v : SV} (h : partS P t c off = some v) {l : List Value} (hl : dens ν E c = some l) :
    ∃ y, (part t l.toArray off).run P w = .ok y w ∧ den ν E v = some y := by
  unfold partS at h
  split at h
  · rename_i n ha hs
    split at h
    · rename_i hle
      simp at h; subst h
      have hlen := dens_len hl
      refine ⟨.agg (l.toArray.extract off (off + n)), by simp [part, run_isAggT ha, run_sizeOfT hs], den_agg.2 ⟨(l.drop off).take n, dens_take n (dens_drop off hl), ?_⟩⟩
      congr 1
      apply Array.ext'
      simp [List.extract_eq_take_drop]
    · cases h
  · rename_i ha hs
    obtain ⟨u, h1, h2⟩ := dens_get hl h
    exact ⟨u, by simp [part, run_isAggT ha, h1], h2⟩
  · cases h

theorem atS_run {w : World} {E : Env} {t : TypeId} {x i v : SV} (h : atS P t x i = some v) {u j : Value} (hx : den ν E x = some u) (hi : den ν E i = some j) :
    ∃ y, (Instr.index t u j).run P w = .ok y w ∧ den ν E v = some y := by
  unfold atS at h
  split at h
  · rename_i kk n len elem cs hu
    simp [den] at hi; subst hi
    obtain ⟨l, hl, rfl⟩ := den_agg.1 hx
    split at h
    · rename_i s hs
      split at h
      · rename_i hlt
        obtain ⟨y, h1, h2⟩ := partS_run (w := w) h hl
        exact ⟨y, by simp [Instr.index, asIntOf, underlying, hu, hlt, run_sizeOfT hs, h1], h2⟩
      · cases h
    · cases h
  · cases h

theorem assertS_run {w : World} {E : Env} {x v : SV} {xt t : TypeId} {ok : Bool} (h : assertS P x t ok = some v) {u : Value} (hx : den ν E x = some u) :
    ∃ y, (Instr.typeAssert u xt t ok).run P w = .ok y w ∧ den ν E v = some y := by
  unfold assertS at h
  split at h
  · cases h
  · rename_i d hni hu
    simp [den] at hx; subst hx
    split at h
    · rename_i hok
      subst hok
      cases hz : zeroS P t with
      | none => rw [hz] at h; cases h
      | some z =>
        rw [hz] at h
        simp at h; subst h
        obtain ⟨zv, h1, h2⟩ := run_zeroS (ν := ν) hz w
        refine ⟨.tuple #[zv, .bool false], ?_, den_tuple.2 ⟨[zv, .bool false], by simp [dens, den, h2 E], rfl⟩⟩
        cases d <;> first | exact absurd rfl (hni _) | simp [Instr.typeAssert, underlying, hu, h1]
    · cases h
  · rename_i d t' y hni hu
    obtain ⟨y', hy, rfl⟩ := den_iface.1 hx
    split at h
    · rename_i e
      subst e
      simp at h; subst h
      cases ok with
      | true =>
        refine ⟨.tuple #[y', .bool true], ?_, by simp; exact den_tuple.2 ⟨[y', .bool true], by simp [dens, den, hy], rfl⟩⟩
        cases d <;> first | exact absurd rfl (hni _) | simp [Instr.typeAssert, underlying, hu]
      | false =>
        refine ⟨y', ?_, by simpa using hy⟩
        cases d <;> first | exact absurd rfl (hni _) | simp [Instr.typeAssert, underlying, hu]
    · rename_i hne
      split at h
      · rename_i hok
        subst hok
        cases hz : zeroS P t with
        | none => rw [hz] at h; cases h
        | some z =>
          rw [hz] at h
          simp at h; subst h
          obtain ⟨zv, h1, h2⟩ := run_zeroS (ν := ν) hz w
          refine ⟨.tuple #[zv, .bool false], ?_, den_tuple.2 ⟨[zv, .bool false], by simp [dens, den, h2 E], rfl⟩⟩
          have hne' : ¬ t = t' := fun e => hne e.symm
          cases d <;> first | exact absurd rfl (hni _) | simp [Instr.typeAssert, underlying, hu, h1, hne, hne']
      · cases h
  · cases h

theorem blk_inv {E : Env} {b : Nat} {f : Nat × Nat → Value} {v : Value} (h : (blk E b).map f = some v) : ∃ p, v = f p := by
  cases hb : blk E b with
  | none => rw [hb] at h; cases h
  | some p => rw [hb] at h; simp at h; exact ⟨p, h.symm⟩

theorem equal_unfold (t : TypeId) (u v : Value) : Op.equal t u v = Op.equalIn (9999 + 1) t u v := rfl
theorem eqNil_run {w : World} {E : Env} {t : TypeId} {x y : SV} (h : eqNil P t x y = true) {u v : Value} (hx : den ν E x = some u) (hy : den ν E y = some v) :
    (Op.equal t u v).run P w = .ok false w ∧ (∀ (a b : Operand), (eqGuard .eql t a b u v).run P w = .ok () w) ∧ (∀ (a b : Operand), (eqGuard .neq t a b u v).run P w = .ok () w) ∧ binOp .eql t u v = (do pure (.bool (← Op.equal t u v))) ∧ binOp .neq t u v = (do pure (.bool (!(← Op.equal t u v)))) := by
  unfold eqNil at h
  split at h
  all_goals first | (cases h; done) | skip
  all_goals rename_i hu
  all_goals simp only [den, Option.some.injEq] at hx hy
  all_goals first
    | (subst hx; obtain ⟨p, rfl⟩ := blk_inv hy)
    | (subst hy; obtain ⟨p, rfl⟩ := blk_inv hx)
    | (subst hx; obtain ⟨_, _, _, _, rfl⟩ := den_func.1 (by rw [den]; exact hy))
    | (subst hy; obtain ⟨_, _, _, _, rfl⟩ := den_func.1 (by rw [den]; exact hx))
    | (subst hx; obtain ⟨_, _, rfl⟩ := den_iface.1 (by rw [den]; exact hy))
    | (subst hy; obtain ⟨_, _, rfl⟩ := den_iface.1 (by rw [den]; exact hx))
  all_goals exact ⟨by rw [equal_unfold]; unfold Op.equalIn; simp [underlying, hu], fun a b => by simp [eqGuard], fun a b => by simp [eqGuard], rfl, rfl⟩
end Go.Ev

/- EvI: A machine that runs a call whose values are known: slices, maps, and all that only reads. -/
namespace Go.Ev
open Go.RowKit

variable {P : Program} {ν : Nat → Value}

theorem optInt_den {E : Env} {tmps : List SV} {ρ : Operand → Value} {x : Option Operand} {n : Option Nat} (hρ : ∀ y ∈ x.toArray, ∀ s, ev tmps y = some s → den ν E s = some (ρ y)) (h : optInt tmps x = some n) :
    (x.map ρ = none ∧ n = none) ∨ ∃ k m, x.map ρ = some (.int k (m : Nat)) ∧ n = some m := by
  cases x with
  | none => simp [optInt] at h; exact .inl ⟨rfl, h.symm⟩
  | some y =>
    unfold optInt at h
    simp only at h
    split at h
    · rename_i k m he
      simp at h
      have := hρ y (by simp) _ he
      simp [den] at this
      exact .inr ⟨k, m, by simp [← this], h.symm⟩
    · cases h

theorem run_bound {w : World} {k : IntKind} {n y : Nat} {code : BoundsCode} (h : n ≤ y) : (Instr.sliceBound (.int k (n : Nat)) y code).run P w = .ok n w := by
  simp [Instr.sliceBound, asIntOf, h]

theorem bounds_run {w : World} {lo hi : Option Value} {l h : Option Nat} {len cap : Nat} (hl : (lo = none ∧ l = none) ∨ ∃ k m, lo = some (.int k (m : Nat)) ∧ l = some m) (hh : (hi = none ∧ h = none) ∨ ∃ k m, hi = some (.int k (m : Nat)) ∧ h = some m)
    (h1 : l.getD 0 ≤ h.getD len) (h2 : h.getD len ≤ cap) : (Instr.sliceBounds true len cap lo hi none).run P w = .ok (l.getD 0, h.getD len, cap) w := by
  rcases hl with ⟨rfl, rfl⟩ | ⟨k, m, rfl, rfl⟩ <;> rcases hh with ⟨rfl, rfl⟩ | ⟨k', m', rfl, rfl⟩ <;> simp at h1 h2 ⊢ <;> simp [Instr.sliceBounds]
  · simp [run_bound h2]
  · simp [run_bound h1]
  · simp [run_bound h1, run_bound h2]

theorem sliceS_run {w0 w : World} {E : Env} {H : List SO} (hW : WRel P ν w0 E H w) {t : TypeId} {x v : SV} {l h : Option Nat} {lo hi : Option Value} (hs : sliceS P H t x l h = some v) {u : Value} (hx : den ν E x = some u)
    (hl : (lo = none ∧ l = none) ∨ ∃ k m, lo = some (.int k (m : Nat)) ∧ l = some m) (hh : (hi = none ∧ h = none) ∨ ∃ k m, hi = some (.int k (m : Nat)) ∧ h = some m) :
    ∃ y, (Instr.sliceAt t u lo hi none).run P w = .ok y w ∧ den ν E v = some y := by
  unfold sliceS at hs
  split at hs
  · rename_i elem b off len cap hu
    split at hs
    · rename_i n hn
      simp only at hs
      split at hs
      · rename_i hc
        simp only [Bool.and_eq_true, decide_eq_true_eq] at hc
        simp at hs; subst hs
        obtain ⟨r, k, h1, rfl⟩ := den_slice.1 hx
        have hb := bounds_run (P := P) (w := w) hl hh hc.1 hc.2
        refine ⟨_, ?_, den_slice.2 ⟨r, k, h1, rfl⟩⟩
        simp only [Instr.sliceAt, Sem.run_bind, run_underlying hu, Result.andThen_ok, Instr.slice, hb, run_sizeOfT hn, Sem.run_pure]
        congr 2
        split <;> simp [add_off]
      · cases hs
    · cases hs
  · rename_i elem b off skip len hu
    split at hs
    · rename_i n hn
      simp only at hs
      split at hs
      · rename_i hc
        simp only [Bool.and_eq_true, decide_eq_true_eq] at hc
        obtain ⟨⟨⟨c1, c2⟩, c3⟩, c4⟩ := hc
        split at hs
        · rename_i c e hb
          split at hs
          · rename_i hd
            simp only [Bool.and_eq_true, decide_eq_true_eq] at hd
            obtain ⟨d1, rfl⟩ := hd
            simp at hs; subst hs
            obtain ⟨r, k, h1, rfl⟩ := den_gslice.1 hx
            obtain ⟨_, _, h3⟩ := hW.obj b _ r k hb h1
            obtain ⟨ob, _, l', rest, n', _, _, g1, _, g2⟩ := h3 rfl
            rw [hn] at g1
            cases g1
            have hk : skip + len ≤ k := Nat.le_of_mul_le_mul_right (Nat.le_trans d1 g2) (by omega)
            have hbd := bounds_run (P := P) (w := w) (len := len) (cap := k - skip) hl hh c1 (by omega)
            refine ⟨_, ?_, den_gslice.2 ⟨r, k, h1, rfl⟩⟩
            simp only [Instr.sliceAt, Sem.run_bind, run_underlying hu, Result.andThen_ok, Instr.slice, hbd, run_sizeOfT hn, Sem.run_pure]
            rw [if_neg (by omega)]
            simp only [Option.map_some, add_off]
            congr 2
            omega
          · cases hs
        · cases hs
      · cases hs
    · cases hs
  · rename_i elem hu
    simp [den] at hx; subst hx
    split at hs
    · rename_i n hn
      split at hs
      · rename_i hc
        simp only [Bool.and_eq_true, decide_eq_true_eq] at hc
        simp at hs; subst hs
        have hbd := bounds_run (P := P) (w := w) (len := 0) (cap := 0) hl hh (by omega) (by omega)
        rw [hc.1, hc.2] at hbd
        refine ⟨.slice none 0 0, ?_, by simp [den]⟩
        simp [Instr.sliceAt, run_underlying hu, Instr.slice, hbd, run_sizeOfT hn]
      · cases hs
    · cases hs
  · cases hs

theorem bytes_eq {s t : ByteArray} (h : s.data.toList = t.data.toList) : s = t := by
  cases s; cases t; simp at h; simp [h]

theorem beq_bytes (s t : ByteArray) : (s == t) = decide (s.data.toList = t.data.toList) := by
  by_cases e : s.data.toList = t.data.toList
  · have := bytes_eq e
    subst this
    simp
    show (s.data == s.data) = true
    simp
  · simp only [e, decide_false]
    show (s.data == t.data) = false
    simp only [beq_eq_false_iff_ne, ne_eq]
    intro e'
    exact e (by rw [e'])
def FoundAt (ν : Nat → Value) (E : Env) (d : TypeDesc) (u : Value) (l : List MapEntry) (i : Nat) : Option (Nat × SV) → Prop
  | none => Instr.findNow d u l i = some none
  | some (j, v) => ∃ e, l[j]? = some e ∧ e.key = u ∧ den ν E v = some e.val ∧ Instr.findNow d u l i = some (some (i + j, e.val))

theorem findS_now {E : Env} {d : TypeDesc} {k : SV} (hf : fitsK d k = true) {u : Value} (hu : den ν E k = some u) : ∀ {es : List (SV × SV × Nat)} {l : List MapEntry} {r : Option (Nat × SV)} (i : Nat), findS k es = some r → densM ν E es = some l → FoundAt ν E d u l i r
  | [], l, r, i, h, hl => by
    simp [findS] at h; subst h
    simp [densM] at hl; subst hl
    simp [FoundAt, Instr.findNow]
  | (x, v, b) :: rest, l, r, i, h, hl => by
    rw [densM] at hl
    cases hx : den ν E x with
    | none => rw [hx] at hl; cases hl
    | some x' => cases hv : den ν E v with
      | none => rw [hx, hv] at hl; cases hl
      | some v' => cases hr : densM ν E rest with
        | none => rw [hx, hv, hr] at hl; cases hl
        | some l' =>
          rw [hx, hv, hr] at hl
          simp at hl
          subst hl
          have step : ∀ (c : Bool), Instr.sameNow d u x' = some c → (c = true → x' = u) → (if c then some (some (0, v)) else (findS k rest).map fun o => o.map fun p => (p.1 + 1, p.2)) = some r →
              FoundAt ν E d u ({ key := x', val := v', born := b } :: l') i r := by
            intro c hc hxu h
            cases c with
            | true =>
              simp at h; subst h
              exact ⟨_, by simp; rfl, hxu rfl, hv, by simp [Instr.findNow, hc]⟩
            | false =>
              simp only [Bool.false_eq_true, if_false] at h
              cases hfs : findS k rest with
              | none => rw [hfs] at h; cases h
              | some r' =>
                rw [hfs] at h
                simp at h
                have ih := findS_now hf hu (i + 1) hfs hr
                cases r' with
                | none =>
                  simp at h; subst h
                  simp only [FoundAt] at ih ⊢
                  simp [Instr.findNow, hc, ih]
                | some p =>
                  obtain ⟨j, y⟩ := p
                  simp at h; subst h
                  simp only [FoundAt] at ih ⊢
                  obtain ⟨e, h1, h2, h3, h4⟩ := ih
                  refine ⟨e, by simpa using h1, h2, h3, ?_⟩
                  simp [Instr.findNow, hc, h4]
                  omega
          unfold findS at h
          clear hr hv
          split at h
          · rename_i a n c m
            have hd : ∃ kk, d = .int kk := by cases d <;> simp [fitsK] at hf ⊢
            obtain ⟨kk, rfl⟩ := hd
            simp [den] at hu hx; subst hu; subst hx
            split at h
            · rename_i hac
              subst hac
              refine step (decide (n = m)) (by simp [Instr.sameNow]; by_cases e : n = m <;> simp [e]) (fun e => by simp at e; rw [e]) ?_
              by_cases e : n = m <;> simp [e] at h ⊢ <;> exact h
            · cases h
          · rename_i s t
            have hd : d = .string := by cases d <;> simp [fitsK] at hf ⊢
            subst hd
            simp [den] at hu hx; subst hu; subst hx
            refine step (decide (s.data.toList = t.data.toList)) (by simp only [Instr.sameNow, Option.some.injEq]; exact beq_bytes s t) (fun e => by have := bytes_eq (of_decide_eq_true e); rw [this]) ?_
            · by_cases e : s.data.toList = t.data.toList <;> simp [e] at h ⊢ <;> exact h
          · exact nomatch h
theorem checkKey_run {w : World} {E : Env} {t : TypeId} {d : TypeDesc} {k : SV} (hd : P.underlying t = some d) (hf : fitsK d k = true) {u : Value} (hu : den ν E k = some u) (e : Bool) : (Instr.checkKey e 10000 t u).run P w = .ok () w := by
  show (Instr.checkKey e (9999 + 1) t u).run P w = .ok () w
  unfold Instr.checkKey
  simp only [Sem.run_bind, run_underlying hd, Result.andThen]
  cases d <;> cases k <;> simp_all [fitsK, den] <;> subst hu <;> rfl
theorem map_of {w0 w : World} {E : Env} {H : List SO} (h : WRel P ν w0 E H w) {b r k : Nat} {es : List (SV × SV × Nat)} {clock : Nat} (hb : H[b]? = some (.map es clock)) (hE : E[b]? = some (.lies r k)) :
    ∃ l, densM ν E es = some l ∧ w.heap[r]? = some (.map l.toArray clock) := by
  obtain ⟨_, _, h3⟩ := h.obj b _ r k hb hE
  obtain ⟨ob, h4, l, h5, h6⟩ := h3 rfl
  exact ⟨l, h5, by rw [h4, h6]⟩

theorem lookS_run {w0 w : World} {E : Env} {H : List SO} (hW : WRel P ν w0 E H w) {t : TypeId} {m k v : SV} {ok : Bool} (h : lookS P H t m k ok = some v) {u x : Value} (hm : den ν E m = some u) (hk : den ν E k = some x) :
    ∃ y, (Instr.lookup t u x ok).run P w = .ok y w ∧ den ν E v = some y := by
  have out : ∀ (c : Bool) (z : SV) (zv : Value), den ν E z = some zv → den ν E (if ok = true then .tuple [z, .bool c] else z) = some (if ok = true then .tuple #[zv, .bool c] else zv) := fun c z zv hz => by
    cases ok with
    | true => exact den_tuple.2 ⟨[zv, .bool c], by simp [dens, den, hz], rfl⟩
    | false => simpa using hz
  unfold lookS at h
  split at h
  · rename_i key elem b hu
    obtain ⟨r, kk, hE, rfl⟩ := den_map.1 hm
    split at h
    · rename_i d es clock z hd hb hz
      obtain ⟨zv, hz1, hz2⟩ := run_zeroS (ν := ν) hz w
      obtain ⟨l, hl, hw⟩ := map_of hW hb hE
      split at h
      · rename_i hf
        have hf' := hf
        have hck := checkKey_run (w := w) hd hf' hk
        split at h
        · rename_i j y hfs
          simp at h; subst h
          obtain ⟨e, h1, h2, h3, h4⟩ := findS_now hf' hk 0 hfs hl
          refine ⟨_, ?_, out true y e.val h3⟩
          have hfk := MapKept.run_findKey (w := w) hd h4
          simp [Instr.lookup, run_underlying hu, MapKept.run_getObj_map hw, hck, hfk]
        · rename_i hfs
          simp at h; subst h
          have h4 := findS_now hf' hk 0 hfs hl
          simp only [FoundAt] at h4
          refine ⟨_, ?_, out false z zv (hz2 E)⟩
          have hfk := MapKept.run_findKey (w := w) hd h4
          simp [Instr.lookup, run_underlying hu, MapKept.run_getObj_map hw, hck, hfk, hz1]
        · cases h
      · cases h
    · cases h
  · rename_i key elem hu
    simp [den] at hm; subst hm
    split at h
    · rename_i d z hd hz
      obtain ⟨zv, hz1, hz2⟩ := run_zeroS (ν := ν) hz w
      split at h
      · rename_i hf
        have hf' := hf
        have hck := checkKey_run (w := w) hd hf' hk
        simp at h; subst h
        refine ⟨_, ?_, out false z zv (hz2 E)⟩
        have hfk := MapKept.run_findKey (w := w) (l := []) (k := x) hd (a := none) (by simp [Instr.findNow])
        simp [Instr.lookup, run_underlying hu, hck, hfk, hz1]
      · cases h
    · cases h
  · cases h

theorem densM_len {E : Env} : ∀ {es : List (SV × SV × Nat)} {l : List MapEntry}, densM ν E es = some l → l.length = es.length
  | [], l, h => by simp [densM] at h; subst h; rfl
  | (x, v, b) :: r, l, h => by
    rw [densM] at h
    cases hx : den ν E x with
    | none => rw [hx] at h; cases h
    | some x' => cases hv : den ν E v with
      | none => rw [hx, hv] at h; cases h
      | some v' => cases hr : densM ν E r with
        | none => rw [hx, hv, hr] at h; cases h
        | some l' => rw [hx, hv, hr] at h; simp at h; subst h; simp [densM_len hr]

theorem lenS_run {w0 w : World} {E : Env} {H : List SO} (hW : WRel P ν w0 E H w) {t ty : TypeId} {x v : SV} {ts : Array TypeId} (ht : ts[0]? = some t) (h : lenS P H t x = some v) {u : Value} (hx : den ν E x = some u) :
    ∃ y, (Builtin.len_ ts ty #[u]).run P w = .ok y w ∧ den ν E v = some y := by
  unfold lenS at h
  split at h
  · rename_i e b off n c hu
    simp at h; subst h
    obtain ⟨r, k, _, rfl⟩ := den_slice.1 hx
    exact ⟨.int .i64 n, by simp [Builtin.len_, ht, run_underlying hu, goInt], by simp [den]⟩
  · rename_i e b off n c hu
    simp at h; subst h
    obtain ⟨r, k, _, rfl⟩ := den_gslice.1 hx
    exact ⟨.int .i64 c, by simp [Builtin.len_, ht, run_underlying hu, goInt], by simp [den]⟩
  · rename_i a c b hu
    obtain ⟨r, k, hE, rfl⟩ := den_map.1 hx
    split at h
    · rename_i es clock hb
      simp at h; subst h
      obtain ⟨l, hl, hw⟩ := map_of hW hb hE
      exact ⟨.int .i64 es.length, by simp [Builtin.len_, ht, run_underlying hu, MapKept.run_getObj_map hw, goInt, densM_len hl], by simp [den]⟩
    · cases h
  · cases h
end Go.Ev

/- EvJ: A machine that runs a call whose values are known: all that only reads. -/
namespace Go.Ev
open Go.RowKit

variable {P : Program} {ν : Nat → Value}

theorem sq0_run {w0 w : World} {E : Env} {H : List SO} {G : Nat → List SV} {tmps : List SV} {ρ : Operand → Value} {o : Oper} {v : SV} (hW : WRel P ν w0 E H w) (hG : GOk ν G w0) (hρ : Sees ν E tmps ρ o) (h : sq0 P G tmps H o = some v) :
    ∃ u, (execOp ρ o).run P w = .ok (.value u) w ∧ den ν E v = some u := by
  unfold sq0 at h
  unfold Sees at hρ
  split at h
  · rename_i x hop
    rw [hop] at hρ
    exact ⟨ρ x, by simp [execOp, hop], hρ x (by simp [Op.operands]) v h⟩
  · rename_i x hop
    rw [hop] at hρ
    exact ⟨ρ x, by simp [execOp, hop], hρ x (by simp [Op.operands]) v h⟩
  · rename_i c a b hop
    rw [hop] at hρ
    split at h
    · rename_i hc
      have := hρ c (by simp [Op.operands]) _ hc
      simp [den] at this
      exact ⟨ρ a, by simp [execOp, hop, ← this, asBool], hρ a (by simp [Op.operands]) v h⟩
    · rename_i hc
      have := hρ c (by simp [Op.operands]) _ hc
      simp [den] at this
      exact ⟨ρ b, by simp [execOp, hop, ← this, asBool], hρ b (by simp [Op.operands]) v h⟩
    · cases h
  · rename_i t a hop
    rw [hop] at hρ
    cases ha : ev tmps a with
    | none => rw [ha] at h; cases h
    | some s =>
      rw [ha] at h
      obtain ⟨r, off, u, h1, h2, h3⟩ := loadS_run hW hG h (hρ a (by simp [Op.operands]) s ha)
      exact ⟨u, by simp [execOp, hop, Instr.loadAt, h1, Instr.sureAddr, h2], h3⟩
  · rename_i s x f hop
    rw [hop] at hρ
    cases ha : ev tmps x with
    | none => rw [ha] at h; cases h
    | some y =>
      rw [ha] at h
      obtain ⟨u, h1, h2⟩ := fieldS_run (w := w) h (hρ x (by simp [Op.operands]) y ha)
      exact ⟨u, by simp [execOp, hop, h1], h2⟩
  · rename_i s x f hop
    rw [hop] at hρ
    split at h
    · rename_i cs fields ha hu
      split at h
      · rename_i fd hfd
        obtain ⟨l, hl, hx⟩ := den_agg.1 (hρ x (by simp [Op.operands]) _ ha)
        obtain ⟨u, h1, h2⟩ := partS_run (w := w) h hl
        exact ⟨u, by simp [execOp, hop, Instr.field, run_underlying hu, hfd, hx, asAgg, h1], h2⟩
      · cases h
    · cases h
  · rename_i t x i hop
    rw [hop] at hρ
    split at h
    · rename_i a b ha hb
      obtain ⟨u, h1, h2⟩ := indexS_run (w := w) h (hρ x (by simp [Op.operands]) _ ha) (hρ i (by simp [Op.operands]) _ hb)
      exact ⟨u, by simp [execOp, hop, h1], h2⟩
    · cases h
  · rename_i t x i hop
    rw [hop] at hρ
    split at h
    · rename_i a b ha hb
      obtain ⟨u, h1, h2⟩ := atS_run (w := w) h (hρ x (by simp [Op.operands]) _ ha) (hρ i (by simp [Op.operands]) _ hb)
      exact ⟨u, by simp [execOp, hop, h1], h2⟩
    · cases h
  · rename_i t x lo hi hop
    rw [hop] at hρ
    split at h
    · rename_i a l hh ha hl hhi
      obtain ⟨u, h1, h2⟩ := sliceS_run hW h (hρ x (by simp [Op.operands]) _ ha) (optInt_den (fun y hy => hρ y (by simp [Op.operands] at hy ⊢; simp [hy])) hl) (optInt_den (fun y hy => hρ y (by simp [Op.operands] at hy ⊢; simp [hy])) hhi)
      exact ⟨u, by simp [execOp, hop, h1], h2⟩
    · cases h
  · rename_i x i hop
    rw [hop] at hρ
    split at h
    · rename_i l ha
      obtain ⟨l', hl, hx⟩ := den_tuple.1 (hρ x (by simp [Op.operands]) _ ha)
      obtain ⟨u, h1, h2⟩ := dens_get hl h
      exact ⟨u, by simp [execOp, hop, Instr.extract, hx, h1], h2⟩
    · cases h
  · rename_i t x hop
    rw [hop] at hρ
    split at h
    · rename_i d hu
      split at h
      · cases h
      · rename_i hi
        cases ha : ev tmps x with
        | none => rw [ha] at h; cases h
        | some s =>
          rw [ha] at h
          simp at h; subst h
          have hx := hρ x (by simp [Op.operands]) s ha
          refine ⟨.iface t (ρ x), ?_, den_iface.2 ⟨_, hx, rfl⟩⟩
          simp only [execOp, hop, Instr.makeInterface, Sem.run_bind, run_underlying hu, Result.andThen_ok]
          unfold isIfaceT at hi
          rw [hu] at hi
          cases d <;> simp at hi ⊢
    · cases h
  · rename_i f first caps hop
    rw [hop] at hρ
    split at h
    · rename_i a b ha hb
      simp at h; subst h
      have h1 := evs_dens (ρ := ρ) (E := E) (ν := ν) (fun y hy => hρ y (by simp [Op.operands]; exact .inl (by simpa using hy))) ha
      have h2 := evs_dens (ρ := ρ) (E := E) (ν := ν) (fun y hy => hρ y (by simp [Op.operands]; exact .inr (by simpa using hy))) hb
      exact ⟨_, by simp [execOp, hop, Instr.makeFunc]; rfl, den_func.2 ⟨_, _, h1, h2, by
        have e : ∀ (l : Array Operand), l.map ρ = (l.toList.map ρ).toArray := fun l => by apply Array.ext'; simp
        rw [e, e]⟩⟩
    · cases h
  · rename_i x xt t ok hop
    rw [hop] at hρ
    cases ha : ev tmps x with
    | none => rw [ha] at h; cases h
    | some y =>
      rw [ha] at h
      obtain ⟨u, h1, h2⟩ := assertS_run (w := w) (xt := xt) h (hρ x (by simp [Op.operands]) y ha)
      exact ⟨u, by simp [execOp, hop, h1], h2⟩
  · rename_i t parts hop
    rw [hop] at hρ
    cases ha : partsS tmps parts.toList with
    | none => rw [ha] at h; cases h
    | some ps =>
      rw [ha] at h
      obtain ⟨h1, h2⟩ := parts_dens (ρ := ρ) (E := E) (ν := ν) (fun y hy => hρ y (by simp [Op.operands] at hy ⊢; exact hy)) ha
      obtain ⟨u, h3, h4⟩ := buildS_run (w := w) h h2
      refine ⟨u, ?_, h4⟩
      have e : ((ps.map (·.1)).zip (parts.toList.map fun p => ρ p.2)).toArray = parts.map fun (i, x) => (i, ρ x) := by
        rw [h1]
        apply Array.ext'
        simp [List.zip_map', List.zip_eq_zipWith, List.zipWith_map, List.zipWith_self]
      rw [e] at h3
      simp [execOp, hop, h3]
  · rename_i t x y yt hop
    rw [hop] at hρ
    split at h
    · rename_i a b ha hb
      split at h
      · rename_i he
        simp at h; subst h
        obtain ⟨h1, h2, _, h4, _⟩ := eqNil_run (w := w) he (hρ x (by simp [Op.operands]) _ ha) (hρ y (by simp [Op.operands]) _ hb)
        exact ⟨.bool false, by simp [execOp, hop, h2, h4, h1], by simp [den]⟩
      · cases h
    · cases h
  · rename_i t x y yt hop
    rw [hop] at hρ
    split at h
    · rename_i a b ha hb
      split at h
      · rename_i he
        simp at h; subst h
        obtain ⟨h1, _, h2, _, h4⟩ := eqNil_run (w := w) he (hρ x (by simp [Op.operands]) _ ha) (hρ y (by simp [Op.operands]) _ hb)
        exact ⟨.bool true, by simp [execOp, hop, h2, h4, h1], by simp [den]⟩
      · cases h
    · cases h
  · rename_i t m k ok hop
    rw [hop] at hρ
    split at h
    · rename_i a b ha hb
      obtain ⟨u, h1, h2⟩ := lookS_run hW h (hρ m (by simp [Op.operands]) _ ha) (hρ k (by simp [Op.operands]) _ hb)
      exact ⟨u, by simp [execOp, hop, h1], h2⟩
    · cases h
  · rename_i x hop
    rw [hop] at hρ
    split at h
    · rename_i b off ha
      simp at h; subst h
      have hx := hρ x (by simp [Op.operands]) _ ha
      obtain ⟨r, k, _, e⟩ := den_ptr.1 hx
      exact ⟨ρ x, by simp [execOp, hop, e], hx⟩
    · rename_i f a c ha
      simp at h; subst h
      have hx := hρ x (by simp [Op.operands]) _ ha
      obtain ⟨_, _, _, _, e⟩ := den_func.1 hx
      exact ⟨ρ x, by simp [execOp, hop, e], hx⟩
    · rename_i t y ha
      simp at h; subst h
      have hx := hρ x (by simp [Op.operands]) _ ha
      obtain ⟨_, _, e⟩ := den_iface.1 hx
      exact ⟨ρ x, by simp [execOp, hop, e], hx⟩
    · rename_i b ha
      simp at h; subst h
      have hx := hρ x (by simp [Op.operands]) _ ha
      obtain ⟨r, k, _, e⟩ := den_yield.1 hx
      exact ⟨ρ x, by simp [execOp, hop, e], hx⟩
    · cases h
  · rename_i args ts hop
    rw [hop] at hρ
    split at h
    · rename_i x t hx ht
      have hargs : args = #[x] := by rw [← hx]
      cases ha : ev tmps x with
      | none => rw [ha] at h; cases h
      | some s =>
        rw [ha] at h
        obtain ⟨u, h1, h2⟩ := lenS_run (ty := o.type) hW ht h (hρ x (by simp [Op.operands, Call.operands, hargs]) s ha)
        exact ⟨u, by simp [execOp, hop, resolve, invoke, builtin, hargs, h1], h2⟩
    · cases h
  · cases h
end Go.Ev

/- EvK: A machine that runs a call whose values are known: plain operations; operations that make a block. -/
namespace Go.Ev
open Go.RowKit

variable {P : Program} {ν : Nat → Value}

theorem plain_same {E : Env} {tmps : List SV} {ρ : Operand → Value} {o : Oper} (hρ : Sees ν E tmps ρ o) (h : plainArgs tmps o.op.operands.toList = true) (hs : isSelect o.op = false) : execOp ρ o = execOp (pv tmps) o := by
  refine execOp_congr o (fun cs b e => by rw [e] at hs; cases hs) fun x hx => ?_
  have h1 := List.all_eq_true.1 h x (by simpa using hx)
  cases he : ev tmps x with
  | none => rw [he] at h1; cases h1
  | some s =>
    rw [he] at h1
    cases hv : toV s with
    | none => simp [hv] at h1
    | some v =>
      have h2 := hρ x hx s he
      have h3 : den ν E s = some v := toV_den hv E
      rw [h3] at h2
      simp at h2
      simp [pv, he, hv, h2]
theorem sp_ok {w : World} {E : Env} {tmps : List SV} {ρ : Operand → Value} {o : Oper} {v : SV} (hρ : Sees ν E tmps ρ o) (hs : isSelect o.op = false) (h : sp P tmps o = some (.ok v)) :
    ∃ u, (execOp ρ o).run P w = .ok (.value u) w ∧ den ν E v = some u := by
  unfold sp at h
  split at h
  · rename_i hp
    rw [plain_same hρ hp hs]
    split at h
    · rename_i u hq
      cases hu : ofV u with
      | none => rw [hu] at h; cases h
      | some s =>
        rw [hu] at h
        simp at h; subst h
        exact ⟨u, quiet_ok hq w, ofV_den hu E⟩
    · rename_i u hq
      cases hu : ofV u with
      | none => rw [hu] at h; cases h
      | some s => rw [hu] at h; simp at h
    · cases h
  · cases h
theorem sp_panic {w : World} {E : Env} {tmps : List SV} {ρ : Operand → Value} {o : Oper} {v : SV} (hρ : Sees ν E tmps ρ o) (hs : isSelect o.op = false) (h : sp P tmps o = some (.error v)) :
    ∃ u, (execOp ρ o).run P w = .halt (.panic u) w ∧ den ν E v = some u := by
  unfold sp at h
  split at h
  · rename_i hp
    rw [plain_same hρ hp hs]
    split at h
    · rename_i u hq
      cases hu : ofV u with
      | none => rw [hu] at h; cases h
      | some s => rw [hu] at h; simp at h
    · rename_i u hq
      cases hu : ofV u with
      | none => rw [hu] at h; cases h
      | some s =>
        rw [hu] at h
        simp at h; subst h
        exact ⟨u, quiet_panic hq w, ofV_den hu E⟩
    · cases h
  · cases h

theorem contents_run {w0 w : World} {E : Env} {H : List SO} (hW : WRel P ν w0 E H w) {size m : Nat} {s : SV} {c : List SV} (h : contents P H size s = some (c, m)) {v : Value} (hv : den ν E s = some v) :
    ∃ l, dens ν E c = some l ∧ c.length = m * size ∧ ((s = .nils ∧ m = 0 ∧ c = [] ∧ v = .slice none 0 0) ∨ ∃ a cap, v = .slice (some a) m cap ∧ ∀ j u, l[j]? = some u → w.cell? (a.add j) = some u) := by
  have main : ∀ (b off len : Nat) (c' : List SV) (t : TypeId) (r k : Nat) (o : SO), H[b]? = some o → rowOf o = some (c', t) → E[b]? = some (.lies r k) → off + len * size ≤ c'.length →
      ∃ l, dens ν E ((c'.drop off).take (len * size)) = some l ∧ ((c'.drop off).take (len * size)).length = len * size ∧ ∀ j u, l[j]? = some u → w.cell? ((⟨r, off, none⟩ : Addr).add j) = some u := by
    intro b off len c' t r k o hb ho hE hle
    obtain ⟨l, rest, h1, h2⟩ := row_of hW hb hE ho
    have hll := dens_len h1
    refine ⟨_, dens_take _ (dens_drop off h1), by simp; omega, fun j u hj => ?_⟩
    rw [add_off]
    refine cellsAt_of h2 _ u ?_
    have hjl := (List.getElem?_eq_some_iff.1 hj).1
    rw [List.getElem?_take_of_lt (by simp at hjl; omega), List.getElem?_drop] at hj
    exact hj
  unfold contents at h
  split at h
  · simp at h
    obtain ⟨rfl, rfl⟩ := h
    simp [den] at hv
    exact ⟨[], by simp [dens], by simp, .inl ⟨rfl, rfl, rfl, hv.symm⟩⟩
  · rename_i b off len cap
    obtain ⟨r, k, hE, rfl⟩ := den_slice.1 hv
    split at h
    · rename_i c' t hb
      split at h
      · rename_i hle
        simp at h
        obtain ⟨rfl, rfl⟩ := h
        cases hb' : H[b]? with
        | none => rw [hb'] at hb; cases hb
        | some o =>
          rw [hb'] at hb
          obtain ⟨l, h1, h2, h3⟩ := main b off len c' t r k o hb' hb hE hle
          exact ⟨l, h1, h2, .inr ⟨_, _, rfl, h3⟩⟩
      · cases h
    · cases h
  · rename_i b off skip len
    obtain ⟨r, k, hE, rfl⟩ := den_gslice.1 hv
    split at h
    · rename_i c' t hb
      split at h
      · rename_i hle
        simp at h
        obtain ⟨rfl, rfl⟩ := h
        cases hb' : H[b]? with
        | none => rw [hb'] at hb; cases hb
        | some o =>
          rw [hb'] at hb
          obtain ⟨l, h1, h2, h3⟩ := main b off len c' t r k o hb' hb hE hle
          exact ⟨l, h1, h2, .inr ⟨_, _, rfl, h3⟩⟩
      · cases h
    · cases h
  · cases h

theorem bytesS_dens {E : Env} : ∀ {l : List SV} {b : List UInt8}, bytesS l = some b → l.length = b.length ∧ ∀ l', dens ν E l = some l' → ∀ j (hj : j < b.length), l'[j]? = some (.int .u8 (b[j].toNat : Int))
  | [], b, h => by simp [bytesS] at h; subst h; simp
  | x :: r, b, h => by
    cases x with
    | int k n =>
      cases k <;> simp only [bytesS, reduceCtorEq] at h
      split at h
      · rename_i hb
        cases hr : bytesS r with
        | none => rw [hr] at h; cases h
        | some c =>
          rw [hr] at h
          simp only [Option.map_some, Option.some.injEq] at h; subst h
          obtain ⟨i1, i2⟩ := bytesS_dens (E := E) hr
          refine ⟨by simp [i1], fun l' hl' j hj => ?_⟩
          obtain ⟨v, u, h1, h2, rfl⟩ := dens_cons.1 hl'
          simp [den] at h1; subst h1
          cases j with
          | zero =>
            simp only [List.getElem?_cons_zero, List.getElem_cons_zero]
            have : (UInt8.ofNat n.toNat).toNat = n.toNat := by rw [UInt8.toNat_ofNat']; omega
            rw [this]; congr 2; omega
          | succ j =>
            simp only [List.getElem?_cons_succ, List.getElem_cons_succ]
            exact i2 u h2 j (by simpa using hj)
      · cases h
    | _ => simp [bytesS] at h
theorem strS_run {w0 w : World} {E : Env} {H : List SO} (hW : WRel P ν w0 E H w) {src dst : TypeId} {a v : SV} (h : strS P H src dst a = some v) {x : Value} (hx : den ν E a = some x) :
    ∃ u, (convert src dst x).run P w = .ok u w ∧ den ν E v = some u := by
  unfold strS at h
  split at h
  · rename_i e hs hd
    split at h
    · rename_i he
      split at h
      · cases h
      · rename_i hn
        split at h
        · rename_i l n hc
          cases hb : bytesS l with
          | none => rw [hb] at h; cases h
          | some b =>
            rw [hb] at h
            simp only [Option.map_some, Option.some.injEq] at h; subst h
            obtain ⟨l', h1, h2, h3⟩ := contents_run hW hc hx
            obtain ⟨i1, i2⟩ := bytesS_dens (ν := ν) (E := E) hb
            rcases h3 with ⟨h4, _⟩ | ⟨p, cap, rfl, h5⟩
            · exact absurd h4 hn
            · refine ⟨.string ⟨b.toArray⟩, ?_, by simp [den]⟩
              have hlen : n = b.length := by omega
              subst hlen
              exact run_convert_bytes_back w src dst e p cap b hs he hd fun j hj => h5 j _ (i2 l' h1 j hj)
        · cases h
    · cases h
  · cases h

theorem sq_run {w0 w : World} {E : Env} {H : List SO} {G : Nat → List SV} {tmps : List SV} {ρ : Operand → Value} {o : Oper} {v : SV} (hW : WRel P ν w0 E H w) (hG : GOk ν G w0) (hρ : Sees ν E tmps ρ o) (h : sq P G tmps H o = some v) :
    ∃ u, (execOp ρ o).run P w = .ok (.value u) w ∧ den ν E v = some u := by
  unfold sq at h
  split at h
  · rename_i x hx
    simp at h; subst h
    exact sq0_run hW hG hρ hx
  · rename_i hx0
    unfold strOp at h
    split at h
    · rename_i src dst y hop
      unfold Sees at hρ
      rw [hop] at hρ
      cases ha : ev tmps y with
      | none => rw [ha] at h; cases h
      | some z =>
        rw [ha] at h
        obtain ⟨u, h1, h2⟩ := strS_run hW h (hρ y (by simp [Op.operands]) z ha)
        exact ⟨u, by simp [execOp, hop, h1], h2⟩
    · cases h
theorem squiet_run {w0 w : World} {E : Env} {H : List SO} {G : Nat → List SV} {tmps : List SV} {ρ : Operand → Value} {o : Oper} {v : SV} (hW : WRel P ν w0 E H w) (hG : GOk ν G w0) (hρ : Sees ν E tmps ρ o) (h : squiet P G tmps H o = some v) :
    ∃ u, (execOp ρ o).run P w = .ok (.value u) w ∧ den ν E v = some u := by
  unfold squiet at h
  split at h
  · rename_i x hx
    simp at h; subst h
    exact sq_run hW hG hρ hx
  · split at h
    · cases h
    · rename_i hs
      split at h
      · rename_i x hx
        simp at h; subst h
        exact sp_ok hρ (by simpa using hs) hx
      · cases h

def zerosV (z : List Value) : Nat → List Value
  | 0 => []
  | n + 1 => z ++ zerosV z n
theorem zerosV_len (z : List Value) : ∀ n, (zerosV z n).length = n * z.length
  | 0 => by simp [zerosV]
  | n + 1 => by simp [zerosV, zerosV_len z n, Nat.add_mul, Nat.add_comm]
theorem zerosV_get (z : List Value) (hz : 1 ≤ z.length) : ∀ n i, i < n * z.length → (zerosV z n)[i]? = z[i % z.length]?
  | 0, i, h => by simp at h
  | n + 1, i, h => by
    rw [zerosV]
    by_cases hi : i < z.length
    · rw [List.getElem?_append_left hi, Nat.mod_eq_of_lt hi]
    · rw [List.getElem?_append_right (by omega), zerosV_get z hz n _ (by rw [Nat.add_mul] at h; omega)]
      congr 1
      conv => rhs; rw [Nat.mod_eq_sub_mod (by omega)]
theorem zeros_dens {E : Env} {z : List SV} {l : List Value} (h : dens ν E z = some l) : ∀ n, dens ν E (zerosS z n) = some (zerosV l n)
  | 0 => by simp [zerosS, zerosV, dens]
  | n + 1 => dens_append h (zeros_dens h n)
theorem zeros_range (l : List Value) (hl : 1 ≤ l.length) (n : Nat) : ((Array.range (n * l.length)).map fun i => l.toArray[i % l.toArray.size]!) = (zerosV l n).toArray := by
  apply Array.ext_getElem?
  intro i
  by_cases hi : i < n * l.length
  · have h1 := zerosV_get l hl n i hi
    have hm : i % l.length < l.length := Nat.mod_lt _ (by omega)
    simp [hi, h1, hm]
  · have h2 := zerosV_len l n
    simp [hi]
    omega

/-- What a made block's operation gives. -/
def mkU (r : Nat) : MK → Value
  | .ptr => .pointer (some ⟨r, 0, none⟩)
  | .slice n => .slice (some ⟨r, 0, none⟩) n n
  | .map => .map (some r)
theorem mkV_den {E : Env} {b r k : Nat} (h : E[b]? = some (.lies r k)) (m : MK) : den ν E (mkV b m) = some (mkU r m) := by
  cases m with
  | ptr => exact den_ptr.2 ⟨r, k, h, rfl⟩
  | slice n => exact den_slice.2 ⟨r, k, h, rfl⟩
  | map => exact den_map.2 ⟨r, k, h, rfl⟩

theorem mkS_run {E : Env} {tmps : List SV} {ρ : Operand → Value} {o : Oper} {so : SO} {m : MK} (hρ : Sees ν E tmps ρ o) (h : mkS P tmps o = some (so, m)) :
    goneB so = false ∧ ∃ ob, (∀ k, ORel P ν E k so ob) ∧ ∀ w : World, (execOp ρ o).run P w = .ok (.value (mkU w.heap.size m)) { w with heap := w.heap.push ob } := by
  unfold mkS at h
  unfold Sees at hρ
  split at h
  · rename_i t hop
    cases hz : zeroS P t with
    | none => rw [hz] at h; cases h
    | some z =>
      rw [hz] at h
      simp at h
      obtain ⟨rfl, rfl⟩ := h
      obtain ⟨zv, _, hz2⟩ := run_zeroS (ν := ν) hz default
      refine ⟨rfl, .cells zv.cells t, fun k => ⟨_, den_cells (hz2 E), by simp⟩, fun w => ?_⟩
      obtain ⟨zv', h1, h2⟩ := run_zeroS (ν := ν) hz w
      have e := (hz2 E).symm.trans (h2 E)
      simp at e; subst e
      simp [execOp, hop, Instr.alloc, h1, newVar, newRow, newObj, Sem.run, mkU]
  · rename_i t x hop
    rw [hop] at hρ
    cases hx : ev tmps x with
    | none => rw [hx] at h; cases h
    | some s =>
      rw [hx] at h
      simp at h
      obtain ⟨rfl, rfl⟩ := h
      have hd := hρ x (by simp [Op.operands]) s hx
      refine ⟨rfl, .cells (ρ x).cells t, fun k => ⟨_, den_cells hd, by simp⟩, fun w => ?_⟩
      simp [execOp, hop, Instr.box, newVar, newRow, newObj, Sem.run, mkU]
  · rename_i t len parts hop
    rw [hop] at hρ
    split at h
    · rename_i elem ps hu hps
      split at h
      · rename_i size z hs hz
        split at h
        · rename_i hc
          simp only [Bool.and_eq_true, decide_eq_true_eq] at hc
          obtain ⟨⟨⟨c1, c2⟩, c3⟩, c4⟩ := hc
          cases hf : fillS (fun i => some (i * size, size)) (zerosS (cellsS z) len) ps with
          | none => rw [hf] at h; cases h
          | some c =>
            rw [hf] at h
            simp at h
            obtain ⟨rfl, rfl⟩ := h
            obtain ⟨zv, _, hz2⟩ := run_zeroS (ν := ν) hz default
            have hzc := den_cells (hz2 E)
            have hzl := dens_len hzc
            simp at hzl
            obtain ⟨h1, h2⟩ := parts_dens (ρ := ρ) (E := E) (ν := ν) (fun y hy => hρ y (by simp [Op.operands] at hy ⊢; exact hy)) hps
            obtain ⟨l', h3, h4⟩ := fill_run hf (zeros_dens hzc len) h2
            refine ⟨rfl, .cells l'.toArray elem, fun k => ⟨l', h4, rfl⟩, fun w => ?_⟩
            obtain ⟨zv', g1, g2⟩ := run_zeroS (ν := ν) hz w
            have e := (hz2 E).symm.trans (g2 E)
            simp at e; subst e
            have hzr := zeros_range zv.cells.toList (by simp; omega) len
            have hsz : zv.cells.toList.length = size := by simp; omega
            rw [hsz] at hzr
            have e2 : ((ps.map (·.1)).zip (parts.toList.map fun p => ρ p.2)) = (parts.map fun (i, x) => (i, ρ x)).toList := by
              rw [h1]
              simp [List.zip_map', List.zip_eq_zipWith, List.zipWith_map, List.zipWith_self]
            rw [e2, ← hzr] at h3
            have hne : ¬ len * size = 0 := by
              have := Nat.mul_le_mul c3 c2
              omega
            have hle : ¬ len * size > 2 ^ 24 := by omega
            simp only [Array.toArray_toList] at h3
            simp only [execOp, hop, Instr.buildSlice, Sem.run_bind, run_underlying hu, Result.andThen_ok, run_sizeOfT hs, if_neg hle, if_neg hne, g1, Sem.run_pure, h3]
            simp [newRow, newObj, Sem.run, mkU]
        · cases h
      · cases h
    · cases h
  · rename_i t r hop
    rw [hop] at hρ
    split at h
    · simp at h
      obtain ⟨rfl, rfl⟩ := h
      refine ⟨rfl, .map #[] 0, fun k => ⟨[], by simp [densM], by simp⟩, fun w => ?_⟩
      simp [execOp, hop, Instr.makeMap, newObj, Sem.run, mkU]
    · rename_i x
      split at h
      · rename_i kt et k n hu hx
        simp at h
        obtain ⟨rfl, rfl⟩ := h
        have hd := hρ x (by simp [Op.operands]) _ hx
        simp [den] at hd
        refine ⟨rfl, .map #[] 0, fun k => ⟨[], by simp [densM], by simp⟩, fun w => ?_⟩
        simp [execOp, hop, Instr.makeMap, run_underlying hu, ← hd, asInt, asIntOf, newObj, Sem.run, mkU]
      · cases h
  · cases h
end Go.Ev
