/- The symbolic machine: what each operation does, and the code. -/
import Derived.Test.YtmmnjphmiijbcaaSxA
namespace Go.Proofs.Ytmmnjphmiijbcaa.sx
set_option linter.unusedVariables false

def ev (T : TV) : Operand → Value
  | .tmp t => (T.get t).getD undef
  | .const v => bif clean v then v else undef
  | .global g => .pointer (some ⟨2 * g, 0, none⟩)
  | .func f => .func (.func f) #[] #[]

def pureRun {α : Type} (P : Program) : Sem α → Option α
  | .pure a => some a
  | .program k => pureRun P (k P)
  | _ => none

def szOf (P : Program) (t : TypeId) : Option Nat := (P.info? t).map (·.size)
def zeroOf (P : Program) (t : TypeId) : Option Value := (P.info? t).bind (·.zero)
def aggT : TypeDesc → Bool
  | .struct _ | .array _ _ => true
  | _ => false

def cellsOf (v : Value) : List Value := match v with | .agg cs => cs.toList | v => [v]
def oneL (l : List Value) : Bool := l.all (·.oneCell')

def partL (P : Program) (t : TypeId) (cs : List Value) (off : Nat) : Option Value :=
  match szOf P t, P.underlying t with
  | some n, some d => bif aggT d then (bif Nat.ble (off + n) cs.length then some (.agg ((cs.drop off).take n).toArray) else none) else cs[off]?
  | _, _ => none

def spliceL (cs : List Value) (off : Nat) (new : List Value) : Option (List Value) :=
  bif Nat.ble (off + new.length) cs.length then some (cs.take off ++ new ++ cs.drop (off + new.length)) else none

def fillL (place : Nat → Option (Nat × Nat)) (cells : List Value) : List (Nat × Value) → Option (List Value)
  | [] => some cells
  | (i, v) :: rest =>
    match place i with
    | none => none
    | some (off, size) =>
      bif (cellsOf v).length == size then
        match spliceL cells off (cellsOf v) with
        | some cs => fillL place cs rest
        | none => none
      else none

def boundV (v : Value) (y : Nat) : Option Nat :=
  match v with
  | .int _ i => bif decide (0 ≤ i) && Nat.ble i.toNat y then some i.toNat else none
  | _ => none
def sliceB (len cap : Nat) (low high max : Option Value) : Option (Nat × Nat × Nat) :=
  match (match max with | none => some cap | some v => boundV v cap) with
  | none => none
  | some m =>
    match (match high, max with | none, none => some len | none, some _ => none | some v, _ => boundV v m) with
    | none => none
    | some h =>
      match (match low with | none => some 0 | some v => boundV v h) with
      | none => none
      | some l => some (l, h, m)

def eqNil : TypeDesc → Value → Value → Option Bool
  | .pointer _, .pointer none, .pointer none => some true
  | .pointer _, .pointer none, .pointer (some _) => some false
  | .pointer _, .pointer (some _), .pointer none => some false
  | .slice _, .slice none _ _, .slice none _ _ => some true
  | .slice _, .slice none _ _, .slice (some _) _ _ => some false
  | .slice _, .slice (some _) _ _, .slice none _ _ => some false
  | .map _ _, .map none, .map none => some true
  | .map _ _, .map none, .map (some _) => some false
  | .map _ _, .map (some _), .map none => some false
  | .func _ _ _, .nilFunc, .nilFunc => some true
  | .func _ _ _, .nilFunc, .func _ _ _ | .func _ _ _, .func _ _ _, .nilFunc => some false
  | .interface _, .nilIface, .iface _ _ | .interface _, .iface _ _, .nilIface => some false
  | .bool, .bool a, .bool b => some (a == b)
  | _, _, _ => none

def eqBytes : List UInt8 → List UInt8 → Bool
  | [], [] => true
  | a :: x, b :: y => bif a.toNat == b.toNat then eqBytes x y else false
  | _, _ => false

def findS (k : ByteArray) : List MapEntry → Nat → Option (Option (Nat × Value))
  | [], _ => some none
  | e :: es, i =>
    match e.key with
    | .string b => bif eqBytes k.data.toList b.data.toList then some (some (i, e.val)) else findS k es (i + 1)
    | _ => none
def findI (l : IntKind) (k : Int) : List MapEntry → Nat → Option (Option (Nat × Value))
  | [], _ => some none
  | e :: es, i =>
    match e.key with
    | .int m b => bif decide (l = m) then (bif k == b then some (some (i, e.val)) else findI l k es (i + 1)) else none
    | _ => none
def findK (d : TypeDesc) (k : Value) (es : List MapEntry) : Option (Option (Nat × Value)) :=
  match d, k with
  | .string, .string s => findS s es 0
  | .int _, .int l i => findI l i es 0
  | _, _ => none

def byteOf? : Value → Option UInt8
  | .int .u8 n => some (UInt8.ofNat n.toNat)
  | _ => none
def bytesL : List Value → Option (List UInt8)
  | [] => some []
  | v :: r => match byteOf? v, bytesL r with | some b, some l => some (b :: l) | _, _ => none

/- the operations that look at no memory -/
def pureV (P : Program) (T : TV) (H : HV) (o : Oper) : Option Value :=
  match o.op with
  | .move x => some (ev T x)
  | .assign x => some (ev T x)
  | .pick c a b => match ev T c with
    | .bool true => some (ev T a)
    | .bool false => some (ev T b)
    | _ => none
  | .build t parts =>
    match zeroOf P t, P.underlying t with
    | some z, some (.struct fs) => bif clean z then
      match fs.toList.mapM (fun f => (szOf P f.type).map fun s => (f.offset, s)) with
      | some places => match fillL (fun i => places[i]?) (cellsOf z) (parts.toList.map fun p => (p.1, ev T p.2)) with
        | some cs => some (.agg cs.toArray)
        | none => none
      | none => none
      else none
    | some z, some (.array _ e) => bif clean z then match szOf P e with
      | some s => match fillL (fun i => some (i * s, s)) (cellsOf z) (parts.toList.map fun p => (p.1, ev T p.2)) with
        | some cs => some (.agg cs.toArray)
        | none => none
      | none => none
      else none
    | _, _ => none
  | .nilCheck x => match ev T x with
    | .pointer (some a) => some (.pointer (some a))
    | .func (.method name) first captured => match first.toList with
      | [.iface t w] => bif clean w then match pureRun P (nilAhead (P.types.size + Made.depth) t w name) with
        | some (some false) => some (.func (.method name) first captured)
        | _ => none
        else none
      | _ => none
    | _ => none
  | .binOp op t x y _ =>
    match op, ev T x, ev T y with
    | .eql, .string a, .string b => some (.bool (eqBytes a.data.toList b.data.toList))
    | .neq, .string a, .string b => some (.bool (!eqBytes a.data.toList b.data.toList))
    | op, .int k a, .int k' b => pureRun P (binOp op t (.int k a) (.int k' b))
    | op, .string a, .string b => pureRun P (binOp op t (.string a) (.string b))
    | op, .agg u, .agg v => bif cleanA u && cleanA v then pureRun P (do eqGuard op t x y (.agg u) (.agg v); binOp op t (.agg u) (.agg v)) else none
    | .eql, u, v => match P.underlying t with
      | some d => (eqNil d u v).map .bool
      | none => none
    | .neq, u, v => match P.underlying t with
      | some d => (eqNil d u v).map fun b => .bool (!b)
      | none => none
    | _, _, _ => none
  | .unOp op _ x => bif clean (ev T x) then pureRun P (Op.unary op (ev T x)) else none
  | .convert s d x =>
    match P.underlying s, P.underlying d, ev T x with
    | some _, some (.int k), .int _ i => some (.int k (k.wrap i))
    | some _, some .string, .string b => some (.string b)
    | _, _, _ => none
  | .makeInterface t x => match P.underlying t with
    | some (.interface _) => none
    | some _ => some (.iface t (ev T x))
    | none => none
  | .makeFunc fn first captured => some (.func fn (first.map (ev T)) (captured.map (ev T)))
  | .slice t x lo hi mx =>
    match P.underlying t, ev T x with
    | some .string, .string s => match mx, sliceB s.size s.size (lo.map (ev T)) (hi.map (ev T)) none with
      | none, some (l, h, _) => some (.string (s.extract l h))
      | _, _ => none
    | some (.slice e), .slice none len cap => match szOf P e, sliceB len cap (lo.map (ev T)) (hi.map (ev T)) (mx.map (ev T)) with
      | some _, some (l, h, m) => some (.slice none (h - l) (m - l))
      | _, _ => none
    | some (.slice e), .slice (some a) len cap => match szOf P e, sliceB len cap (lo.map (ev T)) (hi.map (ev T)) (mx.map (ev T)), H.get a.block with
      | some s, some (l, h, m), some (.cells _ _ false _) => some (.slice (some (bif m == l then a else a.add (l * s))) (h - l) (m - l))
      | some s, some (l, h, m), some (.cells _ _ true _) => match mx with
        | none => bif Nat.blt l m then some (.slice (some (a.add (l * s))) (h - l) (m - l)) else none
        | some _ => none
      | _, _, _ => none
    | _, _ => none
  | .fieldAddr s x f => match P.underlying s, ev T x with
    | some (.struct fs), .pointer (some a) => match fs[f]? with
      | some fd => match szOf P fd.type with
        | some (_ + 1) => some (.pointer (some (a.add fd.offset)))
        | _ => none
      | none => none
    | _, _ => none
  | .field t x f => match P.underlying t, ev T x with
    | some (.struct fs), .agg cs => match fs[f]? with
      | some fd => partL P fd.type cs.toList fd.offset
      | none => none
    | _, _ => none
  | .indexAddr t x i =>
    match ev T i, P.underlying t, ev T x with
    | .int _ i, some (.array len e), .pointer (some a) => bif decide (0 ≤ i) && Nat.blt i.toNat len then (szOf P e).map fun s => .pointer (some (a.add (i.toNat * s))) else none
    | .int _ i, some (.slice e), .slice (some a) len _ => bif decide (0 ≤ i) && Nat.blt i.toNat len then (szOf P e).map fun s => .pointer (some (a.add (i.toNat * s))) else none
    | _, _, _ => none
  | .index t x i =>
    match ev T i, P.underlying t, ev T x with
    | .int _ i, some (.array len e), .agg cs => bif decide (0 ≤ i) && Nat.blt i.toNat len then match szOf P e with | some s => partL P e cs.toList (i.toNat * s) | none => none else none
    | .int _ i, some .string, .string s => bif decide (0 ≤ i) then (s.data.toList[i.toNat]?).map fun b => .int .u8 b.toNat else none
    | _, _, _ => none
  | .typeAssert x _ asserted ok =>
    match P.underlying asserted, ev T x with
    | some (.interface want), .iface t v => match P.info? t with
      | some i => bif want.toList.all (fun p => i.methods.any fun m => m.name == p.1 && m.sig == p.2) then
          some (bif ok then .tuple #[.iface t v, .bool true] else .iface t v) else none
      | none => none
    | some (.interface _), _ => none
    | some _, .iface t v => bif t == asserted then some (bif ok then .tuple #[v, .bool true] else v) else none
    | _, _ => none
  | .extract t i => match ev T t with
    | .tuple vs => vs.toList[i]?
    | _ => none
  | .call c =>
    match c.callee with
    | .builtin .len => match (c.argTypes[0]?).bind (P.underlying ·), c.args.toList.map (ev T) with
      | some (.slice _), [.slice _ m _] => some (goInt m)
      | some .string, [.string s] => some (goInt s.size)
      | some (.array m _), [_] => some (goInt m)
      | some (.map _ _), [.map none] => some (goInt 0)
      | _, _ => none
    | .builtin .max => bif cleanL (c.args.toList.map (ev T)) then pureRun P (Builtin.max_ c.argTypes o.type (c.args.toList.map (ev T)).toArray) else none
    | .builtin .min => bif cleanL (c.args.toList.map (ev T)) then pureRun P (Builtin.min_ c.argTypes o.type (c.args.toList.map (ev T)).toArray) else none
    | _ => none
  | _ => none

/- a load: the block, the place in it, the cells that lie there, and the value that they are -/
def readL (P : Program) (t : TypeId) (cs : List Value) (off : Nat) : Option (List Value × Value) :=
  match szOf P t, P.underlying t with
  | some n, some d => bif aggT d then (bif Nat.ble (off + n) cs.length then some ((cs.drop off).take n, .agg ((cs.drop off).take n).toArray) else none) else
    match cs[off]? with
    | some v => some ([v], v)
    | none => none
  | _, _ => none
def loadV (P : Program) (T : TV) (H : HV) (o : Oper) : Option (Nat × Nat × List Value × Value) :=
  match o.op with
  | .load t a => match ev T a with
    | .pointer (some ⟨k, off, none⟩) => match H.get k with
      | some (.cells cs _ _ _) => match readL P t cs off with
        | some (l, v) => some (k, off, l, v)
        | none => none
      | _ => none
    | _ => none
  | _ => none

/- an operation that makes a new block of known content -/
inductive Fr where
  | ptr
  | slc (len : Nat)
  | mp
def Fr.val (n : Nat) : Fr → Value
  | .ptr => .pointer (some ⟨n, 0, none⟩)
  | .slc len => .slice (some ⟨n, 0, none⟩) len len
  | .mp => .map (some n)
def freshV (P : Program) (T : TV) (o : Oper) : Option (Fr × VO) :=
  match o.op with
  | .alloc e => match zeroOf P e with
    | some z => bif clean z && oneL (cellsOf z) then some (.ptr, .cells (cellsOf z) e false true) else none
    | none => none
  | .box e x => bif oneL (cellsOf (ev T x)) then some (.ptr, .cells (cellsOf (ev T x)) e false true) else none
  | .buildSlice t len parts =>
    match P.underlying t with
    | some (.slice e) => match szOf P e, zeroOf P e with
      | some s, some z =>
        bif Nat.ble (len * s) 16777216 && clean z && ((cellsOf z).length == s) && Nat.blt 0 s then
        match fillL (fun i => some (i * s, s)) ((List.replicate len (cellsOf z)).flatten) (parts.toList.map fun p => (p.1, ev T p.2)) with
        | some cs => bif oneL cs then some (.slc len, .cells cs e false true) else none
        | none => none
        else none
      | _, _ => none
    | _ => none
  | .makeMap _ none => some (.mp, .map [] 0)
  | _ => none

inductive Res where
  | mem (v : Value) (H : HV) (n : Nat)
  | call (f : FuncId) (args : List Value)

/- the cells that a slice or a string gives, and how many elements -/
def srcV (P : Program) (H : HV) (size : Nat) (xt : TypeId) (x : Value) : Option (Nat × List Value) :=
  match P.underlying xt, x with
  | some (.slice _), .slice none 0 _ => some (0, [])
  | some (.slice _), .slice (some ⟨k, off, none⟩) n _ => match H.get k with
    | some (.cells cs _ _ _) => bif Nat.ble (off + n * size) cs.length && oneL ((cs.drop off).take (n * size)) then some (n, (cs.drop off).take (n * size)) else none
    | _ => none
  | some .string, .string s => bif size == 1 then some (s.size, byteCells s) else none
  | _, _ => none

def appendV (P : Program) (H : HV) (n : Nat) (t xt : TypeId) (s x : Value) : Option Res :=
  match P.underlying t, s with
  | some (.slice e), .slice base len cap =>
    match P.info? e, zeroOf P e with
    | some i, some z =>
      bif Nat.blt 0 i.size && ((cellsOf z).length == i.size) then
      match srcV P H i.size xt x with
      | none => none
      | some (m, new) =>
        bif Nat.ble ((len + m) * (i.bytes + 1)) 100000000 then
        match base with
        | none =>
          bif len == 0 && cap == 0 then
            (bif m == 0 then some (.mem (.slice none 0 0) H n)
            else some (.mem (.slice (some ⟨n, 0, none⟩) m m) (H.set n (some (.cells new e true true))) (n + 2)))
          else none
        | some ⟨k, 0, none⟩ =>
          match H.get k with
          | some (.cells cs t' loose own) =>
            bif Nat.ble (len + m) cap then
              (bif own then
                match spliceL cs (len * i.size) new with
                | some cs' => some (.mem (.slice (some ⟨k, 0, none⟩) (len + m) cap) (H.set k (some (.cells cs' t' loose own))) n)
                | none => none
              else none)
            else
              bif Nat.ble (len * i.size) cs.length && oneL (cs.take (len * i.size)) then
                (bif loose then
                  (bif own && (t' == e) && Nat.ble (cap * i.size) cs.length && Nat.ble len cap then
                    some (.mem (.slice (some ⟨n, 0, none⟩) (len + m) (len + m)) ((H.set k none).set n (some (.cells (cs.take (len * i.size) ++ new) e true true))) (n + 2)) else none)
                else some (.mem (.slice (some ⟨n, 0, none⟩) (len + m) (len + m)) (H.set n (some (.cells (cs.take (len * i.size) ++ new) e true true))) (n + 2)))
              else none
          | _ => none
        | _ => none
        else none
      else none
    | _, _ => none
  | _, _ => none

def copyV (P : Program) (H : HV) (n : Nat) (t xt : TypeId) (d x : Value) : Option Res :=
  match P.underlying t, d with
  | some (.slice e), .slice base dlen _ =>
    match szOf P e, x with
    | some size, .slice sa sn sc =>
      match srcV P H size xt (.slice sa sn sc) with
      | none => none
      | some (m, new) =>
        let c := Nat.min m dlen
        match base with
        | none => some (.mem (goInt c) H n)
        | some ⟨k, off, none⟩ =>
          match H.get k with
          | some (.cells cs t' loose true) => match spliceL cs off (new.take (c * size)) with
            | some cs' => some (.mem (goInt c) (H.set k (some (.cells cs' t' loose true))) n)
            | none => none
          | _ => none
        | _ => none
    | _, _ => none
  | _, _ => none

def callee (P : Program) (f : FuncId) (args : List Value) : Option Res :=
  match P.funcs[f]? with
  | some fn => bif fn.body.isSome then some (.call f args) else none
  | none => none

def methodV (P : Program) (recv : Value) (name : String) (args : List Value) : Option Res :=
  match recv with
  | .iface t v =>
    bif clean v then
      match pureRun P (method (P.types.size + Made.depth) t v name) with
      | some (f, r) => bif clean r then callee P f (r :: args) else none
      | none => none
    else
    match v, P.info? t, P.underlying t with
    | .pointer (some a), some i, some (.pointer _) => match i.methods.find? (·.name == name) with
      | some m => bif m.path.isEmpty then
          match m.func with
          | some (f, true) => callee P f (.pointer (some a) :: args)
          | _ => none
        else none
      | none => none
    | _, _, _ => none
  | _ => none

def bigV (P : Program) (T : TV) (H : HV) (n : Nat) (o : Oper) : Option Res :=
  match o.op with
  | .store t a x => match ev T a with
    | .pointer (some ⟨k, off, none⟩) => match H.get k with
      | some (.cells cs t' loose true) =>
        bif (some (cellsOf (ev T x)).length == szOf P t) && oneL (cellsOf (ev T x)) then
          match spliceL cs off (cellsOf (ev T x)) with
          | some cs' => some (.mem undef (H.set k (some (.cells cs' t' loose true))) n)
          | none => none
        else none
      | _ => none
    | _ => none
  | .convert s d x =>
    match P.underlying s, P.underlying d, ev T x with
    | some (.slice e), some .string, .slice a len _ => match P.underlying e, srcV P H 1 s (.slice a len len) with
      | some (.int .u8), some (_, l) => match bytesL l with
        | some b => some (.mem (.string ⟨b.toArray⟩) H n)
        | none => none
      | _, _ => none
    | some .string, some (.slice e), .string b => match P.underlying e with
      | some (.int .u8) => bif szOf P e == some 1 then some (.mem (.slice (some ⟨n, 0, none⟩) b.size b.size) (H.set n (some (.cells (byteCells b) e true false))) (n + 2)) else none
      | _ => none
    | _, _, _ => none
  | .lookup t x i ok =>
    match P.underlying t, ev T x with
    | some (.map k e), .map none => match P.underlying k, zeroOf P e with
      | some d, some z => match findK d (ev T i) [] with
        | some none => bif clean z then some (.mem (bif ok then .tuple #[z, .bool false] else z) H n) else none
        | _ => none
      | _, _ => none
    | some (.map k e), .map (some r) => match H.get r, P.underlying k, zeroOf P e with
      | some (.map es _), some d, some z => match findK d (ev T i) es with
        | some (some (_, v)) => some (.mem (bif ok then .tuple #[v, .bool true] else v) H n)
        | some none => bif clean z then some (.mem (bif ok then .tuple #[z, .bool false] else z) H n) else none
        | none => none
      | _, _, _ => none
    | _, _ => none
  | .mapUpdate t m k x | .insert t m k x =>
    match P.underlying t, ev T m with
    | some (.map kt _), .map (some r) => match H.get r, P.underlying kt with
      | some (.map es clock), some d => match findK d (ev T k) es with
        | some (some (i, _)) => some (.mem undef (H.set r (some (.map (es.modify i fun e => { e with key := ev T k, val := ev T x }) clock))) n)
        | some none => some (.mem undef (H.set r (some (.map (es ++ [{ key := ev T k, val := ev T x, born := clock }]) (clock + 1)))) n)
        | none => none
      | _, _ => none
    | _, _ => none
  | .call c =>
    match c.callee with
    | .builtin .len => match (c.argTypes[0]?).bind (P.underlying ·), c.args.toList.map (ev T) with
      | some (.map _ _), [.map (some r)] => match H.get r with
        | some (.map es _) => some (.mem (goInt es.length) H n)
        | _ => none
      | _, _ => none
    | .builtin .append => match c.argTypes.toList, c.args.toList.map (ev T) with
      | [t, xt], [s, x] => appendV P H n t xt s x
      | _, _ => none
    | .builtin .copy => match c.argTypes.toList, c.args.toList.map (ev T) with
      | [t, xt], [s, x] => copyV P H n t xt s x
      | _, _ => none
    | .builtin _ => none
    | .value f => match ev T f with
      | .func (.func f) first captured => callee P f (first.toList ++ c.args.toList.map (ev T) ++ captured.toList)
      | _ => none
    | .invoke r name => methodV P (ev T r) name (c.args.toList.map (ev T))
  | _ => none

def put (T : TV) (d : Option Tmp) (v : Value) : TV := match d with | some d => T.set d (some v) | none => T
def okD (nt : Nat) (d : Option Tmp) : Bool := match d with | some d => Nat.blt d nt | none => true

def wantedV (ops : Array Oper) (T : TV) (o : Oper) : Bool :=
  match o.guard with
  | none => true
  | some (j, want) => match (ops[j]?).bind (·.dst) with
    | some d => match T.get d with
      | some (.bool b) => b == want
      | _ => false
    | none => false

abbrev CallV := FuncId → List Value → HV → Nat → Option (Value × HV × Nat)

/- which lot an operation is of -/
inductive Kd where
  | pure | load | fresh | big
def kindD (P : Program) (argTypes : Array TypeId) : Kd :=
  match (argTypes[0]?).bind (P.underlying ·) with
  | some (.map _ _) => .big
  | _ => .pure
def kind (P : Program) : Op → Kd
  | .load .. => .load
  | .alloc .. | .box .. | .buildSlice .. => .fresh
  | .makeMap _ none => .fresh
  | .convert _ d _ => match P.underlying d with
    | some (.int _) => .pure
    | _ => .big
  | .store .. | .lookup .. | .mapUpdate .. | .insert .. => .big
  | .call c => match c.callee with
    | .builtin .len => kindD P c.argTypes
    | .builtin .max | .builtin .min => .pure
    | _ => .big
  | _ => .pure

def stepV (P : Program) (call : CallV) (ops : Array Oper) (nt : Nat) (o : Oper) (T : TV) (H : HV) (n : Nat) : Option (TV × HV × Nat) :=
  bif okD nt o.dst then
  bif wantedV ops T o then
    match kind P o.op with
    | .pure => match pureV P T H o with
      | some v => some (put T o.dst v, H, n)
      | none => none
    | .load => match loadV P T H o with
      | some (_, _, _, v) => some (put T o.dst v, H, n)
      | none => none
    | .fresh => match freshV P T o with
      | some (f, x) => some (put T o.dst (f.val n), H.set n (some x), n + 2)
      | none => none
    | .big => match bigV P T H n o with
      | some (.mem v H n) => some (put T o.dst v, H, n)
      | some (.call f args) => match call f args H n with
        | some (v, H, n) => some (put T o.dst v, H, n)
        | none => none
      | none => none
  else some (put T o.dst undef, H, n)
  else none

def opsV (P : Program) (call : CallV) (ops : Array Oper) (nt : Nat) : List Oper → TV → HV → Nat → Option (TV × HV × Nat)
  | [], T, H, n => some (T, H, n)
  | o :: r, T, H, n => match stepV P call ops nt o T H n with
    | some (T, H, n) => opsV P call ops nt r T H n
    | none => none

/- the plan of a drawn region -/
def isQ (P : Program) (ops : Array Oper) (i : Nat) : Bool := match ops[i]? with | some o => (match kind P o.op with | .pure | .load => true | _ => false) | none => false
def isA (P : Program) (ops : Array Oper) (i : Nat) : Bool := match ops[i]? with | some o => (match kind P o.op with | .fresh => true | _ => false) | none => false
def markL (listed : Array Bool) (l : List Nat) : Array Bool := l.foldl (fun a i => a.setIfInBounds i true) listed
def apartL (ops : Array Oper) (i : Nat) (A : List Nat) : Bool :=
  match ops[i]? with
  | some o => A.all fun e => e == i || (match ops[e]? with | some x => x.apart ops o | none => true)
  | none => false

def plan (P : Program) (ops : Array Oper) : Nat → Array Bool → Option (List Nat)
  | 0, listed => bif (Region.ready .any ops listed).isEmpty then some [] else none
  | f + 1, listed =>
    match Region.ready .any ops listed with
    | [] => some []
    | r :: rs =>
      match (r :: rs).find? fun i => isQ P ops i && Region.free .any ops listed i with
      | some i => (plan P ops f (listed.setIfInBounds i true)).map (i :: ·)
      | none =>
        match (r :: rs).filter (fun i => !isA P ops i) with
        | [l] => bif (Region.ready .any ops (markL listed ((r :: rs).filter (isA P ops)))).all (· == l) && apartL ops l ((r :: rs).filter (isA P ops)) && ((r :: rs).filter (isA P ops)).all (fun e => apartL ops e ((r :: rs).filter (isA P ops))) then (plan P ops f (listed.setIfInBounds l true)).map (l :: ·) else none
        | [] => bif (r :: rs).all fun e => apartL ops e (r :: rs) && (Region.ready .any ops (markL listed ((r :: rs).filter (· != e)))).all (· == e) then (plan P ops f (listed.setIfInBounds r true)).map (r :: ·) else none
        | _ => none
def planOf (P : Program) (ops : Array Oper) : Option (List Nat) :=
  bif Region.noSelect ops then plan P ops ops.size (Array.replicate ops.size false) else none

/- what has been read in a drawn region lies yet as it lay -/
mutual
def veq : Value → Value → Bool
  | .bool a, .bool b => a == b
  | .int k a, .int l b => k == l && a == b
  | .string a, .string b => eqBytes a.data.toList b.data.toList
  | .pointer none, .pointer none => true
  | .pointer (some a), .pointer (some b) => a.block == b.block && a.off == b.off && a.spot == b.spot
  | .slice none m c, .slice none n d => m == n && c == d
  | .slice (some a) m c, .slice (some b) n d => a.block == b.block && a.off == b.off && a.spot == b.spot && m == n && c == d
  | .map none, .map none => true
  | .map (some r), .map (some s) => r == s
  | .nilFunc, .nilFunc => true
  | .nilIface, .nilIface => true
  | .iface t v, .iface u w => t == u && veq v w
  | .agg a, .agg b => veqA a b
  | _, _ => false
def veqA : Array Value → Array Value → Bool
  | ⟨a⟩, ⟨b⟩ => veqL a b
def veqL : List Value → List Value → Bool
  | [], [] => true
  | a :: x, b :: y => veq a b && veqL x y
  | _, _ => false
end
abbrev Reads := List (Nat × Nat × List Value)
def sameR (H : HV) : Reads → Bool
  | [] => true
  | (k, off, l) :: r => (match H.get k with
    | some (.cells cs _ _ _) => veqL ((cs.drop off).take l.length) l
    | _ => false) && sameR H r

def regV (P : Program) (call : CallV) (ops : Array Oper) (nt : Nat) : List Nat → Reads → TV → HV → Nat → Option (TV × HV × Nat)
  | [], _, T, H, n => some (T, H, n)
  | i :: r, R, T, H, n =>
    match ops[i]? with
    | none => none
    | some o =>
      match stepV P call ops nt o T H n with
      | some (T', H', n') =>
        match kind P o.op with
        | .pure => regV P call ops nt r R T' H' n'
        | .load => bif wantedV ops T o then
            match loadV P T H o with
            | some (k, off, l, _) => regV P call ops nt r ((k, off, l) :: R) T' H' n'
            | none => none
          else regV P call ops nt r R T' H' n'
        | _ => bif sameR H' R then regV P call ops nt r R T' H' n' else none
      | none => none

inductive Ex where
  | nrm | exit (id : Nat) | ret
abbrev Out := Option (Ex × TV × HV × Nat)

def loopN (step : TV → HV → Nat → Out) : Nat → TV → HV → Nat → Out
  | 0, _, _, _ => none
  | f + 1, T, H, n => match step T H n with
    | some (.nrm, T, H, n) => loopN step f T H n
    | x => x

def codeV (P : Program) (call : CallV) (nt : Nat) : Code → TV → HV → Nat → Out
  | .skip, T, H, n => some (.nrm, T, H, n)
  | .label _, T, H, n => some (.nrm, T, H, n)
  | .region _ ops false, T, H, n => match opsV P call ops nt ops.toList T H n with
    | some (T, H, n) => some (.nrm, T, H, n)
    | none => none
  | .region _ ops true, T, H, n => match planOf P ops with
    | some l => match regV P call ops nt l [] T H n with
      | some (T, H, n) => some (.nrm, T, H, n)
      | none => none
    | none => none
  | .seq a b, T, H, n => match codeV P call nt a T H n with
    | some (.nrm, T, H, n) => codeV P call nt b T H n
    | x => x
  | .cond c a b, T, H, n => match ev T c with
    | .bool true => codeV P call nt a T H n
    | .bool false => codeV P call nt b T H n
    | _ => none
  | .block id c, T, H, n => match codeV P call nt c T H n with
    | some (.exit j, T, H, n) => bif j == id then some (.nrm, T, H, n) else some (.exit j, T, H, n)
    | x => x
  | .loop c, T, H, n => loopN (codeV P call nt c) 100000 T H n
  | .exit id, T, H, n => some (.exit id, T, H, n)
  | .ret, T, H, n => some (.ret, T, H, n)
  | _, _, _, _ => none

def setAll (T : TV) (i : Nat) : List Value → TV
  | [] => T
  | v :: r => setAll (T.set i (some v)) (i + 1) r

def resV (P : Program) (T : TV) (H : HV) : List ResultVar → Option (List Value)
  | [] => some []
  | .tmp t :: r => match resV P T H r with | some l => some ((T.get t).getD undef :: l) | none => none
  | .cell a t :: r => match (T.get a).getD undef, resV P T H r with
    | .pointer (some ⟨k, off, none⟩), some l => match H.get k with
      | some (.cells cs _ _ _) => match readL P t cs off with | some (_, v) => some (v :: l) | none => none
      | _ => none
    | _, _ => none

def oneOr : List Value → Value
  | [v] => v
  | l => .tuple l.toArray

def funV (P : Program) : Nat → CallV
  | 0, _, _, _, _ => none
  | f + 1, g, args, H, n =>
    match P.funcs[g]? with
    | none => none
    | some fn => match fn.body with
      | none => none
      | some c => bif Nat.ble args.length fn.ntmps then
        match codeV P (funV P f) fn.ntmps c (setAll .lf 0 args) H n with
        | some (.nrm, T, H, n) => match resV P T H fn.results.toList with
          | some l => some (oneOr l, H, n)
          | none => none
        | some (.ret, T, H, n) => match resV P T H fn.results.toList with
          | some l => some (oneOr l, H, n)
          | none => none
        | _ => none
        else none
end Go.Proofs.Ytmmnjphmiijbcaa.sx
