/-
  A small executor for code that only computes with values and with memory of its own: definitions, and what a program that only computes answers. Nothing here is trusted.
-/
import Derived.Orders
import Derived.Below
import Derived.KernelRfl
import Derived.ChangeKeysEq
import Derived.Laws.StructEq
namespace Go.Proofs.Ytagnkjdobkdhmaa.Vx
open Go Go.RowKit

/-- What a program answers that only computes and looks at the program's own text. -/
def val? {α : Type} (P : Program) : Sem α → Option α
  | .pure a => some a
  | .program k => val? P (k P)
  | _ => none

theorem val?_run {α : Type} {P : Program} (s : Sem α) : ∀ (a : α), val? P s = some a → ∀ w, s.run P w = .ok a w := by
  induction s with
  | pure b => intro a h w; simp only [val?, Option.some.injEq] at h; subst h; rfl
  | program k ih => intro a h w; exact ih P a h w
  | _ => intro a h w; simp [val?] at h

/-- A row of cells that has been made, or a place kept for one. -/
abbrev Mem := List (Option (List Value))
structure St where
  tmps : List Value
  mem : Mem

def bare : Value → Bool
  | .pointer (some _) => false
  | _ => true

def ren (r : Nat → Nat) : Value → Value
  | .pointer (some a) => .pointer (some ⟨r a.block, a.off, a.spot⟩)
  | v => v

def inMem (m : Mem) : Value → Prop
  | .pointer (some a) => ∃ c, m[a.block]? = some (some c)
  | _ => True

theorem ren_bare {r : Nat → Nat} {v : Value} (h : bare v = true) : ren r v = v := by
  cases v with
  | pointer a => cases a with
    | none => rfl
    | some a => simp [bare] at h
  | _ => rfl
theorem inMem_bare {m : Mem} {v : Value} (h : bare v = true) : inMem m v := by
  cases v with
  | pointer a => cases a with
    | none => trivial
    | some a => simp [bare] at h
  | _ => trivial

def ev (st : St) : Operand → Value
  | .tmp t => (st.tmps[t]?).getD undef
  | .const v => v
  | .global g => .pointer (some ⟨g, 0, none⟩)
  | .func f => .func (.func f) #[] #[]

/-- May this operand be copied? -/
def okMove : Operand → Bool
  | .global _ => false
  | .const v => bare v
  | _ => true
/-- Is this operand no address? -/
def okOpnd (st : St) : Operand → Bool
  | .global _ => false
  | x => bare (ev st x)

def putL (l : List Value) (dst : Option Tmp) (v : Value) : List Value :=
  match dst with
  | some d => l.set d v
  | none => l
def St.put (st : St) (dst : Option Tmp) (v : Value) : St := ⟨putL st.tmps dst v, st.mem⟩

/-- A worldless operation over operands that are no addresses. -/
def opVal (P : Program) (st : St) (o : Oper) : Option Value :=
  if o.op.operands.toList.all (okOpnd st) then
    match val? P (execOp (ev st) o) with
    | some (.value v) => if bare v then some v else none
    | _ => none
  else none

def setMany : List Value → Nat → List Value → List Value
  | cells, _, [] => cells
  | cells, off, v :: vs => setMany (cells.set off v) (off + 1) vs

def scalar : Value → Bool
  | .agg _ | .tuple _ => false
  | _ => true

def isAggT (P : Program) (t : TypeId) : Option Bool :=
  match P.underlying t with
  | some (.struct _) | some (.array _ _) => some true
  | some _ => some false
  | none => none

def loadV (P : Program) (mem : Mem) (t : TypeId) (b off : Nat) : Option Value :=
  match mem[b]?, isAggT P t with
  | some (some cells), some true =>
    match P.info? t with
    | some i => if off + i.size ≤ cells.length then some (.agg ((cells.drop off).take i.size).toArray) else none
    | none => none
  | some (some cells), some false => match cells[off]? with
    | some v => if bare v then some v else none
    | none => none
  | _, _ => none

/-- Equality of two values cell by cell. -/
def andAll : List (Option Bool) → Option Bool
  | [] => some true
  | none :: _ => none
  | some b :: rest => match andAll rest with
    | some r => some (b && r)
    | none => none

def mkV (P : Program) (t : TypeId) (cs : List Value) : Option Value :=
  match isAggT P t, cs with
  | some true, cs => some (.agg cs.toArray)
  | some false, [v] => some v
  | _, _ => none

def eqCells (P : Program) : Nat → TypeId → List Value → List Value → Option Bool
  | 0, _, _, _ => none
  | d + 1, t, xs, ys =>
    match P.underlying t with
    | some .bool => match xs, ys with
      | [.bool a], [.bool b] => some (a == b)
      | _, _ => none
    | some (.int _) => match xs, ys with
      | [.int k a], [.int k' b] => if k = k' then some (a == b) else none
      | _, _ => none
    | some (.array n e) => match P.info? e with
      | some i => if n * i.size ≤ xs.length ∧ n * i.size ≤ ys.length then andAll ((List.range n).map fun j => eqCells P d e ((xs.drop (j * i.size)).take i.size) ((ys.drop (j * i.size)).take i.size)) else none
      | none => none
    | some (.struct fs) => if P.stoodInHeld t then none else
        andAll (fs.toList.map fun f => match P.info? f.type with
          | some i => if f.name == "_" then none else if f.offset + i.size ≤ xs.length ∧ f.offset + i.size ≤ ys.length then eqCells P d f.type ((xs.drop f.offset).take i.size) ((ys.drop f.offset).take i.size) else none
          | none => none)
    | _ => none

def eqOk (P : Program) (t : TypeId) : Bool := !P.eqGuardType P.depth t && (match isAggT P t with | some true => true | _ => false)

/-- A composite literal of an array type. -/
def fillL (size : Nat) : List Value → List (Nat × Value) → Option (List Value)
  | cells, [] => some cells
  | cells, (i, v) :: rest => if v.cells.size = size ∧ i * size + size ≤ cells.length then fillL size (setMany cells (i * size) v.cells.toList) rest else none
def fillF (P : Program) (fs : Array Field) : List Value → List (Nat × Value) → Option (List Value)
  | cells, [] => some cells
  | cells, (i, v) :: rest => match fs[i]? with
    | some f => match P.info? f.type with
      | some j => if v.cells.size = j.size ∧ f.offset + j.size ≤ cells.length then fillF P fs (setMany cells f.offset v.cells.toList) rest else none
      | none => none
    | none => none

def buildV (P : Program) (t : TypeId) (parts : List (Nat × Value)) : Option Value :=
  match P.info? t, P.underlying t with
  | some i, some (.array _ e) => match i.zero, P.info? e with
    | some z, some j => match fillL j.size z.cells.toList parts with
      | some l => some (.agg l.toArray)
      | none => none
    | _, _ => none
  | some i, some (.struct fs) => match i.zero with
    | some z => if fs.toList.all (fun f => (P.info? f.type).isSome) then match fillF P fs z.cells.toList parts with
        | some l => some (.agg l.toArray)
        | none => none
      else none
    | _ => none
  | _, _ => none

/-- Is this the block that was foreseen? -/
def okPos (pos : Option Nat) (b : Nat) : Bool :=
  match pos with
  | some p => Nat.beq p b
  | none => true

/-- What an operation answers, and the memory behind it. -/
def act (P : Program) (call : FuncId → List Value → Option Value) (pos : Option Nat) (st : St) (o : Oper) : Option (Value × Mem) :=
  match o.op with
  | .move x | .assign x => if okMove x then some (ev st x, st.mem) else none
  | .pick c a b => if okMove a && okMove b then match ev st c with
      | .bool q => some (if q then ev st a else ev st b, st.mem)
      | _ => none
    else none
  | .box _ x => if okOpnd st x then match pos with
      | some p => match st.mem[p]? with
        | some none => some (.pointer (some ⟨p, 0, none⟩), st.mem.set p (some (ev st x).cells.toList))
        | _ => none
      | none => none
    else none
  | .alloc t => match P.info? t with
    | some i => match i.zero with
      | some z => match pos with
        | some p => match st.mem[p]? with
          | some none => some (.pointer (some ⟨p, 0, none⟩), st.mem.set p (some z.cells.toList))
          | _ => none
        | none => none
      | none => none
    | none => none
  | .load t (.tmp x) => match ev st (.tmp x) with
    | .pointer (some ⟨b, off, none⟩) => if okPos pos b then match loadV P st.mem t b off with
        | some v => some (v, st.mem)
        | none => none
      else none
    | _ => none
  | .store t (.tmp x) y => if okOpnd st y then match ev st (.tmp x) with
      | .pointer (some ⟨b, off, none⟩) => match st.mem[b]?, P.info? t with
        | some (some cells), some i =>
          if okPos pos b = true ∧ (ev st y).cells.size = i.size ∧ off + i.size ≤ cells.length ∧ (ev st y).cells.toList.all scalar = true then some (undef, st.mem.set b (some (setMany cells off (ev st y).cells.toList))) else none
        | _, _ => none
      | _ => none
    else none
  | .indexAddr t (.tmp x) ix => if okOpnd st ix then match ev st (.tmp x), ev st ix, P.underlying t with
      | .pointer (some ⟨b, off, none⟩), .int _ i, some (.array len e) => match P.info? e with
        | some j => if 0 ≤ i ∧ i < (len : Int) then some (.pointer (some ⟨b, off + i.toNat * j.size, none⟩), st.mem) else none
        | none => none
      | _, _, _ => none
    else none
  | .fieldAddr t (.tmp x) n => match ev st (.tmp x), P.underlying t with
      | .pointer (some ⟨b, off, none⟩), some (.struct fs) => match fs[n]? with
        | some f => match P.info? f.type with
          | some j => if j.size = 0 then none else some (.pointer (some ⟨b, off + f.offset, none⟩), st.mem)
          | none => none
        | none => none
      | _, _ => none
  | .build t parts => if (parts.toList.map (·.2)).all (okOpnd st) then match buildV P t (parts.toList.map fun p => (p.1, ev st p.2)) with
      | some v => some (v, st.mem)
      | none => none
    else none
  | .binOp op t x y yt => match op, ev st x, ev st y with
    | .eql, .agg xs, .agg ys => if okOpnd st x && okOpnd st y && eqOk P t then match eqCells P 9 t xs.toList ys.toList with
        | some b => some (.bool b, st.mem)
        | none => none
      else none
    | .neq, .agg xs, .agg ys => if okOpnd st x && okOpnd st y && eqOk P t then match eqCells P 9 t xs.toList ys.toList with
        | some b => some (.bool !b, st.mem)
        | none => none
      else none
    | .quo, .int k a, .int k' b => if okOpnd st x && okOpnd st y && decide (k = k') then match b == 0 with
        | true => none
        | false => some (.int k (k.wrap (a.tdiv b)), st.mem)
      else none
    | .rem, .int k a, .int k' b => if okOpnd st x && okOpnd st y && decide (k = k') then match b == 0 with
        | true => none
        | false => some (.int k (a.tmod b), st.mem)
      else none
    | _, _, _ => match opVal P st { o with op := .binOp op t x y yt } with
      | some v => some (v, st.mem)
      | none => none
  | .call c => match c.callee with
    | .value (.func f) => if c.args.toList.all (okOpnd st) then match call f (c.args.toList.map (ev st)) with
        | some v => if bare v then some (v, st.mem) else none
        | none => none
      else none
    | .builtin _ => match opVal P st o with
      | some v => some (v, st.mem)
      | none => none
    | _ => none
  | .unOp .. | .convert .. | .field .. | .index .. | .extract .. => match opVal P st o with
    | some v => some (v, st.mem)
    | none => none
  | _ => none

def yieldedV (ops : Array Oper) (st : St) (j : Nat) : Option Bool :=
  match ((ops[j]?).bind (·.dst)).bind (st.tmps[·]?) with
  | some (.bool b) => some b
  | _ => none

def stepG (P : Program) (call : FuncId → List Value → Option Value) (ops : Array Oper) (o : Oper) (pos : Option Nat) (st : St) : Option St :=
  if Region.wanted o (yieldedV ops st) then
    match act P call pos st o with
    | some (v, m) => some ⟨putL st.tmps o.dst v, m⟩
    | none => none
  else some (st.put o.dst undef)

def runList (P : Program) (call : FuncId → List Value → Option Value) (ops : Array Oper) : List (Oper × Option Nat) → St → Option St
  | [], st => some st
  | (o, pos) :: rest, st => match stepG P call ops o pos st with
    | some s => runList P call ops rest s
    | none => none

def makes : Op → Bool
  | .box .. | .alloc _ => true
  | _ => false
/-- The block to which a slot leads, as far as it can be foreseen. -/
def blkOf (tmps : List Value) : List (Nat × Option Nat) → Nat → Option Nat
  | [], t => match tmps[t]? with
    | some (.pointer (some a)) => some a.block
    | _ => none
  | (d, b) :: env, t => match Nat.beq d t with
    | true => b
    | false => blkOf tmps env t
/-- What an operation puts into its slot, and the block that it touches, foreseen. -/
def seeOp (tmps : List Value) (env : List (Nat × Option Nat)) (n : Nat) : Op → Option Nat × Option Nat
  | .box .. => (some n, some n)
  | .alloc _ => (some n, some n)
  | .indexAddr _ (.tmp x) _ => (blkOf tmps env x, none)
  | .fieldAddr _ (.tmp x) _ => (blkOf tmps env x, none)
  | .move (.tmp x) => (blkOf tmps env x, none)
  | .assign (.tmp x) => (blkOf tmps env x, none)
  | .load _ (.tmp x) => (none, blkOf tmps env x)
  | .store _ (.tmp x) _ => (none, blkOf tmps env x)
  | _ => (none, none)
/-- Each operation with the place that is kept for what it makes, or the block that it will touch. -/
def places (draw : Bool) (tmps : List Value) : List (Nat × Option Nat) → Nat → List Oper → List (Oper × Option Nat)
  | _, _, [] => []
  | env, n, o :: rest => match makes o.op with
    | true => (o, some n) :: places draw tmps (match o.dst with | some d => (d, some n) :: env | none => env) (n + 1) rest
    | false => match draw with
      | false => (o, none) :: places draw tmps env n rest
      | true => (o, (seeOp tmps env n o.op).2) :: places draw tmps (match o.dst with | some d => (d, (seeOp tmps env n o.op).1) :: env | none => env) n rest
def made : List Oper → Nat
  | [] => 0
  | o :: rest => match makes o.op with
    | true => made rest + 1
    | false => made rest
def room (m : Mem) (l : List Oper) : Mem := m ++ List.replicate (made l) none

/-- 0: touches no memory · 1: reads · 2: makes · 3: writes. -/
def memClass : Op → Nat
  | .move _ | .assign _ | .pick .. | .indexAddr .. | .fieldAddr .. | .build .. | .binOp .. | .call _ | .unOp .. | .convert .. | .field .. | .index .. | .extract .. => 0
  | .load .. => 1
  | .box .. | .alloc _ => 2
  | _ => 3

def apartPos : Option Nat → Option Nat → Bool
  | some a, some b => !Nat.beq a b
  | _, _ => false

def swapOk (ops : Array Oper) (x y : Oper × Option Nat) : Bool :=
  x.1.apart ops y.1 && (memClass x.1.op == 0 || memClass y.1.op == 0 || (Nat.ble (memClass x.1.op) 2 && Nat.ble (memClass y.1.op) 2) || apartPos x.2 y.2)

/-- The operations that must be ahead of one, as the bits of a number. -/
def maskOf (acc : List Nat) (y : Oper) : Nat := y.after.toList.foldl (fun s e => match Region.binds .any e with
  | true => s ||| 2 ^ e.on ||| acc.getD e.on 0
  | false => s) 0
def masks : List Nat → List Oper → List Nat
  | acc, [] => acc
  | acc, y :: rest => masks (acc ++ [maskOf acc y]) rest

def okFrom (ops : Array Oper) (i : Nat) (x : Oper × Option Nat) : List ((Oper × Option Nat) × Nat) → Bool
  | [] => true
  | (y, m) :: rest => (m.testBit i || swapOk ops x y) && okFrom ops i x rest
def okAll (ops : Array Oper) : Nat → List ((Oper × Option Nat) × Nat) → Bool
  | _, [] => true
  | i, (x, _) :: rest => okFrom ops i x rest && okAll ops (i + 1) rest
def okEdges : Nat → List Oper → Bool
  | _, [] => true
  | i, y :: rest => (y.after.toList.all fun e => !Region.binds .any e || decide (e.on < i)) && okEdges (i + 1) rest
def okDraw (ops : Array Oper) (l : List (Oper × Option Nat)) : Bool := okAll ops 0 (l.zip (masks [] ops.toList)) && okEdges 0 ops.toList

structure Cx where
  P : Program
  tbl : FuncId → List Value → Option (Bool × Value)
  inl : FuncId → Option Func

def lit (st : St) (d : Nat) (b : Bool) : St := ⟨st.tmps.set d (.bool b), st.mem⟩

def gTmp (ops : Array Oper) (j : Nat) : Option Tmp :=
  match ops[j]? with
  | some o => o.dst
  | none => none

def guardK (ops : Array Oper) (o : Oper) (st : St) (run skip : St → Option Value) : Option Value :=
  match o.guard with
  | none => run st
  | some (j, want) => match gTmp ops j with
    | none => skip st
    | some d => match st.tmps[d]? with
      | some (.bool b) => match b with
        | true => match want with
          | true => run (lit st d true)
          | false => skip (lit st d true)
        | false => match want with
          | true => skip (lit st d false)
          | false => run (lit st d false)
      | _ => skip st

def actK (P : Program) (callK : FuncId → List Value → (Value → Option Value) → Option Value) (o : Oper) (pos : Option Nat) (st : St) (K : St → Option Value) : Option Value :=
  match o.op with
  | .pick (.tmp c) a b => if okMove a && okMove b then match st.tmps[c]? with
      | some (.bool q) => match q with
        | true => K ((lit st c true).put o.dst (ev (lit st c true) a))
        | false => K ((lit st c false).put o.dst (ev (lit st c false) b))
      | _ => none
    else none
  | .binOp .quo _ x y _ => match ev st x, ev st y with
    | .int k a, .int k' b => if okOpnd st x && okOpnd st y && decide (k = k') then match b == 0 with
        | true => none
        | false => K ⟨putL st.tmps o.dst (.int k (k.wrap (a.tdiv b))), st.mem⟩
      else none
    | _, _ => match act P (fun f args => callK f args some) pos st o with
      | some (v, m) => K ⟨putL st.tmps o.dst v, m⟩
      | none => none
  | .binOp .rem _ x y _ => match ev st x, ev st y with
    | .int k a, .int k' b => if okOpnd st x && okOpnd st y && decide (k = k') then match b == 0 with
        | true => none
        | false => K ⟨putL st.tmps o.dst (.int k (a.tmod b)), st.mem⟩
      else none
    | _, _ => match act P (fun f args => callK f args some) pos st o with
      | some (v, m) => K ⟨putL st.tmps o.dst v, m⟩
      | none => none
  | .call c => match c.callee with
    | .value (.func f) => if c.args.toList.all (okOpnd st) then callK f (c.args.toList.map (ev st)) fun v => if bare v then K ⟨putL st.tmps o.dst v, st.mem⟩ else none
      else none
    | .builtin _ => match opVal P st o with
      | some v => K ⟨putL st.tmps o.dst v, st.mem⟩
      | none => none
    | _ => none
  | _ => match act P (fun f args => callK f args some) pos st o with
    | some (v, m) => K ⟨putL st.tmps o.dst v, m⟩
    | none => none

def forceL {β : Type} : List Value → (List Value → β) → β
  | [], k => k []
  | x :: xs, k => forceL xs fun ys => k (x :: ys)

def opsK (P : Program) (callK : FuncId → List Value → (Value → Option Value) → Option Value) (ops : Array Oper) : List (Oper × Option Nat) → St → (St → Option Value) → Option Value
  | [], st, K => K st
  | (o, pos) :: rest, st, K => forceL st.tmps fun l => guardK ops o ⟨l, st.mem⟩ (fun s => actK P callK o pos s fun s' => opsK P callK ops rest s' K) (fun s => opsK P callK ops rest (s.put o.dst undef) K)

def resOf (P : Program) (st : St) : ResultVar → Option Value
  | .tmp t => match ev st (.tmp t) with
    | v => if bare v then some v else none
  | .cell a t => match ev st (.tmp a) with
    | .pointer (some ⟨b, off, none⟩) => loadV P st.mem t b off
    | _ => none
def resAll (P : Program) (st : St) : List ResultVar → Option (List Value)
  | [] => some []
  | x :: rest => match resOf P st x with
    | some v => match resAll P st rest with
      | some vs => some (v :: vs)
      | none => none
    | none => none
def resV (P : Program) (fn : Func) (st : St) : Option Value :=
  match resAll P st fn.results.toList with
  | some [v] => some v
  | some vs => some (.tuple vs.toArray)
  | none => none

def enter (fn : Func) (args : List Value) : St := ⟨args ++ List.replicate (fn.ntmps - args.length) undef, []⟩

def retK (P : Program) (fn : Func) : Exit → St → Option Value
  | .normal, st => resV P fn st
  | .ret, st => resV P fn st
  | _, _ => none

def exCode (C : Cx) : Nat → Code → St → (Exit → St → Option Value) → Option Value
  | 0, _, _, _ => none
  | n + 1, c, st, K => match c with
    | .skip => K .normal st
    | .label _ => K .normal st
    | .seq x y => exCode C n x st fun e s => match e with
      | .normal => exCode C n y s K
      | e => K e s
    | .cond c x y => match c with
      | .tmp t => match st.tmps[t]? with
        | some (.bool b) => match b with
          | true => exCode C n x (lit st t true) K
          | false => exCode C n y (lit st t false) K
        | _ => none
      | _ => none
    | .block id x => exCode C n x st fun e s => match e with
      | .exit i => if i = id then K .normal s else K (.exit i) s
      | e => K e s
    | .loop x => exCode C n x st fun e s => match e with
      | .normal => exCode C n (.loop x) s K
      | e => K e s
    | .exit id => K (.exit id) st
    | .ret => K .ret st
    | .region _ ops draw =>
      if !draw || okDraw ops (places draw st.tmps [] st.mem.length ops.toList) then
        opsK C.P (fun f args K => match C.tbl f args with
          | some (d, v) => match d with
            | true => K v
            | false => none
          | none => match C.inl f with
            | some fn => match fn.body with
              | some b => exCode C n b (enter fn args) fun e s => match retK C.P fn e s with
                | some v => K v
                | none => none
              | none => none
            | none => none) ops (places draw st.tmps [] st.mem.length ops.toList) ⟨st.tmps, room st.mem ops.toList⟩ fun s => K .normal s
      else none
    | _ => none

def exFun (C : Cx) (n : Nat) (fn : Func) (args : List Value) : Option Value :=
  match fn.body with
  | some b => exCode C n b (enter fn args) (retK C.P fn)
  | none => none

end Go.Proofs.Ytagnkjdobkdhmaa.Vx
