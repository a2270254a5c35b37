/- The reckoner: what one operation, one region, one call does to a store of named blocks. -/
import Derived.Test.YtfkkimpcemlmcaaSw21
namespace Go.SX
open Go Go.RowKit
set_option linter.unusedVariables false
set_option linter.unusedSimpArgs false

/-! ### values of the model that are closed -/

def ofV1 : Value → Option SV
  | .bool b => some (.bool (.lit b))
  | .int k n => some (.int k (.lit n))
  | .string s => some (.str s)
  | .pointer none => some (.ptr none)
  | .slice none 0 0 => some (.slice none (.lit 0) (some (.lit 0)))
  | .map none => some .nilMap
  | .nilFunc => some .nilFunc
  | .nilIface => some .nilIface
  | _ => none

def ofL : List Value → Option (List SV)
  | [] => some []
  | v :: l => match ofV1 v, ofL l with
    | some s, some r => some (s :: r)
    | _, _ => none

def ofV : Value → Option SV
  | .agg vs => (ofL vs.toList).map .agg
  | .tuple vs => (ofL vs.toList).map .tuple
  | v => ofV1 v

def evalO (tm : T SV) : Operand → Option SV
  | .tmp t => tm.get t
  | .const v => ofV v
  | .global _ => none
  | .func f => some (.func (.func f) [] [])

def evalL (tm : T SV) : List Operand → Option (List SV)
  | [] => some []
  | o :: l => match evalO tm o, evalL tm l with
    | some s, some r => some (s :: r)
    | _, _ => none

def SV.cellsL : SV → List SV
  | .agg l => l
  | s => [s]

/-- one cell's value -/
def SV.flat : SV → Bool
  | .agg _ | .tuple _ | .any => false
  | _ => true

def SV.isAny : SV → Bool
  | .any => true
  | _ => false
theorem SV.isAny_of {v : SV} (h : v.cellsL.all SV.flat = true) : v.isAny = false := by
  cases v <;> first | rfl | (simp [SV.cellsL, SV.flat] at h)
def undefS : SV := .tuple []

/-! ### branching -/

/-- what a test that is decided says of a range -/
def tighten (cx : Ctx) : BE → Bool → Ctx
  | .neg b, v => tighten cx b (!v)
  | .cmp o a b, v => match b.litI with
    | some n => (match bnd cx a with
      | some x => bif decide ((refine2 o v x (n, n)).1 = x) then cx else addB cx a (refine2 o v x (n, n)).1
      | none => cx)
    | none => (match a.litI with
      | some n => (match bnd cx b with
        | some x => bif decide ((refine2 o v (n, n) x).2 = x) then cx else addB cx b (refine2 o v (n, n) x).2
        | none => cx)
      | none => cx)
  | _, _ => cx

def branch (cx : Ctx) (b : BE) (k : Bool → Ctx → Tree) : Tree :=
  match resolveJ cx b with
  | some v => k v (tighten cx b v)
  | none =>
    let c := simpB cx b
    let t := assumeJ 50 cx c true
    let e := assumeJ 50 cx c false
    bif deadC t then k false e else bif deadC e then k true t else .ite c (k true t) (k false e)

def need (cx : Ctx) (b : BE) (why : String) (k : Ctx → Tree) : Tree :=
  match resolveJ cx b with
  | some true => k cx
  | some false => .fail why
  | none => .need b (k (assumeJ 50 cx b true))

/-- a number that is from j on, and less than j + n: one way for each -/
def pinGo (cx : Ctx) (i : E) (k : Nat → Ctx → Tree) (j : Nat) : Nat → Tree
  | 0 => .fail "pin"
  | n + 1 => match n with
    | 0 => k j (assumeJ 50 cx (mkCmp cx .eql i (.lit j)) true)
    | _ + 1 => branch cx (mkCmp cx .eql i (.lit j)) fun v cx => if v then k j cx else pinGo cx i k (j + 1) n
def pinT (cx : Ctx) (i : E) (n : Nat) (k : Nat → Ctx → Tree) : Tree :=
  match i with
  | .lit a => k a.toNat cx
  | _ => bif Nat.ble n 64 then pinGo cx i k 0 n else .fail "pin"

/-! ### types -/

def szOf (P : Program) (t : TypeId) : Option Nat := (P.info? t).map (·.size)
def aggT (P : Program) (t : TypeId) : Option Bool :=
  match P.underlying t with
  | some (.struct _) => some true
  | some (.array _ _) => some true
  | some _ => some false
  | none => none
def zeroL (P : Program) (t : TypeId) : Option (List SV) :=
  match P.info? t with
  | some i => match i.zero with
    | some v => ofL v.cells.toList
    | none => none
  | none => none

/-! ### addresses -/

def SA.plus : SA → Nat → SA
  | .c b off, n => .c b (off + n)
  | .s b ix m off, n => .s b ix m (off + n)
  | .g b off, n => .g b (off + n)
  | .h b ix m off, n => .h b ix m (off + n)

/-- the i-th element of a row of elements of size m -/
def SA.elem (a : SA) (m : Nat) (e : E) : Option SA :=
  match a, e with
  | .c b off, .lit n => some (.c b (off + n.toNat * m))
  | .g b off, .lit n => some (.g b (off + n.toNat * m))
  | .c b 0, e => some (.s b e m 0)
  | .s b ix m' 0, e => bif Nat.beq m m' then some (.s b (mkO2 .add ix e) m 0) else none
  | _, _ => none

def SA.name : SA → Nat
  | .c b _ => b
  | .s b _ _ _ => b
  | .g b _ => b
  | .h b _ _ _ => b

/-- some cells of a row -/
def cut (l : List SV) (off n : Nat) : Option (List SV) :=
  let r := (l.drop off).take n
  bif Nat.beq r.length n then some r else none

def cellS (k : Option IntKind) (e : E) : SV := match k with
  | some k => .int k e
  | none => .bool (.tst e)
def arrCells (sig : List (Option IntKind)) (F : Nat) (ix : List E) (off : Nat) : Nat → Option (List SV)
  | 0 => some []
  | n + 1 => match sig[off]?, arrCells sig F ix (off + 1) n with
    | some k, some r => some (cellS k (.app (F + off) ix) :: r)
    | _, _ => none

/-- the ranges of the cells of a row, by their kinds -/
def arrRng (sig : List (Option IntKind)) (F : Nat) (ix : List E) (off : Nat) : Nat → List (E × Int × Int)
  | 0 => []
  | n + 1 => match sig[off]? with
    | some (some k) => (.app (F + off) ix, k.min, k.max) :: arrRng sig F ix (off + 1) n
    | _ => arrRng sig F ix (off + 1) n

/-- cells of a row from one on, that may lie in several elements -/
def arrCellsM (sig : List (Option IntKind)) (F : Nat) (as : List E) (off : Nat) : Nat → Option (List SV)
  | 0 => some []
  | n + 1 => match sig[off % sig.length]?, arrCellsM sig F as (off + 1) n with
    | some k, some r => some (cellS k (.app (F + off % sig.length) (as ++ [.lit (off / sig.length : Nat)])) :: r)
    | _, _ => none
def arrRngM (sig : List (Option IntKind)) (F : Nat) (as : List E) (off : Nat) : Nat → List (E × Int × Int)
  | 0 => []
  | n + 1 => match sig[off % sig.length]? with
    | some (some k) => (.app (F + off % sig.length) (as ++ [.lit (off / sig.length : Nat)]), k.min, k.max) :: arrRngM sig F as (off + 1) n
    | _ => arrRngM sig F as (off + 1) n

def loadN (cx : Ctx) (a : SA) (n : Nat) (k : List SV → Ctx → Tree) : Tree :=
  .get a.name fun blk =>
    match blk, a with
    | .cells l _, .c _ off | .ro l, .c _ off | .grow l _ _, .g _ off => match cut l off n with
      | some r => k r cx
      | none => .fail "load cells"
    | .arr sig F as N, .s _ ix m off =>
      bif Nat.beq m sig.length then
        (match arrCells sig F (as ++ [ix]) off n with
         | some r => need cx (mkCmp cx .lss ix N) "load index" fun cx => k r (addRs cx (arrRng sig F (as ++ [ix]) off n))
         | none => .fail "load row")
      else .fail "load size"
    | .arr sig F as N, .c _ off =>
      (match arrCellsM sig F as off n with
       | some r => bif Nat.beq sig.length 0 then .fail "load no row" else
         need cx (mkCmp cx .lss (.lit ((off + (n - 1)) / sig.length : Nat)) N) "load index" fun cx => k r (addRs cx (arrRngM sig F as off n))
       | none => .fail "load row")
    | .vec sig code N _, .h _ ix m off =>
      bif Nat.beq m sig.length && Nat.blt m 32 && Nat.ble (off + n) 100 then
        (match arrCells sig (1100 + 100 * m) [code, ix] off n with
         | some r => need cx (mkCmp cx .lss ix N) "load index" fun cx => k r (addRs cx (arrRng sig (1100 + 100 * m) [code, ix] off n))
         | none => .fail "load row")
      else .fail "load size"
    | .big z m N _, .c _ off => bif Nat.ble (off + n) N then k ((List.range n).map fun j => (m.get (off + j)).getD z) cx else .fail "load cells"
    | _, _ => .fail "load kind"

def loadT (P : Program) (cx : Ctx) (t : TypeId) (a : SA) (k : SV → Ctx → Tree) : Tree :=
  match aggT P t with
  | some true => match szOf P t with
    | some n => loadN cx a n fun l cx => k (.agg l) cx
    | none => .fail "load type"
  | some false => loadN cx a 1 fun l cx => match l with
    | [v] => k v cx
    | _ => .fail "load one"
  | none => .fail "load type"

def setMany {α : Type} (l : List α) (off : Nat) : List α → List α
  | [] => l
  | v :: vs => setMany (l.set off v) (off + 1) vs
def setManyT {α : Type} (m : T α) (off : Nat) : List α → T α
  | [] => m
  | v :: vs => setManyT (m.set off v) (off + 1) vs

/-- the integers that stand for cells of these kinds -/
def cellE : Option IntKind → SV → Option E
  | some k, .int k' e => if k = k' then some e else none
  | none, .bool b => some b.toE
  | _, _ => none
def cellsE (sig : List (Option IntKind)) (off : Nat) : List SV → Option (List E)
  | [] => some []
  | v :: l => match sig[off]?, cellsE sig (off + 1) l with
    | some k, some r => match cellE k v with
      | some e => some (e :: r)
      | none => none
    | _, _ => none
/-- they are integers of their kinds -/
def cellNeed (cx : Ctx) : Option IntKind → E → BE
  | some k, e => mkAnd (mkCmp cx .leq (.lit k.min) e) (mkCmp cx .leq e (.lit k.max))
  | none, _ => .lit true
def cellNeeds (cx : Ctx) (sig : List (Option IntKind)) (off : Nat) : List E → BE
  | [] => .lit true
  | e :: l => match sig[off]? with
    | some k => mkAnd (cellNeed cx k e) (cellNeeds cx sig (off + 1) l)
    | none => cellNeeds cx sig (off + 1) l
/-- a code with some cells set -/
def setE (code pos : E) : List E → E
  | [] => code
  | e :: l => setE (.app 1002 [code, pos, e]) (mkO2 .add pos (.lit 1)) l

def storeT (P : Program) (cx : Ctx) (t : TypeId) (a : SA) (v : SV) (k : Ctx → Tree) : Tree :=
  match szOf P t, a with
  | some n, .c b off =>
    let cs := v.cellsL
    bif Nat.beq cs.length n && cs.all SV.flat then
      .get b fun blk => match blk with
        | .cells l e => bif Nat.ble (off + n) l.length then .set b (.cells (setMany l off cs) e) (k cx) else .fail "store room"
        | .big z m N e => bif Nat.ble (off + n) N then .set b (.big z (setManyT m off cs) N e) (k cx) else .fail "store room"
        | _ => .fail "store kind"
    else .fail "store size"
  | some n, .g b off =>
    let cs := v.cellsL
    bif Nat.beq cs.length n && cs.all SV.flat then
      .get b fun blk => match blk with
        | .grow l e m => bif Nat.ble (off + n) l.length then .set b (.grow (setMany l off cs) e m) (k cx) else .fail "store room"
        | _ => .fail "store kind"
    else .fail "store size"
  | some n, .h b ix m off =>
    let cs := v.cellsL
    bif Nat.beq cs.length n && cs.all SV.flat then
      .get b fun blk => match blk with
        | .vec sig code N e => bif Nat.beq m sig.length && Nat.ble (off + n) m then
            (match cellsE sig off cs with
             | some es => need cx (mkCmp cx .lss ix N) "store index" fun cx => need cx (cellNeeds cx sig off es) "store range" fun cx =>
                 .set b (.vec sig (setE code (mkO2 .add (mkO2 .mul (.lit m) ix) (.lit off)) es) N e) (k cx)
             | none => .fail "store cell")
          else .fail "store room"
        | _ => .fail "store kind"
    else .fail "store size"
  | _, _ => .fail "store place"

/-! ### building -/

def fillS (place : Nat → Option (Nat × Nat)) (cells : List SV) : List (Nat × SV) → Option (List SV)
  | [] => some cells
  | (i, v) :: rest =>
    match place i with
    | none => none
    | some (off, size) =>
      bif Nat.beq v.cellsL.length size && Nat.ble (off + v.cellsL.length) cells.length && !v.isAny
      then fillS place (setMany cells off v.cellsL) rest
      else none

def evalP (tm : T SV) : List (Nat × Operand) → Option (List (Nat × SV))
  | [] => some []
  | (i, o) :: l => match evalO tm o, evalP tm l with
    | some s, some r => some ((i, s) :: r)
    | _, _ => none

def placesOf (P : Program) : List Field → Option (List (Nat × Nat))
  | [] => some []
  | f :: l => match szOf P f.type, placesOf P l with
    | some n, some r => some ((f.offset, n) :: r)
    | _, _ => none

def repeatL (zero : List SV) (n : Nat) : List SV := (List.range n).map fun i => (zero[i % zero.length]?).getD undefS

/-! ### equality -/

/-- the cells of a part of an aggregate -/
def partS (P : Program) (xs : List SV) (off : Nat) (t : TypeId) : Option (List SV) :=
  match szOf P t, aggT P t with
  | some n, some true => cut xs off n
  | some n, some false => bif Nat.beq n 1 then cut xs off 1 else none
  | _, _ => none
def eqAll {α : Type} (g : α → Option BE) : List α → Option BE
  | [] => some (.lit true)
  | a :: l => match g a, eqAll g l with
    | some x, some y => some (mkAnd x y)
    | _, _ => none
/-- the same, cell by cell: integers and bools, in structs whose fields are named, and in arrays -/
def eqV (P : Program) (cx : Ctx) : Nat → TypeId → List SV → List SV → Option BE
  | 0, _, _, _ => none
  | d + 1, t, xs, ys => match P.underlying t with
    | some (.int _) => (match xs, ys with
      | [.int k a], [.int k' b] => if k = k' then some (seenC cx (mkCmp cx .eql a b)) else none
      | _, _ => none)
    | some .bool => (match xs, ys with
      | [.bool a], [.bool b] => some (mkEqb a b)
      | _, _ => none)
    | some (.struct fs) => bif !P.stoodInHeld t then
        eqAll (fun f => bif f.name != "_" then (match partS P xs f.offset f.type, partS P ys f.offset f.type with
          | some a, some b => eqV P cx d f.type a b
          | _, _ => none) else none) fs.toList else none
    | some (.array n e) => (match szOf P e with
      | some m => eqAll (fun i => match partS P xs (i * m) e, partS P ys (i * m) e with
          | some a, some b => eqV P cx d e a b
          | _, _ => none) (List.range n)
      | none => none)
    | _ => none

def eqAgg (P : Program) (cx : Ctx) (t : TypeId) (xs ys : List SV) : Option BE :=
  match aggT P t with
  | some true => bif !P.eqGuardType P.depth t then eqV P cx 20 t xs ys else none
  | _ => none

def needs2 (cx : Ctx) (op : BinOp) (b : E) (k : Ctx → Tree) : Tree :=
  match op with
  | .quo | .rem => need cx (mkCmp cx .neq b (.lit 0)) "division by zero" k
  | .shl | .shr => need cx (mkCmp cx .geq b (.lit 0)) "shift" k
  | _ => k cx

def isCmp : BinOp → Bool
  | .eql | .neq | .lss | .leq | .gtr | .geq => true
  | _ => false

def isEq : BinOp → Bool
  | .eql | .neq => true
  | _ => false

def eqRes (op : BinOp) (b : BE) : SV := .bool (match op with | .neq => mkNeg b | _ => b)

def SA.same : SA → SA → Option Bool
  | .c b o, .c b' o' => bif Nat.beq b b' then some (Nat.beq o o') else none
  | _, _ => none

def binS (P : Program) (cx : Ctx) (op : BinOp) (t : TypeId) (x y : SV) (k : SV → Ctx → Tree) : Tree :=
  match x, y with
  | .int kx a, .int ky b =>
    if isCmp op then (if kx = ky then k (.bool (mkCmp cx op a b)) cx else .fail "kinds")
    else if kx = ky ∨ op = .shl ∨ op = .shr then needs2 cx op b fun cx => k (.int kx (mkBin cx op kx a b)) cx
    else .fail "kinds"
  | .bool a, .bool b => match P.underlying t with
    | some .bool => if isEq op then k (eqRes op (mkEqb a b)) cx else .fail "bool op"
    | _ => .fail "bool type"
  | .str a, .str b => match Op.stringOp op a b with
    | .pure v => match ofV1 v with
      | some s => k s cx
      | none => .fail "string op"
    | _ => .fail "string op"
  | .ptr a, .ptr b => match P.underlying t with
    | some (.pointer e) =>
      if isEq op then
        (match a, b with
         | none, none => k (eqRes op (.lit true)) cx
         | none, some _ => k (eqRes op (.lit false)) cx
         | some _, none => k (eqRes op (.lit false)) cx
         | some a, some b => match szOf P e with
           | some (_ + 1) => match SA.same a b with
             | some v => k (eqRes op (.lit v)) cx
             | none => .get a.name fun u => .get b.name fun v => match u, v with
               | .cells _ _, .cells _ _ => bif Nat.beq a.name b.name then .fail "pointers" else k (eqRes op (.lit false)) cx
               | _, _ => .fail "pointers"
           | _ => .fail "pointers")
      else .fail "pointer op"
    | _ => .fail "pointer type"
  | .agg xs, .agg ys => if isEq op then
      (match eqAgg P cx t xs ys with
       | some b => k (eqRes op b) cx
       | none => .fail "struct")
      else .fail "struct op"
  | .slice a _ _, .slice b _ _ => match P.underlying t with
    | some (.slice _) => if isEq op then
        (match a, b with
         | none, none => k (eqRes op (.lit true)) cx
         | none, some _ => k (eqRes op (.lit false)) cx
         | some _, none => k (eqRes op (.lit false)) cx
         | some _, some _ => .fail "slices")
        else .fail "slice op"
    | _ => .fail "slice type"
  | _, _ => .fail "binop"

def mmS (cx : Ctx) (o : O2) : List SV → Option SV
  | [] => none
  | x :: rest => rest.foldl (fun acc y => match acc, y with
    | some (.int k a), .int _ b => some (.int k (mkMM cx o a b))
    | _, _ => none) (some x)

/-- the kinds of cells that are all zero -/
def zeroSig : List SV → Option (List (Option IntKind))
  | [] => some []
  | .int k (.lit 0) :: l => (zeroSig l).map (some k :: ·)
  | .bool (.lit false) :: l => (zeroSig l).map (none :: ·)
  | _ => none

/-- append: n elements whose cells are l -/
def appN (P : Program) (cx : Ctx) (e size bytes : Nat) (s : SV) (l : List SV) (n : Nat) (k : SV → Ctx → Tree) : Tree :=
  match s with
  | .slice (some a) (.lit 0) (some (.lit 0)) =>
    bif Nat.beq n 0 then k (.slice (some a) (.lit 0) (some (.lit 0))) cx
    else bif Nat.ble (n * bytes) 140737488355328 && Nat.ble n 140737488355328 then .new (.grow l e size) fun m => k (.slice (some (.g m 0)) (.lit n) none) cx
    else .fail "append size"
  | .slice none (.lit 0) (some (.lit 0)) =>
    bif Nat.beq n 0 then k (.slice none (.lit 0) (some (.lit 0))) cx
    else bif Nat.ble (n * bytes) 140737488355328 && Nat.ble n 140737488355328 then .new (.grow l e size) fun m => k (.slice (some (.g m 0)) (.lit n) none) cx
    else .fail "append size"
  | .slice (some (.g b 0)) (.lit sl) none =>
    .get b fun blk => match blk with
      | .grow old e' m =>
        bif Nat.beq e e' && Nat.beq m size && Nat.beq old.length (sl.toNat * size) && Nat.ble ((sl.toNat + n) * bytes) 140737488355328 && Nat.ble (sl.toNat + n) 140737488355328 then
          .set b .dead (.new (.grow (old ++ l) e size) fun m => k (.slice (some (.g m 0)) (.lit ((sl.toNat + n : Nat) : Int)) none) cx)
        else .fail "append row"
      | _ => .fail "append kind"
  | .slice (some (.c b 0)) (.lit sl) (some (.lit sc)) =>
    .get b fun blk => match blk with
      | .cells old e' =>
        bif Nat.beq e e' && Nat.ble ((sl.toNat + n) * size) old.length && Nat.ble (sl.toNat + n) sc.toNat then
          .set b (.cells (setMany old (sl.toNat * size) l) e') (k (.slice (some (.c b 0)) (.lit ((sl.toNat + n : Nat) : Int)) (some (.lit sc))) cx)
        else bif Nat.ble (sl.toNat * size) old.length && Nat.blt sc.toNat (sl.toNat + n) && Nat.ble ((sl.toNat + n) * bytes) 140737488355328 && Nat.ble (sl.toNat + n) 140737488355328 then
          .new (.grow (old.take (sl.toNat * size) ++ l) e size) fun m => k (.slice (some (.g m 0)) (.lit ((sl.toNat + n : Nat) : Int)) none) cx
        else .fail "append cells"
      | _ => .fail "append kind"
  | .vg b len =>
    .get b fun blk => match blk with
      | .vec sig code N e' =>
        bif Nat.beq e e' && Nat.beq size sig.length && len.same N && Nat.beq n 1 then
          (match cellsE sig 0 l with
           | some es => need cx (mkCmp cx .leq (mkO2 .add len (.lit 1)) (.lit (140737488355328 / (bytes + 1) : Nat))) "append size" fun cx => need cx (cellNeeds cx sig 0 es) "append range" fun cx =>
               .set b .dead (.new (.vec sig (.app 1001 (code :: es)) (mkO2 .add len (.lit 1)) e) fun m => k (.vg m (mkO2 .add len (.lit 1))) cx)
           | none => .fail "append cell")
        else .fail "append row"
      | _ => .fail "append kind"
  | _ => .fail "append slice"

/-- append of nothing -/
def appZ (s : SV) (cx : Ctx) (k : SV → Ctx → Tree) : Tree :=
  match s with
  | .slice a (.lit n) none => k (.slice a (.lit n) none) cx
  | .slice a (.lit n) (some (.lit c)) => if 0 ≤ n ∧ n ≤ c then k (.slice a (.lit n) (some (.lit c))) cx else .fail "append nil"
  | .vg b len => k (.vg b len) cx
  | _ => .fail "append nil"

/-- a number that is known -/
def litE (cx : Ctx) : E → E
  | .lit n => .lit n
  | e => match bnd cx e with
    | some (a, b) => if a = b then .lit a else e
    | none => e
def appT (P : Program) (cx : Ctx) (t : TypeId) (s x : SV) (k : SV → Ctx → Tree) : Tree :=
  match P.underlying t with
  | some (.slice e) => match P.info? e, zeroL P e with
    | some i, some z => bif Nat.beq z.length i.size then
        match x with
        | .slice (some a) (.lit n) _ => loadN cx a (n.toNat * i.size) fun l cx => bif l.all SV.flat then appN P cx e i.size i.bytes s l n.toNat k else .fail "append cells"
        | .slice none (.lit 0) (some (.lit 0)) => appZ s cx k
        | .vsl _ (.lit 0) => appZ s cx k
        | .vsl b len => (match litE cx len with
          | .lit n => if 0 < n then loadN cx (.c b 0) (n.toNat * i.size) fun l cx => bif l.all SV.flat then appN P cx e i.size i.bytes s l n.toNat k else .fail "append cells" else .fail "append row"
          | _ => .fail "append row")
        | _ => .fail "append what"
      else .fail "append type"
    | _, _ => .fail "append type"
  | _ => .fail "append type"

/-- a bound of a slice that is written out -/
def litLo (tm : T SV) (o : Option Operand) (d : Nat) : Option Nat := match o with
  | none => some d
  | some o => match evalO tm o with
    | some (.int _ (.lit z)) => if 0 ≤ z then some z.toNat else none
    | _ => none
/-- a known name of a number -/
def nameK (e : E) : List (BE × Bool) → E
  | [] => e
  | (.cmp .eql (.app f l) x, true) :: r => if x.same e then .app f l else nameK e r
  | (.cmp .eql (.conv k (.app f l)) x, true) :: r => if x.same e then .conv k (.app f l) else nameK e r
  | _ :: r => nameK e r
def rwE (cx : Ctx) : E → E
  | .op .sub a b => nameK (.op .sub a b) cx.k
  | e => e
def rwK (k : SV → Ctx → Tree) : SV → Ctx → Tree := fun v cx => match v with
  | .int kd e => k (.int kd (rwE cx e)) cx
  | v => k v cx
def isZ (k : IntKind) : SV → Bool
  | .int k' (.lit 0) => decide (k' = k)
  | _ => false
/-- the one zero of a great block's cells -/
def bigZ (z : List SV) (n : Nat) : Option SV := bif Nat.ble 64 n then (match z with
  | .int k (.lit 0) :: r => bif r.all (isZ k) then some (.int k (.lit 0)) else none
  | _ => none) else none
/-- a slot's value, if there is one -/
def evT (tm : T SV) (x : Operand) (f : SV → Tree) : Tree := match evalO tm x with
  | some v => f v
  | none => .fail "operand"
def aPick (P : Program) (tm : T SV) (cx : Ctx) (k : SV → Ctx → Tree) (c : Operand) (a : Operand) (b : Operand) : Tree :=
  evT tm c fun v => match v with
    | .bool q => branch cx q fun v cx => if v then evT tm a fun v => k v cx else evT tm b fun v => k v cx
    | _ => .fail "pick"
def aAlloc (P : Program) (tm : T SV) (cx : Ctx) (k : SV → Ctx → Tree) (t : TypeId) : Tree :=
  match zeroL P t with
    | some l => .new (.cells l t) fun n => k (.ptr (some (.c n 0))) cx
    | none => .fail "alloc"
def aBox (P : Program) (tm : T SV) (cx : Ctx) (k : SV → Ctx → Tree) (t : TypeId) (x : Operand) : Tree :=
  evT tm x fun v => if v.cellsL.all SV.flat then .new (.cells v.cellsL t) fun n => k (.ptr (some (.c n 0))) cx else .fail "box"
def aBuild (P : Program) (tm : T SV) (cx : Ctx) (k : SV → Ctx → Tree) (t : TypeId) (parts : Array (Nat × Operand)) : Tree :=
  match zeroL P t, evalP tm parts.toList with
    | some z, some ps => match P.underlying t with
      | some (.struct fs) => match placesOf P fs.toList with
        | some pl => match fillS (pl[·]?) z ps with
          | some l => k (.agg l) cx
          | none => .fail "build"
        | none => .fail "build"
      | some (.array _ e) => match szOf P e with
        | some m => match fillS (fun i => some (i * m, m)) z ps with
          | some l => k (.agg l) cx
          | none => .fail "build"
        | none => .fail "build"
      | _ => .fail "build"
    | _, _ => .fail "build"
def aBuildSlice (P : Program) (tm : T SV) (cx : Ctx) (k : SV → Ctx → Tree) (t : TypeId) (len : Nat) (parts : Array (Nat × Operand)) : Tree :=
  match P.underlying t, evalP tm parts.toList with
    | some (.slice e), some ps => match szOf P e, zeroL P e with
      | some m, some z =>
        bif Nat.ble (len * m) 16777216 && !Nat.beq z.length 0 then
          match fillS (fun i => some (i * m, m)) (repeatL z (len * m)) ps with
          | some l => .new (.cells l e) fun n => k (.slice (some (.c n 0)) (.lit len) (some (.lit len))) cx
          | none => .fail "buildSlice"
        else .fail "buildSlice"
      | _, _ => .fail "buildSlice"
    | _, _ => .fail "buildSlice"
def aLoad (P : Program) (tm : T SV) (cx : Ctx) (k : SV → Ctx → Tree) (t : TypeId) (a : Operand) : Tree :=
  evT tm a fun v => match v with
    | .ptr (some a) => loadT P cx t a k
    | _ => .fail "load"
def aStore (P : Program) (tm : T SV) (cx : Ctx) (k : SV → Ctx → Tree) (t : TypeId) (a : Operand) (x : Operand) : Tree :=
  evT tm a fun v => match v with
    | .ptr (some a) => evT tm x fun v => storeT P cx t a v fun cx => k undefS cx
    | _ => .fail "store"
def aNilCheck (P : Program) (tm : T SV) (cx : Ctx) (k : SV → Ctx → Tree) (x : Operand) : Tree :=
  evT tm x fun v => match v with
    | .ptr (some a) => k (.ptr (some a)) cx
    | .func f a b => k (.func f a b) cx
    | .slice a l c => k (.slice a l c) cx
    | .vsl b l => k (.vsl b l) cx
    | .vg b l => k (.vg b l) cx
    | _ => .fail "nil"
def aBinOp (P : Program) (tm : T SV) (cx : Ctx) (k : SV → Ctx → Tree) (op : BinOp) (t : TypeId) (x : Operand) (y : Operand) : Tree :=
  evT tm x fun a => evT tm y fun b => binS P cx op t a b (rwK k)
def aUnOp (P : Program) (tm : T SV) (cx : Ctx) (k : SV → Ctx → Tree) (op : UnOp) (t : TypeId) (x : Operand) : Tree :=
  evT tm x fun v => match op, v with
    | .neg, .int kd e => k (.int kd (mkBin cx .sub kd (.lit 0) e)) cx
    | .xor, .int kd e => k (.int kd (mkBin cx .xor kd (.lit (if kd.signed then -1 else kd.max)) e)) cx
    | .not, .bool b => k (.bool (mkNeg b)) cx
    | _, _ => .fail "unop"
def aConvert (P : Program) (tm : T SV) (cx : Ctx) (k : SV → Ctx → Tree) (s : TypeId) (d : TypeId) (x : Operand) : Tree :=
  evT tm x fun v => match P.underlying s, P.underlying d, v with
    | some _, some (.int kd), .int _ e => k (.int kd (mkConv cx kd e)) cx
    | some _, some .string, .str b => k (.str b) cx
    | _, _, _ => .fail "convert"
def aMakeInterface (P : Program) (tm : T SV) (cx : Ctx) (k : SV → Ctx → Tree) (t : TypeId) (x : Operand) : Tree :=
  evT tm x fun v => match P.underlying t with
    | some (.interface _) => .fail "iface"
    | some _ => k (.iface t v) cx
    | none => .fail "iface"
def aMakeFunc (P : Program) (tm : T SV) (cx : Ctx) (k : SV → Ctx → Tree) (f : Nat) (first : Array Operand) (captured : Array Operand) : Tree :=
  match evalL tm first.toList, evalL tm captured.toList with
    | some a, some b => k (.func (.func f) a b) cx
    | _, _ => .fail "makeFunc"
def aMakeSlice (P : Program) (tm : T SV) (cx : Ctx) (k : SV → Ctx → Tree) (t : TypeId) (l : Operand) (c : Operand) : Tree :=
  match P.underlying t, evalO tm l, evalO tm c with
    | some (.slice e), some (.int _ (.lit n)), some (.int _ (.lit m)) =>
      (match P.info? e, zeroL P e with
       | some i, some z =>
         if 0 ≤ n ∧ n ≤ m ∧ m ≤ 1000000 ∧ i.bytes * m ≤ 2 ^ 48 ∧ ¬ z.length = 0 then
           match bigZ z (m.toNat * i.size) with
           | some v => .new (.big v .nil (m.toNat * i.size) e) fun nm => k (.slice (some (.c nm 0)) (.lit n) (some (.lit m))) cx
           | none => .new (.cells (repeatL z (m.toNat * i.size)) e) fun nm => k (.slice (some (.c nm 0)) (.lit n) (some (.lit m))) cx
         else .fail "makeSlice"
       | _, _ => .fail "makeSlice")
    | some (.slice e), some (.int _ n), some (.int _ m) =>
      (match P.info? e, zeroL P e with
       | some i, some z => match zeroSig z with
         | some sig => bif Nat.beq sig.length i.size && Nat.blt 0 sig.length then
             need cx (mkCmp cx .leq (.lit 0) n) "make low" fun cx => need cx (mkCmp cx .leq n m) "make room" fun cx => need cx (mkCmp cx .leq m (.lit (140737488355328 / (i.bytes + 1) : Nat))) "make size" fun cx =>
               .new (.vec sig (.app 1003 [mkO2 .mul (.lit sig.length) n]) n e) fun nm => k (.vg nm n) cx
           else .fail "makeSlice"
         | none => .fail "makeSlice"
       | _, _ => .fail "makeSlice")
    | _, _, _ => .fail "makeSlice"
def aFieldAddr (P : Program) (tm : T SV) (cx : Ctx) (k : SV → Ctx → Tree) (s : TypeId) (x : Operand) (f : Nat) : Tree :=
  evT tm x fun v => match v, P.underlying s with
    | .ptr (some a), some (.struct fs) => match fs[f]? with
      | some fd => match szOf P fd.type with
        | some (_ + 1) => k (.ptr (some (a.plus fd.offset))) cx
        | _ => .fail "fieldAddr"
      | none => .fail "fieldAddr"
    | _, _ => .fail "fieldAddr"
def aField (P : Program) (tm : T SV) (cx : Ctx) (k : SV → Ctx → Tree) (t : TypeId) (x : Operand) (f : Nat) : Tree :=
  evT tm x fun v => match v, P.underlying t with
    | .agg l, some (.struct fs) => match fs[f]? with
      | some fd => match aggT P fd.type, szOf P fd.type with
        | some true, some n => match cut l fd.offset n with
          | some r => k (.agg r) cx
          | none => .fail "field"
        | some false, _ => match l[fd.offset]? with
          | some v => k v cx
          | none => .fail "field"
        | _, _ => .fail "field"
      | none => .fail "field"
    | _, _ => .fail "field"
def aIndexAddr (P : Program) (tm : T SV) (cx : Ctx) (k : SV → Ctx → Tree) (t : TypeId) (x : Operand) (ix : Operand) : Tree :=
  evT tm x fun v => evT tm ix fun w => match P.underlying t, v, w with
    | some (.slice e), .slice (some a) len _, .int _ i => match szOf P e, a with
      | some m, a =>
        need cx (mkCmp cx .geq i (.lit 0)) "index low" fun cx => need cx (mkCmp cx .lss i len) "index high" fun cx =>
          match a.elem m i with
          | some b => k (.ptr (some b)) cx
          | none => .fail "indexAddr"
      | _, _ => .fail "indexAddr"
    | some (.slice e), .vsl b len, .int _ i => match szOf P e with
      | some m =>
        need cx (mkCmp cx .geq i (.lit 0)) "index low" fun cx => need cx (mkCmp cx .lss i len) "index high" fun cx =>
          match (SA.c b 0).elem m i with
          | some b => k (.ptr (some b)) cx
          | none => .fail "indexAddr"
      | none => .fail "indexAddr"
    | some (.slice e), .vg b len, .int _ i => match szOf P e with
      | some m =>
        need cx (mkCmp cx .geq i (.lit 0)) "index low" fun cx => need cx (mkCmp cx .lss i len) "index high" fun cx =>
          k (.ptr (some (.h b i m 0))) cx
      | none => .fail "indexAddr"
    | some (.array n e), .ptr (some a), .int _ i => match szOf P e with
      | some m =>
        need cx (mkCmp cx .geq i (.lit 0)) "index low" fun cx => need cx (mkCmp cx .lss i (.lit n)) "index high" fun cx =>
          pinT cx i n fun j cx => match a.elem m (.lit (j : Nat)) with
          | some b => k (.ptr (some b)) cx
          | none => .fail "indexAddr"
      | none => .fail "indexAddr"
    | _, _, _ => .fail "indexAddr"
def aIndex (P : Program) (tm : T SV) (cx : Ctx) (k : SV → Ctx → Tree) (t : TypeId) (x : Operand) (ix : Operand) : Tree :=
  evT tm x fun v => evT tm ix fun w => match P.underlying t, v, w with
    | some (.array n e), .agg l, .int _ i => match aggT P e, szOf P e with
      | some true, some m =>
        need cx (mkCmp cx .geq i (.lit 0)) "index low" fun cx => need cx (mkCmp cx .lss i (.lit n)) "index high" fun cx =>
          pinT cx i n fun j cx => match cut l (j * m) m with
          | some r => k (.agg r) cx
          | none => .fail "index"
      | some false, some m =>
        need cx (mkCmp cx .geq i (.lit 0)) "index low" fun cx => need cx (mkCmp cx .lss i (.lit n)) "index high" fun cx =>
          pinT cx i n fun j cx => match l[j * m]? with
          | some v => k v cx
          | none => .fail "index"
      | _, _ => .fail "index"
    | some .string, .str s, .int _ (.lit i) => if 0 ≤ i then (match s[i.toNat]? with
        | some b => k (.int .u8 (.lit b.toNat)) cx
        | none => .fail "index") else .fail "index"
    | _, _, _ => .fail "index"
def aSlice (P : Program) (tm : T SV) (cx : Ctx) (k : SV → Ctx → Tree) (t : TypeId) (x : Operand) (lo : Option Operand) (hi : Option Operand) : Tree :=
  evT tm x fun v => match P.underlying t, v with
    | some (.slice e), .slice a len cap =>
      (match (match lo with | none => some (E.lit 0) | some o => match evalO tm o with | some (.int _ e) => some e | _ => none),
             (match hi with | none => some len | some o => match evalO tm o with | some (.int _ e) => some e | _ => none), szOf P e, cap with
       | some l, some h, some m, some c =>
         need cx (mkCmp cx .leq h c) "slice cap" fun cx => need cx (mkCmp cx .geq l (.lit 0)) "slice low" fun cx => need cx (mkCmp cx .leq l h) "slice high" fun cx =>
           branch cx (mkCmp cx .eql c l) fun v cx =>
             if v then k (.slice a (mkO2 .sub h l) (some (mkO2 .sub c l))) cx
             else match a with
               | none => .fail "slice nil"
               | some a => match a.elem m l with
                 | some b => k (.slice (some b) (mkO2 .sub h l) (some (mkO2 .sub c l))) cx
                 | none => .fail "slice"
       | some l, some h, some m, none =>
         need cx (mkCmp cx .leq h len) "slice len" fun cx => need cx (mkCmp cx .geq l (.lit 0)) "slice low" fun cx => need cx (mkCmp cx .leq l h) "slice high" fun cx =>
           (match l, a with
            | .lit 0, some a => k (.slice (some a) (mkO2 .sub h (.lit 0)) none) cx
            | l, some a => bif l.same h then k (.vsl a.name (.lit 0)) cx else need cx (mkCmp cx .lss l len) "slice end" fun cx => (match a.elem m l with
              | some b => (match capOf (some b) with
                | none => k (.slice (some b) (mkO2 .sub h l) none) cx
                | some _ => .fail "slice cap")
              | none => .fail "slice")
            | _, none => .fail "slice nil")
       | _, _, _, _ => .fail "slice")
    | some (.slice e), .vsl b len =>
      (match (match lo with | none => some (E.lit 0) | some o => match evalO tm o with | some (.int _ e) => some e | _ => none),
             (match hi with | none => some len | some o => match evalO tm o with | some (.int _ e) => some e | _ => none), szOf P e with
       | some l, some h, some m =>
         need cx (mkCmp cx .leq h len) "slice len" fun cx => need cx (mkCmp cx .geq l (.lit 0)) "slice low" fun cx => need cx (mkCmp cx .leq l h) "slice high" fun cx =>
           branch cx (mkCmp cx .lss l h) fun v cx =>
             if v then k (.slice (some (.s b l m 0)) (mkO2 .sub h l) none) cx else k (.vsl b (.lit 0)) cx
       | _, _, _ => .fail "slice")
    | some (.array n e), .ptr (some (.c b off)) => (match litLo tm lo 0, litLo tm hi n, szOf P e with
      | some l, some h, some m => if l ≤ h ∧ h ≤ n then k (.slice (some (.c b (if n = l then off else off + l * m))) (.lit ((h - l : Nat) : Int)) (some (.lit ((n - l : Nat) : Int)))) cx else .fail "slice array"
      | _, _, _ => .fail "slice array")
    | _, _ => .fail "slice"
def aSlice2 (P : Program) (tm : T SV) (cx : Ctx) (k : SV → Ctx → Tree) (t : TypeId) (x : Operand) : Tree :=
  evT tm x fun v => match P.underlying t, v with
    | some (.slice e), .slice a len cap => (match szOf P e with
      | some m => k (.slice a (.lit 0) (some (.lit 0))) cx
      | none => .fail "slice")
    | _, _ => .fail "slice"
def aSliceToArrayPointer (P : Program) (tm : T SV) (cx : Ctx) (k : SV → Ctx → Tree) (t : TypeId) (x : Operand) : Tree :=
  evT tm x fun v => match P.underlying t, v with
    | some (.array n _), .vsl b len => bif Nat.beq n 0 then .fail "array of none" else need cx (mkCmp cx .leq (.lit (n : Nat)) len) "array" fun cx => k (.ptr (some (.c b 0))) cx
    | some (.array n _), .slice (some a) len _ => need cx (mkCmp cx .leq (.lit (n : Nat)) len) "array" fun cx => k (.ptr (some a)) cx
    | _, _ => .fail "array"
def aExtract (P : Program) (tm : T SV) (cx : Ctx) (k : SV → Ctx → Tree) (t : Operand) (i : Nat) : Tree :=
  evT tm t fun v => match v with
    | .tuple l => match l[i]? with
      | some v => k v cx
      | none => .fail "extract"
    | _ => .fail "extract"
def aCall (P : Program) (tm : T SV) (cx : Ctx) (k : SV → Ctx → Tree) (c : Call) : Tree :=
  match c.callee with
    | .builtin .len => match c.args.toList, c.argTypes[0]? with
      | [x], some t => evT tm x fun v => match P.underlying t, v with
        | some (.slice _), .slice _ len _ => k (.int .i64 len) cx
        | some (.slice _), .vsl _ len => k (.int .i64 (litE cx len)) cx
        | some (.slice _), .vg _ len => k (.int .i64 len) cx
        | some .string, .str s => k (.int .i64 (.lit s.size)) cx
        | some (.array n _), _ => k (.int .i64 (.lit n)) cx
        | some (.map _ _), .nilMap => k (.int .i64 (.lit 0)) cx
        | _, _ => .fail "len"
      | _, _ => .fail "len"
    | .builtin .cap => match c.args.toList, c.argTypes[0]? with
      | [x], some t => evT tm x fun v => match P.underlying t, v with
        | some (.slice _), .slice _ _ (some e) => need cx (mkCmp cx .geq e (.lit 0)) "cap" fun cx => k (.int .i64 e) cx
        | _, _ => .fail "cap"
      | _, _ => .fail "cap"
    | .builtin .append => match c.args.toList, c.argTypes.toList with
      | [x, y], [t, u] => bif Nat.beq t u then evT tm x fun s => evT tm y fun v => appT P cx t s v k else .fail "append types"
      | _, _ => .fail "append"
    | .builtin .max => match evalL tm c.args.toList with
      | some l => match mmS cx .mx l with
        | some (.int kd e) => k (.int kd e) cx
        | _ => .fail "max"
      | none => .fail "max"
    | .builtin .min => match evalL tm c.args.toList with
      | some l => match mmS cx .mn l with
        | some (.int kd e) => k (.int kd e) cx
        | _ => .fail "min"
      | none => .fail "min"
    | _ => .fail "builtin"
/-- an operation that calls no function of the program -/
def aop (P : Program) (tm : T SV) (cx : Ctx) (o : Oper) (k : SV → Ctx → Tree) : Tree :=
  match o.op with
  | .move x | .assign x => evT tm x fun v => k v cx
  | .pick c a b => aPick P tm cx k c a b
  | .alloc t => aAlloc P tm cx k t
  | .box t x => aBox P tm cx k t x
  | .build t parts => aBuild P tm cx k t parts
  | .buildSlice t len parts => aBuildSlice P tm cx k t len parts
  | .load t a => aLoad P tm cx k t a
  | .store t a x => aStore P tm cx k t a x
  | .nilCheck x => aNilCheck P tm cx k x
  | .binOp op t x y _ => aBinOp P tm cx k op t x y
  | .unOp op t x => aUnOp P tm cx k op t x
  | .convert s d x => aConvert P tm cx k s d x
  | .makeInterface t x => aMakeInterface P tm cx k t x
  | .makeFunc (.func f) first captured => aMakeFunc P tm cx k f first captured
  | .makeSlice t l c => aMakeSlice P tm cx k t l c
  | .fieldAddr s x f => aFieldAddr P tm cx k s x f
  | .field t x f => aField P tm cx k t x f
  | .indexAddr t x ix => aIndexAddr P tm cx k t x ix
  | .index t x ix => aIndex P tm cx k t x ix
  | .slice t x lo hi none => aSlice P tm cx k t x lo hi
  | .slice t x none (some (.const (.int _ 0))) (some (.const (.int _ 0))) => aSlice2 P tm cx k t x
  | .sliceToArrayPointer t x => aSliceToArrayPointer P tm cx k t x
  | .extract t i => aExtract P tm cx k t i
  | .call c => aCall P tm cx k c
  | _ => .fail "operation"

/-! ### frames -/

structure FI where
  fn : Nat
  nt : Nat
  rd : Option Nat

inductive Req where
  | fr (F : FI) (todo : List Item) (tm : T SV) (df : List Nat) (cx : Ctx)
  | call (f : Nat) (args : List SV) (cx : Ctx)
  | yield (l : Nat) (args : List SV) (cx : Ctx)

inductive Res where
  | left (jump : Option Code) (tm : T SV) (df : List Nat) (cx : Ctx)
  | val (v : SV) (cx : Ctx)

abbrev Run := Req → (Res → Tree) → Tree

/-- what a table says of a call: tests that must hold, the value, tests that hold then -/
structure Summ where
  needs : List BE
  v : SV
  facts : List BE
  rngs : List (E × Int × Int)
  blks : List (Nat × List SV) := []
  arrs : List (Nat × List (Option IntKind) × Nat × E) := []

abbrev Book := Nat → List SV → Ctx → Option Summ
/-- trees that stand for calls -/
abbrev Gen := Nat → List SV → Ctx → Option ((SV → Ctx → Tree) → Tree)

def setTm (F : FI) (tm : T SV) (dst : Option Tmp) (v : SV) (k : T SV → Tree) : Tree :=
  match dst with
  | none => k tm
  | some d => bif Nat.blt d F.nt then k (tm.set d v) else .fail "slot"

def callV (rec : Run) (f : SV) (args : List SV) (cx : Ctx) (k : SV → Ctx → Tree) : Tree :=
  match f with
  | .func (.func g) first cap => rec (.call g (first ++ args ++ cap) cx) fun r => match r with
    | .val v cx => k v cx
    | _ => .fail "call"
  | .func (.yield l) first _ => rec (.yield l (first ++ args) cx) fun r => match r with
    | .val v cx => k v cx
    | _ => .fail "call"
  | _ => .fail "callee"

def doOp (P : Program) (rec : Run) (F : FI) (tm : T SV) (cx : Ctx) (o : Oper) (k : SV → Ctx → Tree) : Tree :=
  match o.op with
  | .call { callee := .value f, args, .. } => match evalO tm f, evalL tm args.toList with
    | some f, some args => callV rec f args cx k
    | _, _ => .fail "call operands"
  | _ => aop P tm cx o k

/-- is an operation wanted? -/
def wantS (F : FI) (ops : Array Oper) (tm : T SV) (cx : Ctx) (o : Oper) (k : Bool → T SV → Ctx → Tree) : Tree :=
  match o.guard with
  | none => k true tm cx
  | some (j, want) => match (ops[j]?).bind (·.dst) with
    | none => .fail "guard"
    | some t => match tm.get t with
      | some (.bool b) => branch cx b fun v cx => setTm F tm (some t) (.bool (.lit v)) fun tm => k (v == want) tm cx
      | some (.tuple []) => k false tm cx
      | _ => .fail "guard value"

def runOps (P : Program) (rec : Run) (F : FI) (ops : Array Oper) (k : T SV → Ctx → Tree) : List Oper → T SV → Ctx → Tree
  | [], tm, cx => k tm cx
  | o :: rest, tm, cx => wantS F ops tm cx o fun w tm cx =>
    if w then doOp P rec F tm cx o fun v cx => setTm F tm o.dst v fun tm => runOps P rec F ops k rest tm cx
    else setTm F tm o.dst undefS fun tm => runOps P rec F ops k rest tm cx

/-- what is kept of an operation of a region whose order is open -/
structure Rec where
  i : Nat
  lg : Log

/-- the operations before each, as bits -/
def ancOf (masks : T Nat) (o : Oper) : Nat := o.after.toList.foldl (fun m e => if Region.binds .any e then m ||| 2 ^ e.on ||| (masks.get e.on).getD 0 else m) 0

/-- may operation i (its mask m, its record) go in any order with those recorded before it? -/
def apartS (m : Nat) (lg : Log) (rs : List Rec) : Bool :=
  rs.all fun r => m.testBit r.i ||
    (!(lg.tch.any fun b => r.lg.wr.any (Nat.beq b)) && !(lg.wr.any fun b => r.lg.tch.any (Nat.beq b)) &&
     !(lg.tch.any fun b => Nat.ble r.lg.lo b && Nat.blt b r.lg.hi))
/-- an operation that touches nothing may go anywhere -/
def apart1 (ops : Array Oper) (i : Nat) (o : Oper) (m : Nat) (lg : Log) (rs : List Rec) : Bool := match lg.tch with
  | [] => (match lg.wr with
    | [] => true
    | _ => apartS m lg rs)
  | _ => apartS m lg rs
theorem apart1_S {ops : Array Oper} {i : Nat} {o : Oper} {m : Nat} {lg : Log} {rs : List Rec} (h : apart1 ops i o m lg rs = true) : apartS m lg rs = true := by
  unfold apart1 at h
  split at h
  · rename_i h1
    split at h
    · rename_i h2
      unfold apartS
      simp [h1, h2]
    · exact h
  · exact h

/-- operation i (its mask m) shares no slot with an operation before it in the text, but with those that must come before it -/
def apart2 (ops : Array Oper) (i : Nat) (o : Oper) (m : Nat) : Bool :=
  (List.range i).all fun j => m.testBit j || match ops[j]? with
    | none => true
    | some p => p.apart ops o

def edgesLow (i : Nat) (o : Oper) : Bool := o.after.all fun e => !Region.binds .any e || Nat.blt e.on i

def drawOps (P : Program) (rec : Run) (F : FI) (ops : Array Oper) (k : T SV → Ctx → Tree) : List Oper → Nat → T Nat → List Rec → T SV → Ctx → Tree
  | [], _, _, _, tm, cx => k tm cx
  | o :: rest, i, masks, rs, tm, cx =>
    let m := ancOf masks o
    if edgesLow i o && apart2 ops i o m then
      wantS F ops tm cx o fun w tm cx =>
        if w then .seg (doOp P rec F tm cx o fun v cx => .leaf (.val v cx)) fun out lg => match out with
          | .val v cx =>
            if apart1 ops i o m lg rs then
              setTm F tm o.dst v fun tm => drawOps P rec F ops k rest (i + 1) (masks.set i m) (⟨i, lg⟩ :: rs) tm cx
            else .fail "order"
          | _ => .fail "order of what"
        else setTm F tm o.dst undefS fun tm => drawOps P rec F ops k rest (i + 1) (masks.set i m) rs tm cx
    else .fail "order of slots"

def retVal (P : Program) (cx : Ctx) (tm : T SV) : List ResultVar → (List SV → Ctx → Tree) → Tree
  | [], k => k [] cx
  | .tmp t :: l, k => match tm.get t with
    | some v => retVal P cx tm l fun vs cx => k (v :: vs) cx
    | none => .fail "result"
  | .cell a t :: l, k => match tm.get a with
    | some (.ptr (some A)) => loadT P cx t A fun v cx => retVal P cx tm l fun vs cx => k (v :: vs) cx
    | _ => .fail "result cell"

def oneOf : List SV → SV
  | [v] => v
  | l => .tuple l

def setL (tm : T SV) (i : Nat) : List SV → T SV
  | [] => tm
  | v :: l => setL (tm.set i v) (i + 1) l

def setP (F : FI) (tm : T SV) : List Nat → List SV → (T SV → Tree) → Tree
  | p :: ps, v :: vs, k => setTm F tm (some p) v fun tm => setP F tm ps vs k
  | [], [], k => k tm
  | _, _, _ => .fail "parameters"

/-- the blocks for what a range over a function defers are taken at the return -/
def takeD : List Nat → Tree → Tree
  | [], t => t
  | d :: l, t => .get d fun b => match b with
    | .dfr false => .set d (.dfr true) (takeD l t)
    | _ => .fail "defers"

def needAll (cx : Ctx) (k : Ctx → Tree) : List BE → Tree
  | [] => k cx
  | b :: l => need cx b "call" fun cx => needAll cx k l

/-- blocks that must hold what is said -/
def needBlks (t : Tree) : List (Nat × List SV) → Tree
  | [] => t
  | (b, l) :: r => .get b fun blk => match blk with
    | .cells l' _ => bif SV.sameL l' l then needBlks t r else .fail "memo block"
    | .ro l' => bif SV.sameL l' l then needBlks t r else .fail "memo block"
    | _ => .fail "memo block kind"

/-- rows that must be those of these functions, of these lengths -/
def needArrs (t : Tree) : List (Nat × List (Option IntKind) × Nat × E) → Tree
  | [] => t
  | (b, sig, F, N) :: r => .get b fun blk => match blk with
    | .arr sig' F' [] N' => bif decide (sig' = sig) && (Nat.beq F' F && N'.same N) then needArrs t r else .fail "row of a contract"
    | _ => .fail "row of a contract: kind"

def assumeAll (cx : Ctx) : List BE → Ctx
  | [] => cx
  | b :: l => assumeAll (assume cx b true) l

/-! ### loops: a contract that is checked over the loop's body -/

/- only variables below a number -/
mutual
def E.low (n : Nat) : E → Bool
  | .lit _ => true
  | .var i => Nat.blt i n
  | .op _ a b => a.low n && b.low n
  | .bin _ _ a b => a.low n && b.low n
  | .conv _ a => a.low n
  | .app _ l => lowEL n l
  | .ite c a b => c.low n && a.low n && b.low n
  | .cmp _ a b => a.low n && b.low n
def lowEL (n : Nat) : List E → Bool
  | [] => true
  | e :: l => e.low n && lowEL n l
end
def BE.low (n : Nat) : BE → Bool
  | .lit _ => true
  | .cmp _ a b => a.low n && b.low n
  | .neg b => b.low n
  | .and a b => a.low n && b.low n
  | .eqb a b => a.low n && b.low n
  | .tst e => e.low n
def SA.low (n : Nat) : SA → Bool
  | .c _ _ => true
  | .s _ ix _ _ => ix.low n
  | .g _ _ => true
  | .h _ ix _ _ => ix.low n
def optLow {α : Type} (f : α → Bool) : Option α → Bool
  | none => true
  | some a => f a
mutual
def SV.low (n : Nat) : SV → Bool
  | .int _ e => e.low n
  | .bool b => b.low n
  | .ptr a => optLow (SA.low n) a
  | .slice a l c => optLow (SA.low n) a && l.low n && optLow (E.low n) c
  | .func _ x y => SV.lowL n x && SV.lowL n y
  | .iface _ v => v.low n
  | .agg l => SV.lowL n l
  | .tuple l => SV.lowL n l
  | .vsl _ e => e.low n
  | .vg _ e => e.low n
  | _ => true
def SV.lowL (n : Nat) : List SV → Bool
  | [] => true
  | x :: l => x.low n && SV.lowL n l
end
def Blk.low (n : Nat) : Blk → Bool
  | .cells l _ => SV.lowL n l
  | .ro l => SV.lowL n l
  | .arr _ _ as e => lowEL n as && e.low n
  | .loop _ => false
  | .dfr _ => true
  | .grow l _ _ => SV.lowL n l
  | .dead => true
  | .vec _ c e _ => c.low n && e.low n
  | .big .. => false
def Ctx.lows (n : Nat) (cx : Ctx) : Ctx := ⟨cx.b.filter fun p => p.1.low n, cx.k.filter fun p => p.1.low n, cx.d⟩

/-- a place in memory without a symbolic index -/
def optFix : Option SA → Bool
  | none => true
  | some (.c _ _) => true
  | _ => false
/-- a pattern of integers and bools: its variables from a number on stand for what is found in their places -/
abbrev Asg := List (Nat × E)
def getA (i : Nat) : Asg → Option E
  | [] => none
  | (j, e) :: l => bif Nat.beq i j then some e else getA i l
def putA (i : Nat) (e : E) (l : Asg) : Option Asg := match getA i l with
  | some e' => bif e.same e' then some l else none
  | none => some ((i, e) :: l)
def matchE (n : Nat) (t e : E) (l : Asg) : Option Asg := match t with
  | .var i => bif Nat.blt i n then (bif e.same (.var i) then some l else none) else putA i e l
  | t => bif t.low n && t.same e then some l else none
mutual
def matchV (n : Nat) : SV → SV → Asg → Option Asg
  | .int k t, .int k' e, l => bif decide (k = k') then matchE n t e l else none
  | .bool (.tst t), .bool b, l => matchE n t b.toE l
  | .bool (.lit x), .bool (.lit y), l => bif x == y then some l else none
  | .agg ts, .agg vs, l => matchL n ts vs l
  | .tuple ts, .tuple vs, l => matchL n ts vs l
  | .nilIface, .nilIface, l => some l
  | .str a, .str b, l => bif decide (a.data = b.data) then some l else none
  | .ptr a, .ptr b, l => bif optFix a && optA a b then some l else none
  | _, _, _ => none
def matchL (n : Nat) : List SV → List SV → Asg → Option Asg
  | [], [], l => some l
  | t :: ts, v :: vs, l => match matchV n t v l with
    | some l => matchL n ts vs l
    | none => none
  | _, _, _ => none
end
def matchT (n : Nat) (tm : T SV) : List (Nat × SV) → Asg → Option Asg
  | [], l => some l
  | (t, p) :: r, l => match tm.get t with
    | some v => (match matchV n p v l with
      | some l => matchT n tm r l
      | none => none)
    | none => none
def matchB (n : Nat) (h0 h : T Blk) : List (Nat × List SV) → Asg → Option Asg
  | [], l => some l
  | (b, p) :: r, l => match h0.get b, h.get b with
    | some (.cells _ t), some (.cells vs ty) => bif Nat.beq t ty then (match matchL n p vs l with
      | some l => matchB n h0 h r l
      | none => none) else none
    | _, _ => none
/-- all names are below a number -/
def T.under {α : Type} (m : Nat) : T α → Nat → Nat → Bool
  | .nil, _, _ => true
  | .node l v r, a, c => (v.isNone || Nat.blt c m) && T.under m l (2 * a) (a + c) && T.under m r (2 * a) (2 * a + c)
def asgIn (n m : Nat) (l : Asg) : Bool := l.all fun p => Nat.ble n p.1 && Nat.blt p.1 (n + m)
/-- what stands in the places n, n + 1 .. -/
def asgL (l : Asg) (i : Nat) : Nat → List E
  | 0 => []
  | m + 1 => ((getA i l).getD (.lit 0)) :: asgL l (i + 1) m

/- the variables from n on stand for others -/
mutual
def E.sub (n : Nat) (σ : Nat → E) : E → E
  | .lit x => .lit x
  | .var i => bif Nat.blt i n then .var i else σ (i - n)
  | .op o a b => .op o (a.sub n σ) (b.sub n σ)
  | .bin o k a b => .bin o k (a.sub n σ) (b.sub n σ)
  | .conv k a => .conv k (a.sub n σ)
  | .app f l => .app f (subEL n σ l)
  | .ite c a b => .ite (c.sub n σ) (a.sub n σ) (b.sub n σ)
  | .cmp o a b => .cmp o (a.sub n σ) (b.sub n σ)
def subEL (n : Nat) (σ : Nat → E) : List E → List E
  | [] => []
  | e :: l => e.sub n σ :: subEL n σ l
end
def BE.sub (n : Nat) (σ : Nat → E) : BE → BE
  | .lit b => .lit b
  | .cmp o a b => .cmp o (a.sub n σ) (b.sub n σ)
  | .neg b => .neg (b.sub n σ)
  | .and a b => .and (a.sub n σ) (b.sub n σ)
  | .eqb a b => .eqb (a.sub n σ) (b.sub n σ)
  | .tst e => .tst (e.sub n σ)
mutual
def SV.sub (n : Nat) (σ : Nat → E) : SV → SV
  | .int k e => .int k (e.sub n σ)
  | .bool b => .bool (b.sub n σ)
  | .agg l => .agg (SV.subL n σ l)
  | .tuple l => .tuple (SV.subL n σ l)
  | v => v
def SV.subL (n : Nat) (σ : Nat → E) : List SV → List SV
  | [] => []
  | v :: l => v.sub n σ :: SV.subL n σ l
end
/- integers, bools, strings: no place in memory -/
mutual
def SV.plain : SV → Bool
  | .int _ _ | .bool _ | .str _ | .nilIface => true
  | .agg l => SV.plainL l
  | .tuple l => SV.plainL l
  | _ => false
def SV.plainL : List SV → Bool
  | [] => true
  | v :: l => v.plain && SV.plainL l
end

/- the same, and pointers to places without a symbolic index -/
mutual
def SV.fix : SV → Bool
  | .int _ _ | .bool _ | .str _ | .nilIface => true
  | .ptr a => optFix a
  | .agg l => SV.fixL l
  | .tuple l => SV.fixL l
  | _ => false
def SV.fixL : List SV → Bool
  | [] => true
  | v :: l => v.fix && SV.fixL l
end

/-- a round of a loop -/
inductive CT where
  | again (es : List E)
  | exit (j : Nat) (es : List E)
  | ite (c : BE) (t e : CT)
  | need (c : BE) (t : CT)
  | fail

def CT.same : CT → CT → Bool
  | .again l, .again l' => sameL l l'
  | .exit j l, .exit j' l' => Nat.beq j j' && sameL l l'
  | .ite c t e, .ite c' t' e' => c.same c' && t.same t' && e.same e'
  | .need c t, .need c' t' => c.same c' && t.same t'
  | .fail, .fail => true
  | _, _ => false

/-- a row in a loop: its slot, the kinds of an element's cells, the element's type, the variables of its code and of its length -/
structure RowP where
  t : Nat
  sig : List (Option IntKind)
  ty : TypeId
  c : Nat
  n : Nat

structure XS where
  jump : Code
  n : Nat
  slots : List (Nat × SV)
  blks : List (Nat × List SV)
  rows : List RowP

structure LC where
  base : Nat
  n : Nat
  slots : List (Nat × SV)
  blks : List (Nat × List SV)
  keep : List Nat
  rngs : List (Int × Int)
  facts : List BE
  exits : List XS
  ct : CT
  pre : List BE
  K : Nat
  post : List BE
  prng : List (E × Int × Int)
  ex : List E
  rows : List RowP

abbrev LBook := Nat → Nat → Option (T SV → St → Option LC)

/-- what the reckoner goes by: contracts of calls, contracts of loops, the functions whose ways are joined, the functions whose regions are joined -/
structure Par where
  book : Book
  loops : LBook
  jc : Nat → Bool
  jr : Nat → Bool
  gen : Gen
  jd : Nat → Option (List Nat)

def firstId : Code → Nat
  | .region id _ _ => id
  | .seq a _ => firstId a
  | .block _ b => firstId b
  | .scope b => firstId b
  | _ => 0

def setSl (tm : T SV) : List (Nat × SV) → T SV
  | [] => tm
  | (t, v) :: r => (setSl tm r).set t v
def keepT (tm : T SV) : List Nat → T SV
  | [] => .nil
  | t :: r => match tm.get t with
    | some v => (keepT tm r).set t v
    | none => keepT tm r
def setBl (h : T Blk) : List (Nat × List SV) → T Blk
  | [] => h
  | (b, l) :: r => match h.get b with
    | some (.cells _ t) => (setBl h r).set b (.cells l t)
    | _ => setBl h r
def headB (base : Nat) : List (Int × Int) → List (E × Int × Int)
  | [] => []
  | (lo, hi) :: r => (.var base, lo, hi) :: headB (base + 1) r
def headCx (L : LC) (cx : Ctx) : Ctx := assumeAll ⟨headB L.base L.rngs ++ (cx.lows L.base).b, (cx.lows L.base).k, cx.d⟩ L.facts

def natsEq : List Nat → List Nat → Bool
  | [], [] => true
  | a :: l, b :: r => Nat.beq a b && natsEq l r
  | _, _ => false

def namesOf (l : List (Nat × List SV)) : List Nat := l.map (·.1)
def LC.plain (L : LC) : Bool := ((L.keep.all fun t => !(L.slots.any fun p => Nat.beq t p.1)) && L.slots.all (fun p => p.2.plain) && L.blks.all (fun p => SV.fixL p.2) && L.exits.all fun x =>
  x.slots.all (fun p => p.2.plain && p.2.low (L.base + x.n)) && x.blks.all (fun p => SV.fixL p.2 && SV.lowL (L.base + x.n) p.2) && natsEq (namesOf L.blks) (namesOf x.blks)) &&
  ((L.keep.all fun t => !(L.rows.any fun p => Nat.beq t p.t)) && L.rows.all (fun p => Nat.ble L.base p.c && Nat.ble L.base p.n) && L.exits.all fun x => x.rows.all fun p => Nat.ble L.base p.c && Nat.blt p.c (L.base + x.n) && Nat.ble L.base p.n && Nat.blt p.n (L.base + x.n))
/-- the row in a slot: its block, if there is one, its code, its length -/
def rowAt (tm : T SV) (h : T Blk) (p : RowP) : Option (Option Nat × E × E) := match tm.get p.t with
  | some (.vg b N) => (match h.get b with
    | some (.vec sig code N' ty) => if sig = p.sig ∧ ty = p.ty ∧ N.same N' = true then some (some b, code, N') else none
    | _ => none)
  | some (.slice none (.lit 0) (some (.lit 0))) => if 0 < p.sig.length then some (none, .app 1000 [], .lit 0) else none
  | _ => none
def addRn (n0 : Nat) (b : Option Nat) (bs : List Nat) : Option (List Nat) := match b with
  | none => some bs
  | some b => bif Nat.ble n0 b && !(bs.any fun c => Nat.beq b c) then some (b :: bs) else none
/-- the rows of some slots, whose names are n0 or later, and different -/
def matchR (n0 : Nat) (tm : T SV) (h : T Blk) : List RowP → Asg → Option (Asg × List Nat)
  | [], l => some (l, [])
  | p :: r, l => match rowAt tm h p with
    | some (b, code, N) => (match putA p.c code l with
      | some l1 => (match putA p.n N l1 with
        | some l2 => (match matchR n0 tm h r l2 with
          | some (l3, bs) => (addRn n0 b bs).map fun bs => (l3, bs)
          | none => none)
        | none => none)
      | none => none)
    | none => none
/-- the rows' slots at a loop's head; their names are nx and the next ones -/
def rowSl (nx : Nat) : List RowP → List (Nat × SV)
  | [] => []
  | p :: r => (p.t, .vg nx (.var p.n)) :: rowSl (nx + 1) r
def setRw (nx : Nat) : List RowP → T Blk → T Blk
  | [], h => h
  | p :: r, h => setRw (nx + 1) r (h.set nx (.vec p.sig (.var p.c) (.var p.n) p.ty))
def killL : List Nat → T Blk → T Blk
  | [], h => h
  | b :: r, h => (killL r h).set b .dead
/-- the same, as steps -/
def killT (t : Tree) : List Nat → Tree
  | [] => t
  | b :: r => killT (.set b .dead t) r
def rowsT (σ : Nat → E) (base : Nat) (t : Tree) : List RowP → Tree
  | [] => t
  | p :: r => .new (.vec p.sig (σ (p.c - base)) (σ (p.n - base)) p.ty) fun _ => rowsT σ base t r
def rowOut (σ : Nat → E) (base nx : Nat) : List RowP → List (Nat × SV)
  | [] => []
  | p :: r => (p.t, .vg nx (σ (p.n - base))) :: rowOut σ base (nx + 1) r
def allLow (n : Nat) (h : T Blk) : Nat → Bool
  | 0 => true
  | b + 1 => (match h.get b with | some v => v.low n | none => true) && allLow n h b
def keepLow (n : Nat) (tm : T SV) (l : List Nat) : Bool := l.all fun t => match tm.get t with
  | some v => v.low n
  | none => true
def keepSame (tm tm' : T SV) (l : List Nat) : Bool := l.all fun t => match tm.get t with
  | some v => (match tm'.get t with
    | some v' => v.same v'
    | none => false)
  | none => true

/-- the pointers in a loop's blocks are to what was there before it -/
def LC.olds (n : Nat) (L : LC) : Bool := L.blks.all (fun p => SV.olderL n p.2) && L.exits.all fun x => x.blks.all fun p => SV.olderL n p.2

def jumpIs : Code → Code → Bool
  | .ret, .ret => true
  | .exit i, .exit j => Nat.beq i j
  | _, _ => false
def encL (c : Nat) (es : List E) : SV := .tuple [.int .i64 (.lit c), .agg (es.map (.int .i64 ·))]

def exitK (L : LC) (n0 : Nat) (tm : T SV) (h0 h : T Blk) (c : Code) (cx : Ctx) : Nat → List XS → Tree
  | _, [] => .fail "loop exit"
  | j, x :: r => bif jumpIs c x.jump then
      (match matchT L.base tm x.slots [] with
       | some l => match matchB L.base h0 h x.blks l with
         | some l => match matchR n0 tm h x.rows l with
           | some (l, _) => bif asgIn L.base x.n l then .leaf (.val (encL (j + 1) (asgL l L.base x.n)) cx) else .fail "loop exit variables"
           | none => exitK L n0 tm h0 h c cx (j + 1) r
         | none => exitK L n0 tm h0 h c cx (j + 1) r
       | none => exitK L n0 tm h0 h c cx (j + 1) r)
    else exitK L n0 tm h0 h c cx (j + 1) r

def leafLoop (L : LC) (n0 : Nat) (tm0 : T SV) (h0 : T Blk) (df0 : List Nat) (j : Option Code) (tm : T SV) (df : List Nat) (cx : Ctx) : Tree :=
  .whole fun s =>
    bif natsEq df0 df && keepSame tm0 tm L.keep && s.wr.all (fun b => Nat.ble n0 b || L.blks.any fun p => Nat.beq b p.1) then
      match j with
      | none => (match matchT L.base tm L.slots [] with
        | some l => match matchB L.base h0 s.h L.blks l with
          | some l => match matchR n0 tm s.h L.rows l with
            | some (l, _) => bif asgIn L.base L.n l then .leaf (.val (encL 0 (asgL l L.base L.n)) cx) else .fail "loop variables"
            | none => .fail "loop rows"
          | none => .fail "loop blocks"
        | none => .fail "loop slots")
      | some c => exitK L n0 tm h0 s.h c cx 0 L.exits
    else .fail "loop keeps"

def unInts : List SV → Option (List E)
  | [] => some []
  | .int _ e :: l => (unInts l).map (e :: ·)
  | _ => none
def decL : SV → Option (Nat × List E)
  | .tuple [.int _ (.lit c), .agg l] => (unInts l).map (c.toNat, ·)
  | _ => none
def toCT : PT → CT
  | .leaf (.val v _) _ => match decL v with
    | some (0, es) => .again es
    | some (j + 1, es) => .exit j es
    | none => .fail
  | .ite c t e => .ite c (toCT t) (toCT e)
  | .need c t => .need c (toCT t)
  | .fail _ => .fail
  | .leaf (.tms _ _) _ => .fail

def rngNeeds : List E → List (Int × Int) → List BE
  | e :: es, (lo, hi) :: r => .cmp .geq e (.lit lo) :: .cmp .leq e (.lit hi) :: rngNeeds es r
  | _, _ => []
def atL (es : List E) (i : Nat) : E := (es[i]?).getD (.lit 0)

def goExits (L : LC) (es : List E) (cx : Ctx) (k : XS → Ctx → Tree) : Nat → List XS → Tree
  | _, [] => .fail "loop no exit"
  | _, [x] => k x cx
  | j, x :: r => branch cx (.cmp .eql (.app L.K (es ++ L.ex)) (.lit j)) fun v cx => bif v then k x cx else goExits L es cx k (j + 1) r

def setBlks (σ : Nat → E) (base : Nat) (t : Tree) : List (Nat × List SV) → Tree
  | [] => t
  | (b, l) :: r => .get b fun blk => match blk with
    | .cells _ ty => .set b (.cells (SV.subL base σ l) ty) (setBlks σ base t r)
    | _ => .fail "loop sets"
def subSl (n : Nat) (σ : Nat → E) : List (Nat × SV) → List (Nat × SV)
  | [] => []
  | (t, v) :: r => (t, v.sub n σ) :: subSl n σ r

def entered (P : Program) (f : Nat) : Option (Func × Code) :=
  match P.funcs[f]? with
  | some fn => if fn.name == "runtime.NumGoroutine" then none else match fn.body with
    | some c => some (fn, c)
    | none => none
  | none => none

def leafRes (L : LC) (n0 : Nat) (tm0 : T SV) (h0 : T Blk) (df : List Nat) : Res → Tree
  | .left j tm' df' cx' => leafLoop L n0 tm0 h0 df j tm' df' cx'
  | _ => .fail "loop leaf"
def headSl (L : LC) (nx : Nat) : List (Nat × SV) := L.slots ++ rowSl nx L.rows
/-- a round; h: the store without the rows, nx: the next name -/
def loopRun (rec : Run) (L : LC) (F : FI) (body : Code) (tm : T SV) (df : List Nat) (cx : Ctx) (h : T Blk) (nx : Nat) : PT :=
  run (rec (.fr F [.code body] (setSl (keepT tm L.keep) (headSl L nx)) df (headCx L cx)) (leafRes L nx (setSl (keepT tm L.keep) (headSl L nx)) h df)) ⟨setRw nx L.rows (setBl h L.blks), nx + L.rows.length, nx + L.rows.length, [], [], true⟩
def leaveT (rec : Run) (F : FI) (k : List Item) (tm : T SV) (df : List Nat) (cx : Ctx) (K : Res → Tree) : Code → Tree
  | .exit id => match exitTo id k with
    | some k' => rec (.fr F k' tm df cx) K
    | none => K (.left (some (.exit id)) tm df cx)
  | c => K (.left (some c) tm df cx)
def outE (L : LC) (es : List E) (i : Nat) : E := .app (L.K + 1 + i) (es ++ L.ex)

/-! ### the two ways of a test joined, with what they write -/

def leafJ (df0 : List Nat) : Res → Tree
  | .left none tm df cx => bif natsEq df0 df then .leaf (.tms tm cx) else .fail "cond defers"
  | _ => .fail "cond jumps"
def PT.wrs : PT → List Nat
  | .leaf _ s => s.wr
  | .ite _ t e => t.wrs ++ e.wrs
  | .need _ t => t.wrs
  | .fail _ => []
def dedupN : List Nat → List Nat
  | [] => []
  | b :: l => bif l.any (Nat.beq b) then dedupN l else b :: dedupN l
/-- a slot's value; any, if there is none for both -/
def mergeQ (c : E) (cx1 cx2 : Ctx) (n : Nat) (x y : SV) : SV × Rngs :=
  bif x.same y && x.older n then (x, []) else match mergeV c cx1 cx2 n x y with
    | some r => r
    | none => (.any, [])
def mergeQS (c : E) (cx1 cx2 : Ctx) (n : Nat) : List (Nat × SV) → List (Nat × SV) → Option (List (Nat × SV) × Rngs)
  | [], [] => some ([], [])
  | (d, x) :: l, (d', y) :: l' => bif Nat.beq d d' then (match mergeQS c cx1 cx2 n l l' with
    | some (m, r) => some ((d, (mergeQ c cx1 cx2 n x y).1) :: m, (mergeQ c cx1 cx2 n x y).2 ++ r)
    | none => none) else none
  | _, _ => none
def mergeQL (c : E) (cx1 cx2 : Ctx) (n : Nat) : List SV → List SV → Option (List SV × Rngs)
  | [], [] => some ([], [])
  | x :: l, y :: l' => match (bif x.same y && x.older n then some (x, []) else mergeV c cx1 cx2 n x y), mergeQL c cx1 cx2 n l l' with
    | some (v, r), some (vs, rs) => some (v :: vs, r ++ rs)
    | _, _ => none
  | _, _ => none
def mergeQB (c : E) (cx1 cx2 : Ctx) (n : Nat) : List (Nat × List SV) → List (Nat × List SV) → Option (List (Nat × List SV) × Rngs)
  | [], [] => some ([], [])
  | (d, x) :: l, (d', y) :: l' => bif Nat.beq d d' then (match mergeQL c cx1 cx2 n x y, mergeQB c cx1 cx2 n l l' with
    | some (v, r), some (m, rs) => some ((d, v) :: m, r ++ rs)
    | _, _ => none) else none
  | _, _ => none
def leafS (tm : T SV) (keep : List Nat) : List (Nat × SV) := keep.map fun d => (d, (tm.get d).getD .any)
def leafB (h0 h : T Blk) : List Nat → Option (List (Nat × List SV))
  | [] => some []
  | b :: l => match h0.get b, h.get b, leafB h0 h l with
    | some (.cells _ t), some (.cells x t'), some r => bif Nat.beq t t' then some ((b, x) :: r) else none
    | _, _, _ => none
structure JR where
  sl : List (Nat × SV)
  bl : List (Nat × List SV)
  cx : Ctx
def mergeC (keep keys : List Nat) (n : Nat) (h0 : T Blk) (cx0 : Ctx) : PT → Option JR
  | .leaf (.tms tm cx) s => (leafB h0 s.h keys).map fun bl => ⟨leafS tm keep, bl, cx⟩
  | .ite c t e => match mergeC keep keys n h0 cx0 t, mergeC keep keys n h0 cx0 e with
    | some a, some b => (match mergeQS c.toE a.cx b.cx n a.sl b.sl, mergeQB c.toE a.cx b.cx n a.bl b.bl with
      | some (sl, r1), some (bl, r2) => some ⟨sl, bl, addRs cx0 (r1 ++ r2)⟩
      | _, _ => none)
    | _, _ => none
  | _ => none
def joinC (keep : List Nat) (cx : Ctx) (s : St) (p : PT) : Option JR :=
  match mergeC keep ((dedupN p.wrs).filter (Nat.blt · s.nx)) s.nx s.h cx p with
  | some r => bif r.sl.all (fun q => q.2.older s.nx) && (r.bl.all (fun q => SV.olderL s.nx q.2) && noneIn s.h s.nx (p.last - s.nx)) then some r else none
  | none => none
def setCs (t : Tree) : List (Nat × List SV) → Tree
  | [] => t
  | (b, l) :: r => .get b fun blk => match blk with
    | .cells _ ty => .set b (.cells l ty) (setCs t r)
    | _ => .fail "cond sets"
def condT (rec : Run) (F : FI) (keep : List Nat) (x y : Code) (k : List Item) (tm : T SV) (df : List Nat) (cx : Ctx) (K : Res → Tree) (b : BE) : Tree :=
  match resolveJ cx b with
  | some v => rec (.fr F (.code (if v then x else y) :: k) tm df (tighten cx b v)) K
  | none => .whole fun s =>
    match (bif keep.all (Nat.blt · F.nt) then joinC keep cx s (run (branch cx b fun v cx => rec (.fr F [.code (if v then x else y)] tm df cx) (leafJ df)) ⟨s.h, s.nx, s.nx, [], [], true⟩) else none) with
    | some r => setCs (rec (.fr F k (setSl .nil r.sl) df r.cx) K) r.bl
    | none => branch cx b fun v cx => rec (.fr F (.code (if v then x else y) :: k) tm df cx) K

def loopT (rec : Run) (g : T SV → St → Option LC) (F : FI) (body : Code) (k : List Item) (tm : T SV) (df : List Nat) (cx : Ctx) (K : Res → Tree) : Tree :=
  .whole fun s => match g tm s with
  | none => rec (.fr F (.code body :: .inLoop body :: k) tm df cx) K
  | some L =>
    bif L.plain && keepLow L.base tm L.keep && allLow L.base s.h s.nx && T.under s.nx s.h 1 0 && (Nat.ble L.rngs.length L.n && L.olds s.nx) then
      match matchT L.base tm L.slots [] with
      | none => .fail "loop enter"
      | some l => match matchB L.base s.h s.h L.blks l with
        | none => .fail "loop enter blocks"
        | some l => match matchR 0 tm s.h L.rows l with
          | none => .fail "loop enter rows"
          | some (l, bs) => bif asgIn L.base L.n l && (toCT (loopRun rec L F body tm df cx (killL bs s.h) s.nx)).same L.ct then
              needAll cx (fun cx => goExits L (asgL l L.base L.n) (assumeAll (addRs cx (L.prng.map fun p => (p.1.sub L.base (atL (asgL l L.base L.n)), p.2))) (L.post.map (BE.sub L.base (atL (asgL l L.base L.n))))) (fun x cx =>
                  killT (setBlks (outE L (asgL l L.base L.n)) L.base
                    (rowsT (outE L (asgL l L.base L.n)) L.base
                      (leaveT rec F k (setSl (keepT tm L.keep) (subSl L.base (outE L (asgL l L.base L.n)) x.slots ++ rowOut (outE L (asgL l L.base L.n)) L.base s.nx x.rows)) df cx K x.jump) x.rows) x.blks) bs) 0 L.exits)
                (rngNeeds (asgL l L.base L.n) L.rngs ++ (L.facts ++ L.pre).map (BE.sub L.base (atL (asgL l L.base L.n))))
            else .fail "loop body"
    else .fail "loop place"

/-- the slots that a region fills -/
def dstsOf (ops : Array Oper) : List Nat := ops.toList.filterMap (·.dst)
def regionT (P : Program) (rec : Run) (F : FI) (ops : Array Oper) (draw : Bool) (tm : T SV) (cx : Ctx) (k : T SV → Ctx → Tree) : Tree :=
  bif draw then drawOps P rec F ops k ops.toList 0 .nil [] tm cx else runOps P rec F ops k ops.toList tm cx
/-- the body of a function -/
def bodyT (P : Program) (rec : Run) (f : Nat) (fn : Func) (c : Code) (args : List SV) (cx : Ctx) (K : Res → Tree) : Tree :=
  rec (.fr ⟨f, args.length + (fn.ntmps - args.length), none⟩ [.code c] (setL .nil 0 args) [] cx) fun r => match r with
    | .left j tm df cx => (match j with
      | none | some .ret => takeD df (retVal P cx tm fn.results.toList fun vs cx => K (.val (oneOf vs) cx))
      | _ => .fail "leave")
    | _ => .fail "leave"

def sBegin (rec : Run) (F : FI) (k : List Item) (tm : T SV) (df : List Nat) (cx : Ctx) (K : Res → Tree) : Tree := match F.rd with
  | some l => .get l fun b => match b with
    | .loop L => (match L.st with
      | .ready => .set l (.loop { L with st := .busy }) (rec (.fr F k tm df cx) K)
      | _ => .fail "round")
    | _ => .fail "round"
  | none => .fail "round"
def sCond (X : Par) (rec : Run) (F : FI) (k : List Item) (tm : T SV) (df : List Nat) (cx : Ctx) (K : Res → Tree) (c : Operand) (x y : Code) : Tree := match evalO tm c with
  | some (.bool b) => (match X.jd F.fn with
    | some keep => condT rec F keep x y k tm df cx K b
    | none => branch cx b fun v cx => rec (.fr F (.code (if v then x else y) :: k) tm df cx) K)
  | _ => .fail "cond"
def sLoop (X : Par) (rec : Run) (F : FI) (k : List Item) (tm : T SV) (df : List Nat) (cx : Ctx) (K : Res → Tree) (body : Code) : Tree := match X.loops F.fn (firstId body) with
  | none => rec (.fr F (.code body :: .inLoop body :: k) tm df cx) K
  | some g => loopT rec g F body k tm df cx K
def sExit (rec : Run) (F : FI) (k : List Item) (tm : T SV) (df : List Nat) (cx : Ctx) (K : Res → Tree) (id : Nat) : Tree := match exitTo id k with
  | some k' => rec (.fr F k' tm df cx) K
  | none => K (.left (some (.exit id)) tm df cx)
def sRegion (P : Program) (X : Par) (rec : Run) (F : FI) (k : List Item) (tm : T SV) (df : List Nat) (cx : Ctx) (K : Res → Tree) (ops : Array Oper) (draw : Bool) : Tree :=
  bif X.jr F.fn && (dstsOf ops).all (Nat.blt · F.nt) then
    .join cx tm (dstsOf ops) (regionT P rec F ops draw tm cx fun tm cx => .leaf (.tms tm cx)) fun o => match o with
      | .tms tm cx => rec (.fr F k tm df cx) K
      | _ => .fail "join region"
  else regionT P rec F ops draw tm cx fun tm cx => rec (.fr F k tm df cx) K
def sRange (rec : Run) (F : FI) (k : List Item) (tm : T SV) (df : List Nat) (cx : Ctx) (K : Res → Tree) (g : Operand) (ps : Array Nat) (assign body : Code) : Tree := match evalO tm g with
  | some g =>
    let go (d : Nat) (df : List Nat) : Tree :=
      .new (.loop { st := .ready, pend := none, fn := F.fn, nt := F.nt, tm := tm, params := ps.toList, assign := assign, body := body, d := d }) fun l =>
        callV rec g [.func (.yield l) [] []] cx fun _ cx => .get l fun b => match b with
          | .loop L => (match L.st with
            | .busy => .fail "range func"
            | _ => .set l (.loop { L with st := .exhausted }) (.set l .dead (rec (.fr F ((match L.pend with | some c => [Item.code c] | none => []) ++ k) tm df cx) K)))
          | _ => .fail "range func"
    (match F.rd with
     | none => .new (.dfr false) fun d => go d (d :: df)
     | some l => .get l fun b => match b with
       | .loop L => go L.d df
       | _ => .fail "range func")
  | none => .fail "range func"
def sCall (P : Program) (X : Par) (rec : Run) (f : Nat) (args : List SV) (cx : Ctx) (K : Res → Tree) : Tree := match X.gen f args cx with
  | some g => g fun v cx => K (.val v cx)
  | none => match X.book f args cx with
  | some s => needBlks (needArrs (needAll cx (fun cx => K (.val s.v (assumeAll (addRs cx s.rngs) s.facts))) s.needs) s.arrs) s.blks
  | none => match entered P f with
    | some (fn, c) =>
      bif X.jc f then
        .join cx .nil [] (bodyT P rec f fn c args cx fun r => match r with
          | .val v cx => .leaf (.val v cx)
          | _ => .fail "call") fun o => match o with
          | .val v cx => K (.val v cx)
          | _ => .fail "join call"
      else bodyT P rec f fn c args cx K
    | none => .fail "no body"
def sYield (rec : Run) (l : Nat) (args : List SV) (cx : Ctx) (K : Res → Tree) : Tree :=
  .get l fun b => match b with
    | .loop L => setP ⟨L.fn, L.nt, some l⟩ L.tm L.params args fun tm =>
        rec (.fr ⟨L.fn, L.nt, some l⟩ [.code L.assign, .beginRound, .code L.body] tm [] cx) fun r => match r with
          | .left j tm [] cx => .get l fun b => match b with
            | .loop L' => .set l (.loop { L' with st := if j.isNone then .ready else .done, pend := j }) (K (.val (.bool (.lit j.isNone)) cx))
            | _ => .fail "yield"
          | _ => .fail "yield"
    | _ => .fail "yield"
def stepX (P : Program) (X : Par) (rec : Run) : Req → (Res → Tree) → Tree
  | .fr F todo tm df cx, K =>
    match todo with
    | [] => K (.left none tm df cx)
    | .inBlock _ :: k | .inScope _ :: k => rec (.fr F k tm df cx) K
    | .inLoop body :: k => rec (.fr F (.code body :: .inLoop body :: k) tm df cx) K
    | .beginRound :: k => sBegin rec F k tm df cx K
    | .code c :: k => (match c with
      | .ret => K (.left (some .ret) tm df cx)
      | .skip | .label _ => rec (.fr F k tm df cx) K
      | .seq a b => rec (.fr F (.code a :: .code b :: k) tm df cx) K
      | .cond c x y => sCond X rec F k tm df cx K c x y
      | .block id body => rec (.fr F (.code body :: .inBlock id :: k) tm df cx) K
      | .loop body => sLoop X rec F k tm df cx K body
      | .scope body => rec (.fr F (.code body :: .inScope body :: k) tm df cx) K
      | .exit id => sExit rec F k tm df cx K id
      | .region id ops draw => sRegion P X rec F k tm df cx K ops draw
      | .rangeFunc g ps assign body => sRange rec F k tm df cx K g ps assign body
      | _ => .fail "code")
    | _ => .fail "item"
  | .call f args cx, K => sCall P X rec f args cx K
  | .yield l args cx, K => sYield rec l args cx K

def exec (P : Program) (X : Par) : Nat → Run
  | 0 => fun _ _ => .fail "fuel"
  | n + 1 => stepX P X (exec P X n)

def callT (P : Program) (X : Par) (n f : Nat) (args : List SV) (cx : Ctx) : Tree :=
  exec P X n (.call f args cx) fun r => match r with
    | .val v cx => .leaf (.val v cx)
    | _ => .fail "top"

def noBook : Book := fun _ _ _ => none
def noLoops : LBook := fun _ _ => none
def noGen : Gen := fun _ _ _ => none
def noPar : Par := ⟨noBook, noLoops, fun _ => false, fun _ => false, noGen, fun _ => none⟩
/-- no contracts; all ways are joined -/
def joinPar : Par := ⟨noBook, noLoops, fun _ => true, fun _ => true, noGen, fun _ => none⟩
def st0 : St := ⟨.nil, 0, 0, [], [], true⟩

end Go.SX
