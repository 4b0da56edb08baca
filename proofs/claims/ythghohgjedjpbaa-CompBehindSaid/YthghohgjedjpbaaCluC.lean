/-
  Runs of closed calls by the kernel: operations, regions, bodies.
-/
import Derived.Test.YthghohgjedjpbaaCluB
namespace Go.Proofs.Ythghohgjedjpbaa
namespace Clu
open Go.RowKit
set_option linter.unusedVariables false
noncomputable section

abbrev KV := AV → T → Nat → Out
abbrev CallT := Nat → FuncId → List AV → T → Nat → KV → Out

section
variable (P : Program)

def newK (h : T) (nx : Nat) (b : Blk) (k : T → Nat → Out) : Out := Tr.setK h nx (some b) fun h => fN (Nat.succ nx) fun n => k h n
def bndK (v : AV) (y : Nat) (k : Nat → Out) : Out := match v with
  | .i _ z => natK z (.err 20 1) fun n => Bool.rec (motive := fun _ => Out) (.err 20 0) (k n) (Nat.ble n y)
  | _ => .err 20 1
def optK (fr : Fr) (x : Option Operand) (k : Option AV → Out) : Out := match x with
  | none => k none
  | some x => opdK fr x fun v => k (some v)
/-- low and high within len, cap -/
def bndsK (len cap : Nat) (lo hi : Option AV) (k : Nat → Nat → Out) : Out := match hi with
  | some v => bndK v cap fun hh => (match lo with
    | some u => bndK u hh fun l => k l hh
    | none => k 0 hh)
  | none => (match lo with
    | some u => bndK u len fun l => k l len
    | none => k 0 len)
def sliceK (h : T) (t : TypeId) (x : AV) (lo hi : Option AV) (k : KO) : Out := match P.underlying t with
  | some (.array n e) => (match x with
    | .p id off => sizeK P e fun sz => bndsK n n lo hi fun l u => (match Nat.beq n l with
      | true => fN (Nat.sub u l) fun len => k (.sl id off len 0)
      | false => fN (Nat.add off (Nat.mul l sz)) fun o => fN (Nat.sub u l) fun len => fN (Nat.sub n l) fun c => k (.sl id o len c))
    | _ => .err 21 0)
  | some .string => (match x with
    | .s n N => bndsK n n lo hi fun l u => fN (Nat.sub u l) fun c => fN (maskN (Nat.sub u l) (Nat.shiftRight N (Nat.mul 8 l))) fun M => k (.s c M)
    | _ => .err 21 1)
  | some (.slice e) => (match x with
    | .sn => sizeK P e fun _ => bndsK 0 0 lo hi fun _ _ => k .sn
    | .sl id off len cap => sizeK P e fun sz => (match Nat.ble len cap with
      | false => .err 21 11
      | true => bndsK len cap lo hi fun l u => match Nat.beq cap l with
      | true => fN (Nat.sub u l) fun n => k (.sl id off n 0)
      | false => fN (Nat.add off (Nat.mul l sz)) fun o => fN (Nat.sub u l) fun n => fN (Nat.sub cap l) fun c => k (.sl id o n c))
    | .so id d sz len => sizeK P e fun sz' => (match Nat.beq sz sz' with
      | false => .err 21 2
      | true => bndsK len len lo hi fun l u => (match h.get id with
        | some (.c cs _ osz _) => (match Nat.beq osz sz with
          | false => .err 21 3
          | true => lenK cs 0 fun L => (match Nat.blt 0 sz && Nat.ble (Nat.mul (Nat.add d len) sz) L with
            | false => .err 21 4
            | true => (match l with
              | 0 => k (.so id d sz u)
              | _ + 1 => (match Nat.blt (Nat.mul (Nat.add d l) sz) L with
                | false => (match Nat.beq u l with
                  | true => k .se
                  | false => .err 21 5)
                | true => fN (Nat.add d l) fun d' => fN (Nat.sub u l) fun n => k (.so id d' sz n)))))
        | _ => .err 21 6))
    | .se => sizeK P e fun _ => bndsK 0 0 lo hi fun _ _ => k .se
    | _ => .err 21 7)
  | some (.pointer arr) => (match P.underlying arr with
    | some (.array n e) => (match x with
      | .p id off => sizeK P e fun sz => bndsK n n lo hi fun l u => (match Nat.beq n l with
        | true => fN (Nat.sub u l) fun len => k (.sl id off len 0)
        | false => fN (Nat.add off (Nat.mul l sz)) fun o => fN (Nat.sub u l) fun len => fN (Nat.sub n l) fun c => k (.sl id o len c))
      | _ => .err 21 8)
    | _ => .err 21 9)
  | _ => .err 21 10
/-- x[l:u:m] of a slice whose room is known -/
def slice3K (t : TypeId) (x : AV) (lo hi : Option AV) (mx : AV) (k : KO) : Out := match P.underlying t, x, hi with
  | some (.slice e), .sl id off len cap, some hi => sizeK P e fun sz => bndK mx cap fun m => bndK hi m fun u => (match lo with
    | some v => bndK v u fun l => (match Nat.beq m l with
      | true => fN (Nat.sub u l) fun n => k (.sl id off n 0)
      | false => fN (Nat.add off (Nat.mul l sz)) fun o => fN (Nat.sub u l) fun n => fN (Nat.sub m l) fun c => k (.sl id o n c))
    | none => k (.sl id off u m))
  | _, _, _ => .err 21 12
def ixK (v : AV) (n : Nat) (k : Nat → Out) : Out := match v with
  | .i _ z => natK z (.err 22 1) fun i => Bool.rec (motive := fun _ => Out) (.err 22 0) (k i) (Nat.blt i n)
  | _ => .err 22 1
def indexAddrK (t : TypeId) (x ix : AV) (k : KO) : Out := match P.underlying t with
  | some (.array n e) => (match x with
    | .p id off => ixK ix n fun i => sizeK P e fun sz => fN (Nat.add off (Nat.mul i sz)) fun o => k (.p id o)
    | _ => .err 22 2)
  | some (.slice e) => (match x with
    | .sl id off len _ => ixK ix len fun i => sizeK P e fun sz => fN (Nat.add off (Nat.mul i sz)) fun o => k (.p id o)
    | .so id d sz' len => ixK ix len fun i => sizeK P e fun sz => fN (Nat.add (Nat.mul d sz') (Nat.mul i sz)) fun o => k (.p id o)
    | _ => .err 22 3)
  | _ => .err 22 4
def indexK (t : TypeId) (x ix : AV) (k : KO) : Out := match P.underlying t with
  | some (.array n e) => (match x with
    | .ag cs => ixK ix n fun i => sizeK P e fun sz => fN (Nat.mul i sz) fun o => partK P e cs o k
    | _ => .err 22 5)
  | some .string => (match x, ix with
    | .s n N, .i _ z => natK z (.err 22 7) fun i => Bool.rec (motive := fun _ => Out) (.err 22 6) (fN (byteN N i) fun c => k (.i .u8 (.ofNat c))) (Nat.blt i n)
    | _, _ => .err 22 7)
  | _ => .err 22 8
/-! cells of a row of which only is told of what kind they are -/
def isS (o : Option AV) : Bool := match o with
  | some (.s _ _) => true
  | _ => false
def sN (o : Option AV) : Nat := match o with
  | some (.s n _) => n
  | _ => 0
def sNN (o : Option AV) : Nat := match o with
  | some (.s _ N) => N
  | _ => 0
def isI (kd : IntKind) (o : Option AV) : Bool := match o with
  | some (.i k _) => sameKind kd k
  | _ => false
def isU (kd : IntKind) (o : Option AV) : Bool := match o with
  | some (.i k (.ofNat _)) => sameKind kd k
  | _ => false
def iZ (o : Option AV) : Int := match o with
  | some (.i _ n) => n
  | _ => 0
def iN (o : Option AV) : Nat := match o with
  | some (.i _ (.ofNat n)) => n
  | _ => 0
def isT (o : Option AV) : Bool := match o with
  | some (.b _) => true
  | _ => false
def bT (o : Option AV) : Bool := match o with
  | some (.b x) => x
  | _ => false
def cellS (t : TypeId) (cs : List AV) (off : Nat) (k : KO) : Out := match P.underlying t with
  | some .string => Bool.rec (motive := fun _ => Out) (.err 8 2) (k (.s (sN (getL cs off)) (sNN (getL cs off)))) (isS (getL cs off))
  | some (.int kd) => (match signB kd with
    | true => Bool.rec (motive := fun _ => Out) (.err 8 3) (k (.i kd (iZ (getL cs off)))) (isI kd (getL cs off))
    | false => Bool.rec (motive := fun _ => Out) (.err 8 4) (k (.i kd (.ofNat (iN (getL cs off))))) (isU kd (getL cs off)))
  | some .bool => Bool.rec (motive := fun _ => Out) (.err 8 5) (k (.b (bT (getL cs off)))) (isT (getL cs off))
  | _ => .err 8 6
def fieldsS : List Field → List AV → Nat → (List AV → Out) → Out
  | [], _, _, k => k []
  | f :: l, cs, off, k => cellS P f.type cs off fun v => fN (Nat.succ off) fun o => fieldsS l cs o fun m => k (v :: m)
def partS (t : TypeId) (cs : List AV) (off : Nat) (k : KO) : Out := match aggB P t with
  | some true => (match P.underlying t with
    | some (.struct fs) => fieldsS P fs.toList cs off fun l => sizeK P t fun n => (match Nat.beq n l.length && Nat.blt 0 n with
      | true => k (.ag l)
      | false => .err 8 7)
    | _ => .err 8 8)
  | some false => cellS P t cs off k
  | none => .err 8 9
/-- is it a number, a text or a truth? -/
def scalB (t : TypeId) : Bool := match P.underlying t with
  | some (.int _) => true
  | some .string => true
  | some .bool => true
  | _ => false
/-- .. or a struct of such? -/
def flatT (t : TypeId) : Bool := scalB P t || match P.underlying t with
  | some (.struct fs) => fs.toList.all fun f => scalB P f.type
  | _ => false
def loadK (h : T) (t : TypeId) (x : AV) (k : KO) : Out := match x with
  | .p id off => (match h.get id with
    | some (.c cs fz _ _) => Bool.rec (motive := fun _ => Out) (partK P t cs off k) (partS P t cs off k) (Nat.blt 4000000000 fz || flatT P t)
    | _ => .err 23 0)
  | _ => .err 23 1
def fieldAddrK (t : TypeId) (x : AV) (f : Nat) (k : KO) : Out := match P.underlying t with
  | some (.struct fs) => (match getL fs.toList f with
    | some fd => (match x with
      | .p id off => sizeK P fd.type fun sz => (match sz with
        | 0 => .err 24 0
        | _ + 1 => fN (Nat.add off fd.offset) fun o => k (.p id o))
      | _ => .err 24 1)
    | none => .err 24 2)
  | _ => .err 24 3
def fieldK (t : TypeId) (x : AV) (f : Nat) (k : KO) : Out := match P.underlying t with
  | some (.struct fs) => (match getL fs.toList f with
    | some fd => (match x with
      | .ag cs => partK P fd.type cs fd.offset k
      | _ => .err 25 0)
    | none => .err 25 1)
  | _ => .err 25 2
/-- parts are put into cells -/
def fillK (place : Nat → (Nat → Nat → Out) → Out) (fr : Fr) : List (Nat × Operand) → List AV → (List AV → Out) → Out
  | [], cs, k => k cs
  | (i, x) :: l, cs, k => opdK fr x fun v => place i fun o n => lenK v.cells 0 fun m => (match !v.isJk && (Nat.beq m n && Nat.blt 0 n) with
    | true => putK cs o v.cells fun cs => fillK place fr l cs k
    | false => .err 26 0)
def repsK (n : Nat) (z acc : List AV) (k : List AV → Out) : Out := k ((List.replicate n z).flatten ++ acc)
def buildK (fr : Fr) (t : TypeId) (parts : List (Nat × Operand)) (k : KO) : Out := zeroK P t fun z => (match P.underlying t with
  | some (.struct fs) => (match (fs.toList.all fun f => (P.info? f.type).isSome) with
    | false => .err 26 5
    | true => fillK (fun i k => match getL fs.toList i with
      | some f => sizeK P f.type fun n => fN f.offset fun o => k o n
      | none => .err 26 1) fr parts z.cells fun cs => k (.ag cs))
  | some (.array _ e) => sizeK P e fun n => fillK (fun i k => fN (Nat.mul i n) fun o => k o n) fr parts z.cells fun cs => k (.ag cs)
  | _ => .err 26 2)
def buildSliceK (fr : Fr) (h : T) (nx : Nat) (t : TypeId) (len : Nat) (parts : List (Nat × Operand)) (k : KV) : Out := match P.underlying t with
  | some (.slice e) => sizeK P e fun n => (match Nat.ble (Nat.mul len n) 16777216 with
    | false => .err 26 3
    | true => zeroK P e fun z => lenK z.cells 0 fun zn => (match Nat.beq zn n with
      | false => .err 26 6
      | true => repsK len z.cells [] fun cs => fillK (fun i k => fN (Nat.mul i n) fun o => k o n) fr parts cs fun cs =>
      newK h nx (.c cs 0 0 (some e)) fun h n => k (.sl nx 0 len len) h n))
  | _ => .err 26 4
noncomputable def recB (b : Bool) (e o : Out) : Out := Bool.rec (motive := fun _ => Out) e o b
theorem recB_ok {b : Bool} {e o : Out} {v : AV} (he : e ≠ .ok v) (h : recB b e o = .ok v) : b = true ∧ o = .ok v := by
  cases b with
  | true => exact ⟨rfl, h⟩
  | false => exact absurd h he
noncomputable def makeSliceK (h : T) (nx : Nat) (t : TypeId) (len cap : AV) (k : KV) : Out := match P.underlying t with
  | some (.slice e) => (match len, cap with
    | .i _ zl, .i _ zc => natK zl (.err 27 3) fun l => natK zc (.err 27 3) fun c => recB (Nat.ble l c) (.err 27 2) (recB (Nat.ble c 100000000) (.err 27 2) (match P.info? e with
        | some i => recB (Nat.ble (Nat.mul i.bytes c) 281474976710656) (.err 27 0) (zeroK P e fun z => lenK z.cells 0 fun m => (match Nat.beq m i.size with
            | true => repsK c z.cells [] fun cs => newK h nx (.c cs 0 0 (some e)) fun h n => k (.sl nx 0 l c) h n
            | false => .err 27 5))
        | none => .err 27 1))
    | _, _ => .err 27 3)
  | _ => .err 27 4
/-- the rune that begins a text -/
def atN (n N i : Nat) : Nat := Bool.rec (motive := fun _ => Nat) 0 (byteN N i) (Nat.blt i n)
def contB (n N i : Nat) : Bool := Bool.rec (motive := fun _ => Bool) false (Nat.beq (Nat.div (byteN N i) 64) 2) (Nat.blt i n)
def decL (n N i : Nat) : Nat × Nat :=
  let b0 : Nat := atN n N i
  if b0 < 0x80 then (b0, 1)
  else if b0 / 32 == 6 && contB n N (i + 1) then
    let c := (b0 % 32) * 64 + atN n N (i + 1) % 64
    if c ≥ 0x80 then (c, 2) else (Utf8.runeError, 1)
  else if b0 / 16 == 14 && contB n N (i + 1) && contB n N (i + 2) then
    let c := (b0 % 16) * 4096 + (atN n N (i + 1) % 64) * 64 + atN n N (i + 2) % 64
    if c ≥ 0x800 && Utf8.valid c then (c, 3) else (Utf8.runeError, 1)
  else if b0 / 8 == 30 && contB n N (i + 1) && contB n N (i + 2) && contB n N (i + 3) then
    let c := (b0 % 8) * 262144 + (atN n N (i + 1) % 64) * 4096 + (atN n N (i + 2) % 64) * 64 + atN n N (i + 3) % 64
    if c ≥ 0x10000 && Utf8.valid c then (c, 4) else (Utf8.runeError, 1)
  else (Utf8.runeError, 1)
def rangeK (h : T) (nx : Nat) (t : TypeId) (x : AV) (k : KV) : Out := match P.underlying t, x with
  | some .string, .s m N => newK h nx (.it m N 0) fun h n => k (.p nx 0) h n
  | _, _ => .err 28 0
def nextK (lim : Nat) (h : T) (x : AV) (k : AV → T → Out) : Out := match x with
  | .p id 0 => (match h.get id with
    | some (.it n N pos) => (match Nat.ble lim id with
      | false => .err 28 1
      | true => (match Nat.blt pos n with
        | false => k (.tu [.b false]) h
        | true => fN (decL n N pos).1 fun c => fN (Nat.add pos (decL n N pos).2) fun pos' =>
          Tr.setK h id (some (.it n N pos')) fun h => k (.tu [.b true, .i .i64 (.ofNat pos), .i .i32 (.ofNat c)]) h))
    | _ => .err 28 2)
  | _ => .err 28 3
/-- methods that are wanting -/
def hasAll (want : List (String × TypeId)) (got : List Method) : Bool := want.all fun x => got.any fun m => m.name == x.1 && m.sig == x.2
def typeAssertK (x : AV) (asserted : TypeId) (commaOk : Bool) (k : KO) : Out :=
  let holds (v : AV) : Out := match commaOk with | true => k (.tu [v, .b true]) | false => k v
  let fails : Out := match commaOk with | true => zeroK P asserted fun z => k (.tu [z, .b false]) | false => .err 29 0
  match P.underlying asserted, x with
  | some (.interface _), .ni => fails
  | some (.interface want), .fa t _ => (match P.info? t with
    | some i => (match hasAll want.toList i.methods.toList with
      | true => holds x
      | false => fails)
    | none => .err 29 1)
  | some _, .ni => fails
  | some _, .fa t v => (match Nat.beq t asserted with | true => holds v | false => fails)
  | _, _ => .err 29 2
def convertK (h : T) (nx : Nat) (src dst : TypeId) (x : AV) (k : KV) : Out := match P.underlying src, P.underlying dst with
  | some su, some du => (match x with
    | .i _ n => (match du with
      | .int kd => wrapK kd n fun v => k v h nx
      | .string => strL (Utf8.encode n).data.toList fun n N => k (.s n N) h nx
      | _ => .err 30 0)
    | .s m N => (match du with
      | .string => k x h nx
      | .slice e => (match su, P.underlying e with
        | .string, some (.int .u8) => (match P.info? e with
          | some i => (match Nat.beq i.size 1 with
            | true => u8L N m [] fun cs => newK h nx (.c cs 0 1 none) fun h n => k (.so nx 0 1 m) h n
            | false => .err 30 6)
          | none => .err 30 7)
        | _, _ => .err 30 1)
      | _ => .err 30 2)
    | x => (match su, du with
      | .slice e, .string => (match P.underlying e with
        | some (.int .u8) => (match x with
          | .sn => k (.s 0 0) h nx
          | .sl id off n _ => cellsAt h id off n fun cs => ofU8 cs fun n N => k (.s n N) h nx
          | .so id d sz n => fN (Nat.mul d sz) fun o => cellsAt h id o n fun cs => ofU8 cs fun n N => k (.s n N) h nx
          | .se => k (.s 0 0) h nx
          | _ => .err 30 3)
        | _ => .err 30 4)
      | .pointer t, .unsafePointer => (match x with
        | .pn => k .pn h nx
        | .p id 0 => (match h.get id with
          | some (.c (_ :: _) _ _ (some (_ + 1))) => sizeK P t fun n => (match n with
            | 0 => .err 30 10
            | _ + 1 => k (.p id 0) h nx)
          | _ => .err 30 11)
        | _ => .err 30 12)
      | .unsafePointer, .pointer u => (match x with
        | .pn => k .pn h nx
        | .p id 0 => (match h.get id with
          | some (.c cs _ 0 (some (ty + 1))) => sizeK P u fun _ => lenK cs 0 fun L => (match liesAt P P.depth (ty + 1) (L / P.cellsOf (ty + 1)) 0 u 1 with
            | true => k (.p id 0) h nx
            | false => .err 30 13)
          | _ => .err 30 14)
        | _ => .err 30 15)
      | _, _ => .err 30 5))
  | _, _ => .err 30 8
def grewK (lim : Nat) (h : T) (nx sz need bytes : Nat) (olds news : List AV) (pl : Option TypeId) (kill : Option Nat) (k : KV) : Out := match Nat.ble (Nat.mul (Nat.add (Nat.mul 2 need) 1000) bytes) 281474976710656 with
  | false => .err 31 1
  | true => (match Nat.ble need 4294967296 with
    | false => .err 31 1
    | true => appK olds news fun cs => (match kill with
    | none => newK h nx (.c cs 0 sz pl) fun h n => k (.so nx 0 sz need) h n
    | some id => (match Nat.ble lim id with
      | true => Tr.setK h id none fun h => newK h nx (.c cs 0 sz pl) fun h n => k (.so nx 0 sz need) h n
      | false => .err 31 0)))
/-- what is told of a row that grew -/
def plOf (e d : Nat) : Option TypeId → Option TypeId
  | some t => match Nat.beq t e && Nat.beq d 0 with
    | true => some e
    | false => none
  | none => none
def appSo (e lim : Nat) (h : T) (nx sz bytes id d sz' len n : Nat) (news : List AV) (k : KV) : Out := match Nat.beq sz sz' && Nat.blt 0 n with
  | false => .err 31 7
  | true => (match h.get id with
  | some (.c cs fz osz pl) => (match Nat.beq osz sz with
    | false => .err 31 10
    | true => fN (Nat.add len n) fun need => fN (Nat.mul (Nat.add d len) sz) fun o => lenK cs 0 fun L => (match Nat.ble (Nat.mul (Nat.add d need) sz) L with
      | true => storeK lim h id o news fun h => k (.so id d sz need) h nx
      | false => (match Nat.beq o L && Nat.beq fz 0 with
        | true => fN (Nat.mul d sz) fun dd => dropK cs dd fun olds => grewK lim h nx sz need bytes olds news (plOf e d pl) (some id) k
        | false => .err 31 6)))
  | _ => .err 31 7)
def appSl (e lim : Nat) (h : T) (nx sz bytes id off len cap n : Nat) (news : List AV) (k : KV) : Out := fN (Nat.add len n) fun need => match Nat.ble need cap with
  | true => (match Nat.beq n 0 with
    | true => k (.sl id off len cap) h nx
    | false => fN (Nat.add off (Nat.mul len sz)) fun o => storeK lim h id o news fun h => k (.sl id off need cap) h nx)
  | false => fN (Nat.mul len sz) fun m => cellsAt h id off m fun olds => grewK lim h nx sz need bytes olds news (some e) none k
def appC (e lim : Nat) (h : T) (nx sz bytes : Nat) (s : AV) (n : Nat) (news : List AV) (k : KV) : Out := match s with
  | .sn => (match Nat.beq n 0 with
    | true => k .sn h nx
    | false => grewK lim h nx sz n bytes [] news (some e) none k)
  | .sl id off len cap => appSl e lim h nx sz bytes id off len cap n news k
  | .so id d sz' len => (match Nat.beq n 0 with
    | true => (match h.get id with
      | some (.c cs _ osz _) => (match Nat.beq osz sz && Nat.beq sz sz' with
        | true => lenK cs 0 fun L => (match Nat.ble (Nat.mul (Nat.add d len) sz) L with
          | true => k (.so id d sz' len) h nx
          | false => .err 31 15)
        | false => .err 31 16)
      | _ => .err 31 17)
    | false => appSo e lim h nx sz bytes id d sz' len n news k)
  | .se => (match Nat.beq n 0 with
    | true => k .se h nx
    | false => .err 31 11)
  | _ => .err 31 8
def appX (e lim : Nat) (h : T) (nx sz bytes : Nat) (s x : AV) (k : KV) : Out := lenOfK x fun n => firstK h sz n x fun news => (match allOne news with
  | false => .err 31 9
  | true => appC e lim h nx sz bytes s n news k)
def appendK (lim : Nat) (h : T) (nx : Nat) (sType xType : TypeId) (s x : AV) (k : KV) : Out := match P.underlying sType with
  | some (.slice e) => (match P.info? e with
    | some i => (match (match i.zero with | some z => Nat.beq z.cells.size i.size && Nat.blt 0 i.size | none => false) with
      | false => .err 31 2
      | true => (match P.underlying xType with
        | some (.slice _) => fN i.size fun sz => appX e lim h nx sz i.bytes s x k
        | some .string => fN i.size fun sz => appX e lim h nx sz i.bytes s x k
        | _ => .err 31 12))
    | none => .err 31 13)
  | _ => .err 31 14
def copyAt (lim : Nat) (h : T) (nx sz id off dn : Nat) (s : AV) (k : KV) : Out := lenOfK s fun sn => fN (Nat.min sn dn) fun n => firstK h sz n s fun cs => storeK lim h id off cs fun h => k (.i .i64 (.ofNat n)) h nx
def copyK (lim : Nat) (h : T) (nx : Nat) (dType : TypeId) (d s : AV) (k : KV) : Out := match P.underlying dType with
  | some (.slice e) => sizeK P e fun sz => (match d with
    | .sl id off dn _ => copyAt lim h nx sz id off dn s k
    | .so id dd sz' dn => fN (Nat.mul dd sz') fun o => copyAt lim h nx sz id o dn s k
    | _ => .err 32 0)
  | _ => .err 32 1
/-- the lesser or the greater of two numbers -/
def pickI (t : Bool) (a b : Int) : Int := match t with | true => a | false => b
def extI (mx : Bool) (b c : Int) : Int := match mx with | true => pickI (iLt c b) b c | false => pickI (iLt b c) b c
def foldMinK (mx : Bool) : List AV → AV → KO → Out
  | [], v, k => k v
  | a :: l, x, k => match a, x with
    | .i _ b, .i kd c => foldMinK mx l (.i kd (extI mx b c)) k
    | _, _ => .err 33 0
/-- is a value the key? -/
def keyB (t : TypeDesc) (k e : AV) (c : Bool → Out) : Out := match t, k, e with
  | .int _, .i ka a, .i kb b => (match decide (ka = kb) with | true => fB (a == b) c | false => .err 37 0)
  | .string, .s a x, .s b y => fB (eqNs a x b y) c
  | .bool, .b a, .b b => fB (a == b) c
  | _, _, _ => .err 37 1
def cellB (k e : AV) (c : Bool → Out) : Out := match k, e with
  | .i ka a, .i kb b => (match sameKind ka kb with | true => fB (iEq a b) c | false => c false)
  | .s a x, .s b y => fB (eqNs a x b y) c
  | .b a, .b b => fB (a == b) c
  | _, _ => .err 37 7
def cellsB : List AV → List AV → (Bool → Out) → Out
  | [], [], c => c true
  | k :: l, e :: m, c => cellB k e fun r => (match r with
    | true => cellsB l m c
    | false => c false)
  | _, _, _ => .err 37 8
/-- is a value the key? a key may be a struct of numbers, texts and truths -/
def keyQ (h : T) (kt : TypeId) (t : TypeDesc) (k e : AV) (c : Bool → Out) : Out := match t with
  | .struct _ => eqK P h 10000 kt k e fun r => (match r with
    | true => (match k, e with
      | .ag l, .ag m => cellsB l m fun q => (match q with
        | true => c true
        | false => .err 37 9)
      | _, _ => .err 37 10)
    | false => c false)
  | t => keyB t k e c
def findE (h : T) (kt : TypeId) (t : TypeDesc) (k : AV) : List (AV × AV × Nat) → Nat → (Option (Nat × AV) → Out) → Out
  | [], _, c => c none
  | (e, v, _) :: l, i, c => keyQ P h kt t k e fun r => match r with
    | true => c (some (i, v))
    | false => fN (Nat.succ i) fun i => findE h kt t k l i c
def okCell (t : TypeId) (l : List AV) (o : Nat) : Bool := match P.underlying t, getL l o with
  | some (.int _), some (.i _ _) => true
  | some .string, some (.s _ _) => true
  | some .bool, some (.b _) => true
  | _, _ => false
def okKey (t : TypeDesc) (k : AV) : Bool := match t, k with
  | .struct fs, .ag l => fs.toList.all fun f => okCell P f.type l f.offset
  | .int _, .i _ _ => true
  | .string, .s _ _ => true
  | .bool, .b _ => true
  | _, _ => false
def entriesK (h : T) (m : AV) (c : List (AV × AV × Nat) → Out) : Out := match m with
  | .mn => c []
  | .mp id => (match h.get id with
    | some (.mp es _) => c es
    | _ => .err 37 2)
  | _ => .err 37 3
def lookupK (h : T) (t : TypeId) (m k : AV) (ok : Bool) (c : KO) : Out := match P.underlying t with
  | some (.map kt et) => (match P.underlying kt with
    | some kd => (match okKey P kd k with
      | true => entriesK h m fun es => findE P h kt kd k es 0 fun r => (match r with
        | some (_, v) => (match ok with | true => c (.tu [v, .b true]) | false => c v)
        | none => zeroK P et fun z => (match ok with | true => c (.tu [z, .b false]) | false => c z))
      | false => .err 37 4)
    | none => .err 37 5)
  | _ => .err 37 6
def setE : List (AV × AV × Nat) → Nat → AV → AV → (List (AV × AV × Nat) → Out) → Out
  | [], _, _, _, c => c []
  | (_, _, n) :: l, 0, k, v, c => c ((k, v, n) :: l)
  | e :: l, i + 1, k, v, c => setE l i k v fun l => c (e :: l)
def eraseE : List (AV × AV × Nat) → Nat → (List (AV × AV × Nat) → Out) → Out
  | [], _, c => c []
  | _ :: l, 0, c => c l
  | e :: l, i + 1, c => eraseE l i fun l => c (e :: l)
def mapUpdateK (lim : Nat) (h : T) (t : TypeId) (m k v : AV) (c : T → Out) : Out := match P.underlying t with
  | some (.map kt _) => (match P.underlying kt with
    | some kd => (match okKey P kd k with
      | true => (match m with
        | .mp id => (match Nat.ble lim id with
          | true => (match h.get id with
            | some (.mp es clock) => findE P h kt kd k es 0 fun r => (match r with
              | some (i, _) => setE es i k v fun es => Tr.setK h id (some (.mp es clock)) c
              | none => appK es [(k, v, clock)] fun es => fN (Nat.succ clock) fun cl => Tr.setK h id (some (.mp es cl)) c)
            | _ => .err 38 0)
          | false => .err 38 1)
        | _ => .err 38 2)
      | false => .err 38 3)
    | none => .err 38 4)
  | _ => .err 38 5
def setV : List (AV × AV × Nat) → Nat → AV → (List (AV × AV × Nat) → Out) → Out
  | [], _, _, c => c []
  | (k, _, n) :: l, 0, v, c => c ((k, v, n) :: l)
  | e :: l, i + 1, v, c => setV l i v fun l => c (e :: l)
def bornE (n : Nat) : List (AV × AV × Nat) → Nat → (Nat → Out) → Out
  | [], _, _ => .err 39 10
  | (_, _, m) :: l, i, c => match Nat.beq m n with
    | true => c i
    | false => fN (Nat.succ i) fun i => bornE n l i c
def mapEntryK (lim : Nat) (h : T) (t : TypeId) (m k : AV) (c : AV → T → Out) : Out := match P.underlying t with
  | some (.map kt et) => (match P.underlying kt with
    | some kd => (match okKey P kd k with
      | true => (match m with
        | .mp id => (match Nat.ble lim id with
          | true => (match h.get id with
            | some (.mp es clock) => findE P h kt kd k es 0 fun r => (match r with
              | some (i, v) => (match getL es i with
                | some e => setE es i k v fun es => Tr.setK h id (some (.mp es clock)) fun h => c (.tu [v, .i .i64 (.ofNat e.2.2)]) h
                | none => .err 39 0)
              | none => zeroK P et fun z => appK es [(k, z, clock)] fun es => fN (Nat.succ clock) fun cl => Tr.setK h id (some (.mp es cl)) fun h => c (.tu [z, .i .i64 (.ofNat clock)]) h)
            | _ => .err 39 1)
          | false => .err 39 2)
        | _ => .err 39 3)
      | false => .err 39 4)
    | none => .err 39 5)
  | _ => .err 39 6
def entryStoreK (lim : Nat) (h : T) (m stamp v : AV) (c : T → Out) : Out := match m, stamp with
  | .mp id, .i _ (.ofNat n) => (match Nat.ble lim id with
    | true => (match h.get id with
      | some (.mp es clock) => bornE n es 0 fun i => setV es i v fun es => Tr.setK h id (some (.mp es clock)) c
      | _ => .err 39 7)
    | false => .err 39 8)
  | _, _ => .err 39 9
def deleteK (lim : Nat) (h : T) (t : TypeId) (m k : AV) (c : T → Out) : Out := match P.underlying t with
  | some (.map kt _) => (match P.underlying kt with
    | some kd => (match okKey P kd k with
      | true => (match m with
        | .mn => c h
        | .mp id => (match Nat.ble lim id with
          | true => (match h.get id with
            | some (.mp es clock) => findE P h kt kd k es 0 fun r => (match r with
              | some (i, _) => eraseE es i fun es => Tr.setK h id (some (.mp es clock)) c
              | none => c h)
            | _ => .err 38 6)
          | false => .err 38 7)
        | _ => .err 38 8)
      | false => .err 38 9)
    | none => .err 38 10)
  | _ => .err 38 11
def clearAt (lim : Nat) (h : T) (e : TypeId) (id off n : Nat) (k : T → Out) : Out := match n with
  | 0 => k h
  | n + 1 => zeroK P e fun z => repsK (Nat.succ n) z.cells [] fun cs => storeK lim h id off cs k
def clearK (lim : Nat) (h : T) (t : TypeId) (x : AV) (k : T → Out) : Out := match P.underlying t with
  | some (.slice e) => (match x with
    | .sn => k h
    | .se => k h
    | .sl id off n _ => clearAt P lim h e id off n k
    | .so id d sz n => fN (Nat.mul d sz) fun o => clearAt P lim h e id o n k
    | _ => .err 39 0)
  | _ => .err 39 1
abbrev BuT := List TypeId → List AV → Program → Nat → T → Nat → KV → Out
def bLen : BuT := fun ts args P lim h nx k => match ts, args with
  | [t], [x] => (match P.underlying t with
    | some .string => (match x with | .s n _ => k (.i .i64 (.ofNat n)) h nx | _ => .err 34 0)
    | some (.array n _) => fN n fun n => k (.i .i64 (.ofNat n)) h nx
    | some (.pointer a) => (match P.underlying a with | some (.array n _) => fN n fun n => k (.i .i64 (.ofNat n)) h nx | _ => .err 34 1)
    | some (.slice _) => (match x with
      | .sn => k (.i .i64 (.ofNat 0)) h nx
      | .sl _ _ n _ => k (.i .i64 (.ofNat n)) h nx
      | .so _ _ _ n => k (.i .i64 (.ofNat n)) h nx
      | .se => k (.i .i64 (.ofNat 0)) h nx
      | _ => .err 34 2)
    | some (.map _ _) => entriesK h x fun es => lenK es 0 fun n => k (.i .i64 (.ofNat n)) h nx
    | _ => .err 34 3)
  | _, _ => .err 34 21
def bAppend : BuT := fun ts args P lim h nx k => match ts, args with
  | [t, u], [s, x] => appendK P lim h nx t u s x k
  | _, _ => .err 34 20
def bCopy : BuT := fun ts args P lim h nx k => match ts, args with
  | [t, _], [d, s] => copyK P lim h nx t d s k
  | _, _ => .err 34 22
def bDelete : BuT := fun ts args P lim h nx k => match ts, args with
  | [t, _], [m, i] => deleteK P lim h t m i fun h => k (.tu []) h nx
  | _, _ => .err 34 23
def bClear : BuT := fun ts args P lim h nx k => match ts, args with
  | [t], [x] => clearK P lim h t x fun h => k (.tu []) h nx
  | _, _ => .err 34 26
def bCap : BuT := fun ts args P lim h nx k => match ts, args with
  | [t], [x] => (match P.underlying t, x with
    | some (.slice _), .sn => k (.i .i64 (.ofNat 0)) h nx
    | some (.slice _), .sl _ _ _ c => k (.i .i64 (.ofNat c)) h nx
    | _, _ => .err 34 27)
  | _, _ => .err 34 28
def bMin : BuT := fun _ args _ _ h nx k => match args with
  | x :: l => foldMinK false l x fun v => k v h nx
  | _ => .err 34 24
def bMax : BuT := fun _ args _ _ h nx k => match args with
  | x :: l => foldMinK true l x fun v => k v h nx
  | _ => .err 34 25
def bSliceData : BuT := fun _ args _ _ h nx k => match args with
  | [.sn] => k .pn h nx
  | [.so id 0 sz _] => (match h.get id with
    | some (.c (_ :: _) _ osz _) => (match Nat.beq osz sz && Nat.blt 0 sz with
      | true => k (.p id 0) h nx
      | false => .err 34 30)
    | _ => .err 34 31)
  | _ => .err 34 32
def allByte (cs : List AV) : Bool := cs.all fun
  | .i _ (.ofNat c) => Nat.blt c 256
  | _ => false
def bString : BuT := fun ts args P lim h nx k => match ts, args with
  | [_, _], [.pn, .i .i64 (.ofNat 0)] => k (.s 0 0) h nx
  | [pt, _], [.p id 0, .i .i64 (.ofNat n)] => (match P.underlying pt, h.get id with
    | some (.pointer e), some (.c cs fz _ (some ty)) => lenK cs 0 fun L => (match Nat.beq ty e && (Nat.blt 0 e && (Nat.beq (P.cellsOf e) 1 && (Nat.blt 0 n && (Nat.ble lim id && (Nat.beq L n && (Nat.ble fz L && (Nat.ble n 4294967296 && allByte cs))))))) with
      | true => ofU8 cs fun m N => Tr.setK h id (some (.c cs n 0 none)) fun h => k (.s m N) h nx
      | false => .err 34 33)
    | _, _ => .err 34 34)
  | _, _ => .err 34 35
def bNo (n : Nat) : BuT := fun _ _ _ _ _ _ _ => .err 34 n
def builtinF (b : Builtin) : BuT := Builtin.rec (motive := fun _ => BuT) bAppend bCap bClear (bNo 13) (bNo 13) bCopy bDelete (bNo 13) bLen (bNo 13) bMax bMin (bNo 13) (bNo 7) (bNo 13) (bNo 13) (bNo 13) (bNo 8) (bNo 13) (bNo 12) bSliceData bString (bNo 11) (bNo 13) (bNo 13) (bNo 13) b
def builtinK (lim : Nat) (h : T) (nx : Nat) (b : Builtin) (ts : List TypeId) (args : List AV) (k : KV) : Out := builtinF b ts args P lim h nx k
def methodK (t : TypeId) (v : AV) (name : String) (k : FuncId → AV → Out) : Out := match P.info? t with
  | some i => (match i.methods.find? (·.name == name) with
    | some m => (match m.path.isEmpty, m.func with
      | true, some (f, p) => (match P.underlying t, p with
        | some (.pointer _), true => k f v
        | some (.pointer _), false => .err 35 0
        | some _, false => k f v
        | _, _ => .err 35 1)
      | _, _ => .err 35 2)
    | none => .err 35 3)
  | none => .err 35 4
abbrev OpT := Program → CallT → Nat → Fr → T → Nat → KV → Out
def oMove (x : Operand) : OpT := fun _ _ _ fr h nx k => opdK fr x fun v => k v h nx
def oPick (c a b : Operand) : OpT := fun _ _ _ fr h nx k => opdK fr c fun c => match c with
  | .b true => opdK fr a fun v => k v h nx
  | .b false => opdK fr b fun v => k v h nx
  | _ => .err 40 0
def oAlloc (t : TypeId) : OpT := fun P _ _ _ h nx k => zeroK P t fun z => newK h nx (.c z.cells 0 0 (some t)) fun h n => k (.p nx 0) h n
def oBox (t : TypeId) (x : Operand) : OpT := fun _ _ _ fr h nx k => opdK fr x fun v => match v.isJk with
  | true => .err 40 20
  | false => newK h nx (.c v.cells 0 0 (some t)) fun h n => k (.p nx 0) h n
def oBuild (t : TypeId) (ps : Array (Nat × Operand)) : OpT := fun P _ _ fr h nx k => buildK P fr t ps.toList fun v => k v h nx
def oBuildSlice (t : TypeId) (n : Nat) (ps : Array (Nat × Operand)) : OpT := fun P _ _ fr h nx k => fN n fun n => buildSliceK P fr h nx t n ps.toList k
def oLoad (t : TypeId) (a : Operand) : OpT := fun P _ _ fr h nx k => opdK fr a fun a => loadK P h t a fun v => k v h nx
def oStore (t : TypeId) (a x : Operand) : OpT := fun P _ lim fr h nx k => opdK fr a fun a => opdK fr x fun v => match a with
  | .p id off => sizeK P t fun n => lenK v.cells 0 fun m => (match !v.isJk && Nat.beq m n with
    | true => storeK lim h id off v.cells fun h => k (.tu []) h nx
    | false => .err 40 1)
  | _ => .err 40 2
def oNilCheck (x : Operand) : OpT := fun _ _ _ fr h nx k => opdK fr x fun v => match v with
  | .p _ _ => k v h nx
  | .fn (.func _) _ _ => k v h nx
  | .fa _ _ => k v h nx
  | _ => .err 40 3
def oBin (op : BinOp) (t : TypeId) (x y : Operand) : OpT := fun P _ _ fr h nx k => opdK fr x fun a => opdK fr y fun b => binK P h op t (isC x) (isC y) a b fun v => k v h nx
def oUn (op : UnOp) (x : Operand) : OpT := fun _ _ _ fr h nx k => opdK fr x fun a => unK op a fun v => k v h nx
def oConvert (s d : TypeId) (x : Operand) : OpT := fun P _ _ fr h nx k => opdK fr x fun a => convertK P h nx s d a k
def oMakeInterface (t : TypeId) (x : Operand) : OpT := fun P _ _ fr h nx k => opdK fr x fun a => match P.underlying t with
  | some (.interface _) => .err 40 4
  | some _ => fN t fun t => k (.fa t a) h nx
  | none => .err 40 5
def oMakeFunc (f : Fn) (a c : Array Operand) : OpT := fun _ _ _ fr h nx k => opdsK fr a.toList fun a => opdsK fr c.toList fun c => k (.fn f a c) h nx
def oMakeSlice (t : TypeId) (l c : Operand) : OpT := fun P _ _ fr h nx k => opdK fr l fun l => opdK fr c fun c => makeSliceK P h nx t l c k
def oSlice (t : TypeId) (x : Operand) (lo hi mx : Option Operand) : OpT := fun P _ _ fr h nx k => match mx with
  | none => opdK fr x fun x => optK fr lo fun lo => optK fr hi fun hi => sliceK P h t x lo hi fun v => k v h nx
  | some mx => opdK fr x fun x => optK fr lo fun lo => optK fr hi fun hi => opdK fr mx fun mx => slice3K P t x lo hi mx fun v => k v h nx
def oFieldAddr (t : TypeId) (x : Operand) (f : Nat) : OpT := fun P _ _ fr h nx k => opdK fr x fun x => fieldAddrK P t x f fun v => k v h nx
def oField (t : TypeId) (x : Operand) (f : Nat) : OpT := fun P _ _ fr h nx k => opdK fr x fun x => fieldK P t x f fun v => k v h nx
def oIndexAddr (t : TypeId) (x i : Operand) : OpT := fun P _ _ fr h nx k => opdK fr x fun x => opdK fr i fun i => indexAddrK P t x i fun v => k v h nx
def oIndex (t : TypeId) (x i : Operand) : OpT := fun P _ _ fr h nx k => opdK fr x fun x => opdK fr i fun i => indexK P t x i fun v => k v h nx
def oRange (t : TypeId) (x : Operand) : OpT := fun P _ _ fr h nx k => opdK fr x fun x => rangeK P h nx t x k
def oNext (x : Operand) (isS : Bool) : OpT := fun _ _ lim fr h nx k => opdK fr x fun x => match isS with
  | true => nextK lim h x fun v h => k v h nx
  | false => .err 40 7
def oTypeAssert (x : Operand) (t : TypeId) (ok : Bool) : OpT := fun P _ _ fr h nx k => opdK fr x fun x => typeAssertK P x t ok fun v => k v h nx
def oExtract (x : Operand) (n : Nat) : OpT := fun _ _ _ fr h nx k => opdK fr x fun x => match x with
  | .tu l => (match getL l n with
    | some v => k v h nx
    | none => .err 40 8)
  | _ => .err 40 9
def oMakeMap (t : TypeId) (rs : Option Operand) : OpT := fun P _ _ fr h nx k => match rs with
  | none => newK h nx (.mp [] 0) fun h n => k (.mp nx) h n
  | some x => (match P.underlying t with
    | some (.map _ _) => opdK fr x fun v => (match v with
      | .i _ _ => newK h nx (.mp [] 0) fun h n => k (.mp nx) h n
      | _ => .err 41 16)
    | _ => .err 41 17)
def oLookup (t : TypeId) (x i : Operand) (ok : Bool) : OpT := fun P _ _ fr h nx k => opdK fr x fun x => opdK fr i fun i => lookupK P h t x i ok fun v => k v h nx
def oMapUpdate (t : TypeId) (m i x : Operand) : OpT := fun P _ lim fr h nx k => opdK fr m fun m => opdK fr i fun i => opdK fr x fun x => mapUpdateK P lim h t m i x fun h => k (.tu []) h nx
def oMapEntry (t : TypeId) (m i : Operand) : OpT := fun P _ lim fr h nx k => opdK fr m fun m => opdK fr i fun i => mapEntryK P lim h t m i fun v h => k v h nx
def oEntryStore (m s x : Operand) : OpT := fun _ _ lim fr h nx k => opdK fr m fun m => opdK fr s fun s => opdK fr x fun x => entryStoreK lim h m s x fun h => k (.tu []) h nx
/-- calls -/
def kValue (f : Operand) : List AV → OpT := fun args P call lim fr h nx k => opdK fr f fun f => match f with
  | .fn (.func f) first cap => appK args cap fun a => appK first a fun a => call lim f a h nx k
  | .fn (.method name) first _ => appK first args fun a => (match a with
    | .fa t v :: rest => methodK P t v name fun f v => call lim f (v :: rest) h nx k
    | _ => .err 36 5)
  | _ => .err 36 3
def kInvoke (x : Operand) (name : String) : List AV → OpT := fun args P call lim fr h nx k => opdK fr x fun x => match x with
  | .fa t v => methodK P t v name fun f v => call lim f (v :: args) h nx k
  | _ => .err 36 4
def kBuiltin (b : Builtin) (ts : Array TypeId) : List AV → OpT := fun args P _ lim _ h nx k => builtinK P lim h nx b ts.toList args k
def calleeF (c : Callee) : Array TypeId → List AV → OpT := Callee.rec (motive := fun _ => Array TypeId → List AV → OpT) (fun f _ => kValue f) (fun x name _ => kInvoke x name) kBuiltin c
def oCall (c : Call) : OpT := fun P call lim fr h nx k => opdsK fr c.args.toList fun args => calleeF c.callee c.argTypes args P call lim fr h nx k
def oPanic (x : Operand) : OpT := fun P _ _ fr h nx k => opdK fr x fun v => match v with
  | .fa t a => k (.pa (.fa t a)) h nx
  | _ => .err 41 13
def oNo (n : Nat) : OpT := fun _ _ _ _ _ _ _ => .err 41 n
def opF (op : Op) : OpT := Op.rec (motive := fun _ => OpT) oMove oMove oPick oAlloc oBox oBuild oBuildSlice oMapUpdate oLoad oStore (fun _ => oNo 1) (fun _ => oNo 2) oNilCheck (fun op t x y _ => oBin op t x y) (fun op _ x => oUn op x) oConvert (fun _ _ => oNo 3) oMakeInterface oMakeFunc oMakeMap (fun _ _ => oNo 5) oMakeSlice oSlice oFieldAddr oField oIndexAddr oIndex oLookup oMapUpdate oMapEntry (fun _ m s x => oEntryStore m s x) oRange oNext (fun _ => oNo 10) (fun x _ t ok => oTypeAssert x t ok) oExtract oCall (fun _ => oNo 11) (fun _ => oNo 12) oPanic (fun _ _ => oNo 14) (fun _ _ _ => oNo 14) (fun _ _ => oNo 14) op
def opK (call : CallT) (lim : Nat) (o : Oper) (fr : Fr) (h : T) (nx : Nat) (k : KV) : Out := opF o.op P call lim fr h nx k

/-! regions -/
def wantedB (ops : List Oper) (fr : Fr) (o : Oper) : Bool := Option.rec (motive := fun _ => Bool) true (fun gw => match getL ops gw.1 with
    | some og => (match og.dst with
      | some d => (match fr.get d with
        | some (.b x) => x == gw.2
        | _ => false)
      | none => false)
    | none => false) o.guard
/-- the number in the slot that counts rounds, where one is told to -/
def ctrN (fr : Fr) : Nat := match fr.get 900000 with
  | none => 0
  | some _ => (match List.rec (motive := fun _ => Option AV) none (fun s _ ih => Option.rec (motive := fun _ => Option AV) ih (fun _ => fr.get s) (fr.get (Nat.add 900001 s))) (List.range 128) with
    | some (.i _ (.ofNat n)) => Nat.mul 10000 (Nat.succ n)
    | _ => 0)
/-- a truth that is put is the one that is told, where one is -/
def toldB0 (fr : Fr) (d c : Nat) (x : Bool) (n : Out) (k : AV → Out) : Out := Option.rec (motive := fun _ => Out) (Option.rec (motive := fun _ => Out) n (fun _ => Bool.rec (motive := fun _ => Out) (k (.b false)) (.err 42 2) x) (fr.get (Nat.add (Nat.add 1000001 c) (Nat.mul 2 d)))) (fun _ => Bool.rec (motive := fun _ => Out) (.err 42 1) (k (.b true)) x) (fr.get (Nat.add (Nat.add 1000000 c) (Nat.mul 2 d)))
/-- a truth that is put is forked, where this is told -/
def toldB (fr : Fr) (d c : Nat) (x : Bool) (n : Out) (k : AV → Out) : Out := Option.rec (motive := fun _ => Out) (toldB0 fr d c x n k) (fun _ => Bool.rec (motive := fun _ => Out) (k (.b false)) (k (.b true)) x) (fr.get (Nat.add 3000000 (Nat.mul 2 d)))
/-- a number that is told, by its bits -/
def numT (fr : Fr) (d : Nat) : Nat := List.rec (motive := fun _ => Nat) 0 (fun i _ ih => Option.rec (motive := fun _ => Nat) ih (fun _ => Nat.add (Nat.pow 2 i) ih) (fr.get (Nat.add (Nat.add 9100000 (Nat.mul 64 d)) i))) (List.range 24)
def toldI (fr : Fr) (d : Nat) (kd : IntKind) (n : Int) (k : AV → Out) : Out := Option.rec (motive := fun _ => Out) (k (.i kd n)) (fun _ => fN (numT fr d) fun m => Bool.rec (motive := fun _ => Out) (.err 42 3) (k (.i kd (.ofNat m))) (iEq n (.ofNat m))) (fr.get (Nat.add 9000000 d))
def toldK (fr : Fr) (d : Nat) (v : AV) (k : AV → Out) : Out := match v with
  | .i kd n => toldI fr d kd n k
  | .b x => toldB fr d 0 x (match ctrN fr with
    | 0 => k (.b x)
    | c => toldB fr d c x (k (.b x)) k) k
  | v => k v
def putD (nt : Nat) (fr : Fr) (dst : Option Tmp) (v : AV) (k : Fr → Out) : Out := Option.rec (motive := fun _ => Out) (k fr) (fun d => Bool.rec (motive := fun _ => Out) (.err 42 0) (toldK fr d v fun v => Tr.setK fr d (some v) k) (Nat.blt d nt)) dst
abbrev KS := Fr → T → Nat → Out
/-- what goes on where a panic comes up -/
abbrev KP := AV → List Nat → Fr → T → Nat → Out
def paK (v : AV) (p : AV → Out) (n : Out) : Out := match v with
  | .pa x => p x
  | _ => n
def seqK (call : CallT) (nt lim : Nat) (ops : List Oper) (kp : KP) (l : List Oper) : Fr → T → Nat → KS → Out := List.rec (motive := fun _ => Fr → T → Nat → KS → Out) (fun fr h nx k => k fr h nx)
  (fun o _ ih fr h nx k => Bool.rec (motive := fun _ => Out)
    (putD nt fr o.dst (.tu []) fun fr => ih fr h nx k)
    (opF o.op P call lim fr h nx fun v h nx => putD nt fr o.dst v fun fr => paK v (fun x => kp x o.dst.toList fr h nx) (ih fr h nx k)) (wantedB ops fr o)) l
theorem seqK_nil (call : CallT) (nt lim : Nat) (ops : List Oper) (kp : KP) (fr : Fr) (h : T) (nx : Nat) (k : KS) : seqK P call nt lim ops kp [] fr h nx k = k fr h nx := rfl
theorem seqK_cons (call : CallT) (nt lim : Nat) (ops : List Oper) (kp : KP) (o : Oper) (l : List Oper) (fr : Fr) (h : T) (nx : Nat) (k : KS) : seqK P call nt lim ops kp (o :: l) fr h nx k = match wantedB ops fr o with
    | true => opK P call lim o fr h nx fun v h nx => putD nt fr o.dst v fun fr => paK v (fun x => kp x o.dst.toList fr h nx) (seqK P call nt lim ops kp l fr h nx k)
    | false => putD nt fr o.dst (.tu []) fun fr => seqK P call nt lim ops kp l fr h nx k := by
  show (@Bool.rec (fun _ => Out) _ _ (wantedB ops fr o)) = _
  cases wantedB ops fr o <;> rfl

/-- all that an operation waits for, as a number's bits -/
def orEdges (ms : List Nat) : List Edge → Nat → Nat
  | [], s => s
  | e :: l, s => match Region.binds .any e with
    | true => orEdges ms l (Nat.lor (Nat.lor s (Nat.pow 2 e.on)) (match getL ms e.on with | some m => m | none => 0))
    | false => orEdges ms l s
def masksGo : List Oper → List Nat → List Nat
  | [], ms => ms
  | o :: l, ms => masksGo l (ms ++ [orEdges ms o.after.toList 0])
def masks (ops : List Oper) : List Nat := masksGo ops []
def hasBit (m i : Nat) : Bool := Nat.beq (Nat.mod (Nat.shiftRight m i) 2) 1
/-- operations that neither look at memory nor turn it -/
def lightO (o : Oper) : Bool := match o.op with
  | .move _ | .assign _ | .pick _ _ _ | .build _ _ | .nilCheck _ | .unOp _ _ _ | .makeInterface _ _ | .makeFunc _ _ _ | .fieldAddr _ _ _ | .field _ _ _ | .indexAddr _ _ _ | .index _ _ _ | .extract _ _ | .typeAssert _ _ _ _ => true
  | .binOp _ t _ _ _ => (match P.underlying t with
    | some (.int _) | some .string | some .bool => true
    | _ => false)
  | .slice t _ _ _ _ => (match P.underlying t with
    | some .string | some (.array _ _) | some (.pointer _) => true
    | _ => false)
  | .convert s d _ => (match P.underlying s, P.underlying d with
    | some (.int _), some (.int _) => true
    | some (.int _), some .string => true
    | some .string, some .string => true
    | _, _ => false)
  | .call { callee := .builtin b, argTypes, .. } => (match b, argTypes.toList with
    | .len, t :: _ => (match P.underlying t with
      | some .string | some (.array _ _) | some (.pointer _) | some (.slice _) => true
      | _ => false)
    | .min, _ | .max, _ => true
    | _, _ => false)
  | _ => false
def isLd (o : Oper) : Bool := match o.op with
  | .load _ _ => true
  | _ => false
/-- operations that make one block, and look at none -/
def isFr (o : Oper) : Bool := match o.op with
  | .alloc _ | .box _ _ | .buildSlice _ _ _ | .makeSlice _ _ _ | .makeMap _ _ => true
  | _ => false
/-- may it go on while the blocks that others look at stay as they are? -/
def wkN (o : Oper) : Nat := match o.op with
  | .store _ _ _ | .insert _ _ _ _ | .mapUpdate _ _ _ _ | .mapEntry _ _ _ | .entryStore _ _ _ _ => 1
  | .call { callee := .builtin _, .. } => 1
  | .call _ => 2
  | _ => 0
/-- is it run as one that all others are before, or behind? -/
def barNow (o : Oper) (b : Bool × Bool) : Bool := match b.1 with
  | true => true
  | false => (match b.2, wkN o with
    | true, _ + 1 => true
    | _, _ => false)
/-- is every other operation that is not light before, or behind, the i-th? a load, or one that makes a block, may stand before it -/
def barB (wk : Bool) (i m : Nat) (hv : List (Bool × Bool)) (ms : List Nat) : Bool := (hv.zip ms).zipIdx.all fun (((x, y), n), j) => !x || Nat.beq j i || hasBit m j || hasBit n i || (y && wk && Nat.blt j i)
def barsL (ops : List Oper) : List (Bool × Bool) := (ops.zip (masks ops)).zipIdx.map fun ((o, m), i) => (barB false i m (ops.map fun o => (!lightO P o, isLd o || isFr o)) (masks ops), barB true i m (ops.map fun o => (!lightO P o, isLd o || isFr o)) (masks ops))
def looks (ops : List Oper) (o : Oper) : List Tmp :=
  (o.op.operands.toList.filterMap fun | .tmp t => some t | _ => none) ++
  (match o.guard with
   | some (g, _) => (match getL ops g with | some og => og.dst.toList | none => [])
   | none => [])
def dsts (ops : List Oper) : List (Option Tmp) := ops.map (·.dst)
/-- each slot is written once, and who looks at it waits for its writer, or its writer waits for him -/
def apartGo (dm : List (Option Tmp × Nat)) (ops : List Oper) : List Oper → List Nat → Nat → Bool
  | o :: l, m :: ms, i => (looks ops o).all (fun t => dm.zipIdx.all fun ((d, n), j) => d != some t || Nat.beq j i || hasBit m j || hasBit n i) && apartGo dm ops l ms (Nat.succ i)
  | [], _, _ => true
  | _ :: _, [], _ => false
def onceB : List (Option Tmp) → Bool
  | [] => true
  | none :: l => onceB l
  | some d :: l => !l.contains (some d) && onceB l
def backGo : List Nat → Nat → Bool
  | [], _ => true
  | m :: l, i => Nat.blt m (Nat.pow 2 i) && backGo l (Nat.succ i)
def regionOk (ops : List Oper) : Bool := onceB (dsts ops) && apartGo ((dsts ops).zip (masks ops)) ops ops (masks ops) 0 && backGo (masks ops) 0

def mergeK : Nat → T → T → Nat → Nat → (T → Out) → Out
  | 0, _, h, _, _, k => k h
  | f + 1, g, h, i, n, k => match Nat.blt i n with
    | true => Tr.setK h i (g.get i) fun h => fN (Nat.succ i) fun i => mergeK f g h i n k
    | false => k h
/-- the one block that a load looks at -/
def ldView (fr : Fr) (V : T) (o : Oper) (k : T → Option Nat → Out) : Out := match o.op with
  | .load _ x => opdK fr x fun v => (match v with
    | .p id _ => fN id fun id => Tr.setK .e id (V.get id) fun W => k W (some id)
    | _ => .err 50 2)
  | _ => k V none
/-- blocks that were looked at, by who does not wait, may not be written; blocks that were made so are hidden -/
def hideK (m : Nat) : List (Nat × Nat × Bool) → T → (T → List Nat → Out) → Out
  | [], h, k => k h []
  | x :: l, h, k => match hasBit m x.1 with
    | true => hideK m l h k
    | false => (match x.2.2, h.get x.2.1 with
      | false, some (.c cs _ _ _) => lenK cs 0 fun n => Tr.setK h x.2.1 (some (.c cs (Nat.succ n) 0 none)) fun h => hideK m l h fun V ids => k V (x.2.1 :: ids)
      | _, _ => Tr.setK h x.2.1 none fun h => hideK m l h fun V ids => k V (x.2.1 :: ids))
def backK (g : T) : List Nat → T → (T → Out) → Out
  | [], h, k => k h
  | id :: l, h, k => Tr.setK h id (g.get id) fun h => backK g l h k
/-- blocks in a range are hidden -/
def clrK : Nat → Nat → T → (T → Out) → Out
  | 0, _, h, k => k h
  | f + 1, i, h, k => Tr.setK h i none fun h => fN (Nat.succ i) fun i => clrK f i h k
/-- blocks that were made by who is not waited for are hidden -/
def hideR (m : Nat) : List (Nat × Nat × Nat) → T → Bool → (T → Bool → Out) → Out
  | [], h, q, k => k h q
  | x :: l, h, q, k => match hasBit m x.1 with
    | true => hideR m l h q k
    | false => clrK (Nat.sub x.2.2 x.2.1) x.2.1 h fun h => hideR m l h true k
/-- blocks that were made here, by who is not waited for, are hidden -/
def hideP (m nx0 : Nat) : List (Nat × Nat × Bool) → T → (T → Out) → Out
  | [], h, k => k h
  | x :: l, h, k => match hasBit m x.1 || Nat.blt x.2.1 nx0 with
    | true => hideP m nx0 l h k
    | false => Tr.setK h x.2.1 none fun h => hideP m nx0 l h k
def keepK (m : Nat) : List (Nat × Nat × Nat) → (List (Nat × Nat × Nat) → Out) → Out
  | [], k => k []
  | x :: l, k => match hasBit m x.1 with
    | true => keepK m l k
    | false => keepK m l fun r => k (x :: r)
/-- in a region whose order is drawn: each operation is run on what surely is there whatever the order is -/
def drK (call : CallT) (nt lim nx0 : Nat) (kp : KP) (ops : List Oper) : Nat → List Oper → List Nat → List (Bool × Bool) → Fr → T → Nat → List (Nat × Nat × Nat) → List (Nat × Nat × Bool) → KS → Out
  | _, [], _, _, fr, h, nx, _, _, k => k fr h nx
  | i, o :: l, m :: ms, b :: bs, fr, h, nx, nws, lds, k => match wantedB ops fr o with
    | false => putD nt fr o.dst (.tu []) fun fr => fN (Nat.succ i) fun i => drK call nt lim nx0 kp ops i l ms bs fr h nx nws lds k
    | true => (match lightO P o with
      | true => opK P call lim o fr .e nx fun v _ nx' => (match Nat.beq nx nx' with
        | true => paK v (fun _ => .err 50 8) <| putD nt fr o.dst v fun fr => fN (Nat.succ i) fun i => drK call nt lim nx0 kp ops i l ms bs fr h nx nws lds k
        | false => .err 50 1)
      | false => (match isFr o with
        | true => opK P call nx o fr .e nx fun v h' nx' => (match Nat.beq (Nat.succ nx) nx' with
          | true => paK v (fun _ => .err 50 8) <| putD nt fr o.dst v fun fr => Tr.setK h nx (h'.get nx) fun h => fN (Nat.succ i) fun i' => drK call nt lim nx0 kp ops i' l ms bs fr h nx' ((i, nx, nx') :: nws) ((i, nx, true) :: lds) k
          | false => .err 50 4)
        | false => (match barNow o b with
          | true => hideK m lds h fun V ids => opK P call lim o fr V nx fun v h' nx => putD nt fr o.dst v fun fr => backK h ids h' fun h => paK v (fun x => Bool.rec (motive := fun _ => Out) (.err 50 7) (hideP m nx0 lds h fun h => kp x (ops.filterMap (·.dst)) fr h nx) (ms.all fun m => hasBit m i)) (keepK m nws fun nws => fN (Nat.succ i) fun i => drK call nt lim nx0 kp ops i l ms bs fr h nx nws lds k)
          | false => hideR m nws h false fun R hid => ldView fr R o fun W q => opK P call nx o fr W nx fun v h' nx' => paK v (fun _ => .err 50 8) <| putD nt fr o.dst v fun fr => (match Nat.beq nx nx' with
            | true => (match q with
              | some id => fN (Nat.succ i) fun i' => drK call nt lim nx0 kp ops i' l ms bs fr h nx nws ((i, id, false) :: lds) k
              | none => fN (Nat.succ i) fun i => drK call nt lim nx0 kp ops i l ms bs fr h nx nws lds k)
            | false => (match q with
              | some _ => .err 50 3
              | none => (match hid with
                | false => fN (Nat.succ i) fun i' => drK call nt lim nx0 kp ops i' l ms bs fr h' nx' ((i, nx, nx') :: nws) lds k
                | true => mergeK (Nat.sub nx' nx) h' h nx nx' fun h => fN (Nat.succ i) fun i' => drK call nt lim nx0 kp ops i' l ms bs fr h nx' ((i, nx, nx') :: nws) lds k))))))
  | _, _, _, _, _, _, _, _, _, _ => .err 50 0

/-! another row of the operations: those that may be early stand early -/
def pickG (ps : List ((Bool × Nat) × Nat)) (pl : Nat) (early : Bool) : Option Nat := List.rec (motive := fun _ => Option Nat) none (fun x _ ih => Bool.rec (motive := fun _ => Option Nat) ih (some x.2) (!hasBit pl x.2 && Nat.beq (Nat.land x.1.2 pl) x.1.2 && (x.1.1 || !early))) ps
def orderG (ps : List ((Bool × Nat) × Nat)) : Nat → Nat → List Nat → List Nat
  | 0, _, acc => acc.reverse
  | f + 1, pl, acc => match pickG ps pl true with
    | some i => orderG ps f (Nat.lor pl (Nat.pow 2 i)) (i :: acc)
    | none => (match pickG ps pl false with
      | some i => orderG ps f (Nat.lor pl (Nat.pow 2 i)) (i :: acc)
      | none => acc.reverse)
def orderOf (ops : List Oper) : List Nat := orderG ((ops.map fun o => lightO P o || isLd o || isFr o).zip (masks ops)).zipIdx ops.length 0 []
def placeG (i : Nat) : List Nat → Nat → Nat
  | [], _ => 0
  | a :: l, n => match Nat.beq a i with
    | true => n
    | false => placeG i l (Nat.succ n)
def placesOf (n : Nat) (pi : List Nat) : List Nat := (List.range n).map fun i => placeG i pi 0
def atL (l : List Nat) (i : Nat) : Nat := Option.rec (motive := fun _ => Nat) 0 (fun x => x) (getL l i)
def relab (si : List Nat) (o : Oper) : Oper := ⟨o.dst, o.op, o.type, o.pos, (o.after.toList.map fun e => ⟨atL si e.on, e.ground⟩).toArray, o.guard.map fun g => (atL si g.1, g.2)⟩
def permL (ops : List Oper) (pi si : List Nat) : List Oper := pi.filterMap fun i => (getL ops i).map (relab si)
/-- pi and si are each other's inverse, and nothing waits for what is not there -/
def permOk (ops : List Oper) (pi si : List Nat) : Bool := Nat.beq pi.length ops.length && Nat.beq si.length ops.length &&
  (pi.zipIdx.all fun (i, s) => Nat.blt i ops.length && Nat.beq (atL si i) s) && (si.zipIdx.all fun (s, i) => Nat.blt s ops.length && Nat.beq (atL pi s) i) &&
  ops.all fun o => (o.after.toList.all fun e => Nat.blt e.on ops.length) && (match o.guard with | some g => Nat.blt g.1 ops.length | none => true)
def permWant (ops : List Oper) : Bool := (ops.zip (barsL P ops)).any fun (o, b) => Nat.blt 0 (wkN o) && !b.2 && !lightO P o
def drG (call : CallT) (nt lim : Nat) (kp : KP) (ops : List Oper) (fr : Fr) (h : T) (nx : Nat) (k : KS) : Out := Bool.rec (motive := fun _ => Out) (.err 63 9) (drK P call nt lim nx kp ops 0 ops (masks ops) (barsL P ops) fr h nx [] [] k) (regionOk ops)
def permK (call : CallT) (nt lim : Nat) (kp : KP) (ops : List Oper) (pi si : List Nat) (fr : Fr) (h : T) (nx : Nat) (k : KS) : Out := Bool.rec (motive := fun _ => Out) (.err 63 10) (drG P call nt lim kp (permL ops pi si) fr h nx k) (permOk ops pi si)
def drawK (call : CallT) (nt lim : Nat) (kp : KP) (ops : List Oper) (fr : Fr) (h : T) (nx : Nat) (k : KS) : Out := Bool.rec (motive := fun _ => Out) (drG P call nt lim kp ops fr h nx k) (permK P call nt lim kp ops (orderOf P ops) (placesOf ops.length (orderOf P ops)) fr h nx k) (permWant P ops)

/-! bodies -/
inductive Ex where
  | nor
  | exi (id : Nat)
  | ret
  | got (l : Nat)
  | pan (x : AV) (b : List Nat)
abbrev KE := Ex → Fr → T → Nat → Out
abbrev Job := Nat → Nat → Code → Fr → T → Nat → KE → Out
def resK (fr : Fr) (h : T) : List ResultVar → (List AV → Out) → Out
  | [], k => k []
  | .tmp t :: l, k => opdK fr (.tmp t) fun v => resK fr h l fun m => k (v :: m)
  | .cell a t :: l, k => opdK fr (.tmp a) fun x => loadK P h t x fun v => resK fr h l fun m => k (v :: m)
def oneK (l : List AV) (k : KO) : Out := match l with
  | [v] => k v
  | l => k (.tu l)
def argsK (l : List AV) : Nat → Fr → (Fr → Nat → Out) → Out := List.rec (motive := fun _ => Nat → Fr → (Fr → Nat → Out) → Out) (fun i fr k => k fr i) (fun v _ ih i fr k => Tr.setK fr i (some v) fun fr => fN (Nat.succ i) fun i => ih i fr k) l
theorem argsK_nil (i : Nat) (fr : Fr) (k : Fr → Nat → Out) : argsK [] i fr k = k fr i := rfl
theorem argsK_cons (v : AV) (l : List AV) (i : Nat) (fr : Fr) (k : Fr → Nat → Out) : argsK (v :: l) i fr k = Tr.setK fr i (some v) fun fr => fN (Nat.succ i) fun i => argsK l i fr k := rfl
/-- what has no body -/
def extK (name origin : String) (args : List AV) (k : KO) : Out := match name == "internal/bytealg.abigen_runtime_cmpstring" && origin == "" with
  | true => (match args with
    | [.s a x, .s b y] => fB (eqNs a x b y) fun r => (match r with
      | true => k (.i .i64 (.ofNat 0))
      | false => fB (ltS a x b y) fun r => (match r with
        | true => k (.i .i64 (.negSucc 0))
        | false => k (.i .i64 (.ofNat 1))))
    | _ => .err 65 1)
  | false => (match name == "internal/abi.NoEscape" && origin == "" with
    | true => (match args with
      | [a] => k a
      | _ => .err 65 2)
    | false => .err 65 0)
abbrev HT := Nat → List AV → T → Nat → KV → Out
/-- what stands for functions -/
abbrev XT := FuncId → Option HT
def digs : Nat → Nat → List Nat
  | 0, _ => []
  | f + 1, a => match Nat.beq a 0 with
    | true => []
    | false => Nat.mod a 10000000 :: digs f (Nat.div a 10000000)
def orcsK (l : List Nat) : Fr → (Fr → Out) → Out := List.rec (motive := fun _ => Fr → (Fr → Out) → Out) (fun fr c => c fr) (fun k _ ih fr c => Tr.setK fr k (some (.tu [])) fun fr => ih fr c) l
/-- truths that are told, of a function's slots -/
def orcK (X : XT) (f : FuncId) (c : Fr → Out) : Out := match X (Nat.add 1000000000 f) with
  | none => c .e
  | some g => (match g 0 [] .e 0 (fun _ _ _ => .err 0 0) with
    | .err a _ => orcsK (digs 1000 a) .e c
    | .ok _ => c .e)
def bodyK0 (X : XT) (rec : Job) : CallT := fun lim f args h nx k => match getL P.funcs.toList f with
  | some fn => (match fn.body with
    | some c => orcK X f fun o => argsK args 0 o fun fr n => (match Nat.ble n fn.ntmps with
      | true => fN fn.ntmps fun nt => rec nt lim c fr h nx fun e fr h nx => (match e with
        | .nor => resK P fr h fn.results.toList fun l => oneK l fun v => k v h nx
        | .ret => resK P fr h fn.results.toList fun l => oneK l fun v => k v h nx
        | .exi _ => .err 61 0
        | .got _ => .err 61 2
        | .pan x _ => k (.pa x) h nx)
      | false => .err 61 1)
    | none => extK fn.name fn.origin args fun v => k v h nx)
  | none => .err 62 f
def enterK0 (X : XT) (rec : Job) : CallT := fun lim f args h nx k => Option.rec (motive := fun _ => Out) (bodyK0 P X rec lim f args h nx k) (fun c => c lim args h nx k) (X f)
def noKP : KP := fun _ _ _ _ _ => .err 66 1
def isRec (o : Oper) : Bool := match o.op, o.guard with
  | .call c, none => (match c.callee, c.args.toList with
    | .builtin .recover, [] => true
    | _, _ => false)
  | _, _ => false
/-- a deferred function that begins with 'recover' -/
def cloK (call : CallT) (rec : Job) (lim : Nat) (g : FuncId) (args : List AV) (rv : AV) (h : T) (nx : Nat) (k : T → Nat → Out) : Out := match getL P.funcs.toList g with
  | some fn => (match fn.body, fn.results.toList with
    | some (.seq (.region _ ops false) rest), [] => (match ops.toList with
      | o :: l => (match isRec o with
        | true => argsK args 0 .e fun fr n => (match Nat.ble n fn.ntmps with
          | true => fN fn.ntmps fun nt => putD nt fr o.dst rv fun fr => seqK P call nt lim (o :: l) noKP l fr h nx fun fr h nx => rec nt lim rest fr h nx fun e _ h nx => (match e with
            | .nor => k h nx
            | .ret => k h nx
            | _ => .err 66 2)
          | false => .err 66 3)
        | false => .err 66 4)
      | [] => .err 66 5)
    | _, _ => .err 66 6)
  | none => .err 66 7
def okRes (bad : List Nat) (l : List ResultVar) : Bool := l.all fun x => match x with
  | .tmp t => !bad.any (Nat.beq t)
  | .cell t _ => !bad.any (Nat.beq t)
/-- a function that defers one -/
def deferK (call : CallT) (rec : Job) (lim : Nat) (fn : Func) (a : Code) (m : Oper) (x : Operand) (rest : Code) (args : List AV) (h : T) (nx : Nat) (k : KV) : Out :=
  argsK args 0 .e fun fr n => (match Nat.ble n fn.ntmps with
  | true => fN fn.ntmps fun nt => rec nt lim a fr h nx fun e fr h nx => (match e with
    | .nor => opK P call lim m fr h nx fun v h nx => putD nt fr m.dst v fun fr => paK v (fun x => noKP x m.dst.toList fr h nx) (opdK fr x fun g => (match g with
      | .fn (.func g) first cap => rec nt lim rest fr h nx fun e fr h nx => (match e with
        | .nor => cloK P call rec lim g (first ++ cap) .ni h nx fun h nx => resK P fr h fn.results.toList fun l => oneK l fun v => k v h nx
        | .ret => cloK P call rec lim g (first ++ cap) .ni h nx fun h nx => resK P fr h fn.results.toList fun l => oneK l fun v => k v h nx
        | .pan y bad => (match okRes bad fn.results.toList with
          | true => cloK P call rec lim g (first ++ cap) y h nx fun h nx => resK P fr h fn.results.toList fun l => oneK l fun v => k v h nx
          | false => .err 66 10)
        | _ => .err 66 8)
      | _ => .err 66 9))
    | _ => .err 66 11)
  | false => .err 66 12)
/-- does a body defer a function? by its second region, of two operations -/
def defersC (c : Code) : Option (Code × Oper × Oper × Operand × Code) := match c with
  | .seq a (.seq (.region _ ops false) rest) => (match ops.toList with
    | [m, d] => (match d.op, d.dst, m.guard, d.guard with
      | .defer cl, none, none, none => (match cl.callee, cl.args.toList with
        | .value x, [] => some (a, m, d, x, rest)
        | _, _ => none)
      | _, _, _, _ => none)
    | _ => none)
  | _ => none
def bodyK (X : XT) (call : CallT) (rec : Job) : CallT := fun lim f args h nx k => match getL P.funcs.toList f with
  | some fn => (match fn.body with
    | some c => (match defersC c with
      | some (a, m, _, x, rest) => deferK P call rec lim fn a m x rest args h nx k
      | none => bodyK0 P X rec lim f args h nx k)
    | none => bodyK0 P X rec lim f args h nx k)
  | none => .err 62 f
def enterK (X : XT) (rec : Job) : CallT := fun lim f args h nx k => Option.rec (motive := fun _ => Out) (bodyK P X (enterK0 P X rec) rec lim f args h nx k) (fun c => c lim args h nx k) (X f)
abbrev JobT := Program → XT → Job → Nat → Nat → Fr → T → Nat → KE → Out
def cNor : JobT := fun _ _ _ _ _ fr h nx k => k .nor fr h nx
def cSeq (a b : Code) : JobT := fun _ _ rec nt lim fr h nx k => rec nt lim a fr h nx fun e fr h nx => Ex.rec (motive := fun _ => Out) (rec nt lim b fr h nx k) (fun i => k (.exi i) fr h nx) (k .ret fr h nx) (fun l => k (.got l) fr h nx) (fun x b => k (.pan x b) fr h nx) e
def cCond (c : Operand) (a b : Code) : JobT := fun _ _ rec nt lim fr h nx k => opdK fr c fun v => match v with
  | .b x => Bool.rec (motive := fun _ => Out) (rec nt lim b fr h nx k) (rec nt lim a fr h nx k) x
  | _ => .err 63 0
def cBlock (id : Nat) (c : Code) : JobT := fun _ _ rec nt lim fr h nx k => rec nt lim c fr h nx fun e fr h nx => Ex.rec (motive := fun _ => Out) (k .nor fr h nx) (fun i => Bool.rec (motive := fun _ => Out) (k (.exi i) fr h nx) (k .nor fr h nx) (Nat.beq i id)) (k .ret fr h nx) (fun l => k (.got l) fr h nx) (fun x b => k (.pan x b) fr h nx) e
def cLoop (b : Code) : JobT := fun _ _ rec nt lim fr h nx k => rec nt lim b fr h nx fun e fr h nx => Ex.rec (motive := fun _ => Out) (rec nt lim (.loop b) fr h nx k) (fun i => k (.exi i) fr h nx) (k .ret fr h nx) (fun l => k (.got l) fr h nx) (fun x b => k (.pan x b) fr h nx) e
def cExit (id : Nat) : JobT := fun _ _ _ _ _ fr h nx k => k (.exi id) fr h nx
def cRet : JobT := fun _ _ _ _ _ fr h nx k => k .ret fr h nx
/-- jumps within a scope, so many at most -/
def scopeK (c : Code) (rec : Job) (nt lim : Nat) (f : Nat) : Code → Fr → T → Nat → KE → Out := Nat.rec (motive := fun _ => Code → Fr → T → Nat → KE → Out) (fun _ _ _ _ _ => .err 63 8)
  (fun _ ih d fr h nx k => rec nt lim d fr h nx fun e fr h nx => Ex.rec (motive := fun _ => Out) (k .nor fr h nx) (fun i => k (.exi i) fr h nx) (k .ret fr h nx)
    (fun l => Option.rec (motive := fun _ => Out) (k (.got l) fr h nx) (fun d => ih d fr h nx k) (findLabel c l)) (fun x b => k (.pan x b) fr h nx) e) f
theorem scopeK_zero (c : Code) (rec : Job) (nt lim : Nat) (d : Code) (fr : Fr) (h : T) (nx : Nat) (k : KE) : scopeK c rec nt lim 0 d fr h nx k = .err 63 8 := rfl
theorem scopeK_succ (c : Code) (rec : Job) (nt lim f : Nat) (d : Code) (fr : Fr) (h : T) (nx : Nat) (k : KE) : scopeK c rec nt lim (f + 1) d fr h nx k = rec nt lim d fr h nx fun e fr h nx => Ex.rec (motive := fun _ => Out) (k .nor fr h nx) (fun i => k (.exi i) fr h nx) (k .ret fr h nx)
    (fun l => Option.rec (motive := fun _ => Out) (k (.got l) fr h nx) (fun d => scopeK c rec nt lim f d fr h nx k) (findLabel c l)) (fun x b => k (.pan x b) fr h nx) e := rfl
def cScope (c : Code) : JobT := fun _ _ rec nt lim fr h nx k => scopeK c rec nt lim 1000000 c fr h nx k
def cGoto (l : Nat) : JobT := fun _ _ _ _ _ fr h nx k => k (.got l) fr h nx
def cRegion (ops : Array Oper) (draw : Bool) : JobT := fun P X rec nt lim fr h nx k => Bool.rec (motive := fun _ => Out)
  (seqK P (enterK P X rec) nt lim ops.toList (fun x b fr h nx => k (.pan x b) fr h nx) ops.toList fr h nx fun fr h nx => k .nor fr h nx)
  (drawK P (enterK P X rec) nt lim (fun x b fr h nx => k (.pan x b) fr h nx) ops.toList fr h nx fun fr h nx => k .nor fr h nx) draw
def cNo (n : Nat) : JobT := fun _ _ _ _ _ _ _ _ _ => .err 63 n
def codeF (c : Code) : JobT := Code.rec (motive := fun _ => JobT) cNor (fun _ ops d => cRegion ops d) (fun a b _ _ => cSeq a b) (fun c a b _ _ => cCond c a b) (fun id c _ => cBlock id c) (fun b _ => cLoop b)
  (fun _ _ _ _ _ _ => cNo 1) cExit (fun c _ => cScope c) (fun _ => cNor) cGoto cRet (fun _ => cNo 4) c
def evB (X : XT) (rec : Job) : Job := fun nt lim c fr h nx k => codeF c P X rec nt lim fr h nx k
/-- the run, by depth -/
def ev (X : XT) (n : Nat) : Job := Nat.rec (motive := fun _ => Job) (fun _ _ _ _ _ _ _ => .err 64 0) (fun _ ih => evB P X ih) n
theorem ev_zero (X : XT) : ev P X 0 = fun _ _ _ _ _ _ _ => .err 64 0 := rfl
theorem ev_succ (X : XT) (n : Nat) : ev P X (n + 1) = evB P X (ev P X n) := rfl
def noX : XT := fun _ => none
def runF (X : XT) (n lim : Nat) (f : FuncId) (args : List AV) (h : T) (nx : Nat) : Out := enterK P X (ev P X n) lim f args h nx fun v _ _ => .ok v
end
end
end Clu
end Go.Proofs.Ythghohgjedjpbaa
