/-
  An evaluator of calls at concrete arguments, to be run by the kernel: definitions.
-/
import Derived.Orders
import Derived.Below
namespace Go.Proofs.YtlegcfjafdihlaaGreatDoor.Ev
open Go.RowKit

/-! ### Maps by number, forced -/
inductive Tri (α : Type) where
  | e : Tri α
  | l (a : α) : Tri α
  | n (x y : Tri α) : Tri α
def Tri.frc {α β : Type} (t : Tri α) (f : Tri α → β) : β :=
  match t with
  | .e => f .e
  | .l a => f (.l a)
  | .n x y => f (.n x y)
noncomputable def Tri.get {α : Type} (d : Nat) : Tri α → Nat → Option α :=
  Nat.rec (motive := fun _ => Tri α → Nat → Option α) (fun t _ => Tri.casesOn t none some (fun _ _ => none))
    (fun _ g t k => Tri.casesOn t none (fun _ => none) (fun x y => Bool.rec (g y (Nat.div k 2)) (g x (Nat.div k 2)) (Nat.beq (Nat.mod k 2) 0))) d
noncomputable def Tri.set {α : Type} (d : Nat) : Tri α → Nat → α → Tri α :=
  Nat.rec (motive := fun _ => Tri α → Nat → α → Tri α) (fun _ _ a => .l a)
    (fun _ g t k a => Tri.casesOn t
      (Bool.rec (Tri.frc (g .e (Nat.div k 2) a) fun y' => .n .e y') (Tri.frc (g .e (Nat.div k 2) a) fun x' => .n x' .e) (Nat.beq (Nat.mod k 2) 0))
      (fun _ => Bool.rec (Tri.frc (g .e (Nat.div k 2) a) fun y' => .n .e y') (Tri.frc (g .e (Nat.div k 2) a) fun x' => .n x' .e) (Nat.beq (Nat.mod k 2) 0))
      (fun x y => Bool.rec (Tri.frc (g y (Nat.div k 2) a) fun y' => .n x y') (Tri.frc (g x (Nat.div k 2) a) fun x' => .n x' y) (Nat.beq (Nat.mod k 2) 0))) d

/-! ### Forced values and lists -/
def nfrc {β : Type} (n : Nat) (f : Nat → β) : β := match Nat.beq n n with
  | true => f n
  | false => f n
def ifrc {β : Type} (n : Int) (f : Int → β) : β := match n with
  | .ofNat m => nfrc m fun m => f (.ofNat m)
  | .negSucc m => nfrc m fun m => f (.negSucc m)
def lfrc {α β : Type} (l : List α) (f : List α → β) : β := match l with
  | [] => f []
  | a :: t => f (a :: t)
def vfrc {β : Type} (v : Value) (f : Value → β) : β := match v with
  | .bool true => f (.bool true)
  | .bool false => f (.bool false)
  | .int k n => ifrc n fun n => f (.int k n)
  | .float k n => f (.float k n)
  | .complex k a b => f (.complex k a b)
  | .string s => match s with | ⟨⟨l⟩⟩ => f (.string ⟨⟨l⟩⟩)
  | .pointer none => f (.pointer none)
  | .pointer (some ⟨n, o, s⟩) => nfrc n fun n => nfrc o fun o => f (.pointer (some ⟨n, o, s⟩))
  | .slice none l c => f (.slice none l c)
  | .slice (some ⟨n, o, s⟩) l c => nfrc n fun n => nfrc o fun o => nfrc l fun l => nfrc c fun c => f (.slice (some ⟨n, o, s⟩) l c)
  | .map r => f (.map r)
  | .chan r => f (.chan r)
  | .func fn a b => f (.func fn a b)
  | .nilFunc => f .nilFunc
  | .iface t v => f (.iface t v)
  | .nilIface => f .nilIface
  | .agg ⟨l⟩ => lfrc l fun l => f (.agg ⟨l⟩)
  | .tuple ⟨l⟩ => lfrc l fun l => f (.tuple ⟨l⟩)
noncomputable def llen (l : List Value) : Nat := List.rec 0 (fun _ _ r => Nat.succ r) l
noncomputable def lapp (a b : List Value) : List Value := List.rec b (fun x _ r => lfrc r fun t => x :: t) a
noncomputable def ldrop (l : List Value) : Nat → List Value :=
  List.rec (motive := fun _ => Nat → List Value) (fun _ => []) (fun x t r o => Nat.casesOn o (x :: t) r) l
noncomputable def ltake (l : List Value) : Nat → List Value :=
  List.rec (motive := fun _ => Nat → List Value) (fun _ => []) (fun x _ r n => Nat.casesOn n [] fun n => lfrc (r n) fun t => x :: t) l
/-- n cells from o on; none if there are fewer. -/
noncomputable def lsub (l : List Value) (o n : Nat) : Option (List Value) := match Nat.ble (Nat.add o n) (llen l) with
  | true => some (ltake (ldrop l o) n)
  | false => none
/-- cs with vs in the place of its first cells. -/
noncomputable def lover (vs : List Value) : List Value → List Value :=
  List.rec (motive := fun _ => List Value → List Value) (fun cs => cs) (fun v _ r cs => List.casesOn cs [] fun _ t => lfrc (r t) fun t => v :: t) vs
noncomputable def lputs (vs cs : List Value) : Nat → List Value :=
  List.rec (motive := fun _ => Nat → List Value) (fun _ => []) (fun x t r o => Nat.casesOn o (lover vs (x :: t)) fun o => lfrc (r o) fun t => x :: t) cs
/-- cs with vs in the place of its cells from o on; none if they do not fit. -/
noncomputable def lput (cs : List Value) (o : Nat) (vs : List Value) : Option (List Value) := match Nat.ble (Nat.add o (llen vs)) (llen cs) with
  | true => some (lputs vs cs o)
  | false => none
noncomputable def lget (l : List Value) : Nat → Option Value :=
  List.rec (motive := fun _ => Nat → Option Value) (fun _ => none) (fun x _ r n => Nat.casesOn n (some x) r) l

/-! ### Plain computations of the model -/
def prun (P : Program) {α : Type} : Sem α → Option α
  | .pure a => some a
  | .program k => prun P (k P)
  | .mark _ k => prun P k
  | _ => none

/-! ### Abstract memory -/
inductive AB where
  | row (cs : List Value) (e : TypeId) (es : Nat)
  | ro (cs : List Value)
def AB.isRo : AB → Bool
  | .ro _ => true
  | _ => false
abbrev Hp := Tri (Option AB)
def dep : Nat := 13
noncomputable def Tri.at (H : Hp) (n : Nat) : Option AB := match Nat.blt n (Nat.pow 2 dep) with
  | true => match Tri.get dep H n with
    | some b => b
    | none => none
  | false => none

/-- Has a value no address in it? -/
def flat0 : Value → Bool
  | .bool _ | .int _ _ | .float _ _ | .complex _ _ _ | .string _ | .pointer none | .slice none _ _ | .map none | .chan none | .nilFunc | .nilIface => true
  | .func (.func _) ⟨[]⟩ ⟨[]⟩ => true
  | _ => false
def flat1 : Value → Bool
  | .agg ⟨l⟩ => l.all flat0
  | v => flat0 v
def flat : Value → Bool
  | .agg ⟨l⟩ => l.all flat0
  | .tuple ⟨l⟩ => l.all flat1
  | .iface _ v => flat1 v
  | v => flat0 v

/-! ### One operation -/
inductive Rs where
  | ok (v : Value) (H : Hp) (nx S W : Nat)
  | no
def bit (n : Nat) : Nat := Nat.pow 2 n
noncomputable def tget (d : Nat) (T : Tri Value) (t : Nat) : Value := match Tri.get d T t with
  | some v => v
  | none => undef
noncomputable def opnd (d : Nat) (T : Tri Value) : Operand → Value
  | .tmp t => tget d T t
  | .const v => v
  | .global g => .pointer (some ⟨g, 0, none⟩)
  | .func f => .func (.func f) #[] #[]
/-- Operations that hand values on without a look into addresses. -/
def handsOn : Op → Bool
  | .move _ | .assign _ | .pick .. | .extract .. | .field .. | .index .. | .makeFunc .. | .makeInterface .. => true
  | .call { callee := .builtin .len, .. } => true
  | _ => false
/-- A comparison of what is not nil with nil. -/
def nilShape : TypeDesc → Value → Value → Bool
  | .pointer _, .pointer (some _), .pointer none | .pointer _, .pointer none, .pointer (some _) => true
  | .slice _, .slice (some _) _ _, .slice none _ _ | .slice _, .slice none _ _, .slice (some _) _ _ => true
  | .func _ _ _, .func _ _ _, .nilFunc | .func _ _ _, .nilFunc, .func _ _ _ => true
  | .interface _, .iface _ _, .nilIface | .interface _, .nilIface, .iface _ _ => true
  | _, _, _ => false
noncomputable def evRun (P : Program) (d : Nat) (T : Tri Value) (H : Hp) (nx : Nat) (o : Oper) : Rs := match prun P (execOp (opnd d T) o) with
  | some (.value v) => .ok v H nx 0 0
  | _ => .no
/-- An operation on values without addresses. -/
noncomputable def evFlat (P : Program) (d : Nat) (T : Tri Value) (H : Hp) (nx : Nat) (o : Oper) : Rs :=
  match o.op.operands.toList.all (fun x => flat (opnd d T x)) with
  | true => match prun P (execOp (opnd d T) o) with
    | some (.value v) => match flat v with
      | true => .ok v H nx 0 0
      | false => .no
    | _ => .no
  | false => .no
noncomputable def evPure (P : Program) (d : Nat) (T : Tri Value) (H : Hp) (nx : Nat) (o : Oper) : Rs :=
  match handsOn o.op with
  | true => evRun P d T H nx o
  | false => evFlat P d T H nx o
/-- Integers, quickly. -/
def iadd : Int → Int → Int
  | .ofNat a, .ofNat b => .ofNat (Nat.add a b)
  | a, b => a + b
def isub : Int → Int → Int
  | .ofNat a, .ofNat b => match Nat.ble b a with
    | true => .ofNat (Nat.sub a b)
    | false => .negSucc (Nat.sub (Nat.sub b a) 1)
  | a, b => a - b
def ieq : Int → Int → Bool
  | .ofNat a, .ofNat b => Nat.beq a b
  | .negSucc a, .negSucc b => Nat.beq a b
  | _, _ => false
def ilt : Int → Int → Bool
  | .ofNat a, .ofNat b => Nat.blt a b
  | .negSucc a, .negSucc b => Nat.blt b a
  | .negSucc _, .ofNat _ => true
  | .ofNat _, .negSucc _ => false
def iwrap (k : IntKind) : Int → Int
  | .ofNat a => match k, Nat.blt a 9223372036854775808 with
    | .i64, true => .ofNat a
    | _, _ => k.wrap (.ofNat a)
  | n => k.wrap n
def evInt (op : BinOp) (k : IntKind) (a b : Int) : Option Value := match op with
  | .add => some (.int k (iwrap k (iadd a b)))
  | .sub => some (.int k (iwrap k (isub a b)))
  | .eql => some (.bool (ieq a b))
  | .neq => some (.bool (!ieq a b))
  | .lss => some (.bool (ilt a b))
  | .leq => some (.bool (!ilt b a))
  | .gtr => some (.bool (ilt b a))
  | .geq => some (.bool (!ilt a b))
  | _ => none
noncomputable def evNil (P : Program) (H : Hp) (nx : Nat) (op : BinOp) (t : TypeId) (x y : Value) : Rs :=
  match prun P (underlying t) with
  | some d => match nilShape d x y with
    | true => match op with
      | .eql => .ok (.bool false) H nx 0 0
      | .neq => .ok (.bool true) H nx 0 0
      | _ => .no
    | false => .no
  | none => .no
noncomputable def evBin2 (P : Program) (d : Nat) (T : Tri Value) (H : Hp) (nx : Nat) (o : Oper) (op : BinOp) (t : TypeId) (x y : Value) : Rs :=
  match flat x && flat y with
  | true => evFlat P d T H nx o
  | false => evNil P H nx op t x y
noncomputable def evBin (P : Program) (d : Nat) (T : Tri Value) (H : Hp) (nx : Nat) (o : Oper) (op : BinOp) (t : TypeId) (x y : Value) : Rs :=
  match x, y with
  | .int k a, .int k' b => match decide (k = k') with
    | true => match evInt op k a b with
      | some v => .ok v H nx 0 0
      | none => evFlat P d T H nx o
    | false => evFlat P d T H nx o
  | x, y => evBin2 P d T H nx o op t x y
/-- Where a field lies, and whether it has many cells, and how many. -/
def fieldInfo (t : TypeId) (i : Nat) : Sem (Nat × Bool × Nat) := do
  let .struct fields ← underlying t | stuck ""
  match fields[i]? with
  | some f => do
    let a ← isAgg f.type
    let n ← sizeOf f.type
    pure (f.offset, a, n)
  | none => stuck ""
noncomputable def evField (P : Program) (t : TypeId) (i : Nat) (x : Value) (H : Hp) (nx : Nat) : Rs :=
  match x with
  | .agg ⟨cs⟩ => match prun P (fieldInfo t i) with
    | some (off, false, _) => match lget cs off with
      | some v => .ok v H nx 0 0
      | none => .no
    | some (off, true, n) => match lsub cs off n with
      | some l => .ok (.agg ⟨l⟩) H nx 0 0
      | none => .no
    | none => .no
  | _ => .no
noncomputable def evExtract (x : Value) (i : Nat) (H : Hp) (nx : Nat) : Rs :=
  match x with
  | .tuple ⟨cs⟩ => match lget cs i with
    | some v => .ok v H nx 0 0
    | none => .no
  | _ => .no
noncomputable def evBuild (P : Program) (d : Nat) (T : Tri Value) (H : Hp) (nx : Nat) (o : Oper) (t : TypeId) : Rs :=
  match prun P (zeroValue t) with
  | some z => match z.cells.toList.all flat0 with
    | true => evRun P d T H nx o
    | false => .no
  | none => .no
def evNilCheck (x : Value) (H : Hp) (nx : Nat) : Rs := match x with
  | .pointer (some a) => .ok (.pointer (some a)) H nx 0 0
  | _ => .no
noncomputable def newRow' (H : Hp) (nx : Nat) (cs : List Value) (e : TypeId) (f : Addr → Value) : Rs :=
  match Nat.blt (Nat.add nx 1) (Nat.pow 2 dep) with
  | true => .ok (f ⟨nx, 0, none⟩) (H.set dep nx (some (.row cs e 1))) (Nat.add nx 2) (bit nx) (bit nx)
  | false => .no
noncomputable def evLoad2 (P : Program) (t : TypeId) (H : Hp) (nx n off : Nat) (cs : List Value) : Rs :=
  match prun P (isAgg t) with
  | some true => match prun P (sizeOf t) with
    | some sz => match lsub cs off sz with
      | some ds => .ok (.agg ⟨ds⟩) H nx (bit n) 0
      | none => .no
    | none => .no
  | some false => match lget cs off with
    | some v => .ok v H nx (bit n) 0
    | none => .no
  | none => .no
noncomputable def evLoad (P : Program) (t : TypeId) (x : Value) (H : Hp) (nx : Nat) : Rs :=
  match x with
  | .pointer (some ⟨n, off, none⟩) => match H.at n with
    | some (.row cs _ _) => evLoad2 P t H nx n off cs
    | some (.ro cs) => evLoad2 P t H nx n off cs
    | _ => .no
  | _ => .no
noncomputable def evStore2 (P : Program) (t : TypeId) (H : Hp) (nx n off : Nat) (cs : List Value) (e : TypeId) (es : Nat) (vs : List Value) : Rs :=
  match prun P (sizeOf t) with
  | some sz => match Nat.beq (llen vs) sz && vs.all (·.oneCell') with
    | true => match lput cs off vs with
      | some cs' => .ok undef (H.set dep n (some (.row cs' e es))) nx (bit n) (bit n)
      | none => .no
    | false => .no
  | none => .no
noncomputable def evStore (P : Program) (t : TypeId) (x y : Value) (H : Hp) (nx : Nat) : Rs :=
  match x with
  | .pointer (some ⟨n, off, none⟩) => match H.at n with
    | some (.row cs e es) => match y.cells with
      | ⟨vs⟩ => evStore2 P t H nx n off cs e es vs
    | _ => .no
  | _ => .no
noncomputable def evAlloc (P : Program) (t : TypeId) (H : Hp) (nx : Nat) : Rs :=
  match prun P (zeroValue t) with
  | some z => match z.cells with
    | ⟨cs⟩ => match cs.all flat0 with
      | true => newRow' H nx cs t fun a => .pointer (some a)
      | false => .no
  | none => .no
noncomputable def evBox (t : TypeId) (x : Value) (H : Hp) (nx : Nat) : Rs :=
  match x.cells with
  | ⟨cs⟩ => match cs.all (·.oneCell') with
    | true => newRow' H nx cs t fun a => .pointer (some a)
    | false => .no
noncomputable def evFieldAddr (P : Program) (s : TypeId) (i : Nat) (x : Value) (H : Hp) (nx : Nat) : Rs :=
  match x with
  | .pointer (some ⟨n, off, none⟩) => match prun P (underlying s) with
    | some (.struct fs) => match fs[i]? with
      | some f => match prun P (sizeOf f.type) with
        | some k => match Nat.blt 0 k with
          | true => .ok (.pointer (some ⟨n, Nat.add off f.offset, none⟩)) H nx 0 0
          | false => .no
        | none => .no
      | none => .no
    | _ => .no
  | _ => .no
noncomputable def evIndexAddr (P : Program) (t : TypeId) (x i : Value) (H : Hp) (nx : Nat) : Rs :=
  match i with
  | .int _ (.ofNat k) => match prun P (underlying t), x with
    | some (.slice e), .slice (some ⟨n, off, none⟩) len _ => match prun P (sizeOf e), Nat.blt k len with
      | some sz, true => .ok (.pointer (some ⟨n, Nat.add off (Nat.mul k sz), none⟩)) H nx 0 0
      | _, _ => .no
    | some (.array len e), .pointer (some ⟨n, off, none⟩) => match prun P (sizeOf e), Nat.blt k len with
      | some sz, true => .ok (.pointer (some ⟨n, Nat.add off (Nat.mul k sz), none⟩)) H nx 0 0
      | _, _ => .no
    | _, _ => .no
  | _ => .no
/-- c copies of a list. -/
def lrep (zs : List Value) : Nat → List Value
  | 0 => []
  | c + 1 => lfrc (lrep zs c) fun l => zs ++ l
noncomputable def evMake (P : Program) (t : TypeId) (l c : Value) (H : Hp) (nx : Nat) : Rs :=
  match prun P (underlying t), l, c with
  | some (.slice e), .int _ l, .int _ c => match prun P (typeInfo e), prun P (sizeOf e), prun P (zeroValue e) with
    | some i, some sz, some z => match z.cells with
      | ⟨zs⟩ => match decide (0 ≤ l ∧ l ≤ c ∧ c ≤ 1000000 ∧ i.bytes ≤ 100000) && Nat.beq (llen zs) sz && Nat.blt 0 sz && zs.all flat0 with
        | true => newRow' H nx (lrep zs c.toNat) e fun a => .slice (some a) l.toNat c.toNat
        | false => .no
    | _, _, _ => .no
  | _, _, _ => .no
noncomputable def evBuildSlice (P : Program) (t : TypeId) (len : Nat) (parts : List (Nat × Value)) (H : Hp) (nx : Nat) : Rs :=
  match prun P (underlying t) with
  | some (.slice e) => match prun P (sizeOf e), prun P (zeroValue e) with
    | some sz, some z => match z.cells with
      | ⟨zs⟩ => match Nat.ble (len * sz) 1000000 && Nat.beq (llen zs) sz && Nat.blt 0 sz && zs.all flat0 with
        | true => match Instr.fill (fun i => some (i * sz, sz)) ⟨lrep zs len⟩ parts with
          | some ⟨cs⟩ => newRow' H nx cs e fun a => .slice (some a) len len
          | none => .no
        | false => .no
    | _, _ => .no
  | _ => .no
def allFlat (l : Option Value) : Bool := match l with
  | some v => flat v
  | none => true
noncomputable def evSlice (P : Program) (t : TypeId) (x : Value) (lo hi mx : Option Value) (H : Hp) (nx : Nat) : Rs :=
  match prun P (underlying t), x with
  | some (.slice e), .slice (some ⟨n, off, none⟩) len cap => match allFlat lo && allFlat hi && allFlat mx with
    | true => match prun P (Instr.sliceBounds true len cap lo hi mx), prun P (sizeOf e) with
      | some (l, h, m), some sz => match Nat.beq (Nat.mod n 2) 0 with
        | true => .ok (.slice (some ⟨n, if m = l then off else off + l * sz, none⟩) (h - l) (m - l)) H nx 0 0
        | false => match H.at n with
          | some (.row cs _ es) => match Nat.beq es sz && Nat.blt l m && (mx.isNone || Nat.blt (off + m * es) (llen cs)) with
            | true => .ok (.slice (some ⟨n, off + l * sz, none⟩) (h - l) (m - l)) H nx (bit n) 0
            | false => .no
          | _ => .no
      | _, _ => .no
    | false => .no
  | some (.array n' e), .pointer (some ⟨n, off, none⟩) => match allFlat lo && allFlat hi && allFlat mx && Nat.beq (Nat.mod n 2) 0 with
    | true => match prun P (Instr.sliceBounds false n' n' lo hi mx), prun P (sizeOf e) with
      | some (l, h, m), some sz => .ok (.slice (some ⟨n, if m = l then off else off + l * sz, none⟩) (h - l) (m - l)) H nx 0 0
      | _, _ => .no
    | false => .no
  | _, _ => .no
def vlen : Value → Option Nat
  | .slice _ n _ => some n
  | .string s => some s.size
  | _ => none
/-- The cells of the first n elements of a slice or a string, and what is read for them. -/
noncomputable def appSrc (H : Hp) (sz n : Nat) : Value → Option (List Value × Nat)
  | .slice none _ _ => some ([], 0)
  | .slice (some ⟨m, off, none⟩) _ _ => match H.at m with
    | some (.row cs _ _) => match lsub cs off (n * sz) with
      | some l => some (l, bit m)
      | none => none
    | _ => none
  | .string s => some ((s.data.toList.take n).map fun b => .int .u8 b.toNat, 0)
  | _ => none
def notInt : TypeDesc → Bool
  | .slice _ => true
  | .string => true
  | _ => false
noncomputable def evAppend (P : Program) (H : Hp) (nx : Nat) (st xt : TypeId) (base : Option Addr) (len cap : Nat) (x : Value) : Rs :=
  match prun P (underlying st), prun P (underlying xt), vlen x with
  | some (.slice e), some d, some n => match prun P (sizeOf e), prun P (typeInfo e), prun P (zeroValue e) with
    | some sz, some i, some z => match z.cells with
      | ⟨zs⟩ => match notInt d && Nat.ble i.bytes 100000 && Nat.ble (len + n) 100000 && Nat.beq (llen zs) sz && Nat.blt 0 sz && zs.all flat0 && Nat.blt (nx + 1) (2 ^ dep) with
        | true => match appSrc H sz n x with
          | some (l, S) => match Nat.beq (llen l) (Nat.mul n sz) && l.all (·.oneCell') with
           | true => match base with
            | none => match Nat.ble (len + n) cap, Nat.beq cap 0 && Nat.beq len 0 with
              | true, true => .ok (.slice none (len + n) cap) H nx S 0
              | false, true => .ok (.slice (some ⟨nx + 1, 0, none⟩) (len + n) (len + n)) (H.set dep (nx + 1) (some (.row l e sz))) (nx + 2) (S ||| bit (nx + 1)) (bit (nx + 1))
              | _, _ => .no
            | some ⟨b, off, none⟩ => match H.at b with
              | some (.row cs e' es) => match Nat.ble (len + n) cap with
                | true => match lput cs (off + len * sz) l with
                  | some cs' => .ok (.slice (some ⟨b, off, none⟩) (len + n) cap) (H.set dep b (some (.row cs' e' es))) nx (S ||| bit b) (bit b)
                  | none => .no
                | false => match lsub cs off (len * sz) with
                  | some old => match Nat.beq (b % 2) 0 || !Nat.beq (off + cap * es) (llen cs) with
                    | true => match Nat.ble (Builtin.nextslicecap (len + n) cap) 1000000 with
                      | true => .ok (.slice (some ⟨nx + 1, 0, none⟩) (len + n) (len + n)) (H.set dep (nx + 1) (some (.row (lapp old l) e sz))) (nx + 2) (S ||| bit b ||| bit (nx + 1)) (bit (nx + 1))
                      | false => .no
                    | false => match Nat.beq es sz && Nat.beq e' e with
                      | true => .ok (.slice (some ⟨nx + 1, 0, none⟩) (len + n) (len + n)) ((H.set dep b none).set dep (nx + 1) (some (.row (lapp old l) e sz))) (nx + 2) (S ||| bit b ||| bit (nx + 1)) (bit b ||| bit (nx + 1))
                      | false => .no
                  | none => .no
              | _ => .no
            | _ => .no
           | false => .no
          | none => .no
        | false => .no
    | _, _, _ => .no
  | _, _, _ => .no
noncomputable def evCopy (P : Program) (H : Hp) (nx : Nat) (st : TypeId) (b off len : Nat) (x : Value) : Rs :=
  match prun P (underlying st) with
  | some (.slice e) => match prun P (sizeOf e) with
    | some sz => match vlen x with
      | some n => match appSrc H sz (min n len) x, H.at b with
        | some (l, S), some (.row cs e' es) => match lput cs off l with
          | some cs' => match l.all (·.oneCell') with
            | true => .ok (goInt (min n len : Nat)) (H.set dep b (some (.row cs' e' es))) nx (S ||| bit b) (bit b)
            | false => .no
          | none => .no
        | _, _ => .no
      | none => .no
    | none => .no
  | _ => .no
/-- The bytes of some cells. -/
def bytesOf : List Value → Option (List UInt8)
  | [] => some []
  | .int .u8 n :: l => match bytesOf l with
    | some r => some (UInt8.ofNat n.toNat :: r)
    | none => none
  | _ :: _ => none
noncomputable def evConv (P : Program) (d : Nat) (T : Tri Value) (H : Hp) (nx : Nat) (o : Oper) (s t : TypeId) (x : Value) : Rs :=
  match prun P (underlying s), prun P (underlying t), x with
  | some (.slice e), some .string, .slice (some ⟨n, off, none⟩) len _ => match prun P (underlying e), H.at n with
    | some (.int .u8), some (.row cs _ _) => match lsub cs off len with
      | some l => match bytesOf l with
        | some r => .ok (.string ⟨⟨r⟩⟩) H nx (bit n) 0
        | none => .no
      | none => .no
    | _, _ => .no
  | some .string, some (.slice e), .string b => match prun P (underlying e) with
    | some (.int .u8) => match Nat.blt (Nat.add nx 1) (Nat.pow 2 dep) && Nat.ble b.size 1000000 with
      | true => .ok (.slice (some ⟨Nat.add nx 1, 0, none⟩) b.size b.size) (H.set dep (Nat.add nx 1) (some (.row (b.data.toList.map fun x => .int .u8 x.toNat) e 1))) (Nat.add nx 2) (bit (Nat.add nx 1)) (bit (Nat.add nx 1))
      | false => .no
    | _ => .no
  | _, _, _ => evFlat P d T H nx o
/-- Is the receiver of a method the value itself? -/
noncomputable def plainRecv (P : Program) (t : TypeId) (m : Method) : Bool := match m.func with
  | some (_, true) => true
  | some (_, false) => match prun P (underlying t) with
    | some (.pointer _) => false
    | some _ => true
    | none => false
  | none => false
noncomputable def evInvoke (P : Program) (call : FuncId → List Value → Hp → Nat → Rs) (H : Hp) (nx : Nat) (recv : Value) (name : String) (args : List Value) : Rs :=
  match recv with
  | .iface t v => match prun P (typeInfo t), prun P (method (P.types.size + Made.depth) t v name) with
    | some i, some (f, _) => match i.methods.find? (·.name == name) with
      | some m => match m.path.toList, plainRecv P t m with
        | [], true => call f (v :: args) H nx
        | _, _ => .no
      | none => .no
    | _, _ => .no
  | _ => .no
noncomputable def evBuiltin (P : Program) (d : Nat) (T : Tri Value) (H : Hp) (nx : Nat) (o : Oper) (b : Builtin) (ts : List TypeId) (args : List Value) : Rs :=
  match b, ts, args with
  | .append, [st, xt], [.slice base len cap, x] => evAppend P H nx st xt base len cap x
  | .copy, [st, _], [.slice (some ⟨b, off, none⟩) len _, x] => evCopy P H nx st b off len x
  | .append, _, _ => .no
  | .copy, _, _ => .no
  | _, _, _ => evPure P d T H nx o
noncomputable def evCallOp (P : Program) (call : FuncId → List Value → Hp → Nat → Rs) (d : Nat) (T : Tri Value) (H : Hp) (nx : Nat) (o : Oper) (c : Call) : Rs :=
  match c.callee with
  | .value f => match opnd d T f with
    | .func (.func f) ⟨first⟩ ⟨cap⟩ => call f (first ++ (c.args.toList.map (opnd d T) ++ cap)) H nx
    | _ => .no
  | .invoke recv name => evInvoke P call H nx (opnd d T recv) name (c.args.toList.map (opnd d T))
  | .builtin b => evBuiltin P d T H nx o b c.argTypes.toList (c.args.toList.map (opnd d T))
noncomputable def evOp (P : Program) (call : FuncId → List Value → Hp → Nat → Rs) (d : Nat) (T : Tri Value) (H : Hp) (nx : Nat) (o : Oper) : Rs :=
  match o.op with
  | .move x => .ok (opnd d T x) H nx 0 0
  | .assign x => .ok (opnd d T x) H nx 0 0
  | .load t x => evLoad P t (opnd d T x) H nx
  | .store t x y => evStore P t (opnd d T x) (opnd d T y) H nx
  | .alloc t => evAlloc P t H nx
  | .box t x => evBox t (opnd d T x) H nx
  | .fieldAddr s x i => evFieldAddr P s i (opnd d T x) H nx
  | .indexAddr t x i => evIndexAddr P t (opnd d T x) (opnd d T i) H nx
  | .field t x i => evField P t i (opnd d T x) H nx
  | .extract x i => evExtract (opnd d T x) i H nx
  | .build t _ => evBuild P d T H nx o t
  | .makeSlice t l c => evMake P t (opnd d T l) (opnd d T c) H nx
  | .buildSlice t len parts => evBuildSlice P t len (parts.toList.map fun p => (p.1, opnd d T p.2)) H nx
  | .slice t x lo hi mx => match opnd d T x with
    | .string _ => evFlat P d T H nx o
    | .slice none _ _ => evFlat P d T H nx o
    | v => evSlice P t v (lo.map (opnd d T)) (hi.map (opnd d T)) (mx.map (opnd d T)) H nx
  | .binOp op t x y _ => evBin P d T H nx o op t (opnd d T x) (opnd d T y)
  | .nilCheck x => evNilCheck (opnd d T x) H nx
  | .convert s t x => evConv P d T H nx o s t (opnd d T x)
  | .call c => evCallOp P call d T H nx o c
  | _ => evPure P d T H nx o

/-! ### Regions -/
noncomputable def yieldedT (d : Nat) (ops : Array Oper) (T : Tri Value) (j : Nat) : Option Bool :=
  match (ops[j]?).bind (·.dst) with
  | some t => match tget d T t with
    | .bool b => some b
    | _ => none
  | none => none
noncomputable def put (d : Nat) (T : Tri Value) (x : Option Nat) (v : Value) : Tri Value := match x with
  | some x => T.set d x v
  | none => T
inductive Os where
  | ok (T : Tri Value) (H : Hp) (nx S W : Nat) (log : List (Nat × Nat))
  | no
abbrev OpsK := Tri Value → Hp → Nat → Nat → Nat → List (Nat × Nat) → Os
noncomputable def evOpsV (k : OpsK) (d : Nat) (T : Tri Value) (x : Option Nat) (v : Value) (H : Hp) (nx S W S' W' : Nat) (log : List (Nat × Nat)) : Os :=
  vfrc v fun v => (put d T x v).frc fun T => H.frc fun H => nfrc nx fun nx => nfrc (Nat.lor S S') fun S2 => nfrc (Nat.lor W W') fun W2 => k T H nx S2 W2 ((S', W') :: log)
noncomputable def evOps1 (P : Program) (call : FuncId → List Value → Hp → Nat → Rs) (d : Nat) (ops : Array Oper) (o : Oper) (k : OpsK) (T : Tri Value) (H : Hp) (nx S W : Nat) (log : List (Nat × Nat)) : Os :=
  match Region.wanted o (yieldedT d ops T) with
  | false => (put d T o.dst undef).frc fun T => k T H nx S W ((0, 0) :: log)
  | true => match evOp P call d T H nx o with
    | .no => .no
    | .ok v H nx S' W' => evOpsV k d T o.dst v H nx S W S' W' log
noncomputable def evOps (P : Program) (call : FuncId → List Value → Hp → Nat → Rs) (d : Nat) (ops : Array Oper) (l : List Oper) : OpsK :=
  List.rec (motive := fun _ => OpsK) (fun T H nx S W log => .ok T H nx S W log) (fun o _ r => evOps1 P call d ops o r) l

/-! ### Code -/
inductive Ex where
  | nrm | exit (id : Nat) | ret
inductive Cs where
  | ok (x : Ex) (T : Tri Value) (H : Hp) (nx S W : Nat)
  | no
/-! ### Whatever order is drawn: operations that are not ordered share no memory that one of them writes -/
def ancS (acc : List Nat) (j : Nat) (s : Nat) (e : Edge) : Nat := match Region.binds .any e with
  | true => s ||| bit e.on ||| (acc[j - 1 - e.on]?).getD 0
  | false => s
def anc1 (acc : List Nat) (j : Nat) (o : Oper) : Nat := o.after.toList.foldl (ancS acc j) 0
def ancs : List Oper → Nat → List Nat → List Nat
  | [], _, acc => acc
  | o :: rest, j, acc => nfrc (anc1 acc j o) fun m => ancs rest (j + 1) (m :: acc)
def touch : List Nat → List (Nat × Nat) → Nat → List (Nat × Nat × Nat × Nat)
  | m :: ms, (S, W) :: l, k + 1 => match Nat.beq (S ||| W) 0 with
    | true => touch ms l k
    | false => (k, m, S ||| W, W) :: touch ms l k
  | _, _, _ => []
def apartB : List (Nat × Nat × Nat × Nat) → Bool
  | [] => true
  | (_, m, U, W) :: rest => (rest.all fun (i, _, U', W') => Nat.beq ((W &&& U') ||| (W' &&& U)) 0 || m.testBit i) && apartB rest
def orderOk (ops : Array Oper) (W : Nat) (log : List (Nat × Nat)) : Bool := Nat.beq W 0 || apartB (touch (ancs ops.toList 0 []) log ops.size)
noncomputable def evResults (P : Program) (d : Nat) (H : Hp) (T : Tri Value) : List ResultVar → Option (List Value × Nat)
  | [] => some ([], 0)
  | .tmp t :: rest => match evResults P d H T rest with
    | some (l, S) => some (tget d T t :: l, S)
    | none => none
  | .cell a t :: rest => match evResults P d H T rest, tget d T a with
    | some (l, S), .pointer (some ⟨n, off, none⟩) => match H.at n, prun P (isAgg t), prun P (sizeOf t) with
      | some (.row cs _ _), some true, some sz => match lsub cs off sz with
        | some ds => some (.agg ⟨ds⟩ :: l, S ||| bit n)
        | none => none
      | some (.row cs _ _), some false, _ => match lget cs off with
        | some v => some (v :: l, S ||| bit n)
        | none => none
      | _, _, _ => none
    | _, _ => none
noncomputable def ofArgs (d : Nat) : List Value → Nat → Tri Value → Tri Value
  | [], _, T => T
  | v :: l, k, T => vfrc v fun v => (T.set d k v).frc fun T => ofArgs d l (k + 1) T
def one : List Value → Value
  | [v] => v
  | l => .tuple ⟨l⟩
def Ex.ends : Ex → Bool
  | .exit _ => false
  | _ => true
def depOf (n : Nat) : Nat := Nat.add (Nat.log2 n) 1
noncomputable def callWith (P : Program) (F : FuncId → Option Func) (run : Nat → Code → Tri Value → Hp → Nat → Cs) (f : FuncId) (args : List Value) (H : Hp) (nx : Nat) : Rs :=
  match F f with
  | some fn => match fn.body with
    | some b => match Nat.ble (llen args) fn.ntmps with
      | true => match run (depOf fn.ntmps) b (ofArgs (depOf fn.ntmps) args 0 .e) H nx with
        | .ok x T H nx S W => match x.ends with
          | true => match evResults P (depOf fn.ntmps) H T fn.results.toList with
            | some (l, S') => nfrc (Nat.lor S S') fun S2 => .ok (one l) H nx S2 W
            | none => .no
          | false => .no
        | .no => .no
      | false => .no
    | none => .no
  | none => .no
abbrev CodeK := Nat → Code → Tri Value → Hp → Nat → Cs
noncomputable def evMore (S W : Nat) (r : Cs) : Cs := match r with
  | .ok x T H nx S' W' => nfrc (Nat.lor S S') fun S2 => nfrc (Nat.lor W W') fun W2 => .ok x T H nx S2 W2
  | .no => .no
noncomputable def evThen (self : CodeK) (d : Nat) (b : Code) (r : Cs) : Cs := match r with
  | .ok .nrm T H nx S W => evMore S W (self d b T H nx)
  | r => r
noncomputable def evIf (self : CodeK) (d : Nat) (c : Value) (a b : Code) (T : Tri Value) (H : Hp) (nx : Nat) : Cs := match c with
  | .bool true => self d a T H nx
  | .bool false => self d b T H nx
  | _ => .no
def evBlk (id : Nat) (r : Cs) : Cs := match r with
  | .ok (.exit id') T H nx S W => match Nat.beq id' id with
    | true => .ok .nrm T H nx S W
    | false => .ok (.exit id') T H nx S W
  | r => r
def evReg (ops : Array Oper) (draw : Bool) (r : Os) : Cs := match r with
  | .ok T H nx S W log => match !draw || orderOk ops W log with
    | true => .ok .nrm T H nx S W
    | false => .no
  | .no => .no
abbrev Iters := FuncId → List Value → Hp → Option (List (List Value) × Nat)
noncomputable def putAll (d : Nat) : List Nat → List Value → Tri Value → Tri Value
  | p :: ps, v :: vs, T => vfrc v fun v => (T.set d p v).frc fun T => putAll d ps vs T
  | _, _, T => T
/-- The rounds of a loop over a function that hands over these. -/
noncomputable def evRounds (self : CodeK) (d : Nat) (ps : List Nat) (asg body : Code) (T : Tri Value) (Sx : Nat) : List (List Value) → Hp → Nat → Cs
  | [], H, nx => .ok .nrm T H nx 0 0
  | x :: rest, H, nx => match Nat.beq (llen x) ps.length with
    | true => match self d asg (putAll d ps x T) H nx with
      | .ok .nrm T1 H1 nx1 S1 W1 => match self d body T1 H1 nx1 with
        | .ok e _ H2 nx2 S2 W2 => match Nat.beq (Nat.land (Nat.lor W1 W2) Sx) 0 with
          | true => match e with
            | .nrm => evMore (Nat.lor S1 S2) (Nat.lor W1 W2) (evRounds self d ps asg body T Sx rest H2 nx2)
            | e => .ok e T H2 nx2 (Nat.lor S1 S2) (Nat.lor W1 W2)
          | false => .no
        | .no => .no
      | _ => .no
    | false => .no
noncomputable def evRange (F : FuncId → Option Func) (It : Iters) (self : CodeK) (d : Nat) (g : Value) (ps : List Nat) (asg body : Code) (T : Tri Value) (H : Hp) (nx : Nat) : Cs :=
  match g with
  | .func (.func gf) ⟨[]⟩ ⟨cap⟩ => match F gf with
    | some fn => match fn.body with
      | some _ => match It gf cap H with
        | some (els, Sx) => evMore Sx 0 (evRounds self d ps asg body T Sx els H nx)
        | none => .no
      | none => .no
    | none => .no
  | _ => .no
noncomputable def evCode1 (P : Program) (F : FuncId → Option Func) (It : Iters) (self : CodeK) (d : Nat) (c : Code) (T : Tri Value) (H : Hp) (nx : Nat) : Cs :=
  match c with
  | .skip | .label _ => .ok .nrm T H nx 0 0
  | .ret => .ok .ret T H nx 0 0
  | .exit id => .ok (.exit id) T H nx 0 0
  | .seq a b => evThen self d b (self d a T H nx)
  | .cond c a b => evIf self d (opnd d T c) a b T H nx
  | .block id b => evBlk id (self d b T H nx)
  | .loop b => evThen self d (.loop b) (self d b T H nx)
  | .region _ ops draw => evReg ops draw (evOps P (callWith P F self) d ops ops.toList T H nx 0 0 [])
  | .rangeFunc g ps asg body => evRange F It self d (opnd d T g) ps.toList asg body T H nx
  | _ => .no
noncomputable def evCode (P : Program) (F : FuncId → Option Func) (It : Iters) (n : Nat) : CodeK :=
  Nat.rec (motive := fun _ => CodeK) (fun _ _ _ _ _ => .no) (fun _ r => evCode1 P F It r) n
/-- A call without arguments that hands back one value: the value, and what it has written. -/
noncomputable def evCall0 (P : Program) (F : FuncId → Option Func) (It : Iters) (fuel : Nat) (f : FuncId) (H : Hp) (nx : Nat) : Option (Value × Nat) :=
  match callWith P F (evCode P F It fuel) f [] H nx with
  | .ok v _ _ _ W => some (v, W)
  | .no => none
end Go.Proofs.YtlegcfjafdihlaaGreatDoor.Ev
