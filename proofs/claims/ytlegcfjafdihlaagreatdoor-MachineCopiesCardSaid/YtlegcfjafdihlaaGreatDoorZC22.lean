import Derived.Orders
import Derived.Below
/-
  An evaluator of calls at concrete arguments, to be run by the kernel: definitions.
-/
namespace Go.Proofs.YtlegcfjafdihlaaGreatDoor.Ev
open Go.RowKit

/-! ### Maps by number, forced -/
inductive Tri (α : Type) where
  | e : Tri α
  | l (a : α) : Tri α
  | n (x y : Tri α) : Tri α
def Tri.frc {α β : Type} (t : Tri α) (f : Tri α → β) : β :=
  match t with
  | .e => f .e
  | .l a => f (.l a)
  | .n x y => f (.n x y)
noncomputable def Tri.get {α : Type} (d : Nat) : Tri α → Nat → Option α :=
  Nat.rec (motive := fun _ => Tri α → Nat → Option α) (fun t _ => Tri.casesOn t none some (fun _ _ => none))
    (fun _ g t k => Tri.casesOn t none (fun _ => none) (fun x y => Bool.rec (g y (Nat.div k 2)) (g x (Nat.div k 2)) (Nat.beq (Nat.mod k 2) 0))) d
noncomputable def Tri.set {α : Type} (d : Nat) : Tri α → Nat → α → Tri α :=
  Nat.rec (motive := fun _ => Tri α → Nat → α → Tri α) (fun _ _ a => .l a)
    (fun _ g t k a => Tri.casesOn t
      (Bool.rec (Tri.frc (g .e (Nat.div k 2) a) fun y' => .n .e y') (Tri.frc (g .e (Nat.div k 2) a) fun x' => .n x' .e) (Nat.beq (Nat.mod k 2) 0))
      (fun _ => Bool.rec (Tri.frc (g .e (Nat.div k 2) a) fun y' => .n .e y') (Tri.frc (g .e (Nat.div k 2) a) fun x' => .n x' .e) (Nat.beq (Nat.mod k 2) 0))
      (fun x y => Bool.rec (Tri.frc (g y (Nat.div k 2) a) fun y' => .n x y') (Tri.frc (g x (Nat.div k 2) a) fun x' => .n x' y) (Nat.beq (Nat.mod k 2) 0))) d

/-! ### Forced values and lists -/
def nfrc {β : Type} (n : Nat) (f : Nat → β) : β := match Nat.beq n n with
  | true => f n
  | false => f n
def ifrc {β : Type} (n : Int) (f : Int → β) : β := match n with
  | .ofNat m => nfrc m fun m => f (.ofNat m)
  | .negSucc m => nfrc m fun m => f (.negSucc m)
def lfrc {α β : Type} (l : List α) (f : List α → β) : β := match l with
  | [] => f []
  | a :: t => f (a :: t)
def vfrc {β : Type} (v : Value) (f : Value → β) : β := match v with
  | .bool true => f (.bool true)
  | .bool false => f (.bool false)
  | .int k n => ifrc n fun n => f (.int k n)
  | .float k n => f (.float k n)
  | .complex k a b => f (.complex k a b)
  | .string s => match s with | ⟨⟨l⟩⟩ => f (.string ⟨⟨l⟩⟩)
  | .pointer none => f (.pointer none)
  | .pointer (some ⟨n, o, s⟩) => nfrc n fun n => nfrc o fun o => f (.pointer (some ⟨n, o, s⟩))
  | .slice none l c => f (.slice none l c)
  | .slice (some ⟨n, o, s⟩) l c => nfrc n fun n => nfrc o fun o => nfrc l fun l => nfrc c fun c => f (.slice (some ⟨n, o, s⟩) l c)
  | .map r => f (.map r)
  | .chan r => f (.chan r)
  | .func fn a b => f (.func fn a b)
  | .nilFunc => f .nilFunc
  | .iface t v => f (.iface t v)
  | .nilIface => f .nilIface
  | .agg ⟨l⟩ => lfrc l fun l => f (.agg ⟨l⟩)
  | .tuple ⟨l⟩ => lfrc l fun l => f (.tuple ⟨l⟩)
noncomputable def llen (l : List Value) : Nat := List.rec 0 (fun _ _ r => Nat.succ r) l
noncomputable def lapp (a b : List Value) : List Value := List.rec b (fun x _ r => lfrc r fun t => x :: t) a
noncomputable def ldrop (l : List Value) : Nat → List Value :=
  List.rec (motive := fun _ => Nat → List Value) (fun _ => []) (fun x t r o => Nat.casesOn o (x :: t) r) l
noncomputable def ltake (l : List Value) : Nat → List Value :=
  List.rec (motive := fun _ => Nat → List Value) (fun _ => []) (fun x _ r n => Nat.casesOn n [] fun n => lfrc (r n) fun t => x :: t) l
/-- n cells from o on; none if there are fewer. -/
noncomputable def lsub (l : List Value) (o n : Nat) : Option (List Value) := match Nat.ble (Nat.add o n) (llen l) with
  | true => some (ltake (ldrop l o) n)
  | false => none
/-- cs with vs in the place of its first cells. -/
noncomputable def lover (vs : List Value) : List Value → List Value :=
  List.rec (motive := fun _ => List Value → List Value) (fun cs => cs) (fun v _ r cs => List.casesOn cs [] fun _ t => lfrc (r t) fun t => v :: t) vs
noncomputable def lputs (vs cs : List Value) : Nat → List Value :=
  List.rec (motive := fun _ => Nat → List Value) (fun _ => []) (fun x t r o => Nat.casesOn o (lover vs (x :: t)) fun o => lfrc (r o) fun t => x :: t) cs
/-- cs with vs in the place of its cells from o on; none if they do not fit. -/
noncomputable def lput (cs : List Value) (o : Nat) (vs : List Value) : Option (List Value) := match Nat.ble (Nat.add o (llen vs)) (llen cs) with
  | true => some (lputs vs cs o)
  | false => none
noncomputable def lget (l : List Value) : Nat → Option Value :=
  List.rec (motive := fun _ => Nat → Option Value) (fun _ => none) (fun x _ r n => Nat.casesOn n (some x) r) l

/-! ### Plain computations of the model -/
def prun (P : Program) {α : Type} : Sem α → Option α
  | .pure a => some a
  | .program k => prun P (k P)
  | .mark _ k => prun P k
  | _ => none

/-! ### Abstract memory -/
inductive AB where
  | row (cs : List Value) (e : TypeId) (es : Nat)
  | ro (cs : List Value)
def AB.isRo : AB → Bool
  | .ro _ => true
  | _ => false
abbrev Hp := Tri (Option AB)
def dep : Nat := 13
noncomputable def Tri.at (H : Hp) (n : Nat) : Option AB := match Nat.blt n (Nat.pow 2 dep) with
  | true => match Tri.get dep H n with
    | some b => b
    | none => none
  | false => none

/-- Has a value no address in it? -/
def flat0 : Value → Bool
  | .bool _ | .int _ _ | .float _ _ | .complex _ _ _ | .string _ | .pointer none | .slice none _ _ | .map none | .chan none | .nilFunc | .nilIface => true
  | .func (.func _) ⟨[]⟩ ⟨[]⟩ => true
  | _ => false
def flat1 : Value → Bool
  | .agg ⟨l⟩ => l.all flat0
  | v => flat0 v
def flat : Value → Bool
  | .agg ⟨l⟩ => l.all flat0
  | .tuple ⟨l⟩ => l.all flat1
  | .iface _ v => flat1 v
  | v => flat0 v

/-! ### One operation -/
inductive Rs where
  | ok (v : Value) (H : Hp) (nx S W : Nat)
  | no
def bit (n : Nat) : Nat := Nat.pow 2 n
noncomputable def tget (d : Nat) (T : Tri Value) (t : Nat) : Value := match Tri.get d T t with
  | some v => v
  | none => undef
noncomputable def opnd (d : Nat) (T : Tri Value) : Operand → Value
  | .tmp t => tget d T t
  | .const v => v
  | .global g => .pointer (some ⟨g, 0, none⟩)
  | .func f => .func (.func f) #[] #[]
/-- Operations that hand values on without a look into addresses. -/
def handsOn : Op → Bool
  | .move _ | .assign _ | .pick .. | .extract .. | .field .. | .index .. | .makeFunc .. | .makeInterface .. => true
  | .call { callee := .builtin .len, .. } => true
  | _ => false
/-- A comparison of what is not nil with nil. -/
def nilShape : TypeDesc → Value → Value → Bool
  | .pointer _, .pointer (some _), .pointer none | .pointer _, .pointer none, .pointer (some _) => true
  | .slice _, .slice (some _) _ _, .slice none _ _ | .slice _, .slice none _ _, .slice (some _) _ _ => true
  | .func _ _ _, .func _ _ _, .nilFunc | .func _ _ _, .nilFunc, .func _ _ _ => true
  | .interface _, .iface _ _, .nilIface | .interface _, .nilIface, .iface _ _ => true
  | _, _, _ => false
noncomputable def evRun (P : Program) (d : Nat) (T : Tri Value) (H : Hp) (nx : Nat) (o : Oper) : Rs := match prun P (execOp (opnd d T) o) with
  | some (.value v) => .ok v H nx 0 0
  | _ => .no
/-- An operation on values without addresses. -/
noncomputable def evFlat (P : Program) (d : Nat) (T : Tri Value) (H : Hp) (nx : Nat) (o : Oper) : Rs :=
  match o.op.operands.toList.all (fun x => flat (opnd d T x)) with
  | true => match prun P (execOp (opnd d T) o) with
    | some (.value v) => match flat v with
      | true => .ok v H nx 0 0
      | false => .no
    | _ => .no
  | false => .no
noncomputable def evPure (P : Program) (d : Nat) (T : Tri Value) (H : Hp) (nx : Nat) (o : Oper) : Rs :=
  match handsOn o.op with
  | true => evRun P d T H nx o
  | false => evFlat P d T H nx o
/-- Integers, quickly. -/
def iadd : Int → Int → Int
  | .ofNat a, .ofNat b => .ofNat (Nat.add a b)
  | a, b => a + b
def isub : Int → Int → Int
  | .ofNat a, .ofNat b => match Nat.ble b a with
    | true => .ofNat (Nat.sub a b)
    | false => .negSucc (Nat.sub (Nat.sub b a) 1)
  | a, b => a - b
def ieq : Int → Int → Bool
  | .ofNat a, .ofNat b => Nat.beq a b
  | .negSucc a, .negSucc b => Nat.beq a b
  | _, _ => false
def ilt : Int → Int → Bool
  | .ofNat a, .ofNat b => Nat.blt a b
  | .negSucc a, .negSucc b => Nat.blt b a
  | .negSucc _, .ofNat _ => true
  | .ofNat _, .negSucc _ => false
def iwrap (k : IntKind) : Int → Int
  | .ofNat a => match k, Nat.blt a 9223372036854775808 with
    | .i64, true => .ofNat a
    | _, _ => k.wrap (.ofNat a)
  | n => k.wrap n
def evInt (op : BinOp) (k : IntKind) (a b : Int) : Option Value := match op with
  | .add => some (.int k (iwrap k (iadd a b)))
  | .sub => some (.int k (iwrap k (isub a b)))
  | .eql => some (.bool (ieq a b))
  | .neq => some (.bool (!ieq a b))
  | .lss => some (.bool (ilt a b))
  | .leq => some (.bool (!ilt b a))
  | .gtr => some (.bool (ilt b a))
  | .geq => some (.bool (!ilt a b))
  | _ => none
noncomputable def evNil (P : Program) (H : Hp) (nx : Nat) (op : BinOp) (t : TypeId) (x y : Value) : Rs :=
  match prun P (underlying t) with
  | some d => match nilShape d x y with
    | true => match op with
      | .eql => .ok (.bool false) H nx 0 0
      | .neq => .ok (.bool true) H nx 0 0
      | _ => .no
    | false => .no
  | none => .no
noncomputable def evBin2 (P : Program) (d : Nat) (T : Tri Value) (H : Hp) (nx : Nat) (o : Oper) (op : BinOp) (t : TypeId) (x y : Value) : Rs :=
  match flat x && flat y with
  | true => evFlat P d T H nx o
  | false => evNil P H nx op t x y
noncomputable def evBin (P : Program) (d : Nat) (T : Tri Value) (H : Hp) (nx : Nat) (o : Oper) (op : BinOp) (t : TypeId) (x y : Value) : Rs :=
  match x, y with
  | .int k a, .int k' b => match decide (k = k') with
    | true => match evInt op k a b with
      | some v => .ok v H nx 0 0
      | none => evFlat P d T H nx o
    | false => evFlat P d T H nx o
  | x, y => evBin2 P d T H nx o op t x y
/-- Where a field lies, and whether it has many cells, and how many. -/
def fieldInfo (t : TypeId) (i : Nat) : Sem (Nat × Bool × Nat) := do
  let .struct fields ← underlying t | stuck ""
  match fields[i]? with
  | some f => do
    let a ← isAgg f.type
    let n ← sizeOf f.type
    pure (f.offset, a, n)
  | none => stuck ""
noncomputable def evField (P : Program) (t : TypeId) (i : Nat) (x : Value) (H : Hp) (nx : Nat) : Rs :=
  match x with
  | .agg ⟨cs⟩ => match prun P (fieldInfo t i) with
    | some (off, false, _) => match lget cs off with
      | some v => .ok v H nx 0 0
      | none => .no
    | some (off, true, n) => match lsub cs off n with
      | some l => .ok (.agg ⟨l⟩) H nx 0 0
      | none => .no
    | none => .no
  | _ => .no
noncomputable def evExtract (x : Value) (i : Nat) (H : Hp) (nx : Nat) : Rs :=
  match x with
  | .tuple ⟨cs⟩ => match lget cs i with
    | some v => .ok v H nx 0 0
    | none => .no
  | _ => .no
noncomputable def evBuild (P : Program) (d : Nat) (T : Tri Value) (H : Hp) (nx : Nat) (o : Oper) (t : TypeId) : Rs :=
  match prun P (zeroValue t) with
  | some z => match z.cells.toList.all flat0 with
    | true => evRun P d T H nx o
    | false => .no
  | none => .no
def evNilCheck (x : Value) (H : Hp) (nx : Nat) : Rs := match x with
  | .pointer (some a) => .ok (.pointer (some a)) H nx 0 0
  | _ => .no
noncomputable def newRow' (H : Hp) (nx : Nat) (cs : List Value) (e : TypeId) (f : Addr → Value) : Rs :=
  match Nat.blt (Nat.add nx 1) (Nat.pow 2 dep) with
  | true => .ok (f ⟨nx, 0, none⟩) (H.set dep nx (some (.row cs e 1))) (Nat.add nx 2) (bit nx) (bit nx)
  | false => .no
noncomputable def evLoad2 (P : Program) (t : TypeId) (H : Hp) (nx n off : Nat) (cs : List Value) : Rs :=
  match prun P (isAgg t) with
  | some true => match prun P (sizeOf t) with
    | some sz => match lsub cs off sz with
      | some ds => .ok (.agg ⟨ds⟩) H nx (bit n) 0
      | none => .no
    | none => .no
  | some false => match lget cs off with
    | some v => .ok v H nx (bit n) 0
    | none => .no
  | none => .no
noncomputable def evLoad (P : Program) (t : TypeId) (x : Value) (H : Hp) (nx : Nat) : Rs :=
  match x with
  | .pointer (some ⟨n, off, none⟩) => match H.at n with
    | some (.row cs _ _) => evLoad2 P t H nx n off cs
    | some (.ro cs) => evLoad2 P t H nx n off cs
    | _ => .no
  | _ => .no
noncomputable def evStore2 (P : Program) (t : TypeId) (H : Hp) (nx n off : Nat) (cs : List Value) (e : TypeId) (es : Nat) (vs : List Value) : Rs :=
  match prun P (sizeOf t) with
  | some sz => match Nat.beq (llen vs) sz && vs.all (·.oneCell') with
    | true => match lput cs off vs with
      | some cs' => .ok undef (H.set dep n (some (.row cs' e es))) nx (bit n) (bit n)
      | none => .no
    | false => .no
  | none => .no
noncomputable def evStore (P : Program) (t : TypeId) (x y : Value) (H : Hp) (nx : Nat) : Rs :=
  match x with
  | .pointer (some ⟨n, off, none⟩) => match H.at n with
    | some (.row cs e es) => match y.cells with
      | ⟨vs⟩ => evStore2 P t H nx n off cs e es vs
    | _ => .no
  | _ => .no
noncomputable def evAlloc (P : Program) (t : TypeId) (H : Hp) (nx : Nat) : Rs :=
  match prun P (zeroValue t) with
  | some z => match z.cells with
    | ⟨cs⟩ => match cs.all flat0 with
      | true => newRow' H nx cs t fun a => .pointer (some a)
      | false => .no
  | none => .no
noncomputable def evBox (t : TypeId) (x : Value) (H : Hp) (nx : Nat) : Rs :=
  match x.cells with
  | ⟨cs⟩ => match cs.all (·.oneCell') with
    | true => newRow' H nx cs t fun a => .pointer (some a)
    | false => .no
noncomputable def evFieldAddr (P : Program) (s : TypeId) (i : Nat) (x : Value) (H : Hp) (nx : Nat) : Rs :=
  match x with
  | .pointer (some ⟨n, off, none⟩) => match prun P (underlying s) with
    | some (.struct fs) => match fs[i]? with
      | some f => match prun P (sizeOf f.type) with
        | some k => match Nat.blt 0 k with
          | true => .ok (.pointer (some ⟨n, Nat.add off f.offset, none⟩)) H nx 0 0
          | false => .no
        | none => .no
      | none => .no
    | _ => .no
  | _ => .no
noncomputable def evIndexAddr (P : Program) (t : TypeId) (x i : Value) (H : Hp) (nx : Nat) : Rs :=
  match i with
  | .int _ (.ofNat k) => match prun P (underlying t), x with
    | some (.slice e), .slice (some ⟨n, off, none⟩) len _ => match prun P (sizeOf e), Nat.blt k len with
      | some sz, true => .ok (.pointer (some ⟨n, Nat.add off (Nat.mul k sz), none⟩)) H nx 0 0
      | _, _ => .no
    | some (.array len e), .pointer (some ⟨n, off, none⟩) => match prun P (sizeOf e), Nat.blt k len with
      | some sz, true => .ok (.pointer (some ⟨n, Nat.add off (Nat.mul k sz), none⟩)) H nx 0 0
      | _, _ => .no
    | _, _ => .no
  | _ => .no
/-- c copies of a list. -/
def lrep (zs : List Value) : Nat → List Value
  | 0 => []
  | c + 1 => lfrc (lrep zs c) fun l => zs ++ l
noncomputable def evMake (P : Program) (t : TypeId) (l c : Value) (H : Hp) (nx : Nat) : Rs :=
  match prun P (underlying t), l, c with
  | some (.slice e), .int _ l, .int _ c => match prun P (typeInfo e), prun P (sizeOf e), prun P (zeroValue e) with
    | some i, some sz, some z => match z.cells with
      | ⟨zs⟩ => match decide (0 ≤ l ∧ l ≤ c ∧ c ≤ 1000000 ∧ i.bytes ≤ 100000) && Nat.beq (llen zs) sz && Nat.blt 0 sz && zs.all flat0 with
        | true => newRow' H nx (lrep zs c.toNat) e fun a => .slice (some a) l.toNat c.toNat
        | false => .no
    | _, _, _ => .no
  | _, _, _ => .no
noncomputable def evBuildSlice (P : Program) (t : TypeId) (len : Nat) (parts : List (Nat × Value)) (H : Hp) (nx : Nat) : Rs :=
  match prun P (underlying t) with
  | some (.slice e) => match prun P (sizeOf e), prun P (zeroValue e) with
    | some sz, some z => match z.cells with
      | ⟨zs⟩ => match Nat.ble (len * sz) 1000000 && Nat.beq (llen zs) sz && Nat.blt 0 sz && zs.all flat0 with
        | true => match Instr.fill (fun i => some (i * sz, sz)) ⟨lrep zs len⟩ parts with
          | some ⟨cs⟩ => newRow' H nx cs e fun a => .slice (some a) len len
          | none => .no
        | false => .no
    | _, _ => .no
  | _ => .no
def allFlat (l : Option Value) : Bool := match l with
  | some v => flat v
  | none => true
noncomputable def evSlice (P : Program) (t : TypeId) (x : Value) (lo hi mx : Option Value) (H : Hp) (nx : Nat) : Rs :=
  match prun P (underlying t), x with
  | some (.slice e), .slice (some ⟨n, off, none⟩) len cap => match allFlat lo && allFlat hi && allFlat mx with
    | true => match prun P (Instr.sliceBounds true len cap lo hi mx), prun P (sizeOf e) with
      | some (l, h, m), some sz => match Nat.beq (Nat.mod n 2) 0 with
        | true => .ok (.slice (some ⟨n, if m = l then off else off + l * sz, none⟩) (h - l) (m - l)) H nx 0 0
        | false => match H.at n with
          | some (.row cs _ es) => match Nat.beq es sz && Nat.blt l m && (mx.isNone || Nat.blt (off + m * es) (llen cs)) with
            | true => .ok (.slice (some ⟨n, off + l * sz, none⟩) (h - l) (m - l)) H nx (bit n) 0
            | false => .no
          | _ => .no
      | _, _ => .no
    | false => .no
  | some (.array n' e), .pointer (some ⟨n, off, none⟩) => match allFlat lo && allFlat hi && allFlat mx && Nat.beq (Nat.mod n 2) 0 with
    | true => match prun P (Instr.sliceBounds false n' n' lo hi mx), prun P (sizeOf e) with
      | some (l, h, m), some sz => .ok (.slice (some ⟨n, if m = l then off else off + l * sz, none⟩) (h - l) (m - l)) H nx 0 0
      | _, _ => .no
    | false => .no
  | _, _ => .no
def vlen : Value → Option Nat
  | .slice _ n _ => some n
  | .string s => some s.size
  | _ => none
/-- The cells of the first n elements of a slice or a string, and what is read for them. -/
noncomputable def appSrc (H : Hp) (sz n : Nat) : Value → Option (List Value × Nat)
  | .slice none _ _ => some ([], 0)
  | .slice (some ⟨m, off, none⟩) _ _ => match H.at m with
    | some (.row cs _ _) => match lsub cs off (n * sz) with
      | some l => some (l, bit m)
      | none => none
    | _ => none
  | .string s => some ((s.data.toList.take n).map fun b => .int .u8 b.toNat, 0)
  | _ => none
def notInt : TypeDesc → Bool
  | .slice _ => true
  | .string => true
  | _ => false
noncomputable def evAppend (P : Program) (H : Hp) (nx : Nat) (st xt : TypeId) (base : Option Addr) (len cap : Nat) (x : Value) : Rs :=
  match prun P (underlying st), prun P (underlying xt), vlen x with
  | some (.slice e), some d, some n => match prun P (sizeOf e), prun P (typeInfo e), prun P (zeroValue e) with
    | some sz, some i, some z => match z.cells with
      | ⟨zs⟩ => match notInt d && Nat.ble i.bytes 100000 && Nat.ble (len + n) 100000 && Nat.beq (llen zs) sz && Nat.blt 0 sz && zs.all flat0 && Nat.blt (nx + 1) (2 ^ dep) with
        | true => match appSrc H sz n x with
          | some (l, S) => match Nat.beq (llen l) (Nat.mul n sz) && l.all (·.oneCell') with
           | true => match base with
            | none => match Nat.ble (len + n) cap, Nat.beq cap 0 && Nat.beq len 0 with
              | true, true => .ok (.slice none (len + n) cap) H nx S 0
              | false, true => .ok (.slice (some ⟨nx + 1, 0, none⟩) (len + n) (len + n)) (H.set dep (nx + 1) (some (.row l e sz))) (nx + 2) (S ||| bit (nx + 1)) (bit (nx + 1))
              | _, _ => .no
            | some ⟨b, off, none⟩ => match H.at b with
              | some (.row cs e' es) => match Nat.ble (len + n) cap with
                | true => match lput cs (off + len * sz) l with
                  | some cs' => .ok (.slice (some ⟨b, off, none⟩) (len + n) cap) (H.set dep b (some (.row cs' e' es))) nx (S ||| bit b) (bit b)
                  | none => .no
                | false => match lsub cs off (len * sz) with
                  | some old => match Nat.beq (b % 2) 0 || !Nat.beq (off + cap * es) (llen cs) with
                    | true => match Nat.ble (Builtin.nextslicecap (len + n) cap) 1000000 with
                      | true => .ok (.slice (some ⟨nx + 1, 0, none⟩) (len + n) (len + n)) (H.set dep (nx + 1) (some (.row (lapp old l) e sz))) (nx + 2) (S ||| bit b ||| bit (nx + 1)) (bit (nx + 1))
                      | false => .no
                    | false => match Nat.beq es sz && Nat.beq e' e with
                      | true => .ok (.slice (some ⟨nx + 1, 0, none⟩) (len + n) (len + n)) ((H.set dep b none).set dep (nx + 1) (some (.row (lapp old l) e sz))) (nx + 2) (S ||| bit b ||| bit (nx + 1)) (bit b ||| bit (nx + 1))
                      | false => .no
                  | none => .no
              | _ => .no
            | _ => .no
           | false => .no
          | none => .no
        | false => .no
    | _, _, _ => .no
  | _, _, _ => .no
noncomputable def evCopy (P : Program) (H : Hp) (nx : Nat) (st : TypeId) (b off len : Nat) (x : Value) : Rs :=
  match prun P (underlying st) with
  | some (.slice e) => match prun P (sizeOf e) with
    | some sz => match vlen x with
      | some n => match appSrc H sz (min n len) x, H.at b with
        | some (l, S), some (.row cs e' es) => match lput cs off l with
          | some cs' => match l.all (·.oneCell') with
            | true => .ok (goInt (min n len : Nat)) (H.set dep b (some (.row cs' e' es))) nx (S ||| bit b) (bit b)
            | false => .no
          | none => .no
        | _, _ => .no
      | none => .no
    | none => .no
  | _ => .no
/-- The bytes of some cells. -/
def bytesOf : List Value → Option (List UInt8)
  | [] => some []
  | .int .u8 n :: l => match bytesOf l with
    | some r => some (UInt8.ofNat n.toNat :: r)
    | none => none
  | _ :: _ => none
noncomputable def evConv (P : Program) (d : Nat) (T : Tri Value) (H : Hp) (nx : Nat) (o : Oper) (s t : TypeId) (x : Value) : Rs :=
  match prun P (underlying s), prun P (underlying t), x with
  | some (.slice e), some .string, .slice (some ⟨n, off, none⟩) len _ => match prun P (underlying e), H.at n with
    | some (.int .u8), some (.row cs _ _) => match lsub cs off len with
      | some l => match bytesOf l with
        | some r => .ok (.string ⟨⟨r⟩⟩) H nx (bit n) 0
        | none => .no
      | none => .no
    | _, _ => .no
  | some .string, some (.slice e), .string b => match prun P (underlying e) with
    | some (.int .u8) => match Nat.blt (Nat.add nx 1) (Nat.pow 2 dep) && Nat.ble b.size 1000000 with
      | true => .ok (.slice (some ⟨Nat.add nx 1, 0, none⟩) b.size b.size) (H.set dep (Nat.add nx 1) (some (.row (b.data.toList.map fun x => .int .u8 x.toNat) e 1))) (Nat.add nx 2) (bit (Nat.add nx 1)) (bit (Nat.add nx 1))
      | false => .no
    | _ => .no
  | _, _, _ => evFlat P d T H nx o
/-- Is the receiver of a method the value itself? -/
noncomputable def plainRecv (P : Program) (t : TypeId) (m : Method) : Bool := match m.func with
  | some (_, true) => true
  | some (_, false) => match prun P (underlying t) with
    | some (.pointer _) => false
    | some _ => true
    | none => false
  | none => false
noncomputable def evInvoke (P : Program) (call : FuncId → List Value → Hp → Nat → Rs) (H : Hp) (nx : Nat) (recv : Value) (name : String) (args : List Value) : Rs :=
  match recv with
  | .iface t v => match prun P (typeInfo t), prun P (method (P.types.size + Made.depth) t v name) with
    | some i, some (f, _) => match i.methods.find? (·.name == name) with
      | some m => match m.path.toList, plainRecv P t m with
        | [], true => call f (v :: args) H nx
        | _, _ => .no
      | none => .no
    | _, _ => .no
  | _ => .no
noncomputable def evBuiltin (P : Program) (d : Nat) (T : Tri Value) (H : Hp) (nx : Nat) (o : Oper) (b : Builtin) (ts : List TypeId) (args : List Value) : Rs :=
  match b, ts, args with
  | .append, [st, xt], [.slice base len cap, x] => evAppend P H nx st xt base len cap x
  | .copy, [st, _], [.slice (some ⟨b, off, none⟩) len _, x] => evCopy P H nx st b off len x
  | .append, _, _ => .no
  | .copy, _, _ => .no
  | _, _, _ => evPure P d T H nx o
noncomputable def evCallOp (P : Program) (call : FuncId → List Value → Hp → Nat → Rs) (d : Nat) (T : Tri Value) (H : Hp) (nx : Nat) (o : Oper) (c : Call) : Rs :=
  match c.callee with
  | .value f => match opnd d T f with
    | .func (.func f) ⟨first⟩ ⟨cap⟩ => call f (first ++ (c.args.toList.map (opnd d T) ++ cap)) H nx
    | _ => .no
  | .invoke recv name => evInvoke P call H nx (opnd d T recv) name (c.args.toList.map (opnd d T))
  | .builtin b => evBuiltin P d T H nx o b c.argTypes.toList (c.args.toList.map (opnd d T))
noncomputable def evOp (P : Program) (call : FuncId → List Value → Hp → Nat → Rs) (d : Nat) (T : Tri Value) (H : Hp) (nx : Nat) (o : Oper) : Rs :=
  match o.op with
  | .move x => .ok (opnd d T x) H nx 0 0
  | .assign x => .ok (opnd d T x) H nx 0 0
  | .load t x => evLoad P t (opnd d T x) H nx
  | .store t x y => evStore P t (opnd d T x) (opnd d T y) H nx
  | .alloc t => evAlloc P t H nx
  | .box t x => evBox t (opnd d T x) H nx
  | .fieldAddr s x i => evFieldAddr P s i (opnd d T x) H nx
  | .indexAddr t x i => evIndexAddr P t (opnd d T x) (opnd d T i) H nx
  | .field t x i => evField P t i (opnd d T x) H nx
  | .extract x i => evExtract (opnd d T x) i H nx
  | .build t _ => evBuild P d T H nx o t
  | .makeSlice t l c => evMake P t (opnd d T l) (opnd d T c) H nx
  | .buildSlice t len parts => evBuildSlice P t len (parts.toList.map fun p => (p.1, opnd d T p.2)) H nx
  | .slice t x lo hi mx => match opnd d T x with
    | .string _ => evFlat P d T H nx o
    | .slice none _ _ => evFlat P d T H nx o
    | v => evSlice P t v (lo.map (opnd d T)) (hi.map (opnd d T)) (mx.map (opnd d T)) H nx
  | .binOp op t x y _ => evBin P d T H nx o op t (opnd d T x) (opnd d T y)
  | .nilCheck x => evNilCheck (opnd d T x) H nx
  | .convert s t x => evConv P d T H nx o s t (opnd d T x)
  | .call c => evCallOp P call d T H nx o c
  | _ => evPure P d T H nx o

/-! ### Regions -/
noncomputable def yieldedT (d : Nat) (ops : Array Oper) (T : Tri Value) (j : Nat) : Option Bool :=
  match (ops[j]?).bind (·.dst) with
  | some t => match tget d T t with
    | .bool b => some b
    | _ => none
  | none => none
noncomputable def put (d : Nat) (T : Tri Value) (x : Option Nat) (v : Value) : Tri Value := match x with
  | some x => T.set d x v
  | none => T
inductive Os where
  | ok (T : Tri Value) (H : Hp) (nx S W : Nat) (log : List (Nat × Nat))
  | no
abbrev OpsK := Tri Value → Hp → Nat → Nat → Nat → List (Nat × Nat) → Os
noncomputable def evOpsV (k : OpsK) (d : Nat) (T : Tri Value) (x : Option Nat) (v : Value) (H : Hp) (nx S W S' W' : Nat) (log : List (Nat × Nat)) : Os :=
  vfrc v fun v => (put d T x v).frc fun T => H.frc fun H => nfrc nx fun nx => nfrc (Nat.lor S S') fun S2 => nfrc (Nat.lor W W') fun W2 => k T H nx S2 W2 ((S', W') :: log)
noncomputable def evOps1 (P : Program) (call : FuncId → List Value → Hp → Nat → Rs) (d : Nat) (ops : Array Oper) (o : Oper) (k : OpsK) (T : Tri Value) (H : Hp) (nx S W : Nat) (log : List (Nat × Nat)) : Os :=
  match Region.wanted o (yieldedT d ops T) with
  | false => (put d T o.dst undef).frc fun T => k T H nx S W ((0, 0) :: log)
  | true => match evOp P call d T H nx o with
    | .no => .no
    | .ok v H nx S' W' => evOpsV k d T o.dst v H nx S W S' W' log
noncomputable def evOps (P : Program) (call : FuncId → List Value → Hp → Nat → Rs) (d : Nat) (ops : Array Oper) (l : List Oper) : OpsK :=
  List.rec (motive := fun _ => OpsK) (fun T H nx S W log => .ok T H nx S W log) (fun o _ r => evOps1 P call d ops o r) l

/-! ### Code -/
inductive Ex where
  | nrm | exit (id : Nat) | ret
inductive Cs where
  | ok (x : Ex) (T : Tri Value) (H : Hp) (nx S W : Nat)
  | no
/-! ### Whatever order is drawn: operations that are not ordered share no memory that one of them writes -/
def ancS (acc : List Nat) (j : Nat) (s : Nat) (e : Edge) : Nat := match Region.binds .any e with
  | true => s ||| bit e.on ||| (acc[j - 1 - e.on]?).getD 0
  | false => s
def anc1 (acc : List Nat) (j : Nat) (o : Oper) : Nat := o.after.toList.foldl (ancS acc j) 0
def ancs : List Oper → Nat → List Nat → List Nat
  | [], _, acc => acc
  | o :: rest, j, acc => nfrc (anc1 acc j o) fun m => ancs rest (j + 1) (m :: acc)
def touch : List Nat → List (Nat × Nat) → Nat → List (Nat × Nat × Nat × Nat)
  | m :: ms, (S, W) :: l, k + 1 => match Nat.beq (S ||| W) 0 with
    | true => touch ms l k
    | false => (k, m, S ||| W, W) :: touch ms l k
  | _, _, _ => []
def apartB : List (Nat × Nat × Nat × Nat) → Bool
  | [] => true
  | (_, m, U, W) :: rest => (rest.all fun (i, _, U', W') => Nat.beq ((W &&& U') ||| (W' &&& U)) 0 || m.testBit i) && apartB rest
def orderOk (ops : Array Oper) (W : Nat) (log : List (Nat × Nat)) : Bool := Nat.beq W 0 || apartB (touch (ancs ops.toList 0 []) log ops.size)
noncomputable def evResults (P : Program) (d : Nat) (H : Hp) (T : Tri Value) : List ResultVar → Option (List Value × Nat)
  | [] => some ([], 0)
  | .tmp t :: rest => match evResults P d H T rest with
    | some (l, S) => some (tget d T t :: l, S)
    | none => none
  | .cell a t :: rest => match evResults P d H T rest, tget d T a with
    | some (l, S), .pointer (some ⟨n, off, none⟩) => match H.at n, prun P (isAgg t), prun P (sizeOf t) with
      | some (.row cs _ _), some true, some sz => match lsub cs off sz with
        | some ds => some (.agg ⟨ds⟩ :: l, S ||| bit n)
        | none => none
      | some (.row cs _ _), some false, _ => match lget cs off with
        | some v => some (v :: l, S ||| bit n)
        | none => none
      | _, _, _ => none
    | _, _ => none
noncomputable def ofArgs (d : Nat) : List Value → Nat → Tri Value → Tri Value
  | [], _, T => T
  | v :: l, k, T => vfrc v fun v => (T.set d k v).frc fun T => ofArgs d l (k + 1) T
def one : List Value → Value
  | [v] => v
  | l => .tuple ⟨l⟩
def Ex.ends : Ex → Bool
  | .exit _ => false
  | _ => true
def depOf (n : Nat) : Nat := Nat.add (Nat.log2 n) 1
noncomputable def callWith (P : Program) (F : FuncId → Option Func) (run : Nat → Code → Tri Value → Hp → Nat → Cs) (f : FuncId) (args : List Value) (H : Hp) (nx : Nat) : Rs :=
  match F f with
  | some fn => match fn.body with
    | some b => match Nat.ble (llen args) fn.ntmps with
      | true => match run (depOf fn.ntmps) b (ofArgs (depOf fn.ntmps) args 0 .e) H nx with
        | .ok x T H nx S W => match x.ends with
          | true => match evResults P (depOf fn.ntmps) H T fn.results.toList with
            | some (l, S') => nfrc (Nat.lor S S') fun S2 => .ok (one l) H nx S2 W
            | none => .no
          | false => .no
        | .no => .no
      | false => .no
    | none => .no
  | none => .no
abbrev CodeK := Nat → Code → Tri Value → Hp → Nat → Cs
noncomputable def evMore (S W : Nat) (r : Cs) : Cs := match r with
  | .ok x T H nx S' W' => nfrc (Nat.lor S S') fun S2 => nfrc (Nat.lor W W') fun W2 => .ok x T H nx S2 W2
  | .no => .no
noncomputable def evThen (self : CodeK) (d : Nat) (b : Code) (r : Cs) : Cs := match r with
  | .ok .nrm T H nx S W => evMore S W (self d b T H nx)
  | r => r
noncomputable def evIf (self : CodeK) (d : Nat) (c : Value) (a b : Code) (T : Tri Value) (H : Hp) (nx : Nat) : Cs := match c with
  | .bool true => self d a T H nx
  | .bool false => self d b T H nx
  | _ => .no
def evBlk (id : Nat) (r : Cs) : Cs := match r with
  | .ok (.exit id') T H nx S W => match Nat.beq id' id with
    | true => .ok .nrm T H nx S W
    | false => .ok (.exit id') T H nx S W
  | r => r
def evReg (ops : Array Oper) (draw : Bool) (r : Os) : Cs := match r with
  | .ok T H nx S W log => match !draw || orderOk ops W log with
    | true => .ok .nrm T H nx S W
    | false => .no
  | .no => .no
/-- What is known beforehand: what iterators hand over; the results of calls. -/
structure Aid where
  it : FuncId → List Value → Hp → Option (List (List Value) × Nat)
  or : FuncId → List Value → Hp → Nat → Rs
def noAid : Aid := ⟨fun _ _ _ => none, fun _ _ _ _ => .no⟩
noncomputable def callOr (r : FuncId → List Value → Hp → Nat → Rs) (c : FuncId → List Value → Hp → Nat → Rs) (f : FuncId) (args : List Value) (H : Hp) (nx : Nat) : Rs := match r f args H nx with
  | .ok v H' nx' S W => .ok v H' nx' S W
  | .no => c f args H nx
noncomputable def putAll (d : Nat) : List Nat → List Value → Tri Value → Tri Value
  | p :: ps, v :: vs, T => vfrc v fun v => (T.set d p v).frc fun T => putAll d ps vs T
  | _, _, T => T
/-- The rounds of a loop over a function that hands over these. -/
noncomputable def evRounds (self : CodeK) (d : Nat) (ps : List Nat) (asg body : Code) (T : Tri Value) (Sx : Nat) : List (List Value) → Hp → Nat → Cs
  | [], H, nx => .ok .nrm T H nx 0 0
  | x :: rest, H, nx => match Nat.beq (llen x) ps.length with
    | true => match self d asg (putAll d ps x T) H nx with
      | .ok .nrm T1 H1 nx1 S1 W1 => match self d body T1 H1 nx1 with
        | .ok e _ H2 nx2 S2 W2 => match Nat.beq (Nat.land (Nat.lor W1 W2) Sx) 0 with
          | true => match e with
            | .nrm => evMore (Nat.lor S1 S2) (Nat.lor W1 W2) (evRounds self d ps asg body T Sx rest H2 nx2)
            | e => .ok e T H2 nx2 (Nat.lor S1 S2) (Nat.lor W1 W2)
          | false => .no
        | .no => .no
      | _ => .no
    | false => .no
noncomputable def evRange (F : FuncId → Option Func) (It : Aid) (self : CodeK) (d : Nat) (g : Value) (ps : List Nat) (asg body : Code) (T : Tri Value) (H : Hp) (nx : Nat) : Cs :=
  match g with
  | .func (.func gf) ⟨[]⟩ ⟨cap⟩ => match F gf with
    | some fn => match fn.body with
      | some _ => match It.it gf cap H with
        | some (els, Sx) => evMore Sx 0 (evRounds self d ps asg body T Sx els H nx)
        | none => .no
      | none => .no
    | none => .no
  | _ => .no
noncomputable def evCode1 (P : Program) (F : FuncId → Option Func) (It : Aid) (self : CodeK) (d : Nat) (c : Code) (T : Tri Value) (H : Hp) (nx : Nat) : Cs :=
  match c with
  | .skip | .label _ => .ok .nrm T H nx 0 0
  | .ret => .ok .ret T H nx 0 0
  | .exit id => .ok (.exit id) T H nx 0 0
  | .seq a b => evThen self d b (self d a T H nx)
  | .cond c a b => evIf self d (opnd d T c) a b T H nx
  | .block id b => evBlk id (self d b T H nx)
  | .loop b => evThen self d (.loop b) (self d b T H nx)
  | .region _ ops draw => evReg ops draw (evOps P (callOr It.or (callWith P F self)) d ops ops.toList T H nx 0 0 [])
  | .rangeFunc g ps asg body => evRange F It self d (opnd d T g) ps.toList asg body T H nx
  | _ => .no
noncomputable def evCode (P : Program) (F : FuncId → Option Func) (It : Aid) (n : Nat) : CodeK :=
  Nat.rec (motive := fun _ => CodeK) (fun _ _ _ _ _ => .no) (fun _ r => evCode1 P F It r) n
/-- A call without arguments that hands back one value: the value, and what it has written. -/
noncomputable def evCall0 (P : Program) (F : FuncId → Option Func) (It : Aid) (fuel : Nat) (f : FuncId) (H : Hp) (nx : Nat) : Option (Value × Nat) :=
  match callWith P F (evCode P F It fuel) f [] H nx with
  | .ok v _ _ _ W => some (v, W)
  | .no => none
end Go.Proofs.YtlegcfjafdihlaaGreatDoor.Ev

/-
  The evaluator of calls at given arguments, and its soundness: part B. It speaks of any program.
-/
namespace Go.Proofs.YtlegcfjafdihlaaGreatDoor.Ev
open Go.RowKit

/-! ### Maps -/
theorem Tri.frc_eq {α β : Type} (t : Tri α) (f : Tri α → β) : t.frc f = f t := by cases t <;> rfl
theorem Tri.get_succ {α : Type} (d : Nat) (x y : Tri α) (k : Nat) : Tri.get (d + 1) (.n x y) k = match Nat.beq (k % 2) 0 with
    | true => Tri.get d x (k / 2)
    | false => Tri.get d y (k / 2) := by
  show (Bool.rec (motive := fun _ => Option α) (Tri.get d y (k / 2)) (Tri.get d x (k / 2)) (Nat.beq (k % 2) 0) : Option α) = _
  cases Nat.beq (k % 2) 0 <;> rfl
theorem Tri.get_e {α : Type} : ∀ (d k : Nat), Tri.get d (.e : Tri α) k = none
  | 0, _ => rfl
  | _ + 1, _ => rfl
theorem Tri.get_l {α : Type} (d k : Nat) (a : α) : Tri.get (d + 1) (.l a) k = none := rfl
def Tri.lf {α : Type} : Tri α → Tri α
  | .n x _ => x
  | _ => .e
def Tri.rt {α : Type} : Tri α → Tri α
  | .n _ y => y
  | _ => .e
theorem Tri.set_succ {α : Type} (d : Nat) (t : Tri α) (k : Nat) (a : α) : Tri.set (d + 1) t k a = match Nat.beq (k % 2) 0 with
    | true => .n (Tri.set d t.lf (k / 2) a) t.rt
    | false => .n t.lf (Tri.set d t.rt (k / 2) a) := by
  cases t with
  | e =>
    show (Bool.rec (motive := fun _ => Tri α) (Tri.frc (Tri.set d .e (k / 2) a) fun y' => .n .e y') (Tri.frc (Tri.set d .e (k / 2) a) fun x' => .n x' .e) (Nat.beq (k % 2) 0) : Tri α) = _
    rw [Tri.frc_eq, Tri.frc_eq]; cases Nat.beq (k % 2) 0 <;> rfl
  | l _ =>
    show (Bool.rec (motive := fun _ => Tri α) (Tri.frc (Tri.set d .e (k / 2) a) fun y' => .n .e y') (Tri.frc (Tri.set d .e (k / 2) a) fun x' => .n x' .e) (Nat.beq (k % 2) 0) : Tri α) = _
    rw [Tri.frc_eq, Tri.frc_eq]; cases Nat.beq (k % 2) 0 <;> rfl
  | n x y =>
    show (Bool.rec (motive := fun _ => Tri α) (Tri.frc (Tri.set d y (k / 2) a) fun y' => .n x y') (Tri.frc (Tri.set d x (k / 2) a) fun x' => .n x' y) (Nat.beq (k % 2) 0) : Tri α) = _
    rw [Tri.frc_eq, Tri.frc_eq]; cases Nat.beq (k % 2) 0 <;> rfl
theorem Tri.get_any {α : Type} (d : Nat) (t : Tri α) (k : Nat) : Tri.get (d + 1) t k = match Nat.beq (k % 2) 0 with
    | true => Tri.get d t.lf (k / 2)
    | false => Tri.get d t.rt (k / 2) := by
  cases t with
  | n x y => rw [Tri.get_succ]; rfl
  | e => rw [Tri.get_e]; split <;> exact (Tri.get_e _ _).symm
  | l a => rw [Tri.get_l]; split <;> exact (Tri.get_e _ _).symm
theorem Tri.get_set {α : Type} : ∀ (d : Nat) (t : Tri α) (k : Nat) (a : α), Tri.get d (Tri.set d t k a) k = some a
  | 0, t, k, a => rfl
  | d + 1, t, k, a => by
    rw [Tri.set_succ]
    cases h : Nat.beq (k % 2) 0 <;> dsimp only <;> rw [Tri.get_succ, h] <;> dsimp only <;> exact Tri.get_set d _ _ _
theorem Tri.get_set_ne {α : Type} : ∀ (d : Nat) (t : Tri α) (k k' : Nat) (a : α), k ≠ k' → k < 2 ^ d → k' < 2 ^ d → Tri.get d (Tri.set d t k a) k' = Tri.get d t k'
  | 0, t, k, k', a => by intro h h1 h2; simp at h1 h2; omega
  | d + 1, t, k, k', a => by
    intro h h1 h2
    rw [Nat.pow_succ] at h1 h2
    rw [Tri.set_succ, Tri.get_any d t k']
    cases e1 : Nat.beq (k % 2) 0 <;> cases e2 : Nat.beq (k' % 2) 0 <;> dsimp only <;> rw [Tri.get_succ, e2] <;> dsimp only
    · have m1 : k % 2 ≠ 0 := fun h => by rw [h] at e1; cases e1
      have m2 : k' % 2 ≠ 0 := fun h => by rw [h] at e2; cases e2
      exact Tri.get_set_ne d _ _ _ _ (by omega) (by omega) (by omega)
    · have m1 : k % 2 = 0 := Nat.eq_of_beq_eq_true e1
      have m2 : k' % 2 = 0 := Nat.eq_of_beq_eq_true e2
      exact Tri.get_set_ne d _ _ _ _ (by omega) (by omega) (by omega)

theorem nfrc_eq {β : Type} (n : Nat) (f : Nat → β) : nfrc n f = f n := by unfold nfrc; split <;> rfl
theorem ifrc_eq {β : Type} (n : Int) (f : Int → β) : ifrc n f = f n := by cases n <;> simp [ifrc, nfrc_eq]
theorem lfrc_eq {α β : Type} (l : List α) (f : List α → β) : lfrc l f = f l := by cases l <;> rfl
theorem vfrc_eq {β : Type} (v : Value) (f : Value → β) : vfrc v f = f v := by
  unfold vfrc; split <;> simp [nfrc_eq, ifrc_eq, lfrc_eq] <;> split <;> rfl

noncomputable def hp (H : Hp) : Nat → Option AB := fun n => H.at n
theorem hp_set (H : Hp) (n : Nat) (b : Option AB) (hn : n < 2 ^ dep) : hp (H.set dep n b) = fun k => if k = n then b else hp H k := by
  funext k
  by_cases h : k = n
  · subst h
    simp only [hp, Tri.at, if_true, Tri.get_set]
    rw [show Nat.blt k (Nat.pow 2 dep) = true by simpa [Nat.blt_eq] using hn]
  · simp only [hp, Tri.at, if_neg h]
    split
    · rename_i hk
      rw [Tri.get_set_ne dep H n k b (Ne.symm h) hn (by simpa [Nat.blt_eq] using hk)]
    · rfl

/-! ### Plain computations -/
theorem prun_sound {P : Program} {α : Type} {s : Sem α} : ∀ {a : α}, prun P s = some a → ∀ w, s.run P w = .ok a w := by
  induction s with
  | pure b => intro a h w; simp only [prun, Option.some.injEq] at h; rw [h]; rfl
  | program k ih => intro a h w; simp only [prun] at h; exact ih P h w
  | mark m k ih => intro a h w; simp only [prun] at h; exact ih h w
  | _ => intro a h; simp [prun] at h
theorem prun_bind' {P : Program} {α β : Type} (s : Sem α) (f : α → Sem β) : prun P (s.bind f) = (prun P s).bind fun a => prun P (f a) := by
  induction s with
  | pure b => rfl
  | program k ih => simp only [Sem.bind, prun, ih]
  | mark m k ih => simp only [Sem.bind, prun, ih]
  | _ => rfl
theorem prun_bind {P : Program} {α β : Type} (s : Sem α) (f : α → Sem β) : prun P (s >>= f) = (prun P s).bind fun a => prun P (f a) := prun_bind' s f
theorem prun_pure {P : Program} {α : Type} (a : α) : prun P (pure a : Sem α) = some a := rfl
theorem prun_ite {P : Program} {α : Type} (c : Prop) [Decidable c] (x y : Sem α) : prun P (if c then x else y) = if c then prun P x else prun P y := by split <;> rfl

/-! ### Values -/
structure Loc where
  blk : Nat
  off : Nat
  top : Nat
  ex : Nat
  es : Nat
def Loc.cap (l : Loc) (o c : Nat) : Nat := if o + c * l.es = l.top then c + l.ex else c
abbrev Env := Nat → Option Loc
mutual
inductive R (ρ : Env) : Value → Value → Prop
  | flat (v : Value) (h : flat v = true) : R ρ v v
  | ptr (n o : Nat) (l : Loc) (h : ρ n = some l) : R ρ (.pointer (some ⟨n, o, none⟩)) (.pointer (some ⟨l.blk, l.off + o, none⟩))
  | slice (n o k c : Nat) (l : Loc) (h : ρ n = some l) : R ρ (.slice (some ⟨n, o, none⟩) k c) (.slice (some ⟨l.blk, l.off + o, none⟩) k (l.cap o c))
  | func (fn : Fn) (a b a' b' : List Value) (ha : RL ρ a a') (hb : RL ρ b b') : R ρ (.func fn ⟨a⟩ ⟨b⟩) (.func fn ⟨a'⟩ ⟨b'⟩)
  | iface (t : TypeId) (v u : Value) (h : R ρ v u) : R ρ (.iface t v) (.iface t u)
  | agg (a a' : List Value) (h : RL ρ a a') : R ρ (.agg ⟨a⟩) (.agg ⟨a'⟩)
  | tuple (a a' : List Value) (h : RL ρ a a') : R ρ (.tuple ⟨a⟩) (.tuple ⟨a'⟩)
inductive RL (ρ : Env) : List Value → List Value → Prop
  | nil : RL ρ [] []
  | cons (v u : Value) (l m : List Value) (h : R ρ v u) (t : RL ρ l m) : RL ρ (v :: l) (u :: m)
end
def Sub (ρ ρ' : Env) : Prop := ∀ n l, ρ n = some l → ρ' n = some l
theorem R.mono {ρ ρ' : Env} (hs : Sub ρ ρ') {v u : Value} (h : R ρ v u) : R ρ' v u :=
  R.rec (motive_1 := fun v u _ => R ρ' v u) (motive_2 := fun l m _ => RL ρ' l m)
    (fun v h => .flat v h) (fun n o l h => .ptr n o l (hs n l h)) (fun n o k c l h => .slice n o k c l (hs n l h))
    (fun fn a b a' b' _ _ ha hb => .func fn a b a' b' ha hb) (fun t v u _ h => .iface t v u h) (fun a a' _ h => .agg a a' h) (fun a a' _ h => .tuple a a' h)
    .nil (fun v u l m _ _ h t => .cons v u l m h t) h
theorem RL.mono {ρ ρ' : Env} (hs : Sub ρ ρ') {l m : List Value} (h : RL ρ l m) : RL ρ' l m := by
  induction l generalizing m with
  | nil => cases h; exact .nil
  | cons v l ih => cases h; rename_i hv hl; exact .cons _ _ _ _ (hv.mono hs) (ih hl)
theorem flat_of_flat0 {v : Value} (h : flat0 v = true) : flat v = true := by
  unfold flat0 at h
  split at h <;> first | (simp [flat, flat0]; done) | simp at h
theorem flat_of_flat1 {v : Value} (h : flat1 v = true) : flat v = true := by
  unfold flat1 at h
  split at h
  · simpa [flat] using h
  · exact flat_of_flat0 h
theorem RL.refl0 {ρ : Env} : ∀ {l : List Value}, (∀ v ∈ l, flat v = true) → RL ρ l l
  | [], _ => .nil
  | v :: l, h => .cons _ _ _ _ (.flat v (h v (by simp))) (RL.refl0 fun v hv => h v (by simp [hv]))
theorem R.agg_inv {ρ : Env} {a : List Value} {u : Value} (h : R ρ (.agg ⟨a⟩) u) : ∃ a', u = .agg ⟨a'⟩ ∧ RL ρ a a' := by
  cases h with
  | flat _ h => exact ⟨a, rfl, RL.refl0 fun v hv => flat_of_flat0 (by simp [Ev.flat] at h; exact h v hv)⟩
  | agg _ a' h => exact ⟨a', rfl, h⟩
theorem R.tuple_inv {ρ : Env} {a : List Value} {u : Value} (h : R ρ (.tuple ⟨a⟩) u) : ∃ a', u = .tuple ⟨a'⟩ ∧ RL ρ a a' := by
  cases h with
  | flat _ h => exact ⟨a, rfl, RL.refl0 fun v hv => flat_of_flat1 (by simp [Ev.flat] at h; exact h v hv)⟩
  | tuple _ a' h => exact ⟨a', rfl, h⟩
theorem R.ptr_inv {ρ : Env} {n o : Nat} {s : Option Nat} {u : Value} (h : R ρ (.pointer (some ⟨n, o, s⟩)) u) : s = none ∧ ∃ l, ρ n = some l ∧ u = .pointer (some ⟨l.blk, l.off + o, none⟩) := by
  cases h with
  | flat _ h => simp [Ev.flat, flat0] at h
  | ptr _ _ l h => exact ⟨rfl, l, h, rfl⟩
theorem R.slice_inv {ρ : Env} {n o k c : Nat} {s : Option Nat} {u : Value} (h : R ρ (.slice (some ⟨n, o, s⟩) k c) u) : s = none ∧ ∃ l, ρ n = some l ∧ u = .slice (some ⟨l.blk, l.off + o, none⟩) k (l.cap o c) := by
  cases h with
  | flat _ h => simp [Ev.flat, flat0] at h
  | slice _ _ _ _ l h => exact ⟨rfl, l, h, rfl⟩
theorem R.flat_inv {ρ : Env} {v u : Value} (hv : Ev.flat v = true) (h : R ρ v u) : u = v := by
  have L : ∀ (l m : List Value), (∀ x ∈ l, ∀ y, R ρ x y → y = x) → RL ρ l m → m = l := by
    intro l
    induction l with
    | nil => intro m _ h; cases h; rfl
    | cons x l ih => intro m hx h; cases h with
      | cons _ u _ m' h1 h2 => rw [hx x (by simp) u h1, ih m' (fun y hy => hx y (by simp [hy])) h2]
  have F0 : ∀ x, flat0 x = true → ∀ y, R ρ x y → y = x := by
    intro x hx y h
    cases h with
    | flat => rfl
    | func fn a b a' b' ha hb =>
      unfold flat0 at hx
      split at hx <;> try simp_all
      rename_i e; obtain ⟨rfl, rfl, rfl⟩ := e
      cases ha; cases hb; exact ⟨rfl, rfl⟩
    | _ => simp [flat0] at hx
  have F1 : ∀ x, flat1 x = true → ∀ y, R ρ x y → y = x := by
    intro x hx y h
    unfold flat1 at hx
    split at hx
    · obtain ⟨a', rfl, hl⟩ := h.agg_inv
      rw [L _ _ (fun z hz => F0 z (List.all_eq_true.1 hx z hz)) hl]
    · exact F0 x hx y h
  unfold Ev.flat at hv
  split at hv
  · obtain ⟨a', rfl, hl⟩ := h.agg_inv
    rw [L _ _ (fun z hz => F0 z (List.all_eq_true.1 hv z hz)) hl]
  · obtain ⟨a', rfl, hl⟩ := h.tuple_inv
    rw [L _ _ (fun z hz => F1 z (List.all_eq_true.1 hv z hz)) hl]
  · cases h with
    | flat => rfl
    | iface t _ u h => rw [F1 _ hv u h]
  · exact F0 v hv u h
end Go.Proofs.YtlegcfjafdihlaaGreatDoor.Ev

/-
  The evaluator of calls at given arguments, and its soundness: part C. It speaks of any program.
-/
namespace Go.Proofs.YtlegcfjafdihlaaGreatDoor.Ev
open Go.RowKit
set_option linter.unusedSimpArgs false
set_option linter.unusedVariables false

/-! ### Lists -/
theorem RL.length {ρ : Env} {l m : List Value} (h : RL ρ l m) : m.length = l.length := by
  induction l generalizing m with
  | nil => cases h; rfl
  | cons v l ih => cases h; rename_i hl; simp [ih hl]
theorem RL.at {ρ : Env} {l m : List Value} (h : RL ρ l m) : ∀ {k : Nat} {v : Value}, l[k]? = some v → ∃ u, m[k]? = some u ∧ R ρ v u := by
  induction l generalizing m with
  | nil => intro k v hv; simp at hv
  | cons x l ih =>
    intro k v hv
    cases h; rename_i u m hx hl
    cases k with
    | zero => simp at hv; subst hv; exact ⟨u, by simp, hx⟩
    | succ k => simp at hv; obtain ⟨u', e, r⟩ := ih hl hv; exact ⟨u', by simpa using e, r⟩
theorem RL.append {ρ : Env} {l m l' m' : List Value} (h : RL ρ l m) (h' : RL ρ l' m') : RL ρ (l ++ l') (m ++ m') := by
  induction l generalizing m with
  | nil => cases h; exact h'
  | cons x l ih => cases h; rename_i hl; exact .cons _ _ _ _ ‹_› (ih hl)
theorem RL.take {ρ : Env} {l m : List Value} (h : RL ρ l m) : ∀ n, RL ρ (l.take n) (m.take n) := by
  induction l generalizing m with
  | nil => intro n; cases h; simp; exact .nil
  | cons x l ih =>
    intro n
    cases h; rename_i hl
    cases n with
    | zero => simp; exact .nil
    | succ n => exact .cons _ _ _ _ ‹_› (ih hl n)
theorem RL.drop {ρ : Env} {l m : List Value} (h : RL ρ l m) : ∀ n, RL ρ (l.drop n) (m.drop n) := by
  induction l generalizing m with
  | nil => intro n; cases h; simp; exact .nil
  | cons x l ih =>
    intro n
    cases h; rename_i hl
    cases n with
    | zero => exact .cons _ _ _ _ ‹_› hl
    | succ n => simpa using ih hl n
theorem RL.of_map {ρ : Env} {α : Type} {l : List α} {f g : α → Value} (h : ∀ x ∈ l, R ρ (f x) (g x)) : RL ρ (l.map f) (l.map g) := by
  induction l with
  | nil => exact .nil
  | cons x l ih => exact .cons _ _ _ _ (h x (by simp)) (ih fun y hy => h y (by simp [hy]))
theorem lget_eq : ∀ (l : List Value) (k : Nat), lget l k = l[k]?
  | [], k => rfl
  | x :: l, 0 => rfl
  | x :: l, k + 1 => by
    show lget l k = _
    rw [lget_eq l k]; simp
theorem llen_eq : ∀ l : List Value, llen l = l.length
  | [] => rfl
  | x :: l => by show Nat.succ (llen l) = _; rw [llen_eq l]; rfl
theorem lapp_eq : ∀ a b : List Value, lapp a b = a ++ b
  | [], b => rfl
  | x :: a, b => by show lfrc (lapp a b) _ = _; rw [lfrc_eq, lapp_eq a b]; rfl
theorem ldrop_eq : ∀ (l : List Value) (o : Nat), ldrop l o = l.drop o
  | [], o => by simp; rfl
  | x :: l, 0 => rfl
  | x :: l, o + 1 => by show ldrop l o = _; rw [ldrop_eq l o]; rfl
theorem ltake_eq : ∀ (l : List Value) (n : Nat), ltake l n = l.take n
  | [], n => by simp; rfl
  | x :: l, 0 => rfl
  | x :: l, n + 1 => by show lfrc (ltake l n) _ = _; rw [lfrc_eq, ltake_eq l n]; rfl
theorem lsub_eq (l : List Value) (o n : Nat) (ds : List Value) (h : lsub l o n = some ds) : ds = (l.drop o).take n ∧ ds.length = n ∧ o + n ≤ l.length := by
  unfold lsub at h
  split at h
  · rename_i hb
    have hb' := Nat.le_of_ble_eq_true hb
    rw [llen_eq] at hb'
    have hb2 : o + n ≤ l.length := hb'
    rw [ltake_eq, ldrop_eq] at h
    cases h
    exact ⟨rfl, by simp; omega, hb2⟩
  · cases h
theorem lover_eq : ∀ (vs cs : List Value), vs.length ≤ cs.length → lover vs cs = vs ++ cs.drop vs.length
  | [], cs, _ => rfl
  | v :: vs, [], h => by simp at h
  | v :: vs, c :: cs, h => by
    show lfrc (lover vs cs) _ = _
    rw [lfrc_eq, lover_eq vs cs (by simpa using h)]; rfl
theorem lputs_eq : ∀ (cs : List Value) (o : Nat) (vs : List Value), o + vs.length ≤ cs.length → lputs vs cs o = cs.take o ++ vs ++ cs.drop (o + vs.length)
  | [], o, vs, h => by
    have h1 : o = 0 := by have h3 : o + vs.length ≤ 0 := h; omega
    have h2 : vs = [] := by apply List.eq_nil_of_length_eq_zero; have h3 : o + vs.length ≤ 0 := h; omega
    subst h1; subst h2; rfl
  | c :: cs, 0, vs, h => by
    show lover vs (c :: cs) = _
    rw [lover_eq vs _ (by simpa using h)]; simp
  | c :: cs, o + 1, vs, h => by
    show lfrc (lputs vs cs o) _ = _
    rw [lfrc_eq, lputs_eq cs o vs (by simp at h; omega), show o + 1 + vs.length = o + vs.length + 1 by omega]; simp
theorem lput_eq (l : List Value) (o : Nat) (vs ds : List Value) (h : lput l o vs = some ds) : ds = l.take o ++ vs ++ l.drop (o + vs.length) ∧ o + vs.length ≤ l.length := by
  unfold lput at h
  split at h
  · rename_i hb
    have hb' := Nat.le_of_ble_eq_true hb
    rw [llen_eq, llen_eq] at hb'
    have hb2 : o + vs.length ≤ l.length := hb'
    rw [lputs_eq l o vs hb2] at h
    cases h
    exact ⟨rfl, hb2⟩
  · cases h
theorem R.cells {ρ : Env} {v u : Value} (h : R ρ v u) : RL ρ v.cells.toList u.cells.toList := by
  by_cases hv : ∃ l, v = .agg ⟨l⟩
  · obtain ⟨l, rfl⟩ := hv
    obtain ⟨m, rfl, hl⟩ := h.agg_inv
    exact hl
  · have e : ∀ x : Value, (∀ l, x ≠ .agg ⟨l⟩) → x.cells = #[x] := by
      intro x hx; cases x <;> first | rfl | (rename_i c; exact absurd rfl (hx c.toList))
    have hu : ∀ l, u ≠ .agg ⟨l⟩ := by
      rintro l rfl
      cases h with
      | flat => exact hv ⟨l, rfl⟩
      | agg a => exact hv ⟨a, rfl⟩
    rw [e v fun l hl => hv ⟨l, hl⟩, e u hu]
    exact .cons _ _ _ _ h .nil
theorem R.one {ρ : Env} {v u : Value} (h : R ρ v u) : u.oneCell' = v.oneCell' := by cases h <;> rfl
theorem RL.one {ρ : Env} {l m : List Value} (h : RL ρ l m) : m.all (·.oneCell') = l.all (·.oneCell') := by
  induction l generalizing m with
  | nil => cases h; rfl
  | cons v l ih => cases h; rename_i hv hl; simp only [List.all_cons, R.one hv, ih hl]

/-! ### Memory -/
def BlkR (ρ : Env) (w : World) (l : Loc) : AB → Prop
  | .row cs e es => l.es = es ∧ ∃ ds c fz, RL ρ cs ds ∧ w.heap[l.blk]? = some (.cells c e fz) ∧ (∀ k v, ds[k]? = some v → c[l.off + k]? = some v) ∧
      (∀ k, fz.1 ≤ k → k < fz.2 → c.size ≤ k) ∧ l.off + l.top + l.ex * l.es ≤ c.size ∧ l.top = ds.length
  | .ro cs => l.blk < w.heap.size ∧ cs ≠ [] ∧ ∃ ds, RL ρ cs ds ∧ ∀ k v, ds[k]? = some v → w.cell? ⟨l.blk, l.off + k, none⟩ = some v
theorem BlkR.mono {ρ ρ' : Env} (hs : Sub ρ ρ') {w w' : World} {l : Loc} {b : AB} (hw : w'.heap[l.blk]? = w.heap[l.blk]?) (h : BlkR ρ w l b) : BlkR ρ' w' l b := by
  have hsz : l.blk < w.heap.size → l.blk < w'.heap.size := fun hlt => by
    rcases Nat.lt_or_ge l.blk w'.heap.size with k | k
    · exact k
    · rw [Array.getElem?_eq_none k, Array.getElem?_eq_getElem hlt] at hw; cases hw
  cases b with
  | row cs e es =>
    obtain ⟨h0, ds, c, fz, h1, h2, h3⟩ := h
    exact ⟨h0, ds, c, fz, h1.mono hs, by rw [hw]; exact h2, h3⟩
  | ro cs =>
    obtain ⟨h0, hne, ds, h1, h2⟩ := h
    refine ⟨hsz h0, hne, ds, h1.mono hs, fun k v hv => ?_⟩
    have := h2 k v hv
    unfold World.cell? at this ⊢
    rw [hw]; exact this
theorem BlkR.lt {ρ : Env} {w : World} {l : Loc} {b : AB} (h : BlkR ρ w l b) : l.blk < w.heap.size := by
  rcases Nat.lt_or_ge l.blk w.heap.size with k | k
  · exact k
  · cases b with
    | row cs e es => obtain ⟨_, ds, c, fz, _, h2, _⟩ := h; rw [Array.getElem?_eq_none k] at h2; cases h2
    | ro cs => have := h.1; omega
abbrev AH := Nat → Option AB
structure Good (G ρ : Env) (h : AH) (w : World) : Prop where
  base : Sub G ρ
  sat : ∀ n b, h n = some b → ∃ l, ρ n = some l ∧ BlkR ρ w l b
  sep : ∀ n m b b' l l', h n = some b → h m = some b' → n ≠ m → (b.isRo && b'.isRo) = false → ρ n = some l → ρ m = some l' → l.blk ≠ l'.blk
  even : ∀ n l, ρ n = some l → n % 2 = 0 → l.ex = 0
def upd (h : AH) (W : Nat) (h' : AH) : AH := fun n => if W.testBit n = true then h' n else h n
structure Ev1 (G ρ : Env) (h : AH) (w : World) (nx nx' W : Nat) (h' : AH) (ρ' : Env) (w' : World) : Prop where
  sub : Sub ρ ρ'
  dom : ∀ n l, ρ' n = some l → ρ n = some l ∨ (nx ≤ n ∧ n < nx')
  good : Good G ρ' (upd h W h') w'
  os : w'.os = w.os
  tape : w'.tape = w.tape
  output : w'.output = w.output
  size : w.heap.size ≤ w'.heap.size
  frame : ∀ b, b < w.heap.size → (∀ n l, W.testBit n = true → h n ≠ none → ρ n = some l → l.blk ≠ b) → w'.heap[b]? = w.heap[b]?
  nb : ∀ n l, h n = none → upd h W h' n ≠ none → ρ' n = some l → w.heap.size ≤ l.blk ∨ ∃ m lm, W.testBit m = true ∧ h m ≠ none ∧ ρ m = some lm ∧ lm.blk = l.blk
theorem upd_zero (h h' : AH) : upd h 0 h' = h := by funext n; simp [upd]
theorem Good.drew {G ρ : Env} {h : AH} {w : World} (g : Good G ρ h w) (n : Nat) : Good G ρ h { w with drawn := n } := ⟨g.base, g.sat, g.sep, g.even⟩
theorem Ev1.refl {G ρ : Env} {h : AH} {w : World} (g : Good G ρ h w) (nx : Nat) (h' : AH) : Ev1 G ρ h w nx nx 0 h' ρ w :=
  ⟨fun _ _ h => h, fun _ _ h => .inl h, by rw [upd_zero]; exact g, rfl, rfl, rfl, Nat.le_refl _, fun _ _ _ => rfl, fun n l h1 h2 => by rw [upd_zero] at h2; exact absurd h1 h2⟩
theorem Ev1.draw {G ρ : Env} {h : AH} {w : World} (g : Good G ρ h w) (nx d : Nat) (h' : AH) : Ev1 G ρ h w nx nx 0 h' ρ { w with drawn := d } :=
  ⟨fun _ _ h => h, fun _ _ h => .inl h, by rw [upd_zero]; exact g.drew d, rfl, rfl, rfl, Nat.le_refl _, fun _ _ _ => rfl, fun n l h1 h2 => by rw [upd_zero] at h2; exact absurd h1 h2⟩
theorem Ev1.trans {G ρ ρ1 ρ2 : Env} {h : AH} {w w1 w2 : World} {a b c W1 W2 : Nat} {h1 h2 : AH} (e1 : Ev1 G ρ h w a b W1 h1 ρ1 w1) (e2 : Ev1 G ρ1 (upd h W1 h1) w1 b c W2 h2 ρ2 w2)
    (hab : a ≤ b) (hbc : b ≤ c) (keep : ∀ n, W2.testBit n = false → h2 n = h1 n) (g : Good G ρ h w) : Ev1 G ρ h w a c (W1 ||| W2) h2 ρ2 w2 := by
  have hu : upd (upd h W1 h1) W2 h2 = upd h (W1 ||| W2) h2 := by
    funext n
    simp only [upd, Nat.testBit_or, Bool.or_eq_true]
    by_cases k2 : W2.testBit n = true
    · simp [k2]
    · have k2' : W2.testBit n = false := by simpa using k2
      by_cases k1 : W1.testBit n = true
      · simp [k1, k2', keep n k2']
      · simp [k1, k2']
  have alive1 : ∀ n l, h n ≠ none → ρ n = some l → ρ1 n = some l := fun n l _ hl => e1.sub n l hl
  refine ⟨fun n l hl => e2.sub n l (e1.sub n l hl), ?_, by rw [← hu]; exact e2.good, e2.os.trans e1.os, e2.tape.trans e1.tape, e2.output.trans e1.output, Nat.le_trans e1.size e2.size, ?_, ?_⟩
  · intro n l hl
    rcases e2.dom n l hl with h3 | h3
    · rcases e1.dom n l h3 with h4 | h4
      · exact .inl h4
      · exact .inr ⟨h4.1, by omega⟩
    · exact .inr ⟨by omega, h3.2⟩
  · intro B hB hne
    have f1 := e1.frame B hB fun n l hn ha hl => hne n l (by simp [Nat.testBit_or, hn]) ha hl
    rw [← f1]
    refine e2.frame B (Nat.lt_of_lt_of_le hB e1.size) fun n l hn ha hl => ?_
    by_cases hh : h n = none
    · rcases e1.nb n l hh ha hl with h3 | ⟨m, lm, h3, h4, h5, h6⟩
      · omega
      · rw [← h6]; exact hne m lm (by simp [Nat.testBit_or, h3]) h4 h5
    · obtain ⟨b, hb⟩ := Option.ne_none_iff_exists'.1 hh
      obtain ⟨l0, hl0, _⟩ := g.sat n b hb
      have := e1.sub n l0 hl0
      rw [this] at hl; cases hl
      exact hne n l (by simp [Nat.testBit_or, hn]) hh hl0
  · intro n l hh ha hl
    rw [← hu] at ha
    by_cases h1n : upd h W1 h1 n = none
    · rcases e2.nb n l h1n ha hl with h3 | ⟨m, lm, h3, h4, h5, h6⟩
      · exact .inl (Nat.le_trans e1.size h3)
      · by_cases hm : h m = none
        · rcases e1.nb m lm hm h4 h5 with h7 | ⟨m', lm', h7, h8, h9, h10⟩
          · exact .inl (by omega)
          · exact .inr ⟨m', lm', by simp [Nat.testBit_or, h7], h8, h9, h10.trans h6⟩
        · obtain ⟨b, hb⟩ := Option.ne_none_iff_exists'.1 hm
          obtain ⟨l0, hl0, _⟩ := g.sat m b hb
          have := e1.sub m l0 hl0
          rw [this] at h5; cases h5
          exact .inr ⟨m, lm, by simp [Nat.testBit_or, h3], hm, hl0, h6⟩
    · obtain ⟨b, hb⟩ := Option.ne_none_iff_exists'.1 h1n
      obtain ⟨l0, hl0, _⟩ := e1.good.sat n b hb
      have := e2.sub n l0 hl0
      rw [this] at hl; cases hl
      rcases e1.nb n l hh h1n hl0 with h3 | ⟨m, lm, h3, h4, h5, h6⟩
      · exact .inl h3
      · exact .inr ⟨m, lm, by simp [Nat.testBit_or, h3], h4, h5, h6⟩
theorem testBit_bit (n k : Nat) : (bit n).testBit k = true ↔ k = n := by
  show (2 ^ n).testBit k = true ↔ k = n
  rw [Nat.testBit_two_pow]; simp [eq_comm]

/-- A new row of cells, of its own. -/
theorem Ev1.row {G ρ : Env} {h : AH} {w : World} (g : Good G ρ h w) (nx nx' n : Nat) (hn : nx ≤ n) (hn' : n < nx') (hf : ∀ k, nx ≤ k → k < nx' → ρ k = none) (cs ds rest : List Value) (e : TypeId) (ex es : Nat) (hr : RL ρ cs ds)
    (hx : rest.length = ex * es) (hev : n % 2 = 0 → ex = 0) (h' : AH) (h1 : h' n = some (.row cs e es)) (fz : Nat × Nat) (hz : ∀ k, fz.1 ≤ k → k < fz.2 → (ds ++ rest).length ≤ k) :
    Ev1 G ρ h w nx nx' (bit n) h' (fun k => if k = n then some ⟨w.heap.size, 0, cs.length, ex, es⟩ else ρ k) (w.alloc (.cells ⟨ds ++ rest⟩ e fz)) := by
  have hρ : ρ n = none := hf n hn hn'
  have hh : h n = none := by
    cases hq : h n with
    | none => rfl
    | some b => obtain ⟨l, hl, _⟩ := g.sat n b hq; rw [hρ] at hl; cases hl
  have hs : Sub ρ (fun k => if k = n then some ⟨w.heap.size, 0, cs.length, ex, es⟩ else ρ k) := by
    intro k l hl
    have : k ≠ n := by rintro rfl; rw [hρ] at hl; cases hl
    simp [this, hl]
  have hold : ∀ k l b, h k = some b → ρ k = some l → l.blk < w.heap.size := by
    intro k l b hk hl
    obtain ⟨l0, hl0, hb⟩ := g.sat k b hk
    rw [hl] at hl0; cases hl0
    exact hb.lt
  have hheap : ∀ B, B < w.heap.size → (w.alloc (.cells ⟨ds ++ rest⟩ e fz)).heap[B]? = w.heap[B]? := fun B hB => Below.heap_alloc w _ B hB
  refine ⟨hs, ?_, ⟨fun k l hl => hs k l (g.base k l hl), ?_, ?_, ?_⟩, rfl, rfl, rfl, by show _ ≤ (w.heap.push _).size; simp, fun B hB _ => hheap B hB, ?_⟩
  · intro k l hl
    by_cases hk : k = n
    · subst hk; exact .inr ⟨hn, hn'⟩
    · simp [hk] at hl; exact .inl hl
  · intro k b hb
    simp only [upd, testBit_bit] at hb
    by_cases hk : k = n
    · subst hk
      simp [h1] at hb; subst hb
      refine ⟨_, by simp; rfl, rfl, ds, ⟨ds ++ rest⟩, fz, hr.mono hs, heap_alloc_new w _, ?_, ?_, ?_, ?_⟩
      · intro j v hj
        have := (List.getElem?_eq_some_iff.1 hj).1
        simp [List.getElem?_append_left this, hj]
      · intro j; simpa using hz j
      · simp [hr.length, hx]
      · simp [hr.length]
    · simp [hk] at hb
      obtain ⟨l, hl, hbl⟩ := g.sat k b hb
      exact ⟨l, by simp [hk, hl], hbl.mono hs (hheap _ hbl.lt)⟩
  · intro k m b b' l l' hk hm hkm hro hl hl'
    simp only [upd, testBit_bit] at hk hm
    by_cases e1 : k = n <;> by_cases e2 : m = n <;> simp [e1, e2] at hk hm hl hl' hkm
    · have := hold m l' b' hm hl'
      subst hl; simp; omega
    · have := hold k l b hk hl
      subst hl'; simp; omega
    · exact g.sep k m b b' l l' hk hm hkm hro hl hl'
  · intro k l hl hk2
    by_cases hk : k = n
    · simp [hk] at hl; subst hl; subst hk; exact hev hk2
    · simp [hk] at hl; exact g.even k l hl hk2
  · intro k l hk hu hl
    simp only [upd, testBit_bit] at hu
    by_cases hkn : k = n
    · simp [hkn] at hl; subst hl; exact .inl (Nat.le_refl _)
    · simp [hkn, hk] at hu

/-- Cells of a row are written. -/
theorem Ev1.write {G ρ : Env} {h : AH} {w : World} (g : Good G ρ h w) (nx n : Nat) (l : Loc) (hl : ρ n = some l) {b0 : AB} (hh : h n = some b0) (hr0 : b0.isRo = false) (h' : AH) (b' : AB) (h1 : h' n = some b') (hr1 : b'.isRo = false) (w' : World)
    (hb : BlkR ρ w' l b') (ho : ∀ B, B ≠ l.blk → w'.heap[B]? = w.heap[B]?) (hos : w'.os = w.os) (ht : w'.tape = w.tape) (hout : w'.output = w.output) (hsz : w'.heap.size = w.heap.size) :
    Ev1 G ρ h w nx nx (bit n) h' ρ w' := by
  refine ⟨fun _ _ h => h, fun _ _ h => .inl h, ⟨g.base, ?_, ?_, g.even⟩, hos, ht, hout, Nat.le_of_eq hsz.symm, ?_, ?_⟩
  · intro k b hk
    simp only [upd, testBit_bit] at hk
    by_cases e : k = n
    · subst e; simp [h1] at hk; subst hk; exact ⟨l, hl, hb⟩
    · simp [e] at hk
      obtain ⟨l2, hl2, hb2⟩ := g.sat k b hk
      exact ⟨l2, hl2, hb2.mono (fun _ _ h => h) (ho _ (g.sep k n b b0 l2 l hk hh e (by rw [hr0, Bool.and_false]) hl2 hl))⟩
  · intro k m c1 c2 l1 l2 hk hm hkm hro
    have alive : ∀ j c, upd h (bit n) h' j = some c → ∃ c0, h j = some c0 ∧ c0.isRo = c.isRo := by
      intro j c hj
      simp only [upd, testBit_bit] at hj
      by_cases e : j = n
      · subst e; simp [h1] at hj; subst hj; exact ⟨b0, hh, by rw [hr0, hr1]⟩
      · simp [e] at hj; exact ⟨c, hj, rfl⟩
    obtain ⟨d1, q1, q2⟩ := alive k c1 hk
    obtain ⟨d2, q3, q4⟩ := alive m c2 hm
    exact g.sep k m d1 d2 l1 l2 q1 q3 hkm (by rw [q2, q4]; exact hro)
  · intro B hB hne
    exact ho B fun e => hne n l (by simp [testBit_bit]) (by rw [hh]; simp) hl e.symm
  · intro k l2 hk hu
    simp only [upd, testBit_bit] at hu
    by_cases e : k = n
    · subst e; rw [hk] at hh; cases hh
    · simp [e, hk] at hu
end Go.Proofs.YtlegcfjafdihlaaGreatDoor.Ev

/-
  The evaluator of calls at given arguments, and its soundness: part D. It speaks of any program.
-/
namespace Go.Proofs.YtlegcfjafdihlaaGreatDoor.Ev
open Go.RowKit
set_option linter.unusedSimpArgs false
set_option linter.unusedVariables false

section
variable {d : Nat} {P : Program} {G : Env} {o : Oper} {a : Act} {w w' : World} {K : Act → World → Prop} {Q : Exit → Act → World → Prop}
theorem wp_val {u : Value} (h : (execOp a.eval o).run P w = .ok (.value u) w') (hk : K (a.put o.dst u) w') : o.wp P a w K Q := by
  unfold Oper.wp; rw [h]; exact hk
theorem wp_skp (h : (execOp a.eval o).run P w = .ok .skip w') (hk : K (a.put o.dst undef) w') : o.wp P a w K Q := by
  unfold Oper.wp; rw [h]; exact hk
def OpOk (P : Program) (G : Env) (d : Nat) (T : Tri Value) (H : Hp) (nx : Nat) (o : Oper) (v : Value) (H' : Hp) (nx' S W : Nat) : Prop :=
  ∀ (ρ : Env) (h : AH) (w : World) (a : Act), Good G ρ h w → (∀ n, S.testBit n = true → h n = hp H n) → (∀ n, nx ≤ n → n < nx' → ρ n = none) →
    (∀ x ∈ o.op.operands, R ρ (opnd d T x) (a.eval x)) → ∀ (K : Act → World → Prop) (Q : Exit → Act → World → Prop),
      (∀ ρ' u w', Ev1 G ρ h w nx nx' W (hp H') ρ' w' → R ρ' v u → K (a.put o.dst u) w') → o.wp P a w K Q
structure Stp (H : Hp) (nx : Nat) (H' : Hp) (nx' W : Nat) : Prop where
  le : nx ≤ nx'
  keep : ∀ n, W.testBit n = false → hp H' n = hp H n
  par : nx % 2 = 0 → nx' % 2 = 0
theorem Stp.refl (H : Hp) (nx : Nat) : Stp H nx H nx 0 := ⟨Nat.le_refl _, fun _ _ => rfl, id⟩
theorem Stp.set {H : Hp} {nx nx' n : Nat} {b : Option AB} (hl : nx ≤ nx') (hp' : nx % 2 = 0 → nx' % 2 = 0) (hn : n < 2 ^ dep) : Stp H nx (H.set dep n b) nx' (bit n) :=
  ⟨hl, fun k hk => by
    rw [hp_set H n b hn]
    have : k ≠ n := fun e => by have := (testBit_bit n k).2 e; rw [hk] at this; cases this
    simp [this], hp'⟩
theorem R_undef {ρ : Env} : R ρ undef undef := .flat _ rfl

/-- An operation that changes nothing. -/
theorem opOk_quiet {T : Tri Value} {H : Hp} {nx S : Nat} {v : Value} (hq : ∀ (ρ : Env) (h : AH) (w : World) (a : Act), Good G ρ h w → (∀ n, S.testBit n = true → h n = hp H n) →
    (∀ x ∈ o.op.operands, R ρ (opnd d T x) (a.eval x)) → ∃ u, (execOp a.eval o).run P w = .ok (.value u) w ∧ R ρ v u) : OpOk P G d T H nx o v H nx S 0 := by
  intro ρ h w a g hS hf hx K Q hK
  obtain ⟨u, hu, hr⟩ := hq ρ h w a g hS hx
  exact wp_val hu (hK ρ u w (Ev1.refl g nx _) hr)
theorem add_none (b o j : Nat) : (⟨b, o, none⟩ : Addr).add j = ⟨b, o + j, none⟩ := by unfold Addr.add; split <;> simp_all
theorem BlkR.cell {ρ : Env} {l : Loc} {cs : List Value} {e : TypeId} {es : Nat} (h : BlkR ρ w l (.row cs e es)) {k : Nat} {v : Value} (hk : cs[k]? = some v) : ∃ u, w.cell? ⟨l.blk, l.off + k, none⟩ = some u ∧ R ρ v u := by
  obtain ⟨_, ds, c, fz, h1, h2, h3, _⟩ := h
  obtain ⟨u, hu, hr⟩ := h1.at hk
  refine ⟨u, ?_, hr⟩
  have := h3 k u hu
  simp [World.cell?, h2, this]
theorem BlkR.sub {ρ : Env} {l : Loc} {cs ds : List Value} {e : TypeId} {es : Nat} (h : BlkR ρ w l (.row cs e es)) {k n : Nat} (hk : lsub cs k n = some ds) : ∃ us, (loadCells ⟨l.blk, l.off + k, none⟩ n).run P w = .ok ⟨us⟩ w ∧ RL ρ ds us := by
  obtain ⟨e1, e2, e3⟩ := lsub_eq _ _ _ _ hk
  obtain ⟨_, es, c, fz, h1, h2, h3, h4⟩ := h
  refine ⟨(es.drop k).take n, ?_, e1 ▸ (h1.drop k).take n⟩
  have hl : ((es.drop k).take n).length = n := by simp [h1.length]; omega
  have := run_loadCells_list (P := P) w ⟨l.blk, l.off + k, none⟩ ((es.drop k).take n) (fun j v hv => by
    rw [add_none]
    have hj : j < n := by have := (List.getElem?_eq_some_iff.1 hv).1; omega
    rw [List.getElem?_take, if_pos hj, List.getElem?_drop] at hv
    have := h3 _ v hv
    simp [World.cell?, h2, Nat.add_assoc, this])
  rw [hl] at this
  exact this
theorem run_store_row {b off : Nat} {e : TypeId} {fz : Nat × Nat} : ∀ (vs : List Value) (i : Nat) (w : World) (c : Array Value), w.heap[b]? = some (.cells c e fz) → (∀ k, fz.1 ≤ k → k < fz.2 → c.size ≤ k) →
    off + i + vs.length ≤ c.size → (∀ v ∈ vs, v.oneCell' = true) → ∃ w' c', (storeCells ⟨b, off, none⟩ vs i).run P w = .ok () w' ∧ w'.heap[b]? = some (.cells c' e fz) ∧ c'.size = c.size ∧
      (∀ k, k < off + i ∨ off + i + vs.length ≤ k → c'[k]? = c[k]?) ∧ (∀ j, j < vs.length → c'[off + i + j]? = vs[j]?) ∧ (∀ B, B ≠ b → w'.heap[B]? = w.heap[B]?) ∧ w'.os = w.os ∧ w'.tape = w.tape ∧ w'.output = w.output ∧ w'.heap.size = w.heap.size
  | [], i, w, c, h, _, _, _ => ⟨w, c, rfl, h, rfl, fun _ _ => rfl, fun j hj => by simp at hj, fun _ _ => rfl, rfl, rfl, rfl, rfl⟩
  | v :: vs, i, w, c, h, hz, hl, h1 => by
    simp only [List.length_cons] at hl
    have hc : w.cell? ⟨b, off + i, none⟩ = c[off + i]? := by simp [World.cell?, h]
    have hlt : off + i < c.size := by omega
    have hf : w.frozen? ⟨b, off + i, none⟩ = false := by
      simp only [World.frozen?, h]
      rw [Bool.and_eq_false_iff]
      by_cases h2 : fz.1 ≤ off + i
      · right
        simp only [decide_eq_false_iff_not]
        intro h3
        have := hz _ h2 h3
        omega
      · left; simpa using h2
    have hw : (w.setCell ⟨b, off + i, none⟩ v).heap[b]? = some (.cells (c.setIfInBounds (off + i) v) e fz) := by
      simp [World.setCell, Array.getElem?_modify, h]
    obtain ⟨w', c', r1, r2, r3, r4, r5, r6, r7, r8, r9, r10⟩ := run_store_row (b := b) (off := off) vs (i + 1) (w.setCell ⟨b, off + i, none⟩ v) (c.setIfInBounds (off + i) v) hw (by simpa using hz) (by simp; omega) (fun x hx => h1 x (by simp [hx]))
    refine ⟨w', c', ?_, r2, by simpa using r3, ?_, ?_, ?_, r7, r8, r9, by rw [r10]; simp [World.setCell]⟩
    · simp only [storeCells, add_none, Sem.run_bind]
      rw [run_store P w _ v .plain (h1 v (by simp))]
      simp only [hc, Array.getElem?_eq_getElem hlt, hf, Bool.false_eq_true, if_false, Result.andThen_ok]
      exact r1
    · intro k hk
      simp only [List.length_cons] at hk
      rw [r4 k (by omega), Array.getElem?_setIfInBounds_ne (by omega)]
    · intro j hj
      cases j with
      | zero =>
        rw [r4 (off + i + 0) (by omega)]
        simp [hlt]
      | succ j =>
        simp only [List.length_cons] at hj
        have := r5 j (by omega)
        rw [show off + i + (j + 1) = off + (i + 1) + j by omega, this]
        simp
    · intro B hB
      rw [r6 B hB]
      simp only [World.setCell, Array.getElem?_modify]
      rw [if_neg (fun e => hB e.symm)]
/-- Cells of a row of the memory are written. -/
theorem Ev1.stores {ρ : Env} {h : AH} (g : Good G ρ h w) (nx n : Nat) {l : Loc} (hl : ρ n = some l) {cs cs' vs us : List Value} {e : TypeId} {es off : Nat} (hb : h n = some (.row cs e es)) (hbl : BlkR ρ w l (.row cs e es)) (h1 : vs.all (·.oneCell') = true) (hr : RL ρ vs us)
    (hput : lput cs off vs = some cs') (h' : AH) (hh' : h' n = some (.row cs' e es)) :
    ∃ w', (storeCells ⟨l.blk, l.off + off, none⟩ us).run P w = .ok () w' ∧ Ev1 G ρ h w nx nx (bit n) h' ρ w' := by
  obtain ⟨e1, e2⟩ := lput_eq _ _ _ _ hput
  obtain ⟨k0, ds, c, fz, k1, k2, k3, k4, k5, k6⟩ := hbl
  have hlen := hr.length
  have hdl := k1.length
  have ho : ∀ v ∈ us, v.oneCell' = true := by
    have := hr.one
    rw [h1] at this
    exact List.all_eq_true.1 this
  obtain ⟨w', c', r1, r2, r3, r4, r5, r6, r7, r8, r9, r10⟩ := run_store_row (P := P) (b := l.blk) (off := l.off + off) us 0 w c k2 k4 (by omega) ho
  refine ⟨w', r1, Ev1.write g nx n l hl hb rfl h' _ hh' rfl w' ⟨k0, ds.take off ++ us ++ ds.drop (off + us.length), c', fz, ?_, r2, ?_, by rw [r3]; exact k4, by rw [r3]; exact k5, ?_⟩ r6 r7 r8 r9 r10⟩
  · rw [e1, ← hlen]
    exact ((k1.take off).append hr).append (k1.drop _)
  · intro k v hv
    by_cases ha : k < off
    · rw [List.getElem?_append_left (by simp; omega), List.getElem?_append_left (by simp; omega), List.getElem?_take, if_pos ha] at hv
      rw [r4 _ (by omega)]
      exact k3 k v hv
    · by_cases hb : k < off + us.length
      · rw [List.getElem?_append_left (by simp; omega), List.getElem?_append_right (by simp; omega)] at hv
        have := r5 (k - off) (by omega)
        rw [show l.off + k = l.off + off + 0 + (k - off) by omega, this, ← hv]
        congr 1
        simp; omega
      · rw [List.getElem?_append_right (by simp; omega), List.getElem?_drop] at hv
        rw [r4 _ (by omega)]
        refine k3 k v ?_
        rw [← hv]
        congr 1
        simp; omega
  · simp; omega
theorem Good.at {ρ : Env} {h : AH} {H : Hp} (g : Good G ρ h w) {n : Nat} {l : Loc} {b : AB} (hl : ρ n = some l) (hh : h n = hp H n) (hb : H.at n = some b) : h n = some b ∧ BlkR ρ w l b := by
  have : h n = some b := by rw [hh]; exact hb
  obtain ⟨l', hl', hbl⟩ := g.sat n b this
  rw [hl] at hl'; cases hl'
  exact ⟨this, hbl⟩
theorem bit_self (n : Nat) : (bit n).testBit n = true := (testBit_bit n n).2 rfl

/-! ### The operations -/
theorem load_ok {T : Tri Value} {H : Hp} {nx : Nat} {t : TypeId} {x : Operand} {n off : Nat} {cs : List Value} {e : TypeId} {es : Nat} {v : Value} (hop : o.op = .load t x) (hx : opnd d T x = .pointer (some ⟨n, off, none⟩)) (hb : H.at n = some (.row cs e es))
    (hv : (∃ sz ds, prun P (isAgg t) = some true ∧ prun P (sizeOf t) = some sz ∧ lsub cs off sz = some ds ∧ v = .agg ⟨ds⟩) ∨ (prun P (isAgg t) = some false ∧ lget cs off = some v)) : OpOk P G d T H nx o v H nx (bit n) 0 := by
  refine opOk_quiet fun ρ h w a g hS hr => ?_
  have h1 := hr x (by rw [hop]; simp [Op.operands])
  rw [hx] at h1
  obtain ⟨_, l, hl, hp1⟩ := h1.ptr_inv
  obtain ⟨hh, hbl⟩ := g.at hl (hS n (bit_self n)) hb
  rcases hv with ⟨sz, ds, ha, hs, hsub, rfl⟩ | ⟨ha, hget⟩
  · obtain ⟨us, hu, hrl⟩ := hbl.sub (P := P) hsub
    refine ⟨.agg ⟨us⟩, ?_, .agg _ _ hrl⟩
    simp only [execOp, hop, hp1, Instr.loadAt, Instr.sureAddr, loadVar, Sem.run_bind, Sem.run_pure, Result.andThen_ok, prun_sound ha w, prun_sound hs w, hu, if_true]
  · rw [lget_eq] at hget
    obtain ⟨u, hu, hru⟩ := hbl.cell hget
    refine ⟨u, ?_, hru⟩
    simp only [execOp, hop, hp1, Instr.loadAt, Instr.sureAddr, loadVar, Sem.run_bind, Sem.run_pure, Result.andThen_ok, prun_sound ha w, Bool.false_eq_true, if_false, run_load, hu]
theorem store_ok {T : Tri Value} {H : Hp} {nx : Nat} {t : TypeId} {x y : Operand} {n off sz es : Nat} {cs cs' vs : List Value} {e : TypeId} (hop : o.op = .store t x y) (hx : opnd d T x = .pointer (some ⟨n, off, none⟩)) (hb : H.at n = some (.row cs e es))
    (hs : prun P (sizeOf t) = some sz) (hy : (opnd d T y).cells = ⟨vs⟩) (hl : vs.length = sz) (h1 : vs.all (·.oneCell') = true) (hput : lput cs off vs = some cs') (hn : n < 2 ^ dep) :
    OpOk P G d T H nx o undef (H.set dep n (some (.row cs' e es))) nx (bit n) (bit n) := by
  intro ρ h w a g hS hf hr K Q hK
  have r1 := hr x (by rw [hop]; simp [Op.operands])
  have r2 := (hr y (by rw [hop]; simp [Op.operands])).cells
  rw [hx] at r1
  rw [hy] at r2
  obtain ⟨_, l, hl', hp1⟩ := r1.ptr_inv
  obtain ⟨hh, hbl⟩ := g.at hl' (hS n (bit_self n)) hb
  obtain ⟨w', hw, hev⟩ := Ev1.stores (P := P) g nx n hl' hh hbl h1 r2 hput (hp (H.set dep n (some (.row cs' e es)))) (by rw [hp_set _ _ _ hn]; simp)
  refine wp_skp ?_ (hK ρ undef w' hev R_undef)
  have hsz : (a.eval y).cells.size = sz := by rw [← hl, ← r2.length]; simp
  simp only [execOp, hop, hp1, Instr.storeAt, Instr.sureAddr, storeVar, Sem.run_bind, Sem.run_pure, Result.andThen_ok, prun_sound hs w, hsz, ne_eq, not_true_eq_false, if_false, hw]
theorem newRow_ok {T : Tri Value} {H : Hp} {nx : Nat} {cs : List Value} {e : TypeId} {f : Addr → Value} (hb : nx + 1 < 2 ^ dep)
    (hq : ∀ (ρ : Env) (h : AH) (w : World) (a : Act), Good G ρ h w → (∀ x ∈ o.op.operands, R ρ (opnd d T x) (a.eval x)) → ∃ ds, RL ρ cs ds ∧ (execOp a.eval o).run P w = .ok (.value (f ⟨w.heap.size, 0, none⟩)) (w.alloc (.cells ⟨ds⟩ e)))
    (hf : ∀ (ρ : Env) (l : Loc), l.ex = 0 → ρ nx = some l → R ρ (f ⟨nx, 0, none⟩) (f ⟨l.blk, l.off, none⟩)) : OpOk P G d T H nx o (f ⟨nx, 0, none⟩) (H.set dep nx (some (.row cs e 1))) (nx + 2) (bit nx) (bit nx) := by
  intro ρ h w a g hS hfr hr K Q hK
  obtain ⟨ds, hrl, hrun⟩ := hq ρ h w a g hr
  have ev := Ev1.row g nx (nx + 2) nx (Nat.le_refl _) (by omega) hfr cs ds [] e 0 1 hrl (by simp) (fun _ => rfl) (hp (H.set dep nx (some (.row cs e 1)))) (by rw [hp_set _ _ _ (by omega)]; simp) (0, 0) (fun k _ hk => by simp at hk)
  rw [List.append_nil] at ev
  exact wp_val hrun (hK _ _ _ ev (hf _ ⟨w.heap.size, 0, cs.length, 0, 1⟩ rfl (by simp)))
theorem alloc_ok {T : Tri Value} {H : Hp} {nx : Nat} {t : TypeId} {z : Value} {cs : List Value} (hop : o.op = .alloc t) (hz : prun P (zeroValue t) = some z) (hc : z.cells = ⟨cs⟩) (hfl : cs.all flat0 = true) (hb : nx + 1 < 2 ^ dep) :
    OpOk P G d T H nx o (.pointer (some ⟨nx, 0, none⟩)) (H.set dep nx (some (.row cs t 1))) (nx + 2) (bit nx) (bit nx) :=
  newRow_ok (f := fun a => .pointer (some a)) hb (fun ρ h w a g _ => ⟨cs, RL.refl0 fun v hv => flat_of_flat0 (List.all_eq_true.1 hfl v hv), by
    simp only [execOp, hop, Instr.alloc, Sem.run_bind, Sem.run_pure, Result.andThen_ok, prun_sound hz w, newVar, newRow, run_newObj, hc]; rfl⟩)
    (fun ρ l _ h => by have := R.ptr nx 0 l h; simpa using this)
theorem box_ok {T : Tri Value} {H : Hp} {nx : Nat} {t : TypeId} {x : Operand} {cs : List Value} (hop : o.op = .box t x) (hc : (opnd d T x).cells = ⟨cs⟩) (hb : nx + 1 < 2 ^ dep) :
    OpOk P G d T H nx o (.pointer (some ⟨nx, 0, none⟩)) (H.set dep nx (some (.row cs t 1))) (nx + 2) (bit nx) (bit nx) :=
  newRow_ok (f := fun a => .pointer (some a)) hb (fun ρ h w a g hr => ⟨(a.eval x).cells.toList, by
      have := (hr x (by rw [hop]; simp [Op.operands])).cells
      rw [hc] at this; exact this, by
    simp only [execOp, hop, Instr.box, Sem.run_bind, Sem.run_pure, Result.andThen_ok, newVar, newRow, run_newObj]; rfl⟩)
    (fun ρ l _ h => by have := R.ptr nx 0 l h; simpa using this)
theorem fieldAddr_ok {T : Tri Value} {H : Hp} {nx : Nat} {s : TypeId} {x : Operand} {i n off k : Nat} {fs : Array Field} {f : Field} (hop : o.op = .fieldAddr s x i) (hu : prun P (underlying s) = some (.struct fs)) (hf : fs[i]? = some f)
    (hx : opnd d T x = .pointer (some ⟨n, off, none⟩)) (hs : prun P (sizeOf f.type) = some (k + 1)) : OpOk P G d T H nx o (.pointer (some ⟨n, off + f.offset, none⟩)) H nx 0 0 := by
  refine opOk_quiet fun ρ h w a g hS hr => ?_
  have h1 := hr x (by rw [hop]; simp [Op.operands])
  rw [hx] at h1
  obtain ⟨_, l, hl, hp1⟩ := h1.ptr_inv
  refine ⟨.pointer (some ⟨l.blk, l.off + (off + f.offset), none⟩), ?_, .ptr _ _ _ hl⟩
  simp only [execOp, hop, hp1, Instr.fieldAt, Instr.sureAddr, fieldPlace, Sem.run_bind, Sem.run_pure, Result.andThen_ok, prun_sound hu w, prun_sound hs w, hf, Nat.add_eq_zero_iff, Nat.one_ne_zero, and_false, if_false, add_none, Nat.add_assoc]
theorem int_inv {ρ : Env} {k : IntKind} {i : Int} {u : Value} (h : R ρ (.int k i) u) : u = .int k i := h.flat_inv rfl
theorem indexAddr_slice_ok {T : Tri Value} {H : Hp} {nx : Nat} {t e : TypeId} {x i : Operand} {n off len c sz : Nat} {kk : IntKind} {k : Int} (hop : o.op = .indexAddr t x i) (hi : opnd d T i = .int kk k) (hu : prun P (underlying t) = some (.slice e))
    (hx : opnd d T x = .slice (some ⟨n, off, none⟩) len c) (hs : prun P (sizeOf e) = some sz) (hk : 0 ≤ k ∧ k < len) : OpOk P G d T H nx o (.pointer (some ⟨n, off + k.toNat * sz, none⟩)) H nx 0 0 := by
  refine opOk_quiet fun ρ h w a g hS hr => ?_
  have h1 := hr x (by rw [hop]; simp [Op.operands])
  have h2 := hr i (by rw [hop]; simp [Op.operands])
  rw [hx] at h1
  rw [hi] at h2
  obtain ⟨_, l, hl, hp1⟩ := h1.slice_inv
  refine ⟨.pointer (some ⟨l.blk, l.off + (off + k.toNat * sz), none⟩), ?_, .ptr _ _ _ hl⟩
  simp only [execOp, hop, hp1, int_inv h2, Instr.indexAt, asIntOf, Sem.run_bind, Sem.run_pure, Result.andThen_ok, prun_sound hu w, prun_sound hs w, if_pos hk, add_none, Nat.add_assoc]
theorem indexAddr_array_ok {T : Tri Value} {H : Hp} {nx : Nat} {t e : TypeId} {x i : Operand} {n off len sz : Nat} {kk : IntKind} {k : Int} (hop : o.op = .indexAddr t x i) (hi : opnd d T i = .int kk k) (hu : prun P (underlying t) = some (.array len e))
    (hx : opnd d T x = .pointer (some ⟨n, off, none⟩)) (hs : prun P (sizeOf e) = some sz) (hk : 0 ≤ k ∧ k < len) : OpOk P G d T H nx o (.pointer (some ⟨n, off + k.toNat * sz, none⟩)) H nx 0 0 := by
  refine opOk_quiet fun ρ h w a g hS hr => ?_
  have h1 := hr x (by rw [hop]; simp [Op.operands])
  have h2 := hr i (by rw [hop]; simp [Op.operands])
  rw [hx] at h1
  rw [hi] at h2
  obtain ⟨_, l, hl, hp1⟩ := h1.ptr_inv
  refine ⟨.pointer (some ⟨l.blk, l.off + (off + k.toNat * sz), none⟩), ?_, .ptr _ _ _ hl⟩
  simp only [execOp, hop, hp1, int_inv h2, Instr.indexAt, Instr.sureAddr, asIntOf, Sem.run_bind, Sem.run_pure, Result.andThen_ok, prun_sound hu w, prun_sound hs w, if_pos hk, add_none, Nat.add_assoc]
end
end Go.Proofs.YtlegcfjafdihlaaGreatDoor.Ev

/-
  The evaluator of calls at given arguments, and its soundness: part F. It speaks of any program.
-/
namespace Go.Proofs.YtlegcfjafdihlaaGreatDoor.Ev
open Go.RowKit
set_option linter.unusedSimpArgs false
set_option linter.unusedVariables false

/-! ### Whatever order: sequences -/
section
variable {α : Type} {n : Nat} {Wr : Nat → Nat → Prop} {F : Nat → Nat → α}
theorem last_writer (Wr : Nat → Nat → Prop) (x : Nat) : ∀ m, (∃ i, i < m ∧ Wr i x ∧ ∀ k, i < k → k < m → ¬ Wr k x) ∨ (∀ i, i < m → ¬ Wr i x)
  | 0 => .inr fun i hi => by omega
  | m + 1 => by
    by_cases h : Wr m x
    · exact .inl ⟨m, by omega, h, fun k h1 h2 => by omega⟩
    · rcases last_writer Wr x m with ⟨i, h1, h2, h3⟩ | h1
      · refine .inl ⟨i, by omega, h2, fun k h4 h5 => ?_⟩
        by_cases e : k = m
        · subst e; exact h
        · exact h3 k h4 (by omega)
      · refine .inr fun i hi => ?_
        by_cases e : i = m
        · subst e; exact h
        · exact h1 i (by omega)
theorem seq_same (keep : ∀ i, i < n → ∀ x, ¬ Wr i x → F (i + 1) x = F i x) (x : Nat) (i : Nat) : ∀ j, i ≤ j → j ≤ n → (∀ k, i ≤ k → k < j → ¬ Wr k x) → F j x = F i x
  | 0, h1, _, _ => by have : i = 0 := by omega
                      subst this; rfl
  | j + 1, h1, h2, h3 => by
    by_cases e : i = j + 1
    · subst e; rfl
    · rw [keep j (by omega) x (h3 j (by omega) (by omega))]
      exact seq_same keep x i j (by omega) (by omega) fun k h4 h5 => h3 k h4 (by omega)
structure PropD (n : Nat) (Wr : Nat → Nat → Prop) (F : Nat → Nat → α) (base : Nat → α) (D : Nat → Prop) (g : Nat → α) : Prop where
  none : ∀ x, (∀ i, i < n → D i → ¬ Wr i x) → g x = base x
  last : ∀ i, i < n → D i → ∀ x, Wr i x → (∀ k, k < n → D k → i < k → ¬ Wr k x) → g x = F (i + 1) x
theorem PropD.agree {base : Nat → α} {D : Nat → Prop} {g : Nat → α} (p : PropD n Wr F base D g) (keep : ∀ i, i < n → ∀ x, ¬ Wr i x → F (i + 1) x = F i x) {j x : Nat} (hj : j < n) (hD : ¬ D j) (hb : base x = F 0 x)
    (conf : ∀ i, i < n → Wr i x → (i < j → D i) ∧ (j < i → ¬ D i)) : g x = F j x := by
  rcases last_writer Wr x j with ⟨i, h1, h2, h3⟩ | h1
  · rw [p.last i (by omega) ((conf i (by omega) h2).1 h1) x h2, seq_same keep x (i + 1) j (by omega) (by omega) fun k h4 h5 => h3 k (by omega) h5]
    intro k hk hd hik hw
    by_cases e : k < j
    · exact h3 k hik e hw
    · by_cases e2 : k = j
      · subst e2; exact hD hd
      · exact (conf k hk hw).2 (by omega) hd
  · rw [p.none x, hb, seq_same keep x 0 j (by omega) (by omega) fun k _ h5 => h1 k h5]
    intro i hi hd hw
    by_cases e : i < j
    · exact h1 i e hw
    · by_cases e2 : i = j
      · subst e2; exact hD hd
      · exact (conf i hi hw).2 (by omega) hd
theorem PropD.step {base : Nat → α} {D : Nat → Prop} {g g' : Nat → α} (p : PropD n Wr F base D g) {j : Nat} (h1 : ∀ x, Wr j x → g' x = F (j + 1) x) (h2 : ∀ x, ¬ Wr j x → g' x = g x)
    (conf : ∀ x, Wr j x → ∀ i, i < n → D i → j < i → ¬ Wr i x) {D' : Nat → Prop} (hD : ∀ i, i < n → (D' i ↔ D i ∨ i = j)) (hj : j < n) : PropD n Wr F base D' g' := by
  constructor
  · intro x hx
    have hjx : ¬ Wr j x := hx j hj ((hD j hj).2 (.inr rfl))
    rw [h2 x hjx]
    exact p.none x fun i hi hd => hx i hi ((hD i hi).2 (.inl hd))
  · intro i hi hd x hw hlast
    by_cases hjx : Wr j x
    · have hij : i = j := by
        rcases (hD i hi).1 hd with hdi | e
        · by_cases h3 : i < j
          · exact absurd hjx (hlast j hj ((hD j hj).2 (.inr rfl)) h3)
          · by_cases e : i = j
            · exact e
            · exact absurd hw (conf x hjx i hi hdi (by omega))
        · exact e
      subst hij
      exact h1 x hjx
    · rw [h2 x hjx]
      rcases (hD i hi).1 hd with hdi | e
      · exact p.last i hi hdi x hw fun k hk hdk hik => hlast k hk ((hD k hk).2 (.inl hdk)) hik
      · subst e; exact absurd hw hjx
theorem PropD.final {base : Nat → α} {D : Nat → Prop} {g : Nat → α} (p : PropD n Wr F base D g) (keep : ∀ i, i < n → ∀ x, ¬ Wr i x → F (i + 1) x = F i x) (hD : ∀ i, i < n → D i) (x : Nat) (hb : (∀ i, i < n → ¬ Wr i x) → base x = F 0 x) : g x = F n x := by
  rcases last_writer Wr x n with ⟨i, h1, h2, h3⟩ | h1
  · rw [p.last i h1 (hD i h1) x h2 fun k hk _ hik => h3 k hik hk, seq_same keep x (i + 1) n (by omega) (by omega) fun k h4 h5 => h3 k (by omega) h5]
  · rw [p.none x fun i hi _ => h1 i hi, hb h1, seq_same keep x 0 n (by omega) (by omega) fun k _ h5 => h1 k h5]
end

theorem Ev1.wide {G ρ ρ' : Env} {h h' : AH} {w w' : World} {a b a' b' W : Nat} (e : Ev1 G ρ h w a b W h' ρ' w') (h1 : a' ≤ a) (h2 : b ≤ b') : Ev1 G ρ h w a' b' W h' ρ' w' :=
  { e with dom := fun n l hl => (e.dom n l hl).imp id fun h => ⟨by omega, by omega⟩ }
/-- Two steps whose names are in one interval. -/
theorem Ev1.trans' {G ρ ρ1 ρ2 : Env} {h : AH} {w w1 w2 : World} {a c W1 W2 : Nat} {h1 h2 : AH} (e1 : Ev1 G ρ h w a c W1 h1 ρ1 w1) (e2 : Ev1 G ρ1 (upd h W1 h1) w1 a c W2 h2 ρ2 w2)
    (keep : ∀ n, W2.testBit n = false → h2 n = upd h W1 h1 n) (g : Good G ρ h w) : Ev1 G ρ h w a c (W1 ||| W2) h2 ρ2 w2 := by
  have hk : ∀ n, W1.testBit n = true → W2.testBit n = false → h2 n = h1 n := fun n k1 k2 => by rw [keep n k2]; simp [upd, k1]
  have hu : upd (upd h W1 h1) W2 h2 = upd h (W1 ||| W2) h2 := by
    funext n
    simp only [upd, Nat.testBit_or, Bool.or_eq_true]
    by_cases k2 : W2.testBit n = true
    · simp [k2]
    · have k2' : W2.testBit n = false := by simpa using k2
      by_cases k1 : W1.testBit n = true
      · simp [k1, k2', hk n k1 k2']
      · simp [k1, k2']
  refine ⟨fun n l hl => e2.sub n l (e1.sub n l hl), ?_, by rw [← hu]; exact e2.good, e2.os.trans e1.os, e2.tape.trans e1.tape, e2.output.trans e1.output, Nat.le_trans e1.size e2.size, ?_, ?_⟩
  · intro n l hl
    rcases e2.dom n l hl with h3 | h3
    · exact e1.dom n l h3
    · exact .inr h3
  · intro B hB hne
    have f1 := e1.frame B hB fun n l hn ha hl => hne n l (by simp [Nat.testBit_or, hn]) ha hl
    rw [← f1]
    refine e2.frame B (Nat.lt_of_lt_of_le hB e1.size) fun n l hn ha hl => ?_
    by_cases hh : h n = none
    · rcases e1.nb n l hh ha hl with h3 | ⟨m, lm, h3, h4, h5, h6⟩
      · omega
      · rw [← h6]; exact hne m lm (by simp [Nat.testBit_or, h3]) h4 h5
    · obtain ⟨b, hb⟩ := Option.ne_none_iff_exists'.1 hh
      obtain ⟨l0, hl0, _⟩ := g.sat n b hb
      have := e1.sub n l0 hl0
      rw [this] at hl; cases hl
      exact hne n l (by simp [Nat.testBit_or, hn]) hh hl0
  · intro n l hh ha hl
    rw [← hu] at ha
    by_cases h1n : upd h W1 h1 n = none
    · rcases e2.nb n l h1n ha hl with h3 | ⟨m, lm, h3, h4, h5, h6⟩
      · exact .inl (Nat.le_trans e1.size h3)
      · by_cases hm : h m = none
        · rcases e1.nb m lm hm h4 h5 with h7 | ⟨m', lm', h7, h8, h9, h10⟩
          · exact .inl (by omega)
          · exact .inr ⟨m', lm', by simp [Nat.testBit_or, h7], h8, h9, h10.trans h6⟩
        · obtain ⟨b, hb⟩ := Option.ne_none_iff_exists'.1 hm
          obtain ⟨l0, hl0, _⟩ := g.sat m b hb
          have := e1.sub m l0 hl0
          rw [this] at h5; cases h5
          exact .inr ⟨m, lm, by simp [Nat.testBit_or, h3], hm, hl0, h6⟩
    · obtain ⟨b, hb⟩ := Option.ne_none_iff_exists'.1 h1n
      obtain ⟨l0, hl0, _⟩ := e1.good.sat n b hb
      have := e2.sub n l0 hl0
      rw [this] at hl; cases hl
      rcases e1.nb n l hh h1n hl0 with h3 | ⟨m, lm, h3, h4, h5, h6⟩
      · exact .inl h3
      · exact .inr ⟨m, lm, by simp [Nat.testBit_or, h3], h4, h5, h6⟩
/-- Only what the step leaves counts. -/
theorem Ev1.as {G ρ ρ' : Env} {h h1 h2 : AH} {w w' : World} {a b W : Nat} (e : Ev1 G ρ h w a b W h1 ρ' w') (hu : ∀ n, W.testBit n = true → h1 n = h2 n) : Ev1 G ρ h w a b W h2 ρ' w' := by
  have : upd h W h1 = upd h W h2 := by funext n; unfold upd; split <;> first | exact hu n ‹_› | rfl
  exact ⟨e.sub, e.dom, this ▸ e.good, e.os, e.tape, e.output, e.size, e.frame, fun n l h3 h4 h5 => e.nb n l h3 (by rw [this]; exact h4) h5⟩
/-- More names may be said to be written: they hold what they held. -/
theorem Ev1.more {G ρ ρ' : Env} {h h1 : AH} {w w' : World} {a b W W2 : Nat} (e : Ev1 G ρ h w a b W h1 ρ' w') (hs : ∀ n, W.testBit n = true → W2.testBit n = true) (hu : ∀ n, W2.testBit n = true → W.testBit n = false → h1 n = h n) : Ev1 G ρ h w a b W2 h1 ρ' w' := by
  have : upd h W h1 = upd h W2 h1 := by
    funext n; unfold upd
    by_cases k : W.testBit n = true
    · simp [k, hs n k]
    · have k' : W.testBit n = false := by simpa using k
      by_cases k2 : W2.testBit n = true
      · simp [k', k2, hu n k2 k']
      · simp [k', k2]
  exact ⟨e.sub, e.dom, this ▸ e.good, e.os, e.tape, e.output, e.size, fun b hb hne => e.frame b hb fun n l h3 => hne n l (hs n h3), fun n l h3 h4 h5 => by
    rcases e.nb n l h3 (by rw [this]; exact h4) h5 with h6 | ⟨m, lm, h6, h7⟩
    · exact .inl h6
    · exact .inr ⟨m, lm, hs m h6, h7⟩⟩
end Go.Proofs.YtlegcfjafdihlaaGreatDoor.Ev

/-
  The evaluator of calls at given arguments, and its soundness: part G. It speaks of any program.
-/
namespace Go.Proofs.YtlegcfjafdihlaaGreatDoor.Ev
open Go.RowKit
set_option linter.unusedSimpArgs false
set_option linter.unusedVariables false

structure Sn where
  T : Tri Value
  H : Hp
  nx : Nat
def StepAt (P : Program) (G : Env) (d : Nat) (ops : Array Oper) (s : Sn) (o : Oper) (v : Value) (S W : Nat) (s' : Sn) : Prop :=
  s'.T = put d s.T o.dst v ∧ Stp s.H s.nx s'.H s'.nx W ∧
  ((Region.wanted o (yieldedT d ops s.T) = true ∧ OpOk P G d s.T s.H s.nx o v s'.H s'.nx S W) ∨ (Region.wanted o (yieldedT d ops s.T) = false ∧ v = undef ∧ s'.H = s.H ∧ s'.nx = s.nx ∧ W = 0))
def glbOk (G : Env) : Operand → Prop
  | .tmp _ => True
  | .const v => flat v = true
  | .global g => ∃ l, G g = some l ∧ l.blk = g ∧ l.off = 0
  | .func _ => True
structure RegSt (G : Env) (d : Nat) (ops : Array Oper) (sz : Nat) : Prop where
  size : sz ≤ 2 ^ d
  dst : ∀ (i : Nat) (o : Oper), ops[i]? = some o → ∀ d, o.dst = some d → d < sz
  looks : ∀ (i : Nat) (o : Oper), ops[i]? = some o → ∀ x ∈ o.looksAt ops, x < sz
  glb : ∀ (i : Nat) (o : Oper), ops[i]? = some o → ∀ x ∈ o.op.operands, glbOk G x
structure RegDr (ops : Array Oper) : Prop where
  edges : ∀ (i : Nat) (o : Oper), ops[i]? = some o → ∀ e ∈ o.after, Region.binds .any e = true → e.on < i
  pairs : ∀ (i j : Nat) (oi oj : Oper), i < j → ops[i]? = some oi → ops[j]? = some oj → (∃ e ∈ oj.after, Region.binds .any e = true ∧ e.on = i) ∨ oi.apart ops oj = true
inductive Anc (ops : Array Oper) (i : Nat) : Nat → Prop
  | edge (j : Nat) (o : Oper) (e : Edge) (h : ops[j]? = some o) (he : e ∈ o.after) (hb : Region.binds .any e = true) (hi : e.on = i) : Anc ops i j
  | step (j : Nat) (o : Oper) (e : Edge) (h : ops[j]? = some o) (he : e ∈ o.after) (hb : Region.binds .any e = true) (ha : Anc ops i e.on) : Anc ops i j

def RT (d : Nat) (ρ : Env) (sz : Nat) (T : Tri Value) (a : Act) : Prop := a.tmps.size = sz ∧ ∀ x, x < sz → R ρ (tget d T x) (a.tmps.getD x undef)
theorem tget_put {d : Nat} {T : Tri Value} {y x : Nat} {v : Value} (hd : y < 2 ^ d) (hx : x < 2 ^ d) : tget d (put d T (some y) v) x = if x = y then v else tget d T x := by
  unfold tget put
  by_cases e : x = y
  · subst e; simp [Tri.get_set]
  · simp only [if_neg e]
    rw [Tri.get_set_ne d T y x v (Ne.symm e) hd hx]
theorem R.bool_inv {ρ : Env} {v u : Value} (h : R ρ v u) (b : Bool) : v = .bool b ↔ u = .bool b := by
  constructor
  · rintro rfl; exact h.flat_inv rfl
  · rintro rfl; cases h with
    | flat => rfl
theorem wanted_eq {ops : Array Oper} {o : Oper} {y y' : Nat → Option Bool} (h : ∀ g wv, o.guard = some (g, wv) → y g = y' g) : Region.wanted o y = Region.wanted o y' := by
  unfold Region.wanted
  cases hg : o.guard with
  | none => rfl
  | some gw => obtain ⟨g, wv⟩ := gw; simp only [h g wv hg]
theorem yielded_eq {d : Nat} {ρ : Env} {ops : Array Oper} {T : Tri Value} {tmps : Array Value} {g : Nat} (h : ∀ t, (ops[g]?).bind (·.dst) = some t → t < tmps.size ∧ R ρ (tget d T t) (tmps.getD t undef)) : yielded ops tmps g = yieldedT d ops T g := by
  unfold yielded yieldedT
  cases ht : (ops[g]?).bind (·.dst) with
  | none => rfl
  | some t =>
    obtain ⟨h1, h2⟩ := h t ht
    have e : tmps[t]? = some (tmps.getD t undef) := by simp [h1]
    simp only [Option.bind_some, e]
    generalize tmps.getD t undef = u at *
    generalize tget d T t = v at *
    by_cases hv : ∃ b, v = .bool b
    · obtain ⟨b, rfl⟩ := hv
      rw [(h2.bool_inv b).1 rfl]
    · have hu : ¬ ∃ b, u = .bool b := fun ⟨b, e⟩ => hv ⟨b, (h2.bool_inv b).2 e⟩
      split
      · rename_i he; exact absurd ⟨_, Option.some.inj he⟩ hu
      · split
        · rename_i he; exact absurd ⟨_, rfl⟩ hv
        · rfl

theorem countP_set (p q : Nat → Bool) (j : Nat) (hq : ∀ i, i ≠ j → q i = p i) (hp : p j = true) (hqj : q j = false) : ∀ m, (List.range m).countP q + (if j < m then 1 else 0) = (List.range m).countP p
  | 0 => by simp
  | m + 1 => by
    have ih := countP_set p q j hq hp hqj m
    simp only [List.range_succ, List.countP_append, List.countP_cons, List.countP_nil]
    by_cases e : m = j
    · subst e
      simp [hp, hqj] at ih ⊢
      omega
    · rw [hq m e]
      by_cases h : j < m
      · simp [h, show j < m + 1 by omega] at ih ⊢; omega
      · simp [h, show ¬ j < m + 1 by omega] at ih ⊢; omega

section
variable {d : Nat} {P : Program} {G : Env} {ops : Array Oper} {sz : Nat} {f : Nat → Sn} {ev : Nat → Value} {Sx Wx : Nat → Nat} {St Wt : Nat} {ρ0 : Env} {h0 : AH} {w0 : World} {df : List Deferred} {Q : Exit → Act → World → Prop}
def dstW (ops : Array Oper) (i x : Nat) : Prop := ∃ o, ops[i]? = some o ∧ o.dst = some x
structure Inv (d : Nat) (G : Env) (ops : Array Oper) (sz : Nat) (f : Nat → Sn) (Wx : Nat → Nat) (Wt : Nat) (ρ0 : Env) (h0 : AH) (w0 : World) (df : List Deferred) (D : Nat → Prop) (a : Act) (w : World) (ρ : Env) (g : AH) (Tc : Nat → Value) : Prop where
  closed : ∀ (i : Nat) (o : Oper), ops[i]? = some o → D i → ∀ e ∈ o.after, Region.binds .any e = true → D e.on
  ev : Ev1 G ρ0 h0 w0 (f 0).nx (f ops.size).nx Wt g ρ w
  out : ∀ n, Wt.testBit n = false → g n = h0 n
  names : ∀ n l, ρ n = some l → ρ0 n = some l ∨ ∃ i, i < ops.size ∧ D i ∧ (f i).nx ≤ n ∧ n < (f (i + 1)).nx
  heap : PropD ops.size (fun i n => (Wx i).testBit n = true) (fun i => hp (f i).H) h0 D g
  tmps : PropD ops.size (dstW ops) (fun i x => if x < sz then tget d (f i).T x else undef) (fun x => if x < sz then tget d (f 0).T x else undef) D Tc
  size : a.tmps.size = sz
  rel : ∀ x, x < sz → R ρ (Tc x) (a.tmps.getD x undef)
  defers : a.defers = df

theorem upd_out {g h : AH} {W : Nat} (ho : ∀ n, W.testBit n = false → g n = h n) : upd h W g = g := by
  funext n; unfold upd; split
  · rfl
  · rename_i k; exact (ho n (by simpa using k)).symm
theorem or_sub {a b : Nat} (h : ∀ n, b.testBit n = true → a.testBit n = true) : a ||| b = a := by
  apply Nat.eq_of_testBit_eq
  intro n
  rw [Nat.testBit_or]
  cases hb : b.testBit n
  · simp
  · simp [h n hb]
theorem nx_mono {n : Nat} (hst : ∀ i, i < n → (f i).nx ≤ (f (i + 1)).nx) (i : Nat) : ∀ j, i ≤ j → j ≤ n → (f i).nx ≤ (f j).nx
  | 0, h, _ => by have : i = 0 := by omega
                  subst this; exact Nat.le_refl _
  | j + 1, h, h2 => by
    by_cases e : i = j + 1
    · subst e; exact Nat.le_refl _
    · exact Nat.le_trans (nx_mono hst i j (by omega) (by omega)) (hst j (by omega))

/-- One operation that may come up now. -/
theorem inv_step (hst : RegSt G d ops sz) (hdr : RegDr ops) (hops : ∀ i o, ops[i]? = some o → StepAt P G d ops (f i) o (ev i) (Sx i) (Wx i) (f (i + 1)))
    (hg : Good G ρ0 h0 w0) (hS : ∀ n, St.testBit n = true → h0 n = hp (f 0).H n) (hSx : ∀ i, i < ops.size → ∀ n, (Sx i).testBit n = true → St.testBit n = true) (hWx : ∀ i, i < ops.size → ∀ n, (Wx i).testBit n = true → Wt.testBit n = true)
    (hfr : ∀ n, (f 0).nx ≤ n → n < (f ops.size).nx → ρ0 n = none)
    (hdyn : ∀ i j, i < j → j < ops.size → (∀ n, ¬ ((Wx i).testBit n = true ∧ ((Sx j).testBit n = true ∨ (Wx j).testBit n = true)) ∧ ¬ ((Wx j).testBit n = true ∧ (Sx i).testBit n = true)) ∨ Anc ops i j)
    {D : Nat → Prop} {a : Act} {w : World} {ρ : Env} {g : AH} {Tc : Nat → Value} (hI : Inv d G ops sz f Wx Wt ρ0 h0 w0 df D a w ρ g Tc) {j : Nat} {o : Oper} (ho : ops[j]? = some o) (hD : ¬ D j)
    (hready : ∀ e ∈ o.after, Region.binds .any e = true → D e.on) {D' : Nat → Prop} (hD' : ∀ i, D' i ↔ D i ∨ i = j) {K : Act → World → Prop}
    (hK : ∀ a' w' ρ' g' Tc', Inv d G ops sz f Wx Wt ρ0 h0 w0 df D' a' w' ρ' g' Tc' → K a' w') : wpOp P ops Q j K a w := by
  have hj : j < ops.size := (Array.getElem?_eq_some_iff.1 ho).1
  have hlt : ∀ i, i < ops.size → ∃ oi, ops[i]? = some oi := fun i hi => ⟨ops[i], Array.getElem?_eq_getElem hi⟩
  have hmono : ∀ i, i < ops.size → (f i).nx ≤ (f (i + 1)).nx := fun i hi => by obtain ⟨oi, hoi⟩ := hlt i hi; exact (hops i oi hoi).2.1.le
  have hanc : ∀ i k, Anc ops i k → (D k ∨ k = j) → D i := by
    intro i k hA
    induction hA with
    | edge k ok e hk he hb hi =>
      intro hDk
      subst hi
      rcases hDk with hDk | rfl
      · exact hI.closed k ok hk hDk e he hb
      · rw [ho] at hk; cases hk; exact hready e he hb
    | step k ok e hk he hb _ ih =>
      intro hDk
      refine ih (.inl ?_)
      rcases hDk with hDk | rfl
      · exact hI.closed k ok hk hDk e he hb
      · rw [ho] at hk; cases hk; exact hready e he hb
  obtain ⟨hT, hstp, hstep⟩ := hops j o ho
  -- what the operation looks at is what it was in the lexical order
  have keepT : ∀ i, i < ops.size → ∀ x, ¬ dstW ops i x → (fun i x => if x < sz then tget d (f i).T x else undef) (i + 1) x = (fun i x => if x < sz then tget d (f i).T x else undef) i x := by
    intro i hi x hx
    obtain ⟨oi, hoi⟩ := hlt i hi
    dsimp only
    by_cases hxs : x < sz
    · rw [if_pos hxs, if_pos hxs, (hops i oi hoi).1]
      cases hd : oi.dst with
      | none => rfl
      | some d =>
        have hds := hst.dst i oi hoi d hd
        have hsz := hst.size
        rw [tget_put (Nat.lt_of_lt_of_le hds hsz) (Nat.lt_of_lt_of_le hxs hsz), if_neg]
        rintro rfl
        exact hx ⟨oi, hoi, hd⟩
    · rw [if_neg hxs, if_neg hxs]
  have keepH : ∀ i, i < ops.size → ∀ n, ¬ (Wx i).testBit n = true → hp (f (i + 1)).H n = hp (f i).H n := by
    intro i hi n hn
    obtain ⟨oi, hoi⟩ := hlt i hi
    exact (hops i oi hoi).2.1.keep n (by simpa using hn)
  have pairT : ∀ i oi, ops[i]? = some oi → i ≠ j → ∀ x, oi.dst = some x → (x ∈ o.looksAt ops ∨ o.dst = some x) → (i < j → D i) ∧ (j < i → ¬ D i) := by
    intro i oi hoi hne x hx hlook
    refine ⟨fun hij => ?_, fun hji hDi => ?_⟩
    · rcases hdr.pairs i j oi o hij hoi ho with ⟨e, he, hb, hi⟩ | hap
      · rw [← hi]; exact hready e he hb
      · obtain ⟨h1, h2, h3⟩ := Oper.apart_spec hap
        rcases hlook with h4 | h4
        · exact absurd h4 (h1 x hx)
        · exact absurd h4 (h2 x hx)
    · rcases hdr.pairs j i o oi hji ho hoi with ⟨e, he, hb, hi⟩ | hap
      · have := hI.closed i oi hoi hDi e he hb
        rw [hi] at this; exact hD this
      · obtain ⟨h1, h2, h3⟩ := Oper.apart_spec hap
        rcases hlook with h4 | h4
        · exact absurd h4 (h3 x hx)
        · exact absurd hx (h2 x h4)
  have hlook : ∀ x ∈ o.looksAt ops, Tc x = tget d (f j).T x := by
    intro x hx
    have hxs := hst.looks j o ho x hx
    have := hI.tmps.agree (F := fun i x => if x < sz then tget d (f i).T x else undef) keepT hj hD rfl (fun i hi ⟨oi, hoi, hd⟩ => by
      by_cases e : i = j
      · subst e; exact ⟨fun h => by omega, fun h => by omega⟩
      · exact pairT i oi hoi e x hd (.inl hx)) (x := x)
    simpa [hxs] using this
  have hwant : Region.wanted o (yielded ops a.tmps) = Region.wanted o (yieldedT d ops (f j).T) := by
    refine wanted_eq (ops := ops) fun gd wv hgd => ?_
    refine yielded_eq (ρ := ρ) fun t ht => ?_
    have hl : t ∈ o.looksAt ops := by simp [Oper.looksAt, hgd, ht]
    have hts := hst.looks j o ho t hl
    exact ⟨by rw [hI.size]; exact hts, by rw [← hlook t hl]; exact hI.rel t hts⟩
  have hsz := hst.size
  have newT : ∀ v u ρ', Sub ρ ρ' → R ρ' v u → v = ev j → ∃ Tc', PropD ops.size (dstW ops) (fun i x => if x < sz then tget d (f i).T x else undef) (fun x => if x < sz then tget d (f 0).T x else undef) D' Tc' ∧
      (∀ x, x < sz → R ρ' (Tc' x) ((a.put o.dst u).tmps.getD x undef)) ∧ (a.put o.dst u).tmps.size = sz := by
    intro v u ρ' hsub hr hv
    subst hv
    refine ⟨fun x => if o.dst = some x then ev j else Tc x, ?_, ?_, ?_⟩
    · refine hI.tmps.step (j := j) (fun x hx => ?_) (fun x hx => ?_) (fun x hx i hi hDi hji hwi => ?_) (fun i _ => hD' i) hj
      · obtain ⟨o', ho', hd⟩ := hx
        rw [ho] at ho'; cases ho'
        have hds := hst.dst j o ho x hd
        simp only [hd, if_true, if_pos hds]
        rw [hT, hd, tget_put (Nat.lt_of_lt_of_le hds hsz) (Nat.lt_of_lt_of_le hds hsz), if_pos rfl]
      · have : o.dst ≠ some x := fun h => hx ⟨o, ho, h⟩
        simp [this]
      · obtain ⟨o', ho', hd⟩ := hx
        rw [ho] at ho'; cases ho'
        obtain ⟨oi, hoi, hdi⟩ := hwi
        exact (pairT i oi hoi (by omega) x hdi (.inr hd)).2 hji hDi
    · intro x hx
      dsimp only
      cases hd : o.dst with
      | none => simp only [Act.put]; simpa using (hI.rel x hx).mono hsub
      | some d =>
        have hds := hst.dst j o ho d hd
        by_cases e : d = x
        · subst e
          have : d < a.tmps.size := by rw [hI.size]; exact hds
          simp [Act.put, this, hr]
        · have e2 : ¬ (some d = some x) := fun h => e (Option.some.inj h)
          simp only [if_neg e2, Act.put]
          have := (hI.rel x hx).mono hsub
          simpa [Array.getElem?_setIfInBounds_ne e] using this
    · cases hd : o.dst <;> simp [Act.put, hI.size]
  have hdef : ∀ u, (a.put o.dst u).defers = df := by intro u; cases hd : o.dst <;> simp [Act.put, hI.defers]
  have closed' : ∀ (i : Nat) (oi : Oper), ops[i]? = some oi → D' i → ∀ e ∈ oi.after, Region.binds .any e = true → D' e.on := by
    intro i oi hoi hDi e he hb
    rcases (hD' i).1 hDi with h1 | rfl
    · exact (hD' _).2 (.inl (hI.closed i oi hoi h1 e he hb))
    · rw [ho] at hoi; cases hoi; exact (hD' _).2 (.inl (hready e he hb))
  unfold wpOp
  simp only [ho]
  rcases hstep with ⟨hw1, hok⟩ | ⟨hw1, hv, hH, hnx, hW0⟩
  · rw [hwant, hw1, if_pos rfl]
    left
    have confH : ∀ n, ((Sx j).testBit n = true ∨ (Wx j).testBit n = true) → ∀ i, i < ops.size → (Wx i).testBit n = true → i ≠ j → (i < j → D i) ∧ (j < i → ¬ D i) := by
      intro n hn i hi hw hne
      refine ⟨fun hij => ?_, fun hji hDi => ?_⟩
      · rcases hdyn i j hij hj with h1 | h1
        · exact absurd ⟨hw, hn⟩ (h1 n).1
        · exact hanc i j h1 (.inr rfl)
      · rcases hdyn j i hji hi with h1 | h1
        · rcases hn with h2 | h2
          · exact absurd ⟨hw, h2⟩ (h1 n).2
          · exact absurd ⟨h2, .inr hw⟩ (h1 n).1
        · exact hD (hanc j i h1 (.inl hDi))
    have hgood : Good G ρ g w := by have := hI.ev.good; rwa [upd_out hI.out] at this
    refine hok ρ g w a hgood (fun n hn => ?_) (fun n h1 h2 => ?_) (fun x hx => ?_) K Q (fun ρ' u w' he hr => ?_)
    · exact hI.heap.agree (F := fun i => hp (f i).H) keepH hj hD (hS n (hSx j hj n hn)) fun i hi hwi => by
        by_cases e : i = j
        · subst e; exact ⟨fun h => by omega, fun h => by omega⟩
        · exact confH n (.inl hn) i hi hwi e
    · cases hq : ρ n with
      | none => rfl
      | some l =>
        rcases hI.names n l hq with h3 | ⟨i, hi, hDi, h3, h4⟩
        · have := hfr n (Nat.le_trans (nx_mono hmono 0 j (by omega) (by omega)) h1) (Nat.lt_of_lt_of_le h2 (nx_mono hmono (j + 1) ops.size (by omega) (Nat.le_refl _)))
          rw [this] at h3; cases h3
        · exfalso
          by_cases e : i = j
          · subst e; exact hD hDi
          · by_cases h5 : i < j
            · have := nx_mono hmono (i + 1) j (by omega) (by omega); omega
            · have := nx_mono hmono (j + 1) i (by omega) (by omega); omega
    · cases x with
      | tmp t =>
        have hl : t ∈ o.looksAt ops := List.mem_append_left _ (List.mem_filterMap.2 ⟨.tmp t, by simpa using hx, rfl⟩)
        have hts := hst.looks j o ho t hl
        have := hI.rel t hts
        rw [hlook t hl] at this
        exact this
      | const v => exact .flat v (hst.glb j o ho _ hx)
      | global k =>
        obtain ⟨l, h1, h2, h3⟩ := hst.glb j o ho _ hx
        have := R.ptr k 0 l (hgood.base k l h1)
        rw [h2, h3] at this
        exact this
      | func k => exact .flat _ rfl
    · obtain ⟨Tc', t1, t2, t3⟩ := newT (ev j) u ρ' he.sub hr rfl
      have hu : ∀ n, (Wx j).testBit n = true → hp (f (j + 1)).H n = upd g (Wx j) (hp (f (j + 1)).H) n := fun n hn => by simp [upd, hn]
      have he2 := (he.as hu).wide (nx_mono hmono 0 j (by omega) (by omega)) (nx_mono hmono (j + 1) ops.size (by omega) (Nat.le_refl _))
      have hev := Ev1.trans' hI.ev (by rw [upd_out hI.out]; exact he2) (fun n hn => by rw [upd_out hI.out]; simp [upd, hn]) hg
      rw [or_sub (hWx j hj)] at hev
      refine hK _ w' ρ' (upd g (Wx j) (hp (f (j + 1)).H)) Tc' ⟨closed', hev, fun n hn => ?_, fun n l hl => ?_, ?_, t1, t3, t2, hdef u⟩
      · have : (Wx j).testBit n = false := by
          cases hq : (Wx j).testBit n
          · rfl
          · have := hWx j hj n hq; rw [hn] at this; cases this
        simp [upd, this, hI.out n hn]
      · rcases he.dom n l hl with h1 | h1
        · rcases hI.names n l h1 with h2 | ⟨i, hi, hDi, h2⟩
          · exact .inl h2
          · exact .inr ⟨i, hi, (hD' i).2 (.inl hDi), h2⟩
        · exact .inr ⟨j, hj, (hD' j).2 (.inr rfl), h1⟩
      · refine hI.heap.step (j := j) (fun n hn => by simp [upd, hn]) (fun n hn => ?_) (fun n hn i hi hDi hji hwi => ?_) (fun i _ => hD' i) hj
        · have : (Wx j).testBit n = false := by simpa using hn
          simp [upd, this]
        · exact (confH n (.inr hn) i hi hwi (by omega)).2 hji hDi
  · rw [hwant, hw1]
    simp only [Bool.false_eq_true, if_false]
    obtain ⟨Tc', t1, t2, t3⟩ := newT (ev j) undef ρ (fun _ _ h => h) (by rw [hv]; exact R_undef) rfl
    refine hK _ w ρ g Tc' ⟨closed', hI.ev, hI.out, fun n l hl => ?_, ?_, t1, t3, t2, hdef undef⟩
    · rcases hI.names n l hl with h2 | ⟨i, hi, hDi, h2⟩
      · exact .inl h2
      · exact .inr ⟨i, hi, (hD' i).2 (.inl hDi), h2⟩
    · refine hI.heap.step (j := j) (fun n hn => ?_) (fun n hn => rfl) (fun n hn => ?_) (fun i _ => hD' i) hj
      · rw [hW0] at hn; simp at hn
      · rw [hW0] at hn; simp at hn
end
end Go.Proofs.YtlegcfjafdihlaaGreatDoor.Ev
