import Derived.Test.YtlegcfjafdihlaaGreatDoorZR02
import Derived.BigQuiet
import Derived.Lib.Strings
import Derived.Maps.AppendAt
import Derived.Laws.AppendOwnNone
import Derived.Laws.IdiomStrings
import Derived.Lib.BufferRead
import Derived.Deep.RegionHeld3
/-
  A region that draws its order, whose operations keep a class of worlds. General. No condition.
-/
namespace Go.Proofs.YtlegcfjafdihlaaGreatDoor
open Go.RowKit
theorem region_class {P : Program} {id : Nat} {Q : Exit → Act → World → Prop} {a : Act} {w : World} {l : List Oper} (C : World → Prop) (hm : P.follows .mixedOrders = true) (hB : Region.lexB .any l.toArray = true) (hC : C w.drew)
    (h : wpQuiet P l.toArray C (fun a' => ∀ w', C w' → Q .normal a' w') l a) : (Code.region id l.toArray true).wp P Q a w :=
  wp_region_quiet hm hB hC (by simpa using h)
section
variable {P : Program} {ops : Array Oper} {Q : Exit → Act → World → Prop} {l : List Oper} {a : Act} {w : World} {T ty : TypeId} {x y : Operand} {dst : Option Tmp} {pos : String} {after : Array Edge} {g : Option (Nat × Bool)}
/-- It begins with a load. -/
theorem at_load (h : wpList P ops Q ({ dst := dst, op := .load T x, type := ty, pos := pos, after := after, guard := g } :: l) a w) : wpList P ops Q ({ dst := dst, op := .load T x, type := ty, pos := pos, after := after, guard := g } :: l) a w := h
end
end Go.Proofs.YtlegcfjafdihlaaGreatDoor
/-
  The line clock: plain; blocks of a clock. No condition.
-/
namespace Go.Proofs.YtlegcfjafdihlaaGreatDoor
open Go.RowKit
set_option linter.unusedSimpArgs false
set_option linter.unusedVariables false
set_option maxHeartbeats 4000000
set_option maxRecDepth 100000
attribute [local irreducible] wpQuiet

/-- A clock. -/
structure Ck where
  e : Bool
  r : Bool
  p : Int
  l : Int
def Ck.L (c : Ck) : List Value := [.bool c.e, .bool c.r, .int .i64 c.p, .int .i64 c.l]
/-- Is it valid? -/
def Ck.right (c : Ck) : Bool := decide (1 ≤ c.p) && decide (c.p ≤ 65535) && decide (1 ≤ c.l) && decide (c.l ≤ c.p)
def Ck.tick (c : Ck) : Ck := if c.l = 1 then { c with r := true, l := c.p } else { c with l := c.l - 1 }
def Ck.read (c : Ck) : Int := (if c.e = true then 64 else 0) + (if c.r = true then 128 else 0)
def Ck.write (c : Ck) (v : Int) : Ck := { c with e := decide (v / 64 % 2 = 1), r := c.r && decide (v / 128 % 2 = 1) }
def Ck.acc (c : Ck) (v : Int) : Ck := if v = 64 then { c with r := false } else c
def Ck.reset (c : Ck) : Ck := ⟨false, false, c.p, c.p⟩
def Ck.req (c : Ck) : List (Int × Int) := if c.e = true ∧ c.r = true then [(6, 64)] else []
def Ck.z : Ck := ⟨false, false, 0, 0⟩
theorem Ck.right_iff (c : Ck) : c.right = true ↔ 1 ≤ c.p ∧ c.p ≤ 65535 ∧ 1 ≤ c.l ∧ c.l ≤ c.p := by
  unfold Ck.right
  simp only [Bool.and_eq_true, decide_eq_true_eq]
  omega
theorem aggK_13 (w : World) : (isAgg 39).run Tryz.prog w = .ok true w := by kernel_rfl
theorem sizK_13 (w : World) : (sizeOf 39).run Tryz.prog w = .ok 4 w := by kernel_rfl
section
variable {ops : Array Oper} {rest : List Oper} {o : Oper} {a : Act} {w w0 w1 : World} {Q : Exit → Act → World → Prop} {l : List (Nat × TypeId × List Value)}
end
end Go.Proofs.YtlegcfjafdihlaaGreatDoor
/-
  A terminal line: plain. No condition.
-/
namespace Go.Proofs.YtlegcfjafdihlaaGreatDoor
open Go.RowKit
set_option linter.unusedSimpArgs false
set_option linter.unusedVariables false
set_option maxHeartbeats 4000000
set_option maxRecDepth 100000
attribute [local irreducible] wpQuiet

/-- A terminal line: enabled, ready, overrun, data of the receiver; enabled, ready, data, ticks left of the transmitter; output. -/
structure Ln where
  a : Bool
  b : Bool
  o : Bool
  d : Int
  e : Bool
  f : Bool
  t : Int
  l : Int
  s : ByteArray
def Ln.new : Ln := ⟨false, false, false, 0, false, true, 0, 0, ⟨#[]⟩⟩
/-- Is it valid? -/
def Ln.right (x : Ln) : Bool := decide (0 ≤ x.d) && decide (x.d ≤ 255) && decide (0 ≤ x.t) && decide (x.t ≤ 255) && decide (x.s.size ≤ 4096) && decide (0 ≤ x.l) && decide (x.l ≤ 4) && (x.f == decide (x.l = 0))
def stB (e r : Bool) : Int := (if e = true then 64 else 0) + (if r = true then 128 else 0)
def Ln.rd (x : Ln) (reg : Int) : Ln × Int :=
  if reg = 0 then (x, stB x.a x.b)
  else if reg = 2 then ({ x with b := false, o := false }, x.d + (if x.o = true then 32768 else 0))
  else if reg = 4 then (x, stB x.e x.f)
  else (x, 0)
def Ln.wr (x : Ln) (reg n : Int) : Ln :=
  if reg = 0 then { x with a := decide (n / 64 % 2 = 1) }
  else if reg = 4 then { x with e := decide (n / 64 % 2 = 1) }
  else if reg = 6 then (if x.f = true then { x with t := n % 256, l := 4, f := false } else x)
  else x
/-- The last bytes of an output, at most as many as the limit. -/
def lastO (l : List UInt8) : List UInt8 := l.drop (l.length - 4096)
def Ln.tick (x : Ln) : Ln :=
  if x.l ≤ 0 then x
  else if 1 < x.l then { x with l := x.l - 1 }
  else { x with l := 0, f := true, s := ⟨(lastO (x.s.data.toList ++ [UInt8.ofNat x.t.toNat])).toArray⟩ }
def Ln.req (x : Ln) (n : Int) : List (Int × Int) :=
  if 0 ≤ n ∧ n < 4 then (if x.a = true ∧ x.b = true then [(4, 128 + 8 * n)] else []) ++ (if x.e = true ∧ x.f = true then [(4, 132 + 8 * n)] else []) else []
def Ln.reset (x : Ln) : Ln := { x with a := false, b := false, o := false, e := false, f := true, l := 0 }
end Go.Proofs.YtlegcfjafdihlaaGreatDoor
/-
  Disk drives: plain. No condition.
-/
namespace Go.Proofs.YtlegcfjafdihlaaGreatDoor
open Go.RowKit
set_option linter.unusedSimpArgs false
set_option linter.unusedVariables false
set_option maxHeartbeats 4000000
set_option maxRecDepth 100000
attribute [local irreducible] wpQuiet

/-- A drive: its sectors, and the numbers of the bad ones. -/
structure Drv where
  S : List ByteArray
  B : List Int
def Drv.z : Drv := ⟨[], []⟩
def zB (n : Nat) : ByteArray := ⟨(List.replicate n (0 : UInt8)).toArray⟩
def okAt (n : Nat) (B : List Int) (k : Nat) : Bool := decide (0 ≤ B.getD k 0) && decide (B.getD k 0 < (n : Int)) && (decide (k = 0) || decide (B.getD (k - 1) 0 < B.getD k 0))
def okB (n : Nat) (B : List Int) : Bool := (List.range B.length).all (okAt n B)
/-- Is it valid? -/
def Drv.right (D : Drv) : Bool := decide (1 ≤ D.S.length) && decide (D.S.length ≤ 256) && D.S.all (fun s => s.size == 128) && okB D.S.length D.B
def Drv.rd (D : Drv) (k : Int) : ByteArray × Int := if 0 ≤ k ∧ k < (D.S.length : Int) then (if D.B.contains k = true then (⟨#[]⟩, 21) else (D.S.getD k.toNat ⟨#[]⟩, 0)) else (⟨#[]⟩, 2)
def Drv.wr (D : Drv) (k : Int) (s : ByteArray) : Drv × Int :=
  if 0 ≤ k ∧ k < (D.S.length : Int) then (if 128 < s.size then (Drv.z, 7) else if D.B.contains k = true then (Drv.z, 21) else (⟨D.S.set k.toNat (s ++ zB (128 - s.size)), D.B⟩, 0)) else (Drv.z, 2)
def insB (s : Int) : List Int → List Int
  | [] => [s]
  | b :: r => if b < s then b :: insB s r else s :: b :: r
def Drv.sp (D : Drv) (k : Int) : Drv × Int := if 0 ≤ k ∧ k < (D.S.length : Int) then (if D.B.contains k = true then (D, 0) else (⟨D.S, insB k D.B⟩, 0)) else (Drv.z, 2)
theorem okAt_iff (n : Nat) (B : List Int) (k : Nat) : okAt n B k = true ↔ 0 ≤ B.getD k 0 ∧ B.getD k 0 < (n : Int) ∧ (k = 0 ∨ B.getD (k - 1) 0 < B.getD k 0) := by
  unfold okAt; simp only [Bool.and_eq_true, Bool.or_eq_true, decide_eq_true_eq]; constructor
  · rintro ⟨⟨a, b⟩, c⟩; exact ⟨a, b, c⟩
  · rintro ⟨a, b, c⟩; exact ⟨⟨a, b⟩, c⟩
theorem okB_iff (n : Nat) (B : List Int) : okB n B = true ↔ ∀ k, k < B.length → okAt n B k = true := by
  unfold okB; rw [List.all_eq_true]; constructor
  · intro h k hk; exact h k (List.mem_range.2 hk)
  · intro h k hk; exact h k (List.mem_range.1 hk)
theorem right_iff (D : Drv) : D.right = true ↔ 1 ≤ D.S.length ∧ D.S.length ≤ 256 ∧ (∀ s ∈ D.S, s.size = 128) ∧ okB D.S.length D.B = true := by
  unfold Drv.right; simp only [Bool.and_eq_true, decide_eq_true_eq, List.all_eq_true, beq_iff_eq]; constructor
  · rintro ⟨⟨⟨a, b⟩, c⟩, d⟩; exact ⟨a, b, c, d⟩
  · rintro ⟨a, b, c, d⟩; exact ⟨⟨⟨a, b⟩, c⟩, d⟩
theorem getD_get {B : List Int} {k : Nat} {b : Int} (h : B[k]? = some b) : B.getD k 0 = b := by rw [List.getD_eq_getElem?_getD, h]; rfl
end Go.Proofs.YtlegcfjafdihlaaGreatDoor
/-
  Rows of strings, integers, bytes: what they read as, append. No condition.
-/
namespace Go.Proofs.YtlegcfjafdihlaaGreatDoor
open Go.RowKit
set_option linter.unusedSimpArgs false
set_option linter.unusedVariables false
set_option maxHeartbeats 4000000
set_option maxRecDepth 100000
attribute [local irreducible] wpQuiet

theorem slS_cell (w : World) : (isAgg 41).run Tryz.prog w = .ok false w := by kernel_rfl

theorem slI_cell (w : World) : (isAgg 31).run Tryz.prog w = .ok false w := by kernel_rfl
theorem str_cell (w : World) : (isAgg 9).run Tryz.prog w = .ok false w := by kernel_rfl
theorem aggD (w : World) : (isAgg 43).run Tryz.prog w = .ok true w := by kernel_rfl
theorem sizD (w : World) : (sizeOf 43).run Tryz.prog w = .ok 2 w := by kernel_rfl
/-- A slice that reads as these cells; without memory only if it is nil. -/
def Rz (w : World) (v : Value) (n : Nat) (cs : List Value) : Prop := Rw w v n cs ∧ ∀ m c, v = .slice none m c → c = 0
theorem Rz.below {w w' : World} {v : Value} {n : Nat} {cs : List Value} (h : Rz w v n cs) (hb : Below w.heap.size w w') : Rz w' v n cs := ⟨h.1.below hb, h.2⟩
theorem Rz.nil (w : World) : Rz w (.slice none 0 0) 0 [] := ⟨Rw.nil w, fun _ _ h => by cases h; rfl⟩
theorem Rz.of_own {w : World} {base s n : Nat} {t : TypeId} {v : Value} {xs : List Value} (h : w.ownsRow base t s v n xs) : Rz w v n xs := by
  refine ⟨Rw.of_own h, fun m c hv => ?_⟩
  rcases h.2 with ⟨e, _⟩ | ⟨g, cap, cur, e, _⟩
  · rw [e] at hv; cases hv; rfl
  · rw [e] at hv; cases hv
theorem Rz.form {w : World} {v : Value} {n : Nat} {cs : List Value} (h : Rz w v n cs) : (v = .slice none 0 0 ∧ n = 0 ∧ cs = []) ∨ ∃ a c, v = .slice (some a) n c ∧ n ≤ c := by
  obtain ⟨⟨A, c, rfl, hk, hc⟩, h2⟩ := h
  cases A with
  | none =>
    obtain rfl := h2 n c rfl
    obtain rfl : n = 0 := by omega
    refine .inl ⟨rfl, rfl, ?_⟩
    cases cs with
    | nil => rfl
    | cons u r => obtain ⟨a, ha, _⟩ := hc 0 u rfl; cases ha
  | some a => exact .inr ⟨a, c, rfl, hk⟩
theorem Rz.cell {w : World} {a : Addr} {n m c : Nat} {cs : List Value} (h : Rz w (.slice (some a) n c) m cs) : ∀ j u, cs[j]? = some u → w.cell? (a.add j) = some u := by
  obtain ⟨⟨A, c', hv, _, hc⟩, _⟩ := h
  cases hv
  intro j u hu
  obtain ⟨a', ha, h1, _⟩ := hc j u hu
  cases ha; exact h1
theorem Rz.addr {w : World} {A : Option Addr} {n m c j : Nat} {u : Value} {cs : List Value} (h : Rz w (.slice A n c) m cs) (hu : cs[j]? = some u) : ∃ a, A = some a := by
  obtain ⟨⟨A, c', hv, _, hc⟩, _⟩ := h
  cases hv
  obtain ⟨a', ha, _⟩ := hc j u hu
  exact ⟨a', ha⟩
theorem Rz.load {P : Program} {T : TypeId} {w : World} {a : Addr} {n m c k : Nat} {cs : List Value} {u : Value} (h : Rz w (.slice (some a) n c) m cs) (hagg : ∀ w, (isAgg T).run P w = .ok false w) (hu : cs[k]? = some u) : (Instr.loadAt T (.pointer (some (a.add k)))).run P w = .ok u w := by
  have h1 := h.cell k u hu
  simp only [Instr.loadAt, Instr.sureAddr, Go.loadVar, Sem.run_bind, Sem.run_pure, Result.andThen_ok, hagg, Bool.false_eq_true, if_false]
  simp [h1, go_sem]
def Sts (w : World) (v : Value) (S : List ByteArray) : Prop := Rz w v S.length (S.map Value.string)
def Its (w : World) (v : Value) (B : List Int) : Prop := Rz w v B.length (B.map (Value.int .i64))
/-- A drive in memory. -/
def Dv (w : World) (x : Value) (D : Drv) : Prop := ∃ vs vb, x = .agg #[vs, vb] ∧ Sts w vs D.S ∧ Its w vb D.B
theorem Dv.below {w w' : World} {x : Value} {D : Drv} (h : Dv w x D) (hb : Below w.heap.size w w') : Dv w' x D := by
  obtain ⟨vs, vb, e, h1, h2⟩ := h
  exact ⟨vs, vb, e, h1.below hb, h2.below hb⟩
theorem Dv.z (w : World) : Dv w (.agg #[.slice none 0 0, .slice none 0 0]) Drv.z := ⟨_, _, rfl, Rz.nil w, Rz.nil w⟩
theorem Sts.form {w : World} {v : Value} {S : List ByteArray} (h : Sts w v S) : ∃ A c, v = .slice A S.length c ∧ S.length ≤ c ∧ ∀ (k : Nat) s, S[k]? = some s → ∃ a, A = some a ∧ ∀ w', Below w.heap.size w w' → (Instr.loadAt 9 (.pointer (some (a.add k)))).run Tryz.prog w' = .ok (.string s) w' := by
  have h0 := h
  obtain ⟨⟨A, c, rfl, hk, _⟩, _⟩ := h
  refine ⟨A, c, rfl, hk, fun k s hs => ?_⟩
  have hu : (S.map Value.string)[k]? = some (.string s) := by rw [List.getElem?_map, hs]; rfl
  obtain ⟨a, rfl⟩ := Rz.addr h0 hu
  exact ⟨a, rfl, fun w' hb => Rz.load (Rz.below h0 hb) str_cell hu⟩
theorem Its.form {w : World} {v : Value} {B : List Int} (h : Its w v B) : ∃ A c, v = .slice A B.length c ∧ B.length ≤ c ∧ ∀ (k : Nat) s, B[k]? = some s → ∃ a, A = some a ∧ ∀ w', Below w.heap.size w w' → (Instr.loadAt 3 (.pointer (some (a.add k)))).run Tryz.prog w' = .ok (.int .i64 s) w' := by
  have h0 := h
  obtain ⟨⟨A, c, rfl, hk, _⟩, _⟩ := h
  refine ⟨A, c, rfl, hk, fun k s hs => ?_⟩
  have hu : (B.map (Value.int .i64))[k]? = some (.int .i64 s) := by rw [List.getElem?_map, hs]; rfl
  obtain ⟨a, rfl⟩ := Rz.addr h0 hu
  exact ⟨a, rfl, fun w' hb => Rz.load (Rz.below h0 hb) int_cell hu⟩
/-- A fact that the walk does not use. -/
def Hid (p : Prop) : Prop := p
theorem hid {p : Prop} (h : p) : Hid p := h
end Go.Proofs.YtlegcfjafdihlaaGreatDoor
/-
  New, Write of the reference. Condition: at most 2^40 sectors and bad ones.
-/
namespace Go.Proofs.YtlegcfjafdihlaaGreatDoor
open Go.RowKit
set_option linter.unusedSimpArgs false
set_option linter.unusedVariables false
set_option maxHeartbeats 4000000
set_option maxRecDepth 100000
attribute [local irreducible] wpQuiet

section
variable {ops : Array Oper} {rest : List Oper} {o : Oper} {a : Act} {w w0 w1 : World} {Q : Exit → Act → World → Prop} {l : List (Nat × TypeId × List Value)}
/-- A one-cell value is stored into the first block; the other blocks stay. -/
theorem wpList_bag_putV {B k : Nat} {t T : TypeId} {cs : List Value} {z : Value} (hX : Bag ((B, t, cs) :: l) w0 w) (hsz : ∀ w, (sizeOf T).run Tryz.prog w = .ok 1 w) (x y : Operand) (hop : o.op = Op.store T x y) (hal : w1 = w) (hx : a.eval x = .pointer (some ⟨B, k, none⟩)) (hy : a.eval y = z) (hdst : o.dst = none) (hw : Region.wanted o (yielded ops a.tmps) = true) (hk : k < cs.length) (hz : z.cells = #[z]) (h1 : z.oneCell' = true)
    (h : ∀ w2, Bag ((B, t, cs.set k z) :: l) w0 w2 → (∀ k, k ≠ B → w2.heap[k]? = w.heap[k]?) → w2.heap.size = w.heap.size → wpList Tryz.prog ops Q rest a w2) : wpList Tryz.prog ops Q (o :: rest) a w1 := by
  subst hal
  have hr := (hX.all _ _ _ List.mem_cons_self).put_run (P := Tryz.prog) (v := z) hk h1
  exact BigFrame.wpList_want hw fun _ hK => by
    unfold Oper.wp execOp
    simp only [hop, hx, hy, hz, Instr.storeAt, Instr.sureAddr, storeVar, hr, hsz, List.size_toArray, List.length_cons, List.length_nil, ne_eq, not_true_eq_false, if_false, Sem.run_bind, Sem.run_pure, Result.andThen_ok]
    exact hK _ _ (by rw [hdst]; exact h _ (hX.over _) (fun k hk => setRow_other w1 B k _ hk) (by simp [World.setRow]))
/-- The first block of the bag is stored as a whole; the other blocks stay. -/
theorem wpList_bag_overV {B n : Nat} {t T : TypeId} {cs cs' : List Value} (hX : Bag ((B, t, cs) :: l) w0 w) (hagg : ∀ w, (isAgg T).run Tryz.prog w = .ok true w) (hsz : ∀ w, (sizeOf T).run Tryz.prog w = .ok n w) (x y : Operand) (hop : o.op = Op.store T x y) (hal : w1 = w) (hx : a.eval x = .pointer (some ⟨B, 0, none⟩)) (hy : a.eval y = .agg cs'.toArray) (hdst : o.dst = none) (hw : Region.wanted o (yielded ops a.tmps) = true) (hn : cs'.length = n) (hc : cs.length = n) (h1 : ∀ v ∈ cs', v.oneCell' = true)
    (h : ∀ w2, Bag ((B, t, cs') :: l) w0 w2 → (∀ k, k ≠ B → w2.heap[k]? = w.heap[k]?) → wpList Tryz.prog ops Q rest a w2) : wpList Tryz.prog ops Q (o :: rest) a w1 := by
  subst hal
  exact
    wpList_store_run hw hdst T x y _ _ hop hx hy hagg (by rw [hn]; exact hsz) ((hX.all _ _ _ List.mem_cons_self).store_run (by rw [hn, hc]) h1) (h _ (hX.over _) (fun k hk => setRow_other w1 B k _ hk))
end
/-- The cells read so in every world that has the same blocks, but for those of X. -/
def Sv (X : Nat → Prop) (w : World) (v : Value) (n : Nat) (cs : List Value) : Prop := ∀ w' : World, (∀ b, b < w.heap.size → ¬ X b → w'.heap[b]? = w.heap[b]?) → Rz w' v n cs
theorem Sv.now {X : Nat → Prop} {w : World} {v : Value} {n : Nat} {cs : List Value} (h : Sv X w v n cs) : Rz w v n cs := h w (fun _ _ _ => rfl)
theorem lt_of_same {w w' : World} {b : Nat} (hb : b < w.heap.size) (h : w'.heap[b]? = w.heap[b]?) : b < w'.heap.size := by
  rw [Array.getElem?_eq_getElem hb] at h
  exact (Array.getElem?_eq_some_iff.1 h).1
theorem Sv.off {X Y : Nat → Prop} {w w' : World} {v : Value} {n : Nat} {cs : List Value} (h : Sv X w v n cs) (hk : ∀ b, b < w.heap.size → ¬ X b → w'.heap[b]? = w.heap[b]?) (hY : ∀ b, b < w.heap.size → Y b → X b) : Sv Y w' v n cs := fun w2 h2 => h w2 fun b hb hx => (h2 b (lt_of_same hb (hk b hb hx)) (fun hy => hx (hY b hb hy))).trans (hk b hb hx)
theorem Sv.below {X : Nat → Prop} {w w' : World} {v : Value} {n : Nat} {cs : List Value} (h : Sv X w v n cs) (hb : Below w.heap.size w w') : Sv X w' v n cs := h.off (fun b hb' _ => hb.block b hb') (fun _ _ h => h)
theorem Sv.weak {X Y : Nat → Prop} {w w' : World} {v : Value} {n : Nat} {cs : List Value} (h : Sv X w v n cs) (hb : Below w.heap.size w w') (hY : ∀ b, b < w.heap.size → Y b → X b) : Sv Y w' v n cs := h.off (fun b hb' _ => hb.block b hb') hY
theorem Rz.sv {w : World} {v : Value} {n : Nat} {cs : List Value} (h : Rz w v n cs) : Sv (fun _ => False) w v n cs := fun w' hk => by
  obtain ⟨⟨A, c, hv, hn, hc⟩, h2⟩ := h
  refine ⟨⟨A, c, hv, hn, fun j x hx => ?_⟩, h2⟩
  obtain ⟨a, ha, h1, h3⟩ := hc j x hx
  have h4 := hk _ h3 (fun h => h)
  exact ⟨a, ha, (World.cell?_of_block (w := w) h4).trans h1, lt_of_same h3 h4⟩
theorem Sv.nil (X : Nat → Prop) (w : World) : Sv X w (.slice none 0 0) 0 [] := fun w' _ => Rz.nil w'
theorem Sv.of_own {X : Nat → Prop} {w : World} {base s n : Nat} {t : TypeId} {v : Value} {xs : List Value} (h : w.ownsRow base t s v n xs) (hX : ∀ b, X b → b < base) : Sv X w v n xs := fun w' hk => by
  refine Rz.of_own (w := w') (base := base) (s := s) (t := t) ⟨h.1, ?_⟩
  rcases h.2 with h0 | ⟨g, cap, cur, hv, hg, hh, r⟩
  · exact .inl h0
  · exact .inr ⟨g, cap, cur, hv, hg, (hk g (Array.getElem?_eq_some_iff.1 hh).1 (fun hx => by have := hX g hx; omega)).trans hh, r⟩
def StsX (X : Nat → Prop) (w : World) (v : Value) (S : List ByteArray) : Prop := Sv X w v S.length (S.map Value.string)
def ItsX (X : Nat → Prop) (w : World) (v : Value) (B : List Int) : Prop := Sv X w v B.length (B.map (Value.int .i64))
def DvX (X : Nat → Prop) (w : World) (x : Value) (D : Drv) : Prop := ∃ vs vb, x = .agg #[vs, vb] ∧ StsX X w vs D.S ∧ ItsX X w vb D.B
theorem StsX.now {X : Nat → Prop} {w : World} {v : Value} {S : List ByteArray} (h : StsX X w v S) : Sts w v S := Sv.now h
theorem ItsX.now {X : Nat → Prop} {w : World} {v : Value} {S : List Int} (h : ItsX X w v S) : Its w v S := Sv.now h
theorem StsX.below {X : Nat → Prop} {w w' : World} {v : Value} {S : List ByteArray} (h : StsX X w v S) (hb : Below w.heap.size w w') : StsX X w' v S := Sv.below h hb
theorem ItsX.below {X : Nat → Prop} {w w' : World} {v : Value} {S : List Int} (h : ItsX X w v S) (hb : Below w.heap.size w w') : ItsX X w' v S := Sv.below h hb
theorem StsX.off {X Y : Nat → Prop} {w w' : World} {v : Value} {S : List ByteArray} (h : StsX X w v S) (hk : ∀ b, b < w.heap.size → ¬ X b → w'.heap[b]? = w.heap[b]?) (hY : ∀ b, b < w.heap.size → Y b → X b) : StsX Y w' v S := Sv.off h hk hY
theorem ItsX.off {X Y : Nat → Prop} {w w' : World} {v : Value} {S : List Int} (h : ItsX X w v S) (hk : ∀ b, b < w.heap.size → ¬ X b → w'.heap[b]? = w.heap[b]?) (hY : ∀ b, b < w.heap.size → Y b → X b) : ItsX Y w' v S := Sv.off h hk hY
theorem StsX.weak {X Y : Nat → Prop} {w w' : World} {v : Value} {S : List ByteArray} (h : StsX X w v S) (hb : Below w.heap.size w w') (hY : ∀ b, b < w.heap.size → Y b → X b) : StsX Y w' v S := Sv.weak h hb hY
theorem ItsX.weak {X Y : Nat → Prop} {w w' : World} {v : Value} {S : List Int} (h : ItsX X w v S) (hb : Below w.heap.size w w') (hY : ∀ b, b < w.heap.size → Y b → X b) : ItsX Y w' v S := Sv.weak h hb hY
theorem Sts.sv {w : World} {v : Value} {S : List ByteArray} (h : Sts w v S) : StsX (fun _ => False) w v S := Rz.sv h
theorem Its.sv {w : World} {v : Value} {S : List Int} (h : Its w v S) : ItsX (fun _ => False) w v S := Rz.sv h
theorem DvX.z (X : Nat → Prop) (w : World) : DvX X w (.agg #[.slice none 0 0, .slice none 0 0]) Drv.z := ⟨_, _, rfl, Sv.nil X w, Sv.nil X w⟩
theorem DvX.now {X : Nat → Prop} {w : World} {x : Value} {D : Drv} (h : DvX X w x D) : Dv w x D := by
  obtain ⟨vs, vb, e, h1, h2⟩ := h
  exact ⟨vs, vb, e, h1.now, h2.now⟩
end Go.Proofs.YtlegcfjafdihlaaGreatDoor
/-
  The disk controller: plain. No condition.
-/
namespace Go.Proofs.YtlegcfjafdihlaaGreatDoor
open Go.RowKit
set_option linter.unusedSimpArgs false
set_option linter.unusedVariables false
set_option maxHeartbeats 4000000
set_option maxRecDepth 100000
attribute [local irreducible] wpQuiet

/-- A disk controller: its drive; enabled, ready, error; command, words, address, sector, ticks left. -/
structure Dk where
  D : Drv
  n : Bool
  r : Bool
  e : Bool
  c : Int
  w : Int
  a : Int
  s : Int
  l : Int
def Dk.z : Dk := ⟨Drv.z, false, false, false, 0, 0, 0, 0, 0⟩
def Dk.new (D : Drv) : Dk := ⟨D, false, true, false, 0, 0, 0, 0, 0⟩
def wordV (n : Int) : Bool := decide (0 ≤ n) && decide (n ≤ 65535)
/-- Are its fields valid? -/
def Dk.ok (K : Dk) : Bool := decide (0 ≤ K.c) && decide (K.c ≤ 3) && wordV K.w && wordV K.a && wordV K.s && decide (K.a % 2 = 0) && decide (0 ≤ K.l) && decide (K.l ≤ 8) && (K.r == decide (K.l = 0)) && (decide (K.l = 0) || (decide (K.c ≠ 0) && decide (K.w ≠ 0)))
def Dk.right (K : Dk) : Bool := K.ok && K.D.right
def Dk.reset (K : Dk) : Dk := { K with n := false, e := false, c := 0, l := 0, r := true }
def stK (K : Dk) : Int := 2 * K.c + (if K.n = true then 64 else 0) + (if K.r = true then 128 else 0) + (if K.e = true then 32768 else 0)
def Dk.rd (K : Dk) (g : Int) : Int × Bool := if g = 2 then (K.w, true) else if g = 4 then (K.a, true) else if g = 6 then (K.s, true) else if g = 0 then (stK K, true) else (0, false)
def Dk.cmd (K : Dk) (v : Int) : Dk := if K.r = true ∧ v % 2 = 1 then (if v / 2 % 4 ≠ 0 ∧ K.w ≠ 0 then { K with c := v / 2 % 4, e := false, r := false, l := 8 } else { K with c := v / 2 % 4, e := false }) else K
def Dk.wr (K : Dk) (g v : Int) : Dk × Bool :=
  if g = 0 then ({ K with n := decide (v / 64 % 2 = 1) }.cmd v, true)
  else if g = 2 then (if K.r = true then { K with w := v % 65536 } else K, true)
  else if g = 4 then (if K.r = true then { K with a := v / 2 % 32768 * 2 } else K, true)
  else if g = 6 then (if K.r = true then { K with s := v % 65536 } else K, true)
  else (Dk.z, false)
def Dk.fail (K : Dk) : Dk := { K with e := true, r := true }
def Dk.acc (K : Dk) (v : Int) : Dk := if v = 160 then { K with n := false } else K
def Dk.req (K : Dk) : List (Int × Int) := if K.n = true ∧ K.r = true then [(5, 160)] else []
/-- A controller in memory. -/
def DkX (X : Nat → Prop) (w : World) (x : Value) (K : Dk) : Prop := ∃ vs vb, x = .agg #[vs, vb, .bool K.n, .bool K.r, .bool K.e, .int .i64 K.c, .int .i64 K.w, .int .i64 K.a, .int .i64 K.s, .int .i64 K.l] ∧ StsX X w vs K.D.S ∧ ItsX X w vb K.D.B
theorem DkX.below {X : Nat → Prop} {w w' : World} {x : Value} {K : Dk} (h : DkX X w x K) (hb : Below w.heap.size w w') : DkX X w' x K := by
  obtain ⟨vs, vb, e, h1, h2⟩ := h
  exact ⟨vs, vb, e, h1.below hb, h2.below hb⟩
theorem Dk.ok_iff (K : Dk) : K.ok = true ↔ (0 ≤ K.c ∧ K.c ≤ 3) ∧ wordV K.w = true ∧ wordV K.a = true ∧ wordV K.s = true ∧ K.a % 2 = 0 ∧ (0 ≤ K.l ∧ K.l ≤ 8) ∧ K.r = decide (K.l = 0) ∧ (K.l = 0 ∨ (K.c ≠ 0 ∧ K.w ≠ 0)) := by
  unfold Dk.ok; simp only [Bool.and_eq_true, Bool.or_eq_true, decide_eq_true_eq, beq_iff_eq]; constructor
  · rintro ⟨⟨⟨⟨⟨⟨⟨⟨⟨h1, h2⟩, h3⟩, h4⟩, h5⟩, h6⟩, h7⟩, h8⟩, h9⟩, h10⟩; exact ⟨⟨h1, h2⟩, h3, h4, h5, h6, ⟨h7, h8⟩, h9, h10⟩
  · rintro ⟨⟨h1, h2⟩, h3, h4, h5, h6, ⟨h7, h8⟩, h9, h10⟩; exact ⟨⟨⟨⟨⟨⟨⟨⟨⟨h1, h2⟩, h3⟩, h4⟩, h5⟩, h6⟩, h7⟩, h8⟩, h9⟩, h10⟩
theorem wordV_iff (n : Int) : wordV n = true ↔ 0 ≤ n ∧ n ≤ 65535 := by unfold wordV; simp
theorem aggK (w : World) : (isAgg 45).run Tryz.prog w = .ok true w := by kernel_rfl
theorem sizK (w : World) : (sizeOf 45).run Tryz.prog w = .ok 10 w := by kernel_rfl
end Go.Proofs.YtlegcfjafdihlaaGreatDoor
