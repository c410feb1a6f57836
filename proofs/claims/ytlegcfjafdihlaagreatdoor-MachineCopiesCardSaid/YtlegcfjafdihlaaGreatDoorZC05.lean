import Derived.Test.YtlegcfjafdihlaaGreatDoorZC02
import Derived.Test.YtlegcfjafdihlaaGreatDoorZC03
import Derived.BigQuiet
import Derived.Lib.Strings
import Derived.Maps.AppendAt
import Derived.Laws.AppendOwnNone
import Derived.Laws.IdiomStrings
import Derived.Lib.BufferRead
/-
  A region that draws its order, whose operations keep a class of worlds. General. No condition.
-/
namespace Go.Proofs.YtlegcfjafdihlaaGreatDoor
open Go.RowKit
theorem region_class {P : Program} {id : Nat} {Q : Exit → Act → World → Prop} {a : Act} {w : World} {l : List Oper} (C : World → Prop) (hm : P.follows .mixedOrders = true) (hB : Region.lexB .any l.toArray = true) (hC : C w.drew)
    (h : wpQuiet P l.toArray C (fun a' => ∀ w', C w' → Q .normal a' w') l a) : (Code.region id l.toArray true).wp P Q a w :=
  wp_region_quiet hm hB hC (by simpa using h)
section
variable {P : Program} {ops : Array Oper} {Q : Exit → Act → World → Prop} {l : List Oper} {a : Act} {w : World} {T ty : TypeId} {x y : Operand} {dst : Option Tmp} {pos : String} {after : Array Edge} {g : Option (Nat × Bool)}
/-- It begins with a load. -/
theorem at_load (h : wpList P ops Q ({ dst := dst, op := .load T x, type := ty, pos := pos, after := after, guard := g } :: l) a w) : wpList P ops Q ({ dst := dst, op := .load T x, type := ty, pos := pos, after := after, guard := g } :: l) a w := h
end
end Go.Proofs.YtlegcfjafdihlaaGreatDoor
/-
  The line clock: plain; blocks of a clock. No condition.
-/
namespace Go.Proofs.YtlegcfjafdihlaaGreatDoor
open Go.RowKit
set_option linter.unusedSimpArgs false
set_option linter.unusedVariables false
set_option maxHeartbeats 4000000
set_option maxRecDepth 100000
attribute [local irreducible] wpQuiet

/-- A clock. -/
structure Ck where
  e : Bool
  r : Bool
  p : Int
  l : Int
def Ck.L (c : Ck) : List Value := [.bool c.e, .bool c.r, .int .i64 c.p, .int .i64 c.l]
/-- Is it valid? -/
def Ck.right (c : Ck) : Bool := decide (1 ≤ c.p) && decide (c.p ≤ 65535) && decide (1 ≤ c.l) && decide (c.l ≤ c.p)
def Ck.tick (c : Ck) : Ck := if c.l = 1 then { c with r := true, l := c.p } else { c with l := c.l - 1 }
def Ck.read (c : Ck) : Int := (if c.e = true then 64 else 0) + (if c.r = true then 128 else 0)
def Ck.write (c : Ck) (v : Int) : Ck := { c with e := decide (v / 64 % 2 = 1), r := c.r && decide (v / 128 % 2 = 1) }
def Ck.acc (c : Ck) (v : Int) : Ck := if v = 64 then { c with r := false } else c
def Ck.reset (c : Ck) : Ck := ⟨false, false, c.p, c.p⟩
def Ck.req (c : Ck) : List (Int × Int) := if c.e = true ∧ c.r = true then [(6, 64)] else []
def Ck.z : Ck := ⟨false, false, 0, 0⟩
theorem aggK_13 (w : World) : (isAgg 39).run Tryz.prog w = .ok true w := by kernel_rfl
theorem sizK_13 (w : World) : (sizeOf 39).run Tryz.prog w = .ok 4 w := by kernel_rfl
section
variable {ops : Array Oper} {rest : List Oper} {o : Oper} {a : Act} {w w0 w1 : World} {Q : Exit → Act → World → Prop} {l : List (Nat × TypeId × List Value)}
end
end Go.Proofs.YtlegcfjafdihlaaGreatDoor
/-
  A terminal line: plain. No condition.
-/
namespace Go.Proofs.YtlegcfjafdihlaaGreatDoor
open Go.RowKit
set_option linter.unusedSimpArgs false
set_option linter.unusedVariables false
set_option maxHeartbeats 4000000
set_option maxRecDepth 100000
attribute [local irreducible] wpQuiet

/-- A terminal line: enabled, ready, overrun, data of the receiver; enabled, ready, data, ticks left of the transmitter; output. -/
structure Ln where
  a : Bool
  b : Bool
  o : Bool
  d : Int
  e : Bool
  f : Bool
  t : Int
  l : Int
  s : ByteArray
def Ln.new : Ln := ⟨false, false, false, 0, false, true, 0, 0, ⟨#[]⟩⟩
/-- Is it valid? -/
def Ln.right (x : Ln) : Bool := decide (0 ≤ x.d) && decide (x.d ≤ 255) && decide (0 ≤ x.t) && decide (x.t ≤ 255) && decide (x.s.size ≤ 4096) && decide (0 ≤ x.l) && decide (x.l ≤ 4) && (x.f == decide (x.l = 0))
def stB (e r : Bool) : Int := (if e = true then 64 else 0) + (if r = true then 128 else 0)
def Ln.rd (x : Ln) (reg : Int) : Ln × Int :=
  if reg = 0 then (x, stB x.a x.b)
  else if reg = 2 then ({ x with b := false, o := false }, x.d + (if x.o = true then 32768 else 0))
  else if reg = 4 then (x, stB x.e x.f)
  else (x, 0)
def Ln.wr (x : Ln) (reg n : Int) : Ln :=
  if reg = 0 then { x with a := decide (n / 64 % 2 = 1) }
  else if reg = 4 then { x with e := decide (n / 64 % 2 = 1) }
  else if reg = 6 then (if x.f = true then { x with t := n % 256, l := 4, f := false } else x)
  else x
/-- The last bytes of an output, at most as many as the limit. -/
def lastO (l : List UInt8) : List UInt8 := l.drop (l.length - 4096)
def Ln.tick (x : Ln) : Ln :=
  if x.l ≤ 0 then x
  else if 1 < x.l then { x with l := x.l - 1 }
  else { x with l := 0, f := true, s := ⟨(lastO (x.s.data.toList ++ [UInt8.ofNat x.t.toNat])).toArray⟩ }
def Ln.req (x : Ln) (n : Int) : List (Int × Int) :=
  if 0 ≤ n ∧ n < 4 then (if x.a = true ∧ x.b = true then [(4, 128 + 8 * n)] else []) ++ (if x.e = true ∧ x.f = true then [(4, 132 + 8 * n)] else []) else []
def Ln.reset (x : Ln) : Ln := { x with a := false, b := false, o := false, e := false, f := true, l := 0 }
end Go.Proofs.YtlegcfjafdihlaaGreatDoor
/-
  Disk drives: plain. No condition.
-/
namespace Go.Proofs.YtlegcfjafdihlaaGreatDoor
open Go.RowKit
set_option linter.unusedSimpArgs false
set_option linter.unusedVariables false
set_option maxHeartbeats 4000000
set_option maxRecDepth 100000
attribute [local irreducible] wpQuiet

/-- A drive: its sectors, and the numbers of the bad ones. -/
structure Drv where
  S : List ByteArray
  B : List Int
def Drv.z : Drv := ⟨[], []⟩
def zB (n : Nat) : ByteArray := ⟨(List.replicate n (0 : UInt8)).toArray⟩
def okAt (n : Nat) (B : List Int) (k : Nat) : Bool := decide (0 ≤ B.getD k 0) && decide (B.getD k 0 < (n : Int)) && (decide (k = 0) || decide (B.getD (k - 1) 0 < B.getD k 0))
def okB (n : Nat) (B : List Int) : Bool := (List.range B.length).all (okAt n B)
/-- Is it valid? -/
def Drv.right (D : Drv) : Bool := decide (1 ≤ D.S.length) && decide (D.S.length ≤ 256) && D.S.all (fun s => s.size == 128) && okB D.S.length D.B
def Drv.rd (D : Drv) (k : Int) : ByteArray × Int := if 0 ≤ k ∧ k < (D.S.length : Int) then (if D.B.contains k = true then (⟨#[]⟩, 21) else (D.S.getD k.toNat ⟨#[]⟩, 0)) else (⟨#[]⟩, 2)
def Drv.wr (D : Drv) (k : Int) (s : ByteArray) : Drv × Int :=
  if 0 ≤ k ∧ k < (D.S.length : Int) then (if 128 < s.size then (Drv.z, 7) else if D.B.contains k = true then (Drv.z, 21) else (⟨D.S.set k.toNat (s ++ zB (128 - s.size)), D.B⟩, 0)) else (Drv.z, 2)
def insB (s : Int) : List Int → List Int
  | [] => [s]
  | b :: r => if b < s then b :: insB s r else s :: b :: r
def Drv.sp (D : Drv) (k : Int) : Drv × Int := if 0 ≤ k ∧ k < (D.S.length : Int) then (if D.B.contains k = true then (D, 0) else (⟨D.S, insB k D.B⟩, 0)) else (Drv.z, 2)
def dfV (a b : List ByteArray) : List Int := ((List.range (max a.length b.length)).filter (fun k => decide (a[k]? ≠ b[k]?))).map Int.ofNat
end Go.Proofs.YtlegcfjafdihlaaGreatDoor
/-
  Rows of strings, integers, bytes: what they read as, append. No condition.
-/
namespace Go.Proofs.YtlegcfjafdihlaaGreatDoor
open Go.RowKit
set_option linter.unusedSimpArgs false
set_option linter.unusedVariables false
set_option maxHeartbeats 4000000
set_option maxRecDepth 100000
attribute [local irreducible] wpQuiet

theorem infS : (Tryz.prog.info? 9).map (fun i => (i.zero, i.size, i.bytes)) = some (some (.string ⟨#[]⟩), 1, 16) := by kernel_rfl
theorem infS_parts : ∃ i : TypeInfo, Tryz.prog.info? 9 = some i ∧ i.zero = some (.string ⟨#[]⟩) ∧ i.size = 1 ∧ i.bytes = 16 := by
  have h := infS
  cases hi : Tryz.prog.info? 9 with
  | none => rw [hi] at h; cases h
  | some i =>
    rw [hi] at h
    simp only [Option.map_some, Option.some.injEq, Prod.mk.injEq] at h
    exact ⟨i, rfl, h.1, h.2.1, h.2.2⟩
theorem wpList_appS {w : World} {ops : Array Oper} {rest : List Oper} {o : Oper} {a : Act} {Q : Exit → Act → World → Prop} (hgd : o.guard = none) (s x : Operand)
    (ho : o.op = .call { callee := .builtin .append, args := #[s, x], argTypes := #[41, 41] }) (N : Nat) (v : Value) (n : Nat) (xs : List Value) (hs : a.eval s = v) (hown : w.ownsRow N 9 1 v n xs)
    (ad : Addr) (m c : Nat) (news : List Value) (hx : a.eval x = .slice (some ad) m c) (hl : news.length = m) (hnews : ∀ j u, news[j]? = some u → w.cell? (ad.add j) = some u) (h1 : ∀ u ∈ news, u.oneCell' = true)
    (hb : n + m ≤ 2199023255554) (hN : N ≤ w.heap.size)
    (h : ∀ v' w', w'.ownsRow N 9 1 v' (n + m) (xs ++ news) → Below N w w' → (v' = .slice none 0 0 ↔ v = .slice none 0 0 ∧ m = 0) → wpList Tryz.prog ops Q rest (a.put o.dst v') w') : wpList Tryz.prog ops Q (o :: rest) a w := by
  obtain ⟨i, hi, hz, hsz, hby⟩ := infS_parts
  refine wpList_append_own _ hgd s x 41 ho N 9 i (.string ⟨#[]⟩) 1 16 Tryz.underlying41 hi hz hsz hby rfl (by decide) v n xs hs hown ad m c news hx (by omega) hnews h1 (by unfold maxLen; omega) (by omega) hN ?_
  intro v' w' ho' hg hnil
  exact h v' w' ho' ((Below.refl N w).grown hg hN (fun j hj => (World.ownsRow.lt hown j hj).1)) hnil
theorem wpList_appS0 {w : World} {ops : Array Oper} {rest : List Oper} {o : Oper} {a : Act} {Q : Exit → Act → World → Prop} (hgd : o.guard = none) (s x : Operand)
    (ho : o.op = .call { callee := .builtin .append, args := #[s, x], argTypes := #[41, 41] }) (N : Nat) (v : Value) (n : Nat) (xs : List Value) (hs : a.eval s = v) (hown : w.ownsRow N 9 1 v n xs) (hx : a.eval x = .slice none 0 0)
    (h : wpList Tryz.prog ops Q rest (a.put o.dst v) w) : wpList Tryz.prog ops Q (o :: rest) a w := by
  obtain ⟨i, hi, hz, hsz, hby⟩ := infS_parts
  exact wpList_append_own_none hgd s x 41 ho N 9 i 1 Tryz.underlying41 hi v n xs hs hown hx h
theorem slS_cell (w : World) : (isAgg 41).run Tryz.prog w = .ok false w := by kernel_rfl

theorem infI : (Tryz.prog.info? 3).map (fun i => (i.zero, i.size, i.bytes)) = some (some (.int .i64 0), 1, 8) := by kernel_rfl
theorem infI_parts : ∃ i : TypeInfo, Tryz.prog.info? 3 = some i ∧ i.zero = some (.int .i64 0) ∧ i.size = 1 ∧ i.bytes = 8 := by
  have h := infI
  cases hi : Tryz.prog.info? 3 with
  | none => rw [hi] at h; cases h
  | some i =>
    rw [hi] at h
    simp only [Option.map_some, Option.some.injEq, Prod.mk.injEq] at h
    exact ⟨i, rfl, h.1, h.2.1, h.2.2⟩
theorem wpList_appI {w : World} {ops : Array Oper} {rest : List Oper} {o : Oper} {a : Act} {Q : Exit → Act → World → Prop} (hgd : o.guard = none) (s x : Operand)
    (ho : o.op = .call { callee := .builtin .append, args := #[s, x], argTypes := #[31, 31] }) (N : Nat) (v : Value) (n : Nat) (xs : List Value) (hs : a.eval s = v) (hown : w.ownsRow N 3 1 v n xs)
    (ad : Addr) (m c : Nat) (news : List Value) (hx : a.eval x = .slice (some ad) m c) (hl : news.length = m) (hnews : ∀ j u, news[j]? = some u → w.cell? (ad.add j) = some u) (h1 : ∀ u ∈ news, u.oneCell' = true)
    (hb : n + m ≤ 2199023255554) (hN : N ≤ w.heap.size)
    (h : ∀ v' w', w'.ownsRow N 3 1 v' (n + m) (xs ++ news) → Below N w w' → (v' = .slice none 0 0 ↔ v = .slice none 0 0 ∧ m = 0) → wpList Tryz.prog ops Q rest (a.put o.dst v') w') : wpList Tryz.prog ops Q (o :: rest) a w := by
  obtain ⟨i, hi, hz, hsz, hby⟩ := infI_parts
  refine wpList_append_own _ hgd s x 31 ho N 3 i (.int .i64 0) 1 8 Tryz.underlying31 hi hz hsz hby rfl (by decide) v n xs hs hown ad m c news hx (by omega) hnews h1 (by unfold maxLen; omega) (by omega) hN ?_
  intro v' w' ho' hg hnil
  exact h v' w' ho' ((Below.refl N w).grown hg hN (fun j hj => (World.ownsRow.lt hown j hj).1)) hnil
theorem wpList_appI0 {w : World} {ops : Array Oper} {rest : List Oper} {o : Oper} {a : Act} {Q : Exit → Act → World → Prop} (hgd : o.guard = none) (s x : Operand)
    (ho : o.op = .call { callee := .builtin .append, args := #[s, x], argTypes := #[31, 31] }) (N : Nat) (v : Value) (n : Nat) (xs : List Value) (hs : a.eval s = v) (hown : w.ownsRow N 3 1 v n xs) (hx : a.eval x = .slice none 0 0)
    (h : wpList Tryz.prog ops Q rest (a.put o.dst v) w) : wpList Tryz.prog ops Q (o :: rest) a w := by
  obtain ⟨i, hi, hz, hsz, hby⟩ := infI_parts
  exact wpList_append_own_none hgd s x 31 ho N 3 i 1 Tryz.underlying31 hi v n xs hs hown hx h
theorem slI_cell (w : World) : (isAgg 31).run Tryz.prog w = .ok false w := by kernel_rfl
theorem str_cell (w : World) : (isAgg 9).run Tryz.prog w = .ok false w := by kernel_rfl
theorem cell_one {w : World} {u : Value} {t : TypeId} : ∀ j x, [u][j]? = some x → (w.alloc (.cells #[u] t)).cell? ((⟨w.heap.size, 0, none⟩ : Addr).add j) = some x := by
  intro j x h
  have e1 : (⟨w.heap.size, 0, none⟩ : Addr).add j = ⟨w.heap.size, j, none⟩ := by unfold Addr.add; split <;> simp_all
  rw [e1]
  exact (Blk.new t w [u]).cell h
/-- A slice that reads as these cells; without memory only if it is nil. -/
def Rz (w : World) (v : Value) (n : Nat) (cs : List Value) : Prop := Rw w v n cs ∧ ∀ m c, v = .slice none m c → c = 0
theorem Rz.below {w w' : World} {v : Value} {n : Nat} {cs : List Value} (h : Rz w v n cs) (hb : Below w.heap.size w w') : Rz w' v n cs := ⟨h.1.below hb, h.2⟩
theorem Rz.nil (w : World) : Rz w (.slice none 0 0) 0 [] := ⟨Rw.nil w, fun _ _ h => by cases h; rfl⟩
theorem Rz.of_own {w : World} {base s n : Nat} {t : TypeId} {v : Value} {xs : List Value} (h : w.ownsRow base t s v n xs) : Rz w v n xs := by
  refine ⟨Rw.of_own h, fun m c hv => ?_⟩
  rcases h.2 with ⟨e, _⟩ | ⟨g, cap, cur, e, _⟩
  · rw [e] at hv; cases hv; rfl
  · rw [e] at hv; cases hv
theorem Rz.form {w : World} {v : Value} {n : Nat} {cs : List Value} (h : Rz w v n cs) : (v = .slice none 0 0 ∧ n = 0 ∧ cs = []) ∨ ∃ a c, v = .slice (some a) n c ∧ n ≤ c := by
  obtain ⟨⟨A, c, rfl, hk, hc⟩, h2⟩ := h
  cases A with
  | none =>
    obtain rfl := h2 n c rfl
    obtain rfl : n = 0 := by omega
    refine .inl ⟨rfl, rfl, ?_⟩
    cases cs with
    | nil => rfl
    | cons u r => obtain ⟨a, ha, _⟩ := hc 0 u rfl; cases ha
  | some a => exact .inr ⟨a, c, rfl, hk⟩
theorem Rz.cell {w : World} {a : Addr} {n m c : Nat} {cs : List Value} (h : Rz w (.slice (some a) n c) m cs) : ∀ j u, cs[j]? = some u → w.cell? (a.add j) = some u := by
  obtain ⟨⟨A, c', hv, _, hc⟩, _⟩ := h
  cases hv
  intro j u hu
  obtain ⟨a', ha, h1, _⟩ := hc j u hu
  cases ha; exact h1
theorem Rz.addr {w : World} {A : Option Addr} {n m c j : Nat} {u : Value} {cs : List Value} (h : Rz w (.slice A n c) m cs) (hu : cs[j]? = some u) : ∃ a, A = some a := by
  obtain ⟨⟨A, c', hv, _, hc⟩, _⟩ := h
  cases hv
  obtain ⟨a', ha, _⟩ := hc j u hu
  exact ⟨a', ha⟩
theorem Rz.load {P : Program} {T : TypeId} {w : World} {a : Addr} {n m c k : Nat} {cs : List Value} {u : Value} (h : Rz w (.slice (some a) n c) m cs) (hagg : ∀ w, (isAgg T).run P w = .ok false w) (hu : cs[k]? = some u) : (Instr.loadAt T (.pointer (some (a.add k)))).run P w = .ok u w := by
  have h1 := h.cell k u hu
  simp only [Instr.loadAt, Instr.sureAddr, Go.loadVar, Sem.run_bind, Sem.run_pure, Result.andThen_ok, hagg, Bool.false_eq_true, if_false]
  simp [h1, go_sem]
def Sts (w : World) (v : Value) (S : List ByteArray) : Prop := Rz w v S.length (S.map Value.string)
def Its (w : World) (v : Value) (B : List Int) : Prop := Rz w v B.length (B.map (Value.int .i64))
/-- A drive in memory. -/
def Dv (w : World) (x : Value) (D : Drv) : Prop := ∃ vs vb, x = .agg #[vs, vb] ∧ Sts w vs D.S ∧ Its w vb D.B
theorem Dv.below {w w' : World} {x : Value} {D : Drv} (h : Dv w x D) (hb : Below w.heap.size w w') : Dv w' x D := by
  obtain ⟨vs, vb, e, h1, h2⟩ := h
  exact ⟨vs, vb, e, h1.below hb, h2.below hb⟩
theorem Dv.z (w : World) : Dv w (.agg #[.slice none 0 0, .slice none 0 0]) Drv.z := ⟨_, _, rfl, Rz.nil w, Rz.nil w⟩
theorem Sts.form {w : World} {v : Value} {S : List ByteArray} (h : Sts w v S) : ∃ A c, v = .slice A S.length c ∧ S.length ≤ c ∧ ∀ (k : Nat) s, S[k]? = some s → ∃ a, A = some a ∧ ∀ w', Below w.heap.size w w' → (Instr.loadAt 9 (.pointer (some (a.add k)))).run Tryz.prog w' = .ok (.string s) w' := by
  have h0 := h
  obtain ⟨⟨A, c, rfl, hk, _⟩, _⟩ := h
  refine ⟨A, c, rfl, hk, fun k s hs => ?_⟩
  have hu : (S.map Value.string)[k]? = some (.string s) := by rw [List.getElem?_map, hs]; rfl
  obtain ⟨a, rfl⟩ := Rz.addr h0 hu
  exact ⟨a, rfl, fun w' hb => Rz.load (Rz.below h0 hb) str_cell hu⟩
theorem Its.form {w : World} {v : Value} {B : List Int} (h : Its w v B) : ∃ A c, v = .slice A B.length c ∧ B.length ≤ c ∧ ∀ (k : Nat) s, B[k]? = some s → ∃ a, A = some a ∧ ∀ w', Below w.heap.size w w' → (Instr.loadAt 3 (.pointer (some (a.add k)))).run Tryz.prog w' = .ok (.int .i64 s) w' := by
  have h0 := h
  obtain ⟨⟨A, c, rfl, hk, _⟩, _⟩ := h
  refine ⟨A, c, rfl, hk, fun k s hs => ?_⟩
  have hu : (B.map (Value.int .i64))[k]? = some (.int .i64 s) := by rw [List.getElem?_map, hs]; rfl
  obtain ⟨a, rfl⟩ := Rz.addr h0 hu
  exact ⟨a, rfl, fun w' hb => Rz.load (Rz.below h0 hb) int_cell hu⟩
theorem one_str (S : List ByteArray) : ∀ u ∈ S.map Value.string, u.oneCell' = true := by
  intro u hu; obtain ⟨s, _, rfl⟩ := List.mem_map.1 hu; rfl
theorem one_int (S : List Int) : ∀ u ∈ S.map (Value.int .i64), u.oneCell' = true := by
  intro u hu; obtain ⟨s, _, rfl⟩ := List.mem_map.1 hu; rfl
/-- A fact that the walk does not use. -/
def Hid (p : Prop) : Prop := p
theorem hid {p : Prop} (h : p) : Hid p := h
end Go.Proofs.YtlegcfjafdihlaaGreatDoor
/-
  zeros, Isbad, New, Read of the reference. Condition: at most 4096 sectors.
-/
namespace Go.Proofs.YtlegcfjafdihlaaGreatDoor
open Go.RowKit
set_option linter.unusedSimpArgs false
set_option linter.unusedVariables false
set_option maxHeartbeats 4000000
set_option maxRecDepth 100000
attribute [local irreducible] wpQuiet

theorem two_dv (w : World) (cs ds : List Value) : Bag [(w.heap.size + 1, 43, ds), (w.heap.size, 43, cs)] w ((w.alloc (.cells cs.toArray 43)).alloc (.cells ds.toArray 43)) := by
  have h := ((Bag.nil w).new 43 cs).new 43 ds
  rw [show (w.alloc (.cells cs.toArray 43)).heap.size = w.heap.size + 1 from Array.size_push ..] at h
  exact h
end Go.Proofs.YtlegcfjafdihlaaGreatDoor
