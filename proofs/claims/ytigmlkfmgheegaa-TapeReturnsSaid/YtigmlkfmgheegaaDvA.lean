/-
  Disk drives: plain. No condition.
-/
import Derived.Test.YtigmlkfmgheegaaReg
import Derived.Lib.Strings
namespace Go.Proofs.Ytigmlkfmgheegaa
open Go.RowKit
set_option linter.unusedSimpArgs false
set_option linter.unusedVariables false
set_option maxHeartbeats 4000000
set_option maxRecDepth 100000
attribute [local irreducible] wpQuiet

/-- A drive: its sectors, and the numbers of the bad ones. -/
structure Drv where
  S : List ByteArray
  B : List Int
def Drv.z : Drv := ⟨[], []⟩
def zB (n : Nat) : ByteArray := ⟨(List.replicate n (0 : UInt8)).toArray⟩
theorem zB_size (n : Nat) : (zB n).size = n := by show (List.replicate n (0 : UInt8)).toArray.size = n; simp
/-- A new one, and the error. -/
def newV (n : Int) : Drv × Int := if 1 ≤ n ∧ n ≤ 256 then (⟨List.replicate n.toNat (zB 128), []⟩, 0) else (Drv.z, 2)
def okAt (n : Nat) (B : List Int) (k : Nat) : Bool := decide (0 ≤ B.getD k 0) && decide (B.getD k 0 < (n : Int)) && (decide (k = 0) || decide (B.getD (k - 1) 0 < B.getD k 0))
def okB (n : Nat) (B : List Int) : Bool := (List.range B.length).all (okAt n B)
/-- Is it valid? -/
def Drv.right (D : Drv) : Bool := decide (1 ≤ D.S.length) && decide (D.S.length ≤ 256) && D.S.all (fun s => s.size == 128) && okB D.S.length D.B
/-- Is it small? -/
def Drv.fair (D : Drv) : Bool := decide (D.S.length ≤ 64) && decide (D.B.length ≤ 80) && D.S.all (fun s => decide (s.size ≤ 200))
def Drv.rd (D : Drv) (k : Int) : ByteArray × Int := if 0 ≤ k ∧ k < (D.S.length : Int) then (if D.B.contains k = true then (⟨#[]⟩, 21) else (D.S.getD k.toNat ⟨#[]⟩, 0)) else (⟨#[]⟩, 2)
def Drv.wr (D : Drv) (k : Int) (s : ByteArray) : Drv × Int :=
  if 0 ≤ k ∧ k < (D.S.length : Int) then (if 128 < s.size then (Drv.z, 7) else if D.B.contains k = true then (Drv.z, 21) else (⟨D.S.set k.toNat (s ++ zB (128 - s.size)), D.B⟩, 0)) else (Drv.z, 2)
def insB (s : Int) : List Int → List Int
  | [] => [s]
  | b :: r => if b < s then b :: insB s r else s :: b :: r
def Drv.sp (D : Drv) (k : Int) : Drv × Int := if 0 ≤ k ∧ k < (D.S.length : Int) then (if D.B.contains k = true then (D, 0) else (⟨D.S, insB k D.B⟩, 0)) else (Drv.z, 2)
def Drv.ap : Drv → List (Int × ByteArray) → Nat → Int → Drv × Nat × Int
  | D, [], i, _ => (D, i, 0)
  | D, q :: r, i, f => if (i : Int) = f then (D, i, 0) else if (D.wr q.1 q.2).2 = 0 then (D.wr q.1 q.2).1.ap r (i + 1) f else (D, i, (D.wr q.1 q.2).2)
def dfV (a b : List ByteArray) : List Int := ((List.range (max a.length b.length)).filter (fun k => decide (a[k]? ≠ b[k]?))).map Int.ofNat
theorem okAt_iff (n : Nat) (B : List Int) (k : Nat) : okAt n B k = true ↔ 0 ≤ B.getD k 0 ∧ B.getD k 0 < (n : Int) ∧ (k = 0 ∨ B.getD (k - 1) 0 < B.getD k 0) := by
  unfold okAt; simp only [Bool.and_eq_true, Bool.or_eq_true, decide_eq_true_eq]; constructor
  · rintro ⟨⟨a, b⟩, c⟩; exact ⟨a, b, c⟩
  · rintro ⟨a, b, c⟩; exact ⟨⟨a, b⟩, c⟩
theorem okB_iff (n : Nat) (B : List Int) : okB n B = true ↔ ∀ k, k < B.length → okAt n B k = true := by
  unfold okB; rw [List.all_eq_true]; constructor
  · intro h k hk; exact h k (List.mem_range.2 hk)
  · intro h k hk; exact h k (List.mem_range.1 hk)
theorem right_iff (D : Drv) : D.right = true ↔ 1 ≤ D.S.length ∧ D.S.length ≤ 256 ∧ (∀ s ∈ D.S, s.size = 128) ∧ okB D.S.length D.B = true := by
  unfold Drv.right; simp only [Bool.and_eq_true, decide_eq_true_eq, List.all_eq_true, beq_iff_eq]; constructor
  · rintro ⟨⟨⟨a, b⟩, c⟩, d⟩; exact ⟨a, b, c, d⟩
  · rintro ⟨a, b, c, d⟩; exact ⟨⟨⟨a, b⟩, c⟩, d⟩
theorem fair_iff (D : Drv) : D.fair = true ↔ D.S.length ≤ 64 ∧ D.B.length ≤ 80 ∧ ∀ s ∈ D.S, s.size ≤ 200 := by
  unfold Drv.fair; simp only [Bool.and_eq_true, decide_eq_true_eq, List.all_eq_true]; constructor
  · rintro ⟨⟨a, b⟩, c⟩; exact ⟨a, b, c⟩
  · rintro ⟨a, b, c⟩; exact ⟨⟨a, b⟩, c⟩
theorem getD_get {B : List Int} {k : Nat} {b : Int} (h : B[k]? = some b) : B.getD k 0 = b := by rw [List.getD_eq_getElem?_getD, h]; rfl
end Go.Proofs.Ytigmlkfmgheegaa
