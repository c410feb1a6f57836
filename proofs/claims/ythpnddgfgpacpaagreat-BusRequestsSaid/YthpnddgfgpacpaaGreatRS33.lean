import Derived.Ground.SlgfProg
import Derived.Shelf.SlicesE.IndexFunc
import Derived.Shelf.SlicesE.DeleteFunc
import Derived.KernelRfl
import Derived.Test.YthpnddgfgpacpaaGreatProg
import Derived.Test.YthpnddgfgpacpaaGreatRS10
import Derived.Test.YthpnddgfgpacpaaGreatRS19
import Derived.Test.YthpnddgfgpacpaaGreatRS28
import Derived.Test.YthpnddgfgpacpaaGreatRS15
import Derived.Test.YthpnddgfgpacpaaGreatRS16
import Derived.Test.YthpnddgfgpacpaaGreatRS29
import Derived.Test.YthpnddgfgpacpaaGreatRS31
import Derived.Test.YthpnddgfgpacpaaGreatRS20
/-
  slices.ContainsFunc, slices.DeleteFunc of integers.
-/
namespace Go.Proofs
open Go.Shelf
def Tryz.laysSlH8_f59_ren : Go.Shelf.Ren := ⟨fun | 8 => 221 | 6 => 227 | n => n, fun | 22 => 26 | 23 => 3 | 25 => 128 | 4 => 4 | 3 => 3 | 0 => 0 | n => n, fun | n => n⟩
theorem Tryz.laysSlH8_f59 : Go.Proofs.SlLaysH.n8 Tryz.prog Tryz.laysSlH8_f59_ren := {
  mixed := by kernel_rfl
  f6 := ⟨Tryz.f227.name, by decide, Tryz.func227.trans (congrArg some (by kernel_rfl))⟩
  f8 := ⟨Tryz.f221.name, by decide, Tryz.func221.trans (congrArg some (by kernel_rfl))⟩
  t0 := Tryz.underlying0
  a0 := Tryz.isAgg0
  z0 := Tryz.sizeOf0
  v0 := Tryz.zeroValue0
  t3 := Tryz.underlying3
  a3 := Tryz.isAgg3
  z3 := Tryz.sizeOf3
  v3 := Tryz.zeroValue3
  t4 := Tryz.underlying4
  a4 := Tryz.isAgg4
  z4 := Tryz.sizeOf4
  v4 := Tryz.zeroValue4
  t22 := Tryz.underlying26
  a22 := Tryz.isAgg26
  z22 := Tryz.sizeOf26
  v22 := Tryz.zeroValue26
  a23 := Tryz.isAgg3
  z23 := Tryz.sizeOf3
  t25 := Tryz.underlying128
  a25 := Tryz.isAgg128
  z25 := Tryz.sizeOf128
  v25 := Tryz.zeroValue128 }
open Go.RowKit Go.Lib in
theorem Tryz.slices_ContainsFunc {α : Type} [Inhabited α] (enc : α → Value) (p : α → Bool) (g : Nat) (lb : Array Value) (eg : ∀ args w, (callFunc g args).run Tryz.prog w = .ok (.enter g args) w) (b off n c : Nat) (zs : List α) (w : World) (hp : PredAt Tryz.prog g lb enc p w) (hz : n ≤ zs.length) (hbig : n ≤ 9223372036854775807) (hc : ∀ j, j < zs.length → w.cell? ⟨b, off + j, none⟩ = some (enc zs[j]!)) :
    Calls Tryz.prog 221 #[.slice (some ⟨b, off, none⟩) n c, .func (.func g) #[] lb] w fun e w' => e = .returned (.bool ((zs.take n).any p)) ∧ ∃ q, w' = w.drewN q := AnyE.slices_ContainsFunc Tryz.laysSlH8_f59 enc p g lb eg b off n c zs w hp hz hbig hc
open Go.RowKit Go.Lib in
theorem Tryz.slices_ContainsFunc_empty {α : Type} [Inhabited α] (a : Option Addr) (c : Nat) (fv : Value) (w : World) :
    Calls Tryz.prog 221 #[.slice a 0 c, fv] w fun e w' => e = .returned (.bool false) ∧ w' = w := AnyE.slices_ContainsFunc_empty Tryz.laysSlH8_f59 a c fv w
end Go.Proofs
/-
  advanced, transfer of the program: ways that fail; write; check. Conditions: a valid drive, words of 16 bits.
-/
namespace Go.Proofs.YthpnddgfgpacpaaGreat
open Go.RowKit
set_option linter.unusedSimpArgs false
set_option linter.unusedVariables false
set_option maxHeartbeats 4000000
set_option maxRecDepth 100000
attribute [local irreducible] wpQuiet
section
variable {ops : Array Oper} {rest : List Oper} {o : Oper} {a : Act} {w w0 w1 : World} {Q : Exit → Act → World → Prop} {l : List (Nat × TypeId × List Value)}
end
theorem Bag.base {l : List (Nat × TypeId × List Value)} {w00 w0 w : World} (h : Bag l w0 w) (hb : Below w00.heap.size w00 w0) : Bag l w00 w := ⟨h.all, hb.trans (h.below.mono hb.size), fun b hm => Nat.le_trans hb.size (h.lo b hm), h.dis⟩
end Go.Proofs.YthpnddgfgpacpaaGreat
/-
  The contracts of package diskctl. No condition.
-/
namespace Go.Proofs.YthpnddgfgpacpaaGreat
open Go.RowKit
set_option linter.unusedSimpArgs false
set_option linter.unusedVariables false
set_option maxHeartbeats 4000000
set_option maxRecDepth 100000
attribute [local irreducible] wpQuiet

theorem dk_lens {K : Dk} (hR : K.right = true) : K.D.S.length ≤ 1099511627776 ∧ K.D.B.length ≤ 1099511627776 := by
  have hD : K.D.right = true := by unfold Dk.right at hR; rw [Bool.and_eq_true] at hR; exact hR.2
  have h1 := right_len hD
  have h2 := ((right_iff K.D).1 hD).2.1
  exact ⟨by omega, by omega⟩
end Go.Proofs.YthpnddgfgpacpaaGreat
/-
  The contracts of package tape. No condition.
-/
namespace Go.Proofs.YthpnddgfgpacpaaGreat
open Go.RowKit
set_option linter.unusedSimpArgs false
set_option linter.unusedVariables false
set_option maxHeartbeats 4000000
set_option maxRecDepth 100000
attribute [local irreducible] wpQuiet

theorem tp_len {K : Tp} (h : K.right = true) : K.R.length ≤ 1099511627776 := by have := ((Tp.right_iff K).1 h).1.1; omega
end Go.Proofs.YthpnddgfgpacpaaGreat
