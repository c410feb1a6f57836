import Derived.Test.YtlegcfjafdihlaaGreatDoorZR10
import Derived.Ground.SlgfProg
import Derived.Shelf.SlicesE.IndexFunc
import Derived.Shelf.SlicesE.DeleteFunc
import Derived.KernelRfl
import Derived.Test.YtlegcfjafdihlaaGreatDoorProg
/-
  within, tooLong, bit, status, Read, loaded, commandOf, controlled, fail, Requests of the program. No condition.
-/
namespace Go.Proofs.YtlegcfjafdihlaaGreatDoor
open Go.RowKit
set_option linter.unusedSimpArgs false
set_option linter.unusedVariables false
set_option maxHeartbeats 4000000
set_option maxRecDepth 100000
attribute [local irreducible] wpQuiet

/-- The answer of within. -/
def inT (n g : Int) : Bool := decide (0 ≤ n) && decide (n ≤ g)
theorem pwithinT_any (n g : Int) (w : World) : Calls Tryz.prog 339 #[.int .i64 n, .int .i64 g] w fun e' w' => e' = .returned (.bool (inT n g)) ∧ Below w.heap.size w w' := by
  have hB := Below.refl w.heap.size w
  unfold inT
  by_cases c0 : 0 ≤ n
  · have d0 : decide (0 ≤ n) = true := decide_eq_true c0
    go_enter Tryz.func339, Tryz.ntmps339
    go_wp2
    go_ret
    exact ⟨by simp [d0], hB⟩
  · have d0 : decide (0 ≤ n) = false := decide_eq_false c0
    go_enter Tryz.func339, Tryz.ntmps339
    go_wp2
    go_ret
    exact ⟨by simp [d0], hB⟩
theorem ptl_gives (x : ByteArray) (w : World) : Calls Tryz.prog 74 #[.string x] w fun e' w' => e' = .returned (.bool (decide (512 < x.size))) ∧ ∃ q, w' = w.drewN q := by
  by_cases h : 512 < x.size
  · have d0 : decide ((512 : Int) < (x.size : Int)) = true := decide_eq_true (by omega)
    rw [decide_eq_true h]
    clear h
    go_enter Tryz.func74, Tryz.ntmps74
    go_wp2
    go_ret
    exact ⟨by simp [d0], 0, rfl⟩
  · have d0 : decide ((512 : Int) < (x.size : Int)) = false := decide_eq_false (by omega)
    rw [decide_eq_false h]
    clear h
    go_enter Tryz.func74, Tryz.ntmps74
    go_wp2
    go_ret
    exact ⟨by simp [d0], 0, rfl⟩
end Go.Proofs.YtlegcfjafdihlaaGreatDoor
/-
  The library's contracts of slices.ContainsFunc at strings and integers and slices.DeleteFunc at integers, laid over the program in plain words. No condition.
-/
namespace Go.Proofs
open Go.Shelf
def Tryz.laysSlH8_f37_ren : Go.Shelf.Ren := ⟨fun | 8 => 73 | 6 => 121 | n => n, fun | 22 => 41 | 23 => 9 | 25 => 111 | 4 => 4 | 3 => 3 | 0 => 0 | n => n, fun | n => n⟩
theorem Tryz.laysSlH8_str : Go.Proofs.SlLaysH.n8 Tryz.prog Tryz.laysSlH8_f37_ren := {
  mixed := by kernel_rfl
  f6 := ⟨Tryz.f121.name, by decide, Tryz.func121.trans (congrArg some (by kernel_rfl))⟩
  f8 := ⟨Tryz.f73.name, by decide, Tryz.func73.trans (congrArg some (by kernel_rfl))⟩
  t0 := Tryz.underlying0
  a0 := Tryz.isAgg0
  z0 := Tryz.sizeOf0
  v0 := Tryz.zeroValue0
  t3 := Tryz.underlying3
  a3 := Tryz.isAgg3
  z3 := Tryz.sizeOf3
  v3 := Tryz.zeroValue3
  t4 := Tryz.underlying4
  a4 := Tryz.isAgg4
  z4 := Tryz.sizeOf4
  v4 := Tryz.zeroValue4
  t22 := Tryz.underlying41
  a22 := Tryz.isAgg41
  z22 := Tryz.sizeOf41
  v22 := Tryz.zeroValue41
  a23 := Tryz.isAgg9
  z23 := Tryz.sizeOf9
  t25 := Tryz.underlying111
  a25 := Tryz.isAgg111
  z25 := Tryz.sizeOf111
  v25 := Tryz.zeroValue111 }
open Go.RowKit Go.Lib in
theorem Tryz.slices_ContainsFunc_str {α : Type} [Inhabited α] (enc : α → Value) (p : α → Bool) (g : Nat) (lb : Array Value) (eg : ∀ args w, (callFunc g args).run Tryz.prog w = .ok (.enter g args) w) (b off n c : Nat) (zs : List α) (w : World) (hp : PredAt Tryz.prog g lb enc p w) (hz : n ≤ zs.length) (hbig : n ≤ 9223372036854775807) (hc : ∀ j, j < zs.length → w.cell? ⟨b, off + j, none⟩ = some (enc zs[j]!)) :
    Calls Tryz.prog 73 #[.slice (some ⟨b, off, none⟩) n c, .func (.func g) #[] lb] w fun e w' => e = .returned (.bool ((zs.take n).any p)) ∧ ∃ q, w' = w.drewN q := AnyE.slices_ContainsFunc Tryz.laysSlH8_str enc p g lb eg b off n c zs w hp hz hbig hc
open Go.RowKit Go.Lib in
theorem Tryz.slices_ContainsFunc_empty_str {α : Type} [Inhabited α] (a : Option Addr) (c : Nat) (fv : Value) (w : World) :
    Calls Tryz.prog 73 #[.slice a 0 c, fv] w fun e w' => e = .returned (.bool false) ∧ w' = w := AnyE.slices_ContainsFunc_empty Tryz.laysSlH8_str a c fv w
end Go.Proofs
