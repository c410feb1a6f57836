/-
  Walk over the statement InstDecodes: whatever the input, it answers true. Condition: the tables read as the program's text lays them.
-/
import Derived.Test.YtlaikajgpgpidaaDoorInY
import Derived.Test.YtlaikajgpgpidaaDoorInZ
namespace Go.Proofs.YtlaikajgpgpidaaDoor
open Go.RowKit
set_option linter.unusedSimpArgs false
set_option linter.unusedVariables false
set_option maxHeartbeats 8000000
set_option maxRecDepth 100000
attribute [local irreducible] wpQuiet

theorem decodes_law (l : List Int) (v : Value) {A : Addr} {c : Nat} (W0 : World) (W : Frm A c W0) (hn : Nums .i64 W0 v l) (hm : l.length ≤ maxLen) : Calls Tryd.prog 3 #[v] W0 fun e w' => e = .returned (.bool true) ∧ Below W0.heap.size W0 w' := by
  have hX := St.start W
  have hA := fun w (k : Frm A c w) => alive_any w k
  have hn2 := hn
  obtain ⟨A1, cp, rfl, hcp, _⟩ := hn2
  unfold maxLen at hm
  have hl0 : (0 : Int) ≤ (l.length : Int) := by omega
  by_cases hl : 8 < l.length
  · have hl8 : decide ((8 : Int) < (l.length : Int)) = true := decide_eq_true (by omega)
    go_enter Tryd.func3, Tryd.ntmps3
    go_wp2_with (first | (go_at_call 8; with_reducible refine (hA _ hX.frm).mono ?_; rintro _ w' ⟨rfl, hb⟩; have hX := hX.step hb; clear hb))
    go_ret
    exact ⟨rfl, hX.below⟩
  · have hl8 : decide ((8 : Int) < (l.length : Int)) = false := decide_eq_false (by omega)
    have hD := fun w (k : Frm A c w) (h : Nums .i64 w (.slice A1 l.length cp) l) => Decode_any l _ (by omega) w k h
    have hE := fun w (k : Frm A c w) (h : Nums .i64 w (.slice A1 l.length cp) l) => rDecode_any l _ (by omega) w k h
    rcases hdc : dcI l with ⟨⟨o, b, m, r, x, p, q, y, g, n⟩, N⟩
    rw [hdc] at hD hE
    replace hD : ∀ w (k : Frm A c w) (h : Nums .i64 w (.slice A1 l.length cp) l), Calls Tryd.prog 9 #[.slice A1 l.length cp] w fun e w' => e = .returned (.tuple #[.agg #[.int .i64 o, .bool b, .int .i64 m, .int .i64 r, .int .i64 x, .int .i64 p, .int .i64 q, .int .i64 y, .int .i64 g, .int .i64 n], .int .i64 N]) ∧ Below w.heap.size w w' := hD
    replace hE : ∀ w (k : Frm A c w) (h : Nums .i64 w (.slice A1 l.length cp) l), Calls Tryd.prog 10 #[.slice A1 l.length cp] w fun e w' => e = .returned (.tuple #[.agg #[.int .i64 o, .bool b, .int .i64 m, .int .i64 r, .int .i64 x, .int .i64 p, .int .i64 q, .int .i64 y, .int .i64 g, .int .i64 n], .int .i64 N]) ∧ Below w.heap.size w w' := hE
    clear hdc
    go_enter Tryd.func3, Tryd.ntmps3
    go_wp2_with (first | (go_at_call 9; with_reducible refine (hD _ hX.frm (hn.below hX.below)).mono ?_; rintro _ w' ⟨rfl, hb⟩; have hX := (hX.step hb).put [.int .i64 o, .bool b, .int .i64 m, .int .i64 r, .int .i64 x, .int .i64 p, .int .i64 q, .int .i64 y, .int .i64 g, .int .i64 n] 28; clear hb; have i0 := hX.c 0 0 rfl rfl; have i1 := hX.c 0 1 rfl rfl; have i2 := hX.c 0 2 rfl rfl; have i3 := hX.c 0 3 rfl rfl; have i4 := hX.c 0 4 rfl rfl; have i5 := hX.c 0 5 rfl rfl; have i6 := hX.c 0 6 rfl rfl; have i7 := hX.c 0 7 rfl rfl; have i8 := hX.c 0 8 rfl rfl; have i9 := hX.c 0 9 rfl rfl) | (go_at_call 10; with_reducible refine (hE _ hX.frm (hn.below hX.below)).mono ?_; rintro _ w' ⟨rfl, hb⟩; have hX := (hX.step hb).put [.int .i64 o, .bool b, .int .i64 m, .int .i64 r, .int .i64 x, .int .i64 p, .int .i64 q, .int .i64 y, .int .i64 g, .int .i64 n] 28; clear hb; have i0 := hX.c 0 0 rfl rfl; have i1 := hX.c 0 1 rfl rfl; have i2 := hX.c 0 2 rfl rfl; have i3 := hX.c 0 3 rfl rfl; have i4 := hX.c 0 4 rfl rfl; have i5 := hX.c 0 5 rfl rfl; have i6 := hX.c 0 6 rfl rfl; have i7 := hX.c 0 7 rfl rfl; have i8 := hX.c 0 8 rfl rfl; have i9 := hX.c 0 9 rfl rfl; have j0 := hX.c 1 0 rfl rfl; have j1 := hX.c 1 1 rfl rfl; have j2 := hX.c 1 2 rfl rfl; have j3 := hX.c 1 3 rfl rfl; have j4 := hX.c 1 4 rfl rfl; have j5 := hX.c 1 5 rfl rfl; have j6 := hX.c 1 6 rfl rfl; have j7 := hX.c 1 7 rfl rfl; have j8 := hX.c 1 8 rfl rfl; have j9 := hX.c 1 9 rfl rfl) | (go_at_call 8; with_reducible refine (hA _ hX.frm).mono ?_; rintro _ w' ⟨rfl, hb⟩; have hX := hX.step hb; clear hb))
    go_ret
    exact ⟨rfl, hX.below⟩

end Go.Proofs.YtlaikajgpgpidaaDoor
