/-
  Walk over the statement DisasmNames: whatever the input, it answers true. Condition: the tables read as the program's text lays them; the string is one that Go can hold.
-/
import Derived.Test.YtipaednpelapgaaDoorDwQ
import Derived.Test.YtipaednpelapgaaDoorDwS
namespace Go.Proofs.YtipaednpelapgaaDoor
open Go.RowKit
set_option linter.unusedSimpArgs false
set_option linter.unusedVariables false
set_option maxHeartbeats 8000000
set_option maxRecDepth 100000

theorem names_law (o : Int) (b : Bool) (s : ByteArray) {A : Addr} {c : Nat} (W0 : World) (W : Dis A c W0) (T : Tab 0 mns W0) (T1 : Tab 1 clr W0) (T2 : Tab 2 sts W0) (hs : s.size ≤ maxLen) :
    Calls Tryd.prog 3 #[.int .i64 o, .bool b, .string s] W0 fun e w' => e = .returned (.bool true) ∧ Below W0.heap.size W0 w' := by
  have h0 := fun w (D : Dis A c w) => alive_any w D
  have hb := Below.refl W0.heap.size W0
  by_cases hl : 100 < s.size
  · have hl2 : (100 : Int) < (s.size : Int) := by omega
    go_enter Tryd.func3, Tryd.ntmps3
    go_wp2_with (first | (go_at_call 8; with_reducible refine (h0 _ (W.step hb)).mono ?_; rintro e w1 ⟨rfl, k⟩; have hb := hb.trans (k.mono hb.size); clear k))
    go_ret
    exact ⟨rfl, hb⟩
  · have hl2 : (s.size : Int) ≤ 100 := by omega
    have h1 := fun w D => byname_any s hs (A := A) (c := c) w D
    have h2 := fun w t t1 t2 => rbyname_any s (W0 := w) t t1 t2
    have h3 := fun w D => dnam_any o b (A := A) (c := c) w D
    have h4 := fun w t => rname_any o b w t
    unfold bnV at h1 h2
    generalize ((bnT s.data.toList).getD (0, false)).1 = O at *
    generalize ((bnT s.data.toList).getD (0, false)).2 = B at *
    generalize (bnT s.data.toList).isSome = K at *
    generalize nmT o b = X at *
    go_enter Tryd.func3, Tryd.ntmps3
    go_wp2_with (first
      | (go_at_call 9; with_reducible refine (h1 _ (W.step hb)).mono ?_; rintro e w1 ⟨rfl, k⟩; have hb := hb.trans (k.mono hb.size); clear k)
      | (go_at_call 10; with_reducible refine (h2 _ (T.step hb) (T1.step hb) (T2.step hb)).mono ?_; rintro e w1 ⟨rfl, k⟩; have hb := hb.trans (k.mono hb.size); clear k)
      | (go_at_call 11; with_reducible refine (h3 _ (W.step hb)).mono ?_; rintro e w1 ⟨rfl, k⟩; have hb := hb.trans (k.mono hb.size); clear k)
      | (go_at_call 12; with_reducible refine (h4 _ (T.step hb)).mono ?_; rintro e w1 ⟨rfl, k⟩; have hb := hb.trans (k.mono hb.size); clear k)
      | (go_at_call 8; with_reducible refine (h0 _ (W.step hb)).mono ?_; rintro e w1 ⟨rfl, k⟩; have hb := hb.trans (k.mono hb.size); clear k))
    go_ret
    exact ⟨rfl, hb⟩

end Go.Proofs.YtipaednpelapgaaDoor
