/-
  Walk over ByName of package disasm. Condition: the tables read as the program's text lays them; the string is one that Go can hold.
-/
import Derived.Test.YtipaednpelapgaaDoorDwM
namespace Go.Proofs.YtipaednpelapgaaDoor
open Go.RowKit
set_option linter.unusedSimpArgs false
set_option linter.unusedVariables false
set_option maxHeartbeats 8000000
set_option maxRecDepth 100000

def bnV (r : Option (Int × Bool)) : Value := .tuple #[.int .i64 (r.getD (0, false)).1, .bool (r.getD (0, false)).2, .bool r.isSome]
theorem byname_any (s : ByteArray) (hs : s.size ≤ maxLen) {A : Addr} {c : Nat} (W0 : World) (W : Dis A c W0) :
    Calls Tryd.prog 9 #[.string s] W0 fun e w' => e = .returned (bnV (bnT s.data.toList)) ∧ Below W0.heap.size W0 w' := by
  have hm := meanings_any W0 W
  unfold bnT bnV
  generalize hR : fnd (tabN 57 ++ tabB) s.data.toList = R
  generalize ho : (R.getD (0, false)).1 = o
  generalize hbb : (R.getD (0, false)).2 = b
  generalize hk : R.isSome = k
  go_enter Tryd.func9, Tryd.ntmps9
  go_wp2_with (first
    | (go_at_call 19; with_reducible refine hm.mono ?_; rintro e w1 ⟨rfl, hM, hb⟩)
    | (at_lookup; refine wpList_get rfl (.tmp 8) (.tmp 9) rfl W0.heap.size 200 _ rfl hM s hs rfl ?_; rw [hR, ho, hbb, hk]))
  have hb2 := hb.trans (((Below.refl w1.heap.size w1).alloc (Nat.le_refl _) (.cells #[.int .i64 o, .bool b] 45)).mono hb.size)
  go_quiet (fail)
  go_wp2
  go_ret3
  exact ⟨rfl, ⟨hb2.os, hb2.tape, hb2.output, hb2.size, hb2.block⟩⟩

end Go.Proofs.YtipaednpelapgaaDoor
