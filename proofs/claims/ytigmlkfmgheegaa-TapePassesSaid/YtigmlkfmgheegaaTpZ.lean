/-
  The contracts of package tape. No condition.
-/
import Derived.Test.YtigmlkfmgheegaaTpYf
namespace Go.Proofs.Ytigmlkfmgheegaa
open Go.RowKit
set_option linter.unusedSimpArgs false
set_option linter.unusedVariables false
set_option maxHeartbeats 4000000
set_option maxRecDepth 100000
attribute [local irreducible] wpQuiet

theorem tp_len {K : Tp} (h : K.right = true) : K.R.length ≤ 1099511627776 := by have := ((Tp.right_iff K).1 h).1.1; omega
theorem tp_one {w : World} {v : Value} {S : List ByteArray} (h : Sts w v S) : ∃ A c, v = .slice A S.length c := by obtain ⟨A, c, h, _⟩ := h.form; exact ⟨A, c, h⟩
theorem tp_c (W : World) : TpC W :=
  { new := fun L v X w _ hl hX hs => pnewT_any L hl v X w hX hs
    right := fun K vs w _ hl hs => prightT_any K hl vs w hs
    read := fun K g vs w _ hR hs => by
      obtain ⟨⟨_, _, hc, _⟩, _⟩ := (Tp.right_iff K).1 hR
      obtain ⟨A, c, rfl⟩ := tp_one hs
      exact preadT_any K g hc.1 hc.2 A K.R.length c w
    write := fun K g v vs X w _ hR hX hs => pwriteT_any K (tp_len hR) g v vs X w hX hs.now
    tick := fun K M B vs vm vz X w _ hR hM hX hs hm hz => ptickT_any K hR M B hM vs vm vz X w hX hs.now hm.now hz.now
    req := fun K vs w _ hR hs => by
      obtain ⟨A, c, rfl⟩ := tp_one hs
      exact preqT_any K A K.R.length c w
    acc := fun K v vs X w _ hR hX hs => paccT_any K (tp_len hR) v vs X w hX hs.now
    reset := fun K vs X w _ hR hX hs => presetT_any K (tp_len hR) vs X w hX hs.now
    mount := fun K vs X w _ hR hX hs => pmountT_any K (tp_len hR) vs X w hX hs.now }
end Go.Proofs.Ytigmlkfmgheegaa
