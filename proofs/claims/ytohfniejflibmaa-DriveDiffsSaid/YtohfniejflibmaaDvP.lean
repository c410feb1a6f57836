/-
  The contracts of package drive. No condition.
-/
import Derived.Test.YtohfniejflibmaaDvW
import Derived.Test.YtohfniejflibmaaDvV
namespace Go.Proofs.Ytohfniejflibmaa
open Go.RowKit
set_option linter.unusedSimpArgs false
set_option linter.unusedVariables false
set_option maxHeartbeats 4000000
set_option maxRecDepth 100000
attribute [local irreducible] wpQuiet

theorem drv_c (W : World) : DvC W :=
  { new := fun n X w _ hX => pnew_any n X w hX
    right := fun D vs vb w _ h1 h2 hs hb => pright_any D (by omega) (by omega) vs vb w hs hb
    read := fun D k vs vb w _ hr hs hb => pread_any D k hr vs vb w hs hb
    write := fun D k s vs vb X w _ hr hX hs hb => pwrite_any D k s hr vs vb X w hX hs.now hb.now
    spoil := fun D k vs vb X w _ hr hX hs hb => pspoil_any D k hr vs vb X w hX hs.now hb.now
    apply := fun D q fz vs vb v X w _ hr hq hX hs hb hv => papply_any D q fz hr hq vs vb v X w hX hs.now hb.now hv
    diff := fun D E vs vb vs2 vb2 X w _ h1 h2 hX hs hb hs2 hb2 => pdiff_any D E (by omega) (by omega) vs vb vs2 vb2 w X hX hs hs2 }
end Go.Proofs.Ytohfniejflibmaa
