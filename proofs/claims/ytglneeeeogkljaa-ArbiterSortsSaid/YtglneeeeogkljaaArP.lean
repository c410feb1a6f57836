/-
  slices.SortFunc at requests; the contracts of package arbiter. Condition: at most 2^40 requests.
-/
import Derived.Test.YtglneeeeogkljaaArK
import Derived.Test.YtglneeeeogkljaaArN
import Derived.Test.YtglneeeeogkljaaShelfQ
namespace Go.Proofs.Ytglneeeeogkljaa
open Go.RowKit
set_option linter.unusedSimpArgs false
set_option linter.unusedVariables false
set_option maxHeartbeats 4000000
set_option maxRecDepth 100000
attribute [local irreducible] wpQuiet
theorem cmp_lays (blk off size : Nat) (w : World) : CmpLays Try.prog 18 #[] encQ 2 cf blk off size w := fun m os dk _ x y => compare_any x y (sortWorldK encQ 2 w blk off m dk os)
theorem enters_compare : ∀ args w, (callFunc 18 args).run Try.prog w = .ok (.enter 18 args) w := enters_of Try.func18 (by kernel_rfl) rfl
theorem psort_func (w0 : World) : ∀ (v : Value) (l : List Rq) (n : Nat) (w : World), n = (l.filter okQ).length → n ≤ 1099511627776 → w.ownsRow w0.heap.size 23 2 v n (flat (l.filter okQ)) → Below w0.heap.size w0 w →
    Calls Try.prog 19 #[v, .func (.func 18) #[] #[]] w fun e w' => e = .returned (.tuple #[]) ∧ Rqs w' v (srt l) ∧ Below w0.heap.size w0 w' := by
  intro v l n w hn hl hown hb
  rcases Nat.eq_zero_or_pos n with h0 | h0
  · have hrow := Rw.of_own hown
    obtain ⟨p, cap, rfl, _, _⟩ := hrow
    have hnil : l.filter okQ = [] := List.length_eq_zero_iff.1 (by omega)
    have hsn : srt l = [] := List.length_eq_zero_iff.1 (by rw [srt_length, List.countP_eq_length_filter, hnil]; rfl)
    subst h0
    have hc := AnyF.slices_SortFunc_none Try.sortL p cap (.func (.func 18) #[] #[]) w
    refine Calls.mono (P := Try.prog) hc fun e w' ⟨he, hw⟩ => ⟨he, ?_, by rw [hw]; exact hb⟩
    rw [hsn]
    exact ⟨p, cap, rfl, Nat.zero_le _, fun j u hu => by simp [flat] at hu⟩
  · obtain ⟨g, cap, rfl, hnc, _, hg, hgl, _⟩ := own_at hown h0
    have hH := holds_own hown hn h0
    have hsz : (l.filter okQ).toArray.size = n := by rw [hn]; simp
    have hc := AnyQ.slices_SortFunc Try.sortL 2 aggQ sizQ encQ encQ_length encQ_one cf swo_cf 18 #[] g 0 cap (l.filter okQ).toArray w enters_compare (cmp_lays g 0 _ w) hH hgl (by omega)
    rw [hsz] at hc
    refine Calls.mono (P := Try.prog) hc fun e w' ⟨he, d', m, os, hp, hs, hw⟩ => ⟨he, ?_, by rw [hw]; exact below_sort hb hg (Nat.le_trans hg (Nat.le_of_lt hgl))⟩
    rw [← hsz] at hp hs
    obtain ⟨z1, z2⟩ := srt_of (d := (l.filter okQ).toArray) (d' := d') rfl hp hs
    rw [← z2]
    have hHold : Sort.HoldsK encQ 2 w' g 0 d' := by rw [hw]; exact holdsK_sortWorldK_c encQ 2 w g 0 (l.filter okQ).toArray d' m os hH hgl z1
    exact rqs_holds hHold (z1.trans hsz) hnc
/-- The contracts of package arbiter hold. -/
theorem arb_c : ArC :=
  ⟨fun q w => pValid_any q w, fun v l w hl hv => pSort_walk w v l (by omega) hv (fun w0 => psort_func w0), fun v l w hl hv => pBest_any v l (by omega) w hv, fun v l n w hl hv => pGrant_any v l n (by omega) w hv⟩
end Go.Proofs.Ytglneeeeogkljaa
