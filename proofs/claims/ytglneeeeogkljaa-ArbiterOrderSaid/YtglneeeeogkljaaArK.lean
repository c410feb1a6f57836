/-
  Sort over the contract of slices.SortFunc. Condition: at most 2^40 requests.
-/
import Derived.Test.YtglneeeeogkljaaArJ
namespace Go.Proofs.Ytglneeeeogkljaa
open Go.RowKit
set_option linter.unusedSimpArgs false
set_option linter.unusedVariables false
set_option maxHeartbeats 4000000
set_option maxRecDepth 100000
attribute [local irreducible] wpQuiet
theorem pSort_walk (w : World) (v : Value) (l : List Rq) (hl : l.length ≤ 1099511627776) (hv : Rqs w v l) (hsf : ∀ (w0 : World) (v : Value) (l : List Rq) (n : Nat) (w : World), n = (l.filter okQ).length → n ≤ 1099511627776 → w.ownsRow w0.heap.size 23 2 v n (flat (l.filter okQ)) → Below w0.heap.size w0 w →
    Calls Try.prog 19 #[v, .func (.func 18) #[] #[]] w fun e w' => e = .returned (.tuple #[]) ∧ Rqs w' v (srt l) ∧ Below w0.heap.size w0 w') :
    Calls Try.prog 14 #[v] w fun e w' => ∃ r, e = .returned r ∧ Rqs w' r (srt l) ∧ Below w.heap.size w w' := by
  have hv0 := hv
  replace hsf := hsf w
  obtain ⟨A, c, rfl, _, hc⟩ := hv
  go_enter Try.func14, Try.ntmps14
  go_wp2
  go_loopw [3, 8] (fun v i wr => ∃ (k : Nat) (L : List Rq), k ≤ l.length ∧ i = .int .i64 k ∧ Hid (L = (l.take k).filter okQ) ∧ wr.ownsRow w.heap.size 23 2 v L.length (flat L) ∧ L.length ≤ k ∧ Below w.heap.size w wr)
    (fun _ i _ => match i with | .int _ q => l.length - q.toNat | _ => 0)
  case atStart => exact ⟨0, [], Nat.zero_le _, rfl, rfl, World.ownsRow_nil _ _ _ _, Nat.le_refl _, Below.refl _ _⟩
  case round =>
    obtain ⟨k, L, hk, rfl, hL, hown, hLk, hB⟩ := hrel
    by_cases hkl : k < l.length
    · have hx := List.getElem?_eq_getElem hkl
      generalize l[k] = x at *
      obtain ⟨a, rfl, hc0⟩ := hc (k * 2) (.int .i64 x.1) (flat_get hx 0 _ rfl)
      have hLx : ∀ w', Below w.heap.size w w' → (Instr.loadAt 23 (.pointer (some (a.add (k * 2))))).run Try.prog w' = .ok (.agg [.int .i64 x.1, .int .i64 x.2].toArray) w' := fun w' h => Rqs.load (hv0.below h) rfl hx
      have hva := fun w => pValid_any x w
      have hno := filter_no hx
      have hye := filter_yes hx
      have hwr := hB.size
      have hX := (Bag.nil wr).new 23 [.int .i64 x.1, .int .i64 x.2]
      have hBX : ∀ w', Below wr.heap.size wr w' → Below w.heap.size w w' := fun w' h => hB.trans (h.mono hB.size)
      clear hc hc0 hx hsf
      cases hok : okQ x
      · rw [hok] at hva
        have hL2 : Hid (L = (l.take (k + 1)).filter okQ) := by show L = _; rw [hno hok]; exact hL
        clear hno hye hv0 hL
        go_wp2_with (first | ((with_reducible refine at_load ?_); refine wpList_loadW rfl 23 _ _ _ rfl rfl (hLx _ (hBX _ (by first | exact hX.below | exact (Below.refl _ _).alloc (Nat.le_refl _) _ | exact Below.refl _ _))) ?_) | ((with_reducible refine at_store ?_); refine wpList_bag_store (zs := [.int .i64 0, .int .i64 0]) (Bag.nil wr) aggQ sizQ _ _ rfl rfl rfl rfl rfl rfl rfl rfl (by intro u hu; simp at hu; rcases hu with rfl | rfl <;> rfl) ?_; clear hX; intro wz hX) | ((with_reducible refine at_load ?_); refine wpList_bag_part (k := 0) hX aggQ sizQ _ rfl rfl rfl rfl (by first | exact .head _ | exact .tail _ (.head _) | exact .tail _ (.tail _ (.head _))) (fun jz vz hz => (congrArg (fun n => ([_, _] : List Value)[n]?) (Nat.zero_add jz)).trans hz) rfl ?_) | (go_at_call 8; (with_reducible refine (hva _).mono ?_); rintro e w' ⟨rfl, hb⟩; replace hX := hX.step hb; clear hb))
        exact ⟨⟨k + 1, L, by omega, by go_num, hL2, own_step hown hX.below, by omega, hBX _ hX.below⟩, by simp only; omega⟩
      · rw [hok] at hva
        have hL2 : Hid (L ++ [x] = (l.take (k + 1)).filter okQ) := by show _ = _; rw [hye hok, ← (show L = _ from hL)]
        clear hno hye hv0 hL
        go_wp2_with (first | ((with_reducible refine at_load ?_); refine wpList_loadW rfl 23 _ _ _ rfl rfl (hLx _ (hBX _ (by first | exact hX.below | exact (Below.refl _ _).alloc (Nat.le_refl _) _ | exact Below.refl _ _))) ?_) | ((with_reducible refine at_store ?_); refine wpList_bag_store (zs := [.int .i64 0, .int .i64 0]) (Bag.nil wr) aggQ sizQ _ _ rfl rfl rfl rfl rfl rfl rfl rfl (by intro u hu; simp at hu; rcases hu with rfl | rfl <;> rfl) ?_; clear hX; intro wz hX) | ((with_reducible refine at_load ?_); refine wpList_bag_part (k := 0) hX aggQ sizQ _ rfl rfl rfl rfl (by first | exact .head _ | exact .tail _ (.head _) | exact .tail _ (.tail _ (.head _))) (fun jz vz hz => (congrArg (fun n => ([_, _] : List Value)[n]?) (Nat.zero_add jz)).trans hz) rfl ?_) | (go_at_call 8; (with_reducible refine (hva _).mono ?_); rintro e w' ⟨rfl, hb⟩; replace hX := hX.step hb; clear hb) | (at_builtin; refine wpList_appQ rfl (.tmp 14) (.tmp 16) rfl w.heap.size _ _ _ rfl (World.ownsRow.alloc (own_step hown hX.below) _) ⟨w'.heap.size, 0, none⟩ 1 1 [.int .i64 x.1, .int .i64 x.2] rfl rfl (cells_two_new _ _ _ _) (flat_one [x]) (by omega) (by have := hX.below.size; simp <;> omega) ?_; intro v2 w2 ho2 hbN _))
        exact ⟨⟨k + 1, L ++ [x], by omega, by go_num, hL2, by rw [flat_append, List.length_append]; exact ho2, by rw [List.length_append]; simp; omega, ((hBX _ hX.below).alloc (hBX _ hX.below).size _).trans hbN⟩, by simp only; omega⟩
    · have hkk : k = l.length := by omega
      subst hkk
      rw [show L = l.filter okQ from by rw [show L = _ from hL, List.take_length]] at hown hLk
      have hs := fun v hown => hsf v l _ wr rfl (Nat.le_trans hLk hl) hown hB
      replace hs := hs _ hown
      clear hL hc hsf hv0 hown
      go_wp2_with (go_at_call 19; (with_reducible refine hs.mono ?_); rintro e w' ⟨rfl, hr, hb⟩)
      go_ret
      exact ⟨_, rfl, hr, hb⟩
end Go.Proofs.Ytglneeeeogkljaa
