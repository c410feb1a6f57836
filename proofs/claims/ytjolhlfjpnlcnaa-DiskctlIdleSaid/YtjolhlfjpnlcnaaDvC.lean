/-
  zeros, Isbad, New, Read of the reference. Condition: at most 4096 sectors.
-/
import Derived.Test.YtjolhlfjpnlcnaaDvB
namespace Go.Proofs.Ytjolhlfjpnlcnaa
open Go.RowKit
set_option linter.unusedSimpArgs false
set_option linter.unusedVariables false
set_option maxHeartbeats 4000000
set_option maxRecDepth 100000
attribute [local irreducible] wpQuiet

theorem rep_snoc (k : Nat) (u : Value) : List.replicate (k + 1) u = List.replicate k u ++ [u] := List.replicate_succ'
theorem rzeros_any (n : Nat) (hn : n ≤ 1099511627776) (w : World) : Calls Try.prog 65 #[.int .i64 (n : Int)] w fun e w' => e = .returned (.string (zB n)) ∧ Below w.heap.size w w' := by
  go_enter Try.func65, Try.ntmps65
  go_wp2
  go_loopw [3, 4] (fun v i wr => ∃ k : Nat, k ≤ n ∧ i = .int .i64 k ∧ wr.ownsRow w.heap.size 5 1 v k (List.replicate k (.int .u8 0)) ∧ Below w.heap.size w wr) (fun _ i _ => match i with | .int _ q => n - q.toNat | _ => 0)
  case atStart => exact ⟨0, Nat.zero_le _, rfl, World.ownsRow_nil _ _ _ _, Below.refl _ _⟩
  case round =>
    obtain ⟨k, hk, rfl, hown, hB⟩ := hrel
    by_cases hkn : k < n
    · have hki : (k : Int) < (n : Int) := by omega
      have hst := hid (rep_snoc k (.int .u8 0))
      go_wp2_with (first | (at_builtin; refine wpList_appU rfl (.tmp 10) (.tmp 11) rfl w.heap.size _ _ _ rfl (World.ownsRow.alloc hown _) ⟨wr.heap.size, 0, none⟩ 1 1 [.int .u8 0] rfl rfl cell_one (fun x hx => by simp at hx; subst hx; rfl) (by omega) (by have := hB.size; simp <;> omega) ?_; intro v2 w2 ho2 hb2 _))
      exact ⟨⟨k + 1, by omega, by go_num, by rw [show List.replicate (k + 1) (Value.int .u8 0) = _ from hst]; exact ho2, (hB.alloc hB.size _).trans (hb2.mono (Nat.le_refl _))⟩, by simp only; omega⟩
    · obtain rfl : k = n := by omega
      have hkn : ¬ (k : Int) < (k : Int) := by omega
      have hcv := zero_conv hown
      go_wp2
      go_ret
      exact ⟨rfl, hB⟩
theorem risbad_any (D : Drv) (k : Int) (hl : D.B.length ≤ 1099511627776) (vs vb : Value) (w : World) (hs : Sts w vs D.S) (hb : Its w vb D.B) : Calls Try.prog 64 #[.agg #[vs, vb], .int .i64 k] w fun e w' => e = .returned (.bool (D.B.contains k)) ∧ Below w.heap.size w w' := by
  obtain ⟨S, B⟩ := D
  dsimp only at hl hs hb ⊢
  obtain ⟨A, c, rfl, _, hc⟩ := hb.form
  have hX := (Bag.nil w).new 25 [vs, .slice A B.length c]
  clear hb hs
  obtain ⟨r, hR⟩ : ∃ r, B.contains k = r := ⟨_, rfl⟩
  rw [hR]
  replace hR := hid hR
  go_enter Try.func64, Try.ntmps64
  go_wp2
  go_loopw [5] (fun iv wr => ∃ i : Nat, i ≤ B.length ∧ iv = .int .i64 i ∧ Hid (∀ j : Nat, j < i → B[j]? ≠ some k) ∧ Bag [(w.heap.size, 25, [vs, .slice A B.length c])] w wr) (fun i _ => match i with | .int _ q => B.length - q.toNat | _ => 0)
  case atStart => exact ⟨0, Nat.zero_le _, rfl, fun j hj => absurd hj (Nat.not_lt_zero j), hX⟩
  case round =>
    clear hX
    obtain ⟨i, hi, rfl, hN, hX⟩ := hrel
    by_cases hin : i < B.length
    · have hii : (i : Int) < (B.length : Int) := by omega
      have hx := List.getElem?_eq_getElem hin
      generalize B[i] = x at *
      obtain ⟨a, rfl, hL⟩ := hc i x hx
      by_cases hxk : x = k
      · have hres : B.contains k = true := by rw [← hxk]; exact List.contains_iff_mem.2 (List.mem_of_getElem? hx)
        obtain rfl : r = true := (show B.contains k = r from hR).symm.trans hres
        have he : (x == k) = true := by simpa using hxk
        clear hN hx hxk hc hres
        go_wp2_with (first | ((with_reducible refine at_load ?_); refine wpList_bag_cell hX slS_cell _ rfl rfl rfl rfl (by first | exact .head _) rfl ?_) | ((with_reducible refine at_load ?_); refine wpList_bag_cell hX slI_cell _ rfl rfl rfl rfl (by first | exact .head _) rfl ?_) | ((with_reducible refine at_load ?_); refine wpList_loadW rfl 3 _ _ _ rfl rfl (hL _ hX.below) ?_))
        go_ret
        exact ⟨rfl, hX.below⟩
      · have he : (x == k) = false := by simpa using hxk
        have hN2 : Hid (∀ j : Nat, j < i + 1 → B[j]? ≠ some k) := fun j hj => by
          rcases (by omega : j < i ∨ j = i) with h | rfl
          · exact (show ∀ j : Nat, j < i → B[j]? ≠ some k from hN) j h
          · rw [hx]; intro h; exact hxk (Option.some.inj h)
        clear hN hx hxk hc
        go_wp2_with (first | ((with_reducible refine at_load ?_); refine wpList_bag_cell hX slS_cell _ rfl rfl rfl rfl (by first | exact .head _) rfl ?_) | ((with_reducible refine at_load ?_); refine wpList_bag_cell hX slI_cell _ rfl rfl rfl rfl (by first | exact .head _) rfl ?_) | ((with_reducible refine at_load ?_); refine wpList_loadW rfl 3 _ _ _ rfl rfl (hL _ hX.below) ?_))
        exact ⟨⟨i + 1, by omega, by go_num, hN2, hX⟩, by simp only; omega⟩
    · have hii : ¬ (i : Int) < (B.length : Int) := by omega
      have hres : B.contains k = false := by
        rw [Bool.eq_false_iff]; intro h
        obtain ⟨j, hj⟩ := List.mem_iff_getElem?.1 (List.contains_iff_mem.1 h)
        have hjl : j < B.length := (List.getElem?_eq_some_iff.1 hj).1
        exact (show ∀ j : Nat, j < i → B[j]? ≠ some k from hN) j (by omega) hj
      obtain rfl : r = false := (show B.contains k = r from hR).symm.trans hres
      clear hN hc hres
      go_wp2_with (first | ((with_reducible refine at_load ?_); refine wpList_bag_cell hX slS_cell _ rfl rfl rfl rfl (by first | exact .head _) rfl ?_) | ((with_reducible refine at_load ?_); refine wpList_bag_cell hX slI_cell _ rfl rfl rfl rfl (by first | exact .head _) rfl ?_))
      go_ret
      exact ⟨rfl, hX.below⟩
theorem rep_map (k : Nat) : (List.replicate (k + 1) (zB 128)).map Value.string = (List.replicate k (zB 128)).map Value.string ++ [.string (zB 128)] := by rw [List.replicate_succ', List.map_append]; rfl
theorem two_dv (w : World) (cs ds : List Value) : Bag [(w.heap.size + 1, 25, ds), (w.heap.size, 25, cs)] w ((w.alloc (.cells cs.toArray 25)).alloc (.cells ds.toArray 25)) := by
  have h := ((Bag.nil w).new 25 cs).new 25 ds
  rw [show (w.alloc (.cells cs.toArray 25)).heap.size = w.heap.size + 1 from Array.size_push ..] at h
  exact h
theorem rread_any (D : Drv) (k : Int) (hl : D.B.length ≤ 1099511627776) (hl2 : D.S.length ≤ 1099511627776) (vs vb : Value) (w : World) (hs : Sts w vs D.S) (hb : Its w vb D.B) : Calls Try.prog 46 #[.agg #[vs, vb], .int .i64 k] w fun e w' => e = .returned (.tuple #[.string (D.rd k).1, .int .i64 (D.rd k).2]) ∧ Below w.heap.size w w' := by
  obtain ⟨A, c, rfl, _, hc⟩ := hs.form
  have hib := fun w' (h : Below w.heap.size w w') => risbad_any D k hl (.slice A D.S.length c) vb w' (hs.below h) (hb.below h)
  have hX := (Bag.nil w).new 25 [.slice A D.S.length c, vb]
  unfold Drv.rd
  obtain ⟨S, B⟩ := D
  dsimp only at hib hc hX hl hl2 ⊢
  clear hb hs
  by_cases h0 : k < 0
  · have d0 : decide (k < 0) = true := decide_eq_true h0
    rw [if_neg (by omega)]
    go_enter Try.func46, Try.ntmps46
    go_wp2_with (first | ((with_reducible refine at_load ?_); refine wpList_bag_cell hX slS_cell _ rfl rfl rfl rfl (by first | exact .head _) rfl ?_) | ((with_reducible refine at_load ?_); refine wpList_bag_cell hX slI_cell _ rfl rfl rfl rfl (by first | exact .head _) rfl ?_))
    go_ret2
    exact ⟨rfl, hX.below⟩
  have d0 : decide (k < 0) = false := decide_eq_false h0
  by_cases h1 : (S.length : Int) ≤ k
  · have d1 : decide ((S.length : Int) ≤ k) = true := decide_eq_true h1
    rw [if_neg (by omega)]
    go_enter Try.func46, Try.ntmps46
    go_wp2_with (first | ((with_reducible refine at_load ?_); refine wpList_bag_cell hX slS_cell _ rfl rfl rfl rfl (by first | exact .head _) rfl ?_) | ((with_reducible refine at_load ?_); refine wpList_bag_cell hX slI_cell _ rfl rfl rfl rfl (by first | exact .head _) rfl ?_))
    go_ret2
    exact ⟨rfl, hX.below⟩
  have d1 : decide ((S.length : Int) ≤ k) = false := decide_eq_false h1
  rw [if_pos (by omega)]
  obtain ⟨j, rfl⟩ : ∃ j : Nat, k = (j : Int) := ⟨k.toNat, by omega⟩
  have hj : j < S.length := by omega
  have hj2 : (j : Int) < (S.length : Int) := by omega
  have hx := List.getElem?_eq_getElem hj
  have hgd : S.getD ((j : Int).toNat) ⟨#[]⟩ = S[j] := by rw [Int.toNat_natCast, List.getD_eq_getElem?_getD, hx]; rfl
  rw [hgd]
  generalize S[j] = x at *
  obtain ⟨a, rfl, hL⟩ := hc j x hx
  cases hbd : B.contains (j : Int)
  · rw [hbd] at hib
    simp only [Bool.false_eq_true, if_false]
    clear hbd hx hc h0 h1 hgd
    go_enter Try.func46, Try.ntmps46
    go_wp2_with (first | ((with_reducible refine at_load ?_); refine wpList_bag_cell hX slS_cell _ rfl rfl rfl rfl (by first | exact .head _) rfl ?_) | ((with_reducible refine at_load ?_); refine wpList_bag_cell hX slI_cell _ rfl rfl rfl rfl (by first | exact .head _) rfl ?_) | ((with_reducible refine at_load ?_); refine wpList_bag_part (k := 0) hX aggD sizD _ rfl rfl rfl rfl (by first | exact .head _) (fun jz vz hz => (congrArg (fun n => ([_, _] : List Value)[n]?) (Nat.zero_add jz)).trans hz) rfl ?_) | ((with_reducible refine at_load ?_); refine wpList_loadW rfl 9 _ _ _ rfl rfl (hL _ hX.below) ?_) | (go_at_call 64; (with_reducible refine (hib _ hX.below).mono ?_); rintro e w' ⟨rfl, hbb⟩; replace hX := hX.step hbb; clear hbb))
    go_ret2
    exact ⟨rfl, hX.below⟩
  · rw [hbd] at hib
    simp only [if_true]
    clear hbd hx hc h0 h1 hgd
    go_enter Try.func46, Try.ntmps46
    go_wp2_with (first | ((with_reducible refine at_load ?_); refine wpList_bag_cell hX slS_cell _ rfl rfl rfl rfl (by first | exact .head _) rfl ?_) | ((with_reducible refine at_load ?_); refine wpList_bag_cell hX slI_cell _ rfl rfl rfl rfl (by first | exact .head _) rfl ?_) | ((with_reducible refine at_load ?_); refine wpList_bag_part (k := 0) hX aggD sizD _ rfl rfl rfl rfl (by first | exact .head _) (fun jz vz hz => (congrArg (fun n => ([_, _] : List Value)[n]?) (Nat.zero_add jz)).trans hz) rfl ?_) | ((with_reducible refine at_load ?_); refine wpList_loadW rfl 9 _ _ _ rfl rfl (hL _ hX.below) ?_) | (go_at_call 64; (with_reducible refine (hib _ hX.below).mono ?_); rintro e w' ⟨rfl, hbb⟩; replace hX := hX.step hbb; clear hbb))
    go_ret2
    exact ⟨rfl, hX.below⟩
end Go.Proofs.Ytjolhlfjpnlcnaa
