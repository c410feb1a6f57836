/-
  Walks over Text of package psw. No condition.
-/
import Derived.Test.YtmihnfaccklkpaaPsC
import Derived.StillTailTactics
namespace Go.Proofs.Ytmihnfaccklkpaa
open Go.RowKit
set_option linter.unusedSimpArgs false
set_option maxHeartbeats 1000000

theorem own_new (w : World) (cs : Array Value) (t : TypeId) (n : Nat) (xs : List Value) (hn : cs.size = n) (hx : cs.toList = xs) (hm : n ≤ maxLen) :
    (w.alloc (.cells cs t)).drew.ownsRow w.heap.size t 1 (.slice (some ⟨w.heap.size, 0, none⟩) n n) n xs := by
  subst hn hx
  refine ⟨by simp, Or.inr ⟨w.heap.size, cs.size, cs, rfl, Nat.le_refl _, heap_alloc_new w _, Nat.le_refl _, hm, by simp, ?_⟩⟩
  rw [Nat.mul_one]; exact List.take_of_length_le (by simp)
theorem info_parts {i0 : Option TypeInfo} {z : Value} {s b : Nat} (h : i0.map (fun i => (i.zero, i.size, i.bytes)) = some (some z, s, b)) : ∃ i, i0 = some i ∧ i.zero = some z ∧ i.size = s ∧ i.bytes = b := by
  cases i0 with
  | none => cases h
  | some i =>
    simp only [Option.map_some, Option.some.injEq, Prod.mk.injEq] at h
    exact ⟨i, rfl, h.1, h.2.1, h.2.2⟩

theorem own_conv {base : Nat} {v : Value} {out : List UInt8} {w : World} (h : w.ownsRow base 5 1 v out.length (Lib.byteCells out)) : (convert 30 9 v).run Try.prog w = .ok (.string ⟨out.toArray⟩) w := by
  rcases h.2 with ⟨rfl, h0⟩ | ⟨g, cap, cur, rfl, _⟩
  · have : out = [] := List.eq_nil_of_length_eq_zero h0
    subst this
    rw [run_convert_bytes_string w 30 9 5 none 0 0 Try.underlying30 Try.underlying5 Try.underlying9]
    rfl
  · refine run_convert_bytes_back (P := Try.prog) w 30 9 5 ⟨g, 0, none⟩ cap out Try.underlying30 Try.underlying5 Try.underlying9 (fun j hj => ?_)
    refine h.cells (g := g) rfl j _ ?_
    simp [Lib.byteCells, hj]

theorem cells_snoc8 (l : List UInt8) (c : UInt8) : Lib.byteCells l ++ [.int .u8 (c.toNat : Int)] = Lib.byteCells (l ++ [c]) := by simp [Lib.byteCells]
theorem ku_cell (p : Nat) (hp : p < 8) : ((UInt8.ofNat (48 + p)).toNat : Int) = 48 + (p : Int) := by rw [UInt8.toNat_ofNat']; omega
theorem text_any (n : Int) (w : World) : Calls Try.prog 27 #[.int .i64 n] w fun e w' => e = .returned (.string ⟨(tx n).toArray⟩) ∧ Below w.heap.size w w' := by
  have hm : ∀ w, Calls Try.prog 10 #[.int .i64 n] w fun e w' => e = .returned (.int .i64 (md n)) ∧ w' = w := fun w => (mode_any n w).mono fun _ _ h => ⟨h.1, h.2.symm⟩
  have hp : ∀ w, Calls Try.prog 12 #[.int .i64 n] w fun e w' => e = .returned (.int .i64 (pv n)) ∧ w' = w := fun w => (prev_any n w).mono fun _ _ h => ⟨h.1, h.2.symm⟩
  have hr : ∀ w, Calls Try.prog 14 #[.int .i64 n] w fun e w' => e = .returned (.int .i64 (pr n)) ∧ w' = w := fun w => (prio_any n w).mono fun _ _ h => ⟨h.1, h.2.symm⟩
  obtain ⟨i0, hi, hz0, hz1, hz2⟩ := info_parts info8
  have hdm := md_bd n
  have hdp := pv_bd n
  obtain ⟨p, hpp⟩ := Int.eq_ofNat_of_zero_le (pr_bd n).1
  have hp8 := (pr_bd n).2
  rw [hpp] at hp8 hr
  have hp8 : p < 8 := by omega
  have v1 : IntKind.u8.wrap (p : Int) = (p : Int) := by rw [IntKind.wrap_u8]; omega
  have v2 : IntKind.u8.wrap (48 + (p : Int)) = 48 + (p : Int) := by rw [IntKind.wrap_u8]; omega
  have hT : ∀ k, k ≤ 5 → ((tx n).take (3 + k)).length = 3 + k := by intro k hk; rw [List.length_take, show (tx n).length = 8 from rfl]; omega
  have hcp := hid (ku_cell p hp8)
  have T0 : (tx n).take (3 + 0) = [ku (md n), ku (pv n), UInt8.ofNat (48 + p)] := by rw [show p = (pr n).toNat by omega]; rfl
  have T1 : (tx n).take (3 + (0 + 1)) = (tx n).take (3 + 0) ++ [sl 84 (n / 16 % 2)] := rfl
  have T2 : (tx n).take (3 + (1 + 1)) = (tx n).take (3 + 1) ++ [sl 78 (n / 8 % 2)] := rfl
  have T3 : (tx n).take (3 + (2 + 1)) = (tx n).take (3 + 2) ++ [sl 90 (n / 4 % 2)] := rfl
  have T4 : (tx n).take (3 + (3 + 1)) = (tx n).take (3 + 3) ++ [sl 86 (n / 2 % 2)] := rfl
  have T5 : (tx n).take (3 + (4 + 1)) = (tx n).take (3 + 4) ++ [sl 67 (n % 2)] := rfl
  have T8 : (tx n).take (3 + 5) = tx n := rfl
  obtain ⟨T, HT⟩ : ∃ T : Nat → List UInt8, T = fun k => (tx n).take (3 + k) := ⟨_, rfl⟩
  replace hT : ∀ k, k ≤ 5 → (T k).length = 3 + k := by rw [HT]; exact hT
  replace T0 : T 0 = [ku (md n), ku (pv n), UInt8.ofNat (48 + p)] := by rw [HT]; exact T0
  replace T1 : T (0 + 1) = T 0 ++ [sl 84 (n / 16 % 2)] := by rw [HT]; exact T1
  replace T2 : T (1 + 1) = T 1 ++ [sl 78 (n / 8 % 2)] := by rw [HT]; exact T2
  replace T3 : T (2 + 1) = T 2 ++ [sl 90 (n / 4 % 2)] := by rw [HT]; exact T3
  replace T4 : T (3 + 1) = T 3 ++ [sl 86 (n / 2 % 2)] := by rw [HT]; exact T4
  replace T5 : T (4 + 1) = T 4 ++ [sl 67 (n % 2)] := by rw [HT]; exact T5
  have A0 := a16 n
  have D0 : n / 16 % 2 = 0 ∨ n / 16 % 2 = 1 := by omega
  obtain ⟨E0, HE0⟩ : ∃ E, E = n / 16 % 2 := ⟨_, rfl⟩
  rw [← HE0] at A0 D0 T1
  clear HE0
  have A1 := a8 n
  have D1 : n / 8 % 2 = 0 ∨ n / 8 % 2 = 1 := by omega
  obtain ⟨E1, HE1⟩ : ∃ E, E = n / 8 % 2 := ⟨_, rfl⟩
  rw [← HE1] at A1 D1 T2
  clear HE1
  have A2 := a4 n
  have D2 : n / 4 % 2 = 0 ∨ n / 4 % 2 = 1 := by omega
  obtain ⟨E2, HE2⟩ : ∃ E, E = n / 4 % 2 := ⟨_, rfl⟩
  rw [← HE2] at A2 D2 T3
  clear HE2
  have A3 := a2 n
  have D3 : n / 2 % 2 = 0 ∨ n / 2 % 2 = 1 := by omega
  obtain ⟨E3, HE3⟩ : ∃ E, E = n / 2 % 2 := ⟨_, rfl⟩
  rw [← HE3] at A3 D3 T4
  clear HE3
  have A4 := a1 n
  have D4 : n % 2 = 0 ∨ n % 2 = 1 := by omega
  obtain ⟨E4, HE4⟩ : ∃ E, E = n % 2 := ⟨_, rfl⟩
  rw [← HE4] at A4 D4 T5
  clear HE4
  replace T8 : T 5 = tx n := by rw [HT]; exact T8
  rw [← T8]
  clear HT T8 hpp
  have HT0 := hid T0
  have HT1 := hid T1
  have HT2 := hid T2
  have HT3 := hid T3
  have HT4 := hid T4
  have HT5 := hid T5
  clear T0 T1 T2 T3 T4 T5
  obtain ⟨M, hM⟩ : ∃ M, M = md n := ⟨_, rfl⟩
  obtain ⟨V, hV⟩ : ∃ V, V = pv n := ⟨_, rfl⟩
  rw [← hM] at hm hdm HT0
  rw [← hV] at hp hdp HT0
  clear hM hV
  rcases hdm with rfl | rfl <;> rcases hdp with rfl | rfl
  all_goals
    go_enter Try.func27, Try.ntmps27
    go_wp2
    refine wp_region_still_tail 10 (by kernel_rfl) (by kernel_rfl) ?_
    simp only [List.take_succ_cons, List.take_zero, List.drop_succ_cons, List.drop_zero]
    still_step
    still_call (hm _)
    still_step
    still_step
    still_call (hp _)
    still_step
    still_step
    still_call (hr _)
    still_step
    still_step
    refine wpStill_nil ?_
    change wpList _ _ _ _ _ w.drew
    go_wp2
    go_loopw [3, 17] (fun v i wr => ∃ k : Nat, k ≤ 5 ∧ i = .int .i64 k ∧ wr.ownsRow w.heap.size 5 1 v (3 + k) (Lib.byteCells (T k)) ∧ Below w.heap.size w wr)
      (fun _ i _ => match i with | .int _ q => 5 - q.toNat | _ => 0)
    case atStart =>
      refine ⟨0, Nat.zero_le _, rfl, own_new w _ _ 3 _ rfl ?_ (by unfold maxLen; omega), ((Below.refl _ _).alloc (Nat.le_refl _) _).drew⟩
      unfold Hid at HT0 hcp
      rw [HT0]
      simp only [Lib.byteCells, List.map_cons, List.map_nil, hcp]
      rfl
    case round =>
      obtain ⟨k, hk, rfl, hown, hB⟩ := hrel
      clear hm hp hr v1 v2 hcp HT0
      by_cases hkl : k < 5
      · have hcase : k = 0 ∨ k = 1 ∨ k = 2 ∨ k = 3 ∨ k = 4 := by omega
        clear hT
        rcases hcase with rfl | rfl | rfl | rfl | rfl
        · clear HT2 HT3 HT4 HT5 A1 D1 A2 D2 A3 D3 A4 D4
          rcases D0 with rfl | rfl
          · replace A0 : bits .and .i64 n 16 = 0 := A0
            replace HT1 : Hid (T (0 + 1) = T 0 ++ [45]) := HT1
            have hbl := hown.1
            rw [Nat.mul_one] at hbl
            go_wp2_with (first
              | (at_builtin; refine wpList_append_own _ rfl (.tmp 27) (.tmp 29) 30 rfl w.heap.size 5 i0 (.int .u8 0) 1 1 Try.underlying30 hi hz0 hz1 hz2 rfl (by decide) _ _ _ rfl (hown.alloc _) ⟨wr.heap.size, 0, none⟩ 1 1 [.int .u8 ((45 : UInt8).toNat : Int)] rfl rfl (cell_one_new _ _ _) (fun x hx => by simp at hx; subst hx; rfl) (by unfold maxLen; omega) (by omega) (by have := hB.size; simp; omega) ?_; intro v' w1 hown' hgrow _))
            refine ⟨⟨1, by omega, by go_num, ?_, (hB.alloc hB.size _).grown hgrow (by have := hB.size; simp; omega) (fun j hj => (hown.lt j hj).1)⟩, by simp only; omega⟩
            have e : T 1 = T 0 ++ [45] := HT1
            rw [e, ← cells_snoc8]
            exact hown'
          · replace A0 : bits .and .i64 n 16 = 16 := A0
            replace HT1 : Hid (T (0 + 1) = T 0 ++ [84]) := HT1
            have hbl := hown.1
            rw [Nat.mul_one] at hbl
            go_wp2_with (first
              | (at_builtin; refine wpList_append_own _ rfl (.tmp 27) (.tmp 29) 30 rfl w.heap.size 5 i0 (.int .u8 0) 1 1 Try.underlying30 hi hz0 hz1 hz2 rfl (by decide) _ _ _ rfl (hown.alloc _) ⟨wr.heap.size, 0, none⟩ 1 1 [.int .u8 ((84 : UInt8).toNat : Int)] rfl rfl (cell_one_new _ _ _) (fun x hx => by simp at hx; subst hx; rfl) (by unfold maxLen; omega) (by omega) (by have := hB.size; simp; omega) ?_; intro v' w1 hown' hgrow _))
            refine ⟨⟨1, by omega, by go_num, ?_, (hB.alloc hB.size _).grown hgrow (by have := hB.size; simp; omega) (fun j hj => (hown.lt j hj).1)⟩, by simp only; omega⟩
            have e : T 1 = T 0 ++ [84] := HT1
            rw [e, ← cells_snoc8]
            exact hown'
        · clear HT1 HT3 HT4 HT5 A0 D0 A2 D2 A3 D3 A4 D4
          rcases D1 with rfl | rfl
          · replace A1 : bits .and .i64 n 8 = 0 := A1
            replace HT2 : Hid (T (1 + 1) = T 1 ++ [45]) := HT2
            have hbl := hown.1
            rw [Nat.mul_one] at hbl
            go_wp2_with (first
              | (at_builtin; refine wpList_append_own _ rfl (.tmp 27) (.tmp 29) 30 rfl w.heap.size 5 i0 (.int .u8 0) 1 1 Try.underlying30 hi hz0 hz1 hz2 rfl (by decide) _ _ _ rfl (hown.alloc _) ⟨wr.heap.size, 0, none⟩ 1 1 [.int .u8 ((45 : UInt8).toNat : Int)] rfl rfl (cell_one_new _ _ _) (fun x hx => by simp at hx; subst hx; rfl) (by unfold maxLen; omega) (by omega) (by have := hB.size; simp; omega) ?_; intro v' w1 hown' hgrow _))
            refine ⟨⟨2, by omega, by go_num, ?_, (hB.alloc hB.size _).grown hgrow (by have := hB.size; simp; omega) (fun j hj => (hown.lt j hj).1)⟩, by simp only; omega⟩
            have e : T 2 = T 1 ++ [45] := HT2
            rw [e, ← cells_snoc8]
            exact hown'
          · replace A1 : bits .and .i64 n 8 = 8 := A1
            replace HT2 : Hid (T (1 + 1) = T 1 ++ [78]) := HT2
            have hbl := hown.1
            rw [Nat.mul_one] at hbl
            go_wp2_with (first
              | (at_builtin; refine wpList_append_own _ rfl (.tmp 27) (.tmp 29) 30 rfl w.heap.size 5 i0 (.int .u8 0) 1 1 Try.underlying30 hi hz0 hz1 hz2 rfl (by decide) _ _ _ rfl (hown.alloc _) ⟨wr.heap.size, 0, none⟩ 1 1 [.int .u8 ((78 : UInt8).toNat : Int)] rfl rfl (cell_one_new _ _ _) (fun x hx => by simp at hx; subst hx; rfl) (by unfold maxLen; omega) (by omega) (by have := hB.size; simp; omega) ?_; intro v' w1 hown' hgrow _))
            refine ⟨⟨2, by omega, by go_num, ?_, (hB.alloc hB.size _).grown hgrow (by have := hB.size; simp; omega) (fun j hj => (hown.lt j hj).1)⟩, by simp only; omega⟩
            have e : T 2 = T 1 ++ [78] := HT2
            rw [e, ← cells_snoc8]
            exact hown'
        · clear HT1 HT2 HT4 HT5 A0 D0 A1 D1 A3 D3 A4 D4
          rcases D2 with rfl | rfl
          · replace A2 : bits .and .i64 n 4 = 0 := A2
            replace HT3 : Hid (T (2 + 1) = T 2 ++ [45]) := HT3
            have hbl := hown.1
            rw [Nat.mul_one] at hbl
            go_wp2_with (first
              | (at_builtin; refine wpList_append_own _ rfl (.tmp 27) (.tmp 29) 30 rfl w.heap.size 5 i0 (.int .u8 0) 1 1 Try.underlying30 hi hz0 hz1 hz2 rfl (by decide) _ _ _ rfl (hown.alloc _) ⟨wr.heap.size, 0, none⟩ 1 1 [.int .u8 ((45 : UInt8).toNat : Int)] rfl rfl (cell_one_new _ _ _) (fun x hx => by simp at hx; subst hx; rfl) (by unfold maxLen; omega) (by omega) (by have := hB.size; simp; omega) ?_; intro v' w1 hown' hgrow _))
            refine ⟨⟨3, by omega, by go_num, ?_, (hB.alloc hB.size _).grown hgrow (by have := hB.size; simp; omega) (fun j hj => (hown.lt j hj).1)⟩, by simp only; omega⟩
            have e : T 3 = T 2 ++ [45] := HT3
            rw [e, ← cells_snoc8]
            exact hown'
          · replace A2 : bits .and .i64 n 4 = 4 := A2
            replace HT3 : Hid (T (2 + 1) = T 2 ++ [90]) := HT3
            have hbl := hown.1
            rw [Nat.mul_one] at hbl
            go_wp2_with (first
              | (at_builtin; refine wpList_append_own _ rfl (.tmp 27) (.tmp 29) 30 rfl w.heap.size 5 i0 (.int .u8 0) 1 1 Try.underlying30 hi hz0 hz1 hz2 rfl (by decide) _ _ _ rfl (hown.alloc _) ⟨wr.heap.size, 0, none⟩ 1 1 [.int .u8 ((90 : UInt8).toNat : Int)] rfl rfl (cell_one_new _ _ _) (fun x hx => by simp at hx; subst hx; rfl) (by unfold maxLen; omega) (by omega) (by have := hB.size; simp; omega) ?_; intro v' w1 hown' hgrow _))
            refine ⟨⟨3, by omega, by go_num, ?_, (hB.alloc hB.size _).grown hgrow (by have := hB.size; simp; omega) (fun j hj => (hown.lt j hj).1)⟩, by simp only; omega⟩
            have e : T 3 = T 2 ++ [90] := HT3
            rw [e, ← cells_snoc8]
            exact hown'
        · clear HT1 HT2 HT3 HT5 A0 D0 A1 D1 A2 D2 A4 D4
          rcases D3 with rfl | rfl
          · replace A3 : bits .and .i64 n 2 = 0 := A3
            replace HT4 : Hid (T (3 + 1) = T 3 ++ [45]) := HT4
            have hbl := hown.1
            rw [Nat.mul_one] at hbl
            go_wp2_with (first
              | (at_builtin; refine wpList_append_own _ rfl (.tmp 27) (.tmp 29) 30 rfl w.heap.size 5 i0 (.int .u8 0) 1 1 Try.underlying30 hi hz0 hz1 hz2 rfl (by decide) _ _ _ rfl (hown.alloc _) ⟨wr.heap.size, 0, none⟩ 1 1 [.int .u8 ((45 : UInt8).toNat : Int)] rfl rfl (cell_one_new _ _ _) (fun x hx => by simp at hx; subst hx; rfl) (by unfold maxLen; omega) (by omega) (by have := hB.size; simp; omega) ?_; intro v' w1 hown' hgrow _))
            refine ⟨⟨4, by omega, by go_num, ?_, (hB.alloc hB.size _).grown hgrow (by have := hB.size; simp; omega) (fun j hj => (hown.lt j hj).1)⟩, by simp only; omega⟩
            have e : T 4 = T 3 ++ [45] := HT4
            rw [e, ← cells_snoc8]
            exact hown'
          · replace A3 : bits .and .i64 n 2 = 2 := A3
            replace HT4 : Hid (T (3 + 1) = T 3 ++ [86]) := HT4
            have hbl := hown.1
            rw [Nat.mul_one] at hbl
            go_wp2_with (first
              | (at_builtin; refine wpList_append_own _ rfl (.tmp 27) (.tmp 29) 30 rfl w.heap.size 5 i0 (.int .u8 0) 1 1 Try.underlying30 hi hz0 hz1 hz2 rfl (by decide) _ _ _ rfl (hown.alloc _) ⟨wr.heap.size, 0, none⟩ 1 1 [.int .u8 ((86 : UInt8).toNat : Int)] rfl rfl (cell_one_new _ _ _) (fun x hx => by simp at hx; subst hx; rfl) (by unfold maxLen; omega) (by omega) (by have := hB.size; simp; omega) ?_; intro v' w1 hown' hgrow _))
            refine ⟨⟨4, by omega, by go_num, ?_, (hB.alloc hB.size _).grown hgrow (by have := hB.size; simp; omega) (fun j hj => (hown.lt j hj).1)⟩, by simp only; omega⟩
            have e : T 4 = T 3 ++ [86] := HT4
            rw [e, ← cells_snoc8]
            exact hown'
        · clear HT1 HT2 HT3 HT4 A0 D0 A1 D1 A2 D2 A3 D3
          rcases D4 with rfl | rfl
          · replace A4 : bits .and .i64 n 1 = 0 := A4
            replace HT5 : Hid (T (4 + 1) = T 4 ++ [45]) := HT5
            have hbl := hown.1
            rw [Nat.mul_one] at hbl
            go_wp2_with (first
              | (at_builtin; refine wpList_append_own _ rfl (.tmp 27) (.tmp 29) 30 rfl w.heap.size 5 i0 (.int .u8 0) 1 1 Try.underlying30 hi hz0 hz1 hz2 rfl (by decide) _ _ _ rfl (hown.alloc _) ⟨wr.heap.size, 0, none⟩ 1 1 [.int .u8 ((45 : UInt8).toNat : Int)] rfl rfl (cell_one_new _ _ _) (fun x hx => by simp at hx; subst hx; rfl) (by unfold maxLen; omega) (by omega) (by have := hB.size; simp; omega) ?_; intro v' w1 hown' hgrow _))
            refine ⟨⟨5, by omega, by go_num, ?_, (hB.alloc hB.size _).grown hgrow (by have := hB.size; simp; omega) (fun j hj => (hown.lt j hj).1)⟩, by simp only; omega⟩
            have e : T 5 = T 4 ++ [45] := HT5
            rw [e, ← cells_snoc8]
            exact hown'
          · replace A4 : bits .and .i64 n 1 = 1 := A4
            replace HT5 : Hid (T (4 + 1) = T 4 ++ [67]) := HT5
            have hbl := hown.1
            rw [Nat.mul_one] at hbl
            go_wp2_with (first
              | (at_builtin; refine wpList_append_own _ rfl (.tmp 27) (.tmp 29) 30 rfl w.heap.size 5 i0 (.int .u8 0) 1 1 Try.underlying30 hi hz0 hz1 hz2 rfl (by decide) _ _ _ rfl (hown.alloc _) ⟨wr.heap.size, 0, none⟩ 1 1 [.int .u8 ((67 : UInt8).toNat : Int)] rfl rfl (cell_one_new _ _ _) (fun x hx => by simp at hx; subst hx; rfl) (by unfold maxLen; omega) (by omega) (by have := hB.size; simp; omega) ?_; intro v' w1 hown' hgrow _))
            refine ⟨⟨5, by omega, by go_num, ?_, (hB.alloc hB.size _).grown hgrow (by have := hB.size; simp; omega) (fun j hj => (hown.lt j hj).1)⟩, by simp only; omega⟩
            have e : T 5 = T 4 ++ [67] := HT5
            rw [e, ← cells_snoc8]
            exact hown'
      · obtain rfl : k = 5 := by omega
        have hl := hT 5 (by omega)
        rw [← hl] at hown
        have hcv := own_conv hown
        rw [hl] at hown
        clear hT hl HT1 HT2 HT3 HT4 HT5 A0 A1 A2 A3 A4 D0 D1 D2 D3 D4
        go_wp2
        go_ret
        exact ⟨rfl, hB⟩

end Go.Proofs.Ytmihnfaccklkpaa
