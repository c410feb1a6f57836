/-
  The law ArbiterFalls over the contracts of package arbiter. Condition: the contracts.
-/
import Derived.Test.YtglneeeeogkljaaArL
namespace Go.Proofs.Ytglneeeeogkljaa
open Go.RowKit
set_option linter.unusedSimpArgs false
set_option linter.unusedVariables false
set_option maxHeartbeats 4000000
set_option maxRecDepth 100000
attribute [local irreducible] wpQuiet

theorem Bag.rest {l : List (Nat × TypeId × List Value)} {b : Nat × TypeId × List Value} {w0 w : World} (h : Bag (b :: l) w0 w) : Bag l w0 w :=
  ⟨fun B t cs hm => h.all B t cs (List.mem_cons_of_mem _ hm), h.below, fun x hx => h.lo x (List.mem_cons_of_mem _ hx), by have := h.dis; rw [List.map_cons, List.nodup_cons] at this; exact this.2⟩
theorem pr_32 (k : Int) (h : 0 ≤ k ∧ k ≤ 7) : pr (32 * k) = k := by unfold pr; omega
theorem bst_pri {l : List Rq} (h : (bst l).2 = true) : 1 ≤ (bst l).1.1 ∧ (bst l).1.1 ≤ 7 := by
  have := (okQ_iff _).1 (bst_ok h)
  omega
theorem grt_top (l : List Rq) : (grt l 7).2 = false := by
  unfold grt
  split
  · rename_i h
    have := bst_pri h.1
    omega
  · rfl
theorem grt_fall {l : List Rq} {p k : Int} (h : (grt l p).2 = true) (hk : k ≤ p) : grt l p = ((bst l).1, true) ∧ grt l k = ((bst l).1, true) ∧ p < (bst l).1.1 ∧ okQ (bst l).1 = true := by
  unfold grt at h ⊢
  split at h
  · rename_i h1
    refine ⟨if_pos h1, if_pos ⟨h1.1, by omega⟩, h1.2, bst_ok h1.1⟩
  · cases h
theorem grt_zero {l : List Rq} {p : Int} (h : (grt l p).2 = false) : grt l p = ((0, 0), false) := by
  unfold grt at h ⊢
  split at h
  · cases h
  · rename_i h1; exact if_neg h1
theorem ArbiterFalls_law (H : ArC) (v : Value) (l : List Rq) (n : Int) (hn : 0 ≤ n ∧ n ≤ 255) (W0 : World) (hv : Rqs W0 v l) : Calls Try.prog 7 #[v, .int .u8 n] W0 fun e w' => e = .returned (.bool true) ∧ Below W0.heap.size W0 w' := by
  have hal := alive_true H
  have hv0 := hv
  obtain ⟨A, c, rfl, _, _⟩ := hv
  by_cases h60 : 60 < l.length
  · have hX := Bag.nil W0
    have hgt : (60 : Int) < (l.length : Int) := by omega
    clear H
    go_enter Try.func7, Try.ntmps7
    go_wp2_with (first | (go_at_call 10; (with_reducible refine (hal _).mono ?_); rintro e w' ⟨rfl, hb⟩; replace hX := hX.step hb; clear hb))
    go_ret
    exact ⟨rfl, hX.below⟩
  have hle : ¬ (60 : Int) < (l.length : Int) := by omega
  have hl6 : l.length ≤ 60 := by omega
  have htm : n.tmod 8 = n % 8 := Int.tmod_eq_emod_of_nonneg hn.1
  obtain ⟨m, hm, hm0, hm7⟩ : ∃ m : Int, n % 8 = m ∧ 0 ≤ m ∧ m ≤ 7 := ⟨_, rfl, by omega, by omega⟩
  rw [hm] at htm
  have hgr := fun (k : Int) (hk : 0 ≤ k ∧ k ≤ 7) l' w (hX : Bag l' W0 w) => H.grt _ l (32 * k) w hl6 (Rw.below hv0 hX.below)
  have hg7 := hgr 7 (by omega)
  have hgm := hgr m ⟨hm0, hm7⟩
  rw [pr_32 7 (by omega)] at hg7
  rw [pr_32 m ⟨hm0, hm7⟩] at hgm
  rw [grt_top, grt_zero (grt_top l)] at hg7
  replace hg7 : ∀ l' w, Bag l' W0 w → Calls Try.prog 16 #[.slice A l.length c, .int .i64 224] w fun e w' => e = .returned (.tuple #[.agg #[.int .i64 0, .int .i64 0], .bool false]) ∧ Below w.heap.size w w' := hg7
  have hw1 : wrap64 (32 * m) = 32 * m := by unfold wrap64; omega
  have hw2 : IntKind.i64.wrap (32 * m) = 32 * m := by rw [wrap_i64]; exact hw1
  clear hm hn
  have hX := Bag.nil W0
  cases hok : (grt l m).2
  · rw [grt_zero hok] at hgm
    have hgk : ∀ (k : Nat), (k : Int) < m → ∀ l' w, Bag l' W0 w → Calls Try.prog 16 #[.slice A l.length c, .int .i64 (32 * (k : Int))] w fun e w' => e = .returned (.tuple #[.agg #[.int .i64 (grt l k).1.1, .int .i64 (grt l k).1.2], .bool (grt l k).2]) ∧ Below w.heap.size w w' := fun k hk l' w hX => by
      have := hgr k (by omega) l' w hX
      rw [pr_32 k (by omega)] at this; exact this
    clear H hgr hok
    go_enter Try.func7, Try.ntmps7
    go_wp2_with (first | (go_at_call 16; first | ((with_reducible refine (hg7 _ _ hX).mono ?_); rintro e w' ⟨rfl, hb⟩; replace hX := hX.step hb; clear hb) | ((with_reducible refine (hgm _ _ hX).mono ?_); rintro e w' ⟨rfl, hb⟩; replace hX := hX.step hb; clear hb)) | ((with_reducible refine at_store ?_); refine wpList_bag_store (zs := [.int .i64 0, .int .i64 0]) hX aggQ sizQ _ _ rfl rfl rfl rfl rfl rfl rfl rfl (by intro u hu; simp at hu; rcases hu with rfl | rfl <;> rfl) ?_; clear hX; intro wz hX))
    go_loopw [10] (fun kv wr => ∃ k : Nat, kv = .int .i64 k ∧ (k : Int) ≤ m ∧ Bag [] W0 wr) (fun kv _ => match kv with | .int _ q => m.toNat - q.toNat | _ => 0)
    case atStart => exact ⟨0, rfl, hm0, hX.rest.rest⟩
    case round =>
      clear hX hg7 hgm
      obtain ⟨k, rfl, hk, hX⟩ := hrel
      by_cases hkm : (k : Int) < m
      · have hw3 : wrap64 (32 * (k : Int)) = 32 * (k : Int) := by unfold wrap64; omega
        have hg := hgk k hkm
        clear hgk
        generalize grt l (k : Int) = G at *
        obtain ⟨⟨y, z⟩, t⟩ := G
        go_wp2_with (first | (go_at_call 16; first | ((with_reducible refine (hg _ _ hX).mono ?_); rintro e w' ⟨rfl, hb⟩; replace hX := hX.step hb; clear hb)) | ((with_reducible refine at_store ?_); refine wpList_bag_store (zs := [.int .i64 0, .int .i64 0]) hX aggQ sizQ _ _ rfl rfl rfl rfl rfl rfl rfl rfl (by intro u hu; simp at hu; rcases hu with rfl | rfl <;> rfl) ?_; clear hX; intro wz hX))
        exact ⟨⟨k + 1, by go_num, by omega, hX.rest⟩, by simp only; omega⟩
      · clear hgk
        go_wp2_with (first | (go_at_call 10; (with_reducible refine (hal _).mono ?_); rintro e w' ⟨rfl, hb⟩; replace hX := hX.step hb; clear hb))
        go_ret
        exact ⟨rfl, hX.below⟩
  · obtain ⟨e1, _, hlt, hbo⟩ := grt_fall hok (Int.le_refl m)
    rw [e1] at hgm
    have hva := H.val (bst l).1
    rw [hbo] at hva
    have hgk : ∀ (k : Nat), (k : Int) < m → ∀ l' w, Bag l' W0 w → Calls Try.prog 16 #[.slice A l.length c, .int .i64 (32 * (k : Int))] w fun e w' => e = .returned (.tuple #[.agg #[.int .i64 (bst l).1.1, .int .i64 (bst l).1.2], .bool true]) ∧ Below w.heap.size w w' := fun k hk l' w hX => by
      have := hgr k (by omega) l' w hX
      rw [pr_32 k (by omega), (grt_fall hok (show (k : Int) ≤ m by omega)).2.1] at this; exact this
    clear H hgr hok e1 hbo
    generalize (bst l).1 = B at *
    obtain ⟨p, u⟩ := B
    simp only at hlt hva hgm hgk
    have hnle : ¬ p ≤ m := by omega
    have hnd : decide (p ≤ m) = false := decide_eq_false hnle
    go_enter Try.func7, Try.ntmps7
    go_wp2_with (first | (go_at_call 16; first | ((with_reducible refine (hgm _ _ hX).mono ?_); rintro e wA ⟨rfl, hb⟩; replace hX := hX.step hb; clear hb) | ((with_reducible refine (hg7 _ _ hX).mono ?_); rintro e w' ⟨rfl, hb⟩; replace hX := hX.step hb; clear hb)) | (go_at_call 8; (with_reducible refine (hva _).mono ?_); rintro e w' ⟨rfl, hb⟩; replace hX := hX.step hb; clear hb) | ((with_reducible refine at_store ?_); refine wpList_bag_store (zs := [.int .i64 0, .int .i64 0]) hX aggQ sizQ _ _ rfl rfl rfl rfl rfl rfl rfl rfl (by intro u hu; simp at hu; rcases hu with rfl | rfl <;> rfl) ?_; clear hX; intro wz hX) | ((with_reducible refine at_load ?_); refine wpList_bag_cell hX int_cell _ rfl rfl rfl rfl (by first | exact .head _ | exact .tail _ (.head _) | exact .tail _ (.tail _ (.head _)) | exact .tail _ (.tail _ (.tail _ (.head _)))) (by first | assumption | rfl) ?_) | ((with_reducible refine at_load ?_); refine wpList_bag_part (k := 0) hX aggQ sizQ _ rfl rfl rfl rfl (by first | exact .head _ | exact .tail _ (.head _) | exact .tail _ (.tail _ (.head _)) | exact .tail _ (.tail _ (.tail _ (.head _)))) (fun jz vz hz => (congrArg (fun n => ([_, _] : List Value)[n]?) (Nat.zero_add jz)).trans hz) rfl ?_))
    go_loopw [10] (fun kv wr => ∃ k : Nat, kv = .int .i64 k ∧ (k : Int) ≤ m ∧ Bag [(wA.heap.size, 23, [.int .i64 p, .int .i64 u])] W0 wr) (fun kv _ => match kv with | .int _ q => m.toNat - q.toNat | _ => 0)
    case atStart => exact ⟨0, rfl, hm0, hX.rest⟩
    case round =>
      clear hX hg7 hgm
      obtain ⟨k, rfl, hk, hX⟩ := hrel
      by_cases hkm : (k : Int) < m
      · have hw3 : wrap64 (32 * (k : Int)) = 32 * (k : Int) := by unfold wrap64; omega
        have hg := hgk k hkm
        clear hgk
        go_wp2_with (first | (go_at_call 16; first | ((with_reducible refine (hg _ _ hX).mono ?_); rintro e w' ⟨rfl, hb⟩; replace hX := hX.step hb; clear hb)) | ((with_reducible refine at_store ?_); refine wpList_bag_store (zs := [.int .i64 0, .int .i64 0]) hX aggQ sizQ _ _ rfl rfl rfl rfl rfl rfl rfl rfl (by intro u hu; simp at hu; rcases hu with rfl | rfl <;> rfl) ?_; clear hX; intro wz hX) | ((with_reducible refine at_load ?_); refine wpList_bag_part (k := 0) hX aggQ sizQ _ rfl rfl rfl rfl (by first | exact .head _ | exact .tail _ (.head _) | exact .tail _ (.tail _ (.head _)) | exact .tail _ (.tail _ (.tail _ (.head _)))) (fun jz vz hz => (congrArg (fun n => ([_, _] : List Value)[n]?) (Nat.zero_add jz)).trans hz) rfl ?_))
        exact ⟨⟨k + 1, by go_num, by omega, hX.rest⟩, by simp only; omega⟩
      · clear hgk
        go_wp2_with (first | (go_at_call 10; (with_reducible refine (hal _).mono ?_); rintro e w' ⟨rfl, hb⟩; replace hX := hX.step hb; clear hb))
        go_ret
        exact ⟨rfl, hX.below⟩
end Go.Proofs.Ytglneeeeogkljaa
