/-
  next of the laws; rows of deeds; LineStays. Condition: the contracts.
-/
import Derived.Test.YtbbaflepnjglnaaLnH
import Derived.Test.YtbbaflepnjglnaaAlo
namespace Go.Proofs.Ytbbaflepnjglnaa
open Go.RowKit
set_option linter.unusedSimpArgs false
set_option linter.unusedVariables false
set_option maxHeartbeats 4000000
set_option maxRecDepth 100000
attribute [local irreducible] wpQuiet wpQF

theorem aggD (w : World) : (isAgg 28).run Try.prog w = .ok true w := by kernel_rfl
theorem sizD (w : World) : (sizeOf 28).run Try.prog w = .ok 3 w := by kernel_rfl
theorem Bag.sub {l l' : List (Nat × TypeId × List Value)} {w0 w : World} (h : Bag l w0 w) (p : l'.Sublist l) : Bag l' w0 w :=
  ⟨fun B t cs hm => h.all B t cs (p.mem hm), h.below, fun b hb => h.lo b (p.mem hb), h.dis.sublist (p.map _)⟩
theorem alloc_ln (w : World) : (Instr.alloc 23 true (.tuple #[])).run Try.prog w = .ok (ptrAt w.heap.size) (w.alloc (.cells ([.bool false, .bool false, .bool false, .int .i64 0, .bool false, .bool false, .int .i64 0, .int .i64 0, .string ⟨#[]⟩] : List Value).toArray 23)) := by kernel_rfl
theorem three_ld (W0 : World) (cs ds zs : List Value) : Bag [(W0.heap.size + 1 + 1, 23, zs), (W0.heap.size + 1, 28, ds), (W0.heap.size, 23, cs)] W0 (((W0.alloc (.cells cs.toArray 23)).alloc (.cells ds.toArray 28)).alloc (.cells zs.toArray 23)) := by
  have h := (two_ld W0 cs ds).new 23 zs
  rw [show ((W0.alloc (.cells cs.toArray 23)).alloc (.cells ds.toArray 28)).heap.size = W0.heap.size + 1 + 1 from by rw [World.alloc, Array.size_push, World.alloc, Array.size_push]] at h
  exact h
theorem next_any (W0 : World) (H : LnC W0) (x : Ln) (k g n : Int) (hr : x.right = true) : Calls Try.prog 28 #[.agg #[.bool (x).a, .bool (x).b, .bool (x).o, .int .i64 (x).d, .bool (x).e, .bool (x).f, .int .i64 (x).t, .int .i64 (x).l, .string (x).s], .agg #[.int .i64 k, .int .i64 g, .int .i64 n]] W0 fun e' w' => e' = .returned (.agg #[.bool (x.next k g n).a, .bool (x.next k g n).b, .bool (x.next k g n).o, .int .i64 (x.next k g n).d, .bool (x.next k g n).e, .bool (x.next k g n).f, .int .i64 (x.next k g n).t, .int .i64 (x.next k g n).l, .string (x.next k g n).s]) ∧ Below W0.heap.size W0 w' := by
  unfold Ln.next
  by_cases c0 : k = 0
  · subst c0
    have h1 := fun w (hb : Below W0.heap.size W0 w) => H.typ x n w hb hr
    rw [if_pos rfl]
    generalize x.typ n = Y at *
    obtain ⟨ya, yb, yo, yd, ye, yf, yt, yl, ys⟩ := Y
    obtain ⟨a, b, o, d, e, f, t, l, s⟩ := x
    dsimp only at h1 ⊢
    clear H hr
    have hX := three_ld W0 [.bool a, .bool b, .bool o, .int .i64 d, .bool e, .bool f, .int .i64 t, .int .i64 l, .string s] [.int .i64 0, .int .i64 g, .int .i64 n] [.bool false, .bool false, .bool false, .int .i64 0, .bool false, .bool false, .int .i64 0, .int .i64 0, .string ⟨#[]⟩]
    go_enter Try.func28, Try.ntmps28
    go_wp2_with (first | (go_at_call 16; first | ((with_reducible refine (h1 _ hX.below).mono ?_); rintro e' w' ⟨rfl, hb⟩; replace hX := hX.step hb; clear hb)) | ((with_reducible refine at_store ?_); refine wpList_bag_over hX aggL sizL _ _ rfl rfl rfl rfl rfl rfl rfl rfl (one_ln _ _ _ _ _ _ _ _ _) ?_; clear hX; intro wz hX) | ((with_reducible refine at_store ?_); refine wpList_bag_over hX.swap aggL sizL _ _ rfl rfl rfl rfl rfl rfl rfl rfl (one_ln _ _ _ _ _ _ _ _ _) ?_; clear hX; intro wz hX) | ((with_reducible refine at_store ?_); refine wpList_bag_over (hX.perm (List.perm_append_comm (l₁ := [_, _]) (l₂ := [_]))) aggL sizL _ _ rfl rfl rfl rfl rfl rfl rfl rfl (one_ln _ _ _ _ _ _ _ _ _) ?_; clear hX; intro wz hX) | ((with_reducible refine at_load ?_); refine wpList_bag_cell hX int_cell _ rfl rfl rfl rfl (by first | exact .head _ | exact .tail _ (.head _) | exact .tail _ (.tail _ (.head _))) rfl ?_) | ((with_reducible refine at_load ?_); refine wpList_bag_cell hX bool_cell _ rfl rfl rfl rfl (by first | exact .head _ | exact .tail _ (.head _) | exact .tail _ (.tail _ (.head _))) rfl ?_) | ((with_reducible refine at_load ?_); refine wpList_bag_cell hX str_cell _ rfl rfl rfl rfl (by first | exact .head _ | exact .tail _ (.head _) | exact .tail _ (.tail _ (.head _))) rfl ?_) | ((with_reducible refine at_load ?_); refine wpList_bag_part (k := 0) hX aggL sizL _ rfl rfl rfl rfl (by first | exact .head _ | exact .tail _ (.head _) | exact .tail _ (.tail _ (.head _))) (fun jz vz hz => (congrArg (fun n => ([_, _, _, _, _, _, _, _, _] : List Value)[n]?) (Nat.zero_add jz)).trans hz) rfl ?_))
    first | exact bodyPost_ret (results_c Try.results28 rfl ((hX.all _ _ _ (.head _)).loadVar rfl aggL sizL)) rfl ⟨rfl, hX.below⟩ | exact bodyPost_ret (results_c Try.results28 rfl ((hX.all _ _ _ (.tail _ (.head _))).loadVar rfl aggL sizL)) rfl ⟨rfl, hX.below⟩
  have e0 : (k == 0) = false := by simpa using c0
  by_cases c1 : k = 1
  · subst c1
    have h1 := fun w (hb : Below W0.heap.size W0 w) => H.rd x g w hb hr
    rw [if_neg (by decide), if_pos rfl]
    generalize (x.rd g) = Y at *
    obtain ⟨⟨ya, yb, yo, yd, ye, yf, yt, yl, ys⟩, yv⟩ := Y
    obtain ⟨a, b, o, d, e, f, t, l, s⟩ := x
    dsimp only at h1 ⊢
    clear H hr
    have hX := three_ld W0 [.bool a, .bool b, .bool o, .int .i64 d, .bool e, .bool f, .int .i64 t, .int .i64 l, .string s] [.int .i64 1, .int .i64 g, .int .i64 n] [.bool false, .bool false, .bool false, .int .i64 0, .bool false, .bool false, .int .i64 0, .int .i64 0, .string ⟨#[]⟩]
    go_enter Try.func28, Try.ntmps28
    go_wp2_with (first | (go_at_call 14; first | ((with_reducible refine (h1 _ hX.below).mono ?_); rintro e' w' ⟨rfl, hb⟩; replace hX := hX.step hb; clear hb)) | ((with_reducible refine at_store ?_); refine wpList_bag_over hX aggL sizL _ _ rfl rfl rfl rfl rfl rfl rfl rfl (one_ln _ _ _ _ _ _ _ _ _) ?_; clear hX; intro wz hX) | ((with_reducible refine at_store ?_); refine wpList_bag_over hX.swap aggL sizL _ _ rfl rfl rfl rfl rfl rfl rfl rfl (one_ln _ _ _ _ _ _ _ _ _) ?_; clear hX; intro wz hX) | ((with_reducible refine at_store ?_); refine wpList_bag_over (hX.perm (List.perm_append_comm (l₁ := [_, _]) (l₂ := [_]))) aggL sizL _ _ rfl rfl rfl rfl rfl rfl rfl rfl (one_ln _ _ _ _ _ _ _ _ _) ?_; clear hX; intro wz hX) | ((with_reducible refine at_load ?_); refine wpList_bag_cell hX int_cell _ rfl rfl rfl rfl (by first | exact .head _ | exact .tail _ (.head _) | exact .tail _ (.tail _ (.head _))) rfl ?_) | ((with_reducible refine at_load ?_); refine wpList_bag_cell hX bool_cell _ rfl rfl rfl rfl (by first | exact .head _ | exact .tail _ (.head _) | exact .tail _ (.tail _ (.head _))) rfl ?_) | ((with_reducible refine at_load ?_); refine wpList_bag_cell hX str_cell _ rfl rfl rfl rfl (by first | exact .head _ | exact .tail _ (.head _) | exact .tail _ (.tail _ (.head _))) rfl ?_) | ((with_reducible refine at_load ?_); refine wpList_bag_part (k := 0) hX aggL sizL _ rfl rfl rfl rfl (by first | exact .head _ | exact .tail _ (.head _) | exact .tail _ (.tail _ (.head _))) (fun jz vz hz => (congrArg (fun n => ([_, _, _, _, _, _, _, _, _] : List Value)[n]?) (Nat.zero_add jz)).trans hz) rfl ?_))
    first | exact bodyPost_ret (results_c Try.results28 rfl ((hX.all _ _ _ (.head _)).loadVar rfl aggL sizL)) rfl ⟨rfl, hX.below⟩ | exact bodyPost_ret (results_c Try.results28 rfl ((hX.all _ _ _ (.tail _ (.head _))).loadVar rfl aggL sizL)) rfl ⟨rfl, hX.below⟩
  have e1 : (k == 1) = false := by simpa using c1
  by_cases c2 : k = 2
  · subst c2
    have h1 := fun w (hb : Below W0.heap.size W0 w) => H.wr x g n w hb hr
    rw [if_neg (by decide), if_neg (by decide), if_pos rfl]
    generalize x.wr g n = Y at *
    obtain ⟨ya, yb, yo, yd, ye, yf, yt, yl, ys⟩ := Y
    obtain ⟨a, b, o, d, e, f, t, l, s⟩ := x
    dsimp only at h1 ⊢
    clear H hr
    have hX := three_ld W0 [.bool a, .bool b, .bool o, .int .i64 d, .bool e, .bool f, .int .i64 t, .int .i64 l, .string s] [.int .i64 2, .int .i64 g, .int .i64 n] [.bool false, .bool false, .bool false, .int .i64 0, .bool false, .bool false, .int .i64 0, .int .i64 0, .string ⟨#[]⟩]
    go_enter Try.func28, Try.ntmps28
    go_wp2_with (first | (go_at_call 18; first | ((with_reducible refine (h1 _ hX.below).mono ?_); rintro e' w' ⟨rfl, hb⟩; replace hX := hX.step hb; clear hb)) | ((with_reducible refine at_store ?_); refine wpList_bag_over hX aggL sizL _ _ rfl rfl rfl rfl rfl rfl rfl rfl (one_ln _ _ _ _ _ _ _ _ _) ?_; clear hX; intro wz hX) | ((with_reducible refine at_store ?_); refine wpList_bag_over hX.swap aggL sizL _ _ rfl rfl rfl rfl rfl rfl rfl rfl (one_ln _ _ _ _ _ _ _ _ _) ?_; clear hX; intro wz hX) | ((with_reducible refine at_store ?_); refine wpList_bag_over (hX.perm (List.perm_append_comm (l₁ := [_, _]) (l₂ := [_]))) aggL sizL _ _ rfl rfl rfl rfl rfl rfl rfl rfl (one_ln _ _ _ _ _ _ _ _ _) ?_; clear hX; intro wz hX) | ((with_reducible refine at_load ?_); refine wpList_bag_cell hX int_cell _ rfl rfl rfl rfl (by first | exact .head _ | exact .tail _ (.head _) | exact .tail _ (.tail _ (.head _))) rfl ?_) | ((with_reducible refine at_load ?_); refine wpList_bag_cell hX bool_cell _ rfl rfl rfl rfl (by first | exact .head _ | exact .tail _ (.head _) | exact .tail _ (.tail _ (.head _))) rfl ?_) | ((with_reducible refine at_load ?_); refine wpList_bag_cell hX str_cell _ rfl rfl rfl rfl (by first | exact .head _ | exact .tail _ (.head _) | exact .tail _ (.tail _ (.head _))) rfl ?_) | ((with_reducible refine at_load ?_); refine wpList_bag_part (k := 0) hX aggL sizL _ rfl rfl rfl rfl (by first | exact .head _ | exact .tail _ (.head _) | exact .tail _ (.tail _ (.head _))) (fun jz vz hz => (congrArg (fun n => ([_, _, _, _, _, _, _, _, _] : List Value)[n]?) (Nat.zero_add jz)).trans hz) rfl ?_))
    first | exact bodyPost_ret (results_c Try.results28 rfl ((hX.all _ _ _ (.head _)).loadVar rfl aggL sizL)) rfl ⟨rfl, hX.below⟩ | exact bodyPost_ret (results_c Try.results28 rfl ((hX.all _ _ _ (.tail _ (.head _))).loadVar rfl aggL sizL)) rfl ⟨rfl, hX.below⟩
  have e2 : (k == 2) = false := by simpa using c2
  by_cases c3 : k = 3
  · subst c3
    have h1 := fun w (hb : Below W0.heap.size W0 w) => H.tick x w hb hr
    rw [if_neg (by decide), if_neg (by decide), if_neg (by decide), if_pos rfl]
    generalize x.tick = Y at *
    obtain ⟨ya, yb, yo, yd, ye, yf, yt, yl, ys⟩ := Y
    obtain ⟨a, b, o, d, e, f, t, l, s⟩ := x
    dsimp only at h1 ⊢
    clear H hr
    have hX := three_ld W0 [.bool a, .bool b, .bool o, .int .i64 d, .bool e, .bool f, .int .i64 t, .int .i64 l, .string s] [.int .i64 3, .int .i64 g, .int .i64 n] [.bool false, .bool false, .bool false, .int .i64 0, .bool false, .bool false, .int .i64 0, .int .i64 0, .string ⟨#[]⟩]
    go_enter Try.func28, Try.ntmps28
    go_wp2_with (first | (go_at_call 20; first | ((with_reducible refine (h1 _ hX.below).mono ?_); rintro e' w' ⟨rfl, hb⟩; replace hX := hX.step hb; clear hb)) | ((with_reducible refine at_store ?_); refine wpList_bag_over hX aggL sizL _ _ rfl rfl rfl rfl rfl rfl rfl rfl (one_ln _ _ _ _ _ _ _ _ _) ?_; clear hX; intro wz hX) | ((with_reducible refine at_store ?_); refine wpList_bag_over hX.swap aggL sizL _ _ rfl rfl rfl rfl rfl rfl rfl rfl (one_ln _ _ _ _ _ _ _ _ _) ?_; clear hX; intro wz hX) | ((with_reducible refine at_store ?_); refine wpList_bag_over (hX.perm (List.perm_append_comm (l₁ := [_, _]) (l₂ := [_]))) aggL sizL _ _ rfl rfl rfl rfl rfl rfl rfl rfl (one_ln _ _ _ _ _ _ _ _ _) ?_; clear hX; intro wz hX) | ((with_reducible refine at_load ?_); refine wpList_bag_cell hX int_cell _ rfl rfl rfl rfl (by first | exact .head _ | exact .tail _ (.head _) | exact .tail _ (.tail _ (.head _))) rfl ?_) | ((with_reducible refine at_load ?_); refine wpList_bag_cell hX bool_cell _ rfl rfl rfl rfl (by first | exact .head _ | exact .tail _ (.head _) | exact .tail _ (.tail _ (.head _))) rfl ?_) | ((with_reducible refine at_load ?_); refine wpList_bag_cell hX str_cell _ rfl rfl rfl rfl (by first | exact .head _ | exact .tail _ (.head _) | exact .tail _ (.tail _ (.head _))) rfl ?_) | ((with_reducible refine at_load ?_); refine wpList_bag_part (k := 0) hX aggL sizL _ rfl rfl rfl rfl (by first | exact .head _ | exact .tail _ (.head _) | exact .tail _ (.tail _ (.head _))) (fun jz vz hz => (congrArg (fun n => ([_, _, _, _, _, _, _, _, _] : List Value)[n]?) (Nat.zero_add jz)).trans hz) rfl ?_))
    first | exact bodyPost_ret (results_c Try.results28 rfl ((hX.all _ _ _ (.head _)).loadVar rfl aggL sizL)) rfl ⟨rfl, hX.below⟩ | exact bodyPost_ret (results_c Try.results28 rfl ((hX.all _ _ _ (.tail _ (.head _))).loadVar rfl aggL sizL)) rfl ⟨rfl, hX.below⟩
  have e3 : (k == 3) = false := by simpa using c3
  by_cases c4 : k = 4
  · subst c4
    have h1 := fun w (hb : Below W0.heap.size W0 w) => H.reset x w hb hr
    rw [if_neg (by decide), if_neg (by decide), if_neg (by decide), if_neg (by decide), if_pos rfl]
    generalize x.reset = Y at *
    obtain ⟨ya, yb, yo, yd, ye, yf, yt, yl, ys⟩ := Y
    obtain ⟨a, b, o, d, e, f, t, l, s⟩ := x
    dsimp only at h1 ⊢
    clear H hr
    have hX := three_ld W0 [.bool a, .bool b, .bool o, .int .i64 d, .bool e, .bool f, .int .i64 t, .int .i64 l, .string s] [.int .i64 4, .int .i64 g, .int .i64 n] [.bool false, .bool false, .bool false, .int .i64 0, .bool false, .bool false, .int .i64 0, .int .i64 0, .string ⟨#[]⟩]
    go_enter Try.func28, Try.ntmps28
    go_wp2_with (first | (go_at_call 22; first | ((with_reducible refine (h1 _ hX.below).mono ?_); rintro e' w' ⟨rfl, hb⟩; replace hX := hX.step hb; clear hb)) | ((with_reducible refine at_store ?_); refine wpList_bag_over hX aggL sizL _ _ rfl rfl rfl rfl rfl rfl rfl rfl (one_ln _ _ _ _ _ _ _ _ _) ?_; clear hX; intro wz hX) | ((with_reducible refine at_store ?_); refine wpList_bag_over hX.swap aggL sizL _ _ rfl rfl rfl rfl rfl rfl rfl rfl (one_ln _ _ _ _ _ _ _ _ _) ?_; clear hX; intro wz hX) | ((with_reducible refine at_store ?_); refine wpList_bag_over (hX.perm (List.perm_append_comm (l₁ := [_, _]) (l₂ := [_]))) aggL sizL _ _ rfl rfl rfl rfl rfl rfl rfl rfl (one_ln _ _ _ _ _ _ _ _ _) ?_; clear hX; intro wz hX) | ((with_reducible refine at_load ?_); refine wpList_bag_cell hX int_cell _ rfl rfl rfl rfl (by first | exact .head _ | exact .tail _ (.head _) | exact .tail _ (.tail _ (.head _))) rfl ?_) | ((with_reducible refine at_load ?_); refine wpList_bag_cell hX bool_cell _ rfl rfl rfl rfl (by first | exact .head _ | exact .tail _ (.head _) | exact .tail _ (.tail _ (.head _))) rfl ?_) | ((with_reducible refine at_load ?_); refine wpList_bag_cell hX str_cell _ rfl rfl rfl rfl (by first | exact .head _ | exact .tail _ (.head _) | exact .tail _ (.tail _ (.head _))) rfl ?_) | ((with_reducible refine at_load ?_); refine wpList_bag_part (k := 0) hX aggL sizL _ rfl rfl rfl rfl (by first | exact .head _ | exact .tail _ (.head _) | exact .tail _ (.tail _ (.head _))) (fun jz vz hz => (congrArg (fun n => ([_, _, _, _, _, _, _, _, _] : List Value)[n]?) (Nat.zero_add jz)).trans hz) rfl ?_))
    first | exact bodyPost_ret (results_c Try.results28 rfl ((hX.all _ _ _ (.head _)).loadVar rfl aggL sizL)) rfl ⟨rfl, hX.below⟩ | exact bodyPost_ret (results_c Try.results28 rfl ((hX.all _ _ _ (.tail _ (.head _))).loadVar rfl aggL sizL)) rfl ⟨rfl, hX.below⟩
  have e4 : (k == 4) = false := by simpa using c4
  by_cases c5 : k = 5
  · subst c5
    have h1 := fun w (hb : Below W0.heap.size W0 w) => H.acc x n g w hb hr
    rw [if_neg (by decide), if_neg (by decide), if_neg (by decide), if_neg (by decide), if_neg (by decide)]
    obtain ⟨a, b, o, d, e, f, t, l, s⟩ := x
    dsimp only at h1 ⊢
    clear H hr
    have hX := three_ld W0 [.bool a, .bool b, .bool o, .int .i64 d, .bool e, .bool f, .int .i64 t, .int .i64 l, .string s] [.int .i64 5, .int .i64 g, .int .i64 n] [.bool false, .bool false, .bool false, .int .i64 0, .bool false, .bool false, .int .i64 0, .int .i64 0, .string ⟨#[]⟩]
    go_enter Try.func28, Try.ntmps28
    go_wp2_with (first | (go_at_call 24; first | ((with_reducible refine (h1 _ hX.below).mono ?_); rintro e' w' ⟨rfl, hb⟩; replace hX := hX.step hb; clear hb)) | ((with_reducible refine at_store ?_); refine wpList_bag_over hX aggL sizL _ _ rfl rfl rfl rfl rfl rfl rfl rfl (one_ln _ _ _ _ _ _ _ _ _) ?_; clear hX; intro wz hX) | ((with_reducible refine at_store ?_); refine wpList_bag_over hX.swap aggL sizL _ _ rfl rfl rfl rfl rfl rfl rfl rfl (one_ln _ _ _ _ _ _ _ _ _) ?_; clear hX; intro wz hX) | ((with_reducible refine at_store ?_); refine wpList_bag_over (hX.perm (List.perm_append_comm (l₁ := [_, _]) (l₂ := [_]))) aggL sizL _ _ rfl rfl rfl rfl rfl rfl rfl rfl (one_ln _ _ _ _ _ _ _ _ _) ?_; clear hX; intro wz hX) | ((with_reducible refine at_load ?_); refine wpList_bag_cell hX int_cell _ rfl rfl rfl rfl (by first | exact .head _ | exact .tail _ (.head _) | exact .tail _ (.tail _ (.head _))) rfl ?_) | ((with_reducible refine at_load ?_); refine wpList_bag_cell hX bool_cell _ rfl rfl rfl rfl (by first | exact .head _ | exact .tail _ (.head _) | exact .tail _ (.tail _ (.head _))) rfl ?_) | ((with_reducible refine at_load ?_); refine wpList_bag_cell hX str_cell _ rfl rfl rfl rfl (by first | exact .head _ | exact .tail _ (.head _) | exact .tail _ (.tail _ (.head _))) rfl ?_) | ((with_reducible refine at_load ?_); refine wpList_bag_part (k := 0) hX aggL sizL _ rfl rfl rfl rfl (by first | exact .head _ | exact .tail _ (.head _) | exact .tail _ (.tail _ (.head _))) (fun jz vz hz => (congrArg (fun n => ([_, _, _, _, _, _, _, _, _] : List Value)[n]?) (Nat.zero_add jz)).trans hz) rfl ?_))
    first | exact bodyPost_ret (results_c Try.results28 rfl ((hX.all _ _ _ (.head _)).loadVar rfl aggL sizL)) rfl ⟨rfl, hX.below⟩ | exact bodyPost_ret (results_c Try.results28 rfl ((hX.all _ _ _ (.tail _ (.head _))).loadVar rfl aggL sizL)) rfl ⟨rfl, hX.below⟩
  have e5 : (k == 5) = false := by simpa using c5
  rw [if_neg c0, if_neg c1, if_neg c2, if_neg c3, if_neg c4]
  obtain ⟨a, b, o, d, e, f, t, l, s⟩ := x
  clear H hr c0 c1 c2 c3 c4 c5
  have hX := three_ld W0 [.bool a, .bool b, .bool o, .int .i64 d, .bool e, .bool f, .int .i64 t, .int .i64 l, .string s] [.int .i64 k, .int .i64 g, .int .i64 n] [.bool false, .bool false, .bool false, .int .i64 0, .bool false, .bool false, .int .i64 0, .int .i64 0, .string ⟨#[]⟩]
  go_enter Try.func28, Try.ntmps28
  go_wp2_with (first | (fail) | ((with_reducible refine at_store ?_); refine wpList_bag_over hX aggL sizL _ _ rfl rfl rfl rfl rfl rfl rfl rfl (one_ln _ _ _ _ _ _ _ _ _) ?_; clear hX; intro wz hX) | ((with_reducible refine at_store ?_); refine wpList_bag_over hX.swap aggL sizL _ _ rfl rfl rfl rfl rfl rfl rfl rfl (one_ln _ _ _ _ _ _ _ _ _) ?_; clear hX; intro wz hX) | ((with_reducible refine at_store ?_); refine wpList_bag_over (hX.perm (List.perm_append_comm (l₁ := [_, _]) (l₂ := [_]))) aggL sizL _ _ rfl rfl rfl rfl rfl rfl rfl rfl (one_ln _ _ _ _ _ _ _ _ _) ?_; clear hX; intro wz hX) | ((with_reducible refine at_load ?_); refine wpList_bag_cell hX int_cell _ rfl rfl rfl rfl (by first | exact .head _ | exact .tail _ (.head _) | exact .tail _ (.tail _ (.head _))) rfl ?_) | ((with_reducible refine at_load ?_); refine wpList_bag_cell hX bool_cell _ rfl rfl rfl rfl (by first | exact .head _ | exact .tail _ (.head _) | exact .tail _ (.tail _ (.head _))) rfl ?_) | ((with_reducible refine at_load ?_); refine wpList_bag_cell hX str_cell _ rfl rfl rfl rfl (by first | exact .head _ | exact .tail _ (.head _) | exact .tail _ (.tail _ (.head _))) rfl ?_) | ((with_reducible refine at_load ?_); refine wpList_bag_part (k := 0) hX aggL sizL _ rfl rfl rfl rfl (by first | exact .head _ | exact .tail _ (.head _) | exact .tail _ (.tail _ (.head _))) (fun jz vz hz => (congrArg (fun n => ([_, _, _, _, _, _, _, _, _] : List Value)[n]?) (Nat.zero_add jz)).trans hz) rfl ?_))
  first | exact bodyPost_ret (results_c Try.results28 rfl ((hX.all _ _ _ (.head _)).loadVar rfl aggL sizL)) rfl ⟨rfl, hX.below⟩ | exact bodyPost_ret (results_c Try.results28 rfl ((hX.all _ _ _ (.tail _ (.head _))).loadVar rfl aggL sizL)) rfl ⟨rfl, hX.below⟩
/-- The cells of deeds. -/
def flat3 (l : List (Int × Int × Int)) : List Value := l.flatMap fun q => [.int .i64 q.1, .int .i64 q.2.1, .int .i64 q.2.2]
theorem flat3_append (a b : List (Int × Int × Int)) : flat3 (a ++ b) = flat3 a ++ flat3 b := List.flatMap_append
theorem flat3_length (l : List (Int × Int × Int)) : (flat3 l).length = l.length * 3 := by
  induction l with
  | nil => rfl
  | cons q l ih => show ([_, _, _] ++ flat3 l).length = _; rw [List.length_append, ih]; simp; omega
theorem flat3_get {l : List (Int × Int × Int)} {k : Nat} {q : Int × Int × Int} (hq : l[k]? = some q) : ∀ j v, ([.int .i64 q.1, .int .i64 q.2.1, .int .i64 q.2.2] : List Value)[j]? = some v → (flat3 l)[k * 3 + j]? = some v := by
  have hk : k < l.length := (List.getElem?_eq_some_iff.1 hq).1
  intro j v hv
  have e : flat3 l = flat3 (l.take k) ++ ([.int .i64 q.1, .int .i64 q.2.1, .int .i64 q.2.2] ++ flat3 (l.drop (k + 1))) := by
    have e1 : flat3 (l.drop k) = [.int .i64 q.1, .int .i64 q.2.1, .int .i64 q.2.2] ++ flat3 (l.drop (k + 1)) := by
      rw [List.drop_eq_getElem_cons hk, (List.getElem?_eq_some_iff.1 hq).2]; rfl
    rw [← e1, ← flat3_append, List.take_append_drop]
  have hl : (flat3 (l.take k)).length = k * 3 := by rw [flat3_length, List.length_take, Nat.min_eq_left (by omega)]
  rw [e, List.getElem?_append_right (by omega), hl, show k * 3 + j - k * 3 = j from by omega]
  rw [List.getElem?_append_left (List.getElem?_eq_some_iff.1 hv).1]; exact hv
/-- A slice of deeds that reads as l. -/
def Dds (w : World) (v : Value) (l : List (Int × Int × Int)) : Prop := Rw w v l.length (flat3 l)
theorem Dds.load {w : World} {a : Addr} {n c k : Nat} {l : List (Int × Int × Int)} {q : Int × Int × Int} (h : Dds w (.slice (some a) n c) l) (hn : n = l.length) (hq : l[k]? = some q) : (Instr.loadAt 28 (.pointer (some (a.add (k * 3))))).run Try.prog w = .ok (.agg #[.int .i64 q.1, .int .i64 q.2.1, .int .i64 q.2.2]) w := by
  subst hn
  exact Rw.loadAt (k := k) (s := 3) h (flat3_get hq) rfl aggD sizD
theorem Dds.kind {w : World} {a : Addr} {n c k : Nat} {l : List (Int × Int × Int)} {q : Int × Int × Int} (h : Dds w (.slice (some a) n c) l) (hq : l[k]? = some q) : (Instr.loadAt 3 (.pointer (some (a.add (k * 3))))).run Try.prog w = .ok (.int .i64 q.1) w := by
  obtain ⟨A, c', hv, _, hc⟩ := h
  cases hv
  obtain ⟨a', ha, h1, _⟩ := hc _ _ (flat3_get hq 0 _ rfl)
  cases ha
  rw [Nat.add_zero] at h1
  simp only [Instr.loadAt, Instr.sureAddr, Go.loadVar, Sem.run_bind, Sem.run_pure, Result.andThen_ok, int_cell, Bool.false_eq_true, if_false]
  simp [h1, go_sem]
theorem LineStays_law (W0 : World) (H : LnC W0) (x : Ln) (v : Value) (q : List (Int × Int × Int)) (hv : Dds W0 v q) : Calls Try.prog 6 #[.agg #[.bool (x).a, .bool (x).b, .bool (x).o, .int .i64 (x).d, .bool (x).e, .bool (x).f, .int .i64 (x).t, .int .i64 (x).l, .string (x).s], v] W0 fun e' w' => e' = .returned (.bool true) ∧ Below W0.heap.size W0 w' := by
  have hal := fun w (h : Below W0.heap.size W0 w) => alive_true w (H.step h)
  have hv0 := hv
  obtain ⟨A, c, rfl, _, _⟩ := hv
  have h1 := H.right x
  have h2 := rrightL_any x
  cases hr : x.right
  · rw [hr] at h1 h2
    obtain ⟨a, b, o, d, e, f, t, l, s⟩ := x
    dsimp only at h1 h2
    clear H hr
    have hX := (Bag.nil W0).new 23 [.bool a, .bool b, .bool o, .int .i64 d, .bool e, .bool f, .int .i64 t, .int .i64 l, .string s]
    go_enter Try.func6, Try.ntmps6
    go_wp2_with (first | (go_at_call 9; first | ((with_reducible refine (h1 _ hX.below).mono ?_); rintro e' w' ⟨rfl, hb⟩; replace hX := hX.step hb; clear hb)) | (go_at_call 10; first | ((with_reducible refine (h2 _).mono ?_); rintro e' w' ⟨rfl, hb⟩; replace hX := hX.step hb; clear hb)) | (go_at_call 13; first | ((with_reducible refine (hal _ hX.below).mono ?_); rintro e' w' ⟨rfl, hb⟩; replace hX := hX.step hb; clear hb)) | ((with_reducible refine at_load ?_); refine wpList_bag_part (k := 0) hX aggL sizL _ rfl rfl rfl rfl (by first | exact .head _) (fun jz vz hz => (congrArg (fun n => ([_, _, _, _, _, _, _, _, _] : List Value)[n]?) (Nat.zero_add jz)).trans hz) rfl ?_))
    go_ret
    exact ⟨rfl, hX.below⟩
  rw [hr] at h1 h2
  by_cases h100 : 100 < q.length
  · have hgt : (100 : Int) < (q.length : Int) := by omega
    obtain ⟨a, b, o, d, e, f, t, l, s⟩ := x
    dsimp only at h1 h2
    clear H hr hv0
    have hX := (Bag.nil W0).new 23 [.bool a, .bool b, .bool o, .int .i64 d, .bool e, .bool f, .int .i64 t, .int .i64 l, .string s]
    go_enter Try.func6, Try.ntmps6
    go_wp2_with (first | (go_at_call 9; first | ((with_reducible refine (h1 _ hX.below).mono ?_); rintro e' w' ⟨rfl, hb⟩; replace hX := hX.step hb; clear hb)) | (go_at_call 10; first | ((with_reducible refine (h2 _).mono ?_); rintro e' w' ⟨rfl, hb⟩; replace hX := hX.step hb; clear hb)) | (go_at_call 13; first | ((with_reducible refine (hal _ hX.below).mono ?_); rintro e' w' ⟨rfl, hb⟩; replace hX := hX.step hb; clear hb)) | ((with_reducible refine at_load ?_); refine wpList_bag_part (k := 0) hX aggL sizL _ rfl rfl rfl rfl (by first | exact .head _) (fun jz vz hz => (congrArg (fun n => ([_, _, _, _, _, _, _, _, _] : List Value)[n]?) (Nat.zero_add jz)).trans hz) rfl ?_))
    go_ret
    exact ⟨rfl, hX.below⟩
  have hle : ¬ (100 : Int) < (q.length : Int) := by omega
  have hle2 : decide ((100 : Int) < (q.length : Int)) = false := decide_eq_false hle
  have hxr := hid hr
  have hX := (Bag.nil W0).new 23 [.bool (x).a, .bool (x).b, .bool (x).o, .int .i64 (x).d, .bool (x).e, .bool (x).f, .int .i64 (x).t, .int .i64 (x).l, .string (x).s]
  clear hr
  go_enter Try.func6, Try.ntmps6
  go_wp2_with (first | (go_at_call 9; first | ((with_reducible refine (h1 _ hX.below).mono ?_); rintro e' w' ⟨rfl, hb⟩; replace hX := hX.step hb; clear hb)) | (go_at_call 10; first | ((with_reducible refine (h2 _).mono ?_); rintro e' w' ⟨rfl, hb⟩; replace hX := hX.step hb; clear hb)) | ((with_reducible refine at_load ?_); refine wpList_bag_part (k := 0) hX aggL sizL _ rfl rfl rfl rfl (by first | exact .head _) (fun jz vz hz => (congrArg (fun n => ([_, _, _, _, _, _, _, _, _] : List Value)[n]?) (Nat.zero_add jz)).trans hz) rfl ?_))
  clear h1 h2 hle hle2
  go_loopw [5] (fun iv wr => ∃ (i : Nat) (y : Ln), i ≤ q.length ∧ iv = .int .i64 i ∧ Hid (y.right = true) ∧ Bag [(W0.heap.size, 23, [.bool (y).a, .bool (y).b, .bool (y).o, .int .i64 (y).d, .bool (y).e, .bool (y).f, .int .i64 (y).t, .int .i64 (y).l, .string (y).s])] W0 wr) (fun iv _ => match iv with | .int _ z => q.length - z.toNat | _ => 0)
  case atStart => exact ⟨0, x, by omega, rfl, hxr, hX⟩
  case round =>
    clear hX hxr
    obtain ⟨i, y, hi, rfl, hyr, hX⟩ := hrel
    by_cases hlt : i < q.length
    · have hlti : (i : Int) < (q.length : Int) := by omega
      obtain ⟨u, hu⟩ : ∃ u, q[i]? = some u := ⟨_, List.getElem?_eq_getElem hlt⟩
      obtain ⟨AA, rfl⟩ : ∃ AA, A = some AA := by
        obtain ⟨A', c', hv', _, hc'⟩ := hv0
        cases hv'
        obtain ⟨a', ha', _⟩ := hc' _ _ (flat3_get hu 0 _ rfl)
        exact ⟨a', ha'⟩
      have hD : ∀ w', Below W0.heap.size W0 w' → (Instr.loadAt 28 (.pointer (some (AA.add (i * 3))))).run Try.prog w' = .ok (.agg #[.int .i64 u.1, .int .i64 u.2.1, .int .i64 u.2.2]) w' := fun w' hb => Dds.load (Rw.below hv0 hb) rfl hu
      have hK : ∀ w', Below W0.heap.size W0 w' → (Instr.loadAt 3 (.pointer (some (AA.add (i * 3))))).run Try.prog w' = .ok (.int .i64 u.1) w' := fun w' hb => Dds.kind (Rw.below hv0 hb) hu
      obtain ⟨k, g, n⟩ := u
      dsimp only at hD hK
      have hn1 := fun w (hb : Below W0.heap.size W0 w) => next_any w (H.step hb) y k g n hyr
      have hg := next_grows hyr k g n
      have hyr2 := next_right hyr k g n
      have hR := H.right (y.next k g n)
      rw [hyr2] at hR
      replace hyr2 := hid hyr2
      have hs := next_same y k g n
      have hfin : ∀ wr, Bag [(W0.heap.size, 23, [.bool (y.next k g n).a, .bool (y.next k g n).b, .bool (y.next k g n).o, .int .i64 (y.next k g n).d, .bool (y.next k g n).e, .bool (y.next k g n).f, .int .i64 (y.next k g n).t, .int .i64 (y.next k g n).l, .string (y.next k g n).s])] W0 wr → ∃ (j : Nat) (z : Ln), j ≤ q.length ∧ (.int .i64 ((i : Int) + 1) : Value) = .int .i64 j ∧ Hid (z.right = true) ∧ Bag [(W0.heap.size, 23, [.bool (z).a, .bool (z).b, .bool (z).o, .int .i64 (z).d, .bool (z).e, .bool (z).f, .int .i64 (z).t, .int .i64 (z).l, .string (z).s])] W0 wr := fun wr hb => ⟨i + 1, _, by omega, by simp, hyr2, hb⟩
      clear H hyr hyr2 hu hv0
      generalize y.next k g n = Y at *
      obtain ⟨ya, yb, yo, yd, ye, yf, yt, yl, ys⟩ := Y
      obtain ⟨a, b, o, d, e, f, t, l, s⟩ := y
      dsimp only at hn1 hg hR hs hfin hX
      by_cases hk : k = 3
      · have hkb : (k != 3) = false := by simpa using hk
        have hge : ¬ (ys.size : Int) < (s.size : Int) := by omega
        have hged : decide (ys.size < s.size) = false := decide_eq_false (by omega)
        clear hk hs hg
        go_wp2
        refine region_bag 6 23 [.bool false, .bool false, .bool false, .int .i64 0, .bool false, .bool false, .int .i64 0, .int .i64 0, .string ⟨#[]⟩] [(W0.heap.size, 23, [.bool a, .bool b, .bool o, .int .i64 d, .bool e, .bool f, .int .i64 t, .int .i64 l, .string s])] _ (by kernel_rfl) (by kernel_rfl) rfl rfl rfl alloc_ln hX ?_
        repeat
          first
            | (refine wpQF_skip (by rfl) ?_
               simp only [Act.put, List.setIfInBounds_toArray, List.set_cons_zero, List.set_cons_succ])
            | (refine wpQF_want (by rfl) (fun R hR => ?_)
               apply Exists.intro
               refine ⟨fun sq wq hk => ?_, hR _ ?_⟩
               · have hq := KB.low hk
                 first
                   | (refine quiet_load 23 _ _ _ rfl rfl ((hq.all _ _ _ (.head _)).loadAt rfl aggL sizL))
                   | (refine quiet_load 28 _ _ _ rfl rfl (hD _ hq.below))
                   | (unfold Oper.quietAt
                      go_simp
                      first
                        | with_reducible rfl
                        | ((go_at_call 28); (with_reducible refine (hn1 _ hq.below).mono ?_); exact fun e' w' ⟨he, hb⟩ => ⟨he, KB.step hk hb⟩)
                     )
               clear hR R
               simp only [Act.put, List.setIfInBounds_toArray, List.set_cons_zero, List.set_cons_succ])
        refine wpQF_nil ?_
        intro BN w4 hX
        simp only [List.drop_succ_cons, List.drop_zero, Act.put, ptrAt, List.setIfInBounds_toArray, List.set_cons_zero, List.set_cons_succ]
        go_wp2_with (first | ((with_reducible refine at_store ?_); refine wpList_bag_over hX aggL sizL _ _ rfl rfl rfl rfl rfl rfl rfl rfl (one_ln _ _ _ _ _ _ _ _ _) ?_; clear hX; intro wz hX) | (go_at_call 9; first | ((with_reducible refine (hR _ hX.below).mono ?_); rintro e' w' ⟨rfl, hb⟩; replace hX := hX.step hb; clear hb)) | ((with_reducible refine at_load ?_); refine wpList_loadW rfl 3 _ _ _ rfl rfl (hK _ hX.below) ?_) | ((with_reducible refine at_store ?_); refine wpList_bag_over hX.swap aggL sizL _ _ rfl rfl rfl rfl rfl rfl rfl rfl (one_ln _ _ _ _ _ _ _ _ _) ?_; clear hX; intro wz hX) | ((with_reducible refine at_load ?_); refine wpList_bag_cell hX int_cell _ rfl rfl rfl rfl (by first | exact .head _ | exact .tail _ (.head _) | exact .tail _ (.tail _ (.head _))) rfl ?_) | ((with_reducible refine at_load ?_); refine wpList_bag_cell hX bool_cell _ rfl rfl rfl rfl (by first | exact .head _ | exact .tail _ (.head _) | exact .tail _ (.tail _ (.head _))) rfl ?_) | ((with_reducible refine at_load ?_); refine wpList_bag_cell hX str_cell _ rfl rfl rfl rfl (by first | exact .head _ | exact .tail _ (.head _) | exact .tail _ (.tail _ (.head _))) rfl ?_) | ((with_reducible refine at_load ?_); refine wpList_bag_part (k := 0) hX aggL sizL _ rfl rfl rfl rfl (by first | exact .head _ | exact .tail _ (.head _) | exact .tail _ (.tail _ (.head _))) (fun jz vz hz => (congrArg (fun n => ([_, _, _, _, _, _, _, _, _] : List Value)[n]?) (Nat.zero_add jz)).trans hz) rfl ?_))
        exact ⟨hfin _ (hX.sub (List.Sublist.cons_cons _ (List.nil_sublist _))), by simp only; omega⟩
      · obtain rfl : s = ys := (hs hk).symm
        have hkb : (k != 3) = true := by simpa using hk
        have hged : decide (s.size < s.size) = false := decide_eq_false (by omega)
        clear hk hs hg
        go_wp2
        refine region_bag 6 23 [.bool false, .bool false, .bool false, .int .i64 0, .bool false, .bool false, .int .i64 0, .int .i64 0, .string ⟨#[]⟩] [(W0.heap.size, 23, [.bool a, .bool b, .bool o, .int .i64 d, .bool e, .bool f, .int .i64 t, .int .i64 l, .string s])] _ (by kernel_rfl) (by kernel_rfl) rfl rfl rfl alloc_ln hX ?_
        repeat
          first
            | (refine wpQF_skip (by rfl) ?_
               simp only [Act.put, List.setIfInBounds_toArray, List.set_cons_zero, List.set_cons_succ])
            | (refine wpQF_want (by rfl) (fun R hR => ?_)
               apply Exists.intro
               refine ⟨fun sq wq hk => ?_, hR _ ?_⟩
               · have hq := KB.low hk
                 first
                   | (refine quiet_load 23 _ _ _ rfl rfl ((hq.all _ _ _ (.head _)).loadAt rfl aggL sizL))
                   | (refine quiet_load 28 _ _ _ rfl rfl (hD _ hq.below))
                   | (unfold Oper.quietAt
                      go_simp
                      first
                        | with_reducible rfl
                        | ((go_at_call 28); (with_reducible refine (hn1 _ hq.below).mono ?_); exact fun e' w' ⟨he, hb⟩ => ⟨he, KB.step hk hb⟩)
                     )
               clear hR R
               simp only [Act.put, List.setIfInBounds_toArray, List.set_cons_zero, List.set_cons_succ])
        refine wpQF_nil ?_
        intro BN w4 hX
        simp only [List.drop_succ_cons, List.drop_zero, Act.put, ptrAt, List.setIfInBounds_toArray, List.set_cons_zero, List.set_cons_succ]
        go_wp2_with (first | ((with_reducible refine at_store ?_); refine wpList_bag_over hX aggL sizL _ _ rfl rfl rfl rfl rfl rfl rfl rfl (one_ln _ _ _ _ _ _ _ _ _) ?_; clear hX; intro wz hX) | (go_at_call 9; first | ((with_reducible refine (hR _ hX.below).mono ?_); rintro e' w' ⟨rfl, hb⟩; replace hX := hX.step hb; clear hb)) | ((with_reducible refine at_load ?_); refine wpList_loadW rfl 3 _ _ _ rfl rfl (hK _ hX.below) ?_) | ((with_reducible refine at_store ?_); refine wpList_bag_over hX.swap aggL sizL _ _ rfl rfl rfl rfl rfl rfl rfl rfl (one_ln _ _ _ _ _ _ _ _ _) ?_; clear hX; intro wz hX) | ((with_reducible refine at_load ?_); refine wpList_bag_cell hX int_cell _ rfl rfl rfl rfl (by first | exact .head _ | exact .tail _ (.head _) | exact .tail _ (.tail _ (.head _))) rfl ?_) | ((with_reducible refine at_load ?_); refine wpList_bag_cell hX bool_cell _ rfl rfl rfl rfl (by first | exact .head _ | exact .tail _ (.head _) | exact .tail _ (.tail _ (.head _))) rfl ?_) | ((with_reducible refine at_load ?_); refine wpList_bag_cell hX str_cell _ rfl rfl rfl rfl (by first | exact .head _ | exact .tail _ (.head _) | exact .tail _ (.tail _ (.head _))) rfl ?_) | ((with_reducible refine at_load ?_); refine wpList_bag_part (k := 0) hX aggL sizL _ rfl rfl rfl rfl (by first | exact .head _ | exact .tail _ (.head _) | exact .tail _ (.tail _ (.head _))) (fun jz vz hz => (congrArg (fun n => ([_, _, _, _, _, _, _, _, _] : List Value)[n]?) (Nat.zero_add jz)).trans hz) rfl ?_))
        exact ⟨hfin _ (hX.sub (List.Sublist.cons_cons _ (List.nil_sublist _))), by simp only; omega⟩
    · have hnl : ¬ (i : Int) < (q.length : Int) := by omega
      clear H hyr hv0
      go_wp2_with (first | (go_at_call 13; first | ((with_reducible refine (hal _ hX.below).mono ?_); rintro e' w' ⟨rfl, hb⟩; replace hX := hX.step hb; clear hb)))
      go_ret
      exact ⟨rfl, hX.below⟩
end Go.Proofs.Ytbbaflepnjglnaa
