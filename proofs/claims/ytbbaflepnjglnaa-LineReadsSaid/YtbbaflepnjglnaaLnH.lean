/-
  Results are valid lines; next; LineRequests, LineReads. Condition: the contracts.
-/
import Derived.Test.YtbbaflepnjglnaaLnG
import Derived.Deep.RegionHeld3
namespace Go.Proofs.Ytbbaflepnjglnaa
open Go.RowKit
set_option linter.unusedSimpArgs false
set_option linter.unusedVariables false
set_option maxHeartbeats 4000000
set_option maxRecDepth 100000
attribute [local irreducible] wpQuiet

theorem right_iff (x : Ln) : x.right = true ↔ (0 ≤ x.d ∧ x.d ≤ 255) ∧ (0 ≤ x.t ∧ x.t ≤ 255) ∧ x.s.size ≤ 4096 ∧ 0 ≤ x.l ∧ x.l ≤ 4 ∧ (x.f = true ↔ x.l = 0) := by
  unfold Ln.right
  simp only [Bool.and_eq_true, decide_eq_true_eq, beq_iff_eq]
  constructor
  · rintro ⟨⟨⟨⟨⟨⟨⟨h1, h2⟩, h3⟩, h4⟩, h5⟩, h6⟩, h7⟩, h8⟩
    refine ⟨⟨h1, h2⟩, ⟨h3, h4⟩, h5, h6, h7, ?_⟩
    rw [h8]; simp
  · rintro ⟨⟨h1, h2⟩, ⟨h3, h4⟩, h5, h6, h7, h8⟩
    refine ⟨⟨⟨⟨⟨⟨⟨h1, h2⟩, h3⟩, h4⟩, h5⟩, h6⟩, h7⟩, ?_⟩
    rw [Bool.eq_iff_iff]; simpa using h8
theorem typ_right {x : Ln} (h : x.right = true) (n : Int) : (x.typ n).right = true := by
  rw [right_iff] at h ⊢
  simp only [Ln.typ]
  exact ⟨by omega, h.2⟩
theorem rd_right {x : Ln} (h : x.right = true) (g : Int) : (x.rd g).1.right = true := by
  unfold Ln.rd
  split
  · exact h
  split
  · rw [right_iff] at h ⊢; exact h
  split
  · exact h
  · exact h
theorem wr_right {x : Ln} (h : x.right = true) (g n : Int) : (x.wr g n).right = true := by
  unfold Ln.wr
  split
  · rw [right_iff] at h ⊢; exact h
  split
  · rw [right_iff] at h ⊢; exact h
  split
  · split
    · rw [right_iff] at h ⊢
      exact ⟨h.1, by simp only; omega, h.2.2.1, by simp only; omega, by simp only; omega, by simp⟩
    · exact h
  · exact h
theorem reset_right {x : Ln} (h : x.right = true) : x.reset.right = true := by
  rw [right_iff] at h ⊢
  simp only [Ln.reset]
  exact ⟨h.1, h.2.1, h.2.2.1, by omega, by omega, by simp⟩
theorem lastO_le (l : List UInt8) : (lastO l).length ≤ 4096 := by unfold lastO; rw [List.length_drop]; omega
theorem tick_right {x : Ln} (h : x.right = true) : x.tick.right = true ∧ x.s.size ≤ x.tick.s.size := by
  have h' := (right_iff x).1 h
  unfold Ln.tick
  split
  · exact ⟨h, Nat.le_refl _⟩
  split
  · refine ⟨?_, Nat.le_refl _⟩
    rw [right_iff] at h ⊢
    refine ⟨h.1, h.2.1, h.2.2.1, by simp only; omega, by simp only; omega, ?_⟩
    have hf : ¬ x.f = true := fun hf => by have := h.2.2.2.2.2.1 hf; omega
    exact ⟨fun q => absurd q hf, fun q => by have q' : x.l - 1 = 0 := q; omega⟩
  · have hsz : ∀ l : List UInt8, (⟨l.toArray⟩ : ByteArray).size = l.length := fun l => by show l.toArray.size = _; simp
    have hl : x.s.data.toList.length = x.s.size := rfl
    refine ⟨?_, ?_⟩
    · rw [right_iff]
      exact ⟨h'.1, h'.2.1, by show ByteArray.size ⟨(lastO (x.s.data.toList ++ [UInt8.ofNat x.t.toNat])).toArray⟩ ≤ 4096; rw [hsz (lastO _)]; exact lastO_le _, by simp only; omega, by simp only; omega, by simp⟩
    · show x.s.size ≤ ByteArray.size ⟨(lastO (x.s.data.toList ++ [UInt8.ofNat x.t.toNat])).toArray⟩
      rw [hsz (lastO _)]
      unfold lastO
      rw [List.length_drop, List.length_append, hl]
      have := h'.2.2.1
      simp only [List.length_cons, List.length_nil]
      omega
/-- The line after a deed. -/
def Ln.next (x : Ln) (k g n : Int) : Ln :=
  if k = 0 then x.typ n else if k = 1 then (x.rd g).1 else if k = 2 then x.wr g n else if k = 3 then x.tick else if k = 4 then x.reset else x
theorem next_right {x : Ln} (h : x.right = true) (k g n : Int) : (x.next k g n).right = true := by
  unfold Ln.next
  split
  · exact typ_right h n
  split
  · exact rd_right h g
  split
  · exact wr_right h g n
  split
  · exact (tick_right h).1
  split
  · exact reset_right h
  · exact h
theorem rd_same (x : Ln) (g : Int) : (x.rd g).1.s = x.s ∧ (x.rd g).1.t = x.t ∧ (x.rd g).1.l = x.l ∧ (x.rd g).1.f = x.f := by
  unfold Ln.rd
  split
  · exact ⟨rfl, rfl, rfl, rfl⟩
  split
  · exact ⟨rfl, rfl, rfl, rfl⟩
  split <;> exact ⟨rfl, rfl, rfl, rfl⟩
theorem wr_same (x : Ln) (g n : Int) : (x.wr g n).s = x.s ∧ (x.f = false → (x.wr g n).t = x.t ∧ (x.wr g n).l = x.l ∧ (x.wr g n).f = x.f) := by
  unfold Ln.wr
  split
  · exact ⟨rfl, fun _ => ⟨rfl, rfl, rfl⟩⟩
  split
  · exact ⟨rfl, fun _ => ⟨rfl, rfl, rfl⟩⟩
  split
  · split
    · rename_i h
      exact ⟨rfl, fun h2 => by rw [h2] at h; cases h⟩
    · exact ⟨rfl, fun _ => ⟨rfl, rfl, rfl⟩⟩
  · exact ⟨rfl, fun _ => ⟨rfl, rfl, rfl⟩⟩
theorem next_same (x : Ln) (k g n : Int) (h3 : ¬ k = 3) : (x.next k g n).s = x.s := by
  unfold Ln.next
  by_cases c0 : k = 0
  · rw [if_pos c0]; rfl
  by_cases c1 : k = 1
  · rw [if_neg c0, if_pos c1]; exact (rd_same x g).1
  by_cases c2 : k = 2
  · rw [if_neg c0, if_neg c1, if_pos c2]; exact (wr_same x g n).1
  rw [if_neg c0, if_neg c1, if_neg c2, if_neg h3]
  by_cases c4 : k = 4
  · rw [if_pos c4]; rfl
  · rw [if_neg c4]
theorem next_quiet (x : Ln) (k g n : Int) (h3 : ¬ k = 3) (h4 : ¬ k = 4) (hf : x.f = false) : (x.next k g n).s = x.s ∧ (x.next k g n).t = x.t ∧ (x.next k g n).l = x.l ∧ (x.next k g n).f = x.f := by
  unfold Ln.next
  by_cases c0 : k = 0
  · rw [if_pos c0]; exact ⟨rfl, rfl, rfl, rfl⟩
  by_cases c1 : k = 1
  · rw [if_neg c0, if_pos c1]; exact rd_same x g
  by_cases c2 : k = 2
  · rw [if_neg c0, if_neg c1, if_pos c2]; exact ⟨(wr_same x g n).1, (wr_same x g n).2 hf⟩
  rw [if_neg c0, if_neg c1, if_neg c2, if_neg h3, if_neg h4]
  exact ⟨rfl, rfl, rfl, rfl⟩
theorem next_grows {x : Ln} (h : x.right = true) (k g n : Int) : x.s.size ≤ (x.next k g n).s.size := by
  by_cases h3 : k = 3
  · subst h3; exact (tick_right h).2
  · rw [next_same x k g n h3]; exact Nat.le_refl _
theorem bag_cells9 {W0 w : World} {a b o : Bool} {d : Int} {e f : Bool} {t l : Int} {s : ByteArray} (h : Bag [(W0.heap.size, 23, [.bool a, .bool b, .bool o, .int .i64 d, .bool e, .bool f, .int .i64 t, .int .i64 l, .string s])] W0 w) : (fun w2 => w2.cell? ⟨W0.heap.size, 0, none⟩ = some (.bool a) ∧ w2.cell? ⟨W0.heap.size, 1, none⟩ = some (.bool b) ∧ w2.cell? ⟨W0.heap.size, 2, none⟩ = some (.bool o) ∧ w2.cell? ⟨W0.heap.size, 3, none⟩ = some (.int .i64 d) ∧ w2.cell? ⟨W0.heap.size, 4, none⟩ = some (.bool e) ∧ w2.cell? ⟨W0.heap.size, 5, none⟩ = some (.bool f) ∧ w2.cell? ⟨W0.heap.size, 6, none⟩ = some (.int .i64 t) ∧ w2.cell? ⟨W0.heap.size, 7, none⟩ = some (.int .i64 l) ∧ w2.cell? ⟨W0.heap.size, 8, none⟩ = some (.string s) ∧ Bag [(W0.heap.size, 23, [.bool a, .bool b, .bool o, .int .i64 d, .bool e, .bool f, .int .i64 t, .int .i64 l, .string s])] W0 w2) w :=
  ⟨(h.all _ _ _ (.head _)).cell rfl, (h.all _ _ _ (.head _)).cell rfl, (h.all _ _ _ (.head _)).cell rfl, (h.all _ _ _ (.head _)).cell rfl, (h.all _ _ _ (.head _)).cell rfl, (h.all _ _ _ (.head _)).cell rfl, (h.all _ _ _ (.head _)).cell rfl, (h.all _ _ _ (.head _)).cell rfl, (h.all _ _ _ (.head _)).cell rfl, h⟩
theorem LineRequests_law (W0 : World) (H : LnC W0) (x : Ln) (n : Int) : Calls Try.prog 5 #[.agg #[.bool (x).a, .bool (x).b, .bool (x).o, .int .i64 (x).d, .bool (x).e, .bool (x).f, .int .i64 (x).t, .int .i64 (x).l, .string (x).s], .int .i64 n] W0 fun e' w' => e' = .returned (.bool true) ∧ Below W0.heap.size W0 w' := by
  have hal := fun w (h : Below W0.heap.size W0 w) => alive_true w (H.step h)
  have h1 := H.req x n
  have h2 := rreqL_any x n
  have hq : (x.req n).length ≤ 2 := by
    unfold Ln.req
    split
    · rw [List.length_append]; split <;> split <;> simp
    · simp
  have h3 : ∀ x' y w, Rqs w x' (x.req n) → Rqs w y (x.req n) → Calls Try.prog 25 #[x', y] w fun e' w' => e' = .returned (.bool true) ∧ Below w.heap.size w w' := fun x' y w hx hy => by
    have h := rsameL_any x' y (x.req n) (x.req n) (by omega) (by omega) w hx hy
    rw [decide_eq_true rfl] at h; exact h
  generalize x.req n = q at *
  obtain ⟨a, b, o, d, e, f, t, l, s⟩ := x
  dsimp only at h1 h2
  have hX := (Bag.nil W0).new 23 [.bool a, .bool b, .bool o, .int .i64 d, .bool e, .bool f, .int .i64 t, .int .i64 l, .string s]
  clear H hq
  go_enter Try.func5, Try.ntmps5
  go_wp2
  go_region_held3 (fun w2 => w2.cell? ⟨W0.heap.size, 0, none⟩ = some (.bool a) ∧ w2.cell? ⟨W0.heap.size, 1, none⟩ = some (.bool b) ∧ w2.cell? ⟨W0.heap.size, 2, none⟩ = some (.bool o) ∧ w2.cell? ⟨W0.heap.size, 3, none⟩ = some (.int .i64 d) ∧ w2.cell? ⟨W0.heap.size, 4, none⟩ = some (.bool e) ∧ w2.cell? ⟨W0.heap.size, 5, none⟩ = some (.bool f) ∧ w2.cell? ⟨W0.heap.size, 6, none⟩ = some (.int .i64 t) ∧ w2.cell? ⟨W0.heap.size, 7, none⟩ = some (.int .i64 l) ∧ w2.cell? ⟨W0.heap.size, 8, none⟩ = some (.string s) ∧ Bag [(W0.heap.size, 23, [.bool a, .bool b, .bool o, .int .i64 d, .bool e, .bool f, .int .i64 t, .int .i64 l, .string s])] W0 w2) (first | exact bag_cells9 hX | exact bag_cells9 hX.drew) (first | (go_at_call 26; first | ((with_reducible refine (h1 _ hX.below).mono ?_); rintro e' w' ⟨u, rfl, hx, hb⟩; (first | (replace hX := hX.step hb) | (replace hX := hX.drew.step hb)); clear hb) | ((with_reducible refine (h1 _ hX.drew.below).mono ?_); rintro e' w' ⟨u, rfl, hx, hb⟩; (first | (replace hX := hX.step hb) | (replace hX := hX.drew.step hb)); clear hb)) | (go_at_call 27; (with_reducible refine (h2 _).mono ?_); rintro e' w' ⟨y, rfl, hy, hb⟩; (first | (replace hX := hX.step hb) | (replace hX := hX.drew.step hb)); replace hx := Rqs.below hx hb; clear hb) | (go_at_call 25; (with_reducible refine (h3 _ _ _ hx hy).mono ?_); rintro e' w' ⟨rfl, hb⟩; (first | (replace hX := hX.step hb) | (replace hX := hX.drew.step hb)); clear hb hx hy) | (go_at_call 13; first | ((with_reducible refine (hal _ hX.below).mono ?_); rintro e' w' ⟨rfl, hb⟩; (first | (replace hX := hX.step hb) | (replace hX := hX.drew.step hb)); clear hb) | ((with_reducible refine (hal _ hX.drew.below).mono ?_); rintro e' w' ⟨rfl, hb⟩; (first | (replace hX := hX.step hb) | (replace hX := hX.drew.step hb)); clear hb)))
  all_goals go_wp2
  all_goals go_ret
  all_goals exact ⟨rfl, hX.below⟩
theorem reads_right {a b o : Bool} {d : Int} {e f : Bool} {t l : Int} {s : ByteArray} (h : Ln.right ⟨a, b, o, d, e, f, t, l, s⟩ = true) (a' b' o' e' : Bool) {m : Int} (hm : 0 ≤ m ∧ m ≤ 255) : Ln.right ⟨a', b', o', m, e', f, t, l, s⟩ = true := by
  rw [right_iff] at h ⊢
  exact ⟨hm, h.2⟩
theorem LineReads_law (W0 : World) (H : LnC W0) (x : Ln) (n : Int) : Calls Try.prog 8 #[.agg #[.bool (x).a, .bool (x).b, .bool (x).o, .int .i64 (x).d, .bool (x).e, .bool (x).f, .int .i64 (x).t, .int .i64 (x).l, .string (x).s], .int .i64 n] W0 fun e' w' => e' = .returned (.bool true) ∧ Below W0.heap.size W0 w' := by
  have hal := fun w (h : Below W0.heap.size W0 w) => alive_true w (H.step h)
  have h0 := rrightL_any x
  cases hr : x.right
  · rw [hr] at h0
    obtain ⟨a, b, o, d, e, f, t, l, s⟩ := x
    dsimp only at h0
    clear H hr
    have hX := (Bag.nil W0).new 23 [.bool a, .bool b, .bool o, .int .i64 d, .bool e, .bool f, .int .i64 t, .int .i64 l, .string s]
    go_enter Try.func8, Try.ntmps8
    go_wp2_with (first | (go_at_call 10; first | ((with_reducible refine (h0 _).mono ?_); rintro e' w' ⟨rfl, hb⟩; replace hX := hX.step hb; clear hb)) | ((with_reducible refine at_load ?_); refine wpList_bag_part (k := 0) hX aggL sizL _ rfl rfl rfl rfl (by first | exact .head _ | exact .tail _ (.head _) | exact .tail _ (.tail _ (.head _))) (fun jz vz hz => (congrArg (fun n => ([_, _, _, _, _, _, _, _, _] : List Value)[n]?) (Nat.zero_add jz)).trans hz) rfl ?_))
    go_ret
    exact ⟨rfl, hX.below⟩
  rw [hr] at h0
  have hn := a255 n
  obtain ⟨m, hm⟩ : ∃ m : Int, n % 256 = m := ⟨_, rfl⟩
  have hm0 : 0 ≤ m ∧ m ≤ 255 := by omega
  rw [hm] at hn
  have hm1 : bits .and .i64 m 255 = m := by rw [a255]; omega
  have hm2 : bits .and .i64 (m + 32768) 255 = m := by rw [a255]; omega
  have k0 : bits .and .i64 0 128 = 0 := by decide
  have k1 : bits .and .i64 64 128 = 0 := by decide
  have d1 : decide (32768 ≤ m) = false := decide_eq_false (by omega)
  have d2 : decide (32768 ≤ m + 32768) = true := decide_eq_true (by omega)
  obtain ⟨a, b, o, d, e, f, t, l, s⟩ := x
  have T1 := fun w hb => H.typ ⟨a, b, o, d, e, f, t, l, s⟩ n w hb hr
  simp only [Ln.typ, hm] at T1
  have R1 := fun w hb => H.rd ⟨a, true, o || b, m, e, f, t, l, s⟩ 2 w hb (reads_right hr _ _ _ _ hm0)
  have R2 := fun w hb => H.rd ⟨a, false, false, m, e, f, t, l, s⟩ 2 w hb (reads_right hr _ _ _ _ hm0)
  have R3 := fun w hb => H.rd ⟨a, false, false, m, e, f, t, l, s⟩ 0 w hb (reads_right hr _ _ _ _ hm0)
  simp only [Ln.rd, stB, if_true, show ¬ ((2 : Int) = 0) from by omega, if_false, Bool.false_eq_true, Int.add_zero] at R1 R2 R3
  dsimp only at h0
  have hX := (Bag.nil W0).new 23 [.bool a, .bool b, .bool o, .int .i64 d, .bool e, .bool f, .int .i64 t, .int .i64 l, .string s]
  clear H hr hm
  cases o <;> cases b <;> cases a
  all_goals
    simp only [Bool.or_false, Bool.or_true, Bool.false_or, Bool.true_or, Bool.or_self, if_true, if_false, Bool.false_eq_true, Int.add_zero, Int.zero_add] at T1 R1 R2 R3
    go_enter Try.func8, Try.ntmps8
    go_wp2_with (first | (go_at_call 10; first | ((with_reducible refine (h0 _).mono ?_); rintro e' w' ⟨rfl, hb⟩; replace hX := hX.step hb; clear hb)) | (go_at_call 16; first | ((with_reducible refine (T1 _ hX.below).mono ?_); rintro e' w' ⟨rfl, hb⟩; replace hX := hX.step hb; clear hb)) | (go_at_call 14; first | ((with_reducible refine (R1 _ hX.below).mono ?_); rintro e' w' ⟨rfl, hb⟩; replace hX := hX.step hb; clear hb) | ((with_reducible refine (R2 _ hX.below).mono ?_); rintro e' w' ⟨rfl, hb⟩; replace hX := hX.step hb; clear hb) | ((with_reducible refine (R3 _ hX.below).mono ?_); rintro e' w' ⟨rfl, hb⟩; replace hX := hX.step hb; clear hb)) | (go_at_call 13; first | ((with_reducible refine (hal _ hX.below).mono ?_); rintro e' w' ⟨rfl, hb⟩; replace hX := hX.step hb; clear hb)) | ((with_reducible refine at_store ?_); refine wpList_bag_store (zs := [.bool false, .bool false, .bool false, .int .i64 0, .bool false, .bool false, .int .i64 0, .int .i64 0, .string ⟨#[]⟩]) hX aggL sizL _ _ rfl rfl rfl rfl rfl rfl rfl rfl (one_ln _ _ _ _ _ _ _ _ _) ?_; clear hX; intro wz hX) | ((with_reducible refine at_load ?_); refine wpList_bag_cell hX int_cell _ rfl rfl rfl rfl (by first | exact .head _ | exact .tail _ (.head _) | exact .tail _ (.tail _ (.head _)) | exact .tail _ (.tail _ (.tail _ (.head _)))) rfl ?_) | ((with_reducible refine at_load ?_); refine wpList_bag_cell hX bool_cell _ rfl rfl rfl rfl (by first | exact .head _ | exact .tail _ (.head _) | exact .tail _ (.tail _ (.head _)) | exact .tail _ (.tail _ (.tail _ (.head _)))) rfl ?_) | ((with_reducible refine at_load ?_); refine wpList_bag_cell hX str_cell _ rfl rfl rfl rfl (by first | exact .head _ | exact .tail _ (.head _) | exact .tail _ (.tail _ (.head _)) | exact .tail _ (.tail _ (.tail _ (.head _)))) rfl ?_) | ((with_reducible refine at_load ?_); refine wpList_bag_part (k := 0) hX aggL sizL _ rfl rfl rfl rfl (by first | exact .head _ | exact .tail _ (.head _) | exact .tail _ (.tail _ (.head _)) | exact .tail _ (.tail _ (.tail _ (.head _)))) (fun jz vz hz => (congrArg (fun n => ([_, _, _, _, _, _, _, _, _] : List Value)[n]?) (Nat.zero_add jz)).trans hz) rfl ?_))
    go_ret
    exact ⟨rfl, hX.below⟩
end Go.Proofs.Ytbbaflepnjglnaa
