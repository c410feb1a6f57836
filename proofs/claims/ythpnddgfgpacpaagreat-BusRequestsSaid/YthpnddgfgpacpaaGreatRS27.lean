import Derived.Test.YthpnddgfgpacpaaGreatRS07
import Derived.Test.YthpnddgfgpacpaaGreatRS20
import Derived.Maps.AppendAt
import Derived.Laws.IdiomStrings
/-
  The contracts of package line: none is a condition any more. No condition.
-/
namespace Go.Proofs.YthpnddgfgpacpaaGreat
open Go.RowKit
set_option linter.unusedSimpArgs false
set_option linter.unusedVariables false
set_option maxHeartbeats 4000000
set_option maxRecDepth 100000
attribute [local irreducible] wpQuiet

theorem psiz_bool (w : World) : (sizeOf 4).run Tryz.prog w = .ok 1 w := by kernel_rfl
section
variable {ops : Array Oper} {rest : List Oper} {o : Oper} {a : Act} {w w0 w1 : World} {Q : Exit → Act → World → Prop} {l : List (Nat × TypeId × List Value)}
end
/-- The answer of within. -/
def inB_14 (n g : Int) : Bool := decide (0 ≤ n) && decide (n ≤ g)
theorem pwithin_any_14 (n g : Int) (w : World) : Calls Tryz.prog 282 #[.int .i64 n, .int .i64 g] w fun e' w' => e' = .returned (.bool (inB_14 n g)) ∧ w = w' := by
  unfold inB_14
  by_cases c0 : 0 ≤ n
  · have d0 : decide (0 ≤ n) = true := decide_eq_true c0
    go_enter Tryz.func282, Tryz.ntmps282
    go_wp2
    go_ret
    exact ⟨by simp [d0], rfl⟩
  · have d0 : decide (0 ≤ n) = false := decide_eq_false c0
    go_enter Tryz.func282, Tryz.ntmps282
    go_wp2
    go_ret
    exact ⟨by simp [d0], rfl⟩
theorem presetL_any (x : Ln) (w : World) : Calls Tryz.prog 276 #[.agg #[.bool (x).a, .bool (x).b, .bool (x).o, .int .i64 (x).d, .bool (x).e, .bool (x).f, .int .i64 (x).t, .int .i64 (x).l, .string (x).s]] w fun e' w' => e' = .returned (.agg #[.bool (x.reset).a, .bool (x.reset).b, .bool (x.reset).o, .int .i64 (x.reset).d, .bool (x.reset).e, .bool (x.reset).f, .int .i64 (x.reset).t, .int .i64 (x.reset).l, .string (x.reset).s]) ∧ Below w.heap.size w w' := by
  obtain ⟨a, b, o, d, e, f, t, l, s⟩ := x
  simp only [Ln.reset]
  go_enter Tryz.func276, Tryz.ntmps276
  go_wp2
  exact bodyPost_ret (results_c Tryz.results276 rfl (((two_newL w _ _).all _ _ _ List.mem_cons_self).loadVar rfl aggL sizL)) rfl ⟨rfl, (two_newL w _ _).below⟩
theorem paccL_any (x : Ln) (n g : Int) (w : World) : Calls Tryz.prog 272 #[.agg #[.bool (x).a, .bool (x).b, .bool (x).o, .int .i64 (x).d, .bool (x).e, .bool (x).f, .int .i64 (x).t, .int .i64 (x).l, .string (x).s], .int .i64 n, .int .i64 g] w fun e' w' => e' = .returned (.agg #[.bool (x).a, .bool (x).b, .bool (x).o, .int .i64 (x).d, .bool (x).e, .bool (x).f, .int .i64 (x).t, .int .i64 (x).l, .string (x).s]) ∧ Below w.heap.size w w' := by
  obtain ⟨a, b, o, d, e, f, t, l, s⟩ := x
  go_enter Tryz.func272, Tryz.ntmps272
  go_wp2
  exact bodyPost_ret (results_c Tryz.results272 rfl (((two_newL w _ _).all _ _ _ List.mem_cons_self).loadVar rfl aggL sizL)) rfl ⟨rfl, (two_newL w _ _).below⟩
theorem pstatus_any_14 (e r : Bool) (w : World) : Calls Tryz.prog 280 #[.bool e, .bool r] w fun e' w' => e' = .returned (.int .i64 (stB e r)) ∧ w = w' := by
  have o1 : bits .or .i64 0 64 = 64 := by decide
  have o2 : bits .or .i64 0 128 = 128 := by decide
  have o3 : bits .or .i64 64 128 = 192 := by decide
  cases e <;> cases r
  all_goals
    go_enter Tryz.func280, Tryz.ntmps280
    go_wp2
    go_ret
    exact ⟨rfl, rfl⟩
theorem or_over : ∀ n : Fin 256, bits .or .i64 (n.val : Int) 32768 = (n.val : Int) + 32768 := by decide +kernel
theorem precv_any (a b o : Bool) (d : Int) (e f : Bool) (t l : Int) (s : ByteArray) (hd : 0 ≤ d ∧ d ≤ 255) (w : World) : Calls Tryz.prog 281 #[.agg #[.bool a, .bool b, .bool o, .int .i64 d, .bool e, .bool f, .int .i64 t, .int .i64 l, .string s]] w fun e' w' => e' = .returned (.int .i64 (d + (if o = true then 32768 else 0))) ∧ Below w.heap.size w w' := by
  have h1 : bits .or .i64 d 32768 = d + 32768 := by
    have := or_over ⟨d.toNat, by omega⟩
    simpa [Int.toNat_of_nonneg hd.1] using this
  clear hd
  cases o
  · simp only [Bool.false_eq_true, if_false, Int.add_zero]
    go_enter Tryz.func281, Tryz.ntmps281
    go_wp2
    go_ret
    exact ⟨rfl, ((Bag.nil w).new 68 _).below⟩
  · simp only [if_true]
    go_enter Tryz.func281, Tryz.ntmps281
    go_wp2
    go_ret
    exact ⟨rfl, ((Bag.nil w).new 68 _).below⟩
theorem prdL_any (x : Ln) (hx : 0 ≤ x.d ∧ x.d ≤ 255) (g : Int) (w : World) : Calls Tryz.prog 274 #[.agg #[.bool (x).a, .bool (x).b, .bool (x).o, .int .i64 (x).d, .bool (x).e, .bool (x).f, .int .i64 (x).t, .int .i64 (x).l, .string (x).s], .int .i64 g] w fun e' w' => e' = .returned (.tuple #[.agg #[.bool ((x.rd g).1).a, .bool ((x.rd g).1).b, .bool ((x.rd g).1).o, .int .i64 ((x.rd g).1).d, .bool ((x.rd g).1).e, .bool ((x.rd g).1).f, .int .i64 ((x.rd g).1).t, .int .i64 ((x.rd g).1).l, .string ((x.rd g).1).s], .int .i64 (x.rd g).2]) ∧ Below w.heap.size w w' := by
  obtain ⟨a, b, o, d, e, f, t, l, s⟩ := x
  have hbt := pstatus_any_14
  unfold Ln.rd
  simp only at hx
  by_cases g0 : g = 0
  · subst g0
    have h1 := hbt a b
    generalize stB a b = q at *
    go_enter Tryz.func274, Tryz.ntmps274
    go_wp2
    refine region_class_tail (fun w' => Bag [(w.heap.size + 1, 68, [.bool false, .bool false, .bool false, .int .i64 0, .bool false, .bool false, .int .i64 0, .int .i64 0, .string ⟨#[]⟩]), (w.heap.size, 68, [.bool a, .bool b, .bool o, .int .i64 d, .bool e, .bool f, .int .i64 t, .int .i64 l, .string s])] w w') 6 (by kernel_rfl) (by kernel_rfl) (two_newL w _ _).drew ?_
    repeat
      first
        | (refine BigFrame.wpQuiet_skip (by rfl) ?_
           simp only [Act.put, List.setIfInBounds_toArray, List.set_cons_zero, List.set_cons_succ])
        | (refine BigFrame.wpQuiet_want (by rfl) (fun K hK => ?_)
           apply Exists.intro
           refine ⟨fun wq hq => ?_, hK _ ?_⟩
           · first
               | (refine quiet_load 68 _ _ _ rfl rfl ((hq.all _ _ _ (.tail _ (.head _))).loadAt rfl aggL sizL))
               | (refine quiet_load 4 _ _ _ rfl rfl ((hq.all _ _ _ (.tail _ (.head _))).loadCell rfl bool_cell))
               | (unfold Oper.quietAt
                  go_simp
                  first
                    | with_reducible rfl
                    | ((go_at_call 280); with_reducible refine (h1 _).mono ?_; exact fun e w' ⟨he, hw⟩ => ⟨he, (by subst hw; exact hq)⟩)
                 )
           clear hK K
           simp only [Act.put, List.setIfInBounds_toArray, List.set_cons_zero, List.set_cons_succ])
    refine wpQuiet_nil ?_
    intro w4 hX
    simp only [List.drop_succ_cons, List.drop_zero]
    go_wp2_with (first | ((with_reducible refine at_store ?_); refine wpList_bag_over hX aggL sizL _ _ rfl rfl rfl rfl rfl rfl rfl rfl (one_ln _ _ _ _ _ _ _ _ _) ?_; clear hX; intro wz hX))
    exact bodyPost_ret (results_ct Tryz.results274 rfl ((hX.all _ _ _ List.mem_cons_self).loadVar rfl aggL sizL)) rfl ⟨rfl, hX.below⟩
  have e0 : (g == 0) = false := by simpa using g0
  by_cases g2 : g = 2
  · subst g2
    have h1 := precv_any a b o d e f t l s hx
    generalize d + (if o = true then 32768 else 0) = q at *
    clear hx
    have hX := two_newL w [.bool a, .bool b, .bool o, .int .i64 d, .bool e, .bool f, .int .i64 t, .int .i64 l, .string s] [.bool false, .bool false, .bool false, .int .i64 0, .bool false, .bool false, .int .i64 0, .int .i64 0, .string ⟨#[]⟩]
    go_enter Tryz.func274, Tryz.ntmps274
    go_wp2_with (first | (go_at_call 281; first | ((with_reducible refine (h1 _).mono ?_); rintro e' w3 ⟨rfl, hb⟩; replace hX := hX.step hb; replace hX := hX.swap; clear hb)) | ((with_reducible refine at_store ?_); refine wpList_bag_putB hX psiz_bool _ _ rfl rfl rfl rfl rfl rfl (by simp) ?_; clear hX; intro wz hX; simp only [List.set_cons_zero, List.set_cons_succ] at hX) | ((with_reducible refine at_load ?_); refine wpList_bag_part (k := 0) hX aggL sizL _ rfl rfl rfl rfl (by first | exact .head _ | exact .tail _ (.head _)) (fun jz vz hz => (congrArg (fun n => ([_, _, _, _, _, _, _, _, _] : List Value)[n]?) (Nat.zero_add jz)).trans hz) rfl ?_) | ((with_reducible refine at_store ?_); refine wpList_bag_over hX.swap aggL sizL _ _ rfl rfl rfl rfl rfl rfl rfl rfl (one_ln _ _ _ _ _ _ _ _ _) ?_; clear hX; intro wz hX))
    exact bodyPost_ret (results_ct Tryz.results274 rfl ((hX.all _ _ _ (.head _)).loadVar rfl aggL sizL)) rfl ⟨rfl, hX.below⟩
  have e2 : (g == 2) = false := by simpa using g2
  by_cases g4 : g = 4
  · subst g4
    have h1 := hbt e f
    generalize stB e f = q at *
    go_enter Tryz.func274, Tryz.ntmps274
    go_wp2
    refine region_class_tail (fun w' => Bag [(w.heap.size + 1, 68, [.bool false, .bool false, .bool false, .int .i64 0, .bool false, .bool false, .int .i64 0, .int .i64 0, .string ⟨#[]⟩]), (w.heap.size, 68, [.bool a, .bool b, .bool o, .int .i64 d, .bool e, .bool f, .int .i64 t, .int .i64 l, .string s])] w w') 6 (by kernel_rfl) (by kernel_rfl) (two_newL w _ _).drew ?_
    repeat
      first
        | (refine BigFrame.wpQuiet_skip (by rfl) ?_
           simp only [Act.put, List.setIfInBounds_toArray, List.set_cons_zero, List.set_cons_succ])
        | (refine BigFrame.wpQuiet_want (by rfl) (fun K hK => ?_)
           apply Exists.intro
           refine ⟨fun wq hq => ?_, hK _ ?_⟩
           · first
               | (refine quiet_load 68 _ _ _ rfl rfl ((hq.all _ _ _ (.tail _ (.head _))).loadAt rfl aggL sizL))
               | (refine quiet_load 4 _ _ _ rfl rfl ((hq.all _ _ _ (.tail _ (.head _))).loadCell rfl bool_cell))
               | (unfold Oper.quietAt
                  go_simp
                  first
                    | with_reducible rfl
                    | ((go_at_call 280); with_reducible refine (h1 _).mono ?_; exact fun e w' ⟨he, hw⟩ => ⟨he, (by subst hw; exact hq)⟩)
                 )
           clear hK K
           simp only [Act.put, List.setIfInBounds_toArray, List.set_cons_zero, List.set_cons_succ])
    refine wpQuiet_nil ?_
    intro w4 hX
    simp only [List.drop_succ_cons, List.drop_zero]
    go_wp2_with (first | ((with_reducible refine at_store ?_); refine wpList_bag_over hX aggL sizL _ _ rfl rfl rfl rfl rfl rfl rfl rfl (one_ln _ _ _ _ _ _ _ _ _) ?_; clear hX; intro wz hX))
    exact bodyPost_ret (results_ct Tryz.results274 rfl ((hX.all _ _ _ List.mem_cons_self).loadVar rfl aggL sizL)) rfl ⟨rfl, hX.below⟩
  have e4 : (g == 4) = false := by simpa using g4
  rw [if_neg g0, if_neg g2, if_neg g4]
  go_enter Tryz.func274, Tryz.ntmps274
  go_wp2
  exact bodyPost_ret (results_ct Tryz.results274 rfl (((two_newL w _ _).all _ _ _ List.mem_cons_self).loadVar rfl aggL sizL)) rfl ⟨rfl, (two_newL w _ _).below⟩
def sndV (f : Bool) (t l n : Int) : Bool × Int × Int := if f = true then (false, n % 256, 4) else (f, t, l)
theorem psend_any (a b o : Bool) (d : Int) (e f : Bool) (t l : Int) (s : ByteArray) (n : Int) (w : World) : Calls Tryz.prog 284 #[.agg #[.bool a, .bool b, .bool o, .int .i64 d, .bool e, .bool f, .int .i64 t, .int .i64 l, .string s], .int .i64 n] w fun e' w' => e' = .returned (.agg #[.bool a, .bool b, .bool o, .int .i64 d, .bool e, .bool (sndV f t l n).1, .int .i64 (sndV f t l n).2.1, .int .i64 (sndV f t l n).2.2, .string s]) ∧ Below w.heap.size w w' := by
  have A := a255 n
  unfold sndV
  generalize n % 256 = m at *
  cases f
  all_goals
    go_enter Tryz.func284, Tryz.ntmps284
    go_wp2
    exact bodyPost_ret (results_c Tryz.results284 rfl (((two_newL w _ _).all _ _ _ List.mem_cons_self).loadVar rfl aggL sizL)) rfl ⟨rfl, (two_newL w _ _).below⟩
theorem pwr_any (x : Ln) (g n : Int) (w : World) : Calls Tryz.prog 279 #[.agg #[.bool (x).a, .bool (x).b, .bool (x).o, .int .i64 (x).d, .bool (x).e, .bool (x).f, .int .i64 (x).t, .int .i64 (x).l, .string (x).s], .int .i64 g, .int .i64 n] w fun e' w' => e' = .returned (.agg #[.bool (x.wr g n).a, .bool (x.wr g n).b, .bool (x.wr g n).o, .int .i64 (x.wr g n).d, .bool (x.wr g n).e, .bool (x.wr g n).f, .int .i64 (x.wr g n).t, .int .i64 (x.wr g n).l, .string (x.wr g n).s]) ∧ Below w.heap.size w w' := by
  obtain ⟨a, b, o, d, e, f, t, l, s⟩ := x
  have A2 := and_64 n
  unfold Ln.wr
  by_cases g0 : g = 0
  · subst g0
    generalize decide (n / 64 % 2 = 1) = q at *
    go_enter Tryz.func279, Tryz.ntmps279
    go_wp2
    exact bodyPost_ret (results_c Tryz.results279 rfl (((two_newL w _ _).all _ _ _ List.mem_cons_self).loadVar rfl aggL sizL)) rfl ⟨rfl, (two_newL w _ _).below⟩
  have e0 : (g == 0) = false := by simpa using g0
  by_cases g4 : g = 4
  · subst g4
    generalize decide (n / 64 % 2 = 1) = q at *
    go_enter Tryz.func279, Tryz.ntmps279
    go_wp2
    exact bodyPost_ret (results_c Tryz.results279 rfl (((two_newL w _ _).all _ _ _ List.mem_cons_self).loadVar rfl aggL sizL)) rfl ⟨rfl, (two_newL w _ _).below⟩
  have e4 : (g == 4) = false := by simpa using g4
  by_cases g6 : g = 6
  · subst g6
    clear A2
    have h1 := psend_any a b o d e f t l s n
    have hr : (if (6 : Int) = 0 then (Ln.mk (decide (n / 64 % 2 = 1)) b o d e f t l s) else if (6 : Int) = 4 then (Ln.mk a b o d (decide (n / 64 % 2 = 1)) f t l s) else if (6 : Int) = 6 then (if f = true then (Ln.mk a b o d e false (n % 256) 4 s) else Ln.mk a b o d e f t l s) else Ln.mk a b o d e f t l s) = Ln.mk a b o d e (sndV f t l n).1 (sndV f t l n).2.1 (sndV f t l n).2.2 s := by
      unfold sndV
      cases f <;> rfl
    rw [hr]
    clear hr
    generalize sndV f t l n = y at *
    obtain ⟨y1, y2, y3⟩ := y
    dsimp only at h1 ⊢
    have hX := two_newL w [.bool a, .bool b, .bool o, .int .i64 d, .bool e, .bool f, .int .i64 t, .int .i64 l, .string s] [.bool false, .bool false, .bool false, .int .i64 0, .bool false, .bool false, .int .i64 0, .int .i64 0, .string ⟨#[]⟩]
    go_enter Tryz.func279, Tryz.ntmps279
    go_wp2_with (first | (go_at_call 284; first | ((with_reducible refine (h1 _).mono ?_); rintro e' w3 ⟨rfl, hb⟩; replace hX := hX.step hb; clear hb)) | ((with_reducible refine at_load ?_); refine wpList_bag_part (k := 0) hX aggL sizL _ rfl rfl rfl rfl (by first | exact .head _ | exact .tail _ (.head _)) (fun jz vz hz => (congrArg (fun n => ([_, _, _, _, _, _, _, _, _] : List Value)[n]?) (Nat.zero_add jz)).trans hz) rfl ?_) | ((with_reducible refine at_store ?_); refine wpList_bag_over hX aggL sizL _ _ rfl rfl rfl rfl rfl rfl rfl rfl (one_ln _ _ _ _ _ _ _ _ _) ?_; clear hX; intro wz hX))
    exact bodyPost_ret (results_c Tryz.results279 rfl ((hX.all _ _ _ (.head _)).loadVar rfl aggL sizL)) rfl ⟨rfl, hX.below⟩
  have e6 : (g == 6) = false := by simpa using g6
  rw [if_neg g0, if_neg g4, if_neg g6]
  go_enter Tryz.func279, Tryz.ntmps279
  go_wp2
  exact bodyPost_ret (results_c Tryz.results279 rfl (((two_newL w _ _).all _ _ _ List.mem_cons_self).loadVar rfl aggL sizL)) rfl ⟨rfl, (two_newL w _ _).below⟩
theorem pright_0_14 (a b o : Bool) (d : Int) (e f : Bool) (t l : Int) (s : ByteArray) (c0 : inB_14 d 255 = false) (w : World) : Calls Tryz.prog 277 #[.agg #[.bool a, .bool b, .bool o, .int .i64 d, .bool e, .bool f, .int .i64 t, .int .i64 l, .string s]] w fun e' w' => e' = .returned (.bool false) ∧ Below w.heap.size w w' := by
  have h0 : ∀ w, Calls Tryz.prog 282 #[.int .i64 d, .int .i64 255] w fun e' w' => e' = .returned (.bool false) ∧ w = w' := fun w => c0 ▸ pwithin_any_14 d 255 w
  clear c0
  have hX := (Bag.nil w).new 68 [.bool a, .bool b, .bool o, .int .i64 d, .bool e, .bool f, .int .i64 t, .int .i64 l, .string s]
  go_enter Tryz.func277, Tryz.ntmps277
  go_wp2_with (first | (go_at_call 282; first | ((with_reducible refine (h0 _).mono ?_); rintro e' w' ⟨rfl, rfl⟩)))
  go_ret
  exact ⟨rfl, hX.below⟩
theorem pright_1_14 (a b o : Bool) (d : Int) (e f : Bool) (t l : Int) (s : ByteArray) (c0 : inB_14 d 255 = true) (c1 : inB_14 t 255 = false) (w : World) : Calls Tryz.prog 277 #[.agg #[.bool a, .bool b, .bool o, .int .i64 d, .bool e, .bool f, .int .i64 t, .int .i64 l, .string s]] w fun e' w' => e' = .returned (.bool false) ∧ Below w.heap.size w w' := by
  have h0 : ∀ w, Calls Tryz.prog 282 #[.int .i64 d, .int .i64 255] w fun e' w' => e' = .returned (.bool true) ∧ w = w' := fun w => c0 ▸ pwithin_any_14 d 255 w
  have h1 : ∀ w, Calls Tryz.prog 282 #[.int .i64 t, .int .i64 255] w fun e' w' => e' = .returned (.bool false) ∧ w = w' := fun w => c1 ▸ pwithin_any_14 t 255 w
  clear c0 c1
  have hX := (Bag.nil w).new 68 [.bool a, .bool b, .bool o, .int .i64 d, .bool e, .bool f, .int .i64 t, .int .i64 l, .string s]
  go_enter Tryz.func277, Tryz.ntmps277
  go_wp2_with (first | (go_at_call 282; first | ((with_reducible refine (h0 _).mono ?_); rintro e' w' ⟨rfl, rfl⟩) | ((with_reducible refine (h1 _).mono ?_); rintro e' w' ⟨rfl, rfl⟩)))
  go_ret
  exact ⟨rfl, hX.below⟩
theorem pright_2_14 (a b o : Bool) (d : Int) (e f : Bool) (t l : Int) (s : ByteArray) (c0 : inB_14 d 255 = true) (c1 : inB_14 t 255 = true) (c2 : inB_14 l 4 = false) (w : World) : Calls Tryz.prog 277 #[.agg #[.bool a, .bool b, .bool o, .int .i64 d, .bool e, .bool f, .int .i64 t, .int .i64 l, .string s]] w fun e' w' => e' = .returned (.bool false) ∧ Below w.heap.size w w' := by
  have h0 : ∀ w, Calls Tryz.prog 282 #[.int .i64 d, .int .i64 255] w fun e' w' => e' = .returned (.bool true) ∧ w = w' := fun w => c0 ▸ pwithin_any_14 d 255 w
  have h1 : ∀ w, Calls Tryz.prog 282 #[.int .i64 t, .int .i64 255] w fun e' w' => e' = .returned (.bool true) ∧ w = w' := fun w => c1 ▸ pwithin_any_14 t 255 w
  have h2 : ∀ w, Calls Tryz.prog 282 #[.int .i64 l, .int .i64 4] w fun e' w' => e' = .returned (.bool false) ∧ w = w' := fun w => c2 ▸ pwithin_any_14 l 4 w
  clear c0 c1 c2
  have hX := (Bag.nil w).new 68 [.bool a, .bool b, .bool o, .int .i64 d, .bool e, .bool f, .int .i64 t, .int .i64 l, .string s]
  go_enter Tryz.func277, Tryz.ntmps277
  go_wp2_with (first | (go_at_call 282; first | ((with_reducible refine (h0 _).mono ?_); rintro e' w' ⟨rfl, rfl⟩) | ((with_reducible refine (h1 _).mono ?_); rintro e' w' ⟨rfl, rfl⟩) | ((with_reducible refine (h2 _).mono ?_); rintro e' w' ⟨rfl, rfl⟩)))
  go_ret
  exact ⟨rfl, hX.below⟩
theorem pright_3_14 (a b o : Bool) (d : Int) (e f : Bool) (t l : Int) (s : ByteArray) (c0 : inB_14 d 255 = true) (c1 : inB_14 t 255 = true) (c2 : inB_14 l 4 = true) (c3 : (f == (l == 0)) = false) (w : World) : Calls Tryz.prog 277 #[.agg #[.bool a, .bool b, .bool o, .int .i64 d, .bool e, .bool f, .int .i64 t, .int .i64 l, .string s]] w fun e' w' => e' = .returned (.bool false) ∧ Below w.heap.size w w' := by
  have h0 : ∀ w, Calls Tryz.prog 282 #[.int .i64 d, .int .i64 255] w fun e' w' => e' = .returned (.bool true) ∧ w = w' := fun w => c0 ▸ pwithin_any_14 d 255 w
  have h1 : ∀ w, Calls Tryz.prog 282 #[.int .i64 t, .int .i64 255] w fun e' w' => e' = .returned (.bool true) ∧ w = w' := fun w => c1 ▸ pwithin_any_14 t 255 w
  have h2 : ∀ w, Calls Tryz.prog 282 #[.int .i64 l, .int .i64 4] w fun e' w' => e' = .returned (.bool true) ∧ w = w' := fun w => c2 ▸ pwithin_any_14 l 4 w
  clear c0 c1 c2
  have hX := (Bag.nil w).new 68 [.bool a, .bool b, .bool o, .int .i64 d, .bool e, .bool f, .int .i64 t, .int .i64 l, .string s]
  by_cases hz : l = 0
  all_goals
    have hz2 : (l == 0) = decide (l = 0) := by rw [Bool.eq_iff_iff]; simp
    first | rw [decide_eq_true hz] at hz2 | rw [decide_eq_false hz] at hz2
    rw [hz2] at c3
    clear hz
    cases f
    all_goals first
      | (exact absurd c3 (by decide))
      | (clear c3
         go_enter Tryz.func277, Tryz.ntmps277
         go_wp2_with (first | (go_at_call 282; first | ((with_reducible refine (h0 _).mono ?_); rintro e' w' ⟨rfl, rfl⟩) | ((with_reducible refine (h1 _).mono ?_); rintro e' w' ⟨rfl, rfl⟩) | ((with_reducible refine (h2 _).mono ?_); rintro e' w' ⟨rfl, rfl⟩)))
         go_ret
         exact ⟨rfl, hX.below⟩)
theorem pright_4_14 (a b o : Bool) (d : Int) (e f : Bool) (t l : Int) (s : ByteArray) (c0 : inB_14 d 255 = true) (c1 : inB_14 t 255 = true) (c2 : inB_14 l 4 = true) (c3 : (f == (l == 0)) = true) (c4 : ¬ (s.size : Int) ≤ 4096) (w : World) : Calls Tryz.prog 277 #[.agg #[.bool a, .bool b, .bool o, .int .i64 d, .bool e, .bool f, .int .i64 t, .int .i64 l, .string s]] w fun e' w' => e' = .returned (.bool false) ∧ Below w.heap.size w w' := by
  have h0 : ∀ w, Calls Tryz.prog 282 #[.int .i64 d, .int .i64 255] w fun e' w' => e' = .returned (.bool true) ∧ w = w' := fun w => c0 ▸ pwithin_any_14 d 255 w
  have h1 : ∀ w, Calls Tryz.prog 282 #[.int .i64 t, .int .i64 255] w fun e' w' => e' = .returned (.bool true) ∧ w = w' := fun w => c1 ▸ pwithin_any_14 t 255 w
  have h2 : ∀ w, Calls Tryz.prog 282 #[.int .i64 l, .int .i64 4] w fun e' w' => e' = .returned (.bool true) ∧ w = w' := fun w => c2 ▸ pwithin_any_14 l 4 w
  clear c0 c1 c2
  have d4 : decide ((s.size : Int) ≤ 4096) = false := decide_eq_false c4
  have hX := (Bag.nil w).new 68 [.bool a, .bool b, .bool o, .int .i64 d, .bool e, .bool f, .int .i64 t, .int .i64 l, .string s]
  by_cases hz : l = 0
  all_goals
    have hz2 : (l == 0) = decide (l = 0) := by rw [Bool.eq_iff_iff]; simp
    first | rw [decide_eq_true hz] at hz2 | rw [decide_eq_false hz] at hz2
    rw [hz2] at c3
    clear hz
    cases f
    all_goals first
      | (exact absurd c3 (by decide))
      | (clear c3
         go_enter Tryz.func277, Tryz.ntmps277
         go_wp2_with (first | (go_at_call 282; first | ((with_reducible refine (h0 _).mono ?_); rintro e' w' ⟨rfl, rfl⟩) | ((with_reducible refine (h1 _).mono ?_); rintro e' w' ⟨rfl, rfl⟩) | ((with_reducible refine (h2 _).mono ?_); rintro e' w' ⟨rfl, rfl⟩)))
         go_ret
         exact ⟨rfl, hX.below⟩)
theorem pright_5 (a b o : Bool) (d : Int) (e f : Bool) (t l : Int) (s : ByteArray) (c0 : inB_14 d 255 = true) (c1 : inB_14 t 255 = true) (c2 : inB_14 l 4 = true) (c3 : (f == (l == 0)) = true) (c4 : (s.size : Int) ≤ 4096) (w : World) : Calls Tryz.prog 277 #[.agg #[.bool a, .bool b, .bool o, .int .i64 d, .bool e, .bool f, .int .i64 t, .int .i64 l, .string s]] w fun e' w' => e' = .returned (.bool true) ∧ Below w.heap.size w w' := by
  have h0 : ∀ w, Calls Tryz.prog 282 #[.int .i64 d, .int .i64 255] w fun e' w' => e' = .returned (.bool true) ∧ w = w' := fun w => c0 ▸ pwithin_any_14 d 255 w
  have h1 : ∀ w, Calls Tryz.prog 282 #[.int .i64 t, .int .i64 255] w fun e' w' => e' = .returned (.bool true) ∧ w = w' := fun w => c1 ▸ pwithin_any_14 t 255 w
  have h2 : ∀ w, Calls Tryz.prog 282 #[.int .i64 l, .int .i64 4] w fun e' w' => e' = .returned (.bool true) ∧ w = w' := fun w => c2 ▸ pwithin_any_14 l 4 w
  clear c0 c1 c2
  have d4 : decide ((s.size : Int) ≤ 4096) = true := decide_eq_true c4
  have hX := (Bag.nil w).new 68 [.bool a, .bool b, .bool o, .int .i64 d, .bool e, .bool f, .int .i64 t, .int .i64 l, .string s]
  by_cases hz : l = 0
  all_goals
    have hz2 : (l == 0) = decide (l = 0) := by rw [Bool.eq_iff_iff]; simp
    first | rw [decide_eq_true hz] at hz2 | rw [decide_eq_false hz] at hz2
    rw [hz2] at c3
    clear hz
    cases f
    all_goals first
      | (exact absurd c3 (by decide))
      | (clear c3
         go_enter Tryz.func277, Tryz.ntmps277
         go_wp2_with (first | (go_at_call 282; first | ((with_reducible refine (h0 _).mono ?_); rintro e' w' ⟨rfl, rfl⟩) | ((with_reducible refine (h1 _).mono ?_); rintro e' w' ⟨rfl, rfl⟩) | ((with_reducible refine (h2 _).mono ?_); rintro e' w' ⟨rfl, rfl⟩)))
         go_ret
         exact ⟨rfl, hX.below⟩)
theorem prightL_any (x : Ln) (w : World) : Calls Tryz.prog 277 #[.agg #[.bool (x).a, .bool (x).b, .bool (x).o, .int .i64 (x).d, .bool (x).e, .bool (x).f, .int .i64 (x).t, .int .i64 (x).l, .string (x).s]] w fun e' w' => e' = .returned (.bool x.right) ∧ Below w.heap.size w w' := by
  obtain ⟨a, b, o, d, e, f, t, l, s⟩ := x
  have hR : Ln.right ⟨a, b, o, d, e, f, t, l, s⟩ = (inB_14 d 255 && inB_14 t 255 && inB_14 l 4 && (f == (l == 0)) && decide ((s.size : Int) ≤ 4096)) := by
    have h0 : decide (l = 0) = (l == 0) := by rw [Bool.eq_iff_iff]; simp
    have h1 : decide (s.size ≤ 4096) = decide ((s.size : Int) ≤ 4096) := by rw [Bool.eq_iff_iff]; simp; omega
    unfold Ln.right inB_14
    simp only [h0, h1]
    generalize decide (0 ≤ d) = p1; generalize decide (d ≤ 255) = p2; generalize decide (0 ≤ t) = p3; generalize decide (t ≤ 255) = p4; generalize decide (0 ≤ l) = p5; generalize decide (l ≤ 4) = p6; generalize (f == (l == 0)) = p7; generalize decide ((s.size : Int) ≤ 4096) = p8
    revert p1 p2 p3 p4 p5 p6 p7 p8
    decide
  rw [hR]
  cases c0 : inB_14 d 255
  · simpa [c0] using pright_0_14 a b o d e f t l s c0 w
  cases c1 : inB_14 t 255
  · simpa [c0, c1] using pright_1_14 a b o d e f t l s c0 c1 w
  cases c2 : inB_14 l 4
  · simpa [c0, c1, c2] using pright_2_14 a b o d e f t l s c0 c1 c2 w
  cases c3 : (f == (l == 0))
  · simpa [c0, c1, c2, c3] using pright_3_14 a b o d e f t l s c0 c1 c2 c3 w
  by_cases c4 : (s.size : Int) ≤ 4096
  · rw [decide_eq_true c4]; exact pright_5 a b o d e f t l s c0 c1 c2 c3 c4 w
  · rw [decide_eq_false c4]; exact pright_4_14 a b o d e f t l s c0 c1 c2 c3 c4 w
theorem preqL_out (a b o : Bool) (d : Int) (e f : Bool) (t l : Int) (s : ByteArray) (n : Int) (h : ¬ (0 ≤ n ∧ n < 4)) (w : World) : Calls Tryz.prog 275 #[.agg #[.bool a, .bool b, .bool o, .int .i64 d, .bool e, .bool f, .int .i64 t, .int .i64 l, .string s], .int .i64 n] w fun e' w' => ∃ v, e' = .returned v ∧ Rqs w' v [] ∧ Below w.heap.size w w' := by
  have h1 : ∀ w, Calls Tryz.prog 282 #[.int .i64 n, .int .i64 3] w fun e' w' => e' = .returned (.bool false) ∧ w = w' := fun w => (show inB_14 n 3 = false from by unfold inB_14; simp; omega) ▸ pwithin_any_14 n 3 w
  clear h
  go_enter Tryz.func275, Tryz.ntmps275
  go_wp2_with (first | (go_at_call 282; first | ((with_reducible refine (h1 _).mono ?_); rintro e' w' ⟨rfl, rfl⟩)))
  go_ret
  exact ⟨_, rfl, Rw.nil _, ((Bag.nil w).new 68 _).below⟩
theorem preqL_00 (a b o : Bool) (d : Int) (e f : Bool) (t l : Int) (s : ByteArray) (n : Int) (hn : 0 ≤ n ∧ n < 4) (hr : ¬ (a = true ∧ b = true)) (ht : ¬ (e = true ∧ f = true)) (w : World) : Calls Tryz.prog 275 #[.agg #[.bool a, .bool b, .bool o, .int .i64 d, .bool e, .bool f, .int .i64 t, .int .i64 l, .string s], .int .i64 n] w fun e' w' => ∃ v, e' = .returned v ∧ Rqs w' v [] ∧ Below w.heap.size w w' := by
  have h1 : ∀ w, Calls Tryz.prog 282 #[.int .i64 n, .int .i64 3] w fun e' w' => e' = .returned (.bool true) ∧ w = w' := fun w => (show inB_14 n 3 = true from by unfold inB_14; simp; omega) ▸ pwithin_any_14 n 3 w
  have w8 : wrap64 (8 * n) = 8 * n := by unfold wrap64; omega
  have w1 : wrap64 (128 + 8 * n) = 128 + 8 * n := by unfold wrap64; omega
  have w2 : wrap64 (132 + 8 * n) = 132 + 8 * n := by unfold wrap64; omega
  cases a <;> cases b <;> cases e <;> cases f
  all_goals first | (exfalso; exact hr ⟨rfl, rfl⟩) | (exfalso; exact ht ⟨rfl, rfl⟩) | skip
  all_goals
    go_enter Tryz.func275, Tryz.ntmps275
    go_wp2_with (first | (go_at_call 282; first | ((with_reducible refine (h1 _).mono ?_); rintro e' w' ⟨rfl, rfl⟩)))
    go_ret
    exact ⟨_, rfl, Rw.nil _, ((Bag.nil w).new 68 _).below⟩
theorem preqL_01 (a b o : Bool) (d : Int) (e f : Bool) (t l : Int) (s : ByteArray) (n : Int) (hn : 0 ≤ n ∧ n < 4) (hr : ¬ (a = true ∧ b = true)) (ht : e = true ∧ f = true) (w : World) : Calls Tryz.prog 275 #[.agg #[.bool a, .bool b, .bool o, .int .i64 d, .bool e, .bool f, .int .i64 t, .int .i64 l, .string s], .int .i64 n] w fun e' w' => ∃ v, e' = .returned v ∧ Rqs w' v [(4, 132 + 8 * n)] ∧ Below w.heap.size w w' := by
  have h1 : ∀ w, Calls Tryz.prog 282 #[.int .i64 n, .int .i64 3] w fun e' w' => e' = .returned (.bool true) ∧ w = w' := fun w => (show inB_14 n 3 = true from by unfold inB_14; simp; omega) ▸ pwithin_any_14 n 3 w
  have w8 : wrap64 (8 * n) = 8 * n := by unfold wrap64; omega
  have w1 : wrap64 (128 + 8 * n) = 128 + 8 * n := by unfold wrap64; omega
  have w2 : wrap64 (132 + 8 * n) = 132 + 8 * n := by unfold wrap64; omega
  obtain ⟨rfl, rfl⟩ := ht
  cases a <;> cases b
  all_goals first | (exfalso; exact hr ⟨rfl, rfl⟩) | skip
  all_goals
    go_enter Tryz.func275, Tryz.ntmps275
    go_wp2_with (first | (go_at_call 282; first | ((with_reducible refine (h1 _).mono ?_); rintro e' w' ⟨rfl, rfl⟩)) | (at_builtin; refine wpList_appQ rfl (.tmp 28) (.tmp 33) rfl (w.heap.size + 1) (.slice none 0 0) 0 [] rfl (World.ownsRow_nil _ _ _ _) ⟨w.heap.size + 1, 0, none⟩ 1 1 [.int .i64 4, .int .i64 (132 + 8 * n)] rfl rfl (cells_two_new2 _ _ _ _ _) (flat_one [(4, (132 + 8 * n))]) (by omega) (by simp <;> omega) ?_; intro v1 w1 ho1 hb1 _))
    go_ret
    exact ⟨_, rfl, (Rw.of_own ho1 : Rw _ _ _ (flat [(4, 132 + 8 * n)])), ((((Bag.nil w).new 68 _).new 105 _).below).trans (hb1.mono (Nat.le_succ _))⟩
theorem preqL_10 (a b o : Bool) (d : Int) (e f : Bool) (t l : Int) (s : ByteArray) (n : Int) (hn : 0 ≤ n ∧ n < 4) (hr : a = true ∧ b = true) (ht : ¬ (e = true ∧ f = true)) (w : World) : Calls Tryz.prog 275 #[.agg #[.bool a, .bool b, .bool o, .int .i64 d, .bool e, .bool f, .int .i64 t, .int .i64 l, .string s], .int .i64 n] w fun e' w' => ∃ v, e' = .returned v ∧ Rqs w' v [(4, 128 + 8 * n)] ∧ Below w.heap.size w w' := by
  have h1 : ∀ w, Calls Tryz.prog 282 #[.int .i64 n, .int .i64 3] w fun e' w' => e' = .returned (.bool true) ∧ w = w' := fun w => (show inB_14 n 3 = true from by unfold inB_14; simp; omega) ▸ pwithin_any_14 n 3 w
  have w8 : wrap64 (8 * n) = 8 * n := by unfold wrap64; omega
  have w1 : wrap64 (128 + 8 * n) = 128 + 8 * n := by unfold wrap64; omega
  have w2 : wrap64 (132 + 8 * n) = 132 + 8 * n := by unfold wrap64; omega
  obtain ⟨rfl, rfl⟩ := hr
  cases e <;> cases f
  all_goals first | (exfalso; exact ht ⟨rfl, rfl⟩) | skip
  all_goals
    go_enter Tryz.func275, Tryz.ntmps275
    go_wp2_with (first | (go_at_call 282; first | ((with_reducible refine (h1 _).mono ?_); rintro e' w' ⟨rfl, rfl⟩)) | (at_builtin; refine wpList_appQ rfl (.tmp 15) (.tmp 20) rfl (w.heap.size + 1) (.slice none 0 0) 0 [] rfl (World.ownsRow_nil _ _ _ _) ⟨w.heap.size + 1, 0, none⟩ 1 1 [.int .i64 4, .int .i64 (128 + 8 * n)] rfl rfl (cells_two_new2 _ _ _ _ _) (flat_one [(4, (128 + 8 * n))]) (by omega) (by simp <;> omega) ?_; intro v1 w1 ho1 hb1 _; have hc4 := (hb1.cell (p := ⟨w.heap.size, 4, none⟩) (Nat.lt_succ_self _)).trans (old_cell (k := 4) rfl); have hc5 := (hb1.cell (p := ⟨w.heap.size, 5, none⟩) (Nat.lt_succ_self _)).trans (old_cell (k := 5) rfl)))
    go_ret
    exact ⟨_, rfl, (Rw.of_own ho1 : Rw _ _ _ (flat [(4, 128 + 8 * n)])), ((((Bag.nil w).new 68 _).new 105 _).below).trans (hb1.mono (Nat.le_succ _))⟩
theorem preqL_11 (a b o : Bool) (d : Int) (e f : Bool) (t l : Int) (s : ByteArray) (n : Int) (hn : 0 ≤ n ∧ n < 4) (hr : a = true ∧ b = true) (ht : e = true ∧ f = true) (w : World) : Calls Tryz.prog 275 #[.agg #[.bool a, .bool b, .bool o, .int .i64 d, .bool e, .bool f, .int .i64 t, .int .i64 l, .string s], .int .i64 n] w fun e' w' => ∃ v, e' = .returned v ∧ Rqs w' v [(4, 128 + 8 * n), (4, 132 + 8 * n)] ∧ Below w.heap.size w w' := by
  have h1 : ∀ w, Calls Tryz.prog 282 #[.int .i64 n, .int .i64 3] w fun e' w' => e' = .returned (.bool true) ∧ w = w' := fun w => (show inB_14 n 3 = true from by unfold inB_14; simp; omega) ▸ pwithin_any_14 n 3 w
  have w8 : wrap64 (8 * n) = 8 * n := by unfold wrap64; omega
  have w1 : wrap64 (128 + 8 * n) = 128 + 8 * n := by unfold wrap64; omega
  have w2 : wrap64 (132 + 8 * n) = 132 + 8 * n := by unfold wrap64; omega
  obtain ⟨rfl, rfl⟩ := hr
  obtain ⟨rfl, rfl⟩ := ht
  all_goals
    go_enter Tryz.func275, Tryz.ntmps275
    go_wp2_with (first | (go_at_call 282; first | ((with_reducible refine (h1 _).mono ?_); rintro e' w' ⟨rfl, rfl⟩)) | (at_builtin; refine wpList_appQ rfl (.tmp 15) (.tmp 20) rfl (w.heap.size + 1) (.slice none 0 0) 0 [] rfl (World.ownsRow_nil _ _ _ _) ⟨w.heap.size + 1, 0, none⟩ 1 1 [.int .i64 4, .int .i64 (128 + 8 * n)] rfl rfl (cells_two_new2 _ _ _ _ _) (flat_one [(4, (128 + 8 * n))]) (by omega) (by simp <;> omega) ?_; intro v1 w1 ho1 hb1 _; have hc4 := (hb1.cell (p := ⟨w.heap.size, 4, none⟩) (Nat.lt_succ_self _)).trans (old_cell (k := 4) rfl); have hc5 := (hb1.cell (p := ⟨w.heap.size, 5, none⟩) (Nat.lt_succ_self _)).trans (old_cell (k := 5) rfl)) | (at_builtin; refine wpList_appQ rfl (.tmp 28) (.tmp 33) rfl (w.heap.size + 1) _ _ _ rfl (World.ownsRow.alloc ho1 _) ⟨w1.heap.size, 0, none⟩ 1 1 [.int .i64 4, .int .i64 (132 + 8 * n)] rfl rfl (cells_two_new _ _ _ _) (flat_one [(4, (132 + 8 * n))]) (by omega) (by have := hb1.size; simp at *; omega) ?_; intro v2 w2 ho2 hb2 _))
    go_ret
    exact ⟨_, rfl, (Rw.of_own ho2 : Rw _ _ _ (flat [(4, 128 + 8 * n), (4, 132 + 8 * n)])), ((((((Bag.nil w).new 68 _).new 105 _).below).trans (hb1.mono (Nat.le_succ _))).alloc (by have := hb1.size; simp at this; omega) _).trans (hb2.mono (Nat.le_succ _))⟩
theorem preqL_any (x : Ln) (n : Int) (w : World) : Calls Tryz.prog 275 #[.agg #[.bool (x).a, .bool (x).b, .bool (x).o, .int .i64 (x).d, .bool (x).e, .bool (x).f, .int .i64 (x).t, .int .i64 (x).l, .string (x).s], .int .i64 n] w fun e' w' => ∃ v, e' = .returned v ∧ Rqs w' v (x.req n) ∧ Below w.heap.size w w' := by
  obtain ⟨a, b, o, d, e, f, t, l, s⟩ := x
  unfold Ln.req
  by_cases hn : 0 ≤ n ∧ n < 4
  · rw [if_pos hn]
    by_cases hr : a = true ∧ b = true
    · rw [if_pos hr]
      by_cases ht : e = true ∧ f = true
      · rw [if_pos ht]; exact preqL_11 a b o d e f t l s n hn hr ht w
      · rw [if_neg ht]; exact preqL_10 a b o d e f t l s n hn hr ht w
    · rw [if_neg hr]
      by_cases ht : e = true ∧ f = true
      · rw [if_pos ht]; exact preqL_01 a b o d e f t l s n hn hr ht w
      · rw [if_neg ht]; exact preqL_00 a b o d e f t l s n hn hr ht w
  · rw [if_neg hn]; exact preqL_out a b o d e f t l s n hn w
end Go.Proofs.YthpnddgfgpacpaaGreat
