import Derived.Test.YtlegcfjafdihlaaGreatDoorZR28
import Derived.Test.YtlegcfjafdihlaaGreatDoorZR05
/-
  Is a machine valid: the program's Right. Condition: at most 2^40 elements in each list.
-/
namespace Go.Proofs.YtlegcfjafdihlaaGreatDoor
open Go.RowKit
set_option linter.unusedSimpArgs false
set_option linter.unusedVariables false
set_option maxHeartbeats 4000000
set_option maxRecDepth 100000
attribute [local irreducible] wpQuiet

theorem machRight_0 (A : Ma) (hA : A.ok) (c : List Int) (hc : A.C = c.map (Value.int .i64)) (hc10 : c.length = 10) (vm vb vl vs vd vt : Value) (w : World) (r1 r2 : List Value) (hpr : (∀ wz, Below w.heap.size w wz → Calls Tryz.prog 50 #[.agg (A.cells vm vb vl vs vd vt).toArray] wz fun e' w' => e' = .returned (.bool false) ∧ Below wz.heap.size wz w')) : Calls Tryz.prog 18 #[.agg (A.cells vm vb vl vs vd vt).toArray] w fun e' w' => e' = .returned (.bool false) ∧ Below w.heap.size w w' := by
  have hXm := (Bag.nil w).new 49 (A.cells vm vb vl vs vd vt)
  ·
    go_enter Tryz.func18, Tryz.ntmps18
    go_upto_region 1 with fail
    generalize (w.alloc (Obj.cells (A.cells vm vb vl vs vd vt).toArray 49)) = wQ at hXm ⊢
    refine region_class (fun w' => Bag [(w.heap.size, 49, A.cells vm vb vl vs vd vt)] w w') (by kernel_rfl) (by kernel_rfl) hXm.drew ?_
    repeat
      first
        | (refine BigFrame.wpQuiet_skip (by rfl) ?_
           simp only [Act.put, List.setIfInBounds_toArray, List.set_cons_zero, List.set_cons_succ])
        | (refine BigFrame.wpQuiet_want (by rfl) (fun K hK => ?_)
           apply Exists.intro
           refine ⟨fun wq hq => ?_, hK _ ?_⟩
           · first
               | (refine quiet_load 49 _ _ _ rfl rfl ((hq.all _ _ _ (.head _)).loadAtSub (fun j v hz => by rw [Nat.zero_add]; exact hz) (Ma.clen hA) aggM sizM))
               | (refine quiet_load 25 _ _ _ rfl rfl ((hq.all _ _ _ (.head _)).loadAtSub (k := 0) (ds := c.map (Value.int .i64)) (fun j v hz => get_c j v (by rw [hc]; exact hz)) (by simpa using hc10) aggC18 sizC18))
               | (refine quiet_load 3 _ _ _ rfl rfl ((hq.all _ _ _ (.head _)).loadCell (getE_now hA) aggI20))
               | (refine quiet_load 3 _ _ _ rfl rfl ((hq.all _ _ _ (.head _)).loadCell (getE_pw hA) aggI20))
               | (unfold Oper.quietAt
                  go_simp
                  first
                    | with_reducible rfl
                    | ((go_at_call 50); (with_reducible refine (hpr _ hq.below).mono ?_); exact fun e w' ⟨he, hw⟩ => ⟨he, hq.step hw⟩)
                 )
           clear hK K
           simp only [Act.put, List.setIfInBounds_toArray, List.set_cons_zero, List.set_cons_succ])
    refine wpQuiet_nil ?_
    intro w9 hX9
    go_wp2
    exact bodyPost_ret (results_tmp (by rfl) _ _ _) rfl ⟨by simp, hX9.below⟩
theorem machRight_1 (A : Ma) (hA : A.ok) (c : List Int) (hc : A.C = c.map (Value.int .i64)) (hc10 : c.length = 10) (vm vb vl vs vd vt : Value) (w : World) (r1 r2 : List Value) (hpr : (∀ wz, Below w.heap.size w wz → Calls Tryz.prog 50 #[.agg (A.cells vm vb vl vs vd vt).toArray] wz fun e' w' => e' = .returned (.bool true) ∧ Below wz.heap.size wz w')) (hcr : (∀ wz, Below w.heap.size w wz → Calls Tryz.prog 7 #[.agg (c.map (Value.int .i64)).toArray] wz fun e' w' => e' = .returned (.bool false) ∧ Below wz.heap.size wz w')) : Calls Tryz.prog 18 #[.agg (A.cells vm vb vl vs vd vt).toArray] w fun e' w' => e' = .returned (.bool false) ∧ Below w.heap.size w w' := by
  have hXm := (Bag.nil w).new 49 (A.cells vm vb vl vs vd vt)
  ·
    go_enter Tryz.func18, Tryz.ntmps18
    go_upto_region 1 with fail
    generalize (w.alloc (Obj.cells (A.cells vm vb vl vs vd vt).toArray 49)) = wQ at hXm ⊢
    refine region_class (fun w' => Bag [(w.heap.size, 49, A.cells vm vb vl vs vd vt)] w w') (by kernel_rfl) (by kernel_rfl) hXm.drew ?_
    repeat
      first
        | (refine BigFrame.wpQuiet_skip (by rfl) ?_
           simp only [Act.put, List.setIfInBounds_toArray, List.set_cons_zero, List.set_cons_succ])
        | (refine BigFrame.wpQuiet_want (by rfl) (fun K hK => ?_)
           apply Exists.intro
           refine ⟨fun wq hq => ?_, hK _ ?_⟩
           · first
               | (refine quiet_load 49 _ _ _ rfl rfl ((hq.all _ _ _ (.head _)).loadAtSub (fun j v hz => by rw [Nat.zero_add]; exact hz) (Ma.clen hA) aggM sizM))
               | (refine quiet_load 25 _ _ _ rfl rfl ((hq.all _ _ _ (.head _)).loadAtSub (k := 0) (ds := c.map (Value.int .i64)) (fun j v hz => get_c j v (by rw [hc]; exact hz)) (by simpa using hc10) aggC18 sizC18))
               | (refine quiet_load 3 _ _ _ rfl rfl ((hq.all _ _ _ (.head _)).loadCell (getE_now hA) aggI20))
               | (refine quiet_load 3 _ _ _ rfl rfl ((hq.all _ _ _ (.head _)).loadCell (getE_pw hA) aggI20))
               | (unfold Oper.quietAt
                  go_simp
                  first
                    | with_reducible rfl
                    | ((go_at_call 50); (with_reducible refine (hpr _ hq.below).mono ?_); exact fun e w' ⟨he, hw⟩ => ⟨he, hq.step hw⟩)
                    | ((go_at_call 7); (with_reducible refine (hcr _ hq.below).mono ?_); exact fun e w' ⟨he, hw⟩ => ⟨he, hq.step hw⟩)
                 )
           clear hK K
           simp only [Act.put, List.setIfInBounds_toArray, List.set_cons_zero, List.set_cons_succ])
    refine wpQuiet_nil ?_
    intro w9 hX9
    go_wp2
    exact bodyPost_ret (results_tmp (by rfl) _ _ _) rfl ⟨by simp, hX9.below⟩
theorem machRight_2 (A : Ma) (hA : A.ok) (c : List Int) (hc : A.C = c.map (Value.int .i64)) (hc10 : c.length = 10) (vm vb vl vs vd vt : Value) (w : World) (r1 r2 : List Value) (hpr : (∀ wz, Below w.heap.size w wz → Calls Tryz.prog 50 #[.agg (A.cells vm vb vl vs vd vt).toArray] wz fun e' w' => e' = .returned (.bool true) ∧ Below wz.heap.size wz w')) (hcr : (∀ wz, Below w.heap.size w wz → Calls Tryz.prog 7 #[.agg (c.map (Value.int .i64)).toArray] wz fun e' w' => e' = .returned (.bool true) ∧ Below wz.heap.size wz w')) (hwn : (∀ wz, Calls Tryz.prog 51 #[.int .i64 A.now, .int .i64 1099511627776] wz fun e' w' => e' = .returned (.bool false) ∧ Below wz.heap.size wz w')) : Calls Tryz.prog 18 #[.agg (A.cells vm vb vl vs vd vt).toArray] w fun e' w' => e' = .returned (.bool false) ∧ Below w.heap.size w w' := by
  have hXm := (Bag.nil w).new 49 (A.cells vm vb vl vs vd vt)
  ·
    go_enter Tryz.func18, Tryz.ntmps18
    go_upto_region 1 with fail
    generalize (w.alloc (Obj.cells (A.cells vm vb vl vs vd vt).toArray 49)) = wQ at hXm ⊢
    refine region_class (fun w' => Bag [(w.heap.size, 49, A.cells vm vb vl vs vd vt)] w w') (by kernel_rfl) (by kernel_rfl) hXm.drew ?_
    repeat
      first
        | (refine BigFrame.wpQuiet_skip (by rfl) ?_
           simp only [Act.put, List.setIfInBounds_toArray, List.set_cons_zero, List.set_cons_succ])
        | (refine BigFrame.wpQuiet_want (by rfl) (fun K hK => ?_)
           apply Exists.intro
           refine ⟨fun wq hq => ?_, hK _ ?_⟩
           · first
               | (refine quiet_load 49 _ _ _ rfl rfl ((hq.all _ _ _ (.head _)).loadAtSub (fun j v hz => by rw [Nat.zero_add]; exact hz) (Ma.clen hA) aggM sizM))
               | (refine quiet_load 25 _ _ _ rfl rfl ((hq.all _ _ _ (.head _)).loadAtSub (k := 0) (ds := c.map (Value.int .i64)) (fun j v hz => get_c j v (by rw [hc]; exact hz)) (by simpa using hc10) aggC18 sizC18))
               | (refine quiet_load 3 _ _ _ rfl rfl ((hq.all _ _ _ (.head _)).loadCell (getE_now hA) aggI20))
               | (refine quiet_load 3 _ _ _ rfl rfl ((hq.all _ _ _ (.head _)).loadCell (getE_pw hA) aggI20))
               | (unfold Oper.quietAt
                  go_simp
                  first
                    | with_reducible rfl
                    | ((go_at_call 50); (with_reducible refine (hpr _ hq.below).mono ?_); exact fun e w' ⟨he, hw⟩ => ⟨he, hq.step hw⟩)
                    | ((go_at_call 7); (with_reducible refine (hcr _ hq.below).mono ?_); exact fun e w' ⟨he, hw⟩ => ⟨he, hq.step hw⟩)
                    | ((go_at_call 51); (with_reducible refine (hwn _).mono ?_); exact fun e w' ⟨he, hw⟩ => ⟨he, hq.step hw⟩)
                 )
           clear hK K
           simp only [Act.put, List.setIfInBounds_toArray, List.set_cons_zero, List.set_cons_succ])
    refine wpQuiet_nil ?_
    intro w9 hX9
    go_wp2
    exact bodyPost_ret (results_tmp (by rfl) _ _ _) rfl ⟨by simp, hX9.below⟩
theorem machRight_3 (A : Ma) (hA : A.ok) (c : List Int) (hc : A.C = c.map (Value.int .i64)) (hc10 : c.length = 10) (vm vb vl vs vd vt : Value) (w : World) (r1 r2 : List Value) (hpr : (∀ wz, Below w.heap.size w wz → Calls Tryz.prog 50 #[.agg (A.cells vm vb vl vs vd vt).toArray] wz fun e' w' => e' = .returned (.bool true) ∧ Below wz.heap.size wz w')) (hcr : (∀ wz, Below w.heap.size w wz → Calls Tryz.prog 7 #[.agg (c.map (Value.int .i64)).toArray] wz fun e' w' => e' = .returned (.bool true) ∧ Below wz.heap.size wz w')) (hwn : (∀ wz, Calls Tryz.prog 51 #[.int .i64 A.now, .int .i64 1099511627776] wz fun e' w' => e' = .returned (.bool true) ∧ Below wz.heap.size wz w')) (hwp : (∀ wz, Calls Tryz.prog 51 #[.int .i64 A.pw, .int .i64 10000] wz fun e' w' => e' = .returned (.bool false) ∧ Below wz.heap.size wz w')) : Calls Tryz.prog 18 #[.agg (A.cells vm vb vl vs vd vt).toArray] w fun e' w' => e' = .returned (.bool false) ∧ Below w.heap.size w w' := by
  have hXm := (Bag.nil w).new 49 (A.cells vm vb vl vs vd vt)
  ·
    go_enter Tryz.func18, Tryz.ntmps18
    go_upto_region 1 with fail
    generalize (w.alloc (Obj.cells (A.cells vm vb vl vs vd vt).toArray 49)) = wQ at hXm ⊢
    refine region_class (fun w' => Bag [(w.heap.size, 49, A.cells vm vb vl vs vd vt)] w w') (by kernel_rfl) (by kernel_rfl) hXm.drew ?_
    repeat
      first
        | (refine BigFrame.wpQuiet_skip (by rfl) ?_
           simp only [Act.put, List.setIfInBounds_toArray, List.set_cons_zero, List.set_cons_succ])
        | (refine BigFrame.wpQuiet_want (by rfl) (fun K hK => ?_)
           apply Exists.intro
           refine ⟨fun wq hq => ?_, hK _ ?_⟩
           · first
               | (refine quiet_load 49 _ _ _ rfl rfl ((hq.all _ _ _ (.head _)).loadAtSub (fun j v hz => by rw [Nat.zero_add]; exact hz) (Ma.clen hA) aggM sizM))
               | (refine quiet_load 25 _ _ _ rfl rfl ((hq.all _ _ _ (.head _)).loadAtSub (k := 0) (ds := c.map (Value.int .i64)) (fun j v hz => get_c j v (by rw [hc]; exact hz)) (by simpa using hc10) aggC18 sizC18))
               | (refine quiet_load 3 _ _ _ rfl rfl ((hq.all _ _ _ (.head _)).loadCell (getE_now hA) aggI20))
               | (refine quiet_load 3 _ _ _ rfl rfl ((hq.all _ _ _ (.head _)).loadCell (getE_pw hA) aggI20))
               | (unfold Oper.quietAt
                  go_simp
                  first
                    | with_reducible rfl
                    | ((go_at_call 50); (with_reducible refine (hpr _ hq.below).mono ?_); exact fun e w' ⟨he, hw⟩ => ⟨he, hq.step hw⟩)
                    | ((go_at_call 7); (with_reducible refine (hcr _ hq.below).mono ?_); exact fun e w' ⟨he, hw⟩ => ⟨he, hq.step hw⟩)
                    | ((go_at_call 51); (with_reducible refine (hwn _).mono ?_); exact fun e w' ⟨he, hw⟩ => ⟨he, hq.step hw⟩)
                    | ((go_at_call 51); (with_reducible refine (hwp _).mono ?_); exact fun e w' ⟨he, hw⟩ => ⟨he, hq.step hw⟩)
                 )
           clear hK K
           simp only [Act.put, List.setIfInBounds_toArray, List.set_cons_zero, List.set_cons_succ])
    refine wpQuiet_nil ?_
    intro w9 hX9
    go_wp2
    exact bodyPost_ret (results_tmp (by rfl) _ _ _) rfl ⟨by simp, hX9.below⟩
theorem machRight_4 (A : Ma) (hA : A.ok) (c : List Int) (hc : A.C = c.map (Value.int .i64)) (hc10 : c.length = 10) (vm vb vl vs vd vt : Value) (w : World) (r1 r2 : List Value) (hpr : (∀ wz, Below w.heap.size w wz → Calls Tryz.prog 50 #[.agg (A.cells vm vb vl vs vd vt).toArray] wz fun e' w' => e' = .returned (.bool true) ∧ Below wz.heap.size wz w')) (hcr : (∀ wz, Below w.heap.size w wz → Calls Tryz.prog 7 #[.agg (c.map (Value.int .i64)).toArray] wz fun e' w' => e' = .returned (.bool true) ∧ Below wz.heap.size wz w')) (hwn : (∀ wz, Calls Tryz.prog 51 #[.int .i64 A.now, .int .i64 1099511627776] wz fun e' w' => e' = .returned (.bool true) ∧ Below wz.heap.size wz w')) (hwp : (∀ wz, Calls Tryz.prog 51 #[.int .i64 A.pw, .int .i64 10000] wz fun e' w' => e' = .returned (.bool true) ∧ Below wz.heap.size wz w')) (hrg : (∀ wz, Calls Tryz.prog 52 #[.agg (A.cells vm vb vl vs vd vt).toArray] wz fun e' w' => e' = .returned (.agg r1.toArray) ∧ Below wz.heap.size wz w')) (hst : (∀ wz, Calls Tryz.prog 53 #[.agg (A.cells vm vb vl vs vd vt).toArray] wz fun e' w' => e' = .returned (.agg (A.settle.cells vm vb vl vs vd vt).toArray) ∧ Below wz.heap.size wz w')) (hrs : (∀ wz, Calls Tryz.prog 52 #[.agg (A.settle.cells vm vb vl vs vd vt).toArray] wz fun e' w' => e' = .returned (.agg r2.toArray) ∧ Below wz.heap.size wz w')) (bq : Bool) (heq : ∀ wz : World, (binOp .eql 91 (.agg r1.toArray) (.agg r2.toArray)).run Tryz.prog wz = .ok (.bool bq) wz) : Calls Tryz.prog 18 #[.agg (A.cells vm vb vl vs vd vt).toArray] w fun e' w' => e' = .returned (.bool bq) ∧ Below w.heap.size w w' := by
  have hXm := (Bag.nil w).new 49 (A.cells vm vb vl vs vd vt)
  ·
    go_enter Tryz.func18, Tryz.ntmps18
    go_upto_region 1 with fail
    generalize (w.alloc (Obj.cells (A.cells vm vb vl vs vd vt).toArray 49)) = wQ at hXm ⊢
    refine region_class (fun w' => Bag [(w.heap.size, 49, A.cells vm vb vl vs vd vt)] w w') (by kernel_rfl) (by kernel_rfl) hXm.drew ?_
    repeat
      first
        | (refine BigFrame.wpQuiet_skip (by rfl) ?_
           simp only [Act.put, List.setIfInBounds_toArray, List.set_cons_zero, List.set_cons_succ])
        | (refine BigFrame.wpQuiet_want (by rfl) (fun K hK => ?_)
           apply Exists.intro
           refine ⟨fun wq hq => ?_, hK _ ?_⟩
           · first
               | (refine quiet_load 49 _ _ _ rfl rfl ((hq.all _ _ _ (.head _)).loadAtSub (fun j v hz => by rw [Nat.zero_add]; exact hz) (Ma.clen hA) aggM sizM))
               | (refine quiet_load 25 _ _ _ rfl rfl ((hq.all _ _ _ (.head _)).loadAtSub (k := 0) (ds := c.map (Value.int .i64)) (fun j v hz => get_c j v (by rw [hc]; exact hz)) (by simpa using hc10) aggC18 sizC18))
               | (refine quiet_load 3 _ _ _ rfl rfl ((hq.all _ _ _ (.head _)).loadCell (getE_now hA) aggI20))
               | (refine quiet_load 3 _ _ _ rfl rfl ((hq.all _ _ _ (.head _)).loadCell (getE_pw hA) aggI20))
               | (unfold Oper.quietAt
                  go_simp
                  first
                    | with_reducible rfl
                    | ((go_at_call 50); (with_reducible refine (hpr _ hq.below).mono ?_); exact fun e w' ⟨he, hw⟩ => ⟨he, hq.step hw⟩)
                    | ((go_at_call 7); (with_reducible refine (hcr _ hq.below).mono ?_); exact fun e w' ⟨he, hw⟩ => ⟨he, hq.step hw⟩)
                    | ((go_at_call 51); (with_reducible refine (hwn _).mono ?_); exact fun e w' ⟨he, hw⟩ => ⟨he, hq.step hw⟩)
                    | ((go_at_call 51); (with_reducible refine (hwp _).mono ?_); exact fun e w' ⟨he, hw⟩ => ⟨he, hq.step hw⟩)
                    | ((go_at_call 52); (with_reducible refine (hrg _).mono ?_); exact fun e w' ⟨he, hw⟩ => ⟨he, hq.step hw⟩)
                    | ((go_at_call 52); (with_reducible refine (hrs _).mono ?_); exact fun e w' ⟨he, hw⟩ => ⟨he, hq.step hw⟩)
                    | ((go_at_call 53); (with_reducible refine (hst _).mono ?_); exact fun e w' ⟨he, hw⟩ => ⟨he, hq.step hw⟩)
                 )
           clear hK K
           simp only [Act.put, List.setIfInBounds_toArray, List.set_cons_zero, List.set_cons_succ])
    refine wpQuiet_nil ?_
    intro w9 hX9
    go_wp2
    exact bodyPost_ret (results_tmp (by rfl) _ _ _) rfl ⟨by simp, hX9.below⟩
theorem machRight_any (A : Ma) (hA : A.ok) (hF : A.few) (c : List Int) (hc : A.C = c.map (Value.int .i64)) (hc10 : c.length = 10) (vm vb vl vs vd vt : Value) (o1 : vm.oneCell' = true) (o2 : vb.oneCell' = true) (o3 : vl.oneCell' = true) (o4 : vs.oneCell' = true) (o5 : vd.oneCell' = true) (o6 : vt.oneCell' = true) {Ad : Addr} {cc : Nat} (w : World) (hT : Tab Ad cc w) (hN : MaNow w A vm vb vl vs vd vt) :
    Calls Tryz.prog 18 #[.agg (A.cells vm vb vl vs vd vt).toArray] w fun e' w' => e' = .returned (.bool (A.rightM c)) ∧ Below w.heap.size w w' := by
  have hpr := fun wz (hb : Below w.heap.size w wz) => pbRight_any A hA hF vm vb vl vs vd vt wz (hN.step hb)
  have hcr := fun wz (hb : Below w.heap.size w wz) => cright_any hc10 (hT.below hb)
  have hwn := fun wz => mwithin_any A.now 1099511627776 wz
  have hwp := fun wz => mwithin_any A.pw 10000 wz
  have hst := fun wz => settled_any A hA vm vb vl vs vd vt o1 o2 o3 o4 o5 o6 wz
  have hrg := fun wz => regs_any A hA c hc hc10 vm vb vl vs vd vt wz
  have hrs := fun wz => regs_any A.settle (Ma.settle_ok hA) c (by unfold Ma.settle; split <;> exact hc) hc10 vm vb vl vs vd vt wz
  have heq : ∀ wz : World, (binOp .eql 91 (.agg (rgC c A).toArray) (.agg (rgC c A.settle).toArray)).run Tryz.prog wz = .ok (.bool A.calm) wz := fun wz => by
    show (binOp .eql 91 (.agg (rgV c A.now A.pw A.h A.a A.pt).toArray) (.agg (rgV c A.settle.now A.settle.pw A.settle.h A.settle.a A.settle.pt).toArray)).run Tryz.prog wz = _
    unfold Ma.settle Ma.calm
    cases hh : A.h
    · rw [if_neg (by decide)]
      have := reg_eq20 c hc10 A.now A.pw A.pw false A.a A.a A.pt A.pt wz
      simp only [hh]
      rw [this]; simp
    · rw [if_pos rfl]
      have := reg_eq20 c hc10 A.now A.pw 0 true A.a false A.pt false wz
      simp only [hh]
      rw [this]; simp
  unfold Ma.rightM
  change ∀ wz, Calls _ _ _ wz fun e' w' => e' = .returned (.bool (minB A.now 1099511627776)) ∧ _ at hwn
  change ∀ wz, Calls _ _ _ wz fun e' w' => e' = .returned (.bool (minB A.pw 10000)) ∧ _ at hwp
  generalize A.calm = bq at *
  generalize rgC c A.settle = r2 at *
  generalize rgC c A = r1 at *
  generalize minB A.now 1099511627776 = b3 at *
  generalize minB A.pw 10000 = b4 at *
  generalize A.right = b1 at *
  generalize rtL c = b2 at *
  clear hN hT
  cases b1
  · exact machRight_0 A hA c hc hc10 vm vb vl vs vd vt w r1 r2 hpr
  cases b2
  · exact machRight_1 A hA c hc hc10 vm vb vl vs vd vt w r1 r2 hpr hcr
  cases b3
  · exact machRight_2 A hA c hc hc10 vm vb vl vs vd vt w r1 r2 hpr hcr hwn
  cases b4
  · exact machRight_3 A hA c hc hc10 vm vb vl vs vd vt w r1 r2 hpr hcr hwn hwp
  · exact machRight_4 A hA c hc hc10 vm vb vl vs vd vt w r1 r2 hpr hcr hwn hwp hrg hst hrs bq heq
end Go.Proofs.YtlegcfjafdihlaaGreatDoor
