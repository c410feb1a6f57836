/-
  Tick of the reference: read, more than 64 words. Conditions: a valid controller and memory.
-/
import Derived.Test.YtjolhlfjpnlcnaaDkJ
namespace Go.Proofs.Ytjolhlfjpnlcnaa
open Go.RowKit
set_option linter.unusedSimpArgs false
set_option linter.unusedVariables false
set_option maxHeartbeats 4000000
set_option maxRecDepth 100000
attribute [local irreducible] wpQuiet

theorem rtick_get_big (D : Drv) (en er : Bool) (s : Int) (A : Nat) (w1 : Int) (hw1 : 64 < w1) (hw2 : w1 ≤ 65535) (hA : A ≤ 32767) (m B : List Int) (vs vb vm vz : Value) (w : World) (X : Nat → Prop) (hXl : ∀ b, X b → b < w.heap.size) (hs : StsX X w vs D.S) (hb : ItsX X w vb D.B) (hm : ItsX X w vm m) (hz : ItsX X w vz B) (hml : m.length ≤ 1099511627776) (hzl : B.length ≤ 1099511627776) (hl : D.B.length ≤ 1099511627776) (hl2 : D.S.length ≤ 1099511627776) (hs0 : 0 ≤ s ∧ s ≤ 65535) (hr : ¬ 2 * (m.length : Int) < 2 * (A : Int) + 2 * ((64 : Nat) : Int)) (he : (D.rd s).2 = 0) (hsz : (D.rd s).1.size = 128) : Calls Try.prog 27 #[.agg #[vs, vb, .bool en, .bool false, .bool er, .int .i64 1, .int .i64 w1, .int .i64 (2 * (A : Int)), .int .i64 s, .int .i64 1], vm, vz] w (TickSays (Dk.mk D en false er 1 w1 (2 * (A : Int)) s 1) m B X w) := by
  obtain ⟨A1, c1, rfl, _⟩ := hs.now.form
  obtain ⟨A2, c2, rfl, _⟩ := hb.now.form
  obtain ⟨A3, c3, rfl, _⟩ := hm.now.form
  obtain ⟨A4, c4, rfl, _⟩ := hz.now.form
  have h64 : (Dk.mk D en false er 1 w1 (2 * (A : Int)) s 1).n64 = 64 := by unfold Dk.n64; dsimp only; omega
  have d64 : (64 : Int) < w1 := by omega
  have w0 : IntKind.i64.wrap (2 * 64) = 2 * 64 := by rw [wrap_i64]; unfold wrap64; omega
  have w1' : IntKind.i64.wrap (2 * (A : Int) + 2 * 64) = 2 * (A : Int) + 2 * 64 := by rw [wrap_i64]; unfold wrap64; omega
  have w2 : IntKind.i64.wrap (2 * (m.length : Int)) = 2 * (m.length : Int) := by rw [wrap_i64]; unfold wrap64; omega
  have w3 : IntKind.i64.wrap (2 * (A : Int) + 128) = 2 * (A : Int) + 128 := by rw [wrap_i64]; unfold wrap64; omega
  have hfl := fun w => rfailK_any (Dk.mk D en false er 1 w1 (2 * (A : Int)) s 0) A1 D.S.length c1 A2 D.B.length c2 w
  unfold Dk.fail at hfl
  dsimp only at hfl
  have hrd := fun w' (h : Below w.heap.size w w') => rread_any D s hl hl2 (.slice A1 D.S.length c1) (.slice A2 D.B.length c2) w' (hs.now.below h) (hb.now.below h)
  have hsp : ∀ w', Below w.heap.size w w' → Calls Try.prog 47 #[.slice A4 B.length c4, .int .i64 (2 * (A : Int)), .int .i64 64] w' fun e' w2 => e' = .returned (.bool (spV B (2 * (A : Int)) 64)) ∧ Below w'.heap.size w' w2 := fun w' h => rspoilt_any B (2 * (A : Int)) 64 _ w' hzl (by omega) (by omega) (hz.now.below h)
  unfold TickSays
  rw [tick_at _ _ _ rfl, h64]
  dsimp only
  rw [half_nat, if_neg hr, if_neg (fun h => h.2 he), if_neg (fun h => h.1 rfl), if_neg (fun h => absurd h.1 (by decide)), if_neg (by decide), if_pos rfl]
  (try dsimp only [Dk.l0, Dk.fail])
  have d1 : ¬ (2 * (m.length : Int) < 2 * (A : Int) + 128) := by omega
  have d1b : ¬ (2 * (m.length : Int) < 2 * (A : Int) + 2 * 64) := by omega
  rw [he] at hrd
  have hadv : ∀ D2 : Drv, (Dk.mk D en false er 1 w1 (2 * (A : Int)) s 1).adv D2 = Dk.mk D2 en false er 1 (w1 - 64) ((2 * (A : Int) + 128) % 65536) ((s + 1) % 65536) 8 := fun D2 => by
    unfold Dk.adv; rw [h64]; dsimp only; rw [decide_eq_false (by omega), if_neg (by omega)]; rfl
  rw [hadv]
  (try dsimp only)
  have u1 : (2 * (A : Int) + 128).tmod 65536 = (2 * (A : Int) + 128) % 65536 := Int.tmod_eq_emod_of_nonneg (by omega)
  have u2 : IntKind.i64.wrap ((2 * (A : Int) + 128) % 65536) = (2 * (A : Int) + 128) % 65536 := by rw [wrap_i64]; unfold wrap64; omega
  have u3 : IntKind.i64.wrap (s + 1) = s + 1 := by rw [wrap_i64]; unfold wrap64; omega
  have u4 : (s + 1).tmod 65536 = (s + 1) % 65536 := Int.tmod_eq_emod_of_nonneg (by omega)
  have u5 : IntKind.i64.wrap ((s + 1) % 65536) = (s + 1) % 65536 := by rw [wrap_i64]; unfold wrap64; omega
  have u8 : IntKind.i64.wrap (128 : Int) = 128 := by rw [wrap_i64]; unfold wrap64; omega
  have u9 : IntKind.i64.wrap (2 * (A : Int) + 128) = 2 * (A : Int) + 128 := by rw [wrap_i64]; unfold wrap64; omega
  have u6 : IntKind.i64.wrap (w1 - 64) = w1 - 64 := by rw [wrap_i64]; unfold wrap64; omega
  have u7 : (w1 - 64 == 0) = false := by simp; omega
  generalize (D.rd s).1 = sv at *
  clear he hadv hsp
  have hX := two_dk w [(.slice A1 D.S.length c1), (.slice A2 D.B.length c2), .bool en, .bool false, .bool er, .int .i64 1, .int .i64 w1, .int .i64 (2 * (A : Int)), .int .i64 s, .int .i64 0] [.slice none 0 0, .slice none 0 0, .bool false, .bool false, .bool false, .int .i64 0, .int .i64 0, .int .i64 0, .int .i64 0, .int .i64 0]
  clear h64
  obtain ⟨a3, rfl⟩ : ∃ a, A3 = some a := by
    rcases Rz.form hm.now with ⟨_, h, _⟩ | ⟨a, _, e, _⟩
    · exfalso; omega
    · cases e; exact ⟨a, rfl⟩
  obtain ⟨_, _, _, _, hcz⟩ := hz.now.form
  go_enter Try.func27, Try.ntmps27
  go_wp2_with (first | ((with_reducible refine at_load ?_); refine wpList_bag_cell hX int_cell _ rfl rfl rfl rfl (by first | exact .head _ | exact .tail _ (.head _)) rfl ?_) | ((with_reducible refine at_load ?_); refine wpList_bag_cell hX bool_cell _ rfl rfl rfl rfl (by first | exact .head _ | exact .tail _ (.head _)) rfl ?_) | ((with_reducible refine at_load ?_); refine wpList_bag_part (k := 0) hX aggK sizK _ rfl rfl rfl rfl (by first | exact .head _ | exact .tail _ (.head _)) (fun jz vz hz => (congrArg (fun n => ([_, _, _, _, _, _, _, _, _, _] : List Value)[n]?) (Nat.zero_add jz)).trans hz) rfl ?_) | ((with_reducible refine at_load ?_); refine wpList_bag_part (k := 0) (ds := [_, _]) hX aggD sizD _ rfl rfl rfl rfl (by first | exact .head _ | exact .tail _ (.head _)) (fun jz vz hz => by rcases jz with _ | _ | jz <;> first | exact hz | (simp at hz)) rfl ?_) | (go_at_call 46; (with_reducible refine (hrd _ hX.below).mono ?_); rintro e' wc ⟨rfl, hbb⟩; replace hX := hX.step hbb; clear hbb) | ((with_reducible refine at_load ?_); refine wpList_bag_cell (Bag.step hX ((Below.refl _ _).alloc (Nat.le_refl _) (.cells #[] 3))) int_cell _ rfl rfl rfl rfl (by first | exact .head _ | exact .tail _ (.head _)) rfl ?_) | ((with_reducible refine at_load ?_); refine wpList_bag_cell (Bag.step hX ((Below.refl _ _).alloc (Nat.le_refl _) (.cells #[] 3))) bool_cell _ rfl rfl rfl rfl (by first | exact .head _ | exact .tail _ (.head _)) rfl ?_) | (at_builtin; refine wpList_appI rfl (.tmp 125) (.tmp 126) rfl wc.heap.size _ 0 [] rfl (own_empty wc 3) a3 m.length c3 (m.map (Value.int .i64)) rfl (by simp) (fun jz u h => Rz.cell (Rz.below hm.now (hX.below.alloc hX.below.size _)) jz u h) (one_int m) (by omega) (by simp) ?_; intro v1 wQ ho1 hb1 hq1; clear hq1; rw [Nat.zero_add, List.nil_append] at ho1; have hNN : w.heap.size + 2 ≤ wc.heap.size := (hX.all _ _ _ (.head _)).lt; replace hX := (Bag.step hX ((Below.refl _ _).alloc (Nat.le_refl _) (.cells #[] 3))).stepN hb1 (fun b hb => by simp at hb; rcases hb with rfl | rfl <;> simp <;> omega) (by omega); clear hb1))
  obtain ⟨g, cap, rfl, hcap, hcm, hbg, hgl, _⟩ := own_at ho1 (by omega)
  have hmn : A + 64 ≤ m.length := by omega
  go_wp2
  go_loopw [14] (fun iv wr => ∃ k : Nat, k ≤ 64 ∧ iv = .int .i64 k ∧ wr.ownsRow wc.heap.size 3 1 (.slice (some ⟨g, 0, none⟩) m.length cap) m.length ((putM m A sv k).map (Value.int .i64)) ∧ Bag [(w.heap.size + 1, 27, [.slice none 0 0, .slice none 0 0, .bool false, .bool false, .bool false, .int .i64 0, .int .i64 0, .int .i64 0, .int .i64 0, .int .i64 0]), (w.heap.size, 27, [(.slice A1 D.S.length c1), (.slice A2 D.B.length c2), .bool en, .bool false, .bool er, .int .i64 1, .int .i64 w1, .int .i64 (2 * (A : Int)), .int .i64 s, .int .i64 0])] w wr) (fun iv _ => match iv with | .int _ q => 64 - q.toNat | _ => 0)
  case atStart => exact ⟨0, Nat.zero_le _, rfl, ho1, hX⟩
  case round =>
    clear hX ho1
    obtain ⟨k, hk, rfl, hown, hX⟩ := hrel
    by_cases hkn : k < 64
    · have hki : (k : Int) < 64 := by omega
      have hat := fun w' => rat_any sv k (by omega) (by omega) w'
      have hst := hid (show (putM m A sv (k + 1)).map (Value.int .i64) = ((putM m A sv k).map (Value.int .i64)).set (A + k) (.int .i64 (atV sv k)) by rw [putM_step, List.map_set])
      have x1 := half A
      have x2 : IntKind.i64.wrap ((A : Int)) = (A : Int) := by rw [wrap_i64]; unfold wrap64; omega
      have x3 : IntKind.i64.wrap ((A : Int) + (k : Int)) = (A : Int) + (k : Int) := by rw [wrap_i64]; unfold wrap64; omega
      have x4 : (A : Int) + (k : Int) < (m.length : Int) := by omega
      have x5 : (0 : Int) ≤ (A : Int) + (k : Int) := by omega
      have x6 : ((A : Int) + (k : Int)).toNat = A + k := by omega
      have hAk : A + k < m.length := by omega
      generalize atV sv k = y at *
      go_wp2
      refine region_class_tail (fun w' => Bag [(w.heap.size + 1, 27, [.slice none 0 0, .slice none 0 0, .bool false, .bool false, .bool false, .int .i64 0, .int .i64 0, .int .i64 0, .int .i64 0, .int .i64 0]), (w.heap.size, 27, [(.slice A1 D.S.length c1), (.slice A2 D.B.length c2), .bool en, .bool false, .bool er, .int .i64 1, .int .i64 w1, .int .i64 (2 * (A : Int)), .int .i64 s, .int .i64 0])] w w' ∧ w'.ownsRow wc.heap.size 3 1 (.slice (some ⟨g, 0, none⟩) m.length cap) m.length ((putM m A sv k).map (Value.int .i64))) 10 (by kernel_rfl) (by kernel_rfl) ⟨hX.drew, World.ownsRow.drew hown⟩ ?_
      repeat
        first
          | (refine BigFrame.wpQuiet_skip (by rfl) ?_
             simp only [Act.put, List.setIfInBounds_toArray, List.set_cons_zero, List.set_cons_succ])
          | (refine BigFrame.wpQuiet_want (by rfl) (fun K hK => ?_)
             apply Exists.intro
             refine ⟨fun wq hq => ?_, hK _ ?_⟩
             · first
                 | (refine quiet_load 3 _ _ _ rfl rfl ((hq.1.all _ _ _ (.tail _ (.head _))).loadCell rfl int_cell))
                 | (unfold Oper.quietAt
                    go_simp
                    first
                      | with_reducible rfl
                      | ((go_at_call 51); with_reducible refine (hat _).mono ?_; exact fun e w' ⟨he, hw⟩ => ⟨he, hq.1.step hw, own_step hq.2 hw⟩)
                   )
             clear hK K
             simp only [Act.put, List.setIfInBounds_toArray, List.set_cons_zero, List.set_cons_succ])
      refine wpQuiet_nil ?_
      intro w5 ⟨hX, hown⟩
      simp only [List.drop_succ_cons, List.drop_zero]
      (with_reducible refine at_store ?_)
      refine wpList_row_store (u := .int .i64 y) hown siz_int _ _ rfl rfl rfl rfl rfl rfl hAk rfl rfl ?_
      intro w6 ho2 hb2
      replace hX := hX.stepN hb2 (fun b hb => by simp at hb; rcases hb with rfl | rfl <;> simp <;> omega) (by omega)
      clear hown hb2
      go_wp2
      exact ⟨⟨k + 1, by omega, by go_num, by rw [show (putM m A sv (k + 1)).map (Value.int .i64) = _ from hst]; exact ho2, hX⟩, by simp only; omega⟩
    · obtain rfl : k = 64 := by omega
      rw [show ((64 : Nat) : Int) = 64 from rfl]
      have hki : ¬ 64 < 64 := by omega
      have hY : ItsX (OwnA X w.heap.size) wr _ (putM m A sv 64) := itsX_of (ownA_lt hXl hNN) (hid rfl) (hid (putM_len m A sv 64)) hown
      have hsz0 : w.heap.size + 2 ≤ wr.heap.size := (hX.all _ _ _ (.head _)).lt
      obtain ⟨wR, rfl⟩ : ∃ x, x = wr := ⟨_, rfl⟩
      have hBw := Below.refl wR.heap.size wR
      clear hown
      go_wp2
      go_loopw [15, 16] (fun v iv wq => ∃ (j : Nat) (v' : Value), j ≤ B.length ∧ v' = v ∧ iv = .int .i64 j ∧ wq.ownsRow wR.heap.size 3 1 v' (outK B (2 * (A : Int)) 64 j).length ((outK B (2 * (A : Int)) 64 j).map (Value.int .i64)) ∧ Bag [(w.heap.size + 1, 27, [.slice none 0 0, .slice none 0 0, .bool false, .bool false, .bool false, .int .i64 0, .int .i64 0, .int .i64 0, .int .i64 0, .int .i64 0]), (w.heap.size, 27, [(.slice A1 D.S.length c1), (.slice A2 D.B.length c2), .bool en, .bool false, .bool er, .int .i64 1, .int .i64 w1, .int .i64 (2 * (A : Int)), .int .i64 s, .int .i64 0])] w wq ∧ Below wR.heap.size wR wq) (fun _ iv _ => match iv with | .int _ q => B.length - q.toNat | _ => 0)
      case atStart => exact ⟨0, _, Nat.zero_le _, rfl, rfl, World.ownsRow_nil _ _ _ _, hX, hBw⟩
      case round =>
        clear hX hBw
        obtain ⟨j, v, hj, rfl, rfl, hown, hX, hBw⟩ := hrel
        have hle := outK_le B (2 * (A : Int)) 64 j
        by_cases hjl : j < B.length
        · have hji : (j : Int) < (B.length : Int) := by omega
          have hx := List.getElem?_eq_getElem hjl
          generalize B[j] = x at *
          obtain ⟨a4, rfl, hL⟩ := hcz j x hx
          by_cases h1 : x < 2 * (A : Int)
          · have e1 : decide (x < 2 * (A : Int)) = true := decide_eq_true h1
            have hst := hid (outK_in (a := 2 * (A : Int)) (n := 64) hx (.inl h1))
            clear hx h1 hcz
            go_wp2
            refine region_class (fun w' => Bag [(w.heap.size + 1, 27, [.slice none 0 0, .slice none 0 0, .bool false, .bool false, .bool false, .int .i64 0, .int .i64 0, .int .i64 0, .int .i64 0, .int .i64 0]), (w.heap.size, 27, [(.slice A1 D.S.length c1), (.slice A2 D.B.length c2), .bool en, .bool false, .bool er, .int .i64 1, .int .i64 w1, .int .i64 (2 * (A : Int)), .int .i64 s, .int .i64 0])] w w' ∧ w'.ownsRow wR.heap.size 3 1 v (outK B (2 * (A : Int)) 64 j).length ((outK B (2 * (A : Int)) 64 j).map (Value.int .i64)) ∧ Below wR.heap.size wR w') (by kernel_rfl) (by kernel_rfl) ⟨hX.drew, World.ownsRow.drew hown, hBw.drew⟩ ?_
            repeat
              first
                | (refine BigFrame.wpQuiet_skip (by rfl) ?_
                   simp only [Act.put, List.setIfInBounds_toArray, List.set_cons_zero, List.set_cons_succ])
                | (refine BigFrame.wpQuiet_want (by rfl) (fun K hK => ?_)
                   apply Exists.intro
                   refine ⟨fun wq hq => ?_, hK _ ?_⟩
                   · first
                       | (refine quiet_load 3 _ _ _ rfl rfl (hL _ hq.1.below))
                       | (refine quiet_load 3 _ _ _ rfl rfl ((hq.1.all _ _ _ (.tail _ (.head _))).loadCell rfl int_cell))
                       | (unfold Oper.quietAt
                          go_simp
                          first
                            | with_reducible rfl
                         )
                   clear hK K
                   simp only [Act.put, List.setIfInBounds_toArray, List.set_cons_zero, List.set_cons_succ])
            refine wpQuiet_nil ?_
            intro wS ⟨hX, hown, hBw⟩
            go_wp2_with (first | ((with_reducible refine at_load ?_); refine wpList_loadW rfl 3 _ _ _ rfl rfl (hL _ hX.below) ?_) | (at_builtin; refine wpList_appI rfl (.tmp 168) (.tmp 173) rfl wR.heap.size _ _ _ rfl (World.ownsRow.alloc hown _) ⟨wS.heap.size, 0, none⟩ 1 1 [.int .i64 x] rfl rfl cell_one (fun u hu => by simp at hu; subst hu; rfl) (by omega) (by have := hBw.size; simp <;> omega) ?_; intro v3 w8 ho3 hb3 _; replace hX := (Bag.step hX ((Below.refl _ _).alloc (Nat.le_refl _) (.cells #[.int .i64 x] 3))).stepN hb3 (fun b hb => by simp at hb; rcases hb with rfl | rfl <;> simp <;> omega) (by omega); replace hBw := (hBw.alloc hBw.size (.cells #[.int .i64 x] 3)).trans (hb3.mono (Nat.le_refl _)); clear hb3))
            exact ⟨⟨j + 1, v3, by omega, rfl, by go_num, by rw [show outK B (2 * (A : Int)) 64 (j + 1) = _ from hst, List.length_append, List.map_append]; exact ho3, hX, hBw⟩, by simp only; omega⟩
          · have e1 : decide (x < 2 * (A : Int)) = false := decide_eq_false h1
            by_cases h2 : 2 * (A : Int) + 2 * 64 ≤ x
            · have e2 : decide (2 * (A : Int) + 2 * 64 ≤ x) = true := decide_eq_true h2
              have e3 : decide (2 * (A : Int) + 128 ≤ x) = true := decide_eq_true (by omega)
              have hst := hid (outK_in (a := 2 * (A : Int)) (n := 64) hx (.inr (by omega)))
              clear hx h1 h2 hcz
              go_wp2
              refine region_class (fun w' => Bag [(w.heap.size + 1, 27, [.slice none 0 0, .slice none 0 0, .bool false, .bool false, .bool false, .int .i64 0, .int .i64 0, .int .i64 0, .int .i64 0, .int .i64 0]), (w.heap.size, 27, [(.slice A1 D.S.length c1), (.slice A2 D.B.length c2), .bool en, .bool false, .bool er, .int .i64 1, .int .i64 w1, .int .i64 (2 * (A : Int)), .int .i64 s, .int .i64 0])] w w' ∧ w'.ownsRow wR.heap.size 3 1 v (outK B (2 * (A : Int)) 64 j).length ((outK B (2 * (A : Int)) 64 j).map (Value.int .i64)) ∧ Below wR.heap.size wR w') (by kernel_rfl) (by kernel_rfl) ⟨hX.drew, World.ownsRow.drew hown, hBw.drew⟩ ?_
              repeat
                first
                  | (refine BigFrame.wpQuiet_skip (by rfl) ?_
                     simp only [Act.put, List.setIfInBounds_toArray, List.set_cons_zero, List.set_cons_succ])
                  | (refine BigFrame.wpQuiet_want (by rfl) (fun K hK => ?_)
                     apply Exists.intro
                     refine ⟨fun wq hq => ?_, hK _ ?_⟩
                     · first
                         | (refine quiet_load 3 _ _ _ rfl rfl (hL _ hq.1.below))
                         | (refine quiet_load 3 _ _ _ rfl rfl ((hq.1.all _ _ _ (.tail _ (.head _))).loadCell rfl int_cell))
                         | (unfold Oper.quietAt
                            go_simp
                            first
                              | with_reducible rfl
                           )
                     clear hK K
                     simp only [Act.put, List.setIfInBounds_toArray, List.set_cons_zero, List.set_cons_succ])
              refine wpQuiet_nil ?_
              intro wS ⟨hX, hown, hBw⟩
              go_wp2_with (first | ((with_reducible refine at_load ?_); refine wpList_loadW rfl 3 _ _ _ rfl rfl (hL _ hX.below) ?_) | (at_builtin; refine wpList_appI rfl (.tmp 168) (.tmp 173) rfl wR.heap.size _ _ _ rfl (World.ownsRow.alloc hown _) ⟨wS.heap.size, 0, none⟩ 1 1 [.int .i64 x] rfl rfl cell_one (fun u hu => by simp at hu; subst hu; rfl) (by omega) (by have := hBw.size; simp <;> omega) ?_; intro v3 w8 ho3 hb3 _; replace hX := (Bag.step hX ((Below.refl _ _).alloc (Nat.le_refl _) (.cells #[.int .i64 x] 3))).stepN hb3 (fun b hb => by simp at hb; rcases hb with rfl | rfl <;> simp <;> omega) (by omega); replace hBw := (hBw.alloc hBw.size (.cells #[.int .i64 x] 3)).trans (hb3.mono (Nat.le_refl _)); clear hb3))
              exact ⟨⟨j + 1, v3, by omega, rfl, by go_num, by rw [show outK B (2 * (A : Int)) 64 (j + 1) = _ from hst, List.length_append, List.map_append]; exact ho3, hX, hBw⟩, by simp only; omega⟩
            · have e2 : decide (2 * (A : Int) + 2 * 64 ≤ x) = false := decide_eq_false h2
              have e3 : decide (2 * (A : Int) + 128 ≤ x) = false := decide_eq_false (by omega)
              have hst := hid (outK_out (a := 2 * (A : Int)) (n := 64) hx (by omega))
              clear hx h1 h2 hcz
              go_wp2
              refine region_class (fun w' => Bag [(w.heap.size + 1, 27, [.slice none 0 0, .slice none 0 0, .bool false, .bool false, .bool false, .int .i64 0, .int .i64 0, .int .i64 0, .int .i64 0, .int .i64 0]), (w.heap.size, 27, [(.slice A1 D.S.length c1), (.slice A2 D.B.length c2), .bool en, .bool false, .bool er, .int .i64 1, .int .i64 w1, .int .i64 (2 * (A : Int)), .int .i64 s, .int .i64 0])] w w' ∧ w'.ownsRow wR.heap.size 3 1 v (outK B (2 * (A : Int)) 64 j).length ((outK B (2 * (A : Int)) 64 j).map (Value.int .i64)) ∧ Below wR.heap.size wR w') (by kernel_rfl) (by kernel_rfl) ⟨hX.drew, World.ownsRow.drew hown, hBw.drew⟩ ?_
              repeat
                first
                  | (refine BigFrame.wpQuiet_skip (by rfl) ?_
                     simp only [Act.put, List.setIfInBounds_toArray, List.set_cons_zero, List.set_cons_succ])
                  | (refine BigFrame.wpQuiet_want (by rfl) (fun K hK => ?_)
                     apply Exists.intro
                     refine ⟨fun wq hq => ?_, hK _ ?_⟩
                     · first
                         | (refine quiet_load 3 _ _ _ rfl rfl (hL _ hq.1.below))
                         | (refine quiet_load 3 _ _ _ rfl rfl ((hq.1.all _ _ _ (.tail _ (.head _))).loadCell rfl int_cell))
                         | (unfold Oper.quietAt
                            go_simp
                            first
                              | with_reducible rfl
                           )
                     clear hK K
                     simp only [Act.put, List.setIfInBounds_toArray, List.set_cons_zero, List.set_cons_succ])
              refine wpQuiet_nil ?_
              intro wS ⟨hX, hown, hBw⟩
              go_wp2
              exact ⟨⟨j + 1, v, by omega, rfl, by go_num, by rw [show outK B (2 * (A : Int)) 64 (j + 1) = _ from hst]; exact hown, hX, hBw⟩, by simp only; omega⟩
        · obtain rfl : j = B.length := by omega
          have hji : ¬ (B.length : Int) < (B.length : Int) := by omega
          rw [outK_all] at hown
          have hO : ItsX (OwnA X w.heap.size) wr v (outB B (2 * (A : Int)) 64) := itsX_of (ownA_lt hXl hsz0) (hid rfl) (hid rfl) hown
          replace hY := hY.below hBw
          clear hcz hown
          go_wp2_with (first | ((with_reducible refine at_load ?_); refine wpList_bag_cell hX int_cell _ rfl rfl rfl rfl (by first | exact .head _ | exact .tail _ (.head _)) rfl ?_) | ((with_reducible refine at_load ?_); refine wpList_bag_cell hX bool_cell _ rfl rfl rfl rfl (by first | exact .head _ | exact .tail _ (.head _)) rfl ?_) | ((with_reducible refine at_load ?_); refine wpList_bag_part (k := 0) hX aggK sizK _ rfl rfl rfl rfl (by first | exact .head _ | exact .tail _ (.head _)) (fun jz vz hz => (congrArg (fun n => ([_, _, _, _, _, _, _, _, _, _] : List Value)[n]?) (Nat.zero_add jz)).trans hz) rfl ?_) | ((with_reducible refine at_load ?_); refine wpList_bag_part (k := 0) (ds := [_, _]) hX aggD sizD _ rfl rfl rfl rfl (by first | exact .head _ | exact .tail _ (.head _)) (fun jz vz hz => by rcases jz with _ | _ | jz <;> first | exact hz | (simp at hz)) rfl ?_) | ((with_reducible refine at_store ?_); first | (refine wpList_bag_putV (z := .int .i64 _) hX.swap siz_int _ _ rfl rfl rfl rfl rfl rfl (by simp) rfl rfl ?_; intro wp hX3 hk3 hz3; clear hz3; clear hX; have hX := hX3; replace hY := hY.over hk3 (.inr (.inl rfl)); replace hO := hO.over hk3 (.inr (.inl rfl)); clear hk3 hX3; simp only [List.set_cons_zero, List.set_cons_succ] at hX) | (refine wpList_bag_putV (z := .int .i64 _) hX siz_int _ _ rfl rfl rfl rfl rfl rfl (by simp) rfl rfl ?_; intro wp hX3 hk3 hz3; clear hz3; clear hX; have hX := hX3; replace hY := hY.over hk3 (.inr (.inl rfl)); replace hO := hO.over hk3 (.inr (.inl rfl)); clear hk3 hX3; simp only [List.set_cons_zero, List.set_cons_succ] at hX)) | ((with_reducible refine at_store ?_); first | (refine wpList_bag_putV (z := .bool _) hX.swap siz_bool _ _ rfl rfl rfl rfl rfl rfl (by simp) rfl rfl ?_; intro wp hX3 hk3 hz3; clear hz3; clear hX; have hX := hX3; replace hY := hY.over hk3 (.inr (.inl rfl)); replace hO := hO.over hk3 (.inr (.inl rfl)); clear hk3 hX3; simp only [List.set_cons_zero, List.set_cons_succ] at hX) | (refine wpList_bag_putV (z := .bool _) hX siz_bool _ _ rfl rfl rfl rfl rfl rfl (by simp) rfl rfl ?_; intro wp hX3 hk3 hz3; clear hz3; clear hX; have hX := hX3; replace hY := hY.over hk3 (.inr (.inl rfl)); replace hO := hO.over hk3 (.inr (.inl rfl)); clear hk3 hX3; simp only [List.set_cons_zero, List.set_cons_succ] at hX)) | ((with_reducible refine at_store ?_); refine wpList_bag_overV (cs' := [(.slice A1 D.S.length c1), (.slice A2 D.B.length c2), .bool en, .bool false, .bool er, .int .i64 1, .int .i64 (w1 - 64), .int .i64 ((2 * (A : Int) + 128) % 65536), .int .i64 ((s + 1) % 65536), .int .i64 8]) hX.swap aggK sizK _ _ rfl rfl rfl rfl rfl rfl rfl rfl (one_dk rfl rfl _ _ _ _ _ _ _ _) ?_; clear hX; intro wz hX hkz; replace hY := hY.over hkz (.inr (.inr rfl)); replace hO := hO.over hkz (.inr (.inr rfl)); clear hkz) | ((with_reducible refine at_store ?_); refine wpList_bag_overV (cs' := [(.slice A1 D.S.length c1), (.slice A2 D.B.length c2), .bool en, .bool false, .bool er, .int .i64 1, .int .i64 (w1 - 64), .int .i64 ((2 * (A : Int) + 128) % 65536), .int .i64 ((s + 1) % 65536), .int .i64 8]) hX aggK sizK _ _ rfl rfl rfl rfl rfl rfl rfl rfl (one_dk rfl rfl _ _ _ _ _ _ _ _) ?_; clear hX; intro wz hX hkz; replace hY := hY.over hkz (.inr (.inr rfl)); replace hO := hO.over hkz (.inr (.inr rfl)); clear hkz))
          first | exact bodyPost_ret (results_cttK Try.results27 rfl ((hX.all _ _ _ (.head _)).loadVar rfl aggK sizK)) rfl ⟨_, _, _, rfl, ⟨_, _, rfl, hs.below hX.below, hb.below hX.below⟩, hY.less (fun _ h => .inl h), hO.less (fun _ h => .inl h), hX.below⟩ | exact bodyPost_ret (results_cttK Try.results27 rfl ((hX.all _ _ _ (.tail _ (.head _))).loadVar rfl aggK sizK)) rfl ⟨_, _, _, rfl, ⟨_, _, rfl, hs.below hX.below, hb.below hX.below⟩, hY.less (fun _ h => .inl h), hO.less (fun _ h => .inl h), hX.below⟩
end Go.Proofs.Ytjolhlfjpnlcnaa
