/-
  LineSends. Condition: the contracts.
-/
import Derived.Test.YtbbaflepnjglnaaLnI
import Derived.Test.YtbbaflepnjglnaaStrQ
namespace Go.Proofs.Ytbbaflepnjglnaa
open Go.RowKit
set_option linter.unusedSimpArgs false
set_option linter.unusedVariables false
set_option maxHeartbeats 4000000
set_option maxRecDepth 100000
attribute [local irreducible] wpQuiet wpQF

/-- The output behind one more byte. -/
def outV (s : ByteArray) (m : Int) : ByteArray := ⟨(lastO (s.data.toList ++ [UInt8.ofNat m.toNat])).toArray⟩
theorem ext_app (s : ByteArray) (u : ByteArray) : (s ++ u).extract 0 s.size = s := by
  apply ByteArray.ext
  rw [ByteArray.data_extract, ByteArray.data_append]
  have : s.size = s.data.size := rfl
  rw [this]
  simp
theorem get_app (s : ByteArray) (y : UInt8) : (s ++ (⟨#[y]⟩ : ByteArray)).data[s.size]? = some y := by
  have hd : (s ++ (⟨#[y]⟩ : ByteArray)).data = s.data ++ #[y] := by rw [ByteArray.data_append]
  have e : s.data ++ #[y] = s.data.push y := by simp
  rw [hd, e]
  exact Array.getElem?_push_size
theorem tick_at (s : ByteArray) (m : Int) (i : Nat) (hi : i < 4) : ∃ (F : Bool) (T : ByteArray), ((i + 1 < 4 ∧ F = false ∧ T = s) ∨ (i + 1 = 4 ∧ F = true ∧ T = outV s m)) ∧
    ∀ (a b o : Bool) (d : Int) (e : Bool), Ln.tick ⟨a, b, o, d, e, false, m, 4 - (i : Int), s⟩ = ⟨a, b, o, d, e, F, m, 4 - ((i : Int) + 1), T⟩ := by
  by_cases h : i + 1 < 4
  · refine ⟨false, s, .inl ⟨h, rfl, rfl⟩, fun a b o d e => ?_⟩
    unfold Ln.tick
    rw [if_neg (show ¬ (4 - (i : Int)) ≤ 0 by omega), if_pos (show 1 < 4 - (i : Int) by omega)]
    simp only [Ln.mk.injEq, true_and, and_true]
    omega
  · refine ⟨true, outV s m, .inr ⟨by omega, rfl, rfl⟩, fun a b o d e => ?_⟩
    unfold Ln.tick
    rw [if_neg (show ¬ (4 - (i : Int)) ≤ 0 by omega), if_neg (show ¬ 1 < 4 - (i : Int) by omega)]
    simp only [Ln.mk.injEq, true_and, and_true]
    exact ⟨by omega, rfl⟩
theorem sends_right {x : Ln} (h : x.right = true) {m : Int} (hm : 0 ≤ m ∧ m ≤ 255) (i : Nat) (hi : i < 4) (a b o : Bool) {d : Int} (hd : 0 ≤ d ∧ d ≤ 255) (e : Bool) : Ln.right ⟨a, b, o, d, e, false, m, 4 - (i : Int), x.s⟩ = true := by
  rw [right_iff] at h ⊢
  refine ⟨hd, hm, h.2.2.1, by simp only; omega, by simp only; omega, ?_⟩
  simp only [Bool.false_eq_true, false_iff]; omega
theorem next_at {x : Ln} (h : x.right = true) {m : Int} (hm : 0 ≤ m ∧ m ≤ 255) (i : Nat) (hi : i < 4) (a b o : Bool) {d : Int} (hd : 0 ≤ d ∧ d ≤ 255) (e : Bool) (k g n : Int) (h3 : ¬ k = 3) (h4 : ¬ k = 4) :
    ∃ (a' b' o' : Bool) (d' : Int) (e' : Bool), (0 ≤ d' ∧ d' ≤ 255) ∧ Ln.next ⟨a, b, o, d, e, false, m, 4 - (i : Int), x.s⟩ k g n = ⟨a', b', o', d', e', false, m, 4 - (i : Int), x.s⟩ := by
  have hr := sends_right h hm i hi a b o hd e
  have h1 := next_quiet _ k g n h3 h4 (show (Ln.mk a b o d e false m (4 - (i : Int)) x.s).f = false from rfl)
  have h2 := (right_iff _).1 (next_right hr k g n)
  generalize Ln.next ⟨a, b, o, d, e, false, m, 4 - (i : Int), x.s⟩ k g n = Y at *
  obtain ⟨ya, yb, yo, yd, ye, yf, yt, yl, ys⟩ := Y
  dsimp only at h1 h2
  obtain ⟨rfl, rfl, rfl, rfl⟩ := h1
  exact ⟨ya, yb, yo, yd, ye, h2.1, rfl⟩
theorem LineSends_law (W0 : World) (H : LnC W0) (x : Ln) (n : Int) (v : Value) (q : List (Int × Int × Int)) (hv : Dds W0 v q) : Calls Try.prog 7 #[.agg #[.bool (x).a, .bool (x).b, .bool (x).o, .int .i64 (x).d, .bool (x).e, .bool (x).f, .int .i64 (x).t, .int .i64 (x).l, .string (x).s], .int .i64 n, v] W0 fun e' w' => e' = .returned (.bool true) ∧ Below W0.heap.size W0 w' := by
  have hal := fun w (h : Below W0.heap.size W0 w) => alive_true w (H.step h)
  have hv0 := hv
  obtain ⟨A, c, rfl, _, _⟩ := hv
  have h2 := rrightL_any x
  cases hr : x.right
  · rw [hr] at h2
    obtain ⟨a, b, o, d, e, f, t, l, s⟩ := x
    dsimp only at h2
    clear H hr
    have hX := (Bag.nil W0).new 23 [.bool a, .bool b, .bool o, .int .i64 d, .bool e, .bool f, .int .i64 t, .int .i64 l, .string s]
    go_enter Try.func7, Try.ntmps7
    go_wp2_with (first | (go_at_call 10; first | ((with_reducible refine (h2 _).mono ?_); rintro e' w' ⟨rfl, hb⟩; replace hX := hX.step hb; clear hb)) | ((with_reducible refine at_load ?_); refine wpList_bag_part (k := 0) hX aggL sizL _ rfl rfl rfl rfl (by first | exact .head _) (fun jz vz hz => (congrArg (fun n => ([_, _, _, _, _, _, _, _, _] : List Value)[n]?) (Nat.zero_add jz)).trans hz) rfl ?_))
    go_ret
    exact ⟨rfl, hX.below⟩
  rw [hr] at h2
  cases hf : x.f
  · obtain ⟨a, b, o, d, e, f, t, l, s⟩ := x
    dsimp only at h2 hf
    subst hf
    clear H hr
    have hX := (Bag.nil W0).new 23 [.bool a, .bool b, .bool o, .int .i64 d, .bool e, .bool false, .int .i64 t, .int .i64 l, .string s]
    go_enter Try.func7, Try.ntmps7
    go_wp2_with (first | (go_at_call 10; first | ((with_reducible refine (h2 _).mono ?_); rintro e' w' ⟨rfl, hb⟩; replace hX := hX.step hb; clear hb)) | ((with_reducible refine at_load ?_); refine wpList_bag_cell hX int_cell _ rfl rfl rfl rfl (by first | exact .head _) rfl ?_) | ((with_reducible refine at_load ?_); refine wpList_bag_cell hX bool_cell _ rfl rfl rfl rfl (by first | exact .head _) rfl ?_) | ((with_reducible refine at_load ?_); refine wpList_bag_cell hX str_cell _ rfl rfl rfl rfl (by first | exact .head _) rfl ?_) | ((with_reducible refine at_load ?_); refine wpList_bag_part (k := 0) hX aggL sizL _ rfl rfl rfl rfl (by first | exact .head _) (fun jz vz hz => (congrArg (fun n => ([_, _, _, _, _, _, _, _, _] : List Value)[n]?) (Nat.zero_add jz)).trans hz) rfl ?_))
    go_ret
    exact ⟨rfl, hX.below⟩
  obtain ⟨a, b, o, d, e, f, t, l, s⟩ := x
  dsimp only at h2 hf
  subst hf
  have hxi := (right_iff _).1 hr
  obtain ⟨m, hm⟩ : ∃ m : Int, n % 256 = m := ⟨_, rfl⟩
  have hm0 : 0 ≤ m ∧ m ≤ 255 := by omega
  have hnm := a255 n
  rw [hm] at hnm
  have hw := fun w (hb : Below W0.heap.size W0 w) => H.wr ⟨a, b, o, d, e, true, t, l, s⟩ 6 n w hb hr
  have hwr : Ln.wr ⟨a, b, o, d, e, true, t, l, s⟩ 6 n = ⟨a, b, o, d, e, false, m, 4, s⟩ := by
    unfold Ln.wr
    rw [if_neg (by decide), if_neg (by decide), if_pos rfl, if_pos rfl, hm]
  rw [hwr] at hw
  dsimp only at hw hxi
  have hxd := hxi.1
  have hsz := hxi.2.2.1
  have hX := (Bag.nil W0).new 23 [.bool a, .bool b, .bool o, .int .i64 d, .bool e, .bool true, .int .i64 t, .int .i64 l, .string s]
  clear hwr hxi
  go_enter Try.func7, Try.ntmps7
  go_wp2_with (first | (go_at_call 10; first | ((with_reducible refine (h2 _).mono ?_); rintro e' w' ⟨rfl, hb⟩; replace hX := hX.step hb; clear hb)) | (go_at_call 18; first | ((with_reducible refine (hw _ hX.below).mono ?_); rintro e' wA ⟨rfl, hb⟩; replace hX := hX.step hb; clear hb)) | ((with_reducible refine at_store ?_); refine wpList_bag_store (zs := [.bool false, .bool false, .bool false, .int .i64 0, .bool false, .bool false, .int .i64 0, .int .i64 0, .string ⟨#[]⟩]) hX aggL sizL _ _ rfl rfl rfl rfl rfl rfl rfl rfl (one_ln _ _ _ _ _ _ _ _ _) ?_; clear hX; intro wz hX) | ((with_reducible refine at_load ?_); refine wpList_bag_cell hX int_cell _ rfl rfl rfl rfl (by first | exact .head _ | exact .tail _ (.head _)) rfl ?_) | ((with_reducible refine at_load ?_); refine wpList_bag_cell hX bool_cell _ rfl rfl rfl rfl (by first | exact .head _ | exact .tail _ (.head _)) rfl ?_) | ((with_reducible refine at_load ?_); refine wpList_bag_cell hX str_cell _ rfl rfl rfl rfl (by first | exact .head _ | exact .tail _ (.head _)) rfl ?_) | ((with_reducible refine at_load ?_); refine wpList_bag_part (k := 0) hX aggL sizL _ rfl rfl rfl rfl (by first | exact .head _ | exact .tail _ (.head _)) (fun jz vz hz => (congrArg (fun n => ([_, _, _, _, _, _, _, _, _] : List Value)[n]?) (Nat.zero_add jz)).trans hz) rfl ?_))
  clear h2 hw
  go_loopw [8] (fun iv wr => ∃ (i : Nat) (ya yb yo : Bool) (yd : Int) (ye : Bool) (F : Bool) (TT : ByteArray), i ≤ 4 ∧ iv = .int .i64 i ∧ (0 ≤ yd ∧ yd ≤ 255) ∧ ((i < 4 ∧ F = false ∧ TT = s) ∨ (i = 4 ∧ F = true ∧ TT = outV s m)) ∧ Bag [(wA.heap.size, 23, [.bool ya, .bool yb, .bool yo, .int .i64 yd, .bool ye, .bool F, .int .i64 m, .int .i64 (4 - (i : Int)), .string TT]), (W0.heap.size, 23, [.bool a, .bool b, .bool o, .int .i64 d, .bool e, .bool true, .int .i64 t, .int .i64 l, .string s])] W0 wr) (fun iv _ => match iv with | .int _ z => 4 - z.toNat | _ => 0)
  case atStart => exact ⟨0, _, _, _, _, _, false, s, by omega, rfl, hxd, .inl ⟨by omega, rfl, rfl⟩, hX⟩
  case round =>
    clear hX
    obtain ⟨i, ya, yb, yo, yd, ye, F0, T0, hi, rfl, hyd, hcase, hX⟩ := hrel
    rcases hcase with ⟨hi4, rfl, hT0⟩ | ⟨hi4, rfl, rfl⟩
    · obtain rfl : s = T0 := hT0.symm
      have hi4z : (i : Int) < 4 := by omega
      obtain ⟨F, TT, hfin, hFT0⟩ := tick_at s m i hi4
      have hFT := hFT0 ya yb yo yd ye
      by_cases hlt : i < q.length
      · have hlti : (i : Int) < (q.length : Int) := by omega
        have hltd : decide ((i : Int) < (q.length : Int)) = true := decide_eq_true hlti
        have hltn : decide (i < q.length) = true := decide_eq_true hlt
        obtain ⟨u, hu⟩ : ∃ u, q[i]? = some u := ⟨_, List.getElem?_eq_getElem hlt⟩
        obtain ⟨AA, rfl⟩ : ∃ AA, A = some AA := by
          obtain ⟨A', c', hv', _, hc'⟩ := hv0
          cases hv'
          obtain ⟨a', ha', _⟩ := hc' _ _ (flat3_get hu 0 _ rfl)
          exact ⟨a', ha'⟩
        have hD : ∀ w', Below W0.heap.size W0 w' → (Instr.loadAt 28 (.pointer (some (AA.add (i * 3))))).run Try.prog w' = .ok (.agg #[.int .i64 u.1, .int .i64 u.2.1, .int .i64 u.2.2]) w' := fun w' hb => Dds.load (Rw.below hv0 hb) rfl hu
        have hK : ∀ w', Below W0.heap.size W0 w' → (Instr.loadAt 3 (.pointer (some (AA.add (i * 3))))).run Try.prog w' = .ok (.int .i64 u.1) w' := fun w' hb => Dds.kind (Rw.below hv0 hb) hu
        obtain ⟨k, g, nn⟩ := u
        dsimp only at hD hK
        by_cases h3 : k = 3
        · have e3 : (k != 3) = false := by simpa using h3
          clear h3 hu hlt
          clear hD
          have hT := fun w (hb : Below W0.heap.size W0 w) => H.tick ⟨ya, yb, yo, yd, ye, false, m, 4 - (i : Int), s⟩ w hb (sends_right hr hm0 i hi4 _ _ _ hyd _)
          rw [hFT] at hT
          go_wp2_with (first | ((with_reducible refine at_load ?_); refine wpList_loadW rfl 3 _ _ _ rfl rfl (hK _ hX.below) ?_) | (go_at_call 20; first | ((with_reducible refine (hT _ hX.below).mono ?_); rintro e' w' ⟨rfl, hb⟩; replace hX := hX.step hb; clear hb)) | ((with_reducible refine at_store ?_); refine wpList_bag_over hX aggL sizL _ _ rfl rfl rfl rfl rfl rfl rfl rfl (one_ln _ _ _ _ _ _ _ _ _) ?_; clear hX; intro wz hX) | ((with_reducible refine at_load ?_); refine wpList_bag_cell hX int_cell _ rfl rfl rfl rfl (by first | exact .head _ | exact .tail _ (.head _)) rfl ?_) | ((with_reducible refine at_load ?_); refine wpList_bag_cell hX bool_cell _ rfl rfl rfl rfl (by first | exact .head _ | exact .tail _ (.head _)) rfl ?_) | ((with_reducible refine at_load ?_); refine wpList_bag_cell hX str_cell _ rfl rfl rfl rfl (by first | exact .head _ | exact .tail _ (.head _)) rfl ?_) | ((with_reducible refine at_load ?_); refine wpList_bag_part (k := 0) hX aggL sizL _ rfl rfl rfl rfl (by first | exact .head _ | exact .tail _ (.head _)) (fun jz vz hz => (congrArg (fun n => ([_, _, _, _, _, _, _, _, _] : List Value)[n]?) (Nat.zero_add jz)).trans hz) rfl ?_))
          exact ⟨⟨i + 1, ya, yb, yo, yd, ye, F, TT, by omega, by simp, hyd, hfin, hX⟩, by simp only; omega⟩
        have e3 : (k != 3) = true := by simpa using h3
        by_cases h4 : k = 4
        · have e4 : (k != 4) = false := by simpa using h4
          clear h3 h4 hu hlt
          clear hD
          have hT := fun w (hb : Below W0.heap.size W0 w) => H.tick ⟨ya, yb, yo, yd, ye, false, m, 4 - (i : Int), s⟩ w hb (sends_right hr hm0 i hi4 _ _ _ hyd _)
          rw [hFT] at hT
          go_wp2_with (first | ((with_reducible refine at_load ?_); refine wpList_loadW rfl 3 _ _ _ rfl rfl (hK _ hX.below) ?_) | (go_at_call 20; first | ((with_reducible refine (hT _ hX.below).mono ?_); rintro e' w' ⟨rfl, hb⟩; replace hX := hX.step hb; clear hb)) | ((with_reducible refine at_store ?_); refine wpList_bag_over hX aggL sizL _ _ rfl rfl rfl rfl rfl rfl rfl rfl (one_ln _ _ _ _ _ _ _ _ _) ?_; clear hX; intro wz hX) | ((with_reducible refine at_load ?_); refine wpList_bag_cell hX int_cell _ rfl rfl rfl rfl (by first | exact .head _ | exact .tail _ (.head _)) rfl ?_) | ((with_reducible refine at_load ?_); refine wpList_bag_cell hX bool_cell _ rfl rfl rfl rfl (by first | exact .head _ | exact .tail _ (.head _)) rfl ?_) | ((with_reducible refine at_load ?_); refine wpList_bag_cell hX str_cell _ rfl rfl rfl rfl (by first | exact .head _ | exact .tail _ (.head _)) rfl ?_) | ((with_reducible refine at_load ?_); refine wpList_bag_part (k := 0) hX aggL sizL _ rfl rfl rfl rfl (by first | exact .head _ | exact .tail _ (.head _)) (fun jz vz hz => (congrArg (fun n => ([_, _, _, _, _, _, _, _, _] : List Value)[n]?) (Nat.zero_add jz)).trans hz) rfl ?_))
          exact ⟨⟨i + 1, ya, yb, yo, yd, ye, F, TT, by omega, by simp, hyd, hfin, hX⟩, by simp only; omega⟩
        have e4 : (k != 4) = true := by simpa using h4
        have hn1 := fun w (hb : Below W0.heap.size W0 w) => next_any w (H.step hb) ⟨ya, yb, yo, yd, ye, false, m, 4 - (i : Int), s⟩ k g nn (sends_right hr hm0 i hi4 _ _ _ hyd _)
        obtain ⟨za, zb, zo, zd, ze, hzd, hz⟩ := next_at hr hm0 i hi4 ya yb yo hyd ye k g nn h3 h4
        rw [hz] at hn1
        dsimp only at hn1
        clear h3 h4 hu hlt hz
        go_wp2_with (first | ((with_reducible refine at_load ?_); refine wpList_loadW rfl 3 _ _ _ rfl rfl (hK _ hX.below) ?_))
        refine region_class_tail (fun w' => Bag [(wA.heap.size, 23, [.bool ya, .bool yb, .bool yo, .int .i64 yd, .bool ye, .bool false, .int .i64 m, .int .i64 (4 - (i : Int)), .string s]), (W0.heap.size, 23, [.bool a, .bool b, .bool o, .int .i64 d, .bool e, .bool true, .int .i64 t, .int .i64 l, .string s])] W0 w') 6 (by kernel_rfl) (by kernel_rfl) hX.drew ?_
        repeat
          first
            | (refine BigFrame.wpQuiet_skip (by rfl) ?_
               simp only [Act.put, List.setIfInBounds_toArray, List.set_cons_zero, List.set_cons_succ])
            | (refine BigFrame.wpQuiet_want (by rfl) (fun K hK => ?_)
               apply Exists.intro
               refine ⟨fun wq hq => ?_, hK _ ?_⟩
               · first
                   | (refine quiet_load 23 _ _ _ rfl rfl ((hq.all _ _ _ (.head _)).loadAt rfl aggL sizL))
                   | (refine quiet_load 28 _ _ _ rfl rfl (hD _ hq.below))
                   | (unfold Oper.quietAt
                      go_simp
                      first
                        | with_reducible rfl
                        | ((go_at_call 28); (with_reducible refine (hn1 _ hq.below).mono ?_); exact fun e' w' ⟨he, hb⟩ => ⟨he, hq.step hb⟩)
                     )
               clear hK K
               simp only [Act.put, List.setIfInBounds_toArray, List.set_cons_zero, List.set_cons_succ])
        refine wpQuiet_nil ?_
        intro w4 hX
        simp only [List.drop_succ_cons, List.drop_zero]
        clear hn1 hD hK
        have hFT := hFT0 za zb zo zd ze
        have hT := fun w (hb : Below W0.heap.size W0 w) => H.tick ⟨za, zb, zo, zd, ze, false, m, 4 - (i : Int), s⟩ w hb (sends_right hr hm0 i hi4 _ _ _ hzd _)
        rw [hFT] at hT
        go_wp2_with (first | (go_at_call 20; first | ((with_reducible refine (hT _ hX.below).mono ?_); rintro e' w' ⟨rfl, hb⟩; replace hX := hX.step hb; clear hb)) | ((with_reducible refine at_store ?_); refine wpList_bag_over hX aggL sizL _ _ rfl rfl rfl rfl rfl rfl rfl rfl (one_ln _ _ _ _ _ _ _ _ _) ?_; clear hX; intro wz hX) | ((with_reducible refine at_load ?_); refine wpList_bag_cell hX int_cell _ rfl rfl rfl rfl (by first | exact .head _ | exact .tail _ (.head _)) rfl ?_) | ((with_reducible refine at_load ?_); refine wpList_bag_cell hX bool_cell _ rfl rfl rfl rfl (by first | exact .head _ | exact .tail _ (.head _)) rfl ?_) | ((with_reducible refine at_load ?_); refine wpList_bag_cell hX str_cell _ rfl rfl rfl rfl (by first | exact .head _ | exact .tail _ (.head _)) rfl ?_) | ((with_reducible refine at_load ?_); refine wpList_bag_part (k := 0) hX aggL sizL _ rfl rfl rfl rfl (by first | exact .head _ | exact .tail _ (.head _)) (fun jz vz hz => (congrArg (fun n => ([_, _, _, _, _, _, _, _, _] : List Value)[n]?) (Nat.zero_add jz)).trans hz) rfl ?_))
        exact ⟨⟨i + 1, za, zb, zo, zd, ze, F, TT, by omega, by simp, hzd, hfin, hX⟩, by simp only; omega⟩
      · have hnl : ¬ (i : Int) < (q.length : Int) := by omega
        have hltd : decide ((i : Int) < (q.length : Int)) = false := decide_eq_false hnl
        have hltn : decide (i < q.length) = false := decide_eq_false hlt
        have hT := fun w (hb : Below W0.heap.size W0 w) => H.tick ⟨ya, yb, yo, yd, ye, false, m, 4 - (i : Int), s⟩ w hb (sends_right hr hm0 i hi4 _ _ _ hyd _)
        rw [hFT] at hT
        go_wp2_with (first | (go_at_call 20; first | ((with_reducible refine (hT _ hX.below).mono ?_); rintro e' w' ⟨rfl, hb⟩; replace hX := hX.step hb; clear hb)) | ((with_reducible refine at_store ?_); refine wpList_bag_over hX aggL sizL _ _ rfl rfl rfl rfl rfl rfl rfl rfl (one_ln _ _ _ _ _ _ _ _ _) ?_; clear hX; intro wz hX) | ((with_reducible refine at_load ?_); refine wpList_bag_cell hX int_cell _ rfl rfl rfl rfl (by first | exact .head _ | exact .tail _ (.head _)) rfl ?_) | ((with_reducible refine at_load ?_); refine wpList_bag_cell hX bool_cell _ rfl rfl rfl rfl (by first | exact .head _ | exact .tail _ (.head _)) rfl ?_) | ((with_reducible refine at_load ?_); refine wpList_bag_cell hX str_cell _ rfl rfl rfl rfl (by first | exact .head _ | exact .tail _ (.head _)) rfl ?_) | ((with_reducible refine at_load ?_); refine wpList_bag_part (k := 0) hX aggL sizL _ rfl rfl rfl rfl (by first | exact .head _ | exact .tail _ (.head _)) (fun jz vz hz => (congrArg (fun n => ([_, _, _, _, _, _, _, _, _] : List Value)[n]?) (Nat.zero_add jz)).trans hz) rfl ?_))
        exact ⟨⟨i + 1, ya, yb, yo, yd, ye, F, TT, by omega, by simp, hyd, hfin, hX⟩, by simp only; omega⟩
    · subst hi4
      clear H hv0 hxd
      obtain ⟨y, hy⟩ : ∃ y : UInt8, UInt8.ofNat m.toNat = y := ⟨_, rfl⟩
      have hym : (y.toNat : Int) = m := by rw [← hy]; have := UInt8.toNat_ofNat' (n := m.toNat); omega
      have hwm : IntKind.i64.wrap m = m := by rw [wrap_i64]; unfold wrap64; omega
      by_cases hs : s.size < 4096
      · have hT : outV s m = s ++ (⟨#[y]⟩ : ByteArray) := by unfold outV; rw [hy]; exact last_lt hs
        have hsl : (outV s m).extract 0 s.size = s := by rw [hT]; exact ext_app s _
        have hix : (outV s m).data[s.size]? = some y := by rw [hT]; exact get_app s y
        have hTn : (outV s m).size = s.size + 1 := by rw [hT]; exact size_one s y
        clear hT
        generalize outV s m = TT at *
        have hTn2 : (TT.size : Int) = (s.size : Int) + 1 := by omega
        have hp : (0 : Int) < (s.size : Int) + 1 := by omega
        have hpd : decide ((0 : Int) < (s.size : Int) + 1) = true := decide_eq_true hp
        have hw1 : IntKind.i64.wrap ((s.size : Int) + 1 - 1) = (s.size : Int) := by rw [wrap_i64]; unfold wrap64; omega
        have hw2 : IntKind.i64.wrap (s.size : Int) = (s.size : Int) := by rw [wrap_i64]; unfold wrap64; omega
        have hz : ((s.size : Int) == 4096) = false := by simp; omega
        have hI := idx_run hix
        have hS := slc_run (S := TT) (k := s.size) (by omega)
        rw [hsl] at hS
        rw [hym] at hI
        clear hs hy hsz hix hsl
        go_wp2_with (first | ((with_reducible refine at_load ?_); refine wpList_bag_cell hX int_cell _ rfl rfl rfl rfl (by first | exact .head _ | exact .tail _ (.head _)) rfl ?_) | ((with_reducible refine at_load ?_); refine wpList_bag_cell hX bool_cell _ rfl rfl rfl rfl (by first | exact .head _ | exact .tail _ (.head _)) rfl ?_) | ((with_reducible refine at_load ?_); refine wpList_bag_cell hX str_cell _ rfl rfl rfl rfl (by first | exact .head _ | exact .tail _ (.head _)) rfl ?_))
        refine region_class (fun w' => Bag [(wA.heap.size, 23, [.bool ya, .bool yb, .bool yo, .int .i64 yd, .bool ye, .bool true, .int .i64 m, .int .i64 0, .string TT]), (W0.heap.size, 23, [.bool a, .bool b, .bool o, .int .i64 d, .bool e, .bool true, .int .i64 t, .int .i64 l, .string s])] W0 w') (by kernel_rfl) (by kernel_rfl) (by exact hX.drew) ?_
        repeat
          first
            | (refine BigFrame.wpQuiet_skip (by rfl) ?_
               simp only [Act.put, List.setIfInBounds_toArray, List.set_cons_zero, List.set_cons_succ])
            | (refine BigFrame.wpQuiet_want (by rfl) (fun K hK => ?_)
               apply Exists.intro
               refine ⟨fun wq hq => ?_, hK _ ?_⟩
               · first
                   | (refine quiet_load 9 _ _ _ rfl rfl ((hq.all _ _ _ (.head _)).loadCell rfl str_cell))
                   | (refine quiet_load 9 _ _ _ rfl rfl ((hq.all _ _ _ (.tail _ (.head _))).loadCell rfl str_cell))
                   | (refine quiet_load 4 _ _ _ rfl rfl ((hq.all _ _ _ (.head _)).loadCell rfl bool_cell))
                   | (refine quiet_index 9 _ _ _ _ _ rfl rfl rfl (hI _))
                   | (refine quiet_slice 9 _ _ _ _ _ rfl rfl rfl (hS _))
                   | (unfold Oper.quietAt
                      go_simp
                      first
                        | with_reducible rfl
                        | ((go_at_call 13); first | (with_reducible refine (hal _ hq.below).mono ?_; exact fun e' w' ⟨he, hb⟩ => ⟨he, hq.step hb⟩))
                     )
               clear hK K
               simp only [Act.put, List.setIfInBounds_toArray, List.set_cons_zero, List.set_cons_succ])
        refine wpQuiet_nil ?_
        intro w5 hX
        go_wp2
        go_ret
        exact ⟨rfl, hX.below⟩
      · have hs2 : s.size = 4096 := by omega
        have hT : outV s m = (s ++ (⟨#[y]⟩ : ByteArray)).extract 1 (s.size + 1) := by unfold outV; rw [hy]; exact last_eq hs2
        have hix : (outV s m).data[4095]? = some y := by
          rw [hT, ByteArray.data_extract, Array.getElem?_extract, if_pos]
          · have h := get_app s y
            rw [hs2] at h
            exact h
          · have h2 := size_one s y
            have h3 : (s ++ (⟨#[y]⟩ : ByteArray)).data.size = (s ++ (⟨#[y]⟩ : ByteArray)).size := rfl
            omega
        have hTn : (outV s m).size = 4096 := by
          rw [hT, ByteArray.size_extract, size_one, hs2]; rfl
        clear hT
        generalize outV s m = TT at *
        have hTn2 : (TT.size : Int) = 4096 := by omega
        have hw1 : IntKind.i64.wrap 4095 = 4095 := by rw [wrap_i64]; unfold wrap64; omega
        have hs3 : (s.size : Int) = 4096 := by omega
        have hI : ∀ w, (Instr.index 9 (.string TT) (.int .i64 4095)).run Try.prog w = .ok (.int .u8 y.toNat) w := fun w => idx_run (k := 4095) hix w
        rw [hym] at hI
        clear hs hy hsz hix
        go_wp2_with (first | ((with_reducible refine at_load ?_); refine wpList_bag_cell hX int_cell _ rfl rfl rfl rfl (by first | exact .head _ | exact .tail _ (.head _)) rfl ?_) | ((with_reducible refine at_load ?_); refine wpList_bag_cell hX bool_cell _ rfl rfl rfl rfl (by first | exact .head _ | exact .tail _ (.head _)) rfl ?_) | ((with_reducible refine at_load ?_); refine wpList_bag_cell hX str_cell _ rfl rfl rfl rfl (by first | exact .head _ | exact .tail _ (.head _)) rfl ?_))
        refine region_class (fun w' => Bag [(wA.heap.size, 23, [.bool ya, .bool yb, .bool yo, .int .i64 yd, .bool ye, .bool true, .int .i64 m, .int .i64 0, .string TT]), (W0.heap.size, 23, [.bool a, .bool b, .bool o, .int .i64 d, .bool e, .bool true, .int .i64 t, .int .i64 l, .string s])] W0 w') (by kernel_rfl) (by kernel_rfl) (by exact hX.drew) ?_
        repeat
          first
            | (refine BigFrame.wpQuiet_skip (by rfl) ?_
               simp only [Act.put, List.setIfInBounds_toArray, List.set_cons_zero, List.set_cons_succ])
            | (refine BigFrame.wpQuiet_want (by rfl) (fun K hK => ?_)
               apply Exists.intro
               refine ⟨fun wq hq => ?_, hK _ ?_⟩
               · first
                   | (refine quiet_load 9 _ _ _ rfl rfl ((hq.all _ _ _ (.head _)).loadCell rfl str_cell))
                   | (refine quiet_load 9 _ _ _ rfl rfl ((hq.all _ _ _ (.tail _ (.head _))).loadCell rfl str_cell))
                   | (refine quiet_load 4 _ _ _ rfl rfl ((hq.all _ _ _ (.head _)).loadCell rfl bool_cell))
                   | (refine quiet_index 9 _ _ _ _ _ rfl rfl rfl (hI _))
                   | (refine quiet_slice 9 _ _ _ _ _ rfl rfl rfl (hS _))
                   | (unfold Oper.quietAt
                      go_simp
                      first
                        | with_reducible rfl
                        | ((go_at_call 13); first | (with_reducible refine (hal _ hq.below).mono ?_; exact fun e' w' ⟨he, hb⟩ => ⟨he, hq.step hb⟩))
                     )
               clear hK K
               simp only [Act.put, List.setIfInBounds_toArray, List.set_cons_zero, List.set_cons_succ])
        refine wpQuiet_nil ?_
        intro w5 hX
        go_wp2
        go_ret
        exact ⟨rfl, hX.below⟩
end Go.Proofs.Ytbbaflepnjglnaa
