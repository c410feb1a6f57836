/-
  Tick of the reference. Condition: a valid unit; the memory is one of words.
-/
import Derived.Test.YtigmlkfmgheegaaTpH
namespace Go.Proofs.Ytigmlkfmgheegaa
open Go.RowKit
set_option linter.unusedSimpArgs false
set_option linter.unusedVariables false
set_option maxHeartbeats 4000000
set_option maxRecDepth 100000
attribute [local irreducible] wpQuiet

theorem rreadM_any (K : Tp) (M B : List Int) (hlM : M.length ≤ 1099511627776) (hlB : B.length ≤ 1099511627776) (hW : wordsB M = true) (hpos : 0 < M.length) (hl : K.R.length ≤ 1099511627776) (hp : 0 ≤ K.p) (hrs : ∀ s ∈ K.R, s.size ≤ 512) (hk : 0 ≤ K.k ∧ K.k ≤ 65535) (ha : 0 ≤ K.a ∧ K.a ≤ 65535) (vs vm vz : Value) (w : World) (X : Nat → Prop) (hXl : ∀ b, X b → b < w.heap.size) (hs : StsX X w vs K.R) (hm : ItsX X w vm M) (hz : ItsX X w vz B) : Calls Try.prog 51 #[.agg #[vs, .int .i64 (K).p, .bool (K).n, .bool (K).r, .bool (K).e, .bool (K).m, .bool (K).d, .int .i64 (K).c, .int .i64 (K).k, .int .i64 (K).a, .int .i64 (K).l], vm, vz] w (TickS X w (K.read M B)) := by
  by_cases h : (K.R.length : Int) ≤ K.p
  · exact rreadM_no K M B hl hp h vs vm vz w X hs hm hz
  · exact rreadM_yes K M B hlM hlB hW hpos hl hp h hrs hk ha vs vm vz w X hXl hs hm hz
theorem rtickT_any (K : Tp) (hK : K.right = true) (M B : List Int) (hlM : M.length ≤ 1099511627776) (hlB : B.length ≤ 1099511627776) (hW : wordsB M = true) (hpos : 0 < M.length) (vs vm vz : Value) (w : World) (X : Nat → Prop) (hXl : ∀ b, X b → b < w.heap.size) (hs : StsX X w vs K.R) (hm : ItsX X w vm M) (hz : ItsX X w vz B) : Calls Try.prog 30 #[.agg #[vs, .int .i64 (K).p, .bool (K).n, .bool (K).r, .bool (K).e, .bool (K).m, .bool (K).d, .int .i64 (K).c, .int .i64 (K).k, .int .i64 (K).a, .int .i64 (K).l], vm, vz] w (TickS X w (K.tick M B)) := by
  unfold Tp.right at hK
  rw [Bool.and_eq_true, Tp.ok_iff, shortV_iff, wordV_iff, wordV_iff] at hK
  obtain ⟨⟨h64, hp, hc, hk, ha, hl, hr⟩, hrs⟩ := hK
  clear hr
  have hs0 : Sts w vs K.R := hs.now
  obtain ⟨A, c', hv, _, _⟩ := hs.now.form
  obtain ⟨R, p, n, r, e, m, d, c, k, a, l⟩ := K
  dsimp only at *
  have hlR : R.length ≤ 1099511627776 := by omega
  have hrd : ∀ w', Below w.heap.size w w' → w.heap.size + 2 ≤ w'.heap.size → _ := fun w' h h2 => rreadM_any (Tp.mk R p n true e m d c k a 0) M B hlM hlB hW hpos hlR hp.1 hrs hk ha vs vm vz w' (OwnA X w.heap.size) (ownT_lt hXl h2) (hs.weak h ownT_weak) (hm.weak h ownT_weak) (hz.weak h ownT_weak)
  have hwr : ∀ w', Below w.heap.size w w' → w.heap.size + 2 ≤ w'.heap.size → _ := fun w' h h2 => rwriteM_any (Tp.mk R p n true e m d c k a 0) M B hlM hlB hlR hp hk ha vs vm vz w' (OwnA X w.heap.size) (ownT_lt hXl h2) (hs.weak h ownT_weak) (Rz.below hm.now h) (Rz.below hz.now h)
  have hap : ∀ w', Below w.heap.size w w' → w.heap.size + 2 ≤ w'.heap.size → _ := fun w' h h2 => rappT_any (Tp.mk R p n true e m d c k a 0) ⟨#[]⟩ hlR hp vs w' (OwnA X w.heap.size) (ownT_lt hXl h2) (hs.weak h ownT_weak)
  subst hv
  have hpa : ∀ w', Below w.heap.size w w' → _ := fun w' h => rpassT_any (Tp.mk R p n true e m d c k a 0) hlR hp.1 A c' w' (Rz.below hs0 h)
  have hba : ∀ w', Below w.heap.size w w' → _ := fun w' h => rbackT_any (Tp.mk R p n true e m d c k a 0) hlR hp A c' w' (Rz.below hs0 h)
  clear hs0
  unfold Tp.tick
  by_cases h0 : l ≤ 0
  · rw [if_pos h0]
    clear hrd hwr hap hpa hba hp hc hk ha hl hrs h64 hlR hW hpos hlM hlB
    have d1 : decide (l ≤ 0) = true := decide_eq_true h0
    go_enter Try.func30, Try.ntmps30
    go_wp2
    exact bodyPost_ret (results_ctt Try.results30 rfl (((two_tp w _ _).all _ _ _ (.head _)).loadVar rfl aggT sizT)) rfl ⟨_, _, _, rfl, ⟨_, rfl, hs.below (two_tp w _ _).below⟩, hm.below (two_tp w _ _).below, hz.below (two_tp w _ _).below, (two_tp w _ _).below⟩
  rw [if_neg h0]
  have d1 : decide (l ≤ 0) = false := decide_eq_false h0
  by_cases h1 : 1 < l
  · rw [if_pos h1]
    have w1 : IntKind.i64.wrap (l - 1) = l - 1 := by rw [wrap_i64]; unfold wrap64; omega
    have h2 : 0 < l - 1 := by omega
    have d2 : decide (0 < l - 1) = true := decide_eq_true h2
    clear hrd hwr hap hpa hba hp hc hk ha hl hrs h64 hlR hW hpos hlM hlB h0
    go_enter Try.func30, Try.ntmps30
    go_wp2
    exact bodyPost_ret (results_ctt Try.results30 rfl (((two_tp w _ _).all _ _ _ (.head _)).loadVar rfl aggT sizT)) rfl ⟨_, _, _, rfl, ⟨_, rfl, hs.below (two_tp w _ _).below⟩, hm.below (two_tp w _ _).below, hz.below (two_tp w _ _).below, (two_tp w _ _).below⟩
  rw [if_neg h1]
  obtain rfl : l = 1 := by omega
  clear d1 h0 h1 hl
  show Calls _ _ _ _ (TickS X w ((Tp.mk R p n true e m d c k a 0).done M B))
  unfold Tp.done
  dsimp only
  obtain hc0 | hc1 | hc2 | hc3 | hc4 | hc5 | hc6 : c = 0 ∨ c = 1 ∨ c = 2 ∨ c = 3 ∨ c = 4 ∨ c = 5 ∨ c = 6 := by omega
  · subst hc0
    clear hlM hlB hlR hp hk ha h64 hrs hW hpos
    rw [if_neg (by decide)]; rw [if_neg (by decide)]; rw [if_neg (by decide)]; rw [if_neg (by decide)]; rw [if_neg (by decide)]; rw [if_neg (by decide)]
    clear hrd hwr hap hpa hba
    go_enter Try.func30, Try.ntmps30
    go_wp2
    exact bodyPost_ret (results_ctt Try.results30 rfl (((two_tp w _ _).all _ _ _ (.head _)).loadVar rfl aggT sizT)) rfl ⟨_, _, _, rfl, ⟨_, rfl, hs.below (two_tp w _ _).below⟩, hm.below (two_tp w _ _).below, hz.below (two_tp w _ _).below, (two_tp w _ _).below⟩
  · subst hc1
    clear hlM hlB hlR hp hk ha h64 hrs hW hpos
    rw [if_pos rfl]
    clear hwr hap hpa hba
    generalize (Tp.mk R p n true e m d 1 k a 0).read M B = Q3 at *
    obtain ⟨K2, M2, B2⟩ := Q3
    have hX := two_tp w [(.slice A R.length c'), .int .i64 p, .bool n, .bool true, .bool e, .bool m, .bool d, .int .i64 1, .int .i64 k, .int .i64 a, .int .i64 0] [.slice none 0 0, .int .i64 0, .bool false, .bool false, .bool false, .bool false, .bool false, .int .i64 0, .int .i64 0, .int .i64 0, .int .i64 0]
    go_enter Try.func30, Try.ntmps30
    go_wp2_with (first | ((with_reducible refine at_load ?_); refine wpList_bag_cell hX int_cell _ rfl rfl rfl rfl (by first | exact .head _ | exact .tail _ (.head _)) rfl ?_) | ((with_reducible refine at_load ?_); refine wpList_bag_cell hX bool_cell _ rfl rfl rfl rfl (by first | exact .head _ | exact .tail _ (.head _)) rfl ?_) | ((with_reducible refine at_load ?_); refine wpList_bag_cell hX slS_cell _ rfl rfl rfl rfl (by first | exact .head _ | exact .tail _ (.head _)) rfl ?_) | ((with_reducible refine at_load ?_); refine wpList_bag_part (k := 0) hX aggT sizT _ rfl rfl rfl rfl (by first | exact .head _ | exact .tail _ (.head _)) (fun jz vz hz => (congrArg (fun n => ([_, _, _, _, _, _, _, _, _, _, _] : List Value)[n]?) (Nat.zero_add jz)).trans hz) rfl ?_) | (go_at_call 51; (with_reducible refine (hrd _ hX.below (by have h1 := bag_lt hX; have h2 := bag_lt hX.swap; omega)).mono ?_); rintro e' wa ⟨x, vm3, vz3, rfl, ⟨v3, rfl, hs3⟩, hm3, hz3, hbb⟩; replace hX := hX.step hbb; obtain ⟨A3, c3, rfl, _⟩ := hs3.now.form; clear hbb) | ((with_reducible refine at_store ?_); refine wpList_bag_overV (cs' := [(.slice A3 K2.R.length c3), .int .i64 (K2).p, .bool (K2).n, .bool (K2).r, .bool (K2).e, .bool (K2).m, .bool (K2).d, .int .i64 (K2).c, .int .i64 (K2).k, .int .i64 (K2).a, .int .i64 (K2).l]) hX.swap aggT sizT _ _ rfl rfl rfl rfl rfl rfl rfl rfl (one_tp rfl _ _ _ _ _ _ _ _ _ _) ?_; clear hX; intro wz hX hkz; replace hs3 := hs3.over hkz (by first | exact .inr (.inr rfl) | exact .inr (.inl rfl)); replace hm3 := hm3.over hkz (by first | exact .inr (.inr rfl) | exact .inr (.inl rfl)); replace hz3 := hz3.over hkz (by first | exact .inr (.inr rfl) | exact .inr (.inl rfl)); clear hkz) | ((with_reducible refine at_store ?_); refine wpList_bag_overV (cs' := [(.slice A3 K2.R.length c3), .int .i64 (K2).p, .bool (K2).n, .bool (K2).r, .bool (K2).e, .bool (K2).m, .bool (K2).d, .int .i64 (K2).c, .int .i64 (K2).k, .int .i64 (K2).a, .int .i64 (K2).l]) hX aggT sizT _ _ rfl rfl rfl rfl rfl rfl rfl rfl (one_tp rfl _ _ _ _ _ _ _ _ _ _) ?_; clear hX; intro wz hX hkz; replace hs3 := hs3.over hkz (by first | exact .inr (.inr rfl) | exact .inr (.inl rfl)); replace hm3 := hm3.over hkz (by first | exact .inr (.inr rfl) | exact .inr (.inl rfl)); replace hz3 := hz3.over hkz (by first | exact .inr (.inr rfl) | exact .inr (.inl rfl)); clear hkz))
    first | exact bodyPost_ret (results_ctt Try.results30 rfl ((hX.all _ _ _ (.head _)).loadVar rfl aggT sizT)) rfl ⟨_, _, _, rfl, ⟨_, rfl, hs3.less (fun _ h => .inl h)⟩, hm3.less (fun _ h => .inl h), hz3.less (fun _ h => .inl h), hX.below⟩ | exact bodyPost_ret (results_ctt Try.results30 rfl ((hX.all _ _ _ (.tail _ (.head _))).loadVar rfl aggT sizT)) rfl ⟨_, _, _, rfl, ⟨_, rfl, hs3.less (fun _ h => .inl h)⟩, hm3.less (fun _ h => .inl h), hz3.less (fun _ h => .inl h), hX.below⟩
  · subst hc2
    clear hlM hlB hlR hp hk ha h64 hrs hW hpos
    rw [if_neg (by decide)]; rw [if_pos rfl]
    clear hrd hap hpa hba
    generalize (Tp.mk R p n true e m d 2 k a 0).write M B = K2 at *
    have hX := two_tp w [(.slice A R.length c'), .int .i64 p, .bool n, .bool true, .bool e, .bool m, .bool d, .int .i64 2, .int .i64 k, .int .i64 a, .int .i64 0] [.slice none 0 0, .int .i64 0, .bool false, .bool false, .bool false, .bool false, .bool false, .int .i64 0, .int .i64 0, .int .i64 0, .int .i64 0]
    go_enter Try.func30, Try.ntmps30
    go_wp2_with (first | ((with_reducible refine at_load ?_); refine wpList_bag_cell hX int_cell _ rfl rfl rfl rfl (by first | exact .head _ | exact .tail _ (.head _)) rfl ?_) | ((with_reducible refine at_load ?_); refine wpList_bag_cell hX bool_cell _ rfl rfl rfl rfl (by first | exact .head _ | exact .tail _ (.head _)) rfl ?_) | ((with_reducible refine at_load ?_); refine wpList_bag_cell hX slS_cell _ rfl rfl rfl rfl (by first | exact .head _ | exact .tail _ (.head _)) rfl ?_) | ((with_reducible refine at_load ?_); refine wpList_bag_part (k := 0) hX aggT sizT _ rfl rfl rfl rfl (by first | exact .head _ | exact .tail _ (.head _)) (fun jz vz hz => (congrArg (fun n => ([_, _, _, _, _, _, _, _, _, _, _] : List Value)[n]?) (Nat.zero_add jz)).trans hz) rfl ?_) | (go_at_call 52; (with_reducible refine (hwr _ hX.below (by have h1 := bag_lt hX; have h2 := bag_lt hX.swap; omega)).mono ?_); rintro e' wa ⟨x, rfl, ⟨v3, rfl, hs3⟩, hbb⟩; replace hX := hX.step hbb; obtain ⟨A3, c3, rfl, _⟩ := hs3.now.form; clear hbb) | ((with_reducible refine at_store ?_); refine wpList_bag_overV (cs' := [(.slice A3 K2.R.length c3), .int .i64 (K2).p, .bool (K2).n, .bool (K2).r, .bool (K2).e, .bool (K2).m, .bool (K2).d, .int .i64 (K2).c, .int .i64 (K2).k, .int .i64 (K2).a, .int .i64 (K2).l]) hX.swap aggT sizT _ _ rfl rfl rfl rfl rfl rfl rfl rfl (one_tp rfl _ _ _ _ _ _ _ _ _ _) ?_; clear hX; intro wz hX hkz; replace hs3 := hs3.over hkz (by first | exact .inr (.inr rfl) | exact .inr (.inl rfl)); clear hkz) | ((with_reducible refine at_store ?_); refine wpList_bag_overV (cs' := [(.slice A3 K2.R.length c3), .int .i64 (K2).p, .bool (K2).n, .bool (K2).r, .bool (K2).e, .bool (K2).m, .bool (K2).d, .int .i64 (K2).c, .int .i64 (K2).k, .int .i64 (K2).a, .int .i64 (K2).l]) hX aggT sizT _ _ rfl rfl rfl rfl rfl rfl rfl rfl (one_tp rfl _ _ _ _ _ _ _ _ _ _) ?_; clear hX; intro wz hX hkz; replace hs3 := hs3.over hkz (by first | exact .inr (.inr rfl) | exact .inr (.inl rfl)); clear hkz))
    first | exact bodyPost_ret (results_ctt Try.results30 rfl ((hX.all _ _ _ (.head _)).loadVar rfl aggT sizT)) rfl ⟨_, _, _, rfl, ⟨_, rfl, hs3.less (fun _ h => .inl h)⟩, hm.below hX.below, hz.below hX.below, hX.below⟩ | exact bodyPost_ret (results_ctt Try.results30 rfl ((hX.all _ _ _ (.tail _ (.head _))).loadVar rfl aggT sizT)) rfl ⟨_, _, _, rfl, ⟨_, rfl, hs3.less (fun _ h => .inl h)⟩, hm.below hX.below, hz.below hX.below, hX.below⟩
  · subst hc3
    clear hlM hlB hlR hp hk ha h64 hrs hW hpos
    rw [if_neg (by decide)]; rw [if_neg (by decide)]; rw [if_pos rfl]
    clear hrd hwr hap hba
    have hR : ((Tp.mk R p n true e m d 3 k a 0).pass).1.R = R := by unfold Tp.pass; split <;> rfl
    generalize (Tp.mk R p n true e m d 3 k a 0).pass = Q3 at *
    obtain ⟨⟨R2, p2, n2, r2, e2, m2, d2, c2, k2, a2, l2⟩, ok2⟩ := Q3
    obtain rfl : R = R2 := hR.symm
    have hX := two_tp w [(.slice A R.length c'), .int .i64 p, .bool n, .bool true, .bool e, .bool m, .bool d, .int .i64 3, .int .i64 k, .int .i64 a, .int .i64 0] [.slice none 0 0, .int .i64 0, .bool false, .bool false, .bool false, .bool false, .bool false, .int .i64 0, .int .i64 0, .int .i64 0, .int .i64 0]
    go_enter Try.func30, Try.ntmps30
    go_wp2_with (first | ((with_reducible refine at_load ?_); refine wpList_bag_cell hX int_cell _ rfl rfl rfl rfl (by first | exact .head _ | exact .tail _ (.head _)) rfl ?_) | ((with_reducible refine at_load ?_); refine wpList_bag_cell hX bool_cell _ rfl rfl rfl rfl (by first | exact .head _ | exact .tail _ (.head _)) rfl ?_) | ((with_reducible refine at_load ?_); refine wpList_bag_cell hX slS_cell _ rfl rfl rfl rfl (by first | exact .head _ | exact .tail _ (.head _)) rfl ?_) | ((with_reducible refine at_load ?_); refine wpList_bag_part (k := 0) hX aggT sizT _ rfl rfl rfl rfl (by first | exact .head _ | exact .tail _ (.head _)) (fun jz vz hz => (congrArg (fun n => ([_, _, _, _, _, _, _, _, _, _, _] : List Value)[n]?) (Nat.zero_add jz)).trans hz) rfl ?_) | (go_at_call 53; (with_reducible refine (hpa _ hX.below).mono ?_); rintro e' wp ⟨rfl, hbb⟩; replace hX := hX.step hbb; clear hbb) | ((with_reducible refine at_store ?_); refine wpList_bag_overV (cs' := [(.slice A R.length c'), .int .i64 p2, .bool n2, .bool r2, .bool e2, .bool m2, .bool d2, .int .i64 c2, .int .i64 k2, .int .i64 a2, .int .i64 l2]) hX.swap aggT sizT _ _ rfl rfl rfl rfl rfl rfl rfl rfl (one_tp rfl _ _ _ _ _ _ _ _ _ _) ?_; clear hX; intro wz hX hkz; clear hkz) | ((with_reducible refine at_store ?_); refine wpList_bag_overV (cs' := [(.slice A R.length c'), .int .i64 p2, .bool n2, .bool r2, .bool e2, .bool m2, .bool d2, .int .i64 c2, .int .i64 k2, .int .i64 a2, .int .i64 l2]) hX aggT sizT _ _ rfl rfl rfl rfl rfl rfl rfl rfl (one_tp rfl _ _ _ _ _ _ _ _ _ _) ?_; clear hX; intro wz hX hkz; clear hkz))
    first | exact bodyPost_ret (results_ctt Try.results30 rfl ((hX.all _ _ _ (.head _)).loadVar rfl aggT sizT)) rfl ⟨_, _, _, rfl, ⟨_, rfl, hs.below hX.below⟩, hm.below hX.below, hz.below hX.below, hX.below⟩ | exact bodyPost_ret (results_ctt Try.results30 rfl ((hX.all _ _ _ (.tail _ (.head _))).loadVar rfl aggT sizT)) rfl ⟨_, _, _, rfl, ⟨_, rfl, hs.below hX.below⟩, hm.below hX.below, hz.below hX.below, hX.below⟩
  · subst hc4
    clear hlM hlB hlR hp hk ha h64 hrs hW hpos
    rw [if_neg (by decide)]; rw [if_neg (by decide)]; rw [if_neg (by decide)]; rw [if_pos rfl]
    clear hrd hwr hap hpa
    have hR : ((Tp.mk R p n true e m d 4 k a 0).back).R = R := by unfold Tp.back; split <;> rfl
    generalize (Tp.mk R p n true e m d 4 k a 0).back = Q3 at *
    obtain ⟨R2, p2, n2, r2, e2, m2, d2, c2, k2, a2, l2⟩ := Q3
    obtain rfl : R = R2 := hR.symm
    have hX := two_tp w [(.slice A R.length c'), .int .i64 p, .bool n, .bool true, .bool e, .bool m, .bool d, .int .i64 4, .int .i64 k, .int .i64 a, .int .i64 0] [.slice none 0 0, .int .i64 0, .bool false, .bool false, .bool false, .bool false, .bool false, .int .i64 0, .int .i64 0, .int .i64 0, .int .i64 0]
    go_enter Try.func30, Try.ntmps30
    go_wp2_with (first | ((with_reducible refine at_load ?_); refine wpList_bag_cell hX int_cell _ rfl rfl rfl rfl (by first | exact .head _ | exact .tail _ (.head _)) rfl ?_) | ((with_reducible refine at_load ?_); refine wpList_bag_cell hX bool_cell _ rfl rfl rfl rfl (by first | exact .head _ | exact .tail _ (.head _)) rfl ?_) | ((with_reducible refine at_load ?_); refine wpList_bag_cell hX slS_cell _ rfl rfl rfl rfl (by first | exact .head _ | exact .tail _ (.head _)) rfl ?_) | ((with_reducible refine at_load ?_); refine wpList_bag_part (k := 0) hX aggT sizT _ rfl rfl rfl rfl (by first | exact .head _ | exact .tail _ (.head _)) (fun jz vz hz => (congrArg (fun n => ([_, _, _, _, _, _, _, _, _, _, _] : List Value)[n]?) (Nat.zero_add jz)).trans hz) rfl ?_) | (go_at_call 54; (with_reducible refine (hba _ hX.below).mono ?_); rintro e' wp ⟨rfl, hbb⟩; replace hX := hX.step hbb; clear hbb) | ((with_reducible refine at_store ?_); refine wpList_bag_overV (cs' := [(.slice A R.length c'), .int .i64 p2, .bool n2, .bool r2, .bool e2, .bool m2, .bool d2, .int .i64 c2, .int .i64 k2, .int .i64 a2, .int .i64 l2]) hX.swap aggT sizT _ _ rfl rfl rfl rfl rfl rfl rfl rfl (one_tp rfl _ _ _ _ _ _ _ _ _ _) ?_; clear hX; intro wz hX hkz; clear hkz) | ((with_reducible refine at_store ?_); refine wpList_bag_overV (cs' := [(.slice A R.length c'), .int .i64 p2, .bool n2, .bool r2, .bool e2, .bool m2, .bool d2, .int .i64 c2, .int .i64 k2, .int .i64 a2, .int .i64 l2]) hX aggT sizT _ _ rfl rfl rfl rfl rfl rfl rfl rfl (one_tp rfl _ _ _ _ _ _ _ _ _ _) ?_; clear hX; intro wz hX hkz; clear hkz))
    first | exact bodyPost_ret (results_ctt Try.results30 rfl ((hX.all _ _ _ (.head _)).loadVar rfl aggT sizT)) rfl ⟨_, _, _, rfl, ⟨_, rfl, hs.below hX.below⟩, hm.below hX.below, hz.below hX.below, hX.below⟩ | exact bodyPost_ret (results_ctt Try.results30 rfl ((hX.all _ _ _ (.tail _ (.head _))).loadVar rfl aggT sizT)) rfl ⟨_, _, _, rfl, ⟨_, rfl, hs.below hX.below⟩, hm.below hX.below, hz.below hX.below, hX.below⟩
  · subst hc5
    clear hlM hlB hlR hp hk ha h64 hrs hW hpos
    rw [if_neg (by decide)]; rw [if_neg (by decide)]; rw [if_neg (by decide)]; rw [if_neg (by decide)]; rw [if_pos rfl]
    clear hrd hwr hap hpa hba
    go_enter Try.func30, Try.ntmps30
    go_wp2
    exact bodyPost_ret (results_ctt Try.results30 rfl (((two_tp w _ _).all _ _ _ (.head _)).loadVar rfl aggT sizT)) rfl ⟨_, _, _, rfl, ⟨_, rfl, hs.below (two_tp w _ _).below⟩, hm.below (two_tp w _ _).below, hz.below (two_tp w _ _).below, (two_tp w _ _).below⟩
  · subst hc6
    clear hlM hlB hlR hp hk ha h64 hrs hW hpos
    rw [if_neg (by decide)]; rw [if_neg (by decide)]; rw [if_neg (by decide)]; rw [if_neg (by decide)]; rw [if_neg (by decide)]; rw [if_pos rfl]
    clear hrd hwr hpa hba
    generalize (Tp.mk R p n true e m d 6 k a 0).app ⟨#[]⟩ = K2 at *
    have hX := two_tp w [(.slice A R.length c'), .int .i64 p, .bool n, .bool true, .bool e, .bool m, .bool d, .int .i64 6, .int .i64 k, .int .i64 a, .int .i64 0] [.slice none 0 0, .int .i64 0, .bool false, .bool false, .bool false, .bool false, .bool false, .int .i64 0, .int .i64 0, .int .i64 0, .int .i64 0]
    go_enter Try.func30, Try.ntmps30
    go_wp2_with (first | ((with_reducible refine at_load ?_); refine wpList_bag_cell hX int_cell _ rfl rfl rfl rfl (by first | exact .head _ | exact .tail _ (.head _)) rfl ?_) | ((with_reducible refine at_load ?_); refine wpList_bag_cell hX bool_cell _ rfl rfl rfl rfl (by first | exact .head _ | exact .tail _ (.head _)) rfl ?_) | ((with_reducible refine at_load ?_); refine wpList_bag_cell hX slS_cell _ rfl rfl rfl rfl (by first | exact .head _ | exact .tail _ (.head _)) rfl ?_) | ((with_reducible refine at_load ?_); refine wpList_bag_part (k := 0) hX aggT sizT _ rfl rfl rfl rfl (by first | exact .head _ | exact .tail _ (.head _)) (fun jz vz hz => (congrArg (fun n => ([_, _, _, _, _, _, _, _, _, _, _] : List Value)[n]?) (Nat.zero_add jz)).trans hz) rfl ?_) | (go_at_call 55; (with_reducible refine (hap _ hX.below (by have h1 := bag_lt hX; have h2 := bag_lt hX.swap; omega)).mono ?_); rintro e' wa ⟨x, rfl, ⟨v3, rfl, hs3⟩, hbb⟩; replace hX := hX.step hbb; obtain ⟨A3, c3, rfl, _⟩ := hs3.now.form; clear hbb) | ((with_reducible refine at_store ?_); refine wpList_bag_overV (cs' := [(.slice A3 K2.R.length c3), .int .i64 (K2).p, .bool (K2).n, .bool (K2).r, .bool (K2).e, .bool (K2).m, .bool (K2).d, .int .i64 (K2).c, .int .i64 (K2).k, .int .i64 (K2).a, .int .i64 (K2).l]) hX.swap aggT sizT _ _ rfl rfl rfl rfl rfl rfl rfl rfl (one_tp rfl _ _ _ _ _ _ _ _ _ _) ?_; clear hX; intro wz hX hkz; replace hs3 := hs3.over hkz (by first | exact .inr (.inr rfl) | exact .inr (.inl rfl)); clear hkz) | ((with_reducible refine at_store ?_); refine wpList_bag_overV (cs' := [(.slice A3 K2.R.length c3), .int .i64 (K2).p, .bool (K2).n, .bool (K2).r, .bool (K2).e, .bool (K2).m, .bool (K2).d, .int .i64 (K2).c, .int .i64 (K2).k, .int .i64 (K2).a, .int .i64 (K2).l]) hX aggT sizT _ _ rfl rfl rfl rfl rfl rfl rfl rfl (one_tp rfl _ _ _ _ _ _ _ _ _ _) ?_; clear hX; intro wz hX hkz; replace hs3 := hs3.over hkz (by first | exact .inr (.inr rfl) | exact .inr (.inl rfl)); clear hkz))
    first | exact bodyPost_ret (results_ctt Try.results30 rfl ((hX.all _ _ _ (.head _)).loadVar rfl aggT sizT)) rfl ⟨_, _, _, rfl, ⟨_, rfl, hs3.less (fun _ h => .inl h)⟩, hm.below hX.below, hz.below hX.below, hX.below⟩ | exact bodyPost_ret (results_ctt Try.results30 rfl ((hX.all _ _ _ (.tail _ (.head _))).loadVar rfl aggT sizT)) rfl ⟨_, _, _, rfl, ⟨_, rfl, hs3.less (fun _ h => .inl h)⟩, hm.below hX.below, hz.below hX.below, hX.below⟩
end Go.Proofs.Ytigmlkfmgheegaa
