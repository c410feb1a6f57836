/-
  DiskctlRuns. Condition: the contracts.
-/
import Derived.Test.YtjolhlfjpnlcnaaDkU
import Derived.Test.YtjolhlfjpnlcnaaHo
namespace Go.Proofs.Ytjolhlfjpnlcnaa
open Go.RowKit
set_option linter.unusedSimpArgs false
set_option linter.unusedVariables false
set_option maxHeartbeats 4000000
set_option maxRecDepth 100000
attribute [local irreducible] wpQuiet

/-- Two own boxes. -/
def X2 (M N b : Nat) : Prop := b = M ∨ b = N
theorem x2_lt {W0 w : World} {Ba Bc : Nat} {t1 t2 : TypeId} {c1 c2 : List Value} {l : List (Nat × TypeId × List Value)} (h : Bag ((Ba, t1, c1) :: (Bc, t2, c2) :: l) W0 w) : ∀ b, X2 Ba Bc b → b < w.heap.size := fun b hb => by
  rcases hb with rfl | rfl
  · exact (h.all _ _ _ (.head _)).lt
  · exact (h.all _ _ _ (.tail _ (.head _))).lt
theorem new_keep {w w2 : World} {o : Obj} {X : Nat → Prop} (hk : ∀ k, k ≠ w.heap.size → w2.heap[k]? = (w.alloc o).heap[k]?) : ∀ b, b < w.heap.size → ¬ X b → w2.heap[b]? = w.heap[b]? := fun b hb _ => (hk b (by omega)).trans (((Below.refl w.heap.size w).alloc (Nat.le_refl _) o).block b hb)
theorem aggO (w : World) : (isAgg 48).run Try.prog w = .ok true w := by kernel_rfl
theorem sizO (w : World) : (sizeOf 48).run Try.prog w = .ok 2 w := by kernel_rfl
theorem dos_form {w : World} {v : Value} {l : List Rq} (h : Rqs w v l) : ∃ A c, v = .slice A l.length c ∧ ∀ (k : Nat) q, l[k]? = some q → ∃ a, A = some a ∧ ∀ w', Below w.heap.size w w' → (Instr.loadAt 48 (.pointer (some (a.add (k * 2))))).run Try.prog w' = .ok (.agg #[.int .i64 q.1, .int .i64 q.2]) w' := by
  have h0 := h
  obtain ⟨A, c, rfl, hk, hc⟩ := h
  refine ⟨A, c, rfl, fun k q hq => ?_⟩
  obtain ⟨a, rfl, _⟩ := hc _ _ (flat_get hq 0 _ rfl)
  exact ⟨a, rfl, fun w' hb => Rw.loadAt (k := k) (s := 2) (Rw.below h0 hb) (flat_get hq) rfl aggO sizO⟩
/-- Valid and small. -/
def Fit (K : Dk) (m B : List Int) : Prop := K.right = true ∧ rightP m B = true ∧ m.length ≤ 2048 ∧ B.length ≤ 60 ∧ K.D.S.length ≤ 64 ∧ K.D.B.length ≤ 64
theorem Fit.tick {K : Dk} {m B : List Int} (h : Fit K m B) : Fit (K.tick m B).1 (K.tick m B).2.1 (K.tick m B).2.2 := by
  obtain ⟨h1, h2, h3, h4, h5, h6⟩ := h
  obtain ⟨k1, k2, k3, k4, k5, k6⟩ := tick_kept h1 h2
  exact ⟨k1, k2, by omega, by omega, by omega, by rw [k6]; exact h6⟩
theorem wr_D2 {K : Dk} {g v : Int} (h : (K.wr g v).2 = true) : (K.wr g v).1.D = K.D := by
  unfold Dk.wr Dk.cmd at *
  repeat' split at *
  all_goals first | rfl | (simp_all; done)
theorem Fit.wr {K : Dk} {m B : List Int} (h : Fit K m B) {g v : Int} (hz : (K.wr g v).2 = true) : Fit (K.wr g v).1 m B := by
  obtain ⟨h1, h2, h3, h4, h5, h6⟩ := h
  refine ⟨wrK_right h1 g v hz, h2, h3, h4, ?_, ?_⟩ <;> rw [wr_D2 hz] <;> assumption
theorem Fit.acc {K : Dk} {m B : List Int} (h : Fit K m B) (v : Int) : Fit (K.acc v) m B := by
  obtain ⟨h1, h2, h3, h4, h5, h6⟩ := h
  refine ⟨accK_right h1 v, h2, h3, h4, ?_, ?_⟩ <;> rw [acc_D] <;> assumption
theorem Fit.reset {K : Dk} {m B : List Int} (h : Fit K m B) : Fit K.reset m B := by
  obtain ⟨h1, h2, h3, h4, h5, h6⟩ := h
  exact ⟨resetK_right h1, h2, h3, h4, h5, h6⟩
theorem and31K (n : Int) : bits .and .i64 n 31 = n % 32 := i_and (c := 31) (by decide) (field _ 0 5) (by intro h; omega)
theorem DiskctlRuns_law (W0 : World) (H : DkC W0) (K : Dk) (m B : List Int) (l : List Rq) (vs vb vm vz vl : Value) (hs : Sts W0 vs K.D.S) (hb : Its W0 vb K.D.B) (hvm : Its W0 vm m) (hvz : Its W0 vz B) (hvl : Rqs W0 vl l) : Calls Try.prog 5 #[.agg #[vs, vb, .bool (K).n, .bool (K).r, .bool (K).e, .int .i64 (K).c, .int .i64 (K).w, .int .i64 (K).a, .int .i64 (K).s, .int .i64 (K).l], vm, vz, vl] W0 fun e' w' => e' = .returned (.bool true) ∧ Below W0.heap.size W0 w' := by
  have hF : ∀ w, Below W0.heap.size W0 w → Calls Try.prog 25 #[.agg #[vs, vb, .bool (K).n, .bool (K).r, .bool (K).e, .int .i64 (K).c, .int .i64 (K).w, .int .i64 (K).a, .int .i64 (K).s, .int .i64 (K).l], vm, vz] w fun e' w' => e' = .returned (.bool (fewV K m B)) ∧ Below w.heap.size w w' := fun w h => few_any K m B vs vb vm vz w (Rz.below hs h) (Rz.below hb h) (Rz.below hvm h) (Rz.below hvz h)
  have hX := (Bag.nil W0).new 27 [vs, vb, .bool (K).n, .bool (K).r, .bool (K).e, .int .i64 (K).c, .int .i64 (K).w, .int .i64 (K).a, .int .i64 (K).s, .int .i64 (K).l]
  obtain ⟨A, c, rfl, hA⟩ := dos_form hvl
  cases hf : fewV K m B
  · rw [hf] at hF
    go_enter Try.func5, Try.ntmps5
    go_wp2_with (first | ((with_reducible refine at_load ?_); refine wpList_bag_part (k := 0) hX aggK sizK _ rfl rfl rfl rfl (by first | exact .head _) (fun jz vz hz => (congrArg (fun n => ([_, _, _, _, _, _, _, _, _, _] : List Value)[n]?) (Nat.zero_add jz)).trans hz) rfl ?_) | (go_at_call 25; (with_reducible refine (hF _ hX.below).mono ?_); rintro e' wF ⟨rfl, hbb⟩; replace hX := hX.step hbb; clear hbb) | (go_at_call 8; (with_reducible refine (alive_true _ (H.step hX.below)).mono ?_); rintro e' wL ⟨rfl, hbb⟩; replace hX := hX.step hbb; clear hbb))
    go_ret
    exact ⟨rfl, hX.below⟩
  rw [hf] at hF
  by_cases h40 : 40 < l.length
  · have d40 : decide (40 < (l.length : Int)) = true := decide_eq_true (by omega)
    go_enter Try.func5, Try.ntmps5
    go_wp2_with (first | ((with_reducible refine at_load ?_); refine wpList_bag_part (k := 0) hX aggK sizK _ rfl rfl rfl rfl (by first | exact .head _) (fun jz vz hz => (congrArg (fun n => ([_, _, _, _, _, _, _, _, _, _] : List Value)[n]?) (Nat.zero_add jz)).trans hz) rfl ?_) | (go_at_call 25; (with_reducible refine (hF _ hX.below).mono ?_); rintro e' wF ⟨rfl, hbb⟩; replace hX := hX.step hbb; clear hbb) | (go_at_call 8; (with_reducible refine (alive_true _ (H.step hX.below)).mono ?_); rintro e' wL ⟨rfl, hbb⟩; replace hX := hX.step hbb; clear hbb))
    go_ret
    exact ⟨rfl, hX.below⟩
  have d40 : decide (40 < (l.length : Int)) = false := decide_eq_false (by omega)
  obtain ⟨h1, h2, h3, h4, hR, hM⟩ := (fewV_iff K m B).1 hf
  have hfit : Hid (Fit K m B) := hid ⟨hR, hM, h3, h4, h1, h2⟩
  have hll : l.length ≤ 40 := by omega
  clear hf h1 h2 h3 h4 h40 hR hM
  go_enter Try.func5, Try.ntmps5
  go_wp2_with (first | ((with_reducible refine at_load ?_); refine wpList_bag_part (k := 0) hX aggK sizK _ rfl rfl rfl rfl (by first | exact .head _ | exact .tail _ (.head _) | exact .tail _ (.tail _ (.head _))) (fun jz vz hz => (congrArg (fun n => ([_, _, _, _, _, _, _, _, _, _] : List Value)[n]?) (Nat.zero_add jz)).trans hz) rfl ?_) | (go_at_call 25; (with_reducible refine (hF _ hX.below).mono ?_); rintro e' wF ⟨rfl, hbb⟩; replace hX := hX.step hbb; clear hbb) | ((with_reducible refine at_store ?_); (have hck : Bag [_] W0 _ := hX); clear hck; refine wpList_bag_overV (cs' := [vs, vb, .bool (K).n, .bool (K).r, .bool (K).e, .int .i64 (K).c, .int .i64 (K).w, .int .i64 (K).a, .int .i64 (K).s, .int .i64 (K).l]) (hX.new 27 [.slice none 0 0, .slice none 0 0, .bool false, .bool false, .bool false, .int .i64 0, .int .i64 0, .int .i64 0, .int .i64 0, .int .i64 0]) aggK sizK _ _ rfl rfl rfl rfl rfl rfl rfl rfl (one_dk (sts_one hs) (its_one hb) _ _ _ _ _ _ _ _) ?_; clear hX; intro wa hX hkz; clear hkz) | ((with_reducible refine at_store ?_); (have hck : Bag [_, _] W0 _ := hX); clear hck; refine wpList_bag_overV (cs' := [vs, vb, .bool (K).n, .bool (K).r, .bool (K).e, .int .i64 (K).c, .int .i64 (K).w, .int .i64 (K).a, .int .i64 (K).s, .int .i64 (K).l]) (hX.new 27 [.slice none 0 0, .slice none 0 0, .bool false, .bool false, .bool false, .int .i64 0, .int .i64 0, .int .i64 0, .int .i64 0, .int .i64 0]) aggK sizK _ _ rfl rfl rfl rfl rfl rfl rfl rfl (one_dk (sts_one hs) (its_one hb) _ _ _ _ _ _ _ _) ?_; clear hX; intro wc hX hkz; clear hkz))
  have hT := fun K m B (hf : Fit K m B) vs vb vm vz X w (h1 : Below W0.heap.size W0 w) => H.tick K m B vs vb vm vz X w h1 hf.1 hf.2.1
  have hTR := fun K m B (hf : Fit K m B) vs vb vm vz w X hXl hs hb hm hz => rtickK_any K m B vs vb vm vz w X hXl hs hb hm hz hf.1 ((rightP_iff m B).1 hf.2.1).2.1 (Nat.le_trans hf.2.2.1 (by decide)) (Nat.le_trans hf.2.2.2.1 (by decide)) (Nat.le_trans hf.2.2.2.2.2 (by decide))
  unfold TickSays at hT hTR
  obtain ⟨Ba, hBa⟩ : ∃ N, wF.heap.size = N := ⟨_, rfl⟩
  obtain ⟨Bc, hBc⟩ : ∃ N, wa.heap.size = N := ⟨_, rfl⟩
  rw [hBa, hBc] at hX
  rw [hBa, hBc]
  have hN1 : ∀ b, b < W0.heap.size → ¬ (X2 Ba Bc) b := fun b hb h => by
    have h1 := hX.lo _ (.tail _ (.head _))
    have h2 := hX.lo _ (.head _)
    simp only at h1 h2
    rcases h with rfl | rfl <;> omega
  have gs := sts_arg hs hX.below hN1
  have gb := its_arg hb hX.below hN1
  have gm := its_arg hvm hX.below hN1
  have gz := its_arg hvz hX.below hN1
  clear hBa hBc
  replace hX := hX.swap
  go_loopw [36, 10, 11, 13, 14] (fun iv va vz vc vd wr => ∃ (k : Nat) (K1 : Dk) (m1 B1 : List Int) (vs1 vb1 vs2 vb2 : Value), k ≤ l.length ∧ iv = .int .i64 k ∧ Hid (Fit K1 m1 B1) ∧ StsX (X2 Ba Bc) wr vs1 K1.D.S ∧ ItsX (X2 Ba Bc) wr vb1 K1.D.B ∧ StsX (X2 Ba Bc) wr vs2 K1.D.S ∧ ItsX (X2 Ba Bc) wr vb2 K1.D.B ∧ ItsX (X2 Ba Bc) wr va m1 ∧ ItsX (X2 Ba Bc) wr vz B1 ∧ ItsX (X2 Ba Bc) wr vc m1 ∧ ItsX (X2 Ba Bc) wr vd B1 ∧ Bag [(Ba, 27, [vs1, vb1, .bool (K1).n, .bool (K1).r, .bool (K1).e, .int .i64 (K1).c, .int .i64 (K1).w, .int .i64 (K1).a, .int .i64 (K1).s, .int .i64 (K1).l]), (Bc, 27, [vs2, vb2, .bool (K1).n, .bool (K1).r, .bool (K1).e, .int .i64 (K1).c, .int .i64 (K1).w, .int .i64 (K1).a, .int .i64 (K1).s, .int .i64 (K1).l]), (W0.heap.size, 27, [vs, vb, .bool (K).n, .bool (K).r, .bool (K).e, .int .i64 (K).c, .int .i64 (K).w, .int .i64 (K).a, .int .i64 (K).s, .int .i64 (K).l])] W0 wr) (fun iv _ _ _ _ _ => l.length - (intOf iv).toNat)
  case atStart => exact ⟨0, K, m, B, _, _, _, _, Nat.zero_le _, rfl, hfit, gs, gb, gs, gb, gm, gz, gm, gz, hX⟩
  case round =>
    clear hX gs gb gm gz hfit hs hb hvm hvz hvl hF
    obtain ⟨k, K1, m1, B1, vs1, vb1, vs2, vb2, hk, rfl, hfit, hs1, hb1, hs2, hb2, hm1, hz1, hm2, hz2, hX⟩ := hrel
    by_cases hkn : k < l.length
    · have hki : (k : Int) < (l.length : Int) := by omega
      obtain ⟨⟨q1, q2⟩, hq⟩ : ∃ q, l[k]? = some q := ⟨_, List.getElem?_eq_getElem hkn⟩
      obtain ⟨a, rfl, hL⟩ := hA k _ hq
      clear hA hq
      obtain ⟨f1, f2, f3, f4, f5, f6⟩ : Fit K1 m1 B1 := hfit
      have hlS : K1.D.S.length ≤ 1099511627776 := by omega
      have hlB : K1.D.B.length ≤ 1099511627776 := by omega
      have hlm : m1.length ≤ 1099511627776 := by omega
      have hlb : B1.length ≤ 1099511627776 := by omega
      obtain ⟨wR, rfl⟩ : ∃ x, x = wr := ⟨_, rfl⟩
      by_cases h0 : q1 = 0
      · subst h0
        have e31 := and31K q2
        obtain ⟨N, hN, hN21⟩ : ∃ N : Nat, (q2 % 32).tmod 21 = (N : Int) ∧ N < 21 := ⟨(q2 % 32 % 21).toNat, by rw [Int.tmod_eq_emod_of_nonneg (by omega)]; omega, by omega⟩
        generalize q2 % 32 = q3 at *
        have hNw : IntKind.i64.wrap (N : Int) = N := by rw [wrap_i64]; unfold wrap64; omega
        go_wp2_with (first | ((with_reducible refine at_load ?_); refine wpList_loadW rfl 48 _ _ _ rfl rfl (hL _ hX.below) ?_) | ((with_reducible refine at_store ?_); refine wpList_bag_overV (cs' := [.int .i64 0, .int .i64 q2]) (hX.new 48 [.int .i64 0, .int .i64 0]) aggO sizO _ _ rfl rfl rfl rfl rfl rfl rfl rfl (by intro u hu; simp at hu; rcases hu with rfl | rfl <;> rfl) ?_; clear hX; intro wx hX hkz; replace hX := hX.perm (List.perm_middle (l₁ := [_, _])).symm; dsimp only [List.cons_append, List.nil_append] at hX; replace hs1 := hs1.off (new_keep hkz) (fun _ _ h => h); replace hb1 := hb1.off (new_keep hkz) (fun _ _ h => h); replace hs2 := hs2.off (new_keep hkz) (fun _ _ h => h); replace hb2 := hb2.off (new_keep hkz) (fun _ _ h => h); replace hm1 := hm1.off (new_keep hkz) (fun _ _ h => h); replace hz1 := hz1.off (new_keep hkz) (fun _ _ h => h); replace hm2 := hm2.off (new_keep hkz) (fun _ _ h => h); replace hz2 := hz2.off (new_keep hkz) (fun _ _ h => h); clear hkz) | ((with_reducible refine at_load ?_); refine wpList_bag_cell hX int_cell _ rfl rfl rfl rfl (by first | exact .head _ | exact .tail _ (.head _) | exact .tail _ (.tail _ (.head _))) rfl ?_) | ((with_reducible refine at_load ?_); refine wpList_bag_cell hX bool_cell _ rfl rfl rfl rfl (by first | exact .head _ | exact .tail _ (.head _) | exact .tail _ (.tail _ (.head _))) rfl ?_))
        go_loopw [52, 10, 11, 13, 14] (fun iv va vz vc vd wr => ∃ (j : Nat) (K1 : Dk) (m1 B1 : List Int) (vs1 vb1 vs2 vb2 : Value), j ≤ N ∧ iv = .int .i64 j ∧ Hid (Fit K1 m1 B1) ∧ StsX (X2 Ba Bc) wr vs1 K1.D.S ∧ ItsX (X2 Ba Bc) wr vb1 K1.D.B ∧ StsX (X2 Ba Bc) wr vs2 K1.D.S ∧ ItsX (X2 Ba Bc) wr vb2 K1.D.B ∧ ItsX (X2 Ba Bc) wr va m1 ∧ ItsX (X2 Ba Bc) wr vz B1 ∧ ItsX (X2 Ba Bc) wr vc m1 ∧ ItsX (X2 Ba Bc) wr vd B1 ∧ Bag [(Ba, 27, [vs1, vb1, .bool (K1).n, .bool (K1).r, .bool (K1).e, .int .i64 (K1).c, .int .i64 (K1).w, .int .i64 (K1).a, .int .i64 (K1).s, .int .i64 (K1).l]), (Bc, 27, [vs2, vb2, .bool (K1).n, .bool (K1).r, .bool (K1).e, .int .i64 (K1).c, .int .i64 (K1).w, .int .i64 (K1).a, .int .i64 (K1).s, .int .i64 (K1).l]), (wR.heap.size, 48, [.int .i64 0, .int .i64 q2]), (W0.heap.size, 27, [vs, vb, .bool (K).n, .bool (K).r, .bool (K).e, .int .i64 (K).c, .int .i64 (K).w, .int .i64 (K).a, .int .i64 (K).s, .int .i64 (K).l])] W0 wr) (fun iv _ _ _ _ _ => N - (intOf iv).toNat)
        case atStart => exact ⟨0, K1, m1, B1, _, _, _, _, Nat.zero_le _, rfl, hid ⟨f1, f2, f3, f4, f5, f6⟩, hs1, hb1, hs2, hb2, hm1, hz1, hm2, hz2, hX⟩
        case round =>
          clear hX hs1 hb1 hs2 hb2 hm1 hz1 hm2 hz2 f1 f2 f3 f4 f5 f6 hlS hlB hlm hlb
          obtain ⟨j, K1, m1, B1, vs1, vb1, vs2, vb2, hj, rfl, hfit, hs1, hb1, hs2, hb2, hm1, hz1, hm2, hz2, hX⟩ := hrel
          have hfit' : Fit K1 m1 B1 := hfit
          by_cases hjN : j < N
          · have hji : (j : Int) < (N : Int) := by omega
            have hft := hid hfit'.tick
            have hTp := hT K1 m1 B1 hfit'
            have hTr := hTR K1 m1 B1 hfit'
            clear hfit hfit' hL
            generalize (K1.tick m1 B1).1 = K2 at *
            generalize (K1.tick m1 B1).2.1 = m3 at *
            generalize (K1.tick m1 B1).2.2 = B3 at *
            go_wp2_with (first | (go_at_call 26; (with_reducible refine (hTp vs1 vb1 u10 u11 (X2 Ba Bc) _ hX.below (x2_lt hX) hs1 hb1 hm1 hz1).mono ?_); rintro e' wT ⟨x, y, z, rfl, ⟨vs3, vb3, rfl, hs3, hb3⟩, hm3, hz3, hbb⟩; replace hX := hX.step hbb; replace hs2 := hs2.below hbb; replace hb2 := hb2.below hbb; replace hm2 := hm2.below hbb; replace hz2 := hz2.below hbb; clear hbb hs1 hb1 hm1 hz1) | ((with_reducible refine at_store ?_); refine wpList_bag_overV (cs' := [vs3, vb3, .bool (K2).n, .bool (K2).r, .bool (K2).e, .int .i64 (K2).c, .int .i64 (K2).w, .int .i64 (K2).a, .int .i64 (K2).s, .int .i64 (K2).l]) hX aggK sizK _ _ rfl rfl rfl rfl rfl rfl rfl rfl (one_dk (sts_one hs3.now) (its_one hb3.now) _ _ _ _ _ _ _ _) ?_; clear hX; intro wz hX hkz; replace hs3 := hs3.over hkz (.inl rfl); replace hb3 := hb3.over hkz (.inl rfl); replace hm3 := hm3.over hkz (.inl rfl); replace hz3 := hz3.over hkz (.inl rfl); replace hs2 := hs2.over hkz (.inl rfl); replace hb2 := hb2.over hkz (.inl rfl); replace hm2 := hm2.over hkz (.inl rfl); replace hz2 := hz2.over hkz (.inl rfl); clear hkz) | (go_at_call 27; (with_reducible refine (hTr vs2 vb2 u13 u14 _ (X2 Ba Bc) (x2_lt hX) hs2 hb2 hm2 hz2).mono ?_); rintro e' wU ⟨x, y, z, rfl, ⟨vs4, vb4, rfl, hs4, hb4⟩, hm4, hz4, hbb⟩; replace hX := hX.step hbb; replace hs3 := hs3.below hbb; replace hb3 := hb3.below hbb; replace hm3 := hm3.below hbb; replace hz3 := hz3.below hbb; clear hbb hs2 hb2 hm2 hz2) | ((with_reducible refine at_store ?_); refine wpList_bag_overV (cs' := [vs4, vb4, .bool (K2).n, .bool (K2).r, .bool (K2).e, .int .i64 (K2).c, .int .i64 (K2).w, .int .i64 (K2).a, .int .i64 (K2).s, .int .i64 (K2).l]) hX.swap aggK sizK _ _ rfl rfl rfl rfl rfl rfl rfl rfl (one_dk (sts_one hs4.now) (its_one hb4.now) _ _ _ _ _ _ _ _) ?_; clear hX; intro wy hX hkz; replace hX := hX.swap; replace hs3 := hs3.over hkz (.inr rfl); replace hb3 := hb3.over hkz (.inr rfl); replace hm3 := hm3.over hkz (.inr rfl); replace hz3 := hz3.over hkz (.inr rfl); replace hs4 := hs4.over hkz (.inr rfl); replace hb4 := hb4.over hkz (.inr rfl); replace hm4 := hm4.over hkz (.inr rfl); replace hz4 := hz4.over hkz (.inr rfl); clear hkz) | ((with_reducible refine at_load ?_); refine wpList_bag_part (k := 0) hX aggK sizK _ rfl rfl rfl rfl (by first | exact .head _ | exact .tail _ (.head _) | exact .tail _ (.tail _ (.head _)) | exact .tail _ (.tail _ (.tail _ (.head _)))) (fun jz vz hz => (congrArg (fun n => ([_, _, _, _, _, _, _, _, _, _] : List Value)[n]?) (Nat.zero_add jz)).trans hz) rfl ?_))
            exact ⟨⟨j + 1, K2, m3, B3, _, _, _, _, by omega, by go_num, hft, hs3, hb3, hs4, hb4, hm3, hz3, hm4, hz4, hX⟩, by simp [intOf]; omega⟩
          have hji : ¬ (j : Int) < (N : Int) := by omega
          obtain ⟨f1, f2, f3, f4, f5, f6⟩ := hfit'
          have hlS : K1.D.S.length ≤ 1099511627776 := by omega
          have hlB : K1.D.B.length ≤ 1099511627776 := by omega
          have hlm : m1.length ≤ 1099511627776 := by omega
          have hlb : B1.length ≤ 1099511627776 := by omega
          clear hL f1 f2 f3 f4 f5 f6
          go_wp2_with (first | ((with_reducible refine at_load ?_); refine wpList_bag_part (k := 0) hX aggK sizK _ rfl rfl rfl rfl (by first | exact .head _ | exact .tail _ (.head _) | exact .tail _ (.tail _ (.head _)) | exact .tail _ (.tail _ (.tail _ (.head _)))) (fun jz vz hz => (congrArg (fun n => ([_, _, _, _, _, _, _, _, _, _] : List Value)[n]?) (Nat.zero_add jz)).trans hz) rfl ?_) | (go_at_call 11; (with_reducible refine (rsameK_any K1 hlB hlS vs1 vb1 vs2 vb2 _ hs1.now hb1.now hs2.now hb2.now).mono ?_); rintro e' wK ⟨rfl, hbb⟩; replace hX := hX.step hbb; replace hs1 := hs1.below hbb; replace hb1 := hb1.below hbb; replace hs2 := hs2.below hbb; replace hb2 := hb2.below hbb; replace hm1 := hm1.below hbb; replace hz1 := hz1.below hbb; replace hm2 := hm2.below hbb; replace hz2 := hz2.below hbb; clear hbb) | (go_at_call 28; (with_reducible refine (rsameI_any m1 u10 u13 _ hlm hm1.now hm2.now).mono ?_); rintro e' wM ⟨rfl, hbb⟩; replace hX := hX.step hbb; replace hs1 := hs1.below hbb; replace hb1 := hb1.below hbb; replace hs2 := hs2.below hbb; replace hb2 := hb2.below hbb; replace hm1 := hm1.below hbb; replace hz1 := hz1.below hbb; replace hm2 := hm2.below hbb; replace hz2 := hz2.below hbb; clear hbb) | (go_at_call 28; (with_reducible refine (rsameI_any B1 u11 u14 _ hlb hz1.now hz2.now).mono ?_); rintro e' wM ⟨rfl, hbb⟩; replace hX := hX.step hbb; replace hs1 := hs1.below hbb; replace hb1 := hb1.below hbb; replace hs2 := hs2.below hbb; replace hb2 := hb2.below hbb; replace hm1 := hm1.below hbb; replace hz1 := hz1.below hbb; replace hm2 := hm2.below hbb; replace hz2 := hz2.below hbb; clear hbb))
          exact ⟨⟨k + 1, K1, m1, B1, _, _, _, _, by omega, by go_num, hfit, hs1, hb1, hs2, hb2, hm1, hz1, hm2, hz2, hX.sub (.cons_cons _ (.cons_cons _ (.cons _ (.refl _))))⟩, by simp [intOf]; omega⟩
      have e0 : (q1 == 0) = false := by simpa using h0
      by_cases h14 : 1 ≤ q1 ∧ q1 ≤ 4
      · have d1 : decide (1 ≤ q1) = true := decide_eq_true h14.1
        have d2 : decide (q1 ≤ 4) = true := decide_eq_true h14.2
        have w1 : IntKind.i64.wrap (2 * q1) = 2 * q1 := by rw [wrap_i64]; unfold wrap64; omega
        have w2 : IntKind.i64.wrap (2 * q1 - 2) = 2 * q1 - 2 := by rw [wrap_i64]; unfold wrap64; omega
        have hz0 := wrK_two K1 (2 * q1 - 2) q2 (by omega)
        have hft := hid (Fit.wr (m := m1) (B := B1) ⟨f1, f2, f3, f4, f5, f6⟩ hz0)
        have hW := fun vs vb w (h : Below W0.heap.size W0 w) hXl h3 h4 => H.write K1 (2 * q1 - 2) q2 vs vb (X2 Ba Bc) w h f1 hXl h3 h4
        have hWr := fun vs vb w h3 h4 => rwriteK_any K1 (2 * q1 - 2) q2 vs vb w (X2 Ba Bc) h3 h4
        have hDD := wr_D2 hz0
        rw [hz0] at hW hWr
        generalize (K1.wr (2 * q1 - 2) q2).1 = K2 at *
        replace hlS : K2.D.S.length ≤ 1099511627776 := by rw [hDD]; exact hlS
        replace hlB : K2.D.B.length ≤ 1099511627776 := by rw [hDD]; exact hlB
        clear hDD hz0 f1 f2 f3 f4 f5 f6 h14 h0
        go_wp2_with (first | ((with_reducible refine at_load ?_); refine wpList_loadW rfl 48 _ _ _ rfl rfl (hL _ hX.below) ?_) | ((with_reducible refine at_store ?_); refine wpList_bag_overV (cs' := [.int .i64 q1, .int .i64 q2]) (hX.new 48 [.int .i64 0, .int .i64 0]) aggO sizO _ _ rfl rfl rfl rfl rfl rfl rfl rfl (by intro u hu; simp at hu; rcases hu with rfl | rfl <;> rfl) ?_; clear hX; intro wx hX hkz; replace hX := hX.perm (List.perm_middle (l₁ := [_, _])).symm; dsimp only [List.cons_append, List.nil_append] at hX; replace hs1 := hs1.off (new_keep hkz) (fun _ _ h => h); replace hb1 := hb1.off (new_keep hkz) (fun _ _ h => h); replace hs2 := hs2.off (new_keep hkz) (fun _ _ h => h); replace hb2 := hb2.off (new_keep hkz) (fun _ _ h => h); replace hm1 := hm1.off (new_keep hkz) (fun _ _ h => h); replace hz1 := hz1.off (new_keep hkz) (fun _ _ h => h); replace hm2 := hm2.off (new_keep hkz) (fun _ _ h => h); replace hz2 := hz2.off (new_keep hkz) (fun _ _ h => h); clear hkz) | (go_at_call 16; (with_reducible refine (hW vs1 vb1 _ hX.below (x2_lt hX) hs1 hb1).mono ?_); rintro e' wT ⟨x, rfl, ⟨vs3, vb3, rfl, hs3, hb3⟩, hbb⟩; replace hX := hX.step hbb; replace hs2 := hs2.below hbb; replace hb2 := hb2.below hbb; replace hm1 := hm1.below hbb; replace hz1 := hz1.below hbb; replace hm2 := hm2.below hbb; replace hz2 := hz2.below hbb; clear hbb hs1 hb1) | ((with_reducible refine at_store ?_); refine wpList_bag_overV (cs' := [vs3, vb3, .bool (K2).n, .bool (K2).r, .bool (K2).e, .int .i64 (K2).c, .int .i64 (K2).w, .int .i64 (K2).a, .int .i64 (K2).s, .int .i64 (K2).l]) hX aggK sizK _ _ rfl rfl rfl rfl rfl rfl rfl rfl (one_dk (sts_one hs3.now) (its_one hb3.now) _ _ _ _ _ _ _ _) ?_; clear hX; intro wz hX hkz; replace hs3 := hs3.over hkz (.inl rfl); replace hb3 := hb3.over hkz (.inl rfl); replace hm1 := hm1.over hkz (.inl rfl); replace hz1 := hz1.over hkz (.inl rfl); replace hm2 := hm2.over hkz (.inl rfl); replace hz2 := hz2.over hkz (.inl rfl); replace hs2 := hs2.over hkz (.inl rfl); replace hb2 := hb2.over hkz (.inl rfl); clear hkz) | (go_at_call 17; (with_reducible refine (hWr vs2 vb2 _ hs2 hb2).mono ?_); rintro e' wU ⟨x, rfl, ⟨vs4, vb4, rfl, hs4, hb4⟩, hbb⟩; replace hX := hX.step hbb; replace hs3 := hs3.below hbb; replace hb3 := hb3.below hbb; replace hm1 := hm1.below hbb; replace hz1 := hz1.below hbb; replace hm2 := hm2.below hbb; replace hz2 := hz2.below hbb; clear hbb hs2 hb2) | ((with_reducible refine at_store ?_); refine wpList_bag_overV (cs' := [vs4, vb4, .bool (K2).n, .bool (K2).r, .bool (K2).e, .int .i64 (K2).c, .int .i64 (K2).w, .int .i64 (K2).a, .int .i64 (K2).s, .int .i64 (K2).l]) hX.swap aggK sizK _ _ rfl rfl rfl rfl rfl rfl rfl rfl (one_dk (sts_one hs4.now) (its_one hb4.now) _ _ _ _ _ _ _ _) ?_; clear hX; intro wy hX hkz; replace hX := hX.swap; replace hs3 := hs3.over hkz (.inr rfl); replace hb3 := hb3.over hkz (.inr rfl); replace hm1 := hm1.over hkz (.inr rfl); replace hz1 := hz1.over hkz (.inr rfl); replace hm2 := hm2.over hkz (.inr rfl); replace hz2 := hz2.over hkz (.inr rfl); replace hs4 := hs4.over hkz (.inr rfl); replace hb4 := hb4.over hkz (.inr rfl); clear hkz) | ((with_reducible refine at_load ?_); refine wpList_bag_part (k := 0) hX aggK sizK _ rfl rfl rfl rfl (by first | exact .head _ | exact .tail _ (.head _) | exact .tail _ (.tail _ (.head _)) | exact .tail _ (.tail _ (.tail _ (.head _)))) (fun jz vz hz => (congrArg (fun n => ([_, _, _, _, _, _, _, _, _, _] : List Value)[n]?) (Nat.zero_add jz)).trans hz) rfl ?_) | (go_at_call 11; (with_reducible refine (rsameK_any K2 hlB hlS vs3 vb3 vs4 vb4 _ hs3.now hb3.now hs4.now hb4.now).mono ?_); rintro e' wK ⟨rfl, hbb⟩; replace hX := hX.step hbb; replace hs3 := hs3.below hbb; replace hb3 := hb3.below hbb; replace hs4 := hs4.below hbb; replace hb4 := hb4.below hbb; replace hm1 := hm1.below hbb; replace hz1 := hz1.below hbb; replace hm2 := hm2.below hbb; replace hz2 := hz2.below hbb; clear hbb) | (go_at_call 28; (with_reducible refine (rsameI_any m1 u10 u13 _ hlm hm1.now hm2.now).mono ?_); rintro e' wM ⟨rfl, hbb⟩; replace hX := hX.step hbb; replace hs3 := hs3.below hbb; replace hb3 := hb3.below hbb; replace hs4 := hs4.below hbb; replace hb4 := hb4.below hbb; replace hm1 := hm1.below hbb; replace hz1 := hz1.below hbb; replace hm2 := hm2.below hbb; replace hz2 := hz2.below hbb; clear hbb) | (go_at_call 28; (with_reducible refine (rsameI_any B1 u11 u14 _ hlb hz1.now hz2.now).mono ?_); rintro e' wM ⟨rfl, hbb⟩; replace hX := hX.step hbb; replace hs3 := hs3.below hbb; replace hb3 := hb3.below hbb; replace hs4 := hs4.below hbb; replace hb4 := hb4.below hbb; replace hm1 := hm1.below hbb; replace hz1 := hz1.below hbb; replace hm2 := hm2.below hbb; replace hz2 := hz2.below hbb; clear hbb) | ((with_reducible refine at_load ?_); refine wpList_bag_cell hX int_cell _ rfl rfl rfl rfl (by first | exact .head _ | exact .tail _ (.head _) | exact .tail _ (.tail _ (.head _))) rfl ?_) | ((with_reducible refine at_load ?_); refine wpList_bag_cell hX bool_cell _ rfl rfl rfl rfl (by first | exact .head _ | exact .tail _ (.head _) | exact .tail _ (.tail _ (.head _))) rfl ?_))
        exact ⟨⟨k + 1, K2, m1, B1, _, _, _, _, by omega, by go_num, hft, hs3, hb3, hs4, hb4, hm1, hz1, hm2, hz2, hX.sub (.cons_cons _ (.cons_cons _ (.cons _ (.refl _))))⟩, by simp [intOf]; omega⟩
      have hor : (decide (1 ≤ q1) = false) ∨ (decide (1 ≤ q1) = true ∧ decide (q1 ≤ 4) = false) := by
        by_cases h1 : 1 ≤ q1
        · exact .inr ⟨decide_eq_true h1, decide_eq_false (by omega)⟩
        · exact .inl (decide_eq_false h1)
      obtain ⟨A1, c1, rfl, _⟩ := hs1.now.form
      obtain ⟨A2, c2, rfl, _⟩ := hb1.now.form
      obtain ⟨A3, c3, rfl, _⟩ := hs2.now.form
      obtain ⟨A4, c4, rfl, _⟩ := hb2.now.form
      by_cases h5 : q1 = 5
      · subst h5
        have hft := hid (Fit.acc (m := m1) (B := B1) ⟨f1, f2, f3, f4, f5, f6⟩ q2)
        have hA5 := fun w (h : Below W0.heap.size W0 w) hXl h3 h4 => H.acc K1 q2 (.slice A1 K1.D.S.length c1) (.slice A2 K1.D.B.length c2) (X2 Ba Bc) w h f1 hXl h3 h4
        have hAr := fun w => raccK_any K1 q2 A3 K1.D.S.length c3 A4 K1.D.B.length c4 w
        clear hor
        have hs2' : StsX (X2 Ba Bc) wR (.slice A3 K1.D.S.length c3) (K1.acc q2).D.S := by rw [acc_D]; exact hs2
        have hb2' : ItsX (X2 Ba Bc) wR (.slice A4 K1.D.B.length c4) (K1.acc q2).D.B := by rw [acc_D]; exact hb2
        replace hlS : (K1.acc q2).D.S.length ≤ 1099511627776 := by rw [acc_D]; exact hlS
        replace hlB : (K1.acc q2).D.B.length ≤ 1099511627776 := by rw [acc_D]; exact hlB
        clear hs2 hb2 f1 f2 f3 f4 f5 f6 h14 h0 e0
        have hs2 := hs2'
        have hb2 := hb2'
        clear hs2' hb2'
        generalize K1.acc q2 = K2 at *
        go_wp2_with (first | ((with_reducible refine at_load ?_); refine wpList_loadW rfl 48 _ _ _ rfl rfl (hL _ hX.below) ?_) | ((with_reducible refine at_store ?_); refine wpList_bag_overV (cs' := [.int .i64 5, .int .i64 q2]) (hX.new 48 [.int .i64 0, .int .i64 0]) aggO sizO _ _ rfl rfl rfl rfl rfl rfl rfl rfl (by intro u hu; simp at hu; rcases hu with rfl | rfl <;> rfl) ?_; clear hX; intro wx hX hkz; replace hX := hX.perm (List.perm_middle (l₁ := [_, _])).symm; dsimp only [List.cons_append, List.nil_append] at hX; replace hs1 := hs1.off (new_keep hkz) (fun _ _ h => h); replace hb1 := hb1.off (new_keep hkz) (fun _ _ h => h); replace hs2 := hs2.off (new_keep hkz) (fun _ _ h => h); replace hb2 := hb2.off (new_keep hkz) (fun _ _ h => h); replace hm1 := hm1.off (new_keep hkz) (fun _ _ h => h); replace hz1 := hz1.off (new_keep hkz) (fun _ _ h => h); replace hm2 := hm2.off (new_keep hkz) (fun _ _ h => h); replace hz2 := hz2.off (new_keep hkz) (fun _ _ h => h); clear hkz) | ((with_reducible refine at_load ?_); refine wpList_bag_cell hX int_cell _ rfl rfl rfl rfl (by first | exact .head _ | exact .tail _ (.head _) | exact .tail _ (.tail _ (.head _))) rfl ?_) | ((with_reducible refine at_load ?_); refine wpList_bag_cell hX bool_cell _ rfl rfl rfl rfl (by first | exact .head _ | exact .tail _ (.head _) | exact .tail _ (.tail _ (.head _))) rfl ?_))
        replace hX := hX.drew
        replace hs1 := hs1.below (Below.refl _ _).drew
        replace hb1 := hb1.below (Below.refl _ _).drew
        replace hs2 := hs2.below (Below.refl _ _).drew
        replace hb2 := hb2.below (Below.refl _ _).drew
        replace hm1 := hm1.below (Below.refl _ _).drew
        replace hz1 := hz1.below (Below.refl _ _).drew
        replace hm2 := hm2.below (Below.refl _ _).drew
        replace hz2 := hz2.below (Below.refl _ _).drew
        refine region_hoist (fun w' => (Bag [(Ba, 27, [(.slice A1 K1.D.S.length c1), (.slice A2 K1.D.B.length c2), .bool (K1).n, .bool (K1).r, .bool (K1).e, .int .i64 (K1).c, .int .i64 (K1).w, .int .i64 (K1).a, .int .i64 (K1).s, .int .i64 (K1).l]), (Bc, 27, [(.slice A3 K1.D.S.length c3), (.slice A4 K1.D.B.length c4), .bool (K1).n, .bool (K1).r, .bool (K1).e, .int .i64 (K1).c, .int .i64 (K1).w, .int .i64 (K1).a, .int .i64 (K1).s, .int .i64 (K1).l]), (wR.heap.size, 48, [.int .i64 5, .int .i64 q2]), (W0.heap.size, 27, [vs, vb, .bool (K).n, .bool (K).r, .bool (K).e, .int .i64 (K).c, .int .i64 (K).w, .int .i64 (K).a, .int .i64 (K).s, .int .i64 (K).l])] W0) w') 8 [(0, false), (1, false), (2, false), (4, false), (5, false), (6, false), (3, true), (7, true)] (by kernel_rfl) (by kernel_rfl) (fun _ _ dd _ _ h => by cases dd <;> exact h) hX ?_
        refine wpHo_q' rfl rfl (fun KK hKK => ?_)
        apply Exists.intro
        refine ⟨fun wq hq => ?_, hKK _ ?_⟩
        · try dsimp only at hq
          first
            | exact run_load_op 27 _ _ rfl rfl ((hq.all _ _ _ (.head _)).loadAt rfl aggK sizK)
            | exact run_load_op 27 _ _ rfl rfl ((hq.all _ _ _ (.tail _ (.head _))).loadAt rfl aggK sizK)
            | exact run_load_op 3 _ _ rfl rfl ((hq.all _ _ _ (.tail _ (.tail _ (.head _)))).loadCell rfl int_cell)
            | (unfold execOp; go_simp; done)
            | (unfold execOp; go_simp; with_reducible rfl)
        clear hKK KK
        simp only [Act.put, List.setIfInBounds_toArray, List.set_cons_zero, List.set_cons_succ]
        refine wpHo_q' rfl rfl (fun KK hKK => ?_)
        apply Exists.intro
        refine ⟨fun wq hq => ?_, hKK _ ?_⟩
        · try dsimp only at hq
          first
            | exact run_load_op 27 _ _ rfl rfl ((hq.all _ _ _ (.head _)).loadAt rfl aggK sizK)
            | exact run_load_op 27 _ _ rfl rfl ((hq.all _ _ _ (.tail _ (.head _))).loadAt rfl aggK sizK)
            | exact run_load_op 3 _ _ rfl rfl ((hq.all _ _ _ (.tail _ (.tail _ (.head _)))).loadCell rfl int_cell)
            | (unfold execOp; go_simp; done)
            | (unfold execOp; go_simp; with_reducible rfl)
        clear hKK KK
        simp only [Act.put, List.setIfInBounds_toArray, List.set_cons_zero, List.set_cons_succ]
        refine wpHo_q' rfl rfl (fun KK hKK => ?_)
        apply Exists.intro
        refine ⟨fun wq hq => ?_, hKK _ ?_⟩
        · try dsimp only at hq
          first
            | exact run_load_op 27 _ _ rfl rfl ((hq.all _ _ _ (.head _)).loadAt rfl aggK sizK)
            | exact run_load_op 27 _ _ rfl rfl ((hq.all _ _ _ (.tail _ (.head _))).loadAt rfl aggK sizK)
            | exact run_load_op 3 _ _ rfl rfl ((hq.all _ _ _ (.tail _ (.tail _ (.head _)))).loadCell rfl int_cell)
            | (unfold execOp; go_simp; done)
            | (unfold execOp; go_simp; with_reducible rfl)
        clear hKK KK
        simp only [Act.put, List.setIfInBounds_toArray, List.set_cons_zero, List.set_cons_succ]
        refine wpHo_q' rfl rfl (fun KK hKK => ?_)
        apply Exists.intro
        refine ⟨fun wq hq => ?_, hKK _ ?_⟩
        · try dsimp only at hq
          first
            | exact run_load_op 27 _ _ rfl rfl ((hq.all _ _ _ (.head _)).loadAt rfl aggK sizK)
            | exact run_load_op 27 _ _ rfl rfl ((hq.all _ _ _ (.tail _ (.head _))).loadAt rfl aggK sizK)
            | exact run_load_op 3 _ _ rfl rfl ((hq.all _ _ _ (.tail _ (.tail _ (.head _)))).loadCell rfl int_cell)
            | (unfold execOp; go_simp; done)
            | (unfold execOp; go_simp; with_reducible rfl)
        clear hKK KK
        simp only [Act.put, List.setIfInBounds_toArray, List.set_cons_zero, List.set_cons_succ]
        refine wpHo_q' rfl rfl (fun KK hKK => ?_)
        apply Exists.intro
        refine ⟨fun wq hq => ?_, hKK _ ?_⟩
        · try dsimp only at hq
          first
            | exact run_load_op 27 _ _ rfl rfl ((hq.all _ _ _ (.head _)).loadAt rfl aggK sizK)
            | exact run_load_op 27 _ _ rfl rfl ((hq.all _ _ _ (.tail _ (.head _))).loadAt rfl aggK sizK)
            | exact run_load_op 3 _ _ rfl rfl ((hq.all _ _ _ (.tail _ (.tail _ (.head _)))).loadCell rfl int_cell)
            | (unfold execOp; go_simp; done)
            | (unfold execOp; go_simp; with_reducible rfl)
        clear hKK KK
        simp only [Act.put, List.setIfInBounds_toArray, List.set_cons_zero, List.set_cons_succ]
        refine wpHo_q' rfl rfl (fun KK hKK => ?_)
        apply Exists.intro
        refine ⟨fun wq hq => ?_, hKK _ ?_⟩
        · try dsimp only at hq
          first
            | exact run_load_op 27 _ _ rfl rfl ((hq.all _ _ _ (.head _)).loadAt rfl aggK sizK)
            | exact run_load_op 27 _ _ rfl rfl ((hq.all _ _ _ (.tail _ (.head _))).loadAt rfl aggK sizK)
            | exact run_load_op 3 _ _ rfl rfl ((hq.all _ _ _ (.tail _ (.tail _ (.head _)))).loadCell rfl int_cell)
            | (unfold execOp; go_simp; done)
            | (unfold execOp; go_simp; with_reducible rfl)
        clear hKK KK
        simp only [Act.put, List.setIfInBounds_toArray, List.set_cons_zero, List.set_cons_succ]
        refine wpHo_call rfl rfl (fun KK hKK => ?_)
        unfold Oper.semiAt
        go_simp
        simp only [semiUpon]
        refine ⟨trivial, ?_⟩
        refine (hA5 _ hX.below (x2_lt hX) hs1 hb1).mono ?_
        rintro e' wT ⟨x, rfl, ⟨vs5, vb5, rfl, hs5, hb5⟩, hbb⟩
        refine ⟨_, rfl, hKK _ _ (hX.step hbb) ?_⟩
        clear hKK KK
        replace hX := hX.step hbb
        replace hs2 := hs2.below hbb
        replace hb2 := hb2.below hbb
        replace hm1 := hm1.below hbb
        replace hz1 := hz1.below hbb
        replace hm2 := hm2.below hbb
        replace hz2 := hz2.below hbb
        clear hbb hs1 hb1
        simp only [Act.put, List.setIfInBounds_toArray, List.set_cons_zero, List.set_cons_succ]
        refine wpHo_call rfl rfl (fun KK hKK => ?_)
        unfold Oper.semiAt
        go_simp
        simp only [semiUpon]
        refine ⟨trivial, ?_⟩
        refine (hAr _).mono ?_
        rintro e' wU ⟨rfl, hbb⟩
        refine ⟨_, rfl, hKK _ _ (hX.step hbb) ?_⟩
        clear hKK KK
        replace hX := hX.step hbb
        replace hs5 := hs5.below hbb
        replace hb5 := hb5.below hbb
        replace hs2 := hs2.below hbb
        replace hb2 := hb2.below hbb
        replace hm1 := hm1.below hbb
        replace hz1 := hz1.below hbb
        replace hm2 := hm2.below hbb
        replace hz2 := hz2.below hbb
        clear hbb
        simp only [Act.put, List.setIfInBounds_toArray, List.set_cons_zero, List.set_cons_succ]
        refine wpHo_nil ?_
        simp only [List.drop_succ_cons, List.drop_zero]
        go_wp2_with (first | ((with_reducible refine at_store ?_); refine wpList_bag_overV (cs' := [vs5, vb5, .bool (K2).n, .bool (K2).r, .bool (K2).e, .int .i64 (K2).c, .int .i64 (K2).w, .int .i64 (K2).a, .int .i64 (K2).s, .int .i64 (K2).l]) hX aggK sizK _ _ rfl rfl rfl rfl rfl rfl rfl rfl (one_dk (sts_one hs5.now) (its_one hb5.now) _ _ _ _ _ _ _ _) ?_; clear hX; intro wz hX hkz; replace hs5 := hs5.over hkz (.inl rfl); replace hb5 := hb5.over hkz (.inl rfl); replace hm1 := hm1.over hkz (.inl rfl); replace hz1 := hz1.over hkz (.inl rfl); replace hm2 := hm2.over hkz (.inl rfl); replace hz2 := hz2.over hkz (.inl rfl); replace hs2 := hs2.over hkz (.inl rfl); replace hb2 := hb2.over hkz (.inl rfl); clear hkz) | ((with_reducible refine at_store ?_); refine wpList_bag_overV (cs' := [(.slice A3 K1.D.S.length c3), (.slice A4 K1.D.B.length c4), .bool (K2).n, .bool (K2).r, .bool (K2).e, .int .i64 (K2).c, .int .i64 (K2).w, .int .i64 (K2).a, .int .i64 (K2).s, .int .i64 (K2).l]) hX.swap aggK sizK _ _ rfl rfl rfl rfl rfl rfl rfl rfl (one_dk (sts_one hs2.now) (its_one hb2.now) _ _ _ _ _ _ _ _) ?_; clear hX; intro wy hX hkz; replace hX := hX.swap; replace hs5 := hs5.over hkz (.inr rfl); replace hb5 := hb5.over hkz (.inr rfl); replace hm1 := hm1.over hkz (.inr rfl); replace hz1 := hz1.over hkz (.inr rfl); replace hm2 := hm2.over hkz (.inr rfl); replace hz2 := hz2.over hkz (.inr rfl); replace hs2 := hs2.over hkz (.inr rfl); replace hb2 := hb2.over hkz (.inr rfl); clear hkz) | ((with_reducible refine at_load ?_); refine wpList_bag_part (k := 0) hX aggK sizK _ rfl rfl rfl rfl (by first | exact .head _ | exact .tail _ (.head _) | exact .tail _ (.tail _ (.head _)) | exact .tail _ (.tail _ (.tail _ (.head _)))) (fun jz vz hz => (congrArg (fun n => ([_, _, _, _, _, _, _, _, _, _] : List Value)[n]?) (Nat.zero_add jz)).trans hz) rfl ?_) | (go_at_call 11; (with_reducible refine (rsameK_any K2 hlB hlS vs5 vb5 (.slice A3 K1.D.S.length c3) (.slice A4 K1.D.B.length c4) _ hs5.now hb5.now hs2.now hb2.now).mono ?_); rintro e' wK ⟨rfl, hbb⟩; replace hX := hX.step hbb; replace hs5 := hs5.below hbb; replace hb5 := hb5.below hbb; replace hs2 := hs2.below hbb; replace hb2 := hb2.below hbb; replace hm1 := hm1.below hbb; replace hz1 := hz1.below hbb; replace hm2 := hm2.below hbb; replace hz2 := hz2.below hbb; clear hbb) | (go_at_call 28; (with_reducible refine (rsameI_any m1 u10 u13 _ hlm hm1.now hm2.now).mono ?_); rintro e' wM ⟨rfl, hbb⟩; replace hX := hX.step hbb; replace hs5 := hs5.below hbb; replace hb5 := hb5.below hbb; replace hs2 := hs2.below hbb; replace hb2 := hb2.below hbb; replace hm1 := hm1.below hbb; replace hz1 := hz1.below hbb; replace hm2 := hm2.below hbb; replace hz2 := hz2.below hbb; clear hbb) | (go_at_call 28; (with_reducible refine (rsameI_any B1 u11 u14 _ hlb hz1.now hz2.now).mono ?_); rintro e' wM ⟨rfl, hbb⟩; replace hX := hX.step hbb; replace hs5 := hs5.below hbb; replace hb5 := hb5.below hbb; replace hs2 := hs2.below hbb; replace hb2 := hb2.below hbb; replace hm1 := hm1.below hbb; replace hz1 := hz1.below hbb; replace hm2 := hm2.below hbb; replace hz2 := hz2.below hbb; clear hbb) | ((with_reducible refine at_load ?_); refine wpList_bag_cell hX int_cell _ rfl rfl rfl rfl (by first | exact .head _ | exact .tail _ (.head _) | exact .tail _ (.tail _ (.head _))) rfl ?_) | ((with_reducible refine at_load ?_); refine wpList_bag_cell hX bool_cell _ rfl rfl rfl rfl (by first | exact .head _ | exact .tail _ (.head _) | exact .tail _ (.tail _ (.head _))) rfl ?_))
        exact ⟨⟨k + 1, K2, m1, B1, _, _, _, _, by omega, by go_num, hft, hs5, hb5, hs2, hb2, hm1, hz1, hm2, hz2, hX.sub (.cons_cons _ (.cons_cons _ (.cons _ (.refl _))))⟩, by simp [intOf]; omega⟩
      have e5 : (q1 == 5) = false := by simpa using h5
      have hft := hid (Fit.reset (K := K1) (m := m1) (B := B1) ⟨f1, f2, f3, f4, f5, f6⟩)
      have hA5 := fun w (h : Below W0.heap.size W0 w) hXl h3 h4 => H.reset K1 (.slice A1 K1.D.S.length c1) (.slice A2 K1.D.B.length c2) (X2 Ba Bc) w h f1 hXl h3 h4
      have hAr := fun w => rresetK_any K1 A3 K1.D.S.length c3 A4 K1.D.B.length c4 w
      replace hlS : K1.reset.D.S.length ≤ 1099511627776 := hlS
      replace hlB : K1.reset.D.B.length ≤ 1099511627776 := hlB
      have hs2' : StsX (X2 Ba Bc) wR (.slice A3 K1.D.S.length c3) K1.reset.D.S := hs2
      have hb2' : ItsX (X2 Ba Bc) wR (.slice A4 K1.D.B.length c4) K1.reset.D.B := hb2
      clear hs2 hb2 f1 f2 f3 f4 f5 f6 h14 h0 h5
      have hs2 := hs2'
      have hb2 := hb2'
      clear hs2' hb2'
      generalize K1.reset = K2 at *
      rcases hor with d1 | ⟨d1, d2⟩
      all_goals
        go_wp2_with (first | ((with_reducible refine at_load ?_); refine wpList_loadW rfl 48 _ _ _ rfl rfl (hL _ hX.below) ?_) | ((with_reducible refine at_store ?_); refine wpList_bag_overV (cs' := [.int .i64 q1, .int .i64 q2]) (hX.new 48 [.int .i64 0, .int .i64 0]) aggO sizO _ _ rfl rfl rfl rfl rfl rfl rfl rfl (by intro u hu; simp at hu; rcases hu with rfl | rfl <;> rfl) ?_; clear hX; intro wx hX hkz; replace hX := hX.perm (List.perm_middle (l₁ := [_, _])).symm; dsimp only [List.cons_append, List.nil_append] at hX; replace hs1 := hs1.off (new_keep hkz) (fun _ _ h => h); replace hb1 := hb1.off (new_keep hkz) (fun _ _ h => h); replace hs2 := hs2.off (new_keep hkz) (fun _ _ h => h); replace hb2 := hb2.off (new_keep hkz) (fun _ _ h => h); replace hm1 := hm1.off (new_keep hkz) (fun _ _ h => h); replace hz1 := hz1.off (new_keep hkz) (fun _ _ h => h); replace hm2 := hm2.off (new_keep hkz) (fun _ _ h => h); replace hz2 := hz2.off (new_keep hkz) (fun _ _ h => h); clear hkz) | ((with_reducible refine at_load ?_); refine wpList_bag_cell hX int_cell _ rfl rfl rfl rfl (by first | exact .head _ | exact .tail _ (.head _) | exact .tail _ (.tail _ (.head _))) rfl ?_) | ((with_reducible refine at_load ?_); refine wpList_bag_cell hX bool_cell _ rfl rfl rfl rfl (by first | exact .head _ | exact .tail _ (.head _) | exact .tail _ (.tail _ (.head _))) rfl ?_))
        replace hX := hX.drew
        replace hs1 := hs1.below (Below.refl _ _).drew
        replace hb1 := hb1.below (Below.refl _ _).drew
        replace hs2 := hs2.below (Below.refl _ _).drew
        replace hb2 := hb2.below (Below.refl _ _).drew
        replace hm1 := hm1.below (Below.refl _ _).drew
        replace hz1 := hz1.below (Below.refl _ _).drew
        replace hm2 := hm2.below (Below.refl _ _).drew
        replace hz2 := hz2.below (Below.refl _ _).drew
        refine region_hoist (fun w' => (Bag [(Ba, 27, [(.slice A1 K1.D.S.length c1), (.slice A2 K1.D.B.length c2), .bool (K1).n, .bool (K1).r, .bool (K1).e, .int .i64 (K1).c, .int .i64 (K1).w, .int .i64 (K1).a, .int .i64 (K1).s, .int .i64 (K1).l]), (Bc, 27, [(.slice A3 K1.D.S.length c3), (.slice A4 K1.D.B.length c4), .bool (K1).n, .bool (K1).r, .bool (K1).e, .int .i64 (K1).c, .int .i64 (K1).w, .int .i64 (K1).a, .int .i64 (K1).s, .int .i64 (K1).l]), (wR.heap.size, 48, [.int .i64 q1, .int .i64 q2]), (W0.heap.size, 27, [vs, vb, .bool (K).n, .bool (K).r, .bool (K).e, .int .i64 (K).c, .int .i64 (K).w, .int .i64 (K).a, .int .i64 (K).s, .int .i64 (K).l])] W0) w') 4 [(0, false), (2, false), (1, true), (3, true)] (by kernel_rfl) (by kernel_rfl) (fun _ _ dd _ _ h => by cases dd <;> exact h) hX ?_
        refine wpHo_q' rfl rfl (fun KK hKK => ?_)
        apply Exists.intro
        refine ⟨fun wq hq => ?_, hKK _ ?_⟩
        · try dsimp only at hq
          first
            | exact run_load_op 27 _ _ rfl rfl ((hq.all _ _ _ (.head _)).loadAt rfl aggK sizK)
            | exact run_load_op 27 _ _ rfl rfl ((hq.all _ _ _ (.tail _ (.head _))).loadAt rfl aggK sizK)
            | exact run_load_op 3 _ _ rfl rfl ((hq.all _ _ _ (.tail _ (.tail _ (.head _)))).loadCell rfl int_cell)
            | (unfold execOp; go_simp; done)
            | (unfold execOp; go_simp; with_reducible rfl)
        clear hKK KK
        simp only [Act.put, List.setIfInBounds_toArray, List.set_cons_zero, List.set_cons_succ]
        refine wpHo_q' rfl rfl (fun KK hKK => ?_)
        apply Exists.intro
        refine ⟨fun wq hq => ?_, hKK _ ?_⟩
        · try dsimp only at hq
          first
            | exact run_load_op 27 _ _ rfl rfl ((hq.all _ _ _ (.head _)).loadAt rfl aggK sizK)
            | exact run_load_op 27 _ _ rfl rfl ((hq.all _ _ _ (.tail _ (.head _))).loadAt rfl aggK sizK)
            | exact run_load_op 3 _ _ rfl rfl ((hq.all _ _ _ (.tail _ (.tail _ (.head _)))).loadCell rfl int_cell)
            | (unfold execOp; go_simp; done)
            | (unfold execOp; go_simp; with_reducible rfl)
        clear hKK KK
        simp only [Act.put, List.setIfInBounds_toArray, List.set_cons_zero, List.set_cons_succ]
        refine wpHo_call rfl rfl (fun KK hKK => ?_)
        unfold Oper.semiAt
        go_simp
        simp only [semiUpon]
        refine ⟨trivial, ?_⟩
        refine (hA5 _ hX.below (x2_lt hX) hs1 hb1).mono ?_
        rintro e' wT ⟨x, rfl, ⟨vs5, vb5, rfl, hs5, hb5⟩, hbb⟩
        refine ⟨_, rfl, hKK _ _ (hX.step hbb) ?_⟩
        clear hKK KK
        replace hX := hX.step hbb
        replace hs2 := hs2.below hbb
        replace hb2 := hb2.below hbb
        replace hm1 := hm1.below hbb
        replace hz1 := hz1.below hbb
        replace hm2 := hm2.below hbb
        replace hz2 := hz2.below hbb
        clear hbb hs1 hb1
        simp only [Act.put, List.setIfInBounds_toArray, List.set_cons_zero, List.set_cons_succ]
        refine wpHo_call rfl rfl (fun KK hKK => ?_)
        unfold Oper.semiAt
        go_simp
        simp only [semiUpon]
        refine ⟨trivial, ?_⟩
        refine (hAr _).mono ?_
        rintro e' wU ⟨rfl, hbb⟩
        refine ⟨_, rfl, hKK _ _ (hX.step hbb) ?_⟩
        clear hKK KK
        replace hX := hX.step hbb
        replace hs5 := hs5.below hbb
        replace hb5 := hb5.below hbb
        replace hs2 := hs2.below hbb
        replace hb2 := hb2.below hbb
        replace hm1 := hm1.below hbb
        replace hz1 := hz1.below hbb
        replace hm2 := hm2.below hbb
        replace hz2 := hz2.below hbb
        clear hbb
        simp only [Act.put, List.setIfInBounds_toArray, List.set_cons_zero, List.set_cons_succ]
        refine wpHo_nil ?_
        simp only [List.drop_succ_cons, List.drop_zero]
        go_wp2_with (first | ((with_reducible refine at_store ?_); refine wpList_bag_overV (cs' := [vs5, vb5, .bool (K2).n, .bool (K2).r, .bool (K2).e, .int .i64 (K2).c, .int .i64 (K2).w, .int .i64 (K2).a, .int .i64 (K2).s, .int .i64 (K2).l]) hX aggK sizK _ _ rfl rfl rfl rfl rfl rfl rfl rfl (one_dk (sts_one hs5.now) (its_one hb5.now) _ _ _ _ _ _ _ _) ?_; clear hX; intro wz hX hkz; replace hs5 := hs5.over hkz (.inl rfl); replace hb5 := hb5.over hkz (.inl rfl); replace hm1 := hm1.over hkz (.inl rfl); replace hz1 := hz1.over hkz (.inl rfl); replace hm2 := hm2.over hkz (.inl rfl); replace hz2 := hz2.over hkz (.inl rfl); replace hs2 := hs2.over hkz (.inl rfl); replace hb2 := hb2.over hkz (.inl rfl); clear hkz) | ((with_reducible refine at_store ?_); refine wpList_bag_overV (cs' := [(.slice A3 K1.D.S.length c3), (.slice A4 K1.D.B.length c4), .bool (K2).n, .bool (K2).r, .bool (K2).e, .int .i64 (K2).c, .int .i64 (K2).w, .int .i64 (K2).a, .int .i64 (K2).s, .int .i64 (K2).l]) hX.swap aggK sizK _ _ rfl rfl rfl rfl rfl rfl rfl rfl (one_dk (sts_one hs2.now) (its_one hb2.now) _ _ _ _ _ _ _ _) ?_; clear hX; intro wy hX hkz; replace hX := hX.swap; replace hs5 := hs5.over hkz (.inr rfl); replace hb5 := hb5.over hkz (.inr rfl); replace hm1 := hm1.over hkz (.inr rfl); replace hz1 := hz1.over hkz (.inr rfl); replace hm2 := hm2.over hkz (.inr rfl); replace hz2 := hz2.over hkz (.inr rfl); replace hs2 := hs2.over hkz (.inr rfl); replace hb2 := hb2.over hkz (.inr rfl); clear hkz) | ((with_reducible refine at_load ?_); refine wpList_bag_part (k := 0) hX aggK sizK _ rfl rfl rfl rfl (by first | exact .head _ | exact .tail _ (.head _) | exact .tail _ (.tail _ (.head _)) | exact .tail _ (.tail _ (.tail _ (.head _)))) (fun jz vz hz => (congrArg (fun n => ([_, _, _, _, _, _, _, _, _, _] : List Value)[n]?) (Nat.zero_add jz)).trans hz) rfl ?_) | (go_at_call 11; (with_reducible refine (rsameK_any K2 hlB hlS vs5 vb5 (.slice A3 K1.D.S.length c3) (.slice A4 K1.D.B.length c4) _ hs5.now hb5.now hs2.now hb2.now).mono ?_); rintro e' wK ⟨rfl, hbb⟩; replace hX := hX.step hbb; replace hs5 := hs5.below hbb; replace hb5 := hb5.below hbb; replace hs2 := hs2.below hbb; replace hb2 := hb2.below hbb; replace hm1 := hm1.below hbb; replace hz1 := hz1.below hbb; replace hm2 := hm2.below hbb; replace hz2 := hz2.below hbb; clear hbb) | (go_at_call 28; (with_reducible refine (rsameI_any m1 u10 u13 _ hlm hm1.now hm2.now).mono ?_); rintro e' wM ⟨rfl, hbb⟩; replace hX := hX.step hbb; replace hs5 := hs5.below hbb; replace hb5 := hb5.below hbb; replace hs2 := hs2.below hbb; replace hb2 := hb2.below hbb; replace hm1 := hm1.below hbb; replace hz1 := hz1.below hbb; replace hm2 := hm2.below hbb; replace hz2 := hz2.below hbb; clear hbb) | (go_at_call 28; (with_reducible refine (rsameI_any B1 u11 u14 _ hlb hz1.now hz2.now).mono ?_); rintro e' wM ⟨rfl, hbb⟩; replace hX := hX.step hbb; replace hs5 := hs5.below hbb; replace hb5 := hb5.below hbb; replace hs2 := hs2.below hbb; replace hb2 := hb2.below hbb; replace hm1 := hm1.below hbb; replace hz1 := hz1.below hbb; replace hm2 := hm2.below hbb; replace hz2 := hz2.below hbb; clear hbb) | ((with_reducible refine at_load ?_); refine wpList_bag_cell hX int_cell _ rfl rfl rfl rfl (by first | exact .head _ | exact .tail _ (.head _) | exact .tail _ (.tail _ (.head _))) rfl ?_) | ((with_reducible refine at_load ?_); refine wpList_bag_cell hX bool_cell _ rfl rfl rfl rfl (by first | exact .head _ | exact .tail _ (.head _) | exact .tail _ (.tail _ (.head _))) rfl ?_))
        exact ⟨⟨k + 1, K2, m1, B1, _, _, _, _, by omega, by go_num, hft, hs5, hb5, hs2, hb2, hm1, hz1, hm2, hz2, hX.sub (.cons_cons _ (.cons_cons _ (.cons _ (.refl _))))⟩, by simp [intOf]; omega⟩
    have hki : ¬ (k : Int) < (l.length : Int) := by omega
    go_wp2_with (first | (go_at_call 8; (with_reducible refine (alive_true _ (H.step hX.below)).mono ?_); rintro e' wL ⟨rfl, hbb⟩; replace hX := hX.step hbb; clear hbb))
    go_ret
    exact ⟨rfl, hX.below⟩
end Go.Proofs.Ytjolhlfjpnlcnaa
