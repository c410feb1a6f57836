import Derived.Test.YtjolhlfjpnlcnaaOR
/-
  DiskctlIdle. Condition: the contracts.
-/
namespace Go.Proofs.Ytjolhlfjpnlcnaa
open Go.RowKit
set_option linter.unusedSimpArgs false
set_option linter.unusedVariables false
set_option maxHeartbeats 4000000
set_option maxRecDepth 100000
attribute [local irreducible] wpQuiet

theorem its_arg {X : Nat → Prop} {W0 w : World} {v : Value} {l : List Int} (h : Its W0 v l) (hb : Below W0.heap.size W0 w) (hX : ∀ b, b < W0.heap.size → ¬ X b) : ItsX X w v l := fun w' hk => Its.sv h w' (fun b hb' _ => (hk b (Nat.lt_of_lt_of_le hb' hb.size) (hX b hb')).trans (hb.block b hb'))
theorem sts_arg {X : Nat → Prop} {W0 w : World} {v : Value} {l : List ByteArray} (h : Sts W0 v l) (hb : Below W0.heap.size W0 w) (hX : ∀ b, b < W0.heap.size → ¬ X b) : StsX X w v l := fun w' hk => Sts.sv h w' (fun b hb' _ => (hk b (Nat.lt_of_lt_of_le hb' hb.size) (hX b hb')).trans (hb.block b hb'))
theorem xb_arg {N M : Nat} (h : N ≤ M) : ∀ b, b < N → ¬ XB M b := fun b h1 h2 => by unfold XB at h2; omega
theorem tick_idle (K : Dk) (m B : List Int) : K.reset.tick m B = (K.reset, m, B) := if_pos rfl
theorem DiskctlIdle_law (W0 : World) (H : DkC W0) (K : Dk) (m B : List Int) (n : Int) (hn : 0 ≤ n ∧ n ≤ 255) (vs vb vm vz : Value) (hs : Sts W0 vs K.D.S) (hb : Its W0 vb K.D.B) (hvm : Its W0 vm m) (hvz : Its W0 vz B) : Calls Try.prog 7 #[.agg #[vs, vb, .bool (K).n, .bool (K).r, .bool (K).e, .int .i64 (K).c, .int .i64 (K).w, .int .i64 (K).a, .int .i64 (K).s, .int .i64 (K).l], vm, vz, .int .u8 n] W0 fun e' w' => e' = .returned (.bool true) ∧ Below W0.heap.size W0 w' := by
  have hF : ∀ w, Below W0.heap.size W0 w → Calls Try.prog 25 #[.agg #[vs, vb, .bool (K).n, .bool (K).r, .bool (K).e, .int .i64 (K).c, .int .i64 (K).w, .int .i64 (K).a, .int .i64 (K).s, .int .i64 (K).l], vm, vz] w fun e' w' => e' = .returned (.bool (fewV K m B)) ∧ Below w.heap.size w w' := fun w h => few_any K m B vs vb vm vz w (Rz.below hs h) (Rz.below hb h) (Rz.below hvm h) (Rz.below hvz h)
  have hX := (Bag.nil W0).new 27 [vs, vb, .bool (K).n, .bool (K).r, .bool (K).e, .int .i64 (K).c, .int .i64 (K).w, .int .i64 (K).a, .int .i64 (K).s, .int .i64 (K).l]
  cases hf : fewV K m B
  · rw [hf] at hF
    go_enter Try.func7, Try.ntmps7
    go_wp2_with (first | ((with_reducible refine at_load ?_); refine wpList_bag_part (k := 0) hX aggK sizK _ rfl rfl rfl rfl (by first | exact .head _) (fun jz vz hz => (congrArg (fun n => ([_, _, _, _, _, _, _, _, _, _] : List Value)[n]?) (Nat.zero_add jz)).trans hz) rfl ?_) | (go_at_call 25; (with_reducible refine (hF _ hX.below).mono ?_); rintro e' wF ⟨rfl, hbb⟩; replace hX := hX.step hbb; clear hbb) | (go_at_call 8; (with_reducible refine (alive_true _ (H.step hX.below)).mono ?_); rintro e' wL ⟨rfl, hbb⟩; replace hX := hX.step hbb; clear hbb))
    go_ret
    exact ⟨rfl, hX.below⟩
  rw [hf] at hF
  obtain ⟨h1, h2, h3, h4, hR, hM⟩ := (fewV_iff K m B).1 hf
  have hlS : K.reset.D.S.length ≤ 1099511627776 := by show K.D.S.length ≤ _; omega
  have hlB : K.reset.D.B.length ≤ 1099511627776 := by show K.D.B.length ≤ _; omega
  have hlm : m.length ≤ 1099511627776 := by omega
  have hlb : B.length ≤ 1099511627776 := by omega
  have hRr := resetK_right hR
  have hs0 : StsX (XB W0.heap.size) (W0.alloc (.cells ([vs, vb, .bool (K).n, .bool (K).r, .bool (K).e, .int .i64 (K).c, .int .i64 (K).w, .int .i64 (K).a, .int .i64 (K).s, .int .i64 (K).l] : List Value).toArray 27)) vs K.D.S := (Sts.sv hs).weak ((Below.refl _ _).alloc (Nat.le_refl _) _) xb_new
  have hb0 : ItsX (XB W0.heap.size) (W0.alloc (.cells ([vs, vb, .bool (K).n, .bool (K).r, .bool (K).e, .int .i64 (K).c, .int .i64 (K).w, .int .i64 (K).a, .int .i64 (K).s, .int .i64 (K).l] : List Value).toArray 27)) vb K.D.B := (Its.sv hb).weak ((Below.refl _ _).alloc (Nat.le_refl _) _) xb_new
  have hT : ∀ vs vb vm vz (X : Nat → Prop) w, Below W0.heap.size W0 w → (∀ b, X b → b < w.heap.size) → StsX X w vs K.reset.D.S → ItsX X w vb K.reset.D.B → ItsX X w vm m → ItsX X w vz B → Calls Try.prog 26 #[.agg #[vs, vb, .bool (K.reset).n, .bool (K.reset).r, .bool (K.reset).e, .int .i64 (K.reset).c, .int .i64 (K.reset).w, .int .i64 (K.reset).a, .int .i64 (K.reset).s, .int .i64 (K.reset).l], vm, vz] w fun e' w' => ∃ x y z, e' = .returned (.tuple #[x, y, z]) ∧ DkX X w' x K.reset ∧ ItsX X w' y m ∧ ItsX X w' z B ∧ Below w.heap.size w w' := fun vs vb vm vz X w h1 h2 h3 h4 h5 h6 => by
    have h := H.tick K.reset m B vs vb vm vz X w h1 hRr hM h2 h3 h4 h5 h6
    unfold TickSays at h
    rw [tick_idle] at h
    exact h
  obtain ⟨N, hN, hN20⟩ : ∃ N : Nat, n.tmod 20 = (N : Int) ∧ N < 20 := ⟨(n % 20).toNat, by rw [Int.tmod_eq_emod_of_nonneg hn.1]; omega, by omega⟩
  have hNw : IntKind.u8.wrap (N : Int) = N := by rw [IntKind.wrap_u8]; omega
  have hsB : ∀ {w : World}, Below W0.heap.size W0 w → Its w vm m := fun h => Rz.below hvm h
  have hzB : ∀ {w : World}, Below W0.heap.size W0 w → Its w vz B := fun h => Rz.below hvz h
  clear hf h1 h2 h3 h4 hs hb hn
  go_enter Try.func7, Try.ntmps7
  go_wp2_with (first | ((with_reducible refine at_load ?_); refine wpList_bag_part (k := 0) hX aggK sizK _ rfl rfl rfl rfl (by first | exact .head _ | exact .tail _ (.head _)) (fun jz vz hz => (congrArg (fun n => ([_, _, _, _, _, _, _, _, _, _] : List Value)[n]?) (Nat.zero_add jz)).trans hz) rfl ?_) | (go_at_call 25; (with_reducible refine (hF _ hX.below).mono ?_); rintro e' wF ⟨rfl, hbb⟩; replace hX := hX.step hbb; replace hs0 := hs0.below hbb; replace hb0 := hb0.below hbb; clear hbb) | (go_at_call 18; (with_reducible refine (H.reset K vs vb _ _ hX.below hR (xb_lt hX) hs0 hb0).mono ?_); rintro e' wR ⟨x, rfl, ⟨vs1, vb1, rfl, hs1, hb1⟩, hbb⟩; replace hX := hX.step hbb; clear hbb hs0 hb0) | ((with_reducible refine at_store ?_); refine wpList_bag_overV (cs' := [vs1, vb1, .bool (K.reset).n, .bool (K.reset).r, .bool (K.reset).e, .int .i64 (K.reset).c, .int .i64 (K.reset).w, .int .i64 (K.reset).a, .int .i64 (K.reset).s, .int .i64 (K.reset).l]) hX aggK sizK _ _ rfl rfl rfl rfl rfl rfl rfl rfl (one_dk (sts_one hs1.now) (its_one hb1.now) _ _ _ _ _ _ _ _) ?_; clear hX; intro wz hX hkz; replace hs1 := hs1.over hkz rfl; replace hb1 := hb1.over hkz rfl; clear hkz) | ((with_reducible refine at_store ?_); refine wpList_bag_overV (cs' := [vs1, vb1, .bool (K.reset).n, .bool (K.reset).r, .bool (K.reset).e, .int .i64 (K.reset).c, .int .i64 (K.reset).w, .int .i64 (K.reset).a, .int .i64 (K.reset).s, .int .i64 (K.reset).l]) (hX.new 27 [.slice none 0 0, .slice none 0 0, .bool false, .bool false, .bool false, .int .i64 0, .int .i64 0, .int .i64 0, .int .i64 0, .int .i64 0]) aggK sizK _ _ rfl rfl rfl rfl rfl rfl rfl rfl (one_dk (sts_one hs1.now) (its_one hb1.now) _ _ _ _ _ _ _ _) ?_; clear hX; intro wy hX hkz; replace hs1 := ((hs1.weak ((Below.refl _ _).alloc (Nat.le_refl _) (.cells ([.slice none 0 0, .slice none 0 0, .bool false, .bool false, .bool false, .int .i64 0, .int .i64 0, .int .i64 0, .int .i64 0, .int .i64 0] : List Value).toArray 27)) xb_new : StsX (XB wz.heap.size) _ _ _)).over hkz rfl; replace hb1 := ((hb1.weak ((Below.refl _ _).alloc (Nat.le_refl _) (.cells ([.slice none 0 0, .slice none 0 0, .bool false, .bool false, .bool false, .int .i64 0, .int .i64 0, .int .i64 0, .int .i64 0, .int .i64 0] : List Value).toArray 27)) xb_new : ItsX (XB wz.heap.size) _ _ _)).over hkz rfl; clear hkz))
  have hN1 := hX.lo _ (.head _)
  have hm1 := its_arg hvm hX.below (xb_arg hN1)
  have hz1 := its_arg hvz hX.below (xb_arg hN1)
  have hs2 := hs1
  have hb2 := hb1
  go_loopw [25, 10, 11] (fun iv vm2 vz2 wr => ∃ (k : Nat) (vs2 vb2 : Value), k ≤ N ∧ iv = .int .u8 k ∧ StsX (XB wz.heap.size) wr vs2 K.reset.D.S ∧ ItsX (XB wz.heap.size) wr vb2 K.reset.D.B ∧ ItsX (XB wz.heap.size) wr vm2 m ∧ ItsX (XB wz.heap.size) wr vz2 B ∧ StsX (XB wz.heap.size) wr vs1 K.reset.D.S ∧ ItsX (XB wz.heap.size) wr vb1 K.reset.D.B ∧ Bag [(wz.heap.size, 27, [vs2, vb2, .bool (K.reset).n, .bool (K.reset).r, .bool (K.reset).e, .int .i64 (K.reset).c, .int .i64 (K.reset).w, .int .i64 (K.reset).a, .int .i64 (K.reset).s, .int .i64 (K.reset).l]), (W0.heap.size, 27, [vs1, vb1, .bool (K.reset).n, .bool (K.reset).r, .bool (K.reset).e, .int .i64 (K.reset).c, .int .i64 (K.reset).w, .int .i64 (K.reset).a, .int .i64 (K.reset).s, .int .i64 (K.reset).l])] W0 wr) (fun iv _ _ _ => N - (intOf iv).toNat)
  case atStart => exact ⟨0, _, _, Nat.zero_le _, rfl, hs2, hb2, hm1, hz1, hs1, hb1, hX⟩
  case round =>
    clear hX hs2 hb2 hs1 hb1 hm1 hz1
    obtain ⟨k, vs2, vb2, hk, rfl, hs2, hb2, hm, hz, hs1, hb1, hX⟩ := hrel
    by_cases hkN : k < N
    · have hki : (k : Int) < N := by omega
      have hw1 : IntKind.u8.wrap ((k : Int) + 1) = (k : Int) + 1 := by rw [IntKind.wrap_u8]; omega
      go_wp2_with (first | (go_at_call 26; (with_reducible refine (hT vs2 vb2 u10 u11 _ _ hX.below (xb_lt hX) hs2 hb2 hm hz).mono ?_); rintro e' wT ⟨x, y, z, rfl, ⟨vs3, vb3, rfl, hs3, hb3⟩, hm3, hz3, hbb⟩; replace hX := hX.step hbb; replace hs1 := hs1.below hbb; replace hb1 := hb1.below hbb; clear hbb hs2 hb2 hm hz) | ((with_reducible refine at_store ?_); refine wpList_bag_overV (cs' := [vs3, vb3, .bool (K.reset).n, .bool (K.reset).r, .bool (K.reset).e, .int .i64 (K.reset).c, .int .i64 (K.reset).w, .int .i64 (K.reset).a, .int .i64 (K.reset).s, .int .i64 (K.reset).l]) hX aggK sizK _ _ rfl rfl rfl rfl rfl rfl rfl rfl (one_dk (sts_one hs3.now) (its_one hb3.now) _ _ _ _ _ _ _ _) ?_; clear hX; intro wy hX hkz; replace hs3 := hs3.over hkz rfl; replace hb3 := hb3.over hkz rfl; replace hm3 := hm3.over hkz rfl; replace hz3 := hz3.over hkz rfl; replace hs1 := hs1.over hkz rfl; replace hb1 := hb1.over hkz rfl; clear hkz) | ((with_reducible refine at_load ?_); refine wpList_bag_part (k := 0) hX aggK sizK _ rfl rfl rfl rfl (by first | exact .head _ | exact .tail _ (.head _)) (fun jz vz hz => (congrArg (fun n => ([_, _, _, _, _, _, _, _, _, _] : List Value)[n]?) (Nat.zero_add jz)).trans hz) rfl ?_))
      exact ⟨⟨k + 1, _, _, by omega, by go_num, hs3, hb3, hm3, hz3, hs1, hb1, hX⟩, by simp [intOf]; omega⟩
    have hkN2 : k = N := by omega
    have hki : ¬ (k : Int) < N := by omega
    go_wp2_with (first | ((with_reducible refine at_load ?_); refine wpList_bag_part (k := 0) hX aggK sizK _ rfl rfl rfl rfl (by first | exact .head _ | exact .tail _ (.head _)) (fun jz vz hz => (congrArg (fun n => ([_, _, _, _, _, _, _, _, _, _] : List Value)[n]?) (Nat.zero_add jz)).trans hz) rfl ?_) | (go_at_call 11; (with_reducible refine (rsameK_any K.reset hlB hlS vs2 vb2 vs1 vb1 _ hs2.now hb2.now hs1.now hb1.now).mono ?_); rintro e' wK ⟨rfl, hbb⟩; replace hX := hX.step hbb; replace hm := hm.below hbb; replace hz := hz.below hbb; clear hs2 hb2 hs1 hb1; clear hbb) | (go_at_call 28; (with_reducible refine (rsameI_any m u10 vm _ hlm hm.now (hsB hX.below)).mono ?_); rintro e' wM ⟨rfl, hbb⟩; replace hX := hX.step hbb; replace hz := hz.below hbb; clear hbb hm) | (go_at_call 28; (with_reducible refine (rsameI_any B u11 vz _ hlb hz.now (hzB hX.below)).mono ?_); rintro e' wN ⟨rfl, hbb⟩; replace hX := hX.step hbb; clear hbb hz) | (go_at_call 8; (with_reducible refine (alive_true _ (H.step hX.below)).mono ?_); rintro e' wL ⟨rfl, hbb⟩; replace hX := hX.step hbb; clear hbb))
    go_ret
    exact ⟨rfl, hX.below⟩
end Go.Proofs.Ytjolhlfjpnlcnaa

/-
  Copies of rows of an argument; DiskctlTicks. Condition: the contracts.
-/
namespace Go.Proofs.Ytjolhlfjpnlcnaa
open Go.RowKit
set_option linter.unusedSimpArgs false
set_option linter.unusedVariables false
set_option maxHeartbeats 4000000
set_option maxRecDepth 100000
attribute [local irreducible] wpQuiet
/-- A row is appended to a new empty one: a copy. -/
theorem wpList_cpI {w w0 : World} {ops : Array Oper} {rest : List Oper} {o : Oper} {a : Act} {Q : Exit → Act → World → Prop} (hgd : o.guard = none) (s x : Operand) (ho : o.op = .call { callee := .builtin .append, args := #[s, x], argTypes := #[23, 23] }) (hw : w = w0.alloc (.cells #[] 3)) (hs : a.eval s = .slice (some ⟨w0.heap.size, 0, none⟩) 0 0) (v : Value) (l : List Int) (hx : a.eval x = v) (hv : Its w0 v l) (hl : l.length ≤ 1099511627776)
    (h : ∀ v' w', (∀ X : Nat → Prop, (∀ b, X b → b < w0.heap.size) → ItsX X w' v' l) → Below w0.heap.size w0 w' → wpList Try.prog ops Q rest (a.put o.dst v') w') : wpList Try.prog ops Q (o :: rest) a w := by
  subst hw
  have hb0 : Below w0.heap.size w0 (w0.alloc (.cells #[] 3)) := (Below.refl _ _).alloc (Nat.le_refl _) _
  rcases Rz.form hv with ⟨rfl, h1, _⟩ | ⟨ad, c, rfl, _⟩
  · obtain rfl : l = [] := List.eq_nil_of_length_eq_zero h1
    refine wpList_appI0 hgd s x ho w0.heap.size _ 0 [] hs (own_empty w0 3) hx (h _ _ (fun X hX => ?_) hb0)
    exact Sv.of_own (own_empty w0 3) hX
  · refine wpList_appI hgd s x ho w0.heap.size _ 0 [] hs (own_empty w0 3) ad l.length c (l.map (Value.int .i64)) hx (by simp) (fun jz u hu => Rz.cell (Rz.below hv hb0) jz u hu) (one_int l) (by omega) (by simp) fun v' w' ho' hb' _ => ?_
    rw [Nat.zero_add, List.nil_append] at ho'
    exact h v' w' (fun X hX => Sv.of_own ho' hX) (hb0.trans hb')
/-- A row is appended to a new empty one: a copy. -/
theorem wpList_cpS {w w0 : World} {ops : Array Oper} {rest : List Oper} {o : Oper} {a : Act} {Q : Exit → Act → World → Prop} (hgd : o.guard = none) (s x : Operand) (ho : o.op = .call { callee := .builtin .append, args := #[s, x], argTypes := #[22, 22] }) (hw : w = w0.alloc (.cells #[] 9)) (hs : a.eval s = .slice (some ⟨w0.heap.size, 0, none⟩) 0 0) (v : Value) (l : List ByteArray) (hx : a.eval x = v) (hv : Sts w0 v l) (hl : l.length ≤ 1099511627776)
    (h : ∀ v' w', (∀ X : Nat → Prop, (∀ b, X b → b < w0.heap.size) → StsX X w' v' l) → Below w0.heap.size w0 w' → wpList Try.prog ops Q rest (a.put o.dst v') w') : wpList Try.prog ops Q (o :: rest) a w := by
  subst hw
  have hb0 : Below w0.heap.size w0 (w0.alloc (.cells #[] 9)) := (Below.refl _ _).alloc (Nat.le_refl _) _
  rcases Rz.form hv with ⟨rfl, h1, _⟩ | ⟨ad, c, rfl, _⟩
  · obtain rfl : l = [] := List.eq_nil_of_length_eq_zero h1
    refine wpList_appS0 hgd s x ho w0.heap.size _ 0 [] hs (own_empty w0 9) hx (h _ _ (fun X hX => ?_) hb0)
    exact Sv.of_own (own_empty w0 9) hX
  · refine wpList_appS hgd s x ho w0.heap.size _ 0 [] hs (own_empty w0 9) ad l.length c (l.map Value.string) hx (by simp) (fun jz u hu => Rz.cell (Rz.below hv hb0) jz u hu) (one_str l) (by omega) (by simp) fun v' w' ho' hb' _ => ?_
    rw [Nat.zero_add, List.nil_append] at ho'
    exact h v' w' (fun X hX => Sv.of_own ho' hX) (hb0.trans hb')
theorem DiskctlTicks_law (W0 : World) (H : DkC W0) (K : Dk) (m B : List Int) (vs vb vm vz : Value) (hs : Sts W0 vs K.D.S) (hb : Its W0 vb K.D.B) (hvm : Its W0 vm m) (hvz : Its W0 vz B) : Calls Try.prog 4 #[.agg #[vs, vb, .bool (K).n, .bool (K).r, .bool (K).e, .int .i64 (K).c, .int .i64 (K).w, .int .i64 (K).a, .int .i64 (K).s, .int .i64 (K).l], vm, vz] W0 fun e' w' => e' = .returned (.bool true) ∧ Below W0.heap.size W0 w' := by
  have hF : ∀ w, Below W0.heap.size W0 w → Calls Try.prog 25 #[.agg #[vs, vb, .bool (K).n, .bool (K).r, .bool (K).e, .int .i64 (K).c, .int .i64 (K).w, .int .i64 (K).a, .int .i64 (K).s, .int .i64 (K).l], vm, vz] w fun e' w' => e' = .returned (.bool (fewV K m B)) ∧ Below w.heap.size w w' := fun w h => few_any K m B vs vb vm vz w (Rz.below hs h) (Rz.below hb h) (Rz.below hvm h) (Rz.below hvz h)
  have hX := (Bag.nil W0).new 27 [vs, vb, .bool (K).n, .bool (K).r, .bool (K).e, .int .i64 (K).c, .int .i64 (K).w, .int .i64 (K).a, .int .i64 (K).s, .int .i64 (K).l]
  cases hf : fewV K m B
  · rw [hf] at hF
    go_enter Try.func4, Try.ntmps4
    go_wp2_with (first | ((with_reducible refine at_load ?_); refine wpList_bag_part (k := 0) hX aggK sizK _ rfl rfl rfl rfl (by first | exact .head _) (fun jz vz hz => (congrArg (fun n => ([_, _, _, _, _, _, _, _, _, _] : List Value)[n]?) (Nat.zero_add jz)).trans hz) rfl ?_) | (go_at_call 25; (with_reducible refine (hF _ hX.below).mono ?_); rintro e' wF ⟨rfl, hbb⟩; replace hX := hX.step hbb; clear hbb) | (go_at_call 8; (with_reducible refine (alive_true _ (H.step hX.below)).mono ?_); rintro e' wL ⟨rfl, hbb⟩; replace hX := hX.step hbb; clear hbb))
    go_ret
    exact ⟨rfl, hX.below⟩
  rw [hf] at hF
  obtain ⟨h1, h2, h3, h4, hR, hM⟩ := (fewV_iff K m B).1 hf
  obtain ⟨k1, k2, k3, k4, k5, k6⟩ := tick_kept hR hM
  have hT := fun vs vb vm vz X w (h1 : Below W0.heap.size W0 w) => H.tick K m B vs vb vm vz X w h1 hR hM
  have hTr := fun vs vb vm vz w X hXl hs hb hm hz => rtickK_any K m B vs vb vm vz w X hXl hs hb hm hz hR ((rightP_iff m B).1 hM).2.1 (by omega) (by omega) (by omega)
  unfold TickSays at hT hTr
  have hlS : K.D.S.length ≤ 1099511627776 := by omega
  have hlm : m.length ≤ 1099511627776 := by omega
  have hlb : B.length ≤ 1099511627776 := by omega
  have hlS1 : (K.tick m B).1.D.S.length ≤ 1099511627776 := by omega
  have hlB1 : (K.tick m B).1.D.B.length ≤ 1099511627776 := by rw [k6]; omega
  have hlm1 : (K.tick m B).2.1.length ≤ 1099511627776 := by omega
  have hlb1 : (K.tick m B).2.2.length ≤ 1099511627776 := by omega
  have hRt := fun vs vb w (h : Below W0.heap.size W0 w) h3 h4 => H.right (K.tick m B).1 vs vb w h (by omega) (by rw [k6]; omega) h3 h4
  rw [k1] at hRt
  generalize (K.tick m B).1 = K1 at *
  generalize (K.tick m B).2.1 = m1 at *
  generalize (K.tick m B).2.2 = B1 at *
  have hsB : ∀ {w : World}, Below W0.heap.size W0 w → Its w vm m := fun h => Rz.below hvm h
  have hzB : ∀ {w : World}, Below W0.heap.size W0 w → Its w vz B := fun h => Rz.below hvz h
  have hsS : ∀ {w : World}, Below W0.heap.size W0 w → Sts w vs K.D.S := fun h => Rz.below hs h
  clear hf h1 h2 h3 h4 k1 k2 k3 k4 k5 k6
  go_enter Try.func4, Try.ntmps4
  go_wp2_with (first | ((with_reducible refine at_load ?_); refine wpList_bag_part (k := 0) hX aggK sizK _ rfl rfl rfl rfl (by first | exact .head _ | exact .tail _ (.head _) | exact .tail _ (.tail _ (.head _))) (fun jz vz hz => (congrArg (fun n => ([_, _, _, _, _, _, _, _, _, _] : List Value)[n]?) (Nat.zero_add jz)).trans hz) rfl ?_) | (go_at_call 25; (with_reducible refine (hF _ hX.below).mono ?_); rintro e' wF ⟨rfl, hbb⟩; replace hX := hX.step hbb; clear hbb) | (at_builtin; refine wpList_cpI rfl (.tmp 23) (.tmp 24) rfl rfl rfl vm m rfl (hsB hX.below) hlm ?_; intro vO wO hvO hbb; replace hvO := hvO (fun _ => False) (fun _ h => h.elim); replace hX := hX.step hbb; skip; clear hbb) | (at_builtin; refine wpList_cpI rfl (.tmp 26) (.tmp 27) rfl rfl rfl vz B rfl (hzB hX.below) hlb ?_; intro vW wO hvW hbb; replace hvW := hvW (fun _ => False) (fun _ h => h.elim); replace hX := hX.step hbb; replace hvO := hvO.below hbb; clear hbb) | (at_builtin; refine wpList_cpS rfl (.tmp 29) (.tmp 32) rfl rfl rfl vs K.D.S rfl (hsS hX.below) hlS ?_; intro vS wO hvS hbb; replace hvS := hvS (fun _ => False) (fun _ h => h.elim); replace hX := hX.step hbb; replace hvO := hvO.below hbb; replace hvW := hvW.below hbb; obtain ⟨A9, c9, rfl, hc9, _⟩ := hvS.now.form; clear hbb) | ((with_reducible refine at_load ?_); refine wpList_bag_cell (Bag.step hX ((Below.refl _ _).alloc (Nat.le_refl _) (.cells #[] 9))) slS_cell _ rfl rfl rfl rfl (by first | exact .head _ | exact .tail _ (.head _)) rfl ?_) | (go_at_call 26; (with_reducible refine (hT vs vb vm vz (fun _ => False) _ hX.below (fun _ h => h.elim) (sts_arg hs hX.below (fun _ _ h => h)) (its_arg hb hX.below (fun _ _ h => h)) (its_arg hvm hX.below (fun _ _ h => h)) (its_arg hvz hX.below (fun _ _ h => h))).mono ?_); rintro e' wT ⟨x, y, z, rfl, ⟨vs1, vb1, rfl, hs1, hb1⟩, hm1, hz1, hbb⟩; replace hX := hX.step hbb; replace hvO := hvO.below hbb; replace hvW := hvW.below hbb; replace hvS := hvS.below hbb; clear hbb) | (go_at_call 27; (with_reducible refine (hTr vs vb vm vz _ (fun _ => False) (fun _ h => h.elim) (sts_arg hs hX.below (fun _ _ h => h)) (its_arg hb hX.below (fun _ _ h => h)) (its_arg hvm hX.below (fun _ _ h => h)) (its_arg hvz hX.below (fun _ _ h => h))).mono ?_); rintro e' wU ⟨x2, y2, z2, rfl, ⟨vs2, vb2, rfl, hs2, hb2⟩, hm2, hz2, hbb⟩; replace hX := hX.step hbb; replace hvO := hvO.below hbb; replace hvW := hvW.below hbb; replace hvS := hvS.below hbb; replace hs1 := hs1.below hbb; replace hb1 := hb1.below hbb; replace hm1 := hm1.below hbb; replace hz1 := hz1.below hbb; clear hbb) | ((with_reducible refine at_store ?_); refine wpList_bag_overV (cs' := [vs1, vb1, .bool (K1).n, .bool (K1).r, .bool (K1).e, .int .i64 (K1).c, .int .i64 (K1).w, .int .i64 (K1).a, .int .i64 (K1).s, .int .i64 (K1).l]) (hX.new 27 [.slice none 0 0, .slice none 0 0, .bool false, .bool false, .bool false, .int .i64 0, .int .i64 0, .int .i64 0, .int .i64 0, .int .i64 0]) aggK sizK _ _ rfl rfl rfl rfl rfl rfl rfl rfl (one_dk (sts_one hs1.now) (its_one hb1.now) _ _ _ _ _ _ _ _) ?_; clear hX; intro wy hX hkz; replace hs1 := ((hs1.weak ((Below.refl _ _).alloc (Nat.le_refl _) (.cells ([.slice none 0 0, .slice none 0 0, .bool false, .bool false, .bool false, .int .i64 0, .int .i64 0, .int .i64 0, .int .i64 0, .int .i64 0] : List Value).toArray 27)) xb_new : StsX (XB wT.heap.size) _ _ _)).over hkz rfl; replace hb1 := ((hb1.weak ((Below.refl _ _).alloc (Nat.le_refl _) (.cells ([.slice none 0 0, .slice none 0 0, .bool false, .bool false, .bool false, .int .i64 0, .int .i64 0, .int .i64 0, .int .i64 0, .int .i64 0] : List Value).toArray 27)) xb_new : ItsX (XB wT.heap.size) _ _ _)).over hkz rfl; replace hm1 := ((hm1.weak ((Below.refl _ _).alloc (Nat.le_refl _) (.cells ([.slice none 0 0, .slice none 0 0, .bool false, .bool false, .bool false, .int .i64 0, .int .i64 0, .int .i64 0, .int .i64 0, .int .i64 0] : List Value).toArray 27)) xb_new : ItsX (XB wT.heap.size) _ _ _)).over hkz rfl; replace hz1 := ((hz1.weak ((Below.refl _ _).alloc (Nat.le_refl _) (.cells ([.slice none 0 0, .slice none 0 0, .bool false, .bool false, .bool false, .int .i64 0, .int .i64 0, .int .i64 0, .int .i64 0, .int .i64 0] : List Value).toArray 27)) xb_new : ItsX (XB wT.heap.size) _ _ _)).over hkz rfl; replace hvO := ((hvO.weak ((Below.refl _ _).alloc (Nat.le_refl _) (.cells ([.slice none 0 0, .slice none 0 0, .bool false, .bool false, .bool false, .int .i64 0, .int .i64 0, .int .i64 0, .int .i64 0, .int .i64 0] : List Value).toArray 27)) xb_new : ItsX (XB wT.heap.size) _ _ _)).over hkz rfl; replace hvW := ((hvW.weak ((Below.refl _ _).alloc (Nat.le_refl _) (.cells ([.slice none 0 0, .slice none 0 0, .bool false, .bool false, .bool false, .int .i64 0, .int .i64 0, .int .i64 0, .int .i64 0, .int .i64 0] : List Value).toArray 27)) xb_new : ItsX (XB wT.heap.size) _ _ _)).over hkz rfl; replace hvS := ((hvS.weak ((Below.refl _ _).alloc (Nat.le_refl _) (.cells ([.slice none 0 0, .slice none 0 0, .bool false, .bool false, .bool false, .int .i64 0, .int .i64 0, .int .i64 0, .int .i64 0, .int .i64 0] : List Value).toArray 27)) xb_new : StsX (XB wT.heap.size) _ _ _)).over hkz rfl; clear hkz) | ((with_reducible refine at_store ?_); refine wpList_bag_overV (cs' := [vs2, vb2, .bool (K1).n, .bool (K1).r, .bool (K1).e, .int .i64 (K1).c, .int .i64 (K1).w, .int .i64 (K1).a, .int .i64 (K1).s, .int .i64 (K1).l]) (hX.new 27 [.slice none 0 0, .slice none 0 0, .bool false, .bool false, .bool false, .int .i64 0, .int .i64 0, .int .i64 0, .int .i64 0, .int .i64 0]) aggK sizK _ _ rfl rfl rfl rfl rfl rfl rfl rfl (one_dk (sts_one hs2.now) (its_one hb2.now) _ _ _ _ _ _ _ _) ?_; clear hX; intro wx hX hkz; replace hs1 := ((hs1.weak ((Below.refl _ _).alloc (Nat.le_refl _) (.cells ([.slice none 0 0, .slice none 0 0, .bool false, .bool false, .bool false, .int .i64 0, .int .i64 0, .int .i64 0, .int .i64 0, .int .i64 0] : List Value).toArray 27)) xb_new : StsX (XB wU.heap.size) _ _ _)).over hkz rfl; replace hb1 := ((hb1.weak ((Below.refl _ _).alloc (Nat.le_refl _) (.cells ([.slice none 0 0, .slice none 0 0, .bool false, .bool false, .bool false, .int .i64 0, .int .i64 0, .int .i64 0, .int .i64 0, .int .i64 0] : List Value).toArray 27)) xb_new : ItsX (XB wU.heap.size) _ _ _)).over hkz rfl; replace hm1 := ((hm1.weak ((Below.refl _ _).alloc (Nat.le_refl _) (.cells ([.slice none 0 0, .slice none 0 0, .bool false, .bool false, .bool false, .int .i64 0, .int .i64 0, .int .i64 0, .int .i64 0, .int .i64 0] : List Value).toArray 27)) xb_new : ItsX (XB wU.heap.size) _ _ _)).over hkz rfl; replace hz1 := ((hz1.weak ((Below.refl _ _).alloc (Nat.le_refl _) (.cells ([.slice none 0 0, .slice none 0 0, .bool false, .bool false, .bool false, .int .i64 0, .int .i64 0, .int .i64 0, .int .i64 0, .int .i64 0] : List Value).toArray 27)) xb_new : ItsX (XB wU.heap.size) _ _ _)).over hkz rfl; replace hvO := ((hvO.weak ((Below.refl _ _).alloc (Nat.le_refl _) (.cells ([.slice none 0 0, .slice none 0 0, .bool false, .bool false, .bool false, .int .i64 0, .int .i64 0, .int .i64 0, .int .i64 0, .int .i64 0] : List Value).toArray 27)) xb_new : ItsX (XB wU.heap.size) _ _ _)).over hkz rfl; replace hvW := ((hvW.weak ((Below.refl _ _).alloc (Nat.le_refl _) (.cells ([.slice none 0 0, .slice none 0 0, .bool false, .bool false, .bool false, .int .i64 0, .int .i64 0, .int .i64 0, .int .i64 0, .int .i64 0] : List Value).toArray 27)) xb_new : ItsX (XB wU.heap.size) _ _ _)).over hkz rfl; replace hvS := ((hvS.weak ((Below.refl _ _).alloc (Nat.le_refl _) (.cells ([.slice none 0 0, .slice none 0 0, .bool false, .bool false, .bool false, .int .i64 0, .int .i64 0, .int .i64 0, .int .i64 0, .int .i64 0] : List Value).toArray 27)) xb_new : StsX (XB wU.heap.size) _ _ _)).over hkz rfl; replace hs2 := ((hs2.weak ((Below.refl _ _).alloc (Nat.le_refl _) (.cells ([.slice none 0 0, .slice none 0 0, .bool false, .bool false, .bool false, .int .i64 0, .int .i64 0, .int .i64 0, .int .i64 0, .int .i64 0] : List Value).toArray 27)) xb_new : StsX (XB wU.heap.size) _ _ _)).over hkz rfl; replace hb2 := ((hb2.weak ((Below.refl _ _).alloc (Nat.le_refl _) (.cells ([.slice none 0 0, .slice none 0 0, .bool false, .bool false, .bool false, .int .i64 0, .int .i64 0, .int .i64 0, .int .i64 0, .int .i64 0] : List Value).toArray 27)) xb_new : ItsX (XB wU.heap.size) _ _ _)).over hkz rfl; replace hm2 := ((hm2.weak ((Below.refl _ _).alloc (Nat.le_refl _) (.cells ([.slice none 0 0, .slice none 0 0, .bool false, .bool false, .bool false, .int .i64 0, .int .i64 0, .int .i64 0, .int .i64 0, .int .i64 0] : List Value).toArray 27)) xb_new : ItsX (XB wU.heap.size) _ _ _)).over hkz rfl; replace hz2 := ((hz2.weak ((Below.refl _ _).alloc (Nat.le_refl _) (.cells ([.slice none 0 0, .slice none 0 0, .bool false, .bool false, .bool false, .int .i64 0, .int .i64 0, .int .i64 0, .int .i64 0, .int .i64 0] : List Value).toArray 27)) xb_new : ItsX (XB wU.heap.size) _ _ _)).over hkz rfl; clear hkz))
  obtain ⟨aS, cS, rfl, hcS, _⟩ := hs.form
  go_loopw [52, 16] (fun iv _ wr => ∃ k : Nat, k ≤ K.D.S.length ∧ iv = .int .i64 k ∧ Bag [(wU.heap.size, 27, [vs2, vb2, .bool (K1).n, .bool (K1).r, .bool (K1).e, .int .i64 (K1).c, .int .i64 (K1).w, .int .i64 (K1).a, .int .i64 (K1).s, .int .i64 (K1).l]), (wT.heap.size, 27, [vs1, vb1, .bool (K1).n, .bool (K1).r, .bool (K1).e, .int .i64 (K1).c, .int .i64 (K1).w, .int .i64 (K1).a, .int .i64 (K1).s, .int .i64 (K1).l]), (W0.heap.size, 27, [.slice aS K.D.S.length cS, vb, .bool (K).n, .bool (K).r, .bool (K).e, .int .i64 (K).c, .int .i64 (K).w, .int .i64 (K).a, .int .i64 (K).s, .int .i64 (K).l])] W0 wr ∧ Below wx.heap.size wx wr) (fun iv _ _ => K.D.S.length - (intOf iv).toNat)
  case atStart => exact ⟨0, Nat.zero_le _, rfl, hX, Below.refl _ _⟩
  case round =>
    clear hX
    obtain ⟨k, hk, rfl, hX, hB⟩ := hrel
    by_cases hkn : k < K.D.S.length
    · have hki : (k : Int) < (K.D.S.length : Int) := by omega
      obtain ⟨x, hx⟩ : ∃ x, K.D.S[k]? = some x := ⟨_, List.getElem?_eq_getElem hkn⟩
      obtain ⟨A1, c1, e1, _, hA1⟩ := (hsS hX.below).form
      obtain ⟨a1, rfl, hL1⟩ := hA1 k x hx
      simp only [Value.slice.injEq] at e1
      obtain ⟨rfl, _, rfl⟩ := e1
      obtain ⟨A2, c2, e2, _, hA2⟩ := (hvS.below hB).now.form
      obtain ⟨a2, rfl, hL2⟩ := hA2 k x hx
      simp only [Value.slice.injEq] at e2
      obtain ⟨rfl, _, rfl⟩ := e2
      clear hA1 hA2 hx
      go_wp2
      refine region_class (fun w' => Bag [(wU.heap.size, 27, [vs2, vb2, .bool (K1).n, .bool (K1).r, .bool (K1).e, .int .i64 (K1).c, .int .i64 (K1).w, .int .i64 (K1).a, .int .i64 (K1).s, .int .i64 (K1).l]), (wT.heap.size, 27, [vs1, vb1, .bool (K1).n, .bool (K1).r, .bool (K1).e, .int .i64 (K1).c, .int .i64 (K1).w, .int .i64 (K1).a, .int .i64 (K1).s, .int .i64 (K1).l]), (W0.heap.size, 27, [.slice (some a1) K.D.S.length cS, vb, .bool (K).n, .bool (K).r, .bool (K).e, .int .i64 (K).c, .int .i64 (K).w, .int .i64 (K).a, .int .i64 (K).s, .int .i64 (K).l])] W0 w' ∧ Below wr.heap.size wr w') (by kernel_rfl) (by kernel_rfl) ⟨hX.drew, (Below.refl _ _).drew⟩ ?_
      repeat
        first
          | (refine BigFrame.wpQuiet_skip (by rfl) ?_
             simp only [Act.put, List.setIfInBounds_toArray, List.set_cons_zero, List.set_cons_succ])
          | (refine BigFrame.wpQuiet_want (by rfl) (fun K hK => ?_)
             apply Exists.intro
             refine ⟨fun wq hq => ?_, hK _ ?_⟩
             · first
                 | (refine quiet_load 22 _ _ _ rfl rfl ((hq.1.all _ _ _ (.tail _ (.tail _ (.head _)))).loadCell rfl slS_cell))
                 | (refine quiet_load 9 _ _ _ rfl rfl (hL1 _ hq.2))
                 | (refine quiet_load 9 _ _ _ rfl rfl (hL2 _ hq.2))
                 | (unfold Oper.quietAt
                    go_simp
                    first
                      | with_reducible rfl
                   )
             clear hK K
             simp only [Act.put, List.setIfInBounds_toArray, List.set_cons_zero, List.set_cons_succ])
      refine wpQuiet_nil ?_
      intro w4 hq
      obtain ⟨hX2, hB2⟩ := hq
      go_wp2
      exact ⟨⟨k + 1, by omega, by go_num, hX2, hB.trans (hB2.mono hB.size)⟩, by simp [intOf]; omega⟩
    have hki : ¬ (k : Int) < (K.D.S.length : Int) := by omega
    replace hs1 := hs1.below hB
    replace hb1 := hb1.below hB
    replace hm1 := hm1.below hB
    replace hz1 := hz1.below hB
    replace hvO := hvO.below hB
    replace hvW := hvW.below hB
    replace hs2 := hs2.below hB
    replace hb2 := hb2.below hB
    replace hm2 := hm2.below hB
    replace hz2 := hz2.below hB
    clear hvS
    go_wp2_with (first | ((with_reducible refine at_load ?_); refine wpList_bag_part (k := 0) hX aggK sizK _ rfl rfl rfl rfl (by first | exact .head _ | exact .tail _ (.head _) | exact .tail _ (.tail _ (.head _))) (fun jz vz hz => (congrArg (fun n => ([_, _, _, _, _, _, _, _, _, _] : List Value)[n]?) (Nat.zero_add jz)).trans hz) rfl ?_) | (go_at_call 11; (with_reducible refine (rsameK_any K1 hlB1 hlS1 vs1 vb1 vs2 vb2 _ hs1.now hb1.now hs2.now hb2.now).mono ?_); rintro e' wK ⟨rfl, hbb⟩; replace hX := hX.step hbb; replace hs1 := hs1.below hbb; replace hb1 := hb1.below hbb; replace hm1 := hm1.below hbb; replace hz1 := hz1.below hbb; replace hm2 := hm2.below hbb; replace hz2 := hz2.below hbb; replace hvO := hvO.below hbb; replace hvW := hvW.below hbb; clear hs2 hb2; clear hbb) | (go_at_call 28; (with_reducible refine (rsameI_any m1 y y2 _ hlm1 hm1.now hm2.now).mono ?_); rintro e' wM ⟨rfl, hbb⟩; replace hX := hX.step hbb; replace hs1 := hs1.below hbb; replace hb1 := hb1.below hbb; replace hz1 := hz1.below hbb; replace hz2 := hz2.below hbb; replace hvO := hvO.below hbb; replace hvW := hvW.below hbb; clear hbb hm1 hm2) | (go_at_call 28; (with_reducible refine (rsameI_any B1 z z2 _ hlb1 hz1.now hz2.now).mono ?_); rintro e' wM ⟨rfl, hbb⟩; replace hX := hX.step hbb; replace hs1 := hs1.below hbb; replace hb1 := hb1.below hbb; replace hvO := hvO.below hbb; replace hvW := hvW.below hbb; clear hbb hz1 hz2) | (go_at_call 28; (with_reducible refine (rsameI_any m vm vO _ hlm (hsB hX.below) hvO.now).mono ?_); rintro e' wM ⟨rfl, hbb⟩; replace hX := hX.step hbb; replace hs1 := hs1.below hbb; replace hb1 := hb1.below hbb; replace hvW := hvW.below hbb; clear hbb hvO) | (go_at_call 28; (with_reducible refine (rsameI_any B vz vW _ hlb (hzB hX.below) hvW.now).mono ?_); rintro e' wM ⟨rfl, hbb⟩; replace hX := hX.step hbb; replace hs1 := hs1.below hbb; replace hb1 := hb1.below hbb; clear hbb hvW) | (go_at_call 9; (with_reducible refine (hRt vs1 vb1 _ hX.below hs1.now hb1.now).mono ?_); rintro e' wQ ⟨rfl, hbb⟩; replace hX := hX.step hbb; clear hbb hs1 hb1) | (go_at_call 8; (with_reducible refine (alive_true _ (H.step hX.below)).mono ?_); rintro e' wL ⟨rfl, hbb⟩; replace hX := hX.step hbb; clear hbb))
    go_ret
    exact ⟨rfl, hX.below⟩
end Go.Proofs.Ytjolhlfjpnlcnaa
