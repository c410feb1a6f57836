import Derived.Test.YthpnddgfgpacpaaGreatRS09
import Derived.Laws.Entries
import Derived.Test.YthpnddgfgpacpaaGreatRS07
/-
  sector, New of the reference. Conditions: the words are there and are words; at most 2^40 sectors and bad ones.
-/
namespace Go.Proofs.YthpnddgfgpacpaaGreat
open Go.RowKit
set_option linter.unusedSimpArgs false
set_option linter.unusedVariables false
set_option maxHeartbeats 4000000
set_option maxRecDepth 100000
attribute [local irreducible] wpQuiet

def cv (l : List UInt8) : List Value := l.map fun b => .int .u8 (b.toNat : Int)
/-- The bytes of k words from A on. -/
def secL (m : List Int) (A k : Nat) : List UInt8 := (List.range k).flatMap fun i => [UInt8.ofNat (m.getD (A + i) 0 % 256).toNat, UInt8.ofNat (m.getD (A + i) 0 / 256).toNat]
/-- The sector of n words from A on. -/
def secV (m : List Int) (A n : Nat) : ByteArray := ⟨(secL m A n ++ List.replicate (128 - 2 * n) 0).toArray⟩
theorem ownA_lt {X : Nat → Prop} {N M : Nat} (hX : ∀ b, X b → b < N) (h : N + 2 ≤ M) : ∀ b, OwnA X N b → b < M := fun b hb => by
  rcases hb with hb | hb | hb
  · have := hX b hb; omega
  · omega
  · omega
theorem rnewK_any (D : Drv) (hl : D.B.length ≤ 1099511627776) (hl2 : D.S.length ≤ 1099511627776) (vs vb : Value) (w : World) (X : Nat → Prop) (hXl : ∀ b, X b → b < w.heap.size) (hs : Sts w vs D.S) (hb : Its w vb D.B) : Calls Tryz.prog 68 #[.agg #[vs, vb]] w fun e' w' => ∃ x, e' = .returned x ∧ DkX X w' x (Dk.new D) ∧ Below w.heap.size w w' := by
  have hX := ((Bag.nil w).new 38 [vs, vb]).new 40 [.slice none 0 0, .slice none 0 0, .bool false, .bool false, .bool false, .int .i64 0, .int .i64 0, .int .i64 0, .int .i64 0, .int .i64 0]
  rw [show (w.alloc (.cells ([vs, vb] : List Value).toArray 38)).heap.size = w.heap.size + 1 from Array.size_push ..] at hX
  obtain ⟨S, B⟩ := D
  dsimp only at *
  rcases Rz.form hs with ⟨rfl, h1, _⟩ | ⟨aS, cS, rfl, _⟩
  · obtain rfl : S = [] := List.eq_nil_of_length_eq_zero h1
    clear h1
    rcases Rz.form hb with ⟨rfl, h2, _⟩ | ⟨aB, cB, rfl, _⟩
    · obtain rfl : B = [] := List.eq_nil_of_length_eq_zero h2
      clear h2
      obtain ⟨wA, hwA⟩ : ∃ W, (w.alloc (.cells #[.slice none 0 0, .slice none 0 0] 38)).alloc (.cells #[.slice none 0 0, .slice none 0 0, .bool false, .bool false, .bool false, .int .i64 0, .int .i64 0, .int .i64 0, .int .i64 0, .int .i64 0] 40) = W := ⟨_, rfl⟩
      replace hX : Bag [(w.heap.size + 1, 40, [.slice none 0 0, .slice none 0 0, .bool false, .bool false, .bool false, .int .i64 0, .int .i64 0, .int .i64 0, .int .i64 0, .int .i64 0]), (w.heap.size, 38, [.slice none 0 0, .slice none 0 0])] w wA := hwA ▸ hX
      have hLA : w.heap.size + 1 < wA.heap.size := (hX.all _ _ _ (.head _)).lt
      go_enter Tryz.func68, Tryz.ntmps68
      go_wp2_with (first | ((with_reducible refine at_load ?_); refine wpList_bag_cell hX slS_cell _ rfl rfl rfl rfl (by first | exact .head _ | exact .tail _ (.head _)) rfl ?_) | ((with_reducible refine at_load ?_); refine wpList_bag_cell hX slI_cell _ rfl rfl rfl rfl (by first | exact .head _ | exact .tail _ (.head _)) rfl ?_) | ((with_reducible refine at_load ?_); refine wpList_bag_cell (Bag.step hX ((Below.refl _ _).alloc (Nat.le_refl _) (.cells #[] 9))) slS_cell _ rfl rfl rfl rfl (by first | exact .head _ | exact .tail _ (.head _)) rfl ?_) | ((with_reducible refine at_load ?_); refine wpList_bag_cell (Bag.step hX ((Below.refl _ _).alloc (Nat.le_refl _) (.cells #[] 3))) slI_cell _ rfl rfl rfl rfl (by first | exact .head _ | exact .tail _ (.head _)) rfl ?_) | ((with_reducible refine at_load ?_); refine wpList_bag_part (k := 0) hX aggD sizD _ rfl rfl rfl rfl (by first | exact .head _ | exact .tail _ (.head _)) (fun jz vz hz => (congrArg (fun n => ([_, _] : List Value)[n]?) (Nat.zero_add jz)).trans hz) rfl ?_) | (at_builtin; refine wpList_appS0 rfl (.tmp 3) (.tmp 5) rfl wA.heap.size _ 0 [] rfl (own_empty wA 9) rfl ?_; have hown := own_empty wA 9; have hNN : w.heap.size + 2 ≤ wA.heap.size := hLA; replace hX := Bag.step hX ((Below.refl _ _).alloc (Nat.le_refl _) (.cells #[] 9)); have hS := stsX_of (X := OwnA X w.heap.size) (S' := []) (ownA_lt hXl hNN) (hid rfl) (hid rfl) hown) | (at_builtin; refine wpList_appI0 rfl (.tmp 8) (.tmp 10) rfl w3.heap.size _ 0 [] rfl (own_empty w3 3) rfl ?_; have hown := own_empty w3 3; have hNN : w.heap.size + 2 ≤ w3.heap.size := (show w.heap.size + 1 < w3.heap.size from (hX.all _ _ _ (.tail _ (.head _))).lt); replace hS := hS.below ((Below.refl _ _).alloc (Nat.le_refl _) (.cells #[] 3)); replace hX := Bag.step hX ((Below.refl _ _).alloc (Nat.le_refl _) (.cells #[] 3)); have hI := itsX_of (X := OwnA X w.heap.size) (S' := []) (ownA_lt hXl hNN) (hid rfl) (hid rfl) hown) | ((with_reducible refine at_store ?_); refine wpList_bag_putV (z := .slice (some ⟨wA.heap.size, 0, none⟩) 0 0) hX.swap siz_S _ _ rfl rfl rfl rfl rfl rfl (by simp) rfl rfl ?_; intro w3 hX3 hk3 hz3; clear hz3; replace hX := hX3; replace hS := hS.over hk3 (.inr (.inl rfl)); clear hk3 hX3; simp only [List.set_cons_zero, List.set_cons_succ] at hX) | ((with_reducible refine at_store ?_); refine wpList_bag_putV (z := .slice (some ⟨w3.heap.size, 0, none⟩) 0 0) hX siz_I _ _ rfl rfl rfl rfl rfl rfl (by simp) rfl rfl ?_; intro w4 hX3 hk3 hz3; clear hz3; replace hX := hX3; replace hS := hS.over hk3 (.inr (.inl rfl)); replace hI := hI.over hk3 (.inr (.inl rfl)); clear hk3 hX3; simp only [List.set_cons_zero, List.set_cons_succ] at hX) | ((with_reducible refine at_store ?_); refine wpList_bag_overV (cs' := [(.slice (some ⟨wA.heap.size, 0, none⟩) 0 0), (.slice (some ⟨w3.heap.size, 0, none⟩) 0 0), .bool false, .bool true, .bool false, .int .i64 0, .int .i64 0, .int .i64 0, .int .i64 0, .int .i64 0]) hX.swap aggK sizK _ _ rfl rfl rfl rfl rfl rfl rfl rfl (one_dk rfl rfl _ _ _ _ _ _ _ _) ?_; clear hX; intro wz hX hkz; replace hS := hS.over hkz (.inr (.inr rfl)); replace hI := hI.over hkz (.inr (.inr rfl)); clear hkz))
      exact bodyPost_ret (results_c Tryz.results68 rfl ((hX.all _ _ _ (.head _)).loadVar rfl aggK sizK)) rfl ⟨_, rfl, ⟨_, _, rfl, hS.less (fun _ h => .inl h), hI.less (fun _ h => .inl h)⟩, hX.below⟩
    · skip
      obtain ⟨wA, hwA⟩ : ∃ W, (w.alloc (.cells #[.slice none 0 0, .slice (some aB) B.length cB] 38)).alloc (.cells #[.slice none 0 0, .slice none 0 0, .bool false, .bool false, .bool false, .int .i64 0, .int .i64 0, .int .i64 0, .int .i64 0, .int .i64 0] 40) = W := ⟨_, rfl⟩
      replace hX : Bag [(w.heap.size + 1, 40, [.slice none 0 0, .slice none 0 0, .bool false, .bool false, .bool false, .int .i64 0, .int .i64 0, .int .i64 0, .int .i64 0, .int .i64 0]), (w.heap.size, 38, [.slice none 0 0, .slice (some aB) B.length cB])] w wA := hwA ▸ hX
      have hLA : w.heap.size + 1 < wA.heap.size := (hX.all _ _ _ (.head _)).lt
      go_enter Tryz.func68, Tryz.ntmps68
      go_wp2_with (first | ((with_reducible refine at_load ?_); refine wpList_bag_cell hX slS_cell _ rfl rfl rfl rfl (by first | exact .head _ | exact .tail _ (.head _)) rfl ?_) | ((with_reducible refine at_load ?_); refine wpList_bag_cell hX slI_cell _ rfl rfl rfl rfl (by first | exact .head _ | exact .tail _ (.head _)) rfl ?_) | ((with_reducible refine at_load ?_); refine wpList_bag_cell (Bag.step hX ((Below.refl _ _).alloc (Nat.le_refl _) (.cells #[] 9))) slS_cell _ rfl rfl rfl rfl (by first | exact .head _ | exact .tail _ (.head _)) rfl ?_) | ((with_reducible refine at_load ?_); refine wpList_bag_cell (Bag.step hX ((Below.refl _ _).alloc (Nat.le_refl _) (.cells #[] 3))) slI_cell _ rfl rfl rfl rfl (by first | exact .head _ | exact .tail _ (.head _)) rfl ?_) | ((with_reducible refine at_load ?_); refine wpList_bag_part (k := 0) hX aggD sizD _ rfl rfl rfl rfl (by first | exact .head _ | exact .tail _ (.head _)) (fun jz vz hz => (congrArg (fun n => ([_, _] : List Value)[n]?) (Nat.zero_add jz)).trans hz) rfl ?_) | (at_builtin; refine wpList_appS0 rfl (.tmp 3) (.tmp 5) rfl wA.heap.size _ 0 [] rfl (own_empty wA 9) rfl ?_; have hown := own_empty wA 9; have hNN : w.heap.size + 2 ≤ wA.heap.size := hLA; replace hX := Bag.step hX ((Below.refl _ _).alloc (Nat.le_refl _) (.cells #[] 9)); have hS := stsX_of (X := OwnA X w.heap.size) (S' := []) (ownA_lt hXl hNN) (hid rfl) (hid rfl) hown) | (at_builtin; refine wpList_appI rfl (.tmp 8) (.tmp 10) rfl w3.heap.size _ 0 [] rfl (own_empty w3 3) aB B.length cB (B.map (Value.int .i64)) rfl (by simp) (fun jz u h => Rz.cell (Rz.below hb (hX.below.alloc hX.below.size _)) jz u h) (one_int B) (by omega) (by simp) ?_; intro v2 w1 ho1 hb1 _; rw [Nat.zero_add, List.nil_append] at ho1; have hNN : w.heap.size + 2 ≤ w3.heap.size := (show w.heap.size + 1 < w3.heap.size from (hX.all _ _ _ (.tail _ (.head _))).lt); replace hS := hS.below (((Below.refl _ _).alloc (Nat.le_refl _) _).trans hb1); replace hX := (Bag.step hX ((Below.refl _ _).alloc (Nat.le_refl _) (.cells #[] 3))).stepN hb1 (fun b hb => by simp at hb; rcases hb with rfl | rfl <;> simp <;> omega) (by omega); have hI := itsX_of (X := OwnA X w.heap.size) (S' := B) (ownA_lt hXl hNN) (hid rfl) (hid rfl) ho1; clear ho1 hb1; obtain ⟨A4, c4, rfl, _⟩ := hI.now.form) | ((with_reducible refine at_store ?_); refine wpList_bag_putV (z := .slice (some ⟨wA.heap.size, 0, none⟩) 0 0) hX.swap siz_S _ _ rfl rfl rfl rfl rfl rfl (by simp) rfl rfl ?_; intro w3 hX3 hk3 hz3; clear hz3; replace hX := hX3; replace hS := hS.over hk3 (.inr (.inl rfl)); clear hk3 hX3; simp only [List.set_cons_zero, List.set_cons_succ] at hX) | ((with_reducible refine at_store ?_); refine wpList_bag_putV (z := .slice A4 _ c4) hX siz_I _ _ rfl rfl rfl rfl rfl rfl (by simp) rfl rfl ?_; intro w4 hX3 hk3 hz3; clear hz3; replace hX := hX3; replace hS := hS.over hk3 (.inr (.inl rfl)); replace hI := hI.over hk3 (.inr (.inl rfl)); clear hk3 hX3; simp only [List.set_cons_zero, List.set_cons_succ] at hX) | ((with_reducible refine at_store ?_); refine wpList_bag_overV (cs' := [(.slice (some ⟨wA.heap.size, 0, none⟩) 0 0), (.slice A4 B.length c4), .bool false, .bool true, .bool false, .int .i64 0, .int .i64 0, .int .i64 0, .int .i64 0, .int .i64 0]) hX.swap aggK sizK _ _ rfl rfl rfl rfl rfl rfl rfl rfl (one_dk rfl rfl _ _ _ _ _ _ _ _) ?_; clear hX; intro wz hX hkz; replace hS := hS.over hkz (.inr (.inr rfl)); replace hI := hI.over hkz (.inr (.inr rfl)); clear hkz))
      exact bodyPost_ret (results_c Tryz.results68 rfl ((hX.all _ _ _ (.head _)).loadVar rfl aggK sizK)) rfl ⟨_, rfl, ⟨_, _, rfl, hS.less (fun _ h => .inl h), hI.less (fun _ h => .inl h)⟩, hX.below⟩
  · rcases Rz.form hb with ⟨rfl, h2, _⟩ | ⟨aB, cB, rfl, _⟩
    · obtain rfl : B = [] := List.eq_nil_of_length_eq_zero h2
      clear h2
      obtain ⟨wA, hwA⟩ : ∃ W, (w.alloc (.cells #[.slice (some aS) S.length cS, .slice none 0 0] 38)).alloc (.cells #[.slice none 0 0, .slice none 0 0, .bool false, .bool false, .bool false, .int .i64 0, .int .i64 0, .int .i64 0, .int .i64 0, .int .i64 0] 40) = W := ⟨_, rfl⟩
      replace hX : Bag [(w.heap.size + 1, 40, [.slice none 0 0, .slice none 0 0, .bool false, .bool false, .bool false, .int .i64 0, .int .i64 0, .int .i64 0, .int .i64 0, .int .i64 0]), (w.heap.size, 38, [.slice (some aS) S.length cS, .slice none 0 0])] w wA := hwA ▸ hX
      have hLA : w.heap.size + 1 < wA.heap.size := (hX.all _ _ _ (.head _)).lt
      go_enter Tryz.func68, Tryz.ntmps68
      go_wp2_with (first | ((with_reducible refine at_load ?_); refine wpList_bag_cell hX slS_cell _ rfl rfl rfl rfl (by first | exact .head _ | exact .tail _ (.head _)) rfl ?_) | ((with_reducible refine at_load ?_); refine wpList_bag_cell hX slI_cell _ rfl rfl rfl rfl (by first | exact .head _ | exact .tail _ (.head _)) rfl ?_) | ((with_reducible refine at_load ?_); refine wpList_bag_cell (Bag.step hX ((Below.refl _ _).alloc (Nat.le_refl _) (.cells #[] 9))) slS_cell _ rfl rfl rfl rfl (by first | exact .head _ | exact .tail _ (.head _)) rfl ?_) | ((with_reducible refine at_load ?_); refine wpList_bag_cell (Bag.step hX ((Below.refl _ _).alloc (Nat.le_refl _) (.cells #[] 3))) slI_cell _ rfl rfl rfl rfl (by first | exact .head _ | exact .tail _ (.head _)) rfl ?_) | ((with_reducible refine at_load ?_); refine wpList_bag_part (k := 0) hX aggD sizD _ rfl rfl rfl rfl (by first | exact .head _ | exact .tail _ (.head _)) (fun jz vz hz => (congrArg (fun n => ([_, _] : List Value)[n]?) (Nat.zero_add jz)).trans hz) rfl ?_) | (at_builtin; refine wpList_appS rfl (.tmp 3) (.tmp 5) rfl wA.heap.size _ 0 [] rfl (own_empty wA 9) aS S.length cS (S.map Value.string) rfl (by simp) (fun jz u h => Rz.cell (Rz.below hs (hX.below.alloc hX.below.size _)) jz u h) (one_str S) (by omega) (by simp) ?_; intro v1 w1 ho1 hb1 _; rw [Nat.zero_add, List.nil_append] at ho1; have hNN : w.heap.size + 2 ≤ wA.heap.size := hLA; replace hX := (Bag.step hX ((Below.refl _ _).alloc (Nat.le_refl _) (.cells #[] 9))).stepN hb1 (fun b hb => by simp at hb; rcases hb with rfl | rfl <;> simp <;> omega) (by omega); have hS := stsX_of (X := OwnA X w.heap.size) (S' := S) (ownA_lt hXl hNN) (hid rfl) (hid rfl) ho1; clear ho1 hb1; obtain ⟨A3, c3, rfl, _⟩ := hS.now.form) | (at_builtin; refine wpList_appI0 rfl (.tmp 8) (.tmp 10) rfl w3.heap.size _ 0 [] rfl (own_empty w3 3) rfl ?_; have hown := own_empty w3 3; have hNN : w.heap.size + 2 ≤ w3.heap.size := (show w.heap.size + 1 < w3.heap.size from (hX.all _ _ _ (.tail _ (.head _))).lt); replace hS := hS.below ((Below.refl _ _).alloc (Nat.le_refl _) (.cells #[] 3)); replace hX := Bag.step hX ((Below.refl _ _).alloc (Nat.le_refl _) (.cells #[] 3)); have hI := itsX_of (X := OwnA X w.heap.size) (S' := []) (ownA_lt hXl hNN) (hid rfl) (hid rfl) hown) | ((with_reducible refine at_store ?_); refine wpList_bag_putV (z := .slice A3 _ c3) hX.swap siz_S _ _ rfl rfl rfl rfl rfl rfl (by simp) rfl rfl ?_; intro w3 hX3 hk3 hz3; clear hz3; replace hX := hX3; replace hS := hS.over hk3 (.inr (.inl rfl)); clear hk3 hX3; simp only [List.set_cons_zero, List.set_cons_succ] at hX) | ((with_reducible refine at_store ?_); refine wpList_bag_putV (z := .slice (some ⟨w3.heap.size, 0, none⟩) 0 0) hX siz_I _ _ rfl rfl rfl rfl rfl rfl (by simp) rfl rfl ?_; intro w4 hX3 hk3 hz3; clear hz3; replace hX := hX3; replace hS := hS.over hk3 (.inr (.inl rfl)); replace hI := hI.over hk3 (.inr (.inl rfl)); clear hk3 hX3; simp only [List.set_cons_zero, List.set_cons_succ] at hX) | ((with_reducible refine at_store ?_); refine wpList_bag_overV (cs' := [(.slice A3 S.length c3), (.slice (some ⟨w3.heap.size, 0, none⟩) 0 0), .bool false, .bool true, .bool false, .int .i64 0, .int .i64 0, .int .i64 0, .int .i64 0, .int .i64 0]) hX.swap aggK sizK _ _ rfl rfl rfl rfl rfl rfl rfl rfl (one_dk rfl rfl _ _ _ _ _ _ _ _) ?_; clear hX; intro wz hX hkz; replace hS := hS.over hkz (.inr (.inr rfl)); replace hI := hI.over hkz (.inr (.inr rfl)); clear hkz))
      exact bodyPost_ret (results_c Tryz.results68 rfl ((hX.all _ _ _ (.head _)).loadVar rfl aggK sizK)) rfl ⟨_, rfl, ⟨_, _, rfl, hS.less (fun _ h => .inl h), hI.less (fun _ h => .inl h)⟩, hX.below⟩
    · skip
      obtain ⟨wA, hwA⟩ : ∃ W, (w.alloc (.cells #[.slice (some aS) S.length cS, .slice (some aB) B.length cB] 38)).alloc (.cells #[.slice none 0 0, .slice none 0 0, .bool false, .bool false, .bool false, .int .i64 0, .int .i64 0, .int .i64 0, .int .i64 0, .int .i64 0] 40) = W := ⟨_, rfl⟩
      replace hX : Bag [(w.heap.size + 1, 40, [.slice none 0 0, .slice none 0 0, .bool false, .bool false, .bool false, .int .i64 0, .int .i64 0, .int .i64 0, .int .i64 0, .int .i64 0]), (w.heap.size, 38, [.slice (some aS) S.length cS, .slice (some aB) B.length cB])] w wA := hwA ▸ hX
      have hLA : w.heap.size + 1 < wA.heap.size := (hX.all _ _ _ (.head _)).lt
      go_enter Tryz.func68, Tryz.ntmps68
      go_wp2_with (first | ((with_reducible refine at_load ?_); refine wpList_bag_cell hX slS_cell _ rfl rfl rfl rfl (by first | exact .head _ | exact .tail _ (.head _)) rfl ?_) | ((with_reducible refine at_load ?_); refine wpList_bag_cell hX slI_cell _ rfl rfl rfl rfl (by first | exact .head _ | exact .tail _ (.head _)) rfl ?_) | ((with_reducible refine at_load ?_); refine wpList_bag_cell (Bag.step hX ((Below.refl _ _).alloc (Nat.le_refl _) (.cells #[] 9))) slS_cell _ rfl rfl rfl rfl (by first | exact .head _ | exact .tail _ (.head _)) rfl ?_) | ((with_reducible refine at_load ?_); refine wpList_bag_cell (Bag.step hX ((Below.refl _ _).alloc (Nat.le_refl _) (.cells #[] 3))) slI_cell _ rfl rfl rfl rfl (by first | exact .head _ | exact .tail _ (.head _)) rfl ?_) | ((with_reducible refine at_load ?_); refine wpList_bag_part (k := 0) hX aggD sizD _ rfl rfl rfl rfl (by first | exact .head _ | exact .tail _ (.head _)) (fun jz vz hz => (congrArg (fun n => ([_, _] : List Value)[n]?) (Nat.zero_add jz)).trans hz) rfl ?_) | (at_builtin; refine wpList_appS rfl (.tmp 3) (.tmp 5) rfl wA.heap.size _ 0 [] rfl (own_empty wA 9) aS S.length cS (S.map Value.string) rfl (by simp) (fun jz u h => Rz.cell (Rz.below hs (hX.below.alloc hX.below.size _)) jz u h) (one_str S) (by omega) (by simp) ?_; intro v1 w1 ho1 hb1 _; rw [Nat.zero_add, List.nil_append] at ho1; have hNN : w.heap.size + 2 ≤ wA.heap.size := hLA; replace hX := (Bag.step hX ((Below.refl _ _).alloc (Nat.le_refl _) (.cells #[] 9))).stepN hb1 (fun b hb => by simp at hb; rcases hb with rfl | rfl <;> simp <;> omega) (by omega); have hS := stsX_of (X := OwnA X w.heap.size) (S' := S) (ownA_lt hXl hNN) (hid rfl) (hid rfl) ho1; clear ho1 hb1; obtain ⟨A3, c3, rfl, _⟩ := hS.now.form) | (at_builtin; refine wpList_appI rfl (.tmp 8) (.tmp 10) rfl w3.heap.size _ 0 [] rfl (own_empty w3 3) aB B.length cB (B.map (Value.int .i64)) rfl (by simp) (fun jz u h => Rz.cell (Rz.below hb (hX.below.alloc hX.below.size _)) jz u h) (one_int B) (by omega) (by simp) ?_; intro v2 w1 ho1 hb1 _; rw [Nat.zero_add, List.nil_append] at ho1; have hNN : w.heap.size + 2 ≤ w3.heap.size := (show w.heap.size + 1 < w3.heap.size from (hX.all _ _ _ (.tail _ (.head _))).lt); replace hS := hS.below (((Below.refl _ _).alloc (Nat.le_refl _) _).trans hb1); replace hX := (Bag.step hX ((Below.refl _ _).alloc (Nat.le_refl _) (.cells #[] 3))).stepN hb1 (fun b hb => by simp at hb; rcases hb with rfl | rfl <;> simp <;> omega) (by omega); have hI := itsX_of (X := OwnA X w.heap.size) (S' := B) (ownA_lt hXl hNN) (hid rfl) (hid rfl) ho1; clear ho1 hb1; obtain ⟨A4, c4, rfl, _⟩ := hI.now.form) | ((with_reducible refine at_store ?_); refine wpList_bag_putV (z := .slice A3 _ c3) hX.swap siz_S _ _ rfl rfl rfl rfl rfl rfl (by simp) rfl rfl ?_; intro w3 hX3 hk3 hz3; clear hz3; replace hX := hX3; replace hS := hS.over hk3 (.inr (.inl rfl)); clear hk3 hX3; simp only [List.set_cons_zero, List.set_cons_succ] at hX) | ((with_reducible refine at_store ?_); refine wpList_bag_putV (z := .slice A4 _ c4) hX siz_I _ _ rfl rfl rfl rfl rfl rfl (by simp) rfl rfl ?_; intro w4 hX3 hk3 hz3; clear hz3; replace hX := hX3; replace hS := hS.over hk3 (.inr (.inl rfl)); replace hI := hI.over hk3 (.inr (.inl rfl)); clear hk3 hX3; simp only [List.set_cons_zero, List.set_cons_succ] at hX) | ((with_reducible refine at_store ?_); refine wpList_bag_overV (cs' := [(.slice A3 S.length c3), (.slice A4 B.length c4), .bool false, .bool true, .bool false, .int .i64 0, .int .i64 0, .int .i64 0, .int .i64 0, .int .i64 0]) hX.swap aggK sizK _ _ rfl rfl rfl rfl rfl rfl rfl rfl (one_dk rfl rfl _ _ _ _ _ _ _ _) ?_; clear hX; intro wz hX hkz; replace hS := hS.over hkz (.inr (.inr rfl)); replace hI := hI.over hkz (.inr (.inr rfl)); clear hkz))
      exact bodyPost_ret (results_c Tryz.results68 rfl ((hX.all _ _ _ (.head _)).loadVar rfl aggK sizK)) rfl ⟨_, rfl, ⟨_, _, rfl, hS.less (fun _ h => .inl h), hI.less (fun _ h => .inl h)⟩, hX.below⟩
end Go.Proofs.YthpnddgfgpacpaaGreat
/-
  Tick of the reference: plain; without a transfer; ways that fail; check. Conditions: a valid controller and memory.
-/
namespace Go.Proofs.YthpnddgfgpacpaaGreat
open Go.RowKit
set_option linter.unusedSimpArgs false
set_option linter.unusedVariables false
set_option maxHeartbeats 4000000
set_option maxRecDepth 100000
attribute [local irreducible] wpQuiet

def Dk.n64 (K : Dk) : Nat := min K.w.toNat 64
/-- After a sector without an error. -/
def Dk.adv (K : Dk) (D : Drv) : Dk := { D := D, n := K.n, r := decide (K.w - (K.n64 : Int) = 0), e := K.e, c := K.c, w := K.w - (K.n64 : Int), a := (K.a + 2 * (K.n64 : Int)) % 65536, s := (K.s + 1) % 65536, l := if K.w - (K.n64 : Int) = 0 then 0 else 8 }
def Dk.l0 (K : Dk) : Dk := { K with l := 0 }
def putM (m : List Int) (A : Nat) (s : ByteArray) (k : Nat) : List Int := (List.range k).foldl (fun m i => m.set (A + i) (atV s i)) m
def outB (B : List Int) (a : Int) (n : Nat) : List Int := B.filter fun b => decide (b < a) || decide (a + 2 * (n : Int) ≤ b)
def Dk.tick (K : Dk) (m B : List Int) : Dk × List Int × List Int :=
  if K.l = 0 then (K, m, B)
  else if 1 < K.l then ({ K with l := K.l - 1 }, m, B)
  else if 2 * (m.length : Int) < K.a + 2 * (K.n64 : Int) then (K.l0.fail, m, B)
  else if K.c ≠ 2 ∧ (K.D.rd K.s).2 ≠ 0 then (K.l0.fail, m, B)
  else if K.c ≠ 1 ∧ spV B K.a K.n64 = true then (K.l0.fail, m, B)
  else if K.c = 3 ∧ dfW m (K.a / 2).toNat K.n64 (K.D.rd K.s).1 = true then (K.l0.fail, m, B)
  else if K.c = 2 then (if (K.D.wr K.s (secV m (K.a / 2).toNat K.n64)).2 = 0 then (K.adv (K.D.wr K.s (secV m (K.a / 2).toNat K.n64)).1, m, B) else (K.l0.fail, m, B))
  else if K.c = 1 then (K.adv K.D, putM m (K.a / 2).toNat (K.D.rd K.s).1 K.n64, outB B K.a K.n64)
  else (K.adv K.D, m, B)
theorem siz_int (w : World) : (sizeOf 3).run Tryz.prog w = .ok 1 w := by kernel_rfl
theorem siz_bool (w : World) : (sizeOf 4).run Tryz.prog w = .ok 1 w := by kernel_rfl
end Go.Proofs.YthpnddgfgpacpaaGreat
/-
  Package memory, plain: sizes, valid memories, bytes of words, what Read, Write, Spoil, Bytes, Store and Move answer. No condition.
-/
namespace Go.Proofs.YthpnddgfgpacpaaGreat
set_option linter.unusedSimpArgs false

def okS (n : Int) : Bool := decide (256 ≤ n) && (decide (n ≤ 32768) && decide (n % 64 = 0))
def newL (n : Int) : List Int := if okS n = true then List.replicate (n / 2).toNat 0 else []
def newE (n : Int) : Int := if okS n = true then 0 else 1
def wordsB : List Int → Bool
  | [] => true
  | x :: r => (decide (0 ≤ x) && decide (x ≤ 65535)) && wordsB r
def badB (n : Int) : Int → List Int → Bool
  | _, [] => true
  | low, x :: r => (decide (low ≤ x) && (decide (x % 2 = 0) && decide (x < n))) && badB n (x + 2) r
def rightP (mem bad : List Int) : Bool := okS (2 * (mem.length : Int)) && (wordsB mem && badB (2 * (mem.length : Int)) 0 bad)

def accP (n a : Int) (b : Bool) : Bool := (b || decide (a % 2 = 0)) && (decide (0 ≤ a) && decide (a < n))
/-- The byte at an address. -/
def byteN (l : List Int) (a : Nat) : Int := l.getD (a / 2) 0 / (256 : Int) ^ (a % 2) % 256
/-- A word whose byte r is v. -/
def setW (x : Int) (r : Nat) (v : Int) : Int := if r = 0 then x / 256 * 256 + v % 256 else v % 256 * 256 + x % 256
def setN (l : List Int) (a : Nat) (v : Int) : List Int := l.set (a / 2) (setW (l.getD (a / 2) 0) (a % 2) v)
def evenP (a : Int) : Int := a - a % 2
def readT (n : Int) (bad : List Int) (a : Int) (b : Bool) : Int := if accP n a b = true then (if bad.contains (evenP a) = true then 9 else 0) else 1
def readV (mem bad : List Int) (a : Int) (b : Bool) : Int :=
  if readT (2 * (mem.length : Int)) bad a b = 0 then (if b = true then byteN mem a.toNat else mem.getD (a.toNat / 2) 0) else 0
def writeT (n a : Int) (b : Bool) : Int := if accP n a b = true then 0 else 1
def withoutP (bad : List Int) (x : Int) : List Int := bad.filter (fun y => y != x)
def wordW (mem : List Int) (a : Int) (b : Bool) (v : Int) : List Int := if b = true then setN mem a.toNat v else mem.set (a.toNat / 2) (v % 65536)
def writeM (mem : List Int) (a : Int) (b : Bool) (v : Int) : List Int := if accP (2 * (mem.length : Int)) a b = true then wordW mem a b v else []
def writeB (n : Int) (bad : List Int) (a : Int) (b : Bool) : List Int := if accP n a b = true then withoutP bad (evenP a) else []
def inR (n a k : Int) : Bool := decide (0 ≤ a) && (decide (0 ≤ k) && decide (k ≤ n - a))
def bytesN (l : List Int) (a : Nat) : Nat → List UInt8
  | 0 => []
  | k + 1 => UInt8.ofNat (byteN l a).toNat :: bytesN l (a + 1) k
def storeN (l : List Int) (a : Nat) : List UInt8 → List Int
  | [] => l
  | c :: r => storeN (setN l a (c.toNat : Int)) (a + 1) r
theorem wordsB_iff : ∀ (l : List Int), wordsB l = true ↔ ∀ x ∈ l, 0 ≤ x ∧ x ≤ 65535
  | [] => by simp [wordsB]
  | a :: r => by simp [wordsB, wordsB_iff r]
theorem badB_iff (n : Int) : ∀ (l : List Int) (low : Int), badB n low l = true ↔ (∀ x ∈ l, low ≤ x ∧ x % 2 = 0 ∧ x < n) ∧ l.Pairwise (· < ·)
  | [], low => by simp [badB]
  | a :: r, low => by
    simp only [badB, Bool.and_eq_true, decide_eq_true_eq, badB_iff n r, List.forall_mem_cons, List.pairwise_cons]
    constructor
    · rintro ⟨⟨h1, h2, h3⟩, h4, h5⟩
      exact ⟨⟨⟨h1, h2, h3⟩, fun x hx => by have := h4 x hx; exact ⟨by omega, this.2⟩⟩, fun x hx => by have := h4 x hx; omega, h5⟩
    · rintro ⟨⟨⟨h1, h2, h3⟩, h4⟩, h5, h6⟩
      exact ⟨⟨h1, h2, h3⟩, fun x hx => by have := h4 x hx; have := h5 x hx; omega, h6⟩
end Go.Proofs.YthpnddgfgpacpaaGreat
/-
  The tape unit: plain. No condition.
-/
namespace Go.Proofs.YthpnddgfgpacpaaGreat
open Go.RowKit
set_option linter.unusedSimpArgs false
set_option linter.unusedVariables false
set_option maxHeartbeats 4000000
set_option maxRecDepth 100000
attribute [local irreducible] wpQuiet

/-- A tape unit: its records; the place of the head; enabled, ready, error, mark, end; command, count, address, ticks left. -/
structure Tp where
  R : List ByteArray
  p : Int
  n : Bool
  r : Bool
  e : Bool
  m : Bool
  d : Bool
  c : Int
  k : Int
  a : Int
  l : Int
def Tp.z : Tp := ⟨[], 0, false, false, false, false, false, 0, 0, 0, 0⟩
def Tp.new (R : List ByteArray) : Tp := ⟨R, 0, false, true, false, false, false, 0, 0, 0, 0⟩
def shortV (R : List ByteArray) : Bool := R.all (fun s => decide (s.size ≤ 512))
def newT (R : List ByteArray) : Tp × Int := if 64 < R.length then (Tp.z, 12) else if shortV R = true then (Tp.new R, 0) else (Tp.z, 7)
def wordV_17 (n : Int) : Bool := decide (0 ≤ n) && decide (n ≤ 65535)
/-- Are its fields valid, but for the records' lengths? -/
def Tp.ok (K : Tp) : Bool := decide (K.R.length ≤ 64) && decide (0 ≤ K.p) && decide (K.p ≤ (K.R.length : Int)) && decide (0 ≤ K.c) && decide (K.c ≤ 6) && wordV_17 K.k && wordV_17 K.a && decide (0 ≤ K.l) && decide (K.l ≤ 16) && (K.r == decide (K.l = 0))
def Tp.right (K : Tp) : Bool := K.ok && shortV K.R
def stT (K : Tp) : Int := 2 * K.c + (if K.n = true then 64 else 0) + (if K.r = true then 128 else 0) + (if K.m = true then 256 else 0) + (if K.d = true then 512 else 0) + (if K.e = true then 32768 else 0)
def Tp.rd (K : Tp) (g : Int) : Int × Bool := if g = 0 then (stT K, true) else if g = 2 then (K.k, true) else if g = 4 then (K.a, true) else (0, false)
/-- A command is started. -/
def Tp.go (K : Tp) (q : Int) : Tp := if q = 0 ∨ q = 7 then { K with c := 0, e := false, m := false, d := false } else { K with c := q, e := false, m := false, d := false, r := false, l := 16 }
def Tp.wr (K : Tp) (g v : Int) : Tp × Bool :=
  if g = 0 then (if K.r = true ∧ v % 2 = 1 then ({ K with n := decide (v / 64 % 2 = 1) }.go (v / 2 % 8), true) else ({ K with n := decide (v / 64 % 2 = 1) }, true))
  else if g = 2 then (if K.r = true then { K with k := v % 65536 } else K, true)
  else if g = 4 then (if K.r = true then { K with a := v % 65536 } else K, true)
  else (K, false)
def Tp.acc (K : Tp) (v : Int) : Tp := if v = 164 then { K with n := false } else K
def Tp.req (K : Tp) : List (Int × Int) := if K.n = true ∧ K.r = true then [(5, 164)] else []
def Tp.reset (K : Tp) : Tp := { K with n := false, e := false, m := false, d := false, c := 0, l := 0, r := true }
/-- A record is appended. -/
def Tp.app (K : Tp) (s : ByteArray) : Tp := if 64 ≤ K.p then { K with e := true, d := true } else { K with R := K.R.take K.p.toNat ++ [s], p := K.p + 1 }
/-- The next record is passed. -/
def recV (K : Tp) (i : Int) : ByteArray := K.R.getD i.toNat ⟨#[]⟩
def Tp.pass (K : Tp) : Tp × Bool := if (K.R.length : Int) ≤ K.p then ({ K with e := true, d := true }, false) else ({ K with m := K.m || decide ((recV K K.p).size = 0), p := K.p + 1 }, true)
def Tp.back (K : Tp) : Tp := if K.p = 0 then { K with d := true } else { K with p := K.p - 1, m := K.m || decide ((recV K (K.p - 1)).size = 0) }
def clrV (B : List Int) (a : Int) : Nat → List Int
  | 0 => B
  | n + 1 => withoutP (clrV B a n) ((a + (n : Int)) / 2 * 2)
def splV (B : List Int) (a : Int) (n : Nat) : Bool := (List.range n).any (fun i => B.contains ((a + (i : Int)) / 2 * 2))
def lenR (K : Tp) : Nat := (recV K K.p).size
def cntR (K : Tp) : Nat := min K.k.toNat (lenR K)
def Tp.read (K : Tp) (M B : List Int) : Tp × List Int × List Int :=
  if (K.R.length : Int) ≤ K.p then (K.pass.1, M, B)
  else if inR (2 * (M.length : Int)) K.a (cntR K) = true then ({ K.pass.1 with e := K.e || decide (K.k < (lenR K : Int)), k := K.k - (cntR K : Int) }, storeN M K.a.toNat ((recV K K.p).data.toList.take (cntR K)), clrV B K.a (cntR K))
  else ({ K.pass.1 with e := true }, M, B)
def strV (l : List UInt8) : ByteArray := ⟨l.toArray⟩
def Tp.write (K : Tp) (M B : List Int) : Tp :=
  if (1 ≤ K.k ∧ K.k ≤ 512) ∧ inR (2 * (M.length : Int)) K.a K.k = true ∧ splV B K.a K.k.toNat = false then K.app (strV (bytesN M K.a.toNat K.k.toNat)) else { K with e := true }
def Tp.done (K : Tp) (M B : List Int) : Tp × List Int × List Int :=
  if K.c = 1 then K.read M B else if K.c = 2 then (K.write M B, M, B) else if K.c = 3 then (K.pass.1, M, B) else if K.c = 4 then (K.back, M, B) else if K.c = 5 then ({ K with p := 0 }, M, B) else if K.c = 6 then (K.app ⟨#[]⟩, M, B) else (K, M, B)
def Tp.tick (K : Tp) (M B : List Int) : Tp × List Int × List Int := if K.l ≤ 0 then (K, M, B) else if 1 < K.l then ({ K with l := K.l - 1 }, M, B) else { K with l := 0, r := true }.done M B
/-- A unit in memory. -/
def TpX (X : Nat → Prop) (w : World) (x : Value) (K : Tp) : Prop := ∃ vs, x = .agg #[vs, .int .i64 K.p, .bool K.n, .bool K.r, .bool K.e, .bool K.m, .bool K.d, .int .i64 K.c, .int .i64 K.k, .int .i64 K.a, .int .i64 K.l] ∧ StsX X w vs K.R
theorem TpX.below {X : Nat → Prop} {w w' : World} {x : Value} {K : Tp} (h : TpX X w x K) (hb : Below w.heap.size w w') : TpX X w' x K := by
  obtain ⟨vs, e, h1⟩ := h
  exact ⟨vs, e, h1.below hb⟩
theorem TpX.z (X : Nat → Prop) (w : World) : TpX X w (.agg #[.slice none 0 0, .int .i64 0, .bool false, .bool false, .bool false, .bool false, .bool false, .int .i64 0, .int .i64 0, .int .i64 0, .int .i64 0]) Tp.z := ⟨_, rfl, Sv.nil X w⟩
theorem wordV_iff_17 (n : Int) : wordV_17 n = true ↔ 0 ≤ n ∧ n ≤ 65535 := by unfold wordV_17; simp
theorem shortV_iff (R : List ByteArray) : shortV R = true ↔ ∀ s ∈ R, s.size ≤ 512 := by unfold shortV; simp
theorem Tp.ok_iff (K : Tp) : K.ok = true ↔ K.R.length ≤ 64 ∧ (0 ≤ K.p ∧ K.p ≤ (K.R.length : Int)) ∧ (0 ≤ K.c ∧ K.c ≤ 6) ∧ wordV_17 K.k = true ∧ wordV_17 K.a = true ∧ (0 ≤ K.l ∧ K.l ≤ 16) ∧ K.r = decide (K.l = 0) := by
  unfold Tp.ok; simp only [Bool.and_eq_true, decide_eq_true_eq, beq_iff_eq]; constructor
  · rintro ⟨⟨⟨⟨⟨⟨⟨⟨⟨h1, h2⟩, h3⟩, h4⟩, h5⟩, h6⟩, h7⟩, h8⟩, h9⟩, h10⟩; exact ⟨h1, ⟨h2, h3⟩, ⟨h4, h5⟩, h6, h7, ⟨h8, h9⟩, h10⟩
  · rintro ⟨h1, ⟨h2, h3⟩, ⟨h4, h5⟩, h6, h7, ⟨h8, h9⟩, h10⟩; exact ⟨⟨⟨⟨⟨⟨⟨⟨⟨h1, h2⟩, h3⟩, h4⟩, h5⟩, h6⟩, h7⟩, h8⟩, h9⟩, h10⟩
theorem aggT (w : World) : (isAgg 42).run Tryz.prog w = .ok true w := by kernel_rfl
theorem sizT (w : World) : (sizeOf 42).run Tryz.prog w = .ok 11 w := by kernel_rfl
theorem two_tp (w : World) (cs ds : List Value) : Bag [(w.heap.size + 1, 42, ds), (w.heap.size, 42, cs)] w ((w.alloc (.cells cs.toArray 42)).alloc (.cells ds.toArray 42)) := by
  have h := ((Bag.nil w).new 42 cs).new 42 ds
  rw [show (w.alloc (.cells cs.toArray 42)).heap.size = w.heap.size + 1 from Array.size_push ..] at h
  exact h
theorem one_tp {vs : Value} (h1 : vs.oneCell' = true) (p : Int) (n r e m d : Bool) (c k a l : Int) : ∀ v ∈ ([vs, .int .i64 p, .bool n, .bool r, .bool e, .bool m, .bool d, .int .i64 c, .int .i64 k, .int .i64 a, .int .i64 l] : List Value), v.oneCell' = true := by
  intro u hu
  simp at hu
  rcases hu with rfl | rfl | rfl | rfl | rfl | rfl | rfl | rfl | rfl | rfl | rfl <;> first | rfl | assumption
end Go.Proofs.YthpnddgfgpacpaaGreat
