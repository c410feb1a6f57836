/-
  alive. Condition: the contracts of package drive.
-/
import Derived.Test.YtohfniejflibmaaDvJ
namespace Go.Proofs.Ytohfniejflibmaa
open Go.RowKit
set_option linter.unusedSimpArgs false
set_option linter.unusedVariables false
set_option maxHeartbeats 4000000
set_option maxRecDepth 100000
attribute [local irreducible] wpQuiet

theorem bA {w w' : World} (h : Below w.heap.size w w') (o : Obj) : Below w.heap.size w (w'.alloc o) := h.alloc h.size o
theorem bT {w w' w2 : World} (h : Below w.heap.size w w') (h2 : Below w'.heap.size w' w2) : Below w.heap.size w w2 := h.trans (h2.mono h.size)
theorem wgoal {K : Act → World → Prop} {Q : Exit → Act → World → Prop} {a : Act} {w w' : World} (hb : Below w.heap.size w w') (h : ∀ w', Below w.heap.size w w' → Exit.then K Q .normal a w') : Exit.then K Q .normal a w' := h w' hb
theorem add_nul (a : Addr) : a.add 0 = a := by unfold Addr.add; split <;> simp_all
theorem made129 : madeCells #[Value.int .u8 0] 129 = (List.replicate 129 (Value.int .u8 0)).toArray := by kernel_rfl
theorem conv129 (w : World) (B : Nat) (h : Blk 5 w B (List.replicate 129 (.int .u8 0))) : (convert 50 9 (.slice (some ⟨B, 0, none⟩) 129 129)).run Try.prog w = .ok (.string (zB 129)) w := by
  have e := run_convert_bytes_back (P := Try.prog) w 50 9 5 ⟨B, 0, none⟩ 129 (List.replicate 129 0) Try.underlying50 Try.underlying5 Try.underlying9 (fun j hj => by
    have hj' : j < 129 := by simpa using hj
    have e1 : (⟨B, 0, none⟩ : Addr).add j = ⟨B, j, none⟩ := by unfold Addr.add; split <;> simp_all
    rw [e1, h.cell (k := j) (v := .int .u8 0) (by rw [List.getElem?_replicate, if_pos hj'])]
    rw [List.getElem_replicate]; rfl)
  rw [List.length_replicate] at e
  exact e
theorem ab_size : ((⟨#[97, 98]⟩ : ByteArray) ++ zB 126).size = 128 := by decide +kernel
theorem ab_two : ((⟨#[97, 98]⟩ : ByteArray) ++ zB 126).extract 0 2 = (⟨#[97, 98]⟩ : ByteArray) := by decide +kernel
theorem ab_last (h : 127 < ((⟨#[97, 98]⟩ : ByteArray) ++ zB 126).size) : ((⟨#[97, 98]⟩ : ByteArray) ++ zB 126)[127]'h = 0 := by
  have e : ((⟨#[97, 98]⟩ : ByteArray) ++ zB 126)[127]'(by decide +kernel) = 0 := by decide +kernel
  exact e
/-- The three writes in a block of their own. -/
def c3 : List Value := [.int .i64 1, .string ⟨#[]⟩, .int .i64 0, .string ⟨#[]⟩, .int .i64 1, .string ⟨#[]⟩]
theorem q3_at (w : World) (t : TypeId) : Wts (w.alloc (.cells c3.toArray t)) (.slice (some ⟨w.heap.size, 0, none⟩) 3 3) q3 := by
  refine ⟨⟨some ⟨w.heap.size, 0, none⟩, 3, rfl, Nat.le_refl _, fun j u hu => ?_⟩, fun m c h => by cases h⟩
  refine ⟨_, rfl, ?_⟩
  have hb := Blk.new t w c3
  have e1 : (⟨w.heap.size, 0, none⟩ : Addr).add j = ⟨w.heap.size, j, none⟩ := by unfold Addr.add; split <;> simp_all
  rw [e1]
  exact ⟨hb.cell hu, hb.lt⟩
theorem alive_true (W0 : World) (H : DvC W0) : Calls Try.prog 13 #[] W0 fun e' w' => e' = .returned (.bool true) ∧ Below W0.heap.size W0 w' := by
  have n1 : ∀ w, Below W0.heap.size W0 w → Calls Try.prog 10 #[.int .i64 2] w fun e w' => ∃ x, e = .returned (.tuple #[x, .int .i64 0]) ∧ DvX (fun _ : Nat => False) w' x d1 ∧ Below w.heap.size w w' := fun w hb => H.new 2 (fun _ : Nat => False) w hb (fun _ h => False.elim h)
  have a1 : ∀ vs vb w, Below W0.heap.size W0 w → StsX (fun _ : Nat => False) w vs d1.S → ItsX (fun _ : Nat => False) w vb d1.B → Calls Try.prog 20 #[.agg #[vs, vb], .int .i64 1, .string (⟨#[97, 98]⟩ : ByteArray)] w fun e w' => ∃ x, e = .returned (.tuple #[x, .int .i64 0]) ∧ DvX (fun _ : Nat => False) w' x d2 ∧ Below w.heap.size w w' := fun vs vb w hb h1 h2 => by
    have h := H.write d1 1 (⟨#[97, 98]⟩ : ByteArray) vs vb (fun _ : Nat => False) w hb d1_right (fun _ h => False.elim h) h1 h2
    rw [d1_wr] at h; exact h
  have b1 : ∀ vs vb w, Below W0.heap.size W0 w → Sts w vs d2.S → Its w vb d2.B → Calls Try.prog 18 #[.agg #[vs, vb], .int .i64 1] w fun e w' => e = .returned (.tuple #[.string ((⟨#[97, 98]⟩ : ByteArray) ++ zB 126), .int .i64 0]) ∧ Below w.heap.size w w' := fun vs vb w hb h1 h2 => by
    have h := H.read d2 1 vs vb w hb d2_right h1 h2
    rw [d2_rd] at h; exact h
  have f1 : ∀ vs vb vs2 vb2 w, Below W0.heap.size W0 w → Sts w vs d1.S → Its w vb d1.B → Sts w vs2 d2.S → Its w vb2 d2.B → Calls Try.prog 27 #[.agg #[vs, vb], .agg #[vs2, vb2]] w fun e w' => ∃ v, e = .returned v ∧ ItsX (fun _ : Nat => False) w' v [1] ∧ Below w.heap.size w w' := fun vs vb vs2 vb2 w hb h1 h2 h3 h4 => by
    have h := H.diff d1 d2 vs vb vs2 vb2 (fun _ : Nat => False) w hb (by decide) (by decide) (fun _ h => False.elim h) h1 h2 h3 h4
    rw [d2_df] at h; exact h
  have s1 : ∀ vs vb w, Below W0.heap.size W0 w → StsX (fun _ : Nat => False) w vs d2.S → ItsX (fun _ : Nat => False) w vb d2.B → Calls Try.prog 22 #[.agg #[vs, vb], .int .i64 0] w fun e w' => ∃ x, e = .returned (.tuple #[x, .int .i64 0]) ∧ DvX (fun _ : Nat => False) w' x d3 ∧ Below w.heap.size w w' := fun vs vb w hb h1 h2 => by
    have h := H.spoil d2 0 vs vb (fun _ : Nat => False) w hb d2_right (fun _ h => False.elim h) h1 h2
    rw [d2_sp] at h; exact h
  have b2 : ∀ vs vb w, Below W0.heap.size W0 w → Sts w vs d3.S → Its w vb d3.B → Calls Try.prog 18 #[.agg #[vs, vb], .int .i64 0] w fun e w' => e = .returned (.tuple #[.string ⟨#[]⟩, .int .i64 21]) ∧ Below w.heap.size w w' := fun vs vb w hb h1 h2 => by
    have h := H.read d3 0 vs vb w hb d3_right h1 h2
    rw [d3_rd] at h; exact h
  have b3 : ∀ vs vb w, Below W0.heap.size W0 w → Sts w vs d3.S → Its w vb d3.B → Calls Try.prog 18 #[.agg #[vs, vb], .int .i64 2] w fun e w' => e = .returned (.tuple #[.string ⟨#[]⟩, .int .i64 2]) ∧ Below w.heap.size w w' := fun vs vb w hb h1 h2 => by
    have h := H.read d3 2 vs vb w hb d3_right h1 h2
    rw [d3_rd2] at h; exact h
  have a2 : ∀ (s : ByteArray) vs vb w, s.size = 129 → Below W0.heap.size W0 w → StsX (fun _ : Nat => False) w vs d3.S → ItsX (fun _ : Nat => False) w vb d3.B → Calls Try.prog 20 #[.agg #[vs, vb], .int .i64 0, .string s] w fun e w' => ∃ x, e = .returned (.tuple #[x, .int .i64 7]) ∧ DvX (fun _ : Nat => False) w' x Drv.z ∧ Below w.heap.size w w' := fun s vs vb w hz hb h1 h2 => by
    have h := H.write d3 0 s vs vb (fun _ : Nat => False) w hb d3_right (fun _ h => False.elim h) h1 h2
    rw [d3_wr s hz] at h; exact h
  have p1 : ∀ vs vb w, Below W0.heap.size W0 w → StsX (fun _ : Nat => False) w vs d3.S → ItsX (fun _ : Nat => False) w vb d3.B → Calls Try.prog 25 #[.agg #[vs, vb], .slice (some ⟨w.heap.size, 0, none⟩) 3 3, .int .i64 (-1)] (w.alloc (.cells ([.int .i64 1, .string ⟨#[]⟩, .int .i64 0, .string ⟨#[]⟩, .int .i64 1, .string ⟨#[]⟩] : List Value).toArray 45)) fun e w' => ∃ x, e = .returned (.tuple #[x, .int .i64 1, .int .i64 21]) ∧ DvX (fun _ : Nat => False) w' x ⟨[zB 128, zB 128], [0]⟩ ∧ Below w.heap.size w w' := fun vs vb w hb h1 h2 => by
    have h := H.apply d3 q3 (-1) vs vb (.slice (some ⟨w.heap.size, 0, none⟩) 3 3) (fun _ : Nat => False) _ (bT hb (bA (Below.refl _ _) _)) d3_right (by decide) (fun _ h => False.elim h) (h1.below (bA (Below.refl _ _) _)) (h2.below (bA (Below.refl _ _) _)) (q3_at w 45)
    rw [d3_ap] at h
    exact h.mono fun e w' ⟨x, h1, h2, h3⟩ => ⟨x, h1, h2, bT (bA (Below.refl _ _) _) h3⟩
  have p2 : ∀ vs vb w, Below W0.heap.size W0 w → StsX (fun _ : Nat => False) w vs d3.S → ItsX (fun _ : Nat => False) w vb d3.B → Calls Try.prog 25 #[.agg #[vs, vb], .slice (some ⟨w.heap.size, 0, none⟩) 3 3, .int .i64 (1)] (w.alloc (.cells ([.int .i64 1, .string ⟨#[]⟩, .int .i64 0, .string ⟨#[]⟩, .int .i64 1, .string ⟨#[]⟩] : List Value).toArray 45)) fun e w' => ∃ x, e = .returned (.tuple #[x, .int .i64 1, .int .i64 0]) ∧ DvX (fun _ : Nat => False) w' x ⟨[zB 128, zB 128], [0]⟩ ∧ Below w.heap.size w w' := fun vs vb w hb h1 h2 => by
    have h := H.apply d3 q3 (1) vs vb (.slice (some ⟨w.heap.size, 0, none⟩) 3 3) (fun _ : Nat => False) _ (bT hb (bA (Below.refl _ _) _)) d3_right (by decide) (fun _ h => False.elim h) (h1.below (bA (Below.refl _ _) _)) (h2.below (bA (Below.refl _ _) _)) (q3_at w 45)
    rw [d3_ap1] at h
    exact h.mono fun e w' ⟨x, h1, h2, h3⟩ => ⟨x, h1, h2, bT (bA (Below.refl _ _) _) h3⟩
  have hX := Bag.nil W0
  go_enter Try.func13, Try.ntmps13
  go_wp2_with (first | (go_at_call 10; first | ((with_reducible refine (n1 _ hX.below).mono ?_); rintro e' w1 ⟨x, rfl, ⟨vs1, vb1, rfl, hs1, hb1⟩, hbb⟩; (try replace hs1 := hs1.below hbb); (try replace hb1 := hb1.below hbb); (try replace hs2 := hs2.below hbb); (try replace hb2 := hb2.below hbb); (try replace hs3 := hs3.below hbb); (try replace hb3 := hb3.below hbb); (try replace hl := hl.below hbb); replace hX := hX.step hbb; clear hbb)) | (go_at_call 20; first | ((with_reducible refine (a1 _ _ _ hX.below hs1 hb1).mono ?_); rintro e' w2 ⟨x, rfl, ⟨vs2, vb2, rfl, hs2, hb2⟩, hbb⟩; (try replace hs1 := hs1.below hbb); (try replace hb1 := hb1.below hbb); (try replace hs2 := hs2.below hbb); (try replace hb2 := hb2.below hbb); (try replace hs3 := hs3.below hbb); (try replace hb3 := hb3.below hbb); (try replace hl := hl.below hbb); replace hX := hX.step hbb; clear hbb)) | (go_at_call 22; first | ((with_reducible refine (s1 _ _ _ hX.below hs2 hb2).mono ?_); rintro e' w3 ⟨x, rfl, ⟨vs3, vb3, rfl, hs3, hb3⟩, hbb⟩; (try replace hs1 := hs1.below hbb); (try replace hb1 := hb1.below hbb); (try replace hs2 := hs2.below hbb); (try replace hb2 := hb2.below hbb); (try replace hs3 := hs3.below hbb); (try replace hb3 := hb3.below hbb); (try replace hl := hl.below hbb); replace hX := hX.step hbb; clear hbb)) | (go_at_call 18; first | ((with_reducible refine (b1 _ _ _ hX.below hs2.now hb2.now).mono ?_); rintro e' w4 ⟨rfl, hbb⟩; (try replace hs1 := hs1.below hbb); (try replace hb1 := hb1.below hbb); (try replace hs2 := hs2.below hbb); (try replace hb2 := hb2.below hbb); (try replace hs3 := hs3.below hbb); (try replace hb3 := hb3.below hbb); (try replace hl := hl.below hbb); replace hX := hX.step hbb; clear hbb) | ((with_reducible refine (b2 _ _ _ hX.below hs3.now hb3.now).mono ?_); rintro e' w4 ⟨rfl, hbb⟩; (try replace hs1 := hs1.below hbb); (try replace hb1 := hb1.below hbb); (try replace hs2 := hs2.below hbb); (try replace hb2 := hb2.below hbb); (try replace hs3 := hs3.below hbb); (try replace hb3 := hb3.below hbb); (try replace hl := hl.below hbb); replace hX := hX.step hbb; clear hbb) | ((with_reducible refine (b3 _ _ _ hX.below hs3.now hb3.now).mono ?_); rintro e' w4 ⟨rfl, hbb⟩; (try replace hs1 := hs1.below hbb); (try replace hb1 := hb1.below hbb); (try replace hs2 := hs2.below hbb); (try replace hb2 := hb2.below hbb); (try replace hs3 := hs3.below hbb); (try replace hb3 := hb3.below hbb); (try replace hl := hl.below hbb); replace hX := hX.step hbb; clear hbb)) | (go_at_call 27; (with_reducible refine (f1 _ _ _ _ _ hX.below hs1.now hb1.now hs2.now hb2.now).mono ?_); rintro e' w4 ⟨vl, rfl, hl, hbb⟩; (try replace hs1 := hs1.below hbb); (try replace hb1 := hb1.below hbb); (try replace hs2 := hs2.below hbb); (try replace hb2 := hb2.below hbb); (try replace hs3 := hs3.below hbb); (try replace hb3 := hb3.below hbb); replace hX := hX.step hbb; clear hbb) | ((with_reducible refine at_store ?_); refine wpList_bag_storeB (zs := [.slice none 0 0, .slice none 0 0]) hX aggD sizD _ _ rfl rfl rfl rfl rfl rfl rfl rfl (by first | exact two_one (sts_one hs3.now) (its_one hb3.now) | exact two_one (sts_one hs2.now) (its_one hb2.now) | exact two_one (sts_one hs1.now) (its_one hb1.now)) ?_; clear hX; intro wz hX hbb; (try replace hs1 := hs1.below hbb); (try replace hb1 := hb1.below hbb); (try replace hs2 := hs2.below hbb); (try replace hb2 := hb2.below hbb); (try replace hs3 := hs3.below hbb); (try replace hb3 := hb3.below hbb); (try replace hl := hl.below hbb); clear hbb) | ((with_reducible refine at_load ?_); refine wpList_bag_part (k := 0) hX aggD sizD _ rfl rfl rfl rfl (by first | exact .head _ | exact .tail _ (.head _) | exact .tail _ (.tail _ (.head _)) | exact .tail _ (.tail _ (.tail _ (.head _))) | exact .tail _ (.tail _ (.tail _ (.tail _ (.head _)))) | exact .tail _ (.tail _ (.tail _ (.tail _ (.tail _ (.head _)))))) (fun jz vz hz => (congrArg (fun n => ([_, _] : List Value)[n]?) (Nat.zero_add jz)).trans hz) rfl ?_))
  have kp : ∀ W, Below w4.heap.size w4 W → (fun w2 => Below w4.heap.size w4 w2 ∧ w2.cell? ⟨w3.heap.size, 0, none⟩ = some vs3 ∧ w2.frozen? ⟨w3.heap.size, 0, none⟩ = false ∧ w2.cell? ⟨w3.heap.size, 1, none⟩ = some vb3 ∧ w2.frozen? ⟨w3.heap.size, 1, none⟩ = false) W := fun W hW => by
    have hb := (Bag.step hX hW).all _ _ _ (.head _)
    exact ⟨hW, hb.cell (k := 0) rfl, hb.frozen 0, hb.cell (k := 1) rfl, hb.frozen 1⟩
  have hz129 := zB_size 129
  obtain ⟨Z, hZ⟩ : ∃ Z : List Value, List.replicate 129 (Value.int .u8 0) = Z := ⟨_, rfl⟩
  have hmk : ∀ w, (Instr.makeSlice 50 (.int .i64 129) (.int .i64 129)).run Try.prog w = .ok (.slice (some ⟨w.heap.size, 0, none⟩) 129 129) (w.alloc (.cells Z.toArray 5)) := fun w => by
    rw [← hZ, ← made129]
    exact run_make_row' (P := Try.prog) 50 5 (.int .u8 0) 1 Try.underlying50 infU rfl .i64 .i64 129 (by omega) (by omega) w
  have hcv : ∀ W B, Blk 5 W B Z → (convert 50 9 (.slice (some ⟨B, 0, none⟩) 129 129)).run Try.prog W = .ok (.string (zB 129)) W := fun W B h => conv129 W B (hZ ▸ h)
  have hcv1 := hcv _ _ (Blk.new 5 w4 Z).drew
  have hcv2 := hcv _ _ ((Blk.new 5 w4 Z).alloc (.cells ([.slice none 0 0, .slice none 0 0] : List Value).toArray 25)).drew
  have hcv3 := hcv _ _ (Blk.new 5 (w4.alloc (.cells ([.slice none 0 0, .slice none 0 0] : List Value).toArray 25)) Z).drew
  have hcv4 := hcv3
  rw [show (w4.alloc (.cells ([.slice none 0 0, .slice none 0 0] : List Value).toArray 25)).heap.size = w4.heap.size + 1 from Array.size_push ..] at hcv4
  clear hcv
  replace hZ := hid hZ
  go_region_held (fun w2 => Below w4.heap.size w4 w2 ∧ w2.cell? ⟨w3.heap.size, 0, none⟩ = some vs3 ∧ w2.frozen? ⟨w3.heap.size, 0, none⟩ = false ∧ w2.cell? ⟨w3.heap.size, 1, none⟩ = some vb3 ∧ w2.frozen? ⟨w3.heap.size, 1, none⟩ = false) (first | exact kp _ (Below.drew (Below.refl _ _)) | exact kp _ (Below.drew (bA (Below.refl _ _) _)) | exact kp _ (bA (Below.drew (Below.refl _ _)) _) | exact kp _ (Below.drew (bA (bA (Below.refl _ _) _) _)) | exact kp _ (bA (bA (Below.drew (Below.refl _ _)) _) _) | exact kp _ hb5 | exact kp _ (bA hb5 _) | exact kp _ ((hb5.setCell (by simp) _).setCell (by simp) _) | exact kp _ (hb5.setCell (by simp) _)) (first | (go_at_call 20; first | ((with_reducible refine (a2 _ _ _ _ hz129 (bT hX.below (Below.drew (Below.refl _ _))) (hs3.below ((Below.drew (Below.refl _ _)))) (hb3.below ((Below.drew (Below.refl _ _))))).mono ?_); rintro e' w5 ⟨x, rfl, ⟨vs4, vb4, rfl, hs4, hb4⟩, hbb⟩; have hb5 := bT ((Below.drew (Below.refl _ _))) hbb; obtain ⟨A5, c5, rfl, _, _⟩ := hs4.now.form; obtain ⟨A6, c6, rfl, _, _⟩ := hb4.now.form; (first | (have hkb := (Blk.new 25 (w4.alloc (.cells Z.toArray 5)) ([.slice none 0 0, .slice none 0 0] : List Value)).drew.step hbb; rw [show (w4.alloc (.cells Z.toArray 5)).heap.size = w4.heap.size + 1 from Array.size_push ..] at hkb; have hc0 := hkb.cell (k := 0) rfl; have hc1 := hkb.cell (k := 1) rfl; have hf0 := hkb.frozen 0; have hf1 := hkb.frozen 1) | (have hkb := ((Blk.new 25 w4 ([.slice none 0 0, .slice none 0 0] : List Value)).alloc (.cells Z.toArray 5)).drew.step hbb; have hc0 := hkb.cell (k := 0) rfl; have hc1 := hkb.cell (k := 1) rfl; have hf0 := hkb.frozen 0; have hf1 := hkb.frozen 1) | skip)) | ((with_reducible refine (a2 _ _ _ _ hz129 (bT hX.below (Below.drew (bA (Below.refl _ _) _))) (hs3.below ((Below.drew (bA (Below.refl _ _) _)))) (hb3.below ((Below.drew (bA (Below.refl _ _) _))))).mono ?_); rintro e' w5 ⟨x, rfl, ⟨vs4, vb4, rfl, hs4, hb4⟩, hbb⟩; have hb5 := bT ((Below.drew (bA (Below.refl _ _) _))) hbb; obtain ⟨A5, c5, rfl, _, _⟩ := hs4.now.form; obtain ⟨A6, c6, rfl, _, _⟩ := hb4.now.form; (first | (have hkb := (Blk.new 25 (w4.alloc (.cells Z.toArray 5)) ([.slice none 0 0, .slice none 0 0] : List Value)).drew.step hbb; rw [show (w4.alloc (.cells Z.toArray 5)).heap.size = w4.heap.size + 1 from Array.size_push ..] at hkb; have hc0 := hkb.cell (k := 0) rfl; have hc1 := hkb.cell (k := 1) rfl; have hf0 := hkb.frozen 0; have hf1 := hkb.frozen 1) | (have hkb := ((Blk.new 25 w4 ([.slice none 0 0, .slice none 0 0] : List Value)).alloc (.cells Z.toArray 5)).drew.step hbb; have hc0 := hkb.cell (k := 0) rfl; have hc1 := hkb.cell (k := 1) rfl; have hf0 := hkb.frozen 0; have hf1 := hkb.frozen 1) | skip)) | ((with_reducible refine (a2 _ _ _ _ hz129 (bT hX.below (bA (Below.drew (Below.refl _ _)) _)) (hs3.below ((bA (Below.drew (Below.refl _ _)) _))) (hb3.below ((bA (Below.drew (Below.refl _ _)) _)))).mono ?_); rintro e' w5 ⟨x, rfl, ⟨vs4, vb4, rfl, hs4, hb4⟩, hbb⟩; have hb5 := bT ((bA (Below.drew (Below.refl _ _)) _)) hbb; obtain ⟨A5, c5, rfl, _, _⟩ := hs4.now.form; obtain ⟨A6, c6, rfl, _, _⟩ := hb4.now.form; (first | (have hkb := (Blk.new 25 (w4.alloc (.cells Z.toArray 5)) ([.slice none 0 0, .slice none 0 0] : List Value)).drew.step hbb; rw [show (w4.alloc (.cells Z.toArray 5)).heap.size = w4.heap.size + 1 from Array.size_push ..] at hkb; have hc0 := hkb.cell (k := 0) rfl; have hc1 := hkb.cell (k := 1) rfl; have hf0 := hkb.frozen 0; have hf1 := hkb.frozen 1) | (have hkb := ((Blk.new 25 w4 ([.slice none 0 0, .slice none 0 0] : List Value)).alloc (.cells Z.toArray 5)).drew.step hbb; have hc0 := hkb.cell (k := 0) rfl; have hc1 := hkb.cell (k := 1) rfl; have hf0 := hkb.frozen 0; have hf1 := hkb.frozen 1) | skip)) | ((with_reducible refine (a2 _ _ _ _ hz129 (bT hX.below (Below.drew (bA (bA (Below.refl _ _) _) _))) (hs3.below ((Below.drew (bA (bA (Below.refl _ _) _) _)))) (hb3.below ((Below.drew (bA (bA (Below.refl _ _) _) _))))).mono ?_); rintro e' w5 ⟨x, rfl, ⟨vs4, vb4, rfl, hs4, hb4⟩, hbb⟩; have hb5 := bT ((Below.drew (bA (bA (Below.refl _ _) _) _))) hbb; obtain ⟨A5, c5, rfl, _, _⟩ := hs4.now.form; obtain ⟨A6, c6, rfl, _, _⟩ := hb4.now.form; (first | (have hkb := (Blk.new 25 (w4.alloc (.cells Z.toArray 5)) ([.slice none 0 0, .slice none 0 0] : List Value)).drew.step hbb; rw [show (w4.alloc (.cells Z.toArray 5)).heap.size = w4.heap.size + 1 from Array.size_push ..] at hkb; have hc0 := hkb.cell (k := 0) rfl; have hc1 := hkb.cell (k := 1) rfl; have hf0 := hkb.frozen 0; have hf1 := hkb.frozen 1) | (have hkb := ((Blk.new 25 w4 ([.slice none 0 0, .slice none 0 0] : List Value)).alloc (.cells Z.toArray 5)).drew.step hbb; have hc0 := hkb.cell (k := 0) rfl; have hc1 := hkb.cell (k := 1) rfl; have hf0 := hkb.frozen 0; have hf1 := hkb.frozen 1) | skip)) | ((with_reducible refine (a2 _ _ _ _ hz129 (bT hX.below (bA (bA (Below.drew (Below.refl _ _)) _) _)) (hs3.below ((bA (bA (Below.drew (Below.refl _ _)) _) _))) (hb3.below ((bA (bA (Below.drew (Below.refl _ _)) _) _)))).mono ?_); rintro e' w5 ⟨x, rfl, ⟨vs4, vb4, rfl, hs4, hb4⟩, hbb⟩; have hb5 := bT ((bA (bA (Below.drew (Below.refl _ _)) _) _)) hbb; obtain ⟨A5, c5, rfl, _, _⟩ := hs4.now.form; obtain ⟨A6, c6, rfl, _, _⟩ := hb4.now.form; (first | (have hkb := (Blk.new 25 (w4.alloc (.cells Z.toArray 5)) ([.slice none 0 0, .slice none 0 0] : List Value)).drew.step hbb; rw [show (w4.alloc (.cells Z.toArray 5)).heap.size = w4.heap.size + 1 from Array.size_push ..] at hkb; have hc0 := hkb.cell (k := 0) rfl; have hc1 := hkb.cell (k := 1) rfl; have hf0 := hkb.frozen 0; have hf1 := hkb.frozen 1) | (have hkb := ((Blk.new 25 w4 ([.slice none 0 0, .slice none 0 0] : List Value)).alloc (.cells Z.toArray 5)).drew.step hbb; have hc0 := hkb.cell (k := 0) rfl; have hc1 := hkb.cell (k := 1) rfl; have hf0 := hkb.frozen 0; have hf1 := hkb.frozen 1) | skip))))

  all_goals
    refine wgoal (w := w4) (by first | exact hb5 | exact bA hb5 _ | exact ((hb5.setCell (by simp) _).setCell (by simp) _)) ?_
    clear hcv1 hcv2 hcv3 hcv4 hmk hZ kp hz129 a2
    intro w6 hbb
    (try replace hs1 := hs1.below hbb)
    (try replace hb1 := hb1.below hbb)
    (try replace hs2 := hs2.below hbb)
    (try replace hb2 := hb2.below hbb)
    (try replace hs3 := hs3.below hbb)
    (try replace hb3 := hb3.below hbb)
    (try replace hl := hl.below hbb)
    replace hX := hX.step hbb
    clear hbb
    have hB6 := Below.refl w6.heap.size w6
    obtain ⟨Al, cl, rfl, _, hLl⟩ := hl.now.form
    obtain ⟨al, rfl, hL9⟩ := hLl 0 1 rfl
    rw [add_nul] at hL9
    clear hLl hl n1 a1 b1 f1 s1 b2 b3
    have e1 := ab_size
    have e2 := ab_two
    have e3 := ab_last
    generalize (⟨#[97, 98]⟩ : ByteArray) ++ zB 126 = s at *
    go_wp2_with (first | (go_at_call 25; first | ((with_reducible refine (p1 _ _ _ hX.below hs3 hb3).mono ?_); rintro e' w7 ⟨x, rfl, ⟨vs4, vb4, rfl, hs4, hb4⟩, hbb⟩; (try replace hs1 := hs1.below hbb); (try replace hb1 := hb1.below hbb); (try replace hs2 := hs2.below hbb); (try replace hb2 := hb2.below hbb); (try replace hs3 := hs3.below hbb); (try replace hb3 := hb3.below hbb); (try replace hl := hl.below hbb); (try replace hB6 := bT hB6 hbb); replace hX := hX.step hbb; clear hbb) | ((with_reducible refine (p2 _ _ _ hX.below hs3 hb3).mono ?_); rintro e' w7 ⟨x, rfl, ⟨vs4, vb4, rfl, hs4, hb4⟩, hbb⟩; (try replace hs1 := hs1.below hbb); (try replace hb1 := hb1.below hbb); (try replace hs2 := hs2.below hbb); (try replace hb2 := hb2.below hbb); (try replace hs3 := hs3.below hbb); (try replace hb3 := hb3.below hbb); (try replace hl := hl.below hbb); (try replace hB6 := bT hB6 hbb); replace hX := hX.step hbb; clear hbb)) | ((with_reducible refine at_store ?_); refine wpList_bag_storeB (zs := [.slice none 0 0, .slice none 0 0]) hX aggD sizD _ _ rfl rfl rfl rfl rfl rfl rfl rfl (by first | exact two_one (sts_one hs4.now) (its_one hb4.now)) ?_; clear hX; intro wz hX hbb; (try replace hs1 := hs1.below hbb); (try replace hb1 := hb1.below hbb); (try replace hs2 := hs2.below hbb); (try replace hb2 := hb2.below hbb); (try replace hs3 := hs3.below hbb); (try replace hb3 := hb3.below hbb); (try replace hl := hl.below hbb); (try replace hB6 := bT hB6 hbb); clear hbb) | ((with_reducible refine at_load ?_); refine wpList_bag_part (k := 0) hX aggD sizD _ rfl rfl rfl rfl (by first | exact .head _ | exact .tail _ (.head _) | exact .tail _ (.tail _ (.head _)) | exact .tail _ (.tail _ (.tail _ (.head _))) | exact .tail _ (.tail _ (.tail _ (.tail _ (.head _)))) | exact .tail _ (.tail _ (.tail _ (.tail _ (.tail _ (.head _)))))) (fun jz vz hz => (congrArg (fun n => ([_, _] : List Value)[n]?) (Nat.zero_add jz)).trans hz) rfl ?_) | ((with_reducible refine at_load ?_); refine wpList_loadW rfl 3 _ _ _ rfl rfl (hL9 _ hB6) ?_))
    go_ret
    exact ⟨rfl, hX.below⟩
end Go.Proofs.Ytohfniejflibmaa
