import Derived.Test.YtdbbnkjnmldnpaaGreatDoorDsB
import Derived.Test.YtdbbnkjnmldnpaaGreatDoorMQ
import Derived.Test.YtdbbnkjnmldnpaaGreatDoorInLn
/-
  Plain: the names of ccc and scc with one condition code, by their numbers.
-/
namespace Go.Proofs.YtdbbnkjnmldnpaaGreatDoor

def clr : List (List UInt8) := [[110, 111, 112], [99, 108, 99], [99, 108, 118], [], [99, 108, 122], [], [], [], [99, 108, 110]]
def sts : List (List UInt8) := [[], [115, 101, 99], [115, 101, 118], [], [115, 101, 122], [], [], [], [115, 101, 110]]

end Go.Proofs.YtdbbnkjnmldnpaaGreatDoor

/-
  Walks over bytes, Name and ByName of the reference of package disasm. Condition: its tables read as the program's text lays them.
-/
namespace Go.Proofs.YtdbbnkjnmldnpaaGreatDoor
open Go.RowKit
set_option linter.unusedSimpArgs false
set_option linter.unusedVariables false
set_option maxHeartbeats 8000000
set_option maxRecDepth 100000

theorem rbytes_any (o : Int) (w : World) : Calls Tryz.prog 69 #[.int .i64 o] w fun e w' => e = .returned (.bool (byB o)) ∧ Below w.heap.size w w' := by
  have hb := Below.refl w.heap.size w
  have e : ∀ b : Bool, (b = true ↔ ((1 ≤ o ∧ o ≤ 5) ∨ (12 ≤ o ∧ o ≤ 23))) → Ending.returned (.bool b) = .returned (.bool (byB o)) := fun b h => ret_bool (by
    unfold byB
    by_cases k : (1 ≤ o ∧ o ≤ 5) ∨ (12 ≤ o ∧ o ≤ 23)
    · rw [decide_eq_true k]; exact h.2 k
    · rw [decide_eq_false k]
      cases b
      · rfl
      · exact absurd (h.1 rfl) k)
  go_enter Tryz.func69, Tryz.ntmps69
  go_wp2
  all_goals
    go_ret
    refine ⟨e _ ?_, hb⟩
    clear e hb
    first
      | omega
      | (simp; omega)
      | (simp only [Bool.false_eq_true, false_iff]; omega)
      | (simp only [true_iff]; omega)

theorem Tab.at {g : Nat} {l : List (List UInt8)} {w : World} {a : Addr} (h : Txs a l w) (k : Nat) (hk : k < l.length) : w.cell? (a.add k) = some (.string ⟨(l.getD k []).toArray⟩) := by
  rw [h k _ (List.getElem?_eq_getElem hk)]
  simp [hk]

theorem rname_any (o : Int) (b : Bool) (W0 : World) (T : Tab 6 mns W0) : Calls Tryz.prog 33 #[.int .i64 o, .bool b] W0 fun e w' => e = .returned (.string ⟨(nmT o b).toArray⟩) ∧ Below W0.heap.size W0 w' := by
  obtain ⟨a, cN, hT1, hT2, hT3⟩ := T.sl
  replace hT1 : _ = some (Value.slice (some a) 57 cN) := hT1
  have hb := Below.refl W0.heap.size W0
  by_cases h0 : o < 1
  · have e : nmT o b = [] := by unfold nmT; rw [show opB o = false from decide_eq_false (by omega)]; rfl
    rw [e]
    clear hT2 hT3
    go_enter Tryz.func33, Tryz.ntmps33
    go_wp2
    go_ret
    exact ⟨rfl, hb⟩
  · by_cases h1 : 57 ≤ o
    · have e : nmT o b = [] := by unfold nmT; rw [show opB o = false from decide_eq_false (by omega)]; rfl
      rw [e]
      clear hT2 hT3
      go_enter Tryz.func33, Tryz.ntmps33
      go_wp2
      go_ret
      exact ⟨rfl, hb⟩
    · obtain ⟨K, rfl⟩ : ∃ k : Nat, o = (k : Int) := ⟨o.toNat, by omega⟩
      have hK : K < 57 := by omega
      have hK2 : (K : Int) < 57 := by omega
      have hm : _ = _ := Tab.at (g := 0) hT2 K hK
      rw [show mns.getD K [] = mnT (K : Int) from rfl] at hm
      have hml := World.block_lt_of_cell? _ _ hm
      have e : nmT K b = if b = true then (if byB K = true then mnT K ++ [98] else []) else mnT K := by unfold nmT; rw [show opB K = true from decide_eq_true (by omega)]; rfl
      have hB := fun w => rbytes_any (K : Int) w
      have hl := mnT_len (K : Int)
      have hs := tx_size (mnT (K : Int))
      rw [e]
      clear e hT2 hT3
      generalize mnT (K : Int) = M at *
      generalize byB (K : Int) = F at *
      cases b
      · rw [if_neg (by decide)]
        go_enter Tryz.func33, Tryz.ntmps33
        go_wp2
        go_ret
        exact ⟨rfl, hb⟩
      · rw [if_pos rfl]
        cases F
        · rw [if_neg (by decide)]
          go_enter Tryz.func33, Tryz.ntmps33
          go_wp2_with (first | (go_at_call 69; with_reducible refine (hB _).mono ?_; rintro e w' ⟨rfl, hb⟩))
          go_ret
          exact ⟨rfl, by assumption⟩
        · rw [if_pos rfl]
          go_enter Tryz.func33, Tryz.ntmps33
          go_wp2_with (first | (go_at_call 69; with_reducible refine (hB _).mono ?_; rintro e w' ⟨rfl, hb⟩; have hT1 := (hb.cell (p := ⟨6, 0, none⟩) T.lt).trans hT1; have hm := (hb.cell hml).trans hm))
          go_ret
          exact ⟨by rw [ba_app]; simp, by assumption⟩

end Go.Proofs.YtdbbnkjnmldnpaaGreatDoor

/-
  Walks over Text of the reference of package disasm: instructions that are not valid, and those that clear and set condition codes. Condition: the tables read as the program's text lays them.
-/
namespace Go.Proofs.YtdbbnkjnmldnpaaGreatDoor
open Go.RowKit
set_option linter.unusedSimpArgs false
set_option linter.unusedVariables false
set_option maxHeartbeats 40000000
set_option maxRecDepth 100000
attribute [local irreducible] wpQuiet

theorem abT_c : ∀ k : Fin 9, abT 53 (k.val : Int) = if clr.getD k.val [] = [] then none else some (clr.getD k.val []) := by decide
theorem abT_s : ∀ k : Fin 9, abT 54 (k.val : Int) = if sts.getD k.val [] = [] then none else some (sts.getD k.val []) := by decide
theorem abT_out {o n : Int} (h : (o ≠ 53 ∧ o ≠ 54) ∨ n < 0 ∨ 9 ≤ n) : abT o n = none := by
  refine ab_none (fun j e _ he hh => ?_)
  have h3 : ∀ e ∈ abv, (e.2.1 = 53 ∨ e.2.1 = 54) ∧ 0 ≤ e.2.2 ∧ e.2.2 < 9 := by decide
  have := h3 e (List.mem_of_getElem? he)
  omega
theorem vR_num {o : Int} {b : Bool} {m r x p q y g n : Int} (hv : vR ⟨o, b, m, r, x, p, q, y, g, n⟩ = true) (ho : o = 53 ∨ o = 54) : 0 ≤ n ∧ n ≤ 15 := by
  have hf : ∃ e, formR o = some e ∧ e.e5 = 0 ∧ e.e4 = 15 := by
    rcases ho with rfl | rfl
    · exact ⟨_, rfl, by decide, by decide⟩
    · exact ⟨_, rfl, by decide, by decide⟩
  obtain ⟨e, hf, h5, h4⟩ := hf
  rw [vR_some (i := ⟨o, b, m, r, x, p, q, y, g, n⟩) hf] at hv
  simp only [Bool.and_eq_true] at hv
  have h1 := hv.1
  unfold hoR at h1
  simp only [Bool.and_eq_true, decide_eq_true_eq] at h1
  rw [h5, h4] at h1
  omega
theorem rtext_bad (o : Int) (b : Bool) (m r x p q y g n a : Int) (hV : vR ⟨o, b, m, r, x, p, q, y, g, n⟩ = false) {A : Addr} {c : Nat} (W0 : World) (W : Frm A c W0) :
    Calls Tryz.prog 14 #[.agg #[.int .i64 o, .bool b, .int .i64 m, .int .i64 r, .int .i64 x, .int .i64 p, .int .i64 q, .int .i64 y, .int .i64 g, .int .i64 n], .int .i64 a] W0 fun e w' => e = .returned (.string ⟨(txT ⟨o, b, m, r, x, p, q, y, g, n⟩ a).toArray⟩) ∧ Below W0.heap.size W0 w' := by
  have hX := (St.start W).put [.int .i64 o, .bool b, .int .i64 m, .int .i64 r, .int .i64 x, .int .i64 p, .int .i64 q, .int .i64 y, .int .i64 g, .int .i64 n] 36
  have hv := fun w (k : Frm A c w) => rV_any o b m r x p q y g n w k
  obtain ⟨i0, i1, i2, i3, i4, i5, i6, i7, i8, i9⟩ := hX.ten 0 rfl
  have e : txT ⟨o, b, m, r, x, p, q, y, g, n⟩ a = [] := by unfold txT; rw [hV]; rfl
  rw [e]
  rw [hV] at hv
  clear e hV
  go_enter Tryz.func14, Tryz.ntmps14
  go_wp2_with (first | (go_at_call 32; with_reducible refine (hv _ hX.frm).mono ?_; rintro e w' ⟨rfl, hb⟩; have hX := hX.step hb; clear hb))
  go_ret
  exact ⟨rfl, hX.below⟩

theorem rtext_53 (b : Bool) (m r x p q y g n a : Int) (hV : vR ⟨53, b, m, r, x, p, q, y, g, n⟩ = true) {A : Addr} {c : Nat} (W0 : World) (W : Frm A c W0) (T : Tab 6 mns W0) (T1 : Tab 1 clr W0) (T2 : Tab 2 sts W0) :
    Calls Tryz.prog 14 #[.agg #[.int .i64 53, .bool b, .int .i64 m, .int .i64 r, .int .i64 x, .int .i64 p, .int .i64 q, .int .i64 y, .int .i64 g, .int .i64 n], .int .i64 a] W0 fun e w' => e = .returned (.string ⟨(txT ⟨53, b, m, r, x, p, q, y, g, n⟩ a).toArray⟩) ∧ Below W0.heap.size W0 w' := by
  have hn := vR_num hV (by decide)
  obtain ⟨K, rfl⟩ : ∃ K : Nat, n = (K : Int) := ⟨n.toNat, by omega⟩
  have hv := fun w (k : Frm A c w) => rV_any 53 b m r x p q y g K w k
  have hnm := fun w t => rname_any 53 b w t
  have hnu := fun w => rnum_any (K : Int) w
  have l1 := nmT_len 53 b
  have s1 := tx_size (nmT 53 b)
  have l2 := nuT_len (K : Int)
  have s2 := tx_size (nuT (K : Int))
  have e0 : ∀ S, S = abT 53 (K : Int) → txT ⟨53, b, m, r, x, p, q, y, g, (K : Int)⟩ a = (match S with | some s => s | none => nmT 53 b ++ tlT (agT ⟨53, b, m, r, x, p, q, y, g, (K : Int)⟩ a)) := fun S hS => by subst hS; unfold txT; rw [hV]; rfl
  have e1 : tlT (agT ⟨53, b, m, r, x, p, q, y, g, (K : Int)⟩ a) = 32 :: nuT (K : Int) := by simp [agT, tlT, joT]
  rw [hV] at hv
  have hX := (St.start W).put [.int .i64 53, .bool b, .int .i64 m, .int .i64 r, .int .i64 x, .int .i64 p, .int .i64 q, .int .i64 y, .int .i64 g, .int .i64 K] 36
  obtain ⟨i0, i1, i2, i3, i4, i5, i6, i7, i8, i9⟩ := hX.ten 0 rfl
  by_cases hK : K < 9
  · have hK2 : (K : Int) ≤ 8 := by omega
    have eK := abT_c ⟨K, hK⟩
    simp only at eK
    have hcl : ∀ w, Below W0.heap.size W0 w → ∃ a1 c1, w.cell? ⟨1, 0, none⟩ = some (.slice (some a1) 9 c1) ∧ w.cell? (a1.add K) = some (.string ⟨(clr.getD K []).toArray⟩) := fun w h => by
      obtain ⟨a1, c1, h1, h2, _⟩ := (T1.step h).sl
      exact ⟨a1, c1, h1, Tab.at (g := 0) h2 K hK⟩
    generalize clr.getD K [] = X at *
    by_cases hXn : X = []
    · rw [if_pos hXn] at eK
      have e2 := e0 none eK.symm
      rw [e2, e1]
      simp only
      subst hXn
      clear e0 e1 e2 eK hV
      generalize nmT 53 b = M at *
      generalize nuT (K : Int) = V at *
      go_enter Tryz.func14, Tryz.ntmps14
      go_wp2_with (first | (go_at_call 32; with_reducible refine (hv _ hX.frm).mono ?_; rintro e w' ⟨rfl, hb⟩; have hX := hX.step hb; clear hb; obtain ⟨i0, i1, i2, i3, i4, i5, i6, i7, i8, i9⟩ := hX.ten 0 rfl) | (go_at_call 33; with_reducible refine (hnm _ (T.step hX.below)).mono ?_; rintro e w' ⟨rfl, hb⟩; have hX := hX.step hb; clear hb; obtain ⟨i0, i1, i2, i3, i4, i5, i6, i7, i8, i9⟩ := hX.ten 0 rfl; obtain ⟨aC, cC, hC1, hC2⟩ := hcl _ hX.below) | (go_at_call 34; with_reducible refine (hnu _).mono ?_; rintro e w' ⟨rfl, hb⟩; have hX := hX.step hb; clear hb))
      go_ret
      exact ⟨by simp [ba_app], hX.below⟩
    · rw [if_neg hXn] at eK
      have e2 := e0 (some X) eK.symm
      rw [e2]
      simp only
      have hXe := List.isEmpty_eq_false_iff.2 hXn
      clear e0 e1 e2 eK hV hXn
      generalize nmT 53 b = M at *
      generalize nuT (K : Int) = V at *
      go_enter Tryz.func14, Tryz.ntmps14
      go_wp2_with (first | (go_at_call 32; with_reducible refine (hv _ hX.frm).mono ?_; rintro e w' ⟨rfl, hb⟩; have hX := hX.step hb; clear hb; obtain ⟨i0, i1, i2, i3, i4, i5, i6, i7, i8, i9⟩ := hX.ten 0 rfl) | (go_at_call 33; with_reducible refine (hnm _ (T.step hX.below)).mono ?_; rintro e w' ⟨rfl, hb⟩; have hX := hX.step hb; clear hb; obtain ⟨i0, i1, i2, i3, i4, i5, i6, i7, i8, i9⟩ := hX.ten 0 rfl; obtain ⟨aC, cC, hC1, hC2⟩ := hcl _ hX.below) | (go_at_call 34; with_reducible refine (hnu _).mono ?_; rintro e w' ⟨rfl, hb⟩; have hX := hX.step hb; clear hb))
      go_ret
      exact ⟨rfl, hX.below⟩
  · have hK2 : ¬ (K : Int) ≤ 8 := by omega
    have hK3 : (8 : Int) < (K : Int) := by omega
    have e2 := e0 none (abT_out (by omega)).symm
    rw [e2, e1]
    simp only
    have hcl : ∀ w, Below W0.heap.size W0 w → ∃ a1 c1, w.cell? ⟨1, 0, none⟩ = some (.slice (some a1) 9 c1) ∧ True := fun w h => by
      obtain ⟨a1, c1, h1, h2, _⟩ := (T1.step h).sl
      exact ⟨a1, c1, h1, trivial⟩
    clear e0 e1 e2 hV
    generalize nmT 53 b = M at *
    generalize nuT (K : Int) = V at *
    go_enter Tryz.func14, Tryz.ntmps14
    go_wp2_with (first | (go_at_call 32; with_reducible refine (hv _ hX.frm).mono ?_; rintro e w' ⟨rfl, hb⟩; have hX := hX.step hb; clear hb; obtain ⟨i0, i1, i2, i3, i4, i5, i6, i7, i8, i9⟩ := hX.ten 0 rfl) | (go_at_call 33; with_reducible refine (hnm _ (T.step hX.below)).mono ?_; rintro e w' ⟨rfl, hb⟩; have hX := hX.step hb; clear hb; obtain ⟨i0, i1, i2, i3, i4, i5, i6, i7, i8, i9⟩ := hX.ten 0 rfl; obtain ⟨aC, cC, hC1, hC2⟩ := hcl _ hX.below) | (go_at_call 34; with_reducible refine (hnu _).mono ?_; rintro e w' ⟨rfl, hb⟩; have hX := hX.step hb; clear hb))
    go_ret
    exact ⟨by simp [ba_app], hX.below⟩

theorem rtext_54 (b : Bool) (m r x p q y g n a : Int) (hV : vR ⟨54, b, m, r, x, p, q, y, g, n⟩ = true) {A : Addr} {c : Nat} (W0 : World) (W : Frm A c W0) (T : Tab 6 mns W0) (T1 : Tab 1 clr W0) (T2 : Tab 2 sts W0) :
    Calls Tryz.prog 14 #[.agg #[.int .i64 54, .bool b, .int .i64 m, .int .i64 r, .int .i64 x, .int .i64 p, .int .i64 q, .int .i64 y, .int .i64 g, .int .i64 n], .int .i64 a] W0 fun e w' => e = .returned (.string ⟨(txT ⟨54, b, m, r, x, p, q, y, g, n⟩ a).toArray⟩) ∧ Below W0.heap.size W0 w' := by
  have hn := vR_num hV (by decide)
  obtain ⟨K, rfl⟩ : ∃ K : Nat, n = (K : Int) := ⟨n.toNat, by omega⟩
  have hv := fun w (k : Frm A c w) => rV_any 54 b m r x p q y g K w k
  have hnm := fun w t => rname_any 54 b w t
  have hnu := fun w => rnum_any (K : Int) w
  have l1 := nmT_len 54 b
  have s1 := tx_size (nmT 54 b)
  have l2 := nuT_len (K : Int)
  have s2 := tx_size (nuT (K : Int))
  have e0 : ∀ S, S = abT 54 (K : Int) → txT ⟨54, b, m, r, x, p, q, y, g, (K : Int)⟩ a = (match S with | some s => s | none => nmT 54 b ++ tlT (agT ⟨54, b, m, r, x, p, q, y, g, (K : Int)⟩ a)) := fun S hS => by subst hS; unfold txT; rw [hV]; rfl
  have e1 : tlT (agT ⟨54, b, m, r, x, p, q, y, g, (K : Int)⟩ a) = 32 :: nuT (K : Int) := by simp [agT, tlT, joT]
  rw [hV] at hv
  have hX := (St.start W).put [.int .i64 54, .bool b, .int .i64 m, .int .i64 r, .int .i64 x, .int .i64 p, .int .i64 q, .int .i64 y, .int .i64 g, .int .i64 K] 36
  obtain ⟨i0, i1, i2, i3, i4, i5, i6, i7, i8, i9⟩ := hX.ten 0 rfl
  by_cases hK : K < 9
  · have hK2 : (K : Int) ≤ 8 := by omega
    have eK := abT_s ⟨K, hK⟩
    simp only at eK
    have hcl : ∀ w, Below W0.heap.size W0 w → ∃ a1 c1, w.cell? ⟨2, 0, none⟩ = some (.slice (some a1) 9 c1) ∧ w.cell? (a1.add K) = some (.string ⟨(sts.getD K []).toArray⟩) := fun w h => by
      obtain ⟨a1, c1, h1, h2, _⟩ := (T2.step h).sl
      exact ⟨a1, c1, h1, Tab.at (g := 0) h2 K hK⟩
    generalize sts.getD K [] = X at *
    by_cases hXn : X = []
    · rw [if_pos hXn] at eK
      have e2 := e0 none eK.symm
      rw [e2, e1]
      simp only
      subst hXn
      clear e0 e1 e2 eK hV
      generalize nmT 54 b = M at *
      generalize nuT (K : Int) = V at *
      go_enter Tryz.func14, Tryz.ntmps14
      go_wp2_with (first | (go_at_call 32; with_reducible refine (hv _ hX.frm).mono ?_; rintro e w' ⟨rfl, hb⟩; have hX := hX.step hb; clear hb; obtain ⟨i0, i1, i2, i3, i4, i5, i6, i7, i8, i9⟩ := hX.ten 0 rfl) | (go_at_call 33; with_reducible refine (hnm _ (T.step hX.below)).mono ?_; rintro e w' ⟨rfl, hb⟩; have hX := hX.step hb; clear hb; obtain ⟨i0, i1, i2, i3, i4, i5, i6, i7, i8, i9⟩ := hX.ten 0 rfl; obtain ⟨aC, cC, hC1, hC2⟩ := hcl _ hX.below) | (go_at_call 34; with_reducible refine (hnu _).mono ?_; rintro e w' ⟨rfl, hb⟩; have hX := hX.step hb; clear hb))
      go_ret
      exact ⟨by simp [ba_app], hX.below⟩
    · rw [if_neg hXn] at eK
      have e2 := e0 (some X) eK.symm
      rw [e2]
      simp only
      have hXe := List.isEmpty_eq_false_iff.2 hXn
      clear e0 e1 e2 eK hV hXn
      generalize nmT 54 b = M at *
      generalize nuT (K : Int) = V at *
      go_enter Tryz.func14, Tryz.ntmps14
      go_wp2_with (first | (go_at_call 32; with_reducible refine (hv _ hX.frm).mono ?_; rintro e w' ⟨rfl, hb⟩; have hX := hX.step hb; clear hb; obtain ⟨i0, i1, i2, i3, i4, i5, i6, i7, i8, i9⟩ := hX.ten 0 rfl) | (go_at_call 33; with_reducible refine (hnm _ (T.step hX.below)).mono ?_; rintro e w' ⟨rfl, hb⟩; have hX := hX.step hb; clear hb; obtain ⟨i0, i1, i2, i3, i4, i5, i6, i7, i8, i9⟩ := hX.ten 0 rfl; obtain ⟨aC, cC, hC1, hC2⟩ := hcl _ hX.below) | (go_at_call 34; with_reducible refine (hnu _).mono ?_; rintro e w' ⟨rfl, hb⟩; have hX := hX.step hb; clear hb))
      go_ret
      exact ⟨rfl, hX.below⟩
  · have hK2 : ¬ (K : Int) ≤ 8 := by omega
    have hK3 : (8 : Int) < (K : Int) := by omega
    have e2 := e0 none (abT_out (by omega)).symm
    rw [e2, e1]
    simp only
    have hcl : ∀ w, Below W0.heap.size W0 w → ∃ a1 c1, w.cell? ⟨2, 0, none⟩ = some (.slice (some a1) 9 c1) ∧ True := fun w h => by
      obtain ⟨a1, c1, h1, h2, _⟩ := (T2.step h).sl
      exact ⟨a1, c1, h1, trivial⟩
    clear e0 e1 e2 hV
    generalize nmT 54 b = M at *
    generalize nuT (K : Int) = V at *
    go_enter Tryz.func14, Tryz.ntmps14
    go_wp2_with (first | (go_at_call 32; with_reducible refine (hv _ hX.frm).mono ?_; rintro e w' ⟨rfl, hb⟩; have hX := hX.step hb; clear hb; obtain ⟨i0, i1, i2, i3, i4, i5, i6, i7, i8, i9⟩ := hX.ten 0 rfl) | (go_at_call 33; with_reducible refine (hnm _ (T.step hX.below)).mono ?_; rintro e w' ⟨rfl, hb⟩; have hX := hX.step hb; clear hb; obtain ⟨i0, i1, i2, i3, i4, i5, i6, i7, i8, i9⟩ := hX.ten 0 rfl; obtain ⟨aC, cC, hC1, hC2⟩ := hcl _ hX.below) | (go_at_call 34; with_reducible refine (hnu _).mono ?_; rintro e w' ⟨rfl, hb⟩; have hX := hX.step hb; clear hb))
    go_ret
    exact ⟨by simp [ba_app], hX.below⟩

theorem opT_ne (m r x u v : Int) (h : exR (m % 8) (r % 8) = false) : opT m r x u = opT m r x v := by
  unfold opT
  cases hV : vdR m r x with
  | false => rfl
  | true =>
    obtain ⟨⟨m0, m1, r0, r1, x0, x1⟩, _⟩ := vd_parts hV
    rw [show m % 8 = m by omega, show r % 8 = r by omega] at h
    unfold exR at h
    simp only [decide_eq_false_iff_not] at h
    have e : diT m r x u = diT m r x v := by
      unfold diT
      split
      · rfl
      · split
        · rfl
        · split
          · rfl
          · split
            · omega
            · rfl
    rw [e]

end Go.Proofs.YtdbbnkjnmldnpaaGreatDoor
