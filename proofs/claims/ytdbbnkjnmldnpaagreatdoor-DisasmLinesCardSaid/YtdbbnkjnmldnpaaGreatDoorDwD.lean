/-
  Walks over hasByteForm, Name and abbreviated of package disasm. Condition: the tables read as the program's text lays them.
-/
import Derived.Test.YtdbbnkjnmldnpaaGreatDoorDwC
import Derived.Test.YtdbbnkjnmldnpaaGreatDoorIJ
import Derived.Test.YtdbbnkjnmldnpaaGreatDoorDsI
import Derived.Test.YtdbbnkjnmldnpaaGreatDoorInS
namespace Go.Proofs.YtdbbnkjnmldnpaaGreatDoor
open Go.RowKit
set_option linter.unusedSimpArgs false
set_option linter.unusedVariables false
set_option maxHeartbeats 8000000
set_option maxRecDepth 100000

theorem byte_in : ∀ k : Fin 57, vR ⟨(k.val : Int), true, 0, 0, 0, 0, 0, 0, 0, 0⟩ = byB (k.val : Int) := by decide +kernel
theorem byte_vR (o : Int) : vR ⟨o, true, 0, 0, 0, 0, 0, 0, 0, 0⟩ = byB o := by
  by_cases h : 0 ≤ o ∧ o ≤ 56
  · obtain ⟨k, rfl⟩ : ∃ k : Nat, o = (k : Int) := ⟨o.toNat, by omega⟩
    exact byte_in ⟨k, by omega⟩
  · have e1 : byB o = false := by unfold byB; exact decide_eq_false (by omega)
    rw [e1]
    exact vR_none (i := ⟨o, true, 0, 0, 0, 0, 0, 0, 0, 0⟩) (form_none (o := o) (by omega))

theorem dhas_any (o : Int) {A : Addr} {c : Nat} (W0 : World) (W : Frm A c W0) : Calls Tryz.prog 17 #[.int .i64 o] W0 fun e w' => e = .returned (.bool (byB o)) ∧ Below W0.heap.size W0 w' := by
  have hv := fun w (k : Frm A c w) => Valid_any o true 0 0 0 0 0 0 0 0 w k
  rw [byte_vR] at hv
  go_enter Tryz.func17, Tryz.ntmps17
  go_wp2_with (first | (go_at_call 21; with_reducible refine (hv _ W).mono ?_; rintro e w' ⟨rfl, hb⟩))
  go_ret
  exact ⟨rfl, by assumption⟩

theorem dnam_any (o : Int) (b : Bool) {A : Addr} {c : Nat} (W0 : World) (W : Dis A c W0) : Calls Tryz.prog 8 #[.int .i64 o, .bool b] W0 fun e w' => e = .returned (.string ⟨(nmT o b).toArray⟩) ∧ Below W0.heap.size W0 w' := by
  by_cases h0 : o ≤ 0
  · have e : nmT o b = [] := by unfold nmT; rw [show opB o = false from decide_eq_false (by omega)]; rfl
    rw [e]
    go_enter Tryz.func8, Tryz.ntmps8
    go_wp2
    go_ret
    exact ⟨rfl, Below.refl _ _⟩
  · by_cases h1 : 57 ≤ o
    · have e : nmT o b = [] := by unfold nmT; rw [show opB o = false from decide_eq_false (by omega)]; rfl
      rw [e]
      go_enter Tryz.func8, Tryz.ntmps8
      go_wp2
      go_ret
      exact ⟨rfl, Below.refl _ _⟩
    · obtain ⟨K, rfl⟩ : ∃ k : Nat, o = (k : Int) := ⟨o.toNat, by omega⟩
      have hK : K < 57 := by omega
      have hmn := fun w (D : Dis A c w) => mn_at D.mn K hK
      have hm0 : _ = _ := hmn _ W
      have e : nmT K b = if b = true then (if byB K = true then mnT K ++ [98] else []) else mnT K := by unfold nmT; rw [show opB K = true from decide_eq_true (by omega)]; rfl
      have hB := fun w k => dhas_any (K : Int) (A := A) (c := c) w k
      have hl := mnT_len (K : Int)
      have hs := tx_size (mnT (K : Int))
      rw [e]
      clear e
      generalize mnT (K : Int) = M at *
      generalize byB (K : Int) = F at *
      cases b
      · rw [if_neg (by decide)]
        go_enter Tryz.func8, Tryz.ntmps8
        go_wp2
        go_ret
        exact ⟨rfl, Below.refl _ _⟩
      · rw [if_pos rfl]
        cases F
        · rw [if_neg (by decide)]
          go_enter Tryz.func8, Tryz.ntmps8
          go_wp2_with (first | (go_at_call 17; with_reducible refine (hB _ W.frm).mono ?_; rintro e w' ⟨rfl, hb⟩))
          go_ret
          exact ⟨rfl, by assumption⟩
        · rw [if_pos rfl]
          go_enter Tryz.func8, Tryz.ntmps8
          go_wp2_with (first | (go_at_call 17; with_reducible refine (hB _ W.frm).mono ?_; rintro e w' ⟨rfl, hb⟩; have hm0 : _ = _ := hmn _ (W.step hb)))
          go_ret
          exact ⟨by rw [ba_app]; simp, by assumption⟩

/-- The table of abbreviations, loaded whole. -/
def avL : List Value := abv.flatMap fun e => [.string ⟨e.1.toArray⟩, .int .i64 e.2.1, .int .i64 e.2.2]
theorem avL_in : ∀ (j : Fin 27), ∃ k : Fin 9, ∃ i : Fin 3, j.val = 3 * k.val + i.val := by decide
theorem Dis.avc {A : Addr} {c : Nat} {w : World} (h : Dis A c w) (j : Nat) (v : Value) (hj : avL[j]? = some v) : w.cell? ⟨4, j, none⟩ = some v := by
  have hlt : j < 27 := (List.getElem?_eq_some_iff.1 hj).1
  match j, hlt, hj with
  | 0, _, hj => (cases hj; exact (h.av 0 _ rfl).1)
  | 1, _, hj => (cases hj; exact (h.av 0 _ rfl).2.1)
  | 2, _, hj => (cases hj; exact (h.av 0 _ rfl).2.2)
  | 3, _, hj => (cases hj; exact (h.av 1 _ rfl).1)
  | 4, _, hj => (cases hj; exact (h.av 1 _ rfl).2.1)
  | 5, _, hj => (cases hj; exact (h.av 1 _ rfl).2.2)
  | 6, _, hj => (cases hj; exact (h.av 2 _ rfl).1)
  | 7, _, hj => (cases hj; exact (h.av 2 _ rfl).2.1)
  | 8, _, hj => (cases hj; exact (h.av 2 _ rfl).2.2)
  | 9, _, hj => (cases hj; exact (h.av 3 _ rfl).1)
  | 10, _, hj => (cases hj; exact (h.av 3 _ rfl).2.1)
  | 11, _, hj => (cases hj; exact (h.av 3 _ rfl).2.2)
  | 12, _, hj => (cases hj; exact (h.av 4 _ rfl).1)
  | 13, _, hj => (cases hj; exact (h.av 4 _ rfl).2.1)
  | 14, _, hj => (cases hj; exact (h.av 4 _ rfl).2.2)
  | 15, _, hj => (cases hj; exact (h.av 5 _ rfl).1)
  | 16, _, hj => (cases hj; exact (h.av 5 _ rfl).2.1)
  | 17, _, hj => (cases hj; exact (h.av 5 _ rfl).2.2)
  | 18, _, hj => (cases hj; exact (h.av 6 _ rfl).1)
  | 19, _, hj => (cases hj; exact (h.av 6 _ rfl).2.1)
  | 20, _, hj => (cases hj; exact (h.av 6 _ rfl).2.2)
  | 21, _, hj => (cases hj; exact (h.av 7 _ rfl).1)
  | 22, _, hj => (cases hj; exact (h.av 7 _ rfl).2.1)
  | 23, _, hj => (cases hj; exact (h.av 7 _ rfl).2.2)
  | 24, _, hj => (cases hj; exact (h.av 8 _ rfl).1)
  | 25, _, hj => (cases hj; exact (h.av 8 _ rfl).2.1)
  | 26, _, hj => (cases hj; exact (h.av 8 _ rfl).2.2)
  | j + 27, h, _ => omega
theorem load_av {A : Addr} {c : Nat} {w : World} (h : Dis A c w) : (Instr.loadAt 63 (.pointer (some ⟨4, 0, none⟩))).run Tryz.prog w = .ok (.agg avL.toArray) w := by
  have hl : (loadCells ⟨4, 0, none⟩ 27).run Tryz.prog w = .ok avL.toArray w :=
    run_loadCells_list (P := Tryz.prog) w ⟨4, 0, none⟩ avL (fun j v hv => by rw [add_at]; exact h.avc j v hv)
  have hagg : (isAgg 63).run Tryz.prog w = .ok true w := by kernel_rfl
  have hsz : (sizeOf 63).run Tryz.prog w = .ok 27 w := by kernel_rfl
  simp only [Instr.loadAt, Instr.sureAddr, loadVar, Sem.run_bind, Sem.run_pure, Result.andThen_ok, hagg, hsz, hl, if_true]

/-- A load whose value is known. -/
theorem wpList_load_run {P : Program} {w : World} {ops : Array Oper} {rest : List Oper} {o : Oper} {a : Act} {Q : Exit → Act → World → Prop} (hg : o.guard = none) (t : TypeId) (x : Operand) (pv v : Value) (hop : o.op = Op.load t x) (hx : a.eval x = pv)
    (hrun : (Instr.loadAt t pv).run P w = .ok v w) (h : wpList P ops Q rest (a.put o.dst v) w) : wpList P ops Q (o :: rest) a w :=
  wpList_plain hg fun _ hK => by
    unfold Oper.wp execOp
    simp only [hop, hx, hrun, Sem.run_bind, Sem.run_pure, Result.andThen_ok]
    exact hK _ _ h
theorem ab_none {o n : Int} (h : ∀ (j : Nat) (e : List UInt8 × Int × Int), j < 9 → abv[j]? = some e → ¬ (e.2.1 = o ∧ e.2.2 = n)) : abT o n = none := by
  unfold abT
  rw [List.find?_eq_none.2, Option.map_none]
  intro e he
  obtain ⟨j, hj⟩ := List.mem_iff_getElem?.1 he
  have hj9 : j < 9 := (List.getElem?_eq_some_iff.1 hj).1
  have k := h j e hj9 hj
  simpa using fun a b => k ⟨a, b⟩
theorem ab_some {o n : Int} {k : Nat} {e : List UInt8 × Int × Int} (hk : abv[k]? = some e) (he : e.2.1 = o ∧ e.2.2 = n) (h : ∀ (j : Nat) (e : List UInt8 × Int × Int), j < k → abv[j]? = some e → ¬ (e.2.1 = o ∧ e.2.2 = n)) : abT o n = some e.1 := by
  unfold abT
  have hf : abv.find? (fun e => decide (e.2.1 = o ∧ e.2.2 = n)) = some e := by
    rw [List.find?_eq_some_iff_getElem]
    refine ⟨by simpa using he, k, (List.getElem?_eq_some_iff.1 hk).1, (List.getElem?_eq_some_iff.1 hk).2, fun j hj => ?_⟩
    have hlt : j < abv.length := Nat.lt_trans hj (List.getElem?_eq_some_iff.1 hk).1
    have k := h j _ hj (List.getElem?_eq_getElem hlt)
    simp only [Bool.not_eq_true', decide_eq_false_iff_not]
    exact k
  rw [hf]; rfl
theorem avx_0 (w : World) : (Instr.index 63 (.agg avL.toArray) (.int .i64 0)).run Tryz.prog w = .ok (.agg #[.string ⟨#[110, 111, 112]⟩, .int .i64 53, .int .i64 0]) w := by kernel_rfl
theorem avx_1 (w : World) : (Instr.index 63 (.agg avL.toArray) (.int .i64 1)).run Tryz.prog w = .ok (.agg #[.string ⟨#[99, 108, 99]⟩, .int .i64 53, .int .i64 1]) w := by kernel_rfl
theorem avx_2 (w : World) : (Instr.index 63 (.agg avL.toArray) (.int .i64 2)).run Tryz.prog w = .ok (.agg #[.string ⟨#[99, 108, 118]⟩, .int .i64 53, .int .i64 2]) w := by kernel_rfl
theorem avx_3 (w : World) : (Instr.index 63 (.agg avL.toArray) (.int .i64 3)).run Tryz.prog w = .ok (.agg #[.string ⟨#[99, 108, 122]⟩, .int .i64 53, .int .i64 4]) w := by kernel_rfl
theorem avx_4 (w : World) : (Instr.index 63 (.agg avL.toArray) (.int .i64 4)).run Tryz.prog w = .ok (.agg #[.string ⟨#[99, 108, 110]⟩, .int .i64 53, .int .i64 8]) w := by kernel_rfl
theorem avx_5 (w : World) : (Instr.index 63 (.agg avL.toArray) (.int .i64 5)).run Tryz.prog w = .ok (.agg #[.string ⟨#[115, 101, 99]⟩, .int .i64 54, .int .i64 1]) w := by kernel_rfl
theorem avx_6 (w : World) : (Instr.index 63 (.agg avL.toArray) (.int .i64 6)).run Tryz.prog w = .ok (.agg #[.string ⟨#[115, 101, 118]⟩, .int .i64 54, .int .i64 2]) w := by kernel_rfl
theorem avx_7 (w : World) : (Instr.index 63 (.agg avL.toArray) (.int .i64 7)).run Tryz.prog w = .ok (.agg #[.string ⟨#[115, 101, 122]⟩, .int .i64 54, .int .i64 4]) w := by kernel_rfl
theorem avx_8 (w : World) : (Instr.index 63 (.agg avL.toArray) (.int .i64 8)).run Tryz.prog w = .ok (.agg #[.string ⟨#[115, 101, 110]⟩, .int .i64 54, .int .i64 8]) w := by kernel_rfl
theorem avx_all (k : Nat) (e : List UInt8 × Int × Int) (he : abv[k]? = some e) (w : World) : (Instr.index 63 (.agg avL.toArray) (.int .i64 (k : Int))).run Tryz.prog w = .ok (.agg #[.string ⟨e.1.toArray⟩, .int .i64 e.2.1, .int .i64 e.2.2]) w :=
  match k, he with
  | 0, he => by cases he; exact avx_0 w
  | 1, he => by cases he; exact avx_1 w
  | 2, he => by cases he; exact avx_2 w
  | 3, he => by cases he; exact avx_3 w
  | 4, he => by cases he; exact avx_4 w
  | 5, he => by cases he; exact avx_5 w
  | 6, he => by cases he; exact avx_6 w
  | 7, he => by cases he; exact avx_7 w
  | 8, he => by cases he; exact avx_8 w
  | k + 9, he => by simp [abv] at he

theorem ab_more {o n : Int} {k : Nat} {e : List UInt8 × Int × Int} (hk : abv[k]? = some e) (h : Hid (∀ (j : Nat) (e : List UInt8 × Int × Int), j < k → abv[j]? = some e → ¬ (e.2.1 = o ∧ e.2.2 = n))) (he : ¬ (e.2.1 = o ∧ e.2.2 = n)) : Hid (∀ (j : Nat) (e : List UInt8 × Int × Int), j < k + 1 → abv[j]? = some e → ¬ (e.2.1 = o ∧ e.2.2 = n)) := by
  intro j e' hj hj'
  rcases Nat.lt_or_ge j k with h1 | h1
  · exact h j e' h1 hj'
  · obtain rfl : j = k := by omega
    rw [hk] at hj'
    cases hj'
    exact he

end Go.Proofs.YtdbbnkjnmldnpaaGreatDoor
