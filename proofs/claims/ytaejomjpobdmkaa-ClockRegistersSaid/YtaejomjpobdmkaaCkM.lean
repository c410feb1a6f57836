/-
  same of the laws of package clock; ClockRegisters. Condition: at most 2^40 requests.
-/
import Derived.Test.YtaejomjpobdmkaaCkL
import Derived.Deep.RegionHeld3
namespace Go.Proofs.Ytaejomjpobdmkaa
open Go.RowKit
set_option linter.unusedSimpArgs false
set_option linter.unusedVariables false
set_option maxHeartbeats 4000000
set_option maxRecDepth 100000
attribute [local irreducible] wpQuiet

/-- A fact that the walk does not use. -/
def Hid (p : Prop) : Prop := p
theorem hid {p : Prop} (h : p) : Hid p := h
theorem take_eq_of {α : Type} {a b : List α} (h : a.length = b.length) (h2 : a.take a.length = b.take a.length) : a = b := by
  rw [List.take_length, h, List.take_length] at h2; exact h2
theorem take_snoc {α : Type} {a : List α} {k : Nat} {x : α} (h : a[k]? = some x) : a.take (k + 1) = a.take k ++ [x] := by
  have hk : k < a.length := (List.getElem?_eq_some_iff.1 h).1
  rw [List.take_succ_eq_append_getElem hk, (List.getElem?_eq_some_iff.1 h).2]
theorem csame_any (u v : Value) (a b : List Rq) (ha : a.length ≤ 1099511627776) (hb : b.length ≤ 1099511627776) (w : World) (hu : Rqs w u a) (hv : Rqs w v b) :
    Calls Try.prog 20 #[u, v] w fun e w' => e = .returned (.bool (decide (a = b))) ∧ Below w.heap.size w w' := by
  have hu0 := hu
  have hv0 := hv
  obtain ⟨A, c, rfl, _, hc⟩ := hu
  obtain ⟨B, d, rfl, _, hd⟩ := hv
  by_cases hl : a.length = b.length
  · have hlb : ((a.length : Int) != (b.length : Int)) = false := by rw [hl]; simp
    replace hl := hid hl
    go_enter Try.func20, Try.ntmps20
    go_wp2
    go_loopw [13] (fun i wr => ∃ k : Nat, k ≤ a.length ∧ i = .int .i64 k ∧ Hid (a.take k = b.take k) ∧ Below w.heap.size w wr) (fun i _ => match i with | .int _ q => a.length - q.toNat | _ => 0)
    case atStart => exact ⟨0, Nat.zero_le _, rfl, rfl, Below.refl _ _⟩
    case round =>
      obtain ⟨k, hk, rfl, hP, hB⟩ := hrel
      by_cases hka : k < a.length
      · have hx := List.getElem?_eq_getElem hka
        have hy := List.getElem?_eq_getElem (show k < b.length by have := (show a.length = b.length from hl); omega)
        have hkb : k < b.length := by have := (show a.length = b.length from hl); omega
        generalize a[k] = x at *
        generalize b[k] = y at *
        obtain ⟨ad, rfl, _⟩ := hc (k * 2) (.int .i64 x.1) (flat_get hx 0 _ rfl)
        obtain ⟨bd, rfl, _⟩ := hd (k * 2) (.int .i64 y.1) (flat_get hy 0 _ rfl)
        have hX1 : ∀ w', Below w.heap.size w w' → (Instr.loadAt 38 (.pointer (some (ad.add (k * 2))))).run Try.prog w' = .ok (.agg #[.int .i64 x.1, .int .i64 x.2]) w' := fun w' h => Rqs.load (Rw.below hu0 h) rfl hx
        have hY1 : ∀ w', Below w.heap.size w w' → (Instr.loadAt 38 (.pointer (some (bd.add (k * 2))))).run Try.prog w' = .ok (.agg #[.int .i64 y.1, .int .i64 y.2]) w' := fun w' h => Rqs.load (Rw.below hv0 h) rfl hy
        clear hc hd hu0 hv0
        obtain ⟨p, m⟩ := x
        obtain ⟨q, n⟩ := y
        simp only at hX1 hY1
        by_cases hpq : p = q
        · subst hpq
          by_cases hmn : m = n
          · subst hmn
            have hP2 : Hid (a.take (k + 1) = b.take (k + 1)) := by show _ = _; rw [take_snoc hx, take_snoc hy, show a.take k = b.take k from hP]
            clear hx hy
            go_wp2
            refine region_class (fun wz => Below w.heap.size w wz) (by kernel_rfl) (by kernel_rfl) hB.drew ?_
            repeat
              first
                | (refine BigFrame.wpQuiet_skip (by rfl) ?_
                   simp only [Act.put, List.setIfInBounds_toArray, List.set_cons_zero, List.set_cons_succ])
                | (refine BigFrame.wpQuiet_want (by rfl) (fun K hK => ?_)
                   apply Exists.intro
                   refine ⟨fun wq hq => ?_, hK _ ?_⟩
                   · first
                       | (refine quiet_load 38 _ _ _ rfl rfl (hX1 _ hq))
                       | (refine quiet_load 38 _ _ _ rfl rfl (hY1 _ hq))
                       | (unfold Oper.quietAt
                          go_simp
                          first
                            | with_reducible rfl
                         )
                   clear hK K
                   simp only [Act.put, List.setIfInBounds_toArray, List.set_cons_zero, List.set_cons_succ])
            refine wpQuiet_nil ?_
            intro w4 hB4
            go_wp2
            exact ⟨⟨k + 1, by omega, by go_num, hP2, hB4⟩, by simp only; omega⟩
          · have hne : Hid (decide (a = b) = false) := by
              show _ = _
              rw [decide_eq_false_iff_not]; intro h; rw [h, hy] at hx; simp at hx; exact hmn hx.symm
            clear hx hy
            go_wp2
            refine region_class (fun wz => Below w.heap.size w wz) (by kernel_rfl) (by kernel_rfl) hB.drew ?_
            repeat
              first
                | (refine BigFrame.wpQuiet_skip (by rfl) ?_
                   simp only [Act.put, List.setIfInBounds_toArray, List.set_cons_zero, List.set_cons_succ])
                | (refine BigFrame.wpQuiet_want (by rfl) (fun K hK => ?_)
                   apply Exists.intro
                   refine ⟨fun wq hq => ?_, hK _ ?_⟩
                   · first
                       | (refine quiet_load 38 _ _ _ rfl rfl (hX1 _ hq))
                       | (refine quiet_load 38 _ _ _ rfl rfl (hY1 _ hq))
                       | (unfold Oper.quietAt
                          go_simp
                          first
                            | with_reducible rfl
                         )
                   clear hK K
                   simp only [Act.put, List.setIfInBounds_toArray, List.set_cons_zero, List.set_cons_succ])
            refine wpQuiet_nil ?_
            intro w4 hB4
            go_wp2
            go_ret
            exact ⟨by rw [show decide (a = b) = false from hne]; rfl, hB4⟩
        · have hne : Hid (decide (a = b) = false) := by
            show _ = _
            rw [decide_eq_false_iff_not]; intro h; rw [h, hy] at hx; simp at hx; exact hpq hx.1.symm
          clear hx hy
          go_wp2
          refine region_class (fun wz => Below w.heap.size w wz) (by kernel_rfl) (by kernel_rfl) hB.drew ?_
          repeat
            first
              | (refine BigFrame.wpQuiet_skip (by rfl) ?_
                 simp only [Act.put, List.setIfInBounds_toArray, List.set_cons_zero, List.set_cons_succ])
              | (refine BigFrame.wpQuiet_want (by rfl) (fun K hK => ?_)
                 apply Exists.intro
                 refine ⟨fun wq hq => ?_, hK _ ?_⟩
                 · first
                     | (refine quiet_load 38 _ _ _ rfl rfl (hX1 _ hq))
                     | (refine quiet_load 38 _ _ _ rfl rfl (hY1 _ hq))
                     | (unfold Oper.quietAt
                        go_simp
                        first
                          | with_reducible rfl
                       )
                 clear hK K
                 simp only [Act.put, List.setIfInBounds_toArray, List.set_cons_zero, List.set_cons_succ])
          refine wpQuiet_nil ?_
          intro w4 hB4
          go_wp2
          go_ret
          exact ⟨by rw [show decide (a = b) = false from hne]; rfl, hB4⟩
      · have hkn : k = a.length := by omega
        have hab : Hid (decide (a = b) = true) := by
          show _ = _
          rw [decide_eq_true_iff]
          refine take_eq_of (show a.length = b.length from hl) ?_
          rw [← hkn]; exact hP
        subst hkn
        clear hc hd hu0 hv0 hP
        go_wp2
        go_ret
        exact ⟨by rw [show decide (a = b) = true from hab]; rfl, hB⟩
  · have hn : ¬ (a.length : Int) = (b.length : Int) := by omega
    have hn2 : ((a.length : Int) != (b.length : Int)) = true := by simpa using hn
    have hne : Hid (decide (a = b) = false) := by
      show _ = _
      rw [decide_eq_false_iff_not]; intro h; exact hl (by rw [h])
    clear hc hd hu0 hv0 hl
    go_enter Try.func20, Try.ntmps20
    go_wp2
    go_ret
    exact ⟨by rw [show decide (a = b) = false from hne]; rfl, Below.refl _ _⟩

theorem bag_cells {W0 w : World} {e r : Bool} {p l : Int} (h : Bag [(W0.heap.size, 23, [.bool e, .bool r, .int .i64 p, .int .i64 l])] W0 w) : (fun w2 => w2.cell? ⟨W0.heap.size, 0, none⟩ = some (.bool e) ∧ w2.cell? ⟨W0.heap.size, 1, none⟩ = some (.bool r) ∧ w2.cell? ⟨W0.heap.size, 2, none⟩ = some (.int .i64 p) ∧ w2.cell? ⟨W0.heap.size, 3, none⟩ = some (.int .i64 l) ∧ Bag [(W0.heap.size, 23, [.bool e, .bool r, .int .i64 p, .int .i64 l])] W0 w2) w :=
  ⟨(h.all _ _ _ (.head _)).cell rfl, (h.all _ _ _ (.head _)).cell rfl, (h.all _ _ _ (.head _)).cell rfl, (h.all _ _ _ (.head _)).cell rfl, h⟩
theorem ClockRegisters_law (H : CkC) (c : Ck) (v : Int) (W0 : World) : Calls Try.prog 5 #[.agg #[.bool c.e, .bool c.r, .int .i64 c.p, .int .i64 c.l], .int .i64 v] W0 fun e' w' => e' = .returned (.bool true) ∧ Below W0.heap.size W0 w' := by
  have hal := alive_true H
  have hX := (Bag.nil W0).new 23 [.bool c.e, .bool c.r, .int .i64 c.p, .int .i64 c.l]
  have h0 := rright_any c
  cases hr : c.right
  · rw [hr] at h0
    clear H hr
    go_enter Try.func5, Try.ntmps5
    go_wp2_with (first | (go_at_call 10; first | ((with_reducible refine (h0 _).mono ?_); rintro e' w' ⟨rfl, hb⟩; replace hX := hX.step hb; clear hb)) | (go_at_call 11; first | ((with_reducible refine (hal _).mono ?_); rintro e' w' ⟨rfl, hb⟩; replace hX := hX.step hb; clear hb)) | ((with_reducible refine at_load ?_); refine wpList_bag_part (k := 0) hX aggK sizK _ rfl rfl rfl rfl (by first | exact .head _ | exact .tail _ (.head _) | exact .tail _ (.tail _ (.head _)) | exact .tail _ (.tail _ (.tail _ (.head _)))) (fun jz vz hz => (congrArg (fun n => ([_, _, _, _] : List Value)[n]?) (Nat.zero_add jz)).trans hz) rfl ?_))
    go_ret
    exact ⟨rfl, hX.below⟩
  rw [hr] at h0
  have hqq : c.req.length ≤ 1 := by unfold Ck.req; split <;> simp
  have h1 := fun w => H.read c w hr
  have h2 := rread_any c
  have h3 := fun w => H.write c v w hr
  have h4 := rwrite_any c v
  have h5 := fun w => H.req c w hr
  have h6 := rreq_any c
  have h7 := fun w => H.acc c v w hr
  have h8 := racc_any c v
  have h9 : ∀ x y w, Rqs w x c.req → Rqs w y c.req → Calls Try.prog 20 #[x, y] w fun e' w' => e' = .returned (.bool true) ∧ Below w.heap.size w w' := fun x y w hx hy => by
    have h := csame_any x y c.req c.req (by omega) (by omega) w hx hy
    rw [decide_eq_true rfl] at h; exact h
  generalize c.req = q at *
  generalize c.read = rd at *
  generalize c.write v = wr at *
  generalize c.acc v = ac at *
  obtain ⟨e, r, p, l⟩ := c
  dsimp only at h0 h1 h2 h3 h4 h5 h6 h7 h8 hX
  clear H hr hqq
  go_enter Try.func5, Try.ntmps5
  go_wp2_with (first | (go_at_call 10; first | ((with_reducible refine (h0 _).mono ?_); rintro e' w' ⟨rfl, hb⟩; replace hX := hX.step hb; clear hb)) | ((with_reducible refine at_load ?_); refine wpList_bag_part (k := 0) hX aggK sizK _ rfl rfl rfl rfl (by first | exact .head _ | exact .tail _ (.head _) | exact .tail _ (.tail _ (.head _)) | exact .tail _ (.tail _ (.tail _ (.head _)))) (fun jz vz hz => (congrArg (fun n => ([_, _, _, _] : List Value)[n]?) (Nat.zero_add jz)).trans hz) rfl ?_))
  go_region_held3 (fun w2 => w2.cell? ⟨W0.heap.size, 0, none⟩ = some (.bool e) ∧ w2.cell? ⟨W0.heap.size, 1, none⟩ = some (.bool r) ∧ w2.cell? ⟨W0.heap.size, 2, none⟩ = some (.int .i64 p) ∧ w2.cell? ⟨W0.heap.size, 3, none⟩ = some (.int .i64 l) ∧ Bag [(W0.heap.size, 23, [.bool e, .bool r, .int .i64 p, .int .i64 l])] W0 w2) (first | exact bag_cells hX | exact bag_cells hX.drew) (first | (go_at_call 16; first | ((with_reducible refine (h1 _).mono ?_); rintro e' w' ⟨rfl, hb⟩; (first | (replace hX := hX.step hb) | (replace hX := hX.drew.step hb)); clear hb)) | (go_at_call 17; first | ((with_reducible refine (h2 _).mono ?_); rintro e' w' ⟨rfl, hb⟩; (first | (replace hX := hX.step hb) | (replace hX := hX.drew.step hb)); clear hb)) | (go_at_call 18; first | ((with_reducible refine (h3 _).mono ?_); rintro e' w' ⟨rfl, hb⟩; (first | (replace hX := hX.step hb) | (replace hX := hX.drew.step hb)); clear hb)) | (go_at_call 19; first | ((with_reducible refine (h4 _).mono ?_); rintro e' w' ⟨rfl, hb⟩; (first | (replace hX := hX.step hb) | (replace hX := hX.drew.step hb)); clear hb)) | (go_at_call 23; first | ((with_reducible refine (h7 _).mono ?_); rintro e' w' ⟨rfl, hb⟩; (first | (replace hX := hX.step hb) | (replace hX := hX.drew.step hb)); clear hb)) | (go_at_call 24; first | ((with_reducible refine (h8 _).mono ?_); rintro e' w' ⟨rfl, hb⟩; (first | (replace hX := hX.step hb) | (replace hX := hX.drew.step hb)); clear hb)) | (go_at_call 21; (with_reducible refine (h5 _).mono ?_); rintro e' w' ⟨x, rfl, hx, hb⟩; (first | (replace hX := hX.step hb) | (replace hX := hX.drew.step hb)); clear hb) | (go_at_call 22; (with_reducible refine (h6 _).mono ?_); rintro e' w' ⟨y, rfl, hy, hb⟩; (first | (replace hX := hX.step hb) | (replace hX := hX.drew.step hb)); replace hx := Rqs.below hx hb; clear hb) | (go_at_call 20; (with_reducible refine (h9 _ _ _ hx hy).mono ?_); rintro e' w' ⟨rfl, hb⟩; (first | (replace hX := hX.step hb) | (replace hX := hX.drew.step hb)); clear hb hx hy) | (go_at_call 11; first | ((with_reducible refine (hal _).mono ?_); rintro e' w' ⟨rfl, hb⟩; (first | (replace hX := hX.step hb) | (replace hX := hX.drew.step hb)); clear hb)))
  all_goals go_wp2
  all_goals go_ret
  all_goals exact ⟨rfl, hX.below⟩
end Go.Proofs.Ytaejomjpobdmkaa
