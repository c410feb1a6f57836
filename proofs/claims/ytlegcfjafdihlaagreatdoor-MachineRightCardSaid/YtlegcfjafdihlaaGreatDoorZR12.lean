import Derived.Test.YtlegcfjafdihlaaGreatDoorZR11
import Derived.Test.YtlegcfjafdihlaaGreatDoorZR01
import Derived.Test.YtlegcfjafdihlaaGreatDoorZR09
/-
  Walks over Right and Read of package memory and of its reference. Condition: lists have at most 2^40 elements; for Read, the bad addresses ascend.
-/
namespace Go.Proofs.YtlegcfjafdihlaaGreatDoor
open Go.RowKit
set_option linter.unusedSimpArgs false
set_option linter.unusedVariables false
set_option maxHeartbeats 1000000
attribute [local irreducible] wpQuiet

theorem words_drop {l : List Int} {k : Nat} {x : Int} (h : l[k]? = some x) : wordsB (l.drop k) = ((decide (0 ≤ x) && decide (x ≤ 65535)) && wordsB (l.drop (k + 1))) := by
  have hk : k < l.length := (List.getElem?_eq_some_iff.1 h).1
  rw [List.drop_eq_getElem_cons hk, (List.getElem?_eq_some_iff.1 h).2]; rfl
theorem bad_drop {l : List Int} {k : Nat} {x : Int} (n low : Int) (h : l[k]? = some x) : badB n low (l.drop k) = ((decide (low ≤ x) && (decide (x % 2 = 0) && decide (x < n))) && badB n (x + 2) (l.drop (k + 1))) := by
  have hk : k < l.length := (List.getElem?_eq_some_iff.1 h).1
  rw [List.drop_eq_getElem_cons hk, (List.getElem?_eq_some_iff.1 h).2]; rfl
theorem right_no {mem bad : List Int} (h : okS (2 * (mem.length : Int)) = false) : rightP mem bad = false := by unfold rightP; rw [h]; rfl
theorem right_ok {mem bad : List Int} (h : okS (2 * (mem.length : Int)) = true) : rightP mem bad = (wordsB mem && badB (2 * (mem.length : Int)) 0 bad) := by unfold rightP; rw [h]; rfl

theorem right_any (vm vb : Value) (mem bad : List Int) (hl : mem.length ≤ 1099511627776) (hl2 : bad.length ≤ 1099511627776) (w : World) (hm : Nums .i64 w vm mem) (hb : Nums .i64 w vb bad) :
    Calls Tryz.prog 91 #[vm, vb] w fun e w' => e = .returned (.bool (rightP mem bad)) ∧ w = w' := by
  obtain ⟨A, ca, rfl, _, hca⟩ := hm
  obtain ⟨B, cb, rfl, _, hcb⟩ := hb
  have hsz := fun w => sizeof_any A mem.length ca hl w
  have hal := fun w => allowed_any (2 * (mem.length : Int)) w
  have hwi := fun x w => within_any A mem.length ca hl x w
  cases hq : okS (2 * (mem.length : Int))
  · rw [right_no hq]
    rw [hq] at hal
    clear hq hca hcb
    go_enter Tryz.func91, Tryz.ntmps91
    go_wp2_with (first | (go_at_call 129; with_reducible refine (hsz _).mono ?_; rintro e w' ⟨rfl, rfl⟩) | (go_at_call 67; with_reducible refine (hal _).mono ?_; rintro e w' ⟨rfl, rfl⟩))
    go_ret
    exact ⟨rfl, rfl⟩
  · obtain ⟨Q, hQ⟩ : ∃ Q, Hid (Q = rightP mem bad) := ⟨_, rfl⟩
    rw [← show Q = rightP mem bad from hQ]
    rw [right_ok hq] at hQ
    rw [hq] at hal
    clear hq
    go_enter Tryz.func91, Tryz.ntmps91
    go_wp2_with (first | (go_at_call 129; with_reducible refine (hsz _).mono ?_; rintro e w' ⟨rfl, rfl⟩) | (go_at_call 67; with_reducible refine (hal _).mono ?_; rintro e w' ⟨rfl, rfl⟩))
    go_loopw [16] (fun i wr => ∃ k : Nat, k ≤ mem.length ∧ i = .int .i64 k ∧ w = wr ∧ Hid (Q = (wordsB (mem.drop k) && badB (2 * (mem.length : Int)) 0 bad)))
      (fun i _ => match i with | .int _ q => mem.length - q.toNat | _ => 0)
    case atStart => exact ⟨0, Nat.zero_le _, rfl, rfl, by rw [List.drop_zero]; exact hQ⟩
    case round =>
      clear hQ
      obtain ⟨k, hk, rfl, rfl, hQ⟩ := hrel
      by_cases hkl : k < mem.length
      · have hx := List.getElem?_eq_getElem hkl
        generalize mem[k] = x at *
        obtain ⟨a, rfl, hcx, _⟩ := hca k x hx
        have hd := hid (words_drop hx)
        clear hx hca hcb
        by_cases h1 : 0 ≤ x
        · by_cases h2 : x ≤ 65535
          · go_wp2
            refine ⟨⟨k + 1, by omega, by go_num, by first | rfl | trivial, ?_⟩, by simp only; omega⟩
            show Q = _
            rw [show Q = _ from hQ, show _ = _ from hd]; simp [h1, h2]
          · go_wp2
            go_ret
            exact ⟨ret_bool (by rw [show Q = _ from hQ, show _ = _ from hd, show decide (x ≤ 65535) = false from decide_eq_false (by omega)]; simp), rfl⟩
        · go_wp2
          go_ret
          exact ⟨ret_bool (by rw [show Q = _ from hQ, show _ = _ from hd, show decide (0 ≤ x) = false from decide_eq_false (by omega)]; simp), rfl⟩
      · obtain rfl : k = mem.length := by omega
        rw [List.drop_length] at hQ
        have hQ : Hid (Q = badB (2 * (mem.length : Int)) 0 bad) := by show Q = _; rw [show Q = _ from hQ]; rfl
        clear hca
        go_wp2
        go_loopw [7, 29] (fun s i wr => ∃ (k : Nat) (low : Int), k ≤ bad.length ∧ i = .int .i64 k ∧ s = .int .i64 low ∧ 0 ≤ low ∧ w = wr ∧ Hid (Q = badB (2 * (mem.length : Int)) low (bad.drop k)))
          (fun _ i _ => match i with | .int _ q => bad.length - q.toNat | _ => 0)
        case atStart => exact ⟨0, 0, Nat.zero_le _, rfl, rfl, Int.le_refl _, rfl, by rw [List.drop_zero]; exact hQ⟩
        case round =>
          clear hQ
          obtain ⟨j, low, hj, rfl, rfl, h0, rfl, hQ⟩ := hrel
          by_cases hjl : j < bad.length
          · have hx := List.getElem?_eq_getElem hjl
            generalize bad[j] = x at *
            obtain ⟨a, rfl, hcx, _⟩ := hcb j x hx
            have hd := hid (bad_drop (2 * (mem.length : Int)) low hx)
            have hww := hid (wwP_eq (2 * (mem.length : Int)) x)
            have hwi := fun w => hwi x w
            clear hx hcb
            by_cases h1 : low ≤ x
            · have hxl : wwP (2 * (mem.length : Int)) x = true → x < 2 * (mem.length : Int) := by intro h; rw [show _ = _ from hww] at h; simp at h; omega
              have hdd : Hid (wwP (2 * (mem.length : Int)) x = (decide (x % 2 = 0) && decide (x < 2 * (mem.length : Int)))) := by show _ = _; rw [show _ = _ from hww, decide_eq_true (show 0 ≤ x by omega)]; rfl
              clear hww
              generalize wwP (2 * (mem.length : Int)) x = q at *
              cases q
              · clear hxl
                go_wp2_with (first | (go_at_call 130; with_reducible refine (hwi _).mono ?_; rintro e w' ⟨rfl, rfl⟩))
                go_ret
                exact ⟨ret_bool (by rw [show Q = _ from hQ, show _ = _ from hd, ← show false = _ from hdd]; simp), rfl⟩
              · have hxl := hxl rfl
                go_wp2_with (first | (go_at_call 130; with_reducible refine (hwi _).mono ?_; rintro e w' ⟨rfl, rfl⟩))
                refine ⟨⟨j + 1, x + 2, by omega, by go_num, rfl, by omega, by first | rfl | trivial, ?_⟩, by simp only; omega⟩
                show Q = _
                rw [show Q = _ from hQ, show _ = _ from hd, ← show true = _ from hdd, decide_eq_true h1]; rfl
            · clear hww
              go_wp2_with fail
              go_ret
              exact ⟨ret_bool (by rw [show Q = _ from hQ, show _ = _ from hd, decide_eq_false (show ¬ low ≤ x by omega)]; rfl), rfl⟩
          · obtain rfl : j = bad.length := by omega
            rw [List.drop_length] at hQ
            clear hcb
            go_wp2
            go_ret
            exact ⟨ret_bool (by rw [show Q = _ from hQ]; rfl), rfl⟩

/-- What the reference's loop over the bad addresses knows: the least address that may come next. -/
def lowP (bad : List Int) (k : Nat) (low : Int) : Prop := (k = 0 ∧ low = 0) ∨ ∃ y, 0 < k ∧ bad[k - 1]? = some y ∧ low = y + 2 ∧ 0 ≤ y ∧ y % 2 = 0
theorem rright_any (vm vb : Value) (mem bad : List Int) (hl : mem.length ≤ 1099511627776) (hl2 : bad.length ≤ 1099511627776) (w : World) (hm : Nums .i64 w vm mem) (hb : Nums .i64 w vb bad) :
    Calls Tryz.prog 94 #[vm, vb] w fun e w' => e = .returned (.bool (rightP mem bad)) ∧ Below w.heap.size w w' := by
  obtain ⟨A, ca, rfl, _, hca⟩ := hm
  obtain ⟨B, cb, rfl, _, hcb⟩ := hb
  have hal := fun w => size_any (2 * (mem.length : Int)) w
  cases hq : okS (2 * (mem.length : Int))
  · rw [right_no hq]
    rw [hq] at hal
    clear hq hca hcb
    go_enter Tryz.func94, Tryz.ntmps94
    go_wp2_with (first | (go_at_call 78; with_reducible refine (hal _).mono ?_; rintro e w' ⟨rfl, rfl⟩))
    go_ret
    exact ⟨rfl, Below.refl _ _⟩
  · obtain ⟨Q, hQ⟩ : ∃ Q, Hid (Q = rightP mem bad) := ⟨_, rfl⟩
    rw [← show Q = rightP mem bad from hQ]
    rw [right_ok hq] at hQ
    rw [hq] at hal
    clear hq
    go_enter Tryz.func94, Tryz.ntmps94
    go_wp2_with (first | (go_at_call 78; with_reducible refine (hal _).mono ?_; rintro e w' ⟨rfl, rfl⟩))
    go_loopw [5] (fun i wr => ∃ k : Nat, k ≤ mem.length ∧ i = .int .i64 k ∧ w = wr ∧ Hid (Q = (wordsB (mem.drop k) && badB (2 * (mem.length : Int)) 0 bad)))
      (fun i _ => match i with | .int _ q => mem.length - q.toNat | _ => 0)
    case atStart => exact ⟨0, Nat.zero_le _, rfl, rfl, by rw [List.drop_zero]; exact hQ⟩
    case round =>
      clear hQ
      obtain ⟨k, hk, rfl, rfl, hQ⟩ := hrel
      by_cases hkl : k < mem.length
      · have hx := List.getElem?_eq_getElem hkl
        generalize mem[k] = x at *
        obtain ⟨a, rfl, hcx, _⟩ := hca k x hx
        have hd := hid (words_drop hx)
        clear hx hca hcb
        by_cases h1 : 0 ≤ x
        · by_cases h2 : x ≤ 65535
          · go_wp2
            refine ⟨⟨k + 1, by omega, by go_num, by first | rfl | trivial, ?_⟩, by simp only; omega⟩
            show Q = _
            rw [show Q = _ from hQ, show _ = _ from hd]; simp [h1, h2]
          · go_wp2
            go_ret
            exact ⟨ret_bool (by rw [show Q = _ from hQ, show _ = _ from hd, show decide (x ≤ 65535) = false from decide_eq_false (by omega)]; simp), Below.refl _ _⟩
        · go_wp2
          go_ret
          exact ⟨ret_bool (by rw [show Q = _ from hQ, show _ = _ from hd, show decide (0 ≤ x) = false from decide_eq_false (by omega)]; simp), Below.refl _ _⟩
      · obtain rfl : k = mem.length := by omega
        rw [List.drop_length] at hQ
        have hQ : Hid (Q = badB (2 * (mem.length : Int)) 0 bad) := by show Q = _; rw [show Q = _ from hQ]; rfl
        clear hca
        go_wp2
        go_loopw [6] (fun i wr => ∃ (k : Nat) (low : Int), k ≤ bad.length ∧ i = .int .i64 k ∧ lowP bad k low ∧ Below w.heap.size w wr ∧ Hid (Q = badB (2 * (mem.length : Int)) low (bad.drop k)))
          (fun i _ => match i with | .int _ q => bad.length - q.toNat | _ => 0)
        case atStart => exact ⟨0, 0, Nat.zero_le _, rfl, .inl ⟨rfl, rfl⟩, Below.refl _ _, by rw [List.drop_zero]; exact hQ⟩
        case round =>
          clear hQ
          obtain ⟨j, low, hj, rfl, hlow, hbr, hQ⟩ := hrel
          by_cases hjl : j < bad.length
          · have hx := List.getElem?_eq_getElem hjl
            generalize bad[j] = x at *
            obtain ⟨a, rfl, hcx, hcl⟩ := hcb j x hx
            have hcx := (hbr.cell hcl).trans hcx
            have hd := hid (bad_drop (2 * (mem.length : Int)) low hx)
            have j0 : (0 : Int) ≤ (j : Int) := by omega
            have j1 : (j : Int) < (bad.length : Int) := by omega
            by_cases h1 : x < 0
            · have hb1 : decide (x < 0) = true := decide_eq_true h1
              have hlo : ¬ low ≤ x := by rcases hlow with ⟨_, h⟩ | ⟨y, _, _, h, _, _⟩ <;> omega
              clear hx hcb hcl hlow
              go_wp2
              go_quiet (fail)
              go_wp2
              go_ret
              exact ⟨ret_bool (by rw [show Q = _ from hQ, show _ = _ from hd, decide_eq_false (show ¬ low ≤ x by omega)]; rfl), drewN_below hbr nq⟩
            · have hb1 : decide (x < 0) = false := decide_eq_false h1
              by_cases h2 : 2 * (mem.length : Int) ≤ x
              · have hb2 : decide (2 * (mem.length : Int) ≤ x) = true := decide_eq_true h2
                have hlo : ¬ x < 2 * (mem.length : Int) := by omega
                clear hx hcb hcl hlow
                go_wp2
                go_quiet (fail)
                go_wp2
                go_ret
                exact ⟨ret_bool (by rw [show Q = _ from hQ, show _ = _ from hd, decide_eq_false (show ¬ x < 2 * (mem.length : Int) by omega)]; simp), drewN_below hbr nq⟩
              · have hb2 : decide (2 * (mem.length : Int) ≤ x) = false := decide_eq_false h2
                have h2b : decide (x < 2 * (mem.length : Int)) = true := decide_eq_true (by omega)
                have h2b := hid h2b
                by_cases h3 : x % 2 = 0
                · have hb3 : (x % 2 != 0) = false := by simpa using h3
                  have hnn : 0 ≤ x := by omega
                  rcases hlow with ⟨hj0, rfl⟩ | ⟨y, hpos, hy, rfl, hy0, hy2⟩
                  · have hlow' : lowP bad (j + 1) (x + 2) := .inr ⟨x, by omega, by rw [Nat.add_sub_cancel]; exact hx, rfl, hnn, h3⟩
                    have i0 : decide ((0 : Int) < (j : Int)) = false := decide_eq_false (by omega)
                    have i0n : decide (0 < j) = false := decide_eq_false (by omega)
                    have V : IntKind.i64.wrap (2 * (mem.length : Int)) = 2 * (mem.length : Int) := by rw [wrap_i64]; exact IntWalk.wrap64_in _ ⟨by omega, by omega⟩
                    clear hx hcb hcl hj0
                    go_wp2
                    go_quiet (fail)
                    go_wp2
                    refine ⟨⟨j + 1, x + 2, by omega, by go_num, hlow', drewN_below hbr nq, ?_⟩, by simp only; omega⟩
                    show Q = _
                    rw [show Q = _ from hQ, show _ = _ from hd, decide_eq_true h3, decide_eq_true hnn, show _ = _ from h2b]; rfl
                  · obtain ⟨i, hi⟩ : ∃ i, j - 1 = i := ⟨_, rfl⟩
                    rw [hi] at hy
                    obtain ⟨a2, ha2, hcy, hcl2⟩ := hcb i y hy
                    cases ha2
                    have hcy := (hbr.cell hcl2).trans hcy
                    have hii : (j : Int) - 1 = (i : Int) := by omega
                    have i0 : (0 : Int) < (j : Int) := by omega
                    have i1 : (i : Int) < (bad.length : Int) := by omega
                    clear hi
                    by_cases h4 : x ≤ y
                    · have hlo : ¬ y + 2 ≤ x := by omega
                      clear hx hcb hcl hcl2
                      go_wp2
                      go_quiet (fail)
                      go_wp2
                      go_ret
                      exact ⟨ret_bool (by rw [show Q = _ from hQ, show _ = _ from hd, decide_eq_false (show ¬ y + 2 ≤ x by omega)]; rfl), drewN_below hbr nq⟩
                    · have hlo : y + 2 ≤ x := by omega
                      have hlow' : lowP bad (j + 1) (x + 2) := .inr ⟨x, by omega, by rw [Nat.add_sub_cancel]; exact hx, rfl, hnn, h3⟩
                      clear hx hcb hcl hcl2
                      go_wp2
                      go_quiet (fail)
                      go_wp2
                      refine ⟨⟨j + 1, x + 2, by omega, by go_num, hlow', drewN_below hbr nq, ?_⟩, by simp only; omega⟩
                      show Q = _
                      rw [show Q = _ from hQ, show _ = _ from hd, decide_eq_true h3, decide_eq_true hlo, show _ = _ from h2b]; rfl
                · have hb3 : (x % 2 != 0) = true := by simpa using h3
                  have hnn : 0 ≤ x := by omega
                  clear hx hcb hcl hlow
                  go_wp2
                  go_quiet (fail)
                  go_wp2
                  go_ret
                  exact ⟨ret_bool (by rw [show Q = _ from hQ, show _ = _ from hd, decide_eq_false h3]; simp), drewN_below hbr nq⟩
          · obtain rfl : j = bad.length := by omega
            rw [List.drop_length] at hQ
            clear hcb hlow
            go_wp2
            go_ret
            exact ⟨ret_bool (by rw [show Q = _ from hQ]; rfl), hbr⟩

/-! ### Read -/
end Go.Proofs.YtlegcfjafdihlaaGreatDoor
