/-
  Walks over Text of package psw and of its reference. No condition.
-/
import Derived.Test.YtmihnfaccklkpaaPsB
import Derived.Deep.OwnRows
import Derived.Maps.OwnRows
import Derived.Maps.AppendAt
import Derived.Lib.IndexBytes
import Derived.Lib.UnsafeStr
import Derived.Laws.DeepStrings4
import Derived.Lib.Strings
namespace Go.Proofs.Ytmihnfaccklkpaa
open Go.RowKit
set_option linter.unusedSimpArgs false
set_option maxHeartbeats 1000000

theorem info8 : (Try.prog.info? 5).map (fun i => (i.zero, i.size, i.bytes)) = some (some (.int .u8 0), 1, 1) := by kernel_rfl
theorem ba_app (a b : Array UInt8) : ((⟨a⟩ : ByteArray) ++ ⟨b⟩) = ⟨a ++ b⟩ := by apply ByteArray.ext; simp [ByteArray.data_append]
theorem quiet_eq {P : Program} {f : FuncId} {args : Array Value} {w : World} {n : Nat} {v : Value}
    (h : Calls P f args (w.drewN n) fun e w' => e = .returned v ∧ w.drewN n = w') : Calls P f args (w.drewN n) fun e w'' => e = .returned v ∧ ∃ m, w'' = w.drewN m :=
  h.mono fun _ _ ⟨he, hm⟩ => ⟨he, n, hm.symm⟩

theorem drewN_below {B : Nat} {a w : World} (h : Below B a w) (q : Nat) : Below B a (w.drewN q) := ⟨h.os, h.tape, h.output, h.size, h.block⟩
theorem letter_any (n b : Int) (k : Nat) (c : UInt8) (hb : b = (k : Int)) (hk : k < 5) (w : World) : Calls Try.prog 30 #[.int .i64 n, .int .i64 b, .string ⟨#[c]⟩] w fun e w' => e = .returned (.string ⟨#[sl c (n / 2 ^ k % 2)]⟩) ∧ w = w' := by
  have A := a1 (n / 2 ^ k)
  have hd : n / 2 ^ k % 2 = 0 ∨ n / 2 ^ k % 2 = 1 := by omega
  subst hb
  generalize n / 2 ^ k % 2 = M at *
  rcases hd with rfl | rfl
  all_goals
    go_enter Try.func30, Try.ntmps30
    go_wp2
    go_ret
    exact ⟨rfl, rfl⟩

theorem dig_cut (p : Nat) (hp : p < 8) : (⟨#[48, 49, 50, 51, 52, 53, 54, 55]⟩ : ByteArray).extract p (p + 1) = ⟨#[UInt8.ofNat (48 + p)]⟩ := by
  match p, hp with
  | 0, _ => rfl
  | 1, _ => rfl
  | 2, _ => rfl
  | 3, _ => rfl
  | 4, _ => rfl
  | 5, _ => rfl
  | 6, _ => rfl
  | 7, _ => rfl

theorem rtext_any (n : Int) (w : World) : Calls Try.prog 28 #[.int .i64 n] w fun e w' => e = .returned (.string ⟨(tx n).toArray⟩) ∧ Below w.heap.size w w' := by
  have hm := fun w => rmode_any n w
  have hp := fun w => rprev_any n w
  have hr := fun w => rprio_any n w
  have l4 := fun w => letter_any n 4 4 84 rfl (by decide) w
  have l3 := fun w => letter_any n 3 3 78 rfl (by decide) w
  have l2 := fun w => letter_any n 2 2 90 rfl (by decide) w
  have l1 := fun w => letter_any n 1 1 86 rfl (by decide) w
  have l0 := fun w => letter_any n 0 0 67 rfl (by decide) w
  simp only [Nat.reducePow, Int.reducePow, Int.ediv_one] at l4 l3 l2 l1 l0
  unfold tx
  have hdm := md_bd n
  have hdp := pv_bd n
  obtain ⟨p, hpp⟩ := Int.eq_ofNat_of_zero_le (pr_bd n).1
  have hp8 := (pr_bd n).2
  rw [hpp] at hp8 hr ⊢
  have hp8 : p < 8 := by omega
  have hcut := dig_cut p hp8
  simp only [Int.toNat_natCast]
  generalize md n = M at *
  generalize pv n = V at *
  generalize sl 84 (n / 16 % 2) = c4 at *
  generalize sl 78 (n / 8 % 2) = c3 at *
  generalize sl 90 (n / 4 % 2) = c2 at *
  generalize sl 86 (n / 2 % 2) = c1 at *
  generalize sl 67 (n % 2) = c0 at *
  generalize UInt8.ofNat (48 + p) = cp at *
  clear hpp
  have v1 : IntKind.i64.wrap ((p : Int) + 1) = (p : Int) + 1 := by rw [wrap_i64]; exact IntWalk.wrap64_in _ ⟨by omega, by omega⟩
  have x0 : (⟨#[107, 117]⟩ : ByteArray).extract 0 1 = ⟨#[107]⟩ := rfl
  have x1 : (⟨#[107, 117]⟩ : ByteArray).extract 1 2 = ⟨#[117]⟩ := rfl
  rcases hdm with rfl | rfl <;> rcases hdp with rfl | rfl
  all_goals
    go_enter Try.func28, Try.ntmps28
    go_wp2
    go_quiet ((first
      | (go_at_call 11; exact quiet_eq (hm _))
      | (go_at_call 13; exact quiet_eq (hp _))
      | (go_at_call 15; exact quiet_eq (hr _))))
    go_wp2_with (first
      | (go_at_call 30; with_reducible refine (l4 _).mono ?_; rintro e w' ⟨rfl, rfl⟩)
      | (go_at_call 30; with_reducible refine (l3 _).mono ?_; rintro e w' ⟨rfl, rfl⟩)
      | (go_at_call 30; with_reducible refine (l2 _).mono ?_; rintro e w' ⟨rfl, rfl⟩)
      | (go_at_call 30; with_reducible refine (l1 _).mono ?_; rintro e w' ⟨rfl, rfl⟩)
      | (go_at_call 30; with_reducible refine (l0 _).mono ?_; rintro e w' ⟨rfl, rfl⟩))
    go_ret
    exact ⟨by simp only [ba_app]; rfl, drewN_below (Below.refl _ _) nq⟩

end Go.Proofs.Ytmihnfaccklkpaa
