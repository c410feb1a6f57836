/-
  Walks over the first word of an instruction, and over Encode of package inst. Condition: the tables read as the program's text lays them.
-/
import Derived.Test.YtlaikajgpgpidaaDoorInJ
import Derived.Test.YtlaikajgpgpidaaDoorNums
namespace Go.Proofs.YtlaikajgpgpidaaDoor
open Go.RowKit
set_option linter.unusedSimpArgs false
set_option linter.unusedVariables false
set_option maxHeartbeats 1000000
set_option maxRecDepth 100000
attribute [local irreducible] wpQuiet

def fstR (i : In) : Int := match formR i.o with | some e => firstP e i | none => 0
def wdR (i : In) : List Int := fstR i :: ((if exS i = true then [i.x] else []) ++ (if exD i = true then [i.y] else []))
def encE (i : In) : Int := if vR i = true then 0 else 1
def encL (i : In) : List Int := if vR i = true then wdR i else []
theorem or_bd {a b : Int} (ha : 0 ≤ a ∧ a ≤ 65535) (hb : 0 ≤ b ∧ b ≤ 65535) : 0 ≤ bits .or .i64 a b ∧ bits .or .i64 a b ≤ 65535 := by
  have h1 := n64_w ha.1 ha.2
  have h2 := n64_w hb.1 hb.2
  have h3 : N64 a ||| N64 b < 2 ^ 16 := Nat.or_lt_two_pow (by omega) (by omega)
  rw [or_def, small (by omega)]
  omega
theorem placeR_bd (n f : Int) : 0 ≤ placeR n f ∧ placeR n f ≤ 65535 := by
  unfold placeR
  repeat' split
  all_goals omega
theorem putB_bd (e : Row) (i : In) (h : 0 ≤ e.e0 ∧ e.e0 ≤ 65535) : 0 ≤ putB e i ∧ putB e i ≤ 65535 := by
  have k := or_bd (or_bd (or_bd (placeR_bd (fdR i.m i.r) e.e1) (placeR_bd (fdR i.p i.q) e.e2)) (placeR_bd i.g e.e3)) (placeR_bd i.n e.e4)
  unfold putB
  split
  · exact or_bd k h
  · exact k
theorem form_rng {o : Int} {e : Row} (h : formR o = some e) : e.f ≤ o ∧ o ≤ e.l := by
  have := List.find?_some h
  unfold pf at this
  simpa using this
theorem take_self {f : Int} (h : IsM f) : takeR f f ≤ 255 := (takeR_bd f f h).2
theorem ho_bd {e : Row} {i : In} (ok : RowOk e) (h : hoR e i = true) : (-256 ≤ i.g ∧ i.g ≤ 256) ∧ (-256 ≤ i.n ∧ i.n ≤ 256) := by
  unfold hoR at h
  simp only [Bool.and_eq_true, decide_eq_true_eq] at h
  have := take_self ok.e3
  have := ok.e4b
  have := ok.e5
  omega

theorem formwrite_any (f l d a e0 e1 e2 e3 e4 e5 : Int) (ha : a = 12 ∨ a = 15 ∨ a = 9 ∨ a = 6 ∨ a = 8 ∨ a = 4 ∨ a = 0) (hd : 0 ≤ d ∧ d ≤ 65535) (hf : 0 ≤ f ∧ f ≤ 64) (h0 : 0 ≤ e0 ∧ e0 ≤ 65535) (h1 : IsM e1) (h2 : IsM e2) (h3 : IsM e3) (h4 : IsM e4) (o : Int) (b : Bool) (m r x p q y g n : Int) (ho : f ≤ o ∧ o ≤ 64) (hg : -256 ≤ g ∧ g ≤ 256) (hn : -256 ≤ n ∧ n ≤ 256) {A : Addr} {c : Nat} (W0 : World) (W : Frm A c W0) :
    Calls Tryd.prog 32 #[.agg #[.int .i64 f, .int .i64 l, .int .i64 d, .int .i64 a, .int .i64 e0, .int .i64 e1, .int .i64 e2, .int .i64 e3, .int .i64 e4, .int .i64 e5], .agg #[.int .i64 o, .bool b, .int .i64 m, .int .i64 r, .int .i64 x, .int .i64 p, .int .i64 q, .int .i64 y, .int .i64 g, .int .i64 n]] W0 fun e w' => e = .returned (.int .i64 (firstP ⟨f, l, d, a, e0, e1, e2, e3, e4, e5⟩ ⟨o, b, m, r, x, p, q, y, g, n⟩)) ∧ Below W0.heap.size W0 w' := by
  have hW := fun w (k : Frm A c w) => instwrite_any f l d a e0 e1 e2 e3 e4 e5 h1 h2 h3 h4 o b m r x p q y g n hg hn w k
  obtain ⟨hp1, hp2⟩ := putB_bd ⟨f, l, d, a, e0, e1, e2, e3, e4, e5⟩ ⟨o, b, m, r, x, p, q, y, g, n⟩ h0
  have e : firstP ⟨f, l, d, a, e0, e1, e2, e3, e4, e5⟩ ⟨o, b, m, r, x, p, q, y, g, n⟩ = d + (o - f) * pwR a + putB ⟨f, l, d, a, e0, e1, e2, e3, e4, e5⟩ ⟨o, b, m, r, x, p, q, y, g, n⟩ := rfl
  rw [e]
  clear e
  generalize putB ⟨f, l, d, a, e0, e1, e2, e3, e4, e5⟩ ⟨o, b, m, r, x, p, q, y, g, n⟩ = P at *
  obtain ⟨hd1, hd2⟩ := hd
  obtain ⟨ho1, ho2⟩ := ho
  obtain ⟨hf1, hf2⟩ := hf
  clear h0 h1 h2 h3 h4 hg hn
  rcases ha with rfl | rfl | rfl | rfl | rfl | rfl | rfl
  · rw [show pwR 12 = 4096 by decide]
    have hX := St.put2 W [.int .i64 f, .int .i64 l, .int .i64 d, .int .i64 12, .int .i64 e0, .int .i64 e1, .int .i64 e2, .int .i64 e3, .int .i64 e4, .int .i64 e5] [.int .i64 o, .bool b, .int .i64 m, .int .i64 r, .int .i64 x, .int .i64 p, .int .i64 q, .int .i64 y, .int .i64 g, .int .i64 n] 45 28
    have V1 : IntKind.i64.wrap (o - f) = o - f := by rw [wrap_i64]; exact IntWalk.wrap64_in _ ⟨by omega, by omega⟩
    have V2 : IntKind.i64.wrap ((o - f) * 4096) = (o - f) * 4096 := by rw [wrap_i64]; exact IntWalk.wrap64_in _ ⟨by omega, by omega⟩
    have V3 : IntKind.i64.wrap (d + (o - f) * 4096) = d + (o - f) * 4096 := by rw [wrap_i64]; exact IntWalk.wrap64_in _ ⟨by omega, by omega⟩
    have V4 : IntKind.i64.wrap (d + (o - f) * 4096 + P) = d + (o - f) * 4096 + P := by rw [wrap_i64]; exact IntWalk.wrap64_in _ ⟨by omega, by omega⟩
    skip
    go_enter Tryd.func32, Tryd.ntmps32
    go_wp2_with fail
    have i0 := hX.c 0 0 rfl rfl; have i1 := hX.c 0 1 rfl rfl; have i2 := hX.c 0 2 rfl rfl; have i3 := hX.c 0 3 rfl rfl; have i4 := hX.c 0 4 rfl rfl; have i5 := hX.c 0 5 rfl rfl; have i6 := hX.c 0 6 rfl rfl; have i7 := hX.c 0 7 rfl rfl; have i8 := hX.c 0 8 rfl rfl; have i9 := hX.c 0 9 rfl rfl; have c0 := hX.c 1 0 rfl rfl; have c1 := hX.c 1 1 rfl rfl; have c2 := hX.c 1 2 rfl rfl; have c3 := hX.c 1 3 rfl rfl; have c4 := hX.c 1 4 rfl rfl; have c5 := hX.c 1 5 rfl rfl; have c6 := hX.c 1 6 rfl rfl; have c7 := hX.c 1 7 rfl rfl; have c8 := hX.c 1 8 rfl rfl; have c9 := hX.c 1 9 rfl rfl
    generalize (W0.alloc (.cells #[.int .i64 f, .int .i64 l, .int .i64 d, .int .i64 12, .int .i64 e0, .int .i64 e1, .int .i64 e2, .int .i64 e3, .int .i64 e4, .int .i64 e5] 45)).alloc (.cells #[.int .i64 o, .bool b, .int .i64 m, .int .i64 r, .int .i64 x, .int .i64 p, .int .i64 q, .int .i64 y, .int .i64 g, .int .i64 n] 28) = w1 at *
    generalize hCC : W0.heap.size + 1 = C at hX i0 i1 i2 i3 i4 i5 i6 i7 i8 i9 c0 c1 c2 c3 c4 c5 c6 c7 c8 c9 ⊢
    generalize hBB : W0.heap.size = B at hX i0 i1 i2 i3 i4 i5 i6 i7 i8 i9 c0 c1 c2 c3 c4 c5 c6 c7 c8 c9 ⊢
    refine region_class (fun w' => St A c [(C, [.int .i64 o, .bool b, .int .i64 m, .int .i64 r, .int .i64 x, .int .i64 p, .int .i64 q, .int .i64 y, .int .i64 g, .int .i64 n]), (B, [.int .i64 f, .int .i64 l, .int .i64 d, .int .i64 12, .int .i64 e0, .int .i64 e1, .int .i64 e2, .int .i64 e3, .int .i64 e4, .int .i64 e5])] W0 w') (by kernel_rfl) (by kernel_rfl) hX.drew ?_
    clear hX i0 i1 i2 i3 i4 i5 i6 i7 i8 i9 c0 c1 c2 c3 c4 c5 c6 c7 c8 c9
    repeat
      first
        | (refine BigFrame.wpQuiet_skip (by rfl) ?_
           simp only [Act.put, List.setIfInBounds_toArray, List.set_cons_zero, List.set_cons_succ])
        | (refine BigFrame.wpQuiet_want (by rfl) (fun K hK => ?_)
           apply Exists.intro
           refine ⟨fun wq hq => ?_, hK _ ?_⟩
           · have i0 := hq.c 0 0 rfl rfl; have i1 := hq.c 0 1 rfl rfl; have i2 := hq.c 0 2 rfl rfl; have i3 := hq.c 0 3 rfl rfl; have i4 := hq.c 0 4 rfl rfl; have i5 := hq.c 0 5 rfl rfl; have i6 := hq.c 0 6 rfl rfl; have i7 := hq.c 0 7 rfl rfl; have i8 := hq.c 0 8 rfl rfl; have i9 := hq.c 0 9 rfl rfl; have c0 := hq.c 1 0 rfl rfl; have c1 := hq.c 1 1 rfl rfl; have c2 := hq.c 1 2 rfl rfl; have c3 := hq.c 1 3 rfl rfl; have c4 := hq.c 1 4 rfl rfl; have c5 := hq.c 1 5 rfl rfl; have c6 := hq.c 1 6 rfl rfl; have c7 := hq.c 1 7 rfl rfl; have c8 := hq.c 1 8 rfl rfl; have c9 := hq.c 1 9 rfl rfl
             unfold Oper.quietAt
             go_simp
             first
               | with_reducible rfl
               | ((go_at_call 54); with_reducible refine (hW _ hq.frm).mono ?_; exact fun e w' ⟨he, hb⟩ => ⟨he, hq.step hb⟩)
           clear hK K
           simp only [Act.put, List.setIfInBounds_toArray, List.set_cons_zero, List.set_cons_succ])
    refine wpQuiet_nil ?_
    intro w4 hX
    have i0 := hX.c 0 0 rfl rfl; have i1 := hX.c 0 1 rfl rfl; have i2 := hX.c 0 2 rfl rfl; have i3 := hX.c 0 3 rfl rfl; have i4 := hX.c 0 4 rfl rfl; have i5 := hX.c 0 5 rfl rfl; have i6 := hX.c 0 6 rfl rfl; have i7 := hX.c 0 7 rfl rfl; have i8 := hX.c 0 8 rfl rfl; have i9 := hX.c 0 9 rfl rfl; have c0 := hX.c 1 0 rfl rfl; have c1 := hX.c 1 1 rfl rfl; have c2 := hX.c 1 2 rfl rfl; have c3 := hX.c 1 3 rfl rfl; have c4 := hX.c 1 4 rfl rfl; have c5 := hX.c 1 5 rfl rfl; have c6 := hX.c 1 6 rfl rfl; have c7 := hX.c 1 7 rfl rfl; have c8 := hX.c 1 8 rfl rfl; have c9 := hX.c 1 9 rfl rfl
    go_wp2_with fail
    go_ret
    exact ⟨rfl, by first | exact hX.below | exact hBB ▸ hX.below⟩
  · rw [show pwR 15 = 32768 by decide]
    have hX := St.put2 W [.int .i64 f, .int .i64 l, .int .i64 d, .int .i64 15, .int .i64 e0, .int .i64 e1, .int .i64 e2, .int .i64 e3, .int .i64 e4, .int .i64 e5] [.int .i64 o, .bool b, .int .i64 m, .int .i64 r, .int .i64 x, .int .i64 p, .int .i64 q, .int .i64 y, .int .i64 g, .int .i64 n] 45 28
    have V1 : IntKind.i64.wrap (o - f) = o - f := by rw [wrap_i64]; exact IntWalk.wrap64_in _ ⟨by omega, by omega⟩
    have V2 : IntKind.i64.wrap ((o - f) * 32768) = (o - f) * 32768 := by rw [wrap_i64]; exact IntWalk.wrap64_in _ ⟨by omega, by omega⟩
    have V3 : IntKind.i64.wrap (d + (o - f) * 32768) = d + (o - f) * 32768 := by rw [wrap_i64]; exact IntWalk.wrap64_in _ ⟨by omega, by omega⟩
    have V4 : IntKind.i64.wrap (d + (o - f) * 32768 + P) = d + (o - f) * 32768 + P := by rw [wrap_i64]; exact IntWalk.wrap64_in _ ⟨by omega, by omega⟩
    skip
    go_enter Tryd.func32, Tryd.ntmps32
    go_wp2_with fail
    have i0 := hX.c 0 0 rfl rfl; have i1 := hX.c 0 1 rfl rfl; have i2 := hX.c 0 2 rfl rfl; have i3 := hX.c 0 3 rfl rfl; have i4 := hX.c 0 4 rfl rfl; have i5 := hX.c 0 5 rfl rfl; have i6 := hX.c 0 6 rfl rfl; have i7 := hX.c 0 7 rfl rfl; have i8 := hX.c 0 8 rfl rfl; have i9 := hX.c 0 9 rfl rfl; have c0 := hX.c 1 0 rfl rfl; have c1 := hX.c 1 1 rfl rfl; have c2 := hX.c 1 2 rfl rfl; have c3 := hX.c 1 3 rfl rfl; have c4 := hX.c 1 4 rfl rfl; have c5 := hX.c 1 5 rfl rfl; have c6 := hX.c 1 6 rfl rfl; have c7 := hX.c 1 7 rfl rfl; have c8 := hX.c 1 8 rfl rfl; have c9 := hX.c 1 9 rfl rfl
    generalize (W0.alloc (.cells #[.int .i64 f, .int .i64 l, .int .i64 d, .int .i64 15, .int .i64 e0, .int .i64 e1, .int .i64 e2, .int .i64 e3, .int .i64 e4, .int .i64 e5] 45)).alloc (.cells #[.int .i64 o, .bool b, .int .i64 m, .int .i64 r, .int .i64 x, .int .i64 p, .int .i64 q, .int .i64 y, .int .i64 g, .int .i64 n] 28) = w1 at *
    generalize hCC : W0.heap.size + 1 = C at hX i0 i1 i2 i3 i4 i5 i6 i7 i8 i9 c0 c1 c2 c3 c4 c5 c6 c7 c8 c9 ⊢
    generalize hBB : W0.heap.size = B at hX i0 i1 i2 i3 i4 i5 i6 i7 i8 i9 c0 c1 c2 c3 c4 c5 c6 c7 c8 c9 ⊢
    refine region_class (fun w' => St A c [(C, [.int .i64 o, .bool b, .int .i64 m, .int .i64 r, .int .i64 x, .int .i64 p, .int .i64 q, .int .i64 y, .int .i64 g, .int .i64 n]), (B, [.int .i64 f, .int .i64 l, .int .i64 d, .int .i64 15, .int .i64 e0, .int .i64 e1, .int .i64 e2, .int .i64 e3, .int .i64 e4, .int .i64 e5])] W0 w') (by kernel_rfl) (by kernel_rfl) hX.drew ?_
    clear hX i0 i1 i2 i3 i4 i5 i6 i7 i8 i9 c0 c1 c2 c3 c4 c5 c6 c7 c8 c9
    repeat
      first
        | (refine BigFrame.wpQuiet_skip (by rfl) ?_
           simp only [Act.put, List.setIfInBounds_toArray, List.set_cons_zero, List.set_cons_succ])
        | (refine BigFrame.wpQuiet_want (by rfl) (fun K hK => ?_)
           apply Exists.intro
           refine ⟨fun wq hq => ?_, hK _ ?_⟩
           · have i0 := hq.c 0 0 rfl rfl; have i1 := hq.c 0 1 rfl rfl; have i2 := hq.c 0 2 rfl rfl; have i3 := hq.c 0 3 rfl rfl; have i4 := hq.c 0 4 rfl rfl; have i5 := hq.c 0 5 rfl rfl; have i6 := hq.c 0 6 rfl rfl; have i7 := hq.c 0 7 rfl rfl; have i8 := hq.c 0 8 rfl rfl; have i9 := hq.c 0 9 rfl rfl; have c0 := hq.c 1 0 rfl rfl; have c1 := hq.c 1 1 rfl rfl; have c2 := hq.c 1 2 rfl rfl; have c3 := hq.c 1 3 rfl rfl; have c4 := hq.c 1 4 rfl rfl; have c5 := hq.c 1 5 rfl rfl; have c6 := hq.c 1 6 rfl rfl; have c7 := hq.c 1 7 rfl rfl; have c8 := hq.c 1 8 rfl rfl; have c9 := hq.c 1 9 rfl rfl
             unfold Oper.quietAt
             go_simp
             first
               | with_reducible rfl
               | ((go_at_call 54); with_reducible refine (hW _ hq.frm).mono ?_; exact fun e w' ⟨he, hb⟩ => ⟨he, hq.step hb⟩)
           clear hK K
           simp only [Act.put, List.setIfInBounds_toArray, List.set_cons_zero, List.set_cons_succ])
    refine wpQuiet_nil ?_
    intro w4 hX
    have i0 := hX.c 0 0 rfl rfl; have i1 := hX.c 0 1 rfl rfl; have i2 := hX.c 0 2 rfl rfl; have i3 := hX.c 0 3 rfl rfl; have i4 := hX.c 0 4 rfl rfl; have i5 := hX.c 0 5 rfl rfl; have i6 := hX.c 0 6 rfl rfl; have i7 := hX.c 0 7 rfl rfl; have i8 := hX.c 0 8 rfl rfl; have i9 := hX.c 0 9 rfl rfl; have c0 := hX.c 1 0 rfl rfl; have c1 := hX.c 1 1 rfl rfl; have c2 := hX.c 1 2 rfl rfl; have c3 := hX.c 1 3 rfl rfl; have c4 := hX.c 1 4 rfl rfl; have c5 := hX.c 1 5 rfl rfl; have c6 := hX.c 1 6 rfl rfl; have c7 := hX.c 1 7 rfl rfl; have c8 := hX.c 1 8 rfl rfl; have c9 := hX.c 1 9 rfl rfl
    go_wp2_with fail
    go_ret
    exact ⟨rfl, by first | exact hX.below | exact hBB ▸ hX.below⟩
  · rw [show pwR 9 = 512 by decide]
    have hX := St.put2 W [.int .i64 f, .int .i64 l, .int .i64 d, .int .i64 9, .int .i64 e0, .int .i64 e1, .int .i64 e2, .int .i64 e3, .int .i64 e4, .int .i64 e5] [.int .i64 o, .bool b, .int .i64 m, .int .i64 r, .int .i64 x, .int .i64 p, .int .i64 q, .int .i64 y, .int .i64 g, .int .i64 n] 45 28
    have V1 : IntKind.i64.wrap (o - f) = o - f := by rw [wrap_i64]; exact IntWalk.wrap64_in _ ⟨by omega, by omega⟩
    have V2 : IntKind.i64.wrap ((o - f) * 512) = (o - f) * 512 := by rw [wrap_i64]; exact IntWalk.wrap64_in _ ⟨by omega, by omega⟩
    have V3 : IntKind.i64.wrap (d + (o - f) * 512) = d + (o - f) * 512 := by rw [wrap_i64]; exact IntWalk.wrap64_in _ ⟨by omega, by omega⟩
    have V4 : IntKind.i64.wrap (d + (o - f) * 512 + P) = d + (o - f) * 512 + P := by rw [wrap_i64]; exact IntWalk.wrap64_in _ ⟨by omega, by omega⟩
    skip
    go_enter Tryd.func32, Tryd.ntmps32
    go_wp2_with fail
    have i0 := hX.c 0 0 rfl rfl; have i1 := hX.c 0 1 rfl rfl; have i2 := hX.c 0 2 rfl rfl; have i3 := hX.c 0 3 rfl rfl; have i4 := hX.c 0 4 rfl rfl; have i5 := hX.c 0 5 rfl rfl; have i6 := hX.c 0 6 rfl rfl; have i7 := hX.c 0 7 rfl rfl; have i8 := hX.c 0 8 rfl rfl; have i9 := hX.c 0 9 rfl rfl; have c0 := hX.c 1 0 rfl rfl; have c1 := hX.c 1 1 rfl rfl; have c2 := hX.c 1 2 rfl rfl; have c3 := hX.c 1 3 rfl rfl; have c4 := hX.c 1 4 rfl rfl; have c5 := hX.c 1 5 rfl rfl; have c6 := hX.c 1 6 rfl rfl; have c7 := hX.c 1 7 rfl rfl; have c8 := hX.c 1 8 rfl rfl; have c9 := hX.c 1 9 rfl rfl
    generalize (W0.alloc (.cells #[.int .i64 f, .int .i64 l, .int .i64 d, .int .i64 9, .int .i64 e0, .int .i64 e1, .int .i64 e2, .int .i64 e3, .int .i64 e4, .int .i64 e5] 45)).alloc (.cells #[.int .i64 o, .bool b, .int .i64 m, .int .i64 r, .int .i64 x, .int .i64 p, .int .i64 q, .int .i64 y, .int .i64 g, .int .i64 n] 28) = w1 at *
    generalize hCC : W0.heap.size + 1 = C at hX i0 i1 i2 i3 i4 i5 i6 i7 i8 i9 c0 c1 c2 c3 c4 c5 c6 c7 c8 c9 ⊢
    generalize hBB : W0.heap.size = B at hX i0 i1 i2 i3 i4 i5 i6 i7 i8 i9 c0 c1 c2 c3 c4 c5 c6 c7 c8 c9 ⊢
    refine region_class (fun w' => St A c [(C, [.int .i64 o, .bool b, .int .i64 m, .int .i64 r, .int .i64 x, .int .i64 p, .int .i64 q, .int .i64 y, .int .i64 g, .int .i64 n]), (B, [.int .i64 f, .int .i64 l, .int .i64 d, .int .i64 9, .int .i64 e0, .int .i64 e1, .int .i64 e2, .int .i64 e3, .int .i64 e4, .int .i64 e5])] W0 w') (by kernel_rfl) (by kernel_rfl) hX.drew ?_
    clear hX i0 i1 i2 i3 i4 i5 i6 i7 i8 i9 c0 c1 c2 c3 c4 c5 c6 c7 c8 c9
    repeat
      first
        | (refine BigFrame.wpQuiet_skip (by rfl) ?_
           simp only [Act.put, List.setIfInBounds_toArray, List.set_cons_zero, List.set_cons_succ])
        | (refine BigFrame.wpQuiet_want (by rfl) (fun K hK => ?_)
           apply Exists.intro
           refine ⟨fun wq hq => ?_, hK _ ?_⟩
           · have i0 := hq.c 0 0 rfl rfl; have i1 := hq.c 0 1 rfl rfl; have i2 := hq.c 0 2 rfl rfl; have i3 := hq.c 0 3 rfl rfl; have i4 := hq.c 0 4 rfl rfl; have i5 := hq.c 0 5 rfl rfl; have i6 := hq.c 0 6 rfl rfl; have i7 := hq.c 0 7 rfl rfl; have i8 := hq.c 0 8 rfl rfl; have i9 := hq.c 0 9 rfl rfl; have c0 := hq.c 1 0 rfl rfl; have c1 := hq.c 1 1 rfl rfl; have c2 := hq.c 1 2 rfl rfl; have c3 := hq.c 1 3 rfl rfl; have c4 := hq.c 1 4 rfl rfl; have c5 := hq.c 1 5 rfl rfl; have c6 := hq.c 1 6 rfl rfl; have c7 := hq.c 1 7 rfl rfl; have c8 := hq.c 1 8 rfl rfl; have c9 := hq.c 1 9 rfl rfl
             unfold Oper.quietAt
             go_simp
             first
               | with_reducible rfl
               | ((go_at_call 54); with_reducible refine (hW _ hq.frm).mono ?_; exact fun e w' ⟨he, hb⟩ => ⟨he, hq.step hb⟩)
           clear hK K
           simp only [Act.put, List.setIfInBounds_toArray, List.set_cons_zero, List.set_cons_succ])
    refine wpQuiet_nil ?_
    intro w4 hX
    have i0 := hX.c 0 0 rfl rfl; have i1 := hX.c 0 1 rfl rfl; have i2 := hX.c 0 2 rfl rfl; have i3 := hX.c 0 3 rfl rfl; have i4 := hX.c 0 4 rfl rfl; have i5 := hX.c 0 5 rfl rfl; have i6 := hX.c 0 6 rfl rfl; have i7 := hX.c 0 7 rfl rfl; have i8 := hX.c 0 8 rfl rfl; have i9 := hX.c 0 9 rfl rfl; have c0 := hX.c 1 0 rfl rfl; have c1 := hX.c 1 1 rfl rfl; have c2 := hX.c 1 2 rfl rfl; have c3 := hX.c 1 3 rfl rfl; have c4 := hX.c 1 4 rfl rfl; have c5 := hX.c 1 5 rfl rfl; have c6 := hX.c 1 6 rfl rfl; have c7 := hX.c 1 7 rfl rfl; have c8 := hX.c 1 8 rfl rfl; have c9 := hX.c 1 9 rfl rfl
    go_wp2_with fail
    go_ret
    exact ⟨rfl, by first | exact hX.below | exact hBB ▸ hX.below⟩
  · rw [show pwR 6 = 64 by decide]
    have hX := St.put2 W [.int .i64 f, .int .i64 l, .int .i64 d, .int .i64 6, .int .i64 e0, .int .i64 e1, .int .i64 e2, .int .i64 e3, .int .i64 e4, .int .i64 e5] [.int .i64 o, .bool b, .int .i64 m, .int .i64 r, .int .i64 x, .int .i64 p, .int .i64 q, .int .i64 y, .int .i64 g, .int .i64 n] 45 28
    have V1 : IntKind.i64.wrap (o - f) = o - f := by rw [wrap_i64]; exact IntWalk.wrap64_in _ ⟨by omega, by omega⟩
    have V2 : IntKind.i64.wrap ((o - f) * 64) = (o - f) * 64 := by rw [wrap_i64]; exact IntWalk.wrap64_in _ ⟨by omega, by omega⟩
    have V3 : IntKind.i64.wrap (d + (o - f) * 64) = d + (o - f) * 64 := by rw [wrap_i64]; exact IntWalk.wrap64_in _ ⟨by omega, by omega⟩
    have V4 : IntKind.i64.wrap (d + (o - f) * 64 + P) = d + (o - f) * 64 + P := by rw [wrap_i64]; exact IntWalk.wrap64_in _ ⟨by omega, by omega⟩
    skip
    go_enter Tryd.func32, Tryd.ntmps32
    go_wp2_with fail
    have i0 := hX.c 0 0 rfl rfl; have i1 := hX.c 0 1 rfl rfl; have i2 := hX.c 0 2 rfl rfl; have i3 := hX.c 0 3 rfl rfl; have i4 := hX.c 0 4 rfl rfl; have i5 := hX.c 0 5 rfl rfl; have i6 := hX.c 0 6 rfl rfl; have i7 := hX.c 0 7 rfl rfl; have i8 := hX.c 0 8 rfl rfl; have i9 := hX.c 0 9 rfl rfl; have c0 := hX.c 1 0 rfl rfl; have c1 := hX.c 1 1 rfl rfl; have c2 := hX.c 1 2 rfl rfl; have c3 := hX.c 1 3 rfl rfl; have c4 := hX.c 1 4 rfl rfl; have c5 := hX.c 1 5 rfl rfl; have c6 := hX.c 1 6 rfl rfl; have c7 := hX.c 1 7 rfl rfl; have c8 := hX.c 1 8 rfl rfl; have c9 := hX.c 1 9 rfl rfl
    generalize (W0.alloc (.cells #[.int .i64 f, .int .i64 l, .int .i64 d, .int .i64 6, .int .i64 e0, .int .i64 e1, .int .i64 e2, .int .i64 e3, .int .i64 e4, .int .i64 e5] 45)).alloc (.cells #[.int .i64 o, .bool b, .int .i64 m, .int .i64 r, .int .i64 x, .int .i64 p, .int .i64 q, .int .i64 y, .int .i64 g, .int .i64 n] 28) = w1 at *
    generalize hCC : W0.heap.size + 1 = C at hX i0 i1 i2 i3 i4 i5 i6 i7 i8 i9 c0 c1 c2 c3 c4 c5 c6 c7 c8 c9 ⊢
    generalize hBB : W0.heap.size = B at hX i0 i1 i2 i3 i4 i5 i6 i7 i8 i9 c0 c1 c2 c3 c4 c5 c6 c7 c8 c9 ⊢
    refine region_class (fun w' => St A c [(C, [.int .i64 o, .bool b, .int .i64 m, .int .i64 r, .int .i64 x, .int .i64 p, .int .i64 q, .int .i64 y, .int .i64 g, .int .i64 n]), (B, [.int .i64 f, .int .i64 l, .int .i64 d, .int .i64 6, .int .i64 e0, .int .i64 e1, .int .i64 e2, .int .i64 e3, .int .i64 e4, .int .i64 e5])] W0 w') (by kernel_rfl) (by kernel_rfl) hX.drew ?_
    clear hX i0 i1 i2 i3 i4 i5 i6 i7 i8 i9 c0 c1 c2 c3 c4 c5 c6 c7 c8 c9
    repeat
      first
        | (refine BigFrame.wpQuiet_skip (by rfl) ?_
           simp only [Act.put, List.setIfInBounds_toArray, List.set_cons_zero, List.set_cons_succ])
        | (refine BigFrame.wpQuiet_want (by rfl) (fun K hK => ?_)
           apply Exists.intro
           refine ⟨fun wq hq => ?_, hK _ ?_⟩
           · have i0 := hq.c 0 0 rfl rfl; have i1 := hq.c 0 1 rfl rfl; have i2 := hq.c 0 2 rfl rfl; have i3 := hq.c 0 3 rfl rfl; have i4 := hq.c 0 4 rfl rfl; have i5 := hq.c 0 5 rfl rfl; have i6 := hq.c 0 6 rfl rfl; have i7 := hq.c 0 7 rfl rfl; have i8 := hq.c 0 8 rfl rfl; have i9 := hq.c 0 9 rfl rfl; have c0 := hq.c 1 0 rfl rfl; have c1 := hq.c 1 1 rfl rfl; have c2 := hq.c 1 2 rfl rfl; have c3 := hq.c 1 3 rfl rfl; have c4 := hq.c 1 4 rfl rfl; have c5 := hq.c 1 5 rfl rfl; have c6 := hq.c 1 6 rfl rfl; have c7 := hq.c 1 7 rfl rfl; have c8 := hq.c 1 8 rfl rfl; have c9 := hq.c 1 9 rfl rfl
             unfold Oper.quietAt
             go_simp
             first
               | with_reducible rfl
               | ((go_at_call 54); with_reducible refine (hW _ hq.frm).mono ?_; exact fun e w' ⟨he, hb⟩ => ⟨he, hq.step hb⟩)
           clear hK K
           simp only [Act.put, List.setIfInBounds_toArray, List.set_cons_zero, List.set_cons_succ])
    refine wpQuiet_nil ?_
    intro w4 hX
    have i0 := hX.c 0 0 rfl rfl; have i1 := hX.c 0 1 rfl rfl; have i2 := hX.c 0 2 rfl rfl; have i3 := hX.c 0 3 rfl rfl; have i4 := hX.c 0 4 rfl rfl; have i5 := hX.c 0 5 rfl rfl; have i6 := hX.c 0 6 rfl rfl; have i7 := hX.c 0 7 rfl rfl; have i8 := hX.c 0 8 rfl rfl; have i9 := hX.c 0 9 rfl rfl; have c0 := hX.c 1 0 rfl rfl; have c1 := hX.c 1 1 rfl rfl; have c2 := hX.c 1 2 rfl rfl; have c3 := hX.c 1 3 rfl rfl; have c4 := hX.c 1 4 rfl rfl; have c5 := hX.c 1 5 rfl rfl; have c6 := hX.c 1 6 rfl rfl; have c7 := hX.c 1 7 rfl rfl; have c8 := hX.c 1 8 rfl rfl; have c9 := hX.c 1 9 rfl rfl
    go_wp2_with fail
    go_ret
    exact ⟨rfl, by first | exact hX.below | exact hBB ▸ hX.below⟩
  · rw [show pwR 8 = 256 by decide]
    have hX := St.put2 W [.int .i64 f, .int .i64 l, .int .i64 d, .int .i64 8, .int .i64 e0, .int .i64 e1, .int .i64 e2, .int .i64 e3, .int .i64 e4, .int .i64 e5] [.int .i64 o, .bool b, .int .i64 m, .int .i64 r, .int .i64 x, .int .i64 p, .int .i64 q, .int .i64 y, .int .i64 g, .int .i64 n] 45 28
    have V1 : IntKind.i64.wrap (o - f) = o - f := by rw [wrap_i64]; exact IntWalk.wrap64_in _ ⟨by omega, by omega⟩
    have V2 : IntKind.i64.wrap ((o - f) * 256) = (o - f) * 256 := by rw [wrap_i64]; exact IntWalk.wrap64_in _ ⟨by omega, by omega⟩
    have V3 : IntKind.i64.wrap (d + (o - f) * 256) = d + (o - f) * 256 := by rw [wrap_i64]; exact IntWalk.wrap64_in _ ⟨by omega, by omega⟩
    have V4 : IntKind.i64.wrap (d + (o - f) * 256 + P) = d + (o - f) * 256 + P := by rw [wrap_i64]; exact IntWalk.wrap64_in _ ⟨by omega, by omega⟩
    skip
    go_enter Tryd.func32, Tryd.ntmps32
    go_wp2_with fail
    have i0 := hX.c 0 0 rfl rfl; have i1 := hX.c 0 1 rfl rfl; have i2 := hX.c 0 2 rfl rfl; have i3 := hX.c 0 3 rfl rfl; have i4 := hX.c 0 4 rfl rfl; have i5 := hX.c 0 5 rfl rfl; have i6 := hX.c 0 6 rfl rfl; have i7 := hX.c 0 7 rfl rfl; have i8 := hX.c 0 8 rfl rfl; have i9 := hX.c 0 9 rfl rfl; have c0 := hX.c 1 0 rfl rfl; have c1 := hX.c 1 1 rfl rfl; have c2 := hX.c 1 2 rfl rfl; have c3 := hX.c 1 3 rfl rfl; have c4 := hX.c 1 4 rfl rfl; have c5 := hX.c 1 5 rfl rfl; have c6 := hX.c 1 6 rfl rfl; have c7 := hX.c 1 7 rfl rfl; have c8 := hX.c 1 8 rfl rfl; have c9 := hX.c 1 9 rfl rfl
    generalize (W0.alloc (.cells #[.int .i64 f, .int .i64 l, .int .i64 d, .int .i64 8, .int .i64 e0, .int .i64 e1, .int .i64 e2, .int .i64 e3, .int .i64 e4, .int .i64 e5] 45)).alloc (.cells #[.int .i64 o, .bool b, .int .i64 m, .int .i64 r, .int .i64 x, .int .i64 p, .int .i64 q, .int .i64 y, .int .i64 g, .int .i64 n] 28) = w1 at *
    generalize hCC : W0.heap.size + 1 = C at hX i0 i1 i2 i3 i4 i5 i6 i7 i8 i9 c0 c1 c2 c3 c4 c5 c6 c7 c8 c9 ⊢
    generalize hBB : W0.heap.size = B at hX i0 i1 i2 i3 i4 i5 i6 i7 i8 i9 c0 c1 c2 c3 c4 c5 c6 c7 c8 c9 ⊢
    refine region_class (fun w' => St A c [(C, [.int .i64 o, .bool b, .int .i64 m, .int .i64 r, .int .i64 x, .int .i64 p, .int .i64 q, .int .i64 y, .int .i64 g, .int .i64 n]), (B, [.int .i64 f, .int .i64 l, .int .i64 d, .int .i64 8, .int .i64 e0, .int .i64 e1, .int .i64 e2, .int .i64 e3, .int .i64 e4, .int .i64 e5])] W0 w') (by kernel_rfl) (by kernel_rfl) hX.drew ?_
    clear hX i0 i1 i2 i3 i4 i5 i6 i7 i8 i9 c0 c1 c2 c3 c4 c5 c6 c7 c8 c9
    repeat
      first
        | (refine BigFrame.wpQuiet_skip (by rfl) ?_
           simp only [Act.put, List.setIfInBounds_toArray, List.set_cons_zero, List.set_cons_succ])
        | (refine BigFrame.wpQuiet_want (by rfl) (fun K hK => ?_)
           apply Exists.intro
           refine ⟨fun wq hq => ?_, hK _ ?_⟩
           · have i0 := hq.c 0 0 rfl rfl; have i1 := hq.c 0 1 rfl rfl; have i2 := hq.c 0 2 rfl rfl; have i3 := hq.c 0 3 rfl rfl; have i4 := hq.c 0 4 rfl rfl; have i5 := hq.c 0 5 rfl rfl; have i6 := hq.c 0 6 rfl rfl; have i7 := hq.c 0 7 rfl rfl; have i8 := hq.c 0 8 rfl rfl; have i9 := hq.c 0 9 rfl rfl; have c0 := hq.c 1 0 rfl rfl; have c1 := hq.c 1 1 rfl rfl; have c2 := hq.c 1 2 rfl rfl; have c3 := hq.c 1 3 rfl rfl; have c4 := hq.c 1 4 rfl rfl; have c5 := hq.c 1 5 rfl rfl; have c6 := hq.c 1 6 rfl rfl; have c7 := hq.c 1 7 rfl rfl; have c8 := hq.c 1 8 rfl rfl; have c9 := hq.c 1 9 rfl rfl
             unfold Oper.quietAt
             go_simp
             first
               | with_reducible rfl
               | ((go_at_call 54); with_reducible refine (hW _ hq.frm).mono ?_; exact fun e w' ⟨he, hb⟩ => ⟨he, hq.step hb⟩)
           clear hK K
           simp only [Act.put, List.setIfInBounds_toArray, List.set_cons_zero, List.set_cons_succ])
    refine wpQuiet_nil ?_
    intro w4 hX
    have i0 := hX.c 0 0 rfl rfl; have i1 := hX.c 0 1 rfl rfl; have i2 := hX.c 0 2 rfl rfl; have i3 := hX.c 0 3 rfl rfl; have i4 := hX.c 0 4 rfl rfl; have i5 := hX.c 0 5 rfl rfl; have i6 := hX.c 0 6 rfl rfl; have i7 := hX.c 0 7 rfl rfl; have i8 := hX.c 0 8 rfl rfl; have i9 := hX.c 0 9 rfl rfl; have c0 := hX.c 1 0 rfl rfl; have c1 := hX.c 1 1 rfl rfl; have c2 := hX.c 1 2 rfl rfl; have c3 := hX.c 1 3 rfl rfl; have c4 := hX.c 1 4 rfl rfl; have c5 := hX.c 1 5 rfl rfl; have c6 := hX.c 1 6 rfl rfl; have c7 := hX.c 1 7 rfl rfl; have c8 := hX.c 1 8 rfl rfl; have c9 := hX.c 1 9 rfl rfl
    go_wp2_with fail
    go_ret
    exact ⟨rfl, by first | exact hX.below | exact hBB ▸ hX.below⟩
  · rw [show pwR 4 = 16 by decide]
    have hX := St.put2 W [.int .i64 f, .int .i64 l, .int .i64 d, .int .i64 4, .int .i64 e0, .int .i64 e1, .int .i64 e2, .int .i64 e3, .int .i64 e4, .int .i64 e5] [.int .i64 o, .bool b, .int .i64 m, .int .i64 r, .int .i64 x, .int .i64 p, .int .i64 q, .int .i64 y, .int .i64 g, .int .i64 n] 45 28
    have V1 : IntKind.i64.wrap (o - f) = o - f := by rw [wrap_i64]; exact IntWalk.wrap64_in _ ⟨by omega, by omega⟩
    have V2 : IntKind.i64.wrap ((o - f) * 16) = (o - f) * 16 := by rw [wrap_i64]; exact IntWalk.wrap64_in _ ⟨by omega, by omega⟩
    have V3 : IntKind.i64.wrap (d + (o - f) * 16) = d + (o - f) * 16 := by rw [wrap_i64]; exact IntWalk.wrap64_in _ ⟨by omega, by omega⟩
    have V4 : IntKind.i64.wrap (d + (o - f) * 16 + P) = d + (o - f) * 16 + P := by rw [wrap_i64]; exact IntWalk.wrap64_in _ ⟨by omega, by omega⟩
    skip
    go_enter Tryd.func32, Tryd.ntmps32
    go_wp2_with fail
    have i0 := hX.c 0 0 rfl rfl; have i1 := hX.c 0 1 rfl rfl; have i2 := hX.c 0 2 rfl rfl; have i3 := hX.c 0 3 rfl rfl; have i4 := hX.c 0 4 rfl rfl; have i5 := hX.c 0 5 rfl rfl; have i6 := hX.c 0 6 rfl rfl; have i7 := hX.c 0 7 rfl rfl; have i8 := hX.c 0 8 rfl rfl; have i9 := hX.c 0 9 rfl rfl; have c0 := hX.c 1 0 rfl rfl; have c1 := hX.c 1 1 rfl rfl; have c2 := hX.c 1 2 rfl rfl; have c3 := hX.c 1 3 rfl rfl; have c4 := hX.c 1 4 rfl rfl; have c5 := hX.c 1 5 rfl rfl; have c6 := hX.c 1 6 rfl rfl; have c7 := hX.c 1 7 rfl rfl; have c8 := hX.c 1 8 rfl rfl; have c9 := hX.c 1 9 rfl rfl
    generalize (W0.alloc (.cells #[.int .i64 f, .int .i64 l, .int .i64 d, .int .i64 4, .int .i64 e0, .int .i64 e1, .int .i64 e2, .int .i64 e3, .int .i64 e4, .int .i64 e5] 45)).alloc (.cells #[.int .i64 o, .bool b, .int .i64 m, .int .i64 r, .int .i64 x, .int .i64 p, .int .i64 q, .int .i64 y, .int .i64 g, .int .i64 n] 28) = w1 at *
    generalize hCC : W0.heap.size + 1 = C at hX i0 i1 i2 i3 i4 i5 i6 i7 i8 i9 c0 c1 c2 c3 c4 c5 c6 c7 c8 c9 ⊢
    generalize hBB : W0.heap.size = B at hX i0 i1 i2 i3 i4 i5 i6 i7 i8 i9 c0 c1 c2 c3 c4 c5 c6 c7 c8 c9 ⊢
    refine region_class (fun w' => St A c [(C, [.int .i64 o, .bool b, .int .i64 m, .int .i64 r, .int .i64 x, .int .i64 p, .int .i64 q, .int .i64 y, .int .i64 g, .int .i64 n]), (B, [.int .i64 f, .int .i64 l, .int .i64 d, .int .i64 4, .int .i64 e0, .int .i64 e1, .int .i64 e2, .int .i64 e3, .int .i64 e4, .int .i64 e5])] W0 w') (by kernel_rfl) (by kernel_rfl) hX.drew ?_
    clear hX i0 i1 i2 i3 i4 i5 i6 i7 i8 i9 c0 c1 c2 c3 c4 c5 c6 c7 c8 c9
    repeat
      first
        | (refine BigFrame.wpQuiet_skip (by rfl) ?_
           simp only [Act.put, List.setIfInBounds_toArray, List.set_cons_zero, List.set_cons_succ])
        | (refine BigFrame.wpQuiet_want (by rfl) (fun K hK => ?_)
           apply Exists.intro
           refine ⟨fun wq hq => ?_, hK _ ?_⟩
           · have i0 := hq.c 0 0 rfl rfl; have i1 := hq.c 0 1 rfl rfl; have i2 := hq.c 0 2 rfl rfl; have i3 := hq.c 0 3 rfl rfl; have i4 := hq.c 0 4 rfl rfl; have i5 := hq.c 0 5 rfl rfl; have i6 := hq.c 0 6 rfl rfl; have i7 := hq.c 0 7 rfl rfl; have i8 := hq.c 0 8 rfl rfl; have i9 := hq.c 0 9 rfl rfl; have c0 := hq.c 1 0 rfl rfl; have c1 := hq.c 1 1 rfl rfl; have c2 := hq.c 1 2 rfl rfl; have c3 := hq.c 1 3 rfl rfl; have c4 := hq.c 1 4 rfl rfl; have c5 := hq.c 1 5 rfl rfl; have c6 := hq.c 1 6 rfl rfl; have c7 := hq.c 1 7 rfl rfl; have c8 := hq.c 1 8 rfl rfl; have c9 := hq.c 1 9 rfl rfl
             unfold Oper.quietAt
             go_simp
             first
               | with_reducible rfl
               | ((go_at_call 54); with_reducible refine (hW _ hq.frm).mono ?_; exact fun e w' ⟨he, hb⟩ => ⟨he, hq.step hb⟩)
           clear hK K
           simp only [Act.put, List.setIfInBounds_toArray, List.set_cons_zero, List.set_cons_succ])
    refine wpQuiet_nil ?_
    intro w4 hX
    have i0 := hX.c 0 0 rfl rfl; have i1 := hX.c 0 1 rfl rfl; have i2 := hX.c 0 2 rfl rfl; have i3 := hX.c 0 3 rfl rfl; have i4 := hX.c 0 4 rfl rfl; have i5 := hX.c 0 5 rfl rfl; have i6 := hX.c 0 6 rfl rfl; have i7 := hX.c 0 7 rfl rfl; have i8 := hX.c 0 8 rfl rfl; have i9 := hX.c 0 9 rfl rfl; have c0 := hX.c 1 0 rfl rfl; have c1 := hX.c 1 1 rfl rfl; have c2 := hX.c 1 2 rfl rfl; have c3 := hX.c 1 3 rfl rfl; have c4 := hX.c 1 4 rfl rfl; have c5 := hX.c 1 5 rfl rfl; have c6 := hX.c 1 6 rfl rfl; have c7 := hX.c 1 7 rfl rfl; have c8 := hX.c 1 8 rfl rfl; have c9 := hX.c 1 9 rfl rfl
    go_wp2_with fail
    go_ret
    exact ⟨rfl, by first | exact hX.below | exact hBB ▸ hX.below⟩
  · rw [show pwR 0 = 1 by decide]
    have hX := St.put2 W [.int .i64 f, .int .i64 l, .int .i64 d, .int .i64 0, .int .i64 e0, .int .i64 e1, .int .i64 e2, .int .i64 e3, .int .i64 e4, .int .i64 e5] [.int .i64 o, .bool b, .int .i64 m, .int .i64 r, .int .i64 x, .int .i64 p, .int .i64 q, .int .i64 y, .int .i64 g, .int .i64 n] 45 28
    have V1 : IntKind.i64.wrap (o - f) = o - f := by rw [wrap_i64]; exact IntWalk.wrap64_in _ ⟨by omega, by omega⟩
    have V2 : IntKind.i64.wrap ((o - f)) = (o - f) := by rw [wrap_i64]; exact IntWalk.wrap64_in _ ⟨by omega, by omega⟩
    have V3 : IntKind.i64.wrap (d + (o - f)) = d + (o - f) := by rw [wrap_i64]; exact IntWalk.wrap64_in _ ⟨by omega, by omega⟩
    have V4 : IntKind.i64.wrap (d + (o - f) + P) = d + (o - f) + P := by rw [wrap_i64]; exact IntWalk.wrap64_in _ ⟨by omega, by omega⟩
    rw [Int.mul_one]
    go_enter Tryd.func32, Tryd.ntmps32
    go_wp2_with fail
    have i0 := hX.c 0 0 rfl rfl; have i1 := hX.c 0 1 rfl rfl; have i2 := hX.c 0 2 rfl rfl; have i3 := hX.c 0 3 rfl rfl; have i4 := hX.c 0 4 rfl rfl; have i5 := hX.c 0 5 rfl rfl; have i6 := hX.c 0 6 rfl rfl; have i7 := hX.c 0 7 rfl rfl; have i8 := hX.c 0 8 rfl rfl; have i9 := hX.c 0 9 rfl rfl; have c0 := hX.c 1 0 rfl rfl; have c1 := hX.c 1 1 rfl rfl; have c2 := hX.c 1 2 rfl rfl; have c3 := hX.c 1 3 rfl rfl; have c4 := hX.c 1 4 rfl rfl; have c5 := hX.c 1 5 rfl rfl; have c6 := hX.c 1 6 rfl rfl; have c7 := hX.c 1 7 rfl rfl; have c8 := hX.c 1 8 rfl rfl; have c9 := hX.c 1 9 rfl rfl
    generalize (W0.alloc (.cells #[.int .i64 f, .int .i64 l, .int .i64 d, .int .i64 0, .int .i64 e0, .int .i64 e1, .int .i64 e2, .int .i64 e3, .int .i64 e4, .int .i64 e5] 45)).alloc (.cells #[.int .i64 o, .bool b, .int .i64 m, .int .i64 r, .int .i64 x, .int .i64 p, .int .i64 q, .int .i64 y, .int .i64 g, .int .i64 n] 28) = w1 at *
    generalize hCC : W0.heap.size + 1 = C at hX i0 i1 i2 i3 i4 i5 i6 i7 i8 i9 c0 c1 c2 c3 c4 c5 c6 c7 c8 c9 ⊢
    generalize hBB : W0.heap.size = B at hX i0 i1 i2 i3 i4 i5 i6 i7 i8 i9 c0 c1 c2 c3 c4 c5 c6 c7 c8 c9 ⊢
    refine region_class (fun w' => St A c [(C, [.int .i64 o, .bool b, .int .i64 m, .int .i64 r, .int .i64 x, .int .i64 p, .int .i64 q, .int .i64 y, .int .i64 g, .int .i64 n]), (B, [.int .i64 f, .int .i64 l, .int .i64 d, .int .i64 0, .int .i64 e0, .int .i64 e1, .int .i64 e2, .int .i64 e3, .int .i64 e4, .int .i64 e5])] W0 w') (by kernel_rfl) (by kernel_rfl) hX.drew ?_
    clear hX i0 i1 i2 i3 i4 i5 i6 i7 i8 i9 c0 c1 c2 c3 c4 c5 c6 c7 c8 c9
    repeat
      first
        | (refine BigFrame.wpQuiet_skip (by rfl) ?_
           simp only [Act.put, List.setIfInBounds_toArray, List.set_cons_zero, List.set_cons_succ])
        | (refine BigFrame.wpQuiet_want (by rfl) (fun K hK => ?_)
           apply Exists.intro
           refine ⟨fun wq hq => ?_, hK _ ?_⟩
           · have i0 := hq.c 0 0 rfl rfl; have i1 := hq.c 0 1 rfl rfl; have i2 := hq.c 0 2 rfl rfl; have i3 := hq.c 0 3 rfl rfl; have i4 := hq.c 0 4 rfl rfl; have i5 := hq.c 0 5 rfl rfl; have i6 := hq.c 0 6 rfl rfl; have i7 := hq.c 0 7 rfl rfl; have i8 := hq.c 0 8 rfl rfl; have i9 := hq.c 0 9 rfl rfl; have c0 := hq.c 1 0 rfl rfl; have c1 := hq.c 1 1 rfl rfl; have c2 := hq.c 1 2 rfl rfl; have c3 := hq.c 1 3 rfl rfl; have c4 := hq.c 1 4 rfl rfl; have c5 := hq.c 1 5 rfl rfl; have c6 := hq.c 1 6 rfl rfl; have c7 := hq.c 1 7 rfl rfl; have c8 := hq.c 1 8 rfl rfl; have c9 := hq.c 1 9 rfl rfl
             unfold Oper.quietAt
             go_simp
             first
               | with_reducible rfl
               | ((go_at_call 54); with_reducible refine (hW _ hq.frm).mono ?_; exact fun e w' ⟨he, hb⟩ => ⟨he, hq.step hb⟩)
           clear hK K
           simp only [Act.put, List.setIfInBounds_toArray, List.set_cons_zero, List.set_cons_succ])
    refine wpQuiet_nil ?_
    intro w4 hX
    have i0 := hX.c 0 0 rfl rfl; have i1 := hX.c 0 1 rfl rfl; have i2 := hX.c 0 2 rfl rfl; have i3 := hX.c 0 3 rfl rfl; have i4 := hX.c 0 4 rfl rfl; have i5 := hX.c 0 5 rfl rfl; have i6 := hX.c 0 6 rfl rfl; have i7 := hX.c 0 7 rfl rfl; have i8 := hX.c 0 8 rfl rfl; have i9 := hX.c 0 9 rfl rfl; have c0 := hX.c 1 0 rfl rfl; have c1 := hX.c 1 1 rfl rfl; have c2 := hX.c 1 2 rfl rfl; have c3 := hX.c 1 3 rfl rfl; have c4 := hX.c 1 4 rfl rfl; have c5 := hX.c 1 5 rfl rfl; have c6 := hX.c 1 6 rfl rfl; have c7 := hX.c 1 7 rfl rfl; have c8 := hX.c 1 8 rfl rfl; have c9 := hX.c 1 9 rfl rfl
    go_wp2_with fail
    go_ret
    exact ⟨rfl, by first | exact hX.below | exact hBB ▸ hX.below⟩

theorem form_first {e : Row} (o : Int) (b : Bool) (m r x p q y g n : Int) (h : formR o = some e) (hv : vR ⟨o, b, m, r, x, p, q, y, g, n⟩ = true) {A : Addr} {c : Nat} (w : World) (W : Frm A c w) : Calls Tryd.prog 32 #[.agg #[.int .i64 e.f, .int .i64 e.l, .int .i64 e.d, .int .i64 e.a, .int .i64 e.e0, .int .i64 e.e1, .int .i64 e.e2, .int .i64 e.e3, .int .i64 e.e4, .int .i64 e.e5], .agg #[.int .i64 o, .bool b, .int .i64 m, .int .i64 r, .int .i64 x, .int .i64 p, .int .i64 q, .int .i64 y, .int .i64 g, .int .i64 n]] w fun e w' => e = .returned (.int .i64 (fstR ⟨o, b, m, r, x, p, q, y, g, n⟩)) ∧ Below w.heap.size w w' := by
  have ok := row_ok (formR_mem h)
  rw [vR_some (i := ⟨o, b, m, r, x, p, q, y, g, n⟩) h, Bool.and_eq_true] at hv
  obtain ⟨hg, hn⟩ := ho_bd ok hv.1
  have hr := form_rng h
  have e1 : fstR ⟨o, b, m, r, x, p, q, y, g, n⟩ = firstP e ⟨o, b, m, r, x, p, q, y, g, n⟩ := by unfold fstR; rw [show formR (⟨o, b, m, r, x, p, q, y, g, n⟩ : In).o = some e from h]
  rw [e1]
  exact formwrite_any e.f e.l e.d e.a e.e0 e.e1 e.e2 e.e3 e.e4 e.e5 ok.a ok.d ok.f (by have := ok.e0; omega) ok.e1 ok.e2 ok.e3 ok.e4 o b m r x p q y g n ⟨hr.1, by have := ok.l; omega⟩ hg hn w W
theorem info64 : (Tryd.prog.info? 3).map (fun i => (i.zero, i.size, i.bytes)) = some (some (.int .i64 0), 1, 8) := by kernel_rfl

end Go.Proofs.YtlaikajgpgpidaaDoor
