/-
  Walk over Decode of package inst. Condition: the tables read as the program's text lays them; the list has at most 2^40 elements.
-/
import Derived.Test.YtdbbnkjnmldnpaaGreatDoorJK
import Derived.Test.YtdbbnkjnmldnpaaGreatDoorInT
namespace Go.Proofs.YtdbbnkjnmldnpaaGreatDoor
open Go.RowKit
set_option linter.unusedSimpArgs false
set_option linter.unusedVariables false
set_option maxHeartbeats 40000000
set_option maxRecDepth 100000
attribute [local irreducible] wpQuiet

def inV (i : In) : Value := .agg #[.int .i64 i.o, .bool i.b, .int .i64 i.m, .int .i64 i.r, .int .i64 i.x, .int .i64 i.p, .int .i64 i.q, .int .i64 i.y, .int .i64 i.g, .int .i64 i.n]
def extI (i : In) (l : List Int) : In := ⟨i.o, i.b, i.m, i.r, if exS i = true then l.getD 0 0 else 0, i.p, i.q, if exD i = true then l.getD (if exS i = true then 1 else 0) 0 else 0, i.g, i.n⟩
def dcW (w : Int) (t : List Int) : In × Int := match readR w with
  | none => (nil10, 0)
  | some _ => if nR (shR w) ≤ (t.length : Int) + 1 ∧ vR (extI (shR w) t) = true then (extI (shR w) t, nR (shR w)) else (nil10, 0)
def dcI (l : List Int) : In × Int := match l with
  | [] => (nil10, 0)
  | w :: t => if 0 ≤ w ∧ w ≤ 65535 then dcW w t else (nil10, 0)
theorem dcI_bad {w : Int} {t : List Int} (h : ¬ (0 ≤ w ∧ w ≤ 65535)) : dcI (w :: t) = (nil10, 0) := if_neg h
theorem dcI_none {w : Int} {t : List Int} (h0 : 0 ≤ w) (h1 : w ≤ 65535) (h : readR w = none) : dcI (w :: t) = (nil10, 0) := by
  show (if 0 ≤ w ∧ w ≤ 65535 then dcW w t else (nil10, 0)) = _
  rw [if_pos ⟨h0, h1⟩]; unfold dcW; rw [h]
theorem dcI_short {w : Int} {t : List Int} {e : Row} (h0 : 0 ≤ w) (h1 : w ≤ 65535) (h : readR w = some e) (hn : ¬ (nR (shR w) ≤ (t.length : Int) + 1)) : dcI (w :: t) = (nil10, 0) := by
  show (if 0 ≤ w ∧ w ≤ 65535 then dcW w t else (nil10, 0)) = _
  rw [if_pos ⟨h0, h1⟩]; unfold dcW; rw [h]; exact if_neg (fun k => hn k.1)
theorem dcI_out {w : Int} {t : List Int} {e : Row} (h0 : 0 ≤ w) (h1 : w ≤ 65535) (h : readR w = some e) (hv : vR (extI (shR w) t) = false) : dcI (w :: t) = (nil10, 0) := by
  show (if 0 ≤ w ∧ w ≤ 65535 then dcW w t else (nil10, 0)) = _
  rw [if_pos ⟨h0, h1⟩]; unfold dcW; rw [h]; exact if_neg (fun k => by rw [hv] at k; exact absurd k.2 (by decide))
theorem dcI_in {w : Int} {t : List Int} {e : Row} (h0 : 0 ≤ w) (h1 : w ≤ 65535) (h : readR w = some e) (hn : nR (shR w) ≤ (t.length : Int) + 1) (hv : vR (extI (shR w) t) = true) : dcI (w :: t) = (extI (shR w) t, nR (shR w)) := by
  show (if 0 ≤ w ∧ w ≤ 65535 then dcW w t else (nil10, 0)) = _
  rw [if_pos ⟨h0, h1⟩]; unfold dcW; rw [h]; exact if_pos ⟨hn, hv⟩
theorem shR_parts {w : Int} {e : Row} (T : Took w e) : ∃ o b m r p q g n, shR w = ⟨o, b, m, r, 0, p, q, 0, g, n⟩ := ⟨_, _, _, _, _, _, _, _, T.same.symm⟩
theorem read_sh {w : Int} {e : Row} {o : Int} {b : Bool} {m r p q g n : Int} (h0 : 0 ≤ w) (h1 : w ≤ 65535) (T : Took w e) (hs : shR w = ⟨o, b, m, r, 0, p, q, 0, g, n⟩) {A : Addr} {c : Nat} (W0 : World) (W : Frm A c W0) :
    Calls Tryz.prog 51 #[.int .i64 w] W0 fun e' w' => e' = .returned (.tuple #[.agg #[.int .i64 o, .bool b, .int .i64 m, .int .i64 r, .int .i64 0, .int .i64 p, .int .i64 q, .int .i64 0, .int .i64 g, .int .i64 n], .agg #[.int .i64 e.f, .int .i64 e.l, .int .i64 e.d, .int .i64 e.a, .int .i64 e.e0, .int .i64 e.e1, .int .i64 e.e2, .int .i64 e.e3, .int .i64 e.e4, .int .i64 e.e5], .bool true]) ∧ Below W0.heap.size W0 w' := by
  have k := read_some w h0 h1 e T.read W0 W
  have e1 : (Value.agg #[.int .i64 (rdR e w).o, .bool (rdR e w).b, .int .i64 (rdR e w).m, .int .i64 (rdR e w).r, .int .i64 (rdR e w).x, .int .i64 (rdR e w).p, .int .i64 (rdR e w).q, .int .i64 (rdR e w).y, .int .i64 (rdR e w).g, .int .i64 (rdR e w).n]) = .agg #[.int .i64 o, .bool b, .int .i64 m, .int .i64 r, .int .i64 0, .int .i64 p, .int .i64 q, .int .i64 0, .int .i64 g, .int .i64 n] := by
    rw [T.same, hs]
  rw [← e1]
  exact k

theorem Decode_any (l : List Int) (v : Value) (hl : l.length ≤ 1099511627776) {A : Addr} {c : Nat} (W0 : World) (W : Frm A c W0) (hv : Nums .i64 W0 v l) :
    Calls Tryz.prog 25 #[v] W0 fun e w' => e = .returned (.tuple #[inV (dcI l).1, .int .i64 (dcI l).2]) ∧ Below W0.heap.size W0 w' := by
  obtain ⟨Aa, cp, rfl, hcp, hc⟩ := hv
  have hX := (St.start W).put [.int .i64 0, .bool false, .int .i64 0, .int .i64 0, .int .i64 0, .int .i64 0, .int .i64 0, .int .i64 0, .int .i64 0, .int .i64 0] 36
  cases l with
  | nil =>
    show Calls _ _ _ _ fun e w' => e = .returned (.tuple #[.agg #[.int .i64 0, .bool false, .int .i64 0, .int .i64 0, .int .i64 0, .int .i64 0, .int .i64 0, .int .i64 0, .int .i64 0, .int .i64 0], .int .i64 0]) ∧ Below W0.heap.size W0 w'
    have hcs : ∀ w', Below W0.heap.size W0 w' → True := fun _ _ => trivial
    go_enter Tryz.func25, Tryz.ntmps25
    obtain ⟨b0, b1, b2, b3, b4, b5, b6, b7, b8, b9⟩ := hX.ten 0 rfl; obtain ⟨z0, z1, z2, z3, z4, z5, z6, z7, z8, z9⟩ := hX.tenz 0 rfl
    have s0 := hcs _ hX.below
    have hlow : W0.heap.size ≤ W0.heap.size := Nat.le_refl _
    try have d0 : decide (w < 0) = false := decide_eq_false (by omega)
    try have d1 : decide (65535 < w) = false := decide_eq_false (by omega)
    go_wp2
    skip
    refine end_at (v := .tuple #[.agg #[.int .i64 0, .bool false, .int .i64 0, .int .i64 0, .int .i64 0, .int .i64 0, .int .i64 0, .int .i64 0, .int .i64 0, .int .i64 0], .int .i64 0]) hX 0 0 rfl rfl (fun w5 k _ => ?_) rfl ⟨rfl, hX.below⟩
    have c0 := k.c 0 _ rfl; have c1 := k.c 1 _ rfl; have c2 := k.c 2 _ rfl; have c3 := k.c 3 _ rfl; have c4 := k.c 4 _ rfl; have c5 := k.c 5 _ rfl; have c6 := k.c 6 _ rfl; have c7 := k.c 7 _ rfl; have c8 := k.c 8 _ rfl; have c9 := k.c 9 _ rfl
    simp [results, Tryz.results25, go_sem, c0, c1, c2, c3, c4, c5, c6, c7, c8, c9]
  | cons w t =>
    obtain ⟨a, rfl, hw, hwl⟩ := hc 0 w rfl
    have hcs : ∀ w', Below W0.heap.size W0 w' → w'.cell? a = some (.int .i64 w) := fun w' hb => (hb.cell (p := a) hwl).trans hw
    clear hw
    have hl1 : (0 : Int) ≤ (t.length : Int) := by omega
    by_cases h0 : 0 ≤ w
    · by_cases h1 : w ≤ 65535
      · rcases shape_cases h0 h1 with ⟨e, T⟩ | ⟨hn, _⟩
        · obtain ⟨o, b, m, r, p, q, g, n, hs⟩ := shR_parts T
          have hr := fun w' (k : Frm A c w') => read_sh h0 h1 T hs w' k
          have hF : formR o = some e := by have := T.form; rw [hs] at this; exact this
          have hW := fun w' (k : Frm A c w') => words_any o b m r 0 p q 0 g n w' k
          cases hS : exR (m % 8) (r % 8)
          · cases hD : exR (p % 8) (q % 8)
            · have hN : nR ⟨o, b, m, r, 0, p, q, 0, g, n⟩ = 1 := by unfold nR exS exD; simp only [hS, hD]; rfl
              have hN' : nR (shR w) = 1 := by rw [hs]; exact hN
              rw [hN] at hW
              have hE : extI (shR w) (t) = ⟨o, b, m, r, 0, p, q, 0, g, n⟩ := by rw [hs]; unfold extI exS exD; simp [hS, hD]
              have hvv := fun w' (k : Frm A c w') => valid_row (e := e) o b m r 0 p q 0 g n hF w' k
              cases hV : vR ⟨o, b, m, r, 0, p, q, 0, g, n⟩ with
              | false =>
                rw [dcI_out h0 h1 T.read (by rw [hE]; exact hV)]
                rw [hV] at hvv
                have dA : decide ((t.length : Int) + 1 < 1) = false := decide_eq_false (by omega)
                have cp0 : t.length + 1 ≤ cp := by have hq := hcp; simp only [List.length_cons] at hq; omega
                have cp1 : ((1 : Nat) : Int) ≤ (cp : Int) := by omega
                have cp2 : ((1 : Nat) : Int) ≤ (cp : Int) := by omega
                have cp3 : (1 : Int) ≤ (cp : Int) := by omega
                have cp4 : (1 : Int) ≤ (cp : Int) := by omega
                have cp5 : 1 ≤ cp := by omega
                have cp6 : 1 ≤ cp := by omega
                clear hc hcp
                show Calls _ _ _ _ fun e w' => e = .returned (.tuple #[.agg #[.int .i64 0, .bool false, .int .i64 0, .int .i64 0, .int .i64 0, .int .i64 0, .int .i64 0, .int .i64 0, .int .i64 0, .int .i64 0], .int .i64 0]) ∧ Below W0.heap.size W0 w'
                go_enter Tryz.func25, Tryz.ntmps25
                obtain ⟨b0, b1, b2, b3, b4, b5, b6, b7, b8, b9⟩ := hX.ten 0 rfl; obtain ⟨z0, z1, z2, z3, z4, z5, z6, z7, z8, z9⟩ := hX.tenz 0 rfl
                have s0 := hcs _ hX.below
                have hlow : W0.heap.size ≤ W0.heap.size := Nat.le_refl _
                try have d0 : decide (w < 0) = false := decide_eq_false (by omega)
                try have d1 : decide (65535 < w) = false := decide_eq_false (by omega)
                go_wp2_with (first | (go_at_call 51; with_reducible refine (hr _ hX.frm).mono ?_; rintro _ w' ⟨rfl, hb⟩; have hlowD := (hX.step hb).below.size; have hltD := (hX.step hb |>.at_ 0 rfl).lt; have hX := (hX.step hb).putTwo [.int .i64 o, .bool b, .int .i64 m, .int .i64 r, .int .i64 0, .int .i64 p, .int .i64 q, .int .i64 0, .int .i64 g, .int .i64 n] [.int .i64 e.f, .int .i64 e.l, .int .i64 e.d, .int .i64 e.a, .int .i64 e.e0, .int .i64 e.e1, .int .i64 e.e2, .int .i64 e.e3, .int .i64 e.e4, .int .i64 e.e5] 36 69; clear hb; have s0 := hcs _ hX.below; obtain ⟨b0, b1, b2, b3, b4, b5, b6, b7, b8, b9⟩ := hX.ten 2 rfl; obtain ⟨z0, z1, z2, z3, z4, z5, z6, z7, z8, z9⟩ := hX.tenz 2 rfl; obtain ⟨i0, i1, i2, i3, i4, i5, i6, i7, i8, i9⟩ := hX.ten 1 rfl; obtain ⟨c0, c1, c2, c3, c4, c5, c6, c7, c8, c9⟩ := hX.ten 0 rfl) | (go_at_call 52; with_reducible refine (hW _ hX.frm).mono ?_; rintro _ w' ⟨rfl, hb⟩; have hX := hX.step hb; clear hb; have s0 := hcs _ hX.below; obtain ⟨b0, b1, b2, b3, b4, b5, b6, b7, b8, b9⟩ := hX.ten 2 rfl; obtain ⟨z0, z1, z2, z3, z4, z5, z6, z7, z8, z9⟩ := hX.tenz 2 rfl; obtain ⟨i0, i1, i2, i3, i4, i5, i6, i7, i8, i9⟩ := hX.ten 1 rfl; obtain ⟨c0, c1, c2, c3, c4, c5, c6, c7, c8, c9⟩ := hX.ten 0 rfl) | (go_at_call 53; refine (extend_ff o b m r 0 p q 0 g n hS hD 1 _ W0 rfl hlowD (by simp; omega) _ a 0 0 _ hX).mono ?_; rintro _ w' ⟨rfl, hX⟩; obtain ⟨b0, b1, b2, b3, b4, b5, b6, b7, b8, b9⟩ := hX.ten 2 rfl; obtain ⟨z0, z1, z2, z3, z4, z5, z6, z7, z8, z9⟩ := hX.tenz 2 rfl; obtain ⟨i0, i1, i2, i3, i4, i5, i6, i7, i8, i9⟩ := hX.ten 1 rfl; obtain ⟨c0, c1, c2, c3, c4, c5, c6, c7, c8, c9⟩ := hX.ten 0 rfl) | (go_at_call 44; with_reducible refine (hvv _ hX.frm).mono ?_; rintro _ w' ⟨rfl, hb⟩; have hX := hX.step hb; clear hb; obtain ⟨b0, b1, b2, b3, b4, b5, b6, b7, b8, b9⟩ := hX.ten 2 rfl; obtain ⟨z0, z1, z2, z3, z4, z5, z6, z7, z8, z9⟩ := hX.tenz 2 rfl; obtain ⟨i0, i1, i2, i3, i4, i5, i6, i7, i8, i9⟩ := hX.ten 1 rfl; obtain ⟨c0, c1, c2, c3, c4, c5, c6, c7, c8, c9⟩ := hX.ten 0 rfl))
                all_goals
                  have hX := hX.fill 2 [.int .i64 0, .bool false, .int .i64 0, .int .i64 0, .int .i64 0, .int .i64 0, .int .i64 0, .int .i64 0, .int .i64 0, .int .i64 0] rfl (Nat.le_refl _) hlow (by simp; try omega)
                  refine end_at (v := .tuple #[.agg #[.int .i64 0, .bool false, .int .i64 0, .int .i64 0, .int .i64 0, .int .i64 0, .int .i64 0, .int .i64 0, .int .i64 0, .int .i64 0], .int .i64 0]) hX 2 2 rfl rfl (fun w5 k _ => ?_) rfl ⟨rfl, hX.below⟩
                  have c0 := k.c 0 _ rfl; have c1 := k.c 1 _ rfl; have c2 := k.c 2 _ rfl; have c3 := k.c 3 _ rfl; have c4 := k.c 4 _ rfl; have c5 := k.c 5 _ rfl; have c6 := k.c 6 _ rfl; have c7 := k.c 7 _ rfl; have c8 := k.c 8 _ rfl; have c9 := k.c 9 _ rfl
                  simp [results, Tryz.results25, go_sem, c0, c1, c2, c3, c4, c5, c6, c7, c8, c9]
              | true =>
                rw [dcI_in h0 h1 T.read (by rw [hN']; first | omega | (simp only [List.length_cons]; omega)) (by rw [hE]; exact hV), hE, hN']
                rw [hV] at hvv
                have dA : decide ((t.length : Int) + 1 < 1) = false := decide_eq_false (by omega)
                have cp0 : t.length + 1 ≤ cp := by have hq := hcp; simp only [List.length_cons] at hq; omega
                have cp1 : ((1 : Nat) : Int) ≤ (cp : Int) := by omega
                have cp2 : ((1 : Nat) : Int) ≤ (cp : Int) := by omega
                have cp3 : (1 : Int) ≤ (cp : Int) := by omega
                have cp4 : (1 : Int) ≤ (cp : Int) := by omega
                have cp5 : 1 ≤ cp := by omega
                have cp6 : 1 ≤ cp := by omega
                clear hc hcp
                show Calls _ _ _ _ fun e w' => e = .returned (.tuple #[.agg #[.int .i64 o, .bool b, .int .i64 m, .int .i64 r, .int .i64 0, .int .i64 p, .int .i64 q, .int .i64 0, .int .i64 g, .int .i64 n], .int .i64 1]) ∧ Below W0.heap.size W0 w'
                go_enter Tryz.func25, Tryz.ntmps25
                obtain ⟨b0, b1, b2, b3, b4, b5, b6, b7, b8, b9⟩ := hX.ten 0 rfl; obtain ⟨z0, z1, z2, z3, z4, z5, z6, z7, z8, z9⟩ := hX.tenz 0 rfl
                have s0 := hcs _ hX.below
                have hlow : W0.heap.size ≤ W0.heap.size := Nat.le_refl _
                try have d0 : decide (w < 0) = false := decide_eq_false (by omega)
                try have d1 : decide (65535 < w) = false := decide_eq_false (by omega)
                go_wp2_with (first | (go_at_call 51; with_reducible refine (hr _ hX.frm).mono ?_; rintro _ w' ⟨rfl, hb⟩; have hlowD := (hX.step hb).below.size; have hltD := (hX.step hb |>.at_ 0 rfl).lt; have hX := (hX.step hb).putTwo [.int .i64 o, .bool b, .int .i64 m, .int .i64 r, .int .i64 0, .int .i64 p, .int .i64 q, .int .i64 0, .int .i64 g, .int .i64 n] [.int .i64 e.f, .int .i64 e.l, .int .i64 e.d, .int .i64 e.a, .int .i64 e.e0, .int .i64 e.e1, .int .i64 e.e2, .int .i64 e.e3, .int .i64 e.e4, .int .i64 e.e5] 36 69; clear hb; have s0 := hcs _ hX.below; obtain ⟨b0, b1, b2, b3, b4, b5, b6, b7, b8, b9⟩ := hX.ten 2 rfl; obtain ⟨z0, z1, z2, z3, z4, z5, z6, z7, z8, z9⟩ := hX.tenz 2 rfl; obtain ⟨i0, i1, i2, i3, i4, i5, i6, i7, i8, i9⟩ := hX.ten 1 rfl; obtain ⟨c0, c1, c2, c3, c4, c5, c6, c7, c8, c9⟩ := hX.ten 0 rfl) | (go_at_call 52; with_reducible refine (hW _ hX.frm).mono ?_; rintro _ w' ⟨rfl, hb⟩; have hX := hX.step hb; clear hb; have s0 := hcs _ hX.below; obtain ⟨b0, b1, b2, b3, b4, b5, b6, b7, b8, b9⟩ := hX.ten 2 rfl; obtain ⟨z0, z1, z2, z3, z4, z5, z6, z7, z8, z9⟩ := hX.tenz 2 rfl; obtain ⟨i0, i1, i2, i3, i4, i5, i6, i7, i8, i9⟩ := hX.ten 1 rfl; obtain ⟨c0, c1, c2, c3, c4, c5, c6, c7, c8, c9⟩ := hX.ten 0 rfl) | (go_at_call 53; refine (extend_ff o b m r 0 p q 0 g n hS hD 1 _ W0 rfl hlowD (by simp; omega) _ a 0 0 _ hX).mono ?_; rintro _ w' ⟨rfl, hX⟩; obtain ⟨b0, b1, b2, b3, b4, b5, b6, b7, b8, b9⟩ := hX.ten 2 rfl; obtain ⟨z0, z1, z2, z3, z4, z5, z6, z7, z8, z9⟩ := hX.tenz 2 rfl; obtain ⟨i0, i1, i2, i3, i4, i5, i6, i7, i8, i9⟩ := hX.ten 1 rfl; obtain ⟨c0, c1, c2, c3, c4, c5, c6, c7, c8, c9⟩ := hX.ten 0 rfl) | (go_at_call 44; with_reducible refine (hvv _ hX.frm).mono ?_; rintro _ w' ⟨rfl, hb⟩; have hX := hX.step hb; clear hb; obtain ⟨b0, b1, b2, b3, b4, b5, b6, b7, b8, b9⟩ := hX.ten 2 rfl; obtain ⟨z0, z1, z2, z3, z4, z5, z6, z7, z8, z9⟩ := hX.tenz 2 rfl; obtain ⟨i0, i1, i2, i3, i4, i5, i6, i7, i8, i9⟩ := hX.ten 1 rfl; obtain ⟨c0, c1, c2, c3, c4, c5, c6, c7, c8, c9⟩ := hX.ten 0 rfl))
                all_goals
                  have hX := hX.fill 2 [.int .i64 o, .bool b, .int .i64 m, .int .i64 r, .int .i64 0, .int .i64 p, .int .i64 q, .int .i64 0, .int .i64 g, .int .i64 n] rfl (Nat.le_refl _) hlow (by simp; try omega)
                  refine end_at (v := .tuple #[.agg #[.int .i64 o, .bool b, .int .i64 m, .int .i64 r, .int .i64 0, .int .i64 p, .int .i64 q, .int .i64 0, .int .i64 g, .int .i64 n], .int .i64 1]) hX 2 2 rfl rfl (fun w5 k _ => ?_) rfl ⟨rfl, hX.below⟩
                  have c0 := k.c 0 _ rfl; have c1 := k.c 1 _ rfl; have c2 := k.c 2 _ rfl; have c3 := k.c 3 _ rfl; have c4 := k.c 4 _ rfl; have c5 := k.c 5 _ rfl; have c6 := k.c 6 _ rfl; have c7 := k.c 7 _ rfl; have c8 := k.c 8 _ rfl; have c9 := k.c 9 _ rfl
                  simp [results, Tryz.results25, go_sem, c0, c1, c2, c3, c4, c5, c6, c7, c8, c9]
            · have hN : nR ⟨o, b, m, r, 0, p, q, 0, g, n⟩ = 2 := by unfold nR exS exD; simp only [hS, hD]; rfl
              have hN' : nR (shR w) = 2 := by rw [hs]; exact hN
              rw [hN] at hW
              cases t with
              | nil =>
                rw [dcI_short h0 h1 T.read (by rw [hN']; simp)]
                clear hc
                show Calls _ _ _ _ fun e w' => e = .returned (.tuple #[.agg #[.int .i64 0, .bool false, .int .i64 0, .int .i64 0, .int .i64 0, .int .i64 0, .int .i64 0, .int .i64 0, .int .i64 0, .int .i64 0], .int .i64 0]) ∧ Below W0.heap.size W0 w'
                go_enter Tryz.func25, Tryz.ntmps25
                obtain ⟨b0, b1, b2, b3, b4, b5, b6, b7, b8, b9⟩ := hX.ten 0 rfl; obtain ⟨z0, z1, z2, z3, z4, z5, z6, z7, z8, z9⟩ := hX.tenz 0 rfl
                have s0 := hcs _ hX.below
                have hlow : W0.heap.size ≤ W0.heap.size := Nat.le_refl _
                try have d0 : decide (w < 0) = false := decide_eq_false (by omega)
                try have d1 : decide (65535 < w) = false := decide_eq_false (by omega)
                go_wp2_with (first | (go_at_call 51; with_reducible refine (hr _ hX.frm).mono ?_; rintro _ w' ⟨rfl, hb⟩; have hlowD := (hX.step hb).below.size; have hltD := (hX.step hb |>.at_ 0 rfl).lt; have hX := (hX.step hb).putTwo [.int .i64 o, .bool b, .int .i64 m, .int .i64 r, .int .i64 0, .int .i64 p, .int .i64 q, .int .i64 0, .int .i64 g, .int .i64 n] [.int .i64 e.f, .int .i64 e.l, .int .i64 e.d, .int .i64 e.a, .int .i64 e.e0, .int .i64 e.e1, .int .i64 e.e2, .int .i64 e.e3, .int .i64 e.e4, .int .i64 e.e5] 36 69; clear hb; have s0 := hcs _ hX.below; obtain ⟨b0, b1, b2, b3, b4, b5, b6, b7, b8, b9⟩ := hX.ten 2 rfl; obtain ⟨z0, z1, z2, z3, z4, z5, z6, z7, z8, z9⟩ := hX.tenz 2 rfl; obtain ⟨i0, i1, i2, i3, i4, i5, i6, i7, i8, i9⟩ := hX.ten 1 rfl; obtain ⟨c0, c1, c2, c3, c4, c5, c6, c7, c8, c9⟩ := hX.ten 0 rfl) | (go_at_call 52; with_reducible refine (hW _ hX.frm).mono ?_; rintro _ w' ⟨rfl, hb⟩; have hX := hX.step hb; clear hb; have s0 := hcs _ hX.below; obtain ⟨b0, b1, b2, b3, b4, b5, b6, b7, b8, b9⟩ := hX.ten 2 rfl; obtain ⟨z0, z1, z2, z3, z4, z5, z6, z7, z8, z9⟩ := hX.tenz 2 rfl; obtain ⟨i0, i1, i2, i3, i4, i5, i6, i7, i8, i9⟩ := hX.ten 1 rfl; obtain ⟨c0, c1, c2, c3, c4, c5, c6, c7, c8, c9⟩ := hX.ten 0 rfl))
                have hX := hX.fill 2 [.int .i64 0, .bool false, .int .i64 0, .int .i64 0, .int .i64 0, .int .i64 0, .int .i64 0, .int .i64 0, .int .i64 0, .int .i64 0] rfl (Nat.le_refl _) hlow (by simp; try omega)
                refine end_at (v := .tuple #[.agg #[.int .i64 0, .bool false, .int .i64 0, .int .i64 0, .int .i64 0, .int .i64 0, .int .i64 0, .int .i64 0, .int .i64 0, .int .i64 0], .int .i64 0]) hX 2 2 rfl rfl (fun w5 k _ => ?_) rfl ⟨rfl, hX.below⟩
                have c0 := k.c 0 _ rfl; have c1 := k.c 1 _ rfl; have c2 := k.c 2 _ rfl; have c3 := k.c 3 _ rfl; have c4 := k.c 4 _ rfl; have c5 := k.c 5 _ rfl; have c6 := k.c 6 _ rfl; have c7 := k.c 7 _ rfl; have c8 := k.c 8 _ rfl; have c9 := k.c 9 _ rfl
                simp [results, Tryz.results25, go_sem, c0, c1, c2, c3, c4, c5, c6, c7, c8, c9]
              | cons x0 t =>
                have hE : extI (shR w) (x0 :: t) = ⟨o, b, m, r, 0, p, q, x0, g, n⟩ := by rw [hs]; unfold extI exS exD; simp [hS, hD]
                have hvv := fun w' (k : Frm A c w') => valid_row (e := e) o b m r 0 p q x0 g n hF w' k
                cases hV : vR ⟨o, b, m, r, 0, p, q, x0, g, n⟩ with
                | false =>
                  rw [dcI_out h0 h1 T.read (by rw [hE]; exact hV)]
                  rw [hV] at hvv
                  obtain ⟨a0, ha0, hw0, hwl0⟩ := hc 1 x0 rfl
                  obtain rfl : a = a0 := Option.some.inj ha0
                  have ht0 : ∀ w', Below W0.heap.size W0 w' → w'.cell? ⟨a.block, a.off + 1, none⟩ = some (.int .i64 x0) := fun w' hb => (hb.cell (p := a.add 1) hwl0).trans hw0
                  have dA : decide ((t.length : Int) + 1 + 1 < 2) = false := decide_eq_false (by omega)
                  have cp0 : t.length + 2 ≤ cp := by have hq := hcp; simp only [List.length_cons] at hq; omega
                  have cp1 : ((1 : Nat) : Int) ≤ (cp : Int) := by omega
                  have cp2 : ((2 : Nat) : Int) ≤ (cp : Int) := by omega
                  have cp3 : (1 : Int) ≤ (cp : Int) := by omega
                  have cp4 : (2 : Int) ≤ (cp : Int) := by omega
                  have cp5 : 1 ≤ cp := by omega
                  have cp6 : 2 ≤ cp := by omega
                  have cp7 : cp - 1 ≠ 0 := by omega
                  have cp8 : 1 < cp := by omega
                  clear hc hcp
                  show Calls _ _ _ _ fun e w' => e = .returned (.tuple #[.agg #[.int .i64 0, .bool false, .int .i64 0, .int .i64 0, .int .i64 0, .int .i64 0, .int .i64 0, .int .i64 0, .int .i64 0, .int .i64 0], .int .i64 0]) ∧ Below W0.heap.size W0 w'
                  go_enter Tryz.func25, Tryz.ntmps25
                  obtain ⟨b0, b1, b2, b3, b4, b5, b6, b7, b8, b9⟩ := hX.ten 0 rfl; obtain ⟨z0, z1, z2, z3, z4, z5, z6, z7, z8, z9⟩ := hX.tenz 0 rfl
                  have s0 := hcs _ hX.below
                  have hlow : W0.heap.size ≤ W0.heap.size := Nat.le_refl _
                  try have d0 : decide (w < 0) = false := decide_eq_false (by omega)
                  try have d1 : decide (65535 < w) = false := decide_eq_false (by omega)
                  go_wp2_with (first | (go_at_call 51; with_reducible refine (hr _ hX.frm).mono ?_; rintro _ w' ⟨rfl, hb⟩; have hlowD := (hX.step hb).below.size; have hltD := (hX.step hb |>.at_ 0 rfl).lt; have hX := (hX.step hb).putTwo [.int .i64 o, .bool b, .int .i64 m, .int .i64 r, .int .i64 0, .int .i64 p, .int .i64 q, .int .i64 0, .int .i64 g, .int .i64 n] [.int .i64 e.f, .int .i64 e.l, .int .i64 e.d, .int .i64 e.a, .int .i64 e.e0, .int .i64 e.e1, .int .i64 e.e2, .int .i64 e.e3, .int .i64 e.e4, .int .i64 e.e5] 36 69; clear hb; have s0 := hcs _ hX.below; obtain ⟨b0, b1, b2, b3, b4, b5, b6, b7, b8, b9⟩ := hX.ten 2 rfl; obtain ⟨z0, z1, z2, z3, z4, z5, z6, z7, z8, z9⟩ := hX.tenz 2 rfl; obtain ⟨i0, i1, i2, i3, i4, i5, i6, i7, i8, i9⟩ := hX.ten 1 rfl; obtain ⟨c0, c1, c2, c3, c4, c5, c6, c7, c8, c9⟩ := hX.ten 0 rfl) | (go_at_call 52; with_reducible refine (hW _ hX.frm).mono ?_; rintro _ w' ⟨rfl, hb⟩; have hX := hX.step hb; clear hb; have s0 := hcs _ hX.below; obtain ⟨b0, b1, b2, b3, b4, b5, b6, b7, b8, b9⟩ := hX.ten 2 rfl; obtain ⟨z0, z1, z2, z3, z4, z5, z6, z7, z8, z9⟩ := hX.tenz 2 rfl; obtain ⟨i0, i1, i2, i3, i4, i5, i6, i7, i8, i9⟩ := hX.ten 1 rfl; obtain ⟨c0, c1, c2, c3, c4, c5, c6, c7, c8, c9⟩ := hX.ten 0 rfl) | (go_at_call 53; refine (extend_ft o b m r 0 p q 0 g n hS hD 1 _ W0 rfl hlowD (by simp; omega) _ ⟨a.block, a.off + 1, none⟩ 1 (cp - 1) x0 rfl (by omega) (by omega) (by omega) ht0 _ hX).mono ?_; rintro _ w' ⟨rfl, hX⟩; obtain ⟨b0, b1, b2, b3, b4, b5, b6, b7, b8, b9⟩ := hX.ten 2 rfl; obtain ⟨z0, z1, z2, z3, z4, z5, z6, z7, z8, z9⟩ := hX.tenz 2 rfl; obtain ⟨i0, i1, i2, i3, i4, i5, i6, i7, i8, i9⟩ := hX.ten 1 rfl; obtain ⟨c0, c1, c2, c3, c4, c5, c6, c7, c8, c9⟩ := hX.ten 0 rfl) | (go_at_call 44; with_reducible refine (hvv _ hX.frm).mono ?_; rintro _ w' ⟨rfl, hb⟩; have hX := hX.step hb; clear hb; obtain ⟨b0, b1, b2, b3, b4, b5, b6, b7, b8, b9⟩ := hX.ten 2 rfl; obtain ⟨z0, z1, z2, z3, z4, z5, z6, z7, z8, z9⟩ := hX.tenz 2 rfl; obtain ⟨i0, i1, i2, i3, i4, i5, i6, i7, i8, i9⟩ := hX.ten 1 rfl; obtain ⟨c0, c1, c2, c3, c4, c5, c6, c7, c8, c9⟩ := hX.ten 0 rfl))
                  all_goals
                    have hX := hX.fill 2 [.int .i64 0, .bool false, .int .i64 0, .int .i64 0, .int .i64 0, .int .i64 0, .int .i64 0, .int .i64 0, .int .i64 0, .int .i64 0] rfl (Nat.le_refl _) hlow (by simp; try omega)
                    refine end_at (v := .tuple #[.agg #[.int .i64 0, .bool false, .int .i64 0, .int .i64 0, .int .i64 0, .int .i64 0, .int .i64 0, .int .i64 0, .int .i64 0, .int .i64 0], .int .i64 0]) hX 2 2 rfl rfl (fun w5 k _ => ?_) rfl ⟨rfl, hX.below⟩
                    have c0 := k.c 0 _ rfl; have c1 := k.c 1 _ rfl; have c2 := k.c 2 _ rfl; have c3 := k.c 3 _ rfl; have c4 := k.c 4 _ rfl; have c5 := k.c 5 _ rfl; have c6 := k.c 6 _ rfl; have c7 := k.c 7 _ rfl; have c8 := k.c 8 _ rfl; have c9 := k.c 9 _ rfl
                    simp [results, Tryz.results25, go_sem, c0, c1, c2, c3, c4, c5, c6, c7, c8, c9]
                | true =>
                  rw [dcI_in h0 h1 T.read (by rw [hN']; first | omega | (simp only [List.length_cons]; omega)) (by rw [hE]; exact hV), hE, hN']
                  rw [hV] at hvv
                  obtain ⟨a0, ha0, hw0, hwl0⟩ := hc 1 x0 rfl
                  obtain rfl : a = a0 := Option.some.inj ha0
                  have ht0 : ∀ w', Below W0.heap.size W0 w' → w'.cell? ⟨a.block, a.off + 1, none⟩ = some (.int .i64 x0) := fun w' hb => (hb.cell (p := a.add 1) hwl0).trans hw0
                  have dA : decide ((t.length : Int) + 1 + 1 < 2) = false := decide_eq_false (by omega)
                  have cp0 : t.length + 2 ≤ cp := by have hq := hcp; simp only [List.length_cons] at hq; omega
                  have cp1 : ((1 : Nat) : Int) ≤ (cp : Int) := by omega
                  have cp2 : ((2 : Nat) : Int) ≤ (cp : Int) := by omega
                  have cp3 : (1 : Int) ≤ (cp : Int) := by omega
                  have cp4 : (2 : Int) ≤ (cp : Int) := by omega
                  have cp5 : 1 ≤ cp := by omega
                  have cp6 : 2 ≤ cp := by omega
                  have cp7 : cp - 1 ≠ 0 := by omega
                  have cp8 : 1 < cp := by omega
                  clear hc hcp
                  show Calls _ _ _ _ fun e w' => e = .returned (.tuple #[.agg #[.int .i64 o, .bool b, .int .i64 m, .int .i64 r, .int .i64 0, .int .i64 p, .int .i64 q, .int .i64 x0, .int .i64 g, .int .i64 n], .int .i64 2]) ∧ Below W0.heap.size W0 w'
                  go_enter Tryz.func25, Tryz.ntmps25
                  obtain ⟨b0, b1, b2, b3, b4, b5, b6, b7, b8, b9⟩ := hX.ten 0 rfl; obtain ⟨z0, z1, z2, z3, z4, z5, z6, z7, z8, z9⟩ := hX.tenz 0 rfl
                  have s0 := hcs _ hX.below
                  have hlow : W0.heap.size ≤ W0.heap.size := Nat.le_refl _
                  try have d0 : decide (w < 0) = false := decide_eq_false (by omega)
                  try have d1 : decide (65535 < w) = false := decide_eq_false (by omega)
                  go_wp2_with (first | (go_at_call 51; with_reducible refine (hr _ hX.frm).mono ?_; rintro _ w' ⟨rfl, hb⟩; have hlowD := (hX.step hb).below.size; have hltD := (hX.step hb |>.at_ 0 rfl).lt; have hX := (hX.step hb).putTwo [.int .i64 o, .bool b, .int .i64 m, .int .i64 r, .int .i64 0, .int .i64 p, .int .i64 q, .int .i64 0, .int .i64 g, .int .i64 n] [.int .i64 e.f, .int .i64 e.l, .int .i64 e.d, .int .i64 e.a, .int .i64 e.e0, .int .i64 e.e1, .int .i64 e.e2, .int .i64 e.e3, .int .i64 e.e4, .int .i64 e.e5] 36 69; clear hb; have s0 := hcs _ hX.below; obtain ⟨b0, b1, b2, b3, b4, b5, b6, b7, b8, b9⟩ := hX.ten 2 rfl; obtain ⟨z0, z1, z2, z3, z4, z5, z6, z7, z8, z9⟩ := hX.tenz 2 rfl; obtain ⟨i0, i1, i2, i3, i4, i5, i6, i7, i8, i9⟩ := hX.ten 1 rfl; obtain ⟨c0, c1, c2, c3, c4, c5, c6, c7, c8, c9⟩ := hX.ten 0 rfl) | (go_at_call 52; with_reducible refine (hW _ hX.frm).mono ?_; rintro _ w' ⟨rfl, hb⟩; have hX := hX.step hb; clear hb; have s0 := hcs _ hX.below; obtain ⟨b0, b1, b2, b3, b4, b5, b6, b7, b8, b9⟩ := hX.ten 2 rfl; obtain ⟨z0, z1, z2, z3, z4, z5, z6, z7, z8, z9⟩ := hX.tenz 2 rfl; obtain ⟨i0, i1, i2, i3, i4, i5, i6, i7, i8, i9⟩ := hX.ten 1 rfl; obtain ⟨c0, c1, c2, c3, c4, c5, c6, c7, c8, c9⟩ := hX.ten 0 rfl) | (go_at_call 53; refine (extend_ft o b m r 0 p q 0 g n hS hD 1 _ W0 rfl hlowD (by simp; omega) _ ⟨a.block, a.off + 1, none⟩ 1 (cp - 1) x0 rfl (by omega) (by omega) (by omega) ht0 _ hX).mono ?_; rintro _ w' ⟨rfl, hX⟩; obtain ⟨b0, b1, b2, b3, b4, b5, b6, b7, b8, b9⟩ := hX.ten 2 rfl; obtain ⟨z0, z1, z2, z3, z4, z5, z6, z7, z8, z9⟩ := hX.tenz 2 rfl; obtain ⟨i0, i1, i2, i3, i4, i5, i6, i7, i8, i9⟩ := hX.ten 1 rfl; obtain ⟨c0, c1, c2, c3, c4, c5, c6, c7, c8, c9⟩ := hX.ten 0 rfl) | (go_at_call 44; with_reducible refine (hvv _ hX.frm).mono ?_; rintro _ w' ⟨rfl, hb⟩; have hX := hX.step hb; clear hb; obtain ⟨b0, b1, b2, b3, b4, b5, b6, b7, b8, b9⟩ := hX.ten 2 rfl; obtain ⟨z0, z1, z2, z3, z4, z5, z6, z7, z8, z9⟩ := hX.tenz 2 rfl; obtain ⟨i0, i1, i2, i3, i4, i5, i6, i7, i8, i9⟩ := hX.ten 1 rfl; obtain ⟨c0, c1, c2, c3, c4, c5, c6, c7, c8, c9⟩ := hX.ten 0 rfl))
                  all_goals
                    have hX := hX.fill 2 [.int .i64 o, .bool b, .int .i64 m, .int .i64 r, .int .i64 0, .int .i64 p, .int .i64 q, .int .i64 x0, .int .i64 g, .int .i64 n] rfl (Nat.le_refl _) hlow (by simp; try omega)
                    refine end_at (v := .tuple #[.agg #[.int .i64 o, .bool b, .int .i64 m, .int .i64 r, .int .i64 0, .int .i64 p, .int .i64 q, .int .i64 x0, .int .i64 g, .int .i64 n], .int .i64 2]) hX 2 2 rfl rfl (fun w5 k _ => ?_) rfl ⟨rfl, hX.below⟩
                    have c0 := k.c 0 _ rfl; have c1 := k.c 1 _ rfl; have c2 := k.c 2 _ rfl; have c3 := k.c 3 _ rfl; have c4 := k.c 4 _ rfl; have c5 := k.c 5 _ rfl; have c6 := k.c 6 _ rfl; have c7 := k.c 7 _ rfl; have c8 := k.c 8 _ rfl; have c9 := k.c 9 _ rfl
                    simp [results, Tryz.results25, go_sem, c0, c1, c2, c3, c4, c5, c6, c7, c8, c9]
          · cases hD : exR (p % 8) (q % 8)
            · have hN : nR ⟨o, b, m, r, 0, p, q, 0, g, n⟩ = 2 := by unfold nR exS exD; simp only [hS, hD]; rfl
              have hN' : nR (shR w) = 2 := by rw [hs]; exact hN
              rw [hN] at hW
              cases t with
              | nil =>
                rw [dcI_short h0 h1 T.read (by rw [hN']; simp)]
                clear hc
                show Calls _ _ _ _ fun e w' => e = .returned (.tuple #[.agg #[.int .i64 0, .bool false, .int .i64 0, .int .i64 0, .int .i64 0, .int .i64 0, .int .i64 0, .int .i64 0, .int .i64 0, .int .i64 0], .int .i64 0]) ∧ Below W0.heap.size W0 w'
                go_enter Tryz.func25, Tryz.ntmps25
                obtain ⟨b0, b1, b2, b3, b4, b5, b6, b7, b8, b9⟩ := hX.ten 0 rfl; obtain ⟨z0, z1, z2, z3, z4, z5, z6, z7, z8, z9⟩ := hX.tenz 0 rfl
                have s0 := hcs _ hX.below
                have hlow : W0.heap.size ≤ W0.heap.size := Nat.le_refl _
                try have d0 : decide (w < 0) = false := decide_eq_false (by omega)
                try have d1 : decide (65535 < w) = false := decide_eq_false (by omega)
                go_wp2_with (first | (go_at_call 51; with_reducible refine (hr _ hX.frm).mono ?_; rintro _ w' ⟨rfl, hb⟩; have hlowD := (hX.step hb).below.size; have hltD := (hX.step hb |>.at_ 0 rfl).lt; have hX := (hX.step hb).putTwo [.int .i64 o, .bool b, .int .i64 m, .int .i64 r, .int .i64 0, .int .i64 p, .int .i64 q, .int .i64 0, .int .i64 g, .int .i64 n] [.int .i64 e.f, .int .i64 e.l, .int .i64 e.d, .int .i64 e.a, .int .i64 e.e0, .int .i64 e.e1, .int .i64 e.e2, .int .i64 e.e3, .int .i64 e.e4, .int .i64 e.e5] 36 69; clear hb; have s0 := hcs _ hX.below; obtain ⟨b0, b1, b2, b3, b4, b5, b6, b7, b8, b9⟩ := hX.ten 2 rfl; obtain ⟨z0, z1, z2, z3, z4, z5, z6, z7, z8, z9⟩ := hX.tenz 2 rfl; obtain ⟨i0, i1, i2, i3, i4, i5, i6, i7, i8, i9⟩ := hX.ten 1 rfl; obtain ⟨c0, c1, c2, c3, c4, c5, c6, c7, c8, c9⟩ := hX.ten 0 rfl) | (go_at_call 52; with_reducible refine (hW _ hX.frm).mono ?_; rintro _ w' ⟨rfl, hb⟩; have hX := hX.step hb; clear hb; have s0 := hcs _ hX.below; obtain ⟨b0, b1, b2, b3, b4, b5, b6, b7, b8, b9⟩ := hX.ten 2 rfl; obtain ⟨z0, z1, z2, z3, z4, z5, z6, z7, z8, z9⟩ := hX.tenz 2 rfl; obtain ⟨i0, i1, i2, i3, i4, i5, i6, i7, i8, i9⟩ := hX.ten 1 rfl; obtain ⟨c0, c1, c2, c3, c4, c5, c6, c7, c8, c9⟩ := hX.ten 0 rfl))
                have hX := hX.fill 2 [.int .i64 0, .bool false, .int .i64 0, .int .i64 0, .int .i64 0, .int .i64 0, .int .i64 0, .int .i64 0, .int .i64 0, .int .i64 0] rfl (Nat.le_refl _) hlow (by simp; try omega)
                refine end_at (v := .tuple #[.agg #[.int .i64 0, .bool false, .int .i64 0, .int .i64 0, .int .i64 0, .int .i64 0, .int .i64 0, .int .i64 0, .int .i64 0, .int .i64 0], .int .i64 0]) hX 2 2 rfl rfl (fun w5 k _ => ?_) rfl ⟨rfl, hX.below⟩
                have c0 := k.c 0 _ rfl; have c1 := k.c 1 _ rfl; have c2 := k.c 2 _ rfl; have c3 := k.c 3 _ rfl; have c4 := k.c 4 _ rfl; have c5 := k.c 5 _ rfl; have c6 := k.c 6 _ rfl; have c7 := k.c 7 _ rfl; have c8 := k.c 8 _ rfl; have c9 := k.c 9 _ rfl
                simp [results, Tryz.results25, go_sem, c0, c1, c2, c3, c4, c5, c6, c7, c8, c9]
              | cons x0 t =>
                have hE : extI (shR w) (x0 :: t) = ⟨o, b, m, r, x0, p, q, 0, g, n⟩ := by rw [hs]; unfold extI exS exD; simp [hS, hD]
                have hvv := fun w' (k : Frm A c w') => valid_row (e := e) o b m r x0 p q 0 g n hF w' k
                cases hV : vR ⟨o, b, m, r, x0, p, q, 0, g, n⟩ with
                | false =>
                  rw [dcI_out h0 h1 T.read (by rw [hE]; exact hV)]
                  rw [hV] at hvv
                  obtain ⟨a0, ha0, hw0, hwl0⟩ := hc 1 x0 rfl
                  obtain rfl : a = a0 := Option.some.inj ha0
                  have ht0 : ∀ w', Below W0.heap.size W0 w' → w'.cell? ⟨a.block, a.off + 1, none⟩ = some (.int .i64 x0) := fun w' hb => (hb.cell (p := a.add 1) hwl0).trans hw0
                  have dA : decide ((t.length : Int) + 1 + 1 < 2) = false := decide_eq_false (by omega)
                  have cp0 : t.length + 2 ≤ cp := by have hq := hcp; simp only [List.length_cons] at hq; omega
                  have cp1 : ((1 : Nat) : Int) ≤ (cp : Int) := by omega
                  have cp2 : ((2 : Nat) : Int) ≤ (cp : Int) := by omega
                  have cp3 : (1 : Int) ≤ (cp : Int) := by omega
                  have cp4 : (2 : Int) ≤ (cp : Int) := by omega
                  have cp5 : 1 ≤ cp := by omega
                  have cp6 : 2 ≤ cp := by omega
                  have cp7 : cp - 1 ≠ 0 := by omega
                  have cp8 : 1 < cp := by omega
                  clear hc hcp
                  show Calls _ _ _ _ fun e w' => e = .returned (.tuple #[.agg #[.int .i64 0, .bool false, .int .i64 0, .int .i64 0, .int .i64 0, .int .i64 0, .int .i64 0, .int .i64 0, .int .i64 0, .int .i64 0], .int .i64 0]) ∧ Below W0.heap.size W0 w'
                  go_enter Tryz.func25, Tryz.ntmps25
                  obtain ⟨b0, b1, b2, b3, b4, b5, b6, b7, b8, b9⟩ := hX.ten 0 rfl; obtain ⟨z0, z1, z2, z3, z4, z5, z6, z7, z8, z9⟩ := hX.tenz 0 rfl
                  have s0 := hcs _ hX.below
                  have hlow : W0.heap.size ≤ W0.heap.size := Nat.le_refl _
                  try have d0 : decide (w < 0) = false := decide_eq_false (by omega)
                  try have d1 : decide (65535 < w) = false := decide_eq_false (by omega)
                  go_wp2_with (first | (go_at_call 51; with_reducible refine (hr _ hX.frm).mono ?_; rintro _ w' ⟨rfl, hb⟩; have hlowD := (hX.step hb).below.size; have hltD := (hX.step hb |>.at_ 0 rfl).lt; have hX := (hX.step hb).putTwo [.int .i64 o, .bool b, .int .i64 m, .int .i64 r, .int .i64 0, .int .i64 p, .int .i64 q, .int .i64 0, .int .i64 g, .int .i64 n] [.int .i64 e.f, .int .i64 e.l, .int .i64 e.d, .int .i64 e.a, .int .i64 e.e0, .int .i64 e.e1, .int .i64 e.e2, .int .i64 e.e3, .int .i64 e.e4, .int .i64 e.e5] 36 69; clear hb; have s0 := hcs _ hX.below; obtain ⟨b0, b1, b2, b3, b4, b5, b6, b7, b8, b9⟩ := hX.ten 2 rfl; obtain ⟨z0, z1, z2, z3, z4, z5, z6, z7, z8, z9⟩ := hX.tenz 2 rfl; obtain ⟨i0, i1, i2, i3, i4, i5, i6, i7, i8, i9⟩ := hX.ten 1 rfl; obtain ⟨c0, c1, c2, c3, c4, c5, c6, c7, c8, c9⟩ := hX.ten 0 rfl) | (go_at_call 52; with_reducible refine (hW _ hX.frm).mono ?_; rintro _ w' ⟨rfl, hb⟩; have hX := hX.step hb; clear hb; have s0 := hcs _ hX.below; obtain ⟨b0, b1, b2, b3, b4, b5, b6, b7, b8, b9⟩ := hX.ten 2 rfl; obtain ⟨z0, z1, z2, z3, z4, z5, z6, z7, z8, z9⟩ := hX.tenz 2 rfl; obtain ⟨i0, i1, i2, i3, i4, i5, i6, i7, i8, i9⟩ := hX.ten 1 rfl; obtain ⟨c0, c1, c2, c3, c4, c5, c6, c7, c8, c9⟩ := hX.ten 0 rfl) | (go_at_call 53; refine (extend_tf o b m r 0 p q 0 g n hS hD 1 _ W0 rfl hlowD (by simp; omega) _ ⟨a.block, a.off + 1, none⟩ 1 (cp - 1) x0 rfl (by omega) (by omega) (by omega) ht0 _ hX).mono ?_; rintro _ w' ⟨rfl, hX⟩; obtain ⟨b0, b1, b2, b3, b4, b5, b6, b7, b8, b9⟩ := hX.ten 2 rfl; obtain ⟨z0, z1, z2, z3, z4, z5, z6, z7, z8, z9⟩ := hX.tenz 2 rfl; obtain ⟨i0, i1, i2, i3, i4, i5, i6, i7, i8, i9⟩ := hX.ten 1 rfl; obtain ⟨c0, c1, c2, c3, c4, c5, c6, c7, c8, c9⟩ := hX.ten 0 rfl) | (go_at_call 44; with_reducible refine (hvv _ hX.frm).mono ?_; rintro _ w' ⟨rfl, hb⟩; have hX := hX.step hb; clear hb; obtain ⟨b0, b1, b2, b3, b4, b5, b6, b7, b8, b9⟩ := hX.ten 2 rfl; obtain ⟨z0, z1, z2, z3, z4, z5, z6, z7, z8, z9⟩ := hX.tenz 2 rfl; obtain ⟨i0, i1, i2, i3, i4, i5, i6, i7, i8, i9⟩ := hX.ten 1 rfl; obtain ⟨c0, c1, c2, c3, c4, c5, c6, c7, c8, c9⟩ := hX.ten 0 rfl))
                  all_goals
                    have hX := hX.fill 2 [.int .i64 0, .bool false, .int .i64 0, .int .i64 0, .int .i64 0, .int .i64 0, .int .i64 0, .int .i64 0, .int .i64 0, .int .i64 0] rfl (Nat.le_refl _) hlow (by simp; try omega)
                    refine end_at (v := .tuple #[.agg #[.int .i64 0, .bool false, .int .i64 0, .int .i64 0, .int .i64 0, .int .i64 0, .int .i64 0, .int .i64 0, .int .i64 0, .int .i64 0], .int .i64 0]) hX 2 2 rfl rfl (fun w5 k _ => ?_) rfl ⟨rfl, hX.below⟩
                    have c0 := k.c 0 _ rfl; have c1 := k.c 1 _ rfl; have c2 := k.c 2 _ rfl; have c3 := k.c 3 _ rfl; have c4 := k.c 4 _ rfl; have c5 := k.c 5 _ rfl; have c6 := k.c 6 _ rfl; have c7 := k.c 7 _ rfl; have c8 := k.c 8 _ rfl; have c9 := k.c 9 _ rfl
                    simp [results, Tryz.results25, go_sem, c0, c1, c2, c3, c4, c5, c6, c7, c8, c9]
                | true =>
                  rw [dcI_in h0 h1 T.read (by rw [hN']; first | omega | (simp only [List.length_cons]; omega)) (by rw [hE]; exact hV), hE, hN']
                  rw [hV] at hvv
                  obtain ⟨a0, ha0, hw0, hwl0⟩ := hc 1 x0 rfl
                  obtain rfl : a = a0 := Option.some.inj ha0
                  have ht0 : ∀ w', Below W0.heap.size W0 w' → w'.cell? ⟨a.block, a.off + 1, none⟩ = some (.int .i64 x0) := fun w' hb => (hb.cell (p := a.add 1) hwl0).trans hw0
                  have dA : decide ((t.length : Int) + 1 + 1 < 2) = false := decide_eq_false (by omega)
                  have cp0 : t.length + 2 ≤ cp := by have hq := hcp; simp only [List.length_cons] at hq; omega
                  have cp1 : ((1 : Nat) : Int) ≤ (cp : Int) := by omega
                  have cp2 : ((2 : Nat) : Int) ≤ (cp : Int) := by omega
                  have cp3 : (1 : Int) ≤ (cp : Int) := by omega
                  have cp4 : (2 : Int) ≤ (cp : Int) := by omega
                  have cp5 : 1 ≤ cp := by omega
                  have cp6 : 2 ≤ cp := by omega
                  have cp7 : cp - 1 ≠ 0 := by omega
                  have cp8 : 1 < cp := by omega
                  clear hc hcp
                  show Calls _ _ _ _ fun e w' => e = .returned (.tuple #[.agg #[.int .i64 o, .bool b, .int .i64 m, .int .i64 r, .int .i64 x0, .int .i64 p, .int .i64 q, .int .i64 0, .int .i64 g, .int .i64 n], .int .i64 2]) ∧ Below W0.heap.size W0 w'
                  go_enter Tryz.func25, Tryz.ntmps25
                  obtain ⟨b0, b1, b2, b3, b4, b5, b6, b7, b8, b9⟩ := hX.ten 0 rfl; obtain ⟨z0, z1, z2, z3, z4, z5, z6, z7, z8, z9⟩ := hX.tenz 0 rfl
                  have s0 := hcs _ hX.below
                  have hlow : W0.heap.size ≤ W0.heap.size := Nat.le_refl _
                  try have d0 : decide (w < 0) = false := decide_eq_false (by omega)
                  try have d1 : decide (65535 < w) = false := decide_eq_false (by omega)
                  go_wp2_with (first | (go_at_call 51; with_reducible refine (hr _ hX.frm).mono ?_; rintro _ w' ⟨rfl, hb⟩; have hlowD := (hX.step hb).below.size; have hltD := (hX.step hb |>.at_ 0 rfl).lt; have hX := (hX.step hb).putTwo [.int .i64 o, .bool b, .int .i64 m, .int .i64 r, .int .i64 0, .int .i64 p, .int .i64 q, .int .i64 0, .int .i64 g, .int .i64 n] [.int .i64 e.f, .int .i64 e.l, .int .i64 e.d, .int .i64 e.a, .int .i64 e.e0, .int .i64 e.e1, .int .i64 e.e2, .int .i64 e.e3, .int .i64 e.e4, .int .i64 e.e5] 36 69; clear hb; have s0 := hcs _ hX.below; obtain ⟨b0, b1, b2, b3, b4, b5, b6, b7, b8, b9⟩ := hX.ten 2 rfl; obtain ⟨z0, z1, z2, z3, z4, z5, z6, z7, z8, z9⟩ := hX.tenz 2 rfl; obtain ⟨i0, i1, i2, i3, i4, i5, i6, i7, i8, i9⟩ := hX.ten 1 rfl; obtain ⟨c0, c1, c2, c3, c4, c5, c6, c7, c8, c9⟩ := hX.ten 0 rfl) | (go_at_call 52; with_reducible refine (hW _ hX.frm).mono ?_; rintro _ w' ⟨rfl, hb⟩; have hX := hX.step hb; clear hb; have s0 := hcs _ hX.below; obtain ⟨b0, b1, b2, b3, b4, b5, b6, b7, b8, b9⟩ := hX.ten 2 rfl; obtain ⟨z0, z1, z2, z3, z4, z5, z6, z7, z8, z9⟩ := hX.tenz 2 rfl; obtain ⟨i0, i1, i2, i3, i4, i5, i6, i7, i8, i9⟩ := hX.ten 1 rfl; obtain ⟨c0, c1, c2, c3, c4, c5, c6, c7, c8, c9⟩ := hX.ten 0 rfl) | (go_at_call 53; refine (extend_tf o b m r 0 p q 0 g n hS hD 1 _ W0 rfl hlowD (by simp; omega) _ ⟨a.block, a.off + 1, none⟩ 1 (cp - 1) x0 rfl (by omega) (by omega) (by omega) ht0 _ hX).mono ?_; rintro _ w' ⟨rfl, hX⟩; obtain ⟨b0, b1, b2, b3, b4, b5, b6, b7, b8, b9⟩ := hX.ten 2 rfl; obtain ⟨z0, z1, z2, z3, z4, z5, z6, z7, z8, z9⟩ := hX.tenz 2 rfl; obtain ⟨i0, i1, i2, i3, i4, i5, i6, i7, i8, i9⟩ := hX.ten 1 rfl; obtain ⟨c0, c1, c2, c3, c4, c5, c6, c7, c8, c9⟩ := hX.ten 0 rfl) | (go_at_call 44; with_reducible refine (hvv _ hX.frm).mono ?_; rintro _ w' ⟨rfl, hb⟩; have hX := hX.step hb; clear hb; obtain ⟨b0, b1, b2, b3, b4, b5, b6, b7, b8, b9⟩ := hX.ten 2 rfl; obtain ⟨z0, z1, z2, z3, z4, z5, z6, z7, z8, z9⟩ := hX.tenz 2 rfl; obtain ⟨i0, i1, i2, i3, i4, i5, i6, i7, i8, i9⟩ := hX.ten 1 rfl; obtain ⟨c0, c1, c2, c3, c4, c5, c6, c7, c8, c9⟩ := hX.ten 0 rfl))
                  all_goals
                    have hX := hX.fill 2 [.int .i64 o, .bool b, .int .i64 m, .int .i64 r, .int .i64 x0, .int .i64 p, .int .i64 q, .int .i64 0, .int .i64 g, .int .i64 n] rfl (Nat.le_refl _) hlow (by simp; try omega)
                    refine end_at (v := .tuple #[.agg #[.int .i64 o, .bool b, .int .i64 m, .int .i64 r, .int .i64 x0, .int .i64 p, .int .i64 q, .int .i64 0, .int .i64 g, .int .i64 n], .int .i64 2]) hX 2 2 rfl rfl (fun w5 k _ => ?_) rfl ⟨rfl, hX.below⟩
                    have c0 := k.c 0 _ rfl; have c1 := k.c 1 _ rfl; have c2 := k.c 2 _ rfl; have c3 := k.c 3 _ rfl; have c4 := k.c 4 _ rfl; have c5 := k.c 5 _ rfl; have c6 := k.c 6 _ rfl; have c7 := k.c 7 _ rfl; have c8 := k.c 8 _ rfl; have c9 := k.c 9 _ rfl
                    simp [results, Tryz.results25, go_sem, c0, c1, c2, c3, c4, c5, c6, c7, c8, c9]
            · have hN : nR ⟨o, b, m, r, 0, p, q, 0, g, n⟩ = 3 := by unfold nR exS exD; simp only [hS, hD]; rfl
              have hN' : nR (shR w) = 3 := by rw [hs]; exact hN
              rw [hN] at hW
              cases t with
              | nil =>
                rw [dcI_short h0 h1 T.read (by rw [hN']; simp)]
                clear hc
                show Calls _ _ _ _ fun e w' => e = .returned (.tuple #[.agg #[.int .i64 0, .bool false, .int .i64 0, .int .i64 0, .int .i64 0, .int .i64 0, .int .i64 0, .int .i64 0, .int .i64 0, .int .i64 0], .int .i64 0]) ∧ Below W0.heap.size W0 w'
                go_enter Tryz.func25, Tryz.ntmps25
                obtain ⟨b0, b1, b2, b3, b4, b5, b6, b7, b8, b9⟩ := hX.ten 0 rfl; obtain ⟨z0, z1, z2, z3, z4, z5, z6, z7, z8, z9⟩ := hX.tenz 0 rfl
                have s0 := hcs _ hX.below
                have hlow : W0.heap.size ≤ W0.heap.size := Nat.le_refl _
                try have d0 : decide (w < 0) = false := decide_eq_false (by omega)
                try have d1 : decide (65535 < w) = false := decide_eq_false (by omega)
                go_wp2_with (first | (go_at_call 51; with_reducible refine (hr _ hX.frm).mono ?_; rintro _ w' ⟨rfl, hb⟩; have hlowD := (hX.step hb).below.size; have hltD := (hX.step hb |>.at_ 0 rfl).lt; have hX := (hX.step hb).putTwo [.int .i64 o, .bool b, .int .i64 m, .int .i64 r, .int .i64 0, .int .i64 p, .int .i64 q, .int .i64 0, .int .i64 g, .int .i64 n] [.int .i64 e.f, .int .i64 e.l, .int .i64 e.d, .int .i64 e.a, .int .i64 e.e0, .int .i64 e.e1, .int .i64 e.e2, .int .i64 e.e3, .int .i64 e.e4, .int .i64 e.e5] 36 69; clear hb; have s0 := hcs _ hX.below; obtain ⟨b0, b1, b2, b3, b4, b5, b6, b7, b8, b9⟩ := hX.ten 2 rfl; obtain ⟨z0, z1, z2, z3, z4, z5, z6, z7, z8, z9⟩ := hX.tenz 2 rfl; obtain ⟨i0, i1, i2, i3, i4, i5, i6, i7, i8, i9⟩ := hX.ten 1 rfl; obtain ⟨c0, c1, c2, c3, c4, c5, c6, c7, c8, c9⟩ := hX.ten 0 rfl) | (go_at_call 52; with_reducible refine (hW _ hX.frm).mono ?_; rintro _ w' ⟨rfl, hb⟩; have hX := hX.step hb; clear hb; have s0 := hcs _ hX.below; obtain ⟨b0, b1, b2, b3, b4, b5, b6, b7, b8, b9⟩ := hX.ten 2 rfl; obtain ⟨z0, z1, z2, z3, z4, z5, z6, z7, z8, z9⟩ := hX.tenz 2 rfl; obtain ⟨i0, i1, i2, i3, i4, i5, i6, i7, i8, i9⟩ := hX.ten 1 rfl; obtain ⟨c0, c1, c2, c3, c4, c5, c6, c7, c8, c9⟩ := hX.ten 0 rfl))
                have hX := hX.fill 2 [.int .i64 0, .bool false, .int .i64 0, .int .i64 0, .int .i64 0, .int .i64 0, .int .i64 0, .int .i64 0, .int .i64 0, .int .i64 0] rfl (Nat.le_refl _) hlow (by simp; try omega)
                refine end_at (v := .tuple #[.agg #[.int .i64 0, .bool false, .int .i64 0, .int .i64 0, .int .i64 0, .int .i64 0, .int .i64 0, .int .i64 0, .int .i64 0, .int .i64 0], .int .i64 0]) hX 2 2 rfl rfl (fun w5 k _ => ?_) rfl ⟨rfl, hX.below⟩
                have c0 := k.c 0 _ rfl; have c1 := k.c 1 _ rfl; have c2 := k.c 2 _ rfl; have c3 := k.c 3 _ rfl; have c4 := k.c 4 _ rfl; have c5 := k.c 5 _ rfl; have c6 := k.c 6 _ rfl; have c7 := k.c 7 _ rfl; have c8 := k.c 8 _ rfl; have c9 := k.c 9 _ rfl
                simp [results, Tryz.results25, go_sem, c0, c1, c2, c3, c4, c5, c6, c7, c8, c9]
              | cons x0 t =>
                cases t with
                | nil =>
                  rw [dcI_short h0 h1 T.read (by rw [hN']; simp)]
                  clear hc
                  show Calls _ _ _ _ fun e w' => e = .returned (.tuple #[.agg #[.int .i64 0, .bool false, .int .i64 0, .int .i64 0, .int .i64 0, .int .i64 0, .int .i64 0, .int .i64 0, .int .i64 0, .int .i64 0], .int .i64 0]) ∧ Below W0.heap.size W0 w'
                  go_enter Tryz.func25, Tryz.ntmps25
                  obtain ⟨b0, b1, b2, b3, b4, b5, b6, b7, b8, b9⟩ := hX.ten 0 rfl; obtain ⟨z0, z1, z2, z3, z4, z5, z6, z7, z8, z9⟩ := hX.tenz 0 rfl
                  have s0 := hcs _ hX.below
                  have hlow : W0.heap.size ≤ W0.heap.size := Nat.le_refl _
                  try have d0 : decide (w < 0) = false := decide_eq_false (by omega)
                  try have d1 : decide (65535 < w) = false := decide_eq_false (by omega)
                  go_wp2_with (first | (go_at_call 51; with_reducible refine (hr _ hX.frm).mono ?_; rintro _ w' ⟨rfl, hb⟩; have hlowD := (hX.step hb).below.size; have hltD := (hX.step hb |>.at_ 0 rfl).lt; have hX := (hX.step hb).putTwo [.int .i64 o, .bool b, .int .i64 m, .int .i64 r, .int .i64 0, .int .i64 p, .int .i64 q, .int .i64 0, .int .i64 g, .int .i64 n] [.int .i64 e.f, .int .i64 e.l, .int .i64 e.d, .int .i64 e.a, .int .i64 e.e0, .int .i64 e.e1, .int .i64 e.e2, .int .i64 e.e3, .int .i64 e.e4, .int .i64 e.e5] 36 69; clear hb; have s0 := hcs _ hX.below; obtain ⟨b0, b1, b2, b3, b4, b5, b6, b7, b8, b9⟩ := hX.ten 2 rfl; obtain ⟨z0, z1, z2, z3, z4, z5, z6, z7, z8, z9⟩ := hX.tenz 2 rfl; obtain ⟨i0, i1, i2, i3, i4, i5, i6, i7, i8, i9⟩ := hX.ten 1 rfl; obtain ⟨c0, c1, c2, c3, c4, c5, c6, c7, c8, c9⟩ := hX.ten 0 rfl) | (go_at_call 52; with_reducible refine (hW _ hX.frm).mono ?_; rintro _ w' ⟨rfl, hb⟩; have hX := hX.step hb; clear hb; have s0 := hcs _ hX.below; obtain ⟨b0, b1, b2, b3, b4, b5, b6, b7, b8, b9⟩ := hX.ten 2 rfl; obtain ⟨z0, z1, z2, z3, z4, z5, z6, z7, z8, z9⟩ := hX.tenz 2 rfl; obtain ⟨i0, i1, i2, i3, i4, i5, i6, i7, i8, i9⟩ := hX.ten 1 rfl; obtain ⟨c0, c1, c2, c3, c4, c5, c6, c7, c8, c9⟩ := hX.ten 0 rfl))
                  have hX := hX.fill 2 [.int .i64 0, .bool false, .int .i64 0, .int .i64 0, .int .i64 0, .int .i64 0, .int .i64 0, .int .i64 0, .int .i64 0, .int .i64 0] rfl (Nat.le_refl _) hlow (by simp; try omega)
                  refine end_at (v := .tuple #[.agg #[.int .i64 0, .bool false, .int .i64 0, .int .i64 0, .int .i64 0, .int .i64 0, .int .i64 0, .int .i64 0, .int .i64 0, .int .i64 0], .int .i64 0]) hX 2 2 rfl rfl (fun w5 k _ => ?_) rfl ⟨rfl, hX.below⟩
                  have c0 := k.c 0 _ rfl; have c1 := k.c 1 _ rfl; have c2 := k.c 2 _ rfl; have c3 := k.c 3 _ rfl; have c4 := k.c 4 _ rfl; have c5 := k.c 5 _ rfl; have c6 := k.c 6 _ rfl; have c7 := k.c 7 _ rfl; have c8 := k.c 8 _ rfl; have c9 := k.c 9 _ rfl
                  simp [results, Tryz.results25, go_sem, c0, c1, c2, c3, c4, c5, c6, c7, c8, c9]
                | cons y0 t =>
                  have hE : extI (shR w) (x0 :: y0 :: t) = ⟨o, b, m, r, x0, p, q, y0, g, n⟩ := by rw [hs]; unfold extI exS exD; simp [hS, hD]
                  have hvv := fun w' (k : Frm A c w') => valid_row (e := e) o b m r x0 p q y0 g n hF w' k
                  cases hV : vR ⟨o, b, m, r, x0, p, q, y0, g, n⟩ with
                  | false =>
                    rw [dcI_out h0 h1 T.read (by rw [hE]; exact hV)]
                    rw [hV] at hvv
                    obtain ⟨a0, ha0, hw0, hwl0⟩ := hc 1 x0 rfl
                    obtain rfl : a = a0 := Option.some.inj ha0
                    have ht0 : ∀ w', Below W0.heap.size W0 w' → w'.cell? ⟨a.block, a.off + 1, none⟩ = some (.int .i64 x0) := fun w' hb => (hb.cell (p := a.add 1) hwl0).trans hw0
                    obtain ⟨a1, ha1, hw1, hwl1⟩ := hc 2 y0 rfl
                    obtain rfl : a = a1 := Option.some.inj ha1
                    have ht1 : ∀ w', Below W0.heap.size W0 w' → w'.cell? ⟨a.block, a.off + 1 + 1, none⟩ = some (.int .i64 y0) := fun w' hb => (hb.cell (p := a.add 2) hwl1).trans hw1
                    have dA : decide ((t.length : Int) + 1 + 1 + 1 < 3) = false := decide_eq_false (by omega)
                    have cp0 : t.length + 3 ≤ cp := by have hq := hcp; simp only [List.length_cons] at hq; omega
                    have cp1 : ((1 : Nat) : Int) ≤ (cp : Int) := by omega
                    have cp2 : ((3 : Nat) : Int) ≤ (cp : Int) := by omega
                    have cp3 : (1 : Int) ≤ (cp : Int) := by omega
                    have cp4 : (3 : Int) ≤ (cp : Int) := by omega
                    have cp5 : 1 ≤ cp := by omega
                    have cp6 : 3 ≤ cp := by omega
                    have cp7 : cp - 1 ≠ 0 := by omega
                    have cp8 : 1 < cp := by omega
                    clear hc hcp
                    show Calls _ _ _ _ fun e w' => e = .returned (.tuple #[.agg #[.int .i64 0, .bool false, .int .i64 0, .int .i64 0, .int .i64 0, .int .i64 0, .int .i64 0, .int .i64 0, .int .i64 0, .int .i64 0], .int .i64 0]) ∧ Below W0.heap.size W0 w'
                    go_enter Tryz.func25, Tryz.ntmps25
                    obtain ⟨b0, b1, b2, b3, b4, b5, b6, b7, b8, b9⟩ := hX.ten 0 rfl; obtain ⟨z0, z1, z2, z3, z4, z5, z6, z7, z8, z9⟩ := hX.tenz 0 rfl
                    have s0 := hcs _ hX.below
                    have hlow : W0.heap.size ≤ W0.heap.size := Nat.le_refl _
                    try have d0 : decide (w < 0) = false := decide_eq_false (by omega)
                    try have d1 : decide (65535 < w) = false := decide_eq_false (by omega)
                    go_wp2_with (first | (go_at_call 51; with_reducible refine (hr _ hX.frm).mono ?_; rintro _ w' ⟨rfl, hb⟩; have hlowD := (hX.step hb).below.size; have hltD := (hX.step hb |>.at_ 0 rfl).lt; have hX := (hX.step hb).putTwo [.int .i64 o, .bool b, .int .i64 m, .int .i64 r, .int .i64 0, .int .i64 p, .int .i64 q, .int .i64 0, .int .i64 g, .int .i64 n] [.int .i64 e.f, .int .i64 e.l, .int .i64 e.d, .int .i64 e.a, .int .i64 e.e0, .int .i64 e.e1, .int .i64 e.e2, .int .i64 e.e3, .int .i64 e.e4, .int .i64 e.e5] 36 69; clear hb; have s0 := hcs _ hX.below; obtain ⟨b0, b1, b2, b3, b4, b5, b6, b7, b8, b9⟩ := hX.ten 2 rfl; obtain ⟨z0, z1, z2, z3, z4, z5, z6, z7, z8, z9⟩ := hX.tenz 2 rfl; obtain ⟨i0, i1, i2, i3, i4, i5, i6, i7, i8, i9⟩ := hX.ten 1 rfl; obtain ⟨c0, c1, c2, c3, c4, c5, c6, c7, c8, c9⟩ := hX.ten 0 rfl) | (go_at_call 52; with_reducible refine (hW _ hX.frm).mono ?_; rintro _ w' ⟨rfl, hb⟩; have hX := hX.step hb; clear hb; have s0 := hcs _ hX.below; obtain ⟨b0, b1, b2, b3, b4, b5, b6, b7, b8, b9⟩ := hX.ten 2 rfl; obtain ⟨z0, z1, z2, z3, z4, z5, z6, z7, z8, z9⟩ := hX.tenz 2 rfl; obtain ⟨i0, i1, i2, i3, i4, i5, i6, i7, i8, i9⟩ := hX.ten 1 rfl; obtain ⟨c0, c1, c2, c3, c4, c5, c6, c7, c8, c9⟩ := hX.ten 0 rfl) | (go_at_call 53; refine (extend_tt o b m r 0 p q 0 g n hS hD 1 _ W0 rfl hlowD (by simp; omega) _ ⟨a.block, a.off + 1, none⟩ 2 (cp - 1) x0 y0 rfl (by omega) (by omega) (by omega) ht0 ht1 _ hX).mono ?_; rintro _ w' ⟨rfl, hX⟩; obtain ⟨b0, b1, b2, b3, b4, b5, b6, b7, b8, b9⟩ := hX.ten 2 rfl; obtain ⟨z0, z1, z2, z3, z4, z5, z6, z7, z8, z9⟩ := hX.tenz 2 rfl; obtain ⟨i0, i1, i2, i3, i4, i5, i6, i7, i8, i9⟩ := hX.ten 1 rfl; obtain ⟨c0, c1, c2, c3, c4, c5, c6, c7, c8, c9⟩ := hX.ten 0 rfl) | (go_at_call 44; with_reducible refine (hvv _ hX.frm).mono ?_; rintro _ w' ⟨rfl, hb⟩; have hX := hX.step hb; clear hb; obtain ⟨b0, b1, b2, b3, b4, b5, b6, b7, b8, b9⟩ := hX.ten 2 rfl; obtain ⟨z0, z1, z2, z3, z4, z5, z6, z7, z8, z9⟩ := hX.tenz 2 rfl; obtain ⟨i0, i1, i2, i3, i4, i5, i6, i7, i8, i9⟩ := hX.ten 1 rfl; obtain ⟨c0, c1, c2, c3, c4, c5, c6, c7, c8, c9⟩ := hX.ten 0 rfl))
                    all_goals
                      have hX := hX.fill 2 [.int .i64 0, .bool false, .int .i64 0, .int .i64 0, .int .i64 0, .int .i64 0, .int .i64 0, .int .i64 0, .int .i64 0, .int .i64 0] rfl (Nat.le_refl _) hlow (by simp; try omega)
                      refine end_at (v := .tuple #[.agg #[.int .i64 0, .bool false, .int .i64 0, .int .i64 0, .int .i64 0, .int .i64 0, .int .i64 0, .int .i64 0, .int .i64 0, .int .i64 0], .int .i64 0]) hX 2 2 rfl rfl (fun w5 k _ => ?_) rfl ⟨rfl, hX.below⟩
                      have c0 := k.c 0 _ rfl; have c1 := k.c 1 _ rfl; have c2 := k.c 2 _ rfl; have c3 := k.c 3 _ rfl; have c4 := k.c 4 _ rfl; have c5 := k.c 5 _ rfl; have c6 := k.c 6 _ rfl; have c7 := k.c 7 _ rfl; have c8 := k.c 8 _ rfl; have c9 := k.c 9 _ rfl
                      simp [results, Tryz.results25, go_sem, c0, c1, c2, c3, c4, c5, c6, c7, c8, c9]
                  | true =>
                    rw [dcI_in h0 h1 T.read (by rw [hN']; first | omega | (simp only [List.length_cons]; omega)) (by rw [hE]; exact hV), hE, hN']
                    rw [hV] at hvv
                    obtain ⟨a0, ha0, hw0, hwl0⟩ := hc 1 x0 rfl
                    obtain rfl : a = a0 := Option.some.inj ha0
                    have ht0 : ∀ w', Below W0.heap.size W0 w' → w'.cell? ⟨a.block, a.off + 1, none⟩ = some (.int .i64 x0) := fun w' hb => (hb.cell (p := a.add 1) hwl0).trans hw0
                    obtain ⟨a1, ha1, hw1, hwl1⟩ := hc 2 y0 rfl
                    obtain rfl : a = a1 := Option.some.inj ha1
                    have ht1 : ∀ w', Below W0.heap.size W0 w' → w'.cell? ⟨a.block, a.off + 1 + 1, none⟩ = some (.int .i64 y0) := fun w' hb => (hb.cell (p := a.add 2) hwl1).trans hw1
                    have dA : decide ((t.length : Int) + 1 + 1 + 1 < 3) = false := decide_eq_false (by omega)
                    have cp0 : t.length + 3 ≤ cp := by have hq := hcp; simp only [List.length_cons] at hq; omega
                    have cp1 : ((1 : Nat) : Int) ≤ (cp : Int) := by omega
                    have cp2 : ((3 : Nat) : Int) ≤ (cp : Int) := by omega
                    have cp3 : (1 : Int) ≤ (cp : Int) := by omega
                    have cp4 : (3 : Int) ≤ (cp : Int) := by omega
                    have cp5 : 1 ≤ cp := by omega
                    have cp6 : 3 ≤ cp := by omega
                    have cp7 : cp - 1 ≠ 0 := by omega
                    have cp8 : 1 < cp := by omega
                    clear hc hcp
                    show Calls _ _ _ _ fun e w' => e = .returned (.tuple #[.agg #[.int .i64 o, .bool b, .int .i64 m, .int .i64 r, .int .i64 x0, .int .i64 p, .int .i64 q, .int .i64 y0, .int .i64 g, .int .i64 n], .int .i64 3]) ∧ Below W0.heap.size W0 w'
                    go_enter Tryz.func25, Tryz.ntmps25
                    obtain ⟨b0, b1, b2, b3, b4, b5, b6, b7, b8, b9⟩ := hX.ten 0 rfl; obtain ⟨z0, z1, z2, z3, z4, z5, z6, z7, z8, z9⟩ := hX.tenz 0 rfl
                    have s0 := hcs _ hX.below
                    have hlow : W0.heap.size ≤ W0.heap.size := Nat.le_refl _
                    try have d0 : decide (w < 0) = false := decide_eq_false (by omega)
                    try have d1 : decide (65535 < w) = false := decide_eq_false (by omega)
                    go_wp2_with (first | (go_at_call 51; with_reducible refine (hr _ hX.frm).mono ?_; rintro _ w' ⟨rfl, hb⟩; have hlowD := (hX.step hb).below.size; have hltD := (hX.step hb |>.at_ 0 rfl).lt; have hX := (hX.step hb).putTwo [.int .i64 o, .bool b, .int .i64 m, .int .i64 r, .int .i64 0, .int .i64 p, .int .i64 q, .int .i64 0, .int .i64 g, .int .i64 n] [.int .i64 e.f, .int .i64 e.l, .int .i64 e.d, .int .i64 e.a, .int .i64 e.e0, .int .i64 e.e1, .int .i64 e.e2, .int .i64 e.e3, .int .i64 e.e4, .int .i64 e.e5] 36 69; clear hb; have s0 := hcs _ hX.below; obtain ⟨b0, b1, b2, b3, b4, b5, b6, b7, b8, b9⟩ := hX.ten 2 rfl; obtain ⟨z0, z1, z2, z3, z4, z5, z6, z7, z8, z9⟩ := hX.tenz 2 rfl; obtain ⟨i0, i1, i2, i3, i4, i5, i6, i7, i8, i9⟩ := hX.ten 1 rfl; obtain ⟨c0, c1, c2, c3, c4, c5, c6, c7, c8, c9⟩ := hX.ten 0 rfl) | (go_at_call 52; with_reducible refine (hW _ hX.frm).mono ?_; rintro _ w' ⟨rfl, hb⟩; have hX := hX.step hb; clear hb; have s0 := hcs _ hX.below; obtain ⟨b0, b1, b2, b3, b4, b5, b6, b7, b8, b9⟩ := hX.ten 2 rfl; obtain ⟨z0, z1, z2, z3, z4, z5, z6, z7, z8, z9⟩ := hX.tenz 2 rfl; obtain ⟨i0, i1, i2, i3, i4, i5, i6, i7, i8, i9⟩ := hX.ten 1 rfl; obtain ⟨c0, c1, c2, c3, c4, c5, c6, c7, c8, c9⟩ := hX.ten 0 rfl) | (go_at_call 53; refine (extend_tt o b m r 0 p q 0 g n hS hD 1 _ W0 rfl hlowD (by simp; omega) _ ⟨a.block, a.off + 1, none⟩ 2 (cp - 1) x0 y0 rfl (by omega) (by omega) (by omega) ht0 ht1 _ hX).mono ?_; rintro _ w' ⟨rfl, hX⟩; obtain ⟨b0, b1, b2, b3, b4, b5, b6, b7, b8, b9⟩ := hX.ten 2 rfl; obtain ⟨z0, z1, z2, z3, z4, z5, z6, z7, z8, z9⟩ := hX.tenz 2 rfl; obtain ⟨i0, i1, i2, i3, i4, i5, i6, i7, i8, i9⟩ := hX.ten 1 rfl; obtain ⟨c0, c1, c2, c3, c4, c5, c6, c7, c8, c9⟩ := hX.ten 0 rfl) | (go_at_call 44; with_reducible refine (hvv _ hX.frm).mono ?_; rintro _ w' ⟨rfl, hb⟩; have hX := hX.step hb; clear hb; obtain ⟨b0, b1, b2, b3, b4, b5, b6, b7, b8, b9⟩ := hX.ten 2 rfl; obtain ⟨z0, z1, z2, z3, z4, z5, z6, z7, z8, z9⟩ := hX.tenz 2 rfl; obtain ⟨i0, i1, i2, i3, i4, i5, i6, i7, i8, i9⟩ := hX.ten 1 rfl; obtain ⟨c0, c1, c2, c3, c4, c5, c6, c7, c8, c9⟩ := hX.ten 0 rfl))
                    all_goals
                      have hX := hX.fill 2 [.int .i64 o, .bool b, .int .i64 m, .int .i64 r, .int .i64 x0, .int .i64 p, .int .i64 q, .int .i64 y0, .int .i64 g, .int .i64 n] rfl (Nat.le_refl _) hlow (by simp; try omega)
                      refine end_at (v := .tuple #[.agg #[.int .i64 o, .bool b, .int .i64 m, .int .i64 r, .int .i64 x0, .int .i64 p, .int .i64 q, .int .i64 y0, .int .i64 g, .int .i64 n], .int .i64 3]) hX 2 2 rfl rfl (fun w5 k _ => ?_) rfl ⟨rfl, hX.below⟩
                      have c0 := k.c 0 _ rfl; have c1 := k.c 1 _ rfl; have c2 := k.c 2 _ rfl; have c3 := k.c 3 _ rfl; have c4 := k.c 4 _ rfl; have c5 := k.c 5 _ rfl; have c6 := k.c 6 _ rfl; have c7 := k.c 7 _ rfl; have c8 := k.c 8 _ rfl; have c9 := k.c 9 _ rfl
                      simp [results, Tryz.results25, go_sem, c0, c1, c2, c3, c4, c5, c6, c7, c8, c9]
        · rw [dcI_none h0 h1 hn]
          clear hc
          have hr := fun w' (k : Frm A c w') => read_none w h0 h1 hn w' k
          show Calls _ _ _ _ fun e w' => e = .returned (.tuple #[.agg #[.int .i64 0, .bool false, .int .i64 0, .int .i64 0, .int .i64 0, .int .i64 0, .int .i64 0, .int .i64 0, .int .i64 0, .int .i64 0], .int .i64 0]) ∧ Below W0.heap.size W0 w'
          go_enter Tryz.func25, Tryz.ntmps25
          obtain ⟨b0, b1, b2, b3, b4, b5, b6, b7, b8, b9⟩ := hX.ten 0 rfl; obtain ⟨z0, z1, z2, z3, z4, z5, z6, z7, z8, z9⟩ := hX.tenz 0 rfl
          have s0 := hcs _ hX.below
          have hlow : W0.heap.size ≤ W0.heap.size := Nat.le_refl _
          try have d0 : decide (w < 0) = false := decide_eq_false (by omega)
          try have d1 : decide (65535 < w) = false := decide_eq_false (by omega)
          go_wp2_with (first | (go_at_call 51; with_reducible refine (hr _ hX.frm).mono ?_; rintro _ w' ⟨rfl, hb⟩; have hX := hX.step hb; have hltD := (hX.at_ 0 rfl).lt; clear hb; obtain ⟨b0, b1, b2, b3, b4, b5, b6, b7, b8, b9⟩ := hX.ten 0 rfl; obtain ⟨z0, z1, z2, z3, z4, z5, z6, z7, z8, z9⟩ := hX.tenz 0 rfl))
          have hX := (hX.fill 0 [.int .i64 0, .bool false, .int .i64 0, .int .i64 0, .int .i64 0, .int .i64 0, .int .i64 0, .int .i64 0, .int .i64 0, .int .i64 0] rfl (Nat.le_refl _) hlow (by simp)).putTwo [.int .i64 0, .bool false, .int .i64 0, .int .i64 0, .int .i64 0, .int .i64 0, .int .i64 0, .int .i64 0, .int .i64 0, .int .i64 0] [.int .i64 0, .int .i64 0, .int .i64 0, .int .i64 0, .int .i64 0, .int .i64 0, .int .i64 0, .int .i64 0, .int .i64 0, .int .i64 0] 36 69
          refine end_at (v := .tuple #[.agg #[.int .i64 0, .bool false, .int .i64 0, .int .i64 0, .int .i64 0, .int .i64 0, .int .i64 0, .int .i64 0, .int .i64 0, .int .i64 0], .int .i64 0]) hX 2 2 rfl rfl (fun w5 k _ => ?_) rfl ⟨rfl, hX.below⟩
          have c0 := k.c 0 _ rfl; have c1 := k.c 1 _ rfl; have c2 := k.c 2 _ rfl; have c3 := k.c 3 _ rfl; have c4 := k.c 4 _ rfl; have c5 := k.c 5 _ rfl; have c6 := k.c 6 _ rfl; have c7 := k.c 7 _ rfl; have c8 := k.c 8 _ rfl; have c9 := k.c 9 _ rfl
          simp [results, Tryz.results25, go_sem, c0, c1, c2, c3, c4, c5, c6, c7, c8, c9]
      · rw [dcI_bad (fun k => h1 k.2)]
        clear hc
        show Calls _ _ _ _ fun e w' => e = .returned (.tuple #[.agg #[.int .i64 0, .bool false, .int .i64 0, .int .i64 0, .int .i64 0, .int .i64 0, .int .i64 0, .int .i64 0, .int .i64 0, .int .i64 0], .int .i64 0]) ∧ Below W0.heap.size W0 w'
        go_enter Tryz.func25, Tryz.ntmps25
        obtain ⟨b0, b1, b2, b3, b4, b5, b6, b7, b8, b9⟩ := hX.ten 0 rfl; obtain ⟨z0, z1, z2, z3, z4, z5, z6, z7, z8, z9⟩ := hX.tenz 0 rfl
        have s0 := hcs _ hX.below
        have hlow : W0.heap.size ≤ W0.heap.size := Nat.le_refl _
        try have d0 : decide (w < 0) = false := decide_eq_false (by omega)
        try have d1 : decide (65535 < w) = false := decide_eq_false (by omega)
        go_wp2
        skip
        refine end_at (v := .tuple #[.agg #[.int .i64 0, .bool false, .int .i64 0, .int .i64 0, .int .i64 0, .int .i64 0, .int .i64 0, .int .i64 0, .int .i64 0, .int .i64 0], .int .i64 0]) hX 0 0 rfl rfl (fun w5 k _ => ?_) rfl ⟨rfl, hX.below⟩
        have c0 := k.c 0 _ rfl; have c1 := k.c 1 _ rfl; have c2 := k.c 2 _ rfl; have c3 := k.c 3 _ rfl; have c4 := k.c 4 _ rfl; have c5 := k.c 5 _ rfl; have c6 := k.c 6 _ rfl; have c7 := k.c 7 _ rfl; have c8 := k.c 8 _ rfl; have c9 := k.c 9 _ rfl
        simp [results, Tryz.results25, go_sem, c0, c1, c2, c3, c4, c5, c6, c7, c8, c9]
    · rw [dcI_bad (fun k => h0 k.1)]
      clear hc
      show Calls _ _ _ _ fun e w' => e = .returned (.tuple #[.agg #[.int .i64 0, .bool false, .int .i64 0, .int .i64 0, .int .i64 0, .int .i64 0, .int .i64 0, .int .i64 0, .int .i64 0, .int .i64 0], .int .i64 0]) ∧ Below W0.heap.size W0 w'
      go_enter Tryz.func25, Tryz.ntmps25
      obtain ⟨b0, b1, b2, b3, b4, b5, b6, b7, b8, b9⟩ := hX.ten 0 rfl; obtain ⟨z0, z1, z2, z3, z4, z5, z6, z7, z8, z9⟩ := hX.tenz 0 rfl
      have s0 := hcs _ hX.below
      have hlow : W0.heap.size ≤ W0.heap.size := Nat.le_refl _
      try have d0 : decide (w < 0) = false := decide_eq_false (by omega)
      try have d1 : decide (65535 < w) = false := decide_eq_false (by omega)
      go_wp2
      skip
      refine end_at (v := .tuple #[.agg #[.int .i64 0, .bool false, .int .i64 0, .int .i64 0, .int .i64 0, .int .i64 0, .int .i64 0, .int .i64 0, .int .i64 0, .int .i64 0], .int .i64 0]) hX 0 0 rfl rfl (fun w5 k _ => ?_) rfl ⟨rfl, hX.below⟩
      have c0 := k.c 0 _ rfl; have c1 := k.c 1 _ rfl; have c2 := k.c 2 _ rfl; have c3 := k.c 3 _ rfl; have c4 := k.c 4 _ rfl; have c5 := k.c 5 _ rfl; have c6 := k.c 6 _ rfl; have c7 := k.c 7 _ rfl; have c8 := k.c 8 _ rfl; have c9 := k.c 9 _ rfl
      simp [results, Tryz.results25, go_sem, c0, c1, c2, c3, c4, c5, c6, c7, c8, c9]

end Go.Proofs.YtdbbnkjnmldnpaaGreatDoor
