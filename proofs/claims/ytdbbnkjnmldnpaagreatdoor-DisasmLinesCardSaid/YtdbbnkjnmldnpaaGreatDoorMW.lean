import Derived.Test.YtdbbnkjnmldnpaaGreatDoorDwU
import Derived.Test.YtdbbnkjnmldnpaaGreatDoorDwV
import Derived.Test.YtdbbnkjnmldnpaaGreatDoorDwN
import Derived.Test.YtdbbnkjnmldnpaaGreatDoorInY
import Derived.Test.YtdbbnkjnmldnpaaGreatDoorMQ
import Derived.Deep.Quiet
/-
  Walks over Text of the reference of package disasm: all operations. Condition: the tables read as the program's text lays them.
-/
namespace Go.Proofs.YtdbbnkjnmldnpaaGreatDoor
open Go.RowKit
set_option linter.unusedSimpArgs false
set_option linter.unusedVariables false
set_option maxHeartbeats 40000000
set_option maxRecDepth 100000
attribute [local irreducible] wpQuiet

theorem rtext_any (o : Int) (b : Bool) (m r x p q y g n a : Int) {A : Addr} {c : Nat} (W0 : World) (W : Frm A c W0) (T : Tab 6 mns W0) (T1 : Tab 1 clr W0) (T2 : Tab 2 sts W0) (T3 : Tab 3 rgs W0) :
    Calls Tryz.prog 14 #[.agg #[.int .i64 o, .bool b, .int .i64 m, .int .i64 r, .int .i64 x, .int .i64 p, .int .i64 q, .int .i64 y, .int .i64 g, .int .i64 n], .int .i64 a] W0 fun e w' => e = .returned (.string ⟨(txT ⟨o, b, m, r, x, p, q, y, g, n⟩ a).toArray⟩) ∧ Below W0.heap.size W0 w' := by
  cases hV : vR ⟨o, b, m, r, x, p, q, y, g, n⟩ with
  | false => exact rtext_bad o b m r x p q y g n a hV W0 W
  | true =>
    have ho := (vR_rng hV).1
    rcases (by omega : (1 ≤ o ∧ o ≤ 7) ∨ (8 ≤ o ∧ o ≤ 10) ∨ (12 ≤ o ∧ o ≤ 25) ∨ (26 ≤ o ∧ o ≤ 40) ∨ (47 ≤ o ∧ o ≤ 52) ∨ o = 11 ∨ o = 41 ∨ o = 42 ∨ o = 43 ∨ o = 44 ∨ o = 45 ∨ o = 46 ∨ o = 53 ∨ o = 54 ∨ o = 55 ∨ o = 56) with ⟨h1, h2⟩ | ⟨h1, h2⟩ | ⟨h1, h2⟩ | ⟨h1, h2⟩ | ⟨h1, h2⟩ | rfl | rfl | rfl | rfl | rfl | rfl | rfl | rfl | rfl | rfl | rfl
    · exact rtext_a o b m r x p q y g n a h1 h2 hV W0 W T T3
    · exact rtext_b o b m r x p q y g n a h1 h2 hV W0 W T T3
    · exact rtext_d o b m r x p q y g n a h1 h2 hV W0 W T T3
    · exact rtext_g o b m r x p q y g n a h1 h2 hV W0 W T T3
    · exact rtext_j o b m r x p q y g n a h1 h2 hV W0 W T T3
    · exact rtext_11 b m r x p q y g n a hV W0 W T T3
    · exact rtext_41 b m r x p q y g n a hV W0 W T T3
    · exact rtext_42 b m r x p q y g n a hV W0 W T T3
    · exact rtext_43 b m r x p q y g n a hV W0 W T T3
    · exact rtext_44 b m r x p q y g n a hV W0 W T T3
    · exact rtext_45 b m r x p q y g n a hV W0 W T T3
    · exact rtext_46 b m r x p q y g n a hV W0 W T T3
    · exact rtext_53 b m r x p q y g n a hV W0 W T T1 T2
    · exact rtext_54 b m r x p q y g n a hV W0 W T T1 T2
    · exact rtext_55 b m r x p q y g n a hV W0 W T T3
    · exact rtext_56 b m r x p q y g n a hV W0 W T T3

end Go.Proofs.YtdbbnkjnmldnpaaGreatDoor

/-
  Walk over Lines of the reference of package disasm. Condition: the tables read as the program's text lays them.
-/
namespace Go.Proofs.YtdbbnkjnmldnpaaGreatDoor
open Go.RowKit
set_option linter.unusedSimpArgs false
set_option linter.unusedVariables false
set_option maxHeartbeats 40000000
set_option maxRecDepth 100000
attribute [local irreducible] wpQuiet

theorem ln_next (l : List Int) (k n : Nat) (a : Int) : lnT ((l.drop k).drop n).length ((l.drop k).drop n) (wrap64 (a + 2 * (k : Int) + (n : Int) * 2)) = lnT (l.drop (k + n)).length (l.drop (k + n)) (a + 2 * ((k + n : Nat) : Int)) := by
  rw [List.drop_drop]
  exact lnT_mod _ _ (by have := wrap_mod (a + 2 * (k : Int) + (n : Int) * 2); omega)
theorem rlines_any (l : List Int) (v : Value) (a : Int) (hl : l.length ≤ 4294967296) {A : Addr} {c : Nat} (W0 : World) (W : Frm A c W0) (T : Tab 6 mns W0) (T1 : Tab 1 clr W0) (T2 : Tab 2 sts W0) (T3 : Tab 3 rgs W0) (hv : Nums .i64 W0 v l) :
    Calls Tryz.prog 6 #[v, .int .i64 a] W0 fun e w' => ∃ u, e = .returned u ∧ Txt w' u (lnT l.length l a) ∧ Below W0.heap.size W0 w' := by
  obtain ⟨TI, hi, hz0, hz1, hz2⟩ := info_parts infoS
  have hv0 := hv
  obtain ⟨A1, c1, rfl, hc1, hcell⟩ := hv0
  have hA := a65535 a
  have hA1 : 0 ≤ a % 65536 := by omega
  have hA2 : a % 65536 < 65536 := by omega
  go_enter Tryz.func6, Tryz.ntmps6
  go_wp2
  go_loopw [5, 6] (fun q p wr => ∃ (k : Nat) (out : List (List UInt8)), k ≤ l.length ∧ p = .int .i64 k ∧ wr.ownsRow W0.heap.size 9 1 q out.length (out.map strV) ∧ Below W0.heap.size W0 wr ∧ out.length ≤ k ∧ Hid (out ++ lnT (l.drop k).length (l.drop k) (a + 2 * k) = lnT l.length l a))
    (fun _ p _ => l.length - (intOf p).toNat)
  case atStart => exact ⟨0, [], by omega, rfl, World.ownsRow_nil _ _ _ _, Below.refl _ _, by simp, by unfold Hid; simp⟩
  case round =>
    obtain ⟨k, out, hk, rfl, hown, hbr, hlen, HS⟩ := hrel
    by_cases hne : k < l.length
    · obtain ⟨a1, c2, hvv, hc2⟩ := hv.head (by omega)
      obtain ⟨rfl, -, rfl⟩ : A1 = some a1 ∧ l.length = l.length ∧ c1 = c2 := by cases hvv; exact ⟨rfl, rfl, rfl⟩
      clear hvv
      have hki : (k : Int) < (l.length : Int) := by omega
      have hck : ¬ c1 = k := by omega
      have hcut := hv.cut k (by omega)
      rw [if_neg hck] at hcut
      obtain ⟨a0, ha0, hx, hxl⟩ := hcell k _ (List.getElem?_eq_getElem hne)
      cases ha0
      obtain ⟨t, hdk⟩ : ∃ t, l.drop k = l[k] :: t := ⟨_, List.drop_eq_getElem_cons hne⟩
      have hdl : (l.drop k).length = l.length - k := List.length_drop
      have hr := fsT_rng (l.drop k) (a + 2 * k) (by omega)
      have hfl := fsT_len (l.drop k) (a + 2 * k)
      have H : out ++ lnT (l.drop k).length (l.drop k) (a + 2 * k) = lnT l.length l a := HS
      rw [lnT_step (l.drop k) (a + 2 * k) (by omega), ln_next] at H
      have ef : fsT (l.drop k) (a + 2 * k) = if (dcI (l.drop k)).2 = 0 then ([46, 119, 111, 114, 100, 32, 48, 111] ++ adT l[k], 1) else (txT (dcI (l.drop k)).1 (a + 2 * k), (dcI (l.drop k)).2.toNat) := by
        unfold fsT; rw [hdk]; rfl
      have hD := fun w W h => rDecode_any (l.drop k) (.slice (some (a1.add k)) (l.length - k) (c1 - k)) (by omega) (A := A) (c := c) w W h
      have hrg := dc_rng (l.drop k)
      obtain ⟨UA, hUA⟩ : ∃ U : Nat, (a % 65536 + 2 * (k : Int)) % 65536 = (U : Int) := ⟨((a % 65536 + 2 * (k : Int)) % 65536).toNat, by omega⟩
      have hUA1 : UA < 65536 := by omega
      have hAA := a65535 (a % 65536 + 2 * (k : Int))
      rw [hUA] at hAA
      have hp2 := fun w => rpad_8 UA hUA1 w
      have ead : adT (a + 2 * k) = pd6 UA := by unfold adT; congr 1; omega
      have hal := adT_len (a + 2 * k)
      rw [ead] at hal H
      have hs2 := tx_size (pd6 UA)
      generalize hdcg : dcI (l.drop k) = DC at *
      obtain ⟨⟨o, b, m, r, x, p, q, y, g, n⟩, N⟩ := DC
      simp only at ef hrg
      replace hD : ∀ w, Frm A c w → Nums .i64 w (.slice (some (a1.add k)) (l.length - k) (c1 - k)) (l.drop k) → Calls Tryz.prog 13 #[.slice (some (a1.add k)) (l.length - k) (c1 - k)] w fun e w' => e = .returned (.tuple #[.agg #[.int .i64 o, .bool b, .int .i64 m, .int .i64 r, .int .i64 x, .int .i64 p, .int .i64 q, .int .i64 y, .int .i64 g, .int .i64 n], .int .i64 N]) ∧ Below w.heap.size w w' := hD
      have ht := fun w (W : Frm A c w) t t1 t2 t3 => rtext_any o b m r x p q y g n (UA : Int) w W t t1 t2 t3
      rw [txT_mod ⟨o, b, m, r, x, p, q, y, g, n⟩ (show (UA : Int) % 65536 = (a + 2 * k) % 65536 by omega)] at ht
      have hlt := fun (h : N ≠ 0) => show (txT ⟨o, b, m, r, x, p, q, y, g, n⟩ (a + 2 * k)).length ≤ 1000 by rw [ef, if_neg h] at hfl; simp only at hfl; omega
      have hs3 := tx_size (txT ⟨o, b, m, r, x, p, q, y, g, n⟩ (a + 2 * k))
      have hrk : k + (fsT (l.drop k) (a + 2 * k)).2 ≤ l.length := by omega
      have hr1 := hr.1
      clear hr hdk hdl hdcg HS hcell hv
      by_cases hN : N = 0
      · subst hN
        rw [if_pos rfl] at ef
        rw [ef] at H hrk hfl
        have hx65 := a65535 l[k]
        obtain ⟨U1, hU1⟩ : ∃ U : Nat, l[k] % 65536 = (U : Int) := ⟨(l[k] % 65536).toNat, by omega⟩
        rw [hU1] at hx65
        have hp1 := fun w => rpad_8 U1 (by omega) w
        have ead1 : adT l[k] = pd6 U1 := by unfold adT; rw [hU1]; rfl
        have hal1 := adT_len l[k]
        rw [ead1] at H hal1
        have hs1 := tx_size (pd6 U1)
        have HQ : Hid (out ++ (pd6 UA ++ 32 :: ([46, 119, 111, 114, 100, 32, 48, 111] ++ pd6 U1)) :: lnT (l.drop (k + 1)).length (l.drop (k + 1)) (a + 2 * ((k + 1 : Nat) : Int)) = lnT l.length l a) := H
        clear H ef hlt hfl ead ead1 hrg hr1
        generalize pd6 UA = D6 at *
        generalize pd6 U1 = D1 at *
        generalize txT ⟨o, b, m, r, x, p, q, y, g, n⟩ (a + 2 * k) = TX at *
        go_wp2_with (first | (go_at_call 13; with_reducible refine (hD _ (W.step hbr) (hcut.below hbr)).mono ?_; rintro _ w1 ⟨rfl, hb⟩; have hown := own_step hown hb; have hbr := hbr.trans (hb.mono hbr.size); clear hb; have hX := (St.start (W.step hbr)).put [.int .i64 o, .bool b, .int .i64 m, .int .i64 r, .int .i64 x, .int .i64 p, .int .i64 q, .int .i64 y, .int .i64 g, .int .i64 n] 36; obtain ⟨i0, i1, i2, i3, i4, i5, i6, i7, i8, i9⟩ := hX.ten 0 rfl) | (go_at_call 14; with_reducible refine (ht _ hX.frm (T.step (hbr.trans (hX.below.mono hbr.size))) (T1.step (hbr.trans (hX.below.mono hbr.size))) (T2.step (hbr.trans (hX.below.mono hbr.size))) (T3.step (hbr.trans (hX.below.mono hbr.size)))).mono ?_; rintro e w2 ⟨rfl, hb⟩; have hX := hX.step hb; have hown := own_step hown hX.below; have hbr := hbr.trans (hX.below.mono hbr.size); have hxk : _ = _ := (hbr.cell hxl).trans hx; clear hb) | (go_at_call 15; with_reducible refine (hp1 _).mono ?_; rintro e w3 ⟨rfl, hb⟩; have hown := own_step hown hb; have hbr := hbr.trans (hb.mono hbr.size); clear hb) | (go_at_call 15; with_reducible refine (hp2 _).mono ?_; rintro e w4 ⟨rfl, hb⟩; have hown := own_step hown hb; have hbr := hbr.trans (hb.mono hbr.size); clear hb) | (at_builtin; refine wpList_append_own _ rfl (.tmp 40) (.tmp 46) 24 rfl W0.heap.size 9 TI (.string ⟨#[]⟩) 1 16 Tryz.underlying24 hi hz0 hz1 hz2 rfl (by decide) _ _ _ rfl (hown.alloc _) ⟨w4.heap.size, 0, none⟩ 1 1 [.string ⟨(D6 ++ 32 :: ([46, 119, 111, 114, 100, 32, 48, 111] ++ D1)).toArray⟩] rfl rfl (by have h := cell_one_new w4 (.string ⟨(D6 ++ 32 :: ([46, 119, 111, 114, 100, 32, 48, 111] ++ D1)).toArray⟩) 9; simpa [ba_app] using h) (fun x hx => by simp at hx; subst hx; rfl) (by unfold maxLen; omega) (by omega) (by have := hbr.size; simp; omega) ?_; intro v' w5 hown' hgrow _))
        rw [strV_snoc] at hown'
        refine ⟨⟨k + 1, out ++ [D6 ++ 32 :: ([46, 119, 111, 114, 100, 32, 48, 111] ++ D1)], by omega, by go_num, ?_, (hbr.alloc hbr.size _).grown hgrow (by have := hbr.size; simp; omega) (fun j hj => (hown.lt j hj).1), ?_, ?_⟩, ?_⟩
        · rw [List.length_append]; exact hown'
        · rw [List.length_append]; simp only [List.length_cons, List.length_nil]; omega
        · unfold Hid at HQ ⊢
          rw [← HQ]; simp
        · simp [intOf]; omega
      · obtain ⟨K, rfl⟩ : ∃ K : Nat, N = (K : Int) := ⟨N.toNat, by omega⟩
        rw [if_neg hN] at ef
        rw [ef] at H hrk
        have hl1 := hlt hN
        have hKn : ((K : Int) == 0) = false := beq_eq_false_iff_ne.2 hN
        simp only [Int.toNat_natCast] at H hrk
        have HQ : Hid (out ++ (pd6 UA ++ 32 :: txT ⟨o, b, m, r, x, p, q, y, g, n⟩ (a + 2 * k)) :: lnT (l.drop (k + K)).length (l.drop (k + K)) (a + 2 * ((k + K : Nat) : Int)) = lnT l.length l a) := H
        clear H ef hlt hfl ead hr1
        have hK3 : K ≤ 3 := by omega
        have hK1 : 1 ≤ K := by omega
        generalize pd6 UA = D6 at *
        generalize txT ⟨o, b, m, r, x, p, q, y, g, n⟩ (a + 2 * k) = F at *
        go_wp2_with (first | (go_at_call 13; with_reducible refine (hD _ (W.step hbr) (hcut.below hbr)).mono ?_; rintro _ w1 ⟨rfl, hb⟩; have hown := own_step hown hb; have hbr := hbr.trans (hb.mono hbr.size); clear hb; have hX := (St.start (W.step hbr)).put [.int .i64 o, .bool b, .int .i64 m, .int .i64 r, .int .i64 x, .int .i64 p, .int .i64 q, .int .i64 y, .int .i64 g, .int .i64 n] 36; obtain ⟨i0, i1, i2, i3, i4, i5, i6, i7, i8, i9⟩ := hX.ten 0 rfl) | (go_at_call 14; with_reducible refine (ht _ hX.frm (T.step (hbr.trans (hX.below.mono hbr.size))) (T1.step (hbr.trans (hX.below.mono hbr.size))) (T2.step (hbr.trans (hX.below.mono hbr.size))) (T3.step (hbr.trans (hX.below.mono hbr.size)))).mono ?_; rintro e w2 ⟨rfl, hb⟩; have hX := hX.step hb; have hown := own_step hown hX.below; have hbr := hbr.trans (hX.below.mono hbr.size); have hxk : _ = _ := (hbr.cell hxl).trans hx; clear hb) | (go_at_call 15; with_reducible refine (hp2 _).mono ?_; rintro e w4 ⟨rfl, hb⟩; have hown := own_step hown hb; have hbr := hbr.trans (hb.mono hbr.size); clear hb) | (at_builtin; refine wpList_append_own _ rfl (.tmp 40) (.tmp 46) 24 rfl W0.heap.size 9 TI (.string ⟨#[]⟩) 1 16 Tryz.underlying24 hi hz0 hz1 hz2 rfl (by decide) _ _ _ rfl (hown.alloc _) ⟨w4.heap.size, 0, none⟩ 1 1 [.string ⟨(D6 ++ 32 :: F).toArray⟩] rfl rfl (by have h := cell_one_new w4 (.string ⟨(D6 ++ 32 :: F).toArray⟩) 9; simpa [ba_app] using h) (fun x hx => by simp at hx; subst hx; rfl) (by unfold maxLen; omega) (by omega) (by have := hbr.size; simp; omega) ?_; intro v' w5 hown' hgrow _))
        rw [strV_snoc] at hown'
        refine ⟨⟨k + K, out ++ [D6 ++ 32 :: F], by omega, by go_num, ?_, (hbr.alloc hbr.size _).grown hgrow (by have := hbr.size; simp; omega) (fun j hj => (hown.lt j hj).1), ?_, ?_⟩, ?_⟩
        · rw [List.length_append]; exact hown'
        · rw [List.length_append]; simp only [List.length_cons, List.length_nil]; omega
        · unfold Hid at HQ ⊢
          rw [← HQ]; simp
        · simp [intOf]; omega
    · have e : k = l.length := by omega
      have hki : ¬ (k : Int) < (l.length : Int) := by omega
      have HQ : Hid (out = lnT l.length l a) := by
        have H : out ++ lnT (l.drop k).length (l.drop k) (a + 2 * k) = lnT l.length l a := HS
        rw [e] at H
        unfold Hid
        simpa [lnT] using H
      have hT := Txt.of_own hown
      clear HS hv hown
      go_wp2
      go_ret
      unfold Hid at HQ
      rw [← HQ]
      exact ⟨_, rfl, hT, hbr⟩

end Go.Proofs.YtdbbnkjnmldnpaaGreatDoor

/-
  Walk over the statement DisasmLines: whatever the input, it answers true. Condition: the tables read as the program's text lays them.
-/
namespace Go.Proofs.YtdbbnkjnmldnpaaGreatDoor
open Go.RowKit
set_option linter.unusedSimpArgs false
set_option linter.unusedVariables false
set_option maxHeartbeats 40000000
set_option maxRecDepth 100000
attribute [local irreducible] wpQuiet

theorem drewN_below {B : Nat} {a w : World} (h : Below B a w) (q : Nat) : Below B a (w.drewN q) := ⟨h.os, h.tape, h.output, h.size, h.block⟩
theorem ln_len : ∀ (k : Nat) (l : List Int) (a : Int), (lnT k l a).length ≤ l.length
  | 0, l, a => by simp [lnT]
  | k + 1, l, a => by
    unfold lnT
    split
    · simp
    · have hr := fsT_rng l a (by omega)
      have := ln_len k (l.drop (fsT l a).2) (a + 2 * (fsT l a).2)
      rw [List.length_drop] at this
      simp only [List.length_cons]
      omega
theorem Txt.sl {w : World} {v : Value} {l : List (List UInt8)} (h : Txt w v l) : ∃ g c, v = .slice g l.length c := by
  obtain ⟨A, c, rfl, _⟩ := h
  exact ⟨A, c, rfl⟩
theorem Txt.nz {w : World} {v : Value} {l : List (List UInt8)} (h : Txt w v l) (hl : 0 < l.length) : ∃ g c, v = .slice (some ⟨g, 0, none⟩) l.length c ∧ g < w.heap.size ∧ ∀ j x, l[j]? = some x → w.cell? ⟨g, j, none⟩ = some (.string ⟨x.toArray⟩) := by
  obtain ⟨A, c, rfl, hc⟩ := h
  obtain ⟨g, rfl, hg, _⟩ := hc 0 l[0] (List.getElem?_eq_getElem hl)
  refine ⟨g, c, rfl, hg, fun j x hx => ?_⟩
  obtain ⟨g', h1, _, h2⟩ := hc j x hx
  cases h1
  exact h2
theorem lines_law (l : List Int) (v : Value) (a : Int) {A : Addr} {c : Nat} (W0 : World) (W : Dis A c W0) (T : Tab 6 mns W0) (T1 : Tab 1 clr W0) (T2 : Tab 2 sts W0) (T3 : Tab 3 rgs W0) (hn : Nums .i64 W0 v l) (hm : l.length ≤ maxLen) :
    Calls Tryz.prog 3 #[v, .int .i64 a] W0 fun e w' => e = .returned (.bool true) ∧ Below W0.heap.size W0 w' := by
  have hb0 := Below.refl W0.heap.size W0
  have h3 := fun w (D : Dis A c w) => alive_any w D
  have hv0 := hn
  obtain ⟨aL, cL, rfl, _, _⟩ := hv0
  by_cases hbig : 100 < l.length
  · have hbi : (100 : Int) < (l.length : Int) := by omega
    go_enter Tryz.func3, Tryz.ntmps3
    go_wp2_with (first | (go_at_call 4; with_reducible refine (h3 _ (W.step hb0)).mono ?_; rintro e w' ⟨rfl, hb⟩; have hb0 := hb0.trans (hb.mono hb0.size); clear hb))
    go_ret
    exact ⟨rfl, hb0⟩
  have hbi : ¬ (100 : Int) < (l.length : Int) := by omega
  have hbj : (l.length : Int) ≤ 100 := by omega
  have h1 := fun w D (h : Nums .i64 w (.slice aL l.length cL) l) => dlines_any l _ a (by omega) (A := A) (c := c) w D h
  have h2 := fun w (k : Frm A c w) t t1 t2 t3 (h : Nums .i64 w (.slice aL l.length cL) l) => rlines_any l _ a (by omega) w k t t1 t2 t3 h
  have hsl : (lnT l.length l a).length ≤ l.length := ln_len l.length l a
  generalize lnT l.length l a = L at *
  have hLb : (L.length : Int) ≤ 100 := by omega
  go_enter Tryz.func3, Tryz.ntmps3
  go_wp2_with (first | (go_at_call 4; with_reducible refine (h3 _ (W.step hb0)).mono ?_; rintro e w' ⟨rfl, hb⟩; have hb0 := hb0.trans (hb.mono hb0.size); clear hb) | (go_at_call 5; with_reducible refine (h1 _ (W.step hb0) (hn.below hb0)).mono ?_; rintro e w1 ⟨u, rfl, hT1, hb⟩; obtain ⟨A1, c1, rfl⟩ := hT1.sl; have hb0 := hb0.trans (hb.mono hb0.size); clear hb) | (go_at_call 6; with_reducible refine (h2 _ (W.frm.step hb0) (T.step hb0) (T1.step hb0) (T2.step hb0) (T3.step hb0) (hn.below hb0)).mono ?_; rintro e w2 ⟨u, rfl, hT2, hb⟩; obtain ⟨A2, c2, rfl⟩ := hT2.sl; have hT1 := hT1.below hb; have hb0 := hb0.trans (hb.mono hb0.size); clear hb))
  go_loopw [25] (fun i wr => ∃ k : Nat, k ≤ L.length ∧ i = .int .i64 k ∧ Below W0.heap.size W0 wr ∧ Txt wr (.slice A1 L.length c1) L ∧ Txt wr (.slice A2 L.length c2) L)
    (fun i _ => L.length - (intOf i).toNat)
  case atStart => exact ⟨0, by omega, rfl, hb0, hT1, hT2⟩
  case round =>
    clear hb0 hT1 hT2
    obtain ⟨k, hk, rfl, hb0, hT1, hT2⟩ := hrel
    by_cases hkL : k = L.length
    · have q5 : ¬ (k : Int) < (L.length : Int) := by omega
      go_wp2_with (first | (go_at_call 4; with_reducible refine (h3 _ (W.step hb0)).mono ?_; rintro e w' ⟨rfl, hb⟩; have hb0 := hb0.trans (hb.mono hb0.size); clear hb))
      go_ret
      exact ⟨rfl, hb0⟩
    · have hkl : k < L.length := by omega
      have hki : (k : Int) < (L.length : Int) := by omega
      obtain ⟨g1, d1, he1, hg1, hc1⟩ := hT1.nz (by omega)
      obtain ⟨g2, d2, he2, hg2, hc2⟩ := hT2.nz (by omega)
      obtain ⟨rfl, rfl⟩ : A1 = some ⟨g1, 0, none⟩ ∧ c1 = d1 := by cases he1; exact ⟨rfl, rfl⟩
      obtain ⟨rfl, rfl⟩ : A2 = some ⟨g2, 0, none⟩ ∧ c2 = d2 := by cases he2; exact ⟨rfl, rfl⟩
      have x1 := hc1 k _ (List.getElem?_eq_getElem hkl)
      have x2 := hc2 k _ (List.getElem?_eq_getElem hkl)
      clear he1 he2 hc1 hc2
      generalize (⟨L[k].toArray⟩ : ByteArray) = S at x1 x2
      have b0 : (0 : Int) ≤ (k : Int) := by omega
      go_wp2
      go_quiet (fail)
      go_wp2
      refine ⟨⟨k + 1, by omega, by go_num, drewN_below hb0 nq, hT1.below (drewN_below (Below.refl _ _) nq), hT2.below (drewN_below (Below.refl _ _) nq)⟩, ?_⟩
      simp [intOf]; omega

end Go.Proofs.YtdbbnkjnmldnpaaGreatDoor
