/-
  Map of the reference of package mmu. No condition but that the pages are sixteen.
-/
import Derived.Test.YtggnbfilkogcoaaMuE
namespace Go.Proofs.Ytggnbfilkogcoaa
open Go.RowKit
set_option linter.unusedSimpArgs false
set_option linter.unusedVariables false
set_option maxHeartbeats 8000000
set_option maxRecDepth 100000
attribute [local irreducible] wpQuiet

/-- The pages of a mode from number 8 - n on. -/
def mapGo (m : Nat) (acc : Int) : Nat → Un → Int → Int → Un
  | 0, u, _, _ => u
  | n + 1, u, base, blocks =>
    if 0 < blocks then mapGo m acc n (u.withP (8 * m + (7 - n)) ⟨base, min blocks 128, acc, false⟩) (base + min blocks 128) (blocks - min blocks 128)
    else mapGo m acc n (u.withP (8 * m + (7 - n)) Pg.z) base blocks
theorem mapGo_pos {m n k : Nat} {acc base blocks x : Int} {u : Un} (hk : 8 - k = n + 1) (hn : n = 7 - k) (h : 0 < blocks) (hx : min blocks 128 = x) (h7 : k < 8) : mapGo m acc (8 - k) u base blocks = mapGo m acc (8 - (k + 1)) (u.withP (8 * m + k) ⟨base, x, acc, false⟩) (base + x) (blocks - x) := by
  subst hx
  rw [hk, mapGo, if_pos h, show 8 - (k + 1) = n by omega, show 7 - n = k by omega]
theorem mapGo_neg {m n k : Nat} {acc base blocks : Int} {u : Un} (hk : 8 - k = n + 1) (hn : n = 7 - k) (h : ¬ 0 < blocks) (h7 : k < 8) : mapGo m acc (8 - k) u base blocks = mapGo m acc (8 - (k + 1)) (u.withP (8 * m + k) Pg.z) base blocks := by
  rw [hk, mapGo, if_neg h, show 8 - (k + 1) = n by omega, show 7 - n = k by omega]
/-- A whole page stored, cell by cell: the worlds by name. -/
theorem Two.four {B C m p : Nat} {u v : Un} {w0 w : World} {g : Pg} (h : Two B C u v w0 w) (hg : u.pg[8 * m + p]? = some g) (hn : C ≠ B) (hB : w0.heap.size ≤ B) (g' : Pg) :
    ∃ W1 W2 W3 W4, w.setCell ⟨B, 1 + m * 32 + p * 4, none⟩ (.int .i64 g'.b) = W1 ∧ W1.setCell ⟨B, 1 + m * 32 + p * 4 + 1, none⟩ (.int .i64 g'.l) = W2 ∧ W2.setCell ⟨B, 1 + m * 32 + p * 4 + 2, none⟩ (.int .i64 g'.a) = W3 ∧ W3.setCell ⟨B, 1 + m * 32 + p * 4 + 3, none⟩ (.bool g'.r) = W4 ∧
      (w.cell? ⟨B, 1 + m * 32 + p * 4, none⟩ = some (.int .i64 g.b) ∧ w.frozen? ⟨B, 1 + m * 32 + p * 4, none⟩ = false) ∧ (W1.cell? ⟨B, 1 + m * 32 + p * 4 + 1, none⟩ = some (.int .i64 g.l) ∧ W1.frozen? ⟨B, 1 + m * 32 + p * 4 + 1, none⟩ = false) ∧
      (W2.cell? ⟨B, 1 + m * 32 + p * 4 + 2, none⟩ = some (.int .i64 g.a) ∧ W2.frozen? ⟨B, 1 + m * 32 + p * 4 + 2, none⟩ = false) ∧ (W3.cell? ⟨B, 1 + m * 32 + p * 4 + 3, none⟩ = some (.bool g.r) ∧ W3.frozen? ⟨B, 1 + m * 32 + p * 4 + 3, none⟩ = false) ∧ Two B C (u.withP (8 * m + p) g') v w0 W4 := by
  obtain ⟨gb, gl, ga, gr⟩ := g
  obtain ⟨b, l, a, r⟩ := g'
  have h1 := h.putF (g' := ⟨b, gl, ga, gr⟩) hg hn hB 0 (by decide) (.int .i64 b) rfl (1 + m * 32 + p * 4) rfl
  have hg1 := Un.withP_at (g' := ⟨b, gl, ga, gr⟩) hg
  have h2 := h1.putF (g' := ⟨b, l, ga, gr⟩) hg1 hn hB 1 (by decide) (.int .i64 l) rfl (1 + m * 32 + p * 4 + 1) rfl
  have hg2 := Un.withP_at (g' := ⟨b, l, ga, gr⟩) hg1
  have h3 := h2.putF (g' := ⟨b, l, a, gr⟩) hg2 hn hB 2 (by decide) (.int .i64 a) rfl (1 + m * 32 + p * 4 + 2) rfl
  have hg3 := Un.withP_at (g' := ⟨b, l, a, gr⟩) hg2
  have h4 := h3.putF (g' := ⟨b, l, a, r⟩) hg3 hn hB 3 (by decide) (.bool r) rfl (1 + m * 32 + p * 4 + 3) rfl
  rw [withP_twice, withP_twice, withP_twice] at h4
  exact ⟨_, _, _, _, rfl, rfl, rfl, rfl, ⟨(h.page hg).1, h.fz _⟩, ⟨(h1.page hg1).2.1, h1.fz _⟩, ⟨(h2.page hg2).2.2.1, h2.fz _⟩, ⟨(h3.page hg3).2.2.2, h3.fz _⟩, h4⟩
theorem zero_page (w : World) : (Instr.build 23 #[]).run Try.prog w = .ok (.agg Pg.z.L.toArray) w := by kernel_rfl

theorem rmap_ok (u : Un) (hu : u.ok) (mode : Int) (m : Nat) (hmm : mode = (m : Int)) (hm : m < 2) (base blocks acc : Int) (ha0 : 1 ≤ acc) (ha1 : acc ≤ 2) (hb0 : 0 ≤ blocks) (hb1 : blocks ≤ 1024) (hs0 : 0 ≤ base) (hs1 : base ≤ 4096 - blocks) (W0 : World) : Calls Try.prog 20 #[.agg u.L.toArray, .int .i64 mode, .int .i64 base, .int .i64 blocks, .int .i64 acc] W0 fun e w' => e = .returned (.tuple #[.agg (mapGo m acc 8 u base blocks).L.toArray, .int .i64 0]) ∧ Below W0.heap.size W0 w' := by
  subst hmm
  have hz := zero_unit
  have hX := Two.put u W0
  have hzo := Un.z_ok
  have hzl := Un.zlen
  generalize hR : mapGo m acc 8 u base blocks = R
  have hR := hid hR
  generalize Un.z = Z at *
  have m0 : (0 : Int) ≤ (m : Int) := by omega
  have m1 : (m : Int) < 2 := by omega
  go_enter Try.func20, Try.ntmps20
  go_wp2
  go_loopw [2, 3, 12] (fun bs bl i wr => ∃ (k : Nat) (x y : Int) (u' : Un), k ≤ 8 ∧ i = .int .i64 k ∧ bs = .int .i64 x ∧ bl = .int .i64 y ∧ 0 ≤ x ∧ 0 ≤ y ∧ y ≤ 1024 ∧ x ≤ 4096 - y ∧ u'.ok ∧ Two W0.heap.size (W0.heap.size + 1) u' Z W0 wr ∧ Hid (mapGo m acc (8 - k) u' x y = R))
    (fun _ _ i _ => match i with | .int _ q => 8 - q.toNat | _ => 0)
  case atStart => exact ⟨0, base, blocks, u, by decide, rfl, rfl, rfl, hs0, hb0, hb1, by omega, hu, hX, hR⟩
  case round =>
    obtain ⟨k, x, y, u', hk, rfl, rfl, rfl, x0, y0, y1, x1, hu', hY, hQ⟩ := hrel
    by_cases hkl : k < 8
    · obtain ⟨g, hg⟩ : ∃ g, u'.pg[8 * m + k]? = some g := ⟨_, List.getElem?_eq_getElem (by have : u'.pg.length = 16 := hu'; omega)⟩
      have k0 : (0 : Int) ≤ (k : Int) := by omega
      have k1 : (k : Int) < 8 := by omega
      obtain ⟨W1, W2, W3, W4, a1, a2, a3, a4, ⟨c1, f1⟩, ⟨c2, f2⟩, ⟨c3, f3⟩, ⟨c4, f4⟩, hZ⟩ := hY.four hg (by omega) (Nat.le_refl _) Pg.z
      have hgz := Un.withP_at (g' := Pg.z) hg
      have huz := Un.withP_ok hu' (8 * m + k) Pg.z
      simp only [Pg.z] at a1 a2 a3 a4
      by_cases hy : 0 < y
      · have hA : ∃ n, min y 128 = n ∧ ((y ≤ 128 ∧ n = y) ∨ (128 < y ∧ n = 128)) := ⟨_, rfl, by omega⟩
        obtain ⟨n, hn, hA⟩ := hA
        obtain ⟨V1, V2, V3, V4, b1, b2, b3, b4, ⟨d1, e1⟩, ⟨d2, e2⟩, ⟨d3, e3⟩, ⟨d4, e4⟩, hV⟩ := hZ.four hgz (by omega) (Nat.le_refl _) ⟨x, n, acc, false⟩
        rw [withP_twice] at hV
        simp only [Pg.z] at b1 b2 b3 b4 d1 d2 d3 d4
        have hst := mapGo_pos (m := m) (u := u') (acc := acc) (base := x) (n := 7 - k) (by omega) rfl hy hn hkl
        have hQ : Hid (mapGo m acc (8 - (k + 1)) (u'.withP (8 * m + k) ⟨x, n, acc, false⟩) (x + n) (y - n) = R) := by rw [← hst]; exact hQ
        have huv := Un.withP_ok hu' (8 * m + k) ⟨x, n, acc, false⟩
        generalize u'.withP (8 * m + k) ⟨x, n, acc, false⟩ = u2 at *
        have z0 : 0 ≤ x + n := by omega
        have z1 : x + n ≤ 5120 := by omega
        clear hst hZ hgz huz hg hR hX hn
        rcases hA with ⟨q1, q2⟩ | ⟨q1, q2⟩
        all_goals
          subst q2
          go_wp2
          refine ⟨⟨k + 1, _, _, u2, by omega, by go_num, rfl, rfl, by omega, by omega, by omega, by omega, huv, hV, by first | exact hQ | (rw [Int.sub_self] at hQ; exact hQ)⟩, by simp only; omega⟩
      · have hst := mapGo_neg (m := m) (u := u') (acc := acc) (base := x) (n := 7 - k) (by omega) rfl hy hkl
        have hQ : Hid (mapGo m acc (8 - (k + 1)) (u'.withP (8 * m + k) Pg.z) x y = R) := by rw [← hst]; exact hQ
        generalize u'.withP (8 * m + k) Pg.z = u2 at *
        clear hst hgz hg hR hX
        go_wp2
        refine ⟨⟨k + 1, _, _, u2, by omega, by go_num, rfl, rfl, x0, y0, y1, x1, huz, hZ, hQ⟩, by simp only; omega⟩
    · obtain rfl : k = 8 := by omega
      have hQ2 : u' = R := hQ
      subst hQ2
      have hln := Un.len hu'
      obtain ⟨hld, W, hst, hX2, hlv⟩ := hY.outR hu' hzo (by omega) (by omega)
      go_wp2_with (first | (refine wpList_load_run rfl 27 (.tmp 5) (.pointer (some ⟨W0.heap.size, 0, none⟩)) (.agg u'.L.toArray) rfl rfl hld ?_))
      exact bodyPost_ret (results_ct Try.results20 rfl hlv) rfl ⟨rfl, hX2.below⟩

def okMap (mode base blocks acc : Int) : Prop := 0 ≤ mode ∧ mode ≤ 1 ∧ 1 ≤ acc ∧ acc ≤ 2 ∧ 0 ≤ blocks ∧ blocks ≤ 1024 ∧ 0 ≤ base ∧ base ≤ 4096 - blocks
theorem rmap_bad (u : Un) (hu : u.ok) (mode base blocks acc : Int) (h : ¬ okMap mode base blocks acc) (W0 : World) : Calls Try.prog 20 #[.agg u.L.toArray, .int .i64 mode, .int .i64 base, .int .i64 blocks, .int .i64 acc] W0 fun e w' => e = .returned (.tuple #[.agg Un.z.L.toArray, .int .i64 1]) ∧ Below W0.heap.size W0 w' := by
  have hz := zero_unit
  have hX := Two.put u W0
  have hzl := Un.zlen
  have hz1 := Un.one Un.z
  obtain ⟨W, hst, hbW, hbel, _⟩ := hX.c.store (P := Try.prog) rfl hz1
  have hlv := hbW.loadVar (P := Try.prog) (T := 27) hzl agg_unit size_unit
  have hB2 := hbel _ _ (by omega) hX.below
  unfold okMap at h
  generalize Un.z = Z at *
  clear hX hbW hbel hz1
  by_cases h0 : 0 ≤ mode
  · skip
    by_cases h1 : mode ≤ 1
    · skip
      by_cases h2 : 1 ≤ acc
      · skip
        by_cases h3 : acc ≤ 2
        · skip
          by_cases h4 : 0 ≤ blocks
          · skip
            by_cases h5 : blocks ≤ 1024
            · skip
              by_cases h6 : 0 ≤ base
              · skip
                by_cases h7 : base ≤ 4096 - blocks
                · exact absurd ⟨h0, h1, h2, h3, h4, h5, h6, h7⟩ h
                · clear h
                  go_enter Try.func20, Try.ntmps20
                  go_wp2
                  exact bodyPost_ret (results_ct Try.results20 rfl hlv) rfl ⟨rfl, hB2⟩
              · clear h
                go_enter Try.func20, Try.ntmps20
                go_wp2
                exact bodyPost_ret (results_ct Try.results20 rfl hlv) rfl ⟨rfl, hB2⟩
            · clear h
              go_enter Try.func20, Try.ntmps20
              go_wp2
              exact bodyPost_ret (results_ct Try.results20 rfl hlv) rfl ⟨rfl, hB2⟩
          · clear h
            go_enter Try.func20, Try.ntmps20
            go_wp2
            exact bodyPost_ret (results_ct Try.results20 rfl hlv) rfl ⟨rfl, hB2⟩
        · clear h
          go_enter Try.func20, Try.ntmps20
          go_wp2
          exact bodyPost_ret (results_ct Try.results20 rfl hlv) rfl ⟨rfl, hB2⟩
      · clear h
        go_enter Try.func20, Try.ntmps20
        go_wp2
        exact bodyPost_ret (results_ct Try.results20 rfl hlv) rfl ⟨rfl, hB2⟩
    · clear h
      go_enter Try.func20, Try.ntmps20
      go_wp2
      exact bodyPost_ret (results_ct Try.results20 rfl hlv) rfl ⟨rfl, hB2⟩
  · clear h
    go_enter Try.func20, Try.ntmps20
    go_wp2
    exact bodyPost_ret (results_ct Try.results20 rfl hlv) rfl ⟨rfl, hB2⟩
end Go.Proofs.Ytggnbfilkogcoaa
