/-
  The rows of the table of forms one by one: the rest of a word, which words a row takes, which operations; the conditions that every row meets. No condition.
-/
import Derived.Test.YtdbbnkjnmldnpaaGreatDoorIA
namespace Go.Proofs.YtdbbnkjnmldnpaaGreatDoor
open Go.RowKit
set_option linter.unusedVariables false
set_option linter.unusedSimpArgs false
set_option maxRecDepth 10000

/-- What every row of the table meets. -/
def rowOkB (e : Row) : Bool := (e.a == 12 || e.a == 15 || e.a == 9 || e.a == 6 || e.a == 8 || e.a == 4 || e.a == 0) && decide (0 ≤ e.f) && decide (e.f ≤ e.l) && decide (e.l ≤ 56) && decide (0 ≤ e.d) && decide (e.d ≤ 65535) && decide (0 ≤ e.e0) && decide (e.e0 ≤ 32768) && decide (0 ≤ e.e4) && decide (e.e4 ≤ 255) && decide (-128 ≤ e.e5) && decide (e.e5 ≤ 0)
def msk (f : Int) : Bool := f == 4032 || f == 448 || f == 63 || f == 7 || f == 255 || f == 15 || f == 0
theorem msk_iff {f : Int} (h : msk f = true) : IsM f := by
  simp [msk] at h
  unfold IsM
  omega
structure RowOk (e : Row) : Prop where
  a : e.a = 12 ∨ e.a = 15 ∨ e.a = 9 ∨ e.a = 6 ∨ e.a = 8 ∨ e.a = 4 ∨ e.a = 0
  f : 0 ≤ e.f ∧ e.f ≤ 64
  l : e.f ≤ e.l ∧ e.l ≤ 56
  d : 0 ≤ e.d ∧ e.d ≤ 65535
  e0 : 0 ≤ e.e0 ∧ e.e0 ≤ 32768
  e1 : IsM e.e1
  e2 : IsM e.e2
  e3 : IsM e.e3
  e4 : IsM e.e4
  e4b : 0 ≤ e.e4 ∧ e.e4 ≤ 255
  e5 : -128 ≤ e.e5 ∧ e.e5 ≤ 0
theorem rows_ok_all : rows.all (fun e => rowOkB e && msk e.e1 && msk e.e2 && msk e.e3 && msk e.e4) = true := by decide
theorem row_ok {e : Row} (h : e ∈ rows) : RowOk e := by
  have k := List.all_eq_true.1 rows_ok_all e h
  simp only [Bool.and_eq_true] at k
  obtain ⟨⟨⟨⟨k, k1⟩, k2⟩, k3⟩, k4⟩ := k
  simp [rowOkB] at k
  exact ⟨by omega, by omega, by omega, by omega, by omega, msk_iff k1, msk_iff k2, msk_iff k3, msk_iff k4, by omega, by omega⟩
theorem row_mem {k : Nat} {e : Row} (h : rows[k]? = some e) : e ∈ rows := List.mem_of_getElem? h

/-! ### The rest of a word -/
theorem andNot_w {w : Int} (h0 : 0 ≤ w) (h1 : w ≤ 65535) {B M : Nat} (hB : B < 9223372036854775808) (hM : 65535 &&& (18446744073709551615 - B) = M) : bits .andNot .i64 w (B : Int) = ((N64 w &&& M : Nat) : Int) := by
  have hw := N64_eq w
  have hlt : N64 w < 65536 := by omega
  have e : N64 w &&& (18446744073709551615 - B) = N64 w &&& M := by
    have k : N64 w = N64 w &&& 65535 := by rw [m65535]; omega
    rw [← hM, ← Nat.and_assoc, ← k]
  rw [andNot_def, N64_nat B (by omega), e]
  exact small (Nat.lt_of_le_of_lt Nat.and_le_left (by omega))
theorem n64_w {w : Int} (h0 : 0 ≤ w) (h1 : w ≤ 65535) : (N64 w : Int) = w := by have := N64_eq w; omega
theorem n0 {w : Int} (h0 : 0 ≤ w) (h1 : w ≤ 65535) : bits .andNot .i64 w 0 = w := (andNot_w h0 h1 (B := 0) (M := 65535) (by decide) (by decide)).trans (by rw [m65535]; have := n64_w h0 h1; omega)
theorem n7 {w : Int} (h0 : 0 ≤ w) (h1 : w ≤ 65535) : bits .andNot .i64 w 7 = w / 8 % 8192 * 8 := (andNot_w h0 h1 (B := 7) (M := 65528) (by decide) (by decide)).trans (by
  have k : N64 w &&& 65528 = N64 w / 8 % 8192 * 8 := field _ 3 13
  have := n64_w h0 h1
  omega)
theorem n15 {w : Int} (h0 : 0 ≤ w) (h1 : w ≤ 65535) : bits .andNot .i64 w 15 = w / 16 % 4096 * 16 := (andNot_w h0 h1 (B := 15) (M := 65520) (by decide) (by decide)).trans (by
  have k : N64 w &&& 65520 = N64 w / 16 % 4096 * 16 := field _ 4 12
  have := n64_w h0 h1
  omega)
theorem n63 {w : Int} (h0 : 0 ≤ w) (h1 : w ≤ 65535) : bits .andNot .i64 w 63 = w / 64 % 1024 * 64 := (andNot_w h0 h1 (B := 63) (M := 65472) (by decide) (by decide)).trans (by
  have k : N64 w &&& 65472 = N64 w / 64 % 1024 * 64 := field _ 6 10
  have := n64_w h0 h1
  omega)
theorem n255 {w : Int} (h0 : 0 ≤ w) (h1 : w ≤ 65535) : bits .andNot .i64 w 255 = w / 256 % 256 * 256 := (andNot_w h0 h1 (B := 255) (M := 65280) (by decide) (by decide)).trans (by
  have k : N64 w &&& 65280 = N64 w / 256 % 256 * 256 := field _ 8 8
  have := n64_w h0 h1
  omega)
theorem n511 {w : Int} (h0 : 0 ≤ w) (h1 : w ≤ 65535) : bits .andNot .i64 w 511 = w / 512 % 128 * 512 := (andNot_w h0 h1 (B := 511) (M := 65024) (by decide) (by decide)).trans (by
  have k : N64 w &&& 65024 = N64 w / 512 % 128 * 512 := field _ 9 7
  have := n64_w h0 h1
  omega)
theorem n4095 {w : Int} (h0 : 0 ≤ w) (h1 : w ≤ 65535) : bits .andNot .i64 w 4095 = w / 4096 % 16 * 4096 := (andNot_w h0 h1 (B := 4095) (M := 61440) (by decide) (by decide)).trans (by
  have k : N64 w &&& 61440 = N64 w / 4096 % 16 * 4096 := field _ 12 4
  have := n64_w h0 h1
  omega)
theorem n32831 {w : Int} (h0 : 0 ≤ w) (h1 : w ≤ 65535) : bits .andNot .i64 w 32831 = w / 64 % 512 * 64 := (andNot_w h0 h1 (B := 32831) (M := 32704) (by decide) (by decide)).trans (by
  have k : N64 w &&& 32704 = N64 w / 64 % 512 * 64 := field _ 6 9
  have := n64_w h0 h1
  omega)
theorem n36863 {w : Int} (h0 : 0 ≤ w) (h1 : w ≤ 65535) : bits .andNot .i64 w 36863 = w / 4096 % 8 * 4096 := (andNot_w h0 h1 (B := 36863) (M := 28672) (by decide) (by decide)).trans (by
  have k : N64 w &&& 28672 = N64 w / 4096 % 8 * 4096 := field _ 12 3
  have := n64_w h0 h1
  omega)
theorem hit0 {w : Int} (h0 : 0 ≤ w) (h1 : w ≤ 65535) : pw w ⟨1, 5, 4096, 12, 32768, 4032, 63, 0, 0, 0⟩ = decide (1 ≤ w / 4096 % 8 ∧ w / 4096 % 8 ≤ 5) := by
  have A : restR w ⟨1, 5, 4096, 12, 32768, 4032, 63, 0, 0, 0⟩ = w / 4096 % 8 * 4096 - 4096 := by
    have e : bitsR 32768 4032 63 0 0 = 36863 := by decide +kernel
    unfold restR
    rw [e, n36863 h0 h1]
  have P : pwR 12 = 4096 := by decide
  unfold pw hitR okR
  rw [A]
  simp only [P]
  rw [Bool.eq_iff_iff]
  simp only [Bool.and_eq_true, decide_eq_true_eq]
  omega
theorem hit1 {w : Int} (h0 : 0 ≤ w) (h1 : w ≤ 65535) : pw w ⟨6, 7, 24576, 15, 0, 4032, 63, 0, 0, 0⟩ = decide (w / 4096 = 6 ∨ w / 4096 = 14) := by
  have A : restR w ⟨6, 7, 24576, 15, 0, 4032, 63, 0, 0, 0⟩ = w / 4096 % 16 * 4096 - 24576 := by
    have e : bitsR 0 4032 63 0 0 = 4095 := by decide +kernel
    unfold restR
    rw [e, n4095 h0 h1]
  have P : pwR 15 = 32768 := by decide
  unfold pw hitR okR
  rw [A]
  simp only [P]
  rw [Bool.eq_iff_iff]
  simp only [Bool.and_eq_true, decide_eq_true_eq]
  omega
theorem hit2 {w : Int} (h0 : 0 ≤ w) (h1 : w ≤ 65535) : pw w ⟨8, 10, 28672, 9, 0, 63, 0, 448, 0, 0⟩ = decide (56 ≤ w / 512 % 128 ∧ w / 512 % 128 ≤ 58) := by
  have A : restR w ⟨8, 10, 28672, 9, 0, 63, 0, 448, 0, 0⟩ = w / 512 % 128 * 512 - 28672 := by
    have e : bitsR 0 63 0 448 0 = 511 := by decide +kernel
    unfold restR
    rw [e, n511 h0 h1]
  have P : pwR 9 = 512 := by decide
  unfold pw hitR okR
  rw [A]
  simp only [P]
  rw [Bool.eq_iff_iff]
  simp only [Bool.and_eq_true, decide_eq_true_eq]
  omega
theorem hit3 {w : Int} (h0 : 0 ≤ w) (h1 : w ≤ 65535) : pw w ⟨11, 11, 30720, 0, 0, 0, 63, 448, 0, 0⟩ = decide (w / 512 % 128 = 60) := by
  have A : restR w ⟨11, 11, 30720, 0, 0, 0, 63, 448, 0, 0⟩ = w / 512 % 128 * 512 - 30720 := by
    have e : bitsR 0 0 63 448 0 = 511 := by decide +kernel
    unfold restR
    rw [e, n511 h0 h1]
  have P : pwR 0 = 1 := by decide
  unfold pw hitR okR
  rw [A]
  simp only [P]
  rw [Bool.eq_iff_iff]
  simp only [Bool.and_eq_true, decide_eq_true_eq]
  omega
theorem hit4 {w : Int} (h0 : 0 ≤ w) (h1 : w ≤ 65535) : pw w ⟨12, 19, 2560, 6, 32768, 0, 63, 0, 0, 0⟩ = decide (40 ≤ w / 64 % 512 ∧ w / 64 % 512 ≤ 47) := by
  have A : restR w ⟨12, 19, 2560, 6, 32768, 0, 63, 0, 0, 0⟩ = w / 64 % 512 * 64 - 2560 := by
    have e : bitsR 32768 0 63 0 0 = 32831 := by decide +kernel
    unfold restR
    rw [e, n32831 h0 h1]
  have P : pwR 6 = 64 := by decide
  unfold pw hitR okR
  rw [A]
  simp only [P]
  rw [Bool.eq_iff_iff]
  simp only [Bool.and_eq_true, decide_eq_true_eq]
  omega
theorem hit5 {w : Int} (h0 : 0 ≤ w) (h1 : w ≤ 65535) : pw w ⟨20, 23, 3072, 6, 32768, 0, 63, 0, 0, 0⟩ = decide (48 ≤ w / 64 % 512 ∧ w / 64 % 512 ≤ 51) := by
  have A : restR w ⟨20, 23, 3072, 6, 32768, 0, 63, 0, 0, 0⟩ = w / 64 % 512 * 64 - 3072 := by
    have e : bitsR 32768 0 63 0 0 = 32831 := by decide +kernel
    unfold restR
    rw [e, n32831 h0 h1]
  have P : pwR 6 = 64 := by decide
  unfold pw hitR okR
  rw [A]
  simp only [P]
  rw [Bool.eq_iff_iff]
  simp only [Bool.and_eq_true, decide_eq_true_eq]
  omega
theorem hit6 {w : Int} (h0 : 0 ≤ w) (h1 : w ≤ 65535) : pw w ⟨24, 24, 192, 0, 0, 0, 63, 0, 0, 0⟩ = decide (w / 64 % 1024 = 3) := by
  have A : restR w ⟨24, 24, 192, 0, 0, 0, 63, 0, 0, 0⟩ = w / 64 % 1024 * 64 - 192 := by
    have e : bitsR 0 0 63 0 0 = 63 := by decide +kernel
    unfold restR
    rw [e, n63 h0 h1]
  have P : pwR 0 = 1 := by decide
  unfold pw hitR okR
  rw [A]
  simp only [P]
  rw [Bool.eq_iff_iff]
  simp only [Bool.and_eq_true, decide_eq_true_eq]
  omega
theorem hit7 {w : Int} (h0 : 0 ≤ w) (h1 : w ≤ 65535) : pw w ⟨25, 25, 3520, 0, 0, 0, 63, 0, 0, 0⟩ = decide (w / 64 % 1024 = 55) := by
  have A : restR w ⟨25, 25, 3520, 0, 0, 0, 63, 0, 0, 0⟩ = w / 64 % 1024 * 64 - 3520 := by
    have e : bitsR 0 0 63 0 0 = 63 := by decide +kernel
    unfold restR
    rw [e, n63 h0 h1]
  have P : pwR 0 = 1 := by decide
  unfold pw hitR okR
  rw [A]
  simp only [P]
  rw [Bool.eq_iff_iff]
  simp only [Bool.and_eq_true, decide_eq_true_eq]
  omega
theorem hit8 {w : Int} (h0 : 0 ≤ w) (h1 : w ≤ 65535) : pw w ⟨55, 55, 3392, 0, 0, 63, 0, 0, 0, 0⟩ = decide (w / 64 % 1024 = 53) := by
  have A : restR w ⟨55, 55, 3392, 0, 0, 63, 0, 0, 0, 0⟩ = w / 64 % 1024 * 64 - 3392 := by
    have e : bitsR 0 63 0 0 0 = 63 := by decide +kernel
    unfold restR
    rw [e, n63 h0 h1]
  have P : pwR 0 = 1 := by decide
  unfold pw hitR okR
  rw [A]
  simp only [P]
  rw [Bool.eq_iff_iff]
  simp only [Bool.and_eq_true, decide_eq_true_eq]
  omega
theorem hit9 {w : Int} (h0 : 0 ≤ w) (h1 : w ≤ 65535) : pw w ⟨56, 56, 3456, 0, 0, 0, 63, 0, 0, 0⟩ = decide (w / 64 % 1024 = 54) := by
  have A : restR w ⟨56, 56, 3456, 0, 0, 0, 63, 0, 0, 0⟩ = w / 64 % 1024 * 64 - 3456 := by
    have e : bitsR 0 0 63 0 0 = 63 := by decide +kernel
    unfold restR
    rw [e, n63 h0 h1]
  have P : pwR 0 = 1 := by decide
  unfold pw hitR okR
  rw [A]
  simp only [P]
  rw [Bool.eq_iff_iff]
  simp only [Bool.and_eq_true, decide_eq_true_eq]
  omega
theorem hit10 {w : Int} (h0 : 0 ≤ w) (h1 : w ≤ 65535) : pw w ⟨41, 41, 64, 0, 0, 0, 63, 0, 0, 0⟩ = decide (w / 64 % 1024 = 1) := by
  have A : restR w ⟨41, 41, 64, 0, 0, 0, 63, 0, 0, 0⟩ = w / 64 % 1024 * 64 - 64 := by
    have e : bitsR 0 0 63 0 0 = 63 := by decide +kernel
    unfold restR
    rw [e, n63 h0 h1]
  have P : pwR 0 = 1 := by decide
  unfold pw hitR okR
  rw [A]
  simp only [P]
  rw [Bool.eq_iff_iff]
  simp only [Bool.and_eq_true, decide_eq_true_eq]
  omega
theorem hit11 {w : Int} (h0 : 0 ≤ w) (h1 : w ≤ 65535) : pw w ⟨42, 42, 2048, 0, 0, 0, 63, 448, 0, 0⟩ = decide (w / 512 % 128 = 4) := by
  have A : restR w ⟨42, 42, 2048, 0, 0, 0, 63, 448, 0, 0⟩ = w / 512 % 128 * 512 - 2048 := by
    have e : bitsR 0 0 63 448 0 = 511 := by decide +kernel
    unfold restR
    rw [e, n511 h0 h1]
  have P : pwR 0 = 1 := by decide
  unfold pw hitR okR
  rw [A]
  simp only [P]
  rw [Bool.eq_iff_iff]
  simp only [Bool.and_eq_true, decide_eq_true_eq]
  omega
theorem hit12 {w : Int} (h0 : 0 ≤ w) (h1 : w ≤ 65535) : pw w ⟨43, 43, 128, 0, 0, 0, 0, 7, 0, 0⟩ = decide (w / 8 % 8192 = 16) := by
  have A : restR w ⟨43, 43, 128, 0, 0, 0, 0, 7, 0, 0⟩ = w / 8 % 8192 * 8 - 128 := by
    have e : bitsR 0 0 0 7 0 = 7 := by decide +kernel
    unfold restR
    rw [e, n7 h0 h1]
  have P : pwR 0 = 1 := by decide
  unfold pw hitR okR
  rw [A]
  simp only [P]
  rw [Bool.eq_iff_iff]
  simp only [Bool.and_eq_true, decide_eq_true_eq]
  omega
theorem hit13 {w : Int} (h0 : 0 ≤ w) (h1 : w ≤ 65535) : pw w ⟨44, 44, 32256, 0, 0, 0, 0, 448, 63, 0⟩ = decide (w / 512 % 128 = 63) := by
  have A : restR w ⟨44, 44, 32256, 0, 0, 0, 0, 448, 63, 0⟩ = w / 512 % 128 * 512 - 32256 := by
    have e : bitsR 0 0 0 448 63 = 511 := by decide +kernel
    unfold restR
    rw [e, n511 h0 h1]
  have P : pwR 0 = 1 := by decide
  unfold pw hitR okR
  rw [A]
  simp only [P]
  rw [Bool.eq_iff_iff]
  simp only [Bool.and_eq_true, decide_eq_true_eq]
  omega
theorem hit14 {w : Int} (h0 : 0 ≤ w) (h1 : w ≤ 65535) : pw w ⟨26, 32, 256, 8, 0, 0, 0, 0, 255, -128⟩ = decide (1 ≤ w / 256 % 256 ∧ w / 256 % 256 ≤ 7) := by
  have A : restR w ⟨26, 32, 256, 8, 0, 0, 0, 0, 255, -128⟩ = w / 256 % 256 * 256 - 256 := by
    have e : bitsR 0 0 0 0 255 = 255 := by decide +kernel
    unfold restR
    rw [e, n255 h0 h1]
  have P : pwR 8 = 256 := by decide
  unfold pw hitR okR
  rw [A]
  simp only [P]
  rw [Bool.eq_iff_iff]
  simp only [Bool.and_eq_true, decide_eq_true_eq]
  omega
theorem hit15 {w : Int} (h0 : 0 ≤ w) (h1 : w ≤ 65535) : pw w ⟨33, 40, 32768, 8, 0, 0, 0, 0, 255, -128⟩ = decide (128 ≤ w / 256 % 256 ∧ w / 256 % 256 ≤ 135) := by
  have A : restR w ⟨33, 40, 32768, 8, 0, 0, 0, 0, 255, -128⟩ = w / 256 % 256 * 256 - 32768 := by
    have e : bitsR 0 0 0 0 255 = 255 := by decide +kernel
    unfold restR
    rw [e, n255 h0 h1]
  have P : pwR 8 = 256 := by decide
  unfold pw hitR okR
  rw [A]
  simp only [P]
  rw [Bool.eq_iff_iff]
  simp only [Bool.and_eq_true, decide_eq_true_eq]
  omega
theorem hit16 {w : Int} (h0 : 0 ≤ w) (h1 : w ≤ 65535) : pw w ⟨45, 46, 34816, 8, 0, 0, 0, 0, 255, 0⟩ = decide (136 ≤ w / 256 % 256 ∧ w / 256 % 256 ≤ 137) := by
  have A : restR w ⟨45, 46, 34816, 8, 0, 0, 0, 0, 255, 0⟩ = w / 256 % 256 * 256 - 34816 := by
    have e : bitsR 0 0 0 0 255 = 255 := by decide +kernel
    unfold restR
    rw [e, n255 h0 h1]
  have P : pwR 8 = 256 := by decide
  unfold pw hitR okR
  rw [A]
  simp only [P]
  rw [Bool.eq_iff_iff]
  simp only [Bool.and_eq_true, decide_eq_true_eq]
  omega
theorem hit17 {w : Int} (h0 : 0 ≤ w) (h1 : w ≤ 65535) : pw w ⟨53, 54, 160, 4, 0, 0, 0, 0, 15, 0⟩ = decide (10 ≤ w / 16 % 4096 ∧ w / 16 % 4096 ≤ 11) := by
  have A : restR w ⟨53, 54, 160, 4, 0, 0, 0, 0, 15, 0⟩ = w / 16 % 4096 * 16 - 160 := by
    have e : bitsR 0 0 0 0 15 = 15 := by decide +kernel
    unfold restR
    rw [e, n15 h0 h1]
  have P : pwR 4 = 16 := by decide
  unfold pw hitR okR
  rw [A]
  simp only [P]
  rw [Bool.eq_iff_iff]
  simp only [Bool.and_eq_true, decide_eq_true_eq]
  omega
theorem hit18 {w : Int} (h0 : 0 ≤ w) (h1 : w ≤ 65535) : pw w ⟨50, 51, 0, 0, 0, 0, 0, 0, 0, 0⟩ = decide (0 ≤ w ∧ w ≤ 1) := by
  have A : restR w ⟨50, 51, 0, 0, 0, 0, 0, 0, 0, 0⟩ = w - 0 := by
    have e : bitsR 0 0 0 0 0 = 0 := by decide +kernel
    unfold restR
    rw [e, n0 h0 h1]
  have P : pwR 0 = 1 := by decide
  unfold pw hitR okR
  rw [A]
  simp only [P]
  rw [Bool.eq_iff_iff]
  simp only [Bool.and_eq_true, decide_eq_true_eq]
  omega
theorem hit19 {w : Int} (h0 : 0 ≤ w) (h1 : w ≤ 65535) : pw w ⟨49, 49, 2, 0, 0, 0, 0, 0, 0, 0⟩ = decide (w = 2) := by
  have A : restR w ⟨49, 49, 2, 0, 0, 0, 0, 0, 0, 0⟩ = w - 2 := by
    have e : bitsR 0 0 0 0 0 = 0 := by decide +kernel
    unfold restR
    rw [e, n0 h0 h1]
  have P : pwR 0 = 1 := by decide
  unfold pw hitR okR
  rw [A]
  simp only [P]
  rw [Bool.eq_iff_iff]
  simp only [Bool.and_eq_true, decide_eq_true_eq]
  omega
theorem hit20 {w : Int} (h0 : 0 ≤ w) (h1 : w ≤ 65535) : pw w ⟨47, 48, 3, 0, 0, 0, 0, 0, 0, 0⟩ = decide (3 ≤ w ∧ w ≤ 4) := by
  have A : restR w ⟨47, 48, 3, 0, 0, 0, 0, 0, 0, 0⟩ = w - 3 := by
    have e : bitsR 0 0 0 0 0 = 0 := by decide +kernel
    unfold restR
    rw [e, n0 h0 h1]
  have P : pwR 0 = 1 := by decide
  unfold pw hitR okR
  rw [A]
  simp only [P]
  rw [Bool.eq_iff_iff]
  simp only [Bool.and_eq_true, decide_eq_true_eq]
  omega
theorem hit21 {w : Int} (h0 : 0 ≤ w) (h1 : w ≤ 65535) : pw w ⟨52, 52, 5, 0, 0, 0, 0, 0, 0, 0⟩ = decide (w = 5) := by
  have A : restR w ⟨52, 52, 5, 0, 0, 0, 0, 0, 0, 0⟩ = w - 5 := by
    have e : bitsR 0 0 0 0 0 = 0 := by decide +kernel
    unfold restR
    rw [e, n0 h0 h1]
  have P : pwR 0 = 1 := by decide
  unfold pw hitR okR
  rw [A]
  simp only [P]
  rw [Bool.eq_iff_iff]
  simp only [Bool.and_eq_true, decide_eq_true_eq]
  omega

theorem rest_bd {w : Int} (h0 : 0 ≤ w) (h1 : w ≤ 65535) {e : Row} (h : e ∈ rows) : -65536 ≤ restR w e ∧ restR w e ≤ 65536 := by
  have ho := row_ok h
  have k : 0 ≤ bits .andNot .i64 w (bitsR e.e0 e.e1 e.e2 e.e3 e.e4) ∧ bits .andNot .i64 w (bitsR e.e0 e.e1 e.e2 e.e3 e.e4) ≤ 65535 := by
    have hw := n64_w h0 h1
    have hl : N64 w &&& (18446744073709551615 - N64 (bitsR e.e0 e.e1 e.e2 e.e3 e.e4)) ≤ N64 w := Nat.and_le_left
    rw [andNot_def]
    rw [small (by omega)]
    omega
  have := ho.d
  unfold restR
  omega
end Go.Proofs.YtdbbnkjnmldnpaaGreatDoor
