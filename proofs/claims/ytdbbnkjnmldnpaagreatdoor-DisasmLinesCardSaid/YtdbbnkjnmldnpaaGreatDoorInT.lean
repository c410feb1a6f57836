/-
  The reference's shape of a word as a plain function, and that it is what the rows of the table say. No condition.
-/
import Derived.Test.YtdbbnkjnmldnpaaGreatDoorInS
namespace Go.Proofs.YtdbbnkjnmldnpaaGreatDoor
open Go.RowKit
set_option linter.unusedVariables false
set_option linter.unusedSimpArgs false
set_option maxRecDepth 10000

def sgR (n : Int) : Int := if 127 < n then n - 256 else n
def hsR (o : Int) : Bool := (decide (1 ≤ o) && decide (o ≤ 7)) || (decide (8 ≤ o) && decide (o ≤ 10)) || decide (o = 55)
def hdR (o : Int) : Bool := (decide (1 ≤ o) && decide (o ≤ 7)) || decide (o = 11) || (decide (12 ≤ o) && decide (o ≤ 25)) || decide (o = 41) || decide (o = 42) || decide (o = 56)
def shR (w : Int) : In :=
  if (1 ≤ w / 4096 ∧ w / 4096 ≤ 5) then ⟨(1 + (w / 4096 - 1)), false, (w / 64 % 64 / 8 % 8), (w / 64 % 64 % 8), 0, (w % 64 / 8 % 8), (w % 64 % 8), 0, 0, 0⟩ else
  if (9 ≤ w / 4096 ∧ w / 4096 ≤ 13) then ⟨(1 + (w / 4096 - 9)), true, (w / 64 % 64 / 8 % 8), (w / 64 % 64 % 8), 0, (w % 64 / 8 % 8), (w % 64 % 8), 0, 0, 0⟩ else
  if (w / 4096 = 6) then ⟨6, false, (w / 64 % 64 / 8 % 8), (w / 64 % 64 % 8), 0, (w % 64 / 8 % 8), (w % 64 % 8), 0, 0, 0⟩ else
  if (w / 4096 = 14) then ⟨7, false, (w / 64 % 64 / 8 % 8), (w / 64 % 64 % 8), 0, (w % 64 / 8 % 8), (w % 64 % 8), 0, 0, 0⟩ else
  if (56 ≤ w / 512 ∧ w / 512 ≤ 58) then ⟨(8 + (w / 512 - 56)), false, (w % 64 / 8 % 8), (w % 64 % 8), 0, 0, 0, 0, (w / 64 % 8), 0⟩ else
  if (w / 512 = 60) then ⟨11, false, 0, 0, 0, (w % 64 / 8 % 8), (w % 64 % 8), 0, (w / 64 % 8), 0⟩ else
  if (w / 512 = 63) then ⟨44, false, 0, 0, 0, 0, 0, 0, (w / 64 % 8), (w % 64)⟩ else
  if (40 ≤ w / 64 ∧ w / 64 ≤ 47) then ⟨(12 + (w / 64 - 40)), false, 0, 0, 0, (w % 64 / 8 % 8), (w % 64 % 8), 0, 0, 0⟩ else
  if (552 ≤ w / 64 ∧ w / 64 ≤ 559) then ⟨(12 + (w / 64 - 552)), true, 0, 0, 0, (w % 64 / 8 % 8), (w % 64 % 8), 0, 0, 0⟩ else
  if (48 ≤ w / 64 ∧ w / 64 ≤ 51) then ⟨(20 + (w / 64 - 48)), false, 0, 0, 0, (w % 64 / 8 % 8), (w % 64 % 8), 0, 0, 0⟩ else
  if (560 ≤ w / 64 ∧ w / 64 ≤ 563) then ⟨(20 + (w / 64 - 560)), true, 0, 0, 0, (w % 64 / 8 % 8), (w % 64 % 8), 0, 0, 0⟩ else
  if (w / 64 = 3) then ⟨24, false, 0, 0, 0, (w % 64 / 8 % 8), (w % 64 % 8), 0, 0, 0⟩ else
  if (w / 64 = 55) then ⟨25, false, 0, 0, 0, (w % 64 / 8 % 8), (w % 64 % 8), 0, 0, 0⟩ else
  if (w / 64 = 53) then ⟨55, false, (w % 64 / 8 % 8), (w % 64 % 8), 0, 0, 0, 0, 0, 0⟩ else
  if (w / 64 = 54) then ⟨56, false, 0, 0, 0, (w % 64 / 8 % 8), (w % 64 % 8), 0, 0, 0⟩ else
  if (w / 64 = 1) then ⟨41, false, 0, 0, 0, (w % 64 / 8 % 8), (w % 64 % 8), 0, 0, 0⟩ else
  if (w / 512 = 4) then ⟨42, false, 0, 0, 0, (w % 64 / 8 % 8), (w % 64 % 8), 0, (w / 64 % 8), 0⟩ else
  if (w / 8 = 16) then ⟨43, false, 0, 0, 0, 0, 0, 0, (w % 8), 0⟩ else
  if (1 ≤ w / 256 ∧ w / 256 ≤ 7) then ⟨(26 + (w / 256 - 1)), false, 0, 0, 0, 0, 0, 0, 0, (sgR (w % 256))⟩ else
  if (128 ≤ w / 256 ∧ w / 256 ≤ 135) then ⟨(33 + (w / 256 - 128)), false, 0, 0, 0, 0, 0, 0, 0, (sgR (w % 256))⟩ else
  if (w / 256 = 136) then ⟨45, false, 0, 0, 0, 0, 0, 0, 0, (w % 256)⟩ else
  if (w / 256 = 137) then ⟨46, false, 0, 0, 0, 0, 0, 0, 0, (w % 256)⟩ else
  if (w / 16 = 10) then ⟨53, false, 0, 0, 0, 0, 0, 0, 0, (w % 16)⟩ else
  if (w / 16 = 11) then ⟨54, false, 0, 0, 0, 0, 0, 0, 0, (w % 16)⟩ else
  if (w = 0) then ⟨50, false, 0, 0, 0, 0, 0, 0, 0, 0⟩ else
  if (w = 1) then ⟨51, false, 0, 0, 0, 0, 0, 0, 0, 0⟩ else
  if (w = 2) then ⟨49, false, 0, 0, 0, 0, 0, 0, 0, 0⟩ else
  if (w = 3) then ⟨47, false, 0, 0, 0, 0, 0, 0, 0, 0⟩ else
  if (w = 4) then ⟨48, false, 0, 0, 0, 0, 0, 0, 0, 0⟩ else
  if (w = 5) then ⟨52, false, 0, 0, 0, 0, 0, 0, 0, 0⟩ else
  nil10

theorem a32768 (n : Int) : bits .and .i64 n 32768 = n / 32768 % 2 * 32768 := i_and (c := 32768) (by decide) (field _ 15 1) (by intro h; omega)
theorem num_sg {n : Int} (h : 0 ≤ n ∧ n ≤ 255) : numR 255 (-128) n = sgR n := by unfold numR sgR; split <;> split <;> omega
theorem num_id {k n : Int} (h : n ≤ k) : numR k 0 n = n := by unfold numR; rw [if_neg (by omega)]
theorem hs_yes {o : Int} (h : (1 ≤ o ∧ o ≤ 10) ∨ o = 55) : hsR o = true := by
  unfold hsR
  simp only [Bool.or_eq_true, Bool.and_eq_true, decide_eq_true_eq]
  omega
theorem hd_yes {o : Int} (h : (1 ≤ o ∧ o ≤ 7) ∨ (11 ≤ o ∧ o ≤ 25) ∨ o = 41 ∨ o = 42 ∨ o = 56) : hdR o = true := by
  unfold hdR
  simp only [Bool.or_eq_true, Bool.and_eq_true, decide_eq_true_eq]
  omega
/-- What is said of a word that a row takes. -/
structure Took (w : Int) (e : Row) : Prop where
  mem : e ∈ rows
  read : readR w = some e
  same : rdR e w = shR w
  form : formR (shR w).o = some e
  src : hsR (shR w).o = false → (shR w).m = 0 ∧ (shR w).r = 0
  dst : hdR (shR w).o = false → (shR w).p = 0 ∧ (shR w).q = 0
theorem op0 {w : Int} (h0 : 0 ≤ w) (h1 : w ≤ 65535) (h : (1 ≤ w / 4096 % 8 ∧ w / 4096 % 8 ≤ 5)) : opR 1 12 (restR w ⟨1, 5, 4096, 12, 32768, 4032, 63, 0, 0, 0⟩) = (1 + (w / 4096 % 8 - 1)) := by
  have A : restR w ⟨1, 5, 4096, 12, 32768, 4032, 63, 0, 0, 0⟩ = w / 4096 % 8 * 4096 - 4096 := by
    have e : bitsR 32768 4032 63 0 0 = 36863 := by decide +kernel
    unfold restR
    rw [e, n36863 h0 h1]
  have P : pwR 12 = 4096 := by decide
  have K : okR 12 (w / 4096 % 8 * 4096 - 4096) = true := by
    unfold okR
    rw [P, decide_eq_true (show 0 ≤ w / 4096 % 8 * 4096 - 4096 by omega), decide_eq_true (show (w / 4096 % 8 * 4096 - 4096) % 4096 = 0 by omega)]
    rfl
  unfold opR
  rw [A, if_pos K, P]
  omega
theorem op1 {w : Int} (h0 : 0 ≤ w) (h1 : w ≤ 65535) (h : (w / 4096 = 6 ∨ w / 4096 = 14)) : opR 6 15 (restR w ⟨6, 7, 24576, 15, 0, 4032, 63, 0, 0, 0⟩) = (if w / 4096 = 6 then 6 else 7) := by
  have A : restR w ⟨6, 7, 24576, 15, 0, 4032, 63, 0, 0, 0⟩ = w / 4096 % 16 * 4096 - 24576 := by
    have e : bitsR 0 4032 63 0 0 = 4095 := by decide +kernel
    unfold restR
    rw [e, n4095 h0 h1]
  have P : pwR 15 = 32768 := by decide
  have K : okR 15 (w / 4096 % 16 * 4096 - 24576) = true := by
    unfold okR
    rw [P, decide_eq_true (show 0 ≤ w / 4096 % 16 * 4096 - 24576 by omega), decide_eq_true (show (w / 4096 % 16 * 4096 - 24576) % 32768 = 0 by omega)]
    rfl
  unfold opR
  rw [A, if_pos K, P]
  omega
theorem op2 {w : Int} (h0 : 0 ≤ w) (h1 : w ≤ 65535) (h : (56 ≤ w / 512 % 128 ∧ w / 512 % 128 ≤ 58)) : opR 8 9 (restR w ⟨8, 10, 28672, 9, 0, 63, 0, 448, 0, 0⟩) = (8 + (w / 512 % 128 - 56)) := by
  have A : restR w ⟨8, 10, 28672, 9, 0, 63, 0, 448, 0, 0⟩ = w / 512 % 128 * 512 - 28672 := by
    have e : bitsR 0 63 0 448 0 = 511 := by decide +kernel
    unfold restR
    rw [e, n511 h0 h1]
  have P : pwR 9 = 512 := by decide
  have K : okR 9 (w / 512 % 128 * 512 - 28672) = true := by
    unfold okR
    rw [P, decide_eq_true (show 0 ≤ w / 512 % 128 * 512 - 28672 by omega), decide_eq_true (show (w / 512 % 128 * 512 - 28672) % 512 = 0 by omega)]
    rfl
  unfold opR
  rw [A, if_pos K, P]
  omega
theorem op3 {w : Int} (h0 : 0 ≤ w) (h1 : w ≤ 65535) (h : (w / 512 % 128 = 60)) : opR 11 0 (restR w ⟨11, 11, 30720, 0, 0, 0, 63, 448, 0, 0⟩) = 11 := by
  have A : restR w ⟨11, 11, 30720, 0, 0, 0, 63, 448, 0, 0⟩ = w / 512 % 128 * 512 - 30720 := by
    have e : bitsR 0 0 63 448 0 = 511 := by decide +kernel
    unfold restR
    rw [e, n511 h0 h1]
  have P : pwR 0 = 1 := by decide
  have K : okR 0 (w / 512 % 128 * 512 - 30720) = true := by
    unfold okR
    rw [P, decide_eq_true (show 0 ≤ w / 512 % 128 * 512 - 30720 by omega), decide_eq_true (show (w / 512 % 128 * 512 - 30720) % 1 = 0 by omega)]
    rfl
  unfold opR
  rw [A, if_pos K, P]
  omega
theorem op4 {w : Int} (h0 : 0 ≤ w) (h1 : w ≤ 65535) (h : (40 ≤ w / 64 % 512 ∧ w / 64 % 512 ≤ 47)) : opR 12 6 (restR w ⟨12, 19, 2560, 6, 32768, 0, 63, 0, 0, 0⟩) = (12 + (w / 64 % 512 - 40)) := by
  have A : restR w ⟨12, 19, 2560, 6, 32768, 0, 63, 0, 0, 0⟩ = w / 64 % 512 * 64 - 2560 := by
    have e : bitsR 32768 0 63 0 0 = 32831 := by decide +kernel
    unfold restR
    rw [e, n32831 h0 h1]
  have P : pwR 6 = 64 := by decide
  have K : okR 6 (w / 64 % 512 * 64 - 2560) = true := by
    unfold okR
    rw [P, decide_eq_true (show 0 ≤ w / 64 % 512 * 64 - 2560 by omega), decide_eq_true (show (w / 64 % 512 * 64 - 2560) % 64 = 0 by omega)]
    rfl
  unfold opR
  rw [A, if_pos K, P]
  omega
theorem op5 {w : Int} (h0 : 0 ≤ w) (h1 : w ≤ 65535) (h : (48 ≤ w / 64 % 512 ∧ w / 64 % 512 ≤ 51)) : opR 20 6 (restR w ⟨20, 23, 3072, 6, 32768, 0, 63, 0, 0, 0⟩) = (20 + (w / 64 % 512 - 48)) := by
  have A : restR w ⟨20, 23, 3072, 6, 32768, 0, 63, 0, 0, 0⟩ = w / 64 % 512 * 64 - 3072 := by
    have e : bitsR 32768 0 63 0 0 = 32831 := by decide +kernel
    unfold restR
    rw [e, n32831 h0 h1]
  have P : pwR 6 = 64 := by decide
  have K : okR 6 (w / 64 % 512 * 64 - 3072) = true := by
    unfold okR
    rw [P, decide_eq_true (show 0 ≤ w / 64 % 512 * 64 - 3072 by omega), decide_eq_true (show (w / 64 % 512 * 64 - 3072) % 64 = 0 by omega)]
    rfl
  unfold opR
  rw [A, if_pos K, P]
  omega
theorem op6 {w : Int} (h0 : 0 ≤ w) (h1 : w ≤ 65535) (h : (w / 64 % 1024 = 3)) : opR 24 0 (restR w ⟨24, 24, 192, 0, 0, 0, 63, 0, 0, 0⟩) = 24 := by
  have A : restR w ⟨24, 24, 192, 0, 0, 0, 63, 0, 0, 0⟩ = w / 64 % 1024 * 64 - 192 := by
    have e : bitsR 0 0 63 0 0 = 63 := by decide +kernel
    unfold restR
    rw [e, n63 h0 h1]
  have P : pwR 0 = 1 := by decide
  have K : okR 0 (w / 64 % 1024 * 64 - 192) = true := by
    unfold okR
    rw [P, decide_eq_true (show 0 ≤ w / 64 % 1024 * 64 - 192 by omega), decide_eq_true (show (w / 64 % 1024 * 64 - 192) % 1 = 0 by omega)]
    rfl
  unfold opR
  rw [A, if_pos K, P]
  omega
theorem op7 {w : Int} (h0 : 0 ≤ w) (h1 : w ≤ 65535) (h : (w / 64 % 1024 = 55)) : opR 25 0 (restR w ⟨25, 25, 3520, 0, 0, 0, 63, 0, 0, 0⟩) = 25 := by
  have A : restR w ⟨25, 25, 3520, 0, 0, 0, 63, 0, 0, 0⟩ = w / 64 % 1024 * 64 - 3520 := by
    have e : bitsR 0 0 63 0 0 = 63 := by decide +kernel
    unfold restR
    rw [e, n63 h0 h1]
  have P : pwR 0 = 1 := by decide
  have K : okR 0 (w / 64 % 1024 * 64 - 3520) = true := by
    unfold okR
    rw [P, decide_eq_true (show 0 ≤ w / 64 % 1024 * 64 - 3520 by omega), decide_eq_true (show (w / 64 % 1024 * 64 - 3520) % 1 = 0 by omega)]
    rfl
  unfold opR
  rw [A, if_pos K, P]
  omega
theorem op8 {w : Int} (h0 : 0 ≤ w) (h1 : w ≤ 65535) (h : (w / 64 % 1024 = 53)) : opR 55 0 (restR w ⟨55, 55, 3392, 0, 0, 63, 0, 0, 0, 0⟩) = 55 := by
  have A : restR w ⟨55, 55, 3392, 0, 0, 63, 0, 0, 0, 0⟩ = w / 64 % 1024 * 64 - 3392 := by
    have e : bitsR 0 63 0 0 0 = 63 := by decide +kernel
    unfold restR
    rw [e, n63 h0 h1]
  have P : pwR 0 = 1 := by decide
  have K : okR 0 (w / 64 % 1024 * 64 - 3392) = true := by
    unfold okR
    rw [P, decide_eq_true (show 0 ≤ w / 64 % 1024 * 64 - 3392 by omega), decide_eq_true (show (w / 64 % 1024 * 64 - 3392) % 1 = 0 by omega)]
    rfl
  unfold opR
  rw [A, if_pos K, P]
  omega
theorem op9 {w : Int} (h0 : 0 ≤ w) (h1 : w ≤ 65535) (h : (w / 64 % 1024 = 54)) : opR 56 0 (restR w ⟨56, 56, 3456, 0, 0, 0, 63, 0, 0, 0⟩) = 56 := by
  have A : restR w ⟨56, 56, 3456, 0, 0, 0, 63, 0, 0, 0⟩ = w / 64 % 1024 * 64 - 3456 := by
    have e : bitsR 0 0 63 0 0 = 63 := by decide +kernel
    unfold restR
    rw [e, n63 h0 h1]
  have P : pwR 0 = 1 := by decide
  have K : okR 0 (w / 64 % 1024 * 64 - 3456) = true := by
    unfold okR
    rw [P, decide_eq_true (show 0 ≤ w / 64 % 1024 * 64 - 3456 by omega), decide_eq_true (show (w / 64 % 1024 * 64 - 3456) % 1 = 0 by omega)]
    rfl
  unfold opR
  rw [A, if_pos K, P]
  omega
theorem op10 {w : Int} (h0 : 0 ≤ w) (h1 : w ≤ 65535) (h : (w / 64 % 1024 = 1)) : opR 41 0 (restR w ⟨41, 41, 64, 0, 0, 0, 63, 0, 0, 0⟩) = 41 := by
  have A : restR w ⟨41, 41, 64, 0, 0, 0, 63, 0, 0, 0⟩ = w / 64 % 1024 * 64 - 64 := by
    have e : bitsR 0 0 63 0 0 = 63 := by decide +kernel
    unfold restR
    rw [e, n63 h0 h1]
  have P : pwR 0 = 1 := by decide
  have K : okR 0 (w / 64 % 1024 * 64 - 64) = true := by
    unfold okR
    rw [P, decide_eq_true (show 0 ≤ w / 64 % 1024 * 64 - 64 by omega), decide_eq_true (show (w / 64 % 1024 * 64 - 64) % 1 = 0 by omega)]
    rfl
  unfold opR
  rw [A, if_pos K, P]
  omega
theorem op11 {w : Int} (h0 : 0 ≤ w) (h1 : w ≤ 65535) (h : (w / 512 % 128 = 4)) : opR 42 0 (restR w ⟨42, 42, 2048, 0, 0, 0, 63, 448, 0, 0⟩) = 42 := by
  have A : restR w ⟨42, 42, 2048, 0, 0, 0, 63, 448, 0, 0⟩ = w / 512 % 128 * 512 - 2048 := by
    have e : bitsR 0 0 63 448 0 = 511 := by decide +kernel
    unfold restR
    rw [e, n511 h0 h1]
  have P : pwR 0 = 1 := by decide
  have K : okR 0 (w / 512 % 128 * 512 - 2048) = true := by
    unfold okR
    rw [P, decide_eq_true (show 0 ≤ w / 512 % 128 * 512 - 2048 by omega), decide_eq_true (show (w / 512 % 128 * 512 - 2048) % 1 = 0 by omega)]
    rfl
  unfold opR
  rw [A, if_pos K, P]
  omega
theorem op12 {w : Int} (h0 : 0 ≤ w) (h1 : w ≤ 65535) (h : (w / 8 % 8192 = 16)) : opR 43 0 (restR w ⟨43, 43, 128, 0, 0, 0, 0, 7, 0, 0⟩) = 43 := by
  have A : restR w ⟨43, 43, 128, 0, 0, 0, 0, 7, 0, 0⟩ = w / 8 % 8192 * 8 - 128 := by
    have e : bitsR 0 0 0 7 0 = 7 := by decide +kernel
    unfold restR
    rw [e, n7 h0 h1]
  have P : pwR 0 = 1 := by decide
  have K : okR 0 (w / 8 % 8192 * 8 - 128) = true := by
    unfold okR
    rw [P, decide_eq_true (show 0 ≤ w / 8 % 8192 * 8 - 128 by omega), decide_eq_true (show (w / 8 % 8192 * 8 - 128) % 1 = 0 by omega)]
    rfl
  unfold opR
  rw [A, if_pos K, P]
  omega
theorem op13 {w : Int} (h0 : 0 ≤ w) (h1 : w ≤ 65535) (h : (w / 512 % 128 = 63)) : opR 44 0 (restR w ⟨44, 44, 32256, 0, 0, 0, 0, 448, 63, 0⟩) = 44 := by
  have A : restR w ⟨44, 44, 32256, 0, 0, 0, 0, 448, 63, 0⟩ = w / 512 % 128 * 512 - 32256 := by
    have e : bitsR 0 0 0 448 63 = 511 := by decide +kernel
    unfold restR
    rw [e, n511 h0 h1]
  have P : pwR 0 = 1 := by decide
  have K : okR 0 (w / 512 % 128 * 512 - 32256) = true := by
    unfold okR
    rw [P, decide_eq_true (show 0 ≤ w / 512 % 128 * 512 - 32256 by omega), decide_eq_true (show (w / 512 % 128 * 512 - 32256) % 1 = 0 by omega)]
    rfl
  unfold opR
  rw [A, if_pos K, P]
  omega
theorem op14 {w : Int} (h0 : 0 ≤ w) (h1 : w ≤ 65535) (h : (1 ≤ w / 256 % 256 ∧ w / 256 % 256 ≤ 7)) : opR 26 8 (restR w ⟨26, 32, 256, 8, 0, 0, 0, 0, 255, -128⟩) = (26 + (w / 256 % 256 - 1)) := by
  have A : restR w ⟨26, 32, 256, 8, 0, 0, 0, 0, 255, -128⟩ = w / 256 % 256 * 256 - 256 := by
    have e : bitsR 0 0 0 0 255 = 255 := by decide +kernel
    unfold restR
    rw [e, n255 h0 h1]
  have P : pwR 8 = 256 := by decide
  have K : okR 8 (w / 256 % 256 * 256 - 256) = true := by
    unfold okR
    rw [P, decide_eq_true (show 0 ≤ w / 256 % 256 * 256 - 256 by omega), decide_eq_true (show (w / 256 % 256 * 256 - 256) % 256 = 0 by omega)]
    rfl
  unfold opR
  rw [A, if_pos K, P]
  omega
theorem op15 {w : Int} (h0 : 0 ≤ w) (h1 : w ≤ 65535) (h : (128 ≤ w / 256 % 256 ∧ w / 256 % 256 ≤ 135)) : opR 33 8 (restR w ⟨33, 40, 32768, 8, 0, 0, 0, 0, 255, -128⟩) = (33 + (w / 256 % 256 - 128)) := by
  have A : restR w ⟨33, 40, 32768, 8, 0, 0, 0, 0, 255, -128⟩ = w / 256 % 256 * 256 - 32768 := by
    have e : bitsR 0 0 0 0 255 = 255 := by decide +kernel
    unfold restR
    rw [e, n255 h0 h1]
  have P : pwR 8 = 256 := by decide
  have K : okR 8 (w / 256 % 256 * 256 - 32768) = true := by
    unfold okR
    rw [P, decide_eq_true (show 0 ≤ w / 256 % 256 * 256 - 32768 by omega), decide_eq_true (show (w / 256 % 256 * 256 - 32768) % 256 = 0 by omega)]
    rfl
  unfold opR
  rw [A, if_pos K, P]
  omega
theorem op16 {w : Int} (h0 : 0 ≤ w) (h1 : w ≤ 65535) (h : (136 ≤ w / 256 % 256 ∧ w / 256 % 256 ≤ 137)) : opR 45 8 (restR w ⟨45, 46, 34816, 8, 0, 0, 0, 0, 255, 0⟩) = (45 + (w / 256 % 256 - 136)) := by
  have A : restR w ⟨45, 46, 34816, 8, 0, 0, 0, 0, 255, 0⟩ = w / 256 % 256 * 256 - 34816 := by
    have e : bitsR 0 0 0 0 255 = 255 := by decide +kernel
    unfold restR
    rw [e, n255 h0 h1]
  have P : pwR 8 = 256 := by decide
  have K : okR 8 (w / 256 % 256 * 256 - 34816) = true := by
    unfold okR
    rw [P, decide_eq_true (show 0 ≤ w / 256 % 256 * 256 - 34816 by omega), decide_eq_true (show (w / 256 % 256 * 256 - 34816) % 256 = 0 by omega)]
    rfl
  unfold opR
  rw [A, if_pos K, P]
  omega
theorem op17 {w : Int} (h0 : 0 ≤ w) (h1 : w ≤ 65535) (h : (10 ≤ w / 16 % 4096 ∧ w / 16 % 4096 ≤ 11)) : opR 53 4 (restR w ⟨53, 54, 160, 4, 0, 0, 0, 0, 15, 0⟩) = (53 + (w / 16 % 4096 - 10)) := by
  have A : restR w ⟨53, 54, 160, 4, 0, 0, 0, 0, 15, 0⟩ = w / 16 % 4096 * 16 - 160 := by
    have e : bitsR 0 0 0 0 15 = 15 := by decide +kernel
    unfold restR
    rw [e, n15 h0 h1]
  have P : pwR 4 = 16 := by decide
  have K : okR 4 (w / 16 % 4096 * 16 - 160) = true := by
    unfold okR
    rw [P, decide_eq_true (show 0 ≤ w / 16 % 4096 * 16 - 160 by omega), decide_eq_true (show (w / 16 % 4096 * 16 - 160) % 16 = 0 by omega)]
    rfl
  unfold opR
  rw [A, if_pos K, P]
  omega
theorem op18 {w : Int} (h0 : 0 ≤ w) (h1 : w ≤ 65535) (h : (0 ≤ w ∧ w ≤ 1)) : opR 50 0 (restR w ⟨50, 51, 0, 0, 0, 0, 0, 0, 0, 0⟩) = (50 + (w - 0)) := by
  have A : restR w ⟨50, 51, 0, 0, 0, 0, 0, 0, 0, 0⟩ = w - 0 := by
    have e : bitsR 0 0 0 0 0 = 0 := by decide +kernel
    unfold restR
    rw [e, n0 h0 h1]
  have P : pwR 0 = 1 := by decide
  have K : okR 0 (w - 0) = true := by
    unfold okR
    rw [P, decide_eq_true (show 0 ≤ w - 0 by omega), decide_eq_true (show (w - 0) % 1 = 0 by omega)]
    rfl
  unfold opR
  rw [A, if_pos K, P]
  omega
theorem op19 {w : Int} (h0 : 0 ≤ w) (h1 : w ≤ 65535) (h : (w = 2)) : opR 49 0 (restR w ⟨49, 49, 2, 0, 0, 0, 0, 0, 0, 0⟩) = 49 := by
  have A : restR w ⟨49, 49, 2, 0, 0, 0, 0, 0, 0, 0⟩ = w - 2 := by
    have e : bitsR 0 0 0 0 0 = 0 := by decide +kernel
    unfold restR
    rw [e, n0 h0 h1]
  have P : pwR 0 = 1 := by decide
  have K : okR 0 (w - 2) = true := by
    unfold okR
    rw [P, decide_eq_true (show 0 ≤ w - 2 by omega), decide_eq_true (show (w - 2) % 1 = 0 by omega)]
    rfl
  unfold opR
  rw [A, if_pos K, P]
  omega
theorem op20 {w : Int} (h0 : 0 ≤ w) (h1 : w ≤ 65535) (h : (3 ≤ w ∧ w ≤ 4)) : opR 47 0 (restR w ⟨47, 48, 3, 0, 0, 0, 0, 0, 0, 0⟩) = (47 + (w - 3)) := by
  have A : restR w ⟨47, 48, 3, 0, 0, 0, 0, 0, 0, 0⟩ = w - 3 := by
    have e : bitsR 0 0 0 0 0 = 0 := by decide +kernel
    unfold restR
    rw [e, n0 h0 h1]
  have P : pwR 0 = 1 := by decide
  have K : okR 0 (w - 3) = true := by
    unfold okR
    rw [P, decide_eq_true (show 0 ≤ w - 3 by omega), decide_eq_true (show (w - 3) % 1 = 0 by omega)]
    rfl
  unfold opR
  rw [A, if_pos K, P]
  omega
theorem op21 {w : Int} (h0 : 0 ≤ w) (h1 : w ≤ 65535) (h : (w = 5)) : opR 52 0 (restR w ⟨52, 52, 5, 0, 0, 0, 0, 0, 0, 0⟩) = 52 := by
  have A : restR w ⟨52, 52, 5, 0, 0, 0, 0, 0, 0, 0⟩ = w - 5 := by
    have e : bitsR 0 0 0 0 0 = 0 := by decide +kernel
    unfold restR
    rw [e, n0 h0 h1]
  have P : pwR 0 = 1 := by decide
  have K : okR 0 (w - 5) = true := by
    unfold okR
    rw [P, decide_eq_true (show 0 ≤ w - 5 by omega), decide_eq_true (show (w - 5) % 1 = 0 by omega)]
    rfl
  unfold opR
  rw [A, if_pos K, P]
  omega
theorem sh0 {w : Int} (h0 : 0 ≤ w) (h1 : w ≤ 65535) (h : (1 ≤ w / 4096 ∧ w / 4096 ≤ 5)) : Took w ⟨1, 5, 4096, 12, 32768, 4032, 63, 0, 0, 0⟩ := by
  have e : shR w = ⟨(1 + (w / 4096 - 1)), false, (w / 64 % 64 / 8 % 8), (w / 64 % 64 % 8), 0, (w % 64 / 8 % 8), (w % 64 % 8), 0, 0, 0⟩ := by
    unfold shR
    rw [if_pos h]
  have t1 : takeR w 4032 = (w / 64 % 64) := by simp [takeR]
  have t2 : takeR w 63 = (w % 64) := by simp [takeR]
  have t3 : takeR w 0 = (0 : Int) := by simp [takeR]
  have t4 : takeR w 0 = (0 : Int) := by simp [takeR]
  have t0 : bits .and .i64 w 32768 = w / 32768 % 2 * 32768 := a32768 w
  have tn : numR 0 (0) (0 : Int) = (0 : Int) := num_id (by omega)
  have hb : (!decide (bits .and .i64 w 32768 = 0)) = false := by rw [t0]; simp; omega
  refine ⟨by simp [rows], read0 h0 h1 (by omega), ?_, ?_, ?_, ?_⟩
  · rw [e]
    unfold rdR
    simp only [hb, t1, t2, t3, t4, tn, op0 h0 h1 (show (1 ≤ w / 4096 % 8 ∧ w / 4096 % 8 ≤ 5) by omega), In.mk.injEq, true_and]
    refine ⟨?_, ?_⟩ <;> first | omega | skip
    all_goals (repeat' (first | constructor | (split <;> omega) | omega))
  · rw [e]
    exact form0 (by simp only; omega)
  · rw [e]
    exact fun k => absurd (show hsR (1 + (w / 4096 - 1)) = true from hs_yes (by omega)) (by rw [k]; decide)
  · rw [e]
    exact fun k => absurd (show hdR (1 + (w / 4096 - 1)) = true from hd_yes (by omega)) (by rw [k]; decide)
theorem sh1 {w : Int} (h0 : 0 ≤ w) (h1 : w ≤ 65535) (h : (9 ≤ w / 4096 ∧ w / 4096 ≤ 13)) : Took w ⟨1, 5, 4096, 12, 32768, 4032, 63, 0, 0, 0⟩ := by
  have e : shR w = ⟨(1 + (w / 4096 - 9)), true, (w / 64 % 64 / 8 % 8), (w / 64 % 64 % 8), 0, (w % 64 / 8 % 8), (w % 64 % 8), 0, 0, 0⟩ := by
    unfold shR
    rw [if_neg (by omega), if_pos h]
  have t1 : takeR w 4032 = (w / 64 % 64) := by simp [takeR]
  have t2 : takeR w 63 = (w % 64) := by simp [takeR]
  have t3 : takeR w 0 = (0 : Int) := by simp [takeR]
  have t4 : takeR w 0 = (0 : Int) := by simp [takeR]
  have t0 : bits .and .i64 w 32768 = w / 32768 % 2 * 32768 := a32768 w
  have tn : numR 0 (0) (0 : Int) = (0 : Int) := num_id (by omega)
  have hb : (!decide (bits .and .i64 w 32768 = 0)) = true := by rw [t0]; simp; omega
  refine ⟨by simp [rows], read0 h0 h1 (by omega), ?_, ?_, ?_, ?_⟩
  · rw [e]
    unfold rdR
    simp only [hb, t1, t2, t3, t4, tn, op0 h0 h1 (show (1 ≤ w / 4096 % 8 ∧ w / 4096 % 8 ≤ 5) by omega), In.mk.injEq, true_and]
    refine ⟨?_, ?_⟩ <;> first | omega | skip
    all_goals (repeat' (first | constructor | (split <;> omega) | omega))
  · rw [e]
    exact form0 (by simp only; omega)
  · rw [e]
    exact fun k => absurd (show hsR (1 + (w / 4096 - 9)) = true from hs_yes (by omega)) (by rw [k]; decide)
  · rw [e]
    exact fun k => absurd (show hdR (1 + (w / 4096 - 9)) = true from hd_yes (by omega)) (by rw [k]; decide)
theorem sh2 {w : Int} (h0 : 0 ≤ w) (h1 : w ≤ 65535) (h : (w / 4096 = 6)) : Took w ⟨6, 7, 24576, 15, 0, 4032, 63, 0, 0, 0⟩ := by
  have e : shR w = ⟨6, false, (w / 64 % 64 / 8 % 8), (w / 64 % 64 % 8), 0, (w % 64 / 8 % 8), (w % 64 % 8), 0, 0, 0⟩ := by
    unfold shR
    rw [if_neg (by omega), if_neg (by omega), if_pos h]
  have t1 : takeR w 4032 = (w / 64 % 64) := by simp [takeR]
  have t2 : takeR w 63 = (w % 64) := by simp [takeR]
  have t3 : takeR w 0 = (0 : Int) := by simp [takeR]
  have t4 : takeR w 0 = (0 : Int) := by simp [takeR]
  have t0 : bits .and .i64 w 0 = 0 := a0 w
  have tn : numR 0 (0) (0 : Int) = (0 : Int) := num_id (by omega)
  have hb : (!decide (bits .and .i64 w 0 = 0)) = false := by rw [t0]; simp
  refine ⟨by simp [rows], read1 h0 h1 (by omega), ?_, ?_, ?_, ?_⟩
  · rw [e]
    unfold rdR
    simp only [hb, t1, t2, t3, t4, tn, op1 h0 h1 (show (w / 4096 = 6 ∨ w / 4096 = 14) by omega), In.mk.injEq, true_and]
    refine ⟨?_, ?_⟩ <;> first | omega | skip
    all_goals (repeat' (first | constructor | (split <;> omega) | omega))
  · rw [e]
    exact form1 (by simp only; omega)
  · rw [e]
    exact fun k => absurd (show hsR 6 = true from hs_yes (by omega)) (by rw [k]; decide)
  · rw [e]
    exact fun k => absurd (show hdR 6 = true from hd_yes (by omega)) (by rw [k]; decide)
theorem sh3 {w : Int} (h0 : 0 ≤ w) (h1 : w ≤ 65535) (h : (w / 4096 = 14)) : Took w ⟨6, 7, 24576, 15, 0, 4032, 63, 0, 0, 0⟩ := by
  have e : shR w = ⟨7, false, (w / 64 % 64 / 8 % 8), (w / 64 % 64 % 8), 0, (w % 64 / 8 % 8), (w % 64 % 8), 0, 0, 0⟩ := by
    unfold shR
    rw [if_neg (by omega), if_neg (by omega), if_neg (by omega), if_pos h]
  have t1 : takeR w 4032 = (w / 64 % 64) := by simp [takeR]
  have t2 : takeR w 63 = (w % 64) := by simp [takeR]
  have t3 : takeR w 0 = (0 : Int) := by simp [takeR]
  have t4 : takeR w 0 = (0 : Int) := by simp [takeR]
  have t0 : bits .and .i64 w 0 = 0 := a0 w
  have tn : numR 0 (0) (0 : Int) = (0 : Int) := num_id (by omega)
  have hb : (!decide (bits .and .i64 w 0 = 0)) = false := by rw [t0]; simp
  refine ⟨by simp [rows], read1 h0 h1 (by omega), ?_, ?_, ?_, ?_⟩
  · rw [e]
    unfold rdR
    simp only [hb, t1, t2, t3, t4, tn, op1 h0 h1 (show (w / 4096 = 6 ∨ w / 4096 = 14) by omega), In.mk.injEq, true_and]
    refine ⟨?_, ?_⟩ <;> first | omega | skip
    all_goals (repeat' (first | constructor | (split <;> omega) | omega))
  · rw [e]
    exact form1 (by simp only; omega)
  · rw [e]
    exact fun k => absurd (show hsR 7 = true from hs_yes (by omega)) (by rw [k]; decide)
  · rw [e]
    exact fun k => absurd (show hdR 7 = true from hd_yes (by omega)) (by rw [k]; decide)
theorem sh4 {w : Int} (h0 : 0 ≤ w) (h1 : w ≤ 65535) (h : (56 ≤ w / 512 ∧ w / 512 ≤ 58)) : Took w ⟨8, 10, 28672, 9, 0, 63, 0, 448, 0, 0⟩ := by
  have e : shR w = ⟨(8 + (w / 512 - 56)), false, (w % 64 / 8 % 8), (w % 64 % 8), 0, 0, 0, 0, (w / 64 % 8), 0⟩ := by
    unfold shR
    rw [if_neg (by omega), if_neg (by omega), if_neg (by omega), if_neg (by omega), if_pos h]
  have t1 : takeR w 63 = (w % 64) := by simp [takeR]
  have t2 : takeR w 0 = (0 : Int) := by simp [takeR]
  have t3 : takeR w 448 = (w / 64 % 8) := by simp [takeR]
  have t4 : takeR w 0 = (0 : Int) := by simp [takeR]
  have t0 : bits .and .i64 w 0 = 0 := a0 w
  have tn : numR 0 (0) (0 : Int) = (0 : Int) := num_id (by omega)
  have hb : (!decide (bits .and .i64 w 0 = 0)) = false := by rw [t0]; simp
  refine ⟨by simp [rows], read2 h0 h1 (by omega), ?_, ?_, ?_, ?_⟩
  · rw [e]
    unfold rdR
    simp only [hb, t1, t2, t3, t4, tn, op2 h0 h1 (show (56 ≤ w / 512 % 128 ∧ w / 512 % 128 ≤ 58) by omega), In.mk.injEq, true_and]
    refine ⟨?_, ?_⟩ <;> first | omega | skip
    all_goals (repeat' (first | constructor | (split <;> omega) | omega))
  · rw [e]
    exact form2 (by simp only; omega)
  · rw [e]
    exact fun k => absurd (show hsR (8 + (w / 512 - 56)) = true from hs_yes (by omega)) (by rw [k]; decide)
  · rw [e]
    exact fun _ => ⟨rfl, rfl⟩
theorem sh5 {w : Int} (h0 : 0 ≤ w) (h1 : w ≤ 65535) (h : (w / 512 = 60)) : Took w ⟨11, 11, 30720, 0, 0, 0, 63, 448, 0, 0⟩ := by
  have e : shR w = ⟨11, false, 0, 0, 0, (w % 64 / 8 % 8), (w % 64 % 8), 0, (w / 64 % 8), 0⟩ := by
    unfold shR
    rw [if_neg (by omega), if_neg (by omega), if_neg (by omega), if_neg (by omega), if_neg (by omega), if_pos h]
  have t1 : takeR w 0 = (0 : Int) := by simp [takeR]
  have t2 : takeR w 63 = (w % 64) := by simp [takeR]
  have t3 : takeR w 448 = (w / 64 % 8) := by simp [takeR]
  have t4 : takeR w 0 = (0 : Int) := by simp [takeR]
  have t0 : bits .and .i64 w 0 = 0 := a0 w
  have tn : numR 0 (0) (0 : Int) = (0 : Int) := num_id (by omega)
  have hb : (!decide (bits .and .i64 w 0 = 0)) = false := by rw [t0]; simp
  refine ⟨by simp [rows], read3 h0 h1 (by omega), ?_, ?_, ?_, ?_⟩
  · rw [e]
    unfold rdR
    simp only [hb, t1, t2, t3, t4, tn, op3 h0 h1 (show (w / 512 % 128 = 60) by omega), In.mk.injEq, true_and]
    refine ⟨?_, ?_⟩ <;> first | omega | skip
    all_goals (repeat' (first | constructor | (split <;> omega) | omega))
  · rw [e]
    exact form3 (by simp only; omega)
  · rw [e]
    exact fun _ => ⟨rfl, rfl⟩
  · rw [e]
    exact fun k => absurd (show hdR 11 = true from hd_yes (by omega)) (by rw [k]; decide)
theorem sh6 {w : Int} (h0 : 0 ≤ w) (h1 : w ≤ 65535) (h : (w / 512 = 63)) : Took w ⟨44, 44, 32256, 0, 0, 0, 0, 448, 63, 0⟩ := by
  have e : shR w = ⟨44, false, 0, 0, 0, 0, 0, 0, (w / 64 % 8), (w % 64)⟩ := by
    unfold shR
    rw [if_neg (by omega), if_neg (by omega), if_neg (by omega), if_neg (by omega), if_neg (by omega), if_neg (by omega), if_pos h]
  have t1 : takeR w 0 = (0 : Int) := by simp [takeR]
  have t2 : takeR w 0 = (0 : Int) := by simp [takeR]
  have t3 : takeR w 448 = (w / 64 % 8) := by simp [takeR]
  have t4 : takeR w 63 = (w % 64) := by simp [takeR]
  have t0 : bits .and .i64 w 0 = 0 := a0 w
  have tn : numR 63 (0) (w % 64) = (w % 64) := num_id (by omega)
  have hb : (!decide (bits .and .i64 w 0 = 0)) = false := by rw [t0]; simp
  refine ⟨by simp [rows], read13 h0 h1 (by omega), ?_, ?_, ?_, ?_⟩
  · rw [e]
    unfold rdR
    simp only [hb, t1, t2, t3, t4, tn, op13 h0 h1 (show (w / 512 % 128 = 63) by omega), In.mk.injEq, true_and]
    refine ⟨?_, ?_⟩ <;> first | omega | skip
    all_goals (repeat' (first | constructor | (split <;> omega) | omega))
  · rw [e]
    exact form13 (by simp only; omega)
  · rw [e]
    exact fun _ => ⟨rfl, rfl⟩
  · rw [e]
    exact fun _ => ⟨rfl, rfl⟩
theorem sh7 {w : Int} (h0 : 0 ≤ w) (h1 : w ≤ 65535) (h : (40 ≤ w / 64 ∧ w / 64 ≤ 47)) : Took w ⟨12, 19, 2560, 6, 32768, 0, 63, 0, 0, 0⟩ := by
  have e : shR w = ⟨(12 + (w / 64 - 40)), false, 0, 0, 0, (w % 64 / 8 % 8), (w % 64 % 8), 0, 0, 0⟩ := by
    unfold shR
    rw [if_neg (by omega), if_neg (by omega), if_neg (by omega), if_neg (by omega), if_neg (by omega), if_neg (by omega), if_neg (by omega), if_pos h]
  have t1 : takeR w 0 = (0 : Int) := by simp [takeR]
  have t2 : takeR w 63 = (w % 64) := by simp [takeR]
  have t3 : takeR w 0 = (0 : Int) := by simp [takeR]
  have t4 : takeR w 0 = (0 : Int) := by simp [takeR]
  have t0 : bits .and .i64 w 32768 = w / 32768 % 2 * 32768 := a32768 w
  have tn : numR 0 (0) (0 : Int) = (0 : Int) := num_id (by omega)
  have hb : (!decide (bits .and .i64 w 32768 = 0)) = false := by rw [t0]; simp; omega
  refine ⟨by simp [rows], read4 h0 h1 (by omega), ?_, ?_, ?_, ?_⟩
  · rw [e]
    unfold rdR
    simp only [hb, t1, t2, t3, t4, tn, op4 h0 h1 (show (40 ≤ w / 64 % 512 ∧ w / 64 % 512 ≤ 47) by omega), In.mk.injEq, true_and]
    refine ⟨?_, ?_⟩ <;> first | omega | skip
    all_goals (repeat' (first | constructor | (split <;> omega) | omega))
  · rw [e]
    exact form4 (by simp only; omega)
  · rw [e]
    exact fun _ => ⟨rfl, rfl⟩
  · rw [e]
    exact fun k => absurd (show hdR (12 + (w / 64 - 40)) = true from hd_yes (by omega)) (by rw [k]; decide)
theorem sh8 {w : Int} (h0 : 0 ≤ w) (h1 : w ≤ 65535) (h : (552 ≤ w / 64 ∧ w / 64 ≤ 559)) : Took w ⟨12, 19, 2560, 6, 32768, 0, 63, 0, 0, 0⟩ := by
  have e : shR w = ⟨(12 + (w / 64 - 552)), true, 0, 0, 0, (w % 64 / 8 % 8), (w % 64 % 8), 0, 0, 0⟩ := by
    unfold shR
    rw [if_neg (by omega), if_neg (by omega), if_neg (by omega), if_neg (by omega), if_neg (by omega), if_neg (by omega), if_neg (by omega), if_neg (by omega), if_pos h]
  have t1 : takeR w 0 = (0 : Int) := by simp [takeR]
  have t2 : takeR w 63 = (w % 64) := by simp [takeR]
  have t3 : takeR w 0 = (0 : Int) := by simp [takeR]
  have t4 : takeR w 0 = (0 : Int) := by simp [takeR]
  have t0 : bits .and .i64 w 32768 = w / 32768 % 2 * 32768 := a32768 w
  have tn : numR 0 (0) (0 : Int) = (0 : Int) := num_id (by omega)
  have hb : (!decide (bits .and .i64 w 32768 = 0)) = true := by rw [t0]; simp; omega
  refine ⟨by simp [rows], read4 h0 h1 (by omega), ?_, ?_, ?_, ?_⟩
  · rw [e]
    unfold rdR
    simp only [hb, t1, t2, t3, t4, tn, op4 h0 h1 (show (40 ≤ w / 64 % 512 ∧ w / 64 % 512 ≤ 47) by omega), In.mk.injEq, true_and]
    refine ⟨?_, ?_⟩ <;> first | omega | skip
    all_goals (repeat' (first | constructor | (split <;> omega) | omega))
  · rw [e]
    exact form4 (by simp only; omega)
  · rw [e]
    exact fun _ => ⟨rfl, rfl⟩
  · rw [e]
    exact fun k => absurd (show hdR (12 + (w / 64 - 552)) = true from hd_yes (by omega)) (by rw [k]; decide)
theorem sh9 {w : Int} (h0 : 0 ≤ w) (h1 : w ≤ 65535) (h : (48 ≤ w / 64 ∧ w / 64 ≤ 51)) : Took w ⟨20, 23, 3072, 6, 32768, 0, 63, 0, 0, 0⟩ := by
  have e : shR w = ⟨(20 + (w / 64 - 48)), false, 0, 0, 0, (w % 64 / 8 % 8), (w % 64 % 8), 0, 0, 0⟩ := by
    unfold shR
    rw [if_neg (by omega), if_neg (by omega), if_neg (by omega), if_neg (by omega), if_neg (by omega), if_neg (by omega), if_neg (by omega), if_neg (by omega), if_neg (by omega), if_pos h]
  have t1 : takeR w 0 = (0 : Int) := by simp [takeR]
  have t2 : takeR w 63 = (w % 64) := by simp [takeR]
  have t3 : takeR w 0 = (0 : Int) := by simp [takeR]
  have t4 : takeR w 0 = (0 : Int) := by simp [takeR]
  have t0 : bits .and .i64 w 32768 = w / 32768 % 2 * 32768 := a32768 w
  have tn : numR 0 (0) (0 : Int) = (0 : Int) := num_id (by omega)
  have hb : (!decide (bits .and .i64 w 32768 = 0)) = false := by rw [t0]; simp; omega
  refine ⟨by simp [rows], read5 h0 h1 (by omega), ?_, ?_, ?_, ?_⟩
  · rw [e]
    unfold rdR
    simp only [hb, t1, t2, t3, t4, tn, op5 h0 h1 (show (48 ≤ w / 64 % 512 ∧ w / 64 % 512 ≤ 51) by omega), In.mk.injEq, true_and]
    refine ⟨?_, ?_⟩ <;> first | omega | skip
    all_goals (repeat' (first | constructor | (split <;> omega) | omega))
  · rw [e]
    exact form5 (by simp only; omega)
  · rw [e]
    exact fun _ => ⟨rfl, rfl⟩
  · rw [e]
    exact fun k => absurd (show hdR (20 + (w / 64 - 48)) = true from hd_yes (by omega)) (by rw [k]; decide)
theorem sh10 {w : Int} (h0 : 0 ≤ w) (h1 : w ≤ 65535) (h : (560 ≤ w / 64 ∧ w / 64 ≤ 563)) : Took w ⟨20, 23, 3072, 6, 32768, 0, 63, 0, 0, 0⟩ := by
  have e : shR w = ⟨(20 + (w / 64 - 560)), true, 0, 0, 0, (w % 64 / 8 % 8), (w % 64 % 8), 0, 0, 0⟩ := by
    unfold shR
    rw [if_neg (by omega), if_neg (by omega), if_neg (by omega), if_neg (by omega), if_neg (by omega), if_neg (by omega), if_neg (by omega), if_neg (by omega), if_neg (by omega), if_neg (by omega), if_pos h]
  have t1 : takeR w 0 = (0 : Int) := by simp [takeR]
  have t2 : takeR w 63 = (w % 64) := by simp [takeR]
  have t3 : takeR w 0 = (0 : Int) := by simp [takeR]
  have t4 : takeR w 0 = (0 : Int) := by simp [takeR]
  have t0 : bits .and .i64 w 32768 = w / 32768 % 2 * 32768 := a32768 w
  have tn : numR 0 (0) (0 : Int) = (0 : Int) := num_id (by omega)
  have hb : (!decide (bits .and .i64 w 32768 = 0)) = true := by rw [t0]; simp; omega
  refine ⟨by simp [rows], read5 h0 h1 (by omega), ?_, ?_, ?_, ?_⟩
  · rw [e]
    unfold rdR
    simp only [hb, t1, t2, t3, t4, tn, op5 h0 h1 (show (48 ≤ w / 64 % 512 ∧ w / 64 % 512 ≤ 51) by omega), In.mk.injEq, true_and]
    refine ⟨?_, ?_⟩ <;> first | omega | skip
    all_goals (repeat' (first | constructor | (split <;> omega) | omega))
  · rw [e]
    exact form5 (by simp only; omega)
  · rw [e]
    exact fun _ => ⟨rfl, rfl⟩
  · rw [e]
    exact fun k => absurd (show hdR (20 + (w / 64 - 560)) = true from hd_yes (by omega)) (by rw [k]; decide)
theorem sh11 {w : Int} (h0 : 0 ≤ w) (h1 : w ≤ 65535) (h : (w / 64 = 3)) : Took w ⟨24, 24, 192, 0, 0, 0, 63, 0, 0, 0⟩ := by
  have e : shR w = ⟨24, false, 0, 0, 0, (w % 64 / 8 % 8), (w % 64 % 8), 0, 0, 0⟩ := by
    unfold shR
    rw [if_neg (by omega), if_neg (by omega), if_neg (by omega), if_neg (by omega), if_neg (by omega), if_neg (by omega), if_neg (by omega), if_neg (by omega), if_neg (by omega), if_neg (by omega), if_neg (by omega), if_pos h]
  have t1 : takeR w 0 = (0 : Int) := by simp [takeR]
  have t2 : takeR w 63 = (w % 64) := by simp [takeR]
  have t3 : takeR w 0 = (0 : Int) := by simp [takeR]
  have t4 : takeR w 0 = (0 : Int) := by simp [takeR]
  have t0 : bits .and .i64 w 0 = 0 := a0 w
  have tn : numR 0 (0) (0 : Int) = (0 : Int) := num_id (by omega)
  have hb : (!decide (bits .and .i64 w 0 = 0)) = false := by rw [t0]; simp
  refine ⟨by simp [rows], read6 h0 h1 (by omega), ?_, ?_, ?_, ?_⟩
  · rw [e]
    unfold rdR
    simp only [hb, t1, t2, t3, t4, tn, op6 h0 h1 (show (w / 64 % 1024 = 3) by omega), In.mk.injEq, true_and]
    refine ⟨?_, ?_⟩ <;> first | omega | skip
    all_goals (repeat' (first | constructor | (split <;> omega) | omega))
  · rw [e]
    exact form6 (by simp only; omega)
  · rw [e]
    exact fun _ => ⟨rfl, rfl⟩
  · rw [e]
    exact fun k => absurd (show hdR 24 = true from hd_yes (by omega)) (by rw [k]; decide)
theorem sh12 {w : Int} (h0 : 0 ≤ w) (h1 : w ≤ 65535) (h : (w / 64 = 55)) : Took w ⟨25, 25, 3520, 0, 0, 0, 63, 0, 0, 0⟩ := by
  have e : shR w = ⟨25, false, 0, 0, 0, (w % 64 / 8 % 8), (w % 64 % 8), 0, 0, 0⟩ := by
    unfold shR
    rw [if_neg (by omega), if_neg (by omega), if_neg (by omega), if_neg (by omega), if_neg (by omega), if_neg (by omega), if_neg (by omega), if_neg (by omega), if_neg (by omega), if_neg (by omega), if_neg (by omega), if_neg (by omega), if_pos h]
  have t1 : takeR w 0 = (0 : Int) := by simp [takeR]
  have t2 : takeR w 63 = (w % 64) := by simp [takeR]
  have t3 : takeR w 0 = (0 : Int) := by simp [takeR]
  have t4 : takeR w 0 = (0 : Int) := by simp [takeR]
  have t0 : bits .and .i64 w 0 = 0 := a0 w
  have tn : numR 0 (0) (0 : Int) = (0 : Int) := num_id (by omega)
  have hb : (!decide (bits .and .i64 w 0 = 0)) = false := by rw [t0]; simp
  refine ⟨by simp [rows], read7 h0 h1 (by omega), ?_, ?_, ?_, ?_⟩
  · rw [e]
    unfold rdR
    simp only [hb, t1, t2, t3, t4, tn, op7 h0 h1 (show (w / 64 % 1024 = 55) by omega), In.mk.injEq, true_and]
    refine ⟨?_, ?_⟩ <;> first | omega | skip
    all_goals (repeat' (first | constructor | (split <;> omega) | omega))
  · rw [e]
    exact form7 (by simp only; omega)
  · rw [e]
    exact fun _ => ⟨rfl, rfl⟩
  · rw [e]
    exact fun k => absurd (show hdR 25 = true from hd_yes (by omega)) (by rw [k]; decide)
theorem sh13 {w : Int} (h0 : 0 ≤ w) (h1 : w ≤ 65535) (h : (w / 64 = 53)) : Took w ⟨55, 55, 3392, 0, 0, 63, 0, 0, 0, 0⟩ := by
  have e : shR w = ⟨55, false, (w % 64 / 8 % 8), (w % 64 % 8), 0, 0, 0, 0, 0, 0⟩ := by
    unfold shR
    rw [if_neg (by omega), if_neg (by omega), if_neg (by omega), if_neg (by omega), if_neg (by omega), if_neg (by omega), if_neg (by omega), if_neg (by omega), if_neg (by omega), if_neg (by omega), if_neg (by omega), if_neg (by omega), if_neg (by omega), if_pos h]
  have t1 : takeR w 63 = (w % 64) := by simp [takeR]
  have t2 : takeR w 0 = (0 : Int) := by simp [takeR]
  have t3 : takeR w 0 = (0 : Int) := by simp [takeR]
  have t4 : takeR w 0 = (0 : Int) := by simp [takeR]
  have t0 : bits .and .i64 w 0 = 0 := a0 w
  have tn : numR 0 (0) (0 : Int) = (0 : Int) := num_id (by omega)
  have hb : (!decide (bits .and .i64 w 0 = 0)) = false := by rw [t0]; simp
  refine ⟨by simp [rows], read8 h0 h1 (by omega), ?_, ?_, ?_, ?_⟩
  · rw [e]
    unfold rdR
    simp only [hb, t1, t2, t3, t4, tn, op8 h0 h1 (show (w / 64 % 1024 = 53) by omega), In.mk.injEq, true_and]
    refine ⟨?_, ?_⟩ <;> first | omega | skip
    all_goals (repeat' (first | constructor | (split <;> omega) | omega))
  · rw [e]
    exact form8 (by simp only; omega)
  · rw [e]
    exact fun k => absurd (show hsR 55 = true from hs_yes (by omega)) (by rw [k]; decide)
  · rw [e]
    exact fun _ => ⟨rfl, rfl⟩
theorem sh14 {w : Int} (h0 : 0 ≤ w) (h1 : w ≤ 65535) (h : (w / 64 = 54)) : Took w ⟨56, 56, 3456, 0, 0, 0, 63, 0, 0, 0⟩ := by
  have e : shR w = ⟨56, false, 0, 0, 0, (w % 64 / 8 % 8), (w % 64 % 8), 0, 0, 0⟩ := by
    unfold shR
    rw [if_neg (by omega), if_neg (by omega), if_neg (by omega), if_neg (by omega), if_neg (by omega), if_neg (by omega), if_neg (by omega), if_neg (by omega), if_neg (by omega), if_neg (by omega), if_neg (by omega), if_neg (by omega), if_neg (by omega), if_neg (by omega), if_pos h]
  have t1 : takeR w 0 = (0 : Int) := by simp [takeR]
  have t2 : takeR w 63 = (w % 64) := by simp [takeR]
  have t3 : takeR w 0 = (0 : Int) := by simp [takeR]
  have t4 : takeR w 0 = (0 : Int) := by simp [takeR]
  have t0 : bits .and .i64 w 0 = 0 := a0 w
  have tn : numR 0 (0) (0 : Int) = (0 : Int) := num_id (by omega)
  have hb : (!decide (bits .and .i64 w 0 = 0)) = false := by rw [t0]; simp
  refine ⟨by simp [rows], read9 h0 h1 (by omega), ?_, ?_, ?_, ?_⟩
  · rw [e]
    unfold rdR
    simp only [hb, t1, t2, t3, t4, tn, op9 h0 h1 (show (w / 64 % 1024 = 54) by omega), In.mk.injEq, true_and]
    refine ⟨?_, ?_⟩ <;> first | omega | skip
    all_goals (repeat' (first | constructor | (split <;> omega) | omega))
  · rw [e]
    exact form9 (by simp only; omega)
  · rw [e]
    exact fun _ => ⟨rfl, rfl⟩
  · rw [e]
    exact fun k => absurd (show hdR 56 = true from hd_yes (by omega)) (by rw [k]; decide)
theorem sh15 {w : Int} (h0 : 0 ≤ w) (h1 : w ≤ 65535) (h : (w / 64 = 1)) : Took w ⟨41, 41, 64, 0, 0, 0, 63, 0, 0, 0⟩ := by
  have e : shR w = ⟨41, false, 0, 0, 0, (w % 64 / 8 % 8), (w % 64 % 8), 0, 0, 0⟩ := by
    unfold shR
    rw [if_neg (by omega), if_neg (by omega), if_neg (by omega), if_neg (by omega), if_neg (by omega), if_neg (by omega), if_neg (by omega), if_neg (by omega), if_neg (by omega), if_neg (by omega), if_neg (by omega), if_neg (by omega), if_neg (by omega), if_neg (by omega), if_neg (by omega), if_pos h]
  have t1 : takeR w 0 = (0 : Int) := by simp [takeR]
  have t2 : takeR w 63 = (w % 64) := by simp [takeR]
  have t3 : takeR w 0 = (0 : Int) := by simp [takeR]
  have t4 : takeR w 0 = (0 : Int) := by simp [takeR]
  have t0 : bits .and .i64 w 0 = 0 := a0 w
  have tn : numR 0 (0) (0 : Int) = (0 : Int) := num_id (by omega)
  have hb : (!decide (bits .and .i64 w 0 = 0)) = false := by rw [t0]; simp
  refine ⟨by simp [rows], read10 h0 h1 (by omega), ?_, ?_, ?_, ?_⟩
  · rw [e]
    unfold rdR
    simp only [hb, t1, t2, t3, t4, tn, op10 h0 h1 (show (w / 64 % 1024 = 1) by omega), In.mk.injEq, true_and]
    refine ⟨?_, ?_⟩ <;> first | omega | skip
    all_goals (repeat' (first | constructor | (split <;> omega) | omega))
  · rw [e]
    exact form10 (by simp only; omega)
  · rw [e]
    exact fun _ => ⟨rfl, rfl⟩
  · rw [e]
    exact fun k => absurd (show hdR 41 = true from hd_yes (by omega)) (by rw [k]; decide)
theorem sh16 {w : Int} (h0 : 0 ≤ w) (h1 : w ≤ 65535) (h : (w / 512 = 4)) : Took w ⟨42, 42, 2048, 0, 0, 0, 63, 448, 0, 0⟩ := by
  have e : shR w = ⟨42, false, 0, 0, 0, (w % 64 / 8 % 8), (w % 64 % 8), 0, (w / 64 % 8), 0⟩ := by
    unfold shR
    rw [if_neg (by omega), if_neg (by omega), if_neg (by omega), if_neg (by omega), if_neg (by omega), if_neg (by omega), if_neg (by omega), if_neg (by omega), if_neg (by omega), if_neg (by omega), if_neg (by omega), if_neg (by omega), if_neg (by omega), if_neg (by omega), if_neg (by omega), if_neg (by omega), if_pos h]
  have t1 : takeR w 0 = (0 : Int) := by simp [takeR]
  have t2 : takeR w 63 = (w % 64) := by simp [takeR]
  have t3 : takeR w 448 = (w / 64 % 8) := by simp [takeR]
  have t4 : takeR w 0 = (0 : Int) := by simp [takeR]
  have t0 : bits .and .i64 w 0 = 0 := a0 w
  have tn : numR 0 (0) (0 : Int) = (0 : Int) := num_id (by omega)
  have hb : (!decide (bits .and .i64 w 0 = 0)) = false := by rw [t0]; simp
  refine ⟨by simp [rows], read11 h0 h1 (by omega), ?_, ?_, ?_, ?_⟩
  · rw [e]
    unfold rdR
    simp only [hb, t1, t2, t3, t4, tn, op11 h0 h1 (show (w / 512 % 128 = 4) by omega), In.mk.injEq, true_and]
    refine ⟨?_, ?_⟩ <;> first | omega | skip
    all_goals (repeat' (first | constructor | (split <;> omega) | omega))
  · rw [e]
    exact form11 (by simp only; omega)
  · rw [e]
    exact fun _ => ⟨rfl, rfl⟩
  · rw [e]
    exact fun k => absurd (show hdR 42 = true from hd_yes (by omega)) (by rw [k]; decide)
theorem sh17 {w : Int} (h0 : 0 ≤ w) (h1 : w ≤ 65535) (h : (w / 8 = 16)) : Took w ⟨43, 43, 128, 0, 0, 0, 0, 7, 0, 0⟩ := by
  have e : shR w = ⟨43, false, 0, 0, 0, 0, 0, 0, (w % 8), 0⟩ := by
    unfold shR
    rw [if_neg (by omega), if_neg (by omega), if_neg (by omega), if_neg (by omega), if_neg (by omega), if_neg (by omega), if_neg (by omega), if_neg (by omega), if_neg (by omega), if_neg (by omega), if_neg (by omega), if_neg (by omega), if_neg (by omega), if_neg (by omega), if_neg (by omega), if_neg (by omega), if_neg (by omega), if_pos h]
  have t1 : takeR w 0 = (0 : Int) := by simp [takeR]
  have t2 : takeR w 0 = (0 : Int) := by simp [takeR]
  have t3 : takeR w 7 = (w % 8) := by simp [takeR]
  have t4 : takeR w 0 = (0 : Int) := by simp [takeR]
  have t0 : bits .and .i64 w 0 = 0 := a0 w
  have tn : numR 0 (0) (0 : Int) = (0 : Int) := num_id (by omega)
  have hb : (!decide (bits .and .i64 w 0 = 0)) = false := by rw [t0]; simp
  refine ⟨by simp [rows], read12 h0 h1 (by omega), ?_, ?_, ?_, ?_⟩
  · rw [e]
    unfold rdR
    simp only [hb, t1, t2, t3, t4, tn, op12 h0 h1 (show (w / 8 % 8192 = 16) by omega), In.mk.injEq, true_and]
    refine ⟨?_, ?_⟩ <;> first | omega | skip
    all_goals (repeat' (first | constructor | (split <;> omega) | omega))
  · rw [e]
    exact form12 (by simp only; omega)
  · rw [e]
    exact fun _ => ⟨rfl, rfl⟩
  · rw [e]
    exact fun _ => ⟨rfl, rfl⟩
theorem sh18 {w : Int} (h0 : 0 ≤ w) (h1 : w ≤ 65535) (h : (1 ≤ w / 256 ∧ w / 256 ≤ 7)) : Took w ⟨26, 32, 256, 8, 0, 0, 0, 0, 255, -128⟩ := by
  have e : shR w = ⟨(26 + (w / 256 - 1)), false, 0, 0, 0, 0, 0, 0, 0, (sgR (w % 256))⟩ := by
    unfold shR
    rw [if_neg (by omega), if_neg (by omega), if_neg (by omega), if_neg (by omega), if_neg (by omega), if_neg (by omega), if_neg (by omega), if_neg (by omega), if_neg (by omega), if_neg (by omega), if_neg (by omega), if_neg (by omega), if_neg (by omega), if_neg (by omega), if_neg (by omega), if_neg (by omega), if_neg (by omega), if_neg (by omega), if_pos h]
  have t1 : takeR w 0 = (0 : Int) := by simp [takeR]
  have t2 : takeR w 0 = (0 : Int) := by simp [takeR]
  have t3 : takeR w 0 = (0 : Int) := by simp [takeR]
  have t4 : takeR w 255 = (w % 256) := by simp [takeR]
  have t0 : bits .and .i64 w 0 = 0 := a0 w
  have tn : numR 255 (-128) (w % 256) = sgR (w % 256) := num_sg (by omega)
  have hb : (!decide (bits .and .i64 w 0 = 0)) = false := by rw [t0]; simp
  refine ⟨by simp [rows], read14 h0 h1 (by omega), ?_, ?_, ?_, ?_⟩
  · rw [e]
    unfold rdR
    simp only [hb, t1, t2, t3, t4, tn, op14 h0 h1 (show (1 ≤ w / 256 % 256 ∧ w / 256 % 256 ≤ 7) by omega), In.mk.injEq, true_and]
    refine ⟨?_, ?_⟩ <;> first | omega | skip
    all_goals (repeat' (first | constructor | (split <;> omega) | omega))
  · rw [e]
    exact form14 (by simp only; omega)
  · rw [e]
    exact fun _ => ⟨rfl, rfl⟩
  · rw [e]
    exact fun _ => ⟨rfl, rfl⟩
theorem sh19 {w : Int} (h0 : 0 ≤ w) (h1 : w ≤ 65535) (h : (128 ≤ w / 256 ∧ w / 256 ≤ 135)) : Took w ⟨33, 40, 32768, 8, 0, 0, 0, 0, 255, -128⟩ := by
  have e : shR w = ⟨(33 + (w / 256 - 128)), false, 0, 0, 0, 0, 0, 0, 0, (sgR (w % 256))⟩ := by
    unfold shR
    rw [if_neg (by omega), if_neg (by omega), if_neg (by omega), if_neg (by omega), if_neg (by omega), if_neg (by omega), if_neg (by omega), if_neg (by omega), if_neg (by omega), if_neg (by omega), if_neg (by omega), if_neg (by omega), if_neg (by omega), if_neg (by omega), if_neg (by omega), if_neg (by omega), if_neg (by omega), if_neg (by omega), if_neg (by omega), if_pos h]
  have t1 : takeR w 0 = (0 : Int) := by simp [takeR]
  have t2 : takeR w 0 = (0 : Int) := by simp [takeR]
  have t3 : takeR w 0 = (0 : Int) := by simp [takeR]
  have t4 : takeR w 255 = (w % 256) := by simp [takeR]
  have t0 : bits .and .i64 w 0 = 0 := a0 w
  have tn : numR 255 (-128) (w % 256) = sgR (w % 256) := num_sg (by omega)
  have hb : (!decide (bits .and .i64 w 0 = 0)) = false := by rw [t0]; simp
  refine ⟨by simp [rows], read15 h0 h1 (by omega), ?_, ?_, ?_, ?_⟩
  · rw [e]
    unfold rdR
    simp only [hb, t1, t2, t3, t4, tn, op15 h0 h1 (show (128 ≤ w / 256 % 256 ∧ w / 256 % 256 ≤ 135) by omega), In.mk.injEq, true_and]
    refine ⟨?_, ?_⟩ <;> first | omega | skip
    all_goals (repeat' (first | constructor | (split <;> omega) | omega))
  · rw [e]
    exact form15 (by simp only; omega)
  · rw [e]
    exact fun _ => ⟨rfl, rfl⟩
  · rw [e]
    exact fun _ => ⟨rfl, rfl⟩
theorem sh20 {w : Int} (h0 : 0 ≤ w) (h1 : w ≤ 65535) (h : (w / 256 = 136)) : Took w ⟨45, 46, 34816, 8, 0, 0, 0, 0, 255, 0⟩ := by
  have e : shR w = ⟨45, false, 0, 0, 0, 0, 0, 0, 0, (w % 256)⟩ := by
    unfold shR
    rw [if_neg (by omega), if_neg (by omega), if_neg (by omega), if_neg (by omega), if_neg (by omega), if_neg (by omega), if_neg (by omega), if_neg (by omega), if_neg (by omega), if_neg (by omega), if_neg (by omega), if_neg (by omega), if_neg (by omega), if_neg (by omega), if_neg (by omega), if_neg (by omega), if_neg (by omega), if_neg (by omega), if_neg (by omega), if_neg (by omega), if_pos h]
  have t1 : takeR w 0 = (0 : Int) := by simp [takeR]
  have t2 : takeR w 0 = (0 : Int) := by simp [takeR]
  have t3 : takeR w 0 = (0 : Int) := by simp [takeR]
  have t4 : takeR w 255 = (w % 256) := by simp [takeR]
  have t0 : bits .and .i64 w 0 = 0 := a0 w
  have tn : numR 255 (0) (w % 256) = (w % 256) := num_id (by omega)
  have hb : (!decide (bits .and .i64 w 0 = 0)) = false := by rw [t0]; simp
  refine ⟨by simp [rows], read16 h0 h1 (by omega), ?_, ?_, ?_, ?_⟩
  · rw [e]
    unfold rdR
    simp only [hb, t1, t2, t3, t4, tn, op16 h0 h1 (show (136 ≤ w / 256 % 256 ∧ w / 256 % 256 ≤ 137) by omega), In.mk.injEq, true_and]
    refine ⟨?_, ?_⟩ <;> first | omega | skip
    all_goals (repeat' (first | constructor | (split <;> omega) | omega))
  · rw [e]
    exact form16 (by simp only; omega)
  · rw [e]
    exact fun _ => ⟨rfl, rfl⟩
  · rw [e]
    exact fun _ => ⟨rfl, rfl⟩
theorem sh21 {w : Int} (h0 : 0 ≤ w) (h1 : w ≤ 65535) (h : (w / 256 = 137)) : Took w ⟨45, 46, 34816, 8, 0, 0, 0, 0, 255, 0⟩ := by
  have e : shR w = ⟨46, false, 0, 0, 0, 0, 0, 0, 0, (w % 256)⟩ := by
    unfold shR
    rw [if_neg (by omega), if_neg (by omega), if_neg (by omega), if_neg (by omega), if_neg (by omega), if_neg (by omega), if_neg (by omega), if_neg (by omega), if_neg (by omega), if_neg (by omega), if_neg (by omega), if_neg (by omega), if_neg (by omega), if_neg (by omega), if_neg (by omega), if_neg (by omega), if_neg (by omega), if_neg (by omega), if_neg (by omega), if_neg (by omega), if_neg (by omega), if_pos h]
  have t1 : takeR w 0 = (0 : Int) := by simp [takeR]
  have t2 : takeR w 0 = (0 : Int) := by simp [takeR]
  have t3 : takeR w 0 = (0 : Int) := by simp [takeR]
  have t4 : takeR w 255 = (w % 256) := by simp [takeR]
  have t0 : bits .and .i64 w 0 = 0 := a0 w
  have tn : numR 255 (0) (w % 256) = (w % 256) := num_id (by omega)
  have hb : (!decide (bits .and .i64 w 0 = 0)) = false := by rw [t0]; simp
  refine ⟨by simp [rows], read16 h0 h1 (by omega), ?_, ?_, ?_, ?_⟩
  · rw [e]
    unfold rdR
    simp only [hb, t1, t2, t3, t4, tn, op16 h0 h1 (show (136 ≤ w / 256 % 256 ∧ w / 256 % 256 ≤ 137) by omega), In.mk.injEq, true_and]
    refine ⟨?_, ?_⟩ <;> first | omega | skip
    all_goals (repeat' (first | constructor | (split <;> omega) | omega))
  · rw [e]
    exact form16 (by simp only; omega)
  · rw [e]
    exact fun _ => ⟨rfl, rfl⟩
  · rw [e]
    exact fun _ => ⟨rfl, rfl⟩
theorem sh22 {w : Int} (h0 : 0 ≤ w) (h1 : w ≤ 65535) (h : (w / 16 = 10)) : Took w ⟨53, 54, 160, 4, 0, 0, 0, 0, 15, 0⟩ := by
  have e : shR w = ⟨53, false, 0, 0, 0, 0, 0, 0, 0, (w % 16)⟩ := by
    unfold shR
    rw [if_neg (by omega), if_neg (by omega), if_neg (by omega), if_neg (by omega), if_neg (by omega), if_neg (by omega), if_neg (by omega), if_neg (by omega), if_neg (by omega), if_neg (by omega), if_neg (by omega), if_neg (by omega), if_neg (by omega), if_neg (by omega), if_neg (by omega), if_neg (by omega), if_neg (by omega), if_neg (by omega), if_neg (by omega), if_neg (by omega), if_neg (by omega), if_neg (by omega), if_pos h]
  have t1 : takeR w 0 = (0 : Int) := by simp [takeR]
  have t2 : takeR w 0 = (0 : Int) := by simp [takeR]
  have t3 : takeR w 0 = (0 : Int) := by simp [takeR]
  have t4 : takeR w 15 = (w % 16) := by simp [takeR]
  have t0 : bits .and .i64 w 0 = 0 := a0 w
  have tn : numR 15 (0) (w % 16) = (w % 16) := num_id (by omega)
  have hb : (!decide (bits .and .i64 w 0 = 0)) = false := by rw [t0]; simp
  refine ⟨by simp [rows], read17 h0 h1 (by omega), ?_, ?_, ?_, ?_⟩
  · rw [e]
    unfold rdR
    simp only [hb, t1, t2, t3, t4, tn, op17 h0 h1 (show (10 ≤ w / 16 % 4096 ∧ w / 16 % 4096 ≤ 11) by omega), In.mk.injEq, true_and]
    refine ⟨?_, ?_⟩ <;> first | omega | skip
    all_goals (repeat' (first | constructor | (split <;> omega) | omega))
  · rw [e]
    exact form17 (by simp only; omega)
  · rw [e]
    exact fun _ => ⟨rfl, rfl⟩
  · rw [e]
    exact fun _ => ⟨rfl, rfl⟩
theorem sh23 {w : Int} (h0 : 0 ≤ w) (h1 : w ≤ 65535) (h : (w / 16 = 11)) : Took w ⟨53, 54, 160, 4, 0, 0, 0, 0, 15, 0⟩ := by
  have e : shR w = ⟨54, false, 0, 0, 0, 0, 0, 0, 0, (w % 16)⟩ := by
    unfold shR
    rw [if_neg (by omega), if_neg (by omega), if_neg (by omega), if_neg (by omega), if_neg (by omega), if_neg (by omega), if_neg (by omega), if_neg (by omega), if_neg (by omega), if_neg (by omega), if_neg (by omega), if_neg (by omega), if_neg (by omega), if_neg (by omega), if_neg (by omega), if_neg (by omega), if_neg (by omega), if_neg (by omega), if_neg (by omega), if_neg (by omega), if_neg (by omega), if_neg (by omega), if_neg (by omega), if_pos h]
  have t1 : takeR w 0 = (0 : Int) := by simp [takeR]
  have t2 : takeR w 0 = (0 : Int) := by simp [takeR]
  have t3 : takeR w 0 = (0 : Int) := by simp [takeR]
  have t4 : takeR w 15 = (w % 16) := by simp [takeR]
  have t0 : bits .and .i64 w 0 = 0 := a0 w
  have tn : numR 15 (0) (w % 16) = (w % 16) := num_id (by omega)
  have hb : (!decide (bits .and .i64 w 0 = 0)) = false := by rw [t0]; simp
  refine ⟨by simp [rows], read17 h0 h1 (by omega), ?_, ?_, ?_, ?_⟩
  · rw [e]
    unfold rdR
    simp only [hb, t1, t2, t3, t4, tn, op17 h0 h1 (show (10 ≤ w / 16 % 4096 ∧ w / 16 % 4096 ≤ 11) by omega), In.mk.injEq, true_and]
    refine ⟨?_, ?_⟩ <;> first | omega | skip
    all_goals (repeat' (first | constructor | (split <;> omega) | omega))
  · rw [e]
    exact form17 (by simp only; omega)
  · rw [e]
    exact fun _ => ⟨rfl, rfl⟩
  · rw [e]
    exact fun _ => ⟨rfl, rfl⟩
theorem sh24 {w : Int} (h0 : 0 ≤ w) (h1 : w ≤ 65535) (h : (w = 0)) : Took w ⟨50, 51, 0, 0, 0, 0, 0, 0, 0, 0⟩ := by
  have e : shR w = ⟨50, false, 0, 0, 0, 0, 0, 0, 0, 0⟩ := by
    unfold shR
    rw [if_neg (by omega), if_neg (by omega), if_neg (by omega), if_neg (by omega), if_neg (by omega), if_neg (by omega), if_neg (by omega), if_neg (by omega), if_neg (by omega), if_neg (by omega), if_neg (by omega), if_neg (by omega), if_neg (by omega), if_neg (by omega), if_neg (by omega), if_neg (by omega), if_neg (by omega), if_neg (by omega), if_neg (by omega), if_neg (by omega), if_neg (by omega), if_neg (by omega), if_neg (by omega), if_neg (by omega), if_pos h]
  have t1 : takeR w 0 = (0 : Int) := by simp [takeR]
  have t2 : takeR w 0 = (0 : Int) := by simp [takeR]
  have t3 : takeR w 0 = (0 : Int) := by simp [takeR]
  have t4 : takeR w 0 = (0 : Int) := by simp [takeR]
  have t0 : bits .and .i64 w 0 = 0 := a0 w
  have tn : numR 0 (0) (0 : Int) = (0 : Int) := num_id (by omega)
  have hb : (!decide (bits .and .i64 w 0 = 0)) = false := by rw [t0]; simp
  refine ⟨by simp [rows], read18 h0 h1 (by omega), ?_, ?_, ?_, ?_⟩
  · rw [e]
    unfold rdR
    simp only [hb, t1, t2, t3, t4, tn, op18 h0 h1 (show (0 ≤ w ∧ w ≤ 1) by omega), In.mk.injEq, true_and]
    refine ⟨?_, ?_⟩ <;> first | omega | skip
    all_goals (repeat' (first | constructor | (split <;> omega) | omega))
  · rw [e]
    exact form18 (by simp only; omega)
  · rw [e]
    exact fun _ => ⟨rfl, rfl⟩
  · rw [e]
    exact fun _ => ⟨rfl, rfl⟩
theorem sh25 {w : Int} (h0 : 0 ≤ w) (h1 : w ≤ 65535) (h : (w = 1)) : Took w ⟨50, 51, 0, 0, 0, 0, 0, 0, 0, 0⟩ := by
  have e : shR w = ⟨51, false, 0, 0, 0, 0, 0, 0, 0, 0⟩ := by
    unfold shR
    rw [if_neg (by omega), if_neg (by omega), if_neg (by omega), if_neg (by omega), if_neg (by omega), if_neg (by omega), if_neg (by omega), if_neg (by omega), if_neg (by omega), if_neg (by omega), if_neg (by omega), if_neg (by omega), if_neg (by omega), if_neg (by omega), if_neg (by omega), if_neg (by omega), if_neg (by omega), if_neg (by omega), if_neg (by omega), if_neg (by omega), if_neg (by omega), if_neg (by omega), if_neg (by omega), if_neg (by omega), if_neg (by omega), if_pos h]
  have t1 : takeR w 0 = (0 : Int) := by simp [takeR]
  have t2 : takeR w 0 = (0 : Int) := by simp [takeR]
  have t3 : takeR w 0 = (0 : Int) := by simp [takeR]
  have t4 : takeR w 0 = (0 : Int) := by simp [takeR]
  have t0 : bits .and .i64 w 0 = 0 := a0 w
  have tn : numR 0 (0) (0 : Int) = (0 : Int) := num_id (by omega)
  have hb : (!decide (bits .and .i64 w 0 = 0)) = false := by rw [t0]; simp
  refine ⟨by simp [rows], read18 h0 h1 (by omega), ?_, ?_, ?_, ?_⟩
  · rw [e]
    unfold rdR
    simp only [hb, t1, t2, t3, t4, tn, op18 h0 h1 (show (0 ≤ w ∧ w ≤ 1) by omega), In.mk.injEq, true_and]
    refine ⟨?_, ?_⟩ <;> first | omega | skip
    all_goals (repeat' (first | constructor | (split <;> omega) | omega))
  · rw [e]
    exact form18 (by simp only; omega)
  · rw [e]
    exact fun _ => ⟨rfl, rfl⟩
  · rw [e]
    exact fun _ => ⟨rfl, rfl⟩
theorem sh26 {w : Int} (h0 : 0 ≤ w) (h1 : w ≤ 65535) (h : (w = 2)) : Took w ⟨49, 49, 2, 0, 0, 0, 0, 0, 0, 0⟩ := by
  have e : shR w = ⟨49, false, 0, 0, 0, 0, 0, 0, 0, 0⟩ := by
    unfold shR
    rw [if_neg (by omega), if_neg (by omega), if_neg (by omega), if_neg (by omega), if_neg (by omega), if_neg (by omega), if_neg (by omega), if_neg (by omega), if_neg (by omega), if_neg (by omega), if_neg (by omega), if_neg (by omega), if_neg (by omega), if_neg (by omega), if_neg (by omega), if_neg (by omega), if_neg (by omega), if_neg (by omega), if_neg (by omega), if_neg (by omega), if_neg (by omega), if_neg (by omega), if_neg (by omega), if_neg (by omega), if_neg (by omega), if_neg (by omega), if_pos h]
  have t1 : takeR w 0 = (0 : Int) := by simp [takeR]
  have t2 : takeR w 0 = (0 : Int) := by simp [takeR]
  have t3 : takeR w 0 = (0 : Int) := by simp [takeR]
  have t4 : takeR w 0 = (0 : Int) := by simp [takeR]
  have t0 : bits .and .i64 w 0 = 0 := a0 w
  have tn : numR 0 (0) (0 : Int) = (0 : Int) := num_id (by omega)
  have hb : (!decide (bits .and .i64 w 0 = 0)) = false := by rw [t0]; simp
  refine ⟨by simp [rows], read19 h0 h1 (by omega), ?_, ?_, ?_, ?_⟩
  · rw [e]
    unfold rdR
    simp only [hb, t1, t2, t3, t4, tn, op19 h0 h1 (show (w = 2) by omega), In.mk.injEq, true_and]
    refine ⟨?_, ?_⟩ <;> first | omega | skip
    all_goals (repeat' (first | constructor | (split <;> omega) | omega))
  · rw [e]
    exact form19 (by simp only; omega)
  · rw [e]
    exact fun _ => ⟨rfl, rfl⟩
  · rw [e]
    exact fun _ => ⟨rfl, rfl⟩
theorem sh27 {w : Int} (h0 : 0 ≤ w) (h1 : w ≤ 65535) (h : (w = 3)) : Took w ⟨47, 48, 3, 0, 0, 0, 0, 0, 0, 0⟩ := by
  have e : shR w = ⟨47, false, 0, 0, 0, 0, 0, 0, 0, 0⟩ := by
    unfold shR
    rw [if_neg (by omega), if_neg (by omega), if_neg (by omega), if_neg (by omega), if_neg (by omega), if_neg (by omega), if_neg (by omega), if_neg (by omega), if_neg (by omega), if_neg (by omega), if_neg (by omega), if_neg (by omega), if_neg (by omega), if_neg (by omega), if_neg (by omega), if_neg (by omega), if_neg (by omega), if_neg (by omega), if_neg (by omega), if_neg (by omega), if_neg (by omega), if_neg (by omega), if_neg (by omega), if_neg (by omega), if_neg (by omega), if_neg (by omega), if_neg (by omega), if_pos h]
  have t1 : takeR w 0 = (0 : Int) := by simp [takeR]
  have t2 : takeR w 0 = (0 : Int) := by simp [takeR]
  have t3 : takeR w 0 = (0 : Int) := by simp [takeR]
  have t4 : takeR w 0 = (0 : Int) := by simp [takeR]
  have t0 : bits .and .i64 w 0 = 0 := a0 w
  have tn : numR 0 (0) (0 : Int) = (0 : Int) := num_id (by omega)
  have hb : (!decide (bits .and .i64 w 0 = 0)) = false := by rw [t0]; simp
  refine ⟨by simp [rows], read20 h0 h1 (by omega), ?_, ?_, ?_, ?_⟩
  · rw [e]
    unfold rdR
    simp only [hb, t1, t2, t3, t4, tn, op20 h0 h1 (show (3 ≤ w ∧ w ≤ 4) by omega), In.mk.injEq, true_and]
    refine ⟨?_, ?_⟩ <;> first | omega | skip
    all_goals (repeat' (first | constructor | (split <;> omega) | omega))
  · rw [e]
    exact form20 (by simp only; omega)
  · rw [e]
    exact fun _ => ⟨rfl, rfl⟩
  · rw [e]
    exact fun _ => ⟨rfl, rfl⟩
theorem sh28 {w : Int} (h0 : 0 ≤ w) (h1 : w ≤ 65535) (h : (w = 4)) : Took w ⟨47, 48, 3, 0, 0, 0, 0, 0, 0, 0⟩ := by
  have e : shR w = ⟨48, false, 0, 0, 0, 0, 0, 0, 0, 0⟩ := by
    unfold shR
    rw [if_neg (by omega), if_neg (by omega), if_neg (by omega), if_neg (by omega), if_neg (by omega), if_neg (by omega), if_neg (by omega), if_neg (by omega), if_neg (by omega), if_neg (by omega), if_neg (by omega), if_neg (by omega), if_neg (by omega), if_neg (by omega), if_neg (by omega), if_neg (by omega), if_neg (by omega), if_neg (by omega), if_neg (by omega), if_neg (by omega), if_neg (by omega), if_neg (by omega), if_neg (by omega), if_neg (by omega), if_neg (by omega), if_neg (by omega), if_neg (by omega), if_neg (by omega), if_pos h]
  have t1 : takeR w 0 = (0 : Int) := by simp [takeR]
  have t2 : takeR w 0 = (0 : Int) := by simp [takeR]
  have t3 : takeR w 0 = (0 : Int) := by simp [takeR]
  have t4 : takeR w 0 = (0 : Int) := by simp [takeR]
  have t0 : bits .and .i64 w 0 = 0 := a0 w
  have tn : numR 0 (0) (0 : Int) = (0 : Int) := num_id (by omega)
  have hb : (!decide (bits .and .i64 w 0 = 0)) = false := by rw [t0]; simp
  refine ⟨by simp [rows], read20 h0 h1 (by omega), ?_, ?_, ?_, ?_⟩
  · rw [e]
    unfold rdR
    simp only [hb, t1, t2, t3, t4, tn, op20 h0 h1 (show (3 ≤ w ∧ w ≤ 4) by omega), In.mk.injEq, true_and]
    refine ⟨?_, ?_⟩ <;> first | omega | skip
    all_goals (repeat' (first | constructor | (split <;> omega) | omega))
  · rw [e]
    exact form20 (by simp only; omega)
  · rw [e]
    exact fun _ => ⟨rfl, rfl⟩
  · rw [e]
    exact fun _ => ⟨rfl, rfl⟩
theorem sh29 {w : Int} (h0 : 0 ≤ w) (h1 : w ≤ 65535) (h : (w = 5)) : Took w ⟨52, 52, 5, 0, 0, 0, 0, 0, 0, 0⟩ := by
  have e : shR w = ⟨52, false, 0, 0, 0, 0, 0, 0, 0, 0⟩ := by
    unfold shR
    rw [if_neg (by omega), if_neg (by omega), if_neg (by omega), if_neg (by omega), if_neg (by omega), if_neg (by omega), if_neg (by omega), if_neg (by omega), if_neg (by omega), if_neg (by omega), if_neg (by omega), if_neg (by omega), if_neg (by omega), if_neg (by omega), if_neg (by omega), if_neg (by omega), if_neg (by omega), if_neg (by omega), if_neg (by omega), if_neg (by omega), if_neg (by omega), if_neg (by omega), if_neg (by omega), if_neg (by omega), if_neg (by omega), if_neg (by omega), if_neg (by omega), if_neg (by omega), if_neg (by omega), if_pos h]
  have t1 : takeR w 0 = (0 : Int) := by simp [takeR]
  have t2 : takeR w 0 = (0 : Int) := by simp [takeR]
  have t3 : takeR w 0 = (0 : Int) := by simp [takeR]
  have t4 : takeR w 0 = (0 : Int) := by simp [takeR]
  have t0 : bits .and .i64 w 0 = 0 := a0 w
  have tn : numR 0 (0) (0 : Int) = (0 : Int) := num_id (by omega)
  have hb : (!decide (bits .and .i64 w 0 = 0)) = false := by rw [t0]; simp
  refine ⟨by simp [rows], read21 h0 h1 (by omega), ?_, ?_, ?_, ?_⟩
  · rw [e]
    unfold rdR
    simp only [hb, t1, t2, t3, t4, tn, op21 h0 h1 (show (w = 5) by omega), In.mk.injEq, true_and]
    refine ⟨?_, ?_⟩ <;> first | omega | skip
    all_goals (repeat' (first | constructor | (split <;> omega) | omega))
  · rw [e]
    exact form21 (by simp only; omega)
  · rw [e]
    exact fun _ => ⟨rfl, rfl⟩
  · rw [e]
    exact fun _ => ⟨rfl, rfl⟩
theorem to0 {w : Int} (h0 : 0 ≤ w) (h1 : w ≤ 65535) (h : (1 ≤ w / 4096 % 8 ∧ w / 4096 % 8 ≤ 5)) : (1 ≤ w / 4096 ∧ w / 4096 ≤ 5) ∨ (9 ≤ w / 4096 ∧ w / 4096 ≤ 13) := by omega
theorem to1 {w : Int} (h0 : 0 ≤ w) (h1 : w ≤ 65535) (h : (w / 4096 = 6 ∨ w / 4096 = 14)) : (w / 4096 = 6) ∨ (w / 4096 = 14) := by omega
theorem to2 {w : Int} (h0 : 0 ≤ w) (h1 : w ≤ 65535) (h : (56 ≤ w / 512 % 128 ∧ w / 512 % 128 ≤ 58)) : (56 ≤ w / 512 ∧ w / 512 ≤ 58) := by omega
theorem to3 {w : Int} (h0 : 0 ≤ w) (h1 : w ≤ 65535) (h : (w / 512 % 128 = 60)) : (w / 512 = 60) := by omega
theorem to4 {w : Int} (h0 : 0 ≤ w) (h1 : w ≤ 65535) (h : (40 ≤ w / 64 % 512 ∧ w / 64 % 512 ≤ 47)) : (40 ≤ w / 64 ∧ w / 64 ≤ 47) ∨ (552 ≤ w / 64 ∧ w / 64 ≤ 559) := by omega
theorem to5 {w : Int} (h0 : 0 ≤ w) (h1 : w ≤ 65535) (h : (48 ≤ w / 64 % 512 ∧ w / 64 % 512 ≤ 51)) : (48 ≤ w / 64 ∧ w / 64 ≤ 51) ∨ (560 ≤ w / 64 ∧ w / 64 ≤ 563) := by omega
theorem to6 {w : Int} (h0 : 0 ≤ w) (h1 : w ≤ 65535) (h : (w / 64 % 1024 = 3)) : (w / 64 = 3) := by omega
theorem to7 {w : Int} (h0 : 0 ≤ w) (h1 : w ≤ 65535) (h : (w / 64 % 1024 = 55)) : (w / 64 = 55) := by omega
theorem to8 {w : Int} (h0 : 0 ≤ w) (h1 : w ≤ 65535) (h : (w / 64 % 1024 = 53)) : (w / 64 = 53) := by omega
theorem to9 {w : Int} (h0 : 0 ≤ w) (h1 : w ≤ 65535) (h : (w / 64 % 1024 = 54)) : (w / 64 = 54) := by omega
theorem to10 {w : Int} (h0 : 0 ≤ w) (h1 : w ≤ 65535) (h : (w / 64 % 1024 = 1)) : (w / 64 = 1) := by omega
theorem to11 {w : Int} (h0 : 0 ≤ w) (h1 : w ≤ 65535) (h : (w / 512 % 128 = 4)) : (w / 512 = 4) := by omega
theorem to12 {w : Int} (h0 : 0 ≤ w) (h1 : w ≤ 65535) (h : (w / 8 % 8192 = 16)) : (w / 8 = 16) := by omega
theorem to13 {w : Int} (h0 : 0 ≤ w) (h1 : w ≤ 65535) (h : (w / 512 % 128 = 63)) : (w / 512 = 63) := by omega
theorem to14 {w : Int} (h0 : 0 ≤ w) (h1 : w ≤ 65535) (h : (1 ≤ w / 256 % 256 ∧ w / 256 % 256 ≤ 7)) : (1 ≤ w / 256 ∧ w / 256 ≤ 7) := by omega
theorem to15 {w : Int} (h0 : 0 ≤ w) (h1 : w ≤ 65535) (h : (128 ≤ w / 256 % 256 ∧ w / 256 % 256 ≤ 135)) : (128 ≤ w / 256 ∧ w / 256 ≤ 135) := by omega
theorem to16 {w : Int} (h0 : 0 ≤ w) (h1 : w ≤ 65535) (h : (136 ≤ w / 256 % 256 ∧ w / 256 % 256 ≤ 137)) : (w / 256 = 136) ∨ (w / 256 = 137) := by omega
theorem to17 {w : Int} (h0 : 0 ≤ w) (h1 : w ≤ 65535) (h : (10 ≤ w / 16 % 4096 ∧ w / 16 % 4096 ≤ 11)) : (w / 16 = 10) ∨ (w / 16 = 11) := by omega
theorem to18 {w : Int} (h0 : 0 ≤ w) (h1 : w ≤ 65535) (h : (0 ≤ w ∧ w ≤ 1)) : (w = 0) ∨ (w = 1) := by omega
theorem to19 {w : Int} (h0 : 0 ≤ w) (h1 : w ≤ 65535) (h : (w = 2)) : (w = 2) := by omega
theorem to20 {w : Int} (h0 : 0 ≤ w) (h1 : w ≤ 65535) (h : (3 ≤ w ∧ w ≤ 4)) : (w = 3) ∨ (w = 4) := by omega
theorem to21 {w : Int} (h0 : 0 ≤ w) (h1 : w ≤ 65535) (h : (w = 5)) : (w = 5) := by omega

theorem shape_cases {w : Int} (h0 : 0 ≤ w) (h1 : w ≤ 65535) : (∃ e, Took w e) ∨ (readR w = none ∧ shR w = nil10) := by
  by_cases k0 : (1 ≤ w / 4096 ∧ w / 4096 ≤ 5)
  · exact .inl ⟨_, sh0 h0 h1 k0⟩
  by_cases k1 : (9 ≤ w / 4096 ∧ w / 4096 ≤ 13)
  · exact .inl ⟨_, sh1 h0 h1 k1⟩
  by_cases k2 : (w / 4096 = 6)
  · exact .inl ⟨_, sh2 h0 h1 k2⟩
  by_cases k3 : (w / 4096 = 14)
  · exact .inl ⟨_, sh3 h0 h1 k3⟩
  by_cases k4 : (56 ≤ w / 512 ∧ w / 512 ≤ 58)
  · exact .inl ⟨_, sh4 h0 h1 k4⟩
  by_cases k5 : (w / 512 = 60)
  · exact .inl ⟨_, sh5 h0 h1 k5⟩
  by_cases k6 : (w / 512 = 63)
  · exact .inl ⟨_, sh6 h0 h1 k6⟩
  by_cases k7 : (40 ≤ w / 64 ∧ w / 64 ≤ 47)
  · exact .inl ⟨_, sh7 h0 h1 k7⟩
  by_cases k8 : (552 ≤ w / 64 ∧ w / 64 ≤ 559)
  · exact .inl ⟨_, sh8 h0 h1 k8⟩
  by_cases k9 : (48 ≤ w / 64 ∧ w / 64 ≤ 51)
  · exact .inl ⟨_, sh9 h0 h1 k9⟩
  by_cases k10 : (560 ≤ w / 64 ∧ w / 64 ≤ 563)
  · exact .inl ⟨_, sh10 h0 h1 k10⟩
  by_cases k11 : (w / 64 = 3)
  · exact .inl ⟨_, sh11 h0 h1 k11⟩
  by_cases k12 : (w / 64 = 55)
  · exact .inl ⟨_, sh12 h0 h1 k12⟩
  by_cases k13 : (w / 64 = 53)
  · exact .inl ⟨_, sh13 h0 h1 k13⟩
  by_cases k14 : (w / 64 = 54)
  · exact .inl ⟨_, sh14 h0 h1 k14⟩
  by_cases k15 : (w / 64 = 1)
  · exact .inl ⟨_, sh15 h0 h1 k15⟩
  by_cases k16 : (w / 512 = 4)
  · exact .inl ⟨_, sh16 h0 h1 k16⟩
  by_cases k17 : (w / 8 = 16)
  · exact .inl ⟨_, sh17 h0 h1 k17⟩
  by_cases k18 : (1 ≤ w / 256 ∧ w / 256 ≤ 7)
  · exact .inl ⟨_, sh18 h0 h1 k18⟩
  by_cases k19 : (128 ≤ w / 256 ∧ w / 256 ≤ 135)
  · exact .inl ⟨_, sh19 h0 h1 k19⟩
  by_cases k20 : (w / 256 = 136)
  · exact .inl ⟨_, sh20 h0 h1 k20⟩
  by_cases k21 : (w / 256 = 137)
  · exact .inl ⟨_, sh21 h0 h1 k21⟩
  by_cases k22 : (w / 16 = 10)
  · exact .inl ⟨_, sh22 h0 h1 k22⟩
  by_cases k23 : (w / 16 = 11)
  · exact .inl ⟨_, sh23 h0 h1 k23⟩
  by_cases k24 : (w = 0)
  · exact .inl ⟨_, sh24 h0 h1 k24⟩
  by_cases k25 : (w = 1)
  · exact .inl ⟨_, sh25 h0 h1 k25⟩
  by_cases k26 : (w = 2)
  · exact .inl ⟨_, sh26 h0 h1 k26⟩
  by_cases k27 : (w = 3)
  · exact .inl ⟨_, sh27 h0 h1 k27⟩
  by_cases k28 : (w = 4)
  · exact .inl ⟨_, sh28 h0 h1 k28⟩
  by_cases k29 : (w = 5)
  · exact .inl ⟨_, sh29 h0 h1 k29⟩
  refine .inr ⟨?_, ?_⟩
  · unfold readR rows
    rw [find_skip ((hit0 h0 h1).trans (decide_eq_false (fun h => (to0 h0 h1 h).elim k0 k1))), find_skip ((hit1 h0 h1).trans (decide_eq_false (fun h => (to1 h0 h1 h).elim k2 k3))), find_skip ((hit2 h0 h1).trans (decide_eq_false (fun h => k4 (to2 h0 h1 h)))), find_skip ((hit3 h0 h1).trans (decide_eq_false (fun h => k5 (to3 h0 h1 h)))), find_skip ((hit4 h0 h1).trans (decide_eq_false (fun h => (to4 h0 h1 h).elim k7 k8))), find_skip ((hit5 h0 h1).trans (decide_eq_false (fun h => (to5 h0 h1 h).elim k9 k10))), find_skip ((hit6 h0 h1).trans (decide_eq_false (fun h => k11 (to6 h0 h1 h)))), find_skip ((hit7 h0 h1).trans (decide_eq_false (fun h => k12 (to7 h0 h1 h)))), find_skip ((hit8 h0 h1).trans (decide_eq_false (fun h => k13 (to8 h0 h1 h)))), find_skip ((hit9 h0 h1).trans (decide_eq_false (fun h => k14 (to9 h0 h1 h)))), find_skip ((hit10 h0 h1).trans (decide_eq_false (fun h => k15 (to10 h0 h1 h)))), find_skip ((hit11 h0 h1).trans (decide_eq_false (fun h => k16 (to11 h0 h1 h)))), find_skip ((hit12 h0 h1).trans (decide_eq_false (fun h => k17 (to12 h0 h1 h)))), find_skip ((hit13 h0 h1).trans (decide_eq_false (fun h => k6 (to13 h0 h1 h)))), find_skip ((hit14 h0 h1).trans (decide_eq_false (fun h => k18 (to14 h0 h1 h)))), find_skip ((hit15 h0 h1).trans (decide_eq_false (fun h => k19 (to15 h0 h1 h)))), find_skip ((hit16 h0 h1).trans (decide_eq_false (fun h => (to16 h0 h1 h).elim k20 k21))), find_skip ((hit17 h0 h1).trans (decide_eq_false (fun h => (to17 h0 h1 h).elim k22 k23))), find_skip ((hit18 h0 h1).trans (decide_eq_false (fun h => (to18 h0 h1 h).elim k24 k25))), find_skip ((hit19 h0 h1).trans (decide_eq_false (fun h => k26 (to19 h0 h1 h)))), find_skip ((hit20 h0 h1).trans (decide_eq_false (fun h => (to20 h0 h1 h).elim k27 k28))), find_skip ((hit21 h0 h1).trans (decide_eq_false (fun h => k29 (to21 h0 h1 h))))]
    rfl
  · unfold shR
    rw [if_neg k0, if_neg k1, if_neg k2, if_neg k3, if_neg k4, if_neg k5, if_neg k6, if_neg k7, if_neg k8, if_neg k9, if_neg k10, if_neg k11, if_neg k12, if_neg k13, if_neg k14, if_neg k15, if_neg k16, if_neg k17, if_neg k18, if_neg k19, if_neg k20, if_neg k21, if_neg k22, if_neg k23, if_neg k24, if_neg k25, if_neg k26, if_neg k27, if_neg k28, if_neg k29]

end Go.Proofs.YtdbbnkjnmldnpaaGreatDoor
