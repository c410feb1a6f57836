import Derived.Test.YtlegcfjafdihlaaGreatDoorRows
import Derived.ProofKit
import Derived.LaidMore
import Derived.OpenShut
import Derived.Carry
import Derived.Stop.Joined
import Derived.ChangeSame
import Derived.ChangeSlices
import Derived.Deep.Slices
import Derived.Deep.Strs
import Derived.Lib.SmallJoins
import Derived.Lib.LaidTab
import Derived.Lib.LaidU8
/-
  The five listed tables as they lie in memory, and the condition on them: nothing is asked of the call.
-/
namespace Go.Proofs.YtlegcfjafdihlaaGreatDoor
open Go Go.ChangeShapes Go.WideShapes Go.ChangeAt Go.RowKit Go.Deep
set_option linter.unusedVariables false
set_option linter.unusedSimpArgs false
set_option maxHeartbeats 4000000
set_option maxRecDepth 100000

theorem own : ownKnob Tryz.prog.godebug = none := by kernel_rfl
theorem laidOut : laidOutB Tryz.prog = true := by kernel_rfl
def laidW : List (String × DataW Unit) := [("emulator/trap.kinds", Rows.laid_emulator_trap_kinds), ("emulator/word.widths", Rows.laid_emulator_word_widths), ("math/bits.deBruijn32tab", Rows.laid_math_bits_deBruijn32tab), ("math/bits.deBruijn64tab", Rows.laid_math_bits_deBruijn64tab), ("emulator/inst.forms", Rows.laid_emulator_inst_forms)]

theorem door_met (os : Os) (args : Array Value) : laidMetH Tryz.prog laidW ((World.doorLaid Tryz.prog 400 os).forCall (fun _ _ => 0) ⟨#[], args, []⟩).memory :=
  laidMetH_of_parts3 (fuel := 8) (laidMet_of_run' 8 (by kernel_rfl) (by kernel_rfl)) (by kernel_rfl) (by kernel_rfl)

/-- A table that reads as listed holds its numbers. -/
theorem tab_of_reads {P : Program} {W : World} {name : String} {k : IntKind} {zs : List Int} {g : Nat} {t e : TypeId} {n : Nat}
    (hg : P.globalNamed name = some g) (hty : (P.globals[g]?).map (·.type) = some t) (ht : P.underlying t = some (.array n e)) (he : P.underlying e = some (.int k)) (hce : P.cellsOf e = 1) (hct : P.cellsOf t = n)
    (h : Lib.VarReads P W name (Lib.tabData k zs)) : Lib.TabIs P W name k zs := by
  obtain ⟨g', t', cs, fuel, p, hg', ht', hvar, hd⟩ := h
  obtain rfl := Option.some.inj (hg.symm.trans hg')
  obtain rfl := Option.some.inj (hty.symm.trans ht')
  unfold Lib.TabIs
  rw [hvar, ← Lib.cells_of_tab ht he hce hct hd]

theorem rows_at {s : Nat} {f : Nat → List Value} (hf : ∀ k, (f k).length = s) : ∀ (n j : Nat) (v : Value), ((List.range n).flatMap f)[j]? = some v → ∃ k i, k < n ∧ i < s ∧ j = k * s + i ∧ (f k)[i]? = some v
  | 0, j, v, h => by simp at h
  | n + 1, j, v, h => by
    have hl : ∀ n, ((List.range n).flatMap f).length = n * s := fun n => by
      induction n with
      | zero => simp
      | succ n ih => rw [List.range_succ, List.flatMap_append, List.length_append, ih, List.flatMap_cons, List.flatMap_nil, List.append_nil, hf, Nat.succ_mul]
    rw [List.range_succ, List.flatMap_append, List.flatMap_cons, List.flatMap_nil, List.append_nil] at h
    rcases Nat.lt_or_ge j (n * s) with hj | hj
    · rw [List.getElem?_append_left (by rw [hl]; exact hj)] at h
      obtain ⟨k, i, h1, h2, h3, h4⟩ := rows_at hf n j v h
      exact ⟨k, i, by omega, h2, h3, h4⟩
    · rw [List.getElem?_append_right (by rw [hl]; exact hj), hl] at h
      have hi : j - n * s < s := by have := (List.getElem?_eq_some_iff.1 h).1; rw [hf] at this; exact this
      exact ⟨n, j - n * s, by omega, hi, by omega, h⟩

def kinL : List Value := [.string ⟨⟨[]⟩⟩, .int .i64 0, .bool false, .string ⟨⟨[98, 117, 115]⟩⟩, .int .i64 4, .bool true, .string ⟨⟨[105, 108, 108, 101, 103, 97, 108]⟩⟩, .int .i64 8, .bool true, .string ⟨⟨[98, 112, 116]⟩⟩, .int .i64 12, .bool false, .string ⟨⟨[105, 111, 116]⟩⟩, .int .i64 16, .bool false, .string ⟨⟨[112, 111, 119, 101, 114]⟩⟩, .int .i64 20, .bool false, .string ⟨⟨[101, 109, 116]⟩⟩, .int .i64 24, .bool false, .string ⟨⟨[116, 114, 97, 112]⟩⟩, .int .i64 28, .bool false, .string ⟨⟨[109, 109, 117]⟩⟩, .int .i64 32, .bool true, .string ⟨⟨[112, 97, 114, 105, 116, 121]⟩⟩, .int .i64 36, .bool true]
def widL : List Value := [.int .i64 65535, .int .i64 32768, .int .i64 255, .int .i64 128]
def brL : List Value := [.int .u8 0, .int .u8 1, .int .u8 56, .int .u8 2, .int .u8 57, .int .u8 49, .int .u8 28, .int .u8 3, .int .u8 61, .int .u8 58, .int .u8 42, .int .u8 50, .int .u8 38, .int .u8 29, .int .u8 17, .int .u8 4, .int .u8 62, .int .u8 47, .int .u8 59, .int .u8 36, .int .u8 45, .int .u8 43, .int .u8 51, .int .u8 22, .int .u8 53, .int .u8 39, .int .u8 33, .int .u8 30, .int .u8 24, .int .u8 18, .int .u8 12, .int .u8 5, .int .u8 63, .int .u8 55, .int .u8 48, .int .u8 27, .int .u8 60, .int .u8 41, .int .u8 37, .int .u8 16, .int .u8 46, .int .u8 35, .int .u8 44, .int .u8 21, .int .u8 52, .int .u8 32, .int .u8 23, .int .u8 11, .int .u8 54, .int .u8 26, .int .u8 40, .int .u8 15, .int .u8 34, .int .u8 20, .int .u8 31, .int .u8 10, .int .u8 25, .int .u8 14, .int .u8 19, .int .u8 9, .int .u8 13, .int .u8 8, .int .u8 7, .int .u8 6]
def frmL : List Value := [.int .i64 1, .int .i64 5, .int .i64 4096, .int .i64 12, .int .i64 32768, .int .i64 4032, .int .i64 63, .int .i64 0, .int .i64 0, .int .i64 0, .int .i64 6, .int .i64 7, .int .i64 24576, .int .i64 15, .int .i64 0, .int .i64 4032, .int .i64 63, .int .i64 0, .int .i64 0, .int .i64 0, .int .i64 8, .int .i64 10, .int .i64 28672, .int .i64 9, .int .i64 0, .int .i64 63, .int .i64 0, .int .i64 448, .int .i64 0, .int .i64 0, .int .i64 11, .int .i64 11, .int .i64 30720, .int .i64 0, .int .i64 0, .int .i64 0, .int .i64 63, .int .i64 448, .int .i64 0, .int .i64 0, .int .i64 12, .int .i64 19, .int .i64 2560, .int .i64 6, .int .i64 32768, .int .i64 0, .int .i64 63, .int .i64 0, .int .i64 0, .int .i64 0, .int .i64 20, .int .i64 23, .int .i64 3072, .int .i64 6, .int .i64 32768, .int .i64 0, .int .i64 63, .int .i64 0, .int .i64 0, .int .i64 0, .int .i64 24, .int .i64 24, .int .i64 192, .int .i64 0, .int .i64 0, .int .i64 0, .int .i64 63, .int .i64 0, .int .i64 0, .int .i64 0, .int .i64 25, .int .i64 25, .int .i64 3520, .int .i64 0, .int .i64 0, .int .i64 0, .int .i64 63, .int .i64 0, .int .i64 0, .int .i64 0, .int .i64 55, .int .i64 55, .int .i64 3392, .int .i64 0, .int .i64 0, .int .i64 63, .int .i64 0, .int .i64 0, .int .i64 0, .int .i64 0, .int .i64 56, .int .i64 56, .int .i64 3456, .int .i64 0, .int .i64 0, .int .i64 0, .int .i64 63, .int .i64 0, .int .i64 0, .int .i64 0, .int .i64 41, .int .i64 41, .int .i64 64, .int .i64 0, .int .i64 0, .int .i64 0, .int .i64 63, .int .i64 0, .int .i64 0, .int .i64 0, .int .i64 42, .int .i64 42, .int .i64 2048, .int .i64 0, .int .i64 0, .int .i64 0, .int .i64 63, .int .i64 448, .int .i64 0, .int .i64 0, .int .i64 43, .int .i64 43, .int .i64 128, .int .i64 0, .int .i64 0, .int .i64 0, .int .i64 0, .int .i64 7, .int .i64 0, .int .i64 0, .int .i64 44, .int .i64 44, .int .i64 32256, .int .i64 0, .int .i64 0, .int .i64 0, .int .i64 0, .int .i64 448, .int .i64 63, .int .i64 0, .int .i64 26, .int .i64 32, .int .i64 256, .int .i64 8, .int .i64 0, .int .i64 0, .int .i64 0, .int .i64 0, .int .i64 255, .int .i64 (-128), .int .i64 33, .int .i64 40, .int .i64 32768, .int .i64 8, .int .i64 0, .int .i64 0, .int .i64 0, .int .i64 0, .int .i64 255, .int .i64 (-128), .int .i64 45, .int .i64 46, .int .i64 34816, .int .i64 8, .int .i64 0, .int .i64 0, .int .i64 0, .int .i64 0, .int .i64 255, .int .i64 0, .int .i64 53, .int .i64 54, .int .i64 160, .int .i64 4, .int .i64 0, .int .i64 0, .int .i64 0, .int .i64 0, .int .i64 15, .int .i64 0, .int .i64 50, .int .i64 51, .int .i64 0, .int .i64 0, .int .i64 0, .int .i64 0, .int .i64 0, .int .i64 0, .int .i64 0, .int .i64 0, .int .i64 49, .int .i64 49, .int .i64 2, .int .i64 0, .int .i64 0, .int .i64 0, .int .i64 0, .int .i64 0, .int .i64 0, .int .i64 0, .int .i64 47, .int .i64 48, .int .i64 3, .int .i64 0, .int .i64 0, .int .i64 0, .int .i64 0, .int .i64 0, .int .i64 0, .int .i64 0, .int .i64 52, .int .i64 52, .int .i64 5, .int .i64 0, .int .i64 0, .int .i64 0, .int .i64 0, .int .i64 0, .int .i64 0, .int .i64 0]
def nmK : List (List UInt8) := [[], [98, 117, 115], [105, 108, 108, 101, 103, 97, 108], [98, 112, 116], [105, 111, 116], [112, 111, 119, 101, 114], [101, 109, 116], [116, 114, 97, 112], [109, 109, 117], [112, 97, 114, 105, 116, 121]]
def vcK : List Int := [0, 4, 8, 12, 16, 20, 24, 28, 32, 36]
def abK : List Bool := [false, true, true, false, false, false, false, false, true, true]
def wdN : List Int := [65535, 32768, 255, 128]
def brN : List Int := [0, 1, 56, 2, 57, 49, 28, 3, 61, 58, 42, 50, 38, 29, 17, 4, 62, 47, 59, 36, 45, 43, 51, 22, 53, 39, 33, 30, 24, 18, 12, 5, 63, 55, 48, 27, 60, 41, 37, 16, 46, 35, 44, 21, 52, 32, 23, 11, 54, 26, 40, 15, 34, 20, 31, 10, 25, 14, 19, 9, 13, 8, 7, 6]
def fmN : List Int := [1, 5, 4096, 12, 32768, 4032, 63, 0, 0, 0, 6, 7, 24576, 15, 0, 4032, 63, 0, 0, 0, 8, 10, 28672, 9, 0, 63, 0, 448, 0, 0, 11, 11, 30720, 0, 0, 0, 63, 448, 0, 0, 12, 19, 2560, 6, 32768, 0, 63, 0, 0, 0, 20, 23, 3072, 6, 32768, 0, 63, 0, 0, 0, 24, 24, 192, 0, 0, 0, 63, 0, 0, 0, 25, 25, 3520, 0, 0, 0, 63, 0, 0, 0, 55, 55, 3392, 0, 0, 63, 0, 0, 0, 0, 56, 56, 3456, 0, 0, 0, 63, 0, 0, 0, 41, 41, 64, 0, 0, 0, 63, 0, 0, 0, 42, 42, 2048, 0, 0, 0, 63, 448, 0, 0, 43, 43, 128, 0, 0, 0, 0, 7, 0, 0, 44, 44, 32256, 0, 0, 0, 0, 448, 63, 0, 26, 32, 256, 8, 0, 0, 0, 0, 255, -128, 33, 40, 32768, 8, 0, 0, 0, 0, 255, -128, 45, 46, 34816, 8, 0, 0, 0, 0, 255, 0, 53, 54, 160, 4, 0, 0, 0, 0, 15, 0, 50, 51, 0, 0, 0, 0, 0, 0, 0, 0, 49, 49, 2, 0, 0, 0, 0, 0, 0, 0, 47, 48, 3, 0, 0, 0, 0, 0, 0, 0, 52, 52, 5, 0, 0, 0, 0, 0, 0, 0]
def kinR (k : Nat) : List Value := [.string ⟨⟨nmK.getD k []⟩⟩, .int .i64 (vcK.getD k 0), .bool (abK.getD k false)]
def widR (k : Nat) : List Value := [.int .i64 (wdN.getD (k * 2) 0), .int .i64 (wdN.getD (k * 2 + 1) 0)]
def frmR (k : Nat) : List Value := [.int .i64 (fmN.getD (k * 10) 0), .int .i64 (fmN.getD (k * 10 + 1) 0), .int .i64 (fmN.getD (k * 10 + 2) 0), .int .i64 (fmN.getD (k * 10 + 3) 0), .int .i64 (fmN.getD (k * 10 + 4) 0), .int .i64 (fmN.getD (k * 10 + 5) 0), .int .i64 (fmN.getD (k * 10 + 6) 0), .int .i64 (fmN.getD (k * 10 + 7) 0), .int .i64 (fmN.getD (k * 10 + 8) 0), .int .i64 (fmN.getD (k * 10 + 9) 0)]
theorem kin_eq : kinL = (List.range 10).flatMap kinR := by kernel_rfl
theorem wid_eq : widL = (List.range 2).flatMap widR := by kernel_rfl
theorem frm_eq : frmL = (List.range 22).flatMap frmR := by kernel_rfl
theorem br_eq : brL = brN.map (Value.int .u8) := by kernel_rfl
/-- The listed tables as they lie in memory. -/
structure Tab (A : Addr) (c : Nat) (w : World) : Prop where
  wid : ∀ j v, widL[j]? = some v → w.cell? ⟨0, j, none⟩ = some v
  kin : ∀ j v, kinL[j]? = some v → w.cell? ⟨2, j, none⟩ = some v
  br : ∀ j v, brL[j]? = some v → w.cell? ⟨4, j, none⟩ = some v
  fs : w.cell? ⟨1, 0, none⟩ = some (.slice (some A) 22 c)
  frm : ∀ j v, frmL[j]? = some v → w.cell? (A.add j) = some v
  cap : 22 ≤ c
theorem Tab.below {A : Addr} {c : Nat} {w w' : World} (W : Tab A c w) (h : Below w.heap.size w w') : Tab A c w' := by
  have k : ∀ {a : Addr} {v : Value}, w.cell? a = some v → w'.cell? a = some v := fun {a v} hv => by
    rw [h.cell (World.block_lt_of_cell? w _ hv)]; exact hv
  exact ⟨fun j v hj => k (W.wid j v hj), fun j v hj => k (W.kin j v hj), fun j v hj => k (W.br j v hj), k W.fs, fun j v hj => k (W.frm j v hj), W.cap⟩

def kinD (k : Nat) : DataW Unit := .agg [.lit (.string (nmK.getD k [])), .lit (.int .i64 (vcK.getD k 0)), .lit (.bool (abK.getD k false))]
def widD (k : Nat) : DataW Unit := .agg [.lit (.int .i64 (wdN.getD (k * 2) 0)), .lit (.int .i64 (wdN.getD (k * 2 + 1) 0))]
def frmD (f : Nat → Int) : DataW Unit := .agg [.lit (.int .i64 (f 0)), .lit (.int .i64 (f 1)), .lit (.int .i64 (f 2)), .lit (.int .i64 (f 3)), .agg [.lit (.int .i64 (f 4)), .lit (.int .i64 (f 5)), .lit (.int .i64 (f 6)), .lit (.int .i64 (f 7)), .lit (.int .i64 (f 8)), .lit (.int .i64 (f 9))]]
theorem kin_rows : (Rows.laid_emulator_trap_kinds (H := Unit)) = .agg ((List.range 10).map kinD) := by kernel_rfl
theorem wid_rows : (Rows.laid_emulator_word_widths (H := Unit)) = .agg ((List.range 2).map widD) := by kernel_rfl
theorem frm_rows : (Rows.laid_emulator_inst_forms (H := Unit)) = .slice ((List.range 22).map fun k => frmD fun j => fmN.getD (k * 10 + j) 0) [] := by kernel_rfl
theorem br_rows : (Rows.laid_math_bits_deBruijn64tab (H := Unit)) = Lib.tabData .u8 brN := by kernel_rfl

theorem kin_cells {W : World} {base : Nat} {sp : Nat → Bool} {held : Bool} {n : Nat} {cs : List Value} {pl : List MemPlace} {k : Nat} (h : DataW.trod (fun _ => ()) Tryz.prog W base sp held n 162 cs = some (kinD k, pl)) : cs = kinR k := by
  have cS : Tryz.prog.cellsOf 9 = 1 := by kernel_rfl
  have cI : Tryz.prog.cellsOf 3 = 1 := by kernel_rfl
  have cB : Tryz.prog.cellsOf 4 = 1 := by kernel_rfl
  have cF : Tryz.prog.cellsOf 162 = 3 := by kernel_rfl
  obtain ⟨y0, y1, y2, m, hx, hcl, f0, f1, f2⟩ := trod_struct3 Tryz.underlying162 h
  rw [cF] at hcl
  match cs, hcl with
  | [c0, c1, c2], _ =>
    simp [cS, cI, cB] at f0 f1 f2
    obtain ⟨s, e0, rfl, _⟩ := DataW.trod_string Tryz.underlying9 f0
    obtain ⟨i, e1, rfl, _⟩ := DataW.trod_int Tryz.underlying3 f1
    obtain ⟨b, e2, rfl⟩ := DataW.trod_bool Tryz.underlying4 f2
    simp at e0 e1 e2
    subst e0 e1 e2
    simp only [kinD, Prod.mk.injEq, DataW.agg.injEq, List.cons.injEq, DataW.lit.injEq, Lit.string.injEq, Lit.int.injEq, Lit.bool.injEq, and_true, true_and] at hx
    obtain ⟨⟨h1, h2, h3⟩, _⟩ := hx
    rw [kinR, h2, h3, show s = ⟨⟨nmK.getD k []⟩⟩ from (ByteArray.ext (Array.toList_inj.1 h1)).symm]

theorem wid_cells {W : World} {base : Nat} {sp : Nat → Bool} {held : Bool} {n : Nat} {cs : List Value} {pl : List MemPlace} {k : Nat} (h : DataW.trod (fun _ => ()) Tryz.prog W base sp held n 139 cs = some (widD k, pl)) : cs = widR k := by
  have cI : Tryz.prog.cellsOf 3 = 1 := by kernel_rfl
  have cF : Tryz.prog.cellsOf 139 = 2 := by kernel_rfl
  obtain ⟨y0, y1, m, hx, hcl, f0, f1⟩ := trod_struct2 Tryz.underlying139 h
  rw [cF] at hcl
  match cs, hcl with
  | [c0, c1], _ =>
    simp [cI] at f0 f1
    obtain ⟨i, e0, rfl, _⟩ := DataW.trod_int Tryz.underlying3 f0
    obtain ⟨j, e1, rfl, _⟩ := DataW.trod_int Tryz.underlying3 f1
    simp at e0 e1
    subst e0 e1
    simp only [widD, Prod.mk.injEq, DataW.agg.injEq, List.cons.injEq, DataW.lit.injEq, Lit.int.injEq, and_true, true_and] at hx
    obtain ⟨⟨h1, h2⟩, _⟩ := hx
    rw [widR, h1, h2]

theorem form_cells {W : World} {base : Nat} {sp : Nat → Bool} {held : Bool} {n : Nat} {cs : List Value} {pl : List MemPlace} {f : Nat → Int} (h : DataW.trod (fun _ => ()) Tryz.prog W base sp held n 149 cs = some (frmD f, pl)) :
    cs = [.int .i64 (f 0), .int .i64 (f 1), .int .i64 (f 2), .int .i64 (f 3), .int .i64 (f 4), .int .i64 (f 5), .int .i64 (f 6), .int .i64 (f 7), .int .i64 (f 8), .int .i64 (f 9)] := by
  have cI : Tryz.prog.cellsOf 3 = 1 := by kernel_rfl
  have cO : Tryz.prog.cellsOf 59 = 1 := by kernel_rfl
  have cL : Tryz.prog.cellsOf 147 = 6 := by kernel_rfl
  have cF : Tryz.prog.cellsOf 149 = 10 := by kernel_rfl
  obtain ⟨xs, m, _, hx, hcl, hl, hf⟩ := DataW.trod_struct Tryz.underlying149 h
  rw [cF] at hcl
  match cs, hcl with
  | [c0, c1, c2, c3, c4, c5, c6, c7, c8, c9], _ =>
    match xs, hl with
    | [x0, x1, x2, x3, x4], _ =>
      have f0 := hf 0 _ rfl
      have f1 := hf 1 _ rfl
      have f2 := hf 2 _ rfl
      have f3 := hf 3 _ rfl
      have f4 := hf 4 _ rfl
      simp [cI, cO, cL] at f0 f1 f2 f3 f4
      obtain ⟨i0, e0, rfl, _⟩ := DataW.trod_int Tryz.underlying59 f0
      obtain ⟨i1, e1, rfl, _⟩ := DataW.trod_int Tryz.underlying59 f1
      obtain ⟨i2, e2, rfl, _⟩ := DataW.trod_int Tryz.underlying3 f2
      obtain ⟨i3, e3, rfl, _⟩ := DataW.trod_int Tryz.underlying3 f3
      obtain ⟨ys, m', _, rfl, _, hl', hf'⟩ := DataW.trod_struct Tryz.underlying147 f4
      match ys, hl' with
      | [y0, y1, y2, y3, y4, y5], _ =>
        have g0 := hf' 0 _ rfl
        have g1 := hf' 1 _ rfl
        have g2 := hf' 2 _ rfl
        have g3 := hf' 3 _ rfl
        have g4 := hf' 4 _ rfl
        have g5 := hf' 5 _ rfl
        simp [cI] at g0 g1 g2 g3 g4 g5
        obtain ⟨j0, d0, rfl, _⟩ := DataW.trod_int Tryz.underlying3 g0
        obtain ⟨j1, d1, rfl, _⟩ := DataW.trod_int Tryz.underlying3 g1
        obtain ⟨j2, d2, rfl, _⟩ := DataW.trod_int Tryz.underlying3 g2
        obtain ⟨j3, d3, rfl, _⟩ := DataW.trod_int Tryz.underlying3 g3
        obtain ⟨j4, d4, rfl, _⟩ := DataW.trod_int Tryz.underlying3 g4
        obtain ⟨j5, d5, rfl, _⟩ := DataW.trod_int Tryz.underlying3 g5
        simp at e0 e1 e2 e3 d0 d1 d2 d3 d4 d5
        subst e0 e1 e2 e3 d0 d1 d2 d3 d4 d5
        simp [frmD] at hx
        obtain ⟨⟨h0, h1, h2, h3, h4, h5, h6, h7, h8, h9⟩, _⟩ := hx
        rw [h0, h1, h2, h3, h4, h5, h6, h7, h8, h9]

/-- An array of rows of `s` cells that reads as listed. -/
theorem rows_read {W : World} {name : String} {g t e : Nat} {n s N : Nat} {D : Nat → DataW Unit} {R : Nat → List Value}
    (hg : Tryz.prog.globalNamed name = some g) (hty : (Tryz.prog.globals[g]?).map (·.type) = some t) (ht : Tryz.prog.underlying t = some (.array n e)) (hce : Tryz.prog.cellsOf e = s) (hct : Tryz.prog.cellsOf t = N) (hN : N = n * s)
    (hR : ∀ k, (R k).length = s) (hrow : ∀ {base : Nat} {sp : Nat → Bool} {held : Bool} {m : Nat} {cs : List Value} {pl : List MemPlace} {k : Nat}, DataW.trod (fun _ => ()) Tryz.prog W base sp held m e cs = some (D k, pl) → cs = R k)
    (h : Lib.VarReads Tryz.prog W name (.agg ((List.range n).map D))) : ∀ j v, ((List.range n).flatMap R)[j]? = some v → W.cell? ⟨g, j, none⟩ = some v := by
  obtain ⟨g', t', cs, fuel, p, hg', ht', hvar, hd⟩ := h
  obtain rfl := Option.some.inj (hg.symm.trans hg')
  obtain rfl := Option.some.inj (hty.symm.trans ht')
  obtain ⟨xs, m, _, hx, hlen, hn, hel⟩ := DataW.trod_array ht hd
  rw [hct] at hlen
  simp only [Prod.mk.injEq, DataW.agg.injEq] at hx
  intro j v hj
  obtain ⟨k, i, hk, hi, rfl, hv⟩ := rows_at hR n j v hj
  have h1 := hel k hk
  rw [hce] at h1
  have h2 : xs[k]? = some (D k, (xs[k]'(by omega)).2) := by
    rw [List.getElem?_eq_getElem (by omega)]
    have h3 : (xs.map (·.1))[k]? = ((List.range n).map D)[k]? := by rw [← hx.1]
    rw [List.getElem?_map, List.getElem?_eq_getElem (by omega), List.getElem?_map, List.getElem?_range hk] at h3
    rw [← Option.some.inj h3]
  rw [h2] at h1
  have h4 := hrow h1
  rw [World.var?_cell hg hvar]
  have h5 : (cs.toList.drop (k * s))[i]? = some v := by
    rw [← h4, List.getElem?_take, if_pos hi] at hv; exact hv
  rw [List.getElem?_drop] at h5
  simpa using h5

theorem of_laid {W : World} (h : laidMetH Tryz.prog laidW W) : ∃ A c, Tab A c W := by
  rw [MakeChecks.laidMetH_plain _ _ _ (by kernel_rfl)] at h
  have rk := Lib.laidMet.reads h (.head _)
  have rw' := Lib.laidMet.reads h (.tail _ (.head _))
  have rb := Lib.laidMet.reads h (.tail _ (.tail _ (.tail _ (.head _))))
  rw [kin_rows] at rk
  rw [wid_rows] at rw'
  rw [br_rows] at rb
  have g1 : Tryz.prog.globalNamed "math/bits.deBruijn64tab" = some 4 := by kernel_rfl
  have r1 := tab_of_reads (k := .u8) (zs := brN) (t := 250) (e := 5) (n := 64) g1 (by kernel_rfl) Tryz.underlying250 Tryz.underlying5 (by kernel_rfl) (by kernel_rfl) rb
  have hb : ∀ j v, brL[j]? = some v → W.cell? ⟨4, j, none⟩ = some v := fun j v hj => by
    rw [br_eq, List.getElem?_map] at hj
    obtain ⟨z, hz, rfl⟩ := Option.map_eq_some_iff.1 hj
    have hlt : j < brN.length := (List.getElem?_eq_some_iff.1 hz).1
    have := r1.cell g1 j hlt
    rw [List.getD_eq_getElem?_getD, hz] at this
    exact this
  have hk := rows_read (s := 3) (n := 10) (N := 30) (e := 162) (t := 201) (g := 2) (R := kinR) (by kernel_rfl) (by kernel_rfl) Tryz.underlying201 (by kernel_rfl) (by kernel_rfl) rfl (fun _ => rfl) (fun h => kin_cells h) rk
  have hw := rows_read (s := 2) (n := 2) (N := 4) (e := 139) (t := 140) (g := 0) (R := widR) (by kernel_rfl) (by kernel_rfl) Tryz.underlying140 (by kernel_rfl) (by kernel_rfl) rfl (fun _ => rfl) (fun h => wid_cells h) rw'
  obtain ⟨g', t', cs, fuel, p, hg', ht', hvar, hd⟩ := Lib.laidMet.reads h (.tail _ (.tail _ (.tail _ (.tail _ (.head _)))))
  have g2 : Tryz.prog.globalNamed "emulator/inst.forms" = some 1 := by kernel_rfl
  have t2 : (Tryz.prog.globals[1]?).map (·.type) = some 191 := by kernel_rfl
  obtain rfl := Option.some.inj (g2.symm.trans hg')
  obtain rfl := Option.some.inj (t2.symm.trans ht')
  have cF : Tryz.prog.cellsOf 149 = 10 := by kernel_rfl
  rw [frm_rows] at hd
  rcases open_slice Tryz.underlying191 hd with ⟨_, hx⟩ | ⟨a, len, cap, m, n, D, Pl, hcs, hb', hlc, hcm, hm, hx, hi⟩
  · cases hx
  · simp only [Prod.mk.injEq, DataW.slice.injEq] at hx
    have hm' : m = cap := by simpa using hm
    obtain ⟨⟨hx1, _⟩, _⟩ := hx
    have hlen : len = 22 := by
      have k := congrArg List.length hx1
      rw [List.length_map, List.length_map, List.length_range, List.length_range] at k
      exact k.symm
    subst hlen
    have hgc := World.var?_cell g2 hvar 0
    have hgs : W.cell? ⟨1, 0, none⟩ = some (.slice (some a) 22 cap) := by
      have k : cs[0]? = some (.slice (some a) 22 cap) := by
        have k1 : cs.toList[0]? = some (.slice (some a) 22 cap) := by rw [hcs]; rfl
        simpa using k1
      rw [k] at hgc
      exact hgc
    refine ⟨a, cap, ⟨by rw [wid_eq]; exact hw, by rw [kin_eq]; exact hk, hb, hgs, ?_, hlc⟩⟩
    intro j v hj
    rw [frm_eq] at hj
    obtain ⟨k, i, hk, hi10, rfl, hv⟩ := rows_at (s := 10) (fun _ => rfl) 22 j v hj
    have hD : D k = frmD fun j => fmN.getD (k * 10 + j) 0 := by
      have k1 : ((List.range 22).map fun k => frmD fun j => fmN.getD (k * 10 + j) 0)[k]? = ((List.range 22).map D)[k]? := by rw [hx1]
      rw [List.getElem?_map, List.getElem?_map, List.getElem?_range hk] at k1
      exact (Option.some.inj k1).symm
    obtain ⟨cs', hc1, hc2⟩ := hi k (by omega)
    rw [hD] at hc2
    have hcells := form_cells hc2
    rw [cF] at hc1
    obtain ⟨_, hcl, hat⟩ := World.cells?_some hc1
    have k3 := hat i (by omega)
    rw [show a.add (k * 10 + i) = (a.add (k * 10)).add i from (add_add a _ _).symm, k3, hcells]
    exact hv
end Go.Proofs.YtlegcfjafdihlaaGreatDoor
