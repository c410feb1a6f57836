/-
  The condition on the listed variables (the tables read as their initialisers lay them) gives the facts that the walks ask for; an operand, an instruction and a slice of integers among the arguments, opened and shut.
-/
import Derived.Test.YtdbbnkjnmldnpaaGreatDoorRows
import Derived.Test.YtdbbnkjnmldnpaaGreatDoorMT
import Derived.Test.YtdbbnkjnmldnpaaGreatDoorNums
import Derived.ProofKit
import Derived.LaidMore
import Derived.OpenShut
import Derived.Carry
import Derived.Stop.Joined
import Derived.ChangeSame
import Derived.ChangeSlices
import Derived.Deep.Slices
import Derived.Lib.SmallJoins
import Derived.Lib.LaidTab
import Derived.Lib.LaidU8
namespace Go.Proofs.YtdbbnkjnmldnpaaGreatDoor
open Go Go.ChangeShapes Go.WideShapes Go.ChangeAt Go.RowKit Go.Deep
set_option linter.unusedVariables false
set_option linter.unusedSimpArgs false
set_option maxRecDepth 100000

theorem own : ownKnob Tryz.prog.godebug = none := by kernel_rfl
theorem laidOut : laidOutB Tryz.prog = true := by kernel_rfl

/-- A table that reads as listed holds its numbers. -/
theorem tab_of_reads {P : Program} {W : World} {name : String} {k : IntKind} {zs : List Int} {g : Nat} {t e : TypeId} {n : Nat}
    (hg : P.globalNamed name = some g) (hty : (P.globals[g]?).map (·.type) = some t) (ht : P.underlying t = some (.array n e)) (he : P.underlying e = some (.int k)) (hce : P.cellsOf e = 1) (hct : P.cellsOf t = n)
    (h : Lib.VarReads P W name (Lib.tabData k zs)) : Lib.TabIs P W name k zs := by
  obtain ⟨g', t', cs, fuel, p, hg', ht', hvar, hd⟩ := h
  obtain rfl := Option.some.inj (hg.symm.trans hg')
  obtain rfl := Option.some.inj (hty.symm.trans ht')
  unfold Lib.TabIs
  rw [hvar, ← Lib.cells_of_tab ht he hce hct hd]

def nums {H : Type} : DataW H → List Int
  | .agg l => l.map fun d => match d with | .lit (.int _ z) => z | _ => 0
  | _ => []
def brTab : List Int := nums (Rows.laid_math_bits_deBruijn64tab (H := Unit))
def rowD (e : Row) : DataW Unit := .agg [.lit (.int .i64 e.f), .lit (.int .i64 e.l), .lit (.int .i64 e.d), .lit (.int .i64 e.a), .agg [.lit (.int .i64 e.e0), .lit (.int .i64 e.e1), .lit (.int .i64 e.e2), .lit (.int .i64 e.e3), .lit (.int .i64 e.e4), .lit (.int .i64 e.e5)]]
theorem forms_rows : (Rows.laid_emulator_inst_forms (H := Unit)) = .slice (rows.map rowD) [] := by kernel_rfl

theorem form_cells {W : World} {base : Nat} {sp : Nat → Bool} {held : Bool} {n : Nat} {cs : List Value} {pl : List MemPlace} {e : Row} (h : DataW.trod (fun _ => ()) Tryz.prog W base sp held n 69 cs = some (rowD e, pl)) :
    cs = [.int .i64 e.f, .int .i64 e.l, .int .i64 e.d, .int .i64 e.a, .int .i64 e.e0, .int .i64 e.e1, .int .i64 e.e2, .int .i64 e.e3, .int .i64 e.e4, .int .i64 e.e5] := by
  have cI : Tryz.prog.cellsOf 3 = 1 := by kernel_rfl
  have cO : Tryz.prog.cellsOf 27 = 1 := by kernel_rfl
  have cL : Tryz.prog.cellsOf 67 = 6 := by kernel_rfl
  have cF : Tryz.prog.cellsOf 69 = 10 := by kernel_rfl
  obtain ⟨xs, m, _, hx, hcl, hl, hf⟩ := DataW.trod_struct Tryz.underlying69 h
  rw [cF] at hcl
  match cs, hcl with
  | [c0, c1, c2, c3, c4, c5, c6, c7, c8, c9], _ =>
    match xs, hl with
    | [x0, x1, x2, x3, x4], _ =>
      have f0 := hf 0 _ rfl
      have f1 := hf 1 _ rfl
      have f2 := hf 2 _ rfl
      have f3 := hf 3 _ rfl
      have f4 := hf 4 _ rfl
      simp [cI, cO, cL] at f0 f1 f2 f3 f4
      obtain ⟨i0, e0, rfl, _⟩ := DataW.trod_int Tryz.underlying27 f0
      obtain ⟨i1, e1, rfl, _⟩ := DataW.trod_int Tryz.underlying27 f1
      obtain ⟨i2, e2, rfl, _⟩ := DataW.trod_int Tryz.underlying3 f2
      obtain ⟨i3, e3, rfl, _⟩ := DataW.trod_int Tryz.underlying3 f3
      obtain ⟨ys, m', _, rfl, _, hl', hf'⟩ := DataW.trod_struct Tryz.underlying67 f4
      match ys, hl' with
      | [y0, y1, y2, y3, y4, y5], _ =>
        have g0 := hf' 0 _ rfl
        have g1 := hf' 1 _ rfl
        have g2 := hf' 2 _ rfl
        have g3 := hf' 3 _ rfl
        have g4 := hf' 4 _ rfl
        have g5 := hf' 5 _ rfl
        simp [cI] at g0 g1 g2 g3 g4 g5
        obtain ⟨j0, d0, rfl, _⟩ := DataW.trod_int Tryz.underlying3 g0
        obtain ⟨j1, d1, rfl, _⟩ := DataW.trod_int Tryz.underlying3 g1
        obtain ⟨j2, d2, rfl, _⟩ := DataW.trod_int Tryz.underlying3 g2
        obtain ⟨j3, d3, rfl, _⟩ := DataW.trod_int Tryz.underlying3 g3
        obtain ⟨j4, d4, rfl, _⟩ := DataW.trod_int Tryz.underlying3 g4
        obtain ⟨j5, d5, rfl, _⟩ := DataW.trod_int Tryz.underlying3 g5
        simp at e0 e1 e2 e3 d0 d1 d2 d3 d4 d5
        subst e0 e1 e2 e3 d0 d1 d2 d3 d4 d5
        simp [rowD] at hx
        obtain ⟨⟨h0, h1, h2, h3, h4, h5, h6, h7, h8, h9⟩, _⟩ := hx
        rw [h0, h1, h2, h3, h4, h5, h6, h7, h8, h9]

/-- The forms and the table of math/bits. -/
theorem frm_of {W : World} (h1 : Lib.VarReads Tryz.prog W "math/bits.deBruijn64tab" (Rows.laid_math_bits_deBruijn64tab)) (h2 : Lib.VarReads Tryz.prog W "emulator/inst.forms" (Rows.laid_emulator_inst_forms)) : ∃ A c, Frm A c W ∧ Tb7 W := by
  have g1 : Tryz.prog.globalNamed "math/bits.deBruijn64tab" = some 11 := by kernel_rfl
  have r1 := tab_of_reads (k := .u8) (zs := brTab) (t := 127) (e := 5) (n := 64) g1 (by kernel_rfl) Tryz.underlying127 Tryz.underlying5 (by kernel_rfl) (by kernel_rfl) h1
  have c0 := r1.cell g1 0 (by decide)
  have c63 := r1.cell g1 63 (by decide)
  have c7 := r1.cell g1 7 (by decide)
  obtain ⟨g', t', cs, fuel, p, hg', ht', hvar, hd⟩ := h2
  have g2 : Tryz.prog.globalNamed "emulator/inst.forms" = some 7 := by kernel_rfl
  have t2 : (Tryz.prog.globals[7]?).map (·.type) = some 96 := by kernel_rfl
  obtain rfl := Option.some.inj (g2.symm.trans hg')
  obtain rfl := Option.some.inj (t2.symm.trans ht')
  have cF : Tryz.prog.cellsOf 69 = 10 := by kernel_rfl
  rw [forms_rows] at hd
  rcases open_slice Tryz.underlying96 hd with ⟨_, hx⟩ | ⟨a, len, cap, m, n, D, Pl, hcs, hb, hlc, hcm, hm, hx, hi⟩
  · cases hx
  · have hm' : m = cap := by simpa using hm
    simp only [Prod.mk.injEq, DataW.slice.injEq] at hx
    obtain ⟨⟨hx1, _⟩, _⟩ := hx
    have hlen : len = 22 := by
      have k := congrArg List.length hx1
      rw [List.length_map, List.length_map, List.length_range] at k
      exact k.symm.trans (by decide)
    subst hlen
    have hgc := World.var?_cell g2 hvar 0
    have hgs : W.cell? ⟨7, 0, none⟩ = some (.slice (some a) 22 cap) := by
      have k : cs[0]? = some (.slice (some a) 22 cap) := by
        have k1 : cs.toList[0]? = some (.slice (some a) 22 cap) := by rw [hcs]; rfl
        simpa using k1
      rw [k] at hgc
      exact hgc
    have hat : ∀ (k : Nat) (e : Row), rows[k]? = some e → ∀ (j : Nat) (v : Int), [e.f, e.l, e.d, e.a, e.e0, e.e1, e.e2, e.e3, e.e4, e.e5][j]? = some v → W.cell? ((a.add (k * 10)).add j) = some (.int .i64 v) := fun k e he j v hj => by
      have hk : k < 22 := (List.getElem?_eq_some_iff.1 he).1
      have hD : D k = rowD e := by
        have k1 : (rows.map rowD)[k]? = ((List.range 22).map D)[k]? := by rw [hx1]
        rw [List.getElem?_map, he, List.getElem?_map, List.getElem?_range hk] at k1
        exact (Option.some.inj k1).symm
      obtain ⟨cs', hc1, hc2⟩ := hi k (by omega)
      rw [hD] at hc2
      have hcells := form_cells hc2
      rw [cF] at hc1
      obtain ⟨_, hcl, hat⟩ := World.cells?_some hc1
      have hj' : j < 10 := (List.getElem?_eq_some_iff.1 hj).1
      have k3 := hat j (by omega)
      rw [k3, hcells]
      have k4 : ([e.f, e.l, e.d, e.a, e.e0, e.e1, e.e2, e.e3, e.e4, e.e5].map (Value.int .i64))[j]? = some (.int .i64 v) := by rw [List.getElem?_map, hj]; rfl
      exact k4
    refine ⟨a, cap, ⟨?_, ?_, World.block_lt_of_cell? W _ c0, hgs, World.block_lt_of_cell? W _ hgs, ?_, hat⟩, ?_, World.block_lt_of_cell? W _ c0⟩
    · have k : brTab.getD 0 0 = 0 := by decide +kernel
      rw [k] at c0; exact c0
    · have k : brTab.getD 63 0 = 6 := by decide +kernel
      rw [k] at c63; exact c63
    · exact World.block_lt_of_cell? W _ (hat 0 _ rfl 0 _ rfl)
    · have k : brTab.getD 7 0 = 3 := by decide +kernel
      rw [k] at c7; exact c7

def strD (l : List (List UInt8)) : List (DataW Unit) := l.map fun s => .lit (.string s)
theorem str_back {s' : ByteArray} {s : List UInt8} (h : s'.data.toList = s) : s' = ⟨s.toArray⟩ := by
  subst h
  simp
/-- An array of texts. -/
theorem array_txs {P : Program} {W : World} {name : String} {g : Nat} {t e : TypeId} {n : Nat} {l : List (List UInt8)} (hg : P.globalNamed name = some g) (hty : (P.globals[g]?).map (·.type) = some t)
    (ht : P.underlying t = some (.array n e)) (he : P.underlying e = some .string) (hce : P.cellsOf e = 1) (hn : l.length = n) (h0 : 0 < n) (h : Lib.VarReads P W name (.agg (strD l))) : Txs ⟨g, 0, none⟩ l W ∧ g < W.heap.size := by
  obtain ⟨g', t', cs, fuel, p, hg', ht', hvar, hd⟩ := h
  obtain rfl := Option.some.inj (hg.symm.trans hg')
  obtain rfl := Option.some.inj (hty.symm.trans ht')
  have hc : ∀ (k : Nat) (s : List UInt8), l[k]? = some s → W.cell? ⟨g, k, none⟩ = some (.string ⟨s.toArray⟩) := fun k s hs => by
    have hk : k < n := by rw [← hn]; exact (List.getElem?_eq_some_iff.1 hs).1
    obtain ⟨f', d, q, h1, h2⟩ := Lib.array_elem ht hd k hk
    rw [hce, Nat.mul_one] at h2
    obtain ⟨s', h3, h4, _⟩ := DataW.trod_string he h2
    unfold strD at h1
    rw [List.getElem?_map, hs] at h1
    cases h1
    simp only [Prod.mk.injEq, DataW.lit.injEq, Lit.string.injEq] at h4
    rw [World.var?_cell hg hvar k]
    have h5 : (cs.toList.drop k)[0]? = some (.string s') := by
      have e : ((cs.toList.drop k).take 1)[0]? = some (.string s') := by rw [h3]; rfl
      rw [List.getElem?_take] at e
      simpa using e
    rw [List.getElem?_drop, Nat.add_zero] at h5
    rw [← str_back h4.1.symm]
    simpa using h5
  refine ⟨fun k s hs => by rw [add_at]; exact hc k s hs, ?_⟩
  have hl : 0 < l.length := by omega
  exact World.block_lt_of_cell? W _ (hc 0 _ (List.getElem?_eq_getElem hl))
/-- A slice of texts. -/
theorem slice_tab {P : Program} {W : World} {name : String} {g : Nat} {t e : TypeId} {l : List (List UInt8)} (hg : P.globalNamed name = some g) (hty : (P.globals[g]?).map (·.type) = some t)
    (ht : P.underlying t = some (.slice e)) (he : P.underlying e = some .string) (hce : P.cellsOf e = 1) (h0 : 0 < l.length) (h : Lib.VarReads P W name (.slice (strD l) [])) : Tab g l W := by
  obtain ⟨g', t', cs, fuel, p, hg', ht', hvar, hd⟩ := h
  obtain rfl := Option.some.inj (hg.symm.trans hg')
  obtain rfl := Option.some.inj (hty.symm.trans ht')
  rcases open_slice1 ht hce hd with ⟨_, hx⟩ | ⟨a, len, cap, m, n, V, D, Pl, hcs, hb, hlc, hcm, hm, hx, hi⟩
  · cases hx
  · simp only [Prod.mk.injEq, DataW.slice.injEq] at hx
    obtain ⟨⟨hx1, _⟩, _⟩ := hx
    have hlen : len = l.length := by
      have k := congrArg List.length hx1
      unfold strD at k
      simpa using k.symm
    subst hlen
    have hgs : W.cell? ⟨g, 0, none⟩ = some (.slice (some a) l.length cap) := by
      have hgc := World.var?_cell hg hvar 0
      have k1 : cs.toList[0]? = some (.slice (some a) l.length cap) := by rw [hcs]; rfl
      rw [hgc]
      simpa using k1
    have hc : ∀ (k : Nat) (s : List UInt8), l[k]? = some s → W.cell? (a.add k) = some (.string ⟨s.toArray⟩) := fun k s hs => by
      have hk : k < l.length := (List.getElem?_eq_some_iff.1 hs).1
      have hD : D k = .lit (.string s) := by
        have k1 : (strD l)[k]? = ((List.range l.length).map D)[k]? := by rw [hx1]
        unfold strD at k1
        rw [List.getElem?_map, hs, List.getElem?_map, List.getElem?_range hk] at k1
        exact (Option.some.inj k1).symm
      obtain ⟨h1, h2⟩ := hi k (by have : m = cap := by simpa using hm
                                  omega)
      rw [hD] at h2
      obtain ⟨s', h3, h4, _⟩ := DataW.trod_string he h2
      simp only [Prod.mk.injEq, DataW.lit.injEq, Lit.string.injEq] at h4
      rw [h1, List.cons.inj h3 |>.1, ← str_back h4.1.symm]
    refine ⟨⟨a, cap, hgs, hc, ?_⟩, World.block_lt_of_cell? W _ hgs⟩
    have k := World.block_lt_of_cell? W _ (hc 0 _ (List.getElem?_eq_getElem h0))
    rwa [add_block] at k
theorem abv_cells {W : World} {base : Nat} {sp : Nat → Bool} {held : Bool} {n : Nat} {cs : List Value} {pl : List MemPlace} {e : List UInt8 × Int × Int} (h : DataW.trod (fun _ => ()) Tryz.prog W base sp held n 62 cs = some (.agg [.lit (.string e.1), .lit (.int .i64 e.2.1), .lit (.int .i64 e.2.2)], pl)) :
    cs = [.string ⟨e.1.toArray⟩, .int .i64 e.2.1, .int .i64 e.2.2] := by
  have cI : Tryz.prog.cellsOf 3 = 1 := by kernel_rfl
  have cO : Tryz.prog.cellsOf 27 = 1 := by kernel_rfl
  have cS : Tryz.prog.cellsOf 9 = 1 := by kernel_rfl
  have cF : Tryz.prog.cellsOf 62 = 3 := by kernel_rfl
  obtain ⟨xs, m, _, hx, hcl, hl, hf⟩ := DataW.trod_struct Tryz.underlying62 h
  rw [cF] at hcl
  match cs, hcl with
  | [c0, c1, c2], _ =>
    match xs, hl with
    | [x0, x1, x2], _ =>
      have f0 := hf 0 _ rfl
      have f1 := hf 1 _ rfl
      have f2 := hf 2 _ rfl
      simp [cI, cO, cS] at f0 f1 f2
      obtain ⟨s0, e0, rfl, _⟩ := DataW.trod_string Tryz.underlying9 f0
      obtain ⟨i1, e1, rfl, _⟩ := DataW.trod_int Tryz.underlying27 f1
      obtain ⟨i2, e2, rfl, _⟩ := DataW.trod_int Tryz.underlying3 f2
      simp at e0 e1 e2
      subst e0 e1 e2
      simp at hx
      obtain ⟨⟨h0, h1, h2⟩, _⟩ := hx
      rw [h0, h1, h2]
def avD : List (DataW Unit) := abv.map fun e => .agg [.lit (.string e.1), .lit (.int .i64 e.2.1), .lit (.int .i64 e.2.2)]
theorem av_of {W : World} (h : Lib.VarReads Tryz.prog W "emulator/disasm.abbreviations" (.agg avD)) : (∀ (k : Nat) (e : List UInt8 × Int × Int), abv[k]? = some e → W.cell? ⟨4, 3 * k, none⟩ = some (.string ⟨e.1.toArray⟩) ∧ W.cell? ⟨4, 3 * k + 1, none⟩ = some (.int .i64 e.2.1) ∧ W.cell? ⟨4, 3 * k + 2, none⟩ = some (.int .i64 e.2.2)) ∧ 4 < W.heap.size := by
  have hg : Tryz.prog.globalNamed "emulator/disasm.abbreviations" = some 4 := by kernel_rfl
  have hty : (Tryz.prog.globals[4]?).map (·.type) = some 63 := by kernel_rfl
  have cF : Tryz.prog.cellsOf 62 = 3 := by kernel_rfl
  obtain ⟨g', t', cs, fuel, p, hg', ht', hvar, hd⟩ := h
  obtain rfl := Option.some.inj (hg.symm.trans hg')
  obtain rfl := Option.some.inj (hty.symm.trans ht')
  have hc : ∀ (k : Nat) (e : List UInt8 × Int × Int), abv[k]? = some e → (cs.toList.drop (k * 3)).take 3 = [.string ⟨e.1.toArray⟩, .int .i64 e.2.1, .int .i64 e.2.2] := fun k e he => by
    have hk : k < 9 := (List.getElem?_eq_some_iff.1 he).1
    obtain ⟨f', d, q, h1, h2⟩ := Lib.array_elem Tryz.underlying63 hd k hk
    rw [cF] at h2
    unfold avD at h1
    rw [List.getElem?_map, he] at h1
    cases h1
    exact abv_cells h2
  have hat : ∀ (k : Nat) (e : List UInt8 × Int × Int), abv[k]? = some e → ∀ (i : Nat) (v : Value), [Value.string ⟨e.1.toArray⟩, .int .i64 e.2.1, .int .i64 e.2.2][i]? = some v → W.cell? ⟨4, 3 * k + i, none⟩ = some v := fun k e he i v hv => by
    have h1 := hc k e he
    have hi : i < 3 := (List.getElem?_eq_some_iff.1 hv).1
    have h2 : ((cs.toList.drop (k * 3)).take 3)[i]? = some v := by rw [h1]; exact hv
    rw [List.getElem?_take, if_pos hi, List.getElem?_drop] at h2
    rw [World.var?_cell hg hvar, ← Array.getElem?_toList, Nat.mul_comm 3 k]
    exact h2
  exact ⟨fun k e he => ⟨hat k e he 0 _ rfl, hat k e he 1 _ rfl, hat k e he 2 _ rfl⟩, World.block_lt_of_cell? W _ (hat 0 _ rfl 0 _ rfl)⟩

theorem regs_eq : (Rows.laid_emulator_disasm_registers (H := Unit)) = .agg (strD rgs) := by kernel_rfl
theorem mns_eq : (Rows.laid_emulator_disasm_mnemonics (H := Unit)) = .agg (strD mns) := by kernel_rfl
theorem abv_eq : (Rows.laid_emulator_disasm_abbreviations (H := Unit)) = .agg avD := by kernel_rfl
/-- The program's tables. -/
theorem dis_of {W : World} (h1 : Lib.VarReads Tryz.prog W "math/bits.deBruijn64tab" (Rows.laid_math_bits_deBruijn64tab)) (h2 : Lib.VarReads Tryz.prog W "emulator/inst.forms" (Rows.laid_emulator_inst_forms))
    (h3 : Lib.VarReads Tryz.prog W "emulator/disasm.registers" (Rows.laid_emulator_disasm_registers)) (h4 : Lib.VarReads Tryz.prog W "emulator/disasm.mnemonics" (Rows.laid_emulator_disasm_mnemonics)) (h5 : Lib.VarReads Tryz.prog W "emulator/disasm.abbreviations" (Rows.laid_emulator_disasm_abbreviations)) : ∃ A c, Dis A c W := by
  obtain ⟨A, c, hF, hT⟩ := frm_of h1 h2
  rw [regs_eq] at h3
  rw [mns_eq] at h4
  rw [abv_eq] at h5
  have cS : Tryz.prog.cellsOf 9 = 1 := by kernel_rfl
  obtain ⟨r1, r2⟩ := array_txs (by kernel_rfl) (by kernel_rfl) Tryz.underlying65 Tryz.underlying9 cS (by decide) (by decide) h3
  obtain ⟨m1, m2⟩ := array_txs (by kernel_rfl) (by kernel_rfl) Tryz.underlying48 Tryz.underlying9 cS (by decide) (by decide) h4
  obtain ⟨a1, a2⟩ := av_of h5
  exact ⟨A, c, hF, hT, r1, r2, m1, m2, a1, a2⟩
theorem rregs_of {W : World} (h : Lib.VarReads Tryz.prog W "emulator/emulatorref07.registers" (Rows.laid_emulator_emulatorref07_registers)) : Tab 3 rgs W := by
  rw [show (Rows.laid_emulator_emulatorref07_registers (H := Unit)) = .slice (strD rgs) [] by kernel_rfl] at h
  exact slice_tab (by kernel_rfl) (by kernel_rfl) Tryz.underlying24 Tryz.underlying9 (by kernel_rfl) (by decide) h
theorem rnames_of {W : World} (h : Lib.VarReads Tryz.prog W "emulator/emulatorref07.names" (Rows.laid_emulator_emulatorref07_names)) : Tab 6 mns W := by
  rw [show (Rows.laid_emulator_emulatorref07_names (H := Unit)) = .slice (strD mns) [] by kernel_rfl] at h
  exact slice_tab (by kernel_rfl) (by kernel_rfl) Tryz.underlying24 Tryz.underlying9 (by kernel_rfl) (by decide) h
theorem rclear_of {W : World} (h : Lib.VarReads Tryz.prog W "emulator/emulatorref07.clear" (Rows.laid_emulator_emulatorref07_clear)) : Tab 1 clr W := by
  rw [show (Rows.laid_emulator_emulatorref07_clear (H := Unit)) = .slice (strD clr) [] by kernel_rfl] at h
  exact slice_tab (by kernel_rfl) (by kernel_rfl) Tryz.underlying24 Tryz.underlying9 (by kernel_rfl) (by decide) h
theorem rset_of {W : World} (h : Lib.VarReads Tryz.prog W "emulator/emulatorref07.set" (Rows.laid_emulator_emulatorref07_set)) : Tab 2 sts W := by
  rw [show (Rows.laid_emulator_emulatorref07_set (H := Unit)) = .slice (strD sts) [] by kernel_rfl] at h
  exact slice_tab (by kernel_rfl) (by kernel_rfl) Tryz.underlying24 Tryz.underlying9 (by kernel_rfl) (by decide) h

/-- A slice of integers among the arguments: what it reads as. -/
theorem open_nums {H : Type} {enc : TypeId × Value → H} {P : Program} {W : World} {r : Reach} {b0 : Nat} {t e : TypeId} {k : IntKind} {v : Value} {d : DataW H} {p : List MemPlace}
    (ht : P.underlying t = some (.slice e)) (he : P.underlying e = some (.int k)) (hc : P.cellsOf e = 1) (hv : Value.okWide P W r b0 t v) (h : DataW.Trod enc P W 0 (fun _ => true) true t v d p) :
    ∃ l : List Int, Nums k W v l ∧ (∀ x ∈ l, (Lit.int k x).wf = true) ∧ l.length ≤ maxLen := by
  obtain ⟨a0, len0, cap0, rfl⟩ := okWide_slice ht hv
  obtain ⟨fuel, hf⟩ := h
  rcases open_ints ht he hc hf with ⟨hcs, _⟩ | ⟨a, len, cap, zs, hcs, _, hl, hm, hzl, _, hcell, hw⟩
  · simp [Value.cells] at hcs
    obtain ⟨rfl, rfl, rfl⟩ := hcs
    exact ⟨[], ⟨none, 0, rfl, Nat.le_refl _, fun j x hx => by simp at hx⟩, by simp, Nat.zero_le _⟩
  · simp [Value.cells] at hcs
    obtain ⟨rfl, rfl, rfl⟩ := hcs
    have hzl' : zs.length = cap0 := by simpa using hzl
    have hlen : (zs.take len0).length = len0 := by rw [List.length_take]; omega
    refine ⟨zs.take len0, ⟨some a, cap0, by rw [hlen], by omega, fun j x hx => ⟨a, rfl, ?_⟩⟩, fun x hx => hw x (List.mem_of_mem_take hx), by rw [hlen]; omega⟩
    have hj : j < len0 := by rw [← hlen]; exact (List.getElem?_eq_some_iff.1 hx).1
    have hz : zs[j]? = some x := by rw [List.getElem?_take] at hx; simpa [hj] using hx
    have h1 := hcell j (by omega)
    have h2 : zs.getD j 0 = x := by rw [List.getD, hz]; rfl
    rw [h2] at h1
    exact ⟨h1, World.block_lt_of_cell? W _ h1⟩

def instD {H : Type} (o : Int) (b : Bool) (m r x p q y g n : Int) : DataW H := .agg [.lit (.int .i64 o), .lit (.bool b), .agg [.lit (.int .i64 m), .lit (.int .i64 r), .lit (.int .i64 x)], .agg [.lit (.int .i64 p), .lit (.int .i64 q), .lit (.int .i64 y)], .lit (.int .i64 g), .lit (.int .i64 n)]
/-- An instruction among the arguments: its ten cells. -/
theorem open_inst {H : Type} {enc : TypeId × Value → H} {W : World} {r' : Reach} {b0 base : Nat} {sp : Nat → Bool} {held : Bool} {v : Value} {d : DataW H} {pl : List MemPlace}
    (hv : Value.okWide Tryz.prog W r' b0 36 v) (h : DataW.Trod enc Tryz.prog W base sp held 36 v d pl) :
    ∃ (o : Int) (b : Bool) (m r x p q y g n : Int), v = .agg #[.int .i64 o, .bool b, .int .i64 m, .int .i64 r, .int .i64 x, .int .i64 p, .int .i64 q, .int .i64 y, .int .i64 g, .int .i64 n] ∧ d = instD o b m r x p q y g n ∧ pl = [] ∧
      ((Lit.int .i64 o).wf = true ∧ (Lit.int .i64 m).wf = true ∧ (Lit.int .i64 r).wf = true ∧ (Lit.int .i64 x).wf = true ∧ (Lit.int .i64 p).wf = true ∧ (Lit.int .i64 q).wf = true ∧ (Lit.int .i64 y).wf = true ∧ (Lit.int .i64 g).wf = true ∧ (Lit.int .i64 n).wf = true) := by
  have cI : Tryz.prog.cellsOf 3 = 1 := by kernel_rfl
  have cB : Tryz.prog.cellsOf 4 = 1 := by kernel_rfl
  have cO : Tryz.prog.cellsOf 27 = 1 := by kernel_rfl
  have cP : Tryz.prog.cellsOf 33 = 3 := by kernel_rfl
  have cF : Tryz.prog.cellsOf 36 = 10 := by kernel_rfl
  obtain ⟨cs, rfl, hsz⟩ := okWide_struct Tryz.underlying36 hv
  obtain ⟨l⟩ := cs
  match l, hsz.trans cF with
  | [c0, c1, c2, c3, c4, c5, c6, c7, c8, c9], _ =>
    obtain ⟨fuel, hf0⟩ := h
    obtain ⟨xs, m', _, hx, _, hl, hf⟩ := DataW.trod_struct Tryz.underlying36 hf0
    match xs, hl with
    | [x0, x1, x2, x3, x4, x5], _ =>
      have f0 := hf 0 _ rfl
      have f1 := hf 1 _ rfl
      have f2 := hf 2 _ rfl
      have f3 := hf 3 _ rfl
      have f4 := hf 4 _ rfl
      have f5 := hf 5 _ rfl
      simp [Value.cells, cI, cB, cO, cP] at f0 f1 f2 f3 f4 f5
      obtain ⟨o, e0, rfl, w0⟩ := DataW.trod_int Tryz.underlying27 f0
      obtain ⟨b, e1, rfl⟩ := DataW.trod_bool Tryz.underlying4 f1
      obtain ⟨ys, m2, _, rfl, _, hl2, hf2⟩ := DataW.trod_struct Tryz.underlying33 f2
      obtain ⟨zs, m3, _, rfl, _, hl3, hf3⟩ := DataW.trod_struct Tryz.underlying33 f3
      obtain ⟨g, e4, rfl, w4⟩ := DataW.trod_int Tryz.underlying3 f4
      obtain ⟨n, e5, rfl, w5⟩ := DataW.trod_int Tryz.underlying3 f5
      match ys, hl2 with
      | [y0, y1, y2], _ =>
        match zs, hl3 with
        | [z0, z1, z2], _ =>
          have g0 := hf2 0 _ rfl
          have g1 := hf2 1 _ rfl
          have g2 := hf2 2 _ rfl
          have h0 := hf3 0 _ rfl
          have h1 := hf3 1 _ rfl
          have h2 := hf3 2 _ rfl
          simp [cI] at g0 g1 g2 h0 h1 h2
          obtain ⟨m, d0, rfl, v0⟩ := DataW.trod_int Tryz.underlying3 g0
          obtain ⟨r, d1, rfl, v1⟩ := DataW.trod_int Tryz.underlying3 g1
          obtain ⟨x, d2, rfl, v2⟩ := DataW.trod_int Tryz.underlying3 g2
          obtain ⟨p, d3, rfl, v3⟩ := DataW.trod_int Tryz.underlying3 h0
          obtain ⟨q, d4, rfl, v4⟩ := DataW.trod_int Tryz.underlying3 h1
          obtain ⟨y, d5, rfl, v5⟩ := DataW.trod_int Tryz.underlying3 h2
          simp at e0 e1 e4 e5 d0 d1 d2 d3 d4 d5
          subst e0 e1 e4 e5 d0 d1 d2 d3 d4 d5
          simp only [Prod.mk.injEq] at hx
          exact ⟨o, b, m, r, x, p, q, y, g, n, rfl, by simpa [instD] using hx.1, by simpa using hx.2, w0, v0, v1, v2, v3, v4, v5, w4, w5⟩
theorem shut_inst {H : Type} {enc : TypeId × Value → H} (W : World) (base : Nat) (sp : Nat → Bool) (held : Bool) {o : Int} {b : Bool} {m r x p q y g n : Int}
    (hw : (Lit.int .i64 o).wf = true ∧ (Lit.int .i64 m).wf = true ∧ (Lit.int .i64 r).wf = true ∧ (Lit.int .i64 x).wf = true ∧ (Lit.int .i64 p).wf = true ∧ (Lit.int .i64 q).wf = true ∧ (Lit.int .i64 y).wf = true ∧ (Lit.int .i64 g).wf = true ∧ (Lit.int .i64 n).wf = true) :
    DataW.Trod enc Tryz.prog W base sp held 36 (.agg #[.int .i64 o, .bool b, .int .i64 m, .int .i64 r, .int .i64 x, .int .i64 p, .int .i64 q, .int .i64 y, .int .i64 g, .int .i64 n]) (instD o b m r x p q y g n) [] := by
  have cI : Tryz.prog.cellsOf 3 = 1 := by kernel_rfl
  have cB : Tryz.prog.cellsOf 4 = 1 := by kernel_rfl
  have cO : Tryz.prog.cellsOf 27 = 1 := by kernel_rfl
  have cP : Tryz.prog.cellsOf 33 = 3 := by kernel_rfl
  have cF : Tryz.prog.cellsOf 36 = 10 := by kernel_rfl
  obtain ⟨w0, v0, v1, v2, v3, v4, v5, w4, w5⟩ := hw
  refine ⟨3, ?_⟩
  simp [DataW.trod, Value.cells, Tryz.underlying36, Tryz.underlying33, Tryz.underlying27, Tryz.underlying3, Tryz.underlying4, cI, cB, cO, cP, cF, w0, v0, v1, v2, v3, v4, v5, w4, w5, List.range, List.range.loop, instD]

end Go.Proofs.YtdbbnkjnmldnpaaGreatDoor
