/-
  Walks over Bytes of package memory and of its reference. Condition: lists have at most 2^40 elements.
-/
import Derived.Test.YtjjmgmnhcccjgaaMeK
import Derived.Laws.DeepStrings4
import Derived.Lib.Strings
import Derived.Lib.IndexBytes
import Derived.Lib.UnsafeStr
import Derived.Laws.IdiomStrings
namespace Go.Proofs.Ytjjmgmnhcccjgaa
open Go.RowKit
set_option linter.unusedSimpArgs false
set_option linter.unusedVariables false
set_option maxHeartbeats 1000000
attribute [local irreducible] wpQuiet

theorem info8 : (Try.prog.info? 5).map (fun i => (i.zero, i.size, i.bytes)) = some (some (.int .u8 0), 1, 1) := by kernel_rfl
theorem inR_rng {n a k : Int} (h : inR n a k = true) : 0 ≤ a ∧ 0 ≤ k ∧ k ≤ n - a := by unfold inR at h; simpa using h
theorem bytesE_no {n a k : Int} (h : inR n a k = false) : bytesE n a k = 2 := if_neg (by rw [h]; decide)
theorem bytesE_ok {n a k : Int} (h : inR n a k = true) : bytesE n a k = 0 := if_pos h
theorem bytesS_no {l : List Int} {a k : Int} (h : inR (2 * (l.length : Int)) a k = false) : bytesS l a k = [] := if_neg (by rw [h]; decide)
theorem bytesS_ok {l : List Int} {a k : Int} (h : inR (2 * (l.length : Int)) a k = true) : bytesS l a k = bytesN l a.toNat k.toNat := if_pos h
/-- Byte j, as a cell. -/
def b8 (l : List Int) (a j : Nat) : Value := .int .u8 (byteN l (a + j))
theorem bytesN_at (l : List Int) (k a j : Nat) (h : j < (bytesN l a k).length) : ((bytesN l a k)[j]'h).toNat = (byteN l (a + j)).toNat := by
  have hj : j < k := by rw [bytesN_length] at h; exact h
  have e := bytesN_get l k a j hj
  rw [List.getElem?_eq_getElem h] at e
  rw [Option.some.inj e]
  have := byteN_bd l (a + j)
  simp; omega
theorem b8_row {A N a : Nat} {l : List Int} {w : World} {f : Nat → Value} (h : w.rowIs A 5 N f) (hf : ∀ j, j < N → f j = b8 l a j) :
    (convert 63 9 (.slice (some ⟨A, 0, none⟩) N N)).run Try.prog w = .ok (.string ⟨(bytesN l a N).toArray⟩) w := by
  have hl := bytesN_length l N a
  have e := run_convert_bytes_back (P := Try.prog) w 63 9 5 ⟨A, 0, none⟩ N (bytesN l a N) Try.underlying63 Try.underlying5 Try.underlying9 (fun j hj => by
    have e1 : (⟨A, 0, none⟩ : Addr).add j = ⟨A, j, none⟩ := by unfold Addr.add; split <;> simp_all
    have := byteN_bd l (a + j)
    have e2 : (((byteN l (a + j)).toNat : Nat) : Int) = byteN l (a + j) := by omega
    rw [e1, h.cell (by omega), hf j (by omega), b8, bytesN_at, e2])
  rw [hl] at e
  exact e
theorem b8_step {A N a k : Nat} {l : List Int} {w : World} (h : w.rowIs A 5 N (fun j => if j < k then b8 l a j else .int .u8 0)) (v : Value) (hv : v = b8 l a k) :
    (w.setCell ⟨A, k, none⟩ v).rowIs A 5 N (fun j => if j < k + 1 then b8 l a j else .int .u8 0) := by
  refine (h.set k v).congr fun j _ => ?_
  by_cases hjk : j = k
  · simp [hjk, hv]
  · simp only [if_neg hjk, show (j < k + 1) = (j < k) by apply propext; omega]

set_option maxHeartbeats 4000000 in
theorem bytes_any (vm : Value) (mem : List Int) (hl : mem.length ≤ 1099511627776) (a n : Int) (ha : a ≤ 9223372036854775807) (w : World) (hm : Nums .i64 w vm mem) :
    Calls Try.prog 22 #[vm, .int .i64 a, .int .i64 n] w fun e w' => e = .returned (.tuple #[.string ⟨(bytesS mem a n).toArray⟩, .int .i64 (bytesE (2 * (mem.length : Int)) a n)]) ∧ Below w.heap.size w w' := by
  have hby := fun k hk w' (hB : Below w.heap.size w w') => byteat_any vm mem hl k hk w' (hm.below hB)
  obtain ⟨A, c, rfl, _, hc⟩ := hm
  have hra := fun w => range_any A mem.length c hl a n ha w
  clear hc
  cases hq : inR (2 * (mem.length : Int)) a n
  · rw [bytesE_no hq, bytesS_no hq]
    rw [hq] at hra
    clear hq hby
    go_enter Try.func22, Try.ntmps22
    go_wp2_with (first | (go_at_call 46; with_reducible refine (hra _).mono ?_; rintro e w' ⟨rfl, rfl⟩))
    go_ret2
    exact ⟨rfl, Below.refl _ _⟩
  · obtain ⟨h0, h1, h2⟩ := inR_rng hq
    rw [bytesE_ok hq, bytesS_ok hq]
    rw [hq] at hra
    clear hq
    obtain ⟨p, rfl⟩ := Int.eq_ofNat_of_zero_le h0
    obtain ⟨N, rfl⟩ := Int.eq_ofNat_of_zero_le h1
    rw [Int.toNat_natCast, Int.toNat_natCast]
    have hmk : ∀ w : World, (Instr.makeSlice 63 (.int .i64 N) (.int .i64 N)).run Try.prog w = .ok (.slice (some ⟨w.heap.size, 0, none⟩) N N) (w.alloc (.cells (madeCells #[.int .u8 0] N) 5)) :=
      fun w => run_make_row' (P := Try.prog) 63 5 (.int .u8 0) 1 Try.underlying63 info8 rfl .i64 .i64 N (by omega) (by omega) w
    go_enter Try.func22, Try.ntmps22
    go_wp2_with (first | (go_at_call 46; with_reducible refine (hra _).mono ?_; rintro e w' ⟨rfl, rfl⟩))
    go_loopw [19] (fun i wr => ∃ k : Nat, k ≤ N ∧ i = .int .i64 k ∧ wr.rowIs w.heap.size 5 N (fun j => if j < k then b8 mem p j else .int .u8 0) ∧ Below w.heap.size w wr)
      (fun i _ => match i with | .int _ q => N - q.toNat | _ => 0)
    case atStart => exact ⟨0, Nat.zero_le _, rfl, (World.rowIs_made _ _ _ _).congr (fun j _ => by simp), (Below.refl _ _).alloc (Nat.le_refl _) _⟩
    case round =>
      obtain ⟨k, hk, rfl, hrow, hB⟩ := hrel
      by_cases hkl : k < N
      · have hbt : b8 mem p k = .int .u8 (byteN mem (p + k)) := rfl
        have hbb := byteN_bd mem (p + k)
        have hby := fun w' hB => hby (p + k) (by omega) w' hB
        have hpk : (p : Int) + (k : Int) = ((p + k : Nat) : Int) := by omega
        rw [← hpk] at hby
        generalize byteN mem (p + k) = y at *
        replace hpk := hid hpk
        have hw8 : IntKind.u8.wrap y = y := by rw [IntKind.wrap_u8]; omega
        replace hbt := hid hbt
        go_wp2_with (first | (go_at_call 35; with_reducible refine (hby _ hB).mono ?_; rintro e w' ⟨rfl, hb⟩; have hrow := World.rowIs.of_block hrow (Below.block hb _ (World.rowIs.lt hrow)); have hB := Below.trans hB (Below.mono hb hB.size); have hcell := World.rowIs.cell hrow hkl; have hfr := World.rowIs.frozen hrow k))
        refine ⟨⟨k + 1, by omega, by go_num, b8_step hrow _ (by rw [show b8 mem p k = _ from hbt]), hB.setCell (Nat.le_refl _) _⟩, ?_⟩
        simp only; omega
      · have hkk : k = N := by omega
        have hcv := b8_row (l := mem) (a := p) hrow (fun j hj => if_pos (by omega))
        clear hby
        go_wp2
        go_ret2
        exact ⟨rfl, hB⟩
theorem bytesN_snoc (l : List Int) : ∀ (k a : Nat), bytesN l a (k + 1) = bytesN l a k ++ [UInt8.ofNat (byteN l (a + k)).toNat]
  | 0, a => by simp [bytesN]
  | k + 1, a => by
    rw [bytesN, bytesN_snoc l k (a + 1), bytesN, List.cons_append, show a + 1 + k = a + (k + 1) by omega]
theorem own_conv {base : Nat} {v : Value} {out : List UInt8} {w : World} (h : w.ownsRow base 5 1 v out.length (Lib.byteCells out)) : (convert 63 9 v).run Try.prog w = .ok (.string ⟨out.toArray⟩) w := by
  rcases h.2 with ⟨rfl, h0⟩ | ⟨g, cap, cur, rfl, _⟩
  · have : out = [] := List.eq_nil_of_length_eq_zero h0
    subst this
    rw [run_convert_bytes_string w 63 9 5 none 0 0 Try.underlying63 Try.underlying5 Try.underlying9]
    rfl
  · refine run_convert_bytes_back (P := Try.prog) w 63 9 5 ⟨g, 0, none⟩ cap out Try.underlying63 Try.underlying5 Try.underlying9 (fun j hj => ?_)
    refine h.cells (g := g) rfl j _ ?_
    simp [Lib.byteCells, hj]
theorem bytes_step {B a k : Nat} {l : List Int} {w : World} {v : Value} (h : w.ownsRow B 5 1 v ((bytesN l a k).length + 1) (Lib.byteCells (bytesN l a k) ++ [.int .u8 (byteN l (a + k))])) : w.ownsRow B 5 1 v (bytesN l a (k + 1)).length (Lib.byteCells (bytesN l a (k + 1))) := by
  have e : (((UInt8.ofNat (byteN l (a + k)).toNat).toNat : Nat) : Int) = byteN l (a + k) := by
    have := byteN_bd l (a + k)
    simp; omega
  rw [bytesN_snoc, List.length_append]
  simp only [Lib.byteCells, List.map_append, List.map_cons, List.map_nil, e]
  exact h
set_option maxHeartbeats 4000000 in
theorem rbytes_any (vm : Value) (mem : List Int) (hl : mem.length ≤ 1099511627776) (a n : Int) (ha : a ≤ 9223372036854775807) (w : World) (hm : Nums .i64 w vm mem) :
    Calls Try.prog 23 #[vm, .int .i64 a, .int .i64 n] w fun e w' => e = .returned (.tuple #[.string ⟨(bytesS mem a n).toArray⟩, .int .i64 (bytesE (2 * (mem.length : Int)) a n)]) ∧ Below w.heap.size w w' := by
  have hby := fun k hk w' (hB : Below w.heap.size w w') => rbyte_any vm mem hl k hk w' (hm.below hB)
  obtain ⟨A, c, rfl, _, hc⟩ := hm
  have hra := fun w => rwithin_any A mem.length c hl a n ha w
  clear hc
  cases hq : inR (2 * (mem.length : Int)) a n
  · rw [bytesE_no hq, bytesS_no hq]
    rw [hq] at hra
    clear hq hby
    go_enter Try.func23, Try.ntmps23
    go_wp2_with (first | (go_at_call 47; with_reducible refine (hra _).mono ?_; rintro e w' ⟨rfl, rfl⟩))
    go_ret2
    exact ⟨rfl, Below.refl _ _⟩
  · obtain ⟨h0, h1, h2⟩ := inR_rng hq
    rw [bytesE_ok hq, bytesS_ok hq]
    rw [hq] at hra
    clear hq
    obtain ⟨p, rfl⟩ := Int.eq_ofNat_of_zero_le h0
    obtain ⟨N, rfl⟩ := Int.eq_ofNat_of_zero_le h1
    rw [Int.toNat_natCast, Int.toNat_natCast]
    obtain ⟨i0, hti, hz0, hz1, hz2⟩ := info_parts info8
    go_enter Try.func23, Try.ntmps23
    go_wp2_with (first | (go_at_call 47; with_reducible refine (hra _).mono ?_; rintro e w' ⟨rfl, rfl⟩))
    go_loopw [8, 9] (fun v i wr => ∃ k : Nat, k ≤ N ∧ i = .int .i64 k ∧ wr.ownsRow w.heap.size 5 1 v (bytesN mem p k).length (Lib.byteCells (bytesN mem p k)) ∧ Below w.heap.size w wr)
      (fun _ i _ => match i with | .int _ q => N - q.toNat | _ => 0)
    case atStart => exact ⟨0, Nat.zero_le _, rfl, World.ownsRow_nil _ _ _ _, Below.refl _ _⟩
    case round =>
      obtain ⟨k, hk, rfl, hown, hB⟩ := hrel
      by_cases hkl : k < N
      · have hbb := byteN_bd mem (p + k)
        have hby := fun w' hB => hby (p + k) (by omega) w' hB
        have hpk : (p : Int) + (k : Int) = ((p + k : Nat) : Int) := by omega
        rw [← hpk] at hby
        have hst := fun w v => @bytes_step w.heap.size p k mem w v
        have hst2 := fun w1 v => @bytes_step w.heap.size p k mem w1 v
        clear hst
        have hlen := bytesN_length mem k p
        have hcl : (Lib.byteCells (bytesN mem p k)).length = k := by simp [Lib.byteCells, hlen]
        generalize byteN mem (p + k) = y at *
        replace hpk := hid hpk
        replace hst2 := hid hst2
        have hw8 : IntKind.u8.wrap y = y := by rw [IntKind.wrap_u8]; omega
        go_wp2_with (first
          | (go_at_call 38; with_reducible refine (hby _ hB).mono ?_; rintro e w' ⟨rfl, hb⟩; have hown := own_step hown hb; have hB := Below.trans hB (Below.mono hb hB.size))
          | (at_builtin; refine wpList_append_own _ rfl (.tmp 20) (.tmp 27) 63 rfl w.heap.size 5 i0 (.int .u8 0) 1 1 Try.underlying63 hti hz0 hz1 hz2 rfl (by decide) _ _ _ rfl (World.ownsRow.alloc hown _) ⟨w'.heap.size, 0, none⟩ 1 1 [.int .u8 y] rfl rfl (cell_one_new _ _ _) (fun x hx => by simp at hx; subst hx; rfl) (by unfold maxLen; omega) (by omega) (by have := hB.size; simp; omega) ?_; intro v' w1 hown' hgrow _))
        refine ⟨⟨k + 1, by omega, by go_num, hst2 _ _ hown', (hB.alloc hB.size _).grown hgrow (by have := hB.size; simp; omega) (fun j hj => (World.ownsRow.lt hown j hj).1)⟩, ?_⟩
        simp only; omega
      · obtain rfl : k = N := by omega
        have hcv := own_conv hown
        clear hby
        go_wp2
        go_ret2
        exact ⟨rfl, hB⟩
end Go.Proofs.Ytjjmgmnhcccjgaa
