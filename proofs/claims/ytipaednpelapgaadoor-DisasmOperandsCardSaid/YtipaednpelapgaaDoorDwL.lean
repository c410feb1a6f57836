/-
  The map of mnemonics as a list of entries: made, filled, asked. No condition but that it is small.
-/
import Derived.Test.YtipaednpelapgaaDoorDwE
import Derived.Maps.OwnSet
import Derived.WalkKit
namespace Go.Proofs.YtipaednpelapgaaDoor
open Go.RowKit
set_option linter.unusedSimpArgs false
set_option linter.unusedVariables false
set_option maxHeartbeats 8000000
set_option maxRecDepth 100000
open Go.Maps (Keyed string_keyed)

def dm (o : Int) (b : Bool) : DataW Unit := .agg [.lit (.int .i64 o), .lit (.bool b)]
/-- How an entry's value reads. -/
def mR (v : Value) : Option (DataW Unit × List MemPlace) :=
  match v with
  | .agg cs => (match cs.toList with
    | [.int .i64 o, .bool b] => some (dm o b, [])
    | _ => none)
  | _ => none
theorem mR_mk (o : Int) (b : Bool) : mR (.agg #[.int .i64 o, .bool b]) = some (dm o b, []) := rfl
theorem mR_inv {v : Value} {o : Int} {b : Bool} {ps : List MemPlace} (h : mR v = some (dm o b, ps)) : v = .agg #[.int .i64 o, .bool b] := by
  unfold mR at h
  split at h
  · next cs =>
    split at h
    · next o' b' he =>
      simp only [Option.some.injEq, Prod.mk.injEq, dm, DataW.agg.injEq, List.cons.injEq, DataW.lit.injEq, Lit.int.injEq, Lit.bool.injEq, and_true, true_and] at h
      obtain ⟨⟨rfl, rfl⟩, _⟩ := h
      congr 1
      exact Array.ext' he
    · cases h
  · cases h

theorem mlaw : Keyed Tryd.prog 9 := string_keyed Tryd.underlying9
/-- Block B is a map of at most n entries that answers as the list does. -/
def MapIs (B n : Nat) (L : List (List UInt8 × Int × Bool)) (w : World) : Prop :=
  ∃ D : DataW Unit, w.ownsMap Tryd.prog 9 mR B n D ∧ Maps.IsMap D ∧ ∀ s : List UInt8, Maps.has D (.string s) = (fnd L s).isSome ∧ D.atKey (.string s) (dm 0 false) = dm ((fnd L s).getD (0, false)).1 ((fnd L s).getD (0, false)).2

theorem MapIs.made (w : World) : MapIs w.heap.size 0 [] (w.alloc (.map #[] 0)) :=
  ⟨_, World.ownsMap_made w _ _ _, ⟨[], rfl⟩, fun s => ⟨rfl, rfl⟩⟩
theorem MapIs.below {B n : Nat} {L : List (List UInt8 × Int × Bool)} {w w' : World} (h : MapIs B n L w) (hb : Below w.heap.size w w') : MapIs B n L w' := by
  obtain ⟨D, h1, h2⟩ := h
  exact ⟨D, h1.kept (row := none) ⟨hb.os, hb.tape, hb.output, hb.size, fun k hk _ => hb.block k hk⟩ (by simp), h2⟩
theorem MapIs.lt {B n : Nat} {L : List (List UInt8 × Int × Bool)} {w : World} (h : MapIs B n L w) : B < w.heap.size := by
  obtain ⟨D, h1, _⟩ := h
  exact h1.lt
theorem MapIs.mono {B n n' : Nat} {L : List (List UInt8 × Int × Bool)} {w : World} (h : MapIs B n L w) (hn : n ≤ n') : MapIs B n' L w := by
  obtain ⟨D, h1, h2⟩ := h
  exact ⟨D, h1.mono hn, h2⟩
theorem fnd_snoc (L : List (List UInt8 × Int × Bool)) (e : List UInt8 × Int × Bool) (s : List UInt8) : fnd (L ++ [e]) s = if e.1 = s then some e.2 else fnd L s := by
  unfold fnd
  rw [List.reverse_append]
  simp only [List.reverse_cons, List.reverse_nil, List.nil_append, List.singleton_append, List.find?_cons]
  by_cases h : e.1 = s
  · simp [h]
  · simp [h]
theorem key_lit (s : List UInt8) : WideAt.IsKeyLit (.string s) := trivial

theorem wpList_put {w : World} {ops : Array Oper} {rest : List Oper} {o : Oper} {a : Act} {Q : Exit → Act → World → Prop} (hg : o.guard = none) (m x v : Operand) (hop : o.op = Op.mapUpdate 47 m x v)
    (B n : Nat) (L : List (List UInt8 × Int × Bool)) (hm : a.eval m = .map (some B)) (h : MapIs B n L w) (hn : n < maxLen) (key : List UInt8) (hk : key.length ≤ maxLen) (hx : a.eval x = .string ⟨key.toArray⟩) (op : Int) (b : Bool) (hv : a.eval v = .agg #[.int .i64 op, .bool b])
    (hK : ∀ w', MapIs B (n + 1) (L ++ [(key, op, b)]) w' → w.grownBy w' (some B) → wpList Tryd.prog ops Q rest (a.put o.dst undef) w') : wpList Tryd.prog ops Q (o :: rest) a w := by
  obtain ⟨D, h1, h2, h3⟩ := h
  have hkey : keyOf Tryd.prog 9 (.string ⟨key.toArray⟩) = some (.string key) := by
    have k := WideMaps.keyOf_string_mk (P := Tryd.prog) (k := 9) Tryd.underlying9 (s := ⟨key.toArray⟩) (by rw [tx_size]; exact hk)
    simpa using k
  refine wpList_mapUpdate_own w hg m x v 47 hop 9 45 mlaw Tryd.underlying47 mR B n D hm h1 hn _ _ _ hx hv hkey (dm op b) [] (mR_mk op b) (fun w' h4 h5 => hK w' ⟨_, h4, h2.put _ _, fun s => ?_⟩ h5)
  rw [fnd_snoc]
  by_cases hs : key = s
  · subst hs
    rw [if_pos rfl]
    exact ⟨Maps.has_put_same h2 (key_lit _) _, Maps.atKey_put_same h2 (key_lit _) _ _⟩
  · rw [if_neg hs]
    have hne : (Lit.string s) ≠ Lit.string key := fun h => hs (by injection h with h; exact h.symm)
    rw [Maps.has_put_other hne, Maps.atKey_put_other hne]
    exact h3 s

theorem wpList_get {w : World} {ops : Array Oper} {rest : List Oper} {o : Oper} {a : Act} {Q : Exit → Act → World → Prop} (hg : o.guard = none) (m x : Operand) (hop : o.op = Op.lookup 47 m x true)
    (B n : Nat) (L : List (List UInt8 × Int × Bool)) (hm : a.eval m = .map (some B)) (h : MapIs B n L w) (s : ByteArray) (hk : s.size ≤ maxLen) (hx : a.eval x = .string s)
    (hK : wpList Tryd.prog ops Q rest (a.put o.dst (.tuple #[.agg #[.int .i64 ((fnd L s.data.toList).getD (0, false)).1, .bool ((fnd L s.data.toList).getD (0, false)).2], .bool (fnd L s.data.toList).isSome])) w) : wpList Tryd.prog ops Q (o :: rest) a w := by
  obtain ⟨D, h1, h2, h3⟩ := h
  have hkey : keyOf Tryd.prog 9 (.string s) = some (.string s.data.toList) := WideMaps.keyOf_string_mk (P := Tryd.prog) (k := 9) Tryd.underlying9 hk
  have hz : (zeroValue 45).run Tryd.prog w = .ok (.agg #[.int .i64 0, .bool false]) w := by kernel_rfl
  refine wpList_lookup_own_ok w hg m x 47 hop 9 45 mlaw Tryd.underlying47 mR hz (dm 0 false) [] (mR_mk 0 false) B n D hm h1 _ _ hx hkey (fun v ps hv => ?_)
  rw [(h3 _).2] at hv
  rw [mR_inv hv, (h3 _).1]
  exact hK

end Go.Proofs.YtipaednpelapgaaDoor
