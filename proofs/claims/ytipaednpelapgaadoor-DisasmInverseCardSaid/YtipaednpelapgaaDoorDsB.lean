/-
  The tables that the calls of package disasm and of its reference read; what the walks ask of them.
-/
import Derived.Test.YtipaednpelapgaaDoorDsA
import Derived.Test.YtipaednpelapgaaDoorInB
namespace Go.Proofs.YtipaednpelapgaaDoor
open Go.RowKit
set_option linter.unusedSimpArgs false
set_option linter.unusedVariables false
set_option maxRecDepth 100000

/-- Texts that lie one behind the other from a place on. -/
def Txs (a : Addr) (l : List (List UInt8)) (w : World) : Prop := ∀ (k : Nat) (s : List UInt8), l[k]? = some s → w.cell? (a.add k) = some (.string ⟨s.toArray⟩)
theorem Txs.step {a : Addr} {l : List (List UInt8)} {w w' : World} (h : Txs a l w) (hl : a.block < w.heap.size) (hb : Below w.heap.size w w') : Txs a l w' :=
  fun k s hs => (hb.cell (p := a.add k) (by rw [add_block]; exact hl)).trans (h k s hs)

/-- The tables of the program. -/
structure Dis (A : Addr) (c : Nat) (w : World) : Prop where
  frm : Frm A c w
  tb : Tb7 w
  rg : Txs ⟨6, 0, none⟩ rgs w
  rl : 6 < w.heap.size
  mn : Txs ⟨3, 0, none⟩ mns w
  ml : 3 < w.heap.size
  av : ∀ (k : Nat) (e : List UInt8 × Int × Int), abv[k]? = some e → w.cell? ⟨5, 3 * k, none⟩ = some (.string ⟨e.1.toArray⟩) ∧ w.cell? ⟨5, 3 * k + 1, none⟩ = some (.int .i64 e.2.1) ∧ w.cell? ⟨5, 3 * k + 2, none⟩ = some (.int .i64 e.2.2)
  al : 5 < w.heap.size
theorem Dis.step {A : Addr} {c : Nat} {w w' : World} (h : Dis A c w) (hb : Below w.heap.size w w') : Dis A c w' := {
  frm := h.frm.step hb
  tb := h.tb.below hb
  rg := h.rg.step h.rl hb
  rl := Nat.lt_of_lt_of_le h.rl hb.size
  mn := h.mn.step h.ml hb
  ml := Nat.lt_of_lt_of_le h.ml hb.size
  av := fun k e he => ⟨(hb.cell (p := ⟨5, 3 * k, none⟩) h.al).trans (h.av k e he).1, (hb.cell (p := ⟨5, 3 * k + 1, none⟩) h.al).trans (h.av k e he).2.1, (hb.cell (p := ⟨5, 3 * k + 2, none⟩) h.al).trans (h.av k e he).2.2⟩
  al := Nat.lt_of_lt_of_le h.al hb.size }

/-- A table of texts of the reference, as a slice in a variable. -/
structure Tab (g : Nat) (l : List (List UInt8)) (w : World) : Prop where
  sl : ∃ a c, w.cell? ⟨g, 0, none⟩ = some (.slice (some a) l.length c) ∧ Txs a l w ∧ a.block < w.heap.size
  lt : g < w.heap.size
theorem Tab.step {g : Nat} {l : List (List UInt8)} {w w' : World} (h : Tab g l w) (hb : Below w.heap.size w w') : Tab g l w' := {
  sl := by
    obtain ⟨a, c, h1, h2, h3⟩ := h.sl
    exact ⟨a, c, (hb.cell (p := ⟨g, 0, none⟩) h.lt).trans h1, h2.step h3 hb, Nat.lt_of_lt_of_le h3 hb.size⟩
  lt := Nat.lt_of_lt_of_le h.lt hb.size }

theorem St.dis {A : Addr} {c : Nat} {bs : List (Nat × List Value)} {w0 w : World} (h : St A c bs w0 w) (D : Dis A c w0) : Dis A c w := D.step h.below
theorem add_at (g k : Nat) : (⟨g, 0, none⟩ : Addr).add k = ⟨g, k, none⟩ := by
  unfold Addr.add
  split <;> simp_all
theorem rg_at {w : World} (h : Txs ⟨6, 0, none⟩ rgs w) (k : Nat) (hk : k < 8) : w.cell? ⟨6, k, none⟩ = some (.string ⟨(rgT (k : Int)).toArray⟩) := by
  have hl : k < rgs.length := hk
  have e := h k _ (List.getElem?_eq_getElem hl)
  have e2 : rgT (k : Int) = rgs[k] := by unfold rgT; simp [hl]
  rw [e2, ← e, add_at]
theorem mn_at {w : World} (h : Txs ⟨3, 0, none⟩ mns w) (k : Nat) (hk : k < 57) : w.cell? ⟨3, k, none⟩ = some (.string ⟨(mnT (k : Int)).toArray⟩) := by
  have hl : k < mns.length := hk
  have e := h k _ (List.getElem?_eq_getElem hl)
  have e2 : mnT (k : Int) = mns[k] := by unfold mnT; simp [hl]
  rw [e2, ← e, add_at]

theorem digs_7 (U : Nat) (h : U < 65536) : 1 ≤ (digs 8 U).length ∧ (digs 8 U).length ≤ 6 := ⟨digs_pos 8 U, digs_6 U h⟩
theorem nuT_len (n : Int) : (nuT n).length ≤ 8 := by
  have h := digs_6 (n % 65536).toNat (by omega)
  unfold nuT
  split
  · omega
  · simp only [List.length_cons]; omega
theorem rgs_len : ∀ l ∈ rgs, l.length ≤ 2 := by decide
theorem rgT_len (r : Int) : (rgT r).length ≤ 2 := by
  unfold rgT
  rcases Nat.lt_or_ge r.toNat rgs.length with h | h
  · simp only [List.getD_eq_getElem?_getD, List.getElem?_eq_getElem h, Option.getD_some]
    exact rgs_len _ (List.getElem_mem h)
  · simp [List.getElem?_eq_none h]
theorem diT_len (m r x nx : Int) : (diT m r x nx).length ≤ 12 := by
  have h1 := rgT_len r
  have h2 := nuT_len x
  have h3 := nuT_len (x + nx)
  unfold diT
  repeat' split
  all_goals (try simp only [List.length_cons, List.length_append, List.length_nil])
  all_goals omega
theorem opT_len (m r x nx : Int) : (opT m r x nx).length ≤ 13 := by
  have h := diT_len m r x nx
  unfold opT
  repeat' split
  all_goals (try simp only [List.length_cons, List.length_nil])
  all_goals omega
theorem tgT_len (a n : Int) : (tgT a n).length ≤ 8 := nuT_len _
theorem mns_len : ∀ l ∈ mns, l.length ≤ 5 := by decide
theorem mnT_len (r : Int) : (mnT r).length ≤ 5 := by
  unfold mnT
  rcases Nat.lt_or_ge r.toNat mns.length with h | h
  · simp only [List.getD_eq_getElem?_getD, List.getElem?_eq_getElem h, Option.getD_some]
    exact mns_len _ (List.getElem_mem h)
  · simp [List.getElem?_eq_none h]
theorem nmT_len (o : Int) (b : Bool) : (nmT o b).length ≤ 6 := by
  have h := mnT_len o
  unfold nmT
  repeat' split
  all_goals (try simp only [List.length_append, List.length_cons, List.length_nil])
  all_goals omega
theorem tx_app (a b : List UInt8) : ((⟨a.toArray⟩ : ByteArray) ++ ⟨b.toArray⟩) = ⟨(a ++ b).toArray⟩ := by rw [ba_app]; simp
theorem tx_eq {a b : List UInt8} : ((⟨a.toArray⟩ : ByteArray) = ⟨b.toArray⟩) ↔ a = b := ⟨fun h => by have h := congrArg ByteArray.data h; simpa using h, fun h => by rw [h]⟩
theorem tx_size (a : List UInt8) : ByteArray.size ⟨a.toArray⟩ = a.length := by simp [ByteArray.size]

end Go.Proofs.YtipaednpelapgaaDoor
