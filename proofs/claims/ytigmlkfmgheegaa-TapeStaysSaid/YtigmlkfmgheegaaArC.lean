/-
  Rows of requests: their cells, append. No condition.
-/
import Derived.Test.YtigmlkfmgheegaaArB
import Derived.Maps.AppendAt
import Derived.Laws.AppendOwnNone
namespace Go.Proofs.Ytigmlkfmgheegaa
open Go.RowKit
set_option linter.unusedSimpArgs false
set_option linter.unusedVariables false
set_option maxHeartbeats 4000000
set_option maxRecDepth 100000
attribute [local irreducible] wpQuiet

theorem infoQ : (Try.prog.info? 74).map (fun i => (i.zero, i.size, i.bytes)) = some (some (.agg #[.int .i64 0, .int .i64 0]), 2, 16) := by kernel_rfl
theorem infoQ_parts : ∃ i : TypeInfo, Try.prog.info? 74 = some i ∧ i.zero = some (.agg #[.int .i64 0, .int .i64 0]) ∧ i.size = 2 ∧ i.bytes = 16 := by
  have h := infoQ
  cases hi : Try.prog.info? 74 with
  | none => rw [hi] at h; cases h
  | some i =>
    rw [hi] at h
    simp only [Option.map_some, Option.some.injEq, Prod.mk.injEq] at h
    exact ⟨i, rfl, h.1, h.2.1, h.2.2⟩
theorem aggQ (w : World) : (isAgg 74).run Try.prog w = .ok true w := by kernel_rfl
theorem sizQ (w : World) : (sizeOf 74).run Try.prog w = .ok 2 w := by kernel_rfl
/-- The cells of requests. -/
def flat (l : List Rq) : List Value := l.flatMap fun q => [.int .i64 q.1, .int .i64 q.2]
theorem flat_length (l : List Rq) : (flat l).length = l.length * 2 := by
  induction l with
  | nil => rfl
  | cons q l ih => show ([_, _] ++ flat l).length = _; rw [List.length_append, ih]; simp; omega
theorem flat_append (a b : List Rq) : flat (a ++ b) = flat a ++ flat b := List.flatMap_append
theorem flat_cons (q : Rq) (l : List Rq) : flat (q :: l) = [.int .i64 q.1, .int .i64 q.2] ++ flat l := rfl
theorem flat_one (l : List Rq) : ∀ u ∈ flat l, u.oneCell' = true := by
  intro u hu
  obtain ⟨q, _, h⟩ := List.mem_flatMap.1 hu
  simp at h
  rcases h with rfl | rfl <;> rfl
theorem flat_drop {l : List Rq} (k : Nat) (hk : k ≤ l.length) {j : Nat} {u : Value} (h : (flat (l.drop k))[j]? = some u) : (flat l)[k * 2 + j]? = some u := by
  have e : flat l = flat (l.take k) ++ flat (l.drop k) := by rw [← flat_append, List.take_append_drop]
  have hl : (flat (l.take k)).length = k * 2 := by rw [flat_length, List.length_take, Nat.min_eq_left hk]
  rw [e, List.getElem?_append_right (by omega), hl]
  rw [show k * 2 + j - k * 2 = j from by omega]; exact h
theorem flat_take {l : List Rq} (k : Nat) {j : Nat} {u : Value} (h : (flat (l.take k))[j]? = some u) : (flat l)[j]? = some u := by
  have e : flat l = flat (l.take k) ++ flat (l.drop k) := by rw [← flat_append, List.take_append_drop]
  have hj : j < (flat (l.take k)).length := (List.getElem?_eq_some_iff.1 h).1
  rw [e, List.getElem?_append_left hj]; exact h
theorem flat_get {l : List Rq} {k : Nat} {q : Rq} (hq : l[k]? = some q) : ∀ j v, ([.int .i64 q.1, .int .i64 q.2] : List Value)[j]? = some v → (flat l)[k * 2 + j]? = some v := by
  have hk : k < l.length := (List.getElem?_eq_some_iff.1 hq).1
  intro j v hv
  refine flat_drop k (by omega) ?_
  rw [List.drop_eq_getElem_cons hk, (List.getElem?_eq_some_iff.1 hq).2, flat_cons]
  rw [List.getElem?_append_left (List.getElem?_eq_some_iff.1 hv).1]; exact hv
/-- A slice of requests that reads as l. -/
def Rqs (w : World) (v : Value) (l : List Rq) : Prop := Rw w v l.length (flat l)
theorem Rqs.load {w : World} {a : Addr} {n c k : Nat} {l : List Rq} {q : Rq} (h : Rqs w (.slice (some a) n c) l) (hn : n = l.length) (hq : l[k]? = some q) : (Instr.loadAt 74 (.pointer (some (a.add (k * 2))))).run Try.prog w = .ok (.agg #[.int .i64 q.1, .int .i64 q.2]) w := by
  subst hn
  exact Rw.loadAt (k := k) (s := 2) h (flat_get hq) rfl aggQ sizQ
theorem addr_at (g i j : Nat) : (⟨g, i, none⟩ : Addr).add j = (⟨g, 0, none⟩ : Addr).add (i + j) := by unfold Addr.add; split <;> split <;> simp_all
theorem Rqs.cells {w : World} {a : Addr} {n c : Nat} {l : List Rq} (h : Rqs w (.slice (some a) n c) l) : ∀ j u, (flat l)[j]? = some u → w.cell? (a.add j) = some u := by
  obtain ⟨A, c', hv, _, hc⟩ := h
  cases hv
  intro j u hu
  obtain ⟨a', ha, h1, _⟩ := hc j u hu
  cases ha; exact h1
theorem wpList_appQ {w : World} {ops : Array Oper} {rest : List Oper} {o : Oper} {a : Act} {Q : Exit → Act → World → Prop} (hgd : o.guard = none) (s x : Operand)
    (ho : o.op = .call { callee := .builtin .append, args := #[s, x], argTypes := #[37, 37] }) (N : Nat) (v : Value) (n : Nat) (xs : List Value) (hs : a.eval s = v) (hown : w.ownsRow N 74 2 v n xs)
    (ad : Addr) (m c : Nat) (news : List Value) (hx : a.eval x = .slice (some ad) m c) (hl : news.length = m * 2) (hnews : ∀ j u, news[j]? = some u → w.cell? (ad.add j) = some u) (h1 : ∀ u ∈ news, u.oneCell' = true)
    (hb : n + m ≤ 2199023255554) (hN : N ≤ w.heap.size)
    (h : ∀ v' w', w'.ownsRow N 74 2 v' (n + m) (xs ++ news) → Below N w w' → (v' = .slice none 0 0 ↔ v = .slice none 0 0 ∧ m = 0) → wpList Try.prog ops Q rest (a.put o.dst v') w') : wpList Try.prog ops Q (o :: rest) a w := by
  obtain ⟨i, hi, hz, hsz, hby⟩ := infoQ_parts
  refine wpList_append_own _ hgd s x 37 ho N 74 i (.agg #[.int .i64 0, .int .i64 0]) 2 16 Try.underlying37 hi hz hsz hby rfl (by decide) v n xs hs hown ad m c news hx hl hnews h1 (by unfold maxLen; omega) (by omega) hN ?_
  intro v' w' ho' hg hnil
  exact h v' w' ho' ((Below.refl N w).grown hg hN (fun j hj => (World.ownsRow.lt hown j hj).1)) hnil
theorem cells_two_new (w : World) (x y : Value) (t : TypeId) : ∀ j u, [x, y][j]? = some u → (w.alloc (.cells #[x, y] t)).cell? ((⟨w.heap.size, 0, none⟩ : Addr).add j) = some u := by
  intro j u h
  have e1 : (⟨w.heap.size, 0, none⟩ : Addr).add j = ⟨w.heap.size, j, none⟩ := by unfold Addr.add; split <;> simp_all
  rw [e1]
  exact (Blk.new t w [x, y]).cell h
theorem Rqs.below {w w' : World} {v : Value} {l : List Rq} (h : Rqs w v l) (hb : Below w.heap.size w w') : Rqs w' v l := Rw.below h hb
theorem blk_rqs {w : World} {B n : Nat} {l : List Rq} (h : Blk 74 w B (flat l)) (hn : l.length = n) : Rqs w (.slice (some ⟨B, 0, none⟩) n n) l := by
  subst hn
  refine ⟨_, _, rfl, Nat.le_refl _, fun j u hu => ⟨_, rfl, ?_, ?_⟩⟩
  · have e1 : (⟨B, 0, none⟩ : Addr).add j = ⟨B, j, none⟩ := (addr_at B j 0).symm.trans (by unfold Addr.add; rfl)
    rw [e1]; exact h.cell hu
  · have : ((⟨B, 0, none⟩ : Addr).add j).block = B := by unfold Addr.add; split <;> rfl
    rw [this]; exact h.lt
theorem rqs_two (w : World) (o : Obj) (l : List Rq) (n : Nat) (hn : l.length = n) : Rqs ((w.alloc o).alloc (.cells (flat l).toArray 74)) (.slice (some ⟨w.heap.size + 1, 0, none⟩) n n) l := by
  have h : Blk 74 ((w.alloc o).alloc (.cells (flat l).toArray 74)) (w.alloc o).heap.size (flat l) := Blk.new _ _ _
  rw [show (w.alloc o).heap.size = w.heap.size + 1 from Array.size_push ..] at h
  exact blk_rqs h hn
theorem rqs_new (w : World) (l : List Rq) (n : Nat) (hn : l.length = n) : Rqs (w.alloc (.cells (flat l).toArray 74)) (.slice (some ⟨w.heap.size, 0, none⟩) n n) l := blk_rqs (Blk.new _ _ _) hn
end Go.Proofs.Ytigmlkfmgheegaa
