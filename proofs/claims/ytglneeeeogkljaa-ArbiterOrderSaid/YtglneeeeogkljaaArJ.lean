/-
  A row of requests as the sort's row: held, sorted, read back. No condition.
-/
import Derived.Test.YtglneeeeogkljaaArI
import Derived.Shelf.SlSortCmp.InsertionK
namespace Go.Proofs.Ytglneeeeogkljaa
open Go.RowKit
set_option linter.unusedSimpArgs false
set_option linter.unusedVariables false

/-- The cells of a request. -/
def encQ (q : Rq) : List Value := [.int .i64 q.1, .int .i64 q.2]
theorem encQ_length (q : Rq) : (encQ q).length = 2 := rfl
theorem encQ_one (q : Rq) : ∀ v ∈ encQ q, v.oneCell' = true := by
  intro v hv
  simp [encQ] at hv
  rcases hv with rfl | rfl <;> rfl
theorem flat_getE {l : List Rq} {t : Nat} (h : t < l.length * 2) : (flat l)[t]? = some ((encQ l.toArray[t / 2]!)[t % 2]!) := by
  have hi : t / 2 < l.length := by omega
  have hq := List.getElem?_eq_getElem hi
  have e : l.toArray[t / 2]! = l[t / 2] := by
    rw [getElem!_pos l.toArray (t / 2) (by simpa using hi)]
    simp
  rw [e]
  rcases (by omega : t % 2 = 0 ∨ t % 2 = 1) with m | m
  · have g := flat_get hq 0 _ rfl
    rw [m]
    rw [show t / 2 * 2 + 0 = t from by omega] at g
    rw [g]; rfl
  · have g := flat_get hq 1 _ rfl
    rw [m]
    rw [show t / 2 * 2 + 1 = t from by omega] at g
    rw [g]; rfl
theorem add_none (g t : Nat) : (⟨g, 0, none⟩ : Addr).add t = ⟨g, 0 + t, none⟩ := by unfold Addr.add; split <;> simp_all
theorem holds_own {w : World} {b g n c : Nat} {l : List Rq} (h : w.ownsRow b 23 2 (.slice (some ⟨g, 0, none⟩) n c) n (flat l)) (hn : n = l.length) (h0 : 0 < n) : Sort.HoldsK encQ 2 w g 0 l.toArray := by
  have hf : ∃ cur e, w.heap[g]? = some (.cells cur e (0, 0)) := by
    rcases h.2 with ⟨_, k⟩ | ⟨g', cap, cur, hv, _, hh, _⟩
    · omega
    · cases hv; exact ⟨cur, _, hh⟩
  obtain ⟨g', c', hv, _, _, _, _, hc⟩ := own_at h h0
  cases hv
  intro t ht
  rw [Sort.size_flatK] at ht
  have ht2 : t < l.length * 2 := by simpa using ht
  refine ⟨?_, ?_⟩
  · rw [Sort.get_flatK _ _ _ _ ht, ← add_none]
    exact hc t _ (flat_getE ht2)
  · obtain ⟨cur, e, hh⟩ := hf
    unfold World.frozen?
    simp only [hh]
    simp
theorem rqs_holds {w : World} {g n c : Nat} {d : Array Rq} (h : Sort.HoldsK encQ 2 w g 0 d) (hn : d.size = n) (hc : n ≤ c) : Rqs w (.slice (some ⟨g, 0, none⟩) n c) d.toList := by
  subst hn
  refine ⟨some ⟨g, 0, none⟩, c, by simp, by simpa using hc, fun j u hu => ⟨_, rfl, ?_⟩⟩
  have hj : j < (flat d.toList).length := (List.getElem?_eq_some_iff.1 hu).1
  rw [flat_length] at hj
  have hk := (h j (by rw [Sort.size_flatK]; simpa using hj)).1
  rw [Sort.get_flatK _ _ _ _ (by simpa using hj), ← add_none] at hk
  rw [flat_getE hj] at hu
  have hu' : (encQ d[j / 2]!)[j % 2]! = u := by simpa using hu
  rw [hu'] at hk
  exact ⟨hk, World.block_lt_of_cell? w _ hk⟩
theorem below_sort {w0 w : World} {B g n : Nat} {d : Array Rq} {os : Array Obj} (h : Below B w0 w) (hB : B ≤ g) (hs : B ≤ w.heap.size) : Below B w0 (sortWorldK encQ 2 w g 0 n d os) := by
  have hz : w.heap.size ≤ (sortWorldK encQ 2 w g 0 n d os).heap.size := size_sortWorldK_c encQ 2 w g 0 n d os
  refine ⟨h.os, h.tape, h.output, Nat.le_trans h.size hz, fun k hk => ?_⟩
  rw [← h.block k hk]
  unfold sortWorldK
  have e1 : k < (Sort.putRowK encQ 2 (Sort.ahead w n) g 0 d).heap.size := by
    unfold Sort.putRowK
    rw [Sort.size_putRow]
    exact Nat.lt_of_lt_of_le hk hs
  rw [Sort.heap_grow_old _ os e1]
  show (w.heap.modify g _)[k]? = _
  rw [Array.getElem?_modify, if_neg (by omega)]
/-- The program's comparison as an order. -/
theorem swo_cf : Sort.SWO (ltOf cf) := by
  refine ⟨fun x => ?_, fun x y z h1 h2 => ?_, fun x y z h1 h2 => ?_⟩
  · unfold ltOf
    rw [decide_eq_false_iff_not, cf_neg]
    omega
  · unfold ltOf at *
    rw [decide_eq_true_iff, cf_neg] at *
    omega
  · unfold ltOf at *
    rw [decide_eq_false_iff_not, cf_neg] at *
    omega
/-- Valid requests, permuted and sorted: the sorted list. -/
theorem srt_of {l : List Rq} {d d' : Array Rq} (hd : d.toList = l.filter okQ) (hp : Sort.PermIn 0 d.size d d') (hs : Sort.SortedIn (ltOf cf) 0 d.size d') : d'.size = d.size ∧ d'.toList = srt l := by
  obtain ⟨hz, _, hp⟩ := hp
  have hp' : d'.toList.Perm (l.filter okQ) := by
    have e1 : d'.extract 0 d.size = d' := by rw [← hz]; simp
    have e2 : d.extract 0 d.size = d := by simp
    rw [e1, e2, hd] at hp
    exact hp
  have hv : ∀ q ∈ d'.toList, okQ q = true := fun q hq => (List.mem_filter.1 (hp'.mem_iff.1 hq)).2
  refine ⟨hz, srt_eq ⟨hv, List.pairwise_iff_getElem.2 fun i j hi hj hij => ?_⟩ hp'⟩
  have h := hs i j (Nat.zero_le _) hij (by rw [← hz]; simpa using hj)
  have ei : d'[i]! = d'.toList[i] := by rw [getElem!_pos d' i (by simpa using hi)]; simp
  have ej : d'[j]! = d'.toList[j] := by rw [getElem!_pos d' j (by simpa using hj)]; simp
  rw [ei, ej] at h
  unfold ltOf at h
  rw [decide_eq_false_iff_not, cf_key (hv _ (List.getElem_mem hj)) (hv _ (List.getElem_mem hi))] at h
  omega
theorem filter_no {l : List Rq} {k : Nat} {x : Rq} (h : l[k]? = some x) (ho : okQ x = false) : (l.take (k + 1)).filter okQ = (l.take k).filter okQ := by
  rw [take_one h, List.filter_append, List.filter_cons_of_neg (by rw [ho]; decide)]; simp
theorem filter_yes {l : List Rq} {k : Nat} {x : Rq} (h : l[k]? = some x) (ho : okQ x = true) : (l.take (k + 1)).filter okQ = (l.take k).filter okQ ++ [x] := by
  rw [take_one h, List.filter_append, List.filter_cons_of_pos ho]; rfl
end Go.Proofs.Ytglneeeeogkljaa
