/-
  Apply of the reference. Condition: at most 2^40 sectors, bad ones and writes.
-/
import Derived.Test.YtigmlkfmgheegaaDvG
import Derived.Test.YtigmlkfmgheegaaAld
namespace Go.Proofs.Ytigmlkfmgheegaa
open Go.RowKit
set_option linter.unusedSimpArgs false
set_option linter.unusedVariables false
set_option maxHeartbeats 4000000
set_option maxRecDepth 100000
attribute [local irreducible] wpQuiet wpQF

/-- The cells of writes. -/
def flatW (l : List (Int × ByteArray)) : List Value := l.flatMap fun q => [.int .i64 q.1, .string q.2]
theorem flatW_append (a b : List (Int × ByteArray)) : flatW (a ++ b) = flatW a ++ flatW b := List.flatMap_append
theorem flatW_length (l : List (Int × ByteArray)) : (flatW l).length = l.length * 2 := by
  induction l with
  | nil => rfl
  | cons q l ih => show ([_, _] ++ flatW l).length = _; rw [List.length_append, ih]; simp; omega
theorem flatW_get {l : List (Int × ByteArray)} {k : Nat} {q : Int × ByteArray} (hq : l[k]? = some q) : ∀ j v, ([.int .i64 q.1, .string q.2] : List Value)[j]? = some v → (flatW l)[k * 2 + j]? = some v := by
  have hk : k < l.length := (List.getElem?_eq_some_iff.1 hq).1
  intro j v hv
  have e : flatW l = flatW (l.take k) ++ ([.int .i64 q.1, .string q.2] ++ flatW (l.drop (k + 1))) := by
    have e1 : flatW (l.drop k) = [.int .i64 q.1, .string q.2] ++ flatW (l.drop (k + 1)) := by
      rw [List.drop_eq_getElem_cons hk, (List.getElem?_eq_some_iff.1 hq).2]; rfl
    rw [← e1, ← flatW_append, List.take_append_drop]
  have hl : (flatW (l.take k)).length = k * 2 := by rw [flatW_length, List.length_take, Nat.min_eq_left (by omega)]
  rw [e, List.getElem?_append_right (by omega), hl, show k * 2 + j - k * 2 = j from by omega]
  rw [List.getElem?_append_left (List.getElem?_eq_some_iff.1 hv).1]; exact hv
/-- A slice of writes that reads as l. -/
def Wts (w : World) (v : Value) (l : List (Int × ByteArray)) : Prop := Rz w v l.length (flatW l)
theorem Wts.form {w : World} {v : Value} {l : List (Int × ByteArray)} (h : Wts w v l) : ∃ A c, v = .slice A l.length c ∧ l.length ≤ c ∧ ∀ (k : Nat) q, l[k]? = some q → ∃ a : Addr, A = some a ∧ ∀ w', Below w.heap.size w w' → (Instr.loadAt 3 (.pointer (some (a.add (k * 2))))).run Try.prog w' = .ok (.int .i64 q.1) w' ∧ (Instr.loadAt 9 (.pointer (some ((a.add (k * 2)).add 1)))).run Try.prog w' = .ok (.string q.2) w' := by
  have h0 := h
  obtain ⟨⟨A, c, rfl, hk, _⟩, _⟩ := h
  refine ⟨A, c, rfl, hk, fun k q hq => ?_⟩
  have h1 := flatW_get hq 0 _ rfl
  have h2 := flatW_get hq 1 _ rfl
  obtain ⟨a, rfl⟩ := Rz.addr h0 h1
  exact ⟨a, rfl, fun w' hb => ⟨Rz.load (Rz.below h0 hb) int_cell h1, by rw [addr_add]; exact Rz.load (Rz.below h0 hb) str_cell h2⟩⟩
theorem ap_step {D : Drv} {l : List (Int × ByteArray)} {k : Nat} {q : Int × ByteArray} (h : l[k]? = some q) (f : Int) : D.ap (l.drop k) k f = if (k : Int) = f then (D, k, 0) else if (D.wr q.1 q.2).2 = 0 then (D.wr q.1 q.2).1.ap (l.drop (k + 1)) (k + 1) f else (D, k, (D.wr q.1 q.2).2) := by
  have hk : k < l.length := (List.getElem?_eq_some_iff.1 h).1
  rw [List.drop_eq_getElem_cons hk, (List.getElem?_eq_some_iff.1 h).2]; rfl
theorem wr_keep (D : Drv) (k : Int) (s : ByteArray) (h : (D.wr k s).2 = 0) : (D.wr k s).1.S.length = D.S.length ∧ (D.wr k s).1.B = D.B := by
  unfold Drv.wr at *
  split at h
  · rw [if_pos (by assumption)]
    split at h
    · cases h
    · rw [if_neg (by assumption)]
      split at h
      · cases h
      · rw [if_neg (by assumption)]
        exact ⟨List.length_set, rfl⟩
  · cases h

theorem results_ctt {P : Program} {fn : Func} {tmps : Array Value} {w : World} {j k m : Tmp} {T : TypeId} {a : Addr} {v : Value} (hr : fn.results = #[.cell j T, .tmp k, .tmp m]) (ha : tmps.getD j undef = .pointer (some a)) (hl : (Go.loadVar T a).run P w = .ok v w) :
    (results fn tmps).run P w = .ok (.tuple #[v, tmps.getD k undef, tmps.getD m undef]) w := by
  unfold results
  rw [hr]
  have ha' := ha
  rw [Array.getD_eq_getD_getElem?] at ha'
  simp [ha', asAddr, hl]
theorem Bag.perm {l l' : List (Nat × TypeId × List Value)} {w0 w : World} (h : Bag l w0 w) (p : l.Perm l') : Bag l' w0 w :=
  ⟨fun B t cs hm => h.all B t cs (p.mem_iff.2 hm), h.below, fun b hb => h.lo b (p.mem_iff.2 hb), (p.map _).nodup_iff.1 h.dis⟩
theorem Bag.sub {l l' : List (Nat × TypeId × List Value)} {w0 w : World} (h : Bag l w0 w) (p : l'.Sublist l) : Bag l' w0 w :=
  ⟨fun B t cs hm => h.all B t cs (p.mem hm), h.below, fun b hb => h.lo b (p.mem hb), h.dis.sublist (p.map _)⟩
theorem sts_one {w : World} {v : Value} {S : List ByteArray} (h : Sts w v S) : v.oneCell' = true := by obtain ⟨A, c, rfl, _⟩ := h.form; rfl
theorem its_one {w : World} {v : Value} {S : List Int} (h : Its w v S) : v.oneCell' = true := by obtain ⟨A, c, rfl, _⟩ := h.form; rfl
theorem two_one {x y : Value} (hx : x.oneCell' = true) (hy : y.oneCell' = true) : ∀ v ∈ [x, y], v.oneCell' = true := by
  intro u hu; simp at hu; rcases hu with rfl | rfl
  · exact hx
  · exact hy
theorem StsX.over {X : Nat → Prop} {B : Nat} {w w' : World} {v : Value} {S : List ByteArray} (h : StsX X w v S) (hk : ∀ k, k ≠ B → w'.heap[k]? = w.heap[k]?) (hB : X B) : StsX X w' v S := h.off (fun b _ hx => hk b (fun e => hx (e ▸ hB))) (fun _ _ h => h)
theorem ItsX.over {X : Nat → Prop} {B : Nat} {w w' : World} {v : Value} {S : List Int} (h : ItsX X w v S) (hk : ∀ k, k ≠ B → w'.heap[k]? = w.heap[k]?) (hB : X B) : ItsX X w' v S := h.off (fun b _ hx => hk b (fun e => hx (e ▸ hB))) (fun _ _ h => h)
theorem StsX.less {X Y : Nat → Prop} {w : World} {v : Value} {S : List ByteArray} (h : StsX X w v S) (hY : ∀ b, Y b → X b) : StsX Y w v S := h.off (fun _ _ _ => rfl) (fun b _ h => hY b h)
theorem ItsX.less {X Y : Nat → Prop} {w : World} {v : Value} {S : List Int} (h : ItsX X w v S) (hY : ∀ b, Y b → X b) : ItsX Y w v S := h.off (fun _ _ _ => rfl) (fun b _ h => hY b h)
/-- Those of X, and two blocks of the call's own. -/
def OwnA (X : Nat → Prop) (N b : Nat) : Prop := X b ∨ b = N ∨ b = N + 1
/-- And the block of the allocation, if it is done. -/
def XT (O : Nat → Prop) (st : St) (b : Nat) : Prop := O b ∨ ∃ k, st = some (b, k)
def KX (t : TypeId) (zs ns : List Value) (l : List (Nat × TypeId × List Value)) (w0 : World) : St → World → Prop
  | none, w => Bag l w0 w
  | some (B, false), w => Bag ((B, t, zs) :: l) w0 w
  | some (B, true), w => Bag ((B, t, ns) :: l) w0 w
theorem KX.of {t : TypeId} {zs ns : List Value} {l : List (Nat × TypeId × List Value)} {w0 w : World} {s : Option Nat} (h : KB t zs l w0 s w) : KX t zs ns l w0 (s.map (·, false)) w := by
  cases s <;> exact h
theorem KX.new {t : TypeId} {zs ns : List Value} {l : List (Nat × TypeId × List Value)} {w0 w : World} (h : KX t zs ns l w0 none w) : KX t zs ns l w0 (some (w.heap.size, false)) (w.alloc (.cells zs.toArray t)) := Bag.new h t zs
theorem xt_new {O : Nat → Prop} {N : Nat} : ∀ b, b < N → XT O (some (N, false)) b → XT O none b := by
  rintro b hb (h | ⟨k, h⟩)
  · exact .inl h
  · cases h; omega
theorem xt_lt {O : Nat → Prop} {t : TypeId} {zs : List Value} {l : List (Nat × TypeId × List Value)} {w0 w : World} {s : Option Nat} (h : KB t zs l w0 s w) (hO : ∀ b, O b → b < w.heap.size) : ∀ b, XT O (s.map (·, false)) b → b < w.heap.size := by
  rintro b (h1 | ⟨k, h1⟩)
  · exact hO b h1
  · cases s with
    | none => cases h1
    | some B => cases h1; exact ((show Bag _ _ _ from h).all _ _ _ (.head _)).lt
theorem xt_own {O : Nat → Prop} {N : Nat} {s : Option Nat} (h : ∀ b, s = some b → N ≤ b) : ∀ b, b < N → XT O (s.map (·, false)) b → O b := by
  rintro b hb (h1 | ⟨k, h1⟩)
  · exact h1
  · cases s with
    | none => cases h1
    | some B => cases h1; have := h _ rfl; omega
end Go.Proofs.Ytigmlkfmgheegaa
