import Derived.RangeFuncNested
import Derived.RangeFuncBound
import Derived.RangeFuncCalls
import Derived.RangeFuncLeaves
import Derived.Shelf.Abstract
import Derived.Shelf.RegionOpen
import Derived.WalkKit
import Derived.OwnWalkIn
import Derived.TacticsInMore
import Derived.LoopNIn
import Derived.LoopIn
import Derived.Test.YthpnddgfgpacpaaGreatRS00
import Derived.Test.YthpnddgfgpacpaaGreatRS01
import Derived.Test.YthpnddgfgpacpaaGreatRS22
/-
  The iterator over the devices of a machine: its contract. Condition: at most 2^40 lines.
-/
namespace Go.Proofs.YthpnddgfgpacpaaGreat
open Go.RowKit Go.Shelf
set_option linter.unusedSimpArgs false
set_option linter.unusedVariables false
set_option maxHeartbeats 4000000
set_option maxRecDepth 100000
attribute [local go_sem] Oper.semAt_some

/-- The first register of the device at a place of the list; the device itself. -/
def devB : Nat → Int
  | 0 => 0
  | 1 => 256
  | 2 => 768
  | 3 => 800
  | k + 4 => 512 + 8 * (k : Int)
def devV : Nat → Value
  | 0 => .iface 133 (.agg #[])
  | 1 => .iface 134 (.agg #[])
  | 2 => .iface 135 (.agg #[])
  | 3 => .iface 136 (.agg #[])
  | k + 4 => .iface 137 (.int .i64 k)
/-- What the loops' bodies keep: the block of the number of lines. -/
def KpB (B : Nat) (W W' : World) : Prop := W'.heap[B]? = W.heap[B]?
theorem KpB.trans {B : Nat} {a b c : World} (h : KpB B a b) (k : KpB B b c) : KpB B a c := Eq.trans k h
theorem KpB.cell {B : Nat} {W W' : World} {v : Value} (h : KpB B W W') (hc : W.cell? ⟨B, 0, none⟩ = some v) : W'.cell? ⟨B, 0, none⟩ = some v := (World.cell?_of_block (w := W) (show W'.heap[(⟨B, 0, none⟩ : Addr).block]? = W.heap[(⟨B, 0, none⟩ : Addr).block]? from h)).trans hc
def encD (n : Nat) (x : Fin (n + 4)) : Array Value := #[.int .i64 (devB x.val), devV x.val]
def SDev (n : Nat) (xs : List (Fin (n + 4))) : Prop := xs.map Fin.val = List.range (n + 4)
def PDev (n k : Nat) (pre : List (Fin (n + 4))) : Prop := pre.map Fin.val = List.range k
theorem PDev.nil (n : Nat) : PDev n 0 [] := rfl
theorem PDev.snoc {n k : Nat} {pre : List (Fin (n + 4))} (h : PDev n k pre) (hk : k < n + 4) : PDev n (k + 1) (pre ++ [(⟨k, hk⟩ : Fin (n + 4))]) := by
  unfold PDev at *
  rw [List.map_append, h, List.range_succ]; rfl
theorem PDev.len {n k : Nat} {pre : List (Fin (n + 4))} (h : PDev n k pre) : pre.length = k := by
  have := congrArg List.length (show pre.map Fin.val = List.range k from h)
  rwa [List.length_map, List.length_range] at this
theorem dev_stops (m : Nat) (hm : 1 ≤ m) (B n : Nat) (hn : n ≤ 1099511627776) (w : World) (hc : w.cell? ⟨B, 0, none⟩ = some (.int .i64 n)) (hB : B < w.heap.size) :
    SeqStopsK Fence.wide m Tryz.prog 75 #[.pointer (some ⟨B, 0, none⟩)] (encD n) (KpB B) (SDev n) (fun _ => True) (n + 4) w := fun l J Jx W hW hJ hJx hY h0 => by
  replace hc : W.cell? ⟨B, 0, none⟩ = some (.int .i64 n) := (World.cell?_of_block (w := w) (hW.block B hB)).trans hc
  refine callsIn_of_wp Tryz.func75 rfl trivial ?_ rfl
  simp only [Tryz.ntmps75, List.size_toArray, List.length_cons, List.length_nil, Nat.reduceAdd, Nat.reduceSub, Array.replicate_succ, Array.replicate_zero, List.push_toArray, List.append_toArray, List.nil_append, List.cons_append]
  obtain ⟨f0, t0, a0, b0, hy0, hR0⟩ := hY [] ⟨0, by omega⟩ W h0 (by simp)
  dsimp only [encD, devB, devV] at hy0
  gi_wp2
  refine hR0.mono ?_
  clear hR0 hy0
  rintro e W1 (⟨rfl, hJ1, hk1⟩ | ⟨rfl, hx1⟩)
  rotate_left
  · gi_wp2
    refine ⟨fun _ h => (by cases h), ?_⟩
    gi_wp2
    refine ⟨fun _ h => (by cases h), ?_⟩
    gi_wp2
    refine ⟨fun _ h => (by cases h), ?_⟩
    gi_wp2
    refine bodyPost_ret (results_none rfl _ _ _) rfl ?_
    exact ⟨⟨_, rfl⟩, .inr ⟨_, trivial, hx1⟩⟩
  replace hc := hk1.cell hc
  obtain ⟨f1, t1, a1, b1, hy1, hR1⟩ := hY ([] ++ [(⟨0, by omega⟩ : Fin (n + 4))]) ⟨1, by omega⟩ W1 hJ1 (by simp)
  dsimp only [encD, devB, devV] at hy1
  gi_wp2
  refine hR1.mono ?_
  clear hR1 hy1
  rintro e W2 (⟨rfl, hJ2, hk2⟩ | ⟨rfl, hx2⟩)
  rotate_left
  · gi_wp2
    refine ⟨fun _ h => (by cases h), ?_⟩
    gi_wp2
    refine ⟨fun _ h => (by cases h), ?_⟩
    gi_wp2
    refine bodyPost_ret (results_none rfl _ _ _) rfl ?_
    exact ⟨⟨_, rfl⟩, .inr ⟨_, trivial, hx2⟩⟩
  replace hc := hk2.cell hc
  obtain ⟨f2, t2, a2, b2, hy2, hR2⟩ := hY (([] ++ [(⟨0, by omega⟩ : Fin (n + 4))]) ++ [(⟨1, by omega⟩ : Fin (n + 4))]) ⟨2, by omega⟩ W2 hJ2 (by simp)
  dsimp only [encD, devB, devV] at hy2
  gi_wp2
  refine hR2.mono ?_
  clear hR2 hy2
  rintro e W3 (⟨rfl, hJ3, hk3⟩ | ⟨rfl, hx3⟩)
  rotate_left
  · gi_wp2
    refine ⟨fun _ h => (by cases h), ?_⟩
    gi_wp2
    refine bodyPost_ret (results_none rfl _ _ _) rfl ?_
    exact ⟨⟨_, rfl⟩, .inr ⟨_, trivial, hx3⟩⟩
  replace hc := hk3.cell hc
  obtain ⟨f3, t3, a3, b3, hy3, hR3⟩ := hY ((([] ++ [(⟨0, by omega⟩ : Fin (n + 4))]) ++ [(⟨1, by omega⟩ : Fin (n + 4))]) ++ [(⟨2, by omega⟩ : Fin (n + 4))]) ⟨3, by omega⟩ W3 hJ3 (by simp)
  dsimp only [encD, devB, devV] at hy3
  gi_wp2
  refine hR3.mono ?_
  clear hR3 hy3
  rintro e W4 (⟨rfl, hJ4, hk4⟩ | ⟨rfl, hx4⟩)
  rotate_left
  · gi_wp2
    refine bodyPost_ret (results_none rfl _ _ _) rfl ?_
    exact ⟨⟨_, rfl⟩, .inr ⟨_, trivial, hx4⟩⟩
  replace hc := hk4.cell hc
  obtain ⟨P4, hP4⟩ : ∃ P4, P4 = (((([] ++ [(⟨0, by omega⟩ : Fin (n + 4))]) ++ [(⟨1, by omega⟩ : Fin (n + 4))]) ++ [(⟨2, by omega⟩ : Fin (n + 4))]) ++ [(⟨3, by omega⟩ : Fin (n + 4))]) := ⟨_, rfl⟩
  have hD4 : PDev n 4 P4 := by rw [hP4]; exact ((((PDev.nil n).snoc (by omega)).snoc (by omega)).snoc (by omega)).snoc (by omega)
  rw [← hP4] at hJ4
  clear hP4 hJ1 hJ2 hJ3 hk1 hk2 hk3 hk4 h0
  gi_wp2
  gi_loopw [31] (fun iv wr => ∃ (i : Nat) (pre : List (Fin (n + 4))), i ≤ n ∧ iv = .int .i64 i ∧ PDev n (i + 4) pre ∧ J pre wr) (fun iv _ => n - (intOf iv).toNat)
  case atStart => exact ⟨0, P4, Nat.zero_le _, rfl, hD4, hJ4⟩
  case round =>
    obtain ⟨i, pre, hi, rfl, hD, hJi⟩ := hrel
    by_cases hlt : i < n
    · have i1 : (i : Int) < (n : Int) := by omega
      have w1 : IntKind.i64.wrap (8 * (i : Int)) = 8 * (i : Int) := by rw [wrap_i64]; unfold wrap64; omega
      have w2 : IntKind.i64.wrap (512 + 8 * (i : Int)) = 512 + 8 * (i : Int) := by rw [wrap_i64]; unfold wrap64; omega
      have w3 : IntKind.i64.wrap ((i : Int) + 1) = ((i + 1 : Nat) : Int) := by rw [wrap_i64]; unfold wrap64; omega
      obtain ⟨fn, tn, an, bn, hy, hR⟩ := hY pre ⟨i + 4, by omega⟩ wr hJi (by rw [hD.len]; omega)
      dsimp only [encD, devB, devV] at hy
      gi_wp2
      refine hR.mono ?_
      clear hR hy
      rintro e W6 (⟨rfl, hJ6, hk6⟩ | ⟨rfl, hx6⟩)
      · gi_wp2
        exact ⟨⟨i + 1, _, by omega, rfl, hD.snoc (by omega), hJ6⟩, by simp [intOf]; omega⟩
      · gi_wp2
        refine bodyPost_ret (results_none rfl _ _ _) rfl ?_
        exact ⟨⟨_, rfl⟩, .inr ⟨_, trivial, hx6⟩⟩
    · have i1 : ¬ (i : Int) < (n : Int) := by omega
      obtain rfl : i = n := by omega
      gi_wp2
      go_end0
      exact ⟨⟨_, rfl⟩, .inl ⟨pre, hD, hJi⟩⟩
end Go.Proofs.YthpnddgfgpacpaaGreat
/-
  The devices of a machine, plain: what each does by itself; all of them, one after the other, do what the bus does. No condition.
-/
namespace Go.Proofs.YthpnddgfgpacpaaGreat
open Go.RowKit
set_option linter.unusedSimpArgs false
set_option linter.unusedVariables false
set_option maxHeartbeats 4000000
set_option maxRecDepth 100000

def Ma.line (A : Ma) (k : Nat) : Ln := A.L.getD k Ln.new
def Ma.setL (A : Ma) (k : Nat) (x : Ln) : Ma := { A with L := A.L.set k x }
def Ma.dRight (A : Ma) : Nat → Bool
  | 0 => A.U.right
  | 1 => A.k.right
  | 2 => A.K.right
  | 3 => A.T.right
  | k + 4 => (A.line k).right
def Ma.dAcc (v : Int) (A : Ma) : Nat → Ma
  | 0 => A
  | 1 => { A with k := A.k.acc v }
  | 2 => { A with K := A.K.acc v }
  | 3 => { A with T := A.T.acc v }
  | k + 4 => A.setL k (A.line k)
def Ma.dReset (A : Ma) : Nat → Ma
  | 0 => { A with U := Un.z }
  | 1 => { A with k := A.k.reset }
  | 2 => { A with K := A.K.reset }
  | 3 => { A with T := A.T.reset }
  | k + 4 => A.setL k (A.line k).reset
def Ma.dReq (A : Ma) : Nat → List (Int × Int)
  | 0 => []
  | 1 => A.k.req
  | 2 => A.K.req
  | 3 => A.T.req
  | k + 4 => (A.line k).req k
def dBase : Nat → Int
  | 0 => 0
  | 1 => 256
  | 2 => 768
  | 3 => 800
  | k + 4 => 512 + 8 * (k : Int)
/-- A device is read at a distance from its first register. -/
def Ma.dRead (A : Ma) (r : Int) : Nat → Ma × Int × Bool
  | 0 => (A, (A.U.read r).1, (A.U.read r).2)
  | 1 => if r = 0 then (A, A.k.read, true) else (A, 0, false)
  | 2 => (A, (A.K.rd r).1, (A.K.rd r).2)
  | 3 => (A, (A.T.rd r).1, (A.T.rd r).2)
  | k + 4 => if 0 ≤ r ∧ r < 8 then (A.setL k ((A.line k).rd r).1, ((A.line k).rd r).2, true) else (A, 0, false)
def Ma.dWrite (A : Ma) (r v : Int) : Nat → Ma × Bool
  | 0 => if (A.U.write r v).2 = true then ({ A with U := (A.U.write r v).1 }, true) else (A, false)
  | 1 => if r = 0 then ({ A with k := A.k.write v }, true) else (A, false)
  | 2 => if (A.K.wr r v).2 = true then ({ A with K := (A.K.wr r v).1 }, true) else (A, false)
  | 3 => if (A.T.wr r v).2 = true then ({ A with T := (A.T.wr r v).1 }, true) else (A, false)
  | k + 4 => if 0 ≤ r ∧ r < 8 then (A.setL k ((A.line k).wr r v), true) else (A, false)
section
variable {A : Ma}
theorem dAcc_len (v : Int) (A : Ma) (k : Nat) : (A.dAcc v k).L.length = A.L.length := by
  unfold Ma.dAcc Ma.setL; split <;> first | rfl | simp
theorem dReset_len (A : Ma) (k : Nat) : (A.dReset k).L.length = A.L.length := by
  unfold Ma.dReset Ma.setL; split <;> first | rfl | simp
theorem line_right (h : A.right = true) {k : Nat} (hk : k < A.L.length) : (A.line k).right = true := by
  unfold Ma.line
  rw [List.getD_eq_getElem?_getD, List.getElem?_eq_getElem hk]
  exact (Ma.parts h).2.1 _ (List.getElem_mem hk)
theorem setL_right (h : A.right = true) (k : Nat) {x : Ln} (hx : x.right = true) : (A.setL k x).right = true := by
  obtain ⟨h1, h2, h3, h4, h5, h6, h7⟩ := Ma.parts h
  refine Ma.mk_right (by unfold Ma.setL; dsimp only; rw [List.length_set]; exact h1) (fun y hy => ?_) h3 h4 h5 h6 h7
  rcases List.mem_or_eq_of_mem_set (show y ∈ A.L.set k x from hy) with hy | rfl
  · exact h2 y hy
  · exact hx
theorem dAcc_right (h : A.right = true) (v : Int) {k : Nat} (hk : k < A.L.length + 4) : (A.dAcc v k).right = true := by
  obtain ⟨h1, h2, h3, h4, h5, h6, h7⟩ := Ma.parts h
  unfold Ma.dAcc
  split
  · exact h
  · exact Ma.mk_right h1 h2 h3 h4 (ck_acc18 h5 v) h6 h7
  · exact Ma.mk_right h1 h2 h3 h4 h5 (accK_right h6 v) h7
  · exact Ma.mk_right h1 h2 h3 h4 h5 h6 (accT_right h7 v)
  · exact setL_right h _ (line_right h (by omega))
theorem dReset_right (h : A.right = true) {k : Nat} (hk : k < A.L.length + 4) : (A.dReset k).right = true := by
  obtain ⟨h1, h2, h3, h4, h5, h6, h7⟩ := Ma.parts h
  unfold Ma.dReset
  split
  · exact Ma.mk_right h1 h2 h3 (show Un.z.right = true from by decide) h5 h6 h7
  · exact Ma.mk_right h1 h2 h3 h4 (ck_reset18 h5) h6 h7
  · exact Ma.mk_right h1 h2 h3 h4 h5 (resetK_right h6) h7
  · exact Ma.mk_right h1 h2 h3 h4 h5 h6 (resetT_right h7)
  · exact setL_right h _ (ln_reset18 (line_right h (by omega)))
theorem dAcc_ok (h : A.ok) (v : Int) (k : Nat) : (A.dAcc v k).ok := by unfold Ma.dAcc; split <;> exact h
theorem dReset_ok (h : A.ok) (k : Nat) : (A.dReset k).ok := by unfold Ma.dReset; split <;> first | exact h | exact ⟨h.1, h.2.1, rfl⟩
end
/-- Lines one after the other. -/
theorem lines_fold (f : Ln → Ln) (A : Ma) : ∀ j, j ≤ A.L.length → (List.range j).foldl (fun (B : Ma) k => B.setL k (f (B.line k))) A = { A with L := (A.L.take j).map f ++ A.L.drop j }
  | 0, _ => by simp
  | j + 1, h => by
    rw [List.range_succ, List.foldl_append, lines_fold f A j (by omega)]
    simp only [List.foldl_cons, List.foldl_nil, Ma.setL, Ma.line]
    have hl : ((A.L.take j).map f).length = j := by rw [List.length_map, List.length_take]; omega
    have hx : A.L[j]? = some A.L[j] := List.getElem?_eq_getElem (by omega)
    congr 1
    have hd : A.L.drop j = A.L[j] :: A.L.drop (j + 1) := by rw [List.drop_eq_getElem_cons (by omega)]
    rw [List.getD_eq_getElem?_getD, List.getElem?_append_right (by omega), hl, Nat.sub_self, hd]
    rw [List.set_append_right _ _ (by omega), hl, Nat.sub_self]
    rw [List.take_add_one, hx]
    simp only [List.getElem?_cons_zero, Option.getD_some, List.set_cons_zero, Option.toList_some, List.map_append, List.map_cons, List.map_nil, List.append_assoc, List.cons_append, List.nil_append]
theorem range4 (n : Nat) : List.range (n + 4) = [0, 1, 2, 3] ++ (List.range n).map (· + 4) := by
  rw [show n + 4 = 4 + n from by omega, List.range_add]
  congr 1
  exact List.map_congr_left fun x _ => Nat.add_comm 4 x
theorem acc_fold (v : Int) (A : Ma) : (List.range (A.L.length + 4)).foldl (Ma.dAcc v) A = A.acc v := by
  rw [range4, List.foldl_append, List.foldl_map]
  have e : (fun (x : Ma) (y : Nat) => x.dAcc v (y + 4)) = fun B k => B.setL k (id (B.line k)) := by funext B k; rfl
  rw [e]
  obtain ⟨B, hB⟩ : ∃ B, [0, 1, 2, 3].foldl (Ma.dAcc v) A = B := ⟨_, rfl⟩
  have hBL : B.L = A.L := by rw [← hB]; rfl
  rw [hB, ← hBL, lines_fold id B B.L.length (Nat.le_refl _)]
  rw [List.take_length, List.drop_length, List.append_nil, List.map_id]
  rw [← hB]; rfl
theorem reset_fold (A : Ma) : (List.range (A.L.length + 4)).foldl Ma.dReset A = A.reset := by
  rw [range4, List.foldl_append, List.foldl_map]
  have e : (fun (x : Ma) (y : Nat) => x.dReset (y + 4)) = fun B k => B.setL k (Ln.reset (B.line k)) := by funext B k; rfl
  rw [e]
  obtain ⟨B, hB⟩ : ∃ B, [0, 1, 2, 3].foldl Ma.dReset A = B := ⟨_, rfl⟩
  have hBL : B.L = A.L := by rw [← hB]; rfl
  rw [hB, ← hBL, lines_fold Ln.reset B B.L.length (Nat.le_refl _)]
  rw [List.take_length, List.drop_length, List.append_nil]
  rw [← hB]; rfl
theorem reqL_app (l : List Ln) : ∀ (n : Int) (x : Ln), reqL (l ++ [x]) n = reqL l n ++ x.req (n + l.length) := by
  induction l with
  | nil => intro n x; simp [reqL]
  | cons y r ih =>
    intro n x
    simp only [List.cons_append, reqL, ih, List.append_assoc, List.length_cons]
    rw [show n + 1 + (r.length : Int) = n + ((r.length + 1 : Nat) : Int) by omega]
theorem req_lines (A : Ma) : ∀ j, j ≤ A.L.length → (List.range j).flatMap (fun k => (A.line k).req k) = reqL (A.L.take j) 0
  | 0, _ => rfl
  | j + 1, h => by
    have hx : A.L[j]? = some A.L[j] := List.getElem?_eq_getElem (by omega)
    rw [List.range_succ, List.flatMap_append, req_lines A j (by omega), List.take_add_one, hx]
    simp only [List.flatMap_cons, List.flatMap_nil, List.append_nil, Option.toList_some]
    rw [reqL_app, List.length_take, Nat.min_eq_left (by omega)]
    unfold Ma.line
    rw [List.getD_eq_getElem?_getD, hx]
    simp
theorem req_fold (A : Ma) : (List.range (A.L.length + 4)).flatMap A.dReq = A.req := by
  rw [range4, List.flatMap_append, List.flatMap_map]
  have e : (fun (k : Nat) => A.dReq (k + 4)) = fun k => (A.line k).req k := by funext k; rfl
  rw [e, req_lines A _ (Nat.le_refl _), List.take_length]
  simp [Ma.dReq, Ma.req]
theorem right_all (A : Ma) (hl : A.L.length ≤ 4) (hm : rightP A.M A.B = true) : A.right = true ↔ ∀ k, k < A.L.length + 4 → A.dRight k = true := by
  constructor
  · intro h k hk
    obtain ⟨h1, h2, h3, h4, h5, h6, h7⟩ := Ma.parts h
    unfold Ma.dRight
    split
    · exact h4
    · exact h5
    · exact h6
    · exact h7
    · exact line_right h (by omega)
  · intro h
    refine Ma.mk_right hl (fun x hx => ?_) hm (h 0 (by omega)) (h 1 (by omega)) (h 2 (by omega)) (h 3 (by omega))
    obtain ⟨j, hj⟩ := List.mem_iff_getElem?.1 hx
    have hlt := (List.getElem?_eq_some_iff.1 hj).1
    have h0 := h (j + 4) (by omega)
    unfold Ma.dRight Ma.line at h0
    simp only [List.getD_eq_getElem?_getD, hj] at h0
    exact h0
theorem unread {u : Un} {r : Int} (h : 80 ≤ r ∨ r < 0) : (u.read r).2 = false := by
  unfold Un.read
  rw [if_neg (by omega), if_neg (by omega)]
  have : ¬ isReg r = true := fun q => by have := isReg_all q; omega
  rw [if_neg this]
theorem unwrit {u : Un} {r v : Int} (h : 80 ≤ r ∨ r < 0) : (u.write r v).2 = false := by
  unfold Un.write
  rw [if_neg (by omega), if_neg (by omega)]
  have : ¬ isReg r = true := fun q => by have := isReg_all q; omega
  rw [if_neg this]
theorem dk_rd_in {K : Dk} {r : Int} (h : (K.rd r).2 = true) : 0 ≤ r ∧ r ≤ 6 := by
  unfold Dk.rd at h
  repeat' split at h
  all_goals first | omega | (cases h)
theorem tp_rd_in {K : Tp} {r : Int} (h : (K.rd r).2 = true) : 0 ≤ r ∧ r ≤ 4 := by
  unfold Tp.rd at h
  repeat' split at h
  all_goals first | omega | (cases h)
theorem dk_wr_in {K : Dk} {r v : Int} (h : (K.wr r v).2 = true) : 0 ≤ r ∧ r ≤ 6 := by
  unfold Dk.wr at h
  repeat' split at h
  all_goals first | omega | (cases h)
theorem tp_wr_in {K : Tp} {r v : Int} (h : (K.wr r v).2 = true) : 0 ≤ r ∧ r ≤ 4 := by
  unfold Tp.wr at h
  repeat' split at h
  all_goals first | omega | (cases h)
theorem isL_at {A : Ma} {off : Int} {k : Nat} (hk : k < A.L.length) (h : 0 ≤ off - (512 + 8 * (k : Int)) ∧ off - (512 + 8 * (k : Int)) < 8) : A.isL off = true ∧ ((off - 512) / 8).toNat = k ∧ (off - 512) % 8 = off - (512 + 8 * (k : Int)) := by
  unfold Ma.isL
  refine ⟨?_, by omega, by omega⟩
  rw [decide_eq_true (show 512 ≤ off by omega), decide_eq_true (show off < 512 + 8 * (A.L.length : Int) by omega)]; rfl
theorem isL_no {A : Ma} {off : Int} (h : off < 512 ∨ 512 + 8 * (A.L.length : Int) ≤ off) : A.isL off = false := by
  unfold Ma.isL
  rcases h with h | h
  · rw [decide_eq_false (show ¬ 512 ≤ off by omega)]; rfl
  · rw [decide_eq_false (show ¬ off < 512 + 8 * (A.L.length : Int) by omega), Bool.and_false]
theorem isL_yes {A : Ma} {off : Int} (h : A.isL off = true) : ∃ k : Nat, k < A.L.length ∧ 0 ≤ off - (512 + 8 * (k : Int)) ∧ off - (512 + 8 * (k : Int)) < 8 := by
  unfold Ma.isL at h
  simp only [Bool.and_eq_true, decide_eq_true_eq] at h
  exact ⟨((off - 512) / 8).toNat, by omega, by omega, by omega⟩
theorem dRead_0 (A : Ma) (off : Int) : A.dRead (off - dBase 0) 0 = (A, (A.U.read off).1, (A.U.read off).2) := by rw [show off - dBase 0 = off from Int.sub_zero off]; rfl
theorem dRead_1 (A : Ma) (off : Int) : A.dRead (off - dBase 1) 1 = (if off - 256 = 0 then (A, A.k.read, true) else (A, 0, false)) := rfl
theorem dRead_2 (A : Ma) (off : Int) : A.dRead (off - dBase 2) 2 = (A, (A.K.rd (off - 768)).1, (A.K.rd (off - 768)).2) := rfl
theorem dRead_3 (A : Ma) (off : Int) : A.dRead (off - dBase 3) 3 = (A, (A.T.rd (off - 800)).1, (A.T.rd (off - 800)).2) := rfl
theorem dRead_4 (A : Ma) (off : Int) (k : Nat) : A.dRead (off - dBase (k + 4)) (k + 4) = (if 0 ≤ off - (512 + 8 * (k : Int)) ∧ off - (512 + 8 * (k : Int)) < 8 then (A.setL k ((A.line k).rd (off - (512 + 8 * (k : Int)))).1, ((A.line k).rd (off - (512 + 8 * (k : Int)))).2, true) else (A, 0, false)) := rfl
theorem dWrite_0 (A : Ma) (off v : Int) : A.dWrite (off - dBase 0) v 0 = (if (A.U.write off v).2 = true then ({ A with U := (A.U.write off v).1 }, true) else (A, false)) := by rw [show off - dBase 0 = off from Int.sub_zero off]; rfl
theorem dWrite_1 (A : Ma) (off v : Int) : A.dWrite (off - dBase 1) v 1 = (if off - 256 = 0 then ({ A with k := A.k.write v }, true) else (A, false)) := rfl
theorem dWrite_2 (A : Ma) (off v : Int) : A.dWrite (off - dBase 2) v 2 = (if (A.K.wr (off - 768) v).2 = true then ({ A with K := (A.K.wr (off - 768) v).1 }, true) else (A, false)) := rfl
theorem dWrite_3 (A : Ma) (off v : Int) : A.dWrite (off - dBase 3) v 3 = (if (A.T.wr (off - 800) v).2 = true then ({ A with T := (A.T.wr (off - 800) v).1 }, true) else (A, false)) := rfl
theorem dWrite_4 (A : Ma) (off v : Int) (k : Nat) : A.dWrite (off - dBase (k + 4)) v (k + 4) = (if 0 ≤ off - (512 + 8 * (k : Int)) ∧ off - (512 + 8 * (k : Int)) < 8 then (A.setL k ((A.line k).wr (off - (512 + 8 * (k : Int))) v), true) else (A, false)) := rfl
/-- The device that has the register is the one that answers. -/
theorem rd_hit (A : Ma) (hl : A.L.length ≤ 4) {off : Int} {k : Nat} (hk : k < A.L.length + 4) (h : (A.dRead (off - dBase k) k).2.2 = true) : A.rdR off = A.dRead (off - dBase k) k := by
  match k, hk, h with
  | 0, _, h =>
    rw [dRead_0] at h ⊢
    have hr : 0 ≤ off ∧ off < 80 := by
      rcases Int.lt_or_le off 0 with q | q
      · rw [unread (.inr q)] at h; cases h
      · rcases Int.lt_or_le off 80 with q2 | q2
        · exact ⟨q, q2⟩
        · rw [unread (.inl q2)] at h; cases h
    unfold Ma.rdR
    rw [if_neg (by rw [isL_no (.inl (by omega))]; decide), if_neg (by omega), if_neg (by omega), if_neg (by omega)]
  | 1, _, h =>
    rw [dRead_1] at h ⊢
    by_cases q : off - 256 = 0
    · unfold Ma.rdR
      rw [if_neg (by rw [isL_no (.inl (by omega))]; decide), if_pos (by omega), if_pos q]
    · rw [if_neg q] at h; cases h
  | 2, _, h =>
    rw [dRead_2] at h ⊢
    have := dk_rd_in h
    unfold Ma.rdR
    rw [if_neg (by rw [isL_no (.inr (by omega))]; decide), if_neg (by omega), if_pos (by omega)]
  | 3, _, h =>
    rw [dRead_3] at h ⊢
    have := tp_rd_in h
    unfold Ma.rdR
    rw [if_neg (by rw [isL_no (.inr (by omega))]; decide), if_neg (by omega), if_neg (by omega), if_pos (by omega)]
  | k + 4, hk, h =>
    rw [dRead_4] at h ⊢
    by_cases q : 0 ≤ off - (512 + 8 * (k : Int)) ∧ off - (512 + 8 * (k : Int)) < 8
    · obtain ⟨e1, e2, e3⟩ := isL_at (A := A) (off := off) (k := k) (by omega) q
      unfold Ma.rdR
      rw [if_pos e1, if_pos q, e3]
      unfold Ma.put lnAt
      rw [e2]; rfl
    · rw [if_neg q] at h; cases h
theorem rd_miss (A : Ma) (hl : A.L.length ≤ 4) {off : Int} (h : ∀ k, k < A.L.length + 4 → (A.dRead (off - dBase k) k).2.2 = false) : (A.rdR off).2.2 = false := by
  unfold Ma.rdR
  split
  · rename_i q
    obtain ⟨k, hk, hr⟩ := isL_yes q
    have h0 := h (k + 4) (by omega)
    rw [dRead_4] at h0
    rw [if_pos hr] at h0
    cases h0
  split
  · rename_i q
    have h0 := h 1 (by omega)
    rw [dRead_1] at h0
    rw [if_pos (by omega)] at h0
    cases h0
  split
  · exact h 2 (by omega)
  split
  · exact h 3 (by omega)
  · have h0 := h 0 (by omega)
    rw [dRead_0] at h0
    exact h0
theorem wr_hit (A : Ma) (hl : A.L.length ≤ 4) {off v : Int} {k : Nat} (hk : k < A.L.length + 4) (h : (A.dWrite (off - dBase k) v k).2 = true) : A.wrR off v = A.dWrite (off - dBase k) v k := by
  match k, hk, h with
  | 0, _, h =>
    rw [dWrite_0] at h ⊢
    by_cases q : (A.U.write off v).2 = true
    · have hr : 0 ≤ off ∧ off < 80 := by
        rcases Int.lt_or_le off 0 with q' | q'
        · rw [unwrit (.inr q')] at q; cases q
        · rcases Int.lt_or_le off 80 with q2 | q2
          · exact ⟨q', q2⟩
          · rw [unwrit (.inl q2)] at q; cases q
      unfold Ma.wrR
      rw [if_neg (by rw [isL_no (.inl (by omega))]; decide), if_neg (by omega), if_neg (by omega), if_neg (by omega), if_pos q, q]
    · rw [if_neg q] at h; cases h
  | 1, _, h =>
    rw [dWrite_1] at h ⊢
    by_cases q : off - 256 = 0
    · unfold Ma.wrR
      rw [if_neg (by rw [isL_no (.inl (by omega))]; decide), if_pos (by omega), if_pos q]
    · rw [if_neg q] at h; cases h
  | 2, _, h =>
    rw [dWrite_2] at h ⊢
    by_cases q : (A.K.wr (off - 768) v).2 = true
    · have := dk_wr_in q
      unfold Ma.wrR
      rw [if_neg (by rw [isL_no (.inr (by omega))]; decide), if_neg (by omega), if_pos (by omega), if_pos q, q]
    · rw [if_neg q] at h; cases h
  | 3, _, h =>
    rw [dWrite_3] at h ⊢
    by_cases q : (A.T.wr (off - 800) v).2 = true
    · have := tp_wr_in q
      unfold Ma.wrR
      rw [if_neg (by rw [isL_no (.inr (by omega))]; decide), if_neg (by omega), if_neg (by omega), if_pos (by omega), if_pos q, q]
    · rw [if_neg q] at h; cases h
  | k + 4, hk, h =>
    rw [dWrite_4] at h ⊢
    by_cases q : 0 ≤ off - (512 + 8 * (k : Int)) ∧ off - (512 + 8 * (k : Int)) < 8
    · obtain ⟨e1, e2, e3⟩ := isL_at (A := A) (off := off) (k := k) (by omega) q
      unfold Ma.wrR
      rw [if_pos e1, if_pos q, e3]
      unfold Ma.put lnAt
      rw [e2]; rfl
    · rw [if_neg q] at h; cases h
theorem wr_miss (A : Ma) (hl : A.L.length ≤ 4) {off v : Int} (h : ∀ k, k < A.L.length + 4 → (A.dWrite (off - dBase k) v k).2 = false) : (A.wrR off v).2 = false := by
  unfold Ma.wrR
  split
  · rename_i q
    obtain ⟨k, hk, hr⟩ := isL_yes q
    have h0 := h (k + 4) (by omega)
    rw [dWrite_4] at h0
    rw [if_pos hr] at h0
    cases h0
  split
  · rename_i q
    have h0 := h 1 (by omega)
    rw [dWrite_1] at h0
    rw [if_pos (by omega)] at h0
    cases h0
  split
  · have h0 := h 2 (by omega)
    rw [dWrite_2] at h0
    by_cases q : (A.K.wr (off - 768) v).2 = true
    · rw [if_pos q] at h0; cases h0
    · simpa using q
  split
  · have h0 := h 3 (by omega)
    rw [dWrite_3] at h0
    by_cases q : (A.T.wr (off - 800) v).2 = true
    · rw [if_pos q] at h0; cases h0
    · simpa using q
  · have h0 := h 0 (by omega)
    rw [dWrite_0] at h0
    by_cases q : (A.U.write off v).2 = true
    · rw [if_pos q] at h0; cases h0
    · simpa using q
theorem mod_d64 (v : Int) : v % 65536 / 64 % 2 = v / 64 % 2 := by omega
theorem mod_d128 (v : Int) : v % 65536 / 128 % 2 = v / 128 % 2 := by omega
/-- Of words the devices take the lowest bits. -/
theorem wrR_mod (A : Ma) (off v : Int) : A.wrR off (v % 65536) = A.wrR off v := by
  have e1 : ∀ c : Ck, c.write (v % 65536) = c.write v := fun c => by unfold Ck.write; rw [mod_d64, mod_d128]
  have e2 : ∀ (x : Ln) r, x.wr r (v % 65536) = x.wr r v := fun x r => by unfold Ln.wr; rw [mod_d64, show v % 65536 % 256 = v % 256 by omega]
  have e3 : ∀ (u : Un) r, u.write r (v % 65536) = u.write r v := fun u r => by unfold Un.write; rw [show v % 65536 % 65536 = v % 65536 by omega]
  have e4 : ∀ (K : Dk) r, K.wr r (v % 65536) = K.wr r v := fun K r => by
    unfold Dk.wr Dk.cmd
    rw [mod_d64, show v % 65536 % 2 = v % 2 by omega, show v % 65536 / 2 % 4 = v / 2 % 4 by omega, show v % 65536 % 65536 = v % 65536 by omega, show v % 65536 / 2 % 32768 = v / 2 % 32768 by omega]
  have e5 : ∀ (K : Tp) r, K.wr r (v % 65536) = K.wr r v := fun K r => by
    unfold Tp.wr
    rw [mod_d64, show v % 65536 % 2 = v % 2 by omega, show v % 65536 / 2 % 8 = v / 2 % 8 by omega, show v % 65536 % 65536 = v % 65536 by omega]
  unfold Ma.wrR
  simp only [e1, e2, e3, e4, e5]
end Go.Proofs.YthpnddgfgpacpaaGreat
