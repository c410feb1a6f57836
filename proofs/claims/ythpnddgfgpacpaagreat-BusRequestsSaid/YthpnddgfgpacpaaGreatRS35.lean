import Derived.Test.YthpnddgfgpacpaaGreatRS26
import Derived.Test.YthpnddgfgpacpaaGreatRS34
import Derived.RangeFuncCalls
import Derived.TacticsIn
import Derived.Test.YthpnddgfgpacpaaGreatRS22
import Derived.Test.YthpnddgfgpacpaaGreatRS17
import Derived.Test.YthpnddgfgpacpaaGreatRS06
import Derived.Test.YthpnddgfgpacpaaGreatRS10
import Derived.Test.YthpnddgfgpacpaaGreatRS12
import Derived.Test.YthpnddgfgpacpaaGreatRS19
/-
  Loops over the devices: what they carry. No condition.
-/
namespace Go.Proofs.YthpnddgfgpacpaaGreat
open Go.RowKit Go.Shelf
set_option linter.unusedSimpArgs false
set_option linter.unusedVariables false
set_option maxHeartbeats 4000000
set_option maxRecDepth 100000
attribute [local irreducible] wpQuiet

theorem Sv.of_own2 {X : Nat → Prop} {w : World} {base s n : Nat} {t : TypeId} {v : Value} {xs : List Value} (h : w.ownsRow base t s v n xs) (hX : ∀ b, X b → base ≤ b → ∀ cur, w.heap[b]? = some (.cells cur t (0, 0)) → False) : Sv X w v n xs := fun w' hk => by
  refine Rz.of_own (w := w') (base := base) (s := s) (t := t) ⟨h.1, ?_⟩
  rcases h.2 with h0 | ⟨g, cap, cur, hv, hg, hh, r⟩
  · exact .inl h0
  · exact .inr ⟨g, cap, cur, hv, hg, (hk g (Array.getElem?_eq_some_iff.1 hh).1 (fun hx => hX g hx hg cur hh)).trans hh, r⟩
/-- A machine whose row of lines the call has made. -/
theorem DSt.fresh {X : Nat → Prop} {w0 w : World} {B N : Nat} {A : Ma} {vm vb vl vs vd vt : Value} (hXl : ∀ b, X b → b < N) (hNl : N ≤ w.heap.size) (hX : Bag [(B, 44, A.cells vm vb vl vs vd vt)] w0 w) (hBN : B < N) (hN : w0.heap.size ≤ N) (hm : ∀ g, (g = B ∨ N ≤ g ∧ ∃ cur, w.heap[g]? = some (.cells cur 68 (0, 0))) → ItsX (XY X B g) w vm A.M ∧ ItsX (XY X B g) w vb A.B ∧ StsX (XY X B g) w vs A.K.D.S ∧ ItsX (XY X B g) w vd A.K.D.B ∧ StsX (XY X B g) w vt A.T.R) (ql : w.ownsRow N 68 9 vl A.L.length (A.L.flatMap lnL)) : ∃ g, DSt X w0 B g w A vm vb vl vs vd vt ∧ (g = B ∨ N ≤ g ∧ ∃ cur, w.heap[g]? = some (.cells cur 68 (0, 0))) := by
  have hBl := (hX.all _ _ _ (.head _)).lt
  have hBh := hX.all _ _ _ (.head _)
  rcases ql.2 with ⟨rfl, h0⟩ | ⟨g, cap, cur, rfl, hg, hh, hnc, hm9, hcs, hxs⟩
  · obtain ⟨h1, h2, h3, h4, h5⟩ := hm B (.inl rfl)
    refine ⟨B, ⟨hX, h1, h2, h3, h4, h5, .inl ⟨List.eq_nil_of_length_eq_zero h0, rfl⟩, fun b q => ?_⟩, .inl rfl⟩
    rcases q with q | rfl | rfl
    · exact Nat.lt_of_lt_of_le (hXl b q) hNl
    · exact hBl
    · exact hBl
  · have hgl := (Array.getElem?_eq_some_iff.1 hh).1
    obtain ⟨h1, h2, h3, h4, h5⟩ := hm g (.inr ⟨hg, cur, hh⟩)
    refine ⟨g, ⟨hX, h1, h2, h3, h4, h5, .inr ⟨by omega, by omega, hgl, cap, cur.toList.drop (A.L.length * 9), rfl, hnc, ?_⟩, fun b q => ?_⟩, .inr ⟨hg, cur, hh⟩⟩
    · show w.heap[g]? = some _
      rw [hh, ← hxs, List.take_append_drop]
    · rcases q with q | rfl | rfl
      · exact Nat.lt_of_lt_of_le (hXl b q) hNl
      · exact hBl
      · exact hgl
/-- A row of the call's own, of another type, is read whatever becomes of the machine and its lines. -/
theorem Sv.fresh {X : Nat → Prop} {w : World} {N B g s n : Nat} {t : TypeId} {v : Value} {xs : List Value} (h : w.ownsRow N t s v n xs) (hX : ∀ b, X b → b < N) (hB : B < N) (ht : t ≠ 68) (hg : g = B ∨ N ≤ g ∧ ∃ cur, w.heap[g]? = some (.cells cur 68 (0, 0))) : Sv (XY X B g) w v n xs :=
  Sv.of_own2 h fun b q hb cur e => by
    rcases q with q | rfl | rfl
    · have := hX b q; omega
    · omega
    · rcases hg with rfl | ⟨_, c2, h2⟩
      · omega
      · rw [e] at h2; cases h2; exact ht rfl
theorem DSt.copied {X : Nat → Prop} {w0 w : World} {B N : Nat} {A : Ma} {vm vb vl vs vd vt : Value} (hXl : ∀ b, X b → b < N) (hNl : N ≤ w.heap.size) (hX : Bag [(B, 44, A.cells vm vb vl vs vd vt)] w0 w) (hBN : B < N) (hN : w0.heap.size ≤ N) (qm : w.ownsRow N 3 1 vm A.M.length (A.M.map (Value.int .i64))) (qb : w.ownsRow N 3 1 vb A.B.length (A.B.map (Value.int .i64))) (hF : FrD N w A vl vs vd vt) : ∃ g, DSt X w0 B g w A vm vb vl vs vd vt ∧ (g = B ∨ N ≤ g ∧ ∃ cur, w.heap[g]? = some (.cells cur 68 (0, 0))) :=
  DSt.fresh hXl hNl hX hBN hN (fun g hg => ⟨Sv.fresh qm hXl hBN (by decide) hg, Sv.fresh qb hXl hBN (by decide) hg, Sv.fresh hF.s hXl hBN (by decide) hg, Sv.fresh hF.d hXl hBN (by decide) hg, Sv.fresh hF.t hXl hBN (by decide) hg⟩) hF.l
/-- Other boxes of the call's own. -/
theorem Bag.kpt {R : List (Nat × TypeId × List Value)} {w0 w w' : World} {B g : Nat} (h : Bag R w0 w) (hK : Kpt B g w w') (hR : ∀ b ∈ R, b.1 ≠ B ∧ b.1 ≠ g) (hb : Below w0.heap.size w0 w') : Bag R w0 w' :=
  ⟨fun b t cs hm => (hK.same b (h.all b t cs hm).lt (hR _ hm).1 (hR _ hm).2).trans (h.all b t cs hm), hb, h.lo, h.dis⟩
/-- What a loop carries: the machine as the devices so far have left it; other boxes. -/
def LpI (R : List (Nat × TypeId × List Value)) (X : Nat → Prop) (w0 : World) (B g N : Nat) (A : Ma) (W : World) : Prop := (∃ vm vb vl vs vd vt, DSt X w0 B g W A vm vb vl vs vd vt) ∧ Bag R w0 W ∧ N ≤ W.heap.size
theorem LpI.own {β : Type} {N : Nat} {R : List (Nat × TypeId × List Value)} {X : Nat → Prop} {w0 : World} {B g : Nat} (f : β → Ma) (hN : w0.heap.size ≤ N) : OwnFrom N (fun (s : β) W => LpI R X w0 B g N (f s) W) :=
  fun s W W' row hs hg hr => by
    obtain ⟨⟨vm, vb, vl, vs, vd, vt, hS⟩, hB, hz⟩ := hs
    have hr' : ∀ r, row = some r → w0.heap.size ≤ r ∧ NoCells W r := fun r e => ⟨Nat.le_trans hN (hr r e).1, (hr r e).2⟩
    exact ⟨⟨_, _, _, _, _, _, hS.grown hg hr'⟩, hB.grown hg hr', Nat.le_trans hz hg.size⟩
theorem Kpt.from {B g N : Nat} {W W' : World} (h : Kpt B g W W') (hB : B < N) (hg : g < N) : KeepsFrom N W W' :=
  ⟨h.size, fun k o hk ho _ => (h.same k (Array.getElem?_eq_some_iff.1 ho).1 (by omega) (by omega)).trans ho⟩
theorem Bag.two {a b : Nat × TypeId × List Value} {w0 w : World} (ha : Bag [a] w0 w) (hb : Bag [b] w0 w) (hne : a.1 ≠ b.1) : Bag [a, b] w0 w := by
  refine ⟨fun B t cs hm => ?_, ha.below, fun x hx => ?_, ?_⟩
  · rcases List.mem_cons.1 hm with e | e
    · exact ha.all B t cs (by rw [← e]; exact .head _)
    · exact hb.all B t cs e
  · rcases List.mem_cons.1 hx with e | e
    · rw [e]; exact ha.lo a (.head _)
    · exact hb.lo x e
  · simp only [List.map_cons, List.map_nil, List.nodup_cons, List.mem_cons, List.not_mem_nil, or_false, not_false_eq_true, List.nodup_nil, and_true]
    exact hne
/-- X, and the box of the result. -/
def XR (X : Nat → Prop) (r b : Nat) : Prop := X b ∨ b = r
theorem three_mv (w : World) (c1 : List Value) (v : Value) : Bag [(w.heap.size, 44, c1), (w.heap.size + 1, 3, [v]), (w.heap.size + 2, 44, mzL)] w (((w.alloc (.cells c1.toArray 44)).alloc (.cells #[v] 3)).alloc (.cells mzL.toArray 44)) := by
  have h := (((Bag.nil w).new 44 c1).new 3 [v]).new 44 mzL
  simp only [World.size_alloc] at h
  exact h.perm (((List.Perm.swap _ _ _).trans (.cons _ (.swap _ _ _))).trans (.swap _ _ _))
/-- The result lies in another box: what has been reached is what is returned. -/
theorem MaV.to {X Y : Nat → Prop} {w w' : World} {A : Ma} {vm vb vl vs vd vt : Value} (h : MaV X w A vm vb vl vs vd vt) (hk : ∀ b, b < w.heap.size → ¬ X b → w'.heap[b]? = w.heap[b]?) (hY : ∀ b, Y b → X b) : MaV Y w' A vm vb vl vs vd vt := ⟨Sv.off h.m hk fun b _ q => hY b q, Sv.off h.b hk fun b _ q => hY b q, Sv.off h.l hk fun b _ q => hY b q, Sv.off h.s hk fun b _ q => hY b q, Sv.off h.d hk fun b _ q => hY b q, Sv.off h.t hk fun b _ q => hY b q⟩
theorem MaV.grown {X : Nat → Prop} {w w' : World} {A : Ma} {vm vb vl vs vd vt : Value} {row : Option Nat} (h : MaV X w A vm vb vl vs vd vt) (hg : w.grownBy w' row) (hr : ∀ r, row = some r → NoCells w r) : MaV X w' A vm vb vl vs vd vt := ⟨Sv.grown h.m hg hr, Sv.grown h.b hg hr, Sv.grown h.l hg hr, Sv.grown h.s hg hr, Sv.grown h.d hg hr, Sv.grown h.t hg hr⟩
theorem kpB_put {B : Nat} {w : World} (hB : B < w.heap.size) (W : World) (l : Nat) (o o' : Obj) (hl : w.heap.size ≤ l) (_ : W.heap[l]? = some o) (_ : o.isCells = false) (_ : o.isWalk = false) : KpB B W (W.putObj l o') := World.putObj_heap_other (by omega)
theorem fold_inv {α β : Type} {P : β → Prop} (f : β → α → β) (h : ∀ b a, P b → P (f b a)) : ∀ (l : List α) (b : β), P b → P (l.foldl f b)
  | [], _, hb => hb
  | a :: l, b, hb => fold_inv f h l (f b a) (h b a hb)
/-- The machine stays valid, and has its lines, from device to device. -/
def Ma.fine (n : Nat) (A : Ma) : Prop := A.ok ∧ A.right = true ∧ A.L.length = n
theorem fine_acc {n : Nat} {A : Ma} (v : Int) (h : A.fine n) (x : Fin (n + 4)) : (A.dAcc v x.val).fine n := ⟨dAcc_ok h.1 v _, dAcc_right h.2.1 v (by rw [h.2.2]; exact x.isLt), (dAcc_len v A _).trans h.2.2⟩
theorem fine_reset {n : Nat} {A : Ma} (h : A.fine n) (x : Fin (n + 4)) : (A.dReset x.val).fine n := ⟨dReset_ok h.1 _, dReset_right h.2.1 (by rw [h.2.2]; exact x.isLt), (dReset_len A _).trans h.2.2⟩
theorem sdev_fold {n : Nat} {xs : List (Fin (n + 4))} (h : SDev n xs) (f : Ma → Nat → Ma) (A : Ma) : xs.foldl (fun B x => f B x.val) A = (List.range (n + 4)).foldl f A := by
  rw [← show xs.map Fin.val = List.range (n + 4) from h, List.foldl_map]
theorem Blk.loadVarC {P : Program} {t T : TypeId} {w : World} {B k : Nat} {cs : List Value} {v : Value} (h : Blk t w B cs) (hk : cs[k]? = some v) (hagg : ∀ w, (isAgg T).run P w = .ok false w) : (Go.loadVar T ⟨B, k, none⟩).run P w = .ok v w := by
  simp only [Go.loadVar, Sem.run_bind, hagg, Result.andThen_ok, Bool.false_eq_true, if_false]
  show (Sem.load _ _ _).run P w = _
  simp only [Sem.run, h.cell hk]
theorem fewM_of {A : Ma} (hR : A.right = true) : A.fewM := by
  obtain ⟨h1, _, h3, _, _, h6, h7⟩ := Ma.parts hR
  have h8 := dk_lens h6
  have h9 := mem_lens h3
  have h10 := tp_len h7
  exact ⟨⟨by omega, h8.1, h8.2, h10⟩, h9.1, h9.2⟩
end Go.Proofs.YthpnddgfgpacpaaGreat
/-
  XHoS's region in a round of a range over a function, at the fence that asks nothing. General. No condition.
-/
namespace Go.Proofs.YthpnddgfgpacpaaGreat
open Go Go.RowKit
set_option linter.unusedVariables false
set_option linter.unusedSimpArgs false

section
variable {P : Program} {ops : Array Oper} {Q : Exit → Act → World → Prop}
/-- An operation that is no defer statement does in a round what it does everywhere. -/
theorem wpIn_of_wp {o : Oper} {a : Act} {w : World} {K : Act → World → Prop} {n l : Nat} (hd : ∀ c, o.op ≠ .defer c) (hQ : ¬ LetsOut Q) (h : o.wp P a w K Q ∨ (o.asks P a w ∧ LetsOut Q)) : o.wpIn (Fence.wide.inRound l) n P a w K Q := by
  rcases h with h | h
  case inr => exact absurd h.2 hQ
  refine ⟨fun _ _ => trivial, ?_⟩
  show o.uponIn _ n P a K Q ((Oper.semAt (some l) a.eval o).run P w)
  rw [Oper.semAt_some l a.eval o hd]
  unfold Oper.wp at h
  generalize (execOp a.eval o).run P w = r at *
  cases r with
  | ok x w' =>
    cases x with
    | value v => exact h
    | skip => exact h
    | defer d => exact h
    | enter f args =>
      refine ⟨fun q => (by cases q), ?_⟩
      have h2 : Calls P f args w' fun
        | .returned v, w'' => K (a.put o.dst v) w''
        | .panicked chain, w'' => Q (.panic chain) a w''
        | .outgrown, _ => LetsOut Q := h
      exact CallsIn.inRound l (callsIn_wide.2 h2)
    | row row args =>
      refine ⟨fun q => (by cases q), fun c cs _ => ?_⟩
      obtain ⟨v, w2, h1, h2⟩ := (show Rows P row args w' fun v w'' => K (a.put o.dst v) w'' from h) c cs
      exact ⟨v, w2, h1, stepsIn_wide.2 h2⟩
    | _ => exact (show False from h).elim
  | halt s w' =>
    cases s with
    | panic v => exact h
    | _ => exact (show False from h).elim
def noDefer (l : List Oper) : Bool := l.all fun o => match o.op with | .defer _ => false | _ => true
theorem noDefer_at {lo : List Oper} (h : noDefer lo = true) {i : Nat} {o : Oper} (ho : lo[i]? = some o) (c) : o.op ≠ .defer c := fun e => by
  unfold noDefer at h
  rw [List.all_eq_true] at h
  have := h o (List.mem_of_getElem? ho)
  rw [e] at this
  cases this
theorem wpOpsIn_of_wpOps {lo : List Oper} (hd : noDefer lo = true) (hQ : ¬ LetsOut Q) (n r : Nat) : ∀ (l : List Nat) (a : Act) (w : World), wpOps P lo.toArray Q l a w → wpOpsIn (Fence.wide.inRound r) n P lo.toArray Q l a w
  | [], a, w, h => h
  | i :: l, a, w, h => by
    simp only [wpOps, wpOpsIn] at h ⊢
    cases ho : lo.toArray[i]? with
    | none => rw [ho] at h; exact wpOpsIn_of_wpOps hd hQ n r l a w h
    | some o =>
      rw [ho] at h
      have hnd := fun c => noDefer_at (i := i) hd (by rw [← List.getElem?_toArray]; exact ho) c
      by_cases hw : Region.wanted o (yielded lo.toArray a.tmps) = true
      · simp only [hw, if_true] at h ⊢
        refine wpIn_of_wp hnd hQ ?_
        rcases h with h | h
        · exact .inl (Oper.wp_mono (fun a w h => wpOpsIn_of_wpOps hd hQ n r l a w h) h)
        · exact .inr h
      · simp only [hw, if_false, Bool.false_eq_true] at h ⊢
        exact ⟨fun _ _ => trivial, wpOpsIn_of_wpOps hd hQ n r l _ w h⟩
theorem wpIn_region_round {id n r : Nat} {a : Act} {w : World} {lo : List Oper} (hm : P.follows .mixedOrders = true) (hd : noDefer lo = true) (hQ : ¬ LetsOut Q)
    (h : wpAny P .any lo.toArray Q lo.toArray.size (Array.replicate lo.toArray.size false) a w.drew) : (Code.region id lo.toArray true).wpIn (Fence.wide.inRound r) n P Q a w :=
  wpIn_region_draw fun t => by
    simp only [Region.schedule, hm, Bool.true_or, if_true]
    exact wpOpsIn_of_wpOps hd hQ n r _ a _ (wpAny_sound lo.toArray.size t _ a _ h)
theorem region_hoistR {id m r : Nat} {a : Act} {w : World} {l : List Oper} (S : World → Prop) (n : Nat) (ord : List (Nat × Bool)) (hm : P.follows .mixedOrders = true)
    (hB : (Region.noSelect l.toArray && decide (n < l.toArray.size) && Region.sinkB .any l.toArray n && Region.chainB .any l.toArray n && decide (ord.length = n) && hoB .any l.toArray n (l.toArray.size - n) ord (Array.replicate l.toArray.size false)) = true)
    (hd : noDefer l = true) (hQo : ¬ LetsOut Q) (hQ : ∀ c a d v w, Q (.panic c) (a.put d v) w → Q (.panic c) a w) (hS : S w.drew)
    (h : wpHp P l.toArray Q S (fun a' w' => wpList P l.toArray Q (l.drop n) a' w') ord a w.drew) : (Code.region id l.toArray true).wpIn (Fence.wide.inRound r) m P Q a w := by
  simp only [Bool.and_eq_true, decide_eq_true_eq] at hB
  obtain ⟨⟨⟨⟨⟨hsel, hn⟩, hs⟩, hc⟩, hlen⟩, hho⟩ := hB
  have hdl : (l.drop n).length = l.toArray.size - n := by simp
  have inv0 : HeadInv .any l.toArray n (Array.replicate l.toArray.size false) :=
    ⟨by simp, fun j oj _ hl => (by rw [getD_replicate_false] at hl; cases hl), fun t _ ht => getD_in (by simpa using ht) (getD_replicate_false _ _)⟩
  have H := wpHT_of_hp (md := .any) (Q := Q) (g := l.toArray.size - n) hsel hs hc hn hQ ord _ a w.drew inv0 hho hS h
  refine wpIn_region_round hm hd hQo ?_
  have := wpAny_of_HT (Q := Q) (g := l.toArray.size - n) (fun listed a' w' hL => by
    have := wpAny_of_seq (md := .any) (Q' := Q) (l.drop n) n listed a' w' (fun j => by simp [List.getElem?_drop]) (by rw [hdl]; exact hL.1) hL.2
    rwa [hdl] at this) _ _ _ _ H
  rw [hlen, show n + (l.toArray.size - n) = l.toArray.size by omega] at this
  exact this
theorem wpHp_op {S : World → Prop} {F : Act → World → Prop} {i : Nat} {lo : List Oper} {l : List (Nat × Bool)} {a : Act} {w : World} {o : Oper} (ho : lo[i]? = some o)
    (h : ∀ K : Act → World → Prop, (∀ a' w', S w' → wpHp P lo.toArray Q S F l a' w' → K a' w') → wpList P lo.toArray (Exit.then K Q) [o] a w) : wpHp P lo.toArray Q S F ((i, true) :: l) a w :=
  wpOp_list (by rw [List.getElem?_toArray]; exact ho) (h _ fun _ _ h1 h2 => ⟨h1, h2⟩)
end
end Go.Proofs.YthpnddgfgpacpaaGreat
/-
  New of the reference of layer 20, at (256, 1, 1).
-/
namespace Go.Proofs.YthpnddgfgpacpaaGreat
open Go.RowKit
set_option linter.unusedSimpArgs false
set_option linter.unusedVariables false
set_option maxHeartbeats 4000000
set_option maxRecDepth 100000
attribute [local irreducible] wpQuiet

section
variable {ops : Array Oper} {rest : List Oper} {o : Oper} {a : Act} {w w1 : World} {Q : Exit → Act → World → Prop} {T : TypeId} {z : List Value}
theorem at_bd18 {l : List Oper} {T ty : TypeId} {xs : Array (Nat × Operand)} {dst : Option Tmp} {pos : String} {after : Array Edge} {g : Option (Nat × Bool)} (h : wpList Tryz.prog ops Q ({ dst := dst, op := .build T xs, type := ty, pos := pos, after := after, guard := g } :: l) a w) : wpList Tryz.prog ops Q ({ dst := dst, op := .build T xs, type := ty, pos := pos, after := after, guard := g } :: l) a w := h
theorem bld18 {xs : Array (Nat × Operand)} (v : Value) (hop : o.op = Op.build T xs) (hw : Region.wanted o (yielded ops a.tmps) = true) (hrun : ∀ w, (Instr.build T (xs.map fun p => (p.1, a.eval p.2))).run Tryz.prog w = .ok v w) (h : wpList Tryz.prog ops Q rest (a.put o.dst v) w) : wpList Tryz.prog ops Q (o :: rest) a w :=
  BigFrame.wpList_want hw fun _ hK => by
    unfold Oper.wp execOp
    simp only [hop, hrun, Sem.run_bind, Sem.run_pure, Result.andThen_ok]
    exact hK _ _ h
end
theorem one18 {v u : Value} (h1 : v.oneCell' = true) (h2 : u.oneCell' = true) : ∀ x ∈ ([v, u] : List Value), x.oneCell' = true := by
  intro x hx
  simp at hx
  rcases hx with rfl | rfl <;> assumption
def XN18 (X : Nat → Prop) (lo n b : Nat) : Prop := X b ∨ (lo ≤ b ∧ b < n)
theorem xn18 {X : Nat → Prop} {lo n : Nat} (hXl : ∀ b, X b → b < lo) (hn : lo ≤ n) : ∀ b, XN18 X lo n b → b < n := fun b q => by
  rcases q with q | q
  · have := hXl b q; omega
  · exact q.2
theorem xr_out {X : Nat → Prop} {n b : Nat} (hb : b < n) (q : XR X n b) : X b := by
  rcases q with q | rfl
  · exact q
  · omega
theorem aggD18 (w : World) : (isAgg 38).run Tryz.prog w = .ok true w := by kernel_rfl
theorem sizD18 (w : World) : (sizeOf 38).run Tryz.prog w = .ok 2 w := by kernel_rfl
def ma0 : Ma := ⟨List.replicate 10 (.int .i64 0), newL 256, [], Un.z, (newK 100).1, [Ln.new], Dk.new (newV 1).1, (newT []).1, 0, false, false, 0, false⟩
def ma1 (K : Dk) (c : Ck) (T : Tp) : Ma := ⟨List.replicate 10 (.int .i64 0), newL 256, [], Un.z, c, [], K, T, 0, false, false, 0, false⟩
theorem ma1_ok (K : Dk) (c : Ck) (T : Tp) : (ma1 K c T).ok := ⟨rfl, fun v hv => by rw [List.eq_of_mem_replicate hv]; rfl, rfl⟩
theorem ma0_ok : ma0.ok := ⟨rfl, fun v hv => by rw [List.eq_of_mem_replicate hv]; rfl, rfl⟩
theorem ma0_right : ma0.right = true := by decide +kernel
theorem rnewM_any (w : World) (X : Nat → Prop) (hXl : ∀ b, X b → b < w.heap.size) : Calls Tryz.prog 27 #[.int .i64 256, .int .i64 1, .int .i64 1] w fun e' w' => ∃ x, e' = .returned (.tuple #[x, .int .i64 0]) ∧ MaX X w' x ma0 ∧ Below w.heap.size w w' := by
  have hX := (Bag.nil w).new 44 mzL
  have h8 := fun wz => rnew_any 256 wz
  rw [show newE 256 = 0 from by decide +kernel] at h8
  have hv2 : (newV 1).2 = 0 := by decide +kernel
  have h15 := fun wz (X1 : Nat → Prop) (h : ∀ b, X1 b → b < wz.heap.size) => rnewD_any 1 wz X1 h
  have h16 := fun (vs vb : Value) wz (X1 : Nat → Prop) (h : ∀ b, X1 b → b < wz.heap.size) (h1 : Sts wz vs (newV 1).1.S) (h2 : Its wz vb (newV 1).1.B) => rnewK_any (newV 1).1 (by decide +kernel) (by decide +kernel) vs vb wz X1 h h1 h2
  have h17 := fun wz (X1 : Nat → Prop) (h : ∀ b, X1 b → b < wz.heap.size) => rnewT_any [] (by decide) (.slice none 0 0) wz X1 h (Sv.nil X1 wz).now
  rw [show (newT []).2 = 0 from by decide +kernel] at h17
  have h13 := fun wz => rnew_any_13 100 wz
  have h14 := fun wz => rnewL_any wz
  rw [hv2] at h15
  go_enter Tryz.func27, Tryz.ntmps27
  go_upto_region 1 with (first | ((with_reducible refine at_alloc18 ?_); refine wpList_allocM rfl rfl ?_))
  generalize (w.alloc (Obj.cells mzL.toArray 44)) = wQ at hX ⊢
  have hwQ := hX.below.size
  go_wp2_with (first | (go_at_call 66; (with_reducible refine (h8 _).mono ?_); rintro e' wc ⟨rm, rfl, qm, hbb⟩; replace hX := hX.step hbb; obtain ⟨Am, cm, rfl, _, _⟩ := Rw.of_own qm; clear hbb) | (go_at_call 67; have hX1l : ∀ b, XR X w.heap.size b → b < wc.heap.size := (fun b q => by rcases q with q | rfl; (have h1 := hXl b q; have h2 := hX.below.size; omega); exact bag_lt hX); (with_reducible refine (h15 _ _ hX1l).mono ?_); clear hX1l; rintro e' w5 ⟨x, rfl, ⟨vs, vb, rfl, hs, hb⟩, hbb⟩; replace hX := hX.step hbb; replace qm := own_step qm hbb; have hX5 := hbb.size; have p1 := rz_one hs.now; have p2 := rz_one hb.now; clear hbb) | ((with_reducible refine at_st 38 ?_); refine stn hX aggD18 sizD18 (one18 p1 p2) (hn := rfl) (hm := rfl) ?_; intro w6 hY hb6; replace hX := hY; replace qm := own_step qm hb6; replace hs := Sv.below hs hb6; replace hb := Sv.below hb hb6; have hX6 := hb6.size; clear hY hb6) | ((with_reducible refine at_ld 38 ?_); refine ldw (hn := rfl) hX aggD18 sizD18 ?_) | (go_at_call 68; have hN06 := bag_lt hX.swap; have hx6 := xn18 hXl hX.below.size; have hc6 := h16 _ _ _ _ hx6 hs.now hb.now; (with_reducible refine hc6.mono ?_); clear hc6; rintro e' w7 ⟨x, rfl, ⟨us, ub, rfl, hs2, hb2⟩, hbb⟩; replace hX := hX.step hbb; replace qm := own_step qm hbb; have hX7 := hX.below.size; have p1 := rz_one hs2.now; have p2 := rz_one hb2.now; clear hbb hs hb hx6) | ((with_reducible refine at_bd18 ?_); refine bld18 (.agg ((ma1 (Dk.new (newV 1).1) Ck.z Tp.z).cells (.slice Am (newL 256).length cm) (.slice none 0 0) (.slice none 0 0) us ub (.slice none 0 0)).toArray) rfl rfl (fun _ => by kernel_rfl) ?_) | ((with_reducible refine at_alloc18 ?_); refine wpList_allocM rfl rfl ?_) | ((with_reducible refine at_st 44 ?_); refine stn (zs := mzL) hX aggM sizM (Ma.cone (A := ma1 (Dk.new (newV 1).1) Ck.z Tp.z) (vm := .slice Am (newL 256).length cm) (vb := .slice none 0 0) (vl := .slice none 0 0) (vs := us) (vd := ub) (vt := .slice none 0 0) (ma1_ok _ _ _) rfl rfl rfl p1 p2 rfl) ?_ (hn := Ma.clen (ma1_ok _ _ _)) (hm := mzL_len); intro w8 hY hb8; replace hX := hY; replace qm := own_step qm hb8; have hs3 := Sv.weak hs2 hb8 (fun b hb q => xr_out hb q); have hb3 := Sv.weak hb2 hb8 (fun b hb q => xr_out hb q); have hX8 := bag_lt hX; clear hY hb8 hs2 hb2) | (go_at_call 69; (with_reducible refine (h13 _).mono ?_); rintro e' w9 ⟨rfl, hbb⟩; replace hX := hX.step hbb; replace qm := own_step qm hbb; replace hs3 := Sv.below hs3 hbb; replace hb3 := Sv.below hb3 hbb; have hX9 := hbb.size; clear hbb) | ((with_reducible refine at_st 34 ?_); refine stp1 hX aggK_13 sizK_13 (Ma.put_k (k' := (newK 100).1) (A := ma1 (Dk.new (newV 1).1) Ck.z Tp.z) (ma1_ok _ _ _)) rfl (by rw [Ma.clen (ma1_ok _ _ _)]; decide) (ck_one _) ?_; intro w10 hY hkS; replace qm := own_over hX qm (by decide) hkS; replace hs3 := Sv.over18 hs3 hkS (.inr rfl); replace hb3 := Sv.over18 hb3 hkS (.inr rfl); have hX10 := size_of_same hkS (hY.all _ _ _ (.head _)); clear hX; have hX : Bag ((_, _, (ma1 (Dk.new (newV 1).1) (newK 100).1 Tp.z).cells _ _ _ _ _ _) :: _) w w10 := hY; clear hY hkS) | (go_at_call 70; have hx7 := xn18 hXl hX.below.size; (with_reducible refine (h17 _ _ hx7).mono ?_); rintro e' w11 ⟨x, rfl, ⟨ut, rfl, ht⟩, hbb⟩; replace hX := hX.step hbb; replace qm := own_step qm hbb; replace hs3 := Sv.below hs3 hbb; replace hb3 := Sv.below hb3 hbb; have hX11 := hbb.size; have p3 := rz_one ht.now; clear hbb hx7) | ((with_reducible refine at_st 42 ?_); refine stp1 hX aggT sizT (Ma.put_t (T' := (newT []).1) (A := ma1 (Dk.new (newV 1).1) (newK 100).1 Tp.z) (ma1_ok _ _ _)) rfl (by rw [Ma.clen (ma1_ok _ _ _)]; decide) (tpL_one p3) ?_; intro w12 hY hkS; replace qm := own_over hX qm (by decide) hkS; replace hs3 := Sv.over18 hs3 hkS (.inr rfl); replace hb3 := Sv.over18 hb3 hkS (.inr rfl); replace ht := Sv.over18 ht hkS (.inr ⟨by omega, by omega⟩); have hX12 := size_of_same hkS (hY.all _ _ _ (.head _)); clear hX; have hX : Bag ((_, _, (ma1 (Dk.new (newV 1).1) (newK 100).1 (newT []).1).cells _ _ _ _ _ _) :: _) w w12 := hY; clear hY hkS))
  replace hX := hX.swap.drop1
  have hN0 : w.heap.size < w12.heap.size := bag_lt hX.swap
  have hN2 : w7.heap.size < w12.heap.size := bag_lt hX
  refine wp_loop_rounds 2 ?_
  rw [rounds_succ]
  go_wp2_with fail
  have hd := hX.drew
  refine region_hoistS (fun w' => Bag [(w7.heap.size, 44, ((ma1 (Dk.new (newV 1).1) (newK 100).1 (newT []).1).cells (.slice Am (newL 256).length cm) (.slice none 0 0) (.slice none 0 0) us ub ut)), (w.heap.size, 44, mzL)] w w') 5 [(0, false), (1, false), (2, true), (3, true), (4, true)] (by kernel_rfl) (by kernel_rfl) (fun _ _ dd _ _ h => by cases dd <;> exact h) hd ?_
  iterate 2
    refine wpHp_q' rfl rfl (fun KK hKK => ?_)
    apply Exists.intro
    refine ⟨fun wq hq => ?_, hKK _ ?_⟩
    · try dsimp only at hq
      first
        | exact run_load_op 35 _ _ rfl rfl ((hq.all _ _ _ (.head _)).loadCell (get_l (Ma.len (ma1_ok _ _ _) _ _ _)) slL_cell)
        | (unfold execOp; go_simp; with_reducible rfl)
    clear hKK KK
    simp only [Act.put, List.setIfInBounds_toArray, List.set_cons_zero, List.set_cons_succ]
  refine wpHp_call rfl rfl (fun KK hKK => ?_)
  unfold Oper.semiAt
  go_simp
  simp only [semiUpon]
  refine ⟨trivial, ?_⟩
  refine (h14 _).mono ?_
  rintro e' wc ⟨rfl, hbb⟩
  have hXc := hd.step hbb
  refine ⟨_, rfl, hKK _ _ hXc ?_⟩
  clear hKK KK
  simp only [Act.put, List.setIfInBounds_toArray, List.set_cons_zero, List.set_cons_succ]
  refine wpHp_op rfl (fun KK hKK => ?_)
  refine wpList_sliceLn (y := Ln.new) rfl _ rfl rfl rfl ?_
  intro wl hbl hcel
  have hXa := hXc.step hbl
  refine wpList_end (hKK _ _ hXa ?_)
  clear hKK KK
  simp only [Act.put, List.setIfInBounds_toArray, List.set_cons_zero, List.set_cons_succ]
  have hball : Below w12.heap.size w12 wl := ((Below.refl w12.heap.size w12).drew.trans (hbb.mono (Nat.le_refl _))).trans (hbl.mono hbb.size)
  refine wpHp_op rfl (fun KK hKK => ?_)
  refine wpList_appLn rfl (.tmp 58) (.tmp 60) rfl w12.heap.size _ 0 [] rfl (World.ownsRow_nil _ _ _ _) _ 1 1 (lnL Ln.new) rfl rfl hcel (lnL_one _) (by omega) hball.size ?_
  intro v2 w2 ho3 hb2
  have hX2 := hXa.stepN hb2 (by intro q hq; simp only [List.mem_cons, List.not_mem_nil, or_false] at hq; rcases hq with rfl | rfl <;> simp <;> omega) (by omega)
  refine wpList_end (hKK _ _ hX2 ?_)
  clear hKK KK
  have hbt := hball.trans hb2
  simp only [Act.put, List.setIfInBounds_toArray, List.set_cons_zero, List.set_cons_succ]
  refine wpHp_nil ?_
  simp only [List.drop_succ_cons, List.drop_zero]
  obtain ⟨Al, cl, rfl, _, _⟩ := Rw.of_own ho3
  replace qm := own_step qm hbt
  replace hs3 := Sv.below hs3 hbt
  replace hb3 := Sv.below hb3 hbt
  replace ht := Sv.below ht hbt
  clear hX hd hXc hXa hb2 hbt hball hbl hbb
  go_wp2_with (first | ((with_reducible refine at_st 35 ?_); refine stk1 hX2 siz_sL18 (Ma.set_l (A := ma1 (Dk.new (newV 1).1) (newK 100).1 (newT []).1) (ma1_ok _ _ _) [Ln.new] _) (by rw [Ma.clen (ma1_ok _ _ _)]; decide) rfl ?_; intro w13 hY hkS))
  have qm3 := own_over hX2 qm (by decide) hkS
  have hl3 := own_over hX2 ho3 (by decide) hkS
  replace hs3 := Sv.over18 hs3 hkS (.inr rfl)
  replace hb3 := Sv.over18 hb3 hkS (.inr rfl)
  replace ht := Sv.over18 ht hkS (.inr ⟨by omega, by omega⟩)
  have hX : Bag [(w7.heap.size, 44, ma0.cells (.slice Am (newL 256).length cm) (.slice none 0 0) (.slice Al 1 cl) us ub ut), (w.heap.size, 44, mzL)] w w13 := hY
  clear hX2 hY hkS qm ho3
  rw [rounds_succ]
  go_wp2_with (first | ((with_reducible refine at_ld 44 ?_); refine ldw (hn := Ma.clen ma0_ok) hX aggM sizM ?_) | ((with_reducible refine at_st 44 ?_); refine stw2 hX aggM sizM (Ma.cone ma0_ok rfl rfl rfl p1 p2 p3) (hn := Ma.clen ma0_ok) (hc := mzL_len) ?_; intro w14 hY hk14))
  have hm4 := own_over hX.swap qm3 (by decide) hk14
  have hl4 := own_over hX.swap hl3 (by decide) hk14
  replace hs3 := Sv.over18 hs3 hk14 (.inl (.inr ⟨by omega, by omega⟩))
  replace hb3 := Sv.over18 hb3 hk14 (.inl (.inr ⟨by omega, by omega⟩))
  replace ht := Sv.over18 ht hk14 (.inr ⟨by omega, by omega⟩)
  exact bodyPost_ret (results_ct (by rfl) rfl ((hY.all _ _ _ (.tail _ (.head _))).loadVar (Ma.clen ma0_ok) aggM sizM)) rfl ⟨_, rfl, ⟨_, _, _, _, _, _, rfl, Sv.of_own hm4 (fun b q => by have := hXl b q; omega), Sv.nil X _, Sv.of_own hl4 (fun b q => by have := hXl b q; omega), Sv.less18 hs3 fun b q => .inl (.inl q), Sv.less18 hb3 fun b q => .inl (.inl q), Sv.less18 ht fun b q => .inl q⟩, hY.below⟩
end Go.Proofs.YthpnddgfgpacpaaGreat
