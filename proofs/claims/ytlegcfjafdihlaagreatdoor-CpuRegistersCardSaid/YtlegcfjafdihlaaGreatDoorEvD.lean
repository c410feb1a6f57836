/-
  The evaluator of calls at given arguments, and its soundness: part D. It speaks of any program.
-/
import Derived.Test.YtlegcfjafdihlaaGreatDoorEvC
namespace Go.Proofs.YtlegcfjafdihlaaGreatDoor.Ev
open Go.RowKit
set_option linter.unusedSimpArgs false
set_option linter.unusedVariables false

section
variable {d : Nat} {P : Program} {G : Env} {o : Oper} {a : Act} {w w' : World} {K : Act → World → Prop} {Q : Exit → Act → World → Prop}
theorem wp_val {u : Value} (h : (execOp a.eval o).run P w = .ok (.value u) w') (hk : K (a.put o.dst u) w') : o.wp P a w K Q := by
  unfold Oper.wp; rw [h]; exact hk
theorem wp_skp (h : (execOp a.eval o).run P w = .ok .skip w') (hk : K (a.put o.dst undef) w') : o.wp P a w K Q := by
  unfold Oper.wp; rw [h]; exact hk
def OpOk (P : Program) (G : Env) (d : Nat) (T : Tri Value) (H : Hp) (nx : Nat) (o : Oper) (v : Value) (H' : Hp) (nx' S W : Nat) : Prop :=
  ∀ (ρ : Env) (h : AH) (w : World) (a : Act), Good G ρ h w → (∀ n, S.testBit n = true → h n = hp H n) → (∀ n, nx ≤ n → n < nx' → ρ n = none) →
    (∀ x ∈ o.op.operands, R ρ (opnd d T x) (a.eval x)) → ∀ (K : Act → World → Prop) (Q : Exit → Act → World → Prop),
      (∀ ρ' u w', Ev1 G ρ h w nx nx' W (hp H') ρ' w' → R ρ' v u → K (a.put o.dst u) w') → o.wp P a w K Q
structure Stp (H : Hp) (nx : Nat) (H' : Hp) (nx' W : Nat) : Prop where
  le : nx ≤ nx'
  keep : ∀ n, W.testBit n = false → hp H' n = hp H n
  par : nx % 2 = 0 → nx' % 2 = 0
theorem Stp.refl (H : Hp) (nx : Nat) : Stp H nx H nx 0 := ⟨Nat.le_refl _, fun _ _ => rfl, id⟩
theorem Stp.set {H : Hp} {nx nx' n : Nat} {b : Option AB} (hl : nx ≤ nx') (hp' : nx % 2 = 0 → nx' % 2 = 0) (hn : n < 2 ^ dep) : Stp H nx (H.set dep n b) nx' (bit n) :=
  ⟨hl, fun k hk => by
    rw [hp_set H n b hn]
    have : k ≠ n := fun e => by have := (testBit_bit n k).2 e; rw [hk] at this; cases this
    simp [this], hp'⟩
theorem R_undef {ρ : Env} : R ρ undef undef := .flat _ rfl

/-- An operation that changes nothing. -/
theorem opOk_quiet {T : Tri Value} {H : Hp} {nx S : Nat} {v : Value} (hq : ∀ (ρ : Env) (h : AH) (w : World) (a : Act), Good G ρ h w → (∀ n, S.testBit n = true → h n = hp H n) →
    (∀ x ∈ o.op.operands, R ρ (opnd d T x) (a.eval x)) → ∃ u, (execOp a.eval o).run P w = .ok (.value u) w ∧ R ρ v u) : OpOk P G d T H nx o v H nx S 0 := by
  intro ρ h w a g hS hf hx K Q hK
  obtain ⟨u, hu, hr⟩ := hq ρ h w a g hS hx
  exact wp_val hu (hK ρ u w (Ev1.refl g nx _) hr)
theorem add_none (b o j : Nat) : (⟨b, o, none⟩ : Addr).add j = ⟨b, o + j, none⟩ := by unfold Addr.add; split <;> simp_all
theorem BlkR.cell {ρ : Env} {l : Loc} {cs : List Value} {e : TypeId} {es : Nat} (h : BlkR ρ w l (.row cs e es)) {k : Nat} {v : Value} (hk : cs[k]? = some v) : ∃ u, w.cell? ⟨l.blk, l.off + k, none⟩ = some u ∧ R ρ v u := by
  obtain ⟨_, ds, c, fz, h1, h2, h3, _⟩ := h
  obtain ⟨u, hu, hr⟩ := h1.at hk
  refine ⟨u, ?_, hr⟩
  have := h3 k u hu
  simp [World.cell?, h2, this]
theorem BlkR.sub {ρ : Env} {l : Loc} {cs ds : List Value} {e : TypeId} {es : Nat} (h : BlkR ρ w l (.row cs e es)) {k n : Nat} (hk : lsub cs k n = some ds) : ∃ us, (loadCells ⟨l.blk, l.off + k, none⟩ n).run P w = .ok ⟨us⟩ w ∧ RL ρ ds us := by
  obtain ⟨e1, e2, e3⟩ := lsub_eq _ _ _ _ hk
  obtain ⟨_, es, c, fz, h1, h2, h3, h4⟩ := h
  refine ⟨(es.drop k).take n, ?_, e1 ▸ (h1.drop k).take n⟩
  have hl : ((es.drop k).take n).length = n := by simp [h1.length]; omega
  have := run_loadCells_list (P := P) w ⟨l.blk, l.off + k, none⟩ ((es.drop k).take n) (fun j v hv => by
    rw [add_none]
    have hj : j < n := by have := (List.getElem?_eq_some_iff.1 hv).1; omega
    rw [List.getElem?_take, if_pos hj, List.getElem?_drop] at hv
    have := h3 _ v hv
    simp [World.cell?, h2, Nat.add_assoc, this])
  rw [hl] at this
  exact this
theorem run_store_row {b off : Nat} {e : TypeId} {fz : Nat × Nat} : ∀ (vs : List Value) (i : Nat) (w : World) (c : Array Value), w.heap[b]? = some (.cells c e fz) → (∀ k, fz.1 ≤ k → k < fz.2 → c.size ≤ k) →
    off + i + vs.length ≤ c.size → (∀ v ∈ vs, v.oneCell' = true) → ∃ w' c', (storeCells ⟨b, off, none⟩ vs i).run P w = .ok () w' ∧ w'.heap[b]? = some (.cells c' e fz) ∧ c'.size = c.size ∧
      (∀ k, k < off + i ∨ off + i + vs.length ≤ k → c'[k]? = c[k]?) ∧ (∀ j, j < vs.length → c'[off + i + j]? = vs[j]?) ∧ (∀ B, B ≠ b → w'.heap[B]? = w.heap[B]?) ∧ w'.os = w.os ∧ w'.tape = w.tape ∧ w'.output = w.output ∧ w'.heap.size = w.heap.size
  | [], i, w, c, h, _, _, _ => ⟨w, c, rfl, h, rfl, fun _ _ => rfl, fun j hj => by simp at hj, fun _ _ => rfl, rfl, rfl, rfl, rfl⟩
  | v :: vs, i, w, c, h, hz, hl, h1 => by
    simp only [List.length_cons] at hl
    have hc : w.cell? ⟨b, off + i, none⟩ = c[off + i]? := by simp [World.cell?, h]
    have hlt : off + i < c.size := by omega
    have hf : w.frozen? ⟨b, off + i, none⟩ = false := by
      simp only [World.frozen?, h]
      rw [Bool.and_eq_false_iff]
      by_cases h2 : fz.1 ≤ off + i
      · right
        simp only [decide_eq_false_iff_not]
        intro h3
        have := hz _ h2 h3
        omega
      · left; simpa using h2
    have hw : (w.setCell ⟨b, off + i, none⟩ v).heap[b]? = some (.cells (c.setIfInBounds (off + i) v) e fz) := by
      simp [World.setCell, Array.getElem?_modify, h]
    obtain ⟨w', c', r1, r2, r3, r4, r5, r6, r7, r8, r9, r10⟩ := run_store_row (b := b) (off := off) vs (i + 1) (w.setCell ⟨b, off + i, none⟩ v) (c.setIfInBounds (off + i) v) hw (by simpa using hz) (by simp; omega) (fun x hx => h1 x (by simp [hx]))
    refine ⟨w', c', ?_, r2, by simpa using r3, ?_, ?_, ?_, r7, r8, r9, by rw [r10]; simp [World.setCell]⟩
    · simp only [storeCells, add_none, Sem.run_bind]
      rw [run_store P w _ v .plain (h1 v (by simp))]
      simp only [hc, Array.getElem?_eq_getElem hlt, hf, Bool.false_eq_true, if_false, Result.andThen_ok]
      exact r1
    · intro k hk
      simp only [List.length_cons] at hk
      rw [r4 k (by omega), Array.getElem?_setIfInBounds_ne (by omega)]
    · intro j hj
      cases j with
      | zero =>
        rw [r4 (off + i + 0) (by omega)]
        simp [hlt]
      | succ j =>
        simp only [List.length_cons] at hj
        have := r5 j (by omega)
        rw [show off + i + (j + 1) = off + (i + 1) + j by omega, this]
        simp
    · intro B hB
      rw [r6 B hB]
      simp only [World.setCell, Array.getElem?_modify]
      rw [if_neg (fun e => hB e.symm)]
/-- Cells of a row of the memory are written. -/
theorem Ev1.stores {ρ : Env} {h : AH} (g : Good G ρ h w) (nx n : Nat) {l : Loc} (hl : ρ n = some l) {cs cs' vs us : List Value} {e : TypeId} {es off : Nat} (hb : h n = some (.row cs e es)) (hbl : BlkR ρ w l (.row cs e es)) (h1 : vs.all (·.oneCell') = true) (hr : RL ρ vs us)
    (hput : lput cs off vs = some cs') (h' : AH) (hh' : h' n = some (.row cs' e es)) :
    ∃ w', (storeCells ⟨l.blk, l.off + off, none⟩ us).run P w = .ok () w' ∧ Ev1 G ρ h w nx nx (bit n) h' ρ w' := by
  obtain ⟨e1, e2⟩ := lput_eq _ _ _ _ hput
  obtain ⟨k0, ds, c, fz, k1, k2, k3, k4, k5, k6⟩ := hbl
  have hlen := hr.length
  have hdl := k1.length
  have ho : ∀ v ∈ us, v.oneCell' = true := by
    have := hr.one
    rw [h1] at this
    exact List.all_eq_true.1 this
  obtain ⟨w', c', r1, r2, r3, r4, r5, r6, r7, r8, r9, r10⟩ := run_store_row (P := P) (b := l.blk) (off := l.off + off) us 0 w c k2 k4 (by omega) ho
  refine ⟨w', r1, Ev1.write g nx n l hl hb rfl h' _ hh' rfl w' ⟨k0, ds.take off ++ us ++ ds.drop (off + us.length), c', fz, ?_, r2, ?_, by rw [r3]; exact k4, by rw [r3]; exact k5, ?_⟩ r6 r7 r8 r9 r10⟩
  · rw [e1, ← hlen]
    exact ((k1.take off).append hr).append (k1.drop _)
  · intro k v hv
    by_cases ha : k < off
    · rw [List.getElem?_append_left (by simp; omega), List.getElem?_append_left (by simp; omega), List.getElem?_take, if_pos ha] at hv
      rw [r4 _ (by omega)]
      exact k3 k v hv
    · by_cases hb : k < off + us.length
      · rw [List.getElem?_append_left (by simp; omega), List.getElem?_append_right (by simp; omega)] at hv
        have := r5 (k - off) (by omega)
        rw [show l.off + k = l.off + off + 0 + (k - off) by omega, this, ← hv]
        congr 1
        simp; omega
      · rw [List.getElem?_append_right (by simp; omega), List.getElem?_drop] at hv
        rw [r4 _ (by omega)]
        refine k3 k v ?_
        rw [← hv]
        congr 1
        simp; omega
  · simp; omega
theorem Good.at {ρ : Env} {h : AH} {H : Hp} (g : Good G ρ h w) {n : Nat} {l : Loc} {b : AB} (hl : ρ n = some l) (hh : h n = hp H n) (hb : H.at n = some b) : h n = some b ∧ BlkR ρ w l b := by
  have : h n = some b := by rw [hh]; exact hb
  obtain ⟨l', hl', hbl⟩ := g.sat n b this
  rw [hl] at hl'; cases hl'
  exact ⟨this, hbl⟩
theorem bit_self (n : Nat) : (bit n).testBit n = true := (testBit_bit n n).2 rfl

/-! ### The operations -/
theorem load_ok {T : Tri Value} {H : Hp} {nx : Nat} {t : TypeId} {x : Operand} {n off : Nat} {cs : List Value} {e : TypeId} {es : Nat} {v : Value} (hop : o.op = .load t x) (hx : opnd d T x = .pointer (some ⟨n, off, none⟩)) (hb : H.at n = some (.row cs e es))
    (hv : (∃ sz ds, prun P (isAgg t) = some true ∧ prun P (sizeOf t) = some sz ∧ lsub cs off sz = some ds ∧ v = .agg ⟨ds⟩) ∨ (prun P (isAgg t) = some false ∧ lget cs off = some v)) : OpOk P G d T H nx o v H nx (bit n) 0 := by
  refine opOk_quiet fun ρ h w a g hS hr => ?_
  have h1 := hr x (by rw [hop]; simp [Op.operands])
  rw [hx] at h1
  obtain ⟨_, l, hl, hp1⟩ := h1.ptr_inv
  obtain ⟨hh, hbl⟩ := g.at hl (hS n (bit_self n)) hb
  rcases hv with ⟨sz, ds, ha, hs, hsub, rfl⟩ | ⟨ha, hget⟩
  · obtain ⟨us, hu, hrl⟩ := hbl.sub (P := P) hsub
    refine ⟨.agg ⟨us⟩, ?_, .agg _ _ hrl⟩
    simp only [execOp, hop, hp1, Instr.loadAt, Instr.sureAddr, loadVar, Sem.run_bind, Sem.run_pure, Result.andThen_ok, prun_sound ha w, prun_sound hs w, hu, if_true]
  · rw [lget_eq] at hget
    obtain ⟨u, hu, hru⟩ := hbl.cell hget
    refine ⟨u, ?_, hru⟩
    simp only [execOp, hop, hp1, Instr.loadAt, Instr.sureAddr, loadVar, Sem.run_bind, Sem.run_pure, Result.andThen_ok, prun_sound ha w, Bool.false_eq_true, if_false, run_load, hu]
theorem store_ok {T : Tri Value} {H : Hp} {nx : Nat} {t : TypeId} {x y : Operand} {n off sz es : Nat} {cs cs' vs : List Value} {e : TypeId} (hop : o.op = .store t x y) (hx : opnd d T x = .pointer (some ⟨n, off, none⟩)) (hb : H.at n = some (.row cs e es))
    (hs : prun P (sizeOf t) = some sz) (hy : (opnd d T y).cells = ⟨vs⟩) (hl : vs.length = sz) (h1 : vs.all (·.oneCell') = true) (hput : lput cs off vs = some cs') (hn : n < 2 ^ dep) :
    OpOk P G d T H nx o undef (H.set dep n (some (.row cs' e es))) nx (bit n) (bit n) := by
  intro ρ h w a g hS hf hr K Q hK
  have r1 := hr x (by rw [hop]; simp [Op.operands])
  have r2 := (hr y (by rw [hop]; simp [Op.operands])).cells
  rw [hx] at r1
  rw [hy] at r2
  obtain ⟨_, l, hl', hp1⟩ := r1.ptr_inv
  obtain ⟨hh, hbl⟩ := g.at hl' (hS n (bit_self n)) hb
  obtain ⟨w', hw, hev⟩ := Ev1.stores (P := P) g nx n hl' hh hbl h1 r2 hput (hp (H.set dep n (some (.row cs' e es)))) (by rw [hp_set _ _ _ hn]; simp)
  refine wp_skp ?_ (hK ρ undef w' hev R_undef)
  have hsz : (a.eval y).cells.size = sz := by rw [← hl, ← r2.length]; simp
  simp only [execOp, hop, hp1, Instr.storeAt, Instr.sureAddr, storeVar, Sem.run_bind, Sem.run_pure, Result.andThen_ok, prun_sound hs w, hsz, ne_eq, not_true_eq_false, if_false, hw]
theorem newRow_ok {T : Tri Value} {H : Hp} {nx : Nat} {cs : List Value} {e : TypeId} {f : Addr → Value} (hb : nx + 1 < 2 ^ dep)
    (hq : ∀ (ρ : Env) (h : AH) (w : World) (a : Act), Good G ρ h w → (∀ x ∈ o.op.operands, R ρ (opnd d T x) (a.eval x)) → ∃ ds, RL ρ cs ds ∧ (execOp a.eval o).run P w = .ok (.value (f ⟨w.heap.size, 0, none⟩)) (w.alloc (.cells ⟨ds⟩ e)))
    (hf : ∀ (ρ : Env) (l : Loc), l.ex = 0 → ρ nx = some l → R ρ (f ⟨nx, 0, none⟩) (f ⟨l.blk, l.off, none⟩)) : OpOk P G d T H nx o (f ⟨nx, 0, none⟩) (H.set dep nx (some (.row cs e 1))) (nx + 2) (bit nx) (bit nx) := by
  intro ρ h w a g hS hfr hr K Q hK
  obtain ⟨ds, hrl, hrun⟩ := hq ρ h w a g hr
  have ev := Ev1.row g nx (nx + 2) nx (Nat.le_refl _) (by omega) hfr cs ds [] e 0 1 hrl (by simp) (fun _ => rfl) (hp (H.set dep nx (some (.row cs e 1)))) (by rw [hp_set _ _ _ (by omega)]; simp) (0, 0) (fun k _ hk => by simp at hk)
  rw [List.append_nil] at ev
  exact wp_val hrun (hK _ _ _ ev (hf _ ⟨w.heap.size, 0, cs.length, 0, 1⟩ rfl (by simp)))
theorem alloc_ok {T : Tri Value} {H : Hp} {nx : Nat} {t : TypeId} {z : Value} {cs : List Value} (hop : o.op = .alloc t) (hz : prun P (zeroValue t) = some z) (hc : z.cells = ⟨cs⟩) (hfl : cs.all flat0 = true) (hb : nx + 1 < 2 ^ dep) :
    OpOk P G d T H nx o (.pointer (some ⟨nx, 0, none⟩)) (H.set dep nx (some (.row cs t 1))) (nx + 2) (bit nx) (bit nx) :=
  newRow_ok (f := fun a => .pointer (some a)) hb (fun ρ h w a g _ => ⟨cs, RL.refl0 fun v hv => flat_of_flat0 (List.all_eq_true.1 hfl v hv), by
    simp only [execOp, hop, Instr.alloc, Sem.run_bind, Sem.run_pure, Result.andThen_ok, prun_sound hz w, newVar, newRow, run_newObj, hc]; rfl⟩)
    (fun ρ l _ h => by have := R.ptr nx 0 l h; simpa using this)
theorem box_ok {T : Tri Value} {H : Hp} {nx : Nat} {t : TypeId} {x : Operand} {cs : List Value} (hop : o.op = .box t x) (hc : (opnd d T x).cells = ⟨cs⟩) (hb : nx + 1 < 2 ^ dep) :
    OpOk P G d T H nx o (.pointer (some ⟨nx, 0, none⟩)) (H.set dep nx (some (.row cs t 1))) (nx + 2) (bit nx) (bit nx) :=
  newRow_ok (f := fun a => .pointer (some a)) hb (fun ρ h w a g hr => ⟨(a.eval x).cells.toList, by
      have := (hr x (by rw [hop]; simp [Op.operands])).cells
      rw [hc] at this; exact this, by
    simp only [execOp, hop, Instr.box, Sem.run_bind, Sem.run_pure, Result.andThen_ok, newVar, newRow, run_newObj]; rfl⟩)
    (fun ρ l _ h => by have := R.ptr nx 0 l h; simpa using this)
theorem fieldAddr_ok {T : Tri Value} {H : Hp} {nx : Nat} {s : TypeId} {x : Operand} {i n off k : Nat} {fs : Array Field} {f : Field} (hop : o.op = .fieldAddr s x i) (hu : prun P (underlying s) = some (.struct fs)) (hf : fs[i]? = some f)
    (hx : opnd d T x = .pointer (some ⟨n, off, none⟩)) (hs : prun P (sizeOf f.type) = some (k + 1)) : OpOk P G d T H nx o (.pointer (some ⟨n, off + f.offset, none⟩)) H nx 0 0 := by
  refine opOk_quiet fun ρ h w a g hS hr => ?_
  have h1 := hr x (by rw [hop]; simp [Op.operands])
  rw [hx] at h1
  obtain ⟨_, l, hl, hp1⟩ := h1.ptr_inv
  refine ⟨.pointer (some ⟨l.blk, l.off + (off + f.offset), none⟩), ?_, .ptr _ _ _ hl⟩
  simp only [execOp, hop, hp1, Instr.fieldAt, Instr.sureAddr, fieldPlace, Sem.run_bind, Sem.run_pure, Result.andThen_ok, prun_sound hu w, prun_sound hs w, hf, Nat.add_eq_zero_iff, Nat.one_ne_zero, and_false, if_false, add_none, Nat.add_assoc]
theorem int_inv {ρ : Env} {k : IntKind} {i : Int} {u : Value} (h : R ρ (.int k i) u) : u = .int k i := h.flat_inv rfl
theorem indexAddr_slice_ok {T : Tri Value} {H : Hp} {nx : Nat} {t e : TypeId} {x i : Operand} {n off len c sz : Nat} {kk : IntKind} {k : Int} (hop : o.op = .indexAddr t x i) (hi : opnd d T i = .int kk k) (hu : prun P (underlying t) = some (.slice e))
    (hx : opnd d T x = .slice (some ⟨n, off, none⟩) len c) (hs : prun P (sizeOf e) = some sz) (hk : 0 ≤ k ∧ k < len) : OpOk P G d T H nx o (.pointer (some ⟨n, off + k.toNat * sz, none⟩)) H nx 0 0 := by
  refine opOk_quiet fun ρ h w a g hS hr => ?_
  have h1 := hr x (by rw [hop]; simp [Op.operands])
  have h2 := hr i (by rw [hop]; simp [Op.operands])
  rw [hx] at h1
  rw [hi] at h2
  obtain ⟨_, l, hl, hp1⟩ := h1.slice_inv
  refine ⟨.pointer (some ⟨l.blk, l.off + (off + k.toNat * sz), none⟩), ?_, .ptr _ _ _ hl⟩
  simp only [execOp, hop, hp1, int_inv h2, Instr.indexAt, asIntOf, Sem.run_bind, Sem.run_pure, Result.andThen_ok, prun_sound hu w, prun_sound hs w, if_pos hk, add_none, Nat.add_assoc]
theorem indexAddr_array_ok {T : Tri Value} {H : Hp} {nx : Nat} {t e : TypeId} {x i : Operand} {n off len sz : Nat} {kk : IntKind} {k : Int} (hop : o.op = .indexAddr t x i) (hi : opnd d T i = .int kk k) (hu : prun P (underlying t) = some (.array len e))
    (hx : opnd d T x = .pointer (some ⟨n, off, none⟩)) (hs : prun P (sizeOf e) = some sz) (hk : 0 ≤ k ∧ k < len) : OpOk P G d T H nx o (.pointer (some ⟨n, off + k.toNat * sz, none⟩)) H nx 0 0 := by
  refine opOk_quiet fun ρ h w a g hS hr => ?_
  have h1 := hr x (by rw [hop]; simp [Op.operands])
  have h2 := hr i (by rw [hop]; simp [Op.operands])
  rw [hx] at h1
  rw [hi] at h2
  obtain ⟨_, l, hl, hp1⟩ := h1.ptr_inv
  refine ⟨.pointer (some ⟨l.blk, l.off + (off + k.toNat * sz), none⟩), ?_, .ptr _ _ _ hl⟩
  simp only [execOp, hop, hp1, int_inv h2, Instr.indexAt, Instr.sureAddr, asIntOf, Sem.run_bind, Sem.run_pure, Result.andThen_ok, prun_sound hu w, prun_sound hs w, if_pos hk, add_none, Nat.add_assoc]
end
end Go.Proofs.YtlegcfjafdihlaaGreatDoor.Ev
