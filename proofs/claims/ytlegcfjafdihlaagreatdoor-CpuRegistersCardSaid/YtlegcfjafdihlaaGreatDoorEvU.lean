/-
  The evaluator of calls at given arguments, and its soundness: part U. It speaks of any program.
-/
import Derived.Test.YtlegcfjafdihlaaGreatDoorEvT
namespace Go.Proofs.YtlegcfjafdihlaaGreatDoor.Ev
open Go.RowKit
set_option linter.unusedSimpArgs false
set_option linter.unusedVariables false

section
variable {d : Nat} {P : Program} {G : Env} {o : Oper}
theorem ro_sub {ρ : Env} {w : World} {l : Loc} {cs ds : List Value} (h : BlkR ρ w l (.ro cs)) {k n : Nat} (hk : lsub cs k n = some ds) : ∃ us, (loadCells ⟨l.blk, l.off + k, none⟩ n).run P w = .ok ⟨us⟩ w ∧ RL ρ ds us := by
  obtain ⟨e1, e2, e3⟩ := lsub_eq _ _ _ _ hk
  obtain ⟨_, _, es, h1, h2⟩ := h
  refine ⟨(es.drop k).take n, ?_, e1 ▸ (h1.drop k).take n⟩
  have hl : ((es.drop k).take n).length = n := by simp [h1.length]; omega
  have := run_loadCells_list (P := P) w ⟨l.blk, l.off + k, none⟩ ((es.drop k).take n) (fun j v hv => by
    rw [add_none]
    have hj : j < n := by have := (List.getElem?_eq_some_iff.1 hv).1; omega
    rw [List.getElem?_take, if_pos hj, List.getElem?_drop] at hv
    have := h2 _ v hv
    rw [Nat.add_assoc]; exact this)
  rw [hl] at this
  exact this
theorem load_ro_ok {T : Tri Value} {H : Hp} {nx : Nat} {t : TypeId} {x : Operand} {n off : Nat} {cs : List Value} {v : Value} (hop : o.op = .load t x) (hx : opnd d T x = .pointer (some ⟨n, off, none⟩)) (hb : H.at n = some (.ro cs))
    (hv : (∃ sz ds, prun P (isAgg t) = some true ∧ prun P (sizeOf t) = some sz ∧ lsub cs off sz = some ds ∧ v = .agg ⟨ds⟩) ∨ (prun P (isAgg t) = some false ∧ lget cs off = some v)) : OpOk P G d T H nx o v H nx (bit n) 0 := by
  refine opOk_quiet fun ρ h w a g hS hr => ?_
  have h1 := hr x (by rw [hop]; simp [Op.operands])
  rw [hx] at h1
  obtain ⟨_, l, hl, hp1⟩ := h1.ptr_inv
  obtain ⟨hh, hbl⟩ := g.at hl (hS n (bit_self n)) hb
  rcases hv with ⟨sz, ds, ha, hs, hsub, rfl⟩ | ⟨ha, hget⟩
  · obtain ⟨us, hu, hrl⟩ := ro_sub (P := P) hbl hsub
    refine ⟨.agg ⟨us⟩, ?_, .agg _ _ hrl⟩
    simp only [execOp, hop, hp1, Instr.loadAt, Instr.sureAddr, loadVar, Sem.run_bind, Sem.run_pure, Result.andThen_ok, prun_sound ha w, prun_sound hs w, hu, if_true]
  · rw [lget_eq] at hget
    obtain ⟨_, _, es, k1, k2⟩ := hbl
    obtain ⟨u, hu, hru⟩ := k1.at hget
    refine ⟨u, ?_, hru⟩
    simp only [execOp, hop, hp1, Instr.loadAt, Instr.sureAddr, loadVar, Sem.run_bind, Sem.run_pure, Result.andThen_ok, prun_sound ha w, Bool.false_eq_true, if_false, run_load, k2 _ u hu]
theorem load2_inv {t : TypeId} {H H' : Hp} {nx nx' n off S W : Nat} {cs : List Value} {v : Value} (h : evLoad2 P t H nx n off cs = .ok v H' nx' S W) :
    ((∃ sz ds, prun P (isAgg t) = some true ∧ prun P (sizeOf t) = some sz ∧ lsub cs off sz = some ds ∧ v = .agg ⟨ds⟩) ∨ (prun P (isAgg t) = some false ∧ lget cs off = some v)) ∧ H' = H ∧ nx' = nx ∧ S = bit n ∧ W = 0 := by
  unfold evLoad2 at h
  split at h
  · rename_i ha
    split at h
    case h_2 => cases h
    rename_i sz hs
    split at h
    case h_2 => cases h
    rename_i ds hsub
    cases h
    exact ⟨.inl ⟨sz, ds, ha, hs, hsub, rfl⟩, rfl, rfl, rfl, rfl⟩
  · rename_i ha
    split at h
    case h_2 => cases h
    rename_i u hu
    cases h
    exact ⟨.inr ⟨ha, hu⟩, rfl, rfl, rfl, rfl⟩
  · cases h
theorem newRow_inv {H H' : Hp} {nx nx' S W : Nat} {cs : List Value} {e : TypeId} {f : Addr → Value} {v : Value} (h : newRow' H nx cs e f = .ok v H' nx' S W) : nx + 1 < 2 ^ dep ∧ v = f ⟨nx, 0, none⟩ ∧ H' = H.set dep nx (some (.row cs e 1)) ∧ nx' = nx + 2 ∧ S = bit nx ∧ W = bit nx := by
  unfold newRow' at h
  split at h
  · rename_i hb
    cases h
    exact ⟨by rw [Nat.blt_eq] at hb; exact hb, rfl, rfl, rfl, rfl, rfl⟩
  · cases h
theorem stp_row {H : Hp} {nx : Nat} {b : Option AB} (hb : nx + 1 < 2 ^ dep) : Stp H nx (H.set dep nx b) (nx + 2) (bit nx) := Stp.set (by omega) (fun _ => by omega) (by omega)
theorem opts_flat {T : Tri Value} {x : Option Operand} (h : allFlat (x.map (opnd d T)) = true) : x.all (fun x => flat (opnd d T x)) = true := by cases x with
  | none => rfl
  | some x => simpa [allFlat] using h
theorem evOp_ok {call : FuncId → List Value → Hp → Nat → Rs} (hcall : CallOk P G call) {T : Tri Value} {H : Hp} {nx : Nat} {v : Value} {H' : Hp} {nx' S W : Nat} (hpar : nx % 2 = 0) (hs : ∀ cs b, o.op ≠ .select cs b) (h : evOp P call d T H nx o = .ok v H' nx' S W) :
    Stp H nx H' nx' W ∧ OpOk P G d T H nx o v H' nx' S W := by
  unfold evOp at h
  cases hop : o.op
  case move x => rw [hop] at h; cases h; exact hands_ok (by rw [hop]; rfl) (by unfold execOp; rw [hop]; rfl)
  case assign x => rw [hop] at h; cases h; exact hands_ok (by rw [hop]; rfl) (by unfold execOp; rw [hop]; rfl)
  case load t x =>
    rw [hop] at h
    dsimp only at h
    unfold evLoad at h
    split at h
    case h_2 => cases h
    rename_i n off hx
    split at h
    · rename_i cs e es hat
      obtain ⟨h1, rfl, rfl, rfl, rfl⟩ := load2_inv h
      exact ⟨Stp.refl _ _, load_ok hop hx hat h1⟩
    · rename_i cs hat
      obtain ⟨h1, rfl, rfl, rfl, rfl⟩ := load2_inv h
      exact ⟨Stp.refl _ _, load_ro_ok hop hx hat h1⟩
    · cases h
  case store t x y =>
    rw [hop] at h
    dsimp only at h
    unfold evStore at h
    split at h
    case h_2 => cases h
    rename_i n off hx
    split at h
    case h_2 => cases h
    rename_i cs e es hat
    split at h
    rename_i vs hvs
    unfold evStore2 at h
    split at h
    case h_2 => cases h
    rename_i sz hsz
    split at h
    case h_2 => cases h
    rename_i hc
    rw [Bool.and_eq_true] at hc
    have hl := Nat.eq_of_beq_eq_true hc.1
    rw [llen_eq] at hl
    split at h
    case h_2 => cases h
    rename_i cs' hput
    cases h
    exact ⟨Stp.set (Nat.le_refl _) id (at_lt hat), store_ok hop hx hat hsz hvs hl hc.2 hput (at_lt hat)⟩
  case alloc t =>
    rw [hop] at h
    dsimp only at h
    unfold evAlloc at h
    split at h
    case h_2 => cases h
    rename_i z hz
    split at h
    rename_i cs hcs
    split at h
    case h_2 => cases h
    rename_i hfl
    obtain ⟨h1, rfl, rfl, rfl, rfl, rfl⟩ := newRow_inv h
    exact ⟨stp_row h1, alloc_ok hop hz hcs hfl h1⟩
  case box t x =>
    rw [hop] at h
    dsimp only at h
    unfold evBox at h
    split at h
    rename_i cs hcs
    split at h
    case h_2 => cases h
    obtain ⟨h1, rfl, rfl, rfl, rfl, rfl⟩ := newRow_inv h
    exact ⟨stp_row h1, box_ok hop hcs h1⟩
  case fieldAddr s x i =>
    rw [hop] at h
    dsimp only at h
    unfold evFieldAddr at h
    split at h
    case h_2 => cases h
    rename_i n off hx
    split at h
    case h_2 => cases h
    rename_i fs hu
    split at h
    case h_2 => cases h
    rename_i f hf
    split at h
    case h_2 => cases h
    rename_i k hk
    split at h
    case h_2 => cases h
    rename_i hk0
    rw [Nat.blt_eq] at hk0
    cases h
    obtain ⟨k', rfl⟩ : ∃ k', k = k' + 1 := ⟨k - 1, by omega⟩
    exact ⟨Stp.refl _ _, fieldAddr_ok hop hu hf hx hk⟩
  case indexAddr t x i =>
    rw [hop] at h
    dsimp only at h
    unfold evIndexAddr at h
    split at h
    case h_2 => cases h
    rename_i kk k hi
    split at h
    · rename_i e n off len c hu hx
      split at h
      case h_2 => cases h
      rename_i sz hsz hlt
      rw [Nat.blt_eq] at hlt
      cases h
      exact ⟨Stp.refl _ _, indexAddr_slice_ok hop hi hu hx hsz ⟨Int.natCast_nonneg k, by exact Int.ofNat_lt.2 hlt⟩⟩
    · rename_i len e n off hu hx
      split at h
      case h_2 => cases h
      rename_i sz hsz hlt
      rw [Nat.blt_eq] at hlt
      cases h
      exact ⟨Stp.refl _ _, indexAddr_array_ok hop hi hu hx hsz ⟨Int.natCast_nonneg k, by exact Int.ofNat_lt.2 hlt⟩⟩
    · cases h
  case field t x i =>
    rw [hop] at h
    obtain ⟨h1, rfl, rfl, rfl, rfl⟩ := evField_run hop h
    exact hands_ok (by rw [hop]; rfl) h1
  case extract x i =>
    rw [hop] at h
    obtain ⟨h1, rfl, rfl, rfl, rfl⟩ := evExtract_run hop h
    exact hands_ok (by rw [hop]; rfl) h1
  case build t ps =>
    rw [hop] at h
    dsimp only at h
    unfold evBuild at h
    split at h
    case h_2 => cases h
    rename_i z hz
    split at h
    case h_2 => cases h
    rename_i hfl
    unfold evRun at h
    split at h
    case h_2 => cases h
    rename_i u hu
    cases h
    refine ⟨Stp.refl _ _, opOk_quiet fun ρ h0 w a g _ hr => ?_⟩
    have e1 : ∀ f, execOp f o = (Instr.build t (ps.map fun (i, x) => (i, f x)) >>= fun x => pure (Next.value x)) := by intro f; unfold execOp; rw [hop]
    rw [e1] at hu
    have hps : PL ρ (ps.map fun (i, x) => (i, opnd d T x)).toList (ps.map fun (i, x) => (i, a.eval x)).toList := by
      simp only [Array.toList_map]
      exact PL.of_map fun x hx => hr x (by rw [hop]; simpa [Op.operands] using hx)
    obtain ⟨u2, k1, k2⟩ := build_rel hps (fun z2 hz2 => by rw [hz] at hz2; cases hz2; exact hfl) (prun_map_value hu)
    exact ⟨u2, by rw [e1]; exact run_map_value k1 w, k2⟩
  case makeSlice t l c =>
    rw [hop] at h
    dsimp only at h
    unfold evMake at h
    split at h
    case h_2 => cases h
    rename_i e k1 l' k2 c' hu hl hc
    split at h
    case h_2 => cases h
    rename_i i sz z hi hsz hz
    split at h
    rename_i zs hzs
    split at h
    case h_2 => cases h
    rename_i hcond
    simp only [Bool.and_eq_true, decide_eq_true_eq] at hcond
    obtain ⟨⟨⟨c1, c2⟩, c3⟩, c4⟩ := hcond
    have c2 := Nat.eq_of_beq_eq_true c2
    rw [llen_eq] at c2
    rw [Nat.blt_eq] at c3
    obtain ⟨h1, rfl, rfl, rfl, rfl, rfl⟩ := newRow_inv h
    exact ⟨stp_row h1, makeSlice_ok hop hu hl hc hi hsz hz hzs c1 c2 c3 c4 h1⟩
  case buildSlice t len ps =>
    rw [hop] at h
    dsimp only at h
    unfold evBuildSlice at h
    split at h
    case h_2 => cases h
    rename_i e hu
    split at h
    case h_2 => cases h
    rename_i sz z hsz hz
    split at h
    rename_i zs hzs
    split at h
    case h_2 => cases h
    rename_i hcond
    simp only [Bool.and_eq_true] at hcond
    obtain ⟨⟨⟨c1, c2⟩, c3⟩, c4⟩ := hcond
    have c1 := Nat.le_of_ble_eq_true c1
    have c2 := Nat.eq_of_beq_eq_true c2
    rw [llen_eq] at c2
    rw [Nat.blt_eq] at c3
    split at h
    case h_2 => cases h
    rename_i cs hfill
    obtain ⟨h1, rfl, rfl, rfl, rfl, rfl⟩ := newRow_inv h
    refine ⟨stp_row h1, buildSlice_ok hop hu hsz hz hzs c1 c2 c3 c4 ?_ h1⟩
    rw [Array.toList_map]
    exact hfill
  case slice t x lo hi mx =>
    rw [hop] at h
    dsimp only at h
    split at h
    · exact evFlat_ok hs h
    · exact evFlat_ok hs h
    · unfold evSlice at h
      split at h
      · rename_i e n off len cap hu hx
        split at h
        case h_2 => cases h
        rename_i hf
        simp only [Bool.and_eq_true] at hf
        split at h
        case h_2 => cases h
        rename_i l hh m sz hb hsz
        split at h
        · rename_i hn
          cases h
          exact ⟨Stp.refl _ _, slice_even_ok hop hu hx (opts_flat hf.1.1) (opts_flat hf.1.2) (opts_flat hf.2) hb hsz (Nat.eq_of_beq_eq_true hn)⟩
        · split at h
          case h_2 => cases h
          rename_i cs ee es hat
          split at h
          case h_2 => cases h
          rename_i hc
          simp only [Bool.and_eq_true, Bool.or_eq_true] at hc
          have c2 := hc.1.2
          rw [Nat.blt_eq] at c2
          cases h
          refine ⟨Stp.refl _ _, slice_open_ok hop hu hx (opts_flat hf.1.1) (opts_flat hf.1.2) (opts_flat hf.2) hb hsz hat (Nat.eq_of_beq_eq_true hc.1.1) c2 ?_⟩
          rcases hc.2 with h3 | h3
          · left; cases mx <;> simp at h3 ⊢
          · right; rw [Nat.blt_eq, llen_eq] at h3; exact h3
      · rename_i n' e n off hu hx
        split at h
        case h_2 => cases h
        rename_i hf
        simp only [Bool.and_eq_true] at hf
        split at h
        case h_2 => cases h
        rename_i l hh m sz hb hsz
        cases h
        exact ⟨Stp.refl _ _, slice_array_ok hop hu hx (opts_flat hf.1.1.1) (opts_flat hf.1.1.2) (opts_flat hf.1.2) hb hsz (Nat.eq_of_beq_eq_true hf.2)⟩
      · cases h
  case binOp op t x y ty =>
    rw [hop] at h
    dsimp only at h
    have h2 : ∀ {v H' nx' S W}, evBin2 P d T H nx o op t (opnd d T x) (opnd d T y) = .ok v H' nx' S W → Stp H nx H' nx' W ∧ OpOk P G d T H nx o v H' nx' S W := by
      intro v H' nx' S W h
      unfold evBin2 at h
      split at h
      · exact evFlat_ok hs h
      · unfold evNil at h
        split at h
        case h_2 => cases h
        rename_i dd hd
        split at h
        case h_2 => cases h
        rename_i hsh
        have fin : ∀ b, (op = .eql ∧ b = false ∨ op = .neq ∧ b = true) → OpOk P G d T H nx o (.bool b) H nx 0 0 := fun b hb =>
          opOk_quiet fun ρ h0 w a g _ hr => ⟨.bool b, nilEq_run hop hb hd (nilShape_rel hsh (hr x (by rw [hop]; simp [Op.operands])) (hr y (by rw [hop]; simp [Op.operands]))) w, .flat _ rfl⟩
        split at h
        · cases h; exact ⟨Stp.refl _ _, fin false (.inl ⟨rfl, rfl⟩)⟩
        · cases h; exact ⟨Stp.refl _ _, fin true (.inr ⟨rfl, rfl⟩)⟩
        · cases h
    unfold evBin at h
    split at h
    · rename_i k a k' b hx hy
      split at h
      · rename_i hk
        have hk := of_decide_eq_true hk
        subst hk
        split at h
        · rename_i u hu
          cases h
          obtain ⟨r1, r2⟩ := evInt_run (o := o) (f := opnd d T) hop hx hy hu
          refine ⟨Stp.refl _ _, flat_run hs (fun z hz => ?_) r1 r2⟩
          rw [hop] at hz
          simp only [Op.operands, List.mem_toArray, List.mem_cons, List.not_mem_nil, or_false] at hz
          rcases hz with rfl | rfl
          · rw [hx]; rfl
          · rw [hy]; rfl
        · exact evFlat_ok hs h
      · exact evFlat_ok hs h
    · exact h2 h
  case nilCheck x =>
    rw [hop] at h
    dsimp only at h
    unfold evNilCheck at h
    split at h
    case h_2 => cases h
    rename_i ad hx
    cases h
    refine ⟨Stp.refl _ _, opOk_quiet fun ρ h0 w a g _ hr => ?_⟩
    have h1 := hr x (by rw [hop]; simp [Op.operands])
    rw [hx] at h1
    refine ⟨a.eval x, ?_, h1⟩
    obtain ⟨n, off, sp⟩ := ad
    obtain ⟨_, l, _, hp1⟩ := h1.ptr_inv
    unfold execOp
    rw [hop]
    dsimp only
    rw [hp1]
    rfl
  case convert s t x =>
    rw [hop] at h
    dsimp only at h
    unfold evConv at h
    split at h
    · rename_i e n off len cap h1 h2 hx
      split at h
      case h_2 => cases h
      rename_i cs ee es he hat
      split at h
      case h_2 => cases h
      rename_i l hl
      split at h
      case h_2 => cases h
      rename_i r hb
      cases h
      exact ⟨Stp.refl _ _, toStr_ok hop h1 h2 hx he hat hl hb⟩
    · rename_i e b h1 h2 hx
      split at h
      case h_2 => cases h
      rename_i he
      split at h
      case h_2 => cases h
      rename_i hc
      rw [Bool.and_eq_true, Nat.blt_eq] at hc
      cases h
      have hnb : nx + 1 < 2 ^ dep := hc.1
      exact ⟨Stp.set (show nx ≤ nx + 2 by omega) (fun _ => (show (nx + 2) % 2 = 0 by omega)) hnb, toBytes_ok hpar hop h1 h2 hx he hnb (Nat.le_of_ble_eq_true hc.2)⟩
    · exact evFlat_ok hs h
  case call c =>
    rw [hop] at h
    dsimp only at h
    obtain ⟨cal, args, ts⟩ := c
    unfold evCallOp at h
    cases cal with
    | value f =>
      dsimp only at h
      split at h
      case h_2 => cases h
      rename_i k first cap hf
      exact callV_ok hcall hpar hop hf h
    | invoke recv name => exact evInvoke_ok hcall hpar hop h
    | builtin b =>
      dsimp only at h
      unfold evBuiltin at h
      split at h
      · rename_i st xt base len cap x hts hargs
        exact evAppend_ok hpar hop hargs hts h
      · rename_i st xt b off len cap x hts hargs
        exact evCopy_ok hop hargs hts h
      · cases h
      · cases h
      · exact evPure_ok hs h
  all_goals
    rw [hop] at h
    exact evPure_ok hs h
end
end Go.Proofs.YtlegcfjafdihlaaGreatDoor.Ev
