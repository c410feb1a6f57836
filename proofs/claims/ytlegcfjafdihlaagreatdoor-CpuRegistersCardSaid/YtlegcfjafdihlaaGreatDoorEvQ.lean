/-
  The evaluator of calls at given arguments, and its soundness: part Q. It speaks of any program.
-/
import Derived.Test.YtlegcfjafdihlaaGreatDoorEvP
namespace Go.Proofs.YtlegcfjafdihlaaGreatDoor.Ev
open Go.RowKit
set_option linter.unusedSimpArgs false
set_option linter.unusedVariables false

section
variable {d : Nat} {P : Program} {G : Env} {o : Oper}
theorem run_map_ok {s : Sem Value} {v : Value} {w w' : World} (h : s.run P w = .ok v w') : (s >>= fun x => pure (Next.value x) : Sem Next).run P w = .ok (.value v) w' := by
  rw [Sem.run_bind, h]; rfl
/-- A builtin on two arguments. -/
theorem builtin_two {b : Builtin} {args : Array Operand} {ts : Array TypeId} {T : Tri Value} {ρ : Env} {a : Act} {x y : Value} {st xt : TypeId} (hop : o.op = .call ⟨.builtin b, args, ts⟩) (hargs : args.toList.map (opnd d T) = [x, y]) (hts : ts.toList = [st, xt])
    (hr : ∀ z ∈ o.op.operands, R ρ (opnd d T z) (a.eval z)) : ∃ x' y', R ρ x x' ∧ R ρ y y' ∧ ∀ s : Sem Next, (∀ cs, builtin b #[st, xt] o.type cs #[x', y'] = s) → execOp a.eval o = s := by
  have hl : RL ρ (args.toList.map (opnd d T)) (args.toList.map a.eval) := RL.of_map fun z hz => hr z (by rw [hop]; simp [Op.operands, Call.operands]; exact by simpa using hz)
  rw [hargs] at hl
  have key : ∀ m, RL ρ [x, y] m → ∃ x' y', m = [x', y'] ∧ R ρ x x' ∧ R ρ y y' := by
    intro m hm
    cases hm with
    | cons _ u _ m h1 h2 => cases h2 with
      | cons _ u2 _ m2 h3 h4 => cases h4; exact ⟨_, _, rfl, h1, h3⟩
  obtain ⟨x', y', e, h1, h2⟩ := key _ hl
  have he : args.map a.eval = #[x', y'] := by apply Array.toList_inj.1; simpa using e
  have ht : ts = #[st, xt] := by apply Array.toList_inj.1; simpa using hts
  refine ⟨x', y', h1, h2, fun s hs => ?_⟩
  unfold execOp
  rw [hop]
  show (do let d ← resolve a.eval ⟨.builtin b, args, ts⟩ o.type; invoke d.target d.args) = _
  simp only [resolve, he, ht, pure_bind, invoke]
  exact hs _
theorem append_two {args : Array Operand} {ts : Array TypeId} {T : Tri Value} {ρ : Env} {a : Act} {x y : Value} {st xt : TypeId} (hop : o.op = .call ⟨.builtin .append, args, ts⟩) (hargs : args.toList.map (opnd d T) = [x, y]) (hts : ts.toList = [st, xt])
    (hr : ∀ z ∈ o.op.operands, R ρ (opnd d T z) (a.eval z)) : ∃ x' y', R ρ x x' ∧ R ρ y y' ∧ execOp a.eval o = (Builtin.append_ #[st, xt] o.type #[x', y'] >>= fun x => pure (Next.value x)) := by
  obtain ⟨x', y', h1, h2, h3⟩ := builtin_two hop hargs hts hr
  exact ⟨x', y', h1, h2, h3 _ fun _ => rfl⟩
theorem copy_two {args : Array Operand} {ts : Array TypeId} {T : Tri Value} {ρ : Env} {a : Act} {x y : Value} {st xt : TypeId} (hop : o.op = .call ⟨.builtin .copy, args, ts⟩) (hargs : args.toList.map (opnd d T) = [x, y]) (hts : ts.toList = [st, xt])
    (hr : ∀ z ∈ o.op.operands, R ρ (opnd d T z) (a.eval z)) : ∃ x' y', R ρ x x' ∧ R ρ y y' ∧ execOp a.eval o = (Builtin.copy_ #[st, xt] o.type #[x', y'] >>= fun x => pure (Next.value x)) := by
  obtain ⟨x', y', h1, h2, h3⟩ := builtin_two hop hargs hts hr
  exact ⟨x', y', h1, h2, h3 _ fun _ => rfl⟩
theorem notInt_kind {xt : TypeId} {dx : TypeDesc} (h : prun P (underlying xt) = some dx) (hn : notInt dx = true) : (∃ e', P.underlying xt = some (.slice e')) ∨ P.underlying xt = some .string := by
  have := prun_underlying h
  cases dx <;> simp [notInt] at hn
  · exact .inr this
  · exact .inl ⟨_, this⟩
theorem evAppend_ok {T : Tri Value} {H H' : Hp} {nx nx' S W : Nat} {args : Array Operand} {ts : Array TypeId} {st xt : TypeId} {base : Option Addr} {len cap : Nat} {x v : Value} (hpar : nx % 2 = 0) (hop : o.op = .call ⟨.builtin .append, args, ts⟩) (hargs : args.toList.map (opnd d T) = [.slice base len cap, x]) (hts : ts.toList = [st, xt])
    (h : evAppend P H nx st xt base len cap x = .ok v H' nx' S W) : Stp H nx H' nx' W ∧ OpOk P G d T H nx o v H' nx' S W := by
  unfold evAppend at h
  split at h
  case h_2 => cases h
  rename_i e dx n hu hx hvl
  split at h
  case h_2 => cases h
  rename_i sz i z hs hi hz
  split at h
  rename_i zs hzs
  split at h
  case h_2 => cases h
  rename_i hcond
  simp only [Bool.and_eq_true] at hcond
  obtain ⟨⟨⟨⟨⟨⟨c1, c2⟩, c3⟩, c4⟩, c5⟩, c6⟩, c7⟩ := hcond
  have c2 := Nat.le_of_ble_eq_true c2
  have c3 := Nat.le_of_ble_eq_true c3
  have c4 := Nat.eq_of_beq_eq_true c4
  rw [llen_eq] at c4
  have c7 : nx + 1 < 2 ^ dep := by simpa [Nat.blt_eq] using c7
  split at h
  case h_2 => cases h
  rename_i l S0 hsrc
  split at h
  case h_2 => cases h
  rename_i hln
  rw [Bool.and_eq_true] at hln
  obtain ⟨hln, hone⟩ := hln
  have hln := Nat.eq_of_beq_eq_true hln
  rw [llen_eq] at hln
  have hln : l.length = n * sz := hln
  have hsz := prun_size hi hs
  -- what is appended
  have hsrcP : ∀ (ρ : Env) (h : AH) (w : World) (y : Value), Good G ρ h w → (∀ n, S0.testBit n = true → h n = hp H n) → R ρ x y → ∃ us, RL ρ l us ∧ Src P i.size xt y n us w := by
    intro ρ h w y g hS hr
    obtain ⟨us, h1, h2⟩ := appSrc_run (P := P) g hsrc hr hS
    refine ⟨us, h1, notInt_kind hx c1, vlen_run hvl hr, ?_, ?_, by rw [h1.length, hln, hsz], fun u hu => ?_⟩
    · have := h2 w.drawn; rw [hsz]; exact this
    · have := h2 (w.drawn + 1); rw [hsz]; exact this
    · have := h1.one
      rw [hone] at this
      exact List.all_eq_true.1 this u hu
  have hprop : ∀ (c : Nat), c ≤ 1000000 → c * i.bytes ≤ 281474976710656 := by
    intro c hc
    have : c * i.bytes ≤ 1000000 * 100000 := Nat.mul_le_mul hc c2
    omega
  have hnb : nx + 1 < 2 ^ dep := c7
  have hlor : ∀ (a b n : Nat), (Nat.lor a b).testBit n = (a.testBit n || b.testBit n) := fun a b n => Nat.testBit_or a b n
  -- a new row
  have hnew : ∀ (ρ : Env) (h : AH) (w : World) (y : Value) (us olds : List Value) (base' : Option Addr) (cap' : Nat) (oldA : List Value), Good G ρ h w → (∀ n, nx ≤ n → n < nx + 2 → ρ n = none) → RL ρ l us → Src P i.size xt y n us w → RL ρ oldA olds →
      (Builtin.firstCells i.size len (.slice base' len cap')).run P w.drew = .ok olds.toArray w.drew → cap' < len + n → Builtin.nextslicecap (len + n) cap' ≤ 1000000 → oldA.length = len * sz → ∀ (h' : AH), h' (nx + 1) = some (.row (oldA ++ l) e sz) →
      ∃ w' ρ', (Builtin.append_ #[st, xt] o.type #[.slice base' len cap', y]).run P w = .ok (.slice (some ⟨w.heap.size, 0, none⟩) (len + n) (grownCap w (len + n) cap' e)) w' ∧ Ev1 G ρ h w nx (nx + 2) (bit (nx + 1)) h' ρ' w' ∧ R ρ' (.slice (some ⟨nx + 1, 0, none⟩) (len + n) (len + n)) (.slice (some ⟨w.heap.size, 0, none⟩) (len + n) (grownCap w (len + n) cap' e)) := by
    intro ρ h w y us olds base' cap' oldA g hfr hus hsrc2 hold hrun hgt hnc hol h' hh'
    have hrun2 := run_append_grow_src w st xt o.type e i z (prun_underlying hu) (prun_info hi) (prun_zero hi hz) base' len cap' olds hrun y n us hsrc2 hgt (by omega) (hprop _ hnc)
    have hge : len + n ≤ grownCap w (len + n) cap' e := by simp [grownCap, Question.cut]
    have hrest : (Builtin.zeroCells z.cells (grownCap w (len + n) cap' e - (len + n))).toList.length = (grownCap w (len + n) cap' e - (len + n)) * sz := by simp [Builtin.zeroCells, hzs, c4]
    have ev := Ev1.row (g.drew (w.drawn + 1)) nx (nx + 2) (nx + 1) (by omega) (by omega) hfr (oldA ++ l) (olds ++ us) (Builtin.zeroCells z.cells (grownCap w (len + n) cap' e - (len + n))).toList e (grownCap w (len + n) cap' e - (len + n)) sz (hold.append hus) hrest (fun h => by omega) h' hh' (0, 0) (fun k _ hk => by simp at hk)
    refine ⟨_, _, ?_, Ev1.of_drew ev, ?_⟩
    · rw [hrun2]
      have hA : (olds ++ us).toArray ++ Builtin.zeroCells z.cells (grownCap w (len + n) cap' e - (len + n)) = ⟨olds ++ us ++ (Builtin.zeroCells z.cells (grownCap w (len + n) cap' e - (len + n))).toList⟩ := by
        apply Array.toList_inj.1
        simp
      rw [hA]
      rfl
    · have := R.slice (ρ := fun k => if k = nx + 1 then some (⟨w.heap.size, 0, (oldA ++ l).length, grownCap w (len + n) cap' e - (len + n), sz⟩ : Loc) else ρ k) (nx + 1) 0 (len + n) (len + n) ⟨w.heap.size, 0, (oldA ++ l).length, grownCap w (len + n) cap' e - (len + n), sz⟩ (by simp)
      have e4 : Loc.cap ⟨w.heap.size, 0, (oldA ++ l).length, grownCap w (len + n) cap' e - (len + n), sz⟩ 0 (len + n) = grownCap w (len + n) cap' e := by
        unfold Loc.cap
        dsimp only
        rw [if_pos]
        · omega
        · rw [List.length_append, hol, hln, ← Nat.add_mul]; omega
      rw [e4] at this
      simpa using this
  have hstp : ∀ (hh : Hp), (∀ n, (bit (nx + 1)).testBit n = false → hp hh n = hp H n) → Stp H nx hh (nx + 2) (bit (nx + 1)) := fun hh hk => ⟨by omega, hk, fun _ => by omega⟩
  split at h
  · -- nothing was there
    rename_i hbase
    split at h
    · rename_i hf hc0
      cases h
      rw [Bool.and_eq_true] at hc0
      have hcap0 := Nat.eq_of_beq_eq_true hc0.1
      have hlen0 := Nat.eq_of_beq_eq_true hc0.2
      subst hcap0; subst hlen0
      refine ⟨Stp.refl _ _, opOk_quiet fun ρ h w a g hS hr => ?_⟩
      obtain ⟨x', y', r1, r2, he⟩ := append_two hop hargs hts hr
      have := r1.flat_inv rfl
      subst this
      obtain ⟨us, k1, k2⟩ := hsrcP ρ h w y' g hS r2
      refine ⟨_, by rw [he]; exact run_map_ok (append_none (prun_underlying hu) (prun_info hi) k2 (Nat.le_of_ble_eq_true hf)), .flat _ rfl⟩
    · rename_i hf hc0
      cases h
      rw [Bool.and_eq_true] at hc0
      have hcap0 := Nat.eq_of_beq_eq_true hc0.1
      have hlen0 := Nat.eq_of_beq_eq_true hc0.2
      subst hcap0; subst hlen0
      refine ⟨Stp.set (by omega) (fun _ => by omega) hnb, ?_⟩
      intro ρ h w a g hS hfr hr K Q hK
      obtain ⟨x', y', r1, r2, he⟩ := append_two hop hargs hts hr
      have := r1.flat_inv rfl
      subst this
      obtain ⟨us, k1, k2⟩ := hsrcP ρ h w y' g (fun n hn => hS n (by rw [Nat.testBit_or, hn]; rfl)) r2
      have hgt : 0 < 0 + n := by
        rcases Nat.lt_or_ge 0 (0 + n) with h | h
        · exact h
        · have := Nat.ble_eq_true_of_le h; rw [this] at hf; cases hf
      obtain ⟨w', ρ', q1, q2, q3⟩ := hnew ρ h w y' us [] none 0 [] g hfr k1 k2 .nil (by rfl) hgt (by unfold Builtin.nextslicecap; rw [if_pos (by omega)]; omega) (by simp) (hp (H.set dep (nx + 1) (some (.row l e sz)))) (by rw [hp_set _ _ _ hnb]; simp)
      exact wp_val (by rw [he]; exact run_map_ok q1) (hK ρ' _ w' q2 q3)
    · cases h
  · rename_i b off
    split at h
    case h_2 => cases h
    rename_i cs e' es hat
    have hbd := at_lt hat
    have hor1 : ∀ n, (S0 ||| bit b).testBit n = (S0.testBit n || (bit b).testBit n) := fun n => Nat.testBit_or _ _ n
    split at h
    · rename_i hfit
      have hfit := Nat.le_of_ble_eq_true hfit
      split at h
      case h_2 => cases h
      rename_i cs' hput
      cases h
      refine ⟨Stp.set (Nat.le_refl _) id hbd, ?_⟩
      intro ρ h w a g hS hfr hr K Q hK
      obtain ⟨x', y', r1, r2, he⟩ := append_two hop hargs hts hr
      obtain ⟨_, lo, hl, rfl⟩ := r1.slice_inv
      obtain ⟨us, k1, k2⟩ := hsrcP ρ h w y' g (fun n hn => hS n (by rw [hor1, hn]; rfl)) r2
      obtain ⟨hh, hbl⟩ := g.at hl (hS b (by rw [hor1, bit_self]; simp)) hat
      obtain ⟨w', q1, q2⟩ := Ev1.stores (P := P) g nx b hl hh hbl hone k1 hput (hp (H.set dep b (some (.row cs' e' es)))) (by rw [hp_set _ _ _ hbd]; simp)
      have hcap : cap ≤ lo.cap off cap := by unfold Loc.cap; split <;> omega
      refine wp_val (by rw [he]; exact run_map_ok (append_fit (prun_underlying hu) (prun_info hi) k2 (Nat.le_trans hfit hcap) (by rw [hsz, Nat.add_assoc]; exact q1))) (hK ρ _ w' q2 (.slice b off (len + n) cap lo hl))
    · rename_i hfit
      have hgt : cap < len + n := by
        rcases Nat.lt_or_ge cap (len + n) with h | h
        · exact h
        · have := Nat.ble_eq_true_of_le h; rw [this] at hfit; cases hfit
      split at h
      case h_2 => cases h
      rename_i old hsub
      obtain ⟨o1, o2, o3⟩ := lsub_eq _ _ _ _ hsub
      have hor2 : ∀ n, (S0 ||| bit b ||| bit (nx + 1)).testBit n = (S0.testBit n || (bit b).testBit n || (bit (nx + 1)).testBit n) := fun n => by rw [Nat.testBit_or, Nat.testBit_or]
      -- what was there
      have hold : ∀ (ρ : Env) (w : World) (lo : Loc) (c' : Nat), BlkR ρ w lo (.row cs e' es) → ∃ olds, RL ρ old olds ∧ (Builtin.firstCells i.size len (.slice (some ⟨lo.blk, lo.off + off, none⟩) len c')).run P w.drew = .ok olds.toArray w.drew := by
        intro ρ w lo c' hbl
        obtain ⟨olds, h1, h2⟩ := BlkR.sub (P := P) (w := w.drew) (hbl.mono (fun _ _ h => h) rfl) hsub
        exact ⟨olds, h2, by rw [hsz]; exact h1⟩
      split at h
      · rename_i hdef
        split at h
        case h_2 => cases h
        rename_i hnc
        have hnc := Nat.le_of_ble_eq_true hnc
        cases h
        refine ⟨Stp.set (by omega) (fun _ => by omega) hnb, ?_⟩
        intro ρ h w a g hS hfr hr K Q hK
        obtain ⟨x', y', r1, r2, he⟩ := append_two hop hargs hts hr
        obtain ⟨_, lo, hl, rfl⟩ := r1.slice_inv
        obtain ⟨us, k1, k2⟩ := hsrcP ρ h w y' g (fun n hn => hS n (by rw [hor2, hn]; rfl)) r2
        obtain ⟨hh, hbl⟩ := g.at hl (hS b (by rw [hor2, bit_self]; simp)) hat
        have hcap : lo.cap off cap = cap := by
          rw [Bool.or_eq_true] at hdef
          rcases hdef with hd | hd
          · have := g.even b lo hl (Nat.eq_of_beq_eq_true hd)
            unfold Loc.cap; rw [this]; split <;> rfl
          · obtain ⟨m0, ds, c, fz, m1, m2, m3, m4, m5, m6⟩ := hbl
            unfold Loc.cap
            rw [if_neg]
            intro hh
            rw [m0, m6, m1.length] at hh
            rw [llen_eq, hh] at hd
            simp at hd
        rw [hcap] at he
        obtain ⟨olds, j1, j2⟩ := hold ρ w lo cap hbl
        obtain ⟨w', ρ', q1, q2, q3⟩ := hnew ρ h w y' us olds _ cap old g hfr k1 k2 j1 j2 hgt hnc o2 (hp (H.set dep (nx + 1) (some (.row (lapp old l) e sz)))) (by rw [hp_set _ _ _ hnb, lapp_eq]; simp)
        exact wp_val (by rw [he]; exact run_map_ok q1) (hK ρ' _ w' q2 q3)
      · rename_i hdef
        split at h
        case h_2 => cases h
        rename_i hes
        rw [Bool.and_eq_true] at hes
        obtain ⟨hes, hee⟩ := hes
        have hes := Nat.eq_of_beq_eq_true hes
        have hee := Nat.eq_of_beq_eq_true hee
        cases h
        rw [Bool.or_eq_false_iff] at hdef
        have hend : off + cap * es = cs.length := by
          have := hdef.2
          simp only [Bool.not_eq_false'] at this
          rw [← llen_eq]; exact Nat.eq_of_beq_eq_true this
        have horW : ∀ n, (bit b ||| bit (nx + 1)).testBit n = ((bit b).testBit n || (bit (nx + 1)).testBit n) := fun n => Nat.testBit_or _ _ n
        have hHb : b ≠ nx + 1 → hp ((H.set dep b none).set dep (nx + 1) (some (.row (lapp old l) e sz))) b = none := fun hne => by
          rw [hp_set _ _ _ hnb, hp_set _ _ _ hbd]; simp [hne]
        have hHj : hp ((H.set dep b none).set dep (nx + 1) (some (.row (lapp old l) e sz))) (nx + 1) = some (.row (old ++ l) e sz) := by
          rw [hp_set _ _ _ hnb, lapp_eq]; simp
        refine ⟨⟨by omega, fun n hn => ?_, fun _ => by omega⟩, ?_⟩
        · rw [horW, Bool.or_eq_false_iff] at hn
          have n1 : n ≠ b := fun e => by have := (testBit_bit b n).2 e; rw [hn.1] at this; cases this
          have n2 : n ≠ nx + 1 := fun e => by have := (testBit_bit (nx + 1) n).2 e; rw [hn.2] at this; cases this
          rw [hp_set _ _ _ hnb, hp_set _ _ _ hbd]; simp [n1, n2]
        intro ρ h w a g hS hfr hr K Q hK
        obtain ⟨x', y', r1, r2, he⟩ := append_two hop hargs hts hr
        obtain ⟨_, lo, hl, rfl⟩ := r1.slice_inv
        obtain ⟨us, k1, k2⟩ := hsrcP ρ h w y' g (fun n hn => hS n (by rw [hor2, hn]; rfl)) r2
        obtain ⟨hh, hbl⟩ := g.at hl (hS b (by rw [hor2, bit_self]; simp)) hat
        have hfj : ρ (nx + 1) = none := hfr (nx + 1) (by omega) (by omega)
        have hne : b ≠ nx + 1 := by rintro rfl; rw [hl] at hfj; cases hfj
        by_cases hroom : len + n ≤ lo.cap off cap
        · -- it fits where it is
          obtain ⟨m0, ds, c, fz, m1, m2, m3, m4, m5, m6⟩ := hbl
          have hcapv : lo.cap off cap = cap + lo.ex := by
            unfold Loc.cap; rw [if_pos]; rw [m0, m6, m1.length]; exact hend
          have hdl := m1.length
          have htop : lo.off + off + cap * sz + lo.ex * sz ≤ c.size := by
            rw [m0, m6, hdl, ← hend, hes] at m5; omega
          have hul : us.length = n * sz := by rw [k1.length, hln]
          have hmul : (len + n) * sz ≤ (cap + lo.ex) * sz := Nat.mul_le_mul_right _ (by rw [← hcapv]; exact hroom)
          rw [Nat.add_mul, Nat.add_mul] at hmul
          obtain ⟨w', c', s1, s2, s3, s4, s5, s6, s7, s8, s9, s10⟩ := run_store_row (P := P) (b := lo.blk) (off := lo.off + off + len * sz) us 0 w c m2 m4 (by rw [hul]; omega) (fun v hv => by
            have := k1.one; rw [hone] at this; exact List.all_eq_true.1 this v hv)
          have hol : ((ds.drop off).take (len * sz)).length = len * sz := by simp; omega
          have hoR : RL ρ old ((ds.drop off).take (len * sz)) := by rw [o1]; exact (m1.drop off).take _
          have hs1 : Sub ρ (fun k => if k = nx + 1 then some (⟨lo.blk, lo.off + off, (len + n) * sz, cap + lo.ex - (len + n), sz⟩ : Loc) else ρ k) := by
            intro k lk hk
            have : k ≠ nx + 1 := by rintro rfl; rw [hfj] at hk; cases hk
            simp [this, hk]
          have hexm : (cap + lo.ex - (len + n)) * sz + ((len + n) * sz) = (cap + lo.ex) * sz := by rw [← Nat.add_mul]; congr 1; rw [← hcapv]; omega
          have ev := Ev1.move (G := G) g nx (nx + 2) b (nx + 1) (by omega) (by omega) hfj (l' := ⟨lo.blk, lo.off + off, (len + n) * sz, cap + lo.ex - (len + n), sz⟩) hl hh rfl rfl (fun h => by omega) (x := .row (old ++ l) e sz) (hHb hne) hHj rfl (w' := w')
            ⟨rfl, (ds.drop off).take (len * sz) ++ us, c', fz, (hoR.append k1).mono hs1, by rw [← hee]; exact s2, ?_, by rw [s3]; exact m4, ?_, ?_⟩ s6 s7 s8 s9 s10
          · refine wp_val (by rw [he]; exact run_map_ok (append_fit (prun_underlying hu) (prun_info hi) k2 hroom (by rw [hsz]; exact s1))) (hK _ _ w' ev ?_)
            have := R.slice (ρ := fun k => if k = nx + 1 then some (⟨lo.blk, lo.off + off, (len + n) * sz, cap + lo.ex - (len + n), sz⟩ : Loc) else ρ k) (nx + 1) 0 (len + n) (len + n) ⟨lo.blk, lo.off + off, (len + n) * sz, cap + lo.ex - (len + n), sz⟩ (by simp)
            have e4 : Loc.cap ⟨lo.blk, lo.off + off, (len + n) * sz, cap + lo.ex - (len + n), sz⟩ 0 (len + n) = lo.cap off cap := by
              have hroom' := hroom
              rw [hcapv] at hroom' ⊢
              show (if 0 + (len + n) * sz = (len + n) * sz then _ else _) = _
              rw [if_pos (by omega)]
              show len + n + (cap + lo.ex - (len + n)) = _
              omega
            rw [e4] at this
            simpa using this
          · intro k v hv
            by_cases hk : k < len * sz
            · rw [List.getElem?_append_left (by omega), List.getElem?_take, if_pos hk, List.getElem?_drop] at hv
              have := m3 _ v hv
              rw [show lo.off + off + k = lo.off + (off + k) by omega]
              rw [s4 _ (by omega)]; exact this
            · rw [List.getElem?_append_right (by omega), hol] at hv
              have hlt := (List.getElem?_eq_some_iff.1 hv).1
              have := s5 (k - len * sz) hlt
              rw [hv] at this
              rw [← this]
              congr 1
              dsimp only
              omega
          · dsimp only; rw [s3]; rw [Nat.add_mul cap] at hexm; omega
          · dsimp only; rw [List.length_append, hol, hul, Nat.add_mul]
        · -- it does not
          have hgt' : lo.cap off cap < len + n := by omega
          obtain ⟨olds, j1, j2⟩ := hold ρ w lo (lo.cap off cap) hbl
          have hnc : Builtin.nextslicecap (len + n) (lo.cap off cap) ≤ 1000000 := Nat.le_trans (nextslicecap_le hgt') (by omega)
          obtain ⟨w', ρ', q1, q2, q3⟩ := hnew ρ h w y' us olds _ _ old g hfr k1 k2 j1 j2 hgt' hnc o2 _ hHj
          exact wp_val (by rw [he]; exact run_map_ok q1) (hK ρ' _ w' (q2.kill (hHb hne) fun _ _ _ => rfl) q3)
  · cases h
end
end Go.Proofs.YtlegcfjafdihlaaGreatDoor.Ev
