import Derived.Test.YtlegcfjafdihlaaGreatDoorZC24
/-
  The evaluator of calls at given arguments, and its soundness: part Q. It speaks of any program.
-/
namespace Go.Proofs.YtlegcfjafdihlaaGreatDoor.Ev
open Go.RowKit
set_option linter.unusedSimpArgs false
set_option linter.unusedVariables false

section
variable {d : Nat} {P : Program} {G : Env} {o : Oper}
theorem run_map_ok {s : Sem Value} {v : Value} {w w' : World} (h : s.run P w = .ok v w') : (s >>= fun x => pure (Next.value x) : Sem Next).run P w = .ok (.value v) w' := by
  rw [Sem.run_bind, h]; rfl
/-- A builtin on two arguments. -/
theorem builtin_two {b : Builtin} {args : Array Operand} {ts : Array TypeId} {T : Tri Value} {ρ : Env} {a : Act} {x y : Value} {st xt : TypeId} (hop : o.op = .call ⟨.builtin b, args, ts⟩) (hargs : args.toList.map (opnd d T) = [x, y]) (hts : ts.toList = [st, xt])
    (hr : ∀ z ∈ o.op.operands, R ρ (opnd d T z) (a.eval z)) : ∃ x' y', R ρ x x' ∧ R ρ y y' ∧ ∀ s : Sem Next, (∀ cs, builtin b #[st, xt] o.type cs #[x', y'] = s) → execOp a.eval o = s := by
  have hl : RL ρ (args.toList.map (opnd d T)) (args.toList.map a.eval) := RL.of_map fun z hz => hr z (by rw [hop]; simp [Op.operands, Call.operands]; exact by simpa using hz)
  rw [hargs] at hl
  have key : ∀ m, RL ρ [x, y] m → ∃ x' y', m = [x', y'] ∧ R ρ x x' ∧ R ρ y y' := by
    intro m hm
    cases hm with
    | cons _ u _ m h1 h2 => cases h2 with
      | cons _ u2 _ m2 h3 h4 => cases h4; exact ⟨_, _, rfl, h1, h3⟩
  obtain ⟨x', y', e, h1, h2⟩ := key _ hl
  have he : args.map a.eval = #[x', y'] := by apply Array.toList_inj.1; simpa using e
  have ht : ts = #[st, xt] := by apply Array.toList_inj.1; simpa using hts
  refine ⟨x', y', h1, h2, fun s hs => ?_⟩
  unfold execOp
  rw [hop]
  show (do let d ← resolve a.eval ⟨.builtin b, args, ts⟩ o.type; invoke d.target d.args) = _
  simp only [resolve, he, ht, pure_bind, invoke]
  exact hs _
theorem append_two {args : Array Operand} {ts : Array TypeId} {T : Tri Value} {ρ : Env} {a : Act} {x y : Value} {st xt : TypeId} (hop : o.op = .call ⟨.builtin .append, args, ts⟩) (hargs : args.toList.map (opnd d T) = [x, y]) (hts : ts.toList = [st, xt])
    (hr : ∀ z ∈ o.op.operands, R ρ (opnd d T z) (a.eval z)) : ∃ x' y', R ρ x x' ∧ R ρ y y' ∧ execOp a.eval o = (Builtin.append_ #[st, xt] o.type #[x', y'] >>= fun x => pure (Next.value x)) := by
  obtain ⟨x', y', h1, h2, h3⟩ := builtin_two hop hargs hts hr
  exact ⟨x', y', h1, h2, h3 _ fun _ => rfl⟩
theorem copy_two {args : Array Operand} {ts : Array TypeId} {T : Tri Value} {ρ : Env} {a : Act} {x y : Value} {st xt : TypeId} (hop : o.op = .call ⟨.builtin .copy, args, ts⟩) (hargs : args.toList.map (opnd d T) = [x, y]) (hts : ts.toList = [st, xt])
    (hr : ∀ z ∈ o.op.operands, R ρ (opnd d T z) (a.eval z)) : ∃ x' y', R ρ x x' ∧ R ρ y y' ∧ execOp a.eval o = (Builtin.copy_ #[st, xt] o.type #[x', y'] >>= fun x => pure (Next.value x)) := by
  obtain ⟨x', y', h1, h2, h3⟩ := builtin_two hop hargs hts hr
  exact ⟨x', y', h1, h2, h3 _ fun _ => rfl⟩
theorem notInt_kind {xt : TypeId} {dx : TypeDesc} (h : prun P (underlying xt) = some dx) (hn : notInt dx = true) : (∃ e', P.underlying xt = some (.slice e')) ∨ P.underlying xt = some .string := by
  have := prun_underlying h
  cases dx <;> simp [notInt] at hn
  · exact .inr this
  · exact .inl ⟨_, this⟩
theorem evAppend_ok {T : Tri Value} {H H' : Hp} {nx nx' S W : Nat} {args : Array Operand} {ts : Array TypeId} {st xt : TypeId} {base : Option Addr} {len cap : Nat} {x v : Value} (hpar : nx % 2 = 0) (hop : o.op = .call ⟨.builtin .append, args, ts⟩) (hargs : args.toList.map (opnd d T) = [.slice base len cap, x]) (hts : ts.toList = [st, xt])
    (h : evAppend P H nx st xt base len cap x = .ok v H' nx' S W) : Stp H nx H' nx' W ∧ OpOk P G d T H nx o v H' nx' S W := by
  unfold evAppend at h
  split at h
  case h_2 => cases h
  rename_i e dx n hu hx hvl
  split at h
  case h_2 => cases h
  rename_i sz i z hs hi hz
  split at h
  rename_i zs hzs
  split at h
  case h_2 => cases h
  rename_i hcond
  simp only [Bool.and_eq_true] at hcond
  obtain ⟨⟨⟨⟨⟨⟨c1, c2⟩, c3⟩, c4⟩, c5⟩, c6⟩, c7⟩ := hcond
  have c2 := Nat.le_of_ble_eq_true c2
  have c3 := Nat.le_of_ble_eq_true c3
  have c4 := Nat.eq_of_beq_eq_true c4
  rw [llen_eq] at c4
  have c7 : nx + 1 < 2 ^ dep := by simpa [Nat.blt_eq] using c7
  split at h
  case h_2 => cases h
  rename_i l S0 hsrc
  split at h
  case h_2 => cases h
  rename_i hln
  rw [Bool.and_eq_true] at hln
  obtain ⟨hln, hone⟩ := hln
  have hln := Nat.eq_of_beq_eq_true hln
  rw [llen_eq] at hln
  have hln : l.length = n * sz := hln
  have hsz := prun_size hi hs
  -- what is appended
  have hsrcP : ∀ (ρ : Env) (h : AH) (w : World) (y : Value), Good G ρ h w → (∀ n, S0.testBit n = true → h n = hp H n) → R ρ x y → ∃ us, RL ρ l us ∧ Src P i.size xt y n us w := by
    intro ρ h w y g hS hr
    obtain ⟨us, h1, h2⟩ := appSrc_run (P := P) g hsrc hr hS
    refine ⟨us, h1, notInt_kind hx c1, vlen_run hvl hr, ?_, ?_, by rw [h1.length, hln, hsz], fun u hu => ?_⟩
    · have := h2 w.drawn; rw [hsz]; exact this
    · have := h2 (w.drawn + 1); rw [hsz]; exact this
    · have := h1.one
      rw [hone] at this
      exact List.all_eq_true.1 this u hu
  have hprop : ∀ (c : Nat), c ≤ 1000000 → c * i.bytes ≤ 281474976710656 := by
    intro c hc
    have : c * i.bytes ≤ 1000000 * 100000 := Nat.mul_le_mul hc c2
    omega
  have hnb : nx + 1 < 2 ^ dep := c7
  have hlor : ∀ (a b n : Nat), (Nat.lor a b).testBit n = (a.testBit n || b.testBit n) := fun a b n => Nat.testBit_or a b n
  -- a new row
  have hnew : ∀ (ρ : Env) (h : AH) (w : World) (y : Value) (us olds : List Value) (base' : Option Addr) (cap' : Nat) (oldA : List Value), Good G ρ h w → (∀ n, nx ≤ n → n < nx + 2 → ρ n = none) → RL ρ l us → Src P i.size xt y n us w → RL ρ oldA olds →
      (Builtin.firstCells i.size len (.slice base' len cap')).run P w.drew = .ok olds.toArray w.drew → cap' < len + n → Builtin.nextslicecap (len + n) cap' ≤ 1000000 → oldA.length = len * sz → ∀ (h' : AH), h' (nx + 1) = some (.row (oldA ++ l) e sz) →
      ∃ w' ρ', (Builtin.append_ #[st, xt] o.type #[.slice base' len cap', y]).run P w = .ok (.slice (some ⟨w.heap.size, 0, none⟩) (len + n) (grownCap w (len + n) cap' e)) w' ∧ Ev1 G ρ h w nx (nx + 2) (bit (nx + 1)) h' ρ' w' ∧ R ρ' (.slice (some ⟨nx + 1, 0, none⟩) (len + n) (len + n)) (.slice (some ⟨w.heap.size, 0, none⟩) (len + n) (grownCap w (len + n) cap' e)) := by
    intro ρ h w y us olds base' cap' oldA g hfr hus hsrc2 hold hrun hgt hnc hol h' hh'
    have hrun2 := run_append_grow_src w st xt o.type e i z (prun_underlying hu) (prun_info hi) (prun_zero hi hz) base' len cap' olds hrun y n us hsrc2 hgt (by omega) (hprop _ hnc)
    have hge : len + n ≤ grownCap w (len + n) cap' e := by simp [grownCap, Question.cut]
    have hrest : (Builtin.zeroCells z.cells (grownCap w (len + n) cap' e - (len + n))).toList.length = (grownCap w (len + n) cap' e - (len + n)) * sz := by simp [Builtin.zeroCells, hzs, c4]
    have ev := Ev1.row (g.drew (w.drawn + 1)) nx (nx + 2) (nx + 1) (by omega) (by omega) hfr (oldA ++ l) (olds ++ us) (Builtin.zeroCells z.cells (grownCap w (len + n) cap' e - (len + n))).toList e (grownCap w (len + n) cap' e - (len + n)) sz (hold.append hus) hrest (fun h => by omega) h' hh' (0, 0) (fun k _ hk => by simp at hk)
    refine ⟨_, _, ?_, Ev1.of_drew ev, ?_⟩
    · rw [hrun2]
      have hA : (olds ++ us).toArray ++ Builtin.zeroCells z.cells (grownCap w (len + n) cap' e - (len + n)) = ⟨olds ++ us ++ (Builtin.zeroCells z.cells (grownCap w (len + n) cap' e - (len + n))).toList⟩ := by
        apply Array.toList_inj.1
        simp
      rw [hA]
      rfl
    · have := R.slice (ρ := fun k => if k = nx + 1 then some (⟨w.heap.size, 0, (oldA ++ l).length, grownCap w (len + n) cap' e - (len + n), sz⟩ : Loc) else ρ k) (nx + 1) 0 (len + n) (len + n) ⟨w.heap.size, 0, (oldA ++ l).length, grownCap w (len + n) cap' e - (len + n), sz⟩ (by simp)
      have e4 : Loc.cap ⟨w.heap.size, 0, (oldA ++ l).length, grownCap w (len + n) cap' e - (len + n), sz⟩ 0 (len + n) = grownCap w (len + n) cap' e := by
        unfold Loc.cap
        dsimp only
        rw [if_pos]
        · omega
        · rw [List.length_append, hol, hln, ← Nat.add_mul]; omega
      rw [e4] at this
      simpa using this
  have hstp : ∀ (hh : Hp), (∀ n, (bit (nx + 1)).testBit n = false → hp hh n = hp H n) → Stp H nx hh (nx + 2) (bit (nx + 1)) := fun hh hk => ⟨by omega, hk, fun _ => by omega⟩
  split at h
  · -- nothing was there
    rename_i hbase
    split at h
    · rename_i hf hc0
      cases h
      rw [Bool.and_eq_true] at hc0
      have hcap0 := Nat.eq_of_beq_eq_true hc0.1
      have hlen0 := Nat.eq_of_beq_eq_true hc0.2
      subst hcap0; subst hlen0
      refine ⟨Stp.refl _ _, opOk_quiet fun ρ h w a g hS hr => ?_⟩
      obtain ⟨x', y', r1, r2, he⟩ := append_two hop hargs hts hr
      have := r1.flat_inv rfl
      subst this
      obtain ⟨us, k1, k2⟩ := hsrcP ρ h w y' g hS r2
      refine ⟨_, by rw [he]; exact run_map_ok (append_none (prun_underlying hu) (prun_info hi) k2 (Nat.le_of_ble_eq_true hf)), .flat _ rfl⟩
    · rename_i hf hc0
      cases h
      rw [Bool.and_eq_true] at hc0
      have hcap0 := Nat.eq_of_beq_eq_true hc0.1
      have hlen0 := Nat.eq_of_beq_eq_true hc0.2
      subst hcap0; subst hlen0
      refine ⟨Stp.set (by omega) (fun _ => by omega) hnb, ?_⟩
      intro ρ h w a g hS hfr hr K Q hK
      obtain ⟨x', y', r1, r2, he⟩ := append_two hop hargs hts hr
      have := r1.flat_inv rfl
      subst this
      obtain ⟨us, k1, k2⟩ := hsrcP ρ h w y' g (fun n hn => hS n (by rw [Nat.testBit_or, hn]; rfl)) r2
      have hgt : 0 < 0 + n := by
        rcases Nat.lt_or_ge 0 (0 + n) with h | h
        · exact h
        · have := Nat.ble_eq_true_of_le h; rw [this] at hf; cases hf
      obtain ⟨w', ρ', q1, q2, q3⟩ := hnew ρ h w y' us [] none 0 [] g hfr k1 k2 .nil (by rfl) hgt (by unfold Builtin.nextslicecap; rw [if_pos (by omega)]; omega) (by simp) (hp (H.set dep (nx + 1) (some (.row l e sz)))) (by rw [hp_set _ _ _ hnb]; simp)
      exact wp_val (by rw [he]; exact run_map_ok q1) (hK ρ' _ w' q2 q3)
    · cases h
  · rename_i b off
    split at h
    case h_2 => cases h
    rename_i cs e' es hat
    have hbd := at_lt hat
    have hor1 : ∀ n, (S0 ||| bit b).testBit n = (S0.testBit n || (bit b).testBit n) := fun n => Nat.testBit_or _ _ n
    split at h
    · rename_i hfit
      have hfit := Nat.le_of_ble_eq_true hfit
      split at h
      case h_2 => cases h
      rename_i cs' hput
      cases h
      refine ⟨Stp.set (Nat.le_refl _) id hbd, ?_⟩
      intro ρ h w a g hS hfr hr K Q hK
      obtain ⟨x', y', r1, r2, he⟩ := append_two hop hargs hts hr
      obtain ⟨_, lo, hl, rfl⟩ := r1.slice_inv
      obtain ⟨us, k1, k2⟩ := hsrcP ρ h w y' g (fun n hn => hS n (by rw [hor1, hn]; rfl)) r2
      obtain ⟨hh, hbl⟩ := g.at hl (hS b (by rw [hor1, bit_self]; simp)) hat
      obtain ⟨w', q1, q2⟩ := Ev1.stores (P := P) g nx b hl hh hbl hone k1 hput (hp (H.set dep b (some (.row cs' e' es)))) (by rw [hp_set _ _ _ hbd]; simp)
      have hcap : cap ≤ lo.cap off cap := by unfold Loc.cap; split <;> omega
      refine wp_val (by rw [he]; exact run_map_ok (append_fit (prun_underlying hu) (prun_info hi) k2 (Nat.le_trans hfit hcap) (by rw [hsz, Nat.add_assoc]; exact q1))) (hK ρ _ w' q2 (.slice b off (len + n) cap lo hl))
    · rename_i hfit
      have hgt : cap < len + n := by
        rcases Nat.lt_or_ge cap (len + n) with h | h
        · exact h
        · have := Nat.ble_eq_true_of_le h; rw [this] at hfit; cases hfit
      split at h
      case h_2 => cases h
      rename_i old hsub
      obtain ⟨o1, o2, o3⟩ := lsub_eq _ _ _ _ hsub
      have hor2 : ∀ n, (S0 ||| bit b ||| bit (nx + 1)).testBit n = (S0.testBit n || (bit b).testBit n || (bit (nx + 1)).testBit n) := fun n => by rw [Nat.testBit_or, Nat.testBit_or]
      -- what was there
      have hold : ∀ (ρ : Env) (w : World) (lo : Loc) (c' : Nat), BlkR ρ w lo (.row cs e' es) → ∃ olds, RL ρ old olds ∧ (Builtin.firstCells i.size len (.slice (some ⟨lo.blk, lo.off + off, none⟩) len c')).run P w.drew = .ok olds.toArray w.drew := by
        intro ρ w lo c' hbl
        obtain ⟨olds, h1, h2⟩ := BlkR.sub (P := P) (w := w.drew) (hbl.mono (fun _ _ h => h) rfl) hsub
        exact ⟨olds, h2, by rw [hsz]; exact h1⟩
      split at h
      · rename_i hdef
        split at h
        case h_2 => cases h
        rename_i hnc
        have hnc := Nat.le_of_ble_eq_true hnc
        cases h
        refine ⟨Stp.set (by omega) (fun _ => by omega) hnb, ?_⟩
        intro ρ h w a g hS hfr hr K Q hK
        obtain ⟨x', y', r1, r2, he⟩ := append_two hop hargs hts hr
        obtain ⟨_, lo, hl, rfl⟩ := r1.slice_inv
        obtain ⟨us, k1, k2⟩ := hsrcP ρ h w y' g (fun n hn => hS n (by rw [hor2, hn]; rfl)) r2
        obtain ⟨hh, hbl⟩ := g.at hl (hS b (by rw [hor2, bit_self]; simp)) hat
        have hcap : lo.cap off cap = cap := by
          rw [Bool.or_eq_true] at hdef
          rcases hdef with hd | hd
          · have := g.even b lo hl (Nat.eq_of_beq_eq_true hd)
            unfold Loc.cap; rw [this]; split <;> rfl
          · obtain ⟨m0, ds, c, fz, m1, m2, m3, m4, m5, m6⟩ := hbl
            unfold Loc.cap
            rw [if_neg]
            intro hh
            rw [m0, m6, m1.length] at hh
            rw [llen_eq, hh] at hd
            simp at hd
        rw [hcap] at he
        obtain ⟨olds, j1, j2⟩ := hold ρ w lo cap hbl
        obtain ⟨w', ρ', q1, q2, q3⟩ := hnew ρ h w y' us olds _ cap old g hfr k1 k2 j1 j2 hgt hnc o2 (hp (H.set dep (nx + 1) (some (.row (lapp old l) e sz)))) (by rw [hp_set _ _ _ hnb, lapp_eq]; simp)
        exact wp_val (by rw [he]; exact run_map_ok q1) (hK ρ' _ w' q2 q3)
      · rename_i hdef
        split at h
        case h_2 => cases h
        rename_i hes
        rw [Bool.and_eq_true] at hes
        obtain ⟨hes, hee⟩ := hes
        have hes := Nat.eq_of_beq_eq_true hes
        have hee := Nat.eq_of_beq_eq_true hee
        cases h
        rw [Bool.or_eq_false_iff] at hdef
        have hend : off + cap * es = cs.length := by
          have := hdef.2
          simp only [Bool.not_eq_false'] at this
          rw [← llen_eq]; exact Nat.eq_of_beq_eq_true this
        have horW : ∀ n, (bit b ||| bit (nx + 1)).testBit n = ((bit b).testBit n || (bit (nx + 1)).testBit n) := fun n => Nat.testBit_or _ _ n
        have hHb : b ≠ nx + 1 → hp ((H.set dep b none).set dep (nx + 1) (some (.row (lapp old l) e sz))) b = none := fun hne => by
          rw [hp_set _ _ _ hnb, hp_set _ _ _ hbd]; simp [hne]
        have hHj : hp ((H.set dep b none).set dep (nx + 1) (some (.row (lapp old l) e sz))) (nx + 1) = some (.row (old ++ l) e sz) := by
          rw [hp_set _ _ _ hnb, lapp_eq]; simp
        refine ⟨⟨by omega, fun n hn => ?_, fun _ => by omega⟩, ?_⟩
        · rw [horW, Bool.or_eq_false_iff] at hn
          have n1 : n ≠ b := fun e => by have := (testBit_bit b n).2 e; rw [hn.1] at this; cases this
          have n2 : n ≠ nx + 1 := fun e => by have := (testBit_bit (nx + 1) n).2 e; rw [hn.2] at this; cases this
          rw [hp_set _ _ _ hnb, hp_set _ _ _ hbd]; simp [n1, n2]
        intro ρ h w a g hS hfr hr K Q hK
        obtain ⟨x', y', r1, r2, he⟩ := append_two hop hargs hts hr
        obtain ⟨_, lo, hl, rfl⟩ := r1.slice_inv
        obtain ⟨us, k1, k2⟩ := hsrcP ρ h w y' g (fun n hn => hS n (by rw [hor2, hn]; rfl)) r2
        obtain ⟨hh, hbl⟩ := g.at hl (hS b (by rw [hor2, bit_self]; simp)) hat
        have hfj : ρ (nx + 1) = none := hfr (nx + 1) (by omega) (by omega)
        have hne : b ≠ nx + 1 := by rintro rfl; rw [hl] at hfj; cases hfj
        by_cases hroom : len + n ≤ lo.cap off cap
        · -- it fits where it is
          obtain ⟨m0, ds, c, fz, m1, m2, m3, m4, m5, m6⟩ := hbl
          have hcapv : lo.cap off cap = cap + lo.ex := by
            unfold Loc.cap; rw [if_pos]; rw [m0, m6, m1.length]; exact hend
          have hdl := m1.length
          have htop : lo.off + off + cap * sz + lo.ex * sz ≤ c.size := by
            rw [m0, m6, hdl, ← hend, hes] at m5; omega
          have hul : us.length = n * sz := by rw [k1.length, hln]
          have hmul : (len + n) * sz ≤ (cap + lo.ex) * sz := Nat.mul_le_mul_right _ (by rw [← hcapv]; exact hroom)
          rw [Nat.add_mul, Nat.add_mul] at hmul
          obtain ⟨w', c', s1, s2, s3, s4, s5, s6, s7, s8, s9, s10⟩ := run_store_row (P := P) (b := lo.blk) (off := lo.off + off + len * sz) us 0 w c m2 m4 (by rw [hul]; omega) (fun v hv => by
            have := k1.one; rw [hone] at this; exact List.all_eq_true.1 this v hv)
          have hol : ((ds.drop off).take (len * sz)).length = len * sz := by simp; omega
          have hoR : RL ρ old ((ds.drop off).take (len * sz)) := by rw [o1]; exact (m1.drop off).take _
          have hs1 : Sub ρ (fun k => if k = nx + 1 then some (⟨lo.blk, lo.off + off, (len + n) * sz, cap + lo.ex - (len + n), sz⟩ : Loc) else ρ k) := by
            intro k lk hk
            have : k ≠ nx + 1 := by rintro rfl; rw [hfj] at hk; cases hk
            simp [this, hk]
          have hexm : (cap + lo.ex - (len + n)) * sz + ((len + n) * sz) = (cap + lo.ex) * sz := by rw [← Nat.add_mul]; congr 1; rw [← hcapv]; omega
          have ev := Ev1.move (G := G) g nx (nx + 2) b (nx + 1) (by omega) (by omega) hfj (l' := ⟨lo.blk, lo.off + off, (len + n) * sz, cap + lo.ex - (len + n), sz⟩) hl hh rfl rfl (fun h => by omega) (x := .row (old ++ l) e sz) (hHb hne) hHj rfl (w' := w')
            ⟨rfl, (ds.drop off).take (len * sz) ++ us, c', fz, (hoR.append k1).mono hs1, by rw [← hee]; exact s2, ?_, by rw [s3]; exact m4, ?_, ?_⟩ s6 s7 s8 s9 s10
          · refine wp_val (by rw [he]; exact run_map_ok (append_fit (prun_underlying hu) (prun_info hi) k2 hroom (by rw [hsz]; exact s1))) (hK _ _ w' ev ?_)
            have := R.slice (ρ := fun k => if k = nx + 1 then some (⟨lo.blk, lo.off + off, (len + n) * sz, cap + lo.ex - (len + n), sz⟩ : Loc) else ρ k) (nx + 1) 0 (len + n) (len + n) ⟨lo.blk, lo.off + off, (len + n) * sz, cap + lo.ex - (len + n), sz⟩ (by simp)
            have e4 : Loc.cap ⟨lo.blk, lo.off + off, (len + n) * sz, cap + lo.ex - (len + n), sz⟩ 0 (len + n) = lo.cap off cap := by
              have hroom' := hroom
              rw [hcapv] at hroom' ⊢
              show (if 0 + (len + n) * sz = (len + n) * sz then _ else _) = _
              rw [if_pos (by omega)]
              show len + n + (cap + lo.ex - (len + n)) = _
              omega
            rw [e4] at this
            simpa using this
          · intro k v hv
            by_cases hk : k < len * sz
            · rw [List.getElem?_append_left (by omega), List.getElem?_take, if_pos hk, List.getElem?_drop] at hv
              have := m3 _ v hv
              rw [show lo.off + off + k = lo.off + (off + k) by omega]
              rw [s4 _ (by omega)]; exact this
            · rw [List.getElem?_append_right (by omega), hol] at hv
              have hlt := (List.getElem?_eq_some_iff.1 hv).1
              have := s5 (k - len * sz) hlt
              rw [hv] at this
              rw [← this]
              congr 1
              dsimp only
              omega
          · dsimp only; rw [s3]; rw [Nat.add_mul cap] at hexm; omega
          · dsimp only; rw [List.length_append, hol, hul, Nat.add_mul]
        · -- it does not
          have hgt' : lo.cap off cap < len + n := by omega
          obtain ⟨olds, j1, j2⟩ := hold ρ w lo (lo.cap off cap) hbl
          have hnc : Builtin.nextslicecap (len + n) (lo.cap off cap) ≤ 1000000 := Nat.le_trans (nextslicecap_le hgt') (by omega)
          obtain ⟨w', ρ', q1, q2, q3⟩ := hnew ρ h w y' us olds _ _ old g hfr k1 k2 j1 j2 hgt' hnc o2 _ hHj
          exact wp_val (by rw [he]; exact run_map_ok q1) (hK ρ' _ w' (q2.kill (hHb hne) fun _ _ _ => rfl) q3)
  · cases h
end
end Go.Proofs.YtlegcfjafdihlaaGreatDoor.Ev

/-
  The evaluator of calls at given arguments, and its soundness: part R. It speaks of any program.
-/
namespace Go.Proofs.YtlegcfjafdihlaaGreatDoor.Ev
open Go.RowKit
set_option linter.unusedSimpArgs false
set_option linter.unusedVariables false

section
variable {d : Nat} {P : Program} {G : Env} {o : Oper}
theorem evCopy_ok {T : Tri Value} {H H' : Hp} {nx nx' S W : Nat} {args : Array Operand} {ts : Array TypeId} {st xt : TypeId} {b off len cap : Nat} {x v : Value} (hop : o.op = .call ⟨.builtin .copy, args, ts⟩) (hargs : args.toList.map (opnd d T) = [.slice (some ⟨b, off, none⟩) len cap, x]) (hts : ts.toList = [st, xt])
    (h : evCopy P H nx st b off len x = .ok v H' nx' S W) : Stp H nx H' nx' W ∧ OpOk P G d T H nx o v H' nx' S W := by
  unfold evCopy at h
  split at h
  case h_2 => cases h
  rename_i e hu
  split at h
  case h_2 => cases h
  rename_i sz hs
  split at h
  case h_2 => cases h
  rename_i n hvl
  split at h
  case h_2 => cases h
  rename_i l S0 cs e' es hsrc hat
  split at h
  case h_2 => cases h
  rename_i cs' hput
  split at h
  case h_2 => cases h
  rename_i hone
  cases h
  have hbd := at_lt hat
  refine ⟨Stp.set (Nat.le_refl _) id hbd, ?_⟩
  intro ρ h w a g hS hfr hr K Q hK
  obtain ⟨x', y', r1, r2, he⟩ := copy_two hop hargs hts hr
  obtain ⟨_, lo, hl, rfl⟩ := r1.slice_inv
  obtain ⟨us, k1, k2⟩ := appSrc_run (P := P) g hsrc r2 (fun n hn => hS n (by rw [Nat.testBit_or, hn]; rfl))
  obtain ⟨hh, hbl⟩ := g.at hl (hS b (by rw [Nat.testBit_or, bit_self]; simp)) hat
  obtain ⟨w', q1, q2⟩ := Ev1.stores (P := P) g nx b hl hh hbl hone k1 hput (hp (H.set dep b (some (.row cs' e' es)))) (by rw [hp_set _ _ _ hbd]; simp)
  have k3 := k2 w.drawn
  have hrun : (Builtin.copy_ #[st, xt] o.type #[.slice (some ⟨lo.blk, lo.off + off, none⟩) len (lo.cap off cap), y']).run P w = .ok (goInt (min n len : Nat)) w' := by
    have hmin : Nat.min n len = min n len := rfl
    have k4 : (Builtin.firstCells sz (min n len) y').run P w = .ok ⟨us⟩ w := k3
    unfold Builtin.copy_
    simp only [List.getElem?_toArray, List.getElem?_cons_zero, List.getElem?_cons_succ, Sem.run_bind, prun_sound hu w, Result.andThen_ok, vlen_run hvl r2 w, prun_sound hs w, hmin, k4, q1, Sem.run_pure]
  exact wp_val (by rw [he]; exact run_map_ok hrun) (hK ρ _ w' q2 (.flat _ rfl))
theorem bytesOf_spec : ∀ (l : List Value) (r : List UInt8), bytesOf l = some r → ∃ ns : List Int, l = ns.map (Value.int .u8) ∧ r = ns.map fun n => UInt8.ofNat n.toNat
  | [], r, h => by cases h; exact ⟨[], rfl, rfl⟩
  | v :: l, r, h => by
    unfold bytesOf at h
    split at h
    · cases ‹_ = []›
    · rename_i n l' e
      cases e
      split at h
      · rename_i r' hr'
        cases h
        obtain ⟨ns, h1, h2⟩ := bytesOf_spec l r' hr'
        exact ⟨n :: ns, by simp [h1], by simp [h2]⟩
      · cases h
    · cases h
theorem foldl_push : ∀ (ns : List Int) (s : ByteArray), ns.foldl (fun r n => r.push (UInt8.ofNat n.toNat)) s = ⟨s.data ++ (ns.map fun n => UInt8.ofNat n.toNat).toArray⟩
  | [], s => by cases s; simp
  | n :: ns, s => by
    simp only [List.foldl_cons, List.map_cons]
    rw [foldl_push ns]
    cases s
    simp [ByteArray.push]
theorem push_modify {α : Type} (xs : Array α) (x : α) (f : α → α) : (xs.push x).modify xs.size f = xs.push (f x) := by
  apply Array.ext_getElem?
  intro i
  rw [Array.getElem?_modify]
  by_cases h : xs.size = i
  · subst h; simp
  · rw [if_neg h, Array.getElem?_push, Array.getElem?_push, if_neg (Ne.symm h), if_neg (Ne.symm h)]
theorem toStr_ok {T : Tri Value} {H : Hp} {nx : Nat} {s t e : TypeId} {x : Operand} {n off len cap : Nat} {cs l : List Value} {ee : TypeId} {es : Nat} {r : List UInt8} (hop : o.op = .convert s t x) (hs : prun P (underlying s) = some (.slice e)) (ht : prun P (underlying t) = some .string) (hx : opnd d T x = .slice (some ⟨n, off, none⟩) len cap)
    (he : prun P (underlying e) = some (.int .u8)) (hat : H.at n = some (.row cs ee es)) (hsub : lsub cs off len = some l) (hb : bytesOf l = some r) : OpOk P G d T H nx o (.string ⟨⟨r⟩⟩) H nx (bit n) 0 := by
  refine opOk_quiet fun ρ h w a g hS hr => ?_
  have h1 := hr x (by rw [hop]; simp [Op.operands])
  rw [hx] at h1
  obtain ⟨_, lo, hl, hp1⟩ := h1.slice_inv
  obtain ⟨hh, hbl⟩ := g.at hl (hS n (bit_self n)) hat
  obtain ⟨us, k1, k2⟩ := hbl.sub (P := P) hsub
  obtain ⟨ns, e1, e2⟩ := bytesOf_spec l r hb
  have hus : us = l := by
    have : ∀ (l us : List Value), (∀ v ∈ l, flat v = true) → RL ρ l us → us = l := by
      intro l
      induction l with
      | nil => intro us _ h; cases h; rfl
      | cons v l ih => intro us hf h; cases h with
        | cons _ u _ m h1 h2 => rw [h1.flat_inv (hf v (by simp)), ih m (fun x hx => hf x (by simp [hx])) h2]
    refine this l us (fun v hv => ?_) k2
    rw [e1] at hv
    obtain ⟨n, _, rfl⟩ := List.mem_map.1 hv
    rfl
  refine ⟨.string ⟨⟨r⟩⟩, ?_, .flat _ rfl⟩
  have hrun : (Conv.bytesToString (.slice (some ⟨lo.blk, lo.off + off, none⟩) len (lo.cap off cap))).run P w = .ok (.string ⟨⟨r⟩⟩) w := by
    rw [run_bytesToString (P := P) w ⟨lo.blk, lo.off + off, none⟩ len (lo.cap off cap) ns (by rw [k1, hus, e1])]
    rw [foldl_push, e2]
    simp
  unfold execOp
  simp only [hop, hp1]
  rw [Sem.run_bind, run_convert_bytes_string w s t e _ _ _ (prun_underlying hs) (prun_underlying he) (prun_underlying ht), hrun]
  rfl
theorem toBytes_ok {T : Tri Value} {H : Hp} {nx : Nat} {s t e : TypeId} {x : Operand} {b : ByteArray} (hpar : nx % 2 = 0) (hop : o.op = .convert s t x) (hs : prun P (underlying s) = some .string) (ht : prun P (underlying t) = some (.slice e)) (hx : opnd d T x = .string b)
    (he : prun P (underlying e) = some (.int .u8)) (hnb : nx + 1 < 2 ^ dep) (hbs : b.size ≤ 1000000) :
    OpOk P G d T H nx o (.slice (some ⟨nx + 1, 0, none⟩) b.size b.size) (H.set dep (nx + 1) (some (.row (b.data.toList.map fun x => .int .u8 x.toNat) e 1))) (nx + 2) (bit (nx + 1)) (bit (nx + 1)) := by
  intro ρ h w a g hS hfr hr K Q hK
  have h1 := hr x (by rw [hop]; simp [Op.operands])
  rw [hx] at h1
  have hp1 := h1.flat_inv rfl
  obtain ⟨c, hc, hcv⟩ : ∃ c, b.size ≤ c ∧ (Question.appendCap b.size 0 e).cut (w.tape w.drawn (.appendCap b.size 0 e)) = c := ⟨_, by simp [Question.cut], rfl⟩
  have hbl : (b.data.toList.map fun x => (Value.int .u8 x.toNat)).length = b.size := by rw [List.length_map, Array.length_toList]; rfl
  have ev := Ev1.row (g.drew (w.drawn + 1)) nx (nx + 2) (nx + 1) (by omega) (by omega) hfr (b.data.toList.map fun x => .int .u8 x.toNat) (b.data.toList.map fun x => .int .u8 x.toNat) (List.replicate (c - b.size) (.int .u8 0)) e (c - b.size) 1
    (flats fun v hv => by obtain ⟨x, _, rfl⟩ := List.mem_map.1 hv; rfl) (by simp) (fun h => by omega) (hp (H.set dep (nx + 1) (some (.row (b.data.toList.map fun x => .int .u8 x.toNat) e 1)))) (by rw [hp_set _ _ _ hnb]; simp) (c, c + 1) (fun k hk _ => by simp only [List.length_append, hbl, List.length_replicate]; omega)
  have hr2 := R.slice (ρ := fun k => if k = nx + 1 then some (⟨w.heap.size, 0, (b.data.toList.map fun x => (Value.int .u8 x.toNat)).length, c - b.size, 1⟩ : Loc) else ρ k) (nx + 1) 0 b.size b.size ⟨w.heap.size, 0, (b.data.toList.map fun x => (Value.int .u8 x.toNat)).length, c - b.size, 1⟩ (by simp)
  have e4 : Loc.cap ⟨w.heap.size, 0, (b.data.toList.map fun x => (Value.int .u8 x.toNat)).length, c - b.size, 1⟩ 0 b.size = c := by
    show (if 0 + b.size * 1 = _ then _ else _) = _
    have hb1 : 0 + b.size * 1 = (b.data.toList.map fun x => (Value.int .u8 x.toNat)).length := by rw [hbl]; omega
    rw [if_pos hb1]
    show b.size + (c - b.size) = c
    omega
  rw [e4] at hr2
  refine wp_val ?_ (hK _ (.slice (some ⟨w.heap.size, 0, none⟩) b.size c) _ ev.of_drew (by simpa using hr2))
  have hcv2 : ∀ w : World, (convert s t (.string b)).run P w = (Conv.stringToBytes e b).run P w := by
    intro w
    simp [convert, run_underlying (prun_underlying hs), run_underlying (prun_underlying ht), run_underlying (prun_underlying he)]
  unfold execOp
  simp only [hop, hp1]
  rw [Sem.run_bind, hcv2]
  unfold Conv.stringToBytes
  simp only [Sem.run_bind, run_choose, Question.forced, Bool.false_eq_true, if_false, Result.andThen_ok, hcv, newRow, run_newObj, markStringish, run_shape, run_freeze, Sem.run_pure]
  have hA : (Array.map (fun b => Value.int IntKind.u8 ↑b.toNat) b.data ++ Array.replicate (c - b.size) (Value.int IntKind.u8 0)) = (⟨b.data.toList.map (fun x => Value.int .u8 x.toNat) ++ List.replicate (c - b.size) (.int .u8 0)⟩ : Array Value) := by
    apply Array.toList_inj.1
    simp
  rw [hA]
  have hlen : (b.data.toList.map (fun x => Value.int .u8 x.toNat) ++ List.replicate (c - b.size) (Value.int .u8 0)).length = c := by
    rw [List.length_append, hbl, List.length_replicate]; omega
  generalize b.data.toList.map (fun x => Value.int .u8 x.toNat) ++ List.replicate (c - b.size) (Value.int .u8 0) = L at hlen
  have hsh : World.shape? { heap := w.heap.push (.cells ⟨L⟩ e), tape := w.tape, drawn := w.drawn + 1, os := w.os, output := w.output } w.heap.size = some (e, c) := by
    simp [World.shape?, hlen]
  rw [hsh]
  simp only [run_freeze, Result.andThen_ok]
  congr 1
  unfold World.freeze
  rw [if_neg (by omega)]
  show World.mk _ _ _ _ _ = World.mk _ _ _ _ _
  congr 1
  show Array.modify (w.heap.push _) w.heap.size _ = w.heap.push _
  rw [push_modify]
  rfl
end
end Go.Proofs.YtlegcfjafdihlaaGreatDoor.Ev

/-
  The evaluator of calls at given arguments, and its soundness: part S. It speaks of any program.
-/
namespace Go.Proofs.YtlegcfjafdihlaaGreatDoor.Ev
open Go.RowKit
set_option linter.unusedSimpArgs false
set_option linter.unusedVariables false

section
variable {d : Nat} {P : Program} {G : Env} {o : Oper}
theorem method_rel {t : TypeId} {i : TypeInfo} {name : String} {m : Method} {v r : Value} {f : FuncId} {n : Nat} (hi : prun P (typeInfo t) = some i) (hm : i.methods.find? (·.name == name) = some m) (hpath : m.path.toList = []) (hpl : plainRecv P t m = true) (h : prun P (method n t v name) = some (f, r)) (u : Value) : prun P (method n t u name) = some (f, u) := by
  cases n with
  | zero => simp [method, prun, unsupported] at h
  | succ n =>
    unfold method at h ⊢
    rw [prun_bind, hi, Option.bind_some] at h ⊢
    rw [hm] at h ⊢
    dsimp only at h ⊢
    rw [hpath] at h ⊢
    rw [prun_bind] at h ⊢
    have hfo : ∀ x : Value, prun P (follow [] t (.val x)) = some (t, .val x) := fun x => rfl
    rw [hfo, Option.bind_some] at h ⊢
    dsimp only at h ⊢
    cases hf : m.func with
    | none => unfold plainRecv at hpl; rw [hf] at hpl; cases hpl
    | some fp =>
      obtain ⟨f2, p⟩ := fp
      rw [hf] at h
      dsimp only at h ⊢
      rw [prun_bind] at h ⊢
      obtain ⟨r2, hr2, h⟩ := opt_bind h
      simp only [prun_pure, Option.some.injEq, Prod.mk.injEq] at h
      obtain ⟨rfl, rfl⟩ := h
      unfold receiverAt at hr2 ⊢
      rw [prun_bind] at hr2 ⊢
      obtain ⟨dd, hd, hr2⟩ := opt_bind hr2
      rw [hd, Option.bind_some]
      cases p with
      | true =>
        cases dd <;> dsimp only at hr2 ⊢ <;> first
          | (simp [prun, stuck] at hr2; done)
          | rfl
      | false =>
        unfold plainRecv at hpl
        rw [hf] at hpl
        dsimp only at hpl
        rw [hd] at hpl
        cases dd <;> dsimp only at hr2 hpl ⊢ <;> first
          | rfl
          | (cases hpl; done)
theorem enter_ok {call : FuncId → List Value → Hp → Nat → Rs} (hcall : CallOk P G call) {T : Tri Value} {H H' : Hp} {nx nx' S W : Nat} {v : Value} {k : FuncId} {args : List Value} (hpar : nx % 2 = 0) (h : call k args H nx = .ok v H' nx' S W)
    (hrun : ∀ (ρ : Env) (a : Act) (w : World), (∀ x ∈ o.op.operands, R ρ (opnd d T x) (a.eval x)) → ∃ args', RL ρ args args' ∧ ((∃ fn, P.funcs[k]? = some fn ∧ (fn.name == "runtime.NumGoroutine") = false ∧ fn.body.isNone = false) → (execOp a.eval o).run P w = .ok (.enter k ⟨args'⟩) w)) :
    Stp H nx H' nx' W ∧ OpOk P G d T H nx o v H' nx' S W := by
  obtain ⟨hs, hfn, hc⟩ := hcall k args H nx v H' nx' S W hpar h
  refine ⟨hs, ?_⟩
  intro ρ h w a g hS hfr hr K Q hK
  obtain ⟨args', h1, h2⟩ := hrun ρ a w hr
  have h3 := hc ρ h w args' g hS hfr h1
  unfold Oper.wp
  rw [h2 hfn]
  show Calls P k ⟨args'⟩ w _
  refine h3.mono fun e w' he => ?_
  obtain ⟨ρ', u, rfl, hru, hev⟩ := he
  exact hK ρ' u w' hev hru
theorem callV_ok {call : FuncId → List Value → Hp → Nat → Rs} (hcall : CallOk P G call) {T : Tri Value} {H H' : Hp} {nx nx' S W : Nat} {v : Value} {f : Operand} {args : Array Operand} {ts : Array TypeId} {k : FuncId} {first cap : List Value} (hpar : nx % 2 = 0)
    (hop : o.op = .call ⟨.value f, args, ts⟩) (hf : opnd d T f = .func (.func k) ⟨first⟩ ⟨cap⟩) (h : call k (first ++ (args.toList.map (opnd d T) ++ cap)) H nx = .ok v H' nx' S W) : Stp H nx H' nx' W ∧ OpOk P G d T H nx o v H' nx' S W := by
  refine enter_ok hcall hpar h fun ρ a w hr => ?_
  have hf' := hr f (by rw [hop]; simp [Op.operands, Call.operands])
  rw [hf] at hf'
  obtain ⟨a', b', he, ha, hb⟩ := func_inv hf'
  have hl : RL ρ (args.toList.map (opnd d T)) (args.toList.map a.eval) := RL.of_map fun z hz => hr z (by rw [hop]; simp [Op.operands, Call.operands]; exact .inr (by simpa using hz))
  refine ⟨a' ++ (args.toList.map a.eval ++ b'), ha.append (hl.append hb), fun ⟨fn, h1, h2, h3⟩ => ?_⟩
  have e : execOp a.eval o = callFunc k ((⟨a'⟩ ++ args.map a.eval) ++ ⟨b'⟩) := by
    unfold execOp
    rw [hop]
    show (do let d ← resolve a.eval ⟨.value f, args, ts⟩ o.type; invoke d.target d.args) = _
    simp only [resolve, he, Deferred.ofValue, pure_bind, invoke]
  rw [e, callFunc_run h1 h2 h3]
  congr 2
  apply Array.toList_inj.1
  simp
theorem iface_inv {ρ : Env} {t : TypeId} {v u : Value} (h : R ρ (.iface t v) u) : ∃ v', u = .iface t v' ∧ R ρ v v' := by
  cases h with
  | flat _ hf => exact ⟨v, rfl, .flat v (flat_of_flat1 (by simpa [Ev.flat] using hf))⟩
  | iface _ _ v' h => exact ⟨v', rfl, h⟩
theorem evInvoke_ok {call : FuncId → List Value → Hp → Nat → Rs} (hcall : CallOk P G call) {T : Tri Value} {H H' : Hp} {nx nx' S W : Nat} {v : Value} {recv : Operand} {name : String} {args : Array Operand} {ts : Array TypeId} (hpar : nx % 2 = 0)
    (hop : o.op = .call ⟨.invoke recv name, args, ts⟩) (h : evInvoke P call H nx (opnd d T recv) name (args.toList.map (opnd d T)) = .ok v H' nx' S W) : Stp H nx H' nx' W ∧ OpOk P G d T H nx o v H' nx' S W := by
  unfold evInvoke at h
  split at h
  case h_2 => cases h
  rename_i t x hx
  split at h
  case h_2 => cases h
  rename_i i f r hi hmeth
  split at h
  case h_2 => cases h
  rename_i m hm
  split at h
  case h_2 => cases h
  rename_i hpath hpl
  refine enter_ok hcall hpar h fun ρ a w hr => ?_
  have hf' := hr recv (by rw [hop]; simp [Op.operands, Call.operands])
  rw [hx] at hf'
  obtain ⟨x', he, hxr⟩ := iface_inv hf'
  have hl : RL ρ (args.toList.map (opnd d T)) (args.toList.map a.eval) := RL.of_map fun z hz => hr z (by rw [hop]; simp [Op.operands, Call.operands]; exact .inr (by simpa using hz))
  refine ⟨x' :: args.toList.map a.eval, .cons _ _ _ _ hxr hl, fun ⟨fn, h1, h2, h3⟩ => ?_⟩
  have e : execOp a.eval o = callMethod (.iface t x') name ((#[Value.iface t x'] ++ args.map a.eval).extract 1 (#[Value.iface t x'] ++ args.map a.eval).size) := by
    unfold execOp
    rw [hop]
    show (do let d ← resolve a.eval ⟨.invoke recv name, args, ts⟩ o.type; invoke d.target d.args) = _
    simp only [resolve, he, pure_bind, invoke]
    have h0 : (#[Value.iface t x'] ++ args.map a.eval)[0]? = some (.iface t x') := by rw [Array.getElem?_append_left (by show 0 < 1; omega)]; rfl
    rw [h0]
  rw [e]
  unfold callMethod
  dsimp only
  rw [Sem.run_bind, run_program, Result.andThen_ok, Sem.run_bind, prun_sound (method_rel hi hm hpath hpl hmeth x') w, Result.andThen_ok]
  dsimp only
  rw [callFunc_run h1 h2 h3]
  congr 2
  apply Array.toList_inj.1
  simp only [Array.toList_append, Array.toList_extract, Array.toList_map, Array.size_append, Array.size_map, List.cons_append, List.nil_append]
  simp
  first | exact List.take_of_length_le (by rw [List.length_map, Array.length_toList]; exact Nat.le_refl _) | exact (List.take_of_length_le (by rw [List.length_map, Array.length_toList]; exact Nat.le_refl _)).symm
end
end Go.Proofs.YtlegcfjafdihlaaGreatDoor.Ev

/-
  The evaluator of calls at given arguments, and its soundness: part T. It speaks of any program.
-/
namespace Go.Proofs.YtlegcfjafdihlaaGreatDoor.Ev
open Go.RowKit
set_option linter.unusedSimpArgs false
set_option linter.unusedVariables false

section
variable {d : Nat} {P : Program} {G : Env} {o : Oper}
theorem iadd_eq (a b : Int) : iadd a b = a + b := by cases a <;> cases b <;> rfl
theorem isub_eq (a b : Int) : isub a b = a - b := by
  cases a with
  | ofNat a => cases b with
    | ofNat b =>
      unfold isub
      dsimp only
      cases h : Nat.ble b a with
      | true => have := Nat.le_of_ble_eq_true h; dsimp only; show ((a - b : Nat) : Int) = (a : Int) - b; omega
      | false =>
        have hlt : a < b := by
          rcases Nat.lt_or_ge a b with k | k
          · exact k
          · rw [Nat.ble_eq_true_of_le k] at h; cases h
        dsimp only
        show Int.negSucc (b - a - 1) = (a : Int) - b
        omega
    | negSucc b => rfl
  | negSucc a => cases b <;> rfl
theorem ieq_eq (a b : Int) : ieq a b = (a == b) := by
  rw [Bool.eq_iff_iff, beq_iff_eq]
  cases a with
  | ofNat a => cases b with
    | ofNat b =>
      show Nat.beq a b = true ↔ _
      rw [Nat.beq_eq]
      exact ⟨fun h => by rw [h], fun h => Int.ofNat.inj h⟩
    | negSucc b => exact ⟨fun h => (by cases h), fun h => (by cases h)⟩
  | negSucc a => cases b with
    | ofNat b => exact ⟨fun h => (by cases h), fun h => (by cases h)⟩
    | negSucc b =>
      show Nat.beq a b = true ↔ _
      rw [Nat.beq_eq]
      exact ⟨fun h => by rw [h], fun h => Int.negSucc.inj h⟩
theorem ilt_eq (a b : Int) : ilt a b = decide (a < b) := by
  rw [Bool.eq_iff_iff, decide_eq_true_eq]
  cases a with
  | ofNat a => cases b with
    | ofNat b =>
      show Nat.blt a b = true ↔ (a : Int) < b
      rw [Nat.blt_eq]; omega
    | negSucc b =>
      show false = true ↔ (a : Int) < Int.negSucc b
      exact ⟨fun h => (by cases h), fun h => (by omega)⟩
  | negSucc a => cases b with
    | ofNat b =>
      show true = true ↔ Int.negSucc a < (b : Int)
      exact ⟨fun _ => (by omega), fun _ => rfl⟩
    | negSucc b =>
      show Nat.blt b a = true ↔ _
      rw [Nat.blt_eq]; omega
theorem iwrap_eq (k : IntKind) (n : Int) : iwrap k n = k.wrap n := by
  cases n with
  | negSucc n => rfl
  | ofNat n =>
    unfold iwrap
    dsimp only
    cases hb : Nat.blt n 9223372036854775808 with
    | false => cases k <;> rfl
    | true =>
      cases k <;> try rfl
      have hn : n < 9223372036854775808 := by rw [Nat.blt_eq] at hb; exact hb
      have e : (Int.ofNat n) % (2 ^ IntKind.i64.bits : Int) = Int.ofNat n := Int.emod_eq_of_lt (Int.natCast_nonneg n) (by show (n : Int) < 2 ^ 64; omega)
      unfold IntKind.wrap
      simp only [e]
      rw [if_neg]
      intro h
      simp only [Bool.and_eq_true, decide_eq_true_eq] at h
      have h2 : (2 : Int) ^ (IntKind.i64.bits - 1) = 2 ^ 63 := rfl
      have h3 : (Int.ofNat n) = (n : Int) := rfl
      omega
theorem evInt_run {op : BinOp} {k : IntKind} {a b : Int} {v : Value} {t : TypeId} {x y : Operand} {ty : TypeId} {f : Operand → Value} (hop : o.op = .binOp op t x y ty) (hx : f x = .int k a) (hy : f y = .int k b) (h : evInt op k a b = some v) : prun P (execOp f o) = some (.value v) ∧ flat v = true := by
  have hrun : execOp f o = ((do eqGuard op t x y (f x) (f y); binOp op t (f x) (f y)) >>= fun x => pure (Next.value x)) := by unfold execOp; rw [hop]
  rw [hrun, hx, hy]
  have hg : prun P (eqGuard op t x y (.int k a) (.int k b)) = some () := by cases op <;> rfl
  rw [prun_bind, prun_bind, hg, Option.bind_some]
  have hb : prun P (binOp op t (.int k a) (.int k b)) = some v ∧ flat v = true := by
    cases op <;> simp only [evInt, Option.some.injEq] at h <;> first
      | (cases h; done)
      | (subst h
         simp only [iwrap_eq, iadd_eq, isub_eq, ieq_eq, ilt_eq]
         unfold binOp
         simp only [ne_eq, not_true_eq_false, if_false]
         refine ⟨?_, rfl⟩
         first
           | rfl
           | (simp only [Op.intCmp, prun_pure, Option.some.injEq, Value.bool.injEq]
              first | rfl | (rw [Bool.eq_iff_iff]; simp; try omega)))
  rw [hb.1]
  exact ⟨rfl, hb.2⟩
theorem flat_run {T : Tri Value} {H : Hp} {nx : Nat} {v : Value} (hs : ∀ cs b, o.op ≠ .select cs b) (hf : ∀ x ∈ o.op.operands, flat (opnd d T x) = true) (h : prun P (execOp (opnd d T) o) = some (.value v)) (hv : flat v = true) : OpOk P G d T H nx o v H nx 0 0 := by
  refine opOk_quiet fun ρ h0 w a g _ hr => ?_
  have e : execOp a.eval o = execOp (opnd d T) o := execOp_congr o hs fun x hx => (hr x hx).flat_inv (hf x hx)
  exact ⟨v, by rw [e]; exact prun_sound h w, .flat v hv⟩
theorem evFlat_ok {T : Tri Value} {H H' : Hp} {nx nx' S W : Nat} {v : Value} (hs : ∀ cs b, o.op ≠ .select cs b) (h : evFlat P d T H nx o = .ok v H' nx' S W) : Stp H nx H' nx' W ∧ OpOk P G d T H nx o v H' nx' S W := by
  unfold evFlat at h
  split at h
  case h_2 => cases h
  rename_i hall
  split at h
  case h_2 => cases h
  rename_i u hu
  split at h
  case h_2 => cases h
  rename_i hv
  cases h
  exact ⟨Stp.refl _ _, flat_run hs (fun x hx => List.all_eq_true.1 hall x (by simpa using hx)) hu hv⟩
theorem evRun_ok {T : Tri Value} {H H' : Hp} {nx nx' S W : Nat} {v : Value} (hh : handsOn o.op = true) (h : evRun P d T H nx o = .ok v H' nx' S W) : Stp H nx H' nx' W ∧ OpOk P G d T H nx o v H' nx' S W := by
  unfold evRun at h
  split at h
  case h_2 => cases h
  rename_i u hu
  cases h
  exact ⟨Stp.refl _ _, opOk_quiet fun ρ h0 w a g _ hr => handsOn_rel hh hr hu w⟩
theorem evPure_ok {T : Tri Value} {H H' : Hp} {nx nx' S W : Nat} {v : Value} (hs : ∀ cs b, o.op ≠ .select cs b) (h : evPure P d T H nx o = .ok v H' nx' S W) : Stp H nx H' nx' W ∧ OpOk P G d T H nx o v H' nx' S W := by
  unfold evPure at h
  split at h
  · exact evRun_ok ‹_› h
  · exact evFlat_ok hs h
theorem hands_ok {T : Tri Value} {H : Hp} {nx : Nat} {v : Value} (hh : handsOn o.op = true) (h : prun P (execOp (opnd d T) o) = some (.value v)) : Stp H nx H nx 0 ∧ OpOk P G d T H nx o v H nx 0 0 :=
  ⟨Stp.refl _ _, opOk_quiet fun ρ h0 w a g _ hr => handsOn_rel hh hr h w⟩
theorem evField_run {T : Tri Value} {H H' : Hp} {nx nx' S W : Nat} {v : Value} {t : TypeId} {i : Nat} {x : Operand} (hop : o.op = .field t x i) (h : evField P t i (opnd d T x) H nx = .ok v H' nx' S W) : prun P (execOp (opnd d T) o) = some (.value v) ∧ H' = H ∧ nx' = nx ∧ S = 0 ∧ W = 0 := by
  unfold evField at h
  split at h
  case h_2 => cases h
  rename_i cs hx
  have hinfo : ∀ {off : Nat} {b : Bool} {n : Nat}, prun P (fieldInfo t i) = some (off, b, n) → ∃ fs f, prun P (underlying t) = some (.struct fs) ∧ fs[i]? = some f ∧ f.offset = off ∧ prun P (isAgg f.type) = some b ∧ prun P (sizeOf f.type) = some n := by
    intro off b n hi
    unfold fieldInfo at hi
    rw [prun_bind] at hi
    obtain ⟨dd, hd, hi⟩ := opt_bind hi
    split at hi
    · rename_i fs
      split at hi
      · rename_i f hf
        rw [prun_bind] at hi
        obtain ⟨a, ha, hi⟩ := opt_bind hi
        rw [prun_bind] at hi
        obtain ⟨n2, hn, hi⟩ := opt_bind hi
        simp only [prun_pure, Option.some.injEq, Prod.mk.injEq] at hi
        obtain ⟨rfl, rfl, rfl⟩ := hi
        exact ⟨fs, f, hd, hf, rfl, ha, hn⟩
      · simp [prun, stuck] at hi
    · simp [prun, stuck] at hi
  have hrun : execOp (opnd d T) o = (Instr.field t (.agg ⟨cs⟩) i >>= fun x => pure (Next.value x)) := by unfold execOp; rw [hop]; dsimp only; rw [hx]
  have hfield : ∀ {fs : Array Field} {f : Field}, prun P (underlying t) = some (.struct fs) → fs[i]? = some f → prun P (Instr.field t (.agg ⟨cs⟩) i) = prun P (part f.type ⟨cs⟩ f.offset) := by
    intro fs f h1 h2
    unfold Instr.field
    rw [prun_bind, h1, Option.bind_some]
    dsimp only
    rw [h2]
    rfl
  split at h
  · rename_i off n hi
    obtain ⟨fs, f, h1, h2, h3, h4, h5⟩ := hinfo hi
    split at h
    case h_2 => cases h
    rename_i u hu
    cases h
    refine ⟨?_, rfl, rfl, rfl, rfl⟩
    rw [lget_eq] at hu
    have hu' : (⟨cs⟩ : Array Value)[off]? = some v := by simpa using hu
    rw [hrun, prun_bind, hfield h1 h2, h3]
    unfold part
    rw [prun_bind, h4, Option.bind_some]
    simp only [Bool.false_eq_true, if_false, hu', prun_pure, Option.bind_some]
  · rename_i off n hi
    obtain ⟨fs, f, h1, h2, h3, h4, h5⟩ := hinfo hi
    split at h
    case h_2 => cases h
    rename_i l hl
    cases h
    refine ⟨?_, rfl, rfl, rfl, rfl⟩
    obtain ⟨e1, e2, e3⟩ := lsub_eq _ _ _ _ hl
    rw [hrun, prun_bind, hfield h1 h2, h3]
    unfold part
    rw [prun_bind, h4, Option.bind_some]
    simp only [if_true]
    rw [prun_bind, h5, Option.bind_some, prun_pure, Option.bind_some, prun_pure]
    congr 3
    apply Array.toList_inj.1
    rw [e1]
    simp [List.extract_eq_take_drop]
  · cases h
theorem evExtract_run {T : Tri Value} {H H' : Hp} {nx nx' S W : Nat} {v : Value} {i : Nat} {x : Operand} (hop : o.op = .extract x i) (h : evExtract (opnd d T x) i H nx = .ok v H' nx' S W) : prun P (execOp (opnd d T) o) = some (.value v) ∧ H' = H ∧ nx' = nx ∧ S = 0 ∧ W = 0 := by
  unfold evExtract at h
  split at h
  case h_2 => cases h
  rename_i cs hx
  split at h
  case h_2 => cases h
  rename_i u hu
  cases h
  refine ⟨?_, rfl, rfl, rfl, rfl⟩
  rw [lget_eq] at hu
  have hu' : (⟨cs⟩ : Array Value)[i]? = some v := by simpa using hu
  unfold execOp
  rw [hop]
  dsimp only
  rw [hx, prun_bind]
  unfold Instr.extract
  dsimp only
  rw [hu']
  rfl
end
end Go.Proofs.YtlegcfjafdihlaaGreatDoor.Ev

/-
  The evaluator of calls at given arguments, and its soundness: part U. It speaks of any program.
-/
namespace Go.Proofs.YtlegcfjafdihlaaGreatDoor.Ev
open Go.RowKit
set_option linter.unusedSimpArgs false
set_option linter.unusedVariables false

section
variable {d : Nat} {P : Program} {G : Env} {o : Oper}
theorem ro_sub {ρ : Env} {w : World} {l : Loc} {cs ds : List Value} (h : BlkR ρ w l (.ro cs)) {k n : Nat} (hk : lsub cs k n = some ds) : ∃ us, (loadCells ⟨l.blk, l.off + k, none⟩ n).run P w = .ok ⟨us⟩ w ∧ RL ρ ds us := by
  obtain ⟨e1, e2, e3⟩ := lsub_eq _ _ _ _ hk
  obtain ⟨_, _, es, h1, h2⟩ := h
  refine ⟨(es.drop k).take n, ?_, e1 ▸ (h1.drop k).take n⟩
  have hl : ((es.drop k).take n).length = n := by simp [h1.length]; omega
  have := run_loadCells_list (P := P) w ⟨l.blk, l.off + k, none⟩ ((es.drop k).take n) (fun j v hv => by
    rw [add_none]
    have hj : j < n := by have := (List.getElem?_eq_some_iff.1 hv).1; omega
    rw [List.getElem?_take, if_pos hj, List.getElem?_drop] at hv
    have := h2 _ v hv
    rw [Nat.add_assoc]; exact this)
  rw [hl] at this
  exact this
theorem load_ro_ok {T : Tri Value} {H : Hp} {nx : Nat} {t : TypeId} {x : Operand} {n off : Nat} {cs : List Value} {v : Value} (hop : o.op = .load t x) (hx : opnd d T x = .pointer (some ⟨n, off, none⟩)) (hb : H.at n = some (.ro cs))
    (hv : (∃ sz ds, prun P (isAgg t) = some true ∧ prun P (sizeOf t) = some sz ∧ lsub cs off sz = some ds ∧ v = .agg ⟨ds⟩) ∨ (prun P (isAgg t) = some false ∧ lget cs off = some v)) : OpOk P G d T H nx o v H nx (bit n) 0 := by
  refine opOk_quiet fun ρ h w a g hS hr => ?_
  have h1 := hr x (by rw [hop]; simp [Op.operands])
  rw [hx] at h1
  obtain ⟨_, l, hl, hp1⟩ := h1.ptr_inv
  obtain ⟨hh, hbl⟩ := g.at hl (hS n (bit_self n)) hb
  rcases hv with ⟨sz, ds, ha, hs, hsub, rfl⟩ | ⟨ha, hget⟩
  · obtain ⟨us, hu, hrl⟩ := ro_sub (P := P) hbl hsub
    refine ⟨.agg ⟨us⟩, ?_, .agg _ _ hrl⟩
    simp only [execOp, hop, hp1, Instr.loadAt, Instr.sureAddr, loadVar, Sem.run_bind, Sem.run_pure, Result.andThen_ok, prun_sound ha w, prun_sound hs w, hu, if_true]
  · rw [lget_eq] at hget
    obtain ⟨_, _, es, k1, k2⟩ := hbl
    obtain ⟨u, hu, hru⟩ := k1.at hget
    refine ⟨u, ?_, hru⟩
    simp only [execOp, hop, hp1, Instr.loadAt, Instr.sureAddr, loadVar, Sem.run_bind, Sem.run_pure, Result.andThen_ok, prun_sound ha w, Bool.false_eq_true, if_false, run_load, k2 _ u hu]
theorem load2_inv {t : TypeId} {H H' : Hp} {nx nx' n off S W : Nat} {cs : List Value} {v : Value} (h : evLoad2 P t H nx n off cs = .ok v H' nx' S W) :
    ((∃ sz ds, prun P (isAgg t) = some true ∧ prun P (sizeOf t) = some sz ∧ lsub cs off sz = some ds ∧ v = .agg ⟨ds⟩) ∨ (prun P (isAgg t) = some false ∧ lget cs off = some v)) ∧ H' = H ∧ nx' = nx ∧ S = bit n ∧ W = 0 := by
  unfold evLoad2 at h
  split at h
  · rename_i ha
    split at h
    case h_2 => cases h
    rename_i sz hs
    split at h
    case h_2 => cases h
    rename_i ds hsub
    cases h
    exact ⟨.inl ⟨sz, ds, ha, hs, hsub, rfl⟩, rfl, rfl, rfl, rfl⟩
  · rename_i ha
    split at h
    case h_2 => cases h
    rename_i u hu
    cases h
    exact ⟨.inr ⟨ha, hu⟩, rfl, rfl, rfl, rfl⟩
  · cases h
theorem newRow_inv {H H' : Hp} {nx nx' S W : Nat} {cs : List Value} {e : TypeId} {f : Addr → Value} {v : Value} (h : newRow' H nx cs e f = .ok v H' nx' S W) : nx + 1 < 2 ^ dep ∧ v = f ⟨nx, 0, none⟩ ∧ H' = H.set dep nx (some (.row cs e 1)) ∧ nx' = nx + 2 ∧ S = bit nx ∧ W = bit nx := by
  unfold newRow' at h
  split at h
  · rename_i hb
    cases h
    exact ⟨by rw [Nat.blt_eq] at hb; exact hb, rfl, rfl, rfl, rfl, rfl⟩
  · cases h
theorem stp_row {H : Hp} {nx : Nat} {b : Option AB} (hb : nx + 1 < 2 ^ dep) : Stp H nx (H.set dep nx b) (nx + 2) (bit nx) := Stp.set (by omega) (fun _ => by omega) (by omega)
theorem opts_flat {T : Tri Value} {x : Option Operand} (h : allFlat (x.map (opnd d T)) = true) : x.all (fun x => flat (opnd d T x)) = true := by cases x with
  | none => rfl
  | some x => simpa [allFlat] using h
theorem evOp_ok {call : FuncId → List Value → Hp → Nat → Rs} (hcall : CallOk P G call) {T : Tri Value} {H : Hp} {nx : Nat} {v : Value} {H' : Hp} {nx' S W : Nat} (hpar : nx % 2 = 0) (hs : ∀ cs b, o.op ≠ .select cs b) (h : evOp P call d T H nx o = .ok v H' nx' S W) :
    Stp H nx H' nx' W ∧ OpOk P G d T H nx o v H' nx' S W := by
  unfold evOp at h
  cases hop : o.op
  case move x => rw [hop] at h; cases h; exact hands_ok (by rw [hop]; rfl) (by unfold execOp; rw [hop]; rfl)
  case assign x => rw [hop] at h; cases h; exact hands_ok (by rw [hop]; rfl) (by unfold execOp; rw [hop]; rfl)
  case load t x =>
    rw [hop] at h
    dsimp only at h
    unfold evLoad at h
    split at h
    case h_2 => cases h
    rename_i n off hx
    split at h
    · rename_i cs e es hat
      obtain ⟨h1, rfl, rfl, rfl, rfl⟩ := load2_inv h
      exact ⟨Stp.refl _ _, load_ok hop hx hat h1⟩
    · rename_i cs hat
      obtain ⟨h1, rfl, rfl, rfl, rfl⟩ := load2_inv h
      exact ⟨Stp.refl _ _, load_ro_ok hop hx hat h1⟩
    · cases h
  case store t x y =>
    rw [hop] at h
    dsimp only at h
    unfold evStore at h
    split at h
    case h_2 => cases h
    rename_i n off hx
    split at h
    case h_2 => cases h
    rename_i cs e es hat
    split at h
    rename_i vs hvs
    unfold evStore2 at h
    split at h
    case h_2 => cases h
    rename_i sz hsz
    split at h
    case h_2 => cases h
    rename_i hc
    rw [Bool.and_eq_true] at hc
    have hl := Nat.eq_of_beq_eq_true hc.1
    rw [llen_eq] at hl
    split at h
    case h_2 => cases h
    rename_i cs' hput
    cases h
    exact ⟨Stp.set (Nat.le_refl _) id (at_lt hat), store_ok hop hx hat hsz hvs hl hc.2 hput (at_lt hat)⟩
  case alloc t =>
    rw [hop] at h
    dsimp only at h
    unfold evAlloc at h
    split at h
    case h_2 => cases h
    rename_i z hz
    split at h
    rename_i cs hcs
    split at h
    case h_2 => cases h
    rename_i hfl
    obtain ⟨h1, rfl, rfl, rfl, rfl, rfl⟩ := newRow_inv h
    exact ⟨stp_row h1, alloc_ok hop hz hcs hfl h1⟩
  case box t x =>
    rw [hop] at h
    dsimp only at h
    unfold evBox at h
    split at h
    rename_i cs hcs
    split at h
    case h_2 => cases h
    obtain ⟨h1, rfl, rfl, rfl, rfl, rfl⟩ := newRow_inv h
    exact ⟨stp_row h1, box_ok hop hcs h1⟩
  case fieldAddr s x i =>
    rw [hop] at h
    dsimp only at h
    unfold evFieldAddr at h
    split at h
    case h_2 => cases h
    rename_i n off hx
    split at h
    case h_2 => cases h
    rename_i fs hu
    split at h
    case h_2 => cases h
    rename_i f hf
    split at h
    case h_2 => cases h
    rename_i k hk
    split at h
    case h_2 => cases h
    rename_i hk0
    rw [Nat.blt_eq] at hk0
    cases h
    obtain ⟨k', rfl⟩ : ∃ k', k = k' + 1 := ⟨k - 1, by omega⟩
    exact ⟨Stp.refl _ _, fieldAddr_ok hop hu hf hx hk⟩
  case indexAddr t x i =>
    rw [hop] at h
    dsimp only at h
    unfold evIndexAddr at h
    split at h
    case h_2 => cases h
    rename_i kk k hi
    split at h
    · rename_i e n off len c hu hx
      split at h
      case h_2 => cases h
      rename_i sz hsz hlt
      rw [Nat.blt_eq] at hlt
      cases h
      exact ⟨Stp.refl _ _, indexAddr_slice_ok hop hi hu hx hsz ⟨Int.natCast_nonneg k, by exact Int.ofNat_lt.2 hlt⟩⟩
    · rename_i len e n off hu hx
      split at h
      case h_2 => cases h
      rename_i sz hsz hlt
      rw [Nat.blt_eq] at hlt
      cases h
      exact ⟨Stp.refl _ _, indexAddr_array_ok hop hi hu hx hsz ⟨Int.natCast_nonneg k, by exact Int.ofNat_lt.2 hlt⟩⟩
    · cases h
  case field t x i =>
    rw [hop] at h
    obtain ⟨h1, rfl, rfl, rfl, rfl⟩ := evField_run hop h
    exact hands_ok (by rw [hop]; rfl) h1
  case extract x i =>
    rw [hop] at h
    obtain ⟨h1, rfl, rfl, rfl, rfl⟩ := evExtract_run hop h
    exact hands_ok (by rw [hop]; rfl) h1
  case build t ps =>
    rw [hop] at h
    dsimp only at h
    unfold evBuild at h
    split at h
    case h_2 => cases h
    rename_i z hz
    split at h
    case h_2 => cases h
    rename_i hfl
    unfold evRun at h
    split at h
    case h_2 => cases h
    rename_i u hu
    cases h
    refine ⟨Stp.refl _ _, opOk_quiet fun ρ h0 w a g _ hr => ?_⟩
    have e1 : ∀ f, execOp f o = (Instr.build t (ps.map fun (i, x) => (i, f x)) >>= fun x => pure (Next.value x)) := by intro f; unfold execOp; rw [hop]
    rw [e1] at hu
    have hps : PL ρ (ps.map fun (i, x) => (i, opnd d T x)).toList (ps.map fun (i, x) => (i, a.eval x)).toList := by
      simp only [Array.toList_map]
      exact PL.of_map fun x hx => hr x (by rw [hop]; simpa [Op.operands] using hx)
    obtain ⟨u2, k1, k2⟩ := build_rel hps (fun z2 hz2 => by rw [hz] at hz2; cases hz2; exact hfl) (prun_map_value hu)
    exact ⟨u2, by rw [e1]; exact run_map_value k1 w, k2⟩
  case makeSlice t l c =>
    rw [hop] at h
    dsimp only at h
    unfold evMake at h
    split at h
    case h_2 => cases h
    rename_i e k1 l' k2 c' hu hl hc
    split at h
    case h_2 => cases h
    rename_i i sz z hi hsz hz
    split at h
    rename_i zs hzs
    split at h
    case h_2 => cases h
    rename_i hcond
    simp only [Bool.and_eq_true, decide_eq_true_eq] at hcond
    obtain ⟨⟨⟨c1, c2⟩, c3⟩, c4⟩ := hcond
    have c2 := Nat.eq_of_beq_eq_true c2
    rw [llen_eq] at c2
    rw [Nat.blt_eq] at c3
    obtain ⟨h1, rfl, rfl, rfl, rfl, rfl⟩ := newRow_inv h
    exact ⟨stp_row h1, makeSlice_ok hop hu hl hc hi hsz hz hzs c1 c2 c3 c4 h1⟩
  case buildSlice t len ps =>
    rw [hop] at h
    dsimp only at h
    unfold evBuildSlice at h
    split at h
    case h_2 => cases h
    rename_i e hu
    split at h
    case h_2 => cases h
    rename_i sz z hsz hz
    split at h
    rename_i zs hzs
    split at h
    case h_2 => cases h
    rename_i hcond
    simp only [Bool.and_eq_true] at hcond
    obtain ⟨⟨⟨c1, c2⟩, c3⟩, c4⟩ := hcond
    have c1 := Nat.le_of_ble_eq_true c1
    have c2 := Nat.eq_of_beq_eq_true c2
    rw [llen_eq] at c2
    rw [Nat.blt_eq] at c3
    split at h
    case h_2 => cases h
    rename_i cs hfill
    obtain ⟨h1, rfl, rfl, rfl, rfl, rfl⟩ := newRow_inv h
    refine ⟨stp_row h1, buildSlice_ok hop hu hsz hz hzs c1 c2 c3 c4 ?_ h1⟩
    rw [Array.toList_map]
    exact hfill
  case slice t x lo hi mx =>
    rw [hop] at h
    dsimp only at h
    split at h
    · exact evFlat_ok hs h
    · exact evFlat_ok hs h
    · unfold evSlice at h
      split at h
      · rename_i e n off len cap hu hx
        split at h
        case h_2 => cases h
        rename_i hf
        simp only [Bool.and_eq_true] at hf
        split at h
        case h_2 => cases h
        rename_i l hh m sz hb hsz
        split at h
        · rename_i hn
          cases h
          exact ⟨Stp.refl _ _, slice_even_ok hop hu hx (opts_flat hf.1.1) (opts_flat hf.1.2) (opts_flat hf.2) hb hsz (Nat.eq_of_beq_eq_true hn)⟩
        · split at h
          case h_2 => cases h
          rename_i cs ee es hat
          split at h
          case h_2 => cases h
          rename_i hc
          simp only [Bool.and_eq_true, Bool.or_eq_true] at hc
          have c2 := hc.1.2
          rw [Nat.blt_eq] at c2
          cases h
          refine ⟨Stp.refl _ _, slice_open_ok hop hu hx (opts_flat hf.1.1) (opts_flat hf.1.2) (opts_flat hf.2) hb hsz hat (Nat.eq_of_beq_eq_true hc.1.1) c2 ?_⟩
          rcases hc.2 with h3 | h3
          · left; cases mx <;> simp at h3 ⊢
          · right; rw [Nat.blt_eq, llen_eq] at h3; exact h3
      · rename_i n' e n off hu hx
        split at h
        case h_2 => cases h
        rename_i hf
        simp only [Bool.and_eq_true] at hf
        split at h
        case h_2 => cases h
        rename_i l hh m sz hb hsz
        cases h
        exact ⟨Stp.refl _ _, slice_array_ok hop hu hx (opts_flat hf.1.1.1) (opts_flat hf.1.1.2) (opts_flat hf.1.2) hb hsz (Nat.eq_of_beq_eq_true hf.2)⟩
      · cases h
  case binOp op t x y ty =>
    rw [hop] at h
    dsimp only at h
    have h2 : ∀ {v H' nx' S W}, evBin2 P d T H nx o op t (opnd d T x) (opnd d T y) = .ok v H' nx' S W → Stp H nx H' nx' W ∧ OpOk P G d T H nx o v H' nx' S W := by
      intro v H' nx' S W h
      unfold evBin2 at h
      split at h
      · exact evFlat_ok hs h
      · unfold evNil at h
        split at h
        case h_2 => cases h
        rename_i dd hd
        split at h
        case h_2 => cases h
        rename_i hsh
        have fin : ∀ b, (op = .eql ∧ b = false ∨ op = .neq ∧ b = true) → OpOk P G d T H nx o (.bool b) H nx 0 0 := fun b hb =>
          opOk_quiet fun ρ h0 w a g _ hr => ⟨.bool b, nilEq_run hop hb hd (nilShape_rel hsh (hr x (by rw [hop]; simp [Op.operands])) (hr y (by rw [hop]; simp [Op.operands]))) w, .flat _ rfl⟩
        split at h
        · cases h; exact ⟨Stp.refl _ _, fin false (.inl ⟨rfl, rfl⟩)⟩
        · cases h; exact ⟨Stp.refl _ _, fin true (.inr ⟨rfl, rfl⟩)⟩
        · cases h
    unfold evBin at h
    split at h
    · rename_i k a k' b hx hy
      split at h
      · rename_i hk
        have hk := of_decide_eq_true hk
        subst hk
        split at h
        · rename_i u hu
          cases h
          obtain ⟨r1, r2⟩ := evInt_run (o := o) (f := opnd d T) hop hx hy hu
          refine ⟨Stp.refl _ _, flat_run hs (fun z hz => ?_) r1 r2⟩
          rw [hop] at hz
          simp only [Op.operands, List.mem_toArray, List.mem_cons, List.not_mem_nil, or_false] at hz
          rcases hz with rfl | rfl
          · rw [hx]; rfl
          · rw [hy]; rfl
        · exact evFlat_ok hs h
      · exact evFlat_ok hs h
    · exact h2 h
  case nilCheck x =>
    rw [hop] at h
    dsimp only at h
    unfold evNilCheck at h
    split at h
    case h_2 => cases h
    rename_i ad hx
    cases h
    refine ⟨Stp.refl _ _, opOk_quiet fun ρ h0 w a g _ hr => ?_⟩
    have h1 := hr x (by rw [hop]; simp [Op.operands])
    rw [hx] at h1
    refine ⟨a.eval x, ?_, h1⟩
    obtain ⟨n, off, sp⟩ := ad
    obtain ⟨_, l, _, hp1⟩ := h1.ptr_inv
    unfold execOp
    rw [hop]
    dsimp only
    rw [hp1]
    rfl
  case convert s t x =>
    rw [hop] at h
    dsimp only at h
    unfold evConv at h
    split at h
    · rename_i e n off len cap h1 h2 hx
      split at h
      case h_2 => cases h
      rename_i cs ee es he hat
      split at h
      case h_2 => cases h
      rename_i l hl
      split at h
      case h_2 => cases h
      rename_i r hb
      cases h
      exact ⟨Stp.refl _ _, toStr_ok hop h1 h2 hx he hat hl hb⟩
    · rename_i e b h1 h2 hx
      split at h
      case h_2 => cases h
      rename_i he
      split at h
      case h_2 => cases h
      rename_i hc
      rw [Bool.and_eq_true, Nat.blt_eq] at hc
      cases h
      have hnb : nx + 1 < 2 ^ dep := hc.1
      exact ⟨Stp.set (show nx ≤ nx + 2 by omega) (fun _ => (show (nx + 2) % 2 = 0 by omega)) hnb, toBytes_ok hpar hop h1 h2 hx he hnb (Nat.le_of_ble_eq_true hc.2)⟩
    · exact evFlat_ok hs h
  case call c =>
    rw [hop] at h
    dsimp only at h
    obtain ⟨cal, args, ts⟩ := c
    unfold evCallOp at h
    cases cal with
    | value f =>
      dsimp only at h
      split at h
      case h_2 => cases h
      rename_i k first cap hf
      exact callV_ok hcall hpar hop hf h
    | invoke recv name => exact evInvoke_ok hcall hpar hop h
    | builtin b =>
      dsimp only at h
      unfold evBuiltin at h
      split at h
      · rename_i st xt base len cap x hts hargs
        exact evAppend_ok hpar hop hargs hts h
      · rename_i st xt b off len cap x hts hargs
        exact evCopy_ok hop hargs hts h
      · cases h
      · cases h
      · exact evPure_ok hs h
  all_goals
    rw [hop] at h
    exact evPure_ok hs h
end
end Go.Proofs.YtlegcfjafdihlaaGreatDoor.Ev

/-
  The evaluator of calls at given arguments, and its soundness: part V. It speaks of any program.
-/
namespace Go.Proofs.YtlegcfjafdihlaaGreatDoor.Ev
open Go.RowKit
set_option linter.unusedSimpArgs false
set_option linter.unusedVariables false

/-! ### What is held of the code, once -/
def glbB (gs : Nat) : Operand → Bool
  | .tmp _ => true
  | .const v => flat v
  | .global g => gs.testBit g
  | .func _ => true
def notSelect : Op → Bool
  | .select .. => false
  | _ => true
def ltAll (sz : Nat) (l : List Nat) : Bool := l.all fun x => Nat.blt x sz
def notDefer : Op → Bool
  | .defer .. => false
  | _ => true
def opB (gs sz : Nat) (ops : Array Oper) (o : Oper) : Bool :=
  ltAll sz o.dst.toList && ltAll sz (o.looksAt ops) && o.op.operands.toList.all (glbB gs) && notSelect o.op && notDefer o.op
def edgB (j : Nat) (o : Oper) : Bool := o.after.toList.all fun e => !Region.binds .any e || Nat.blt e.on j
def preB (ops : Array Oper) (o : Oper) : List Oper → Nat → Bool
  | [], _ => true
  | oi :: acc, i => (o.after.toList.any (fun e => Region.binds .any e && Nat.beq e.on (i - 1)) || oi.apart ops o) && preB ops o acc (i - 1)
def drB (ops : Array Oper) : List Oper → Nat → List Oper → Bool
  | [], _, _ => true
  | o :: rest, j, acc => edgB j o && preB ops o acc j && drB ops rest (j + 1) (o :: acc)
def slotB (gs sz : Nat) : Operand → Bool
  | .tmp t => Nat.blt t sz
  | x => glbB gs x
def codeB (gs sz : Nat) : Code → Bool
  | .region _ ops draw => ops.toList.all (opB gs sz ops) && (!draw || drB ops ops.toList 0 [])
  | .seq a b => codeB gs sz a && codeB gs sz b
  | .cond c a b => slotB gs sz c && codeB gs sz a && codeB gs sz b
  | .block _ b => codeB gs sz b
  | .loop b => codeB gs sz b
  | .rangeFunc g ps a b => slotB gs sz g && ltAll sz ps.toList && noRange a && noRange b && codeB gs sz a && codeB gs sz b
  | _ => true
def resB (sz : Nat) : ResultVar → Bool
  | .tmp t => Nat.blt t sz
  | .cell a _ => Nat.blt a sz
def fnB (gs : Nat) (fn : Func) : Bool :=
  !(fn.name == "runtime.NumGoroutine") && (match fn.body with | some b => codeB gs fn.ntmps b | none => true) && fn.results.toList.all (resB fn.ntmps)
/-- The functions of a list. -/
def tabF (P : Program) (M : Nat) (f : FuncId) : Option Func := match M.testBit f with
  | true => P.funcs[f]?
  | false => none
def fnsB (P : Program) (gs : Nat) : List Nat → Bool
  | [] => true
  | f :: l => (match P.funcs[f]? with | some fn => fnB gs fn | none => true) && fnsB P gs l
def maskOf : List Nat → Nat
  | [] => 0
  | f :: l => bit f ||| maskOf l
section
variable {P : Program} {G : Env} {gs : Nat} (hG : ∀ g, gs.testBit g = true → ∃ l, G g = some l ∧ l.blk = g ∧ l.off = 0)
include hG
theorem glbB_ok {x : Operand} (h : glbB gs x = true) : glbOk G x := by
  cases x with
  | tmp t => trivial
  | const v => exact h
  | global g => exact hG g h
  | func f => trivial
omit hG in
theorem preB_ok {ops : Array Oper} {o : Oper} : ∀ (acc : List Oper) (j : Nat), preB ops o acc j = true → acc.length = j → ∀ (i : Nat) (oi : Oper), i < j → acc[j - 1 - i]? = some oi → (∃ e ∈ o.after, Region.binds .any e = true ∧ e.on = i) ∨ oi.apart ops o = true
  | [], j, _, hl, i, oi, hi, h => by simp at hl; omega
  | x :: acc, j, h, hl, i, oi, hi, hoi => by
    simp only [preB, Bool.and_eq_true, Bool.or_eq_true] at h
    simp only [List.length_cons] at hl
    by_cases e : i = j - 1
    · subst e
      rw [show j - 1 - (j - 1) = 0 by omega] at hoi
      simp at hoi; subst hoi
      rcases h.1 with h1 | h1
      · left
        obtain ⟨e, he, hb⟩ := List.any_eq_true.1 h1
        rw [Bool.and_eq_true] at hb
        exact ⟨e, by simpa using he, hb.1, Nat.eq_of_beq_eq_true hb.2⟩
      · exact .inr h1
    · rw [show j - 1 - i = (j - 1 - 1 - i) + 1 by omega, List.getElem?_cons_succ] at hoi
      exact preB_ok acc (j - 1) h.2 (by omega) i oi (by omega) hoi
omit hG in
theorem drB_ok {ops : Array Oper} : ∀ (l : List Oper) (j : Nat) (acc : List Oper), drB ops l j acc = true → (∀ k, l[k]? = ops[j + k]?) → acc.length = j → (∀ i, i < j → acc[j - 1 - i]? = ops[i]?) →
    ∀ (k : Nat) (o : Oper), j ≤ k → ops[k]? = some o → (∀ e ∈ o.after, Region.binds .any e = true → e.on < k) ∧ ∀ (i : Nat) (oi : Oper), i < k → ops[i]? = some oi → (∃ e ∈ o.after, Region.binds .any e = true ∧ e.on = i) ∨ oi.apart ops o = true
  | [], j, acc, _, hl, _, _, k, o, hk, ho => by
    have := hl (k - j)
    rw [show j + (k - j) = k by omega, ho] at this
    simp at this
  | x :: l, j, acc, h, hl, hlen, hacc, k, o, hk, ho => by
    simp only [drB, Bool.and_eq_true] at h
    have hx : ops[j]? = some x := by simpa using (hl 0).symm
    by_cases e : k = j
    · subst e
      rw [hx] at ho; cases ho
      refine ⟨fun e he hb => ?_, fun i oi hi hoi => preB_ok acc k h.1.2 hlen i oi hi (by rw [hacc i hi]; exact hoi)⟩
      have := List.all_eq_true.1 h.1.1 e (by simpa using he)
      simp only [hb, Bool.not_true, Bool.false_or] at this
      rw [Nat.blt_eq] at this; exact this
    · refine drB_ok l (j + 1) (x :: acc) h.2 (fun k => by have := hl (k + 1); simpa [Nat.add_assoc, Nat.add_comm 1 k] using this) (by simp [hlen]) (fun i hi => ?_) k o (by omega) ho
      by_cases e2 : i = j
      · subst e2; rw [show i + 1 - 1 - i = 0 by omega]; simpa using hx.symm
      · rw [show j + 1 - 1 - i = (j - 1 - i) + 1 by omega, List.getElem?_cons_succ]; exact hacc i (by omega)
theorem codeB_ok {d sz : Nat} (hsz : sz ≤ 2 ^ d) : ∀ c, codeB gs sz c = true → codeSt G d sz c := by
  intro c
  induction c with
  | region id ops draw =>
    intro h
    simp only [codeB, Bool.and_eq_true, Bool.or_eq_true] at h
    have hop : ∀ (i : Nat) (o : Oper), ops[i]? = some o → opB gs sz ops o = true := fun i o ho => List.all_eq_true.1 h.1 o (by have := Array.mem_of_getElem? ho; simpa using this)
    refine ⟨⟨hsz, fun i o ho dd hd => ?_, fun i o ho x hx => ?_, fun i o ho x hx => ?_⟩, fun hd => ?_, fun i o ho cs b hc => ?_, fun i o ho c hc => ?_⟩
    · have := hop i o ho
      simp only [opB, Bool.and_eq_true] at this
      have h2 := List.all_eq_true.1 this.1.1.1.1 dd (by simp [hd])
      rw [Nat.blt_eq] at h2; exact h2
    · have := hop i o ho
      simp only [opB, Bool.and_eq_true] at this
      have h2 := List.all_eq_true.1 this.1.1.1.2 x hx
      rw [Nat.blt_eq] at h2; exact h2
    · have := hop i o ho
      simp only [opB, Bool.and_eq_true] at this
      exact glbB_ok hG (List.all_eq_true.1 this.1.1.2 x (by simpa using hx))
    · rcases h.2 with h2 | h2
      · rw [hd] at h2; cases h2
      · have := drB_ok ops.toList 0 [] h2 (by simp) rfl (fun i hi => by omega)
        exact ⟨fun i o ho => (this i o (by omega) ho).1, fun i j oi oj hij hi hj => (this j oj (by omega) hj).2 i oi hij hi⟩
    · have := hop i o ho
      simp only [opB, Bool.and_eq_true] at this
      rw [hc] at this
      cases this.1.2
    · have := hop i o ho
      simp only [opB, Bool.and_eq_true] at this
      rw [hc] at this
      cases this.2
  | seq a b iha ihb => intro h; simp only [codeB, Bool.and_eq_true] at h; exact ⟨iha h.1, ihb h.2⟩
  | cond c a b iha ihb =>
    intro h
    simp only [codeB, Bool.and_eq_true] at h
    refine ⟨?_, iha h.1.2, ihb h.2⟩
    have h1 := h.1.1
    cases c with
    | tmp t => simp only [slotB] at h1; rw [Nat.blt_eq] at h1; exact h1
    | const v => exact h1
    | global g => exact hG g h1
    | func f => trivial
  | block id b ih => intro h; exact ih h
  | loop b ih => intro h; exact ih h
  | rangeFunc g ps a b iha ihb =>
    intro h
    simp only [codeB, Bool.and_eq_true] at h
    obtain ⟨⟨⟨⟨⟨h1, h2⟩, h3⟩, h4⟩, h5⟩, h6⟩ := h
    refine ⟨hsz, ?_, fun p hp => ?_, h3, h4, iha h5, ihb h6⟩
    · cases g with
      | tmp t => simp only [slotB] at h1; rw [Nat.blt_eq] at h1; exact h1
      | const v => exact h1
      | global g => exact hG g h1
      | func f => trivial
    · have := List.all_eq_true.1 h2 p hp
      rw [Nat.blt_eq] at this; exact this
  | _ => intro _; trivial
theorem fnsB_ok : ∀ (l : List Nat), fnsB P gs l = true → ∀ f fn, tabF P (maskOf l) f = some fn → FnOk P G f fn
  | [], _, f, fn, h => by simp [tabF, maskOf] at h
  | g :: l, hb, f, fn, h => by
    simp only [fnsB, Bool.and_eq_true] at hb
    unfold tabF at h
    split at h
    case h_2 => cases h
    rename_i hm
    simp only [maskOf, Nat.testBit_or, Bool.or_eq_true, testBit_bit] at hm
    rcases hm with rfl | hm
    · have h1 := hb.1
      rw [h] at h1
      simp only [fnB, Bool.and_eq_true] at h1
      refine ⟨h, by simpa using h1.1.1, fun b hbody => ?_, fun r hr => ?_⟩
      · have h2 := h1.1.2
        rw [hbody] at h2
        exact codeB_ok hG (Nat.le_of_lt Nat.lt_log2_self) b h2
      · have h2 := List.all_eq_true.1 h1.2 r (by simpa using hr)
        cases r <;> (simp only [resB] at h2; rw [Nat.blt_eq] at h2; exact h2)
    · exact fnsB_ok l hb.2 f fn (by unfold tabF; rw [hm]; exact h)
end
/-- **A call without arguments, evaluated.** -/
theorem call0_ok {P : Program} {G : Env} {gs : Nat} (hG : ∀ g, gs.testBit g = true → ∃ l, G g = some l ∧ l.blk = g ∧ l.off = 0) (hm : P.follows .mixedOrders = true) {fs : List Nat} (hfs : fnsB P gs fs = true) {It : Aid} (hIt : ItOk P G It) {fuel f : Nat} {H : Hp} {nx W : Nat} {v : Value}
    (h : evCall0 P (tabF P (maskOf fs)) It fuel f H nx = some (v, W)) (hv : flat v = true) (hpar : nx % 2 = 0) (hfr : ∀ n, nx ≤ n → G n = none) (hW : ∀ n, W.testBit n = true → hp H n = none) (w : World) (hg : Good G G (hp H) w) :
    Calls P f #[] w fun e w' => e = .returned v ∧ Below w.heap.size w w' := by
  unfold evCall0 at h
  split at h
  case h_2 => cases h
  rename_i u H' nx' S W' hrun
  cases h
  have hF := fnsB_ok (P := P) hG fs hfs
  -- the call itself stands as a call of the evaluator's
  have hop : ∀ (call : FuncId → List Value → Hp → Nat → Rs), CallOk P G call → ∀ d T H nx (o : Oper) v H' nx' S W, nx % 2 = 0 → (∀ cs b, o.op ≠ .select cs b) → evOp P call d T H nx o = .ok v H' nx' S W → Stp H nx H' nx' W ∧ OpOk P G d T H nx o v H' nx' S W :=
    fun call hc d T H nx o v H' nx' S W hp hs he => evOp_ok hc hp hs he
  have hcall : CallOk P G (callWith P (tabF P (maskOf fs)) (evCode P (tabF P (maskOf fs)) It fuel)) := callWith_ok hm hIt hF hop fuel
  obtain ⟨_, _, hc⟩ := hcall f [] H nx v H' nx' S W hpar hrun
  have := hc G (hp H) w [] hg (fun _ _ => rfl) (fun n h1 _ => hfr n h1) .nil
  refine this.mono fun e w' he => ?_
  obtain ⟨ρ', u, rfl, hr, hev⟩ := he
  rw [hr.flat_inv hv]
  exact ⟨rfl, hev.os, hev.tape, hev.output, hev.size, fun k hk => hev.frame k hk fun n l hn hne _ => absurd (hW n hn) hne⟩
end Go.Proofs.YtlegcfjafdihlaaGreatDoor.Ev
