/-
  The evaluator of calls at given arguments, and its soundness: part P. It speaks of any program.
-/
import Derived.Test.YtlegcfjafdihlaaGreatDoorEvO
import Derived.Deep.AppendSrc
import Derived.Laws.BytesString
namespace Go.Proofs.YtlegcfjafdihlaaGreatDoor.Ev
open Go.RowKit
set_option linter.unusedSimpArgs false
set_option linter.unusedVariables false

theorem Ev1.of_drew {G ρ ρ' : Env} {h h' : AH} {w w' : World} {a b W k : Nat} (e : Ev1 G ρ h { w with drawn := k } a b W h' ρ' w') : Ev1 G ρ h w a b W h' ρ' w' :=
  ⟨e.sub, e.dom, e.good, e.os, e.tape, e.output, e.size, e.frame, e.nb⟩
/-- A name is given up. -/
theorem Ev1.kill {G ρ ρ' : Env} {h h' h2 : AH} {w w' : World} {a b W k : Nat} (e : Ev1 G ρ h w a b W h' ρ' w') (hk : h2 k = none) (ho : ∀ n, n ≠ k → W.testBit n = true → h2 n = h' n) : Ev1 G ρ h w a b (bit k ||| W) h2 ρ' w' := by
  have hu : ∀ n, upd h (bit k ||| W) h2 n ≠ none → n ≠ k ∧ upd h (bit k ||| W) h2 n = upd h W h' n := by
    intro n hn
    simp only [upd, Nat.testBit_or, Bool.or_eq_true, testBit_bit] at hn ⊢
    by_cases e1 : n = k
    · subst e1; simp [hk] at hn
    · refine ⟨e1, ?_⟩
      by_cases e2 : W.testBit n = true
      · simp [e1, e2, ho n e1 e2]
      · simp [e1, e2]
  refine ⟨e.sub, e.dom, ⟨e.good.base, fun n x hx => ?_, fun n m c1 c2 l l' hn hm => ?_, e.good.even⟩, e.os, e.tape, e.output, e.size, fun B hB hne => e.frame B hB fun n l hn => hne n l (by simp [Nat.testBit_or, hn]), fun n l h1 h3 h4 => ?_⟩
  · obtain ⟨_, h4⟩ := hu n (by rw [hx]; simp)
    exact e.good.sat n x (h4 ▸ hx)
  · obtain ⟨_, h4⟩ := hu n (by rw [hn]; simp)
    obtain ⟨_, h5⟩ := hu m (by rw [hm]; simp)
    exact e.good.sep n m c1 c2 l l' (h4 ▸ hn) (h5 ▸ hm)
  · obtain ⟨_, h5⟩ := hu n h3
    rcases e.nb n l h1 (h5 ▸ h3) h4 with h6 | ⟨m, lm, h6, h7⟩
    · exact .inl h6
    · exact .inr ⟨m, lm, by simp [Nat.testBit_or, h6], h7⟩
/-- A row goes on under another name. -/
theorem Ev1.move {G ρ : Env} {h : AH} {w w' : World} (g : Good G ρ h w) (nx nx' b j : Nat) (hj : nx ≤ j) (hj' : j < nx') (hf : ρ j = none) {l l' : Loc} (hl : ρ b = some l) {x0 : AB} (hb0 : h b = some x0) (hr0 : x0.isRo = false) (hbl : l'.blk = l.blk) (hev : j % 2 = 0 → l'.ex = 0) {x : AB} {h' : AH} (h1 : h' b = none) (h2 : h' j = some x) (hr1 : x.isRo = false)
    (hx : BlkR (fun k => if k = j then some l' else ρ k) w' l' x) (ho : ∀ B, B ≠ l.blk → w'.heap[B]? = w.heap[B]?) (hos : w'.os = w.os) (ht : w'.tape = w.tape) (hout : w'.output = w.output) (hsz : w'.heap.size = w.heap.size) :
    Ev1 G ρ h w nx nx' (bit b ||| bit j) h' (fun k => if k = j then some l' else ρ k) w' := by
  have hb : h b ≠ none := by rw [hb0]; simp
  have hbj : b ≠ j := by rintro rfl; rw [hl] at hf; cases hf
  have hs : Sub ρ (fun k => if k = j then some l' else ρ k) := by
    intro k lk hk
    have : k ≠ j := by rintro rfl; rw [hf] at hk; cases hk
    simp [this, hk]
  have hu : ∀ n, upd h (bit b ||| bit j) h' n = if n = j then some x else if n = b then none else h n := by
    intro n
    simp only [upd, Nat.testBit_or, Bool.or_eq_true, testBit_bit]
    by_cases e1 : n = j
    · subst e1; simp [h2]
    · by_cases e2 : n = b
      · subst e2; simp [hbj, h1]
      · simp [e1, e2]
  refine ⟨hs, ?_, ⟨fun k lk hk => hs k lk (g.base k lk hk), ?_, ?_, ?_⟩, hos, ht, hout, Nat.le_of_eq hsz.symm, ?_, ?_⟩
  · intro k lk hk
    by_cases e : k = j
    · subst e; exact .inr ⟨hj, hj'⟩
    · simp [e] at hk; exact .inl hk
  · intro n y hy
    rw [hu] at hy
    by_cases e1 : n = j
    · subst e1; simp at hy; subst hy; exact ⟨l', by simp, hx⟩
    · by_cases e2 : n = b
      · subst e2; simp [e1] at hy
      · simp [e1, e2] at hy
        obtain ⟨ln, hln, hbn⟩ := g.sat n y hy
        exact ⟨ln, by simp [e1, hln], hbn.mono hs (ho _ (g.sep n b y x0 ln l hy hb0 e2 (by rw [hr0, Bool.and_false]) hln hl))⟩
  · intro n m c1 c2 ln lm hn hm hnm hro hln hlm
    rw [hu] at hn hm
    have other : ∀ k c lk, k ≠ j → (if k = j then some x else if k = b then none else h k) = some c → (if k = j then some l' else ρ k) = some lk → lk.blk ≠ l'.blk := by
      intro k c lk hkj hk hlk
      simp [hkj] at hk hlk
      rw [hbl]
      exact g.sep k b c x0 lk l hk.2 hb0 hk.1 (by rw [hr0, Bool.and_false]) hlk hl
    by_cases e1 : n = j
    · have e2 : m ≠ j := fun e => hnm (e1.trans e.symm)
      have h3 := other m c2 lm e2 hm hlm
      simp [e1] at hln; subst hln
      exact fun h => h3 h.symm
    · by_cases e2 : m = j
      · have h3 := other n c1 ln e1 hn hln
        simp [e2] at hlm; subst hlm
        exact h3
      · simp [e1, e2] at hn hm hln hlm
        exact g.sep n m c1 c2 ln lm hn.2 hm.2 hnm hro hln hlm
  · intro k lk hk hk2
    by_cases e : k = j
    · subst e; simp at hk; subst hk; exact hev hk2
    · simp [e] at hk; exact g.even k lk hk hk2
  · intro B hB hne
    exact ho B fun e => hne b l (by simp [Nat.testBit_or, testBit_bit]) hb hl e.symm
  · intro n ln hn hu2 hln
    rw [hu] at hu2
    by_cases e1 : n = j
    · subst e1
      simp at hln; subst hln
      exact .inr ⟨b, l, by simp [Nat.testBit_or, testBit_bit], hb, hl, hbl.symm⟩
    · simp [e1, hn] at hu2

section
variable {d : Nat} {P : Program} {G : Env} {o : Oper}
theorem vlen_run {ρ : Env} {x y : Value} {n : Nat} (h : vlen x = some n) (hr : R ρ x y) (w : World) : (Builtin.lenOf y).run P w = .ok n w := by
  cases hr with
  | flat v hf =>
    cases x <;> simp only [vlen, Option.some.injEq] at h <;> first | (subst h; rfl) | cases h
  | slice n o k c l hl => simp only [vlen, Option.some.injEq] at h; subst h; rfl
  | _ => simp [vlen] at h
theorem appSrc_run {ρ : Env} {h : AH} {H : Hp} {w : World} {x y : Value} {sz n S : Nat} {l : List Value} (g : Good G ρ h w) (hs : appSrc H sz n x = some (l, S)) (hr : R ρ x y) (hS : ∀ n, S.testBit n = true → h n = hp H n) : ∃ us, RL ρ l us ∧ ∀ k, (Builtin.firstCells sz n y).run P { w with drawn := k } = .ok ⟨us⟩ { w with drawn := k } := by
  unfold appSrc at hs
  split at hs
  · rename_i k c
    cases hs
    have := hr.flat_inv rfl
    subst this
    exact ⟨[], .nil, fun _ => rfl⟩
  · rename_i m off k c
    obtain ⟨_, lo, hl, rfl⟩ := hr.slice_inv
    split at hs
    · rename_i cs e es hat
      split at hs
      · rename_i l2 hsub
        cases hs
        obtain ⟨hh, hbl⟩ := g.at hl (hS m (bit_self m)) hat
        obtain ⟨us, h1, h2⟩ := hbl.sub (P := P) hsub
        refine ⟨us, h2, fun k => ?_⟩
        obtain ⟨us', h1', h2'⟩ := BlkR.sub (w := { w with drawn := k }) (P := P) (ρ := ρ) (l := lo) (cs := cs) (e := e) (es := es) hbl hsub
        obtain ⟨e1, e2, e3⟩ := lsub_eq _ _ _ _ hsub
        obtain ⟨_, ds, c, fz, k1, k2, k3, _⟩ := hbl
        have hlen : ((ds.drop off).take (n * sz)).length = n * sz := by simp [k1.length]; omega
        have key : ∀ w2 : World, w2.heap = w.heap → (loadCells ⟨lo.blk, lo.off + off, none⟩ (n * sz)).run P w2 = .ok ⟨(ds.drop off).take (n * sz)⟩ w2 := by
          intro w2 hw2
          have := run_loadCells_list (P := P) w2 ⟨lo.blk, lo.off + off, none⟩ ((ds.drop off).take (n * sz)) (fun j v hv => by
            rw [add_none]
            have hj : j < n * sz := by have := (List.getElem?_eq_some_iff.1 hv).1; omega
            rw [List.getElem?_take, if_pos hj, List.getElem?_drop] at hv
            have := k3 _ v hv
            simp [World.cell?, hw2, k2, Nat.add_assoc, this])
          rw [hlen] at this
          exact this
        have hw := key w rfl
        rw [h1] at hw
        simp only [Result.ok.injEq, Array.mk.injEq, and_true] at hw
        rw [hw]
        exact key _ rfl
      · cases hs
    · cases hs
  · rename_i s
    cases hs
    have := hr.flat_inv rfl
    subst this
    refine ⟨_, flats (fun v hv => ?_), fun k => ?_⟩
    · obtain ⟨b, _, rfl⟩ := List.mem_map.1 hv; rfl
    · simp only [Builtin.firstCells, Sem.run_pure]
      congr 1
      apply Array.toList_inj.1
      simp
  · cases hs
theorem prun_underlying {t : TypeId} {dd : TypeDesc} (h : prun P (underlying t) = some dd) : P.underlying t = some dd := by
  unfold underlying at h
  rw [prun_bind] at h
  obtain ⟨p, hp, h⟩ := opt_bind h
  have : p = P := by simp only [program, prun, Option.some.injEq] at hp; exact hp.symm
  subst this
  split at h
  · simp only [prun_pure, Option.some.injEq] at h; subst h; assumption
  · simp [prun, stuck] at h
theorem prun_info {t : TypeId} {i : TypeInfo} (h : prun P (typeInfo t) = some i) : P.info? t = some i := by
  unfold typeInfo at h
  rw [prun_bind] at h
  obtain ⟨p, hp, h⟩ := opt_bind h
  have : p = P := by simp only [program, prun, Option.some.injEq] at hp; exact hp.symm
  subst this
  split at h
  · simp only [prun_pure, Option.some.injEq] at h; subst h; assumption
  · simp [prun, stuck] at h
theorem prun_size {t : TypeId} {i : TypeInfo} {n : Nat} (hi : prun P (typeInfo t) = some i) (h : prun P (sizeOf t) = some n) : i.size = n := by
  unfold sizeOf at h
  rw [prun_bind, hi, Option.bind_some, prun_pure] at h
  exact Option.some.inj h
theorem prun_zero {t : TypeId} {i : TypeInfo} {z : Value} (hi : prun P (typeInfo t) = some i) (h : prun P (zeroValue t) = some z) : i.zero = some z := by
  unfold zeroValue at h
  rw [prun_bind, hi, Option.bind_some] at h
  split at h
  · simp only [prun_pure, Option.some.injEq] at h; subst h; assumption
  · simp [prun, unsupported] at h
theorem append_fit {st xt e ty : TypeId} {i : TypeInfo} {b off len cap n : Nat} {y : Value} {us : List Value} {w w' : World} (hu : P.underlying st = some (.slice e)) (hi : P.info? e = some i) (hs : Src P i.size xt y n us w) (hfit : len + n ≤ cap)
    (hst : (storeCells ⟨b, off + len * i.size, none⟩ us).run P w = .ok () w') : (Builtin.append_ #[st, xt] ty #[.slice (some ⟨b, off, none⟩) len cap, y]).run P w = .ok (.slice (some ⟨b, off, none⟩) (len + n) cap) w' := by
  rcases hs.kind with ⟨e', hk⟩ | hk <;> simp [Builtin.append_, run_underlying hu, run_underlying hk, sizeOf, typeInfo, hi, hs.len, hfit, hs.cells, Addr.add_lit, hst]
theorem append_none {st xt e ty : TypeId} {i : TypeInfo} {cap n : Nat} {y : Value} {us : List Value} {w : World} (hu : P.underlying st = some (.slice e)) (hi : P.info? e = some i) (hs : Src P i.size xt y n us w) (hfit : 0 + n ≤ cap) :
    (Builtin.append_ #[st, xt] ty #[.slice none 0 cap, y]).run P w = .ok (.slice none (0 + n) cap) w := by
  have hfit' : n ≤ cap := by omega
  rcases hs.kind with ⟨e', hk⟩ | hk <;> simp [Builtin.append_, run_underlying hu, run_underlying hk, sizeOf, typeInfo, hi, hs.len, hfit', hs.cells]
end
end Go.Proofs.YtlegcfjafdihlaaGreatDoor.Ev
