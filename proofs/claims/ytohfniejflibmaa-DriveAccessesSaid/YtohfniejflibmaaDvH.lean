/-
  Apply of the reference. Condition: at most 2^40 sectors, bad ones and writes.
-/
import Derived.Test.YtohfniejflibmaaDvG
import Derived.Test.YtohfniejflibmaaAld
namespace Go.Proofs.Ytohfniejflibmaa
open Go.RowKit
set_option linter.unusedSimpArgs false
set_option linter.unusedVariables false
set_option maxHeartbeats 4000000
set_option maxRecDepth 100000
attribute [local irreducible] wpQuiet wpQF

theorem alloc_dv (w : World) : (Instr.alloc 25 true (.tuple #[])).run Try.prog w = .ok (ptrAt w.heap.size) (w.alloc (.cells ([.slice none 0 0, .slice none 0 0] : List Value).toArray 25)) := by kernel_rfl
/-- The cells of writes. -/
def flatW (l : List (Int × ByteArray)) : List Value := l.flatMap fun q => [.int .i64 q.1, .string q.2]
theorem flatW_append (a b : List (Int × ByteArray)) : flatW (a ++ b) = flatW a ++ flatW b := List.flatMap_append
theorem flatW_length (l : List (Int × ByteArray)) : (flatW l).length = l.length * 2 := by
  induction l with
  | nil => rfl
  | cons q l ih => show ([_, _] ++ flatW l).length = _; rw [List.length_append, ih]; simp; omega
theorem flatW_get {l : List (Int × ByteArray)} {k : Nat} {q : Int × ByteArray} (hq : l[k]? = some q) : ∀ j v, ([.int .i64 q.1, .string q.2] : List Value)[j]? = some v → (flatW l)[k * 2 + j]? = some v := by
  have hk : k < l.length := (List.getElem?_eq_some_iff.1 hq).1
  intro j v hv
  have e : flatW l = flatW (l.take k) ++ ([.int .i64 q.1, .string q.2] ++ flatW (l.drop (k + 1))) := by
    have e1 : flatW (l.drop k) = [.int .i64 q.1, .string q.2] ++ flatW (l.drop (k + 1)) := by
      rw [List.drop_eq_getElem_cons hk, (List.getElem?_eq_some_iff.1 hq).2]; rfl
    rw [← e1, ← flatW_append, List.take_append_drop]
  have hl : (flatW (l.take k)).length = k * 2 := by rw [flatW_length, List.length_take, Nat.min_eq_left (by omega)]
  rw [e, List.getElem?_append_right (by omega), hl, show k * 2 + j - k * 2 = j from by omega]
  rw [List.getElem?_append_left (List.getElem?_eq_some_iff.1 hv).1]; exact hv
/-- A slice of writes that reads as l. -/
def Wts (w : World) (v : Value) (l : List (Int × ByteArray)) : Prop := Rz w v l.length (flatW l)
theorem Wts.form {w : World} {v : Value} {l : List (Int × ByteArray)} (h : Wts w v l) : ∃ A c, v = .slice A l.length c ∧ l.length ≤ c ∧ ∀ (k : Nat) q, l[k]? = some q → ∃ a : Addr, A = some a ∧ ∀ w', Below w.heap.size w w' → (Instr.loadAt 3 (.pointer (some (a.add (k * 2))))).run Try.prog w' = .ok (.int .i64 q.1) w' ∧ (Instr.loadAt 9 (.pointer (some ((a.add (k * 2)).add 1)))).run Try.prog w' = .ok (.string q.2) w' := by
  have h0 := h
  obtain ⟨⟨A, c, rfl, hk, _⟩, _⟩ := h
  refine ⟨A, c, rfl, hk, fun k q hq => ?_⟩
  have h1 := flatW_get hq 0 _ rfl
  have h2 := flatW_get hq 1 _ rfl
  obtain ⟨a, rfl⟩ := Rz.addr h0 h1
  exact ⟨a, rfl, fun w' hb => ⟨Rz.load (Rz.below h0 hb) int_cell h1, by rw [addr_add]; exact Rz.load (Rz.below h0 hb) str_cell h2⟩⟩
theorem ap_step {D : Drv} {l : List (Int × ByteArray)} {k : Nat} {q : Int × ByteArray} (h : l[k]? = some q) (f : Int) : D.ap (l.drop k) k f = if (k : Int) = f then (D, k, 0) else if (D.wr q.1 q.2).2 = 0 then (D.wr q.1 q.2).1.ap (l.drop (k + 1)) (k + 1) f else (D, k, (D.wr q.1 q.2).2) := by
  have hk : k < l.length := (List.getElem?_eq_some_iff.1 h).1
  rw [List.drop_eq_getElem_cons hk, (List.getElem?_eq_some_iff.1 h).2]; rfl
theorem wr_keep (D : Drv) (k : Int) (s : ByteArray) (h : (D.wr k s).2 = 0) : (D.wr k s).1.S.length = D.S.length ∧ (D.wr k s).1.B = D.B := by
  unfold Drv.wr at *
  split at h
  · rw [if_pos (by assumption)]
    split at h
    · cases h
    · rw [if_neg (by assumption)]
      split at h
      · cases h
      · rw [if_neg (by assumption)]
        exact ⟨List.length_set, rfl⟩
  · cases h

theorem results_ctt {P : Program} {fn : Func} {tmps : Array Value} {w : World} {j k m : Tmp} {T : TypeId} {a : Addr} {v : Value} (hr : fn.results = #[.cell j T, .tmp k, .tmp m]) (ha : tmps.getD j undef = .pointer (some a)) (hl : (Go.loadVar T a).run P w = .ok v w) :
    (results fn tmps).run P w = .ok (.tuple #[v, tmps.getD k undef, tmps.getD m undef]) w := by
  unfold results
  rw [hr]
  have ha' := ha
  rw [Array.getD_eq_getD_getElem?] at ha'
  simp [ha', asAddr, hl]
theorem Bag.perm {l l' : List (Nat × TypeId × List Value)} {w0 w : World} (h : Bag l w0 w) (p : l.Perm l') : Bag l' w0 w :=
  ⟨fun B t cs hm => h.all B t cs (p.mem_iff.2 hm), h.below, fun b hb => h.lo b (p.mem_iff.2 hb), (p.map _).nodup_iff.1 h.dis⟩
theorem Bag.sub {l l' : List (Nat × TypeId × List Value)} {w0 w : World} (h : Bag l w0 w) (p : l'.Sublist l) : Bag l' w0 w :=
  ⟨fun B t cs hm => h.all B t cs (p.mem hm), h.below, fun b hb => h.lo b (p.mem hb), h.dis.sublist (p.map _)⟩
theorem sts_one {w : World} {v : Value} {S : List ByteArray} (h : Sts w v S) : v.oneCell' = true := by obtain ⟨A, c, rfl, _⟩ := h.form; rfl
theorem its_one {w : World} {v : Value} {S : List Int} (h : Its w v S) : v.oneCell' = true := by obtain ⟨A, c, rfl, _⟩ := h.form; rfl
theorem two_one {x y : Value} (hx : x.oneCell' = true) (hy : y.oneCell' = true) : ∀ v ∈ [x, y], v.oneCell' = true := by
  intro u hu; simp at hu; rcases hu with rfl | rfl
  · exact hx
  · exact hy
theorem StsX.over {X : Nat → Prop} {B : Nat} {w w' : World} {v : Value} {S : List ByteArray} (h : StsX X w v S) (hk : ∀ k, k ≠ B → w'.heap[k]? = w.heap[k]?) (hB : X B) : StsX X w' v S := h.off (fun b _ hx => hk b (fun e => hx (e ▸ hB))) (fun _ _ h => h)
theorem ItsX.over {X : Nat → Prop} {B : Nat} {w w' : World} {v : Value} {S : List Int} (h : ItsX X w v S) (hk : ∀ k, k ≠ B → w'.heap[k]? = w.heap[k]?) (hB : X B) : ItsX X w' v S := h.off (fun b _ hx => hk b (fun e => hx (e ▸ hB))) (fun _ _ h => h)
theorem StsX.less {X Y : Nat → Prop} {w : World} {v : Value} {S : List ByteArray} (h : StsX X w v S) (hY : ∀ b, Y b → X b) : StsX Y w v S := h.off (fun _ _ _ => rfl) (fun b _ h => hY b h)
theorem ItsX.less {X Y : Nat → Prop} {w : World} {v : Value} {S : List Int} (h : ItsX X w v S) (hY : ∀ b, Y b → X b) : ItsX Y w v S := h.off (fun _ _ _ => rfl) (fun b _ h => hY b h)
/-- Those of X, and two blocks of the call's own. -/
def OwnA (X : Nat → Prop) (N b : Nat) : Prop := X b ∨ b = N ∨ b = N + 1
/-- And the block of the allocation, if it is done. -/
def XT (O : Nat → Prop) (st : St) (b : Nat) : Prop := O b ∨ ∃ k, st = some (b, k)
def KX (t : TypeId) (zs ns : List Value) (l : List (Nat × TypeId × List Value)) (w0 : World) : St → World → Prop
  | none, w => Bag l w0 w
  | some (B, false), w => Bag ((B, t, zs) :: l) w0 w
  | some (B, true), w => Bag ((B, t, ns) :: l) w0 w
theorem KX.of {t : TypeId} {zs ns : List Value} {l : List (Nat × TypeId × List Value)} {w0 w : World} {s : Option Nat} (h : KB t zs l w0 s w) : KX t zs ns l w0 (s.map (·, false)) w := by
  cases s <;> exact h
theorem KX.new {t : TypeId} {zs ns : List Value} {l : List (Nat × TypeId × List Value)} {w0 w : World} (h : KX t zs ns l w0 none w) : KX t zs ns l w0 (some (w.heap.size, false)) (w.alloc (.cells zs.toArray t)) := Bag.new h t zs
theorem xt_new {O : Nat → Prop} {N : Nat} : ∀ b, b < N → XT O (some (N, false)) b → XT O none b := by
  rintro b hb (h | ⟨k, h⟩)
  · exact .inl h
  · cases h; omega
theorem xt_lt {O : Nat → Prop} {t : TypeId} {zs : List Value} {l : List (Nat × TypeId × List Value)} {w0 w : World} {s : Option Nat} (h : KB t zs l w0 s w) (hO : ∀ b, O b → b < w.heap.size) : ∀ b, XT O (s.map (·, false)) b → b < w.heap.size := by
  rintro b (h1 | ⟨k, h1⟩)
  · exact hO b h1
  · cases s with
    | none => cases h1
    | some B => cases h1; exact ((show Bag _ _ _ from h).all _ _ _ (.head _)).lt
theorem xt_own {O : Nat → Prop} {N : Nat} {s : Option Nat} (h : ∀ b, s = some b → N ≤ b) : ∀ b, b < N → XT O (s.map (·, false)) b → O b := by
  rintro b hb (h1 | ⟨k, h1⟩)
  · exact h1
  · cases s with
    | none => cases h1
    | some B => cases h1; have := h _ rfl; omega
theorem rapply_any (D : Drv) (q : List (Int × ByteArray)) (fz : Int) (hl : D.B.length ≤ 1099511627776) (hl2 : D.S.length ≤ 1099511627776) (hq : q.length ≤ 1099511627776) (vs vb v : Value) (w : World) (X : Nat → Prop) (hXl : ∀ b, X b → b < w.heap.size) (hsX : StsX X w vs D.S) (hbX : ItsX X w vb D.B) (hv : Wts w v q) :
    Calls Try.prog 26 #[.agg #[vs, vb], v, .int .i64 fz] w fun e w' => ∃ x, e = .returned (.tuple #[x, .int .i64 (D.ap q 0 fz).2.1, .int .i64 (D.ap q 0 fz).2.2]) ∧ DvX X w' x (D.ap q 0 fz).1 ∧ Below w.heap.size w w' := by
  obtain ⟨A, c, rfl, _, hc⟩ := hv.form
  have hX := two_dv w [vs, vb] [.slice none 0 0, .slice none 0 0]
  obtain ⟨RR, hRR⟩ : ∃ RR, D.ap q 0 fz = RR := ⟨_, rfl⟩
  rw [hRR]
  replace hRR := hid hRR
  go_enter Try.func26, Try.ntmps26
  go_wp2
  go_loopw [9] (fun iv wr => ∃ (k : Nat) (D1 : Drv) (vs1 vb1 : Value), k ≤ q.length ∧ iv = .int .i64 k ∧ Hid (D1.ap (q.drop k) k fz = RR) ∧ Hid (D1.S.length = D.S.length) ∧ Hid (D1.B = D.B) ∧ StsX (OwnA X w.heap.size) wr vs1 D1.S ∧ ItsX (OwnA X w.heap.size) wr vb1 D1.B ∧ Bag [(w.heap.size + 1, 25, [.slice none 0 0, .slice none 0 0]), (w.heap.size, 25, [vs1, vb1])] w wr) (fun i _ => match i with | .int _ z => q.length - z.toNat | _ => 0)
  case atStart => exact ⟨0, D, vs, vb, Nat.zero_le _, rfl, hRR, rfl, rfl, hsX.weak hX.below (fun b hb h => by rcases h with h | h | h <;> first | exact h | omega), hbX.weak hX.below (fun b hb h => by rcases h with h | h | h <;> first | exact h | omega), hX⟩
  case round =>
    clear hX hsX hbX hRR
    obtain ⟨k, D1, vs1, vb1, hk, rfl, hR, hlS, hlB, hs, hb, hX⟩ := hrel
    have o1 := sts_one hs.now
    have o2 := its_one hb.now
    have hXw : ∀ b, OwnA X w.heap.size b → b < wr.heap.size := fun b h => by
      have h1 := (hX.all _ _ _ (.head _)).lt
      rcases h with h | h | h
      · have := hXl b h; omega
      · omega
      · omega
    by_cases hkq : k < q.length
    · have hki : (k : Int) < (q.length : Int) := by omega
      have hu := List.getElem?_eq_getElem hkq
      generalize q[k] = u at *
      obtain ⟨a, rfl, hL0⟩ := hc k u hu
      have hL : ∀ w', Below wr.heap.size wr w' → _ := fun w' h => hL0 w' (hX.below.trans (h.mono hX.below.size))
      have hst := ap_step (D := D1) hu fz
      rw [show D1.ap (q.drop k) k fz = RR from hR] at hst
      by_cases hkf : (k : Int) = fz
      · rw [if_pos hkf] at hst
        subst hst
        have he : ((k : Int) == fz) = true := by simpa using hkf
        clear hc hL hL0 hu hR hlS hlB hkf hXw hXl
        go_wp2_with (first | ((with_reducible refine at_load ?_); refine wpList_bag_part (k := 0) hX aggD sizD _ rfl rfl rfl rfl (by first | exact .head _ | exact .tail _ (.head _)) (fun jz vz hz => (congrArg (fun n => ([_, _] : List Value)[n]?) (Nat.zero_add jz)).trans hz) rfl ?_) | ((with_reducible refine at_store ?_); refine wpList_bag_overV hX aggD sizD _ _ rfl rfl rfl rfl rfl rfl rfl rfl (two_one o1 o2) ?_; clear hX; intro wz hX hkz))
        first | exact bodyPost_ret (results_ctt Try.results26 rfl ((hX.all _ _ _ (.head _)).loadVar rfl aggD sizD)) rfl ⟨_, rfl, ⟨_, _, rfl, (hs.over hkz (.inr (.inr rfl))).less (fun _ h => .inl h), (hb.over hkz (.inr (.inr rfl))).less (fun _ h => .inl h)⟩, hX.below⟩ | exact bodyPost_ret (results_ctt Try.results26 rfl ((hX.all _ _ _ (.tail _ (.head _))).loadVar rfl aggD sizD)) rfl ⟨_, rfl, ⟨_, _, rfl, (hs.over hkz (.inr (.inr rfl))).less (fun _ h => .inl h), (hb.over hkz (.inr (.inr rfl))).less (fun _ h => .inl h)⟩, hX.below⟩
      have he : ((k : Int) == fz) = false := by simpa using hkf
      rw [if_neg hkf] at hst
      have hwr := fun Y w' (h : Below wr.heap.size wr w') (hYl : ∀ b, Y b → b < w'.heap.size) (hY : ∀ b, b < wr.heap.size → Y b → OwnA X w.heap.size b) => rwrite_any D1 u.1 u.2 (by rw [show D1.B = D.B from hlB]; exact hl) (by rw [show D1.S.length = _ from hlS]; exact hl2) vs1 vb1 w' Y hYl (hs.weak h hY) (hb.weak h hY)
      have hkeep := wr_keep D1 u.1 u.2
      obtain ⟨u1, u2⟩ := u
      dsimp only at hL hwr hkeep hst
      generalize D1.wr u1 u2 = W at *
      obtain ⟨D2, err⟩ := W
      dsimp only at hwr hkeep hst
      clear hc hL0 hu hR hkf
      go_wp2
      refine region_late (ι := Value × Value) (fun p => .tuple #[.agg #[p.1, p.2], .int .i64 err]) (fun s w' => KB 25 [.slice none 0 0, .slice none 0 0] [(w.heap.size + 1, 25, [.slice none 0 0, .slice none 0 0]), (w.heap.size, 25, [vs1, vb1])] w s w' ∧ Below wr.heap.size wr w' ∧ ∀ b, s = some b → wr.heap.size ≤ b) (fun p st w' => KX 25 [.slice none 0 0, .slice none 0 0] [p.1, p.2] [(w.heap.size + 1, 25, [.slice none 0 0, .slice none 0 0]), (w.heap.size, 25, [vs1, vb1])] w st w' ∧ (StsX (XT (OwnA X w.heap.size) st) w' p.1 D2.S ∧ ItsX (XT (OwnA X w.heap.size) st) w' p.2 D2.B) ∧ StsX (XT (OwnA X w.heap.size) st) w' vs1 D1.S ∧ ItsX (XT (OwnA X w.heap.size) st) w' vb1 D1.B) 11 15 _ _ _ (fun _ => .cells ([.slice none 0 0, .slice none 0 0] : List Value).toArray 25) (by kernel_rfl) (by kernel_rfl) rfl rfl rfl rfl rfl rfl rfl rfl (run_alloc_op rfl alloc_dv) (fun w' h => ⟨KB.new h.1, h.2.1.alloc h.2.1.size _, fun b e => by cases e; exact h.2.1.size⟩) (fun p w' h => ⟨KX.new h.1, ⟨h.2.1.1.weak ((Below.refl _ _).alloc (Nat.le_refl _) _) xt_new, h.2.1.2.weak ((Below.refl _ _).alloc (Nat.le_refl _) _) xt_new⟩, h.2.2.1.weak ((Below.refl _ _).alloc (Nat.le_refl _) _) xt_new, h.2.2.2.weak ((Below.refl _ _).alloc (Nat.le_refl _) _) xt_new⟩) ⟨hX.drew, (Below.refl _ _).drew, fun b e => by cases e⟩ ?_
      repeat
        first
          | (refine wpQF_skip (by rfl) ?_
             simp only [Act.put, List.setIfInBounds_toArray, List.set_cons_zero, List.set_cons_succ])
          | (refine wpQF_want (by rfl) (fun R hR => ?_)
             apply Exists.intro
             refine ⟨fun sq wq hk => ?_, hR _ ?_⟩
             · have hq := KB.low (hk.1)
               first
                 | (refine quiet_load 3 _ _ _ rfl rfl (hL _ hk.2.1).1)
                 | (refine quiet_load 9 _ _ _ rfl rfl (hL _ hk.2.1).2)
                 | (refine quiet_load 25 _ _ _ rfl rfl ((hq.all _ _ _ (.tail _ (.head _))).loadVar rfl aggD sizD))
                 | (unfold Oper.quietAt
                    go_simp
                    first
                      | with_reducible rfl
                   )
             clear hR R
             simp only [Act.put, List.setIfInBounds_toArray, List.set_cons_zero, List.set_cons_succ])
      refine wpQF_nil ?_
      refine ⟨fun sq wq hk => ?_, fun p => ?_⟩
      · unfold Oper.semiAt
        go_simp
        simp only [semiUpon]
        refine ⟨trivial, ?_⟩
        refine (hwr (XT (OwnA X w.heap.size) (sq.map (·, false))) _ hk.2.1 (xt_lt hk.1 (fun b h => Nat.lt_of_lt_of_le (hXw b h) hk.2.1.size)) (xt_own hk.2.2)).mono ?_
        rintro e w' ⟨x, rfl, ⟨xs, xb, rfl, hd1, hd2⟩, hbb⟩
        exact ⟨_, rfl, xs, xb, rfl, KX.of (KB.step hk.1 hbb), ⟨hd1, hd2⟩, hs.weak (hk.2.1.trans (hbb.mono hk.2.1.size)) (xt_own hk.2.2), hb.weak (hk.2.1.trans (hbb.mono hk.2.1.size)) (xt_own hk.2.2)⟩
      simp only [Act.put, List.setIfInBounds_toArray, List.set_cons_zero, List.set_cons_succ]
      repeat
        first
          | (refine wpQF_skip (by rfl) ?_
             simp only [Act.put, List.setIfInBounds_toArray, List.set_cons_zero, List.set_cons_succ])
          | (refine wpQF_want (by rfl) (fun R hR => ?_)
             apply Exists.intro
             refine ⟨fun sq wq hk => ?_, hR _ ?_⟩
             · skip
               first
                 | (unfold Oper.quietAt
                    go_simp
                    first
                      | with_reducible rfl
                   )
             clear hR R
             simp only [Act.put, List.setIfInBounds_toArray, List.set_cons_zero, List.set_cons_succ])
      refine wpQF_nil ?_
      intro B
      refine ⟨fun w3 hk2 => ?_, fun w4 hk4 => ?_⟩
      · obtain ⟨hX3, ⟨g1, g2⟩, g3, g4⟩ := hk2
        refine milAt_of_list (ops := #[]) rfl ?_
        (with_reducible refine at_store ?_)
        refine wpList_bag_overV (show Bag _ _ _ from hX3) aggD sizD _ _ rfl rfl rfl rfl rfl rfl rfl rfl (two_one (sts_one g1.now) (its_one g2.now)) ?_
        intro wz hXz hkz
        exact ⟨rfl, rfl, hXz, ⟨(g1.over hkz (.inr ⟨_, rfl⟩)).less (fun b h => h.imp id fun ⟨k, h⟩ => ⟨false, by cases h; rfl⟩), (g2.over hkz (.inr ⟨_, rfl⟩)).less (fun b h => h.imp id fun ⟨k, h⟩ => ⟨false, by cases h; rfl⟩)⟩, (g3.over hkz (.inr ⟨_, rfl⟩)).less (fun b h => h.imp id fun ⟨k, h⟩ => ⟨false, by cases h; rfl⟩), (g4.over hkz (.inr ⟨_, rfl⟩)).less (fun b h => h.imp id fun ⟨k, h⟩ => ⟨false, by cases h; rfl⟩)⟩
      obtain ⟨hX4, ⟨g1, g2⟩, g3, g4⟩ := hk4
      have hX : Bag _ _ _ := hX4
      clear hX4
      have o3 := sts_one g1.now
      have o4 := its_one g2.now
      replace g1 := g1.less (fun b h => .inl h)
      replace g2 := g2.less (fun b h => .inl h)
      replace g3 := g3.less (fun b h => .inl h)
      replace g4 := g4.less (fun b h => .inl h)
      obtain ⟨y1, y2⟩ := p
      dsimp only at g1 g2 o3 o4 hX ⊢
      by_cases hez : err = 0
      · subst hez
        rw [if_pos rfl] at hst
        obtain ⟨e1, e2⟩ := hkeep rfl
        replace hst := hid hst
        replace e1 := hid ((show D2.S.length = _ from e1).trans hlS)
        replace e2 := hid ((show D2.B = _ from e2).trans hlB)
        have hkq1 := hid hkq
        clear hwr hkeep hL hki hkq he
        go_wp2_with (first | ((with_reducible refine at_load ?_); refine wpList_bag_part (k := 0) hX aggD sizD _ rfl rfl rfl rfl (by first | exact .head _ | exact .tail _ (.head _) | exact .tail _ (.tail _ (.head _))) (fun jz vz hz => (congrArg (fun n => ([_, _] : List Value)[n]?) (Nat.zero_add jz)).trans hz) rfl ?_) | ((with_reducible refine at_store ?_); refine wpList_bag_overV (hX.perm (List.perm_append_comm (l₁ := [_, _]) (l₂ := [_]))) aggD sizD _ _ rfl rfl rfl rfl rfl rfl rfl rfl (two_one o3 o4) ?_; clear hX; intro wz hX hkz))
        exact ⟨⟨k + 1, D2, y1, y2, by have hq1 := (show k < q.length from hkq1); omega, by go_num, hst.symm, e1, e2, g1.over hkz (.inr (.inl rfl)), g2.over hkz (.inr (.inl rfl)), (hX.perm (List.perm_append_comm (l₁ := [_, _]) (l₂ := [_]))).sub (List.sublist_append_left [_, _] [_])⟩, by have hq1 := (show k < q.length from hkq1); simp only; omega⟩
      · rw [if_neg hez] at hst
        subst hst
        clear hwr hkeep hL hki hkq he
        go_wp2_with (first | ((with_reducible refine at_load ?_); refine wpList_bag_part (k := 0) hX aggD sizD _ rfl rfl rfl rfl (by first | exact .head _ | exact .tail _ (.head _) | exact .tail _ (.tail _ (.head _))) (fun jz vz hz => (congrArg (fun n => ([_, _] : List Value)[n]?) (Nat.zero_add jz)).trans hz) rfl ?_) | ((with_reducible refine at_store ?_); refine wpList_bag_overV hX.swap aggD sizD _ _ rfl rfl rfl rfl rfl rfl rfl rfl (two_one o1 o2) ?_; clear hX; intro wz hX hkz))
        first | exact bodyPost_ret (results_ctt Try.results26 rfl ((hX.all _ _ _ (.head _)).loadVar rfl aggD sizD)) rfl ⟨_, rfl, ⟨_, _, rfl, (g3.over hkz (.inr (.inr rfl))).less (fun _ h => .inl h), (g4.over hkz (.inr (.inr rfl))).less (fun _ h => .inl h)⟩, hX.below⟩ | exact bodyPost_ret (results_ctt Try.results26 rfl ((hX.all _ _ _ (.tail _ (.head _))).loadVar rfl aggD sizD)) rfl ⟨_, rfl, ⟨_, _, rfl, (g3.over hkz (.inr (.inr rfl))).less (fun _ h => .inl h), (g4.over hkz (.inr (.inr rfl))).less (fun _ h => .inl h)⟩, hX.below⟩ | exact bodyPost_ret (results_ctt Try.results26 rfl ((hX.all _ _ _ (.tail _ (.tail _ (.head _)))).loadVar rfl aggD sizD)) rfl ⟨_, rfl, ⟨_, _, rfl, (g3.over hkz (.inr (.inr rfl))).less (fun _ h => .inl h), (g4.over hkz (.inr (.inr rfl))).less (fun _ h => .inl h)⟩, hX.below⟩
    · obtain rfl : k = q.length := by omega
      have hki : ¬ (q.length : Int) < (q.length : Int) := by omega
      have hst : (D1, q.length, 0) = RR := by rw [← show _ = RR from hR, List.drop_length]; rfl
      subst hst
      clear hc hR hlS hlB hXw hXl
      go_wp2_with (first | ((with_reducible refine at_load ?_); refine wpList_bag_part (k := 0) hX aggD sizD _ rfl rfl rfl rfl (by first | exact .head _ | exact .tail _ (.head _)) (fun jz vz hz => (congrArg (fun n => ([_, _] : List Value)[n]?) (Nat.zero_add jz)).trans hz) rfl ?_) | ((with_reducible refine at_store ?_); refine wpList_bag_overV hX aggD sizD _ _ rfl rfl rfl rfl rfl rfl rfl rfl (two_one o1 o2) ?_; clear hX; intro wz hX hkz))
      first | exact bodyPost_ret (results_ctt Try.results26 rfl ((hX.all _ _ _ (.head _)).loadVar rfl aggD sizD)) rfl ⟨_, rfl, ⟨_, _, rfl, (hs.over hkz (.inr (.inr rfl))).less (fun _ h => .inl h), (hb.over hkz (.inr (.inr rfl))).less (fun _ h => .inl h)⟩, hX.below⟩ | exact bodyPost_ret (results_ctt Try.results26 rfl ((hX.all _ _ _ (.tail _ (.head _))).loadVar rfl aggD sizD)) rfl ⟨_, rfl, ⟨_, _, rfl, (hs.over hkz (.inr (.inr rfl))).less (fun _ h => .inl h), (hb.over hkz (.inr (.inr rfl))).less (fun _ h => .inl h)⟩, hX.below⟩
end Go.Proofs.Ytohfniejflibmaa
