import Derived.Test.YthpnddgfgpacpaaGreatRS05
import Derived.Deep.RegionHeld3
import Derived.Test.YthpnddgfgpacpaaGreatRS00
import Derived.Maps.AppendAt
import Derived.Laws.AppendOwnNone
/-
  New, Write of the reference. Condition: at most 2^40 sectors and bad ones.
-/
namespace Go.Proofs.YthpnddgfgpacpaaGreat
open Go.RowKit
set_option linter.unusedSimpArgs false
set_option linter.unusedVariables false
set_option maxHeartbeats 4000000
set_option maxRecDepth 100000
attribute [local irreducible] wpQuiet

theorem Bag.stepN {l : List (Nat × TypeId × List Value)} {w0 w w' : World} {N : Nat} (h : Bag l w0 w) (hb : Below N w w') (hl : ∀ b ∈ l, b.1 < N) (h0 : w0.heap.size ≤ N) : Bag l w0 w' :=
  ⟨fun B t cs hm => (hb.block B (hl _ hm)).trans (h.all B t cs hm), h.below.trans (hb.mono h0), h.lo, h.dis⟩
theorem own_other {w w' : World} {base n s : Nat} {t : TypeId} {v : Value} {xs : List Value} (h : w.ownsRow base t s v n xs) (hk : ∀ k, base ≤ k → w'.heap[k]? = w.heap[k]?) : w'.ownsRow base t s v n xs := by
  refine ⟨h.1, ?_⟩
  rcases h.2 with h0 | ⟨g, cap, cur, hv, hg, hh, r⟩
  · exact .inl h0
  · exact .inr ⟨g, cap, cur, hv, hg, (hk g hg).trans hh, r⟩
theorem own_set {w : World} {base n s : Nat} {t : TypeId} {v u : Value} {a : Addr} {xs : List Value} (h : w.ownsRow base t s v n xs) (hk : a.block < base) : (w.setCell a u).ownsRow base t s v n xs :=
  own_other h fun k hb => heap_setCell_other w a k u (by omega)
theorem own_empty (w : World) (t : TypeId) : (w.alloc (.cells #[] t)).ownsRow w.heap.size t 1 (.slice (some ⟨w.heap.size, 0, none⟩) 0 0) 0 [] :=
  ⟨rfl, .inr ⟨w.heap.size, 0, #[], rfl, Nat.le_refl _, heap_alloc_new w _, Nat.le_refl _, Nat.zero_le _, rfl, rfl⟩⟩
section
variable {ops : Array Oper} {rest : List Oper} {o : Oper} {a : Act} {w w0 w1 : World} {Q : Exit → Act → World → Prop} {l : List (Nat × TypeId × List Value)}
/-- A one-cell value is stored into the first block; the other blocks stay. -/
theorem wpList_bag_putV {B k : Nat} {t T : TypeId} {cs : List Value} {z : Value} (hX : Bag ((B, t, cs) :: l) w0 w) (hsz : ∀ w, (sizeOf T).run Tryz.prog w = .ok 1 w) (x y : Operand) (hop : o.op = Op.store T x y) (hal : w1 = w) (hx : a.eval x = .pointer (some ⟨B, k, none⟩)) (hy : a.eval y = z) (hdst : o.dst = none) (hw : Region.wanted o (yielded ops a.tmps) = true) (hk : k < cs.length) (hz : z.cells = #[z]) (h1 : z.oneCell' = true)
    (h : ∀ w2, Bag ((B, t, cs.set k z) :: l) w0 w2 → (∀ k, k ≠ B → w2.heap[k]? = w.heap[k]?) → w2.heap.size = w.heap.size → wpList Tryz.prog ops Q rest a w2) : wpList Tryz.prog ops Q (o :: rest) a w1 := by
  subst hal
  have hr := (hX.all _ _ _ List.mem_cons_self).put_run (P := Tryz.prog) (v := z) hk h1
  exact BigFrame.wpList_want hw fun _ hK => by
    unfold Oper.wp execOp
    simp only [hop, hx, hy, hz, Instr.storeAt, Instr.sureAddr, storeVar, hr, hsz, List.size_toArray, List.length_cons, List.length_nil, ne_eq, not_true_eq_false, if_false, Sem.run_bind, Sem.run_pure, Result.andThen_ok]
    exact hK _ _ (by rw [hdst]; exact h _ (hX.over _) (fun k hk => setRow_other w1 B k _ hk) (by simp [World.setRow]))
/-- The first block of the bag is stored as a whole; the other blocks stay. -/
theorem wpList_bag_overV {B n : Nat} {t T : TypeId} {cs cs' : List Value} (hX : Bag ((B, t, cs) :: l) w0 w) (hagg : ∀ w, (isAgg T).run Tryz.prog w = .ok true w) (hsz : ∀ w, (sizeOf T).run Tryz.prog w = .ok n w) (x y : Operand) (hop : o.op = Op.store T x y) (hal : w1 = w) (hx : a.eval x = .pointer (some ⟨B, 0, none⟩)) (hy : a.eval y = .agg cs'.toArray) (hdst : o.dst = none) (hw : Region.wanted o (yielded ops a.tmps) = true) (hn : cs'.length = n) (hc : cs.length = n) (h1 : ∀ v ∈ cs', v.oneCell' = true)
    (h : ∀ w2, Bag ((B, t, cs') :: l) w0 w2 → (∀ k, k ≠ B → w2.heap[k]? = w.heap[k]?) → wpList Tryz.prog ops Q rest a w2) : wpList Tryz.prog ops Q (o :: rest) a w1 := by
  subst hal
  exact
    wpList_store_run hw hdst T x y _ _ hop hx hy hagg (by rw [hn]; exact hsz) ((hX.all _ _ _ List.mem_cons_self).store_run (by rw [hn, hc]) h1) (h _ (hX.over _) (fun k hk => setRow_other w1 B k _ hk))
end
theorem siz_S (w : World) : (sizeOf 36).run Tryz.prog w = .ok 1 w := by kernel_rfl
theorem siz_I (w : World) : (sizeOf 26).run Tryz.prog w = .ok 1 w := by kernel_rfl
/-- The cells read so in every world that has the same blocks, but for those of X. -/
def Sv (X : Nat → Prop) (w : World) (v : Value) (n : Nat) (cs : List Value) : Prop := ∀ w' : World, (∀ b, b < w.heap.size → ¬ X b → w'.heap[b]? = w.heap[b]?) → Rz w' v n cs
theorem Sv.now {X : Nat → Prop} {w : World} {v : Value} {n : Nat} {cs : List Value} (h : Sv X w v n cs) : Rz w v n cs := h w (fun _ _ _ => rfl)
theorem lt_of_same {w w' : World} {b : Nat} (hb : b < w.heap.size) (h : w'.heap[b]? = w.heap[b]?) : b < w'.heap.size := by
  rw [Array.getElem?_eq_getElem hb] at h
  exact (Array.getElem?_eq_some_iff.1 h).1
theorem Sv.off {X Y : Nat → Prop} {w w' : World} {v : Value} {n : Nat} {cs : List Value} (h : Sv X w v n cs) (hk : ∀ b, b < w.heap.size → ¬ X b → w'.heap[b]? = w.heap[b]?) (hY : ∀ b, b < w.heap.size → Y b → X b) : Sv Y w' v n cs := fun w2 h2 => h w2 fun b hb hx => (h2 b (lt_of_same hb (hk b hb hx)) (fun hy => hx (hY b hb hy))).trans (hk b hb hx)
theorem Sv.below {X : Nat → Prop} {w w' : World} {v : Value} {n : Nat} {cs : List Value} (h : Sv X w v n cs) (hb : Below w.heap.size w w') : Sv X w' v n cs := h.off (fun b hb' _ => hb.block b hb') (fun _ _ h => h)
theorem Sv.weak {X Y : Nat → Prop} {w w' : World} {v : Value} {n : Nat} {cs : List Value} (h : Sv X w v n cs) (hb : Below w.heap.size w w') (hY : ∀ b, b < w.heap.size → Y b → X b) : Sv Y w' v n cs := h.off (fun b hb' _ => hb.block b hb') hY
theorem Rz.sv {w : World} {v : Value} {n : Nat} {cs : List Value} (h : Rz w v n cs) : Sv (fun _ => False) w v n cs := fun w' hk => by
  obtain ⟨⟨A, c, hv, hn, hc⟩, h2⟩ := h
  refine ⟨⟨A, c, hv, hn, fun j x hx => ?_⟩, h2⟩
  obtain ⟨a, ha, h1, h3⟩ := hc j x hx
  have h4 := hk _ h3 (fun h => h)
  exact ⟨a, ha, (World.cell?_of_block (w := w) h4).trans h1, lt_of_same h3 h4⟩
theorem Sv.nil (X : Nat → Prop) (w : World) : Sv X w (.slice none 0 0) 0 [] := fun w' _ => Rz.nil w'
theorem Sv.of_own {X : Nat → Prop} {w : World} {base s n : Nat} {t : TypeId} {v : Value} {xs : List Value} (h : w.ownsRow base t s v n xs) (hX : ∀ b, X b → b < base) : Sv X w v n xs := fun w' hk => by
  refine Rz.of_own (w := w') (base := base) (s := s) (t := t) ⟨h.1, ?_⟩
  rcases h.2 with h0 | ⟨g, cap, cur, hv, hg, hh, r⟩
  · exact .inl h0
  · exact .inr ⟨g, cap, cur, hv, hg, (hk g (Array.getElem?_eq_some_iff.1 hh).1 (fun hx => by have := hX g hx; omega)).trans hh, r⟩
def StsX (X : Nat → Prop) (w : World) (v : Value) (S : List ByteArray) : Prop := Sv X w v S.length (S.map Value.string)
def ItsX (X : Nat → Prop) (w : World) (v : Value) (B : List Int) : Prop := Sv X w v B.length (B.map (Value.int .i64))
def DvX (X : Nat → Prop) (w : World) (x : Value) (D : Drv) : Prop := ∃ vs vb, x = .agg #[vs, vb] ∧ StsX X w vs D.S ∧ ItsX X w vb D.B
theorem StsX.now {X : Nat → Prop} {w : World} {v : Value} {S : List ByteArray} (h : StsX X w v S) : Sts w v S := Sv.now h
theorem ItsX.now {X : Nat → Prop} {w : World} {v : Value} {S : List Int} (h : ItsX X w v S) : Its w v S := Sv.now h
theorem StsX.below {X : Nat → Prop} {w w' : World} {v : Value} {S : List ByteArray} (h : StsX X w v S) (hb : Below w.heap.size w w') : StsX X w' v S := Sv.below h hb
theorem ItsX.below {X : Nat → Prop} {w w' : World} {v : Value} {S : List Int} (h : ItsX X w v S) (hb : Below w.heap.size w w') : ItsX X w' v S := Sv.below h hb
theorem StsX.off {X Y : Nat → Prop} {w w' : World} {v : Value} {S : List ByteArray} (h : StsX X w v S) (hk : ∀ b, b < w.heap.size → ¬ X b → w'.heap[b]? = w.heap[b]?) (hY : ∀ b, b < w.heap.size → Y b → X b) : StsX Y w' v S := Sv.off h hk hY
theorem ItsX.off {X Y : Nat → Prop} {w w' : World} {v : Value} {S : List Int} (h : ItsX X w v S) (hk : ∀ b, b < w.heap.size → ¬ X b → w'.heap[b]? = w.heap[b]?) (hY : ∀ b, b < w.heap.size → Y b → X b) : ItsX Y w' v S := Sv.off h hk hY
theorem StsX.weak {X Y : Nat → Prop} {w w' : World} {v : Value} {S : List ByteArray} (h : StsX X w v S) (hb : Below w.heap.size w w') (hY : ∀ b, b < w.heap.size → Y b → X b) : StsX Y w' v S := Sv.weak h hb hY
theorem ItsX.weak {X Y : Nat → Prop} {w w' : World} {v : Value} {S : List Int} (h : ItsX X w v S) (hb : Below w.heap.size w w') (hY : ∀ b, b < w.heap.size → Y b → X b) : ItsX Y w' v S := Sv.weak h hb hY
theorem Sts.sv {w : World} {v : Value} {S : List ByteArray} (h : Sts w v S) : StsX (fun _ => False) w v S := Rz.sv h
theorem Its.sv {w : World} {v : Value} {S : List Int} (h : Its w v S) : ItsX (fun _ => False) w v S := Rz.sv h
theorem DvX.z (X : Nat → Prop) (w : World) : DvX X w (.agg #[.slice none 0 0, .slice none 0 0]) Drv.z := ⟨_, _, rfl, Sv.nil X w, Sv.nil X w⟩
theorem DvX.now {X : Nat → Prop} {w : World} {x : Value} {D : Drv} (h : DvX X w x D) : Dv w x D := by
  obtain ⟨vs, vb, e, h1, h2⟩ := h
  exact ⟨vs, vb, e, h1.now, h2.now⟩
theorem stsX_of {X : Nat → Prop} {w : World} {N n : Nat} {v : Value} {xs : List Value} {S' : List ByteArray} (hX : ∀ b, X b → b < N) (hfin : Hid (xs = S'.map Value.string)) (hln : Hid (S'.length = n)) (h : w.ownsRow N 9 1 v n xs) : StsX X w v S' := by
  have h1 := Sv.of_own h hX
  rw [show xs = _ from hfin, ← show _ = n from hln] at h1
  exact h1
theorem itsX_of {X : Nat → Prop} {w : World} {N n : Nat} {v : Value} {xs : List Value} {S' : List Int} (hX : ∀ b, X b → b < N) (hfin : Hid (xs = S'.map (Value.int .i64))) (hln : Hid (S'.length = n)) (h : w.ownsRow N 3 1 v n xs) : ItsX X w v S' := by
  have h1 := Sv.of_own h hX
  rw [show xs = _ from hfin, ← show _ = n from hln] at h1
  exact h1
theorem rnewD_any (n : Int) (w : World) (X : Nat → Prop) (hXl : ∀ b, X b → b < w.heap.size) : Calls Tryz.prog 67 #[.int .i64 n] w fun e w' => ∃ x, e = .returned (.tuple #[x, .int .i64 (newV n).2]) ∧ DvX X w' x (newV n).1 ∧ Below w.heap.size w w' := by
  have hX := (Bag.nil w).new 38 [.slice none 0 0, .slice none 0 0]
  unfold newV
  by_cases h1 : n < 1
  · have d1 : decide (n < 1) = true := decide_eq_true h1
    rw [if_neg (by omega)]
    go_enter Tryz.func67, Tryz.ntmps67
    go_wp2_with (first | ((with_reducible refine at_store ?_); refine wpList_bag_over hX aggD sizD _ _ rfl rfl rfl rfl rfl rfl rfl rfl (by intro u hu; simp at hu; rcases hu with rfl | rfl <;> rfl) ?_; clear hX; intro wz hX))
    exact bodyPost_ret (results_ct Tryz.results67 rfl ((hX.all _ _ _ List.mem_cons_self).loadVar rfl aggD sizD)) rfl ⟨_, rfl, DvX.z X _, hX.below⟩
  have d1 : decide (n < 1) = false := decide_eq_false h1
  by_cases h2 : 256 < n
  · have d2 : decide (256 < n) = true := decide_eq_true h2
    rw [if_neg (by omega)]
    go_enter Tryz.func67, Tryz.ntmps67
    go_wp2_with (first | ((with_reducible refine at_store ?_); refine wpList_bag_over hX aggD sizD _ _ rfl rfl rfl rfl rfl rfl rfl rfl (by intro u hu; simp at hu; rcases hu with rfl | rfl <;> rfl) ?_; clear hX; intro wz hX))
    exact bodyPost_ret (results_ct Tryz.results67 rfl ((hX.all _ _ _ List.mem_cons_self).loadVar rfl aggD sizD)) rfl ⟨_, rfl, DvX.z X _, hX.below⟩
  have d2 : decide (256 < n) = false := decide_eq_false h2
  rw [if_pos (by omega)]
  obtain ⟨m, rfl⟩ : ∃ m : Nat, n = (m : Int) := ⟨n.toNat, by omega⟩
  have hm : m ≤ 256 := by omega
  simp only [Int.toNat_natCast]
  have hX2 := two_dv w [.slice none 0 0, .slice none 0 0] [.slice none 0 0, .slice none 0 0]
  clear hX
  have hz : ∀ w, Calls Tryz.prog 122 #[.int .i64 128] w fun e w' => e = .returned (.string (zB 128)) ∧ Below w.heap.size w w' := fun w => rzeros_any 128 (by omega) w
  go_enter Tryz.func67, Tryz.ntmps67
  go_wp2
  go_loopw [5] (fun iv wr => ∃ (k : Nat) (v : Value), k ≤ m ∧ iv = .int .i64 k ∧ wr.ownsRow (w.heap.size + 2) 9 1 v k ((List.replicate k (zB 128)).map Value.string) ∧ Bag [(w.heap.size + 1, 38, [v, .slice none 0 0]), (w.heap.size, 38, [.slice none 0 0, .slice none 0 0])] w wr) (fun iv _ => match iv with | .int _ q => m - q.toNat | _ => 0)
  case atStart => exact ⟨0, .slice none 0 0, Nat.zero_le _, rfl, World.ownsRow_nil _ _ _ _, hX2⟩
  case round =>
    clear hX2
    obtain ⟨k, v, hk, rfl, hown, hX⟩ := hrel
    by_cases hkm : k < m
    · have hki : (k : Int) < (m : Int) := by omega
      have hst := hid (rep_map k)
      have hbs := (hX.all _ _ _ List.mem_cons_self).lt
      have hc0 := (hX.all _ _ _ List.mem_cons_self).cell (k := 0) rfl
      have hf0 := (hX.all _ _ _ List.mem_cons_self).frozen 0
      have hsz0 : w.heap.size + 2 ≤ wr.heap.size := hbs
      go_wp2
      go_region_law (first | (go_simp; go_at_call 122; (with_reducible refine (hz _).mono ?_); rintro e w' ⟨rfl, hbb⟩; replace hX := hX.drew.step hbb; replace hown := own_step (World.ownsRow.drew hown) hbb; have hsz1 : w.heap.size + 2 ≤ w'.heap.size := (hX.all _ _ _ List.mem_cons_self).lt; clear hbb; have hc1 := (hX.all _ _ _ List.mem_cons_self).cell (k := 0) rfl; have hf1 := (hX.all _ _ _ List.mem_cons_self).frozen 0; have hc1a := (((hX.step ((Below.refl _ _).alloc (Nat.le_refl _) (.cells #[.string (zB 128)] 9)))).all _ _ _ List.mem_cons_self).cell (k := 0) rfl) | (refine step_appS (by rfl) (.tmp 19) (.tmp 21) (by rfl) (w.heap.size + 2) _ _ _ (by rfl) (World.ownsRow.alloc hown _) ⟨w'.heap.size, 0, none⟩ 1 1 [.string (zB 128)] (by rfl) rfl cell_one (fun x hx => by simp at hx; subst hx; rfl) (by omega) (by simp; omega) ?_; intro v2 w2 ho2 hb2; have hr2 := Rw.of_own ho2; obtain ⟨A2, c2, rfl, _, _⟩ := hr2; have hXb := (Bag.step hX ((Below.refl _ _).alloc (Nat.le_refl _) (.cells #[.string (zB 128)] 9))).stepN hb2 (fun b hb => by simp at hb; rcases hb with rfl | rfl <;> simp) (by omega); have hc2 := (hXb.all _ _ _ List.mem_cons_self).cell (k := 0) rfl; have hf2 := (hXb.all _ _ _ List.mem_cons_self).frozen 0))
      all_goals
        go_wp2
        exact ⟨⟨k + 1, _, by omega, by go_num, by rw [show (List.replicate (k + 1) (zB 128)).map Value.string = _ from hst]; exact own_set ho2 (by simp), hXb.set 0 _⟩, by simp only; omega⟩
    · obtain rfl : k = m := by omega
      have hkm : ¬ (k : Int) < (k : Int) := by omega
      have hr2 := Rw.of_own hown
      obtain ⟨A2, c2, rfl, _, _⟩ := hr2
      go_wp2_with (first | ((with_reducible refine at_store ?_); refine wpList_bag_overV hX.swap aggD sizD _ _ rfl rfl rfl rfl rfl rfl rfl rfl (by intro u hu; simp at hu; rcases hu with rfl | rfl <;> rfl) ?_; clear hX; intro wz hX hkz; replace hown := own_other hown (fun k hk => hkz k (by omega)); clear hkz) | ((with_reducible refine at_load ?_); refine wpList_bag_part (k := 0) hX aggD sizD _ rfl rfl rfl rfl (by first | exact .head _ | exact .tail _ (.head _)) (fun jz vz hz => (congrArg (fun n => ([_, _] : List Value)[n]?) (Nat.zero_add jz)).trans hz) rfl ?_))
      exact bodyPost_ret (results_ct Tryz.results67 rfl ((hX.all _ _ _ List.mem_cons_self).loadVar rfl aggD sizD)) rfl ⟨_, rfl, ⟨_, _, rfl, stsX_of (fun b hb => by have := hXl b hb; omega) (hid rfl) (hid List.length_replicate) hown, Sv.nil X _⟩, hX.below⟩
end Go.Proofs.YthpnddgfgpacpaaGreat
/-
  The disk controller: plain. No condition.
-/
namespace Go.Proofs.YthpnddgfgpacpaaGreat
open Go.RowKit
set_option linter.unusedSimpArgs false
set_option linter.unusedVariables false
set_option maxHeartbeats 4000000
set_option maxRecDepth 100000
attribute [local irreducible] wpQuiet

/-- A disk controller: its drive; enabled, ready, error; command, words, address, sector, ticks left. -/
structure Dk where
  D : Drv
  n : Bool
  r : Bool
  e : Bool
  c : Int
  w : Int
  a : Int
  s : Int
  l : Int
def Dk.z : Dk := ⟨Drv.z, false, false, false, 0, 0, 0, 0, 0⟩
def Dk.new (D : Drv) : Dk := ⟨D, false, true, false, 0, 0, 0, 0, 0⟩
def wordV (n : Int) : Bool := decide (0 ≤ n) && decide (n ≤ 65535)
/-- Are its fields valid? -/
def Dk.ok (K : Dk) : Bool := decide (0 ≤ K.c) && decide (K.c ≤ 3) && wordV K.w && wordV K.a && wordV K.s && decide (K.a % 2 = 0) && decide (0 ≤ K.l) && decide (K.l ≤ 8) && (K.r == decide (K.l = 0)) && (decide (K.l = 0) || (decide (K.c ≠ 0) && decide (K.w ≠ 0)))
def Dk.right (K : Dk) : Bool := K.ok && K.D.right
def Dk.reset (K : Dk) : Dk := { K with n := false, e := false, c := 0, l := 0, r := true }
def stK (K : Dk) : Int := 2 * K.c + (if K.n = true then 64 else 0) + (if K.r = true then 128 else 0) + (if K.e = true then 32768 else 0)
def Dk.rd (K : Dk) (g : Int) : Int × Bool := if g = 2 then (K.w, true) else if g = 4 then (K.a, true) else if g = 6 then (K.s, true) else if g = 0 then (stK K, true) else (0, false)
def Dk.cmd (K : Dk) (v : Int) : Dk := if K.r = true ∧ v % 2 = 1 then (if v / 2 % 4 ≠ 0 ∧ K.w ≠ 0 then { K with c := v / 2 % 4, e := false, r := false, l := 8 } else { K with c := v / 2 % 4, e := false }) else K
def Dk.wr (K : Dk) (g v : Int) : Dk × Bool :=
  if g = 0 then ({ K with n := decide (v / 64 % 2 = 1) }.cmd v, true)
  else if g = 2 then (if K.r = true then { K with w := v % 65536 } else K, true)
  else if g = 4 then (if K.r = true then { K with a := v / 2 % 32768 * 2 } else K, true)
  else if g = 6 then (if K.r = true then { K with s := v % 65536 } else K, true)
  else (Dk.z, false)
def Dk.fail (K : Dk) : Dk := { K with e := true, r := true }
def Dk.acc (K : Dk) (v : Int) : Dk := if v = 160 then { K with n := false } else K
def Dk.req (K : Dk) : List (Int × Int) := if K.n = true ∧ K.r = true then [(5, 160)] else []
/-- A controller in memory. -/
def DkX (X : Nat → Prop) (w : World) (x : Value) (K : Dk) : Prop := ∃ vs vb, x = .agg #[vs, vb, .bool K.n, .bool K.r, .bool K.e, .int .i64 K.c, .int .i64 K.w, .int .i64 K.a, .int .i64 K.s, .int .i64 K.l] ∧ StsX X w vs K.D.S ∧ ItsX X w vb K.D.B
theorem DkX.below {X : Nat → Prop} {w w' : World} {x : Value} {K : Dk} (h : DkX X w x K) (hb : Below w.heap.size w w') : DkX X w' x K := by
  obtain ⟨vs, vb, e, h1, h2⟩ := h
  exact ⟨vs, vb, e, h1.below hb, h2.below hb⟩
theorem Dk.ok_iff (K : Dk) : K.ok = true ↔ (0 ≤ K.c ∧ K.c ≤ 3) ∧ wordV K.w = true ∧ wordV K.a = true ∧ wordV K.s = true ∧ K.a % 2 = 0 ∧ (0 ≤ K.l ∧ K.l ≤ 8) ∧ K.r = decide (K.l = 0) ∧ (K.l = 0 ∨ (K.c ≠ 0 ∧ K.w ≠ 0)) := by
  unfold Dk.ok; simp only [Bool.and_eq_true, Bool.or_eq_true, decide_eq_true_eq, beq_iff_eq]; constructor
  · rintro ⟨⟨⟨⟨⟨⟨⟨⟨⟨h1, h2⟩, h3⟩, h4⟩, h5⟩, h6⟩, h7⟩, h8⟩, h9⟩, h10⟩; exact ⟨⟨h1, h2⟩, h3, h4, h5, h6, ⟨h7, h8⟩, h9, h10⟩
  · rintro ⟨⟨h1, h2⟩, h3, h4, h5, h6, ⟨h7, h8⟩, h9, h10⟩; exact ⟨⟨⟨⟨⟨⟨⟨⟨⟨h1, h2⟩, h3⟩, h4⟩, h5⟩, h6⟩, h7⟩, h8⟩, h9⟩, h10⟩
theorem wordV_iff (n : Int) : wordV n = true ↔ 0 ≤ n ∧ n ≤ 65535 := by unfold wordV; simp
theorem aggK (w : World) : (isAgg 40).run Tryz.prog w = .ok true w := by kernel_rfl
theorem sizK (w : World) : (sizeOf 40).run Tryz.prog w = .ok 10 w := by kernel_rfl
theorem two_dk (w : World) (cs ds : List Value) : Bag [(w.heap.size + 1, 40, ds), (w.heap.size, 40, cs)] w ((w.alloc (.cells cs.toArray 40)).alloc (.cells ds.toArray 40)) := by
  have h := ((Bag.nil w).new 40 cs).new 40 ds
  rw [show (w.alloc (.cells cs.toArray 40)).heap.size = w.heap.size + 1 from Array.size_push ..] at h
  exact h
theorem one_dk {vs vb : Value} (h1 : vs.oneCell' = true) (h2 : vb.oneCell' = true) (n r e : Bool) (c w a s l : Int) : ∀ v ∈ ([vs, vb, .bool n, .bool r, .bool e, .int .i64 c, .int .i64 w, .int .i64 a, .int .i64 s, .int .i64 l] : List Value), v.oneCell' = true := by
  intro u hu
  simp at hu
  rcases hu with rfl | rfl | rfl | rfl | rfl | rfl | rfl | rfl | rfl | rfl <;> first | rfl | assumption
end Go.Proofs.YthpnddgfgpacpaaGreat
/-
  Requests of interrupts: valid ones, their order, the sorted list: plain. No condition.
-/
namespace Go.Proofs.YthpnddgfgpacpaaGreat
open Go.RowKit
set_option linter.unusedSimpArgs false
set_option linter.unusedVariables false

/-- A request: priority and vector. -/
abbrev Rq := Int × Int
/-- The place of a vector. -/
def rnk (v : Int) : Int := if v = 64 then 0 else if v = 160 then 1 else if v = 164 then 2 else 3 + v
/-- Is it served before? -/
def bef (a b : Rq) : Bool := if a.1 = b.1 then decide (rnk a.2 < rnk b.2) else decide (b.1 < a.1)
/-- Where x goes among the first k. -/
def pos (x : Rq) (l : List Rq) : Nat → Nat
  | 0 => 0
  | k + 1 => if bef x (l.getD k (0, 0)) = true then pos x l k else k + 1
end Go.Proofs.YthpnddgfgpacpaaGreat
/-
  Rows of requests: their cells, append. No condition.
-/
namespace Go.Proofs.YthpnddgfgpacpaaGreat
open Go.RowKit
set_option linter.unusedSimpArgs false
set_option linter.unusedVariables false
set_option maxHeartbeats 4000000
set_option maxRecDepth 100000
attribute [local irreducible] wpQuiet

theorem infoQ : (Tryz.prog.info? 105).map (fun i => (i.zero, i.size, i.bytes)) = some (some (.agg #[.int .i64 0, .int .i64 0]), 2, 16) := by kernel_rfl
theorem infoQ_parts : ∃ i : TypeInfo, Tryz.prog.info? 105 = some i ∧ i.zero = some (.agg #[.int .i64 0, .int .i64 0]) ∧ i.size = 2 ∧ i.bytes = 16 := by
  have h := infoQ
  cases hi : Tryz.prog.info? 105 with
  | none => rw [hi] at h; cases h
  | some i =>
    rw [hi] at h
    simp only [Option.map_some, Option.some.injEq, Prod.mk.injEq] at h
    exact ⟨i, rfl, h.1, h.2.1, h.2.2⟩
theorem aggQ (w : World) : (isAgg 105).run Tryz.prog w = .ok true w := by kernel_rfl
theorem sizQ (w : World) : (sizeOf 105).run Tryz.prog w = .ok 2 w := by kernel_rfl
/-- The cells of requests. -/
def flat (l : List Rq) : List Value := l.flatMap fun q => [.int .i64 q.1, .int .i64 q.2]
theorem flat_length (l : List Rq) : (flat l).length = l.length * 2 := by
  induction l with
  | nil => rfl
  | cons q l ih => show ([_, _] ++ flat l).length = _; rw [List.length_append, ih]; simp; omega
theorem flat_append (a b : List Rq) : flat (a ++ b) = flat a ++ flat b := List.flatMap_append
theorem flat_cons (q : Rq) (l : List Rq) : flat (q :: l) = [.int .i64 q.1, .int .i64 q.2] ++ flat l := rfl
theorem flat_one (l : List Rq) : ∀ u ∈ flat l, u.oneCell' = true := by
  intro u hu
  obtain ⟨q, _, h⟩ := List.mem_flatMap.1 hu
  simp at h
  rcases h with rfl | rfl <;> rfl
theorem flat_drop {l : List Rq} (k : Nat) (hk : k ≤ l.length) {j : Nat} {u : Value} (h : (flat (l.drop k))[j]? = some u) : (flat l)[k * 2 + j]? = some u := by
  have e : flat l = flat (l.take k) ++ flat (l.drop k) := by rw [← flat_append, List.take_append_drop]
  have hl : (flat (l.take k)).length = k * 2 := by rw [flat_length, List.length_take, Nat.min_eq_left hk]
  rw [e, List.getElem?_append_right (by omega), hl]
  rw [show k * 2 + j - k * 2 = j from by omega]; exact h
theorem flat_get {l : List Rq} {k : Nat} {q : Rq} (hq : l[k]? = some q) : ∀ j v, ([.int .i64 q.1, .int .i64 q.2] : List Value)[j]? = some v → (flat l)[k * 2 + j]? = some v := by
  have hk : k < l.length := (List.getElem?_eq_some_iff.1 hq).1
  intro j v hv
  refine flat_drop k (by omega) ?_
  rw [List.drop_eq_getElem_cons hk, (List.getElem?_eq_some_iff.1 hq).2, flat_cons]
  rw [List.getElem?_append_left (List.getElem?_eq_some_iff.1 hv).1]; exact hv
/-- A slice of requests that reads as l. -/
def Rqs (w : World) (v : Value) (l : List Rq) : Prop := Rw w v l.length (flat l)
theorem Rqs.load {w : World} {a : Addr} {n c k : Nat} {l : List Rq} {q : Rq} (h : Rqs w (.slice (some a) n c) l) (hn : n = l.length) (hq : l[k]? = some q) : (Instr.loadAt 105 (.pointer (some (a.add (k * 2))))).run Tryz.prog w = .ok (.agg #[.int .i64 q.1, .int .i64 q.2]) w := by
  subst hn
  exact Rw.loadAt (k := k) (s := 2) h (flat_get hq) rfl aggQ sizQ
theorem addr_at (g i j : Nat) : (⟨g, i, none⟩ : Addr).add j = (⟨g, 0, none⟩ : Addr).add (i + j) := by unfold Addr.add; split <;> split <;> simp_all
theorem Rqs.cells {w : World} {a : Addr} {n c : Nat} {l : List Rq} (h : Rqs w (.slice (some a) n c) l) : ∀ j u, (flat l)[j]? = some u → w.cell? (a.add j) = some u := by
  obtain ⟨A, c', hv, _, hc⟩ := h
  cases hv
  intro j u hu
  obtain ⟨a', ha, h1, _⟩ := hc j u hu
  cases ha; exact h1
theorem wpList_appQ {w : World} {ops : Array Oper} {rest : List Oper} {o : Oper} {a : Act} {Q : Exit → Act → World → Prop} (hgd : o.guard = none) (s x : Operand)
    (ho : o.op = .call { callee := .builtin .append, args := #[s, x], argTypes := #[61, 61] }) (N : Nat) (v : Value) (n : Nat) (xs : List Value) (hs : a.eval s = v) (hown : w.ownsRow N 105 2 v n xs)
    (ad : Addr) (m c : Nat) (news : List Value) (hx : a.eval x = .slice (some ad) m c) (hl : news.length = m * 2) (hnews : ∀ j u, news[j]? = some u → w.cell? (ad.add j) = some u) (h1 : ∀ u ∈ news, u.oneCell' = true)
    (hb : n + m ≤ 2199023255554) (hN : N ≤ w.heap.size)
    (h : ∀ v' w', w'.ownsRow N 105 2 v' (n + m) (xs ++ news) → Below N w w' → (v' = .slice none 0 0 ↔ v = .slice none 0 0 ∧ m = 0) → wpList Tryz.prog ops Q rest (a.put o.dst v') w') : wpList Tryz.prog ops Q (o :: rest) a w := by
  obtain ⟨i, hi, hz, hsz, hby⟩ := infoQ_parts
  refine wpList_append_own _ hgd s x 61 ho N 105 i (.agg #[.int .i64 0, .int .i64 0]) 2 16 Tryz.underlying61 hi hz hsz hby rfl (by decide) v n xs hs hown ad m c news hx hl hnews h1 (by unfold maxLen; omega) (by omega) hN ?_
  intro v' w' ho' hg hnil
  exact h v' w' ho' ((Below.refl N w).grown hg hN (fun j hj => (World.ownsRow.lt hown j hj).1)) hnil
theorem cells_two_new (w : World) (x y : Value) (t : TypeId) : ∀ j u, [x, y][j]? = some u → (w.alloc (.cells #[x, y] t)).cell? ((⟨w.heap.size, 0, none⟩ : Addr).add j) = some u := by
  intro j u h
  have e1 : (⟨w.heap.size, 0, none⟩ : Addr).add j = ⟨w.heap.size, j, none⟩ := by unfold Addr.add; split <;> simp_all
  rw [e1]
  exact (Blk.new t w [x, y]).cell h
theorem Rqs.below {w w' : World} {v : Value} {l : List Rq} (h : Rqs w v l) (hb : Below w.heap.size w w') : Rqs w' v l := Rw.below h hb
theorem blk_rqs {w : World} {B n : Nat} {l : List Rq} (h : Blk 105 w B (flat l)) (hn : l.length = n) : Rqs w (.slice (some ⟨B, 0, none⟩) n n) l := by
  subst hn
  refine ⟨_, _, rfl, Nat.le_refl _, fun j u hu => ⟨_, rfl, ?_, ?_⟩⟩
  · have e1 : (⟨B, 0, none⟩ : Addr).add j = ⟨B, j, none⟩ := (addr_at B j 0).symm.trans (by unfold Addr.add; rfl)
    rw [e1]; exact h.cell hu
  · have : ((⟨B, 0, none⟩ : Addr).add j).block = B := by unfold Addr.add; split <;> rfl
    rw [this]; exact h.lt
theorem rqs_two (w : World) (o : Obj) (l : List Rq) (n : Nat) (hn : l.length = n) : Rqs ((w.alloc o).alloc (.cells (flat l).toArray 105)) (.slice (some ⟨w.heap.size + 1, 0, none⟩) n n) l := by
  have h : Blk 105 ((w.alloc o).alloc (.cells (flat l).toArray 105)) (w.alloc o).heap.size (flat l) := Blk.new _ _ _
  rw [show (w.alloc o).heap.size = w.heap.size + 1 from Array.size_push ..] at h
  exact blk_rqs h hn
theorem rqs_new (w : World) (l : List Rq) (n : Nat) (hn : l.length = n) : Rqs (w.alloc (.cells (flat l).toArray 105)) (.slice (some ⟨w.heap.size, 0, none⟩) n n) l := blk_rqs (Blk.new _ _ _) hn
end Go.Proofs.YthpnddgfgpacpaaGreat
/-
  word, Reset, failed, Accept, Requests, Read of the reference. No condition.
-/
namespace Go.Proofs.YthpnddgfgpacpaaGreat
open Go.RowKit
set_option linter.unusedSimpArgs false
set_option linter.unusedVariables false
set_option maxHeartbeats 4000000
set_option maxRecDepth 100000
attribute [local irreducible] wpQuiet

theorem rword_any (n : Int) (w : World) : Calls Tryz.prog 77 #[.int .i64 n] w fun e' w' => e' = .returned (.bool (wordV n)) ∧ Below w.heap.size w w' := by
  have hB := Below.refl w.heap.size w
  unfold wordV
  by_cases h1 : 0 ≤ n
  · have d1 : decide (0 ≤ n) = true := decide_eq_true h1
    go_enter Tryz.func77, Tryz.ntmps77
    go_wp2
    go_ret
    exact ⟨by simp [h1], hB⟩
  · have d1 : decide (0 ≤ n) = false := decide_eq_false h1
    go_enter Tryz.func77, Tryz.ntmps77
    go_wp2
    go_ret
    exact ⟨by simp, hB⟩
theorem rresetK_any (K : Dk) (A1 : Option Addr) (n1 c1 : Nat) (A2 : Option Addr) (n2 c2 : Nat) (w : World) : Calls Tryz.prog 62 #[.agg #[(.slice A1 n1 c1), (.slice A2 n2 c2), .bool (K).n, .bool (K).r, .bool (K).e, .int .i64 (K).c, .int .i64 (K).w, .int .i64 (K).a, .int .i64 (K).s, .int .i64 (K).l]] w fun e' w' => e' = .returned (.agg #[(.slice A1 n1 c1), (.slice A2 n2 c2), .bool (K.reset).n, .bool (K.reset).r, .bool (K.reset).e, .int .i64 (K.reset).c, .int .i64 (K.reset).w, .int .i64 (K.reset).a, .int .i64 (K.reset).s, .int .i64 (K.reset).l]) ∧ Below w.heap.size w w' := by
  obtain ⟨D, n, r, e, c, w1, a, s, l⟩ := K
  unfold Dk.reset
  go_enter Tryz.func62, Tryz.ntmps62
  go_wp2
  exact bodyPost_ret (results_c Tryz.results62 rfl (((two_dk w _ _).all _ _ _ List.mem_cons_self).loadVar rfl aggK sizK)) rfl ⟨rfl, (two_dk w _ _).below⟩
theorem raccK_any (K : Dk) (v : Int) (A1 : Option Addr) (n1 c1 : Nat) (A2 : Option Addr) (n2 c2 : Nat) (w : World) : Calls Tryz.prog 58 #[.agg #[(.slice A1 n1 c1), (.slice A2 n2 c2), .bool (K).n, .bool (K).r, .bool (K).e, .int .i64 (K).c, .int .i64 (K).w, .int .i64 (K).a, .int .i64 (K).s, .int .i64 (K).l], .int .i64 v] w fun e' w' => e' = .returned (.agg #[(.slice A1 n1 c1), (.slice A2 n2 c2), .bool (K.acc v).n, .bool (K.acc v).r, .bool (K.acc v).e, .int .i64 (K.acc v).c, .int .i64 (K.acc v).w, .int .i64 (K.acc v).a, .int .i64 (K.acc v).s, .int .i64 (K.acc v).l]) ∧ Below w.heap.size w w' := by
  obtain ⟨D, n, r, e, c, w1, a, s, l⟩ := K
  unfold Dk.acc
  by_cases h : v = 160
  · subst h
    rw [if_pos rfl]
    go_enter Tryz.func58, Tryz.ntmps58
    go_wp2
    exact bodyPost_ret (results_c Tryz.results58 rfl (((two_dk w _ _).all _ _ _ List.mem_cons_self).loadVar rfl aggK sizK)) rfl ⟨rfl, (two_dk w _ _).below⟩
  · have hv : (v == 160) = false := by simpa using h
    rw [if_neg h]
    go_enter Tryz.func58, Tryz.ntmps58
    go_wp2
    exact bodyPost_ret (results_c Tryz.results58 rfl (((two_dk w _ _).all _ _ _ List.mem_cons_self).loadVar rfl aggK sizK)) rfl ⟨rfl, (two_dk w _ _).below⟩
theorem rreqK_any (K : Dk) (A1 : Option Addr) (n1 c1 : Nat) (A2 : Option Addr) (n2 c2 : Nat) (w : World) : Calls Tryz.prog 54 #[.agg #[(.slice A1 n1 c1), (.slice A2 n2 c2), .bool (K).n, .bool (K).r, .bool (K).e, .int .i64 (K).c, .int .i64 (K).w, .int .i64 (K).a, .int .i64 (K).s, .int .i64 (K).l]] w fun e' w' => ∃ v, e' = .returned v ∧ Rqs w' v K.req ∧ Below w.heap.size w w' := by
  obtain ⟨D, n, r, e, c, w1, a, s, l⟩ := K
  have hX := (Bag.nil w).new 40 [(.slice A1 n1 c1), (.slice A2 n2 c2), .bool n, .bool r, .bool e, .int .i64 c, .int .i64 w1, .int .i64 a, .int .i64 s, .int .i64 l]
  cases n
  · go_enter Tryz.func54, Tryz.ntmps54
    go_wp2
    go_ret
    exact ⟨_, rfl, Rw.nil _, hX.below⟩
  · cases r
    · go_enter Tryz.func54, Tryz.ntmps54
      go_wp2
      go_ret
      exact ⟨_, rfl, Rw.nil _, hX.below⟩
    · go_enter Tryz.func54, Tryz.ntmps54
      go_wp2
      go_ret
      have hr := rqs_new (w.alloc (.cells ([(.slice A1 n1 c1), (.slice A2 n2 c2), .bool true, .bool true, .bool e, .int .i64 c, .int .i64 w1, .int .i64 a, .int .i64 s, .int .i64 l] : List Value).toArray 40)) [(5, 160)] 1 rfl
      rw [show (w.alloc (.cells ([(.slice A1 n1 c1), (.slice A2 n2 c2), .bool true, .bool true, .bool e, .int .i64 c, .int .i64 w1, .int .i64 a, .int .i64 s, .int .i64 l] : List Value).toArray 40)).heap.size = w.heap.size + 1 from Array.size_push ..] at hr
      exact ⟨_, rfl, hr, hX.below.alloc hX.below.size _⟩
end Go.Proofs.YthpnddgfgpacpaaGreat
