import Derived.Test.YtigmlkfmgheegaaTpI
import Derived.Test.YtigmlkfmgheegaaHS
import Derived.Test.YtigmlkfmgheegaaMG
import Derived.Test.YtigmlkfmgheegaaMH
/-
  Results of a unit are valid, and the memory stays so: plain. The contracts of package tape over a world. No condition.
-/
namespace Go.Proofs.Ytigmlkfmgheegaa
open Go.RowKit
set_option linter.unusedSimpArgs false
set_option linter.unusedVariables false
set_option maxHeartbeats 4000000
set_option maxRecDepth 100000
attribute [local irreducible] wpQuiet

/-- The contracts of package tape in all worlds behind W0. -/
structure TpC (W0 : World) : Prop where
  new : ∀ (L : List ByteArray) (v : Value) (X : Nat → Prop) (w : World), Below W0.heap.size W0 w → L.length ≤ 9223372036854775807 → (∀ b, X b → b < w.heap.size) → Sts w v L → Calls Try.prog 9 #[v] w fun e' w' => ∃ x, e' = .returned (.tuple #[x, .int .i64 (newT L).2]) ∧ TpX X w' x (newT L).1 ∧ Below w.heap.size w w'
  right : ∀ (K : Tp) (vs : Value) (w : World), Below W0.heap.size W0 w → K.R.length ≤ 1099511627776 → Sts w vs K.R → Calls Try.prog 12 #[.agg #[vs, .int .i64 (K).p, .bool (K).n, .bool (K).r, .bool (K).e, .bool (K).m, .bool (K).d, .int .i64 (K).c, .int .i64 (K).k, .int .i64 (K).a, .int .i64 (K).l]] w fun e' w' => e' = .returned (.bool K.right) ∧ Below w.heap.size w w'
  read : ∀ (K : Tp) (g : Int) (vs : Value) (w : World), Below W0.heap.size W0 w → K.right = true → Sts w vs K.R → Calls Try.prog 15 #[.agg #[vs, .int .i64 (K).p, .bool (K).n, .bool (K).r, .bool (K).e, .bool (K).m, .bool (K).d, .int .i64 (K).c, .int .i64 (K).k, .int .i64 (K).a, .int .i64 (K).l], .int .i64 g] w fun e' w' => e' = .returned (.tuple #[.int .i64 (K.rd g).1, .bool (K.rd g).2]) ∧ Below w.heap.size w w'
  write : ∀ (K : Tp) (g v : Int) (vs : Value) (X : Nat → Prop) (w : World), Below W0.heap.size W0 w → K.right = true → (∀ b, X b → b < w.heap.size) → StsX X w vs K.R → Calls Try.prog 17 #[.agg #[vs, .int .i64 (K).p, .bool (K).n, .bool (K).r, .bool (K).e, .bool (K).m, .bool (K).d, .int .i64 (K).c, .int .i64 (K).k, .int .i64 (K).a, .int .i64 (K).l], .int .i64 g, .int .i64 v] w fun e' w' => ∃ x, e' = .returned (.tuple #[x, .bool (K.wr g v).2]) ∧ TpX X w' x (K.wr g v).1 ∧ Below w.heap.size w w'
  tick : ∀ (K : Tp) (M B : List Int) (vs vm vz : Value) (X : Nat → Prop) (w : World), Below W0.heap.size W0 w → K.right = true → rightP M B = true → (∀ b, X b → b < w.heap.size) → StsX X w vs K.R → ItsX X w vm M → ItsX X w vz B → Calls Try.prog 29 #[.agg #[vs, .int .i64 (K).p, .bool (K).n, .bool (K).r, .bool (K).e, .bool (K).m, .bool (K).d, .int .i64 (K).c, .int .i64 (K).k, .int .i64 (K).a, .int .i64 (K).l], vm, vz] w (TickS X w (K.tick M B))
  req : ∀ (K : Tp) (vs : Value) (w : World), Below W0.heap.size W0 w → K.right = true → Sts w vs K.R → Calls Try.prog 20 #[.agg #[vs, .int .i64 (K).p, .bool (K).n, .bool (K).r, .bool (K).e, .bool (K).m, .bool (K).d, .int .i64 (K).c, .int .i64 (K).k, .int .i64 (K).a, .int .i64 (K).l]] w fun e' w' => ∃ v, e' = .returned v ∧ Rqs w' v K.req ∧ Below w.heap.size w w'
  acc : ∀ (K : Tp) (v : Int) (vs : Value) (X : Nat → Prop) (w : World), Below W0.heap.size W0 w → K.right = true → (∀ b, X b → b < w.heap.size) → StsX X w vs K.R → Calls Try.prog 22 #[.agg #[vs, .int .i64 (K).p, .bool (K).n, .bool (K).r, .bool (K).e, .bool (K).m, .bool (K).d, .int .i64 (K).c, .int .i64 (K).k, .int .i64 (K).a, .int .i64 (K).l], .int .i64 v] w fun e' w' => ∃ x, e' = .returned x ∧ TpX X w' x (K.acc v) ∧ Below w.heap.size w w'
  reset : ∀ (K : Tp) (vs : Value) (X : Nat → Prop) (w : World), Below W0.heap.size W0 w → K.right = true → (∀ b, X b → b < w.heap.size) → StsX X w vs K.R → Calls Try.prog 24 #[.agg #[vs, .int .i64 (K).p, .bool (K).n, .bool (K).r, .bool (K).e, .bool (K).m, .bool (K).d, .int .i64 (K).c, .int .i64 (K).k, .int .i64 (K).a, .int .i64 (K).l]] w fun e' w' => ∃ x, e' = .returned x ∧ TpX X w' x K.reset ∧ Below w.heap.size w w'
  mount : ∀ (K : Tp) (vs : Value) (X : Nat → Prop) (w : World), Below W0.heap.size W0 w → K.right = true → (∀ b, X b → b < w.heap.size) → StsX X w vs K.R → Calls Try.prog 26 #[.agg #[vs, .int .i64 (K).p, .bool (K).n, .bool (K).r, .bool (K).e, .bool (K).m, .bool (K).d, .int .i64 (K).c, .int .i64 (K).k, .int .i64 (K).a, .int .i64 (K).l]] w fun e' w' => ∃ x, e' = .returned x ∧ TpX X w' x K.mount ∧ Below w.heap.size w w'
theorem TpC.step {W0 w : World} (H : TpC W0) (h : Below W0.heap.size W0 w) : TpC w :=
  ⟨fun L v X w' hb => H.new L v X w' (h.trans (hb.mono h.size)), fun K vs w' hb => H.right K vs w' (h.trans (hb.mono h.size)), fun K g vs w' hb => H.read K g vs w' (h.trans (hb.mono h.size)), fun K g v vs X w' hb => H.write K g v vs X w' (h.trans (hb.mono h.size)), fun K M B vs vm vz X w' hb => H.tick K M B vs vm vz X w' (h.trans (hb.mono h.size)), fun K vs w' hb => H.req K vs w' (h.trans (hb.mono h.size)), fun K v vs X w' hb => H.acc K v vs X w' (h.trans (hb.mono h.size)), fun K vs X w' hb => H.reset K vs X w' (h.trans (hb.mono h.size)), fun K vs X w' hb => H.mount K vs X w' (h.trans (hb.mono h.size))⟩
theorem Tp.right_iff (K : Tp) : K.right = true ↔ (K.R.length ≤ 64 ∧ (0 ≤ K.p ∧ K.p ≤ (K.R.length : Int)) ∧ (0 ≤ K.c ∧ K.c ≤ 6) ∧ (0 ≤ K.k ∧ K.k ≤ 65535) ∧ (0 ≤ K.a ∧ K.a ≤ 65535) ∧ (0 ≤ K.l ∧ K.l ≤ 16) ∧ K.r = decide (K.l = 0)) ∧ ∀ s ∈ K.R, s.size ≤ 512 := by
  unfold Tp.right; rw [Bool.and_eq_true, Tp.ok_iff, shortV_iff, wordV_iff, wordV_iff]
theorem tp_mk {R : List ByteArray} {p c k a l : Int} {n r e m d : Bool} (h1 : R.length ≤ 64) (h2 : 0 ≤ p ∧ p ≤ (R.length : Int)) (h3 : 0 ≤ c ∧ c ≤ 6) (h4 : 0 ≤ k ∧ k ≤ 65535) (h5 : 0 ≤ a ∧ a ≤ 65535) (h6 : 0 ≤ l ∧ l ≤ 16) (h7 : r = decide (l = 0)) (h8 : ∀ s ∈ R, s.size ≤ 512) : (Tp.mk R p n r e m d c k a l).right = true := (Tp.right_iff _).2 ⟨⟨h1, h2, h3, h4, h5, h6, h7⟩, h8⟩
theorem newT_right {L : List ByteArray} (h : (newT L).2 = 0) : (newT L).1 = Tp.new L ∧ (Tp.new L).right = true := by
  unfold newT at *
  split at h
  · cases h
  · rename_i h1
    rw [if_neg h1]
    split at h
    · rename_i h2
      rw [if_pos h2]
      exact ⟨rfl, tp_mk (by omega) (by omega) (by decide) (by decide) (by decide) (by decide) rfl ((shortV_iff L).1 h2)⟩
    · cases h
theorem wrT_right {K : Tp} (h : K.right = true) (g v : Int) : (K.wr g v).1.right = true := by
  obtain ⟨⟨h1, h2, h3, h4, h5, h6, h7⟩, h8⟩ := (Tp.right_iff K).1 h
  unfold Tp.wr Tp.go
  repeat' split
  all_goals first
    | exact h
    | exact tp_mk h1 h2 h3 h4 h5 h6 h7 h8
    | exact tp_mk h1 h2 (by decide) h4 h5 h6 h7 h8
    | exact tp_mk h1 h2 (by omega) h4 h5 (by decide) rfl h8
    | exact tp_mk h1 h2 h3 (by omega) h5 h6 h7 h8
    | exact tp_mk h1 h2 h3 h4 (by omega) h6 h7 h8
theorem accT_right {K : Tp} (h : K.right = true) (v : Int) : (K.acc v).right = true := by
  obtain ⟨⟨h1, h2, h3, h4, h5, h6, h7⟩, h8⟩ := (Tp.right_iff K).1 h
  unfold Tp.acc; split
  · exact tp_mk h1 h2 h3 h4 h5 h6 h7 h8
  · exact h
theorem resetT_right {K : Tp} (h : K.right = true) : K.reset.right = true := by
  obtain ⟨⟨h1, h2, h3, h4, h5, h6, h7⟩, h8⟩ := (Tp.right_iff K).1 h
  exact tp_mk h1 h2 (by decide) h4 h5 (by decide) rfl h8
theorem mountT_right {K : Tp} (h : K.right = true) : K.mount.right = true := by
  obtain ⟨⟨h1, h2, h3, h4, h5, h6, h7⟩, h8⟩ := (Tp.right_iff K).1 h
  unfold Tp.mount; split
  · exact tp_mk h1 (by omega) h3 h4 h5 h6 h7 h8
  · exact tp_mk h1 (by omega) h3 h4 h5 (by decide) rfl h8
theorem passT_right {K : Tp} (h : K.right = true) : K.pass.1.right = true := by
  obtain ⟨⟨h1, h2, h3, h4, h5, h6, h7⟩, h8⟩ := (Tp.right_iff K).1 h
  unfold Tp.pass; split
  · exact tp_mk h1 h2 h3 h4 h5 h6 h7 h8
  · exact tp_mk h1 (by omega) h3 h4 h5 h6 h7 h8
theorem backT_right {K : Tp} (h : K.right = true) : K.back.right = true := by
  obtain ⟨⟨h1, h2, h3, h4, h5, h6, h7⟩, h8⟩ := (Tp.right_iff K).1 h
  unfold Tp.back; split
  · exact tp_mk h1 h2 h3 h4 h5 h6 h7 h8
  · exact tp_mk h1 (by omega) h3 h4 h5 h6 h7 h8
theorem appT_right {K : Tp} (h : K.right = true) {s : ByteArray} (hs : s.size ≤ 512) : (K.app s).right = true := by
  obtain ⟨⟨h1, h2, h3, h4, h5, h6, h7⟩, h8⟩ := (Tp.right_iff K).1 h
  unfold Tp.app; split
  · exact tp_mk h1 h2 h3 h4 h5 h6 h7 h8
  · have hl : (K.R.take K.p.toNat ++ [s]).length = K.p.toNat + 1 := by simp; omega
    refine tp_mk (by omega) (by omega) h3 h4 h5 h6 h7 (fun u hu => ?_)
    rcases List.mem_append.1 hu with h | h
    · exact h8 u (List.mem_of_mem_take h)
    · rw [List.mem_singleton.1 h]; exact hs
theorem strV_size (l : List UInt8) : (strV l).size = l.length := rfl
theorem writeT_right {K : Tp} (h : K.right = true) (M B : List Int) : (K.write M B).right = true := by
  obtain ⟨⟨h1, h2, h3, h4, h5, h6, h7⟩, h8⟩ := (Tp.right_iff K).1 h
  unfold Tp.write; split
  · rename_i hk
    exact appT_right h (by rw [strV_size, bytesN_length]; omega)
  · exact tp_mk h1 h2 h3 h4 h5 h6 h7 h8
/-- What a tick keeps. -/
structure KeptT (K : Tp) (m B : List Int) (T : Tp × List Int × List Int) : Prop where
  right : T.1.right = true
  mem : rightP T.2.1 T.2.2 = true
  ml : T.2.1.length = m.length
  bl : T.2.2.length ≤ B.length
theorem clrV_mem {B : List Int} {a x : Int} : ∀ {n : Nat}, x ∈ clrV B a n → x ∈ B
  | 0, h => h
  | n + 1, h => clrV_mem (n := n) (List.mem_filter.1 h).1
theorem clrV_sub (B : List Int) (a : Int) : ∀ n, (clrV B a n).Sublist B
  | 0 => List.Sublist.refl _
  | n + 1 => List.Sublist.trans List.filter_sublist (clrV_sub B a n)
theorem rightP_ofT {m B m2 B2 : List Int} (h : rightP m B = true) (hl : m2.length = m.length) (hw : wordsB m = true → wordsB m2 = true) (hs : B2.Sublist B) : rightP m2 B2 = true := by
  unfold rightP at *
  simp only [Bool.and_eq_true] at *
  rw [hl]
  refine ⟨h.1, hw h.2.1, ?_⟩
  have h2 := (badB_iff _ _ _).1 h.2.2
  exact (badB_iff _ _ _).2 ⟨fun x hx => h2.1 x (hs.subset hx), h2.2.sublist hs⟩
theorem KeptT.refl {K K2 : Tp} {m B : List Int} (h : K2.right = true) (hm : rightP m B = true) : KeptT K m B (K2, m, B) := ⟨h, hm, rfl, Nat.le_refl _⟩
theorem readT_kept {K : Tp} {m B : List Int} (h : K.right = true) (hm : rightP m B = true) : KeptT K m B (K.read m B) := by
  have hp := (Tp.right_iff _).1 (passT_right h)
  obtain ⟨⟨h1, h2, h3, h4, h5, h6, h7⟩, h8⟩ := hp
  unfold Tp.read
  split
  · exact .refl (passT_right h) hm
  · split
    · have hk : K.pass.1.k = K.k := by unfold Tp.pass; split <;> rfl
      rw [hk] at h4
      have hc : (cntR K : Int) ≤ K.k := by unfold cntR; omega
      exact ⟨tp_mk h1 h2 h3 (by omega) h5 h6 h7 h8, rightP_ofT hm (storeN_length ..) (fun h => storeN_words _ _ h) (clrV_sub ..), storeN_length .., (clrV_sub ..).length_le⟩
    · exact .refl (tp_mk h1 h2 h3 h4 h5 h6 h7 h8) hm
theorem tickT_kept {K : Tp} {m B : List Int} (h : K.right = true) (hm : rightP m B = true) : KeptT K m B (K.tick m B) := by
  obtain ⟨⟨h1, h2, h3, h4, h5, h6, h7⟩, h8⟩ := (Tp.right_iff K).1 h
  unfold Tp.tick
  split
  · exact .refl h hm
  split
  · exact .refl (tp_mk h1 h2 h3 h4 h5 (by omega) (by rw [h7]; rw [decide_eq_false (by omega), decide_eq_false (by omega)]) h8) hm
  have hz : ({ K with l := 0, r := true } : Tp).right = true := tp_mk h1 h2 h3 h4 h5 (by decide) rfl h8
  generalize ({ K with l := 0, r := true } : Tp) = K0 at *
  unfold Tp.done
  repeat' split
  · obtain ⟨a1, a2, a3, a4⟩ := readT_kept hz hm; exact ⟨a1, a2, a3, a4⟩
  · exact .refl (writeT_right hz m B) hm
  · exact .refl (passT_right hz) hm
  · exact .refl (backT_right hz) hm
  · obtain ⟨⟨h1, h2, h3, h4, h5, h6, h7⟩, h8⟩ := (Tp.right_iff K0).1 hz
    exact .refl (tp_mk h1 (by omega) h3 h4 h5 h6 h7 h8) hm
  · exact .refl (appT_right hz (by decide)) hm
  · exact .refl hz hm
theorem rightP_len {m B : List Int} (h : rightP m B = true) : 128 ≤ m.length ∧ m.length ≤ 16384 ∧ wordsB m = true := by
  unfold rightP at h
  simp only [Bool.and_eq_true] at h
  have := (okS_iff).1 h.1
  exact ⟨by omega, by omega, h.2.1⟩
theorem rtickT_right (K : Tp) (hK : K.right = true) (M B : List Int) (hM : rightP M B = true) (hlB : B.length ≤ 1099511627776) (vs vm vz : Value) (w : World) (X : Nat → Prop) (hXl : ∀ b, X b → b < w.heap.size) (hs : StsX X w vs K.R) (hm : ItsX X w vm M) (hz : ItsX X w vz B) : Calls Try.prog 30 #[.agg #[vs, .int .i64 (K).p, .bool (K).n, .bool (K).r, .bool (K).e, .bool (K).m, .bool (K).d, .int .i64 (K).c, .int .i64 (K).k, .int .i64 (K).a, .int .i64 (K).l], vm, vz] w (TickS X w (K.tick M B)) := by
  have := rightP_len hM
  exact rtickT_any K hK M B (by omega) hlB this.2.2 (by omega) vs vm vz w X hXl hs hm hz
end Go.Proofs.Ytigmlkfmgheegaa

/-
  at, command of the laws. Condition: the contracts.
-/
namespace Go.Proofs.Ytigmlkfmgheegaa
open Go.RowKit
set_option linter.unusedSimpArgs false
set_option linter.unusedVariables false
set_option maxHeartbeats 4000000
set_option maxRecDepth 100000
attribute [local irreducible] wpQuiet

theorem bT17 {w w' w2 : World} (h : Below w.heap.size w w') (h2 : Below w'.heap.size w' w2) : Below w.heap.size w w2 := h.trans (h2.mono h.size)
theorem two_ltT {t1 t2 : TypeId} {c1 c2 : List Value} {w w' : World} {B1 B2 : Nat} (h : Bag [(B1, t1, c1), (B2, t2, c2)] w w') : w.heap.size + 2 ≤ w'.heap.size := by
  have h1 := (h.all _ _ _ (.head _)).lt
  have h2 := (h.all _ _ _ (.tail _ (.head _))).lt
  have h3 := h.lo _ (.head _)
  have h4 := h.lo _ (.tail _ (.head _))
  have h5 := h.dis
  simp only [List.map_cons, List.map_nil, List.nodup_cons, List.mem_singleton] at h5
  simp only at h3 h4
  omega
theorem wrT_ok (K : Tp) (g v : Int) (h : g = 0 ∨ g = 2 ∨ g = 4) : (K.wr g v).2 = true := by
  unfold Tp.wr; rcases h with rfl | rfl | rfl
  · split
    · split <;> rfl
    · rename_i h; exact absurd rfl h
  · rfl
  · rfl
def atT (K : Tp) (n a : Int) : Tp := ((K.wr 2 n).1.wr 4 a).1
theorem atT_right {K : Tp} (h : K.right = true) (n a : Int) : (atT K n a).right = true := wrT_right (wrT_right h 2 n) 4 a
theorem at_any (W0 : World) (H : TpC W0) (K : Tp) (n a : Int) (hR0 : K.right = true) (vs : Value) (w : World) (hb0 : Below W0.heap.size W0 w) (X : Nat → Prop) (hXl : ∀ b, X b → b < w.heap.size) (hs : StsX X w vs K.R) : Calls Try.prog 35 #[.agg #[vs, .int .i64 (K).p, .bool (K).n, .bool (K).r, .bool (K).e, .bool (K).m, .bool (K).d, .int .i64 (K).c, .int .i64 (K).k, .int .i64 (K).a, .int .i64 (K).l], .int .i64 n, .int .i64 a] w fun e' w' => ∃ x, e' = .returned x ∧ TpX X w' x (atT K n a) ∧ Below w.heap.size w w' := by
  have hR1 := wrT_right hR0 2 n
  have hX := two_tp w [vs, .int .i64 (K).p, .bool (K).n, .bool (K).r, .bool (K).e, .bool (K).m, .bool (K).d, .int .i64 (K).c, .int .i64 (K).k, .int .i64 (K).a, .int .i64 (K).l] [.slice none 0 0, .int .i64 0, .bool false, .bool false, .bool false, .bool false, .bool false, .int .i64 0, .int .i64 0, .int .i64 0, .int .i64 0]
  have hXs : StsX (OwnA X w.heap.size) w vs K.R := hs.weak (Below.refl _ _) ownT_weak
  have q1 := fun vs w' (h : Below w.heap.size w w') hY h1 => H.write K 2 n vs (OwnA X w.heap.size) w' (bT17 hb0 h) hR0 hY h1
  have q2 := fun vs w' (h : Below w.heap.size w w') hY h1 => H.write (K.wr 2 n).1 4 a vs (OwnA X w.heap.size) w' (bT17 hb0 h) hR1 hY h1
  rw [wrT_ok _ 2 _ (by simp)] at q1
  rw [wrT_ok _ 4 _ (by simp)] at q2
  unfold atT
  clear hR0 hR1
  generalize ((K.wr 2 n).1.wr 4 a).1 = K2 at *
  generalize (K.wr 2 n).1 = K1 at *
  have hs0 := hXs.below hX.below
  clear hXs hs
  go_enter Try.func35, Try.ntmps35
  go_wp2_with (first | ((with_reducible refine at_load ?_); refine wpList_bag_part (k := 0) hX aggT sizT _ rfl rfl rfl rfl (by first | exact .head _ | exact .tail _ (.head _)) (fun jz vz hz => (congrArg (fun n => ([_, _, _, _, _, _, _, _, _, _, _] : List Value)[n]?) (Nat.zero_add jz)).trans hz) rfl ?_) | (go_at_call 17; first | ((with_reducible refine (q1 vs _ hX.below (ownT_lt hXl (two_ltT hX)) hs0).mono ?_); rintro e' wS ⟨x, rfl, ⟨vs1, rfl, hs1⟩, hbb⟩; replace hX := hX.step hbb; clear hbb) | ((with_reducible refine (q2 vs1 _ hX.below (ownT_lt hXl (two_ltT hX)) hs1).mono ?_); rintro e' wS ⟨x, rfl, ⟨vs2, rfl, hs2⟩, hbb⟩; replace hX := hX.step hbb; clear hbb)) | ((with_reducible refine at_store ?_); refine wpList_bag_overV (cs' := [vs2, .int .i64 (K2).p, .bool (K2).n, .bool (K2).r, .bool (K2).e, .bool (K2).m, .bool (K2).d, .int .i64 (K2).c, .int .i64 (K2).k, .int .i64 (K2).a, .int .i64 (K2).l]) hX aggT sizT _ _ rfl rfl rfl rfl rfl rfl rfl rfl (one_tp (sts_one hs2.now) _ _ _ _ _ _ _ _ _ _) ?_; clear hX; intro wz hX hkz; replace hs2 := hs2.over hkz (by first | exact .inr (.inl rfl) | exact .inr (.inr rfl)); clear hkz) | ((with_reducible refine at_store ?_); refine wpList_bag_overV (cs' := [vs2, .int .i64 (K2).p, .bool (K2).n, .bool (K2).r, .bool (K2).e, .bool (K2).m, .bool (K2).d, .int .i64 (K2).c, .int .i64 (K2).k, .int .i64 (K2).a, .int .i64 (K2).l]) hX.swap aggT sizT _ _ rfl rfl rfl rfl rfl rfl rfl rfl (one_tp (sts_one hs2.now) _ _ _ _ _ _ _ _ _ _) ?_; clear hX; intro wz hX hkz; replace hs2 := hs2.over hkz (by first | exact .inr (.inl rfl) | exact .inr (.inr rfl)); clear hkz) | ((with_reducible refine at_store ?_); refine wpList_bag_overV (cs' := [vs1, .int .i64 (K1).p, .bool (K1).n, .bool (K1).r, .bool (K1).e, .bool (K1).m, .bool (K1).d, .int .i64 (K1).c, .int .i64 (K1).k, .int .i64 (K1).a, .int .i64 (K1).l]) hX aggT sizT _ _ rfl rfl rfl rfl rfl rfl rfl rfl (one_tp (sts_one hs1.now) _ _ _ _ _ _ _ _ _ _) ?_; clear hX; intro wz hX hkz; replace hs1 := hs1.over hkz (by first | exact .inr (.inl rfl) | exact .inr (.inr rfl)); clear hkz) | ((with_reducible refine at_store ?_); refine wpList_bag_overV (cs' := [vs1, .int .i64 (K1).p, .bool (K1).n, .bool (K1).r, .bool (K1).e, .bool (K1).m, .bool (K1).d, .int .i64 (K1).c, .int .i64 (K1).k, .int .i64 (K1).a, .int .i64 (K1).l]) hX.swap aggT sizT _ _ rfl rfl rfl rfl rfl rfl rfl rfl (one_tp (sts_one hs1.now) _ _ _ _ _ _ _ _ _ _) ?_; clear hX; intro wz hX hkz; replace hs1 := hs1.over hkz (by first | exact .inr (.inl rfl) | exact .inr (.inr rfl)); clear hkz))
  first | exact bodyPost_ret (results_c Try.results35 rfl ((hX.all _ _ _ (.head _)).loadVar rfl aggT sizT)) rfl ⟨_, rfl, ⟨_, rfl, hs2.less (fun _ h => .inl h)⟩, hX.below⟩ | exact bodyPost_ret (results_c Try.results35 rfl ((hX.all _ _ _ (.tail _ (.head _))).loadVar rfl aggT sizT)) rfl ⟨_, rfl, ⟨_, rfl, hs2.less (fun _ h => .inl h)⟩, hX.below⟩

/-- So many ticks. -/
def tnT (K : Tp) (m B : List Int) : Nat → Tp × List Int × List Int
  | 0 => (K, m, B)
  | k + 1 => (tnT K m B k).1.tick (tnT K m B k).2.1 (tnT K m B k).2.2
theorem KeptT.trans {K1 : Tp} {m1 B1 : List Int} {T2 T3 : Tp × List Int × List Int} (h : KeptT K1 m1 B1 T2) (h2 : KeptT T2.1 T2.2.1 T2.2.2 T3) : KeptT K1 m1 B1 T3 := ⟨h2.right, h2.mem, h2.ml.trans h.ml, Nat.le_trans h2.bl h.bl⟩
theorem tnT_kept {K : Tp} {m B : List Int} (h : K.right = true) (hm : rightP m B = true) : ∀ k, KeptT K m B (tnT K m B k)
  | 0 => .refl h hm
  | k + 1 => (tnT_kept h hm k).trans (tickT_kept (tnT_kept h hm k).right (tnT_kept h hm k).mem)
/-- A command is carried out. -/
def cmdT (K : Tp) (m B : List Int) (n : Int) : Tp × List Int × List Int := tnT (K.wr 0 (2 * n + 1)).1 m B 16
theorem cmdT_kept {K : Tp} {m B : List Int} (h : K.right = true) (hm : rightP m B = true) (n : Int) : KeptT K m B (cmdT K m B n) := by
  obtain ⟨a1, a2, a3, a4⟩ := tnT_kept (wrT_right h 0 (2 * n + 1)) hm 16
  exact ⟨a1, a2, a3, a4⟩
def OwnF (X : Nat → Prop) (N b : Nat) : Prop := X b ∨ (N ≤ b ∧ b < N + 4)
theorem ownF_lt {X : Nat → Prop} {N n : Nat} (h : ∀ b, X b → b < N) (hn : N + 4 ≤ n) : ∀ b, OwnF X N b → b < n := fun b hb => by
  rcases hb with hb | hb
  · have := h b hb; omega
  · omega
theorem ownF_weak {X : Nat → Prop} {N : Nat} : ∀ b, b < N → OwnF X N b → X b := fun b hb h => by
  rcases h with h | h
  · exact h
  · omega
theorem Bag.third {a b c : Nat × TypeId × List Value} {l : List (Nat × TypeId × List Value)} {w0 w : World} (h : Bag (a :: b :: c :: l) w0 w) : Bag (c :: a :: b :: l) w0 w := h.perm ((List.perm_append_comm (l₁ := [a, b]) (l₂ := [c])).append_right l)
theorem Bag.back3 {a b c : Nat × TypeId × List Value} {l : List (Nat × TypeId × List Value)} {w0 w : World} (h : Bag (c :: a :: b :: l) w0 w) : Bag (a :: b :: c :: l) w0 w := h.perm ((List.perm_append_comm (l₁ := [c]) (l₂ := [a, b])).append_right l)
theorem Bag.fourth {a b c d : Nat × TypeId × List Value} {l : List (Nat × TypeId × List Value)} {w0 w : World} (h : Bag (a :: b :: c :: d :: l) w0 w) : Bag (d :: a :: b :: c :: l) w0 w := h.perm ((List.perm_append_comm (l₁ := [a, b, c]) (l₂ := [d])).append_right l)
theorem Bag.back4 {a b c d : Nat × TypeId × List Value} {l : List (Nat × TypeId × List Value)} {w0 w : World} (h : Bag (d :: a :: b :: c :: l) w0 w) : Bag (a :: b :: c :: d :: l) w0 w := h.perm ((List.perm_append_comm (l₁ := [d]) (l₂ := [a, b, c])).append_right l)
theorem results_cc {P : Program} {fn : Func} {tmps : Array Value} {w : World} {j k : Tmp} {T U : TypeId} {a b : Addr} {v u : Value} (hr : fn.results = #[.cell j T, .cell k U]) (ha : tmps.getD j undef = .pointer (some a)) (hb : tmps.getD k undef = .pointer (some b)) (hl : (Go.loadVar T a).run P w = .ok v w) (hl2 : (Go.loadVar U b).run P w = .ok u w) :
    (results fn tmps).run P w = .ok (.tuple #[v, u]) w := by
  unfold results
  rw [hr]
  have ha' := ha
  have hb' := hb
  rw [Array.getD_eq_getD_getElem?] at ha' hb'
  simp [ha', hb', asAddr, hl, hl2]
theorem one_st {v u : Value} (h1 : v.oneCell' = true) (h2 : u.oneCell' = true) : ∀ x ∈ ([v, u] : List Value), x.oneCell' = true := by
  intro x hx
  simp at hx
  rcases hx with rfl | rfl <;> assumption
theorem aggSt (w : World) : (isAgg 44).run Try.prog w = .ok true w := by kernel_rfl
theorem sizSt (w : World) : (sizeOf 44).run Try.prog w = .ok 2 w := by kernel_rfl
theorem siz_I17 (w : World) : (sizeOf 42).run Try.prog w = .ok 1 w := by kernel_rfl
theorem four_tp (w : World) (c1 c2 c3 c4 : List Value) : Bag [(w.heap.size, 24, c1), (w.heap.size + 1, 44, c2), (w.heap.size + 2, 24, c3), (w.heap.size + 3, 44, c4)] w ((((w.alloc (.cells c1.toArray 24)).alloc (.cells c2.toArray 44)).alloc (.cells c3.toArray 24)).alloc (.cells c4.toArray 44)) := by
  have h1 := (Bag.nil w).new 24 c1
  have h2 := h1.new 44 c2
  have h3 := h2.new 24 c3
  have h4 := h3.new 44 c4
  have e1 : (w.alloc (.cells c1.toArray 24)).heap.size = w.heap.size + 1 := Array.size_push ..
  have e2 : ((w.alloc (.cells c1.toArray 24)).alloc (.cells c2.toArray 44)).heap.size = w.heap.size + 1 + 1 := (Array.size_push ..).trans (congrArg (· + 1) e1)
  have e3 : (((w.alloc (.cells c1.toArray 24)).alloc (.cells c2.toArray 44)).alloc (.cells c3.toArray 24)).heap.size = w.heap.size + 1 + 1 + 1 := (Array.size_push ..).trans (congrArg (· + 1) e2)
  rw [e1, e2, e3] at h4
  exact h4.perm (by simpa using (List.reverse_perm [(w.heap.size, 24, c1), (w.heap.size + 1, 44, c2), (w.heap.size + 2, 24, c3), (w.heap.size + 3, 44, c4)]))
theorem four_lt {t1 t2 t3 t4 : TypeId} {c1 c2 c3 c4 : List Value} {w w' : World} {N : Nat} (h : Bag [(N, t1, c1), (N + 1, t2, c2), (N + 2, t3, c3), (N + 3, t4, c4)] w w') : N + 4 ≤ w'.heap.size := (h.fourth.all _ _ _ (.head _)).lt
theorem command_any (W0 : World) (H : TpC W0) (K : Tp) (M B : List Int) (n : Int) (hn : 0 ≤ n ∧ n ≤ 7) (hR0 : K.right = true) (hM : rightP M B = true) (vs vm vz : Value) (w : World) (hb0 : Below W0.heap.size W0 w) (X : Nat → Prop) (hXl : ∀ b, X b → b < w.heap.size) (hs : StsX X w vs K.R) (hm : ItsX X w vm M) (hz : ItsX X w vz B) : Calls Try.prog 34 #[.agg #[vs, .int .i64 (K).p, .bool (K).n, .bool (K).r, .bool (K).e, .bool (K).m, .bool (K).d, .int .i64 (K).c, .int .i64 (K).k, .int .i64 (K).a, .int .i64 (K).l], .agg #[vm, vz], .int .i64 n] w fun e' w' => ∃ x ym yz, e' = .returned (.tuple #[x, .agg #[ym, yz]]) ∧ TpX X w' x (cmdT K M B n).1 ∧ ItsX X w' ym (cmdT K M B n).2.1 ∧ ItsX X w' yz (cmdT K M B n).2.2 ∧ Below w.heap.size w w' := by
  have q1 := fun w' (h : Below w.heap.size w w') hY h1 => H.write K 0 (2 * n + 1) vs (OwnF X w.heap.size) w' (bT17 hb0 h) hR0 hY h1
  rw [wrT_ok _ 0 _ (by simp)] at q1
  unfold cmdT
  have hk := fun i => tnT_kept (wrT_right hR0 0 (2 * n + 1)) hM i
  generalize (K.wr 0 (2 * n + 1)).1 = K1 at *
  have qt := fun (i : Nat) vs vm vz w' (h : Below w.heap.size w w') hY h1 h2 h3 => H.tick (tnT K1 M B i).1 (tnT K1 M B i).2.1 (tnT K1 M B i).2.2 vs vm vz (OwnF X w.heap.size) w' (bT17 hb0 h) (hk i).right (hk i).mem hY h1 h2 h3
  clear hk hR0 hM
  replace hs : StsX (OwnF X w.heap.size) w vs K.R := hs.weak (Below.refl _ _) ownF_weak
  replace hm : ItsX (OwnF X w.heap.size) w vm M := hm.weak (Below.refl _ _) ownF_weak
  replace hz : ItsX (OwnF X w.heap.size) w vz B := hz.weak (Below.refl _ _) ownF_weak
  obtain ⟨A, c, rfl, _⟩ := hs.now.form
  obtain ⟨A6, c6, rfl, _⟩ := hm.now.form
  obtain ⟨A7, c7, rfl, _⟩ := hz.now.form
  have x1 : IntKind.i64.wrap (2 * n) = 2 * n := by rw [wrap_i64]; unfold wrap64; omega
  have x2 : IntKind.i64.wrap (2 * n + 1) = 2 * n + 1 := by rw [wrap_i64]; unfold wrap64; omega
  have hX := four_tp w [(.slice A K.R.length c), .int .i64 (K).p, .bool (K).n, .bool (K).r, .bool (K).e, .bool (K).m, .bool (K).d, .int .i64 (K).c, .int .i64 (K).k, .int .i64 (K).a, .int .i64 (K).l] [.slice A6 M.length c6, .slice A7 B.length c7] [.slice none 0 0, .int .i64 0, .bool false, .bool false, .bool false, .bool false, .bool false, .int .i64 0, .int .i64 0, .int .i64 0, .int .i64 0] [.slice none 0 0, .slice none 0 0]
  go_enter Try.func34, Try.ntmps34
  go_wp2_with (first | ((with_reducible refine at_load ?_); refine wpList_bag_part (k := 0) hX aggT sizT _ rfl rfl rfl rfl (by first | exact .head _ | exact .tail _ (.head _) | exact .tail _ (.tail _ (.head _)) | exact .tail _ (.tail _ (.tail _ (.head _)))  ) (fun jz vz hz => (congrArg (fun n => ([_, _, _, _, _, _, _, _, _, _, _] : List Value)[n]?) (Nat.zero_add jz)).trans hz) rfl ?_) | (go_at_call 17; (with_reducible refine (q1 _ hX.below (ownF_lt hXl (four_lt hX)) (hs.below hX.below)).mono ?_); rintro e' wS ⟨x, rfl, ⟨vs1, rfl, hs1⟩, hbb⟩; replace hX := hX.step hbb; replace hm := hm.below hX.below; replace hz := hz.below hX.below; obtain ⟨A1, c1, rfl, _⟩ := hs1.now.form; clear hbb) | ((with_reducible refine at_store ?_); refine wpList_bag_overV (cs' := [(.slice A1 K1.R.length c1), .int .i64 (K1).p, .bool (K1).n, .bool (K1).r, .bool (K1).e, .bool (K1).m, .bool (K1).d, .int .i64 (K1).c, .int .i64 (K1).k, .int .i64 (K1).a, .int .i64 (K1).l]) hX aggT sizT _ _ rfl rfl rfl rfl rfl rfl rfl rfl (one_tp rfl _ _ _ _ _ _ _ _ _ _) ?_; clear hX; intro wz hX hkz; replace hs1 := hs1.over hkz (by first | exact .inr ⟨Nat.le_refl _, by omega⟩ | exact .inr ⟨by omega, by omega⟩); replace hm := hm.over hkz (by first | exact .inr ⟨Nat.le_refl _, by omega⟩ | exact .inr ⟨by omega, by omega⟩); replace hz := hz.over hkz (by first | exact .inr ⟨Nat.le_refl _, by omega⟩ | exact .inr ⟨by omega, by omega⟩); clear hkz))
  go_loopw [8] (fun iv wr => ∃ (i : Nat) (vs vm vz : Value), i ≤ 16 ∧ iv = .int .i64 i ∧ StsX (OwnF X w.heap.size) wr vs (tnT K1 M B i).1.R ∧ ItsX (OwnF X w.heap.size) wr vm (tnT K1 M B i).2.1 ∧ ItsX (OwnF X w.heap.size) wr vz (tnT K1 M B i).2.2 ∧ Bag [(w.heap.size, 24, [vs, .int .i64 ((tnT K1 M B i).1).p, .bool ((tnT K1 M B i).1).n, .bool ((tnT K1 M B i).1).r, .bool ((tnT K1 M B i).1).e, .bool ((tnT K1 M B i).1).m, .bool ((tnT K1 M B i).1).d, .int .i64 ((tnT K1 M B i).1).c, .int .i64 ((tnT K1 M B i).1).k, .int .i64 ((tnT K1 M B i).1).a, .int .i64 ((tnT K1 M B i).1).l]), (w.heap.size + 1, 44, [vm, vz]), (w.heap.size + 2, 24, [.slice none 0 0, .int .i64 0, .bool false, .bool false, .bool false, .bool false, .bool false, .int .i64 0, .int .i64 0, .int .i64 0, .int .i64 0]), (w.heap.size + 3, 44, [.slice none 0 0, .slice none 0 0])] w wr) (fun iv _ => match iv with | .int _ q => 16 - q.toNat | _ => 0)
  case atStart => exact ⟨0, _, _, _, Nat.zero_le _, rfl, hs1, hm, hz, hX⟩
  case round =>
    clear hX hs1 hm hz hs q1
    obtain ⟨i, vs, vm, vz, hi, rfl, hs, hm, hz, hX⟩ := hrel
    obtain ⟨A, c, rfl, _⟩ := hs.now.form
    obtain ⟨A6, c6, rfl, _⟩ := hm.now.form
    obtain ⟨A7, c7, rfl, _⟩ := hz.now.form
    by_cases hin : i < 16
    · have hii : (i : Int) < 16 := by omega
      go_wp2_with (first | ((with_reducible refine at_load ?_); refine wpList_bag_part (k := 0) hX aggT sizT _ rfl rfl rfl rfl (by first | exact .head _ | exact .tail _ (.head _) | exact .tail _ (.tail _ (.head _)) | exact .tail _ (.tail _ (.tail _ (.head _)))  ) (fun jz vz hz => (congrArg (fun n => ([_, _, _, _, _, _, _, _, _, _, _] : List Value)[n]?) (Nat.zero_add jz)).trans hz) rfl ?_) | ((with_reducible refine at_load ?_); refine wpList_bag_cell hX slI_cell _ rfl rfl rfl rfl (by first | exact .head _ | exact .tail _ (.head _) | exact .tail _ (.tail _ (.head _)) | exact .tail _ (.tail _ (.tail _ (.head _)))  ) rfl ?_) | (go_at_call 29; (with_reducible refine (qt i _ _ _ _ hX.below (ownF_lt hXl (four_lt hX)) hs hm hz).mono ?_); rintro e' wT ⟨x, vm3, vz3, rfl, ⟨vs3, rfl, hs3⟩, hm3, hz3, hbb⟩; replace hX := hX.step hbb; obtain ⟨A3, c3, rfl, _⟩ := hs3.now.form; obtain ⟨A4, c4, rfl, _⟩ := hm3.now.form; obtain ⟨A5, c5, rfl, _⟩ := hz3.now.form; clear hbb hs hm hz) | ((with_reducible refine at_store ?_); refine wpList_bag_overV (cs' := [(.slice A3 (tnT K1 M B (i + 1)).1.R.length c3), .int .i64 ((tnT K1 M B (i + 1)).1).p, .bool ((tnT K1 M B (i + 1)).1).n, .bool ((tnT K1 M B (i + 1)).1).r, .bool ((tnT K1 M B (i + 1)).1).e, .bool ((tnT K1 M B (i + 1)).1).m, .bool ((tnT K1 M B (i + 1)).1).d, .int .i64 ((tnT K1 M B (i + 1)).1).c, .int .i64 ((tnT K1 M B (i + 1)).1).k, .int .i64 ((tnT K1 M B (i + 1)).1).a, .int .i64 ((tnT K1 M B (i + 1)).1).l]) hX aggT sizT _ _ rfl rfl rfl rfl rfl rfl rfl rfl (one_tp rfl _ _ _ _ _ _ _ _ _ _) ?_; clear hX; intro wz hX hkz; replace hs3 := hs3.over hkz (by first | exact .inr ⟨Nat.le_refl _, by omega⟩ | exact .inr ⟨by omega, by omega⟩); replace hm3 := hm3.over hkz (by first | exact .inr ⟨Nat.le_refl _, by omega⟩ | exact .inr ⟨by omega, by omega⟩); replace hz3 := hz3.over hkz (by first | exact .inr ⟨Nat.le_refl _, by omega⟩ | exact .inr ⟨by omega, by omega⟩); clear hkz) | ((with_reducible refine at_store ?_); refine wpList_bag_putV (z := .slice _ _ _) hX.swap siz_I17 _ _ rfl rfl rfl rfl rfl rfl (by simp) rfl rfl ?_; intro wp hX3 hkz hz33; clear hz33; replace hs3 := hs3.over hkz (by first | exact .inr ⟨Nat.le_refl _, by omega⟩ | exact .inr ⟨by omega, by omega⟩); replace hm3 := hm3.over hkz (by first | exact .inr ⟨Nat.le_refl _, by omega⟩ | exact .inr ⟨by omega, by omega⟩); replace hz3 := hz3.over hkz (by first | exact .inr ⟨Nat.le_refl _, by omega⟩ | exact .inr ⟨by omega, by omega⟩); clear hX; have hX := hX3.swap; clear hkz hX3; simp only [List.set_cons_zero, List.set_cons_succ] at hX))
      exact ⟨⟨i + 1, _, _, _, by omega, by go_num, hs3, hm3, hz3, hX⟩, by simp only; omega⟩
    · obtain rfl : i = 16 := by omega
      have hii : ¬ ((16 : Nat) : Int) < 16 := by omega
      go_wp2
      have hdd := (Below.refl wr.heap.size wr).drew
      refine region_hoistS (fun w' => Bag [(w.heap.size, 24, [(.slice A (tnT K1 M B 16).1.R.length c), .int .i64 ((tnT K1 M B 16).1).p, .bool ((tnT K1 M B 16).1).n, .bool ((tnT K1 M B 16).1).r, .bool ((tnT K1 M B 16).1).e, .bool ((tnT K1 M B 16).1).m, .bool ((tnT K1 M B 16).1).d, .int .i64 ((tnT K1 M B 16).1).c, .int .i64 ((tnT K1 M B 16).1).k, .int .i64 ((tnT K1 M B 16).1).a, .int .i64 ((tnT K1 M B 16).1).l]), (w.heap.size + 1, 44, [.slice A6 (tnT K1 M B 16).2.1.length c6, .slice A7 (tnT K1 M B 16).2.2.length c7])] w w') 3 [(0, false), (1, false), (2, true)] (by kernel_rfl) (by kernel_rfl) (fun _ _ dd _ _ h => by cases dd <;> exact h) hX.fourth.restS.third.restS.drew ?_
      refine wpHp_q' rfl rfl (fun KK hKK => ?_)
      apply Exists.intro
      refine ⟨fun wq hq => ?_, hKK _ ?_⟩
      · try dsimp only at hq
        first
          | exact run_load_op 24 _ _ rfl rfl ((hq.all _ _ _ (.head _)).loadAt rfl aggT sizT)
          | exact run_load_op 44 _ _ rfl rfl ((hq.all _ _ _ (.tail _ (.head _))).loadAt rfl aggSt sizSt)
          | (unfold execOp; go_simp; done)
          | (unfold execOp; go_simp; with_reducible rfl)
      clear hKK KK
      simp only [Act.put, List.setIfInBounds_toArray, List.set_cons_zero, List.set_cons_succ]
      refine wpHp_q' rfl rfl (fun KK hKK => ?_)
      apply Exists.intro
      refine ⟨fun wq hq => ?_, hKK _ ?_⟩
      · try dsimp only at hq
        first
          | exact run_load_op 24 _ _ rfl rfl ((hq.all _ _ _ (.head _)).loadAt rfl aggT sizT)
          | exact run_load_op 44 _ _ rfl rfl ((hq.all _ _ _ (.tail _ (.head _))).loadAt rfl aggSt sizSt)
          | (unfold execOp; go_simp; done)
          | (unfold execOp; go_simp; with_reducible rfl)
      clear hKK KK
      simp only [Act.put, List.setIfInBounds_toArray, List.set_cons_zero, List.set_cons_succ]
      refine wpHp_over (cs' := [(.slice A (tnT K1 M B 16).1.R.length c), .int .i64 ((tnT K1 M B 16).1).p, .bool ((tnT K1 M B 16).1).n, .bool ((tnT K1 M B 16).1).r, .bool ((tnT K1 M B 16).1).e, .bool ((tnT K1 M B 16).1).m, .bool ((tnT K1 M B 16).1).d, .int .i64 ((tnT K1 M B 16).1).c, .int .i64 ((tnT K1 M B 16).1).k, .int .i64 ((tnT K1 M B 16).1).a, .int .i64 ((tnT K1 M B 16).1).l]) rfl rfl hX.drew.third aggT sizT _ _ rfl rfl rfl rfl rfl rfl (one_tp rfl _ _ _ _ _ _ _ _ _ _) (fun w7 hX7 hkz => ⟨hX7.restS.third.restS, ?_⟩)
      replace hs := (hs.below hdd).over hkz (by first | exact .inr ⟨Nat.le_refl _, by omega⟩ | exact .inr ⟨by omega, by omega⟩)
      replace hm := (hm.below hdd).over hkz (by first | exact .inr ⟨Nat.le_refl _, by omega⟩ | exact .inr ⟨by omega, by omega⟩)
      replace hz := (hz.below hdd).over hkz (by first | exact .inr ⟨Nat.le_refl _, by omega⟩ | exact .inr ⟨by omega, by omega⟩)
      clear hX hkz hdd
      have hX := hX7.back3
      clear hX7
      simp only [Act.put, List.setIfInBounds_toArray, List.set_cons_zero, List.set_cons_succ]
      refine wpHp_nil ?_
      simp only [List.drop_succ_cons, List.drop_zero]
      go_wp2_with (first | ((with_reducible refine at_store ?_); refine wpList_bag_overV (cs' := [.slice A6 (tnT K1 M B 16).2.1.length c6, .slice A7 (tnT K1 M B 16).2.2.length c7]) hX.fourth aggSt sizSt _ _ rfl rfl rfl rfl rfl rfl rfl rfl (one_st rfl rfl) ?_; clear hX; intro wz hX4 hkz; have hX := hX4.back4; clear hX4; replace hs := hs.over hkz (by first | exact .inr ⟨Nat.le_refl _, by omega⟩ | exact .inr ⟨by omega, by omega⟩); replace hm := hm.over hkz (by first | exact .inr ⟨Nat.le_refl _, by omega⟩ | exact .inr ⟨by omega, by omega⟩); replace hz := hz.over hkz (by first | exact .inr ⟨Nat.le_refl _, by omega⟩ | exact .inr ⟨by omega, by omega⟩); clear hkz))
      exact bodyPost_ret (results_cc Try.results34 rfl rfl ((hX.third.all _ _ _ (.head _)).loadVar rfl aggT sizT) ((hX.fourth.all _ _ _ (.head _)).loadVar rfl aggSt sizSt)) rfl ⟨_, _, _, rfl, ⟨_, rfl, hs.less (fun _ h => .inl h)⟩, hm.less (fun _ h => .inl h), hz.less (fun _ h => .inl h), hX.below⟩
end Go.Proofs.Ytigmlkfmgheegaa

/-
  small; TapeTicks. Condition: the contracts; alive.
-/
namespace Go.Proofs.Ytigmlkfmgheegaa
open Go.RowKit
set_option linter.unusedSimpArgs false
set_option linter.unusedVariables false
set_option maxHeartbeats 4000000
set_option maxRecDepth 100000
attribute [local irreducible] wpQuiet

def XBt (N b : Nat) : Prop := b = N
theorem xbt_new {X : Nat → Prop} {N : Nat} : ∀ b, b < N → XBt N b → X b := fun b h h2 => by unfold XBt at h2; omega
theorem xbt_lt {t : TypeId} {cs : List Value} {w w' : World} {N : Nat} {l : List (Nat × TypeId × List Value)} (h : Bag ((N, t, cs) :: l) w w') : ∀ b, XBt N b → b < w'.heap.size := fun b hb => by
  have := (h.all _ _ _ (.head _)).lt
  unfold XBt at hb; omega
theorem its_argT {X : Nat → Prop} {W0 w : World} {v : Value} {l : List Int} (h : Its W0 v l) (hb : Below W0.heap.size W0 w) (hX : ∀ b, b < W0.heap.size → ¬ X b) : ItsX X w v l := fun w' hk => Its.sv h w' (fun b hb' _ => (hk b (Nat.lt_of_lt_of_le hb' hb.size) (hX b hb')).trans (hb.block b hb'))
theorem sts_argT {X : Nat → Prop} {W0 w : World} {v : Value} {l : List ByteArray} (h : Sts W0 v l) (hb : Below W0.heap.size W0 w) (hX : ∀ b, b < W0.heap.size → ¬ X b) : StsX X w v l := fun w' hk => Sts.sv h w' (fun b hb' _ => (hk b (Nat.lt_of_lt_of_le hb' hb.size) (hX b hb')).trans (hb.block b hb'))
/-- alive says true in all worlds behind W0. -/
abbrev AlT (W0 : World) : Prop := ∀ w, Below W0.heap.size W0 w → Calls Try.prog 14 #[] w fun e' w' => e' = .returned (.bool true) ∧ Below w.heap.size w w'
def smallT (K : Tp) (M B : List Int) : Bool := decide (M.length ≤ 2048) && (decide (B.length ≤ 2048) && (decide (K.R.length ≤ 64) && (K.right && rightP M B)))
theorem smallT_iff (K : Tp) (M B : List Int) : smallT K M B = true ↔ M.length ≤ 2048 ∧ B.length ≤ 2048 ∧ K.R.length ≤ 64 ∧ K.right = true ∧ rightP M B = true := by
  unfold smallT; simp only [Bool.and_eq_true, decide_eq_true_eq]
theorem small_any (K : Tp) (M B : List Int) (vs vm vz : Value) (w : World) (hs : Sts w vs K.R) (hvm : Its w vm M) (hvz : Its w vz B) : Calls Try.prog 28 #[.agg #[vs, .int .i64 (K).p, .bool (K).n, .bool (K).r, .bool (K).e, .bool (K).m, .bool (K).d, .int .i64 (K).c, .int .i64 (K).k, .int .i64 (K).a, .int .i64 (K).l], .agg #[vm, vz]] w fun e' w' => e' = .returned (.bool (smallT K M B)) ∧ Below w.heap.size w w' := by
  have hk := fun h1 w' (h : Below w.heap.size w w') => rrightT_any K h1 vs w' (Rz.below hs h)
  have hm := fun h1 h2 w' (h : Below w.heap.size w w') => rright_any vm vz M B h1 h2 w' (Its.nums (Rz.below hvm h)) (Its.nums (Rz.below hvz h))
  unfold smallT
  obtain ⟨A1, c1, rfl, _⟩ := hs.form
  obtain ⟨A3, c3, rfl, _⟩ := hvm.form
  obtain ⟨A4, c4, rfl, _⟩ := hvz.form
  obtain ⟨R, p, n, r, e, m, d, c, k, a, l⟩ := K
  dsimp only at *
  have hX := two_bag w 24 44 [(.slice A1 R.length c1), .int .i64 p, .bool n, .bool r, .bool e, .bool m, .bool d, .int .i64 c, .int .i64 k, .int .i64 a, .int .i64 l] [.slice A3 M.length c3, .slice A4 B.length c4]
  clear hs hvm hvz
  by_cases ha : ¬ M.length ≤ 2048
  · have g1 : decide ((M.length : Int) ≤ 2048) = false := decide_eq_false (by omega)
    have g2 : decide (M.length ≤ 2048) = false := decide_eq_false ha
    have g3 : ¬ (M.length : Int) ≤ 2048 := by omega
    rw [g2]
    simp only [Bool.false_and]
    clear hk hm
    go_enter Try.func28, Try.ntmps28
    go_wp2_with (first | ((with_reducible refine at_load ?_); refine wpList_bag_cell hX slI_cell _ rfl rfl rfl rfl (by first | exact .head _ | exact .tail _ (.head _)) rfl ?_) | ((with_reducible refine at_load ?_); refine wpList_bag_cell hX slS_cell _ rfl rfl rfl rfl (by first | exact .head _ | exact .tail _ (.head _)) rfl ?_) | ((with_reducible refine at_load ?_); refine wpList_bag_cell hX int_cell _ rfl rfl rfl rfl (by first | exact .head _ | exact .tail _ (.head _)) rfl ?_) | ((with_reducible refine at_load ?_); refine wpList_bag_cell hX bool_cell _ rfl rfl rfl rfl (by first | exact .head _ | exact .tail _ (.head _)) rfl ?_) | ((with_reducible refine at_load ?_); refine wpList_bag_part (k := 0) hX aggT sizT _ rfl rfl rfl rfl (by first | exact .head _ | exact .tail _ (.head _)) (fun jz vz hz => (congrArg (fun n => ([_, _, _, _, _, _, _, _, _, _, _] : List Value)[n]?) (Nat.zero_add jz)).trans hz) rfl ?_) | (go_at_call 13; (with_reducible refine (hk _ hX.below).mono ?_); rintro e' w' ⟨rfl, hbb⟩; replace hX := hX.step hbb; clear hbb) | (go_at_call 48; (with_reducible refine (hm _ hX.below).mono ?_); rintro e' w' ⟨rfl, hbb⟩; replace hX := hX.step hbb; clear hbb))
    go_ret
    exact ⟨rfl, hX.below⟩
  replace ha : M.length ≤ 2048 := by omega
  have ga1 : decide ((M.length : Int) ≤ 2048) = true := decide_eq_true (by omega)
  have ga2 : decide (M.length ≤ 2048) = true := decide_eq_true ha
  rw [ga2, Bool.true_and]
  by_cases hb : ¬ B.length ≤ 2048
  · have g1 : decide ((B.length : Int) ≤ 2048) = false := decide_eq_false (by omega)
    have g2 : decide (B.length ≤ 2048) = false := decide_eq_false hb
    have g3 : ¬ (B.length : Int) ≤ 2048 := by omega
    rw [g2]
    simp only [Bool.false_and]
    clear hk hm
    go_enter Try.func28, Try.ntmps28
    go_wp2_with (first | ((with_reducible refine at_load ?_); refine wpList_bag_cell hX slI_cell _ rfl rfl rfl rfl (by first | exact .head _ | exact .tail _ (.head _)) rfl ?_) | ((with_reducible refine at_load ?_); refine wpList_bag_cell hX slS_cell _ rfl rfl rfl rfl (by first | exact .head _ | exact .tail _ (.head _)) rfl ?_) | ((with_reducible refine at_load ?_); refine wpList_bag_cell hX int_cell _ rfl rfl rfl rfl (by first | exact .head _ | exact .tail _ (.head _)) rfl ?_) | ((with_reducible refine at_load ?_); refine wpList_bag_cell hX bool_cell _ rfl rfl rfl rfl (by first | exact .head _ | exact .tail _ (.head _)) rfl ?_) | ((with_reducible refine at_load ?_); refine wpList_bag_part (k := 0) hX aggT sizT _ rfl rfl rfl rfl (by first | exact .head _ | exact .tail _ (.head _)) (fun jz vz hz => (congrArg (fun n => ([_, _, _, _, _, _, _, _, _, _, _] : List Value)[n]?) (Nat.zero_add jz)).trans hz) rfl ?_) | (go_at_call 13; (with_reducible refine (hk _ hX.below).mono ?_); rintro e' w' ⟨rfl, hbb⟩; replace hX := hX.step hbb; clear hbb) | (go_at_call 48; (with_reducible refine (hm _ hX.below).mono ?_); rintro e' w' ⟨rfl, hbb⟩; replace hX := hX.step hbb; clear hbb))
    go_ret
    exact ⟨rfl, hX.below⟩
  replace hb : B.length ≤ 2048 := by omega
  have gb1 : decide ((B.length : Int) ≤ 2048) = true := decide_eq_true (by omega)
  have gb2 : decide (B.length ≤ 2048) = true := decide_eq_true hb
  rw [gb2, Bool.true_and]
  by_cases hc : ¬ R.length ≤ 64
  · have g1 : decide ((R.length : Int) ≤ 64) = false := decide_eq_false (by omega)
    have g2 : decide (R.length ≤ 64) = false := decide_eq_false hc
    have g3 : ¬ (R.length : Int) ≤ 64 := by omega
    rw [g2]
    simp only [Bool.false_and]
    clear hk hm
    go_enter Try.func28, Try.ntmps28
    go_wp2_with (first | ((with_reducible refine at_load ?_); refine wpList_bag_cell hX slI_cell _ rfl rfl rfl rfl (by first | exact .head _ | exact .tail _ (.head _)) rfl ?_) | ((with_reducible refine at_load ?_); refine wpList_bag_cell hX slS_cell _ rfl rfl rfl rfl (by first | exact .head _ | exact .tail _ (.head _)) rfl ?_) | ((with_reducible refine at_load ?_); refine wpList_bag_cell hX int_cell _ rfl rfl rfl rfl (by first | exact .head _ | exact .tail _ (.head _)) rfl ?_) | ((with_reducible refine at_load ?_); refine wpList_bag_cell hX bool_cell _ rfl rfl rfl rfl (by first | exact .head _ | exact .tail _ (.head _)) rfl ?_) | ((with_reducible refine at_load ?_); refine wpList_bag_part (k := 0) hX aggT sizT _ rfl rfl rfl rfl (by first | exact .head _ | exact .tail _ (.head _)) (fun jz vz hz => (congrArg (fun n => ([_, _, _, _, _, _, _, _, _, _, _] : List Value)[n]?) (Nat.zero_add jz)).trans hz) rfl ?_) | (go_at_call 13; (with_reducible refine (hk _ hX.below).mono ?_); rintro e' w' ⟨rfl, hbb⟩; replace hX := hX.step hbb; clear hbb) | (go_at_call 48; (with_reducible refine (hm _ hX.below).mono ?_); rintro e' w' ⟨rfl, hbb⟩; replace hX := hX.step hbb; clear hbb))
    go_ret
    exact ⟨rfl, hX.below⟩
  replace hc : R.length ≤ 64 := by omega
  have gc1 : decide ((R.length : Int) ≤ 64) = true := decide_eq_true (by omega)
  have gc2 : decide (R.length ≤ 64) = true := decide_eq_true hc
  rw [gc2, Bool.true_and]
  replace hk := hk (by omega)
  replace hm := hm (by omega) (by omega)
  generalize Tp.right _ = rk at *
  generalize rightP M B = rm at *
  clear ha hb hc
  cases rk
  · simp only [Bool.false_and]
    clear hm
    go_enter Try.func28, Try.ntmps28
    go_wp2_with (first | ((with_reducible refine at_load ?_); refine wpList_bag_cell hX slI_cell _ rfl rfl rfl rfl (by first | exact .head _ | exact .tail _ (.head _)) rfl ?_) | ((with_reducible refine at_load ?_); refine wpList_bag_cell hX slS_cell _ rfl rfl rfl rfl (by first | exact .head _ | exact .tail _ (.head _)) rfl ?_) | ((with_reducible refine at_load ?_); refine wpList_bag_cell hX int_cell _ rfl rfl rfl rfl (by first | exact .head _ | exact .tail _ (.head _)) rfl ?_) | ((with_reducible refine at_load ?_); refine wpList_bag_cell hX bool_cell _ rfl rfl rfl rfl (by first | exact .head _ | exact .tail _ (.head _)) rfl ?_) | ((with_reducible refine at_load ?_); refine wpList_bag_part (k := 0) hX aggT sizT _ rfl rfl rfl rfl (by first | exact .head _ | exact .tail _ (.head _)) (fun jz vz hz => (congrArg (fun n => ([_, _, _, _, _, _, _, _, _, _, _] : List Value)[n]?) (Nat.zero_add jz)).trans hz) rfl ?_) | (go_at_call 13; (with_reducible refine (hk _ hX.below).mono ?_); rintro e' w' ⟨rfl, hbb⟩; replace hX := hX.step hbb; clear hbb) | (go_at_call 48; (with_reducible refine (hm _ hX.below).mono ?_); rintro e' w' ⟨rfl, hbb⟩; replace hX := hX.step hbb; clear hbb))
    go_ret
    exact ⟨rfl, hX.below⟩
  · rw [Bool.true_and]
    go_enter Try.func28, Try.ntmps28
    go_wp2_with (first | ((with_reducible refine at_load ?_); refine wpList_bag_cell hX slI_cell _ rfl rfl rfl rfl (by first | exact .head _ | exact .tail _ (.head _)) rfl ?_) | ((with_reducible refine at_load ?_); refine wpList_bag_cell hX slS_cell _ rfl rfl rfl rfl (by first | exact .head _ | exact .tail _ (.head _)) rfl ?_) | ((with_reducible refine at_load ?_); refine wpList_bag_cell hX int_cell _ rfl rfl rfl rfl (by first | exact .head _ | exact .tail _ (.head _)) rfl ?_) | ((with_reducible refine at_load ?_); refine wpList_bag_cell hX bool_cell _ rfl rfl rfl rfl (by first | exact .head _ | exact .tail _ (.head _)) rfl ?_) | ((with_reducible refine at_load ?_); refine wpList_bag_part (k := 0) hX aggT sizT _ rfl rfl rfl rfl (by first | exact .head _ | exact .tail _ (.head _)) (fun jz vz hz => (congrArg (fun n => ([_, _, _, _, _, _, _, _, _, _, _] : List Value)[n]?) (Nat.zero_add jz)).trans hz) rfl ?_) | (go_at_call 13; (with_reducible refine (hk _ hX.below).mono ?_); rintro e' w' ⟨rfl, hbb⟩; replace hX := hX.step hbb; clear hbb) | (go_at_call 48; (with_reducible refine (hm _ hX.below).mono ?_); rintro e' w' ⟨rfl, hbb⟩; replace hX := hX.step hbb; clear hbb))
    go_ret
    exact ⟨rfl, hX.below⟩
theorem same_twoT (l : List Int) (va vb : Value) (w : World) (hl : l.length ≤ 1099511627776) (ha : Nums .i64 w va l) (hb : Nums .i64 w vb l) : Calls Try.prog 31 #[va, vb] w fun e w' => e = .returned (.bool true) ∧ Below w.heap.size w w' := by
  have h := same_lists l l va vb hl w ha hb
  simpa using h
theorem TapeTicks_law (W0 : World) (H : TpC W0) (HA : AlT W0) (K : Tp) (M B : List Int) (vs vm vz : Value) (hs : Sts W0 vs K.R) (hvm : Its W0 vm M) (hvz : Its W0 vz B) : Calls Try.prog 5 #[.agg #[vs, .int .i64 (K).p, .bool (K).n, .bool (K).r, .bool (K).e, .bool (K).m, .bool (K).d, .int .i64 (K).c, .int .i64 (K).k, .int .i64 (K).a, .int .i64 (K).l], .agg #[vm, vz]] W0 fun e' w' => e' = .returned (.bool true) ∧ Below W0.heap.size W0 w' := by
  have hF : ∀ w, Below W0.heap.size W0 w → Calls Try.prog 28 #[.agg #[vs, .int .i64 (K).p, .bool (K).n, .bool (K).r, .bool (K).e, .bool (K).m, .bool (K).d, .int .i64 (K).c, .int .i64 (K).k, .int .i64 (K).a, .int .i64 (K).l], .agg #[vm, vz]] w fun e' w' => e' = .returned (.bool (smallT K M B)) ∧ Below w.heap.size w w' := fun w h => small_any K M B vs vm vz w (Rz.below hs h) (Rz.below hvm h) (Rz.below hvz h)
  have hX := two_bag W0 24 44 [vs, .int .i64 (K).p, .bool (K).n, .bool (K).r, .bool (K).e, .bool (K).m, .bool (K).d, .int .i64 (K).c, .int .i64 (K).k, .int .i64 (K).a, .int .i64 (K).l] [vm, vz]
  cases hf : smallT K M B
  · rw [hf] at hF
    go_enter Try.func5, Try.ntmps5
    go_wp2_with (first | ((with_reducible refine at_load ?_); refine wpList_bag_part (k := 0) hX aggT sizT _ rfl rfl rfl rfl (by first | exact .head _ | exact .tail _ (.head _)) (fun jz vz hz => (congrArg (fun n => ([_, _, _, _, _, _, _, _, _, _, _] : List Value)[n]?) (Nat.zero_add jz)).trans hz) rfl ?_) | ((with_reducible refine at_load ?_); refine wpList_bag_part (k := 0) hX aggSt sizSt _ rfl rfl rfl rfl (by first | exact .head _ | exact .tail _ (.head _)) (fun jz vz hz => (congrArg (fun n => ([_, _] : List Value)[n]?) (Nat.zero_add jz)).trans hz) rfl ?_) | (go_at_call 28; (with_reducible refine (hF _ hX.below).mono ?_); rintro e' wF ⟨rfl, hbb⟩; replace hX := hX.step hbb; clear hbb) | (go_at_call 14; (with_reducible refine (HA _ hX.below).mono ?_); rintro e' wL ⟨rfl, hbb⟩; replace hX := hX.step hbb; clear hbb))
    go_ret
    exact ⟨rfl, hX.below⟩
  rw [hf] at hF
  obtain ⟨h1, h2, h3, hR, hM⟩ := (smallT_iff K M B).1 hf
  have hk := tickT_kept hR hM
  have hT := fun w (h1 : Below W0.heap.size W0 w) => H.tick K M B vs vm vz (fun _ => False) w h1 hR hM
  have hTr := fun w hs hm hz => rtickT_right K hR M B hM (by omega) vs vm vz w (fun _ => False) (fun _ h => h.elim) hs hm hz
  unfold TickS at hT hTr
  have hl1 : (K.tick M B).1.R.length ≤ 1099511627776 := by have := ((Tp.right_iff _).1 hk.right).1.1; omega
  have hlm1 : (K.tick M B).2.1.length ≤ 1099511627776 := by have := hk.ml; omega
  have hlb1 : (K.tick M B).2.2.length ≤ 1099511627776 := by have := hk.bl; omega
  generalize (K.tick M B).1 = K1 at *
  generalize (K.tick M B).2.1 = m1 at *
  generalize (K.tick M B).2.2 = b1 at *
  clear hf h1 h2 h3 hk hR hM
  go_enter Try.func5, Try.ntmps5
  go_wp2_with (first | ((with_reducible refine at_load ?_); refine wpList_bag_part (k := 0) hX aggT sizT _ rfl rfl rfl rfl (by first | exact .head _ | exact .tail _ (.head _) | exact .tail _ (.tail _ (.head _)) | exact .tail _ (.tail _ (.tail _ (.head _)))) (fun jz vz hz => (congrArg (fun n => ([_, _, _, _, _, _, _, _, _, _, _] : List Value)[n]?) (Nat.zero_add jz)).trans hz) rfl ?_) | ((with_reducible refine at_load ?_); refine wpList_bag_part (k := 0) hX aggSt sizSt _ rfl rfl rfl rfl (by first | exact .head _ | exact .tail _ (.head _) | exact .tail _ (.tail _ (.head _)) | exact .tail _ (.tail _ (.tail _ (.head _)))) (fun jz vz hz => (congrArg (fun n => ([_, _] : List Value)[n]?) (Nat.zero_add jz)).trans hz) rfl ?_) | ((with_reducible refine at_load ?_); refine wpList_bag_cell hX slI_cell _ rfl rfl rfl rfl (by first | exact .head _ | exact .tail _ (.head _) | exact .tail _ (.tail _ (.head _)) | exact .tail _ (.tail _ (.tail _ (.head _)))) rfl ?_) | ((with_reducible refine at_load ?_); refine wpList_bag_cell hX slS_cell _ rfl rfl rfl rfl (by first | exact .head _ | exact .tail _ (.head _) | exact .tail _ (.tail _ (.head _)) | exact .tail _ (.tail _ (.tail _ (.head _)))) rfl ?_) | ((with_reducible refine at_load ?_); refine wpList_bag_cell hX int_cell _ rfl rfl rfl rfl (by first | exact .head _ | exact .tail _ (.head _) | exact .tail _ (.tail _ (.head _)) | exact .tail _ (.tail _ (.tail _ (.head _)))) rfl ?_) | ((with_reducible refine at_load ?_); refine wpList_bag_cell hX bool_cell _ rfl rfl rfl rfl (by first | exact .head _ | exact .tail _ (.head _) | exact .tail _ (.tail _ (.head _)) | exact .tail _ (.tail _ (.tail _ (.head _)))) rfl ?_) | (go_at_call 28; (with_reducible refine (hF _ hX.below).mono ?_); rintro e' wF ⟨rfl, hbb⟩; replace hX := hX.step hbb; clear hbb) | (go_at_call 29; (with_reducible refine (hT _ hX.below (fun _ h => h.elim) (sts_argT hs hX.below (fun _ _ h => h)) (its_argT hvm hX.below (fun _ _ h => h)) (its_argT hvz hX.below (fun _ _ h => h))).mono ?_); rintro e' wT ⟨x, y, z, rfl, ⟨vs1, rfl, hs1⟩, hm1, hz1, hbb⟩; replace hX := hX.step hbb; clear hbb) | (go_at_call 30; (with_reducible refine (hTr _ (sts_argT hs hX.below (fun _ _ h => h)) (its_argT hvm hX.below (fun _ _ h => h)) (its_argT hvz hX.below (fun _ _ h => h))).mono ?_); rintro e' wU ⟨x2, y2, z2, rfl, ⟨vs2, rfl, hs2⟩, hm2, hz2, hbb⟩; replace hX := hX.step hbb; replace hs1 := hs1.below hbb; replace hm1 := hm1.below hbb; replace hz1 := hz1.below hbb; clear hbb) | ((with_reducible refine at_store ?_); refine wpList_bag_overV (cs' := [vs1, .int .i64 (K1).p, .bool (K1).n, .bool (K1).r, .bool (K1).e, .bool (K1).m, .bool (K1).d, .int .i64 (K1).c, .int .i64 (K1).k, .int .i64 (K1).a, .int .i64 (K1).l]) (hX.new 24 [.slice none 0 0, .int .i64 0, .bool false, .bool false, .bool false, .bool false, .bool false, .int .i64 0, .int .i64 0, .int .i64 0, .int .i64 0]) aggT sizT _ _ rfl rfl rfl rfl rfl rfl rfl rfl (one_tp (sts_one hs1.now) _ _ _ _ _ _ _ _ _ _) ?_; clear hX; intro wy hX hkz; replace hs1 := ((hs1.weak ((Below.refl _ _).alloc (Nat.le_refl _) (.cells ([.slice none 0 0, .int .i64 0, .bool false, .bool false, .bool false, .bool false, .bool false, .int .i64 0, .int .i64 0, .int .i64 0, .int .i64 0] : List Value).toArray 24)) xbt_new : StsX (XBt wT.heap.size) _ _ _)).over hkz rfl; replace hm1 := ((hm1.weak ((Below.refl _ _).alloc (Nat.le_refl _) (.cells ([.slice none 0 0, .int .i64 0, .bool false, .bool false, .bool false, .bool false, .bool false, .int .i64 0, .int .i64 0, .int .i64 0, .int .i64 0] : List Value).toArray 24)) xbt_new : ItsX (XBt wT.heap.size) _ _ _)).over hkz rfl; replace hz1 := ((hz1.weak ((Below.refl _ _).alloc (Nat.le_refl _) (.cells ([.slice none 0 0, .int .i64 0, .bool false, .bool false, .bool false, .bool false, .bool false, .int .i64 0, .int .i64 0, .int .i64 0, .int .i64 0] : List Value).toArray 24)) xbt_new : ItsX (XBt wT.heap.size) _ _ _)).over hkz rfl; clear hkz) | ((with_reducible refine at_store ?_); refine wpList_bag_overV (cs' := [vs2, .int .i64 (K1).p, .bool (K1).n, .bool (K1).r, .bool (K1).e, .bool (K1).m, .bool (K1).d, .int .i64 (K1).c, .int .i64 (K1).k, .int .i64 (K1).a, .int .i64 (K1).l]) (hX.new 24 [.slice none 0 0, .int .i64 0, .bool false, .bool false, .bool false, .bool false, .bool false, .int .i64 0, .int .i64 0, .int .i64 0, .int .i64 0]) aggT sizT _ _ rfl rfl rfl rfl rfl rfl rfl rfl (one_tp (sts_one hs2.now) _ _ _ _ _ _ _ _ _ _) ?_; clear hX; intro wx hX hkz; replace hs1 := ((hs1.weak ((Below.refl _ _).alloc (Nat.le_refl _) (.cells ([.slice none 0 0, .int .i64 0, .bool false, .bool false, .bool false, .bool false, .bool false, .int .i64 0, .int .i64 0, .int .i64 0, .int .i64 0] : List Value).toArray 24)) xbt_new : StsX (XBt wU.heap.size) _ _ _)).over hkz rfl; replace hm1 := ((hm1.weak ((Below.refl _ _).alloc (Nat.le_refl _) (.cells ([.slice none 0 0, .int .i64 0, .bool false, .bool false, .bool false, .bool false, .bool false, .int .i64 0, .int .i64 0, .int .i64 0, .int .i64 0] : List Value).toArray 24)) xbt_new : ItsX (XBt wU.heap.size) _ _ _)).over hkz rfl; replace hz1 := ((hz1.weak ((Below.refl _ _).alloc (Nat.le_refl _) (.cells ([.slice none 0 0, .int .i64 0, .bool false, .bool false, .bool false, .bool false, .bool false, .int .i64 0, .int .i64 0, .int .i64 0, .int .i64 0] : List Value).toArray 24)) xbt_new : ItsX (XBt wU.heap.size) _ _ _)).over hkz rfl; replace hs2 := ((hs2.weak ((Below.refl _ _).alloc (Nat.le_refl _) (.cells ([.slice none 0 0, .int .i64 0, .bool false, .bool false, .bool false, .bool false, .bool false, .int .i64 0, .int .i64 0, .int .i64 0, .int .i64 0] : List Value).toArray 24)) xbt_new : StsX (XBt wU.heap.size) _ _ _)).over hkz rfl; replace hm2 := ((hm2.weak ((Below.refl _ _).alloc (Nat.le_refl _) (.cells ([.slice none 0 0, .int .i64 0, .bool false, .bool false, .bool false, .bool false, .bool false, .int .i64 0, .int .i64 0, .int .i64 0, .int .i64 0] : List Value).toArray 24)) xbt_new : ItsX (XBt wU.heap.size) _ _ _)).over hkz rfl; replace hz2 := ((hz2.weak ((Below.refl _ _).alloc (Nat.le_refl _) (.cells ([.slice none 0 0, .int .i64 0, .bool false, .bool false, .bool false, .bool false, .bool false, .int .i64 0, .int .i64 0, .int .i64 0, .int .i64 0] : List Value).toArray 24)) xbt_new : ItsX (XBt wU.heap.size) _ _ _)).over hkz rfl; clear hkz) | (go_at_call 11; (with_reducible refine (rsameT_any K1 hl1 vs1 vs2 _ hs1.now hs2.now).mono ?_); rintro e' wK ⟨rfl, hbb⟩; replace hX := hX.step hbb; replace hm1 := hm1.below hbb; replace hz1 := hz1.below hbb; replace hm2 := hm2.below hbb; replace hz2 := hz2.below hbb; clear hbb hs1 hs2) | (go_at_call 31; (with_reducible refine (same_twoT m1 y y2 _ hlm1 (Its.nums hm1.now) (Its.nums hm2.now)).mono ?_); rintro e' wM ⟨rfl, hbb⟩; replace hX := hX.step hbb; replace hz1 := hz1.below hbb; replace hz2 := hz2.below hbb; clear hbb hm1 hm2) | (go_at_call 31; (with_reducible refine (same_twoT b1 z z2 _ hlb1 (Its.nums hz1.now) (Its.nums hz2.now)).mono ?_); rintro e' wM ⟨rfl, hbb⟩; replace hX := hX.step hbb; clear hbb hz1 hz2) | (go_at_call 14; (with_reducible refine (HA _ hX.below).mono ?_); rintro e' wL ⟨rfl, hbb⟩; replace hX := hX.step hbb; clear hbb))
  go_ret
  exact ⟨rfl, hX.below⟩
end Go.Proofs.Ytigmlkfmgheegaa
