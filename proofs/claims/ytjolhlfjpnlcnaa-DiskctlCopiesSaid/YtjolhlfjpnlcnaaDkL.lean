/-
  The contracts of package diskctl over a world; results are valid; start. Condition: the contracts.
-/
import Derived.Test.YtjolhlfjpnlcnaaDkK
import Derived.Test.YtjolhlfjpnlcnaaMeA
namespace Go.Proofs.Ytjolhlfjpnlcnaa
open Go.RowKit
set_option linter.unusedSimpArgs false
set_option linter.unusedVariables false
set_option maxHeartbeats 4000000
set_option maxRecDepth 100000
attribute [local irreducible] wpQuiet

/-- The contracts of package diskctl in all worlds behind W0. -/
structure DkC (W0 : World) : Prop where
  new : ∀ (D : Drv) (vs vb : Value) (X : Nat → Prop) (w : World), Below W0.heap.size W0 w → D.S.length ≤ 4096 → D.B.length ≤ 4096 → (∀ b, X b → b < w.heap.size) → Sts w vs D.S → Its w vb D.B → Calls Try.prog 12 #[.agg #[vs, vb]] w fun e' w' => ∃ x, e' = .returned (x) ∧ DkX X w' x (Dk.new D) ∧ Below w.heap.size w w'
  right : ∀ (K : Dk) (vs vb : Value) (w : World), Below W0.heap.size W0 w → K.D.S.length ≤ 4096 → K.D.B.length ≤ 4096 → Sts w vs K.D.S → Its w vb K.D.B → Calls Try.prog 9 #[.agg #[vs, vb, .bool (K).n, .bool (K).r, .bool (K).e, .int .i64 (K).c, .int .i64 (K).w, .int .i64 (K).a, .int .i64 (K).s, .int .i64 (K).l]] w fun e' w' => e' = .returned (.bool K.right) ∧ Below w.heap.size w w'
  read : ∀ (K : Dk) (g : Int) (vs vb : Value) (w : World), Below W0.heap.size W0 w → K.right = true → Sts w vs K.D.S → Its w vb K.D.B → Calls Try.prog 14 #[.agg #[vs, vb, .bool (K).n, .bool (K).r, .bool (K).e, .int .i64 (K).c, .int .i64 (K).w, .int .i64 (K).a, .int .i64 (K).s, .int .i64 (K).l], .int .i64 g] w fun e' w' => e' = .returned (.tuple #[.int .i64 (K.rd g).1, .bool (K.rd g).2]) ∧ Below w.heap.size w w'
  write : ∀ (K : Dk) (g v : Int) (vs vb : Value) (X : Nat → Prop) (w : World), Below W0.heap.size W0 w → K.right = true → (∀ b, X b → b < w.heap.size) → StsX X w vs K.D.S → ItsX X w vb K.D.B → Calls Try.prog 16 #[.agg #[vs, vb, .bool (K).n, .bool (K).r, .bool (K).e, .int .i64 (K).c, .int .i64 (K).w, .int .i64 (K).a, .int .i64 (K).s, .int .i64 (K).l], .int .i64 g, .int .i64 v] w fun e' w' => ∃ x, e' = .returned (.tuple #[x, .bool (K.wr g v).2]) ∧ DkX X w' x (K.wr g v).1 ∧ Below w.heap.size w w'
  tick : ∀ (K : Dk) (m B : List Int) (vs vb vm vz : Value) (X : Nat → Prop) (w : World), Below W0.heap.size W0 w → K.right = true → rightP m B = true → (∀ b, X b → b < w.heap.size) → StsX X w vs K.D.S → ItsX X w vb K.D.B → ItsX X w vm m → ItsX X w vz B → Calls Try.prog 26 #[.agg #[vs, vb, .bool (K).n, .bool (K).r, .bool (K).e, .int .i64 (K).c, .int .i64 (K).w, .int .i64 (K).a, .int .i64 (K).s, .int .i64 (K).l], vm, vz] w (TickSays K m B X w)
  req : ∀ (K : Dk) (vs vb : Value) (w : World), Below W0.heap.size W0 w → K.right = true → Sts w vs K.D.S → Its w vb K.D.B → Calls Try.prog 21 #[.agg #[vs, vb, .bool (K).n, .bool (K).r, .bool (K).e, .int .i64 (K).c, .int .i64 (K).w, .int .i64 (K).a, .int .i64 (K).s, .int .i64 (K).l]] w fun e' w' => ∃ v, e' = .returned v ∧ Rqs w' v K.req ∧ Below w.heap.size w w'
  acc : ∀ (K : Dk) (v : Int) (vs vb : Value) (X : Nat → Prop) (w : World), Below W0.heap.size W0 w → K.right = true → (∀ b, X b → b < w.heap.size) → StsX X w vs K.D.S → ItsX X w vb K.D.B → Calls Try.prog 23 #[.agg #[vs, vb, .bool (K).n, .bool (K).r, .bool (K).e, .int .i64 (K).c, .int .i64 (K).w, .int .i64 (K).a, .int .i64 (K).s, .int .i64 (K).l], .int .i64 v] w fun e' w' => ∃ x, e' = .returned (x) ∧ DkX X w' x (K.acc v) ∧ Below w.heap.size w w'
  reset : ∀ (K : Dk) (vs vb : Value) (X : Nat → Prop) (w : World), Below W0.heap.size W0 w → K.right = true → (∀ b, X b → b < w.heap.size) → StsX X w vs K.D.S → ItsX X w vb K.D.B → Calls Try.prog 18 #[.agg #[vs, vb, .bool (K).n, .bool (K).r, .bool (K).e, .int .i64 (K).c, .int .i64 (K).w, .int .i64 (K).a, .int .i64 (K).s, .int .i64 (K).l]] w fun e' w' => ∃ x, e' = .returned (x) ∧ DkX X w' x K.reset ∧ Below w.heap.size w w'
theorem DkC.step {W0 w : World} (H : DkC W0) (h : Below W0.heap.size W0 w) : DkC w :=
  ⟨fun D vs vb X w' hb => H.new D vs vb X w' (h.trans (hb.mono h.size)), fun K vs vb w' hb => H.right K vs vb w' (h.trans (hb.mono h.size)), fun K g vs vb w' hb => H.read K g vs vb w' (h.trans (hb.mono h.size)), fun K g v vs vb X w' hb => H.write K g v vs vb X w' (h.trans (hb.mono h.size)), fun K m B vs vb vm vz X w' hb => H.tick K m B vs vb vm vz X w' (h.trans (hb.mono h.size)), fun K vs vb w' hb => H.req K vs vb w' (h.trans (hb.mono h.size)), fun K v vs vb X w' hb => H.acc K v vs vb X w' (h.trans (hb.mono h.size)), fun K vs vb X w' hb => H.reset K vs vb X w' (h.trans (hb.mono h.size))⟩
theorem wrK_right {K : Dk} (h : K.right = true) (g v : Int) (h2 : (K.wr g v).2 = true) : (K.wr g v).1.right = true := by
  unfold Dk.right at *
  rw [Bool.and_eq_true] at *
  obtain ⟨hok, hD⟩ := h
  obtain ⟨⟨hc0, hc3⟩, hw1, ha1, hs1, ha2, ⟨hl0, hl8⟩, hrl, hcw⟩ := (Dk.ok_iff K).1 hok
  obtain ⟨D, n, r, e, c, w, a, s, l⟩ := K
  dsimp only at *
  unfold Dk.wr Dk.cmd at *
  dsimp only at *
  have mk : ∀ (n r e : Bool) (c w a s l : Int), (0 ≤ c ∧ c ≤ 3) → (0 ≤ w ∧ w ≤ 65535) → (0 ≤ a ∧ a ≤ 65535) → (0 ≤ s ∧ s ≤ 65535) → a % 2 = 0 → (0 ≤ l ∧ l ≤ 8) → r = decide (l = 0) → (l = 0 ∨ (c ≠ 0 ∧ w ≠ 0)) → (Dk.mk D n r e c w a s l).ok = true ∧ D.right = true := fun n r e c w a s l h1 h2 h3 h4 h5 h6 h7 h8 => ⟨(Dk.ok_iff _).2 ⟨h1, (wordV_iff _).2 h2, (wordV_iff _).2 h3, (wordV_iff _).2 h4, h5, h6, h7, h8⟩, hD⟩
  rw [wordV_iff] at hw1 ha1 hs1
  have hlr : r = true → l = 0 := fun h => by rw [h] at hrl; exact of_decide_eq_true hrl.symm
  split
  · split
    · rename_i hrv
      split
      · rename_i hq
        exact mk _ _ _ _ _ _ _ _ (by omega) hw1 ha1 hs1 ha2 (by omega) (by decide) (.inr hq)
      · exact mk _ _ _ _ _ _ _ _ (by omega) hw1 ha1 hs1 ha2 ⟨hl0, hl8⟩ hrl (.inl (hlr hrv.1))
    · exact mk _ _ _ _ _ _ _ _ ⟨hc0, hc3⟩ hw1 ha1 hs1 ha2 ⟨hl0, hl8⟩ hrl hcw
  · split
    · split
      · rename_i hr; exact mk _ _ _ _ _ _ _ _ ⟨hc0, hc3⟩ (by omega) ha1 hs1 ha2 ⟨hl0, hl8⟩ hrl (.inl (hlr hr))
      · exact mk _ _ _ _ _ _ _ _ ⟨hc0, hc3⟩ hw1 ha1 hs1 ha2 ⟨hl0, hl8⟩ hrl hcw
    · split
      · split
        · rename_i hr; exact mk _ _ _ _ _ _ _ _ ⟨hc0, hc3⟩ hw1 (by omega) hs1 (by omega) ⟨hl0, hl8⟩ hrl (.inl (hlr hr))
        · exact mk _ _ _ _ _ _ _ _ ⟨hc0, hc3⟩ hw1 ha1 hs1 ha2 ⟨hl0, hl8⟩ hrl hcw
      · split
        · split
          · rename_i hr; exact mk _ _ _ _ _ _ _ _ ⟨hc0, hc3⟩ hw1 ha1 (by omega) ha2 ⟨hl0, hl8⟩ hrl (.inl (hlr hr))
          · exact mk _ _ _ _ _ _ _ _ ⟨hc0, hc3⟩ hw1 ha1 hs1 ha2 ⟨hl0, hl8⟩ hrl hcw
        · rename_i h0 h2' h4 h6
          simp only [if_neg h0, if_neg h2', if_neg h4, if_neg h6] at h2
          cases h2
theorem wrK_two (K : Dk) (g v : Int) (h : g = 0 ∨ g = 2 ∨ g = 4 ∨ g = 6) : (K.wr g v).2 = true := by
  unfold Dk.wr; rcases h with rfl | rfl | rfl | rfl <;> rfl
def startV (K : Dk) (c n a s : Int) : Dk := ((((K.wr 2 n).1.wr 4 a).1.wr 6 s).1.wr 0 (1 + 2 * c)).1
theorem two_lt {t1 t2 : TypeId} {c1 c2 : List Value} {w w' : World} {B1 B2 : Nat} (h : Bag [(B1, t1, c1), (B2, t2, c2)] w w') : w.heap.size + 2 ≤ w'.heap.size := by
  have h1 := (h.all _ _ _ (.head _)).lt
  have h2 := (h.all _ _ _ (.tail _ (.head _))).lt
  have h3 := h.lo _ (.head _)
  have h4 := h.lo _ (.tail _ (.head _))
  have h5 := h.dis
  simp only [List.map_cons, List.map_nil, List.nodup_cons, List.mem_singleton] at h5
  simp only at h3 h4
  omega
theorem start_any (W0 : World) (H : DkC W0) (K : Dk) (c n a s : Int) (hR0 : K.right = true) (hc : 0 ≤ c ∧ c ≤ 3) (vs0 vb0 : Value) (w : World) (hb0 : Below W0.heap.size W0 w) (X : Nat → Prop) (hXl : ∀ b, X b → b < w.heap.size) (hs : StsX X w vs0 K.D.S) (hb : ItsX X w vb0 K.D.B) : Calls Try.prog 30 #[.agg #[vs0, vb0, .bool (K).n, .bool (K).r, .bool (K).e, .int .i64 (K).c, .int .i64 (K).w, .int .i64 (K).a, .int .i64 (K).s, .int .i64 (K).l], .int .i64 c, .int .i64 n, .int .i64 a, .int .i64 s] w fun e' w' => ∃ x, e' = .returned x ∧ DkX X w' x (startV K c n a s) ∧ Below w.heap.size w w' := by
  have hR1 := wrK_right hR0 2 n (wrK_two _ _ _ (by simp))
  have hR2 := wrK_right hR1 4 a (wrK_two _ _ _ (by simp))
  have hR3 := wrK_right hR2 6 s (wrK_two _ _ _ (by simp))
  have o1 := sts_one hs.now
  have o2 := its_one hb.now
  have hX := two_dk w [vs0, vb0, .bool (K).n, .bool (K).r, .bool (K).e, .int .i64 (K).c, .int .i64 (K).w, .int .i64 (K).a, .int .i64 (K).s, .int .i64 (K).l] [.slice none 0 0, .slice none 0 0, .bool false, .bool false, .bool false, .int .i64 0, .int .i64 0, .int .i64 0, .int .i64 0, .int .i64 0]
  have hXs : StsX (OwnA X w.heap.size) w vs0 K.D.S := hs.weak (Below.refl _ _) own_weak
  have hXb : ItsX (OwnA X w.heap.size) w vb0 K.D.B := hb.weak (Below.refl _ _) own_weak
  have x1 : IntKind.i64.wrap (2 * c) = 2 * c := by rw [wrap_i64]; unfold wrap64; omega
  have x2 : IntKind.i64.wrap (1 + 2 * c) = 1 + 2 * c := by rw [wrap_i64]; unfold wrap64; omega
  have q1 := fun vs vb w' (h : Below w.heap.size w w') hY h1 h2 => H.write K 2 n vs vb (OwnA X w.heap.size) w' (bT hb0 h) hR0 hY h1 h2
  have q2 := fun vs vb w' (h : Below w.heap.size w w') hY h1 h2 => H.write (K.wr 2 n).1 4 a vs vb (OwnA X w.heap.size) w' (bT hb0 h) hR1 hY h1 h2
  have q3 := fun vs vb w' (h : Below w.heap.size w w') hY h1 h2 => H.write ((K.wr 2 n).1.wr 4 a).1 6 s vs vb (OwnA X w.heap.size) w' (bT hb0 h) hR2 hY h1 h2
  have q4 := fun vs vb w' (h : Below w.heap.size w w') hY h1 h2 => H.write (((K.wr 2 n).1.wr 4 a).1.wr 6 s).1 0 (1 + 2 * c) vs vb (OwnA X w.heap.size) w' (bT hb0 h) hR3 hY h1 h2
  rw [wrK_two _ 2 _ (by simp)] at q1
  rw [wrK_two _ 4 _ (by simp)] at q2
  rw [wrK_two _ 6 _ (by simp)] at q3
  rw [wrK_two _ 0 _ (by simp)] at q4
  unfold startV
  clear hR0 hR1 hR2 hR3
  generalize ((((K.wr 2 n).1.wr 4 a).1.wr 6 s).1.wr 0 (1 + 2 * c)).1 = K4 at *
  generalize (((K.wr 2 n).1.wr 4 a).1.wr 6 s).1 = K3 at *
  generalize ((K.wr 2 n).1.wr 4 a).1 = K2 at *
  generalize (K.wr 2 n).1 = K1 at *
  have hs0 : StsX (OwnA X w.heap.size) (w.alloc (.cells ([vs0, vb0, .bool (K).n, .bool (K).r, .bool (K).e, .int .i64 (K).c, .int .i64 (K).w, .int .i64 (K).a, .int .i64 (K).s, .int .i64 (K).l] : List Value).toArray 27)) vs0 K.D.S := hXs.below ((Below.refl _ _).alloc (Nat.le_refl _) _)
  have hb0' : ItsX (OwnA X w.heap.size) (w.alloc (.cells ([vs0, vb0, .bool (K).n, .bool (K).r, .bool (K).e, .int .i64 (K).c, .int .i64 (K).w, .int .i64 (K).a, .int .i64 (K).s, .int .i64 (K).l] : List Value).toArray 27)) vb0 K.D.B := hXb.below ((Below.refl _ _).alloc (Nat.le_refl _) _)
  replace hs0 := hs0.below ((Below.refl _ _).alloc (Nat.le_refl _) (.cells ([.slice none 0 0, .slice none 0 0, .bool false, .bool false, .bool false, .int .i64 0, .int .i64 0, .int .i64 0, .int .i64 0, .int .i64 0] : List Value).toArray 27))
  replace hb0' := hb0'.below ((Below.refl _ _).alloc (Nat.le_refl _) (.cells ([.slice none 0 0, .slice none 0 0, .bool false, .bool false, .bool false, .int .i64 0, .int .i64 0, .int .i64 0, .int .i64 0, .int .i64 0] : List Value).toArray 27))
  have hb0 := hb0'
  clear hXs hXb hs hb hb0'
  go_enter Try.func30, Try.ntmps30
  go_wp2_with (first | ((with_reducible refine at_load ?_); refine wpList_bag_part (k := 0) hX aggK sizK _ rfl rfl rfl rfl (by first | exact .head _ | exact .tail _ (.head _)) (fun jz vz hz => (congrArg (fun n => ([_, _, _, _, _, _, _, _, _, _] : List Value)[n]?) (Nat.zero_add jz)).trans hz) rfl ?_) | (go_at_call 16; first | ((with_reducible refine (q1 vs0 vb0 _ hX.below (ownA_lt hXl (two_lt hX)) hs0 hb0).mono ?_); rintro e' wS ⟨x, rfl, ⟨vs1, vb1, rfl, hs1, hb1⟩, hbb⟩; replace hX := hX.step hbb; clear hbb) | ((with_reducible refine (q2 vs1 vb1 _ hX.below (ownA_lt hXl (two_lt hX)) hs1 hb1).mono ?_); rintro e' wS ⟨x, rfl, ⟨vs2, vb2, rfl, hs2, hb2⟩, hbb⟩; replace hX := hX.step hbb; clear hbb) | ((with_reducible refine (q3 vs2 vb2 _ hX.below (ownA_lt hXl (two_lt hX)) hs2 hb2).mono ?_); rintro e' wS ⟨x, rfl, ⟨vs3, vb3, rfl, hs3, hb3⟩, hbb⟩; replace hX := hX.step hbb; clear hbb) | ((with_reducible refine (q4 vs3 vb3 _ hX.below (ownA_lt hXl (two_lt hX)) hs3 hb3).mono ?_); rintro e' wS ⟨x, rfl, ⟨vs4, vb4, rfl, hs4, hb4⟩, hbb⟩; replace hX := hX.step hbb; clear hbb)) | ((with_reducible refine at_store ?_); first | (refine wpList_bag_overV (cs' := [vs4, vb4, .bool (K4).n, .bool (K4).r, .bool (K4).e, .int .i64 (K4).c, .int .i64 (K4).w, .int .i64 (K4).a, .int .i64 (K4).s, .int .i64 (K4).l]) hX aggK sizK _ _ rfl rfl rfl rfl rfl rfl rfl rfl (one_dk (sts_one hs4.now) (its_one hb4.now) _ _ _ _ _ _ _ _) ?_; clear hX; intro wz hX hkz; replace hs4 := hs4.over hkz (.inr (.inl rfl)); replace hb4 := hb4.over hkz (.inr (.inl rfl)); clear hkz) | (refine wpList_bag_overV (cs' := [vs4, vb4, .bool (K4).n, .bool (K4).r, .bool (K4).e, .int .i64 (K4).c, .int .i64 (K4).w, .int .i64 (K4).a, .int .i64 (K4).s, .int .i64 (K4).l]) hX aggK sizK _ _ rfl rfl rfl rfl rfl rfl rfl rfl (one_dk (sts_one hs4.now) (its_one hb4.now) _ _ _ _ _ _ _ _) ?_; clear hX; intro wz hX hkz; replace hs4 := hs4.over hkz (.inr (.inr rfl)); replace hb4 := hb4.over hkz (.inr (.inr rfl)); clear hkz) | (refine wpList_bag_overV (cs' := [vs4, vb4, .bool (K4).n, .bool (K4).r, .bool (K4).e, .int .i64 (K4).c, .int .i64 (K4).w, .int .i64 (K4).a, .int .i64 (K4).s, .int .i64 (K4).l]) hX.swap aggK sizK _ _ rfl rfl rfl rfl rfl rfl rfl rfl (one_dk (sts_one hs4.now) (its_one hb4.now) _ _ _ _ _ _ _ _) ?_; clear hX; intro wz hX hkz; replace hs4 := hs4.over hkz (.inr (.inl rfl)); replace hb4 := hb4.over hkz (.inr (.inl rfl)); clear hkz) | (refine wpList_bag_overV (cs' := [vs4, vb4, .bool (K4).n, .bool (K4).r, .bool (K4).e, .int .i64 (K4).c, .int .i64 (K4).w, .int .i64 (K4).a, .int .i64 (K4).s, .int .i64 (K4).l]) hX.swap aggK sizK _ _ rfl rfl rfl rfl rfl rfl rfl rfl (one_dk (sts_one hs4.now) (its_one hb4.now) _ _ _ _ _ _ _ _) ?_; clear hX; intro wz hX hkz; replace hs4 := hs4.over hkz (.inr (.inr rfl)); replace hb4 := hb4.over hkz (.inr (.inr rfl)); clear hkz)) | ((with_reducible refine at_store ?_); first | (refine wpList_bag_overV (cs' := [vs3, vb3, .bool (K3).n, .bool (K3).r, .bool (K3).e, .int .i64 (K3).c, .int .i64 (K3).w, .int .i64 (K3).a, .int .i64 (K3).s, .int .i64 (K3).l]) hX aggK sizK _ _ rfl rfl rfl rfl rfl rfl rfl rfl (one_dk (sts_one hs3.now) (its_one hb3.now) _ _ _ _ _ _ _ _) ?_; clear hX; intro wz hX hkz; replace hs3 := hs3.over hkz (.inr (.inl rfl)); replace hb3 := hb3.over hkz (.inr (.inl rfl)); clear hkz) | (refine wpList_bag_overV (cs' := [vs3, vb3, .bool (K3).n, .bool (K3).r, .bool (K3).e, .int .i64 (K3).c, .int .i64 (K3).w, .int .i64 (K3).a, .int .i64 (K3).s, .int .i64 (K3).l]) hX aggK sizK _ _ rfl rfl rfl rfl rfl rfl rfl rfl (one_dk (sts_one hs3.now) (its_one hb3.now) _ _ _ _ _ _ _ _) ?_; clear hX; intro wz hX hkz; replace hs3 := hs3.over hkz (.inr (.inr rfl)); replace hb3 := hb3.over hkz (.inr (.inr rfl)); clear hkz) | (refine wpList_bag_overV (cs' := [vs3, vb3, .bool (K3).n, .bool (K3).r, .bool (K3).e, .int .i64 (K3).c, .int .i64 (K3).w, .int .i64 (K3).a, .int .i64 (K3).s, .int .i64 (K3).l]) hX.swap aggK sizK _ _ rfl rfl rfl rfl rfl rfl rfl rfl (one_dk (sts_one hs3.now) (its_one hb3.now) _ _ _ _ _ _ _ _) ?_; clear hX; intro wz hX hkz; replace hs3 := hs3.over hkz (.inr (.inl rfl)); replace hb3 := hb3.over hkz (.inr (.inl rfl)); clear hkz) | (refine wpList_bag_overV (cs' := [vs3, vb3, .bool (K3).n, .bool (K3).r, .bool (K3).e, .int .i64 (K3).c, .int .i64 (K3).w, .int .i64 (K3).a, .int .i64 (K3).s, .int .i64 (K3).l]) hX.swap aggK sizK _ _ rfl rfl rfl rfl rfl rfl rfl rfl (one_dk (sts_one hs3.now) (its_one hb3.now) _ _ _ _ _ _ _ _) ?_; clear hX; intro wz hX hkz; replace hs3 := hs3.over hkz (.inr (.inr rfl)); replace hb3 := hb3.over hkz (.inr (.inr rfl)); clear hkz)) | ((with_reducible refine at_store ?_); first | (refine wpList_bag_overV (cs' := [vs2, vb2, .bool (K2).n, .bool (K2).r, .bool (K2).e, .int .i64 (K2).c, .int .i64 (K2).w, .int .i64 (K2).a, .int .i64 (K2).s, .int .i64 (K2).l]) hX aggK sizK _ _ rfl rfl rfl rfl rfl rfl rfl rfl (one_dk (sts_one hs2.now) (its_one hb2.now) _ _ _ _ _ _ _ _) ?_; clear hX; intro wz hX hkz; replace hs2 := hs2.over hkz (.inr (.inl rfl)); replace hb2 := hb2.over hkz (.inr (.inl rfl)); clear hkz) | (refine wpList_bag_overV (cs' := [vs2, vb2, .bool (K2).n, .bool (K2).r, .bool (K2).e, .int .i64 (K2).c, .int .i64 (K2).w, .int .i64 (K2).a, .int .i64 (K2).s, .int .i64 (K2).l]) hX aggK sizK _ _ rfl rfl rfl rfl rfl rfl rfl rfl (one_dk (sts_one hs2.now) (its_one hb2.now) _ _ _ _ _ _ _ _) ?_; clear hX; intro wz hX hkz; replace hs2 := hs2.over hkz (.inr (.inr rfl)); replace hb2 := hb2.over hkz (.inr (.inr rfl)); clear hkz) | (refine wpList_bag_overV (cs' := [vs2, vb2, .bool (K2).n, .bool (K2).r, .bool (K2).e, .int .i64 (K2).c, .int .i64 (K2).w, .int .i64 (K2).a, .int .i64 (K2).s, .int .i64 (K2).l]) hX.swap aggK sizK _ _ rfl rfl rfl rfl rfl rfl rfl rfl (one_dk (sts_one hs2.now) (its_one hb2.now) _ _ _ _ _ _ _ _) ?_; clear hX; intro wz hX hkz; replace hs2 := hs2.over hkz (.inr (.inl rfl)); replace hb2 := hb2.over hkz (.inr (.inl rfl)); clear hkz) | (refine wpList_bag_overV (cs' := [vs2, vb2, .bool (K2).n, .bool (K2).r, .bool (K2).e, .int .i64 (K2).c, .int .i64 (K2).w, .int .i64 (K2).a, .int .i64 (K2).s, .int .i64 (K2).l]) hX.swap aggK sizK _ _ rfl rfl rfl rfl rfl rfl rfl rfl (one_dk (sts_one hs2.now) (its_one hb2.now) _ _ _ _ _ _ _ _) ?_; clear hX; intro wz hX hkz; replace hs2 := hs2.over hkz (.inr (.inr rfl)); replace hb2 := hb2.over hkz (.inr (.inr rfl)); clear hkz)) | ((with_reducible refine at_store ?_); first | (refine wpList_bag_overV (cs' := [vs1, vb1, .bool (K1).n, .bool (K1).r, .bool (K1).e, .int .i64 (K1).c, .int .i64 (K1).w, .int .i64 (K1).a, .int .i64 (K1).s, .int .i64 (K1).l]) hX aggK sizK _ _ rfl rfl rfl rfl rfl rfl rfl rfl (one_dk (sts_one hs1.now) (its_one hb1.now) _ _ _ _ _ _ _ _) ?_; clear hX; intro wz hX hkz; replace hs1 := hs1.over hkz (.inr (.inl rfl)); replace hb1 := hb1.over hkz (.inr (.inl rfl)); clear hkz) | (refine wpList_bag_overV (cs' := [vs1, vb1, .bool (K1).n, .bool (K1).r, .bool (K1).e, .int .i64 (K1).c, .int .i64 (K1).w, .int .i64 (K1).a, .int .i64 (K1).s, .int .i64 (K1).l]) hX aggK sizK _ _ rfl rfl rfl rfl rfl rfl rfl rfl (one_dk (sts_one hs1.now) (its_one hb1.now) _ _ _ _ _ _ _ _) ?_; clear hX; intro wz hX hkz; replace hs1 := hs1.over hkz (.inr (.inr rfl)); replace hb1 := hb1.over hkz (.inr (.inr rfl)); clear hkz) | (refine wpList_bag_overV (cs' := [vs1, vb1, .bool (K1).n, .bool (K1).r, .bool (K1).e, .int .i64 (K1).c, .int .i64 (K1).w, .int .i64 (K1).a, .int .i64 (K1).s, .int .i64 (K1).l]) hX.swap aggK sizK _ _ rfl rfl rfl rfl rfl rfl rfl rfl (one_dk (sts_one hs1.now) (its_one hb1.now) _ _ _ _ _ _ _ _) ?_; clear hX; intro wz hX hkz; replace hs1 := hs1.over hkz (.inr (.inl rfl)); replace hb1 := hb1.over hkz (.inr (.inl rfl)); clear hkz) | (refine wpList_bag_overV (cs' := [vs1, vb1, .bool (K1).n, .bool (K1).r, .bool (K1).e, .int .i64 (K1).c, .int .i64 (K1).w, .int .i64 (K1).a, .int .i64 (K1).s, .int .i64 (K1).l]) hX.swap aggK sizK _ _ rfl rfl rfl rfl rfl rfl rfl rfl (one_dk (sts_one hs1.now) (its_one hb1.now) _ _ _ _ _ _ _ _) ?_; clear hX; intro wz hX hkz; replace hs1 := hs1.over hkz (.inr (.inr rfl)); replace hb1 := hb1.over hkz (.inr (.inr rfl)); clear hkz)))
  exact bodyPost_ret (results_c Try.results30 rfl ((hX.all _ _ _ (.head _)).loadVar rfl aggK sizK)) rfl ⟨_, rfl, ⟨_, _, rfl, hs4.less (fun _ h => .inl h), hb4.less (fun _ h => .inl h)⟩, hX.below⟩
end Go.Proofs.Ytjolhlfjpnlcnaa
