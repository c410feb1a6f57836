import Derived.Test.YtigmlkfmgheegaaTO
import Derived.Test.YtigmlkfmgheegaaTS
/-
  Written, spaced back, read again: plain. No condition.
-/
namespace Go.Proofs.Ytigmlkfmgheegaa
open Go.RowKit
set_option linter.unusedSimpArgs false
set_option linter.unusedVariables false
set_option maxHeartbeats 4000000
set_option maxRecDepth 100000
attribute [local irreducible] wpQuiet

/-- The bytes that are written. -/
def recW (M : List Int) (fr c : Int) : ByteArray := strV (bytesN M fr.toNat c.toNat)
/-- Count and address set. -/
def atW (K : Tp) (c a : Int) : Tp := { K with k := c, a := a }
def retA (K : Tp) (M : List Int) (c fr : Int) : Tp := { K with R := K.R.take K.p.toNat ++ [recW M fr c], p := K.p + 1, n := false, r := true, e := false, m := false, d := false, c := 2, k := c, a := fr, l := 0 }
def retB (K : Tp) (M : List Int) (c fr : Int) : Tp := { retA K M c fr with p := K.p, c := 4 }
def retD (K : Tp) (M : List Int) (c fr to_ : Int) : Tp := { retA K M c fr with c := 1, k := 0, a := to_ }
def memD (M : List Int) (c fr to_ : Int) : List Int := storeN M to_.toNat (bytesN M fr.toNat c.toNat)
theorem recW_size (M : List Int) (fr c : Int) (h : 0 ≤ c) : ((recW M fr c).size : Int) = c := by
  show ((bytesN M fr.toNat c.toNat).toArray.size : Int) = c
  rw [List.size_toArray, bytesN_length]; omega
theorem recW_list (M : List Int) (fr c : Int) : (recW M fr c).data.toList = bytesN M fr.toNat c.toNat := rfl
theorem atW_wr (K : Tp) (hr : K.r = true) (c a : Int) (hc : 0 ≤ c ∧ c ≤ 65535) (ha : 0 ≤ a ∧ a ≤ 65535) : atT K c a = atW K c a := by
  show ((K.wr 2 c).1.wr 4 a).1 = _
  have e1 : (K.wr 2 c).1 = { K with k := c } := by
    unfold Tp.wr
    rw [if_neg (by decide), if_pos rfl, if_pos hr, show c % 65536 = c by omega]
  rw [e1]
  unfold Tp.wr atW
  rw [if_neg (by decide), if_neg (by decide), if_pos rfl]
  dsimp only
  rw [if_pos hr, show a % 65536 = a by omega]
theorem retA_eq (K : Tp) (M : List Int) (c fr : Int) (hr : K.r = true) (hp : 0 ≤ K.p ∧ K.p < 64) (hc : 1 ≤ c ∧ c ≤ 512) (hf : 0 ≤ fr ∧ fr ≤ 2 * (M.length : Int) - c) : cmdT (atW K c fr) M [] 2 = (retA K M c fr, M, []) := by
  rw [cmdT_eq (atW K c fr) M [] 2 hr (by decide)]
  unfold Tp.done atW
  dsimp only
  rw [if_neg (by decide), if_pos rfl]
  unfold Tp.write
  dsimp only
  rw [if_pos ⟨hc, by unfold inR; simp; omega, by unfold splV; simp⟩]
  unfold Tp.app
  dsimp only
  rw [if_neg (by omega)]
  rfl
theorem take_len {K : Tp} (h : 0 ≤ K.p ∧ K.p ≤ (K.R.length : Int)) : ((K.R.take K.p.toNat).length : Int) = K.p := by
  rw [List.length_take]; omega
theorem retA_rec {K : Tp} {M : List Int} {c fr : Int} (h : 0 ≤ K.p ∧ K.p ≤ (K.R.length : Int)) : (K.R.take K.p.toNat ++ [recW M fr c]).getD K.p.toNat ⟨#[]⟩ = recW M fr c := by
  have h1 := take_len h
  have h2 : (K.R.take K.p.toNat).length = K.p.toNat := by omega
  rw [List.getD_eq_getElem?_getD, List.getElem?_append_right (by omega), h2]
  simp
theorem retB_eq (K : Tp) (M : List Int) (c fr : Int) (hp : 0 ≤ K.p ∧ K.p ≤ (K.R.length : Int)) (hc : 1 ≤ c) : cmdT (retA K M c fr) M [] 4 = (retB K M c fr, M, []) := by
  rw [cmdT_eq (retA K M c fr) M [] 4 rfl (by decide)]
  unfold Tp.done
  dsimp only
  rw [if_neg (by decide), if_neg (by decide), if_neg (by decide), if_pos rfl]
  unfold Tp.back recV retB retA
  dsimp only
  have hs := recW_size M fr c (by omega)
  rw [if_neg (by omega), show K.p + 1 - 1 = K.p by omega, retA_rec hp]
  simp only [Bool.false_or]
  rw [decide_eq_false (by omega)]
theorem retD_eq (K : Tp) (M : List Int) (c fr to_ : Int) (hp : 0 ≤ K.p ∧ K.p ≤ (K.R.length : Int)) (hc : 1 ≤ c ∧ c ≤ 512) (ht : 0 ≤ to_ ∧ to_ ≤ 2 * (M.length : Int) - c) : cmdT (atW (retB K M c fr) c to_) M [] 1 = (retD K M c fr to_, memD M c fr to_, []) := by
  rw [cmdT_eq (atW (retB K M c fr) c to_) M [] 1 rfl (by decide)]
  unfold Tp.done
  dsimp only
  rw [if_pos rfl]
  have hs := recW_size M fr c (by omega)
  have hl := take_len hp
  unfold Tp.read cntR lenR recV atW retB retA
  dsimp only
  rw [retA_rec hp]
  have hm : min c.toNat (recW M fr c).size = c.toNat := by omega
  rw [hm, if_neg (by rw [List.length_append, List.length_singleton]; omega), if_pos (by unfold inR; simp; omega)]
  unfold Tp.pass recV
  dsimp only
  rw [if_neg (by rw [List.length_append, List.length_singleton]; omega), retA_rec hp, recW_list, List.take_of_length_le (l := bytesN M fr.toNat c.toNat) (by rw [bytesN_length]; omega)]
  unfold retD retA memD
  simp only [Bool.false_or]
  have e3 : ∀ n, clrV ([] : List Int) to_ n = [] := fun n => by
    induction n with
    | zero => rfl
    | succ n ih => show withoutP (clrV [] to_ n) _ = []; rw [ih]; rfl
  rw [e3, decide_eq_false (by omega), decide_eq_false (by omega), show c - (c.toNat : Int) = 0 by omega]
theorem back_eq (M : List Int) (c fr to_ : Int) (hc : 1 ≤ c ∧ c ≤ 512) (ht : 0 ≤ to_ ∧ to_ ≤ 2 * (M.length : Int) - c) : bytesN (memD M c fr to_) to_.toNat c.toNat = bytesN M fr.toNat c.toNat := by
  have h := bytes_store (bytesN M fr.toNat c.toNat) M to_.toNat (by rw [bytesN_length]; omega)
  rw [bytesN_length] at h
  exact h
theorem memD_len (M : List Int) (c fr to_ : Int) : (memD M c fr to_).length = M.length := storeN_length _ _ _
theorem retA_right {K : Tp} {M : List Int} {c fr : Int} (h : K.right = true) (hp : K.p < 64) (hc : 1 ≤ c ∧ c ≤ 512) (hf : 0 ≤ fr ∧ fr ≤ 65535) : (retA K M c fr).right = true := by
  obtain ⟨⟨h1, h2, h3, h4, h5, h6, h7⟩, h8⟩ := (Tp.right_iff _).1 h
  have hl := take_len h2
  refine tp_mk (by rw [List.length_append, List.length_singleton]; omega) (by rw [List.length_append, List.length_singleton]; omega) (by decide) (by omega) (by omega) (by decide) rfl ?_
  intro s hs
  rcases List.mem_append.1 hs with h | h
  · exact h8 s (List.mem_of_mem_take h)
  · rw [List.mem_singleton] at h
    have := recW_size M fr c (by omega)
    rw [h]; omega
end Go.Proofs.Ytigmlkfmgheegaa

/-
  TapeReturns. Condition: the contracts; alive.
-/
namespace Go.Proofs.Ytigmlkfmgheegaa
open Go.RowKit
set_option linter.unusedSimpArgs false
set_option linter.unusedVariables false
set_option maxHeartbeats 4000000
set_option maxRecDepth 100000
attribute [local irreducible] wpQuiet

theorem bytesR (M : List Int) (a c : Int) (hc : 1 ≤ c ∧ c ≤ 512) (ha : 0 ≤ a ∧ a ≤ 2 * (M.length : Int) - c) : bytesE (2 * (M.length : Int)) a c = 0 ∧ (⟨(bytesS M a c).toArray⟩ : ByteArray) = strV (bytesN M a.toNat c.toNat) := by
  have h : inR (2 * (M.length : Int)) a c = true := by unfold inR; simp; omega
  unfold bytesE bytesS
  rw [h]
  exact ⟨rfl, rfl⟩
theorem memD_right {M : List Int} (h : rightP M [] = true) (c fr tt : Int) : rightP (memD M c fr tt) [] = true := by
  unfold rightP at *
  rw [memD_len]
  simp only [Bool.and_eq_true] at *
  exact ⟨h.1, storeN_words _ _ h.2.1, h.2.2⟩
theorem Its.below17 {w w' : World} {v : Value} {S : List Int} (h : Its w v S) (hb : Below w.heap.size w w') : Its w' v S := Rz.below h hb
/-- The contracts at what is written and read again. -/
structure RetC (W0 : World) (R R2 : List ByteArray) (M M2 : List Int) (REC : ByteArray) (p : Int) (n e m d : Bool) (c0 k a l c fr tt : Int) : Prop where
  A : ∀ (vs : Value) (X : Nat → Prop) (w : World), Below W0.heap.size W0 w → (∀ b, X b → b < w.heap.size) → StsX X w vs R → Calls Try.prog 35 #[.agg #[vs, .int .i64 p, .bool n, .bool true, .bool e, .bool m, .bool d, .int .i64 c0, .int .i64 k, .int .i64 a, .int .i64 l], .int .i64 c, .int .i64 fr] w fun e' w' => ∃ vs, e' = .returned (.agg #[vs, .int .i64 p, .bool n, .bool true, .bool e, .bool m, .bool d, .int .i64 c0, .int .i64 c, .int .i64 fr, .int .i64 l]) ∧ StsX X w' vs R ∧ Below w.heap.size w w'
  B : ∀ (vs vm vz : Value) (X : Nat → Prop) (w : World), Below W0.heap.size W0 w → (∀ b, X b → b < w.heap.size) → StsX X w vs R → ItsX X w vm M → ItsX X w vz [] → Calls Try.prog 34 #[.agg #[vs, .int .i64 p, .bool n, .bool true, .bool e, .bool m, .bool d, .int .i64 c0, .int .i64 c, .int .i64 fr, .int .i64 l], .agg #[vm, vz], .int .i64 2] w fun e' w' => ∃ vs ym yz, e' = .returned (.tuple #[.agg #[vs, .int .i64 (p + 1), .bool false, .bool true, .bool false, .bool false, .bool false, .int .i64 2, .int .i64 c, .int .i64 fr, .int .i64 0], .agg #[ym, yz]]) ∧ StsX X w' vs R2 ∧ ItsX X w' ym M ∧ ItsX X w' yz [] ∧ Below w.heap.size w w'
  C : ∀ (vs vm vz : Value) (X : Nat → Prop) (w : World), Below W0.heap.size W0 w → (∀ b, X b → b < w.heap.size) → StsX X w vs R2 → ItsX X w vm M → ItsX X w vz [] → Calls Try.prog 34 #[.agg #[vs, .int .i64 (p + 1), .bool false, .bool true, .bool false, .bool false, .bool false, .int .i64 2, .int .i64 c, .int .i64 fr, .int .i64 0], .agg #[vm, vz], .int .i64 4] w fun e' w' => ∃ vs ym yz, e' = .returned (.tuple #[.agg #[vs, .int .i64 p, .bool false, .bool true, .bool false, .bool false, .bool false, .int .i64 4, .int .i64 c, .int .i64 fr, .int .i64 0], .agg #[ym, yz]]) ∧ StsX X w' vs R2 ∧ ItsX X w' ym M ∧ ItsX X w' yz [] ∧ Below w.heap.size w w'
  D : ∀ (vs : Value) (X : Nat → Prop) (w : World), Below W0.heap.size W0 w → (∀ b, X b → b < w.heap.size) → StsX X w vs R2 → Calls Try.prog 35 #[.agg #[vs, .int .i64 p, .bool false, .bool true, .bool false, .bool false, .bool false, .int .i64 4, .int .i64 c, .int .i64 fr, .int .i64 0], .int .i64 c, .int .i64 tt] w fun e' w' => ∃ vs, e' = .returned (.agg #[vs, .int .i64 p, .bool false, .bool true, .bool false, .bool false, .bool false, .int .i64 4, .int .i64 c, .int .i64 tt, .int .i64 0]) ∧ StsX X w' vs R2 ∧ Below w.heap.size w w'
  E : ∀ (vs vm vz : Value) (X : Nat → Prop) (w : World), Below W0.heap.size W0 w → (∀ b, X b → b < w.heap.size) → StsX X w vs R2 → ItsX X w vm M → ItsX X w vz [] → Calls Try.prog 34 #[.agg #[vs, .int .i64 p, .bool false, .bool true, .bool false, .bool false, .bool false, .int .i64 4, .int .i64 c, .int .i64 tt, .int .i64 0], .agg #[vm, vz], .int .i64 1] w fun e' w' => ∃ vs ym yz, e' = .returned (.tuple #[.agg #[vs, .int .i64 (p + 1), .bool false, .bool true, .bool false, .bool false, .bool false, .int .i64 1, .int .i64 0, .int .i64 tt, .int .i64 0], .agg #[ym, yz]]) ∧ StsX X w' vs R2 ∧ ItsX X w' ym M2 ∧ ItsX X w' yz [] ∧ Below w.heap.size w w'
  Y : ∀ (vm : Value) (w : World), Its w vm M → Calls Try.prog 33 #[vm, .int .i64 fr, .int .i64 c] w fun e' w' => e' = .returned (.tuple #[.string REC, .int .i64 0]) ∧ Below w.heap.size w w'
  Z : ∀ (vm : Value) (w : World), Its w vm M2 → Calls Try.prog 33 #[vm, .int .i64 tt, .int .i64 c] w fun e' w' => e' = .returned (.tuple #[.string REC, .int .i64 0]) ∧ Below w.heap.size w w'
  len : (R2.length : Int) = p + 1
theorem ret_c (W0 : World) (H : TpC W0) (R : List ByteArray) (M : List Int) (p : Int) (n e m d : Bool) (c0 k a l c fr tt : Int) (hR : (Tp.mk R p n true e m d c0 k a l).right = true) (hM : rightP M [] = true) (hml : M.length ≤ 2048) (hp : p < 64) (hc : 1 ≤ c ∧ c ≤ 512) (hf : 0 ≤ fr ∧ fr ≤ 2 * (M.length : Int) - c) (ht : 0 ≤ tt ∧ tt ≤ 2 * (M.length : Int) - c) : RetC W0 R (retA (Tp.mk R p n true e m d c0 k a l) M c fr).R M (memD M c fr tt) (recW M fr c) p n e m d c0 k a l c fr tt := by
  obtain ⟨⟨g1, g2, g3, g4, g5, g6, g7⟩, g8⟩ := (Tp.right_iff _).1 hR
  dsimp only at g1 g2 g3 g4 g5 g6 g7 g8
  have hAR := retA_right (c := c) (fr := fr) (M := M) hR hp hc (by omega)
  have hBR : (retB (Tp.mk R p n true e m d c0 k a l) M c fr).right = true := by
    obtain ⟨⟨q1, q2, q3, q4, q5, q6, q7⟩, q8⟩ := (Tp.right_iff _).1 hAR
    exact tp_mk q1 (by have := q2.2; show 0 ≤ p ∧ p ≤ _; have h2 : (retA (Tp.mk R p n true e m d c0 k a l) M c fr).p = p + 1 := rfl; omega) (by decide) q4 q5 q6 rfl q8
  have hl : l = 0 := of_decide_eq_true g7.symm
  subst hl
  have e1 := atW_wr (Tp.mk R p n true e m d c0 k a 0) rfl c fr (by omega) (by omega)
  have e2 := atW_wr (retB (Tp.mk R p n true e m d c0 k a 0) M c fr) rfl c tt (by omega) (by omega)
  have hA1 : (atW (Tp.mk R p n true e m d c0 k a 0) c fr).right = true := e1 ▸ atT_right hR c fr
  have hB1 : (atW (retB (Tp.mk R p n true e m d c0 k a 0) M c fr) c tt).right = true := e2 ▸ atT_right hBR c tt
  have y1 := bytesR M fr c hc hf
  have y2 := bytesR (memD M c fr tt) tt c hc (by rw [memD_len]; exact ht)
  have y3 := back_eq M c fr tt hc ht
  have hl2 := take_len (K := Tp.mk R p n true e m d c0 k a 0) g2
  exact {
    A := fun vs X w hb hXl hs => by
      have h := at_any W0 H (Tp.mk R p n true e m d c0 k a 0) c fr hR vs w hb X hXl hs
      rw [e1] at h
      refine h.mono ?_
      rintro e' w' ⟨x, rfl, ⟨vs, rfl, h1⟩, h2⟩
      exact ⟨vs, rfl, h1, h2⟩
    B := fun vs vm vz X w hb hXl hs hm hz => by
      have h := command_any W0 H (atW (Tp.mk R p n true e m d c0 k a 0) c fr) M [] 2 (by decide) hA1 hM vs vm vz w hb X hXl hs hm hz
      rw [retA_eq (Tp.mk R p n true e m d c0 k a 0) M c fr rfl ⟨g2.1, hp⟩ hc hf] at h
      refine h.mono ?_
      rintro e' w' ⟨x, ym, yz, rfl, ⟨vs, rfl, h1⟩, h2, h3, h4⟩
      exact ⟨vs, ym, yz, rfl, h1, h2, h3, h4⟩
    C := fun vs vm vz X w hb hXl hs hm hz => by
      have h := command_any W0 H (retA (Tp.mk R p n true e m d c0 k a 0) M c fr) M [] 4 (by decide) hAR hM vs vm vz w hb X hXl hs hm hz
      rw [retB_eq (Tp.mk R p n true e m d c0 k a 0) M c fr g2 hc.1] at h
      refine h.mono ?_
      rintro e' w' ⟨x, ym, yz, rfl, ⟨vs, rfl, h1⟩, h2, h3, h4⟩
      exact ⟨vs, ym, yz, rfl, h1, h2, h3, h4⟩
    D := fun vs X w hb hXl hs => by
      have h := at_any W0 H (retB (Tp.mk R p n true e m d c0 k a 0) M c fr) c tt hBR vs w hb X hXl hs
      rw [e2] at h
      refine h.mono ?_
      rintro e' w' ⟨x, rfl, ⟨vs, rfl, h1⟩, h2⟩
      exact ⟨vs, rfl, h1, h2⟩
    E := fun vs vm vz X w hb hXl hs hm hz => by
      have h := command_any W0 H (atW (retB (Tp.mk R p n true e m d c0 k a 0) M c fr) c tt) M [] 1 (by decide) hB1 hM vs vm vz w hb X hXl hs hm hz
      rw [retD_eq (Tp.mk R p n true e m d c0 k a 0) M c fr tt g2 hc ht] at h
      refine h.mono ?_
      rintro e' w' ⟨x, ym, yz, rfl, ⟨vs, rfl, h1⟩, h2, h3, h4⟩
      exact ⟨vs, ym, yz, rfl, h1, h2, h3, h4⟩
    Y := fun vm w hm => by
      have h := bytes_any vm M (by omega) fr c (by omega) w (Its.nums hm)
      rw [y1.1, y1.2] at h
      exact h
    Z := fun vm w hm => by
      have h := bytes_any vm (memD M c fr tt) (by rw [memD_len]; omega) tt c (by omega) w (Its.nums hm)
      rw [y2.1, y2.2, y3] at h
      exact h
    len := by
      show ((R.take p.toNat ++ [recW M fr c]).length : Int) = p + 1
      rw [List.length_append, List.length_singleton]
      have : ((R.take p.toNat).length : Int) = p := hl2
      omega }
theorem TapeReturns_law (W0 : World) (H : TpC W0) (HA : AlT W0) (K : Tp) (M : List Int) (c fr tt : Int) (vs vm : Value) (hs : Sts W0 vs K.R) (hvm : Its W0 vm M) : Calls Try.prog 7 #[.agg #[vs, .int .i64 (K).p, .bool (K).n, .bool (K).r, .bool (K).e, .bool (K).m, .bool (K).d, .int .i64 (K).c, .int .i64 (K).k, .int .i64 (K).a, .int .i64 (K).l], vm, .agg #[.int .i64 c, .int .i64 fr, .int .i64 tt]] W0 fun e' w' => e' = .returned (.bool true) ∧ Below W0.heap.size W0 w' := by
  have hF : ∀ w, Below W0.heap.size W0 w → Calls Try.prog 28 #[.agg #[vs, .int .i64 (K).p, .bool (K).n, .bool (K).r, .bool (K).e, .bool (K).m, .bool (K).d, .int .i64 (K).c, .int .i64 (K).k, .int .i64 (K).a, .int .i64 (K).l], .agg #[vm, .slice none 0 0]] w fun e' w' => e' = .returned (.bool (smallT K M [])) ∧ Below w.heap.size w w' := fun w h => small_any K M [] vs vm (.slice none 0 0) w (Rz.below hs h) (Rz.below hvm h) (Rz.nil w)
  obtain ⟨A3, c3, rfl, _⟩ := hvm.form
  obtain ⟨R, p, n, r, e, m, d, c0, k, a, l⟩ := K
  dsimp only at *
  have hX := two_bag W0 24 54 [vs, .int .i64 p, .bool n, .bool r, .bool e, .bool m, .bool d, .int .i64 c0, .int .i64 k, .int .i64 a, .int .i64 l] [.int .i64 c, .int .i64 fr, .int .i64 tt]
  cases hf : smallT (Tp.mk R p n r e m d c0 k a l) M []
  · rw [hf] at hF
    go_enter Try.func7, Try.ntmps7
    go_upto_region 1 with fail
    generalize (W0.alloc (Obj.cells #[vs, .int .i64 p, .bool n, .bool r, .bool e, .bool m, .bool d, .int .i64 c0, .int .i64 k, .int .i64 a, .int .i64 l] 24)).alloc (Obj.cells #[.int .i64 c, .int .i64 fr, .int .i64 tt] 54) = wQ at hX ⊢
    go_wp2_with (first | ((with_reducible refine at_load ?_); refine wpList_bag_part (k := 0) hX aggT sizT _ rfl rfl rfl rfl (by first | exact .head _ | exact .tail _ (.head _) | exact .tail _ (.tail _ (.head _))) (fun jz vz hz => (congrArg (fun n => ([_, _, _, _, _, _, _, _, _, _, _] : List Value)[n]?) (Nat.zero_add jz)).trans hz) rfl ?_) | ((with_reducible refine at_load ?_); refine wpList_bag_part (k := 0) hX aggSt sizSt _ rfl rfl rfl rfl (by first | exact .head _ | exact .tail _ (.head _) | exact .tail _ (.tail _ (.head _))) (fun jz vz hz => (congrArg (fun n => ([_, _] : List Value)[n]?) (Nat.zero_add jz)).trans hz) rfl ?_) | ((with_reducible refine at_load ?_); refine wpList_bag_cell hX slI_cell _ rfl rfl rfl rfl (by first | exact .head _ | exact .tail _ (.head _) | exact .tail _ (.tail _ (.head _))) rfl ?_) | ((with_reducible refine at_load ?_); refine wpList_bag_cell hX slS_cell _ rfl rfl rfl rfl (by first | exact .head _ | exact .tail _ (.head _) | exact .tail _ (.tail _ (.head _))) rfl ?_) | ((with_reducible refine at_load ?_); refine wpList_bag_cell hX int_cell _ rfl rfl rfl rfl (by first | exact .head _ | exact .tail _ (.head _) | exact .tail _ (.tail _ (.head _))) rfl ?_) | ((with_reducible refine at_load ?_); refine wpList_bag_cell hX bool_cell _ rfl rfl rfl rfl (by first | exact .head _ | exact .tail _ (.head _) | exact .tail _ (.tail _ (.head _))) rfl ?_) | (go_at_call 28; (with_reducible refine (hF _ hX.below).mono ?_); rintro e' wF ⟨rfl, hbb⟩; replace hX := hX.step hbb; clear hbb) | ((with_reducible refine at_store ?_); refine wpList_bag_overV (cs' := [.slice A3 M.length c3, .slice none 0 0]) (hX.new 44 [.slice none 0 0, .slice none 0 0]) aggSt sizSt _ _ rfl rfl rfl rfl rfl rfl rfl rfl (one_st (its_one hvm) rfl) ?_; clear hX; intro wS hX hkz; clear hkz))
    go_ret
    exact ⟨rfl, hX.below⟩
  rw [hf] at hF
  obtain ⟨hml, _, _, hR, hM⟩ := (smallT_iff _ _ _).1 hf
  clear hf
  cases r
  · go_enter Try.func7, Try.ntmps7
    go_upto_region 1 with fail
    generalize (W0.alloc (Obj.cells #[vs, .int .i64 p, .bool n, .bool false, .bool e, .bool m, .bool d, .int .i64 c0, .int .i64 k, .int .i64 a, .int .i64 l] 24)).alloc (Obj.cells #[.int .i64 c, .int .i64 fr, .int .i64 tt] 54) = wQ at hX ⊢
    go_wp2_with (first | ((with_reducible refine at_load ?_); refine wpList_bag_part (k := 0) hX aggT sizT _ rfl rfl rfl rfl (by first | exact .head _ | exact .tail _ (.head _) | exact .tail _ (.tail _ (.head _))) (fun jz vz hz => (congrArg (fun n => ([_, _, _, _, _, _, _, _, _, _, _] : List Value)[n]?) (Nat.zero_add jz)).trans hz) rfl ?_) | ((with_reducible refine at_load ?_); refine wpList_bag_part (k := 0) hX aggSt sizSt _ rfl rfl rfl rfl (by first | exact .head _ | exact .tail _ (.head _) | exact .tail _ (.tail _ (.head _))) (fun jz vz hz => (congrArg (fun n => ([_, _] : List Value)[n]?) (Nat.zero_add jz)).trans hz) rfl ?_) | ((with_reducible refine at_load ?_); refine wpList_bag_cell hX slI_cell _ rfl rfl rfl rfl (by first | exact .head _ | exact .tail _ (.head _) | exact .tail _ (.tail _ (.head _))) rfl ?_) | ((with_reducible refine at_load ?_); refine wpList_bag_cell hX slS_cell _ rfl rfl rfl rfl (by first | exact .head _ | exact .tail _ (.head _) | exact .tail _ (.tail _ (.head _))) rfl ?_) | ((with_reducible refine at_load ?_); refine wpList_bag_cell hX int_cell _ rfl rfl rfl rfl (by first | exact .head _ | exact .tail _ (.head _) | exact .tail _ (.tail _ (.head _))) rfl ?_) | ((with_reducible refine at_load ?_); refine wpList_bag_cell hX bool_cell _ rfl rfl rfl rfl (by first | exact .head _ | exact .tail _ (.head _) | exact .tail _ (.tail _ (.head _))) rfl ?_) | (go_at_call 28; (with_reducible refine (hF _ hX.below).mono ?_); rintro e' wF ⟨rfl, hbb⟩; replace hX := hX.step hbb; clear hbb) | ((with_reducible refine at_store ?_); refine wpList_bag_overV (cs' := [.slice A3 M.length c3, .slice none 0 0]) (hX.new 44 [.slice none 0 0, .slice none 0 0]) aggSt sizSt _ _ rfl rfl rfl rfl rfl rfl rfl rfl (one_st (its_one hvm) rfl) ?_; clear hX; intro wS hX hkz; clear hkz))
    go_ret
    exact ⟨rfl, hX.below⟩
  by_cases hp : 64 ≤ p
  · go_enter Try.func7, Try.ntmps7
    go_upto_region 1 with fail
    generalize (W0.alloc (Obj.cells #[vs, .int .i64 p, .bool n, .bool true, .bool e, .bool m, .bool d, .int .i64 c0, .int .i64 k, .int .i64 a, .int .i64 l] 24)).alloc (Obj.cells #[.int .i64 c, .int .i64 fr, .int .i64 tt] 54) = wQ at hX ⊢
    go_wp2_with (first | ((with_reducible refine at_load ?_); refine wpList_bag_part (k := 0) hX aggT sizT _ rfl rfl rfl rfl (by first | exact .head _ | exact .tail _ (.head _) | exact .tail _ (.tail _ (.head _))) (fun jz vz hz => (congrArg (fun n => ([_, _, _, _, _, _, _, _, _, _, _] : List Value)[n]?) (Nat.zero_add jz)).trans hz) rfl ?_) | ((with_reducible refine at_load ?_); refine wpList_bag_part (k := 0) hX aggSt sizSt _ rfl rfl rfl rfl (by first | exact .head _ | exact .tail _ (.head _) | exact .tail _ (.tail _ (.head _))) (fun jz vz hz => (congrArg (fun n => ([_, _] : List Value)[n]?) (Nat.zero_add jz)).trans hz) rfl ?_) | ((with_reducible refine at_load ?_); refine wpList_bag_cell hX slI_cell _ rfl rfl rfl rfl (by first | exact .head _ | exact .tail _ (.head _) | exact .tail _ (.tail _ (.head _))) rfl ?_) | ((with_reducible refine at_load ?_); refine wpList_bag_cell hX slS_cell _ rfl rfl rfl rfl (by first | exact .head _ | exact .tail _ (.head _) | exact .tail _ (.tail _ (.head _))) rfl ?_) | ((with_reducible refine at_load ?_); refine wpList_bag_cell hX int_cell _ rfl rfl rfl rfl (by first | exact .head _ | exact .tail _ (.head _) | exact .tail _ (.tail _ (.head _))) rfl ?_) | ((with_reducible refine at_load ?_); refine wpList_bag_cell hX bool_cell _ rfl rfl rfl rfl (by first | exact .head _ | exact .tail _ (.head _) | exact .tail _ (.tail _ (.head _))) rfl ?_) | (go_at_call 28; (with_reducible refine (hF _ hX.below).mono ?_); rintro e' wF ⟨rfl, hbb⟩; replace hX := hX.step hbb; clear hbb) | ((with_reducible refine at_store ?_); refine wpList_bag_overV (cs' := [.slice A3 M.length c3, .slice none 0 0]) (hX.new 44 [.slice none 0 0, .slice none 0 0]) aggSt sizSt _ _ rfl rfl rfl rfl rfl rfl rfl rfl (one_st (its_one hvm) rfl) ?_; clear hX; intro wS hX hkz; clear hkz))
    go_ret
    exact ⟨rfl, hX.below⟩
  have d_hp : decide (64 ≤ p) = false := decide_eq_false hp
  by_cases hc1 : c < 1
  · go_enter Try.func7, Try.ntmps7
    go_upto_region 1 with fail
    generalize (W0.alloc (Obj.cells #[vs, .int .i64 p, .bool n, .bool true, .bool e, .bool m, .bool d, .int .i64 c0, .int .i64 k, .int .i64 a, .int .i64 l] 24)).alloc (Obj.cells #[.int .i64 c, .int .i64 fr, .int .i64 tt] 54) = wQ at hX ⊢
    go_wp2_with (first | ((with_reducible refine at_load ?_); refine wpList_bag_part (k := 0) hX aggT sizT _ rfl rfl rfl rfl (by first | exact .head _ | exact .tail _ (.head _) | exact .tail _ (.tail _ (.head _))) (fun jz vz hz => (congrArg (fun n => ([_, _, _, _, _, _, _, _, _, _, _] : List Value)[n]?) (Nat.zero_add jz)).trans hz) rfl ?_) | ((with_reducible refine at_load ?_); refine wpList_bag_part (k := 0) hX aggSt sizSt _ rfl rfl rfl rfl (by first | exact .head _ | exact .tail _ (.head _) | exact .tail _ (.tail _ (.head _))) (fun jz vz hz => (congrArg (fun n => ([_, _] : List Value)[n]?) (Nat.zero_add jz)).trans hz) rfl ?_) | ((with_reducible refine at_load ?_); refine wpList_bag_cell hX slI_cell _ rfl rfl rfl rfl (by first | exact .head _ | exact .tail _ (.head _) | exact .tail _ (.tail _ (.head _))) rfl ?_) | ((with_reducible refine at_load ?_); refine wpList_bag_cell hX slS_cell _ rfl rfl rfl rfl (by first | exact .head _ | exact .tail _ (.head _) | exact .tail _ (.tail _ (.head _))) rfl ?_) | ((with_reducible refine at_load ?_); refine wpList_bag_cell hX int_cell _ rfl rfl rfl rfl (by first | exact .head _ | exact .tail _ (.head _) | exact .tail _ (.tail _ (.head _))) rfl ?_) | ((with_reducible refine at_load ?_); refine wpList_bag_cell hX bool_cell _ rfl rfl rfl rfl (by first | exact .head _ | exact .tail _ (.head _) | exact .tail _ (.tail _ (.head _))) rfl ?_) | (go_at_call 28; (with_reducible refine (hF _ hX.below).mono ?_); rintro e' wF ⟨rfl, hbb⟩; replace hX := hX.step hbb; clear hbb) | ((with_reducible refine at_store ?_); refine wpList_bag_overV (cs' := [.slice A3 M.length c3, .slice none 0 0]) (hX.new 44 [.slice none 0 0, .slice none 0 0]) aggSt sizSt _ _ rfl rfl rfl rfl rfl rfl rfl rfl (one_st (its_one hvm) rfl) ?_; clear hX; intro wS hX hkz; clear hkz))
    go_ret
    exact ⟨rfl, hX.below⟩
  have d_hc1 : decide (c < 1) = false := decide_eq_false hc1
  by_cases hc2 : 512 < c
  · go_enter Try.func7, Try.ntmps7
    go_upto_region 1 with fail
    generalize (W0.alloc (Obj.cells #[vs, .int .i64 p, .bool n, .bool true, .bool e, .bool m, .bool d, .int .i64 c0, .int .i64 k, .int .i64 a, .int .i64 l] 24)).alloc (Obj.cells #[.int .i64 c, .int .i64 fr, .int .i64 tt] 54) = wQ at hX ⊢
    go_wp2_with (first | ((with_reducible refine at_load ?_); refine wpList_bag_part (k := 0) hX aggT sizT _ rfl rfl rfl rfl (by first | exact .head _ | exact .tail _ (.head _) | exact .tail _ (.tail _ (.head _))) (fun jz vz hz => (congrArg (fun n => ([_, _, _, _, _, _, _, _, _, _, _] : List Value)[n]?) (Nat.zero_add jz)).trans hz) rfl ?_) | ((with_reducible refine at_load ?_); refine wpList_bag_part (k := 0) hX aggSt sizSt _ rfl rfl rfl rfl (by first | exact .head _ | exact .tail _ (.head _) | exact .tail _ (.tail _ (.head _))) (fun jz vz hz => (congrArg (fun n => ([_, _] : List Value)[n]?) (Nat.zero_add jz)).trans hz) rfl ?_) | ((with_reducible refine at_load ?_); refine wpList_bag_cell hX slI_cell _ rfl rfl rfl rfl (by first | exact .head _ | exact .tail _ (.head _) | exact .tail _ (.tail _ (.head _))) rfl ?_) | ((with_reducible refine at_load ?_); refine wpList_bag_cell hX slS_cell _ rfl rfl rfl rfl (by first | exact .head _ | exact .tail _ (.head _) | exact .tail _ (.tail _ (.head _))) rfl ?_) | ((with_reducible refine at_load ?_); refine wpList_bag_cell hX int_cell _ rfl rfl rfl rfl (by first | exact .head _ | exact .tail _ (.head _) | exact .tail _ (.tail _ (.head _))) rfl ?_) | ((with_reducible refine at_load ?_); refine wpList_bag_cell hX bool_cell _ rfl rfl rfl rfl (by first | exact .head _ | exact .tail _ (.head _) | exact .tail _ (.tail _ (.head _))) rfl ?_) | (go_at_call 28; (with_reducible refine (hF _ hX.below).mono ?_); rintro e' wF ⟨rfl, hbb⟩; replace hX := hX.step hbb; clear hbb) | ((with_reducible refine at_store ?_); refine wpList_bag_overV (cs' := [.slice A3 M.length c3, .slice none 0 0]) (hX.new 44 [.slice none 0 0, .slice none 0 0]) aggSt sizSt _ _ rfl rfl rfl rfl rfl rfl rfl rfl (one_st (its_one hvm) rfl) ?_; clear hX; intro wS hX hkz; clear hkz))
    go_ret
    exact ⟨rfl, hX.below⟩
  have d_hc2 : decide (512 < c) = false := decide_eq_false hc2
  by_cases hf1 : fr < 0
  · go_enter Try.func7, Try.ntmps7
    go_upto_region 1 with fail
    generalize (W0.alloc (Obj.cells #[vs, .int .i64 p, .bool n, .bool true, .bool e, .bool m, .bool d, .int .i64 c0, .int .i64 k, .int .i64 a, .int .i64 l] 24)).alloc (Obj.cells #[.int .i64 c, .int .i64 fr, .int .i64 tt] 54) = wQ at hX ⊢
    go_wp2_with (first | ((with_reducible refine at_load ?_); refine wpList_bag_part (k := 0) hX aggT sizT _ rfl rfl rfl rfl (by first | exact .head _ | exact .tail _ (.head _) | exact .tail _ (.tail _ (.head _))) (fun jz vz hz => (congrArg (fun n => ([_, _, _, _, _, _, _, _, _, _, _] : List Value)[n]?) (Nat.zero_add jz)).trans hz) rfl ?_) | ((with_reducible refine at_load ?_); refine wpList_bag_part (k := 0) hX aggSt sizSt _ rfl rfl rfl rfl (by first | exact .head _ | exact .tail _ (.head _) | exact .tail _ (.tail _ (.head _))) (fun jz vz hz => (congrArg (fun n => ([_, _] : List Value)[n]?) (Nat.zero_add jz)).trans hz) rfl ?_) | ((with_reducible refine at_load ?_); refine wpList_bag_cell hX slI_cell _ rfl rfl rfl rfl (by first | exact .head _ | exact .tail _ (.head _) | exact .tail _ (.tail _ (.head _))) rfl ?_) | ((with_reducible refine at_load ?_); refine wpList_bag_cell hX slS_cell _ rfl rfl rfl rfl (by first | exact .head _ | exact .tail _ (.head _) | exact .tail _ (.tail _ (.head _))) rfl ?_) | ((with_reducible refine at_load ?_); refine wpList_bag_cell hX int_cell _ rfl rfl rfl rfl (by first | exact .head _ | exact .tail _ (.head _) | exact .tail _ (.tail _ (.head _))) rfl ?_) | ((with_reducible refine at_load ?_); refine wpList_bag_cell hX bool_cell _ rfl rfl rfl rfl (by first | exact .head _ | exact .tail _ (.head _) | exact .tail _ (.tail _ (.head _))) rfl ?_) | (go_at_call 28; (with_reducible refine (hF _ hX.below).mono ?_); rintro e' wF ⟨rfl, hbb⟩; replace hX := hX.step hbb; clear hbb) | ((with_reducible refine at_store ?_); refine wpList_bag_overV (cs' := [.slice A3 M.length c3, .slice none 0 0]) (hX.new 44 [.slice none 0 0, .slice none 0 0]) aggSt sizSt _ _ rfl rfl rfl rfl rfl rfl rfl rfl (one_st (its_one hvm) rfl) ?_; clear hX; intro wS hX hkz; clear hkz))
    go_ret
    exact ⟨rfl, hX.below⟩
  have d_hf1 : decide (fr < 0) = false := decide_eq_false hf1
  by_cases ht1 : tt < 0
  · go_enter Try.func7, Try.ntmps7
    go_upto_region 1 with fail
    generalize (W0.alloc (Obj.cells #[vs, .int .i64 p, .bool n, .bool true, .bool e, .bool m, .bool d, .int .i64 c0, .int .i64 k, .int .i64 a, .int .i64 l] 24)).alloc (Obj.cells #[.int .i64 c, .int .i64 fr, .int .i64 tt] 54) = wQ at hX ⊢
    go_wp2_with (first | ((with_reducible refine at_load ?_); refine wpList_bag_part (k := 0) hX aggT sizT _ rfl rfl rfl rfl (by first | exact .head _ | exact .tail _ (.head _) | exact .tail _ (.tail _ (.head _))) (fun jz vz hz => (congrArg (fun n => ([_, _, _, _, _, _, _, _, _, _, _] : List Value)[n]?) (Nat.zero_add jz)).trans hz) rfl ?_) | ((with_reducible refine at_load ?_); refine wpList_bag_part (k := 0) hX aggSt sizSt _ rfl rfl rfl rfl (by first | exact .head _ | exact .tail _ (.head _) | exact .tail _ (.tail _ (.head _))) (fun jz vz hz => (congrArg (fun n => ([_, _] : List Value)[n]?) (Nat.zero_add jz)).trans hz) rfl ?_) | ((with_reducible refine at_load ?_); refine wpList_bag_cell hX slI_cell _ rfl rfl rfl rfl (by first | exact .head _ | exact .tail _ (.head _) | exact .tail _ (.tail _ (.head _))) rfl ?_) | ((with_reducible refine at_load ?_); refine wpList_bag_cell hX slS_cell _ rfl rfl rfl rfl (by first | exact .head _ | exact .tail _ (.head _) | exact .tail _ (.tail _ (.head _))) rfl ?_) | ((with_reducible refine at_load ?_); refine wpList_bag_cell hX int_cell _ rfl rfl rfl rfl (by first | exact .head _ | exact .tail _ (.head _) | exact .tail _ (.tail _ (.head _))) rfl ?_) | ((with_reducible refine at_load ?_); refine wpList_bag_cell hX bool_cell _ rfl rfl rfl rfl (by first | exact .head _ | exact .tail _ (.head _) | exact .tail _ (.tail _ (.head _))) rfl ?_) | (go_at_call 28; (with_reducible refine (hF _ hX.below).mono ?_); rintro e' wF ⟨rfl, hbb⟩; replace hX := hX.step hbb; clear hbb) | ((with_reducible refine at_store ?_); refine wpList_bag_overV (cs' := [.slice A3 M.length c3, .slice none 0 0]) (hX.new 44 [.slice none 0 0, .slice none 0 0]) aggSt sizSt _ _ rfl rfl rfl rfl rfl rfl rfl rfl (one_st (its_one hvm) rfl) ?_; clear hX; intro wS hX hkz; clear hkz))
    go_ret
    exact ⟨rfl, hX.below⟩
  have d_ht1 : decide (tt < 0) = false := decide_eq_false ht1
  have x0 : IntKind.i64.wrap (2 * (M.length : Int)) = 2 * (M.length : Int) := by rw [wrap_i64]; unfold wrap64; omega
  have x1 : IntKind.i64.wrap (2 * (M.length : Int) - c) = 2 * (M.length : Int) - c := by rw [wrap_i64]; unfold wrap64; omega
  by_cases hf2 : 2 * (M.length : Int) - c < fr
  · go_enter Try.func7, Try.ntmps7
    go_upto_region 1 with fail
    generalize (W0.alloc (Obj.cells #[vs, .int .i64 p, .bool n, .bool true, .bool e, .bool m, .bool d, .int .i64 c0, .int .i64 k, .int .i64 a, .int .i64 l] 24)).alloc (Obj.cells #[.int .i64 c, .int .i64 fr, .int .i64 tt] 54) = wQ at hX ⊢
    go_wp2_with (first | ((with_reducible refine at_load ?_); refine wpList_bag_part (k := 0) hX aggT sizT _ rfl rfl rfl rfl (by first | exact .head _ | exact .tail _ (.head _) | exact .tail _ (.tail _ (.head _))) (fun jz vz hz => (congrArg (fun n => ([_, _, _, _, _, _, _, _, _, _, _] : List Value)[n]?) (Nat.zero_add jz)).trans hz) rfl ?_) | ((with_reducible refine at_load ?_); refine wpList_bag_part (k := 0) hX aggSt sizSt _ rfl rfl rfl rfl (by first | exact .head _ | exact .tail _ (.head _) | exact .tail _ (.tail _ (.head _))) (fun jz vz hz => (congrArg (fun n => ([_, _] : List Value)[n]?) (Nat.zero_add jz)).trans hz) rfl ?_) | ((with_reducible refine at_load ?_); refine wpList_bag_cell hX slI_cell _ rfl rfl rfl rfl (by first | exact .head _ | exact .tail _ (.head _) | exact .tail _ (.tail _ (.head _))) rfl ?_) | ((with_reducible refine at_load ?_); refine wpList_bag_cell hX slS_cell _ rfl rfl rfl rfl (by first | exact .head _ | exact .tail _ (.head _) | exact .tail _ (.tail _ (.head _))) rfl ?_) | ((with_reducible refine at_load ?_); refine wpList_bag_cell hX int_cell _ rfl rfl rfl rfl (by first | exact .head _ | exact .tail _ (.head _) | exact .tail _ (.tail _ (.head _))) rfl ?_) | ((with_reducible refine at_load ?_); refine wpList_bag_cell hX bool_cell _ rfl rfl rfl rfl (by first | exact .head _ | exact .tail _ (.head _) | exact .tail _ (.tail _ (.head _))) rfl ?_) | (go_at_call 28; (with_reducible refine (hF _ hX.below).mono ?_); rintro e' wF ⟨rfl, hbb⟩; replace hX := hX.step hbb; clear hbb) | ((with_reducible refine at_store ?_); refine wpList_bag_overV (cs' := [.slice A3 M.length c3, .slice none 0 0]) (hX.new 44 [.slice none 0 0, .slice none 0 0]) aggSt sizSt _ _ rfl rfl rfl rfl rfl rfl rfl rfl (one_st (its_one hvm) rfl) ?_; clear hX; intro wS hX hkz; clear hkz))
    go_ret
    exact ⟨rfl, hX.below⟩
  have d_hf2 : decide (2 * (M.length : Int) - c < fr) = false := decide_eq_false hf2
  by_cases ht2 : 2 * (M.length : Int) - c < tt
  · go_enter Try.func7, Try.ntmps7
    go_upto_region 1 with fail
    generalize (W0.alloc (Obj.cells #[vs, .int .i64 p, .bool n, .bool true, .bool e, .bool m, .bool d, .int .i64 c0, .int .i64 k, .int .i64 a, .int .i64 l] 24)).alloc (Obj.cells #[.int .i64 c, .int .i64 fr, .int .i64 tt] 54) = wQ at hX ⊢
    go_wp2_with (first | ((with_reducible refine at_load ?_); refine wpList_bag_part (k := 0) hX aggT sizT _ rfl rfl rfl rfl (by first | exact .head _ | exact .tail _ (.head _) | exact .tail _ (.tail _ (.head _))) (fun jz vz hz => (congrArg (fun n => ([_, _, _, _, _, _, _, _, _, _, _] : List Value)[n]?) (Nat.zero_add jz)).trans hz) rfl ?_) | ((with_reducible refine at_load ?_); refine wpList_bag_part (k := 0) hX aggSt sizSt _ rfl rfl rfl rfl (by first | exact .head _ | exact .tail _ (.head _) | exact .tail _ (.tail _ (.head _))) (fun jz vz hz => (congrArg (fun n => ([_, _] : List Value)[n]?) (Nat.zero_add jz)).trans hz) rfl ?_) | ((with_reducible refine at_load ?_); refine wpList_bag_cell hX slI_cell _ rfl rfl rfl rfl (by first | exact .head _ | exact .tail _ (.head _) | exact .tail _ (.tail _ (.head _))) rfl ?_) | ((with_reducible refine at_load ?_); refine wpList_bag_cell hX slS_cell _ rfl rfl rfl rfl (by first | exact .head _ | exact .tail _ (.head _) | exact .tail _ (.tail _ (.head _))) rfl ?_) | ((with_reducible refine at_load ?_); refine wpList_bag_cell hX int_cell _ rfl rfl rfl rfl (by first | exact .head _ | exact .tail _ (.head _) | exact .tail _ (.tail _ (.head _))) rfl ?_) | ((with_reducible refine at_load ?_); refine wpList_bag_cell hX bool_cell _ rfl rfl rfl rfl (by first | exact .head _ | exact .tail _ (.head _) | exact .tail _ (.tail _ (.head _))) rfl ?_) | (go_at_call 28; (with_reducible refine (hF _ hX.below).mono ?_); rintro e' wF ⟨rfl, hbb⟩; replace hX := hX.step hbb; clear hbb) | ((with_reducible refine at_store ?_); refine wpList_bag_overV (cs' := [.slice A3 M.length c3, .slice none 0 0]) (hX.new 44 [.slice none 0 0, .slice none 0 0]) aggSt sizSt _ _ rfl rfl rfl rfl rfl rfl rfl rfl (one_st (its_one hvm) rfl) ?_; clear hX; intro wS hX hkz; clear hkz))
    go_ret
    exact ⟨rfl, hX.below⟩
  have d_ht2 : decide (2 * (M.length : Int) - c < tt) = false := decide_eq_false ht2
  have hC := ret_c W0 H R M p n e m d c0 k a l c fr tt hR hM hml (by omega) (by omega) (by omega) (by omega)
  have x2 : IntKind.i64.wrap (p + 1) = p + 1 := by
    have := ((Tp.right_iff _).1 hR).1.2.1
    dsimp only at this
    rw [wrap_i64]; unfold wrap64; omega
  have hrr : ∀ s : ByteArray, (s.toList == s.toList) = true := fun s => by simp
  clear hR hM hml
  generalize (retA (Tp.mk R p n true e m d c0 k a l) M c fr).R = R2 at hC
  generalize memD M c fr tt = M2 at hC
  generalize recW M fr c = REC at hC
  have hlen := hC.len
  go_enter Try.func7, Try.ntmps7
  go_upto_region 1 with fail
  generalize (W0.alloc (Obj.cells #[vs, .int .i64 p, .bool n, .bool true, .bool e, .bool m, .bool d, .int .i64 c0, .int .i64 k, .int .i64 a, .int .i64 l] 24)).alloc (Obj.cells #[.int .i64 c, .int .i64 fr, .int .i64 tt] 54) = wQ at hX ⊢
  go_wp2_with (first | ((with_reducible refine at_load ?_); refine wpList_bag_part (k := 0) hX aggT sizT _ rfl rfl rfl rfl (by first | exact .head _ | exact .tail _ (.head _) | exact .tail _ (.tail _ (.head _))) (fun jz vz hz => (congrArg (fun n => ([_, _, _, _, _, _, _, _, _, _, _] : List Value)[n]?) (Nat.zero_add jz)).trans hz) rfl ?_) | ((with_reducible refine at_load ?_); refine wpList_bag_part (k := 0) hX aggSt sizSt _ rfl rfl rfl rfl (by first | exact .head _ | exact .tail _ (.head _) | exact .tail _ (.tail _ (.head _))) (fun jz vz hz => (congrArg (fun n => ([_, _] : List Value)[n]?) (Nat.zero_add jz)).trans hz) rfl ?_) | ((with_reducible refine at_load ?_); refine wpList_bag_cell hX slI_cell _ rfl rfl rfl rfl (by first | exact .head _ | exact .tail _ (.head _) | exact .tail _ (.tail _ (.head _))) rfl ?_) | ((with_reducible refine at_load ?_); refine wpList_bag_cell hX slS_cell _ rfl rfl rfl rfl (by first | exact .head _ | exact .tail _ (.head _) | exact .tail _ (.tail _ (.head _))) rfl ?_) | ((with_reducible refine at_load ?_); refine wpList_bag_cell hX int_cell _ rfl rfl rfl rfl (by first | exact .head _ | exact .tail _ (.head _) | exact .tail _ (.tail _ (.head _))) rfl ?_) | ((with_reducible refine at_load ?_); refine wpList_bag_cell hX bool_cell _ rfl rfl rfl rfl (by first | exact .head _ | exact .tail _ (.head _) | exact .tail _ (.tail _ (.head _))) rfl ?_) | (go_at_call 28; (with_reducible refine (hF _ hX.below).mono ?_); rintro e' wF ⟨rfl, hbb⟩; replace hX := hX.step hbb; clear hbb) | ((with_reducible refine at_store ?_); refine wpList_bag_overV (cs' := [.slice A3 M.length c3, .slice none 0 0]) (hX.new 44 [.slice none 0 0, .slice none 0 0]) aggSt sizSt _ _ rfl rfl rfl rfl rfl rfl rfl rfl (one_st (its_one hvm) rfl) ?_; clear hX; intro wS hX hkz; clear hkz) | (go_at_call 33; (with_reducible refine (hC.Y _ _ (Its.below17 hvm hX.below)).mono ?_); rintro e' wB ⟨rfl, hbb⟩; replace hX := hX.step hbb; clear hbb))
  clear hF hp hc1 hc2 hf1 ht1 hf2 ht2 d_hp d_hc1 d_hc2 d_hf1 d_ht1 d_hf2 d_ht2 x0 x1
  have hs1 : StsX (XL []) _ vs R := sts_argT hs hX.below (fun _ _ h => (List.not_mem_nil h).elim)
  have hm : ItsX (XL []) _ (.slice A3 M.length c3) M := its_argT hvm hX.below (fun _ _ h => (List.not_mem_nil h).elim)
  go_cut [10, 11] from 85 to 95 (fun u v wx => ∃ bT bS vsR ym yz, u = .pointer (some ⟨bT, 0, none⟩) ∧ v = .pointer (some ⟨bS, 0, none⟩) ∧ StsX (XL []) wx vsR R2 ∧ ItsX (XL []) wx ym M ∧ ItsX (XL []) wx yz [] ∧ Bag [(bT, 24, [vsR, .int .i64 (p + 1), .bool false, .bool true, .bool false, .bool false, .bool false, .int .i64 2, .int .i64 c, .int .i64 fr, .int .i64 0]), (bS, 44, [ym, yz]), (wQ.heap.size, 44, [.slice A3 M.length c3, .slice none 0 0]), (W0.heap.size + 1, 54, [.int .i64 c, .int .i64 fr, .int .i64 tt]), (W0.heap.size, 24, [vs, .int .i64 p, .bool n, .bool true, .bool e, .bool m, .bool d, .int .i64 c0, .int .i64 k, .int .i64 a, .int .i64 l])] W0 wx)
  case first =>
    have hdd := bag_drew hX
    replace hX := hX.drew
    replace hs1 := hs1.below hdd
    replace hm := hm.below hdd
    clear hdd
    refine region_hoistF (fun w' => Bag [(wQ.heap.size, 44, [.slice A3 M.length c3, .slice none 0 0]), (W0.heap.size + 1, 54, [.int .i64 c, .int .i64 fr, .int .i64 tt]), (W0.heap.size, 24, [vs, .int .i64 p, .bool n, .bool true, .bool e, .bool m, .bool d, .int .i64 c0, .int .i64 k, .int .i64 a, .int .i64 l])] W0 w') 14 13 [11, 12] [(0, false), (1, false), (2, false), (3, false), (4, false), (6, false), (5, true), (7, true), (8, false), (9, false), (10, false)] [(13, true)] (by kernel_rfl) (by kernel_rfl) (fun _ _ dd _ _ h => by cases dd <;> exact h) hX ?_
    (try simp only [Act.put, List.setIfInBounds_toArray, List.set_cons_zero, List.set_cons_succ])
    repeat any_goals (first
      | (refine wpFl_q' rfl rfl (fun KK hKK => ?_)
         apply Exists.intro
         refine ⟨fun wq hq => ?_, hKK _ ?_⟩
         · try dsimp only at hq
           first
             | exact run_load_op 24 _ _ rfl rfl ((hq.all _ _ _ (.head _)).loadAt rfl aggT sizT)
             | exact run_load_op 24 _ _ rfl rfl ((hq.all _ _ _ (.tail _ (.head _))).loadAt rfl aggT sizT)
             | exact run_load_op 24 _ _ rfl rfl ((hq.all _ _ _ (.tail _ (.tail _ (.head _)))).loadAt rfl aggT sizT)
             | exact run_load_op 44 _ _ rfl rfl ((hq.all _ _ _ (.head _)).loadAt rfl aggSt sizSt)
             | exact run_load_op 44 _ _ rfl rfl ((hq.all _ _ _ (.tail _ (.head _))).loadAt rfl aggSt sizSt)
             | exact run_load_op 44 _ _ rfl rfl ((hq.all _ _ _ (.tail _ (.tail _ (.head _)))).loadAt rfl aggSt sizSt)
             | exact run_load_op 3 _ _ rfl rfl ((hq.all _ _ _ (.head _)).loadCell rfl int_cell)
             | exact run_load_op 3 _ _ rfl rfl ((hq.all _ _ _ (.tail _ (.head _))).loadCell rfl int_cell)
             | exact run_load_op 3 _ _ rfl rfl ((hq.all _ _ _ (.tail _ (.tail _ (.head _)))).loadCell rfl int_cell)
             | (unfold execOp; go_simp; done)
             | (unfold execOp; go_simp; with_reducible rfl)
         clear hKK KK
         simp only [Act.put, List.setIfInBounds_toArray, List.set_cons_zero, List.set_cons_succ])
      | (refine wpFl_call rfl rfl (fun KK hKK => ?_) ?_
    )
      | (unfold Oper.semiAt
         go_simp
         simp only [semiUpon]
         refine ⟨trivial, ?_⟩
         first
           | (refine (hC.A _ _ _ hX.below (by first | exact xl_lt0 | exact xl_lt1 hX | exact xl_lt2 hX) hs1).mono ?_
              rintro e' wB ⟨vsA, rfl, hsA, hbb⟩
              refine ⟨_, rfl, hKK _ _ (by first | exact hX.step hbb | exact (hX.step hbb).restS | exact (hX.step hbb).restS.restS) ?_⟩
              clear hKK KK
              replace hX := hX.step hbb
              (try replace hs1 := hs1.below hbb)
              (try replace hm := hm.below hbb)
              (try replace hsR := hsR.below hbb)
              (try replace hmR := hmR.below hbb)
              (try replace hzR := hzR.below hbb)
              clear hbb
              simp only [Act.put, List.setIfInBounds_toArray, List.set_cons_zero, List.set_cons_succ])
           | (refine (hC.B _ _ _ _ _ hX.below (by first | exact xl_lt0 | exact xl_lt1 hX | exact xl_lt2 hX) hsA hm (Sv.nil _ _)).mono ?_
              rintro e' wC ⟨vsR, ym, yz, rfl, hsR, hmR, hzR, hbb⟩
              refine ⟨_, rfl, hKK _ _ (by first | exact hX.step hbb | exact (hX.step hbb).restS | exact (hX.step hbb).restS.restS) ?_⟩
              clear hKK KK
              replace hX := hX.step hbb
              (try replace hs1 := hs1.below hbb)
              (try replace hm := hm.below hbb)
              (try replace hsA := hsA.below hbb)
              clear hbb
              simp only [Act.put, List.setIfInBounds_toArray, List.set_cons_zero, List.set_cons_succ]))
      | (refine pool2 ?_ ?_
    )
      | (refine pool1 ?_
    )
      | (exact pool0
    )
      | (refine wpFl_pool ?_
    )
      | (first
           | refine wpFl_alloc 24 [.slice none 0 0, .int .i64 0, .bool false, .bool false, .bool false, .bool false, .bool false, .int .i64 0, .int .i64 0, .int .i64 0, .int .i64 0] rfl rfl rfl alloc_tp (fun bT wa eb ew => ?_)
           | refine wpFl_alloc 44 [.slice none 0 0, .slice none 0 0] rfl rfl rfl alloc_st (fun bS wa eb ew => ?_)
         have hba := below_new ew
         have hXa := bag_newT hX eb ew
         clear hX
         have hX := hXa
         clear hXa
         (try replace hs1 := hs1.weak hba (xl_newE eb))
         (try replace hm := hm.weak hba (xl_newE eb))
         (try replace hsA := hsA.weak hba (xl_newE eb))
         (try replace hsR := hsR.weak hba (xl_newE eb))
         (try replace hmR := hmR.weak hba (xl_newE eb))
         (try replace hzR := hzR.weak hba (xl_newE eb))
         clear hba eb ew
         refine ⟨by first | exact hX.restS.restS | exact hX.restS, ?_⟩
         first
           | change wpFl _ _ _ _ _ _ [11] _ _ _
           | change wpFl _ _ _ _ _ _ [12] _ _ _
           | change wpFl _ _ _ _ _ _ [] _ _ _
         simp only [Act.put, List.setIfInBounds_toArray, List.set_cons_zero, List.set_cons_succ])
      | (refine wpFl_end ?_
         first
             | (refine wpHp_over (cs' := [vsR, .int .i64 (p + 1), .bool false, .bool true, .bool false, .bool false, .bool false, .int .i64 2, .int .i64 c, .int .i64 fr, .int .i64 0]) rfl rfl hX aggT sizT _ _ rfl rfl rfl rfl rfl rfl (one_tp (sts_one hsR.now) _ _ _ _ _ _ _ _ _ _) (fun w7 hX7 hk7 => ⟨hX7.restS.restS, ?_⟩)
                (try replace hs1 := hs1.over hk7 xl_1)
                (try replace hm := hm.over hk7 xl_1)
                (try replace hsA := hsA.over hk7 xl_1)
                (try replace hsR := hsR.over hk7 xl_1)
                (try replace hmR := hmR.over hk7 xl_1)
                (try replace hzR := hzR.over hk7 xl_1)
                clear hX hk7
                have hX := hX7
                clear hX7
                simp only [Act.put, List.setIfInBounds_toArray, List.set_cons_zero, List.set_cons_succ]
                refine wpHp_nil ?_
                simp only [List.drop_succ_cons, List.drop_zero]
                go_wp2_with (first | ((with_reducible refine at_store ?_); refine wpList_bag_overV (cs' := [ym, yz]) hX.swap aggSt sizSt _ _ rfl rfl rfl rfl rfl rfl rfl rfl (one_st (its_one hmR.now) (its_one hzR.now)) ?_; clear hX; intro wz hX hkz; (try replace hs1 := hs1.over hkz xl_2); (try replace hm := hm.over hkz xl_2); (try replace hsA := hsA.over hkz xl_2); (try replace hsR := hsR.over hkz xl_2); (try replace hmR := hmR.over hkz xl_2); (try replace hzR := hzR.over hkz xl_2); clear hkz))
                go_meet
                exact ⟨_, _, _, _, _, rfl, rfl, hsR.less xl_nil, hmR.less xl_nil, hzR.less xl_nil, hX.swap⟩)
             | (refine wpHp_over (cs' := [vsR, .int .i64 (p + 1), .bool false, .bool true, .bool false, .bool false, .bool false, .int .i64 2, .int .i64 c, .int .i64 fr, .int .i64 0]) rfl rfl hX.swap aggT sizT _ _ rfl rfl rfl rfl rfl rfl (one_tp (sts_one hsR.now) _ _ _ _ _ _ _ _ _ _) (fun w7 hX7 hk7 => ⟨hX7.restS.restS, ?_⟩)
                (try replace hs1 := hs1.over hk7 xl_2)
                (try replace hm := hm.over hk7 xl_2)
                (try replace hsA := hsA.over hk7 xl_2)
                (try replace hsR := hsR.over hk7 xl_2)
                (try replace hmR := hmR.over hk7 xl_2)
                (try replace hzR := hzR.over hk7 xl_2)
                clear hX hk7
                have hX := hX7
                clear hX7
                simp only [Act.put, List.setIfInBounds_toArray, List.set_cons_zero, List.set_cons_succ]
                refine wpHp_nil ?_
                simp only [List.drop_succ_cons, List.drop_zero]
                go_wp2_with (first | ((with_reducible refine at_store ?_); refine wpList_bag_overV (cs' := [ym, yz]) hX.swap aggSt sizSt _ _ rfl rfl rfl rfl rfl rfl rfl rfl (one_st (its_one hmR.now) (its_one hzR.now)) ?_; clear hX; intro wz hX hkz; (try replace hs1 := hs1.over hkz xl_1); (try replace hm := hm.over hkz xl_1); (try replace hsA := hsA.over hkz xl_1); (try replace hsR := hsR.over hkz xl_1); (try replace hmR := hmR.over hkz xl_1); (try replace hzR := hzR.over hkz xl_1); clear hkz))
                go_meet
                exact ⟨_, _, _, _, _, rfl, rfl, hsR.less xl_nil, hmR.less xl_nil, hzR.less xl_nil, hX.swap⟩)))
  case rest =>
  obtain ⟨bA, bB, vs2, vm2, vz2, rfl, rfl, hs2, hm2, hz2, hX⟩ := hcut
  obtain ⟨A2, c2, rfl, _⟩ := hs2.now.form
  go_wp2_with (first | ((with_reducible refine at_load ?_); refine wpList_bag_part (k := 0) hX aggT sizT _ rfl rfl rfl rfl (by first | exact .head _ | exact .tail _ (.head _) | exact .tail _ (.tail _ (.head _)) | exact .tail _ (.tail _ (.tail _ (.head _))) | exact .tail _ (.tail _ (.tail _ (.tail _ (.head _)))) | exact .tail _ (.tail _ (.tail _ (.tail _ (.tail _ (.head _)))))) (fun jz vz hz => (congrArg (fun n => ([_, _, _, _, _, _, _, _, _, _, _] : List Value)[n]?) (Nat.zero_add jz)).trans hz) rfl ?_) | ((with_reducible refine at_load ?_); refine wpList_bag_part (k := 0) hX aggSt sizSt _ rfl rfl rfl rfl (by first | exact .head _ | exact .tail _ (.head _) | exact .tail _ (.tail _ (.head _)) | exact .tail _ (.tail _ (.tail _ (.head _))) | exact .tail _ (.tail _ (.tail _ (.tail _ (.head _)))) | exact .tail _ (.tail _ (.tail _ (.tail _ (.tail _ (.head _)))))) (fun jz vz hz => (congrArg (fun n => ([_, _] : List Value)[n]?) (Nat.zero_add jz)).trans hz) rfl ?_) | (go_at_call 34; (with_reducible refine (hC.C _ _ _ (XL []) _ hX.below xl_lt0 hs2 hm2 hz2).mono ?_); rintro e' wC4 ⟨vs4, vm4, vz4, rfl, hs4, hm4, hz4, hbb⟩; replace hX := hX.step hbb; clear hbb hs2 hm2 hz2) | ((with_reducible refine at_store ?_); refine wpList_bag_overV (cs' := [vs4, .int .i64 p, .bool false, .bool true, .bool false, .bool false, .bool false, .int .i64 4, .int .i64 c, .int .i64 fr, .int .i64 0]) (bag_new2 (w := wC4) hX 24 [.slice none 0 0, .int .i64 0, .bool false, .bool false, .bool false, .bool false, .bool false, .int .i64 0, .int .i64 0, .int .i64 0, .int .i64 0] 44 [.slice none 0 0, .slice none 0 0]) aggT sizT _ _ rfl rfl rfl rfl rfl rfl rfl rfl (one_tp (sts_one hs4.now) _ _ _ _ _ _ _ _ _ _) ?_; clear hX; intro wy hX hkz; replace hs4 := ((hs4.weak (al2 _ _ _) xl_two : StsX (XL [wC4.heap.size, wC4.heap.size + 1]) _ _ _)).over hkz xl_1; replace hm4 := ((hm4.weak (al2 _ _ _) xl_two : ItsX (XL [wC4.heap.size, wC4.heap.size + 1]) _ _ _)).over hkz xl_1; replace hz4 := ((hz4.weak (al2 _ _ _) xl_two : ItsX (XL [wC4.heap.size, wC4.heap.size + 1]) _ _ _)).over hkz xl_1; clear hkz) | ((with_reducible refine at_store ?_); refine wpList_bag_overV (cs' := [vm4, vz4]) hX.swap aggSt sizSt _ _ rfl rfl rfl rfl rfl rfl rfl rfl (one_st (its_one hm4.now) (its_one hz4.now)) ?_; clear hX; intro wz hX hkz; replace hs4 : StsX (XL []) _ _ _ := (hs4.over hkz xl_3).less xl_nil; replace hm4 : ItsX (XL []) _ _ _ := (hm4.over hkz xl_3).less xl_nil; replace hz4 : ItsX (XL []) _ _ _ := (hz4.over hkz xl_3).less xl_nil; replace hX := hX.swap; clear hkz))
  replace hX := hX.sub (l' := [(wC4.heap.size, 24, [vs4, .int .i64 p, .bool false, .bool true, .bool false, .bool false, .bool false, .int .i64 4, .int .i64 c, .int .i64 fr, .int .i64 0]), (wC4.heap.size + 1, 44, [vm4, vz4]), (bA, 24, [(.slice A2 R2.length c2), .int .i64 (p + 1), .bool false, .bool true, .bool false, .bool false, .bool false, .int .i64 2, .int .i64 c, .int .i64 fr, .int .i64 0]), (wQ.heap.size, 44, [.slice A3 M.length c3, .slice none 0 0]), (W0.heap.size + 1, 54, [.int .i64 c, .int .i64 fr, .int .i64 tt]), (W0.heap.size, 24, [vs, .int .i64 p, .bool n, .bool true, .bool e, .bool m, .bool d, .int .i64 c0, .int .i64 k, .int .i64 a, .int .i64 l])]) (.cons_cons _ (.cons_cons _ (.cons_cons _ (.cons _ (.refl _)))))
  go_cut [14, 15] from 102 to 112 (fun u v wx => ∃ bT bS vsR ym yz, u = .pointer (some ⟨bT, 0, none⟩) ∧ v = .pointer (some ⟨bS, 0, none⟩) ∧ StsX (XL []) wx vsR R2 ∧ ItsX (XL []) wx ym M2 ∧ ItsX (XL []) wx yz [] ∧ Bag [(bT, 24, [vsR, .int .i64 (p + 1), .bool false, .bool true, .bool false, .bool false, .bool false, .int .i64 1, .int .i64 0, .int .i64 tt, .int .i64 0]), (bS, 44, [ym, yz]), (wC4.heap.size, 24, [vs4, .int .i64 p, .bool false, .bool true, .bool false, .bool false, .bool false, .int .i64 4, .int .i64 c, .int .i64 fr, .int .i64 0]), (wC4.heap.size + 1, 44, [vm4, vz4]), (bA, 24, [(.slice A2 R2.length c2), .int .i64 (p + 1), .bool false, .bool true, .bool false, .bool false, .bool false, .int .i64 2, .int .i64 c, .int .i64 fr, .int .i64 0]), (wQ.heap.size, 44, [.slice A3 M.length c3, .slice none 0 0]), (W0.heap.size + 1, 54, [.int .i64 c, .int .i64 fr, .int .i64 tt]), (W0.heap.size, 24, [vs, .int .i64 p, .bool n, .bool true, .bool e, .bool m, .bool d, .int .i64 c0, .int .i64 k, .int .i64 a, .int .i64 l])] W0 wx)
  case first =>
    have hdd := bag_drew hX
    replace hX := hX.drew
    replace hs4 := hs4.below hdd
    replace hm4 := hm4.below hdd
    replace hz4 := hz4.below hdd
    clear hdd
    refine region_hoistF (fun w' => Bag [(wC4.heap.size, 24, [vs4, .int .i64 p, .bool false, .bool true, .bool false, .bool false, .bool false, .int .i64 4, .int .i64 c, .int .i64 fr, .int .i64 0]), (wC4.heap.size + 1, 44, [vm4, vz4]), (bA, 24, [(.slice A2 R2.length c2), .int .i64 (p + 1), .bool false, .bool true, .bool false, .bool false, .bool false, .int .i64 2, .int .i64 c, .int .i64 fr, .int .i64 0]), (wQ.heap.size, 44, [.slice A3 M.length c3, .slice none 0 0]), (W0.heap.size + 1, 54, [.int .i64 c, .int .i64 fr, .int .i64 tt]), (W0.heap.size, 24, [vs, .int .i64 p, .bool n, .bool true, .bool e, .bool m, .bool d, .int .i64 c0, .int .i64 k, .int .i64 a, .int .i64 l])] W0 w') 14 13 [11, 12] [(0, false), (1, false), (2, false), (3, false), (4, false), (6, false), (5, true), (7, true), (8, false), (9, false), (10, false)] [(13, true)] (by kernel_rfl) (by kernel_rfl) (fun _ _ dd _ _ h => by cases dd <;> exact h) hX ?_
    (try simp only [Act.put, List.setIfInBounds_toArray, List.set_cons_zero, List.set_cons_succ])
    repeat any_goals (first
      | (refine wpFl_q' rfl rfl (fun KK hKK => ?_)
         apply Exists.intro
         refine ⟨fun wq hq => ?_, hKK _ ?_⟩
         · try dsimp only at hq
           first
             | exact run_load_op 24 _ _ rfl rfl ((hq.all _ _ _ (.head _)).loadAt rfl aggT sizT)
             | exact run_load_op 24 _ _ rfl rfl ((hq.all _ _ _ (.tail _ (.head _))).loadAt rfl aggT sizT)
             | exact run_load_op 24 _ _ rfl rfl ((hq.all _ _ _ (.tail _ (.tail _ (.head _)))).loadAt rfl aggT sizT)
             | exact run_load_op 24 _ _ rfl rfl ((hq.all _ _ _ (.tail _ (.tail _ (.tail _ (.head _))))).loadAt rfl aggT sizT)
             | exact run_load_op 24 _ _ rfl rfl ((hq.all _ _ _ (.tail _ (.tail _ (.tail _ (.tail _ (.head _)))))).loadAt rfl aggT sizT)
             | exact run_load_op 24 _ _ rfl rfl ((hq.all _ _ _ (.tail _ (.tail _ (.tail _ (.tail _ (.tail _ (.head _))))))).loadAt rfl aggT sizT)
             | exact run_load_op 44 _ _ rfl rfl ((hq.all _ _ _ (.head _)).loadAt rfl aggSt sizSt)
             | exact run_load_op 44 _ _ rfl rfl ((hq.all _ _ _ (.tail _ (.head _))).loadAt rfl aggSt sizSt)
             | exact run_load_op 44 _ _ rfl rfl ((hq.all _ _ _ (.tail _ (.tail _ (.head _)))).loadAt rfl aggSt sizSt)
             | exact run_load_op 44 _ _ rfl rfl ((hq.all _ _ _ (.tail _ (.tail _ (.tail _ (.head _))))).loadAt rfl aggSt sizSt)
             | exact run_load_op 44 _ _ rfl rfl ((hq.all _ _ _ (.tail _ (.tail _ (.tail _ (.tail _ (.head _)))))).loadAt rfl aggSt sizSt)
             | exact run_load_op 44 _ _ rfl rfl ((hq.all _ _ _ (.tail _ (.tail _ (.tail _ (.tail _ (.tail _ (.head _))))))).loadAt rfl aggSt sizSt)
             | exact run_load_op 3 _ _ rfl rfl ((hq.all _ _ _ (.head _)).loadCell rfl int_cell)
             | exact run_load_op 3 _ _ rfl rfl ((hq.all _ _ _ (.tail _ (.head _))).loadCell rfl int_cell)
             | exact run_load_op 3 _ _ rfl rfl ((hq.all _ _ _ (.tail _ (.tail _ (.head _)))).loadCell rfl int_cell)
             | exact run_load_op 3 _ _ rfl rfl ((hq.all _ _ _ (.tail _ (.tail _ (.tail _ (.head _))))).loadCell rfl int_cell)
             | exact run_load_op 3 _ _ rfl rfl ((hq.all _ _ _ (.tail _ (.tail _ (.tail _ (.tail _ (.head _)))))).loadCell rfl int_cell)
             | exact run_load_op 3 _ _ rfl rfl ((hq.all _ _ _ (.tail _ (.tail _ (.tail _ (.tail _ (.tail _ (.head _))))))).loadCell rfl int_cell)
             | (unfold execOp; go_simp; done)
             | (unfold execOp; go_simp; with_reducible rfl)
         clear hKK KK
         simp only [Act.put, List.setIfInBounds_toArray, List.set_cons_zero, List.set_cons_succ])
      | (refine wpFl_call rfl rfl (fun KK hKK => ?_) ?_
    )
      | (unfold Oper.semiAt
         go_simp
         simp only [semiUpon]
         refine ⟨trivial, ?_⟩
         first
           | (refine (hC.D _ _ _ hX.below (by first | exact xl_lt0 | exact xl_lt1 hX | exact xl_lt2 hX) hs4).mono ?_
              rintro e' wB ⟨vsA, rfl, hsA, hbb⟩
              refine ⟨_, rfl, hKK _ _ (by first | exact hX.step hbb | exact (hX.step hbb).restS | exact (hX.step hbb).restS.restS) ?_⟩
              clear hKK KK
              replace hX := hX.step hbb
              (try replace hs4 := hs4.below hbb)
              (try replace hm4 := hm4.below hbb)
              (try replace hz4 := hz4.below hbb)
              (try replace hsR := hsR.below hbb)
              (try replace hmR := hmR.below hbb)
              (try replace hzR := hzR.below hbb)
              clear hbb
              simp only [Act.put, List.setIfInBounds_toArray, List.set_cons_zero, List.set_cons_succ])
           | (refine (hC.E _ _ _ _ _ hX.below (by first | exact xl_lt0 | exact xl_lt1 hX | exact xl_lt2 hX) hsA hm4 hz4).mono ?_
              rintro e' wC ⟨vsR, ym, yz, rfl, hsR, hmR, hzR, hbb⟩
              refine ⟨_, rfl, hKK _ _ (by first | exact hX.step hbb | exact (hX.step hbb).restS | exact (hX.step hbb).restS.restS) ?_⟩
              clear hKK KK
              replace hX := hX.step hbb
              (try replace hs4 := hs4.below hbb)
              (try replace hm4 := hm4.below hbb)
              (try replace hz4 := hz4.below hbb)
              (try replace hsA := hsA.below hbb)
              clear hbb
              simp only [Act.put, List.setIfInBounds_toArray, List.set_cons_zero, List.set_cons_succ]))
      | (refine pool2 ?_ ?_
    )
      | (refine pool1 ?_
    )
      | (exact pool0
    )
      | (refine wpFl_pool ?_
    )
      | (first
           | refine wpFl_alloc 24 [.slice none 0 0, .int .i64 0, .bool false, .bool false, .bool false, .bool false, .bool false, .int .i64 0, .int .i64 0, .int .i64 0, .int .i64 0] rfl rfl rfl alloc_tp (fun bT wa eb ew => ?_)
           | refine wpFl_alloc 44 [.slice none 0 0, .slice none 0 0] rfl rfl rfl alloc_st (fun bS wa eb ew => ?_)
         have hba := below_new ew
         have hXa := bag_newT hX eb ew
         clear hX
         have hX := hXa
         clear hXa
         (try replace hs4 := hs4.weak hba (xl_newE eb))
         (try replace hm4 := hm4.weak hba (xl_newE eb))
         (try replace hz4 := hz4.weak hba (xl_newE eb))
         (try replace hsA := hsA.weak hba (xl_newE eb))
         (try replace hsR := hsR.weak hba (xl_newE eb))
         (try replace hmR := hmR.weak hba (xl_newE eb))
         (try replace hzR := hzR.weak hba (xl_newE eb))
         clear hba eb ew
         refine ⟨by first | exact hX.restS.restS | exact hX.restS, ?_⟩
         first
           | change wpFl _ _ _ _ _ _ [11] _ _ _
           | change wpFl _ _ _ _ _ _ [12] _ _ _
           | change wpFl _ _ _ _ _ _ [] _ _ _
         simp only [Act.put, List.setIfInBounds_toArray, List.set_cons_zero, List.set_cons_succ])
      | (refine wpFl_end ?_
         first
             | (refine wpHp_over (cs' := [vsR, .int .i64 (p + 1), .bool false, .bool true, .bool false, .bool false, .bool false, .int .i64 1, .int .i64 0, .int .i64 tt, .int .i64 0]) rfl rfl hX aggT sizT _ _ rfl rfl rfl rfl rfl rfl (one_tp (sts_one hsR.now) _ _ _ _ _ _ _ _ _ _) (fun w7 hX7 hk7 => ⟨hX7.restS.restS, ?_⟩)
                (try replace hs4 := hs4.over hk7 xl_1)
                (try replace hm4 := hm4.over hk7 xl_1)
                (try replace hz4 := hz4.over hk7 xl_1)
                (try replace hsA := hsA.over hk7 xl_1)
                (try replace hsR := hsR.over hk7 xl_1)
                (try replace hmR := hmR.over hk7 xl_1)
                (try replace hzR := hzR.over hk7 xl_1)
                clear hX hk7
                have hX := hX7
                clear hX7
                simp only [Act.put, List.setIfInBounds_toArray, List.set_cons_zero, List.set_cons_succ]
                refine wpHp_nil ?_
                simp only [List.drop_succ_cons, List.drop_zero]
                go_wp2_with (first | ((with_reducible refine at_store ?_); refine wpList_bag_overV (cs' := [ym, yz]) hX.swap aggSt sizSt _ _ rfl rfl rfl rfl rfl rfl rfl rfl (one_st (its_one hmR.now) (its_one hzR.now)) ?_; clear hX; intro wz hX hkz; (try replace hs4 := hs4.over hkz xl_2); (try replace hm4 := hm4.over hkz xl_2); (try replace hz4 := hz4.over hkz xl_2); (try replace hsA := hsA.over hkz xl_2); (try replace hsR := hsR.over hkz xl_2); (try replace hmR := hmR.over hkz xl_2); (try replace hzR := hzR.over hkz xl_2); clear hkz))
                go_meet
                exact ⟨_, _, _, _, _, rfl, rfl, hsR.less xl_nil, hmR.less xl_nil, hzR.less xl_nil, hX.swap⟩)
             | (refine wpHp_over (cs' := [vsR, .int .i64 (p + 1), .bool false, .bool true, .bool false, .bool false, .bool false, .int .i64 1, .int .i64 0, .int .i64 tt, .int .i64 0]) rfl rfl hX.swap aggT sizT _ _ rfl rfl rfl rfl rfl rfl (one_tp (sts_one hsR.now) _ _ _ _ _ _ _ _ _ _) (fun w7 hX7 hk7 => ⟨hX7.restS.restS, ?_⟩)
                (try replace hs4 := hs4.over hk7 xl_2)
                (try replace hm4 := hm4.over hk7 xl_2)
                (try replace hz4 := hz4.over hk7 xl_2)
                (try replace hsA := hsA.over hk7 xl_2)
                (try replace hsR := hsR.over hk7 xl_2)
                (try replace hmR := hmR.over hk7 xl_2)
                (try replace hzR := hzR.over hk7 xl_2)
                clear hX hk7
                have hX := hX7
                clear hX7
                simp only [Act.put, List.setIfInBounds_toArray, List.set_cons_zero, List.set_cons_succ]
                refine wpHp_nil ?_
                simp only [List.drop_succ_cons, List.drop_zero]
                go_wp2_with (first | ((with_reducible refine at_store ?_); refine wpList_bag_overV (cs' := [ym, yz]) hX.swap aggSt sizSt _ _ rfl rfl rfl rfl rfl rfl rfl rfl (one_st (its_one hmR.now) (its_one hzR.now)) ?_; clear hX; intro wz hX hkz; (try replace hs4 := hs4.over hkz xl_1); (try replace hm4 := hm4.over hkz xl_1); (try replace hz4 := hz4.over hkz xl_1); (try replace hsA := hsA.over hkz xl_1); (try replace hsR := hsR.over hkz xl_1); (try replace hmR := hmR.over hkz xl_1); (try replace hzR := hzR.over hkz xl_1); clear hkz))
                go_meet
                exact ⟨_, _, _, _, _, rfl, rfl, hsR.less xl_nil, hmR.less xl_nil, hzR.less xl_nil, hX.swap⟩)))
  case rest =>
  obtain ⟨bD, bE, vs6, vm6, vz6, rfl, rfl, hs6, hm6, hz6, hX⟩ := hcut
  obtain ⟨A6, c6, rfl, _⟩ := hm6.now.form
  have hr := hrr REC
  clear hrr
  go_upto_region 9 with (first | ((with_reducible refine at_load ?_); refine wpList_bag_cell hX int_cell _ rfl rfl rfl rfl (by first | exact .head _ | exact .tail _ (.head _) | exact .tail _ (.tail _ (.head _)) | exact .tail _ (.tail _ (.tail _ (.head _))) | exact .tail _ (.tail _ (.tail _ (.tail _ (.head _)))) | exact .tail _ (.tail _ (.tail _ (.tail _ (.tail _ (.head _))))) | exact .tail _ (.tail _ (.tail _ (.tail _ (.tail _ (.tail _ (.head _)))))) | exact .tail _ (.tail _ (.tail _ (.tail _ (.tail _ (.tail _ (.tail _ (.head _)))))))) rfl ?_) | ((with_reducible refine at_load ?_); refine wpList_bag_cell hX bool_cell _ rfl rfl rfl rfl (by first | exact .head _ | exact .tail _ (.head _) | exact .tail _ (.tail _ (.head _)) | exact .tail _ (.tail _ (.tail _ (.head _))) | exact .tail _ (.tail _ (.tail _ (.tail _ (.head _)))) | exact .tail _ (.tail _ (.tail _ (.tail _ (.tail _ (.head _))))) | exact .tail _ (.tail _ (.tail _ (.tail _ (.tail _ (.tail _ (.head _)))))) | exact .tail _ (.tail _ (.tail _ (.tail _ (.tail _ (.tail _ (.tail _ (.head _)))))))) rfl ?_) | ((with_reducible refine at_load ?_); refine wpList_bag_cell hX slI_cell _ rfl rfl rfl rfl (by first | exact .head _ | exact .tail _ (.head _) | exact .tail _ (.tail _ (.head _)) | exact .tail _ (.tail _ (.tail _ (.head _))) | exact .tail _ (.tail _ (.tail _ (.tail _ (.head _)))) | exact .tail _ (.tail _ (.tail _ (.tail _ (.tail _ (.head _))))) | exact .tail _ (.tail _ (.tail _ (.tail _ (.tail _ (.tail _ (.head _)))))) | exact .tail _ (.tail _ (.tail _ (.tail _ (.tail _ (.tail _ (.tail _ (.head _)))))))) rfl ?_) | ((with_reducible refine at_load ?_); refine wpList_bag_cell hX slS_cell _ rfl rfl rfl rfl (by first | exact .head _ | exact .tail _ (.head _) | exact .tail _ (.tail _ (.head _)) | exact .tail _ (.tail _ (.tail _ (.head _))) | exact .tail _ (.tail _ (.tail _ (.tail _ (.head _)))) | exact .tail _ (.tail _ (.tail _ (.tail _ (.tail _ (.head _))))) | exact .tail _ (.tail _ (.tail _ (.tail _ (.tail _ (.tail _ (.head _)))))) | exact .tail _ (.tail _ (.tail _ (.tail _ (.tail _ (.tail _ (.tail _ (.head _)))))))) rfl ?_) | (go_at_call 33; (with_reducible refine (hC.Z _ _ hm6.now).mono ?_); rintro e' wB ⟨rfl, hbb⟩; replace hX := hX.step hbb; clear hbb))
  clear hm6 hs6 hz6
  (try dsimp only [List.append])
  go_wp2_with (first | ((with_reducible refine at_load ?_); refine wpList_bag_cell hX int_cell _ rfl rfl rfl rfl (by first | exact .head _ | exact .tail _ (.head _) | exact .tail _ (.tail _ (.head _)) | exact .tail _ (.tail _ (.tail _ (.head _))) | exact .tail _ (.tail _ (.tail _ (.tail _ (.head _)))) | exact .tail _ (.tail _ (.tail _ (.tail _ (.tail _ (.head _))))) | exact .tail _ (.tail _ (.tail _ (.tail _ (.tail _ (.tail _ (.head _)))))) | exact .tail _ (.tail _ (.tail _ (.tail _ (.tail _ (.tail _ (.tail _ (.head _)))))))) rfl ?_) | ((with_reducible refine at_load ?_); refine wpList_bag_cell hX bool_cell _ rfl rfl rfl rfl (by first | exact .head _ | exact .tail _ (.head _) | exact .tail _ (.tail _ (.head _)) | exact .tail _ (.tail _ (.tail _ (.head _))) | exact .tail _ (.tail _ (.tail _ (.tail _ (.head _)))) | exact .tail _ (.tail _ (.tail _ (.tail _ (.tail _ (.head _))))) | exact .tail _ (.tail _ (.tail _ (.tail _ (.tail _ (.tail _ (.head _)))))) | exact .tail _ (.tail _ (.tail _ (.tail _ (.tail _ (.tail _ (.tail _ (.head _)))))))) rfl ?_) | ((with_reducible refine at_load ?_); refine wpList_bag_cell hX slI_cell _ rfl rfl rfl rfl (by first | exact .head _ | exact .tail _ (.head _) | exact .tail _ (.tail _ (.head _)) | exact .tail _ (.tail _ (.tail _ (.head _))) | exact .tail _ (.tail _ (.tail _ (.tail _ (.head _)))) | exact .tail _ (.tail _ (.tail _ (.tail _ (.tail _ (.head _))))) | exact .tail _ (.tail _ (.tail _ (.tail _ (.tail _ (.tail _ (.head _)))))) | exact .tail _ (.tail _ (.tail _ (.tail _ (.tail _ (.tail _ (.tail _ (.head _)))))))) rfl ?_) | ((with_reducible refine at_load ?_); refine wpList_bag_cell hX slS_cell _ rfl rfl rfl rfl (by first | exact .head _ | exact .tail _ (.head _) | exact .tail _ (.tail _ (.head _)) | exact .tail _ (.tail _ (.tail _ (.head _))) | exact .tail _ (.tail _ (.tail _ (.tail _ (.head _)))) | exact .tail _ (.tail _ (.tail _ (.tail _ (.tail _ (.head _))))) | exact .tail _ (.tail _ (.tail _ (.tail _ (.tail _ (.tail _ (.head _)))))) | exact .tail _ (.tail _ (.tail _ (.tail _ (.tail _ (.tail _ (.tail _ (.head _)))))))) rfl ?_) | (go_at_call 14; (with_reducible refine (HA _ hX.below).mono ?_); rintro e' wL ⟨rfl, hbb⟩; replace hX := hX.step hbb; clear hbb))
  go_ret
  exact ⟨by simp, hX.below⟩
end Go.Proofs.Ytigmlkfmgheegaa
