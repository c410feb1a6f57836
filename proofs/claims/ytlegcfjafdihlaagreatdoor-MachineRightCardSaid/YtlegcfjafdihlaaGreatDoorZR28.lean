import Derived.Test.YtlegcfjafdihlaaGreatDoorZR27
import Derived.Test.YtlegcfjafdihlaaGreatDoorZR05
/-
  Is a machine valid: the program's Right and the reference's. Condition: at most 2^40 elements in each list.
-/
namespace Go.Proofs.YtlegcfjafdihlaaGreatDoor
open Go.RowKit
set_option linter.unusedSimpArgs false
set_option linter.unusedVariables false
set_option maxHeartbeats 4000000
set_option maxRecDepth 100000
attribute [local irreducible] wpQuiet

def rgV (c : List Int) (n p : Int) (h a t : Bool) : List Value := c.map (Value.int .i64) ++ [.int .i64 n, .int .i64 p, .bool h, .bool a, .bool t]
theorem fields_dec20 {P : Program} {dd : Nat} {xs ys : Array Value} (b : Field → Bool) : ∀ fs : List Field, (∀ f ∈ fs, ∃ u v, (∀ w, (part f.type xs f.offset).run P w = .ok u w) ∧ (∀ w, (part f.type ys f.offset).run P w = .ok v w) ∧ ∀ w, (Op.equalIn dd f.type u v).run P w = .ok (b f) w) → ∀ w, (Op.eqFields dd xs ys fs).run P w = .ok (fs.all fun f => f.name == "_" || b f) w
  | [], _, w => by simp [Op.eqFields]
  | f :: fs, h, w => by
    obtain ⟨u, v, h1, h2, h3⟩ := h f List.mem_cons_self
    have ih := fields_dec20 b fs (fun j hj => h j (List.mem_cons_of_mem _ hj)) w
    by_cases hn : f.name ≠ "_"
    · have hn' : (f.name == "_") = false := by simpa using hn
      cases hb : b f
      · simp only [Op.eqFields, if_pos hn, Sem.run_bind, h1, h2, h3 w, hb, Result.andThen_ok, Bool.not_false, if_true, List.all_cons, hn', Bool.or_false, Bool.false_and, Sem.run_pure]
      · simp only [Op.eqFields, if_pos hn, Sem.run_bind, h1, h2, h3 w, hb, Result.andThen_ok, Bool.not_true, Bool.false_eq_true, if_false, List.all_cons, hn', Bool.or_true, Bool.true_and]
        exact ih
    · have hn' : (f.name == "_") = true := by simpa using hn
      simp only [Op.eqFields, if_neg hn, List.all_cons, hn', Bool.true_or, Bool.true_and]
      exact ih
theorem reg_fields20 : (Tryz.prog.fieldsOf 91).toList.map (fun f => (f.type, f.offset)) = [(25, 0), (3, 10), (3, 11), (4, 12), (4, 13), (4, 14)] := by kernel_rfl
theorem aggC20 (w : World) : (isAgg 25).run Tryz.prog w = .ok true w := by kernel_rfl
theorem sizC20 (w : World) : (sizeOf 25).run Tryz.prog w = .ok 10 w := by kernel_rfl
theorem reg_eq20 (c : List Int) (hc : c.length = 10) (n p p' : Int) (h a a' t t' : Bool) (w : World) :
    (binOp .eql 91 (.agg (rgV c n p h a t).toArray) (.agg (rgV c n p' h a' t').toArray)).run Tryz.prog w = .ok (.bool ((p == p') && (a == a') && (t == t'))) w := by
  have key : (Op.equalIn 10000 91 (.agg (rgV c n p h a t).toArray) (.agg (rgV c n p' h a' t').toArray)).run Tryz.prog w = .ok ((p == p') && (a == a') && (t == t')) w := by
    rw [run_equalIn_struct (P := Tryz.prog) w 9999 91 _ _ (by kernel_rfl) (by kernel_rfl)]
    have hl : (c.map (Value.int .i64)).length = 10 := by simpa using hc
    have hx : ∀ (j : Nat) (v : Value) (r : List Value), r[j]? = some v → (c.map (Value.int .i64) ++ r).toArray[10 + j]? = some v := fun j v r hv => by
      rw [List.getElem?_toArray, List.getElem?_append_right (by omega), hl, Nat.add_sub_cancel_left]; exact hv
    have hb := fields_dec20 (P := Tryz.prog) (dd := 9999) (xs := (rgV c n p h a t).toArray) (ys := (rgV c n p' h a' t').toArray)
      (fun f => match f.offset with | 11 => p == p' | 13 => a == a' | 14 => t == t' | _ => true) (Tryz.prog.fieldsOf 91).toList (fun f hf => ?_) w
    · rw [hb]
      have e : ((Tryz.prog.fieldsOf 91).toList.all fun f => f.name == "_" || (match f.offset with | 11 => p == p' | 13 => a == a' | 14 => t == t' | _ => true)) = (true && (true && ((p == p') && (true && ((a == a') && ((t == t') && true)))))) := by kernel_rfl
      rw [e]
      cases (p == p') <;> cases (a == a') <;> cases (t == t') <;> rfl
    · have hm : (f.type, f.offset) ∈ (Tryz.prog.fieldsOf 91).toList.map (fun f => (f.type, f.offset)) := List.mem_map_of_mem hf
      rw [reg_fields20] at hm
      simp only [List.mem_cons, List.not_mem_nil, or_false, Prod.mk.injEq] at hm
      rcases hm with ⟨h1, h2⟩ | ⟨h1, h2⟩ | ⟨h1, h2⟩ | ⟨h1, h2⟩ | ⟨h1, h2⟩ | ⟨h1, h2⟩
      all_goals rw [h1, h2]
      · have ex : ∀ r : List Value, (c.map (Value.int .i64) ++ r).toArray.extract 0 (0 + 10) = (c.map (Value.int .i64)).toArray := fun r => by
          rw [List.extract_toArray, List.extract_eq_take_drop]
          simp [hl]
        refine ⟨_, _, fun w => part_agg aggC20 sizC20 w, fun w => part_agg aggC20 sizC20 w, fun w => ?_⟩
        unfold rgV
        rw [ex, ex]
        exact cpu_eq20' 9999 (by decide) c hc w
      · exact ⟨_, _, fun w => part_cell aggI20 (hx 0 _ _ rfl) w, fun w => part_cell aggI20 (hx 0 _ _ rfl) w, fun w => by rw [run_equalIn_int (P := Tryz.prog) w 9998 3 .i64 .i64 n n Tryz.underlying3]; simp⟩
      · exact ⟨_, _, fun w => part_cell aggI20 (hx 1 _ _ rfl) w, fun w => part_cell aggI20 (hx 1 _ _ rfl) w, fun w => by rw [run_equalIn_int (P := Tryz.prog) w 9998 3 .i64 .i64 p p' Tryz.underlying3]; rfl⟩
      · exact ⟨_, _, fun w => part_cell aggB20 (hx 2 _ _ rfl) w, fun w => part_cell aggB20 (hx 2 _ _ rfl) w, fun w => by rw [run_equalIn_bool (P := Tryz.prog) w 9998 4 h h Tryz.underlying4]; simp⟩
      · exact ⟨_, _, fun w => part_cell aggB20 (hx 3 _ _ rfl) w, fun w => part_cell aggB20 (hx 3 _ _ rfl) w, fun w => by rw [run_equalIn_bool (P := Tryz.prog) w 9998 4 a a' Tryz.underlying4]; rfl⟩
      · exact ⟨_, _, fun w => part_cell aggB20 (hx 4 _ _ rfl) w, fun w => part_cell aggB20 (hx 4 _ _ rfl) w, fun w => by rw [run_equalIn_bool (P := Tryz.prog) w 9998 4 t t' Tryz.underlying4]; rfl⟩
  have key2 : (Op.equalIn Op.maxDepth 91 (.agg (rgV c n p h a t).toArray) (.agg (rgV c n p' h a' t').toArray)).run Tryz.prog w = .ok ((p == p') && (a == a') && (t == t')) w := key
  simp only [binOp, Op.equal, Sem.run_bind, key2, Result.andThen_ok, Sem.run_pure]
theorem mwithin_any (n g : Int) (w : World) : Calls Tryz.prog 51 #[.int .i64 n, .int .i64 g] w fun e' w' => e' = .returned (.bool (decide (0 ≤ n) && decide (n ≤ g))) ∧ Below w.heap.size w w' := by
  by_cases h0 : 0 ≤ n
  · go_enter Tryz.func51, Tryz.ntmps51
    go_wp2
    go_ret
    exact ⟨by simp [h0], Below.refl _ _⟩
  · go_enter Tryz.func51, Tryz.ntmps51
    go_wp2
    go_ret
    exact ⟨by simp <;> omega, Below.refl _ _⟩
def minB (n g : Int) : Bool := decide (0 ≤ n) && decide (n ≤ g)
def Ma.calm (A : Ma) : Bool := !A.h || (A.pw == 0 && A.a == false && A.pt == false)
/-- Is the machine valid? -/
def Ma.rightM (A : Ma) (c : List Int) : Bool := A.right && rtL c && minB A.now 1099511627776 && minB A.pw 10000 && A.calm
theorem rmachRight_any (A : Ma) (hA : A.ok) (hF : A.few) (c : List Int) (hc : A.C = c.map (Value.int .i64)) (hc10 : c.length = 10) (vm vb vl vs vd vt : Value) (w : World) (hN : MaNow w A vm vb vl vs vd vt) :
    Calls Tryz.prog 20 #[.agg (A.cells vm vb vl vs vd vt).toArray] w fun e' w' => e' = .returned (.bool (A.rightM c)) ∧ Below w.heap.size w w' := by
  have hX := (Bag.nil w).new 49 (A.cells vm vb vl vs vd vt)
  have hpr := fun wz (hb : Below w.heap.size w wz) => rbRight_any A hA hF vm vb vl vs vd vt wz (hN.step hb)
  have hcr : ∀ wz, Calls Tryz.prog 8 #[.agg (c.map (Value.int .i64)).toArray] wz fun e w' => e = .returned (.bool (rtL c)) ∧ Below wz.heap.size wz w' := fun wz => crright_any hc10 wz
  have gn := getE_now (vm := vm) (vb := vb) (vl := vl) (vs := vs) (vd := vd) (vt := vt) hA
  have gh := getE_h (vm := vm) (vb := vb) (vl := vl) (vs := vs) (vd := vd) (vt := vt) hA
  have ga := getE_a (vm := vm) (vb := vb) (vl := vl) (vs := vs) (vd := vd) (vt := vt) hA
  have gp := getE_pw (vm := vm) (vb := vb) (vl := vl) (vs := vs) (vd := vd) (vt := vt) hA
  have gt := getE_pt (vm := vm) (vb := vb) (vl := vl) (vs := vs) (vd := vd) (vt := vt) hA
  have gc : ∀ j v, (c.map (Value.int .i64))[j]? = some v → (A.cells vm vb vl vs vd vt)[0 + j]? = some v := fun j v hz => get_c j v (by rw [hc]; exact hz)
  have hcl : (c.map (Value.int .i64)).length = 10 := by simpa using hc10
  unfold Ma.rightM minB Ma.calm
  obtain ⟨n, hn⟩ : ∃ n, n = A.now := ⟨_, rfl⟩
  obtain ⟨p, hp⟩ : ∃ p, p = A.pw := ⟨_, rfl⟩
  rw [← hn] at gn ⊢
  rw [← hp] at gp ⊢
  clear hN hn hp
  generalize A.right = b1 at *
  generalize rtL c = b2 at *
  generalize A.h = h at *
  generalize A.a = a at *
  generalize A.pt = t at *
  go_enter Tryz.func20, Tryz.ntmps20
  by_cases n0 : n < 0
  · go_wp2_with (first | ((with_reducible refine at_ld 3 ?_); refine ldc (hk := gn) hX aggI20 ?_) | ((with_reducible refine at_ld 3 ?_); refine ldc (hk := gp) hX aggI20 ?_) | ((with_reducible refine at_ld 4 ?_); refine ldc (hk := gh) hX aggB20 ?_) | ((with_reducible refine at_ld 4 ?_); refine ldc (hk := ga) hX aggB20 ?_) | ((with_reducible refine at_ld 4 ?_); refine ldc (hk := gt) hX aggB20 ?_) | ((with_reducible refine at_ld 49 ?_); refine ldw (hn := Ma.clen hA) hX aggM sizM ?_) | ((with_reducible refine at_ld 25 ?_); refine ldp (k := 0) hX aggC18 sizC18 gc hcl ?_) | (go_at_call 54; (with_reducible refine (hpr _ hX.below).mono ?_); rintro e' wd ⟨rfl, hbb⟩; replace hX := hX.step hbb; clear hbb) | (go_at_call 8; (with_reducible refine (hcr _).mono ?_); rintro e' wd ⟨rfl, hbb⟩; replace hX := hX.step hbb; clear hbb))
    (go_ret; exact ⟨by first | (simp; done) | (simp; omega) | (simp_all; done) | (simp_all; omega), hX.below⟩)
  by_cases n1 : 1099511627776 < n
  · go_wp2_with (first | ((with_reducible refine at_ld 3 ?_); refine ldc (hk := gn) hX aggI20 ?_) | ((with_reducible refine at_ld 3 ?_); refine ldc (hk := gp) hX aggI20 ?_) | ((with_reducible refine at_ld 4 ?_); refine ldc (hk := gh) hX aggB20 ?_) | ((with_reducible refine at_ld 4 ?_); refine ldc (hk := ga) hX aggB20 ?_) | ((with_reducible refine at_ld 4 ?_); refine ldc (hk := gt) hX aggB20 ?_) | ((with_reducible refine at_ld 49 ?_); refine ldw (hn := Ma.clen hA) hX aggM sizM ?_) | ((with_reducible refine at_ld 25 ?_); refine ldp (k := 0) hX aggC18 sizC18 gc hcl ?_) | (go_at_call 54; (with_reducible refine (hpr _ hX.below).mono ?_); rintro e' wd ⟨rfl, hbb⟩; replace hX := hX.step hbb; clear hbb) | (go_at_call 8; (with_reducible refine (hcr _).mono ?_); rintro e' wd ⟨rfl, hbb⟩; replace hX := hX.step hbb; clear hbb))
    (go_ret; exact ⟨by first | (simp; done) | (simp; omega) | (simp_all; done) | (simp_all; omega), hX.below⟩)
  by_cases p0 : p < 0
  · go_wp2_with (first | ((with_reducible refine at_ld 3 ?_); refine ldc (hk := gn) hX aggI20 ?_) | ((with_reducible refine at_ld 3 ?_); refine ldc (hk := gp) hX aggI20 ?_) | ((with_reducible refine at_ld 4 ?_); refine ldc (hk := gh) hX aggB20 ?_) | ((with_reducible refine at_ld 4 ?_); refine ldc (hk := ga) hX aggB20 ?_) | ((with_reducible refine at_ld 4 ?_); refine ldc (hk := gt) hX aggB20 ?_) | ((with_reducible refine at_ld 49 ?_); refine ldw (hn := Ma.clen hA) hX aggM sizM ?_) | ((with_reducible refine at_ld 25 ?_); refine ldp (k := 0) hX aggC18 sizC18 gc hcl ?_) | (go_at_call 54; (with_reducible refine (hpr _ hX.below).mono ?_); rintro e' wd ⟨rfl, hbb⟩; replace hX := hX.step hbb; clear hbb) | (go_at_call 8; (with_reducible refine (hcr _).mono ?_); rintro e' wd ⟨rfl, hbb⟩; replace hX := hX.step hbb; clear hbb))
    (go_ret; exact ⟨by first | (simp; done) | (simp; omega) | (simp_all; done) | (simp_all; omega), hX.below⟩)
  by_cases p1 : 10000 < p
  · go_wp2_with (first | ((with_reducible refine at_ld 3 ?_); refine ldc (hk := gn) hX aggI20 ?_) | ((with_reducible refine at_ld 3 ?_); refine ldc (hk := gp) hX aggI20 ?_) | ((with_reducible refine at_ld 4 ?_); refine ldc (hk := gh) hX aggB20 ?_) | ((with_reducible refine at_ld 4 ?_); refine ldc (hk := ga) hX aggB20 ?_) | ((with_reducible refine at_ld 4 ?_); refine ldc (hk := gt) hX aggB20 ?_) | ((with_reducible refine at_ld 49 ?_); refine ldw (hn := Ma.clen hA) hX aggM sizM ?_) | ((with_reducible refine at_ld 25 ?_); refine ldp (k := 0) hX aggC18 sizC18 gc hcl ?_) | (go_at_call 54; (with_reducible refine (hpr _ hX.below).mono ?_); rintro e' wd ⟨rfl, hbb⟩; replace hX := hX.step hbb; clear hbb) | (go_at_call 8; (with_reducible refine (hcr _).mono ?_); rintro e' wd ⟨rfl, hbb⟩; replace hX := hX.step hbb; clear hbb))
    (go_ret; exact ⟨by first | (simp; done) | (simp; omega) | (simp_all; done) | (simp_all; omega), hX.below⟩)
  cases h
  · cases b1
    · go_wp2_with (first | ((with_reducible refine at_ld 3 ?_); refine ldc (hk := gn) hX aggI20 ?_) | ((with_reducible refine at_ld 3 ?_); refine ldc (hk := gp) hX aggI20 ?_) | ((with_reducible refine at_ld 4 ?_); refine ldc (hk := gh) hX aggB20 ?_) | ((with_reducible refine at_ld 4 ?_); refine ldc (hk := ga) hX aggB20 ?_) | ((with_reducible refine at_ld 4 ?_); refine ldc (hk := gt) hX aggB20 ?_) | ((with_reducible refine at_ld 49 ?_); refine ldw (hn := Ma.clen hA) hX aggM sizM ?_) | ((with_reducible refine at_ld 25 ?_); refine ldp (k := 0) hX aggC18 sizC18 gc hcl ?_) | (go_at_call 54; (with_reducible refine (hpr _ hX.below).mono ?_); rintro e' wd ⟨rfl, hbb⟩; replace hX := hX.step hbb; clear hbb) | (go_at_call 8; (with_reducible refine (hcr _).mono ?_); rintro e' wd ⟨rfl, hbb⟩; replace hX := hX.step hbb; clear hbb))
      (go_ret; exact ⟨by first | (simp; done) | (simp; omega) | (simp_all; done) | (simp_all; omega), hX.below⟩)
    · go_wp2_with (first | ((with_reducible refine at_ld 3 ?_); refine ldc (hk := gn) hX aggI20 ?_) | ((with_reducible refine at_ld 3 ?_); refine ldc (hk := gp) hX aggI20 ?_) | ((with_reducible refine at_ld 4 ?_); refine ldc (hk := gh) hX aggB20 ?_) | ((with_reducible refine at_ld 4 ?_); refine ldc (hk := ga) hX aggB20 ?_) | ((with_reducible refine at_ld 4 ?_); refine ldc (hk := gt) hX aggB20 ?_) | ((with_reducible refine at_ld 49 ?_); refine ldw (hn := Ma.clen hA) hX aggM sizM ?_) | ((with_reducible refine at_ld 25 ?_); refine ldp (k := 0) hX aggC18 sizC18 gc hcl ?_) | (go_at_call 54; (with_reducible refine (hpr _ hX.below).mono ?_); rintro e' wd ⟨rfl, hbb⟩; replace hX := hX.step hbb; clear hbb) | (go_at_call 8; (with_reducible refine (hcr _).mono ?_); rintro e' wd ⟨rfl, hbb⟩; replace hX := hX.step hbb; clear hbb))
      (go_ret; exact ⟨by first | (simp; done) | (simp; omega) | (simp_all; done) | (simp_all; omega), hX.below⟩)
  cases a
  rotate_left
  · go_wp2_with (first | ((with_reducible refine at_ld 3 ?_); refine ldc (hk := gn) hX aggI20 ?_) | ((with_reducible refine at_ld 3 ?_); refine ldc (hk := gp) hX aggI20 ?_) | ((with_reducible refine at_ld 4 ?_); refine ldc (hk := gh) hX aggB20 ?_) | ((with_reducible refine at_ld 4 ?_); refine ldc (hk := ga) hX aggB20 ?_) | ((with_reducible refine at_ld 4 ?_); refine ldc (hk := gt) hX aggB20 ?_) | ((with_reducible refine at_ld 49 ?_); refine ldw (hn := Ma.clen hA) hX aggM sizM ?_) | ((with_reducible refine at_ld 25 ?_); refine ldp (k := 0) hX aggC18 sizC18 gc hcl ?_) | (go_at_call 54; (with_reducible refine (hpr _ hX.below).mono ?_); rintro e' wd ⟨rfl, hbb⟩; replace hX := hX.step hbb; clear hbb) | (go_at_call 8; (with_reducible refine (hcr _).mono ?_); rintro e' wd ⟨rfl, hbb⟩; replace hX := hX.step hbb; clear hbb))
    (go_ret; exact ⟨by first | (simp; done) | (simp; omega) | (simp_all; done) | (simp_all; omega), hX.below⟩)
  by_cases pz : p = 0
  rotate_left
  · go_wp2_with (first | ((with_reducible refine at_ld 3 ?_); refine ldc (hk := gn) hX aggI20 ?_) | ((with_reducible refine at_ld 3 ?_); refine ldc (hk := gp) hX aggI20 ?_) | ((with_reducible refine at_ld 4 ?_); refine ldc (hk := gh) hX aggB20 ?_) | ((with_reducible refine at_ld 4 ?_); refine ldc (hk := ga) hX aggB20 ?_) | ((with_reducible refine at_ld 4 ?_); refine ldc (hk := gt) hX aggB20 ?_) | ((with_reducible refine at_ld 49 ?_); refine ldw (hn := Ma.clen hA) hX aggM sizM ?_) | ((with_reducible refine at_ld 25 ?_); refine ldp (k := 0) hX aggC18 sizC18 gc hcl ?_) | (go_at_call 54; (with_reducible refine (hpr _ hX.below).mono ?_); rintro e' wd ⟨rfl, hbb⟩; replace hX := hX.step hbb; clear hbb) | (go_at_call 8; (with_reducible refine (hcr _).mono ?_); rintro e' wd ⟨rfl, hbb⟩; replace hX := hX.step hbb; clear hbb))
    (go_ret; exact ⟨by first | (simp; done) | (simp; omega) | (simp_all; done) | (simp_all; omega), hX.below⟩)
  cases t
  rotate_left
  · go_wp2_with (first | ((with_reducible refine at_ld 3 ?_); refine ldc (hk := gn) hX aggI20 ?_) | ((with_reducible refine at_ld 3 ?_); refine ldc (hk := gp) hX aggI20 ?_) | ((with_reducible refine at_ld 4 ?_); refine ldc (hk := gh) hX aggB20 ?_) | ((with_reducible refine at_ld 4 ?_); refine ldc (hk := ga) hX aggB20 ?_) | ((with_reducible refine at_ld 4 ?_); refine ldc (hk := gt) hX aggB20 ?_) | ((with_reducible refine at_ld 49 ?_); refine ldw (hn := Ma.clen hA) hX aggM sizM ?_) | ((with_reducible refine at_ld 25 ?_); refine ldp (k := 0) hX aggC18 sizC18 gc hcl ?_) | (go_at_call 54; (with_reducible refine (hpr _ hX.below).mono ?_); rintro e' wd ⟨rfl, hbb⟩; replace hX := hX.step hbb; clear hbb) | (go_at_call 8; (with_reducible refine (hcr _).mono ?_); rintro e' wd ⟨rfl, hbb⟩; replace hX := hX.step hbb; clear hbb))
    (go_ret; exact ⟨by first | (simp; done) | (simp; omega) | (simp_all; done) | (simp_all; omega), hX.below⟩)
  cases b1
  · go_wp2_with (first | ((with_reducible refine at_ld 3 ?_); refine ldc (hk := gn) hX aggI20 ?_) | ((with_reducible refine at_ld 3 ?_); refine ldc (hk := gp) hX aggI20 ?_) | ((with_reducible refine at_ld 4 ?_); refine ldc (hk := gh) hX aggB20 ?_) | ((with_reducible refine at_ld 4 ?_); refine ldc (hk := ga) hX aggB20 ?_) | ((with_reducible refine at_ld 4 ?_); refine ldc (hk := gt) hX aggB20 ?_) | ((with_reducible refine at_ld 49 ?_); refine ldw (hn := Ma.clen hA) hX aggM sizM ?_) | ((with_reducible refine at_ld 25 ?_); refine ldp (k := 0) hX aggC18 sizC18 gc hcl ?_) | (go_at_call 54; (with_reducible refine (hpr _ hX.below).mono ?_); rintro e' wd ⟨rfl, hbb⟩; replace hX := hX.step hbb; clear hbb) | (go_at_call 8; (with_reducible refine (hcr _).mono ?_); rintro e' wd ⟨rfl, hbb⟩; replace hX := hX.step hbb; clear hbb))
    (go_ret; exact ⟨by first | (simp; done) | (simp; omega) | (simp_all; done) | (simp_all; omega), hX.below⟩)
  · go_wp2_with (first | ((with_reducible refine at_ld 3 ?_); refine ldc (hk := gn) hX aggI20 ?_) | ((with_reducible refine at_ld 3 ?_); refine ldc (hk := gp) hX aggI20 ?_) | ((with_reducible refine at_ld 4 ?_); refine ldc (hk := gh) hX aggB20 ?_) | ((with_reducible refine at_ld 4 ?_); refine ldc (hk := ga) hX aggB20 ?_) | ((with_reducible refine at_ld 4 ?_); refine ldc (hk := gt) hX aggB20 ?_) | ((with_reducible refine at_ld 49 ?_); refine ldw (hn := Ma.clen hA) hX aggM sizM ?_) | ((with_reducible refine at_ld 25 ?_); refine ldp (k := 0) hX aggC18 sizC18 gc hcl ?_) | (go_at_call 54; (with_reducible refine (hpr _ hX.below).mono ?_); rintro e' wd ⟨rfl, hbb⟩; replace hX := hX.step hbb; clear hbb) | (go_at_call 8; (with_reducible refine (hcr _).mono ?_); rintro e' wd ⟨rfl, hbb⟩; replace hX := hX.step hbb; clear hbb))
    (go_ret; exact ⟨by first | (simp; done) | (simp; omega) | (simp_all; done) | (simp_all; omega), hX.below⟩)
end Go.Proofs.YtlegcfjafdihlaaGreatDoor
