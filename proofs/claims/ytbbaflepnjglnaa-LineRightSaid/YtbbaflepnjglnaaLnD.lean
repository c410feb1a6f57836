/-
  Tick of the reference of package line. Condition: the line is valid.
-/
import Derived.Test.YtbbaflepnjglnaaLnC
import Derived.Maps.AppendAt
import Derived.Laws.IdiomStrings
namespace Go.Proofs.Ytbbaflepnjglnaa
open Go.RowKit
set_option linter.unusedSimpArgs false
set_option linter.unusedVariables false
set_option maxHeartbeats 4000000
set_option maxRecDepth 100000
attribute [local irreducible] wpQuiet

/-- A fact that the walk does not use. -/
def Hid (p : Prop) : Prop := p
theorem hid {p : Prop} (h : p) : Hid p := h
theorem rtickL_0 (a b o : Bool) (d : Int) (e f : Bool) (t l : Int) (s : ByteArray) (h : l ≤ 0) (w : World) : Calls Try.prog 21 #[.agg #[.bool a, .bool b, .bool o, .int .i64 d, .bool e, .bool f, .int .i64 t, .int .i64 l, .string s]] w fun e' w' => e' = .returned (.agg #[.bool a, .bool b, .bool o, .int .i64 d, .bool e, .bool f, .int .i64 t, .int .i64 l, .string s]) ∧ Below w.heap.size w w' := by
  have d0 : decide (l ≤ 0) = true := decide_eq_true h
  go_enter Try.func21, Try.ntmps21
  go_wp2
  exact bodyPost_ret (results_c Try.results21 rfl (((two_newL w _ _).all _ _ _ List.mem_cons_self).loadVar rfl aggL sizL)) rfl ⟨rfl, (two_newL w _ _).below⟩
theorem rtickL_n (a b o : Bool) (d : Int) (e f : Bool) (t l : Int) (s : ByteArray) (h : 1 < l ∧ l ≤ 4) (w : World) : Calls Try.prog 21 #[.agg #[.bool a, .bool b, .bool o, .int .i64 d, .bool e, .bool f, .int .i64 t, .int .i64 l, .string s]] w fun e' w' => e' = .returned (.agg #[.bool a, .bool b, .bool o, .int .i64 d, .bool e, .bool f, .int .i64 t, .int .i64 (l - 1), .string s]) ∧ Below w.heap.size w w' := by
  have d0 : decide (l ≤ 0) = false := decide_eq_false (by omega)
  have hw : wrap64 (l - 1) = l - 1 := by unfold wrap64; omega
  have d1 : decide (0 < l - 1) = true := decide_eq_true (by omega)
  go_enter Try.func21, Try.ntmps21
  go_wp2
  exact bodyPost_ret (results_c Try.results21 rfl (((two_newL w _ _).all _ _ _ List.mem_cons_self).loadVar rfl aggL sizL)) rfl ⟨rfl, (two_newL w _ _).below⟩
theorem size_one (s : ByteArray) (y : UInt8) : (s ++ (⟨#[y]⟩ : ByteArray)).size = s.size + 1 := by rw [ByteArray.size_append]; rfl
theorem rtickL_1 (a b o : Bool) (d : Int) (e f : Bool) (y : UInt8) (s : ByteArray) (hs : s.size < 4096) (w : World) : Calls Try.prog 21 #[.agg #[.bool a, .bool b, .bool o, .int .i64 d, .bool e, .bool f, .int .i64 (y.toNat : Int), .int .i64 1, .string s]] w fun e' w' => e' = .returned (.agg #[.bool a, .bool b, .bool o, .int .i64 d, .bool e, .bool true, .int .i64 (y.toNat : Int), .int .i64 0, .string (s ++ (⟨#[y]⟩ : ByteArray))]) ∧ Below w.heap.size w w' := by
  have hy : (y.toNat : Int) ≤ 255 := by have := y.toNat_lt; omega
  have hy0 : 0 ≤ (y.toNat : Int) := by omega
  have hcell : ∀ w0 : World, ∀ j (hj : j < [y].length), (w0.alloc (.cells #[.int .u8 (y.toNat : Int)] 5)).cell? ((⟨w0.heap.size, 0, none⟩ : Addr).add j) = some (.int .u8 (([y][j]).toNat : Int)) := fun w0 j hj => by
    have := cell_one_new w0 (.int .u8 (y.toNat : Int)) 5 j (.int .u8 (y.toNat : Int)) (by
      have : j = 0 := by simpa using hj
      subst this; rfl)
    rw [this]
    have : j = 0 := by simpa using hj
    subst this; rfl
  have hcv0 : ∀ w0 : World, (convert 49 9 (.slice (some ⟨w0.heap.size, 0, none⟩) 1 1)).run Try.prog (w0.alloc (.cells #[.int .u8 (y.toNat : Int)] 5)) = .ok (.string ⟨#[y]⟩) (w0.alloc (.cells #[.int .u8 (y.toNat : Int)] 5)) := fun w0 =>
    run_convert_bytes_back (P := Try.prog) _ 49 9 5 ⟨w0.heap.size, 0, none⟩ 1 [y] Try.underlying49 Try.underlying5 Try.underlying9 (hcell w0)
  have hcv := hcv0 ((w.alloc (.cells #[.bool a, .bool b, .bool o, .int .i64 d, .bool e, .bool true, .int .i64 (y.toNat : Int), .int .i64 0, .string s] 23)).alloc (.cells #[.bool false, .bool false, .bool false, .int .i64 0, .bool false, .bool false, .int .i64 0, .int .i64 0, .string ⟨#[]⟩] 23))
  rw [show ((w.alloc (.cells #[.bool a, .bool b, .bool o, .int .i64 d, .bool e, .bool true, .int .i64 (y.toNat : Int), .int .i64 0, .string s] 23)).alloc (.cells #[.bool false, .bool false, .bool false, .int .i64 0, .bool false, .bool false, .int .i64 0, .int .i64 0, .string ⟨#[]⟩] 23)).heap.size = w.heap.size + 1 + 1 from by simp] at hcv
  have hsz := size_one s y
  have hlt : decide (4096 < (s.size : Int) + 1) = false := decide_eq_false (by omega)
  clear hcv0 hcell
  go_enter Try.func21, Try.ntmps21
  go_wp2
  exact bodyPost_ret (results_c Try.results21 rfl ((((two_newL w _ _).new 5 _).all _ _ _ (List.mem_cons_of_mem _ List.mem_cons_self)).loadVar rfl aggL sizL)) rfl ⟨rfl, ((two_newL w _ _).new 5 _).below⟩
theorem rtickL_2 (a b o : Bool) (d : Int) (e f : Bool) (y : UInt8) (s : ByteArray) (hs : s.size = 4096) (w : World) : Calls Try.prog 21 #[.agg #[.bool a, .bool b, .bool o, .int .i64 d, .bool e, .bool f, .int .i64 (y.toNat : Int), .int .i64 1, .string s]] w fun e' w' => e' = .returned (.agg #[.bool a, .bool b, .bool o, .int .i64 d, .bool e, .bool true, .int .i64 (y.toNat : Int), .int .i64 0, .string ((s ++ (⟨#[y]⟩ : ByteArray)).extract 1 (s.size + 1))]) ∧ Below w.heap.size w w' := by
  have hy : (y.toNat : Int) ≤ 255 := by have := y.toNat_lt; omega
  have hy0 : 0 ≤ (y.toNat : Int) := by omega
  have hcell : ∀ w0 : World, ∀ j (hj : j < [y].length), (w0.alloc (.cells #[.int .u8 (y.toNat : Int)] 5)).cell? ((⟨w0.heap.size, 0, none⟩ : Addr).add j) = some (.int .u8 (([y][j]).toNat : Int)) := fun w0 j hj => by
    have := cell_one_new w0 (.int .u8 (y.toNat : Int)) 5 j (.int .u8 (y.toNat : Int)) (by
      have : j = 0 := by simpa using hj
      subst this; rfl)
    rw [this]
    have : j = 0 := by simpa using hj
    subst this; rfl
  have hcv0 : ∀ w0 : World, (convert 49 9 (.slice (some ⟨w0.heap.size, 0, none⟩) 1 1)).run Try.prog (w0.alloc (.cells #[.int .u8 (y.toNat : Int)] 5)) = .ok (.string ⟨#[y]⟩) (w0.alloc (.cells #[.int .u8 (y.toNat : Int)] 5)) := fun w0 =>
    run_convert_bytes_back (P := Try.prog) _ 49 9 5 ⟨w0.heap.size, 0, none⟩ 1 [y] Try.underlying49 Try.underlying5 Try.underlying9 (hcell w0)
  have hcv := hcv0 ((w.alloc (.cells #[.bool a, .bool b, .bool o, .int .i64 d, .bool e, .bool true, .int .i64 (y.toNat : Int), .int .i64 0, .string s] 23)).alloc (.cells #[.bool false, .bool false, .bool false, .int .i64 0, .bool false, .bool false, .int .i64 0, .int .i64 0, .string ⟨#[]⟩] 23))
  rw [show ((w.alloc (.cells #[.bool a, .bool b, .bool o, .int .i64 d, .bool e, .bool true, .int .i64 (y.toNat : Int), .int .i64 0, .string s] 23)).alloc (.cells #[.bool false, .bool false, .bool false, .int .i64 0, .bool false, .bool false, .int .i64 0, .int .i64 0, .string ⟨#[]⟩] 23)).heap.size = w.heap.size + 1 + 1 from by simp] at hcv
  have hsz := size_one s y
  have hlt : decide (4096 < (s.size : Int) + 1) = true := decide_eq_true (by omega)
  have hs' : (s.size : Int) = 4096 := by omega
  replace hs := hid hs
  clear hcv0 hcell hlt
  go_enter Try.func21, Try.ntmps21
  go_wp2
  exact bodyPost_ret (results_c Try.results21 rfl ((((two_newL w _ _).new 5 _).all _ _ _ (List.mem_cons_of_mem _ List.mem_cons_self)).loadVar rfl aggL sizL)) rfl ⟨rfl, ((two_newL w _ _).new 5 _).below⟩
theorem last_lt {s : ByteArray} {y : UInt8} (h : s.size < 4096) : (⟨(lastO (s.data.toList ++ [y])).toArray⟩ : ByteArray) = s ++ (⟨#[y]⟩ : ByteArray) := by
  apply ByteArray.ext
  have hl : s.data.toList.length = s.size := rfl
  unfold lastO
  rw [show (s.data.toList ++ [y]).length - 4096 = 0 from by rw [List.length_append, hl]; simp; omega, List.drop_zero, ByteArray.data_append]
  apply Array.toList_inj.1
  simp
theorem last_eq {s : ByteArray} {y : UInt8} (h : s.size = 4096) : (⟨(lastO (s.data.toList ++ [y])).toArray⟩ : ByteArray) = (s ++ (⟨#[y]⟩ : ByteArray)).extract 1 (s.size + 1) := by
  apply ByteArray.ext
  have hl : s.data.toList.length = s.size := rfl
  unfold lastO
  rw [show (s.data.toList ++ [y]).length - 4096 = 1 from by rw [List.length_append, hl, h]; rfl]
  have hz : (s ++ (⟨#[y]⟩ : ByteArray)).data.size = s.size + 1 := size_one s y
  apply Array.toList_inj.1
  rw [ByteArray.data_extract, Array.toList_extract, List.extract_eq_take_drop, ByteArray.data_append, Array.toList_append]
  simp only [List.take_length_add_append]
  rw [List.take_of_length_le (by rw [List.length_drop, List.length_append, hl]; simp)]
theorem rtickL_any (x : Ln) (h : x.right = true) (w : World) : Calls Try.prog 21 #[.agg #[.bool (x).a, .bool (x).b, .bool (x).o, .int .i64 (x).d, .bool (x).e, .bool (x).f, .int .i64 (x).t, .int .i64 (x).l, .string (x).s]] w fun e' w' => e' = .returned (.agg #[.bool (x.tick).a, .bool (x.tick).b, .bool (x.tick).o, .int .i64 (x.tick).d, .bool (x.tick).e, .bool (x.tick).f, .int .i64 (x.tick).t, .int .i64 (x.tick).l, .string (x.tick).s]) ∧ Below w.heap.size w w' := by
  have hx : 0 ≤ x.t ∧ x.t ≤ 255 ∧ x.s.size ≤ 4096 ∧ 0 ≤ x.l ∧ x.l ≤ 4 := by
    unfold Ln.right at h
    simp only [Bool.and_eq_true, decide_eq_true_eq] at h
    omega
  obtain ⟨a, b, o, d, e, f, t, l, s⟩ := x
  simp only at hx
  unfold Ln.tick
  by_cases h0 : l ≤ 0
  · rw [if_pos (show (Ln.mk a b o d e f t l s).l ≤ 0 from h0)]; exact rtickL_0 a b o d e f t l s h0 w
  rw [if_neg (show ¬ (Ln.mk a b o d e f t l s).l ≤ 0 from h0)]
  by_cases h1 : 1 < l
  · rw [if_pos (show 1 < (Ln.mk a b o d e f t l s).l from h1)]; exact rtickL_n a b o d e f t l s (by omega) w
  rw [if_neg (show ¬ 1 < (Ln.mk a b o d e f t l s).l from h1)]
  obtain rfl : l = 1 := by omega
  obtain ⟨y, rfl⟩ : ∃ y : UInt8, t = (y.toNat : Int) := ⟨UInt8.ofNat t.toNat, by have := UInt8.toNat_ofNat' (n := t.toNat); omega⟩
  simp only [Int.toNat_natCast, UInt8.ofNat_toNat]
  by_cases hs : s.size < 4096
  · rw [last_lt hs]; exact rtickL_1 a b o d e f y s hs w
  · have hs2 : s.size = 4096 := by omega
    rw [last_eq hs2]; exact rtickL_2 a b o d e f y s hs2 w
end Go.Proofs.Ytbbaflepnjglnaa
