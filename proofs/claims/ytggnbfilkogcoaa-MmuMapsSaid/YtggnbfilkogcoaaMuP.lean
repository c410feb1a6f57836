/-
  A memory management unit as a list of cells, plain: its parts read and set. No condition.
-/
import Derived.Laws.Entries
namespace Go.Proofs.Ytggnbfilkogcoaa
set_option linter.unusedSimpArgs false
set_option linter.unusedVariables false

/-- A page: its base, its length, its access, whether it has been written. -/
structure Pg where
  b : Int
  l : Int
  a : Int
  r : Bool
def Pg.L (p : Pg) : List Value := [.int .i64 p.b, .int .i64 p.l, .int .i64 p.a, .bool p.r]
def Pg.z : Pg := ⟨0, 0, 0, false⟩
/-- A unit: 16 pages, eight of each mode. -/
structure Un where
  on : Bool
  pg : List Pg
  st : Int
  ad : Int
def Un.L (u : Un) : List Value := .bool u.on :: (u.pg.flatMap Pg.L ++ [.int .i64 u.st, .int .i64 u.ad])
def Un.z : Un := ⟨false, List.replicate 16 Pg.z, 0, 0⟩
def Un.ok (u : Un) : Prop := u.pg.length = 16
theorem flat_len : ∀ l : List Pg, (l.flatMap Pg.L).length = 4 * l.length
  | [] => rfl
  | p :: r => by rw [List.flatMap_cons, List.length_append, flat_len r, List.length_cons]; show 4 + _ = _; omega
theorem flat_get : ∀ (l : List Pg) (k j : Nat) (p : Pg), l[k]? = some p → j < 4 → (l.flatMap Pg.L)[4 * k + j]? = p.L[j]?
  | [], k, j, p, h, _ => by simp at h
  | q :: r, 0, j, p, h, hj => by
    obtain rfl : q = p := by simpa using h
    rw [List.flatMap_cons, Nat.mul_zero, Nat.zero_add, List.getElem?_append_left (show j < q.L.length from hj)]
  | q :: r, k + 1, j, p, h, hj => by
    rw [List.flatMap_cons, List.getElem?_append_right (by show 4 ≤ _; omega), show 4 * (k + 1) + j - q.L.length = 4 * k + j by show 4 * (k + 1) + j - 4 = _; omega]
    exact flat_get r k j p (by simpa using h) hj
theorem flat_set : ∀ (l : List Pg) (k j : Nat) (p p' : Pg) (v : Value), l[k]? = some p → j < 4 → p.L.set j v = p'.L → (l.flatMap Pg.L).set (4 * k + j) v = (l.set k p').flatMap Pg.L
  | [], k, j, p, p', v, h, _, _ => by simp at h
  | q :: r, 0, j, p, p', v, h, hj, he => by
    obtain rfl : q = p := by simpa using h
    rw [List.flatMap_cons, Nat.mul_zero, Nat.zero_add, List.set_append_left _ _ (show j < q.L.length from hj), he, List.set_cons_zero, List.flatMap_cons]
  | q :: r, k + 1, j, p, p', v, h, hj, he => by
    rw [List.flatMap_cons, List.set_append_right _ _ (by show 4 ≤ _; omega), show 4 * (k + 1) + j - q.L.length = 4 * k + j by show 4 * (k + 1) + j - 4 = _; omega]
    rw [flat_set r k j p p' v (by simpa using h) hj he, List.set_cons_succ, List.flatMap_cons]
theorem Un.len {u : Un} (h : u.ok) : u.L.length = 67 := by
  unfold Un.ok at h
  simp only [Un.L, List.length_cons, List.length_append, flat_len, h, List.length_nil]
theorem Un.at0 (u : Un) : u.L[0]? = some (.bool u.on) := rfl
theorem Un.page {u : Un} {k : Nat} {p : Pg} (hp : u.pg[k]? = some p) (j : Nat) (hj : j < 4) : u.L[1 + (4 * k + j)]? = p.L[j]? := by
  have hk := (List.getElem?_eq_some_iff.1 hp).1
  have e := flat_get u.pg k j p hp hj
  rw [Nat.add_comm, Un.L, List.getElem?_cons_succ, List.getElem?_append_left (by rw [flat_len]; omega), e]
theorem Un.at65 {u : Un} (h : u.ok) : u.L[65]? = some (.int .i64 u.st) := by
  unfold Un.ok at h
  show (u.pg.flatMap Pg.L ++ _)[64]? = _
  rw [List.getElem?_append_right (by rw [flat_len]; omega), flat_len, h]; rfl
theorem Un.at66 {u : Un} (h : u.ok) : u.L[66]? = some (.int .i64 u.ad) := by
  unfold Un.ok at h
  show (u.pg.flatMap Pg.L ++ _)[65]? = _
  rw [List.getElem?_append_right (by rw [flat_len]; omega), flat_len, h]; rfl
theorem Un.set0 (u : Un) (b : Bool) : u.L.set 0 (.bool b) = ({ u with on := b } : Un).L := rfl
theorem Un.set65 {u : Un} (h : u.ok) (x : Int) : u.L.set 65 (.int .i64 x) = ({ u with st := x } : Un).L := by
  unfold Un.ok at h
  unfold Un.L
  rw [List.set_cons_succ, List.set_append_right _ _ (by rw [flat_len]; omega), flat_len, h]; rfl
theorem Un.set66 {u : Un} (h : u.ok) (x : Int) : u.L.set 66 (.int .i64 x) = ({ u with ad := x } : Un).L := by
  unfold Un.ok at h
  unfold Un.L
  rw [List.set_cons_succ, List.set_append_right _ _ (by rw [flat_len]; omega), flat_len, h]; rfl
theorem Un.setp {u : Un} {k : Nat} {p p' : Pg} (hp : u.pg[k]? = some p) (j : Nat) (hj : j < 4) (v : Value) (he : p.L.set j v = p'.L) : u.L.set (1 + (4 * k + j)) v = ({ u with pg := u.pg.set k p' } : Un).L := by
  have hk := (List.getElem?_eq_some_iff.1 hp).1
  unfold Un.L
  rw [Nat.add_comm, List.set_cons_succ, List.set_append_left _ _ (by rw [flat_len]; omega), flat_set u.pg k j p p' v hp hj he]
theorem Un.one (u : Un) : ∀ v ∈ u.L, v.oneCell' = true := by
  intro v hv
  unfold Un.L at hv
  rcases List.mem_cons.1 hv with rfl | h
  · rfl
  · rcases List.mem_append.1 h with h | h
    · obtain ⟨p, _, h⟩ := List.mem_flatMap.1 h
      simp [Pg.L] at h
      rcases h with rfl | rfl | rfl | rfl <;> rfl
    · simp at h
      rcases h with rfl | rfl <;> rfl
end Go.Proofs.Ytggnbfilkogcoaa
