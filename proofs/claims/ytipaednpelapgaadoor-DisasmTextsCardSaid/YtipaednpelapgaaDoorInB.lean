/-
  Boxes, the condition on the two tables, and the calls that move a field to and from its place. Condition: the tables read as the program's text lays them.
-/
import Derived.Test.YtipaednpelapgaaDoorOpD
import Derived.Test.YtipaednpelapgaaDoorInA
namespace Go.Proofs.YtipaednpelapgaaDoor
open Go.RowKit
set_option linter.unusedSimpArgs false
set_option maxHeartbeats 40000000
set_option maxRecDepth 100000

/-- The tables that the calls read: two cells of the table of math/bits, and the rows of forms. -/
structure Frm (A : Addr) (c : Nat) (w : World) : Prop where
  z0 : w.cell? ⟨11, 0, none⟩ = some (.int .u8 0)
  z6 : w.cell? ⟨11, 63, none⟩ = some (.int .u8 6)
  zl : 11 < w.heap.size
  gs : w.cell? ⟨7, 0, none⟩ = some (.slice (some A) 22 c)
  gl : 7 < w.heap.size
  al : A.block < w.heap.size
  at_ : ∀ (k : Nat) (e : Row), rows[k]? = some e → ∀ (j : Nat) (v : Int), [e.f, e.l, e.d, e.a, e.e0, e.e1, e.e2, e.e3, e.e4, e.e5][j]? = some v → w.cell? ((A.add (k * 10)).add j) = some (.int .i64 v)
theorem add_block (A : Addr) (k : Nat) : (A.add k).block = A.block := by unfold Addr.add; split <;> rfl
theorem Frm.step {A : Addr} {c : Nat} {w w' : World} (h : Frm A c w) (hb : Below w.heap.size w w') : Frm A c w' := {
  z0 := (hb.cell (p := ⟨11, 0, none⟩) h.zl).trans h.z0
  z6 := (hb.cell (p := ⟨11, 63, none⟩) h.zl).trans h.z6
  zl := Nat.lt_of_lt_of_le h.zl hb.size
  gs := (hb.cell (p := ⟨7, 0, none⟩) h.gl).trans h.gs
  gl := Nat.lt_of_lt_of_le h.gl hb.size
  al := Nat.lt_of_lt_of_le h.al hb.size
  at_ := fun k e hk j v hj => (hb.cell (p := (A.add (k * 10)).add j) (by rw [add_block, add_block]; exact h.al)).trans (h.at_ k e hk j v hj) }

/-- A box: what its cells hold. -/
structure At (B : Nat) (l : List Value) (w : World) : Prop where
  c : ∀ (k : Nat) (v : Value), l[k]? = some v → w.cell? ⟨B, k, none⟩ = some v
  fz : ∀ (k : Nat), w.frozen? ⟨B, k, none⟩ = false
  lt : B < w.heap.size
theorem At.step {B : Nat} {l : List Value} {w w' : World} (h : At B l w) (hb : Below w.heap.size w w') : At B l w' :=
  ⟨fun k v hv => (hb.cell (p := ⟨B, k, none⟩) h.lt).trans (h.c k v hv), fun k => (hb.frozen (p := ⟨B, k, none⟩) h.lt).trans (h.fz k), Nat.lt_of_lt_of_le h.lt hb.size⟩
theorem At.put (l : List Value) (t : TypeId) (w : World) : At w.heap.size l (w.alloc (.cells l.toArray t)) :=
  ⟨fun k v hv => by simp [hv], fun k => by simp, by simp⟩
theorem At.store {B : Nat} {l : List Value} {w : World} (h : At B l w) (k : Nat) (hk : k < l.length) (v : Value) : At B (l.set k v) (w.setCell ⟨B, k, none⟩ v) := by
  have hc := h.c k _ (List.getElem?_eq_getElem hk)
  refine ⟨fun j u hu => ?_, fun j => by simpa using h.fz j, by simpa using h.lt⟩
  by_cases e : k = j
  · subst e
    rw [List.getElem?_set_self (by simpa using hk)] at hu
    rw [← Option.some.inj hu]
    exact World.cell?_setCell_same (h := hc) ..
  · rw [List.getElem?_set_ne e] at hu
    exact (World.cell?_setCell_other _ _ _ _ (fun he => e (congrArg Addr.off he))).trans (h.c j u hu)
theorem At.store_ne {B C : Nat} {l : List Value} {w : World} (h : At B l w) (k : Nat) (v : Value) (hne : B ≠ C) : At B l (w.setCell ⟨C, k, none⟩ v) :=
  ⟨fun j u hu => (World.cell?_setCell_other _ _ _ _ (fun he => hne (congrArg Addr.block he).symm)).trans (h.c j u hu), fun j => by simpa using h.fz j, by simpa using h.lt⟩
/-- Boxes, the tables, and what lay below the call. -/
structure St (A : Addr) (c : Nat) (bs : List (Nat × List Value)) (w0 w : World) : Prop where
  bx : ∀ e ∈ bs, At e.1 e.2 w
  frm0 : Frm A c w0
  below : Below w0.heap.size w0 w
theorem St.frm {A : Addr} {c : Nat} {bs : List (Nat × List Value)} {w0 w : World} (h : St A c bs w0 w) : Frm A c w := h.frm0.step h.below
theorem St.start {A : Addr} {c : Nat} {w : World} (h : Frm A c w) : St A c [] w w := ⟨fun _ h => by simp at h, h, Below.refl _ _⟩
theorem St.step {A : Addr} {c : Nat} {bs : List (Nat × List Value)} {w0 w w' : World} (h : St A c bs w0 w) (hb : Below w.heap.size w w') : St A c bs w0 w' :=
  ⟨fun e he => (h.bx e he).step hb, h.frm0, h.below.trans (hb.mono h.below.size)⟩
theorem St.drew {A : Addr} {c : Nat} {bs : List (Nat × List Value)} {w0 w : World} (h : St A c bs w0 w) : St A c bs w0 w.drew := h.step (Below.refl _ _).drew
theorem St.put {A : Addr} {c : Nat} {bs : List (Nat × List Value)} {w0 w : World} (h : St A c bs w0 w) (l : List Value) (t : TypeId) : St A c ((w.heap.size, l) :: bs) w0 (w.alloc (.cells l.toArray t)) :=
  have hb : Below w.heap.size w (w.alloc (.cells l.toArray t)) := (Below.refl _ _).alloc (Nat.le_refl _) _
  ⟨fun e he => (List.mem_cons.1 he).elim (fun h1 => h1 ▸ At.put l t w) (fun h2 => (h.bx e h2).step hb), h.frm0, (h.step hb).below⟩
theorem St.put2 {A : Addr} {c : Nat} {w : World} (h : Frm A c w) (l1 l2 : List Value) (t1 t2 : TypeId) : St A c [(w.heap.size + 1, l2), (w.heap.size, l1)] w ((w.alloc (.cells l1.toArray t1)).alloc (.cells l2.toArray t2)) := by
  have k := ((St.start h).put l1 t1).put l2 t2
  have e : (w.alloc (.cells l1.toArray t1)).heap.size = w.heap.size + 1 := by simp
  rw [e] at k
  exact k
theorem St.at_ {A : Addr} {c : Nat} {bs : List (Nat × List Value)} {w0 w : World} (h : St A c bs w0 w) (i : Nat) {B : Nat} {l : List Value} (hb : bs[i]? = some (B, l)) : At B l w := h.bx (B, l) (List.mem_of_getElem? hb)
theorem St.c {A : Addr} {c : Nat} {bs : List (Nat × List Value)} {w0 w : World} (h : St A c bs w0 w) (i k : Nat) {B : Nat} {l : List Value} {v : Value} (hb : bs[i]? = some (B, l)) (hv : l[k]? = some v) : w.cell? ⟨B, k, none⟩ = some v :=
  (h.at_ i hb).c k v hv
theorem St.fz {A : Addr} {c : Nat} {bs : List (Nat × List Value)} {w0 w : World} (h : St A c bs w0 w) (i k : Nat) {B : Nat} {l : List Value} (hb : bs[i]? = some (B, l)) : w.frozen? ⟨B, k, none⟩ = false :=
  (h.at_ i hb).fz k
/-- All ten cells of a box at once. -/
theorem St.ten {A : Addr} {c : Nat} {bs : List (Nat × List Value)} {w0 w : World} (h : St A c bs w0 w) (i : Nat) {B : Nat} {v0 v1 v2 v3 v4 v5 v6 v7 v8 v9 : Value} (hb : bs[i]? = some (B, [v0, v1, v2, v3, v4, v5, v6, v7, v8, v9])) :
    w.cell? ⟨B, 0, none⟩ = some v0 ∧ w.cell? ⟨B, 1, none⟩ = some v1 ∧ w.cell? ⟨B, 2, none⟩ = some v2 ∧ w.cell? ⟨B, 3, none⟩ = some v3 ∧ w.cell? ⟨B, 4, none⟩ = some v4 ∧ w.cell? ⟨B, 5, none⟩ = some v5 ∧ w.cell? ⟨B, 6, none⟩ = some v6 ∧ w.cell? ⟨B, 7, none⟩ = some v7 ∧ w.cell? ⟨B, 8, none⟩ = some v8 ∧ w.cell? ⟨B, 9, none⟩ = some v9 :=
  ⟨h.c i 0 hb rfl, h.c i 1 hb rfl, h.c i 2 hb rfl, h.c i 3 hb rfl, h.c i 4 hb rfl, h.c i 5 hb rfl, h.c i 6 hb rfl, h.c i 7 hb rfl, h.c i 8 hb rfl, h.c i 9 hb rfl⟩
theorem St.tenz {A : Addr} {c : Nat} {bs : List (Nat × List Value)} {w0 w : World} (h : St A c bs w0 w) (i : Nat) {B : Nat} {l : List Value} (hb : bs[i]? = some (B, l)) :
    w.frozen? ⟨B, 0, none⟩ = false ∧ w.frozen? ⟨B, 1, none⟩ = false ∧ w.frozen? ⟨B, 2, none⟩ = false ∧ w.frozen? ⟨B, 3, none⟩ = false ∧ w.frozen? ⟨B, 4, none⟩ = false ∧ w.frozen? ⟨B, 5, none⟩ = false ∧ w.frozen? ⟨B, 6, none⟩ = false ∧ w.frozen? ⟨B, 7, none⟩ = false ∧ w.frozen? ⟨B, 8, none⟩ = false ∧ w.frozen? ⟨B, 9, none⟩ = false :=
  ⟨h.fz i 0 hb, h.fz i 1 hb, h.fz i 2 hb, h.fz i 3 hb, h.fz i 4 hb, h.fz i 5 hb, h.fz i 6 hb, h.fz i 7 hb, h.fz i 8 hb, h.fz i 9 hb⟩
/-- A store into a box. -/
theorem St.store {A : Addr} {c : Nat} {bs : List (Nat × List Value)} {w0 w : World} (h : St A c bs w0 w) (i k : Nat) (v : Value) {B : Nat} {l : List Value} (hb : bs[i]? = some (B, l)) (hk : k < l.length) (hlow : w0.heap.size ≤ B) (hne : ∀ j e, j ≠ i → bs[j]? = some e → e.1 ≠ B) :
    St A c (bs.set i (B, l.set k v)) w0 (w.setCell ⟨B, k, none⟩ v) := by
  refine ⟨fun e he => ?_, h.frm0, h.below.setCell hlow v⟩
  obtain ⟨j, hj⟩ := List.mem_iff_getElem?.1 he
  by_cases e1 : i = j
  · subst e1
    have hlt : i < bs.length := (List.getElem?_eq_some_iff.1 hb).1
    rw [List.getElem?_set_self (by simpa using hlt)] at hj
    rw [← Option.some.inj hj]
    exact (h.at_ i hb).store k hk v
  · rw [List.getElem?_set_ne e1] at hj
    exact (h.bx e (List.mem_of_getElem? hj)).store_ne k v (hne j e (fun h => e1 h.symm) hj)

theorem ne2 {B C : Nat} (h : B ≠ C) (l1 l2 : List Value) : ∀ j e, j ≠ 0 → [(C, l1), (B, l2)][j]? = some e → e.1 ≠ C := fun j e hj he => by
  rcases j with _ | _ | j
  · exact absurd rfl hj
  · have he' : some (B, l2) = some e := he
    rw [← Option.some.inj he']
    exact h
  · simp at he
theorem ne2b {B C : Nat} (h : B ≠ C) (l1 l2 : List Value) : ∀ j e, j ≠ 1 → [(C, l1), (B, l2)][j]? = some e → e.1 ≠ B := fun j e hj he => by
  rcases j with _ | _ | j
  · have he' : some (C, l1) = some e := he
    rw [← Option.some.inj he']
    exact fun h' => h h'.symm
  · exact absurd rfl hj
  · simp at he
theorem Frm.at0 {A : Addr} {c : Nat} {w : World} (h : Frm A c w) {k : Nat} {e : Row} (he : rows[k]? = some e) : w.cell? (A.add (k * 10)) = some (.int .i64 e.f) := h.at_ k e he 0 _ rfl
theorem Frm.atj {A : Addr} {c : Nat} {w : World} (h : Frm A c w) {k : Nat} {e : Row} (he : rows[k]? = some e) (j : Nat) (v : Int) (hj : [e.f, e.l, e.d, e.a, e.e0, e.e1, e.e2, e.e3, e.e4, e.e5][j]? = some v) (h0 : j ≠ 0) :
    w.cell? ⟨(A.add (k * 10)).block, (A.add (k * 10)).off + j, none⟩ = some (.int .i64 v) := by
  have := h.at_ k e he j v hj
  rwa [Addr.add, if_neg h0] at this
theorem end_box2 {P : Program} {fn : Func} {R : Ending → World → Prop} {a : Act} {w w0 : World} {v : Value} {A : Addr} {c C B : Nat} {l l' : List Value} {bs : List (Nat × List Value)} (hX : St A c ((C, l) :: (B, l') :: bs) w0 w)
    (hr : ∀ w', At C l w' → At B l' w' → (results fn a.tmps).run P w' = .ok v w') (hd : a.defers = []) (hR : R (.returned v) w) : bodyPost P fn R .ret a w := bodyPost_ret (hr w (hX.at_ 0 rfl) (hX.at_ 1 rfl)) hd hR
theorem end_box {P : Program} {fn : Func} {R : Ending → World → Prop} {a : Act} {w w0 : World} {v : Value} {A : Addr} {c C : Nat} {l : List Value} {bs : List (Nat × List Value)} (hX : St A c ((C, l) :: bs) w0 w)
    (hr : ∀ w', At C l w' → (results fn a.tmps).run P w' = .ok v w') (hd : a.defers = []) (hR : R (.returned v) w) : bodyPost P fn R .ret a w := bodyPost_ret (hr w (hX.at_ 0 rfl)) hd hR

theorem tz64_any (f : Int) (hf : IsM f) {A : Addr} {c : Nat} (w : World) (W : Frm A c w) : Calls Tryd.prog 101 #[.int .u64 f] w fun e w' => e = .returned (.int .i64 (tzR f)) ∧ Below w.heap.size w w' := by
  have z0 := W.z0
  have z6 := W.z6
  rcases hf with rfl | rfl | rfl | rfl | rfl | rfl | rfl
  · have V1 : IntKind.u64.wrap (-4032) = 18446744073709547584 := by decide +kernel
    have A1 : bits .and .u64 4032 18446744073709547584 = 64 := by decide +kernel
    have V2 : IntKind.u64.wrap (64 * 285870213051353865) = 18295693635286647360 := by decide +kernel
    go_enter Tryd.func101, Tryd.ntmps101
    go_wp2
    go_ret
    exact ⟨rfl, Below.refl _ _⟩
  · have V1 : IntKind.u64.wrap (-448) = 18446744073709551168 := by decide +kernel
    have A1 : bits .and .u64 448 18446744073709551168 = 64 := by decide +kernel
    have V2 : IntKind.u64.wrap (64 * 285870213051353865) = 18295693635286647360 := by decide +kernel
    go_enter Tryd.func101, Tryd.ntmps101
    go_wp2
    go_ret
    exact ⟨rfl, Below.refl _ _⟩
  · have V1 : IntKind.u64.wrap (-63) = 18446744073709551553 := by decide +kernel
    have A1 : bits .and .u64 63 18446744073709551553 = 1 := by decide +kernel
    go_enter Tryd.func101, Tryd.ntmps101
    go_wp2
    go_ret
    exact ⟨rfl, Below.refl _ _⟩
  · have V1 : IntKind.u64.wrap (-7) = 18446744073709551609 := by decide +kernel
    have A1 : bits .and .u64 7 18446744073709551609 = 1 := by decide +kernel
    go_enter Tryd.func101, Tryd.ntmps101
    go_wp2
    go_ret
    exact ⟨rfl, Below.refl _ _⟩
  · have V1 : IntKind.u64.wrap (-255) = 18446744073709551361 := by decide +kernel
    have A1 : bits .and .u64 255 18446744073709551361 = 1 := by decide +kernel
    go_enter Tryd.func101, Tryd.ntmps101
    go_wp2
    go_ret
    exact ⟨rfl, Below.refl _ _⟩
  · have V1 : IntKind.u64.wrap (-15) = 18446744073709551601 := by decide +kernel
    have A1 : bits .and .u64 15 18446744073709551601 = 1 := by decide +kernel
    go_enter Tryd.func101, Tryd.ntmps101
    go_wp2
    go_ret
    exact ⟨rfl, Below.refl _ _⟩
  · go_enter Tryd.func101, Tryd.ntmps101
    go_wp2
    go_ret
    exact ⟨rfl, Below.refl _ _⟩
theorem tz_any (f : Int) (hf : IsM f) {A : Addr} {c : Nat} (w : World) (W : Frm A c w) : Calls Tryd.prog 89 #[.int .u64 f] w fun e w' => e = .returned (.int .i64 (tzR f)) ∧ Below w.heap.size w w' := by
  have h := tz64_any f hf w W
  go_enter Tryd.func89, Tryd.ntmps89
  go_wp2_with (first | (go_at_call 101; with_reducible refine h.mono ?_; rintro e w' ⟨rfl, hb⟩))
  go_ret
  exact ⟨rfl, hb⟩

end Go.Proofs.YtipaednpelapgaaDoor
