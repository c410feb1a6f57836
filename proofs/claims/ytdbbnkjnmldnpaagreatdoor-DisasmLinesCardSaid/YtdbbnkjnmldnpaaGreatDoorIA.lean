import Derived.Test.YtdbbnkjnmldnpaaGreatDoorOA
import Derived.Test.YtdbbnkjnmldnpaaGreatDoorOC
/-
  What the calls of package inst and of its reference return, said over the integers: the rows of the table of forms, the fields of an instruction, one set of definitions for both sides. No condition.
-/
namespace Go.Proofs.YtdbbnkjnmldnpaaGreatDoor
open Go.RowKit

structure Row where
  f : Int
  l : Int
  d : Int
  a : Int
  e0 : Int
  e1 : Int
  e2 : Int
  e3 : Int
  e4 : Int
  e5 : Int
structure In where
  o : Int
  b : Bool
  m : Int
  r : Int
  x : Int
  p : Int
  q : Int
  y : Int
  g : Int
  n : Int
def nil10 : In := ⟨0, false, 0, 0, 0, 0, 0, 0, 0, 0⟩
def rows : List Row := [⟨1, 5, 4096, 12, 32768, 4032, 63, 0, 0, 0⟩, ⟨6, 7, 24576, 15, 0, 4032, 63, 0, 0, 0⟩, ⟨8, 10, 28672, 9, 0, 63, 0, 448, 0, 0⟩, ⟨11, 11, 30720, 0, 0, 0, 63, 448, 0, 0⟩, ⟨12, 19, 2560, 6, 32768, 0, 63, 0, 0, 0⟩, ⟨20, 23, 3072, 6, 32768, 0, 63, 0, 0, 0⟩, ⟨24, 24, 192, 0, 0, 0, 63, 0, 0, 0⟩, ⟨25, 25, 3520, 0, 0, 0, 63, 0, 0, 0⟩, ⟨55, 55, 3392, 0, 0, 63, 0, 0, 0, 0⟩, ⟨56, 56, 3456, 0, 0, 0, 63, 0, 0, 0⟩, ⟨41, 41, 64, 0, 0, 0, 63, 0, 0, 0⟩, ⟨42, 42, 2048, 0, 0, 0, 63, 448, 0, 0⟩, ⟨43, 43, 128, 0, 0, 0, 0, 7, 0, 0⟩, ⟨44, 44, 32256, 0, 0, 0, 0, 448, 63, 0⟩, ⟨26, 32, 256, 8, 0, 0, 0, 0, 255, -128⟩, ⟨33, 40, 32768, 8, 0, 0, 0, 0, 255, -128⟩, ⟨45, 46, 34816, 8, 0, 0, 0, 0, 255, 0⟩, ⟨53, 54, 160, 4, 0, 0, 0, 0, 15, 0⟩, ⟨50, 51, 0, 0, 0, 0, 0, 0, 0, 0⟩, ⟨49, 49, 2, 0, 0, 0, 0, 0, 0, 0⟩, ⟨47, 48, 3, 0, 0, 0, 0, 0, 0, 0⟩, ⟨52, 52, 5, 0, 0, 0, 0, 0, 0, 0⟩]
def IsM (f : Int) : Prop := f = 4032 ∨ f = 448 ∨ f = 63 ∨ f = 7 ∨ f = 255 ∨ f = 15 ∨ f = 0
def tzR (f : Int) : Int := if f = 4032 ∨ f = 448 then 6 else if f = 0 then 64 else 0
def takeR (w f : Int) : Int := if f = 4032 then w / 64 % 64 else if f = 448 then w / 64 % 8 else if f = 63 then w % 64 else if f = 7 then w % 8 else if f = 255 then w % 256 else if f = 15 then w % 16 else 0
def placeR (n f : Int) : Int := if f = 4032 then n % 64 * 64 else if f = 448 then n % 8 * 64 else if f = 63 then n % 64 else if f = 7 then n % 8 else if f = 255 then n % 256 else if f = 15 then n % 16 else 0
def bitsR (e0 e1 e2 e3 e4 : Int) : Int := bits .or .i64 (bits .or .i64 (bits .or .i64 (bits .or .i64 e0 e1) e2) e3) e4
def numR (e4 e5 n : Int) : Int := if e5 + e4 < n then n - e4 - 1 else n
def pwR (a : Int) : Int := if a = 12 then 4096 else if a = 15 then 32768 else if a = 9 then 512 else if a = 6 then 64 else if a = 8 then 256 else if a = 4 then 16 else 1
def restR (w : Int) (e : Row) : Int := bits .andNot .i64 w (bitsR e.e0 e.e1 e.e2 e.e3 e.e4) - e.d
def okR (a t : Int) : Bool := decide (0 ≤ t) && decide (t % pwR a = 0)
def opR (f a t : Int) : Int := if okR a t = true then f + t / pwR a else 0
def hitR (f l a t : Int) : Bool := okR a t && decide (f + t / pwR a ≤ l)
def hoO (m r x f : Int) : Bool := if f = 0 then decide (m = 0 ∧ r = 0 ∧ x = 0) else vdR m r x
def hoR (e : Row) (i : In) : Bool := (!decide (e.e0 = 0) || !i.b) && hoO i.m i.r i.x e.e1 && hoO i.p i.q i.y e.e2 && decide (0 ≤ i.g) && decide (i.g ≤ takeR e.e3 e.e3) && decide (e.e5 ≤ i.n) && decide (i.n ≤ e.e5 + e.e4)
def fbR (i : In) : Bool := if i.o = 9 then !decide (i.g.tmod 2 = 0) else if i.o = 41 ∨ i.o = 42 then decide (i.p = 0) else false
def pf (o : Int) (e : Row) : Bool := decide (e.f ≤ o) && decide (o ≤ e.l)
def pw (w : Int) (e : Row) : Bool := hitR e.f e.l e.a (restR w e)
def formR (o : Int) : Option Row := rows.find? (pf o)
def readR (w : Int) : Option Row := rows.find? (pw w)
def vR (i : In) : Bool := match formR i.o with | some e => hoR e i && !fbR i | none => false
def putR (e : Row) (i : In) : Int := bits .or .i64 (bits .or .i64 (bits .or .i64 (placeR (fdR i.m i.r) e.e1) (placeR (fdR i.p i.q) e.e2)) (placeR i.g e.e3)) (placeR i.n e.e4)
def putB (e : Row) (i : In) : Int := if i.b = true then bits .or .i64 (putR e i) e.e0 else putR e i
def firstP (e : Row) (i : In) : Int := e.d + (i.o - e.f) * pwR e.a + putB e i
def rdR (e : Row) (w : Int) : In := ⟨opR e.f e.a (restR w e), !decide (bits .and .i64 w e.e0 = 0), takeR w e.e1 / 8 % 8, takeR w e.e1 % 8, 0, takeR w e.e2 / 8 % 8, takeR w e.e2 % 8, 0, takeR w e.e3, numR e.e4 e.e5 (takeR w e.e4)⟩

/-! ### Masks -/
theorem a4032 (n : Int) : bits .and .i64 n 4032 = n / 64 % 64 * 64 := i_and (c := 4032) (by decide) (field _ 6 6) (by intro h; omega)
theorem a448 (n : Int) : bits .and .i64 n 448 = n / 64 % 8 * 64 := i_and (c := 448) (by decide) (field _ 6 3) (by intro h; omega)
theorem a4095 (n : Int) : bits .and .i64 n 4095 = n % 4096 := i_and (c := 4095) (by decide) (Nat.and_two_pow_sub_one_eq_mod _ 12) (by intro h; omega)
theorem a32767 (n : Int) : bits .and .i64 n 32767 = n % 32768 := i_and (c := 32767) (by decide) (Nat.and_two_pow_sub_one_eq_mod _ 15) (by intro h; omega)
theorem a511 (n : Int) : bits .and .i64 n 511 = n % 512 := i_and (c := 511) (by decide) (Nat.and_two_pow_sub_one_eq_mod _ 9) (by intro h; omega)
theorem a0 (n : Int) : bits .and .i64 n 0 = 0 := i_and (c := 0) (by decide) (Nat.and_zero _) (by intro h; omega)
theorem takeR_bd (w f : Int) (hf : IsM f) : 0 ≤ takeR w f ∧ takeR w f ≤ 255 := by
  rcases hf with rfl | rfl | rfl | rfl | rfl | rfl | rfl <;> simp [takeR] <;> omega
end Go.Proofs.YtdbbnkjnmldnpaaGreatDoor

/-
  Boxes, the condition on the two tables, and the calls that move a field to and from its place. Condition: the tables read as the program's text lays them.
-/
namespace Go.Proofs.YtdbbnkjnmldnpaaGreatDoor
open Go.RowKit
set_option linter.unusedSimpArgs false
set_option maxHeartbeats 40000000
set_option maxRecDepth 100000

/-- The tables that the calls read: two cells of the table of math/bits, and the rows of forms. -/
structure Frm (A : Addr) (c : Nat) (w : World) : Prop where
  z0 : w.cell? ⟨11, 0, none⟩ = some (.int .u8 0)
  z6 : w.cell? ⟨11, 63, none⟩ = some (.int .u8 6)
  zl : 11 < w.heap.size
  gs : w.cell? ⟨7, 0, none⟩ = some (.slice (some A) 22 c)
  gl : 7 < w.heap.size
  al : A.block < w.heap.size
  at_ : ∀ (k : Nat) (e : Row), rows[k]? = some e → ∀ (j : Nat) (v : Int), [e.f, e.l, e.d, e.a, e.e0, e.e1, e.e2, e.e3, e.e4, e.e5][j]? = some v → w.cell? ((A.add (k * 10)).add j) = some (.int .i64 v)
theorem add_block (A : Addr) (k : Nat) : (A.add k).block = A.block := by unfold Addr.add; split <;> rfl
theorem Frm.step {A : Addr} {c : Nat} {w w' : World} (h : Frm A c w) (hb : Below w.heap.size w w') : Frm A c w' := {
  z0 := (hb.cell (p := ⟨11, 0, none⟩) h.zl).trans h.z0
  z6 := (hb.cell (p := ⟨11, 63, none⟩) h.zl).trans h.z6
  zl := Nat.lt_of_lt_of_le h.zl hb.size
  gs := (hb.cell (p := ⟨7, 0, none⟩) h.gl).trans h.gs
  gl := Nat.lt_of_lt_of_le h.gl hb.size
  al := Nat.lt_of_lt_of_le h.al hb.size
  at_ := fun k e hk j v hj => (hb.cell (p := (A.add (k * 10)).add j) (by rw [add_block, add_block]; exact h.al)).trans (h.at_ k e hk j v hj) }

/-- A box: what its cells hold. -/
structure At (B : Nat) (l : List Value) (w : World) : Prop where
  c : ∀ (k : Nat) (v : Value), l[k]? = some v → w.cell? ⟨B, k, none⟩ = some v
  fz : ∀ (k : Nat), w.frozen? ⟨B, k, none⟩ = false
  lt : B < w.heap.size
theorem At.step {B : Nat} {l : List Value} {w w' : World} (h : At B l w) (hb : Below w.heap.size w w') : At B l w' :=
  ⟨fun k v hv => (hb.cell (p := ⟨B, k, none⟩) h.lt).trans (h.c k v hv), fun k => (hb.frozen (p := ⟨B, k, none⟩) h.lt).trans (h.fz k), Nat.lt_of_lt_of_le h.lt hb.size⟩
theorem At.put (l : List Value) (t : TypeId) (w : World) : At w.heap.size l (w.alloc (.cells l.toArray t)) :=
  ⟨fun k v hv => by simp [hv], fun k => by simp, by simp⟩
theorem At.store {B : Nat} {l : List Value} {w : World} (h : At B l w) (k : Nat) (hk : k < l.length) (v : Value) : At B (l.set k v) (w.setCell ⟨B, k, none⟩ v) := by
  have hc := h.c k _ (List.getElem?_eq_getElem hk)
  refine ⟨fun j u hu => ?_, fun j => by simpa using h.fz j, by simpa using h.lt⟩
  by_cases e : k = j
  · subst e
    rw [List.getElem?_set_self (by simpa using hk)] at hu
    rw [← Option.some.inj hu]
    exact World.cell?_setCell_same (h := hc) ..
  · rw [List.getElem?_set_ne e] at hu
    exact (World.cell?_setCell_other _ _ _ _ (fun he => e (congrArg Addr.off he))).trans (h.c j u hu)
theorem At.store_ne {B C : Nat} {l : List Value} {w : World} (h : At B l w) (k : Nat) (v : Value) (hne : B ≠ C) : At B l (w.setCell ⟨C, k, none⟩ v) :=
  ⟨fun j u hu => (World.cell?_setCell_other _ _ _ _ (fun he => hne (congrArg Addr.block he).symm)).trans (h.c j u hu), fun j => by simpa using h.fz j, by simpa using h.lt⟩
/-- Boxes, the tables, and what lay below the call. -/
structure St (A : Addr) (c : Nat) (bs : List (Nat × List Value)) (w0 w : World) : Prop where
  bx : ∀ e ∈ bs, At e.1 e.2 w
  frm0 : Frm A c w0
  below : Below w0.heap.size w0 w
theorem St.frm {A : Addr} {c : Nat} {bs : List (Nat × List Value)} {w0 w : World} (h : St A c bs w0 w) : Frm A c w := h.frm0.step h.below
theorem St.start {A : Addr} {c : Nat} {w : World} (h : Frm A c w) : St A c [] w w := ⟨fun _ h => by simp at h, h, Below.refl _ _⟩
theorem St.step {A : Addr} {c : Nat} {bs : List (Nat × List Value)} {w0 w w' : World} (h : St A c bs w0 w) (hb : Below w.heap.size w w') : St A c bs w0 w' :=
  ⟨fun e he => (h.bx e he).step hb, h.frm0, h.below.trans (hb.mono h.below.size)⟩
theorem St.drew {A : Addr} {c : Nat} {bs : List (Nat × List Value)} {w0 w : World} (h : St A c bs w0 w) : St A c bs w0 w.drew := h.step (Below.refl _ _).drew
theorem St.put {A : Addr} {c : Nat} {bs : List (Nat × List Value)} {w0 w : World} (h : St A c bs w0 w) (l : List Value) (t : TypeId) : St A c ((w.heap.size, l) :: bs) w0 (w.alloc (.cells l.toArray t)) :=
  have hb : Below w.heap.size w (w.alloc (.cells l.toArray t)) := (Below.refl _ _).alloc (Nat.le_refl _) _
  ⟨fun e he => (List.mem_cons.1 he).elim (fun h1 => h1 ▸ At.put l t w) (fun h2 => (h.bx e h2).step hb), h.frm0, (h.step hb).below⟩
theorem St.put2 {A : Addr} {c : Nat} {w : World} (h : Frm A c w) (l1 l2 : List Value) (t1 t2 : TypeId) : St A c [(w.heap.size + 1, l2), (w.heap.size, l1)] w ((w.alloc (.cells l1.toArray t1)).alloc (.cells l2.toArray t2)) := by
  have k := ((St.start h).put l1 t1).put l2 t2
  have e : (w.alloc (.cells l1.toArray t1)).heap.size = w.heap.size + 1 := by simp
  rw [e] at k
  exact k
theorem St.at_ {A : Addr} {c : Nat} {bs : List (Nat × List Value)} {w0 w : World} (h : St A c bs w0 w) (i : Nat) {B : Nat} {l : List Value} (hb : bs[i]? = some (B, l)) : At B l w := h.bx (B, l) (List.mem_of_getElem? hb)
theorem St.c {A : Addr} {c : Nat} {bs : List (Nat × List Value)} {w0 w : World} (h : St A c bs w0 w) (i k : Nat) {B : Nat} {l : List Value} {v : Value} (hb : bs[i]? = some (B, l)) (hv : l[k]? = some v) : w.cell? ⟨B, k, none⟩ = some v :=
  (h.at_ i hb).c k v hv
theorem St.fz {A : Addr} {c : Nat} {bs : List (Nat × List Value)} {w0 w : World} (h : St A c bs w0 w) (i k : Nat) {B : Nat} {l : List Value} (hb : bs[i]? = some (B, l)) : w.frozen? ⟨B, k, none⟩ = false :=
  (h.at_ i hb).fz k
/-- All ten cells of a box at once. -/
theorem St.ten {A : Addr} {c : Nat} {bs : List (Nat × List Value)} {w0 w : World} (h : St A c bs w0 w) (i : Nat) {B : Nat} {v0 v1 v2 v3 v4 v5 v6 v7 v8 v9 : Value} (hb : bs[i]? = some (B, [v0, v1, v2, v3, v4, v5, v6, v7, v8, v9])) :
    w.cell? ⟨B, 0, none⟩ = some v0 ∧ w.cell? ⟨B, 1, none⟩ = some v1 ∧ w.cell? ⟨B, 2, none⟩ = some v2 ∧ w.cell? ⟨B, 3, none⟩ = some v3 ∧ w.cell? ⟨B, 4, none⟩ = some v4 ∧ w.cell? ⟨B, 5, none⟩ = some v5 ∧ w.cell? ⟨B, 6, none⟩ = some v6 ∧ w.cell? ⟨B, 7, none⟩ = some v7 ∧ w.cell? ⟨B, 8, none⟩ = some v8 ∧ w.cell? ⟨B, 9, none⟩ = some v9 :=
  ⟨h.c i 0 hb rfl, h.c i 1 hb rfl, h.c i 2 hb rfl, h.c i 3 hb rfl, h.c i 4 hb rfl, h.c i 5 hb rfl, h.c i 6 hb rfl, h.c i 7 hb rfl, h.c i 8 hb rfl, h.c i 9 hb rfl⟩
theorem St.tenz {A : Addr} {c : Nat} {bs : List (Nat × List Value)} {w0 w : World} (h : St A c bs w0 w) (i : Nat) {B : Nat} {l : List Value} (hb : bs[i]? = some (B, l)) :
    w.frozen? ⟨B, 0, none⟩ = false ∧ w.frozen? ⟨B, 1, none⟩ = false ∧ w.frozen? ⟨B, 2, none⟩ = false ∧ w.frozen? ⟨B, 3, none⟩ = false ∧ w.frozen? ⟨B, 4, none⟩ = false ∧ w.frozen? ⟨B, 5, none⟩ = false ∧ w.frozen? ⟨B, 6, none⟩ = false ∧ w.frozen? ⟨B, 7, none⟩ = false ∧ w.frozen? ⟨B, 8, none⟩ = false ∧ w.frozen? ⟨B, 9, none⟩ = false :=
  ⟨h.fz i 0 hb, h.fz i 1 hb, h.fz i 2 hb, h.fz i 3 hb, h.fz i 4 hb, h.fz i 5 hb, h.fz i 6 hb, h.fz i 7 hb, h.fz i 8 hb, h.fz i 9 hb⟩
/-- A store into a box. -/
theorem St.store {A : Addr} {c : Nat} {bs : List (Nat × List Value)} {w0 w : World} (h : St A c bs w0 w) (i k : Nat) (v : Value) {B : Nat} {l : List Value} (hb : bs[i]? = some (B, l)) (hk : k < l.length) (hlow : w0.heap.size ≤ B) (hne : ∀ j e, j ≠ i → bs[j]? = some e → e.1 ≠ B) :
    St A c (bs.set i (B, l.set k v)) w0 (w.setCell ⟨B, k, none⟩ v) := by
  refine ⟨fun e he => ?_, h.frm0, h.below.setCell hlow v⟩
  obtain ⟨j, hj⟩ := List.mem_iff_getElem?.1 he
  by_cases e1 : i = j
  · subst e1
    have hlt : i < bs.length := (List.getElem?_eq_some_iff.1 hb).1
    rw [List.getElem?_set_self (by simpa using hlt)] at hj
    rw [← Option.some.inj hj]
    exact (h.at_ i hb).store k hk v
  · rw [List.getElem?_set_ne e1] at hj
    exact (h.bx e (List.mem_of_getElem? hj)).store_ne k v (hne j e (fun h => e1 h.symm) hj)

theorem ne2 {B C : Nat} (h : B ≠ C) (l1 l2 : List Value) : ∀ j e, j ≠ 0 → [(C, l1), (B, l2)][j]? = some e → e.1 ≠ C := fun j e hj he => by
  rcases j with _ | _ | j
  · exact absurd rfl hj
  · have he' : some (B, l2) = some e := he
    rw [← Option.some.inj he']
    exact h
  · simp at he
theorem ne2b {B C : Nat} (h : B ≠ C) (l1 l2 : List Value) : ∀ j e, j ≠ 1 → [(C, l1), (B, l2)][j]? = some e → e.1 ≠ B := fun j e hj he => by
  rcases j with _ | _ | j
  · have he' : some (C, l1) = some e := he
    rw [← Option.some.inj he']
    exact fun h' => h h'.symm
  · exact absurd rfl hj
  · simp at he
theorem Frm.at0 {A : Addr} {c : Nat} {w : World} (h : Frm A c w) {k : Nat} {e : Row} (he : rows[k]? = some e) : w.cell? (A.add (k * 10)) = some (.int .i64 e.f) := h.at_ k e he 0 _ rfl
theorem Frm.atj {A : Addr} {c : Nat} {w : World} (h : Frm A c w) {k : Nat} {e : Row} (he : rows[k]? = some e) (j : Nat) (v : Int) (hj : [e.f, e.l, e.d, e.a, e.e0, e.e1, e.e2, e.e3, e.e4, e.e5][j]? = some v) (h0 : j ≠ 0) :
    w.cell? ⟨(A.add (k * 10)).block, (A.add (k * 10)).off + j, none⟩ = some (.int .i64 v) := by
  have := h.at_ k e he j v hj
  rwa [Addr.add, if_neg h0] at this
theorem end_box2 {P : Program} {fn : Func} {R : Ending → World → Prop} {a : Act} {w w0 : World} {v : Value} {A : Addr} {c C B : Nat} {l l' : List Value} {bs : List (Nat × List Value)} (hX : St A c ((C, l) :: (B, l') :: bs) w0 w)
    (hr : ∀ w', At C l w' → At B l' w' → (results fn a.tmps).run P w' = .ok v w') (hd : a.defers = []) (hR : R (.returned v) w) : bodyPost P fn R .ret a w := bodyPost_ret (hr w (hX.at_ 0 rfl) (hX.at_ 1 rfl)) hd hR
theorem end_box {P : Program} {fn : Func} {R : Ending → World → Prop} {a : Act} {w w0 : World} {v : Value} {A : Addr} {c C : Nat} {l : List Value} {bs : List (Nat × List Value)} (hX : St A c ((C, l) :: bs) w0 w)
    (hr : ∀ w', At C l w' → (results fn a.tmps).run P w' = .ok v w') (hd : a.defers = []) (hR : R (.returned v) w) : bodyPost P fn R .ret a w := bodyPost_ret (hr w (hX.at_ 0 rfl)) hd hR

theorem tz64_any (f : Int) (hf : IsM f) {A : Addr} {c : Nat} (w : World) (W : Frm A c w) : Calls Tryz.prog 103 #[.int .u64 f] w fun e w' => e = .returned (.int .i64 (tzR f)) ∧ Below w.heap.size w w' := by
  have z0 := W.z0
  have z6 := W.z6
  rcases hf with rfl | rfl | rfl | rfl | rfl | rfl | rfl
  · have V1 : IntKind.u64.wrap (-4032) = 18446744073709547584 := by decide +kernel
    have A1 : bits .and .u64 4032 18446744073709547584 = 64 := by decide +kernel
    have V2 : IntKind.u64.wrap (64 * 285870213051353865) = 18295693635286647360 := by decide +kernel
    go_enter Tryz.func103, Tryz.ntmps103
    go_wp2
    go_ret
    exact ⟨rfl, Below.refl _ _⟩
  · have V1 : IntKind.u64.wrap (-448) = 18446744073709551168 := by decide +kernel
    have A1 : bits .and .u64 448 18446744073709551168 = 64 := by decide +kernel
    have V2 : IntKind.u64.wrap (64 * 285870213051353865) = 18295693635286647360 := by decide +kernel
    go_enter Tryz.func103, Tryz.ntmps103
    go_wp2
    go_ret
    exact ⟨rfl, Below.refl _ _⟩
  · have V1 : IntKind.u64.wrap (-63) = 18446744073709551553 := by decide +kernel
    have A1 : bits .and .u64 63 18446744073709551553 = 1 := by decide +kernel
    go_enter Tryz.func103, Tryz.ntmps103
    go_wp2
    go_ret
    exact ⟨rfl, Below.refl _ _⟩
  · have V1 : IntKind.u64.wrap (-7) = 18446744073709551609 := by decide +kernel
    have A1 : bits .and .u64 7 18446744073709551609 = 1 := by decide +kernel
    go_enter Tryz.func103, Tryz.ntmps103
    go_wp2
    go_ret
    exact ⟨rfl, Below.refl _ _⟩
  · have V1 : IntKind.u64.wrap (-255) = 18446744073709551361 := by decide +kernel
    have A1 : bits .and .u64 255 18446744073709551361 = 1 := by decide +kernel
    go_enter Tryz.func103, Tryz.ntmps103
    go_wp2
    go_ret
    exact ⟨rfl, Below.refl _ _⟩
  · have V1 : IntKind.u64.wrap (-15) = 18446744073709551601 := by decide +kernel
    have A1 : bits .and .u64 15 18446744073709551601 = 1 := by decide +kernel
    go_enter Tryz.func103, Tryz.ntmps103
    go_wp2
    go_ret
    exact ⟨rfl, Below.refl _ _⟩
  · go_enter Tryz.func103, Tryz.ntmps103
    go_wp2
    go_ret
    exact ⟨rfl, Below.refl _ _⟩
theorem tz_any (f : Int) (hf : IsM f) {A : Addr} {c : Nat} (w : World) (W : Frm A c w) : Calls Tryz.prog 97 #[.int .u64 f] w fun e w' => e = .returned (.int .i64 (tzR f)) ∧ Below w.heap.size w w' := by
  have h := tz64_any f hf w W
  go_enter Tryz.func97, Tryz.ntmps97
  go_wp2_with (first | (go_at_call 103; with_reducible refine h.mono ?_; rintro e w' ⟨rfl, hb⟩))
  go_ret
  exact ⟨rfl, hb⟩

end Go.Proofs.YtdbbnkjnmldnpaaGreatDoor
