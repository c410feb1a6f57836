/-
  Walks over formOf and read: the two loops over the table of forms. Condition: the tables read as the program's text lays them.
-/
import Derived.Test.YtdbbnkjnmldnpaaGreatDoorInF
import Derived.Test.YtdbbnkjnmldnpaaGreatDoorInD
import Derived.Test.YtdbbnkjnmldnpaaGreatDoorInP
namespace Go.Proofs.YtdbbnkjnmldnpaaGreatDoor
open Go.RowKit
set_option linter.unusedSimpArgs false
set_option linter.unusedVariables false
set_option maxHeartbeats 40000000
set_option maxRecDepth 100000
attribute [local irreducible] wpQuiet

def fillW (w : World) (B : Nat) : Nat → List Value → World
  | _, [] => w
  | k, v :: t => fillW (w.setCell ⟨B, k, none⟩ v) B (k + 1) t
def fillL (l : List Value) : Nat → List Value → List Value
  | _, [] => l
  | k, v :: t => fillL (l.set k v) (k + 1) t
theorem St.fillFrom {A : Addr} {c i B : Nat} {w0 : World} (hlow : w0.heap.size ≤ B) : ∀ (vs : List Value) (k : Nat) (bs : List (Nat × List Value)) (l : List Value) (w : World), St A c bs w0 w → bs[i]? = some (B, l) → k + vs.length ≤ l.length → (∀ e ∈ bs.eraseIdx i, e.1 ≠ B) →
    St A c (bs.set i (B, fillL l k vs)) w0 (fillW w B k vs)
  | [], k, bs, l, w, h, hb, _, _ => by
    obtain ⟨hi, hget⟩ := List.getElem?_eq_some_iff.1 hb
    have e : bs.set i bs[i] = bs := List.set_getElem_self hi
    rw [hget] at e
    show St A c (bs.set i (B, l)) w0 w
    rw [e]; exact h
  | v :: t, k, bs, l, w, h, hb, hk, hne => by
    have hi : i < bs.length := (List.getElem?_eq_some_iff.1 hb).1
    have hk' : k + (t.length + 1) ≤ l.length := hk
    have h1 := h.store i k v hb (by omega) hlow (fun j e hj he => hne e (List.mem_eraseIdx_iff_getElem?.2 ⟨j, hj, he⟩))
    have h2 := St.fillFrom hlow t (k + 1) (bs.set i (B, l.set k v)) (l.set k v) _ h1 (by rw [List.getElem?_set_self hi]) (by rw [List.length_set]; omega) (by rw [List.eraseIdx_set_eq]; exact hne)
    rw [List.set_set] at h2
    exact h2
theorem St.fill {A : Addr} {c : Nat} {bs : List (Nat × List Value)} {w0 w : World} (h : St A c bs w0 w) (i : Nat) (vs : List Value) {B : Nat} {l : List Value} (hb : bs[i]? = some (B, l)) (hk : vs.length ≤ l.length) (hlow : w0.heap.size ≤ B) (hne : ∀ e ∈ bs.eraseIdx i, e.1 ≠ B) :
    St A c (bs.set i (B, fillL l 0 vs)) w0 (fillW w B 0 vs) := St.fillFrom hlow vs 0 bs l w h hb (by omega) hne

theorem end_at {P : Program} {fn : Func} {R : Ending → World → Prop} {a : Act} {w w0 : World} {v : Value} {A : Addr} {c C B : Nat} {l l' : List Value} {bs : List (Nat × List Value)} (hX : St A c bs w0 w) (i j : Nat) (hb : bs[i]? = some (C, l)) (hb' : bs[j]? = some (B, l'))
    (hr : ∀ w', At C l w' → At B l' w' → (results fn a.tmps).run P w' = .ok v w') (hd : a.defers = []) (hR : R (.returned v) w) : bodyPost P fn R .ret a w := bodyPost_ret (hr w (hX.at_ i hb) (hX.at_ j hb')) hd hR

theorem drop_find {α : Type} {p : α → Bool} {l : List α} {k : Nat} {e : α} (h : l[k]? = some e) : (l.drop k).find? p = if p e = true then some e else (l.drop (k + 1)).find? p := by
  obtain ⟨hk, he⟩ := List.getElem?_eq_some_iff.1 h
  rw [List.drop_eq_getElem_cons hk, List.find?_cons, he]
  cases p e <;> rfl
def rowV (F : Option Row) : Value := match F with | some e => .agg #[.int .i64 e.f, .int .i64 e.l, .int .i64 e.d, .int .i64 e.a, .int .i64 e.e0, .int .i64 e.e1, .int .i64 e.e2, .int .i64 e.e3, .int .i64 e.e4, .int .i64 e.e5] | none => .agg #[.int .i64 0, .int .i64 0, .int .i64 0, .int .i64 0, .int .i64 0, .int .i64 0, .int .i64 0, .int .i64 0, .int .i64 0, .int .i64 0]

theorem formOf_any (o : Int) (F : Option Row) (hF : formR o = F) {A : Addr} {c : Nat} (W0 : World) (W : Frm A c W0) :
    Calls Tryz.prog 43 #[.int .i64 o] W0 fun e w' => e = .returned (.tuple #[rowV F, .bool F.isSome]) ∧ Below W0.heap.size W0 w' := by
  have hX := (St.start W).put [.int .i64 0, .int .i64 0, .int .i64 0, .int .i64 0, .int .i64 0, .int .i64 0, .int .i64 0, .int .i64 0, .int .i64 0, .int .i64 0] 69
  have gs := hX.frm.gs
  go_enter Tryz.func43, Tryz.ntmps43
  go_wp2
  generalize W0.alloc (.cells #[.int .i64 0, .int .i64 0, .int .i64 0, .int .i64 0, .int .i64 0, .int .i64 0, .int .i64 0, .int .i64 0, .int .i64 0, .int .i64 0] 69) = w1 at *
  generalize hBB : W0.heap.size = B at hX ⊢
  go_loopw [7] (fun i wr => ∃ k : Nat, k ≤ 22 ∧ i = .int .i64 k ∧ St A c [(B, [.int .i64 0, .int .i64 0, .int .i64 0, .int .i64 0, .int .i64 0, .int .i64 0, .int .i64 0, .int .i64 0, .int .i64 0, .int .i64 0])] W0 wr ∧ (rows.drop k).find? (pf o) = F)
    (fun i _ => match i with | .int _ q => 22 - q.toNat | _ => 0)
  case atStart => exact ⟨0, Nat.zero_le _, rfl, hX, hF⟩
  case round =>
    obtain ⟨k, hk, rfl, hX, hF⟩ := hrel
    by_cases hkl : k < 22
    · obtain ⟨e, he⟩ : ∃ e, rows[k]? = some e := ⟨_, List.getElem?_eq_getElem (show k < rows.length from hkl)⟩
      rw [drop_find he] at hF
      have gs := hX.frm.gs
      have hq := hX.frm.at_ k e he
      have q0 : wr.cell? (A.add (k * 10)) = _ := hq 0 _ rfl
      have q1 : wr.cell? ⟨(A.add (k * 10)).block, (A.add (k * 10)).off + 1, none⟩ = _ := hq 1 _ rfl
      have q2 : wr.cell? ⟨(A.add (k * 10)).block, (A.add (k * 10)).off + 2, none⟩ = _ := hq 2 _ rfl
      have q3 : wr.cell? ⟨(A.add (k * 10)).block, (A.add (k * 10)).off + 3, none⟩ = _ := hq 3 _ rfl
      have q4 : wr.cell? ⟨(A.add (k * 10)).block, (A.add (k * 10)).off + 4, none⟩ = _ := hq 4 _ rfl
      have q5 : wr.cell? ⟨(A.add (k * 10)).block, (A.add (k * 10)).off + 5, none⟩ = _ := hq 5 _ rfl
      have q6 : wr.cell? ⟨(A.add (k * 10)).block, (A.add (k * 10)).off + 6, none⟩ = _ := hq 6 _ rfl
      have q7 : wr.cell? ⟨(A.add (k * 10)).block, (A.add (k * 10)).off + 7, none⟩ = _ := hq 7 _ rfl
      have q8 : wr.cell? ⟨(A.add (k * 10)).block, (A.add (k * 10)).off + 8, none⟩ = _ := hq 8 _ rfl
      have q9 : wr.cell? ⟨(A.add (k * 10)).block, (A.add (k * 10)).off + 9, none⟩ = _ := hq 9 _ rfl
      clear hq
      have b0 : (0 : Int) ≤ (k : Int) := by omega
      have b1 : (k : Int) < 22 := by omega
      by_cases h1 : e.f ≤ o
      · by_cases h2 : o ≤ e.l
        · have hp : pf o e = true := by unfold pf; rw [decide_eq_true h1, decide_eq_true h2]; rfl
          rw [hp, if_pos rfl] at hF
          subst hF
          obtain ⟨z0, z1, z2, z3, z4, z5, z6, z7, z8, z9⟩ := hX.tenz 0 rfl; obtain ⟨c0, c1, c2, c3, c4, c5, c6, c7, c8, c9⟩ := hX.ten 0 rfl
          go_wp2
          have hlow : W0.heap.size ≤ B := by omega
          have hX : St A c [(B, [.int .i64 e.f, .int .i64 e.l, .int .i64 e.d, .int .i64 e.a, .int .i64 e.e0, .int .i64 e.e1, .int .i64 e.e2, .int .i64 e.e3, .int .i64 e.e4, .int .i64 e.e5])] W0 _ := hX.fill 0 [.int .i64 e.f, .int .i64 e.l, .int .i64 e.d, .int .i64 e.a, .int .i64 e.e0, .int .i64 e.e1, .int .i64 e.e2, .int .i64 e.e3, .int .i64 e.e4, .int .i64 e.e5] rfl (Nat.le_refl _) hlow (by simp)
          (try simp only [Exit.inBlock, Exit.then]); refine end_box (v := .tuple #[.agg #[.int .i64 e.f, .int .i64 e.l, .int .i64 e.d, .int .i64 e.a, .int .i64 e.e0, .int .i64 e.e1, .int .i64 e.e2, .int .i64 e.e3, .int .i64 e.e4, .int .i64 e.e5], .bool true]) hX (fun w5 k => ?_) rfl ⟨rfl, by first | exact hX.below | exact hBB ▸ hX.below⟩
          have c0 := k.c 0 _ rfl
          have c1 := k.c 1 _ rfl
          have c2 := k.c 2 _ rfl
          have c3 := k.c 3 _ rfl
          have c4 := k.c 4 _ rfl
          have c5 := k.c 5 _ rfl
          have c6 := k.c 6 _ rfl
          have c7 := k.c 7 _ rfl
          have c8 := k.c 8 _ rfl
          have c9 := k.c 9 _ rfl
          simp [results, Tryz.results43, go_sem, c0, c1, c2, c3, c4, c5, c6, c7, c8, c9]
        · have hp : pf o e = false := by unfold pf; rw [decide_eq_false h2, Bool.and_false]
          rw [hp, if_neg (by decide)] at hF
          go_wp2
          refine ⟨⟨k + 1, by omega, by go_num, hX, hF⟩, ?_⟩
          simp only; omega
      · have hp : pf o e = false := by unfold pf; rw [decide_eq_false h1, Bool.false_and]
        rw [hp, if_neg (by decide)] at hF
        go_wp2
        refine ⟨⟨k + 1, by omega, by go_num, hX, hF⟩, ?_⟩
        simp only; omega
    · have h22 : k = 22 := by omega
      subst h22
      have hF : none = F := hF
      subst hF
      obtain ⟨z0, z1, z2, z3, z4, z5, z6, z7, z8, z9⟩ := hX.tenz 0 rfl; obtain ⟨c0, c1, c2, c3, c4, c5, c6, c7, c8, c9⟩ := hX.ten 0 rfl
      go_wp2
      have hlow : W0.heap.size ≤ B := by omega
      have hX : St A c [(B, [.int .i64 0, .int .i64 0, .int .i64 0, .int .i64 0, .int .i64 0, .int .i64 0, .int .i64 0, .int .i64 0, .int .i64 0, .int .i64 0])] W0 _ := hX.fill 0 [.int .i64 0, .int .i64 0, .int .i64 0, .int .i64 0, .int .i64 0, .int .i64 0, .int .i64 0, .int .i64 0, .int .i64 0, .int .i64 0] rfl (Nat.le_refl _) hlow (by simp)
      (try simp only [Exit.inBlock, Exit.then]); refine end_box (v := .tuple #[.agg #[.int .i64 0, .int .i64 0, .int .i64 0, .int .i64 0, .int .i64 0, .int .i64 0, .int .i64 0, .int .i64 0, .int .i64 0, .int .i64 0], .bool false]) hX (fun w5 k => ?_) rfl ⟨rfl, by first | exact hX.below | exact hBB ▸ hX.below⟩
      have c0 := k.c 0 _ rfl
      have c1 := k.c 1 _ rfl
      have c2 := k.c 2 _ rfl
      have c3 := k.c 3 _ rfl
      have c4 := k.c 4 _ rfl
      have c5 := k.c 5 _ rfl
      have c6 := k.c 6 _ rfl
      have c7 := k.c 7 _ rfl
      have c8 := k.c 8 _ rfl
      have c9 := k.c 9 _ rfl
      simp [results, Tryz.results43, go_sem, c0, c1, c2, c3, c4, c5, c6, c7, c8, c9]

theorem read_none (w : Int) (h0 : 0 ≤ w) (h1 : w ≤ 65535) (hF : readR w = none) {A : Addr} {c : Nat} (W0 : World) (W : Frm A c W0) :
    Calls Tryz.prog 51 #[.int .i64 w] W0 fun e w' => e = .returned (.tuple #[.agg #[.int .i64 0, .bool false, .int .i64 0, .int .i64 0, .int .i64 0, .int .i64 0, .int .i64 0, .int .i64 0, .int .i64 0, .int .i64 0], .agg #[.int .i64 0, .int .i64 0, .int .i64 0, .int .i64 0, .int .i64 0, .int .i64 0, .int .i64 0, .int .i64 0, .int .i64 0, .int .i64 0], .bool false]) ∧ Below W0.heap.size W0 w' := by
  have hX := St.put2 W [.int .i64 0, .bool false, .int .i64 0, .int .i64 0, .int .i64 0, .int .i64 0, .int .i64 0, .int .i64 0, .int .i64 0, .int .i64 0] [.int .i64 0, .int .i64 0, .int .i64 0, .int .i64 0, .int .i64 0, .int .i64 0, .int .i64 0, .int .i64 0, .int .i64 0, .int .i64 0] 36 69
  have gs := hX.frm.gs
  go_enter Tryz.func51, Tryz.ntmps51
  go_wp2
  generalize (W0.alloc (.cells #[.int .i64 0, .bool false, .int .i64 0, .int .i64 0, .int .i64 0, .int .i64 0, .int .i64 0, .int .i64 0, .int .i64 0, .int .i64 0] 36)).alloc (.cells #[.int .i64 0, .int .i64 0, .int .i64 0, .int .i64 0, .int .i64 0, .int .i64 0, .int .i64 0, .int .i64 0, .int .i64 0, .int .i64 0] 69) = w1 at *
  generalize hCC : W0.heap.size + 1 = C at hX ⊢
  generalize hBB : W0.heap.size = B at hX ⊢
  go_loopw [11] (fun i wr => ∃ k : Nat, k ≤ 22 ∧ i = .int .i64 k ∧ St A c [(C, [.int .i64 0, .int .i64 0, .int .i64 0, .int .i64 0, .int .i64 0, .int .i64 0, .int .i64 0, .int .i64 0, .int .i64 0, .int .i64 0]), (B, [.int .i64 0, .bool false, .int .i64 0, .int .i64 0, .int .i64 0, .int .i64 0, .int .i64 0, .int .i64 0, .int .i64 0, .int .i64 0])] W0 wr ∧ (rows.drop k).find? (pw w) = none)
    (fun i _ => match i with | .int _ q => 22 - q.toNat | _ => 0)
  case atStart => exact ⟨0, Nat.zero_le _, rfl, hX, hF⟩
  case round =>
    obtain ⟨k, hk, rfl, hX, hF⟩ := hrel
    by_cases hkl : k < 22
    · obtain ⟨e, he⟩ : ∃ e, rows[k]? = some e := ⟨_, List.getElem?_eq_getElem (show k < rows.length from hkl)⟩
      rw [drop_find he] at hF
      have ok := row_ok (row_mem he)
      have hO := fun w' (k : Frm A c w') => operation_any e.f e.l e.d e.a e.e0 e.e1 e.e2 e.e3 e.e4 e.e5 w (restR w e) ok.a ok.f rfl (rest_bd h0 h1 (row_mem he)) w' k
      have hh : hitR e.f e.l e.a (restR w e) = pw w e := rfl
      rw [hh] at hO
      generalize pw w e = H at *
      clear hh
      have gs := hX.frm.gs
      have q0 := hX.frm.at0 he; have q1 := hX.frm.atj he 1 _ rfl (by decide); have q2 := hX.frm.atj he 2 _ rfl (by decide); have q3 := hX.frm.atj he 3 _ rfl (by decide); have q4 := hX.frm.atj he 4 _ rfl (by decide); have q5 := hX.frm.atj he 5 _ rfl (by decide); have q6 := hX.frm.atj he 6 _ rfl (by decide); have q7 := hX.frm.atj he 7 _ rfl (by decide); have q8 := hX.frm.atj he 8 _ rfl (by decide); have q9 := hX.frm.atj he 9 _ rfl (by decide)
      have b0 : (0 : Int) ≤ (k : Int) := by omega
      have b1 : (k : Int) < 22 := by omega
      cases H
      · rw [if_neg (by decide)] at hF
        go_wp2_with (first | (go_at_call 77; with_reducible refine (hO _ hX.frm).mono ?_; rintro _ w' ⟨rfl, hb⟩; have hX := hX.step hb; clear hb))
        refine ⟨⟨k + 1, by omega, by go_num, hX, hF⟩, ?_⟩
        simp only; omega
      · rw [if_pos rfl] at hF
        cases hF
    · have h22 : k = 22 := by omega
      subst h22
      clear hF
      obtain ⟨z0, z1, z2, z3, z4, z5, z6, z7, z8, z9⟩ := hX.tenz 0 rfl; obtain ⟨c0, c1, c2, c3, c4, c5, c6, c7, c8, c9⟩ := hX.ten 0 rfl; obtain ⟨y0, y1, y2, y3, y4, y5, y6, y7, y8, y9⟩ := hX.tenz 1 rfl; obtain ⟨d0, d1, d2, d3, d4, d5, d6, d7, d8, d9⟩ := hX.ten 1 rfl
      go_wp2
      have hlow : W0.heap.size ≤ B := by omega
      have hlow2 : W0.heap.size ≤ C := by omega
      have hne : B ≠ C := by omega
      have hX : St A c [(C, [.int .i64 0, .int .i64 0, .int .i64 0, .int .i64 0, .int .i64 0, .int .i64 0, .int .i64 0, .int .i64 0, .int .i64 0, .int .i64 0]), (B, [.int .i64 0, .bool false, .int .i64 0, .int .i64 0, .int .i64 0, .int .i64 0, .int .i64 0, .int .i64 0, .int .i64 0, .int .i64 0])] W0 _ := hX.fill 1 [.int .i64 0, .bool false, .int .i64 0, .int .i64 0, .int .i64 0, .int .i64 0, .int .i64 0, .int .i64 0, .int .i64 0, .int .i64 0] rfl (Nat.le_refl _) hlow (by simp; omega)
      have hX : St A c [(C, [.int .i64 0, .int .i64 0, .int .i64 0, .int .i64 0, .int .i64 0, .int .i64 0, .int .i64 0, .int .i64 0, .int .i64 0, .int .i64 0]), (B, [.int .i64 0, .bool false, .int .i64 0, .int .i64 0, .int .i64 0, .int .i64 0, .int .i64 0, .int .i64 0, .int .i64 0, .int .i64 0])] W0 _ := hX.fill 0 [.int .i64 0, .int .i64 0, .int .i64 0, .int .i64 0, .int .i64 0, .int .i64 0, .int .i64 0, .int .i64 0, .int .i64 0, .int .i64 0] rfl (Nat.le_refl _) hlow2 (by simp; omega)
      (try simp only [Exit.inBlock, Exit.then]); refine end_box2 (v := .tuple #[.agg #[.int .i64 0, .bool false, .int .i64 0, .int .i64 0, .int .i64 0, .int .i64 0, .int .i64 0, .int .i64 0, .int .i64 0, .int .i64 0], .agg #[.int .i64 0, .int .i64 0, .int .i64 0, .int .i64 0, .int .i64 0, .int .i64 0, .int .i64 0, .int .i64 0, .int .i64 0, .int .i64 0], .bool false]) hX (fun w5 k j => ?_) rfl ⟨rfl, by first | exact hX.below | exact hBB ▸ hX.below⟩
      have c0 := k.c 0 _ rfl
      have c1 := k.c 1 _ rfl
      have c2 := k.c 2 _ rfl
      have c3 := k.c 3 _ rfl
      have c4 := k.c 4 _ rfl
      have c5 := k.c 5 _ rfl
      have c6 := k.c 6 _ rfl
      have c7 := k.c 7 _ rfl
      have c8 := k.c 8 _ rfl
      have c9 := k.c 9 _ rfl
      have d0 := j.c 0 _ rfl
      have d1 := j.c 1 _ rfl
      have d2 := j.c 2 _ rfl
      have d3 := j.c 3 _ rfl
      have d4 := j.c 4 _ rfl
      have d5 := j.c 5 _ rfl
      have d6 := j.c 6 _ rfl
      have d7 := j.c 7 _ rfl
      have d8 := j.c 8 _ rfl
      have d9 := j.c 9 _ rfl
      simp [results, Tryz.results51, go_sem, c0, c1, c2, c3, c4, c5, c6, c7, c8, c9, d0, d1, d2, d3, d4, d5, d6, d7, d8, d9]

theorem read_some (w : Int) (h0 : 0 ≤ w) (h1 : w ≤ 65535) (e0 : Row) (hF : readR w = some e0) {A : Addr} {c : Nat} (W0 : World) (W : Frm A c W0) :
    Calls Tryz.prog 51 #[.int .i64 w] W0 fun e' w' => e' = .returned (.tuple #[.agg #[.int .i64 (opR e0.f e0.a (restR w e0)), .bool (!decide (bits .and .i64 w e0.e0 = 0)), .int .i64 (takeR w e0.e1 / 8 % 8), .int .i64 (takeR w e0.e1 % 8), .int .i64 0, .int .i64 (takeR w e0.e2 / 8 % 8), .int .i64 (takeR w e0.e2 % 8), .int .i64 0, .int .i64 (takeR w e0.e3), .int .i64 (numR e0.e4 e0.e5 (takeR w e0.e4))], .agg #[.int .i64 e0.f, .int .i64 e0.l, .int .i64 e0.d, .int .i64 e0.a, .int .i64 e0.e0, .int .i64 e0.e1, .int .i64 e0.e2, .int .i64 e0.e3, .int .i64 e0.e4, .int .i64 e0.e5], .bool true]) ∧ Below W0.heap.size W0 w' := by
  have hL := fun (ok : RowOk e0) w' (k : Frm A c w') => instread_any e0.f e0.l e0.d e0.a e0.e0 e0.e1 e0.e2 e0.e3 e0.e4 e0.e5 ok.e1 ok.e2 ok.e3 ok.e4 ok.e4b ok.e5 w ⟨h0, h1⟩ w' k
  generalize hOP : opR e0.f e0.a (restR w e0) = OP at *
  generalize (!decide (bits .and .i64 w e0.e0 = 0)) = BY at *
  generalize takeR w e0.e1 / 8 % 8 = M1 at *
  generalize takeR w e0.e1 % 8 = R1 at *
  generalize takeR w e0.e2 / 8 % 8 = M2 at *
  generalize takeR w e0.e2 % 8 = R2 at *
  generalize numR e0.e4 e0.e5 (takeR w e0.e4) = NN at *
  generalize takeR w e0.e3 = RR at *
  have hX := St.put2 W [.int .i64 0, .bool false, .int .i64 0, .int .i64 0, .int .i64 0, .int .i64 0, .int .i64 0, .int .i64 0, .int .i64 0, .int .i64 0] [.int .i64 0, .int .i64 0, .int .i64 0, .int .i64 0, .int .i64 0, .int .i64 0, .int .i64 0, .int .i64 0, .int .i64 0, .int .i64 0] 36 69
  have gs := hX.frm.gs
  go_enter Tryz.func51, Tryz.ntmps51
  go_wp2
  generalize (W0.alloc (.cells #[.int .i64 0, .bool false, .int .i64 0, .int .i64 0, .int .i64 0, .int .i64 0, .int .i64 0, .int .i64 0, .int .i64 0, .int .i64 0] 36)).alloc (.cells #[.int .i64 0, .int .i64 0, .int .i64 0, .int .i64 0, .int .i64 0, .int .i64 0, .int .i64 0, .int .i64 0, .int .i64 0, .int .i64 0] 69) = w1 at *
  generalize hCC : W0.heap.size + 1 = C at hX ⊢
  generalize hBB : W0.heap.size = B at hX ⊢
  go_loopw [11] (fun i wr => ∃ k : Nat, k ≤ 22 ∧ i = .int .i64 k ∧ St A c [(C, [.int .i64 0, .int .i64 0, .int .i64 0, .int .i64 0, .int .i64 0, .int .i64 0, .int .i64 0, .int .i64 0, .int .i64 0, .int .i64 0]), (B, [.int .i64 0, .bool false, .int .i64 0, .int .i64 0, .int .i64 0, .int .i64 0, .int .i64 0, .int .i64 0, .int .i64 0, .int .i64 0])] W0 wr ∧ (rows.drop k).find? (pw w) = some e0)
    (fun i _ => match i with | .int _ q => 22 - q.toNat | _ => 0)
  case atStart => exact ⟨0, Nat.zero_le _, rfl, hX, hF⟩
  case round =>
    obtain ⟨k, hk, rfl, hX, hF⟩ := hrel
    by_cases hkl : k < 22
    · obtain ⟨e, he⟩ : ∃ e, rows[k]? = some e := ⟨_, List.getElem?_eq_getElem (show k < rows.length from hkl)⟩
      rw [drop_find he] at hF
      have ok := row_ok (row_mem he)
      have hO := fun w' (k : Frm A c w') => operation_any e.f e.l e.d e.a e.e0 e.e1 e.e2 e.e3 e.e4 e.e5 w (restR w e) ok.a ok.f rfl (rest_bd h0 h1 (row_mem he)) w' k
      have hh : hitR e.f e.l e.a (restR w e) = pw w e := rfl
      rw [hh] at hO
      generalize pw w e = H at *
      clear hh
      have gs := hX.frm.gs
      have q0 := hX.frm.at0 he; have q1 := hX.frm.atj he 1 _ rfl (by decide); have q2 := hX.frm.atj he 2 _ rfl (by decide); have q3 := hX.frm.atj he 3 _ rfl (by decide); have q4 := hX.frm.atj he 4 _ rfl (by decide); have q5 := hX.frm.atj he 5 _ rfl (by decide); have q6 := hX.frm.atj he 6 _ rfl (by decide); have q7 := hX.frm.atj he 7 _ rfl (by decide); have q8 := hX.frm.atj he 8 _ rfl (by decide); have q9 := hX.frm.atj he 9 _ rfl (by decide)
      have b0 : (0 : Int) ≤ (k : Int) := by omega
      have b1 : (k : Int) < 22 := by omega
      cases H
      · rw [if_neg (by decide)] at hF
        clear hL
        go_wp2_with (first | (go_at_call 77; with_reducible refine (hO _ hX.frm).mono ?_; rintro _ w' ⟨rfl, hb⟩; have hX := hX.step hb; clear hb))
        refine ⟨⟨k + 1, by omega, by go_num, hX, hF⟩, ?_⟩
        simp only; omega
      · rw [if_pos rfl] at hF
        obtain rfl : e = e0 := Option.some.inj hF
        rw [hOP] at hO
        have hL := hL ok
        go_wp2_with (first | (go_at_call 77; with_reducible refine (hO _ hX.frm).mono ?_; rintro _ w' ⟨rfl, hb⟩; have hX := hX.step hb; clear hb; have gs := hX.frm.gs; have q0 := hX.frm.at0 he; have q1 := hX.frm.atj he 1 _ rfl (by decide); have q2 := hX.frm.atj he 2 _ rfl (by decide); have q3 := hX.frm.atj he 3 _ rfl (by decide); have q4 := hX.frm.atj he 4 _ rfl (by decide); have q5 := hX.frm.atj he 5 _ rfl (by decide); have q6 := hX.frm.atj he 6 _ rfl (by decide); have q7 := hX.frm.atj he 7 _ rfl (by decide); have q8 := hX.frm.atj he 8 _ rfl (by decide); have q9 := hX.frm.atj he 9 _ rfl (by decide)) | (go_at_call 78; with_reducible refine (hL _ hX.frm).mono ?_; rintro _ w' ⟨rfl, hb⟩; have hX := hX.step hb; clear hb; have gs := hX.frm.gs; have q0 := hX.frm.at0 he; have q1 := hX.frm.atj he 1 _ rfl (by decide); have q2 := hX.frm.atj he 2 _ rfl (by decide); have q3 := hX.frm.atj he 3 _ rfl (by decide); have q4 := hX.frm.atj he 4 _ rfl (by decide); have q5 := hX.frm.atj he 5 _ rfl (by decide); have q6 := hX.frm.atj he 6 _ rfl (by decide); have q7 := hX.frm.atj he 7 _ rfl (by decide); have q8 := hX.frm.atj he 8 _ rfl (by decide); have q9 := hX.frm.atj he 9 _ rfl (by decide)))
        have hlC : C < w'.heap.size := (hX.at_ 0 rfl).lt
        have hlB : B < w'.heap.size := (hX.at_ 1 rfl).lt
        have hX := hX.put [.int .i64 OP, .bool BY, .int .i64 M1, .int .i64 R1, .int .i64 0, .int .i64 M2, .int .i64 R2, .int .i64 0, .int .i64 RR, .int .i64 NN] 36
        have hlow : W0.heap.size ≤ B := by omega
        have hlow2 : W0.heap.size ≤ C := by omega
        have hne : B ≠ C := by omega
        generalize w'.alloc (.cells #[.int .i64 OP, .bool BY, .int .i64 M1, .int .i64 R1, .int .i64 0, .int .i64 M2, .int .i64 R2, .int .i64 0, .int .i64 RR, .int .i64 NN] 36) = w6 at *
        generalize w'.heap.size = D at *
        have gs := hX.frm.gs
        have q0 := hX.frm.at0 he; have q1 := hX.frm.atj he 1 _ rfl (by decide); have q2 := hX.frm.atj he 2 _ rfl (by decide); have q3 := hX.frm.atj he 3 _ rfl (by decide); have q4 := hX.frm.atj he 4 _ rfl (by decide); have q5 := hX.frm.atj he 5 _ rfl (by decide); have q6 := hX.frm.atj he 6 _ rfl (by decide); have q7 := hX.frm.atj he 7 _ rfl (by decide); have q8 := hX.frm.atj he 8 _ rfl (by decide); have q9 := hX.frm.atj he 9 _ rfl (by decide)
        obtain ⟨d0, d1, d2, d3, d4, d5, d6, d7, d8, d9⟩ := hX.ten 0 rfl
        have hS : ∀ l1 l2 w', St A c [(D, [.int .i64 OP, .bool BY, .int .i64 M1, .int .i64 R1, .int .i64 0, .int .i64 M2, .int .i64 R2, .int .i64 0, .int .i64 RR, .int .i64 NN]), (C, l1), (B, l2)] W0 w' → (w'.cell? ⟨7, 0, none⟩ = some (.slice (some A) 22 c) ∧ w'.cell? (A.add (k * 10)) = some (.int .i64 e.f) ∧ w'.cell? ⟨(A.add (k * 10)).block, (A.add (k * 10)).off + 1, none⟩ = some (.int .i64 e.l) ∧ w'.cell? ⟨(A.add (k * 10)).block, (A.add (k * 10)).off + 2, none⟩ = some (.int .i64 e.d) ∧ w'.cell? ⟨(A.add (k * 10)).block, (A.add (k * 10)).off + 3, none⟩ = some (.int .i64 e.a) ∧ w'.cell? ⟨(A.add (k * 10)).block, (A.add (k * 10)).off + 4, none⟩ = some (.int .i64 e.e0) ∧ w'.cell? ⟨(A.add (k * 10)).block, (A.add (k * 10)).off + 5, none⟩ = some (.int .i64 e.e1) ∧ w'.cell? ⟨(A.add (k * 10)).block, (A.add (k * 10)).off + 6, none⟩ = some (.int .i64 e.e2) ∧ w'.cell? ⟨(A.add (k * 10)).block, (A.add (k * 10)).off + 7, none⟩ = some (.int .i64 e.e3) ∧ w'.cell? ⟨(A.add (k * 10)).block, (A.add (k * 10)).off + 8, none⟩ = some (.int .i64 e.e4) ∧ w'.cell? ⟨(A.add (k * 10)).block, (A.add (k * 10)).off + 9, none⟩ = some (.int .i64 e.e5) ∧ w'.cell? ⟨D, 0, none⟩ = some (.int .i64 OP) ∧ w'.cell? ⟨D, 1, none⟩ = some (.bool BY) ∧ w'.cell? ⟨D, 2, none⟩ = some (.int .i64 M1) ∧ w'.cell? ⟨D, 3, none⟩ = some (.int .i64 R1) ∧ w'.cell? ⟨D, 4, none⟩ = some (.int .i64 0) ∧ w'.cell? ⟨D, 5, none⟩ = some (.int .i64 M2) ∧ w'.cell? ⟨D, 6, none⟩ = some (.int .i64 R2) ∧ w'.cell? ⟨D, 7, none⟩ = some (.int .i64 0) ∧ w'.cell? ⟨D, 8, none⟩ = some (.int .i64 RR) ∧ w'.cell? ⟨D, 9, none⟩ = some (.int .i64 NN)) := fun l1 l2 w' h => ⟨h.frm.gs, h.frm.at0 he, h.frm.atj he 1 _ rfl (by decide), h.frm.atj he 2 _ rfl (by decide), h.frm.atj he 3 _ rfl (by decide), h.frm.atj he 4 _ rfl (by decide), h.frm.atj he 5 _ rfl (by decide), h.frm.atj he 6 _ rfl (by decide), h.frm.atj he 7 _ rfl (by decide), h.frm.atj he 8 _ rfl (by decide), h.frm.atj he 9 _ rfl (by decide), h.c 0 0 rfl rfl, h.c 0 1 rfl rfl, h.c 0 2 rfl rfl, h.c 0 3 rfl rfl, h.c 0 4 rfl rfl, h.c 0 5 rfl rfl, h.c 0 6 rfl rfl, h.c 0 7 rfl rfl, h.c 0 8 rfl rfl, h.c 0 9 rfl rfl⟩
        obtain ⟨z0, z1, z2, z3, z4, z5, z6, z7, z8, z9⟩ := hX.tenz 1 rfl; obtain ⟨c0, c1, c2, c3, c4, c5, c6, c7, c8, c9⟩ := hX.ten 1 rfl; obtain ⟨y0, y1, y2, y3, y4, y5, y6, y7, y8, y9⟩ := hX.tenz 2 rfl; obtain ⟨b0, b1, b2, b3, b4, b5, b6, b7, b8, b9⟩ := hX.ten 2 rfl
        have hX5 : St A c [(D, [.int .i64 OP, .bool BY, .int .i64 M1, .int .i64 R1, .int .i64 0, .int .i64 M2, .int .i64 R2, .int .i64 0, .int .i64 RR, .int .i64 NN]), (C, [.int .i64 0, .int .i64 0, .int .i64 0, .int .i64 0, .int .i64 0, .int .i64 0, .int .i64 0, .int .i64 0, .int .i64 0, .int .i64 0]), (B, [.int .i64 OP, .bool BY, .int .i64 M1, .int .i64 R1, .int .i64 0, .int .i64 M2, .int .i64 R2, .int .i64 0, .int .i64 RR, .int .i64 NN])] W0 (((((((((((w6).setCell ⟨B, 0, none⟩ (.int .i64 OP)).setCell ⟨B, 1, none⟩ (.bool BY)).setCell ⟨B, 2, none⟩ (.int .i64 M1)).setCell ⟨B, 3, none⟩ (.int .i64 R1)).setCell ⟨B, 4, none⟩ (.int .i64 0)).setCell ⟨B, 5, none⟩ (.int .i64 M2)).setCell ⟨B, 6, none⟩ (.int .i64 R2)).setCell ⟨B, 7, none⟩ (.int .i64 0)).setCell ⟨B, 8, none⟩ (.int .i64 RR)).setCell ⟨B, 9, none⟩ (.int .i64 NN)) := hX.fill 2 [.int .i64 OP, .bool BY, .int .i64 M1, .int .i64 R1, .int .i64 0, .int .i64 M2, .int .i64 R2, .int .i64 0, .int .i64 RR, .int .i64 NN] rfl (Nat.le_refl _) hlow (by simp; omega)
        have hS5 := hS _ _ _ hX5.drew
        have hS0 := hS _ _ _ hX.drew
        have hX6 : St A c [(D, [.int .i64 OP, .bool BY, .int .i64 M1, .int .i64 R1, .int .i64 0, .int .i64 M2, .int .i64 R2, .int .i64 0, .int .i64 RR, .int .i64 NN]), (C, [.int .i64 e.f, .int .i64 e.l, .int .i64 e.d, .int .i64 e.a, .int .i64 e.e0, .int .i64 e.e1, .int .i64 e.e2, .int .i64 e.e3, .int .i64 e.e4, .int .i64 e.e5]), (B, [.int .i64 OP, .bool BY, .int .i64 M1, .int .i64 R1, .int .i64 0, .int .i64 M2, .int .i64 R2, .int .i64 0, .int .i64 RR, .int .i64 NN])] W0 (((((((((((((((((((((w6).setCell ⟨B, 0, none⟩ (.int .i64 OP)).setCell ⟨B, 1, none⟩ (.bool BY)).setCell ⟨B, 2, none⟩ (.int .i64 M1)).setCell ⟨B, 3, none⟩ (.int .i64 R1)).setCell ⟨B, 4, none⟩ (.int .i64 0)).setCell ⟨B, 5, none⟩ (.int .i64 M2)).setCell ⟨B, 6, none⟩ (.int .i64 R2)).setCell ⟨B, 7, none⟩ (.int .i64 0)).setCell ⟨B, 8, none⟩ (.int .i64 RR)).setCell ⟨B, 9, none⟩ (.int .i64 NN)).setCell ⟨C, 0, none⟩ (.int .i64 e.f)).setCell ⟨C, 1, none⟩ (.int .i64 e.l)).setCell ⟨C, 2, none⟩ (.int .i64 e.d)).setCell ⟨C, 3, none⟩ (.int .i64 e.a)).setCell ⟨C, 4, none⟩ (.int .i64 e.e0)).setCell ⟨C, 5, none⟩ (.int .i64 e.e1)).setCell ⟨C, 6, none⟩ (.int .i64 e.e2)).setCell ⟨C, 7, none⟩ (.int .i64 e.e3)).setCell ⟨C, 8, none⟩ (.int .i64 e.e4)).setCell ⟨C, 9, none⟩ (.int .i64 e.e5)) := hX5.fill 1 [.int .i64 e.f, .int .i64 e.l, .int .i64 e.d, .int .i64 e.a, .int .i64 e.e0, .int .i64 e.e1, .int .i64 e.e2, .int .i64 e.e3, .int .i64 e.e4, .int .i64 e.e5] rfl (Nat.le_refl _) hlow2 (by simp; omega)
        have hS6 := hS _ _ _ hX6.drew
        clear hL hO
        go_region_held3 (fun w' => w'.cell? ⟨7, 0, none⟩ = some (.slice (some A) 22 c) ∧ w'.cell? (A.add (k * 10)) = some (.int .i64 e.f) ∧ w'.cell? ⟨(A.add (k * 10)).block, (A.add (k * 10)).off + 1, none⟩ = some (.int .i64 e.l) ∧ w'.cell? ⟨(A.add (k * 10)).block, (A.add (k * 10)).off + 2, none⟩ = some (.int .i64 e.d) ∧ w'.cell? ⟨(A.add (k * 10)).block, (A.add (k * 10)).off + 3, none⟩ = some (.int .i64 e.a) ∧ w'.cell? ⟨(A.add (k * 10)).block, (A.add (k * 10)).off + 4, none⟩ = some (.int .i64 e.e0) ∧ w'.cell? ⟨(A.add (k * 10)).block, (A.add (k * 10)).off + 5, none⟩ = some (.int .i64 e.e1) ∧ w'.cell? ⟨(A.add (k * 10)).block, (A.add (k * 10)).off + 6, none⟩ = some (.int .i64 e.e2) ∧ w'.cell? ⟨(A.add (k * 10)).block, (A.add (k * 10)).off + 7, none⟩ = some (.int .i64 e.e3) ∧ w'.cell? ⟨(A.add (k * 10)).block, (A.add (k * 10)).off + 8, none⟩ = some (.int .i64 e.e4) ∧ w'.cell? ⟨(A.add (k * 10)).block, (A.add (k * 10)).off + 9, none⟩ = some (.int .i64 e.e5) ∧ w'.cell? ⟨D, 0, none⟩ = some (.int .i64 OP) ∧ w'.cell? ⟨D, 1, none⟩ = some (.bool BY) ∧ w'.cell? ⟨D, 2, none⟩ = some (.int .i64 M1) ∧ w'.cell? ⟨D, 3, none⟩ = some (.int .i64 R1) ∧ w'.cell? ⟨D, 4, none⟩ = some (.int .i64 0) ∧ w'.cell? ⟨D, 5, none⟩ = some (.int .i64 M2) ∧ w'.cell? ⟨D, 6, none⟩ = some (.int .i64 R2) ∧ w'.cell? ⟨D, 7, none⟩ = some (.int .i64 0) ∧ w'.cell? ⟨D, 8, none⟩ = some (.int .i64 RR) ∧ w'.cell? ⟨D, 9, none⟩ = some (.int .i64 NN)) (first | with_reducible exact hS0 | with_reducible exact hS5 | with_reducible exact hS6) ((first | fail))
        go_wp2_with fail
        have hX := hX6.drew
        (try simp only [Exit.inBlock, Exit.then]); refine end_at (v := .tuple #[.agg #[.int .i64 OP, .bool BY, .int .i64 M1, .int .i64 R1, .int .i64 0, .int .i64 M2, .int .i64 R2, .int .i64 0, .int .i64 RR, .int .i64 NN], .agg #[.int .i64 e.f, .int .i64 e.l, .int .i64 e.d, .int .i64 e.a, .int .i64 e.e0, .int .i64 e.e1, .int .i64 e.e2, .int .i64 e.e3, .int .i64 e.e4, .int .i64 e.e5], .bool true]) hX 1 2 rfl rfl (fun w5 k j => ?_) rfl ⟨rfl, by first | exact hX.below | exact hBB ▸ hX.below⟩
        have c0 := k.c 0 _ rfl
        have c1 := k.c 1 _ rfl
        have c2 := k.c 2 _ rfl
        have c3 := k.c 3 _ rfl
        have c4 := k.c 4 _ rfl
        have c5 := k.c 5 _ rfl
        have c6 := k.c 6 _ rfl
        have c7 := k.c 7 _ rfl
        have c8 := k.c 8 _ rfl
        have c9 := k.c 9 _ rfl
        have d0 := j.c 0 _ rfl
        have d1 := j.c 1 _ rfl
        have d2 := j.c 2 _ rfl
        have d3 := j.c 3 _ rfl
        have d4 := j.c 4 _ rfl
        have d5 := j.c 5 _ rfl
        have d6 := j.c 6 _ rfl
        have d7 := j.c 7 _ rfl
        have d8 := j.c 8 _ rfl
        have d9 := j.c 9 _ rfl
        simp [results, Tryz.results51, go_sem, c0, c1, c2, c3, c4, c5, c6, c7, c8, c9, d0, d1, d2, d3, d4, d5, d6, d7, d8, d9]
    · have h22 : k = 22 := by omega
      subst h22
      cases hF

end Go.Proofs.YtdbbnkjnmldnpaaGreatDoor
