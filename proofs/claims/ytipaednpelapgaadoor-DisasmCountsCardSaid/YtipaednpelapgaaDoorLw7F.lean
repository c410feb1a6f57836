/-
  Walk over the statement DisasmCounts: whatever the input, it answers true. Condition: the tables read as the program's text lays them.
-/
import Derived.Test.YtipaednpelapgaaDoorMQ
import Derived.Test.YtipaednpelapgaaDoorDwX
namespace Go.Proofs.YtipaednpelapgaaDoor
open Go.RowKit
set_option linter.unusedSimpArgs false
set_option linter.unusedVariables false
set_option maxHeartbeats 40000000
set_option maxRecDepth 100000
attribute [local irreducible] wpQuiet

/-- A row of bytes that holds l, none of its cells frozen. -/
def Row8 (w : World) (A : Nat) (l : List UInt8) : Prop :=
  ∃ cs hi, w.heap[A]? = some (.cells cs 5 (cs.size, hi)) ∧ l.length ≤ cs.size ∧ ∀ j (h : j < l.length), cs[j]? = some (.int .u8 (l[j].toNat : Int))
theorem Row8.made (w : World) (s : ByteArray) (c : Nat) : Row8 (w.drew.alloc (.cells (bytesRow s c) 5 ((bytesRow s c).size, (bytesRow s c).size + 1))) w.heap.size s.data.toList := by
  refine ⟨bytesRow s c, _, heap_alloc_new w.drew _, ?_, fun j h => ?_⟩
  · simp [bytesRow]
  · have h' : j < s.data.size := h
    rw [bytesRow_at s c j h']
    rfl
theorem Row8.cell {w : World} {A : Nat} {l : List UInt8} (h : Row8 w A l) {j : Nat} (hj : j < l.length) : w.cell? ⟨A, j, none⟩ = some (.int .u8 ((l.getD j 0).toNat : Int)) := by
  obtain ⟨cs, hi, hb, _, hc⟩ := h
  rw [World.cell?]
  simp [hb, hc j hj, List.getD, hj]

theorem Row8.below {w w' : World} {A : Nat} {l : List UInt8} (h : Row8 w A l) (hb : Below w.heap.size w w') : Row8 w' A l := by
  obtain ⟨cs, hi, hA, hl, hc⟩ := h
  exact ⟨cs, hi, (hb.block _ (Array.getElem?_eq_some_iff.1 hA).1).trans hA, hl, hc⟩
theorem Txt.zero {w : World} {v : Value} (h : Txt w v []) : ∃ g c, v = .slice g 0 c := by
  obtain ⟨A, c, rfl, _⟩ := h
  exact ⟨A, c, rfl⟩
theorem Txt.ne {w : World} {v : Value} {l : List (List UInt8)} (h : Txt w v l) (hl : 0 < l.length) : ∃ g c, v = .slice (some ⟨g, 0, none⟩) l.length c ∧ g < w.heap.size ∧ ∀ j x, l[j]? = some x → w.cell? ⟨g, j, none⟩ = some (.string ⟨x.toArray⟩) := by
  obtain ⟨A, c, rfl, hc⟩ := h
  obtain ⟨g, rfl, hg, _⟩ := hc 0 l[0] (List.getElem?_eq_getElem hl)
  refine ⟨g, c, rfl, hg, fun j x hx => ?_⟩
  obtain ⟨g', h1, _, h2⟩ := hc j x hx
  cases h1
  exact h2

theorem counts_law (l : List Int) (v : Value) (a : Int) {A : Addr} {c : Nat} (W0 : World) (W : Dis A c W0) (hn : Nums .i64 W0 v l) (hm : l.length ≤ maxLen) (ha : 0 ≤ a ∧ a ≤ 65535) :
    Calls Tryd.prog 7 #[v, .int .u16 a] W0 fun e w' => e = .returned (.bool true) ∧ Below W0.heap.size W0 w' := by
  have hb0 := Below.refl W0.heap.size W0
  have h3 := fun w (D : Dis A c w) => alive_any w D
  have hA := a32767 a
  have hF0 : 0 ≤ a % 32768 := by omega
  have hF1 : a % 32768 < 32768 := by omega
  have hv0 := hn
  obtain ⟨aL, cL, rfl, _, _⟩ := hv0
  by_cases hbig : 100 < l.length
  · have hbi : (100 : Int) < (l.length : Int) := by omega
    go_enter Tryd.func7, Tryd.ntmps7
    go_wp2_with (first | (go_at_call 8; with_reducible refine (h3 _ (W.step hb0)).mono ?_; rintro e w' ⟨rfl, hb⟩; have hb0 := hb0.trans (hb.mono hb0.size); clear hb))
    go_ret
    exact ⟨rfl, hb0⟩
  have hbi : ¬ (100 : Int) < (l.length : Int) := by omega
  have hbj : (l.length : Int) ≤ 100 := by omega
  have h1 := fun w D (h : Nums .i64 w (.slice aL l.length cL) l) => dlines_any l _ (a % 32768) (by unfold maxLen at hm; omega) (A := A) (c := c) w D h
  have hs := Sq.of l.length l (a % 32768) (Nat.le_refl _)
  have hsl := Sq.len _ _ _ hs
  have hz : l = [] → lnT l.length l (a % 32768) = [] := fun h => by subst h; rfl
  have hne : 0 < l.length → 0 < (lnT l.length l (a % 32768)).length := fun h => by
    rw [lnT_step l _ h]; simp
  generalize lnT l.length l (a % 32768) = L at *
  generalize a % 32768 = F at *
  by_cases hl : l = []
  · subst hl
    rw [hz rfl] at h1
    clear hz hne hs hsl
    simp only [List.length_nil] at h1 hn
    go_enter Tryd.func7, Tryd.ntmps7
    go_wp2_with (first | (go_at_call 8; with_reducible refine (h3 _ (W.step hb0)).mono ?_; rintro e w' ⟨rfl, hb⟩; have hb0 := hb0.trans (hb.mono hb0.size); clear hb) | (go_at_call 18; with_reducible refine (h1 _ (W.step hb0) (hn.below hb0)).mono ?_; rintro e w1 ⟨u, rfl, hT, hb⟩; have hb0 := hb0.trans (hb.mono hb0.size); clear hb; obtain ⟨aU, cU, rfl⟩ := hT.zero))
    go_loopw [39] (fun i wr => i = .int .i64 0 ∧ Below W0.heap.size W0 wr) (fun _ _ => 0)
    case atStart => exact ⟨rfl, hb0⟩
    case round =>
      clear hb0
      obtain ⟨rfl, hb0⟩ := hrel
      go_wp2_with (first | (go_at_call 8; with_reducible refine (h3 _ (W.step hb0)).mono ?_; rintro e w' ⟨rfl, hb⟩; have hb0 := hb0.trans (hb.mono hb0.size); clear hb))
      go_ret
      exact ⟨rfl, hb0⟩
  · have hl0 : 0 < l.length := Nat.pos_of_ne_zero (fun h => hl (List.length_eq_zero_iff.1 h))
    have hL0 := hne hl0
    have e1 : ¬ (l.length : Int) = 0 := by omega
    have e2 : ((l.length : Int) == 0) = false := beq_false_of_ne e1
    have e3 : ¬ (L.length : Int) = 0 := by omega
    have e4 : ((L.length : Int) == 0) = false := beq_false_of_ne e3
    have e5 : ¬ (l.length : Int) < (L.length : Int) := by omega
    have e6 : (L.length : Int) ≤ (l.length : Int) := by omega
    clear hz hne hl
    go_enter Tryd.func7, Tryd.ntmps7
    go_wp2_with (first | (go_at_call 8; with_reducible refine (h3 _ (W.step hb0)).mono ?_; rintro e w' ⟨rfl, hb⟩; have hb0 := hb0.trans (hb.mono hb0.size); clear hb) | (go_at_call 18; with_reducible refine (h1 _ (W.step hb0) (hn.below hb0)).mono ?_; rintro e w1 ⟨u, rfl, hT, hb⟩; have hb0 := hb0.trans (hb.mono hb0.size); clear hb; obtain ⟨g, cU, rfl, hg, hT⟩ := hT.ne hL0))
    have e7 : decide (l.length < L.length) = false := by simp; omega
    rw [e7]
    clear e7
    go_loopw [7, 39] (fun la i wr => ∃ (k : Nat) (p α : Int), k ≤ L.length ∧ i = .int .i64 k ∧ la = .int .i64 p ∧ Hid (Sq (L.drop k) α (F + 2 * l.length)) ∧ F ≤ α ∧ Hid ((k = 0 ∧ p = -1 ∧ α = F) ∨ (0 < k ∧ 0 ≤ p ∧ (α - p = 2 ∨ α - p = 4 ∨ α - p = 6))) ∧ Below W0.heap.size W0 wr ∧ g < wr.heap.size ∧ Hid (∀ j x, L[j]? = some x → wr.cell? ⟨g, j, none⟩ = some (.string ⟨x.toArray⟩)))
      (fun _ i _ => L.length - (intOf i).toNat)
    case atStart => exact ⟨0, -1, F, by omega, rfl, rfl, hs, by omega, Or.inl ⟨rfl, rfl, rfl⟩, hb0, hg, hT⟩
    case round =>
      clear hb0 hT hg hs
      obtain ⟨k, p, α, hk, rfl, rfl, HQ, hFa, HP, hb0, hg, HT⟩ := hrel
      by_cases hkL : k = L.length
      · have q1 : α = F + 2 * l.length := Sq.nil HQ (by rw [hkL]; simp)
        have q2 : 0 ≤ p ∧ F + 2 * l.length - p ≤ 6 := by unfold Hid at HP; omega
        have q3 : F + 2 * l.length - p ≤ 6 := q2.2
        have q4 : 0 ≤ p := q2.1
        have q5 : ¬ (k : Int) < (L.length : Int) := by omega
        have q6 : p ≤ 40000 := by unfold Hid at HP; omega
        clear HQ HP HT q2
        go_wp2_with (first | (go_at_call 8; with_reducible refine (h3 _ (W.step hb0)).mono ?_; rintro e w' ⟨rfl, hb⟩; have hb0 := hb0.trans (hb.mono hb0.size); clear hb))
        go_ret
        exact ⟨rfl, hb0⟩
      · have hkl : k < L.length := by omega
        have hki : (k : Int) < (L.length : Int) := by omega
        have HQ2 : Sq (L.drop k) α (F + 2 * l.length) := HQ
        rw [List.drop_eq_getElem_cons hkl] at HQ2
        obtain ⟨T, n, hs, hT0, hn6, hle, HQ3⟩ := HQ2
        have hcT := HT k _ (List.getElem?_eq_getElem hkl)
        rw [hs] at hcT
        obtain ⟨U, rfl⟩ : ∃ U : Nat, α = (U : Int) := ⟨α.toNat, by omega⟩
        have hU : U < 65536 := by omega
        have hUE : (U : Int) < F + 2 * l.length := by omega
        have hUF : F ≤ (U : Int) := hFa
        have hal := adT_len (U : Int)
        have hdg := fun k (hk : k < 6) => ad_dig (a := (U : Int)) rfl hU hk
        have hXl : (⟨(adT (U : Int)).toArray⟩ : ByteArray).data.toList = adT (U : Int) := by simp
        have hXs := tx_size (adT (U : Int))
        rw [hal] at hXs
        have hSs := tx_size (adT (U : Int) ++ 32 :: T)
        have hSl : (adT (U : Int) ++ 32 :: T).length = T.length + 7 := by rw [List.length_append, List.length_cons, hal]; omega
        rw [hSl] at hSs
        have hix : ∀ h : 6 < (⟨(adT (U : Int) ++ 32 :: T).toArray⟩ : ByteArray).size, (⟨(adT (U : Int) ++ 32 :: T).toArray⟩ : ByteArray)[6]'h = 32 := fun h => by
          show (adT (U : Int) ++ 32 :: T).toArray[6]'_ = 32
          rw [List.getElem_toArray, List.getElem_append_right (by omega)]
          simp [hal]
        have hex : (⟨(adT (U : Int) ++ 32 :: T).toArray⟩ : ByteArray).extract 0 6 = ⟨(adT (U : Int)).toArray⟩ := by
          apply ByteArray.ext
          rw [ByteArray.data_extract]
          simp only [List.extract_toArray, List.drop_zero, Nat.sub_zero, List.extract_eq_take_drop]
          rw [List.take_left' hal]
        generalize (⟨(adT (U : Int) ++ 32 :: T).toArray⟩ : ByteArray) = S at *
        generalize (⟨(adT (U : Int)).toArray⟩ : ByteArray) = X at *
        obtain ⟨R, hR⟩ : ∃ R : World → Obj, R = fun w => .cells (bytesRow X (grownCap w X.size 0 5)) 5 ((bytesRow X (grownCap w X.size 0 5)).size, (bytesRow X (grownCap w X.size 0 5)).size + 1) := ⟨_, rfl⟩
        obtain ⟨C, hC⟩ : ∃ C : World → Nat, C = fun w => grownCap w X.size 0 5 := ⟨_, rfl⟩
        have hcv : ∀ w : World, (convert 9 42 (.string X)).run Tryd.prog w = .ok (.slice (some ⟨w.heap.size, 0, none⟩) X.size (C w)) (w.drew.alloc (R w)) := by
          intro w; rw [hC, hR]
          exact run_bytes_of_string (P := Tryd.prog) w 9 42 5 X Tryd.underlying9 Tryd.underlying42 Tryd.underlying5
        rw [hXs] at hcv
        have hrow : ∀ w : World, Row8 (w.alloc (R w)).drew w.heap.size (adT (U : Int)) := by
          intro w; rw [hR, ← hXl]; exact Row8.made w X _
        have hbel : ∀ w : World, Below w.heap.size w (w.alloc (R w)).drew := fun w => ((Below.refl _ _).alloc (Nat.le_refl _) (R w)).drew
        generalize adT (U : Int) = D at *
        clear hR hC hXl hs HQ
        go_wp2
        go_loopw [10, 56] (fun n i wq => ∃ j : Nat, j ≤ 6 ∧ i = .int .i64 j ∧ n = .int .i64 (av U j : Nat) ∧ Hid (Row8 wq wr.heap.size D) ∧ Below wr.heap.size wr wq)
          (fun _ i _ => 6 - (intOf i).toNat)
        case atStart => exact ⟨0, by omega, rfl, by rw [av_0 hU]; rfl, hrow wr, hbel wr⟩
        case round =>
          clear hbel hrow hcv
          obtain ⟨j, hj, rfl, rfl, HR, hbq⟩ := hrel
          by_cases hj6 : j = 6
          · subst hj6
            rw [av_6]
            have hb1 := hb0.trans (hbq.mono hb0.size)
            have hg1 := Nat.lt_of_lt_of_le hg hbq.size
            have HT1 := fun (j : Nat) (x : List UInt8) (hx : L[j]? = some x) => (hbq.cell (p := ⟨g, j, none⟩) hg).trans (HT j x hx)
            clear HT HR hcT hdg hix hex
            have HP2 : (k = 0 ∧ p = -1 ∧ (U : Int) = F) ∨ (0 < k ∧ 0 ≤ p ∧ ((U : Int) - p = 2 ∨ (U : Int) - p = 4 ∨ (U : Int) - p = 6)) := HP
            clear HP
            rcases HP2 with ⟨hk0, rfl, hFU⟩ | ⟨k0, p0, hd⟩
            · have hk1 : (k : Int) = 0 := by omega
              go_wp2
              go_round
              case rel => exact ⟨k + 1, U, U + n, by omega, by go_num, by first | rfl | rw [hFU], HQ3, by omega, Or.inr ⟨by omega, by omega, by omega⟩, hb1, hg1, HT1⟩
              case measure => simp [intOf]; omega
            · have hk0 : ¬ (k : Int) = 0 := by omega
              have hk1 : (0 : Int) < (k : Int) := by omega
              have hk2 : ((k : Int) == 0) = false := beq_false_of_ne hk0
              have hpw : ∃ e, IntKind.i64.wrap ((U : Int) - p) = e ∧ (e = 2 ∨ e = 4 ∨ e = 6) := ⟨_, rfl, by rw [wrap_i64]; unfold wrap64; omega⟩
              obtain ⟨e, he, he2⟩ := hpw
              clear hd
              rcases he2 with rfl | rfl | rfl
              all_goals
                go_wp2
                go_round
                case rel => exact ⟨k + 1, U, U + n, by omega, by go_num, rfl, HQ3, by omega, Or.inr ⟨by omega, by omega, by omega⟩, hb1, hg1, HT1⟩
                case measure => simp [intOf]; omega
          · have hj1 : j < 6 := by omega
            have hj2 : (j : Int) < 6 := by omega
            have hcl : _ = _ := Row8.cell HR (j := j) (by omega)
            rw [hdg j hj1] at hcl
            obtain ⟨hst, hlt⟩ := av_step U hj1
            have hvl := av_le U j
            rw [Int.natCast_add] at hcl
            clear hdg hix hex HP HT hcT
            generalize dgt U j = dd at *
            have hws : IntKind.u8.wrap (((48 : Nat) : Int) + (dd : Int) - 48) = (dd : Int) := by rw [IntKind.wrap_u8]; omega
            go_wp2
            go_round
            case rel => exact ⟨j + 1, by omega, by go_num, by rw [hst]; congr 1; omega, HR, hbq⟩
            case measure => simp [intOf]; omega

end Go.Proofs.YtipaednpelapgaaDoor
