/-
  Walks over Seal and Open of package octet and of its reference. Condition: the table of package octet holds what its initialiser lays; texts are at most as long as a length can be.
-/
import Derived.Test.YtbcnehjpondplaaDoorOcD
namespace Go.Proofs.YtbcnehjpondplaaDoor
open Go.RowKit
set_option linter.unusedSimpArgs false

theorem join_r (s : ByteArray) (l : List UInt8) : s ++ (⟨l.toArray⟩ : ByteArray) = ⟨(s.data.toList ++ l).toArray⟩ := by
  obtain ⟨⟨r⟩⟩ := s
  rw [ba_app]; simp
theorem putI_four (c : Nat) : putI (c : Int) 4 = putN c 4 := rfl
theorem seal_join (s : ByteArray) : s ++ (⟨(putI (crc s.data.toList : Int) 4).toArray⟩ : ByteArray) = ⟨(sealed s.data.toList).toArray⟩ := by rw [join_r, putI_four]; rfl

set_option maxHeartbeats 1000000

theorem seal_any (s : ByteArray) (hs : s.size ≤ 4611686018427387904) (w : World) (W : Tabs w) :
    Calls Tryd.prog 28 #[.string s] w fun e w' => e = .returned (.string ⟨(sealed s.data.toList).toArray⟩) ∧ Below w.heap.size w w' := by
  have hc := fun w W => crc_any s (by omega) w W
  have hcl := crc_lt s.data.toList
  have hp := fun w => put_any (crc s.data.toList : Int) 4 (by omega) w
  have hj := seal_join s
  have hl := ba_size (putI (crc s.data.toList : Int) 4)
  rw [putI_length] at hl
  have hl2 : wd 4 = 4 := rfl
  rw [hl2] at hl
  generalize (⟨(putI (crc s.data.toList : Int) 4).toArray⟩ : ByteArray) = Y at *
  generalize (⟨(sealed s.data.toList).toArray⟩ : ByteArray) = X at *
  generalize crc s.data.toList = C at *
  go_enter Tryd.func28, Tryd.ntmps28
  go_wp2_with (first
    | (go_at_call 26; with_reducible refine (hc _ W).mono ?_; rintro e w' ⟨rfl, rfl⟩)
    | (go_at_call 10; with_reducible refine (hp _).mono ?_; rintro e w' ⟨rfl, hb⟩))
  go_ret
  exact ⟨rfl, hb⟩
theorem rseal_any (s : ByteArray) (hs : s.size ≤ 4611686018427387904) (w : World) :
    Calls Tryd.prog 29 #[.string s] w fun e w' => e = .returned (.string ⟨(sealed s.data.toList).toArray⟩) ∧ Below w.heap.size w w' := by
  have hc := fun w => rcrc_any s (by omega) w
  have hcl := crc_lt s.data.toList
  have hp := fun w => rput_any (crc s.data.toList : Int) 4 (by omega) w
  have hj := seal_join s
  have hl := ba_size (putI (crc s.data.toList : Int) 4)
  rw [putI_length] at hl
  have hl2 : wd 4 = 4 := rfl
  rw [hl2] at hl
  generalize (⟨(putI (crc s.data.toList : Int) 4).toArray⟩ : ByteArray) = Y at *
  generalize (⟨(sealed s.data.toList).toArray⟩ : ByteArray) = X at *
  generalize crc s.data.toList = C at *
  go_enter Tryd.func29, Tryd.ntmps29
  go_wp2_with (first
    | (go_at_call 27; with_reducible refine (hc _).mono ?_; rintro e w' ⟨rfl, rfl⟩)
    | (go_at_call 11; with_reducible refine (hp _).mono ?_; rintro e w' ⟨rfl, hb⟩))
  go_ret
  exact ⟨rfl, hb⟩

/-! ### Open -/
/-- A region that draws its order, walked once in the order of the text, in every world of a class. -/
theorem region_class {P : Program} {id : Nat} {Q : Exit → Act → World → Prop} {a : Act} {w : World} {l : List Oper} (C : World → Prop) (hm : P.follows .mixedOrders = true) (hB : Region.lexB .any l.toArray = true) (hC : C w.drew)
    (h : wpQuiet P l.toArray C (fun a' => ∀ w', C w' → Q .normal a' w') l a) : (Code.region id l.toArray true).wp P Q a w :=
  wp_region_quiet hm hB hC (by simpa using h)

def oV (x : List UInt8 × Int) : Value := .tuple #[.string ⟨x.1.toArray⟩, .int .i64 x.2]
theorem opn_short {l : List UInt8} (h : l.length < 4) : opn l = ([], 8) := if_pos h
theorem opn_sum {l : List UInt8} (h : 4 ≤ l.length) (h2 : ¬ getN (l.drop (l.length - 4)) = crc (l.take (l.length - 4))) : opn l = ([], 10) := by
  have e := mt (last_eq l h).2 h2
  unfold opn opened
  rw [if_neg (by omega), if_neg e]
theorem opn_ok {l : List UInt8} (h : 4 ≤ l.length) (h2 : getN (l.drop (l.length - 4)) = crc (l.take (l.length - 4))) : opn l = (l.take (l.length - 4), 0) := by
  have e := (last_eq l h).1 h2
  unfold opn opened
  rw [if_neg (by omega), if_pos e]

theorem open_short (s : ByteArray) (hs : s.size < 4) (w : World) :
    Calls Tryd.prog 24 #[.string s] w fun e w' => e = .returned (oV (opn s.data.toList)) ∧ Below w.heap.size w w' := by
  rw [opn_short hs]
  go_enter Tryd.func24, Tryd.ntmps24
  go_wp2
  go_ret2
  exact ⟨rfl, Below.refl _ _⟩
attribute [local irreducible] wpQuiet
theorem open_long (s : ByteArray) (E : Nat) (hE : s.size = E + 4) (hs : s.size ≤ 4611686018427387904) (w : World) (W : Tabs w) :
    Calls Tryd.prog 24 #[.string s] w fun e w' => e = .returned (oV (opn s.data.toList)) ∧ Below w.heap.size w w' := by
  have hsz := size_len s
  have hll : s.data.toList.length - 4 = E := by omega
  have h1 := @opn_sum s.data.toList (by omega)
  have h2 := @opn_ok s.data.toList (by omega)
  rw [hll] at h1 h2
  have hx1 : (s.extract E s.size).data.toList = s.data.toList.drop E := Lib.extract_to_end s E
  have hx2 : (s.extract 0 E).data.toList = s.data.toList.take E := by rw [cut_list, List.drop_zero, Nat.sub_zero]
  have hn := fun w => number_any (s.extract E s.size) (by rw [← size_len, hx1, List.length_drop]; omega) w
  have hc := fun w W => crc_any (s.extract 0 E) (by rw [← size_len, hx2, List.length_take]; omega) w W
  rw [hx1] at hn
  rw [hx2] at hc
  have hx3 : s.extract 0 E = ⟨(s.data.toList.take E).toArray⟩ := by rw [ba_of (s.extract 0 E), hx2]
  have he : (s.size : Int) - 4 = (E : Int) := by omega
  have hlt : E ≤ s.size := by omega
  have h4 : ¬ s.size < 4 := by omega
  generalize getN (s.data.toList.drop E) = G at *
  generalize crc (s.data.toList.take E) = C at *
  obtain ⟨V, hV⟩ : ∃ V, V = oV (opn s.data.toList) := ⟨_, rfl⟩
  rw [← hV]
  have h1' : ¬ G = C → V = .tuple #[.string ⟨#[]⟩, .int .i64 10] := fun h => by rw [hV, h1 h]; rfl
  have h2' : G = C → V = .tuple #[.string (s.extract 0 E), .int .i64 0] := fun h => by rw [hV, h2 h, hx3]; rfl
  clear h1 h2 hV hx3 hx1 hx2 hll hE hsz
  have hh := hid h1'
  have hh2 := hid h2'
  clear h1' h2'
  go_enter Tryd.func24, Tryd.ntmps24
  go_wp2
  refine region_class (fun w' => Tabs w' ∧ Below w.heap.size w w') (by kernel_rfl) (by kernel_rfl) ⟨W.below (Below.refl _ _).drew, (Below.refl _ _).drew⟩ ?_
  repeat
    first
      | (refine BigFrame.wpQuiet_skip (by rfl) ?_
         simp only [Act.put, List.setIfInBounds_toArray, List.set_cons_zero, List.set_cons_succ])
      | (refine BigFrame.wpQuiet_want (by rfl) (fun K hK => ?_)
         apply Exists.intro
         refine ⟨fun wq hq => ?_, hK _ ?_⟩
         · obtain ⟨c0, c1⟩ := hq
           unfold Oper.quietAt
           go_simp
           first
             | with_reducible rfl
             | ((go_at_call 31); exact (hn _).mono (fun e w' ⟨he, hb⟩ => ⟨he, hb ▸ ⟨c0, c1⟩⟩))
             | ((go_at_call 26); exact (hc _ c0).mono (fun e w' ⟨he, hb⟩ => ⟨he, hb ▸ ⟨c0, c1⟩⟩))
         clear hK K
         simp only [Act.put, List.setIfInBounds_toArray, List.set_cons_zero, List.set_cons_succ])
  refine wpQuiet_nil ?_
  intro w4 hS
  obtain ⟨W4, hB⟩ := hS
  by_cases hGC : G = C
  · have hV : V = .tuple #[.string (s.extract 0 E), .int .i64 0] := hh2 hGC
    have hb : ((G : Int) != (C : Int)) = false := by rw [hGC]; simp
    clear hh hh2 hn hc
    go_wp2
    go_ret2
    exact ⟨by rw [hV]; rfl, hB⟩
  · have hV : V = .tuple #[.string ⟨#[]⟩, .int .i64 10] := hh hGC
    have hb : ((G : Int) != (C : Int)) = true := by rw [bne_iff_ne]; omega
    clear hh hh2 hn hc
    go_wp2
    go_ret2
    exact ⟨by rw [hV]; rfl, hB⟩
theorem open_any (s : ByteArray) (hs : s.size ≤ 4611686018427387904) (w : World) (W : Tabs w) :
    Calls Tryd.prog 24 #[.string s] w fun e w' => e = .returned (oV (opn s.data.toList)) ∧ Below w.heap.size w w' := by
  by_cases h : s.size < 4
  · exact open_short s h w
  · exact open_long s (s.size - 4) (by omega) hs w W

theorem str_eq {a b : ByteArray} (h : a = b) : (a.toList == b.toList) = true := by rw [h]; simp
theorem str_ne {a b : ByteArray} (h : ¬ a = b) : (a.toList == b.toList) = false := by
  rw [beq_eq_false_iff_ne, Lib.toList_data, Lib.toList_data]
  intro e
  obtain ⟨⟨x⟩⟩ := a
  obtain ⟨⟨y⟩⟩ := b
  exact h (by simp only at e; rw [e])

theorem ropen_short (s : ByteArray) (hs : s.size < 4) (w : World) :
    Calls Tryd.prog 25 #[.string s] w fun e w' => e = .returned (oV (opn s.data.toList)) ∧ Below w.heap.size w w' := by
  rw [opn_short hs]
  go_enter Tryd.func25, Tryd.ntmps25
  go_wp2
  go_ret2
  exact ⟨rfl, Below.refl _ _⟩
theorem ropen_long (s : ByteArray) (E : Nat) (hE : s.size = E + 4) (hs : s.size ≤ 4611686018427387904) (w : World) :
    Calls Tryd.prog 25 #[.string s] w fun e w' => e = .returned (oV (opn s.data.toList)) ∧ Below w.heap.size w w' := by
  have hsz := size_len s
  have hll : s.data.toList.length - 4 = E := by omega
  have h1 := @opn_sum s.data.toList (by omega)
  have h2 := @opn_ok s.data.toList (by omega)
  have hle := last_eq s.data.toList (by omega)
  rw [hll] at h1 h2 hle
  rw [hle] at h1 h2
  have hx1 : (s.extract E s.size).data.toList = s.data.toList.drop E := Lib.extract_to_end s E
  have hx2 : (s.extract 0 E).data.toList = s.data.toList.take E := by rw [cut_list, List.drop_zero, Nat.sub_zero]
  have hcl := crc_lt (s.data.toList.take E)
  have hp := fun w => rput_any (crc (s.data.toList.take E) : Int) 4 (by omega) w
  rw [putI_four] at hp
  have hc := fun w => rcrc_any (s.extract 0 E) (by rw [← size_len, hx2, List.length_take]; omega) w
  rw [hx2] at hc
  have hx3 : s.extract 0 E = ⟨(s.data.toList.take E).toArray⟩ := by rw [ba_of (s.extract 0 E), hx2]
  have hx4 : s.extract E s.size = ⟨(s.data.toList.drop E).toArray⟩ := by rw [ba_of (s.extract E s.size), hx1]
  have he : (s.size : Int) - 4 = (E : Int) := by omega
  have hlt : E ≤ s.size := by omega
  have h4 : ¬ s.size < 4 := by omega
  have hw : IntKind.i64.wrap (E : Int) = (E : Int) := wraps_i64 _ (by omega) (by
    have e2 : (2 : Int) ^ 62 = 4611686018427387904 := by decide
    omega)
  generalize crc (s.data.toList.take E) = C at *
  have hPR : (⟨(putN C 4).toArray⟩ : ByteArray) = s.extract E s.size ↔ putN C 4 = s.data.toList.drop E := by
    rw [hx4]
    constructor
    · intro h; injection h with h; simpa using h
    · intro h; rw [h]
  rw [← hPR] at h1 h2
  generalize (⟨(putN C 4).toArray⟩ : ByteArray) = Y at *
  obtain ⟨V, hV⟩ : ∃ V, V = oV (opn s.data.toList) := ⟨_, rfl⟩
  rw [← hV]
  have h1' : ¬ Y = s.extract E s.size → V = .tuple #[.string ⟨#[]⟩, .int .i64 10] := fun h => by rw [hV, h1 h]; rfl
  have h2' : Y = s.extract E s.size → V = .tuple #[.string (s.extract 0 E), .int .i64 0] := fun h => by rw [hV, h2 h, hx3]; rfl
  clear h1 h2 hV hx3 hx4 hx1 hx2 hll hE hsz hPR hle
  have hh := hid h1'
  have hh2 := hid h2'
  clear h1' h2'
  go_enter Tryd.func25, Tryd.ntmps25
  go_wp2
  refine region_class (fun w' => Below w.heap.size w w') (by kernel_rfl) (by kernel_rfl) (Below.refl _ _).drew ?_
  repeat
    first
      | (refine BigFrame.wpQuiet_skip (by rfl) ?_
         simp only [Act.put, List.setIfInBounds_toArray, List.set_cons_zero, List.set_cons_succ])
      | (refine BigFrame.wpQuiet_want (by rfl) (fun K hK => ?_)
         apply Exists.intro
         refine ⟨fun wq hq => ?_, hK _ ?_⟩
         · unfold Oper.quietAt
           go_simp
           first
             | with_reducible rfl
             | ((go_at_call 27); exact (hc _).mono (fun e w' ⟨he, hb⟩ => ⟨he, hb ▸ hq⟩))
             | ((go_at_call 11); exact (hp _).mono (fun e w' ⟨he, hb⟩ => ⟨he, hq.trans (hb.mono hq.size)⟩))
         clear hK K
         simp only [Act.put, List.setIfInBounds_toArray, List.set_cons_zero, List.set_cons_succ])
  refine wpQuiet_nil ?_
  intro w4 hB
  by_cases hGC : Y = s.extract E s.size
  · have hV : V = .tuple #[.string (s.extract 0 E), .int .i64 0] := hh2 hGC
    have hb := str_eq hGC
    have hb2 : (!(Y.toList == (s.extract E s.size).toList)) = false := by rw [hb]; rfl
    clear hh hh2 hp hc
    rw [hb2]
    go_wp2
    go_ret2
    exact ⟨by rw [hV]; rfl, hB⟩
  · have hV : V = .tuple #[.string ⟨#[]⟩, .int .i64 10] := hh hGC
    have hb := str_ne hGC
    have hb2 : (!(Y.toList == (s.extract E s.size).toList)) = true := by rw [hb]; rfl
    clear hh hh2 hp hc
    rw [hb2]
    go_wp2
    go_ret2
    exact ⟨by rw [hV]; rfl, hB⟩
theorem ropen_any (s : ByteArray) (hs : s.size ≤ 4611686018427387904) (w : World) :
    Calls Tryd.prog 25 #[.string s] w fun e w' => e = .returned (oV (opn s.data.toList)) ∧ Below w.heap.size w w' := by
  by_cases h : s.size < 4
  · exact ropen_short s h w
  · exact ropen_long s (s.size - 4) (by omega) hs w

end Go.Proofs.YtbcnehjpondplaaDoor
