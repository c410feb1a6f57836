/-
  Walk over the statement OctetDamage: whatever the input, it answers true. Condition: the table of package octet holds what its initialiser lays; the text is at most as long as an argument can be.
-/
import Derived.Test.YtbcnehjpondplaaDoorOcK
namespace Go.Proofs.YtbcnehjpondplaaDoor
open Go.RowKit
set_option linter.unusedSimpArgs false
set_option maxHeartbeats 1000000
set_option maxRecDepth 100000

/-- A row of bytes that holds l, none of its cells frozen. -/
def Row8 (w : World) (A : Nat) (l : List UInt8) : Prop :=
  ∃ cs hi, w.heap[A]? = some (.cells cs 5 (cs.size, hi)) ∧ l.length ≤ cs.size ∧ ∀ j (h : j < l.length), cs[j]? = some (.int .u8 (l[j].toNat : Int))
theorem Row8.made (w : World) (s : ByteArray) (c : Nat) : Row8 (w.drew.alloc (.cells (bytesRow s c) 5 ((bytesRow s c).size, (bytesRow s c).size + 1))) w.heap.size s.data.toList := by
  refine ⟨bytesRow s c, _, heap_alloc_new w.drew _, ?_, fun j h => ?_⟩
  · simp [bytesRow]
  · have h' : j < s.data.size := h
    rw [bytesRow_at s c j h']
    rfl
theorem Row8.cell {w : World} {A : Nat} {l : List UInt8} (h : Row8 w A l) {j : Nat} (hj : j < l.length) : w.cell? ⟨A, j, none⟩ = some (.int .u8 ((l.getD j 0).toNat : Int)) := by
  obtain ⟨cs, hi, hb, _, hc⟩ := h
  rw [World.cell?]
  simp [hb, hc j hj, List.getD, hj]
theorem Row8.frozen {w : World} {A : Nat} {l : List UInt8} (h : Row8 w A l) {j : Nat} (hj : j < l.length) : w.frozen? ⟨A, j, none⟩ = false := by
  obtain ⟨cs, hi, hb, hl, _⟩ := h
  have : ¬ cs.size ≤ j := by omega
  simp [World.frozen?, hb, this]
theorem Row8.set {w : World} {A : Nat} {l : List UInt8} (h : Row8 w A l) (k : Nat) (y : UInt8) : Row8 (w.setCell ⟨A, k, none⟩ (.int .u8 (y.toNat : Int))) A (l.set k y) := by
  obtain ⟨cs, hi, hb, hl, hc⟩ := h
  refine ⟨cs.setIfInBounds k (.int .u8 (y.toNat : Int)), hi, ?_, by simpa using hl, fun j hj => ?_⟩
  · simp [World.setCell, Array.getElem?_modify, hb]
  · have hj' : j < l.length := by simpa using hj
    rw [Array.getElem?_setIfInBounds]
    by_cases e : k = j
    · subst e; simp [show k < cs.size by omega]
    · rw [if_neg e, hc j hj', List.getElem_set_ne e]
theorem Row8.conv {w : World} {A c : Nat} {l : List UInt8} (h : Row8 w A l) : (convert 32 9 (.slice (some ⟨A, 0, none⟩) l.length c)).run Tryd.prog w = .ok (.string ⟨l.toArray⟩) w := by
  refine run_convert_bytes_back (P := Tryd.prog) w 32 9 5 ⟨A, 0, none⟩ c l Tryd.underlying32 Tryd.underlying5 Tryd.underlying9 (fun j hj => ?_)
  have e1 : (⟨A, 0, none⟩ : Addr).add j = ⟨A, j, none⟩ := by unfold Addr.add; split <;> simp_all
  rw [e1, h.cell hj]
  simp [List.getD, hj]

/-- A byte with one bit changed. -/
def flip (c : UInt8) (j : Nat) : UInt8 := UInt8.ofNat (c.toNat ^^^ 2 ^ j)
theorem flip_nat (c : UInt8) {j : Nat} (hj : j < 8) : (flip c j).toNat = c.toNat ^^^ 2 ^ j := by
  have hp : 2 ^ j < 2 ^ 8 := Nat.pow_lt_pow_right (by decide) hj
  have := Nat.xor_lt_two_pow (n := 8) (UInt8.toNat_lt c) hp
  unfold flip
  rw [UInt8.toNat_ofNat']
  omega
theorem flip_ne (c : UInt8) {j : Nat} (hj : j < 8) : c ≠ flip c j := by
  intro h
  have h1 := congrArg UInt8.toNat h
  rw [flip_nat c hj] at h1
  have h2 := xor_l (a := 0) (b := 2 ^ j) (c := c.toNat) (by rw [Nat.xor_zero]; exact h1)
  have : 0 < 2 ^ j := Nat.two_pow_pos j
  omega
theorem xor_u8 (a b : Nat) (ha : a < 256) (hb : b < 256) : bits .xor .u8 (a : Int) (b : Int) = ((a ^^^ b : Nat) : Int) := by
  have hx : a ^^^ b < 2 ^ 8 := Nat.xor_lt_two_pow (n := 8) (by omega) (by omega)
  have h1 : (BitVec.ofInt 8 (a : Int)).toNat = a := by
    rw [BitVec.ofInt_natCast, BitVec.toNat_ofNat]; exact Nat.mod_eq_of_lt (by omega)
  have h2 : (BitVec.ofInt 8 (b : Int)).toNat = b := by
    rw [BitVec.ofInt_natCast, BitVec.toNat_ofNat]; exact Nat.mod_eq_of_lt (by omega)
  show IntKind.u8.wrap ((BitVec.ofInt 8 (a : Int) ^^^ BitVec.ofInt 8 (b : Int)).toNat : Int) = _
  rw [BitVec.toNat_xor, h1, h2, IntKind.wrap_u8]
  omega

theorem damage_law (s : ByteArray) (a m : Nat) (hs : s.size ≤ 9223372036854775807) (ha : a < 65536) (hm : m < 256) (w : World) (W : Tabs w) :
    Calls Tryd.prog 9 #[.string s, .int .u16 a, .int .u8 m] w fun e w' => e = .returned (.bool true) ∧ Below w.heap.size w w' := by
  have hB : Below w.heap.size w w := Below.refl _ _
  by_cases hbig : 500 < s.size
  · go_enter Tryd.func9, Tryd.ntmps9
    go_wp2_with (first
      | (go_at_call 12; with_reducible refine (alive_any _ W).mono ?_; rintro e w' ⟨rfl, hb⟩; have hB := hB.trans (hb.mono hB.size); clear hb))
    go_ret
    exact ⟨rfl, hB⟩
  · have k1 := fun w W => seal_any s (by omega) w W
    have hYl : (⟨(sealed s.data.toList).toArray⟩ : ByteArray).data.toList = sealed s.data.toList := by simp
    have hYs := ba_size (sealed s.data.toList)
    rw [sealed_length, size_len] at hYs
    generalize (⟨(sealed s.data.toList).toArray⟩ : ByteArray) = Y at *
    obtain ⟨K, hKd⟩ : ∃ K, K = a % (s.size + 4) := ⟨_, rfl⟩
    have hK : K < s.size + 4 := by rw [hKd]; exact Nat.mod_lt _ (by omega)
    have hKi : (a : Int) % ((s.size : Int) + 4) = (K : Int) := by rw [hKd]; simp
    obtain ⟨J, hJd⟩ : ∃ J, J = m % 8 := ⟨_, rfl⟩
    have hJ : J < 8 := by omega
    have hJi : (m : Int) % 8 = (J : Int) := by omega
    obtain ⟨c, hcd⟩ : ∃ c, c = (sealed s.data.toList).getD K 0 := ⟨_, rfl⟩
    obtain ⟨y, hyd⟩ : ∃ y, y = flip c J := ⟨_, rfl⟩
    have hx : bits .xor .u8 (c.toNat : Int) (2 ^ J % 256) = (y.toNat : Int) := by
      have hp : 2 ^ J < 2 ^ 8 := Nat.pow_lt_pow_right (by decide) hJ
      have e : ((2 : Int) ^ J % 256) = ((2 ^ J : Nat) : Int) := by
        have e1 : ((2 : Int) ^ J) = ((2 ^ J : Nat) : Int) := by simp
        rw [e1]
        generalize 2 ^ J = P at *
        have e8 : 2 ^ 8 = 256 := rfl
        omega
      rw [e, xor_u8 _ _ (UInt8.toNat_lt c) hp, hyd, flip_nat c hJ]
    have hne : (sealed s.data.toList).getD K 0 ≠ y := by rw [← hcd, hyd]; exact flip_ne c hJ
    have hop := opn_changed s.data.toList K (by rw [size_len]; exact hK) y hne
    obtain ⟨R, hR⟩ : ∃ R : World → Obj, R = fun w => .cells (bytesRow Y (grownCap w Y.size 0 5)) 5 ((bytesRow Y (grownCap w Y.size 0 5)).size, (bytesRow Y (grownCap w Y.size 0 5)).size + 1) := ⟨_, rfl⟩
    obtain ⟨C, hC⟩ : ∃ C : World → Nat, C = fun w => grownCap w Y.size 0 5 := ⟨_, rfl⟩
    have hcv : ∀ w : World, (convert 9 32 (.string Y)).run Tryd.prog w = .ok (.slice (some ⟨w.heap.size, 0, none⟩) Y.size (C w)) (w.drew.alloc (R w)) := by
      intro w; rw [hC, hR]
      exact run_bytes_of_string (P := Tryd.prog) w 9 32 5 Y Tryd.underlying9 Tryd.underlying32 Tryd.underlying5
    have hrow : ∀ w : World, Row8 (w.alloc (R w)).drew w.heap.size (sealed s.data.toList) := by
      intro w; rw [hR, ← hYl]; exact Row8.made w Y _
    have hsl : (sealed s.data.toList).length = s.size + 4 := by rw [sealed_length, size_len]
    have hcell : ∀ w : World, (w.alloc (R w)).cell? ⟨w.heap.size, K, none⟩ = some (.int .u8 (c.toNat : Int)) := fun w => by
      have := (hrow w).cell (j := K) (by omega)
      rw [← hcd] at this; exact this
    have hfr : ∀ w : World, (w.alloc (R w)).frozen? ⟨w.heap.size, K, none⟩ = false := fun w => (hrow w).frozen (j := K) (by omega)
    have hset : ∀ w : World, Row8 (((w.alloc (R w)).setCell ⟨w.heap.size, K, none⟩ (.int .u8 (y.toNat : Int))).drew) w.heap.size ((sealed s.data.toList).set K y) := fun w => (hrow w).set K y
    have hback : ∀ w : World, (convert 32 9 (.slice (some ⟨w.heap.size, 0, none⟩) (s.size + 4) (C w))).run Tryd.prog (((w.alloc (R w)).setCell ⟨w.heap.size, K, none⟩ (.int .u8 (y.toNat : Int))).drew) = .ok (.string ⟨((sealed s.data.toList).set K y).toArray⟩) (((w.alloc (R w)).setCell ⟨w.heap.size, K, none⟩ (.int .u8 (y.toNat : Int))).drew) := fun w => by
      have := (hset w).conv (c := C w)
      rw [List.length_set, hsl] at this; exact this
    have hbel : ∀ w : World, Below w.heap.size w (((w.alloc (R w)).setCell ⟨w.heap.size, K, none⟩ (.int .u8 (y.toNat : Int))).drew) := fun w =>
      (((Below.refl _ _).alloc (Nat.le_refl _) (R w)).setCell (Nat.le_refl _) _).drew
    have k2 : ∀ w : World, Tabs w → Calls Tryd.prog 24 #[.string ⟨((sealed s.data.toList).set K y).toArray⟩] (((w.alloc (R w)).setCell ⟨w.heap.size, K, none⟩ (.int .u8 (y.toNat : Int))).drew) fun e w' => e = .returned (.tuple #[.string ⟨#[]⟩, .int .i64 10]) ∧ Below w.heap.size w w' := fun w W => by
      have k := open_any ⟨((sealed s.data.toList).set K y).toArray⟩ (by rw [ba_size, List.length_set, hsl]; omega) _ (W.below (hbel w))
      simp only [List.toList_toArray] at k
      rw [hop] at k
      exact k.mono fun e w' h => ⟨h.1, (hbel w).trans (h.2.mono (hbel w).size)⟩
    generalize (⟨((sealed s.data.toList).set K y).toArray⟩ : ByteArray) = Z at *
    clear hset hbel hrow hsl hop hne hyd hcd hJd hKd hR hC hYl
    go_enter Tryd.func9, Tryd.ntmps9
    go_wp2_with (first
      | (go_at_call 28; with_reducible refine (k1 _ W).mono ?_; rintro e w' ⟨rfl, hb⟩; have W := W.below hb; have hB := hB.trans (hb.mono hB.size); clear hb)
      | (go_at_call 24; with_reducible refine (k2 _ W).mono ?_; rintro e w' ⟨rfl, hb⟩; have W := W.below hb; have hB := hB.trans (hb.mono hB.size); clear hb)
      | (go_at_call 12; with_reducible refine (alive_any _ W).mono ?_; rintro e w' ⟨rfl, hb⟩; have hB := hB.trans (hb.mono hB.size); clear hb))
    go_ret
    exact ⟨rfl, hB⟩

end Go.Proofs.YtbcnehjpondplaaDoor
