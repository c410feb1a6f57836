import Derived.Test.YtjolhlfjpnlcnaaDkK
import Derived.Test.YtjolhlfjpnlcnaaMZ
import Derived.Ground.SlgfProg
import Derived.Shelf.SlicesE.IndexFunc
import Derived.Shelf.SlicesE.DeleteFunc
import Derived.KernelRfl
import Derived.Test.YtjolhlfjpnlcnaaProg
import Derived.Test.YtjolhlfjpnlcnaaPA
import Derived.Lib.SlKeysI
import Derived.Test.YtjolhlfjpnlcnaaMN
/-
  What the bytes of a memory are to a sector. Conditions: words of 16 bits.
-/
namespace Go.Proofs.Ytjolhlfjpnlcnaa
open Go.RowKit
set_option linter.unusedSimpArgs false
set_option linter.unusedVariables false
set_option maxHeartbeats 4000000
set_option maxRecDepth 100000
attribute [local irreducible] wpQuiet

theorem getD_word {m : List Int} (hw : ∀ x ∈ m, 0 ≤ x ∧ x ≤ 65535) (k : Nat) : 0 ≤ m.getD k 0 ∧ m.getD k 0 ≤ 65535 := by
  rw [List.getD_eq_getElem?_getD]
  rcases h : m[k]? with _ | x
  · simp
  · exact hw x (List.mem_of_getElem? h)
theorem byteN_even (m : List Int) (k : Nat) : byteN m (2 * k) = m.getD k 0 % 256 := by
  unfold byteN
  rw [show 2 * k / 2 = k by omega, show 2 * k % 2 = 0 by omega]; simp
theorem byteN_odd {m : List Int} (hw : ∀ x ∈ m, 0 ≤ x ∧ x ≤ 65535) (k : Nat) : byteN m (2 * k + 1) = m.getD k 0 / 256 := by
  unfold byteN
  rw [show (2 * k + 1) / 2 = k by omega, show (2 * k + 1) % 2 = 1 by omega]
  have := getD_word hw k
  simp only [Int.pow_one]
  omega
theorem bytesN_two {m : List Int} (hw : ∀ x ∈ m, 0 ≤ x ∧ x ≤ 65535) (A n : Nat) : bytesN m (2 * A) (2 * (n + 1)) = bytesN m (2 * A) (2 * n) ++ [UInt8.ofNat (m.getD (A + n) 0 % 256).toNat, UInt8.ofNat (m.getD (A + n) 0 / 256).toNat] := by
  rw [show 2 * (n + 1) = (2 * n + 1) + 1 by omega, bytesN_snoc, bytesN_snoc, show 2 * A + 2 * n = 2 * (A + n) by omega, show 2 * A + (2 * n + 1) = 2 * (A + n) + 1 by omega, byteN_even, byteN_odd hw]
  simp
theorem secL_bytes {m : List Int} (hw : ∀ x ∈ m, 0 ≤ x ∧ x ≤ 65535) (A : Nat) : ∀ n, secL m A n = bytesN m (2 * A) (2 * n)
  | 0 => rfl
  | n + 1 => by rw [secL_step, bytesN_two hw, secL_bytes hw A n]
/-- The bytes of n words of a memory. -/
def wsV (m : List Int) (A n : Nat) : ByteArray := ⟨(bytesN m (2 * A) (2 * n)).toArray⟩
theorem wsV_size (m : List Int) (A n : Nat) : (wsV m A n).size = 2 * n := by
  show (bytesN m (2 * A) (2 * n)).toArray.size = 2 * n
  rw [List.size_toArray, bytesN_length]
theorem zB_zero (s : ByteArray) : s ++ zB 0 = s := by
  apply ByteArray.ext
  rw [ByteArray.data_append]
  show s.data ++ (List.replicate 0 (0 : UInt8)).toArray = s.data
  simp
theorem sec_pad {m : List Int} (hw : ∀ x ∈ m, 0 ≤ x ∧ x ≤ 65535) (A n : Nat) : secV m A n = wsV m A n ++ zB (128 - 2 * n) := by
  apply ByteArray.ext
  rw [ByteArray.data_append]
  unfold secV wsV zB
  rw [secL_bytes hw]
  simp
theorem wr_pad {D : Drv} {k : Int} {s : ByteArray} (h : s.size ≤ 128) : D.wr k (s ++ zB (128 - s.size)) = D.wr k s := by
  have hz : (s ++ zB (128 - s.size)).size = 128 := by rw [ByteArray.size_append, zB_size]; omega
  unfold Drv.wr
  rw [hz, if_neg (by decide : ¬ 128 < 128), if_neg (show ¬ 128 < s.size by omega), Nat.sub_self, zB_zero]
theorem wr_words {D : Drv} {k : Int} {m : List Int} (hw : ∀ x ∈ m, 0 ≤ x ∧ x ≤ 65535) (A n : Nat) (hn : n ≤ 64) : D.wr k (wsV m A n) = D.wr k (secV m A n) := by
  rw [sec_pad hw, ← wr_pad (by rw [wsV_size]; omega), wsV_size]
theorem take_two {s : ByteArray} {n : Nat} (h : 2 * n + 1 < s.size) : s.data.toList.take (2 * (n + 1)) = s.data.toList.take (2 * n) ++ [s.data.getD (2 * n) 0, s.data.getD (2 * n + 1) 0] := by
  have e1 := byt_get (s := s) (k := 2 * n) (by omega)
  have e2 := byt_get (s := s) (k := 2 * n + 1) h
  rw [show 2 * (n + 1) = (2 * n + 1) + 1 by omega, List.take_add_one, List.take_add_one, Array.getElem?_toList, Array.getElem?_toList, e1, e2]
  simp
theorem u8_eq {x : Int} {c : UInt8} (h : 0 ≤ x ∧ x < 256) : UInt8.ofNat x.toNat = c ↔ x = (c.toNat : Int) := by
  constructor
  · intro e; rw [← e, u8_of x h]
  · intro e; rw [e, Int.toNat_natCast]; simp
theorem dfW_iff {m : List Int} (hw : ∀ x ∈ m, 0 ≤ x ∧ x ≤ 65535) (A : Nat) (s : ByteArray) : ∀ n, 2 * n ≤ s.size → (dfW m A n s = false ↔ bytesN m (2 * A) (2 * n) = s.data.toList.take (2 * n))
  | 0, _ => by simp [dfW, bytesN]
  | n + 1, h => by
    have ih := dfW_iff hw A s n (by omega)
    have e : dfW m A (n + 1) s = (dfW m A n s || decide (m.getD (A + n) 0 ≠ atV s n)) := by
      unfold dfW; rw [List.range_succ, List.any_append]; simp
    have l1 := byt_lo s (2 * n)
    have l2 := byt_lo s (2 * n + 1)
    have hx := getD_word hw (A + n)
    rw [e, Bool.or_eq_false_iff, ih, bytesN_two hw, take_two (by omega)]
    have hlen : (bytesN m (2 * A) (2 * n)).length = (s.data.toList.take (2 * n)).length := by
      rw [bytesN_length, List.length_take]
      show 2 * n = min (2 * n) s.size
      omega
    generalize m.getD (A + n) 0 = x at *
    have q : decide (x ≠ atV s n) = false ↔ (UInt8.ofNat (x % 256).toNat = s.data.getD (2 * n) 0 ∧ UInt8.ofNat (x / 256).toNat = s.data.getD (2 * n + 1) 0) := by
      rw [u8_eq (by omega), u8_eq (by omega)]
      unfold atV
      unfold byt at *
      simp only [ne_eq, decide_eq_false_iff_not, Classical.not_not]
      constructor
      · intro h; omega
      · rintro ⟨h1, h2⟩; omega
    rw [q]
    constructor
    · rintro ⟨h1, h2, h3⟩; rw [h1, h2, h3]
    · intro h
      have h1 := List.append_inj h hlen
      have h2 := h1.2
      simp only [List.cons.injEq, and_true] at h2
      exact ⟨h1.1, h2.1, h2.2⟩
theorem storeN_app (l : List Int) (t : List UInt8) : ∀ (s : List UInt8) (l : List Int) (a : Nat), storeN l a (s ++ t) = storeN (storeN l a s) (a + s.length) t
  | [], _, _ => rfl
  | c :: s, l, a => by
    show storeN (setN l a (c.toNat : Int)) (a + 1) (s ++ t) = storeN (storeN (setN l a (c.toNat : Int)) (a + 1) s) (a + (s.length + 1)) t
    rw [storeN_app l t s, show a + 1 + s.length = a + (s.length + 1) by omega]
theorem putM_store {m : List Int} (A : Nat) (s : ByteArray) : ∀ n, A + n ≤ m.length → 2 * n ≤ s.size → putM m A s n = storeN m (2 * A) (s.data.toList.take (2 * n))
  | 0, _, _ => rfl
  | n + 1, h, hs => by
    rw [putM_step, putM_store A s n (by omega) (by omega), take_two (by omega), storeN_app m]
    have hlen : (s.data.toList.take (2 * n)).length = 2 * n := by
      rw [List.length_take]
      show min (2 * n) s.size = 2 * n
      omega
    have hX : (storeN m (2 * A) (s.data.toList.take (2 * n))).length = m.length := storeN_length _ _ _
    rw [hlen]
    generalize storeN m (2 * A) (s.data.toList.take (2 * n)) = X at *
    show _ = setN (setN X (2 * A + 2 * n) ((s.data.getD (2 * n) 0).toNat : Int)) (2 * A + 2 * n + 1) ((s.data.getD (2 * n + 1) 0).toNat : Int)
    have l1 := byt_lo s (2 * n)
    have l2 := byt_lo s (2 * n + 1)
    unfold atV
    unfold byt at *
    unfold setN
    rw [show (2 * A + 2 * n) / 2 = A + n by omega, show (2 * A + 2 * n) % 2 = 0 by omega, show (2 * A + 2 * n + 1) / 2 = A + n by omega, show (2 * A + 2 * n + 1) % 2 = 1 by omega, List.set_set, get_set _ _ _ _ (by omega), if_pos rfl]
    congr 1
    unfold setW
    rw [if_pos rfl, if_neg (by decide)]
    omega
/-- Is an address in the range? -/
def inI (a : Int) (n : Nat) (x : Int) : Bool := decide (a ≤ x) && decide (x < a + 2 * (n : Int))
theorem spV_any (B : List Int) (a : Int) (n : Nat) : B.any (inI a n) = spV B a n := rfl
theorem outB_filter (B : List Int) (a : Int) (n : Nat) : (B.filter fun x => !inI a n x) = outB B a n := by
  unfold outB inI
  congr 1
  funext x
  rw [Bool.eq_iff_iff]
  simp
end Go.Proofs.Ytjolhlfjpnlcnaa

/-
  slices.ContainsFunc, slices.DeleteFunc of integers.
-/
namespace Go.Proofs
open Go.Shelf
def Try.laysSlH6_f68_ren : Go.Shelf.Ren := ⟨fun | 6 => 68 | n => n, fun | 22 => 23 | 23 => 3 | 25 => 58 | 3 => 3 | 0 => 0 | 4 => 4 | n => n, fun | n => n⟩
theorem Try.laysSlH6_f68 : Go.Proofs.SlLaysH.n6 Try.prog Try.laysSlH6_f68_ren := {
  mixed := by kernel_rfl
  f6 := ⟨Try.f68.name, by decide, Try.func68.trans (congrArg some (by kernel_rfl))⟩
  t0 := Try.underlying0
  a0 := Try.isAgg0
  z0 := Try.sizeOf0
  v0 := Try.zeroValue0
  t3 := Try.underlying3
  a3 := Try.isAgg3
  z3 := Try.sizeOf3
  v3 := Try.zeroValue3
  t4 := Try.underlying4
  a4 := Try.isAgg4
  z4 := Try.sizeOf4
  v4 := Try.zeroValue4
  t22 := Try.underlying23
  a22 := Try.isAgg23
  z22 := Try.sizeOf23
  v22 := Try.zeroValue23
  a23 := Try.isAgg3
  z23 := Try.sizeOf3
  t25 := Try.underlying58
  a25 := Try.isAgg58
  z25 := Try.sizeOf58
  v25 := Try.zeroValue58 }
open Go.RowKit Go.Lib in
theorem Try.slices_IndexFunc_empty {α : Type} [Inhabited α] (a : Option Addr) (c : Nat) (fv : Value) (w : World) :
    Calls Try.prog 68 #[.slice a 0 c, fv] w fun e w' => e = .returned (.int .i64 (-1)) ∧ w' = w := AnyE.slices_IndexFunc_empty Try.laysSlH6_f68 a c fv w
def Try.laysSlH8_f59_ren : Go.Shelf.Ren := ⟨fun | 8 => 59 | 6 => 68 | n => n, fun | 22 => 23 | 23 => 3 | 25 => 58 | 4 => 4 | 3 => 3 | 0 => 0 | n => n, fun | n => n⟩
theorem Try.laysSlH8_f59 : Go.Proofs.SlLaysH.n8 Try.prog Try.laysSlH8_f59_ren := {
  mixed := by kernel_rfl
  f6 := ⟨Try.f68.name, by decide, Try.func68.trans (congrArg some (by kernel_rfl))⟩
  f8 := ⟨Try.f59.name, by decide, Try.func59.trans (congrArg some (by kernel_rfl))⟩
  t0 := Try.underlying0
  a0 := Try.isAgg0
  z0 := Try.sizeOf0
  v0 := Try.zeroValue0
  t3 := Try.underlying3
  a3 := Try.isAgg3
  z3 := Try.sizeOf3
  v3 := Try.zeroValue3
  t4 := Try.underlying4
  a4 := Try.isAgg4
  z4 := Try.sizeOf4
  v4 := Try.zeroValue4
  t22 := Try.underlying23
  a22 := Try.isAgg23
  z22 := Try.sizeOf23
  v22 := Try.zeroValue23
  a23 := Try.isAgg3
  z23 := Try.sizeOf3
  t25 := Try.underlying58
  a25 := Try.isAgg58
  z25 := Try.sizeOf58
  v25 := Try.zeroValue58 }
open Go.RowKit Go.Lib in
theorem Try.slices_ContainsFunc {α : Type} [Inhabited α] (enc : α → Value) (p : α → Bool) (g : Nat) (lb : Array Value) (eg : ∀ args w, (callFunc g args).run Try.prog w = .ok (.enter g args) w) (b off n c : Nat) (zs : List α) (w : World) (hp : PredAt Try.prog g lb enc p w) (hz : n ≤ zs.length) (hbig : n ≤ 9223372036854775807) (hc : ∀ j, j < zs.length → w.cell? ⟨b, off + j, none⟩ = some (enc zs[j]!)) :
    Calls Try.prog 59 #[.slice (some ⟨b, off, none⟩) n c, .func (.func g) #[] lb] w fun e w' => e = .returned (.bool ((zs.take n).any p)) ∧ ∃ q, w' = w.drewN q := AnyE.slices_ContainsFunc Try.laysSlH8_f59 enc p g lb eg b off n c zs w hp hz hbig hc
open Go.RowKit Go.Lib in
theorem Try.slices_ContainsFunc_empty {α : Type} [Inhabited α] (a : Option Addr) (c : Nat) (fv : Value) (w : World) :
    Calls Try.prog 59 #[.slice a 0 c, fv] w fun e w' => e = .returned (.bool false) ∧ w' = w := AnyE.slices_ContainsFunc_empty Try.laysSlH8_f59 a c fv w
def Try.laysSlH10_f63_ren : Go.Shelf.Ren := ⟨fun | 10 => 63 | 6 => 68 | n => n, fun | 22 => 23 | 23 => 3 | 25 => 58 | 3 => 3 | 4 => 4 | 0 => 0 | n => n, fun | n => n⟩
theorem Try.laysSlH10_f63 : Go.Proofs.SlLaysH.n10 Try.prog Try.laysSlH10_f63_ren := {
  mixed := by kernel_rfl
  f6 := ⟨Try.f68.name, by decide, Try.func68.trans (congrArg some (by kernel_rfl))⟩
  f10 := ⟨Try.f63.name, by decide, Try.func63.trans (congrArg some (by kernel_rfl))⟩
  t0 := Try.underlying0
  a0 := Try.isAgg0
  z0 := Try.sizeOf0
  v0 := Try.zeroValue0
  t3 := Try.underlying3
  a3 := Try.isAgg3
  z3 := Try.sizeOf3
  v3 := Try.zeroValue3
  t4 := Try.underlying4
  a4 := Try.isAgg4
  z4 := Try.sizeOf4
  v4 := Try.zeroValue4
  t22 := Try.underlying23
  a22 := Try.isAgg23
  z22 := Try.sizeOf23
  v22 := Try.zeroValue23
  a23 := Try.isAgg3
  z23 := Try.sizeOf3
  t25 := Try.underlying58
  a25 := Try.isAgg58
  z25 := Try.sizeOf58
  v25 := Try.zeroValue58 }
open Go.RowKit Go.Lib Go.Sort in
theorem Try.slices_DeleteFunc {α : Type} [Inhabited α] (enc : α → Value) (hO : OneCell enc) (p : α → Bool) (g : Nat) (lb : Array Value) (eg : ∀ args w, (callFunc g args).run Try.prog w = .ok (.enter g args) w) (zr : α) (v23 : ∀ w, (zeroValue 3).run Try.prog w = .ok (enc zr) w) (blk off cap : Nat) (d : Array α) (w : World) (hp : PredAt Try.prog g lb enc p w) (hpo : PredOver Try.prog g lb enc p blk off d.size w) (hH : Holds enc w blk off d) (hsz : d.size ≤ 9223372036854775807) (hcap : d.size ≤ cap) :
    Calls Try.prog 63 #[.slice (some ⟨blk, off, none⟩) d.size cap, .func (.func g) #[] lb] w fun e w' => e = .returned (.slice (some ⟨blk, off, none⟩) (d.toList.filter fun x => !p x).length cap) ∧ ∃ q, w' = putRow enc (Sort.ahead w q) blk off ((d.toList.filter fun x => !p x) ++ List.replicate (d.size - (d.toList.filter fun x => !p x).length) zr).toArray := AnyE.slices_DeleteFunc Try.laysSlH10_f63 enc hO p g lb eg zr v23 blk off cap d w hp hpo hH hsz hcap
end Go.Proofs

/-
  The predicate of transfer, slices.ContainsFunc and DeleteFunc with it. Conditions: where the controller and the words lie; a row of the call's own.
-/
namespace Go.Proofs.Ytjolhlfjpnlcnaa
open Go.RowKit Go.Lib Go.Sort
set_option linter.unusedSimpArgs false
set_option linter.unusedVariables false
set_option maxHeartbeats 4000000
set_option maxRecDepth 100000
attribute [local irreducible] wpQuiet

theorem pin_gives (x a : Int) (ws : ByteArray) (n Bk Bw : Nat) (W : World) (ck : W.cell? ⟨Bk, 7, none⟩ = some (.int .i64 a)) (cw : W.cell? ⟨Bw, 0, none⟩ = some (.string ws)) (ha : 0 ≤ a ∧ a ≤ 65535) (hn : n ≤ 64) (hs : ws.size = 2 * n) : FnGives Try.prog 58 #[.pointer (some ⟨Bk, 0, none⟩), .pointer (some ⟨Bw, 0, none⟩)] #[.int .i64 x] (.bool (inI a n x)) W := by
  show Calls Try.prog 58 #[.int .i64 x, .pointer (some ⟨Bk, 0, none⟩), .pointer (some ⟨Bw, 0, none⟩)] W _
  have w1 : IntKind.i64.wrap (a + (ws.size : Int)) = a + 2 * (n : Int) := by rw [hs, wrap_i64]; unfold wrap64; omega
  unfold inI
  by_cases h1 : a ≤ x
  · have d1 : decide (a ≤ x) = true := decide_eq_true h1
    go_enter Try.func58, Try.ntmps58
    go_wp2
    go_ret
    exact ⟨by simp [d1], 0, rfl⟩
  · have d1 : decide (a ≤ x) = false := decide_eq_false h1
    go_enter Try.func58, Try.ntmps58
    go_wp2
    go_ret
    exact ⟨by simp [d1], 0, rfl⟩
theorem pin_at (a : Int) (ws : ByteArray) (n Bk Bw : Nat) (w : World) (hk : Bk < w.heap.size) (hw : Bw < w.heap.size) (ck : w.cell? ⟨Bk, 7, none⟩ = some (.int .i64 a)) (cw : w.cell? ⟨Bw, 0, none⟩ = some (.string ws)) (ha : 0 ≤ a ∧ a ≤ 65535) (hn : n ≤ 64) (hs : ws.size = 2 * n) : PredAt Try.prog 58 #[.pointer (some ⟨Bk, 0, none⟩), .pointer (some ⟨Bw, 0, none⟩)] (Value.int .i64) (inI a n) w :=
  fun W x hb => pin_gives x a ws n Bk Bw W ((hb.cell (p := ⟨Bk, 7, none⟩) hk).trans ck) ((hb.cell (p := ⟨Bw, 0, none⟩) hw).trans cw) ha hn hs
theorem pin_over (a : Int) (ws : ByteArray) (n Bk Bw blk off size : Nat) (w : World) (hk : Bk < w.heap.size) (hw : Bw < w.heap.size) (hkb : Bk ≠ blk) (hwb : Bw ≠ blk) (ck : w.cell? ⟨Bk, 7, none⟩ = some (.int .i64 a)) (cw : w.cell? ⟨Bw, 0, none⟩ = some (.string ws)) (ha : 0 ≤ a ∧ a ≤ 65535) (hn : n ≤ 64) (hs : ws.size = 2 * n) : PredOver Try.prog 58 #[.pointer (some ⟨Bk, 0, none⟩), .pointer (some ⟨Bw, 0, none⟩)] (Value.int .i64) (inI a n) blk off size w :=
  fun m os dk x _ => pin_gives x a ws n Bk Bw _ (by
    unfold sortWorld
    rw [cell?_grow _ _ _ (by show Bk < (putRow _ _ _ _ _).heap.size; rw [size_putRow]; exact hk), cell?_putRow_other _ _ blk off _ _ (Or.inl hkb)]
    exact ck) (by
    unfold sortWorld
    rw [cell?_grow _ _ _ (by show Bw < (putRow _ _ _ _ _).heap.size; rw [size_putRow]; exact hw), cell?_putRow_other _ _ blk off _ _ (Or.inl hwb)]
    exact cw) ha hn hs
theorem pin_enters : ∀ args w, (callFunc 58 args).run Try.prog w = .ok (.enter 58 args) w := enters_of Try.func58 (by kernel_rfl) rfl
theorem pctf_own (a : Int) (n : Nat) (B : List Int) (ws : ByteArray) (Bk Bw N : Nat) (v : Value) (w : World) (hown : w.ownsRow N 3 1 v B.length (B.map (Value.int .i64))) (hl : B.length ≤ 1099511627776) (hk : Bk < w.heap.size) (hw : Bw < w.heap.size) (ck : w.cell? ⟨Bk, 7, none⟩ = some (.int .i64 a)) (cw : w.cell? ⟨Bw, 0, none⟩ = some (.string ws)) (ha : 0 ≤ a ∧ a ≤ 65535) (hn : n ≤ 64) (hs : ws.size = 2 * n) : Calls Try.prog 59 #[v, .func (.func 58) #[] #[.pointer (some ⟨Bk, 0, none⟩), .pointer (some ⟨Bw, 0, none⟩)]] w fun e' w' => e' = .returned (.bool (spV B a n)) ∧ Below w.heap.size w w' := by
  rcases hown.2 with ⟨rfl, h0⟩ | ⟨g, cap, cur, rfl, hg, hh, hnc, hm', hcs, htk⟩
  · obtain rfl : B = [] := List.eq_nil_of_length_eq_zero h0
    refine (Try.slices_ContainsFunc_empty (α := Int) none 0 _ w).mono ?_
    rintro e w' ⟨rfl, rfl⟩
    exact ⟨rfl, Below.refl _ _⟩
  · rw [Nat.mul_one] at htk
    have hH := holds_of_block_i (ss := B) hh htk
    refine (Try.slices_ContainsFunc (Value.int .i64) (inI a n) 58 #[.pointer (some ⟨Bk, 0, none⟩), .pointer (some ⟨Bw, 0, none⟩)] pin_enters g 0 B.length cap B w (pin_at a ws n Bk Bw w hk hw ck cw ha hn hs) (Nat.le_refl _) (by omega) (fun j hj => ?_)).mono ?_
    · have h := (hH j (by simpa using hj)).1
      rw [h]
      simp [hj]
    · rintro e w' ⟨rfl, q, rfl⟩
      refine ⟨?_, below_drewN' (Below.refl _ _) q⟩
      rw [List.take_length]; rfl
theorem ownsRow_filtered {w : World} {base g cap q : Nat} {e : TypeId} {cur : Array Value} {F Zr : List Int} (hbase : base ≤ g) (hb : w.heap[g]? = some (.cells cur e (0, 0))) (h1 : F.length + Zr.length ≤ cap) (h2 : cap ≤ maxLen) (h3 : cur.size = cap * 1) : (putRow (Value.int .i64) (Sort.ahead w q) g 0 (F ++ Zr).toArray).ownsRow base e 1 (.slice (some ⟨g, 0, none⟩) F.length cap) F.length (F.map (Value.int .i64)) := by
  have hh := heap_sorted_i (n := q) (os := #[]) (F ++ Zr).toArray hb
  rw [grow_empty] at hh
  refine ⟨by simp, .inr ⟨g, cap, _, rfl, hbase, hh, by omega, h2, ?_, ?_⟩⟩
  · rw [← h3]; simp [putCells]
  · have := take_putCells_i cur (F ++ Zr) (by rw [List.length_append, h3]; omega)
    have e2 := congrArg (List.take F.length) this
    rw [List.take_take, Nat.min_eq_left (by simp), List.map_append, List.take_left' (by simp)] at e2
    rw [Nat.mul_one]
    exact e2
theorem pdel_own (a : Int) (n : Nat) (B : List Int) (ws : ByteArray) (Bk Bw N : Nat) (v : Value) (w : World) (hown : w.ownsRow N 3 1 v B.length (B.map (Value.int .i64))) (hl : B.length ≤ 1099511627776) (hk : Bk < w.heap.size) (hw : Bw < w.heap.size) (hkb : ∀ g m c, v = .slice (some g) m c → Bk ≠ g.block) (hwb : ∀ g m c, v = .slice (some g) m c → Bw ≠ g.block) (ck : w.cell? ⟨Bk, 7, none⟩ = some (.int .i64 a)) (cw : w.cell? ⟨Bw, 0, none⟩ = some (.string ws)) (ha : 0 ≤ a ∧ a ≤ 65535) (hn : n ≤ 64) (hs : ws.size = 2 * n) : Calls Try.prog 63 #[v, .func (.func 58) #[] #[.pointer (some ⟨Bk, 0, none⟩), .pointer (some ⟨Bw, 0, none⟩)]] w fun e' w' => ∃ v', e' = .returned v' ∧ w'.ownsRow N 3 1 v' (outB B a n).length ((outB B a n).map (Value.int .i64)) ∧ w.grownBy w' v.ownBlock := by
  rcases hown.2 with ⟨rfl, h0⟩ | ⟨g, cap, cur, rfl, hg, hh, hnc, hm', hcs, htk⟩
  · obtain rfl : B = [] := List.eq_nil_of_length_eq_zero h0
    go_enter Try.func63, Try.ntmps63
    go_wp2_with (first | (go_at_call 68; (with_reducible refine (Try.slices_IndexFunc_empty (α := Int) none 0 _ _).mono ?_); rintro e' wc ⟨rfl, rfl⟩))
    go_ret
    exact ⟨_, rfl, World.ownsRow_nil _ _ _ _, World.grownBy.refl _ _⟩
  · rw [Nat.mul_one] at htk
    have hH := holds_of_block_i (ss := B) hh htk
    refine (Try.slices_DeleteFunc (Value.int .i64) (fun _ => rfl) (inI a n) 58 #[.pointer (some ⟨Bk, 0, none⟩), .pointer (some ⟨Bw, 0, none⟩)] pin_enters 0 Try.zeroValue3 g 0 cap B.toArray w (pin_at a ws n Bk Bw w hk hw ck cw ha hn hs) (pin_over a ws n Bk Bw g 0 _ w hk hw (hkb _ _ _ rfl) (hwb _ _ _ rfl) ck cw ha hn hs) hH (by simp; omega) (by simpa using hnc)).mono ?_
    rintro e w' ⟨rfl, q, rfl⟩
    have hf : (B.toArray.toList.filter fun x => !inI a n x) = outB B a n := outB_filter B a n
    rw [hf]
    have hle : (outB B a n).length ≤ B.length := by rw [← outB_filter]; exact List.length_filter_le _ _
    refine ⟨_, rfl, ownsRow_filtered hg hh (by rw [List.length_replicate, List.size_toArray]; omega) hm' hcs, ?_⟩
    have h := grownBy_sorted_i (w := w) (g := g) (n := q) (os := #[]) ((outB B a n ++ List.replicate (B.toArray.size - (outB B a n).length) 0).toArray)
    rw [grow_empty] at h
    exact h
end Go.Proofs.Ytjolhlfjpnlcnaa

/-
  advanced, transfer of the program: ways that fail; write; check. Conditions: a valid drive, words of 16 bits.
-/
namespace Go.Proofs.Ytjolhlfjpnlcnaa
open Go.RowKit
set_option linter.unusedSimpArgs false
set_option linter.unusedVariables false
set_option maxHeartbeats 4000000
set_option maxRecDepth 100000
attribute [local irreducible] wpQuiet
theorem results_ct3 {P : Program} {fn : Func} {tmps : Array Value} {w : World} {j k m o : Tmp} {T : TypeId} {a : Addr} {v : Value} (hr : fn.results = #[.cell j T, .tmp k, .tmp m, .tmp o]) (ha : tmps.getD j undef = .pointer (some a)) (hl : (Go.loadVar T a).run P w = .ok v w) :
    (results fn tmps).run P w = .ok (.tuple #[v, tmps.getD k undef, tmps.getD m undef, tmps.getD o undef]) w := by
  unfold results
  rw [hr]
  have ha' := ha
  rw [Array.getD_eq_getD_getElem?] at ha'
  simp [ha', asAddr, hl]

/-- The world behind a transfer: its answer; the row of bad addresses is touched only if there was no error. -/
def TrSays (K' : Dk) (ok : Bool) (m' B' : List Int) (X : Nat → Prop) (wN w : World) (e' : Ending) (w' : World) : Prop := ∃ x y z, e' = .returned (.tuple #[x, y, z, .bool ok]) ∧ DkX X w' x K' ∧ (ok = true → ItsX X w' y m' ∧ ItsX X w' z B') ∧ Below wN.heap.size wN w' ∧ (ok = false → Below w.heap.size w w')
theorem padv_any (D : Drv) (n e : Bool) (c a s : Int) (w1 : Int) (q : Nat) (hq : q = min w1.toNat 64) (hw0 : 1 ≤ w1) (hw1 : w1 ≤ 65535) (ha : 0 ≤ a ∧ a ≤ 65535) (hs : 0 ≤ s ∧ s ≤ 65535) (l : Int) (vs vb : Value) (h1 : vs.oneCell' = true) (h2 : vb.oneCell' = true) (w : World) : Calls Try.prog 44 #[.agg #[vs, vb, .bool n, .bool false, .bool e, .int .i64 c, .int .i64 w1, .int .i64 a, .int .i64 s, .int .i64 0], .int .i64 (q : Int)] w fun e' w' => e' = .returned (.agg #[vs, vb, .bool ((Dk.mk D n false e c w1 a s l).adv D).n, .bool ((Dk.mk D n false e c w1 a s l).adv D).r, .bool ((Dk.mk D n false e c w1 a s l).adv D).e, .int .i64 ((Dk.mk D n false e c w1 a s l).adv D).c, .int .i64 ((Dk.mk D n false e c w1 a s l).adv D).w, .int .i64 ((Dk.mk D n false e c w1 a s l).adv D).a, .int .i64 ((Dk.mk D n false e c w1 a s l).adv D).s, .int .i64 ((Dk.mk D n false e c w1 a s l).adv D).l]) ∧ Below w.heap.size w w' := by
  have h64 : (Dk.mk D n false e c w1 a s l).n64 = q := by rw [hq]; rfl
  have hq1 : (q : Int) ≤ 64 := by omega
  have hq2 : (q : Int) ≤ w1 := by omega
  clear hq
  unfold Dk.adv
  rw [h64]
  clear h64
  dsimp only
  have hX := two_dk w [vs, vb, .bool n, .bool false, .bool e, .int .i64 c, .int .i64 w1, .int .i64 a, .int .i64 s, .int .i64 0] [.slice none 0 0, .slice none 0 0, .bool false, .bool false, .bool false, .int .i64 0, .int .i64 0, .int .i64 0, .int .i64 0, .int .i64 0]
  have x1 : IntKind.i64.wrap (w1 - (q : Int)) = w1 - (q : Int) := by rw [wrap_i64]; unfold wrap64; omega
  have x2 : IntKind.i64.wrap ((q : Int) * 2) = 2 * (q : Int) := by rw [wrap_i64]; unfold wrap64; omega
  have x3 : IntKind.i64.wrap (a + 2 * (q : Int)) = a + 2 * (q : Int) := by rw [wrap_i64]; unfold wrap64; omega
  have x4 : bits .and .i64 (a + 2 * (q : Int)) 65535 = (a + 2 * (q : Int)) % 65536 := i_and (c := 65535) (by decide) (field _ 0 16) (by intro h; omega)
  have x5 : IntKind.i64.wrap (s + 1) = s + 1 := by rw [wrap_i64]; unfold wrap64; omega
  have x6 : bits .and .i64 (s + 1) 65535 = (s + 1) % 65536 := i_and (c := 65535) (by decide) (field _ 0 16) (by intro h; omega)
  by_cases h : w1 - (q : Int) = 0
  · have d : (w1 - (q : Int) == 0) = true := by simpa using h
    rw [decide_eq_true h, if_pos h, h]
    go_enter Try.func44, Try.ntmps44
    go_wp2_with (first | ((with_reducible refine at_load ?_); refine wpList_bag_cell hX int_cell _ rfl rfl rfl rfl (by first | exact .head _ | exact .tail _ (.head _)) rfl ?_) | ((with_reducible refine at_load ?_); refine wpList_bag_part (k := 0) hX aggK sizK _ rfl rfl rfl rfl (by first | exact .head _ | exact .tail _ (.head _)) (fun jz vz hz => (congrArg (fun n => ([_, _, _, _, _, _, _, _, _, _] : List Value)[n]?) (Nat.zero_add jz)).trans hz) rfl ?_) | ((with_reducible refine at_store ?_); refine wpList_bag_putV (z := .bool _) hX.swap siz_bool _ _ rfl rfl rfl rfl rfl rfl (by simp) rfl rfl ?_; intro wp hX3 hk3 hz3; clear hz3; clear hX; have hX := hX3.swap; clear hk3 hX3; simp only [List.set_cons_zero, List.set_cons_succ] at hX) | ((with_reducible refine at_store ?_); refine wpList_bag_putV (z := .int .i64 _) hX.swap siz_int _ _ rfl rfl rfl rfl rfl rfl (by simp) rfl rfl ?_; intro wp hX3 hk3 hz3; clear hz3; clear hX; have hX := hX3.swap; clear hk3 hX3; simp only [List.set_cons_zero, List.set_cons_succ] at hX) | ((with_reducible refine at_store ?_); refine wpList_bag_overV (cs' := [vs, vb, .bool n, .bool true, .bool e, .int .i64 c, .int .i64 0, .int .i64 ((a + 2 * (q : Int)) % 65536), .int .i64 ((s + 1) % 65536), .int .i64 0]) hX aggK sizK _ _ rfl rfl rfl rfl rfl rfl rfl rfl (one_dk h1 h2 _ _ _ _ _ _ _ _) ?_; clear hX; intro wz hX hkz; clear hkz))
    exact bodyPost_ret (results_c Try.results44 rfl ((hX.all _ _ _ (.head _)).loadVar rfl aggK sizK)) rfl ⟨rfl, hX.below⟩
  · have d : (w1 - (q : Int) == 0) = false := by simpa using h
    rw [decide_eq_false h, if_neg h]
    go_enter Try.func44, Try.ntmps44
    go_wp2_with (first | ((with_reducible refine at_load ?_); refine wpList_bag_cell hX int_cell _ rfl rfl rfl rfl (by first | exact .head _ | exact .tail _ (.head _)) rfl ?_) | ((with_reducible refine at_load ?_); refine wpList_bag_part (k := 0) hX aggK sizK _ rfl rfl rfl rfl (by first | exact .head _ | exact .tail _ (.head _)) (fun jz vz hz => (congrArg (fun n => ([_, _, _, _, _, _, _, _, _, _] : List Value)[n]?) (Nat.zero_add jz)).trans hz) rfl ?_) | ((with_reducible refine at_store ?_); refine wpList_bag_putV (z := .bool _) hX.swap siz_bool _ _ rfl rfl rfl rfl rfl rfl (by simp) rfl rfl ?_; intro wp hX3 hk3 hz3; clear hz3; clear hX; have hX := hX3.swap; clear hk3 hX3; simp only [List.set_cons_zero, List.set_cons_succ] at hX) | ((with_reducible refine at_store ?_); refine wpList_bag_putV (z := .int .i64 _) hX.swap siz_int _ _ rfl rfl rfl rfl rfl rfl (by simp) rfl rfl ?_; intro wp hX3 hk3 hz3; clear hz3; clear hX; have hX := hX3.swap; clear hk3 hX3; simp only [List.set_cons_zero, List.set_cons_succ] at hX) | ((with_reducible refine at_store ?_); refine wpList_bag_overV (cs' := [vs, vb, .bool n, .bool false, .bool e, .int .i64 c, .int .i64 (w1 - (q : Int)), .int .i64 ((a + 2 * (q : Int)) % 65536), .int .i64 ((s + 1) % 65536), .int .i64 8]) hX aggK sizK _ _ rfl rfl rfl rfl rfl rfl rfl rfl (one_dk h1 h2 _ _ _ _ _ _ _ _) ?_; clear hX; intro wz hX hkz; clear hkz))
    exact bodyPost_ret (results_c Try.results44 rfl ((hX.all _ _ _ (.head _)).loadVar rfl aggK sizK)) rfl ⟨rfl, hX.below⟩
section
variable {ops : Array Oper} {rest : List Oper} {o : Oper} {a : Act} {w w0 w1 : World} {Q : Exit → Act → World → Prop} {l : List (Nat × TypeId × List Value)}
/-- One cell is stored into a box that has just been made. -/
theorem wpList_bag_new1 {t T : TypeId} {z0 z : Value} (hX : Bag l w0 w) (hsz : ∀ w, (sizeOf T).run Try.prog w = .ok 1 w) (x y : Operand) (hop : o.op = Op.store T x y) (hal : w1 = w.alloc (.cells #[z0] t)) (hx : a.eval x = .pointer (some ⟨w.heap.size, 0, none⟩)) (hy : a.eval y = z) (hdst : o.dst = none) (hw : Region.wanted o (yielded ops a.tmps) = true) (hz : z.cells = #[z]) (h1 : z.oneCell' = true)
    (h : ∀ w2, Bag ((w.heap.size, t, [z]) :: l) w0 w2 → Below w.heap.size w w2 → wpList Try.prog ops Q rest a w2) : wpList Try.prog ops Q (o :: rest) a w1 := by
  subst hal
  have hX2 := hX.new t [z0]
  have hr := (hX2.all _ _ _ List.mem_cons_self).put_run (P := Try.prog) (v := z) (k := 0) (by simp) h1
  exact BigFrame.wpList_want hw fun _ hK => by
    unfold Oper.wp execOp
    simp only [hop, hx, hy, hz, Instr.storeAt, Instr.sureAddr, storeVar, hr, hsz, List.size_toArray, List.length_cons, List.length_nil, ne_eq, not_true_eq_false, if_false, Sem.run_bind, Sem.run_pure, Result.andThen_ok]
    exact hK _ _ (by rw [hdst]; exact h _ (hX2.over _) (below_setRow ((Below.refl _ _).alloc (Nat.le_refl _) _) (Nat.le_refl _) _))
end
theorem bytes_far {L : Nat} {A q : Nat} (h : 2 * (L : Int) < 2 * (A : Int) + 2 * (q : Int)) : bytesE (2 * (L : Int)) (2 * (A : Int)) (2 * (q : Int)) = 2 := by
  unfold bytesE inR; rw [if_neg]; simp; omega
theorem inR_near {L : Nat} {A q : Nat} (h : ¬ 2 * (L : Int) < 2 * (A : Int) + 2 * (q : Int)) : inR (2 * (L : Int)) (2 * (A : Int)) (2 * (q : Int)) = true := by
  unfold inR; simp; omega
theorem bytes_near {L : Nat} {A q : Nat} (h : ¬ 2 * (L : Int) < 2 * (A : Int) + 2 * (q : Int)) : bytesE (2 * (L : Int)) (2 * (A : Int)) (2 * (q : Int)) = 0 := by
  unfold bytesE; rw [inR_near h]; rfl
theorem bytesS_near {m : List Int} {A q : Nat} (h : ¬ 2 * (m.length : Int) < 2 * (A : Int) + 2 * (q : Int)) : (⟨(bytesS m (2 * (A : Int)) (2 * (q : Int))).toArray⟩ : ByteArray) = wsV m A q := by
  unfold bytesS wsV
  rw [inR_near h, if_pos rfl, show (2 * (A : Int)).toNat = 2 * A by omega, show (2 * (q : Int)).toNat = 2 * q by omega]
theorem Bag.base {l : List (Nat × TypeId × List Value)} {w00 w0 w : World} (h : Bag l w0 w) (hb : Below w00.heap.size w00 w0) : Bag l w00 w := ⟨h.all, hb.trans (h.below.mono hb.size), fun b hm => Nat.le_trans hb.size (h.lo b hm), h.dis⟩
theorem ptr_far (D : Drv) (n r e : Bool) (c s : Int) (A : Nat) (w1 l : Int) (q : Nat) (hq : q ≤ 64) (hA : A ≤ 32767) (m B : List Int) (vs vb vm vz : Value) (X : Nat → Prop) (wN w : World) (hN : Below wN.heap.size wN w) (hXN : ∀ b, X b → b < wN.heap.size) (hs : StsX X wN vs D.S) (hb : ItsX X wN vb D.B) (hm : ItsX X wN vm m) (hz : w.ownsRow wN.heap.size 3 1 vz B.length (B.map (Value.int .i64))) (hml : m.length ≤ 1099511627776) (hzl : B.length ≤ 1099511627776) (hD : D.right = true) (hw : ∀ x ∈ m, 0 ≤ x ∧ x ≤ 65535) (hf : 2 * (m.length : Int) < 2 * (A : Int) + 2 * (q : Int)) : Calls Try.prog 43 #[.agg #[vs, vb, .bool n, .bool r, .bool e, .int .i64 c, .int .i64 w1, .int .i64 (2 * (A : Int)), .int .i64 s, .int .i64 l], vm, vz, .int .i64 (q : Int)] w (TrSays (Dk.mk D n r e c w1 (2 * (A : Int)) s l) false m B X wN w) := by
  have hsw := hs.below hN
  have hbw := hb.below hN
  have hmw := hm.below hN
  have o1 := sts_one hsw.now
  have o2 := its_one hbw.now
  have x1 : IntKind.i64.wrap ((q : Int) * 2) = 2 * (q : Int) := by rw [wrap_i64]; unfold wrap64; omega
  have hby := fun wz (h : Below w.heap.size w wz) => bytes_any vm m hml (2 * (A : Int)) (2 * (q : Int)) (by omega) wz (Its.nums (hmw.below h).now)
  have hzz : ItsX X w vz B := Sv.of_own hz hXN
  rw [bytes_far hf] at hby
  generalize (⟨(bytesS m (2 * (A : Int)) (2 * (q : Int))).toArray⟩ : ByteArray) = WW at hby
  have hX := two_dk w [vs, vb, .bool n, .bool r, .bool e, .int .i64 c, .int .i64 w1, .int .i64 (2 * (A : Int)), .int .i64 s, .int .i64 l] [.slice none 0 0, .slice none 0 0, .bool false, .bool false, .bool false, .int .i64 0, .int .i64 0, .int .i64 0, .int .i64 0, .int .i64 0]
  go_enter Try.func43, Try.ntmps43
  go_wp2_with (first | (go_at_call 57; (with_reducible refine (hby _ hX.below).mono ?_); rintro e' wc ⟨rfl, hbb⟩; replace hX := hX.step hbb; clear hbb) | ((with_reducible refine at_store ?_); refine wpList_bag_new1 (z := .string _) hX siz_s _ _ rfl rfl rfl rfl rfl rfl rfl rfl ?_; clear hX; intro wb hX hb8; clear hb8) | ((with_reducible refine at_load ?_); refine wpList_bag_cell hX int_cell _ rfl rfl rfl rfl (by first | exact .head _ | exact .tail _ (.head _) | exact .tail _ (.tail _ (.head _))) rfl ?_) | ((with_reducible refine at_load ?_); refine wpList_bag_cell hX bool_cell _ rfl rfl rfl rfl (by first | exact .head _ | exact .tail _ (.head _) | exact .tail _ (.tail _ (.head _))) rfl ?_) | ((with_reducible refine at_load ?_); refine wpList_bag_cell hX str_cell _ rfl rfl rfl rfl (by first | exact .head _ | exact .tail _ (.head _) | exact .tail _ (.tail _ (.head _))) rfl ?_) | ((with_reducible refine at_load ?_); refine wpList_bag_part (k := 0) hX aggK sizK _ rfl rfl rfl rfl (by first | exact .head _ | exact .tail _ (.head _) | exact .tail _ (.tail _ (.head _))) (fun jz vz hz => (congrArg (fun n => ([_, _, _, _, _, _, _, _, _, _] : List Value)[n]?) (Nat.zero_add jz)).trans hz) rfl ?_) | ((with_reducible refine at_load ?_); refine wpList_bag_part (k := 0) (ds := [_, _]) hX aggD sizD _ rfl rfl rfl rfl (by first | exact .head _ | exact .tail _ (.head _) | exact .tail _ (.tail _ (.head _))) (fun jz vz hz => by rcases jz with _ | _ | jz <;> first | exact hz | (simp at hz)) rfl ?_) | ((with_reducible refine at_store ?_); refine wpList_bag_overV (cs' := [vs, vb, .bool n, .bool r, .bool e, .int .i64 c, .int .i64 w1, .int .i64 (2 * (A : Int)), .int .i64 s, .int .i64 l]) hX.swap aggK sizK _ _ rfl rfl rfl rfl rfl rfl rfl rfl (one_dk o1 o2 _ _ _ _ _ _ _ _) ?_; clear hX; intro wz hX hkz; clear hkz))
  first | exact bodyPost_ret (results_ct3 Try.results43 rfl ((hX.all _ _ _ (.head _)).loadVar rfl aggK sizK)) rfl ⟨_, _, _, rfl, ⟨_, _, rfl, hsw.below hX.below, hbw.below hX.below⟩, fun _ => ⟨hmw.below hX.below, hzz.below hX.below⟩, hN.trans (hX.below.mono hN.size), fun _ => hX.below⟩ | exact bodyPost_ret (results_ct3 Try.results43 rfl ((hX.all _ _ _ (.tail _ (.head _))).loadVar rfl aggK sizK)) rfl ⟨_, _, _, rfl, ⟨_, _, rfl, hsw.below hX.below, hbw.below hX.below⟩, fun _ => ⟨hmw.below hX.below, hzz.below hX.below⟩, hN.trans (hX.below.mono hN.size), fun _ => hX.below⟩ | exact bodyPost_ret (results_ct3 Try.results43 rfl ((hX.all _ _ _ (.tail _ (.tail _ (.head _)))).loadVar rfl aggK sizK)) rfl ⟨_, _, _, rfl, ⟨_, _, rfl, hsw.below hX.below, hbw.below hX.below⟩, fun _ => ⟨hmw.below hX.below, hzz.below hX.below⟩, hN.trans (hX.below.mono hN.size), fun _ => hX.below⟩
theorem ptr_sp (D : Drv) (n r e : Bool) (c s : Int) (A : Nat) (w1 l : Int) (q : Nat) (hq : q ≤ 64) (hA : A ≤ 32767) (m B : List Int) (vs vb vm vz : Value) (X : Nat → Prop) (wN w : World) (hN : Below wN.heap.size wN w) (hXN : ∀ b, X b → b < wN.heap.size) (hs : StsX X wN vs D.S) (hb : ItsX X wN vb D.B) (hm : ItsX X wN vm m) (hz : w.ownsRow wN.heap.size 3 1 vz B.length (B.map (Value.int .i64))) (hml : m.length ≤ 1099511627776) (hzl : B.length ≤ 1099511627776) (hD : D.right = true) (hw : ∀ x ∈ m, 0 ≤ x ∧ x ≤ 65535) (hf : ¬ 2 * (m.length : Int) < 2 * (A : Int) + 2 * (q : Int)) (hc : c ≠ 1) (hp : spV B (2 * (A : Int)) q = true) : Calls Try.prog 43 #[.agg #[vs, vb, .bool n, .bool r, .bool e, .int .i64 c, .int .i64 w1, .int .i64 (2 * (A : Int)), .int .i64 s, .int .i64 l], vm, vz, .int .i64 (q : Int)] w (TrSays (Dk.mk D n r e c w1 (2 * (A : Int)) s l) false m B X wN w) := by
  have hsw := hs.below hN
  have hbw := hb.below hN
  have hmw := hm.below hN
  have o1 := sts_one hsw.now
  have o2 := its_one hbw.now
  have x1 : IntKind.i64.wrap ((q : Int) * 2) = 2 * (q : Int) := by rw [wrap_i64]; unfold wrap64; omega
  have hby := fun wz (h : Below w.heap.size w wz) => bytes_any vm m hml (2 * (A : Int)) (2 * (q : Int)) (by omega) wz (Its.nums (hmw.below h).now)
  have hzz : ItsX X w vz B := Sv.of_own hz hXN
  rw [bytes_near hf, bytesS_near hf] at hby
  have hws := wsV_size m A q
  have hX := two_dk w [vs, vb, .bool n, .bool r, .bool e, .int .i64 c, .int .i64 w1, .int .i64 (2 * (A : Int)), .int .i64 s, .int .i64 l] [.slice none 0 0, .slice none 0 0, .bool false, .bool false, .bool false, .int .i64 0, .int .i64 0, .int .i64 0, .int .i64 0, .int .i64 0]
  have hct := fun (wb : Nat) wz (h : Below w.heap.size w wz) (hX : Bag [(wb, 9, [.string (wsV m A q)]), (w.heap.size + 1, 27, [.slice none 0 0, .slice none 0 0, .bool false, .bool false, .bool false, .int .i64 0, .int .i64 0, .int .i64 0, .int .i64 0, .int .i64 0]), (w.heap.size, 27, [vs, vb, .bool n, .bool r, .bool e, .int .i64 c, .int .i64 w1, .int .i64 (2 * (A : Int)), .int .i64 s, .int .i64 l])] w wz) => pctf_own (2 * (A : Int)) q B (wsV m A q) w.heap.size wb wN.heap.size vz wz (own_step hz h) hzl (hX.all _ _ _ (.tail _ (.tail _ (.head _)))).lt (hX.all _ _ _ (.head _)).lt ((hX.all _ _ _ (.tail _ (.tail _ (.head _)))).cell (k := 7) rfl) ((hX.all _ _ _ (.head _)).cell (k := 0) rfl) (by omega) hq hws
  rw [hp] at hct
  have dc : (c != 1) = true := by simpa using hc
  go_enter Try.func43, Try.ntmps43
  go_wp2_with (first | (go_at_call 57; (with_reducible refine (hby _ hX.below).mono ?_); rintro e' wc ⟨rfl, hbb⟩; replace hX := hX.step hbb; clear hbb) | ((with_reducible refine at_store ?_); refine wpList_bag_new1 (z := .string _) hX siz_s _ _ rfl rfl rfl rfl rfl rfl rfl rfl ?_; clear hX; intro wb hX hb8; clear hb8) | (go_at_call 59; (with_reducible refine (hct _ _ hX.below hX).mono ?_); rintro e' wc ⟨rfl, hbb⟩; replace hX := hX.step hbb; clear hbb) | ((with_reducible refine at_load ?_); refine wpList_bag_cell hX int_cell _ rfl rfl rfl rfl (by first | exact .head _ | exact .tail _ (.head _) | exact .tail _ (.tail _ (.head _))) rfl ?_) | ((with_reducible refine at_load ?_); refine wpList_bag_cell hX bool_cell _ rfl rfl rfl rfl (by first | exact .head _ | exact .tail _ (.head _) | exact .tail _ (.tail _ (.head _))) rfl ?_) | ((with_reducible refine at_load ?_); refine wpList_bag_cell hX str_cell _ rfl rfl rfl rfl (by first | exact .head _ | exact .tail _ (.head _) | exact .tail _ (.tail _ (.head _))) rfl ?_) | ((with_reducible refine at_load ?_); refine wpList_bag_part (k := 0) hX aggK sizK _ rfl rfl rfl rfl (by first | exact .head _ | exact .tail _ (.head _) | exact .tail _ (.tail _ (.head _))) (fun jz vz hz => (congrArg (fun n => ([_, _, _, _, _, _, _, _, _, _] : List Value)[n]?) (Nat.zero_add jz)).trans hz) rfl ?_) | ((with_reducible refine at_load ?_); refine wpList_bag_part (k := 0) (ds := [_, _]) hX aggD sizD _ rfl rfl rfl rfl (by first | exact .head _ | exact .tail _ (.head _) | exact .tail _ (.tail _ (.head _))) (fun jz vz hz => by rcases jz with _ | _ | jz <;> first | exact hz | (simp at hz)) rfl ?_) | ((with_reducible refine at_store ?_); refine wpList_bag_overV (cs' := [vs, vb, .bool n, .bool r, .bool e, .int .i64 c, .int .i64 w1, .int .i64 (2 * (A : Int)), .int .i64 s, .int .i64 l]) hX.swap aggK sizK _ _ rfl rfl rfl rfl rfl rfl rfl rfl (one_dk o1 o2 _ _ _ _ _ _ _ _) ?_; clear hX; intro wz hX hkz; clear hkz))
  first | exact bodyPost_ret (results_ct3 Try.results43 rfl ((hX.all _ _ _ (.head _)).loadVar rfl aggK sizK)) rfl ⟨_, _, _, rfl, ⟨_, _, rfl, hsw.below hX.below, hbw.below hX.below⟩, fun _ => ⟨hmw.below hX.below, hzz.below hX.below⟩, hN.trans (hX.below.mono hN.size), fun _ => hX.below⟩ | exact bodyPost_ret (results_ct3 Try.results43 rfl ((hX.all _ _ _ (.tail _ (.head _))).loadVar rfl aggK sizK)) rfl ⟨_, _, _, rfl, ⟨_, _, rfl, hsw.below hX.below, hbw.below hX.below⟩, fun _ => ⟨hmw.below hX.below, hzz.below hX.below⟩, hN.trans (hX.below.mono hN.size), fun _ => hX.below⟩ | exact bodyPost_ret (results_ct3 Try.results43 rfl ((hX.all _ _ _ (.tail _ (.tail _ (.head _)))).loadVar rfl aggK sizK)) rfl ⟨_, _, _, rfl, ⟨_, _, rfl, hsw.below hX.below, hbw.below hX.below⟩, fun _ => ⟨hmw.below hX.below, hzz.below hX.below⟩, hN.trans (hX.below.mono hN.size), fun _ => hX.below⟩
theorem ptr_rd1 (D : Drv) (n r e : Bool) (s : Int) (A : Nat) (w1 l : Int) (q : Nat) (hq : q ≤ 64) (hA : A ≤ 32767) (m B : List Int) (vs vb vm vz : Value) (X : Nat → Prop) (wN w : World) (hN : Below wN.heap.size wN w) (hXN : ∀ b, X b → b < wN.heap.size) (hs : StsX X wN vs D.S) (hb : ItsX X wN vb D.B) (hm : ItsX X wN vm m) (hz : w.ownsRow wN.heap.size 3 1 vz B.length (B.map (Value.int .i64))) (hml : m.length ≤ 1099511627776) (hzl : B.length ≤ 1099511627776) (hD : D.right = true) (hw : ∀ x ∈ m, 0 ≤ x ∧ x ≤ 65535) (hf : ¬ 2 * (m.length : Int) < 2 * (A : Int) + 2 * (q : Int)) (he : (D.rd s).2 ≠ 0) : Calls Try.prog 43 #[.agg #[vs, vb, .bool n, .bool r, .bool e, .int .i64 1, .int .i64 w1, .int .i64 (2 * (A : Int)), .int .i64 s, .int .i64 l], vm, vz, .int .i64 (q : Int)] w (TrSays (Dk.mk D n r e 1 w1 (2 * (A : Int)) s l) false m B X wN w) := by
  have hsw := hs.below hN
  have hbw := hb.below hN
  have hmw := hm.below hN
  have o1 := sts_one hsw.now
  have o2 := its_one hbw.now
  have x1 : IntKind.i64.wrap ((q : Int) * 2) = 2 * (q : Int) := by rw [wrap_i64]; unfold wrap64; omega
  have hby := fun wz (h : Below w.heap.size w wz) => bytes_any vm m hml (2 * (A : Int)) (2 * (q : Int)) (by omega) wz (Its.nums (hmw.below h).now)
  have hzz : ItsX X w vz B := Sv.of_own hz hXN
  rw [bytes_near hf, bytesS_near hf] at hby
  have hws := wsV_size m A q
  have hX := two_dk w [vs, vb, .bool n, .bool r, .bool e, .int .i64 1, .int .i64 w1, .int .i64 (2 * (A : Int)), .int .i64 s, .int .i64 l] [.slice none 0 0, .slice none 0 0, .bool false, .bool false, .bool false, .int .i64 0, .int .i64 0, .int .i64 0, .int .i64 0, .int .i64 0]
  have hrd := fun wz (h : Below w.heap.size w wz) => pread_any D s hD vs vb wz (hsw.below h).now (hbw.below h).now
  generalize D.rd s = RD at hrd he
  obtain ⟨sv, ee⟩ := RD
  dsimp only at hrd he
  have de : (ee != 0) = true := by simpa using he
  go_enter Try.func43, Try.ntmps43
  go_wp2_with (first | (go_at_call 57; (with_reducible refine (hby _ hX.below).mono ?_); rintro e' wc ⟨rfl, hbb⟩; replace hX := hX.step hbb; clear hbb) | ((with_reducible refine at_store ?_); refine wpList_bag_new1 (z := .string _) hX siz_s _ _ rfl rfl rfl rfl rfl rfl rfl rfl ?_; clear hX; intro wb hX hb8; clear hb8) | (go_at_call 59; (with_reducible refine (hct _ _ hX.below hX).mono ?_); rintro e' wc ⟨rfl, hbb⟩; replace hX := hX.step hbb; clear hbb) | ((with_reducible refine at_load ?_); refine wpList_bag_cell hX int_cell _ rfl rfl rfl rfl (by first | exact .head _ | exact .tail _ (.head _) | exact .tail _ (.tail _ (.head _))) rfl ?_) | ((with_reducible refine at_load ?_); refine wpList_bag_cell hX bool_cell _ rfl rfl rfl rfl (by first | exact .head _ | exact .tail _ (.head _) | exact .tail _ (.tail _ (.head _))) rfl ?_) | ((with_reducible refine at_load ?_); refine wpList_bag_cell hX str_cell _ rfl rfl rfl rfl (by first | exact .head _ | exact .tail _ (.head _) | exact .tail _ (.tail _ (.head _))) rfl ?_) | ((with_reducible refine at_load ?_); refine wpList_bag_part (k := 0) hX aggK sizK _ rfl rfl rfl rfl (by first | exact .head _ | exact .tail _ (.head _) | exact .tail _ (.tail _ (.head _))) (fun jz vz hz => (congrArg (fun n => ([_, _, _, _, _, _, _, _, _, _] : List Value)[n]?) (Nat.zero_add jz)).trans hz) rfl ?_) | ((with_reducible refine at_load ?_); refine wpList_bag_part (k := 0) (ds := [_, _]) hX aggD sizD _ rfl rfl rfl rfl (by first | exact .head _ | exact .tail _ (.head _) | exact .tail _ (.tail _ (.head _))) (fun jz vz hz => by rcases jz with _ | _ | jz <;> first | exact hz | (simp at hz)) rfl ?_) | (go_at_call 61; (with_reducible refine (hrd _ hX.below).mono ?_); rintro e' wc ⟨rfl, hbb⟩; replace hX := hX.step hbb; clear hbb) | ((with_reducible refine at_store ?_); refine wpList_bag_overV (cs' := [vs, vb, .bool n, .bool r, .bool e, .int .i64 1, .int .i64 w1, .int .i64 (2 * (A : Int)), .int .i64 s, .int .i64 l]) hX.swap aggK sizK _ _ rfl rfl rfl rfl rfl rfl rfl rfl (one_dk o1 o2 _ _ _ _ _ _ _ _) ?_; clear hX; intro wz hX hkz; clear hkz))
  first | exact bodyPost_ret (results_ct3 Try.results43 rfl ((hX.all _ _ _ (.head _)).loadVar rfl aggK sizK)) rfl ⟨_, _, _, rfl, ⟨_, _, rfl, hsw.below hX.below, hbw.below hX.below⟩, fun _ => ⟨hmw.below hX.below, hzz.below hX.below⟩, hN.trans (hX.below.mono hN.size), fun _ => hX.below⟩ | exact bodyPost_ret (results_ct3 Try.results43 rfl ((hX.all _ _ _ (.tail _ (.head _))).loadVar rfl aggK sizK)) rfl ⟨_, _, _, rfl, ⟨_, _, rfl, hsw.below hX.below, hbw.below hX.below⟩, fun _ => ⟨hmw.below hX.below, hzz.below hX.below⟩, hN.trans (hX.below.mono hN.size), fun _ => hX.below⟩ | exact bodyPost_ret (results_ct3 Try.results43 rfl ((hX.all _ _ _ (.tail _ (.tail _ (.head _)))).loadVar rfl aggK sizK)) rfl ⟨_, _, _, rfl, ⟨_, _, rfl, hsw.below hX.below, hbw.below hX.below⟩, fun _ => ⟨hmw.below hX.below, hzz.below hX.below⟩, hN.trans (hX.below.mono hN.size), fun _ => hX.below⟩
theorem ptr_rd3 (D : Drv) (n r e : Bool) (s : Int) (A : Nat) (w1 l : Int) (q : Nat) (hq : q ≤ 64) (hA : A ≤ 32767) (m B : List Int) (vs vb vm vz : Value) (X : Nat → Prop) (wN w : World) (hN : Below wN.heap.size wN w) (hXN : ∀ b, X b → b < wN.heap.size) (hs : StsX X wN vs D.S) (hb : ItsX X wN vb D.B) (hm : ItsX X wN vm m) (hz : w.ownsRow wN.heap.size 3 1 vz B.length (B.map (Value.int .i64))) (hml : m.length ≤ 1099511627776) (hzl : B.length ≤ 1099511627776) (hD : D.right = true) (hw : ∀ x ∈ m, 0 ≤ x ∧ x ≤ 65535) (hf : ¬ 2 * (m.length : Int) < 2 * (A : Int) + 2 * (q : Int)) (hp : spV B (2 * (A : Int)) q = false) (he : (D.rd s).2 ≠ 0) : Calls Try.prog 43 #[.agg #[vs, vb, .bool n, .bool r, .bool e, .int .i64 3, .int .i64 w1, .int .i64 (2 * (A : Int)), .int .i64 s, .int .i64 l], vm, vz, .int .i64 (q : Int)] w (TrSays (Dk.mk D n r e 3 w1 (2 * (A : Int)) s l) false m B X wN w) := by
  have hsw := hs.below hN
  have hbw := hb.below hN
  have hmw := hm.below hN
  have o1 := sts_one hsw.now
  have o2 := its_one hbw.now
  have x1 : IntKind.i64.wrap ((q : Int) * 2) = 2 * (q : Int) := by rw [wrap_i64]; unfold wrap64; omega
  have hby := fun wz (h : Below w.heap.size w wz) => bytes_any vm m hml (2 * (A : Int)) (2 * (q : Int)) (by omega) wz (Its.nums (hmw.below h).now)
  have hzz : ItsX X w vz B := Sv.of_own hz hXN
  rw [bytes_near hf, bytesS_near hf] at hby
  have hws := wsV_size m A q
  have hX := two_dk w [vs, vb, .bool n, .bool r, .bool e, .int .i64 3, .int .i64 w1, .int .i64 (2 * (A : Int)), .int .i64 s, .int .i64 l] [.slice none 0 0, .slice none 0 0, .bool false, .bool false, .bool false, .int .i64 0, .int .i64 0, .int .i64 0, .int .i64 0, .int .i64 0]
  have hct := fun (wb : Nat) wz (h : Below w.heap.size w wz) (hX : Bag [(wb, 9, [.string (wsV m A q)]), (w.heap.size + 1, 27, [.slice none 0 0, .slice none 0 0, .bool false, .bool false, .bool false, .int .i64 0, .int .i64 0, .int .i64 0, .int .i64 0, .int .i64 0]), (w.heap.size, 27, [vs, vb, .bool n, .bool r, .bool e, .int .i64 3, .int .i64 w1, .int .i64 (2 * (A : Int)), .int .i64 s, .int .i64 l])] w wz) => pctf_own (2 * (A : Int)) q B (wsV m A q) w.heap.size wb wN.heap.size vz wz (own_step hz h) hzl (hX.all _ _ _ (.tail _ (.tail _ (.head _)))).lt (hX.all _ _ _ (.head _)).lt ((hX.all _ _ _ (.tail _ (.tail _ (.head _)))).cell (k := 7) rfl) ((hX.all _ _ _ (.head _)).cell (k := 0) rfl) (by omega) hq hws
  rw [hp] at hct
  have hrd := fun wz (h : Below w.heap.size w wz) => pread_any D s hD vs vb wz (hsw.below h).now (hbw.below h).now
  generalize D.rd s = RD at hrd he
  obtain ⟨sv, ee⟩ := RD
  dsimp only at hrd he
  have de : (ee != 0) = true := by simpa using he
  go_enter Try.func43, Try.ntmps43
  go_wp2_with (first | (go_at_call 57; (with_reducible refine (hby _ hX.below).mono ?_); rintro e' wc ⟨rfl, hbb⟩; replace hX := hX.step hbb; clear hbb) | ((with_reducible refine at_store ?_); refine wpList_bag_new1 (z := .string _) hX siz_s _ _ rfl rfl rfl rfl rfl rfl rfl rfl ?_; clear hX; intro wb hX hb8; clear hb8) | (go_at_call 59; (with_reducible refine (hct _ _ hX.below hX).mono ?_); rintro e' wc ⟨rfl, hbb⟩; replace hX := hX.step hbb; clear hbb) | ((with_reducible refine at_load ?_); refine wpList_bag_cell hX int_cell _ rfl rfl rfl rfl (by first | exact .head _ | exact .tail _ (.head _) | exact .tail _ (.tail _ (.head _))) rfl ?_) | ((with_reducible refine at_load ?_); refine wpList_bag_cell hX bool_cell _ rfl rfl rfl rfl (by first | exact .head _ | exact .tail _ (.head _) | exact .tail _ (.tail _ (.head _))) rfl ?_) | ((with_reducible refine at_load ?_); refine wpList_bag_cell hX str_cell _ rfl rfl rfl rfl (by first | exact .head _ | exact .tail _ (.head _) | exact .tail _ (.tail _ (.head _))) rfl ?_) | ((with_reducible refine at_load ?_); refine wpList_bag_part (k := 0) hX aggK sizK _ rfl rfl rfl rfl (by first | exact .head _ | exact .tail _ (.head _) | exact .tail _ (.tail _ (.head _))) (fun jz vz hz => (congrArg (fun n => ([_, _, _, _, _, _, _, _, _, _] : List Value)[n]?) (Nat.zero_add jz)).trans hz) rfl ?_) | ((with_reducible refine at_load ?_); refine wpList_bag_part (k := 0) (ds := [_, _]) hX aggD sizD _ rfl rfl rfl rfl (by first | exact .head _ | exact .tail _ (.head _) | exact .tail _ (.tail _ (.head _))) (fun jz vz hz => by rcases jz with _ | _ | jz <;> first | exact hz | (simp at hz)) rfl ?_) | (go_at_call 61; (with_reducible refine (hrd _ hX.below).mono ?_); rintro e' wc ⟨rfl, hbb⟩; replace hX := hX.step hbb; clear hbb) | ((with_reducible refine at_store ?_); refine wpList_bag_overV (cs' := [vs, vb, .bool n, .bool r, .bool e, .int .i64 3, .int .i64 w1, .int .i64 (2 * (A : Int)), .int .i64 s, .int .i64 l]) hX.swap aggK sizK _ _ rfl rfl rfl rfl rfl rfl rfl rfl (one_dk o1 o2 _ _ _ _ _ _ _ _) ?_; clear hX; intro wz hX hkz; clear hkz))
  first | exact bodyPost_ret (results_ct3 Try.results43 rfl ((hX.all _ _ _ (.head _)).loadVar rfl aggK sizK)) rfl ⟨_, _, _, rfl, ⟨_, _, rfl, hsw.below hX.below, hbw.below hX.below⟩, fun _ => ⟨hmw.below hX.below, hzz.below hX.below⟩, hN.trans (hX.below.mono hN.size), fun _ => hX.below⟩ | exact bodyPost_ret (results_ct3 Try.results43 rfl ((hX.all _ _ _ (.tail _ (.head _))).loadVar rfl aggK sizK)) rfl ⟨_, _, _, rfl, ⟨_, _, rfl, hsw.below hX.below, hbw.below hX.below⟩, fun _ => ⟨hmw.below hX.below, hzz.below hX.below⟩, hN.trans (hX.below.mono hN.size), fun _ => hX.below⟩ | exact bodyPost_ret (results_ct3 Try.results43 rfl ((hX.all _ _ _ (.tail _ (.tail _ (.head _)))).loadVar rfl aggK sizK)) rfl ⟨_, _, _, rfl, ⟨_, _, rfl, hsw.below hX.below, hbw.below hX.below⟩, fun _ => ⟨hmw.below hX.below, hzz.below hX.below⟩, hN.trans (hX.below.mono hN.size), fun _ => hX.below⟩
theorem ptr_wr (D : Drv) (n r e : Bool) (s : Int) (A : Nat) (w1 l : Int) (q : Nat) (hq : q ≤ 64) (hA : A ≤ 32767) (m B : List Int) (vs vb vm vz : Value) (X : Nat → Prop) (wN w : World) (hN : Below wN.heap.size wN w) (hXN : ∀ b, X b → b < wN.heap.size) (hs : StsX X wN vs D.S) (hb : ItsX X wN vb D.B) (hm : ItsX X wN vm m) (hz : w.ownsRow wN.heap.size 3 1 vz B.length (B.map (Value.int .i64))) (hml : m.length ≤ 1099511627776) (hzl : B.length ≤ 1099511627776) (hD : D.right = true) (hw : ∀ x ∈ m, 0 ≤ x ∧ x ≤ 65535) (hf : ¬ 2 * (m.length : Int) < 2 * (A : Int) + 2 * (q : Int)) (hp : spV B (2 * (A : Int)) q = false) : Calls Try.prog 43 #[.agg #[vs, vb, .bool n, .bool r, .bool e, .int .i64 2, .int .i64 w1, .int .i64 (2 * (A : Int)), .int .i64 s, .int .i64 l], vm, vz, .int .i64 (q : Int)] w (TrSays (Dk.mk (D.wr s (secV m A q)).1 n r e 2 w1 (2 * (A : Int)) s l) (decide ((D.wr s (secV m A q)).2 = 0)) m B X wN w) := by
  have hsw := hs.below hN
  have hbw := hb.below hN
  have hmw := hm.below hN
  have o1 := sts_one hsw.now
  have o2 := its_one hbw.now
  have x1 : IntKind.i64.wrap ((q : Int) * 2) = 2 * (q : Int) := by rw [wrap_i64]; unfold wrap64; omega
  have hby := fun wz (h : Below w.heap.size w wz) => bytes_any vm m hml (2 * (A : Int)) (2 * (q : Int)) (by omega) wz (Its.nums (hmw.below h).now)
  have hzz : ItsX X w vz B := Sv.of_own hz hXN
  rw [bytes_near hf, bytesS_near hf] at hby
  have hws := wsV_size m A q
  have hX := two_dk w [vs, vb, .bool n, .bool r, .bool e, .int .i64 2, .int .i64 w1, .int .i64 (2 * (A : Int)), .int .i64 s, .int .i64 l] [.slice none 0 0, .slice none 0 0, .bool false, .bool false, .bool false, .int .i64 0, .int .i64 0, .int .i64 0, .int .i64 0, .int .i64 0]
  have hct := fun (wb : Nat) wz (h : Below w.heap.size w wz) (hX : Bag [(wb, 9, [.string (wsV m A q)]), (w.heap.size + 1, 27, [.slice none 0 0, .slice none 0 0, .bool false, .bool false, .bool false, .int .i64 0, .int .i64 0, .int .i64 0, .int .i64 0, .int .i64 0]), (w.heap.size, 27, [vs, vb, .bool n, .bool r, .bool e, .int .i64 2, .int .i64 w1, .int .i64 (2 * (A : Int)), .int .i64 s, .int .i64 l])] w wz) => pctf_own (2 * (A : Int)) q B (wsV m A q) w.heap.size wb wN.heap.size vz wz (own_step hz h) hzl (hX.all _ _ _ (.tail _ (.tail _ (.head _)))).lt (hX.all _ _ _ (.head _)).lt ((hX.all _ _ _ (.tail _ (.tail _ (.head _)))).cell (k := 7) rfl) ((hX.all _ _ _ (.head _)).cell (k := 0) rfl) (by omega) hq hws
  rw [hp] at hct
  have hXl : ∀ b, X b → b < w.heap.size := fun b h => Nat.lt_of_lt_of_le (hXN b h) hN.size
  have hwr := fun wz (h : Below w.heap.size w wz) (h2 : w.heap.size + 2 ≤ wz.heap.size) => pwrite_any D s (wsV m A q) hD vs vb (OwnA X w.heap.size) wz (ownA_lt hXl h2) (hsw.below h).now (hbw.below h).now
  rw [wr_words hw A q hq] at hwr
  generalize D.wr s (secV m A q) = RR at *
  obtain ⟨DW, ee⟩ := RR
  dsimp only at hwr ⊢
  go_enter Try.func43, Try.ntmps43
  go_wp2_with (first | (go_at_call 57; (with_reducible refine (hby _ hX.below).mono ?_); rintro e' wc ⟨rfl, hbb⟩; replace hX := hX.step hbb; clear hbb) | ((with_reducible refine at_store ?_); refine wpList_bag_new1 (z := .string _) hX siz_s _ _ rfl rfl rfl rfl rfl rfl rfl rfl ?_; clear hX; intro wb hX hb8; clear hb8) | (go_at_call 59; (with_reducible refine (hct _ _ hX.below hX).mono ?_); rintro e' wc ⟨rfl, hbb⟩; replace hX := hX.step hbb; clear hbb) | ((with_reducible refine at_load ?_); refine wpList_bag_cell hX int_cell _ rfl rfl rfl rfl (by first | exact .head _ | exact .tail _ (.head _) | exact .tail _ (.tail _ (.head _))) rfl ?_) | ((with_reducible refine at_load ?_); refine wpList_bag_cell hX bool_cell _ rfl rfl rfl rfl (by first | exact .head _ | exact .tail _ (.head _) | exact .tail _ (.tail _ (.head _))) rfl ?_) | ((with_reducible refine at_load ?_); refine wpList_bag_cell hX str_cell _ rfl rfl rfl rfl (by first | exact .head _ | exact .tail _ (.head _) | exact .tail _ (.tail _ (.head _))) rfl ?_) | ((with_reducible refine at_load ?_); refine wpList_bag_part (k := 0) hX aggK sizK _ rfl rfl rfl rfl (by first | exact .head _ | exact .tail _ (.head _) | exact .tail _ (.tail _ (.head _))) (fun jz vz hz => (congrArg (fun n => ([_, _, _, _, _, _, _, _, _, _] : List Value)[n]?) (Nat.zero_add jz)).trans hz) rfl ?_) | ((with_reducible refine at_load ?_); refine wpList_bag_part (k := 0) (ds := [_, _]) hX aggD sizD _ rfl rfl rfl rfl (by first | exact .head _ | exact .tail _ (.head _) | exact .tail _ (.tail _ (.head _))) (fun jz vz hz => by rcases jz with _ | _ | jz <;> first | exact hz | (simp at hz)) rfl ?_) | (go_at_call 60; (have hlo : w.heap.size + 2 ≤ _ := (hX.all _ _ _ (.tail _ (.head _))).lt); (with_reducible refine (hwr _ hX.below hlo).mono ?_); rintro e' wc ⟨x, rfl, ⟨y1, y2, rfl, hs5, hb5⟩, hbb⟩; clear hlo; obtain ⟨A5, c5, rfl, _⟩ := hs5.now.form; obtain ⟨A6, c6, rfl, _⟩ := hb5.now.form; replace hX := hX.step hbb; clear hbb) | ((with_reducible refine at_store ?_); refine wpList_bag_putP (ds := [(.slice A5 DW.S.length c5), (.slice A6 DW.B.length c6)]) (hX.perm (List.perm_append_comm (l₁ := [_, _]) (l₂ := [_]))) aggD sizD _ _ rfl rfl rfl rfl rfl rfl rfl (by simp) (two_one rfl rfl) ?_; clear hX; intro wp hX hkz; replace hs5 := hs5.over hkz (.inr (.inl rfl)); replace hb5 := hb5.over hkz (.inr (.inl rfl)); clear hkz; dsimp only [List.take, List.drop, List.cons_append, List.nil_append] at hX) | ((with_reducible refine at_store ?_); refine wpList_bag_overV (cs' := [(.slice A5 DW.S.length c5), (.slice A6 DW.B.length c6), .bool n, .bool r, .bool e, .int .i64 2, .int .i64 w1, .int .i64 (2 * (A : Int)), .int .i64 s, .int .i64 l]) (hX.perm (List.perm_append_comm (l₁ := [_, _]) (l₂ := [_]))) aggK sizK _ _ rfl rfl rfl rfl rfl rfl rfl rfl (one_dk rfl rfl _ _ _ _ _ _ _ _) ?_; clear hX; intro wz hX hkz; replace hs5 := hs5.over hkz (.inr (.inr rfl)); replace hb5 := hb5.over hkz (.inr (.inr rfl)); clear hkz))
  first | exact bodyPost_ret (results_ct3 Try.results43 rfl ((hX.all _ _ _ (.head _)).loadVar rfl aggK sizK)) rfl ⟨_, _, _, rfl, ⟨_, _, rfl, hs5.less (fun _ h => .inl h), hb5.less (fun _ h => .inl h)⟩, fun _ => ⟨hmw.below hX.below, hzz.below hX.below⟩, hN.trans (hX.below.mono hN.size), fun _ => hX.below⟩ | exact bodyPost_ret (results_ct3 Try.results43 rfl ((hX.all _ _ _ (.tail _ (.head _))).loadVar rfl aggK sizK)) rfl ⟨_, _, _, rfl, ⟨_, _, rfl, hs5.less (fun _ h => .inl h), hb5.less (fun _ h => .inl h)⟩, fun _ => ⟨hmw.below hX.below, hzz.below hX.below⟩, hN.trans (hX.below.mono hN.size), fun _ => hX.below⟩ | exact bodyPost_ret (results_ct3 Try.results43 rfl ((hX.all _ _ _ (.tail _ (.tail _ (.head _)))).loadVar rfl aggK sizK)) rfl ⟨_, _, _, rfl, ⟨_, _, rfl, hs5.less (fun _ h => .inl h), hb5.less (fun _ h => .inl h)⟩, fun _ => ⟨hmw.below hX.below, hzz.below hX.below⟩, hN.trans (hX.below.mono hN.size), fun _ => hX.below⟩
end Go.Proofs.Ytjolhlfjpnlcnaa
