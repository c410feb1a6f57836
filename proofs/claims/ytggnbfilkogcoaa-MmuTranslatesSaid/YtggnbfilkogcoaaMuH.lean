/-
  The reference of package mmu: one contract for each function, over plain functions of units.
-/
import Derived.Test.YtggnbfilkogcoaaMuE
import Derived.Test.YtggnbfilkogcoaaMuF
import Derived.Test.YtggnbfilkogcoaaMuG
namespace Go.Proofs.Ytggnbfilkogcoaa
open Go.RowKit
set_option linter.unusedSimpArgs false
set_option linter.unusedVariables false
attribute [local irreducible] wpQuiet

def Un.pgAt (u : Un) (k : Nat) : Pg := u.pg.getD k Pg.z
theorem Un.pgAt_some {u : Un} (hu : u.ok) {k : Nat} (hk : k < 16) : u.pg[k]? = some (u.pgAt k) := by
  have hl : k < u.pg.length := by rw [show u.pg.length = 16 from hu]; exact hk
  unfold Un.pgAt
  rw [List.getD_eq_getElem?_getD, List.getElem?_eq_getElem hl]; rfl
theorem Pg.good_all {g : Pg} (h : g.good = true) : 0 ≤ g.b ∧ g.b ≤ 4095 ∧ 0 ≤ g.l ∧ g.l ≤ 128 ∧ 0 ≤ g.a ∧ g.a ≤ 2 := by
  unfold Pg.good at h
  simpa only [Bool.and_eq_true, decide_eq_true_eq] using h
theorem Un.right_at {u : Un} (h : u.right = true) (hu : u.ok) {k : Nat} (hk : k < 16) : (u.pgAt k).good = true := by
  unfold Un.right at h
  rw [Bool.and_eq_true, List.all_eq_true] at h
  exact h.1 _ (List.mem_of_getElem? (Un.pgAt_some hu hk))
theorem Un.right_tail {u : Un} (h : u.right = true) : 0 ≤ u.st ∧ u.st ≤ 3 ∧ 0 ≤ u.ad ∧ u.ad < 65536 := by
  unfold Un.right at h
  rw [Bool.and_eq_true] at h
  have h2 := h.2
  unfold Un.tail at h2
  simpa only [Bool.and_eq_true, decide_eq_true_eq] using h2

def Un.kAt (mode addr : Int) : Nat := 8 * (mode % 2).toNat + (addr % 65536 / 8192).toNat
theorem Un.kAt_lt (mode addr : Int) : Un.kAt mode addr < 16 := by unfold Un.kAt; omega
def Un.trans (u : Un) (mode addr : Int) (wr : Bool) : Int × Un × Int :=
  if u.on = true then
    if fltP (u.pgAt (Un.kAt mode addr)) (addr % 65536 % 8192) wr = 0 then
      ((64 * (u.pgAt (Un.kAt mode addr)).b + addr % 65536 % 8192) % 262144, if wr = true then u.withP (Un.kAt mode addr) { u.pgAt (Un.kAt mode addr) with r := true } else u, 0)
    else (0, { u with st := fltP (u.pgAt (Un.kAt mode addr)) (addr % 65536 % 8192) wr, ad := addr % 65536 }, 8)
  else if addr % 65536 < 57344 then (addr % 65536, u, 0) else (addr % 65536 + 196608, u, 0)

theorem rtrans_any (u : Un) (hu : u.ok) (hr : u.right = true) (mode addr : Int) (wr : Bool) (W0 : World) : Calls Try.prog 14 #[.agg u.L.toArray, .int .i64 mode, .int .i64 addr, .bool wr] W0 fun e w' => e = .returned (.tuple #[.int .i64 (u.trans mode addr wr).1, .agg (u.trans mode addr wr).2.1.L.toArray, .int .i64 (u.trans mode addr wr).2.2]) ∧ Below W0.heap.size W0 w' := by
  have hk := Un.kAt_lt mode addr
  have hg := Un.pgAt_some hu hk
  have hgd := Pg.good_all (Un.right_at hr hu hk)
  by_cases hon : u.on = true
  · by_cases hf : fltP (u.pgAt (Un.kAt mode addr)) (addr % 65536 % 8192) wr = 0
    · cases wr with
      | true =>
        rw [show u.trans mode addr true = _ from by unfold Un.trans; rw [if_pos hon, if_pos hf, if_pos rfl]]
        exact rtr_wr u hu hon mode addr (mode % 2).toNat (addr % 65536 / 8192).toNat (addr % 65536) (addr % 65536 % 8192) (by omega) (by omega) (by omega) rfl (by omega) (by omega) (by omega) rfl _ hg hgd.1 hgd.2.1 hf W0
      | false =>
        rw [show u.trans mode addr false = _ from by unfold Un.trans; rw [if_pos hon, if_pos hf, if_neg (by decide)]]
        exact rtr_rd u hu hon mode addr (mode % 2).toNat (addr % 65536 / 8192).toNat (addr % 65536) (addr % 65536 % 8192) (by omega) (by omega) (by omega) rfl (by omega) (by omega) (by omega) rfl _ hg hgd.1 hgd.2.1 hf W0
    · rw [show u.trans mode addr wr = _ from by unfold Un.trans; rw [if_pos hon, if_neg hf]]
      exact rtr_flt u hu hon mode addr (mode % 2).toNat (addr % 65536 / 8192).toNat (addr % 65536) (addr % 65536 % 8192) (by omega) (by omega) (by omega) rfl (by omega) (by omega) (by omega) rfl _ hg wr _ rfl (by simpa using hf) W0
  · have hoff : u.on = false := by simpa using hon
    by_cases h : addr % 65536 < 57344
    · rw [show u.trans mode addr wr = _ from by unfold Un.trans; rw [if_neg hon, if_pos h]]
      exact rtr_off u hu hoff mode addr _ rfl (by omega) (by omega) h wr W0
    · rw [show u.trans mode addr wr = _ from by unfold Un.trans; rw [if_neg hon, if_neg h]]
      exact rtr_offh u hu hoff mode addr _ rfl (by omega) (by omega) (by omega) wr W0

def regK (n : Int) : Nat := 8 * ((n - 16) / 32).toNat + ((n - 16) % 32 / 4).toNat
theorem isReg_all {n : Int} (h : isReg n = true) : 16 ≤ n ∧ n < 80 ∧ n % 2 = 0 := by
  unfold isReg at h
  simpa only [Bool.and_eq_true, decide_eq_true_eq] using h
theorem regK_lt {n : Int} (h : isReg n = true) : regK n < 16 := by have := isReg_all h; unfold regK; omega
def Un.read (u : Un) (n : Int) : Int × Bool :=
  if n = 0 then (statV u, true) else if n = 2 then (u.ad, true)
  else if isReg n = true then (if (n - 16) % 4 = 2 then (descV (u.pgAt (regK n)), true) else ((u.pgAt (regK n)).b, true))
  else (0, false)
theorem rread_any (u : Un) (hu : u.ok) (hr : u.right = true) (n : Int) (W0 : World) : Calls Try.prog 16 #[.agg u.L.toArray, .int .i64 n] W0 fun e w' => e = .returned (.tuple #[.int .i64 (u.read n).1, .bool (u.read n).2]) ∧ Below W0.heap.size W0 w' := by
  have ht := Un.right_tail hr
  by_cases h0 : n = 0
  · rw [show u.read n = _ from by unfold Un.read; rw [if_pos h0]]
    exact rrd_stat u hu n h0 ht.1 ht.2.1 W0
  by_cases h2 : n = 2
  · rw [show u.read n = _ from by unfold Un.read; rw [if_neg h0, if_pos h2]]
    exact rrd_addr u hu n h2 W0
  by_cases hn : isReg n = true
  · have hk := regK_lt hn
    have hg := Un.pgAt_some hu hk
    have hgd := Pg.good_all (Un.right_at hr hu hk)
    have hi := isReg_all hn
    by_cases hd : (n - 16) % 4 = 2
    · rw [show u.read n = _ from by unfold Un.read; rw [if_neg h0, if_neg h2, if_pos hn, if_pos hd]]
      exact rrd_desc u hu n hn ((n - 16) / 32).toNat ((n - 16) % 32 / 4).toNat (by omega) (by omega) (by omega) (by omega) _ hg hd hgd.2.2.1 hgd.2.2.2.1 hgd.2.2.2.2.1 hgd.2.2.2.2.2 W0
    · rw [show u.read n = _ from by unfold Un.read; rw [if_neg h0, if_neg h2, if_pos hn, if_neg hd]]
      exact rrd_base u hu n hn ((n - 16) / 32).toNat ((n - 16) % 32 / 4).toNat (by omega) (by omega) (by omega) (by omega) _ hg hd W0
  · rw [show u.read n = _ from by unfold Un.read; rw [if_neg h0, if_neg h2, if_neg hn]]
    exact rrd_none u hu n (by simpa using hn) h0 h2 W0

def Un.write (u : Un) (n v : Int) : Un × Bool :=
  if n = 0 then ({ u with on := decide (v % 65536 % 2 = 1), st := v % 65536 / 2 % 4 }, true) else if n = 2 then (u, true)
  else if isReg n = true then
    (if (n - 16) % 4 = 2 then (u.withP (regK n) ⟨(u.pgAt (regK n)).b, min (v % 65536 % 256) 128, min (v % 65536 / 256 % 4) 2, false⟩, true)
     else (u.withP (regK n) { u.pgAt (regK n) with b := v % 65536 % 4096 }, true))
  else (u, false)
theorem rwrite_any (u : Un) (hu : u.ok) (n v : Int) (W0 : World) : Calls Try.prog 18 #[.agg u.L.toArray, .int .i64 n, .int .i64 v] W0 fun e w' => e = .returned (.tuple #[.agg (u.write n v).1.L.toArray, .bool (u.write n v).2]) ∧ Below W0.heap.size W0 w' := by
  by_cases h0 : n = 0
  · rw [show u.write n v = _ from by unfold Un.write; rw [if_pos h0]]
    exact rwr_stat u hu n v h0 W0
  by_cases h2 : n = 2
  · rw [show u.write n v = _ from by unfold Un.write; rw [if_neg h0, if_pos h2]]
    exact rwr_addr u hu n v h2 W0
  by_cases hn : isReg n = true
  · have hk := regK_lt hn
    have hg := Un.pgAt_some hu hk
    have hi := isReg_all hn
    by_cases hd : (n - 16) % 4 = 2
    · rw [show u.write n v = _ from by unfold Un.write; rw [if_neg h0, if_neg h2, if_pos hn, if_pos hd]]
      exact rwr_desc u hu n v hn ((n - 16) / 32).toNat ((n - 16) % 32 / 4).toNat (by omega) (by omega) (by omega) (by omega) _ hg hd W0
    · rw [show u.write n v = _ from by unfold Un.write; rw [if_neg h0, if_neg h2, if_pos hn, if_neg hd]]
      exact rwr_base u hu n v hn ((n - 16) / 32).toNat ((n - 16) % 32 / 4).toNat (by omega) (by omega) (by omega) (by omega) _ hg hd W0
  · rw [show u.write n v = _ from by unfold Un.write; rw [if_neg h0, if_neg h2, if_neg hn]]
    exact rwr_none u hu n v (by simpa using hn) h0 h2 W0

open Classical in
noncomputable def Un.map (u : Un) (mode base blocks acc : Int) : Un × Int := if okMap mode base blocks acc then (mapGo mode.toNat acc 8 u base blocks, 0) else (Un.z, 1)
theorem rmap_any (u : Un) (hu : u.ok) (mode base blocks acc : Int) (W0 : World) : Calls Try.prog 20 #[.agg u.L.toArray, .int .i64 mode, .int .i64 base, .int .i64 blocks, .int .i64 acc] W0 fun e w' => e = .returned (.tuple #[.agg (u.map mode base blocks acc).1.L.toArray, .int .i64 (u.map mode base blocks acc).2]) ∧ Below W0.heap.size W0 w' := by
  by_cases h : okMap mode base blocks acc
  · rw [show u.map mode base blocks acc = _ from by unfold Un.map; rw [if_pos h]]
    have hh := h
    unfold okMap at hh
    exact rmap_ok u hu mode mode.toNat (by omega) (by omega) base blocks acc hh.2.2.1 hh.2.2.2.1 hh.2.2.2.2.1 hh.2.2.2.2.2.1 hh.2.2.2.2.2.2.1 hh.2.2.2.2.2.2.2 W0
  · rw [show u.map mode base blocks acc = _ from by unfold Un.map; rw [if_neg h]]
    exact rmap_bad u hu mode base blocks acc h W0
end Go.Proofs.Ytggnbfilkogcoaa
