/-
  Walks over Quote and Fields of the reference. Condition: the text is at most a million bytes long.
-/
import Derived.Test.YtfhpmabejodpbaaDoorGoF
import Derived.Test.YtfhpmabejodpbaaDoorGoJ
import Derived.Test.YtfhpmabejodpbaaDoorGoK
import Derived.Maps.AppendAt
namespace Go.Proofs.YtfhpmabejodpbaaDoor
open Go.RowKit
set_option linter.unusedSimpArgs false

theorem one_cut (s : ByteArray) (k : Nat) (h : k < s.size) : s.extract k (k + 1) = ⟨#[s.data.toList.getD k 0]⟩ := by
  apply ByteArray.ext
  apply Array.ext'
  rw [Lib.extract_data, drop_at _ k h, show k + 1 - k = 1 by omega]
  rfl
theorem grow_q (Q l : List UInt8) (x : Array UInt8) (h : x.toList = l) : (⟨Q.toArray⟩ : ByteArray) ++ ⟨x⟩ = ⟨(Q ++ l).toArray⟩ := by
  subst h; rw [ba_app]; simp

set_option maxHeartbeats 1000000 in
theorem rquote_any (s : ByteArray) (hs : s.size ≤ 1000000) (w : World) :
    Calls Tryd.prog 21 #[.string s] w fun e w' => e = .returned (.string ⟨(quo s.data.toList).toArray⟩) ∧ Below w.heap.size w w' := by
  go_enter Tryd.func21, Tryd.ntmps21
  go_wp2
  go_loopw [3, 4] (fun o i wr => ∃ k : Nat, k ≤ s.size ∧ i = .int .i64 k ∧ o = .string ⟨(34 :: (s.data.toList.take k).flatMap qel).toArray⟩ ∧ Below w.heap.size w wr)
    (fun _ i _ => match i with | .int _ q => s.size - q.toNat | _ => 0)
  case atStart => exact ⟨0, Nat.zero_le _, rfl, rfl, Below.refl _ _⟩
  case round =>
    obtain ⟨k, hk, rfl, rfl, hbr⟩ := hrel
    have hfl := flat_le (s.data.toList.take k)
    have hlen : (s.data.toList.take k).length ≤ 1000000 := by rw [List.length_take]; omega
    have hL : (34 :: (s.data.toList.take k).flatMap qel).length ≤ 5000000 := by simp only [List.length_cons]; omega
    by_cases hkl : k < s.size
    · have hix : ∀ h : k < s.size, s[k]'h = s.data.toList.getD k 0 := fun h => byte_at s k h
      have hcut := one_cut s k hkl
      have hT := quo_take s.data.toList k hkl
      have hpl := plain_any (s.data.toList.getD k 0)
      have hqs : ∀ Q : List UInt8, ByteArray.size ⟨Q.toArray⟩ = Q.length := fun Q => by simp [ByteArray.size]
      generalize s.data.toList.getD k 0 = c at *
      have hc := UInt8.toNat_lt c
      generalize hQ : 34 :: (s.data.toList.take k).flatMap qel = Q at *
      have hQs := hqs Q
      have hpd := fun w => rpad_any (c.toNat : Int) 8 3 (by omega) (by omega) w
      have hp3 : (pad c.toNat 8 3).length = 3 := by rw [pad3 _ hc]; rfl
      have hqt := @qel_two c
      have hq10 := @qel_ten c
      have hqo := @qel_oct c
      have hPs := hqs (pad c.toNat 8 3)
      rw [hp3] at hPs
      clear hfl hlen hQ hqs hp3
      generalize pad (c.toNat : Int) 8 3 = P at *
      by_cases hp : pln c = true
      · rw [hp] at hpl
        rw [qel_pln hp] at hT
        have hTT := hid hT
        clear hT hqt hq10 hqo hpd hPs
        go_wp2_with (first | (go_at_call 36; with_reducible refine (hpl _).mono ?_; rintro e w' ⟨rfl, rfl⟩))
        refine ⟨⟨k + 1, by omega, by go_num, ?_, hbr⟩, ?_⟩
        · unfold Hid at hTT; rw [hTT, grow_q Q [c] _ rfl]
        · simp only; omega
      · have hp : pln c = false := by simpa using hp
        rw [hp] at hpl
        by_cases h2 : c.toNat = 34 ∨ c.toNat = 92
        · rw [hqt hp h2] at hT
          have hTT := hid hT
          have hc' : (c.toNat : Int) = 34 ∨ (c.toNat : Int) = 92 := by omega
          clear hT hqt hq10 hqo hpd hPs h2
          rcases hc' with hc' | hc'
          all_goals
            rw [hc'] at hpl
            go_wp2_with (first | (go_at_call 36; with_reducible refine (hpl _).mono ?_; rintro e w' ⟨rfl, rfl⟩))
            refine ⟨⟨k + 1, by omega, by go_num, ?_, hbr⟩, ?_⟩
            · unfold Hid at hTT
              rw [hTT, grow_q Q [92] _ rfl, grow_q _ [c] _ rfl, List.append_assoc]; rfl
            · simp only; omega
        · by_cases h3 : c.toNat = 10
          · rw [hq10 hp h3] at hT
            have hTT := hid hT
            have hc' : (c.toNat : Int) = 10 := by omega
            clear hT hqt hq10 hqo hpd hPs h2
            rw [hc'] at hpl
            go_wp2_with (first | (go_at_call 36; with_reducible refine (hpl _).mono ?_; rintro e w' ⟨rfl, rfl⟩))
            refine ⟨⟨k + 1, by omega, by go_num, ?_, hbr⟩, ?_⟩
            · unfold Hid at hTT
              rw [hTT, grow_q Q [92, 110] _ rfl]
            · simp only; omega
          · rw [hqo hp h2 h3] at hT
            have hTT := hid hT
            have hc1 : ¬ (c.toNat : Int) = 34 := by omega
            have hc2 : ¬ (c.toNat : Int) = 92 := by omega
            have hc3 : ¬ (c.toNat : Int) = 10 := by omega
            have hc1b : ((c.toNat : Int) == 34) = false := by simpa using hc1
            have hc2b : ((c.toNat : Int) == 92) = false := by simpa using hc2
            have hc3b : ((c.toNat : Int) == 10) = false := by simpa using hc3
            clear hT hqt hq10 hqo h2 h3 hc1 hc2 hc3
            go_wp2_with (first
              | (go_at_call 36; with_reducible refine (hpl _).mono ?_; rintro e w' ⟨rfl, rfl⟩)
              | (go_at_call 11; with_reducible refine (hpd _).mono ?_; rintro e w2 ⟨rfl, hb2⟩))
            refine ⟨⟨k + 1, by omega, by go_num, ?_, hbr.trans (hb2.mono hbr.size)⟩, ?_⟩
            · unfold Hid at hTT
              rw [hTT, grow_q Q [92] _ rfl, grow_q _ P _ rfl, List.append_assoc]; rfl
            · simp only; omega
    · have hkk : k = s.size := by omega
      have htk : s.data.toList.take k = s.data.toList := List.take_of_length_le (by rw [size_len]; omega)
      have hqs : ByteArray.size ⟨(34 :: (s.data.toList.take k).flatMap qel).toArray⟩ = (34 :: (s.data.toList.take k).flatMap qel).length := by simp [ByteArray.size]
      have hqe : Hid (quo s.data.toList = (34 :: (s.data.toList.take k).flatMap qel) ++ [34]) := by rw [htk]; rfl
      clear htk hfl hlen
      generalize 34 :: (s.data.toList.take k).flatMap qel = Q at *
      go_wp2
      go_ret
      exact ⟨by unfold Hid at hqe; rw [hqe, ← grow_q Q [34] _ rfl]; rfl, hbr⟩

/-! ### Fields -/
theorem fgo_blank {c : UInt8} {r cur : List UInt8} (h : blk c = true) : fgo (c :: r) cur = (if cur = [] then [] else [cur]) ++ fgo r [] := by
  rw [fgo, if_pos h]
  split <;> rfl
theorem fgo_plain {c : UInt8} {r cur : List UInt8} (h : blk c = false) : fgo (c :: r) cur = fgo r (cur ++ [c]) := by rw [fgo, if_neg (by simp [h])]
theorem info9_fields : (Tryd.prog.info? 9).map (fun i => (i.zero, i.size, i.bytes)) = some (some (.string ⟨#[]⟩), 1, 16) := by kernel_rfl
theorem strV_snoc (l : List (List UInt8)) (x : List UInt8) : l.map strV ++ [.string ⟨x.toArray⟩] = (l ++ [x]).map strV := by simp [strV]

/-- What has been gathered when k bytes are read. -/
def Gat (l : List UInt8) (k : Nat) (acc : List (List UInt8)) (cur : List UInt8) : Prop := if k ≤ l.length then acc ++ fgo (l.drop k) cur = flds l else acc = flds l
theorem Gat.len {l : List UInt8} {k : Nat} {acc : List (List UInt8)} {cur : List UInt8} (h : Gat l k acc cur) : acc.length ≤ l.length + 1 := by
  have := fgo_cnt l []
  unfold Gat at h
  split at h
  · have h' := congrArg List.length h
    rw [List.length_append] at h'
    unfold flds at h'; omega
  · rw [h]; exact this
theorem Gat.plain {l : List UInt8} {k : Nat} {acc : List (List UInt8)} {cur : List UInt8} (h : Gat l k acc cur) (hk : k < l.length) (hb : blk (l.getD k 0) = false) : Gat l (k + 1) acc (cur ++ [l.getD k 0]) := by
  unfold Gat at h ⊢
  rw [if_pos (by omega), drop_at l k hk, fgo_plain hb] at h
  rw [if_pos (by omega)]; exact h
theorem Gat.blank {l : List UInt8} {k : Nat} {acc : List (List UInt8)} {cur : List UInt8} (h : Gat l k acc cur) (hk : k < l.length) (hb : blk (l.getD k 0) = true) : Gat l (k + 1) (acc ++ (if cur = [] then [] else [cur])) [] := by
  unfold Gat at h ⊢
  rw [if_pos (by omega), drop_at l k hk, fgo_blank hb] at h
  rw [if_pos (by omega), List.append_assoc]; exact h
theorem Gat.last {l : List UInt8} {k : Nat} {acc : List (List UInt8)} {cur : List UInt8} (h : Gat l k acc cur) (hk : k = l.length) : Gat l (k + 1) (acc ++ (if cur = [] then [] else [cur])) [] := by
  unfold Gat at h ⊢
  rw [if_pos (by omega), List.drop_eq_nil_of_le (by omega), fgo] at h
  rw [if_neg (by omega)]; exact h
theorem Gat.done {l : List UInt8} {k : Nat} {acc : List (List UInt8)} {cur : List UInt8} (h : Gat l k acc cur) (hk : l.length < k) : acc = flds l := by
  unfold Gat at h
  rw [if_neg (by omega)] at h; exact h

set_option maxHeartbeats 2000000 in
theorem rfields_any (s : ByteArray) (hs : s.size ≤ 1000000) (w : World) :
    Calls Tryd.prog 17 #[.string s] w fun e w' => ∃ v, e = .returned v ∧ Txt w' v (flds s.data.toList) ∧ Below w.heap.size w w' := by
  obtain ⟨i0, hi, hz0, hz1, hz2⟩ := info_parts info9_fields
  have hsz := size_len s
  go_enter Tryd.func17, Tryd.ntmps17
  go_wp2
  go_loopw [3, 4, 5] (fun v f i wr => ∃ (k : Nat) (acc : List (List UInt8)) (cur : List UInt8), k ≤ s.size + 1 ∧ i = .int .i64 k ∧ f = .string ⟨cur.toArray⟩ ∧ cur.length ≤ k ∧ Gat s.data.toList k acc cur ∧
      wr.ownsRow w.heap.size 9 1 v acc.length (acc.map strV) ∧ Below w.heap.size w wr)
    (fun _ _ i _ => match i with | .int _ q => s.size + 1 - q.toNat | _ => 0)
  case atStart => exact ⟨0, [], [], by omega, rfl, rfl, by simp, by unfold Gat; rw [if_pos (by omega)]; rfl, World.ownsRow_nil _ _ _ _, Below.refl _ _⟩
  case round =>
    obtain ⟨k, acc, cur, hk, rfl, rfl, hcl, HG, hown, hbr⟩ := hrel
    have hal := HG.len
    have hcs : ByteArray.size ⟨cur.toArray⟩ = cur.length := by simp [ByteArray.size]
    by_cases hk1 : k ≤ s.size
    · by_cases hkl : k < s.size
      · have hix : ∀ h : k < s.size, s[k]'h = s.data.toList.getD k 0 := fun h => byte_at s k h
        have hcut := one_cut s k hkl
        have hGp := HG.plain (by omega)
        have hGb := HG.blank (by omega)
        generalize s.data.toList.getD k 0 = c at *
        by_cases hb : blk c = true
        · have hG := hGb hb
          have hc : (c.toNat : Int) = 32 ∨ (c.toNat : Int) = 9 := by
            simp only [blk, Bool.or_eq_true, beq_iff_eq] at hb; omega
          clear hGp hGb hb hcut HG
          rcases hc with hc | hc
          · by_cases hcur : cur = []
            · subst hcur
              rw [if_pos rfl, List.append_nil] at hG
              go_wp2
              refine ⟨⟨k + 1, acc, [], by omega, by go_num, by simp, by simp, hG, hown, hbr⟩, ?_⟩
              simp only; omega
            · have hem : cur.isEmpty = false := List.isEmpty_eq_false_iff.2 hcur
              rw [if_neg hcur] at hG
              go_wp2_with (first | (at_builtin; refine wpList_append_own _ rfl (.tmp 37) (.tmp 39) 30 rfl w.heap.size 9 i0 (.string ⟨#[]⟩) 1 16 Tryd.underlying30 hi hz0 hz1 hz2 rfl (by decide) _ _ _ rfl (hown.alloc _) ⟨wr.heap.size, 0, none⟩ 1 1 [.string ⟨cur.toArray⟩] rfl rfl (cell_one_new _ _ _) (fun x hx => by simp at hx; subst hx; rfl) (by unfold maxLen; omega) (by omega) (by have := hbr.size; simp; omega) ?_; intro v' w1 hown' hgrow _))
              rw [strV_snoc] at hown'
              refine ⟨⟨k + 1, acc ++ [cur], [], by omega, by go_num, by simp, by simp, hG, ?_, (hbr.alloc hbr.size _).grown hgrow (by have := hbr.size; simp; omega) (fun j hj => (hown.lt j hj).1)⟩, ?_⟩
              · rw [List.length_append]; exact hown'
              · simp only; omega
          · by_cases hcur : cur = []
            · subst hcur
              rw [if_pos rfl, List.append_nil] at hG
              go_wp2
              refine ⟨⟨k + 1, acc, [], by omega, by go_num, by simp, by simp, hG, hown, hbr⟩, ?_⟩
              simp only; omega
            · have hem : cur.isEmpty = false := List.isEmpty_eq_false_iff.2 hcur
              rw [if_neg hcur] at hG
              go_wp2_with (first | (at_builtin; refine wpList_append_own _ rfl (.tmp 37) (.tmp 39) 30 rfl w.heap.size 9 i0 (.string ⟨#[]⟩) 1 16 Tryd.underlying30 hi hz0 hz1 hz2 rfl (by decide) _ _ _ rfl (hown.alloc _) ⟨wr.heap.size, 0, none⟩ 1 1 [.string ⟨cur.toArray⟩] rfl rfl (cell_one_new _ _ _) (fun x hx => by simp at hx; subst hx; rfl) (by unfold maxLen; omega) (by omega) (by have := hbr.size; simp; omega) ?_; intro v' w1 hown' hgrow _))
              rw [strV_snoc] at hown'
              refine ⟨⟨k + 1, acc ++ [cur], [], by omega, by go_num, by simp, by simp, hG, ?_, (hbr.alloc hbr.size _).grown hgrow (by have := hbr.size; simp; omega) (fun j hj => (hown.lt j hj).1)⟩, ?_⟩
              · rw [List.length_append]; exact hown'
              · simp only; omega
        · have hb : blk c = false := by simpa using hb
          have hG := hGp hb
          have hc1 : ((c.toNat : Int) == 32) = false := by
            simp only [blk, Bool.or_eq_false_iff, beq_eq_false_iff_ne] at hb
            simp only [beq_eq_false_iff_ne]; omega
          have hc2 : ((c.toNat : Int) == 9) = false := by
            simp only [blk, Bool.or_eq_false_iff, beq_eq_false_iff_ne] at hb
            simp only [beq_eq_false_iff_ne]; omega
          have hc3 : ((c.toNat : Int) != 32) = true := by simp only [bne, hc1]; rfl
          have hc4 : ((c.toNat : Int) != 9) = true := by simp only [bne, hc2]; rfl
          clear hGp hGb hb HG
          go_wp2
          refine ⟨⟨k + 1, acc, cur ++ [c], by omega, by go_num, by rw [grow_q cur [c] _ rfl], by simp only [List.length_append, List.length_cons, List.length_nil]; omega, hG, hown, hbr⟩, ?_⟩
          simp only; omega
      · have hkk : k = s.size := by omega
        have hG := HG.last (by omega)
        clear HG
        by_cases hcur : cur = []
        · subst hcur
          rw [if_pos rfl, List.append_nil] at hG
          go_wp2
          refine ⟨⟨k + 1, acc, [], by omega, by go_num, by simp, by simp, hG, hown, hbr⟩, ?_⟩
          simp only; omega
        · have hem : cur.isEmpty = false := List.isEmpty_eq_false_iff.2 hcur
          rw [if_neg hcur] at hG
          go_wp2_with (first | (at_builtin; refine wpList_append_own _ rfl (.tmp 37) (.tmp 39) 30 rfl w.heap.size 9 i0 (.string ⟨#[]⟩) 1 16 Tryd.underlying30 hi hz0 hz1 hz2 rfl (by decide) _ _ _ rfl (hown.alloc _) ⟨wr.heap.size, 0, none⟩ 1 1 [.string ⟨cur.toArray⟩] rfl rfl (cell_one_new _ _ _) (fun x hx => by simp at hx; subst hx; rfl) (by unfold maxLen; omega) (by omega) (by have := hbr.size; simp; omega) ?_; intro v' w1 hown' hgrow _))
          rw [strV_snoc] at hown'
          refine ⟨⟨k + 1, acc ++ [cur], [], by omega, by go_num, by simp, by simp, hG, ?_, (hbr.alloc hbr.size _).grown hgrow (by have := hbr.size; simp; omega) (fun j hj => (hown.lt j hj).1)⟩, ?_⟩
          · rw [List.length_append]; exact hown'
          · simp only; omega
    · have hd := HG.done (by omega)
      subst hd
      have hT := Txt.of_own hown
      clear HG hown hal
      go_wp2
      go_ret
      exact ⟨_, rfl, hT, hbr⟩

end Go.Proofs.YtfhpmabejodpbaaDoor
