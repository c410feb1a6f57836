/-
  Walks over the elements of a quoted string: readElement of package radix and element of its reference. Condition: the text is not empty and no longer than an int says.
-/
import Derived.Test.YtfhpmabejodpbaaDoorGoG
namespace Go.Proofs.YtfhpmabejodpbaaDoor
open Go.RowKit
set_option linter.unusedSimpArgs false

/-- The cases of an element, by its first two bytes. -/
theorem elm_cases (l : List UInt8) (h0 : 0 < l.length) :
    (pln (l.getD 0 0) = true ∧ elm l = (l.getD 0 0, 1)) ∨
    (pln (l.getD 0 0) = false ∧ ¬ (l.getD 0 0).toNat = 92 ∧ elm l = (0, 0)) ∨
    (pln (l.getD 0 0) = false ∧ (l.getD 0 0).toNat = 92 ∧ l.length < 2 ∧ elm l = (0, 0)) ∨
    (pln (l.getD 0 0) = false ∧ (l.getD 0 0).toNat = 92 ∧ 2 ≤ l.length ∧ ((l.getD 1 0).toNat = 34 ∨ (l.getD 1 0).toNat = 92) ∧ elm l = (l.getD 1 0, 2)) ∨
    (pln (l.getD 0 0) = false ∧ (l.getD 0 0).toNat = 92 ∧ 2 ≤ l.length ∧ (l.getD 1 0).toNat = 110 ∧ elm l = (10, 2)) ∨
    (pln (l.getD 0 0) = false ∧ (l.getD 0 0).toNat = 92 ∧ 2 ≤ l.length ∧ ¬ (l.getD 1 0).toNat = 34 ∧ ¬ (l.getD 1 0).toNat = 92 ∧ ¬ (l.getD 1 0).toNat = 110 ∧ elm l = oct l) := by
  by_cases hp : pln (l.getD 0 0) = true
  · exact Or.inl ⟨hp, elm_pln h0 hp⟩
  · have hp : pln (l.getD 0 0) = false := by simpa using hp
    refine Or.inr ?_
    by_cases h1 : (l.getD 0 0).toNat = 92
    · refine Or.inr ?_
      by_cases h2 : l.length < 2
      · exact Or.inl ⟨hp, h1, h2, elm_bad h0 hp (Or.inr h2)⟩
      · refine Or.inr ?_
        by_cases h3 : (l.getD 1 0).toNat = 34 ∨ (l.getD 1 0).toNat = 92
        · exact Or.inl ⟨hp, h1, by omega, h3, elm_two (by omega) hp h1 h3⟩
        · refine Or.inr ?_
          by_cases h4 : (l.getD 1 0).toNat = 110
          · exact Or.inl ⟨hp, h1, by omega, h4, elm_ten (by omega) hp h1 h4⟩
          · exact Or.inr ⟨hp, h1, by omega, fun h => h3 (Or.inl h), fun h => h3 (Or.inr h), h4, elm_oct (by omega) hp h1 h3 h4⟩
    · exact Or.inl ⟨hp, h1, elm_bad h0 hp (Or.inl h1)⟩

set_option maxHeartbeats 1000000 in
theorem relem_any (s : ByteArray) (h0 : 0 < s.size) (hs : s.size ≤ 9223372036854775807) (w : World) :
    Calls Tryd.prog 31 #[.string s] w fun e w' => e = .returned (eV (elm s.data.toList)) ∧ w = w' := by
  have hse := not_empty h0
  have hix0 : ∀ h : 0 < s.size, s[0]'h = s.data.toList.getD 0 0 := fun h => byte_at s 0 h
  have hix1 : ∀ h : 1 < s.size, s[1]'h = s.data.toList.getD 1 0 := fun h => byte_at s 1 h
  have hpl := isPlain_any (s.data.toList.getD 0 0)
  have hsz := size_len s
  have hcs := elm_cases s.data.toList (by omega)
  rw [hsz] at hcs
  have hoc := octal_any s hs
  generalize oct s.data.toList = O at *
  generalize elm s.data.toList = E at *
  generalize s.data.toList.getD 0 0 = c at *
  generalize s.data.toList.getD 1 0 = d at *
  clear hsz
  rcases hcs with ⟨hp, rfl⟩ | ⟨hp, hc, rfl⟩ | ⟨hp, hc, h2, rfl⟩ | ⟨hp, hc, h2, hd, rfl⟩ | ⟨hp, hc, h2, hd, rfl⟩ | ⟨hp, hc, h2, hd1, hd2, hd3, rfl⟩
  · rw [hp] at hpl
    go_enter Tryd.func31, Tryd.ntmps31
    go_wp2_with (first | (go_at_call 43; with_reducible refine (hpl _).mono ?_; rintro e w' ⟨rfl, rfl⟩))
    go_ret2
    exact ⟨rfl, rfl⟩
  · rw [hp] at hpl
    have hc' : ((c.toNat : Int) = 92) = False := by simp; omega
    go_enter Tryd.func31, Tryd.ntmps31
    go_wp2_with (first | (go_at_call 43; with_reducible refine (hpl _).mono ?_; rintro e w' ⟨rfl, rfl⟩))
    go_ret2
    exact ⟨rfl, rfl⟩
  · rw [hp] at hpl
    have hc' : (c.toNat : Int) = 92 := by omega
    rw [hc'] at hpl
    have hz : s.size = 1 := by omega
    go_enter Tryd.func31, Tryd.ntmps31
    go_wp2_with (first | (go_at_call 43; with_reducible refine (hpl _).mono ?_; rintro e w' ⟨rfl, rfl⟩))
    go_ret2
    exact ⟨rfl, rfl⟩
  · rw [hp] at hpl
    have hc' : (c.toNat : Int) = 92 := by omega
    rw [hc'] at hpl
    have hd' : (d.toNat : Int) = 34 ∨ (d.toNat : Int) = 92 := by omega
    clear hd
    go_enter Tryd.func31, Tryd.ntmps31
    rcases hd' with hd' | hd'
    all_goals
      go_wp2_with (first | (go_at_call 43; with_reducible refine (hpl _).mono ?_; rintro e w' ⟨rfl, rfl⟩))
      go_ret2
      refine ⟨?_, rfl⟩
      rw [eV]
      first | rfl | (simp only; rw [hd']; rfl)
  · rw [hp] at hpl
    have hc' : (c.toNat : Int) = 92 := by omega
    rw [hc'] at hpl
    have hd' : (d.toNat : Int) = 110 := by omega
    clear hd
    go_enter Tryd.func31, Tryd.ntmps31
    go_wp2_with (first | (go_at_call 43; with_reducible refine (hpl _).mono ?_; rintro e w' ⟨rfl, rfl⟩))
    go_ret2
    exact ⟨rfl, rfl⟩
  · rw [hp] at hpl
    have hc' : (c.toNat : Int) = 92 := by omega
    rw [hc'] at hpl
    have hd1' : ¬ (d.toNat : Int) = 34 := by omega
    have hd2' : ¬ (d.toNat : Int) = 92 := by omega
    have hd3' : ¬ (d.toNat : Int) = 110 := by omega
    clear hd1 hd2 hd3
    unfold eV at hoc ⊢
    go_enter Tryd.func31, Tryd.ntmps31
    go_wp2_with (first | (go_at_call 43; with_reducible refine (hpl _).mono ?_; rintro e w' ⟨rfl, rfl⟩) | (go_at_call 44; with_reducible refine (hoc _).mono ?_; rintro e w' ⟨rfl, rfl⟩))
    go_ret2
    exact ⟨rfl, rfl⟩

set_option maxHeartbeats 1000000 in
theorem selem_any (s : ByteArray) (h0 : 0 < s.size) (hs : s.size ≤ 9223372036854775807) (w : World) :
    Calls Tryd.prog 32 #[.string s] w fun e w' => e = .returned (eV (elm s.data.toList)) ∧ w = w' := by
  have hse := not_empty h0
  have hix0 : ∀ h : 0 < s.size, s[0]'h = s.data.toList.getD 0 0 := fun h => byte_at s 0 h
  have hix1 : ∀ h : 1 < s.size, s[1]'h = s.data.toList.getD 1 0 := fun h => byte_at s 1 h
  have hpl := plain_any (s.data.toList.getD 0 0)
  have hsz := size_len s
  have hcs := elm_cases s.data.toList (by omega)
  rw [hsz] at hcs
  have hos : s.size < 4 → eV (oct s.data.toList) = .tuple #[.int .u8 0, .int .i64 0] := fun h4 => by rw [oct, if_pos (by rw [size_len]; exact h4)]; rfl
  have hcut : ¬ s.size < 4 → (s.extract 1 4).size = 3 := fun h4 => by rw [← size_len, cut3, List.length_take, List.length_drop, size_len]; omega
  have hpar := fun h4 w => rparse_any (s.extract 1 4) 8 (by have := hcut h4; omega) w
  have hr := prs_range ((s.data.toList.drop 1).take 3) 8
  have hB := fun h4 : ¬ s.size < 4 => @oct_bad s.data.toList _ _ (by rw [size_len]; exact h4) rfl rfl
  have hO := fun h4 : ¬ s.size < 4 => @oct_ok s.data.toList _ _ (by rw [size_len]; exact h4) rfl rfl
  simp only [cut3, prsV] at hpar
  generalize (prs ((s.data.toList.drop 1).take 3) 8).1 = n at *
  generalize (prs ((s.data.toList.drop 1).take 3) 8).2 = er at *
  generalize oct s.data.toList = O at *
  generalize elm s.data.toList = E at *
  generalize s.data.toList.getD 0 0 = c at *
  generalize s.data.toList.getD 1 0 = d at *
  clear hsz
  rcases hcs with ⟨hp, rfl⟩ | ⟨hp, hc, rfl⟩ | ⟨hp, hc, h2, rfl⟩ | ⟨hp, hc, h2, hd, rfl⟩ | ⟨hp, hc, h2, hd, rfl⟩ | ⟨hp, hc, h2, hd1, hd2, hd3, rfl⟩
  · rw [hp] at hpl
    go_enter Tryd.func32, Tryd.ntmps32
    go_wp2_with (first | (go_at_call 36; with_reducible refine (hpl _).mono ?_; rintro e w' ⟨rfl, rfl⟩))
    go_ret2
    exact ⟨rfl, rfl⟩
  · rw [hp] at hpl
    have hc' : ((c.toNat : Int) = 92) = False := by simp; omega
    go_enter Tryd.func32, Tryd.ntmps32
    go_wp2_with (first | (go_at_call 36; with_reducible refine (hpl _).mono ?_; rintro e w' ⟨rfl, rfl⟩))
    go_ret2
    exact ⟨rfl, rfl⟩
  · rw [hp] at hpl
    have hc' : (c.toNat : Int) = 92 := by omega
    rw [hc'] at hpl
    have hz : s.size = 1 := by omega
    go_enter Tryd.func32, Tryd.ntmps32
    go_wp2_with (first | (go_at_call 36; with_reducible refine (hpl _).mono ?_; rintro e w' ⟨rfl, rfl⟩))
    go_ret2
    exact ⟨rfl, rfl⟩
  · rw [hp] at hpl
    have hc' : (c.toNat : Int) = 92 := by omega
    rw [hc'] at hpl
    have hd' : (d.toNat : Int) = 34 ∨ (d.toNat : Int) = 92 := by omega
    clear hd
    go_enter Tryd.func32, Tryd.ntmps32
    rcases hd' with hd' | hd'
    all_goals
      go_wp2_with (first | (go_at_call 36; with_reducible refine (hpl _).mono ?_; rintro e w' ⟨rfl, rfl⟩))
      go_ret2
      refine ⟨?_, rfl⟩
      rw [eV]
      first | rfl | (simp only; rw [hd']; rfl)
  · rw [hp] at hpl
    have hc' : (c.toNat : Int) = 92 := by omega
    rw [hc'] at hpl
    have hd' : (d.toNat : Int) = 110 := by omega
    clear hd
    go_enter Tryd.func32, Tryd.ntmps32
    go_wp2_with (first | (go_at_call 36; with_reducible refine (hpl _).mono ?_; rintro e w' ⟨rfl, rfl⟩))
    go_ret2
    exact ⟨rfl, rfl⟩
  · rw [hp] at hpl
    have hc' : (c.toNat : Int) = 92 := by omega
    rw [hc'] at hpl
    have hd1' : ¬ (d.toNat : Int) = 34 := by omega
    have hd2' : ¬ (d.toNat : Int) = 92 := by omega
    have hd3' : ¬ (d.toNat : Int) = 110 := by omega
    clear hd1 hd2 hd3
    have hd1b : ((d.toNat : Int) == 34) = false := by simpa using hd1'
    have hd2b : ((d.toNat : Int) == 92) = false := by simpa using hd2'
    have hd3b : ((d.toNat : Int) == 110) = false := by simpa using hd3'
    clear hd1' hd2' hd3'
    by_cases h4 : s.size < 4
    · rw [hos h4]
      go_enter Tryd.func32, Tryd.ntmps32
      go_wp2_with (first | (go_at_call 36; with_reducible refine (hpl _).mono ?_; rintro e w' ⟨rfl, rfl⟩))
      go_ret2
      exact ⟨rfl, rfl⟩
    · have hcut := hcut h4
      have hpar := hpar h4
      have hB := hB h4
      have hO := hO h4
      clear hos
      go_enter Tryd.func32, Tryd.ntmps32
      go_wp2_with (first | (go_at_call 36; with_reducible refine (hpl _).mono ?_; rintro e w' ⟨rfl, rfl⟩) | (go_at_call 14; with_reducible refine (hpar _).mono ?_; rintro e w' ⟨rfl, rfl⟩))
      all_goals first
        | (go_ret2; exact ⟨by rw [hB (Or.inr (by assumption))]; rfl, rfl⟩)
        | (go_ret2; exact ⟨by rw [hB (Or.inl (by assumption))]; rfl, rfl⟩)
        | (go_ret2; exact ⟨by rw [hO (by omega) hr.1]; rfl, rfl⟩)

end Go.Proofs.YtfhpmabejodpbaaDoor
