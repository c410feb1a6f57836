/-
  Sort of the reference. Condition: at most 2^40 requests.
-/
import Derived.Test.YtglneeeeogkljaaArC
namespace Go.Proofs.Ytglneeeeogkljaa
open Go.RowKit
set_option linter.unusedSimpArgs false
set_option linter.unusedVariables false
set_option maxHeartbeats 4000000
set_option maxRecDepth 100000
attribute [local irreducible] wpQuiet

/-- A fact that the walk does not use. -/
def Hid (p : Prop) : Prop := p
theorem hid {p : Prop} (h : p) : Hid p := h

theorem stp_take {l : List Rq} {k : Nat} {x : Rq} (h : l[k]? = some x) : (l.take (k + 1)).foldl stp [] = stp ((l.take k).foldl stp []) x := by
  have hk : k < l.length := (List.getElem?_eq_some_iff.1 h).1
  rw [List.take_succ_eq_append_getElem hk, List.foldl_append, (List.getElem?_eq_some_iff.1 h).2]; rfl
theorem stp_no {L : List Rq} {x : Rq} (h : okQ x = false) : stp L x = L := by unfold stp; rw [h]; rfl
theorem stp_yes {L : List Rq} {x : Rq} (h : okQ x = true) : stp L x = ins x L := if_pos h
theorem fold_ok (l : List Rq) : ∀ q ∈ l.foldl stp [], okQ q = true := (fold_ord l [] ⟨fun q h => (by cases h), List.Pairwise.nil⟩).1
theorem ins_len (x : Rq) (L : List Rq) : (ins x L).length = L.length + 1 := (ins_perm x L).length_eq
theorem pos_step {x : Rq} {L : List Rq} {k : Nat} {y : Rq} (hy : L[k]? = some y) (h : bef x y = true) : pos x L (k + 1) = pos x L k := by
  have hk : k < L.length := (List.getElem?_eq_some_iff.1 hy).1
  rw [pos, List.getD_eq_getElem?_getD, hy]; exact if_pos h
theorem pos_stop {x : Rq} {L : List Rq} {k : Nat} {y : Rq} (hy : L[k]? = some y) (h : bef x y = false) : pos x L (k + 1) = k + 1 := by
  rw [pos, List.getD_eq_getElem?_getD, hy]
  exact if_neg (by show ¬ bef x y = true; rw [h]; decide)

theorem ins_flat {x : Rq} {L : List Rq} {kk : Nat} (h : pos x L L.length = kk) (hk : kk ≤ L.length) {w : World} {N B : Nat} {v : Value} {n : Nat} (hn : n = L.length + 1) (ho : w.ownsRow N 23 2 v n ([] ++ flat (L.take kk) ++ [.int .i64 x.1, .int .i64 x.2] ++ flat (L.drop kk))) (hB : B ≤ N) : w.ownsRow B 23 2 v (ins x L).length (flat (ins x L)) := by
  have e1 : (ins x L).length = n := by rw [ins_len]; omega
  have e2 : flat (ins x L) = [] ++ flat (L.take kk) ++ [.int .i64 x.1, .int .i64 x.2] ++ flat (L.drop kk) := by
    unfold ins
    rw [h, flat_append, flat_cons, List.nil_append, List.append_assoc]
  rw [e1, e2]
  exact own_base ho hB
theorem ins_ne (x : Rq) (L : List Rq) : ins x L ≠ [] := by intro h; have := ins_len x L; rw [h] at this; simp at this

theorem rSort_any (v : Value) (l : List Rq) (hl : l.length ≤ 1099511627776) (w : World) (hv : Rqs w v l) :
    Calls Try.prog 15 #[v] w fun e w' => ∃ r, e = .returned r ∧ w'.ownsRow w.heap.size 23 2 r (srt l).length (flat (srt l)) ∧ Below w.heap.size w w' := by
  have hv0 := hv
  obtain ⟨A, c, rfl, _, hc⟩ := hv
  go_enter Try.func15, Try.ntmps15
  go_wp2
  go_loopw [3, 4] (fun v i wr => ∃ (k : Nat) (L : List Rq), k ≤ l.length ∧ i = .int .i64 k ∧ Hid (L = (l.take k).foldl stp []) ∧ wr.ownsRow w.heap.size 23 2 v L.length (flat L) ∧ (L = [] → v = .slice none 0 0) ∧ L.length ≤ k ∧ Below w.heap.size w wr)
    (fun _ i _ => match i with | .int _ q => l.length - q.toNat | _ => 0)
  case atStart => exact ⟨0, [], Nat.zero_le _, rfl, rfl, World.ownsRow_nil _ _ _ _, fun _ => rfl, Nat.le_refl _, Below.refl _ _⟩
  case round =>
    obtain ⟨k, L, hk, rfl, hL, hown, hnil, hLk, hB⟩ := hrel
    by_cases hkl : k < l.length
    · have hx := List.getElem?_eq_getElem hkl
      generalize l[k] = x at *
      obtain ⟨a, rfl, hc0⟩ := hc (k * 2) (.int .i64 x.1) (flat_get hx 0 _ rfl)
      have hLx : ∀ w', Below w.heap.size w w' → (Instr.loadAt 23 (.pointer (some (a.add (k * 2))))).run Try.prog w' = .ok (.agg #[.int .i64 x.1, .int .i64 x.2]) w' := fun w' h => Rqs.load (hv0.below h) rfl hx
      have hst := stp_take hx
      have hva := fun w => rValid_any x w
      clear hc
      cases hok : okQ x
      · rw [hok] at hva
        have hL2 : Hid (L = (l.take (k + 1)).foldl stp []) := by show L = _; rw [hst, ← (show L = _ from hL), stp_no hok]
        clear hx hst hL hv0
        go_wp2_with (first | (refine wpList_loadW rfl 23 _ _ _ rfl rfl (hLx _ hB) ?_) | (go_at_call 9; with_reducible refine (hva _).mono ?_; rintro e w' ⟨rfl, hb⟩; replace hown := own_step hown hb; replace hB := hB.trans (hb.mono hB.size); clear hb))
        exact ⟨⟨k + 1, L, by omega, by go_num, hL2, hown, hnil, by omega, hB⟩, by simp only; omega⟩
      · rw [hok] at hva
        have hL2 : Hid ((l.take (k + 1)).foldl stp [] = ins x L) := by show _ = _; rw [hst, ← (show L = _ from hL), stp_yes hok]
        have hLo : ∀ q ∈ L, okQ q = true := by rw [show L = _ from hL]; exact fold_ok _
        clear hst hL hv0 hc0
        by_cases hL0 : L = []
        · obtain rfl := hnil hL0
          subst hL0
          clear hnil hLk
          go_wp2_with (first | (refine wpList_loadW rfl 23 _ _ _ rfl rfl (hLx _ hB) ?_) | (go_at_call 9; with_reducible refine (hva _).mono ?_; rintro e w' ⟨rfl, hb⟩; replace hown := own_step hown hb; replace hB := hB.trans (hb.mono hB.size); clear hb))
          have hLx2 : ∀ wq, Below w'.heap.size w' wq → (Instr.loadAt 23 (.pointer (some (a.add (k * 2))))).run Try.prog wq = .ok (.agg #[.int .i64 x.1, .int .i64 x.2]) wq := fun wq h => hLx wq (hB.trans (h.mono hB.size))
          clear hLx hva hown
          go_loopw [5] (fun kv wi => kv = .int .i64 0 ∧ Below w'.heap.size w' wi) (fun _ _ => 0)
          case atStart => exact ⟨rfl, Below.refl _ _⟩
          case round =>
            obtain ⟨rfl, hBi⟩ := hrel
            go_wp2
            refine region_class (fun wz => Below w'.heap.size w' wz) (by kernel_rfl) (by kernel_rfl) hBi.drew ?_
            repeat
              first
                | (refine BigFrame.wpQuiet_skip (by rfl) ?_
                   simp only [Act.put, List.setIfInBounds_toArray, List.set_cons_zero, List.set_cons_succ])
                | (refine BigFrame.wpQuiet_want (by rfl) (fun K hK => ?_)
                   apply Exists.intro
                   refine ⟨fun wq hq => ?_, hK _ ?_⟩
                   · first
                       | (refine quiet_load 23 _ _ _ rfl rfl (hLx2 _ hq))
                       | (unfold Oper.quietAt
                          go_simp
                          first
                            | with_reducible rfl
                         )
                   clear hK K
                   simp only [Act.put, List.setIfInBounds_toArray, List.set_cons_zero, List.set_cons_succ])
            refine wpQuiet_nil ?_
            intro w4 hB4
            have hBw : Below w4.heap.size w4 w4 := Below.refl _ _
            have hN4 := hB4.size
            go_wp2_with (first | (refine wpList_loadW rfl 23 _ _ _ rfl rfl (hLx2 _ hB4) ?_) | (at_builtin; obtain ⟨iq, hiq, _, _, _⟩ := infoQ_parts; refine wpList_append_own_none rfl (.tmp 37) (.tmp 40) 26 rfl w4.heap.size 23 iq 2 Try.underlying26 hiq _ _ _ rfl (World.ownsRow_nil _ _ _ _) rfl ?_) | (at_builtin; refine wpList_appQ rfl (.tmp 42) (.tmp 47) rfl w4.heap.size _ _ _ rfl (World.ownsRow.alloc (World.ownsRow_nil w4 w4.heap.size 23 2) _) ⟨w4.heap.size, 0, none⟩ 1 1 [.int .i64 x.1, .int .i64 x.2] rfl rfl (cells_two_new _ _ _ _) (flat_one [x]) (by omega) (by have := hBw.size; simp <;> omega) ?_; intro v2 w2 ho2 hbN _; replace hB4 := (hB4.alloc hB4.size _).trans (hbN.mono hN4)) | (at_builtin; obtain ⟨iq, hiq, _, _, _⟩ := infoQ_parts; refine wpList_append_own_none rfl (.tmp 49) (.tmp 52) 26 rfl w4.heap.size 23 iq 2 Try.underlying26 hiq _ _ _ rfl ho2 rfl ?_))
            all_goals exact ⟨⟨k + 1, ins x [], by omega, by go_num, hL2.symm, own_base ho2 (by have := hB.size; omega), fun h => absurd h (ins_ne _ _), by rw [ins_len]; simp, hB.trans (hB4.mono hB.size)⟩, by simp only; omega⟩
        · have hpos : 0 < L.length := List.length_pos_iff.2 hL0
          obtain ⟨g, cap, rfl, hncap, hcm, hbg, hgl, hcl⟩ := own_at hown hpos
          clear hnil hgl hcl
          go_wp2_with (first | (refine wpList_loadW rfl 23 _ _ _ rfl rfl (hLx _ hB) ?_) | (go_at_call 9; with_reducible refine (hva _).mono ?_; rintro e w' ⟨rfl, hb⟩; replace hown := own_step hown hb; replace hB := hB.trans (hb.mono hB.size); clear hb))
          have hrow : Rqs w' (.slice (some ⟨g, 0, none⟩) L.length cap) L := Rw.of_own hown
          have hLx2 : ∀ wq, Below w'.heap.size w' wq → (Instr.loadAt 23 (.pointer (some (a.add (k * 2))))).run Try.prog wq = .ok (.agg #[.int .i64 x.1, .int .i64 x.2]) wq := fun wq h => hLx wq (hB.trans (h.mono hB.size))
          clear hLx hva
          go_loopw [5] (fun kv wi => ∃ kk : Nat, kv = .int .i64 kk ∧ kk ≤ L.length ∧ Hid (pos x L L.length = pos x L kk) ∧ Below w'.heap.size w' wi) (fun kv _ => match kv with | .int _ q => q.toNat | _ => 0)
          case atStart => exact ⟨L.length, rfl, Nat.le_refl _, rfl, Below.refl _ _⟩
          case round =>
            obtain ⟨kk, rfl, hkk, hP, hBi⟩ := hrel
            by_cases hk0 : kk = 0
            · subst hk0
              go_wp2
              refine region_class (fun wz => Below w'.heap.size w' wz) (by kernel_rfl) (by kernel_rfl) hBi.drew ?_
              repeat
                first
                  | (refine BigFrame.wpQuiet_skip (by rfl) ?_
                     simp only [Act.put, List.setIfInBounds_toArray, List.set_cons_zero, List.set_cons_succ])
                  | (refine BigFrame.wpQuiet_want (by rfl) (fun K hK => ?_)
                     apply Exists.intro
                     refine ⟨fun wq hq => ?_, hK _ ?_⟩
                     · first
                         | (refine quiet_load 23 _ _ _ rfl rfl (hLx2 _ hq))
                         | (refine quiet_load 23 _ _ _ rfl rfl (hLy _ hq))
                         | (unfold Oper.quietAt
                            go_simp
                            first
                              | with_reducible rfl
                              | ((go_at_call 20); with_reducible refine (hbe _).mono ?_; exact fun e w' ⟨he, hb⟩ => ⟨he, hq.trans (hb.mono hq.size)⟩)
                           )
                     clear hK K
                     simp only [Act.put, List.setIfInBounds_toArray, List.set_cons_zero, List.set_cons_succ])
              refine wpQuiet_nil ?_
              intro w4 hB4
              have hBw : Below w4.heap.size w4 w4 := Below.refl _ _
              have hN4 := hB4.size
              go_wp2_with (first | (refine wpList_loadW rfl 23 _ _ _ rfl rfl (hLx2 _ hB4) ?_) | (at_builtin; refine wpList_appQ rfl (.tmp 37) (.tmp 40) rfl w4.heap.size _ 0 [] rfl (World.ownsRow_nil _ _ _ _) ⟨g, 0, none⟩ 0 cap (flat (L.take 0)) rfl (by rw [flat_length, List.length_take, Nat.min_eq_left (by omega)]) (fun jz u h => Rqs.cells (Rw.below hrow hB4) jz u (flat_take _ h)) (flat_one _) (by omega) (Nat.le_refl _) ?_; intro v1 w1 ho1 hbN _; have hBw := hbN; replace hB4 := hB4.trans (hbN.mono hN4)) | (at_builtin; refine wpList_appQ rfl (.tmp 42) (.tmp 47) rfl w4.heap.size _ _ _ rfl (World.ownsRow.alloc ho1 _) ⟨w1.heap.size, 0, none⟩ 1 1 [.int .i64 x.1, .int .i64 x.2] rfl rfl (cells_two_new _ _ _ _) (flat_one [x]) (by omega) (by have := hBw.size; simp <;> omega) ?_; intro v2 w2 ho2 hbN _; replace hB4 := (hB4.alloc hB4.size _).trans (hbN.mono hN4)) | (at_builtin; refine wpList_appQ rfl (.tmp 49) (.tmp 52) rfl w4.heap.size _ _ _ rfl ho2 _ _ _ (flat (L.drop 0)) rfl (by rw [flat_length, List.length_drop] <;> omega) (fun jz u h => by first | (rw [addr_add]; exact Rqs.cells (Rw.below hrow hB4) _ u (flat_drop 0 (by omega) h)) | (rw [addr_at]; exact Rqs.cells (Rw.below hrow hB4) _ u (flat_drop 0 (by omega) h)) | (rw [List.drop_eq_nil_of_le (by omega)] at h; simp [flat] at h)) (flat_one _) (by omega) (by have := hBw.size; have := hbN.size; simp at *; omega) ?_; intro v3 w3 ho3 hbN _; replace hB4 := hB4.trans (hbN.mono hN4)))
              all_goals exact ⟨⟨k + 1, ins x L, by omega, by go_num, hL2.symm, ins_flat (show pos x L L.length = 0 from hP) (by omega) (by omega) ho3 (by have := hB.size; omega), fun h => absurd h (ins_ne _ _), by rw [ins_len]; omega, hB.trans (hB4.mono hB.size)⟩, by simp only; omega⟩
            · obtain ⟨j, rfl⟩ : ∃ j, kk = j + 1 := ⟨kk - 1, by omega⟩
              have hy := List.getElem?_eq_getElem (show j < L.length by omega)
              generalize L[j] = y at *
              have hyo := hLo y (List.mem_of_getElem? hy)
              have hLy : ∀ wq, Below w'.heap.size w' wq → (Instr.loadAt 23 (.pointer (some ⟨g, j * 2, none⟩))).run Try.prog wq = .ok (.agg #[.int .i64 y.1, .int .i64 y.2]) wq := fun wq h => by
                have e : (⟨g, 0, none⟩ : Addr).add (j * 2) = ⟨g, j * 2, none⟩ := (addr_at g (j * 2) 0).symm.trans (by unfold Addr.add; rfl)
                rw [← e]; exact Rqs.load (Rw.below hrow h) rfl hy
              have hbe := fun w => rBefore_any x y hok hyo w
              have hw1 : IntKind.i64.wrap (((j + 1 : Nat) : Int) - 1) = (j : Int) := by rw [wrap_i64]; unfold wrap64; omega
              have hw2 : wrap64 (((j + 1 : Nat) : Int) - 1) = (j : Int) := by unfold wrap64; omega
              have hgt : (0 : Int) < ((j + 1 : Nat) : Int) := by omega
              have hjl : j < L.length := by omega
              generalize hjj : ((j + 1 : Nat) : Int) = J at *
              have hJn : J.toNat = j + 1 := by omega
              have hJl : J ≤ (L.length : Int) := by omega
              have hJc : J ≤ (cap : Int) := by omega
              have hJ0 : 0 ≤ J := by omega
              cases hbf : bef x y
              · rw [hbf] at hbe
                by_cases hcc : cap = j + 1
                · have hLle : L.length ≤ j + 1 := by omega
                  have hcc2 : cap - (j + 1) = 0 := by omega
                  replace hcc := hid hcc
                  go_wp2
                  refine region_class (fun wz => Below w'.heap.size w' wz) (by kernel_rfl) (by kernel_rfl) hBi.drew ?_
                  repeat
                    first
                      | (refine BigFrame.wpQuiet_skip (by rfl) ?_
                         simp only [Act.put, List.setIfInBounds_toArray, List.set_cons_zero, List.set_cons_succ])
                      | (refine BigFrame.wpQuiet_want (by rfl) (fun K hK => ?_)
                         apply Exists.intro
                         refine ⟨fun wq hq => ?_, hK _ ?_⟩
                         · first
                             | (refine quiet_load 23 _ _ _ rfl rfl (hLx2 _ hq))
                             | (refine quiet_load 23 _ _ _ rfl rfl (hLy _ hq))
                             | (unfold Oper.quietAt
                                go_simp
                                first
                                  | with_reducible rfl
                                  | ((go_at_call 20); with_reducible refine (hbe _).mono ?_; exact fun e w' ⟨he, hb⟩ => ⟨he, hq.trans (hb.mono hq.size)⟩)
                               )
                         clear hK K
                         simp only [Act.put, List.setIfInBounds_toArray, List.set_cons_zero, List.set_cons_succ])
                  refine wpQuiet_nil ?_
                  intro w4 hB4
                  have hBw : Below w4.heap.size w4 w4 := Below.refl _ _
                  have hN4 := hB4.size
                  go_wp2_with (first | (refine wpList_loadW rfl 23 _ _ _ rfl rfl (hLx2 _ hB4) ?_) | (at_builtin; refine wpList_appQ rfl (.tmp 37) (.tmp 40) rfl w4.heap.size _ 0 [] rfl (World.ownsRow_nil _ _ _ _) ⟨g, 0, none⟩ (j + 1) _ (flat (L.take (j + 1))) rfl (by rw [flat_length, List.length_take, Nat.min_eq_left (by omega)]) (fun jz u h => Rqs.cells (Rw.below hrow hB4) jz u (flat_take _ h)) (flat_one _) (by omega) (Nat.le_refl _) ?_; intro v1 w1 ho1 hbN _; have hBw := hbN; replace hB4 := hB4.trans (hbN.mono hN4)) | (at_builtin; refine wpList_appQ rfl (.tmp 42) (.tmp 47) rfl w4.heap.size _ _ _ rfl (World.ownsRow.alloc ho1 _) ⟨w1.heap.size, 0, none⟩ 1 1 [.int .i64 x.1, .int .i64 x.2] rfl rfl (cells_two_new _ _ _ _) (flat_one [x]) (by omega) (by have := hBw.size; simp <;> omega) ?_; intro v2 w2 ho2 hbN _; replace hB4 := (hB4.alloc hB4.size _).trans (hbN.mono hN4)) | (at_builtin; refine wpList_appQ rfl (.tmp 49) (.tmp 52) rfl w4.heap.size _ _ _ rfl ho2 _ _ _ (flat (L.drop (j + 1))) rfl (by rw [flat_length, List.length_drop] <;> omega) (fun jz u h => by first | (rw [addr_add]; exact Rqs.cells (Rw.below hrow hB4) _ u (flat_drop (j + 1) (by omega) h)) | (rw [addr_at]; exact Rqs.cells (Rw.below hrow hB4) _ u (flat_drop (j + 1) (by omega) h)) | (rw [List.drop_eq_nil_of_le (by omega)] at h; simp [flat] at h)) (flat_one _) (by omega) (by have := hBw.size; have := hbN.size; simp at *; omega) ?_; intro v3 w3 ho3 hbN _; replace hB4 := hB4.trans (hbN.mono hN4)))
                  all_goals exact ⟨⟨k + 1, ins x L, by omega, by go_num, hL2.symm, ins_flat (show pos x L L.length = j + 1 from hP.trans (pos_stop hy hbf)) (by omega) (by omega) ho3 (by have := hB.size; omega), fun h => absurd h (ins_ne _ _), by rw [ins_len]; omega, hB.trans (hB4.mono hB.size)⟩, by simp only; omega⟩
                · have hcJ : ¬ (cap : Int) = J := by omega
                  have hcJ2 : ¬ cap - (j + 1) = 0 := by omega
                  go_wp2
                  refine region_class (fun wz => Below w'.heap.size w' wz) (by kernel_rfl) (by kernel_rfl) hBi.drew ?_
                  repeat
                    first
                      | (refine BigFrame.wpQuiet_skip (by rfl) ?_
                         simp only [Act.put, List.setIfInBounds_toArray, List.set_cons_zero, List.set_cons_succ])
                      | (refine BigFrame.wpQuiet_want (by rfl) (fun K hK => ?_)
                         apply Exists.intro
                         refine ⟨fun wq hq => ?_, hK _ ?_⟩
                         · first
                             | (refine quiet_load 23 _ _ _ rfl rfl (hLx2 _ hq))
                             | (refine quiet_load 23 _ _ _ rfl rfl (hLy _ hq))
                             | (unfold Oper.quietAt
                                go_simp
                                first
                                  | with_reducible rfl
                                  | ((go_at_call 20); with_reducible refine (hbe _).mono ?_; exact fun e w' ⟨he, hb⟩ => ⟨he, hq.trans (hb.mono hq.size)⟩)
                               )
                         clear hK K
                         simp only [Act.put, List.setIfInBounds_toArray, List.set_cons_zero, List.set_cons_succ])
                  refine wpQuiet_nil ?_
                  intro w4 hB4
                  have hBw : Below w4.heap.size w4 w4 := Below.refl _ _
                  have hN4 := hB4.size
                  go_wp2_with (first | (refine wpList_loadW rfl 23 _ _ _ rfl rfl (hLx2 _ hB4) ?_) | (at_builtin; refine wpList_appQ rfl (.tmp 37) (.tmp 40) rfl w4.heap.size _ 0 [] rfl (World.ownsRow_nil _ _ _ _) ⟨g, 0, none⟩ (j + 1) _ (flat (L.take (j + 1))) rfl (by rw [flat_length, List.length_take, Nat.min_eq_left (by omega)]) (fun jz u h => Rqs.cells (Rw.below hrow hB4) jz u (flat_take _ h)) (flat_one _) (by omega) (Nat.le_refl _) ?_; intro v1 w1 ho1 hbN _; have hBw := hbN; replace hB4 := hB4.trans (hbN.mono hN4)) | (at_builtin; refine wpList_appQ rfl (.tmp 42) (.tmp 47) rfl w4.heap.size _ _ _ rfl (World.ownsRow.alloc ho1 _) ⟨w1.heap.size, 0, none⟩ 1 1 [.int .i64 x.1, .int .i64 x.2] rfl rfl (cells_two_new _ _ _ _) (flat_one [x]) (by omega) (by have := hBw.size; simp <;> omega) ?_; intro v2 w2 ho2 hbN _; replace hB4 := (hB4.alloc hB4.size _).trans (hbN.mono hN4)) | (at_builtin; refine wpList_appQ rfl (.tmp 49) (.tmp 52) rfl w4.heap.size _ _ _ rfl ho2 _ _ _ (flat (L.drop (j + 1))) rfl (by rw [flat_length, List.length_drop] <;> omega) (fun jz u h => by first | (rw [addr_add]; exact Rqs.cells (Rw.below hrow hB4) _ u (flat_drop (j + 1) (by omega) h)) | (rw [addr_at]; exact Rqs.cells (Rw.below hrow hB4) _ u (flat_drop (j + 1) (by omega) h)) | (rw [List.drop_eq_nil_of_le (by omega)] at h; simp [flat] at h)) (flat_one _) (by omega) (by have := hBw.size; have := hbN.size; simp at *; omega) ?_; intro v3 w3 ho3 hbN _; replace hB4 := hB4.trans (hbN.mono hN4)))
                  all_goals exact ⟨⟨k + 1, ins x L, by omega, by go_num, hL2.symm, ins_flat (show pos x L L.length = j + 1 from hP.trans (pos_stop hy hbf)) (by omega) (by omega) ho3 (by have := hB.size; omega), fun h => absurd h (ins_ne _ _), by rw [ins_len]; omega, hB.trans (hB4.mono hB.size)⟩, by simp only; omega⟩
              · rw [hbf] at hbe
                go_wp2
                refine region_class (fun wz => Below w'.heap.size w' wz) (by kernel_rfl) (by kernel_rfl) hBi.drew ?_
                repeat
                  first
                    | (refine BigFrame.wpQuiet_skip (by rfl) ?_
                       simp only [Act.put, List.setIfInBounds_toArray, List.set_cons_zero, List.set_cons_succ])
                    | (refine BigFrame.wpQuiet_want (by rfl) (fun K hK => ?_)
                       apply Exists.intro
                       refine ⟨fun wq hq => ?_, hK _ ?_⟩
                       · first
                           | (refine quiet_load 23 _ _ _ rfl rfl (hLx2 _ hq))
                           | (refine quiet_load 23 _ _ _ rfl rfl (hLy _ hq))
                           | (unfold Oper.quietAt
                              go_simp
                              first
                                | with_reducible rfl
                                | ((go_at_call 20); with_reducible refine (hbe _).mono ?_; exact fun e w' ⟨he, hb⟩ => ⟨he, hq.trans (hb.mono hq.size)⟩)
                             )
                       clear hK K
                       simp only [Act.put, List.setIfInBounds_toArray, List.set_cons_zero, List.set_cons_succ])
                refine wpQuiet_nil ?_
                intro w4 hB4
                go_wp2
                exact ⟨⟨j, by go_num, by omega, hP.trans (pos_step hy hbf), hB4⟩, by simp only; omega⟩
    · obtain rfl : k = l.length := by omega
      have hL2 : srt l = L := by rw [show L = _ from hL, List.take_length]; rfl
      replace hL2 := hid hL2
      clear hc hL hv0
      go_wp2
      go_ret
      exact ⟨_, rfl, by rw [show srt l = L from hL2]; exact hown, hB⟩
end Go.Proofs.Ytglneeeeogkljaa
