import Derived.Test.YtjolhlfjpnlcnaaPB
import Derived.Test.YtjolhlfjpnlcnaaDZ
import Derived.Test.YtjolhlfjpnlcnaaPA
import Derived.Test.YtjolhlfjpnlcnaaDkL
import Derived.Test.YtjolhlfjpnlcnaaOR
/-
  transfer of the program: check, read. Conditions: a valid drive, words of 16 bits.
-/
namespace Go.Proofs.Ytjolhlfjpnlcnaa
open Go.RowKit
set_option linter.unusedSimpArgs false
set_option linter.unusedVariables false
set_option maxHeartbeats 4000000
set_option maxRecDepth 100000
attribute [local irreducible] wpQuiet

theorem extract_list (s : ByteArray) (k : Nat) : (s.extract 0 k).data.toList = s.data.toList.take k := by
  rw [ByteArray.data_extract]; simp
theorem ws_ext (m : List Int) (A q : Nat) (F : ByteArray) : wsV m A q = F ↔ bytesN m (2 * A) (2 * q) = F.data.toList := by
  constructor
  · intro h; rw [← h]; rfl
  · intro h
    apply ByteArray.ext
    apply Array.ext'
    exact h
theorem ptr_ck (D : Drv) (n r e : Bool) (s : Int) (A : Nat) (w1 l : Int) (q : Nat) (hq : q ≤ 64) (hA : A ≤ 32767) (m B : List Int) (vs vb vm vz : Value) (X : Nat → Prop) (wN w : World) (hN : Below wN.heap.size wN w) (hXN : ∀ b, X b → b < wN.heap.size) (hs : StsX X wN vs D.S) (hb : ItsX X wN vb D.B) (hm : ItsX X wN vm m) (hz : w.ownsRow wN.heap.size 3 1 vz B.length (B.map (Value.int .i64))) (hml : m.length ≤ 1099511627776) (hzl : B.length ≤ 1099511627776) (hD : D.right = true) (hw : ∀ x ∈ m, 0 ≤ x ∧ x ≤ 65535) (hf : ¬ 2 * (m.length : Int) < 2 * (A : Int) + 2 * (q : Int)) (hp : spV B (2 * (A : Int)) q = false) (he : (D.rd s).2 = 0) : Calls Try.prog 43 #[.agg #[vs, vb, .bool n, .bool r, .bool e, .int .i64 3, .int .i64 w1, .int .i64 (2 * (A : Int)), .int .i64 s, .int .i64 l], vm, vz, .int .i64 (q : Int)] w (TrSays (Dk.mk D n r e 3 w1 (2 * (A : Int)) s l) (!dfW m A q (D.rd s).1) m B X wN w) := by
  have hsw := hs.below hN
  have hbw := hb.below hN
  have hmw := hm.below hN
  have o1 := sts_one hsw.now
  have o2 := its_one hbw.now
  have x1 : IntKind.i64.wrap ((q : Int) * 2) = 2 * (q : Int) := by rw [wrap_i64]; unfold wrap64; omega
  have hby := fun wz (h : Below w.heap.size w wz) => bytes_any vm m hml (2 * (A : Int)) (2 * (q : Int)) (by omega) wz (Its.nums (hmw.below h).now)
  have hzz : ItsX X w vz B := Sv.of_own hz hXN
  rw [bytes_near hf, bytesS_near hf] at hby
  have hws := wsV_size m A q
  have hX := two_dk w [vs, vb, .bool n, .bool r, .bool e, .int .i64 3, .int .i64 w1, .int .i64 (2 * (A : Int)), .int .i64 s, .int .i64 l] [.slice none 0 0, .slice none 0 0, .bool false, .bool false, .bool false, .int .i64 0, .int .i64 0, .int .i64 0, .int .i64 0, .int .i64 0]
  have hrd := fun wz (h : Below w.heap.size w wz) => pread_any D s hD vs vb wz (hsw.below h).now (hbw.below h).now
  have hsz := rd_size hD he
  rw [he] at hrd
  have hct := fun (wb : Nat) wz (h : Below w.heap.size w wz) (hX : Bag [(wb, 9, [.string (wsV m A q)]), (w.heap.size + 1, 27, [.slice none 0 0, .slice none 0 0, .bool false, .bool false, .bool false, .int .i64 0, .int .i64 0, .int .i64 0, .int .i64 0, .int .i64 0]), (w.heap.size, 27, [vs, vb, .bool n, .bool r, .bool e, .int .i64 3, .int .i64 w1, .int .i64 (2 * (A : Int)), .int .i64 s, .int .i64 l])] w wz) => pctf_own (2 * (A : Int)) q B (wsV m A q) w.heap.size wb wN.heap.size vz wz (own_step hz h) hzl (hX.all _ _ _ (.tail _ (.tail _ (.head _)))).lt (hX.all _ _ _ (.head _)).lt ((hX.all _ _ _ (.tail _ (.tail _ (.head _)))).cell (k := 7) rfl) ((hX.all _ _ _ (.head _)).cell (k := 0) rfl) (by omega) hq hws
  rw [hp] at hct
  have hdf := dfW_iff hw A (D.rd s).1 q (by omega)
  generalize dfW m A q (D.rd s).1 = df at *
  generalize (D.rd s).1 = sv at *
  have k1 : ((wsV m A q).size : Int) = 2 * (q : Int) := by rw [hws]; omega
  have k2 : (sv.size : Int) = 128 := by rw [hsz]; rfl
  have k3 : min (2 * (q : Int)) 128 = 2 * (q : Int) := by omega
  obtain ⟨FV, hFV⟩ : ∃ FV, sv.extract 0 (2 * (q : Int)).toNat = FV := ⟨_, rfl⟩
  have hdq : ((wsV m A q).toList == FV.toList) = !df := by
    have e1 : (wsV m A q = FV) ↔ df = false := by
      rw [hdf, ← hFV, ws_ext, extract_list, show (2 * (q : Int)).toNat = 2 * q by omega]
    by_cases h : wsV m A q = FV
    · rw [str_eq h, e1.1 h]; rfl
    · rw [str_ne h]
      cases df
      · exact absurd (e1.2 rfl) h
      · rfl
  clear hdf
  go_enter Try.func43, Try.ntmps43
  go_wp2_with (first | (go_at_call 57; (with_reducible refine (hby _ hX.below).mono ?_); rintro e' wY ⟨rfl, hbb⟩; replace hX := hX.step hbb; have hwY := hX.below.size; clear hbb) | ((with_reducible refine at_store ?_); refine wpList_bag_new1 (z := .string _) hX siz_s _ _ rfl rfl rfl rfl rfl rfl rfl rfl ?_; clear hX; intro wb hX hb8; clear hb8) | (go_at_call 59; (with_reducible refine (hct _ _ hX.below hX).mono ?_); rintro e' wc ⟨rfl, hbb⟩; replace hX := hX.step hbb; clear hbb) | ((with_reducible refine at_load ?_); refine wpList_bag_cell hX int_cell _ rfl rfl rfl rfl (by first | exact .head _ | exact .tail _ (.head _) | exact .tail _ (.tail _ (.head _))) rfl ?_) | ((with_reducible refine at_load ?_); refine wpList_bag_cell hX bool_cell _ rfl rfl rfl rfl (by first | exact .head _ | exact .tail _ (.head _) | exact .tail _ (.tail _ (.head _))) rfl ?_) | ((with_reducible refine at_load ?_); refine wpList_bag_cell hX str_cell _ rfl rfl rfl rfl (by first | exact .head _ | exact .tail _ (.head _) | exact .tail _ (.tail _ (.head _))) rfl ?_) | ((with_reducible refine at_load ?_); refine wpList_bag_part (k := 0) hX aggK sizK _ rfl rfl rfl rfl (by first | exact .head _ | exact .tail _ (.head _) | exact .tail _ (.tail _ (.head _))) (fun jz vz hz => (congrArg (fun n => ([_, _, _, _, _, _, _, _, _, _] : List Value)[n]?) (Nat.zero_add jz)).trans hz) rfl ?_) | ((with_reducible refine at_load ?_); refine wpList_bag_part (k := 0) (ds := [_, _]) hX aggD sizD _ rfl rfl rfl rfl (by first | exact .head _ | exact .tail _ (.head _) | exact .tail _ (.tail _ (.head _))) (fun jz vz hz => by rcases jz with _ | _ | jz <;> first | exact hz | (simp at hz)) rfl ?_) | (go_at_call 61; (with_reducible refine (hrd _ hX.below).mono ?_); rintro e' wc ⟨rfl, hbb⟩; replace hX := hX.step hbb; clear hbb))
  replace hX := hX.drew
  refine region_hoistS (fun w' => Bag [(wY.heap.size, 9, [.string (wsV m A q)]), (w.heap.size, 27, [vs, vb, .bool n, .bool r, .bool e, .int .i64 3, .int .i64 w1, .int .i64 (2 * (A : Int)), .int .i64 s, .int .i64 l])] w w') 9 [(0, false), (1, false), (2, false), (3, false), (4, false), (5, false), (6, true), (7, false), (8, false)] (by kernel_rfl) (by kernel_rfl) (fun _ _ dd _ _ h => by cases dd <;> exact h) hX.swap.restS ?_
  refine wpHp_q' rfl rfl (fun KK hKK => ?_)
  apply Exists.intro
  refine ⟨fun wq hq => ?_, hKK _ ?_⟩
  · try dsimp only at hq
    first
      | exact run_load_op 27 _ _ rfl rfl ((hq.all _ _ _ (.tail _ (.head _))).loadAt rfl aggK sizK)
      | exact run_load_op 9 _ _ rfl rfl ((hq.all _ _ _ (.head _)).loadCell rfl str_cell)
      | (unfold execOp; go_simp; done)
      | (unfold execOp; go_simp; with_reducible rfl)
  clear hKK KK
  simp only [Act.put, List.setIfInBounds_toArray, List.set_cons_zero, List.set_cons_succ]
  refine wpHp_q' rfl rfl (fun KK hKK => ?_)
  apply Exists.intro
  refine ⟨fun wq hq => ?_, hKK _ ?_⟩
  · try dsimp only at hq
    first
      | exact run_load_op 27 _ _ rfl rfl ((hq.all _ _ _ (.tail _ (.head _))).loadAt rfl aggK sizK)
      | exact run_load_op 9 _ _ rfl rfl ((hq.all _ _ _ (.head _)).loadCell rfl str_cell)
      | (unfold execOp; go_simp; done)
      | (unfold execOp; go_simp; with_reducible rfl)
  clear hKK KK
  simp only [Act.put, List.setIfInBounds_toArray, List.set_cons_zero, List.set_cons_succ]
  refine wpHp_q' rfl rfl (fun KK hKK => ?_)
  apply Exists.intro
  refine ⟨fun wq hq => ?_, hKK _ ?_⟩
  · try dsimp only at hq
    first
      | exact run_load_op 27 _ _ rfl rfl ((hq.all _ _ _ (.tail _ (.head _))).loadAt rfl aggK sizK)
      | exact run_load_op 9 _ _ rfl rfl ((hq.all _ _ _ (.head _)).loadCell rfl str_cell)
      | (unfold execOp; go_simp; done)
      | (unfold execOp; go_simp; with_reducible rfl)
  clear hKK KK
  simp only [Act.put, List.setIfInBounds_toArray, List.set_cons_zero, List.set_cons_succ]
  refine wpHp_q' rfl rfl (fun KK hKK => ?_)
  apply Exists.intro
  refine ⟨fun wq hq => ?_, hKK _ ?_⟩
  · try dsimp only at hq
    first
      | exact run_load_op 27 _ _ rfl rfl ((hq.all _ _ _ (.tail _ (.head _))).loadAt rfl aggK sizK)
      | exact run_load_op 9 _ _ rfl rfl ((hq.all _ _ _ (.head _)).loadCell rfl str_cell)
      | (unfold execOp; go_simp; done)
      | (unfold execOp; go_simp; with_reducible rfl)
  clear hKK KK
  simp only [Act.put, List.setIfInBounds_toArray, List.set_cons_zero, List.set_cons_succ]
  refine wpHp_q' rfl rfl (fun KK hKK => ?_)
  apply Exists.intro
  refine ⟨fun wq hq => ?_, hKK _ ?_⟩
  · try dsimp only at hq
    first
      | exact run_load_op 27 _ _ rfl rfl ((hq.all _ _ _ (.tail _ (.head _))).loadAt rfl aggK sizK)
      | exact run_load_op 9 _ _ rfl rfl ((hq.all _ _ _ (.head _)).loadCell rfl str_cell)
      | (unfold execOp; go_simp; done)
      | (unfold execOp; go_simp; with_reducible rfl)
  clear hKK KK
  simp only [Act.put, List.setIfInBounds_toArray, List.set_cons_zero, List.set_cons_succ]
  refine wpHp_q' rfl rfl (fun KK hKK => ?_)
  apply Exists.intro
  refine ⟨fun wq hq => ?_, hKK _ ?_⟩
  · try dsimp only at hq
    first
      | exact run_load_op 27 _ _ rfl rfl ((hq.all _ _ _ (.tail _ (.head _))).loadAt rfl aggK sizK)
      | exact run_load_op 9 _ _ rfl rfl ((hq.all _ _ _ (.head _)).loadCell rfl str_cell)
      | (unfold execOp; go_simp; done)
      | (unfold execOp; go_simp; with_reducible rfl)
  clear hKK KK
  simp only [Act.put, List.setIfInBounds_toArray, List.set_cons_zero, List.set_cons_succ]
  refine wpHp_over (cs' := [vs, vb, .bool n, .bool r, .bool e, .int .i64 3, .int .i64 w1, .int .i64 (2 * (A : Int)), .int .i64 s, .int .i64 l]) rfl rfl hX.swap aggK sizK _ _ rfl rfl rfl rfl rfl rfl (one_dk o1 o2 _ _ _ _ _ _ _ _) (fun w7 hX7 hk7 => ⟨hX7.restS, ?_⟩)
  clear hk7 hX
  have hX := hX7
  clear hX7
  simp only [Act.put, List.setIfInBounds_toArray, List.set_cons_zero, List.set_cons_succ]
  refine wpHp_q' rfl rfl (fun KK hKK => ?_)
  apply Exists.intro
  refine ⟨fun wq hq => ?_, hKK _ ?_⟩
  · try dsimp only at hq
    first
      | exact run_load_op 27 _ _ rfl rfl ((hq.all _ _ _ (.tail _ (.head _))).loadAt rfl aggK sizK)
      | exact run_load_op 9 _ _ rfl rfl ((hq.all _ _ _ (.head _)).loadCell rfl str_cell)
      | (unfold execOp; go_simp; done)
      | (unfold execOp; go_simp; with_reducible rfl)
  clear hKK KK
  simp only [Act.put, List.setIfInBounds_toArray, List.set_cons_zero, List.set_cons_succ]
  refine wpHp_q' rfl rfl (fun KK hKK => ?_)
  apply Exists.intro
  refine ⟨fun wq hq => ?_, hKK _ ?_⟩
  · try dsimp only at hq
    first
      | exact run_load_op 27 _ _ rfl rfl ((hq.all _ _ _ (.tail _ (.head _))).loadAt rfl aggK sizK)
      | exact run_load_op 9 _ _ rfl rfl ((hq.all _ _ _ (.head _)).loadCell rfl str_cell)
      | (unfold execOp; go_simp; done)
      | (unfold execOp; go_simp; with_reducible rfl)
  clear hKK KK
  simp only [Act.put, List.setIfInBounds_toArray, List.set_cons_zero, List.set_cons_succ]
  refine wpHp_nil ?_
  simp only [List.drop_succ_cons, List.drop_zero]
  go_wp2
  first | exact bodyPost_ret (results_ct3 Try.results43 rfl ((hX.all _ _ _ (.head _)).loadVar rfl aggK sizK)) rfl ⟨_, _, _, rfl, ⟨_, _, rfl, hsw.below hX.below, hbw.below hX.below⟩, fun _ => ⟨hmw.below hX.below, hzz.below hX.below⟩, hN.trans (hX.below.mono hN.size), fun _ => hX.below⟩ | exact bodyPost_ret (results_ct3 Try.results43 rfl ((hX.all _ _ _ (.tail _ (.head _))).loadVar rfl aggK sizK)) rfl ⟨_, _, _, rfl, ⟨_, _, rfl, hsw.below hX.below, hbw.below hX.below⟩, fun _ => ⟨hmw.below hX.below, hzz.below hX.below⟩, hN.trans (hX.below.mono hN.size), fun _ => hX.below⟩ | exact bodyPost_ret (results_ct3 Try.results43 rfl ((hX.all _ _ _ (.tail _ (.tail _ (.head _)))).loadVar rfl aggK sizK)) rfl ⟨_, _, _, rfl, ⟨_, _, rfl, hsw.below hX.below, hbw.below hX.below⟩, fun _ => ⟨hmw.below hX.below, hzz.below hX.below⟩, hN.trans (hX.below.mono hN.size), fun _ => hX.below⟩
/-- The lowest block of a row is above a block that is written. -/
theorem own_above {w w' : World} {base n k : Nat} {t : TypeId} {v u : Value} {xs : List Value} (h : w.ownsRow base t k v n xs) (hg : w.grownBy w' u.ownBlock) (hu : ∀ g, u.ownBlock = some g → g < base) : w'.ownsRow base t k v n xs := by
  refine h.kept hg ?_
  rcases hv : v.ownBlock with _ | g
  · exact .inl rfl
  · refine .inr (fun e => ?_)
    have h1 := (World.ownsRow.lt h g hv).1
    have h2 := hu g e.symm
    omega
theorem ptr_get (D : Drv) (n r e : Bool) (s : Int) (A : Nat) (w1 l : Int) (q : Nat) (hq : q ≤ 64) (hA : A ≤ 32767) (m B : List Int) (vs vb vm vz : Value) (X : Nat → Prop) (wN w : World) (hN : Below wN.heap.size wN w) (hXN : ∀ b, X b → b < wN.heap.size) (hs : StsX X wN vs D.S) (hb : ItsX X wN vb D.B) (hm : ItsX X wN vm m) (hz : w.ownsRow wN.heap.size 3 1 vz B.length (B.map (Value.int .i64))) (hml : m.length ≤ 1099511627776) (hzl : B.length ≤ 1099511627776) (hD : D.right = true) (hw : ∀ x ∈ m, 0 ≤ x ∧ x ≤ 65535) (hf : ¬ 2 * (m.length : Int) < 2 * (A : Int) + 2 * (q : Int)) (he : (D.rd s).2 = 0) (hpos : 0 < m.length) : Calls Try.prog 43 #[.agg #[vs, vb, .bool n, .bool r, .bool e, .int .i64 1, .int .i64 w1, .int .i64 (2 * (A : Int)), .int .i64 s, .int .i64 l], vm, vz, .int .i64 (q : Int)] w (TrSays (Dk.mk D n r e 1 w1 (2 * (A : Int)) s l) true (putM m A (D.rd s).1 q) (outB B (2 * (A : Int)) q) X wN w) := by
  have hsw := hs.below hN
  have hbw := hb.below hN
  have hmw := hm.below hN
  have o1 := sts_one hsw.now
  have o2 := its_one hbw.now
  have x1 : IntKind.i64.wrap ((q : Int) * 2) = 2 * (q : Int) := by rw [wrap_i64]; unfold wrap64; omega
  have hby := fun wz (h : Below w.heap.size w wz) => bytes_any vm m hml (2 * (A : Int)) (2 * (q : Int)) (by omega) wz (Its.nums (hmw.below h).now)
  have hzz : ItsX X w vz B := Sv.of_own hz hXN
  rw [bytes_near hf, bytesS_near hf] at hby
  have hws := wsV_size m A q
  have hX := two_dk w [vs, vb, .bool n, .bool r, .bool e, .int .i64 1, .int .i64 w1, .int .i64 (2 * (A : Int)), .int .i64 s, .int .i64 l] [.slice none 0 0, .slice none 0 0, .bool false, .bool false, .bool false, .int .i64 0, .int .i64 0, .int .i64 0, .int .i64 0, .int .i64 0]
  have hrd := fun wz (h : Below w.heap.size w wz) => pread_any D s hD vs vb wz (hsw.below h).now (hbw.below h).now
  have hsz := rd_size hD he
  rw [he] at hrd
  have hpm := putM_store (m := m) A (D.rd s).1 q (by omega) (by omega)
  generalize putM m A (D.rd s).1 q = m2 at *
  generalize (D.rd s).1 = sv at *
  have k1 : ((wsV m A q).size : Int) = 2 * (q : Int) := by rw [hws]; omega
  have k2 : (sv.size : Int) = 128 := by rw [hsz]; rfl
  have k3 : min (2 * (q : Int)) 128 = 2 * (q : Int) := by omega
  have hFl := extract_list sv (2 * (q : Int)).toNat
  rw [show (2 * (q : Int)).toNat = 2 * q by omega] at hFl
  rw [← hFl] at hpm
  obtain ⟨FV, hFV⟩ : ∃ FV, sv.extract 0 (2 * (q : Int)).toNat = FV := ⟨_, rfl⟩
  rw [show (2 * (q : Int)).toNat = 2 * q by omega] at hFV
  rw [hFV] at hFl hpm
  have hFs : FV.size = 2 * q := by
    show FV.data.toList.length = 2 * q
    rw [hFl, List.length_take]
    show min (2 * q) sv.size = 2 * q
    omega
  have hW : wordsB m = true := (wordsB_iff m).2 hw
  have hst := fun wz (h : Below w.heap.size w wz) => store_any vm m hml hW hpos (2 * (A : Int)) (by omega) FV (by omega) wz (Its.nums (hmw.below h).now)
  have hbe : bytesE (2 * (m.length : Int)) (2 * (A : Int)) (FV.size : Int) = 0 := by rw [hFs, show ((2 * q : Nat) : Int) = 2 * (q : Int) by omega]; exact bytes_near hf
  have hsl : storeL m (2 * (A : Int)) FV.data.toList = m2 := by
    unfold storeL
    rw [show ((FV.data.toList.length : Nat) : Int) = 2 * (q : Int) by rw [show FV.data.toList.length = FV.size from rfl, hFs]; omega, inR_near hf, if_pos rfl, show (2 * (A : Int)).toNat = 2 * A by omega, ← hpm]
  rw [hbe, hsl] at hst
  have hFV2 : sv.extract 0 (2 * (q : Int)).toNat = FV := by rw [show (2 * (q : Int)).toNat = 2 * q by omega]; exact hFV
  clear hpm hFl hFV hW hbe hsl
  have hrow : ∀ g, vz.ownBlock = some g → wN.heap.size ≤ g ∧ g < w.heap.size := World.ownsRow.lt hz
  have hrow2 : ∀ g m c, vz = .slice (some g) m c → g.block < w.heap.size := fun g m c h => (own_blk hz g m c h).2
  go_enter Try.func43, Try.ntmps43
  go_wp2_with (first | (go_at_call 57; (with_reducible refine (hby _ hX.below).mono ?_); rintro e' wY ⟨rfl, hbb⟩; replace hX := hX.step hbb; have hwY := hX.below.size; clear hbb) | ((with_reducible refine at_store ?_); refine wpList_bag_new1 (z := .string _) hX siz_s _ _ rfl rfl rfl rfl rfl rfl rfl rfl ?_; clear hX; intro wb hX hb8; clear hb8) | ((with_reducible refine at_load ?_); refine wpList_bag_cell hX int_cell _ rfl rfl rfl rfl (by first | exact .head _ | exact .tail _ (.head _) | exact .tail _ (.tail _ (.head _))) rfl ?_) | ((with_reducible refine at_load ?_); refine wpList_bag_cell hX bool_cell _ rfl rfl rfl rfl (by first | exact .head _ | exact .tail _ (.head _) | exact .tail _ (.tail _ (.head _))) rfl ?_) | ((with_reducible refine at_load ?_); refine wpList_bag_cell hX str_cell _ rfl rfl rfl rfl (by first | exact .head _ | exact .tail _ (.head _) | exact .tail _ (.tail _ (.head _))) rfl ?_) | ((with_reducible refine at_load ?_); refine wpList_bag_part (k := 0) hX aggK sizK _ rfl rfl rfl rfl (by first | exact .head _ | exact .tail _ (.head _) | exact .tail _ (.tail _ (.head _))) (fun jz vz hz => (congrArg (fun n => ([_, _, _, _, _, _, _, _, _, _] : List Value)[n]?) (Nat.zero_add jz)).trans hz) rfl ?_) | ((with_reducible refine at_load ?_); refine wpList_bag_part (k := 0) (ds := [_, _]) hX aggD sizD _ rfl rfl rfl rfl (by first | exact .head _ | exact .tail _ (.head _) | exact .tail _ (.tail _ (.head _))) (fun jz vz hz => by rcases jz with _ | _ | jz <;> first | exact hz | (simp at hz)) rfl ?_) | (go_at_call 61; (with_reducible refine (hrd _ hX.below).mono ?_); rintro e' wc ⟨rfl, hbb⟩; replace hX := hX.step hbb; clear hbb) | (go_at_call 62; (with_reducible refine (hst _ hX.below).mono ?_); rintro e' wt ⟨y4, rfl, ho4, hbb⟩; have hbl := hX.below.size; replace hX := hX.step hbb; clear hbb))
  have hlN := hN.size
  have hlt : w.heap.size ≤ wt.heap.size := hX.below.size
  have hzD : wt.drew.ownsRow wN.heap.size 3 1 vz B.length (B.map (Value.int .i64)) := own_step hz hX.below.drew
  replace hX := (hX.base hN).drew
  replace ho4 := Own.drew ho4
  refine region_hoistS (fun w' => Bag [(wY.heap.size, 9, [.string (wsV m A q)]), (w.heap.size, 27, [vs, vb, .bool n, .bool r, .bool e, .int .i64 1, .int .i64 w1, .int .i64 (2 * (A : Int)), .int .i64 s, .int .i64 l])] wN w') 10 [(0, false), (1, false), (2, false), (3, false), (5, false), (6, false), (4, true), (7, true), (8, false), (9, false)] (by kernel_rfl) (by kernel_rfl) (fun _ _ dd _ _ h => by cases dd <;> exact h) hX.swap.restS ?_
  refine wpHp_q' rfl rfl (fun KK hKK => ?_)
  apply Exists.intro
  refine ⟨fun wq hq => ?_, hKK _ ?_⟩
  · try dsimp only at hq
    first
      | exact run_load_op 27 _ _ rfl rfl ((hq.all _ _ _ (.tail _ (.head _))).loadAt rfl aggK sizK)
      | exact run_load_op 9 _ _ rfl rfl ((hq.all _ _ _ (.head _)).loadCell rfl str_cell)
      | (unfold execOp; go_simp; done)
      | (unfold execOp; go_simp; with_reducible rfl)
  clear hKK KK
  simp only [Act.put, List.setIfInBounds_toArray, List.set_cons_zero, List.set_cons_succ]
  refine wpHp_q' rfl rfl (fun KK hKK => ?_)
  apply Exists.intro
  refine ⟨fun wq hq => ?_, hKK _ ?_⟩
  · try dsimp only at hq
    first
      | exact run_load_op 27 _ _ rfl rfl ((hq.all _ _ _ (.tail _ (.head _))).loadAt rfl aggK sizK)
      | exact run_load_op 9 _ _ rfl rfl ((hq.all _ _ _ (.head _)).loadCell rfl str_cell)
      | (unfold execOp; go_simp; done)
      | (unfold execOp; go_simp; with_reducible rfl)
  clear hKK KK
  simp only [Act.put, List.setIfInBounds_toArray, List.set_cons_zero, List.set_cons_succ]
  refine wpHp_q' rfl rfl (fun KK hKK => ?_)
  apply Exists.intro
  refine ⟨fun wq hq => ?_, hKK _ ?_⟩
  · try dsimp only at hq
    first
      | exact run_load_op 27 _ _ rfl rfl ((hq.all _ _ _ (.tail _ (.head _))).loadAt rfl aggK sizK)
      | exact run_load_op 9 _ _ rfl rfl ((hq.all _ _ _ (.head _)).loadCell rfl str_cell)
      | (unfold execOp; go_simp; done)
      | (unfold execOp; go_simp; with_reducible rfl)
  clear hKK KK
  simp only [Act.put, List.setIfInBounds_toArray, List.set_cons_zero, List.set_cons_succ]
  refine wpHp_q' rfl rfl (fun KK hKK => ?_)
  apply Exists.intro
  refine ⟨fun wq hq => ?_, hKK _ ?_⟩
  · try dsimp only at hq
    first
      | exact run_load_op 27 _ _ rfl rfl ((hq.all _ _ _ (.tail _ (.head _))).loadAt rfl aggK sizK)
      | exact run_load_op 9 _ _ rfl rfl ((hq.all _ _ _ (.head _)).loadCell rfl str_cell)
      | (unfold execOp; go_simp; done)
      | (unfold execOp; go_simp; with_reducible rfl)
  clear hKK KK
  simp only [Act.put, List.setIfInBounds_toArray, List.set_cons_zero, List.set_cons_succ]
  refine wpHp_q' rfl rfl (fun KK hKK => ?_)
  apply Exists.intro
  refine ⟨fun wq hq => ?_, hKK _ ?_⟩
  · try dsimp only at hq
    first
      | exact run_load_op 27 _ _ rfl rfl ((hq.all _ _ _ (.tail _ (.head _))).loadAt rfl aggK sizK)
      | exact run_load_op 9 _ _ rfl rfl ((hq.all _ _ _ (.head _)).loadCell rfl str_cell)
      | (unfold execOp; go_simp; done)
      | (unfold execOp; go_simp; with_reducible rfl)
  clear hKK KK
  simp only [Act.put, List.setIfInBounds_toArray, List.set_cons_zero, List.set_cons_succ]
  refine wpHp_q' rfl rfl (fun KK hKK => ?_)
  apply Exists.intro
  refine ⟨fun wq hq => ?_, hKK _ ?_⟩
  · try dsimp only at hq
    first
      | exact run_load_op 27 _ _ rfl rfl ((hq.all _ _ _ (.tail _ (.head _))).loadAt rfl aggK sizK)
      | exact run_load_op 9 _ _ rfl rfl ((hq.all _ _ _ (.head _)).loadCell rfl str_cell)
      | (unfold execOp; go_simp; done)
      | (unfold execOp; go_simp; with_reducible rfl)
  clear hKK KK
  simp only [Act.put, List.setIfInBounds_toArray, List.set_cons_zero, List.set_cons_succ]
  refine wpHp_call rfl rfl (fun KK hKK => ?_)
  unfold Oper.semiAt
  go_simp
  simp only [semiUpon]
  refine ⟨trivial, ?_⟩
  refine (pdel_own (2 * (A : Int)) q B (wsV m A q) w.heap.size wY.heap.size wN.heap.size vz _ hzD hzl (hX.all _ _ _ (.tail _ (.tail _ (.head _)))).lt (hX.all _ _ _ (.head _)).lt (fun g m c h => by have := hrow2 g m c h; omega) (fun g m c h => by have := hrow2 g m c h; omega) ((hX.all _ _ _ (.tail _ (.tail _ (.head _)))).cell (k := 7) rfl) ((hX.all _ _ _ (.head _)).cell (k := 0) rfl) (by omega) hq hws).mono ?_
  rintro e' wd ⟨v5, rfl, ho5, hg5⟩
  refine ⟨_, rfl, hKK _ _ (bag_grown hX hzD (by intro q hq; simp only [List.mem_cons, List.not_mem_nil, or_false] at hq; rcases hq with rfl | rfl | rfl <;> simp) hg5 (Nat.le_trans hlN hlt) (Nat.le_refl _)).swap.restS ?_⟩
  clear hKK KK
  replace hX := bag_grown hX hzD (by intro q hq; simp only [List.mem_cons, List.not_mem_nil, or_false] at hq; rcases hq with rfl | rfl | rfl <;> simp) hg5 (Nat.le_trans hlN hlt) (Nat.le_refl _)
  replace ho4 := own_above ho4 hg5 (fun g h => Nat.lt_of_lt_of_le (hrow g h).2 hbl)
  clear hg5
  simp only [Act.put, List.setIfInBounds_toArray, List.set_cons_zero, List.set_cons_succ]
  refine wpHp_over (cs' := [vs, vb, .bool n, .bool r, .bool e, .int .i64 1, .int .i64 w1, .int .i64 (2 * (A : Int)), .int .i64 s, .int .i64 l]) rfl rfl hX.swap aggK sizK _ _ rfl rfl rfl rfl rfl rfl (one_dk o1 o2 _ _ _ _ _ _ _ _) (fun w7 hX7 hk7 => ⟨hX7.restS, ?_⟩)
  replace ho5 := own_over hX.swap ho5 (by decide) hk7
  replace ho4 := own_over hX.swap ho4 (by decide) hk7
  clear hk7 hX
  have hX := hX7
  clear hX7
  simp only [Act.put, List.setIfInBounds_toArray, List.set_cons_zero, List.set_cons_succ]
  refine wpHp_q' rfl rfl (fun KK hKK => ?_)
  apply Exists.intro
  refine ⟨fun wq hq => ?_, hKK _ ?_⟩
  · try dsimp only at hq
    first
      | exact run_load_op 27 _ _ rfl rfl ((hq.all _ _ _ (.tail _ (.head _))).loadAt rfl aggK sizK)
      | exact run_load_op 9 _ _ rfl rfl ((hq.all _ _ _ (.head _)).loadCell rfl str_cell)
      | (unfold execOp; go_simp; done)
      | (unfold execOp; go_simp; with_reducible rfl)
  clear hKK KK
  simp only [Act.put, List.setIfInBounds_toArray, List.set_cons_zero, List.set_cons_succ]
  refine wpHp_q' rfl rfl (fun KK hKK => ?_)
  apply Exists.intro
  refine ⟨fun wq hq => ?_, hKK _ ?_⟩
  · try dsimp only at hq
    first
      | exact run_load_op 27 _ _ rfl rfl ((hq.all _ _ _ (.tail _ (.head _))).loadAt rfl aggK sizK)
      | exact run_load_op 9 _ _ rfl rfl ((hq.all _ _ _ (.head _)).loadCell rfl str_cell)
      | (unfold execOp; go_simp; done)
      | (unfold execOp; go_simp; with_reducible rfl)
  clear hKK KK
  simp only [Act.put, List.setIfInBounds_toArray, List.set_cons_zero, List.set_cons_succ]
  refine wpHp_nil ?_
  simp only [List.drop_succ_cons, List.drop_zero]
  go_wp2
  exact bodyPost_ret (results_ct3 Try.results43 rfl ((hX.all _ _ _ (.head _)).loadVar rfl aggK sizK)) rfl ⟨_, _, _, rfl, ⟨_, _, rfl, hs.below hX.below, hb.below hX.below⟩, fun _ => ⟨Sv.of_own ho4 (fun b h => by have := hXN b h; omega), Sv.of_own ho5 hXN⟩, hX.below, fun h => by cases h⟩
end Go.Proofs.Ytjolhlfjpnlcnaa

/-
  Tick of the program. Conditions: a valid controller and memory.
-/
namespace Go.Proofs.Ytjolhlfjpnlcnaa
open Go.RowKit
set_option linter.unusedSimpArgs false
set_option linter.unusedVariables false
set_option maxHeartbeats 4000000
set_option maxRecDepth 100000
attribute [local irreducible] wpQuiet

/-- The world without the blocks from N on. -/
def cutW (w : World) (N : Nat) : World := { w with heap := w.heap.extract 0 N }
theorem cut_size {w : World} {N : Nat} (h : N ≤ w.heap.size) : (cutW w N).heap.size = N := by
  show (w.heap.extract 0 N).size = N
  simp; omega
theorem cut_get {w : World} {N b : Nat} (h : b < N) : (cutW w N).heap[b]? = w.heap[b]? := by
  show (w.heap.extract 0 N)[b]? = w.heap[b]?
  simp [Array.getElem?_extract, h]
  intro h2
  omega
theorem cut_below {w : World} {N : Nat} (h : N ≤ w.heap.size) : Below (cutW w N).heap.size (cutW w N) w :=
  ⟨rfl, rfl, rfl, by rw [cut_size h]; exact h, fun j hj => (cut_get (by rw [cut_size h] at hj; exact hj)).symm⟩
theorem bag2_same {N M : Nat} {t1 t2 : TypeId} {c1 c2 : List Value} {w wp wt : World} (hX : Bag [(N + 1, t1, c1), (N, t2, c2)] w wp) (hg : ∀ b, b < M → wt.heap[b]? = wp.heap[b]?) (hM : N + 2 ≤ M) (hb : Below w.heap.size w wt) : Bag [(N + 1, t1, c1), (N, t2, c2)] w wt :=
  hX.same (fun b hm => hg b.1 (by
    simp only [List.mem_cons, List.not_mem_nil, or_false] at hm
    rcases hm with rfl | rfl <;> simp only <;> omega)) hb
theorem below_cut {N : Nat} {w wp wt : World} (h : Below w.heap.size w wp) (hN : w.heap.size ≤ N) (hNp : N ≤ wp.heap.size) (hb : Below (cutW wp N).heap.size (cutW wp N) wt) : Below w.heap.size w wt ∧ (∀ b, b < N → wt.heap[b]? = wp.heap[b]?) ∧ N ≤ wt.heap.size := by
  have hs := cut_size hNp
  have hg : ∀ b, b < N → wt.heap[b]? = wp.heap[b]? := fun b hb' => (hb.block b (by rw [hs]; exact hb')).trans (cut_get hb')
  have hz : N ≤ wt.heap.size := by have := hb.size; rw [hs] at this; exact this
  exact ⟨⟨hb.os.trans h.os, hb.tape.trans h.tape, hb.output.trans h.output, Nat.le_trans hN hz, fun j hj => (hg j (by omega)).trans (h.block j hj)⟩, hg, hz⟩
theorem ptick_idle (D : Drv) (n r e : Bool) (c w1 a s : Int) (m B : List Int) (vs vb vm vz : Value) (X : Nat → Prop) (w : World) (hXl : ∀ b, X b → b < w.heap.size) (hs : StsX X w vs D.S) (hb : ItsX X w vb D.B) (hm : ItsX X w vm m) (hz : ItsX X w vz B) (hml : m.length ≤ 1099511627776) (hzl : B.length ≤ 1099511627776) (hl : D.B.length ≤ 1099511627776) (hl2 : D.S.length ≤ 1099511627776) : Calls Try.prog 26 #[.agg #[vs, vb, .bool n, .bool r, .bool e, .int .i64 c, .int .i64 w1, .int .i64 a, .int .i64 s, .int .i64 0], vm, vz] w (fun e' w' => ∃ x y z, e' = .returned (.tuple #[x, y, z]) ∧ DkX X w' x (Dk.mk D n r e c w1 a s 0) ∧ ItsX X w' y m ∧ ItsX X w' z B ∧ Below w.heap.size w w') := by
  have o1 := sts_one hs.now
  have o2 := its_one hb.now
  have hX := two_dk w [vs, vb, .bool n, .bool r, .bool e, .int .i64 c, .int .i64 w1, .int .i64 a, .int .i64 s, .int .i64 0] [.slice none 0 0, .slice none 0 0, .bool false, .bool false, .bool false, .int .i64 0, .int .i64 0, .int .i64 0, .int .i64 0, .int .i64 0]
  go_enter Try.func26, Try.ntmps26
  go_wp2_with (first | ((with_reducible refine at_load ?_); refine wpList_bag_cell hX int_cell _ rfl rfl rfl rfl (by first | exact .head _ | exact .tail _ (.head _)) rfl ?_) | ((with_reducible refine at_load ?_); refine wpList_bag_cell hX bool_cell _ rfl rfl rfl rfl (by first | exact .head _ | exact .tail _ (.head _)) rfl ?_) | ((with_reducible refine at_load ?_); refine wpList_bag_part (k := 0) hX aggK sizK _ rfl rfl rfl rfl (by first | exact .head _ | exact .tail _ (.head _)) (fun jz vz hz => (congrArg (fun n => ([_, _, _, _, _, _, _, _, _, _] : List Value)[n]?) (Nat.zero_add jz)).trans hz) rfl ?_) | (go_at_call 37; have hlo : w.heap.size + 2 ≤ _ := (hX.all _ _ _ (.head _)).lt; (with_reducible refine (pcopK_any (Dk.mk D n r e c w1 a s 0) hl hl2 _ _ (OwnA X w.heap.size) _ (ownA_lt hXl hlo) (Sts.below hs.now hX.below) (Its.below hb.now hX.below)).mono ?_); rintro e' wc ⟨x5, rfl, ⟨y5, y6, rfl, hs5, hb5⟩, hbb⟩; obtain ⟨A5, c5, rfl, _⟩ := hs5.now.form; obtain ⟨A6, c6, rfl, _⟩ := hb5.now.form; dsimp only at hs5 hb5; clear hlo; replace hX := hX.step hbb; clear hbb) | (go_at_call 42; have hlo : w.heap.size + 2 ≤ _ := (hX.all _ _ _ (.head _)).lt; (with_reducible refine (pclI_any m vm _ hml (Its.below hm.now hX.below)).mono ?_); rintro e' wN ⟨v6, rfl, ho6, hbb⟩; have hm6 : ItsX (OwnA X w.heap.size) wN v6 m := Sv.of_own ho6 (ownA_lt hXl hlo); clear hlo ho6; replace hs5 := hs5.below hbb; replace hb5 := hb5.below hbb; replace hX := hX.step hbb; clear hbb) | (go_at_call 42; have hloN : w.heap.size + 2 ≤ wN.heap.size := (hX.all _ _ _ (.head _)).lt; (with_reducible refine (pclI_any B vz _ hzl (Its.below hz.now hX.below)).mono ?_); rintro e' wB ⟨v7, rfl, hz7, hbb⟩; have hNp := hbb.size; have HK : ∀ b, b < wN.heap.size → ¬ (OwnA X w.heap.size) b → wB.heap[b]? = wN.heap[b]? := fun b h _ => hbb.block b h; replace hX := hX.step hbb; clear hbb) | ((with_reducible refine at_store ?_); refine wpList_bag_overV (cs' := [(.slice A5 D.S.length c5), (.slice A6 D.B.length c6), .bool n, .bool r, .bool e, .int .i64 c, .int .i64 w1, .int .i64 a, .int .i64 s, .int .i64 0]) hX.swap aggK sizK _ _ rfl rfl rfl rfl rfl rfl rfl rfl (one_dk rfl rfl _ _ _ _ _ _ _ _) ?_; intro wz hXn hkz; replace HK : ∀ b, b < wN.heap.size → ¬ (OwnA X w.heap.size) b → wz.heap[b]? = wN.heap[b]? := fun b h1 h2 => (hkz b (fun e => h2 (.inr (.inl e)))).trans (HK b h1 h2); replace hz7 := own_over hX.swap hz7 (by decide) hkz; replace hNp : wN.heap.size ≤ wz.heap.size := Nat.le_trans hNp (size_over hkz (hXn.all _ _ _ (.head _)).lt); clear hX; have hX := hXn.swap; clear hXn hkz) | ((with_reducible refine at_store ?_); refine wpList_bag_overV (cs' := [(.slice A5 D.S.length c5), (.slice A6 D.B.length c6), .bool n, .bool r, .bool e, .int .i64 c, .int .i64 w1, .int .i64 a, .int .i64 s, .int .i64 0]) hX aggK sizK _ _ rfl rfl rfl rfl rfl rfl rfl rfl (one_dk rfl rfl _ _ _ _ _ _ _ _) ?_; intro wz hXn hkz; replace HK : ∀ b, b < wN.heap.size → ¬ (OwnA X w.heap.size) b → wz.heap[b]? = wN.heap[b]? := fun b h1 h2 => (hkz b (fun e => h2 (.inr (.inr e)))).trans (HK b h1 h2); replace hz7 := own_over hX hz7 (by decide) hkz; replace hNp : wN.heap.size ≤ wz.heap.size := Nat.le_trans hNp (size_over hkz (hXn.all _ _ _ (.head _)).lt); clear hX; have hX := hXn; clear hXn hkz))
  first | exact bodyPost_ret (results_cttK Try.results26 rfl ((hX.all _ _ _ (.head _)).loadVar rfl aggK sizK)) rfl ⟨_, _, _, rfl, ⟨_, _, rfl, (hs5.off HK (fun _ _ h => h)).less (fun _ h => .inl h), (hb5.off HK (fun _ _ h => h)).less (fun _ h => .inl h)⟩, (hm6.off HK (fun _ _ h => h)).less (fun _ h => .inl h), ItsX.less (Y := X) (X := (OwnA X w.heap.size)) (Sv.of_own hz7 (ownA_lt hXl hloN)) (fun _ h => .inl h), hX.below⟩ | exact bodyPost_ret (results_cttK Try.results26 rfl ((hX.all _ _ _ (.tail _ (.head _))).loadVar rfl aggK sizK)) rfl ⟨_, _, _, rfl, ⟨_, _, rfl, (hs5.off HK (fun _ _ h => h)).less (fun _ h => .inl h), (hb5.off HK (fun _ _ h => h)).less (fun _ h => .inl h)⟩, (hm6.off HK (fun _ _ h => h)).less (fun _ h => .inl h), ItsX.less (Y := X) (X := (OwnA X w.heap.size)) (Sv.of_own hz7 (ownA_lt hXl hloN)) (fun _ h => .inl h), hX.below⟩
theorem ptick_down (D : Drv) (n r e : Bool) (c w1 a s l : Int) (h1 : 1 < l) (h8 : l ≤ 8) (m B : List Int) (vs vb vm vz : Value) (X : Nat → Prop) (w : World) (hXl : ∀ b, X b → b < w.heap.size) (hs : StsX X w vs D.S) (hb : ItsX X w vb D.B) (hm : ItsX X w vm m) (hz : ItsX X w vz B) (hml : m.length ≤ 1099511627776) (hzl : B.length ≤ 1099511627776) (hl : D.B.length ≤ 1099511627776) (hl2 : D.S.length ≤ 1099511627776) : Calls Try.prog 26 #[.agg #[vs, vb, .bool n, .bool r, .bool e, .int .i64 c, .int .i64 w1, .int .i64 a, .int .i64 s, .int .i64 l], vm, vz] w (fun e' w' => ∃ x y z, e' = .returned (.tuple #[x, y, z]) ∧ DkX X w' x (Dk.mk D n r e c w1 a s (l - 1)) ∧ ItsX X w' y m ∧ ItsX X w' z B ∧ Below w.heap.size w w') := by
  have o1 := sts_one hs.now
  have o2 := its_one hb.now
  have hX := two_dk w [vs, vb, .bool n, .bool r, .bool e, .int .i64 c, .int .i64 w1, .int .i64 a, .int .i64 s, .int .i64 l] [.slice none 0 0, .slice none 0 0, .bool false, .bool false, .bool false, .int .i64 0, .int .i64 0, .int .i64 0, .int .i64 0, .int .i64 0]
  have x1 : IntKind.i64.wrap (l - 1) = l - 1 := by rw [wrap_i64]; unfold wrap64; omega
  have d1 : (l == 0) = false := by simp; omega
  have d2 : (l - 1 != 0) = true := by simp; omega
  clear h1 h8
  go_enter Try.func26, Try.ntmps26
  go_wp2_with (first | ((with_reducible refine at_load ?_); refine wpList_bag_cell hX int_cell _ rfl rfl rfl rfl (by first | exact .head _ | exact .tail _ (.head _)) rfl ?_) | ((with_reducible refine at_load ?_); refine wpList_bag_cell hX bool_cell _ rfl rfl rfl rfl (by first | exact .head _ | exact .tail _ (.head _)) rfl ?_) | ((with_reducible refine at_load ?_); refine wpList_bag_part (k := 0) hX aggK sizK _ rfl rfl rfl rfl (by first | exact .head _ | exact .tail _ (.head _)) (fun jz vz hz => (congrArg (fun n => ([_, _, _, _, _, _, _, _, _, _] : List Value)[n]?) (Nat.zero_add jz)).trans hz) rfl ?_) | (go_at_call 37; have hlo : w.heap.size + 2 ≤ _ := (hX.all _ _ _ (.head _)).lt; (with_reducible refine (pcopK_any (Dk.mk D n r e c w1 a s l) hl hl2 _ _ (OwnA X w.heap.size) _ (ownA_lt hXl hlo) (Sts.below hs.now hX.below) (Its.below hb.now hX.below)).mono ?_); rintro e' wc ⟨x5, rfl, ⟨y5, y6, rfl, hs5, hb5⟩, hbb⟩; obtain ⟨A5, c5, rfl, _⟩ := hs5.now.form; obtain ⟨A6, c6, rfl, _⟩ := hb5.now.form; dsimp only at hs5 hb5; clear hlo; replace hX := hX.step hbb; clear hbb) | (go_at_call 42; have hlo : w.heap.size + 2 ≤ _ := (hX.all _ _ _ (.head _)).lt; (with_reducible refine (pclI_any m vm _ hml (Its.below hm.now hX.below)).mono ?_); rintro e' wN ⟨v6, rfl, ho6, hbb⟩; have hm6 : ItsX (OwnA X w.heap.size) wN v6 m := Sv.of_own ho6 (ownA_lt hXl hlo); clear hlo ho6; replace hs5 := hs5.below hbb; replace hb5 := hb5.below hbb; replace hX := hX.step hbb; clear hbb) | (go_at_call 42; have hloN : w.heap.size + 2 ≤ wN.heap.size := (hX.all _ _ _ (.head _)).lt; (with_reducible refine (pclI_any B vz _ hzl (Its.below hz.now hX.below)).mono ?_); rintro e' wB ⟨v7, rfl, hz7, hbb⟩; have hNp := hbb.size; have HK : ∀ b, b < wN.heap.size → ¬ (OwnA X w.heap.size) b → wB.heap[b]? = wN.heap[b]? := fun b h _ => hbb.block b h; replace hX := hX.step hbb; clear hbb) | ((with_reducible refine at_store ?_); refine wpList_bag_overV (cs' := [(.slice A5 D.S.length c5), (.slice A6 D.B.length c6), .bool n, .bool r, .bool e, .int .i64 c, .int .i64 w1, .int .i64 a, .int .i64 s, .int .i64 l]) hX.swap aggK sizK _ _ rfl rfl rfl rfl rfl rfl rfl rfl (one_dk rfl rfl _ _ _ _ _ _ _ _) ?_; intro wz hXn hkz; replace HK : ∀ b, b < wN.heap.size → ¬ (OwnA X w.heap.size) b → wz.heap[b]? = wN.heap[b]? := fun b h1 h2 => (hkz b (fun e => h2 (.inr (.inl e)))).trans (HK b h1 h2); replace hz7 := own_over hX.swap hz7 (by decide) hkz; replace hNp : wN.heap.size ≤ wz.heap.size := Nat.le_trans hNp (size_over hkz (hXn.all _ _ _ (.head _)).lt); clear hX; have hX := hXn.swap; clear hXn hkz) | ((with_reducible refine at_store ?_); refine wpList_bag_putV (z := .int .i64 _) hX.swap siz_int _ _ rfl rfl rfl rfl rfl rfl (by simp) rfl rfl ?_; intro wp hXn hk3 hz3; clear hz3; replace HK : ∀ b, b < wN.heap.size → ¬ (OwnA X w.heap.size) b → wp.heap[b]? = wN.heap[b]? := fun b h1 h2 => (hk3 b (fun e => h2 (.inr (.inl e)))).trans (HK b h1 h2); replace hz7 := own_over hX.swap hz7 (by decide) hk3; replace hNp : wN.heap.size ≤ wp.heap.size := Nat.le_trans hNp (size_over hk3 (hXn.all _ _ _ (.head _)).lt); clear hX; have hX := hXn.swap; clear hXn hk3; simp only [List.set_cons_zero, List.set_cons_succ] at hX) | ((with_reducible refine at_store ?_); refine wpList_bag_overV (cs' := [(.slice A5 D.S.length c5), (.slice A6 D.B.length c6), .bool n, .bool r, .bool e, .int .i64 c, .int .i64 w1, .int .i64 a, .int .i64 s, .int .i64 (l - 1)]) hX aggK sizK _ _ rfl rfl rfl rfl rfl rfl rfl rfl (one_dk rfl rfl _ _ _ _ _ _ _ _) ?_; intro wz hXn hkz; replace HK : ∀ b, b < wN.heap.size → ¬ (OwnA X w.heap.size) b → wz.heap[b]? = wN.heap[b]? := fun b h1 h2 => (hkz b (fun e => h2 (.inr (.inr e)))).trans (HK b h1 h2); replace hz7 := own_over hX hz7 (by decide) hkz; replace hNp : wN.heap.size ≤ wz.heap.size := Nat.le_trans hNp (size_over hkz (hXn.all _ _ _ (.head _)).lt); clear hX; have hX := hXn; clear hXn hkz))
  first | exact bodyPost_ret (results_cttK Try.results26 rfl ((hX.all _ _ _ (.head _)).loadVar rfl aggK sizK)) rfl ⟨_, _, _, rfl, ⟨_, _, rfl, (hs5.off HK (fun _ _ h => h)).less (fun _ h => .inl h), (hb5.off HK (fun _ _ h => h)).less (fun _ h => .inl h)⟩, (hm6.off HK (fun _ _ h => h)).less (fun _ h => .inl h), ItsX.less (Y := X) (X := (OwnA X w.heap.size)) (Sv.of_own hz7 (ownA_lt hXl hloN)) (fun _ h => .inl h), hX.below⟩ | exact bodyPost_ret (results_cttK Try.results26 rfl ((hX.all _ _ _ (.tail _ (.head _))).loadVar rfl aggK sizK)) rfl ⟨_, _, _, rfl, ⟨_, _, rfl, (hs5.off HK (fun _ _ h => h)).less (fun _ h => .inl h), (hb5.off HK (fun _ _ h => h)).less (fun _ h => .inl h)⟩, (hm6.off HK (fun _ _ h => h)).less (fun _ h => .inl h), ItsX.less (Y := X) (X := (OwnA X w.heap.size)) (Sv.of_own hz7 (ownA_lt hXl hloN)) (fun _ h => .inl h), hX.below⟩
theorem ptick_er (D D2 : Drv) (n e : Bool) (c w1 a s : Int) (q : Nat) (hq : q = min w1.toNat 64) (hw0 : 1 ≤ w1) (hw9 : w1 ≤ 65535) (ha : 0 ≤ a ∧ a ≤ 65535) (hs9 : 0 ≤ s ∧ s ≤ 65535) (m m2 B B2 : List Int) (htr : ∀ (vs vb vm vz : Value) (X : Nat → Prop) (wN w : World) (hN : Below wN.heap.size wN w) (hXN : ∀ b, X b → b < wN.heap.size) (hs : StsX X wN vs D.S) (hb : ItsX X wN vb D.B) (hm : ItsX X wN vm m) (hz : w.ownsRow wN.heap.size 3 1 vz B.length (B.map (Value.int .i64))), Calls Try.prog 43 #[.agg #[vs, vb, .bool n, .bool false, .bool e, .int .i64 c, .int .i64 w1, .int .i64 a, .int .i64 s, .int .i64 0], vm, vz, .int .i64 (q : Int)] w (TrSays (Dk.mk D2 n false e c w1 a s 0) false m2 B2 X wN w)) (vs vb vm vz : Value) (X : Nat → Prop) (w : World) (hXl : ∀ b, X b → b < w.heap.size) (hs : StsX X w vs D.S) (hb : ItsX X w vb D.B) (hm : ItsX X w vm m) (hz : ItsX X w vz B) (hml : m.length ≤ 1099511627776) (hzl : B.length ≤ 1099511627776) (hl : D.B.length ≤ 1099511627776) (hl2 : D.S.length ≤ 1099511627776) : Calls Try.prog 26 #[.agg #[vs, vb, .bool n, .bool false, .bool e, .int .i64 c, .int .i64 w1, .int .i64 a, .int .i64 s, .int .i64 1], vm, vz] w (fun e' w' => ∃ x y z, e' = .returned (.tuple #[x, y, z]) ∧ DkX X w' x (Dk.mk D n true true c w1 a s 0) ∧ ItsX X w' y m ∧ ItsX X w' z B ∧ Below w.heap.size w w') := by
  have o1 := sts_one hs.now
  have o2 := its_one hb.now
  have hX := two_dk w [vs, vb, .bool n, .bool false, .bool e, .int .i64 c, .int .i64 w1, .int .i64 a, .int .i64 s, .int .i64 1] [.slice none 0 0, .slice none 0 0, .bool false, .bool false, .bool false, .int .i64 0, .int .i64 0, .int .i64 0, .int .i64 0, .int .i64 0]
  have hmin : min w1 64 = (q : Int) := by omega
  clear hq
  go_enter Try.func26, Try.ntmps26
  go_wp2_with (first | ((with_reducible refine at_load ?_); refine wpList_bag_cell hX int_cell _ rfl rfl rfl rfl (by first | exact .head _ | exact .tail _ (.head _) | exact .tail _ (.tail _ (.head _))) rfl ?_) | ((with_reducible refine at_load ?_); refine wpList_bag_cell hX bool_cell _ rfl rfl rfl rfl (by first | exact .head _ | exact .tail _ (.head _) | exact .tail _ (.tail _ (.head _))) rfl ?_) | ((with_reducible refine at_load ?_); refine wpList_bag_part (k := 0) hX aggK sizK _ rfl rfl rfl rfl (by first | exact .head _ | exact .tail _ (.head _) | exact .tail _ (.tail _ (.head _))) (fun jz vz hz => (congrArg (fun n => ([_, _, _, _, _, _, _, _, _, _] : List Value)[n]?) (Nat.zero_add jz)).trans hz) rfl ?_) | (go_at_call 37; have hlo : w.heap.size + 2 ≤ _ := (hX.all _ _ _ (.head _)).lt; (with_reducible refine (pcopK_any (Dk.mk D n false e c w1 a s 1) hl hl2 _ _ (OwnA X w.heap.size) _ (ownA_lt hXl hlo) (Sts.below hs.now hX.below) (Its.below hb.now hX.below)).mono ?_); rintro e' wc ⟨x5, rfl, ⟨y5, y6, rfl, hs5, hb5⟩, hbb⟩; obtain ⟨A5, c5, rfl, _⟩ := hs5.now.form; obtain ⟨A6, c6, rfl, _⟩ := hb5.now.form; dsimp only at hs5 hb5; clear hlo; replace hX := hX.step hbb; clear hbb) | (go_at_call 42; have hlo : w.heap.size + 2 ≤ _ := (hX.all _ _ _ (.head _)).lt; (with_reducible refine (pclI_any m vm _ hml (Its.below hm.now hX.below)).mono ?_); rintro e' wN ⟨v6, rfl, ho6, hbb⟩; have hm6 : ItsX (OwnA X w.heap.size) wN v6 m := Sv.of_own ho6 (ownA_lt hXl hlo); clear hlo ho6; replace hs5 := hs5.below hbb; replace hb5 := hb5.below hbb; replace hX := hX.step hbb; clear hbb) | (go_at_call 42; have hloN : w.heap.size + 2 ≤ wN.heap.size := (hX.all _ _ _ (.head _)).lt; (with_reducible refine (pclI_any B vz _ hzl (Its.below hz.now hX.below)).mono ?_); rintro e' wB ⟨v7, rfl, hz7, hbb⟩; have hNp := hbb.size; have HK : ∀ b, b < wN.heap.size → ¬ (OwnA X w.heap.size) b → wB.heap[b]? = wN.heap[b]? := fun b h _ => hbb.block b h; replace hX := hX.step hbb; clear hbb) | ((with_reducible refine at_store ?_); refine wpList_bag_overV (cs' := [(.slice A5 D.S.length c5), (.slice A6 D.B.length c6), .bool n, .bool false, .bool e, .int .i64 c, .int .i64 w1, .int .i64 a, .int .i64 s, .int .i64 1]) hX.swap aggK sizK _ _ rfl rfl rfl rfl rfl rfl rfl rfl (one_dk rfl rfl _ _ _ _ _ _ _ _) ?_; intro wz hXn hkz; replace HK : ∀ b, b < wN.heap.size → ¬ (OwnA X w.heap.size) b → wz.heap[b]? = wN.heap[b]? := fun b h1 h2 => (hkz b (fun e => h2 (.inr (.inl e)))).trans (HK b h1 h2); replace hz7 := own_over hX.swap hz7 (by decide) hkz; replace hNp : wN.heap.size ≤ wz.heap.size := Nat.le_trans hNp (size_over hkz (hXn.all _ _ _ (.head _)).lt); clear hX; have hX := hXn.swap; clear hXn hkz) | ((with_reducible refine at_store ?_); refine wpList_bag_putV (z := .int .i64 _) hX.swap siz_int _ _ rfl rfl rfl rfl rfl rfl (by simp) rfl rfl ?_; intro wp hXn hk3 hz3; clear hz3; replace HK : ∀ b, b < wN.heap.size → ¬ (OwnA X w.heap.size) b → wp.heap[b]? = wN.heap[b]? := fun b h1 h2 => (hk3 b (fun e => h2 (.inr (.inl e)))).trans (HK b h1 h2); replace hz7 := own_over hX.swap hz7 (by decide) hk3; replace hNp : wN.heap.size ≤ wp.heap.size := Nat.le_trans hNp (size_over hk3 (hXn.all _ _ _ (.head _)).lt); clear hX; have hX := hXn.swap; clear hXn hk3; simp only [List.set_cons_zero, List.set_cons_succ] at hX) | (go_at_call 43; have hHKc : ∀ b, b < wN.heap.size → ¬ (OwnA X w.heap.size) b → (cutW wp wN.heap.size).heap[b]? = wN.heap[b]? := fun b h1 h2 => (cut_get h1).trans (HK b h1 h2); have hcs := cut_size hNp; have hcX : ∀ b, (OwnA X w.heap.size) b → b < (cutW wp wN.heap.size).heap.size := hcs.symm ▸ ownA_lt hXl hloN; have hcz : wp.ownsRow (cutW wp wN.heap.size).heap.size 3 1 v7 B.length (B.map (Value.int .i64)) := hcs.symm ▸ hz7; (with_reducible refine (htr _ _ _ _ (OwnA X w.heap.size) (cutW wp wN.heap.size) wp (cut_below hNp) hcX (hs5.off hHKc (fun _ _ h => h)) (hb5.off hHKc (fun _ _ h => h)) (hm6.off hHKc (fun _ _ h => h)) hcz).mono ?_); rintro e' wt ⟨x8, y8, z8, rfl, ⟨y9, y10, rfl, hs8, hb8⟩, hres, hbN, hbF⟩; dsimp only at hs8 hb8; clear hHKc hcs hcX hcz; obtain ⟨hbW, hgt, hNt⟩ := below_cut hX.below (Nat.le_trans (Nat.le_add_right _ 2) hloN) hNp hbN; clear hbN; replace hX := bag2_same hX hgt hloN hbW; clear hbW; obtain ⟨A9, c9, rfl, _⟩ := hs8.now.form; obtain ⟨A10, c10, rfl, _⟩ := hb8.now.form; have hz9 := own_step hz7 (hbF rfl); clear hz7; have hz7 := hz9; clear hz9; replace HK : ∀ b, b < wN.heap.size → ¬ (OwnA X w.heap.size) b → wt.heap[b]? = wN.heap[b]? := fun b h1 h2 => (hgt b h1).trans (HK b h1 h2); replace hNp := hNt; clear hNt hgt hres hbF) | ((with_reducible refine at_store ?_); refine wpList_bag_storeB (zs := [.slice none 0 0, .slice none 0 0, .bool false, .bool false, .bool false, .int .i64 0, .int .i64 0, .int .i64 0, .int .i64 0, .int .i64 0]) (cs := [(.slice A9 D2.S.length c9), (.slice A10 D2.B.length c10), .bool n, .bool false, .bool e, .int .i64 c, .int .i64 w1, .int .i64 a, .int .i64 s, .int .i64 0]) hX aggK sizK _ _ rfl rfl rfl rfl rfl rfl rfl rfl (one_dk rfl rfl _ _ _ _ _ _ _ _) ?_; clear hX; intro w8 hX hbQ; replace HK : ∀ b, b < wN.heap.size → ¬ (OwnA X w.heap.size) b → w8.heap[b]? = wN.heap[b]? := fun b h1 h2 => (hbQ.block b (Nat.lt_of_lt_of_le h1 hNp)).trans (HK b h1 h2); replace hz7 := own_step hz7 hbQ; replace hNp := Nat.le_trans hNp hbQ.size; clear hbQ) | ((with_reducible refine at_store ?_); refine wpList_bag_putV (z := .bool _) (hX.perm (List.perm_append_comm (l₁ := [_, _]) (l₂ := [_]))) siz_bool _ _ rfl rfl rfl rfl rfl rfl (by simp) rfl rfl ?_; intro wp hXn hk3 hz3; clear hz3; replace HK : ∀ b, b < wN.heap.size → ¬ (OwnA X w.heap.size) b → wp.heap[b]? = wN.heap[b]? := fun b h1 h2 => (hk3 b (fun e => h2 (.inr (.inl e)))).trans (HK b h1 h2); replace hz7 := own_over (hX.perm (List.perm_append_comm (l₁ := [_, _]) (l₂ := [_]))) hz7 (by decide) hk3; replace hNp : wN.heap.size ≤ wp.heap.size := Nat.le_trans hNp (size_over hk3 (hXn.all _ _ _ (.head _)).lt); clear hX; have hX := hXn; clear hXn hk3; simp only [List.set_cons_zero, List.set_cons_succ] at hX) | ((with_reducible refine at_store ?_); refine wpList_bag_putV (z := .bool _) hX siz_bool _ _ rfl rfl rfl rfl rfl rfl (by simp) rfl rfl ?_; intro wp hXn hk3 hz3; clear hz3; replace HK : ∀ b, b < wN.heap.size → ¬ (OwnA X w.heap.size) b → wp.heap[b]? = wN.heap[b]? := fun b h1 h2 => (hk3 b (fun e => h2 (.inr (.inl e)))).trans (HK b h1 h2); replace hz7 := own_over hX hz7 (by decide) hk3; replace hNp : wN.heap.size ≤ wp.heap.size := Nat.le_trans hNp (size_over hk3 (hXn.all _ _ _ (.head _)).lt); clear hX; have hX := hXn; clear hXn hk3; simp only [List.set_cons_zero, List.set_cons_succ] at hX) | ((with_reducible refine at_store ?_); refine wpList_bag_overV (cs' := [(.slice A5 D.S.length c5), (.slice A6 D.B.length c6), .bool n, .bool true, .bool true, .int .i64 c, .int .i64 w1, .int .i64 a, .int .i64 s, .int .i64 0]) (hX.perm (List.perm_append_comm (l₁ := [_, _]) (l₂ := [_]))) aggK sizK _ _ rfl rfl rfl rfl rfl rfl rfl rfl (one_dk rfl rfl _ _ _ _ _ _ _ _) ?_; intro wz hXn hkz; replace HK : ∀ b, b < wN.heap.size → ¬ (OwnA X w.heap.size) b → wz.heap[b]? = wN.heap[b]? := fun b h1 h2 => (hkz b (fun e => h2 (.inr (.inr e)))).trans (HK b h1 h2); replace hz7 := own_over (hX.perm (List.perm_append_comm (l₁ := [_, _]) (l₂ := [_]))) hz7 (by decide) hkz; replace hNp : wN.heap.size ≤ wz.heap.size := Nat.le_trans hNp (size_over hkz (hXn.all _ _ _ (.head _)).lt); clear hX; have hX := hXn; clear hXn hkz))
  first | exact bodyPost_ret (results_cttK Try.results26 rfl ((hX.all _ _ _ (.head _)).loadVar rfl aggK sizK)) rfl ⟨_, _, _, rfl, ⟨_, _, rfl, (hs5.off HK (fun _ _ h => h)).less (fun _ h => .inl h), (hb5.off HK (fun _ _ h => h)).less (fun _ h => .inl h)⟩, (hm6.off HK (fun _ _ h => h)).less (fun _ h => .inl h), ItsX.less (Y := X) (X := (OwnA X w.heap.size)) (Sv.of_own hz7 (ownA_lt hXl hloN)) (fun _ h => .inl h), hX.below⟩ | exact bodyPost_ret (results_cttK Try.results26 rfl ((hX.all _ _ _ (.tail _ (.head _))).loadVar rfl aggK sizK)) rfl ⟨_, _, _, rfl, ⟨_, _, rfl, (hs5.off HK (fun _ _ h => h)).less (fun _ h => .inl h), (hb5.off HK (fun _ _ h => h)).less (fun _ h => .inl h)⟩, (hm6.off HK (fun _ _ h => h)).less (fun _ h => .inl h), ItsX.less (Y := X) (X := (OwnA X w.heap.size)) (Sv.of_own hz7 (ownA_lt hXl hloN)) (fun _ h => .inl h), hX.below⟩ | exact bodyPost_ret (results_cttK Try.results26 rfl ((hX.all _ _ _ (.tail _ (.tail _ (.head _)))).loadVar rfl aggK sizK)) rfl ⟨_, _, _, rfl, ⟨_, _, rfl, (hs5.off HK (fun _ _ h => h)).less (fun _ h => .inl h), (hb5.off HK (fun _ _ h => h)).less (fun _ h => .inl h)⟩, (hm6.off HK (fun _ _ h => h)).less (fun _ h => .inl h), ItsX.less (Y := X) (X := (OwnA X w.heap.size)) (Sv.of_own hz7 (ownA_lt hXl hloN)) (fun _ h => .inl h), hX.below⟩
theorem ptick_ok (D D2 : Drv) (n e : Bool) (c w1 a s : Int) (q : Nat) (hq : q = min w1.toNat 64) (hw0 : 1 ≤ w1) (hw9 : w1 ≤ 65535) (ha : 0 ≤ a ∧ a ≤ 65535) (hs9 : 0 ≤ s ∧ s ≤ 65535) (m m2 B B2 : List Int) (htr : ∀ (vs vb vm vz : Value) (X : Nat → Prop) (wN w : World) (hN : Below wN.heap.size wN w) (hXN : ∀ b, X b → b < wN.heap.size) (hs : StsX X wN vs D.S) (hb : ItsX X wN vb D.B) (hm : ItsX X wN vm m) (hz : w.ownsRow wN.heap.size 3 1 vz B.length (B.map (Value.int .i64))), Calls Try.prog 43 #[.agg #[vs, vb, .bool n, .bool false, .bool e, .int .i64 c, .int .i64 w1, .int .i64 a, .int .i64 s, .int .i64 0], vm, vz, .int .i64 (q : Int)] w (TrSays (Dk.mk D2 n false e c w1 a s 0) true m2 B2 X wN w)) (vs vb vm vz : Value) (X : Nat → Prop) (w : World) (hXl : ∀ b, X b → b < w.heap.size) (hs : StsX X w vs D.S) (hb : ItsX X w vb D.B) (hm : ItsX X w vm m) (hz : ItsX X w vz B) (hml : m.length ≤ 1099511627776) (hzl : B.length ≤ 1099511627776) (hl : D.B.length ≤ 1099511627776) (hl2 : D.S.length ≤ 1099511627776) : Calls Try.prog 26 #[.agg #[vs, vb, .bool n, .bool false, .bool e, .int .i64 c, .int .i64 w1, .int .i64 a, .int .i64 s, .int .i64 1], vm, vz] w (fun e' w' => ∃ x y z, e' = .returned (.tuple #[x, y, z]) ∧ DkX X w' x ((Dk.mk D n false e c w1 a s 1).adv D2) ∧ ItsX X w' y m2 ∧ ItsX X w' z B2 ∧ Below w.heap.size w w') := by
  have o1 := sts_one hs.now
  have o2 := its_one hb.now
  have hX := two_dk w [vs, vb, .bool n, .bool false, .bool e, .int .i64 c, .int .i64 w1, .int .i64 a, .int .i64 s, .int .i64 1] [.slice none 0 0, .slice none 0 0, .bool false, .bool false, .bool false, .int .i64 0, .int .i64 0, .int .i64 0, .int .i64 0, .int .i64 0]
  have hmin : min w1 64 = (q : Int) := by omega
  have hadv := fun (A9 : Option Addr) (c9 : Nat) (A10 : Option Addr) (c10 : Nat) wz => padv_any D2 n e c a s w1 q hq hw0 hw9 ha hs9 1 (.slice A9 D2.S.length c9) (.slice A10 D2.B.length c10) rfl rfl wz
  clear hq
  show Calls _ _ _ _ (fun e' w' => ∃ x y z, e' = .returned (.tuple #[x, y, z]) ∧ DkX X w' x ((Dk.mk D2 n false e c w1 a s 1).adv D2) ∧ ItsX X w' y m2 ∧ ItsX X w' z B2 ∧ Below w.heap.size w w')
  generalize hKA : ((Dk.mk D2 n false e c w1 a s 1).adv D2) = KA at *
  have hKD : KA.D = D2 := by rw [← hKA]; rfl
  clear hKA
  obtain ⟨D3, n3, r3, e3, c3, w3, a3, s3, l3⟩ := KA
  dsimp only at hadv hKD
  subst hKD
  go_enter Try.func26, Try.ntmps26
  go_wp2_with (first | ((with_reducible refine at_load ?_); refine wpList_bag_cell hX int_cell _ rfl rfl rfl rfl (by first | exact .head _ | exact .tail _ (.head _) | exact .tail _ (.tail _ (.head _))) rfl ?_) | ((with_reducible refine at_load ?_); refine wpList_bag_cell hX bool_cell _ rfl rfl rfl rfl (by first | exact .head _ | exact .tail _ (.head _) | exact .tail _ (.tail _ (.head _))) rfl ?_) | ((with_reducible refine at_load ?_); refine wpList_bag_part (k := 0) hX aggK sizK _ rfl rfl rfl rfl (by first | exact .head _ | exact .tail _ (.head _) | exact .tail _ (.tail _ (.head _))) (fun jz vz hz => (congrArg (fun n => ([_, _, _, _, _, _, _, _, _, _] : List Value)[n]?) (Nat.zero_add jz)).trans hz) rfl ?_) | (go_at_call 37; have hlo : w.heap.size + 2 ≤ _ := (hX.all _ _ _ (.head _)).lt; (with_reducible refine (pcopK_any (Dk.mk D n false e c w1 a s 1) hl hl2 _ _ (OwnA X w.heap.size) _ (ownA_lt hXl hlo) (Sts.below hs.now hX.below) (Its.below hb.now hX.below)).mono ?_); rintro e' wc ⟨x5, rfl, ⟨y5, y6, rfl, hs5, hb5⟩, hbb⟩; obtain ⟨A5, c5, rfl, _⟩ := hs5.now.form; obtain ⟨A6, c6, rfl, _⟩ := hb5.now.form; dsimp only at hs5 hb5; clear hlo; replace hX := hX.step hbb; clear hbb) | (go_at_call 42; have hlo : w.heap.size + 2 ≤ _ := (hX.all _ _ _ (.head _)).lt; (with_reducible refine (pclI_any m vm _ hml (Its.below hm.now hX.below)).mono ?_); rintro e' wN ⟨v6, rfl, ho6, hbb⟩; have hm6 : ItsX (OwnA X w.heap.size) wN v6 m := Sv.of_own ho6 (ownA_lt hXl hlo); clear hlo ho6; replace hs5 := hs5.below hbb; replace hb5 := hb5.below hbb; replace hX := hX.step hbb; clear hbb) | (go_at_call 42; have hloN : w.heap.size + 2 ≤ wN.heap.size := (hX.all _ _ _ (.head _)).lt; (with_reducible refine (pclI_any B vz _ hzl (Its.below hz.now hX.below)).mono ?_); rintro e' wB ⟨v7, rfl, hz7, hbb⟩; have hNp := hbb.size; have HK : ∀ b, b < wN.heap.size → ¬ (OwnA X w.heap.size) b → wB.heap[b]? = wN.heap[b]? := fun b h _ => hbb.block b h; replace hX := hX.step hbb; clear hbb) | ((with_reducible refine at_store ?_); refine wpList_bag_overV (cs' := [(.slice A5 D.S.length c5), (.slice A6 D.B.length c6), .bool n, .bool false, .bool e, .int .i64 c, .int .i64 w1, .int .i64 a, .int .i64 s, .int .i64 1]) hX.swap aggK sizK _ _ rfl rfl rfl rfl rfl rfl rfl rfl (one_dk rfl rfl _ _ _ _ _ _ _ _) ?_; intro wz hXn hkz; replace HK : ∀ b, b < wN.heap.size → ¬ (OwnA X w.heap.size) b → wz.heap[b]? = wN.heap[b]? := fun b h1 h2 => (hkz b (fun e => h2 (.inr (.inl e)))).trans (HK b h1 h2); replace hz7 := own_over hX.swap hz7 (by decide) hkz; replace hNp : wN.heap.size ≤ wz.heap.size := Nat.le_trans hNp (size_over hkz (hXn.all _ _ _ (.head _)).lt); clear hX; have hX := hXn.swap; clear hXn hkz) | ((with_reducible refine at_store ?_); refine wpList_bag_putV (z := .int .i64 _) hX.swap siz_int _ _ rfl rfl rfl rfl rfl rfl (by simp) rfl rfl ?_; intro wp hXn hk3 hz3; clear hz3; replace HK : ∀ b, b < wN.heap.size → ¬ (OwnA X w.heap.size) b → wp.heap[b]? = wN.heap[b]? := fun b h1 h2 => (hk3 b (fun e => h2 (.inr (.inl e)))).trans (HK b h1 h2); replace hz7 := own_over hX.swap hz7 (by decide) hk3; replace hNp : wN.heap.size ≤ wp.heap.size := Nat.le_trans hNp (size_over hk3 (hXn.all _ _ _ (.head _)).lt); clear hX; have hX := hXn.swap; clear hXn hk3; simp only [List.set_cons_zero, List.set_cons_succ] at hX) | (go_at_call 43; have hHKc : ∀ b, b < wN.heap.size → ¬ (OwnA X w.heap.size) b → (cutW wp wN.heap.size).heap[b]? = wN.heap[b]? := fun b h1 h2 => (cut_get h1).trans (HK b h1 h2); have hcs := cut_size hNp; have hcX : ∀ b, (OwnA X w.heap.size) b → b < (cutW wp wN.heap.size).heap.size := hcs.symm ▸ ownA_lt hXl hloN; have hcz : wp.ownsRow (cutW wp wN.heap.size).heap.size 3 1 v7 B.length (B.map (Value.int .i64)) := hcs.symm ▸ hz7; (with_reducible refine (htr _ _ _ _ (OwnA X w.heap.size) (cutW wp wN.heap.size) wp (cut_below hNp) hcX (hs5.off hHKc (fun _ _ h => h)) (hb5.off hHKc (fun _ _ h => h)) (hm6.off hHKc (fun _ _ h => h)) hcz).mono ?_); rintro e' wt ⟨x8, y8, z8, rfl, ⟨y9, y10, rfl, hs8, hb8⟩, hres, hbN, hbF⟩; dsimp only at hs8 hb8; clear hHKc hcs hcX hcz; obtain ⟨hbW, hgt, hNt⟩ := below_cut hX.below (Nat.le_trans (Nat.le_add_right _ 2) hloN) hNp hbN; clear hbN; replace hX := bag2_same hX hgt hloN hbW; clear hbW; obtain ⟨A9, c9, rfl, _⟩ := hs8.now.form; obtain ⟨A10, c10, rfl, _⟩ := hb8.now.form; obtain ⟨hm8, hz8⟩ := hres rfl; clear hz7 HK hm6 hs5 hb5 hres hbF hgt hNt hNp) | ((with_reducible refine at_store ?_); refine wpList_bag_storeB (zs := [.slice none 0 0, .slice none 0 0, .bool false, .bool false, .bool false, .int .i64 0, .int .i64 0, .int .i64 0, .int .i64 0, .int .i64 0]) (cs := [(.slice A9 D3.S.length c9), (.slice A10 D3.B.length c10), .bool n, .bool false, .bool e, .int .i64 c, .int .i64 w1, .int .i64 a, .int .i64 s, .int .i64 0]) hX aggK sizK _ _ rfl rfl rfl rfl rfl rfl rfl rfl (one_dk rfl rfl _ _ _ _ _ _ _ _) ?_; clear hX; intro w8 hX hbQ; replace hs8 := hs8.below hbQ; replace hb8 := hb8.below hbQ; replace hm8 := hm8.below hbQ; replace hz8 := hz8.below hbQ; clear hbQ) | (go_at_call 44; (with_reducible refine (hadv _ _ _ _ _).mono ?_); rintro e' wa ⟨rfl, hbQ⟩; replace hX := hX.step hbQ; replace hs8 := hs8.below hbQ; replace hb8 := hb8.below hbQ; replace hm8 := hm8.below hbQ; replace hz8 := hz8.below hbQ; clear hbQ) | ((with_reducible refine at_store ?_); refine wpList_bag_overV (cs' := [(.slice A9 D3.S.length c9), (.slice A10 D3.B.length c10), .bool n3, .bool r3, .bool e3, .int .i64 c3, .int .i64 w3, .int .i64 a3, .int .i64 s3, .int .i64 l3]) hX.swap aggK sizK _ _ rfl rfl rfl rfl rfl rfl rfl rfl (one_dk rfl rfl _ _ _ _ _ _ _ _) ?_; intro wz hXn hkz; replace hs8 := hs8.over hkz (.inr (.inr rfl)); replace hb8 := hb8.over hkz (.inr (.inr rfl)); replace hm8 := hm8.over hkz (.inr (.inr rfl)); replace hz8 := hz8.over hkz (.inr (.inr rfl)); clear hX; have hX := hXn; clear hXn hkz))
  first | exact bodyPost_ret (results_cttK Try.results26 rfl ((hX.all _ _ _ (.head _)).loadVar rfl aggK sizK)) rfl ⟨_, _, _, rfl, ⟨_, _, rfl, hs8.less (fun _ h => .inl h), hb8.less (fun _ h => .inl h)⟩, hm8.less (fun _ h => .inl h), hz8.less (fun _ h => .inl h), hX.below⟩ | exact bodyPost_ret (results_cttK Try.results26 rfl ((hX.all _ _ _ (.tail _ (.head _))).loadVar rfl aggK sizK)) rfl ⟨_, _, _, rfl, ⟨_, _, rfl, hs8.less (fun _ h => .inl h), hb8.less (fun _ h => .inl h)⟩, hm8.less (fun _ h => .inl h), hz8.less (fun _ h => .inl h), hX.below⟩ | exact bodyPost_ret (results_cttK Try.results26 rfl ((hX.all _ _ _ (.tail _ (.tail _ (.head _)))).loadVar rfl aggK sizK)) rfl ⟨_, _, _, rfl, ⟨_, _, rfl, hs8.less (fun _ h => .inl h), hb8.less (fun _ h => .inl h)⟩, hm8.less (fun _ h => .inl h), hz8.less (fun _ h => .inl h), hX.below⟩
end Go.Proofs.Ytjolhlfjpnlcnaa

/-
  The contracts of package diskctl. No condition.
-/
namespace Go.Proofs.Ytjolhlfjpnlcnaa
open Go.RowKit
set_option linter.unusedSimpArgs false
set_option linter.unusedVariables false
set_option maxHeartbeats 4000000
set_option maxRecDepth 100000
attribute [local irreducible] wpQuiet

theorem badB_len (n : Int) : ∀ (l : List Int) (low : Int), badB n low l = true → (l.length : Int) ≤ max 0 (n - low)
  | [], low, _ => by simp; omega
  | x :: r, low, h => by
    unfold badB at h
    simp only [Bool.and_eq_true, decide_eq_true_eq] at h
    have := badB_len n r (x + 2) h.2
    rw [List.length_cons]
    omega
theorem ptickK_any (K : Dk) (m B : List Int) (vs vb vm vz : Value) (X : Nat → Prop) (w : World) (hXl : ∀ b, X b → b < w.heap.size) (hs : StsX X w vs K.D.S) (hb : ItsX X w vb K.D.B) (hm : ItsX X w vm m) (hz : ItsX X w vz B) (hR : K.right = true) (hP : rightP m B = true) : Calls Try.prog 26 #[.agg #[vs, vb, .bool (K).n, .bool (K).r, .bool (K).e, .int .i64 (K).c, .int .i64 (K).w, .int .i64 (K).a, .int .i64 (K).s, .int .i64 (K).l], vm, vz] w (TickSays K m B X w) := by
  obtain ⟨hok0, hw, hbb⟩ := (rightP_iff m B).1 hP
  have hml : m.length ≤ 1099511627776 := by unfold okS at hok0; simp at hok0; omega
  have hpos : 0 < m.length := by unfold okS at hok0; simp at hok0; omega
  have hzl : B.length ≤ 1099511627776 := by have h1 := badB_len _ _ _ hbb; have h2 : m.length ≤ 16384 := (by unfold okS at hok0; simp at hok0; omega); omega
  unfold Dk.right at hR
  rw [Bool.and_eq_true] at hR
  obtain ⟨hok, hD⟩ := hR
  obtain ⟨⟨hc0, hc3⟩, hw1, ha1, hs1, ha2, ⟨hl0, hl8⟩, hrl, hcw⟩ := (Dk.ok_iff K).1 hok
  rw [wordV_iff] at hw1 ha1 hs1
  have hl2 : K.D.S.length ≤ 1099511627776 := by have := ((right_iff K.D).1 hD).2.1; omega
  have hl : K.D.B.length ≤ 1099511627776 := by have := right_len hD; omega
  obtain ⟨D, n, r, e, c, w1, a, s, l⟩ := K
  dsimp only at *
  unfold TickSays
  by_cases h0 : l = 0
  · subst h0
    have ht : (Dk.mk D n r e c w1 a s 0).tick m B = (Dk.mk D n r e c w1 a s 0, m, B) := by unfold Dk.tick; rw [if_pos rfl]
    rw [ht]
    exact ptick_idle D n r e c w1 a s m B vs vb vm vz X w hXl hs hb hm hz hml hzl hl hl2
  by_cases h1 : 1 < l
  · have ht : (Dk.mk D n r e c w1 a s l).tick m B = (Dk.mk D n r e c w1 a s (l - 1), m, B) := by unfold Dk.tick; rw [if_neg h0, if_pos h1]
    rw [ht]
    exact ptick_down D n r e c w1 a s l h1 hl8 m B vs vb vm vz X w hXl hs hb hm hz hml hzl hl hl2
  obtain rfl : l = 1 := by omega
  obtain rfl : r = false := by rw [hrl]; rfl
  obtain ⟨A, rfl⟩ : ∃ A : Nat, a = 2 * (A : Int) := ⟨(a / 2).toNat, by omega⟩
  have hcw' : c ≠ 0 ∧ w1 ≠ 0 := hcw.resolve_left (by decide)
  obtain ⟨q, hq⟩ : ∃ q, q = min w1.toNat 64 := ⟨_, rfl⟩
  have hq64 : q ≤ 64 := by omega
  have hn : (Dk.mk D n false e c w1 (2 * (A : Int)) s 1).n64 = q := hq.symm
  have hA : (2 * (A : Int) / 2).toNat = A := by omega
  have ht : (Dk.mk D n false e c w1 (2 * (A : Int)) s 1).tick m B = if 2 * (m.length : Int) < 2 * (A : Int) + 2 * (q : Int) then (Dk.mk D n true true c w1 (2 * (A : Int)) s 0, m, B) else if c ≠ 2 ∧ (D.rd s).2 ≠ 0 then (Dk.mk D n true true c w1 (2 * (A : Int)) s 0, m, B) else if c ≠ 1 ∧ spV B (2 * (A : Int)) q = true then (Dk.mk D n true true c w1 (2 * (A : Int)) s 0, m, B) else if c = 3 ∧ dfW m A q (D.rd s).1 = true then (Dk.mk D n true true c w1 (2 * (A : Int)) s 0, m, B) else if c = 2 then (if (D.wr s (secV m A q)).2 = 0 then ((Dk.mk D n false e c w1 (2 * (A : Int)) s 1).adv (D.wr s (secV m A q)).1, m, B) else (Dk.mk D n true true c w1 (2 * (A : Int)) s 0, m, B)) else if c = 1 then ((Dk.mk D n false e c w1 (2 * (A : Int)) s 1).adv D, putM m A (D.rd s).1 q, outB B (2 * (A : Int)) q) else ((Dk.mk D n false e c w1 (2 * (A : Int)) s 1).adv D, m, B) := by
    unfold Dk.tick
    rw [if_neg h0, if_neg h1, hn]
    dsimp only
    rw [hA]
    rfl
  rw [ht]
  clear ht hn h0 h1 hcw hrl
  by_cases hf : 2 * (m.length : Int) < 2 * (A : Int) + 2 * (q : Int)
  · rw [if_pos hf]
    exact (ptick_er D D n e c w1 (2 * (A : Int)) s q hq (by omega) (by omega) (by omega) hs1 m m B B (fun vs vb vm vz X wN w hN hXN hs hb hm hz => ptr_far D n false e c s A w1 0 q hq64 (by omega) m B vs vb vm vz X wN w hN hXN hs hb hm hz hml hzl hD hw hf) vs vb vm vz X w hXl hs hb hm hz hml hzl hl hl2).mono fun _ _ h => h
  rw [if_neg hf]
  by_cases h2 : c = 2
  · subst h2
    rw [if_neg (fun h => h.1 rfl)]
    cases hp : spV B (2 * (A : Int)) q
    · rw [if_neg (fun h => by cases h.2), if_neg (fun h => by cases h.1), if_pos rfl]
      by_cases he : (D.wr s (secV m A q)).2 = 0
      · rw [if_pos he]
        exact (ptick_ok D (D.wr s (secV m A q)).1 n e 2 w1 (2 * (A : Int)) s q hq (by omega) (by omega) (by omega) hs1 m m B B (fun vs vb vm vz X wN w hN hXN hs hb hm hz => by have h := ptr_wr D n false e s A w1 0 q hq64 (by omega) m B vs vb vm vz X wN w hN hXN hs hb hm hz hml hzl hD hw hf hp; rw [decide_eq_true he] at h; exact h) vs vb vm vz X w hXl hs hb hm hz hml hzl hl hl2).mono fun _ _ h => h
      · rw [if_neg he]
        exact (ptick_er D (D.wr s (secV m A q)).1 n e 2 w1 (2 * (A : Int)) s q hq (by omega) (by omega) (by omega) hs1 m m B B (fun vs vb vm vz X wN w hN hXN hs hb hm hz => by have h := ptr_wr D n false e s A w1 0 q hq64 (by omega) m B vs vb vm vz X wN w hN hXN hs hb hm hz hml hzl hD hw hf hp; rw [decide_eq_false he] at h; exact h) vs vb vm vz X w hXl hs hb hm hz hml hzl hl hl2).mono fun _ _ h => h
    · rw [if_pos ⟨by decide, rfl⟩]
      exact (ptick_er D D n e 2 w1 (2 * (A : Int)) s q hq (by omega) (by omega) (by omega) hs1 m m B B (fun vs vb vm vz X wN w hN hXN hs hb hm hz => ptr_sp D n false e 2 s A w1 0 q hq64 (by omega) m B vs vb vm vz X wN w hN hXN hs hb hm hz hml hzl hD hw hf (by decide) hp) vs vb vm vz X w hXl hs hb hm hz hml hzl hl hl2).mono fun _ _ h => h
  by_cases h1 : c = 1
  · subst h1
    by_cases he : (D.rd s).2 = 0
    · rw [if_neg (fun h => h.2 he), if_neg (fun h => h.1 rfl), if_neg (fun h => by cases h.1), if_neg (by decide), if_pos rfl]
      exact (ptick_ok D D n e 1 w1 (2 * (A : Int)) s q hq (by omega) (by omega) (by omega) hs1 m (putM m A (D.rd s).1 q) B (outB B (2 * (A : Int)) q) (fun vs vb vm vz X wN w hN hXN hs hb hm hz => ptr_get D n false e s A w1 0 q hq64 (by omega) m B vs vb vm vz X wN w hN hXN hs hb hm hz hml hzl hD hw hf he hpos) vs vb vm vz X w hXl hs hb hm hz hml hzl hl hl2).mono fun _ _ h => h
    · rw [if_pos ⟨by decide, he⟩]
      exact (ptick_er D D n e 1 w1 (2 * (A : Int)) s q hq (by omega) (by omega) (by omega) hs1 m m B B (fun vs vb vm vz X wN w hN hXN hs hb hm hz => ptr_rd1 D n false e s A w1 0 q hq64 (by omega) m B vs vb vm vz X wN w hN hXN hs hb hm hz hml hzl hD hw hf he) vs vb vm vz X w hXl hs hb hm hz hml hzl hl hl2).mono fun _ _ h => h
  obtain rfl : c = 3 := by omega
  cases hp : spV B (2 * (A : Int)) q
  · by_cases he : (D.rd s).2 = 0
    · rw [if_neg (fun h => h.2 he), if_neg (fun h => by cases h.2)]
      cases hd : dfW m A q (D.rd s).1
      · rw [if_neg (fun h => by cases h.2), if_neg (by decide), if_neg (by decide)]
        exact (ptick_ok D D n e 3 w1 (2 * (A : Int)) s q hq (by omega) (by omega) (by omega) hs1 m m B B (fun vs vb vm vz X wN w hN hXN hs hb hm hz => by have h := ptr_ck D n false e s A w1 0 q hq64 (by omega) m B vs vb vm vz X wN w hN hXN hs hb hm hz hml hzl hD hw hf hp he; rw [hd] at h; exact h) vs vb vm vz X w hXl hs hb hm hz hml hzl hl hl2).mono fun _ _ h => h
      · rw [if_pos ⟨rfl, rfl⟩]
        exact (ptick_er D D n e 3 w1 (2 * (A : Int)) s q hq (by omega) (by omega) (by omega) hs1 m m B B (fun vs vb vm vz X wN w hN hXN hs hb hm hz => by have h := ptr_ck D n false e s A w1 0 q hq64 (by omega) m B vs vb vm vz X wN w hN hXN hs hb hm hz hml hzl hD hw hf hp he; rw [hd] at h; exact h) vs vb vm vz X w hXl hs hb hm hz hml hzl hl hl2).mono fun _ _ h => h
    · rw [if_pos ⟨by decide, he⟩]
      exact (ptick_er D D n e 3 w1 (2 * (A : Int)) s q hq (by omega) (by omega) (by omega) hs1 m m B B (fun vs vb vm vz X wN w hN hXN hs hb hm hz => ptr_rd3 D n false e s A w1 0 q hq64 (by omega) m B vs vb vm vz X wN w hN hXN hs hb hm hz hml hzl hD hw hf hp he) vs vb vm vz X w hXl hs hb hm hz hml hzl hl hl2).mono fun _ _ h => h
  · have hsp := (ptick_er D D n e 3 w1 (2 * (A : Int)) s q hq (by omega) (by omega) (by omega) hs1 m m B B (fun vs vb vm vz X wN w hN hXN hs hb hm hz => ptr_sp D n false e 3 s A w1 0 q hq64 (by omega) m B vs vb vm vz X wN w hN hXN hs hb hm hz hml hzl hD hw hf (by decide) hp) vs vb vm vz X w hXl hs hb hm hz hml hzl hl hl2).mono fun _ _ h => h
    by_cases he : (D.rd s).2 = 0
    · rw [if_neg (fun h => h.2 he), if_pos ⟨by decide, rfl⟩]
      exact hsp
    · rw [if_pos ⟨by decide, he⟩]
      exact hsp
theorem dk_lens {K : Dk} (hR : K.right = true) : K.D.S.length ≤ 1099511627776 ∧ K.D.B.length ≤ 1099511627776 := by
  have hD : K.D.right = true := by unfold Dk.right at hR; rw [Bool.and_eq_true] at hR; exact hR.2
  have h1 := right_len hD
  have h2 := ((right_iff K.D).1 hD).2.1
  exact ⟨by omega, by omega⟩
theorem dk_c (W : World) : DkC W :=
  { new := fun D vs vb X w _ h1 h2 hX hs hb => pnewK_any D (by omega) (by omega) vs vb X w hX hs hb
    right := fun K vs vb w _ h1 h2 hs hb => prightK_any K (by omega) (by omega) vs vb w hs hb
    read := fun K g vs vb w _ hR hs hb => by
      have hok : K.ok = true := by unfold Dk.right at hR; rw [Bool.and_eq_true] at hR; exact hR.1
      obtain ⟨⟨hc0, hc3⟩, _⟩ := (Dk.ok_iff K).1 hok
      exact preadK_any K g hc0 hc3 vs vb (sts_one hs) (its_one hb) w
    write := fun K g v vs vb X w _ hR hX hs hb => pwriteK_any K (dk_lens hR).2 (dk_lens hR).1 g v vs vb X w hX hs.now hb.now
    tick := fun K m B vs vb vm vz X w _ hR hP hX hs hb hm hz => ptickK_any K m B vs vb vm vz X w hX hs hb hm hz hR hP
    req := fun K vs vb w _ hR hs hb => preqK_any K vs vb w
    acc := fun K v vs vb X w _ hR hX hs hb => paccK_any K (dk_lens hR).2 (dk_lens hR).1 v vs vb X w hX hs.now hb.now
    reset := fun K vs vb X w _ hR hX hs hb => presetK_any K (dk_lens hR).2 (dk_lens hR).1 vs vb X w hX hs.now hb.now }
end Go.Proofs.Ytjolhlfjpnlcnaa
