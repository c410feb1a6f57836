/-
  The evaluator of calls at given arguments, and its soundness: part R. It speaks of any program.
-/
import Derived.Test.YtlegcfjafdihlaaGreatDoorEvQ
namespace Go.Proofs.YtlegcfjafdihlaaGreatDoor.Ev
open Go.RowKit
set_option linter.unusedSimpArgs false
set_option linter.unusedVariables false

section
variable {d : Nat} {P : Program} {G : Env} {o : Oper}
theorem evCopy_ok {T : Tri Value} {H H' : Hp} {nx nx' S W : Nat} {args : Array Operand} {ts : Array TypeId} {st xt : TypeId} {b off len cap : Nat} {x v : Value} (hop : o.op = .call ⟨.builtin .copy, args, ts⟩) (hargs : args.toList.map (opnd d T) = [.slice (some ⟨b, off, none⟩) len cap, x]) (hts : ts.toList = [st, xt])
    (h : evCopy P H nx st b off len x = .ok v H' nx' S W) : Stp H nx H' nx' W ∧ OpOk P G d T H nx o v H' nx' S W := by
  unfold evCopy at h
  split at h
  case h_2 => cases h
  rename_i e hu
  split at h
  case h_2 => cases h
  rename_i sz hs
  split at h
  case h_2 => cases h
  rename_i n hvl
  split at h
  case h_2 => cases h
  rename_i l S0 cs e' es hsrc hat
  split at h
  case h_2 => cases h
  rename_i cs' hput
  split at h
  case h_2 => cases h
  rename_i hone
  cases h
  have hbd := at_lt hat
  refine ⟨Stp.set (Nat.le_refl _) id hbd, ?_⟩
  intro ρ h w a g hS hfr hr K Q hK
  obtain ⟨x', y', r1, r2, he⟩ := copy_two hop hargs hts hr
  obtain ⟨_, lo, hl, rfl⟩ := r1.slice_inv
  obtain ⟨us, k1, k2⟩ := appSrc_run (P := P) g hsrc r2 (fun n hn => hS n (by rw [Nat.testBit_or, hn]; rfl))
  obtain ⟨hh, hbl⟩ := g.at hl (hS b (by rw [Nat.testBit_or, bit_self]; simp)) hat
  obtain ⟨w', q1, q2⟩ := Ev1.stores (P := P) g nx b hl hh hbl hone k1 hput (hp (H.set dep b (some (.row cs' e' es)))) (by rw [hp_set _ _ _ hbd]; simp)
  have k3 := k2 w.drawn
  have hrun : (Builtin.copy_ #[st, xt] o.type #[.slice (some ⟨lo.blk, lo.off + off, none⟩) len (lo.cap off cap), y']).run P w = .ok (goInt (min n len : Nat)) w' := by
    have hmin : Nat.min n len = min n len := rfl
    have k4 : (Builtin.firstCells sz (min n len) y').run P w = .ok ⟨us⟩ w := k3
    unfold Builtin.copy_
    simp only [List.getElem?_toArray, List.getElem?_cons_zero, List.getElem?_cons_succ, Sem.run_bind, prun_sound hu w, Result.andThen_ok, vlen_run hvl r2 w, prun_sound hs w, hmin, k4, q1, Sem.run_pure]
  exact wp_val (by rw [he]; exact run_map_ok hrun) (hK ρ _ w' q2 (.flat _ rfl))
theorem bytesOf_spec : ∀ (l : List Value) (r : List UInt8), bytesOf l = some r → ∃ ns : List Int, l = ns.map (Value.int .u8) ∧ r = ns.map fun n => UInt8.ofNat n.toNat
  | [], r, h => by cases h; exact ⟨[], rfl, rfl⟩
  | v :: l, r, h => by
    unfold bytesOf at h
    split at h
    · cases ‹_ = []›
    · rename_i n l' e
      cases e
      split at h
      · rename_i r' hr'
        cases h
        obtain ⟨ns, h1, h2⟩ := bytesOf_spec l r' hr'
        exact ⟨n :: ns, by simp [h1], by simp [h2]⟩
      · cases h
    · cases h
theorem foldl_push : ∀ (ns : List Int) (s : ByteArray), ns.foldl (fun r n => r.push (UInt8.ofNat n.toNat)) s = ⟨s.data ++ (ns.map fun n => UInt8.ofNat n.toNat).toArray⟩
  | [], s => by cases s; simp
  | n :: ns, s => by
    simp only [List.foldl_cons, List.map_cons]
    rw [foldl_push ns]
    cases s
    simp [ByteArray.push]
theorem push_modify {α : Type} (xs : Array α) (x : α) (f : α → α) : (xs.push x).modify xs.size f = xs.push (f x) := by
  apply Array.ext_getElem?
  intro i
  rw [Array.getElem?_modify]
  by_cases h : xs.size = i
  · subst h; simp
  · rw [if_neg h, Array.getElem?_push, Array.getElem?_push, if_neg (Ne.symm h), if_neg (Ne.symm h)]
theorem toStr_ok {T : Tri Value} {H : Hp} {nx : Nat} {s t e : TypeId} {x : Operand} {n off len cap : Nat} {cs l : List Value} {ee : TypeId} {es : Nat} {r : List UInt8} (hop : o.op = .convert s t x) (hs : prun P (underlying s) = some (.slice e)) (ht : prun P (underlying t) = some .string) (hx : opnd d T x = .slice (some ⟨n, off, none⟩) len cap)
    (he : prun P (underlying e) = some (.int .u8)) (hat : H.at n = some (.row cs ee es)) (hsub : lsub cs off len = some l) (hb : bytesOf l = some r) : OpOk P G d T H nx o (.string ⟨⟨r⟩⟩) H nx (bit n) 0 := by
  refine opOk_quiet fun ρ h w a g hS hr => ?_
  have h1 := hr x (by rw [hop]; simp [Op.operands])
  rw [hx] at h1
  obtain ⟨_, lo, hl, hp1⟩ := h1.slice_inv
  obtain ⟨hh, hbl⟩ := g.at hl (hS n (bit_self n)) hat
  obtain ⟨us, k1, k2⟩ := hbl.sub (P := P) hsub
  obtain ⟨ns, e1, e2⟩ := bytesOf_spec l r hb
  have hus : us = l := by
    have : ∀ (l us : List Value), (∀ v ∈ l, flat v = true) → RL ρ l us → us = l := by
      intro l
      induction l with
      | nil => intro us _ h; cases h; rfl
      | cons v l ih => intro us hf h; cases h with
        | cons _ u _ m h1 h2 => rw [h1.flat_inv (hf v (by simp)), ih m (fun x hx => hf x (by simp [hx])) h2]
    refine this l us (fun v hv => ?_) k2
    rw [e1] at hv
    obtain ⟨n, _, rfl⟩ := List.mem_map.1 hv
    rfl
  refine ⟨.string ⟨⟨r⟩⟩, ?_, .flat _ rfl⟩
  have hrun : (Conv.bytesToString (.slice (some ⟨lo.blk, lo.off + off, none⟩) len (lo.cap off cap))).run P w = .ok (.string ⟨⟨r⟩⟩) w := by
    rw [run_bytesToString (P := P) w ⟨lo.blk, lo.off + off, none⟩ len (lo.cap off cap) ns (by rw [k1, hus, e1])]
    rw [foldl_push, e2]
    simp
  unfold execOp
  simp only [hop, hp1]
  rw [Sem.run_bind, run_convert_bytes_string w s t e _ _ _ (prun_underlying hs) (prun_underlying he) (prun_underlying ht), hrun]
  rfl
theorem toBytes_ok {T : Tri Value} {H : Hp} {nx : Nat} {s t e : TypeId} {x : Operand} {b : ByteArray} (hpar : nx % 2 = 0) (hop : o.op = .convert s t x) (hs : prun P (underlying s) = some .string) (ht : prun P (underlying t) = some (.slice e)) (hx : opnd d T x = .string b)
    (he : prun P (underlying e) = some (.int .u8)) (hnb : nx + 1 < 2 ^ dep) (hbs : b.size ≤ 1000000) :
    OpOk P G d T H nx o (.slice (some ⟨nx + 1, 0, none⟩) b.size b.size) (H.set dep (nx + 1) (some (.row (b.data.toList.map fun x => .int .u8 x.toNat) e 1))) (nx + 2) (bit (nx + 1)) (bit (nx + 1)) := by
  intro ρ h w a g hS hfr hr K Q hK
  have h1 := hr x (by rw [hop]; simp [Op.operands])
  rw [hx] at h1
  have hp1 := h1.flat_inv rfl
  obtain ⟨c, hc, hcv⟩ : ∃ c, b.size ≤ c ∧ (Question.appendCap b.size 0 e).cut (w.tape w.drawn (.appendCap b.size 0 e)) = c := ⟨_, by simp [Question.cut], rfl⟩
  have hbl : (b.data.toList.map fun x => (Value.int .u8 x.toNat)).length = b.size := by rw [List.length_map, Array.length_toList]; rfl
  have ev := Ev1.row (g.drew (w.drawn + 1)) nx (nx + 2) (nx + 1) (by omega) (by omega) hfr (b.data.toList.map fun x => .int .u8 x.toNat) (b.data.toList.map fun x => .int .u8 x.toNat) (List.replicate (c - b.size) (.int .u8 0)) e (c - b.size) 1
    (flats fun v hv => by obtain ⟨x, _, rfl⟩ := List.mem_map.1 hv; rfl) (by simp) (fun h => by omega) (hp (H.set dep (nx + 1) (some (.row (b.data.toList.map fun x => .int .u8 x.toNat) e 1)))) (by rw [hp_set _ _ _ hnb]; simp) (c, c + 1) (fun k hk _ => by simp only [List.length_append, hbl, List.length_replicate]; omega)
  have hr2 := R.slice (ρ := fun k => if k = nx + 1 then some (⟨w.heap.size, 0, (b.data.toList.map fun x => (Value.int .u8 x.toNat)).length, c - b.size, 1⟩ : Loc) else ρ k) (nx + 1) 0 b.size b.size ⟨w.heap.size, 0, (b.data.toList.map fun x => (Value.int .u8 x.toNat)).length, c - b.size, 1⟩ (by simp)
  have e4 : Loc.cap ⟨w.heap.size, 0, (b.data.toList.map fun x => (Value.int .u8 x.toNat)).length, c - b.size, 1⟩ 0 b.size = c := by
    show (if 0 + b.size * 1 = _ then _ else _) = _
    have hb1 : 0 + b.size * 1 = (b.data.toList.map fun x => (Value.int .u8 x.toNat)).length := by rw [hbl]; omega
    rw [if_pos hb1]
    show b.size + (c - b.size) = c
    omega
  rw [e4] at hr2
  refine wp_val ?_ (hK _ (.slice (some ⟨w.heap.size, 0, none⟩) b.size c) _ ev.of_drew (by simpa using hr2))
  have hcv2 : ∀ w : World, (convert s t (.string b)).run P w = (Conv.stringToBytes e b).run P w := by
    intro w
    simp [convert, run_underlying (prun_underlying hs), run_underlying (prun_underlying ht), run_underlying (prun_underlying he)]
  unfold execOp
  simp only [hop, hp1]
  rw [Sem.run_bind, hcv2]
  unfold Conv.stringToBytes
  simp only [Sem.run_bind, run_choose, Question.forced, Bool.false_eq_true, if_false, Result.andThen_ok, hcv, newRow, run_newObj, markStringish, run_shape, run_freeze, Sem.run_pure]
  have hA : (Array.map (fun b => Value.int IntKind.u8 ↑b.toNat) b.data ++ Array.replicate (c - b.size) (Value.int IntKind.u8 0)) = (⟨b.data.toList.map (fun x => Value.int .u8 x.toNat) ++ List.replicate (c - b.size) (.int .u8 0)⟩ : Array Value) := by
    apply Array.toList_inj.1
    simp
  rw [hA]
  have hlen : (b.data.toList.map (fun x => Value.int .u8 x.toNat) ++ List.replicate (c - b.size) (Value.int .u8 0)).length = c := by
    rw [List.length_append, hbl, List.length_replicate]; omega
  generalize b.data.toList.map (fun x => Value.int .u8 x.toNat) ++ List.replicate (c - b.size) (Value.int .u8 0) = L at hlen
  have hsh : World.shape? { heap := w.heap.push (.cells ⟨L⟩ e), tape := w.tape, drawn := w.drawn + 1, os := w.os, output := w.output } w.heap.size = some (e, c) := by
    simp [World.shape?, hlen]
  rw [hsh]
  simp only [run_freeze, Result.andThen_ok]
  congr 1
  unfold World.freeze
  rw [if_neg (by omega)]
  show World.mk _ _ _ _ _ = World.mk _ _ _ _ _
  congr 1
  show Array.modify (w.heap.push _) w.heap.size _ = w.heap.push _
  rw [push_modify]
  rfl
end
end Go.Proofs.YtlegcfjafdihlaaGreatDoor.Ev
