/- Layer 3 of the program: define, undef, a use. -/
import Derived.Test.YteohmemifogdlaaZM
import Derived.Test.YteohmemifogdlaaZO
namespace Go.Proofs.Yteohmemifogdlaa
open Go.RowKit Lg Go.Maps
set_option linter.unusedVariables false
set_option linter.unusedSimpArgs false

set_option maxRecDepth 100000 in
set_option maxHeartbeats 2000000 in
theorem tick_no (B b : Nat) (src : List Tok) (r : RB) (D : DataW Value) (nD : Nat) (o : List Br) (kp : List Tok) (w : World) (h : Inv B b src r D nD o kp w) (k : Int) (x : ByteArray) (p : Int) (hx : (x.toList == [100, 101, 102, 105, 110, 101]) = true ∨ ((x.toList == [100, 101, 102, 105, 110, 101]) = false ∧ (x.toList == [117, 110, 100, 101, 102]) = true)) (hat : r.at_ ≤ src.length) (hn : nameAt (src.drop r.at_) = none) :
    Calls Try.prog 28 #[.pointer (some ⟨b, 0, none⟩), .agg #[.int .i64 k, .string x, .int .i64 p]] w fun e w' => e = .panicked (pnc p 30) ∧ Below w.heap.size w w' := by
  have HM : ∀ w', Below w.heap.size w w' → Calls Try.prog 37 #[.pointer (some ⟨b, 0, none⟩), .agg #[.int .i64 k, .string x, .int .i64 p]] w' fun e w'' => e = .panicked (pnc p 30) ∧ Below w'.heap.size w' w'' := fun w' hb => name_no B b src r D nD o kp w' (h.same hb) k x p hat hn
  obtain ⟨c0, c1, c2, c3, c4, c5, c6, c7, cf⟩ := h.blk.at_
  have hbl := heap_lt h.blk
  have hne : b ≠ w.heap.size := by omega
  clear h hn cf
  rcases hx with hx | ⟨hx0, hx⟩
  · go_enter Try.func28, Try.ntmps28
    go_wp2_with (first | (go_at_call 37; refine (HM _ bxB).mono ?_; rintro e w2 ⟨rfl, hw2⟩))
    exact ⟨rfl, rfl, bel bxB hw2⟩
  · go_enter Try.func28, Try.ntmps28
    go_wp2_with fail
    go_region_with (go_at_call 37; refine (HM _ (by first | exact bxB | exact bxB.drew)).mono ?_; rintro e w2 ⟨rfl, hw2⟩; refine dead ⟨rfl, rfl, bel (by first | exact bxB | exact bxB.drew) hw2⟩ w ?_)
    all_goals trivial
theorem Inv.mapped {B b : Nat} {src : List Tok} {r : RB} {D D' : DataW Value} {nD nD' : Nat} {o : List Br} {kp : List Tok} {w w' : World} (h : Inv B b src r D nD o kp w) (hm : w'.ownsMap Try.prog 9 rdV r.mb nD' D') (hg : w.grownBy w' (some r.mb)) : Inv B b src r D' nD' o kp w' ∧ Frm b r.mb B w w' := by
  have hf : Frm b r.mb B w w' := ⟨hg.os, hg.tape, hg.output, hg.size, fun k hk _ h2 => hg.block k (by have := h.Bw; omega) (fun e => h2 (by injection e))⟩
  refine ⟨⟨(hg.block b (heap_lt h.blk) (fun e => map_ne h.map h.blk (by injection e with e; exact e.symm))).trans h.blk, hm, own_block h.opn (fun k hk => hg.block k (own_ge h.opn k hk).2 (fun e => map_own h.map h.opn (by rw [hk]; exact e))), own_block h.kpt (fun k hk => hg.block k (own_ge h.kpt k hk).2 (fun e => map_own h.map h.kpt (by rw [hk]; exact e))), h.bB, h.mB, h.gB, h.gb, h.gm, Nat.le_trans h.Bw hg.size, h.n, h.src_frm hf⟩, hf⟩

set_option maxRecDepth 100000 in
set_option maxHeartbeats 2000000 in
theorem tick_define (B b : Nat) (src : List Tok) (r : RB) (D : DataW Value) (nD : Nat) (hnD : nD ≤ 1000000) (o : List Br) (kp : List Tok) (w : World) (h : Inv B b src r D nD o kp w) (N : Nm) (hN : NmOk r.g src D N) (k : Int) (x : ByteArray) (p : Int) (hx : (x.toList == [100, 101, 102, 105, 110, 101]) = true) (hat : r.at_ < src.length) (y : List UInt8) (hy : y.length ≤ 65536) (hn : nameAt (src.drop r.at_) = some y) (m : Nat) (hm : ((src.drop (r.at_ + 1)).takeWhile notL).length = m) :
    Calls Try.prog 28 #[.pointer (some ⟨b, 0, none⟩), .agg #[.int .i64 k, .string x, .int .i64 p]] w fun e w' => e = .returned (.tuple #[]) ∧ (∃ D', Inv B b src { r with at_ := r.at_ + 1 + m } D' (nD + 1) o kp w' ∧ NmOk r.g src D' (N.put y ((src.drop (r.at_ + 1)).takeWhile notL))) ∧ Frm b r.mb B w w' := by
  obtain ⟨sy, hsy⟩ : ∃ sy, sy = S y := ⟨_, rfl⟩
  have hsl : L sy = y := by rw [hsy, L_S]
  have hss : sy.size ≤ maxLen := by rw [← len_L, hsl]; unfold maxLen; omega
  have HM : ∀ w', Below w.heap.size w w' → Calls Try.prog 37 #[.pointer (some ⟨b, 0, none⟩), .agg #[.int .i64 k, .string x, .int .i64 p]] w' fun e w'' => e = .returned (.string sy) ∧ w''.cell? ⟨b, 5, none⟩ = some (.map (some r.mb)) ∧ Hid (Inv B b src { r with at_ := r.at_ + 1 } D nD o kp w'') ∧ Hid (Frm b r.mb B w w'') := fun w' hb => (name_ok B b src r D nD o kp w' (h.same hb) k x p (by omega) y hn).mono fun e w'' q => ⟨by rw [hsy]; exact q.1, q.2.1.blk.at_.2.2.2.2.2.1, q.2.1, (Frm.of_below hb h.Bw).trans q.2.2⟩
  have HLN : ∀ w' w'', Inv B b src { r with at_ := r.at_ + 1 } D nD o kp w' → Below w'.heap.size w' w'' → Calls Try.prog 38 #[.pointer (some ⟨b, 0, none⟩)] w'' fun e w3 => ∃ f, e = .returned (.slice (some ⟨r.g, f * 3, none⟩) m m) ∧ w3.cell? ⟨b, 5, none⟩ = some (.map (some r.mb)) ∧ ∃ w4, (Instr.mapUpdate 40 (.map (some r.mb)) (.string sy) (.slice (some ⟨r.g, f * 3, none⟩) m m)).run Try.prog w3 = .ok () w4 ∧ Hid ((∃ D', Inv B b src { r with at_ := r.at_ + 1 + m } D' (nD + 1) o kp w4 ∧ NmOk r.g src D' (N.put y ((src.drop (r.at_ + 1)).takeWhile notL))) ∧ Frm b r.mb B w' w4) := fun w' w'' hI hb => by
    refine (pline_c B b src _ D nD o kp w'' (hI.same hb) (by show r.at_ + 1 ≤ _; omega) m hm).mono fun e w3 q => ?_
    obtain ⟨⟨f, he, hf1, hf2⟩, hI3, hF3⟩ := q
    obtain ⟨w4, hrun, hown, hgr⟩ := hI3.map.update lawS Try.underlying40 (by unfold maxLen; omega) (keyS hss) (val := .slice (some ⟨r.g, f * 3, none⟩) m m) rfl
    rw [hsl] at hown
    have h4 := hI3.mapped hown hgr
    have hnm := nm_put hN y ((src.drop (r.at_ + 1)).takeWhile notL) f (by rw [hm]; exact hf1) (by rw [hm]; exact hf2)
    rw [hm] at hnm
    exact ⟨f, he, hI3.blk.at_.2.2.2.2.2.1, w4, hrun, ⟨⟨_, h4.1, hnm⟩, ((Frm.of_below hb hI.Bw).trans hF3).trans h4.2⟩⟩
  have HLL : Hid _ := HLN
  have HMM : Hid _ := HM
  clear h hN hn hm HLN HM hsy hsl
  go_enter Try.func28, Try.ntmps28
  go_wp2_with (first | (go_at_call 37; refine (HMM.out _ bxB).mono ?_; rintro e w2 ⟨rfl, d5, HI2, HF2⟩))
  go_region_with (go_at_call 38; refine (HLL.out w2 _ HI2.out (by first | exact Below.refl _ _ | exact (Below.refl _ _).drew)).mono ?_; rintro e w3 ⟨f, rfl, d53, w4, hrun, HEND⟩)
  all_goals go_wp2_with fail
  all_goals go_end0
  all_goals exact ⟨rfl, HEND.out.1, HF2.out.trans HEND.out.2⟩
end Go.Proofs.Yteohmemifogdlaa
