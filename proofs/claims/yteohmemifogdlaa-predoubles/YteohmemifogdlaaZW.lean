/- Layer 3 of the program: a step. -/
import Derived.Test.YteohmemifogdlaaZV
namespace Go.Proofs.Yteohmemifogdlaa
open Go.RowKit Lg Go.Maps
set_option linter.unusedVariables false
set_option linter.unusedSimpArgs false

/-- what a step's callee leaves is what the step leaves -/
theorem s_step {B b : Nat} {src : List Tok} {r : RB} {nD : Nat} {w w1 : World} {res : Po} {e : Ending} {w' : World} (hF : Frm b r.mb B w w1) (h : SOut B b src { r with at_ := r.at_ + 1 } nD w1 res e w') : StepOut B b src r nD w res e w' := by
  cases res with
  | no p c => exact ⟨h.1, hF.trans h.2⟩
  | go m s =>
    obtain ⟨q1, ⟨r2, D2, z1, z2, z3, z4, z5, z6⟩, q3⟩ := h
    exact ⟨q1, ⟨r2, D2, z1, z2, z3, z4, z5, z6⟩, hF.trans q3⟩

set_option maxRecDepth 100000 in
set_option maxHeartbeats 4000000 in
theorem step_split (B b : Nat) (src : List Tok) (r : RB) (D : DataW Value) (nD : Nat) (s : Ps) (w : World) (h : Inv B b src r D nD s.o s.kp w) (t : Tok) (hlt : r.at_ < src.length) (ht : src[r.at_]? = some t) (sx : ByteArray) (hsx : sx = S t.x) (hk : t.k = 4) (hs : splB t.x = true) (res : Po)
    (HC : ∀ w1, Inv B b src { r with at_ := r.at_ + 1 } D nD s.o s.kp w1 → Calls Try.prog 26 #[.pointer (some ⟨b, 0, none⟩), .agg #[.int .i64 t.k, .string sx, .int .i64 t.p]] w1 fun e w' => SOut B b src { r with at_ := r.at_ + 1 } nD w1 res e w') :
    Calls Try.prog 18 #[.pointer (some ⟨b, 0, none⟩)] w fun e w' => StepOut B b src r nD w res e w' := by
  obtain ⟨c0, c1, c2, c3, c4, c5, c6, c7, cf⟩ := h.blk.at_
  rw [h.n.1] at c0
  obtain ⟨q0, q1, q2⟩ := h.get ht
  rw [← hsx] at q1
  have hsxl : L sx = t.x := by rw [hsx, L_S]
  have HS := fun w => splits_c sx w
  rw [hsxl, hs] at HS
  have hbl := heap_lt h.blk
  have hne : b ≠ w.heap.size := by omega
  have hgw : r.g < w.heap.size := by have := h.gB; have := h.Bw; omega
  have hgne : r.g ≠ w.heap.size := by omega
  have hltI : (r.at_ : Int) < (src.length : Int) := by omega
  have hl3 := h.n.2.2
  have f4 := cf 4
  have HE : Hid (Inv B b src { r with at_ := r.at_ + 1 } D nD s.o s.kp (w.setCell ⟨b, 4, none⟩ (.int .i64 ((r.at_ : Int) + 1))) ∧ Frm b r.mb B w (w.setCell ⟨b, 4, none⟩ (.int .i64 ((r.at_ : Int) + 1)))) := ⟨h.set4 _ _ (by go_num), Frm.set⟩
  rw [hk] at q0 HC
  have HCC : Hid _ := HC
  clear h ht hsx hsxl hs cf HC
  cases res with
  | no p c =>
    go_enter Try.func18, Try.ntmps18
    go_wp2_with fail
    go_region
    all_goals go_wp2_with (first | (go_at_call 25; refine (HS _).mono ?_; rintro e w2 ⟨rfl, hw2⟩; have hw3 := hw2.symm; subst hw3) | (go_at_call 26; refine (HCC.out _ (HE.out.1.same bxB.drew)).mono ?_; intro e w2 q; obtain ⟨rfl, hq⟩ := q))
    all_goals exact ⟨rfl, s_step (HE.out.2.trans (Frm.of_below bxB.drew HE.out.1.Bw)) ⟨rfl, hq⟩⟩
  | go m s2 =>
    go_enter Try.func18, Try.ntmps18
    go_wp2_with fail
    go_region
    all_goals go_wp2_with (first | (go_at_call 25; refine (HS _).mono ?_; rintro e w2 ⟨rfl, hw2⟩; have hw3 := hw2.symm; subst hw3) | (go_at_call 26; refine (HCC.out _ (HE.out.1.same bxB.drew)).mono ?_; intro e w2 q; obtain ⟨rfl, hq⟩ := q; have HQ : Hid _ := hq; clear hq))
    all_goals go_end0
    all_goals exact s_step (HE.out.2.trans (Frm.of_below bxB.drew HE.out.1.Bw)) ⟨rfl, HQ.out⟩
end Go.Proofs.Yteohmemifogdlaa
