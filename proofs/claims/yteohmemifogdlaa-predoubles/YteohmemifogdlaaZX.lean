/- Layer 3 of the program: the other ways of a step. -/
import Derived.Test.YteohmemifogdlaaZW
namespace Go.Proofs.Yteohmemifogdlaa
open Go.RowKit Lg Go.Maps
set_option linter.unusedVariables false
set_option linter.unusedSimpArgs false

set_option maxRecDepth 100000 in
set_option maxHeartbeats 4000000 in
theorem pstep_off4 (B b : Nat) (src : List Tok) (r : RB) (D : DataW Value) (nD : Nat) (s : Ps) (w : World) (h : Inv B b src r D nD s.o s.kp w) (t : Tok) (hlt : r.at_ < src.length) (ht : src[r.at_]? = some t) (sx : ByteArray) (hsx : sx = S t.x) (hk : t.k = 4) (hs : splB t.x = false) (hkk : kpB s.o = false) (hN : NmOk r.g src D s.n) :
    Calls Try.prog 18 #[.pointer (some ⟨b, 0, none⟩)] w fun e w' => StepOut B b src r nD w (.go 0 s) e w' := by
  obtain ⟨c0, c1, c2, c3, c4, c5, c6, c7, cf⟩ := h.blk.at_
  rw [h.n.1] at c0
  obtain ⟨q0, q1, q2⟩ := h.get ht
  rw [← hsx] at q1
  have hsxl : L sx = t.x := by rw [hsx, L_S]
  have HS := fun w => splits_c sx w
  rw [hsxl, hs] at HS
  have HKP : Hid (∀ w1, Inv B b src { r with at_ := r.at_ + 1 } D nD s.o s.kp w1 → Calls Try.prog 27 #[.pointer (some ⟨b, 0, none⟩)] w1 fun e w' => e = .returned (.bool false) ∧ w' = w1.drew) := fun w1 hI => by rw [← hkk]; exact keeping_c B b _ s.o w1 hI.blk hI.opn
  have hbl := heap_lt h.blk
  have hne : b ≠ w.heap.size := by omega
  have hgw : r.g < w.heap.size := by have := h.gB; have := h.Bw; omega
  have hgne : r.g ≠ w.heap.size := by omega
  have hltI : (r.at_ : Int) < (src.length : Int) := by omega
  have hl3 := h.n.2.2
  have f4 := cf 4
  have HE : Hid (Inv B b src { r with at_ := r.at_ + 1 } D nD s.o s.kp (w.setCell ⟨b, 4, none⟩ (.int .i64 ((r.at_ : Int) + 1))) ∧ Frm b r.mb B w (w.setCell ⟨b, 4, none⟩ (.int .i64 ((r.at_ : Int) + 1)))) := ⟨h.set4 _ _ (by go_num), Frm.set⟩
  rw [hk] at q0
  have HNM : Hid _ := hN
  clear h ht hsx hsxl cf hkk hs hN
  go_enter Try.func18, Try.ntmps18
  go_wp2_with fail
  go_region
  all_goals go_wp2_with (first | (go_at_call 25; refine (HS _).mono ?_; rintro e w2 ⟨rfl, hw2⟩; have hw3 := hw2.symm; subst hw3) | (go_at_call 27; refine (HKP.out _ (HE.out.1.same bxB.drew)).mono ?_; rintro e w2 ⟨rfl, hw2⟩; have hw3 := hw2.symm; subst hw3))
  all_goals go_end0
  all_goals exact ⟨rfl, ⟨{ r with at_ := r.at_ + 1 }, D, rfl, rfl, rfl, rfl, (HE.out.1.same bxB.drew.drew).more, HNM.out⟩, HE.out.2.trans (Frm.of_below bxB.drew.drew HE.out.1.Bw)⟩
set_option maxRecDepth 100000 in
set_option maxHeartbeats 4000000 in
theorem pstep_off (B b : Nat) (src : List Tok) (r : RB) (D : DataW Value) (nD : Nat) (s : Ps) (w : World) (h : Inv B b src r D nD s.o s.kp w) (t : Tok) (hlt : r.at_ < src.length) (ht : src[r.at_]? = some t) (sx : ByteArray) (hsx : sx = S t.x) (hk : t.k ≠ 4) (hkk : kpB s.o = false) (hN : NmOk r.g src D s.n) :
    Calls Try.prog 18 #[.pointer (some ⟨b, 0, none⟩)] w fun e w' => StepOut B b src r nD w (.go 0 s) e w' := by
  obtain ⟨c0, c1, c2, c3, c4, c5, c6, c7, cf⟩ := h.blk.at_
  rw [h.n.1] at c0
  obtain ⟨q0, q1, q2⟩ := h.get ht
  rw [← hsx] at q1
  have hsxl : L sx = t.x := by rw [hsx, L_S]
  have HKP : Hid (∀ w1, Inv B b src { r with at_ := r.at_ + 1 } D nD s.o s.kp w1 → Calls Try.prog 27 #[.pointer (some ⟨b, 0, none⟩)] w1 fun e w' => e = .returned (.bool false) ∧ w' = w1.drew) := fun w1 hI => by rw [← hkk]; exact keeping_c B b _ s.o w1 hI.blk hI.opn
  have hbl := heap_lt h.blk
  have hne : b ≠ w.heap.size := by omega
  have hgw : r.g < w.heap.size := by have := h.gB; have := h.Bw; omega
  have hgne : r.g ≠ w.heap.size := by omega
  have hltI : (r.at_ : Int) < (src.length : Int) := by omega
  have hl3 := h.n.2.2
  have f4 := cf 4
  have HE : Hid (Inv B b src { r with at_ := r.at_ + 1 } D nD s.o s.kp (w.setCell ⟨b, 4, none⟩ (.int .i64 ((r.at_ : Int) + 1))) ∧ Frm b r.mb B w (w.setCell ⟨b, 4, none⟩ (.int .i64 ((r.at_ : Int) + 1)))) := ⟨h.set4 _ _ (by go_num), Frm.set⟩
  have hk4 : (t.k == 4) = false := by simpa using hk
  have HNM : Hid _ := hN
  clear h ht hsx hsxl cf hkk hN
  go_enter Try.func18, Try.ntmps18
  go_wp2_with fail
  go_region
  all_goals go_wp2_with (first | (go_at_call 27; refine (HKP.out _ (HE.out.1.same bxB.drew)).mono ?_; rintro e w2 ⟨rfl, hw2⟩; have hw3 := hw2.symm; subst hw3))
  all_goals go_end0
  all_goals exact ⟨rfl, ⟨{ r with at_ := r.at_ + 1 }, D, rfl, rfl, rfl, rfl, (HE.out.1.same bxB.drew.drew).more, HNM.out⟩, HE.out.2.trans (Frm.of_below bxB.drew.drew HE.out.1.Bw)⟩
set_option maxRecDepth 100000 in
set_option maxHeartbeats 4000000 in
theorem pstep_tick (B b : Nat) (src : List Tok) (r : RB) (D : DataW Value) (nD : Nat) (s : Ps) (w : World) (h : Inv B b src r D nD s.o s.kp w) (t : Tok) (hlt : r.at_ < src.length) (ht : src[r.at_]? = some t) (sx : ByteArray) (hsx : sx = S t.x) (hk : t.k = 4) (hs : splB t.x = false) (hkk : kpB s.o = true) (res : Po)
    (HC : ∀ w1, Inv B b src { r with at_ := r.at_ + 1 } D nD s.o s.kp w1 → Calls Try.prog 28 #[.pointer (some ⟨b, 0, none⟩), .agg #[.int .i64 t.k, .string sx, .int .i64 t.p]] w1 fun e w' => SOut B b src { r with at_ := r.at_ + 1 } nD w1 res e w') :
    Calls Try.prog 18 #[.pointer (some ⟨b, 0, none⟩)] w fun e w' => StepOut B b src r nD w res e w' := by
  obtain ⟨c0, c1, c2, c3, c4, c5, c6, c7, cf⟩ := h.blk.at_
  rw [h.n.1] at c0
  obtain ⟨q0, q1, q2⟩ := h.get ht
  rw [← hsx] at q1
  have hsxl : L sx = t.x := by rw [hsx, L_S]
  have HS := fun w => splits_c sx w
  rw [hsxl, hs] at HS
  have HKP : Hid (∀ w1, Inv B b src { r with at_ := r.at_ + 1 } D nD s.o s.kp w1 → Calls Try.prog 27 #[.pointer (some ⟨b, 0, none⟩)] w1 fun e w' => e = .returned (.bool true) ∧ w' = w1.drew) := fun w1 hI => by rw [← hkk]; exact keeping_c B b _ s.o w1 hI.blk hI.opn
  have hbl := heap_lt h.blk
  have hne : b ≠ w.heap.size := by omega
  have hgw : r.g < w.heap.size := by have := h.gB; have := h.Bw; omega
  have hgne : r.g ≠ w.heap.size := by omega
  have hltI : (r.at_ : Int) < (src.length : Int) := by omega
  have hl3 := h.n.2.2
  have f4 := cf 4
  have HE : Hid (Inv B b src { r with at_ := r.at_ + 1 } D nD s.o s.kp (w.setCell ⟨b, 4, none⟩ (.int .i64 ((r.at_ : Int) + 1))) ∧ Frm b r.mb B w (w.setCell ⟨b, 4, none⟩ (.int .i64 ((r.at_ : Int) + 1)))) := ⟨h.set4 _ _ (by go_num), Frm.set⟩
  rw [hk] at q0 HC
  have HCC : Hid _ := HC
  clear h ht hsx hsxl cf hkk hs HC
  cases res with
  | no p c =>
    go_enter Try.func18, Try.ntmps18
    go_wp2_with fail
    go_region
    all_goals go_wp2_with (first | (go_at_call 25; refine (HS _).mono ?_; rintro e w2 ⟨rfl, hw2⟩; have hw3 := hw2.symm; subst hw3) | (go_at_call 27; refine (HKP.out _ (HE.out.1.same bxB.drew)).mono ?_; rintro e w2 ⟨rfl, hw2⟩; have hw3 := hw2.symm; subst hw3) | (go_at_call 28; refine (HCC.out _ (HE.out.1.same bxB.drew.drew)).mono ?_; intro e w2 q; obtain ⟨rfl, hq⟩ := q))
    all_goals exact ⟨rfl, s_step (HE.out.2.trans (Frm.of_below bxB.drew.drew HE.out.1.Bw)) ⟨rfl, hq⟩⟩
  | go m s2 =>
    go_enter Try.func18, Try.ntmps18
    go_wp2_with fail
    go_region
    all_goals go_wp2_with (first | (go_at_call 25; refine (HS _).mono ?_; rintro e w2 ⟨rfl, hw2⟩; have hw3 := hw2.symm; subst hw3) | (go_at_call 27; refine (HKP.out _ (HE.out.1.same bxB.drew)).mono ?_; rintro e w2 ⟨rfl, hw2⟩; have hw3 := hw2.symm; subst hw3) | (go_at_call 28; refine (HCC.out _ (HE.out.1.same bxB.drew.drew)).mono ?_; intro e w2 q; obtain ⟨rfl, hq⟩ := q; have HQ : Hid _ := hq; clear hq))
    all_goals go_end0
    all_goals exact s_step (HE.out.2.trans (Frm.of_below bxB.drew.drew HE.out.1.Bw)) ⟨rfl, HQ.out⟩
set_option maxRecDepth 100000 in
set_option maxHeartbeats 4000000 in
theorem pstep_line (B b : Nat) (src : List Tok) (r : RB) (D : DataW Value) (nD : Nat) (s : Ps) (w : World) (h : Inv B b src r D nD s.o s.kp w) (t : Tok) (hlt : r.at_ < src.length) (ht : src[r.at_]? = some t) (sx : ByteArray) (hsx : sx = S t.x) (hk : t.k ≠ 4) (hkk : kpB s.o = true) (hk5 : t.k = 5) (hN : NmOk r.g src D s.n) :
    Calls Try.prog 18 #[.pointer (some ⟨b, 0, none⟩)] w fun e w' => StepOut B b src r nD w (.go 0 s) e w' := by
  obtain ⟨c0, c1, c2, c3, c4, c5, c6, c7, cf⟩ := h.blk.at_
  rw [h.n.1] at c0
  obtain ⟨q0, q1, q2⟩ := h.get ht
  rw [← hsx] at q1
  have hsxl : L sx = t.x := by rw [hsx, L_S]
  have HKP : Hid (∀ w1, Inv B b src { r with at_ := r.at_ + 1 } D nD s.o s.kp w1 → Calls Try.prog 27 #[.pointer (some ⟨b, 0, none⟩)] w1 fun e w' => e = .returned (.bool true) ∧ w' = w1.drew) := fun w1 hI => by rw [← hkk]; exact keeping_c B b _ s.o w1 hI.blk hI.opn
  have hbl := heap_lt h.blk
  have hne : b ≠ w.heap.size := by omega
  have hgw : r.g < w.heap.size := by have := h.gB; have := h.Bw; omega
  have hgne : r.g ≠ w.heap.size := by omega
  have hltI : (r.at_ : Int) < (src.length : Int) := by omega
  have hl3 := h.n.2.2
  have f4 := cf 4
  have HE : Hid (Inv B b src { r with at_ := r.at_ + 1 } D nD s.o s.kp (w.setCell ⟨b, 4, none⟩ (.int .i64 ((r.at_ : Int) + 1))) ∧ Frm b r.mb B w (w.setCell ⟨b, 4, none⟩ (.int .i64 ((r.at_ : Int) + 1)))) := ⟨h.set4 _ _ (by go_num), Frm.set⟩
  have hk4 : (t.k == 4) = false := by simpa using hk
  rw [hk5] at q0 hk4
  have HNM : Hid _ := hN
  clear h ht hsx hsxl cf hkk hN
  go_enter Try.func18, Try.ntmps18
  go_wp2_with fail
  go_region
  all_goals go_wp2_with (first | (go_at_call 27; refine (HKP.out _ (HE.out.1.same bxB.drew)).mono ?_; rintro e w2 ⟨rfl, hw2⟩; have hw3 := hw2.symm; subst hw3))
  all_goals go_end0
  all_goals exact ⟨rfl, ⟨{ r with at_ := r.at_ + 1 }, D, rfl, rfl, rfl, rfl, (HE.out.1.same bxB.drew.drew).more, HNM.out⟩, HE.out.2.trans (Frm.of_below bxB.drew.drew HE.out.1.Bw)⟩
set_option maxRecDepth 100000 in
set_option maxHeartbeats 4000000 in
theorem pstep_keep (B b : Nat) (src : List Tok) (r : RB) (D : DataW Value) (nD : Nat) (s : Ps) (w : World) (h : Inv B b src r D nD s.o s.kp w) (t : Tok) (hlt : r.at_ < src.length) (ht : src[r.at_]? = some t) (sx : ByteArray) (hsx : sx = S t.x) (hk : t.k ≠ 4) (hkk : kpB s.o = true) (hk5 : t.k ≠ 5) (res : Po)
    (HC : ∀ w1, Inv B b src { r with at_ := r.at_ + 1 } D nD s.o s.kp w1 → Calls Try.prog 29 #[.pointer (some ⟨b, 0, none⟩), .agg #[.int .i64 t.k, .string sx, .int .i64 t.p]] w1 fun e w' => SOut B b src { r with at_ := r.at_ + 1 } nD w1 res e w') :
    Calls Try.prog 18 #[.pointer (some ⟨b, 0, none⟩)] w fun e w' => StepOut B b src r nD w res e w' := by
  obtain ⟨c0, c1, c2, c3, c4, c5, c6, c7, cf⟩ := h.blk.at_
  rw [h.n.1] at c0
  obtain ⟨q0, q1, q2⟩ := h.get ht
  rw [← hsx] at q1
  have hsxl : L sx = t.x := by rw [hsx, L_S]
  have HKP : Hid (∀ w1, Inv B b src { r with at_ := r.at_ + 1 } D nD s.o s.kp w1 → Calls Try.prog 27 #[.pointer (some ⟨b, 0, none⟩)] w1 fun e w' => e = .returned (.bool true) ∧ w' = w1.drew) := fun w1 hI => by rw [← hkk]; exact keeping_c B b _ s.o w1 hI.blk hI.opn
  have hbl := heap_lt h.blk
  have hne : b ≠ w.heap.size := by omega
  have hgw : r.g < w.heap.size := by have := h.gB; have := h.Bw; omega
  have hgne : r.g ≠ w.heap.size := by omega
  have hltI : (r.at_ : Int) < (src.length : Int) := by omega
  have hl3 := h.n.2.2
  have f4 := cf 4
  have HE : Hid (Inv B b src { r with at_ := r.at_ + 1 } D nD s.o s.kp (w.setCell ⟨b, 4, none⟩ (.int .i64 ((r.at_ : Int) + 1))) ∧ Frm b r.mb B w (w.setCell ⟨b, 4, none⟩ (.int .i64 ((r.at_ : Int) + 1)))) := ⟨h.set4 _ _ (by go_num), Frm.set⟩
  have hk4 : (t.k == 4) = false := by simpa using hk
  have hk5b : (t.k != 5) = true := by simpa using hk5
  have HCC : Hid _ := HC
  clear h ht hsx hsxl cf hkk HC
  cases res with
  | no p c =>
    go_enter Try.func18, Try.ntmps18
    go_wp2_with fail
    go_region
    all_goals go_wp2_with (first | (go_at_call 27; refine (HKP.out _ (HE.out.1.same bxB.drew)).mono ?_; rintro e w2 ⟨rfl, hw2⟩; have hw3 := hw2.symm; subst hw3) | (go_at_call 29; refine (HCC.out _ (HE.out.1.same bxB.drew.drew)).mono ?_; intro e w2 q; obtain ⟨rfl, hq⟩ := q))
    all_goals exact ⟨rfl, s_step (HE.out.2.trans (Frm.of_below bxB.drew.drew HE.out.1.Bw)) ⟨rfl, hq⟩⟩
  | go m s2 =>
    go_enter Try.func18, Try.ntmps18
    go_wp2_with fail
    go_region
    all_goals go_wp2_with (first | (go_at_call 27; refine (HKP.out _ (HE.out.1.same bxB.drew)).mono ?_; rintro e w2 ⟨rfl, hw2⟩; have hw3 := hw2.symm; subst hw3) | (go_at_call 29; refine (HCC.out _ (HE.out.1.same bxB.drew.drew)).mono ?_; intro e w2 q; obtain ⟨rfl, hq⟩ := q; have HQ : Hid _ := hq; clear hq))
    all_goals go_end0
    all_goals exact s_step (HE.out.2.trans (Frm.of_below bxB.drew.drew HE.out.1.Bw)) ⟨rfl, HQ.out⟩
end Go.Proofs.Yteohmemifogdlaa
