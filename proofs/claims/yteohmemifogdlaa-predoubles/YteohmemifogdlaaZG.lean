/- Layer 3 of the program: the name behind a directive. -/
import Derived.Test.YteohmemifogdlaaZF
namespace Go.Proofs.Yteohmemifogdlaa
open Go.RowKit Lg Go.Maps
set_option linter.unusedVariables false
set_option linter.unusedSimpArgs false

theorem nameAt_cases (src : List Tok) (a : Nat) (h : a ≤ src.length) : (a = src.length ∧ nameAt (src.drop a) = none) ∨ ∃ t, src[a]? = some t ∧ a < src.length ∧ ((t.k ≠ 1 ∧ nameAt (src.drop a) = none) ∨ (t.k = 1 ∧ nameAt (src.drop a) = some t.x)) := by
  rcases Nat.lt_or_ge a src.length with hl | hl
  · refine Or.inr ⟨src[a], List.getElem?_eq_getElem hl, hl, ?_⟩
    rw [List.drop_eq_getElem_cons hl]
    by_cases hk : src[a].k = 1
    · exact Or.inr ⟨hk, by unfold nameAt; simp only; rw [if_pos hk]⟩
    · exact Or.inl ⟨hk, by unfold nameAt; simp only; rw [if_neg hk]⟩
  · exact Or.inl ⟨by omega, by rw [List.drop_of_length_le hl]; rfl⟩
theorem bxB {w : World} {o : Obj} : Below w.heap.size w (w.alloc o) := belA (Below.refl _ _) _

set_option maxHeartbeats 2000000 in
theorem name_no (B b : Nat) (src : List Tok) (r : RB) (D : DataW Value) (nD : Nat) (o : List Br) (kp : List Tok) (w : World) (h : Inv B b src r D nD o kp w) (k : Int) (x : ByteArray) (p : Int) (hat : r.at_ ≤ src.length) (hn : nameAt (src.drop r.at_) = none) :
    Calls Try.prog 37 #[.pointer (some ⟨b, 0, none⟩), .agg #[.int .i64 k, .string x, .int .i64 p]] w fun e w' => e = .panicked (pnc p 30) ∧ Below w.heap.size w w' := by
  obtain ⟨c0, c1, c2, c3, c4, c5, c6, c7, cf⟩ := h.blk.at_
  rw [h.n.1] at c0
  have hbl := heap_lt h.blk
  have hne : b ≠ w.heap.size := by omega
  have hgl : r.g ≠ w.heap.size := by have := h.gB; have := h.Bw; omega
  have hcap := h.n.2.2
  have hgw : r.g < w.heap.size := by have := h.gB; have := h.Bw; omega
  rcases nameAt_cases src r.at_ hat with ⟨he, _⟩ | ⟨t, ht, hl, ⟨hk, _⟩ | ⟨hk, hs⟩⟩
  · rw [he] at c4
    clear h hn
    go_enter Try.func37, Try.ntmps37
    go_wp2
    go_region
    all_goals
      go_wp2_with (first | (go_at_call 19; refine (giveUp_c _ _ _).mono ?_; rintro e w' ⟨rfl, hw⟩; have hw2 := hw.symm; subst hw2))
      exact ⟨rfl, rfl, bxB.drew⟩
  · obtain ⟨q0, q1, q2⟩ := h.get ht
    have hI : ((r.at_ : Nat) : Int) < ((src.length : Nat) : Int) := by omega
    have hIe : ((r.at_ : Nat) : Int) ≠ ((src.length : Nat) : Int) := by omega
    have hIb : (((r.at_ : Nat) : Int) == ((src.length : Nat) : Int)) = false := by rw [beq_eq_false_iff_ne]; exact hIe
    have hk1 : (t.k != 1) = true := by simpa using hk
    clear h hn hk ht
    go_enter Try.func37, Try.ntmps37
    go_wp2
    go_region
    all_goals
      go_wp2_with (first | (go_at_call 19; refine (giveUp_c _ _ _).mono ?_; rintro e w' ⟨rfl, hw⟩; have hw2 := hw.symm; subst hw2))
      exact ⟨rfl, rfl, bxB.drew⟩
  · rw [hn] at hs; cases hs
set_option maxHeartbeats 2000000 in
theorem name_ok (B b : Nat) (src : List Tok) (r : RB) (D : DataW Value) (nD : Nat) (o : List Br) (kp : List Tok) (w : World) (h : Inv B b src r D nD o kp w) (k : Int) (x : ByteArray) (p : Int) (hat : r.at_ ≤ src.length) (y : List UInt8) (hn : nameAt (src.drop r.at_) = some y) :
    Calls Try.prog 37 #[.pointer (some ⟨b, 0, none⟩), .agg #[.int .i64 k, .string x, .int .i64 p]] w fun e w' => e = .returned (.string (S y)) ∧ (Inv B b src { r with at_ := r.at_ + 1 } D nD o kp w' ∧ Frm b r.mb B w w') := by
  obtain ⟨c0, c1, c2, c3, c4, c5, c6, c7, cf⟩ := h.blk.at_
  rw [h.n.1] at c0
  have hbl := heap_lt h.blk
  have hne : b ≠ w.heap.size := by omega
  have hgl : r.g ≠ w.heap.size := by have := h.gB; have := h.Bw; omega
  have hgb := h.gb
  have hcap := h.n.2.2
  have hgw : r.g < w.heap.size := by have := h.gB; have := h.Bw; omega
  rcases nameAt_cases src r.at_ hat with ⟨he, hs⟩ | ⟨t, ht, hl, ⟨hk, hs⟩ | ⟨hk, hs⟩⟩
  · rw [hn] at hs; cases hs
  · rw [hn] at hs; cases hs
  · rw [hn] at hs
    injection hs with hs
    obtain ⟨q0, q1, q2⟩ := h.get ht
    have hI : ((r.at_ : Nat) : Int) < ((src.length : Nat) : Int) := by omega
    have hIb : (((r.at_ : Nat) : Int) == ((src.length : Nat) : Int)) = false := by rw [beq_eq_false_iff_ne]; omega
    rw [hk] at q0
    rw [← hs] at q1
    obtain ⟨sy, hsy⟩ : ∃ sy, sy = S y := ⟨_, rfl⟩
    rw [← hsy] at q1 ⊢
    have HE : Inv B b src { r with at_ := r.at_ + 1 } D nD o kp (w.setCell ⟨b, 4, none⟩ (.int .i64 ((r.at_ : Int) + 1))) ∧ Frm b r.mb B w (w.setCell ⟨b, 4, none⟩ (.int .i64 ((r.at_ : Int) + 1))) := ⟨h.set4 _ _ (by go_num), Frm.set⟩
    have HEE : Hid _ := HE
    have f4 := cf 4
    clear h hn hk ht hs hsy HE cf
    go_enter Try.func37, Try.ntmps37
    go_wp2
    go_region
    all_goals go_wp2
    all_goals go_region
    all_goals go_wp2
    all_goals go_ret
    all_goals exact ⟨rfl, HEE.out.1.same bxB.drew.drew, HEE.out.2.trans (Frm.of_below bxB.drew.drew HEE.out.1.Bw)⟩
end Go.Proofs.Yteohmemifogdlaa
