/- Layer 4 of the program: expressions of names and operators. -/
import Derived.Test.YthdhmlojihpfkaaGreatSH
namespace Go.Proofs.YthdhmlojihpfkaaGreat
open Go.RowKit Lg
set_option linter.unusedVariables false
set_option linter.unusedSimpArgs false

theorem unbi_c {b g cap : Nat} {l : List Tok} : ∀ F f, f ≤ F → UnC b g cap l f ∧ BiC b g cap l f := by
  intro F
  induction F with
  | zero =>
    intro f hf
    obtain rfl : f = 0 := by omega
    refine ⟨fun d k x k' h => ?_, fun d s k x k' h => ?_⟩ <;> (rw [pQ] at h; cases h)
  | succ F ih =>
    intro f hf
    rcases Nat.lt_or_ge f (F + 1) with h1 | h1
    · exact ih f (by omega)
    · obtain rfl : f = F + 1 := by omega
      refine ⟨fun d k x k' h hd w hs => ?_, biW (fun f hf => (ih f hf).1) (fun f hf => (ih f hf).2)⟩
      rcases pQ_un h with ⟨hu, hp⟩ | ⟨hu, hd2, y, hy, rfl⟩
      · cases F with
        | zero => rw [pQ] at hp; cases hp
        | succ F =>
          obtain ⟨h2, h3, h4, rfl, rfl⟩ := pQ_pr hp
          exact unP d k hu h3 h2 h4 w hs
      · exact unU (ih F (Nat.le_refl _)).1 d k hu hd2 (by omega) y k' hy w hs
set_option maxRecDepth 100000 in
set_option maxHeartbeats 4000000 in
theorem pExpr {b g cap : Nat} {l : List Tok} {f d k k' : Nat} {x : X} (hq : pQ l f (.ex d) k = some (x, k')) (hd : d + f ≤ 100000) (w : World) (h : St b g cap l k w) :
    Calls Tryz.prog 86 #[.pointer (some ⟨b, 0, none⟩), .int .i64 d] w fun e w' => ExO b g cap l w x k' e w' := by
  cases f with
  | zero => rw [pQ] at hq; cases hq
  | succ f =>
    obtain ⟨h1, h2⟩ := pQ_ex hq
    have HB := fun w' (hb : Below w.heap.size w w') => (unbi_c f f (Nat.le_refl _)).2 d 0 k x k' h1 (by omega) (by omega) w' (h.below hb)
    have HT : Hid _ := h
    have HSE := fun w' (hs : St b g cap l k' w') => pSees hs ⟨#[63]⟩
    rw [show (fx l k' == L (⟨#[63]⟩ : ByteArray)) = false from beq_eq_false_iff_ne.2 h2] at HSE
    unfold ExO at HB ⊢
    obtain ⟨yo, yn, yv, yp, yk, yp2⟩ := x
    simp only at HB ⊢
    obtain ⟨sn, hsn⟩ : ∃ sn, sn = S yn := ⟨_, rfl⟩
    obtain ⟨sv, hsv⟩ : ∃ sv, sv = S yv := ⟨_, rfl⟩
    rw [← hsn, ← hsv] at HB ⊢
    replace HB : ∀ w', Below w.heap.size w w' → Calls Tryz.prog 97 #[.pointer (some ⟨b, 0, none⟩), .int .i64 d, .int .i64 0] w' fun e w'_1 => (∃ ao n cp, e = .returned (.agg #[.int .i64 yo, .string sn, .string sv, .bool yp, .slice ao n cp, .int .i64 yp2]) ∧ KAt w'_1 (Ge w'.heap.size) yk (.slice ao n cp)) ∧ St b g cap l k' w'_1 ∧ Kp b w' w'_1 := HB
    clear hq h1 h2 h hsn hsv
    have hbl := HT.out.blt
    go_enter Tryz.func86, Tryz.ntmps86
    go_wp2_with (first
      | (go_at_call 97; refine (HB _ bxS).mono ?_; rintro e w1 ⟨⟨ao, vn, cp, rfl, hv⟩, hs1, hk1⟩)
      | (go_at_call 70; refine (HSE _ (hs1.below bxS)).mono ?_; rintro e w2 ⟨rfl, hb2⟩; obtain ⟨q0, q1, q2, q3, q4, q5, qf, ql⟩ := res6 (hk1.trans (Kp.of (bel bxS hb2))) hbl rfl; obtain ⟨s0, s1, s2, s3, s4, s5, sf, sl⟩ := res6 (R := w1.heap.size) (Kp.of (b := b) hb2) hs1.blt rfl))
    have hg := HT.out.lt
    have z1 : w.heap.size + 1 ≤ w1.heap.size := by have := hk1.size; simpa using this
    refine bodyPost_ret (v := .agg #[.int .i64 yo, .string sn, .string sv, .bool yp, .slice ao vn cp, .int .i64 yp2]) (by simp [results, Tryz.results86, go_sem, q0, q1, q2, q3, q4, q5, qf, ql]) rfl ?_
    have hU : Up (Ge (w.heap.size + 1)) w1 w2 := Up.of (b := b) (Kp.of (bel bxS hb2)) (by unfold Ge; omega)
    have hv2 : KAt w1 (Ge (w.heap.size + 1)) yk (.slice ao vn cp) := hv.mono fun g' _ hg' => by unfold Ge at hg' ⊢; simp at hg'; omega
    exact ⟨⟨_, _, _, rfl, ((hv2.keep hU).keep (Up.sixG (by omega))).monoG (by omega)⟩, (hs1.below (bel bxS hb2)).six (by omega) (by omega), ((Kp.of bxS).trans (hk1.trans (Kp.of (bel bxS hb2)))).six (Nat.le_refl _)⟩
end Go.Proofs.YthdhmlojihpfkaaGreat
