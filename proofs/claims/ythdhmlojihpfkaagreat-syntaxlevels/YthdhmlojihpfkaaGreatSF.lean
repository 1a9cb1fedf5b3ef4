/- Layer 4 of the program: a primary that is a name; unary signs. -/
import Derived.Test.YthdhmlojihpfkaaGreatSE
namespace Go.Proofs.YthdhmlojihpfkaaGreat
open Go.RowKit Lg
set_option linter.unusedVariables false
set_option linter.unusedSimpArgs false

theorem fix_nm {t : Tok} (h : nmB t = true) : fixL t = [] := by
  unfold nmB at h
  simp at h
  unfold fixL
  rw [if_neg]
  rintro (⟨h1, h2⟩ | ⟨h1, h2⟩)
  · rw [h.2] at h2; cases h2
  · rw [h.1] at h1; exact absurd h1 (by decide)
theorem nm_kind {t : Tok} (h : nmB t = true) : t.k = 1 := by unfold nmB at h; simp at h; exact h.1
/-- what a function boxes, and its result's block, stay -/
theorem boxes {w w' : World} {bb : Nat} {p d a b c e f h : Value} {t1 t2 t3 : TypeId} (hk : Kp bb (((w.alloc (.cells #[p] t1)).alloc (.cells #[d] t2)).alloc (.cells #[a, b, c, e, f, h] t3)) w') (hb : bb < w.heap.size) :
    w'.cell? ⟨w.heap.size, 0, none⟩ = some p ∧ w'.cell? ⟨w.heap.size + 1, 0, none⟩ = some d ∧ w'.cell? ⟨w.heap.size + 2, 0, none⟩ = some a ∧ w'.cell? ⟨w.heap.size + 2, 1, none⟩ = some b ∧ w'.cell? ⟨w.heap.size + 2, 2, none⟩ = some c ∧ w'.cell? ⟨w.heap.size + 2, 3, none⟩ = some e ∧ w'.cell? ⟨w.heap.size + 2, 4, none⟩ = some f ∧ w'.cell? ⟨w.heap.size + 2, 5, none⟩ = some h ∧ (∀ j, w'.frozen? ⟨w.heap.size + 2, j, none⟩ = false) ∧ w.heap.size + 2 < w'.heap.size := by
  have e0 : w'.heap[w.heap.size]? = some (.cells #[p] t1 (0, 0)) := (hk.block w.heap.size (by simp; omega) (by omega)).trans (by
    show (((w.heap.push _).push _).push _)[w.heap.size]? = _
    rw [Array.getElem?_push, if_neg (by simp; omega), Array.getElem?_push, if_neg (by simp), Array.getElem?_push, if_pos rfl])
  have e1 : w'.heap[w.heap.size + 1]? = some (.cells #[d] t2 (0, 0)) := (hk.block (w.heap.size + 1) (by simp) (by omega)).trans (by
    show (((w.heap.push _).push _).push _)[w.heap.size + 1]? = _
    rw [Array.getElem?_push, if_neg (by simp), Array.getElem?_push, if_pos (by simp)])
  have e2 : w'.heap[w.heap.size + 2]? = some (.cells #[a, b, c, e, f, h] t3 (0, 0)) := (hk.block (w.heap.size + 2) (by simp) (by omega)).trans (by
    show (((w.heap.push _).push _).push _)[w.heap.size + 2]? = _
    rw [Array.getElem?_push, if_pos (by simp)])
  refine ⟨by rw [Lib.cell_of_heap e0]; rfl, by rw [Lib.cell_of_heap e1]; rfl, ?_, ?_, ?_, ?_, ?_, ?_, fun j => Lib.frozen_of_heap e2 j, heap_lt e2⟩ <;> (rw [Lib.cell_of_heap e2]; rfl)
theorem b3 {w : World} {o1 o2 o3 : Obj} : Below w.heap.size w (((w.alloc o1).alloc o2).alloc o3) := bel (bel bxS bxS) bxS
set_option maxRecDepth 100000 in
set_option maxHeartbeats 4000000 in
theorem pPrimN {b g cap k : Nat} {l : List Tok} {w : World} (h : St b g cap l k w) (d : Nat) (hd : d ≤ 32) (hn : nmB (tk l k) = true) (hx : fx l (k + 1) ≠ [91]) :
    Calls Tryz.prog 111 #[.pointer (some ⟨b, 0, none⟩), .int .i64 d] w fun e w' => ExO b g cap l w ⟨2, (tk l k).x, [], false, .nil, (tk l k).p⟩ (k + 1) e w' := by
  have HH := fun w' (hb : Below w.heap.size w w') => pHere (h.below hb)
  have HF := fun w' => fixed_c (tk l k) w'
  rw [show fixL (tk l k) = [] from fix_nm hn] at HF
  have HI := fun w' => isName_c (tk l k) w'
  rw [hn] at HI
  have HM := fun w' (hb : Below w.heap.size w w') => pNamed (h.below hb) d hd hn hx
  have hk1 : (tk l k).k = 1 := nm_kind hn
  have HT : Hid _ := h
  unfold ExO at HM ⊢
  obtain ⟨⟨kk, tx, p⟩, ht⟩ : ∃ t, t = tk l k := ⟨_, rfl⟩
  rw [← ht] at HH HF HI HM hk1 ⊢
  unfold tkV at HH HF HI
  simp only at HH HF HI HM hk1 ⊢
  subst hk1
  obtain ⟨sx, hsx⟩ : ∃ sx, sx = S tx := ⟨_, rfl⟩
  rw [← hsx] at HH HF HI HM ⊢
  replace HF : ∀ w', Calls Tryz.prog 87 #[.agg #[.int .i64 1, .string sx, .int .i64 p]] w' fun e w'' => e = .returned (.string ⟨#[]⟩) ∧ Below w'.heap.size w' w'' := HF
  clear ht h hsx hn hd hx
  have hbl := HT.out.blt
  go_enter Tryz.func111, Tryz.ntmps111
  go_wp2_with (first
    | (go_at_call 53; refine (HH _ b3).mono ?_; rintro e w1 ⟨rfl, hb1⟩; obtain ⟨a1, a2, _⟩ := boxes (Kp.of hb1) hbl)
    | (go_at_call 87; refine (HF _).mono ?_; rintro e w2 ⟨rfl, hb2⟩; obtain ⟨c1, c2, _⟩ := boxes ((Kp.of hb1).trans (Kp.of (bel bxS hb2))) hbl; obtain ⟨r0, r1, r2, _⟩ := res_cells hb2)
    | (go_at_call 84; refine (HI _).mono ?_; rintro e w3 ⟨rfl, hb3⟩; obtain ⟨d1, d2, _⟩ := boxes ((Kp.of hb1).trans (Kp.of (bel (bel bxS hb2) hb3))) hbl)
    | (go_at_call 118; refine (HM _ (bel b3 (bel hb1 (bel (bel bxS hb2) hb3)))).mono ?_; rintro e w4 ⟨⟨ao, vn, cp, rfl, hv⟩, hs4, hk4⟩; obtain ⟨_, _, q0, q1, q2, q3, q4, q5, qf, ql⟩ := boxes (((Kp.of hb1).trans (Kp.of (bel (bel bxS hb2) hb3))).trans hk4) hbl))
  have hg := HT.out.lt
  refine bodyPost_ret (v := .agg #[.int .i64 2, .string sx, .string (S []), .bool false, .slice ao vn cp, .int .i64 p]) (by simp [results, Tryz.results111, go_sem, q0, q1, q2, q3, q4, q5, qf, ql]) rfl ?_
  have z1 : w.heap.size + 3 ≤ w1.heap.size := by have := hb1.size; simpa using this
  have z2 := (bel (bel (bxS (w := w1)) hb2) hb3).size
  have hz3 : w.heap.size + 2 < w3.heap.size := by omega
  refine ⟨⟨_, _, _, rfl, (hv.keep (Up.sixG hz3)).monoG (by omega)⟩, hs4.six (by omega) (by omega), (((Kp.of b3).trans ((Kp.of hb1).trans (Kp.of (bel (bel bxS hb2) hb3)))).trans hk4).six (by omega)⟩
end Go.Proofs.YthdhmlojihpfkaaGreat
