/- Layer 4 of the program: unary signs. -/
import Derived.Test.YthdhmlojihpfkaaGreatSF
namespace Go.Proofs.YthdhmlojihpfkaaGreat
open Go.RowKit Lg
set_option linter.unusedVariables false
set_option linter.unusedSimpArgs false

/-- a unary expression is read as it should -/
def UnC (b g cap : Nat) (l : List Tok) (f : Nat) : Prop := ∀ d k x k', pQ l f (.un d) k = some (x, k') → d + f ≤ 100000 → ∀ w, St b g cap l k w → Calls Tryz.prog 108 #[.pointer (some ⟨b, 0, none⟩), .int .i64 d] w fun e w' => ExO b g cap l w x k' e w'
def BiC (b g cap : Nat) (l : List Tok) (f : Nat) : Prop := ∀ d s k x k', pQ l f (.bi d s) k = some (x, k') → d + f ≤ 100000 → s ≤ 10 → ∀ w, St b g cap l k w → Calls Tryz.prog 97 #[.pointer (some ⟨b, 0, none⟩), .int .i64 d, .int .i64 s] w fun e w' => ExO b g cap l w x k' e w'
set_option maxRecDepth 100000 in
set_option maxHeartbeats 4000000 in
theorem unP {b g cap : Nat} {l : List Tok} (d k : Nat) (hu : unL (fx l k) = 0) (hd : d ≤ 32) (hn : nmB (tk l k) = true) (hx : fx l (k + 1) ≠ [91]) (w : World) (h : St b g cap l k w) :
    Calls Tryz.prog 108 #[.pointer (some ⟨b, 0, none⟩), .int .i64 d] w fun e w' => ExO b g cap l w ⟨2, (tk l k).x, [], false, .nil, (tk l k).p⟩ (k + 1) e w' := by
  have HH := fun w' (hb : Below w.heap.size w w') => pHere (h.below hb)
  have HF := fun w' => fixed_c (tk l k) w'
  have HU := fun w' => unaryOp_c (S (fixL (tk l k))) w'
  rw [L_S, show fixL (tk l k) = fx l k from rfl, hu] at HU
  rw [show fixL (tk l k) = fx l k from rfl] at HF
  have HM := fun w' (hb : Below w.heap.size w w') => pPrimN (h.below hb) d hd hn hx
  have HT : Hid _ := h
  unfold ExO at HM ⊢
  obtain ⟨t, ht⟩ : ∃ t, t = tkV (tk l k) := ⟨_, rfl⟩
  rw [← ht] at HH HF
  obtain ⟨y, hy⟩ : ∃ y, y = S (fx l k) := ⟨_, rfl⟩
  rw [← hy] at HF HU
  obtain ⟨⟨kk, tx, p⟩, ht2⟩ : ∃ t, t = tk l k := ⟨_, rfl⟩
  rw [← ht2] at HM ⊢
  simp only at HM ⊢
  obtain ⟨sx, hsx⟩ : ∃ sx, sx = S tx := ⟨_, rfl⟩
  rw [← hsx] at HM ⊢
  clear ht h hn hd hx hu hy ht2 hsx
  have hbl := HT.out.blt
  go_enter Tryz.func108, Tryz.ntmps108
  go_wp2_with (first
    | (go_at_call 53; refine (HH _ bxS).mono ?_; rintro e w1 ⟨rfl, hb1⟩)
    | (go_at_call 87; refine (HF _).mono ?_; rintro e w2 ⟨rfl, hb2⟩)
    | (go_at_call 114; refine (HU _).mono ?_; rintro e w3 ⟨rfl, hw⟩; have hw2 := hw.symm; subst hw2)
    | (go_at_call 111; refine (HM _ (bel bxS (bel hb1 hb2))).mono ?_; rintro e w4 ⟨⟨ao, vn, cp, rfl, hv⟩, hs4, hk4⟩; obtain ⟨q0, q1, q2, q3, q4, q5, qf, ql⟩ := res6 ((Kp.of (bel hb1 hb2)).trans hk4) hbl rfl))
  have hg := HT.out.lt
  refine bodyPost_ret (v := .agg #[.int .i64 2, .string sx, .string (S []), .bool false, .slice ao vn cp, .int .i64 p]) (by simp [results, Tryz.results108, go_sem, q0, q1, q2, q3, q4, q5, qf, ql]) rfl ?_
  have z1 : w.heap.size + 1 ≤ w1.heap.size := by have := hb1.size; simpa using this
  have z2 := hb2.size
  exact ⟨⟨_, _, _, rfl, (hv.keep (Up.sixG (by omega))).monoG (by omega)⟩, hs4.six (by omega) (by omega), (((Kp.of bxS).trans (Kp.of (bel hb1 hb2))).trans hk4).six (Nat.le_refl _)⟩
set_option maxRecDepth 100000 in
set_option maxHeartbeats 4000000 in
theorem unU {b g cap : Nat} {l : List Tok} {f : Nat} (IH : UnC b g cap l f) (d k : Nat) (hu : unL (fx l k) ≠ 0) (hd : d ≤ 32) (hf : d + 1 + f ≤ 100000) (y : X) (k' : Nat) (hy : pQ l f (.un (d + 1)) (k + 1) = some (y, k')) (w : World) (h : St b g cap l k w) :
    Calls Tryz.prog 108 #[.pointer (some ⟨b, 0, none⟩), .int .i64 d] w fun e w' => ExO b g cap l w ⟨unL (fx l k), [], [], false, y.f .nil, (tk l k).p⟩ k' e w' := by
  have HH := fun w' (hb : Below w.heap.size w w') => pHere (h.below hb)
  have HF := fun w' => fixed_c (tk l k) w'
  have HU := fun w' => unaryOp_c (S (fixL (tk l k))) w'
  rw [L_S, show fixL (tk l k) = fx l k from rfl] at HU
  rw [show fixL (tk l k) = fx l k from rfl] at HF
  have HO := fun w' (hb : Below w.heap.size w w') => pOpenY (h.below hb) d hd (h.next (fx_kind (unL_ne hu)))
  have HM := fun w' => IH (d + 1) (k + 1) y k' hy hf w'
  have HT : Hid _ := h
  unfold ExO at HM ⊢
  simp only
  obtain ⟨ys, hys⟩ : ∃ ys, ys = S (fx l k) := ⟨_, rfl⟩
  rw [← hys] at HF HU
  obtain ⟨op, hop⟩ : ∃ op, op = unL (fx l k) := ⟨_, rfl⟩
  rw [← hop] at HU hu ⊢
  obtain ⟨⟨kk, tx, p⟩, ht2⟩ : ∃ t, t = tk l k := ⟨_, rfl⟩
  rw [← ht2] at HH HF HO ⊢
  unfold tkV at HH HF HO
  simp only at HH HF HO ⊢
  obtain ⟨sx, hsx⟩ : ∃ sx, sx = S tx := ⟨_, rfl⟩
  rw [← hsx] at HH HF HO
  have ho : (op == 0) = false := by simpa using hu
  obtain ⟨yo, yn, yv, yp, yk, yp2⟩ := y
  simp only at HM
  obtain ⟨sn, hsn⟩ : ∃ sn, sn = S yn := ⟨_, rfl⟩
  obtain ⟨sv, hsv⟩ : ∃ sv, sv = S yv := ⟨_, rfl⟩
  have HN : Hid (sn = S yn ∧ sv = S yv) := ⟨hsn, hsv⟩
  rw [← hsn, ← hsv] at HM
  replace HM : ∀ w', St b g cap l (k + 1) w' → Calls Tryz.prog 108 #[.pointer (some ⟨b, 0, none⟩), .int .i64 ((d : Int) + 1)] w' fun e w'_1 => (∃ ao n cp, e = .returned (.agg #[.int .i64 yo, .string sn, .string sv, .bool yp, .slice ao n cp, .int .i64 yp2]) ∧ KAt w'_1 (Ge w'.heap.size) yk (.slice ao n cp)) ∧ St b g cap l k' w'_1 ∧ Kp b w' w'_1 := HM
  have hdI : (d : Int) ≤ 32 := by omega
  have hf2 := fld2
  clear h hd hu hys ht2 hsx IH hy hop hsn hsv hf
  have hbl := HT.out.blt
  go_enter Tryz.func108, Tryz.ntmps108
  go_wp2_with (first
    | (go_at_call 53; refine (HH _ bxS).mono ?_; rintro e w1 ⟨rfl, hb1⟩)
    | (go_at_call 87; refine (HF _).mono ?_; rintro e w2 ⟨rfl, hb2⟩)
    | (go_at_call 114; refine (HU _).mono ?_; rintro e w3 ⟨rfl, hw⟩; have hw2 := hw.symm; subst hw2)
    | (go_at_call 99; refine (HO _ (bel bxS (bel hb1 hb2))).mono ?_; rintro e w4 ⟨rfl, hs4, hk4⟩)
    | (go_at_call 108; refine (HM _ hs4).mono ?_; rintro e w5 ⟨⟨ao, vn, cp, rfl, hv⟩, hs5, hk5⟩; obtain ⟨q0, q1, q2, q3, q4, q5, qf, ql⟩ := res6 (((Kp.of (bel hb1 hb2)).trans hk4).trans hk5) hbl rfl))
  have hg := HT.out.lt
  have z1 : w.heap.size + 1 ≤ w1.heap.size := by have := hb1.size; simpa using this
  have z2 := hb2.size
  have z4 := hk4.size
  have z5 := hk5.size
  refine bodyPost_ret (v := .agg #[.int .i64 op, .string (S []), .string (S []), .bool false, .slice (some ⟨w5.heap.size, 0, none⟩) 1 1, .int .i64 p]) (by simp [results, Tryz.results108, go_sem, q0, q1, q2, q3, q4, q5, qf, ql]; rfl) rfl ?_
  obtain ⟨e1, e2⟩ := HN.out
  subst e1 e2
  have hK := KAt.oneS (x := ⟨yo, yn, yv, yp, yk, yp2⟩) (R := w.heap.size) (v0 := .int .i64 op) (v1 := .string ⟨#[]⟩) (v2 := .string ⟨#[]⟩) (v3 := .bool false) (v4 := .slice (some ⟨w5.heap.size, 0, none⟩) 1 1) (v5 := .int .i64 p) hv (by omega) (by omega) 47
  exact ⟨⟨_, _, _, rfl, hK.monoG (by omega)⟩, (hs5.six (by omega) (by omega)).below bxS, ((((Kp.of bxS).trans (Kp.of (bel hb1 hb2))).trans (hk4.trans hk5)).six (Nat.le_refl _)).alloc⟩
end Go.Proofs.YthdhmlojihpfkaaGreat
