/- Layer 4 of the program: a name, what it is to be, and the end of the item. -/
import Derived.Test.YthdhmlojihpfkaaGreatSI
namespace Go.Proofs.YthdhmlojihpfkaaGreat
open Go.RowKit Lg
set_option linter.unusedVariables false
set_option linter.unusedSimpArgs false

theorem Up.drew {N : Nat → Prop} {w : World} : Up N w w.drew := ⟨Nat.le_refl _, fun _ _ _ => rfl⟩
set_option maxRecDepth 100000 in
set_option maxHeartbeats 1000000 in
theorem pDrivenY {b g cap : Nat} {l : List Tok} {f k k' : Nat} {x : X} (hn : nmB (tk l k) = true) (he : fx l (k + 1) = [61]) (hq : pQ l f (.ex 1) (k + 1 + 1) = some (x, k')) (hf : 1 + f ≤ 100000) (hs : fx l k' = [59]) (w : World) (h : St b g cap l k w) :
    Calls Tryz.prog 101 #[.pointer (some ⟨b, 0, none⟩)] w fun e w' => (∃ ao n cp, e = .returned (.tuple #[.string (S (tk l k).x), .agg #[.int .i64 x.op, .string (S x.nm), .string (S x.vl), .bool x.pl, .slice ao n cp, .int .i64 x.p]]) ∧ KAt w' (Ge w.heap.size) x.kids (.slice ao n cp)) ∧ St b g cap l (k' + 1) w' ∧ Kp b w w' := by
  have HN := fun w' (hb : Below w.heap.size w w') => pNameY (h.below hb) hn
  have HE := fun w' (h : St b g cap l (k + 1) w') => pNeedY h ⟨#[61]⟩ he (by decide)
  have HX := fun w' (h : St b g cap l (k + 1 + 1) w') => pExpr hq hf w' h
  have HS := fun w' (h : St b g cap l k' w') => pNeedY h ⟨#[59]⟩ hs (by decide)
  have HT : Hid _ := h
  unfold ExO at HX
  obtain ⟨yo, yn, yv, yp, yk, yp2⟩ := x
  simp only at HX ⊢
  obtain ⟨sn, hsn⟩ : ∃ sn, sn = S yn := ⟨_, rfl⟩
  obtain ⟨sv, hsv⟩ : ∃ sv, sv = S yv := ⟨_, rfl⟩
  obtain ⟨nm, hnm⟩ : ∃ nm, nm = S (tk l k).x := ⟨_, rfl⟩
  rw [← hsn, ← hsv] at HX ⊢
  rw [← hnm] at HN ⊢
  replace HX : ∀ w', St b g cap l (k + 1 + 1) w' → Calls Tryz.prog 86 #[.pointer (some ⟨b, 0, none⟩), .int .i64 1] w' fun e w'_1 => (∃ ao n cp, e = .returned (.agg #[.int .i64 yo, .string sn, .string sv, .bool yp, .slice ao n cp, .int .i64 yp2]) ∧ KAt w'_1 (Ge w'.heap.size) yk (.slice ao n cp)) ∧ St b g cap l k' w'_1 ∧ Kp b w' w'_1 := HX
  clear h hn he hq hf hs hsn hsv hnm
  have hbl := HT.out.blt
  go_enter Tryz.func101, Tryz.ntmps101
  go_wp2_with (first
    | (go_at_call 66; refine (HN _ bxS).mono ?_; rintro e w1 ⟨rfl, hs1, hk1⟩)
    | (go_at_call 65; have hx := hs3; refine (HS _ (hs3.below bxS)).mono ?_; rintro e w4 ⟨rfl, hs4, hk4⟩; obtain ⟨q0, q1, q2, q3, q4, q5, qf, ql⟩ := res6 (((hk1.trans hk2).trans hk3).trans ((Kp.of bxS).trans hk4)) hbl rfl; obtain ⟨s0, s1, s2, s3, s4, s5, sf, sl⟩ := res6 (R := w3.heap.size) hk4 hs3.blt rfl)
    | (go_at_call 65; refine (HE _ hs1).mono ?_; rintro e w2 ⟨rfl, hs2, hk2⟩)
    | (go_at_call 86; refine (HX _ hs2).mono ?_; rintro e w3 ⟨⟨ao, vn, cp, rfl, hv⟩, hs3, hk3⟩))
  refine wp_region_any (by kernel_rfl) ?_
  try (change wpAny _ _ _ _ _ _ _ (World.drew _))
  refine wpAny_take (i := 0) (v := ?_) rfl (by kernel_rfl) (by kernel_rfl) (by kernel_rfl) (fun _ _ _ h => h) (Or.inl ⟨by kernel_rfl, ?_⟩) ?_
  rotate_left
  · intro w'; go_simp <;> with_reducible rfl
  try simp only [Act.put, List.setIfInBounds_toArray, List.set_cons_zero, List.set_cons_succ]
  refine wpAny_take (i := 2) (v := ?_) rfl (by kernel_rfl) (by kernel_rfl) (by kernel_rfl) (fun _ _ _ h => h) (Or.inl ⟨by kernel_rfl, ?_⟩) ?_
  rotate_left
  · intro w'; go_simp <;> with_reducible rfl
  try simp only [Act.put, List.setIfInBounds_toArray, List.set_cons_zero, List.set_cons_succ]
  refine wpAny_ready (rs := [1]) (by kernel_rfl) (by simp) ?_
  refine AllReady.cons rfl (fun K hK => ?_) AllReady.nil
  go_simp
  refine hK _ _ ?_
  clear hK K
  refine wpAny_ready (rs := [3]) (by kernel_rfl) (by simp) ?_
  refine AllReady.cons rfl (fun K hK => ?_) AllReady.nil
  go_simp
  refine hK _ _ ?_
  clear hK K
  refine wpAny_done (by kernel_rfl) ?_ _
  go_wp2_with fail
  refine bodyPost_ret (v := .tuple #[.string nm, .agg #[.int .i64 yo, .string sn, .string sv, .bool yp, .slice ao vn cp, .int .i64 yp2]]) (by simp [results, Tryz.results101, go_sem, q0, q1, q2, q3, q4, q5, qf, ql]) rfl ?_
  have hg := HT.out.lt
  have z1 : w.heap.size + 1 ≤ w1.heap.size := by have := hk1.size; simpa using this
  have z2 := hk2.size
  have hU : Up (Ge w2.heap.size) w3 w4 := Up.of (b := b) ((Kp.of bxS).trans hk4) (by unfold Ge; omega)
  exact ⟨⟨_, _, _, rfl, (((hv.keep hU).keep (Up.sixG (by omega))).keep Up.drew).monoG (by omega)⟩, (hs4.six (by omega) (by omega)).below belD, ((((Kp.of bxS).trans ((hk1.trans hk2).trans hk3)).trans ((Kp.of bxS).trans hk4)).six (Nat.le_refl _)).drew⟩
set_option maxRecDepth 100000 in
set_option maxHeartbeats 4000000 in
theorem pDrivenN {b g cap : Nat} {l : List Tok} {f k k' : Nat} {x : X} (hn : nmB (tk l k) = true) (he : fx l (k + 1) = [61]) (hq : pQ l f (.ex 1) (k + 1 + 1) = some (x, k')) (hf : 1 + f ≤ 100000) (hs : fx l k' ≠ [59]) (w : World) (h : St b g cap l k w) :
    Calls Tryz.prog 101 #[.pointer (some ⟨b, 0, none⟩)] w fun e w' => e = .panicked (pnW (tk l k').p) ∧ Kp b w w' := by
  have HN := fun w' (hb : Below w.heap.size w w') => pNameY (h.below hb) hn
  have HE := fun w' (h : St b g cap l (k + 1) w') => pNeedY h ⟨#[61]⟩ he (by decide)
  have HX := fun w' (h : St b g cap l (k + 1 + 1) w') => pExpr hq hf w' h
  have HS := fun w' (h : St b g cap l k' w') => pNeedN h ⟨#[59]⟩ hs
  have HT : Hid _ := h
  unfold ExO at HX
  obtain ⟨yo, yn, yv, yp, yk, yp2⟩ := x
  simp only at HX ⊢
  obtain ⟨sn, hsn⟩ : ∃ sn, sn = S yn := ⟨_, rfl⟩
  obtain ⟨sv, hsv⟩ : ∃ sv, sv = S yv := ⟨_, rfl⟩
  obtain ⟨nm, hnm⟩ : ∃ nm, nm = S (tk l k).x := ⟨_, rfl⟩
  rw [← hsn, ← hsv] at HX
  rw [← hnm] at HN
  replace HX : ∀ w', St b g cap l (k + 1 + 1) w' → Calls Tryz.prog 86 #[.pointer (some ⟨b, 0, none⟩), .int .i64 1] w' fun e w'_1 => (∃ ao n cp, e = .returned (.agg #[.int .i64 yo, .string sn, .string sv, .bool yp, .slice ao n cp, .int .i64 yp2]) ∧ KAt w'_1 (Ge w'.heap.size) yk (.slice ao n cp)) ∧ St b g cap l k' w'_1 ∧ Kp b w' w'_1 := HX
  clear h hn he hq hf hs hsn hsv hnm
  go_enter Tryz.func101, Tryz.ntmps101
  go_wp2_with (first
    | (go_at_call 66; refine (HN _ bxS).mono ?_; rintro e w1 ⟨rfl, hs1, hk1⟩)
    | (go_at_call 65; have hx := hs3; refine (HS _ (hs3.below bxS)).mono ?_; rintro e w4 ⟨rfl, hk4⟩)
    | (go_at_call 65; refine (HE _ hs1).mono ?_; rintro e w2 ⟨rfl, hs2, hk2⟩)
    | (go_at_call 86; refine (HX _ hs2).mono ?_; rintro e w3 ⟨⟨ao, vn, cp, rfl, hv⟩, hs3, hk3⟩))
  exact ⟨rfl, rfl, ((Kp.of bxS).trans ((hk1.trans hk2).trans hk3)).trans ((Kp.of bxS).trans hk4)⟩
end Go.Proofs.YthdhmlojihpfkaaGreat
