/- Layer 4 of the program: a module whose items give up. -/
import Derived.Test.YthdhmlojihpfkaaGreatST
namespace Go.Proofs.YthdhmlojihpfkaaGreat
open Go.RowKit Lg
set_option linter.unusedVariables false
set_option linter.unusedSimpArgs false

set_option maxRecDepth 100000 in
set_option maxHeartbeats 4000000 in
theorem pModN {b g cap k : Nat} {l : List Tok} {p : Nat} {w : World} (h : St b g cap l k w) (h0 : fx l k = [109, 111, 100, 117, 108, 101]) (h1 : nmB (tk l (k + 1)) = true) (h2 : fx l (k + 1 + 1) = [40]) (h3 : fx l (k + 1 + 1 + 1) = [41]) (h4 : fx l (k + 1 + 1 + 1 + 1) = [59])
    (HI : ∀ w', St b g cap l (k + 1 + 1 + 1 + 1 + 1) w' → Calls Tryz.prog 73 #[.pointer (some ⟨b, 0, none⟩), .string ⟨#[101, 110, 100, 109, 111, 100, 117, 108, 101]⟩, .int .i64 1] w' fun e w'' => e = .panicked (pnW p) ∧ Kp b w' w'') :
    Calls Tryz.prog 52 #[.pointer (some ⟨b, 0, none⟩)] w fun e w' => e = .panicked (pnW p) ∧ Kp b w w' := by
  have HH := fun w' (hb : Below w.heap.size w w') => pHere (h.below hb)
  have HM := fun w' (hb : Below w.heap.size w w') => pNeedY (h.below hb) ⟨#[109, 111, 100, 117, 108, 101]⟩ h0 (by decide)
  have HN := fun w' (h : St b g cap l (k + 1) w') => pNameY h h1
  have HT := fun w' (h : St b g cap l (k + 1 + 1) w') => pTakesN h ⟨#[35]⟩ (by rw [h2]; decide)
  have HO := fun w' (h : St b g cap l (k + 1 + 1) w') => pNeedY h ⟨#[40]⟩ h2 (by decide)
  have HS := fun w' (h : St b g cap l (k + 1 + 1 + 1) w') => pSees h ⟨#[41]⟩
  rw [show (fx l (k + 1 + 1 + 1) == L (⟨#[41]⟩ : ByteArray)) = true from by rw [h3]; decide] at HS
  have HC := fun w' (h : St b g cap l (k + 1 + 1 + 1) w') => pNeedY h ⟨#[41]⟩ h3 (by decide)
  have HE := fun w' (h : St b g cap l (k + 1 + 1 + 1 + 1) w') => pNeedY h ⟨#[59]⟩ h4 (by decide)
  have HX : Hid _ := h
  obtain ⟨sn, hsn⟩ : ∃ sn, sn = S (tk l (k + 1)).x := ⟨_, rfl⟩
  rw [← hsn] at HN
  obtain ⟨⟨kk, tx, pt⟩, ht⟩ : ∃ t, t = tk l k := ⟨_, rfl⟩
  rw [← ht] at HH
  unfold tkV at HH
  simp only at HH
  obtain ⟨sx, hsx⟩ : ∃ sx, sx = S tx := ⟨_, rfl⟩
  rw [← hsx] at HH
  have hf2 := fld2
  have hbl := HX.out.blt
  have hgl := HX.out.lt
  clear h h0 h1 h2 h3 h4 ht hsx hsn
  go_enter Tryz.func52, Tryz.ntmps52
  go_wp2_with (first
    | (go_at_call 53; refine (HH _ bxS).mono ?_; rintro e w1 ⟨rfl, hb1⟩; have z1 : w.heap.size + 1 ≤ w1.heap.size := by { have := hb1.size; simpa using this })
    | (refine wpl_build rfl 44 _ rfl #[(4, .int .i64 pt)] (by kernel_rfl) _ (build_mod _ _) ?_)
    | (refine wpl_storeN rfl 44 _ _ rfl _ rfl rfl (moC (.string ⟨#[]⟩) (.slice none 0 0) (.slice none 0 0) (.slice none 0 0) (.int .i64 pt)) rfl _ _ mod_size rfl (moC_one _ _ _ _ _ _ _ _ _ _ _) ?_)
    | (go_at_call 65; have hx := hs10; refine (HE _ hs10).mono ?_; rintro e w11 ⟨rfl, hs11, hk11⟩)
    | (go_at_call 65; have hx := hb7; refine (HC _ (hs6.below hb7)).mono ?_; rintro e w10 ⟨rfl, hs10, hk10⟩)
    | (go_at_call 65; have hx := hb5; refine (HO _ ((hs3.oth ho4 (by omega) (by omega)).below hb5)).mono ?_; rintro e w6 ⟨rfl, hs6, hk6⟩)
    | (go_at_call 65; refine (HM _ (bel bxS (bel hb1 bxS))).mono ?_; rintro e w2 ⟨rfl, hs2, hk2⟩; have hM2 := (hk2.block w1.heap.size (by simp) (by omega)).trans (heap_alloc_last _ _))
    | (go_at_call 66; refine (HN _ hs2).mono ?_; rintro e w3 ⟨rfl, hs3, hk3⟩; have hM3 := (hk3.block w1.heap.size (heap_lt hM2) (by omega)).trans hM2)
    | (refine wpl_storeO rfl 9 _ _ rfl w1.heap.size 0 rfl _ rfl _ _ hM3 string_size (Nat.le_of_ble_eq_true rfl) (one_string _) (moC (.string sn) (.slice none 0 0) (.slice none 0 0) (.slice none 0 0) (.int .i64 pt)) (by kernel_rfl) ?_; intro w4 ho4 hg4)
    | (go_at_call 67; refine (HT _ (hs3.oth ho4 (by omega) (by omega))).mono ?_; rintro e w5 ⟨rfl, hb5⟩)
    | (go_at_call 70; refine (HS _ hs6).mono ?_; rintro e w7 ⟨rfl, hb7⟩; have hM7 := (((Kp.of hb5).trans hk6).trans (Kp.of hb7)).block w1.heap.size (heap_lt hg4) (by omega) |>.trans hg4)
    | (go_at_call 73; refine (HI _ hs11).mono ?_; rintro e w12 ⟨rfl, hk12⟩))
  have hKK : ∀ w', Kp b w' w1 → w'.heap.size ≤ w1.heap.size → Kp b w' w12 := fun w' h hz => ((((((((((h.trans (Kp.of bxS)).trans hk2).trans hk3).oth ho4 hz).trans (Kp.of hb5)).trans hk6).trans (Kp.of hb7)).trans hk10).trans hk11).trans hk12)
  exact ⟨rfl, rfl, hKK w (Kp.of (bel bxS hb1)) (by omega)⟩
end Go.Proofs.YthdhmlojihpfkaaGreat
