/- Layer 4 of the program: an output without a range. -/
import Derived.Test.YthdhmlojihpfkaaGreatSQ
namespace Go.Proofs.YthdhmlojihpfkaaGreat
open Go.RowKit Lg
set_option linter.unusedVariables false
set_option linter.unusedSimpArgs false

set_option maxRecDepth 100000 in
set_option maxHeartbeats 4000000 in
theorem pPortO {b g cap k : Nat} {l : List Tok} {w : World} (h : St b g cap l k w) (hi : fx l k = [111, 117, 116, 112, 117, 116]) (hr : fx l (k + 1) ≠ [114, 101, 103]) (h91 : fx l (k + 1) ≠ [91]) (hn : nmB (tk l (k + 1)) = true) :
    Calls Tryz.prog 72 #[.pointer (some ⟨b, 0, none⟩)] w fun e w' => e = .returned (.agg (poC (.bool true) (.bool false) (.string (S (tk l (k + 1)).x)) (.int .i64 (tk l k).p))) ∧ St b g cap l (k + 1 + 1) w' ∧ Kp b w w' := by
  have HH := fun w' (hb : Below w.heap.size w w') => pHere (h.below hb)
  have HT := fun w' (hb : Below w.heap.size w w') => pTakesN (h.below hb) ⟨#[105, 110, 112, 117, 116]⟩ (by rw [hi]; decide)
  have HE := fun w' (hb : Below w.heap.size w w') => pNeedY (h.below hb) ⟨#[111, 117, 116, 112, 117, 116]⟩ hi (by decide)
  have HR := fun w' (h : St b g cap l (k + 1) w') => pTakesN h ⟨#[114, 101, 103]⟩ hr
  have HS := fun w' (h : St b g cap l (k + 1) w') => pSpanN h h91
  have HN := fun w' (h : St b g cap l (k + 1) w') => pNameY h hn
  have HX : Hid _ := h
  obtain ⟨nm, hnm⟩ : ∃ nm, nm = S (tk l (k + 1)).x := ⟨_, rfl⟩
  rw [← hnm] at HN ⊢
  obtain ⟨⟨kk, tx, p⟩, ht⟩ : ∃ t, t = tk l k := ⟨_, rfl⟩
  rw [← ht] at HH ⊢
  unfold tkV at HH
  simp only at HH ⊢
  obtain ⟨sx, hsx⟩ : ∃ sx, sx = S tx := ⟨_, rfl⟩
  rw [← hsx] at HH
  have hf2 := fld2
  have hbl := HX.out.blt
  have hgl := HX.out.lt
  clear h hi hr h91 hn ht hsx hnm
  go_enter Tryz.func72, Tryz.ntmps72
  go_wp2_with (first
    | (go_at_call 53; refine (HH _ bxS).mono ?_; rintro e w1 ⟨rfl, hb1⟩; have z1 : w.heap.size + 1 ≤ w1.heap.size := by { have := hb1.size; simpa using this })
    | (refine wpl_build rfl 67 _ rfl #[(6, .int .i64 p)] (by kernel_rfl) _ (build_port _ _) ?_)
    | (refine wpl_storeN rfl 67 _ _ rfl _ rfl rfl (poC (.bool false) (.bool false) (.string ⟨#[]⟩) (.int .i64 p)) rfl _ _ port_size rfl (poC_one _ _ _ _) ?_)
    | (go_at_call 67; have hx := hg4; refine (HR _ (hs3.oth ho4 (by omega) (by omega))).mono ?_; rintro e w5 ⟨rfl, hb5⟩; have hP5 : PAt w5 w1.heap.size _ _ _ _ := PAt.keep ⟨hg4⟩ (Kp.of (b := b) hb5) (by omega))
    | (go_at_call 67; refine (HT _ (bel bxS (bel hb1 bxS))).mono ?_; rintro e w2 ⟨rfl, hb2⟩)
    | (go_at_call 65; refine (HE _ (bel bxS (bel hb1 (bel bxS hb2)))).mono ?_; rintro e w3 ⟨rfl, hs3, hk3⟩; have hP3 : PAt w3 w1.heap.size _ _ _ _ := ⟨((Kp.of hb2).trans hk3).block w1.heap.size (by simp) (by omega) |>.trans (heap_alloc_last _ _)⟩)
    | (refine wpl_storeO rfl 4 _ _ rfl w1.heap.size 0 rfl _ rfl _ _ hP3.blk bool_size (Nat.le_of_ble_eq_true rfl) (one_bool _) (poC (.bool true) (.bool false) (.string ⟨#[]⟩) (.int .i64 p)) (by kernel_rfl) ?_; intro w4 ho4 hg4)
    | (refine wpl_storeO rfl 4 _ _ rfl w1.heap.size 1 rfl _ rfl _ _ hP5.blk bool_size (Nat.le_of_ble_eq_true rfl) (one_bool _) (poC (.bool true) (.bool false) (.string ⟨#[]⟩) (.int .i64 p)) (by kernel_rfl) ?_; intro w6 ho6 hg6)
    | (go_at_call 88; refine (HS _ (((hs3.oth ho4 (by omega) (by omega)).below hb5).oth ho6 (by omega) (by omega))).mono ?_; rintro e w7 ⟨rfl, hb7⟩; have hP7 : PAt w7 w1.heap.size _ _ _ _ := PAt.keep ⟨hg6⟩ (Kp.of (b := b) hb7) (by omega))
    | (refine wpl_storeO rfl 4 _ _ rfl w1.heap.size 2 rfl _ rfl _ _ hP7.blk bool_size (Nat.le_of_ble_eq_true rfl) (one_bool _) (poC (.bool true) (.bool false) (.string ⟨#[]⟩) (.int .i64 p)) (by kernel_rfl) ?_; intro w8 ho8 hg8)
    | (refine wpl_storeO rfl 47 _ _ rfl w1.heap.size 3 rfl _ rfl _ _ hg8 expr_size (Nat.le_of_ble_eq_true rfl) zE_one (poC (.bool true) (.bool false) (.string ⟨#[]⟩) (.int .i64 p)) (by kernel_rfl) ?_; intro w9 ho9 hg9)
    | (refine wpl_storeO rfl 47 _ _ rfl w1.heap.size 9 rfl _ rfl _ _ hg9 expr_size (Nat.le_of_ble_eq_true rfl) zE_one (poC (.bool true) (.bool false) (.string ⟨#[]⟩) (.int .i64 p)) (by kernel_rfl) ?_; intro w10 ho10 hg10)
    | (go_at_call 66; refine (HN _ ((((((hs3.oth ho4 (by omega) (by omega)).below hb5).oth ho6 (by omega) (by omega)).below hb7).oth ho8 (by omega) (by omega)).oth ho9 (by omega) (by omega) |>.oth ho10 (by omega) (by omega))).mono ?_; rintro e w11 ⟨rfl, hs11, hk11⟩; have hP11 : PAt w11 w1.heap.size _ _ _ _ := PAt.keep ⟨hg10⟩ hk11 (by omega))
    | (refine wpl_storeO rfl 9 _ _ rfl w1.heap.size 15 rfl _ rfl _ _ hP11.blk string_size (Nat.le_of_ble_eq_true rfl) (one_string _) (poC (.bool true) (.bool false) (.string nm) (.int .i64 p)) (by kernel_rfl) ?_; intro w12 ho12 hg12; have hKK : ∀ w', Kp b w' w1 → w'.heap.size ≤ w1.heap.size → Kp b w' w12 := fun w' h hz => ((((((((((((h.trans (Kp.of bxS)).trans (Kp.of hb2)).trans hk3).oth ho4 hz).trans (Kp.of hb5)).oth ho6 hz).trans (Kp.of hb7)).oth ho8 hz).oth ho9 hz).oth ho10 hz).trans hk11).oth ho12 hz); have hB : w12.heap[w.heap.size]? = _ := ((hKK _ (Kp.of hb1) (by simp; omega)).block w.heap.size (by simp) (by omega)).trans (heap_alloc_last _ _))
    | (refine wpl_load rfl 67 _ rfl _ rfl _ _ _ hg12 Tryz.underlying67 rfl port_size ?_)
    | (refine wpl_store rfl 67 _ _ rfl _ rfl _ rfl _ _ hB port_size rfl (poC_one _ _ _ _) ?_))
  refine bodyPost_ret (results_cell (r := 2) (t := 67) rfl w.heap.size rfl _ _ _ (setRow_at hB) Tryz.underlying67 rfl port_size) rfl ?_
  exact ⟨rfl, (hs11.oth ho12 (by omega) (by omega)).row (by omega) (by omega), (hKK w (Kp.of (bel bxS hb1)) (by omega)).row (Nat.le_refl _)⟩
end Go.Proofs.YthdhmlojihpfkaaGreat
