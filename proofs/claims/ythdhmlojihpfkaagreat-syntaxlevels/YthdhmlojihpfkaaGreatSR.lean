/- Layer 4 of the program: a port without a range. -/
import Derived.Test.YthdhmlojihpfkaaGreatSQ
namespace Go.Proofs.YthdhmlojihpfkaaGreat
open Go.RowKit Lg
set_option linter.unusedVariables false
set_option linter.unusedSimpArgs false

set_option maxRecDepth 100000 in
set_option maxHeartbeats 4000000 in
theorem pPortI {b g cap k : Nat} {l : List Tok} {w : World} (h : St b g cap l k w) (hi : fx l k = [105, 110, 112, 117, 116]) (h91 : fx l (k + 1) ≠ [91]) (hn : nmB (tk l (k + 1)) = true) :
    Calls Tryz.prog 72 #[.pointer (some ⟨b, 0, none⟩)] w fun e w' => e = .returned (.agg (poC (.bool false) (.bool false) (.string (S (tk l (k + 1)).x)) (.int .i64 (tk l k).p))) ∧ St b g cap l (k + 1 + 1) w' ∧ Kp b w w' := by
  have HH := fun w' (hb : Below w.heap.size w w') => pHere (h.below hb)
  have HT := fun w' (hb : Below w.heap.size w w') => pTakesY (h.below hb) ⟨#[105, 110, 112, 117, 116]⟩ hi (by decide)
  have HS := fun w' (h : St b g cap l (k + 1) w') => pSpanN h h91
  have HN := fun w' (h : St b g cap l (k + 1) w') => pNameY h hn
  have HX : Hid _ := h
  obtain ⟨nm, hnm⟩ : ∃ nm, nm = S (tk l (k + 1)).x := ⟨_, rfl⟩
  rw [← hnm] at HN ⊢
  obtain ⟨⟨kk, tx, p⟩, ht⟩ : ∃ t, t = tk l k := ⟨_, rfl⟩
  rw [← ht] at HH ⊢
  unfold tkV at HH
  simp only at HH ⊢
  obtain ⟨sx, hsx⟩ : ∃ sx, sx = S tx := ⟨_, rfl⟩
  rw [← hsx] at HH
  have hf2 := fld2
  have hbl := HX.out.blt
  have hgl := HX.out.lt
  clear h hi h91 hn ht hsx hnm
  go_enter Tryz.func72, Tryz.ntmps72
  go_wp2_with (first
    | (go_at_call 53; refine (HH _ bxS).mono ?_; rintro e w1 ⟨rfl, hb1⟩; have z1 : w.heap.size + 1 ≤ w1.heap.size := by { have := hb1.size; simpa using this })
    | (refine wpl_build rfl 67 _ rfl #[(6, .int .i64 p)] (by kernel_rfl) _ (build_port _ _) ?_)
    | (refine wpl_storeN rfl 67 _ _ rfl _ rfl rfl (poC (.bool false) (.bool false) (.string ⟨#[]⟩) (.int .i64 p)) rfl _ _ port_size rfl (poC_one _ _ _ _) ?_)
    | (go_at_call 67; refine (HT _ (bel bxS (bel hb1 bxS))).mono ?_; rintro e w2 ⟨rfl, hs2, hk2⟩; have hP2 : PAt w2 w1.heap.size _ _ _ _ := ⟨(hk2.block w1.heap.size (by simp) (by omega)).trans (heap_alloc_last _ _)⟩)
    | (go_at_call 88; refine (HS _ hs2).mono ?_; rintro e w3 ⟨rfl, hb3⟩; have hP3 := hP2.keep (Kp.of (b := b) hb3) (by omega))
    | (refine wpl_storeO rfl 4 _ _ rfl w1.heap.size 2 rfl _ rfl _ _ hP3.blk bool_size (Nat.le_of_ble_eq_true rfl) (one_bool _) (poC (.bool false) (.bool false) (.string ⟨#[]⟩) (.int .i64 p)) (by kernel_rfl) ?_; intro w5 ho5 hg5)
    | (refine wpl_storeO rfl 47 _ _ rfl w1.heap.size 3 rfl _ rfl _ _ hg5 expr_size (Nat.le_of_ble_eq_true rfl) zE_one (poC (.bool false) (.bool false) (.string ⟨#[]⟩) (.int .i64 p)) (by kernel_rfl) ?_; intro w6 ho6 hg6)
    | (refine wpl_storeO rfl 47 _ _ rfl w1.heap.size 9 rfl _ rfl _ _ hg6 expr_size (Nat.le_of_ble_eq_true rfl) zE_one (poC (.bool false) (.bool false) (.string ⟨#[]⟩) (.int .i64 p)) (by kernel_rfl) ?_; intro w7 ho7 hg7)
    | (go_at_call 66; refine (HN _ ((((hs2.below hb3).oth ho5 (by omega) (by omega)).oth ho6 (by omega) (by omega)).oth ho7 (by omega) (by omega))).mono ?_; rintro e w8 ⟨rfl, hs8, hk8⟩; have hP8 : PAt w8 w1.heap.size _ _ _ _ := PAt.keep ⟨hg7⟩ hk8 (by omega))
    | (refine wpl_storeO rfl 9 _ _ rfl w1.heap.size 15 rfl _ rfl _ _ hP8.blk string_size (Nat.le_of_ble_eq_true rfl) (one_string _) (poC (.bool false) (.bool false) (.string nm) (.int .i64 p)) (by kernel_rfl) ?_; intro w9 ho9 hg9; have hKK : ∀ w', Kp b w' w1 → w'.heap.size ≤ w1.heap.size → Kp b w' w9 := fun w' h hz => (((((((h.trans (Kp.of bxS)).trans hk2).trans (Kp.of hb3)).oth ho5 hz).oth ho6 hz).oth ho7 hz).trans hk8).oth ho9 hz; have hB : w9.heap[w.heap.size]? = _ := ((hKK _ (Kp.of hb1) (by simp; omega)).block w.heap.size (by simp) (by omega)).trans (heap_alloc_last _ _))
    | (refine wpl_load rfl 67 _ rfl _ rfl _ _ _ hg9 Tryz.underlying67 rfl port_size ?_)
    | (refine wpl_store rfl 67 _ _ rfl _ rfl _ rfl _ _ hB port_size rfl (poC_one _ _ _ _) ?_))
  refine bodyPost_ret (results_cell (r := 2) (t := 67) rfl w.heap.size rfl _ _ _ (setRow_at hB) Tryz.underlying67 rfl port_size) rfl ?_
  exact ⟨rfl, (hs8.oth ho9 (by omega) (by omega)).row (by omega) (by omega), (hKK w (Kp.of (bel bxS hb1)) (by omega)).row (Nat.le_refl _)⟩
end Go.Proofs.YthdhmlojihpfkaaGreat
