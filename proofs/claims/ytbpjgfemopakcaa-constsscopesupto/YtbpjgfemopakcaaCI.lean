/- Layer 6 of the program: an expression that comes to too much, and a name without a number. -/
import Derived.Test.YtbpjgfemopakcaaCH
namespace Go.Proofs.Ytbpjgfemopakcaa
open Go.RowKit Lg Go.Maps
set_option linter.unusedVariables false
set_option linter.unusedSimpArgs false

set_option maxRecDepth 100000 in
set_option maxHeartbeats 4000000 in
theorem kNumber_over {b mn ms N X K : Nat} {op a c : Int} {nm vl : ByteArray} {pl : Bool} {p : Int} {w : World} (h : Wk b mn ms (.slice none 0 0) w) (hm : w.heap[ms]? = some (.map #[] 0)) (hx : XAt X 0 op nm vl pl (.slice (some ⟨K, 0, none⟩) 2 2) p w) (hX : X < N) (hNb : N ≤ b) (hNm : N ≤ ms) (hne : b ≠ ms) (h1 : 13 ≤ op) (h2 : op ≤ 27)
    (HL0 : LeafOk b mn ms N K 0 a w) (HL1 : LeafOk b mn ms N K 6 c w) (HN : ∀ w', Below N w w' → StOver X a c p w'.heap.size w') :
    Calls Try.prog 27 #[.pointer (some ⟨b, 0, none⟩), .pointer (some ⟨X, 0, none⟩)] w fun e w' => e = .panicked (pnV p) ∧ K2 b ms w w' := by
  have HP := kLook_push h hm hx h1 h2 hne
  have hbl := kLt h
  have hml := kLt hm
  have HX : Hid _ := hx
  have H0 : Hid _ := HL0
  have H1 : Hid _ := HL1
  have HE : Hid _ := HN
  clear h hm hx HL0 HL1 HN
  go_enter Try.func27, Try.ntmps27
  go_wp2_with (first
    | (go_at_call 28; refine HP.mono ?_; rintro e w1 ⟨rfl, ⟨g, cap, hw1, hr1⟩, hs1, hk1⟩))
  go_loopw [5, 6] (fun n rd wr => Hid (K2 b ms w wr) ∧ ((n = .int .i64 0 ∧ rd = .bool false ∧ On b mn ms X w.heap.size 0 0 0 wr) ∨ (n = .int .i64 a ∧ rd = .bool true ∧ On b mn ms X w.heap.size 0 0 0 wr) ∨ (n = .int .i64 c ∧ rd = .bool true ∧ On b mn ms X w.heap.size 1 a 0 wr))) (fun n rd wr => stg b rd wr)
  case atStart =>
    exact ⟨hk1, Or.inl ⟨rfl, rfl, g, cap, hw1, hr1, hs1⟩⟩
  case round =>
    clear hw1 hr1 hs1 hk1 HP
    obtain ⟨HB, hrel⟩ := hrel
    rcases hrel with ⟨rfl, rfl, hon⟩ | ⟨rfl, rfl, hon⟩ | ⟨rfl, rfl, hon⟩
    · have hon2 : Hid _ := hon
      obtain ⟨g, cap, hw, hr, hs⟩ := hon
      obtain ⟨d0, d1, d2, df, dl⟩ := hw.at_
      obtain ⟨r0, r1, r2, r3, rf, rl, rB, rc, rm⟩ := hr.at_
      have HW : Hid _ := hw
      have HR : Hid _ := hr
      clear hw hr hs
      go_wp2
      go_region
      all_goals go_wp2_with (first
        | (go_at_call 30; refine (kNextA (w := wr.drew) HR.out (XAt.below HX.out (k2_below HB.out hNb hNm hbl).drew hX) h1).mono ?_; rintro e w2 ⟨rfl, hw2⟩; have hw3 := hw2.symm; subst hw3)
        | (go_at_call 28; refine (H0.out wr.drew _ (k2_below HB.out hNb hNm hbl).drew HW.out).mono ?_; rintro e w2 ⟨rfl, hb2⟩))
      all_goals
        have hb3 : Below wr.heap.size wr w2 := ⟨hb2.os, hb2.tape, hb2.output, hb2.size, hb2.block⟩
        have ho3 := On.k2 hon2.out hb3
        refine ⟨⟨K2.trans HB.out (K2.of hb3), Or.inr (Or.inl ⟨rfl, rfl, ho3⟩)⟩, ?_⟩
        rw [stg_t ho3, stg_f hon2.out]; decide
    · have hon2 : Hid _ := hon
      obtain ⟨g, cap, hw, hr, hs⟩ := hon
      obtain ⟨d0, d1, d2, df, dl⟩ := hw.at_
      obtain ⟨r0, r1, r2, r3, rf, rl, rB, rc, rm⟩ := hr.at_
      have HW : Hid _ := hw
      have HR : Hid _ := hr
      have HS : Hid _ := hs
      clear hw hr hs
      go_wp2
      go_region
      all_goals go_wp2_with (first
        | (go_at_call 29; refine (kTake0 (w := wr.drew) (n := a) HR.out).mono ?_; rintro e w2 ⟨rfl, hr2, hk2⟩; have hW2 : Hid (Wk b mn ms (.slice (some ⟨g, 0, none⟩) 1 cap) w2) := wk_g (w := wr.drew) HW.out hk2 (by omega); have hS2 : Hid (Seen1 ms X w2) := seen_g (w := wr.drew) HS.out hk2 (by omega); have hB2 : Hid (K2 b ms w w2) := k2_gg HB.out hk2 rB; have hR2 : Hid _ := hr2; clear hr2)
        | (go_at_call 30; refine (kNextB (w := w2) hR2.out (XAt.below HX.out (k2_below hB2.out hNb hNm hbl) hX) h1).mono ?_; rintro e w3 ⟨rfl, hw2⟩; have hw3 := hw2.symm; subst hw3)
        | (go_at_call 28; refine (H1.out w2 _ (k2_below hB2.out hNb hNm hbl) hW2.out).mono ?_; rintro e w4 ⟨rfl, hb4⟩))
      all_goals
        have ho2 : On b mn ms X w.heap.size 1 a 0 w2 := ⟨g, cap, hW2.out, hR2.out, hS2.out⟩
        have ho3 := On.k2 ho2 hb4
        have hl2 := kLt hW2.out
        refine ⟨⟨K2.trans hB2.out (K2.of hb4), Or.inr (Or.inr ⟨rfl, rfl, ho3⟩)⟩, ?_⟩
        rw [stg_t ho3, stg_t hon2.out]; decide
    · have hon2 : Hid _ := hon
      obtain ⟨g, cap, hw, hr, hs⟩ := hon
      obtain ⟨d0, d1, d2, df, dl⟩ := hw.at_
      obtain ⟨r0, r1, r2, r3, rf, rl, rB, rc, rm⟩ := hr.at_
      have HW : Hid _ := hw
      have HR : Hid _ := hr
      have HS : Hid _ := hs
      clear hw hr hs
      go_wp2
      go_region
      all_goals go_wp2_with (first
        | (go_at_call 29; refine (kTake1 (w := wr.drew) (n := c) HR.out).mono ?_; rintro e w2 ⟨rfl, hr2, hk2⟩; have hW2 : Hid (Wk b mn ms (.slice (some ⟨g, 0, none⟩) 1 cap) w2) := wk_g (w := wr.drew) HW.out hk2 (by omega); have hS2 : Hid (Seen1 ms X w2) := seen_g (w := wr.drew) HS.out hk2 (by omega); have hB2 : Hid (K2 b ms w w2) := k2_gg HB.out hk2 rB; have hR2 : Hid _ := hr2; clear hr2)
        | (go_at_call 30; refine (kNext2 (w := w2) hR2.out (XAt.below HX.out (k2_below hB2.out hNb hNm hbl) hX) h1).mono ?_; rintro e w3 ⟨rfl, hw2⟩; have hw3 := hw2.symm; subst hw3)
        | (go_at_call 31; refine (kEnd_over (ms := ms) hW2.out hR2.out (HE.out w2 (k2_below hB2.out hNb hNm hbl))).mono ?_; rintro e w4 ⟨rfl, hk4⟩))
      all_goals
        have hl2 := kLt hW2.out
        exact ⟨rfl, rfl, K2.trans hB2.out hk4⟩
set_option maxRecDepth 100000 in
set_option maxHeartbeats 4000000 in
theorem kNumber_no {b ms X : Nat} {p : Int} {w : World} (HL : Calls Try.prog 28 #[.pointer (some ⟨b, 0, none⟩), .pointer (some ⟨X, 0, none⟩)] w fun e w'' => e = .panicked (pnU p) ∧ Below w.heap.size w w'') :
    Calls Try.prog 27 #[.pointer (some ⟨b, 0, none⟩), .pointer (some ⟨X, 0, none⟩)] w fun e w' => e = .panicked (pnU p) ∧ K2 b ms w w' := by
  go_enter Try.func27, Try.ntmps27
  go_wp2_with (first
    | (go_at_call 28; refine HL.mono ?_; rintro e w1 ⟨rfl, hb1⟩))
  exact ⟨rfl, rfl, K2.of hb1⟩
end Go.Proofs.Ytbpjgfemopakcaa
