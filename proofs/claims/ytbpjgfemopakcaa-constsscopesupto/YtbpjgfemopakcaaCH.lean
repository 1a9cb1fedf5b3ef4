/- Layer 6 of the program: an expression of two parts is gone over. -/
import Derived.Test.YtbpjgfemopakcaaCG
namespace Go.Proofs.Ytbpjgfemopakcaa
open Go.RowKit Lg Go.Maps
set_option linter.unusedVariables false
set_option linter.unusedSimpArgs false

/-- how many rounds are still to come -/
def stg (b : Nat) (rd : Value) (wr : World) : Nat :=
  match wr.cell? ⟨b, 1, none⟩ with
  | some (.slice (some a) (_ + 1) _) => (match rd with
    | .bool true => (match wr.cell? ⟨a.block, 1, none⟩ with
      | some (.int _ c) => 2 - c.toNat
      | _ => 0)
    | _ => 3)
  | _ => 0
/-- one step is on the way -/
def On (b mn ms X B : Nat) (c n0 n1 : Int) (w : World) : Prop := ∃ g cap, Wk b mn ms (.slice (some ⟨g, 0, none⟩) 1 cap) w ∧ Row1 B g cap X c n0 n1 w ∧ Seen1 ms X w
theorem stg_f {b mn ms X B : Nat} {c n0 n1 : Int} {w : World} (h : On b mn ms X B c n0 n1 w) : stg b (.bool false) w = 3 := by
  obtain ⟨g, cap, h1, h2, _⟩ := h
  unfold stg; rw [h1.at_.2.1]
theorem stg_t {b mn ms X B : Nat} {c n0 n1 : Int} {w : World} (h : On b mn ms X B c n0 n1 w) : stg b (.bool true) w = 2 - c.toNat := by
  obtain ⟨g, cap, h1, h2, _⟩ := h
  unfold stg; rw [h1.at_.2.1]; simp only; rw [h2.at_.2.1]
theorem stg_d {b mn ms g cap : Nat} {w : World} (h : Wk b mn ms (.slice (some ⟨g, 0, none⟩) 0 cap) w) (rd : Value) : stg b rd w = 0 := by
  unfold stg; rw [h.at_.2.1]
theorem On.k2 {b mn ms X B : Nat} {c n0 n1 : Int} {w w' : World} (h : On b mn ms X B c n0 n1 w) (hk : Below w.heap.size w w') : On b mn ms X B c n0 n1 w' := by
  obtain ⟨g, cap, h1, h2, h3⟩ := h
  exact ⟨g, cap, (hk.block b (kLt h1)).trans h1, h2.k2 (a := w.heap.size) (b := w.heap.size) (K2.of hk) (by have := h2.at_.2.2.2.2.2.1; omega) (by have := h2.at_.2.2.2.2.2.1; omega), (hk.block ms (kLt h3)).trans h3⟩
/-- a part has a number -/
def LeafOk (b mn ms N K o : Nat) (k : Int) (w : World) : Prop := ∀ w' v, Below N w w' → Wk b mn ms v w' → Calls Try.prog 28 #[.pointer (some ⟨b, 0, none⟩), .pointer (some ⟨K, o, none⟩)] w' fun e w'' => e = .returned (.tuple #[.int .i64 k, .bool true]) ∧ Below w'.heap.size w' w''
theorem wk_g {b mn ms g : Nat} {v : Value} {w w' : World} (h : Wk b mn ms v w) (hk : K2 g g w w') (hne : b ≠ g) : Wk b mn ms v w' := (hk.block b (kLt h) hne hne).trans h
theorem seen_g {ms X g : Nat} {w w' : World} (h : Seen1 ms X w) (hk : K2 g g w w') (hne : ms ≠ g) : Seen1 ms X w' := (hk.block ms (kLt h) hne hne).trans h
theorem k2_below {b ms N : Nat} {w w' : World} (h : K2 b ms w w') (h1 : N ≤ b) (h2 : N ≤ ms) (h3 : b < w.heap.size) : Below N w w' := h.below h1 h2 (by omega)
theorem k2_gg {b ms g : Nat} {w wr w2 : World} (h : K2 b ms w wr) (hk : K2 g g wr.drew w2) (hg : w.heap.size ≤ g) : K2 b ms w w2 :=
  ⟨hk.os.trans h.os, hk.tape.trans h.tape, hk.output.trans h.output, Nat.le_trans h.size hk.size, fun k hk1 h1 h2 => (hk.block k (Nat.lt_of_lt_of_le hk1 h.size) (by omega) (by omega)).trans (h.block k hk1 h1 h2)⟩
theorem kNextA {B g cap X K : Nat} {n0 n1 op : Int} {nm vl : ByteArray} {pl : Bool} {p : Int} {w : World} (h : Row1 B g cap X 0 n0 n1 w) (hx : XAt X 0 op nm vl pl (.slice (some ⟨K, 0, none⟩) 2 2) p w) (h1 : 13 ≤ op) :
    Calls Try.prog 30 #[.pointer (some ⟨g, 0, none⟩)] w fun e w' => e = .returned (.pointer (some ⟨K, 0, none⟩)) ∧ w' = w := kNext 0 (by omega) h hx h1
theorem kNextB {B g cap X K : Nat} {n0 n1 op : Int} {nm vl : ByteArray} {pl : Bool} {p : Int} {w : World} (h : Row1 B g cap X 1 n0 n1 w) (hx : XAt X 0 op nm vl pl (.slice (some ⟨K, 0, none⟩) 2 2) p w) (h1 : 13 ≤ op) :
    Calls Try.prog 30 #[.pointer (some ⟨g, 0, none⟩)] w fun e w' => e = .returned (.pointer (some ⟨K, 6, none⟩)) ∧ w' = w := kNext 1 (by omega) h hx h1
set_option maxRecDepth 100000 in
set_option maxHeartbeats 4000000 in
theorem kNumber_ok {b mn ms N X K : Nat} {op a c r : Int} {nm vl : ByteArray} {pl : Bool} {p : Int} {w : World} (h : Wk b mn ms (.slice none 0 0) w) (hm : w.heap[ms]? = some (.map #[] 0)) (hx : XAt X 0 op nm vl pl (.slice (some ⟨K, 0, none⟩) 2 2) p w) (hX : X < N) (hNb : N ≤ b) (hNm : N ≤ ms) (hne : b ≠ ms) (h1 : 13 ≤ op) (h2 : op ≤ 27)
    (HL0 : LeafOk b mn ms N K 0 a w) (HL1 : LeafOk b mn ms N K 6 c w) (HN : ∀ w', Below N w w' → StEnd X a c r w'.heap.size w') :
    Calls Try.prog 27 #[.pointer (some ⟨b, 0, none⟩), .pointer (some ⟨X, 0, none⟩)] w fun e w' => e = .returned (.int .i64 r) ∧ K2 b ms w w' := by
  have HP := kLook_push h hm hx h1 h2 hne
  have hbl := kLt h
  have hml := kLt hm
  have HX : Hid _ := hx
  have H0 : Hid _ := HL0
  have H1 : Hid _ := HL1
  have HE : Hid _ := HN
  clear h hm hx HL0 HL1 HN
  go_enter Try.func27, Try.ntmps27
  go_wp2_with (first
    | (go_at_call 28; refine HP.mono ?_; rintro e w1 ⟨rfl, ⟨g, cap, hw1, hr1⟩, hs1, hk1⟩))
  go_loopw [5, 6] (fun n rd wr => Hid (K2 b ms w wr) ∧ ((n = .int .i64 0 ∧ rd = .bool false ∧ On b mn ms X w.heap.size 0 0 0 wr) ∨ (n = .int .i64 a ∧ rd = .bool true ∧ On b mn ms X w.heap.size 0 0 0 wr) ∨ (n = .int .i64 c ∧ rd = .bool true ∧ On b mn ms X w.heap.size 1 a 0 wr) ∨ (n = .int .i64 r ∧ rd = .bool true ∧ ∃ g cap, Wk b mn ms (.slice (some ⟨g, 0, none⟩) 0 cap) wr))) (fun n rd wr => stg b rd wr)
  case atStart =>
    exact ⟨hk1, Or.inl ⟨rfl, rfl, g, cap, hw1, hr1, hs1⟩⟩
  case round =>
    clear hw1 hr1 hs1 hk1 HP
    obtain ⟨HB, hrel⟩ := hrel
    rcases hrel with ⟨rfl, rfl, hon⟩ | ⟨rfl, rfl, hon⟩ | ⟨rfl, rfl, hon⟩ | ⟨rfl, rfl, g2, cap2, hon⟩
    · have hon2 : Hid _ := hon
      obtain ⟨g, cap, hw, hr, hs⟩ := hon
      obtain ⟨d0, d1, d2, df, dl⟩ := hw.at_
      obtain ⟨r0, r1, r2, r3, rf, rl, rB, rc, rm⟩ := hr.at_
      have HW : Hid _ := hw
      have HR : Hid _ := hr
      clear hw hr hs
      go_wp2
      go_region
      all_goals go_wp2_with (first
        | (go_at_call 30; refine (kNextA (w := wr.drew) HR.out (XAt.below HX.out (k2_below HB.out hNb hNm hbl).drew hX) h1).mono ?_; rintro e w2 ⟨rfl, hw2⟩; have hw3 := hw2.symm; subst hw3)
        | (go_at_call 28; refine (H0.out wr.drew _ (k2_below HB.out hNb hNm hbl).drew HW.out).mono ?_; rintro e w2 ⟨rfl, hb2⟩))
      all_goals
        have hb3 : Below wr.heap.size wr w2 := ⟨hb2.os, hb2.tape, hb2.output, hb2.size, hb2.block⟩
        have ho3 := On.k2 hon2.out hb3
        refine ⟨⟨K2.trans HB.out (K2.of hb3), Or.inr (Or.inl ⟨rfl, rfl, ho3⟩)⟩, ?_⟩
        rw [stg_t ho3, stg_f hon2.out]; decide
    · have hon2 : Hid _ := hon
      obtain ⟨g, cap, hw, hr, hs⟩ := hon
      obtain ⟨d0, d1, d2, df, dl⟩ := hw.at_
      obtain ⟨r0, r1, r2, r3, rf, rl, rB, rc, rm⟩ := hr.at_
      have HW : Hid _ := hw
      have HR : Hid _ := hr
      have HS : Hid _ := hs
      clear hw hr hs
      go_wp2
      go_region
      all_goals go_wp2_with (first
        | (go_at_call 29; refine (kTake0 (w := wr.drew) (n := a) HR.out).mono ?_; rintro e w2 ⟨rfl, hr2, hk2⟩; have hW2 : Hid (Wk b mn ms (.slice (some ⟨g, 0, none⟩) 1 cap) w2) := wk_g (w := wr.drew) HW.out hk2 (by omega); have hS2 : Hid (Seen1 ms X w2) := seen_g (w := wr.drew) HS.out hk2 (by omega); have hB2 : Hid (K2 b ms w w2) := k2_gg HB.out hk2 rB; have hR2 : Hid _ := hr2; clear hr2)
        | (go_at_call 30; refine (kNextB (w := w2) hR2.out (XAt.below HX.out (k2_below hB2.out hNb hNm hbl) hX) h1).mono ?_; rintro e w3 ⟨rfl, hw2⟩; have hw3 := hw2.symm; subst hw3)
        | (go_at_call 28; refine (H1.out w2 _ (k2_below hB2.out hNb hNm hbl) hW2.out).mono ?_; rintro e w4 ⟨rfl, hb4⟩))
      all_goals
        have ho2 : On b mn ms X w.heap.size 1 a 0 w2 := ⟨g, cap, hW2.out, hR2.out, hS2.out⟩
        have ho3 := On.k2 ho2 hb4
        have hl2 := kLt hW2.out
        refine ⟨⟨K2.trans hB2.out (K2.of hb4), Or.inr (Or.inr (Or.inl ⟨rfl, rfl, ho3⟩))⟩, ?_⟩
        rw [stg_t ho3, stg_t hon2.out]; decide
    · have hon2 : Hid _ := hon
      obtain ⟨g, cap, hw, hr, hs⟩ := hon
      obtain ⟨d0, d1, d2, df, dl⟩ := hw.at_
      obtain ⟨r0, r1, r2, r3, rf, rl, rB, rc, rm⟩ := hr.at_
      have HW : Hid _ := hw
      have HR : Hid _ := hr
      have HS : Hid _ := hs
      clear hw hr hs
      go_wp2
      go_region
      all_goals go_wp2_with (first
        | (go_at_call 29; refine (kTake1 (w := wr.drew) (n := c) HR.out).mono ?_; rintro e w2 ⟨rfl, hr2, hk2⟩; have hW2 : Hid (Wk b mn ms (.slice (some ⟨g, 0, none⟩) 1 cap) w2) := wk_g (w := wr.drew) HW.out hk2 (by omega); have hS2 : Hid (Seen1 ms X w2) := seen_g (w := wr.drew) HS.out hk2 (by omega); have hB2 : Hid (K2 b ms w w2) := k2_gg HB.out hk2 rB; have hR2 : Hid _ := hr2; clear hr2)
        | (go_at_call 30; refine (kNext2 (w := w2) hR2.out (XAt.below HX.out (k2_below hB2.out hNb hNm hbl) hX) h1).mono ?_; rintro e w3 ⟨rfl, hw2⟩; have hw3 := hw2.symm; subst hw3)
        | (go_at_call 31; refine (kEnd_ok hW2.out hR2.out hS2.out hne (HE.out w2 (k2_below hB2.out hNb hNm hbl))).mono ?_; rintro e w4 ⟨rfl, hw4, hk4⟩))
      all_goals
        have hl2 := kLt hW2.out
        refine ⟨⟨K2.trans hB2.out hk4, Or.inr (Or.inr (Or.inr ⟨rfl, rfl, g, cap, hw4⟩))⟩, ?_⟩
        rw [stg_d hw4, stg_t hon2.out]; decide
    · obtain ⟨d0, d1, d2, df, dl⟩ := hon.at_
      go_wp2
      go_ret
      exact ⟨rfl, HB⟩
end Go.Proofs.Ytbpjgfemopakcaa
