/- PartRuns, PartChecks. -/
import Derived.Test.YtkgonnnpoldcoaaRP
import Derived.Test.YtkgonnnpoldcoaaRM
import Derived.Test.YtkgonnnpoldcoaaKLm
namespace Go.Proofs.Ytkgonnnpoldcoaa
open Go.RowKit Lg Nl Go.Maps
set_option linter.unusedVariables false
set_option linter.unusedSimpArgs false
set_option maxRecDepth 100000

/-- a netlist that was made -/
structure Nm (l : List Nd) (nets : List Int) (vN vT : Value) (w : World) : Prop where
  n : NdsAt w vN l
  t : IntsAt w vT nets
  f : Fits l nets
  m : mayN l nets (nets.length : Nat) = true
  k : Mk l
  l : l.length ≤ 122
theorem Nm.below {l : List Nd} {nets : List Int} {vN vT : Value} {w w' : World} (h : Nm l nets vN vT w) (hb : Below w.heap.size w w') : Nm l nets vN vT w' := ⟨h.n.below hb, h.t.below hb, h.f, h.m, h.k, h.l⟩
theorem made13 (vG : Value) (m : Nat) (F : Nat → Nat → Int) (hM : MadeC) (w : World) (hG : GsAt w w.heap.size vG m F) (hm : m ≤ 17592186044416) :
    Calls Try.prog 8 #[vG] w fun e w' => ∃ (l : List Nd) (nets : List Int) (na ta : Option Addr) (nc tc : Nat), e = .returned (.agg #[.slice na l.length nc, .slice ta nets.length tc, .int .i64 (nets.length : Nat)]) ∧ Hid (Nm l nets (.slice na l.length nc) (.slice ta nets.length tc) w') ∧ Below w.heap.size w w' :=
  (hM vG m F w hG hm).mono fun e w' hh => by
    obtain ⟨l, nets, vN, vT, rfl, h1, h2, h3, h4, h5, h6⟩ := hh
    obtain ⟨na, nc, rfl, _⟩ := id h1.out
    obtain ⟨ta, tc, rfl, _⟩ := id h2.out
    exact ⟨l, nets, na, ta, nc, tc, rfl, ⟨h1.out, h2.out, may_fits h5.out (by have := h4.out.2; omega), h5.out, h3.out, h4.out.1⟩, h6⟩
/-- Run of what was made, the number being one that may be -/
theorem run13 {l : List Nd} {nets : List Int} {vN vT : Value} {w : World} (h : Nm l nets vN vT w) (n : Int) (h1 : 1 ≤ n) (h2 : n ≤ 64) :
    Calls Try.prog 9 #[.agg #[vN, vT, .int .i64 (nets.length : Nat)], .int .i64 n] w fun e w' => ∃ (c O M : Nat) (R : Nat → Nat) (of : Nat → Int), e = .returned (.tuple #[.agg #[.slice (some ⟨O, 0, none⟩) l.length l.length, .int .i64 (c : Int), .slice (some ⟨M, 0, none⟩) c c], .int .i64 0]) ∧ (c : Int) ≤ n ∧ Hid (Pw w.heap.size l.length c O M R of (fun i k => aheadN l (rowL l.length of) i k) w') ∧ Hid (PtsOk l (rowL l.length of) (c : Int) (aheadL l (rowL l.length of) c)) ∧ Below w.heap.size w w' := by
  refine (pRun_c l nets n vN vT (nets.length : Nat) w h.n h.t h.f (by have := h.l; omega)).mono ?_
  rintro e w' ⟨hP, hb⟩
  rcases hP with ⟨hc, _⟩ | ⟨_, ⟨p, hp⟩, _⟩ | ⟨_, _, c, O, M, R, of, rfl, hc, hw, hk⟩
  · rcases hc with hc | hc | hc | hc
    · omega
    · omega
    · have := h.k.two; omega
    · rw [h.m] at hc; cases hc
  · obtain ⟨f, _, hf⟩ := h.k.levels (may_ok h.m)
    exact (lev_ring (may_ok h.m) hf hp).elim
  · exact ⟨c, O, M, R, of, rfl, hc, hw, hk, hb⟩
theorem run13_bad {l : List Nd} {nets : List Int} {vN vT : Value} {w : World} (h : Nm l nets vN vT w) (n : Int) (h1 : n < 1 ∨ 64 < n) :
    Calls Try.prog 9 #[.agg #[vN, vT, .int .i64 (nets.length : Nat)], .int .i64 n] w fun e w' => e = .returned (.tuple #[.agg #[.slice none 0 0, .int .i64 0, .slice none 0 0], .int .i64 1]) ∧ Below w.heap.size w w' := by
  refine (pRun_c l nets n vN vT (nets.length : Nat) w h.n h.t h.f (by have := h.l; omega)).mono ?_
  rintro e w' ⟨hP, hb⟩
  rcases hP with ⟨_, h⟩ | ⟨h, _⟩ | ⟨h, _⟩
  · exact ⟨h, hb⟩
  · omega
  · omega
theorem may13 {l : List Nd} {nets : List Int} {vN vT : Value} {w : World} (h : Nm l nets vN vT w) (pt N : Int) {of : List Int} {ah : List (List Int)} {vO vA : Value} (hO : IntsAt w vO of) (hA : RowsAt w vA ah) :
    Calls Try.prog 11 #[.agg #[vN, vT, .int .i64 pt], .agg #[vO, .int .i64 N, vA]] w fun e w' => RetB (PtsOk l of N ah) e ∧ Below w.heap.size w w' :=
  lMay_c l of ah N vN vT vO vA pt w h.n h.t.shape hO hA (may_okd h.m)
theorem check13 {l : List Nd} {nets : List Int} {vN vT : Value} {w : World} (h : Nm l nets vN vT w) (N : Int) {of : List Int} {ah : List (List Int)} {vO vA : Value} (hO : IntsAt w vO of) (hA : RowsAt w vA ah) :
    Calls Try.prog 12 #[.agg #[vN, vT, .int .i64 (nets.length : Nat)], .agg #[vO, .int .i64 N, vA]] w fun e w' => RetE (PtsOk l of N ah) e ∧ Below w.heap.size w w' :=
  (pCheck_c l nets of ah N vN vT vO vA (nets.length : Nat) w h.n h.t h.f hO hA).mono fun e w' hh => by
    obtain ⟨hP, hb⟩ := hh
    rcases hP with ⟨a, b⟩ | ⟨a, b⟩
    · exact ⟨Or.inl ⟨a.2, b⟩, hb⟩
    · exact ⟨Or.inr ⟨fun h' => a ⟨h.m, h'⟩, b⟩, hb⟩
theorem Pw.rows {B n c O M : Nat} {R : Nat → Nat} {l : List Nd} {of : Nat → Int} {W : World} (h : Pw B n c O M R of (fun i k => aheadN l (rowL n of) i k) W) : RowsAt W (.slice (some ⟨M, 0, none⟩) c c) (aheadL l (rowL n of) c) := h.x.rows
set_option maxHeartbeats 4000000 in
theorem PartRuns_c (hM : MadeC) (vG : Value) (m : Nat) (F : Nat → Nat → Int) (n : Int) (w : World) (hG : GsAt w w.heap.size vG m F) (hm : m ≤ 17592186044416) :
    Calls Try.prog 3 #[vG, .int .i64 n] w fun e w' => e = .returned (.bool true) ∧ Below w.heap.size w w' := by
  have HMd := made13 vG m F hM w hG hm
  obtain ⟨ga, gm, gc, rfl⟩ : ∃ a b c, vG = .slice a b c := by obtain ⟨a, c, e, _⟩ := hG; exact ⟨_, _, _, e⟩
  clear hG hM
  go_enter Try.func3, Try.ntmps3
  go_wp2_with fail
  refine HMd.mono ?_
  rintro e w1 ⟨l, nets, na, ta, nc, tc, rfl, HN, hb1⟩
  have HB1 : Hid (Below w.heap.size w w1) := hb1
  clear HMd hb1
  obtain ⟨ln, hln⟩ : ∃ ln, ln = l.length := ⟨_, rfl⟩
  obtain ⟨lt, hlt⟩ : ∃ lt, lt = nets.length := ⟨_, rfl⟩
  have HLN : Hid (ln = l.length) := hln
  have HLT : Hid (lt = nets.length) := hlt
  rw [← hln, ← hlt] at HN ⊢
  clear hln hlt
  go_wp2_with fail
  refine gen_calls (fun W => W.heap[w1.heap.size]? = some (.cells #[.slice na ln nc, .slice ta lt tc, .int .i64 (lt : Nat)] 26 (0, 0)) ∧ Below w1.heap.size w1 W) ⟨alAt rfl, belA (Below.refl _ _) _⟩ ?_
  rintro W2 ⟨hX2, hB2⟩
  have HX2 : Hid (W2.heap[w1.heap.size]? = some (.cells #[.slice na ln nc, .slice ta lt tc, .int .i64 (lt : Nat)] 26 (0, 0))) := hX2
  have HB2 : Hid (Below w.heap.size w W2) := bel HB1.out hB2
  have HN2 : Hid (Nm l nets (.slice na ln nc) (.slice ta lt tc) W2) := HN.out.below hB2
  generalize w1.heap.size = X at HX2 ⊢
  clear hX2 hB2 HN HB1
  by_cases hn : n < 1 ∨ 64 < n
  · have HR := run13_bad HN2.out n hn
    rw [← HLT.out] at HR
    refine HR.mono ?_
    rintro e w3 ⟨rfl, hb3⟩
    have HB3 : Hid (Below w.heap.size w w3) := bel HB2.out hb3
    clear HR hb3
    have HAw : Hid (∀ W, Calls Try.prog 10 #[] W fun e w' => e = .returned (.bool true) ∧ Below W.heap.size W w') := awake13
    rcases (by omega : n < 1 ∨ (¬ n < 1 ∧ 64 < n)) with h1 | ⟨h1, h64⟩
    · clear hn
      go_wp2_with (first | (go_at_call 10; refine (HAw.out _).mono ?_; rintro e w4 ⟨rfl, hb4⟩))
      go_ret
      exact ⟨rfl, bel (belA HB3.out _) hb4⟩
    · have h1' : decide (n < 1) = false := by simp; omega
      clear hn h1
      go_wp2_with (first | (go_at_call 10; refine (HAw.out _).mono ?_; rintro e w4 ⟨rfl, hb4⟩))
      go_ret
      exact ⟨rfl, bel (belA HB3.out _) hb4⟩
  · have h1 : decide (n < 1) = false := by simp; omega
    have h64 : decide (64 < n) = false := by simp; omega
    have HR := run13 HN2.out n (by omega) (by omega)
    rw [← HLT.out, ← HLN.out] at HR
    refine HR.mono ?_
    rintro e w3 ⟨c, O, M, R, of, rfl, hcn, HPw, HOk, hb3⟩
    have HB3 : Hid (Below w.heap.size w w3) := bel HB2.out hb3
    have hX3 := (hb3.block X (hLt HX2.out)).trans HX2.out
    obtain ⟨a0, a1, a2⟩ := cells3n hX3
    have lX := hLt hX3
    have HX3 : Hid (w3.heap[X]? = some (.cells #[.slice na ln nc, .slice ta lt tc, .int .i64 (lt : Nat)] 26 (0, 0))) := hX3
    have HN3 : Hid (Nm l nets (.slice na ln nc) (.slice ta lt tc) w3) := HN2.out.below hb3
    clear HR hb3 hX3 hn
    go_wp2_with fail
    refine gen_calls (fun W => W.heap[w3.heap.size]? = some (.cells #[.slice (some ⟨O, 0, none⟩) ln ln, .int .i64 (c : Int), .slice (some ⟨M, 0, none⟩) c c] 30 (0, 0)) ∧ Below w3.heap.size w3 W) ⟨alAt rfl, belA (Below.refl _ _) _⟩ ?_
    rintro W4 ⟨hY4, hB4⟩
    have HX4 : Hid (W4.heap[X]? = some (.cells #[.slice na ln nc, .slice ta lt tc, .int .i64 (lt : Nat)] 26 (0, 0))) := (hB4.block X lX).trans HX3.out
    have HY4 : Hid (W4.heap[w3.heap.size]? = some (.cells #[.slice (some ⟨O, 0, none⟩) ln ln, .int .i64 (c : Int), .slice (some ⟨M, 0, none⟩) c c] 30 (0, 0))) := hY4
    have HB4 : Hid (Below w.heap.size w W4) := bel HB3.out hB4
    have HN4 : Hid (Nm l nets (.slice na ln nc) (.slice ta lt tc) W4) := HN3.out.below hB4
    have HO4 : Hid (IntsAt W4 (.slice (some ⟨O, 0, none⟩) ln ln) (rowL ln of)) := HPw.out.ints.below hB4
    have HA4 : Hid (RowsAt W4 (.slice (some ⟨M, 0, none⟩) c c) (aheadL l (rowL ln of) c)) := HPw.out.rows.below hB4
    generalize w3.heap.size = Y at HY4 ⊢
    clear hY4 hB4 a0 a1 a2 lX HX3 HN3 HPw HX2 HN2
    have HMy := may13 HN4.out (lt : Nat) (c : Int) HO4.out HA4.out
    refine HMy.mono ?_
    rintro e w5 ⟨hr5, hb5⟩
    have e5 := hr5.t HOk.out
    subst e5
    obtain ⟨a0, a1, a2⟩ := cells3n ((hb5.block X (hLt HX4.out)).trans HX4.out)
    obtain ⟨b0, b1, b2⟩ := cells3n ((hb5.block Y (hLt HY4.out)).trans HY4.out)
    have lX := Nat.lt_of_lt_of_le (hLt HX4.out) hb5.size
    have lY := Nat.lt_of_lt_of_le (hLt HY4.out) hb5.size
    have HCk := check13 (HN4.out.below hb5) (c : Int) (HO4.out.below hb5) (HA4.out.below hb5)
    rw [← HLT.out] at HCk
    have HC : Hid (Calls Try.prog 12 #[.agg #[.slice na ln nc, .slice ta lt tc, .int .i64 (lt : Nat)], .agg #[.slice (some ⟨O, 0, none⟩) ln ln, .int .i64 (c : Int), .slice (some ⟨M, 0, none⟩) c c]] w5 fun e w' => e = .returned (.int .i64 0) ∧ Below w5.heap.size w5 w') := HCk.mono fun e w' hh => by
      obtain ⟨hP, hb⟩ := hh
      rcases hP with ⟨_, h⟩ | ⟨h, _⟩
      · exact ⟨h, hb⟩
      · exact absurd HOk.out h
    have HAw : Hid (∀ W, Calls Try.prog 10 #[] W fun e w' => e = .returned (.bool true) ∧ Below W.heap.size W w') := awake13
    clear HMy hr5 HCk
    go_wp2_with (first
      | (go_at_call 12; refine HC.out.mono ?_; rintro e w6 ⟨rfl, hb6⟩)
      | (go_at_call 10; refine (HAw.out _).mono ?_; rintro e w7 ⟨rfl, hb7⟩))
    go_ret
    exact ⟨rfl, bel HB4.out (bel (bel hb5 hb6) hb7)⟩
end Go.Proofs.Ytkgonnnpoldcoaa
