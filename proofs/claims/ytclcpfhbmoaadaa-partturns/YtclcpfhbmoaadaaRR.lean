/- PartChecks. -/
import Derived.Test.YtclcpfhbmoaadaaRQ
namespace Go.Proofs.Ytclcpfhbmoaadaa
open Go.RowKit Lg Nl Go.Maps
set_option linter.unusedVariables false
set_option linter.unusedSimpArgs false
set_option maxRecDepth 100000

theorem gsUp13 {w W : World} {m : Nat} {v : Value} {F : Nat → Nat → Int} (h : GsAt w w.heap.size v m F) (hb : Below w.heap.size w W) : GsAt W W.heap.size v m F := by
  obtain ⟨ao, cap, e, h'⟩ := h.below hb
  exact ⟨ao, cap, e, h'.imp id fun ⟨g, o, e2, hg, hB, hc⟩ => ⟨g, o, e2, Nat.lt_of_lt_of_le hg hb.size, Nat.le_refl _, hc⟩⟩

set_option maxHeartbeats 4000000 in
theorem PartChecks_c (hM : MadeC) (vG : Value) (m : Nat) (F : Nat → Nat → Int) (vO vA : Value) (N : Int) (of : List Int) (ah : List (List Int)) (w : World) (hG : GsAt w w.heap.size vG m F) (hm : m ≤ 17592186044416) (hO : IntsAt w vO of) (hA : RowsAt w vA ah) :
    Calls Try.prog 4 #[vG, .agg #[vO, .int .i64 N, vA]] w fun e w' => e = .returned (.bool true) ∧ Below w.heap.size w w' := by
  have HO : Hid (IntsAt w vO of) := hO
  have HA : Hid (RowsAt w vA ah) := hA
  obtain ⟨oa, on, oc, rfl⟩ := hO.shape
  obtain ⟨aa, an, ac, rfl⟩ := hA.shape
  obtain ⟨ga, gm, gc, rfl⟩ : ∃ a b c, vG = .slice a b c := by obtain ⟨a, c, e, _⟩ := hG; exact ⟨_, _, _, e⟩
  have HMd : Hid (∀ W, Below w.heap.size w W → GsAt W W.heap.size (.slice ga gm gc) m F → Calls Try.prog 8 #[.slice ga gm gc] W fun e w' => ∃ (l : List Nd) (nets : List Int) (na ta : Option Addr) (nc tc : Nat), e = .returned (.agg #[.slice na l.length nc, .slice ta nets.length tc, .int .i64 (nets.length : Nat)]) ∧ Hid (Nm l nets (.slice na l.length nc) (.slice ta nets.length tc) w') ∧ Below W.heap.size W w') := fun W hW hg => made13 _ m F hM W hg hm
  have HG : Hid (GsAt w w.heap.size (.slice ga gm gc) m F) := hG
  clear hG hM hO hA
  go_enter Try.func4, Try.ntmps4
  go_wp2_with fail
  have HB0 : Hid (Below w.heap.size w (w.alloc (.cells #[.slice oa on oc, .int .i64 N, .slice aa an ac] 30))) := belA (Below.refl _ _) _
  have HY0 : Hid ((w.alloc (.cells #[.slice oa on oc, .int .i64 N, .slice aa an ac] 30)).heap[w.heap.size]? = some (.cells #[.slice oa on oc, .int .i64 N, .slice aa an ac] 30 (0, 0))) := alAt rfl
  have HG0 : Hid (GsAt (w.alloc (.cells #[.slice oa on oc, .int .i64 N, .slice aa an ac] 30)) (w.alloc (.cells #[.slice oa on oc, .int .i64 N, .slice aa an ac] 30)).heap.size (.slice ga gm gc) m F) := gsUp13 HG.out HB0.out
  generalize w.alloc (.cells #[.slice oa on oc, .int .i64 N, .slice aa an ac] 30) = W0 at HB0 HY0 HG0 ⊢
  obtain ⟨Y, hY⟩ : ∃ Y, Y = w.heap.size := ⟨_, rfl⟩
  rw [← hY] at HY0 ⊢
  clear hY
  refine (HMd.out W0 HB0.out HG0.out).mono ?_
  rintro e w1 ⟨l, nets, na, ta, nc, tc, rfl, HN, hb1⟩
  have HB1 : Hid (Below W0.heap.size W0 w1) := hb1
  clear HMd HG HG0 hb1
  obtain ⟨ln, hln⟩ : ∃ ln, ln = l.length := ⟨_, rfl⟩
  obtain ⟨lt, hlt⟩ : ∃ lt, lt = nets.length := ⟨_, rfl⟩
  have HLN : Hid (ln = l.length) := hln
  have HLT : Hid (lt = nets.length) := hlt
  rw [← hln, ← hlt] at HN ⊢
  clear hln hlt
  obtain ⟨b0, b1, b2⟩ := cells3n ((HB1.out.block Y (hLt HY0.out)).trans HY0.out)
  have lY := Nat.lt_of_lt_of_le (hLt HY0.out) HB1.out.size
  go_wp2_with fail
  refine gen_calls (fun W => W.heap[w1.heap.size]? = some (.cells #[.slice na ln nc, .slice ta lt tc, .int .i64 (lt : Nat)] 26 (0, 0)) ∧ Below w1.heap.size w1 W) ⟨alAt rfl, belA (Below.refl _ _) _⟩ ?_
  rintro W2 ⟨hX2, hB2⟩
  have HX2 : Hid (W2.heap[w1.heap.size]? = some (.cells #[.slice na ln nc, .slice ta lt tc, .int .i64 (lt : Nat)] 26 (0, 0))) := hX2
  have HB02 : Hid (Below W0.heap.size W0 W2) := bel HB1.out hB2
  have HB2 : Hid (Below w.heap.size w W2) := bel HB0.out HB02.out
  have HN2 : Hid (Nm l nets (.slice na ln nc) (.slice ta lt tc) W2) := HN.out.below hB2
  have HY2 : Hid (W2.heap[Y]? = some (.cells #[.slice oa on oc, .int .i64 N, .slice aa an ac] 30 (0, 0))) := (HB02.out.block Y (hLt HY0.out)).trans HY0.out
  generalize w1.heap.size = X at HX2 ⊢
  clear hX2 hB2 HN HB1 b0 b1 b2 lY
  have HAw : Hid (∀ W, Calls Try.prog 10 #[] W fun e w' => e = .returned (.bool true) ∧ Below W.heap.size W w') := awake13
  have HCk := check13 HN2.out N (HO.out.below HB2.out) (HA.out.below HB2.out)
  rw [← HLT.out] at HCk
  rcases Classical.em (PtsOk l of N ah) with hp | hp
  · refine HCk.mono ?_
    rintro e w3 ⟨(⟨_, rfl⟩ | ⟨h, _⟩), hb3⟩
    · obtain ⟨a0, a1, a2⟩ := cells3n ((hb3.block X (hLt HX2.out)).trans HX2.out)
      obtain ⟨b0, b1, b2⟩ := cells3n ((hb3.block Y (hLt HY2.out)).trans HY2.out)
      have lX := Nat.lt_of_lt_of_le (hLt HX2.out) hb3.size
      have lY := Nat.lt_of_lt_of_le (hLt HY2.out) hb3.size
      have HMy : Hid (Calls Try.prog 11 #[.agg #[.slice na ln nc, .slice ta lt tc, .int .i64 (lt : Nat)], .agg #[.slice oa on oc, .int .i64 N, .slice aa an ac]] w3 fun e w' => e = .returned (.bool true) ∧ Below w3.heap.size w3 w') := (may13 (HN2.out.below hb3) (lt : Nat) N (HO.out.below (bel HB2.out hb3)) (HA.out.below (bel HB2.out hb3))).mono fun e w' hh => ⟨hh.1.t hp, hh.2⟩
      clear hp HCk
      go_wp2_with (first
        | (go_at_call 11; refine HMy.out.mono ?_; rintro e w4 ⟨rfl, hb4⟩)
        | (go_at_call 10; refine (HAw.out _).mono ?_; rintro e w5 ⟨rfl, hb5⟩))
      go_ret
      exact ⟨rfl, bel HB2.out (bel (bel hb3 hb4) hb5)⟩
    · exact absurd hp h
  · refine HCk.mono ?_
    rintro e w3 ⟨(⟨h, _⟩ | ⟨_, rfl⟩), hb3⟩
    · exact absurd h hp
    · obtain ⟨a0, a1, a2⟩ := cells3n ((hb3.block X (hLt HX2.out)).trans HX2.out)
      obtain ⟨b0, b1, b2⟩ := cells3n ((hb3.block Y (hLt HY2.out)).trans HY2.out)
      have lX := Nat.lt_of_lt_of_le (hLt HX2.out) hb3.size
      have lY := Nat.lt_of_lt_of_le (hLt HY2.out) hb3.size
      have HMy : Hid (Calls Try.prog 11 #[.agg #[.slice na ln nc, .slice ta lt tc, .int .i64 (lt : Nat)], .agg #[.slice oa on oc, .int .i64 N, .slice aa an ac]] w3 fun e w' => e = .returned (.bool false) ∧ Below w3.heap.size w3 w') := (may13 (HN2.out.below hb3) (lt : Nat) N (HO.out.below (bel HB2.out hb3)) (HA.out.below (bel HB2.out hb3))).mono fun e w' hh => ⟨hh.1.f hp, hh.2⟩
      clear hp HCk
      go_wp2_with (first
        | (go_at_call 11; refine HMy.out.mono ?_; rintro e w4 ⟨rfl, hb4⟩)
        | (go_at_call 10; refine (HAw.out _).mono ?_; rintro e w5 ⟨rfl, hb5⟩))
      go_ret
      exact ⟨rfl, bel HB2.out (bel (bel hb3 hb4) hb5)⟩
end Go.Proofs.Ytclcpfhbmoaadaa
