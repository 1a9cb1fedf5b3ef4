/- Layer 20: StatsOf, asked as it may not be; both. -/
import Derived.Test.YtiecneefommdlaaGE
namespace Go.Proofs.Ytiecneefommdlaa
set_option maxRecDepth 100000
open Go.RowKit Lg Nl Go.Maps Wf Fl
set_option linter.unusedVariables false
set_option linter.unusedSimpArgs false

theorem eq00 (W : World) : (Op.equalIn 9999 27 (.float .f64 0) (.float .f64 0)).run Try.prog W = .ok true W := by
  have f0 : Op.floatEq .f64 0 0 = true := by decide +kernel
  have h : ∀ d : Nat, (Op.equalIn (d + 1) 27 (.float .f64 0) (.float .f64 0)).run Try.prog W = .ok true W := fun d => by
    simp [Op.equalIn, run_underlying Try.underlying27, f0]
  exact h 9998
set_option maxHeartbeats 4000000 in
set_option maxRecDepth 1000000 in
theorem StatsOf_no (x : Wv) (vn vw vf vl : Value) (net hz : Int) (w : World) (hx : Wt w vn vw vf vl x) (ho : okS x net hz = false) : Calls Try.prog 3 #[.agg #[vn, vw, vf, vl], .int .i64 net, .int .i64 hz] w fun e w' => e = .returned (.bool true) ∧ Below w.heap.size w w' := by
  have HOf : Hid (∀ W, Below w.heap.size w W → Calls Try.prog 10 #[.agg #[vn, vw, vf, vl], .int .i64 net, .int .i64 hz] W fun e w' => e = .returned (.tuple #[.agg #[.int .i64 0, .float .f64 0, .float .f64 0, .float .f64 0, .float .f64 0, .float .f64 0], .int .i64 1]) ∧ Below W.heap.size W w') := fun W hW => of_no x vn vw vf vl net hz W (hx.a.below hW) hx.z hx.b ho
  have HMy : Hid (∀ W, Below w.heap.size w W → Calls Try.prog 11 #[.agg #[vn, vw, vf, vl]] W fun e w' => e = .returned (.bool (mayW x)) ∧ Below W.heap.size W w') := fun W hW => wMay_c x vn vw vf vl W (hx.a.below hW) hx.z
  have HA : Hid Aw20C := aw20
  have hw := ok_ways ho
  obtain ⟨an, cn, rfl, q1, q2⟩ := hx.a.nm
  clear hx q1 q2 ho
  generalize mayW x = mb at *
  generalize x.nm.length = nn at *
  have sf : ∀ (a : Addr) (x : Nat) (m : Mode) (W : World), (store a (.float .f64 x) m).run Try.prog W = stored Try.prog W a (.float .f64 x) m := fun a x m W => run_store Try.prog W a _ m rfl
  have eqf := eq00
  obtain ⟨W0, hW0⟩ : ∃ W0, W0 = w.alloc (.cells #[.slice an nn cn, vw, vf, vl] 26) := ⟨_, rfl⟩
  have HB0 : Hid (Below w.heap.size w W0) := by rw [hW0]; exact belA (Below.refl _ _) _
  have HX0 : Hid (W0.heap[w.heap.size]? = some (.cells #[.slice an nn cn, vw, vf, vl] 26 (0, 0))) := by rw [hW0]; exact alAt rfl
  go_enter Try.func3, Try.ntmps3
  go_upto_region 1 with fail
  rw [← hW0]
  clear hW0
  obtain ⟨E, hE⟩ : ∃ E, E = w.heap.size := ⟨_, rfl⟩
  rw [← hE] at HX0 ⊢
  clear hE
  obtain ⟨b0, b1, b2, b3⟩ := cells4 HX0.out
  have lE := hLt HX0.out
  go_upto_region 2 with (first
    | (go_at_call 10; refine (HOf.out _ HB0.out).mono ?_; rintro e w1 ⟨rfl, hb1⟩))
  clear b0 b1 b2 b3
  obtain ⟨W1, hW1⟩ : ∃ W1, W1 = w1.alloc (.cells #[.int .i64 0, .float .f64 0, .float .f64 0, .float .f64 0, .float .f64 0, .float .f64 0] 29) := ⟨_, rfl⟩
  have HB1 : Hid (Below W0.heap.size W0 W1) := by rw [hW1]; exact belA hb1 _
  have HS1 : Hid (W1.heap[w1.heap.size]? = some (.cells #[.int .i64 0, .float .f64 0, .float .f64 0, .float .f64 0, .float .f64 0, .float .f64 0] 29 (0, 0))) := by rw [hW1]; exact alAt rfl
  have HX1 : Hid (W1.heap[E]? = some (.cells #[.slice an nn cn, vw, vf, vl] 26 (0, 0))) := (HB1.out.block E lE).trans HX0.out
  rw [← hW1]
  clear hW1 hb1 lE
  obtain ⟨S, hS⟩ : ∃ S, S = w1.heap.size := ⟨_, rfl⟩
  rw [← hS] at HS1 ⊢
  clear hS
  have lS := hLt HS1.out
  have lE := hLt HX1.out
  obtain ⟨b0, b1, b2, b3⟩ := cells4 HX1.out
  have HBW : Hid (Below w.heap.size w W1) := bel HB0.out HB1.out
  rcases hw with hm | ⟨hm, h1⟩ | ⟨hm, h1, h2⟩ | ⟨hm, h1, h2, h3⟩ | ⟨hm, h1, h2, h3, h4⟩
  all_goals (
    subst hm
    first | have d1 := decide_eq_false h1 | have d1 := decide_eq_true h1 | skip
    first | have d2 := decide_eq_false h2 | have d2 := decide_eq_true h2 | skip
    first | have d3 := decide_eq_false h3 | have d3 := decide_eq_true h3 | skip
    try have d4 := decide_eq_true h4
    try clear h1
    try clear h2
    try clear h3
    try clear h4
    go_upto_region 3 with (first
      | (go_at_call 11; refine (HMy.out _ HBW.out).mono ?_; rintro e w2 ⟨rfl, hb2⟩; clear b0 b1 b2 b3; obtain ⟨b0, b1, b2, b3⟩ := cells4 ((hb2.block E lE).trans HX1.out); have lE2 := Nat.lt_of_lt_of_le lE hb2.size; have HS2 : Hid _ := (hb2.block S lS).trans HS1.out; obtain ⟨c0, c1, c2, c3, c4, c5, cf⟩ := cells6f HS2.out; have lS2 := hLt HS2.out))
    go_wp2_with (first
      | (go_at_call 12; refine (HA.out _).mono ?_; rintro e w9 ⟨rfl, hb9⟩))
    all_goals (
      go_ret
      exact ⟨rfl, bel (bel HBW.out hb2) hb9⟩))
theorem StatsOf_c (x : Wv) (vn vw vf vl : Value) (net hz : Int) (w : World) (hx : Wt w vn vw vf vl x) : Calls Try.prog 3 #[.agg #[vn, vw, vf, vl], .int .i64 net, .int .i64 hz] w fun e w' => e = .returned (.bool true) ∧ Below w.heap.size w w' := by
  cases ho : okS x net hz with
  | true => exact StatsOf_yes x vn vw vf vl net hz w hx ho
  | false => exact StatsOf_no x vn vw vf vl net hz w hx ho
end Go.Proofs.Ytiecneefommdlaa
