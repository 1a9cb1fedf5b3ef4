/- Layer 20: the landed Of, asked as it may not be. -/
import Derived.Test.YtiecneefommdlaaFZ
namespace Go.Proofs.Ytiecneefommdlaa
set_option maxRecDepth 100000
open Go.RowKit Lg Nl Go.Maps Wf Fl
set_option linter.unusedVariables false
set_option linter.unusedSimpArgs false

theorem ok_ways {x : Wv} {net hz : Int} (h : okS x net hz = false) : mayW x = false ∨ (mayW x = true ∧ net < -1) ∨ (mayW x = true ∧ ¬ net < -1 ∧ net ≥ (x.nm.length : Int)) ∨ (mayW x = true ∧ ¬ net < -1 ∧ ¬ net ≥ (x.nm.length : Int) ∧ hz < 0) ∨ (mayW x = true ∧ ¬ net < -1 ∧ ¬ net ≥ (x.nm.length : Int) ∧ ¬ hz < 0 ∧ hz > 4611686018427387903) := by
  cases hm : mayW x with
  | false => exact Or.inl rfl
  | true =>
    right
    unfold okS at h
    rw [hm, Bool.true_and] at h
    have h := of_decide_eq_false h
    by_cases a : net < -1
    · exact Or.inl ⟨rfl, a⟩
    by_cases b : net ≥ (x.nm.length : Int)
    · exact Or.inr (Or.inl ⟨rfl, a, b⟩)
    by_cases c : hz < 0
    · exact Or.inr (Or.inr (Or.inl ⟨rfl, a, b, c⟩))
    exact Or.inr (Or.inr (Or.inr ⟨rfl, a, b, c, by omega⟩))
set_option maxHeartbeats 4000000 in
set_option maxRecDepth 1000000 in
theorem of_no (x : Wv) (vn vw vf vl : Value) (net hz : Int) (w : World) (hx : WvAt w vn vw vf vl x) (hz' : Sz x) (hbd : Bd x) (ho : okS x net hz = false) : Calls Try.prog 10 #[.agg #[vn, vw, vf, vl], .int .i64 net, .int .i64 hz] w fun e w' => e = .returned (.tuple #[.agg #[.int .i64 0, .float .f64 0, .float .f64 0, .float .f64 0, .float .f64 0, .float .f64 0], .int .i64 1]) ∧ Below w.heap.size w w' := by
  have HC : Hid (∀ W, Below w.heap.size w W → Calls Try.prog 23 #[.agg #[vn, vw, vf, vl]] W fun e w' => e = .returned (.int .i64 (erOf (mayW x))) ∧ Below W.heap.size W w') := fun W hW => check_c x vn vw vf vl W (hx.below hW) hz' hbd
  have hw := ok_ways ho
  obtain ⟨an, cn, rfl, q1, q2⟩ := hx.nm
  clear hx hz' hbd q1 q2 ho
  generalize mayW x = mb at *
  generalize x.nm.length = nn at *
  have sf : ∀ (a : Addr) (x : Nat) (m : Mode) (W : World), (store a (.float .f64 x) m).run Try.prog W = stored Try.prog W a (.float .f64 x) m := fun a x m W => run_store Try.prog W a _ m rfl
  go_enter Try.func10, Try.ntmps10
  go_upto_region 1 with fail
  obtain ⟨W1, hW1⟩ : ∃ W1, W1 = (w.alloc (.cells #[.slice an nn cn, vw, vf, vl] 26)).alloc (.cells #[.int .i64 0, .float .f64 0, .float .f64 0, .float .f64 0, .float .f64 0, .float .f64 0] 29) := ⟨_, rfl⟩
  have HB1 : Hid (Below w.heap.size w W1) := by rw [hW1]; exact belA (belA (Below.refl _ _) _) _
  have HX1 : Hid (W1.heap[w.heap.size]? = some (.cells #[.slice an nn cn, vw, vf, vl] 26 (0, 0))) := by
    rw [hW1]
    exact ((belA (Below.refl _ (w.alloc (.cells #[.slice an nn cn, vw, vf, vl] 26))) _).block w.heap.size (by simp)).trans (alAt rfl)
  have HR1 : Hid (W1.heap[w.heap.size + 1]? = some (.cells #[.int .i64 0, .float .f64 0, .float .f64 0, .float .f64 0, .float .f64 0, .float .f64 0] 29 (0, 0))) := by rw [hW1]; exact alAt (by simp)
  rw [← hW1]
  clear hW1
  obtain ⟨E, hE⟩ : ∃ E, E = w.heap.size := ⟨_, rfl⟩
  obtain ⟨R, hR⟩ : ∃ R, R = E + 1 := ⟨_, rfl⟩
  have HBR : Hid (w.heap.size ≤ R) := by show _ ≤ _; omega
  rw [← hE] at HX1 HR1 ⊢
  rw [← hR] at HR1 ⊢
  clear hE hR
  obtain ⟨b0, b1, b2, b3⟩ := cells4 HX1.out
  have lE := hLt HX1.out
  have lR := hLt HR1.out
  have HF : Hid (∀ w2 : World, Below W1.heap.size W1 w2 → ∀ W : World, W = (((((w2.setCell ⟨R, 0, none⟩ (.int .i64 0)).setCell ⟨R, 1, none⟩ (.float .f64 0)).setCell ⟨R, 2, none⟩ (.float .f64 0)).setCell ⟨R, 3, none⟩ (.float .f64 0)).setCell ⟨R, 4, none⟩ (.float .f64 0)).setCell ⟨R, 5, none⟩ (.float .f64 0) → W.heap[R]? = some (.cells #[.int .i64 0, .float .f64 0, .float .f64 0, .float .f64 0, .float .f64 0, .float .f64 0] 29 (0, 0)) ∧ Below w.heap.size w W) := fun w2 hb W e => by
    subst e
    exact ⟨set66 ((hb.block R lR).trans HR1.out) _ _ _ _ _ _, bel66 (bel HB1.out hb) HBR.out _ _ _ _ _ _⟩
  rcases hw with hm | ⟨hm, h1⟩ | ⟨hm, h1, h2⟩ | ⟨hm, h1, h2, h3⟩ | ⟨hm, h1, h2, h3, h4⟩
  all_goals (
    subst hm
    first | rw [erOf_f] at HC | rw [erOf_t] at HC
    try have d1 := decide_eq_true h1
    try have d1 := decide_eq_false h1
    try have d2 := decide_eq_true h2
    try have d2 := decide_eq_false h2
    try have d3 := decide_eq_true h3
    try have d3 := decide_eq_false h3
    try have d4 := decide_eq_true h4
    try clear h1
    try clear h2
    try clear h3
    try clear h4
    go_wp2_with (first
      | (go_at_call 23; refine (HC.out _ HB1.out).mono ?_; rintro e w2 ⟨rfl, hb2⟩; clear b0 b1 b2 b3; obtain ⟨b0, b1, b2, b3⟩ := cells4 ((hb2.block E lE).trans HX1.out); have lE2 := Nat.lt_of_lt_of_le lE hb2.size; have HR2 : Hid _ := (hb2.block R lR).trans HR1.out; obtain ⟨c0, c1, c2, c3, c4, c5, cf⟩ := cells6f HR2.out; have lR2 := hLt HR2.out))
    obtain ⟨WA, hWA⟩ : ∃ WA, WA = (((((w2.setCell ⟨R, 0, none⟩ (.int .i64 0)).setCell ⟨R, 1, none⟩ (.float .f64 0)).setCell ⟨R, 2, none⟩ (.float .f64 0)).setCell ⟨R, 3, none⟩ (.float .f64 0)).setCell ⟨R, 4, none⟩ (.float .f64 0)).setCell ⟨R, 5, none⟩ (.float .f64 0) := ⟨_, rfl⟩
    obtain ⟨hRA, hBA⟩ := HF.out w2 hb2 WA hWA
    rw [← hWA]
    clear hWA
    obtain ⟨z0, z1, z2, z3, z4, z5, _⟩ := cells6f hRA
    try simp only [Exit.inBlock, Exit.then]
    refine bodyPost_ret (v := .tuple #[.agg #[.int .i64 0, .float .f64 0, .float .f64 0, .float .f64 0, .float .f64 0, .float .f64 0], .int .i64 1]) (by simp [results, Try.results10, go_sem, z0, z1, z2, z3, z4, z5]) rfl ?_
    exact ⟨rfl, hBA⟩)
end Go.Proofs.Ytiecneefommdlaa
