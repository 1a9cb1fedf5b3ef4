/- Layer 20: StatsParts. -/
import Derived.Test.YtiecneefommdlaaGG
namespace Go.Proofs.Ytiecneefommdlaa
set_option maxRecDepth 100000
open Go.RowKit Lg Nl Go.Maps Wf Fl
set_option linter.unusedVariables false
set_option linter.unusedSimpArgs false

def okP (x : Wv) (a b : Int) : Bool := mayW x && decide (0 ≤ a ∧ 0 ≤ b ∧ a ≤ 1152921504606846976 ∧ b ≤ 1152921504606846976)
theorem okp_ways {x : Wv} {a b : Int} (h : okP x a b = false) : mayW x = false ∨ (mayW x = true ∧ a < 0) ∨ (mayW x = true ∧ ¬ a < 0 ∧ b < 0) ∨ (mayW x = true ∧ ¬ a < 0 ∧ ¬ b < 0 ∧ a > 1152921504606846976) ∨ (mayW x = true ∧ ¬ a < 0 ∧ ¬ b < 0 ∧ ¬ a > 1152921504606846976 ∧ b > 1152921504606846976) := by
  cases hm : mayW x with
  | false => exact Or.inl rfl
  | true =>
    right
    unfold okP at h
    rw [hm, Bool.true_and] at h
    have h := of_decide_eq_false h
    by_cases c1 : a < 0
    · exact Or.inl ⟨rfl, c1⟩
    by_cases c2 : b < 0
    · exact Or.inr (Or.inl ⟨rfl, c1, c2⟩)
    by_cases c3 : a > 1152921504606846976
    · exact Or.inr (Or.inr (Or.inl ⟨rfl, c1, c2, c3⟩))
    exact Or.inr (Or.inr (Or.inr ⟨rfl, c1, c2, c3, by omega⟩))
set_option maxHeartbeats 4000000 in
set_option maxRecDepth 1000000 in
theorem StatsParts_no (x : Wv) (vn vw vf vl : Value) (a b : Int) (w : World) (hx : Wt w vn vw vf vl x) (ho : okP x a b = false) : Calls Try.prog 8 #[.agg #[vn, vw, vf, vl], .int .i64 a, .int .i64 b] w fun e w' => e = .returned (.bool true) ∧ Below w.heap.size w w' := by
  have HMy : Hid (∀ W, Below w.heap.size w W → Calls Try.prog 11 #[.agg #[vn, vw, vf, vl]] W fun e w' => e = .returned (.bool (mayW x)) ∧ Below W.heap.size W w') := fun W hW => wMay_c x vn vw vf vl W (hx.a.below hW) hx.z
  have HA : Hid Aw20C := aw20
  have hw := okp_ways ho
  clear hx ho
  generalize mayW x = mb at *
  obtain ⟨W0, hW0⟩ : ∃ W0, W0 = w.alloc (.cells #[vn, vw, vf, vl] 26) := ⟨_, rfl⟩
  have HB0 : Hid (Below w.heap.size w W0) := by rw [hW0]; exact belA (Below.refl _ _) _
  have HX0 : Hid (W0.heap[w.heap.size]? = some (.cells #[vn, vw, vf, vl] 26 (0, 0))) := by rw [hW0]; exact alAt rfl
  go_enter Try.func8, Try.ntmps8
  go_upto_region 1 with fail
  rw [← hW0]
  clear hW0
  obtain ⟨E, hE⟩ : ∃ E, E = w.heap.size := ⟨_, rfl⟩
  rw [← hE] at HX0 ⊢
  clear hE
  obtain ⟨b0, b1, b2, b3⟩ := cells4 HX0.out
  have lE := hLt HX0.out
  rcases hw with hm | ⟨hm, h1⟩ | ⟨hm, h1, h2⟩ | ⟨hm, h1, h2, h3⟩ | ⟨hm, h1, h2, h3, h4⟩
  all_goals (
    subst hm
    first | have d1 := decide_eq_false h1 | have d1 := decide_eq_true h1 | skip
    first | have d2 := decide_eq_false h2 | have d2 := decide_eq_true h2 | skip
    first | have d3 := decide_eq_false h3 | have d3 := decide_eq_true h3 | skip
    try have d4 := decide_eq_true h4
    try clear h1
    try clear h2
    try clear h3
    try clear h4
    go_wp2_with (first
      | (go_at_call 11; refine (HMy.out _ HB0.out).mono ?_; rintro e w2 ⟨rfl, hb2⟩)
      | (go_at_call 12; refine (HA.out _).mono ?_; rintro e w9 ⟨rfl, hb9⟩))
    all_goals (
      go_ret
      exact ⟨rfl, bel (bel HB0.out hb2) hb9⟩))
set_option maxHeartbeats 4000000 in
set_option maxRecDepth 1000000 in
theorem StatsParts_yes (x : Wv) (vn vw vf vl : Value) (a b : Int) (w : World) (hx : Wt w vn vw vf vl x) (ho : okP x a b = true) : Calls Try.prog 8 #[.agg #[vn, vw, vf, vl], .int .i64 a, .int .i64 b] w fun e w' => e = .returned (.bool true) ∧ Below w.heap.size w w' := by
  unfold okP at ho
  rw [Bool.and_eq_true, decide_eq_true_eq] at ho
  obtain ⟨hm, o1, o2, o3, o4⟩ := ho
  have HMy : Hid (∀ W, Below w.heap.size w W → Calls Try.prog 11 #[.agg #[vn, vw, vf, vl]] W fun e w' => e = .returned (.bool true) ∧ Below W.heap.size W w') := fun W hW => by have := wMay_c x vn vw vf vl W (hx.a.below hW) hx.z; rw [hm] at this; exact this
  have HOk : Hid (∀ net hz : Int, -1 ≤ net → net < (x.nm.length : Int) → 0 ≤ hz → hz ≤ 4611686018427387903 → okS x net hz = true) := fun net hz h1 h2 h3 h4 => by unfold okS; rw [hm, Bool.true_and]; exact decide_eq_true ⟨h1, h2, h3, h4⟩
  have HA : Hid Aw20C := aw20
  obtain ⟨c, hc⟩ : ∃ c : Int → Nat, ∀ net, c net = (tmL net a x.li).length := ⟨_, fun _ => rfl⟩
  obtain ⟨l, hl⟩ : ∃ l : Int → Nat, ∀ net, l net = leV (tmL net a x.li) := ⟨_, fun _ => rfl⟩
  obtain ⟨S, hS⟩ : ∃ S : Nat → Nat, ∀ i, S i = sumC a x.li i := ⟨_, fun _ => rfl⟩
  have HOa : Hid (∀ (net : Int) (W : World), Below w.heap.size w W → -1 ≤ net → net < (x.nm.length : Int) → Calls Try.prog 10 #[.agg #[vn, vw, vf, vl], .int .i64 net, .int .i64 a] W fun e w' => ∃ r m s mo, e = .returned (.tuple #[.agg #[.int .i64 (c net : Int), .float .f64 r, .float .f64 m, .float .f64 s, .float .f64 (l net), .float .f64 mo], .int .i64 0]) ∧ Below W.heap.size W w') := fun net W hW h1 h2 => (of_yes x vn vw vf vl net a W (hx.a.below hW) hx.z hx.b hx.l (HOk.out net a h1 h2 o1 (by omega))).mono fun e w' ⟨r, m, s, h1, _, h3⟩ => ⟨r, m, s, moV (tmL net a x.li), by rw [hc, hl]; exact h1, h3⟩
  have HOb : Hid (∀ W : World, Below w.heap.size w W → Calls Try.prog 10 #[.agg #[vn, vw, vf, vl], .int .i64 (-1), .int .i64 (a + b)] W fun e w' => ∃ (cb : Nat) (r m s le mo : Nat), e = .returned (.tuple #[.agg #[.int .i64 (cb : Int), .float .f64 r, .float .f64 m, .float .f64 s, .float .f64 le, .float .f64 mo], .int .i64 0]) ∧ Hid (c (-1) ≤ cb) ∧ Below W.heap.size W w') := fun W hW => (of_yes x vn vw vf vl (-1) (a + b) W (hx.a.below hW) hx.z hx.b hx.l (HOk.out (-1) (a + b) (by omega) (by omega) (by omega) (by omega))).mono fun e w' ⟨r, m, s, h1, _, h3⟩ => ⟨_, r, m, s, _, _, h1, by show c (-1) ≤ _; rw [hc]; exact tm_more (by omega) x.li, h3⟩
  have HAll : Hid (S x.nm.length = c (-1)) := by show _ = _; rw [hS, hc]; exact sumC_all a x.nm.length x.li (may_net hm)
  have HLn : Hid (c (-1) ≤ 4398046511000) := by show _ ≤ _; rw [hc]; exact Nat.le_trans (tms_len _ _ _) hx.l
  have HNm : Hid (x.nm.length ≤ 4096) := by
    unfold mayW at hm
    simp only [Bool.and_eq_true] at hm
    have h2 := hm.1.1
    unfold lenB at h2
    exact (of_decide_eq_true h2).1
  have HOr : Hid (∀ (net : Int) (W : World), Calls Try.prog 17 #[.float .f64 (l net), .float .f64 (l (-1))] W fun e w' => ∃ o, e = .returned (.int .i64 o) ∧ Hid (0 ≤ o) ∧ Below W.heap.size W w') := fun net W => by
    rw [hl, hl]
    exact (ord20 _ _ W (least_lt hm net a) (least_lt hm (-1) a)).mono fun e w' ⟨h1, h2⟩ => ⟨_, h1, least_ord hm net a, h2⟩
  have HCt : Hid (∀ net : Int, c net ≤ c (-1)) := fun net => by rw [hc, hc]; exact (tm_sub net a x.li).length_le
  have HSum : Hid (∀ i, i ≤ x.nm.length → S i ≤ c (-1)) := fun i hi => by rw [hS, hc, ← sumC_all a x.nm.length x.li (may_net hm)]; exact sumC_mono a x.li hi
  have HSs : Hid (∀ i : Nat, S (i + 1) = S i + c (i : Int)) := fun i => by rw [hS, hS, hc]; rfl
  have HS0 : Hid (S 0 = 0) := by show _ = _; rw [hS]; rfl
  obtain ⟨an, cn, rfl, q1, q2⟩ := hx.a.nm
  clear hx q1 q2 hm HOk hc hl hS
  generalize x.nm.length = nn at *
  have hab : wrap64 (a + b) = a + b := by unfold wrap64; omega
  have d1 : decide (a < 0) = false := decide_eq_false (by omega)
  have d2 : decide (b < 0) = false := decide_eq_false (by omega)
  have d3 : decide (a > 1152921504606846976) = false := decide_eq_false (by omega)
  have d4 : decide (b > 1152921504606846976) = false := decide_eq_false (by omega)
  clear o1 o2 o3 o4
  have sf : ∀ (a : Addr) (x : Nat) (m : Mode) (W : World), (store a (.float .f64 x) m).run Try.prog W = stored Try.prog W a (.float .f64 x) m := fun a x m W => run_store Try.prog W a _ m rfl
  obtain ⟨W0, hW0⟩ : ∃ W0, W0 = w.alloc (.cells #[.slice an nn cn, vw, vf, vl] 26) := ⟨_, rfl⟩
  have HB0 : Hid (Below w.heap.size w W0) := by rw [hW0]; exact belA (Below.refl _ _) _
  have HX0 : Hid (W0.heap[w.heap.size]? = some (.cells #[.slice an nn cn, vw, vf, vl] 26 (0, 0))) := by rw [hW0]; exact alAt rfl
  go_enter Try.func8, Try.ntmps8
  go_upto_region 1 with fail
  rw [← hW0]
  clear hW0
  obtain ⟨E, hE⟩ : ∃ E, E = w.heap.size := ⟨_, rfl⟩
  rw [← hE] at HX0 ⊢
  clear hE
  obtain ⟨b0, b1, b2, b3⟩ := cells4 HX0.out
  have lE := hLt HX0.out
  go_upto_region 4 with (first
    | (go_at_call 11; refine (HMy.out _ HB0.out).mono ?_; rintro e w2 ⟨rfl, hb2⟩; clear b0 b1 b2 b3; obtain ⟨b0, b1, b2, b3⟩ := cells4 ((hb2.block E lE).trans HX0.out); have lE2 := Nat.lt_of_lt_of_le lE hb2.size)
    | (go_at_call 10; refine (HOa.out (-1) _ (bel HB0.out hb2) (by decide) (by omega)).mono ?_; rintro e w3 ⟨r0, m0, s0, mo0, rfl, hb3⟩))
  clear b0 b1 b2 b3 lE2
  obtain ⟨W1, hW1⟩ : ∃ W1, W1 = w3.alloc (.cells #[.int .i64 (c (-1) : Int), .float .f64 r0, .float .f64 m0, .float .f64 s0, .float .f64 (l (-1)), .float .f64 mo0] 29) := ⟨_, rfl⟩
  have HB1 : Hid (Below W0.heap.size W0 W1) := by rw [hW1]; exact belA (bel hb2 hb3) _
  have HS1 : Hid (W1.heap[w3.heap.size]? = some (.cells #[.int .i64 (c (-1) : Int), .float .f64 r0, .float .f64 m0, .float .f64 s0, .float .f64 (l (-1)), .float .f64 mo0] 29 (0, 0))) := by rw [hW1]; exact alAt rfl
  have HX1 : Hid (W1.heap[E]? = some (.cells #[.slice an nn cn, vw, vf, vl] 26 (0, 0))) := (HB1.out.block E lE).trans HX0.out
  have HBW : Hid (Below w.heap.size w W1) := bel HB0.out HB1.out
  rw [← hW1]
  clear hW1 hb2 hb3 lE
  obtain ⟨A, hA⟩ : ∃ A, A = w3.heap.size := ⟨_, rfl⟩
  rw [← hA] at HS1 ⊢
  clear hA HB1 HB0 HX0 HMy
  have lA := hLt HS1.out
  have lE := hLt HX1.out
  go_wp2_with fail
  go_loopg [9, 10] nn (fun g s9 s10 wr => ∃ (i : Nat), i ≤ nn ∧ g = nn - i ∧ s9 = .int .i64 (S i : Int) ∧ s10 = .int .i64 i ∧ Hid (Below W1.heap.size W1 wr))
  case atStart => exact ⟨0, Nat.zero_le _, rfl, by rw [HS0.out]; rfl, rfl, Below.refl _ _⟩
  case round =>
    obtain ⟨i, hi, rfl, rfl, rfl, HBx⟩ := hrel
    obtain ⟨wx, hwx⟩ : ∃ wx, wx = wr := ⟨_, rfl⟩
    rw [← hwx] at HBx ⊢
    clear hwx
    have HXx : Hid (wx.heap[E]? = some (.cells #[.slice an nn cn, vw, vf, vl] 26 (0, 0))) := (HBx.out.block E lE).trans HX1.out
    have HSx : Hid (wx.heap[A]? = some (.cells #[.int .i64 (c (-1) : Int), .float .f64 r0, .float .f64 m0, .float .f64 s0, .float .f64 (l (-1)), .float .f64 mo0] 29 (0, 0))) := (HBx.out.block A lA).trans HS1.out
    have lEx := hLt HXx.out
    have lAx := hLt HSx.out
    obtain ⟨b0, b1, b2, b3⟩ := cells4 HXx.out
    by_cases hin : i < nn
    · have i1 : (i : Int) < (nn : Int) := by omega
      go_upto_region 11 with (first
        | (go_at_call 10; refine (HOa.out (i : Int) _ (bel HBW.out HBx.out) (by omega) i1).mono ?_; rintro e w4 ⟨r, m, s, mo, rfl, hb4⟩))
      clear b0 b1 b2 b3
      obtain ⟨W5, hW5⟩ : ∃ W5, W5 = w4.alloc (.cells #[.int .i64 (c (i : Int) : Int), .float .f64 r, .float .f64 m, .float .f64 s, .float .f64 (l (i : Int)), .float .f64 mo] 29) := ⟨_, rfl⟩
      have HB5 : Hid (Below W1.heap.size W1 W5) := by rw [hW5]; exact belA (bel HBx.out hb4) _
      have HT5 : Hid (W5.heap[w4.heap.size]? = some (.cells #[.int .i64 (c (i : Int) : Int), .float .f64 r, .float .f64 m, .float .f64 s, .float .f64 (l (i : Int)), .float .f64 mo] 29 (0, 0))) := by rw [hW5]; exact alAt rfl
      have HS5 : Hid (W5.heap[A]? = some (.cells #[.int .i64 (c (-1) : Int), .float .f64 r0, .float .f64 m0, .float .f64 s0, .float .f64 (l (-1)), .float .f64 mo0] 29 (0, 0))) := (HB5.out.block A lA).trans HS1.out
      rw [← hW5]
      clear hW5 hb4 HXx HSx lEx lAx
      obtain ⟨T, hT⟩ : ∃ T, T = w4.heap.size := ⟨_, rfl⟩
      rw [← hT] at HT5 ⊢
      clear hT
      have lT := hLt HT5.out
      have lA5 := hLt HS5.out
      obtain ⟨c0, c1, c2, c3, c4, c5, cf⟩ := cells6f HS5.out
      obtain ⟨k0, k1, k2, k3, k4, k5, kf⟩ := cells6f HT5.out
      have hci : c (i : Int) ≤ c (-1) := HCt.out (i : Int)
      have e2 : wrap64 ((S i : Int) + (c (i : Int) : Int)) = ((S (i + 1) : Nat) : Int) := by
        have h1 := HSs.out i
        have h2 := HSum.out (i + 1) hin
        have h3 := HLn.out
        unfold wrap64; omega
      have HT6 : Hid (∀ Y, Below W5.heap.size W5 Y → Y.cell? ⟨T, 0, none⟩ = some (.int .i64 (c (i : Int) : Int)) ∧ T < Y.heap.size) := fun Y hY => ⟨(cells6f ((hY.block T lT).trans HT5.out)).1, Nat.lt_of_lt_of_le lT hY.size⟩
      go_wp2_with (first
        | (go_at_call 17; refine (HOr.out (i : Int) _).mono ?_; rintro e w6 ⟨o, rfl, HO6, hb6⟩; have e3 : decide (o < 0) = false := decide_eq_false (by have := HO6.out; omega); obtain ⟨t0, lT6⟩ := HT6.out w6 hb6))
      go_roundg (nn - (i + 1))
      case measure => omega
      case rel => exact ⟨i + 1, hin, rfl, by rw [e2], wrap_succ hin (Nat.le_trans HNm.out (by decide)), bel HB5.out hb6⟩
    · obtain rfl : i = nn := by omega
      have i5 : ¬ (i : Int) < (i : Int) := by omega
      have e1 : Hid (S i = c (-1)) := HAll.out
      go_upto_region 15 with (first
        | (go_at_call 10; refine (HOb.out _ (bel HBW.out HBx.out)).mono ?_; rintro e w4 ⟨cb, r, m, s, le, mo, rfl, HCb, hb4⟩))
      clear b0 b1 b2 b3
      obtain ⟨W5, hW5⟩ : ∃ W5, W5 = w4.alloc (.cells #[.int .i64 (cb : Int), .float .f64 r, .float .f64 m, .float .f64 s, .float .f64 le, .float .f64 mo] 29) := ⟨_, rfl⟩
      have HB5 : Hid (Below W1.heap.size W1 W5) := by rw [hW5]; exact belA (bel HBx.out hb4) _
      have HT5 : Hid (W5.heap[w4.heap.size]? = some (.cells #[.int .i64 (cb : Int), .float .f64 r, .float .f64 m, .float .f64 s, .float .f64 le, .float .f64 mo] 29 (0, 0))) := by rw [hW5]; exact alAt rfl
      have HS5 : Hid (W5.heap[A]? = some (.cells #[.int .i64 (c (-1) : Int), .float .f64 r0, .float .f64 m0, .float .f64 s0, .float .f64 (l (-1)), .float .f64 mo0] 29 (0, 0))) := (HB5.out.block A lA).trans HS1.out
      rw [← hW5]
      clear hW5 hb4 HXx HSx lEx lAx
      obtain ⟨T, hT⟩ : ∃ T, T = w4.heap.size := ⟨_, rfl⟩
      rw [← hT] at HT5 ⊢
      clear hT
      have lT := hLt HT5.out
      have lA5 := hLt HS5.out
      obtain ⟨c0, c1, c2, c3, c4, c5, cf⟩ := cells6f HS5.out
      obtain ⟨k0, k1, k2, k3, k4, k5, kf⟩ := cells6f HT5.out
      have e2 : ((S i : Int) == (c (-1) : Int)) = true := by rw [e1.out]; exact beq_self_eq_true _
      have hcb : c (-1) ≤ cb := HCb.out
      have e3 : S i = c (-1) := e1.out
      go_wp2_with (first
        | (go_at_call 12; refine (HA.out _).mono ?_; rintro e w9 ⟨rfl, hb9⟩))
      all_goals (
        go_ret
        exact ⟨rfl, bel (bel HBW.out HB5.out) hb9⟩)
theorem StatsParts_c (x : Wv) (vn vw vf vl : Value) (a b : Int) (w : World) (hx : Wt w vn vw vf vl x) : Calls Try.prog 8 #[.agg #[vn, vw, vf, vl], .int .i64 a, .int .i64 b] w fun e w' => e = .returned (.bool true) ∧ Below w.heap.size w w' := by
  cases ho : okP x a b with
  | true => exact StatsParts_yes x vn vw vf vl a b w hx ho
  | false => exact StatsParts_no x vn vw vf vl a b w hx ho
end Go.Proofs.Ytiecneefommdlaa
