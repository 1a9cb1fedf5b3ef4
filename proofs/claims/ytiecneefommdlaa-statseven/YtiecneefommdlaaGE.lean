/- Layer 20: StatsOf. -/
import Derived.Test.YtiecneefommdlaaGC
import Derived.Test.YtiecneefommdlaaGD
namespace Go.Proofs.Ytiecneefommdlaa
set_option maxRecDepth 100000
open Go.RowKit Lg Nl Go.Maps Wf Fl
set_option linter.unusedVariables false
set_option linter.unusedSimpArgs false

/-- a waveform that is handed in -/
structure Wt (w : World) (vn vw vf vl : Value) (x : Wv) : Prop where
  a : WvAt w vn vw vf vl x
  z : Sz x
  b : Bd x
  l : x.li.length ≤ 4398046511000
theorem Wt.below {w w' : World} {vn vw vf vl : Value} {x : Wv} (h : Wt w vn vw vf vl x) (hb : Below w.heap.size w w') : Wt w' vn vw vf vl x := ⟨h.a.below hb, h.z, h.b, h.l⟩
theorem fsame_self (x : Nat) : Fl.sameB x x = true := by
  unfold Fl.sameB ordI
  exact decide_eq_true (ordD_self _)
theorem ofV_same {ts : List Int} {hz : Int} {r m s r' m' s' : Nat} (ht : Tms ts) (hl : ts.length ≤ 4398046511000) (h : OfV ts hz r m s) (h' : OfV ts hz r' m' s') : Fl.sameB r r' = true ∧ Fl.sameB m m' = true ∧ Fl.sameB s s' = true := by
  refine ⟨quo_same h.rt h'.rt, quo_same h.mn h'.mn, ?_⟩
  by_cases h0 : gpL ts = []
  · have a := h.sp
    have b := h'.sp
    rw [h0] at a b
    exact quo_same a b
  · have hn : (gpL ts).length ≠ 0 := fun e => h0 (List.eq_nil_of_length_eq_zero e)
    obtain ⟨v, e1, e2⟩ := quo_pos (n := (gpL ts).length) (sumF_pos _ 0 Pw_0 (gaps_pw ht)) (by rw [gp_len]; omega) (by omega)
    have key : ∀ {k : Nat}, quoP (sumF 0 ((gpL ts).map fI)) (fI ((gpL ts).length : Int)) k → k = v := fun {k} hk => by
      rcases hk with hk | hk
      · rw [e1] at hk; injection hk with hk; exact hk.symm
      · rw [e1] at hk; cases hk.1
    have a := h.sp
    have b := h'.sp
    rw [key h.mn] at a
    rw [key h'.mn] at b
    exact quo_same a b
set_option maxHeartbeats 4000000 in
set_option maxRecDepth 1000000 in
theorem StatsOf_yes (x : Wv) (vn vw vf vl : Value) (net hz : Int) (w : World) (hx : Wt w vn vw vf vl x) (ho : okS x net hz = true) : Calls Try.prog 3 #[.agg #[vn, vw, vf, vl], .int .i64 net, .int .i64 hz] w fun e w' => e = .returned (.bool true) ∧ Below w.heap.size w w' := by
  have ho' := ho
  unfold okS at ho'
  rw [Bool.and_eq_true, decide_eq_true_eq] at ho'
  obtain ⟨hm, o1, o2, o3, o4⟩ := ho'
  have HT : Hid (Tms (tmL net hz x.li)) := tms_of hm net hz
  have HTl : Hid ((tmL net hz x.li).length ≤ 4398046511000) := Nat.le_trans (tms_len net hz x.li) hx.l
  have HOf : Hid (∀ W, Below w.heap.size w W → Calls Try.prog 10 #[.agg #[vn, vw, vf, vl], .int .i64 net, .int .i64 hz] W fun e w' => ∃ r m s, e = .returned (.tuple #[.agg #[.int .i64 ((tmL net hz x.li).length : Nat), .float .f64 r, .float .f64 m, .float .f64 s, .float .f64 (leV (tmL net hz x.li)), .float .f64 (moV (tmL net hz x.li))], .int .i64 0]) ∧ Hid (OfV (tmL net hz x.li) hz r m s) ∧ Below W.heap.size W w') := fun W hW => of_yes x vn vw vf vl net hz W (hx.a.below hW) hx.z hx.b hx.l ho
  have HRf : Hid (∀ W, Below w.heap.size w W → Calls Try.prog 13 #[.agg #[vn, vw, vf, vl], .int .i64 net, .int .i64 hz] W fun e w' => ∃ r m s, e = .returned (.agg #[.int .i64 ((tmL net hz x.li).length : Nat), .float .f64 r, .float .f64 m, .float .f64 s, .float .f64 (leV (tmL net hz x.li)), .float .f64 (moV (tmL net hz x.li))]) ∧ Hid (OfV (tmL net hz x.li) hz r m s) ∧ Below W.heap.size W w') := fun W hW => rOf_c x vn vw vf vl net hz W (hx.a.below hW) hx.l ho
  have HMy : Hid (∀ W, Below w.heap.size w W → Calls Try.prog 11 #[.agg #[vn, vw, vf, vl]] W fun e w' => e = .returned (.bool true) ∧ Below W.heap.size W w') := fun W hW => by have := wMay_c x vn vw vf vl W (hx.a.below hW) hx.z; rw [hm] at this; exact this
  have HA : Hid Aw20C := aw20
  obtain ⟨an, cn, rfl, q1, q2⟩ := hx.a.nm
  clear hx q1 q2 ho hm
  generalize x.nm.length = nn at *
  generalize tmL net hz x.li = ts at *
  generalize leV ts = le at *
  generalize moV ts = mo at *
  have d1 : decide (net < -1) = false := decide_eq_false (by omega)
  have d2 : decide (net ≥ (nn : Int)) = false := decide_eq_false (by omega)
  have d3 : decide (hz < 0) = false := decide_eq_false (by omega)
  have d4 : decide (hz > 4611686018427387903) = false := decide_eq_false (by omega)
  clear o1 o2 o3 o4
  have sf : ∀ (a : Addr) (x : Nat) (m : Mode) (W : World), (store a (.float .f64 x) m).run Try.prog W = stored Try.prog W a (.float .f64 x) m := fun a x m W => run_store Try.prog W a _ m rfl
  obtain ⟨W0, hW0⟩ : ∃ W0, W0 = w.alloc (.cells #[.slice an nn cn, vw, vf, vl] 26) := ⟨_, rfl⟩
  have HB0 : Hid (Below w.heap.size w W0) := by rw [hW0]; exact belA (Below.refl _ _) _
  have HX0 : Hid (W0.heap[w.heap.size]? = some (.cells #[.slice an nn cn, vw, vf, vl] 26 (0, 0))) := by rw [hW0]; exact alAt rfl
  go_enter Try.func3, Try.ntmps3
  go_upto_region 1 with fail
  rw [← hW0]
  clear hW0
  obtain ⟨E, hE⟩ : ∃ E, E = w.heap.size := ⟨_, rfl⟩
  rw [← hE] at HX0 ⊢
  clear hE
  obtain ⟨b0, b1, b2, b3⟩ := cells4 HX0.out
  have lE := hLt HX0.out
  go_upto_region 2 with (first
    | (go_at_call 10; refine (HOf.out _ HB0.out).mono ?_; rintro e w1 ⟨r, m, s, rfl, HV1, hb1⟩))
  clear b0 b1 b2 b3
  obtain ⟨W1, hW1⟩ : ∃ W1, W1 = w1.alloc (.cells #[.int .i64 (ts.length : Int), .float .f64 r, .float .f64 m, .float .f64 s, .float .f64 le, .float .f64 mo] 29) := ⟨_, rfl⟩
  have HB1 : Hid (Below W0.heap.size W0 W1) := by rw [hW1]; exact belA hb1 _
  have HS1 : Hid (W1.heap[w1.heap.size]? = some (.cells #[.int .i64 (ts.length : Int), .float .f64 r, .float .f64 m, .float .f64 s, .float .f64 le, .float .f64 mo] 29 (0, 0))) := by rw [hW1]; exact alAt rfl
  have HX1 : Hid (W1.heap[E]? = some (.cells #[.slice an nn cn, vw, vf, vl] 26 (0, 0))) := (HB1.out.block E lE).trans HX0.out
  rw [← hW1]
  clear hW1 hb1 lE
  obtain ⟨S, hS⟩ : ∃ S, S = w1.heap.size := ⟨_, rfl⟩
  rw [← hS] at HS1 ⊢
  clear hS
  have lS := hLt HS1.out
  have lE := hLt HX1.out
  obtain ⟨b0, b1, b2, b3⟩ := cells4 HX1.out
  go_upto_region 5 with (first
    | (go_at_call 11; refine (HMy.out _ (bel HB0.out HB1.out)).mono ?_; rintro e w2 ⟨rfl, hb2⟩; clear b0 b1 b2 b3; obtain ⟨b0, b1, b2, b3⟩ := cells4 ((hb2.block E lE).trans HX1.out); have lE2 := Nat.lt_of_lt_of_le lE hb2.size)
    | (go_at_call 13; refine (HRf.out _ (bel HB0.out (bel HB1.out hb2))).mono ?_; rintro e w3 ⟨r', m', s', rfl, HV3, hb3⟩))
  clear b0 b1 b2 b3 lE2
  obtain ⟨W4, hW4⟩ : ∃ W4, W4 = w3.alloc (.cells #[.int .i64 (ts.length : Int), .float .f64 r', .float .f64 m', .float .f64 s', .float .f64 le, .float .f64 mo] 35) := ⟨_, rfl⟩
  have HB4 : Hid (Below W1.heap.size W1 W4) := by rw [hW4]; exact belA (bel hb2 hb3) _
  have HQ4 : Hid (W4.heap[w3.heap.size]? = some (.cells #[.int .i64 (ts.length : Int), .float .f64 r', .float .f64 m', .float .f64 s', .float .f64 le, .float .f64 mo] 35 (0, 0))) := by rw [hW4]; exact alAt rfl
  have HS4 : Hid (W4.heap[S]? = some (.cells #[.int .i64 (ts.length : Int), .float .f64 r, .float .f64 m, .float .f64 s, .float .f64 le, .float .f64 mo] 29 (0, 0))) := (HB4.out.block S lS).trans HS1.out
  rw [← hW4]
  clear hW4 hb2 hb3 lS lE
  obtain ⟨Q, hQ⟩ : ∃ Q, Q = w3.heap.size := ⟨_, rfl⟩
  rw [← hQ] at HQ4 ⊢
  clear hQ
  have lS := hLt HS4.out
  have lQ := hLt HQ4.out
  obtain ⟨c0, c1, c2, c3, c4, c5, cf⟩ := cells6f HS4.out
  obtain ⟨k0, k1, k2, k3, k4, k5, kf⟩ := cells6f HQ4.out
  have hsv := ofV_same HT.out HTl.out HV1.out HV3.out
  have N1 : Hid _ := same_t hsv.1
  have N2 : Hid _ := same_t hsv.2.1
  have N3 : Hid _ := same_t hsv.2.2
  have N4 : Hid _ := same_t (fsame_self le)
  have N5 : Hid _ := same_t (fsame_self mo)
  have HBW : Hid (Below w.heap.size w W4) := bel HB0.out (bel HB1.out HB4.out)
  clear hsv HV1 HV3 HT HTl HOf HRf HMy
  go_wp2_with (first
    | (go_at_call_of 14 (Value.float FloatKind.f64 r); refine (N1.out _).mono ?_; rintro e w' ⟨rfl, rfl⟩)
    | (go_at_call_of 14 (Value.float FloatKind.f64 m); refine (N2.out _).mono ?_; rintro e w' ⟨rfl, rfl⟩)
    | (go_at_call_of 14 (Value.float FloatKind.f64 s); refine (N3.out _).mono ?_; rintro e w' ⟨rfl, rfl⟩)
    | (go_at_call_of 14 (Value.float FloatKind.f64 le); refine (N4.out _).mono ?_; rintro e w' ⟨rfl, rfl⟩)
    | (go_at_call_of 14 (Value.float FloatKind.f64 mo); refine (N5.out _).mono ?_; rintro e w' ⟨rfl, rfl⟩)
    | (go_at_call 12; refine (HA.out _).mono ?_; rintro e w9 ⟨rfl, hb9⟩))
  go_ret
  exact ⟨rfl, bel HBW.out hb9⟩
end Go.Proofs.Ytiecneefommdlaa
