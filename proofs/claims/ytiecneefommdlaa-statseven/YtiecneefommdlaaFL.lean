/- Layer 20: StatsSigns, walked over what the program's functions tell. -/
import Derived.Test.YtiecneefommdlaaFK
namespace Go.Proofs.Ytiecneefommdlaa
set_option maxRecDepth 100000
open Go.RowKit Lg Nl Go.Maps Fl
set_option linter.unusedVariables false
set_option linter.unusedSimpArgs false

namespace Fl
open Ieee
theorem quot_cl {s t : Bool} {m n : Nat} {i j : Int} (m1 : 4503599627370496 ≤ m) (m2 : m < 9007199254740992) (n1 : 4503599627370496 ≤ n) (n2 : n < 9007199254740992) (i1 : -100 ≤ i) (i2 : i ≤ 100) (j1 : -100 ≤ j) (j2 : j ≤ 100) {r : Nat} (h : (Datum.quotient 54 (.number s m i) (.number t n j)).map double.write = some r) : Cl r := by
  have hl := lp_is
  rw [quot_nn, if_neg (by omega), log_52 m1 m2, log_52 n1 n2] at h
  injection h with h
  have e54 : 54 + 52 - 52 = 54 := rfl
  rw [e54, Nat.shiftLeft_eq] at h
  have hb : ((m * 2 ^ 54) % n != 0).toNat ≤ 1 := by cases ((m * 2 ^ 54) % n != 0) <;> simp
  have hd1 : 1 ≤ m * 2 ^ 54 / n := (Nat.le_div_iff_mul_le (by omega)).2 (by omega)
  have hd2 : m * 2 ^ 54 / n ≤ m * 2 ^ 54 := Nat.div_le_self _ _
  obtain ⟨Q, hQ⟩ : ∃ Q, Q = 2 * (m * 2 ^ 54 / n) + ((m * 2 ^ 54) % n != 0).toNat := ⟨_, rfl⟩
  rw [← hQ] at h
  have q0 : Q ≠ 0 := by omega
  have q1 : Q < 2 ^ 110 := by
    have : m * 2 ^ 54 < 9007199254740992 * 2 ^ 54 := Nat.mul_lt_mul_of_pos_right m2 (by decide)
    have e : (2 : Nat) ^ 110 = 4 * (9007199254740992 * 2 ^ 54) + (2 ^ 110 - 4 * (9007199254740992 * 2 ^ 54)) := by decide
    omega
  have hlog : Q.log2 < 110 := (Nat.log2_lt q0).2 q1
  obtain ⟨k, l, e1, e2, e3, e4, e5⟩ := near_nrm (s ^^ t) (i := i - j - (54 : Nat) - 1) q0 (by omega) (by omega)
  refine Or.inr (Or.inr (Or.inr ⟨s ^^ t, k, l, ?_, e2, e3, by omega, by omega⟩))
  rw [← h]
  exact e1
theorem fI_cl {k : Int} (h1 : -9223372036854775808 ≤ k) (h2 : k ≤ 9223372036854775807) : (∃ s, rd (fI k) = .number s 0 lp) ∨ (∃ s m i, rd (fI k) = .number s m i ∧ 4503599627370496 ≤ m ∧ m < 9007199254740992 ∧ -100 ≤ i ∧ i ≤ 100) := by
  by_cases h0 : k.natAbs = 0
  · refine Or.inl ⟨decide (k < 0), ?_⟩
    show rd (double.nearest (decide (k < 0)) k.natAbs 0) = _
    rw [h0]; exact near_zero _ _
  · have hlog : k.natAbs.log2 < 64 := (Nat.log2_lt h0).2 (by omega)
    obtain ⟨m, l, e1, e2, e3, e4, e5⟩ := near_nrm (decide (k < 0)) (i := 0) h0 (by omega) (by omega)
    exact Or.inr ⟨_, m, l, e1, e2, e3, by omega, by omega⟩
theorem rd_nz : rd 9223372036854775808 = .number true 0 lp := by decide +kernel
theorem flV_cl {n : Int} {x : Nat} (h1 : -9223372036854775808 ≤ n) (h2 : n ≤ 9223372036854775807) (h : flV n x) : Cl x := by
  have hl := lp_is
  have f := fI_cl (k := n / 16) (by omega) (by omega)
  unfold flV at h
  split at h
  · exact Or.inl h
  split at h
  · exact Or.inr (Or.inl ⟨false, by rw [h, rd_inf]⟩)
  split at h
  · exact Or.inr (Or.inl ⟨true, by rw [h, rd_inf]⟩)
  split at h
  · exact Or.inr (Or.inr (Or.inl ⟨false, lp, by rw [h, rd_zero]⟩))
  split at h
  · exact Or.inr (Or.inr (Or.inl ⟨true, lp, by rw [h, rd_nz]⟩))
  split at h
  · rw [h]
    rcases f with ⟨s, e⟩ | ⟨s, m, i, e, m1, m2, i1, i2⟩
    · exact Or.inr (Or.inr (Or.inl ⟨s, lp, e⟩))
    · exact Or.inr (Or.inr (Or.inr ⟨s, m, i, e, m1, m2, by omega, by omega⟩))
  split at h
  · rw [div_eq, rd_one] at h
    rcases f with ⟨s, e⟩ | ⟨s, m, i, e, m1, m2, i1, i2⟩
    · rw [e, quot_nn, if_pos rfl, if_neg (by decide)] at h
      injection h with h
      exact Or.inr (Or.inl ⟨false ^^ s, by rw [← h, wr_inf, rd_inf]⟩)
    · rw [e] at h
      exact quot_cl (by decide) (by decide) m1 m2 (by decide) (by decide) i1 i2 h
  · rw [div_eq, rd_64] at h
    rcases f with ⟨s, e⟩ | ⟨s, m, i, e, m1, m2, i1, i2⟩
    · rw [e, quot_zero _ _ _ _ _ _ (by decide)] at h
      injection h with h
      exact Or.inr (Or.inr (Or.inl ⟨_, lp, by rw [← h]; exact rd_word0 _⟩))
    · rw [e] at h
      exact quot_cl m1 m2 (by decide) (by decide) i1 i2 (by decide) (by decide) h
theorem run_mul_nan {P : Program} (t : TypeId) (x y : Nat) (h : floatBits .mul .f64 x y = none) (w : World) : (binOp .mul t (.float .f64 x) (.float .f64 y)).run P w = .ok (.float .f64 (nanW (.nanBits .f64 x y) w)) w.drew := by
  have h' : FloatKind.f64.format.mul x y = none := h
  simp [binOp, Op.floatArith, h']
  rfl
/-- twice a float, as it is run -/
theorem run_two (P : Program) (t : TypeId) (x : Nat) : ∃ (f : World → Nat) (g : World → World), (∀ W, (binOp .mul t (.float .f64 4611686018427387904) (.float .f64 x)).run P W = .ok (.float .f64 (f W)) (g W)) ∧ (∀ W, mulP x (f W)) ∧ (∀ W, Below W.heap.size W (g W)) := by
  cases h : floatBits .mul .f64 4611686018427387904 x with
  | some r => exact ⟨fun _ => r, fun W => W, fun W => run_float_arith W .mul t .f64 _ _ r h, fun _ => Or.inl h, fun W => Below.refl _ _⟩
  | none => exact ⟨fun W => nanW (.nanBits .f64 4611686018427387904 x) W, fun W => W.drew, fun W => run_mul_nan t _ _ h W, fun W => Or.inr ⟨h, nan_nanW _ _ _⟩, fun W => (Below.refl _ _).drew⟩
theorem quo_twice {x y x2 y2 p s : Nat} (cx : Cl x) (cy : Cl y) (hx : mulP x x2) (hy : mulP y y2) (h : quoP x y p) (hs : quoP x2 y2 s) : (nanB p = true → nanB s = true) ∧ sameB s p = true := by
  have e := quo_two cx cy hx hy
  have h3 : quoP x y s := by unfold quoP at *; rw [e] at hs; exact hs
  exact ⟨fun hn => (quo_nan h3).2 ((quo_nan h).1 hn), quo_same h3 h⟩
theorem same_ord {x y : Nat} (h : sameB x y = true) : ordI y x = 0 := by
  have h1 : ordI x y = 0 := of_decide_eq_true h
  have h2 : ordI y x = - ordI x y := ordD_anti _ _
  omega
end Fl
set_option maxHeartbeats 4000000 in
theorem StatsSigns_c (hR : RatioC) (hO : OrderC) (hM : MillsC) (hA : Aw20C) (a b : Int) (w : World) (ha : -9223372036854775808 ≤ a ∧ a ≤ 9223372036854775807) (hb : -9223372036854775808 ≤ b ∧ b ≤ 9223372036854775807) : Calls Try.prog 9 #[.int .i64 a, .int .i64 b] w fun e w' => e = .returned (.bool true) ∧ Below w.heap.size w w' := by
  have HR : Hid RatioC := hR
  have HO : Hid OrderC := hO
  have HM : Hid MillsC := hM
  have HA : Hid Aw20C := hA
  have HFa : Hid (∀ W : World, Calls Try.prog 15 #[.int .i64 a] W fun e w' => ∃ x, e = .returned (.float .f64 x) ∧ Hid (Cl x) ∧ Below W.heap.size W w') := fun W => (floated_c a W).mono fun e w' ⟨x, h1, h2, _, h3⟩ => ⟨x, h1, flV_cl ha.1 ha.2 h2.out, h3⟩
  have HFb : Hid (∀ W : World, Calls Try.prog 15 #[.int .i64 b] W fun e w' => ∃ x, e = .returned (.float .f64 x) ∧ Hid (Cl x) ∧ Below W.heap.size W w') := fun W => (floated_c b W).mono fun e w' ⟨x, h1, h2, _, h3⟩ => ⟨x, h1, flV_cl hb.1 hb.2 h2.out, h3⟩
  clear hR hO hM hA ha hb
  have un : ∀ (z : Nat) (W : World), (Op.unary .neg (.float .f64 z)).run Try.prog W = .ok (.float .f64 (Op.negFloat .f64 z)) W := fun z W => rfl
  go_enter Try.func9, Try.ntmps9
  go_upto_region 2 with (first
    | (go_at_call 15; refine (HFb.out W1).mono ?_; rintro e w2 ⟨y, rfl, HY, hb2⟩)
    | (go_at_call 15; refine (HFa.out _).mono ?_; rintro e w1 ⟨x, rfl, HX, hb1⟩; obtain ⟨W1, hW1⟩ : ∃ W1, W1 = w1 := ⟨_, rfl⟩; rw [← hW1] at hb1 ⊢; clear hW1))
  have HBw : Hid (Below w.heap.size w w2) := bel hb1 hb2
  clear hb1 hb2 HFa HFb
  obtain ⟨fx, gx, rx, mx, bx⟩ := run_two Try.prog 27 x
  obtain ⟨fy, gy, ry, my, by_⟩ := run_two Try.prog 27 y
  have HMx : Hid _ := mx
  have HMy : Hid _ := my
  have HBx : Hid _ := bx
  have HBy : Hid _ := by_
  clear mx my bx by_
  go_upto_region 3 with (first
    | (go_at_call 16; refine (HR.out _ _ W3).mono ?_; rintro e w4 ⟨q, rfl, HQ, HLq, hb4⟩)
    | (go_at_call 16; refine (HR.out x y _).mono ?_; rintro e w3 ⟨p, rfl, HPq, HLp, hb3⟩; obtain ⟨W3, hW3⟩ : ∃ W3, W3 = w3 := ⟨_, rfl⟩; rw [← hW3] at hb3 ⊢; clear hW3))
  go_upto_region 4 with (first
    | (go_at_call 16; refine (HR.out _ _ (gy (gx W5))).mono ?_; rintro e w6 ⟨s, rfl, HS, HLs, hb6⟩)
    | (go_at_call 16; refine (HR.out _ _ w4).mono ?_; rintro e w5 ⟨r, rfl, HRr, HLr, hb5⟩; obtain ⟨W5, hW5⟩ : ∃ W5, W5 = w5 := ⟨_, rfl⟩; rw [← hW5] at hb5 ⊢; clear hW5))
  have HB6 : Hid (Below w.heap.size w w6) := bel HBw.out (bel hb3 (bel hb4 (bel hb5 (bel (HBx.out _) (bel (HBy.out _) hb6)))))
  have F1 : Hid _ := quo_neg1 HPq.out HQ.out
  have F2 : Hid _ := quo_neg2 HPq.out HRr.out
  have F3 : Hid _ := quo_twice HX.out HY.out (HMx.out _) (HMy.out _) HPq.out HS.out
  clear HLq HLs hb3 hb4 hb5 hb6 HBw HBx HBy HMx HMy rx ry HX HY HPq HQ HRr HS HR
  cases hp : nanB p with
  | true =>
    have Np : Hid _ := none_t hp
    have Nq : Hid _ := none_t (F1.out.1 hp)
    have Nr : Hid _ := none_t (F2.out.1 hp)
    have Ns : Hid _ := none_t (F3.out.1 hp)
    have Mp : Hid _ := mills_yes HM.out (mil_nan hp)
    clear hp F1 F2 F3 HLp HLr
    go_wp2_with (first
      | (go_at_call_of 22 (Value.float FloatKind.f64 p); refine (Np.out _).mono ?_; rintro e w' ⟨rfl, rfl⟩)
      | (go_at_call_of 22 (Value.float FloatKind.f64 q); refine (Nq.out _).mono ?_; rintro e w' ⟨rfl, rfl⟩)
      | (go_at_call_of 22 (Value.float FloatKind.f64 r); refine (Nr.out _).mono ?_; rintro e w' ⟨rfl, rfl⟩)
      | (go_at_call_of 22 (Value.float FloatKind.f64 s); refine (Ns.out _).mono ?_; rintro e w' ⟨rfl, rfl⟩)
      | (go_at_call 20; refine (Mp.out _).mono ?_; rintro e w7 ⟨rfl, hb7⟩)
      | (go_at_call 12; refine (HA.out _).mono ?_; rintro e w8 ⟨rfl, hb8⟩))
    go_ret
    exact ⟨rfl, bel HB6.out (bel hb7 hb8)⟩
  | false =>
    have Np : Hid (∀ W : World, Calls Try.prog 22 #[.float .f64 p] W fun e w' => e = .returned (.bool false) ∧ w' = W) := fun W => by have := None_c p W; rw [hp] at this; exact this
    have Sq : Hid _ := same_t (F1.out.2 hp)
    have Sr : Hid _ := same_t F2.out.2
    have Ss : Hid _ := same_t F3.out.2
    have Or : Hid (∀ W : World, Calls Try.prog 17 #[.float .f64 p, .float .f64 r] W fun e w' => e = .returned (.int .i64 0) ∧ Below W.heap.size W w') := fun W => by have := HO.out p r W HLp HLr; rw [same_ord F2.out.2] at this; exact this
    clear hp F1 F2 F3 HLp HLr
    go_wp2_with (first
      | (go_at_call 22; refine (Np.out _).mono ?_; rintro e w' ⟨rfl, rfl⟩)
      | (go_at_call_of 14 (Value.float FloatKind.f64 q); refine (Sq.out _).mono ?_; rintro e w' ⟨rfl, rfl⟩)
      | (go_at_call_of 14 (Value.float FloatKind.f64 r); refine (Sr.out _).mono ?_; rintro e w' ⟨rfl, rfl⟩)
      | (go_at_call_of 14 (Value.float FloatKind.f64 s); refine (Ss.out _).mono ?_; rintro e w' ⟨rfl, rfl⟩)
      | (go_at_call 17; refine (Or.out _).mono ?_; rintro e w7 ⟨rfl, hb7⟩)
      | (go_at_call 12; refine (HA.out _).mono ?_; rintro e w8 ⟨rfl, hb8⟩))
    go_ret
    exact ⟨rfl, bel HB6.out (bel hb7 hb8)⟩
end Go.Proofs.Ytiecneefommdlaa
