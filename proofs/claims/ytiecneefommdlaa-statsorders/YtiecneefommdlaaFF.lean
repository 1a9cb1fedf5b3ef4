/- Layer 20: StatsOrders, walked over what the program's functions tell. -/
import Derived.Test.YtiecneefommdlaaFE
namespace Go.Proofs.Ytiecneefommdlaa
set_option maxRecDepth 100000
open Go.RowKit Lg Nl Go.Maps Fl
set_option linter.unusedVariables false
set_option linter.unusedSimpArgs false

/-- how three floats stand to each other -/
structure Tri3 (p q r : Int) : Prop where
  p1 : p = -1 ∨ p = 0 ∨ p = 1
  q1 : q = -1 ∨ q = 0 ∨ q = 1
  r1 : r = -1 ∨ r = 0 ∨ r = 1
  le : p ≤ 0 → q ≤ 0 → r ≤ 0
  ge : 0 ≤ p → 0 ≤ q → 0 ≤ r
theorem tri3 (x y z : Nat) : Tri3 (ordI x y) (ordI y z) (ordI x z) :=
  ⟨ordD_rng _ _, ordD_rng _ _, ordD_rng _ _, ordD_le _ _ _, fun h1 h2 => by
    have e1 := ordD_anti (rd x) (rd y)
    have e2 := ordD_anti (rd y) (rd z)
    have e3 := ordD_anti (rd x) (rd z)
    have := ordD_le (rd z) (rd y) (rd x)
    unfold ordI at *
    omega⟩
set_option maxHeartbeats 4000000 in
theorem StatsOrders_c (hO : OrderC) (hA : Aw20C) (a b c : Int) (w : World) : Calls Try.prog 5 #[.int .i64 a, .int .i64 b, .int .i64 c] w fun e w' => e = .returned (.bool true) ∧ Below w.heap.size w w' := by
  have HO : Hid OrderC := hO
  have HA : Hid Aw20C := hA
  clear hO hA
  have HFa : Hid _ := floated_c a
  have HFb : Hid _ := floated_c b
  have HFc : Hid _ := floated_c c
  go_enter Try.func5, Try.ntmps5
  go_upto_region 2 with (first
    | (go_at_call 15; refine (HFc.out W2).mono ?_; rintro e w3 ⟨z, rfl, HZ, HLz, hb3⟩)
    | (go_at_call 15; refine (HFb.out W1).mono ?_; rintro e w2 ⟨y, rfl, HY, HLy, hb2⟩; obtain ⟨W2, hW2⟩ : ∃ W2, W2 = w2 := ⟨_, rfl⟩; rw [← hW2] at hb2 ⊢; clear hW2)
    | (go_at_call 15; refine (HFa.out _).mono ?_; rintro e w1 ⟨x, rfl, HX, HLx, hb1⟩; obtain ⟨W1, hW1⟩ : ∃ W1, W1 = w1 := ⟨_, rfl⟩; rw [← hW1] at hb1 ⊢; clear hW1))
  clear HX HY HZ HFa HFb HFc
  have HBw : Hid (Below w.heap.size w w3) := bel hb1 (bel hb2 hb3)
  clear hb1 hb2 hb3
  have HT : Hid (Tri3 (ordI x y) (ordI y z) (ordI x z)) := tri3 x y z
  have HOxy : Hid (∀ W : World, Calls Try.prog 17 #[.float .f64 x, .float .f64 y] W fun e w' => e = .returned (.int .i64 (ordI x y)) ∧ Below W.heap.size W w') := fun W => HO.out x y W HLx HLy
  have HOyz : Hid (∀ W : World, Calls Try.prog 17 #[.float .f64 y, .float .f64 z] W fun e w' => e = .returned (.int .i64 (ordI y z)) ∧ Below W.heap.size W w') := fun W => HO.out y z W HLy HLz
  have HOxz : Hid (∀ W : World, Calls Try.prog 17 #[.float .f64 x, .float .f64 z] W fun e w' => e = .returned (.int .i64 (ordI x z)) ∧ Below W.heap.size W w') := fun W => HO.out x z W HLx HLz
  have HRxy : Hid _ := Order_c x y
  have HRyz : Hid _ := Order_c y z
  have HSxy : Hid (∀ W, Calls Try.prog 14 #[.float .f64 x, .float .f64 y] W fun e w' => e = .returned (.bool (decide (ordI x y = 0))) ∧ w' = W) := fun W => Same_c x y W
  have HOyx : Hid (∀ W : World, Calls Try.prog 17 #[.float .f64 y, .float .f64 x] W fun e w' => e = .returned (.int .i64 (- ordI x y)) ∧ Below W.heap.size W w') := fun W => by
    have h := HO.out y x W HLy HLx
    rw [show ordI y x = - ordI x y from ordD_anti _ _] at h
    exact h
  clear HLx HLy HLz
  generalize ordI x y = p at *
  generalize ordI y z = q at *
  generalize ordI x z = r at *
  obtain ⟨m, hm⟩ : ∃ m, m = - p := ⟨_, rfl⟩
  rw [← hm] at HOyx
  have HPm : Hid ((p = -1 ∧ m = 1) ∨ (p = 0 ∧ m = 0) ∨ (p = 1 ∧ m = -1)) := by have := HT.out.p1; show _ ∨ _; omega
  clear hm
  go_upto_region 3 with (first
    | (go_at_call_of 17 (Value.float FloatKind.f64 x); go_at_call_of 17 (Value.float FloatKind.f64 y); refine (HOxy.out _).mono ?_; rintro e w4 ⟨rfl, hb4⟩)
    | (go_at_call_of 17 (Value.float FloatKind.f64 y); go_at_call_of 17 (Value.float FloatKind.f64 z); refine (HOyz.out _).mono ?_; rintro e w5 ⟨rfl, hb5⟩)
    | (go_at_call_of 17 (Value.float FloatKind.f64 x); go_at_call_of 17 (Value.float FloatKind.f64 z); refine (HOxz.out _).mono ?_; rintro e w6 ⟨rfl, hb6⟩))
  have HB6 : Hid (Below w.heap.size w w6) := bel HBw.out (bel hb4 (bel hb5 hb6))
  clear hb4 hb5 hb6 HBw HO HOxy HOyz HOxz
  rcases HPm.out with ⟨rfl, rfl⟩ | ⟨rfl, rfl⟩ | ⟨rfl, rfl⟩ <;> rcases HT.out.q1 with rfl | rfl | rfl <;> rcases HT.out.r1 with rfl | rfl | rfl
  all_goals first
    | (exfalso; have h1 := HT.out.le; have h2 := HT.out.ge; omega)
    | (clear HPm HT
       go_wp2_with (first
         | (go_at_call_of 18 (Value.float FloatKind.f64 x); go_at_call_of 18 (Value.float FloatKind.f64 y); refine (HRxy.out _).mono ?_; rintro e w7 ⟨rfl, rfl⟩)
         | (go_at_call_of 18 (Value.float FloatKind.f64 y); go_at_call_of 18 (Value.float FloatKind.f64 z); refine (HRyz.out _).mono ?_; rintro e w8 ⟨rfl, rfl⟩)
         | (go_at_call 17; refine (HOyx.out _).mono ?_; rintro e w9 ⟨rfl, hb9⟩)
         | (go_at_call 14; refine (HSxy.out _).mono ?_; rintro e w10 ⟨rfl, rfl⟩)
         | (go_at_call 12; refine (HA.out _).mono ?_; rintro e w11 ⟨rfl, hb11⟩))
       go_ret
       exact ⟨rfl, bel HB6.out (bel hb9 hb11)⟩)
end Go.Proofs.Ytiecneefommdlaa
