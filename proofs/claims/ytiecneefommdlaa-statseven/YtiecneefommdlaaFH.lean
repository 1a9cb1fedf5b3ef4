/- Layer 20: awake, over what the program's functions tell. -/
import Derived.Test.YtiecneefommdlaaFG
import Derived.Deep.RegionHeld3
namespace Go.Proofs.Ytiecneefommdlaa
set_option maxRecDepth 100000
open Go.RowKit Lg Nl Go.Maps Fl
set_option linter.unusedVariables false
set_option linter.unusedSimpArgs false

def MillsC : Prop := ∀ (x : Nat) (w : World), Calls Try.prog 21 #[.float .f64 x] w fun e w' => e = .returned (.tuple #[.int .i64 (milV x).1, .int .i64 (milV x).2]) ∧ Below w.heap.size w w'
def OfZC : Prop := ∀ w : World, Calls Try.prog 10 #[.agg #[.slice none 0 0, .slice none 0 0, .slice none 0 0, .slice none 0 0], .int .i64 (-1), .int .i64 0] w fun e w' => ∃ r1 r2 r3, e = .returned (.tuple #[.agg #[.int .i64 0, .float .f64 r1, .float .f64 r2, .float .f64 r3, .float .f64 (infW false), .float .f64 (infW true)], .int .i64 0]) ∧ Hid (nanB r1 = true ∧ nanB r2 = true) ∧ Below w.heap.size w w'
theorem mills_yes (hM : MillsC) {x : Nat} {n k : Int} (h : milV x = (n, k)) (w : World) : Calls Try.prog 20 #[.float .f64 x, .int .i64 n, .int .i64 k] w fun e w' => e = .returned (.bool true) ∧ Below w.heap.size w w' := by
  have HM : Hid (∀ W : World, Calls Try.prog 21 #[.float .f64 x] W fun e w' => e = .returned (.tuple #[.int .i64 n, .int .i64 k]) ∧ Below W.heap.size W w') := fun W => by have := hM x W; rw [h] at this; exact this
  clear hM h
  go_enter Try.func20, Try.ntmps20
  go_wp2_with (first
    | (go_at_call 21; refine (HM.out _).mono ?_; rintro e w1 ⟨rfl, hb1⟩))
  go_ret
  exact ⟨rfl, hb1⟩
theorem mil_half : milV 4602678819172646912 = (500, 0) := by decide +kernel
theorem mil_nan {x : Nat} (h : nanB x = true) : milV x = (0, 1) := by unfold milV; rw [h]; rfl
theorem ord_qh : ordI 4598175219545276416 4602678819172646912 = -1 := by decide +kernel
theorem none_t {x : Nat} (h : nanB x = true) (w : World) : Calls Try.prog 22 #[.float .f64 x] w fun e w' => e = .returned (.bool true) ∧ w' = w := by
  have := None_c x w
  rw [h] at this
  exact this
theorem cells6 {w : World} {b : Nat} {y0 y1 y2 y3 y4 y5 : Value} {t : TypeId} (h : w.heap[b]? = some (.cells #[y0, y1, y2, y3, y4, y5] t (0, 0))) : w.cell? ⟨b, 1, none⟩ = some y1 ∧ w.cell? ⟨b, 2, none⟩ = some y2 ∧ w.cell? ⟨b, 4, none⟩ = some y4 ∧ w.cell? ⟨b, 5, none⟩ = some y5 :=
  ⟨by rw [Lib.cell_of_heap h]; rfl, by rw [Lib.cell_of_heap h]; rfl, by rw [Lib.cell_of_heap h]; rfl, by rw [Lib.cell_of_heap h]; rfl⟩
set_option maxHeartbeats 4000000 in
set_option maxRecDepth 1000000 in
theorem awake20 (hOf : OfZC) (hO : OrderC) (hM : MillsC) : Aw20C := by
  intro w
  have HOf : Hid OfZC := hOf
  have HO : Hid (∀ W : World, Calls Try.prog 17 #[.float .f64 4598175219545276416, .float .f64 4602678819172646912] W fun e w' => e = .returned (.int .i64 (-1)) ∧ Below W.heap.size W w') := fun W => by have := hO 4598175219545276416 4602678819172646912 W (lit_lt rfl) (lit_lt rfl); rw [ord_qh] at this; exact this
  have HM5 : Hid _ := mills_yes hM mil_half
  have HMn : Hid (∀ x, nanB x = true → ∀ W : World, Calls Try.prog 20 #[.float .f64 x, .int .i64 0, .int .i64 1] W fun e w' => e = .returned (.bool true) ∧ Below W.heap.size W w') := fun x h => mills_yes hM (mil_nan h)
  clear hOf hO hM
  have sf : ∀ (a : Addr) (x : Nat) (m : Mode) (W : World), (store a (.float .f64 x) m).run Try.prog W = stored Try.prog W a (.float .f64 x) m := fun a x m W => run_store Try.prog W a _ m rfl
  go_enter Try.func12, Try.ntmps12
  go_upto_region 2 with (first
    | (go_at_call 10; refine (HOf.out _).mono ?_; rintro e w1 ⟨r1, r2, r3, rfl, HR, hb1⟩))
  obtain ⟨W1, hW1⟩ : ∃ W1, W1 = w1.alloc (.cells #[.int .i64 0, .float .f64 r1, .float .f64 r2, .float .f64 r3, .float .f64 (infW false), .float .f64 (infW true)] 29) := ⟨_, rfl⟩
  rw [← hW1]
  have HB1 : Hid (Below w.heap.size w W1) := by rw [hW1]; exact belA hb1 _
  have HX1 : Hid (W1.heap[w1.heap.size]? = some (.cells #[.int .i64 0, .float .f64 r1, .float .f64 r2, .float .f64 r3, .float .f64 (infW false), .float .f64 (infW true)] 29 (0, 0))) := by rw [hW1]; exact alAt rfl
  clear hW1 hb1
  obtain ⟨X, hX⟩ : ∃ X, X = w1.heap.size := ⟨_, rfl⟩
  rw [← hX] at HX1 ⊢
  clear hX
  have lx := hLt HX1.out
  obtain ⟨x1, x2, x4, x5⟩ := cells6 HX1.out
  have H1 := HR.out.1
  have H2 := HR.out.2
  have HN1 : Hid _ := none_t H1
  have HN2 : Hid _ := none_t H2
  have HM2 : Hid _ := HMn.out r2 H2
  have i1 : (FloatKind.f64.format.order (infW false) (infW false) == some .eq) = true := inf_ord false false
  have i2 : (FloatKind.f64.format.order (infW true) (infW true) == some .eq) = true := inf_ord true true
  clear H1 H2 HR HMn
  have HI1 : Hid _ := Inf_c false
  have HI2 : Hid _ := Inf_c true
  generalize infW false = I1 at *
  generalize infW true = I2 at *
  clear sf HOf
  have HX2 : Hid (∀ Y, Below W1.drew.heap.size W1.drew Y → Y.cell? ⟨X, 1, none⟩ = some (.float .f64 r1) ∧ Y.cell? ⟨X, 2, none⟩ = some (.float .f64 r2) ∧ Y.cell? ⟨X, 4, none⟩ = some (.float .f64 I1) ∧ Y.cell? ⟨X, 5, none⟩ = some (.float .f64 I2)) := fun Y hY => cells6 ((hY.block X lx).trans HX1.out)
  go_region_held3 (fun w' => w'.cell? ⟨X, 1, none⟩ = some (.float .f64 r1) ∧ w'.cell? ⟨X, 2, none⟩ = some (.float .f64 r2) ∧ w'.cell? ⟨X, 4, none⟩ = some (.float .f64 I1) ∧ w'.cell? ⟨X, 5, none⟩ = some (.float .f64 I2)) (go_keep) (first
    | (go_at_call_of 22 (Value.float FloatKind.f64 r1); refine (HN1.out _).mono ?_; rintro e w' ⟨rfl, rfl⟩)
    | (go_at_call_of 22 (Value.float FloatKind.f64 r2); refine (HN2.out _).mono ?_; rintro e w' ⟨rfl, rfl⟩)
    | (go_at_call_of 32 (Value.bool false); refine (HI1.out _).mono ?_; rintro e w' ⟨rfl, rfl⟩)
    | (go_at_call_of 32 (Value.bool true); refine (HI2.out _).mono ?_; rintro e w' ⟨rfl, rfl⟩)
    | (go_at_call_of 20 (Value.float FloatKind.f64 4602678819172646912); refine (HM5.out _).mono ?_; rintro e w5 ⟨rfl, hb5⟩; obtain ⟨y1, y2, y4, y5⟩ := HX2.out w5 hb5)
    | (go_at_call_of 20 (Value.float FloatKind.f64 r2); refine (HM2.out _).mono ?_; rintro e w6 ⟨rfl, hb6⟩; obtain ⟨z1, z2, z4, z5⟩ := HX2.out w6 (bel hb5 hb6))
    | (go_at_call 17; refine (HO.out _).mono ?_; rintro e w7 ⟨rfl, hb7⟩; obtain ⟨v1, v2, v4, v5⟩ := HX2.out w7 (bel hb5 (bel hb6 hb7))))
  all_goals (
    go_wp2_with fail
    go_ret
    exact ⟨rfl, bel HB1.out ((Below.refl _ _).drew.trans (bel hb5 (bel hb6 hb7)))⟩)
end Go.Proofs.Ytiecneefommdlaa
