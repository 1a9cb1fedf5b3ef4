/- The program's mayBe: is a node as its kind asks for? -/
import Derived.Test.YtpdcmehjndhcjaaKI
namespace Go.Proofs.Ytpdcmehjndhcjaa
open Go.RowKit Lg Nl Go.Maps
set_option linter.unusedVariables false
set_option linter.unusedSimpArgs false

def mbB (l : List Nd) (x : Nd) : Bool := x.ins.all (inB l.length) && wideB x && fitX x (wsOf l x.ins) && zeroB x
theorem own_ints {w : World} {B : Nat} {v : Value} {ws : List Int} (h : w.ownsRow B 3 1 v ws.length (iC ws)) : IntsAt w v ws := by
  rcases h.2 with ⟨rfl, h0⟩ | ⟨g, cap, cur, rfl, hg, hh, hc, _⟩
  · exact ⟨none, 0, by rw [h0], by omega, Or.inl (List.eq_nil_of_length_eq_zero h0)⟩
  · exact ⟨_, cap, rfl, hc, Or.inr ⟨g, 0, rfl, hLt hh, fun i hi => by rw [Nat.zero_add]; exact own_cell h i hi⟩⟩
set_option maxRecDepth 100000 in
set_option maxHeartbeats 4000000 in
theorem kMayBe_c (l : List Nd) (x : Nd) (vN : Value) (ia : Option Addr) (ic : Nat) (w : World) (hN : NdsAt w vN l) (hi : IntsAt w (.slice ia x.ins.length ic) x.ins) (hl : l.length ≤ 140737488355328) (hm : x.ins.length ≤ 17592186044416) (hv : x.vl.length ≤ 140737488355328) :
    Calls Try.prog 27 #[.agg #[.int .i64 x.k, .int .i64 x.op, .int .i64 x.wd, .slice ia x.ins.length ic, .string (S x.vl), .int .i64 x.hi, .int .i64 x.lo, .int .i64 x.tm], vN] w fun e w' => e = .returned (.bool (mbB l x)) ∧ Below w.heap.size w w' := by
  have HW : Hid (∀ W, Below w.heap.size w W → Calls Try.prog 32 #[.slice ia x.ins.length ic, vN] W fun e w' => ((x.ins.all (inB l.length) = true ∧ ∃ ao cp, e = .returned (.tuple #[.slice ao x.ins.length cp, .bool true]) ∧ w'.ownsRow W.heap.size 3 1 (.slice ao x.ins.length cp) x.ins.length (iC (wsOf l x.ins))) ∨ (x.ins.all (inB l.length) = false ∧ e = .returned (.tuple #[.slice none 0 0, .bool false]))) ∧ Below W.heap.size W w') := fun W hW => kWidths_c l x.ins vN _ W (hN.below hW) (hi.below hW) hl hm
  have HFI : Hid (∀ (W : World) (vi : Value), IntsAt W vi (wsOf l x.ins) → Calls Try.prog 33 #[.agg #[.int .i64 x.k, .int .i64 x.op, .int .i64 x.wd, .slice ia x.ins.length ic, .string (S x.vl), .int .i64 x.hi, .int .i64 x.lo, .int .i64 x.tm], vi] W fun e w' => e = .returned (.bool (fitX x (wsOf l x.ins))) ∧ Below W.heap.size W w') := fun W vi h => kFits_c x (wsOf l x.ins) vi ia _ ic W h (by rw [wsOf_len]; exact hm) hv
  obtain ⟨na, nc, rfl, hnc, hN'⟩ := id hN
  unfold mbB
  generalize fitX x (wsOf l x.ins) = fx at *
  have hwl : (wsOf l x.ins).length = x.ins.length := wsOf_len l x.ins
  generalize wsOf l x.ins = ws at *
  generalize x.ins.all (inB l.length) = ai at *
  obtain ⟨k, op, wd, ins, vl, hi', lo, tm⟩ := x
  simp only at *
  generalize ins.length = q at *
  have HWL : Hid (ws.length = q) := hwl
  obtain ⟨R, hR⟩ : ∃ R, R = (ai && wideB ⟨k, op, wd, ins, vl, hi', lo, tm⟩ && fx && zeroB ⟨k, op, wd, ins, vl, hi', lo, tm⟩) := ⟨_, rfl⟩
  rw [← hR]
  have HR : Hid (R = (ai && wideB ⟨k, op, wd, ins, vl, hi', lo, tm⟩ && fx && zeroB ⟨k, op, wd, ins, vl, hi', lo, tm⟩)) := hR
  clear hR hwl hN hi hN'
  have hP : ai = false ∨ (ai = true ∧ wd < 1) ∨ (ai = true ∧ 1 ≤ wd ∧ 256 < wd) ∨ (ai = true ∧ 1 ≤ wd ∧ wd ≤ 256 ∧ fx = false) ∨ (ai = true ∧ 1 ≤ wd ∧ wd ≤ 256 ∧ fx = true) := by
    cases ai <;> cases fx <;> simp <;> omega
  rcases hP with rfl | ⟨rfl, p1⟩ | ⟨rfl, p1, p2⟩ | ⟨rfl, p1, p2, rfl⟩ | ⟨rfl, p1, p2, rfl⟩
  · simp only [Bool.false_eq_true, false_and, true_and, false_or] at HW
    go_enter Try.func27, Try.ntmps27
    go_wp2_with (first | (go_at_call 32; refine (HW.out _ (belA (Below.refl _ _) _)).mono ?_; rintro e w5 ⟨rfl, hb5⟩))
    all_goals (go_ret; exact ⟨ret_bool (by rw [HR.out]; rfl), bel (belA (Below.refl _ _) _) hb5⟩)
  all_goals simp only [true_and, Bool.true_eq_false, false_and, or_false] at HW
  · go_enter Try.func27, Try.ntmps27
    go_wp2_with (first | (go_at_call 32; refine (HW.out _ (belA (Below.refl _ _) _)).mono ?_; rintro e w5 ⟨⟨ao, cp, rfl, ho5⟩, hb5⟩; have hx := hb5.block w.heap.size (by simp); rw [alAt rfl] at hx; obtain ⟨x0, x1, x2, x3, x4, x5, x6, x7⟩ := cells8 hx))
    all_goals (go_ret; exact ⟨ret_bool (by rw [HR.out]; simp [wideB]; omega), bel (belA (Below.refl _ _) _) hb5⟩)
  · go_enter Try.func27, Try.ntmps27
    go_wp2_with (first | (go_at_call 32; refine (HW.out _ (belA (Below.refl _ _) _)).mono ?_; rintro e w5 ⟨⟨ao, cp, rfl, ho5⟩, hb5⟩; have hx := hb5.block w.heap.size (by simp); rw [alAt rfl] at hx; obtain ⟨x0, x1, x2, x3, x4, x5, x6, x7⟩ := cells8 hx))
    all_goals (go_ret; exact ⟨ret_bool (by rw [HR.out]; simp [wideB]; omega), bel (belA (Below.refl _ _) _) hb5⟩)
  · go_enter Try.func27, Try.ntmps27
    go_wp2_with (first | (go_at_call 32; refine (HW.out _ (belA (Below.refl _ _) _)).mono ?_; rintro e w5 ⟨⟨ao, cp, rfl, ho5⟩, hb5⟩; have hx := hb5.block w.heap.size (by simp); rw [alAt rfl] at hx; obtain ⟨x0, x1, x2, x3, x4, x5, x6, x7⟩ := cells8 hx) | (go_at_call 33; refine (HFI.out _ _ (own_ints (by rw [HWL.out]; exact ho5))).mono ?_; rintro e w6 ⟨rfl, hb6⟩))
    all_goals (go_ret; exact ⟨ret_bool (by rw [HR.out]; simp), bel (bel (belA (Below.refl _ _) _) hb5) hb6⟩)
  · have W56 : ∀ {w5 w6 : World} {bx : Obj}, Below (w.alloc bx).heap.size (w.alloc bx) w5 → Below w5.heap.size w5 w6 → w6.heap[w.heap.size]? = some bx := fun h5 h6 => (h6.block _ (Nat.lt_of_lt_of_le (by simp) h5.size)).trans ((h5.block _ (by simp)).trans (alAt rfl))
    rcases (by omega : k = 1 ∨ (k = 3 ∧ op = 4) ∨ (k = 3 ∧ op ≠ 4) ∨ k = 8 ∨ (k ≠ 1 ∧ k ≠ 3 ∧ k ≠ 8)) with rfl | ⟨rfl, rfl⟩ | ⟨rfl, h4⟩ | rfl | ⟨h1, h3, h8⟩
    all_goals
      go_enter Try.func27, Try.ntmps27
      go_wp2_with (first | (go_at_call 32; refine (HW.out _ (belA (Below.refl _ _) _)).mono ?_; rintro e w5 ⟨⟨ao, cp, rfl, ho5⟩, hb5⟩; have hx := hb5.block w.heap.size (by simp); rw [alAt rfl] at hx; obtain ⟨x0, x1, x2, x3, x4, x5, x6, x7⟩ := cells8 hx) | (go_at_call 33; refine (HFI.out _ _ (own_ints (by rw [HWL.out]; exact ho5))).mono ?_; rintro e w6 ⟨rfl, hb6⟩; have hy := W56 hb5 hb6; have yf := fun j => Lib.frozen_of_heap hy j; obtain ⟨y0, y1, y2, y3, y4, y5, y6, y7⟩ := cells8 hy; have yl := hLt hy))
      all_goals have B6 := bel (bel (belA (Below.refl _ _) _) hb5) hb6
      all_goals (go_ret; exact ⟨ret_bool (by rw [HR.out, Bool.eq_iff_iff]; clear HR HW HFI HWL W56 B6; simp_all [wideB, zeroB, S_toList]), by first | exact B6 | exact B6.setCell (Nat.le_refl _) _ | exact (B6.setCell (Nat.le_refl _) _).setCell (Nat.le_refl _) _ | exact ((B6.setCell (Nat.le_refl _) _).setCell (Nat.le_refl _) _).setCell (Nat.le_refl _) _⟩)
end Go.Proofs.Ytpdcmehjndhcjaa
