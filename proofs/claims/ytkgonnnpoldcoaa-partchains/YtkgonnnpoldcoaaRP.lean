/- Layer 13's awake. -/
import Derived.Test.YtkgonnnpoldcoaaRO
namespace Go.Proofs.Ytkgonnnpoldcoaa
open Go.RowKit Lg Nl Go.Maps
set_option linter.unusedVariables false
set_option linter.unusedSimpArgs false
set_option maxRecDepth 100000

def pIn : Nd := ⟨2, 0, 1, [], [], 0, 0, 0⟩
def pDe : Nd := ⟨8, 0, 1, [0], [], 0, 0, 2⟩
def pL : List Nd := [pIn, pDe]
theorem pL_may : mayN pL [0, 1] 2 = true := by decide +kernel
theorem pL_fits : Fits pL [0, 1] := ⟨by decide, by decide, by decide, by decide⟩
theorem pL_lev : Lev pL (gAt [0, 0]) := levB_lev (by decide +kernel)
theorem pL_ok1 : PtsOk pL [0, 0] 1 [[0]] := by
  refine ⟨by omega, by omega, rfl, fun z hz => by simp at hz; omega, fun k a b => by have e : k = 0 := (by omega); rw [e]; simp, fun i hi h8 z hz => ?_, by decide +kernel⟩
  have h0 : i = 0 ∨ i = 1 := by simp [pL] at hi; omega
  rcases h0 with rfl | rfl
  · simp [ndAt, pL, pIn] at hz
  · exact absurd rfl h8
theorem pL_ok2 : PtsOk pL [0, 1] 2 [[0, 2], [0, 0]] := by
  refine ⟨by omega, by omega, rfl, fun z hz => by simp at hz; omega, fun k a b => ?_, fun i hi h8 z hz => ?_, by decide +kernel⟩
  · have e : k = 0 ∨ k = 1 := by omega
    rcases e with rfl | rfl <;> simp
  · have h0 : i = 0 ∨ i = 1 := by simp [pL] at hi; omega
    rcases h0 with rfl | rfl
    · simp [ndAt, pL, pIn] at hz
    · exact absurd rfl h8
theorem Pw.ints {B n c O M : Nat} {R : Nat → Nat} {of : Nat → Int} {A : Nat → Nat → Int} {W : World} (h : Pw B n c O M R of A W) : IntsAt W (.slice (some ⟨O, 0, none⟩) n n) (rowL n of) := rowInts h.o
theorem pL_run (vN vT : Value) (W : World) (hN : NdsAt W vN pL) (hT : IntsAt W vT [0, 1]) :
    Calls Try.prog 9 #[.agg #[vN, vT, .int .i64 2], .int .i64 1] W fun e w' => ∃ O M, e = .returned (.tuple #[.agg #[.slice (some ⟨O, 0, none⟩) 2 2, .int .i64 1, .slice (some ⟨M, 0, none⟩) 1 1], .int .i64 0]) ∧ Hid (IntsAt w' (.slice (some ⟨O, 0, none⟩) 2 2) [0, 0]) ∧ Hid (RowsAt w' (.slice (some ⟨M, 0, none⟩) 1 1) [[0]]) ∧ Below W.heap.size W w' := by
  refine (pRun_c pL [0, 1] 1 vN vT 2 W hN hT pL_fits (by decide)).mono ?_
  rintro e w' ⟨hP, hb⟩
  rcases hP with ⟨h, _⟩ | ⟨_, ⟨p, hp⟩, _⟩ | ⟨_, _, c, O, M, R, of, rfl, hc, hw, hk⟩
  · rcases h with h | h | h | h
    · omega
    · omega
    · cases h
    · rw [pL_may] at h; cases h
  · exact (lev_ring (may_ok pL_may) pL_lev hp).elim
  · have c1 : c = 1 := by have := hk.out.lo; omega
    subst c1
    have hl : rowL 2 of = [0, 0] := by
      have h0 := hk.out.r (of 0) (List.mem_map.2 ⟨0, List.mem_range.2 (by decide), rfl⟩)
      have h1 := hk.out.r (of 1) (List.mem_map.2 ⟨1, List.mem_range.2 (by decide), rfl⟩)
      show [of 0, of 1] = [0, 0]
      have e0 : of 0 = 0 := by omega
      have e1 : of 1 = 0 := by omega
      rw [e0, e1]
    refine ⟨O, M, rfl, ?_, ?_, hb⟩
    · have h := hw.out.ints
      have h' : IntsAt w' (.slice (some ⟨O, 0, none⟩) 2 2) (rowL 2 of) := h
      rw [hl] at h'; exact h'
    · have h := hw.out.x.rows
      have h' : RowsAt w' (.slice (some ⟨M, 0, none⟩) 1 1) (aheadL pL (rowL 2 of) 1) := h
      rw [hl] at h'
      have e : aheadL pL [0, 0] 1 = [[0]] := by decide +kernel
      rw [e] at h'; exact h'
theorem pL_run65 (vN vT : Value) (W : World) (hN : NdsAt W vN pL) (hT : IntsAt W vT [0, 1]) :
    Calls Try.prog 9 #[.agg #[vN, vT, .int .i64 2], .int .i64 65] W fun e w' => e = .returned (.tuple #[.agg #[.slice none 0 0, .int .i64 0, .slice none 0 0], .int .i64 1]) ∧ Below W.heap.size W w' := by
  refine (pRun_c pL [0, 1] 65 vN vT 2 W hN hT pL_fits (by decide)).mono ?_
  rintro e w' ⟨hP, hb⟩
  rcases hP with ⟨_, h⟩ | ⟨h, _⟩ | ⟨h, _⟩
  · exact ⟨h, hb⟩
  · omega
  · omega
theorem pL_check (vN vT vO vA : Value) {of : List Int} {N : Int} {ah : List (List Int)} (W : World) (hN : NdsAt W vN pL) (hT : IntsAt W vT [0, 1]) (hO : IntsAt W vO of) (hA : RowsAt W vA ah) (hk : PtsOk pL of N ah) :
    Calls Try.prog 12 #[.agg #[vN, vT, .int .i64 2], .agg #[vO, .int .i64 N, vA]] W fun e w' => e = .returned (.int .i64 0) ∧ Below W.heap.size W w' := by
  refine (pCheck_c pL [0, 1] of ah N vN vT vO vA 2 W hN hT pL_fits hO hA).mono ?_
  rintro e w' ⟨hP, hb⟩
  rcases hP with ⟨_, h⟩ | ⟨h, _⟩
  · exact ⟨h, hb⟩
  · exact absurd ⟨pL_may, hk⟩ h
theorem pL_at (w : World) : NdsAt ((w.alloc (.cells #[.int .i64 0] 3)).alloc (.cells #[.int .i64 2, .int .i64 0, .int .i64 1, .slice none 0 0, .string ⟨#[]⟩, .int .i64 0, .int .i64 0, .int .i64 0, .int .i64 8, .int .i64 0, .int .i64 1, .slice (some ⟨w.heap.size, 0, none⟩) 1 1, .string ⟨#[]⟩, .int .i64 0, .int .i64 0, .int .i64 2] 47)) (.slice (some ⟨w.heap.size + 1, 0, none⟩) 2 2) pL := by
  have ho := World.ownsRow_lit (base := 0) (e := 47) (size := 8) (w.alloc (.cells #[.int .i64 0] 3)) (ndC pIn (.slice none 0 0) ++ (ndC pDe (.slice (some ⟨w.heap.size, 0, none⟩) 1 1) ++ [])).toArray 2 (Nat.zero_le _) (by decide) rfl
  have k : KeepN anyB (w.alloc (.cells #[.int .i64 0] 3)) ((w.alloc (.cells #[.int .i64 0] 3)).alloc (.cells (ndC pIn (.slice none 0 0) ++ (ndC pDe (.slice (some ⟨w.heap.size, 0, none⟩) 1 1) ++ [])).toArray 47)) := ⟨by simp, fun k hk _ => alOld hk⟩
  have h1 : (w.alloc (.cells #[.int .i64 0] 3)).cell? ⟨w.heap.size, 0, none⟩ = some (.int .i64 0) := by rw [Lib.cell_of_heap (alAt rfl)]; rfl
  rw [World.size_alloc] at ho
  exact own_nds (N := anyB) ho ((NcAt.cons (x := pIn) (ints_none _) (NcAt.cons (x := pDe) (ints_one (by simp) h1) NcAt.nil)).keep k)
theorem rows_two {w : World} {g a b : Nat} {x y : List Int} (hx : IntsAt w (.slice (some ⟨a, 0, none⟩) 2 2) x) (hy : IntsAt w (.slice (some ⟨b, 0, none⟩) 2 2) y) (hg : w.heap[g]? = some (.cells #[.slice (some ⟨a, 0, none⟩) 2 2, .slice (some ⟨b, 0, none⟩) 2 2] 24 (0, 0))) : RowsAt w (.slice (some ⟨g, 0, none⟩) 2 2) [x, y] := by
  refine ⟨_, 2, rfl, Nat.le_refl _, Or.inr ⟨g, 0, rfl, hLt hg, fun i hi => ?_⟩⟩
  have h0 : i = 0 ∨ i = 1 := by simp at hi; omega
  rcases h0 with rfl | rfl
  · exact ⟨_, hx, by rw [Lib.cell_of_heap hg]; rfl⟩
  · exact ⟨_, hy, by rw [Lib.cell_of_heap hg]; rfl⟩
set_option maxHeartbeats 4000000 in
theorem awake13 (w : World) : Calls Try.prog 10 #[] w fun e w' => e = .returned (.bool true) ∧ Below w.heap.size w w' := by
  go_enter Try.func10, Try.ntmps10
  go_wp2_with fail
  refine gen_calls (fun W => NdsAt W (.slice (some ⟨w.heap.size + 1, 0, none⟩) 2 2) pL ∧ IntsAt W (.slice (some ⟨w.heap.size + 1 + 1, 0, none⟩) 2 2) [0, 1] ∧ W.heap[w.heap.size + 1 + 1 + 1]? = some (.cells #[.slice (some ⟨w.heap.size + 1, 0, none⟩) 2 2, .slice (some ⟨w.heap.size + 1 + 1, 0, none⟩) 2 2, .int .i64 2] 26 (0, 0)) ∧ Below w.heap.size w W) ⟨(pL_at w).below (belA (belA (Below.refl _ _) _) _), (ints_two' _ 0 1 (by simp)).below (belA (Below.refl _ _) _), alAt (by simp), belA (belA (belA (belA (Below.refl _ _) _) _) _) _⟩ ?_
  rintro W1 ⟨hN1, hT1, hX1, hB1'⟩
  have HB1 : Hid (Below w.heap.size w W1) := hB1'
  generalize w.heap.size + 1 + 1 + 1 = X1 at hX1 ⊢
  generalize w.heap.size + 1 + 1 = X2 at hX1 hT1 ⊢
  generalize w.heap.size + 1 = X3 at hX1 hN1 ⊢
  have HN1 : Hid (NdsAt W1 (.slice (some ⟨X3, 0, none⟩) 2 2) pL) := hN1
  have HT1 : Hid (IntsAt W1 (.slice (some ⟨X2, 0, none⟩) 2 2) [0, 1]) := hT1
  have HX1 : Hid (W1.heap[X1]? = some (.cells #[.slice (some ⟨X3, 0, none⟩) 2 2, .slice (some ⟨X2, 0, none⟩) 2 2, .int .i64 2] 26 (0, 0))) := hX1
  clear hN1 hT1 hX1 hB1'
  refine (pL_run _ _ W1 HN1.out HT1.out).mono ?_
  rintro e w2 ⟨O, M, rfl, HI2, HR2, hb2⟩
  have HB2 : Hid (Below W1.heap.size W1 w2) := hb2
  obtain ⟨a0, a1, a2⟩ := cells3n ((hb2.block X1 (hLt HX1.out)).trans HX1.out)
  have lX := Nat.lt_of_lt_of_le (hLt HX1.out) hb2.size
  clear hb2
  go_wp2_with fail
  refine gen_calls (fun W => W.heap[w2.heap.size]? = some (.cells #[.slice (some ⟨O, 0, none⟩) 2 2, .int .i64 1, .slice (some ⟨M, 0, none⟩) 1 1] 30 (0, 0)) ∧ Below w2.heap.size w2 W) ⟨alAt rfl, belA (Below.refl _ _) _⟩ ?_
  rintro W3 ⟨hY3, hB3'⟩
  have HB3 : Hid (Below W1.heap.size W1 W3) := bel HB2.out hB3'
  have HI3 : Hid (IntsAt W3 (.slice (some ⟨O, 0, none⟩) 2 2) [0, 0]) := HI2.out.below hB3'
  have HR3 : Hid (RowsAt W3 (.slice (some ⟨M, 0, none⟩) 1 1) [[0]]) := HR2.out.below hB3'
  generalize w2.heap.size = Y at hY3 ⊢
  have HY3 : Hid (W3.heap[Y]? = some (.cells #[.slice (some ⟨O, 0, none⟩) 2 2, .int .i64 1, .slice (some ⟨M, 0, none⟩) 1 1] 30 (0, 0))) := hY3
  clear hY3 hB3' a0 a1 a2 lX HI2 HR2 HB2
  refine (pL_run65 _ _ W3 (HN1.out.below HB3.out) (HT1.out.below HB3.out)).mono ?_
  rintro e w4 ⟨rfl, hb4⟩
  have HB4 : Hid (Below W3.heap.size W3 w4) := hb4
  obtain ⟨a0, a1, a2⟩ := cells3n (((bel HB3.out hb4).block X1 (hLt HX1.out)).trans HX1.out)
  obtain ⟨b0, b1, b2⟩ := cells3n ((hb4.block Y (hLt HY3.out)).trans HY3.out)
  have lX := Nat.lt_of_lt_of_le (hLt HX1.out) (bel HB3.out hb4).size
  have lY := Nat.lt_of_lt_of_le (hLt HY3.out) hb4.size
  obtain ⟨lO, c1⟩ := (HI3.out.below hb4).cell 1 (by decide)
  have c1' : w4.cell? ⟨O, 1, none⟩ = some (.int .i64 0) := c1
  have B5 : Below w4.heap.size w4 ((((((w4.alloc (.cells #[.slice none 0 0, .int .i64 0, .slice none 0 0] 30)).alloc (.cells #[.int .i64 0, .int .i64 1] 3)).alloc (.cells #[.int .i64 0, .int .i64 2] 3)).alloc (.cells #[.int .i64 0, .int .i64 0] 3)).alloc (.cells #[.slice (some ⟨w4.heap.size + 1 + 1, 0, none⟩) 2 2, .slice (some ⟨w4.heap.size + 1 + 1 + 1, 0, none⟩) 2 2] 24)).alloc (.cells #[.slice (some ⟨w4.heap.size + 1, 0, none⟩) 2 2, .int .i64 2, .slice (some ⟨w4.heap.size + 1 + 1 + 1 + 1, 0, none⟩) 2 2] 30)) := belA (belA (belA (belA (belA (belA (Below.refl _ _) _) _) _) _) _) _
  have a0' := (B5.cell (p := ⟨X1, 0, none⟩) lX).trans a0
  have a1' := (B5.cell (p := ⟨X1, 1, none⟩) lX).trans a1
  have a2' := (B5.cell (p := ⟨X1, 2, none⟩) lX).trans a2
  have b0' := (B5.cell (p := ⟨Y, 0, none⟩) lY).trans b0
  have b1' := (B5.cell (p := ⟨Y, 1, none⟩) lY).trans b1
  have b2' := (B5.cell (p := ⟨Y, 2, none⟩) lY).trans b2
  have c1'' := (B5.cell (p := ⟨O, 1, none⟩) lO).trans c1'
  clear hb4 c1 B5 b0 b1 b2 a0 a1 a2 c1'
  go_wp2_with fail
  refine gen_calls (fun W => IntsAt W (.slice (some ⟨w4.heap.size + 1, 0, none⟩) 2 2) [0, 1] ∧ RowsAt W (.slice (some ⟨w4.heap.size + 1 + 1 + 1 + 1, 0, none⟩) 2 2) [[0, 2], [0, 0]] ∧ Below w4.heap.size w4 W) ⟨?_, ?_, ?_⟩ ?_
  · exact (ints_two' _ 0 1 (by simp)).below (belA (belA (belA (belA (Below.refl _ _) _) _) _) _)
  · refine RowsAt.below (rows_two (a := w4.heap.size + 1 + 1) (b := w4.heap.size + 1 + 1 + 1) ((ints_two' _ 0 2 (by simp)).below (belA (belA (Below.refl _ _) _) _)) ((ints_two' _ 0 0 (by simp)).below (belA (Below.refl _ _) _)) (alAt (by simp))) (belA (Below.refl _ _) _)
  · exact belA (belA (belA (belA (belA (belA (Below.refl _ _) _) _) _) _) _) _
  rintro W5 ⟨hO5, hA5, hB5⟩
  have HB5 : Hid (Below W1.heap.size W1 W5) := bel (bel HB3.out HB4.out) hB5
  have HB35 : Hid (Below W3.heap.size W3 W5) := bel HB4.out hB5
  refine (pL_check _ _ _ _ W5 (HN1.out.below HB5.out) (HT1.out.below HB5.out) hO5 hA5 pL_ok2).mono ?_
  rintro e w6 ⟨rfl, hb6⟩
  obtain ⟨a0, a1, a2⟩ := cells3n (((bel HB5.out hb6).block X1 (hLt HX1.out)).trans HX1.out)
  obtain ⟨b0, b1, b2⟩ := cells3n (((bel HB35.out hb6).block Y (hLt HY3.out)).trans HY3.out)
  have lX := Nat.lt_of_lt_of_le (hLt HX1.out) (bel HB5.out hb6).size
  have lY := Nat.lt_of_lt_of_le (hLt HY3.out) (bel HB35.out hb6).size
  have HC : Hid (Calls Try.prog 12 #[.agg #[.slice (some ⟨X3, 0, none⟩) 2 2, .slice (some ⟨X2, 0, none⟩) 2 2, .int .i64 2], .agg #[.slice (some ⟨O, 0, none⟩) 2 2, .int .i64 1, .slice (some ⟨M, 0, none⟩) 1 1]] w6 fun e w' => e = .returned (.int .i64 0) ∧ Below w6.heap.size w6 w') := pL_check _ _ _ _ w6 (HN1.out.below (bel HB5.out hb6)) (HT1.out.below (bel HB5.out hb6)) (HI3.out.below (bel HB35.out hb6)) (HR3.out.below (bel HB35.out hb6)) pL_ok1
  go_wp2_with (first | (go_at_call 12; refine HC.out.mono ?_; rintro e w7 ⟨rfl, hb7⟩))
  go_ret
  exact ⟨rfl, bel HB1.out (bel (bel HB5.out hb6) hb7)⟩
end Go.Proofs.Ytkgonnnpoldcoaa
