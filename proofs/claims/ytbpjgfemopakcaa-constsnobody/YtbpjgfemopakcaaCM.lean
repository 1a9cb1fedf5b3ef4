/- ConstsNobody. -/
import Derived.Test.YtbpjgfemopakcaaCL
namespace Go.Proofs.Ytbpjgfemopakcaa
open Go.RowKit Lg Go.Maps
set_option linter.unusedVariables false
set_option linter.unusedSimpArgs false

theorem cell3 {wr w3 : World} {a : Addr} {v : Value} (hl : a.block < wr.heap.size) (c : wr.cell? a = some v) (h : Below wr.drew.heap.size wr.drew w3 ∨ ∃ o, Below (wr.drew.alloc o).heap.size (wr.drew.alloc o) w3) : w3.cell? a = some v := by
  rcases h with h | ⟨o, h⟩
  · exact (h.cell (p := a) hl).trans c
  · exact (h.cell (p := a) (by simp; omega)).trans (((belA (Below.refl wr.drew.heap.size wr.drew) o).cell (p := a) hl).trans c)
theorem below4 {wr w3 w4 : World} (h : Below wr.drew.heap.size wr.drew w3 ∨ ∃ o, Below (wr.drew.alloc o).heap.size (wr.drew.alloc o) w3) (h4 : Below w3.heap.size w3 w4) : Below wr.heap.size wr w4 := by
  have e : Below wr.heap.size wr w3 := by
    rcases h with h | ⟨o, h⟩
    · exact ⟨h.os, h.tape, h.output, h.size, h.block⟩
    · exact bel (w := wr) (a := wr.drew.alloc o) (belA (w := wr) (Below.refl wr.heap.size wr).drew o) h
  exact bel e h4
theorem newD {W W' : World} {t : TypeId} {n : Nat} (h : Below (W.alloc (.cells #[.int .i64 0, .int .i64 0] t)).heap.size (W.alloc (.cells #[.int .i64 0, .int .i64 0] t)) W') (hn : W.heap.size = n) : W'.heap[n]? = some (.cells #[.int .i64 0, .int .i64 0] t (0, 0)) := by
  subst hn; exact (h.block _ (by simp)).trans (allocAt rfl)
theorem newE {W W' : World} {t : TypeId} (h : Below (W.alloc (.cells #[.int .i64 0, .int .i64 0] t)).drew.heap.size (W.alloc (.cells #[.int .i64 0, .int .i64 0] t)).drew W') : W'.heap[W.heap.size]? = some (.cells #[.int .i64 0, .int .i64 0] t (0, 0)) := newD (W := W) ⟨h.os, h.tape, h.output, h.size, h.block⟩ rfl
theorem keepD {W W' : World} {t : TypeId} {n : Nat} (h : Below W.heap.size W W') (hD : W.heap[n]? = some (.cells #[.int .i64 0, .int .i64 0] t (0, 0))) : W'.heap[n]? = some (.cells #[.int .i64 0, .int .i64 0] t (0, 0)) := (h.block n (kLt hD)).trans hD
theorem cellsD {W : World} {t : TypeId} {n : Nat} (h : W.heap[n]? = some (.cells #[.int .i64 0, .int .i64 0] t (0, 0))) : W.cell? ⟨n, 0, none⟩ = some (.int .i64 0) ∧ W.cell? ⟨n, 1, none⟩ = some (.int .i64 0) ∧ (∀ j, W.frozen? ⟨n, j, none⟩ = false) ∧ n < W.heap.size :=
  ⟨by rw [Lib.cell_of_heap h]; rfl, by rw [Lib.cell_of_heap h]; rfl, fun j => Lib.frozen_of_heap h j, kLt h⟩
theorem nobody_end {N : Nat} {W wr Wf : World} {j : Int} {m : Nat} (HB : Below N W wr) (HL : N ≤ wr.heap.size) (hN : Below wr.heap.size wr Wf) (hj : j = 0 ∨ j = 1 ∨ j = 2) (hm : 2 - (intOf (.int .i64 j)).toNat < m) :
    (∃ i : Int, (i = 0 ∨ i = 1 ∨ i = 2) ∧ Value.int .i64 j = .int .i64 i ∧ Hid (Below N W Wf) ∧ Hid (N ≤ Wf.heap.size)) ∧ 2 - (intOf (.int .i64 j)).toNat < m :=
  ⟨⟨j, hj, rfl, HB.trans (hN.mono HL), Nat.le_trans HL hN.size⟩, hm⟩
set_option maxRecDepth 100000 in
set_option maxHeartbeats 8000000 in
theorem ConstsNobody_c (x : ByteArray) (k : Int) (w : World) (hx : x.size ≤ maxLen) (hk : -9223372036854775808 ≤ k ∧ k ≤ 9223372036854775807) : Calls Try.prog 5 #[.string x, .int .i64 k] w fun e w' => e = .returned (.bool true) ∧ Below w.heap.size w w' := by
  have q1 := neD1
  have HA := awake6
  clear hk
  obtain ⟨W, hW⟩ : ∃ W, W = (w.alloc (.cells #[.pointer none, .map none] 55)).alloc (.cells #[.pointer none, .pointer (some ⟨w.heap.size, 0, none⟩)] 23) := ⟨_, rfl⟩
  have hWs : W.heap.size = w.heap.size + 1 + 1 := by rw [hW]; simp
  have hWb : Below w.heap.size w W := by rw [hW]; exact belA (belA (Below.refl _ _) _) _
  have hW0 : W.heap[w.heap.size]? = some (.cells #[.pointer none, .map none] 55 (0, 0)) := by rw [hW, allocOld (by simp), allocAt rfl]
  have hW1 : W.heap[w.heap.size + 1]? = some (.cells #[.pointer none, .pointer (some ⟨w.heap.size, 0, none⟩)] 23 (0, 0)) := by rw [hW, allocAt (by simp)]
  have HWS : Hid _ := hWs
  have HWB : Hid _ := hWb
  have HW0 : Hid _ := hW0
  have HW1 : Hid _ := hW1
  have HWE : Hid _ := hW
  clear hWs hWb hW0 hW1 hW
  go_enter Try.func5, Try.ntmps5
  go_wp2
  go_loopw [6] (fun i wr => ∃ j : Int, (j = 0 ∨ j = 1 ∨ j = 2) ∧ i = .int .i64 j ∧ Hid (Below (w.heap.size + 1 + 1) W wr) ∧ Hid (w.heap.size + 1 + 1 ≤ wr.heap.size)) (fun i wr => 2 - (intOf i).toNat)
  case atStart =>
    refine ⟨0, Or.inl rfl, rfl, ?_, ?_⟩
    · rw [HWE.out]; exact Below.refl _ _
    · show _ ≤ _; simp
  case round =>
    obtain ⟨j, hj, rfl, HB, HL⟩ := hrel
    have c0 : wr.cell? ⟨w.heap.size + 1, 0, none⟩ = some (.pointer none) := by
      rw [Lib.cell_of_heap ((HB.out.block (w.heap.size + 1) (by omega)).trans HW1.out)]; rfl
    have c1 : wr.cell? ⟨w.heap.size + 1, 1, none⟩ = some (.pointer (some ⟨w.heap.size, 0, none⟩)) := by
      rw [Lib.cell_of_heap ((HB.out.block (w.heap.size + 1) (by omega)).trans HW1.out)]; rfl
    have hz : wr.heap[w.heap.size]? = some (.cells #[.pointer none, .map none] 55 (0, 0)) := (HB.out.block w.heap.size (by omega)).trans HW0.out
    have HZ : Hid _ := hz
    have hl : w.heap.size + 1 < wr.heap.size := HL.out
    have hl2 : w.heap.size < wr.heap.size := by omega
    have HN0 : ∀ w', Nobody (.pointer none) w' := fun w' => kGiven_nil w'
    have HN1 : Hid (∀ w', Below wr.heap.size wr w' → Nobody (.pointer (some ⟨w.heap.size, 0, none⟩)) w') := fun w' hb => kGiven_zero ((hb.block w.heap.size hl2).trans HZ.out)
    clear hz
    rcases hj with rfl | rfl | rfl
    · go_wp2_with (first
        | (go_at_call 12; refine (kGet_nobody (HN0 _) x).mono ?_; rintro e w' ⟨rfl, hw⟩; have hw2 := hw.symm; subst hw2))
      go_region_with (first
        | (go_at_call 19; refine (kNum_c _ _).mono ?_; rintro e w3 ⟨rfl, hb3⟩; have c0' : w3.cell? ⟨w.heap.size + 1, 0, none⟩ = some (.pointer none) := cell3 hl c0 (by first | exact Or.inl hb3 | exact Or.inr ⟨_, hb3⟩); have hl3 : w.heap.size + 1 < w3.heap.size := (by have h4 := hb3.size; first | omega | (simp at h4; omega)))
        | (go_at_call 17; refine (kEval_nobody (p := none) (fun w' _ => HN0 w') 1 _ _ false none 0 0 0).mono ?_; rintro e w4 ⟨rfl, hb4⟩; have hl4 : w.heap.size + 1 < w4.heap.size := (by have h4 := hb4.size; first | omega | (simp at h4; omega)); have c0'' : w4.cell? ⟨w.heap.size + 1, 0, none⟩ = some (.pointer none) := (by first | exact (hb4.cell (p := ⟨w.heap.size + 1, 0, none⟩) hl3).trans c0' | exact (hb4.cell (p := ⟨w.heap.size + 1, 0, none⟩) (by simp; omega)).trans (((belA (Below.refl w3.heap.size w3) _).cell (p := ⟨w.heap.size + 1, 0, none⟩) hl3).trans c0')); have f := cellsD (keepD hb4 (newE (W := wr) hb3)); obtain ⟨g0, g1, g2, g3⟩ := f)
        | (go_at_call 17; refine (kEval_nobody (p := none) (fun w' _ => HN0 w') 1 _ _ false none 0 0 0).mono ?_; rintro e w4 ⟨rfl, hb4⟩; have hl4 : w.heap.size + 1 < w4.heap.size := (by have h4 := hb4.size; first | omega | (simp at h4; omega)); have c0'' : w4.cell? ⟨w.heap.size + 1, 0, none⟩ = some (.pointer none) := (by first | exact (hb4.cell (p := ⟨w.heap.size + 1, 0, none⟩) hl3).trans c0' | exact (hb4.cell (p := ⟨w.heap.size + 1, 0, none⟩) (by simp; omega)).trans (((belA (Below.refl w3.heap.size w3) _).cell (p := ⟨w.heap.size + 1, 0, none⟩) hl3).trans c0')); have f := cellsD (newD (W := w3) hb4 (n := w3.heap.size) rfl); obtain ⟨g0, g1, g2, g3⟩ := f)
        | (go_at_call 17; refine (kEval_nobody (p := none) (fun w' _ => HN0 w') 1 _ _ false none 0 0 0).mono ?_; rintro e w4 ⟨rfl, hb4⟩; have hl4 : w.heap.size + 1 < w4.heap.size := (by have h4 := hb4.size; first | omega | (simp at h4; omega)); have c0'' : w4.cell? ⟨w.heap.size + 1, 0, none⟩ = some (.pointer none) := (by first | exact (hb4.cell (p := ⟨w.heap.size + 1, 0, none⟩) hl3).trans c0' | exact (hb4.cell (p := ⟨w.heap.size + 1, 0, none⟩) (by simp; omega)).trans (((belA (Below.refl w3.heap.size w3) _).cell (p := ⟨w.heap.size + 1, 0, none⟩) hl3).trans c0'))))
      all_goals
        have n3 : w.heap.size + 1 ≠ w3.heap.size := by omega
        have n4 : w.heap.size + 1 ≠ w4.heap.size := by omega
        have nr : w.heap.size + 1 ≠ wr.heap.size := by omega
        have z3 : wr.heap.size ≤ w3.heap.size := by have h4 := hb3.size; first | exact h4 | (simp at h4; omega)
        have b4 : Below wr.heap.size wr w4 := by first | exact below4 (Or.inl hb3) hb4 | exact below4 (Or.inr ⟨_, hb3⟩) hb4 | exact below4 (Or.inl hb3) (bel (belA (Below.refl w3.heap.size w3) _) hb4) | exact below4 (Or.inr ⟨_, hb3⟩) (bel (belA (Below.refl w3.heap.size w3) _) hb4)
        go_wp2_with (first
          | (go_at_call 11; refine (kSet_nobody (p := none) (HN0 _) x k).mono ?_; rintro e w' ⟨rfl, hw⟩; have hw2 := hw.symm; subst hw2)
          | (go_at_call 9; refine (kWithin_nobody (p := none) (HN0 _)).mono ?_; rintro e w' ⟨rfl, hw⟩; have hw2 := hw.symm; subst hw2))
        refine nobody_end (j := 1) HB.out HL.out ?_ (by omega) (by simp [intOf])
        first
          | exact belA b4 _
          | exact (b4.setCell (p := ⟨w3.heap.size, 0, none⟩) z3 _).setCell (p := ⟨w3.heap.size, 1, none⟩) z3 _
          | exact (b4.setCell (p := ⟨wr.heap.size, 0, none⟩) (Nat.le_refl _) _).setCell (p := ⟨wr.heap.size, 1, none⟩) (Nat.le_refl _) _
    · go_wp2_with (first
        | (go_at_call 12; refine (kGet_nobody (HN1.out _ (Below.refl _ _)) x).mono ?_; rintro e w' ⟨rfl, hw⟩; have hw2 := hw.symm; subst hw2))
      go_region_with (first
        | (go_at_call 19; refine (kNum_c _ _).mono ?_; rintro e w3 ⟨rfl, hb3⟩; have c0' : w3.cell? ⟨w.heap.size + 1, 1, none⟩ = some (.pointer (some ⟨w.heap.size, 0, none⟩)) := cell3 hl c1 (by first | exact Or.inl hb3 | exact Or.inr ⟨_, hb3⟩); have hl3 : w.heap.size + 1 < w3.heap.size := (by have h4 := hb3.size; first | omega | (simp at h4; omega)))
        | (go_at_call 17; refine (kEval_nobody (p := some ⟨w.heap.size, 0, none⟩) (fun w' hw' => HN1.out w' (by first | exact below4 (Or.inl hb3) hw' | exact below4 (Or.inr ⟨_, hb3⟩) hw' | exact below4 (Or.inl hb3) (bel (belA (Below.refl w3.heap.size w3) _) hw') | exact below4 (Or.inr ⟨_, hb3⟩) (bel (belA (Below.refl w3.heap.size w3) _) hw'))) 1 _ _ false none 0 0 0).mono ?_; rintro e w4 ⟨rfl, hb4⟩; have hl4 : w.heap.size + 1 < w4.heap.size := (by have h4 := hb4.size; first | omega | (simp at h4; omega)); have c0'' : w4.cell? ⟨w.heap.size + 1, 1, none⟩ = some (.pointer (some ⟨w.heap.size, 0, none⟩)) := (by first | exact (hb4.cell (p := ⟨w.heap.size + 1, 1, none⟩) hl3).trans c0' | exact (hb4.cell (p := ⟨w.heap.size + 1, 1, none⟩) (by simp; omega)).trans (((belA (Below.refl w3.heap.size w3) _).cell (p := ⟨w.heap.size + 1, 1, none⟩) hl3).trans c0')); have f := cellsD (keepD hb4 (newE (W := wr) hb3)); obtain ⟨g0, g1, g2, g3⟩ := f)
        | (go_at_call 17; refine (kEval_nobody (p := some ⟨w.heap.size, 0, none⟩) (fun w' hw' => HN1.out w' (by first | exact below4 (Or.inl hb3) hw' | exact below4 (Or.inr ⟨_, hb3⟩) hw' | exact below4 (Or.inl hb3) (bel (belA (Below.refl w3.heap.size w3) _) hw') | exact below4 (Or.inr ⟨_, hb3⟩) (bel (belA (Below.refl w3.heap.size w3) _) hw'))) 1 _ _ false none 0 0 0).mono ?_; rintro e w4 ⟨rfl, hb4⟩; have hl4 : w.heap.size + 1 < w4.heap.size := (by have h4 := hb4.size; first | omega | (simp at h4; omega)); have c0'' : w4.cell? ⟨w.heap.size + 1, 1, none⟩ = some (.pointer (some ⟨w.heap.size, 0, none⟩)) := (by first | exact (hb4.cell (p := ⟨w.heap.size + 1, 1, none⟩) hl3).trans c0' | exact (hb4.cell (p := ⟨w.heap.size + 1, 1, none⟩) (by simp; omega)).trans (((belA (Below.refl w3.heap.size w3) _).cell (p := ⟨w.heap.size + 1, 1, none⟩) hl3).trans c0')); have f := cellsD (newD (W := w3) hb4 (n := w3.heap.size) rfl); obtain ⟨g0, g1, g2, g3⟩ := f)
        | (go_at_call 17; refine (kEval_nobody (p := some ⟨w.heap.size, 0, none⟩) (fun w' hw' => HN1.out w' (by first | exact below4 (Or.inl hb3) hw' | exact below4 (Or.inr ⟨_, hb3⟩) hw' | exact below4 (Or.inl hb3) (bel (belA (Below.refl w3.heap.size w3) _) hw') | exact below4 (Or.inr ⟨_, hb3⟩) (bel (belA (Below.refl w3.heap.size w3) _) hw'))) 1 _ _ false none 0 0 0).mono ?_; rintro e w4 ⟨rfl, hb4⟩; have hl4 : w.heap.size + 1 < w4.heap.size := (by have h4 := hb4.size; first | omega | (simp at h4; omega)); have c0'' : w4.cell? ⟨w.heap.size + 1, 1, none⟩ = some (.pointer (some ⟨w.heap.size, 0, none⟩)) := (by first | exact (hb4.cell (p := ⟨w.heap.size + 1, 1, none⟩) hl3).trans c0' | exact (hb4.cell (p := ⟨w.heap.size + 1, 1, none⟩) (by simp; omega)).trans (((belA (Below.refl w3.heap.size w3) _).cell (p := ⟨w.heap.size + 1, 1, none⟩) hl3).trans c0'))))
      all_goals
        have n3 : w.heap.size + 1 ≠ w3.heap.size := by omega
        have n4 : w.heap.size + 1 ≠ w4.heap.size := by omega
        have nr : w.heap.size + 1 ≠ wr.heap.size := by omega
        have z3 : wr.heap.size ≤ w3.heap.size := by have h4 := hb3.size; first | exact h4 | (simp at h4; omega)
        have b4 : Below wr.heap.size wr w4 := by first | exact below4 (Or.inl hb3) hb4 | exact below4 (Or.inr ⟨_, hb3⟩) hb4 | exact below4 (Or.inl hb3) (bel (belA (Below.refl w3.heap.size w3) _) hb4) | exact below4 (Or.inr ⟨_, hb3⟩) (bel (belA (Below.refl w3.heap.size w3) _) hb4)
        go_wp2_with (first
          | (go_at_call 11; refine (kSet_nobody (p := some ⟨w.heap.size, 0, none⟩) (HN1.out _ (by first | exact belA b4 _ | exact (b4.setCell (p := ⟨w3.heap.size, 0, none⟩) z3 _).setCell (p := ⟨w3.heap.size, 1, none⟩) z3 _ | exact (b4.setCell (p := ⟨wr.heap.size, 0, none⟩) (Nat.le_refl _) _).setCell (p := ⟨wr.heap.size, 1, none⟩) (Nat.le_refl _) _)) x k).mono ?_; rintro e w' ⟨rfl, hw⟩; have hw2 := hw.symm; subst hw2)
          | (go_at_call 9; refine (kWithin_nobody (p := some ⟨w.heap.size, 0, none⟩) (HN1.out _ (by first | exact belA b4 _ | exact (b4.setCell (p := ⟨w3.heap.size, 0, none⟩) z3 _).setCell (p := ⟨w3.heap.size, 1, none⟩) z3 _ | exact (b4.setCell (p := ⟨wr.heap.size, 0, none⟩) (Nat.le_refl _) _).setCell (p := ⟨wr.heap.size, 1, none⟩) (Nat.le_refl _) _))).mono ?_; rintro e w' ⟨rfl, hw⟩; have hw2 := hw.symm; subst hw2))
        refine nobody_end (j := 2) HB.out HL.out ?_ (by omega) (by simp [intOf])
        first
          | exact belA b4 _
          | exact (b4.setCell (p := ⟨w3.heap.size, 0, none⟩) z3 _).setCell (p := ⟨w3.heap.size, 1, none⟩) z3 _
          | exact (b4.setCell (p := ⟨wr.heap.size, 0, none⟩) (Nat.le_refl _) _).setCell (p := ⟨wr.heap.size, 1, none⟩) (Nat.le_refl _) _
    · go_wp2_with (first
        | (go_at_call 14; refine (HA _).mono ?_; rintro e w5 ⟨rfl, hb5⟩))
      go_ret
      have h1 := HWS.out
      exact ⟨rfl, HWB.out.trans ((HB.out.mono (by omega)).trans (hb5.mono (by omega)))⟩
end Go.Proofs.Ytbpjgfemopakcaa
