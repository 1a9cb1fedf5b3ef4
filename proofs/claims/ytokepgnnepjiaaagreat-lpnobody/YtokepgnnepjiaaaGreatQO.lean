/- LpNobody: a process that nobody made answers nothing. -/
import Derived.Test.YtokepgnnepjiaaaGreatQM
import Derived.Test.YtokepgnnepjiaaaGreatQN
import Derived.Test.YtokepgnnepjiaaaGreatGPa
namespace Go.Proofs.YtokepgnnepjiaaaGreat
set_option maxRecDepth 100000
open Go.RowKit Lg Nl Go.Maps
set_option linter.unusedVariables false
set_option linter.unusedSimpArgs false

theorem newk9 (NN I NT O M A B : Nat) (k : Int) (w : World) (hT : Tw NN I NT O M A B w) :
    Calls Tryz.prog 6 #[.agg #[.slice (some ⟨NN, 0, none⟩) 2 2, .slice (some ⟨NT, 0, none⟩) 2 2, .int .i64 2], .agg #[.slice (some ⟨O, 0, none⟩) 2 2, .int .i64 2, .slice (some ⟨M, 0, none⟩) 2 2], .int .i64 k, .slice none 0 0, .int .i64 9] w fun e w' => ((∃ p, (k = 0 ∨ k = 1) ∧ e = .returned (.tuple #[.pointer (some ⟨p, 0, none⟩), .int .i64 0])) ∨ (k ≠ 0 ∧ k ≠ 1 ∧ e = .returned (.tuple #[.pointer none, .int .i64 1]))) ∧ Below w.heap.size w w' := by
  by_cases h0 : k = 0
  · subst h0
    refine (new0n_c NN I NT O M A B 9 w hT (by omega) (by omega)).mono ?_
    rintro e w' ⟨p, rfl, hb⟩
    exact ⟨.inl ⟨p, .inl rfl, rfl⟩, hb⟩
  · by_cases h1 : k = 1
    · subst h1
      refine (new1_c NN I NT O M A B 9 w hT (by omega) (by omega)).mono ?_
      rintro e w' ⟨p, q, rfl, _, _, hb⟩
      exact ⟨.inl ⟨p, .inr rfl, rfl⟩, hb⟩
    · refine (new_k NN I NT O M A B k 9 w hT (by omega) (by omega) (by omega)).mono ?_
      rintro e w' ⟨rfl, hb⟩
      exact ⟨.inr ⟨h0, h1, rfl⟩, hb⟩
theorem Nob.up {p : Option Addr} {w w' : World} (h : Nob p w) (hb : Below w.heap.size w w') : Nob p w' := by
  rcases h with h | ⟨q, e, h⟩
  · exact Or.inl h
  · exact Or.inr ⟨q, e, (hb.cell (p := ⟨q, 0, none⟩) (World.block_lt_of_cell? w ⟨q, 0, none⟩ h)).trans h⟩
set_option maxHeartbeats 8000000 in
theorem LpNobody_c (x : Q.Qu.Ev) (k : Int) (w : World) : Calls Tryz.prog 4 #[.agg #[.int .i64 x.t, .int .i64 x.nd, .string x.v, .int .i64 x.fr, .int .i64 x.sq, .bool x.an], .int .i64 k] w fun e w' => e = .returned (.bool true) ∧ Below w.heap.size w w' := by
  obtain ⟨V, hV⟩ : ∃ V, V = w.alloc (.cells #[.int .i64 x.t, .int .i64 x.nd, .string x.v, .int .i64 x.fr, .int .i64 x.sq, .bool x.an] 39) := ⟨_, rfl⟩
  have HV : Hid (Below w.heap.size w V) := by rw [hV]; exact belA (Below.refl _ _) _
  have HE : Hid (V.heap[w.heap.size]? = some (.cells #[.int .i64 x.t, .int .i64 x.nd, .string x.v, .int .i64 x.fr, .int .i64 x.sq, .bool x.an] 39 (0, 0))) := by rw [hV]; exact alAt rfl
  go_enter Tryz.func4, Tryz.ntmps4
  go_wp2_with (first
    | (go_at_call 5; rw [← hV]; clear hV; refine (two_c _).mono ?_; rintro e w1 ⟨NN, I, NT, O, M, A, B, rfl, HT, hb1⟩; have HB1 : Hid (Below V.heap.size V w1) := hb1; clear hb1))
  obtain ⟨W0, hW0⟩ : ∃ W0, W0 = (w1.alloc (.cells #[.slice (some ⟨NN, 0, none⟩) 2 2, .slice (some ⟨NT, 0, none⟩) 2 2, .int .i64 2] 26)).alloc (.cells #[.slice (some ⟨O, 0, none⟩) 2 2, .int .i64 2, .slice (some ⟨M, 0, none⟩) 2 2] 29) := ⟨_, rfl⟩
  rw [← hW0]
  have HB0 : Hid (Below w1.heap.size w1 W0) := by rw [hW0]; exact belA (belA (Below.refl _ _) _) _
  have hn : W0.heap[w1.heap.size]? = some (.cells #[.slice (some ⟨NN, 0, none⟩) 2 2, .slice (some ⟨NT, 0, none⟩) 2 2, .int .i64 2] 26 (0, 0)) := by rw [hW0]; exact (alOld (by simp)).trans (alAt rfl)
  clear hW0
  refine (newk9 NN I NT O M A B k W0 (HT.out.below HB0.out)).mono ?_
  rintro e w2 ⟨hr, hb2⟩
  obtain ⟨y0, y1, y2⟩ := cells3n ((hb2.block w1.heap.size (hLt hn)).trans hn)
  have lN2 := Nat.lt_of_lt_of_le (hLt hn) hb2.size
  have HT2 : Hid (Tw NN I NT O M A B w2) := (HT.out.below HB0.out).below hb2
  have HB2 : Hid (Below V.heap.size V w2) := bel (bel HB1.out HB0.out) hb2
  clear hn hb2 HB0 HT HB1
  rcases hr with ⟨p, rfl | rfl, rfl⟩ | ⟨k0, k1, rfl⟩
  all_goals (
    try (have k0' : (k == 0) = false := (by rw [beq_eq_false_iff_ne]; exact k0); have k1' : (k == 1) = false := (by rw [beq_eq_false_iff_ne]; exact k1))
    go_wp2_with (first
      | (go_at_call 6; refine (new_parts NN I NT O M A B 9 w2 HT2.out (by omega) (by omega)).mono ?_; rintro e w3 ⟨rfl, hb3⟩; have HB3 : Hid (Below V.heap.size V w3) := bel HB2.out hb3; clear hb3 y0 y1 y2 lN2))
    obtain ⟨W3, hW3⟩ : ∃ W3, W3 = (w3.alloc (.cells #[.pointer none, .pointer none, .int .i64 0, .slice none 0 0, .int .i64 0, .slice none 0 0, .pointer none, .pointer none] 52)).alloc (.cells #[.pointer none, .pointer (some ⟨w3.heap.size, 0, none⟩)] 32) := ⟨_, rfl⟩
    rw [← hW3]
    have hp : W3.heap[w3.heap.size]? = some (.cells #[.pointer none, .pointer none, .int .i64 0, .slice none 0 0, .int .i64 0, .slice none 0 0, .pointer none, .pointer none] 52 (0, 0)) := by rw [hW3]; exact (alOld (by simp)).trans (alAt rfl)
    have hl : W3.heap[w3.heap.size + 1]? = some (.cells #[.pointer none, .pointer (some ⟨w3.heap.size, 0, none⟩)] 32 (0, 0)) := by rw [hW3]; exact alAt (by simp)
    have HB4 : Hid (Below V.heap.size V W3) := by rw [hW3]; exact belA (belA HB3.out _) _
    have HN : Hid (Nob (some ⟨w3.heap.size, 0, none⟩) W3) := Or.inr ⟨_, rfl, by rw [Lib.cell_of_heap hp]; rfl⟩
    have HL : Hid (W3.heap[w3.heap.size + 1]? = some (.cells #[.pointer none, .pointer (some ⟨w3.heap.size, 0, none⟩)] 32 (0, 0))) := hl
    have HE3 : Hid (W3.heap[w.heap.size]? = some (.cells #[.int .i64 x.t, .int .i64 x.nd, .string x.v, .int .i64 x.fr, .int .i64 x.sq, .bool x.an] 39 (0, 0))) := (HB4.out.block _ (hLt HE.out)).trans HE.out
    have HAw : Hid (∀ W, Calls Tryz.prog 12 #[] W fun e w' => e = .returned (.bool true) ∧ Below W.heap.size W w') := awake15_c
    have HF : Hid (Below w.heap.size w W3) := bel HV.out HB4.out
    clear hW3 hp hl HB3 HB2 HT2 HV HE HB4
    obtain ⟨P, hP⟩ : ∃ P, P = w3.heap.size := ⟨_, rfl⟩
    rw [← hP] at HL HN ⊢
    clear hP
    obtain ⟨E, hEn⟩ : ∃ E, E = w.heap.size := ⟨_, rfl⟩
    rw [← hEn] at HE3 ⊢
    have HEn : Hid (E = w.heap.size) := hEn
    clear hEn
    go_loopw [12] (fun s12 W => ∃ j : Nat, j ≤ 2 ∧ s12 = .int .i64 j ∧ Hid (Below W3.heap.size W3 W)) (fun s12 W => 2 - (intOf s12).toNat)
    case atStart => exact ⟨0, by omega, rfl, Below.refl _ _⟩
    case round =>
      obtain ⟨j, hj, rfl, HB⟩ := hrel
      by_cases hlt : j < 2
      · obtain ⟨p, hp, HNp⟩ : ∃ p, wr.cell? ⟨P + 1, j, none⟩ = some (.pointer p) ∧ Hid (Nob p wr) := by
          have hl := (HB.out.block _ (hLt HL.out)).trans HL.out
          rcases (by omega : j = 0 ∨ j = 1) with e | e
          · subst e; exact ⟨none, by rw [Lib.cell_of_heap hl]; rfl, Or.inl rfl⟩
          · subst e; exact ⟨_, by rw [Lib.cell_of_heap hl]; rfl, HN.out.up HB.out⟩
        have hl2 : P + 1 < wr.heap.size := World.block_lt_of_cell? wr ⟨P + 1, j, none⟩ hp
        have i1 : (0 : Int) ≤ (j : Int) := by omega
        have i2 : (j : Int) < 2 := by omega
        obtain ⟨⟨e0, e1, e2, e3, e4, e5⟩, _⟩ := Q.cell6 ((HB.out.block _ (hLt HE3.out)).trans HE3.out)
        have lE : E < wr.heap.size := World.block_lt_of_cell? wr ⟨E, 0, none⟩ e0
        go_wp2_with (first
          | (go_at_call 13; refine (pnext_no p _ HNp.out).mono ?_; rintro e w5 ⟨rfl, hw⟩; rw [hw]; clear hw)
          | (go_at_call 7; refine (pstep_no p _ HNp.out).mono ?_; rintro e w5 ⟨rfl, hw⟩; rw [hw]; clear hw)
          | (go_at_call 8; refine (pdone_no p _ HNp.out).mono ?_; rintro e w5 ⟨rfl, hw⟩; rw [hw]; clear hw)
          | (go_at_call 9; refine (ptake_no p x.t x.nd x.fr x.sq x.v x.an _ HNp.out).mono ?_; rintro e w6 ⟨rfl, hb6⟩; have HB6 : Hid (Below wr.heap.size wr w6) := hb6; have HN6 : Hid (Nob p w6) := HNp.out.up hb6; clear hb6)
          | (go_at_call 10; refine (pcancel_no p _ _ _ HN6.out).mono ?_; rintro e w5 ⟨rfl, hw⟩; rw [hw]; clear hw)
          | (go_at_call 14; refine (pfirst_no p _ HN6.out).mono ?_; rintro e w5 ⟨rfl, hw⟩; rw [hw]; clear hw)
          | (go_at_call 15; refine (pchanges_no p _ _ HN6.out).mono ?_; rintro e w5 ⟨rfl, hw⟩; rw [hw]; clear hw)
          | (go_at_call 16; refine (pcopy_no p _ HN6.out).mono ?_; rintro e w5 ⟨rfl, hw⟩; rw [hw]; clear hw))
        go_roundw
        case rel => exact ⟨j + 1, by omega, by go_num, bel HB.out HB6.out⟩
        case measure => simp [intOf]; omega
      · obtain rfl : j = 2 := by omega
        go_wp2_with (first
          | (go_at_call 12; refine (HAw.out _).mono ?_; rintro e wA ⟨rfl, hbA⟩))
        go_ret
        exact ⟨rfl, bel (bel HF.out HB.out) hbA⟩)
end Go.Proofs.YtokepgnnepjiaaaGreat
