/- New of process 0 with no stimulus. -/
import Derived.Test.YtokepgnnepjiaaaGreatPZ
import Derived.Test.YtokepgnnepjiaaaGreatPW0
namespace Go.Proofs.YtokepgnnepjiaaaGreat
set_option maxRecDepth 100000
open Go.RowKit Lg Nl Go.Maps
set_option linter.unusedVariables false
set_option linter.unusedSimpArgs false

set_option maxHeartbeats 4000000 in
theorem new0n_c (NN I NT O M A B : Nat) (h : Int) (w : World) (hT : Tw NN I NT O M A B w) (h0 : 0 ≤ h) (h1 : h ≤ 1000) :
    Calls Tryz.prog 6 #[.agg #[.slice (some ⟨NN, 0, none⟩) 2 2, .slice (some ⟨NT, 0, none⟩) 2 2, .int .i64 2], .agg #[.slice (some ⟨O, 0, none⟩) 2 2, .int .i64 2, .slice (some ⟨M, 0, none⟩) 2 2], .int .i64 0, .slice none 0 0, .int .i64 h] w fun e w' => ∃ p, e = .returned (.tuple #[.pointer (some ⟨p, 0, none⟩), .int .i64 0]) ∧ Below w.heap.size w w' := by
  have HT : Hid (Tw NN I NT O M A B w) := hT
  obtain ⟨W, hW⟩ : ∃ W, W = (w.alloc (.cells #[.slice (some ⟨NN, 0, none⟩) 2 2, .slice (some ⟨NT, 0, none⟩) 2 2, .int .i64 2] 26)).alloc (.cells #[.slice (some ⟨O, 0, none⟩) 2 2, .int .i64 2, .slice (some ⟨M, 0, none⟩) 2 2] 29) := ⟨_, rfl⟩
  have HB : Hid (Below w.heap.size w W) := by rw [hW]; exact belA (belA (Below.refl _ _) _) _
  have hn : W.heap[w.heap.size]? = some (.cells #[.slice (some ⟨NN, 0, none⟩) 2 2, .slice (some ⟨NT, 0, none⟩) 2 2, .int .i64 2] 26 (0, 0)) := by rw [hW]; exact (alOld (by simp)).trans (alAt rfl)
  have hp : W.heap[w.heap.size + 1]? = some (.cells #[.slice (some ⟨O, 0, none⟩) 2 2, .int .i64 2, .slice (some ⟨M, 0, none⟩) 2 2] 29 (0, 0)) := by rw [hW]; exact alAt (by simp)
  have HNB : Hid (W.heap[w.heap.size]? = some (.cells #[.slice (some ⟨NN, 0, none⟩) 2 2, .slice (some ⟨NT, 0, none⟩) 2 2, .int .i64 2] 26 (0, 0)) ∧ W.heap[w.heap.size + 1]? = some (.cells #[.slice (some ⟨O, 0, none⟩) 2 2, .int .i64 2, .slice (some ⟨M, 0, none⟩) 2 2] 29 (0, 0))) := ⟨hn, hp⟩
  obtain ⟨a0, a1, a2⟩ := cells3n hn
  obtain ⟨b0, b1, b2⟩ := cells3n hp
  have la := hLt hn
  have lb := hLt hp
  have HC : Hid (Calls Tryz.prog 17 #[.agg #[.slice (some ⟨NN, 0, none⟩) 2 2, .slice (some ⟨NT, 0, none⟩) 2 2, .int .i64 2], .slice none 0 0, .int .i64 h] W fun e w' => e = .returned (.int .i64 0) ∧ Below W.heap.size W w') := eCheck_c NN I NT O M A B none 0 0 h W (hT.below HB.out) h0 h1 (stimN NN NT W)
  clear hT hn hp
  have HP : Hid (∀ X, Below w.heap.size w X → Calls Tryz.prog 18 #[.agg #[.slice (some ⟨NN, 0, none⟩) 2 2, .slice (some ⟨NT, 0, none⟩) 2 2, .int .i64 2], .agg #[.slice (some ⟨O, 0, none⟩) 2 2, .int .i64 2, .slice (some ⟨M, 0, none⟩) 2 2]] X fun e w' => e = .returned (.int .i64 0) ∧ Below X.heap.size X w') := fun X hX => pChk NN I NT O M A B X (HT.out.below hX)
  have HN : Hid (∀ X, Below w.heap.size w X → Calls Tryz.prog 20 #[.agg #[.slice (some ⟨NN, 0, none⟩) 2 2, .slice (some ⟨NT, 0, none⟩) 2 2, .int .i64 2], .slice (some ⟨O, 0, none⟩) 2 2, .int .i64 0, .int .i64 h] X fun e w' => ∃ F, e = .returned (.pointer (some ⟨F, 0, none⟩)) ∧ Hid (FX0 X h F w') ∧ Below X.heap.size X w') := fun X hX => newFixed0_c NN I NT O M A B h X (HT.out.below hX)
  go_enter Tryz.func6, Tryz.ntmps6
  go_wp2_with (first
    | (go_at_call 17; rw [← hW]; refine HC.out.mono ?_; rintro e w2 ⟨rfl, hb2⟩; have HB2 : Hid (Below w.heap.size w w2) := bel HB.out hb2; obtain ⟨x0, x1, x2⟩ := cells3n ((hb2.block w.heap.size la).trans HNB.out.1); obtain ⟨y0, y1, y2⟩ := cells3n ((hb2.block (w.heap.size + 1) lb).trans HNB.out.2); have la2 := Nat.lt_of_lt_of_le la hb2.size; have lb2 := Nat.lt_of_lt_of_le lb hb2.size; have HX2 : Hid (w2.heap[w.heap.size]? = some (.cells #[.slice (some ⟨NN, 0, none⟩) 2 2, .slice (some ⟨NT, 0, none⟩) 2 2, .int .i64 2] 26 (0, 0)) ∧ w2.heap[w.heap.size + 1]? = some (.cells #[.slice (some ⟨O, 0, none⟩) 2 2, .int .i64 2, .slice (some ⟨M, 0, none⟩) 2 2] 29 (0, 0))) := ⟨(hb2.block w.heap.size la).trans HNB.out.1, (hb2.block (w.heap.size + 1) lb).trans HNB.out.2⟩)
    | (go_at_call 18; refine (HP.out _ HB2.out).mono ?_; rintro e w3 ⟨rfl, hb3⟩; obtain ⟨z0, z1, z2⟩ := cells3n ((hb3.block (w.heap.size + 1) lb2).trans HX2.out.2); obtain ⟨v0, v1, v2⟩ := cells3n ((hb3.block w.heap.size la2).trans HX2.out.1); have lb3 := Nat.lt_of_lt_of_le lb2 hb3.size; have la3 := Nat.lt_of_lt_of_le la2 hb3.size; have HB3 : Hid (Below w.heap.size w w3) := bel HB2.out hb3)
    | (go_at_call 19; refine (Q.new_c 4096 _ (by omega) (by omega)).mono ?_; rintro e w4 ⟨rfl, hw⟩; rw [hw]; clear hw)
    | (go_at_call 20; refine (HN.out _ (belA HB3.out _)).mono ?_; rintro e w5 ⟨F, rfl, HFX, hb5⟩; have HB5 : Hid (Below (w3.alloc (.cells #[.pointer (some ⟨w3.heap.size, 0, none⟩), .int .i64 4096, .slice none 0 0] 101)).heap.size (w3.alloc (.cells #[.pointer (some ⟨w3.heap.size, 0, none⟩), .int .i64 4096, .slice none 0 0] 101)) w5) := hb5; clear hb5))
  obtain ⟨bN, cN, bE, cE, bP, bT, cT, bI, bL, cL, ia, ic, hF, g0, g1, g2, g3, g4, g5, g6⟩ := HFX.out
  have f7 := hF.f7
  have lF := World.block_lt_of_cell? w5 ⟨F, 7, none⟩ f7
  clear hF g0 g1 g2 g3 g4 g5 g6 HFX x0 x1 x2 y0 y1 y2 la2 lb2 z0 z1 z2 v0 v1 v2 lb3 la3 a0 a1 a2 b0 b1 b2 la lb
  go_region_with (first
    | (go_at_call 21; refine (own_nil F _).mono ?_; rintro e w6 ⟨rfl, hw⟩; rw [hw]; clear hw))
  all_goals
    go_wp2_with fail
    go_ret2
    have hbA : Below w5.heap.size w5 ((w5.alloc (.cells #[.pointer (some ⟨w5.heap.size, 0, none⟩), .pointer (some ⟨F, 0, none⟩), .int .i64 (-1), .slice none 0 0, .int .i64 0, .slice (some ⟨bI, 0, none⟩) 1 1, .pointer (some ⟨w3.heap.size, 0, none⟩), .pointer none] 52)).drew) := (belA (Below.refl _ _) _).drew
    exact ⟨w5.heap.size, rfl, bel (bel (bel HB3.out (belA (Below.refl _ _) _)) HB5.out) hbA⟩
end Go.Proofs.YtokepgnnepjiaaaGreat
