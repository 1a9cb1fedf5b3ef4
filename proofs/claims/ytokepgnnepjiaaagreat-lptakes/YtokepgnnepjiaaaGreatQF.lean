/- The process of the input is made. -/
import Derived.Test.YtokepgnnepjiaaaGreatPZ
import Derived.Test.YtokepgnnepjiaaaGreatPW0
namespace Go.Proofs.YtokepgnnepjiaaaGreat
set_option maxRecDepth 100000
open Go.RowKit Lg Nl Go.Maps
set_option linter.unusedVariables false
set_option linter.unusedSimpArgs false

/-- process 0: what it is at a world, a change of its stimulus being yet to come -/
structure U0 (B p q : Nat) (hz d : Int) (v : ByteArray) (pp : Option Addr) (F bN cN bE cE bP bT cT bI bL cL : Nat) (ia : Option Addr) (ic bV cV bS cS : Nat) (vq : Value) (W : World) : Prop where
  pb : W.heap[p]? = some (prC p F q d (.slice (some ⟨bS, 0, none⟩) 1 cS) 0 (.slice (some ⟨bV, 0, none⟩) 1 cV) pp)
  fx : Fc0 hz F bN cN bE cE bP bT cT bI bL cL ia ic W
  vv : W.cell? ⟨bV, 0, none⟩ = some (.string v)
  st : C1 B bS 3 0 ⟨#[49]⟩ W
  sc : 1 ≤ cS
  qh : Q.Qh B q 4096 W vq []
  hB : B ≤ W.heap.size
  gp : B ≤ p
  sp : Sep q vq p
  sv : Sep q vq bV
  ss : Sep q vq bS
  vp : bV ≠ p
  tp : bS ≠ p
  sf : ∀ b, (b = F ∨ b = bN ∨ b = bE ∨ b = bP ∨ b = bT ∨ b = bI ∨ b = bL) → Sep q vq b ∧ b ≠ p
def U0E (B p q : Nat) (hz d : Int) (v : ByteArray) (pp : Option Addr) (S : Nat) (W : World) : Prop := ∃ F bN cN bE cE bP bT cT bI bL cL ia ic bV cV bS cS vq, U0 B p q hz d v pp F bN cN bE cE bP bT cT bI bL cL ia ic bV cV bS cS vq W ∧ ∀ k, vq.ownBlock = some k → S ≤ k
set_option maxHeartbeats 4000000 in
theorem new0_c (NN I NT O M A B bX cX : Nat) (h : Int) (w : World) (hT : Tw NN I NT O M A B w) (x0' : w.cell? ⟨bX, 0, none⟩ = some (.int .i64 3)) (x1' : w.cell? ⟨bX, 1, none⟩ = some (.int .i64 0)) (x2' : w.cell? ⟨bX, 2, none⟩ = some (.string ⟨#[49]⟩)) (h0 : 0 ≤ h) (h1 : h ≤ 1000) :
    Calls Tryz.prog 6 #[.agg #[.slice (some ⟨NN, 0, none⟩) 2 2, .slice (some ⟨NT, 0, none⟩) 2 2, .int .i64 2], .agg #[.slice (some ⟨O, 0, none⟩) 2 2, .int .i64 2, .slice (some ⟨M, 0, none⟩) 2 2], .int .i64 0, .slice (some ⟨bX, 0, none⟩) 1 cX, .int .i64 h] w fun e w' => ∃ p q, e = .returned (.tuple #[.pointer (some ⟨p, 0, none⟩), .int .i64 0]) ∧ Hid (∀ S, U0E w.heap.size p q h (-1) ⟨#[120]⟩ none S w') ∧ Hid (w.heap.size ≤ p ∧ w.heap.size ≤ q) ∧ Below w.heap.size w w' := by
  have lX : bX < w.heap.size := World.block_lt_of_cell? w ⟨bX, 0, none⟩ x0'
  have HT : Hid (Tw NN I NT O M A B w) := hT
  obtain ⟨W, hW⟩ : ∃ W, W = (w.alloc (.cells #[.slice (some ⟨NN, 0, none⟩) 2 2, .slice (some ⟨NT, 0, none⟩) 2 2, .int .i64 2] 26)).alloc (.cells #[.slice (some ⟨O, 0, none⟩) 2 2, .int .i64 2, .slice (some ⟨M, 0, none⟩) 2 2] 29) := ⟨_, rfl⟩
  have HB : Hid (Below w.heap.size w W) := by rw [hW]; exact belA (belA (Below.refl _ _) _) _
  have hn : W.heap[w.heap.size]? = some (.cells #[.slice (some ⟨NN, 0, none⟩) 2 2, .slice (some ⟨NT, 0, none⟩) 2 2, .int .i64 2] 26 (0, 0)) := by rw [hW]; exact (alOld (by simp)).trans (alAt rfl)
  have hp : W.heap[w.heap.size + 1]? = some (.cells #[.slice (some ⟨O, 0, none⟩) 2 2, .int .i64 2, .slice (some ⟨M, 0, none⟩) 2 2] 29 (0, 0)) := by rw [hW]; exact alAt (by simp)
  have HNB : Hid (W.heap[w.heap.size]? = some (.cells #[.slice (some ⟨NN, 0, none⟩) 2 2, .slice (some ⟨NT, 0, none⟩) 2 2, .int .i64 2] 26 (0, 0)) ∧ W.heap[w.heap.size + 1]? = some (.cells #[.slice (some ⟨O, 0, none⟩) 2 2, .int .i64 2, .slice (some ⟨M, 0, none⟩) 2 2] 29 (0, 0))) := ⟨hn, hp⟩
  obtain ⟨a0, a1, a2⟩ := cells3n hn
  obtain ⟨b0, b1, b2⟩ := cells3n hp
  have la := hLt hn
  have lb := hLt hp
  have HC : Hid (Calls Tryz.prog 17 #[.agg #[.slice (some ⟨NN, 0, none⟩) 2 2, .slice (some ⟨NT, 0, none⟩) 2 2, .int .i64 2], .slice (some ⟨bX, 0, none⟩) 1 cX, .int .i64 h] W fun e w' => e = .returned (.int .i64 0) ∧ Below W.heap.size W w') := eCheck_c NN I NT O M A B (some ⟨bX, 0, none⟩) 1 cX h W (hT.below HB.out) h0 h1 (fun X hX => stim_one NN I NT O M A B bX cX X ((hT.below HB.out).below hX) ((hX.cell (p := ⟨bX, 0, none⟩) (Nat.lt_of_lt_of_le lX HB.out.size)).trans ((HB.out.cell (p := ⟨bX, 0, none⟩) lX).trans x0')) ((hX.cell (p := ⟨bX, 1, none⟩) (Nat.lt_of_lt_of_le lX HB.out.size)).trans ((HB.out.cell (p := ⟨bX, 1, none⟩) lX).trans x1')) ((hX.cell (p := ⟨bX, 2, none⟩) (Nat.lt_of_lt_of_le lX HB.out.size)).trans ((HB.out.cell (p := ⟨bX, 2, none⟩) lX).trans x2')))
  clear hT hn hp
  have HP : Hid (∀ X, Below w.heap.size w X → Calls Tryz.prog 18 #[.agg #[.slice (some ⟨NN, 0, none⟩) 2 2, .slice (some ⟨NT, 0, none⟩) 2 2, .int .i64 2], .agg #[.slice (some ⟨O, 0, none⟩) 2 2, .int .i64 2, .slice (some ⟨M, 0, none⟩) 2 2]] X fun e w' => e = .returned (.int .i64 0) ∧ Below X.heap.size X w') := fun X hX => pChk NN I NT O M A B X (HT.out.below hX)
  have HN : Hid (∀ X, Below w.heap.size w X → Calls Tryz.prog 20 #[.agg #[.slice (some ⟨NN, 0, none⟩) 2 2, .slice (some ⟨NT, 0, none⟩) 2 2, .int .i64 2], .slice (some ⟨O, 0, none⟩) 2 2, .int .i64 0, .int .i64 h] X fun e w' => ∃ F, e = .returned (.pointer (some ⟨F, 0, none⟩)) ∧ Hid (FX0 X h F w') ∧ Below X.heap.size X w') := fun X hX => newFixed0_c NN I NT O M A B h X (HT.out.below hX)
  go_enter Tryz.func6, Tryz.ntmps6
  go_wp2_with (first
    | (go_at_call 17; rw [← hW]; refine HC.out.mono ?_; rintro e w2 ⟨rfl, hb2⟩; have HB2 : Hid (Below w.heap.size w w2) := bel HB.out hb2; obtain ⟨x0, x1, x2⟩ := cells3n ((hb2.block w.heap.size la).trans HNB.out.1); obtain ⟨y0, y1, y2⟩ := cells3n ((hb2.block (w.heap.size + 1) lb).trans HNB.out.2); have la2 := Nat.lt_of_lt_of_le la hb2.size; have lb2 := Nat.lt_of_lt_of_le lb hb2.size; have HX2 : Hid (w2.heap[w.heap.size]? = some (.cells #[.slice (some ⟨NN, 0, none⟩) 2 2, .slice (some ⟨NT, 0, none⟩) 2 2, .int .i64 2] 26 (0, 0)) ∧ w2.heap[w.heap.size + 1]? = some (.cells #[.slice (some ⟨O, 0, none⟩) 2 2, .int .i64 2, .slice (some ⟨M, 0, none⟩) 2 2] 29 (0, 0))) := ⟨(hb2.block w.heap.size la).trans HNB.out.1, (hb2.block (w.heap.size + 1) lb).trans HNB.out.2⟩)
    | (go_at_call 18; refine (HP.out _ HB2.out).mono ?_; rintro e w3 ⟨rfl, hb3⟩; obtain ⟨z0, z1, z2⟩ := cells3n ((hb3.block (w.heap.size + 1) lb2).trans HX2.out.2); obtain ⟨v0, v1, v2⟩ := cells3n ((hb3.block w.heap.size la2).trans HX2.out.1); have lb3 := Nat.lt_of_lt_of_le lb2 hb3.size; have la3 := Nat.lt_of_lt_of_le la2 hb3.size; have HB3 : Hid (Below w.heap.size w w3) := bel HB2.out hb3)
    | (go_at_call 19; refine (Q.new_c 4096 _ (by omega) (by omega)).mono ?_; rintro e w4 ⟨rfl, hw⟩; rw [hw]; clear hw)
    | (go_at_call 20; refine (HN.out _ (belA HB3.out _)).mono ?_; rintro e w5 ⟨F, rfl, HFX, hb5⟩; have HB5 : Hid (Below (w3.alloc (.cells #[.pointer (some ⟨w3.heap.size, 0, none⟩), .int .i64 4096, .slice none 0 0] 101)).heap.size (w3.alloc (.cells #[.pointer (some ⟨w3.heap.size, 0, none⟩), .int .i64 4096, .slice none 0 0] 101)) w5) := hb5; clear hb5))
  obtain ⟨bN, cN, bE, cE, bP, bT, cT, bI, bL, cL, ia, ic, hF, g0, g1, g2, g3, g4, g5, g6⟩ := HFX.out
  have HF : Hid (Fc0 h F bN cN bE cE bP bT cT bI bL cL ia ic w5) := hF
  have HG : Hid (w3.heap.size + 1 ≤ F ∧ w3.heap.size + 1 ≤ bN ∧ w3.heap.size + 1 ≤ bE ∧ w3.heap.size + 1 ≤ bP ∧ w3.heap.size + 1 ≤ bT ∧ w3.heap.size + 1 ≤ bI ∧ w3.heap.size + 1 ≤ bL) := by simp at g0 g1 g2 g3 g4 g5 g6; exact ⟨g0, g1, g2, g3, g4, g5, g6⟩
  have f7 := hF.f7
  have lF := World.block_lt_of_cell? w5 ⟨F, 7, none⟩ f7
  clear hF g0 g1 g2 g3 g4 g5 g6 HFX x0 x1 x2 y0 y1 y2 la2 lb2 z0 z1 z2 v0 v1 v2 lb3 la3 a0 a1 a2 b0 b1 b2 la lb
  have hbX : Below w.heap.size w w5 := bel (bel HB3.out (belA (Below.refl _ _) _)) HB5.out
  have HO : Hid (∀ X, Below w5.heap.size w5 X → Calls Tryz.prog 21 #[.pointer (some ⟨F, 0, none⟩), .slice (some ⟨bX, 0, none⟩) 1 cX] X fun e w' => ∃ g c, e = .returned (.slice (some ⟨g, 0, none⟩) 1 c) ∧ Hid (1 ≤ c ∧ C1 X.heap.size g 3 0 ⟨#[49]⟩ w') ∧ Below X.heap.size X w') := fun X hX => own_one F bT cT bX cX 3 ⟨#[49]⟩ X (HF.out.below hX).f5 (HF.out.below hX).t0 (((bel hbX hX).cell (p := ⟨bX, 0, none⟩) lX).trans x0') (((bel hbX hX).cell (p := ⟨bX, 1, none⟩) lX).trans x1') (((bel hbX hX).cell (p := ⟨bX, 2, none⟩) lX).trans x2')
  clear hbX x0' x1' x2'
  go_region_with (first
    | (go_at_call 21; refine (HO.out _ (Below.refl _ _).drew).mono ?_; rintro e w6 ⟨bS, cS, rfl, HSt, hb6⟩; have hb6' : Below w5.heap.size w5 w6 := (by exact ⟨hb6.os, hb6.tape, hb6.output, hb6.size, hb6.block⟩); have f7' := (hb6'.cell (p := ⟨F, 7, none⟩) lF).trans f7; have lF6 := Nat.lt_of_lt_of_le lF hb6'.size))
  all_goals
    go_wp2_with fail
    go_ret2
    have hg := HG.out
    have h3 := HB3.out.size
    have h5 := HB5.out.size
    simp at h5
    have h6 := hb6'.size
    have hf := HF.out.below hb6'
    have l0 : F < w5.heap.size := World.block_lt_of_cell? w5 ⟨F, 7, none⟩ HF.out.f7
    have l1 : bN < w5.heap.size := World.block_lt_of_cell? w5 ⟨bN, 0, none⟩ HF.out.n0
    have l2 : bE < w5.heap.size := World.block_lt_of_cell? w5 ⟨bE, 0, none⟩ HF.out.e0
    have l3 : bP < w5.heap.size := World.block_lt_of_cell? w5 ⟨bP, 0, none⟩ HF.out.p0
    have l4 : bT < w5.heap.size := World.block_lt_of_cell? w5 ⟨bT, 0, none⟩ HF.out.t0
    have l5 : bI < w5.heap.size := World.block_lt_of_cell? w5 ⟨bI, 0, none⟩ HF.out.i0
    have l6 : bL < w5.heap.size := World.block_lt_of_cell? w5 ⟨bL, 0, none⟩ HF.out.l0
    have hS := HSt.out
    have lS : bS < w6.heap.size := hS.2.lt
    have gS : w5.heap.size ≤ bS := hS.2.ge
    have hbA : Below w6.heap.size w6 (w6.alloc (.cells #[.pointer (some ⟨w6.heap.size, 0, none⟩), .pointer (some ⟨F, 0, none⟩), .int .i64 (-1), .slice (some ⟨bS, 0, none⟩) 1 cS, .int .i64 0, .slice (some ⟨bI, 0, none⟩) 1 1, .pointer (some ⟨w3.heap.size, 0, none⟩), .pointer none] 52)) := belA (Below.refl _ _) _
    refine ⟨w6.heap.size, w3.heap.size, rfl, fun S => ⟨F, bN, cN, bE, cE, bP, bT, cT, bI, bL, cL, ia, ic, bI, 1, bS, cS, .slice none 0 0, ⟨alAt rfl, hf.below hbA, (hf.below hbA).i0, ?_, hS.1, (((Q.Qh.start w.heap.size 4096 w3 h3).below HB5.out).below hb6').below hbA, ?_, by omega, ⟨by omega, by simp [Value.ownBlock]⟩, ⟨by omega, by simp [Value.ownBlock]⟩, ⟨by omega, by simp [Value.ownBlock]⟩, by omega, by omega, fun b hb => ⟨⟨by omega, by simp [Value.ownBlock]⟩, by omega⟩⟩, by simp [Value.ownBlock]⟩, ⟨by omega, by omega⟩, ?_⟩
    · have hk := hS.2.below hbA
      exact ⟨by omega, hk.c0, hk.c1, hk.c2⟩
    · show w.heap.size ≤ (w6.heap.push _).size; simp; omega
    · exact bel (bel (bel (bel HB3.out (belA (Below.refl _ _) _)) HB5.out) hb6') hbA
end Go.Proofs.YtokepgnnepjiaaaGreat
