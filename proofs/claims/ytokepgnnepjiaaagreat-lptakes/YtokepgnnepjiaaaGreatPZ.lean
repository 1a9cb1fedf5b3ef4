/- A process is made: that of the delay; what may not be is refused. -/
import Derived.Test.YtokepgnnepjiaaaGreatGPc
import Derived.Test.YtokepgnnepjiaaaGreatPW1
import Derived.Test.YtokepgnnepjiaaaGreatPH
namespace Go.Proofs.YtokepgnnepjiaaaGreat
set_option maxRecDepth 100000
open Go.RowKit Lg Nl Go.Maps
set_option linter.unusedVariables false
set_option linter.unusedSimpArgs false

/-- blocks that a queue's calls leave alone -/
def Sep (q : Nat) (v : Value) (b : Nat) : Prop := b ≠ q ∧ v.ownBlock ≠ some b
/-- all but a process, its queue and the queue's row are as they were -/
structure But3 (p q : Nat) (U : Option Nat) (w w' : World) : Prop where
  os : w'.os = w.os
  tape : w'.tape = w.tape
  output : w'.output = w.output
  size : w.heap.size ≤ w'.heap.size
  block : ∀ k, k < w.heap.size → k ≠ p → k ≠ q → U ≠ some k → w'.heap[k]? = w.heap[k]?
theorem But3.pre {p q : Nat} {U : Option Nat} {w X w' : World} (h : But3 p q U X w') (hX : Below w.heap.size w X) : But3 p q U w w' :=
  ⟨h.os.trans hX.os, h.tape.trans hX.tape, h.output.trans hX.output, Nat.le_trans hX.size h.size, fun k hk a b c => (h.block k (Nat.lt_of_lt_of_le hk hX.size) a b c).trans (hX.block k hk)⟩
/-- process 1: what it is at a world -/
structure U1 (B p q : Nat) (hz d : Int) (v : ByteArray) (l : List Q.Qu.Ev) (pp : Option Addr) (F bN cN bE cE bP bT cT bI : Nat) (ia : Option Addr) (ic bV cV : Nat) (vq : Value) (W : World) : Prop where
  pb : W.heap[p]? = some (prC p F q d (.slice none 0 0) 0 (.slice (some ⟨bV, 0, none⟩) 1 cV) pp)
  fx : Fc1 hz F bN cN bE cE bP bT cT bI ia ic W
  vv : W.cell? ⟨bV, 0, none⟩ = some (.string v)
  qh : Q.Qh B q 4096 W vq l
  hB : B ≤ W.heap.size
  gp : B ≤ p
  sp : Sep q vq p
  sv : Sep q vq bV
  vp : bV ≠ p
  sf : ∀ b, (b = F ∨ b = bN ∨ b = bE ∨ b = bP ∨ b = bT ∨ b = bI) → Sep q vq b ∧ b ≠ p
  lo : ∀ b, (b = F ∨ b = bN ∨ b = bE ∨ b = bP ∨ b = bT ∨ b = bI ∨ b = bV) → B ≤ b
def U1E (B p q : Nat) (hz d : Int) (v : ByteArray) (l : List Q.Qu.Ev) (pp : Option Addr) (S : Nat) (W : World) : Prop := ∃ F bN cN bE cE bP bT cT bI ia ic bV cV vq, U1 B p q hz d v l pp F bN cN bE cE bP bT cT bI ia ic bV cV vq W ∧ ∀ k, vq.ownBlock = some k → S ≤ k
theorem stimN (NN NT : Nat) (w : World) : ∀ W, Below w.heap.size w W → Calls Tryz.prog 59 #[.slice none 0 0, .agg #[.slice (some ⟨NN, 0, none⟩) 2 2, .slice (some ⟨NT, 0, none⟩) 2 2, .int .i64 2]] W fun e w' => e = .returned (.bool true) ∧ Below W.heap.size W w' := fun W _ => stim_nil undef undef undef _ _ _ _ _ _ _ W
set_option maxHeartbeats 2000000 in
theorem new_k (NN I NT O M A B : Nat) (k h : Int) (w : World) (hT : Tw NN I NT O M A B w) (h0 : 0 ≤ h) (h1 : h ≤ 1000) (hk : k < 0 ∨ 2 ≤ k) :
    Calls Tryz.prog 6 #[.agg #[.slice (some ⟨NN, 0, none⟩) 2 2, .slice (some ⟨NT, 0, none⟩) 2 2, .int .i64 2], .agg #[.slice (some ⟨O, 0, none⟩) 2 2, .int .i64 2, .slice (some ⟨M, 0, none⟩) 2 2], .int .i64 k, .slice none 0 0, .int .i64 h] w fun e w' => e = .returned (.tuple #[.pointer none, .int .i64 1]) ∧ Below w.heap.size w w' := by
  have HT : Hid (Tw NN I NT O M A B w) := hT
  obtain ⟨W, hW⟩ : ∃ W, W = (w.alloc (.cells #[.slice (some ⟨NN, 0, none⟩) 2 2, .slice (some ⟨NT, 0, none⟩) 2 2, .int .i64 2] 26)).alloc (.cells #[.slice (some ⟨O, 0, none⟩) 2 2, .int .i64 2, .slice (some ⟨M, 0, none⟩) 2 2] 29) := ⟨_, rfl⟩
  have HB : Hid (Below w.heap.size w W) := by rw [hW]; exact belA (belA (Below.refl _ _) _) _
  have hn : W.heap[w.heap.size]? = some (.cells #[.slice (some ⟨NN, 0, none⟩) 2 2, .slice (some ⟨NT, 0, none⟩) 2 2, .int .i64 2] 26 (0, 0)) := by rw [hW]; exact (alOld (by simp)).trans (alAt rfl)
  have hp : W.heap[w.heap.size + 1]? = some (.cells #[.slice (some ⟨O, 0, none⟩) 2 2, .int .i64 2, .slice (some ⟨M, 0, none⟩) 2 2] 29 (0, 0)) := by rw [hW]; exact alAt (by simp)
  have HNB : Hid (W.heap[w.heap.size]? = some (.cells #[.slice (some ⟨NN, 0, none⟩) 2 2, .slice (some ⟨NT, 0, none⟩) 2 2, .int .i64 2] 26 (0, 0)) ∧ W.heap[w.heap.size + 1]? = some (.cells #[.slice (some ⟨O, 0, none⟩) 2 2, .int .i64 2, .slice (some ⟨M, 0, none⟩) 2 2] 29 (0, 0))) := ⟨hn, hp⟩
  obtain ⟨a0, a1, a2⟩ := cells3n hn
  obtain ⟨b0, b1, b2⟩ := cells3n hp
  have la := hLt hn
  have lb := hLt hp
  have HC : Hid (Calls Tryz.prog 17 #[.agg #[.slice (some ⟨NN, 0, none⟩) 2 2, .slice (some ⟨NT, 0, none⟩) 2 2, .int .i64 2], .slice none 0 0, .int .i64 h] W fun e w' => e = .returned (.int .i64 0) ∧ Below W.heap.size W w') := eCheck_c NN I NT O M A B none 0 0 h W (hT.below HB.out) h0 h1 (stimN NN NT W)
  clear hT hn hp
  have HP : Hid (∀ X, Below w.heap.size w X → Calls Tryz.prog 18 #[.agg #[.slice (some ⟨NN, 0, none⟩) 2 2, .slice (some ⟨NT, 0, none⟩) 2 2, .int .i64 2], .agg #[.slice (some ⟨O, 0, none⟩) 2 2, .int .i64 2, .slice (some ⟨M, 0, none⟩) 2 2]] X fun e w' => e = .returned (.int .i64 0) ∧ Below X.heap.size X w') := fun X hX => pChk NN I NT O M A B X (HT.out.below hX)
  rcases hk with hk | hk
  · go_enter Tryz.func6, Tryz.ntmps6
    go_wp2_with (first
      | (go_at_call 17; rw [← hW]; refine HC.out.mono ?_; rintro e w2 ⟨rfl, hb2⟩; have HB2 : Hid (Below w.heap.size w w2) := bel HB.out hb2; obtain ⟨x0, x1, x2⟩ := cells3n ((hb2.block w.heap.size la).trans HNB.out.1); obtain ⟨y0, y1, y2⟩ := cells3n ((hb2.block (w.heap.size + 1) lb).trans HNB.out.2); have la2 := Nat.lt_of_lt_of_le la hb2.size; have lb2 := Nat.lt_of_lt_of_le lb hb2.size; have HX2 : Hid (w2.heap[w.heap.size + 1]? = some (.cells #[.slice (some ⟨O, 0, none⟩) 2 2, .int .i64 2, .slice (some ⟨M, 0, none⟩) 2 2] 29 (0, 0))) := (hb2.block (w.heap.size + 1) lb).trans HNB.out.2)
      | (go_at_call 18; refine (HP.out _ HB2.out).mono ?_; rintro e w3 ⟨rfl, hb3⟩; obtain ⟨z0, z1, z2⟩ := cells3n ((hb3.block (w.heap.size + 1) lb2).trans HX2.out); have lb3 := Nat.lt_of_lt_of_le lb2 hb3.size))
    go_ret2
    exact ⟨rfl, bel HB2.out hb3⟩
  · go_enter Tryz.func6, Tryz.ntmps6
    go_wp2_with (first
      | (go_at_call 17; rw [← hW]; refine HC.out.mono ?_; rintro e w2 ⟨rfl, hb2⟩; have HB2 : Hid (Below w.heap.size w w2) := bel HB.out hb2; obtain ⟨x0, x1, x2⟩ := cells3n ((hb2.block w.heap.size la).trans HNB.out.1); obtain ⟨y0, y1, y2⟩ := cells3n ((hb2.block (w.heap.size + 1) lb).trans HNB.out.2); have la2 := Nat.lt_of_lt_of_le la hb2.size; have lb2 := Nat.lt_of_lt_of_le lb hb2.size; have HX2 : Hid (w2.heap[w.heap.size + 1]? = some (.cells #[.slice (some ⟨O, 0, none⟩) 2 2, .int .i64 2, .slice (some ⟨M, 0, none⟩) 2 2] 29 (0, 0))) := (hb2.block (w.heap.size + 1) lb).trans HNB.out.2)
      | (go_at_call 18; refine (HP.out _ HB2.out).mono ?_; rintro e w3 ⟨rfl, hb3⟩; obtain ⟨z0, z1, z2⟩ := cells3n ((hb3.block (w.heap.size + 1) lb2).trans HX2.out); have lb3 := Nat.lt_of_lt_of_le lb2 hb3.size))
    go_ret2
    exact ⟨rfl, bel HB2.out hb3⟩
set_option maxHeartbeats 2000000 in
theorem new_parts (NN I NT O M A B : Nat) (h : Int) (w : World) (hT : Tw NN I NT O M A B w) (h0 : 0 ≤ h) (h1 : h ≤ 1000) :
    Calls Tryz.prog 6 #[.agg #[.slice (some ⟨NN, 0, none⟩) 2 2, .slice (some ⟨NT, 0, none⟩) 2 2, .int .i64 2], .agg #[.slice none 0 0, .int .i64 0, .slice none 0 0], .int .i64 0, .slice none 0 0, .int .i64 h] w fun e w' => e = .returned (.tuple #[.pointer none, .int .i64 1]) ∧ Below w.heap.size w w' := by
  have HT : Hid (Tw NN I NT O M A B w) := hT
  obtain ⟨W, hW⟩ : ∃ W, W = (w.alloc (.cells #[.slice (some ⟨NN, 0, none⟩) 2 2, .slice (some ⟨NT, 0, none⟩) 2 2, .int .i64 2] 26)).alloc (.cells #[.slice none 0 0, .int .i64 0, .slice none 0 0] 29) := ⟨_, rfl⟩
  have HB : Hid (Below w.heap.size w W) := by rw [hW]; exact belA (belA (Below.refl _ _) _) _
  have hn : W.heap[w.heap.size]? = some (.cells #[.slice (some ⟨NN, 0, none⟩) 2 2, .slice (some ⟨NT, 0, none⟩) 2 2, .int .i64 2] 26 (0, 0)) := by rw [hW]; exact (alOld (by simp)).trans (alAt rfl)
  have hp : W.heap[w.heap.size + 1]? = some (.cells #[.slice none 0 0, .int .i64 0, .slice none 0 0] 29 (0, 0)) := by rw [hW]; exact alAt (by simp)
  have HNB : Hid (W.heap[w.heap.size]? = some (.cells #[.slice (some ⟨NN, 0, none⟩) 2 2, .slice (some ⟨NT, 0, none⟩) 2 2, .int .i64 2] 26 (0, 0)) ∧ W.heap[w.heap.size + 1]? = some (.cells #[.slice none 0 0, .int .i64 0, .slice none 0 0] 29 (0, 0))) := ⟨hn, hp⟩
  obtain ⟨a0, a1, a2⟩ := cells3n hn
  obtain ⟨b0, b1, b2⟩ := cells3n hp
  have la := hLt hn
  have lb := hLt hp
  have HC : Hid (Calls Tryz.prog 17 #[.agg #[.slice (some ⟨NN, 0, none⟩) 2 2, .slice (some ⟨NT, 0, none⟩) 2 2, .int .i64 2], .slice none 0 0, .int .i64 h] W fun e w' => e = .returned (.int .i64 0) ∧ Below W.heap.size W w') := eCheck_c NN I NT O M A B none 0 0 h W (hT.below HB.out) h0 h1 (stimN NN NT W)
  clear hT hn hp
  have HP : Hid (∀ X, Below w.heap.size w X → Calls Tryz.prog 18 #[.agg #[.slice (some ⟨NN, 0, none⟩) 2 2, .slice (some ⟨NT, 0, none⟩) 2 2, .int .i64 2], .agg #[.slice none 0 0, .int .i64 0, .slice none 0 0]] X fun e w' => e = .returned (.int .i64 1) ∧ Below X.heap.size X w') := fun X hX => pChk0 NN I NT O M A B X (HT.out.below hX)
  go_enter Tryz.func6, Tryz.ntmps6
  go_wp2_with (first
    | (go_at_call 17; rw [← hW]; refine HC.out.mono ?_; rintro e w2 ⟨rfl, hb2⟩; have HB2 : Hid (Below w.heap.size w w2) := bel HB.out hb2; obtain ⟨x0, x1, x2⟩ := cells3n ((hb2.block w.heap.size la).trans HNB.out.1); obtain ⟨y0, y1, y2⟩ := cells3n ((hb2.block (w.heap.size + 1) lb).trans HNB.out.2); have la2 := Nat.lt_of_lt_of_le la hb2.size; have lb2 := Nat.lt_of_lt_of_le lb hb2.size; have HX2 : Hid (w2.heap[w.heap.size + 1]? = some (.cells #[.slice none 0 0, .int .i64 0, .slice none 0 0] 29 (0, 0))) := (hb2.block (w.heap.size + 1) lb).trans HNB.out.2)
    | (go_at_call 18; refine (HP.out _ HB2.out).mono ?_; rintro e w3 ⟨rfl, hb3⟩; obtain ⟨z0, z1, z2⟩ := cells3n ((hb3.block (w.heap.size + 1) lb2).trans HX2.out); have lb3 := Nat.lt_of_lt_of_le lb2 hb3.size))
  go_ret2
  exact ⟨rfl, bel HB2.out hb3⟩
set_option maxHeartbeats 4000000 in
theorem new1_c (NN I NT O M A B : Nat) (h : Int) (w : World) (hT : Tw NN I NT O M A B w) (h0 : 0 ≤ h) (h1 : h ≤ 1000) :
    Calls Tryz.prog 6 #[.agg #[.slice (some ⟨NN, 0, none⟩) 2 2, .slice (some ⟨NT, 0, none⟩) 2 2, .int .i64 2], .agg #[.slice (some ⟨O, 0, none⟩) 2 2, .int .i64 2, .slice (some ⟨M, 0, none⟩) 2 2], .int .i64 1, .slice none 0 0, .int .i64 h] w fun e w' => ∃ p q, e = .returned (.tuple #[.pointer (some ⟨p, 0, none⟩), .int .i64 0]) ∧ Hid (∀ S, U1E w.heap.size p q h (-1) ⟨#[120]⟩ [] none S w') ∧ Hid (w.heap.size ≤ p ∧ w.heap.size ≤ q) ∧ Below w.heap.size w w' := by
  have HT : Hid (Tw NN I NT O M A B w) := hT
  obtain ⟨W, hW⟩ : ∃ W, W = (w.alloc (.cells #[.slice (some ⟨NN, 0, none⟩) 2 2, .slice (some ⟨NT, 0, none⟩) 2 2, .int .i64 2] 26)).alloc (.cells #[.slice (some ⟨O, 0, none⟩) 2 2, .int .i64 2, .slice (some ⟨M, 0, none⟩) 2 2] 29) := ⟨_, rfl⟩
  have HB : Hid (Below w.heap.size w W) := by rw [hW]; exact belA (belA (Below.refl _ _) _) _
  have hn : W.heap[w.heap.size]? = some (.cells #[.slice (some ⟨NN, 0, none⟩) 2 2, .slice (some ⟨NT, 0, none⟩) 2 2, .int .i64 2] 26 (0, 0)) := by rw [hW]; exact (alOld (by simp)).trans (alAt rfl)
  have hp : W.heap[w.heap.size + 1]? = some (.cells #[.slice (some ⟨O, 0, none⟩) 2 2, .int .i64 2, .slice (some ⟨M, 0, none⟩) 2 2] 29 (0, 0)) := by rw [hW]; exact alAt (by simp)
  have HNB : Hid (W.heap[w.heap.size]? = some (.cells #[.slice (some ⟨NN, 0, none⟩) 2 2, .slice (some ⟨NT, 0, none⟩) 2 2, .int .i64 2] 26 (0, 0)) ∧ W.heap[w.heap.size + 1]? = some (.cells #[.slice (some ⟨O, 0, none⟩) 2 2, .int .i64 2, .slice (some ⟨M, 0, none⟩) 2 2] 29 (0, 0))) := ⟨hn, hp⟩
  obtain ⟨a0, a1, a2⟩ := cells3n hn
  obtain ⟨b0, b1, b2⟩ := cells3n hp
  have la := hLt hn
  have lb := hLt hp
  have HC : Hid (Calls Tryz.prog 17 #[.agg #[.slice (some ⟨NN, 0, none⟩) 2 2, .slice (some ⟨NT, 0, none⟩) 2 2, .int .i64 2], .slice none 0 0, .int .i64 h] W fun e w' => e = .returned (.int .i64 0) ∧ Below W.heap.size W w') := eCheck_c NN I NT O M A B none 0 0 h W (hT.below HB.out) h0 h1 (stimN NN NT W)
  clear hT hn hp
  have HP : Hid (∀ X, Below w.heap.size w X → Calls Tryz.prog 18 #[.agg #[.slice (some ⟨NN, 0, none⟩) 2 2, .slice (some ⟨NT, 0, none⟩) 2 2, .int .i64 2], .agg #[.slice (some ⟨O, 0, none⟩) 2 2, .int .i64 2, .slice (some ⟨M, 0, none⟩) 2 2]] X fun e w' => e = .returned (.int .i64 0) ∧ Below X.heap.size X w') := fun X hX => pChk NN I NT O M A B X (HT.out.below hX)
  have HN : Hid (∀ X, Below w.heap.size w X → Calls Tryz.prog 20 #[.agg #[.slice (some ⟨NN, 0, none⟩) 2 2, .slice (some ⟨NT, 0, none⟩) 2 2, .int .i64 2], .slice (some ⟨O, 0, none⟩) 2 2, .int .i64 1, .int .i64 h] X fun e w' => ∃ F, e = .returned (.pointer (some ⟨F, 0, none⟩)) ∧ Hid (FX1 X h F w') ∧ Below X.heap.size X w') := fun X hX => newFixed1_c NN I NT O M A B h X (HT.out.below hX)
  go_enter Tryz.func6, Tryz.ntmps6
  go_wp2_with (first
    | (go_at_call 17; rw [← hW]; refine HC.out.mono ?_; rintro e w2 ⟨rfl, hb2⟩; have HB2 : Hid (Below w.heap.size w w2) := bel HB.out hb2; obtain ⟨x0, x1, x2⟩ := cells3n ((hb2.block w.heap.size la).trans HNB.out.1); obtain ⟨y0, y1, y2⟩ := cells3n ((hb2.block (w.heap.size + 1) lb).trans HNB.out.2); have la2 := Nat.lt_of_lt_of_le la hb2.size; have lb2 := Nat.lt_of_lt_of_le lb hb2.size; have HX2 : Hid (w2.heap[w.heap.size]? = some (.cells #[.slice (some ⟨NN, 0, none⟩) 2 2, .slice (some ⟨NT, 0, none⟩) 2 2, .int .i64 2] 26 (0, 0)) ∧ w2.heap[w.heap.size + 1]? = some (.cells #[.slice (some ⟨O, 0, none⟩) 2 2, .int .i64 2, .slice (some ⟨M, 0, none⟩) 2 2] 29 (0, 0))) := ⟨(hb2.block w.heap.size la).trans HNB.out.1, (hb2.block (w.heap.size + 1) lb).trans HNB.out.2⟩)
    | (go_at_call 18; refine (HP.out _ HB2.out).mono ?_; rintro e w3 ⟨rfl, hb3⟩; obtain ⟨z0, z1, z2⟩ := cells3n ((hb3.block (w.heap.size + 1) lb2).trans HX2.out.2); obtain ⟨v0, v1, v2⟩ := cells3n ((hb3.block w.heap.size la2).trans HX2.out.1); have lb3 := Nat.lt_of_lt_of_le lb2 hb3.size; have la3 := Nat.lt_of_lt_of_le la2 hb3.size; have HB3 : Hid (Below w.heap.size w w3) := bel HB2.out hb3)
    | (go_at_call 19; refine (Q.new_c 4096 _ (by omega) (by omega)).mono ?_; rintro e w4 ⟨rfl, hw⟩; rw [hw]; clear hw)
    | (go_at_call 20; refine (HN.out _ (belA HB3.out _)).mono ?_; rintro e w5 ⟨F, rfl, HFX, hb5⟩; have HB5 : Hid (Below (w3.alloc (.cells #[.pointer (some ⟨w3.heap.size, 0, none⟩), .int .i64 4096, .slice none 0 0] 101)).heap.size (w3.alloc (.cells #[.pointer (some ⟨w3.heap.size, 0, none⟩), .int .i64 4096, .slice none 0 0] 101)) w5) := hb5; clear hb5))
  obtain ⟨bN, cN, bE, cE, bP, bT, cT, bI, ia, ic, hF, g0, g1, g2, g3, g4, g5⟩ := HFX.out
  have HF : Hid (Fc1 h F bN cN bE cE bP bT cT bI ia ic w5) := hF
  have HG : Hid (w3.heap.size + 1 ≤ F ∧ w3.heap.size + 1 ≤ bN ∧ w3.heap.size + 1 ≤ bE ∧ w3.heap.size + 1 ≤ bP ∧ w3.heap.size + 1 ≤ bT ∧ w3.heap.size + 1 ≤ bI) := by simp at g0 g1 g2 g3 g4 g5; exact ⟨g0, g1, g2, g3, g4, g5⟩
  have f7 := hF.f7
  have lF := World.block_lt_of_cell? w5 ⟨F, 7, none⟩ f7
  clear hF g0 g1 g2 g3 g4 g5 HFX x0 x1 x2 y0 y1 y2 la2 lb2 z0 z1 z2 v0 v1 v2 lb3 la3 a0 a1 a2 b0 b1 b2 la lb
  go_region_with (first
    | (go_at_call 21; refine (own_nil F _).mono ?_; rintro e w6 ⟨rfl, hw⟩; rw [hw]; clear hw))
  all_goals
    go_wp2_with fail
    go_ret2
    have hg := HG.out
    have h3 := HB3.out.size
    have h5 := HB5.out.size
    simp at h5
    have hf := HF.out
    have l0 : F < w5.heap.size := World.block_lt_of_cell? w5 ⟨F, 7, none⟩ hf.f7
    have l1 : bN < w5.heap.size := World.block_lt_of_cell? w5 ⟨bN, 0, none⟩ hf.n0
    have l2 : bE < w5.heap.size := World.block_lt_of_cell? w5 ⟨bE, 0, none⟩ hf.e0
    have l3 : bP < w5.heap.size := World.block_lt_of_cell? w5 ⟨bP, 0, none⟩ hf.p0
    have l4 : bT < w5.heap.size := World.block_lt_of_cell? w5 ⟨bT, 0, none⟩ hf.t0
    have l5 : bI < w5.heap.size := World.block_lt_of_cell? w5 ⟨bI, 0, none⟩ hf.i0
    have hbA : Below w5.heap.size w5 ((w5.alloc (.cells #[.pointer (some ⟨w5.heap.size, 0, none⟩), .pointer (some ⟨F, 0, none⟩), .int .i64 (-1), .slice none 0 0, .int .i64 0, .slice (some ⟨bI, 0, none⟩) 1 1, .pointer (some ⟨w3.heap.size, 0, none⟩), .pointer none] 52)).drew) := (belA (Below.refl _ _) _).drew
    refine ⟨w5.heap.size, w3.heap.size, rfl, fun S => ⟨F, bN, cN, bE, cE, bP, bT, cT, bI, ia, ic, bI, 1, .slice none 0 0, ⟨alAt rfl, hf.below hbA, (hf.below hbA).i0, ((Q.Qh.start w.heap.size 4096 w3 h3).below HB5.out).below hbA, ?_, by omega, ⟨by omega, by simp [Value.ownBlock]⟩, ⟨by omega, by simp [Value.ownBlock]⟩, by omega, fun b hb => ⟨⟨by omega, by simp [Value.ownBlock]⟩, by omega⟩, fun b hb => by omega⟩, by simp [Value.ownBlock]⟩, ⟨by omega, by omega⟩, ?_⟩
    · show w.heap.size ≤ (w5.heap.push _).size; simp; omega
    · exact bel (bel (bel HB3.out (belA (Below.refl _ _) _)) HB5.out) hbA
end Go.Proofs.YtokepgnnepjiaaaGreat
