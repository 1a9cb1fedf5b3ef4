/- Layer 4 of the program: an assign without a delay. -/
import Derived.Test.YthdhmlojihpfkaaGreatSJ
namespace Go.Proofs.YthdhmlojihpfkaaGreat
open Go.RowKit Lg
set_option linter.unusedVariables false
set_option linter.unusedSimpArgs false

/-- all blocks but two are as they were -/
structure K2 (b R : Nat) (w w' : World) : Prop where
  os : w'.os = w.os
  tape : w'.tape = w.tape
  output : w'.output = w.output
  size : w.heap.size ≤ w'.heap.size
  block : ∀ k, k < w.heap.size → k ≠ b → k ≠ R → w'.heap[k]? = w.heap[k]?
theorem K2.of {b R : Nat} {w w' : World} (h : Kp b w w') : K2 b R w w' := ⟨h.os, h.tape, h.output, h.size, fun k h1 h2 _ => h.block k h1 h2⟩
theorem K2.setR {b R j : Nat} {w w1 : World} {y : Value} (h : K2 b R w w1) : K2 b R w (w1.setCell ⟨R, j, none⟩ y) :=
  ⟨h.os, h.tape, h.output, by simp [World.setCell]; exact h.size, fun k hk hb hR => (Below.heap_setCell _ _ _ _ hR).trans (h.block k hk hb hR)⟩
theorem K2.six {b R j : Nat} {w w1 : World} {y v0 v1 v2 v3 v4 v5 : Value} (h : K2 b R w w1) : K2 b R w (((((((w1.setCell ⟨R, 1, none⟩ y).setCell ⟨R, 23, none⟩ v0).setCell ⟨R, 24, none⟩ v1).setCell ⟨R, 25, none⟩ v2).setCell ⟨R, 26, none⟩ v3).setCell ⟨R, 27, none⟩ v4).setCell ⟨R, 28, none⟩ v5) :=
  h.setR.setR.setR.setR.setR.setR.setR
/-- an assign's cells -/
def itC (nm a b c d e f p : Value) : Array Value := #[.int .i64 4, nm, .slice none 0 0, .bool false, .int .i64 0, .string ⟨#[]⟩, .string ⟨#[]⟩, .bool false, .slice none 0 0, .int .i64 0, .int .i64 0, .string ⟨#[]⟩, .string ⟨#[]⟩, .bool false, .slice none 0 0, .int .i64 0, .bool false, .int .i64 0, .string ⟨#[]⟩, .string ⟨#[]⟩, .bool false, .slice none 0 0, .int .i64 0, a, b, c, d, e, f, .int .i64 0, .string ⟨#[]⟩, .string ⟨#[]⟩, .bool false, .slice none 0 0, .int .i64 0, .int .i64 0, .string ⟨#[]⟩, .string ⟨#[]⟩, .bool false, .slice none 0 0, .int .i64 0, .string ⟨#[]⟩, .string ⟨#[]⟩, .slice none 0 0, .slice none 0 0, .slice none 0 0, .slice none 0 0, p]
structure IAt (w : World) (R : Nat) (nm a b c d e f p : Value) : Prop where
  blk : w.heap[R]? = some (.cells (itC nm a b c d e f p) 50 (0, 0))
theorem IAt.at_ {w : World} {R : Nat} {nm a b c d e f p : Value} (h : IAt w R nm a b c d e f p) : w.cell? ⟨R, 1, none⟩ = some nm ∧ w.cell? ⟨R, 23, none⟩ = some a ∧ w.cell? ⟨R, 24, none⟩ = some b ∧ w.cell? ⟨R, 25, none⟩ = some c ∧ w.cell? ⟨R, 26, none⟩ = some d ∧ w.cell? ⟨R, 27, none⟩ = some e ∧ w.cell? ⟨R, 28, none⟩ = some f ∧ (∀ j, w.frozen? ⟨R, j, none⟩ = false) ∧ R < w.heap.size := by
  refine ⟨?_, ?_, ?_, ?_, ?_, ?_, ?_, fun j => Lib.frozen_of_heap h.blk j, heap_lt h.blk⟩ <;> (rw [Lib.cell_of_heap h.blk]; rfl)
theorem hset {w : World} {R : Nat} {C : Array Value} {t : TypeId} (h : w.heap[R]? = some (.cells C t (0, 0))) (j : Nat) (y : Value) : (w.setCell ⟨R, j, none⟩ y).heap[R]? = some (.cells (C.setIfInBounds j y) t (0, 0)) := by
  simp only [World.setCell]
  rw [Array.getElem?_modify, if_pos rfl, h]; rfl
theorem IAt.put {w : World} {R : Nat} {nm a b c d e f p y v0 v1 v2 v3 v4 v5 : Value} (h : IAt w R nm a b c d e f p) : IAt (((((((w.setCell ⟨R, 1, none⟩ y).setCell ⟨R, 23, none⟩ v0).setCell ⟨R, 24, none⟩ v1).setCell ⟨R, 25, none⟩ v2).setCell ⟨R, 26, none⟩ v3).setCell ⟨R, 27, none⟩ v4).setCell ⟨R, 28, none⟩ v5) R y v0 v1 v2 v3 v4 v5 p := by
  have e := hset (hset (hset (hset (hset (hset (hset h.blk 1 y) 23 v0) 24 v1) 25 v2) 26 v3) 27 v4) 28 v5
  exact ⟨e.trans (congrArg some (congrArg (fun c => Obj.cells c 50 (0, 0)) (by kernel_rfl)))⟩
theorem IAt.keep {b R : Nat} {w w' : World} {nm a b' c d e f p : Value} (h : IAt w R nm a b' c d e f p) (hk : Kp b w w') (hb : R ≠ b) : IAt w' R nm a b' c d e f p := ⟨(hk.block R (heap_lt h.blk) hb).trans h.blk⟩
theorem Up.put7 {N : Nat → Prop} {R : Nat} {w : World} {y v0 v1 v2 v3 v4 v5 : Value} (h : ¬ N R) : Up N w (((((((w.setCell ⟨R, 1, none⟩ y).setCell ⟨R, 23, none⟩ v0).setCell ⟨R, 24, none⟩ v1).setCell ⟨R, 25, none⟩ v2).setCell ⟨R, 26, none⟩ v3).setCell ⟨R, 27, none⟩ v4).setCell ⟨R, 28, none⟩ v5) :=
  ((((((Up.set h).trans (Up.set h)).trans (Up.set h)).trans (Up.set h)).trans (Up.set h)).trans (Up.set h)).trans (Up.set h)
theorem St.put7 {b g cap k R : Nat} {l : List Tok} {w : World} {y v0 v1 v2 v3 v4 v5 : Value} (h : St b g cap l k w) (h1 : R ≠ b) (h2 : R ≠ g) : St b g cap l k (((((((w.setCell ⟨R, 1, none⟩ y).setCell ⟨R, 23, none⟩ v0).setCell ⟨R, 24, none⟩ v1).setCell ⟨R, 25, none⟩ v2).setCell ⟨R, 26, none⟩ v3).setCell ⟨R, 27, none⟩ v4).setCell ⟨R, 28, none⟩ v5) :=
  ((((((h.setR h1 h2).setR h1 h2).setR h1 h2).setR h1 h2).setR h1 h2).setR h1 h2).setR h1 h2
set_option maxRecDepth 100000 in
set_option maxHeartbeats 2000000 in
theorem pAssignY {b g cap R : Nat} {l : List Tok} {f k k' : Nat} {x : X} {i0 i1 i2 i3 i4 i5 i6 p : Value} (h35 : fx l k ≠ [35]) (hn : nmB (tk l k) = true) (he : fx l (k + 1) = [61]) (hq : pQ l f (.ex 1) (k + 1 + 1) = some (x, k')) (hf : 1 + f ≤ 100000) (hs : fx l k' = [59]) (w : World) (h : St b g cap l k w) (hR : IAt w R i0 i1 i2 i3 i4 i5 i6 p) (hRb : R ≠ b) (hRg : R ≠ g) :
    Calls Tryz.prog 102 #[.pointer (some ⟨b, 0, none⟩), .pointer (some ⟨R, 0, none⟩)] w fun e w' => e = .returned (.tuple #[]) ∧ (∃ ao n cp, IAt w' R (.string (S (tk l k).x)) (.int .i64 x.op) (.string (S x.nm)) (.string (S x.vl)) (.bool x.pl) (.slice ao n cp) (.int .i64 x.p) p ∧ KAt w' (Ge w.heap.size) x.kids (.slice ao n cp)) ∧ St b g cap l (k' + 1) w' ∧ K2 b R w w' := by
  have HT := pTakesN h ⟨#[35]⟩ h35
  have HD := fun w' (hb : Below w.heap.size w w') => pDrivenY hn he hq hf hs w' (h.below hb)
  have HR : Hid _ := hR
  have hlt := heap_lt hR.blk
  obtain ⟨yo, yn, yv, yp, yk, yp2⟩ := x
  simp only at HD ⊢
  obtain ⟨sn, hsn⟩ : ∃ sn, sn = S yn := ⟨_, rfl⟩
  obtain ⟨sv, hsv⟩ : ∃ sv, sv = S yv := ⟨_, rfl⟩
  obtain ⟨nm, hnm⟩ : ∃ nm, nm = S (tk l k).x := ⟨_, rfl⟩
  rw [← hsn, ← hsv, ← hnm] at HD ⊢
  have hne1 : R ≠ b := hRb
  clear h35 hn he hq hf hs hsn hsv hnm hR
  go_enter Tryz.func102, Tryz.ntmps102
  go_wp2_with (first
    | (go_at_call 67; refine HT.mono ?_; rintro e w1 ⟨rfl, hb1⟩)
    | (go_at_call 101; refine (HD _ hb1).mono ?_; rintro e w2 ⟨⟨ao, vn, cp, rfl, hv⟩, hs2, hk2⟩; have hI := HR.out.keep ((Kp.of (b := b) hb1).trans hk2) hne1; obtain ⟨q0, q1, q2, q3, q4, q5, q6, qf, ql⟩ := hI.at_; clear hI))
  go_end0
  have hI := HR.out.keep ((Kp.of (b := b) hb1).trans hk2) hne1
  have hz := hb1.size
  exact ⟨rfl, ⟨_, _, _, hI.put, (hv.keep (Up.put7 (by unfold Ge; omega))).monoG (by omega)⟩, hs2.put7 hRb hRg, (K2.of ((Kp.of hb1).trans hk2)).six (j := 0)⟩
end Go.Proofs.YthdhmlojihpfkaaGreat
