/- Rows of nodes that a call builds and writes. -/
import Derived.Test.YtpdcmehjndhcjaaKLh
import Derived.Test.YtpdcmehjndhcjaaKLg
import Derived.Laws.IdiomCopy
namespace Go.Proofs.Ytpdcmehjndhcjaa
open Go.RowKit Lg Nl Go.Maps
set_option linter.unusedVariables false
set_option linter.unusedSimpArgs false

def Nr (B : Nat) (v : Value) : Nat → Prop := fun g => B ≤ g ∧ v.ownBlock ≠ some g
/-- a row of nodes that a call builds: their Ins lie elsewhere -/
structure Rw (B : Nat) (l : List Nd) (v : Value) (W : World) : Prop where
  row : ∃ xs, W.ownsRow B 39 8 v l.length xs ∧ NcAt W (Nr B v) l xs
  s : B ≤ W.heap.size
theorem Rw.nil (W : World) {B : Nat} (h : B ≤ W.heap.size) : Rw B [] (.slice none 0 0) W := ⟨⟨[], World.ownsRow_nil _ _ _ _, .nil⟩, h⟩
theorem Rw.below {B : Nat} {l : List Nd} {v : Value} {W W' : World} (h : Rw B l v W) (hb : Below W.heap.size W W') : Rw B l v W' := by
  obtain ⟨xs, ho, hn⟩ := h.row
  exact ⟨⟨xs, own_below ho hb, hn.keep ⟨hb.size, fun k hk _ => hb.block k hk⟩⟩, Nat.le_trans h.s hb.size⟩
/-- a node is appended: w2 the world that is appended in, w7 the one behind it -/
theorem Rw.add {B n : Nat} {l : List Nd} {v v7 vi : Value} {W w2 w7 : World} {x : Nd} {xs : List Value} (h : Rw B l v W) (hn : n = l.length) (hb2 : Below W.heap.size W w2) (hxs : W.ownsRow B 39 8 v n xs ∧ NcAt W (Nr B v) l xs) (ho : w7.ownsRow B 39 8 v7 (n + 1) (xs ++ ndC x vi)) (hg : w2.grownBy w7 v.ownBlock)
    (ha : v7.ownBlock = v.ownBlock ∨ v7.ownBlock = some w2.heap.size) (hvi : IntsN w2 (fun g => W.heap.size ≤ g) vi x.ins) : Rw B (l ++ [x]) v7 w7 := by
  have hs := h.s
  have hb := hb2.size
  have hlt : ∀ g, v.ownBlock = some g → g < W.heap.size := fun g e => (World.ownsRow.lt hxs.1 g e).2
  have k : KeepN (Nr B v) W w7 := ⟨Nat.le_trans hb2.size hg.size, fun q hq hN => (hg.block q (Nat.lt_of_lt_of_le hq hb2.size) (fun e => hN.2 e.symm)).trans (hb2.block q hq)⟩
  have hM : ∀ g, g < w2.heap.size → Nr B v g → Nr B v7 g := fun g hgl hN => ⟨hN.1, fun e => by
    rcases ha with ha | ha
    · rw [ha] at e; exact hN.2 e
    · rw [ha] at e; injection e with e; omega⟩
  have hl1 : NcAt w7 (Nr B v7) l xs := by
    have h1 := hxs.2.mono (N' := fun g => Nr B v g ∧ g < W.heap.size) (fun g hg hN => ⟨hN, hg⟩)
    have h2 := h1.keep (w' := w7) ⟨k.1, fun q hq hN => k.2 q hq hN.1⟩
    exact h2.mono (fun g _ hN => hM g (by omega) hN.1)
  have hvi7 : IntsN w7 (Nr B v7) vi x.ins := by
    have h1 := hvi.mono (N' := fun g => Nr B v g ∧ g < w2.heap.size) (fun g hg hN => ⟨⟨by omega, fun e => by have := hlt g e; omega⟩, hg⟩)
    have h2 := h1.keep (w' := w7) ⟨hg.size, fun q hq hN => hg.block q hq (fun e => hN.1.2 e.symm)⟩
    exact h2.mono (fun g _ hN => hM g hN.2 hN.1)
  refine ⟨⟨xs ++ ndC x vi, ?_, hl1.snoc hvi7⟩, by have := k.1; omega⟩
  rw [List.length_append, List.length_singleton, ← hn]; exact ho
/-- a row of nodes at its block: their Ins lie elsewhere -/
structure Rg (g : Nat) (l : List Nd) (W : World) : Prop where
  lt : g < W.heap.size
  fz : ∀ j, W.frozen? ⟨g, j, none⟩ = false
  c : ∀ i (h : i < l.length), ∃ vi, IntsN W (fun q => q ≠ g) vi l[i].ins ∧ ∀ j u, (ndC l[i] vi)[j]? = some u → W.cell? ⟨g, i * 8 + j, none⟩ = some u
theorem Rw.rg {B : Nat} {l : List Nd} {v : Value} {W : World} (h : Rw B l v W) (hl : 0 < l.length) : ∃ g cap, v = .slice (some ⟨g, 0, none⟩) l.length cap ∧ B ≤ g ∧ l.length ≤ cap ∧ Rg g l W := by
  obtain ⟨xs, ho, hn⟩ := h.row
  rcases id ho.2 with ⟨_, h0⟩ | ⟨g, cap, cur, rfl, hg, hh, hc, _, hz, ht⟩
  · omega
  · refine ⟨g, cap, rfl, hg, hc, hLt hh, fun j => Lib.frozen_of_heap hh j, fun i hi => ?_⟩
    obtain ⟨vi, a, b⟩ := hn.at_ i hi
    refine ⟨vi, a.mono (fun q _ hN e => hN.2 (by rw [e]; rfl)), fun j u hu => ?_⟩
    have hx := b j u hu
    rw [Lib.cell_of_heap hh]
    rw [← ht, List.getElem?_take] at hx
    split at hx
    · simpa using hx
    · cases hx
theorem Rg.below {g : Nat} {l : List Nd} {W W' : World} (h : Rg g l W) (hb : Below W.heap.size W W') : Rg g l W' := by
  refine ⟨Nat.lt_of_lt_of_le h.lt hb.size, fun j => (hb.frozen (p := ⟨g, j, none⟩) h.lt).trans (h.fz j), fun i hi => ?_⟩
  obtain ⟨vi, a, b⟩ := h.c i hi
  exact ⟨vi, a.keep ⟨hb.size, fun k hk _ => hb.block k hk⟩, fun j u hu => (hb.cell (p := ⟨g, i * 8 + j, none⟩) h.lt).trans (b j u hu)⟩
theorem Rg.nds {g cap : Nat} {l : List Nd} {W : World} (h : Rg g l W) (hc : l.length ≤ cap) : NdsAt W (.slice (some ⟨g, 0, none⟩) l.length cap) l :=
  ⟨_, cap, rfl, hc, Or.inr ⟨g, 0, rfl, h.lt, fun i hi => by
    obtain ⟨vi, a, b⟩ := h.c i hi
    exact ⟨vi, a.ints, fun j u hu => by rw [Nat.zero_add]; exact b j u hu⟩⟩⟩
theorem Rg.cells {g : Nat} {l : List Nd} {W : World} (h : Rg g l W) {i : Nat} (hi : i < l.length) : ∃ vi, W.cell? ⟨g, i * 8, none⟩ = some (.int .i64 l[i].k) ∧ W.cell? ⟨g, i * 8 + 1, none⟩ = some (.int .i64 l[i].op) ∧ W.cell? ⟨g, i * 8 + 2, none⟩ = some (.int .i64 l[i].wd) ∧ W.cell? ⟨g, i * 8 + 3, none⟩ = some vi ∧ W.cell? ⟨g, i * 8 + 4, none⟩ = some (.string (S l[i].vl)) ∧ W.cell? ⟨g, i * 8 + 5, none⟩ = some (.int .i64 l[i].hi) ∧ W.cell? ⟨g, i * 8 + 6, none⟩ = some (.int .i64 l[i].lo) ∧ W.cell? ⟨g, i * 8 + 7, none⟩ = some (.int .i64 l[i].tm) := by
  obtain ⟨vi, a, b⟩ := h.c i hi
  exact ⟨vi, b 0 _ rfl, b 1 _ rfl, b 2 _ rfl, b 3 _ rfl, b 4 _ rfl, b 5 _ rfl, b 6 _ rfl, b 7 _ rfl⟩
theorem heap_setCells (b : Nat) : ∀ (vs : List Value) (o : Nat) (w : World) (k : Nat), k ≠ b → (w.setCells b o vs).heap[k]? = w.heap[k]?
  | [], _, _, _, _ => rfl
  | v :: r, o, w, k, h => by rw [World.setCells, heap_setCells b r _ _ k h]; exact Below.heap_setCell _ _ _ _ h
theorem size_setCells (b : Nat) : ∀ (vs : List Value) (o : Nat) (w : World), (w.setCells b o vs).heap.size = w.heap.size
  | [], _, _ => rfl
  | v :: r, o, w => by rw [World.setCells, size_setCells b r]; simp [World.setCell]
theorem below_setCells {B : Nat} {w0 : World} (b : Nat) (hb : B ≤ b) : ∀ (vs : List Value) (o : Nat) (w : World), Below B w0 w → Below B w0 (w.setCells b o vs)
  | [], _, _, h => h
  | v :: r, o, w, h => below_setCells b hb r _ _ (h.setCell hb v)
/-- a node gives way to another one -/
theorem Rg.put {g : Nat} {l : List Nd} {W : World} (h : Rg g l W) {k : Nat} (hk : k < l.length) {x : Nd} {vi : Value} {o : Obj} (hvi : IntsN ((W.setCells g (k * 8) (ndC x vi)).alloc o) (fun q => q ≠ g) vi x.ins) : Rg g (l.set k x) ((W.setCells g (k * 8) (ndC x vi)).alloc o) := by
  have hs : (W.setCells g (k * 8) (ndC x vi)).heap.size = W.heap.size := size_setCells _ _ _ _
  have hg : g < (W.setCells g (k * 8) (ndC x vi)).heap.size := by rw [hs]; exact h.lt
  have cell : ∀ q, ((W.setCells g (k * 8) (ndC x vi)).alloc o).cell? ⟨g, q, none⟩ = (W.setCells g (k * 8) (ndC x vi)).cell? ⟨g, q, none⟩ := fun q => World.cell?_of_block (a := ⟨g, q, none⟩) (alOld hg)
  have kp : KeepN (fun q => q ≠ g) W ((W.setCells g (k * 8) (ndC x vi)).alloc o) := ⟨by simp [hs], fun q hq hN => (alOld (by rw [hs]; exact hq)).trans (heap_setCells g _ _ _ q hN)⟩
  refine ⟨by simp [hs]; have := h.lt; omega, fun j => ?_, fun i hi => ?_⟩
  · have e : ((W.setCells g (k * 8) (ndC x vi)).alloc o).frozen? ⟨g, j, none⟩ = (W.setCells g (k * 8) (ndC x vi)).frozen? ⟨g, j, none⟩ := World.frozen?_of_block (a := ⟨g, j, none⟩) (alOld hg)
    rw [e, World.frozen?_setCells]; exact h.fz j
  · have hi' : i < l.length := by rw [List.length_set] at hi; exact hi
    by_cases e : i = k
    · subst e
      have ex : (l.set i x)[i]'hi = x := by simp
      rw [ex]
      refine ⟨vi, hvi, fun j u hu => ?_⟩
      rw [cell]
      obtain ⟨hj, e2⟩ := List.getElem?_eq_some_iff.1 hu
      have e3 : (ndC x vi).length = 8 := rfl
      obtain ⟨vi0, _, hold⟩ := h.c i hi'
      have := World.cell?_setCells_in g (ndC x vi) (i * 8) W (fun q hq => by
        rw [hold q _ (List.getElem?_eq_getElem (show q < (ndC l[i] vi0).length by rw [e3] at hq; exact hq))]; rfl) j hj
      rw [this, e2]
    · have ex : (l.set k x)[i]'hi = l[i] := by rw [List.getElem_set]; rw [if_neg (fun h => e h.symm)]
      rw [ex]
      obtain ⟨vi0, a, b⟩ := h.c i hi'
      refine ⟨vi0, a.keep kp, fun j u hu => ?_⟩
      have hj : j < 8 := (List.getElem?_eq_some_iff.1 hu).1
      rw [cell, World.cell?_setCells_out g _ _ _ _ (fun _ _ => by show i * 8 + j < k * 8 ∨ k * 8 + 8 ≤ i * 8 + j; omega)]
      exact b j u hu
end Go.Proofs.Ytpdcmehjndhcjaa
