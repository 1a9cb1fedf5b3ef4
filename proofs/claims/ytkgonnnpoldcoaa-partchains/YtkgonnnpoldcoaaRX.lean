/- A chain of delays, and parts of each node by itself, in memory. -/
import Derived.Test.YtkgonnnpoldcoaaRV
import Derived.Test.YtkgonnnpoldcoaaRD
import Derived.Test.YtkgonnnpoldcoaaKR
import Derived.Test.YtkgonnnpoldcoaaGLb
namespace Go.Proofs.Ytkgonnnpoldcoaa
open Go.RowKit Lg Nl Go.Maps
set_option linter.unusedVariables false
set_option linter.unusedSimpArgs false
set_option maxRecDepth 100000

theorem chOne8 (x : Nd) (ao : Option Addr) (n c : Nat) : ∀ u ∈ ndC x (.slice ao n c), u.oneCell' = true := by
  intro u hu
  simp [ndC] at hu
  rcases hu with rfl | rfl | rfl | rfl | rfl | rfl | rfl | rfl <;> rfl
theorem chNew8 (w : World) (x : Nd) (vi : Value) (t : TypeId) {n : Nat} (hn : w.heap.size = n) (j : Nat) (u : Value) (h : (ndC x vi)[j]? = some u) : (w.alloc (.cells (ndC x vi).toArray t)).cell? ((⟨n, 0, none⟩ : Addr).add j) = some u := by
  subst hn
  rw [addO, Nat.zero_add, Lib.cell_of_heap (alAt rfl)]
  simpa using h
/-- the netlist at its block X, its nets at T -/
structure Cw (B X T : Nat) (l : List Nd) (v : Value) (W : World) : Prop where
  blk : W.heap[X]? = some (.cells #[v, .slice (some ⟨T, 0, none⟩) 1 1, .int .i64 1] 26 (0, 0))
  net : W.heap[T]? = some (.cells #[.int .i64 0] 3 (0, 0))
  row : ∃ xs, W.ownsRow B 47 8 v l.length xs ∧ NcAt W (fun g => g ≠ X ∧ v.ownBlock ≠ some g) l xs
  ne : T ≠ X
theorem Cw.start {w : World} : Cw w.heap.size (w.heap.size + 1 + 1) (w.heap.size + 1) [chI] (.slice (some ⟨w.heap.size, 0, none⟩) 1 1) (((w.alloc (.cells #[.int .i64 2, .int .i64 0, .int .i64 1, .slice none 0 0, .string ⟨#[]⟩, .int .i64 0, .int .i64 0, .int .i64 0] 47)).alloc (.cells #[.int .i64 0] 3)).alloc (.cells #[.slice (some ⟨w.heap.size, 0, none⟩) 1 1, .slice (some ⟨w.heap.size + 1, 0, none⟩) 1 1, .int .i64 1] 26)) := by
  refine ⟨alAt (by simp), (alOld (by simp)).trans (alAt (by simp)), ⟨ndC chI (.slice none 0 0), ⟨rfl, Or.inr ⟨w.heap.size, 1, #[.int .i64 2, .int .i64 0, .int .i64 1, .slice none 0 0, .string ⟨#[]⟩, .int .i64 0, .int .i64 0, .int .i64 0], rfl, Nat.le_refl _, (alOld (by simp; omega)).trans ((alOld (by simp)).trans (alAt rfl)), Nat.le_refl _, by unfold maxLen; omega, rfl, rfl⟩⟩, ?_⟩, by omega⟩
  have := NcAt.cons (x := chI) (vi := .slice none 0 0) (w := (((w.alloc (.cells #[.int .i64 2, .int .i64 0, .int .i64 1, .slice none 0 0, .string ⟨#[]⟩, .int .i64 0, .int .i64 0, .int .i64 0] 47)).alloc (.cells #[.int .i64 0] 3)).alloc (.cells #[.slice (some ⟨w.heap.size, 0, none⟩) 1 1, .slice (some ⟨w.heap.size + 1, 0, none⟩) 1 1, .int .i64 1] 26))) (N := fun g => g ≠ w.heap.size + 1 + 1 ∧ (Value.slice (some ⟨w.heap.size, 0, none⟩) 1 1).ownBlock ≠ some g) ⟨none, 0, rfl, Nat.le_refl _, Or.inl rfl⟩ NcAt.nil
  simpa using this
theorem Cw.grow {B X T n : Nat} {l : List Nd} {v : Value} {W w2 w7 : World} {xs : List Value} (h : Cw B X T l v W) (hb2 : Below W.heap.size W w2) (hxs : W.ownsRow B 47 8 v n xs) (hg : w2.grownBy w7 v.ownBlock) : w7.heap[X]? = some (.cells #[v, .slice (some ⟨T, 0, none⟩) 1 1, .int .i64 1] 26 (0, 0)) ∧ w7.heap[T]? = some (.cells #[.int .i64 0] 3 (0, 0)) := by
  have hX := hLt h.blk
  have hT := hLt h.net
  have h2 := hb2.size
  exact ⟨(hg.block X (by omega) (fun e => own_neT hxs h.blk (by decide) e.symm)).trans ((hb2.block X hX).trans h.blk), (hg.block T (by omega) (fun e => own_neT hxs h.net (by decide) e.symm)).trans ((hb2.block T hT).trans h.net)⟩
theorem Cw.add {B X T n : Nat} {l : List Nd} {v v7 vi : Value} {W w2 w7 : World} {x : Nd} {xs : List Value} (h : Cw B X T l v W) (hn : n = l.length) (hb2 : Below W.heap.size W w2) (hxs : W.ownsRow B 47 8 v n xs ∧ NcAt W (fun g => g ≠ X ∧ v.ownBlock ≠ some g) l xs) (ho : w7.ownsRow B 47 8 v7 (n + 1) (xs ++ ndC x vi)) (hg : w2.grownBy w7 v.ownBlock) (ha : v7.ownBlock = v.ownBlock ∨ v7.ownBlock = some w2.heap.size) (hvi : IntsN w2 (fun g => g ≠ X ∧ v.ownBlock ≠ some g) vi x.ins) :
    Cw B X T (l ++ [x]) v7 (w7.setCell ⟨X, 0, none⟩ v7) := by
  obtain ⟨hb7, ht7⟩ := h.grow hb2 hxs.1 hg
  have h7X : v7.ownBlock ≠ some X := own_neT ho hb7 (by decide)
  have es : (w7.setCell ⟨X, 0, none⟩ v7).heap.size = w7.heap.size := by simp [World.setCell]
  have s2 := hb2.size
  have s7 := hg.size
  have hM : ∀ g, g < w2.heap.size → (g ≠ X ∧ v.ownBlock ≠ some g) → (g ≠ X ∧ v7.ownBlock ≠ some g) := fun g hl hN => by
    refine ⟨hN.1, ?_⟩
    rcases ha with ha | ha
    · rw [ha]; exact hN.2
    · rw [ha]; intro e; injection e with e; omega
  have kp : ∀ g, g < w2.heap.size → (g ≠ X ∧ v.ownBlock ≠ some g) → (w7.setCell ⟨X, 0, none⟩ v7).heap[g]? = w2.heap[g]? := fun g hl hN => by
    rw [Below.heap_setCell _ _ _ _ hN.1]; exact hg.block g hl (fun e => hN.2 e.symm)
  refine ⟨hset3 hb7 _, (Below.heap_setCell _ _ _ _ h.ne).trans ht7, ⟨xs ++ ndC x vi, by rw [List.length_append, ← hn]; exact own_setB ho h7X, ?_⟩, h.ne⟩
  have h1 := hxs.2.mono (N' := fun g => (g ≠ X ∧ v.ownBlock ≠ some g) ∧ g < W.heap.size) (fun g hg hN => ⟨hN, hg⟩)
  have h2 := h1.keep (w' := w7.setCell ⟨X, 0, none⟩ v7) ⟨by omega, fun g hl hN => (kp g (by omega) hN.1).trans (hb2.block g hl)⟩
  have h3 := h2.mono (N' := fun g => g ≠ X ∧ v7.ownBlock ≠ some g) (fun g _ hN => hM g (by omega) hN.1)
  have i1 := hvi.mono (N' := fun g => (g ≠ X ∧ v.ownBlock ≠ some g) ∧ g < w2.heap.size) (fun g hg hN => ⟨hN, hg⟩)
  have i2 := i1.keep (w' := w7.setCell ⟨X, 0, none⟩ v7) ⟨by omega, fun g hl hN => kp g hl hN.1⟩
  exact h3.snoc (i2.mono (fun g _ hN => hM g hN.2 hN.1))
/-- parts of each node by itself, at their block Z -/
structure Ew (B Z n : Nat) (t : Int) (io i : Nat) (vO vA : Value) (rs : List Nat) (W : World) : Prop where
  z : W.heap[Z]? = some (.cells #[vO, .int .i64 ((n : Int) + 1), vA] 30 (0, 0))
  o : W.ownsRow B 3 1 vO io (iC (chO n io))
  a : W.ownsRow B 24 1 vA i (rs.map fun r => .slice (some ⟨r, 0, none⟩) (n + 1) (n + 1))
  l : rs.length = i
  r : ∀ q r, rs[q]? = some r → W.rowIs r 3 (n + 1) (fun k => .int .i64 (if k + 1 = q then t else 0)) ∧ B ≤ r ∧ vO.ownBlock ≠ some r
  zb : Z < B
  sb : B ≤ W.heap.size
theorem own_blk {w : World} {B e z n k : Nat} {v : Value} {xs : List Value} (h : w.ownsRow B e z v n xs) (hk : v.ownBlock = some k) : ∃ cur, w.heap[k]? = some (.cells cur e (0, 0)) := by
  rcases h.2 with ⟨rfl, _⟩ | ⟨g, cap, cur, rfl, _, hh, _⟩
  · cases hk
  · simp [Value.ownBlock] at hk; subst hk; exact ⟨cur, hh⟩
theorem rowIs_neT {w : World} {B e z n m k t : Nat} {f : Nat → Value} {v : Value} {xs : List Value} (h : w.ownsRow B e z v n xs) (hr : w.rowIs k t m f) (ht : t ≠ e) : v.ownBlock ≠ some k := by
  obtain ⟨c, hc, _⟩ := hr
  exact own_neT h hc ht
theorem Ew.start {n : Nat} {t : Int} {W : World} {Z : Nat} (h : W.heap[Z]? = some (.cells #[.slice none 0 0, .int .i64 ((n : Int) + 1), .slice none 0 0] 30 (0, 0))) : Ew W.heap.size Z n t 0 0 (.slice none 0 0) (.slice none 0 0) [] W :=
  ⟨h, World.ownsRow_nil _ _ _ _, World.ownsRow_nil _ _ _ _, rfl, fun q r hq => by simp at hq, hLt h, Nat.le_refl _⟩
theorem Ew.zgrow {B Z n io i : Nat} {t : Int} {vO vA : Value} {rs : List Nat} {W w2 w7 : World} {row : Option Nat} (h : Ew B Z n t io i vO vA rs W) (hb2 : Below W.heap.size W w2) (hg : w2.grownBy w7 row) (hr : ∀ k, row = some k → B ≤ k) : w7.heap[Z]? = some (.cells #[vO, .int .i64 ((n : Int) + 1), vA] 30 (0, 0)) := by
  have hz := hLt h.z
  have zb := h.zb
  have h2 := hb2.size
  exact (hg.block Z (by omega) (fun e => by have := hr Z e.symm; omega)).trans ((hb2.block Z hz).trans h.z)
theorem Ew.of {B Z n i : Nat} {t : Int} {vO vA v7 : Value} {rs : List Nat} {W w2 w7 : World} (h : Ew B Z n t i i vO vA rs W) (hb2 : Below W.heap.size W w2) (ho : w7.ownsRow B 3 1 v7 (i + 1) (iC (chO n i) ++ [.int .i64 ((n : Int) - (i : Int))])) (hg : w2.grownBy w7 vO.ownBlock) (ha : v7.ownBlock = vO.ownBlock ∨ v7.ownBlock = some w2.heap.size) :
    Ew B Z n t (i + 1) i v7 vA rs (w7.setCell ⟨Z, 0, none⟩ v7) := by
  have hz7 := h.zgrow hb2 hg (own_ge h.o)
  have es : (w7.setCell ⟨Z, 0, none⟩ v7).heap.size = w7.heap.size := by simp [World.setCell]
  have s2 := hb2.size
  have s7 := hg.size
  have zb := h.zb
  have sb := h.sb
  have kp : ∀ k, B ≤ k → k < W.heap.size → vO.ownBlock ≠ some k → (w7.setCell ⟨Z, 0, none⟩ v7).heap[k]? = W.heap[k]? := fun k hB hl hN => by
    rw [Below.heap_setCell _ _ _ _ (by show k ≠ Z; omega), hg.block k (by omega) (fun e => hN e.symm), hb2.block k hl]
  refine ⟨hset3 hz7 _, ?_, own_at h.a (fun k hk => ?_), h.l, fun q r hq => ?_, h.zb, by omega⟩
  · have e : iC (chO n (i + 1)) = iC (chO n i) ++ [.int .i64 ((n : Int) - (i : Int))] := by
      unfold chO; rw [List.range_succ, List.map_append, iC_app]; rfl
    rw [e]
    exact own_setB ho (fun e => by have := (World.ownsRow.lt ho Z e).1; omega)
  · obtain ⟨h1, h2⟩ := World.ownsRow.lt h.a k hk
    obtain ⟨cur, hc⟩ := own_blk h.a hk
    exact kp k h1 h2 (own_neT h.o hc (by decide))
  · obtain ⟨h1, h2, h3⟩ := h.r q r hq
    refine ⟨h1.of_block (kp r h2 h1.lt h3), h2, ?_⟩
    have := h1.lt
    rcases ha with ha | ha
    · rw [ha]; exact h3
    · rw [ha]; intro e; injection e with e; omega
theorem Ew.ah {B Z n io i R : Nat} {t : Int} {vO vA v7 : Value} {rs : List Nat} {W w2 w7 : World} (h : Ew B Z n t io i vO vA rs W) (hb2 : Below W.heap.size W w2) (hR : W.heap.size ≤ R) (hr : w2.rowIs R 3 (n + 1) (fun k => .int .i64 (if k + 1 = i then t else 0))) (ho : w7.ownsRow B 24 1 v7 (i + 1) ((rs.map fun r => .slice (some ⟨r, 0, none⟩) (n + 1) (n + 1)) ++ [.slice (some ⟨R, 0, none⟩) (n + 1) (n + 1)])) (hg : w2.grownBy w7 vA.ownBlock) :
    Ew B Z n t io (i + 1) vO v7 (rs ++ [R]) (w7.setCell ⟨Z, 2, none⟩ v7) := by
  have hz7 := h.zgrow hb2 hg (own_ge h.a)
  have es : (w7.setCell ⟨Z, 2, none⟩ v7).heap.size = w7.heap.size := by simp [World.setCell]
  have s2 := hb2.size
  have s7 := hg.size
  have zb := h.zb
  have sb := h.sb
  have kp : ∀ k, B ≤ k → k < w2.heap.size → vA.ownBlock ≠ some k → (w7.setCell ⟨Z, 2, none⟩ v7).heap[k]? = w2.heap[k]? := fun k hB hl hN => by
    rw [Below.heap_setCell _ _ _ _ (by show k ≠ Z; omega), hg.block k (by omega) (fun e => hN e.symm)]
  have aR : vA.ownBlock ≠ some R := fun e => by have := (World.ownsRow.lt h.a R e).2; omega
  have oR : vO.ownBlock ≠ some R := fun e => by have := (World.ownsRow.lt h.o R e).2; omega
  refine ⟨?_, own_at h.o (fun k hk => ?_), ?_, by rw [List.length_append, h.l]; rfl, fun q r hq => ?_, h.zb, by omega⟩
  · simp only [World.setCell]; rw [Array.getElem?_modify, if_pos rfl, hz7]; rfl
  · obtain ⟨h1, h2⟩ := World.ownsRow.lt h.o k hk
    obtain ⟨cur, hc⟩ := own_blk h.o hk
    exact (kp k h1 (by omega) (own_neT h.a hc (by decide))).trans (hb2.block k h2)
  · rw [List.map_append]
    exact own_setB ho (fun e => by have := (World.ownsRow.lt ho Z e).1; omega)
  · rcases Nat.lt_trichotomy q rs.length with hl | hl | hl
    · rw [List.getElem?_append_left hl] at hq
      obtain ⟨h1, h2, h3⟩ := h.r q r hq
      have hl := h1.lt
      exact ⟨h1.of_block ((kp r h2 (by omega) (rowIs_neT h.a h1 (by decide))).trans (hb2.block r hl)), h2, h3⟩
    · subst hl
      rw [List.getElem?_append_right (Nat.le_refl _), Nat.sub_self] at hq
      have e : R = r := by simpa using hq
      subst e
      rw [h.l]
      exact ⟨hr.of_block (kp R (by omega) hr.lt aR), by omega, oR⟩
    · rw [List.getElem?_eq_none (by simp; omega)] at hq; cases hq
theorem Ew.ints {B Z n i j : Nat} {t : Int} {vO vA : Value} {rs : List Nat} {W : World} (h : Ew B Z n t i j vO vA rs W) : IntsAt W vO (chO n i) := by
  have e : (chO n i).length = i := by simp [chO]
  exact own_ints (by rw [e]; exact h.o)
theorem Ew.rows {B Z n i j : Nat} {t : Int} {vO vA : Value} {rs : List Nat} {W : World} (h : Ew B Z n t j i vO vA rs W) : RowsAt W vA (chA n t i) := by
  have e : (chA n t i).length = i := by simp [chA]
  have ha := h.a
  rcases ha.2 with ⟨rfl, h0⟩ | ⟨g, cap, cur, rfl, hg, hh, hc, hm, hz, ht⟩
  · subst h0; exact ⟨none, 0, rfl, by simp [chA], Or.inl rfl⟩
  · refine ⟨_, cap, by rw [e], by rw [e]; exact hc, Or.inr ⟨g, 0, rfl, hLt hh, fun q hq => ?_⟩⟩
    rw [e] at hq
    have hq' : q < rs.length := by rw [h.l]; exact hq
    obtain ⟨h1, h2, h3⟩ := h.r q rs[q] (List.getElem?_eq_getElem hq')
    refine ⟨.slice (some ⟨rs[q], 0, none⟩) (n + 1) (n + 1), ?_, ?_⟩
    · have h4 := rowInts h1
      have e2 : (chA n t i)[q] = (List.range (n + 1)).map fun (k : Nat) => (if k + 1 = q then t else 0 : Int) := by simp [chA, chR]
      rw [e2]; exact h4
    · rw [Nat.zero_add, Lib.cell_of_heap hh]
      have h5 : (rs.map fun r => Value.slice (some ⟨r, 0, none⟩) (n + 1) (n + 1))[q]? = some (.slice (some ⟨rs[q], 0, none⟩) (n + 1) (n + 1)) := by simp [hq']
      rw [← ht, List.getElem?_take] at h5
      split at h5
      · simpa using h5
      · cases h5
end Go.Proofs.Ytkgonnnpoldcoaa
