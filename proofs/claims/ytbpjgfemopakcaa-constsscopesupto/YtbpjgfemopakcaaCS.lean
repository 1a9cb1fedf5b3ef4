/- Layer 6: names that are set on both sides. -/
import Derived.Test.YtbpjgfemopakcaaCR
import Derived.Deep.CutRange
import Derived.Deep.LoopGhost
import Derived.Deep.RegionHeld
namespace Go.Proofs.Ytbpjgfemopakcaa
open Go.RowKit Lg Go.Maps
set_option linter.unusedVariables false
set_option linter.unusedSimpArgs false

/-- names with numbers, handed in -/
def LsAt (v : Value) (l : List (ByteArray × Int)) (w : World) : Prop :=
  (l = [] ∧ ∃ ao cap, v = .slice ao 0 cap) ∨ (∃ g o cap, v = .slice (some ⟨g, o, none⟩) l.length cap ∧ g < w.heap.size ∧ l.length ≤ cap ∧ ∀ i (hi : i < l.length), w.cell? ⟨g, o + i * 2, none⟩ = some (.string l[i].1) ∧ w.cell? ⟨g, o + i * 2 + 1, none⟩ = some (.int .i64 l[i].2))
theorem LsAt.below {v : Value} {l : List (ByteArray × Int)} {w w' : World} (h : LsAt v l w) (hb : Below w.heap.size w w') : LsAt v l w' := by
  rcases h with h | ⟨g, o, cap, rfl, hg, hc, hx⟩
  · exact Or.inl h
  · refine Or.inr ⟨g, o, cap, rfl, Nat.lt_of_lt_of_le hg hb.size, hc, fun i hi => ?_⟩
    exact ⟨(hb.cell (p := ⟨g, _, none⟩) hg).trans (hx i hi).1, (hb.cell (p := ⟨g, _, none⟩) hg).trans (hx i hi).2⟩
/-- those that may be -/
def fil (l : List (ByteArray × Int)) : List (ByteArray × Int) := l.filter fun p => fitB p.2
theorem fil_take {l : List (ByteArray × Int)} {j : Nat} (hj : j < l.length) : fil (l.take (j + 1)) = fil (l.take j) ++ (if fitB l[j].2 = true then [l[j]] else []) := by
  rw [List.take_succ_eq_append_getElem hj]
  unfold fil
  rw [List.filter_append]
  congr 1
  by_cases h : fitB l[j].2 = true
  · rw [if_pos h]; simp [h]
  · rw [if_neg h]; simp [h]
theorem fil_len (l : List (ByteArray × Int)) : (fil l).length ≤ l.length := List.length_filter_le _ _
/-- a scope of the program's -/
def PrAt (sb mb : Nat) (qs : List (ByteArray × Int)) (w : World) : Prop := ∃ D cnt, ScAt sb mb w ∧ MpAt mb cnt D w ∧ cnt ≤ qs.length ∧ NmI D (lkp qs)
/-- a scope of the reference's, in its block -/
def RqAt (T B : Nat) (qs : List (ByteArray × Int)) (w : World) : Prop := ∃ ao n1 c1 bo n2 c2, w.heap[T]? = some (.cells #[.slice ao n1 c1, .slice bo n2 c2] 27 (0, 0)) ∧ RfAt B (.slice ao n1 c1) (.slice bo n2 c2) qs w
theorem PrAt.below {sb mb : Nat} {qs : List (ByteArray × Int)} {w w' : World} (h : PrAt sb mb qs w) (hb : Below w.heap.size w w') : PrAt sb mb qs w' := by
  obtain ⟨D, cnt, h1, h2, h3, h4⟩ := h
  exact ⟨D, cnt, h1.below hb, h2.below hb, h3, h4⟩
theorem RqAt.below {T B : Nat} {qs : List (ByteArray × Int)} {w w' : World} (h : RqAt T B qs w) (hb : Below w.heap.size w w') : RqAt T B qs w' := by
  obtain ⟨ao, n1, c1, bo, n2, c2, h1, h2⟩ := h
  exact ⟨ao, n1, c1, bo, n2, c2, (hb.block T (kLt h1)).trans h1, h2.below hb⟩
/-- the reference's scope stays while the program's names turn -/
theorem RfAt.map {B m cnt : Nat} {D : DataW Unit} {vN vI : Value} {ps : List (ByteArray × Int)} {w w' : World} (h : RfAt B vN vI ps w) (hm : MpAt m cnt D w) (hg : w.grownBy w' (some m)) : RfAt B vN vI ps w' := by
  obtain ⟨es, clock, hb, _⟩ := hm
  have far : ∀ {e z n : Nat} {v : Value} {xs : List Value}, w.ownsRow B e z v n xs → w'.ownsRow B e z v n xs := by
    intro e z n v xs ho
    refine ho.kept hg ?_
    rcases ho.2 with ⟨rfl, _⟩ | ⟨g, cap, cur, rfl, _, hh, _⟩
    · exact Or.inl rfl
    · right; intro e1; simp [Value.ownBlock] at e1; subst e1; rw [hb] at hh; cases hh
  rcases h with h | ⟨h1, h2, h3⟩
  · exact Or.inl h
  · exact Or.inr ⟨h1, far h2, far h3⟩
theorem RqAt.map {T B m cnt : Nat} {D : DataW Unit} {qs : List (ByteArray × Int)} {w w' : World} (h : RqAt T B qs w) (hm : MpAt m cnt D w) (hg : w.grownBy w' (some m)) (hT : T ≠ m) : RqAt T B qs w' := by
  obtain ⟨ao, n1, c1, bo, n2, c2, h1, h2⟩ := h
  exact ⟨ao, n1, c1, bo, n2, c2, (hg.block T (kLt h1) (by simpa using hT)).trans h1, h2.map hm hg⟩
theorem kOwn_ty {w : World} {B n b : Nat} {v : Value} {xs : List Value} {c : Array Value} {e t z : Nat} (ho : w.ownsRow B e z v n xs) (hb : w.heap[b]? = some (.cells c t (0, 0))) (ht : t ≠ e) : v.ownBlock ≠ some b := by
  rcases ho.2 with ⟨rfl, _⟩ | ⟨g, cap, cur, rfl, _, hg, _⟩
  · simp [Value.ownBlock]
  · intro e1
    simp [Value.ownBlock] at e1
    subst e1
    rw [hb] at hg
    simp at hg
    exact ht hg.2
theorem PrAt.set {sb mb b j : Nat} {qs : List (ByteArray × Int)} {w : World} {y : Value} (h : PrAt sb mb qs w) (h1 : sb ≠ b) (h2 : mb ≠ b) : PrAt sb mb qs (w.setCell ⟨b, j, none⟩ y) := by
  obtain ⟨D, cnt, a1, ⟨es, clock, a2, a3⟩, a4, a5⟩ := h
  exact ⟨D, cnt, (Below.heap_setCell _ _ _ _ h1).trans a1, ⟨es, clock, (Below.heap_setCell _ _ _ _ h2).trans a2, a3⟩, a4, a5⟩
theorem RfAt.set {B b j : Nat} {vN vI : Value} {ps : List (ByteArray × Int)} {w : World} {y : Value} {c : Array Value} (h : RfAt B vN vI ps w) (hb : w.heap[b]? = some (.cells c 27 (0, 0))) : RfAt B vN vI ps (w.setCell ⟨b, j, none⟩ y) := by
  rcases h with h | ⟨h1, h2, h3⟩
  · exact Or.inl h
  · exact Or.inr ⟨h1, kOwns_set h2 (kOwn_ty h2 hb (by decide)), kOwns_set h3 (kOwn_ty h3 hb (by decide))⟩
theorem hset2a {w : World} {b : Nat} {x0 x1 : Value} {t : TypeId} (h : w.heap[b]? = some (.cells #[x0, x1] t (0, 0))) (y : Value) : (w.setCell ⟨b, 0, none⟩ y).heap[b]? = some (.cells #[y, x1] t (0, 0)) := by
  simp only [World.setCell]; rw [Array.getElem?_modify, if_pos rfl, h]; rfl
theorem RfAt.set2 {B b : Nat} {vN vI : Value} {ps : List (ByteArray × Int)} {w : World} {y z x0 x1 : Value} (h : RfAt B vN vI ps w) (hb : w.heap[b]? = some (.cells #[x0, x1] 27 (0, 0))) : RfAt B vN vI ps ((w.setCell ⟨b, 0, none⟩ y).setCell ⟨b, 1, none⟩ z) := (h.set hb).set (hset2a hb y)
theorem cellsS {W : World} {t : TypeId} {n : Nat} {x0 x1 : Value} (h : W.heap[n]? = some (.cells #[x0, x1] t (0, 0))) : W.cell? ⟨n, 0, none⟩ = some x0 ∧ W.cell? ⟨n, 1, none⟩ = some x1 ∧ (∀ j, W.frozen? ⟨n, j, none⟩ = false) ∧ n < W.heap.size :=
  ⟨by rw [Lib.cell_of_heap h]; rfl, by rw [Lib.cell_of_heap h]; rfl, fun j => Lib.frozen_of_heap h j, kLt h⟩
theorem grown_cell {w w' : World} {m : Nat} (hg : w.grownBy w' (some m)) (a : Addr) (hl : a.block < w.heap.size) (hne : a.block ≠ m) : w'.cell? a = w.cell? a := World.cell?_of_block (hg.block a.block hl (by simpa using hne))
/-- what the reference's Set answers -/
def SetGood (B : Nat) (vN vI : Value) (qs : List (ByteArray × Int)) (x : ByteArray) (k : Int) (vN' vI' : Value) (ee : Int) (w : World) : Prop :=
  if fitB k = true then ee = 0 ∧ RfAt B vN' vI' (qs ++ [(x, k)]) w else ee = 1 ∧ vN' = vN ∧ vI' = vI
theorem SetGood.below {B : Nat} {vN vI vN' vI' : Value} {qs : List (ByteArray × Int)} {x : ByteArray} {k ee : Int} {w w' : World} (h : SetGood B vN vI qs x k vN' vI' ee w) (hb : Below w.heap.size w w') : SetGood B vN vI qs x k vN' vI' ee w' := by
  unfold SetGood at h ⊢
  split at h
  · rename_i hk; rw [if_pos hk]; exact ⟨h.1, h.2.below hb⟩
  · rename_i hk; rw [if_neg hk]; exact h
theorem SetGood.set2 {B b : Nat} {vN vI vN' vI' y z x0 x1 : Value} {qs : List (ByteArray × Int)} {x : ByteArray} {k ee : Int} {w : World} (h : SetGood B vN vI qs x k vN' vI' ee w) (hb : w.heap[b]? = some (.cells #[x0, x1] 27 (0, 0))) : SetGood B vN vI qs x k vN' vI' ee ((w.setCell ⟨b, 0, none⟩ y).setCell ⟨b, 1, none⟩ z) := by
  unfold SetGood at h ⊢
  split at h
  · rename_i hk; rw [if_pos hk]; exact ⟨h.1, h.2.set2 hb⟩
  · rename_i hk; rw [if_neg hk]; exact h
theorem SetGood.fin {B : Nat} {vN vI vN' vI' : Value} {qs : List (ByteArray × Int)} {x : ByteArray} {k ee : Int} {w : World} (h : SetGood B vN vI qs x k vN' vI' ee w) (h0 : RfAt B vN vI qs w) : RfAt B vN' vI' (qs ++ (if fitB k = true then [(x, k)] else [])) w := by
  unfold SetGood at h
  by_cases hk : fitB k = true
  · rw [if_pos hk] at h ⊢; exact h.2
  · rw [if_neg hk] at h ⊢
    obtain ⟨_, rfl, rfl⟩ := h
    rw [List.append_nil]; exact h0
theorem rSet_c {B : Nat} {vN vI : Value} {qs : List (ByteArray × Int)} {w : World} (h : RfAt B vN vI qs w) (hB : B ≤ w.heap.size) (hl : qs.length < 1500000) (x : ByteArray) (k : Int) :
    Calls Try.prog 10 #[.agg #[vN, vI], .string x, .int .i64 k] w fun e w' => (∃ ao n1 c1 bo n2 c2 ee, e = .returned (.tuple #[.agg #[.slice ao n1 c1, .slice bo n2 c2], .int .i64 ee]) ∧ SetGood B vN vI qs x k (.slice ao n1 c1) (.slice bo n2 c2) ee w') ∧ Below w.heap.size w w' := by
  by_cases hk : fitB k = true
  · refine (rSet_ok h hl x k hk).mono ?_
    rintro e w' ⟨⟨vN', vI', rfl, hr⟩, hb⟩
    obtain ⟨ao, n1, c1, bo, n2, c2, rfl, rfl⟩ := hr.slices
    refine ⟨⟨ao, n1, c1, bo, n2, c2, 0, rfl, ?_⟩, hb⟩
    unfold SetGood; rw [if_pos hk]; exact ⟨rfl, hr.mono hB⟩
  · obtain ⟨ao, n1, c1, bo, n2, c2, rfl, rfl⟩ := h.slices
    refine (rSet_bad h x k (by simpa using hk)).mono ?_
    rintro e w' ⟨rfl, hb⟩
    refine ⟨⟨ao, n1, c1, bo, n2, c2, 1, rfl, ?_⟩, hb⟩
    unfold SetGood; rw [if_neg hk]; exact ⟨rfl, rfl, rfl⟩
/-- what the program's Set answers, and leaves -/
theorem pSet_c {sb mb : Nat} {qs : List (ByteArray × Int)} {w : World} (h : PrAt sb mb qs w) (hne : sb ≠ mb) (hl : qs.length < 1000000) (x : ByteArray) (hx : x.size ≤ maxLen) (k : Int) :
    Calls Try.prog 11 #[.pointer (some ⟨sb, 0, none⟩), .string x, .int .i64 k] w fun e w' => e = .returned (.int .i64 (if fitB k = true then 0 else 1)) ∧ PrAt sb mb (qs ++ (if fitB k = true then [(x, k)] else [])) w' ∧ (∃ cnt D, MpAt mb cnt D w) ∧ w.grownBy w' (some mb) := by
  obtain ⟨D, cnt, h1, h2, h3, h4⟩ := h
  by_cases hk : fitB k = true
  · rw [if_pos hk, if_pos hk]
    refine (kSet_c h1 h2 hne (by omega) x hx k hk).mono ?_
    rintro e w' ⟨rfl, hm, hg⟩
    refine ⟨rfl, ⟨_, cnt + 1, scAt_grown h1 hg hne, hm, by simp; exact h3, ?_⟩, ⟨_, _, h2⟩, hg⟩
    rw [lkp_snoc]; exact nmI_put h4 _ _
  · rw [if_neg hk, if_neg hk]
    refine (kSet_no h1 x k (by simpa using hk)).mono ?_
    rintro e w' ⟨rfl, rfl⟩
    rw [List.append_nil]
    exact ⟨rfl, ⟨D, cnt, h1, h2, h3, h4⟩, ⟨_, _, h2⟩, ⟨rfl, rfl, rfl, Nat.le_refl _, fun _ _ _ => rfl⟩⟩
end Go.Proofs.Ytbpjgfemopakcaa
