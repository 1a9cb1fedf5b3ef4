/- Texts SE SF SG SH SI SJ, joined: what each part says stands ahead of it. -/
import Derived.Test.YtpnhefjiobnelaaGSa
import Derived.Test.YtpnhefjiobnelaaNaB
import Derived.Deep.RegionLaw
/- Layer 4 of the program: where trees lie; names. -/
namespace Go.Proofs.Ytpnhefjiobnelaa
open Go.RowKit Lg
set_option linter.unusedVariables false
set_option linter.unusedSimpArgs false

/-- where trees, one behind the other, lie: a slice of them, and their cells; in blocks such as N tells -/
def Sl (w : World) (N : Nat → Prop) (ks : F) (v : Value) (cs : List Value) : Prop :=
  (ks = .nil ∧ v = .slice none 0 0) ∨ (∃ g cap, v = .slice (some ⟨g, 0, none⟩) ks.len cap ∧ N g ∧ g < w.heap.size ∧ ks.len ≤ cap ∧ ∀ j u, cs[j]? = some u → w.cell? ⟨g, j, none⟩ = some u)
def FAt (w : World) (N : Nat → Prop) : F → List Value → Prop
  | .nil, cs => cs = []
  | .cons op nm vl pl ks p r, cs => ∃ v cr cks, cs = [.int .i64 op, .string (S nm), .string (S vl), .bool pl, v, .int .i64 p] ++ cr ∧ FAt w N r cr ∧ FAt w N ks cks ∧ Sl w N ks v cks
/-- all such blocks that there were are as they were -/
def Up (N : Nat → Prop) (w w' : World) : Prop := w.heap.size ≤ w'.heap.size ∧ ∀ k, k < w.heap.size → N k → w'.heap[k]? = w.heap[k]?
def Ge (B : Nat) : Nat → Prop := fun g => B ≤ g
theorem Up.of {b : Nat} {N : Nat → Prop} {w w' : World} (h : Kp b w w') (hb : ¬ N b) : Up N w w' := ⟨h.size, fun k h1 h2 => h.block k h1 (fun e => hb (e ▸ h2))⟩
theorem Up.trans {N : Nat → Prop} {x y z : World} (h : Up N x y) (k : Up N y z) : Up N x z := ⟨Nat.le_trans h.1 k.1, fun i hi hb => (k.2 i (Nat.lt_of_lt_of_le hi h.1) hb).trans (h.2 i hi hb)⟩
theorem Up.set {N : Nat → Prop} {R j : Nat} {w : World} {y : Value} (h : ¬ N R) : Up N w (w.setCell ⟨R, j, none⟩ y) := ⟨by simp [World.setCell], fun k _ hb => Below.heap_setCell _ _ _ _ (show k ≠ R from fun e => h (e ▸ hb))⟩
theorem Up.six {N : Nat → Prop} {R : Nat} {w : World} {v0 v1 v2 v3 v4 v5 : Value} (h : ¬ N R) : Up N w ((((((w.setCell ⟨R, 0, none⟩ v0).setCell ⟨R, 1, none⟩ v1).setCell ⟨R, 2, none⟩ v2).setCell ⟨R, 3, none⟩ v3).setCell ⟨R, 4, none⟩ v4).setCell ⟨R, 5, none⟩ v5) :=
  (((((Up.set h).trans (Up.set h)).trans (Up.set h)).trans (Up.set h)).trans (Up.set h)).trans (Up.set h)
theorem Up.sixG {B R : Nat} {w : World} {v0 v1 v2 v3 v4 v5 : Value} (h : R < B) : Up (Ge B) w ((((((w.setCell ⟨R, 0, none⟩ v0).setCell ⟨R, 1, none⟩ v1).setCell ⟨R, 2, none⟩ v2).setCell ⟨R, 3, none⟩ v3).setCell ⟨R, 4, none⟩ v4).setCell ⟨R, 5, none⟩ v5) := Up.six (by unfold Ge; omega)
theorem Sl.keep {w w' : World} {N : Nat → Prop} {ks : F} {v : Value} {cs : List Value} (h : Sl w N ks v cs) (hk : Up N w w') : Sl w' N ks v cs := by
  rcases h with h | ⟨g, cap, h1, h2, h3, h4, h5⟩
  · exact Or.inl h
  · exact Or.inr ⟨g, cap, h1, h2, Nat.lt_of_lt_of_le h3 hk.1, h4, fun j u hu => by rw [World.cell?_of_block (w := w) (a := ⟨g, j, none⟩) (hk.2 g h3 h2)]; exact h5 j u hu⟩
theorem FAt.keep {w w' : World} {N : Nat → Prop} (hk : Up N w w') : ∀ {f : F} {cs : List Value}, FAt w N f cs → FAt w' N f cs := by
  intro f
  induction f with
  | nil => intro cs h; exact h
  | cons op nm vl pl ks p r ih1 ih2 =>
    rintro cs ⟨v, cr, cks, h1, h2, h3, h4⟩
    exact ⟨v, cr, cks, h1, ih2 h2, ih1 h3, h4.keep hk⟩
theorem Sl.mono {w : World} {N N' : Nat → Prop} {ks : F} {v : Value} {cs : List Value} (h : Sl w N ks v cs) (hB : ∀ g, g < w.heap.size → N g → N' g) : Sl w N' ks v cs := by
  rcases h with h | ⟨g, cap, h1, h2, h3⟩
  · exact Or.inl h
  · exact Or.inr ⟨g, cap, h1, hB g h3.1 h2, h3⟩
theorem FAt.mono {w : World} {N N' : Nat → Prop} (hB : ∀ g, g < w.heap.size → N g → N' g) : ∀ {f : F} {cs : List Value}, FAt w N f cs → FAt w N' f cs := by
  intro f
  induction f with
  | nil => intro cs h; exact h
  | cons op nm vl pl ks p r ih1 ih2 =>
    rintro cs ⟨v, cr, cks, h1, h2, h3, h4⟩
    exact ⟨v, cr, cks, h1, ih2 h2, ih1 h3, h4.mono hB⟩
/-- where a tree's parts lie -/
def KAt (w : World) (N : Nat → Prop) (ks : F) (v : Value) : Prop := ∃ cks, FAt w N ks cks ∧ Sl w N ks v cks
theorem KAt.keep {w w' : World} {N : Nat → Prop} {ks : F} {v : Value} (h : KAt w N ks v) (hk : Up N w w') : KAt w' N ks v := by
  obtain ⟨cks, h1, h2⟩ := h
  exact ⟨cks, h1.keep hk, h2.keep hk⟩
theorem KAt.mono {w : World} {N N' : Nat → Prop} {ks : F} {v : Value} (h : KAt w N ks v) (hB : ∀ g, g < w.heap.size → N g → N' g) : KAt w N' ks v := by
  obtain ⟨cks, h1, h2⟩ := h
  exact ⟨cks, h1.mono hB, h2.mono hB⟩
theorem KAt.monoG {w : World} {B B' : Nat} {ks : F} {v : Value} (h : KAt w (Ge B) ks v) (hB : B' ≤ B) : KAt w (Ge B') ks v := h.mono fun g _ hg => by unfold Ge at hg ⊢; omega
theorem KAt.nil (w : World) (N : Nat → Prop) : KAt w N .nil (.slice none 0 0) := ⟨[], rfl, Or.inl ⟨rfl, rfl⟩⟩
def xC (x : X) (v : Value) : List Value := [.int .i64 x.op, .string (S x.nm), .string (S x.vl), .bool x.pl, v, .int .i64 x.p]
theorem cells_in {w : World} {o : List Value} {t : TypeId} : ∀ j u, o[j]? = some u → (w.alloc (.cells o.toArray t)).cell? ⟨w.heap.size, j, none⟩ = some u := fun j u h => by
  rw [World.cell?_alloc_at _ _ _ _ rfl]; simpa using h
theorem Up.alloc {N : Nat → Prop} {w : World} {o : Obj} : Up N w (w.alloc o) := ⟨by simp, fun k hk _ => by show (w.heap.push _)[k]? = _; rw [Array.getElem?_push, if_neg (by omega)]⟩
/-- one part, made into a slice -/
theorem KAt.one {w : World} {N : Nat → Prop} {x : X} {v : Value} (hb : N w.heap.size) (h : KAt w N x.kids v) (t : TypeId) : KAt (w.alloc (.cells (xC x v).toArray t)) N (x.f .nil) (.slice (some ⟨w.heap.size, 0, none⟩) 1 1) := by
  obtain ⟨cks, h1, h2⟩ := h.keep (Up.alloc (o := .cells (xC x v).toArray t))
  refine ⟨xC x v, ⟨v, [], cks, rfl, rfl, h1, h2⟩, Or.inr ⟨w.heap.size, 1, rfl, hb, by simp, Nat.le_refl _, cells_in⟩⟩
theorem KAt.two {w : World} {N : Nat → Prop} {x y : X} {v u : Value} (hb : N w.heap.size) (h : KAt w N x.kids v) (k : KAt w N y.kids u) (t : TypeId) : KAt (w.alloc (.cells (xC x v ++ xC y u).toArray t)) N (x.f (y.f .nil)) (.slice (some ⟨w.heap.size, 0, none⟩) 2 2) := by
  obtain ⟨cks, h1, h2⟩ := h.keep (Up.alloc (o := .cells (xC x v ++ xC y u).toArray t))
  obtain ⟨cku, k1, k2⟩ := k.keep (Up.alloc (o := .cells (xC x v ++ xC y u).toArray t))
  exact ⟨xC x v ++ xC y u, ⟨v, xC y u, cks, rfl, ⟨u, [], cku, rfl, rfl, k1, k2⟩, h1, h2⟩, Or.inr ⟨w.heap.size, 2, rfl, hb, by simp, Nat.le_refl _, cells_in⟩⟩
def six (w : World) (R : Nat) (v0 v1 v2 v3 v4 v5 : Value) : World := (((((w.setCell ⟨R, 0, none⟩ v0).setCell ⟨R, 1, none⟩ v1).setCell ⟨R, 2, none⟩ v2).setCell ⟨R, 3, none⟩ v3).setCell ⟨R, 4, none⟩ v4).setCell ⟨R, 5, none⟩ v5
theorem six_size (w : World) (R : Nat) (v0 v1 v2 v3 v4 v5 : Value) : (six w R v0 v1 v2 v3 v4 v5).heap.size = w.heap.size := by simp [six, World.setCell]
theorem KAt.oneS {w : World} {B R : Nat} {x : X} {v v0 v1 v2 v3 v4 v5 : Value} (h : KAt w (Ge B) x.kids v) (hR : R < B) (hB : B ≤ w.heap.size) (t : TypeId) : KAt ((six w R v0 v1 v2 v3 v4 v5).alloc (.cells (xC x v).toArray t)) (Ge B) (x.f .nil) (.slice (some ⟨w.heap.size, 0, none⟩) 1 1) := by
  have e := six_size w R v0 v1 v2 v3 v4 v5
  have := KAt.one (w := six w R v0 v1 v2 v3 v4 v5) (by rw [e]; exact hB) (h.keep (Up.sixG hR)) t
  rw [e] at this
  exact this
theorem KAt.twoS {w : World} {N : Nat → Prop} {R : Nat} {x y : X} {v u v0 v1 v2 v3 v4 v5 : Value} (h : KAt w N x.kids v) (k : KAt w N y.kids u) (hR : ¬ N R) (hB : N w.heap.size) (t : TypeId) : KAt ((six w R v0 v1 v2 v3 v4 v5).alloc (.cells (xC x v ++ xC y u).toArray t)) N (x.f (y.f .nil)) (.slice (some ⟨w.heap.size, 0, none⟩) 2 2) := by
  have e := six_size w R v0 v1 v2 v3 v4 v5
  have := KAt.two (w := six w R v0 v1 v2 v3 v4 v5) (by rw [e]; exact hB) (h.keep (Up.six hR)) (k.keep (Up.six hR)) t
  rw [e] at this
  exact this
/-- a block of six stays -/
theorem res6 {w w1 : World} {bb R : Nat} {a b c d e f : Value} {t : TypeId} (h : Kp bb (w.alloc (.cells #[a, b, c, d, e, f] t)) w1) (hb : bb < w.heap.size) (hR : w.heap.size = R) :
    w1.cell? ⟨R, 0, none⟩ = some a ∧ w1.cell? ⟨R, 1, none⟩ = some b ∧ w1.cell? ⟨R, 2, none⟩ = some c ∧ w1.cell? ⟨R, 3, none⟩ = some d ∧ w1.cell? ⟨R, 4, none⟩ = some e ∧ w1.cell? ⟨R, 5, none⟩ = some f ∧ (∀ j, w1.frozen? ⟨R, j, none⟩ = false) ∧ R < w1.heap.size := by
  subst hR
  have e : w1.heap[w.heap.size]? = some (.cells #[a, b, c, d, e, f] t (0, 0)) := (h.block w.heap.size (by simp) (by omega)).trans (by show (w.heap.push _)[w.heap.size]? = _; simp)
  refine ⟨?_, ?_, ?_, ?_, ?_, ?_, fun j => Lib.frozen_of_heap e j, heap_lt e⟩ <;> (rw [Lib.cell_of_heap e]; rfl)
theorem Kp.six {b R : Nat} {w w1 : World} {v0 v1 v2 v3 v4 v5 : Value} (h : Kp b w w1) (hR : w.heap.size ≤ R) : Kp b w ((((((w1.setCell ⟨R, 0, none⟩ v0).setCell ⟨R, 1, none⟩ v1).setCell ⟨R, 2, none⟩ v2).setCell ⟨R, 3, none⟩ v3).setCell ⟨R, 4, none⟩ v4).setCell ⟨R, 5, none⟩ v5) :=
  (((((h.setR hR).setR hR).setR hR).setR hR).setR hR).setR hR
end Go.Proofs.Ytpnhefjiobnelaa

/- Layer 4 of the program: a primary that is a name; unary signs. -/
namespace Go.Proofs.Ytpnhefjiobnelaa
open Go.RowKit Lg
set_option linter.unusedVariables false
set_option linter.unusedSimpArgs false

theorem fix_nm {t : Tok} (h : nmB t = true) : fixL t = [] := by
  unfold nmB at h
  simp at h
  unfold fixL
  rw [if_neg]
  rintro (⟨h1, h2⟩ | ⟨h1, h2⟩)
  · rw [h.2] at h2; cases h2
  · rw [h.1] at h1; exact absurd h1 (by decide)
theorem nm_kind {t : Tok} (h : nmB t = true) : t.k = 1 := by unfold nmB at h; simp at h; exact h.1
/-- what a function boxes, and its result's block, stay -/
theorem boxes {w w' : World} {bb : Nat} {p d a b c e f h : Value} {t1 t2 t3 : TypeId} (hk : Kp bb (((w.alloc (.cells #[p] t1)).alloc (.cells #[d] t2)).alloc (.cells #[a, b, c, e, f, h] t3)) w') (hb : bb < w.heap.size) :
    w'.cell? ⟨w.heap.size, 0, none⟩ = some p ∧ w'.cell? ⟨w.heap.size + 1, 0, none⟩ = some d ∧ w'.cell? ⟨w.heap.size + 2, 0, none⟩ = some a ∧ w'.cell? ⟨w.heap.size + 2, 1, none⟩ = some b ∧ w'.cell? ⟨w.heap.size + 2, 2, none⟩ = some c ∧ w'.cell? ⟨w.heap.size + 2, 3, none⟩ = some e ∧ w'.cell? ⟨w.heap.size + 2, 4, none⟩ = some f ∧ w'.cell? ⟨w.heap.size + 2, 5, none⟩ = some h ∧ (∀ j, w'.frozen? ⟨w.heap.size + 2, j, none⟩ = false) ∧ w.heap.size + 2 < w'.heap.size := by
  have e0 : w'.heap[w.heap.size]? = some (.cells #[p] t1 (0, 0)) := (hk.block w.heap.size (by simp; omega) (by omega)).trans (by
    show (((w.heap.push _).push _).push _)[w.heap.size]? = _
    rw [Array.getElem?_push, if_neg (by simp; omega), Array.getElem?_push, if_neg (by simp), Array.getElem?_push, if_pos rfl])
  have e1 : w'.heap[w.heap.size + 1]? = some (.cells #[d] t2 (0, 0)) := (hk.block (w.heap.size + 1) (by simp) (by omega)).trans (by
    show (((w.heap.push _).push _).push _)[w.heap.size + 1]? = _
    rw [Array.getElem?_push, if_neg (by simp), Array.getElem?_push, if_pos (by simp)])
  have e2 : w'.heap[w.heap.size + 2]? = some (.cells #[a, b, c, e, f, h] t3 (0, 0)) := (hk.block (w.heap.size + 2) (by simp) (by omega)).trans (by
    show (((w.heap.push _).push _).push _)[w.heap.size + 2]? = _
    rw [Array.getElem?_push, if_pos (by simp)])
  refine ⟨by rw [Lib.cell_of_heap e0]; rfl, by rw [Lib.cell_of_heap e1]; rfl, ?_, ?_, ?_, ?_, ?_, ?_, fun j => Lib.frozen_of_heap e2 j, heap_lt e2⟩ <;> (rw [Lib.cell_of_heap e2]; rfl)
theorem b3 {w : World} {o1 o2 o3 : Obj} : Below w.heap.size w (((w.alloc o1).alloc o2).alloc o3) := bel (bel bxS bxS) bxS
end Go.Proofs.Ytpnhefjiobnelaa

/- Layer 4 of the program: unary signs. -/
namespace Go.Proofs.Ytpnhefjiobnelaa
open Go.RowKit Lg
set_option linter.unusedVariables false
set_option linter.unusedSimpArgs false

end Go.Proofs.Ytpnhefjiobnelaa

/- Layer 4 of the program: signs between two parts. -/
namespace Go.Proofs.Ytpnhefjiobnelaa
open Go.RowKit Lg
set_option linter.unusedVariables false
set_option linter.unusedSimpArgs false

/-- where the parser stands -/
def atP (b : Nat) (w : World) : Nat := match w.cell? ⟨b, 1, none⟩ with | some (.int _ k) => k.toNat | _ => 0
/-- a tree's blocks: from the call on, but not where its first part lies -/
def No (B Xb : Nat) : Nat → Prop := fun g => B ≤ g ∧ g ≠ Xb
theorem pQ_le {l : List Tok} : ∀ (f : Nat) (md : Md) (k : Nat) (x : X) (k' : Nat), pQ l f md k = some (x, k') → k ≤ k' := by
  intro f
  induction f with
  | zero => intro md k x k' h; rw [pQ] at h; cases h
  | succ f ih =>
    intro md k x k' h
    cases md with
    | ex d => exact ih _ _ _ _ (pQ_ex h).1
    | bi d s => obtain ⟨y, k1, h1, h2⟩ := pQ_bi h; exact Nat.le_trans (ih _ _ _ _ h1) (ih _ _ _ _ h2)
    | bl d s z =>
      rcases pQ_bl h with ⟨_, _, h1⟩ | ⟨_, _, y, k1, h1, h2⟩
      · omega
      · have a := ih _ _ _ _ h1; have b := ih _ _ _ _ h2; omega
    | un d =>
      rcases pQ_un h with ⟨_, h1⟩ | ⟨_, _, y, h1, _⟩
      · exact ih _ _ _ _ h1
      · have := ih _ _ _ _ h1; omega
    | pr d => obtain ⟨_, _, _, _, h1⟩ := pQ_pr h; omega
    | ct d p a => rw [pQ] at h; cases h
theorem cells6 {w : World} {R : Nat} {a b c d e f : Value} {t : TypeId} (h : w.heap[R]? = some (.cells #[a, b, c, d, e, f] t (0, 0))) :
    w.cell? ⟨R, 0, none⟩ = some a ∧ w.cell? ⟨R, 1, none⟩ = some b ∧ w.cell? ⟨R, 2, none⟩ = some c ∧ w.cell? ⟨R, 3, none⟩ = some d ∧ w.cell? ⟨R, 4, none⟩ = some e ∧ w.cell? ⟨R, 5, none⟩ = some f ∧ (∀ j, w.frozen? ⟨R, j, none⟩ = false) ∧ R < w.heap.size := by
  refine ⟨?_, ?_, ?_, ?_, ?_, ?_, fun j => Lib.frozen_of_heap h j, heap_lt h⟩ <;> (rw [Lib.cell_of_heap h]; rfl)
theorem six_at {w : World} {R : Nat} {a b c d e f v0 v1 v2 v3 v4 v5 : Value} {t : TypeId} (h : w.heap[R]? = some (.cells #[a, b, c, d, e, f] t (0, 0))) (o : Obj) : ((six w R v0 v1 v2 v3 v4 v5).alloc o).heap[R]? = some (.cells #[v0, v1, v2, v3, v4, v5] t (0, 0)) := by
  have hl := heap_lt h
  have e0 := six_size w R v0 v1 v2 v3 v4 v5
  show ((six w R v0 v1 v2 v3 v4 v5).heap.push _)[R]? = _
  rw [Array.getElem?_push, if_neg (by omega)]
  unfold six World.setCell
  simp only [Array.getElem?_modify, if_true, h, Option.map_some]
  rfl
end Go.Proofs.Ytpnhefjiobnelaa

/- Layer 4 of the program: expressions of names and operators. -/
namespace Go.Proofs.Ytpnhefjiobnelaa
open Go.RowKit Lg
set_option linter.unusedVariables false
set_option linter.unusedSimpArgs false

end Go.Proofs.Ytpnhefjiobnelaa

/- Layer 4 of the program: a name, what it is to be, and the end of the item. -/
namespace Go.Proofs.Ytpnhefjiobnelaa
open Go.RowKit Lg
set_option linter.unusedVariables false
set_option linter.unusedSimpArgs false

theorem Up.drew {N : Nat → Prop} {w : World} : Up N w w.drew := ⟨Nat.le_refl _, fun _ _ _ => rfl⟩
end Go.Proofs.Ytpnhefjiobnelaa
