/- Layer 4 of the program: where trees lie; names. -/
import Derived.Test.YthdhmlojihpfkaaGreatSD
import Derived.Test.YthdhmlojihpfkaaGreatNaB
namespace Go.Proofs.YthdhmlojihpfkaaGreat
open Go.RowKit Lg
set_option linter.unusedVariables false
set_option linter.unusedSimpArgs false

/-- where trees, one behind the other, lie: a slice of them, and their cells; in blocks such as N tells -/
def Sl (w : World) (N : Nat → Prop) (ks : F) (v : Value) (cs : List Value) : Prop :=
  (ks = .nil ∧ v = .slice none 0 0) ∨ (∃ g cap, v = .slice (some ⟨g, 0, none⟩) ks.len cap ∧ N g ∧ g < w.heap.size ∧ ks.len ≤ cap ∧ ∀ j u, cs[j]? = some u → w.cell? ⟨g, j, none⟩ = some u)
def FAt (w : World) (N : Nat → Prop) : F → List Value → Prop
  | .nil, cs => cs = []
  | .cons op nm vl pl ks p r, cs => ∃ v cr cks, cs = [.int .i64 op, .string (S nm), .string (S vl), .bool pl, v, .int .i64 p] ++ cr ∧ FAt w N r cr ∧ FAt w N ks cks ∧ Sl w N ks v cks
/-- all such blocks that there were are as they were -/
def Up (N : Nat → Prop) (w w' : World) : Prop := w.heap.size ≤ w'.heap.size ∧ ∀ k, k < w.heap.size → N k → w'.heap[k]? = w.heap[k]?
def Ge (B : Nat) : Nat → Prop := fun g => B ≤ g
theorem Up.of {b : Nat} {N : Nat → Prop} {w w' : World} (h : Kp b w w') (hb : ¬ N b) : Up N w w' := ⟨h.size, fun k h1 h2 => h.block k h1 (fun e => hb (e ▸ h2))⟩
theorem Up.trans {N : Nat → Prop} {x y z : World} (h : Up N x y) (k : Up N y z) : Up N x z := ⟨Nat.le_trans h.1 k.1, fun i hi hb => (k.2 i (Nat.lt_of_lt_of_le hi h.1) hb).trans (h.2 i hi hb)⟩
theorem Up.set {N : Nat → Prop} {R j : Nat} {w : World} {y : Value} (h : ¬ N R) : Up N w (w.setCell ⟨R, j, none⟩ y) := ⟨by simp [World.setCell], fun k _ hb => Below.heap_setCell _ _ _ _ (show k ≠ R from fun e => h (e ▸ hb))⟩
theorem Up.six {N : Nat → Prop} {R : Nat} {w : World} {v0 v1 v2 v3 v4 v5 : Value} (h : ¬ N R) : Up N w ((((((w.setCell ⟨R, 0, none⟩ v0).setCell ⟨R, 1, none⟩ v1).setCell ⟨R, 2, none⟩ v2).setCell ⟨R, 3, none⟩ v3).setCell ⟨R, 4, none⟩ v4).setCell ⟨R, 5, none⟩ v5) :=
  (((((Up.set h).trans (Up.set h)).trans (Up.set h)).trans (Up.set h)).trans (Up.set h)).trans (Up.set h)
theorem Up.sixG {B R : Nat} {w : World} {v0 v1 v2 v3 v4 v5 : Value} (h : R < B) : Up (Ge B) w ((((((w.setCell ⟨R, 0, none⟩ v0).setCell ⟨R, 1, none⟩ v1).setCell ⟨R, 2, none⟩ v2).setCell ⟨R, 3, none⟩ v3).setCell ⟨R, 4, none⟩ v4).setCell ⟨R, 5, none⟩ v5) := Up.six (by unfold Ge; omega)
theorem Sl.keep {w w' : World} {N : Nat → Prop} {ks : F} {v : Value} {cs : List Value} (h : Sl w N ks v cs) (hk : Up N w w') : Sl w' N ks v cs := by
  rcases h with h | ⟨g, cap, h1, h2, h3, h4, h5⟩
  · exact Or.inl h
  · exact Or.inr ⟨g, cap, h1, h2, Nat.lt_of_lt_of_le h3 hk.1, h4, fun j u hu => by rw [World.cell?_of_block (w := w) (a := ⟨g, j, none⟩) (hk.2 g h3 h2)]; exact h5 j u hu⟩
theorem FAt.keep {w w' : World} {N : Nat → Prop} (hk : Up N w w') : ∀ {f : F} {cs : List Value}, FAt w N f cs → FAt w' N f cs := by
  intro f
  induction f with
  | nil => intro cs h; exact h
  | cons op nm vl pl ks p r ih1 ih2 =>
    rintro cs ⟨v, cr, cks, h1, h2, h3, h4⟩
    exact ⟨v, cr, cks, h1, ih2 h2, ih1 h3, h4.keep hk⟩
theorem Sl.mono {w : World} {N N' : Nat → Prop} {ks : F} {v : Value} {cs : List Value} (h : Sl w N ks v cs) (hB : ∀ g, g < w.heap.size → N g → N' g) : Sl w N' ks v cs := by
  rcases h with h | ⟨g, cap, h1, h2, h3⟩
  · exact Or.inl h
  · exact Or.inr ⟨g, cap, h1, hB g h3.1 h2, h3⟩
theorem FAt.mono {w : World} {N N' : Nat → Prop} (hB : ∀ g, g < w.heap.size → N g → N' g) : ∀ {f : F} {cs : List Value}, FAt w N f cs → FAt w N' f cs := by
  intro f
  induction f with
  | nil => intro cs h; exact h
  | cons op nm vl pl ks p r ih1 ih2 =>
    rintro cs ⟨v, cr, cks, h1, h2, h3, h4⟩
    exact ⟨v, cr, cks, h1, ih2 h2, ih1 h3, h4.mono hB⟩
/-- where a tree's parts lie -/
def KAt (w : World) (N : Nat → Prop) (ks : F) (v : Value) : Prop := ∃ cks, FAt w N ks cks ∧ Sl w N ks v cks
theorem KAt.keep {w w' : World} {N : Nat → Prop} {ks : F} {v : Value} (h : KAt w N ks v) (hk : Up N w w') : KAt w' N ks v := by
  obtain ⟨cks, h1, h2⟩ := h
  exact ⟨cks, h1.keep hk, h2.keep hk⟩
theorem KAt.mono {w : World} {N N' : Nat → Prop} {ks : F} {v : Value} (h : KAt w N ks v) (hB : ∀ g, g < w.heap.size → N g → N' g) : KAt w N' ks v := by
  obtain ⟨cks, h1, h2⟩ := h
  exact ⟨cks, h1.mono hB, h2.mono hB⟩
theorem KAt.monoG {w : World} {B B' : Nat} {ks : F} {v : Value} (h : KAt w (Ge B) ks v) (hB : B' ≤ B) : KAt w (Ge B') ks v := h.mono fun g _ hg => by unfold Ge at hg ⊢; omega
theorem KAt.nil (w : World) (N : Nat → Prop) : KAt w N .nil (.slice none 0 0) := ⟨[], rfl, Or.inl ⟨rfl, rfl⟩⟩
def xC (x : X) (v : Value) : List Value := [.int .i64 x.op, .string (S x.nm), .string (S x.vl), .bool x.pl, v, .int .i64 x.p]
theorem cells_in {w : World} {o : List Value} {t : TypeId} : ∀ j u, o[j]? = some u → (w.alloc (.cells o.toArray t)).cell? ⟨w.heap.size, j, none⟩ = some u := fun j u h => by
  rw [World.cell?_alloc_at _ _ _ _ rfl]; simpa using h
theorem Up.alloc {N : Nat → Prop} {w : World} {o : Obj} : Up N w (w.alloc o) := ⟨by simp, fun k hk _ => by show (w.heap.push _)[k]? = _; rw [Array.getElem?_push, if_neg (by omega)]⟩
/-- one part, made into a slice -/
theorem KAt.one {w : World} {N : Nat → Prop} {x : X} {v : Value} (hb : N w.heap.size) (h : KAt w N x.kids v) (t : TypeId) : KAt (w.alloc (.cells (xC x v).toArray t)) N (x.f .nil) (.slice (some ⟨w.heap.size, 0, none⟩) 1 1) := by
  obtain ⟨cks, h1, h2⟩ := h.keep (Up.alloc (o := .cells (xC x v).toArray t))
  refine ⟨xC x v, ⟨v, [], cks, rfl, rfl, h1, h2⟩, Or.inr ⟨w.heap.size, 1, rfl, hb, by simp, Nat.le_refl _, cells_in⟩⟩
theorem KAt.two {w : World} {N : Nat → Prop} {x y : X} {v u : Value} (hb : N w.heap.size) (h : KAt w N x.kids v) (k : KAt w N y.kids u) (t : TypeId) : KAt (w.alloc (.cells (xC x v ++ xC y u).toArray t)) N (x.f (y.f .nil)) (.slice (some ⟨w.heap.size, 0, none⟩) 2 2) := by
  obtain ⟨cks, h1, h2⟩ := h.keep (Up.alloc (o := .cells (xC x v ++ xC y u).toArray t))
  obtain ⟨cku, k1, k2⟩ := k.keep (Up.alloc (o := .cells (xC x v ++ xC y u).toArray t))
  exact ⟨xC x v ++ xC y u, ⟨v, xC y u, cks, rfl, ⟨u, [], cku, rfl, rfl, k1, k2⟩, h1, h2⟩, Or.inr ⟨w.heap.size, 2, rfl, hb, by simp, Nat.le_refl _, cells_in⟩⟩
def six (w : World) (R : Nat) (v0 v1 v2 v3 v4 v5 : Value) : World := (((((w.setCell ⟨R, 0, none⟩ v0).setCell ⟨R, 1, none⟩ v1).setCell ⟨R, 2, none⟩ v2).setCell ⟨R, 3, none⟩ v3).setCell ⟨R, 4, none⟩ v4).setCell ⟨R, 5, none⟩ v5
theorem six_size (w : World) (R : Nat) (v0 v1 v2 v3 v4 v5 : Value) : (six w R v0 v1 v2 v3 v4 v5).heap.size = w.heap.size := by simp [six, World.setCell]
theorem KAt.oneS {w : World} {B R : Nat} {x : X} {v v0 v1 v2 v3 v4 v5 : Value} (h : KAt w (Ge B) x.kids v) (hR : R < B) (hB : B ≤ w.heap.size) (t : TypeId) : KAt ((six w R v0 v1 v2 v3 v4 v5).alloc (.cells (xC x v).toArray t)) (Ge B) (x.f .nil) (.slice (some ⟨w.heap.size, 0, none⟩) 1 1) := by
  have e := six_size w R v0 v1 v2 v3 v4 v5
  have := KAt.one (w := six w R v0 v1 v2 v3 v4 v5) (by rw [e]; exact hB) (h.keep (Up.sixG hR)) t
  rw [e] at this
  exact this
theorem KAt.twoS {w : World} {N : Nat → Prop} {R : Nat} {x y : X} {v u v0 v1 v2 v3 v4 v5 : Value} (h : KAt w N x.kids v) (k : KAt w N y.kids u) (hR : ¬ N R) (hB : N w.heap.size) (t : TypeId) : KAt ((six w R v0 v1 v2 v3 v4 v5).alloc (.cells (xC x v ++ xC y u).toArray t)) N (x.f (y.f .nil)) (.slice (some ⟨w.heap.size, 0, none⟩) 2 2) := by
  have e := six_size w R v0 v1 v2 v3 v4 v5
  have := KAt.two (w := six w R v0 v1 v2 v3 v4 v5) (by rw [e]; exact hB) (h.keep (Up.six hR)) (k.keep (Up.six hR)) t
  rw [e] at this
  exact this
/-- what reading a tree comes to -/
def ExO (b g cap : Nat) (l : List Tok) (w : World) (x : X) (k : Nat) (e : Ending) (w' : World) : Prop :=
  (∃ ao n cp, e = .returned (.agg #[.int .i64 x.op, .string (S x.nm), .string (S x.vl), .bool x.pl, .slice ao n cp, .int .i64 x.p]) ∧ KAt w' (Ge w.heap.size) x.kids (.slice ao n cp)) ∧ St b g cap l k w' ∧ Kp b w w'
/-- a block of six stays -/
theorem res6 {w w1 : World} {bb R : Nat} {a b c d e f : Value} {t : TypeId} (h : Kp bb (w.alloc (.cells #[a, b, c, d, e, f] t)) w1) (hb : bb < w.heap.size) (hR : w.heap.size = R) :
    w1.cell? ⟨R, 0, none⟩ = some a ∧ w1.cell? ⟨R, 1, none⟩ = some b ∧ w1.cell? ⟨R, 2, none⟩ = some c ∧ w1.cell? ⟨R, 3, none⟩ = some d ∧ w1.cell? ⟨R, 4, none⟩ = some e ∧ w1.cell? ⟨R, 5, none⟩ = some f ∧ (∀ j, w1.frozen? ⟨R, j, none⟩ = false) ∧ R < w1.heap.size := by
  subst hR
  have e : w1.heap[w.heap.size]? = some (.cells #[a, b, c, d, e, f] t (0, 0)) := (h.block w.heap.size (by simp) (by omega)).trans (by show (w.heap.push _)[w.heap.size]? = _; simp)
  refine ⟨?_, ?_, ?_, ?_, ?_, ?_, fun j => Lib.frozen_of_heap e j, heap_lt e⟩ <;> (rw [Lib.cell_of_heap e]; rfl)
/-- six cells of a block that is neither the parser's nor the tokens' are written -/
theorem St.six {b g cap k R : Nat} {l : List Tok} {w : World} {v0 v1 v2 v3 v4 v5 : Value} (h : St b g cap l k w) (h1 : R ≠ b) (h2 : R ≠ g) : St b g cap l k ((((((w.setCell ⟨R, 0, none⟩ v0).setCell ⟨R, 1, none⟩ v1).setCell ⟨R, 2, none⟩ v2).setCell ⟨R, 3, none⟩ v3).setCell ⟨R, 4, none⟩ v4).setCell ⟨R, 5, none⟩ v5) :=
  (((((h.setR h1 h2).setR h1 h2).setR h1 h2).setR h1 h2).setR h1 h2).setR h1 h2
theorem Kp.six {b R : Nat} {w w1 : World} {v0 v1 v2 v3 v4 v5 : Value} (h : Kp b w w1) (hR : w.heap.size ≤ R) : Kp b w ((((((w1.setCell ⟨R, 0, none⟩ v0).setCell ⟨R, 1, none⟩ v1).setCell ⟨R, 2, none⟩ v2).setCell ⟨R, 3, none⟩ v3).setCell ⟨R, 4, none⟩ v4).setCell ⟨R, 5, none⟩ v5) :=
  (((((h.setR hR).setR hR).setR hR).setR hR).setR hR).setR hR
set_option maxRecDepth 100000 in
set_option maxHeartbeats 2000000 in
theorem pNamed {b g cap k : Nat} {l : List Tok} {w : World} (h : St b g cap l k w) (d : Nat) (hd : d ≤ 32) (hn : nmB (tk l k) = true) (hx : fx l (k + 1) ≠ [91]) :
    Calls Tryz.prog 118 #[.pointer (some ⟨b, 0, none⟩), .int .i64 d] w fun e w' => ExO b g cap l w ⟨2, (tk l k).x, [], false, .nil, (tk l k).p⟩ (k + 1) e w' := by
  have HO := fun w' (hb : Below w.heap.size w w') => pOpenY (h.below hb) d hd (h.next (nmB_kind hn))
  have HT : Hid _ := h
  unfold ExO
  obtain ⟨⟨kk, tx, p⟩, ht⟩ : ∃ t, t = tk l k := ⟨_, rfl⟩
  rw [← ht] at HO ⊢
  unfold tkV at HO
  simp only at HO ⊢
  obtain ⟨sx, hsx⟩ : ∃ sx, sx = S tx := ⟨_, rfl⟩
  rw [← hsx] at HO ⊢
  have hf1 := fld1
  have hf2 := fld2
  have HX := fun w' (hs : St b g cap l (k + 1) w') => pTakesN hs ⟨#[91]⟩ hx
  clear ht h hsx hn hd hx
  go_enter Tryz.func118, Tryz.ntmps118
  go_wp2_with (first
    | (go_at_call 99; refine (HO _ bxS).mono ?_; rintro e w1 ⟨rfl, hs1, hk1⟩)
    | (go_at_call 67; refine (HX _ (hs1.below (bel bxS bxS))).mono ?_; rintro e w2 ⟨rfl, hb2⟩; obtain ⟨r0, r1, r2, r3, r4, r5, rf, rl⟩ := res6 (hk1.trans (Kp.of (bel (bel bxS bxS) hb2))) HT.out.blt rfl; obtain ⟨s0, s1, s2, s3, s4, s5, sf, sl⟩ := res6 (R := w1.heap.size + 1) (Kp.of (b := b) hb2) (by simp; exact Nat.lt_succ_of_lt hs1.blt) (by simp)))
  have hg := HT.out.lt
  have hbl := HT.out.blt
  refine bodyPost_ret (v := .agg #[.int .i64 2, .string sx, .string ⟨#[]⟩, .bool false, .slice none 0 0, .int .i64 p]) (by simp [results, Tryz.results118, go_sem, r0, r1, r2, r3, r4, r5, rf, rl]) rfl ?_
  exact ⟨⟨_, _, _, rfl, KAt.nil _ _⟩, (hs1.below (bel (bel bxS bxS) hb2)).six (by omega) (by omega), ((Kp.of bxS).trans (hk1.trans (Kp.of (bel (bel bxS bxS) hb2)))).six (Nat.le_refl _)⟩
end Go.Proofs.YthdhmlojihpfkaaGreat
