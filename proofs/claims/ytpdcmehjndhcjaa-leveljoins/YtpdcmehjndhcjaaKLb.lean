/- The program's walker at its block; what a node hangs on; the library's Index and Clone. -/
import Derived.Test.YtpdcmehjndhcjaaKLa
import Derived.WalkSmall
import Derived.Deep.LoopGhost
namespace Go.Proofs.Ytpdcmehjndhcjaa
open Go.RowKit Lg Nl Go.Maps
set_option linter.unusedVariables false
set_option linter.unusedSimpArgs false

/-- five places, each another one -/
structure Ap (B b T1 T2 T3 : Nat) : Prop where
  b0 : B ≤ b
  t1 : B ≤ T1
  t2 : B ≤ T2
  t3 : B ≤ T3
  n1 : b ≠ T1
  n2 : b ≠ T2
  n3 : b ≠ T3
  n4 : T1 ≠ T2
  n5 : T1 ≠ T3
  n6 : T2 ≠ T3
/-- the walker at its block, with its three rows -/
structure Wk (w0 : World) (b T1 T2 T3 n : Nat) (vN : Value) (st : Nat → Int) (nx : Nat → Nat) (lv : Nat → Int) (w : World) : Prop where
  bel : Below w0.heap.size w0 w
  blk : w.heap[b]? = some (.cells #[vN, .slice (some ⟨T1, 0, none⟩) n n, .slice (some ⟨T2, 0, none⟩) n n, .slice (some ⟨T3, 0, none⟩) n n] 49 (0, 0))
  r1 : w.rowIs T1 3 n (fun q => .int .i64 (st q))
  r2 : w.rowIs T2 3 n (fun q => .int .i64 ((nx q : Nat) : Int))
  r3 : w.rowIs T3 3 n (fun q => .int .i64 (lv q))
theorem Wk.below {w0 w w' : World} {b T1 T2 T3 n : Nat} {vN : Value} {st : Nat → Int} {nx : Nat → Nat} {lv : Nat → Int} (h : Wk w0 b T1 T2 T3 n vN st nx lv w) (hb : Below w.heap.size w w') : Wk w0 b T1 T2 T3 n vN st nx lv w' :=
  ⟨h.bel.trans (hb.mono h.bel.size), (hb.block _ (hLt h.blk)).trans h.blk, h.r1.of_block (hb.block _ h.r1.lt), h.r2.of_block (hb.block _ h.r2.lt), h.r3.of_block (hb.block _ h.r3.lt)⟩
/-- an owned row of another block has grown -/
theorem Wk.grown {w0 w w' : World} {b T1 T2 T3 n : Nat} {vN : Value} {st : Nat → Int} {nx : Nat → Nat} {lv : Nat → Int} {B : Nat} {row : Option Nat} (h : Wk w0 b T1 T2 T3 n vN st nx lv w) (hg : w.grownBy w' row) (hB : ∀ g, row = some g → B ≤ g) (h0 : w0.heap.size ≤ B) (hb : b < B) (h1 : T1 < B) (h2 : T2 < B) (h3 : T3 < B) : Wk w0 b T1 T2 T3 n vN st nx lv w' := by
  have hn : ∀ k, k < B → some k ≠ row := fun k hk e => by have := hB k e.symm; omega
  exact ⟨⟨hg.os.trans h.bel.os, hg.tape.trans h.bel.tape, hg.output.trans h.bel.output, Nat.le_trans h.bel.size hg.size, fun k hk => (hg.block k (Nat.lt_of_lt_of_le hk h.bel.size) (hn k (by omega))).trans (h.bel.block k hk)⟩,
    (hg.block _ (hLt h.blk) (hn _ hb)).trans h.blk, h.r1.of_block (hg.block _ h.r1.lt (hn _ h1)), h.r2.of_block (hg.block _ h.r2.lt (hn _ h2)), h.r3.of_block (hg.block _ h.r3.lt (hn _ h3))⟩
theorem Wk.drewN {w0 w : World} {b T1 T2 T3 n : Nat} {vN : Value} {st : Nat → Int} {nx : Nat → Nat} {lv : Nat → Int} (h : Wk w0 b T1 T2 T3 n vN st nx lv w) (k : Nat) : Wk w0 b T1 T2 T3 n vN st nx lv (w.drewN k) := ⟨belDN h.bel k, h.blk, h.r1, h.r2, h.r3⟩
theorem Wk.drew {w0 w : World} {b T1 T2 T3 n : Nat} {vN : Value} {st : Nat → Int} {nx : Nat → Nat} {lv : Nat → Int} (h : Wk w0 b T1 T2 T3 n vN st nx lv w) : Wk w0 b T1 T2 T3 n vN st nx lv w.drew := ⟨h.bel.drew, h.blk, h.r1, h.r2, h.r3⟩
theorem Wk.set1 {w0 w : World} {b T1 T2 T3 n : Nat} {vN : Value} {st : Nat → Int} {nx : Nat → Nat} {lv : Nat → Int} (h : Wk w0 b T1 T2 T3 n vN st nx lv w) (a : Ap w0.heap.size b T1 T2 T3) (i : Nat) (z : Int) : Wk w0 b T1 T2 T3 n vN (upd st i z) nx lv (w.setCell ⟨T1, i, none⟩ (.int .i64 z)) :=
  ⟨h.bel.setCell a.t1 _, (Below.heap_setCell _ _ _ _ (by show b ≠ T1; exact a.n1)).trans h.blk, (h.r1.set i _).congr (fun q _ => by unfold upd; split <;> rfl), h.r2.setOther a.n4.symm _, h.r3.setOther a.n5.symm _⟩
theorem Wk.set2 {w0 w : World} {b T1 T2 T3 n : Nat} {vN : Value} {st : Nat → Int} {nx : Nat → Nat} {lv : Nat → Int} (h : Wk w0 b T1 T2 T3 n vN st nx lv w) (a : Ap w0.heap.size b T1 T2 T3) (i z : Nat) : Wk w0 b T1 T2 T3 n vN st (upd nx i z) lv (w.setCell ⟨T2, i, none⟩ (.int .i64 (z : Int))) :=
  ⟨h.bel.setCell a.t2 _, (Below.heap_setCell _ _ _ _ (by show b ≠ T2; exact a.n2)).trans h.blk, h.r1.setOther a.n4 _, (h.r2.set i _).congr (fun q _ => by unfold upd; split <;> rfl), h.r3.setOther a.n6.symm _⟩
theorem Wk.set3 {w0 w : World} {b T1 T2 T3 n : Nat} {vN : Value} {st : Nat → Int} {nx : Nat → Nat} {lv : Nat → Int} (h : Wk w0 b T1 T2 T3 n vN st nx lv w) (a : Ap w0.heap.size b T1 T2 T3) (i : Nat) (z : Int) : Wk w0 b T1 T2 T3 n vN st nx (upd lv i z) (w.setCell ⟨T3, i, none⟩ (.int .i64 z)) :=
  ⟨h.bel.setCell a.t3 _, (Below.heap_setCell _ _ _ _ (by show b ≠ T3; exact a.n3)).trans h.blk, h.r1.setOther a.n5 _, h.r2.setOther a.n6 _, (h.r3.set i _).congr (fun q _ => by unfold upd; split <;> rfl)⟩
theorem cells4n {w : World} {b : Nat} {y0 y1 y2 y3 : Value} {t : TypeId} (h : w.heap[b]? = some (.cells #[y0, y1, y2, y3] t (0, 0))) :
    w.cell? ⟨b, 0, none⟩ = some y0 ∧ w.cell? ⟨b, 1, none⟩ = some y1 ∧ w.cell? ⟨b, 2, none⟩ = some y2 ∧ w.cell? ⟨b, 3, none⟩ = some y3 :=
  ⟨by rw [Lib.cell_of_heap h]; rfl, by rw [Lib.cell_of_heap h]; rfl, by rw [Lib.cell_of_heap h]; rfl, by rw [Lib.cell_of_heap h]; rfl⟩
set_option maxHeartbeats 1000000 in
theorem pHangs_c (x : Nd) (ia : Option Addr) (ic : Nat) (w : World) (hi : IntsAt w (.slice ia x.ins.length ic) x.ins) (h7 : x.k = 7 → 1 ≤ x.ins.length) (hq : x.ins.length ≤ 17592186044416) :
    Calls Try.prog 34 #[.agg #[.int .i64 x.k, .int .i64 x.op, .int .i64 x.wd, .slice ia x.ins.length ic, .string (S x.vl), .int .i64 x.hi, .int .i64 x.lo, .int .i64 x.tm]] w fun e w' => (∃ ao m cp, e = .returned (.slice ao m cp) ∧ Hid (m = (hangL x).length) ∧ ∀ W0, IntsAt W0 (.slice ia x.ins.length ic) x.ins → IntsAt W0 (.slice ao m cp) (hangL x)) ∧ Below w.heap.size w w' := by
  obtain ⟨k, op, wd, ins, vl, hi', lo, tm⟩ := x
  simp only at hi h7 hq ⊢
  obtain ⟨q, hql⟩ : ∃ q, q = ins.length := ⟨_, rfl⟩
  rw [← hql] at hi h7 hq ⊢
  have hic : q ≤ ic := by obtain ⟨_, c, hv, hc, _⟩ := hi; injection hv with _ _ e; subst e; omega
  have HI : Hid (IntsAt w (.slice ia q ic) ins) := hi
  have HQL : Hid (q = ins.length) := hql
  clear hi hql
  rcases (by omega : k = 8 ∨ k = 7 ∨ (k ≠ 8 ∧ k ≠ 7)) with rfl | rfl | ⟨h8, h7'⟩
  · go_enter Try.func34, Try.ntmps34
    go_wp2
    go_ret
    exact ⟨⟨none, 0, 0, rfl, by show _ = _; simp [hangL], fun W0 _ => ⟨none, 0, by simp [hangL], by simp [hangL], Or.inl (by simp [hangL])⟩⟩, belA (Below.refl _ _) _⟩
  · have h1 := h7 rfl
    have h2 : (1 : Int) ≤ (q : Int) := by omega
    have h3 : (1 : Int) ≤ (ic : Int) := by omega
    obtain ⟨g, o, c, hg⟩ := HI.out.some_ (by rw [← HQL.out]; omega)
    injection hg with e1 e2 e3
    subst e1
    clear e2 e3 h7
    go_enter Try.func34, Try.ntmps34
    go_wp2
    go_ret
    exact ⟨⟨_, 1, ic, rfl, by show _ = _; simp [hangL]; rw [← HQL.out]; omega, fun W0 h0 => by simpa [hangL] using h0.take1 h1 HQL.out⟩, belA (Below.refl _ _) _⟩
  · have g8 : (k == 8) = false := by simpa using h8
    have g7 : (k == 7) = false := by simpa using h7'
    have HH : Hid (hangL ⟨k, op, wd, ins, vl, hi', lo, tm⟩ = ins) := by show hangL ⟨k, op, wd, ins, vl, hi', lo, tm⟩ = ins; simp [hangL, h8, h7']
    clear h8 h7' h7
    go_enter Try.func34, Try.ntmps34
    go_wp2
    go_ret
    exact ⟨⟨_, q, ic, rfl, by show _ = _; rw [HH.out]; exact HQL.out, fun W0 h0 => by rw [HH.out]; exact h0⟩, belA (Below.refl _ _) _⟩
end Go.Proofs.Ytpdcmehjndhcjaa
