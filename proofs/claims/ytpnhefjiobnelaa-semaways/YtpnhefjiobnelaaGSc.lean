/- Texts SM SMb SN SO, joined: what each part says stands ahead of it. -/
import Derived.Test.YtpnhefjiobnelaaGSb
import Derived.Deep.WholeRow
/- Layer 4 of the program: an assign without a delay. -/
namespace Go.Proofs.Ytpnhefjiobnelaa
open Go.RowKit Lg
set_option linter.unusedVariables false
set_option linter.unusedSimpArgs false

/-- all blocks but two are as they were -/
structure K2 (b R : Nat) (w w' : World) : Prop where
  os : w'.os = w.os
  tape : w'.tape = w.tape
  output : w'.output = w.output
  size : w.heap.size ≤ w'.heap.size
  block : ∀ k, k < w.heap.size → k ≠ b → k ≠ R → w'.heap[k]? = w.heap[k]?
theorem K2.of {b R : Nat} {w w' : World} (h : Kp b w w') : K2 b R w w' := ⟨h.os, h.tape, h.output, h.size, fun k h1 h2 _ => h.block k h1 h2⟩
theorem K2.setR {b R j : Nat} {w w1 : World} {y : Value} (h : K2 b R w w1) : K2 b R w (w1.setCell ⟨R, j, none⟩ y) :=
  ⟨h.os, h.tape, h.output, by simp [World.setCell]; exact h.size, fun k hk hb hR => (Below.heap_setCell _ _ _ _ hR).trans (h.block k hk hb hR)⟩
theorem K2.six {b R j : Nat} {w w1 : World} {y v0 v1 v2 v3 v4 v5 : Value} (h : K2 b R w w1) : K2 b R w (((((((w1.setCell ⟨R, 1, none⟩ y).setCell ⟨R, 23, none⟩ v0).setCell ⟨R, 24, none⟩ v1).setCell ⟨R, 25, none⟩ v2).setCell ⟨R, 26, none⟩ v3).setCell ⟨R, 27, none⟩ v4).setCell ⟨R, 28, none⟩ v5) :=
  h.setR.setR.setR.setR.setR.setR.setR
/-- an assign's cells -/
def itC (nm a b c d e f p : Value) : Array Value := #[.int .i64 4, nm, .slice none 0 0, .bool false, .int .i64 0, .string ⟨#[]⟩, .string ⟨#[]⟩, .bool false, .slice none 0 0, .int .i64 0, .int .i64 0, .string ⟨#[]⟩, .string ⟨#[]⟩, .bool false, .slice none 0 0, .int .i64 0, .bool false, .int .i64 0, .string ⟨#[]⟩, .string ⟨#[]⟩, .bool false, .slice none 0 0, .int .i64 0, a, b, c, d, e, f, .int .i64 0, .string ⟨#[]⟩, .string ⟨#[]⟩, .bool false, .slice none 0 0, .int .i64 0, .int .i64 0, .string ⟨#[]⟩, .string ⟨#[]⟩, .bool false, .slice none 0 0, .int .i64 0, .string ⟨#[]⟩, .string ⟨#[]⟩, .slice none 0 0, .slice none 0 0, .slice none 0 0, .slice none 0 0, p]
structure IAt (w : World) (R : Nat) (nm a b c d e f p : Value) : Prop where
  blk : w.heap[R]? = some (.cells (itC nm a b c d e f p) 106 (0, 0))
theorem IAt.at_ {w : World} {R : Nat} {nm a b c d e f p : Value} (h : IAt w R nm a b c d e f p) : w.cell? ⟨R, 1, none⟩ = some nm ∧ w.cell? ⟨R, 23, none⟩ = some a ∧ w.cell? ⟨R, 24, none⟩ = some b ∧ w.cell? ⟨R, 25, none⟩ = some c ∧ w.cell? ⟨R, 26, none⟩ = some d ∧ w.cell? ⟨R, 27, none⟩ = some e ∧ w.cell? ⟨R, 28, none⟩ = some f ∧ (∀ j, w.frozen? ⟨R, j, none⟩ = false) ∧ R < w.heap.size := by
  refine ⟨?_, ?_, ?_, ?_, ?_, ?_, ?_, fun j => Lib.frozen_of_heap h.blk j, heap_lt h.blk⟩ <;> (rw [Lib.cell_of_heap h.blk]; rfl)
theorem hset {w : World} {R : Nat} {C : Array Value} {t : TypeId} (h : w.heap[R]? = some (.cells C t (0, 0))) (j : Nat) (y : Value) : (w.setCell ⟨R, j, none⟩ y).heap[R]? = some (.cells (C.setIfInBounds j y) t (0, 0)) := by
  simp only [World.setCell]
  rw [Array.getElem?_modify, if_pos rfl, h]; rfl
theorem IAt.put {w : World} {R : Nat} {nm a b c d e f p y v0 v1 v2 v3 v4 v5 : Value} (h : IAt w R nm a b c d e f p) : IAt (((((((w.setCell ⟨R, 1, none⟩ y).setCell ⟨R, 23, none⟩ v0).setCell ⟨R, 24, none⟩ v1).setCell ⟨R, 25, none⟩ v2).setCell ⟨R, 26, none⟩ v3).setCell ⟨R, 27, none⟩ v4).setCell ⟨R, 28, none⟩ v5) R y v0 v1 v2 v3 v4 v5 p := by
  have e := hset (hset (hset (hset (hset (hset (hset h.blk 1 y) 23 v0) 24 v1) 25 v2) 26 v3) 27 v4) 28 v5
  exact ⟨e.trans (congrArg some (congrArg (fun c => Obj.cells c 106 (0, 0)) (by kernel_rfl)))⟩
theorem IAt.keep {b R : Nat} {w w' : World} {nm a b' c d e f p : Value} (h : IAt w R nm a b' c d e f p) (hk : Kp b w w') (hb : R ≠ b) : IAt w' R nm a b' c d e f p := ⟨(hk.block R (heap_lt h.blk) hb).trans h.blk⟩
theorem Up.put7 {N : Nat → Prop} {R : Nat} {w : World} {y v0 v1 v2 v3 v4 v5 : Value} (h : ¬ N R) : Up N w (((((((w.setCell ⟨R, 1, none⟩ y).setCell ⟨R, 23, none⟩ v0).setCell ⟨R, 24, none⟩ v1).setCell ⟨R, 25, none⟩ v2).setCell ⟨R, 26, none⟩ v3).setCell ⟨R, 27, none⟩ v4).setCell ⟨R, 28, none⟩ v5) :=
  ((((((Up.set h).trans (Up.set h)).trans (Up.set h)).trans (Up.set h)).trans (Up.set h)).trans (Up.set h)).trans (Up.set h)
end Go.Proofs.Ytpnhefjiobnelaa

/- Whole structs, out of and into their blocks: steps of a walk. -/
namespace Go.Proofs.Ytpnhefjiobnelaa
open Go.RowKit Lg
set_option linter.unusedVariables false
set_option linter.unusedSimpArgs false

theorem wpl_store {P : Program} {ops : Array Oper} {rest : List Oper} {o : Oper} {a : Act} {w : World} {Q : Exit → Act → World → Prop} (hgd : o.guard = none) (t : TypeId) (p x : Operand) (ho : o.op = .store t p x) (g : Nat) (hp : a.eval p = .pointer (some ⟨g, 0, none⟩)) (c : Array Value) (hx : a.eval x = .agg c) (old : Array Value) (t' : TypeId)
    (hg : w.heap[g]? = some (.cells old t' (0, 0))) (hi : (P.info? t).map (·.size) = some c.size) (hs : old.size = c.size) (h1 : c.all (·.oneCell') = true) (h : wpList P ops Q rest (a.put o.dst undef) (w.setRow g c)) : wpList P ops Q (o :: rest) a w :=
  wpList_plain hgd fun K hK => by
    have e := run_storeVar_row w g t' t old c hg hi hs h1
    unfold Oper.wp execOp
    simp only [ho, hp, hx, Instr.storeAt, Instr.sureAddr, Sem.run_bind, Sem.run_pure, Result.andThen, e]
    exact hK _ _ h
theorem wpl_storeN {P : Program} {ops : Array Oper} {rest : List Oper} {o : Oper} {a : Act} {w : World} {Q : Exit → Act → World → Prop} (hgd : o.guard = none) (t : TypeId) (p x : Operand) (ho : o.op = .store t p x) (g : Nat) (hgw : g = w.heap.size) (hp : a.eval p = .pointer (some ⟨g, 0, none⟩)) (c : Array Value) (hx : a.eval x = .agg c) (old : Array Value) (t' : TypeId)
    (hi : (P.info? t).map (·.size) = some c.size) (hs : old.size = c.size) (h1 : c.all (·.oneCell') = true) (h : wpList P ops Q rest (a.put o.dst undef) (w.alloc (.cells c t'))) : wpList P ops Q (o :: rest) a (w.alloc (.cells old t')) := by
  subst hgw
  refine wpl_store hgd t p x ho w.heap.size hp c hx old t' (heap_alloc_last w _) hi hs h1 ?_
  rw [World.setRow_alloc_new]; exact h
theorem wpl_load {P : Program} {ops : Array Oper} {rest : List Oper} {o : Oper} {a : Act} {w : World} {Q : Exit → Act → World → Prop} (hgd : o.guard = none) (t : TypeId) (p : Operand) (ho : o.op = .load t p) (g : Nat) (hp : a.eval p = .pointer (some ⟨g, 0, none⟩)) (c : Array Value) (t' : TypeId) (d : TypeDesc)
    (hg : w.heap[g]? = some (.cells c t' (0, 0))) (hu : P.underlying t = some d) (hd : (match d with | .struct _ | .array _ _ => true | _ => false) = true) (hi : (P.info? t).map (·.size) = some c.size) (h : wpList P ops Q rest (a.put o.dst (.agg c)) w) : wpList P ops Q (o :: rest) a w :=
  wpList_plain hgd fun K hK => by
    have e := run_loadVar_row w g t' t c (0, 0) d hg hu hd hi
    unfold Oper.wp execOp
    simp only [ho, hp, Instr.loadAt, Instr.sureAddr, Sem.run_bind, Sem.run_pure, Result.andThen, e]
    exact hK _ _ h
theorem wpl_build {P : Program} {ops : Array Oper} {rest : List Oper} {o : Oper} {a : Act} {w : World} {Q : Exit → Act → World → Prop} (hgd : o.guard = none) (t : TypeId) (ps : Array (Nat × Operand)) (ho : o.op = .build t ps) (qs : Array (Nat × Value)) (hq : (ps.map fun (i, x) => (i, a.eval x)) = qs) (v : Value) (hv : (Instr.build t qs).run P w = .ok v w)
    (h : wpList P ops Q rest (a.put o.dst v) w) : wpList P ops Q (o :: rest) a w :=
  wpList_plain hgd fun K hK => by
    unfold Oper.wp execOp
    simp only [ho, hq, Sem.run_bind, Sem.run_pure, Result.andThen, hv]
    exact hK _ _ h
theorem results_cell {P : Program} {fn : Func} {tmps : Array Value} {w : World} {r : Nat} {t : TypeId} (hr : fn.results = #[.cell r t]) (g : Nat) (hg : tmps.getD r undef = .pointer (some ⟨g, 0, none⟩)) (c : Array Value) (t' : TypeId) (d : TypeDesc)
    (hb : w.heap[g]? = some (.cells c t' (0, 0))) (hu : P.underlying t = some d) (hd : (match d with | .struct _ | .array _ _ => true | _ => false) = true) (hi : (P.info? t).map (·.size) = some c.size) : (results fn tmps).run P w = .ok (.agg c) w := by
  have e := run_loadVar_row w g t' t c (0, 0) d hb hu hd hi
  unfold results
  rw [hr]
  rw [Array.getD_eq_getD_getElem?] at hg
  simp [hg, e, asAddr]
theorem setRow_at {w : World} {R : Nat} {C c : Array Value} {t : TypeId} (h : w.heap[R]? = some (.cells C t (0, 0))) : (w.setRow R c).heap[R]? = some (.cells c t (0, 0)) := by
  simp only [World.setRow]
  rw [Array.getElem?_modify, if_pos rfl, h]; rfl
theorem setRow_ne {w : World} {R j : Nat} {c : Array Value} (h : j ≠ R) : (w.setRow R c).heap[j]? = w.heap[j]? := by
  simp only [World.setRow]
  rw [Array.getElem?_modify, if_neg (fun e => h e.symm)]
theorem setRow_size {w : World} {R : Nat} {c : Array Value} : (w.setRow R c).heap.size = w.heap.size := by simp [World.setRow]
theorem Kp.row {b R : Nat} {w w1 : World} {c : Array Value} (h : Kp b w w1) (hR : w.heap.size ≤ R) : Kp b w (w1.setRow R c) :=
  ⟨h.os, h.tape, h.output, by rw [setRow_size]; exact h.size, fun k hk hb => (setRow_ne (show k ≠ R by omega)).trans (h.block k hk hb)⟩
theorem Up.row {N : Nat → Prop} {R : Nat} {w : World} {c : Array Value} (h : ¬ N R) : Up N w (w.setRow R c) := ⟨by rw [setRow_size]; exact Nat.le_refl _, fun k _ hb => setRow_ne (show k ≠ R from fun e => h (e ▸ hb))⟩
end Go.Proofs.Ytpnhefjiobnelaa

/- Layer 4 of the program: an item that is an assign. -/
namespace Go.Proofs.Ytpnhefjiobnelaa
open Go.RowKit Lg
set_option linter.unusedVariables false
set_option linter.unusedSimpArgs false

theorem IAt.set47 {w : World} {R : Nat} {nm a b c d e f p y : Value} (h : IAt w R nm a b c d e f p) : IAt (w.setCell ⟨R, 47, none⟩ y) R nm a b c d e f y := by
  exact ⟨(hset h.blk 47 y).trans (congrArg some (congrArg (fun c => Obj.cells c 106 (0, 0)) (by kernel_rfl)))⟩
theorem IAt.at2 {w : World} {R : Nat} {nm a b c d e f p : Value} (h : IAt w R nm a b c d e f p) : w.cell? ⟨R, 0, none⟩ = some (.int .i64 4) ∧ w.cell? ⟨R, 47, none⟩ = some p ∧ (∀ j, w.frozen? ⟨R, j, none⟩ = false) ∧ R < w.heap.size := by
  refine ⟨?_, ?_, fun j => Lib.frozen_of_heap h.blk j, heap_lt h.blk⟩ <;> (rw [Lib.cell_of_heap h.blk]; rfl)
theorem build_item (w : World) : (Instr.build 106 #[(0, .int .i64 4)]).run Try.prog w = .ok (.agg (itC (.string ⟨#[]⟩) (.int .i64 0) (.string ⟨#[]⟩) (.string ⟨#[]⟩) (.bool false) (.slice none 0 0) (.int .i64 0) (.int .i64 0))) w := by kernel_rfl
theorem item_size : (Try.prog.info? 106).map (·.size) = some 48 := by kernel_rfl
theorem itC_size (nm a b c d e f p : Value) : (itC nm a b c d e f p).size = 48 := rfl
theorem itC_0 (nm a b c d e f p : Value) (h : 0 < (itC nm a b c d e f p).size) : (itC nm a b c d e f p)[0]'h = .int .i64 4 := rfl
theorem itC_one (sn sn2 sv : ByteArray) (yo : Int) (yp : Bool) (ao : Option Addr) (n cp : Nat) (p2 p : Int) : (itC (.string sn) (.int .i64 yo) (.string sn2) (.string sv) (.bool yp) (.slice ao n cp) (.int .i64 p2) (.int .i64 p)).all (·.oneCell') = true := by
  rw [← Array.all_toList]; rfl
theorem store_item0 (w : World) (nm a b c d e f p : Value) (h : (itC nm a b c d e f p).all (·.oneCell') = true) : (storeCells ⟨w.heap.size, 0, none⟩ (itC nm a b c d e f p).toList).run Try.prog (w.alloc (.cells #[.int .i64 0, .string ⟨#[]⟩, .slice none 0 0, .bool false, .int .i64 0, .string ⟨#[]⟩, .string ⟨#[]⟩, .bool false, .slice none 0 0, .int .i64 0, .int .i64 0, .string ⟨#[]⟩, .string ⟨#[]⟩, .bool false, .slice none 0 0, .int .i64 0, .bool false, .int .i64 0, .string ⟨#[]⟩, .string ⟨#[]⟩, .bool false, .slice none 0 0, .int .i64 0, .int .i64 0, .string ⟨#[]⟩, .string ⟨#[]⟩, .bool false, .slice none 0 0, .int .i64 0, .int .i64 0, .string ⟨#[]⟩, .string ⟨#[]⟩, .bool false, .slice none 0 0, .int .i64 0, .int .i64 0, .string ⟨#[]⟩, .string ⟨#[]⟩, .bool false, .slice none 0 0, .int .i64 0, .string ⟨#[]⟩, .string ⟨#[]⟩, .slice none 0 0, .slice none 0 0, .slice none 0 0, .slice none 0 0, .int .i64 0] 106)) = .ok () (w.alloc (.cells (itC nm a b c d e f p) 106)) :=
  run_storeCells_new w _ _ _ item_size rfl h
theorem load_item {w : World} {R : Nat} {nm a b c d e f p : Value} (h : IAt w R nm a b c d e f p) : (loadCellsFrom ⟨R, 0, none⟩ 0 48 #[]).run Try.prog w = .ok (itC nm a b c d e f p) w := by
  have := run_loadCells_list (P := Try.prog) w ⟨R, 0, none⟩ (itC nm a b c d e f p).toList (fun j v hv => by
    have hadd : (⟨R, 0, none⟩ : Addr).add j = ⟨R, j, none⟩ := by unfold Addr.add; split <;> simp_all
    rw [hadd, Lib.cell_of_heap h.blk]; simpa using hv)
  simpa [loadCells, itC_size] using this
theorem store_row {w : World} {R : Nat} {old c : Array Value} {t : TypeId} (h : w.heap[R]? = some (.cells old t (0, 0))) (hs : old.size = c.size) (h1 : c.all (·.oneCell') = true) : (storeCells ⟨R, 0, none⟩ c.toList).run Try.prog w = .ok () (w.setRow R c) := by
  have := run_storeCells_from (P := Try.prog) R t c.toList 0 old w h (by simp; omega) (fun v hv => (Array.all_eq_true_iff_forall_mem.1 h1) v (by simpa using hv))
  simpa using this
theorem K2.kp {b R : Nat} {w W w' : World} (h : Kp b w W) (k : K2 b R W w') (hR : w.heap.size ≤ R) : Kp b w w' :=
  ⟨k.os.trans h.os, k.tape.trans h.tape, k.output.trans h.output, Nat.le_trans h.size k.size, fun i hi hb => (k.block i (Nat.lt_of_lt_of_le hi h.size) hb (by omega)).trans (h.block i hi hb)⟩
end Go.Proofs.Ytpnhefjiobnelaa

/- Layer 4 of the program: items: one assign; an assign whose end lacks. -/
namespace Go.Proofs.Ytpnhefjiobnelaa
open Go.RowKit Lg
set_option linter.unusedVariables false
set_option linter.unusedSimpArgs false

theorem build_its (w : World) (nm a b c d e f p : Value) : (Instr.buildSlice 57 1 #[(0, .agg (itC nm a b c d e f p))]).run Try.prog w = .ok (.slice (some ⟨w.heap.size, 0, none⟩) 1 1) (w.alloc (.cells (itC nm a b c d e f p) 106)) := by kernel_rfl
theorem infoItem : ∃ i, Try.prog.info? 106 = some i ∧ i.zero = some (.agg #[.int .i64 0, .string .empty, .slice none 0 0, .bool false, .int .i64 0, .string .empty, .string .empty, .bool false, .slice none 0 0, .int .i64 0, .int .i64 0, .string .empty, .string .empty, .bool false, .slice none 0 0, .int .i64 0, .bool false, .int .i64 0, .string .empty, .string .empty, .bool false, .slice none 0 0, .int .i64 0, .int .i64 0, .string .empty, .string .empty, .bool false, .slice none 0 0, .int .i64 0, .int .i64 0, .string .empty, .string .empty, .bool false, .slice none 0 0, .int .i64 0, .int .i64 0, .string .empty, .string .empty, .bool false, .slice none 0 0, .int .i64 0, .string .empty, .string .empty, .slice none 0 0, .slice none 0 0, .slice none 0 0, .slice none 0 0, .int .i64 0]) ∧ i.size = 48 ∧ i.bytes = 680 := info_parts (by kernel_rfl)
theorem wpl_bslice {P : Program} {ops : Array Oper} {rest : List Oper} {o : Oper} {a : Act} {w : World} {Q : Exit → Act → World → Prop} (hgd : o.guard = none) (t : TypeId) (n : Nat) (ps : Array (Nat × Operand)) (ho : o.op = .buildSlice t n ps) (qs : Array (Nat × Value)) (hq : (ps.map fun (i, x) => (i, a.eval x)) = qs) (v : Value) (w' : World) (hv : (Instr.buildSlice t n qs).run P w = .ok v w')
    (h : wpList P ops Q rest (a.put o.dst v) w') : wpList P ops Q (o :: rest) a w :=
  wpList_plain hgd fun K hK => by
    unfold Oper.wp execOp
    simp only [ho, hq, Sem.run_bind, Sem.run_pure, Result.andThen, hv]
    exact hK _ _ h
theorem Kp.grown {b : Nat} {w w' : World} (h : w.grownBy w' none) : Kp b w w' := ⟨h.os, h.tape, h.output, h.size, fun k hk _ => h.block k hk (by simp)⟩
/-- one item that is an assign, and where it lies -/
def ItsAt (w : World) (B : Nat) (v : Value) (nm : Value) (x : X) (p : Nat) : Prop := ∃ gi cp ao n c, v = .slice (some ⟨gi, 0, none⟩) 1 cp ∧ B ≤ gi ∧ gi < w.heap.size ∧ (∀ j u, (itC nm (.int .i64 x.op) (.string (S x.nm)) (.string (S x.vl)) (.bool x.pl) (.slice ao n c) (.int .i64 x.p) (.int .i64 p))[j]? = some u → w.cell? ⟨gi, j, none⟩ = some u) ∧ KAt w (Ge B) x.kids (.slice ao n c)
theorem ItsAt.keep {w w' : World} {B b : Nat} {v nm : Value} {x : X} {p : Nat} (h : ItsAt w B v nm x p) (hk : Kp b w w') (hb : b < B) : ItsAt w' B v nm x p := by
  obtain ⟨gi, cp, ao, n, c, h1, h2, h3, h4, h5⟩ := h
  exact ⟨gi, cp, ao, n, c, h1, h2, Nat.lt_of_lt_of_le h3 hk.size, fun j u hu => by rw [World.cell?_of_block (w := w) (a := ⟨gi, j, none⟩) (hk.block gi h3 (by omega))]; exact h4 j u hu, h5.keep (Up.of hk (by unfold Ge; omega))⟩
theorem new_row {w : World} {c : Array Value} {t : TypeId} (n : Nat) (hn : w.heap.size = n) (j : Nat) (u : Value) (h : c.toList[j]? = some u) : (w.alloc (.cells c t)).cell? ((⟨n, 0, none⟩ : Addr).add j) = some u := by
  subst hn
  rw [show (⟨w.heap.size, 0, none⟩ : Addr).add j = ⟨w.heap.size, j, none⟩ by unfold Addr.add; split <;> simp_all, World.cell?_alloc_at _ _ _ _ rfl]
  simpa using h
theorem all_of {c : Array Value} (h : c.all (·.oneCell') = true) : ∀ u ∈ c.toList, u.oneCell' = true := fun u hu => (Array.all_eq_true_iff_forall_mem.1 h) u (by simpa using hu)
theorem ItsAt.of {w : World} {B : Nat} {v nm : Value} {x : X} {p n c : Nat} {ao : Option Addr} (ho : w.ownsRow B 106 48 v (0 + 1) ([] ++ (itC nm (.int .i64 x.op) (.string (S x.nm)) (.string (S x.vl)) (.bool x.pl) (.slice ao n c) (.int .i64 x.p) (.int .i64 p)).toList)) (hk : KAt w (Ge B) x.kids (.slice ao n c)) : ItsAt w B v nm x p := by
  have hc := fun g hg => World.ownsRow.cells ho (g := g) hg
  rcases ho.2 with ⟨_, h⟩ | ⟨g, cp, cur, rfl, hB, hg, _⟩
  · omega
  · refine ⟨g, cp, ao, n, c, rfl, hB, heap_lt hg, fun j u hu => ?_, hk⟩
    have := hc g rfl j u (by simpa using hu)
    rwa [show (⟨g, 0, none⟩ : Addr).add j = ⟨g, j, none⟩ by unfold Addr.add; split <;> simp_all] at this
end Go.Proofs.Ytpnhefjiobnelaa
