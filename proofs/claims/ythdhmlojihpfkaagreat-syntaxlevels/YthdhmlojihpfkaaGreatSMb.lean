/- Whole structs, out of and into their blocks: steps of a walk. -/
import Derived.Test.YthdhmlojihpfkaaGreatSM
import Derived.Deep.WholeRow
namespace Go.Proofs.YthdhmlojihpfkaaGreat
open Go.RowKit Lg
set_option linter.unusedVariables false
set_option linter.unusedSimpArgs false

theorem wpl_store {P : Program} {ops : Array Oper} {rest : List Oper} {o : Oper} {a : Act} {w : World} {Q : Exit → Act → World → Prop} (hgd : o.guard = none) (t : TypeId) (p x : Operand) (ho : o.op = .store t p x) (g : Nat) (hp : a.eval p = .pointer (some ⟨g, 0, none⟩)) (c : Array Value) (hx : a.eval x = .agg c) (old : Array Value) (t' : TypeId)
    (hg : w.heap[g]? = some (.cells old t' (0, 0))) (hi : (P.info? t).map (·.size) = some c.size) (hs : old.size = c.size) (h1 : c.all (·.oneCell') = true) (h : wpList P ops Q rest (a.put o.dst undef) (w.setRow g c)) : wpList P ops Q (o :: rest) a w :=
  wpList_plain hgd fun K hK => by
    have e := run_storeVar_row w g t' t old c hg hi hs h1
    unfold Oper.wp execOp
    simp only [ho, hp, hx, Instr.storeAt, Instr.sureAddr, Sem.run_bind, Sem.run_pure, Result.andThen, e]
    exact hK _ _ h
theorem wpl_storeN {P : Program} {ops : Array Oper} {rest : List Oper} {o : Oper} {a : Act} {w : World} {Q : Exit → Act → World → Prop} (hgd : o.guard = none) (t : TypeId) (p x : Operand) (ho : o.op = .store t p x) (g : Nat) (hgw : g = w.heap.size) (hp : a.eval p = .pointer (some ⟨g, 0, none⟩)) (c : Array Value) (hx : a.eval x = .agg c) (old : Array Value) (t' : TypeId)
    (hi : (P.info? t).map (·.size) = some c.size) (hs : old.size = c.size) (h1 : c.all (·.oneCell') = true) (h : wpList P ops Q rest (a.put o.dst undef) (w.alloc (.cells c t'))) : wpList P ops Q (o :: rest) a (w.alloc (.cells old t')) := by
  subst hgw
  refine wpl_store hgd t p x ho w.heap.size hp c hx old t' (heap_alloc_last w _) hi hs h1 ?_
  rw [World.setRow_alloc_new]; exact h
theorem wpl_load {P : Program} {ops : Array Oper} {rest : List Oper} {o : Oper} {a : Act} {w : World} {Q : Exit → Act → World → Prop} (hgd : o.guard = none) (t : TypeId) (p : Operand) (ho : o.op = .load t p) (g : Nat) (hp : a.eval p = .pointer (some ⟨g, 0, none⟩)) (c : Array Value) (t' : TypeId) (d : TypeDesc)
    (hg : w.heap[g]? = some (.cells c t' (0, 0))) (hu : P.underlying t = some d) (hd : (match d with | .struct _ | .array _ _ => true | _ => false) = true) (hi : (P.info? t).map (·.size) = some c.size) (h : wpList P ops Q rest (a.put o.dst (.agg c)) w) : wpList P ops Q (o :: rest) a w :=
  wpList_plain hgd fun K hK => by
    have e := run_loadVar_row w g t' t c (0, 0) d hg hu hd hi
    unfold Oper.wp execOp
    simp only [ho, hp, Instr.loadAt, Instr.sureAddr, Sem.run_bind, Sem.run_pure, Result.andThen, e]
    exact hK _ _ h
theorem wpl_build {P : Program} {ops : Array Oper} {rest : List Oper} {o : Oper} {a : Act} {w : World} {Q : Exit → Act → World → Prop} (hgd : o.guard = none) (t : TypeId) (ps : Array (Nat × Operand)) (ho : o.op = .build t ps) (qs : Array (Nat × Value)) (hq : (ps.map fun (i, x) => (i, a.eval x)) = qs) (v : Value) (hv : (Instr.build t qs).run P w = .ok v w)
    (h : wpList P ops Q rest (a.put o.dst v) w) : wpList P ops Q (o :: rest) a w :=
  wpList_plain hgd fun K hK => by
    unfold Oper.wp execOp
    simp only [ho, hq, Sem.run_bind, Sem.run_pure, Result.andThen, hv]
    exact hK _ _ h
theorem results_cell {P : Program} {fn : Func} {tmps : Array Value} {w : World} {r : Nat} {t : TypeId} (hr : fn.results = #[.cell r t]) (g : Nat) (hg : tmps.getD r undef = .pointer (some ⟨g, 0, none⟩)) (c : Array Value) (t' : TypeId) (d : TypeDesc)
    (hb : w.heap[g]? = some (.cells c t' (0, 0))) (hu : P.underlying t = some d) (hd : (match d with | .struct _ | .array _ _ => true | _ => false) = true) (hi : (P.info? t).map (·.size) = some c.size) : (results fn tmps).run P w = .ok (.agg c) w := by
  have e := run_loadVar_row w g t' t c (0, 0) d hb hu hd hi
  unfold results
  rw [hr]
  rw [Array.getD_eq_getD_getElem?] at hg
  simp [hg, e, asAddr]
theorem setRow_at {w : World} {R : Nat} {C c : Array Value} {t : TypeId} (h : w.heap[R]? = some (.cells C t (0, 0))) : (w.setRow R c).heap[R]? = some (.cells c t (0, 0)) := by
  simp only [World.setRow]
  rw [Array.getElem?_modify, if_pos rfl, h]; rfl
theorem setRow_ne {w : World} {R j : Nat} {c : Array Value} (h : j ≠ R) : (w.setRow R c).heap[j]? = w.heap[j]? := by
  simp only [World.setRow]
  rw [Array.getElem?_modify, if_neg (fun e => h e.symm)]
theorem setRow_size {w : World} {R : Nat} {c : Array Value} : (w.setRow R c).heap.size = w.heap.size := by simp [World.setRow]
theorem St.row {b g cap k R : Nat} {l : List Tok} {w : World} {c : Array Value} (h : St b g cap l k w) (h1 : R ≠ b) (h2 : R ≠ g) : St b g cap l k (w.setRow R c) :=
  ⟨(setRow_ne (Ne.symm h1)).trans h.blk, h.ne, by rw [setRow_size]; exact h.lt, h.cap, h.len, h.k, h.last, fun i u hu => by rw [World.cell?_of_block (w := w) (a := ⟨g, i, none⟩) (setRow_ne (Ne.symm h2))]; exact h.src i u hu⟩
theorem Kp.row {b R : Nat} {w w1 : World} {c : Array Value} (h : Kp b w w1) (hR : w.heap.size ≤ R) : Kp b w (w1.setRow R c) :=
  ⟨h.os, h.tape, h.output, by rw [setRow_size]; exact h.size, fun k hk hb => (setRow_ne (show k ≠ R by omega)).trans (h.block k hk hb)⟩
theorem Up.row {N : Nat → Prop} {R : Nat} {w : World} {c : Array Value} (h : ¬ N R) : Up N w (w.setRow R c) := ⟨by rw [setRow_size]; exact Nat.le_refl _, fun k _ hb => setRow_ne (show k ≠ R from fun e => h (e ▸ hb))⟩
end Go.Proofs.YthdhmlojihpfkaaGreat
