/- Texts SP SQ SR SRb SS, joined: what each part says stands ahead of it. -/
import Derived.Test.YtpnhefjiobnelaaGSc
/- Layer 4 of the program: a port without a range. -/
namespace Go.Proofs.Ytpnhefjiobnelaa
open Go.RowKit Lg
set_option linter.unusedVariables false
set_option linter.unusedSimpArgs false

theorem six6 {w w1 : World} {R T : Nat} {v0 v1 v2 v3 v4 v5 u0 u1 u2 u3 u4 u5 : Value} (h : Below w.heap.size w w1) (hR : w.heap.size ≤ R) (hT : w.heap.size ≤ T) :
    Below w.heap.size w ((((((((((((w1.setCell ⟨R, 0, none⟩ v0).setCell ⟨R, 1, none⟩ v1).setCell ⟨R, 2, none⟩ v2).setCell ⟨R, 3, none⟩ v3).setCell ⟨R, 4, none⟩ v4).setCell ⟨R, 5, none⟩ v5).setCell ⟨T, 0, none⟩ u0).setCell ⟨T, 1, none⟩ u1).setCell ⟨T, 2, none⟩ u2).setCell ⟨T, 3, none⟩ u3).setCell ⟨T, 4, none⟩ u4).setCell ⟨T, 5, none⟩ u5) :=
  (((((((((((h.setCell hR _).setCell hR _).setCell hR _).setCell hR _).setCell hR _).setCell hR _).setCell hT _).setCell hT _).setCell hT _).setCell hT _).setCell hT _).setCell hT _
end Go.Proofs.Ytpnhefjiobnelaa

/- Layer 4 of the program: a port without a range. -/
namespace Go.Proofs.Ytpnhefjiobnelaa
open Go.RowKit Lg
set_option linter.unusedVariables false
set_option linter.unusedSimpArgs false

/-- one block alone has changed -/
structure Oth (R : Nat) (w w' : World) : Prop where
  os : w'.os = w.os
  tape : w'.tape = w.tape
  output : w'.output = w.output
  size : w'.heap.size = w.heap.size
  block : ∀ k, k ≠ R → w'.heap[k]? = w.heap[k]?
theorem Oth.refl (R : Nat) (w : World) : Oth R w w := ⟨rfl, rfl, rfl, rfl, fun _ _ => rfl⟩
theorem Oth.set {R j : Nat} {w w' : World} {y : Value} (h : Oth R w w') : Oth R w (w'.setCell ⟨R, j, none⟩ y) := ⟨h.os, h.tape, h.output, by simp [World.setCell]; exact h.size, fun k hk => (Below.heap_setCell _ _ _ _ hk).trans (h.block k hk)⟩
theorem Kp.oth {b R : Nat} {w w1 w2 : World} (h : Kp b w w1) (ho : Oth R w1 w2) (hR : w.heap.size ≤ R) : Kp b w w2 :=
  ⟨ho.os.trans h.os, ho.tape.trans h.tape, ho.output.trans h.output, by rw [ho.size]; exact h.size, fun k hk hb => (ho.block k (by omega)).trans (h.block k hk hb)⟩
/-- a port's cells, without a range -/
def poC (o r nm p : Value) : Array Value := #[o, r, .bool false, .int .i64 0, .string ⟨#[]⟩, .string ⟨#[]⟩, .bool false, .slice none 0 0, .int .i64 0, .int .i64 0, .string ⟨#[]⟩, .string ⟨#[]⟩, .bool false, .slice none 0 0, .int .i64 0, nm, p]
structure PAt (w : World) (R : Nat) (o r nm p : Value) : Prop where
  blk : w.heap[R]? = some (.cells (poC o r nm p) 83 (0, 0))
theorem PAt.at_ {w : World} {R : Nat} {o r nm p : Value} (h : PAt w R o r nm p) : w.cell? ⟨R, 0, none⟩ = some (o) ∧ w.cell? ⟨R, 1, none⟩ = some (r) ∧ w.cell? ⟨R, 2, none⟩ = some (.bool false) ∧ w.cell? ⟨R, 3, none⟩ = some (.int .i64 0) ∧ w.cell? ⟨R, 4, none⟩ = some (.string ⟨#[]⟩) ∧ w.cell? ⟨R, 5, none⟩ = some (.string ⟨#[]⟩) ∧ w.cell? ⟨R, 6, none⟩ = some (.bool false) ∧ w.cell? ⟨R, 7, none⟩ = some (.slice none 0 0) ∧ w.cell? ⟨R, 8, none⟩ = some (.int .i64 0) ∧ w.cell? ⟨R, 9, none⟩ = some (.int .i64 0) ∧ w.cell? ⟨R, 10, none⟩ = some (.string ⟨#[]⟩) ∧ w.cell? ⟨R, 11, none⟩ = some (.string ⟨#[]⟩) ∧ w.cell? ⟨R, 12, none⟩ = some (.bool false) ∧ w.cell? ⟨R, 13, none⟩ = some (.slice none 0 0) ∧ w.cell? ⟨R, 14, none⟩ = some (.int .i64 0) ∧ w.cell? ⟨R, 15, none⟩ = some (nm) ∧ w.cell? ⟨R, 16, none⟩ = some (p) ∧ (∀ j, w.frozen? ⟨R, j, none⟩ = false) ∧ R < w.heap.size := by
  refine ⟨?_, ?_, ?_, ?_, ?_, ?_, ?_, ?_, ?_, ?_, ?_, ?_, ?_, ?_, ?_, ?_, ?_, fun j => Lib.frozen_of_heap h.blk j, heap_lt h.blk⟩ <;> (rw [Lib.cell_of_heap h.blk]; rfl)
theorem PAt.keep {b R : Nat} {w w' : World} {o r nm p : Value} (h : PAt w R o r nm p) (hk : Kp b w w') (hb : R ≠ b) : PAt w' R o r nm p := ⟨(hk.block R (heap_lt h.blk) hb).trans h.blk⟩
theorem oth13 {R : Nat} {w : World} : Oth R w (((((((((((((w.setCell ⟨R, 2, none⟩ (.bool false)).setCell ⟨R, 3, none⟩ (.int .i64 0)).setCell ⟨R, 4, none⟩ (.string ⟨#[]⟩)).setCell ⟨R, 5, none⟩ (.string ⟨#[]⟩)).setCell ⟨R, 6, none⟩ (.bool false)).setCell ⟨R, 7, none⟩ (.slice none 0 0)).setCell ⟨R, 8, none⟩ (.int .i64 0)).setCell ⟨R, 9, none⟩ (.int .i64 0)).setCell ⟨R, 10, none⟩ (.string ⟨#[]⟩)).setCell ⟨R, 11, none⟩ (.string ⟨#[]⟩)).setCell ⟨R, 12, none⟩ (.bool false)).setCell ⟨R, 13, none⟩ (.slice none 0 0)).setCell ⟨R, 14, none⟩ (.int .i64 0)) :=
  Oth.set (Oth.set (Oth.set (Oth.set (Oth.set (Oth.set (Oth.set (Oth.set (Oth.set (Oth.set (Oth.set (Oth.set (Oth.set (Oth.refl _ _)))))))))))))
theorem PAt.put13 {w : World} {R : Nat} {o r nm p : Value} (h : PAt w R o r nm p) : PAt (((((((((((((w.setCell ⟨R, 2, none⟩ (.bool false)).setCell ⟨R, 3, none⟩ (.int .i64 0)).setCell ⟨R, 4, none⟩ (.string ⟨#[]⟩)).setCell ⟨R, 5, none⟩ (.string ⟨#[]⟩)).setCell ⟨R, 6, none⟩ (.bool false)).setCell ⟨R, 7, none⟩ (.slice none 0 0)).setCell ⟨R, 8, none⟩ (.int .i64 0)).setCell ⟨R, 9, none⟩ (.int .i64 0)).setCell ⟨R, 10, none⟩ (.string ⟨#[]⟩)).setCell ⟨R, 11, none⟩ (.string ⟨#[]⟩)).setCell ⟨R, 12, none⟩ (.bool false)).setCell ⟨R, 13, none⟩ (.slice none 0 0)).setCell ⟨R, 14, none⟩ (.int .i64 0)) R o r nm p := by
  have e := (hset (hset (hset (hset (hset (hset (hset (hset (hset (hset (hset (hset (hset h.blk 2 (.bool false)) 3 (.int .i64 0)) 4 (.string ⟨#[]⟩)) 5 (.string ⟨#[]⟩)) 6 (.bool false)) 7 (.slice none 0 0)) 8 (.int .i64 0)) 9 (.int .i64 0)) 10 (.string ⟨#[]⟩)) 11 (.string ⟨#[]⟩)) 12 (.bool false)) 13 (.slice none 0 0)) 14 (.int .i64 0))
  exact ⟨e.trans (congrArg some (congrArg (fun c => Obj.cells c 83 (0, 0)) (by kernel_rfl)))⟩
theorem PAt.set0 {w : World} {R : Nat} {o r nm p y : Value} (h : PAt w R o r nm p) : PAt (w.setCell ⟨R, 0, none⟩ y) R y r nm p := ⟨(hset h.blk 0 y).trans (congrArg some (congrArg (fun c => Obj.cells c 83 (0, 0)) (by kernel_rfl)))⟩
theorem PAt.set1 {w : World} {R : Nat} {o r nm p y : Value} (h : PAt w R o r nm p) : PAt (w.setCell ⟨R, 1, none⟩ y) R o y nm p := ⟨(hset h.blk 1 y).trans (congrArg some (congrArg (fun c => Obj.cells c 83 (0, 0)) (by kernel_rfl)))⟩
theorem PAt.set15 {w : World} {R : Nat} {o r nm p y : Value} (h : PAt w R o r nm p) : PAt (w.setCell ⟨R, 15, none⟩ y) R o r y p := ⟨(hset h.blk 15 y).trans (congrArg some (congrArg (fun c => Obj.cells c 83 (0, 0)) (by kernel_rfl)))⟩
theorem build_port (w : World) (p0 : Int) : (Instr.build 83 #[(6, .int .i64 p0)]).run Try.prog w = .ok (.agg (poC (.bool false) (.bool false) (.string ⟨#[]⟩) (.int .i64 p0))) w := by kernel_rfl
theorem port_size : (Try.prog.info? 83).map (·.size) = some 17 := by kernel_rfl
theorem poC_one (o r : Bool) (nm : ByteArray) (p : Int) : (poC (.bool o) (.bool r) (.string nm) (.int .i64 p)).all (·.oneCell') = true := by
  rw [← Array.all_toList]; rfl
theorem Oth.row {R : Nat} {w : World} {c : Array Value} : Oth R w (w.setRow R c) := ⟨rfl, rfl, rfl, setRow_size, fun k hk => setRow_ne hk⟩
/-- a store into a block that is known: some cells of it change -/
theorem wpl_storeO {P : Program} {ops : Array Oper} {rest : List Oper} {o : Oper} {a : Act} {w : World} {Q : Exit → Act → World → Prop} (hgd : o.guard = none) (t : TypeId) (p x : Operand) (ho : o.op = .store t p x) (g off : Nat) (hp : a.eval p = .pointer (some ⟨g, off, none⟩)) (v : Value) (hx : a.eval x = v) (old : Array Value) (t' : TypeId)
    (hg : w.heap[g]? = some (.cells old t' (0, 0))) (hi : (P.info? t).map (·.size) = some v.cells.size) (hb : off + v.cells.size ≤ old.size) (h1 : ∀ u ∈ v.cells.toList, u.oneCell' = true) (new : Array Value) (hnew : (old.toList.take off ++ v.cells.toList ++ old.toList.drop (off + v.cells.toList.length)).toArray = new)
    (h : ∀ w', Oth g w w' → w'.heap[g]? = some (.cells new t' (0, 0)) → wpList P ops Q rest (a.put o.dst undef) w') : wpList P ops Q (o :: rest) a w :=
  wpList_plain hgd fun K hK => by
    have e := run_storeCells_at (P := P) g off t' v.cells.toList 0 old w hg (by simpa using hb) h1
    simp only [Nat.add_zero, hnew] at e
    have e2 : (storeVar t ⟨g, off, none⟩ v).run P w = .ok () (w.setRow g new) := by
      cases hq : P.info? t with
      | none => simp [hq] at hi
      | some i =>
        have hs : v.cells.size = i.size := by simp [hq] at hi; omega
        simpa [storeVar, sizeOf, typeInfo, hq, hs] using e
    unfold Oper.wp execOp
    simp only [ho, hp, hx, Instr.storeAt, Instr.sureAddr, Sem.run_bind, Sem.run_pure, Result.andThen, e2]
    exact hK _ _ (h _ Oth.row (setRow_at hg))
theorem bool_size : (Try.prog.info? 4).map (·.size) = some 1 := by kernel_rfl
theorem expr_size : (Try.prog.info? 81).map (·.size) = some 6 := by kernel_rfl
theorem string_size : (Try.prog.info? 9).map (·.size) = some 1 := by kernel_rfl
def zE : Value := .agg #[.int .i64 0, .string ⟨#[]⟩, .string ⟨#[]⟩, .bool false, .slice none 0 0, .int .i64 0]
theorem zE_one : ∀ u ∈ (.agg #[.int .i64 0, .string ⟨#[]⟩, .string ⟨#[]⟩, .bool false, .slice none 0 0, .int .i64 0] : Value).cells.toList, u.oneCell' = true := by
  intro u hu; simp [Value.cells] at hu; rcases hu with rfl | rfl | rfl | rfl | rfl | rfl <;> rfl
theorem one_bool (b : Bool) : ∀ u ∈ (.bool b : Value).cells.toList, u.oneCell' = true := by intro u hu; simp [Value.cells] at hu; subst hu; rfl
theorem one_string (b : ByteArray) : ∀ u ∈ (.string b : Value).cells.toList, u.oneCell' = true := by intro u hu; simp [Value.cells] at hu; subst hu; rfl
end Go.Proofs.Ytpnhefjiobnelaa

/- Layer 4 of the program: a port without a range. -/
namespace Go.Proofs.Ytpnhefjiobnelaa
open Go.RowKit Lg
set_option linter.unusedVariables false
set_option linter.unusedSimpArgs false

end Go.Proofs.Ytpnhefjiobnelaa

/- Layer 4 of the program: an output without a range. -/
namespace Go.Proofs.Ytpnhefjiobnelaa
open Go.RowKit Lg
set_option linter.unusedVariables false
set_option linter.unusedSimpArgs false

end Go.Proofs.Ytpnhefjiobnelaa

/- Layer 4 of the program: two ports. -/
namespace Go.Proofs.Ytpnhefjiobnelaa
open Go.RowKit Lg
set_option linter.unusedVariables false
set_option linter.unusedSimpArgs false

theorem build_pos (w : World) (o r nm p : Value) : (Instr.buildSlice 56 1 #[(0, .agg (poC o r nm p))]).run Try.prog w = .ok (.slice (some ⟨w.heap.size, 0, none⟩) 1 1) (w.alloc (.cells (poC o r nm p) 83)) := by kernel_rfl
theorem infoPort : ∃ i, Try.prog.info? 83 = some i ∧ i.zero = some (.agg (poC (.bool false) (.bool false) (.string .empty) (.int .i64 0))) ∧ i.size = 17 ∧ i.bytes = 192 := info_parts (by kernel_rfl)
theorem Kp.grownR {b R : Nat} {w w1 w2 : World} (h : Kp b w w1) (hg : w1.grownBy w2 (some R)) (hR : w.heap.size ≤ R) : Kp b w w2 :=
  ⟨hg.os.trans h.os, hg.tape.trans h.tape, hg.output.trans h.output, Nat.le_trans h.size hg.size, fun k hk hb => (hg.block k (Nat.lt_of_lt_of_le hk h.size) (by intro e; injection e with e; omega)).trans (h.block k hk hb)⟩
theorem owns_one {w : World} {B R z : Nat} {c : Array Value} {t : TypeId} (h : w.heap[R]? = some (.cells c t (0, 0))) (hB : B ≤ R) (hz : c.size = z) : w.ownsRow B t z (.slice (some ⟨R, 0, none⟩) 1 1) 1 c.toList :=
  ⟨by simp [hz], Or.inr ⟨R, 1, c, rfl, hB, h, Nat.le_refl _, by simp [maxLen], by simp [hz], by simp [← hz, List.take_of_length_le]⟩⟩
end Go.Proofs.Ytpnhefjiobnelaa
