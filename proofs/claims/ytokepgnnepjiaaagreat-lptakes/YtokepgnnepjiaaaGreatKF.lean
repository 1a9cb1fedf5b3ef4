/- The reference's May: may a netlist be? -/
import Derived.Test.YtokepgnnepjiaaaGreatGKb
namespace Go.Proofs.YtokepgnnepjiaaaGreat
set_option maxRecDepth 100000
open Go.RowKit Lg Nl Go.Maps
set_option linter.unusedVariables false
set_option linter.unusedSimpArgs false

/-- a call's first block, and what was there ahead -/
structure S1 (w : World) (bx : Obj) (W : World) : Prop where
  bel : Below w.heap.size w W
  x : W.heap[w.heap.size]? = some bx
theorem S1.start {w : World} {bx : Obj} : S1 w bx (w.alloc bx) := ⟨belA (Below.refl _ _) _, by rw [alAt rfl]⟩
theorem S1.below {w W W' : World} {bx : Obj} (h : S1 w bx W) (hb : Below W.heap.size W W') : S1 w bx W' := ⟨h.bel.trans (hb.mono h.bel.size), (hb.block _ (hLt h.x)).trans h.x⟩
theorem S1.alloc {w W : World} {bx o : Obj} (h : S1 w bx W) : S1 w bx (W.alloc o) := h.below (belA (Below.refl _ _) _)
theorem S1.set {w W : World} {bx : Obj} (h : S1 w bx W) {b j : Nat} {v : Value} (hb : w.heap.size + 1 ≤ b) : S1 w bx (W.setCell ⟨b, j, none⟩ v) :=
  ⟨h.bel.setCell (by show w.heap.size ≤ b; omega) _, (Below.heap_setCell _ _ _ _ (by show w.heap.size ≠ b; omega)).trans h.x⟩
/-- a node's cells -/
theorem NdsAt.at_ {w : World} {g o n cap : Nat} {l : List Nd} (h : NdsAt w (.slice (some ⟨g, o, none⟩) n cap) l) (i : Nat) (hi : i < l.length) : g < w.heap.size ∧ ∃ ia ic, IntsAt w (.slice ia l[i].ins.length ic) l[i].ins ∧
    w.cell? ⟨g, o + i * 8, none⟩ = some (.int .i64 l[i].k) ∧ w.cell? ⟨g, o + i * 8 + 1, none⟩ = some (.int .i64 l[i].op) ∧ w.cell? ⟨g, o + i * 8 + 2, none⟩ = some (.int .i64 l[i].wd) ∧ w.cell? ⟨g, o + i * 8 + 3, none⟩ = some (.slice ia l[i].ins.length ic) ∧ w.cell? ⟨g, o + i * 8 + 4, none⟩ = some (.string (S l[i].vl)) ∧ w.cell? ⟨g, o + i * 8 + 5, none⟩ = some (.int .i64 l[i].hi) ∧ w.cell? ⟨g, o + i * 8 + 6, none⟩ = some (.int .i64 l[i].lo) ∧ w.cell? ⟨g, o + i * 8 + 7, none⟩ = some (.int .i64 l[i].tm) := by
  obtain ⟨ao, c, hv, _, h⟩ := h
  injection hv with e1 e2 e3
  subst e1
  rcases h with h | ⟨g', o', e, hg, h⟩
  · subst h; cases hi
  · injection e with e
    injection e with e1 e2
    subst e1 e2
    obtain ⟨vi, h1, h2⟩ := h i hi
    obtain ⟨ia, ic, rfl, _⟩ := id h1
    exact ⟨hg, ia, ic, h1, h2 0 _ rfl, h2 1 _ rfl, h2 2 _ rfl, h2 3 _ rfl, h2 4 _ rfl, h2 5 _ rfl, h2 6 _ rfl, h2 7 _ rfl⟩
theorem may_size {l : List Nd} {nets : List Int} {pt : Int} (h : ¬ (l.length ≤ 4096 ∧ pt = (nets.length : Int))) : mayN l nets pt = false := by
  unfold mayN; rw [decide_eq_false h]; rfl
theorem may_shape {l : List Nd} {nets : List Int} {pt : Int} {i : Nat} (hi : i < l.length) (h : shapeB l l[i] = false) : mayN l nets pt = false := by
  have : l.all (shapeB l) = false := by rw [List.all_eq_false]; exact ⟨l[i], List.getElem_mem hi, by simp [h]⟩
  unfold mayN; rw [this]; simp
theorem may_net {l : List Nd} {nets : List Int} {pt : Int} {i : Nat} (hi : i < nets.length) (h : inB l.length nets[i] = false) : mayN l nets pt = false := by
  have : nets.all (inB l.length) = false := by rw [List.all_eq_false]; exact ⟨nets[i], List.getElem_mem hi, by simp [h]⟩
  unfold mayN portB; rw [this]; simp
theorem may_node {l : List Nd} {nets : List Int} {pt : Int} {i : Nat} (hi : i < l.length) (h : nodeB l[i] (wsOf l l[i].ins) = false) : mayN l nets pt = false := by
  have : (l.all fun x => nodeB x (wsOf l x.ins)) = false := by rw [List.all_eq_false]; exact ⟨l[i], List.getElem_mem hi, by simp [h]⟩
  unfold mayN; rw [this]; simp
theorem may_in {l : List Nd} {nets : List Int} {pt : Int} {i : Nat} (hi : i < l.length) (hk : l[i].k = 2) (h : cnt nets i ≠ 1) : mayN l nets pt = false := by
  have : ((List.range l.length).all fun i => !decide ((ndAt l i).k = 2) || decide (cnt nets i = 1)) = false := by
    rw [List.all_eq_false]; exact ⟨i, List.mem_range.2 hi, by rw [ndAt_eq hi]; simp [hk, h]⟩
  unfold mayN portB; rw [this]; simp
theorem may_yes {l : List Nd} {nets : List Int} {pt : Int} (h0 : l.length ≤ 4096 ∧ pt = (nets.length : Int)) (h1 : l.all (shapeB l) = true) (h2 : nets.all (inB l.length) = true) (h3 : ∀ i (hi : i < l.length), nodeB l[i] (wsOf l l[i].ins) = true ∧ (l[i].k = 2 → cnt nets i = 1)) : mayN l nets pt = true := by
  have a : (l.all fun x => nodeB x (wsOf l x.ins)) = true := by
    rw [List.all_eq_true]; intro x hx; obtain ⟨i, hi, rfl⟩ := List.getElem_of_mem hx; exact (h3 i hi).1
  have b : ((List.range l.length).all fun i => !decide ((ndAt l i).k = 2) || decide (cnt nets i = 1)) = true := by
    rw [List.all_eq_true]; intro i hi; have hi' := List.mem_range.1 hi; rw [ndAt_eq hi']
    by_cases hk : l[i].k = 2
    · simp [hk, (h3 i hi').2 hk]
    · simp [hk]
  unfold mayN portB; rw [h1, h2, a, b]; simp [h0]
theorem all_snocL {α : Type} {p : α → Bool} {l : List α} {k : Nat} (hk : k < l.length) (h : (l.take k).all p = true) (hp : p l[k] = true) : (l.take (k + 1)).all p = true := by
  rw [List.take_succ_eq_append_getElem hk, List.all_append, h]; simp [hp]
theorem all_done {α : Type} {p : α → Bool} {l : List α} {k : Nat} (hk : l.length ≤ k) (h : (l.take k).all p = true) : l.all p = true := by rw [List.take_of_length_le hk] at h; exact h
theorem all_at {α : Type} {p : α → Bool} {l : List α} (h : l.all p = true) {i : Nat} (hi : i < l.length) : p l[i] = true := by rw [List.all_eq_true] at h; exact h _ (List.getElem_mem hi)
theorem all_no {α : Type} {p : α → Bool} {l : List α} {i : Nat} (hi : i < l.length) (h : p l[i] = false) : l.all p = false := by rw [List.all_eq_false]; exact ⟨l[i], List.getElem_mem hi, by simp [h]⟩
theorem shape_parts {l : List Nd} {x : Nd} : shapeB l x = (wideB x && zeroB x && x.ins.all (inB l.length)) := rfl
theorem infoNode : ∃ i, Tryz.prog.info? 61 = some i ∧ i.size = 8 := by
  have h : (Tryz.prog.info? 61).map (fun i => i.size) = some 8 := by kernel_rfl
  rcases hi : Tryz.prog.info? 61 with _ | i
  · rw [hi] at h; cases h
  · rw [hi] at h; injection h with h; exact ⟨i, rfl, h⟩

theorem mkInts (n : Nat) (hn : n ≤ 140737488355328 / 8) : ∀ w : World, (Instr.makeSlice 24 (.int .i64 (n : Int)) (.int .i64 (n : Int))).run Tryz.prog w = .ok (.slice (some ⟨w.heap.size, 0, none⟩) n n) (w.alloc (.cells (madeCells #[.int .i64 0] n) 3)) := fun w =>
  run_make_row' (P := Tryz.prog) 24 3 (.int .i64 0) 8 Tryz.underlying24 (by kernel_rfl) rfl .i64 .i64 n (by omega) (by omega) w
theorem cnt_le (l : List Int) (q : Nat) : cnt l q ≤ l.length := List.countP_le_length
theorem cnt_snoc (l : List Int) (z q : Nat) : cnt (l ++ [(z : Int)]) q = if q = z then cnt l q + 1 else cnt l q := by
  unfold cnt
  rw [List.countP_append]
  by_cases h : q = z
  · subst h; simp
  · have : ¬ (z : Int) = (q : Int) := by omega
    simp [h, this]
/-- netlists that fit the machine -/
structure Fits (l : List Nd) (nets : List Int) : Prop where
  n : l.length ≤ 140737488355328
  t : nets.length ≤ 17592186044416
  i : ∀ x ∈ l, x.ins.length ≤ 17592186044416
  v : ∀ x ∈ l, x.vl.length ≤ 140737488355328
end Go.Proofs.YtokepgnnepjiaaaGreat
