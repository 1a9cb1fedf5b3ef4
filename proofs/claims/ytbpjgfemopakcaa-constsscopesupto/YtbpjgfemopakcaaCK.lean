/- Layer 6 of the program: Eval. -/
import Derived.Test.YtbpjgfemopakcaaCJ
namespace Go.Proofs.Ytbpjgfemopakcaa
open Go.RowKit Lg Go.Maps
set_option linter.unusedVariables false
set_option linter.unusedSimpArgs false

theorem k2_new {b ms : Nat} {w w1 : World} {o : Obj} (h : K2 b ms (w.alloc o) w1) (hb : b < w.heap.size) (hm : ms < w.heap.size) : w1.heap[w.heap.size]? = some o := (h.block w.heap.size (by simp) (by omega) (by omega)).trans (by show (w.heap.push o)[w.heap.size]? = _; simp)
theorem k2_old {b ms : Nat} {w w1 : World} {o : Obj} (h : K2 b ms (w.alloc o) w1) : K2 b ms w w1 := (K2.of (belA (Below.refl _ _) _)).trans h
theorem K2.far {b ms k j : Nat} {w w1 : World} {y : Value} (h : K2 b ms w w1) (hk : w.heap.size ≤ k) : K2 b ms w (w1.setCell ⟨k, j, none⟩ y) :=
  ⟨h.os, h.tape, h.output, Nat.le_trans h.size (by simp [World.setCell]), fun i hi h1 h2 => (Below.heap_setCell _ _ _ _ (by show i ≠ k; omega)).trans (h.block i hi h1 h2)⟩
theorem hset2 {w : World} {b : Nat} {x0 x1 : Value} {t : TypeId} (h : w.heap[b]? = some (.cells #[x0, x1] t (0, 0))) (y z : Value) : ((w.setCell ⟨b, 0, none⟩ y).setCell ⟨b, 1, none⟩ z).heap[b]? = some (.cells #[y, z] t (0, 0)) := by
  simp only [World.setCell]; rw [Array.getElem?_modify, if_pos rfl, Array.getElem?_modify, if_pos rfl, h]; rfl
set_option maxRecDepth 100000 in
set_option maxHeartbeats 2000000 in
theorem kWhole_ok {b ms X : Nat} {r : Int} {w : World} (hb : b < w.heap.size) (hm : ms < w.heap.size) (HN : ∀ o, Calls Try.prog 27 #[.pointer (some ⟨b, 0, none⟩), .pointer (some ⟨X, 0, none⟩)] (w.alloc o) fun e w' => e = .returned (.int .i64 r) ∧ K2 b ms (w.alloc o) w') :
    Calls Try.prog 24 #[.pointer (some ⟨b, 0, none⟩), .pointer (some ⟨X, 0, none⟩)] w fun e w' => e = .returned (.tuple #[.int .i64 r, .agg #[.int .i64 0, .int .i64 0]]) ∧ K2 b ms w w' := by
  have hmf : ∀ (fn : Fn) (first cap : Array Value) (w : World), (Instr.makeFunc fn first cap).run Try.prog w = .ok (.func fn first cap) w := fun _ _ _ _ => rfl
  go_enter_defers Try.func24, Try.ntmps24
  go_wp2_with (first
    | (go_at_call 27; refine (HN _).mono ?_; rintro e w1 ⟨rfl, hk1⟩; have hR := k2_new hk1 hb hm; have hc0 : w1.cell? ⟨w.heap.size, 0, none⟩ = some (.int .i64 0) := by { rw [Lib.cell_of_heap hR]; rfl }; have hc1 : w1.cell? ⟨w.heap.size, 1, none⟩ = some (.int .i64 0) := by { rw [Lib.cell_of_heap hR]; rfl }; have hz := fun j => Lib.frozen_of_heap hR j; have hl := kLt hR))
  refine leaves_cons (f := 26) (args := #[.pointer (some ⟨w.heap.size, 0, none⟩)]) (by simp) (by simp [go_sem]) ?_
  refine (kCatchI w.heap.size _).mono ?_
  rintro e u' w'' ⟨rfl, rfl, rfl⟩
  have hR2 := hset2 hR (.int .i64 0) (.int .i64 0)
  have e0 : ((w1.setCell ⟨w.heap.size, 0, none⟩ (.int .i64 0)).setCell ⟨w.heap.size, 1, none⟩ (.int .i64 0)).cell? ⟨w.heap.size, 0, none⟩ = some (.int .i64 0) := by rw [Lib.cell_of_heap hR2]; rfl
  have e1 : ((w1.setCell ⟨w.heap.size, 0, none⟩ (.int .i64 0)).setCell ⟨w.heap.size, 1, none⟩ (.int .i64 0)).cell? ⟨w.heap.size, 1, none⟩ = some (.int .i64 0) := by rw [Lib.cell_of_heap hR2]; rfl
  simp [Leaves, settle, results, Try.results24, go_sem, e0, e1]
  exact ((k2_old hk1).far (Nat.le_refl _)).far (Nat.le_refl _)
set_option maxRecDepth 100000 in
set_option maxHeartbeats 2000000 in
theorem kWhole_u {b ms X : Nat} {p : Int} {w : World} (hb : b < w.heap.size) (hm : ms < w.heap.size) (HN : ∀ o, Calls Try.prog 27 #[.pointer (some ⟨b, 0, none⟩), .pointer (some ⟨X, 0, none⟩)] (w.alloc o) fun e w' => e = .panicked (pnU p) ∧ K2 b ms (w.alloc o) w') :
    Calls Try.prog 24 #[.pointer (some ⟨b, 0, none⟩), .pointer (some ⟨X, 0, none⟩)] w fun e w' => e = .returned (.tuple #[.int .i64 0, .agg #[.int .i64 p, .int .i64 71]]) ∧ K2 b ms w w' := by
  have hmf : ∀ (fn : Fn) (first cap : Array Value) (w : World), (Instr.makeFunc fn first cap).run Try.prog w = .ok (.func fn first cap) w := fun _ _ _ _ => rfl
  go_enter_defers Try.func24, Try.ntmps24
  go_wp2_with (first
    | (go_at_call 27; refine (HN _).mono ?_; rintro e w1 ⟨rfl, hk1⟩; have hR := k2_new hk1 hb hm; have hc0 : w1.cell? ⟨w.heap.size, 0, none⟩ = some (.int .i64 0) := by { rw [Lib.cell_of_heap hR]; rfl }; have hc1 : w1.cell? ⟨w.heap.size, 1, none⟩ = some (.int .i64 0) := by { rw [Lib.cell_of_heap hR]; rfl }; have hz := fun j => Lib.frozen_of_heap hR j; have hl := kLt hR))
  refine leaves_cons (f := 26) (args := #[.pointer (some ⟨w.heap.size, 0, none⟩)]) (by simp) (by simp [go_sem]) ?_
  refine (kCatchU w.heap.size p _ hR).mono ?_
  rintro e u' w'' ⟨rfl, rfl, rfl⟩
  have hR2 := hset2 hR (.int .i64 p) (.int .i64 71)
  have e0 : ((w1.setCell ⟨w.heap.size, 0, none⟩ (.int .i64 p)).setCell ⟨w.heap.size, 1, none⟩ (.int .i64 71)).cell? ⟨w.heap.size, 0, none⟩ = some (.int .i64 p) := by rw [Lib.cell_of_heap hR2]; rfl
  have e1 : ((w1.setCell ⟨w.heap.size, 0, none⟩ (.int .i64 p)).setCell ⟨w.heap.size, 1, none⟩ (.int .i64 71)).cell? ⟨w.heap.size, 1, none⟩ = some (.int .i64 71) := by rw [Lib.cell_of_heap hR2]; rfl
  simp [Leaves, settle, results, Try.results24, go_sem, e0, e1]
  exact ((k2_old hk1).far (Nat.le_refl _)).far (Nat.le_refl _)
set_option maxRecDepth 100000 in
set_option maxHeartbeats 2000000 in
theorem kWhole_v {b ms X : Nat} {p : Int} {w : World} (hb : b < w.heap.size) (hm : ms < w.heap.size) (HN : ∀ o, Calls Try.prog 27 #[.pointer (some ⟨b, 0, none⟩), .pointer (some ⟨X, 0, none⟩)] (w.alloc o) fun e w' => e = .panicked (pnV p) ∧ K2 b ms (w.alloc o) w') :
    Calls Try.prog 24 #[.pointer (some ⟨b, 0, none⟩), .pointer (some ⟨X, 0, none⟩)] w fun e w' => e = .returned (.tuple #[.int .i64 0, .agg #[.int .i64 p, .int .i64 61]]) ∧ K2 b ms w w' := by
  have hmf : ∀ (fn : Fn) (first cap : Array Value) (w : World), (Instr.makeFunc fn first cap).run Try.prog w = .ok (.func fn first cap) w := fun _ _ _ _ => rfl
  go_enter_defers Try.func24, Try.ntmps24
  go_wp2_with (first
    | (go_at_call 27; refine (HN _).mono ?_; rintro e w1 ⟨rfl, hk1⟩; have hR := k2_new hk1 hb hm; have hc0 : w1.cell? ⟨w.heap.size, 0, none⟩ = some (.int .i64 0) := by { rw [Lib.cell_of_heap hR]; rfl }; have hc1 : w1.cell? ⟨w.heap.size, 1, none⟩ = some (.int .i64 0) := by { rw [Lib.cell_of_heap hR]; rfl }; have hz := fun j => Lib.frozen_of_heap hR j; have hl := kLt hR))
  refine leaves_cons (f := 26) (args := #[.pointer (some ⟨w.heap.size, 0, none⟩)]) (by simp) (by simp [go_sem]) ?_
  refine (kCatchV w.heap.size p _ hR).mono ?_
  rintro e u' w'' ⟨rfl, rfl, rfl⟩
  have hR2 := hset2 hR (.int .i64 p) (.int .i64 61)
  have e0 : ((w1.setCell ⟨w.heap.size, 0, none⟩ (.int .i64 p)).setCell ⟨w.heap.size, 1, none⟩ (.int .i64 61)).cell? ⟨w.heap.size, 0, none⟩ = some (.int .i64 p) := by rw [Lib.cell_of_heap hR2]; rfl
  have e1 : ((w1.setCell ⟨w.heap.size, 0, none⟩ (.int .i64 p)).setCell ⟨w.heap.size, 1, none⟩ (.int .i64 61)).cell? ⟨w.heap.size, 1, none⟩ = some (.int .i64 61) := by rw [Lib.cell_of_heap hR2]; rfl
  simp [Leaves, settle, results, Try.results24, go_sem, e0, e1]
  exact ((k2_old hk1).far (Nat.le_refl _)).far (Nat.le_refl _)
theorem allocAt {W : World} {o : Obj} {n : Nat} (h : W.heap.size = n) : (W.alloc o).heap[n]? = some o := by subst h; show (W.heap.push o)[W.heap.size]? = _; simp
theorem allocOld {W : World} {o : Obj} {k : Nat} (h : k < W.heap.size) : (W.alloc o).heap[k]? = W.heap[k]? := (belA (Below.refl W.heap.size W) o).block k h
/-- the world in which an expression is gone over -/
def evW (mb : Nat) (x : Array Value) (w : World) : World := (((w.alloc (.cells x 44)).alloc (.cells #[.int .i64 0, .int .i64 0] 48)).alloc (.map #[] 0)).alloc (.cells #[.map (some mb), .slice none 0 0, .map (some (w.heap.size + 1 + 1))] 68)
theorem evW_size (mb : Nat) (x : Array Value) (w : World) : (evW mb x w).heap.size = w.heap.size + 1 + 1 + 1 + 1 := by unfold evW; simp
theorem evW_below (mb : Nat) (x : Array Value) (w : World) : Below w.heap.size w (evW mb x w) := belA (belA (belA (belA (Below.refl _ _) _) _) _) _
theorem evW_0 (mb : Nat) (x : Array Value) (w : World) : (evW mb x w).heap[w.heap.size]? = some (.cells x 44 (0, 0)) := by
  unfold evW; rw [allocOld (by simp; omega), allocOld (by simp; omega), allocOld (by simp), allocAt rfl]
theorem evW_1 (mb : Nat) (x : Array Value) (w : World) : (evW mb x w).heap[w.heap.size + 1]? = some (.cells #[.int .i64 0, .int .i64 0] 48 (0, 0)) := by
  unfold evW; rw [allocOld (by simp <;> omega), allocOld (by simp), allocAt (by simp)]
theorem evW_2 (mb : Nat) (x : Array Value) (w : World) : (evW mb x w).heap[w.heap.size + 1 + 1]? = some (.map #[] 0) := by
  unfold evW; rw [allocOld (by simp), allocAt (by simp)]
theorem evW_3 (mb : Nat) (x : Array Value) (w : World) : (evW mb x w).heap[w.heap.size + 1 + 1 + 1]? = some (.cells #[.map (some mb), .slice none 0 0, .map (some (w.heap.size + 1 + 1))] 68 (0, 0)) := by
  unfold evW; rw [allocAt (by simp)]
set_option maxRecDepth 100000 in
set_option maxHeartbeats 2000000 in
theorem kEval_c {sb mb : Nat} {w : World} (h : ScAt sb mb w) (op : Int) (nm vl : ByteArray) (pl : Bool) (ao : Option Addr) (n c : Nat) (at_ r rp rc : Int)
    (HW : Calls Try.prog 24 #[.pointer (some ⟨w.heap.size + 1 + 1 + 1, 0, none⟩), .pointer (some ⟨w.heap.size, 0, none⟩)] (evW mb #[.int .i64 op, .string nm, .string vl, .bool pl, .slice ao n c, .int .i64 at_] w) fun e w' => e = .returned (.tuple #[.int .i64 r, .agg #[.int .i64 rp, .int .i64 rc]]) ∧ K2 (w.heap.size + 1 + 1 + 1) (w.heap.size + 1 + 1) (evW mb #[.int .i64 op, .string nm, .string vl, .bool pl, .slice ao n c, .int .i64 at_] w) w') :
    Calls Try.prog 17 #[.pointer (some ⟨sb, 0, none⟩), .agg #[.int .i64 op, .string nm, .string vl, .bool pl, .slice ao n c, .int .i64 at_]] w fun e w' => e = .returned (.tuple #[.int .i64 r, .agg #[.int .i64 rp, .int .i64 rc]]) ∧ Below w.heap.size w w' := by
  have hmm := @run_makeMap Try.prog
  have HG := fun w' (hb : Below w.heap.size w w') => kGiven_c (h.below hb)
  obtain ⟨c0, c1, hl⟩ := h.at_
  have hne : sb ≠ w.heap.size := by omega
  have hne1 : sb ≠ w.heap.size + 1 := by omega
  clear h
  go_enter Try.func17, Try.ntmps17
  go_wp2_with (first
    | (go_at_call 20; refine (HG _ (belA (belA (Below.refl _ _) _) _)).mono ?_; rintro e w' ⟨rfl, hw⟩; have hw2 := hw.symm; subst hw2)
    | (go_at_call 24; refine HW.mono ?_; rintro e w1 ⟨rfl, hk1⟩; have hR := (hk1.block (w.heap.size + 1) (by rw [evW_size]; omega) (by omega) (by omega)).trans (evW_1 _ _ _); have hc0 : w1.cell? ⟨w.heap.size + 1, 0, none⟩ = some (.int .i64 0) := by { rw [Lib.cell_of_heap hR]; rfl }; have hc1 : w1.cell? ⟨w.heap.size + 1, 1, none⟩ = some (.int .i64 0) := by { rw [Lib.cell_of_heap hR]; rfl }; have hz := fun j => Lib.frozen_of_heap hR j; have hl1 := kLt hR))
  have hR2 := hset2 hR (.int .i64 rp) (.int .i64 rc)
  have e0 : ((w1.setCell ⟨w.heap.size + 1, 0, none⟩ (.int .i64 rp)).setCell ⟨w.heap.size + 1, 1, none⟩ (.int .i64 rc)).cell? ⟨w.heap.size + 1, 0, none⟩ = some (.int .i64 rp) := by rw [Lib.cell_of_heap hR2]; rfl
  have e1 : ((w1.setCell ⟨w.heap.size + 1, 0, none⟩ (.int .i64 rp)).setCell ⟨w.heap.size + 1, 1, none⟩ (.int .i64 rc)).cell? ⟨w.heap.size + 1, 1, none⟩ = some (.int .i64 rc) := by rw [Lib.cell_of_heap hR2]; rfl
  refine bodyPost_ret (v := .tuple #[.int .i64 r, .agg #[.int .i64 rp, .int .i64 rc]]) (by simp [results, Try.results17, go_sem, e0, e1]) rfl ?_
  have hb1 : Below w.heap.size w w1 := (evW_below _ _ _).trans (hk1.below (by omega) (by omega) (by rw [evW_size]; omega))
  exact ⟨rfl, (hb1.setCell (by show w.heap.size ≤ w.heap.size + 1; omega) _).setCell (by show w.heap.size ≤ w.heap.size + 1; omega) _⟩
theorem xAt_of {g : Nat} {op : Int} {nm vl : ByteArray} {pl : Bool} {sl : Value} {p : Int} {w : World} (h : w.heap[g]? = some (.cells #[.int .i64 op, .string nm, .string vl, .bool pl, sl, .int .i64 p] 44 (0, 0))) : XAt g 0 op nm vl pl sl p w :=
  ⟨by rw [Lib.cell_of_heap h]; rfl, by rw [Lib.cell_of_heap h]; rfl, by rw [Lib.cell_of_heap h]; rfl, by rw [Lib.cell_of_heap h]; rfl, by rw [Lib.cell_of_heap h]; rfl, by rw [Lib.cell_of_heap h]; rfl⟩
/-- a part with a number: a number, or a name that has one -/
def Leaf (f : List UInt8 → Option Int) (op : Int) (nm vl : ByteArray) (k : Int) : Prop := (op = 1 ∧ numE (L vl) = 0 ∧ vl.size ≤ maxLen ∧ k = numA (L vl)) ∨ (op = 2 ∧ nm.size ≤ maxLen ∧ f (L nm) = some k)
theorem leafOk {b mn ms N K o n : Nat} {op : Int} {nm vl : ByteArray} {pl : Bool} {sl : Value} {p : Int} {D : DataW Unit} {f : List UInt8 → Option Int} {k : Int} {w : World} (hx : XAt K o op nm vl pl sl p w) (hK : K < N) (hm : MpAt mn n D w) (hmn : mn < N) (hf : NmI D f) (hl : Leaf f op nm vl k) : LeafOk b mn ms N K o k w := by
  intro w' v hb hw
  have hx' := hx.below hb hK
  rcases hl with ⟨rfl, h1, h2, h3⟩ | ⟨rfl, h1, h2⟩
  · exact kLook_num hx' h1 h2 k h3
  · have hm' : MpAt mn n D w' := by
      obtain ⟨es, clock, e1, e2⟩ := hm
      exact ⟨es, clock, (hb.block mn hmn).trans e1, e2⟩
    exact kLook_name hx' k (kNamed_c hw hm' hf hx'.c1 h1 k h2)
/-- an operator over two parts that have numbers -/
theorem kEval_bin {sb mb n K : Nat} {D : DataW Unit} {f : List UInt8 → Option Int} {w : World} (h : ScAt sb mb w) (hm : MpAt mb n D w) (hf : NmI D f) (op : Int) (nm vl : ByteArray) (pl : Bool) (p : Int) (h1 : 13 ≤ op) (h2 : op ≤ 27)
    {op0 op1 : Int} {nm0 nm1 vl0 vl1 : ByteArray} {pl0 pl1 : Bool} {sl0 sl1 : Value} {p0 p1 a c : Int} (hx0 : XAt K 0 op0 nm0 vl0 pl0 sl0 p0 w) (hx1 : XAt K 6 op1 nm1 vl1 pl1 sl1 p1 w) (hK : K < w.heap.size) (hl0 : Leaf f op0 nm0 vl0 a) (hl1 : Leaf f op1 nm1 vl1 c)
    (ho : opB op a c) (ha : fitB a = true) (hc : fitB c = true) (r rp rc : Int) (hr : if fitB (cmV op a c) = true then r = cmV op a c ∧ rp = 0 ∧ rc = 0 else r = 0 ∧ rp = p ∧ rc = 61) :
    Calls Try.prog 17 #[.pointer (some ⟨sb, 0, none⟩), .agg #[.int .i64 op, .string nm, .string vl, .bool pl, .slice (some ⟨K, 0, none⟩) 2 2, .int .i64 p]] w fun e w' => e = .returned (.tuple #[.int .i64 r, .agg #[.int .i64 rp, .int .i64 rc]]) ∧ Below w.heap.size w w' := by
  have hmb := World.ownsMap.lt hm
  obtain ⟨ha1, ha2⟩ : -2147483647 ≤ a ∧ a ≤ 2147483647 := by simpa [fitB] using ha
  obtain ⟨hc1, hc2⟩ : -2147483647 ≤ c ∧ c ≤ 2147483647 := by simpa [fitB] using hc
  refine kEval_c h op nm vl pl (some ⟨K, 0, none⟩) 2 2 p r rp rc ?_
  obtain ⟨W, hW⟩ : ∃ W, W = evW mb #[.int .i64 op, .string nm, .string vl, .bool pl, .slice (some ⟨K, 0, none⟩) 2 2, .int .i64 p] w := ⟨_, rfl⟩
  have hb := evW_below mb #[.int .i64 op, .string nm, .string vl, .bool pl, .slice (some ⟨K, 0, none⟩) 2 2, .int .i64 p] w
  have h0 := evW_0 mb #[.int .i64 op, .string nm, .string vl, .bool pl, .slice (some ⟨K, 0, none⟩) 2 2, .int .i64 p] w
  have h2' := evW_2 mb #[.int .i64 op, .string nm, .string vl, .bool pl, .slice (some ⟨K, 0, none⟩) 2 2, .int .i64 p] w
  have h3 := evW_3 mb #[.int .i64 op, .string nm, .string vl, .bool pl, .slice (some ⟨K, 0, none⟩) 2 2, .int .i64 p] w
  have hs := evW_size mb #[.int .i64 op, .string nm, .string vl, .bool pl, .slice (some ⟨K, 0, none⟩) 2 2, .int .i64 p] w
  rw [← hW] at hb h0 h2' h3 hs ⊢
  clear hW
  have hN : ∀ o, Below w.heap.size w (W.alloc o) := fun o => hb.alloc (by omega) o
  have hN1 : ∀ o, Below W.heap.size W (W.alloc o) := fun o => belA (Below.refl _ _) o
  have hm1 : ∀ o, MpAt mb n D (W.alloc o) := fun o => hm.below (hN o)
  have hX : ∀ w', Below (w.heap.size + 1) W w' → XAt w.heap.size 0 op nm vl pl (.slice (some ⟨K, 0, none⟩) 2 2) p w' := fun w' hw' => (xAt_of h0).below hw' (by omega)
  have hL0 : ∀ o, LeafOk (w.heap.size + 1 + 1 + 1) mb (w.heap.size + 1 + 1) (w.heap.size + 1) K 0 a (W.alloc o) := fun o => leafOk (hx0.below (hN o) hK) (by omega) (hm1 o) (by omega) hf hl0
  have hL1 : ∀ o, LeafOk (w.heap.size + 1 + 1 + 1) mb (w.heap.size + 1 + 1) (w.heap.size + 1) K 6 c (W.alloc o) := fun o => leafOk (hx1.below (hN o) hK) (by omega) (hm1 o) (by omega) hf hl1
  by_cases hfit : fitB (cmV op a c) = true
  · rw [if_pos hfit] at hr
    obtain ⟨rfl, rfl, rfl⟩ := hr
    refine kWhole_ok (by omega) (by omega) fun o => ?_
    refine kNumber_ok (N := w.heap.size + 1) (((hN1 o).block _ (by omega)).trans h3) (((hN1 o).block _ (by omega)).trans h2') (hX _ ((hN1 o).mono (by omega))) (by omega) (by omega) (by omega) (by omega) h1 h2 (hL0 o) (hL1 o) ?_
    intro w' hw' w'' hw'' g hg ht
    exact kStep_ok ht (hX _ (((hN1 o).mono (by omega)).trans (hw'.trans (hw''.mono (by have := hw'.size; have := (hN1 o).size; omega))))) h1 h2 ho ha1 ha2 hc1 hc2 _ rfl hfit
  · have hfit2 : fitB (cmV op a c) = false := by simpa using hfit
    rw [if_neg hfit] at hr
    obtain ⟨rfl, rfl, rfl⟩ := hr
    refine kWhole_v (by omega) (by omega) fun o => ?_
    refine kNumber_over (N := w.heap.size + 1) (((hN1 o).block _ (by omega)).trans h3) (((hN1 o).block _ (by omega)).trans h2') (hX _ ((hN1 o).mono (by omega))) (by omega) (by omega) (by omega) (by omega) h1 h2 (hL0 o) (hL1 o) ?_
    intro w' hw' w'' hw'' g hg ht
    exact kStep_over ht (hX _ (((hN1 o).mono (by omega)).trans (hw'.trans (hw''.mono (by have := hw'.size; have := (hN1 o).size; omega))))) h1 h2 ho ha1 ha2 hc1 hc2 _ rfl hfit2
/-- a name without a number -/
theorem kEval_un {sb mb n : Nat} {D : DataW Unit} {f : List UInt8 → Option Int} {w : World} (h : ScAt sb mb w) (hm : MpAt mb n D w) (hf : NmI D f) (nm vl : ByteArray) (pl : Bool) (ao : Option Addr) (m q : Nat) (p : Int) (hs : nm.size ≤ maxLen) (hn : f (L nm) = none) :
    Calls Try.prog 17 #[.pointer (some ⟨sb, 0, none⟩), .agg #[.int .i64 2, .string nm, .string vl, .bool pl, .slice ao m q, .int .i64 p]] w fun e w' => e = .returned (.tuple #[.int .i64 0, .agg #[.int .i64 p, .int .i64 71]]) ∧ Below w.heap.size w w' := by
  have hmb := World.ownsMap.lt hm
  refine kEval_c h 2 nm vl pl ao m q p 0 p 71 ?_
  obtain ⟨W, hW⟩ : ∃ W, W = evW mb #[.int .i64 2, .string nm, .string vl, .bool pl, .slice ao m q, .int .i64 p] w := ⟨_, rfl⟩
  have hb := evW_below mb #[.int .i64 2, .string nm, .string vl, .bool pl, .slice ao m q, .int .i64 p] w
  have h0 := evW_0 mb #[.int .i64 2, .string nm, .string vl, .bool pl, .slice ao m q, .int .i64 p] w
  have h3 := evW_3 mb #[.int .i64 2, .string nm, .string vl, .bool pl, .slice ao m q, .int .i64 p] w
  have hs2 := evW_size mb #[.int .i64 2, .string nm, .string vl, .bool pl, .slice ao m q, .int .i64 p] w
  rw [← hW] at hb h0 h3 hs2 ⊢
  clear hW
  refine kWhole_u (by omega) (by omega) fun o => ?_
  have hN1 : Below W.heap.size W (W.alloc o) := belA (Below.refl _ _) o
  have hx : XAt w.heap.size 0 2 nm vl pl (.slice ao m q) p (W.alloc o) := (xAt_of h0).below hN1 (by omega)
  exact kNumber_no (kLook_no hx (kNamed_no ((hN1.block _ (by omega)).trans h3) (hm.below (hb.alloc (by omega) o)) hf hx.c1 hx.c5 hs hn))
end Go.Proofs.Ytbpjgfemopakcaa
