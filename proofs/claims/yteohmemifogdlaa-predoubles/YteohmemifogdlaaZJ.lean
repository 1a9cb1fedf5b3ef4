/- Layer 3 of the program: what comes of a use. -/
import Derived.Test.YteohmemifogdlaaZI
import Derived.Test.YteohmemifogdlaaGM
import Derived.Deep.RegionWith
namespace Go.Proofs.Yteohmemifogdlaa
open Go.RowKit Lg Go.Maps
set_option linter.unusedVariables false
set_option linter.unusedSimpArgs false

def OBl (ob p c : Nat) (vl : Value) (w : World) : Prop := w.heap[ob]? = some (.cells #[.int .i64 p, .int .i64 c, vl] 72 (0, 0))
theorem OBl.at_ {ob p c : Nat} {vl : Value} {w : World} (h : OBl ob p c vl w) : w.cell? ⟨ob, 0, none⟩ = some (.int .i64 p) ∧ w.cell? ⟨ob, 1, none⟩ = some (.int .i64 c) ∧ w.cell? ⟨ob, 2, none⟩ = some vl ∧ (∀ j, w.frozen? ⟨ob, j, none⟩ = false) := by
  refine ⟨?_, ?_, ?_, fun j => Lib.frozen_of_heap h j⟩ <;> (rw [Lib.cell_of_heap h]; rfl)
theorem OBl.set1 {ob p c : Nat} {vl : Value} {w : World} (h : OBl ob p c vl w) (x : Nat) (y : Value) (hy : y = .int .i64 x) : OBl ob p x vl (w.setCell ⟨ob, 1, none⟩ y) := by
  subst hy; unfold OBl; simp only [World.setCell]; rw [Array.getElem?_modify, if_pos rfl, h]; rfl
theorem OBl.set2 {ob p c : Nat} {vl : Value} {w : World} (h : OBl ob p c vl w) (y : Value) : OBl ob p c y (w.setCell ⟨ob, 2, none⟩ y) := by
  unfold OBl; simp only [World.setCell]; rw [Array.getElem?_modify, if_pos rfl, h]; rfl

set_option maxHeartbeats 400000 in
theorem come_full (ob p : Nat) (vl : Value) (w : World) (h : OBl ob p 4096 vl w) : Calls Try.prog 43 #[.pointer (some ⟨ob, 0, none⟩)] w fun e w' => e = .panicked (pnc p 31) ∧ w' = w := by
  obtain ⟨c0, c1, c2, cf⟩ := h.at_
  go_enter Try.func43, Try.ntmps43
  go_wp2_with (first | (go_at_call 19; refine (giveUp_c _ _ _).mono ?_; rintro e w' ⟨rfl, hw⟩; have hw2 := hw.symm; subst hw2))
  exact ⟨rfl, rfl, rfl⟩
set_option maxHeartbeats 400000 in
theorem come_ok (ob p c : Nat) (vl : Value) (w : World) (h : OBl ob p c vl w) (hc : c < 4096) : Calls Try.prog 43 #[.pointer (some ⟨ob, 0, none⟩)] w fun e w' => e = .returned (.tuple #[]) ∧ w' = w.setCell ⟨ob, 1, none⟩ (.int .i64 ((c + 1 : Nat) : Int)) := by
  obtain ⟨c0, c1, c2, cf⟩ := h.at_
  have f1 := cf 1
  have hcb : (((c : Nat) : Int) == 4096) = false := by rw [beq_eq_false_iff_ne]; omega
  go_enter Try.func43, Try.ntmps43
  go_wp2
  go_end0
  exact ⟨rfl, by go_num⟩
/-- all blocks but one are as they were -/
structure Oth (ob : Nat) (w w' : World) : Prop where
  os : w'.os = w.os
  tape : w'.tape = w.tape
  output : w'.output = w.output
  size : w'.heap.size = w.heap.size
  block : ∀ k, k ≠ ob → w'.heap[k]? = w.heap[k]?
theorem Oth.below {ob : Nat} {w w' : World} (h : Oth ob w w') : Below ob w w' := ⟨h.os, h.tape, h.output, by rw [h.size]; exact Nat.le_refl _, fun k hk => h.block k (by omega)⟩
theorem come_o (ob p c : Nat) (vl : Value) (w : World) (h : OBl ob p c vl w) (hc : c < 4096) : Calls Try.prog 43 #[.pointer (some ⟨ob, 0, none⟩)] w fun e w' => e = .returned (.tuple #[]) ∧ OBl ob p (c + 1) vl w' ∧ Oth ob w w' := by
  refine (come_ok ob p c vl w h hc).mono ?_
  rintro e w' ⟨rfl, rfl⟩
  exact ⟨rfl, h.set1 _ _ rfl, rfl, rfl, rfl, by simp [World.setCell], fun k hk => Below.heap_setCell _ _ _ _ hk⟩
theorem own_oth {ob : Nat} {w w' : World} {B e z n : Nat} {v : Value} {xs : List Value} (h : w.ownsRow B e z v n xs) (hb : Oth ob w w') (hne : v.ownBlock ≠ some ob) : w'.ownsRow B e z v n xs := own_block h fun k hk => hb.block k (fun e => hne (by rw [hk, e]))
theorem bxO {ob : Nat} {w w1 : World} {a b c : Value} {t : TypeId} (h : Oth ob (w.alloc (.cells #[a, b, c] t)) w1) (hne : ob < w.heap.size) : w1.cell? ⟨w.heap.size, 0, none⟩ = some a ∧ w1.cell? ⟨w.heap.size, 1, none⟩ = some b ∧ w1.cell? ⟨w.heap.size, 2, none⟩ = some c := by
  have e : w1.heap[w.heap.size]? = some (.cells #[a, b, c] t (0, 0)) := (h.block w.heap.size (by omega)).trans (by show (w.heap.push _)[w.heap.size]? = _; simp)
  refine ⟨?_, ?_, ?_⟩ <;> (rw [Lib.cell_of_heap e]; rfl)
/-- how a use's call ends -/
def ExOut (ob p : Nat) (out : List Tok) (w : World) (res : Ec) (e : Ending) (w' : World) : Prop :=
  match res with
  | .no c => e = .panicked (pnc p c) ∧ Below ob w w'
  | .ok f a => e = .returned (.tuple #[]) ∧ ∃ vl, OBl ob p (4096 - f) vl w' ∧ w'.ownsRow ob 35 3 vl (out ++ a).length (tcells (out ++ a)) ∧ Below ob w w'
theorem sub_get {src list : List Tok} {f i : Nat} {t : Tok} (h : (src.drop f).take list.length = list) (hi : list[i]? = some t) : src[f + i]? = some t := by
  rw [← h] at hi
  have hl : i < list.length := by
    rcases Nat.lt_or_ge i list.length with g | g
    · exact g
    · rw [List.getElem?_eq_none (by rw [List.length_take]; omega)] at hi; cases hi
  rw [List.getElem?_take_of_lt hl, List.getElem?_drop] at hi; exact hi
theorem own_ob {w : World} {B n ob p c : Nat} {vl v : Value} {xs : List Value} (ho : w.ownsRow B 35 3 v n xs) (hb : OBl ob p c vl w) : v.ownBlock ≠ some ob := own_ne ho hb (by decide)
theorem ob_keep {ob p c : Nat} {vl : Value} {w w' : World} (h : OBl ob p c vl w) (hb : Below w.heap.size w w') : OBl ob p c vl w' := (hb.block ob (heap_lt h)).trans h
/-- a token is put to those of a use -/
theorem put_end {ob p c : Nat} {vl vl' : Value} {w W w2 : World} {out : List Tok} {k : Int} {x : List UInt8} {o : Obj} (h : OBl ob p c vl w) (ho : w.ownsRow ob 35 3 vl out.length (tcells out)) (hg : W.grownBy w2 vl.ownBlock) (hW : W.heap = w.heap.push o) (hos : W.os = w.os) (ht : W.tape = w.tape) (hout : W.output = w.output)
    (ho2 : w2.ownsRow ob 35 3 vl' (out.length + 1) (tcells out ++ [.int .i64 k, .string (S x), .int .i64 p])) :
    OBl ob p c vl' (w2.setCell ⟨ob, 2, none⟩ vl') ∧ (w2.setCell ⟨ob, 2, none⟩ vl').ownsRow ob 35 3 vl' (out ++ [(⟨k, x, p⟩ : Tok)]).length (tcells (out ++ [⟨k, x, p⟩])) ∧ Below ob w (w2.setCell ⟨ob, 2, none⟩ vl') := by
  have hb := heap_lt h
  have hsz : W.heap.size = w.heap.size + 1 := by rw [hW]; simp
  have hne := own_ob ho h
  have e : OBl ob p c vl w2 := (hg.block ob (by omega) (fun e => hne e.symm)).trans (by rw [hW, Array.getElem?_push, if_neg (by omega)]; exact h)
  refine ⟨e.set2 vl', ?_, ?_⟩
  · rw [tcells_app, tcells_one, List.length_append]
    exact owns_set ho2 (own_ob ho2 e)
  · refine ⟨hg.os.trans hos, hg.tape.trans ht, hg.output.trans hout, ?_, fun j hj => ?_⟩
    · have := hg.size; simp [World.setCell]; omega
    · rw [Below.heap_setCell _ _ _ _ (by show j ≠ ob; omega), hg.block j (by omega) (fun e2 => by have := (own_ge ho j e2.symm).1; omega), hW, Array.getElem?_push, if_neg (by omega)]
theorem obG {ob p c : Nat} {vl : Value} {w W w2 : World} {o : Obj} {row : Option Nat} (h : OBl ob p c vl w) (hW : W.heap = w.heap.push o) (hg : W.grownBy w2 row) (hne : row ≠ some ob) : OBl ob p c vl w2 := by
  have hb := heap_lt h
  refine (hg.block ob (by rw [hW]; simp; omega) (fun e => hne e.symm)).trans ?_
  rw [hW, Array.getElem?_push, if_neg (by omega)]; exact h
end Go.Proofs.Yteohmemifogdlaa
