/- A queue's calls: Take, Cancel, Copy. -/
import Derived.Test.YtfjkhcpneehdjaaEvL
namespace Go.Proofs.Ytfjkhcpneehdjaa
open Go.RowKit Qu Go.Maps
set_option linter.unusedVariables false
set_option linter.unusedSimpArgs false

theorem Qh.below {B q : Nat} {lim : Int} {W W' : World} {v : Value} {l : List Ev} (h : Qh B q lim W v l) (hb : Below W.heap.size W W') : Qh B q lim W' v l := ⟨h.b.below hb, h.h⟩
def z6 : Obj := .cells #[.int .i64 0, .int .i64 0, .string ⟨#[]⟩, .int .i64 0, .int .i64 0, .bool false] 34
theorem cell6 {w : World} {b : Nat} {y0 y1 y2 y3 y4 y5 : Value} {t : TypeId} (h : w.heap[b]? = some (.cells #[y0, y1, y2, y3, y4, y5] t (0, 0))) :
    (w.cell? ⟨b, 0, none⟩ = some y0 ∧ w.cell? ⟨b, 1, none⟩ = some y1 ∧ w.cell? ⟨b, 2, none⟩ = some y2 ∧ w.cell? ⟨b, 3, none⟩ = some y3 ∧ w.cell? ⟨b, 4, none⟩ = some y4 ∧ w.cell? ⟨b, 5, none⟩ = some y5) ∧ (w.frozen? ⟨b, 0, none⟩ = false ∧ w.frozen? ⟨b, 1, none⟩ = false ∧ w.frozen? ⟨b, 2, none⟩ = false ∧ w.frozen? ⟨b, 3, none⟩ = false ∧ w.frozen? ⟨b, 4, none⟩ = false ∧ w.frozen? ⟨b, 5, none⟩ = false) := by
  refine ⟨⟨?_, ?_, ?_, ?_, ?_, ?_⟩, ?_, ?_, ?_, ?_, ?_, ?_⟩ <;> first | (rw [Lib.cell_of_heap h]; rfl) | simp [World.frozen?, h]
theorem set1_block {W : World} {N k i : Nat} {v : Value} (h : k ≠ N) : (W.setCell ⟨N, i, none⟩ v).heap[k]? = W.heap[k]? := Below.heap_setCell _ _ _ _ (by show k ≠ N; exact h)
theorem set1_size {W : World} {p : Addr} {v : Value} : (W.setCell p v).heap.size = W.heap.size := by simp [World.setCell]
/-- all but one block are as they were -/
structure Ot (N : Nat) (W W' : World) : Prop where
  os : W'.os = W.os
  tape : W'.tape = W.tape
  output : W'.output = W.output
  size : W'.heap.size = W.heap.size
  block : ∀ k, k ≠ N → W'.heap[k]? = W.heap[k]?
theorem Ot.refl (N : Nat) (W : World) : Ot N W W := ⟨rfl, rfl, rfl, rfl, fun _ _ => rfl⟩
theorem Ot.set {N : Nat} {W W' : World} (h : Ot N W W') (i : Nat) (v : Value) : Ot N W (W'.setCell ⟨N, i, none⟩ v) := ⟨h.os, h.tape, h.output, set1_size.trans h.size, fun k hk => (set1_block hk).trans (h.block k hk)⟩
theorem set6_ot (W : World) (N : Nat) (a b c d e f : Value) : Ot N W ((((((W.setCell ⟨N, 0, none⟩ a).setCell ⟨N, 1, none⟩ b).setCell ⟨N, 2, none⟩ c).setCell ⟨N, 3, none⟩ d).setCell ⟨N, 4, none⟩ e).setCell ⟨N, 5, none⟩ f) := ((((((Ot.refl N W).set 0 a).set 1 b).set 2 c).set 3 d).set 4 e).set 5 f
set_option maxHeartbeats 4000000 in
theorem take_c (B q m : Nat) (lim : Int) (v : Value) (l : List Ev) (w : World) (h : Qh B q lim w v l) (hm : l.length = m + 1) (hs : m ≤ 4096) (hB : B ≤ w.heap.size) :
    Calls Try.prog 16 #[.pointer (some ⟨q, 0, none⟩)] w fun e w' => e = .returned (.tuple #[.agg #[.int .i64 (g l 0).t, .int .i64 (g l 0).nd, .string (g l 0).v, .int .i64 (g l 0).fr, .int .i64 (g l 0).sq, .bool (g l 0).an], .bool true]) ∧ ∃ v' l', Hid (Qh B q lim w' v' l') ∧ Hid (l.Perm (g l 0 :: l')) ∧ Hid (But2 q v.ownBlock w w') ∧ Hid (Mv v v' w) := by
  have HB : Hid (Below w.heap.size w (w.alloc (.cells #[.int .i64 0, .int .i64 0, .string ⟨#[]⟩, .int .i64 0, .int .i64 0, .bool false] 34))) := belA (Below.refl _ _) _
  obtain ⟨ao, cap, rfl⟩ := h.b.row.slice
  obtain ⟨gb, rfl, _, hr⟩ := row_some h.b.row hm
  rw [hm] at h ⊢
  have HL : Hid (Calls Try.prog 13 #[.pointer (some ⟨q, 0, none⟩)] (w.alloc (.cells #[.int .i64 0, .int .i64 0, .string ⟨#[]⟩, .int .i64 0, .int .i64 0, .bool false] 34)) fun e w' => e = .returned (.int .i64 (l.length : Int)) ∧ w' = _) := len_c B q lim _ l _ (h.b.below HB.out)
  rw [hm] at HL
  rw [show ((m + 1 : Nat) : Int) = (m : Int) + 1 by omega] at HL
  have n0 : (((m : Int) + 1) == 0) = false := by rw [beq_eq_false_iff_ne]; omega
  have HP : Hid (Calls Try.prog 27 #[.iface 63 (.pointer (some ⟨q, 2, none⟩))] (w.alloc (.cells #[.int .i64 0, .int .i64 0, .string ⟨#[]⟩, .int .i64 0, .int .i64 0, .bool false] 34)) fun e w' => e = .returned (.iface 34 (.agg #[.int .i64 (g l 0).t, .int .i64 (g l 0).nd, .string (g l 0).v, .int .i64 (g l 0).fr, .int .i64 (g l 0).sq, .bool (g l 0).an])) ∧ ∃ l', Hid (Qh B q lim w' (.slice (some ⟨gb, 0, none⟩) m cap) l') ∧ Hid (l.Perm (g l 0 :: l')) ∧ Hid (But2 q (some gb) (w.alloc (.cells #[.int .i64 0, .int .i64 0, .string ⟨#[]⟩, .int .i64 0, .int .i64 0, .bool false] 34)) w')) := hPop_c B q gb cap m lim l _ hm (h.below HB.out) hs
  have hql := hLt h.b.blk
  have hgl := hr.lt
  have HQ : Hid (Qh B q lim w (.slice (some ⟨gb, 0, none⟩) (m + 1) cap) l) := h
  clear h hr hm
  generalize g l 0 = x at HP ⊢
  have hta : ∀ W, (Instr.typeAssert (.iface 34 (.agg #[.int .i64 x.t, .int .i64 x.nd, .string x.v, .int .i64 x.fr, .int .i64 x.sq, .bool x.an])) 20 34 false).run Try.prog W = .ok (.agg #[.int .i64 x.t, .int .i64 x.nd, .string x.v, .int .i64 x.fr, .int .i64 x.sq, .bool x.an]) W := fun W => by kernel_rfl
  go_enter Try.func16, Try.ntmps16
  go_wp2_with (first
    | (go_at_call 13; refine HL.out.mono ?_; rintro e w1 ⟨rfl, hw⟩; rw [hw]; clear hw)
    | (go_at_call 27; refine HP.out.mono ?_; rintro e w2 ⟨rfl, l', HQ2, HP2, HB2⟩; obtain ⟨⟨c0, c1, c2, c3, c4, c5⟩, f0, f1, f2, f3, f4, f5⟩ := cell6 ((HB2.out.block w.heap.size (by simp) (by omega) (by intro e; injection e with e; omega)).trans (alAt rfl)); have hz : w.heap.size < w2.heap.size := (by have := HB2.out.size; simp at this; omega)))
  refine bodyPost_ret (v := .tuple #[.agg #[.int .i64 x.t, .int .i64 x.nd, .string x.v, .int .i64 x.fr, .int .i64 x.sq, .bool x.an], .bool true]) (by simp [results, Try.results16, go_sem, c0, c1, c2, c3, c4, c5]) rfl ?_
  have hN : gb ≠ w.heap.size := by omega
  have hO := set6_ot w2 w.heap.size (.int .i64 x.t) (.int .i64 x.nd) (.string x.v) (.int .i64 x.fr) (.int .i64 x.sq) (.bool x.an)
  revert hO
  generalize ((((((w2.setCell ⟨w.heap.size, 0, none⟩ (.int .i64 x.t)).setCell ⟨w.heap.size, 1, none⟩ (.int .i64 x.nd)).setCell ⟨w.heap.size, 2, none⟩ (.string x.v)).setCell ⟨w.heap.size, 3, none⟩ (.int .i64 x.fr)).setCell ⟨w.heap.size, 4, none⟩ (.int .i64 x.sq)).setCell ⟨w.heap.size, 5, none⟩ (.bool x.an)) = W6
  rintro ⟨ho6, ht6, hu6, hs6, kb⟩
  refine ⟨rfl, _, l', ⟨⟨(kb q (by omega)).trans HQ2.out.b.blk, own_at HQ2.out.b.row fun k hk => kb k (by injection hk with hk; have e : gb = k := hk; omega), HQ2.out.b.ge⟩, HQ2.out.h⟩, HP2.out, ?_, fun y e => Or.inl e⟩
  have hb := HB2.out
  have hz := hb.size
  simp at hz
  exact ⟨ho6.trans hb.os, ht6.trans hb.tape, hu6.trans hb.output, by omega, fun k hk a b => (kb k (by omega)).trans ((hb.block k (by simp; omega) a b).trans (alOld hk))⟩
end Go.Proofs.Ytfjkhcpneehdjaa
