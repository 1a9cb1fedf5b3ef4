/- A call on both sides. -/
import Derived.Test.YtfjkhcpneehdjaaEwF
namespace Go.Proofs.Ytfjkhcpneehdjaa
open Go.RowKit Qu Go.Maps
set_option linter.unusedVariables false
set_option linter.unusedSimpArgs false
set_option maxRecDepth 100000

/-- what a call on both sides comes to -/
def DoR (B q : Nat) (lim : Int) (w0 w : World) (v : Value) (e : Ending) (w' : World) : Prop := ∃ v' l' vr' s', e = .returned (.tuple #[.agg #[.int .i64 lim, vr'], .bool true]) ∧ Pr B q lim w0 w' v' l' vr' s' ∧ But2 q v.ownBlock w w' ∧ Mv v v' w
theorem Pr.up {B q : Nat} {lim : Int} {w0 W W' : World} {v vr : Value} {l s : List Ev} (h : Pr B q lim w0 W v l vr s) (hB : B ≤ w0.heap.size) (hb : Below W.heap.size W W') : Pr B q lim w0 W' v l vr s := ⟨h.fq.up hB hb, h.r.below hb, h.t, h.p, h.sd, h.ku, h.n, h.m⟩
/-- the answer's block is written last -/
theorem pr_fin {B q R : Nat} {lim : Int} {w0 w W : World} {v v' vr : Value} {l s : List Ev} {c : Array Value} {a b : Value} (h : Pr B q lim w0 W v' l vr s) (hB : B ≤ w0.heap.size) (hb : But2 q v.ownBlock w W) (hR : W.heap[R]? = some (.cells c 29 (0, 0))) (hw : w.heap.size ≤ R) (hq : q < w.heap.size) (hBw : B ≤ w.heap.size) :
    Pr B q lim w0 ((W.setCell ⟨R, 0, none⟩ a).setCell ⟨R, 1, none⟩ b) v' l vr s ∧ But2 q v.ownBlock w ((W.setCell ⟨R, 0, none⟩ a).setCell ⟨R, 1, none⟩ b) := by
  have hbt : But R W ((W.setCell ⟨R, 0, none⟩ a).setCell ⟨R, 1, none⟩ b) := ((But.refl R W).set 0 a).set 1 b
  refine ⟨⟨h.fq.but hB hbt (by omega) (by omega) (own_neT h.fq.q.b.row hR (by decide)), own_at h.r fun k hk => hbt.block k (h.r.lt k hk) (fun e => by subst e; exact own_neT h.r hR (by decide) hk), h.t, h.p, h.sd, h.ku, h.n, h.m⟩, ⟨hbt.os.trans hb.os, hbt.tape.trans hb.tape, hbt.output.trans hb.output, Nat.le_trans hb.size hbt.size, fun k hk x y => (hbt.block k (Nat.lt_of_lt_of_le hk hb.size) (by omega)).trans (hb.block k hk x y)⟩⟩
theorem cell7 {w : World} {b : Nat} {y0 y1 y2 y3 y4 y5 y6 : Value} {t : TypeId} (h : w.heap[b]? = some (.cells #[y0, y1, y2, y3, y4, y5, y6] t (0, 0))) :
    w.cell? ⟨b, 0, none⟩ = some y0 ∧ w.cell? ⟨b, 1, none⟩ = some y1 ∧ w.cell? ⟨b, 2, none⟩ = some y2 ∧ w.cell? ⟨b, 3, none⟩ = some y3 ∧ w.cell? ⟨b, 4, none⟩ = some y4 ∧ w.cell? ⟨b, 5, none⟩ = some y5 ∧ w.cell? ⟨b, 6, none⟩ = some y6 := by
  refine ⟨?_, ?_, ?_, ?_, ?_, ?_, ?_⟩ <;> (rw [Lib.cell_of_heap h]; rfl)
/-- the blocks of a call on both sides -/
structure Bx (w : World) (T : Nat) (lim k : Int) (vr : Value) (x : Ev) (W : World) : Prop where
  r : W.heap[T]? = some (.cells #[.int .i64 lim, vr] 29 (0, 0))
  o : W.heap[T + 1]? = some (.cells #[.int .i64 k, .int .i64 x.t, .int .i64 x.nd, .string x.v, .int .i64 x.fr, .int .i64 x.sq, .bool x.an] 36 (0, 0))
  a : W.heap[T + 1 + 1]? = some (.cells #[.int .i64 0, .slice none 0 0] 29 (0, 0))
theorem Bx.up {w W W' : World} {T : Nat} {lim k : Int} {vr : Value} {x : Ev} (h : Bx w T lim k vr x W) (hb : Below W.heap.size W W') : Bx w T lim k vr x W' := ⟨(hb.block _ (hLt h.r)).trans h.r, (hb.block _ (hLt h.o)).trans h.o, (hb.block _ (hLt h.a)).trans h.a⟩
/-- the program's queue is called meanwhile -/
theorem Bx.act {w W W' : World} {B q T : Nat} {lim lim' k : Int} {v vr : Value} {l : List Ev} {x : Ev} (h : Bx w T lim k vr x W) (hq : Qh B q lim' W v l) (hl : q < T) (hb : But2 q v.ownBlock W W') : Bx w T lim k vr x W' :=
  ⟨(hb.block _ (hLt h.r) (by omega) (own_neT hq.b.row h.r (by decide))).trans h.r, (hb.block _ (hLt h.o) (by omega) (own_neT hq.b.row h.o (by decide))).trans h.o, (hb.block _ (hLt h.a) (by omega) (own_neT hq.b.row h.a (by decide))).trans h.a⟩
theorem blk_act {W W' : World} {B q N : Nat} {lim' : Int} {v : Value} {l : List Ev} {c : Array Value} {t : TypeId} (h : W.heap[N]? = some (.cells c t (0, 0))) (ht : t ≠ 34) (hq : Qh B q lim' W v l) (hl : N ≠ q) (hb : But2 q v.ownBlock W W') : W'.heap[N]? = some (.cells c t (0, 0)) :=
  (hb.block _ (hLt h) hl (own_neT hq.b.row h ht)).trans h
set_option maxHeartbeats 4000000 in
theorem does_else {B q n cap : Nat} {ao : Option Addr} {lim k : Int} {w0 w : World} {v : Value} {l : List Ev} {s : List Ev} {x : Ev} (h : Pr B q lim w0 w v l (.slice ao n cap) s) (hB : B ≤ w0.heap.size) (h1 : k ≠ 1) (h2 : k ≠ 2) (h3 : k ≠ 3) (h4 : k ≠ 4) :
    Calls Try.prog 12 #[.pointer (some ⟨q, 0, none⟩), .agg #[.int .i64 lim, .slice ao n cap], .agg #[.int .i64 k, .int .i64 x.t, .int .i64 x.nd, .string x.v, .int .i64 x.fr, .int .i64 x.sq, .bool x.an]] w fun e w' => DoR B q lim w0 w v e w' := by
  have q1 : (k == 1) = false := by rw [beq_eq_false_iff_ne]; exact h1
  have q2 : (k == 2) = false := by rw [beq_eq_false_iff_ne]; exact h2
  have q3 : (k == 3) = false := by rw [beq_eq_false_iff_ne]; exact h3
  have q4 : (k == 4) = false := by rw [beq_eq_false_iff_ne]; exact h4
  clear h1 h2 h3 h4
  have HP : Hid (Pr B q lim w0 w v l (.slice ao n cap) s) := h
  have hql : q < w.heap.size := hLt h.fq.q.b.blk
  have hBw : B ≤ w.heap.size := by have := h.fq.b.size; omega
  clear h
  obtain ⟨T, hT⟩ : ∃ T, T = w.heap.size := ⟨_, rfl⟩
  have HT : Hid (T = w.heap.size) := hT
  have HB3 : Hid (Below w.heap.size w (((w.alloc (.cells #[.int .i64 lim, .slice ao n cap] 29)).alloc (.cells #[.int .i64 k, .int .i64 x.t, .int .i64 x.nd, .string x.v, .int .i64 x.fr, .int .i64 x.sq, .bool x.an] 36)).alloc (.cells #[.int .i64 0, .slice none 0 0] 29))) := belA (belA (belA (Below.refl _ _) _) _) _
  have HX3 : Hid (Bx w T lim k (.slice ao n cap) x (((w.alloc (.cells #[.int .i64 lim, .slice ao n cap] 29)).alloc (.cells #[.int .i64 k, .int .i64 x.t, .int .i64 x.nd, .string x.v, .int .i64 x.fr, .int .i64 x.sq, .bool x.an] 36)).alloc (.cells #[.int .i64 0, .slice none 0 0] 29))) := by rw [hT]; exact ⟨(alOld (by simp <;> omega)).trans ((alOld (by simp)).trans (alAt rfl)), (alOld (by simp)).trans (alAt (by simp)), alAt (by simp)⟩
  go_enter Try.func12, Try.ntmps12
  go_wp2
  go_returns
  have h0 := HB3.out
  exact ⟨v, l, _, s, rfl, HP.out.up hB (belA (belA (belA (Below.refl _ _) _) _) _), But2.bel (belA (belA (belA (Below.refl _ _) _) _) _), fun x e => Or.inl e⟩
end Go.Proofs.Ytfjkhcpneehdjaa
