/- Texts EvL EvM EvN, joined: what each part says stands ahead of it. -/
import Derived.Test.YtokepgnnepjiaaaGreatEvK
/- A queue's calls: Min, Take, Cancel. -/
namespace Go.Proofs.YtokepgnnepjiaaaGreat.Q
set_option maxRecDepth 100000
open Go.RowKit Qu Go.Maps
set_option linter.unusedVariables false
set_option linter.unusedSimpArgs false

theorem row_some {B : Nat} {W : World} {ao : Option Addr} {n m cap : Nat} {l : List Ev} (h : EvS B W (.slice ao n cap) l) (hm : l.length = m + 1) : ∃ gb, ao = some ⟨gb, 0, none⟩ ∧ n = m + 1 ∧ EvR B W gb cap l := by
  have h' := h
  unfold EvS at h'
  rcases h'.2 with ⟨_, z⟩ | ⟨g', cap', cur, a, _⟩
  · omega
  · injection a with a b c
    subst a b c
    exact ⟨g', rfl, hm, h⟩
set_option maxHeartbeats 2000000 in
theorem take_none (p : Option Addr) (w : World) (h : ∀ W, Below w.heap.size w W → Calls Tryz.prog 46 #[.pointer p] W fun e w' => e = .returned (.int .i64 0) ∧ w' = W) :
    Calls Tryz.prog 73 #[.pointer p] w fun e w' => e = .returned (.tuple #[.agg #[.int .i64 0, .int .i64 0, .string ⟨#[]⟩, .int .i64 0, .int .i64 0, .bool false], .bool false]) ∧ Below w.heap.size w w' := by
  have H : Hid (∀ W, Below w.heap.size w W → Calls Tryz.prog 46 #[.pointer p] W fun e w' => e = .returned (.int .i64 0) ∧ w' = W) := h
  clear h
  go_enter Tryz.func73, Tryz.ntmps73
  go_wp2_with (first
    | (go_at_call 46; refine (H.out _ (belA (Below.refl _ _) _)).mono ?_; rintro e w1 ⟨rfl, hw⟩; rw [hw]; clear hw))
  go_returns
  exact ⟨rfl, belA (Below.refl _ _) _⟩
set_option maxHeartbeats 2000000 in
theorem min_none (p : Option Addr) (w : World) (h : ∀ W, Below w.heap.size w W → Calls Tryz.prog 46 #[.pointer p] W fun e w' => e = .returned (.int .i64 0) ∧ w' = W) :
    Calls Tryz.prog 27 #[.pointer p] w fun e w' => e = .returned (.tuple #[.agg #[.int .i64 0, .int .i64 0, .string ⟨#[]⟩, .int .i64 0, .int .i64 0, .bool false], .bool false]) ∧ Below w.heap.size w w' := by
  have H : Hid (∀ W, Below w.heap.size w W → Calls Tryz.prog 46 #[.pointer p] W fun e w' => e = .returned (.int .i64 0) ∧ w' = W) := h
  clear h
  go_enter Tryz.func27, Tryz.ntmps27
  go_wp2_with (first
    | (go_at_call 46; refine (H.out _ (belA (Below.refl _ _) _)).mono ?_; rintro e w1 ⟨rfl, hw⟩; rw [hw]; clear hw))
  go_returns
  exact ⟨rfl, belA (Below.refl _ _) _⟩
set_option maxHeartbeats 2000000 in
theorem min_c (B q m : Nat) (lim : Int) (v : Value) (l : List Ev) (w : World) (h : Qh B q lim w v l) (hm : l.length = m + 1) (hs : m ≤ 4096) :
    Calls Tryz.prog 27 #[.pointer (some ⟨q, 0, none⟩)] w fun e w' => e = .returned (.tuple #[.agg #[.int .i64 (g l 0).t, .int .i64 (g l 0).nd, .string (g l 0).v, .int .i64 (g l 0).fr, .int .i64 (g l 0).sq, .bool (g l 0).an], .bool true]) ∧ Below w.heap.size w w' := by
  have HB : Hid (Below w.heap.size w (w.alloc (.cells #[.int .i64 0, .int .i64 0, .string ⟨#[]⟩, .int .i64 0, .int .i64 0, .bool false] 39))) := belA (Below.refl _ _) _
  obtain ⟨ao, cap, rfl⟩ := h.b.row.slice
  obtain ⟨gb, rfl, _, hr⟩ := row_some h.b.row hm
  obtain ⟨a0, a1, a2, a3, a4, a5⟩ := hr.cells 0 (by omega)
  rw [Nat.zero_mul] at a0 a1 a2 a3 a4 a5
  simp only [Nat.zero_add] at a1 a2 a3 a4 a5
  have hgl := hr.lt
  obtain ⟨q0, q1, q2⟩ := h.b.cells
  have hql := hLt h.b.blk
  have HL : Hid (Calls Tryz.prog 46 #[.pointer (some ⟨q, 0, none⟩)] (w.alloc (.cells #[.int .i64 0, .int .i64 0, .string ⟨#[]⟩, .int .i64 0, .int .i64 0, .bool false] 39)) fun e w' => e = .returned (.int .i64 (l.length : Int)) ∧ w' = _) := len_c B q lim _ l _ (h.b.below HB.out)
  clear h hr
  rw [hm] at HL q2
  rw [show ((m + 1 : Nat) : Int) = (m : Int) + 1 by omega] at HL
  generalize g l 0 = x at a0 a1 a2 a3 a4 a5 ⊢
  have n0 : (((m : Int) + 1) == 0) = false := by rw [beq_eq_false_iff_ne]; omega
  have i2 : (0 : Int) < (m : Int) + 1 := by omega
  clear hm
  go_enter Tryz.func27, Tryz.ntmps27
  go_wp2_with (first
    | (go_at_call 46; refine HL.out.mono ?_; rintro e w1 ⟨rfl, hw⟩; rw [hw]; clear hw))
  go_returns
  exact ⟨rfl, belA (Below.refl _ _) _⟩
end Go.Proofs.YtokepgnnepjiaaaGreat.Q

/- A queue's calls: Take, Cancel, Copy. -/
namespace Go.Proofs.YtokepgnnepjiaaaGreat.Q
set_option maxRecDepth 100000
open Go.RowKit Qu Go.Maps
set_option linter.unusedVariables false
set_option linter.unusedSimpArgs false

theorem Qh.below {B q : Nat} {lim : Int} {W W' : World} {v : Value} {l : List Ev} (h : Qh B q lim W v l) (hb : Below W.heap.size W W') : Qh B q lim W' v l := ⟨h.b.below hb, h.h⟩
def z6 : Obj := .cells #[.int .i64 0, .int .i64 0, .string ⟨#[]⟩, .int .i64 0, .int .i64 0, .bool false] 39
theorem cell6 {w : World} {b : Nat} {y0 y1 y2 y3 y4 y5 : Value} {t : TypeId} (h : w.heap[b]? = some (.cells #[y0, y1, y2, y3, y4, y5] t (0, 0))) :
    (w.cell? ⟨b, 0, none⟩ = some y0 ∧ w.cell? ⟨b, 1, none⟩ = some y1 ∧ w.cell? ⟨b, 2, none⟩ = some y2 ∧ w.cell? ⟨b, 3, none⟩ = some y3 ∧ w.cell? ⟨b, 4, none⟩ = some y4 ∧ w.cell? ⟨b, 5, none⟩ = some y5) ∧ (w.frozen? ⟨b, 0, none⟩ = false ∧ w.frozen? ⟨b, 1, none⟩ = false ∧ w.frozen? ⟨b, 2, none⟩ = false ∧ w.frozen? ⟨b, 3, none⟩ = false ∧ w.frozen? ⟨b, 4, none⟩ = false ∧ w.frozen? ⟨b, 5, none⟩ = false) := by
  refine ⟨⟨?_, ?_, ?_, ?_, ?_, ?_⟩, ?_, ?_, ?_, ?_, ?_, ?_⟩ <;> first | (rw [Lib.cell_of_heap h]; rfl) | simp [World.frozen?, h]
theorem set1_block {W : World} {N k i : Nat} {v : Value} (h : k ≠ N) : (W.setCell ⟨N, i, none⟩ v).heap[k]? = W.heap[k]? := Below.heap_setCell _ _ _ _ (by show k ≠ N; exact h)
theorem set1_size {W : World} {p : Addr} {v : Value} : (W.setCell p v).heap.size = W.heap.size := by simp [World.setCell]
/-- all but one block are as they were -/
structure Ot (N : Nat) (W W' : World) : Prop where
  os : W'.os = W.os
  tape : W'.tape = W.tape
  output : W'.output = W.output
  size : W'.heap.size = W.heap.size
  block : ∀ k, k ≠ N → W'.heap[k]? = W.heap[k]?
theorem Ot.refl (N : Nat) (W : World) : Ot N W W := ⟨rfl, rfl, rfl, rfl, fun _ _ => rfl⟩
theorem Ot.set {N : Nat} {W W' : World} (h : Ot N W W') (i : Nat) (v : Value) : Ot N W (W'.setCell ⟨N, i, none⟩ v) := ⟨h.os, h.tape, h.output, set1_size.trans h.size, fun k hk => (set1_block hk).trans (h.block k hk)⟩
theorem set6_ot (W : World) (N : Nat) (a b c d e f : Value) : Ot N W ((((((W.setCell ⟨N, 0, none⟩ a).setCell ⟨N, 1, none⟩ b).setCell ⟨N, 2, none⟩ c).setCell ⟨N, 3, none⟩ d).setCell ⟨N, 4, none⟩ e).setCell ⟨N, 5, none⟩ f) := ((((((Ot.refl N W).set 0 a).set 1 b).set 2 c).set 3 d).set 4 e).set 5 f
set_option maxHeartbeats 4000000 in
theorem take_c (B q m : Nat) (lim : Int) (v : Value) (l : List Ev) (w : World) (h : Qh B q lim w v l) (hm : l.length = m + 1) (hs : m ≤ 4096) (hB : B ≤ w.heap.size) :
    Calls Tryz.prog 73 #[.pointer (some ⟨q, 0, none⟩)] w fun e w' => e = .returned (.tuple #[.agg #[.int .i64 (g l 0).t, .int .i64 (g l 0).nd, .string (g l 0).v, .int .i64 (g l 0).fr, .int .i64 (g l 0).sq, .bool (g l 0).an], .bool true]) ∧ ∃ v' l', Hid (Qh B q lim w' v' l') ∧ Hid (l.Perm (g l 0 :: l')) ∧ Hid (But2 q v.ownBlock w w') ∧ Hid (Mv v v' w) := by
  have HB : Hid (Below w.heap.size w (w.alloc (.cells #[.int .i64 0, .int .i64 0, .string ⟨#[]⟩, .int .i64 0, .int .i64 0, .bool false] 39))) := belA (Below.refl _ _) _
  obtain ⟨ao, cap, rfl⟩ := h.b.row.slice
  obtain ⟨gb, rfl, _, hr⟩ := row_some h.b.row hm
  rw [hm] at h ⊢
  have HL : Hid (Calls Tryz.prog 46 #[.pointer (some ⟨q, 0, none⟩)] (w.alloc (.cells #[.int .i64 0, .int .i64 0, .string ⟨#[]⟩, .int .i64 0, .int .i64 0, .bool false] 39)) fun e w' => e = .returned (.int .i64 (l.length : Int)) ∧ w' = _) := len_c B q lim _ l _ (h.b.below HB.out)
  rw [hm] at HL
  rw [show ((m + 1 : Nat) : Int) = (m : Int) + 1 by omega] at HL
  have n0 : (((m : Int) + 1) == 0) = false := by rw [beq_eq_false_iff_ne]; omega
  have HP : Hid (Calls Tryz.prog 96 #[.iface 104 (.pointer (some ⟨q, 2, none⟩))] (w.alloc (.cells #[.int .i64 0, .int .i64 0, .string ⟨#[]⟩, .int .i64 0, .int .i64 0, .bool false] 39)) fun e w' => e = .returned (.iface 39 (.agg #[.int .i64 (g l 0).t, .int .i64 (g l 0).nd, .string (g l 0).v, .int .i64 (g l 0).fr, .int .i64 (g l 0).sq, .bool (g l 0).an])) ∧ ∃ l', Hid (Qh B q lim w' (.slice (some ⟨gb, 0, none⟩) m cap) l') ∧ Hid (l.Perm (g l 0 :: l')) ∧ Hid (But2 q (some gb) (w.alloc (.cells #[.int .i64 0, .int .i64 0, .string ⟨#[]⟩, .int .i64 0, .int .i64 0, .bool false] 39)) w')) := hPop_c B q gb cap m lim l _ hm (h.below HB.out) hs
  have hql := hLt h.b.blk
  have hgl := hr.lt
  have HQ : Hid (Qh B q lim w (.slice (some ⟨gb, 0, none⟩) (m + 1) cap) l) := h
  clear h hr hm
  generalize g l 0 = x at HP ⊢
  have hta : ∀ W, (Instr.typeAssert (.iface 39 (.agg #[.int .i64 x.t, .int .i64 x.nd, .string x.v, .int .i64 x.fr, .int .i64 x.sq, .bool x.an])) 20 39 false).run Tryz.prog W = .ok (.agg #[.int .i64 x.t, .int .i64 x.nd, .string x.v, .int .i64 x.fr, .int .i64 x.sq, .bool x.an]) W := fun W => by kernel_rfl
  go_enter Tryz.func73, Tryz.ntmps73
  go_wp2_with (first
    | (go_at_call 46; refine HL.out.mono ?_; rintro e w1 ⟨rfl, hw⟩; rw [hw]; clear hw)
    | (go_at_call 96; refine HP.out.mono ?_; rintro e w2 ⟨rfl, l', HQ2, HP2, HB2⟩; obtain ⟨⟨c0, c1, c2, c3, c4, c5⟩, f0, f1, f2, f3, f4, f5⟩ := cell6 ((HB2.out.block w.heap.size (by simp) (by omega) (by intro e; injection e with e; omega)).trans (alAt rfl)); have hz : w.heap.size < w2.heap.size := (by have := HB2.out.size; simp at this; omega)))
  refine bodyPost_ret (v := .tuple #[.agg #[.int .i64 x.t, .int .i64 x.nd, .string x.v, .int .i64 x.fr, .int .i64 x.sq, .bool x.an], .bool true]) (by simp [results, Tryz.results73, go_sem, c0, c1, c2, c3, c4, c5]) rfl ?_
  have hN : gb ≠ w.heap.size := by omega
  have hO := set6_ot w2 w.heap.size (.int .i64 x.t) (.int .i64 x.nd) (.string x.v) (.int .i64 x.fr) (.int .i64 x.sq) (.bool x.an)
  revert hO
  generalize ((((((w2.setCell ⟨w.heap.size, 0, none⟩ (.int .i64 x.t)).setCell ⟨w.heap.size, 1, none⟩ (.int .i64 x.nd)).setCell ⟨w.heap.size, 2, none⟩ (.string x.v)).setCell ⟨w.heap.size, 3, none⟩ (.int .i64 x.fr)).setCell ⟨w.heap.size, 4, none⟩ (.int .i64 x.sq)).setCell ⟨w.heap.size, 5, none⟩ (.bool x.an)) = W6
  rintro ⟨ho6, ht6, hu6, hs6, kb⟩
  refine ⟨rfl, _, l', ⟨⟨(kb q (by omega)).trans HQ2.out.b.blk, own_at HQ2.out.b.row fun k hk => kb k (by injection hk with hk; have e : gb = k := hk; omega), HQ2.out.b.ge⟩, HQ2.out.h⟩, HP2.out, ?_, fun y e => Or.inl e⟩
  have hb := HB2.out
  have hz := hb.size
  simp at hz
  exact ⟨ho6.trans hb.os, ht6.trans hb.tape, hu6.trans hb.output, by omega, fun k hk a b => (kb k (by omega)).trans ((hb.block k (by simp; omega) a b).trans (alOld hk))⟩
end Go.Proofs.YtokepgnnepjiaaaGreat.Q

/- A queue's calls: Cancel, Copy; of a queue that nobody made. -/
namespace Go.Proofs.YtokepgnnepjiaaaGreat.Q
set_option maxRecDepth 100000
open Go.RowKit Qu Go.Maps
set_option linter.unusedVariables false
set_option linter.unusedSimpArgs false

set_option maxHeartbeats 4000000 in
theorem cancel_no (B q : Nat) (lim : Int) (v : Value) (l : List Ev) (fr sq : Int) (w : World) (h : Qh B q lim w v l) (hl : l.length ≤ 4096) (hk : hasK l fr sq = false) :
    Calls Tryz.prog 26 #[.pointer (some ⟨q, 0, none⟩), .int .i64 fr, .int .i64 sq] w fun e w' => e = .returned (.bool false) ∧ Below w.heap.size w w' := by
  obtain ⟨ao, cap, rfl⟩ := h.b.row.slice
  obtain ⟨q0, q1, q2⟩ := h.b.cells
  have HG : Hid (Calls Tryz.prog 51 #[.pointer (some ⟨q, 0, none⟩)] w fun e w' => e = .returned (.bool true) ∧ w' = w) := given_c q _ q0
  have HF : Hid (Calls Tryz.prog 52 #[.slice ao l.length cap, .int .i64 fr, .int .i64 sq] w fun e w' => e = .returned (.int .i64 (-1)) ∧ Below w.heap.size w w') := (find_c B ao cap l fr sq w h.b.row (by omega)).mono (by rintro e w' ⟨k, rfl, a, b⟩; rw [a.out.no hk]; exact ⟨rfl, b⟩)
  clear h hk
  generalize l.length = n at *
  go_enter Tryz.func26, Tryz.ntmps26
  go_wp2_with (first
    | (go_at_call 51; refine HG.out.mono ?_; rintro e w' ⟨rfl, hw⟩; rw [hw]; clear hw)
    | (go_at_call 52; refine HF.out.mono ?_; rintro e w2 ⟨rfl, hb2⟩))
  go_ret
  exact ⟨rfl, hb2⟩
set_option maxHeartbeats 4000000 in
theorem cancel_yes (B q : Nat) (lim : Int) (v : Value) (l : List Ev) (fr sq : Int) (w : World) (h : Qh B q lim w v l) (hl : l.length ≤ 4096) (hk : hasK l fr sq = true) :
    Calls Tryz.prog 26 #[.pointer (some ⟨q, 0, none⟩), .int .i64 fr, .int .i64 sq] w fun e w' => e = .returned (.bool true) ∧ ∃ v' l' x, Hid (Qh B q lim w' v' l') ∧ Hid (l.Perm (x :: l') ∧ isK fr sq x) ∧ Hid (But2 q v.ownBlock w w') ∧ Hid (Mv v v' w) := by
  obtain ⟨m, hm⟩ : ∃ m, l.length = m + 1 := by
    obtain ⟨x, hx, _⟩ := hasK_iff.1 hk
    have := List.length_pos_of_mem hx
    exact ⟨l.length - 1, by omega⟩
  obtain ⟨ao, cap, rfl⟩ := h.b.row.slice
  obtain ⟨gb, rfl, _, hr⟩ := row_some h.b.row hm
  obtain ⟨q0, q1, q2⟩ := h.b.cells
  have HG : Hid (Calls Tryz.prog 51 #[.pointer (some ⟨q, 0, none⟩)] w fun e w' => e = .returned (.bool true) ∧ w' = w) := given_c q _ q0
  have HF : Hid (Calls Tryz.prog 52 #[.slice (some ⟨gb, 0, none⟩) l.length cap, .int .i64 fr, .int .i64 sq] w fun e w' => ∃ i : Nat, e = .returned (.int .i64 (i : Int)) ∧ Hid (i < l.length ∧ isK fr sq (g l i)) ∧ Below w.heap.size w w') := (find_c B (some ⟨gb, 0, none⟩) cap l fr sq w h.b.row (by omega)).mono (by rintro e w' ⟨k, rfl, a, b⟩; obtain ⟨i, hi, e, hs⟩ := a.out.yes hk; subst e; exact ⟨i, rfl, ⟨hi, hs⟩, b⟩)
  rw [hm] at h HF q2 ⊢
  have HQ : Hid (Qh B q lim w (.slice (some ⟨gb, 0, none⟩) (m + 1) cap) l) := h
  have HM : Hid (l.length = m + 1) := hm
  have hm' : m ≤ 4096 := by omega
  clear h hk hr hm hl
  go_enter Tryz.func26, Tryz.ntmps26
  go_wp2_with (first
    | (go_at_call 51; refine HG.out.mono ?_; rintro e w' ⟨rfl, hw⟩; rw [hw]; clear hw)
    | (go_at_call 52; refine HF.out.mono ?_; rintro e w2 ⟨i, rfl, HI, hb2⟩; have i0 : decide ((i : Int) < 0) = false := (by rw [decide_eq_false_iff_not]; omega))
    | (go_at_call 54; refine (hRemove_c B q gb cap m i lim l _ HM.out (HQ.out.below hb2) hm' HI.out.1).mono ?_; rintro e w3 ⟨⟨r3, rfl⟩, l', HQ3, HP3, HB3⟩))
  go_ret
  exact ⟨rfl, _, l', g l i, HQ3.out, ⟨HP3.out, HI.out.2⟩, (But2.bel hb2).trans HB3.out (fun x e => Or.inl e), fun x e => Or.inl e⟩
set_option maxHeartbeats 1000000 in
theorem cancel_nobody (p : Option Addr) (fr sq : Int) (w : World) (h : Calls Tryz.prog 51 #[.pointer p] w fun e w' => e = .returned (.bool false) ∧ w' = w) : Calls Tryz.prog 26 #[.pointer p, .int .i64 fr, .int .i64 sq] w fun e w' => e = .returned (.bool false) ∧ w' = w := by
  have H : Hid (Calls Tryz.prog 51 #[.pointer p] w fun e w' => e = .returned (.bool false) ∧ w' = w) := h
  clear h
  go_enter Tryz.func26, Tryz.ntmps26
  go_wp2_with (first
    | (go_at_call 51; refine H.out.mono ?_; rintro e w1 ⟨rfl, hw⟩; rw [hw]; clear hw))
  go_ret
  exact ⟨rfl, rfl⟩
set_option maxHeartbeats 1000000 in
theorem copy_nobody (p : Option Addr) (w : World) (h : Calls Tryz.prog 51 #[.pointer p] w fun e w' => e = .returned (.bool false) ∧ w' = w) : Calls Tryz.prog 30 #[.pointer p] w fun e w' => e = .returned (.pointer none) ∧ w' = w := by
  have H : Hid (Calls Tryz.prog 51 #[.pointer p] w fun e w' => e = .returned (.bool false) ∧ w' = w) := h
  clear h
  go_enter Tryz.func30, Tryz.ntmps30
  go_wp2_with (first
    | (go_at_call 51; refine H.out.mono ?_; rintro e w1 ⟨rfl, hw⟩; rw [hw]; clear hw))
  go_ret
  exact ⟨rfl, rfl⟩
set_option maxHeartbeats 4000000 in
theorem put_nobody (p : Option Addr) (x : Ev) (w : World) (h : ∀ W, Below w.heap.size w W → Calls Tryz.prog 51 #[.pointer p] W fun e w' => e = .returned (.bool false) ∧ w' = W) :
    Calls Tryz.prog 25 #[.pointer p, .agg #[.int .i64 x.t, .int .i64 x.nd, .string x.v, .int .i64 x.fr, .int .i64 x.sq, .bool x.an]] w fun e w' => e = .returned (.int .i64 1) ∧ Below w.heap.size w w' := by
  have HB : Hid (Below w.heap.size w (w.alloc (.cells #[.int .i64 x.t, .int .i64 x.nd, .string x.v, .int .i64 x.fr, .int .i64 x.sq, .bool x.an] 39))) := belA (Below.refl _ _) _
  have H : Hid (∀ W, Below w.heap.size w W → Calls Tryz.prog 51 #[.pointer p] W fun e w' => e = .returned (.bool false) ∧ w' = W) := h
  clear h
  go_enter Tryz.func25, Tryz.ntmps25
  go_wp2
  generalize w.alloc (.cells #[.int .i64 x.t, .int .i64 x.nd, .string x.v, .int .i64 x.fr, .int .i64 x.sq, .bool x.an] 39) = W at HB ⊢
  have HG : Hid (∀ n, Calls Tryz.prog 51 #[.pointer p] (W.drewN n) fun e w' => e = .returned (.bool false) ∧ w' = W.drewN n) := fun n => H.out _ (belDN HB.out n)
  go_quiet (first | (go_at_call 51; exact Calls.quiet_of_same (HG.out _)))
  go_wp2
  go_ret
  exact ⟨rfl, belDN HB.out _⟩
end Go.Proofs.YtokepgnnepjiaaaGreat.Q
