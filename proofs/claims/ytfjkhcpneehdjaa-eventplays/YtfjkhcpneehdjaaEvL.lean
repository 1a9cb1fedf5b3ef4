/- A queue's calls: Min, Take, Cancel. -/
import Derived.Test.YtfjkhcpneehdjaaEvK
namespace Go.Proofs.Ytfjkhcpneehdjaa
open Go.RowKit Qu Go.Maps
set_option linter.unusedVariables false
set_option linter.unusedSimpArgs false

theorem row_some {B : Nat} {W : World} {ao : Option Addr} {n m cap : Nat} {l : List Ev} (h : EvS B W (.slice ao n cap) l) (hm : l.length = m + 1) : ∃ gb, ao = some ⟨gb, 0, none⟩ ∧ n = m + 1 ∧ EvR B W gb cap l := by
  have h' := h
  unfold EvS at h'
  rcases h'.2 with ⟨_, z⟩ | ⟨g', cap', cur, a, _⟩
  · omega
  · injection a with a b c
    subst a b c
    exact ⟨g', rfl, hm, h⟩
set_option maxHeartbeats 2000000 in
theorem take_none (p : Option Addr) (w : World) (h : ∀ W, Below w.heap.size w W → Calls Try.prog 13 #[.pointer p] W fun e w' => e = .returned (.int .i64 0) ∧ w' = W) :
    Calls Try.prog 16 #[.pointer p] w fun e w' => e = .returned (.tuple #[.agg #[.int .i64 0, .int .i64 0, .string ⟨#[]⟩, .int .i64 0, .int .i64 0, .bool false], .bool false]) ∧ Below w.heap.size w w' := by
  have H : Hid (∀ W, Below w.heap.size w W → Calls Try.prog 13 #[.pointer p] W fun e w' => e = .returned (.int .i64 0) ∧ w' = W) := h
  clear h
  go_enter Try.func16, Try.ntmps16
  go_wp2_with (first
    | (go_at_call 13; refine (H.out _ (belA (Below.refl _ _) _)).mono ?_; rintro e w1 ⟨rfl, hw⟩; rw [hw]; clear hw))
  go_returns
  exact ⟨rfl, belA (Below.refl _ _) _⟩
set_option maxHeartbeats 2000000 in
theorem min_none (p : Option Addr) (w : World) (h : ∀ W, Below w.heap.size w W → Calls Try.prog 13 #[.pointer p] W fun e w' => e = .returned (.int .i64 0) ∧ w' = W) :
    Calls Try.prog 17 #[.pointer p] w fun e w' => e = .returned (.tuple #[.agg #[.int .i64 0, .int .i64 0, .string ⟨#[]⟩, .int .i64 0, .int .i64 0, .bool false], .bool false]) ∧ Below w.heap.size w w' := by
  have H : Hid (∀ W, Below w.heap.size w W → Calls Try.prog 13 #[.pointer p] W fun e w' => e = .returned (.int .i64 0) ∧ w' = W) := h
  clear h
  go_enter Try.func17, Try.ntmps17
  go_wp2_with (first
    | (go_at_call 13; refine (H.out _ (belA (Below.refl _ _) _)).mono ?_; rintro e w1 ⟨rfl, hw⟩; rw [hw]; clear hw))
  go_returns
  exact ⟨rfl, belA (Below.refl _ _) _⟩
set_option maxHeartbeats 2000000 in
theorem min_c (B q m : Nat) (lim : Int) (v : Value) (l : List Ev) (w : World) (h : Qh B q lim w v l) (hm : l.length = m + 1) (hs : m ≤ 4096) :
    Calls Try.prog 17 #[.pointer (some ⟨q, 0, none⟩)] w fun e w' => e = .returned (.tuple #[.agg #[.int .i64 (g l 0).t, .int .i64 (g l 0).nd, .string (g l 0).v, .int .i64 (g l 0).fr, .int .i64 (g l 0).sq, .bool (g l 0).an], .bool true]) ∧ Below w.heap.size w w' := by
  have HB : Hid (Below w.heap.size w (w.alloc (.cells #[.int .i64 0, .int .i64 0, .string ⟨#[]⟩, .int .i64 0, .int .i64 0, .bool false] 34))) := belA (Below.refl _ _) _
  obtain ⟨ao, cap, rfl⟩ := h.b.row.slice
  obtain ⟨gb, rfl, _, hr⟩ := row_some h.b.row hm
  obtain ⟨a0, a1, a2, a3, a4, a5⟩ := hr.cells 0 (by omega)
  rw [Nat.zero_mul] at a0 a1 a2 a3 a4 a5
  simp only [Nat.zero_add] at a1 a2 a3 a4 a5
  have hgl := hr.lt
  obtain ⟨q0, q1, q2⟩ := h.b.cells
  have hql := hLt h.b.blk
  have HL : Hid (Calls Try.prog 13 #[.pointer (some ⟨q, 0, none⟩)] (w.alloc (.cells #[.int .i64 0, .int .i64 0, .string ⟨#[]⟩, .int .i64 0, .int .i64 0, .bool false] 34)) fun e w' => e = .returned (.int .i64 (l.length : Int)) ∧ w' = _) := len_c B q lim _ l _ (h.b.below HB.out)
  clear h hr
  rw [hm] at HL q2
  rw [show ((m + 1 : Nat) : Int) = (m : Int) + 1 by omega] at HL
  generalize g l 0 = x at a0 a1 a2 a3 a4 a5 ⊢
  have n0 : (((m : Int) + 1) == 0) = false := by rw [beq_eq_false_iff_ne]; omega
  have i2 : (0 : Int) < (m : Int) + 1 := by omega
  clear hm
  go_enter Try.func17, Try.ntmps17
  go_wp2_with (first
    | (go_at_call 13; refine HL.out.mono ?_; rintro e w1 ⟨rfl, hw⟩; rw [hw]; clear hw))
  go_returns
  exact ⟨rfl, belA (Below.refl _ _) _⟩
end Go.Proofs.Ytfjkhcpneehdjaa
