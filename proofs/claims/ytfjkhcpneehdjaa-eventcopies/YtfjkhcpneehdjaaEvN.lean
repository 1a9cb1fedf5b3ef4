/- A queue's calls: Cancel, Copy; of a queue that nobody made. -/
import Derived.Test.YtfjkhcpneehdjaaEvM
namespace Go.Proofs.Ytfjkhcpneehdjaa
open Go.RowKit Qu Go.Maps
set_option linter.unusedVariables false
set_option linter.unusedSimpArgs false

set_option maxHeartbeats 4000000 in
theorem cancel_no (B q : Nat) (lim : Int) (v : Value) (l : List Ev) (fr sq : Int) (w : World) (h : Qh B q lim w v l) (hl : l.length ≤ 4096) (hk : hasK l fr sq = false) :
    Calls Try.prog 18 #[.pointer (some ⟨q, 0, none⟩), .int .i64 fr, .int .i64 sq] w fun e w' => e = .returned (.bool false) ∧ Below w.heap.size w w' := by
  obtain ⟨ao, cap, rfl⟩ := h.b.row.slice
  obtain ⟨q0, q1, q2⟩ := h.b.cells
  have HG : Hid (Calls Try.prog 20 #[.pointer (some ⟨q, 0, none⟩)] w fun e w' => e = .returned (.bool true) ∧ w' = w) := given_c q _ q0
  have HF : Hid (Calls Try.prog 25 #[.slice ao l.length cap, .int .i64 fr, .int .i64 sq] w fun e w' => e = .returned (.int .i64 (-1)) ∧ Below w.heap.size w w') := (find_c B ao cap l fr sq w h.b.row (by omega)).mono (by rintro e w' ⟨k, rfl, a, b⟩; rw [a.out.no hk]; exact ⟨rfl, b⟩)
  clear h hk
  generalize l.length = n at *
  go_enter Try.func18, Try.ntmps18
  go_wp2_with (first
    | (go_at_call 20; refine HG.out.mono ?_; rintro e w' ⟨rfl, hw⟩; rw [hw]; clear hw)
    | (go_at_call 25; refine HF.out.mono ?_; rintro e w2 ⟨rfl, hb2⟩))
  go_ret
  exact ⟨rfl, hb2⟩
set_option maxHeartbeats 4000000 in
theorem cancel_yes (B q : Nat) (lim : Int) (v : Value) (l : List Ev) (fr sq : Int) (w : World) (h : Qh B q lim w v l) (hl : l.length ≤ 4096) (hk : hasK l fr sq = true) :
    Calls Try.prog 18 #[.pointer (some ⟨q, 0, none⟩), .int .i64 fr, .int .i64 sq] w fun e w' => e = .returned (.bool true) ∧ ∃ v' l' x, Hid (Qh B q lim w' v' l') ∧ Hid (l.Perm (x :: l') ∧ isK fr sq x) ∧ Hid (But2 q v.ownBlock w w') ∧ Hid (Mv v v' w) := by
  obtain ⟨m, hm⟩ : ∃ m, l.length = m + 1 := by
    obtain ⟨x, hx, _⟩ := hasK_iff.1 hk
    have := List.length_pos_of_mem hx
    exact ⟨l.length - 1, by omega⟩
  obtain ⟨ao, cap, rfl⟩ := h.b.row.slice
  obtain ⟨gb, rfl, _, hr⟩ := row_some h.b.row hm
  obtain ⟨q0, q1, q2⟩ := h.b.cells
  have HG : Hid (Calls Try.prog 20 #[.pointer (some ⟨q, 0, none⟩)] w fun e w' => e = .returned (.bool true) ∧ w' = w) := given_c q _ q0
  have HF : Hid (Calls Try.prog 25 #[.slice (some ⟨gb, 0, none⟩) l.length cap, .int .i64 fr, .int .i64 sq] w fun e w' => ∃ i : Nat, e = .returned (.int .i64 (i : Int)) ∧ Hid (i < l.length ∧ isK fr sq (g l i)) ∧ Below w.heap.size w w') := (find_c B (some ⟨gb, 0, none⟩) cap l fr sq w h.b.row (by omega)).mono (by rintro e w' ⟨k, rfl, a, b⟩; obtain ⟨i, hi, e, hs⟩ := a.out.yes hk; subst e; exact ⟨i, rfl, ⟨hi, hs⟩, b⟩)
  rw [hm] at h HF q2 ⊢
  have HQ : Hid (Qh B q lim w (.slice (some ⟨gb, 0, none⟩) (m + 1) cap) l) := h
  have HM : Hid (l.length = m + 1) := hm
  have hm' : m ≤ 4096 := by omega
  clear h hk hr hm hl
  go_enter Try.func18, Try.ntmps18
  go_wp2_with (first
    | (go_at_call 20; refine HG.out.mono ?_; rintro e w' ⟨rfl, hw⟩; rw [hw]; clear hw)
    | (go_at_call 25; refine HF.out.mono ?_; rintro e w2 ⟨i, rfl, HI, hb2⟩; have i0 : decide ((i : Int) < 0) = false := (by rw [decide_eq_false_iff_not]; omega))
    | (go_at_call 28; refine (hRemove_c B q gb cap m i lim l _ HM.out (HQ.out.below hb2) hm' HI.out.1).mono ?_; rintro e w3 ⟨⟨r3, rfl⟩, l', HQ3, HP3, HB3⟩))
  go_ret
  exact ⟨rfl, _, l', g l i, HQ3.out, ⟨HP3.out, HI.out.2⟩, (But2.bel hb2).trans HB3.out (fun x e => Or.inl e), fun x e => Or.inl e⟩
set_option maxHeartbeats 1000000 in
theorem cancel_nobody (p : Option Addr) (fr sq : Int) (w : World) (h : Calls Try.prog 20 #[.pointer p] w fun e w' => e = .returned (.bool false) ∧ w' = w) : Calls Try.prog 18 #[.pointer p, .int .i64 fr, .int .i64 sq] w fun e w' => e = .returned (.bool false) ∧ w' = w := by
  have H : Hid (Calls Try.prog 20 #[.pointer p] w fun e w' => e = .returned (.bool false) ∧ w' = w) := h
  clear h
  go_enter Try.func18, Try.ntmps18
  go_wp2_with (first
    | (go_at_call 20; refine H.out.mono ?_; rintro e w1 ⟨rfl, hw⟩; rw [hw]; clear hw))
  go_ret
  exact ⟨rfl, rfl⟩
set_option maxHeartbeats 1000000 in
theorem copy_nobody (p : Option Addr) (w : World) (h : Calls Try.prog 20 #[.pointer p] w fun e w' => e = .returned (.bool false) ∧ w' = w) : Calls Try.prog 11 #[.pointer p] w fun e w' => e = .returned (.pointer none) ∧ w' = w := by
  have H : Hid (Calls Try.prog 20 #[.pointer p] w fun e w' => e = .returned (.bool false) ∧ w' = w) := h
  clear h
  go_enter Try.func11, Try.ntmps11
  go_wp2_with (first
    | (go_at_call 20; refine H.out.mono ?_; rintro e w1 ⟨rfl, hw⟩; rw [hw]; clear hw))
  go_ret
  exact ⟨rfl, rfl⟩
set_option maxHeartbeats 4000000 in
theorem put_nobody (p : Option Addr) (x : Ev) (w : World) (h : ∀ W, Below w.heap.size w W → Calls Try.prog 20 #[.pointer p] W fun e w' => e = .returned (.bool false) ∧ w' = W) :
    Calls Try.prog 15 #[.pointer p, .agg #[.int .i64 x.t, .int .i64 x.nd, .string x.v, .int .i64 x.fr, .int .i64 x.sq, .bool x.an]] w fun e w' => e = .returned (.int .i64 1) ∧ Below w.heap.size w w' := by
  have HB : Hid (Below w.heap.size w (w.alloc (.cells #[.int .i64 x.t, .int .i64 x.nd, .string x.v, .int .i64 x.fr, .int .i64 x.sq, .bool x.an] 34))) := belA (Below.refl _ _) _
  have H : Hid (∀ W, Below w.heap.size w W → Calls Try.prog 20 #[.pointer p] W fun e w' => e = .returned (.bool false) ∧ w' = W) := h
  clear h
  go_enter Try.func15, Try.ntmps15
  go_wp2
  generalize w.alloc (.cells #[.int .i64 x.t, .int .i64 x.nd, .string x.v, .int .i64 x.fr, .int .i64 x.sq, .bool x.an] 34) = W at HB ⊢
  have HG : Hid (∀ n, Calls Try.prog 20 #[.pointer p] (W.drewN n) fun e w' => e = .returned (.bool false) ∧ w' = W.drewN n) := fun n => H.out _ (belDN HB.out n)
  go_quiet (first | (go_at_call 20; exact Calls.quiet_of_same (HG.out _)))
  go_wp2
  go_ret
  exact ⟨rfl, belDN HB.out _⟩
end Go.Proofs.Ytfjkhcpneehdjaa
