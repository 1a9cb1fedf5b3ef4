/- A queue's Copy. -/
import Derived.Test.YtfjkhcpneehdjaaEvV
namespace Go.Proofs.Ytfjkhcpneehdjaa
open Go.RowKit Qu Go.Maps
set_option linter.unusedVariables false
set_option linter.unusedSimpArgs false
set_option maxRecDepth 100000

theorem clone_nil (w : World) : Calls Try.prog 21 #[.slice none 0 0] w fun e w' => e = .returned (.slice none 0 0) ∧ w' = w := by
  have he : ∀ W, (binOp BinOp.eql 49 (.slice none 0 0) (.slice none 0 0)).run Try.prog W = .ok (.bool true) W := fun W => by kernel_rfl
  go_enter Try.func21, Try.ntmps21
  go_wp2
  go_ret
  exact ⟨rfl, rfl⟩
set_option maxHeartbeats 2000000 in
theorem clone_some (B gb cap : Nat) (l : List Ev) (w : World) (h : EvR B w gb cap l) (hn : l.length ≤ 1000000) : Calls Try.prog 21 #[.slice (some ⟨gb, 0, none⟩) l.length cap] w fun e w' => ∃ g' cap', e = .returned (.slice (some ⟨g', 0, none⟩) l.length cap') ∧ Hid (EvR w.heap.size w' g' cap' l) ∧ Below w.heap.size w w' := by
  obtain ⟨i, h1, h2, h3, h4⟩ := infoEv
  have HR : Hid (EvR B w gb cap l) := h
  have HE : Hid (∀ u ∈ evs l, u.oneCell' = true) := fun u hu => by
    obtain ⟨x, hx, hu'⟩ := List.mem_flatMap.1 hu
    exact one6 x u hu'
  clear h
  obtain ⟨n, hN⟩ : ∃ n, n = l.length := ⟨_, rfl⟩
  have HN : Hid (n = l.length) := hN
  rw [← hN] at hn ⊢
  clear hN
  have he : ∀ W, (binOp BinOp.eql 49 (.slice (some ⟨gb, 0, none⟩) n cap) (.slice none 0 0)).run Try.prog W = .ok (.bool false) W := fun W => by kernel_rfl
  go_enter Try.func21, Try.ntmps21
  go_wp2_with (first
    | (at_builtin; refine wpList_append_own_at _ rfl _ _ 49 rfl w.heap.size 34 i _ 6 56 Try.underlying49 h1 h2 h3 h4 rfl (by decide) _ 0 [] rfl (World.ownsRow_made w #[] 0 (Nat.le_refl _) (by unfold maxLen; omega) rfl) ⟨gb, 0, none⟩ n cap (evs l) rfl (by rw [evs_len, HN.out]) (fun j u hj => ((World.ownsRow.cells (v := .slice (some ⟨gb, 0, none⟩) l.length cap) (HR.out.at_ (alOld HR.out.lt)) rfl) j u hj)) HE.out (by unfold maxLen; omega) (by omega) (by simp) ?_; intro v9 w9 hown9 hgrow9 hnil9 hloc9))
  obtain ⟨g', cap', rfl⟩ : ∃ g' cap', v9 = .slice (some ⟨g', 0, none⟩) n cap' := by
    rcases hown9.2 with ⟨e, _⟩ | ⟨g', cap', cur, e, _⟩
    · have := (hnil9.1 e).1
      simp [Act.eval] at this
    · exact ⟨g', cap', by rw [e, Nat.zero_add]⟩
  go_ret
  refine ⟨g', cap', rfl, ?_, ?_⟩
  · show EvR _ _ _ _ _
    unfold EvR
    rw [← HN.out]
    simpa using hown9
  · have hb := belA (Below.refl w.heap.size w) (.cells #[] 34)
    exact ⟨hgrow9.os, hgrow9.tape, hgrow9.output, Nat.le_trans hb.size hgrow9.size, fun k hk => (hgrow9.block k (Nat.lt_of_lt_of_le hk hb.size) (by simp [Act.eval, Value.ownBlock]; omega)).trans (hb.block k hk)⟩
theorem clone_c (B : Nat) (ao : Option Addr) (cap : Nat) (l : List Ev) (w : World) (h : EvS B w (.slice ao l.length cap) l) (hn : l.length ≤ 1000000) : Calls Try.prog 21 #[.slice ao l.length cap] w fun e w' => ∃ ao' cap', e = .returned (.slice ao' l.length cap') ∧ Hid (EvS w.heap.size w' (.slice ao' l.length cap') l) ∧ Below w.heap.size w w' := by
  have h' := h
  unfold EvS at h'
  rcases h'.2 with ⟨a, z⟩ | ⟨g', cap', cur, a, _⟩
  · rw [a]
    refine (clone_nil w).mono ?_
    rintro e w' ⟨rfl, hw⟩
    rw [hw]
    refine ⟨none, 0, by rw [z], ?_, Below.refl _ _⟩
    have hl : l = [] := List.eq_nil_of_length_eq_zero z
    subst hl
    exact World.ownsRow_nil _ _ _ _
  · injection a with a b c
    subst a c
    refine (clone_some B g' cap l w h hn).mono ?_
    rintro e w' ⟨g2, cap2, rfl, a, b⟩
    exact ⟨_, _, rfl, a.out, b⟩
set_option maxHeartbeats 4000000 in
theorem copy_c (B q : Nat) (lim : Int) (v : Value) (l : List Ev) (w : World) (h : Qh B q lim w v l) (hl : l.length ≤ 4096) :
    Calls Try.prog 11 #[.pointer (some ⟨q, 0, none⟩)] w fun e w' => ∃ q' v', e = .returned (.pointer (some ⟨q', 0, none⟩)) ∧ Hid (Qh w.heap.size q' lim w' v' l) ∧ Below w.heap.size w w' := by
  obtain ⟨ao, cap, rfl⟩ := h.b.row.slice
  obtain ⟨q0, q1, q2⟩ := h.b.cells
  have hq := hLt h.b.blk
  have HG : Hid (Calls Try.prog 20 #[.pointer (some ⟨q, 0, none⟩)] w fun e w' => e = .returned (.bool true) ∧ w' = w) := given_c q _ q0
  have HC : Hid (Calls Try.prog 21 #[.slice ao l.length cap] w.drew fun e w' => ∃ ao' cap', e = .returned (.slice ao' l.length cap') ∧ Hid (EvS w.drew.heap.size w' (.slice ao' l.length cap') l) ∧ Below w.drew.heap.size w.drew w') := clone_c B ao cap l w.drew (h.b.row.below (Below.refl _ _).drew) (by omega)
  have HH : Hid (Hp l l.length) := h.h
  clear h
  obtain ⟨n, hN⟩ : ∃ n, n = l.length := ⟨_, rfl⟩
  have HN : Hid (n = l.length) := hN
  rw [← hN] at HC q2 hl
  clear hN
  go_enter Try.func11, Try.ntmps11
  go_wp2_with (first
    | (go_at_call 20; refine HG.out.mono ?_; rintro e w' ⟨rfl, hw⟩; rw [hw]; clear hw))
  go_region_held (fun w' => w'.cell? ⟨q, 1, none⟩ = some (.int .i64 lim) ∧ w'.cell? ⟨q, 2, none⟩ = some (.slice ao n cap)) (go_keep) (first
    | (go_at_call 21; refine HC.out.mono ?_; rintro e w2 ⟨ao', cap', rfl, HS, hb2⟩; have e1 : w2.cell? ⟨q, 1, none⟩ = some (.int .i64 lim) := (hb2.cell (p := ⟨q, 1, none⟩) hq).trans q1; have e2 : w2.cell? ⟨q, 2, none⟩ = some (.slice ao n cap) := (hb2.cell (p := ⟨q, 2, none⟩) hq).trans q2; have hq2 : q < w2.heap.size := Nat.lt_of_lt_of_le hq hb2.size; have HC2 : Hid (Calls Try.prog 19 #[.int .i64 lim, .slice ao' n cap'] w2 fun e w' => e = .returned (.pointer (some ⟨w2.heap.size, 0, none⟩)) ∧ w' = w2.alloc (.cells #[.pointer (some ⟨w2.heap.size, 0, none⟩), .int .i64 lim, .slice ao' n cap'] 51)) := queueOf_c lim ao' n cap' w2)
    | (go_at_call 19; refine HC2.out.mono ?_; rintro e w3 ⟨rfl, hw⟩; rw [hw]; clear hw; have k1 : (w2.alloc (.cells #[.pointer (some ⟨w2.heap.size, 0, none⟩), .int .i64 lim, .slice ao' n cap'] 51)).cell? ⟨q, 1, none⟩ = some (.int .i64 lim) := ((belA (Below.refl w2.heap.size w2) _).cell (p := ⟨q, 1, none⟩) hq2).trans e1; have k2 : (w2.alloc (.cells #[.pointer (some ⟨w2.heap.size, 0, none⟩), .int .i64 lim, .slice ao' n cap'] 51)).cell? ⟨q, 2, none⟩ = some (.slice ao n cap) := ((belA (Below.refl w2.heap.size w2) _).cell (p := ⟨q, 2, none⟩) hq2).trans e2))
  all_goals (
    go_wp2
    go_ret
    have hb := belW (Below.refl _ _) hb2
    have hz := hb.size
    refine ⟨_, _, rfl, ⟨⟨alAt rfl, ?_, hz⟩, HH.out⟩, belT hb (belA (Below.refl _ _) _)⟩
    exact HS.out.below (belA (Below.refl _ _) _))
end Go.Proofs.Ytfjkhcpneehdjaa
