/- A call on both sides: Take, Min. -/
import Derived.Test.YtfjkhcpneehdjaaEwI
namespace Go.Proofs.Ytfjkhcpneehdjaa
open Go.RowKit Qu Go.Maps
set_option linter.unusedVariables false
set_option linter.unusedSimpArgs false
set_option maxRecDepth 100000

set_option maxHeartbeats 4000000 in
theorem does_take0 {B q n cap : Nat} {ao : Option Addr} {lim : Int} {w0 w : World} {v : Value} {l : List Ev} {s : List Ev} {x : Ev} (h : Pr B q lim w0 w v l (.slice ao n cap) s) (hB : B ≤ w0.heap.size) (hs : s = []) :
    Calls Try.prog 12 #[.pointer (some ⟨q, 0, none⟩), .agg #[.int .i64 lim, .slice ao n cap], .agg #[.int .i64 2, .int .i64 x.t, .int .i64 x.nd, .string x.v, .int .i64 x.fr, .int .i64 x.sq, .bool x.an]] w fun e w' => DoR B q lim w0 w v e w' := by
  have hl0 : l = [] := by have := h.p.length_eq; rw [hs] at this; exact List.eq_nil_of_length_eq_zero this
  have hn0 : n = 0 := by obtain ⟨ao', cap', e⟩ := h.r.slice; injection e with _ e2 _; rw [e2, hs]; rfl
  have HL : Hid (∀ W, Below w.heap.size w W → Calls Try.prog 13 #[.pointer (some ⟨q, 0, none⟩)] W fun e w' => e = .returned (.int .i64 0) ∧ w' = W) := fun W hW => by
    have k := len_c B q lim v l W (h.fq.q.b.below hW)
    rw [hl0] at k
    exact k
  subst hn0
  have HP : Hid (Pr B q lim w0 w v l (.slice ao 0 cap) s) := h
  have hql : q < w.heap.size := hLt h.fq.q.b.blk
  have hBw : B ≤ w.heap.size := by have := h.fq.b.size; omega
  clear h
  obtain ⟨T, hT⟩ : ∃ T, T = w.heap.size := ⟨_, rfl⟩
  have HT : Hid (T = w.heap.size) := hT
  have HB3 : Hid (Below w.heap.size w (((w.alloc (.cells #[.int .i64 lim, .slice ao 0 cap] 29)).alloc (.cells #[.int .i64 2, .int .i64 x.t, .int .i64 x.nd, .string x.v, .int .i64 x.fr, .int .i64 x.sq, .bool x.an] 36)).alloc (.cells #[.int .i64 0, .slice none 0 0] 29))) := belA (belA (belA (Below.refl _ _) _) _) _
  have HX3 : Hid (Bx w T lim 2 (.slice ao 0 cap) x (((w.alloc (.cells #[.int .i64 lim, .slice ao 0 cap] 29)).alloc (.cells #[.int .i64 2, .int .i64 x.t, .int .i64 x.nd, .string x.v, .int .i64 x.fr, .int .i64 x.sq, .bool x.an] 36)).alloc (.cells #[.int .i64 0, .slice none 0 0] 29))) := by rw [hT]; exact ⟨(alOld (by simp <;> omega)).trans ((alOld (by simp)).trans (alAt rfl)), (alOld (by simp)).trans (alAt (by simp)), alAt (by simp)⟩
  go_enter Try.func12, Try.ntmps12
  go_wp2_with (first
    | (go_at_call 16; refine (take_none (some ⟨q, 0, none⟩) _ (fun W hW => HL.out W (belT HB3.out hW))).mono ?_; rintro e w4 ⟨rfl, hb4⟩; have HX4 : Hid (Bx w T lim 2 (.slice ao 0 cap) x w4) := HX3.out.up hb4; have HB4 : Hid (Below w.heap.size w w4) := belT HB3.out hb4; obtain ⟨k0, k1, _, _⟩ := cells2 HX4.out.r; rw [hT] at k0 k1; have lT4 := hLt HX4.out.r; rw [hT] at lT4))
  rw [← hT]
  rw [← hT] at k0 k1 lT4
  obtain ⟨N, hN⟩ : ∃ N, N = w4.heap.size := ⟨_, rfl⟩
  obtain ⟨W5, hW5⟩ : ∃ W5, W5 = w4.alloc (.cells #[.int .i64 0, .int .i64 0, .string ⟨#[]⟩, .int .i64 0, .int .i64 0, .bool false] 34) := ⟨_, rfl⟩
  have b5 : Below w4.heap.size w4 W5 := by rw [hW5]; exact belA (Below.refl _ _) _
  have HX5 : Hid (Bx w T lim 2 (.slice ao 0 cap) x W5) := HX4.out.up b5
  have HB5 : Hid (Below w.heap.size w W5) := belT HB4.out b5
  have HP5 : Hid (Pr B q lim w0 W5 v l (.slice ao 0 cap) s) := HP.out.up hB HB5.out
  obtain ⟨⟨n0, n1, n2, n3, n4, n5⟩, _⟩ := cell6 (w := W5) (b := N) (by rw [hW5]; exact alAt hN.symm)
  have hne1 : N ≠ T + 1 + 1 := by have := hLt HX4.out.a; omega
  have hne2 : T + 1 + 1 ≠ N := by omega
  have hne3 : T ≠ T + 1 + 1 := by omega
  have hne4 : T + 1 + 1 ≠ T := by omega
  rw [← hN, ← hW5]
  clear hT hN hW5 b5 hb4 HX3 HB3 HX4 HB4 k0 k1 lT4
  obtain ⟨t0, t1, _, _⟩ := cells2 HX5.out.r
  obtain ⟨s0, s1, s2, s3⟩ := cells2 HX5.out.a
  have lA := hLt HX5.out.a
  go_region
  all_goals (
    go_wp2
    refine bodyPost_ret (v := .tuple #[.agg #[.int .i64 lim, .slice ao 0 cap], .bool true]) (by simp [results, Try.results12, go_sem, s0, s1]) rfl ?_
    have hF := pr_fin (w := w) (v := v) (a := .int .i64 lim) (b := .slice ao 0 cap) HP5.out hB (But2.bel HB5.out) HX5.out.a (by have := HT.out; omega) hql hBw
    exact ⟨v, l, _, s, rfl, ⟨hF.1.fq.up hB (Below.refl _ _).drew, hF.1.r, hF.1.t, hF.1.p, hF.1.sd, hF.1.ku, hF.1.n, hF.1.m⟩, ⟨hF.2.os, hF.2.tape, hF.2.output, hF.2.size, hF.2.block⟩, fun y e => Or.inl e⟩)
set_option maxHeartbeats 4000000 in
theorem does_min0 {B q n cap : Nat} {ao : Option Addr} {lim : Int} {w0 w : World} {v : Value} {l : List Ev} {s : List Ev} {x : Ev} (h : Pr B q lim w0 w v l (.slice ao n cap) s) (hB : B ≤ w0.heap.size) (hs : s = []) :
    Calls Try.prog 12 #[.pointer (some ⟨q, 0, none⟩), .agg #[.int .i64 lim, .slice ao n cap], .agg #[.int .i64 3, .int .i64 x.t, .int .i64 x.nd, .string x.v, .int .i64 x.fr, .int .i64 x.sq, .bool x.an]] w fun e w' => DoR B q lim w0 w v e w' := by
  have hl0 : l = [] := by have := h.p.length_eq; rw [hs] at this; exact List.eq_nil_of_length_eq_zero this
  have hn0 : n = 0 := by obtain ⟨ao', cap', e⟩ := h.r.slice; injection e with _ e2 _; rw [e2, hs]; rfl
  have HL : Hid (∀ W, Below w.heap.size w W → Calls Try.prog 13 #[.pointer (some ⟨q, 0, none⟩)] W fun e w' => e = .returned (.int .i64 0) ∧ w' = W) := fun W hW => by
    have k := len_c B q lim v l W (h.fq.q.b.below hW)
    rw [hl0] at k
    exact k
  subst hn0
  have HP : Hid (Pr B q lim w0 w v l (.slice ao 0 cap) s) := h
  have hql : q < w.heap.size := hLt h.fq.q.b.blk
  have hBw : B ≤ w.heap.size := by have := h.fq.b.size; omega
  clear h
  obtain ⟨T, hT⟩ : ∃ T, T = w.heap.size := ⟨_, rfl⟩
  have HT : Hid (T = w.heap.size) := hT
  have HB3 : Hid (Below w.heap.size w (((w.alloc (.cells #[.int .i64 lim, .slice ao 0 cap] 29)).alloc (.cells #[.int .i64 3, .int .i64 x.t, .int .i64 x.nd, .string x.v, .int .i64 x.fr, .int .i64 x.sq, .bool x.an] 36)).alloc (.cells #[.int .i64 0, .slice none 0 0] 29))) := belA (belA (belA (Below.refl _ _) _) _) _
  have HX3 : Hid (Bx w T lim 3 (.slice ao 0 cap) x (((w.alloc (.cells #[.int .i64 lim, .slice ao 0 cap] 29)).alloc (.cells #[.int .i64 3, .int .i64 x.t, .int .i64 x.nd, .string x.v, .int .i64 x.fr, .int .i64 x.sq, .bool x.an] 36)).alloc (.cells #[.int .i64 0, .slice none 0 0] 29))) := by rw [hT]; exact ⟨(alOld (by simp <;> omega)).trans ((alOld (by simp)).trans (alAt rfl)), (alOld (by simp)).trans (alAt (by simp)), alAt (by simp)⟩
  go_enter Try.func12, Try.ntmps12
  go_wp2_with (first
    | (go_at_call 17; refine (min_none (some ⟨q, 0, none⟩) _ (fun W hW => HL.out W (belT HB3.out hW))).mono ?_; rintro e w4 ⟨rfl, hb4⟩; have HX4 : Hid (Bx w T lim 3 (.slice ao 0 cap) x w4) := HX3.out.up hb4; have HB4 : Hid (Below w.heap.size w w4) := belT HB3.out hb4; obtain ⟨k0, k1, _, _⟩ := cells2 HX4.out.r; rw [hT] at k0 k1; have lT4 := hLt HX4.out.r; rw [hT] at lT4))
  rw [← hT]
  rw [← hT] at k0 k1 lT4
  obtain ⟨N, hN⟩ : ∃ N, N = w4.heap.size := ⟨_, rfl⟩
  obtain ⟨W5, hW5⟩ : ∃ W5, W5 = w4.alloc (.cells #[.int .i64 0, .int .i64 0, .string ⟨#[]⟩, .int .i64 0, .int .i64 0, .bool false] 34) := ⟨_, rfl⟩
  have b5 : Below w4.heap.size w4 W5 := by rw [hW5]; exact belA (Below.refl _ _) _
  have HX5 : Hid (Bx w T lim 3 (.slice ao 0 cap) x W5) := HX4.out.up b5
  have HB5 : Hid (Below w.heap.size w W5) := belT HB4.out b5
  have HP5 : Hid (Pr B q lim w0 W5 v l (.slice ao 0 cap) s) := HP.out.up hB HB5.out
  obtain ⟨⟨n0, n1, n2, n3, n4, n5⟩, _⟩ := cell6 (w := W5) (b := N) (by rw [hW5]; exact alAt hN.symm)
  have hne1 : N ≠ T + 1 + 1 := by have := hLt HX4.out.a; omega
  have hne2 : T + 1 + 1 ≠ N := by omega
  have hne3 : T ≠ T + 1 + 1 := by omega
  have hne4 : T + 1 + 1 ≠ T := by omega
  rw [← hN, ← hW5]
  clear hT hN hW5 b5 hb4 HX3 HB3 HX4 HB4 k0 k1 lT4
  obtain ⟨t0, t1, _, _⟩ := cells2 HX5.out.r
  obtain ⟨s0, s1, s2, s3⟩ := cells2 HX5.out.a
  have lA := hLt HX5.out.a
  go_region
  all_goals (
    go_wp2
    refine bodyPost_ret (v := .tuple #[.agg #[.int .i64 lim, .slice ao 0 cap], .bool true]) (by simp [results, Try.results12, go_sem, s0, s1]) rfl ?_
    have hF := pr_fin (w := w) (v := v) (a := .int .i64 lim) (b := .slice ao 0 cap) HP5.out hB (But2.bel HB5.out) HX5.out.a (by have := HT.out; omega) hql hBw
    exact ⟨v, l, _, s, rfl, ⟨hF.1.fq.up hB (Below.refl _ _).drew, hF.1.r, hF.1.t, hF.1.p, hF.1.sd, hF.1.ku, hF.1.n, hF.1.m⟩, ⟨hF.2.os, hF.2.tape, hF.2.output, hF.2.size, hF.2.block⟩, fun y e => Or.inl e⟩)
end Go.Proofs.Ytfjkhcpneehdjaa
