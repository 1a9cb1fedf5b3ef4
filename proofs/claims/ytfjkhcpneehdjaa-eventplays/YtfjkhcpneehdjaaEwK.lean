/- A call on both sides: Take, Min, where there is one. -/
import Derived.Test.YtfjkhcpneehdjaaEwJ
namespace Go.Proofs.Ytfjkhcpneehdjaa
open Go.RowKit Qu Go.Maps
set_option linter.unusedVariables false
set_option linter.unusedSimpArgs false
set_option maxRecDepth 100000

theorem EvR.first {B : Nat} {W : World} {gb cap : Nat} {l : List Ev} (h : EvR B W gb cap l) (hl : 0 < l.length) :
    W.cell? ⟨gb, 0, none⟩ = some (.int .i64 (g l 0).t) ∧ W.cell? ⟨gb, 1, none⟩ = some (.int .i64 (g l 0).nd) ∧ W.cell? ⟨gb, 2, none⟩ = some (.string (g l 0).v) ∧ W.cell? ⟨gb, 3, none⟩ = some (.int .i64 (g l 0).fr) ∧ W.cell? ⟨gb, 4, none⟩ = some (.int .i64 (g l 0).sq) ∧ W.cell? ⟨gb, 5, none⟩ = some (.bool (g l 0).an) := by
  have k := h.cells 0 hl
  simpa using k
set_option maxHeartbeats 4000000 in
theorem does_take1 {B q n cap : Nat} {ao : Option Addr} {lim : Int} {w0 w : World} {v : Value} {l : List Ev} {s : List Ev} {x : Ev} (h : Pr B q lim w0 w v l (.slice ao n cap) s) (hB : B ≤ w0.heap.size) (hs : 0 < s.length) :
    Calls Try.prog 12 #[.pointer (some ⟨q, 0, none⟩), .agg #[.int .i64 lim, .slice ao n cap], .agg #[.int .i64 2, .int .i64 x.t, .int .i64 x.nd, .string x.v, .int .i64 x.fr, .int .i64 x.sq, .bool x.an]] w fun e w' => DoR B q lim w0 w v e w' := by
  have hn4 : s.length ≤ 4096 := by have h1 := h.n; have h2 := h.m; omega
  obtain ⟨m, hm⟩ : ∃ m, l.length = m + 1 := ⟨l.length - 1, by rw [h.p.length_eq]; omega⟩
  have hm4 : m ≤ 4096 := by rw [h.p.length_eq] at hm; omega
  have hge : g l 0 = g s 0 := min_eq h.fq.q.h h.p h.sd h.ku (by have := g_drop hs; rw [List.drop_zero] at this; exact this)
  obtain ⟨gb, hao, hnn⟩ : ∃ gb, ao = some ⟨gb, 0, none⟩ ∧ n = s.length := by
    rcases h.r.shape with ⟨_, e⟩ | ⟨gb, c, e, _⟩
    · rw [e] at hs; simp at hs
    · injection e with e1 e2 e3; exact ⟨gb, e1, e2⟩
  subst hao
  have HN : Hid (n = s.length) := hnn
  have hn0 : ((n : Int) == 0) = false := by rw [beq_eq_false_iff_ne]; omega
  have hn1 : (0 : Int) < (n : Int) := by omega
  have hn2 : decide ((0 : Int) < (n : Int)) = true := by rw [decide_eq_true_eq]; omega
  have hn3 : decide (0 < n) = true := by rw [decide_eq_true_eq]; omega
  have hn5 : (n == 0) = false := by rw [beq_eq_false_iff_ne]; omega
  obtain ⟨y, hy⟩ : ∃ y, y = g s 0 := ⟨_, rfl⟩
  have Hy : Hid (y = g s 0) := hy
  have HS0 : Hid (0 < s.length) := hs
  have HTk : Hid (∀ W, Qh B q lim W v l → B ≤ W.heap.size → Calls Try.prog 16 #[.pointer (some ⟨q, 0, none⟩)] W fun e w' => e = .returned (.tuple #[.agg #[.int .i64 y.t, .int .i64 y.nd, .string y.v, .int .i64 y.fr, .int .i64 y.sq, .bool y.an], .bool true]) ∧ ∃ v' l', Hid (Qh B q lim w' v' l') ∧ Hid (l.Perm (y :: l')) ∧ Hid (But2 q v.ownBlock W w') ∧ Hid (Mv v v' W)) := fun W hq hb => by
    have k := take_c B q m lim v l W hq hm hm4 hb
    rw [hge, ← hy] at k
    exact k
  have HWo : Hid (∀ W, EvS B W (.slice (some ⟨gb, 0, none⟩) n cap) s → Calls Try.prog 23 #[.agg #[.int .i64 lim, .slice (some ⟨gb, 0, none⟩) n cap], .int .i64 0] W fun e w' => ∃ v', e = .returned (.agg #[.int .i64 lim, v']) ∧ Hid (EvS W.heap.size w' v' (s.eraseIdx 0)) ∧ Below W.heap.size W w') := fun W hr => by
    have hr' : EvR B W gb cap s := by rw [hnn] at hr; exact hr
    have k := rWithout_c B gb cap 0 lim s W hr' hn4 hs
    rw [← hnn] at k
    exact k
  clear hge hm hy hnn hs
  have HP : Hid (Pr B q lim w0 w v l (.slice (some ⟨gb, 0, none⟩) n cap) s) := h
  have hql : q < w.heap.size := hLt h.fq.q.b.blk
  have hBw : B ≤ w.heap.size := by have := h.fq.b.size; omega
  clear h
  obtain ⟨T, hT⟩ : ∃ T, T = w.heap.size := ⟨_, rfl⟩
  have HT : Hid (T = w.heap.size) := hT
  have HB3 : Hid (Below w.heap.size w (((w.alloc (.cells #[.int .i64 lim, .slice (some ⟨gb, 0, none⟩) n cap] 29)).alloc (.cells #[.int .i64 2, .int .i64 x.t, .int .i64 x.nd, .string x.v, .int .i64 x.fr, .int .i64 x.sq, .bool x.an] 36)).alloc (.cells #[.int .i64 0, .slice none 0 0] 29))) := belA (belA (belA (Below.refl _ _) _) _) _
  have HX3 : Hid (Bx w T lim 2 (.slice (some ⟨gb, 0, none⟩) n cap) x (((w.alloc (.cells #[.int .i64 lim, .slice (some ⟨gb, 0, none⟩) n cap] 29)).alloc (.cells #[.int .i64 2, .int .i64 x.t, .int .i64 x.nd, .string x.v, .int .i64 x.fr, .int .i64 x.sq, .bool x.an] 36)).alloc (.cells #[.int .i64 0, .slice none 0 0] 29))) := by rw [hT]; exact ⟨(alOld (by simp <;> omega)).trans ((alOld (by simp)).trans (alAt rfl)), (alOld (by simp)).trans (alAt (by simp)), alAt (by simp)⟩
  go_enter Try.func12, Try.ntmps12
  go_wp2_with (first
    | (go_at_call 16; refine (HTk.out _ (HP.out.fq.q.below HB3.out) (by have := HB3.out.size; omega)).mono ?_; rintro e w4 ⟨rfl, v', l', r1, r2, r3, r4⟩; have HX4 : Hid (Bx w T lim 2 (.slice (some ⟨gb, 0, none⟩) n cap) x w4) := HX3.out.act (HP.out.fq.q.below HB3.out) (by omega) r3.out; obtain ⟨k0, k1, _, _⟩ := cells2 HX4.out.r; rw [hT] at k0 k1; have lT4 := hLt HX4.out.r; rw [hT] at lT4))
  have HR4 : Hid (EvS B w4 (.slice (some ⟨gb, 0, none⟩) n cap) s) := (HP.out.r.below HB3.out).beside (HP.out.fq.q.below HB3.out) HP.out.t r3.out
  have HW4 : Hid (Wd B q lim w0 w4 v' l') := (HP.out.fq.up hB HB3.out).act hB r1.out r3.out
  have HT4 : Hid (Two v' (.slice (some ⟨gb, 0, none⟩) n cap)) := (HP.out.t.sym.mv r4.out (HP.out.r.below HB3.out).lt).sym
  have HB4 : Hid (But2 q v.ownBlock w w4) := (But2.bel HB3.out).trans r3.out (fun y e => Or.inl e)
  have HM4 : Hid (Mv v v' w) := fun y e => by rcases r4.out y e with k | k; exact Or.inl k; exact Or.inr (Nat.le_trans HB3.out.size k)
  have HL4 : Hid (l.Perm (y :: l')) := r2.out
  rw [← hT]
  rw [← hT] at k0 k1 lT4
  obtain ⟨N, hN⟩ : ∃ N, N = w4.heap.size := ⟨_, rfl⟩
  obtain ⟨W5, hW5⟩ : ∃ W5, W5 = w4.alloc (.cells #[.int .i64 y.t, .int .i64 y.nd, .string y.v, .int .i64 y.fr, .int .i64 y.sq, .bool y.an] 34) := ⟨_, rfl⟩
  have b5 : Below w4.heap.size w4 W5 := by rw [hW5]; exact belA (Below.refl _ _) _
  have HX5 : Hid (Bx w T lim 2 (.slice (some ⟨gb, 0, none⟩) n cap) x W5) := HX4.out.up b5
  have HB5 : Hid (But2 q v.ownBlock w W5) := HB4.out.below b5
  have HR5 : Hid (EvS B W5 (.slice (some ⟨gb, 0, none⟩) n cap) s) := HR4.out.below b5
  have HN5 : Hid (W5.heap[N]? = some (.cells #[.int .i64 y.t, .int .i64 y.nd, .string y.v, .int .i64 y.fr, .int .i64 y.sq, .bool y.an] 34 (0, 0))) := by rw [hW5]; exact alAt hN.symm
  have hne1 : N ≠ T + 1 + 1 := by have := hLt HX4.out.a; omega
  have hne2 : T + 1 + 1 ≠ N := by omega
  have hne3 : T ≠ T + 1 + 1 := by omega
  have hne4 : T + 1 + 1 ≠ T := by omega
  have hgA : gb ≠ T + 1 + 1 := fun e => own_neT HR5.out HX5.out.a (by decide) (by rw [e]; rfl)
  have hgA' : T + 1 + 1 ≠ gb := fun e => hgA e.symm
  have HW5 : Hid (Wd B q lim w0 W5 v' l') := HW4.out.up hB b5
  rw [← hN, ← hW5]
  clear hT hN hW5 b5 HX3 HB3 HX4 HB4 k0 k1 lT4 r1 r2 r3 r4
  obtain ⟨⟨n0, n1, n2, n3, n4, n5⟩, _⟩ := cell6 HN5.out
  obtain ⟨t0, t1, _, _⟩ := cells2 HX5.out.r
  obtain ⟨s0, s1, s2, s3⟩ := cells2 HX5.out.a
  have hr5 : EvR B W5 gb cap s := by have := HR5.out; rw [HN.out] at this; exact this
  obtain ⟨a0, a1, a2, a3, a4, a5⟩ := hr5.first HS0.out
  rw [← Hy.out] at a0 a1 a2 a3 a4 a5
  have hgl := hr5.lt
  have lA := hLt HX5.out.a
  have lT := hLt HX5.out.r
  have lN := hLt HN5.out
  clear hr5
  have HWd : Hid (Calls Try.prog 23 #[.agg #[.int .i64 lim, .slice (some ⟨gb, 0, none⟩) n cap], .int .i64 0] W5.drew fun e w' => ∃ v', e = .returned (.agg #[.int .i64 lim, v']) ∧ Hid (EvS W5.drew.heap.size w' v' (s.eraseIdx 0)) ∧ Below W5.drew.heap.size W5.drew w') := HWo.out W5.drew (HR5.out.below (Below.refl _ _).drew)
  go_region_held (fun w' => w'.cell? ⟨T, 0, none⟩ = some (.int .i64 lim) ∧ w'.cell? ⟨T, 1, none⟩ = some (.slice (some ⟨gb, 0, none⟩) n cap) ∧ w'.cell? ⟨N, 0, none⟩ = some (.int .i64 y.t) ∧ w'.cell? ⟨N, 1, none⟩ = some (.int .i64 y.nd) ∧ w'.cell? ⟨N, 2, none⟩ = some (.string y.v) ∧ w'.cell? ⟨N, 3, none⟩ = some (.int .i64 y.fr) ∧ w'.cell? ⟨N, 4, none⟩ = some (.int .i64 y.sq) ∧ w'.cell? ⟨N, 5, none⟩ = some (.bool y.an) ∧ w'.cell? ⟨gb, 0, none⟩ = some (.int .i64 y.t) ∧ w'.cell? ⟨gb, 1, none⟩ = some (.int .i64 y.nd) ∧ w'.cell? ⟨gb, 2, none⟩ = some (.string y.v) ∧ w'.cell? ⟨gb, 3, none⟩ = some (.int .i64 y.fr) ∧ w'.cell? ⟨gb, 4, none⟩ = some (.int .i64 y.sq) ∧ w'.cell? ⟨gb, 5, none⟩ = some (.bool y.an)) (go_keep) (first
    | (go_at_call 23; refine HWd.out.mono ?_; rintro e w6 ⟨v6, rfl, HS6, hb6⟩; obtain ⟨ao6, cap6, hv6⟩ := HS6.out.slice; obtain ⟨n6, hn6⟩ : ∃ n6, n6 = (s.eraseIdx 0).length := ⟨_, rfl⟩; rw [← hn6] at hv6; rw [hv6] at HS6 ⊢; clear hv6 hn6; have b6 := belW (Below.refl _ _) hb6; have HX6 : Hid (Bx w T lim 2 (.slice (some ⟨gb, 0, none⟩) n cap) x w6) := HX5.out.up b6; have HN6 : Hid (w6.heap[N]? = some (.cells #[.int .i64 y.t, .int .i64 y.nd, .string y.v, .int .i64 y.fr, .int .i64 y.sq, .bool y.an] 34 (0, 0))) := (b6.block _ (hLt HN5.out)).trans HN5.out; obtain ⟨⟨m0, m1, m2, m3, m4, m5⟩, _⟩ := cell6 HN6.out; obtain ⟨u0, u1, _, _⟩ := cells2 HX6.out.r; obtain ⟨z0, z1, z2, z3⟩ := cells2 HX6.out.a; have hr6 : EvR B w6 gb cap s := (by have := HR5.out.below b6; rw [HN.out] at this; exact this); obtain ⟨b0, b1, b2, b3, b4, b5⟩ := hr6.first HS0.out; rw [← Hy.out] at b0 b1 b2 b3 b4 b5; have lA6 := hLt HX6.out.a; have HB6 : Hid (Below W5.heap.size W5 w6) := b6; clear hr6 b6 hb6))
  all_goals (
    go_wp2
    refine bodyPost_ret (v := .tuple #[.agg #[.int .i64 lim, .slice ao6 n6 cap6], .bool true]) (by simp [results, Try.results12, go_sem, z0, z1]) rfl ?_
    have hPr : Pr B q lim w0 w6 v' l' (.slice ao6 n6 cap6) (s.eraseIdx 0) := ⟨HW5.out.up hB HB6.out, own_mono HS6.out (by have := HB5.out.size; show B ≤ W5.heap.size; omega), fun z e1 e2 => by have h1 := HW5.out.q.lt z e1; have h2 : W5.heap.size ≤ z := (World.ownsRow.lt HS6.out z e2).1; omega, both_lose HP.out.p HP.out.ku HL4.out HS0.out (by rw [Hy.out]) (by rw [Hy.out]), HP.out.sd.erase 0, HP.out.ku.sub fun z hz => (List.eraseIdx_sublist s 0).subset hz, by rw [List.length_eraseIdx_of_lt HS0.out]; have := HP.out.n; omega, HP.out.m⟩
    have hF := pr_fin (w := w) (v := v) (a := .int .i64 lim) (b := .slice ao6 n6 cap6) hPr hB (HB5.out.below HB6.out) HX6.out.a (by have := HT.out; omega) hql hBw
    exact ⟨v', l', _, s.eraseIdx 0, rfl, hF.1, hF.2, HM4.out⟩)
set_option maxHeartbeats 4000000 in
theorem does_min1 {B q n cap : Nat} {ao : Option Addr} {lim : Int} {w0 w : World} {v : Value} {l : List Ev} {s : List Ev} {x : Ev} (h : Pr B q lim w0 w v l (.slice ao n cap) s) (hB : B ≤ w0.heap.size) (hs : 0 < s.length) :
    Calls Try.prog 12 #[.pointer (some ⟨q, 0, none⟩), .agg #[.int .i64 lim, .slice ao n cap], .agg #[.int .i64 3, .int .i64 x.t, .int .i64 x.nd, .string x.v, .int .i64 x.fr, .int .i64 x.sq, .bool x.an]] w fun e w' => DoR B q lim w0 w v e w' := by
  have hn4 : s.length ≤ 4096 := by have h1 := h.n; have h2 := h.m; omega
  obtain ⟨m, hm⟩ : ∃ m, l.length = m + 1 := ⟨l.length - 1, by rw [h.p.length_eq]; omega⟩
  have hm4 : m ≤ 4096 := by rw [h.p.length_eq] at hm; omega
  have hge : g l 0 = g s 0 := min_eq h.fq.q.h h.p h.sd h.ku (by have := g_drop hs; rw [List.drop_zero] at this; exact this)
  obtain ⟨gb, hao, hnn⟩ : ∃ gb, ao = some ⟨gb, 0, none⟩ ∧ n = s.length := by
    rcases h.r.shape with ⟨_, e⟩ | ⟨gb, c, e, _⟩
    · rw [e] at hs; simp at hs
    · injection e with e1 e2 e3; exact ⟨gb, e1, e2⟩
  subst hao
  have HN : Hid (n = s.length) := hnn
  have hn0 : ((n : Int) == 0) = false := by rw [beq_eq_false_iff_ne]; omega
  have hn1 : (0 : Int) < (n : Int) := by omega
  have hn2 : decide ((0 : Int) < (n : Int)) = true := by rw [decide_eq_true_eq]; omega
  have hn3 : decide (0 < n) = true := by rw [decide_eq_true_eq]; omega
  have hn5 : (n == 0) = false := by rw [beq_eq_false_iff_ne]; omega
  obtain ⟨y, hy⟩ : ∃ y, y = g s 0 := ⟨_, rfl⟩
  have Hy : Hid (y = g s 0) := hy
  have HS0 : Hid (0 < s.length) := hs
  have HTk : Hid (∀ W, Qh B q lim W v l → Calls Try.prog 17 #[.pointer (some ⟨q, 0, none⟩)] W fun e w' => e = .returned (.tuple #[.agg #[.int .i64 y.t, .int .i64 y.nd, .string y.v, .int .i64 y.fr, .int .i64 y.sq, .bool y.an], .bool true]) ∧ Below W.heap.size W w') := fun W hq => by
    have k := min_c B q m lim v l W hq hm hm4
    rw [hge, ← hy] at k
    exact k
  clear hge hm hy hnn hs
  have HP : Hid (Pr B q lim w0 w v l (.slice (some ⟨gb, 0, none⟩) n cap) s) := h
  have hql : q < w.heap.size := hLt h.fq.q.b.blk
  have hBw : B ≤ w.heap.size := by have := h.fq.b.size; omega
  clear h
  obtain ⟨T, hT⟩ : ∃ T, T = w.heap.size := ⟨_, rfl⟩
  have HT : Hid (T = w.heap.size) := hT
  have HB3 : Hid (Below w.heap.size w (((w.alloc (.cells #[.int .i64 lim, .slice (some ⟨gb, 0, none⟩) n cap] 29)).alloc (.cells #[.int .i64 3, .int .i64 x.t, .int .i64 x.nd, .string x.v, .int .i64 x.fr, .int .i64 x.sq, .bool x.an] 36)).alloc (.cells #[.int .i64 0, .slice none 0 0] 29))) := belA (belA (belA (Below.refl _ _) _) _) _
  have HX3 : Hid (Bx w T lim 3 (.slice (some ⟨gb, 0, none⟩) n cap) x (((w.alloc (.cells #[.int .i64 lim, .slice (some ⟨gb, 0, none⟩) n cap] 29)).alloc (.cells #[.int .i64 3, .int .i64 x.t, .int .i64 x.nd, .string x.v, .int .i64 x.fr, .int .i64 x.sq, .bool x.an] 36)).alloc (.cells #[.int .i64 0, .slice none 0 0] 29))) := by rw [hT]; exact ⟨(alOld (by simp <;> omega)).trans ((alOld (by simp)).trans (alAt rfl)), (alOld (by simp)).trans (alAt (by simp)), alAt (by simp)⟩
  go_enter Try.func12, Try.ntmps12
  go_wp2_with (first
    | (go_at_call 17; refine (HTk.out _ (HP.out.fq.q.below HB3.out)).mono ?_; rintro e w4 ⟨rfl, hb4⟩; have HX4 : Hid (Bx w T lim 3 (.slice (some ⟨gb, 0, none⟩) n cap) x w4) := HX3.out.up hb4; obtain ⟨k0, k1, _, _⟩ := cells2 HX4.out.r; rw [hT] at k0 k1; have lT4 := hLt HX4.out.r; rw [hT] at lT4))
  have HR4 : Hid (EvS B w4 (.slice (some ⟨gb, 0, none⟩) n cap) s) := HP.out.r.below (belT HB3.out hb4)
  have HP4 : Hid (Pr B q lim w0 w4 v l (.slice (some ⟨gb, 0, none⟩) n cap) s) := HP.out.up hB (belT HB3.out hb4)
  have HB4 : Hid (But2 q v.ownBlock w w4) := But2.bel (belT HB3.out hb4)
  rw [← hT]
  rw [← hT] at k0 k1 lT4
  obtain ⟨N, hN⟩ : ∃ N, N = w4.heap.size := ⟨_, rfl⟩
  obtain ⟨W5, hW5⟩ : ∃ W5, W5 = w4.alloc (.cells #[.int .i64 y.t, .int .i64 y.nd, .string y.v, .int .i64 y.fr, .int .i64 y.sq, .bool y.an] 34) := ⟨_, rfl⟩
  have b5 : Below w4.heap.size w4 W5 := by rw [hW5]; exact belA (Below.refl _ _) _
  have HX5 : Hid (Bx w T lim 3 (.slice (some ⟨gb, 0, none⟩) n cap) x W5) := HX4.out.up b5
  have HB5 : Hid (But2 q v.ownBlock w W5) := HB4.out.below b5
  have HR5 : Hid (EvS B W5 (.slice (some ⟨gb, 0, none⟩) n cap) s) := HR4.out.below b5
  have HN5 : Hid (W5.heap[N]? = some (.cells #[.int .i64 y.t, .int .i64 y.nd, .string y.v, .int .i64 y.fr, .int .i64 y.sq, .bool y.an] 34 (0, 0))) := by rw [hW5]; exact alAt hN.symm
  have hne1 : N ≠ T + 1 + 1 := by have := hLt HX4.out.a; omega
  have hne2 : T + 1 + 1 ≠ N := by omega
  have hne3 : T ≠ T + 1 + 1 := by omega
  have hne4 : T + 1 + 1 ≠ T := by omega
  have hgA : gb ≠ T + 1 + 1 := fun e => own_neT HR5.out HX5.out.a (by decide) (by rw [e]; rfl)
  have hgA' : T + 1 + 1 ≠ gb := fun e => hgA e.symm
  have HP5 : Hid (Pr B q lim w0 W5 v l (.slice (some ⟨gb, 0, none⟩) n cap) s) := HP4.out.up hB b5
  rw [← hN, ← hW5]
  clear hT hN hW5 b5 HX3 HB3 HX4 HB4 k0 k1 lT4 hb4
  obtain ⟨⟨n0, n1, n2, n3, n4, n5⟩, _⟩ := cell6 HN5.out
  obtain ⟨t0, t1, _, _⟩ := cells2 HX5.out.r
  obtain ⟨s0, s1, s2, s3⟩ := cells2 HX5.out.a
  have hr5 : EvR B W5 gb cap s := by have := HR5.out; rw [HN.out] at this; exact this
  obtain ⟨a0, a1, a2, a3, a4, a5⟩ := hr5.first HS0.out
  rw [← Hy.out] at a0 a1 a2 a3 a4 a5
  have hgl := hr5.lt
  have lA := hLt HX5.out.a
  have lT := hLt HX5.out.r
  have lN := hLt HN5.out
  clear hr5
  go_region
  all_goals (
    go_wp2
    refine bodyPost_ret (v := .tuple #[.agg #[.int .i64 lim, .slice (some ⟨gb, 0, none⟩) n cap], .bool true]) (by simp [results, Try.results12, go_sem, s0, s1]) rfl ?_
    have hF := pr_fin (w := w) (v := v) (a := .int .i64 lim) (b := .slice (some ⟨gb, 0, none⟩) n cap) HP5.out hB HB5.out HX5.out.a (by have := HT.out; omega) hql hBw
    exact ⟨v, l, _, s, rfl, ⟨hF.1.fq.up hB (Below.refl _ _).drew, hF.1.r, hF.1.t, hF.1.p, hF.1.sd, hF.1.ku, hF.1.n, hF.1.m⟩, ⟨hF.2.os, hF.2.tape, hF.2.output, hF.2.size, hF.2.block⟩, fun y e => Or.inl e⟩)
end Go.Proofs.Ytfjkhcpneehdjaa
