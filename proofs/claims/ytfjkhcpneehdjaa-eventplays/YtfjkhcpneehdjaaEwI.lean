/- A call on both sides: Cancel. -/
import Derived.Test.YtfjkhcpneehdjaaEwH
namespace Go.Proofs.Ytfjkhcpneehdjaa
open Go.RowKit Qu Go.Maps
set_option linter.unusedVariables false
set_option linter.unusedSimpArgs false
set_option maxRecDepth 100000

theorem erase_perm {s : List Ev} {k : Nat} (hk : k < s.length) : s.Perm (g s k :: s.eraseIdx k) := by
  have e : s = s.take k ++ g s k :: s.drop (k + 1) := by rw [← g_drop hk, List.take_append_drop]
  have e2 : s.eraseIdx k = s.take k ++ s.drop (k + 1) := List.eraseIdx_eq_take_drop_succ s k
  rw [e2]
  have p : (s.take k ++ g s k :: s.drop (k + 1)).Perm (g s k :: (s.take k ++ s.drop (k + 1))) := List.perm_middle
  rw [← e] at p
  exact p
theorem Sd.erase {s : List Ev} (h : Sd s) (k : Nat) : Sd (s.eraseIdx k) := by unfold Sd at *; exact h.sublist (List.eraseIdx_sublist s k)
/-- both sides lose an event of one number -/
theorem both_lose {l l' s : List Ev} {x : Ev} {k : Nat} (hp : l.Perm s) (ku : KU s) (hl : l.Perm (x :: l')) (hk : k < s.length) (h1 : x.fr = (g s k).fr) (h2 : x.sq = (g s k).sq) : l'.Perm (s.eraseIdx k) := by
  have hx : x ∈ s := hp.mem_iff.1 (hl.mem_iff.2 (by simp))
  have e : x = g s k := ku x hx _ (g_mem hk) h1 h2
  have a : (x :: l').Perm (g s k :: s.eraseIdx k) := hl.symm.trans (hp.trans (erase_perm hk))
  rw [e] at a
  exact (List.perm_cons _).1 a
set_option maxHeartbeats 4000000 in
theorem does_cancel {B q n cap : Nat} {ao : Option Addr} {lim : Int} {w0 w : World} {v : Value} {l : List Ev} {s : List Ev} {x : Ev} (h : Pr B q lim w0 w v l (.slice ao n cap) s) (hB : B ≤ w0.heap.size) (he : hasK s x.fr x.sq = true) :
    Calls Try.prog 12 #[.pointer (some ⟨q, 0, none⟩), .agg #[.int .i64 lim, .slice ao n cap], .agg #[.int .i64 4, .int .i64 x.t, .int .i64 x.nd, .string x.v, .int .i64 x.fr, .int .i64 x.sq, .bool x.an]] w fun e w' => DoR B q lim w0 w v e w' := by
  have hn : s.length ≤ 4096 := by have h1 := h.n; have h2 := h.m; omega
  have hln : l.length = s.length := h.p.length_eq
  have hel : hasK l x.fr x.sq = true := by rw [hasK_perm h.p]; exact he
  have HCu : Hid (∀ W, Qh B q lim W v l → Calls Try.prog 18 #[.pointer (some ⟨q, 0, none⟩), .int .i64 x.fr, .int .i64 x.sq] W fun e w' => e = .returned (.bool true) ∧ ∃ v' l' y, Hid (Qh B q lim w' v' l') ∧ Hid (l.Perm (y :: l') ∧ isK x.fr x.sq y) ∧ Hid (But2 q v.ownBlock W w') ∧ Hid (Mv v v' W)) := fun W hq => cancel_yes B q lim v l x.fr x.sq W hq (by omega) hel
  have HRc : Hid (∀ W, EvS B W (.slice ao n cap) s → Calls Try.prog 24 #[.agg #[.int .i64 lim, .slice ao n cap], .int .i64 x.fr, .int .i64 x.sq] W fun e w' => ∃ k v', e = .returned (.tuple #[.agg #[.int .i64 lim, v'], .bool true]) ∧ Hid (EvS W.heap.size w' v' (s.eraseIdx k)) ∧ Hid (k < s.length ∧ isK x.fr x.sq (g s k)) ∧ Below W.heap.size W w') := fun W hr => rCancel_yes B lim _ s x.fr x.sq W hr hn he
  clear he hel hln hn
  have HP : Hid (Pr B q lim w0 w v l (.slice ao n cap) s) := h
  have hql : q < w.heap.size := hLt h.fq.q.b.blk
  have hBw : B ≤ w.heap.size := by have := h.fq.b.size; omega
  clear h
  obtain ⟨T, hT⟩ : ∃ T, T = w.heap.size := ⟨_, rfl⟩
  have HT : Hid (T = w.heap.size) := hT
  have HB3 : Hid (Below w.heap.size w (((w.alloc (.cells #[.int .i64 lim, .slice ao n cap] 29)).alloc (.cells #[.int .i64 4, .int .i64 x.t, .int .i64 x.nd, .string x.v, .int .i64 x.fr, .int .i64 x.sq, .bool x.an] 36)).alloc (.cells #[.int .i64 0, .slice none 0 0] 29))) := belA (belA (belA (Below.refl _ _) _) _) _
  have HX3 : Hid (Bx w T lim 4 (.slice ao n cap) x (((w.alloc (.cells #[.int .i64 lim, .slice ao n cap] 29)).alloc (.cells #[.int .i64 4, .int .i64 x.t, .int .i64 x.nd, .string x.v, .int .i64 x.fr, .int .i64 x.sq, .bool x.an] 36)).alloc (.cells #[.int .i64 0, .slice none 0 0] 29))) := by rw [hT]; exact ⟨(alOld (by simp <;> omega)).trans ((alOld (by simp)).trans (alAt rfl)), (alOld (by simp)).trans (alAt (by simp)), alAt (by simp)⟩
  go_enter Try.func12, Try.ntmps12
  go_wp2_with (first
    | (go_at_call 24; refine (HRc.out _ (HP.out.r.below HB3.out)).mono ?_; rintro e w4 ⟨kk, vr', rfl, HS4, HI4, hb4⟩; obtain ⟨ao', cap', hv'⟩ := HS4.out.slice; rw [hv'] at HS4 ⊢; clear hv'))
  rw [← hT]
  have HX4 : Hid (Bx w T lim 4 (.slice ao n cap) x w4) := HX3.out.up hb4
  have HB4 : Hid (Below w.heap.size w w4) := belT HB3.out hb4
  have hs4 : Hid (w.heap.size ≤ (((w.alloc (.cells #[.int .i64 lim, .slice ao n cap] 29)).alloc (.cells #[.int .i64 4, .int .i64 x.t, .int .i64 x.nd, .string x.v, .int .i64 x.fr, .int .i64 x.sq, .bool x.an] 36)).alloc (.cells #[.int .i64 0, .slice none 0 0] 29)).heap.size) := HB3.out.size
  obtain ⟨N, hN⟩ : ∃ N, N = w4.heap.size := ⟨_, rfl⟩
  obtain ⟨W5, hW5⟩ : ∃ W5, W5 = w4.alloc (.cells #[.int .i64 lim, .slice ao' (s.eraseIdx kk).length cap'] 29) := ⟨_, rfl⟩
  have b5 : Below w4.heap.size w4 W5 := by rw [hW5]; exact belA (Below.refl _ _) _
  have HX5 : Hid (Bx w T lim 4 (.slice ao n cap) x W5) := HX4.out.up b5
  have HN5 : Hid (W5.heap[N]? = some (.cells #[.int .i64 lim, .slice ao' (s.eraseIdx kk).length cap'] 29 (0, 0))) := by rw [hW5]; exact alAt hN.symm
  have HB5 : Hid (Below w.heap.size w W5) := belT HB4.out b5
  have HP5 : Hid (Pr B q lim w0 W5 v l (.slice ao n cap) s) := HP.out.up hB HB5.out
  have hNq : q < N := by have := HB4.out.size; omega
  have hne1 : N ≠ T + 1 + 1 := by have := hLt HX4.out.a; omega
  have hne2 : T + 1 + 1 ≠ N := by omega
  have hne3 : T + 1 ≠ T + 1 + 1 := by omega
  have hne4 : T + 1 + 1 ≠ T + 1 := by omega
  have HS5 : Hid (EvS B W5 (.slice ao' (s.eraseIdx kk).length cap') (s.eraseIdx kk) ∧ Two v (.slice ao' (s.eraseIdx kk).length cap')) := ⟨own_mono (HS4.out.below b5) (by have := hs4.out; omega), fun y e1 e2 => by have h1 := HP.out.fq.q.lt y e1; have h2 := (World.ownsRow.lt HS4.out y e2).1; have := hs4.out; omega⟩
  clear HS4
  rw [← hN, ← hW5]
  clear hT hN hW5 b5 hb4 HX3 HB3 HX4 HB4
  obtain ⟨n0, n1, _, _⟩ := cells2 HN5.out
  obtain ⟨o0, o1, o2, o3, o4, o5, o6⟩ := cell7 HX5.out.o
  obtain ⟨r0, r1', r2', r3'⟩ := cells2 HX5.out.a
  have lN := hLt HN5.out
  have lO := hLt HX5.out.o
  have lA := hLt HX5.out.a
  have HP6 : Hid (Calls Try.prog 18 #[.pointer (some ⟨q, 0, none⟩), .int .i64 x.fr, .int .i64 x.sq] W5.drew fun e w' => e = .returned (.bool true) ∧ ∃ v' l' y, Hid (Qh B q lim w' v' l') ∧ Hid (l.Perm (y :: l') ∧ isK x.fr x.sq y) ∧ Hid (But2 q v.ownBlock W5.drew w') ∧ Hid (Mv v v' W5.drew)) := HCu.out W5.drew (HP5.out.fq.q.below (Below.refl _ _).drew)
  go_region_held (fun w' => w'.cell? ⟨N, 0, none⟩ = some (.int .i64 lim) ∧ w'.cell? ⟨N, 1, none⟩ = some (.slice ao' (s.eraseIdx kk).length cap') ∧ w'.cell? ⟨T + 1, 4, none⟩ = some (.int .i64 x.fr) ∧ w'.cell? ⟨T + 1, 5, none⟩ = some (.int .i64 x.sq)) (go_keep) (first
    | (go_at_call 18; refine HP6.out.mono ?_; rintro e w6 ⟨rfl, v', l', y, r1, r2, r3, r4⟩; have r3o : But2 q v.ownBlock W5 w6 := ⟨r3.out.os, r3.out.tape, r3.out.output, r3.out.size, r3.out.block⟩; have HX6 : Hid (Bx w T lim 4 (.slice ao n cap) x w6) := HX5.out.act HP5.out.fq.q (by have := HT.out; omega) r3o; have HN6 : Hid (w6.heap[N]? = some (.cells #[.int .i64 lim, .slice ao' (s.eraseIdx kk).length cap'] 29 (0, 0))) := blk_act HN5.out (by decide) HP5.out.fq.q (by omega) r3o; obtain ⟨m0, m1, _, _⟩ := cells2 HN6.out; obtain ⟨p0, p1, p2, p3, p4, p5, p6⟩ := cell7 HX6.out.o; obtain ⟨s0, s1, s2, s3⟩ := cells2 HX6.out.a; have lA6 := hLt HX6.out.a))
  all_goals (
    go_wp2
    refine bodyPost_ret (v := .tuple #[.agg #[.int .i64 lim, .slice ao' (s.eraseIdx kk).length cap'], .bool true]) (by simp [results, Try.results12, go_sem, s0, s1]) rfl ?_
    have hbt : But2 q v.ownBlock w w6 := (But2.bel HB5.out).trans r3o (fun y e => Or.inl e)
    have hPr : Pr B q lim w0 w6 v' l' (.slice ao' (s.eraseIdx kk).length cap') (s.eraseIdx kk) := ⟨HP5.out.fq.act hB r1.out r3o, HS5.out.1.beside HP5.out.fq.q HS5.out.2 r3o, (HS5.out.2.sym.mv r4.out HS5.out.1.lt).sym, both_lose HP.out.p HP.out.ku r2.out.1 HI4.out.1 (r2.out.2.1.trans HI4.out.2.1.symm) (r2.out.2.2.trans HI4.out.2.2.symm), HP.out.sd.erase kk, HP.out.ku.sub fun z hz => (List.eraseIdx_sublist s kk).subset hz, by rw [List.length_eraseIdx_of_lt HI4.out.1]; have := HP.out.n; omega, HP.out.m⟩
    have hF := pr_fin (w := w) (v := v) (a := .int .i64 lim) (b := .slice ao' (s.eraseIdx kk).length cap') hPr hB hbt HX6.out.a (by have := HT.out; omega) hql hBw
    exact ⟨v', l', _, (s.eraseIdx kk), rfl, hF.1, hF.2, fun y e => by rcases r4.out y e with k | k; exact Or.inl k; exact Or.inr (Nat.le_trans HB5.out.size k)⟩)
set_option maxHeartbeats 4000000 in
theorem does_cancelno {B q n cap : Nat} {ao : Option Addr} {lim : Int} {w0 w : World} {v : Value} {l : List Ev} {s : List Ev} {x : Ev} (h : Pr B q lim w0 w v l (.slice ao n cap) s) (hB : B ≤ w0.heap.size) (he : hasK s x.fr x.sq = false) :
    Calls Try.prog 12 #[.pointer (some ⟨q, 0, none⟩), .agg #[.int .i64 lim, .slice ao n cap], .agg #[.int .i64 4, .int .i64 x.t, .int .i64 x.nd, .string x.v, .int .i64 x.fr, .int .i64 x.sq, .bool x.an]] w fun e w' => DoR B q lim w0 w v e w' := by
  have hn : s.length ≤ 4096 := by have h1 := h.n; have h2 := h.m; omega
  have hln : l.length = s.length := h.p.length_eq
  have hel : hasK l x.fr x.sq = false := by rw [hasK_perm h.p]; exact he
  have HCu : Hid (∀ W, Qh B q lim W v l → Calls Try.prog 18 #[.pointer (some ⟨q, 0, none⟩), .int .i64 x.fr, .int .i64 x.sq] W fun e w' => e = .returned (.bool false) ∧ Below W.heap.size W w') := fun W hq => cancel_no B q lim v l x.fr x.sq W hq (by omega) hel
  have HRc : Hid (∀ W, EvS B W (.slice ao n cap) s → Calls Try.prog 24 #[.agg #[.int .i64 lim, .slice ao n cap], .int .i64 x.fr, .int .i64 x.sq] W fun e w' => e = .returned (.tuple #[.agg #[.int .i64 lim, .slice ao n cap], .bool false]) ∧ Below W.heap.size W w') := fun W hr => rCancel_no B lim ao n cap s x.fr x.sq W hr hn he
  clear he hel hln hn
  have HP : Hid (Pr B q lim w0 w v l (.slice ao n cap) s) := h
  have hql : q < w.heap.size := hLt h.fq.q.b.blk
  have hBw : B ≤ w.heap.size := by have := h.fq.b.size; omega
  clear h
  obtain ⟨T, hT⟩ : ∃ T, T = w.heap.size := ⟨_, rfl⟩
  have HT : Hid (T = w.heap.size) := hT
  have HB3 : Hid (Below w.heap.size w (((w.alloc (.cells #[.int .i64 lim, .slice ao n cap] 29)).alloc (.cells #[.int .i64 4, .int .i64 x.t, .int .i64 x.nd, .string x.v, .int .i64 x.fr, .int .i64 x.sq, .bool x.an] 36)).alloc (.cells #[.int .i64 0, .slice none 0 0] 29))) := belA (belA (belA (Below.refl _ _) _) _) _
  have HX3 : Hid (Bx w T lim 4 (.slice ao n cap) x (((w.alloc (.cells #[.int .i64 lim, .slice ao n cap] 29)).alloc (.cells #[.int .i64 4, .int .i64 x.t, .int .i64 x.nd, .string x.v, .int .i64 x.fr, .int .i64 x.sq, .bool x.an] 36)).alloc (.cells #[.int .i64 0, .slice none 0 0] 29))) := by rw [hT]; exact ⟨(alOld (by simp <;> omega)).trans ((alOld (by simp)).trans (alAt rfl)), (alOld (by simp)).trans (alAt (by simp)), alAt (by simp)⟩
  go_enter Try.func12, Try.ntmps12
  go_wp2_with (first
    | (go_at_call 24; refine (HRc.out _ (HP.out.r.below HB3.out)).mono ?_; rintro e w4 ⟨rfl, hb4⟩))
  rw [← hT]
  have HX4 : Hid (Bx w T lim 4 (.slice ao n cap) x w4) := HX3.out.up hb4
  have HB4 : Hid (Below w.heap.size w w4) := belT HB3.out hb4
  have hs4 : Hid (w.heap.size ≤ (((w.alloc (.cells #[.int .i64 lim, .slice ao n cap] 29)).alloc (.cells #[.int .i64 4, .int .i64 x.t, .int .i64 x.nd, .string x.v, .int .i64 x.fr, .int .i64 x.sq, .bool x.an] 36)).alloc (.cells #[.int .i64 0, .slice none 0 0] 29)).heap.size) := HB3.out.size
  obtain ⟨N, hN⟩ : ∃ N, N = w4.heap.size := ⟨_, rfl⟩
  obtain ⟨W5, hW5⟩ : ∃ W5, W5 = w4.alloc (.cells #[.int .i64 lim, .slice ao n cap] 29) := ⟨_, rfl⟩
  have b5 : Below w4.heap.size w4 W5 := by rw [hW5]; exact belA (Below.refl _ _) _
  have HX5 : Hid (Bx w T lim 4 (.slice ao n cap) x W5) := HX4.out.up b5
  have HN5 : Hid (W5.heap[N]? = some (.cells #[.int .i64 lim, .slice ao n cap] 29 (0, 0))) := by rw [hW5]; exact alAt hN.symm
  have HB5 : Hid (Below w.heap.size w W5) := belT HB4.out b5
  have HP5 : Hid (Pr B q lim w0 W5 v l (.slice ao n cap) s) := HP.out.up hB HB5.out
  have hNq : q < N := by have := HB4.out.size; omega
  have hne1 : N ≠ T + 1 + 1 := by have := hLt HX4.out.a; omega
  have hne2 : T + 1 + 1 ≠ N := by omega
  have hne3 : T + 1 ≠ T + 1 + 1 := by omega
  have hne4 : T + 1 + 1 ≠ T + 1 := by omega
  rw [← hN, ← hW5]
  clear hT hN hW5 b5 hb4 HX3 HB3 HX4 HB4
  obtain ⟨n0, n1, _, _⟩ := cells2 HN5.out
  obtain ⟨o0, o1, o2, o3, o4, o5, o6⟩ := cell7 HX5.out.o
  obtain ⟨r0, r1', r2', r3'⟩ := cells2 HX5.out.a
  have lN := hLt HN5.out
  have lO := hLt HX5.out.o
  have lA := hLt HX5.out.a
  have HP6 : Hid (Calls Try.prog 18 #[.pointer (some ⟨q, 0, none⟩), .int .i64 x.fr, .int .i64 x.sq] W5.drew fun e w' => e = .returned (.bool false) ∧ Below W5.drew.heap.size W5.drew w') := HCu.out W5.drew (HP5.out.fq.q.below (Below.refl _ _).drew)
  go_region_held (fun w' => w'.cell? ⟨N, 0, none⟩ = some (.int .i64 lim) ∧ w'.cell? ⟨N, 1, none⟩ = some (.slice ao n cap) ∧ w'.cell? ⟨T + 1, 4, none⟩ = some (.int .i64 x.fr) ∧ w'.cell? ⟨T + 1, 5, none⟩ = some (.int .i64 x.sq)) (go_keep) (first
    | (go_at_call 18; refine HP6.out.mono ?_; rintro e w6 ⟨rfl, hb6⟩; have b6 := belW (Below.refl _ _) hb6; have HX6 : Hid (Bx w T lim 4 (.slice ao n cap) x w6) := HX5.out.up b6; have HN6 : Hid (w6.heap[N]? = some (.cells #[.int .i64 lim, .slice ao n cap] 29 (0, 0))) := (b6.block _ (hLt HN5.out)).trans HN5.out; obtain ⟨m0, m1, _, _⟩ := cells2 HN6.out; obtain ⟨p0, p1, p2, p3, p4, p5, p6⟩ := cell7 HX6.out.o; obtain ⟨s0, s1, s2, s3⟩ := cells2 HX6.out.a; have lA6 := hLt HX6.out.a))
  all_goals (
    go_wp2
    refine bodyPost_ret (v := .tuple #[.agg #[.int .i64 lim, .slice ao n cap], .bool true]) (by simp [results, Try.results12, go_sem, s0, s1]) rfl ?_
    have hF := pr_fin (w := w) (v := v) (a := .int .i64 lim) (b := .slice ao n cap) (HP5.out.up hB b6) hB (But2.bel (belT HB5.out b6)) HX6.out.a (by have := HT.out; omega) hql hBw
    exact ⟨v, l, _, s, rfl, hF.1, hF.2, fun y e => Or.inl e⟩)
end Go.Proofs.Ytfjkhcpneehdjaa
