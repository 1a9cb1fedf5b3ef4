/- A call on both sides: Put. -/
import Derived.Test.YtfjkhcpneehdjaaEwG
namespace Go.Proofs.Ytfjkhcpneehdjaa
open Go.RowKit Qu Go.Maps
set_option linter.unusedVariables false
set_option linter.unusedSimpArgs false
set_option maxRecDepth 100000

theorem KU.put {s f : List Ev} {x : Ev} (h : KU s) (hp : f.Perm (x :: s)) (hk : hasK s x.fr x.sq = false) : KU f := fun a ha b hb e1 e2 => by
  have ha' := List.mem_cons.1 (hp.mem_iff.1 ha)
  have hb' := List.mem_cons.1 (hp.mem_iff.1 hb)
  have hn := hasK_no.1 hk
  rcases ha' with e | e
  · rcases hb' with k | k
    · rw [e, k]
    · rw [e] at e1 e2; exact absurd ⟨e1.symm, e2.symm⟩ (hn b k)
  · rcases hb' with k | k
    · rw [k] at e1 e2; exact absurd ⟨e1, e2⟩ (hn a e)
    · exact h a e b k e1 e2
theorem Wd.act {B q : Nat} {lim : Int} {w0 W W' : World} {v v' : Value} {l l' : List Ev} (h : Wd B q lim w0 W v l) (hB : B ≤ w0.heap.size) (hq : Qh B q lim W' v' l') (hb : But2 q v.ownBlock W W') : Wd B q lim w0 W' v' l' :=
  ⟨hq, h.b.trans (hb.belowB h.q.b.ge h.q.own_ge (by have := h.b.size; omega))⟩
set_option maxHeartbeats 4000000 in
theorem does_put {B q n cap : Nat} {ao : Option Addr} {lim : Int} {w0 w : World} {v : Value} {l : List Ev} {s : List Ev} {x : Ev} (h : Pr B q lim w0 w v l (.slice ao n cap) s) (hB : B ≤ w0.heap.size) (he : putE s lim x = 0) :
    Calls Try.prog 12 #[.pointer (some ⟨q, 0, none⟩), .agg #[.int .i64 lim, .slice ao n cap], .agg #[.int .i64 1, .int .i64 x.t, .int .i64 x.nd, .string x.v, .int .i64 x.fr, .int .i64 x.sq, .bool x.an]] w fun e w' => DoR B q lim w0 w v e w' := by
  have hn : s.length ≤ 4096 := by have h1 := h.n; have h2 := h.m; omega
  have hln : l.length = s.length := h.p.length_eq
  obtain ⟨z1, z2, z3, z4, z5⟩ := putE_zero he
  have HZ : Hid (hasK s x.fr x.sq = false ∧ hasK l x.fr x.sq = false ∧ (s.length : Int) < lim) := ⟨z3, by rw [hasK_perm h.p]; exact z3, z5⟩
  have HPu : Hid (∀ W, Qh B q lim W v l → B ≤ W.heap.size → Calls Try.prog 15 #[.pointer (some ⟨q, 0, none⟩), .agg #[.int .i64 x.t, .int .i64 x.nd, .string x.v, .int .i64 x.fr, .int .i64 x.sq, .bool x.an]] W fun e w' => e = .returned (.int .i64 0) ∧ ∃ v' l', Hid (Qh B q lim w' v' l') ∧ Hid (l'.Perm (x :: l)) ∧ Hid (But2 q v.ownBlock W w') ∧ Hid (Mv v v' W)) := fun W hq hb => put_ok B q lim v l x W hq z1 z2 (by omega) HZ.out.2.1 z4 (by rw [hln]; exact z5) hb
  have HRp : Hid (∀ W, EvS B W (.slice ao n cap) s → Calls Try.prog 22 #[.agg #[.int .i64 lim, .slice ao n cap], .agg #[.int .i64 x.t, .int .i64 x.nd, .string x.v, .int .i64 x.fr, .int .i64 x.sq, .bool x.an]] W fun e w' => ∃ v' f, e = .returned (.tuple #[.agg #[.int .i64 lim, v'], .int .i64 0]) ∧ Hid (EvS W.heap.size w' v' f) ∧ Hid (Ins x s f) ∧ Below W.heap.size W w') := fun W hr => rPut_ok hr hn z1 z2 z3 z4 z5
  clear z1 z2 z3 z4 z5 he hln hn
  have HP : Hid (Pr B q lim w0 w v l (.slice ao n cap) s) := h
  have hql : q < w.heap.size := hLt h.fq.q.b.blk
  have hBw : B ≤ w.heap.size := by have := h.fq.b.size; omega
  clear h
  obtain ⟨T, hT⟩ : ∃ T, T = w.heap.size := ⟨_, rfl⟩
  have HT : Hid (T = w.heap.size) := hT
  have HB3 : Hid (Below w.heap.size w (((w.alloc (.cells #[.int .i64 lim, .slice ao n cap] 29)).alloc (.cells #[.int .i64 1, .int .i64 x.t, .int .i64 x.nd, .string x.v, .int .i64 x.fr, .int .i64 x.sq, .bool x.an] 36)).alloc (.cells #[.int .i64 0, .slice none 0 0] 29))) := belA (belA (belA (Below.refl _ _) _) _) _
  have HX3 : Hid (Bx w T lim 1 (.slice ao n cap) x (((w.alloc (.cells #[.int .i64 lim, .slice ao n cap] 29)).alloc (.cells #[.int .i64 1, .int .i64 x.t, .int .i64 x.nd, .string x.v, .int .i64 x.fr, .int .i64 x.sq, .bool x.an] 36)).alloc (.cells #[.int .i64 0, .slice none 0 0] 29))) := by rw [hT]; exact ⟨(alOld (by simp <;> omega)).trans ((alOld (by simp)).trans (alAt rfl)), (alOld (by simp)).trans (alAt (by simp)), alAt (by simp)⟩
  go_enter Try.func12, Try.ntmps12
  go_wp2_with (first
    | (go_at_call 22; refine (HRp.out _ (HP.out.r.below HB3.out)).mono ?_; rintro e w4 ⟨vr', f, rfl, HS4, HI4, hb4⟩; obtain ⟨ao', cap', hv'⟩ := HS4.out.slice; rw [hv'] at HS4 ⊢; clear hv'))
  rw [← hT]
  have HX4 : Hid (Bx w T lim 1 (.slice ao n cap) x w4) := HX3.out.up hb4
  have HB4 : Hid (Below w.heap.size w w4) := belT HB3.out hb4
  have hs4 : Hid (w.heap.size ≤ (((w.alloc (.cells #[.int .i64 lim, .slice ao n cap] 29)).alloc (.cells #[.int .i64 1, .int .i64 x.t, .int .i64 x.nd, .string x.v, .int .i64 x.fr, .int .i64 x.sq, .bool x.an] 36)).alloc (.cells #[.int .i64 0, .slice none 0 0] 29)).heap.size) := HB3.out.size
  obtain ⟨N, hN⟩ : ∃ N, N = w4.heap.size := ⟨_, rfl⟩
  obtain ⟨W5, hW5⟩ : ∃ W5, W5 = w4.alloc (.cells #[.int .i64 lim, .slice ao' f.length cap'] 29) := ⟨_, rfl⟩
  have b5 : Below w4.heap.size w4 W5 := by rw [hW5]; exact belA (Below.refl _ _) _
  have HX5 : Hid (Bx w T lim 1 (.slice ao n cap) x W5) := HX4.out.up b5
  have HN5 : Hid (W5.heap[N]? = some (.cells #[.int .i64 lim, .slice ao' f.length cap'] 29 (0, 0))) := by rw [hW5]; exact alAt hN.symm
  have HB5 : Hid (Below w.heap.size w W5) := belT HB4.out b5
  have HP5 : Hid (Pr B q lim w0 W5 v l (.slice ao n cap) s) := HP.out.up hB HB5.out
  have hNq : q < N := by have := HB4.out.size; omega
  have hne1 : N ≠ T + 1 + 1 := by have := hLt HX4.out.a; omega
  have hne2 : T + 1 + 1 ≠ N := by omega
  have hne3 : T + 1 ≠ T + 1 + 1 := by omega
  have hne4 : T + 1 + 1 ≠ T + 1 := by omega
  have HS5 : Hid (EvS B W5 (.slice ao' f.length cap') f ∧ Two v (.slice ao' f.length cap')) := ⟨own_mono (HS4.out.below b5) (by have := hs4.out; omega), fun y e1 e2 => by have h1 := HP.out.fq.q.lt y e1; have h2 := (World.ownsRow.lt HS4.out y e2).1; have := hs4.out; omega⟩
  clear HS4
  rw [← hN, ← hW5]
  clear hT hN hW5 b5 hb4 HX3 HB3 HX4 HB4
  obtain ⟨n0, n1, _, _⟩ := cells2 HN5.out
  obtain ⟨o0, o1, o2, o3, o4, o5, o6⟩ := cell7 HX5.out.o
  obtain ⟨r0, r1', r2', r3'⟩ := cells2 HX5.out.a
  have lN := hLt HN5.out
  have lO := hLt HX5.out.o
  have lA := hLt HX5.out.a
  have HP6 : Hid (Calls Try.prog 15 #[.pointer (some ⟨q, 0, none⟩), .agg #[.int .i64 x.t, .int .i64 x.nd, .string x.v, .int .i64 x.fr, .int .i64 x.sq, .bool x.an]] W5.drew fun e w' => e = .returned (.int .i64 0) ∧ ∃ v' l', Hid (Qh B q lim w' v' l') ∧ Hid (l'.Perm (x :: l)) ∧ Hid (But2 q v.ownBlock W5.drew w') ∧ Hid (Mv v v' W5.drew)) := HPu.out W5.drew (HP5.out.fq.q.below (Below.refl _ _).drew) (by have := HB5.out.size; show B ≤ W5.heap.size; omega)
  go_region_held (fun w' => w'.cell? ⟨N, 0, none⟩ = some (.int .i64 lim) ∧ w'.cell? ⟨N, 1, none⟩ = some (.slice ao' f.length cap') ∧ w'.cell? ⟨T + 1, 1, none⟩ = some (.int .i64 x.t) ∧ w'.cell? ⟨T + 1, 2, none⟩ = some (.int .i64 x.nd) ∧ w'.cell? ⟨T + 1, 3, none⟩ = some (.string x.v) ∧ w'.cell? ⟨T + 1, 4, none⟩ = some (.int .i64 x.fr) ∧ w'.cell? ⟨T + 1, 5, none⟩ = some (.int .i64 x.sq) ∧ w'.cell? ⟨T + 1, 6, none⟩ = some (.bool x.an)) (go_keep) (first
    | (go_at_call 15; refine HP6.out.mono ?_; rintro e w6 ⟨rfl, v', l', r1, r2, r3, r4⟩; have r3o : But2 q v.ownBlock W5 w6 := ⟨r3.out.os, r3.out.tape, r3.out.output, r3.out.size, r3.out.block⟩; have HX6 : Hid (Bx w T lim 1 (.slice ao n cap) x w6) := HX5.out.act HP5.out.fq.q (by have := HT.out; omega) r3o; have HN6 : Hid (w6.heap[N]? = some (.cells #[.int .i64 lim, .slice ao' f.length cap'] 29 (0, 0))) := blk_act HN5.out (by decide) HP5.out.fq.q (by omega) r3o; obtain ⟨m0, m1, _, _⟩ := cells2 HN6.out; obtain ⟨p0, p1, p2, p3, p4, p5, p6⟩ := cell7 HX6.out.o; obtain ⟨s0, s1, s2, s3⟩ := cells2 HX6.out.a; have lA6 := hLt HX6.out.a))
  all_goals (
    go_wp2
    refine bodyPost_ret (v := .tuple #[.agg #[.int .i64 lim, .slice ao' f.length cap'], .bool true]) (by simp [results, Try.results12, go_sem, s0, s1]) rfl ?_
    have hbt : But2 q v.ownBlock w w6 := (But2.bel HB5.out).trans r3o (fun y e => Or.inl e)
    have hpm : f.Perm (x :: s) := HI4.out.perm
    have hPr : Pr B q lim w0 w6 v' l' (.slice ao' f.length cap') f := ⟨HP5.out.fq.act hB r1.out r3o, HS5.out.1.beside HP5.out.fq.q HS5.out.2 r3o, (HS5.out.2.sym.mv r4.out HS5.out.1.lt).sym, r2.out.trans ((List.Perm.cons x HP.out.p).trans hpm.symm), HI4.out.sd HP.out.sd, HP.out.ku.put hpm HZ.out.1, by rw [hpm.length_eq]; have := HZ.out.2.2; simp; omega, HP.out.m⟩
    have hF := pr_fin (w := w) (v := v) (a := .int .i64 lim) (b := .slice ao' f.length cap') hPr hB hbt HX6.out.a (by have := HT.out; omega) hql hBw
    exact ⟨v', l', _, f, rfl, hF.1, hF.2, fun y e => by rcases r4.out y e with k | k; exact Or.inl k; exact Or.inr (Nat.le_trans HB5.out.size k)⟩)
set_option maxHeartbeats 4000000 in
theorem does_putno {B q n cap : Nat} {ao : Option Addr} {lim : Int} {w0 w : World} {v : Value} {l : List Ev} {s : List Ev} {x : Ev} (h : Pr B q lim w0 w v l (.slice ao n cap) s) (hB : B ≤ w0.heap.size) (he : putE s lim x ≠ 0) :
    Calls Try.prog 12 #[.pointer (some ⟨q, 0, none⟩), .agg #[.int .i64 lim, .slice ao n cap], .agg #[.int .i64 1, .int .i64 x.t, .int .i64 x.nd, .string x.v, .int .i64 x.fr, .int .i64 x.sq, .bool x.an]] w fun e w' => DoR B q lim w0 w v e w' := by
  have hn : s.length ≤ 4096 := by have h1 := h.n; have h2 := h.m; omega
  have hln : l.length = s.length := h.p.length_eq
  have HPu : Hid (∀ W, Qh B q lim W v l → Calls Try.prog 15 #[.pointer (some ⟨q, 0, none⟩), .agg #[.int .i64 x.t, .int .i64 x.nd, .string x.v, .int .i64 x.fr, .int .i64 x.sq, .bool x.an]] W fun e w' => e = .returned (.int .i64 (putE s lim x)) ∧ Below W.heap.size W w') := fun W hq => by
    have k := put_no hq (by omega) (x := x) (by rw [putE_perm h.p]; exact he)
    rw [putE_perm h.p] at k
    exact k
  have HRp : Hid (∀ W, EvS B W (.slice ao n cap) s → Calls Try.prog 22 #[.agg #[.int .i64 lim, .slice ao n cap], .agg #[.int .i64 x.t, .int .i64 x.nd, .string x.v, .int .i64 x.fr, .int .i64 x.sq, .bool x.an]] W fun e w' => e = .returned (.tuple #[.agg #[.int .i64 lim, .slice ao n cap], .int .i64 (putE s lim x)]) ∧ Below W.heap.size W w') := fun W hr => rPut_no hr hn he
  clear he hln hn
  generalize putE s lim x = z at HPu HRp
  have HP : Hid (Pr B q lim w0 w v l (.slice ao n cap) s) := h
  have hql : q < w.heap.size := hLt h.fq.q.b.blk
  have hBw : B ≤ w.heap.size := by have := h.fq.b.size; omega
  clear h
  obtain ⟨T, hT⟩ : ∃ T, T = w.heap.size := ⟨_, rfl⟩
  have HT : Hid (T = w.heap.size) := hT
  have HB3 : Hid (Below w.heap.size w (((w.alloc (.cells #[.int .i64 lim, .slice ao n cap] 29)).alloc (.cells #[.int .i64 1, .int .i64 x.t, .int .i64 x.nd, .string x.v, .int .i64 x.fr, .int .i64 x.sq, .bool x.an] 36)).alloc (.cells #[.int .i64 0, .slice none 0 0] 29))) := belA (belA (belA (Below.refl _ _) _) _) _
  have HX3 : Hid (Bx w T lim 1 (.slice ao n cap) x (((w.alloc (.cells #[.int .i64 lim, .slice ao n cap] 29)).alloc (.cells #[.int .i64 1, .int .i64 x.t, .int .i64 x.nd, .string x.v, .int .i64 x.fr, .int .i64 x.sq, .bool x.an] 36)).alloc (.cells #[.int .i64 0, .slice none 0 0] 29))) := by rw [hT]; exact ⟨(alOld (by simp <;> omega)).trans ((alOld (by simp)).trans (alAt rfl)), (alOld (by simp)).trans (alAt (by simp)), alAt (by simp)⟩
  go_enter Try.func12, Try.ntmps12
  go_wp2_with (first
    | (go_at_call 22; refine (HRp.out _ (HP.out.r.below HB3.out)).mono ?_; rintro e w4 ⟨rfl, hb4⟩))
  rw [← hT]
  have HX4 : Hid (Bx w T lim 1 (.slice ao n cap) x w4) := HX3.out.up hb4
  have HB4 : Hid (Below w.heap.size w w4) := belT HB3.out hb4
  have hs4 : Hid (w.heap.size ≤ (((w.alloc (.cells #[.int .i64 lim, .slice ao n cap] 29)).alloc (.cells #[.int .i64 1, .int .i64 x.t, .int .i64 x.nd, .string x.v, .int .i64 x.fr, .int .i64 x.sq, .bool x.an] 36)).alloc (.cells #[.int .i64 0, .slice none 0 0] 29)).heap.size) := HB3.out.size
  obtain ⟨N, hN⟩ : ∃ N, N = w4.heap.size := ⟨_, rfl⟩
  obtain ⟨W5, hW5⟩ : ∃ W5, W5 = w4.alloc (.cells #[.int .i64 lim, .slice ao n cap] 29) := ⟨_, rfl⟩
  have b5 : Below w4.heap.size w4 W5 := by rw [hW5]; exact belA (Below.refl _ _) _
  have HX5 : Hid (Bx w T lim 1 (.slice ao n cap) x W5) := HX4.out.up b5
  have HN5 : Hid (W5.heap[N]? = some (.cells #[.int .i64 lim, .slice ao n cap] 29 (0, 0))) := by rw [hW5]; exact alAt hN.symm
  have HB5 : Hid (Below w.heap.size w W5) := belT HB4.out b5
  have HP5 : Hid (Pr B q lim w0 W5 v l (.slice ao n cap) s) := HP.out.up hB HB5.out
  have hNq : q < N := by have := HB4.out.size; omega
  have hne1 : N ≠ T + 1 + 1 := by have := hLt HX4.out.a; omega
  have hne2 : T + 1 + 1 ≠ N := by omega
  have hne3 : T + 1 ≠ T + 1 + 1 := by omega
  have hne4 : T + 1 + 1 ≠ T + 1 := by omega
  rw [← hN, ← hW5]
  clear hT hN hW5 b5 hb4 HX3 HB3 HX4 HB4
  obtain ⟨n0, n1, _, _⟩ := cells2 HN5.out
  obtain ⟨o0, o1, o2, o3, o4, o5, o6⟩ := cell7 HX5.out.o
  obtain ⟨r0, r1', r2', r3'⟩ := cells2 HX5.out.a
  have lN := hLt HN5.out
  have lO := hLt HX5.out.o
  have lA := hLt HX5.out.a
  have HP6 : Hid (Calls Try.prog 15 #[.pointer (some ⟨q, 0, none⟩), .agg #[.int .i64 x.t, .int .i64 x.nd, .string x.v, .int .i64 x.fr, .int .i64 x.sq, .bool x.an]] W5.drew fun e w' => e = .returned (.int .i64 z) ∧ Below W5.drew.heap.size W5.drew w') := HPu.out W5.drew (HP5.out.fq.q.below (Below.refl _ _).drew)
  go_region_held (fun w' => w'.cell? ⟨N, 0, none⟩ = some (.int .i64 lim) ∧ w'.cell? ⟨N, 1, none⟩ = some (.slice ao n cap) ∧ w'.cell? ⟨T + 1, 1, none⟩ = some (.int .i64 x.t) ∧ w'.cell? ⟨T + 1, 2, none⟩ = some (.int .i64 x.nd) ∧ w'.cell? ⟨T + 1, 3, none⟩ = some (.string x.v) ∧ w'.cell? ⟨T + 1, 4, none⟩ = some (.int .i64 x.fr) ∧ w'.cell? ⟨T + 1, 5, none⟩ = some (.int .i64 x.sq) ∧ w'.cell? ⟨T + 1, 6, none⟩ = some (.bool x.an)) (go_keep) (first
    | (go_at_call 15; refine HP6.out.mono ?_; rintro e w6 ⟨rfl, hb6⟩; have b6 := belW (Below.refl _ _) hb6; have HX6 : Hid (Bx w T lim 1 (.slice ao n cap) x w6) := HX5.out.up b6; have HN6 : Hid (w6.heap[N]? = some (.cells #[.int .i64 lim, .slice ao n cap] 29 (0, 0))) := (b6.block _ (hLt HN5.out)).trans HN5.out; obtain ⟨m0, m1, _, _⟩ := cells2 HN6.out; obtain ⟨p0, p1, p2, p3, p4, p5, p6⟩ := cell7 HX6.out.o; obtain ⟨s0, s1, s2, s3⟩ := cells2 HX6.out.a; have lA6 := hLt HX6.out.a))
  all_goals (
    go_wp2
    refine bodyPost_ret (v := .tuple #[.agg #[.int .i64 lim, .slice ao n cap], .bool true]) (by simp [results, Try.results12, go_sem, s0, s1]) rfl ?_
    have hF := pr_fin (w := w) (v := v) (a := .int .i64 lim) (b := .slice ao n cap) (HP5.out.up hB b6) hB (But2.bel (belT HB5.out b6)) HX6.out.a (by have := HT.out; omega) hql hBw
    exact ⟨v, l, _, s, rfl, hF.1, hF.2, fun y e => Or.inl e⟩)
end Go.Proofs.Ytfjkhcpneehdjaa
