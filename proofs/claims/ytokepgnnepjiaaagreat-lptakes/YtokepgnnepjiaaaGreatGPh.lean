/- Texts PNa PN PJ, joined: what each part says stands ahead of it. -/
import Derived.Test.YtokepgnnepjiaaaGreatGPg
import Derived.Test.YtokepgnnepjiaaaGreatGPe
import Derived.BigRegion
/- A process: the events of a time, where their taking out is. -/
namespace Go.Proofs.YtokepgnnepjiaaaGreat
set_option maxRecDepth 100000
open Go.RowKit Lg Nl Go.Maps
set_option linter.unusedVariables false
set_option linter.unusedSimpArgs false

/-- where the taking out of a time's events is -/
structure Du (w : World) (B q : Nat) (v0 : Value) (l : List Q.Qu.Ev) (tm : Int) (ds rest : List Q.Qu.Ev) (x : Q.Qu.Ev) (b : Bool) (X : Nat) (vL vq : Value) (W : World) : Prop where
  but : Q.But2 q v0.ownBlock w W
  qh : Q.Qh B q 4096 W vq rest
  mv : Q.Mv v0 vq w
  pm : l.Perm (ds ++ rest)
  dt : ∀ y ∈ ds, y.t = tm
  xb : W.heap[X]? = some (Q.evB x)
  xn : w.heap.size ≤ X
  xq : vq.ownBlock ≠ some X
  hb : (b = true ∧ rest ≠ [] ∧ x = Q.Qu.g rest 0) ∨ (b = false ∧ rest = [] ∧ x = Q.Qu.ev0)
  ls : Q.EvS w.heap.size W vL ds
  lq : ∀ k, vL.ownBlock = some k → vq.ownBlock ≠ some k ∧ k ≠ X
/-- what Min tells of a queue -/
theorem minA (B q : Nat) (v : Value) (l : List Q.Qu.Ev) (w : World) (h : Q.Qh B q 4096 w v l) (hl : l.length ≤ 4096) : ∃ (x : Q.Qu.Ev) (b : Bool), ((b = true ∧ l ≠ [] ∧ x = Q.Qu.g l 0) ∨ (b = false ∧ l = [] ∧ x = Q.Qu.ev0)) ∧ Calls Tryz.prog 27 #[.pointer (some ⟨q, 0, none⟩)] w fun e w' => e = .returned (.tuple #[.agg #[.int .i64 x.t, .int .i64 x.nd, .string x.v, .int .i64 x.fr, .int .i64 x.sq, .bool x.an], .bool b]) ∧ Below w.heap.size w w' := by
  rcases Nat.eq_zero_or_pos l.length with h0 | h0
  · have e := List.eq_nil_of_length_eq_zero h0
    subst e
    exact ⟨Q.Qu.ev0, false, Or.inr ⟨rfl, rfl, rfl⟩, minQ B q v w h⟩
  · exact ⟨Q.Qu.g l 0, true, Or.inl ⟨rfl, (fun e => by rw [e] at h0; cases h0), rfl⟩, Q.min_c B q (l.length - 1) 4096 v l w h (by omega) (by omega)⟩
def lenOf : Value → Nat
  | .slice _ n _ => n
  | _ => 0
theorem set6_at {W : World} {N : Nat} {a0 a1 a2 a3 a4 a5 : Value} {t : TypeId} (h : W.heap[N]? = some (.cells #[a0, a1, a2, a3, a4, a5] t (0, 0))) (b0 b1 b2 b3 b4 b5 : Value) : ((((((W.setCell ⟨N, 0, none⟩ b0).setCell ⟨N, 1, none⟩ b1).setCell ⟨N, 2, none⟩ b2).setCell ⟨N, 3, none⟩ b3).setCell ⟨N, 4, none⟩ b4).setCell ⟨N, 5, none⟩ b5).heap[N]? = some (.cells #[b0, b1, b2, b3, b4, b5] t (0, 0)) := by
  exact heap_setCell_same _ N 5 _ t b5 (heap_setCell_same _ N 4 _ t b4 (heap_setCell_same _ N 3 _ t b3 (heap_setCell_same _ N 2 _ t b2 (heap_setCell_same _ N 1 _ t b1 (heap_setCell_same W N 0 _ t b0 h)))))
theorem Qh_keep {B q : Nat} {lim : Int} {W W' : World} {v : Value} {l : List Q.Qu.Ev} (h : Q.Qh B q lim W v l) (hq : W'.heap[q]? = W.heap[q]?) (hr : ∀ k, v.ownBlock = some k → W'.heap[k]? = W.heap[k]?) : Q.Qh B q lim W' v l :=
  ⟨⟨hq.trans h.b.blk, Q.own_at h.b.row hr, h.b.ge⟩, h.h⟩
/-- one event more is taken out: the blocks in between -/
structure Dm (w wr w2 w9 : World) (q n c : Nat) (a : Option Addr) (vq v2 : Value) (x : Q.Qu.Ev) : Prop where
  hb2 : Q.But2 q vq.ownBlock wr w2
  hm2 : Q.Mv vq v2 wr
  hg : (w2.alloc (Q.evB x)).grownBy w9 (Value.slice a n c).ownBlock
theorem Dm.k9 {w wr w2 w9 : World} {q n c : Nat} {a : Option Addr} {vq v2 : Value} {x : Q.Qu.Ev} (m : Dm w wr w2 w9 q n c a vq v2 x) : ∀ k, k < w2.heap.size → (Value.slice a n c).ownBlock ≠ some k → w9.heap[k]? = w2.heap[k]? := fun k hk hn =>
  (m.hg.block k (by simp; omega) (fun e => hn e.symm)).trans (alOld hk)
theorem Du.row_lt {w : World} {B q n c : Nat} {v0 : Value} {l ds rest : List Q.Qu.Ev} {tm : Int} {x : Q.Qu.Ev} {b : Bool} {X : Nat} {a : Option Addr} {vq : Value} {wr : World} (hd : Du w B q v0 l tm ds rest x b X (.slice a n c) vq wr) : ∀ k, (Value.slice a n c).ownBlock = some k → w.heap.size ≤ k ∧ k < wr.heap.size := World.ownsRow.lt hd.ls
theorem Du.q9 {w : World} {B q n c : Nat} {v0 : Value} {l ds rest : List Q.Qu.Ev} {tm : Int} {x : Q.Qu.Ev} {b : Bool} {X : Nat} {a : Option Addr} {vq : Value} {wr w2 w9 : World} {v2 : Value} {l2 : List Q.Qu.Ev} (hd : Du w B q v0 l tm ds rest x b X (.slice a n c) vq wr) (hq : q < w.heap.size) (hq2 : Q.Qh B q 4096 w2 v2 l2) (m : Dm w wr w2 w9 q n c a vq v2 x) : Q.Qh B q 4096 w9 v2 l2 := by
  refine Qh_keep hq2 (m.k9 q (Q.hLt hq2.b.blk) fun e => by have := (hd.row_lt q e).1; omega) fun k e => m.k9 k (World.ownsRow.lt hq2.b.row k e).2 fun e2 => ?_
  rcases m.hm2 k e with h | h
  · exact (hd.lq k e2).1 h
  · have := (hd.row_lt k e2).2; omega
theorem Du.x9 {w : World} {B q n c : Nat} {v0 : Value} {l ds rest : List Q.Qu.Ev} {tm : Int} {x : Q.Qu.Ev} {b : Bool} {X : Nat} {a : Option Addr} {vq : Value} {wr w2 w9 : World} {v2 : Value} (hd : Du w B q v0 l tm ds rest x b X (.slice a n c) vq wr) (hq : q < w.heap.size) (m : Dm w wr w2 w9 q n c a vq v2 x) : w9.heap[X]? = some (Q.evB x) := by
  have lX := hLt hd.xb
  have := hd.xn
  have h1 : w2.heap[X]? = some (Q.evB x) := (m.hb2.block X lX (by omega) hd.xq).trans hd.xb
  exact (m.k9 X (hLt h1) fun e => (hd.lq X e).2 rfl).trans h1
theorem Du.old9 {w : World} {B q n c : Nat} {v0 : Value} {l ds rest : List Q.Qu.Ev} {tm : Int} {x : Q.Qu.Ev} {b : Bool} {X : Nat} {a : Option Addr} {vq : Value} {wr w2 w9 : World} {v2 : Value} (hd : Du w B q v0 l tm ds rest x b X (.slice a n c) vq wr) (m : Dm w wr w2 w9 q n c a vq v2 x) (k : Nat) (hk : k < w.heap.size) (hkq : k ≠ q) (hkv : v0.ownBlock ≠ some k) : w9.heap[k]? = w.heap[k]? := by
  have h1 := hd.but.size
  have h2 := m.hb2.size
  refine (m.k9 k (by omega) fun e => by have := (hd.row_lt k e).1; omega).trans ((m.hb2.block k (by omega) hkq fun e => ?_).trans (hd.but.block k hk hkq hkv))
  rcases hd.mv k e with h | h
  · exact hkv h
  · omega
theorem Du.step {w : World} {B q n c : Nat} {v0 : Value} {l ds rest : List Q.Qu.Ev} {tm : Int} {x x' : Q.Qu.Ev} {b b' : Bool} {X : Nat} {a : Option Addr} {vq : Value} {wr w2 w9 w11 W12 : World} {v2 : Value} {l2 : List Q.Qu.Ev} {g9 c9 : Nat} (hd : Du w B q v0 l tm ds rest x b X (.slice a n c) vq wr) (hn : n = ds.length) (hq : q < w.heap.size) (ht : x.t = tm) (hq2 : Q.Qh B q 4096 w2 v2 l2) (hp2 : rest.Perm (x :: l2)) (m : Dm w wr w2 w9 q n c a vq v2 x)
    (ho : w9.ownsRow w.heap.size 39 6 (.slice (some ⟨g9, 0, none⟩) (n + 1) c9) (n + 1) (Q.evs ds ++ Q.evC x)) (hloc : (Value.slice (some ⟨g9, 0, none⟩) (n + 1) c9).ownBlock = (Value.slice a n c).ownBlock ∨ (Value.slice (some ⟨g9, 0, none⟩) (n + 1) c9).ownBlock = some (w2.heap.size + 1)) (hb : Below (w9.alloc (Q.evB x)).heap.size (w9.alloc (Q.evB x)) w11) (hx : (b' = true ∧ l2 ≠ [] ∧ x' = Q.Qu.g l2 0) ∨ (b' = false ∧ l2 = [] ∧ x' = Q.Qu.ev0)) (hot : Q.Ot w9.heap.size w11 W12) (hx12 : W12.heap[w9.heap.size]? = some (Q.evB x')) :
    Du w B q v0 l tm (ds ++ [x]) l2 x' b' w9.heap.size (.slice (some ⟨g9, 0, none⟩) (n + 1) c9) v2 W12 := by
  have h1 := hd.but.size
  have h2 := m.hb2.size
  have h9 : w2.heap.size + 1 ≤ w9.heap.size := by have := m.hg.size; simpa using this
  have e11 : ∀ k, k < w9.heap.size → W12.heap[k]? = w9.heap[k]? := fun k hk => (hot.block k (by omega)).trans ((hb.block k (by simp; omega)).trans (alOld hk))
  have s12 : w9.heap.size ≤ W12.heap.size := by rw [hot.size]; have := hb.size; simp at this; omega
  have q9 := hd.q9 hq hq2 m
  have hg9 := World.ownsRow.lt ho g9 rfl
  refine ⟨⟨?_, ?_, ?_, by omega, fun k hk hkq hkv => (e11 k (by omega)).trans (hd.old9 m k hk hkq hkv)⟩, Qh_keep q9 (e11 q (Q.hLt q9.b.blk)) (fun k e => e11 k (World.ownsRow.lt q9.b.row k e).2), fun k e => ?_, ?_, ?_, hx12, by omega, fun e => ?_, hx, ?_, fun k e => ⟨fun e2 => ?_, ?_⟩⟩
  · exact hot.os.trans (hb.os.trans (m.hg.os.trans (m.hb2.os.trans hd.but.os)))
  · exact hot.tape.trans (hb.tape.trans (m.hg.tape.trans (m.hb2.tape.trans hd.but.tape)))
  · exact hot.output.trans (hb.output.trans (m.hg.output.trans (m.hb2.output.trans hd.but.output)))
  · rcases m.hm2 k e with h | h
    · exact hd.mv k h
    · right; omega
  · rw [List.append_assoc]
    exact hd.pm.trans (List.Perm.append_left _ hp2)
  · intro y hy
    rcases List.mem_append.1 hy with h | h
    · exact hd.dt y h
    · simp at h; rw [h]; exact ht
  · have := (World.ownsRow.lt q9.b.row _ e).2; omega
  · have ho' : w9.ownsRow w.heap.size 39 6 (.slice (some ⟨g9, 0, none⟩) (n + 1) c9) (ds ++ [x]).length (Q.evs (ds ++ [x])) := by
      rw [Q.evs_app, List.length_append, ← hn]
      simpa [Q.evs] using ho
    exact Q.own_at ho' fun k e => e11 k (World.ownsRow.lt ho k e).2
  · have ek : g9 = k := by injection e
    subst ek
    rcases hloc with h | h
    · rcases m.hm2 g9 e2 with h3 | h3
      · exact (hd.lq g9 h.symm).1 h3
      · have := (hd.row_lt g9 h.symm).2; omega
    · have hk : g9 = w2.heap.size + 1 := by injection h
      have := (World.ownsRow.lt hq2.b.row g9 e2).2
      omega
  · have ek : g9 = k := by injection e
    omega
end Go.Proofs.YtokepgnnepjiaaaGreat

/- A process: the events of a time. -/
namespace Go.Proofs.YtokepgnnepjiaaaGreat
set_option maxRecDepth 100000
open Go.RowKit Lg Nl Go.Maps
set_option linter.unusedVariables false
set_option linter.unusedSimpArgs false

set_option maxHeartbeats 4000000 in
theorem due_c (B p F q : Nat) (d mk tm : Int) (vs vv v0 : Value) (pp : Option Addr) (l : List Q.Qu.Ev) (w : World) (hp : w.heap[p]? = some (prC p F q d vs mk vv pp)) (hq : Q.Qh B q 4096 w v0 l) (hl : l.length ≤ 4096) (hB : B ≤ w.heap.size) (hpq : p ≠ q) (hpv : v0.ownBlock ≠ some p) :
    Calls Tryz.prog 41 #[.pointer (some ⟨p, 0, none⟩), .int .i64 tm] w fun e w' => ∃ a n c ds rest x X vq, e = .returned (.slice a n c) ∧ Hid (n = ds.length) ∧ Hid (Du w B q v0 l tm ds rest x false X (.slice a n c) vq w' ∨ (Du w B q v0 l tm ds rest x true X (.slice a n c) vq w' ∧ x.t ≠ tm)) := by
  have HP : Hid (w.heap[p]? = some (prC p F q d vs mk vv pp)) := hp
  have HQ : Hid (Q.Qh B q 4096 w v0 l) := hq
  have HS : Hid (p ≠ q ∧ v0.ownBlock ≠ some p ∧ B ≤ w.heap.size ∧ q < w.heap.size) := ⟨hpq, hpv, hB, Q.hLt hq.b.blk⟩
  have y6 := (pr8 hp).2.2.2.2.2.2.1
  have lp := hLt hp
  obtain ⟨x0, b0, hx0, hmin⟩ := minA B q v0 l w hq hl
  have HM : Hid (Calls Tryz.prog 27 #[.pointer (some ⟨q, 0, none⟩)] w fun e w' => e = .returned (.tuple #[.agg #[.int .i64 x0.t, .int .i64 x0.nd, .string x0.v, .int .i64 x0.fr, .int .i64 x0.sq, .bool x0.an], .bool b0]) ∧ Below w.heap.size w w') := hmin
  have HX0 : Hid ((b0 = true ∧ l ≠ [] ∧ x0 = Q.Qu.g l 0) ∨ (b0 = false ∧ l = [] ∧ x0 = Q.Qu.ev0)) := hx0
  have HL : Hid (l.length ≤ 4096) := hl
  clear hp hq hl hB hpq hpv hmin hx0
  go_enter Tryz.func41, Tryz.ntmps41
  go_wp2_with (first
    | (go_at_call 27; refine HM.out.mono ?_; rintro e w1 ⟨rfl, hb1⟩))
  have H0 : Hid (Du w B q v0 l tm [] l x0 b0 w1.heap.size (.slice none 0 0) v0 (w1.alloc (Q.evB x0))) := by
    have hb2 : Below w.heap.size w (w1.alloc (Q.evB x0)) := belA hb1 _
    exact ⟨Q.But2.bel hb2, HQ.out.below hb2, fun x e => Or.inl e, List.Perm.refl _, fun y hy => by simp at hy, alAt rfl, hb1.size, fun e => by have := (World.ownsRow.lt HQ.out.b.row _ e).2; have := hb1.size; omega, HX0.out, World.ownsRow_nil _ _ _ _, fun k e => by cases e⟩
  obtain ⟨W2, hW2⟩ : ∃ W2, W2 = w1.alloc (Q.evB x0) := ⟨_, rfl⟩
  obtain ⟨X0, hX0⟩ : ∃ X0, X0 = w1.heap.size := ⟨_, rfl⟩
  unfold Q.evB at hW2
  have HE : Hid (w1.alloc (Q.evB x0) = W2) := hW2.symm
  rw [HE.out, ← hX0] at H0
  rw [← hW2, ← hX0]
  clear hW2 hX0 HE HM HX0 hb1 y6
  go_loopw [5, 6, 7] (fun s5 s6 s7 W => ∃ (a : Option Addr) (n c : Nat) (ds rest : List Q.Qu.Ev) (x : Q.Qu.Ev) (b : Bool) (X : Nat) (vq : Value), s5 = .slice a n c ∧ s6 = .pointer (some ⟨X, 0, none⟩) ∧ s7 = .bool b ∧ Hid (n = ds.length) ∧ Hid (Du w B q v0 l tm ds rest x b X (.slice a n c) vq W)) (fun s5 s6 s7 W => l.length + 1 - lenOf s5)
  case atStart => exact ⟨none, 0, 0, [], l, x0, b0, X0, v0, rfl, rfl, rfl, rfl, H0.out⟩
  case round =>
    clear H0
    obtain ⟨a, n, c, ds, rest, x, b, X, vq, rfl, rfl, rfl, HN, HD⟩ := hrel
    have hd := HD.out
    obtain ⟨⟨x0, x1, x2, x3, x4, x5⟩, _⟩ := Q.cell6 hd.xb
    have lX := hLt hd.xb
    have y6 := (pr8 ((hd.but.block p lp HS.out.1 HS.out.2.1).trans HP.out)).2.2.2.2.2.2.1
    have lp2 := Nat.lt_of_lt_of_le lp hd.but.size
    cases b with
    | false =>
      clear hd
      go_wp2_with fail
      go_ret
      exact ⟨a, n, c, ds, rest, x, X, vq, rfl, HN.out, Or.inl HD.out⟩
    | true =>
      by_cases ht : x.t = tm
      · obtain ⟨hrne, hxg⟩ : rest ≠ [] ∧ x = Q.Qu.g rest 0 := by
          rcases hd.hb with ⟨_, h1, h2⟩ | ⟨h1, _⟩
          · exact ⟨h1, h2⟩
          · cases h1
        have hll : l.length = ds.length + rest.length := by rw [hd.pm.length_eq, List.length_append]
        have hl4 := HL.out
        have hrp : 0 < rest.length := List.length_pos_iff.2 hrne
        have hk := Q.take_c B q (rest.length - 1) 4096 vq rest wr hd.qh (by omega) (by omega) (by have := hd.but.size; have := HS.out.2.2.1; omega)
        rw [← hxg] at hk
        have HT : Hid (Calls Tryz.prog 73 #[.pointer (some ⟨q, 0, none⟩)] wr fun e w' => e = .returned (.tuple #[.agg #[.int .i64 x.t, .int .i64 x.nd, .string x.v, .int .i64 x.fr, .int .i64 x.sq, .bool x.an], .bool true]) ∧ ∃ v' l', Hid (Q.Qh B q 4096 w' v' l') ∧ Hid (rest.Perm (x :: l')) ∧ Hid (Q.But2 q vq.ownBlock wr w') ∧ Hid (Q.Mv vq v' wr)) := hk
        have HTm : Hid (x.t = tm) := ht
        have HLn : Hid (n = ds.length ∧ ds.length + rest.length ≤ 4096) := ⟨HN.out, by omega⟩
        have ht' : (x.t == tm) = true := by rw [beq_iff_eq]; exact ht
        have HXq : Hid (q < w.heap.size) := HS.out.2.2.2
        clear hk hxg hrne hrp hll hl4 ht hd
        obtain ⟨xt, xn, xv, xf, xs, xa⟩ := x
        simp only at x0 x1 x2 x3 x4 x5 ht' HT
        obtain ⟨j, hj⟩ := Q.infoEv
        have HJ : Hid (Tryz.prog.info? 39 = some j ∧ j.zero = some (Q.evG Q.Qu.ev0) ∧ j.size = 6 ∧ j.bytes = 56) := hj
        clear hj
        have HXb : Hid (wr.heap[X]? = some (.cells #[.int .i64 xt, .int .i64 xn, .string xv, .int .i64 xf, .int .i64 xs, .bool xa] 39 (0, 0)) ∧ X ≠ q ∧ vq.ownBlock ≠ some X) := ⟨HD.out.xb, by have := HD.out.xn; have := HXq.out; omega, HD.out.xq⟩
        have HPb : Hid (wr.heap[p]? = some (prC p F q d vs mk vv pp) ∧ p ≠ q ∧ vq.ownBlock ≠ some p) := ⟨(HD.out.but.block p lp HS.out.1 HS.out.2.1).trans HP.out, HS.out.1, fun e => by rcases HD.out.mv p e with h | h; exact HS.out.2.1 h; omega⟩
        have HR : Hid (wr.ownsRow w.heap.size 39 6 (.slice a n c) n (Q.evs ds)) := by have h := HD.out.ls; unfold Q.EvS at h; rw [← HN.out] at h; exact h
        have HNE : Hid (n = ds.length) := HN.out
        go_wp2_with (first
          | (go_at_call 73; refine HT.out.mono ?_; rintro e w2 ⟨rfl, v2, l2, HQ2, HP2, HB2, HM2⟩; obtain ⟨⟨z0, z1, z2, z3, z4, z5⟩, zf⟩ := Q.cell6 ((HB2.out.block X lX HXb.out.2.1 HXb.out.2.2).trans HXb.out.1); clear zf; have lX2 := Nat.lt_of_lt_of_le lX HB2.out.size; have HR2 : Hid (w2.ownsRow w.heap.size 39 6 (.slice a n c) n (Q.evs ds)) := Q.own_at HR.out (fun k e => HB2.out.block k (World.ownsRow.lt HR.out k e).2 (by have := (World.ownsRow.lt HR.out k e).1; have := HXq.out; omega) (HD.out.lq k e).1))
          | (at_builtin; refine wpList_append_own_at _ rfl _ _ 22 rfl w.heap.size 39 j _ 6 56 Tryz.underlying22 HJ.out.1 HJ.out.2.1 HJ.out.2.2.1 HJ.out.2.2.2 rfl (by decide) _ n (Q.evs ds) rfl (HR2.out.alloc _) ⟨w2.heap.size, 0, none⟩ 1 1 [.int .i64 xt, .int .i64 xn, .string xv, .int .i64 xf, .int .i64 xs, .bool xa] rfl rfl (fun j u hj => Q.new6 _ ⟨xt, xn, xv, xf, xs, xa⟩ 39 _ rfl j u hj) (Q.one6 ⟨xt, xn, xv, xf, xs, xa⟩) (by have := HLn.out.2; have := HLn.out.1; unfold maxLen; omega) (by have := HLn.out.2; have := HLn.out.1; omega) (by have := HB2.out.size; have := HD.out.but.size; simp; omega) ?_; intro v9 w9 hown9 hgrow9 hnil9 hloc9; obtain ⟨g9, c9, rfl⟩ := own_slice1 hown9; have HM9 : Hid (Dm w wr w2 w9 q n c a vq v2 ⟨xt, xn, xv, xf, xs, xa⟩) := ⟨HB2.out, HM2.out, hgrow9⟩; have HO9 : Hid (w9.ownsRow w.heap.size 39 6 (.slice (some ⟨g9, 0, none⟩) (n + 1) c9) (n + 1) (Q.evs ds ++ Q.evC ⟨xt, xn, xv, xf, xs, xa⟩)) := hown9; have HL8 : ((Value.slice (some ⟨g9, 0, none⟩) (n + 1) c9).ownBlock = (Value.slice a n c).ownBlock ∨ (Value.slice (some ⟨g9, 0, none⟩) (n + 1) c9).ownBlock = some (w2.heap.size + 1)) := (by simpa [Act.eval] using hloc9); have HL9 : Hid ((Value.slice (some ⟨g9, 0, none⟩) (n + 1) c9).ownBlock = (Value.slice a n c).ownBlock ∨ (Value.slice (some ⟨g9, 0, none⟩) (n + 1) c9).ownBlock = some (w2.heap.size + 1)) := HL8; clear HL8; clear hown9 hgrow9 hnil9 hloc9; obtain ⟨⟨r0, r1, r2, r3, r4, r5⟩, rf⟩ := Q.cell6 (HD.out.x9 HXq.out HM9.out); clear rf; have lX9 := hLt (HD.out.x9 HXq.out HM9.out); have hp9 := (HD.out.old9 HM9.out p lp HS.out.1 HS.out.2.1).trans HP.out; have s6 := (pr8 hp9).2.2.2.2.2.2.1; have lp9 := hLt hp9; clear hp9; obtain ⟨x', b', hx', hmin'⟩ := minA B q v2 l2 (w9.alloc (Q.evB ⟨xt, xn, xv, xf, xs, xa⟩)) ((HD.out.q9 HXq.out HQ2.out HM9.out).below (belA (Below.refl _ _) _)) (by have := HP2.out.length_eq; have := HLn.out.2; simp at *; omega); have HX' : Hid ((b' = true ∧ l2 ≠ [] ∧ x' = Q.Qu.g l2 0) ∨ (b' = false ∧ l2 = [] ∧ x' = Q.Qu.ev0)) := hx'; have HMi : Hid (Calls Tryz.prog 27 #[.pointer (some ⟨q, 0, none⟩)] (w9.alloc (.cells #[.int .i64 xt, .int .i64 xn, .string xv, .int .i64 xf, .int .i64 xs, .bool xa] 39)) fun e w' => e = .returned (.tuple #[.agg #[.int .i64 x'.t, .int .i64 x'.nd, .string x'.v, .int .i64 x'.fr, .int .i64 x'.sq, .bool x'.an], .bool b']) ∧ Below (w9.alloc (.cells #[.int .i64 xt, .int .i64 xn, .string xv, .int .i64 xf, .int .i64 xs, .bool xa] 39)).heap.size (w9.alloc (.cells #[.int .i64 xt, .int .i64 xn, .string xv, .int .i64 xf, .int .i64 xs, .bool xa] 39)) w') := hmin'; clear hx' hmin')
          | (go_at_call 27; refine HMi.out.mono ?_; rintro e w11 ⟨rfl, hb11⟩; obtain ⟨⟨u0, u1, u2, u3, u4, u5⟩, ⟨k0, k1, k2, k3, k4, k5⟩⟩ := Q.cell6 ((hb11.block w9.heap.size (by simp)).trans (alAt rfl)); have l11 : w9.heap.size < w11.heap.size := (by have := hb11.size; simp at this; omega); have HB11 : Hid (Below (w9.alloc (Q.evB ⟨xt, xn, xv, xf, xs, xa⟩)).heap.size (w9.alloc (Q.evB ⟨xt, xn, xv, xf, xs, xa⟩)) w11) := hb11; clear hb11))
        have hlen : n + 1 ≤ l.length := by have h1 := HD.out.pm.length_eq; have h2 := HP2.out.length_eq; have h3 := HNE.out; simp at h1 h2; omega
        refine ⟨⟨some ⟨g9, 0, none⟩, n + 1, c9, ds ++ [⟨xt, xn, xv, xf, xs, xa⟩], l2, x', b', w9.heap.size, v2, rfl, rfl, rfl, ?_, ?_⟩, ?_⟩
        · show n + 1 = _; rw [List.length_append, ← HNE.out]; rfl
        · exact HD.out.step HNE.out HXq.out HTm.out HQ2.out HP2.out HM9.out HO9.out HL9.out HB11.out HX'.out (Q.set6_ot w11 w9.heap.size _ _ _ _ _ _) (set6_at ((HB11.out.block w9.heap.size (by simp)).trans (alAt rfl)) _ _ _ _ _ _)
        · simp only [lenOf]; omega
      · have ht' : (x.t == tm) = false := by rw [beq_eq_false_iff_ne]; exact ht
        have HT : Hid (x.t ≠ tm) := ht
        clear hd ht
        go_wp2_with fail
        go_ret
        exact ⟨a, n, c, ds, rest, x, X, vq, rfl, HN.out, Or.inr ⟨HD.out, HT.out⟩⟩
end Go.Proofs.YtokepgnnepjiaaaGreat

/- A process: gets. -/
namespace Go.Proofs.YtokepgnnepjiaaaGreat
set_option maxRecDepth 100000
open Go.RowKit Lg Nl Go.Maps
set_option linter.unusedVariables false
set_option linter.unusedSimpArgs false

theorem vmap_take (l : List Q.Qu.Ev) (i : Nat) (h : i < l.length) : (l.take (i + 1)).map (·.v) = (l.take i).map (·.v) ++ [(Q.Qu.g l i).v] := by
  rw [List.take_succ_eq_append_getElem h, List.map_append, Q.Qu.g_at h]; rfl
set_option maxHeartbeats 4000000 in
theorem gets1_c (F bN cN bE cE bP bT cT bI : Nat) (h : Int) (ia : Option Addr) (ic : Nat) (sa : Option Addr) (sc : Nat) (B : Nat) (ao : Option Addr) (cap : Nat) (l : List Q.Qu.Ev) (w : World) (hF : Fc1 h F bN cN bE cE bP bT cT bI ia ic w) (hS : Q.EvS B w (.slice ao l.length cap) l) (hn : l.length ≤ 4096) (hd : ∀ x ∈ l, x.nd = 1) :
    Calls Tryz.prog 44 #[.pointer (some ⟨F, 0, none⟩), .slice sa 0 sc, .slice ao l.length cap] w fun e w' => ∃ a c, e = .returned (.slice a l.length c) ∧ Hid (GotsAt w' a (l.map (·.v))) ∧ Below w.heap.size w w' := by
  have HF : Hid (Fc1 h F bN cN bE cE bP bT cT bI ia ic w) := hF
  have HS : Hid (Q.EvS B w (.slice ao l.length cap) l) := hS
  have HD : Hid (∀ x ∈ l, x.nd = 1) := hd
  clear hF hS hd
  obtain ⟨n, hN⟩ : ∃ n, n = l.length := ⟨_, rfl⟩
  have HN : Hid (n = l.length) := hN
  rw [← hN] at hn HS ⊢
  clear hN
  go_enter Tryz.func44, Tryz.ntmps44
  go_wp2_with fail
  go_loopw [14, 7] (fun s14 s7 W => s14 = .int .i64 0 ∧ s7 = .slice none 0 0 ∧ Hid (W = w)) (fun s14 s7 W => 0)
  case atStart => exact ⟨rfl, rfl, rfl⟩
  case round =>
    obtain ⟨rfl, rfl, HW⟩ := hrel
    rw [HW.out]
    clear HW
    go_wp2_with fail
    go_loopw [35, 7] (fun s35 s7 W => ∃ (i : Nat) (a : Option Addr) (c : Nat), i ≤ n ∧ s35 = .int .i64 i ∧ s7 = .slice a i c ∧ Hid (Gl w.heap.size (.slice a i c) ((l.take i).map (·.v)) W) ∧ Hid (Below w.heap.size w W)) (fun s35 s7 W => n - (intOf s35).toNat)
    case atStart => exact ⟨0, none, 0, Nat.zero_le _, rfl, rfl, ⟨World.ownsRow_nil _ _ _ _⟩, Below.refl _ _⟩
    case round =>
      obtain ⟨i, a, c, hi, rfl, rfl, HG, HI⟩ := hrel
      by_cases hlt : i < n
      · have hil : i < l.length := by rw [← HN.out]; exact hlt
        obtain ⟨gb, rfl, hee, hr⟩ := Q.row_some (m := l.length - 1) (by have := HS.out; exact this) (by omega)
        clear hee
        obtain ⟨a0, a1, a2, a3, a4, a5⟩ := (hr.at_ (HI.out.block gb hr.lt)).cells i hil
        have hgl := Nat.lt_of_lt_of_le hr.lt HI.out.size
        have hnd := HD.out _ (Q.g_mem hil)
        rw [hnd] at a1
        have p1 := (HF.out.below HI.out).p1
        have f4 := (HF.out.below HI.out).f4
        have lP := World.block_lt_of_cell? wr ⟨bP, 1, none⟩ p1
        have lF := World.block_lt_of_cell? wr ⟨F, 4, none⟩ f4
        have HVT : Hid ((l.take (i + 1)).map (·.v) = (l.take i).map (·.v) ++ [(Q.Qu.g l i).v]) := vmap_take l i hil
        have HLn : Hid (((l.take i).map (·.v)).length = i) := by show _ = _; rw [List.length_map, List.length_take]; omega
        generalize Q.Qu.g l i = x at a0 a1 a2 a3 a4 a5 HVT
        clear hr hnd hil
        obtain ⟨xt, xn, xv, xf, xs, xa⟩ := x
        simp only at a0 a1 a2 a3 a4 a5 HVT
        have hrow := HG.out.o
        rw [HLn.out] at hrow
        have hBs : w.heap.size ≤ ((((wr.alloc (.cells #[.int .i64 xt, .int .i64 1, .string xv, .int .i64 xf, .int .i64 xs, .bool xa] 39)).alloc (.cells #[.int .i64 0, .string xv] 132)).drew).heap.size) := by have := HI.out.size; simp [World.drew]; omega
        obtain ⟨g9, c9, W9, hrun, HO9, HG9, HL9⟩ := appX infoGot Tryz.underlying91 rfl (by decide) (((hrow.alloc _).alloc _).drew) (wr.heap.size + 1) (news := [.int .i64 0, .string xv]) rfl (fun j u hj => by rw [show (((wr.alloc (.cells #[.int .i64 xt, .int .i64 1, .string xv, .int .i64 xf, .int .i64 xs, .bool xa] 39)).alloc (.cells #[.int .i64 0, .string xv] 132)).drew).cell? ((⟨wr.heap.size + 1, 0, none⟩ : Addr).add j) = ((wr.alloc (.cells #[.int .i64 xt, .int .i64 1, .string xv, .int .i64 xf, .int .i64 xs, .bool xa] 39)).alloc (.cells #[.int .i64 0, .string xv] 132)).cell? ((⟨wr.heap.size + 1, 0, none⟩ : Addr).add j) from rfl]; exact new2 _ _ _ _ _ (by simp) j u hj) (by intro u hu; simp at hu; rcases hu with rfl | rfl <;> rfl) (by omega) (by decide) hBs
        have HB9 : Hid (Below w.heap.size w W9) := belG (belA (belA HI.out _) _).drew HG9.out (fun k e => (HG.out.lt k e).1)
        have HL : Hid (Gl w.heap.size (.slice (some ⟨g9, 0, none⟩) (i + 1) c9) ((l.take (i + 1)).map (·.v)) W9) := by
          rw [HVT.out]
          refine ⟨?_⟩
          rw [List.length_append, HLn.out, gotC_app]
          exact HO9.out
        have i1 : (0 : Int) ≤ (i : Int) := by omega
        have i2 : (i : Int) < (n : Int) := by omega
        clear hrow hBs HO9 HG9 HL9 HVT HLn
        go_wp2_with fail
        go_region_law (refine step_app rfl _ _ 91 rfl (.slice a i c) (.slice (some ⟨wr.heap.size + 1, 0, none⟩) 1 1) (.slice (some ⟨g9, 0, none⟩) (i + 1) c9) W9 (by simp [Act.eval, Act.put]) (by simp [Act.eval, Act.put]) (hrun _) ?_)
        all_goals
          go_wp2_with fail
          go_roundw
          case rel => exact ⟨i + 1, some ⟨g9, 0, none⟩, c9, hlt, by go_num, rfl, HL.out, HB9.out⟩
          case measure => simp [intOf]; omega
      · obtain rfl : i = n := by omega
        go_wp2_with fail
        have hg := HG.out.gots
        rw [List.take_of_length_le (Nat.le_of_eq HN.out.symm)] at hg
        go_ret
        exact ⟨a, c, rfl, hg, HI.out⟩
end Go.Proofs.YtokepgnnepjiaaaGreat
