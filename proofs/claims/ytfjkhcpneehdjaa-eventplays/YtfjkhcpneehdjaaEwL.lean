/- Any call on both sides; what a play goes through. -/
import Derived.Test.YtfjkhcpneehdjaaEwK
namespace Go.Proofs.Ytfjkhcpneehdjaa
open Go.RowKit Qu Go.Maps
set_option linter.unusedVariables false
set_option linter.unusedSimpArgs false
set_option maxRecDepth 100000

theorem does_c {B q : Nat} {lim k : Int} {w0 w : World} {v vr : Value} {l s : List Ev} {x : Ev} (h : Pr B q lim w0 w v l vr s) (hB : B ≤ w0.heap.size) :
    Calls Try.prog 12 #[.pointer (some ⟨q, 0, none⟩), .agg #[.int .i64 lim, vr], .agg #[.int .i64 k, .int .i64 x.t, .int .i64 x.nd, .string x.v, .int .i64 x.fr, .int .i64 x.sq, .bool x.an]] w fun e w' => DoR B q lim w0 w v e w' := by
  obtain ⟨ao, cap, rfl⟩ := h.r.slice
  by_cases h1 : k = 1
  · subst h1
    by_cases he : putE s lim x = 0
    · exact does_put h hB he
    · exact does_putno h hB he
  · by_cases h2 : k = 2
    · subst h2
      rcases Nat.eq_zero_or_pos s.length with e | e
      · exact does_take0 h hB (List.eq_nil_of_length_eq_zero e)
      · exact does_take1 h hB e
    · by_cases h3 : k = 3
      · subst h3
        rcases Nat.eq_zero_or_pos s.length with e | e
        · exact does_min0 h hB (List.eq_nil_of_length_eq_zero e)
        · exact does_min1 h hB e
      · by_cases h4 : k = 4
        · subst h4
          cases e : hasK s x.fr x.sq with
          | true => exact does_cancel h hB e
          | false => exact does_cancelno h hB e
        · exact does_else h hB h1 h2 h3 h4
theorem blk_ne {W : World} {B q N : Nat} {lim' : Int} {v : Value} {l : List Ev} {c : Array Value} {t : TypeId} (h : W.heap[N]? = some (.cells c t (0, 0))) (ht : t ≠ 51) (hq : Qh B q lim' W v l) : N ≠ q := fun e => by
  subst e
  rw [hq.b.blk] at h
  injection h with h
  injection h with _ h2 _
  exact ht h2.symm
/-- the other queue's pair while one is called -/
theorem Pr.beside {B q q' : Nat} {lim : Int} {w0 W W' : World} {v vr v' : Value} {l s l' : List Ev} (h : Pr B q' lim w0 W v' l' vr s) (hq : Qh B q lim W v l) (ne : q' ≠ q) (t1 : Two v v') (t2 : Two v vr) (hb : But2 q v.ownBlock W W') (hB' : Below B w0 W') : Pr B q' lim w0 W' v' l' vr s :=
  ⟨⟨h.fq.q.beside hq ne t1.sym hb, hB'⟩, h.r.beside hq t2 hb, h.t, h.p, h.sd, h.ku, h.n, h.m⟩
/-- the other queue, that is looked at in the end -/
def Old (B : Nat) (lim : Int) (w0 W : World) (q : Nat) (v vw : Value) (o : Option Addr) : Prop :=
  o = none ∨ ∃ qo vo lo sw, o = some ⟨qo, 0, none⟩ ∧ Pr B qo lim w0 W vo lo vw sw ∧ qo ≠ q ∧ Two v vo ∧ Two v vw
/-- where a play is -/
structure Lo (B RB WB : Nat) (lim : Int) (w0 W : World) (q : Nat) (v : Value) (l : List Ev) (vr : Value) (s : List Ev) (vb vw : Value) (o : Option Addr) : Prop where
  p : Pr B q lim w0 W v l vr s
  rb : W.heap[RB]? = some (.cells #[.int .i64 lim, vb] 29 (0, 0))
  wb : W.heap[WB]? = some (.cells #[.int .i64 lim, vw] 29 (0, 0))
  ne : RB ≠ WB
  bR : B ≤ RB
  bW : B ≤ WB
  old : Old B lim w0 W q v vw o
theorem Old.up {B : Nat} {lim : Int} {w0 W W' : World} {q : Nat} {v vw : Value} {o : Option Addr} (h : Old B lim w0 W q v vw o) (hB : B ≤ w0.heap.size) (hb : Below W.heap.size W W') : Old B lim w0 W' q v vw o := by
  rcases h with h | ⟨qo, vo, lo, sw, a, b, c⟩
  · exact Or.inl h
  · exact Or.inr ⟨qo, vo, lo, sw, a, b.up hB hb, c⟩
theorem Lo.up {B RB WB : Nat} {lim : Int} {w0 W W' : World} {q : Nat} {v vr vb vw : Value} {l s : List Ev} {o : Option Addr} (h : Lo B RB WB lim w0 W q v l vr s vb vw o) (hB : B ≤ w0.heap.size) (hb : Below W.heap.size W W') : Lo B RB WB lim w0 W' q v l vr s vb vw o :=
  ⟨h.p.up hB hb, (hb.block _ (hLt h.rb)).trans h.rb, (hb.block _ (hLt h.wb)).trans h.wb, h.ne, h.bR, h.bW, h.old.up hB hb⟩
theorem Lo.act {B RB WB : Nat} {lim : Int} {w0 W W' : World} {q : Nat} {v vr vb vw v' vr' : Value} {l s l' s' : List Ev} {o : Option Addr} (h : Lo B RB WB lim w0 W q v l vr s vb vw o) (hp : Pr B q lim w0 W' v' l' vr' s') (hb : But2 q v.ownBlock W W') (hm : Mv v v' W) : Lo B RB WB lim w0 W' q v' l' vr' s' vb vw o := by
  have hq := h.p.fq.q
  refine ⟨hp, blk_act h.rb (by decide) hq (blk_ne h.rb (by decide) hq) hb, blk_act h.wb (by decide) hq (blk_ne h.wb (by decide) hq) hb, h.ne, h.bR, h.bW, ?_⟩
  rcases h.old with h1 | ⟨qo, vo, lo, sw, a, b, c, d, e⟩
  · exact Or.inl h1
  · exact Or.inr ⟨qo, vo, lo, sw, a, b.beside hq c d e hb hp.fq.b, c, (d.sym.mv hm b.fq.q.lt).sym, (e.sym.mv hm b.r.lt).sym⟩
/-- a block of the walk's own has turned -/
theorem Pr.but {B q R : Nat} {lim : Int} {w0 W W' : World} {v vr : Value} {l s : List Ev} {c : Array Value} (h : Pr B q lim w0 W v l vr s) (hB : B ≤ w0.heap.size) (hb : But R W W') (hR : W.heap[R]? = some (.cells c 29 (0, 0))) (hBR : B ≤ R) : Pr B q lim w0 W' v l vr s :=
  ⟨h.fq.but hB hb hBR (fun e => blk_ne hR (by decide) h.fq.q e.symm) (own_neT h.fq.q.b.row hR (by decide)), own_at h.r fun k hk => hb.block k (h.r.lt k hk) (fun e => by subst e; exact own_neT h.r hR (by decide) hk), h.t, h.p, h.sd, h.ku, h.n, h.m⟩
theorem Old.but {B R : Nat} {lim : Int} {w0 W W' : World} {q : Nat} {v vw : Value} {o : Option Addr} {c : Array Value} (h : Old B lim w0 W q v vw o) (hB : B ≤ w0.heap.size) (hb : But R W W') (hR : W.heap[R]? = some (.cells c 29 (0, 0))) (hBR : B ≤ R) : Old B lim w0 W' q v vw o := by
  rcases h with h | ⟨qo, vo, lo, sw, a, b, d⟩
  · exact Or.inl h
  · exact Or.inr ⟨qo, vo, lo, sw, a, b.but hB hb hR hBR, d⟩
theorem but2c {R : Nat} {W : World} {a b : Value} : But R W ((W.setCell ⟨R, 0, none⟩ a).setCell ⟨R, 1, none⟩ b) := ((But.refl R W).set 0 a).set 1 b
theorem set2_at {W : World} {R : Nat} {x y a b : Value} {t : TypeId} (h : W.heap[R]? = some (.cells #[x, y] t (0, 0))) : ((W.setCell ⟨R, 0, none⟩ a).setCell ⟨R, 1, none⟩ b).heap[R]? = some (.cells #[a, b] t (0, 0)) := by
  have k0 := heap_setCell_same W R 0 _ t a h
  have k1 := heap_setCell_same _ R 1 _ t b k0
  simpa using k1
theorem Lo.setR {B RB WB : Nat} {lim : Int} {w0 W : World} {q : Nat} {v vr vb vw vn : Value} {l s : List Ev} {o : Option Addr} (h : Lo B RB WB lim w0 W q v l vr s vb vw o) (hB : B ≤ w0.heap.size) : Lo B RB WB lim w0 ((W.setCell ⟨RB, 0, none⟩ (.int .i64 lim)).setCell ⟨RB, 1, none⟩ vn) q v l vr s vn vw o :=
  ⟨h.p.but hB but2c h.rb h.bR, set2_at h.rb, (but2c.block _ (hLt h.wb) h.ne.symm).trans h.wb, h.ne, h.bR, h.bW, h.old.but hB but2c h.rb h.bR⟩
theorem Lo.setN {B RB WB N : Nat} {lim : Int} {w0 W : World} {q : Nat} {v vr vb vw a b : Value} {l s : List Ev} {o : Option Addr} {c : Array Value} (h : Lo B RB WB lim w0 W q v l vr s vb vw o) (hB : B ≤ w0.heap.size) (hN : W.heap[N]? = some (.cells c 29 (0, 0))) (hBN : B ≤ N) (n1 : N ≠ RB) (n2 : N ≠ WB) : Lo B RB WB lim w0 ((W.setCell ⟨N, 0, none⟩ a).setCell ⟨N, 1, none⟩ b) q v l vr s vb vw o :=
  ⟨h.p.but hB but2c hN hBN, (but2c.block _ (hLt h.rb) n1.symm).trans h.rb, (but2c.block _ (hLt h.wb) n2.symm).trans h.wb, h.ne, h.bR, h.bW, h.old.but hB but2c hN hBN⟩
/-- the copy takes the queue's place -/
theorem Lo.copy {B RB WB : Nat} {lim : Int} {w0 W W' : World} {q q' : Nat} {v vr vb vw v' : Value} {l s : List Ev} {o : Option Addr} (h : Lo B RB WB lim w0 W q v l vr s vr vw o) (hB : B ≤ w0.heap.size) (hq : Qh ((W.setCell ⟨WB, 0, none⟩ (.int .i64 lim)).setCell ⟨WB, 1, none⟩ vr).heap.size q' lim W' v' l) (hb : Below ((W.setCell ⟨WB, 0, none⟩ (.int .i64 lim)).setCell ⟨WB, 1, none⟩ vr).heap.size ((W.setCell ⟨WB, 0, none⟩ (.int .i64 lim)).setCell ⟨WB, 1, none⟩ vr) W') : Lo B RB WB lim w0 W' q' v' l vr s vr vr (some ⟨q, 0, none⟩) := by
  have hbt : But WB W ((W.setCell ⟨WB, 0, none⟩ (.int .i64 lim)).setCell ⟨WB, 1, none⟩ vr) := but2c
  have p1 := h.p.but hB hbt h.wb h.bW
  have w1 := set2_at (a := .int .i64 lim) (b := vr) h.wb
  have r1 := (hbt.block _ (hLt h.rb) h.ne).trans h.rb
  revert hq hb p1 w1 r1
  generalize (W.setCell ⟨WB, 0, none⟩ (.int .i64 lim)).setCell ⟨WB, 1, none⟩ vr = W1
  intro hq hb p1 w1 r1
  have p2 := p1.up hB hb
  have sz := p1.fq.b.size
  have hlt := hLt p1.fq.q.b.blk
  have hge := hq.b.ge
  have t1 : Two v' v := fun x a b => by have h1 := hq.own_ge x a; have h2 := p1.fq.q.lt x b; omega
  have t2 : Two v' vr := fun x a b => by have h1 := hq.own_ge x a; have h2 := p1.r.lt x b; omega
  exact ⟨⟨⟨hq.mono (by omega), p2.fq.b⟩, p2.r, t2, p2.p, p2.sd, p2.ku, p2.n, p2.m⟩, (hb.block _ (hLt r1)).trans r1, (hb.block _ (hLt w1)).trans w1, h.ne, h.bR, h.bW, Or.inr ⟨q, v, l, s, rfl, p2, by omega, t1, t2⟩⟩
end Go.Proofs.Ytfjkhcpneehdjaa
