/- Process 1's Take. -/
import Derived.Test.YtokepgnnepjiaaaGreatGQa
namespace Go.Proofs.YtokepgnnepjiaaaGreat
set_option maxRecDepth 100000
open Go.RowKit Lg Nl Go.Maps
set_option linter.unusedVariables false
set_option linter.unusedSimpArgs false

theorem U1.lts {B p q : Nat} {hz d : Int} {v : ByteArray} {l : List Q.Qu.Ev} {pp : Option Addr} {F bN cN bE cE bP bT cT bI : Nat} {ia : Option Addr} {ic bV cV : Nat} {vq : Value} {w : World} (h : U1 B p q hz d v l pp F bN cN bE cE bP bT cT bI ia ic bV cV vq w) : ∀ b, (b = F ∨ b = bN ∨ b = bE ∨ b = bP ∨ b = bT ∨ b = bI) → b < w.heap.size := by
  rintro b (rfl | rfl | rfl | rfl | rfl | rfl)
  · exact World.block_lt_of_cell? w ⟨b, 0, none⟩ h.fx.f0
  · exact World.block_lt_of_cell? w ⟨b, 0, none⟩ h.fx.n0
  · exact World.block_lt_of_cell? w ⟨b, 0, none⟩ h.fx.e0
  · exact World.block_lt_of_cell? w ⟨b, 0, none⟩ h.fx.p0
  · exact World.block_lt_of_cell? w ⟨b, 0, none⟩ h.fx.t0
  · exact World.block_lt_of_cell? w ⟨b, 0, none⟩ h.fx.i0
theorem U1.but {B p q : Nat} {hz d : Int} {v : ByteArray} {l l' : List Q.Qu.Ev} {pp : Option Addr} {F bN cN bE cE bP bT cT bI : Nat} {ia : Option Addr} {ic bV cV : Nat} {vq vq' : Value} {W W' : World} (h : U1 B p q hz d v l pp F bN cN bE cE bP bT cT bI ia ic bV cV vq W) (hb : Q.But2 q vq.ownBlock W W') (hq : Q.Qh B q 4096 W' vq' l') (hm : Q.Mv vq vq' W) : U1 B p q hz d v l' pp F bN cN bE cE bP bT cT bI ia ic bV cV vq' W' := by
  have lp := hLt h.pb
  have lV : bV < W.heap.size := World.block_lt_of_cell? W ⟨bV, 0, none⟩ h.vv
  have mv : ∀ b, b < W.heap.size → vq.ownBlock ≠ some b → vq'.ownBlock ≠ some b := fun b hb hn e => by
    rcases hm b e with h3 | h3
    · exact hn h3
    · omega
  exact ⟨(hb.block p lp h.sp.1 h.sp.2).trans h.pb, h.fx.but hb fun b hx => (h.sf b hx).1, (cellE (hb.block bV lV h.sv.1 h.sv.2)).trans h.vv, hq, Nat.le_trans h.hB hb.size, h.gp, ⟨h.sp.1, mv p lp h.sp.2⟩, ⟨h.sv.1, mv bV lV h.sv.2⟩, h.vp, fun b hx => ⟨⟨(h.sf b hx).1.1, mv b (h.lts b hx) (h.sf b hx).1.2⟩, (h.sf b hx).2⟩, h.lo⟩
set_option maxHeartbeats 4000000 in
theorem take1_g (B p q : Nat) (hz d : Int) (v : ByteArray) (l : List Q.Qu.Ev) (pp : Option Addr) (F bN cN bE cE bP bT cT bI : Nat) (ia : Option Addr) (ic bV cV : Nat) (vq : Value) (t sq : Int) (ev : ByteArray) (an : Bool) (r : Int) (R : World → Prop) (w : World) (h : U1 B p q hz d v l pp F bN cN bE cE bP bT cT bI ia ic bV cV vq w) (hv : ev.size = 1) (hc : chkE (L ev) = 0) (ht : d < t)
    (hput : ∀ X, Below w.heap.size w X → Calls Tryz.prog 25 #[.pointer (some ⟨q, 0, none⟩), .agg #[.int .i64 t, .int .i64 1, .string ev, .int .i64 0, .int .i64 sq, .bool an]] X fun e w' => e = .returned (.int .i64 r) ∧ Hid (R w') ∧ Hid (Q.But2 q vq.ownBlock X w')) :
    Calls Tryz.prog 9 #[.pointer (some ⟨p, 0, none⟩), .agg #[.int .i64 t, .int .i64 1, .string ev, .int .i64 0, .int .i64 sq, .bool an]] w fun e w' => e = .returned (.int .i64 r) ∧ Hid (R w') ∧ Hid (Q.But2 q vq.ownBlock w w') := by
  obtain ⟨W, hW⟩ : ∃ W, W = w.alloc (.cells #[.int .i64 t, .int .i64 1, .string ev, .int .i64 0, .int .i64 sq, .bool an] 39) := ⟨_, rfl⟩
  have HB : Hid (Below w.heap.size w W) := by rw [hW]; exact belA (Below.refl _ _) _
  have hx : W.heap[w.heap.size]? = some (.cells #[.int .i64 t, .int .i64 1, .string ev, .int .i64 0, .int .i64 sq, .bool an] 39 (0, 0)) := by rw [hW]; exact alAt rfl
  have HX : Hid (W.heap[w.heap.size]? = some (.cells #[.int .i64 t, .int .i64 1, .string ev, .int .i64 0, .int .i64 sq, .bool an] 39 (0, 0))) := hx
  obtain ⟨⟨x0, x1, x2, x3, x4, x5⟩, _⟩ := Q.cell6 hx
  have lx := hLt hx
  have hpW := (HB.out.block p (hLt h.pb)).trans h.pb
  have HPW : Hid (W.heap[p]? = some (prC p F q d (.slice none 0 0) 0 (.slice (some ⟨bV, 0, none⟩) 1 cV) pp)) := hpW
  obtain ⟨y0, y1, y2, y3, y4, y5, y6, y7⟩ := pr8 hpW
  have lp := hLt hpW
  have HG : Hid (Calls Tryz.prog 22 #[.pointer (some ⟨p, 0, none⟩)] W.drew fun e w' => e = .returned (.bool true) ∧ w' = W.drew) := pgiven_c p W.drew y0
  have HA : Hid (Calls Tryz.prog 24 #[.pointer (some ⟨F, 0, none⟩), .agg #[.int .i64 t, .int .i64 1, .string ev, .int .i64 0, .int .i64 sq, .bool an]] W.drew fun e w' => e = .returned (.bool true) ∧ Below W.drew.heap.size W.drew w') := awaits_yes F bN cN bE cE bP bT cT bI hz ia ic t sq ev an W.drew ((h.fx.below HB.out).below (Below.refl _ _).drew) hv hc
  have HPt : Hid (∀ X, Below w.heap.size w X → Calls Tryz.prog 25 #[.pointer (some ⟨q, 0, none⟩), .agg #[.int .i64 t, .int .i64 1, .string ev, .int .i64 0, .int .i64 sq, .bool an]] X fun e w' => e = .returned (.int .i64 r) ∧ Hid (R w') ∧ Hid (Q.But2 q vq.ownBlock X w')) := hput
  have HSp : Hid (Sep q vq p ∧ q < w.heap.size ∧ ∀ k, vq.ownBlock = some k → k < w.heap.size) := ⟨h.sp, Q.hLt h.qh.b.blk, fun k e => (World.ownsRow.lt h.qh.b.row k e).2⟩
  have hd' : decide (t ≤ d) = false := decide_eq_false (by omega)
  clear h hv hc hx hpW hput
  go_enter Tryz.func9, Tryz.ntmps9
  go_wp2_with fail
  rw [← hW]
  clear hW
  go_region_held (fun w' => w'.cell? ⟨p, 1, none⟩ = some (.pointer (some ⟨F, 0, none⟩)) ∧ w'.cell? ⟨w.heap.size, 0, none⟩ = some (.int .i64 t) ∧ w'.cell? ⟨w.heap.size, 1, none⟩ = some (.int .i64 1) ∧ w'.cell? ⟨w.heap.size, 2, none⟩ = some (.string ev) ∧ w'.cell? ⟨w.heap.size, 3, none⟩ = some (.int .i64 0) ∧ w'.cell? ⟨w.heap.size, 4, none⟩ = some (.int .i64 sq) ∧ w'.cell? ⟨w.heap.size, 5, none⟩ = some (.bool an)) (first | go_keep | exact hS5) (first
    | (go_at_call 22; refine HG.out.mono ?_; rintro e w' ⟨rfl, hw⟩; rw [hw]; clear hw)
    | (go_at_call 24; refine HA.out.mono ?_; rintro e w5 ⟨rfl, hb5⟩; have hb5' : Below W.heap.size W w5 := (by exact ⟨hb5.os, hb5.tape, hb5.output, hb5.size, hb5.block⟩); have hS5 : w5.cell? ⟨p, 1, none⟩ = some (.pointer (some ⟨F, 0, none⟩)) ∧ w5.cell? ⟨w.heap.size, 0, none⟩ = some (.int .i64 t) ∧ w5.cell? ⟨w.heap.size, 1, none⟩ = some (.int .i64 1) ∧ w5.cell? ⟨w.heap.size, 2, none⟩ = some (.string ev) ∧ w5.cell? ⟨w.heap.size, 3, none⟩ = some (.int .i64 0) ∧ w5.cell? ⟨w.heap.size, 4, none⟩ = some (.int .i64 sq) ∧ w5.cell? ⟨w.heap.size, 5, none⟩ = some (.bool an) := ⟨(hb5'.cell (p := ⟨p, 1, none⟩) lp).trans y1, (hb5'.cell (p := ⟨w.heap.size, 0, none⟩) lx).trans x0, (hb5'.cell (p := ⟨w.heap.size, 1, none⟩) lx).trans x1, (hb5'.cell (p := ⟨w.heap.size, 2, none⟩) lx).trans x2, (hb5'.cell (p := ⟨w.heap.size, 3, none⟩) lx).trans x3, (hb5'.cell (p := ⟨w.heap.size, 4, none⟩) lx).trans x4, (hb5'.cell (p := ⟨w.heap.size, 5, none⟩) lx).trans x5⟩))
  all_goals
    have HB5 : Hid (Below W.heap.size W w5) := hb5'
    obtain ⟨z0, z1, z2, z3, z4, z5, z6, z7⟩ := pr8 ((hb5'.block p lp).trans HPW.out)
    obtain ⟨⟨u0, u1, u2, u3, u4, u5⟩, _⟩ := Q.cell6 ((hb5'.block w.heap.size lx).trans HX.out)
    have lp5 := Nat.lt_of_lt_of_le lp hb5'.size
    have lx5 := Nat.lt_of_lt_of_le lx hb5'.size
    clear hS5 hb5 hb5' x0 x1 x2 x3 x4 x5 y0 y1 y2 y3 y4 y5 y6 y7
    go_wp2_with fail
    go_quiet (fail)
    have HB6 : Hid (∀ n, Below w.heap.size w ((w5.drewN n).drew)) := fun n => (Q.belDN (bel HB.out HB5.out) n).drew
    go_wp2_with fail
    go_region_with (first
      | (go_at_call 25; refine (HPt.out _ (HB6.out _)).mono ?_; rintro e w7 ⟨rfl, HR, HBt⟩))
    all_goals
      go_wp2_with fail
      go_ret
      refine ⟨rfl, HR.out, ?_⟩
      have h1 := HB6.out 0
      have h2 := HBt.out
      have hb := bel HB.out HB5.out
      exact ⟨h2.os.trans hb.os, h2.tape.trans hb.tape, h2.output.trans hb.output, Nat.le_trans hb.size h2.size, fun k hk a b => (h2.block k (Nat.lt_of_lt_of_le hk hb.size) a b).trans (hb.block k hk)⟩
theorem take1_ok (B p q : Nat) (hz d : Int) (v : ByteArray) (l : List Q.Qu.Ev) (pp : Option Addr) (F bN cN bE cE bP bT cT bI : Nat) (ia : Option Addr) (ic bV cV : Nat) (vq : Value) (x : Q.Qu.Ev) (w : World) (S : Nat) (hS : S ≤ w.heap.size) (hs : ∀ k, vq.ownBlock = some k → S ≤ k) (h : U1 B p q hz d v l pp F bN cN bE cE bP bT cT bI ia ic bV cV vq w) (hx1 : x.nd = 1) (hx0 : x.fr = 0) (hv : x.v.size = 1) (hc : chkE (L x.v) = 0) (ht : d < x.t) (h0 : 0 ≤ x.t) (ha : x.an = false) (hk : Q.hasK l x.fr x.sq = false) (hm : x.t ≤ 4611686018427387903) (hl : l.length < 4096) :
    Calls Tryz.prog 9 #[.pointer (some ⟨p, 0, none⟩), .agg #[.int .i64 x.t, .int .i64 1, .string x.v, .int .i64 0, .int .i64 x.sq, .bool false]] w fun e w' => e = .returned (.int .i64 0) ∧ Hid (∃ l', U1E B p q hz d v l' pp S w' ∧ l'.Perm (x :: l)) ∧ But3 p q vq.ownBlock w w' := by
  obtain ⟨xt, xn, xv, xf, xs, xa⟩ := x
  simp only at hx1 hx0 hv hc ht h0 ha hk hm ⊢
  subst hx1 hx0 ha
  refine (take1_g B p q hz d v l pp F bN cN bE cE bP bT cT bI ia ic bV cV vq xt xs xv false 0 (fun w' => ∃ l', U1E B p q hz d v l' pp S w' ∧ l'.Perm ((⟨xt, 1, xv, 0, xs, false⟩ : Q.Qu.Ev) :: l)) w h hv hc ht fun X hX => ?_).mono ?_
  · refine (Q.put_ok B q 4096 vq l ⟨xt, 1, xv, 0, xs, false⟩ X (h.below hX).qh h0 rfl (by omega) hk hm (by omega) (h.below hX).hB).mono ?_
    rintro e w' ⟨rfl, v', l', a, b, c, d'⟩
    exact ⟨rfl, ⟨l', ⟨_, _, _, _, _, _, _, _, _, _, _, _, _, _, (h.below hX).but c.out a.out d'.out, fun k e => (d'.out k e).elim (hs k) (fun h3 => Nat.le_trans (Nat.le_trans hS hX.size) h3)⟩, b.out⟩, c.out⟩
  · rintro e w' ⟨rfl, hR, hb⟩
    refine ⟨rfl, hR, ⟨hb.out.os, hb.out.tape, hb.out.output, hb.out.size, fun k hk _ hq hv => hb.out.block k hk hq hv⟩⟩
end Go.Proofs.YtokepgnnepjiaaaGreat
