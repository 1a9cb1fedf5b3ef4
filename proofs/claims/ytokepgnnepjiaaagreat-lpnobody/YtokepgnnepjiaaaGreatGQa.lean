/- Texts QB QC QH, joined: what each part says stands ahead of it. -/
import Derived.Test.YtokepgnnepjiaaaGreatQA
import Derived.Test.YtokepgnnepjiaaaGreatQG
/- Process 1 steps. -/
namespace Go.Proofs.YtokepgnnepjiaaaGreat
set_option maxRecDepth 100000
open Go.RowKit Lg Nl Go.Maps
set_option linter.unusedVariables false
set_option linter.unusedSimpArgs false

theorem U1.below {B p q : Nat} {hz d : Int} {v : ByteArray} {l : List Q.Qu.Ev} {pp : Option Addr} {F bN cN bE cE bP bT cT bI : Nat} {ia : Option Addr} {ic bV cV : Nat} {vq : Value} {W W' : World} (h : U1 B p q hz d v l pp F bN cN bE cE bP bT cT bI ia ic bV cV vq W) (hb : Below W.heap.size W W') : U1 B p q hz d v l pp F bN cN bE cE bP bT cT bI ia ic bV cV vq W' :=
  ⟨(hb.block p (hLt h.pb)).trans h.pb, h.fx.below hb, (hb.cell (p := ⟨bV, 0, none⟩) (World.block_lt_of_cell? W ⟨bV, 0, none⟩ h.vv)).trans h.vv, h.qh.below hb, Nat.le_trans h.hB hb.size, h.gp, h.sp, h.sv, h.vp, h.sf, h.lo⟩
theorem Pst.le {w w2 : World} {tm n : Int} {v u : ByteArray} {pp pp' : Option Addr} {W : World} (h : Pst w2 tm n v u pp pp' W) (hs : w.heap.size ≤ w2.heap.size) : Pst w tm n v u pp pp' W := by
  rcases h with h | ⟨hne, m, bC, cC, e, hm, hc, hg⟩
  · exact Or.inl h
  · exact Or.inr ⟨hne, m, bC, cC, e, hm, ⟨Nat.le_trans hs hc.ge, hc.c0, hc.c1, hc.c2⟩, Nat.le_trans hs hg⟩
set_option maxHeartbeats 2000000 in
/-- a step, over what Next tells -/
theorem step1_g (B p q : Nat) (hz d tm : Int) (v : ByteArray) (l : List Q.Qu.Ev) (pp : Option Addr) (F bN cN bE cE bP bT cT bI : Nat) (ia : Option Addr) (ic bV cV : Nat) (v0 : Value) (w : World) (S : Nat) (hS : S ≤ w.heap.size) (hs : ∀ k, v0.ownBlock = some k → S ≤ k) (h : U1 B p q hz d v l pp F bN cN bE cE bP bT cT bI ia ic bV cV v0 w) (hl : l.length ≤ 4096) (hnd : ∀ x ∈ l, x.nd = 1)
    (hn : Calls Tryz.prog 13 #[.pointer (some ⟨p, 0, none⟩)] w fun e w' => e = .returned (.tuple #[.int .i64 tm, .bool true]) ∧ Below w.heap.size w w') :
    Calls Tryz.prog 7 #[.pointer (some ⟨p, 0, none⟩)] w fun e w' => e = .returned (.tuple #[.slice none 0 0, .int .i64 0]) ∧ ∃ ds rest pp', Hid (U1E B p q hz tm (lastV v (ds.map (·.v))) rest pp' S w') ∧ Hid (l.Perm (ds ++ rest) ∧ (∀ y ∈ ds, y.t = tm) ∧ (rest = [] ∨ (Q.Qu.g rest 0).t ≠ tm)) ∧ Hid (Pst w tm 1 v (lastV v (ds.map (·.v))) pp pp' w') ∧ But3 p q v0.ownBlock w w' := by
  have HG : Hid (Calls Tryz.prog 22 #[.pointer (some ⟨p, 0, none⟩)] w fun e w' => e = .returned (.bool true) ∧ w' = w) := pgiven_c p w (pr8 h.pb).1
  have HN : Hid (Calls Tryz.prog 13 #[.pointer (some ⟨p, 0, none⟩)] w fun e w' => e = .returned (.tuple #[.int .i64 tm, .bool true]) ∧ Below w.heap.size w w') := hn
  have HT : Hid (∀ X, Below w.heap.size w X → Calls Tryz.prog 23 #[.pointer (some ⟨p, 0, none⟩), .int .i64 tm] X fun e w' => e = .returned (.tuple #[.slice none 0 0, .int .i64 0]) ∧ ∃ ds rest pp', Hid (U1E B p q hz tm (lastV v (ds.map (·.v))) rest pp' S w') ∧ Hid (l.Perm (ds ++ rest) ∧ (∀ y ∈ ds, y.t = tm) ∧ (rest = [] ∨ (Q.Qu.g rest 0).t ≠ tm)) ∧ Hid (Pst w tm 1 v (lastV v (ds.map (·.v))) pp pp' w') ∧ But3 p q v0.ownBlock w w') := fun X hX => by
    refine (through1_c B p q hz d tm v l pp F bN cN bE cE bP bT cT bI ia ic bV cV v0 X S (Nat.le_trans hS hX.size) hs (h.below hX) hl hnd).mono ?_
    rintro e w' ⟨rfl, ds, rest, pp', a, b, c, e2⟩
    exact ⟨rfl, ds, rest, pp', a, b, c.out.le hX.size, e2.pre hX⟩
  clear h hl hnd hn hS hs
  go_enter Tryz.func7, Tryz.ntmps7
  go_wp2_with (first
    | (go_at_call 22; refine HG.out.mono ?_; rintro e w1 ⟨rfl, hw⟩; rw [hw]; clear hw)
    | (go_at_call 13; refine HN.out.mono ?_; rintro e w2 ⟨rfl, hb2⟩)
    | (go_at_call 23; refine (HT.out _ hb2).mono ?_; rintro e w3 ⟨rfl, ds, rest, pp', H1, H2, H3, hb3⟩))
  go_ret2
  exact ⟨rfl, ds, rest, pp', H1, H2, H3, hb3⟩
set_option maxHeartbeats 2000000 in
theorem step1_none (B p q : Nat) (hz d : Int) (v : ByteArray) (pp : Option Addr) (F bN cN bE cE bP bT cT bI : Nat) (ia : Option Addr) (ic bV cV : Nat) (v0 : Value) (w : World) (h : U1 B p q hz d v [] pp F bN cN bE cE bP bT cT bI ia ic bV cV v0 w) (hd : 0 ≤ d) (h0 : 0 ≤ hz) (h1 : hz ≤ 1000000) :
    Calls Tryz.prog 7 #[.pointer (some ⟨p, 0, none⟩)] w fun e w' => e = .returned (.tuple #[.slice none 0 0, .int .i64 3]) ∧ Below w.heap.size w w' := by
  have HG : Hid (Calls Tryz.prog 22 #[.pointer (some ⟨p, 0, none⟩)] w fun e w' => e = .returned (.bool true) ∧ w' = w) := pgiven_c p w (pr8 h.pb).1
  have HN : Hid (Calls Tryz.prog 13 #[.pointer (some ⟨p, 0, none⟩)] w fun e w' => e = .returned (.tuple #[.int .i64 0, .bool false]) ∧ Below w.heap.size w w') := pnext_none B p F q d hz 0 _ v0 pp w h.pb h.fx.f1 hd h0 h1 h.qh
  clear h
  go_enter Tryz.func7, Tryz.ntmps7
  go_wp2_with (first
    | (go_at_call 22; refine HG.out.mono ?_; rintro e w1 ⟨rfl, hw⟩; rw [hw]; clear hw)
    | (go_at_call 13; refine HN.out.mono ?_; rintro e w2 ⟨rfl, hb2⟩))
  go_ret2
  exact ⟨rfl, hb2⟩
end Go.Proofs.YtokepgnnepjiaaaGreat

/- Process 1 takes an event that comes to it. -/
namespace Go.Proofs.YtokepgnnepjiaaaGreat
set_option maxRecDepth 100000
open Go.RowKit Lg Nl Go.Maps
set_option linter.unusedVariables false
set_option linter.unusedSimpArgs false

set_option maxHeartbeats 4000000 in
theorem awaits_yes (F bN cN bE cE bP bT cT bI : Nat) (h : Int) (ia : Option Addr) (ic : Nat) (t sq : Int) (v : ByteArray) (an : Bool) (w : World) (hF : Fc1 h F bN cN bE cE bP bT cT bI ia ic w) (hv : v.size = 1) (hc : chkE (L v) = 0) :
    Calls Tryz.prog 24 #[.pointer (some ⟨F, 0, none⟩), .agg #[.int .i64 t, .int .i64 1, .string v, .int .i64 0, .int .i64 sq, .bool an]] w fun e w' => e = .returned (.bool true) ∧ Below w.heap.size w w' := by
  have HC : Hid (∀ W, Calls Tryz.prog 50 #[.string v] W fun e w' => e = .returned (.int .i64 0) ∧ Below W.heap.size W w') := fun W => by have k := Check_c v W (by rw [hv]; decide); rw [hc] at k; exact k
  obtain ⟨W, hW⟩ : ∃ W, W = w.alloc (.cells #[.int .i64 t, .int .i64 1, .string v, .int .i64 0, .int .i64 sq, .bool an] 39) := ⟨_, rfl⟩
  have HB : Hid (Below w.heap.size w W) := by rw [hW]; exact belA (Below.refl _ _) _
  have hx : W.heap[w.heap.size]? = some (.cells #[.int .i64 t, .int .i64 1, .string v, .int .i64 0, .int .i64 sq, .bool an] 39 (0, 0)) := by rw [hW]; exact alAt rfl
  obtain ⟨⟨x0, x1, x2, x3, x4, x5⟩, _⟩ := Q.cell6 hx
  have lx := hLt hx
  have hf := hF.below HB.out
  have f0 := hf.f0
  have f2 := hf.f2
  have f3 := hf.f3
  have f4 := hf.f4
  have n2 := hf.n2
  have e0 := hf.e0
  have p1 := hf.p1
  have lF := World.block_lt_of_cell? W ⟨F, 0, none⟩ f0
  have lN := World.block_lt_of_cell? W ⟨bN, 2, none⟩ n2
  have lE := World.block_lt_of_cell? W ⟨bE, 0, none⟩ e0
  have hv' : ((v.size : Nat) : Int) = 1 := by rw [hv]; rfl
  clear hF hf hx hc
  go_enter Tryz.func24, Tryz.ntmps24
  go_wp2_with fail
  rw [← hW]
  clear hW
  go_quiet (fail)
  go_wp2_with fail
  go_quiet (fail)
  go_wp2_with fail
  go_region_held (fun w' => w'.cell? ⟨F, 3, none⟩ = some (.slice (some ⟨bE, 0, none⟩) 1 cE) ∧ w'.cell? ⟨bE, 0, none⟩ = some (.int .i64 0) ∧ w'.cell? ⟨w.heap.size, 3, none⟩ = some (.int .i64 0) ∧ w'.cell? ⟨w.heap.size, 2, none⟩ = some (.string v) ∧ w'.cell? ⟨F, 2, none⟩ = some (.slice (some ⟨bN, 0, none⟩) 1 cN) ∧ w'.cell? ⟨bN, 2, none⟩ = some (.int .i64 1)) (first | go_keep | exact hS5) (first
    | (go_at_call 50; refine (HC.out _).mono ?_; rintro e w5 ⟨rfl, hb5⟩; have hb5' : Below W.heap.size W w5 := (by exact ⟨hb5.os, hb5.tape, hb5.output, hb5.size, hb5.block⟩); have hS5 : w5.cell? ⟨F, 3, none⟩ = some (.slice (some ⟨bE, 0, none⟩) 1 cE) ∧ w5.cell? ⟨bE, 0, none⟩ = some (.int .i64 0) ∧ w5.cell? ⟨w.heap.size, 3, none⟩ = some (.int .i64 0) ∧ w5.cell? ⟨w.heap.size, 2, none⟩ = some (.string v) ∧ w5.cell? ⟨F, 2, none⟩ = some (.slice (some ⟨bN, 0, none⟩) 1 cN) ∧ w5.cell? ⟨bN, 2, none⟩ = some (.int .i64 1) := ⟨(hb5'.cell (p := ⟨F, 3, none⟩) lF).trans f3, (hb5'.cell (p := ⟨bE, 0, none⟩) lE).trans e0, (hb5'.cell (p := ⟨w.heap.size, 3, none⟩) lx).trans x3, (hb5'.cell (p := ⟨w.heap.size, 2, none⟩) lx).trans x2, (hb5'.cell (p := ⟨F, 2, none⟩) lF).trans f2, (hb5'.cell (p := ⟨bN, 2, none⟩) lN).trans n2⟩))
  all_goals
    go_wp2_with fail
    go_ret
    exact ⟨rfl, bel HB.out hb5'⟩
end Go.Proofs.YtokepgnnepjiaaaGreat

/- Process 0 steps. -/
namespace Go.Proofs.YtokepgnnepjiaaaGreat
set_option maxRecDepth 100000
open Go.RowKit Lg Nl Go.Maps
set_option linter.unusedVariables false
set_option linter.unusedSimpArgs false

theorem U0.below {B p q : Nat} {hz d : Int} {v : ByteArray} {pp : Option Addr} {F bN cN bE cE bP bT cT bI bL cL : Nat} {ia : Option Addr} {ic bV cV bS cS : Nat} {vq : Value} {W W' : World} (h : U0 B p q hz d v pp F bN cN bE cE bP bT cT bI bL cL ia ic bV cV bS cS vq W) (hb : Below W.heap.size W W') : U0 B p q hz d v pp F bN cN bE cE bP bT cT bI bL cL ia ic bV cV bS cS vq W' :=
  ⟨(hb.block p (hLt h.pb)).trans h.pb, h.fx.below hb, (hb.cell (p := ⟨bV, 0, none⟩) (World.block_lt_of_cell? W ⟨bV, 0, none⟩ h.vv)).trans h.vv, h.st.below hb, h.sc, h.qh.below hb, Nat.le_trans h.hB hb.size, h.gp, h.sp, h.sv, h.ss, h.vp, h.tp, h.sf⟩
set_option maxHeartbeats 2000000 in
theorem step0a_c (B p q : Nat) (hz : Int) (pp : Option Addr) (F bN cN bE cE bP bT cT bI bL cL : Nat) (ia : Option Addr) (ic bV cV bS cS : Nat) (v0 : Value) (w : World) (S : Nat) (hS : S ≤ w.heap.size) (hs : ∀ k, v0.ownBlock = some k → S ≤ k) (h : U0 B p q hz (-1) ⟨#[120]⟩ pp F bN cN bE cE bP bT cT bI bL cL ia ic bV cV bS cS v0 w) :
    Calls Tryz.prog 7 #[.pointer (some ⟨p, 0, none⟩)] w fun e w' => e = .returned (.tuple #[.slice none 0 0, .int .i64 0]) ∧ Hid (U0E B p q hz 0 ⟨#[120]⟩ pp S w') ∧ Hid (But3 p q v0.ownBlock w w') := by
  have HG : Hid (Calls Tryz.prog 22 #[.pointer (some ⟨p, 0, none⟩)] w fun e w' => e = .returned (.bool true) ∧ w' = w) := pgiven_c p w (pr8 h.pb).1
  have HN : Hid (Calls Tryz.prog 13 #[.pointer (some ⟨p, 0, none⟩)] w fun e w' => e = .returned (.tuple #[.int .i64 0, .bool true]) ∧ Below w.heap.size w w') := (pnext_0 p F q 0 _ _ pp w h.pb).mono (by rintro e w' ⟨rfl, rfl⟩; exact ⟨rfl, Below.refl _ _⟩)
  have HT : Hid (∀ X, Below w.heap.size w X → Calls Tryz.prog 23 #[.pointer (some ⟨p, 0, none⟩), .int .i64 0] X fun e w' => e = .returned (.tuple #[.slice none 0 0, .int .i64 0]) ∧ Hid (U0E B p q hz 0 ⟨#[120]⟩ pp S w') ∧ Hid (But3 p q v0.ownBlock w w')) := fun X hX => by
    refine (through0a_c B p q hz pp F bN cN bE cE bP bT cT bI bL cL ia ic bV cV bS cS v0 X S (Nat.le_trans hS hX.size) hs (h.below hX)).mono ?_
    rintro e w' ⟨rfl, H1, H2⟩
    exact ⟨rfl, H1, H2.out.pre hX⟩
  clear h hS hs
  go_enter Tryz.func7, Tryz.ntmps7
  go_wp2_with (first
    | (go_at_call 22; refine HG.out.mono ?_; rintro e w1 ⟨rfl, hw⟩; rw [hw]; clear hw)
    | (go_at_call 13; refine HN.out.mono ?_; rintro e w2 ⟨rfl, hb2⟩)
    | (go_at_call 23; refine (HT.out _ hb2).mono ?_; rintro e w3 ⟨rfl, H1, H2⟩))
  go_ret2
  exact ⟨rfl, H1, H2⟩
set_option maxHeartbeats 2000000 in
theorem step0b_c (B p q : Nat) (hz : Int) (pp : Option Addr) (F bN cN bE cE bP bT cT bI bL cL : Nat) (ia : Option Addr) (ic bV cV bS cS : Nat) (v0 : Value) (w : World) (h : U0 B p q hz 0 ⟨#[120]⟩ pp F bN cN bE cE bP bT cT bI bL cL ia ic bV cV bS cS v0 w) (h0 : 3 ≤ hz) (h1 : hz ≤ 1000000) :
    Calls Tryz.prog 7 #[.pointer (some ⟨p, 0, none⟩)] w fun e w' => ∃ g c, e = .returned (.tuple #[.slice (some ⟨g, 0, none⟩) 1 c, .int .i64 0]) ∧ Hid (E1 w.heap.size g 5 1 ⟨#[49]⟩ 0 1 w') ∧ Hid (But3 p q v0.ownBlock w w') := by
  have HG : Hid (Calls Tryz.prog 22 #[.pointer (some ⟨p, 0, none⟩)] w fun e w' => e = .returned (.bool true) ∧ w' = w) := pgiven_c p w (pr8 h.pb).1
  have HN : Hid (Calls Tryz.prog 13 #[.pointer (some ⟨p, 0, none⟩)] w fun e w' => e = .returned (.tuple #[.int .i64 3, .bool true]) ∧ Below w.heap.size w w') := pnext_st B p F q bS cS 0 hz 0 3 _ v0 pp w h.pb h.fx.f1 h.st.c0 (by omega) (by omega) h1 h0 h.qh
  have HT : Hid (∀ X, Below w.heap.size w X → Calls Tryz.prog 23 #[.pointer (some ⟨p, 0, none⟩), .int .i64 3] X fun e w' => ∃ g c, e = .returned (.tuple #[.slice (some ⟨g, 0, none⟩) 1 c, .int .i64 0]) ∧ Hid (E1 w.heap.size g 5 1 ⟨#[49]⟩ 0 1 w') ∧ Hid (But3 p q v0.ownBlock w w')) := fun X hX => by
    refine (through0b_c B p q hz pp F bN cN bE cE bP bT cT bI bL cL ia ic bV cV bS cS v0 X (h.below hX)).mono ?_
    rintro e w' ⟨g, c, rfl, H1, H2⟩
    exact ⟨g, c, rfl, ⟨by have := H1.out.ge; have := hX.size; omega, H1.out.c0, H1.out.c1, H1.out.c2, H1.out.c3, H1.out.c4, H1.out.c5⟩, H2.out.pre hX⟩
  clear h h0 h1
  go_enter Tryz.func7, Tryz.ntmps7
  go_wp2_with (first
    | (go_at_call 22; refine HG.out.mono ?_; rintro e w1 ⟨rfl, hw⟩; rw [hw]; clear hw)
    | (go_at_call 13; refine HN.out.mono ?_; rintro e w2 ⟨rfl, hb2⟩)
    | (go_at_call 23; refine (HT.out _ hb2).mono ?_; rintro e w3 ⟨g, c, rfl, H1, H2⟩))
  go_ret2
  exact ⟨g, c, rfl, H1, H2⟩
end Go.Proofs.YtokepgnnepjiaaaGreat
