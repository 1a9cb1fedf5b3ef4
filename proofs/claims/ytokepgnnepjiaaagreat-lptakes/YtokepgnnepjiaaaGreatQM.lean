/- What every law of layer 15 ends in: the run of two processes. -/
import Derived.Test.YtokepgnnepjiaaaGreatGQb
namespace Go.Proofs.YtokepgnnepjiaaaGreat
set_option maxRecDepth 100000
open Go.RowKit Lg Nl Go.Maps
set_option linter.unusedVariables false
set_option linter.unusedSimpArgs false

theorem U0E.lt {B p q : Nat} {hz d : Int} {v : ByteArray} {pp : Option Addr} {S : Nat} {W : World} (h : U0E B p q hz d v pp S W) : p < W.heap.size ∧ q < W.heap.size := by
  obtain ⟨F, bN, cN, bE, cE, bP, bT, cT, bI, bL, cL, ia, ic, bV, cV, bS, cS, vq, h, hs⟩ := h
  exact ⟨hLt h.pb, Q.hLt h.qh.b.blk⟩
theorem U1E.lt {B p q : Nat} {hz d : Int} {v : ByteArray} {l : List Q.Qu.Ev} {pp : Option Addr} {S : Nat} {W : World} (h : U1E B p q hz d v l pp S W) : p < W.heap.size ∧ q < W.heap.size := by
  obtain ⟨F, bN, cN, bE, cE, bP, bT, cT, bI, ia, ic, bV, cV, vq, h, hs⟩ := h
  exact ⟨hLt h.pb, Q.hLt h.qh.b.blk⟩
theorem U1E.below {B p q : Nat} {hz d : Int} {v : ByteArray} {l : List Q.Qu.Ev} {pp : Option Addr} {S : Nat} {W W' : World} (h : U1E B p q hz d v l pp S W) (hb : Below W.heap.size W W') : U1E B p q hz d v l pp S W' := h.mvb hb.size fun k _ hk => hb.block k hk
theorem done1_e {B p q : Nat} {hz d : Int} {v : ByteArray} {l : List Q.Qu.Ev} {pp : Option Addr} {S : Nat} {w : World} (h : U1E B p q hz d v l pp S w) :
    Calls Tryz.prog 8 #[.pointer (some ⟨p, 0, none⟩)] w fun e w' => e = .returned (.int .i64 d) ∧ w' = w := by
  obtain ⟨F, bN, cN, bE, cE, bP, bT, cT, bI, ia, ic, bV, cV, vq, h, hs⟩ := h
  exact pdone_c p F q d 0 _ _ pp w h.pb
theorem chg1_e {B p q m bC cC B2 : Nat} {hz d t n f : Int} {v u : ByteArray} {l : List Q.Qu.Ev} {S : Nat} {w : World} (h : U1E B p q hz d v l (some ⟨m, 0, none⟩) S w) (hm : w.heap[m]? = some (.cells #[.pointer none, .slice (some ⟨bC, 0, none⟩) 1 cC] 108 (0, 0))) (hC : C1 B2 bC t n u w) (hf : f ≤ t) :
    Calls Tryz.prog 15 #[.pointer (some ⟨p, 0, none⟩), .int .i64 f] w fun e w' => ∃ g c, e = .returned (.slice (some ⟨g, 0, none⟩) 1 c) ∧ Hid (C1 w.heap.size g t n u w') ∧ Below w.heap.size w w' := by
  obtain ⟨F, bN, cN, bE, cE, bP, bT, cT, bI, ia, ic, bV, cV, vq, h, hs⟩ := h
  exact changes1m_c p F q m bC cC B2 d 0 t n f _ _ u w h.pb hm hC hf
theorem But3.low {p q S B : Nat} {U : Option Nat} {w w' : World} (h : But3 p q U w w') (hU : ∀ k, U = some k → S ≤ k) (hp : B ≤ p) (hq : B ≤ q) (hB : B ≤ S) (hw : B ≤ w.heap.size) : Below B w w' :=
  ⟨h.os, h.tape, h.output, h.size, fun k hk => h.block k (by omega) (by omega) (by omega) fun e => by have := hU k e; omega⟩
theorem belT {B : Nat} {a b c : World} (h : Below B a b) (h2 : Below B b c) : Below B a c :=
  ⟨h2.os.trans h.os, h2.tape.trans h.tape, h2.output.trans h.output, Nat.le_trans h.size h2.size, fun k hk => (h2.block k hk).trans (h.block k hk)⟩
theorem belL {B : Nat} {a b : World} (h : Below a.heap.size a b) (hB : B ≤ a.heap.size) : Below B a b := ⟨h.os, h.tape, h.output, h.size, fun k hk => h.block k (by omega)⟩
set_option maxHeartbeats 4000000 in
theorem awake15_c (w : World) : Calls Tryz.prog 12 #[] w fun e w' => e = .returned (.bool true) ∧ Below w.heap.size w w' := by
  have hne : ∀ W, (binOp BinOp.neq 39 (.agg #[.int .i64 5, .int .i64 1, .string ⟨#[49]⟩, .int .i64 0, .int .i64 1, .bool false]) (.agg #[.int .i64 5, .int .i64 1, .string ⟨#[49]⟩, .int .i64 0, .int .i64 1, .bool false])).run Tryz.prog W = .ok (.bool false) W := fun W => by kernel_rfl
  have heq : ∀ W, (binOp BinOp.eql 74 (.agg #[.int .i64 5, .int .i64 1, .string ⟨#[49]⟩]) (.agg #[.int .i64 5, .int .i64 1, .string ⟨#[49]⟩])).run Tryz.prog W = .ok (.bool true) W := fun W => by kernel_rfl
  go_enter Tryz.func12, Tryz.ntmps12
  go_wp2_with (first
    | (go_at_call 5; refine (two_c _).mono ?_; rintro e w1 ⟨NN, I, NT, O, M, A, B, rfl, HT, hb1⟩; have HB1 : Hid (Below w.heap.size w w1) := hb1; clear hb1))
  obtain ⟨W0, hW0⟩ : ∃ W0, W0 = ((w1.alloc (.cells #[.slice (some ⟨NN, 0, none⟩) 2 2, .slice (some ⟨NT, 0, none⟩) 2 2, .int .i64 2] 26)).alloc (.cells #[.slice (some ⟨O, 0, none⟩) 2 2, .int .i64 2, .slice (some ⟨M, 0, none⟩) 2 2] 29)).alloc (.cells #[.int .i64 3, .int .i64 0, .string ⟨#[49]⟩] 74) := ⟨_, rfl⟩
  rw [← hW0]
  have HB0 : Hid (Below w1.heap.size w1 W0) := by rw [hW0]; exact belA (belA (belA (Below.refl _ _) _) _) _
  have hn : W0.heap[w1.heap.size]? = some (.cells #[.slice (some ⟨NN, 0, none⟩) 2 2, .slice (some ⟨NT, 0, none⟩) 2 2, .int .i64 2] 26 (0, 0)) := by rw [hW0]; exact (alOld (by simp; omega)).trans ((alOld (by simp)).trans (alAt rfl))
  have hp : W0.heap[w1.heap.size + 1]? = some (.cells #[.slice (some ⟨O, 0, none⟩) 2 2, .int .i64 2, .slice (some ⟨M, 0, none⟩) 2 2] 29 (0, 0)) := by rw [hW0]; exact (alOld (by simp)).trans (alAt (by simp))
  have hx : W0.heap[w1.heap.size + 1 + 1]? = some (.cells #[.int .i64 3, .int .i64 0, .string ⟨#[49]⟩] 74 (0, 0)) := by rw [hW0]; exact alAt (by simp)
  clear hW0
  refine (new0_c NN I NT O M A B (w1.heap.size + 1 + 1) 1 9 W0 (HT.out.below HB0.out) (Lib.cell_of_heap hx 0) (Lib.cell_of_heap hx 1) (Lib.cell_of_heap hx 2) (by omega) (by omega)).mono ?_
  rintro e w2 ⟨p0, q0, rfl, HU0, HG0, hb2⟩
  obtain ⟨y0, y1, y2⟩ := cells3n ((hb2.block w1.heap.size (hLt hn)).trans hn)
  obtain ⟨z0, z1, z2⟩ := cells3n ((hb2.block (w1.heap.size + 1) (hLt hp)).trans hp)
  have lN2 := Nat.lt_of_lt_of_le (hLt hn) hb2.size
  have lP2 := Nat.lt_of_lt_of_le (hLt hp) hb2.size
  have HT2 : Hid (Tw NN I NT O M A B w2) := (HT.out.below HB0.out).below hb2
  have HL2 : Hid (p0 < w2.heap.size ∧ q0 < w2.heap.size) := (HU0.out 0).lt
  have HB2 : Hid (Below w.heap.size w w2) := bel (bel HB1.out HB0.out) hb2
  clear hn hp hx hb2
  go_wp2_with (first
    | (go_at_call 6; refine (new1_c NN I NT O M A B 9 w2 HT2.out (by omega) (by omega)).mono ?_; rintro e w3 ⟨p1, q1, rfl, HU1, HG1, hb3⟩; have HB3 : Hid (Below w2.heap.size w2 w3) := hb3; have HA3 : Hid (U0E W0.heap.size p0 q0 9 (-1) ⟨#[120]⟩ none w3.heap.size w3) := (HU0.out _).below hb3; clear hb3 y0 y1 y2 z0 z1 z2 lN2 lP2)
    | (go_at_call 7; refine (step0a_e HA3.out (Nat.le_refl _)).mono ?_; rintro e w4 ⟨rfl, HA4, HK4⟩)
    | (go_at_call 13; refine (next0_e HA4.out (by omega) (by omega)).mono ?_; rintro e w5 ⟨rfl, hb5⟩; have HB5 : Hid (Below w4.heap.size w4 w5) := hb5; have HA5 : Hid (U0E W0.heap.size p0 q0 9 0 ⟨#[120]⟩ none w3.heap.size w5) := HA4.out.below hb5; clear hb5)
    | (go_at_call 7; refine (step0b_e HA5.out (by omega) (by omega)).mono ?_; rintro e w6 ⟨g, c, rfl, HE, HK6⟩; obtain ⟨e0, e1, e2, e3, e4, e5⟩ : w6.cell? ⟨g, 0, none⟩ = some (.int .i64 5) ∧ w6.cell? ⟨g, 1, none⟩ = some (.int .i64 1) ∧ w6.cell? ⟨g, 2, none⟩ = some (.string ⟨#[49]⟩) ∧ w6.cell? ⟨g, 3, none⟩ = some (.int .i64 0) ∧ w6.cell? ⟨g, 4, none⟩ = some (.int .i64 1) ∧ w6.cell? ⟨g, 5, none⟩ = some (.bool false) := ⟨HE.out.c0, HE.out.c1, HE.out.c2, HE.out.c3, HE.out.c4, HE.out.c5⟩; have lg6 := World.block_lt_of_cell? w6 ⟨g, 0, none⟩ e0))
  have HL3 : Hid (p1 < w3.heap.size ∧ q1 < w3.heap.size) := (HU1.out 0).lt
  have HZ : Hid (w2.heap.size ≤ w3.heap.size ∧ w3.heap.size ≤ w5.heap.size ∧ w5.heap.size ≤ w6.heap.size ∧ w5.heap.size ≤ g ∧ g < w6.heap.size ∧ w.heap.size ≤ w2.heap.size ∧ w.heap.size ≤ p0 ∧ w.heap.size ≤ q0) := by
    obtain ⟨U4, hU4, hk4⟩ := HK4.out
    obtain ⟨U6, hU6, hk6⟩ := HK6.out
    have a1 := hk4.size; have a2 := HB5.out.size; have a3 := hk6.size; have a4 := HE.out.ge; have a5 := HB2.out.size; have a6 := HG0.out; have a7 := HB3.out.size; have a8 := HB0.out.size; have a9 := HB1.out.size
    exact ⟨a7, by omega, a3, a4, lg6, a5, by omega, by omega⟩
  have HB6 : Hid (U1E w2.heap.size p1 q1 9 (-1) ⟨#[120]⟩ [] none w6.heap.size w6) := by
    obtain ⟨U4, hU4, hk4⟩ := HK4.out
    obtain ⟨U6, hU6, hk6⟩ := HK6.out
    have a1 := hk4.size; have a2 := HB5.out.size; have hz := HZ.out; have hl := HL2.out
    exact (HU1.out w6.heap.size).mvb (by omega) fun k hk hl => (hk6.block k (by omega) (by omega) (by omega) fun e => by have := hU6 k e; omega).trans ((HB5.out.block k (by omega)).trans (hk4.block k hl (by omega) (by omega) fun e => by have := hU4 k e; omega))
  have HW6 : Hid (Below w.heap.size w w6) := by
    obtain ⟨U4, hU4, hk4⟩ := HK4.out
    obtain ⟨U6, hU6, hk6⟩ := HK6.out
    have a1 := hk4.size; have a2 := HB5.out.size; have hz := HZ.out
    exact belT (belT (belT (belT HB2.out (belL HB3.out (by omega))) (hk4.low hU4 (by omega) (by omega) (by omega) (by omega))) (belL HB5.out (by omega))) (hk6.low hU6 (by omega) (by omega) (by omega) (by omega))
  clear e0 e1 e2 e3 e4 e5 lg6
  refine (take1_e HB6.out (Nat.le_refl _)).mono ?_
  rintro e w7 ⟨rfl, HB7, HK7⟩
  have HZ7 : Hid (w6.heap.size ≤ w7.heap.size) := by obtain ⟨U, _, hk⟩ := HK7.out; exact hk.size
  go_wp2_with (first
    | (go_at_call 7; refine (step1a_e HB7.out HZ7.out).mono ?_; rintro e w8 ⟨rfl, HB8, HK8⟩; have HZ8 : Hid (w6.heap.size ≤ w8.heap.size) := by (obtain ⟨U, _, hk⟩ := HK8.out; exact Nat.le_trans HZ7.out hk.size))
    | (go_at_call 7; refine (step1b_e HB8.out HZ8.out (by omega) (by omega)).mono ?_; rintro e w9 ⟨rfl, HM9, HK9⟩)
    | (go_at_call 15; obtain ⟨m, bC, cC, hu9, hm9, hc9⟩ := HM9.out; have HU9 : Hid (U1E w2.heap.size p1 q1 9 5 ⟨#[49]⟩ [] (some ⟨m, 0, none⟩) w6.heap.size w9) := hu9; refine (chg1_e hu9 hm9 hc9 (by omega)).mono ?_; clear hu9 hm9 hc9; rintro e w10 ⟨gc, cc, rfl, HC10, hb10⟩; have HB10 : Hid (Below w9.heap.size w9 w10) := hb10; have hq : w10.heap[g]? = w6.heap[g]? := (by
        obtain ⟨U7, hU7, hk7⟩ := HK7.out
        obtain ⟨U8, hU8, hk8⟩ := HK8.out
        obtain ⟨U9, hU9, hk9⟩ := HK9.out
        have hz := HZ.out; have hl := HL3.out; have b1 := hk7.size; have b2 := hk8.size; have b3 := hk9.size
        exact (hb10.block g (by omega)).trans ((hk9.block g (by omega) (by omega) (by omega) fun e => by have := hU9 g e; omega).trans ((hk8.block g (by omega) (by omega) (by omega) fun e => by have := hU8 g e; omega).trans (hk7.block g (by omega) (by omega) (by omega) fun e => by have := hU7 g e; omega)))); obtain ⟨e0, e1, e2, e3, e4, e5⟩ : w10.cell? ⟨g, 0, none⟩ = some (.int .i64 5) ∧ w10.cell? ⟨g, 1, none⟩ = some (.int .i64 1) ∧ w10.cell? ⟨g, 2, none⟩ = some (.string ⟨#[49]⟩) ∧ w10.cell? ⟨g, 3, none⟩ = some (.int .i64 0) ∧ w10.cell? ⟨g, 4, none⟩ = some (.int .i64 1) ∧ w10.cell? ⟨g, 5, none⟩ = some (.bool false) := ⟨(cellE hq).trans HE.out.c0, (cellE hq).trans HE.out.c1, (cellE hq).trans HE.out.c2, (cellE hq).trans HE.out.c3, (cellE hq).trans HE.out.c4, (cellE hq).trans HE.out.c5⟩; have lg10 := World.block_lt_of_cell? w10 ⟨g, 0, none⟩ e0; have k0 := HC10.out.c0; have k1 := HC10.out.c1; have k2 := HC10.out.c2; have lc10 := HC10.out.lt; clear hq hb10)
    | (go_at_call 8; refine (done1_e (HU9.out.below HB10.out)).mono ?_; rintro e w11 ⟨rfl, hw⟩; rw [hw]; clear hw)
    | (go_at_call 9; refine (late1_e (HU9.out.below HB10.out)).mono ?_; rintro e w12 ⟨rfl, hb12⟩))
  go_ret
  refine ⟨rfl, ?_⟩
  obtain ⟨U7, hU7, hk7⟩ := HK7.out
  obtain ⟨U8, hU8, hk8⟩ := HK8.out
  obtain ⟨U9, hU9, hk9⟩ := HK9.out
  have hz := HZ.out; have hg1 := HG1.out; have b1 := hk7.size; have b2 := hk8.size; have b3 := hk9.size; have b4 := HB10.out.size
  exact belT (belT (belT (belT (belT HW6.out (hk7.low hU7 (by omega) (by omega) (by omega) (by omega))) (hk8.low hU8 (by omega) (by omega) (by omega) (by omega))) (hk9.low hU9 (by omega) (by omega) (by omega) (by omega))) (belL HB10.out (by omega))) (belL hb12 (by omega))
end Go.Proofs.YtokepgnnepjiaaaGreat
