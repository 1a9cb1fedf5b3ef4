/- PartTurns. -/
import Derived.Test.YtclcpfhbmoaadaaRR
import Derived.Test.YtclcpfhbmoaadaaGKh
import Derived.RegionTactic
namespace Go.Proofs.Ytclcpfhbmoaadaa
open Go.RowKit Lg Nl Go.Maps
set_option linter.unusedVariables false
set_option linter.unusedSimpArgs false
set_option maxRecDepth 100000

theorem and63 (n : Int) : bits .and .i64 n 63 = n % 64 := maskK n 6 63 (by decide) (by decide)
theorem and255 (n : Int) : bits .and .i64 n 255 = n % 256 := maskK n 8 255 (by decide) (by decide)
theorem cellSetO {w : World} {a b : Addr} {v : Value} (h : a ≠ b) : (w.setCell a v).cell? b = w.cell? b := by first | exact World.cell?_setCell_other h | exact World.cell?_setCell_other _ _ _ _ h | exact World.cell?_setCell_other _ _ _ h
theorem cellSetS {w : World} {a : Addr} {u v : Value} (h : w.cell? a = some u) : (w.setCell a v).cell? a = some v := by first | exact World.cell?_setCell_same h | exact World.cell?_setCell_same _ _ _ h
theorem Pw.below {B n c O M : Nat} {R : Nat → Nat} {of : Nat → Int} {A : Nat → Nat → Int} {W W' : World} (h : Pw B n c O M R of A W) (hb : Below W.heap.size W W') : Pw B n c O M R of A W' :=
  ⟨h.o.of_block (hb.block O h.o.lt), h.x.keep (fun k _ hk => hb.block k hk), h.bo, h.om, h.or⟩
theorem Mx.other {B N M O j : Nat} {R : Nat → Nat} {A : Nat → Nat → Int} {W : World} {v : Value} (h : Mx B N M R A W) (h1 : O ≠ M) (h2 : ∀ i, i < N → O ≠ R i) : Mx B N M R A (W.setCell ⟨O, j, none⟩ v) :=
  ⟨h.m.setOther h1.symm _, fun i hi => (h.r i hi).setOther (h2 i hi).symm _, h.bm, h.br, h.dm, h.dr⟩
/-- all that Check and may are handed, one number being another one -/
structure Tn (l : List Nd) (nets : List Int) (vN vT vO vA : Value) (lt X Z : Nat) (N : Int) (of : List Int) (ah : List (List Int)) (w W : World) : Prop where
  x : W.heap[X]? = some (.cells #[vN, vT, .int .i64 (lt : Nat)] 26 (0, 0))
  z0 : W.cell? ⟨Z, 0, none⟩ = some vO
  z1 : W.cell? ⟨Z, 1, none⟩ = some (.int .i64 N)
  z2 : W.cell? ⟨Z, 2, none⟩ = some vA
  zl : Z < W.heap.size
  n : Nm l nets vN vT W
  o : IntsAt W vO of
  a : RowsAt W vA ah
  b : Below w.heap.size w W
/-- ahead of the turn -/
structure Tn0 (l : List Nd) (nets : List Int) (vN vT : Value) (lt ln c X Z O M : Nat) (R : Nat → Nat) (of : Nat → Int) (w W2 W : World) : Prop where
  x : W.heap[X]? = some (.cells #[vN, vT, .int .i64 (lt : Nat)] 26 (0, 0))
  z : W.heap[Z]? = some (.cells #[.slice (some ⟨O, 0, none⟩) ln ln, .int .i64 (c : Int), .slice (some ⟨M, 0, none⟩) c c] 30 (0, 0))
  p : Pw W2.heap.size ln c O M R of (fun i k => aheadN l (rowL ln of) i k) W
  n : Nm l nets vN vT W2
  bn : Below W2.heap.size W2 W
  x2 : X < W2.heap.size
  w2 : w.heap.size ≤ W2.heap.size
  z2 : W2.heap.size ≤ Z
  zo : O < Z
  zm : M < Z
  zr : ∀ i, i < c → R i < Z
  b : Below w.heap.size w W
theorem Tn.below {l : List Nd} {nets : List Int} {vN vT vO vA : Value} {lt X Z : Nat} {N : Int} {of : List Int} {ah : List (List Int)} {w W W' : World} (h : Tn l nets vN vT vO vA lt X Z N of ah w W) (hb : Below W.heap.size W W') : Tn l nets vN vT vO vA lt X Z N of ah w W' :=
  ⟨(hb.block X (hLt h.x)).trans h.x, (hb.cell (p := ⟨Z, 0, none⟩) h.zl).trans h.z0, (hb.cell (p := ⟨Z, 1, none⟩) h.zl).trans h.z1, (hb.cell (p := ⟨Z, 2, none⟩) h.zl).trans h.z2, Nat.lt_of_lt_of_le h.zl hb.size, h.n.below hb, h.o.below hb, h.a.below hb, bel h.b hb⟩
theorem Tn0.of {l : List Nd} {nets : List Int} {vN vT : Value} {lt ln c X Z O M : Nat} {R : Nat → Nat} {of : Nat → Int} {w W2 W : World} (h : Tn0 l nets vN vT lt ln c X Z O M R of w W2 W) (j : Nat) (v : Int) :
    Tn l nets vN vT (.slice (some ⟨O, 0, none⟩) ln ln) (.slice (some ⟨M, 0, none⟩) c c) lt X Z (c : Int) (rowL ln (fun q => if q = j then v else of q)) (aheadL l (rowL ln of) c) w (W.setCell ⟨O, j, none⟩ (.int .i64 v)) := by
  obtain ⟨c0, c1, c2⟩ := cells3n h.z
  have bo := h.p.bo
  have zo := h.zo
  have x2 := h.x2
  have w2 := h.w2
  refine ⟨(Below.heap_setCell _ _ _ _ (by show X ≠ O; omega)).trans h.x, (World.cell?_setCell_far _ _ _ _ (by show O ≠ Z; omega)).trans c0, (World.cell?_setCell_far _ _ _ _ (by show O ≠ Z; omega)).trans c1, (World.cell?_setCell_far _ _ _ _ (by show O ≠ Z; omega)).trans c2, by rw [show (W.setCell ⟨O, j, none⟩ (.int .i64 v)).heap.size = W.heap.size by simp [World.setCell]]; exact hLt h.z, h.n.below (h.bn.setCell (p := ⟨O, j, none⟩) bo _), ?_, (h.p.x.other h.p.om h.p.or).rows, h.b.setCell (p := ⟨O, j, none⟩) (by show w.heap.size ≤ O; omega) _⟩
  refine rowInts (f := fun q => if q = j then v else of q) ((h.p.o.set j _).congr (fun q _ => ?_))
  by_cases e : q = j
  · subst e; simp
  · simp [e]
theorem Tn0.ah {l : List Nd} {nets : List Int} {vN vT : Value} {lt ln c X Z O M : Nat} {R : Nat → Nat} {of : Nat → Int} {w W2 W : World} (h : Tn0 l nets vN vT lt ln c X Z O M R of w W2 W) (i k : Nat) (hi : i < c) (v : Int) :
    Tn l nets vN vT (.slice (some ⟨O, 0, none⟩) ln ln) (.slice (some ⟨M, 0, none⟩) c c) lt X Z (c : Int) (rowL ln of) ((List.range c).map fun (x : Nat) => (List.range c).map fun (y : Nat) => if x = i ∧ y = k then v else aheadN l (rowL ln of) x y) w (W.setCell ⟨R i, k, none⟩ (.int .i64 v)) := by
  obtain ⟨c0, c1, c2⟩ := cells3n h.z
  have br := h.p.x.br i hi
  have zr := h.zr i hi
  have x2 := h.x2
  have w2 := h.w2
  exact ⟨(Below.heap_setCell _ _ _ _ (by show X ≠ R i; omega)).trans h.x, (World.cell?_setCell_far _ _ _ _ (by show R i ≠ Z; omega)).trans c0, (World.cell?_setCell_far _ _ _ _ (by show R i ≠ Z; omega)).trans c1, (World.cell?_setCell_far _ _ _ _ (by show R i ≠ Z; omega)).trans c2, by rw [show (W.setCell ⟨R i, k, none⟩ (.int .i64 v)).heap.size = W.heap.size by simp [World.setCell]]; exact hLt h.z, h.n.below (h.bn.setCell (p := ⟨R i, k, none⟩) br _), rowInts (h.p.o.setOther (h.p.or i hi) _), (h.p.x.set hi v).rows, h.b.setCell (p := ⟨R i, k, none⟩) (by show w.heap.size ≤ R i; omega) _⟩
theorem Tn0.nn {l : List Nd} {nets : List Int} {vN vT : Value} {lt ln c X Z O M : Nat} {R : Nat → Nat} {of : Nat → Int} {w W2 W : World} (h : Tn0 l nets vN vT lt ln c X Z O M R of w W2 W) (v : Int) :
    Tn l nets vN vT (.slice (some ⟨O, 0, none⟩) ln ln) (.slice (some ⟨M, 0, none⟩) c c) lt X Z v (rowL ln of) (aheadL l (rowL ln of) c) w (W.setCell ⟨Z, 1, none⟩ (.int .i64 v)) := by
  obtain ⟨c0, c1, c2⟩ := cells3n h.z
  have z2 := h.z2
  have x2 := h.x2
  have w2 := h.w2
  have zo := h.zo
  have zm := h.zm
  exact ⟨(Below.heap_setCell _ _ _ _ (by show X ≠ Z; omega)).trans h.x, (cellSetO (by simp)).trans c0, cellSetS c1, (cellSetO (by simp)).trans c2, by rw [show (W.setCell ⟨Z, 1, none⟩ (.int .i64 v)).heap.size = W.heap.size by simp [World.setCell]]; exact hLt h.z, h.n.below (h.bn.setCell (p := ⟨Z, 1, none⟩) z2 _), rowInts (h.p.o.setOther (by show O ≠ Z; omega) _), (h.p.x.other (by show Z ≠ M; omega) (fun i hi => by have := h.zr i hi; show Z ≠ R i; omega)).rows, h.b.setCell (p := ⟨Z, 1, none⟩) (by show w.heap.size ≤ Z; omega) _⟩
set_option maxHeartbeats 4000000 in
theorem PartTurns_c (hM : MadeC) (vG : Value) (m : Nat) (F : Nat → Nat → Int) (t0 t1 t2 by_ : Int) (w : World) (hG : GsAt w w.heap.size vG m F) (hm : m ≤ 17592186044416) :
    Calls Try.prog 5 #[vG, .agg #[.int .i64 t0, .int .i64 t1, .int .i64 t2], .int .i64 by_] w fun e w' => e = .returned (.bool true) ∧ Below w.heap.size w w' := by
  obtain ⟨ga, gm, gc, rfl⟩ : ∃ a b c, vG = .slice a b c := by obtain ⟨a, c, e, _⟩ := hG; exact ⟨_, _, _, e⟩
  have HMd : Hid (∀ W, Below w.heap.size w W → GsAt W W.heap.size (.slice ga gm gc) m F → Calls Try.prog 8 #[.slice ga gm gc] W fun e w' => ∃ (l : List Nd) (nets : List Int) (na ta : Option Addr) (nc tc : Nat), e = .returned (.agg #[.slice na l.length nc, .slice ta nets.length tc, .int .i64 (nets.length : Nat)]) ∧ Hid (Nm l nets (.slice na l.length nc) (.slice ta nets.length tc) w') ∧ Below W.heap.size W w') := fun W hW hg => made13 _ m F hM W hg hm
  have HG : Hid (GsAt w w.heap.size (.slice ga gm gc) m F) := hG
  clear hG hM
  have aFF := andFF
  have a63 := and63
  have a255 := and255
  have s0 : 0 ≤ t0 % 64 := Int.emod_nonneg _ (by decide)
  have s1 : t0 % 64 < 64 := Int.emod_lt_of_pos _ (by decide)
  go_enter Try.func5, Try.ntmps5
  go_wp2_with fail
  have HB0 : Hid (Below w.heap.size w (w.alloc (.cells #[.int .i64 t0, .int .i64 t1, .int .i64 t2] 39))) := belA (Below.refl _ _) _
  have HY0 : Hid ((w.alloc (.cells #[.int .i64 t0, .int .i64 t1, .int .i64 t2] 39)).heap[w.heap.size]? = some (.cells #[.int .i64 t0, .int .i64 t1, .int .i64 t2] 39 (0, 0))) := alAt rfl
  have HG0 : Hid (GsAt (w.alloc (.cells #[.int .i64 t0, .int .i64 t1, .int .i64 t2] 39)) (w.alloc (.cells #[.int .i64 t0, .int .i64 t1, .int .i64 t2] 39)).heap.size (.slice ga gm gc) m F) := gsUp13 HG.out HB0.out
  generalize w.alloc (.cells #[.int .i64 t0, .int .i64 t1, .int .i64 t2] 39) = W0 at HB0 HY0 HG0 ⊢
  obtain ⟨Y, hY⟩ : ∃ Y, Y = w.heap.size := ⟨_, rfl⟩
  have HYw : Hid (w.heap.size ≤ Y) := Nat.le_of_eq hY.symm
  rw [← hY] at HY0 ⊢
  clear hY
  refine (HMd.out W0 HB0.out HG0.out).mono ?_
  rintro e w1 ⟨l, nets, na, ta, nc, tc, rfl, HN, hb1⟩
  have HB1 : Hid (Below W0.heap.size W0 w1) := hb1
  clear HMd HG HG0 hb1
  obtain ⟨ln, hln⟩ : ∃ ln, ln = l.length := ⟨_, rfl⟩
  obtain ⟨lt, hlt⟩ : ∃ lt, lt = nets.length := ⟨_, rfl⟩
  have HLN : Hid (ln = l.length) := hln
  have HLT : Hid (lt = nets.length) := hlt
  have hln1 : 1 ≤ ln := by rw [hln]; have := HN.out.k.two; omega
  have hln2 : ln ≤ 122 := by rw [hln]; exact HN.out.l
  rw [← hln, ← hlt] at HN ⊢
  clear hln hlt
  obtain ⟨b0, b1, b2⟩ := cells3n ((HB1.out.block Y (hLt HY0.out)).trans HY0.out)
  have lY := Nat.lt_of_lt_of_le (hLt HY0.out) HB1.out.size
  go_wp2_with fail
  refine gen_calls (fun W => W.heap[w1.heap.size]? = some (.cells #[.slice na ln nc, .slice ta lt tc, .int .i64 (lt : Nat)] 26 (0, 0)) ∧ Below w1.heap.size w1 W) ⟨alAt rfl, belA (Below.refl _ _) _⟩ ?_
  rintro W2 ⟨hX2, hB2⟩
  have HX2 : Hid (W2.heap[w1.heap.size]? = some (.cells #[.slice na ln nc, .slice ta lt tc, .int .i64 (lt : Nat)] 26 (0, 0))) := hX2
  have HB02 : Hid (Below W0.heap.size W0 W2) := bel HB1.out hB2
  have HB2 : Hid (Below w.heap.size w W2) := bel HB0.out HB02.out
  have HN2 : Hid (Nm l nets (.slice na ln nc) (.slice ta lt tc) W2) := HN.out.below hB2
  have HY2 : Hid (W2.heap[Y]? = some (.cells #[.int .i64 t0, .int .i64 t1, .int .i64 t2] 39 (0, 0))) := (HB02.out.block Y (hLt HY0.out)).trans HY0.out
  generalize w1.heap.size = X at HX2 ⊢
  clear hX2 hB2 HN HB1 b0 b1 b2 lY
  have HR := run13 HN2.out (1 + t0 % 64) (by omega) (by omega)
  rw [← HLT.out, ← HLN.out] at HR
  refine HR.mono ?_
  rintro e w3 ⟨c, O, M, R, of, rfl, hcn, HPw, HOk, hb3⟩
  have hc1 : 1 ≤ c := by have := HOk.out.lo; omega
  have hc2 : c ≤ 64 := by omega
  have hX3 := (hb3.block X (hLt HX2.out)).trans HX2.out
  obtain ⟨a0, a1, a2⟩ := cells3n hX3
  have lX := hLt hX3
  have HX3 : Hid (w3.heap[X]? = some (.cells #[.slice na ln nc, .slice ta lt tc, .int .i64 (lt : Nat)] 26 (0, 0))) := hX3
  have HY3 : Hid (w3.heap[Y]? = some (.cells #[.int .i64 t0, .int .i64 t1, .int .i64 t2] 39 (0, 0))) := (hb3.block Y (hLt HY2.out)).trans HY2.out
  have HB3 : Hid (Below w.heap.size w w3) := bel HB2.out hb3
  have HN3 : Hid (Nm l nets (.slice na ln nc) (.slice ta lt tc) w3) := HN2.out.below hb3
  have HBn3 : Hid (Below W2.heap.size W2 w3) := hb3
  clear HR hb3 hX3
  go_wp2_with fail
  refine gen_calls (fun W => W.heap[w3.heap.size]? = some (.cells #[.slice (some ⟨O, 0, none⟩) ln ln, .int .i64 (c : Int), .slice (some ⟨M, 0, none⟩) c c] 30 (0, 0)) ∧ Below w3.heap.size w3 W) ⟨alAt rfl, belA (Below.refl _ _) _⟩ ?_
  rintro W4 ⟨hZ4, hB4⟩
  have HX4 : Hid (W4.heap[X]? = some (.cells #[.slice na ln nc, .slice ta lt tc, .int .i64 (lt : Nat)] 26 (0, 0))) := (hB4.block X lX).trans HX3.out
  have HY4 : Hid (W4.heap[Y]? = some (.cells #[.int .i64 t0, .int .i64 t1, .int .i64 t2] 39 (0, 0))) := (hB4.block Y (hLt HY3.out)).trans HY3.out
  have HT4 : Hid (Tn0 l nets (.slice na ln nc) (.slice ta lt tc) lt ln c X w3.heap.size O M R of w W2 W4) := ⟨HX4.out, hZ4, HPw.out.below hB4, HN2.out, bel HBn3.out hB4, hLt HX2.out, HB2.out.size, HBn3.out.size, HPw.out.o.lt, HPw.out.x.m.lt, fun i hi => (HPw.out.x.r i hi).lt, bel HB3.out hB4⟩
  generalize w3.heap.size = Z at HT4 ⊢
  clear hZ4 hB4 a0 a1 a2 lX HX3 HY3 HN3 HPw HX2 HN2 HY2 HB3 HBn3 HX4
  refine (may13 (HT4.out.n.below HT4.out.bn) (lt : Nat) (c : Int) HT4.out.p.ints HT4.out.p.rows).mono ?_
  rintro e w5 ⟨hr5, hb5⟩
  have e5 := hr5.t HOk.out
  subst e5
  have HT5 : Hid (Tn0 l nets (.slice na ln nc) (.slice ta lt tc) lt ln c X Z O M R of w W2 w5) := ⟨(hb5.block X (hLt HT4.out.x)).trans HT4.out.x, (hb5.block Z (hLt HT4.out.z)).trans HT4.out.z, HT4.out.p.below hb5, HT4.out.n, bel HT4.out.bn hb5, HT4.out.x2, HT4.out.w2, HT4.out.z2, HT4.out.zo, HT4.out.zm, HT4.out.zr, bel HT4.out.b hb5⟩
  have hY5 := (hb5.block Y (hLt HY4.out)).trans HY4.out
  obtain ⟨y0, y1, y2⟩ := cells3n hY5
  have ly := hLt hY5
  obtain ⟨z0, z1, z2, f0, f1, f2⟩ := cells3o HT5.out.z
  have lz := hLt HT5.out.z
  clear hr5 hb5 HT4 HY4 hY5
  have HAw : Hid (∀ W, Calls Try.prog 10 #[] W fun e w' => e = .returned (.bool true) ∧ Below W.heap.size W w') := awake13
  have n1 : (1 : Int) ≤ (ln : Int) := by omega
  have n2 : ((ln : Int) == 0) = false := by simp; omega
  have n3 : (1 : Int) ≤ (c : Int) := by omega
  have n4 : ((c : Int) == 0) = false := by simp; omega
  have d0 := Int.emod_nonneg (t1 % 256) (b := 3) (by decide)
  have d1 := Int.emod_lt_of_pos (t1 % 256) (b := 3) (by decide)
  have m0 := Int.emod_nonneg t2 (b := 65536) (by decide)
  have m1 := Int.emod_lt_of_pos t2 (b := 65536) (by decide)
  rcases (by omega : t1 % 256 % 3 = 0 ∨ t1 % 256 % 3 = 1 ∨ t1 % 256 % 3 = 2) with hd | hd | hd
  · obtain ⟨j, hj, hjl⟩ : ∃ j : Nat, t2 % 65536 % (ln : Int) = (j : Int) ∧ j < ln := ⟨(t2 % 65536 % (ln : Int)).toNat, (Int.toNat_of_nonneg (Int.emod_nonneg _ (by omega))).symm, by have h1 := Int.emod_nonneg (t2 % 65536) (b := (ln : Int)) (by omega); have h2 := Int.emod_lt_of_pos (t2 % 65536) (b := (ln : Int)) (by omega); omega⟩
    have o1 := HT5.out.p.o.cell hjl
    have o2 := HT5.out.p.o.frozen j
    have o3 := HT5.out.p.o.lt
    have j1 : (0 : Int) ≤ (j : Int) := by omega
    have j2 : (j : Int) < (ln : Int) := by omega
    clear d0 d1
    go_wp2_with fail
    go_region
    go_wp2_with fail
    have HT6 : Hid (Tn l nets (.slice na ln nc) (.slice ta lt tc) (.slice (some ⟨O, 0, none⟩) ln ln) (.slice (some ⟨M, 0, none⟩) c c) lt X Z (c : Int) (rowL ln (fun q => if q = j then by_ else of q)) (aheadL l (rowL ln of) c) w (w5.setCell ⟨O, j, none⟩ (.int .i64 by_)).drew) := (HT5.out.of j by_).below (Below.refl _ _).drew
    generalize rowL ln (fun q => if q = j then by_ else of q) = of' at HT6
    generalize aheadL l (rowL ln of) c = ah' at HT6
    generalize (w5.setCell ⟨O, j, none⟩ (.int .i64 by_)).drew = W6 at HT6 ⊢
    clear HT5 y0 y1 y2 ly z0 z1 z2 f0 f1 f2 lz o1 o2 o3
    have HCX : Hid (∀ W, Below W6.heap.size W6 W → W.cell? ⟨X, 0, none⟩ = some (.slice na ln nc) ∧ W.cell? ⟨X, 1, none⟩ = some (.slice ta lt tc) ∧ W.cell? ⟨X, 2, none⟩ = some (.int .i64 (lt : Nat)) ∧ W.cell? ⟨Z, 0, none⟩ = some (.slice (some ⟨O, 0, none⟩) ln ln) ∧ W.cell? ⟨Z, 1, none⟩ = some (.int .i64 (c : Int)) ∧ W.cell? ⟨Z, 2, none⟩ = some (.slice (some ⟨M, 0, none⟩) c c)) := fun W hb => by
      obtain ⟨a0, a1, a2⟩ := cells3n ((hb.block X (hLt HT6.out.x)).trans HT6.out.x)
      exact ⟨a0, a1, a2, (hb.cell (p := ⟨Z, 0, none⟩) HT6.out.zl).trans HT6.out.z0, (hb.cell (p := ⟨Z, 1, none⟩) HT6.out.zl).trans HT6.out.z1, (hb.cell (p := ⟨Z, 2, none⟩) HT6.out.zl).trans HT6.out.z2⟩
    have x6 := HCX.out _ (Below.refl _ _)
    obtain ⟨a0, a1, a2, b0, b1, b2⟩ := x6
    have lX := hLt HT6.out.x
    have lZ := HT6.out.zl
    have HB6 : Hid (Below w.heap.size w W6) := HT6.out.b
    rcases Classical.em (PtsOk l of' (c : Int) ah') with hp | hp
    · have HC : Hid (∀ W, Below W6.heap.size W6 W → Calls Try.prog 12 #[.agg #[.slice na ln nc, .slice ta lt tc, .int .i64 (lt : Nat)], .agg #[.slice (some ⟨O, 0, none⟩) ln ln, .int .i64 (c : Int), .slice (some ⟨M, 0, none⟩) c c]] W fun e w' => e = .returned (.int .i64 0) ∧ Below W.heap.size W w') := fun W hW => by
        have HCk := check13 (HT6.out.n.below hW) (c : Int) (HT6.out.o.below hW) (HT6.out.a.below hW)
        rw [← HLT.out] at HCk
        refine HCk.mono ?_
        rintro e w' ⟨(⟨h, rfl⟩ | ⟨h, rfl⟩), hb⟩
        · first | exact ⟨rfl, hb⟩ | exact absurd h hp
        · first | exact ⟨rfl, hb⟩ | exact absurd hp h
      have HMy : Hid (∀ W, Below W6.heap.size W6 W → Calls Try.prog 11 #[.agg #[.slice na ln nc, .slice ta lt tc, .int .i64 (lt : Nat)], .agg #[.slice (some ⟨O, 0, none⟩) ln ln, .int .i64 (c : Int), .slice (some ⟨M, 0, none⟩) c c]] W fun e w' => e = .returned (.bool true) ∧ Below W.heap.size W w') := fun W hW => (may13 (HT6.out.n.below hW) (lt : Nat) (c : Int) (HT6.out.o.below hW) (HT6.out.a.below hW)).mono fun e w' hh => ⟨hh.1.t hp, hh.2⟩
      clear hp
      go_region_held (fun w' => w'.cell? ⟨X, 0, none⟩ = some (.slice na ln nc) ∧ w'.cell? ⟨X, 1, none⟩ = some (.slice ta lt tc) ∧ w'.cell? ⟨X, 2, none⟩ = some (.int .i64 (lt : Nat)) ∧ w'.cell? ⟨Z, 0, none⟩ = some (.slice (some ⟨O, 0, none⟩) ln ln) ∧ w'.cell? ⟨Z, 1, none⟩ = some (.int .i64 (c : Int)) ∧ w'.cell? ⟨Z, 2, none⟩ = some (.slice (some ⟨M, 0, none⟩) c c)) (first | go_keep | exact HCX.out _ (bel (bel (bel (Below.refl _ _).drew hb7) hb8) hb9) | exact HCX.out _ (bel (bel (Below.refl _ _).drew hb7) hb8) | exact HCX.out _ (bel (Below.refl _ _).drew hb7))
        (first
          | (go_at_call 12; refine (HC.out _ (Below.refl _ _).drew).mono ?_; rintro e w7 ⟨rfl, hb7⟩)
          | (go_at_call 11; refine (HMy.out _ (bel (Below.refl _ _).drew hb7)).mono ?_; rintro e w8 ⟨rfl, hb8⟩)
          | (go_at_call 10; refine (HAw.out _).mono ?_; rintro e w9 ⟨rfl, hb9⟩))
      go_wp2_with fail
      go_ret
      exact ⟨rfl, bel HB6.out (bel (bel (bel (Below.refl _ _).drew hb7) hb8) hb9)⟩
    · have HC : Hid (∀ W, Below W6.heap.size W6 W → Calls Try.prog 12 #[.agg #[.slice na ln nc, .slice ta lt tc, .int .i64 (lt : Nat)], .agg #[.slice (some ⟨O, 0, none⟩) ln ln, .int .i64 (c : Int), .slice (some ⟨M, 0, none⟩) c c]] W fun e w' => e = .returned (.int .i64 1) ∧ Below W.heap.size W w') := fun W hW => by
        have HCk := check13 (HT6.out.n.below hW) (c : Int) (HT6.out.o.below hW) (HT6.out.a.below hW)
        rw [← HLT.out] at HCk
        refine HCk.mono ?_
        rintro e w' ⟨(⟨h, rfl⟩ | ⟨h, rfl⟩), hb⟩
        · first | exact ⟨rfl, hb⟩ | exact absurd h hp
        · first | exact ⟨rfl, hb⟩ | exact absurd hp h
      have HMy : Hid (∀ W, Below W6.heap.size W6 W → Calls Try.prog 11 #[.agg #[.slice na ln nc, .slice ta lt tc, .int .i64 (lt : Nat)], .agg #[.slice (some ⟨O, 0, none⟩) ln ln, .int .i64 (c : Int), .slice (some ⟨M, 0, none⟩) c c]] W fun e w' => e = .returned (.bool false) ∧ Below W.heap.size W w') := fun W hW => (may13 (HT6.out.n.below hW) (lt : Nat) (c : Int) (HT6.out.o.below hW) (HT6.out.a.below hW)).mono fun e w' hh => ⟨hh.1.f hp, hh.2⟩
      clear hp
      go_region_held (fun w' => w'.cell? ⟨X, 0, none⟩ = some (.slice na ln nc) ∧ w'.cell? ⟨X, 1, none⟩ = some (.slice ta lt tc) ∧ w'.cell? ⟨X, 2, none⟩ = some (.int .i64 (lt : Nat)) ∧ w'.cell? ⟨Z, 0, none⟩ = some (.slice (some ⟨O, 0, none⟩) ln ln) ∧ w'.cell? ⟨Z, 1, none⟩ = some (.int .i64 (c : Int)) ∧ w'.cell? ⟨Z, 2, none⟩ = some (.slice (some ⟨M, 0, none⟩) c c)) (first | go_keep | exact HCX.out _ (bel (bel (bel (Below.refl _ _).drew hb7) hb8) hb9) | exact HCX.out _ (bel (bel (Below.refl _ _).drew hb7) hb8) | exact HCX.out _ (bel (Below.refl _ _).drew hb7))
        (first
          | (go_at_call 12; refine (HC.out _ (Below.refl _ _).drew).mono ?_; rintro e w7 ⟨rfl, hb7⟩)
          | (go_at_call 11; refine (HMy.out _ (bel (Below.refl _ _).drew hb7)).mono ?_; rintro e w8 ⟨rfl, hb8⟩)
          | (go_at_call 10; refine (HAw.out _).mono ?_; rintro e w9 ⟨rfl, hb9⟩))
      go_wp2_with fail
      go_ret
      exact ⟨rfl, bel HB6.out (bel (bel (bel (Below.refl _ _).drew hb7) hb8) hb9)⟩
  · obtain ⟨i, hi, hil⟩ : ∃ j : Nat, t2 % 65536 % (c : Int) = (j : Int) ∧ j < c := ⟨(t2 % 65536 % (c : Int)).toNat, (Int.toNat_of_nonneg (Int.emod_nonneg _ (by omega))).symm, by have h1 := Int.emod_nonneg (t2 % 65536) (b := (c : Int)) (by omega); have h2 := Int.emod_lt_of_pos (t2 % 65536) (b := (c : Int)) (by omega); omega⟩
    have p0 := Int.emod_nonneg (t2 / 65536) (b := 65536) (by decide)
    have p1 := Int.emod_lt_of_pos (t2 / 65536) (b := 65536) (by decide)
    obtain ⟨k, hk, hkl⟩ : ∃ j : Nat, t2 / 65536 % 65536 % (c : Int) = (j : Int) ∧ j < c := ⟨(t2 / 65536 % 65536 % (c : Int)).toNat, (Int.toNat_of_nonneg (Int.emod_nonneg _ (by omega))).symm, by have h1 := Int.emod_nonneg (t2 / 65536 % 65536) (b := (c : Int)) (by omega); have h2 := Int.emod_lt_of_pos (t2 / 65536 % 65536) (b := (c : Int)) (by omega); omega⟩
    have o1 := HT5.out.p.x.m.cell hil
    have o3 := HT5.out.p.x.m.lt
    have q1 := (HT5.out.p.x.r i hil).cell hkl
    have q2 := (HT5.out.p.x.r i hil).frozen k
    have q3 := (HT5.out.p.x.r i hil).lt
    have i1 : (0 : Int) ≤ (i : Int) := by omega
    have i2 : (i : Int) < (c : Int) := by omega
    have j1 : (0 : Int) ≤ (k : Int) := by omega
    have j2 : (k : Int) < (c : Int) := by omega
    clear d0 d1
    go_wp2_with fail
    go_region
    go_wp2_with fail
    have HT6 : Hid (∃ ah' of', Tn l nets (.slice na ln nc) (.slice ta lt tc) (.slice (some ⟨O, 0, none⟩) ln ln) (.slice (some ⟨M, 0, none⟩) c c) lt X Z (c : Int) of' ah' w (w5.setCell ⟨R i, k, none⟩ (.int .i64 by_)).drew) := ⟨_, _, (HT5.out.ah i k hil by_).below (Below.refl _ _).drew⟩
    generalize (w5.setCell ⟨R i, k, none⟩ (.int .i64 by_)).drew = W6 at HT6 ⊢
    obtain ⟨ah', of', HT6'⟩ := HT6.out
    clear HT6
    have HT6 : Hid (Tn l nets (.slice na ln nc) (.slice ta lt tc) (.slice (some ⟨O, 0, none⟩) ln ln) (.slice (some ⟨M, 0, none⟩) c c) lt X Z (c : Int) of' ah' w W6) := HT6'
    clear HT6' HT5 y0 y1 y2 ly z0 z1 z2 f0 f1 f2 lz o1 o3 q1 q2 q3
    have HCX : Hid (∀ W, Below W6.heap.size W6 W → W.cell? ⟨X, 0, none⟩ = some (.slice na ln nc) ∧ W.cell? ⟨X, 1, none⟩ = some (.slice ta lt tc) ∧ W.cell? ⟨X, 2, none⟩ = some (.int .i64 (lt : Nat)) ∧ W.cell? ⟨Z, 0, none⟩ = some (.slice (some ⟨O, 0, none⟩) ln ln) ∧ W.cell? ⟨Z, 1, none⟩ = some (.int .i64 (c : Int)) ∧ W.cell? ⟨Z, 2, none⟩ = some (.slice (some ⟨M, 0, none⟩) c c)) := fun W hb => by
      obtain ⟨a0, a1, a2⟩ := cells3n ((hb.block X (hLt HT6.out.x)).trans HT6.out.x)
      exact ⟨a0, a1, a2, (hb.cell (p := ⟨Z, 0, none⟩) HT6.out.zl).trans HT6.out.z0, (hb.cell (p := ⟨Z, 1, none⟩) HT6.out.zl).trans HT6.out.z1, (hb.cell (p := ⟨Z, 2, none⟩) HT6.out.zl).trans HT6.out.z2⟩
    have x6 := HCX.out _ (Below.refl _ _)
    obtain ⟨a0, a1, a2, b0, b1, b2⟩ := x6
    have lX := hLt HT6.out.x
    have lZ := HT6.out.zl
    have HB6 : Hid (Below w.heap.size w W6) := HT6.out.b
    rcases Classical.em (PtsOk l of' (c : Int) ah') with hp | hp
    · have HC : Hid (∀ W, Below W6.heap.size W6 W → Calls Try.prog 12 #[.agg #[.slice na ln nc, .slice ta lt tc, .int .i64 (lt : Nat)], .agg #[.slice (some ⟨O, 0, none⟩) ln ln, .int .i64 (c : Int), .slice (some ⟨M, 0, none⟩) c c]] W fun e w' => e = .returned (.int .i64 0) ∧ Below W.heap.size W w') := fun W hW => by
        have HCk := check13 (HT6.out.n.below hW) (c : Int) (HT6.out.o.below hW) (HT6.out.a.below hW)
        rw [← HLT.out] at HCk
        refine HCk.mono ?_
        rintro e w' ⟨(⟨h, rfl⟩ | ⟨h, rfl⟩), hb⟩
        · first | exact ⟨rfl, hb⟩ | exact absurd h hp
        · first | exact ⟨rfl, hb⟩ | exact absurd hp h
      have HMy : Hid (∀ W, Below W6.heap.size W6 W → Calls Try.prog 11 #[.agg #[.slice na ln nc, .slice ta lt tc, .int .i64 (lt : Nat)], .agg #[.slice (some ⟨O, 0, none⟩) ln ln, .int .i64 (c : Int), .slice (some ⟨M, 0, none⟩) c c]] W fun e w' => e = .returned (.bool true) ∧ Below W.heap.size W w') := fun W hW => (may13 (HT6.out.n.below hW) (lt : Nat) (c : Int) (HT6.out.o.below hW) (HT6.out.a.below hW)).mono fun e w' hh => ⟨hh.1.t hp, hh.2⟩
      clear hp
      go_region_held (fun w' => w'.cell? ⟨X, 0, none⟩ = some (.slice na ln nc) ∧ w'.cell? ⟨X, 1, none⟩ = some (.slice ta lt tc) ∧ w'.cell? ⟨X, 2, none⟩ = some (.int .i64 (lt : Nat)) ∧ w'.cell? ⟨Z, 0, none⟩ = some (.slice (some ⟨O, 0, none⟩) ln ln) ∧ w'.cell? ⟨Z, 1, none⟩ = some (.int .i64 (c : Int)) ∧ w'.cell? ⟨Z, 2, none⟩ = some (.slice (some ⟨M, 0, none⟩) c c)) (first | go_keep | exact HCX.out _ (bel (bel (bel (Below.refl _ _).drew hb7) hb8) hb9) | exact HCX.out _ (bel (bel (Below.refl _ _).drew hb7) hb8) | exact HCX.out _ (bel (Below.refl _ _).drew hb7))
        (first
          | (go_at_call 12; refine (HC.out _ (Below.refl _ _).drew).mono ?_; rintro e w7 ⟨rfl, hb7⟩)
          | (go_at_call 11; refine (HMy.out _ (bel (Below.refl _ _).drew hb7)).mono ?_; rintro e w8 ⟨rfl, hb8⟩)
          | (go_at_call 10; refine (HAw.out _).mono ?_; rintro e w9 ⟨rfl, hb9⟩))
      go_wp2_with fail
      go_ret
      exact ⟨rfl, bel HB6.out (bel (bel (bel (Below.refl _ _).drew hb7) hb8) hb9)⟩
    · have HC : Hid (∀ W, Below W6.heap.size W6 W → Calls Try.prog 12 #[.agg #[.slice na ln nc, .slice ta lt tc, .int .i64 (lt : Nat)], .agg #[.slice (some ⟨O, 0, none⟩) ln ln, .int .i64 (c : Int), .slice (some ⟨M, 0, none⟩) c c]] W fun e w' => e = .returned (.int .i64 1) ∧ Below W.heap.size W w') := fun W hW => by
        have HCk := check13 (HT6.out.n.below hW) (c : Int) (HT6.out.o.below hW) (HT6.out.a.below hW)
        rw [← HLT.out] at HCk
        refine HCk.mono ?_
        rintro e w' ⟨(⟨h, rfl⟩ | ⟨h, rfl⟩), hb⟩
        · first | exact ⟨rfl, hb⟩ | exact absurd h hp
        · first | exact ⟨rfl, hb⟩ | exact absurd hp h
      have HMy : Hid (∀ W, Below W6.heap.size W6 W → Calls Try.prog 11 #[.agg #[.slice na ln nc, .slice ta lt tc, .int .i64 (lt : Nat)], .agg #[.slice (some ⟨O, 0, none⟩) ln ln, .int .i64 (c : Int), .slice (some ⟨M, 0, none⟩) c c]] W fun e w' => e = .returned (.bool false) ∧ Below W.heap.size W w') := fun W hW => (may13 (HT6.out.n.below hW) (lt : Nat) (c : Int) (HT6.out.o.below hW) (HT6.out.a.below hW)).mono fun e w' hh => ⟨hh.1.f hp, hh.2⟩
      clear hp
      go_region_held (fun w' => w'.cell? ⟨X, 0, none⟩ = some (.slice na ln nc) ∧ w'.cell? ⟨X, 1, none⟩ = some (.slice ta lt tc) ∧ w'.cell? ⟨X, 2, none⟩ = some (.int .i64 (lt : Nat)) ∧ w'.cell? ⟨Z, 0, none⟩ = some (.slice (some ⟨O, 0, none⟩) ln ln) ∧ w'.cell? ⟨Z, 1, none⟩ = some (.int .i64 (c : Int)) ∧ w'.cell? ⟨Z, 2, none⟩ = some (.slice (some ⟨M, 0, none⟩) c c)) (first | go_keep | exact HCX.out _ (bel (bel (bel (Below.refl _ _).drew hb7) hb8) hb9) | exact HCX.out _ (bel (bel (Below.refl _ _).drew hb7) hb8) | exact HCX.out _ (bel (Below.refl _ _).drew hb7))
        (first
          | (go_at_call 12; refine (HC.out _ (Below.refl _ _).drew).mono ?_; rintro e w7 ⟨rfl, hb7⟩)
          | (go_at_call 11; refine (HMy.out _ (bel (Below.refl _ _).drew hb7)).mono ?_; rintro e w8 ⟨rfl, hb8⟩)
          | (go_at_call 10; refine (HAw.out _).mono ?_; rintro e w9 ⟨rfl, hb9⟩))
      go_wp2_with fail
      go_ret
      exact ⟨rfl, bel HB6.out (bel (bel (bel (Below.refl _ _).drew hb7) hb8) hb9)⟩
  · clear d0 d1
    go_wp2_with fail
    have HT6 : Hid (∃ ah' of', Tn l nets (.slice na ln nc) (.slice ta lt tc) (.slice (some ⟨O, 0, none⟩) ln ln) (.slice (some ⟨M, 0, none⟩) c c) lt X Z by_ of' ah' w (w5.setCell ⟨Z, 1, none⟩ (.int .i64 by_))) := ⟨_, _, HT5.out.nn by_⟩
    generalize w5.setCell ⟨Z, 1, none⟩ (.int .i64 by_) = W6 at HT6 ⊢
    obtain ⟨ah', of', HT6'⟩ := HT6.out
    clear HT6
    have HT6 : Hid (Tn l nets (.slice na ln nc) (.slice ta lt tc) (.slice (some ⟨O, 0, none⟩) ln ln) (.slice (some ⟨M, 0, none⟩) c c) lt X Z by_ of' ah' w W6) := HT6'
    clear HT6' HT5 y0 y1 y2 ly z0 z1 z2 f0 f1 f2 lz
    have HCX : Hid (∀ W, Below W6.heap.size W6 W → W.cell? ⟨X, 0, none⟩ = some (.slice na ln nc) ∧ W.cell? ⟨X, 1, none⟩ = some (.slice ta lt tc) ∧ W.cell? ⟨X, 2, none⟩ = some (.int .i64 (lt : Nat)) ∧ W.cell? ⟨Z, 0, none⟩ = some (.slice (some ⟨O, 0, none⟩) ln ln) ∧ W.cell? ⟨Z, 1, none⟩ = some (.int .i64 by_) ∧ W.cell? ⟨Z, 2, none⟩ = some (.slice (some ⟨M, 0, none⟩) c c)) := fun W hb => by
      obtain ⟨a0, a1, a2⟩ := cells3n ((hb.block X (hLt HT6.out.x)).trans HT6.out.x)
      exact ⟨a0, a1, a2, (hb.cell (p := ⟨Z, 0, none⟩) HT6.out.zl).trans HT6.out.z0, (hb.cell (p := ⟨Z, 1, none⟩) HT6.out.zl).trans HT6.out.z1, (hb.cell (p := ⟨Z, 2, none⟩) HT6.out.zl).trans HT6.out.z2⟩
    have x6 := HCX.out _ (Below.refl _ _)
    obtain ⟨a0, a1, a2, b0, b1, b2⟩ := x6
    have lX := hLt HT6.out.x
    have lZ := HT6.out.zl
    have HB6 : Hid (Below w.heap.size w W6) := HT6.out.b
    rcases Classical.em (PtsOk l of' by_ ah') with hp | hp
    · have HC : Hid (∀ W, Below W6.heap.size W6 W → Calls Try.prog 12 #[.agg #[.slice na ln nc, .slice ta lt tc, .int .i64 (lt : Nat)], .agg #[.slice (some ⟨O, 0, none⟩) ln ln, .int .i64 by_, .slice (some ⟨M, 0, none⟩) c c]] W fun e w' => e = .returned (.int .i64 0) ∧ Below W.heap.size W w') := fun W hW => by
        have HCk := check13 (HT6.out.n.below hW) by_ (HT6.out.o.below hW) (HT6.out.a.below hW)
        rw [← HLT.out] at HCk
        refine HCk.mono ?_
        rintro e w' ⟨(⟨h, rfl⟩ | ⟨h, rfl⟩), hb⟩
        · first | exact ⟨rfl, hb⟩ | exact absurd h hp
        · first | exact ⟨rfl, hb⟩ | exact absurd hp h
      have HMy : Hid (∀ W, Below W6.heap.size W6 W → Calls Try.prog 11 #[.agg #[.slice na ln nc, .slice ta lt tc, .int .i64 (lt : Nat)], .agg #[.slice (some ⟨O, 0, none⟩) ln ln, .int .i64 by_, .slice (some ⟨M, 0, none⟩) c c]] W fun e w' => e = .returned (.bool true) ∧ Below W.heap.size W w') := fun W hW => (may13 (HT6.out.n.below hW) (lt : Nat) by_ (HT6.out.o.below hW) (HT6.out.a.below hW)).mono fun e w' hh => ⟨hh.1.t hp, hh.2⟩
      clear hp
      go_region_held (fun w' => w'.cell? ⟨X, 0, none⟩ = some (.slice na ln nc) ∧ w'.cell? ⟨X, 1, none⟩ = some (.slice ta lt tc) ∧ w'.cell? ⟨X, 2, none⟩ = some (.int .i64 (lt : Nat)) ∧ w'.cell? ⟨Z, 0, none⟩ = some (.slice (some ⟨O, 0, none⟩) ln ln) ∧ w'.cell? ⟨Z, 1, none⟩ = some (.int .i64 by_) ∧ w'.cell? ⟨Z, 2, none⟩ = some (.slice (some ⟨M, 0, none⟩) c c)) (first | go_keep | exact HCX.out _ (bel (bel (bel (Below.refl _ _).drew hb7) hb8) hb9) | exact HCX.out _ (bel (bel (Below.refl _ _).drew hb7) hb8) | exact HCX.out _ (bel (Below.refl _ _).drew hb7))
        (first
          | (go_at_call 12; refine (HC.out _ (Below.refl _ _).drew).mono ?_; rintro e w7 ⟨rfl, hb7⟩)
          | (go_at_call 11; refine (HMy.out _ (bel (Below.refl _ _).drew hb7)).mono ?_; rintro e w8 ⟨rfl, hb8⟩)
          | (go_at_call 10; refine (HAw.out _).mono ?_; rintro e w9 ⟨rfl, hb9⟩))
      go_wp2_with fail
      go_ret
      exact ⟨rfl, bel HB6.out (bel (bel (bel (Below.refl _ _).drew hb7) hb8) hb9)⟩
    · have HC : Hid (∀ W, Below W6.heap.size W6 W → Calls Try.prog 12 #[.agg #[.slice na ln nc, .slice ta lt tc, .int .i64 (lt : Nat)], .agg #[.slice (some ⟨O, 0, none⟩) ln ln, .int .i64 by_, .slice (some ⟨M, 0, none⟩) c c]] W fun e w' => e = .returned (.int .i64 1) ∧ Below W.heap.size W w') := fun W hW => by
        have HCk := check13 (HT6.out.n.below hW) by_ (HT6.out.o.below hW) (HT6.out.a.below hW)
        rw [← HLT.out] at HCk
        refine HCk.mono ?_
        rintro e w' ⟨(⟨h, rfl⟩ | ⟨h, rfl⟩), hb⟩
        · first | exact ⟨rfl, hb⟩ | exact absurd h hp
        · first | exact ⟨rfl, hb⟩ | exact absurd hp h
      have HMy : Hid (∀ W, Below W6.heap.size W6 W → Calls Try.prog 11 #[.agg #[.slice na ln nc, .slice ta lt tc, .int .i64 (lt : Nat)], .agg #[.slice (some ⟨O, 0, none⟩) ln ln, .int .i64 by_, .slice (some ⟨M, 0, none⟩) c c]] W fun e w' => e = .returned (.bool false) ∧ Below W.heap.size W w') := fun W hW => (may13 (HT6.out.n.below hW) (lt : Nat) by_ (HT6.out.o.below hW) (HT6.out.a.below hW)).mono fun e w' hh => ⟨hh.1.f hp, hh.2⟩
      clear hp
      go_region_held (fun w' => w'.cell? ⟨X, 0, none⟩ = some (.slice na ln nc) ∧ w'.cell? ⟨X, 1, none⟩ = some (.slice ta lt tc) ∧ w'.cell? ⟨X, 2, none⟩ = some (.int .i64 (lt : Nat)) ∧ w'.cell? ⟨Z, 0, none⟩ = some (.slice (some ⟨O, 0, none⟩) ln ln) ∧ w'.cell? ⟨Z, 1, none⟩ = some (.int .i64 by_) ∧ w'.cell? ⟨Z, 2, none⟩ = some (.slice (some ⟨M, 0, none⟩) c c)) (first | go_keep | exact HCX.out _ (bel (bel (bel (Below.refl _ _).drew hb7) hb8) hb9) | exact HCX.out _ (bel (bel (Below.refl _ _).drew hb7) hb8) | exact HCX.out _ (bel (Below.refl _ _).drew hb7))
        (first
          | (go_at_call 12; refine (HC.out _ (Below.refl _ _).drew).mono ?_; rintro e w7 ⟨rfl, hb7⟩)
          | (go_at_call 11; refine (HMy.out _ (bel (Below.refl _ _).drew hb7)).mono ?_; rintro e w8 ⟨rfl, hb8⟩)
          | (go_at_call 10; refine (HAw.out _).mono ?_; rintro e w9 ⟨rfl, hb9⟩))
      go_wp2_with fail
      go_ret
      exact ⟨rfl, bel HB6.out (bel (bel (bel (Below.refl _ _).drew hb7) hb8) hb9)⟩
end Go.Proofs.Ytclcpfhbmoaadaa
