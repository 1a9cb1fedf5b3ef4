/- Layer 6: two scopes on both sides. -/
import Derived.Test.YtbpjgfemopakcaaCT
namespace Go.Proofs.Ytbpjgfemopakcaa
open Go.RowKit Lg Go.Maps
set_option linter.unusedVariables false
set_option linter.unusedSimpArgs false

/-- blocks that are told apart -/
structure Ds (N sb mb T st mt U : Nat) : Prop where
  a1 : sb ≠ mb
  a2 : sb ≠ T
  a3 : mb ≠ T
  a4 : sb ≠ mt
  a5 : mb ≠ mt
  a6 : st ≠ mt
  a7 : st ≠ mb
  a8 : st ≠ T
  a9 : mt ≠ T
  b1 : sb ≠ U
  b2 : mb ≠ U
  b3 : st ≠ U
  b4 : mt ≠ U
  b5 : T ≠ U
  b6 : T ≠ mt
  b7 : U ≠ mb
  c1 : N ≤ mb
  c2 : N ≤ T
  c3 : N ≤ mt
  c4 : N ≤ U
theorem Ds.swap {N sb mb T st mt U : Nat} (h : Ds N sb mb T st mt U) : Ds N st mt U sb mb T :=
  ⟨h.a6, h.b3, h.b4, h.a7, fun e => h.a5 e.symm, h.a1, h.a4, h.b1, h.b2, h.a8, h.a9, h.a2, h.a3, fun e => h.b5 e.symm, h.b7, h.b6, h.c3, h.c4, h.c1, h.c2⟩
/-- the state: the program's scope and the reference's, twice -/
structure SS (w : World) (sb mb T st mt U : Nat) (Q1 R1 Q2 R2 : List (ByteArray × Int)) (W : World) : Prop where
  bel : Below w.heap.size w W
  p1 : PrAt sb mb Q1 W
  r1 : RqAt T w.heap.size R1 W
  p2 : PrAt st mt Q2 W
  r2 : RqAt U w.heap.size R2 W
theorem SS.swap {w : World} {sb mb T st mt U : Nat} {Q1 R1 Q2 R2 : List (ByteArray × Int)} {W : World} (h : SS w sb mb T st mt U Q1 R1 Q2 R2 W) : SS w st mt U sb mb T Q2 R2 Q1 R1 W := ⟨h.bel, h.p2, h.r2, h.p1, h.r1⟩
theorem SS.below {w : World} {sb mb T st mt U : Nat} {Q1 R1 Q2 R2 : List (ByteArray × Int)} {W W' : World} (h : SS w sb mb T st mt U Q1 R1 Q2 R2 W) (hb : Below W.heap.size W W') : SS w sb mb T st mt U Q1 R1 Q2 R2 W' := ⟨h.bel.trans (hb.mono h.bel.size), h.p1.below hb, h.r1.below hb, h.p2.below hb, h.r2.below hb⟩
theorem PrAt.grown {sb mb m : Nat} {qs : List (ByteArray × Int)} {w w' : World} (h : PrAt sb mb qs w) (hg : w.grownBy w' (some m)) (h1 : sb ≠ m) (h2 : mb ≠ m) : PrAt sb mb qs w' := by
  obtain ⟨D, cnt, a1, ⟨es, clock, a2, a3⟩, a4, a5⟩ := h
  exact ⟨D, cnt, scAt_grown a1 hg h1, ⟨es, clock, (hg.block mb (kLt a2) (by simpa using h2)).trans a2, a3⟩, a4, a5⟩
theorem RqAt.set2 {T B b : Nat} {qs : List (ByteArray × Int)} {w : World} {y z x0 x1 : Value} (h : RqAt T B qs w) (hT : T ≠ b) (hb : w.heap[b]? = some (.cells #[x0, x1] 27 (0, 0))) : RqAt T B qs ((w.setCell ⟨b, 0, none⟩ y).setCell ⟨b, 1, none⟩ z) := by
  obtain ⟨ao, n1, c1, bo, n2, c2, h1, h2⟩ := h
  exact ⟨ao, n1, c1, bo, n2, c2, (Below.heap_setCell _ _ _ _ hT).trans ((Below.heap_setCell _ _ _ _ hT).trans h1), h2.set2 hb⟩
/-- the program's side goes on -/
theorem SS.prog {w : World} {sb mb T st mt U cnt : Nat} {D : DataW Unit} {Q1 R1 Q2 R2 Q1' : List (ByteArray × Int)} {W W' : World} (h : SS w sb mb T st mt U Q1 R1 Q2 R2 W) (ds : Ds w.heap.size sb mb T st mt U) (hp : PrAt sb mb Q1' W') (hm : MpAt mb cnt D W) (hg : W.grownBy W' (some mb)) : SS w sb mb T st mt U Q1' R1 Q2 R2 W' := by
  have hl := World.ownsMap.lt hm
  refine ⟨h.bel.trans (grown_below hg ds.c1 (by have := ds.c1; omega)), hp, h.r1.map hm hg (fun e => ds.a3 e.symm), h.p2.grown hg ds.a7 (fun e => ds.a5 e.symm), h.r2.map hm hg ds.b7⟩
/-- the reference's side goes on -/
theorem SS.ref {w : World} {sb mb T st mt U : Nat} {Q1 R1 Q2 R2 : List (ByteArray × Int)} {W w4 : World} {vN vI vN' vI' : Value} {x : ByteArray} {k ee : Int} (h : SS w sb mb T st mt U Q1 R1 Q2 R2 W) (ds : Ds w.heap.size sb mb T st mt U) (hT : W.heap[T]? = some (.cells #[vN, vI] 27 (0, 0))) (hR : RfAt w.heap.size vN vI R1 W)
    (hb : Below W.heap.size W w4) (hg : SetGood w.heap.size vN vI R1 x k vN' vI' ee w4) (hs : ∃ ao n1 c1 bo n2 c2, vN' = .slice ao n1 c1 ∧ vI' = .slice bo n2 c2) :
    SS w sb mb T st mt U Q1 (R1 ++ (if fitB k = true then [(x, k)] else [])) Q2 R2 ((w4.setCell ⟨T, 0, none⟩ vN').setCell ⟨T, 1, none⟩ vI') := by
  have h4 := h.below hb
  have hT4 := (hb.block T (kLt hT)).trans hT
  obtain ⟨ao, n1, c1, bo, n2, c2, rfl, rfl⟩ := hs
  exact ⟨(h4.bel.setCell ds.c2 _).setCell ds.c2 _, (h4.p1.set ds.a2 ds.a3).set ds.a2 ds.a3, ⟨ao, n1, c1, bo, n2, c2, hset2 hT4 _ _, (hg.fin (hR.below hb)).set2 hT4⟩, (h4.p2.set ds.a8 ds.a9).set ds.a8 ds.a9, h4.r2.set2 (fun e => ds.b5 e.symm) hT4⟩
theorem kInfoNm : ∃ i, Try.prog.info? 35 = some i ∧ i.zero = some (.agg #[.string ⟨#[]⟩, .int .i64 0]) ∧ i.size = 2 ∧ i.bytes = 24 := info_parts (by kernel_rfl)
theorem run_append_zero (w : World) (ty : TypeId) (base ao : Option Addr) (n cap c : Nat) (h : n ≤ cap) : (Builtin.append_ #[22, 22] ty #[.slice base n cap, .slice ao 0 c]).run Try.prog w = .ok (.slice base n cap) w := by
  obtain ⟨i0, hi, hz0, hz1, hz2⟩ := kInfoNm
  cases base <;> cases ao <;> simp [Builtin.append_, run_underlying Try.underlying22, sizeOf, typeInfo, hi, Builtin.lenOf, Builtin.firstCells, loadCells, loadCellsFrom, h, storeCells]
theorem LsAt.slice_ {v : Value} {l : List (ByteArray × Int)} {w : World} (h : LsAt v l w) : ∃ ao cap, v = .slice ao l.length cap := by
  rcases h with ⟨rfl, ao, cap, rfl⟩ | ⟨g, o, cap, rfl, _⟩
  · exact ⟨ao, cap, rfl⟩
  · exact ⟨_, cap, rfl⟩
end Go.Proofs.Ytbpjgfemopakcaa
