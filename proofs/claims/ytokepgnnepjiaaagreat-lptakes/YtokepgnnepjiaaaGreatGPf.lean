/- Texts PT PU PV, joined: what each part says stands ahead of it. -/
import Derived.Test.YtokepgnnepjiaaaGreatGPb
import Derived.Test.YtokepgnnepjiaaaGreatGPe
import Derived.BigRegion
/- What does not change of a process, as it is made: join. -/
namespace Go.Proofs.YtokepgnnepjiaaaGreat
set_option maxRecDepth 100000
open Go.RowKit Lg Nl Go.Maps
set_option linter.unusedVariables false
set_option linter.unusedSimpArgs false

/-- what does not change, as it is made: one node is there -/
structure N1 (L : Nat) (k h : Int) (F P bN cN bE cE : Nat) (p0 p1 kd tm : Int) (ia : Option Addr) (im ic : Nat) (ez : Int) (Ta : Option Addr) (Tn Tc : Nat) (la : Option Addr) (ln lc : Nat) (W : World) : Prop where
  fb : W.heap[F]? = some (.cells #[.int .i64 k, .int .i64 h, .slice (some ⟨bN, 0, none⟩) 1 cN, .slice (some ⟨bE, 0, none⟩) 1 cE, .slice (some ⟨P, 0, none⟩) 2 2, .slice Ta Tn Tc, .slice la ln lc, .slice none 0 0] 70 (0, 0))
  pb : W.heap[P]? = some (.cells #[.int .i64 p0, .int .i64 p1] 3 (0, 0))
  n0 : W.cell? ⟨bN, 0, none⟩ = some (.int .i64 kd)
  n1 : W.cell? ⟨bN, 1, none⟩ = some (.int .i64 0)
  n2 : W.cell? ⟨bN, 2, none⟩ = some (.int .i64 1)
  n3 : W.cell? ⟨bN, 3, none⟩ = some (.slice ia im ic)
  n4 : W.cell? ⟨bN, 4, none⟩ = some (.string ⟨#[]⟩)
  n5 : W.cell? ⟨bN, 5, none⟩ = some (.int .i64 0)
  n6 : W.cell? ⟨bN, 6, none⟩ = some (.int .i64 0)
  n7 : W.cell? ⟨bN, 7, none⟩ = some (.int .i64 tm)
  nf : W.frozen? ⟨bN, 3, none⟩ = false
  e0 : W.cell? ⟨bE, 0, none⟩ = some (.int .i64 ez)
  ef : W.frozen? ⟨bE, 0, none⟩ = false
  ge : L ≤ F ∧ L ≤ P ∧ L ≤ bN ∧ L ≤ bE
  ne : F ≠ P ∧ F ≠ bN ∧ F ≠ bE ∧ P ≠ bN ∧ P ≠ bE ∧ bN ≠ bE
theorem N1.keep {L : Nat} {k h : Int} {F P bN cN bE cE : Nat} {p0 p1 kd tm : Int} {ia : Option Addr} {im ic : Nat} {ez : Int} {Ta : Option Addr} {Tn Tc : Nat} {la : Option Addr} {ln lc : Nat} {W W' : World} (x : N1 L k h F P bN cN bE cE p0 p1 kd tm ia im ic ez Ta Tn Tc la ln lc W) (hF : W'.heap[F]? = W.heap[F]?) (hP : W'.heap[P]? = W.heap[P]?) (hn : W'.heap[bN]? = W.heap[bN]?) (he : W'.heap[bE]? = W.heap[bE]?) : N1 L k h F P bN cN bE cE p0 p1 kd tm ia im ic ez Ta Tn Tc la ln lc W' :=
  ⟨hF.trans x.fb, hP.trans x.pb, (cellE hn).trans x.n0, (cellE hn).trans x.n1, (cellE hn).trans x.n2, (cellE hn).trans x.n3, (cellE hn).trans x.n4, (cellE hn).trans x.n5, (cellE hn).trans x.n6, (cellE hn).trans x.n7, (frozE hn).trans x.nf, (cellE he).trans x.e0, (frozE he).trans x.ef, x.ge, x.ne⟩
theorem N1.lts {L : Nat} {k h : Int} {F P bN cN bE cE : Nat} {p0 p1 kd tm : Int} {ia : Option Addr} {im ic : Nat} {ez : Int} {Ta : Option Addr} {Tn Tc : Nat} {la : Option Addr} {ln lc : Nat} {W : World} (x : N1 L k h F P bN cN bE cE p0 p1 kd tm ia im ic ez Ta Tn Tc la ln lc W) : F < W.heap.size ∧ P < W.heap.size ∧ bN < W.heap.size ∧ bE < W.heap.size := ⟨hLt x.fb, hLt x.pb, World.block_lt_of_cell? W ⟨bN, 0, none⟩ x.n0, World.block_lt_of_cell? W ⟨bE, 0, none⟩ x.e0⟩
theorem N1.below {L : Nat} {k h : Int} {F P bN cN bE cE : Nat} {p0 p1 kd tm : Int} {ia : Option Addr} {im ic : Nat} {ez : Int} {Ta : Option Addr} {Tn Tc : Nat} {la : Option Addr} {ln lc : Nat} {W W' : World} (x : N1 L k h F P bN cN bE cE p0 p1 kd tm ia im ic ez Ta Tn Tc la ln lc W) (hb : Below W.heap.size W W') : N1 L k h F P bN cN bE cE p0 p1 kd tm ia im ic ez Ta Tn Tc la ln lc W' :=
  x.keep (hb.block _ x.lts.1) (hb.block _ x.lts.2.1) (hb.block _ x.lts.2.2.1) (hb.block _ x.lts.2.2.2)
theorem N1.set3 {L : Nat} {k h : Int} {F P bN cN bE cE : Nat} {p0 p1 kd tm : Int} {ia : Option Addr} {im ic : Nat} {ez : Int} {Ta : Option Addr} {Tn Tc : Nat} {la : Option Addr} {ln lc : Nat} {W : World} (x : N1 L k h F P bN cN bE cE p0 p1 kd tm ia im ic ez Ta Tn Tc la ln lc W) (ia' : Option Addr) (im' ic' : Nat) : N1 L k h F P bN cN bE cE p0 p1 kd tm ia' im' ic' ez Ta Tn Tc la ln lc (W.setCell ⟨bN, 3, none⟩ (.slice ia' im' ic')) := by
  have o : ∀ b, b ≠ bN → (W.setCell ⟨bN, 3, none⟩ (.slice ia' im' ic')).heap[b]? = W.heap[b]? := fun b hb => Q.set1_block hb
  have c : ∀ i, i ≠ 3 → (W.setCell ⟨bN, 3, none⟩ (.slice ia' im' ic')).cell? ⟨bN, i, none⟩ = W.cell? ⟨bN, i, none⟩ := fun i hi => World.cell?_setCell_other _ _ _ _ (by simp <;> omega)
  exact ⟨(o F x.ne.2.1).trans x.fb, (o P x.ne.2.2.2.1).trans x.pb, (c 0 (by omega)).trans x.n0, (c 1 (by omega)).trans x.n1, (c 2 (by omega)).trans x.n2, (setc_at x.n3 x.nf).1, (c 4 (by omega)).trans x.n4, (c 5 (by omega)).trans x.n5, (c 6 (by omega)).trans x.n6, (c 7 (by omega)).trans x.n7, (setc_at x.n3 x.nf).2, (cellE (o bE (Ne.symm x.ne.2.2.2.2.2))).trans x.e0, (frozE (o bE (Ne.symm x.ne.2.2.2.2.2))).trans x.ef, x.ge, x.ne⟩
theorem N1.setE {L : Nat} {k h : Int} {F P bN cN bE cE : Nat} {p0 p1 kd tm : Int} {ia : Option Addr} {im ic : Nat} {ez : Int} {Ta : Option Addr} {Tn Tc : Nat} {la : Option Addr} {ln lc : Nat} {W : World} (x : N1 L k h F P bN cN bE cE p0 p1 kd tm ia im ic ez Ta Tn Tc la ln lc W) (ez' : Int) : N1 L k h F P bN cN bE cE p0 p1 kd tm ia im ic ez' Ta Tn Tc la ln lc (W.setCell ⟨bE, 0, none⟩ (.int .i64 ez')) := by
  have o : ∀ b, b ≠ bE → (W.setCell ⟨bE, 0, none⟩ (.int .i64 ez')).heap[b]? = W.heap[b]? := fun b hb => Q.set1_block hb
  have hn := o bN x.ne.2.2.2.2.2
  exact ⟨(o F x.ne.2.2.1).trans x.fb, (o P x.ne.2.2.2.2.1).trans x.pb, (cellE hn).trans x.n0, (cellE hn).trans x.n1, (cellE hn).trans x.n2, (cellE hn).trans x.n3, (cellE hn).trans x.n4, (cellE hn).trans x.n5, (cellE hn).trans x.n6, (cellE hn).trans x.n7, (frozE hn).trans x.nf, (setc_at x.e0 x.ef).1, (setc_at x.e0 x.ef).2, x.ge, x.ne⟩
theorem belSet {L : Nat} {w w' : World} (h : Below L w w') {b i : Nat} {u : Value} (hb : L ≤ b) : Below L w (w'.setCell ⟨b, i, none⟩ u) :=
  ⟨h.os, h.tape, h.output, by rw [Q.set1_size]; exact h.size, fun k hk => (Q.set1_block (by omega)).trans (h.block k hk)⟩
theorem belAl {L : Nat} {w w' : World} (h : Below L w w') (hL : L ≤ w'.heap.size) (o : Obj) : Below L w (w'.alloc o) := h.alloc hL o
set_option maxHeartbeats 2000000 in
theorem join00_c (L F P bN cN bE cE O I : Nat) (h kd tm : Int) (ia : Option Addr) (im ic : Nat) (ez : Int) (Ta : Option Addr) (Tn Tc : Nat) (la : Option Addr) (ln lc : Nat) (w : World) (hN : N1 L 0 h F P bN cN bE cE 0 (-1) kd tm ia im ic ez Ta Tn Tc la ln lc w) :
    Calls Tryz.prog 39 #[.pointer (some ⟨F, 0, none⟩), .agg #[.int .i64 2, .int .i64 0, .int .i64 1, .slice none 0 0, .string ⟨#[]⟩, .int .i64 0, .int .i64 0, .int .i64 0], .int .i64 0, .slice (some ⟨O, 0, none⟩) 2 2] w fun e w' => e = .returned (.tuple #[]) ∧ ∃ ia' ic', Hid (N1 L 0 h F P bN cN bE cE 0 (-1) kd tm ia' 0 ic' ez Ta Tn Tc la ln lc w') ∧ Hid (∀ k, k < w.heap.size → k ≠ bN → w'.heap[k]? = w.heap[k]?) ∧ Hid (Below L w w') := by
  have lF := hLt hN.fb
  have lP := hLt hN.pb
  obtain ⟨f0, f1, f2, f3, f4, f5, f6, f7⟩ := cells8 hN.fb
  have q0 : w.cell? ⟨P, 0, none⟩ = some (.int .i64 0) := by rw [Lib.cell_of_heap hN.pb]; rfl
  have q1 : w.cell? ⟨P, 1, none⟩ = some (.int .i64 (-1)) := by rw [Lib.cell_of_heap hN.pb]; rfl
  have lN := World.block_lt_of_cell? w ⟨bN, 0, none⟩ hN.n0
  have lE := World.block_lt_of_cell? w ⟨bE, 0, none⟩ hN.e0
  have n3 := hN.n3
  have nf := hN.nf
  have e0 := hN.e0
  have ef := hN.ef
  have HN : Hid (N1 L 0 h F P bN cN bE cE 0 (-1) kd tm ia im ic ez Ta Tn Tc la ln lc w) := hN
  clear hN
  have hmk := mk0
  go_enter Tryz.func39, Tryz.ntmps39
  go_wp2_with fail
  go_loopw [80] (fun s80 W => s80 = .int .i64 0 ∧ Hid (W = (w.alloc (.cells #[.int .i64 2, .int .i64 0, .int .i64 1, .slice none 0 0, .string ⟨#[]⟩, .int .i64 0, .int .i64 0, .int .i64 0] 61)).alloc (.cells #[] 3))) (fun s80 W => 0)
  case atStart => exact ⟨rfl, rfl⟩
  case round =>
    obtain ⟨rfl, HW⟩ := hrel
    rw [HW.out]
    clear HW
    go_wp2_with fail
    go_end0
    have hL : L ≤ w.heap.size := by have := HN.out.ge; have := HN.out.lts; omega
    refine ⟨rfl, some ⟨w.heap.size + 1, 0, none⟩, 0, ((HN.out.set3 _ _ _).below (belA (Below.refl _ _) _)).below (belA (Below.refl _ _) _), fun k hk hne => ?_, ?_⟩
    · rw [alOld (by simp [Q.set1_size]; omega), alOld (by simp [Q.set1_size]; omega)]
      exact Q.set1_block hne
    · exact belAl (belAl (belSet (Below.refl _ _) HN.out.ge.2.2.1) (by rw [Q.set1_size]; exact hL) _) (by simp [Q.set1_size]; omega) _
set_option maxHeartbeats 2000000 in
theorem join10_c (L F P bN cN bE cE O I : Nat) (h kd tm : Int) (ia : Option Addr) (im ic : Nat) (ez : Int) (Ta : Option Addr) (Tn Tc : Nat) (la : Option Addr) (ln lc : Nat) (w : World) (hN : N1 L 1 h F P bN cN bE cE (-1) 0 kd tm ia im ic ez Ta Tn Tc la ln lc w) :
    Calls Tryz.prog 39 #[.pointer (some ⟨F, 0, none⟩), .agg #[.int .i64 2, .int .i64 0, .int .i64 1, .slice none 0 0, .string ⟨#[]⟩, .int .i64 0, .int .i64 0, .int .i64 0], .int .i64 0, .slice (some ⟨O, 0, none⟩) 2 2] w fun e w' => e = .returned (.tuple #[]) ∧ Below w.heap.size w w' := by
  have lF := hLt hN.fb
  have lP := hLt hN.pb
  obtain ⟨f0, f1, f2, f3, f4, f5, f6, f7⟩ := cells8 hN.fb
  have q0 : w.cell? ⟨P, 0, none⟩ = some (.int .i64 (-1)) := by rw [Lib.cell_of_heap hN.pb]; rfl
  have q1 : w.cell? ⟨P, 1, none⟩ = some (.int .i64 0) := by rw [Lib.cell_of_heap hN.pb]; rfl
  have lN := World.block_lt_of_cell? w ⟨bN, 0, none⟩ hN.n0
  have lE := World.block_lt_of_cell? w ⟨bE, 0, none⟩ hN.e0
  have n3 := hN.n3
  have nf := hN.nf
  have e0 := hN.e0
  have ef := hN.ef
  have HN : Hid (N1 L 1 h F P bN cN bE cE (-1) 0 kd tm ia im ic ez Ta Tn Tc la ln lc w) := hN
  clear hN
  go_enter Tryz.func39, Tryz.ntmps39
  go_wp2_with fail
  refine bodyPost_ret (v := .tuple #[]) (by simp [results, Tryz.results39, go_sem]) rfl ?_
  exact ⟨rfl, belA (Below.refl _ _) _⟩
set_option maxHeartbeats 2000000 in
theorem join11_c (L F P bN cN bE cE O I : Nat) (h kd tm : Int) (ia : Option Addr) (im ic : Nat) (ez : Int) (Ta : Option Addr) (Tn Tc : Nat) (la : Option Addr) (ln lc : Nat) (w : World) (hN : N1 L 1 h F P bN cN bE cE (-1) 0 kd tm ia im ic ez Ta Tn Tc la ln lc w) (o0 : w.cell? ⟨O, 0, none⟩ = some (.int .i64 0)) (i0 : w.cell? ⟨I, 0, none⟩ = some (.int .i64 0)) (hO : O < L) (hI : I < L) :
    Calls Tryz.prog 39 #[.pointer (some ⟨F, 0, none⟩), .agg #[.int .i64 8, .int .i64 0, .int .i64 1, .slice (some ⟨I, 0, none⟩) 1 1, .string ⟨#[]⟩, .int .i64 0, .int .i64 0, .int .i64 2], .int .i64 1, .slice (some ⟨O, 0, none⟩) 2 2] w fun e w' => e = .returned (.tuple #[]) ∧ ∃ ia' ic', Hid (N1 L 1 h F P bN cN bE cE (-1) 0 kd tm ia' 0 ic' 0 Ta Tn Tc la ln lc w') ∧ Hid (Below L w w') := by
  have lF := hLt hN.fb
  have lP := hLt hN.pb
  obtain ⟨f0, f1, f2, f3, f4, f5, f6, f7⟩ := cells8 hN.fb
  have q0 : w.cell? ⟨P, 0, none⟩ = some (.int .i64 (-1)) := by rw [Lib.cell_of_heap hN.pb]; rfl
  have q1 : w.cell? ⟨P, 1, none⟩ = some (.int .i64 0) := by rw [Lib.cell_of_heap hN.pb]; rfl
  have lN := World.block_lt_of_cell? w ⟨bN, 0, none⟩ hN.n0
  have lE := World.block_lt_of_cell? w ⟨bE, 0, none⟩ hN.e0
  have n3 := hN.n3
  have nf := hN.nf
  have e0 := hN.e0
  have ef := hN.ef
  have HN : Hid (N1 L 1 h F P bN cN bE cE (-1) 0 kd tm ia im ic ez Ta Tn Tc la ln lc w) := hN
  have oE : O ≠ bE := by have := hN.ge; omega
  have iE : I ≠ bE := by have := hN.ge; omega
  have oN : O ≠ bN := by have := hN.ge; omega
  have nE : bN ≠ bE := hN.ne.2.2.2.2.2
  have fE : F ≠ bE := hN.ne.2.2.1
  have lO := World.block_lt_of_cell? w ⟨O, 0, none⟩ o0
  have lI := World.block_lt_of_cell? w ⟨I, 0, none⟩ i0
  clear hN
  have hmk := mk0
  go_enter Tryz.func39, Tryz.ntmps39
  go_wp2_with fail
  go_loopw [80] (fun s80 W => s80 = .int .i64 0 ∧ Hid (W = ((w.setCell ⟨bE, 0, none⟩ (.int .i64 0)).alloc (.cells #[.int .i64 8, .int .i64 0, .int .i64 1, .slice none 0 0, .string ⟨#[]⟩, .int .i64 0, .int .i64 0, .int .i64 2] 61)).alloc (.cells #[] 3))) (fun s80 W => 0)
  case atStart => exact ⟨rfl, rfl⟩
  case round =>
    obtain ⟨rfl, HW⟩ := hrel
    rw [HW.out]
    clear HW
    go_wp2_with fail
    go_end0
    have hL : L ≤ w.heap.size := by have := HN.out.ge; have := HN.out.lts; omega
    refine ⟨rfl, some ⟨w.heap.size + 1, 0, none⟩, 0, ((((HN.out.setE 0).set3 _ _ _).below (belA (Below.refl _ _) _)).below (belA (Below.refl _ _) _)), ?_⟩
    exact belAl (belAl (belSet (belSet (Below.refl _ _) HN.out.ge.2.2.2) HN.out.ge.2.2.1) (by rw [Q.set1_size, Q.set1_size]; exact hL) _) (by simp [Q.set1_size]; omega) _
end Go.Proofs.YtokepgnnepjiaaaGreat

/- The first values of a process's node; its own changes of a stimulus. -/
namespace Go.Proofs.YtokepgnnepjiaaaGreat
set_option maxRecDepth 100000
open Go.RowKit Lg Nl Go.Maps
set_option linter.unusedVariables false
set_option linter.unusedSimpArgs false

theorem mkStr1 (w : World) : (Instr.makeSlice 48 (.int .i64 1) (.int .i64 1)).run Tryz.prog w = .ok (.slice (some ⟨w.heap.size, 0, none⟩) 1 1) (w.alloc (.cells #[.string ⟨#[]⟩] 9)) := by
  have h := run_make_row' (P := Tryz.prog) 48 9 (.string ⟨#[]⟩) 16 Tryz.underlying48 (by kernel_rfl) rfl .i64 .i64 1 (by omega) (by omega) w
  rw [show madeCells #[Value.string ⟨#[]⟩] 1 = #[.string ⟨#[]⟩] by kernel_rfl] at h
  exact h
set_option maxHeartbeats 2000000 in
theorem pahead_c (L : Nat) (k h : Int) (F P bN cN bE cE : Nat) (p0 p1 kd tm : Int) (ia : Option Addr) (im ic : Nat) (ez : Int) (Ta : Option Addr) (Tn Tc : Nat) (la : Option Addr) (ln lc : Nat) (w : World) (hN : N1 L k h F P bN cN bE cE p0 p1 kd tm ia im ic ez Ta Tn Tc la ln lc w) (hk : kd = 2 ∨ kd = 8) :
    Calls Tryz.prog 40 #[.pointer (some ⟨F, 0, none⟩)] w fun e w' => ∃ g, e = .returned (.slice (some ⟨g, 0, none⟩) 1 1) ∧ Hid (w.heap.size ≤ g ∧ w'.cell? ⟨g, 0, none⟩ = some (.string ⟨#[120]⟩)) ∧ Below w.heap.size w w' := by
  have HN : Hid (N1 L k h F P bN cN bE cE p0 p1 kd tm ia im ic ez Ta Tn Tc la ln lc w) := hN
  have HK : Hid (kd = 2 ∨ kd = 8) := hk
  obtain ⟨f0, f1, f2, f3, f4, f5, f6, f7⟩ := cells8 hN.fb
  have lF := hLt hN.fb
  have hmk := mkStr1
  clear hN hk
  go_enter Tryz.func40, Tryz.ntmps40
  go_wp2_with fail
  go_loopw [17] (fun s17 W => ∃ (i : Int), (i = 0 ∨ i = 1) ∧ s17 = .int .i64 i ∧ Hid (i = 0 → W = w.alloc (.cells #[.string ⟨#[]⟩] 9)) ∧ Hid (i = 1 → W.cell? ⟨w.heap.size, 0, none⟩ = some (.string ⟨#[120]⟩)) ∧ Hid (Below w.heap.size w W)) (fun s17 W => 1 - (intOf s17).toNat)
  case atStart => exact ⟨0, Or.inl rfl, rfl, fun _ => rfl, fun h => absurd h (by decide), belA (Below.refl _ _) _⟩
  case round =>
    obtain ⟨i, hi, rfl, H0, H1, HB⟩ := hrel
    rcases hi with rfl | rfl
    · rw [H0.out rfl]
      have hb := belA (Below.refl w.heap.size w) (.cells #[.string ⟨#[]⟩] 9)
      have hn := HN.out.below hb
      obtain ⟨n0, n1, n2, n3, n4, n5, n6, n7⟩ := (⟨hn.n0, hn.n1, hn.n2, hn.n3, hn.n4, hn.n5, hn.n6, hn.n7⟩ : _ ∧ _ ∧ _ ∧ _ ∧ _ ∧ _ ∧ _ ∧ _)
      have lN : bN < w.heap.size := World.block_lt_of_cell? w ⟨bN, 0, none⟩ HN.out.n0
      have z0 : (w.alloc (.cells #[.string ⟨#[]⟩] 9)).cell? ⟨w.heap.size, 0, none⟩ = some (.string ⟨#[]⟩) := by rw [Lib.cell_of_heap (alAt rfl)]; rfl
      have zf : (w.alloc (.cells #[.string ⟨#[]⟩] 9)).frozen? ⟨w.heap.size, 0, none⟩ = false := frozAl _ _ _ _
      have zl : w.heap.size < (w.alloc (.cells #[.string ⟨#[]⟩] 9)).heap.size := by simp
      have HB2 : Hid (Below w.heap.size w (w.alloc (.cells #[.string ⟨#[]⟩] 9))) := hb
      clear H0 H1 HB hb hn
      obtain ⟨W, hW⟩ : ∃ W, W = w.alloc (.cells #[.string ⟨#[]⟩] 9) := ⟨_, rfl⟩
      have lN2 : bN < W.heap.size := by rw [hW]; simp; omega
      rw [← hW] at n0 n1 n2 n3 n4 n5 n6 n7 z0 zf zl HB2 ⊢
      clear hW
      go_wp2_with (first
        | (go_at_call 70; refine (isGate_c _ _ _ _ _ _ _ _ _ _ _ HK.out).mono ?_; rintro e w5 ⟨rfl, hb5⟩; have HB5 : Hid (Below W.heap.size W w5) := bel (belA (Below.refl _ _) _) hb5; have u1 := hLt ((hb5.block W.heap.size (by simp)).trans (alAt rfl)); have u2 := (hb5.block W.heap.size (by simp)).trans (alAt rfl); obtain ⟨u20, u21, u22, u23, u24, u25, u26, u27⟩ := cells8 u2; clear u2 hb5)
        | (go_at_call 72; refine (unk_c _ _ _ _ _ _ _ _ _ _).mono ?_; rintro e w6 ⟨rfl, hb6⟩; have HB6 : Hid (Below W.heap.size W w6) := bel HB5.out hb6; have z6 := (HB6.out.cell (p := ⟨w.heap.size, 0, none⟩) zl).trans z0; have z6f : w6.frozen? ⟨w.heap.size, 0, none⟩ = false := (frozE (HB6.out.block w.heap.size zl)).trans zf; have zl6 : w.heap.size < w6.heap.size := Nat.lt_of_lt_of_le zl HB6.out.size))
      go_roundw
      case rel => exact ⟨1, Or.inr rfl, rfl, fun h => absurd h (by decide), fun _ => (setc_at z6 z6f).1, belSet (bel HB2.out HB6.out) (Nat.le_refl _)⟩
      case measure => simp [intOf]
    · go_wp2_with fail
      go_ret
      exact ⟨_, rfl, ⟨Nat.le_refl _, H1.out (by first | exact rfl | exact True.intro)⟩, HB.out⟩
set_option maxHeartbeats 2000000 in
theorem own_nil (F : Nat) (w : World) : Calls Tryz.prog 21 #[.pointer (some ⟨F, 0, none⟩), .slice none 0 0] w fun e w' => e = .returned (.slice none 0 0) ∧ w' = w := by
  go_enter Tryz.func21, Tryz.ntmps21
  go_wp2_with fail
  go_loopw [10, 5] (fun s10 s5 W => s10 = .int .i64 0 ∧ s5 = .slice none 0 0 ∧ Hid (W = w)) (fun s10 s5 W => 0)
  case atStart => exact ⟨rfl, rfl, rfl⟩
  case round =>
    obtain ⟨rfl, rfl, HW⟩ := hrel
    rw [HW.out]
    go_wp2_with fail
    go_ret
    exact ⟨rfl, rfl⟩
set_option maxHeartbeats 2000000 in
theorem own_one (F bT cT bS cS : Nat) (t : Int) (v : ByteArray) (w : World) (f5 : w.cell? ⟨F, 5, none⟩ = some (.slice (some ⟨bT, 0, none⟩) 2 cT)) (t0 : w.cell? ⟨bT, 0, none⟩ = some (.int .i64 0)) (s0 : w.cell? ⟨bS, 0, none⟩ = some (.int .i64 t)) (s1 : w.cell? ⟨bS, 1, none⟩ = some (.int .i64 0)) (s2 : w.cell? ⟨bS, 2, none⟩ = some (.string v)) :
    Calls Tryz.prog 21 #[.pointer (some ⟨F, 0, none⟩), .slice (some ⟨bS, 0, none⟩) 1 cS] w fun e w' => ∃ g c, e = .returned (.slice (some ⟨g, 0, none⟩) 1 c) ∧ Hid (1 ≤ c ∧ C1 w.heap.size g t 0 v w') ∧ Below w.heap.size w w' := by
  have lT := World.block_lt_of_cell? w ⟨bT, 0, none⟩ t0
  have lF := World.block_lt_of_cell? w ⟨F, 5, none⟩ f5
  have lS := World.block_lt_of_cell? w ⟨bS, 0, none⟩ s0
  obtain ⟨j, hj⟩ := infoCh
  have HJ : Hid (Tryz.prog.info? 74 = some j ∧ j.zero = some (.agg #[.int .i64 0, .int .i64 0, .string ⟨#[]⟩]) ∧ j.size = 3 ∧ j.bytes = 32) := hj
  clear hj
  go_enter Tryz.func21, Tryz.ntmps21
  go_wp2_with fail
  go_loopw [10, 5] (fun s10 s5 W => ∃ (i : Int) (a : Option Addr) (m c : Nat), (i = 0 ∨ i = 1) ∧ s10 = .int .i64 i ∧ s5 = .slice a m c ∧ Hid (i = 0 → W = w ∧ a = none ∧ m = 0 ∧ c = 0) ∧ Hid (i = 1 → ∃ g, a = some ⟨g, 0, none⟩ ∧ m = 1 ∧ 1 ≤ c ∧ C1 w.heap.size g t 0 v W) ∧ Hid (Below w.heap.size w W)) (fun s10 s5 W => 1 - (intOf s10).toNat)
  case atStart => exact ⟨0, none, 0, 0, Or.inl rfl, rfl, rfl, fun _ => ⟨rfl, rfl, rfl, rfl⟩, fun h => absurd h (by decide), Below.refl _ _⟩
  case round =>
    obtain ⟨i, a, m, c, hi, rfl, rfl, H0, H1, HB⟩ := hrel
    rcases hi with rfl | rfl
    · obtain ⟨hw, rfl, rfl, rfl⟩ : wr = w ∧ a = none ∧ m = 0 ∧ c = 0 := H0.out rfl
      rw [hw]
      clear hw H0 H1 HB
      go_wp2_with fail
      have hb : Below w.heap.size w (w.alloc (.cells #[.int .i64 t, .int .i64 0, .string v] 74)) := belA (Below.refl _ _) _
      have HY : Hid (Below w.heap.size w (w.alloc (.cells #[.int .i64 t, .int .i64 0, .string v] 74))) := hb
      have f5' := (hb.cell (p := ⟨F, 5, none⟩) lF).trans f5
      have t0' := (hb.cell (p := ⟨bT, 0, none⟩) lT).trans t0
      have z0 : (w.alloc (.cells #[.int .i64 t, .int .i64 0, .string v] 74)).cell? ⟨w.heap.size, 0, none⟩ = some (.int .i64 t) := by rw [Lib.cell_of_heap (alAt rfl)]; rfl
      have z1 : (w.alloc (.cells #[.int .i64 t, .int .i64 0, .string v] 74)).cell? ⟨w.heap.size, 1, none⟩ = some (.int .i64 0) := by rw [Lib.cell_of_heap (alAt rfl)]; rfl
      have z2 : (w.alloc (.cells #[.int .i64 t, .int .i64 0, .string v] 74)).cell? ⟨w.heap.size, 2, none⟩ = some (.string v) := by rw [Lib.cell_of_heap (alAt rfl)]; rfl
      have zl : w.heap.size < (w.alloc (.cells #[.int .i64 t, .int .i64 0, .string v] 74)).heap.size := by simp
      obtain ⟨W, hW⟩ : ∃ W, W = w.alloc (.cells #[.int .i64 t, .int .i64 0, .string v] 74) := ⟨_, rfl⟩
      rw [← hW] at HY f5' t0' z0 z1 z2 zl ⊢
      clear hW hb
      go_quiet (fail)
      have HY2 : Hid (∀ n, Below w.heap.size w (W.drewN n)) := Q.belDN HY.out
      go_wp2_with (first
        | (at_builtin; refine wpList_append_own_at _ rfl _ _ 47 rfl w.heap.size 74 j _ 3 32 Tryz.underlying47 HJ.out.1 HJ.out.2.1 HJ.out.2.2.1 HJ.out.2.2.2 rfl (by decide) _ 0 [] rfl (World.ownsRow_nil _ _ _ _) ⟨W.heap.size, 0, none⟩ 1 1 [.int .i64 t, .int .i64 0, .string v] rfl rfl (fun j u hj => new3 (W.drewN _) _ _ _ _ _ rfl j u hj) (by intro u hu; simp at hu; rcases hu with rfl | rfl | rfl <;> rfl) (by unfold maxLen; omega) (by omega) (Nat.le_trans HY.out.size (by simp)) ?_; intro v9 w9 hown9 hgrow9 hnil9 hloc9))
      obtain ⟨g, cap, rfl⟩ : ∃ g cap, v9 = .slice (some ⟨g, 0, none⟩) 1 cap := own_slice1 hown9
      have hl9 := World.ownsRow.lt hown9
      have hcap : 1 ≤ cap := by
        rcases hown9.2 with ⟨e, _⟩ | ⟨g', cap', cur, e, _, _, hc, _⟩
        · cases e
        · injection e with _ _ e; omega
      go_roundw
      case rel => exact ⟨1, some ⟨g, 0, none⟩, 1, cap, Or.inr rfl, rfl, rfl, fun h => absurd h (by decide), fun _ => ⟨g, rfl, rfl, hcap, ⟨(hl9 g rfl).1, by rw [hown9.cellAt 0 (by omega)]; rfl, by rw [hown9.cellAt 1 (by omega)]; rfl, by rw [hown9.cellAt 2 (by omega)]; rfl⟩⟩, belG (belA (HY2.out _) _) hgrow9 (by simp [Act.eval, Value.ownBlock])⟩
      case measure => simp [intOf]
    · obtain ⟨g, rfl, rfl, hc, h1⟩ : ∃ g, a = some ⟨g, 0, none⟩ ∧ m = 1 ∧ 1 ≤ c ∧ C1 w.heap.size g t 0 v wr := H1.out rfl
      go_wp2_with fail
      go_ret
      exact ⟨g, c, rfl, ⟨hc, h1⟩, HB.out⟩
end Go.Proofs.YtokepgnnepjiaaaGreat

/- What does not change of a process, as it is made: its nets. -/
namespace Go.Proofs.YtokepgnnepjiaaaGreat
set_option maxRecDepth 100000
open Go.RowKit Lg Nl Go.Maps
set_option linter.unusedVariables false
set_option linter.unusedSimpArgs false

theorem N1.setT {L : Nat} {k h : Int} {F P bN cN bE cE : Nat} {p0 p1 kd tm : Int} {ia : Option Addr} {im ic : Nat} {ez : Int} {Ta : Option Addr} {Tn Tc : Nat} {la : Option Addr} {ln lc : Nat} {W : World} (x : N1 L k h F P bN cN bE cE p0 p1 kd tm ia im ic ez Ta Tn Tc la ln lc W) (Ta' : Option Addr) (Tn' Tc' : Nat) : N1 L k h F P bN cN bE cE p0 p1 kd tm ia im ic ez Ta' Tn' Tc' la ln lc (W.setCell ⟨F, 5, none⟩ (.slice Ta' Tn' Tc')) := by
  have o : ∀ b, b ≠ F → (W.setCell ⟨F, 5, none⟩ (.slice Ta' Tn' Tc')).heap[b]? = W.heap[b]? := fun b hb => Q.set1_block hb
  have hn := o bN (Ne.symm x.ne.2.1)
  have he := o bE (Ne.symm x.ne.2.2.1)
  exact ⟨heap_setCell_same W F 5 _ _ _ x.fb, (o P (Ne.symm x.ne.1)).trans x.pb, (cellE hn).trans x.n0, (cellE hn).trans x.n1, (cellE hn).trans x.n2, (cellE hn).trans x.n3, (cellE hn).trans x.n4, (cellE hn).trans x.n5, (cellE hn).trans x.n6, (cellE hn).trans x.n7, (frozE hn).trans x.nf, (cellE he).trans x.e0, (frozE he).trans x.ef, x.ge, x.ne⟩
theorem N1.f8 {L : Nat} {k h : Int} {F P bN cN bE cE : Nat} {p0 p1 kd tm : Int} {ia : Option Addr} {im ic : Nat} {ez : Int} {Ta : Option Addr} {Tn Tc : Nat} {la : Option Addr} {ln lc : Nat} {W : World} (x : N1 L k h F P bN cN bE cE p0 p1 kd tm ia im ic ez Ta Tn Tc la ln lc W) : W.cell? ⟨F, 4, none⟩ = some (.slice (some ⟨P, 0, none⟩) 2 2) ∧ W.cell? ⟨F, 5, none⟩ = some (.slice Ta Tn Tc) ∧ W.cell? ⟨P, 0, none⟩ = some (.int .i64 p0) ∧ W.cell? ⟨P, 1, none⟩ = some (.int .i64 p1) ∧ W.frozen? ⟨F, 5, none⟩ = false ∧ W.frozen? ⟨F, 7, none⟩ = false ∧ W.cell? ⟨F, 7, none⟩ = some (.slice none 0 0) := by
  obtain ⟨f0, f1, f2, f3, f4, f5, f6, f7⟩ := cells8 x.fb
  exact ⟨f4, f5, by rw [Lib.cell_of_heap x.pb]; rfl, by rw [Lib.cell_of_heap x.pb]; rfl, by simp [World.frozen?, x.fb], by simp [World.frozen?, x.fb], f7⟩
/-- what else is there, as it is made -/
structure Fr (w : World) (NN I NT O M A B NB : Nat) (W : World) : Prop where
  tw : Tw NN I NT O M A B W
  nb : W.heap[NB]? = some (.cells #[.slice (some ⟨NN, 0, none⟩) 2 2, .slice (some ⟨NT, 0, none⟩) 2 2, .int .i64 2] 26 (0, 0))
  bl : Below w.heap.size w W
theorem Fr.mv {w : World} {NN I NT O M A B NB : Nat} {W W' : World} (x : Fr w NN I NT O M A B NB W) (hw : Tw NN I NT O M A B w) (hn : W'.heap[NB]? = W.heap[NB]?) (hb : Below w.heap.size w W') : Fr w NN I NT O M A B NB W' :=
  ⟨hw.below hb, hn.trans x.nb, hb⟩
/-- the nets of a process, as they are made -/
structure Nt (B0 : Nat) (Ta : Option Addr) (Tn Tc : Nat) (zs : List Int) (W : World) : Prop where
  o : W.ownsRow B0 3 1 (.slice Ta Tn Tc) Tn (iC zs)
/-- what an append of one element onto a row of its own does, at any world -/
theorem appX8 {B t e z by_ n : Nat} {zv : Value} (hz : ∃ i, Tryz.prog.info? e = some i ∧ i.zero = some zv ∧ i.size = z ∧ i.bytes = by_) (ht : Tryz.prog.underlying t = some (.slice e)) (hzc : zv.cells.size = z) (hz0 : 0 < z) {X : World} {v : Value} {xs news : List Value} (h : X.ownsRow B e z v n xs) (a : Nat) (hnl : news.length = 1 * z) (hc : ∀ j u, news[j]? = some u → X.cell? ((⟨a, 0, none⟩ : Addr).add j) = some u) (h1c : ∀ u ∈ news, u.oneCell' = true) (hn : n ≤ 1000000) (hby : by_ ≤ 128) (hB : B ≤ X.heap.size) :
    ∃ g' cap' W', (∀ ty, (Builtin.append_ #[t, t] ty #[v, .slice (some ⟨a, 0, none⟩) 1 1]).run Tryz.prog X = .ok (.slice (some ⟨g', 0, none⟩) (n + 1) cap') W') ∧ Hid (W'.ownsRow B e z (.slice (some ⟨g', 0, none⟩) (n + 1) cap') (n + 1) (xs ++ news)) ∧ Hid (X.grownBy W' v.ownBlock) ∧ Hid (some g' = v.ownBlock ∨ g' = X.heap.size) := by
  obtain ⟨i, h1, h2, h3, h4⟩ := hz
  have hmul : (n + 1) * by_ ≤ (n + 1) * 128 := Nat.mul_le_mul_left _ hby
  have run := fun ty => run_append_own_at (P := Tryz.prog) X B t ty e i zv z by_ ht h1 h2 h3 h4 hzc hz0 v n xs h ⟨a, 0, none⟩ 1 1 news hnl hc h1c (by unfold maxLen; omega) (by omega) hB
  obtain ⟨v', W', r1, r2, r3, _, r5⟩ := run 3
  obtain ⟨g', cap', rfl⟩ := own_slice1 r2
  refine ⟨g', cap', W', fun ty => r1, r2, r3, ?_⟩
  rcases r5 with e | e
  · exact Or.inl e
  · right; injection e
theorem infoNd8 : ∃ i, Tryz.prog.info? 61 = some i ∧ i.zero = some (.agg #[.int .i64 0, .int .i64 0, .int .i64 0, .slice none 0 0, .string ⟨#[]⟩, .int .i64 0, .int .i64 0, .int .i64 0]) ∧ i.size = 8 ∧ i.bytes = 88 := Q.info_parts (by kernel_rfl)
theorem new8 (w : World) (a b c d e f g h : Value) (t : TypeId) (n : Nat) (hn : w.heap.size = n) (j : Nat) (u : Value) (hj : [a, b, c, d, e, f, g, h][j]? = some u) : (w.alloc (.cells #[a, b, c, d, e, f, g, h] t)).cell? ((⟨n, 0, none⟩ : Addr).add j) = some u := by
  have e1 : ((⟨n, 0, none⟩ : Addr).add j) = ⟨n, j, none⟩ := by simp [Addr.add]; intro h; exact h.symm
  rw [e1, Lib.cell_of_heap (alAt hn)]
  simpa using hj
theorem belJ {L M : Nat} {a b c : World} (h : Below L a b) (k : Below M b c) (hM : L ≤ M) : Below L a c := ⟨k.os.trans h.os, k.tape.trans h.tape, k.output.trans h.output, Nat.le_trans h.size k.size, fun i hi => (k.block i (by omega)).trans (h.block i hi)⟩
/-- the delay that process 0 feeds -/
structure LnAt (bL : Nat) (W : World) : Prop where
  c0 : W.cell? ⟨bL, 0, none⟩ = some (.int .i64 1)
  c1 : W.cell? ⟨bL, 1, none⟩ = some (.int .i64 0)
  c2 : W.cell? ⟨bL, 2, none⟩ = some (.int .i64 2)
  c3 : W.cell? ⟨bL, 3, none⟩ = some (.bool false)
theorem LnAt.lt {bL : Nat} {W : World} (h : LnAt bL W) : bL < W.heap.size := World.block_lt_of_cell? W ⟨bL, 0, none⟩ h.c0
theorem LnAt.keep {bL : Nat} {W W' : World} (h : LnAt bL W) (e : W'.heap[bL]? = W.heap[bL]?) : LnAt bL W' := ⟨(cellE e).trans h.c0, (cellE e).trans h.c1, (cellE e).trans h.c2, (cellE e).trans h.c3⟩
end Go.Proofs.YtokepgnnepjiaaaGreat
