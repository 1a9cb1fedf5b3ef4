/- What does not change of process 0, as it is made: the delay that it feeds. -/
import Derived.Test.YtokepgnnepjiaaaGreatGPf
namespace Go.Proofs.YtokepgnnepjiaaaGreat
set_option maxRecDepth 100000
open Go.RowKit Lg Nl Go.Maps
set_option linter.unusedVariables false
set_option linter.unusedSimpArgs false

theorem infoLn : ∃ i, Tryz.prog.info? 126 = some i ∧ i.zero = some (.agg #[.int .i64 0, .int .i64 0, .int .i64 0, .bool false]) ∧ i.size = 4 ∧ i.bytes = 32 := Q.info_parts (by kernel_rfl)
theorem new4 (w : World) (a b c d : Value) (t : TypeId) (n : Nat) (hn : w.heap.size = n) (j : Nat) (u : Value) (h : [a, b, c, d][j]? = some u) : (w.alloc (.cells #[a, b, c, d] t)).cell? ((⟨n, 0, none⟩ : Addr).add j) = some u := by
  have e1 : ((⟨n, 0, none⟩ : Addr).add j) = ⟨n, j, none⟩ := by simp [Addr.add]; intro h; exact h.symm
  rw [e1, Lib.cell_of_heap (alAt hn)]
  simpa using h
set_option maxHeartbeats 4000000 in
theorem join01_c (L F P bN cN bE cE O I : Nat) (h kd tm : Int) (ia : Option Addr) (im ic : Nat) (ez : Int) (Ta : Option Addr) (Tn Tc : Nat) (w : World) (hN : N1 L 0 h F P bN cN bE cE 0 (-1) kd tm ia im ic ez Ta Tn Tc none 0 0 w) (o0 : w.cell? ⟨O, 0, none⟩ = some (.int .i64 0)) (i0 : w.cell? ⟨I, 0, none⟩ = some (.int .i64 0)) (hO : O < L) (hI : I < L) :
    Calls Tryz.prog 39 #[.pointer (some ⟨F, 0, none⟩), .agg #[.int .i64 8, .int .i64 0, .int .i64 1, .slice (some ⟨I, 0, none⟩) 1 1, .string ⟨#[]⟩, .int .i64 0, .int .i64 0, .int .i64 2], .int .i64 1, .slice (some ⟨O, 0, none⟩) 2 2] w fun e w' => e = .returned (.tuple #[]) ∧ ∃ bL cL, Hid (N1 L 0 h F P bN cN bE cE 0 (-1) kd tm ia im ic ez Ta Tn Tc (some ⟨bL, 0, none⟩) 1 cL w') ∧ Hid (w.heap.size ≤ bL ∧ w'.cell? ⟨bL, 0, none⟩ = some (.int .i64 1) ∧ w'.cell? ⟨bL, 1, none⟩ = some (.int .i64 0) ∧ w'.cell? ⟨bL, 2, none⟩ = some (.int .i64 2) ∧ w'.cell? ⟨bL, 3, none⟩ = some (.bool false)) ∧ Hid (Below L w w') := by
  have lF := hLt hN.fb
  have lP := hLt hN.pb
  obtain ⟨f0, f1, f2, f3, f4, f5, f6, f7⟩ := cells8 hN.fb
  have q0 : w.cell? ⟨P, 0, none⟩ = some (.int .i64 0) := by rw [Lib.cell_of_heap hN.pb]; rfl
  have q1 : w.cell? ⟨P, 1, none⟩ = some (.int .i64 (-1)) := by rw [Lib.cell_of_heap hN.pb]; rfl
  have lN := World.block_lt_of_cell? w ⟨bN, 0, none⟩ hN.n0
  have lE := World.block_lt_of_cell? w ⟨bE, 0, none⟩ hN.e0
  have n3 := hN.n3
  have nf := hN.nf
  have e0 := hN.e0
  have ef := hN.ef
  have HN : Hid (N1 L 0 h F P bN cN bE cE 0 (-1) kd tm ia im ic ez Ta Tn Tc none 0 0 w) := hN
  have lO := World.block_lt_of_cell? w ⟨O, 0, none⟩ o0
  have lI := World.block_lt_of_cell? w ⟨I, 0, none⟩ i0
  have z6 : w.frozen? ⟨F, 6, none⟩ = false := by simp [World.frozen?, hN.fb]
  clear hN n3 nf e0 ef
  have hBs : w.heap.size ≤ ((((w.alloc (.cells #[.int .i64 8, .int .i64 0, .int .i64 1, .slice (some ⟨I, 0, none⟩) 1 1, .string ⟨#[]⟩, .int .i64 0, .int .i64 0, .int .i64 2] 61)).alloc (.cells #[.int .i64 1, .int .i64 0, .int .i64 2, .bool false] 126)).drew).heap.size) := by simp [World.drew]; omega
  obtain ⟨g9, c9, W9, hrun, HO9, HG9, HL9⟩ := appX infoLn Tryz.underlying68 rfl (by decide) (World.ownsRow_nil ((w.alloc (.cells #[.int .i64 8, .int .i64 0, .int .i64 1, .slice (some ⟨I, 0, none⟩) 1 1, .string ⟨#[]⟩, .int .i64 0, .int .i64 0, .int .i64 2] 61)).alloc (.cells #[.int .i64 1, .int .i64 0, .int .i64 2, .bool false] 126)).drew w.heap.size 126 4) (w.heap.size + 1) (news := [.int .i64 1, .int .i64 0, .int .i64 2, .bool false]) rfl (fun j u hj => new4 (w.alloc (.cells #[.int .i64 8, .int .i64 0, .int .i64 1, .slice (some ⟨I, 0, none⟩) 1 1, .string ⟨#[]⟩, .int .i64 0, .int .i64 0, .int .i64 2] 61)) _ _ _ _ _ _ (by simp) j u hj) (by intro u hu; simp at hu; rcases hu with rfl | rfl | rfl | rfl <;> rfl) (by omega) (by decide) hBs
  have x6 : W9.cell? ⟨F, 6, none⟩ = some (.slice none 0 0) := (cellE ((HG9.out.block F (by simp [World.drew]; omega) (by simp [Value.ownBlock])).trans ((alOld (by simp; omega)).trans (alOld lF)))).trans f6
  have xf : W9.frozen? ⟨F, 6, none⟩ = false := (frozE ((HG9.out.block F (by simp [World.drew]; omega) (by simp [Value.ownBlock])).trans ((alOld (by simp; omega)).trans (alOld lF)))).trans z6
  have xl : F < W9.heap.size := World.block_lt_of_cell? W9 ⟨F, 6, none⟩ x6
  have HK : Hid (∀ b, b < w.heap.size → W9.heap[b]? = w.heap[b]?) := fun b hb => (HG9.out.block b (by simp [World.drew]; omega) (by simp [Value.ownBlock])).trans ((alOld (by simp; omega)).trans (alOld hb))
  have HE : Hid (N1 L 0 h F P bN cN bE cE 0 (-1) kd tm ia im ic ez Ta Tn Tc (some ⟨g9, 0, none⟩) 1 c9 (W9.setCell ⟨F, 6, none⟩ (.slice (some ⟨g9, 0, none⟩) 1 c9)) ∧ (w.heap.size ≤ g9 ∧ (W9.setCell ⟨F, 6, none⟩ (.slice (some ⟨g9, 0, none⟩) 1 c9)).cell? ⟨g9, 0, none⟩ = some (.int .i64 1) ∧ (W9.setCell ⟨F, 6, none⟩ (.slice (some ⟨g9, 0, none⟩) 1 c9)).cell? ⟨g9, 1, none⟩ = some (.int .i64 0) ∧ (W9.setCell ⟨F, 6, none⟩ (.slice (some ⟨g9, 0, none⟩) 1 c9)).cell? ⟨g9, 2, none⟩ = some (.int .i64 2) ∧ (W9.setCell ⟨F, 6, none⟩ (.slice (some ⟨g9, 0, none⟩) 1 c9)).cell? ⟨g9, 3, none⟩ = some (.bool false)) ∧ Below L w (W9.setCell ⟨F, 6, none⟩ (.slice (some ⟨g9, 0, none⟩) 1 c9))) := by
    have hn := HN.out
    have hk := HK.out
    have l := hn.lts
    have hg := (World.ownsRow.lt HO9.out g9 rfl).1
    have st : ∀ b, b ≠ F → (W9.setCell ⟨F, 6, none⟩ (.slice (some ⟨g9, 0, none⟩) 1 c9)).heap[b]? = W9.heap[b]? := fun b hb => Q.set1_block hb
    have n9 := hn.keep (hk F l.1) (hk P l.2.1) (hk bN l.2.2.1) (hk bE l.2.2.2)
    have gF : g9 ≠ F := by omega
    refine ⟨⟨heap_setCell_same W9 F 6 _ _ _ n9.fb, (st P (Ne.symm hn.ne.1)).trans n9.pb, ?_, ?_, ?_, ?_, ?_, ?_, ?_, ?_, ?_, ?_, ?_, hn.ge, hn.ne⟩, ⟨hg, ?_, ?_, ?_, ?_⟩, ?_⟩
    · exact (cellE (st bN (Ne.symm hn.ne.2.1))).trans n9.n0
    · exact (cellE (st bN (Ne.symm hn.ne.2.1))).trans n9.n1
    · exact (cellE (st bN (Ne.symm hn.ne.2.1))).trans n9.n2
    · exact (cellE (st bN (Ne.symm hn.ne.2.1))).trans n9.n3
    · exact (cellE (st bN (Ne.symm hn.ne.2.1))).trans n9.n4
    · exact (cellE (st bN (Ne.symm hn.ne.2.1))).trans n9.n5
    · exact (cellE (st bN (Ne.symm hn.ne.2.1))).trans n9.n6
    · exact (cellE (st bN (Ne.symm hn.ne.2.1))).trans n9.n7
    · exact (frozE (st bN (Ne.symm hn.ne.2.1))).trans n9.nf
    · exact (cellE (st bE (Ne.symm hn.ne.2.2.1))).trans n9.e0
    · exact (frozE (st bE (Ne.symm hn.ne.2.2.1))).trans n9.ef
    · rw [cellE (st g9 gF), HO9.out.cellAt 0 (by omega)]; rfl
    · rw [cellE (st g9 gF), HO9.out.cellAt 1 (by omega)]; rfl
    · rw [cellE (st g9 gF), HO9.out.cellAt 2 (by omega)]; rfl
    · rw [cellE (st g9 gF), HO9.out.cellAt 3 (by omega)]; rfl
    · have hb9 : Below L w W9 := ⟨HG9.out.os, HG9.out.tape, HG9.out.output, Nat.le_trans (by simp [World.drew] <;> omega) HG9.out.size, fun b hb => hk b (by have := hn.ge; omega)⟩
      exact belSet hb9 hn.ge.1
  have HE2 : Hid (N1 L 0 h F P bN cN bE cE 0 (-1) kd tm ia im ic ez Ta Tn Tc (some ⟨g9, 0, none⟩) 1 c9 ((W9.setCell ⟨F, 6, none⟩ (.slice (some ⟨g9, 0, none⟩) 1 c9)).setCell ⟨w.heap.size, 3, none⟩ (.slice none 0 0)) ∧ (w.heap.size ≤ g9 ∧ ((W9.setCell ⟨F, 6, none⟩ (.slice (some ⟨g9, 0, none⟩) 1 c9)).setCell ⟨w.heap.size, 3, none⟩ (.slice none 0 0)).cell? ⟨g9, 0, none⟩ = some (.int .i64 1) ∧ ((W9.setCell ⟨F, 6, none⟩ (.slice (some ⟨g9, 0, none⟩) 1 c9)).setCell ⟨w.heap.size, 3, none⟩ (.slice none 0 0)).cell? ⟨g9, 1, none⟩ = some (.int .i64 0) ∧ ((W9.setCell ⟨F, 6, none⟩ (.slice (some ⟨g9, 0, none⟩) 1 c9)).setCell ⟨w.heap.size, 3, none⟩ (.slice none 0 0)).cell? ⟨g9, 2, none⟩ = some (.int .i64 2) ∧ ((W9.setCell ⟨F, 6, none⟩ (.slice (some ⟨g9, 0, none⟩) 1 c9)).setCell ⟨w.heap.size, 3, none⟩ (.slice none 0 0)).cell? ⟨g9, 3, none⟩ = some (.bool false)) ∧ Below L w ((W9.setCell ⟨F, 6, none⟩ (.slice (some ⟨g9, 0, none⟩) 1 c9)).setCell ⟨w.heap.size, 3, none⟩ (.slice none 0 0))) := by
    obtain ⟨a, ⟨b0, b1, b2, b3, b4⟩, c⟩ := HE.out
    have l := HN.out.lts
    have gB : g9 ≠ w.heap.size := by
      rcases HL9.out with e | e
      · cases e
      · simp [World.drew] at e; omega
    have st : ∀ b, b ≠ w.heap.size → ((W9.setCell ⟨F, 6, none⟩ (.slice (some ⟨g9, 0, none⟩) 1 c9)).setCell ⟨w.heap.size, 3, none⟩ (.slice none 0 0)).heap[b]? = (W9.setCell ⟨F, 6, none⟩ (.slice (some ⟨g9, 0, none⟩) 1 c9)).heap[b]? := fun b hb => Q.set1_block hb
    exact ⟨a.keep (st F (by omega)) (st P (by omega)) (st bN (by omega)) (st bE (by omega)), ⟨b0, (cellE (st g9 gB)).trans b1, (cellE (st g9 gB)).trans b2, (cellE (st g9 gB)).trans b3, (cellE (st g9 gB)).trans b4⟩, belSet c (by have := HN.out.ge; omega)⟩
  have hbx := (HG9.out.block w.heap.size (by simp [World.drew] <;> omega) (by simp [Value.ownBlock])).trans ((alOld (by simp)).trans (alAt (W := w) (o := .cells #[.int .i64 8, .int .i64 0, .int .i64 1, .slice (some ⟨I, 0, none⟩) 1 1, .string ⟨#[]⟩, .int .i64 0, .int .i64 0, .int .i64 2] 61) rfl))
  have y3 : W9.cell? ⟨w.heap.size, 3, none⟩ = some (.slice (some ⟨I, 0, none⟩) 1 1) := by rw [Lib.cell_of_heap hbx]; rfl
  have yf : W9.frozen? ⟨w.heap.size, 3, none⟩ = false := by simp [World.frozen?, hbx]
  have yl : w.heap.size < W9.heap.size := World.block_lt_of_cell? W9 ⟨w.heap.size, 3, none⟩ y3
  have yn : F ≠ w.heap.size := by omega
  clear hbx HE
  obtain ⟨Xb, hXb⟩ : ∃ Xb, Xb = w.alloc (.cells #[.int .i64 8, .int .i64 0, .int .i64 1, .slice (some ⟨I, 0, none⟩) 1 1, .string ⟨#[]⟩, .int .i64 0, .int .i64 0, .int .i64 2] 61) := ⟨_, rfl⟩
  have hz : Xb.heap.size = w.heap.size + 1 := by rw [hXb]; simp
  have r4 : Xb.cell? ⟨F, 4, none⟩ = some (.slice (some ⟨P, 0, none⟩) 2 2) := by rw [hXb]; exact (cellE (alOld lF)).trans f4
  have r6 : Xb.cell? ⟨F, 6, none⟩ = some (.slice none 0 0) := by rw [hXb]; exact (cellE (alOld lF)).trans f6
  have ri : Xb.cell? ⟨I, 0, none⟩ = some (.int .i64 0) := by rw [hXb]; exact (cellE (alOld lI)).trans i0
  have rp : Xb.cell? ⟨P, 0, none⟩ = some (.int .i64 0) := by rw [hXb]; exact (cellE (alOld lP)).trans q0
  have r3 : Xb.cell? ⟨w.heap.size, 3, none⟩ = some (.slice (some ⟨I, 0, none⟩) 1 1) := by rw [hXb, Lib.cell_of_heap (alAt rfl)]; rfl
  have r7 : Xb.cell? ⟨w.heap.size, 7, none⟩ = some (.int .i64 2) := by rw [hXb, Lib.cell_of_heap (alAt rfl)]; rfl
  rw [← hXb, ← hz] at hrun
  go_enter Tryz.func39, Tryz.ntmps39
  go_wp2_with fail
  rw [← hXb]
  have m1 : F < Xb.heap.size := by omega
  have m2 : P < Xb.heap.size := by omega
  have m3 : I < Xb.heap.size := by omega
  have m4 : w.heap.size < Xb.heap.size := by omega
  clear hBs HO9 HG9 HL9 HK lN lE hO hI hz hXb f0 f1 f2 f3 f4 f5 f6 f7 q0 q1 o0 i0 lO lI lP z6
  refine wp_region_any (by kernel_rfl) ?_
  try (change wpAny _ _ _ _ _ _ _ (World.drew _))
  refine wpAny_take (i := 0) (oi := ⟨some 36, _, _, _, _, _⟩) (v := ?_) rfl (by kernel_rfl) (by kernel_rfl) (by kernel_rfl) (fun _ _ _ h => h) (Or.inl ⟨by kernel_rfl, ?_⟩) ?_
  rotate_left
  · intro w'; go_simp <;> with_reducible rfl
  try simp only [Act.put, List.setIfInBounds_toArray, List.set_cons_zero, List.set_cons_succ]
  refine wpAny_take (i := 1) (oi := ⟨some 37, _, _, _, _, _⟩) (v := ?_) rfl (by kernel_rfl) (by kernel_rfl) (by kernel_rfl) (fun _ _ _ h => h) (Or.inl ⟨by kernel_rfl, ?_⟩) ?_
  rotate_left
  · intro w'; go_simp <;> with_reducible rfl
  try simp only [Act.put, List.setIfInBounds_toArray, List.set_cons_zero, List.set_cons_succ]
  refine wpAny_take (i := 2) (oi := ⟨some 38, _, _, _, _, _⟩) (v := ?_) rfl (by kernel_rfl) (by kernel_rfl) (by kernel_rfl) (fun _ _ _ h => h) (Or.inl ⟨by kernel_rfl, ?_⟩) ?_
  rotate_left
  · intro w'; go_simp <;> with_reducible rfl
  try simp only [Act.put, List.setIfInBounds_toArray, List.set_cons_zero, List.set_cons_succ]
  refine wpAny_take (i := 3) (oi := ⟨some 39, _, _, _, _, _⟩) (v := ?_) rfl (by kernel_rfl) (by kernel_rfl) (by kernel_rfl) (fun _ _ _ h => h) (Or.inl ⟨by kernel_rfl, ?_⟩) ?_
  rotate_left
  · intro w'; go_simp <;> with_reducible rfl
  try simp only [Act.put, List.setIfInBounds_toArray, List.set_cons_zero, List.set_cons_succ]
  refine wpAny_take (i := 5) (oi := ⟨some 41, _, _, _, _, _⟩) (v := ?_) rfl (by kernel_rfl) (by kernel_rfl) (by kernel_rfl) (fun _ _ _ h => h) (Or.inl ⟨by kernel_rfl, ?_⟩) ?_
  rotate_left
  · intro w'; go_simp <;> with_reducible rfl
  try simp only [Act.put, List.setIfInBounds_toArray, List.set_cons_zero, List.set_cons_succ]
  refine wpAny_take (i := 6) (oi := ⟨some 42, _, _, _, _, _⟩) (v := ?_) rfl (by kernel_rfl) (by kernel_rfl) (by kernel_rfl) (fun _ _ _ h => h) (Or.inl ⟨by kernel_rfl, ?_⟩) ?_
  rotate_left
  · intro w'; go_simp <;> with_reducible rfl
  try simp only [Act.put, List.setIfInBounds_toArray, List.set_cons_zero, List.set_cons_succ]
  refine wpAny_take (i := 7) (oi := ⟨some 43, _, _, _, _, _⟩) (v := ?_) rfl (by kernel_rfl) (by kernel_rfl) (by kernel_rfl) (fun _ _ _ h => h) (Or.inl ⟨by kernel_rfl, ?_⟩) ?_
  rotate_left
  · intro w'; go_simp <;> with_reducible rfl
  try simp only [Act.put, List.setIfInBounds_toArray, List.set_cons_zero, List.set_cons_succ]
  refine wpAny_take (i := 8) (oi := ⟨some 44, _, _, _, _, _⟩) (v := ?_) rfl (by kernel_rfl) (by kernel_rfl) (by kernel_rfl) (fun _ _ _ h => h) (Or.inl ⟨by kernel_rfl, ?_⟩) ?_
  rotate_left
  · intro w'; go_simp <;> with_reducible rfl
  try simp only [Act.put, List.setIfInBounds_toArray, List.set_cons_zero, List.set_cons_succ]
  refine wpAny_take (i := 10) (oi := ⟨some 46, _, _, _, _, _⟩) (v := ?_) rfl (by kernel_rfl) (by kernel_rfl) (by kernel_rfl) (fun _ _ _ h => h) (Or.inl ⟨by kernel_rfl, ?_⟩) ?_
  rotate_left
  · intro w'; go_simp <;> with_reducible rfl
  try simp only [Act.put, List.setIfInBounds_toArray, List.set_cons_zero, List.set_cons_succ]
  refine wpAny_take (i := 16) (oi := ⟨some 52, _, _, _, _, _⟩) (v := ?_) rfl (by kernel_rfl) (by kernel_rfl) (by kernel_rfl) (fun _ _ _ h => h) (Or.inl ⟨by kernel_rfl, ?_⟩) ?_
  rotate_left
  · intro w'; go_simp <;> with_reducible rfl
  try simp only [Act.put, List.setIfInBounds_toArray, List.set_cons_zero, List.set_cons_succ]
  refine wpAny_take (i := 18) (oi := ⟨some 54, _, _, _, _, _⟩) (v := ?_) rfl (by kernel_rfl) (by kernel_rfl) (by kernel_rfl) (fun _ _ _ h => h) (Or.inl ⟨by kernel_rfl, ?_⟩) ?_
  rotate_left
  · intro w'; go_simp <;> with_reducible rfl
  try simp only [Act.put, List.setIfInBounds_toArray, List.set_cons_zero, List.set_cons_succ]
  refine wpAny_take (i := 19) (oi := ⟨some 55, _, _, _, _, _⟩) (v := ?_) rfl (by kernel_rfl) (by kernel_rfl) (by kernel_rfl) (fun _ _ _ h => h) (Or.inl ⟨by kernel_rfl, ?_⟩) ?_
  rotate_left
  · intro w'; go_simp <;> with_reducible rfl
  try simp only [Act.put, List.setIfInBounds_toArray, List.set_cons_zero, List.set_cons_succ]
  -- state 0: [0, 1, 2, 3, 5, 6, 7, 8, 10, 16, 18, 19]
  refine wpAny_ready (rs := [4, 9, 11, 17]) (by kernel_rfl) (by simp) ?_
  refine AllReady.cons rfl (fun K hK => ?_) ?_
  go_simp
  refine hK _ _ ?_
  clear hK K
  try simp only [Act.put, List.setIfInBounds_toArray, List.set_cons_zero, List.set_cons_succ]
  refine ?st1
  rotate_left
  refine AllReady.cons rfl (fun K hK => ?_) ?_
  go_simp
  refine hK _ _ ?_
  clear hK K
  try simp only [Act.put, List.setIfInBounds_toArray, List.set_cons_zero, List.set_cons_succ]
  refine ?st2
  rotate_left
  refine AllReady.cons rfl (fun K hK => ?_) ?_
  go_simp
  refine hK _ _ ?_
  clear hK K
  try simp only [Act.put, List.setIfInBounds_toArray, List.set_cons_zero, List.set_cons_succ]
  refine wpAny_take (i := 12) (oi := ⟨some 48, _, _, _, _, _⟩) (v := ?_) rfl (by kernel_rfl) (by kernel_rfl) (by kernel_rfl) (fun _ _ _ h => h) (Or.inl ⟨by kernel_rfl, ?_⟩) ?_
  rotate_left
  · intro w'; go_simp <;> with_reducible rfl
  try simp only [Act.put, List.setIfInBounds_toArray, List.set_cons_zero, List.set_cons_succ]
  refine ?st3
  rotate_left
  refine AllReady.cons rfl (fun K hK => ?_) ?_
  go_simp
  refine hK _ _ ?_
  clear hK K
  try simp only [Act.put, List.setIfInBounds_toArray, List.set_cons_zero, List.set_cons_succ]
  refine ?st4
  rotate_left
  exact AllReady.nil
  -- state 1: [0, 1, 2, 3, 4, 5, 6, 7, 8, 10, 16, 18, 19]
  refine wpAny_ready (rs := [9, 11, 17]) (by kernel_rfl) (by simp) ?_
  refine AllReady.cons rfl (fun K hK => ?_) ?_
  go_simp
  refine hK _ _ ?_
  clear hK K
  try simp only [Act.put, List.setIfInBounds_toArray, List.set_cons_zero, List.set_cons_succ]
  refine ?st5
  rotate_left
  refine AllReady.cons rfl (fun K hK => ?_) ?_
  go_simp
  refine hK _ _ ?_
  clear hK K
  try simp only [Act.put, List.setIfInBounds_toArray, List.set_cons_zero, List.set_cons_succ]
  refine wpAny_take (i := 12) (oi := ⟨some 48, _, _, _, _, _⟩) (v := ?_) rfl (by kernel_rfl) (by kernel_rfl) (by kernel_rfl) (fun _ _ _ h => h) (Or.inl ⟨by kernel_rfl, ?_⟩) ?_
  rotate_left
  · intro w'; go_simp <;> with_reducible rfl
  try simp only [Act.put, List.setIfInBounds_toArray, List.set_cons_zero, List.set_cons_succ]
  refine ?st6
  rotate_left
  refine AllReady.cons rfl (fun K hK => ?_) ?_
  go_simp
  refine hK _ _ ?_
  clear hK K
  try simp only [Act.put, List.setIfInBounds_toArray, List.set_cons_zero, List.set_cons_succ]
  refine ?st7
  rotate_left
  exact AllReady.nil
  -- state 2: [0, 1, 2, 3, 5, 6, 7, 8, 9, 10, 16, 18, 19]
  refine wpAny_ready (rs := [4, 11, 17]) (by kernel_rfl) (by simp) ?_
  refine AllReady.cons rfl (fun K hK => ?_) ?_
  go_simp
  refine hK _ _ ?_
  clear hK K
  try simp only [Act.put, List.setIfInBounds_toArray, List.set_cons_zero, List.set_cons_succ]
  refine ?st5
  refine AllReady.cons rfl (fun K hK => ?_) ?_
  go_simp
  refine hK _ _ ?_
  clear hK K
  try simp only [Act.put, List.setIfInBounds_toArray, List.set_cons_zero, List.set_cons_succ]
  refine wpAny_take (i := 12) (oi := ⟨some 48, _, _, _, _, _⟩) (v := ?_) rfl (by kernel_rfl) (by kernel_rfl) (by kernel_rfl) (fun _ _ _ h => h) (Or.inl ⟨by kernel_rfl, ?_⟩) ?_
  rotate_left
  · intro w'; go_simp <;> with_reducible rfl
  try simp only [Act.put, List.setIfInBounds_toArray, List.set_cons_zero, List.set_cons_succ]
  refine ?st8
  rotate_left
  refine AllReady.cons rfl (fun K hK => ?_) ?_
  go_simp
  refine hK _ _ ?_
  clear hK K
  try simp only [Act.put, List.setIfInBounds_toArray, List.set_cons_zero, List.set_cons_succ]
  refine ?st9
  rotate_left
  exact AllReady.nil
  -- state 3: [0, 1, 2, 3, 5, 6, 7, 8, 10, 11, 12, 16, 18, 19]
  refine wpAny_ready (rs := [4, 9, 13, 17]) (by kernel_rfl) (by simp) ?_
  refine AllReady.cons rfl (fun K hK => ?_) ?_
  go_simp
  refine hK _ _ ?_
  clear hK K
  try simp only [Act.put, List.setIfInBounds_toArray, List.set_cons_zero, List.set_cons_succ]
  refine ?st6
  refine AllReady.cons rfl (fun K hK => ?_) ?_
  go_simp
  refine hK _ _ ?_
  clear hK K
  try simp only [Act.put, List.setIfInBounds_toArray, List.set_cons_zero, List.set_cons_succ]
  refine ?st8
  refine AllReady.cons rfl (fun K hK => ?_) ?_
  go_simp
  refine hK _ _ ?_
  clear hK K
  try simp only [Act.put, List.setIfInBounds_toArray, List.set_cons_zero, List.set_cons_succ]
  refine ?st10
  rotate_left
  refine AllReady.cons rfl (fun K hK => ?_) ?_
  go_simp
  refine hK _ _ ?_
  clear hK K
  try simp only [Act.put, List.setIfInBounds_toArray, List.set_cons_zero, List.set_cons_succ]
  refine ?st11
  rotate_left
  exact AllReady.nil
  -- state 4: [0, 1, 2, 3, 5, 6, 7, 8, 10, 16, 17, 18, 19]
  refine wpAny_ready (rs := [4, 9, 11]) (by kernel_rfl) (by simp) ?_
  refine AllReady.cons rfl (fun K hK => ?_) ?_
  go_simp
  refine hK _ _ ?_
  clear hK K
  try simp only [Act.put, List.setIfInBounds_toArray, List.set_cons_zero, List.set_cons_succ]
  refine ?st7
  refine AllReady.cons rfl (fun K hK => ?_) ?_
  go_simp
  refine hK _ _ ?_
  clear hK K
  try simp only [Act.put, List.setIfInBounds_toArray, List.set_cons_zero, List.set_cons_succ]
  refine ?st9
  refine AllReady.cons rfl (fun K hK => ?_) ?_
  go_simp
  refine hK _ _ ?_
  clear hK K
  try simp only [Act.put, List.setIfInBounds_toArray, List.set_cons_zero, List.set_cons_succ]
  refine wpAny_take (i := 12) (oi := ⟨some 48, _, _, _, _, _⟩) (v := ?_) rfl (by kernel_rfl) (by kernel_rfl) (by kernel_rfl) (fun _ _ _ h => h) (Or.inl ⟨by kernel_rfl, ?_⟩) ?_
  rotate_left
  · intro w'; go_simp <;> with_reducible rfl
  try simp only [Act.put, List.setIfInBounds_toArray, List.set_cons_zero, List.set_cons_succ]
  refine ?st11
  exact AllReady.nil
  -- state 5: [0, 1, 2, 3, 4, 5, 6, 7, 8, 9, 10, 16, 18, 19]
  refine wpAny_ready (rs := [11, 17]) (by kernel_rfl) (by simp) ?_
  refine AllReady.cons rfl (fun K hK => ?_) ?_
  go_simp
  refine hK _ _ ?_
  clear hK K
  try simp only [Act.put, List.setIfInBounds_toArray, List.set_cons_zero, List.set_cons_succ]
  refine wpAny_take (i := 12) (oi := ⟨some 48, _, _, _, _, _⟩) (v := ?_) rfl (by kernel_rfl) (by kernel_rfl) (by kernel_rfl) (fun _ _ _ h => h) (Or.inl ⟨by kernel_rfl, ?_⟩) ?_
  rotate_left
  · intro w'; go_simp <;> with_reducible rfl
  try simp only [Act.put, List.setIfInBounds_toArray, List.set_cons_zero, List.set_cons_succ]
  refine ?st12
  rotate_left
  refine AllReady.cons rfl (fun K hK => ?_) ?_
  go_simp
  refine hK _ _ ?_
  clear hK K
  try simp only [Act.put, List.setIfInBounds_toArray, List.set_cons_zero, List.set_cons_succ]
  refine ?st13
  rotate_left
  exact AllReady.nil
  -- state 6: [0, 1, 2, 3, 4, 5, 6, 7, 8, 10, 11, 12, 16, 18, 19]
  refine wpAny_ready (rs := [9, 13, 17]) (by kernel_rfl) (by simp) ?_
  refine AllReady.cons rfl (fun K hK => ?_) ?_
  go_simp
  refine hK _ _ ?_
  clear hK K
  try simp only [Act.put, List.setIfInBounds_toArray, List.set_cons_zero, List.set_cons_succ]
  refine ?st12
  refine AllReady.cons rfl (fun K hK => ?_) ?_
  go_simp
  refine hK _ _ ?_
  clear hK K
  try simp only [Act.put, List.setIfInBounds_toArray, List.set_cons_zero, List.set_cons_succ]
  refine ?st14
  rotate_left
  refine AllReady.cons rfl (fun K hK => ?_) ?_
  go_simp
  refine hK _ _ ?_
  clear hK K
  try simp only [Act.put, List.setIfInBounds_toArray, List.set_cons_zero, List.set_cons_succ]
  refine ?st15
  rotate_left
  exact AllReady.nil
  -- state 7: [0, 1, 2, 3, 4, 5, 6, 7, 8, 10, 16, 17, 18, 19]
  refine wpAny_ready (rs := [9, 11]) (by kernel_rfl) (by simp) ?_
  refine AllReady.cons rfl (fun K hK => ?_) ?_
  go_simp
  refine hK _ _ ?_
  clear hK K
  try simp only [Act.put, List.setIfInBounds_toArray, List.set_cons_zero, List.set_cons_succ]
  refine ?st13
  refine AllReady.cons rfl (fun K hK => ?_) ?_
  go_simp
  refine hK _ _ ?_
  clear hK K
  try simp only [Act.put, List.setIfInBounds_toArray, List.set_cons_zero, List.set_cons_succ]
  refine wpAny_take (i := 12) (oi := ⟨some 48, _, _, _, _, _⟩) (v := ?_) rfl (by kernel_rfl) (by kernel_rfl) (by kernel_rfl) (fun _ _ _ h => h) (Or.inl ⟨by kernel_rfl, ?_⟩) ?_
  rotate_left
  · intro w'; go_simp <;> with_reducible rfl
  try simp only [Act.put, List.setIfInBounds_toArray, List.set_cons_zero, List.set_cons_succ]
  refine ?st15
  exact AllReady.nil
  -- state 8: [0, 1, 2, 3, 5, 6, 7, 8, 9, 10, 11, 12, 16, 18, 19]
  refine wpAny_ready (rs := [4, 13, 17]) (by kernel_rfl) (by simp) ?_
  refine AllReady.cons rfl (fun K hK => ?_) ?_
  go_simp
  refine hK _ _ ?_
  clear hK K
  try simp only [Act.put, List.setIfInBounds_toArray, List.set_cons_zero, List.set_cons_succ]
  refine ?st12
  refine AllReady.cons rfl (fun K hK => ?_) ?_
  go_simp
  refine hK _ _ ?_
  clear hK K
  try simp only [Act.put, List.setIfInBounds_toArray, List.set_cons_zero, List.set_cons_succ]
  refine wpAny_take (i := 14) (oi := ⟨some 50, _, _, _, _, _⟩) (v := ?_) rfl (by kernel_rfl) (by kernel_rfl) (by kernel_rfl) (fun _ _ _ h => h) (Or.inl ⟨by kernel_rfl, ?_⟩) ?_
  rotate_left
  · intro w'; go_simp <;> with_reducible rfl
  try simp only [Act.put, List.setIfInBounds_toArray, List.set_cons_zero, List.set_cons_succ]
  refine ?st16
  rotate_left
  refine AllReady.cons rfl (fun K hK => ?_) ?_
  go_simp
  refine hK _ _ ?_
  clear hK K
  try simp only [Act.put, List.setIfInBounds_toArray, List.set_cons_zero, List.set_cons_succ]
  refine ?st17
  rotate_left
  exact AllReady.nil
  -- state 9: [0, 1, 2, 3, 5, 6, 7, 8, 9, 10, 16, 17, 18, 19]
  refine wpAny_ready (rs := [4, 11]) (by kernel_rfl) (by simp) ?_
  refine AllReady.cons rfl (fun K hK => ?_) ?_
  go_simp
  refine hK _ _ ?_
  clear hK K
  try simp only [Act.put, List.setIfInBounds_toArray, List.set_cons_zero, List.set_cons_succ]
  refine ?st13
  refine AllReady.cons rfl (fun K hK => ?_) ?_
  go_simp
  refine hK _ _ ?_
  clear hK K
  try simp only [Act.put, List.setIfInBounds_toArray, List.set_cons_zero, List.set_cons_succ]
  refine wpAny_take (i := 12) (oi := ⟨some 48, _, _, _, _, _⟩) (v := ?_) rfl (by kernel_rfl) (by kernel_rfl) (by kernel_rfl) (fun _ _ _ h => h) (Or.inl ⟨by kernel_rfl, ?_⟩) ?_
  rotate_left
  · intro w'; go_simp <;> with_reducible rfl
  try simp only [Act.put, List.setIfInBounds_toArray, List.set_cons_zero, List.set_cons_succ]
  refine ?st17
  exact AllReady.nil
  -- state 10: [0, 1, 2, 3, 5, 6, 7, 8, 10, 11, 12, 13, 16, 18, 19]
  refine wpAny_ready (rs := [4, 9, 17]) (by kernel_rfl) (by simp) ?_
  refine AllReady.cons rfl (fun K hK => ?_) ?_
  go_simp
  refine hK _ _ ?_
  clear hK K
  try simp only [Act.put, List.setIfInBounds_toArray, List.set_cons_zero, List.set_cons_succ]
  refine ?st14
  refine AllReady.cons rfl (fun K hK => ?_) ?_
  go_simp
  refine hK _ _ ?_
  clear hK K
  try simp only [Act.put, List.setIfInBounds_toArray, List.set_cons_zero, List.set_cons_succ]
  refine wpAny_take (i := 14) (oi := ⟨some 50, _, _, _, _, _⟩) (v := ?_) rfl (by kernel_rfl) (by kernel_rfl) (by kernel_rfl) (fun _ _ _ h => h) (Or.inl ⟨by kernel_rfl, ?_⟩) ?_
  rotate_left
  · intro w'; go_simp <;> with_reducible rfl
  try simp only [Act.put, List.setIfInBounds_toArray, List.set_cons_zero, List.set_cons_succ]
  refine ?st16
  refine AllReady.cons rfl (fun K hK => ?_) ?_
  go_simp
  refine hK _ _ ?_
  clear hK K
  try simp only [Act.put, List.setIfInBounds_toArray, List.set_cons_zero, List.set_cons_succ]
  refine ?st18
  rotate_left
  exact AllReady.nil
  -- state 11: [0, 1, 2, 3, 5, 6, 7, 8, 10, 11, 12, 16, 17, 18, 19]
  refine wpAny_ready (rs := [4, 9, 13]) (by kernel_rfl) (by simp) ?_
  refine AllReady.cons rfl (fun K hK => ?_) ?_
  go_simp
  refine hK _ _ ?_
  clear hK K
  try simp only [Act.put, List.setIfInBounds_toArray, List.set_cons_zero, List.set_cons_succ]
  refine ?st15
  refine AllReady.cons rfl (fun K hK => ?_) ?_
  go_simp
  refine hK _ _ ?_
  clear hK K
  try simp only [Act.put, List.setIfInBounds_toArray, List.set_cons_zero, List.set_cons_succ]
  refine ?st17
  refine AllReady.cons rfl (fun K hK => ?_) ?_
  go_simp
  refine hK _ _ ?_
  clear hK K
  try simp only [Act.put, List.setIfInBounds_toArray, List.set_cons_zero, List.set_cons_succ]
  refine ?st18
  exact AllReady.nil
  -- state 12: [0, 1, 2, 3, 4, 5, 6, 7, 8, 9, 10, 11, 12, 16, 18, 19]
  refine wpAny_ready (rs := [13, 17]) (by kernel_rfl) (by simp) ?_
  refine AllReady.cons rfl (fun K hK => ?_) ?_
  go_simp
  refine hK _ _ ?_
  clear hK K
  try simp only [Act.put, List.setIfInBounds_toArray, List.set_cons_zero, List.set_cons_succ]
  refine wpAny_take (i := 14) (oi := ⟨some 50, _, _, _, _, _⟩) (v := ?_) rfl (by kernel_rfl) (by kernel_rfl) (by kernel_rfl) (fun _ _ _ h => h) (Or.inl ⟨by kernel_rfl, ?_⟩) ?_
  rotate_left
  · intro w'; go_simp <;> with_reducible rfl
  try simp only [Act.put, List.setIfInBounds_toArray, List.set_cons_zero, List.set_cons_succ]
  refine ?st19
  rotate_left
  refine AllReady.cons rfl (fun K hK => ?_) ?_
  go_simp
  refine hK _ _ ?_
  clear hK K
  try simp only [Act.put, List.setIfInBounds_toArray, List.set_cons_zero, List.set_cons_succ]
  refine ?st20
  rotate_left
  exact AllReady.nil
  -- state 13: [0, 1, 2, 3, 4, 5, 6, 7, 8, 9, 10, 16, 17, 18, 19]
  refine wpAny_ready (rs := [11]) (by kernel_rfl) (by simp) ?_
  refine AllReady.cons rfl (fun K hK => ?_) ?_
  go_simp
  refine hK _ _ ?_
  clear hK K
  try simp only [Act.put, List.setIfInBounds_toArray, List.set_cons_zero, List.set_cons_succ]
  refine wpAny_take (i := 12) (oi := ⟨some 48, _, _, _, _, _⟩) (v := ?_) rfl (by kernel_rfl) (by kernel_rfl) (by kernel_rfl) (fun _ _ _ h => h) (Or.inl ⟨by kernel_rfl, ?_⟩) ?_
  rotate_left
  · intro w'; go_simp <;> with_reducible rfl
  try simp only [Act.put, List.setIfInBounds_toArray, List.set_cons_zero, List.set_cons_succ]
  refine ?st20
  exact AllReady.nil
  -- state 14: [0, 1, 2, 3, 4, 5, 6, 7, 8, 10, 11, 12, 13, 16, 18, 19]
  refine wpAny_ready (rs := [9, 17]) (by kernel_rfl) (by simp) ?_
  refine AllReady.cons rfl (fun K hK => ?_) ?_
  go_simp
  refine hK _ _ ?_
  clear hK K
  try simp only [Act.put, List.setIfInBounds_toArray, List.set_cons_zero, List.set_cons_succ]
  refine wpAny_take (i := 14) (oi := ⟨some 50, _, _, _, _, _⟩) (v := ?_) rfl (by kernel_rfl) (by kernel_rfl) (by kernel_rfl) (fun _ _ _ h => h) (Or.inl ⟨by kernel_rfl, ?_⟩) ?_
  rotate_left
  · intro w'; go_simp <;> with_reducible rfl
  try simp only [Act.put, List.setIfInBounds_toArray, List.set_cons_zero, List.set_cons_succ]
  refine ?st19
  refine AllReady.cons rfl (fun K hK => ?_) ?_
  go_simp
  refine hK _ _ ?_
  clear hK K
  try simp only [Act.put, List.setIfInBounds_toArray, List.set_cons_zero, List.set_cons_succ]
  refine ?st21
  rotate_left
  exact AllReady.nil
  -- state 15: [0, 1, 2, 3, 4, 5, 6, 7, 8, 10, 11, 12, 16, 17, 18, 19]
  refine wpAny_ready (rs := [9, 13]) (by kernel_rfl) (by simp) ?_
  refine AllReady.cons rfl (fun K hK => ?_) ?_
  go_simp
  refine hK _ _ ?_
  clear hK K
  try simp only [Act.put, List.setIfInBounds_toArray, List.set_cons_zero, List.set_cons_succ]
  refine ?st20
  refine AllReady.cons rfl (fun K hK => ?_) ?_
  go_simp
  refine hK _ _ ?_
  clear hK K
  try simp only [Act.put, List.setIfInBounds_toArray, List.set_cons_zero, List.set_cons_succ]
  refine ?st21
  exact AllReady.nil
  -- state 16: [0, 1, 2, 3, 5, 6, 7, 8, 9, 10, 11, 12, 13, 14, 16, 18, 19]
  refine wpAny_ready (rs := [4, 15, 17]) (by kernel_rfl) (by simp) ?_
  refine AllReady.cons rfl (fun K hK => ?_) ?_
  go_simp
  refine hK _ _ ?_
  clear hK K
  try simp only [Act.put, List.setIfInBounds_toArray, List.set_cons_zero, List.set_cons_succ]
  refine ?st19
  refine AllReady.cons rfl (fun K hK => ?_) ?_
  go_simp
  refine hK _ _ ?_
  clear hK K
  try simp only [Act.put, List.setIfInBounds_toArray, List.set_cons_zero, List.set_cons_succ]
  refine ?st22
  rotate_left
  refine AllReady.cons rfl (fun K hK => ?_) ?_
  go_simp
  refine hK _ _ ?_
  clear hK K
  try simp only [Act.put, List.setIfInBounds_toArray, List.set_cons_zero, List.set_cons_succ]
  refine ?st23
  rotate_left
  exact AllReady.nil
  -- state 17: [0, 1, 2, 3, 5, 6, 7, 8, 9, 10, 11, 12, 16, 17, 18, 19]
  refine wpAny_ready (rs := [4, 13]) (by kernel_rfl) (by simp) ?_
  refine AllReady.cons rfl (fun K hK => ?_) ?_
  go_simp
  refine hK _ _ ?_
  clear hK K
  try simp only [Act.put, List.setIfInBounds_toArray, List.set_cons_zero, List.set_cons_succ]
  refine ?st20
  refine AllReady.cons rfl (fun K hK => ?_) ?_
  go_simp
  refine hK _ _ ?_
  clear hK K
  try simp only [Act.put, List.setIfInBounds_toArray, List.set_cons_zero, List.set_cons_succ]
  refine wpAny_take (i := 14) (oi := ⟨some 50, _, _, _, _, _⟩) (v := ?_) rfl (by kernel_rfl) (by kernel_rfl) (by kernel_rfl) (fun _ _ _ h => h) (Or.inl ⟨by kernel_rfl, ?_⟩) ?_
  rotate_left
  · intro w'; go_simp <;> with_reducible rfl
  try simp only [Act.put, List.setIfInBounds_toArray, List.set_cons_zero, List.set_cons_succ]
  refine ?st23
  exact AllReady.nil
  -- state 18: [0, 1, 2, 3, 5, 6, 7, 8, 10, 11, 12, 13, 16, 17, 18, 19]
  refine wpAny_ready (rs := [4, 9]) (by kernel_rfl) (by simp) ?_
  refine AllReady.cons rfl (fun K hK => ?_) ?_
  go_simp
  refine hK _ _ ?_
  clear hK K
  try simp only [Act.put, List.setIfInBounds_toArray, List.set_cons_zero, List.set_cons_succ]
  refine ?st21
  refine AllReady.cons rfl (fun K hK => ?_) ?_
  go_simp
  refine hK _ _ ?_
  clear hK K
  try simp only [Act.put, List.setIfInBounds_toArray, List.set_cons_zero, List.set_cons_succ]
  refine wpAny_take (i := 14) (oi := ⟨some 50, _, _, _, _, _⟩) (v := ?_) rfl (by kernel_rfl) (by kernel_rfl) (by kernel_rfl) (fun _ _ _ h => h) (Or.inl ⟨by kernel_rfl, ?_⟩) ?_
  rotate_left
  · intro w'; go_simp <;> with_reducible rfl
  try simp only [Act.put, List.setIfInBounds_toArray, List.set_cons_zero, List.set_cons_succ]
  refine ?st23
  exact AllReady.nil
  -- state 19: [0, 1, 2, 3, 4, 5, 6, 7, 8, 9, 10, 11, 12, 13, 14, 16, 18, 19]
  refine wpAny_ready (rs := [15, 17]) (by kernel_rfl) (by simp) ?_
  refine AllReady.cons rfl (fun K hK => ?_) ?_
  go_simp
  refine hK _ _ ?_
  clear hK K
  try simp only [Act.put, List.setIfInBounds_toArray, List.set_cons_zero, List.set_cons_succ]
  refine ?st24
  rotate_left
  refine AllReady.cons rfl (fun K hK => ?_) ?_
  go_simp
  refine hK _ _ ?_
  clear hK K
  try simp only [Act.put, List.setIfInBounds_toArray, List.set_cons_zero, List.set_cons_succ]
  refine ?st25
  rotate_left
  exact AllReady.nil
  -- state 20: [0, 1, 2, 3, 4, 5, 6, 7, 8, 9, 10, 11, 12, 16, 17, 18, 19]
  refine wpAny_ready (rs := [13]) (by kernel_rfl) (by simp) ?_
  refine AllReady.cons rfl (fun K hK => ?_) ?_
  go_simp
  refine hK _ _ ?_
  clear hK K
  try simp only [Act.put, List.setIfInBounds_toArray, List.set_cons_zero, List.set_cons_succ]
  refine wpAny_take (i := 14) (oi := ⟨some 50, _, _, _, _, _⟩) (v := ?_) rfl (by kernel_rfl) (by kernel_rfl) (by kernel_rfl) (fun _ _ _ h => h) (Or.inl ⟨by kernel_rfl, ?_⟩) ?_
  rotate_left
  · intro w'; go_simp <;> with_reducible rfl
  try simp only [Act.put, List.setIfInBounds_toArray, List.set_cons_zero, List.set_cons_succ]
  refine ?st25
  exact AllReady.nil
  -- state 21: [0, 1, 2, 3, 4, 5, 6, 7, 8, 10, 11, 12, 13, 16, 17, 18, 19]
  refine wpAny_ready (rs := [9]) (by kernel_rfl) (by simp) ?_
  refine AllReady.cons rfl (fun K hK => ?_) ?_
  go_simp
  refine hK _ _ ?_
  clear hK K
  try simp only [Act.put, List.setIfInBounds_toArray, List.set_cons_zero, List.set_cons_succ]
  refine wpAny_take (i := 14) (oi := ⟨some 50, _, _, _, _, _⟩) (v := ?_) rfl (by kernel_rfl) (by kernel_rfl) (by kernel_rfl) (fun _ _ _ h => h) (Or.inl ⟨by kernel_rfl, ?_⟩) ?_
  rotate_left
  · intro w'; go_simp <;> with_reducible rfl
  try simp only [Act.put, List.setIfInBounds_toArray, List.set_cons_zero, List.set_cons_succ]
  refine ?st25
  exact AllReady.nil
  -- state 22: [0, 1, 2, 3, 5, 6, 7, 8, 9, 10, 11, 12, 13, 14, 15, 16, 18, 19]
  refine wpAny_ready (rs := [4, 17]) (by kernel_rfl) (by simp) ?_
  refine AllReady.cons rfl (fun K hK => ?_) ?_
  go_simp
  refine hK _ _ ?_
  clear hK K
  try simp only [Act.put, List.setIfInBounds_toArray, List.set_cons_zero, List.set_cons_succ]
  refine ?st24
  refine AllReady.cons rfl (fun K hK => ?_) ?_
  go_simp
  refine hK _ _ ?_
  clear hK K
  try simp only [Act.put, List.setIfInBounds_toArray, List.set_cons_zero, List.set_cons_succ]
  refine wpAny_take (i := 20) (oi := ⟨some 56, _, _, _, _, _⟩) (v := ?_) rfl (by kernel_rfl) (by kernel_rfl) (by kernel_rfl) (fun _ _ _ h => h) (Or.inl ⟨by kernel_rfl, ?_⟩) ?_
  rotate_left
  · intro w'; go_simp <;> with_reducible rfl
  try simp only [Act.put, List.setIfInBounds_toArray, List.set_cons_zero, List.set_cons_succ]
  refine ?st26
  rotate_left
  exact AllReady.nil
  -- state 23: [0, 1, 2, 3, 5, 6, 7, 8, 9, 10, 11, 12, 13, 14, 16, 17, 18, 19]
  refine wpAny_ready (rs := [4, 15]) (by kernel_rfl) (by simp) ?_
  refine AllReady.cons rfl (fun K hK => ?_) ?_
  go_simp
  refine hK _ _ ?_
  clear hK K
  try simp only [Act.put, List.setIfInBounds_toArray, List.set_cons_zero, List.set_cons_succ]
  refine ?st25
  refine AllReady.cons rfl (fun K hK => ?_) ?_
  go_simp
  refine hK _ _ ?_
  clear hK K
  try simp only [Act.put, List.setIfInBounds_toArray, List.set_cons_zero, List.set_cons_succ]
  refine wpAny_take (i := 20) (oi := ⟨some 56, _, _, _, _, _⟩) (v := ?_) rfl (by kernel_rfl) (by kernel_rfl) (by kernel_rfl) (fun _ _ _ h => h) (Or.inl ⟨by kernel_rfl, ?_⟩) ?_
  rotate_left
  · intro w'; go_simp <;> with_reducible rfl
  try simp only [Act.put, List.setIfInBounds_toArray, List.set_cons_zero, List.set_cons_succ]
  refine ?st26
  exact AllReady.nil
  -- state 24: [0, 1, 2, 3, 4, 5, 6, 7, 8, 9, 10, 11, 12, 13, 14, 15, 16, 18, 19]
  refine wpAny_ready (rs := [17]) (by kernel_rfl) (by simp) ?_
  refine AllReady.cons rfl (fun K hK => ?_) ?_
  go_simp
  refine hK _ _ ?_
  clear hK K
  try simp only [Act.put, List.setIfInBounds_toArray, List.set_cons_zero, List.set_cons_succ]
  refine wpAny_take (i := 20) (oi := ⟨some 56, _, _, _, _, _⟩) (v := ?_) rfl (by kernel_rfl) (by kernel_rfl) (by kernel_rfl) (fun _ _ _ h => h) (Or.inl ⟨by kernel_rfl, ?_⟩) ?_
  rotate_left
  · intro w'; go_simp <;> with_reducible rfl
  try simp only [Act.put, List.setIfInBounds_toArray, List.set_cons_zero, List.set_cons_succ]
  refine ?st27
  rotate_left
  exact AllReady.nil
  -- state 25: [0, 1, 2, 3, 4, 5, 6, 7, 8, 9, 10, 11, 12, 13, 14, 16, 17, 18, 19]
  refine wpAny_ready (rs := [15]) (by kernel_rfl) (by simp) ?_
  refine AllReady.cons rfl (fun K hK => ?_) ?_
  go_simp
  refine hK _ _ ?_
  clear hK K
  try simp only [Act.put, List.setIfInBounds_toArray, List.set_cons_zero, List.set_cons_succ]
  refine wpAny_take (i := 20) (oi := ⟨some 56, _, _, _, _, _⟩) (v := ?_) rfl (by kernel_rfl) (by kernel_rfl) (by kernel_rfl) (fun _ _ _ h => h) (Or.inl ⟨by kernel_rfl, ?_⟩) ?_
  rotate_left
  · intro w'; go_simp <;> with_reducible rfl
  try simp only [Act.put, List.setIfInBounds_toArray, List.set_cons_zero, List.set_cons_succ]
  refine ?st27
  exact AllReady.nil
  -- state 26: [0, 1, 2, 3, 5, 6, 7, 8, 9, 10, 11, 12, 13, 14, 15, 16, 17, 18, 19, 20]
  refine wpAny_ready (rs := [4, 21]) (by kernel_rfl) (by simp) ?_
  refine AllReady.cons rfl (fun K hK => ?_) ?_
  go_simp
  refine hK _ _ ?_
  clear hK K
  try simp only [Act.put, List.setIfInBounds_toArray, List.set_cons_zero, List.set_cons_succ]
  refine ?st27
  refine AllReady.cons rfl (fun K hK => ?_) ?_
  go_simp
  refine hK _ _ ?_
  clear hK K
  try simp only [Act.put, List.setIfInBounds_toArray, List.set_cons_zero, List.set_cons_succ]
  refine ?st28
  rotate_left
  exact AllReady.nil
  -- state 27: [0, 1, 2, 3, 4, 5, 6, 7, 8, 9, 10, 11, 12, 13, 14, 15, 16, 17, 18, 19, 20]
  refine wpAny_ready (rs := [21]) (by kernel_rfl) (by simp) ?_
  refine AllReady.cons rfl (fun K hK => ?_) ?_
  go_simp
  refine hK _ _ ?_
  clear hK K
  try simp only [Act.put, List.setIfInBounds_toArray, List.set_cons_zero, List.set_cons_succ]
  refine ?st29
  rotate_left
  exact AllReady.nil
  -- state 28: [0, 1, 2, 3, 5, 6, 7, 8, 9, 10, 11, 12, 13, 14, 15, 16, 17, 18, 19, 20, 21]
  refine wpAny_ready (rs := [4]) (by kernel_rfl) (by simp) ?_
  refine AllReady.cons rfl (fun K hK => ?_) ?_
  go_simp
  refine hK _ _ ?_
  clear hK K
  try simp only [Act.put, List.setIfInBounds_toArray, List.set_cons_zero, List.set_cons_succ]
  refine ?st29
  exact AllReady.nil
  -- state 29: [0, 1, 2, 3, 4, 5, 6, 7, 8, 9, 10, 11, 12, 13, 14, 15, 16, 17, 18, 19, 20, 21]
  refine wpAny_ready (rs := [22]) (by kernel_rfl) (by simp) ?_
  refine AllReady.cons rfl (fun K hK => ?_) ?_
  refine step_app rfl _ _ 68 rfl (.slice none 0 0) (.slice (some ⟨Xb.heap.size, 0, none⟩) 1 1) (.slice (some ⟨g9, 0, none⟩) 1 c9) W9 (by simp [Act.eval, Act.put]) (by simp [Act.eval, Act.put]) (hrun _) ?_
  refine hK _ _ ?_
  clear hK K
  try simp only [Act.put, List.setIfInBounds_toArray, List.set_cons_zero, List.set_cons_succ]
  refine wpAny_take (i := 23) (oi := ⟨some 59, _, _, _, _, _⟩) (v := ?_) rfl (by kernel_rfl) (by kernel_rfl) (by kernel_rfl) (fun _ _ _ h => h) (Or.inl ⟨by kernel_rfl, ?_⟩) ?_
  rotate_left
  · intro w'; go_simp <;> with_reducible rfl
  try simp only [Act.put, List.setIfInBounds_toArray, List.set_cons_zero, List.set_cons_succ]
  refine wpAny_take (i := 24) (oi := ⟨some 60, _, _, _, _, _⟩) (v := ?_) rfl (by kernel_rfl) (by kernel_rfl) (by kernel_rfl) (fun _ _ _ h => h) (Or.inl ⟨by kernel_rfl, ?_⟩) ?_
  rotate_left
  · intro w'; go_simp <;> with_reducible rfl
  try simp only [Act.put, List.setIfInBounds_toArray, List.set_cons_zero, List.set_cons_succ]
  refine ?st30
  rotate_left
  exact AllReady.nil
  -- state 30: [0, 1, 2, 3, 4, 5, 6, 7, 8, 9, 10, 11, 12, 13, 14, 15, 16, 17, 18, 19, 20, 21, 22, 23, 24]
  refine wpAny_ready (rs := [25]) (by kernel_rfl) (by simp) ?_
  refine AllReady.cons rfl (fun K hK => ?_) ?_
  go_simp
  refine hK _ _ ?_
  clear hK K
  try simp only [Act.put, List.setIfInBounds_toArray, List.set_cons_zero, List.set_cons_succ]
  refine ?st31
  rotate_left
  exact AllReady.nil
  -- state 31: [0, 1, 2, 3, 4, 5, 6, 7, 8, 9, 10, 11, 12, 13, 14, 15, 16, 17, 18, 19, 20, 21, 22, 23, 24, 25]
  refine wpAny_done (by kernel_rfl) ?_ _
  go_wp2_with fail
  refine bodyPost_ret (v := .tuple #[]) (by simp [results, Tryz.results39, go_sem]) rfl ?_
  exact ⟨rfl, g9, c9, HE2.out.1, HE2.out.2.1, HE2.out.2.2⟩
end Go.Proofs.YtokepgnnepjiaaaGreat
