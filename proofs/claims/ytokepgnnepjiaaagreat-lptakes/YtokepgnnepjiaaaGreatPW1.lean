/- What does not change of process 1 is made. -/
import Derived.Test.YtokepgnnepjiaaaGreatGPf
namespace Go.Proofs.YtokepgnnepjiaaaGreat
set_option maxRecDepth 100000
open Go.RowKit Lg Nl Go.Maps
set_option linter.unusedVariables false
set_option linter.unusedSimpArgs false

/-- what does not change of process 1, as it was made from a world on -/
def FX1 (w : World) (h : Int) (F : Nat) (W : World) : Prop := ∃ bN cN bE cE bP bT cT bI ia ic, Fc1 h F bN cN bE cE bP bT cT bI ia ic W ∧ w.heap.size ≤ F ∧ w.heap.size ≤ bN ∧ w.heap.size ≤ bE ∧ w.heap.size ≤ bP ∧ w.heap.size ≤ bT ∧ w.heap.size ≤ bI
set_option maxHeartbeats 8000000 in
theorem newFixed1_c (NN I NT O M A B : Nat) (h : Int) (w : World) (hT : Tw NN I NT O M A B w) :
    Calls Tryz.prog 20 #[.agg #[.slice (some ⟨NN, 0, none⟩) 2 2, .slice (some ⟨NT, 0, none⟩) 2 2, .int .i64 2], .slice (some ⟨O, 0, none⟩) 2 2, .int .i64 1, .int .i64 h] w fun e w' => ∃ F, e = .returned (.pointer (some ⟨F, 0, none⟩)) ∧ Hid (FX1 w h F w') ∧ Below w.heap.size w w' := by
  have HT : Hid (Tw NN I NT O M A B w) := hT
  have lT : NN < w.heap.size ∧ I < w.heap.size ∧ NT < w.heap.size ∧ O < w.heap.size ∧ M < w.heap.size := ⟨World.block_lt_of_cell? w ⟨NN, 0, none⟩ hT.n00, World.block_lt_of_cell? w ⟨I, 0, none⟩ hT.i0, World.block_lt_of_cell? w ⟨NT, 0, none⟩ hT.t0, World.block_lt_of_cell? w ⟨O, 0, none⟩ hT.o0, World.block_lt_of_cell? w ⟨M, 0, none⟩ hT.m0⟩
  have HLT : Hid (NN < w.heap.size ∧ I < w.heap.size ∧ NT < w.heap.size ∧ O < w.heap.size ∧ M < w.heap.size) := lT
  clear hT lT
  have HR : Hid (Calls Tryz.prog 37 #[.slice (some ⟨w.heap.size + 1, 0, none⟩) 1 1, .int .i64 2] ((w.alloc (.cells #[.slice (some ⟨NN, 0, none⟩) 2 2, .slice (some ⟨NT, 0, none⟩) 2 2, .int .i64 2] 26)).alloc (.cells #[.int .i64 (-1)] 3)) fun e w' => ∃ P, e = .returned (.slice (some ⟨P, 0, none⟩) 2 2) ∧ Hid (w.heap.size + 1 + 1 ≤ P) ∧ Hid (w'.heap[P]? = some (.cells #[.int .i64 (-1), .int .i64 (-1)] 3 (0, 0))) ∧ Hid (w'.heap[w.heap.size]? = some (.cells #[.slice (some ⟨NN, 0, none⟩) 2 2, .slice (some ⟨NT, 0, none⟩) 2 2, .int .i64 2] 26 (0, 0))) ∧ Below w.heap.size w w') := by
    refine (repeat2_c (w.heap.size + 1) _ (by rw [Lib.cell_of_heap (alAt (by simp))]; rfl)).mono ?_
    rintro e w' ⟨rfl, hp, hb⟩
    refine ⟨_, rfl, (by show w.heap.size + 1 + 1 ≤ _; simp), hp, ?_, bel (belA (belA (Below.refl _ _) _) _) hb⟩
    exact (hb.block w.heap.size (by simp; omega)).trans ((alOld (by simp)).trans (alAt rfl))
  go_enter Tryz.func20, Tryz.ntmps20
  go_wp2_with (first
    | (go_at_call 37; refine HR.out.mono ?_; rintro e w1 ⟨P, rfl, HP0, HPB, HNB, hb1⟩; have HB1 : Hid (Below w.heap.size w w1) := hb1; obtain ⟨k0, k1, k2⟩ := cells3n HNB.out; have lNB := hLt HNB.out; clear hb1))
  have HF2 : Hid ((w1.alloc (.cells #[.int .i64 1, .int .i64 h, .slice none 0 0, .slice none 0 0, .slice (some ⟨P, 0, none⟩) 2 2, .slice none 0 0, .slice none 0 0, .slice none 0 0] 70)).heap[w1.heap.size]? = some (.cells #[.int .i64 1, .int .i64 h, .slice none 0 0, .slice none 0 0, .slice (some ⟨P, 0, none⟩) 2 2, .slice none 0 0, .slice none 0 0, .slice none 0 0] 70 (0, 0))) := alAt rfl
  have HP2 : Hid ((w1.alloc (.cells #[.int .i64 1, .int .i64 h, .slice none 0 0, .slice none 0 0, .slice (some ⟨P, 0, none⟩) 2 2, .slice none 0 0, .slice none 0 0, .slice none 0 0] 70)).heap[P]? = some (.cells #[.int .i64 (-1), .int .i64 (-1)] 3 (0, 0))) := (alOld (hLt HPB.out)).trans HPB.out
  have HR2 : Hid (Fr w NN I NT O M A B w.heap.size (w1.alloc (.cells #[.int .i64 1, .int .i64 h, .slice none 0 0, .slice none 0 0, .slice (some ⟨P, 0, none⟩) 2 2, .slice none 0 0, .slice none 0 0, .slice none 0 0] 70))) := ⟨HT.out.below (belA HB1.out _), (alOld lNB).trans HNB.out, belA HB1.out _⟩
  have HFP : Hid (w1.heap.size ≠ P ∧ w.heap.size ≤ w1.heap.size ∧ w.heap.size + 1 ≤ w1.heap.size) := by have h1 := hLt HPB.out; have h2 := HP0.out; have h3 := HB1.out.size; exact ⟨by omega, by omega, by omega⟩
  obtain ⟨W2, hW2⟩ : ∃ W2, W2 = w1.alloc (.cells #[.int .i64 1, .int .i64 h, .slice none 0 0, .slice none 0 0, .slice (some ⟨P, 0, none⟩) 2 2, .slice none 0 0, .slice none 0 0, .slice none 0 0] 70) := ⟨_, rfl⟩
  obtain ⟨F, hF⟩ : ∃ F, F = w1.heap.size := ⟨_, rfl⟩
  rw [← hW2] at HF2 HP2 HR2
  rw [← hF] at HF2 HFP
  rw [← hW2, ← hF]
  clear hW2 hF HPB HNB HB1 k0 k1 k2 lNB HR
  refine (byLevels_c _ _ _ _ W2 HR2.out.tw.nds HR2.out.tw.nets).mono ?_
  rintro e w4 ⟨Ls, rfl, HLs, q0, q1, hb4⟩
  have HF4 : Hid (w4.heap[F]? = some (.cells #[.int .i64 1, .int .i64 h, .slice none 0 0, .slice none 0 0, .slice (some ⟨P, 0, none⟩) 2 2, .slice none 0 0, .slice none 0 0, .slice none 0 0] 70 (0, 0))) := (hb4.block F (hLt HF2.out)).trans HF2.out
  have HP4 : Hid (w4.heap[P]? = some (.cells #[.int .i64 (-1), .int .i64 (-1)] 3 (0, 0))) := (hb4.block P (hLt HP2.out)).trans HP2.out
  have HR4 : Hid (Fr w NN I NT O M A B w.heap.size w4) := ⟨HR2.out.tw.below hb4, (hb4.block _ (hLt HR2.out.nb)).trans HR2.out.nb, bel HR2.out.bl hb4⟩
  have HQ : Hid (w4.cell? ⟨Ls, 0, none⟩ = some (.int .i64 0) ∧ w4.cell? ⟨Ls, 1, none⟩ = some (.int .i64 1) ∧ F < Ls ∧ P < Ls ∧ w.heap.size < Ls ∧ Ls < w4.heap.size) := ⟨q0, q1, by have h1 := hLt HF2.out; have h2 := HLs.out; omega, by have h1 := hLt HP2.out; have h2 := HLs.out; omega, by have h1 := hLt HF2.out; have h2 := HLs.out; have h3 := HFP.out; omega, World.block_lt_of_cell? w4 ⟨Ls, 0, none⟩ q0⟩
  clear HF2 HP2 HR2 q0 q1 hb4 HLs
  go_wp2_with fail
  go_loopw [27] (fun s27 W => ∃ (i : Int), (i = 0 ∨ i = 1 ∨ i = 2) ∧ s27 = .int .i64 i ∧ Hid (i ≤ 1 → W = w4) ∧ Hid (1 < i → ∃ bN cN bE cE, N1 (w.heap.size + 1) 1 h F P bN cN bE cE (-1) 0 8 2 (some ⟨I, 0, none⟩) 1 1 1 none 0 0 none 0 0 W ∧ Fr w NN I NT O M A B w.heap.size W ∧ W.cell? ⟨Ls, 0, none⟩ = some (.int .i64 0) ∧ W.cell? ⟨Ls, 1, none⟩ = some (.int .i64 1) ∧ w4.heap.size ≤ W.heap.size)) (fun s27 W => 2 - (intOf s27).toNat)
  case atStart => exact ⟨0, Or.inl rfl, rfl, fun _ => rfl, fun h => absurd h (by decide)⟩
  case round =>
    obtain ⟨i, hi, rfl, H0, H1⟩ := hrel
    rcases hi with rfl | rfl | rfl
    · obtain rfl : wr = w4 := H0.out (by decide)
      clear H0 H1
      have l0 := HQ.out.1
      have o0 := HR4.out.tw.o0
      have lL := HQ.out.2.2.2.2.2
      go_wp2_with fail
      go_roundw
      case rel => exact ⟨1, by omega, rfl, fun _ => by first | exact rfl | exact True.intro, fun h => absurd h (by decide)⟩
      case measure => simp [intOf]
    · obtain rfl : wr = w4 := H0.out (by decide)
      clear H0 H1
      have l0 := HQ.out.2.1
      have o0 := HR4.out.tw.o1
      have lL := HQ.out.2.2.2.2.2
      obtain ⟨f0, f1, f2, f3, f4, f5, f6, f7⟩ := cells8 HF4.out
      have pc : wr.cell? ⟨P, 1, none⟩ = some (.int .i64 (-1)) := by rw [Lib.cell_of_heap HP4.out]; rfl
      have pf : wr.frozen? ⟨P, 1, none⟩ = false := by simp [World.frozen?, HP4.out]
      have lF := hLt HF4.out
      have lP := hLt HP4.out
      have nFP := HFP.out.1
      go_wp2_with fail
      go_region
      have st0 : ∀ b, b ≠ P → ((wr.setCell ⟨P, 1, none⟩ (.int .i64 0)).drew).heap[b]? = wr.heap[b]? := fun b hb => Q.set1_block hb
      have HXP : Hid (((wr.setCell ⟨P, 1, none⟩ (.int .i64 0)).drew).heap[P]? = some (.cells #[.int .i64 (-1), .int .i64 0] 3 (0, 0))) := heap_setCell_same wr P 1 _ _ _ HP4.out
      have HXF : Hid (((wr.setCell ⟨P, 1, none⟩ (.int .i64 0)).drew).heap[F]? = some (.cells #[.int .i64 1, .int .i64 h, .slice none 0 0, .slice none 0 0, .slice (some ⟨P, 0, none⟩) 2 2, .slice none 0 0, .slice none 0 0, .slice none 0 0] 70 (0, 0))) := (st0 F nFP).trans HF4.out
      have HXB : Hid (Below w.heap.size w ((wr.setCell ⟨P, 1, none⟩ (.int .i64 0)).drew)) := (belSet HR4.out.bl (by have := HP0.out; omega)).drew
      have HXR : Hid (Fr w NN I NT O M A B w.heap.size ((wr.setCell ⟨P, 1, none⟩ (.int .i64 0)).drew)) := HR4.out.mv HT.out (st0 _ (by have := HP0.out; omega)) HXB.out
      have HXL : Hid (((wr.setCell ⟨P, 1, none⟩ (.int .i64 0)).drew).cell? ⟨Ls, 0, none⟩ = some (.int .i64 0) ∧ ((wr.setCell ⟨P, 1, none⟩ (.int .i64 0)).drew).cell? ⟨Ls, 1, none⟩ = some (.int .i64 1)) := ⟨(cellE (st0 Ls (by have := HQ.out.2.2.2.1; omega))).trans HQ.out.1, (cellE (st0 Ls (by have := HQ.out.2.2.2.1; omega))).trans HQ.out.2.1⟩
      have HXs : Hid (((wr.setCell ⟨P, 1, none⟩ (.int .i64 0)).drew).heap.size = wr.heap.size) := Q.set1_size
      obtain ⟨X1, hX1⟩ : ∃ X1, X1 = (wr.setCell ⟨P, 1, none⟩ (.int .i64 0)).drew := ⟨_, rfl⟩
      rw [← hX1] at HXP HXF HXB HXR HXL HXs ⊢
      clear hX1 st0 f0 f1 f2 f3 f4 f5 f6 f7 pc pf l0 o0 lL lF lP
      have lX := hLt HXF.out
      have hBs : X1.heap.size ≤ ((X1.alloc (.cells #[.int .i64 8, .int .i64 0, .int .i64 1, .slice (some ⟨I, 0, none⟩) 1 1, .string ⟨#[]⟩, .int .i64 0, .int .i64 0, .int .i64 2] 61)).drew).heap.size := by simp [World.drew]
      obtain ⟨g9, c9, W9, hrun, HO9, HG9, HL9⟩ := appX8 infoNd8 Tryz.underlying23 rfl (by decide) (World.ownsRow_nil (X1.alloc (.cells #[.int .i64 8, .int .i64 0, .int .i64 1, .slice (some ⟨I, 0, none⟩) 1 1, .string ⟨#[]⟩, .int .i64 0, .int .i64 0, .int .i64 2] 61)).drew X1.heap.size 61 8) X1.heap.size (news := [.int .i64 8, .int .i64 0, .int .i64 1, .slice (some ⟨I, 0, none⟩) 1 1, .string ⟨#[]⟩, .int .i64 0, .int .i64 0, .int .i64 2]) rfl (fun j u hj => new8 X1 _ _ _ _ _ _ _ _ _ _ rfl j u hj) (by intro u hu; simp at hu; rcases hu with rfl | rfl | rfl | rfl | rfl | rfl | rfl | rfl <;> rfl) (by omega) (by decide) hBs
      have HK9 : Hid (∀ b, b < X1.heap.size → W9.heap[b]? = X1.heap[b]?) := fun b hb => (HG9.out.block b (by simp [World.drew]; omega) (by simp [Value.ownBlock])).trans (alOld hb)
      have HB9 : Hid (Below w.heap.size w W9) := belG (belA HXB.out _).drew HG9.out (by simp [Value.ownBlock])
      obtain ⟨f0, f1, f2, f3, f4, f5, f6, f7⟩ := cells8 HXF.out
      obtain ⟨k0, k1, k2⟩ := cells3n HXR.out.nb
      have lNB := hLt HXR.out.nb
      obtain ⟨m0, m1, m2, m3, m4, m5, m6, m7⟩ := (⟨HXR.out.tw.n10, HXR.out.tw.n11, HXR.out.tw.n12, HXR.out.tw.n13, HXR.out.tw.n14, HXR.out.tw.n15, HXR.out.tw.n16, HXR.out.tw.n17⟩ : _ ∧ _ ∧ _ ∧ _ ∧ _ ∧ _ ∧ _ ∧ _)
      have lNN := World.block_lt_of_cell? X1 ⟨NN, 0, none⟩ HXR.out.tw.n00
      have hF9 := (HK9.out F lX).trans HXF.out
      have y2 := (cells8 hF9).2.2.1
      have y2f : W9.frozen? ⟨F, 2, none⟩ = false := by simp [World.frozen?, hF9]
      have lF9 := hLt hF9
      have HW9F : Hid ((W9.setCell ⟨F, 2, none⟩ (.slice (some ⟨g9, 0, none⟩) 1 c9)).heap[F]? = some (.cells #[.int .i64 1, .int .i64 h, .slice (some ⟨g9, 0, none⟩) 1 c9, .slice none 0 0, .slice (some ⟨P, 0, none⟩) 2 2, .slice none 0 0, .slice none 0 0, .slice none 0 0] 70 (0, 0))) := heap_setCell_same W9 F 2 _ _ _ hF9
      have HB9' : Hid (Below w.heap.size w (W9.setCell ⟨F, 2, none⟩ (.slice (some ⟨g9, 0, none⟩) 1 c9))) := belSet HB9.out HFP.out.2.1
      have HS9 : Hid (∀ b, b ≠ F → (W9.setCell ⟨F, 2, none⟩ (.slice (some ⟨g9, 0, none⟩) 1 c9)).heap[b]? = W9.heap[b]?) := fun b hb => Q.set1_block hb
      have HSz : Hid ((W9.setCell ⟨F, 2, none⟩ (.slice (some ⟨g9, 0, none⟩) 1 c9)).heap.size = W9.heap.size) := Q.set1_size
      clear hF9 hBs
      go_wp2_with fail
      go_region_law (refine step_app rfl _ _ 23 rfl (.slice none 0 0) (.slice (some ⟨X1.heap.size, 0, none⟩) 1 1) (.slice (some ⟨g9, 0, none⟩) 1 c9) W9 (by simp [Act.eval, Act.put]) (by simp [Act.eval, Act.put]) (hrun _) ?_)
      all_goals
        clear f0 f1 f2 f3 f4 f5 f6 f7 k0 k1 k2 lNB m0 m1 m2 m3 m4 m5 m6 m7 lNN y2 y2f lF9 hrun
        obtain ⟨V, hV⟩ : ∃ V, V = W9.setCell ⟨F, 2, none⟩ (.slice (some ⟨g9, 0, none⟩) 1 c9) := ⟨_, rfl⟩
        rw [← hV] at HW9F HB9' HS9 HSz ⊢
        clear hV
        obtain ⟨f0, f1, f2, f3, f4, f5, f6, f7⟩ := cells8 HW9F.out
        have lV := hLt HW9F.out
        obtain ⟨j, hj⟩ := infoInt
        have HJ : Hid (Tryz.prog.info? 3 = some j ∧ j.zero = some (.int .i64 0) ∧ j.size = 1 ∧ j.bytes = 8) := hj
        clear hj
        go_wp2_with (first
          | (at_builtin; refine wpList_append_own_at _ rfl _ _ 24 rfl V.heap.size 3 j _ 1 8 Tryz.underlying24 HJ.out.1 HJ.out.2.1 HJ.out.2.2.1 HJ.out.2.2.2 rfl (by decide) _ 0 [] rfl (World.ownsRow_nil _ _ _ _) ⟨V.heap.size, 0, none⟩ 1 1 [.int .i64 1] rfl rfl (fun j u hj => new1i V _ _ _ rfl j u hj) (by intro u hu; simp at hu; subst hu; rfl) (by unfold maxLen; omega) (by omega) (by simp) ?_; intro v9 w9 hown9 hgrow9 hnil9 hloc9; obtain ⟨gE, cE, rfl⟩ := own_slice1 hown9; have HO10 : Hid (w9.ownsRow V.heap.size 3 1 (.slice (some ⟨gE, 0, none⟩) 1 cE) 1 [.int .i64 1]) := hown9; have HK10 : Hid (∀ b, b < V.heap.size → w9.heap[b]? = V.heap[b]?) := (fun b hb => (hgrow9.block b (by simp; omega) (by simp [Act.eval, Value.ownBlock])).trans (alOld hb)); have HB10 : Hid (Below w.heap.size w w9) := belG (belA HB9'.out _) hgrow9 (by simp [Act.eval, Value.ownBlock]); clear hown9 hgrow9 hnil9 hloc9; have hF10 := (HK10.out F lV).trans HW9F.out; have y3 := (cells8 hF10).2.2.2.1; have y3f : w9.frozen? ⟨F, 3, none⟩ = false := (by simp [World.frozen?, hF10]); have l10 := hLt hF10; have HF10 : Hid (w9.heap[F]? = some (.cells #[.int .i64 1, .int .i64 h, .slice (some ⟨g9, 0, none⟩) 1 c9, .slice none 0 0, .slice (some ⟨P, 0, none⟩) 2 2, .slice none 0 0, .slice none 0 0, .slice none 0 0] 70 (0, 0))) := hF10; clear hF10))
        go_roundw
        case rel =>
          refine ⟨2, by omega, rfl, fun h => absurd h (by decide), fun _ => ⟨g9, c9, gE, cE, ?_⟩⟩
          have sF : ∀ b, b ≠ F → (w9.setCell ⟨F, 3, none⟩ (.slice (some ⟨gE, 0, none⟩) 1 cE)).heap[b]? = w9.heap[b]? := fun b hb => Q.set1_block hb
          have hg9 := World.ownsRow.lt HO9.out g9 rfl
          have hgE := World.ownsRow.lt HO10.out gE rfl
          have hs9 := HSz.out
          have lX' := hLt HXF.out
          have hXs := HXs.out
          have lP := hLt HXP.out
          have t9 : ∀ b, b < W9.heap.size → b ≠ F → (w9.setCell ⟨F, 3, none⟩ (.slice (some ⟨gE, 0, none⟩) 1 cE)).heap[b]? = W9.heap[b]? := fun b hb hne => (sF b hne).trans ((HK10.out b (by omega)).trans (HS9.out b hne))
          have tX : ∀ b, b < X1.heap.size → b ≠ F → (w9.setCell ⟨F, 3, none⟩ (.slice (some ⟨gE, 0, none⟩) 1 cE)).heap[b]? = X1.heap[b]? := fun b hb hne => (t9 b (by omega) hne).trans (HK9.out b hb)
          have hbl : Below w.heap.size w (w9.setCell ⟨F, 3, none⟩ (.slice (some ⟨gE, 0, none⟩) 1 cE)) := belSet HB10.out HFP.out.2.1
          have hlq := HQ.out
          have hn9 := t9 g9 hg9.2 (by omega)
          refine ⟨⟨heap_setCell_same w9 F 3 _ _ _ HF10.out, (tX P lP (Ne.symm nFP)).trans HXP.out, ?_, ?_, ?_, ?_, ?_, ?_, ?_, ?_, ?_, ?_, ?_, ⟨HFP.out.2.2, by have := HP0.out; omega, by have := HXB.out.size; omega, by have := HB9'.out.size; omega⟩, ⟨nFP, by omega, by omega, by omega, by omega, by omega⟩⟩, HXR.out.mv HT.out (tX _ (by have := hLt HXR.out.nb; omega) (by have := HFP.out.2.2; omega)) hbl, ?_, ?_, ?_⟩
          · rw [cellE hn9, HO9.out.cellAt 0 (by omega)]; rfl
          · rw [cellE hn9, HO9.out.cellAt 1 (by omega)]; rfl
          · rw [cellE hn9, HO9.out.cellAt 2 (by omega)]; rfl
          · rw [cellE hn9, HO9.out.cellAt 3 (by omega)]; rfl
          · rw [cellE hn9, HO9.out.cellAt 4 (by omega)]; rfl
          · rw [cellE hn9, HO9.out.cellAt 5 (by omega)]; rfl
          · rw [cellE hn9, HO9.out.cellAt 6 (by omega)]; rfl
          · rw [cellE hn9, HO9.out.cellAt 7 (by omega)]; rfl
          · rw [frozE hn9]; exact HO9.out.frozenAt 3
          · rw [cellE (sF gE (by omega)), HO10.out.cellAt 0 (by omega)]; rfl
          · rw [frozE (sF gE (by omega))]; exact HO10.out.frozenAt 0
          · exact (cellE (tX Ls (by omega) (by omega))).trans HXL.out.1
          · exact (cellE (tX Ls (by omega) (by omega))).trans HXL.out.2
          · rw [Q.set1_size]; omega
        case measure => simp [intOf]
    · obtain ⟨bN, cN, bE, cE, hN, hR, _, _, _⟩ := H1.out (by decide)
      obtain ⟨k0, k1, k2⟩ := cells3n hR.nb
      have lNB := hLt hR.nb
      clear H0 H1 HF4 HP4 HR4 HQ
      go_wp2_with fail
      go_loopw [76] (fun s76 W => ∃ (i : Int) (ia : Option Addr) (im ic : Nat) (ez : Int), (i = 0 ∨ i = 1 ∨ i = 2) ∧ s76 = .int .i64 i ∧ Hid (N1 (w.heap.size + 1) 1 h F P bN cN bE cE (-1) 0 8 2 ia im ic ez none 0 0 none 0 0 W) ∧ Hid (Fr w NN I NT O M A B w.heap.size W) ∧ Hid (i = 2 → im = 0 ∧ ez = 0)) (fun s76 W => 2 - (intOf s76).toNat)
      case atStart => exact ⟨0, _, _, _, _, Or.inl rfl, rfl, hN, hR, fun h => absurd h (by decide)⟩
      case round =>
        obtain ⟨i, ia, im, ic, ez, hi, rfl, HN, HR, HI⟩ := hrel
        clear hN hR k0 k1 k2 lNB
        obtain ⟨k0, k1, k2⟩ := cells3n HR.out.nb
        have lNB := hLt HR.out.nb
        have a0 := HR.out.tw.n00
        have a1 := HR.out.tw.n01
        have a2 := HR.out.tw.n02
        have a3 := HR.out.tw.n03
        have a4 := HR.out.tw.n04
        have a5 := HR.out.tw.n05
        have a6 := HR.out.tw.n06
        have a7 := HR.out.tw.n07
        have b0 := HR.out.tw.n10
        have b1 := HR.out.tw.n11
        have b2 := HR.out.tw.n12
        have b3 := HR.out.tw.n13
        have b4 := HR.out.tw.n14
        have b5 := HR.out.tw.n15
        have b6 := HR.out.tw.n16
        have b7 := HR.out.tw.n17
        have lNN := World.block_lt_of_cell? wr ⟨NN, 0, none⟩ a0
        rcases hi with rfl | rfl | rfl
        · go_wp2_with (first
            | (go_at_call 39; refine (join10_c (w.heap.size + 1) F P bN cN bE cE O I h 8 2 ia im ic ez none 0 0 none 0 0 wr HN.out).mono ?_; rintro e w5 ⟨rfl, hb5⟩))
          go_roundw
          case rel => exact ⟨1, ia, im, ic, ez, by omega, rfl, HN.out.below hb5, HR.out.mv HT.out (hb5.block _ (hLt HR.out.nb)) (bel HR.out.bl hb5), fun h => absurd h (by decide)⟩
          case measure => simp [intOf]
        · go_wp2_with (first
            | (go_at_call 39; refine (join11_c (w.heap.size + 1) F P bN cN bE cE O I h 8 2 ia im ic ez none 0 0 none 0 0 wr HN.out HR.out.tw.o0 HR.out.tw.i0 (by have := HLT.out.2.2.2.1; omega) (by have := HLT.out.2.1; omega)).mono ?_; rintro e w5 ⟨rfl, ia', ic', HN5, hb5⟩))
          go_roundw
          case rel => exact ⟨2, ia', 0, ic', 0, by omega, rfl, HN5.out, HR.out.mv HT.out (hb5.out.block _ (by omega)) (belJ HR.out.bl hb5.out (by omega)), fun _ => ⟨rfl, rfl⟩⟩
          case measure => simp [intOf]
        · obtain ⟨rfl, rfl⟩ : im = 0 ∧ ez = 0 := HI.out (by first | exact rfl | exact True.intro)
          have HL6 : Hid (F < wr.heap.size ∧ P < wr.heap.size ∧ bN < wr.heap.size ∧ bE < wr.heap.size) := HN.out.lts
          have HW6 : Hid (w.heap.size < wr.heap.size) := hLt HR.out.nb
          clear a0 a1 a2 a3 a4 a5 a6 a7 b0 b1 b2 b3 b4 b5 b6 b7 lNN
          go_wp2_with fail
          obtain ⟨B0, hB0⟩ : ∃ B0, B0 = wr.heap.size := ⟨_, rfl⟩
          have HBe : Hid (B0 = wr.heap.size) := hB0
          rw [← hB0] at HL6 HW6
          clear hB0 k0 k1 k2 lNB
          go_loopw [92] (fun s92 W => ∃ (i : Int) (m : Nat) (Ta : Option Addr) (Tc : Nat), (i = 0 ∧ m = 0 ∨ i = 1 ∧ m = 1 ∨ i = 2 ∧ m = 2) ∧ s92 = .int .i64 i ∧ Hid (N1 (w.heap.size + 1) 1 h F P bN cN bE cE (-1) 0 8 2 ia 0 ic 0 Ta m Tc none 0 0 W) ∧ Hid (W.ownsRow B0 3 1 (.slice Ta m Tc) m (iC (([(-1), 0] : List Int).take m))) ∧ Hid (Fr w NN I NT O M A B w.heap.size W) ∧ Hid (B0 ≤ W.heap.size)) (fun s92 W => 2 - (intOf s92).toNat)
          case atStart => exact ⟨0, 0, none, 0, by omega, rfl, HN.out, World.ownsRow_nil _ _ _ _, HR.out, Nat.le_of_eq HBe.out⟩
          case round =>
            clear HN HR HI HBe
            obtain ⟨i, m, Ta, Tc, hi, rfl, HN, HO, HR, HS⟩ := hrel
            rcases hi with ⟨rfl, rfl⟩ | ⟨rfl, rfl⟩ | ⟨rfl, rfl⟩
            · have f4 := HN.out.f8.1
              have f5 := HN.out.f8.2.1
              have pi := HN.out.f8.2.2.1
              have lF := hLt HN.out.fb
              have lP := hLt HN.out.pb
              have ti := HR.out.tw.t0
              have lNT := World.block_lt_of_cell? wr ⟨NT, 0, none⟩ HR.out.tw.t0
              have hrow := HO.out
              have hBs : B0 ≤ ((wr.alloc (.cells #[.int .i64 (-1)] 3)).drew).heap.size := by have := HS.out; simp [World.drew]; omega
              obtain ⟨g9, c9, W9, hrun, HO9, HG9, HL9⟩ := appX infoInt Tryz.underlying24 rfl (by decide) ((hrow.alloc (.cells #[.int .i64 (-1)] 3)).drew) wr.heap.size (news := [.int .i64 (-1)]) rfl (fun j u hj => new1i wr _ _ _ rfl j u hj) (by intro u hu; simp at hu; subst hu; rfl) (by omega) (by decide) hBs
              have HK9 : Hid (∀ b, b < B0 → W9.heap[b]? = wr.heap[b]?) := fun b hb => (HG9.out.block b (by have := HS.out; simp [World.drew]; omega) (fun e => by have := (World.ownsRow.lt HO.out b e.symm).1; omega)).trans (alOld (by have := HS.out; omega))
              have hn9 : N1 (w.heap.size + 1) 1 h F P bN cN bE cE (-1) 0 8 2 ia 0 ic 0 Ta 0 Tc none 0 0 W9 := HN.out.keep (HK9.out F HL6.out.1) (HK9.out P HL6.out.2.1) (HK9.out bN HL6.out.2.2.1) (HK9.out bE HL6.out.2.2.2)
              have y5 := hn9.f8.2.1
              have y5f := hn9.f8.2.2.2.2.1
              have l9 := hLt hn9.fb
              have HN9 : Hid (N1 (w.heap.size + 1) 1 h F P bN cN bE cE (-1) 0 8 2 ia 0 ic 0 (some ⟨g9, 0, none⟩) 1 c9 none 0 0 (W9.setCell ⟨F, 5, none⟩ (.slice (some ⟨g9, 0, none⟩) 1 c9))) := hn9.setT _ _ _
              have HB9 : Hid (Below w.heap.size w W9) := belG (belA HR.out.bl _).drew HG9.out (fun k e => by have := (World.ownsRow.lt HO.out k e).1; have := HW6.out; omega)
              have HR9 : Hid (Fr w NN I NT O M A B w.heap.size (W9.setCell ⟨F, 5, none⟩ (.slice (some ⟨g9, 0, none⟩) 1 c9))) := HR.out.mv HT.out ((Q.set1_block (by have := hn9.ge; omega)).trans (HK9.out _ (by have := HW6.out; omega))) (belSet HB9.out (by have := hn9.ge; omega))
              have HO9' : Hid ((W9.setCell ⟨F, 5, none⟩ (.slice (some ⟨g9, 0, none⟩) 1 c9)).ownsRow B0 3 1 (.slice (some ⟨g9, 0, none⟩) 1 c9) 1 (iC [(-1)])) := Q.own_at HO9.out (fun k e => Q.set1_block (by have := (World.ownsRow.lt HO9.out k e).1; have := HL6.out.1; omega))
              have HS9 : Hid (B0 ≤ (W9.setCell ⟨F, 5, none⟩ (.slice (some ⟨g9, 0, none⟩) 1 c9)).heap.size) := by show B0 ≤ _; rw [Q.set1_size]; exact Nat.le_trans hBs HG9.out.size
              clear hn9 hBs hrow HO9 HG9 HL9 HB9
              go_wp2_with fail
              go_region_law (refine step_app rfl _ _ 24 rfl (.slice Ta 0 Tc) (.slice (some ⟨wr.heap.size, 0, none⟩) 1 1) (.slice (some ⟨g9, 0, none⟩) 1 c9) W9 (by simp [Act.eval, Act.put]) (by simp [Act.eval, Act.put]) (hrun _) ?_)
              all_goals
                go_wp2_with fail
                go_roundw
                case rel => exact ⟨1, 1, some ⟨g9, 0, none⟩, c9, by omega, rfl, HN9.out, HO9'.out, HR9.out, HS9.out⟩
                case measure => simp [intOf]
            · have f4 := HN.out.f8.1
              have f5 := HN.out.f8.2.1
              have pi := HN.out.f8.2.2.2.1
              have lF := hLt HN.out.fb
              have lP := hLt HN.out.pb
              have ti := HR.out.tw.t1
              have lNT := World.block_lt_of_cell? wr ⟨NT, 0, none⟩ HR.out.tw.t0
              have hrow := HO.out
              have hBs : B0 ≤ ((wr.alloc (.cells #[.int .i64 0] 3)).drew).heap.size := by have := HS.out; simp [World.drew]; omega
              obtain ⟨g9, c9, W9, hrun, HO9, HG9, HL9⟩ := appX infoInt Tryz.underlying24 rfl (by decide) ((hrow.alloc (.cells #[.int .i64 0] 3)).drew) wr.heap.size (news := [.int .i64 0]) rfl (fun j u hj => new1i wr _ _ _ rfl j u hj) (by intro u hu; simp at hu; subst hu; rfl) (by omega) (by decide) hBs
              have HK9 : Hid (∀ b, b < B0 → W9.heap[b]? = wr.heap[b]?) := fun b hb => (HG9.out.block b (by have := HS.out; simp [World.drew]; omega) (fun e => by have := (World.ownsRow.lt HO.out b e.symm).1; omega)).trans (alOld (by have := HS.out; omega))
              have hn9 : N1 (w.heap.size + 1) 1 h F P bN cN bE cE (-1) 0 8 2 ia 0 ic 0 Ta 1 Tc none 0 0 W9 := HN.out.keep (HK9.out F HL6.out.1) (HK9.out P HL6.out.2.1) (HK9.out bN HL6.out.2.2.1) (HK9.out bE HL6.out.2.2.2)
              have y5 := hn9.f8.2.1
              have y5f := hn9.f8.2.2.2.2.1
              have l9 := hLt hn9.fb
              have HN9 : Hid (N1 (w.heap.size + 1) 1 h F P bN cN bE cE (-1) 0 8 2 ia 0 ic 0 (some ⟨g9, 0, none⟩) 2 c9 none 0 0 (W9.setCell ⟨F, 5, none⟩ (.slice (some ⟨g9, 0, none⟩) 2 c9))) := hn9.setT _ _ _
              have HB9 : Hid (Below w.heap.size w W9) := belG (belA HR.out.bl _).drew HG9.out (fun k e => by have := (World.ownsRow.lt HO.out k e).1; have := HW6.out; omega)
              have HR9 : Hid (Fr w NN I NT O M A B w.heap.size (W9.setCell ⟨F, 5, none⟩ (.slice (some ⟨g9, 0, none⟩) 2 c9))) := HR.out.mv HT.out ((Q.set1_block (by have := hn9.ge; omega)).trans (HK9.out _ (by have := HW6.out; omega))) (belSet HB9.out (by have := hn9.ge; omega))
              have HO9' : Hid ((W9.setCell ⟨F, 5, none⟩ (.slice (some ⟨g9, 0, none⟩) 2 c9)).ownsRow B0 3 1 (.slice (some ⟨g9, 0, none⟩) 2 c9) 2 (iC [(-1), 0])) := Q.own_at HO9.out (fun k e => Q.set1_block (by have := (World.ownsRow.lt HO9.out k e).1; have := HL6.out.1; omega))
              have HS9 : Hid (B0 ≤ (W9.setCell ⟨F, 5, none⟩ (.slice (some ⟨g9, 0, none⟩) 2 c9)).heap.size) := by show B0 ≤ _; rw [Q.set1_size]; exact Nat.le_trans hBs HG9.out.size
              clear hn9 hBs hrow HO9 HG9 HL9 HB9
              go_wp2_with fail
              go_region_law (refine step_app rfl _ _ 24 rfl (.slice Ta 1 Tc) (.slice (some ⟨wr.heap.size, 0, none⟩) 1 1) (.slice (some ⟨g9, 0, none⟩) 2 c9) W9 (by simp [Act.eval, Act.put]) (by simp [Act.eval, Act.put]) (hrun _) ?_)
              all_goals
                go_wp2_with fail
                go_roundw
                case rel => exact ⟨2, 2, some ⟨g9, 0, none⟩, c9, by omega, rfl, HN9.out, HO9'.out, HR9.out, HS9.out⟩
                case measure => simp [intOf]
            · obtain ⟨gT, cT, he⟩ := own_slice1 (n := 1) HO.out
              injection he with he1 he2 he3
              subst he1 he3
              clear he2
              go_wp2_with fail
              refine (pahead_c (w.heap.size + 1) 1 h F P bN cN bE cE (-1) 0 8 2 ia 0 ic 0 (some ⟨gT, 0, none⟩) 2 Tc none 0 0 wr HN.out (by omega)).mono ?_
              rintro e w8 ⟨gI, rfl, HGI, hb8⟩
              have hn8 := HN.out.below hb8
              have y7 := hn8.f8.2.2.2.2.2.2
              have y7f := hn8.f8.2.2.2.2.2.1
              have l8 := hLt hn8.fb
              have HN8 : Hid (N1 (w.heap.size + 1) 1 h F P bN cN bE cE (-1) 0 8 2 ia 0 ic 0 (some ⟨gT, 0, none⟩) 2 Tc none 0 0 w8) := hn8
              have HB8 : Hid (Below wr.heap.size wr w8) := hb8
              clear hn8 hb8
              go_wp2_with fail
              go_ret
              have hn := HN8.out
              have st : ∀ b, b ≠ F → (w8.setCell ⟨F, 7, none⟩ (.slice (some ⟨gI, 0, none⟩) 1 1)).heap[b]? = w8.heap[b]? := fun b hb => Q.set1_block hb
              have hF := heap_setCell_same w8 F 7 _ _ (.slice (some ⟨gI, 0, none⟩) 1 1) hn.fb
              obtain ⟨f0, f1, f2, f3, f4, f5, f6, f7⟩ := cells8 hF
              have hgT := World.ownsRow.lt HO.out gT rfl
              have hgI := HGI.out
              have hl := HN.out.lts
              have hs := HS.out
              have h6 := HL6.out
              have hw := HW6.out
              have cT0 : (w8.setCell ⟨F, 7, none⟩ (.slice (some ⟨gI, 0, none⟩) 1 1)).heap[gT]? = wr.heap[gT]? := (st gT (by omega)).trans (HB8.out.block gT hgT.2)
              have cN0 := st bN (Ne.symm hn.ne.2.1)
              have cE0 := st bE (Ne.symm hn.ne.2.2.1)
              have cP0 := (st P (Ne.symm hn.ne.1)).trans hn.pb
              refine ⟨F, rfl, ⟨bN, cN, bE, cE, P, gT, Tc, gI, ia, ic, ⟨f0, f1, f2, f3, f4, f5, f6, f7, (cellE cN0).trans hn.n0, (cellE cN0).trans hn.n1, (cellE cN0).trans hn.n2, (cellE cN0).trans hn.n3, (cellE cN0).trans hn.n4, (cellE cN0).trans hn.n5, (cellE cN0).trans hn.n6, (cellE cN0).trans hn.n7, (cellE cE0).trans hn.e0, by rw [Lib.cell_of_heap cP0]; rfl, by rw [Lib.cell_of_heap cP0]; rfl, by rw [cellE cT0, HO.out.cellAt 0 (by omega)]; rfl, by rw [cellE cT0, HO.out.cellAt 1 (by omega)]; rfl, (cellE (st gI (by omega))).trans hgI.2⟩, by have := hn.ge; omega, by have := hn.ge; omega, by have := hn.ge; omega, by have := hn.ge; omega, by omega, by omega⟩, ?_⟩
              exact belSet (bel HR.out.bl HB8.out) (by have := hn.ge; omega)
end Go.Proofs.YtokepgnnepjiaaaGreat
