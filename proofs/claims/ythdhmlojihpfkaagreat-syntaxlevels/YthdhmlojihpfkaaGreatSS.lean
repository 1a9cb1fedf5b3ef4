/- Layer 4 of the program: two ports. -/
import Derived.Test.YthdhmlojihpfkaaGreatSR
import Derived.Test.YthdhmlojihpfkaaGreatSRb
namespace Go.Proofs.YthdhmlojihpfkaaGreat
open Go.RowKit Lg
set_option linter.unusedVariables false
set_option linter.unusedSimpArgs false

theorem build_pos (w : World) (o r nm p : Value) : (Instr.buildSlice 41 1 #[(0, .agg (poC o r nm p))]).run Tryz.prog w = .ok (.slice (some ⟨w.heap.size, 0, none⟩) 1 1) (w.alloc (.cells (poC o r nm p) 67)) := by kernel_rfl
theorem infoPort : ∃ i, Tryz.prog.info? 67 = some i ∧ i.zero = some (.agg (poC (.bool false) (.bool false) (.string .empty) (.int .i64 0))) ∧ i.size = 17 ∧ i.bytes = 192 := info_parts (by kernel_rfl)
theorem Kp.grownR {b R : Nat} {w w1 w2 : World} (h : Kp b w w1) (hg : w1.grownBy w2 (some R)) (hR : w.heap.size ≤ R) : Kp b w w2 :=
  ⟨hg.os.trans h.os, hg.tape.trans h.tape, hg.output.trans h.output, Nat.le_trans h.size hg.size, fun k hk hb => (hg.block k (Nat.lt_of_lt_of_le hk h.size) (by intro e; injection e with e; omega)).trans (h.block k hk hb)⟩
theorem St.keepR {b g cap k R : Nat} {l : List Tok} {w w' : World} (h : St b g cap l k w) (hk : w.grownBy w' (some R)) (h1 : R ≠ b) (h2 : R ≠ g) : St b g cap l k w' :=
  ⟨(hk.block b h.blt (by intro e; injection e with e; exact h1 e.symm)).trans h.blk, h.ne, Nat.lt_of_lt_of_le h.lt hk.size, h.cap, h.len, h.k, h.last, fun j u hu => by rw [World.cell?_of_block (w := w) (a := ⟨g, j, none⟩) (hk.block g h.lt (by intro e; injection e with e; exact h2 e.symm))]; exact h.src j u hu⟩
theorem owns_one {w : World} {B R z : Nat} {c : Array Value} {t : TypeId} (h : w.heap[R]? = some (.cells c t (0, 0))) (hB : B ≤ R) (hz : c.size = z) : w.ownsRow B t z (.slice (some ⟨R, 0, none⟩) 1 1) 1 c.toList :=
  ⟨by simp [hz], Or.inr ⟨R, 1, c, rfl, hB, h, Nat.le_refl _, by simp [maxLen], by simp [hz], by simp [← hz, List.take_of_length_le]⟩⟩
set_option maxRecDepth 100000 in
set_option maxHeartbeats 4000000 in
theorem pSeveralP {b g cap k : Nat} {l : List Tok} {w : World} (h : St b g cap l k w) (h0 : fx l k = [105, 110, 112, 117, 116]) (h1 : fx l (k + 1) ≠ [91]) (h2 : nmB (tk l (k + 1)) = true) (h3 : fx l (k + 1 + 1) = [44]) (h4 : fx l (k + 1 + 1 + 1) = [111, 117, 116, 112, 117, 116]) (h5 : fx l (k + 1 + 1 + 1 + 1) ≠ [114, 101, 103]) (h6 : fx l (k + 1 + 1 + 1 + 1) ≠ [91]) (h7 : nmB (tk l (k + 1 + 1 + 1 + 1)) = true) (h8 : fx l (k + 1 + 1 + 1 + 1 + 1) ≠ [44]) :
    Calls Tryz.prog 71 #[.pointer (some ⟨b, 0, none⟩), .func (.func 72) #[.pointer (some ⟨b, 0, none⟩)] #[]] w fun e w' => (∃ ao cp, e = .returned (.slice ao 2 cp)) ∧ St b g cap l (k + 1 + 1 + 1 + 1 + 1) w' ∧ Kp b w w' := by
  have HP1 := pPortI h h0 h1 h2
  have HP2 := fun w' (h : St b g cap l (k + 1 + 1 + 1) w') => pPortO h h4 h5 h6 h7
  have HT1 := fun w' (h : St b g cap l (k + 1 + 1) w') => pTakesY h ⟨#[44]⟩ h3 (by decide)
  have HT2 := fun w' (h : St b g cap l (k + 1 + 1 + 1 + 1 + 1) w') => pTakesN h ⟨#[44]⟩ h8
  obtain ⟨n1, hn1⟩ : ∃ n1, n1 = S (tk l (k + 1)).x := ⟨_, rfl⟩
  obtain ⟨p1, hp1⟩ : ∃ p1, p1 = (tk l k).p := ⟨_, rfl⟩
  rw [← hn1, ← hp1] at HP1
  obtain ⟨n2, hn2⟩ : ∃ n2, n2 = S (tk l (k + 1 + 1 + 1 + 1)).x := ⟨_, rfl⟩
  obtain ⟨p2, hp2⟩ : ∃ p2, p2 = (tk l (k + 1 + 1 + 1)).p := ⟨_, rfl⟩
  rw [← hn2, ← hp2] at HP2
  obtain ⟨i0, hi, hz0, hz1, hz2⟩ := infoPort
  have hbl := h.blt
  have hgl := h.lt
  clear h h0 h1 h2 h3 h4 h5 h6 h7 h8 hn1 hn2 hp1 hp2
  go_enter Tryz.func71, Tryz.ntmps71
  go_wp2_with (first
    | (go_at_call 72; refine HP1.mono ?_; rintro e w1 ⟨rfl, hs1, hk1⟩)
    | (refine wpl_bslice rfl 41 1 _ rfl #[(0, .agg (poC (.bool false) (.bool false) (.string n1) (.int .i64 p1)))] (by kernel_rfl) _ _ (build_pos _ _ _ _ _) ?_))
  go_loopw [5] (fun iv wr => (∃ R, w.heap.size ≤ R ∧ iv = .slice (some ⟨R, 0, none⟩) 1 1 ∧ Hid (wr.heap[R]? = some (.cells (poC (.bool false) (.bool false) (.string n1) (.int .i64 p1)) 67 (0, 0))) ∧ Hid (St b g cap l (k + 1 + 1) wr) ∧ Hid (Kp b w wr)) ∨ (∃ ao cp, iv = .slice ao 2 cp ∧ Hid (St b g cap l (k + 1 + 1 + 1 + 1 + 1) wr) ∧ Hid (Kp b w wr))) (fun _ wr => l.length - atP b wr)
  case atStart => exact Or.inl ⟨w1.heap.size, hk1.size, rfl, heap_alloc_last _ _, hs1.below bxS, hk1.trans (Kp.of bxS)⟩
  case round =>
    rcases hrel with ⟨R, hR, rfl, HB, HST, HKP⟩ | ⟨ao, cp, rfl, HST, HKP⟩
    · go_wp2_with (first
        | (go_at_call 67; refine (HT1 _ HST.out).mono ?_; rintro e w2 ⟨rfl, hs2, hk2⟩)
        | (go_at_call 72; refine (HP2 _ hs2).mono ?_; rintro e w3 ⟨rfl, hs3, hk3⟩; have hB3 := ((hk2.trans hk3).block R (heap_lt HB.out) (by omega)).trans HB.out)
        | (refine wpl_bslice rfl 41 1 _ rfl #[(0, .agg (poC (.bool true) (.bool false) (.string n2) (.int .i64 p2)))] (by kernel_rfl) _ _ (build_pos _ _ _ _ _) ?_)
        | (refine wpList_append_own _ rfl _ _ 41 rfl w.heap.size 67 i0 _ 17 192 Tryz.underlying41 hi hz0 hz1 hz2 rfl (by decide) _ 1 _ rfl (World.ownsRow.alloc (owns_one hB3 hR rfl) _) ⟨w3.heap.size, 0, none⟩ 1 1 (poC (.bool true) (.bool false) (.string n2) (.int .i64 p2)).toList rfl rfl (new_row _ rfl) (all_of (poC_one _ _ _ _)) (by simp [maxLen]) (by decide) (by have := HKP.out.size; have := hk2.size; have := hk3.size; simp; omega) ?_; intro v' w4 hown hgrow hnil; obtain ⟨ao3, cp3, rfl⟩ := slice_of hown))
      go_roundw
      case rel => exact Or.inr ⟨_, _, rfl, (hs3.below bxS).keepR (R := R) hgrow (by omega) (by omega), ((HKP.out.trans (hk2.trans hk3)).trans (Kp.of bxS)).grownR hgrow hR⟩
      case measure =>
        have a1 := atP_eq ((hs3.below bxS).keepR (R := R) hgrow (by omega) (by omega))
        have a2 := atP_eq HST.out
        have a4 := hs3.k
        rw [a1, a2]
        omega
    · go_wp2_with (first
        | (go_at_call 67; refine (HT2 _ HST.out).mono ?_; rintro e w2 ⟨rfl, hb2⟩))
      go_ret
      exact ⟨⟨_, _, rfl⟩, HST.out.below hb2, HKP.out.trans (Kp.of hb2)⟩
end Go.Proofs.YthdhmlojihpfkaaGreat
