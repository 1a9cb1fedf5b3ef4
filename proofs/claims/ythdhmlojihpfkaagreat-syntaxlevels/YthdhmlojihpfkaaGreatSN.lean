/- Layer 4 of the program: an item that is an assign. -/
import Derived.Test.YthdhmlojihpfkaaGreatSMb
namespace Go.Proofs.YthdhmlojihpfkaaGreat
open Go.RowKit Lg
set_option linter.unusedVariables false
set_option linter.unusedSimpArgs false

set_option maxRecDepth 100000 in
set_option maxHeartbeats 2000000 in
theorem itemKind_a (t : Tok) (w : World) (h : fixL t = [97, 115, 115, 105, 103, 110]) : Calls Tryz.prog 98 #[tkV t] w fun e w' => e = .returned (.int .i64 4) ∧ Below w.heap.size w w' := by
  have HF := fun w => fixed_c t w
  rw [h] at HF
  replace HF : ∀ w', Calls Tryz.prog 87 #[tkV t] w' fun e w'' => e = .returned (.string ⟨#[97, 115, 115, 105, 103, 110]⟩) ∧ Below w'.heap.size w' w'' := HF
  obtain ⟨kk, tx, p⟩ := t
  unfold tkV at HF ⊢
  simp only at HF ⊢
  obtain ⟨sx, hsx⟩ : ∃ sx, sx = S tx := ⟨_, rfl⟩
  rw [← hsx] at HF ⊢
  clear h hsx
  go_enter Tryz.func98, Tryz.ntmps98
  go_wp2_with (first
    | (go_at_call 87; refine (HF _).mono ?_; rintro e w2 ⟨rfl, hb2⟩))
  go_ret
  exact ⟨rfl, bel bxS hb2⟩
theorem IAt.set47 {w : World} {R : Nat} {nm a b c d e f p y : Value} (h : IAt w R nm a b c d e f p) : IAt (w.setCell ⟨R, 47, none⟩ y) R nm a b c d e f y := by
  exact ⟨(hset h.blk 47 y).trans (congrArg some (congrArg (fun c => Obj.cells c 50 (0, 0)) (by kernel_rfl)))⟩
theorem IAt.at2 {w : World} {R : Nat} {nm a b c d e f p : Value} (h : IAt w R nm a b c d e f p) : w.cell? ⟨R, 0, none⟩ = some (.int .i64 4) ∧ w.cell? ⟨R, 47, none⟩ = some p ∧ (∀ j, w.frozen? ⟨R, j, none⟩ = false) ∧ R < w.heap.size := by
  refine ⟨?_, ?_, fun j => Lib.frozen_of_heap h.blk j, heap_lt h.blk⟩ <;> (rw [Lib.cell_of_heap h.blk]; rfl)
theorem build_item (w : World) : (Instr.build 50 #[(0, .int .i64 4)]).run Tryz.prog w = .ok (.agg (itC (.string ⟨#[]⟩) (.int .i64 0) (.string ⟨#[]⟩) (.string ⟨#[]⟩) (.bool false) (.slice none 0 0) (.int .i64 0) (.int .i64 0))) w := by kernel_rfl
theorem item_size : (Tryz.prog.info? 50).map (·.size) = some 48 := by kernel_rfl
theorem itC_size (nm a b c d e f p : Value) : (itC nm a b c d e f p).size = 48 := rfl
theorem itC_0 (nm a b c d e f p : Value) (h : 0 < (itC nm a b c d e f p).size) : (itC nm a b c d e f p)[0]'h = .int .i64 4 := rfl
theorem itC_one (sn sn2 sv : ByteArray) (yo : Int) (yp : Bool) (ao : Option Addr) (n cp : Nat) (p2 p : Int) : (itC (.string sn) (.int .i64 yo) (.string sn2) (.string sv) (.bool yp) (.slice ao n cp) (.int .i64 p2) (.int .i64 p)).all (·.oneCell') = true := by
  rw [← Array.all_toList]; rfl
theorem store_item0 (w : World) (nm a b c d e f p : Value) (h : (itC nm a b c d e f p).all (·.oneCell') = true) : (storeCells ⟨w.heap.size, 0, none⟩ (itC nm a b c d e f p).toList).run Tryz.prog (w.alloc (.cells #[.int .i64 0, .string ⟨#[]⟩, .slice none 0 0, .bool false, .int .i64 0, .string ⟨#[]⟩, .string ⟨#[]⟩, .bool false, .slice none 0 0, .int .i64 0, .int .i64 0, .string ⟨#[]⟩, .string ⟨#[]⟩, .bool false, .slice none 0 0, .int .i64 0, .bool false, .int .i64 0, .string ⟨#[]⟩, .string ⟨#[]⟩, .bool false, .slice none 0 0, .int .i64 0, .int .i64 0, .string ⟨#[]⟩, .string ⟨#[]⟩, .bool false, .slice none 0 0, .int .i64 0, .int .i64 0, .string ⟨#[]⟩, .string ⟨#[]⟩, .bool false, .slice none 0 0, .int .i64 0, .int .i64 0, .string ⟨#[]⟩, .string ⟨#[]⟩, .bool false, .slice none 0 0, .int .i64 0, .string ⟨#[]⟩, .string ⟨#[]⟩, .slice none 0 0, .slice none 0 0, .slice none 0 0, .slice none 0 0, .int .i64 0] 50)) = .ok () (w.alloc (.cells (itC nm a b c d e f p) 50)) :=
  run_storeCells_new w _ _ _ item_size rfl h
theorem load_item {w : World} {R : Nat} {nm a b c d e f p : Value} (h : IAt w R nm a b c d e f p) : (loadCellsFrom ⟨R, 0, none⟩ 0 48 #[]).run Tryz.prog w = .ok (itC nm a b c d e f p) w := by
  have := run_loadCells_list (P := Tryz.prog) w ⟨R, 0, none⟩ (itC nm a b c d e f p).toList (fun j v hv => by
    have hadd : (⟨R, 0, none⟩ : Addr).add j = ⟨R, j, none⟩ := by unfold Addr.add; split <;> simp_all
    rw [hadd, Lib.cell_of_heap h.blk]; simpa using hv)
  simpa [loadCells, itC_size] using this
theorem store_row {w : World} {R : Nat} {old c : Array Value} {t : TypeId} (h : w.heap[R]? = some (.cells old t (0, 0))) (hs : old.size = c.size) (h1 : c.all (·.oneCell') = true) : (storeCells ⟨R, 0, none⟩ c.toList).run Tryz.prog w = .ok () (w.setRow R c) := by
  have := run_storeCells_from (P := Tryz.prog) R t c.toList 0 old w h (by simp; omega) (fun v hv => (Array.all_eq_true_iff_forall_mem.1 h1) v (by simpa using hv))
  simpa using this
theorem K2.kp {b R : Nat} {w W w' : World} (h : Kp b w W) (k : K2 b R W w') (hR : w.heap.size ≤ R) : Kp b w w' :=
  ⟨k.os.trans h.os, k.tape.trans h.tape, k.output.trans h.output, Nat.le_trans h.size k.size, fun i hi hb => (k.block i (Nat.lt_of_lt_of_le hi h.size) hb (by omega)).trans (h.block i hi hb)⟩
set_option maxRecDepth 100000 in
set_option maxHeartbeats 4000000 in
theorem pItemA {b g cap : Nat} {l : List Tok} {f k k' d : Nat} {x : X} (hd : d ≤ 32) (ha : fx l k = [97, 115, 115, 105, 103, 110]) (h35 : fx l (k + 1) ≠ [35]) (hn : nmB (tk l (k + 1)) = true) (he : fx l (k + 1 + 1) = [61]) (hq : pQ l f (.ex 1) (k + 1 + 1 + 1) = some (x, k')) (hf : 1 + f ≤ 100000) (hs : fx l k' = [59]) (w : World) (h : St b g cap l k w) :
    Calls Tryz.prog 89 #[.pointer (some ⟨b, 0, none⟩), .int .i64 d] w fun e w' => (∃ ao n cp, e = .returned (.agg (itC (.string (S (tk l (k + 1)).x)) (.int .i64 x.op) (.string (S x.nm)) (.string (S x.vl)) (.bool x.pl) (.slice ao n cp) (.int .i64 x.p) (.int .i64 (tk l k).p))) ∧ KAt w' (Ge w.heap.size) x.kids (.slice ao n cp)) ∧ St b g cap l (k' + 1) w' ∧ Kp b w w' := by
  have HH := fun w' (hb : Below w.heap.size w w') => pHere (h.below hb)
  have HI := fun w' => itemKind_a (tk l k) w' ha
  have HO := fun w' (hb : Below w.heap.size w w') => pOpenY (h.below hb) d hd (h.nextX ha (by decide))
  have HA := fun {R i0 i1 i2 i3 i4 i5 i6 p} w' (hs1 : St b g cap l (k + 1) w') hR h1 h2 => pAssignY (R := R) (i0 := i0) (i1 := i1) (i2 := i2) (i3 := i3) (i4 := i4) (i5 := i5) (i6 := i6) (p := p) h35 hn he hq hf hs w' hs1 hR h1 h2
  have HT : Hid _ := h
  obtain ⟨yo, yn, yv, yp, yk, yp2⟩ := x
  simp only at HA ⊢
  obtain ⟨sn, hsn⟩ : ∃ sn, sn = S yn := ⟨_, rfl⟩
  obtain ⟨sv, hsv⟩ : ∃ sv, sv = S yv := ⟨_, rfl⟩
  obtain ⟨nm, hnm⟩ : ∃ nm, nm = S (tk l (k + 1)).x := ⟨_, rfl⟩
  rw [← hnm] at HA ⊢
  rw [← hsn, ← hsv] at HA ⊢
  obtain ⟨⟨kk, tx, p⟩, ht⟩ : ∃ t, t = tk l k := ⟨_, rfl⟩
  rw [← ht] at HH HI HO ⊢
  unfold tkV at HH HI HO
  simp only at HH HI HO ⊢
  obtain ⟨sx, hsx⟩ : ∃ sx, sx = S tx := ⟨_, rfl⟩
  rw [← hsx] at HH HI HO
  have hf1 := fld1
  have hf2 := fld2
  have hbl := HT.out.blt
  have hgl := HT.out.lt
  clear h hd ha h35 hn he hq hf hs ht hsx hsn hsv hnm
  go_enter Tryz.func89, Tryz.ntmps89
  have hc0 := itC_0
  go_wp2_with (first
    | (go_at_call 53; refine (HH _ bxS).mono ?_; rintro e w1 ⟨rfl, hb1⟩))
  refine (HI _).mono ?_
  rintro e w2 ⟨rfl, hb2⟩
  rename_i hK0
  refine hK0 _ _ ?_
  refine wpl_build rfl 50 _ rfl #[(0, .int .i64 4)] (by kernel_rfl) _ (build_item _) ?_
  have z1 : w.heap.size + 1 ≤ w1.heap.size := by have := hb1.size; simpa using this
  have z2 := hb2.size
  have hst := fun w => store_item0 w (.string ⟨#[]⟩) (.int .i64 0) (.string ⟨#[]⟩) (.string ⟨#[]⟩) (.bool false) (.slice none 0 0) (.int .i64 0) (.int .i64 0) (itC_one _ _ _ _ _ _ _ _ _ _)
  go_wp2_with (first
    | (go_at_call 99; refine (HO _ (bel bxS (bel hb1 (bel hb2 bxS)))).mono ?_; rintro e w3 ⟨rfl, hs3, hk3⟩; have hI : IAt w3 w2.heap.size _ _ _ _ _ _ _ _ := ⟨(hk3.block w2.heap.size (by simp) (by omega)).trans (heap_alloc_last _ _)⟩; obtain ⟨q0, q47, qf, ql⟩ := hI.at2))
  refine (HA _ ((hs3.setR (by omega) (by omega)).below bxS) (hI.set47.keep (Kp.of (b := b) bxS) (by omega)) (by omega) (by omega)).mono ?_
  rintro e w6 ⟨rfl, ⟨ao, vn, cp, hI6, hv⟩, hs6, hk6⟩
  have hR := fun w' (h : Kp b w' w3) (h2 : w'.heap.size ≤ w2.heap.size) => K2.kp ((h.setR h2).trans (Kp.of bxS)) hk6 h2
  have hB : w6.heap[w.heap.size]? = _ := ((hR _ ((Kp.of (bel hb1 (bel hb2 bxS))).trans hk3) (by simp; omega)).block w.heap.size (by simp) (by omega)).trans (heap_alloc_last _ _)
  rename_i hK1
  refine hK1 _ _ ?_
  go_wp2_with (first
    | (refine wpl_load rfl 50 _ rfl _ rfl _ _ _ hI6.blk Tryz.underlying50 rfl item_size ?_)
    | (refine wpl_store rfl 50 _ _ rfl _ rfl _ rfl _ _ hB item_size rfl (itC_one nm sn sv yo yp ao vn cp yp2 p) ?_))
  have z3 : w2.heap.size + 1 ≤ w3.heap.size := by have := hk3.size; simpa using this
  refine bodyPost_ret (results_cell (r := 4) (t := 50) rfl w.heap.size rfl _ _ _ (setRow_at hB) Tryz.underlying50 rfl item_size) rfl ?_
  refine ⟨⟨_, _, _, rfl, (hv.keep (Up.row ?_)).monoG ?_⟩, hs6.row (by omega) (by omega), (hR w ((Kp.of (bel bxS (bel hb1 (bel hb2 bxS)))).trans hk3) (by omega)).row (Nat.le_refl _)⟩
  · unfold Ge; simp [World.setCell]; omega
  · simp [World.setCell]; omega
end Go.Proofs.YthdhmlojihpfkaaGreat
