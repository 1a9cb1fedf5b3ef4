/- Layer 3 of the program: ifdef and ifndef open a part. -/
import Derived.Test.YteohmemifogdlaaZO
import Derived.Deep.RegionHeld3
import Derived.Deep.RegionHeldLaw
namespace Go.Proofs.Yteohmemifogdlaa
open Go.RowKit Lg Go.Maps
set_option linter.unusedVariables false
set_option linter.unusedSimpArgs false

theorem nm_look {B b : Nat} {src : List Tok} {r : RB} {D : DataW Value} {nD : Nat} {o : List Br} {kp : List Tok} {w : World} (h : Inv B b src r D nD o kp w) {N : Nm} (hN : NmOk r.g src D N) (y : List UInt8) (hy : y.length ≤ 65536) (sy : ByteArray) (hsy : sy = S y) :
    ∃ v, (Instr.lookup 40 (.map (some r.mb)) (.string sy) true).run Try.prog w = .ok (.tuple #[v, .bool (N y).isSome]) w := by
  have hl : L sy = y := by rw [hsy, L_S]
  have hs : sy.size ≤ maxLen := by rw [← len_L, hl]; unfold maxLen; omega
  obtain ⟨v, ps, hrun, hv⟩ := h.map.look_ok lawS Try.underlying40 (zeroTS _) (zd := .held (.slice none 0 0)) (zp := []) rfl (keyS hs)
  have hh : Maps.has D (.string (L sy)) = (N y).isSome := by
    rw [hl]
    obtain ⟨n1, n2⟩ := hN.2 y (by unfold maxLen; omega)
    cases hq : N y with
    | none => exact n1 hq
    | some b => exact (n2 b hq).1
  rw [hh] at hrun
  exact ⟨v, hrun⟩

theorem bxH {b : Nat} {w w1 : World} {x0 x1 x2 : Value} {t : TypeId} {w0 : World} (h0 : w0.heap = (w.alloc (.cells #[x0, x1, x2] t)).heap) (h : Grw b (.slice none 0 0) w0 w1) (hne : b < w.heap.size) : w1.heap[w.heap.size]? = some (.cells #[x0, x1, x2] t (0, 0)) := (h.block w.heap.size (by rw [h0]; simp) (by omega) (by simp [Value.ownBlock])).trans (by rw [h0]; show (w.heap.push _)[w.heap.size]? = _; simp)
theorem ifT {T B m : Nat} {w2 W w5 : World} {x0 x1 x2 v : Value} {xs : List Value} {S : Obj} (hT : w2.heap[T]? = some (.cells #[x0, x1, x2] 35 (0, 0))) (how : w2.ownsRow B 54 4 v m xs) (hg : W.grownBy w5 v.ownBlock) (hW : W.heap = w2.heap.push S) : w5.cell? ⟨T, 1, none⟩ = some x1 ∧ w5.cell? ⟨T, 2, none⟩ = some x2 := by
  have hl := heap_lt hT
  have hne := own_ne how hT (by decide)
  have e : w5.heap[T]? = some (.cells #[x0, x1, x2] 35 (0, 0)) := (hg.block T (by rw [hW]; simp; omega) (fun e => hne e.symm)).trans (by rw [hW, Array.getElem?_push, if_neg (by omega)]; exact hT)
  refine ⟨?_, ?_⟩ <;> (rw [Lib.cell_of_heap e]; rfl)
set_option maxRecDepth 100000 in
set_option maxHeartbeats 8000000 in
theorem split_if (B b : Nat) (src : List Tok) (r : RB) (D : DataW Value) (nD : Nat) (o : List Br) (kp : List Tok) (w : World) (h : Inv B b src r D nD o kp w) (hol : o.length ≤ 1000000) (N : Nm) (hN : NmOk r.g src D N) (k : Int) (x : ByteArray) (p : Nat) (hx1 : (x.toList == [101, 108, 115, 101]) = false) (hx2 : (x.toList == [101, 110, 100, 105, 102]) = false) (hat : r.at_ ≤ src.length) (y : List UInt8) (hy : y.length ≤ 65536) (hn : nameAt (src.drop r.at_) = some y) (isd : Bool) (hx3 : (x.toList == [105, 102, 100, 101, 102]) = isd) :
    Calls Try.prog 26 #[.pointer (some ⟨b, 0, none⟩), .agg #[.int .i64 k, .string x, .int .i64 p]] w fun e w' => e = .returned (.tuple #[]) ∧ ∃ v, (Inv B b src { r with at_ := r.at_ + 1, vo := v } D nD (o ++ [⟨p, kpB o, kpB o && ((N y).isSome == isd), false⟩]) kp w' ∧ Frm b r.mb B w w') := by
  obtain ⟨sy, hsy⟩ : ∃ sy, sy = S y := ⟨_, rfl⟩
  have HLK : ∀ w', Inv B b src { r with at_ := r.at_ + 1 } D nD o kp w' → ∃ v, (Instr.lookup 40 (.map (some r.mb)) (.string sy) true).run Try.prog w' = .ok (.tuple #[v, .bool (N y).isSome]) w' := fun w' hI => nm_look hI hN y hy sy hsy
  have HKP : ∀ w', Inv B b src { r with at_ := r.at_ + 1 } D nD o kp w' → Calls Try.prog 27 #[.pointer (some ⟨b, 0, none⟩)] w' fun e w'' => e = .returned (.bool (kpB o)) ∧ w'' = w'.drew := fun w' hI => keeping_c B b _ o w' hI.blk hI.opn
  obtain ⟨c0, c1, c2, c3, c4, c5, c6, c7, cf⟩ := h.blk.at_
  obtain ⟨i0, hi, hz0, hz1, hz2⟩ := infoBr
  have hbl := heap_lt h.blk
  have hne : b ≠ w.heap.size := by omega
  obtain ⟨ao, cap, hv⟩ := slice_of h.opn
  obtain ⟨m, hm⟩ : ∃ m, o.length = m := ⟨_, rfl⟩
  rw [hm] at hv hol
  have HV : Hid (r.vo = .slice ao m cap) := hv
  have HMM : Hid (o.length = m) := hm
  have HOW : Hid (∀ w', Inv B b src { r with at_ := r.at_ + 1 } D nD o kp w' → w'.ownsRow B 54 4 (.slice ao m cap) m (brcs o)) := fun w' hI => by have := hI.opn; rw [show ({ r with at_ := r.at_ + 1 } : RB).vo = .slice ao m cap from hv, hm] at this; exact this
  have HM : ∀ w', Below w.heap.size w w' → w'.heap = (w.alloc (.cells #[.int .i64 k, .string x, .int .i64 p] 35)).heap → Calls Try.prog 37 #[.pointer (some ⟨b, 0, none⟩), .agg #[.int .i64 k, .string x, .int .i64 p]] w' fun e w2 => e = .returned (.string sy) ∧ (∃ lv, (Instr.lookup 40 (.map (some r.mb)) (.string sy) true).run Try.prog w2 = .ok (.tuple #[lv, .bool (N y).isSome]) w2) ∧ w2.cell? ⟨w.heap.size, 0, none⟩ = some (.int .i64 k) ∧ w2.cell? ⟨w.heap.size, 1, none⟩ = some (.string x) ∧ w2.cell? ⟨w.heap.size, 2, none⟩ = some (.int .i64 p) ∧ w2.cell? ⟨b, 5, none⟩ = some (.map (some r.mb)) ∧ w2.cell? ⟨b, 6, none⟩ = some (.slice ao m cap) ∧ w2.frozen? ⟨b, 6, none⟩ = false ∧ Hid (w2.heap[w.heap.size]? = some (.cells #[.int .i64 k, .string x, .int .i64 p] 35 (0, 0))) ∧ Hid (Inv B b src { r with at_ := r.at_ + 1 } D nD o kp w2) ∧ Hid (Frm b r.mb B w w2) := fun w' hb hW => by
    refine (name_ok2 B b src r D nD o kp w' (h.same hb) k x p hat y hn).mono fun e w2 q => ?_
    obtain ⟨t0, t1, t2⟩ := bxG hW q.2.2 hbl
    obtain ⟨d0, d1, d2, d3, d4, d5, d6, d7, df⟩ := q.2.1.1.blk.at_
    exact ⟨by rw [hsy]; exact q.1, HLK w2 q.2.1.1, t0, t1, t2, d5, by rw [d6]; exact congrArg some hv, df 6, bxH hW q.2.2 hbl, q.2.1.1, (Frm.of_below hb h.Bw).trans q.2.1.2⟩
  obtain ⟨st, hst⟩ : ∃ st, (N y).isSome = st := ⟨_, rfl⟩
  obtain ⟨wi, hwi⟩ : ∃ wi, kpB o = wi := ⟨_, rfl⟩
  rw [hst] at HM ⊢
  rw [hwi] at HKP ⊢
  have hBw := h.Bw
  have HKPP : Hid _ := HKP
  have HMX : Hid _ := HM
  clear h hN hn cf hv hm hst hwi hsy HLK HKP HM c0 c1 c2 c3 c4 c6 c7
  cases wi with
  | false =>
    go_enter Try.func26, Try.ntmps26
    go_wp2_with fail
    go_region_held3 (fun w' => w'.cell? ⟨b, 5, none⟩ = some (.map (some r.mb)) ∧ w'.cell? ⟨w.heap.size, 0, none⟩ = some (.int .i64 k) ∧ w'.cell? ⟨w.heap.size, 1, none⟩ = some (.string x) ∧ w'.cell? ⟨w.heap.size, 2, none⟩ = some (.int .i64 p)) (go_keep) (first | (go_at_call 37; refine (HMX.out _ (by first | exact bxB | exact bxB.drew) (by rfl)).mono ?_; rintro e w2 ⟨rfl, ⟨lv, hlk⟩, t0, t1, t2, d5, d6, f6, HT2, HI2, HF2⟩))
    all_goals go_wp2_with (first | (go_at_call 27; refine (HKPP.out _ HI2.out).mono ?_; rintro e w3 ⟨rfl, hw3⟩; have hw4 := hw3.symm; subst hw4))
    all_goals
      have how := HOW.out w2 HI2.out
      have HO2 : Hid _ := how
      have HOB : Hid _ := own_ne how HI2.out.blk (by decide)
      have hBw2 := HI2.out.Bw
      have hb2 : b ≠ w2.heap.size := by have := heap_lt HI2.out.blk; omega
      have hT2 : w.heap.size ≠ w2.heap.size := by have := heap_lt HT2.out; omega
      have hA6 : ∀ ob, (w2.alloc ob).cell? ⟨b, 6, none⟩ = some (.slice ao m cap) := fun ob => ((bxB (w := w2) (o := ob)).cell (p := ⟨b, 6, none⟩) (heap_lt HI2.out.blk)).trans d6
      clear how
      refine wp_region_any (by kernel_rfl) ?_
      try (change wpAny _ _ _ _ _ _ _ (World.drew _))
      refine wpAny_take (i := 0) (v := ?_) rfl (by kernel_rfl) (by kernel_rfl) (by kernel_rfl) (fun _ _ _ h => h) (Or.inl ⟨by kernel_rfl, ?_⟩) ?_
      rotate_left
      · intro w'; go_simp <;> with_reducible rfl
      try simp only [Act.put, List.setIfInBounds_toArray, List.set_cons_zero, List.set_cons_succ]
      refine wpAny_take (i := 1) (v := ?_) rfl (by kernel_rfl) (by kernel_rfl) (by kernel_rfl) (fun _ _ _ h => h) (Or.inl ⟨by kernel_rfl, ?_⟩) ?_
      rotate_left
      · intro w'; go_simp <;> with_reducible rfl
      try simp only [Act.put, List.setIfInBounds_toArray, List.set_cons_zero, List.set_cons_succ]
      refine wpAny_take (i := 2) (v := ?_) rfl (by kernel_rfl) (by kernel_rfl) (by kernel_rfl) (fun _ _ _ h => h) (Or.inl ⟨by kernel_rfl, ?_⟩) ?_
      rotate_left
      · intro w'; go_simp <;> with_reducible rfl
      try simp only [Act.put, List.setIfInBounds_toArray, List.set_cons_zero, List.set_cons_succ]
      refine wpAny_take (i := 3) (v := ?_) rfl (by kernel_rfl) (by kernel_rfl) (by kernel_rfl) (fun _ _ _ h => h) (Or.inl ⟨by kernel_rfl, ?_⟩) ?_
      rotate_left
      · intro w'; go_simp <;> with_reducible rfl
      try simp only [Act.put, List.setIfInBounds_toArray, List.set_cons_zero, List.set_cons_succ]
      refine wpAny_take (i := 5) (v := ?_) rfl (by kernel_rfl) (by kernel_rfl) (by kernel_rfl) (fun _ _ _ h => h) (Or.inl ⟨by kernel_rfl, ?_⟩) ?_
      rotate_left
      · intro w'; go_simp <;> with_reducible rfl
      try simp only [Act.put, List.setIfInBounds_toArray, List.set_cons_zero, List.set_cons_succ]
      refine wpAny_take (i := 7) (v := ?_) rfl (by kernel_rfl) (by kernel_rfl) (by kernel_rfl) (fun _ _ _ h => h) (Or.inl ⟨by kernel_rfl, ?_⟩) ?_
      rotate_left
      · intro w'; go_simp <;> with_reducible rfl
      try simp only [Act.put, List.setIfInBounds_toArray, List.set_cons_zero, List.set_cons_succ]
      refine wpAny_take (i := 8) (v := ?_) rfl (by kernel_rfl) (by kernel_rfl) (by kernel_rfl) (fun _ _ _ h => h) (Or.inl ⟨by kernel_rfl, ?_⟩) ?_
      rotate_left
      · intro w'; go_simp <;> with_reducible rfl
      try simp only [Act.put, List.setIfInBounds_toArray, List.set_cons_zero, List.set_cons_succ]
      refine wpAny_take (i := 9) (v := ?_) rfl (by kernel_rfl) (by kernel_rfl) (by kernel_rfl) (fun _ _ _ h => h) (Or.inl ⟨by kernel_rfl, ?_⟩) ?_
      rotate_left
      · intro w'; go_simp <;> with_reducible rfl
      try simp only [Act.put, List.setIfInBounds_toArray, List.set_cons_zero, List.set_cons_succ]
      refine wpAny_take (i := 10) (v := undef) rfl (by kernel_rfl) (by kernel_rfl) (by kernel_rfl) (fun _ _ _ h => h) (Or.inr ⟨by kernel_rfl, rfl⟩) ?_
      try simp only [Act.put, List.setIfInBounds_toArray, List.set_cons_zero, List.set_cons_succ]
      refine wpAny_take (i := 11) (v := undef) rfl (by kernel_rfl) (by kernel_rfl) (by kernel_rfl) (fun _ _ _ h => h) (Or.inr ⟨by kernel_rfl, rfl⟩) ?_
      try simp only [Act.put, List.setIfInBounds_toArray, List.set_cons_zero, List.set_cons_succ]
      refine wpAny_take (i := 12) (v := undef) rfl (by kernel_rfl) (by kernel_rfl) (by kernel_rfl) (fun _ _ _ h => h) (Or.inr ⟨by kernel_rfl, rfl⟩) ?_
      try simp only [Act.put, List.setIfInBounds_toArray, List.set_cons_zero, List.set_cons_succ]
      refine wpAny_take (i := 13) (v := undef) rfl (by kernel_rfl) (by kernel_rfl) (by kernel_rfl) (fun _ _ _ h => h) (Or.inr ⟨by kernel_rfl, rfl⟩) ?_
      try simp only [Act.put, List.setIfInBounds_toArray, List.set_cons_zero, List.set_cons_succ]
      refine wpAny_take (i := 14) (v := undef) rfl (by kernel_rfl) (by kernel_rfl) (by kernel_rfl) (fun _ _ _ h => h) (Or.inr ⟨by kernel_rfl, rfl⟩) ?_
      try simp only [Act.put, List.setIfInBounds_toArray, List.set_cons_zero, List.set_cons_succ]
      refine wpAny_take (i := 15) (v := ?_) rfl (by kernel_rfl) (by kernel_rfl) (by kernel_rfl) (fun _ _ _ h => h) (Or.inl ⟨by kernel_rfl, ?_⟩) ?_
      rotate_left
      · intro w'; go_simp <;> with_reducible rfl
      try simp only [Act.put, List.setIfInBounds_toArray, List.set_cons_zero, List.set_cons_succ]
      refine wpAny_ready (rs := [4, 6]) (by kernel_rfl) (by simp) ?_
      refine AllReady.cons rfl (fun K hK => ?_) ?_
      · go_simp
        refine hK _ _ ?_
        clear hK K
        refine wpAny_ready (rs := [6]) (by kernel_rfl) (by simp) ?_
        refine AllReady.cons rfl (fun K hK => ?_) ?_
        · go_simp
          refine hK _ _ ?_
          clear hK K
          refine wpAny_take (i := 16) (v := ?_) rfl (by kernel_rfl) (by kernel_rfl) (by kernel_rfl) (fun _ _ _ h => h) (Or.inl ⟨by kernel_rfl, ?_⟩) ?_
          rotate_left
          · intro w'; go_simp <;> with_reducible rfl
          try simp only [Act.put, List.setIfInBounds_toArray, List.set_cons_zero, List.set_cons_succ]
          refine wpAny_ready (rs := [17]) (by kernel_rfl) (by simp) ?_
          refine AllReady.cons rfl (fun K hK => ?_) ?_
          · go_simp
            refine hK _ _ ?_
            clear hK K
            refine wpAny_ready (rs := [18]) (by kernel_rfl) (by simp) ?_
            refine AllReady.cons rfl (fun K hK => ?_) ?_
            · (refine step_append_own rfl _ _ 41 rfl B 54 i0 _ 4 16 Try.underlying41 hi hz0 hz1 hz2 rfl (by decide) _ m (brcs o) (by simp [Act.eval, Act.put]) (World.ownsRow.alloc (World.ownsRow.drew (World.ownsRow.drew HO2.out)) _) ⟨w2.heap.size, 0, none⟩ 1 1 [.int .i64 p, .bool _, .bool _, .bool _] (by simp [Act.eval, Act.put]) rfl (new4 _ _ (by simp) _ _ _ _ _) (one4 _ _ _ _) (by simp [maxLen]; omega) (by omega) (by simp; omega) ?_; intro v' w5 hown5 hgrow5; obtain ⟨ao2, cap2, rfl⟩ := slice_of hown5; have hR := if_blk HI2.out.blk hgrow5 rfl HOB.out; obtain ⟨y0, y1, y2, y3, y4, y5, y6, y7, yf⟩ := hR.at_; have g6 := yf 6; obtain ⟨z1, z2⟩ := ifT HT2.out HO2.out hgrow5 rfl)
              try go_simp
              refine hK _ _ ?_
              clear hK K
              refine wpAny_take (i := 19) (v := ?_) rfl (by kernel_rfl) (by kernel_rfl) (by kernel_rfl) (fun _ _ _ h => h) (Or.inl ⟨by kernel_rfl, ?_⟩) ?_
              rotate_left
              · intro w'; go_simp <;> with_reducible rfl
              try simp only [Act.put, List.setIfInBounds_toArray, List.set_cons_zero, List.set_cons_succ]
              refine wpAny_take (i := 20) (v := ?_) rfl (by kernel_rfl) (by kernel_rfl) (by kernel_rfl) (fun _ _ _ h => h) (Or.inl ⟨by kernel_rfl, ?_⟩) ?_
              rotate_left
              · intro w'; go_simp <;> with_reducible rfl
              try simp only [Act.put, List.setIfInBounds_toArray, List.set_cons_zero, List.set_cons_succ]
              refine wpAny_ready (rs := [21]) (by kernel_rfl) (by simp) ?_
              refine AllReady.cons rfl (fun K hK => ?_) ?_
              · go_simp
                refine hK _ _ ?_
                clear hK K
                refine wpAny_done (by kernel_rfl) ?_ _
                go_wp2_with fail
                go_end0
                have hH := if_end (v := .slice ao m cap) HI2.out HV.out hgrow5 rfl rfl rfl rfl (by rw [HMM.out]; exact hown5)
                exact ⟨rfl, ⟨_, hH.1⟩, HF2.out.trans hH.2⟩
              exact AllReady.nil
            exact AllReady.nil
          exact AllReady.nil
        exact AllReady.nil
      refine AllReady.cons rfl (fun K hK => ?_) ?_
      · go_simp
        refine hK _ _ ?_
        clear hK K
        refine wpAny_take (i := 16) (v := ?_) rfl (by kernel_rfl) (by kernel_rfl) (by kernel_rfl) (fun _ _ _ h => h) (Or.inl ⟨by kernel_rfl, ?_⟩) ?_
        rotate_left
        · intro w'; go_simp <;> with_reducible rfl
        try simp only [Act.put, List.setIfInBounds_toArray, List.set_cons_zero, List.set_cons_succ]
        refine wpAny_ready (rs := [4, 17]) (by kernel_rfl) (by simp) ?_
        refine AllReady.cons rfl (fun K hK => ?_) ?_
        · go_simp
          refine hK _ _ ?_
          clear hK K
          refine wpAny_ready (rs := [17]) (by kernel_rfl) (by simp) ?_
          refine AllReady.cons rfl (fun K hK => ?_) ?_
          · go_simp
            refine hK _ _ ?_
            clear hK K
            refine wpAny_ready (rs := [18]) (by kernel_rfl) (by simp) ?_
            refine AllReady.cons rfl (fun K hK => ?_) ?_
            · (refine step_append_own rfl _ _ 41 rfl B 54 i0 _ 4 16 Try.underlying41 hi hz0 hz1 hz2 rfl (by decide) _ m (brcs o) (by simp [Act.eval, Act.put]) (World.ownsRow.alloc (World.ownsRow.drew (World.ownsRow.drew HO2.out)) _) ⟨w2.heap.size, 0, none⟩ 1 1 [.int .i64 p, .bool _, .bool _, .bool _] (by simp [Act.eval, Act.put]) rfl (new4 _ _ (by simp) _ _ _ _ _) (one4 _ _ _ _) (by simp [maxLen]; omega) (by omega) (by simp; omega) ?_; intro v' w5 hown5 hgrow5; obtain ⟨ao2, cap2, rfl⟩ := slice_of hown5; have hR := if_blk HI2.out.blk hgrow5 rfl HOB.out; obtain ⟨y0, y1, y2, y3, y4, y5, y6, y7, yf⟩ := hR.at_; have g6 := yf 6; obtain ⟨z1, z2⟩ := ifT HT2.out HO2.out hgrow5 rfl)
              try go_simp
              refine hK _ _ ?_
              clear hK K
              refine wpAny_take (i := 19) (v := ?_) rfl (by kernel_rfl) (by kernel_rfl) (by kernel_rfl) (fun _ _ _ h => h) (Or.inl ⟨by kernel_rfl, ?_⟩) ?_
              rotate_left
              · intro w'; go_simp <;> with_reducible rfl
              try simp only [Act.put, List.setIfInBounds_toArray, List.set_cons_zero, List.set_cons_succ]
              refine wpAny_take (i := 20) (v := ?_) rfl (by kernel_rfl) (by kernel_rfl) (by kernel_rfl) (fun _ _ _ h => h) (Or.inl ⟨by kernel_rfl, ?_⟩) ?_
              rotate_left
              · intro w'; go_simp <;> with_reducible rfl
              try simp only [Act.put, List.setIfInBounds_toArray, List.set_cons_zero, List.set_cons_succ]
              refine wpAny_ready (rs := [21]) (by kernel_rfl) (by simp) ?_
              refine AllReady.cons rfl (fun K hK => ?_) ?_
              · go_simp
                refine hK _ _ ?_
                clear hK K
                refine wpAny_done (by kernel_rfl) ?_ _
                go_wp2_with fail
                go_end0
                have hH := if_end (v := .slice ao m cap) HI2.out HV.out hgrow5 rfl rfl rfl rfl (by rw [HMM.out]; exact hown5)
                exact ⟨rfl, ⟨_, hH.1⟩, HF2.out.trans hH.2⟩
              exact AllReady.nil
            exact AllReady.nil
          exact AllReady.nil
        refine AllReady.cons rfl (fun K hK => ?_) ?_
        · go_simp
          refine hK _ _ ?_
          clear hK K
          refine wpAny_ready (rs := [4]) (by kernel_rfl) (by simp) ?_
          refine AllReady.cons rfl (fun K hK => ?_) ?_
          · go_simp
            refine hK _ _ ?_
            clear hK K
            refine wpAny_ready (rs := [18]) (by kernel_rfl) (by simp) ?_
            refine AllReady.cons rfl (fun K hK => ?_) ?_
            · (refine step_append_own rfl _ _ 41 rfl B 54 i0 _ 4 16 Try.underlying41 hi hz0 hz1 hz2 rfl (by decide) _ m (brcs o) (by simp [Act.eval, Act.put]) (World.ownsRow.alloc (World.ownsRow.drew (World.ownsRow.drew HO2.out)) _) ⟨w2.heap.size, 0, none⟩ 1 1 [.int .i64 p, .bool _, .bool _, .bool _] (by simp [Act.eval, Act.put]) rfl (new4 _ _ (by simp) _ _ _ _ _) (one4 _ _ _ _) (by simp [maxLen]; omega) (by omega) (by simp; omega) ?_; intro v' w5 hown5 hgrow5; obtain ⟨ao2, cap2, rfl⟩ := slice_of hown5; have hR := if_blk HI2.out.blk hgrow5 rfl HOB.out; obtain ⟨y0, y1, y2, y3, y4, y5, y6, y7, yf⟩ := hR.at_; have g6 := yf 6; obtain ⟨z1, z2⟩ := ifT HT2.out HO2.out hgrow5 rfl)
              try go_simp
              refine hK _ _ ?_
              clear hK K
              refine wpAny_take (i := 19) (v := ?_) rfl (by kernel_rfl) (by kernel_rfl) (by kernel_rfl) (fun _ _ _ h => h) (Or.inl ⟨by kernel_rfl, ?_⟩) ?_
              rotate_left
              · intro w'; go_simp <;> with_reducible rfl
              try simp only [Act.put, List.setIfInBounds_toArray, List.set_cons_zero, List.set_cons_succ]
              refine wpAny_take (i := 20) (v := ?_) rfl (by kernel_rfl) (by kernel_rfl) (by kernel_rfl) (fun _ _ _ h => h) (Or.inl ⟨by kernel_rfl, ?_⟩) ?_
              rotate_left
              · intro w'; go_simp <;> with_reducible rfl
              try simp only [Act.put, List.setIfInBounds_toArray, List.set_cons_zero, List.set_cons_succ]
              refine wpAny_ready (rs := [21]) (by kernel_rfl) (by simp) ?_
              refine AllReady.cons rfl (fun K hK => ?_) ?_
              · go_simp
                refine hK _ _ ?_
                clear hK K
                refine wpAny_done (by kernel_rfl) ?_ _
                go_wp2_with fail
                go_end0
                have hH := if_end (v := .slice ao m cap) HI2.out HV.out hgrow5 rfl rfl rfl rfl (by rw [HMM.out]; exact hown5)
                exact ⟨rfl, ⟨_, hH.1⟩, HF2.out.trans hH.2⟩
              exact AllReady.nil
            exact AllReady.nil
          exact AllReady.nil
        exact AllReady.nil
      exact AllReady.nil
  | true =>
    go_enter Try.func26, Try.ntmps26
    go_wp2_with fail
    go_region_held3 (fun w' => w'.cell? ⟨b, 5, none⟩ = some (.map (some r.mb)) ∧ w'.cell? ⟨w.heap.size, 0, none⟩ = some (.int .i64 k) ∧ w'.cell? ⟨w.heap.size, 1, none⟩ = some (.string x) ∧ w'.cell? ⟨w.heap.size, 2, none⟩ = some (.int .i64 p)) (go_keep) (first | (go_at_call 37; refine (HMX.out _ (by first | exact bxB | exact bxB.drew) (by rfl)).mono ?_; rintro e w2 ⟨rfl, ⟨lv, hlk⟩, t0, t1, t2, d5, d6, f6, HT2, HI2, HF2⟩))
    all_goals go_wp2_with (first | (go_at_call 27; refine (HKPP.out _ HI2.out).mono ?_; rintro e w3 ⟨rfl, hw3⟩; have hw4 := hw3.symm; subst hw4))
    all_goals
      have how := HOW.out w2 HI2.out
      have HO2 : Hid _ := how
      have HOB : Hid _ := own_ne how HI2.out.blk (by decide)
      have hBw2 := HI2.out.Bw
      have hb2 : b ≠ w2.heap.size := by have := heap_lt HI2.out.blk; omega
      have hT2 : w.heap.size ≠ w2.heap.size := by have := heap_lt HT2.out; omega
      have hA6 : ∀ ob, (w2.alloc ob).cell? ⟨b, 6, none⟩ = some (.slice ao m cap) := fun ob => ((bxB (w := w2) (o := ob)).cell (p := ⟨b, 6, none⟩) (heap_lt HI2.out.blk)).trans d6
      clear how
      refine wp_region_any (by kernel_rfl) ?_
      try (change wpAny _ _ _ _ _ _ _ (World.drew _))
      refine wpAny_take (i := 0) (v := ?_) rfl (by kernel_rfl) (by kernel_rfl) (by kernel_rfl) (fun _ _ _ h => h) (Or.inl ⟨by kernel_rfl, ?_⟩) ?_
      rotate_left
      · intro w'; go_simp <;> with_reducible rfl
      try simp only [Act.put, List.setIfInBounds_toArray, List.set_cons_zero, List.set_cons_succ]
      refine wpAny_take (i := 1) (v := ?_) rfl (by kernel_rfl) (by kernel_rfl) (by kernel_rfl) (fun _ _ _ h => h) (Or.inl ⟨by kernel_rfl, ?_⟩) ?_
      rotate_left
      · intro w'; go_simp <;> with_reducible rfl
      try simp only [Act.put, List.setIfInBounds_toArray, List.set_cons_zero, List.set_cons_succ]
      refine wpAny_take (i := 2) (v := ?_) rfl (by kernel_rfl) (by kernel_rfl) (by kernel_rfl) (fun _ _ _ h => h) (Or.inl ⟨by kernel_rfl, ?_⟩) ?_
      rotate_left
      · intro w'; go_simp <;> with_reducible rfl
      try simp only [Act.put, List.setIfInBounds_toArray, List.set_cons_zero, List.set_cons_succ]
      refine wpAny_take (i := 3) (v := ?_) rfl (by kernel_rfl) (by kernel_rfl) (by kernel_rfl) (fun _ _ _ h => h) (Or.inl ⟨by kernel_rfl, ?_⟩) ?_
      rotate_left
      · intro w'; go_simp <;> with_reducible rfl
      try simp only [Act.put, List.setIfInBounds_toArray, List.set_cons_zero, List.set_cons_succ]
      refine wpAny_take (i := 5) (v := ?_) rfl (by kernel_rfl) (by kernel_rfl) (by kernel_rfl) (fun _ _ _ h => h) (Or.inl ⟨by kernel_rfl, ?_⟩) ?_
      rotate_left
      · intro w'; go_simp <;> with_reducible rfl
      try simp only [Act.put, List.setIfInBounds_toArray, List.set_cons_zero, List.set_cons_succ]
      refine wpAny_take (i := 7) (v := ?_) rfl (by kernel_rfl) (by kernel_rfl) (by kernel_rfl) (fun _ _ _ h => h) (Or.inl ⟨by kernel_rfl, ?_⟩) ?_
      rotate_left
      · intro w'; go_simp <;> with_reducible rfl
      try simp only [Act.put, List.setIfInBounds_toArray, List.set_cons_zero, List.set_cons_succ]
      refine wpAny_take (i := 8) (v := ?_) rfl (by kernel_rfl) (by kernel_rfl) (by kernel_rfl) (fun _ _ _ h => h) (Or.inl ⟨by kernel_rfl, ?_⟩) ?_
      rotate_left
      · intro w'; go_simp <;> with_reducible rfl
      try simp only [Act.put, List.setIfInBounds_toArray, List.set_cons_zero, List.set_cons_succ]
      refine wpAny_take (i := 9) (v := ?_) rfl (by kernel_rfl) (by kernel_rfl) (by kernel_rfl) (fun _ _ _ h => h) (Or.inl ⟨by kernel_rfl, ?_⟩) ?_
      rotate_left
      · intro w'; go_simp <;> with_reducible rfl
      try simp only [Act.put, List.setIfInBounds_toArray, List.set_cons_zero, List.set_cons_succ]
      refine wpAny_take (i := 10) (v := ?_) rfl (by kernel_rfl) (by kernel_rfl) (by kernel_rfl) (fun _ _ _ h => h) (Or.inl ⟨by kernel_rfl, ?_⟩) ?_
      rotate_left
      · intro w'; go_simp <;> with_reducible rfl
      try simp only [Act.put, List.setIfInBounds_toArray, List.set_cons_zero, List.set_cons_succ]
      refine wpAny_take (i := 11) (v := ?_) rfl (by kernel_rfl) (by kernel_rfl) (by kernel_rfl) (fun _ _ _ h => h) (Or.inl ⟨by kernel_rfl, ?_⟩) ?_
      rotate_left
      · intro w'; go_simp <;> with_reducible rfl
      try simp only [Act.put, List.setIfInBounds_toArray, List.set_cons_zero, List.set_cons_succ]
      refine wpAny_ready (rs := [4, 6, 12]) (by kernel_rfl) (by simp) ?_
      refine AllReady.cons rfl (fun K hK => ?_) ?_
      · go_simp
        refine hK _ _ ?_
        clear hK K
        refine wpAny_ready (rs := [6, 12]) (by kernel_rfl) (by simp) ?_
        refine AllReady.cons rfl (fun K hK => ?_) ?_
        · go_simp
          refine hK _ _ ?_
          clear hK K
          refine wpAny_ready (rs := [12]) (by kernel_rfl) (by simp) ?_
          refine AllReady.cons rfl (fun K hK => ?_) ?_
          · go_simp
            refine hK _ _ ?_
            clear hK K
            refine wpAny_take (i := 13) (v := ?_) rfl (by kernel_rfl) (by kernel_rfl) (by kernel_rfl) (fun _ _ _ h => h) (Or.inl ⟨by kernel_rfl, ?_⟩) ?_
            rotate_left
            · intro w'; go_simp <;> with_reducible rfl
            try simp only [Act.put, List.setIfInBounds_toArray, List.set_cons_zero, List.set_cons_succ]
            refine wpAny_take (i := 14) (v := ?_) rfl (by kernel_rfl) (by kernel_rfl) (by kernel_rfl) (fun _ _ _ h => h) (Or.inl ⟨by kernel_rfl, ?_⟩) ?_
            rotate_left
            · intro w'; go_simp <;> with_reducible rfl
            try simp only [Act.put, List.setIfInBounds_toArray, List.set_cons_zero, List.set_cons_succ]
            refine wpAny_take (i := 15) (v := ?_) rfl (by kernel_rfl) (by kernel_rfl) (by kernel_rfl) (fun _ _ _ h => h) (Or.inl ⟨by kernel_rfl, ?_⟩) ?_
            rotate_left
            · intro w'; go_simp <;> with_reducible rfl
            try simp only [Act.put, List.setIfInBounds_toArray, List.set_cons_zero, List.set_cons_succ]
            refine wpAny_take (i := 16) (v := ?_) rfl (by kernel_rfl) (by kernel_rfl) (by kernel_rfl) (fun _ _ _ h => h) (Or.inl ⟨by kernel_rfl, ?_⟩) ?_
            rotate_left
            · intro w'; go_simp <;> with_reducible rfl
            try simp only [Act.put, List.setIfInBounds_toArray, List.set_cons_zero, List.set_cons_succ]
            refine wpAny_ready (rs := [17]) (by kernel_rfl) (by simp) ?_
            refine AllReady.cons rfl (fun K hK => ?_) ?_
            · go_simp
              refine hK _ _ ?_
              clear hK K
              refine wpAny_ready (rs := [18]) (by kernel_rfl) (by simp) ?_
              refine AllReady.cons rfl (fun K hK => ?_) ?_
              · (refine step_append_own rfl _ _ 41 rfl B 54 i0 _ 4 16 Try.underlying41 hi hz0 hz1 hz2 rfl (by decide) _ m (brcs o) (by simp [Act.eval, Act.put]) (World.ownsRow.alloc (World.ownsRow.drew (World.ownsRow.drew HO2.out)) _) ⟨w2.heap.size, 0, none⟩ 1 1 [.int .i64 p, .bool _, .bool _, .bool _] (by simp [Act.eval, Act.put]) rfl (new4 _ _ (by simp) _ _ _ _ _) (one4 _ _ _ _) (by simp [maxLen]; omega) (by omega) (by simp; omega) ?_; intro v' w5 hown5 hgrow5; obtain ⟨ao2, cap2, rfl⟩ := slice_of hown5; have hR := if_blk HI2.out.blk hgrow5 rfl HOB.out; obtain ⟨y0, y1, y2, y3, y4, y5, y6, y7, yf⟩ := hR.at_; have g6 := yf 6; obtain ⟨z1, z2⟩ := ifT HT2.out HO2.out hgrow5 rfl)
                try go_simp
                refine hK _ _ ?_
                clear hK K
                refine wpAny_take (i := 19) (v := ?_) rfl (by kernel_rfl) (by kernel_rfl) (by kernel_rfl) (fun _ _ _ h => h) (Or.inl ⟨by kernel_rfl, ?_⟩) ?_
                rotate_left
                · intro w'; go_simp <;> with_reducible rfl
                try simp only [Act.put, List.setIfInBounds_toArray, List.set_cons_zero, List.set_cons_succ]
                refine wpAny_take (i := 20) (v := ?_) rfl (by kernel_rfl) (by kernel_rfl) (by kernel_rfl) (fun _ _ _ h => h) (Or.inl ⟨by kernel_rfl, ?_⟩) ?_
                rotate_left
                · intro w'; go_simp <;> with_reducible rfl
                try simp only [Act.put, List.setIfInBounds_toArray, List.set_cons_zero, List.set_cons_succ]
                refine wpAny_ready (rs := [21]) (by kernel_rfl) (by simp) ?_
                refine AllReady.cons rfl (fun K hK => ?_) ?_
                · go_simp
                  refine hK _ _ ?_
                  clear hK K
                  refine wpAny_done (by kernel_rfl) ?_ _
                  go_wp2_with fail
                  go_end0
                  have hH := if_end (v := .slice ao m cap) HI2.out HV.out hgrow5 rfl rfl rfl rfl (by rw [HMM.out]; exact hown5)
                  exact ⟨rfl, ⟨_, hH.1⟩, HF2.out.trans hH.2⟩
                exact AllReady.nil
              exact AllReady.nil
            exact AllReady.nil
          exact AllReady.nil
        refine AllReady.cons rfl (fun K hK => ?_) ?_
        · go_simp
          refine hK _ _ ?_
          clear hK K
          refine wpAny_take (i := 13) (v := ?_) rfl (by kernel_rfl) (by kernel_rfl) (by kernel_rfl) (fun _ _ _ h => h) (Or.inl ⟨by kernel_rfl, ?_⟩) ?_
          rotate_left
          · intro w'; go_simp <;> with_reducible rfl
          try simp only [Act.put, List.setIfInBounds_toArray, List.set_cons_zero, List.set_cons_succ]
          refine wpAny_take (i := 14) (v := ?_) rfl (by kernel_rfl) (by kernel_rfl) (by kernel_rfl) (fun _ _ _ h => h) (Or.inl ⟨by kernel_rfl, ?_⟩) ?_
          rotate_left
          · intro w'; go_simp <;> with_reducible rfl
          try simp only [Act.put, List.setIfInBounds_toArray, List.set_cons_zero, List.set_cons_succ]
          refine wpAny_take (i := 15) (v := ?_) rfl (by kernel_rfl) (by kernel_rfl) (by kernel_rfl) (fun _ _ _ h => h) (Or.inl ⟨by kernel_rfl, ?_⟩) ?_
          rotate_left
          · intro w'; go_simp <;> with_reducible rfl
          try simp only [Act.put, List.setIfInBounds_toArray, List.set_cons_zero, List.set_cons_succ]
          refine wpAny_ready (rs := [6]) (by kernel_rfl) (by simp) ?_
          refine AllReady.cons rfl (fun K hK => ?_) ?_
          · go_simp
            refine hK _ _ ?_
            clear hK K
            refine wpAny_take (i := 16) (v := ?_) rfl (by kernel_rfl) (by kernel_rfl) (by kernel_rfl) (fun _ _ _ h => h) (Or.inl ⟨by kernel_rfl, ?_⟩) ?_
            rotate_left
            · intro w'; go_simp <;> with_reducible rfl
            try simp only [Act.put, List.setIfInBounds_toArray, List.set_cons_zero, List.set_cons_succ]
            refine wpAny_ready (rs := [17]) (by kernel_rfl) (by simp) ?_
            refine AllReady.cons rfl (fun K hK => ?_) ?_
            · go_simp
              refine hK _ _ ?_
              clear hK K
              refine wpAny_ready (rs := [18]) (by kernel_rfl) (by simp) ?_
              refine AllReady.cons rfl (fun K hK => ?_) ?_
              · (refine step_append_own rfl _ _ 41 rfl B 54 i0 _ 4 16 Try.underlying41 hi hz0 hz1 hz2 rfl (by decide) _ m (brcs o) (by simp [Act.eval, Act.put]) (World.ownsRow.alloc (World.ownsRow.drew (World.ownsRow.drew HO2.out)) _) ⟨w2.heap.size, 0, none⟩ 1 1 [.int .i64 p, .bool _, .bool _, .bool _] (by simp [Act.eval, Act.put]) rfl (new4 _ _ (by simp) _ _ _ _ _) (one4 _ _ _ _) (by simp [maxLen]; omega) (by omega) (by simp; omega) ?_; intro v' w5 hown5 hgrow5; obtain ⟨ao2, cap2, rfl⟩ := slice_of hown5; have hR := if_blk HI2.out.blk hgrow5 rfl HOB.out; obtain ⟨y0, y1, y2, y3, y4, y5, y6, y7, yf⟩ := hR.at_; have g6 := yf 6; obtain ⟨z1, z2⟩ := ifT HT2.out HO2.out hgrow5 rfl)
                try go_simp
                refine hK _ _ ?_
                clear hK K
                refine wpAny_take (i := 19) (v := ?_) rfl (by kernel_rfl) (by kernel_rfl) (by kernel_rfl) (fun _ _ _ h => h) (Or.inl ⟨by kernel_rfl, ?_⟩) ?_
                rotate_left
                · intro w'; go_simp <;> with_reducible rfl
                try simp only [Act.put, List.setIfInBounds_toArray, List.set_cons_zero, List.set_cons_succ]
                refine wpAny_take (i := 20) (v := ?_) rfl (by kernel_rfl) (by kernel_rfl) (by kernel_rfl) (fun _ _ _ h => h) (Or.inl ⟨by kernel_rfl, ?_⟩) ?_
                rotate_left
                · intro w'; go_simp <;> with_reducible rfl
                try simp only [Act.put, List.setIfInBounds_toArray, List.set_cons_zero, List.set_cons_succ]
                refine wpAny_ready (rs := [21]) (by kernel_rfl) (by simp) ?_
                refine AllReady.cons rfl (fun K hK => ?_) ?_
                · go_simp
                  refine hK _ _ ?_
                  clear hK K
                  refine wpAny_done (by kernel_rfl) ?_ _
                  go_wp2_with fail
                  go_end0
                  have hH := if_end (v := .slice ao m cap) HI2.out HV.out hgrow5 rfl rfl rfl rfl (by rw [HMM.out]; exact hown5)
                  exact ⟨rfl, ⟨_, hH.1⟩, HF2.out.trans hH.2⟩
                exact AllReady.nil
              exact AllReady.nil
            exact AllReady.nil
          exact AllReady.nil
        exact AllReady.nil
      refine AllReady.cons rfl (fun K hK => ?_) ?_
      · go_simp
        refine hK _ _ ?_
        clear hK K
        refine wpAny_ready (rs := [4, 12]) (by kernel_rfl) (by simp) ?_
        refine AllReady.cons rfl (fun K hK => ?_) ?_
        · go_simp
          refine hK _ _ ?_
          clear hK K
          refine wpAny_ready (rs := [12]) (by kernel_rfl) (by simp) ?_
          refine AllReady.cons rfl (fun K hK => ?_) ?_
          · go_simp
            refine hK _ _ ?_
            clear hK K
            refine wpAny_take (i := 13) (v := ?_) rfl (by kernel_rfl) (by kernel_rfl) (by kernel_rfl) (fun _ _ _ h => h) (Or.inl ⟨by kernel_rfl, ?_⟩) ?_
            rotate_left
            · intro w'; go_simp <;> with_reducible rfl
            try simp only [Act.put, List.setIfInBounds_toArray, List.set_cons_zero, List.set_cons_succ]
            refine wpAny_take (i := 14) (v := ?_) rfl (by kernel_rfl) (by kernel_rfl) (by kernel_rfl) (fun _ _ _ h => h) (Or.inl ⟨by kernel_rfl, ?_⟩) ?_
            rotate_left
            · intro w'; go_simp <;> with_reducible rfl
            try simp only [Act.put, List.setIfInBounds_toArray, List.set_cons_zero, List.set_cons_succ]
            refine wpAny_take (i := 15) (v := ?_) rfl (by kernel_rfl) (by kernel_rfl) (by kernel_rfl) (fun _ _ _ h => h) (Or.inl ⟨by kernel_rfl, ?_⟩) ?_
            rotate_left
            · intro w'; go_simp <;> with_reducible rfl
            try simp only [Act.put, List.setIfInBounds_toArray, List.set_cons_zero, List.set_cons_succ]
            refine wpAny_take (i := 16) (v := ?_) rfl (by kernel_rfl) (by kernel_rfl) (by kernel_rfl) (fun _ _ _ h => h) (Or.inl ⟨by kernel_rfl, ?_⟩) ?_
            rotate_left
            · intro w'; go_simp <;> with_reducible rfl
            try simp only [Act.put, List.setIfInBounds_toArray, List.set_cons_zero, List.set_cons_succ]
            refine wpAny_ready (rs := [17]) (by kernel_rfl) (by simp) ?_
            refine AllReady.cons rfl (fun K hK => ?_) ?_
            · go_simp
              refine hK _ _ ?_
              clear hK K
              refine wpAny_ready (rs := [18]) (by kernel_rfl) (by simp) ?_
              refine AllReady.cons rfl (fun K hK => ?_) ?_
              · (refine step_append_own rfl _ _ 41 rfl B 54 i0 _ 4 16 Try.underlying41 hi hz0 hz1 hz2 rfl (by decide) _ m (brcs o) (by simp [Act.eval, Act.put]) (World.ownsRow.alloc (World.ownsRow.drew (World.ownsRow.drew HO2.out)) _) ⟨w2.heap.size, 0, none⟩ 1 1 [.int .i64 p, .bool _, .bool _, .bool _] (by simp [Act.eval, Act.put]) rfl (new4 _ _ (by simp) _ _ _ _ _) (one4 _ _ _ _) (by simp [maxLen]; omega) (by omega) (by simp; omega) ?_; intro v' w5 hown5 hgrow5; obtain ⟨ao2, cap2, rfl⟩ := slice_of hown5; have hR := if_blk HI2.out.blk hgrow5 rfl HOB.out; obtain ⟨y0, y1, y2, y3, y4, y5, y6, y7, yf⟩ := hR.at_; have g6 := yf 6; obtain ⟨z1, z2⟩ := ifT HT2.out HO2.out hgrow5 rfl)
                try go_simp
                refine hK _ _ ?_
                clear hK K
                refine wpAny_take (i := 19) (v := ?_) rfl (by kernel_rfl) (by kernel_rfl) (by kernel_rfl) (fun _ _ _ h => h) (Or.inl ⟨by kernel_rfl, ?_⟩) ?_
                rotate_left
                · intro w'; go_simp <;> with_reducible rfl
                try simp only [Act.put, List.setIfInBounds_toArray, List.set_cons_zero, List.set_cons_succ]
                refine wpAny_take (i := 20) (v := ?_) rfl (by kernel_rfl) (by kernel_rfl) (by kernel_rfl) (fun _ _ _ h => h) (Or.inl ⟨by kernel_rfl, ?_⟩) ?_
                rotate_left
                · intro w'; go_simp <;> with_reducible rfl
                try simp only [Act.put, List.setIfInBounds_toArray, List.set_cons_zero, List.set_cons_succ]
                refine wpAny_ready (rs := [21]) (by kernel_rfl) (by simp) ?_
                refine AllReady.cons rfl (fun K hK => ?_) ?_
                · go_simp
                  refine hK _ _ ?_
                  clear hK K
                  refine wpAny_done (by kernel_rfl) ?_ _
                  go_wp2_with fail
                  go_end0
                  have hH := if_end (v := .slice ao m cap) HI2.out HV.out hgrow5 rfl rfl rfl rfl (by rw [HMM.out]; exact hown5)
                  exact ⟨rfl, ⟨_, hH.1⟩, HF2.out.trans hH.2⟩
                exact AllReady.nil
              exact AllReady.nil
            exact AllReady.nil
          exact AllReady.nil
        refine AllReady.cons rfl (fun K hK => ?_) ?_
        · go_simp
          refine hK _ _ ?_
          clear hK K
          refine wpAny_take (i := 13) (v := ?_) rfl (by kernel_rfl) (by kernel_rfl) (by kernel_rfl) (fun _ _ _ h => h) (Or.inl ⟨by kernel_rfl, ?_⟩) ?_
          rotate_left
          · intro w'; go_simp <;> with_reducible rfl
          try simp only [Act.put, List.setIfInBounds_toArray, List.set_cons_zero, List.set_cons_succ]
          refine wpAny_take (i := 14) (v := ?_) rfl (by kernel_rfl) (by kernel_rfl) (by kernel_rfl) (fun _ _ _ h => h) (Or.inl ⟨by kernel_rfl, ?_⟩) ?_
          rotate_left
          · intro w'; go_simp <;> with_reducible rfl
          try simp only [Act.put, List.setIfInBounds_toArray, List.set_cons_zero, List.set_cons_succ]
          refine wpAny_take (i := 15) (v := ?_) rfl (by kernel_rfl) (by kernel_rfl) (by kernel_rfl) (fun _ _ _ h => h) (Or.inl ⟨by kernel_rfl, ?_⟩) ?_
          rotate_left
          · intro w'; go_simp <;> with_reducible rfl
          try simp only [Act.put, List.setIfInBounds_toArray, List.set_cons_zero, List.set_cons_succ]
          refine wpAny_take (i := 16) (v := ?_) rfl (by kernel_rfl) (by kernel_rfl) (by kernel_rfl) (fun _ _ _ h => h) (Or.inl ⟨by kernel_rfl, ?_⟩) ?_
          rotate_left
          · intro w'; go_simp <;> with_reducible rfl
          try simp only [Act.put, List.setIfInBounds_toArray, List.set_cons_zero, List.set_cons_succ]
          refine wpAny_ready (rs := [4, 17]) (by kernel_rfl) (by simp) ?_
          refine AllReady.cons rfl (fun K hK => ?_) ?_
          · go_simp
            refine hK _ _ ?_
            clear hK K
            refine wpAny_ready (rs := [17]) (by kernel_rfl) (by simp) ?_
            refine AllReady.cons rfl (fun K hK => ?_) ?_
            · go_simp
              refine hK _ _ ?_
              clear hK K
              refine wpAny_ready (rs := [18]) (by kernel_rfl) (by simp) ?_
              refine AllReady.cons rfl (fun K hK => ?_) ?_
              · (refine step_append_own rfl _ _ 41 rfl B 54 i0 _ 4 16 Try.underlying41 hi hz0 hz1 hz2 rfl (by decide) _ m (brcs o) (by simp [Act.eval, Act.put]) (World.ownsRow.alloc (World.ownsRow.drew (World.ownsRow.drew HO2.out)) _) ⟨w2.heap.size, 0, none⟩ 1 1 [.int .i64 p, .bool _, .bool _, .bool _] (by simp [Act.eval, Act.put]) rfl (new4 _ _ (by simp) _ _ _ _ _) (one4 _ _ _ _) (by simp [maxLen]; omega) (by omega) (by simp; omega) ?_; intro v' w5 hown5 hgrow5; obtain ⟨ao2, cap2, rfl⟩ := slice_of hown5; have hR := if_blk HI2.out.blk hgrow5 rfl HOB.out; obtain ⟨y0, y1, y2, y3, y4, y5, y6, y7, yf⟩ := hR.at_; have g6 := yf 6; obtain ⟨z1, z2⟩ := ifT HT2.out HO2.out hgrow5 rfl)
                try go_simp
                refine hK _ _ ?_
                clear hK K
                refine wpAny_take (i := 19) (v := ?_) rfl (by kernel_rfl) (by kernel_rfl) (by kernel_rfl) (fun _ _ _ h => h) (Or.inl ⟨by kernel_rfl, ?_⟩) ?_
                rotate_left
                · intro w'; go_simp <;> with_reducible rfl
                try simp only [Act.put, List.setIfInBounds_toArray, List.set_cons_zero, List.set_cons_succ]
                refine wpAny_take (i := 20) (v := ?_) rfl (by kernel_rfl) (by kernel_rfl) (by kernel_rfl) (fun _ _ _ h => h) (Or.inl ⟨by kernel_rfl, ?_⟩) ?_
                rotate_left
                · intro w'; go_simp <;> with_reducible rfl
                try simp only [Act.put, List.setIfInBounds_toArray, List.set_cons_zero, List.set_cons_succ]
                refine wpAny_ready (rs := [21]) (by kernel_rfl) (by simp) ?_
                refine AllReady.cons rfl (fun K hK => ?_) ?_
                · go_simp
                  refine hK _ _ ?_
                  clear hK K
                  refine wpAny_done (by kernel_rfl) ?_ _
                  go_wp2_with fail
                  go_end0
                  have hH := if_end (v := .slice ao m cap) HI2.out HV.out hgrow5 rfl rfl rfl rfl (by rw [HMM.out]; exact hown5)
                  exact ⟨rfl, ⟨_, hH.1⟩, HF2.out.trans hH.2⟩
                exact AllReady.nil
              exact AllReady.nil
            exact AllReady.nil
          refine AllReady.cons rfl (fun K hK => ?_) ?_
          · go_simp
            refine hK _ _ ?_
            clear hK K
            refine wpAny_ready (rs := [4]) (by kernel_rfl) (by simp) ?_
            refine AllReady.cons rfl (fun K hK => ?_) ?_
            · go_simp
              refine hK _ _ ?_
              clear hK K
              refine wpAny_ready (rs := [18]) (by kernel_rfl) (by simp) ?_
              refine AllReady.cons rfl (fun K hK => ?_) ?_
              · (refine step_append_own rfl _ _ 41 rfl B 54 i0 _ 4 16 Try.underlying41 hi hz0 hz1 hz2 rfl (by decide) _ m (brcs o) (by simp [Act.eval, Act.put]) (World.ownsRow.alloc (World.ownsRow.drew (World.ownsRow.drew HO2.out)) _) ⟨w2.heap.size, 0, none⟩ 1 1 [.int .i64 p, .bool _, .bool _, .bool _] (by simp [Act.eval, Act.put]) rfl (new4 _ _ (by simp) _ _ _ _ _) (one4 _ _ _ _) (by simp [maxLen]; omega) (by omega) (by simp; omega) ?_; intro v' w5 hown5 hgrow5; obtain ⟨ao2, cap2, rfl⟩ := slice_of hown5; have hR := if_blk HI2.out.blk hgrow5 rfl HOB.out; obtain ⟨y0, y1, y2, y3, y4, y5, y6, y7, yf⟩ := hR.at_; have g6 := yf 6; obtain ⟨z1, z2⟩ := ifT HT2.out HO2.out hgrow5 rfl)
                try go_simp
                refine hK _ _ ?_
                clear hK K
                refine wpAny_take (i := 19) (v := ?_) rfl (by kernel_rfl) (by kernel_rfl) (by kernel_rfl) (fun _ _ _ h => h) (Or.inl ⟨by kernel_rfl, ?_⟩) ?_
                rotate_left
                · intro w'; go_simp <;> with_reducible rfl
                try simp only [Act.put, List.setIfInBounds_toArray, List.set_cons_zero, List.set_cons_succ]
                refine wpAny_take (i := 20) (v := ?_) rfl (by kernel_rfl) (by kernel_rfl) (by kernel_rfl) (fun _ _ _ h => h) (Or.inl ⟨by kernel_rfl, ?_⟩) ?_
                rotate_left
                · intro w'; go_simp <;> with_reducible rfl
                try simp only [Act.put, List.setIfInBounds_toArray, List.set_cons_zero, List.set_cons_succ]
                refine wpAny_ready (rs := [21]) (by kernel_rfl) (by simp) ?_
                refine AllReady.cons rfl (fun K hK => ?_) ?_
                · go_simp
                  refine hK _ _ ?_
                  clear hK K
                  refine wpAny_done (by kernel_rfl) ?_ _
                  go_wp2_with fail
                  go_end0
                  have hH := if_end (v := .slice ao m cap) HI2.out HV.out hgrow5 rfl rfl rfl rfl (by rw [HMM.out]; exact hown5)
                  exact ⟨rfl, ⟨_, hH.1⟩, HF2.out.trans hH.2⟩
                exact AllReady.nil
              exact AllReady.nil
            exact AllReady.nil
          exact AllReady.nil
        exact AllReady.nil
      refine AllReady.cons rfl (fun K hK => ?_) ?_
      · go_simp
        refine hK _ _ ?_
        clear hK K
        refine wpAny_take (i := 13) (v := ?_) rfl (by kernel_rfl) (by kernel_rfl) (by kernel_rfl) (fun _ _ _ h => h) (Or.inl ⟨by kernel_rfl, ?_⟩) ?_
        rotate_left
        · intro w'; go_simp <;> with_reducible rfl
        try simp only [Act.put, List.setIfInBounds_toArray, List.set_cons_zero, List.set_cons_succ]
        refine wpAny_take (i := 14) (v := ?_) rfl (by kernel_rfl) (by kernel_rfl) (by kernel_rfl) (fun _ _ _ h => h) (Or.inl ⟨by kernel_rfl, ?_⟩) ?_
        rotate_left
        · intro w'; go_simp <;> with_reducible rfl
        try simp only [Act.put, List.setIfInBounds_toArray, List.set_cons_zero, List.set_cons_succ]
        refine wpAny_take (i := 15) (v := ?_) rfl (by kernel_rfl) (by kernel_rfl) (by kernel_rfl) (fun _ _ _ h => h) (Or.inl ⟨by kernel_rfl, ?_⟩) ?_
        rotate_left
        · intro w'; go_simp <;> with_reducible rfl
        try simp only [Act.put, List.setIfInBounds_toArray, List.set_cons_zero, List.set_cons_succ]
        refine wpAny_ready (rs := [4, 6]) (by kernel_rfl) (by simp) ?_
        refine AllReady.cons rfl (fun K hK => ?_) ?_
        · go_simp
          refine hK _ _ ?_
          clear hK K
          refine wpAny_ready (rs := [6]) (by kernel_rfl) (by simp) ?_
          refine AllReady.cons rfl (fun K hK => ?_) ?_
          · go_simp
            refine hK _ _ ?_
            clear hK K
            refine wpAny_take (i := 16) (v := ?_) rfl (by kernel_rfl) (by kernel_rfl) (by kernel_rfl) (fun _ _ _ h => h) (Or.inl ⟨by kernel_rfl, ?_⟩) ?_
            rotate_left
            · intro w'; go_simp <;> with_reducible rfl
            try simp only [Act.put, List.setIfInBounds_toArray, List.set_cons_zero, List.set_cons_succ]
            refine wpAny_ready (rs := [17]) (by kernel_rfl) (by simp) ?_
            refine AllReady.cons rfl (fun K hK => ?_) ?_
            · go_simp
              refine hK _ _ ?_
              clear hK K
              refine wpAny_ready (rs := [18]) (by kernel_rfl) (by simp) ?_
              refine AllReady.cons rfl (fun K hK => ?_) ?_
              · (refine step_append_own rfl _ _ 41 rfl B 54 i0 _ 4 16 Try.underlying41 hi hz0 hz1 hz2 rfl (by decide) _ m (brcs o) (by simp [Act.eval, Act.put]) (World.ownsRow.alloc (World.ownsRow.drew (World.ownsRow.drew HO2.out)) _) ⟨w2.heap.size, 0, none⟩ 1 1 [.int .i64 p, .bool _, .bool _, .bool _] (by simp [Act.eval, Act.put]) rfl (new4 _ _ (by simp) _ _ _ _ _) (one4 _ _ _ _) (by simp [maxLen]; omega) (by omega) (by simp; omega) ?_; intro v' w5 hown5 hgrow5; obtain ⟨ao2, cap2, rfl⟩ := slice_of hown5; have hR := if_blk HI2.out.blk hgrow5 rfl HOB.out; obtain ⟨y0, y1, y2, y3, y4, y5, y6, y7, yf⟩ := hR.at_; have g6 := yf 6; obtain ⟨z1, z2⟩ := ifT HT2.out HO2.out hgrow5 rfl)
                try go_simp
                refine hK _ _ ?_
                clear hK K
                refine wpAny_take (i := 19) (v := ?_) rfl (by kernel_rfl) (by kernel_rfl) (by kernel_rfl) (fun _ _ _ h => h) (Or.inl ⟨by kernel_rfl, ?_⟩) ?_
                rotate_left
                · intro w'; go_simp <;> with_reducible rfl
                try simp only [Act.put, List.setIfInBounds_toArray, List.set_cons_zero, List.set_cons_succ]
                refine wpAny_take (i := 20) (v := ?_) rfl (by kernel_rfl) (by kernel_rfl) (by kernel_rfl) (fun _ _ _ h => h) (Or.inl ⟨by kernel_rfl, ?_⟩) ?_
                rotate_left
                · intro w'; go_simp <;> with_reducible rfl
                try simp only [Act.put, List.setIfInBounds_toArray, List.set_cons_zero, List.set_cons_succ]
                refine wpAny_ready (rs := [21]) (by kernel_rfl) (by simp) ?_
                refine AllReady.cons rfl (fun K hK => ?_) ?_
                · go_simp
                  refine hK _ _ ?_
                  clear hK K
                  refine wpAny_done (by kernel_rfl) ?_ _
                  go_wp2_with fail
                  go_end0
                  have hH := if_end (v := .slice ao m cap) HI2.out HV.out hgrow5 rfl rfl rfl rfl (by rw [HMM.out]; exact hown5)
                  exact ⟨rfl, ⟨_, hH.1⟩, HF2.out.trans hH.2⟩
                exact AllReady.nil
              exact AllReady.nil
            exact AllReady.nil
          exact AllReady.nil
        refine AllReady.cons rfl (fun K hK => ?_) ?_
        · go_simp
          refine hK _ _ ?_
          clear hK K
          refine wpAny_take (i := 16) (v := ?_) rfl (by kernel_rfl) (by kernel_rfl) (by kernel_rfl) (fun _ _ _ h => h) (Or.inl ⟨by kernel_rfl, ?_⟩) ?_
          rotate_left
          · intro w'; go_simp <;> with_reducible rfl
          try simp only [Act.put, List.setIfInBounds_toArray, List.set_cons_zero, List.set_cons_succ]
          refine wpAny_ready (rs := [4, 17]) (by kernel_rfl) (by simp) ?_
          refine AllReady.cons rfl (fun K hK => ?_) ?_
          · go_simp
            refine hK _ _ ?_
            clear hK K
            refine wpAny_ready (rs := [17]) (by kernel_rfl) (by simp) ?_
            refine AllReady.cons rfl (fun K hK => ?_) ?_
            · go_simp
              refine hK _ _ ?_
              clear hK K
              refine wpAny_ready (rs := [18]) (by kernel_rfl) (by simp) ?_
              refine AllReady.cons rfl (fun K hK => ?_) ?_
              · (refine step_append_own rfl _ _ 41 rfl B 54 i0 _ 4 16 Try.underlying41 hi hz0 hz1 hz2 rfl (by decide) _ m (brcs o) (by simp [Act.eval, Act.put]) (World.ownsRow.alloc (World.ownsRow.drew (World.ownsRow.drew HO2.out)) _) ⟨w2.heap.size, 0, none⟩ 1 1 [.int .i64 p, .bool _, .bool _, .bool _] (by simp [Act.eval, Act.put]) rfl (new4 _ _ (by simp) _ _ _ _ _) (one4 _ _ _ _) (by simp [maxLen]; omega) (by omega) (by simp; omega) ?_; intro v' w5 hown5 hgrow5; obtain ⟨ao2, cap2, rfl⟩ := slice_of hown5; have hR := if_blk HI2.out.blk hgrow5 rfl HOB.out; obtain ⟨y0, y1, y2, y3, y4, y5, y6, y7, yf⟩ := hR.at_; have g6 := yf 6; obtain ⟨z1, z2⟩ := ifT HT2.out HO2.out hgrow5 rfl)
                try go_simp
                refine hK _ _ ?_
                clear hK K
                refine wpAny_take (i := 19) (v := ?_) rfl (by kernel_rfl) (by kernel_rfl) (by kernel_rfl) (fun _ _ _ h => h) (Or.inl ⟨by kernel_rfl, ?_⟩) ?_
                rotate_left
                · intro w'; go_simp <;> with_reducible rfl
                try simp only [Act.put, List.setIfInBounds_toArray, List.set_cons_zero, List.set_cons_succ]
                refine wpAny_take (i := 20) (v := ?_) rfl (by kernel_rfl) (by kernel_rfl) (by kernel_rfl) (fun _ _ _ h => h) (Or.inl ⟨by kernel_rfl, ?_⟩) ?_
                rotate_left
                · intro w'; go_simp <;> with_reducible rfl
                try simp only [Act.put, List.setIfInBounds_toArray, List.set_cons_zero, List.set_cons_succ]
                refine wpAny_ready (rs := [21]) (by kernel_rfl) (by simp) ?_
                refine AllReady.cons rfl (fun K hK => ?_) ?_
                · go_simp
                  refine hK _ _ ?_
                  clear hK K
                  refine wpAny_done (by kernel_rfl) ?_ _
                  go_wp2_with fail
                  go_end0
                  have hH := if_end (v := .slice ao m cap) HI2.out HV.out hgrow5 rfl rfl rfl rfl (by rw [HMM.out]; exact hown5)
                  exact ⟨rfl, ⟨_, hH.1⟩, HF2.out.trans hH.2⟩
                exact AllReady.nil
              exact AllReady.nil
            exact AllReady.nil
          refine AllReady.cons rfl (fun K hK => ?_) ?_
          · go_simp
            refine hK _ _ ?_
            clear hK K
            refine wpAny_ready (rs := [4]) (by kernel_rfl) (by simp) ?_
            refine AllReady.cons rfl (fun K hK => ?_) ?_
            · go_simp
              refine hK _ _ ?_
              clear hK K
              refine wpAny_ready (rs := [18]) (by kernel_rfl) (by simp) ?_
              refine AllReady.cons rfl (fun K hK => ?_) ?_
              · (refine step_append_own rfl _ _ 41 rfl B 54 i0 _ 4 16 Try.underlying41 hi hz0 hz1 hz2 rfl (by decide) _ m (brcs o) (by simp [Act.eval, Act.put]) (World.ownsRow.alloc (World.ownsRow.drew (World.ownsRow.drew HO2.out)) _) ⟨w2.heap.size, 0, none⟩ 1 1 [.int .i64 p, .bool _, .bool _, .bool _] (by simp [Act.eval, Act.put]) rfl (new4 _ _ (by simp) _ _ _ _ _) (one4 _ _ _ _) (by simp [maxLen]; omega) (by omega) (by simp; omega) ?_; intro v' w5 hown5 hgrow5; obtain ⟨ao2, cap2, rfl⟩ := slice_of hown5; have hR := if_blk HI2.out.blk hgrow5 rfl HOB.out; obtain ⟨y0, y1, y2, y3, y4, y5, y6, y7, yf⟩ := hR.at_; have g6 := yf 6; obtain ⟨z1, z2⟩ := ifT HT2.out HO2.out hgrow5 rfl)
                try go_simp
                refine hK _ _ ?_
                clear hK K
                refine wpAny_take (i := 19) (v := ?_) rfl (by kernel_rfl) (by kernel_rfl) (by kernel_rfl) (fun _ _ _ h => h) (Or.inl ⟨by kernel_rfl, ?_⟩) ?_
                rotate_left
                · intro w'; go_simp <;> with_reducible rfl
                try simp only [Act.put, List.setIfInBounds_toArray, List.set_cons_zero, List.set_cons_succ]
                refine wpAny_take (i := 20) (v := ?_) rfl (by kernel_rfl) (by kernel_rfl) (by kernel_rfl) (fun _ _ _ h => h) (Or.inl ⟨by kernel_rfl, ?_⟩) ?_
                rotate_left
                · intro w'; go_simp <;> with_reducible rfl
                try simp only [Act.put, List.setIfInBounds_toArray, List.set_cons_zero, List.set_cons_succ]
                refine wpAny_ready (rs := [21]) (by kernel_rfl) (by simp) ?_
                refine AllReady.cons rfl (fun K hK => ?_) ?_
                · go_simp
                  refine hK _ _ ?_
                  clear hK K
                  refine wpAny_done (by kernel_rfl) ?_ _
                  go_wp2_with fail
                  go_end0
                  have hH := if_end (v := .slice ao m cap) HI2.out HV.out hgrow5 rfl rfl rfl rfl (by rw [HMM.out]; exact hown5)
                  exact ⟨rfl, ⟨_, hH.1⟩, HF2.out.trans hH.2⟩
                exact AllReady.nil
              exact AllReady.nil
            exact AllReady.nil
          exact AllReady.nil
        exact AllReady.nil
      exact AllReady.nil
end Go.Proofs.Yteohmemifogdlaa
