/- A queue tells what the document's does. -/
import Derived.Test.YtfjkhcpneehdjaaEwL
namespace Go.Proofs.Ytfjkhcpneehdjaa
open Go.RowKit Qu Go.Maps
set_option linter.unusedVariables false
set_option linter.unusedSimpArgs false
set_option maxRecDepth 100000

theorem OpsAt.get {w : World} {v : Value} {l : List (Int × Ev)} (h : OpsAt w v l) : ∃ ao cap, v = .slice ao l.length cap := by
  obtain ⟨ao, cap, e, _⟩ := h; exact ⟨ao, cap, e⟩
def opAt (l : List (Int × Ev)) (i : Nat) : Int × Ev := l.getD i (0, ev0)
theorem OpsAt.some_ {w : World} {v : Value} {l : List (Int × Ev)} (h : OpsAt w v l) (hl : 0 < l.length) : ∃ g o cap, v = .slice (some ⟨g, o, none⟩) l.length cap ∧ g < w.heap.size ∧ ∀ i, i < l.length → ∀ j u, (opC (opAt l i).1 (opAt l i).2)[j]? = some u → w.cell? ⟨g, o + i * 7 + j, none⟩ = some u := by
  obtain ⟨ao, cap, rfl, _, h⟩ := h
  rcases h with rfl | ⟨g', o', rfl, hg, h⟩
  · cases hl
  · refine ⟨g', o', cap, rfl, hg, fun i hi j u hu => h i hi j u ?_⟩
    have e : opAt l i = l[i] := by unfold opAt; rw [List.getD_eq_getElem?_getD, List.getElem?_eq_getElem hi]; rfl
    rw [← e]; exact hu
set_option maxHeartbeats 4000000 in
theorem EventPlays_no (lim : Int) (v0 : Value) (w : World) (hl : lim < 1 ∨ 4096 < lim) : Calls Try.prog 3 #[.int .i64 lim, v0] w fun e w' => e = .returned (.bool true) ∧ Below w.heap.size w w' := by
  have HN : Hid (Calls Try.prog 8 #[.int .i64 lim] w fun e w' => e = .returned (.tuple #[.pointer none, .int .i64 1]) ∧ w' = w) := new_no lim w hl
  have HR : Hid (Calls Try.prog 9 #[.int .i64 lim] w fun e w' => e = .returned (.tuple #[.agg #[.int .i64 0, .slice none 0 0], .int .i64 1]) ∧ Below w.heap.size w w') := rNew_no lim w hl
  have HAw : Hid (∀ W, Calls Try.prog 10 #[] W fun e w' => e = .returned (.bool true) ∧ Below W.heap.size W w') := awake14
  clear hl
  go_enter Try.func3, Try.ntmps3
  go_wp2_with (first
    | (go_at_call 8; refine HN.out.mono ?_; rintro e w1 ⟨rfl, hw⟩; rw [hw]; clear hw)
    | (go_at_call 9; refine HR.out.mono ?_; rintro e w2 ⟨rfl, hb2⟩)
    | (go_at_call 10; refine (HAw.out _).mono ?_; rintro e wA ⟨rfl, hbA⟩))
  go_ret
  exact ⟨rfl, belT (belT hb2 (belA (Below.refl _ _) _)) hbA⟩
set_option maxHeartbeats 8000000 in
theorem EventPlays_ok (lim : Int) (zs : List (Int × Ev)) (v0 : Value) (w : World) (hz : OpsAt w v0 zs) (h1 : 1 ≤ lim) (h2 : lim ≤ 4096) : Calls Try.prog 3 #[.int .i64 lim, v0] w fun e w' => e = .returned (.bool true) ∧ Below w.heap.size w w' := by
  obtain ⟨sa, cap, rfl⟩ := hz.get
  have HI : Hid (OpsAt w (.slice sa zs.length cap) zs) := hz
  clear hz
  obtain ⟨n, hn⟩ : ∃ n, n = zs.length := ⟨_, rfl⟩
  have HN : Hid (n = zs.length) := hn
  rw [← hn]
  clear hn
  obtain ⟨gz, oz, HZ⟩ : ∃ gz oz, Hid ((n = 0 ∨ sa = some ⟨gz, oz, none⟩) ∧ (0 < n → gz < w.heap.size ∧ ∀ i, i < n → ∀ j u, (opC (opAt zs i).1 (opAt zs i).2)[j]? = some u → w.cell? ⟨gz, oz + i * 7 + j, none⟩ = some u)) := by
    rcases Nat.eq_zero_or_pos n with h0 | hpos
    · exact ⟨0, 0, Or.inl h0, fun h => by omega⟩
    · obtain ⟨gz, oz, cap', e, hgz, hcz⟩ := HI.out.some_ (by have := HN.out; omega)
      injection e with e1 e2 e3
      exact ⟨gz, oz, Or.inr e1, fun _ => ⟨hgz, fun i hi => hcz i (by have := HN.out; omega)⟩⟩
  clear HI
  have HNw : Hid (Calls Try.prog 8 #[.int .i64 lim] w fun e w' => e = .returned (.tuple #[.pointer (some ⟨w.heap.size, 0, none⟩), .int .i64 0]) ∧ w' = w.alloc (.cells #[.pointer (some ⟨w.heap.size, 0, none⟩), .int .i64 lim, .slice none 0 0] 51)) := new_c lim w h1 h2
  have HQ0 : Hid (Qh w.heap.size w.heap.size lim (w.alloc (.cells #[.pointer (some ⟨w.heap.size, 0, none⟩), .int .i64 lim, .slice none 0 0] 51)) (.slice none 0 0) []) := Qh.start _ lim w (Nat.le_refl _)
  have HB0 : Hid (Below w.heap.size w (w.alloc (.cells #[.pointer (some ⟨w.heap.size, 0, none⟩), .int .i64 lim, .slice none 0 0] 51))) := belA (Below.refl _ _) _
  obtain ⟨q, hq⟩ : ∃ q, q = w.heap.size := ⟨_, rfl⟩
  obtain ⟨W0, hW0⟩ : ∃ W0, W0 = w.alloc (.cells #[.pointer (some ⟨w.heap.size, 0, none⟩), .int .i64 lim, .slice none 0 0] 51) := ⟨_, rfl⟩
  rw [← hW0] at HNw HQ0 HB0
  have HQ1 : Hid (Qh w.heap.size q lim W0 (.slice none 0 0) []) := by rw [hq]; exact HQ0.out
  rw [← hq] at HNw
  clear hq hW0 HQ0
  have HRn : Hid (Calls Try.prog 9 #[.int .i64 lim] W0 fun e w' => e = .returned (.tuple #[.agg #[.int .i64 lim, .slice none 0 0], .int .i64 0]) ∧ Below W0.heap.size W0 w') := rNew_c lim W0 h1 h2
  have HAw : Hid (∀ W, Calls Try.prog 10 #[] W fun e w' => e = .returned (.bool true) ∧ Below W.heap.size W w') := awake14
  rcases HZ.out.1 with h0 | h0
  · have hn0 : n ≤ 0 := by omega
    clear h0
    go_enter Try.func3, Try.ntmps3
    go_wp2_with (first
      | (go_at_call 8; refine HNw.out.mono ?_; rintro e w1 ⟨rfl, hw⟩; rw [hw]; clear hw)
      | (go_at_call 9; refine HRn.out.mono ?_; rintro e w2 ⟨rfl, hb2⟩))
    obtain ⟨RB, hR⟩ : ∃ RB, RB = w2.heap.size := ⟨_, rfl⟩
    have HLo : Hid (Lo w.heap.size RB (RB + 1) lim w ((w2.alloc (.cells #[.int .i64 lim, .slice none 0 0] 29)).alloc (.cells #[.int .i64 lim, .slice none 0 0] 29)) q (.slice none 0 0) [] (.slice none 0 0) [] (.slice none 0 0) (.slice none 0 0) none) := by
      have b5 : Below W0.heap.size W0 ((w2.alloc (.cells #[.int .i64 lim, .slice none 0 0] 29)).alloc (.cells #[.int .i64 lim, .slice none 0 0] 29)) := belT hb2 (belA (belA (Below.refl _ _) _) _)
      have hs0 := HB0.out.size
      have hs2 := hb2.size
      refine ⟨⟨⟨HQ1.out.below b5, belT HB0.out b5⟩, World.ownsRow_nil _ _ _ _, fun x a => by (cases a), List.Perm.refl _, List.Pairwise.nil, fun a ha => by (cases ha), by simp; omega, h2⟩, ?_, ?_, by omega, by omega, by omega, Or.inl rfl⟩
      · rw [hR]; exact (alOld (by simp)).trans (alAt rfl)
      · rw [hR]; exact alAt (by simp)
    rw [← hR]
    generalize (w2.alloc (.cells #[.int .i64 lim, .slice none 0 0] 29)).alloc (.cells #[.int .i64 lim, .slice none 0 0] 29) = W4 at HLo ⊢
    clear hR hb2 HNw HRn HQ1
    go_loopw [11, 5, 9] (fun s11 s5 s9 W => ∃ (i q m : Nat) (v : Value) (l : List Ev) (ao : Option Addr) (c : Nat) (s : List Ev) (vw : Value) (o : Option Addr), i ≤ n ∧ i ≤ 500 ∧ s11 = .int .i64 i ∧ s5 = .pointer (some ⟨q, 0, none⟩) ∧ s9 = .pointer o ∧ Hid (Lo w.heap.size RB (RB + 1) lim w W q v l (.slice ao m c) s (.slice ao m c) vw o)) (fun s11 s5 s9 W => n - (intOf s11).toNat)
    case atStart => exact ⟨0, q, 0, _, [], none, 0, [], _, none, Nat.zero_le _, by omega, rfl, rfl, rfl, HLo.out⟩
    case round =>
      clear HLo
      obtain ⟨i, q, m, v, l, ao, c, s, vw, o, hi, hi5, rfl, rfl, rfl, HLo⟩ := hrel
      by_cases hlt : i < n ∧ i < 500
      · omega
      · have i1 : (0 : Int) ≤ (i : Int) := by omega
        obtain ⟨b0, b1, bf0, bf1⟩ := cells2 HLo.out.rb
        have lR := hLt HLo.out.rb
        have HDr : Hid (Calls Try.prog 14 #[.pointer (some ⟨q, 0, none⟩), .agg #[.int .i64 lim, .slice ao m c]] wr fun e w' => e = .returned (.bool true) ∧ Hid (But2 q v.ownBlock wr w') ∧ Hid (Below w.heap.size w w')) := drained_c HLo.out.p (Nat.le_refl _)
        have hout : decide (i < n) = false ∨ (decide (i < n) = true ∧ decide ((i : Int) < 500) = false ∧ (i : Int) < (n : Int)) := by
          rcases Nat.lt_or_ge i n with h | h
          · exact Or.inr ⟨decide_eq_true h, decide_eq_false (by omega), by omega⟩
          · exact Or.inl (decide_eq_false (by omega))
        rcases HLo.out.old with ho | ⟨qo, vo, lo, sw, ho, po, ne, t1, t2⟩
        · subst ho
          rcases hout with g1 | ⟨g1, g2, g3⟩
          · go_wp2_with (first
              | (go_at_call 14; refine HDr.out.mono ?_; rintro e w7 ⟨rfl, hb7, hB7⟩)
              | (go_at_call 10; refine (HAw.out _).mono ?_; rintro e wA ⟨rfl, hbA⟩))
            go_ret
            exact ⟨rfl, belN hB7.out (Nat.le_refl _) hbA⟩
          · go_wp2_with (first
              | (go_at_call 14; refine HDr.out.mono ?_; rintro e w7 ⟨rfl, hb7, hB7⟩)
              | (go_at_call 10; refine (HAw.out _).mono ?_; rintro e wA ⟨rfl, hbA⟩))
            go_ret
            exact ⟨rfl, belN hB7.out (Nat.le_refl _) hbA⟩
        · subst ho
          obtain ⟨aw, cw, hvw⟩ := po.r.slice
          obtain ⟨mw, hmw⟩ : ∃ mw, mw = sw.length := ⟨_, rfl⟩
          rw [← hmw] at hvw
          have HDo : Hid (∀ w', But2 q v.ownBlock wr w' → Below w.heap.size w w' → Calls Try.prog 14 #[.pointer (some ⟨qo, 0, none⟩), .agg #[.int .i64 lim, .slice aw mw cw]] w' fun e w2 => e = .returned (.bool true) ∧ Hid (But2 qo vo.ownBlock w' w2) ∧ Hid (Below w.heap.size w w2)) := fun w' hb hB' => by
            have kk := drained_c (po.beside HLo.out.p.fq.q ne t1 t2 hb hB') (Nat.le_refl _)
            rw [hvw] at kk
            exact kk
          have HWb : Hid (∀ w', But2 q v.ownBlock wr w' → w'.heap[RB + 1]? = some (.cells #[.int .i64 lim, .slice aw mw cw] 29 (0, 0))) := fun w' hb => by
            have kk := blk_act HLo.out.wb (by decide) HLo.out.p.fq.q (blk_ne HLo.out.wb (by decide) HLo.out.p.fq.q) hb
            rw [hvw] at kk
            exact kk
          clear po ne t1 t2 hvw hmw
          rcases hout with g1 | ⟨g1, g2, g3⟩
          · go_wp2_with (first
              | (have hg := hb7; go_at_call 14; refine (HDo.out _ hb7.out hB7.out).mono ?_; rintro e w8 ⟨rfl, hb8, hB8⟩)
              | (go_at_call 14; refine HDr.out.mono ?_; rintro e w7 ⟨rfl, hb7, hB7⟩; obtain ⟨u0, u1, _, _⟩ := cells2 (HWb.out _ hb7.out))
              | (go_at_call 10; refine (HAw.out _).mono ?_; rintro e wA ⟨rfl, hbA⟩))
            go_ret
            exact ⟨rfl, belN hB8.out (Nat.le_refl _) hbA⟩
          · go_wp2_with (first
              | (have hg := hb7; go_at_call 14; refine (HDo.out _ hb7.out hB7.out).mono ?_; rintro e w8 ⟨rfl, hb8, hB8⟩)
              | (go_at_call 14; refine HDr.out.mono ?_; rintro e w7 ⟨rfl, hb7, hB7⟩; obtain ⟨u0, u1, _, _⟩ := cells2 (HWb.out _ hb7.out))
              | (go_at_call 10; refine (HAw.out _).mono ?_; rintro e wA ⟨rfl, hbA⟩))
            go_ret
            exact ⟨rfl, belN hB8.out (Nat.le_refl _) hbA⟩
  · subst h0
    go_enter Try.func3, Try.ntmps3
    go_wp2_with (first
      | (go_at_call 8; refine HNw.out.mono ?_; rintro e w1 ⟨rfl, hw⟩; rw [hw]; clear hw)
      | (go_at_call 9; refine HRn.out.mono ?_; rintro e w2 ⟨rfl, hb2⟩))
    obtain ⟨RB, hR⟩ : ∃ RB, RB = w2.heap.size := ⟨_, rfl⟩
    have HLo : Hid (Lo w.heap.size RB (RB + 1) lim w ((w2.alloc (.cells #[.int .i64 lim, .slice none 0 0] 29)).alloc (.cells #[.int .i64 lim, .slice none 0 0] 29)) q (.slice none 0 0) [] (.slice none 0 0) [] (.slice none 0 0) (.slice none 0 0) none) := by
      have b5 : Below W0.heap.size W0 ((w2.alloc (.cells #[.int .i64 lim, .slice none 0 0] 29)).alloc (.cells #[.int .i64 lim, .slice none 0 0] 29)) := belT hb2 (belA (belA (Below.refl _ _) _) _)
      have hs0 := HB0.out.size
      have hs2 := hb2.size
      refine ⟨⟨⟨HQ1.out.below b5, belT HB0.out b5⟩, World.ownsRow_nil _ _ _ _, fun x a => by (cases a), List.Perm.refl _, List.Pairwise.nil, fun a ha => by (cases ha), by simp; omega, h2⟩, ?_, ?_, by omega, by omega, by omega, Or.inl rfl⟩
      · rw [hR]; exact (alOld (by simp)).trans (alAt rfl)
      · rw [hR]; exact alAt (by simp)
    rw [← hR]
    generalize (w2.alloc (.cells #[.int .i64 lim, .slice none 0 0] 29)).alloc (.cells #[.int .i64 lim, .slice none 0 0] 29) = W4 at HLo ⊢
    clear hR hb2 HNw HRn HQ1
    go_loopw [11, 5, 9] (fun s11 s5 s9 W => ∃ (i q m : Nat) (v : Value) (l : List Ev) (ao : Option Addr) (c : Nat) (s : List Ev) (vw : Value) (o : Option Addr), i ≤ n ∧ i ≤ 500 ∧ s11 = .int .i64 i ∧ s5 = .pointer (some ⟨q, 0, none⟩) ∧ s9 = .pointer o ∧ Hid (Lo w.heap.size RB (RB + 1) lim w W q v l (.slice ao m c) s (.slice ao m c) vw o)) (fun s11 s5 s9 W => n - (intOf s11).toNat)
    case atStart => exact ⟨0, q, 0, _, [], none, 0, [], _, none, Nat.zero_le _, by omega, rfl, rfl, rfl, HLo.out⟩
    case round =>
      clear HLo
      obtain ⟨i, q, m, v, l, ao, c, s, vw, o, hi, hi5, rfl, rfl, rfl, HLo⟩ := hrel
      by_cases hlt : i < n ∧ i < 500
      · obtain ⟨hlt, hlt5⟩ := hlt
        have hc : ∀ j u, (opC (opAt zs i).1 (opAt zs i).2)[j]? = some u → wr.cell? ⟨gz, oz + i * 7 + j, none⟩ = some u := fun j u hu => (HLo.out.p.fq.b.cell (p := ⟨gz, oz + i * 7 + j, none⟩) (HZ.out.2 (by omega)).1).trans ((HZ.out.2 (by omega)).2 i hlt j u hu)
        have hgz : gz < wr.heap.size := Nat.lt_of_lt_of_le (HZ.out.2 (by omega)).1 HLo.out.p.fq.b.size
        have hgB : gz < w.heap.size := (HZ.out.2 (by omega)).1
        obtain ⟨k, hk⟩ : ∃ k, k = (opAt zs i).1 := ⟨_, rfl⟩
        obtain ⟨x, hx⟩ : ∃ x, x = (opAt zs i).2 := ⟨_, rfl⟩
        rw [← hk, ← hx] at hc
        have c0 : wr.cell? ⟨gz, oz + i * 7, none⟩ = some (.int .i64 k) := hc 0 _ rfl
        have c1 : wr.cell? ⟨gz, oz + i * 7 + 1, none⟩ = some (.int .i64 x.t) := hc 1 _ rfl
        have c2 : wr.cell? ⟨gz, oz + i * 7 + 2, none⟩ = some (.int .i64 x.nd) := hc 2 _ rfl
        have c3 : wr.cell? ⟨gz, oz + i * 7 + 3, none⟩ = some (.string x.v) := hc 3 _ rfl
        have c4 : wr.cell? ⟨gz, oz + i * 7 + 4, none⟩ = some (.int .i64 x.fr) := hc 4 _ rfl
        have c5 : wr.cell? ⟨gz, oz + i * 7 + 5, none⟩ = some (.int .i64 x.sq) := hc 5 _ rfl
        have c6 : wr.cell? ⟨gz, oz + i * 7 + 6, none⟩ = some (.bool x.an) := hc 6 _ rfl
        clear hc hk hx
        obtain ⟨b0, b1, bf0, bf1⟩ := cells2 HLo.out.rb
        obtain ⟨d0, d1, df0, df1⟩ := cells2 HLo.out.wb
        have lR := hLt HLo.out.rb
        have lW := hLt HLo.out.wb
        have i1 : (0 : Int) ≤ (i : Int) := by omega
        have i2 : (i : Int) < (n : Int) := by omega
        have i3 : decide ((i : Int) < 500) = true := by rw [decide_eq_true_eq]; omega
        have i4 : decide (i < n) = true := by rw [decide_eq_true_eq]; omega
        by_cases h5 : k = 5
        · subst h5
          have HC : Hid (Calls Try.prog 11 #[.pointer (some ⟨q, 0, none⟩)] ((wr.setCell ⟨RB + 1, 0, none⟩ (.int .i64 lim)).setCell ⟨RB + 1, 1, none⟩ (.slice ao m c)) fun e w' => ∃ q' v', e = .returned (.pointer (some ⟨q', 0, none⟩)) ∧ Hid (Qh ((wr.setCell ⟨RB + 1, 0, none⟩ (.int .i64 lim)).setCell ⟨RB + 1, 1, none⟩ (.slice ao m c)).heap.size q' lim w' v' l) ∧ Below ((wr.setCell ⟨RB + 1, 0, none⟩ (.int .i64 lim)).setCell ⟨RB + 1, 1, none⟩ (.slice ao m c)).heap.size ((wr.setCell ⟨RB + 1, 0, none⟩ (.int .i64 lim)).setCell ⟨RB + 1, 1, none⟩ (.slice ao m c)) w') := copy_c w.heap.size q lim v l _ (HLo.out.p.but (Nat.le_refl _) but2c HLo.out.wb HLo.out.bW).fq.q (by have e1 := HLo.out.p.p.length_eq; have e2 := HLo.out.p.n; have e3 := HLo.out.p.m; omega)
          go_wp2_with (first
            | (go_at_call 11; refine HC.out.mono ?_; rintro e w6 ⟨q', v', rfl, hq6, hb6⟩))
          go_roundw
          case rel => exact ⟨i + 1, q', m, v', l, ao, c, s, _, _, hlt, by omega, by go_num, rfl, rfl, HLo.out.copy (vb := .slice ao m c) (Nat.le_refl _) hq6.out hb6⟩
          case measure => simp [intOf]; omega
        · have q5 : (k == 5) = false := by rw [beq_eq_false_iff_ne]; exact h5
          clear h5
          have HD1 : Hid (Calls Try.prog 12 #[.pointer (some ⟨q, 0, none⟩), .agg #[.int .i64 lim, .slice ao m c], .agg #[.int .i64 k, .int .i64 x.t, .int .i64 x.nd, .string x.v, .int .i64 x.fr, .int .i64 x.sq, .bool x.an]] wr.drew fun e w' => DoR w.heap.size q lim w wr.drew v e w') := does_c (HLo.out.p.up (Nat.le_refl _) (Below.refl _ _).drew) (Nat.le_refl _)
          have HB2 : Hid (Below wr.heap.size wr (wr.alloc (.cells #[.int .i64 0, .slice none 0 0] 29)).drew) := (belA (Below.refl _ _) _).drew
          have HD2 : Hid (Calls Try.prog 12 #[.pointer (some ⟨q, 0, none⟩), .agg #[.int .i64 lim, .slice ao m c], .agg #[.int .i64 k, .int .i64 x.t, .int .i64 x.nd, .string x.v, .int .i64 x.fr, .int .i64 x.sq, .bool x.an]] (wr.alloc (.cells #[.int .i64 0, .slice none 0 0] 29)).drew fun e w' => DoR w.heap.size q lim w (wr.alloc (.cells #[.int .i64 0, .slice none 0 0] 29)).drew v e w') := does_c (HLo.out.p.up (Nat.le_refl _) HB2.out) (Nat.le_refl _)
          have nR1 : wr.heap.size ≠ RB := by omega
          have nG1 : wr.heap.size ≠ gz := by omega
          have nR2 : RB ≠ wr.heap.size := by omega
          have nG2 : gz ≠ wr.heap.size := by omega
          go_wp2
          go_region_held (fun w' => w'.cell? ⟨RB, 0, none⟩ = some (.int .i64 lim) ∧ w'.cell? ⟨RB, 1, none⟩ = some (.slice ao m c) ∧ w'.cell? ⟨gz, oz + i * 7, none⟩ = some (.int .i64 k) ∧ w'.cell? ⟨gz, oz + i * 7 + 1, none⟩ = some (.int .i64 x.t) ∧ w'.cell? ⟨gz, oz + i * 7 + 2, none⟩ = some (.int .i64 x.nd) ∧ w'.cell? ⟨gz, oz + i * 7 + 3, none⟩ = some (.string x.v) ∧ w'.cell? ⟨gz, oz + i * 7 + 4, none⟩ = some (.int .i64 x.fr) ∧ w'.cell? ⟨gz, oz + i * 7 + 5, none⟩ = some (.int .i64 x.sq) ∧ w'.cell? ⟨gz, oz + i * 7 + 6, none⟩ = some (.bool x.an)) (go_keep) (first
            | (go_at_call 12; refine HD1.out.mono ?_; rintro e w6 ⟨v', l', vr', s', rfl, hp6, hb6, hm6⟩; obtain ⟨ao', c', hv'⟩ := hp6.r.slice; obtain ⟨m', hm'⟩ : ∃ m', m' = s'.length := ⟨_, rfl⟩; rw [← hm'] at hv'; rw [hv'] at hp6 ⊢; have HM6 : Hid (m' = s'.length) := hm'; have HLo6 : Hid (Lo w.heap.size RB (RB + 1) lim w w6 q v' l' (.slice ao' m' c') s' (.slice ao m c) vw o) := (HLo.out.up (Nat.le_refl _) (Below.refl _ _).drew).act hp6 hb6 hm6; have hgr6 : Below w.heap.size w w6 := hp6.fq.b; have hgr5 : Below w.heap.size w wr := HLo.out.p.fq.b; obtain ⟨e0, e1, ef0, ef1⟩ := cells2 HLo6.out.rb; have lR6 := hLt HLo6.out.rb; have g6 : gz < w6.heap.size := Nat.lt_of_lt_of_le hgB hgr6.size; have f0 : w6.cell? ⟨gz, oz + i * 7, none⟩ = some (.int .i64 k) := ((hgr6.cell (p := ⟨gz, oz + i * 7, none⟩) hgB).trans (hgr5.cell (p := ⟨gz, oz + i * 7, none⟩) hgB).symm).trans c0; have f1 : w6.cell? ⟨gz, oz + i * 7 + 1, none⟩ = some (.int .i64 x.t) := ((hgr6.cell (p := ⟨gz, oz + i * 7 + 1, none⟩) hgB).trans (hgr5.cell (p := ⟨gz, oz + i * 7 + 1, none⟩) hgB).symm).trans c1; have f2 : w6.cell? ⟨gz, oz + i * 7 + 2, none⟩ = some (.int .i64 x.nd) := ((hgr6.cell (p := ⟨gz, oz + i * 7 + 2, none⟩) hgB).trans (hgr5.cell (p := ⟨gz, oz + i * 7 + 2, none⟩) hgB).symm).trans c2; have f3 : w6.cell? ⟨gz, oz + i * 7 + 3, none⟩ = some (.string x.v) := ((hgr6.cell (p := ⟨gz, oz + i * 7 + 3, none⟩) hgB).trans (hgr5.cell (p := ⟨gz, oz + i * 7 + 3, none⟩) hgB).symm).trans c3; have f4 : w6.cell? ⟨gz, oz + i * 7 + 4, none⟩ = some (.int .i64 x.fr) := ((hgr6.cell (p := ⟨gz, oz + i * 7 + 4, none⟩) hgB).trans (hgr5.cell (p := ⟨gz, oz + i * 7 + 4, none⟩) hgB).symm).trans c4; have f5 : w6.cell? ⟨gz, oz + i * 7 + 5, none⟩ = some (.int .i64 x.sq) := ((hgr6.cell (p := ⟨gz, oz + i * 7 + 5, none⟩) hgB).trans (hgr5.cell (p := ⟨gz, oz + i * 7 + 5, none⟩) hgB).symm).trans c5; have f6 : w6.cell? ⟨gz, oz + i * 7 + 6, none⟩ = some (.bool x.an) := ((hgr6.cell (p := ⟨gz, oz + i * 7 + 6, none⟩) hgB).trans (hgr5.cell (p := ⟨gz, oz + i * 7 + 6, none⟩) hgB).symm).trans c6; clear hv' hm' hp6 hb6 hm6 hgr5 hgr6)
            | (go_at_call 12; refine HD2.out.mono ?_; rintro e w6 ⟨v', l', vr', s', rfl, hp6, hb6, hm6⟩; obtain ⟨ao', c', hv'⟩ := hp6.r.slice; obtain ⟨m', hm'⟩ : ∃ m', m' = s'.length := ⟨_, rfl⟩; rw [← hm'] at hv'; rw [hv'] at hp6 ⊢; have HM6 : Hid (m' = s'.length) := hm'; have HNb : Hid (w6.heap[wr.heap.size]? = some (.cells #[.int .i64 0, .slice none 0 0] 29 (0, 0))) := blk_act (W := (wr.alloc (.cells #[.int .i64 0, .slice none 0 0] 29)).drew) (alAt rfl) (by decide) (HLo.out.up (Nat.le_refl _) HB2.out).p.fq.q (by have := hLt HLo.out.p.fq.q.b.blk; omega) hb6; have HLo6 : Hid (Lo w.heap.size RB (RB + 1) lim w w6 q v' l' (.slice ao' m' c') s' (.slice ao m c) vw o) := (HLo.out.up (Nat.le_refl _) HB2.out).act hp6 hb6 hm6; have hgr6 : Below w.heap.size w w6 := hp6.fq.b; have hgr5 : Below w.heap.size w wr := HLo.out.p.fq.b; obtain ⟨e0, e1, ef0, ef1⟩ := cells2 HLo6.out.rb; have lR6 := hLt HLo6.out.rb; have g6 : gz < w6.heap.size := Nat.lt_of_lt_of_le hgB hgr6.size; have f0 : w6.cell? ⟨gz, oz + i * 7, none⟩ = some (.int .i64 k) := ((hgr6.cell (p := ⟨gz, oz + i * 7, none⟩) hgB).trans (hgr5.cell (p := ⟨gz, oz + i * 7, none⟩) hgB).symm).trans c0; have f1 : w6.cell? ⟨gz, oz + i * 7 + 1, none⟩ = some (.int .i64 x.t) := ((hgr6.cell (p := ⟨gz, oz + i * 7 + 1, none⟩) hgB).trans (hgr5.cell (p := ⟨gz, oz + i * 7 + 1, none⟩) hgB).symm).trans c1; have f2 : w6.cell? ⟨gz, oz + i * 7 + 2, none⟩ = some (.int .i64 x.nd) := ((hgr6.cell (p := ⟨gz, oz + i * 7 + 2, none⟩) hgB).trans (hgr5.cell (p := ⟨gz, oz + i * 7 + 2, none⟩) hgB).symm).trans c2; have f3 : w6.cell? ⟨gz, oz + i * 7 + 3, none⟩ = some (.string x.v) := ((hgr6.cell (p := ⟨gz, oz + i * 7 + 3, none⟩) hgB).trans (hgr5.cell (p := ⟨gz, oz + i * 7 + 3, none⟩) hgB).symm).trans c3; have f4 : w6.cell? ⟨gz, oz + i * 7 + 4, none⟩ = some (.int .i64 x.fr) := ((hgr6.cell (p := ⟨gz, oz + i * 7 + 4, none⟩) hgB).trans (hgr5.cell (p := ⟨gz, oz + i * 7 + 4, none⟩) hgB).symm).trans c4; have f5 : w6.cell? ⟨gz, oz + i * 7 + 5, none⟩ = some (.int .i64 x.sq) := ((hgr6.cell (p := ⟨gz, oz + i * 7 + 5, none⟩) hgB).trans (hgr5.cell (p := ⟨gz, oz + i * 7 + 5, none⟩) hgB).symm).trans c5; have f6 : w6.cell? ⟨gz, oz + i * 7 + 6, none⟩ = some (.bool x.an) := ((hgr6.cell (p := ⟨gz, oz + i * 7 + 6, none⟩) hgB).trans (hgr5.cell (p := ⟨gz, oz + i * 7 + 6, none⟩) hgB).symm).trans c6; obtain ⟨nb0, nb1, nf0, nf1⟩ := cells2 HNb.out; have lN6 := hLt HNb.out; clear hv' hm' hp6 hb6 hm6 hgr5 hgr6))
          · obtain ⟨N, hN⟩ : ∃ N, N = w6.heap.size := ⟨_, rfl⟩
            obtain ⟨W7, hW7⟩ : ∃ W7, W7 = w6.alloc (.cells #[.int .i64 lim, .slice ao' m' c'] 29) := ⟨_, rfl⟩
            have HLo7 : Hid (Lo w.heap.size RB (RB + 1) lim w W7 q v' l' (.slice ao' m' c') s' (.slice ao m c) vw o) := by rw [hW7]; exact HLo6.out.up (Nat.le_refl _) (belA (Below.refl _ _) _)
            have HN7 : Hid (W7.heap[N]? = some (.cells #[.int .i64 lim, .slice ao' m' c'] 29 (0, 0))) := by rw [hW7]; exact alAt hN.symm
            rw [← hN, ← hW7]
            clear hN hW7 HLo6 HD1 HD2 b0 b1 bf0 bf1 c0 c1 c2 c3 c4 c5 c6 d0 d1 df0 df1 e0 e1 ef0 ef1 f0 f1 f2 f3 f4 f5 f6
            obtain ⟨n0, n1, _, _⟩ := cells2 HN7.out
            obtain ⟨r0, r1, rf0, rf1⟩ := cells2 HLo7.out.rb
            have lN7 := hLt HN7.out
            have lR7 := hLt HLo7.out.rb
            have HLn : Hid (∀ t, Calls Try.prog 13 #[.pointer (some ⟨q, 0, none⟩)] (W7.drewN t) fun e w' => e = .returned (.int .i64 (m' : Int)) ∧ w' = W7.drewN t) := fun t => by
              have kk := len_c w.heap.size q lim v' l' (W7.drewN t) (HLo7.out.p.fq.q.b.below (belDN (Below.refl _ _) t))
              rw [HLo7.out.p.p.length_eq, ← HM6.out] at kk
              exact kk
            go_wp2
            go_quiet (first | (go_at_call 13; exact Calls.quiet_of_same (HLn.out _)))
            go_wp2
            go_roundw
            case rel => exact ⟨i + 1, q, m', v', l', ao', c', s', vw, o, hlt, by omega, by go_num, rfl, rfl, (HLo7.out.up (Nat.le_refl _) (belDN (Below.refl _ _) _)).setR (Nat.le_refl _)⟩
            case measure => simp [intOf]; omega
          · obtain ⟨N, hN⟩ : ∃ N, N = wr.heap.size := ⟨_, rfl⟩
            obtain ⟨W7, hW7⟩ : ∃ W7, W7 = (w6.setCell ⟨wr.heap.size, 0, none⟩ (.int .i64 lim)).setCell ⟨wr.heap.size, 1, none⟩ (.slice ao' m' c') := ⟨_, rfl⟩
            have HLo7 : Hid (Lo w.heap.size RB (RB + 1) lim w W7 q v' l' (.slice ao' m' c') s' (.slice ao m c) vw o) := by rw [hW7]; exact HLo6.out.setN (Nat.le_refl _) HNb.out HLo.out.p.fq.b.size (by omega) (by omega)
            have HN7 : Hid (W7.heap[N]? = some (.cells #[.int .i64 lim, .slice ao' m' c'] 29 (0, 0))) := by rw [hW7, hN]; exact set2_at HNb.out
            rw [← hW7, ← hN]
            clear hN hW7 HLo6 HD1 HD2 HNb nb0 nb1 nf0 nf1 b0 b1 bf0 bf1 c0 c1 c2 c3 c4 c5 c6 d0 d1 df0 df1 e0 e1 ef0 ef1 f0 f1 f2 f3 f4 f5 f6
            obtain ⟨n0, n1, _, _⟩ := cells2 HN7.out
            obtain ⟨r0, r1, rf0, rf1⟩ := cells2 HLo7.out.rb
            have lN7 := hLt HN7.out
            have lR7 := hLt HLo7.out.rb
            have HLn : Hid (∀ t, Calls Try.prog 13 #[.pointer (some ⟨q, 0, none⟩)] (W7.drewN t) fun e w' => e = .returned (.int .i64 (m' : Int)) ∧ w' = W7.drewN t) := fun t => by
              have kk := len_c w.heap.size q lim v' l' (W7.drewN t) (HLo7.out.p.fq.q.b.below (belDN (Below.refl _ _) t))
              rw [HLo7.out.p.p.length_eq, ← HM6.out] at kk
              exact kk
            go_wp2
            go_quiet (first | (go_at_call 13; exact Calls.quiet_of_same (HLn.out _)))
            go_wp2
            go_roundw
            case rel => exact ⟨i + 1, q, m', v', l', ao', c', s', vw, o, hlt, by omega, by go_num, rfl, rfl, (HLo7.out.up (Nat.le_refl _) (belDN (Below.refl _ _) _)).setR (Nat.le_refl _)⟩
            case measure => simp [intOf]; omega
      · have i1 : (0 : Int) ≤ (i : Int) := by omega
        obtain ⟨b0, b1, bf0, bf1⟩ := cells2 HLo.out.rb
        have lR := hLt HLo.out.rb
        have HDr : Hid (Calls Try.prog 14 #[.pointer (some ⟨q, 0, none⟩), .agg #[.int .i64 lim, .slice ao m c]] wr fun e w' => e = .returned (.bool true) ∧ Hid (But2 q v.ownBlock wr w') ∧ Hid (Below w.heap.size w w')) := drained_c HLo.out.p (Nat.le_refl _)
        have hout : decide (i < n) = false ∨ (decide (i < n) = true ∧ decide ((i : Int) < 500) = false ∧ (i : Int) < (n : Int)) := by
          rcases Nat.lt_or_ge i n with h | h
          · exact Or.inr ⟨decide_eq_true h, decide_eq_false (by omega), by omega⟩
          · exact Or.inl (decide_eq_false (by omega))
        rcases HLo.out.old with ho | ⟨qo, vo, lo, sw, ho, po, ne, t1, t2⟩
        · subst ho
          rcases hout with g1 | ⟨g1, g2, g3⟩
          · go_wp2_with (first
              | (go_at_call 14; refine HDr.out.mono ?_; rintro e w7 ⟨rfl, hb7, hB7⟩)
              | (go_at_call 10; refine (HAw.out _).mono ?_; rintro e wA ⟨rfl, hbA⟩))
            go_ret
            exact ⟨rfl, belN hB7.out (Nat.le_refl _) hbA⟩
          · go_wp2_with (first
              | (go_at_call 14; refine HDr.out.mono ?_; rintro e w7 ⟨rfl, hb7, hB7⟩)
              | (go_at_call 10; refine (HAw.out _).mono ?_; rintro e wA ⟨rfl, hbA⟩))
            go_ret
            exact ⟨rfl, belN hB7.out (Nat.le_refl _) hbA⟩
        · subst ho
          obtain ⟨aw, cw, hvw⟩ := po.r.slice
          obtain ⟨mw, hmw⟩ : ∃ mw, mw = sw.length := ⟨_, rfl⟩
          rw [← hmw] at hvw
          have HDo : Hid (∀ w', But2 q v.ownBlock wr w' → Below w.heap.size w w' → Calls Try.prog 14 #[.pointer (some ⟨qo, 0, none⟩), .agg #[.int .i64 lim, .slice aw mw cw]] w' fun e w2 => e = .returned (.bool true) ∧ Hid (But2 qo vo.ownBlock w' w2) ∧ Hid (Below w.heap.size w w2)) := fun w' hb hB' => by
            have kk := drained_c (po.beside HLo.out.p.fq.q ne t1 t2 hb hB') (Nat.le_refl _)
            rw [hvw] at kk
            exact kk
          have HWb : Hid (∀ w', But2 q v.ownBlock wr w' → w'.heap[RB + 1]? = some (.cells #[.int .i64 lim, .slice aw mw cw] 29 (0, 0))) := fun w' hb => by
            have kk := blk_act HLo.out.wb (by decide) HLo.out.p.fq.q (blk_ne HLo.out.wb (by decide) HLo.out.p.fq.q) hb
            rw [hvw] at kk
            exact kk
          clear po ne t1 t2 hvw hmw
          rcases hout with g1 | ⟨g1, g2, g3⟩
          · go_wp2_with (first
              | (have hg := hb7; go_at_call 14; refine (HDo.out _ hb7.out hB7.out).mono ?_; rintro e w8 ⟨rfl, hb8, hB8⟩)
              | (go_at_call 14; refine HDr.out.mono ?_; rintro e w7 ⟨rfl, hb7, hB7⟩; obtain ⟨u0, u1, _, _⟩ := cells2 (HWb.out _ hb7.out))
              | (go_at_call 10; refine (HAw.out _).mono ?_; rintro e wA ⟨rfl, hbA⟩))
            go_ret
            exact ⟨rfl, belN hB8.out (Nat.le_refl _) hbA⟩
          · go_wp2_with (first
              | (have hg := hb7; go_at_call 14; refine (HDo.out _ hb7.out hB7.out).mono ?_; rintro e w8 ⟨rfl, hb8, hB8⟩)
              | (go_at_call 14; refine HDr.out.mono ?_; rintro e w7 ⟨rfl, hb7, hB7⟩; obtain ⟨u0, u1, _, _⟩ := cells2 (HWb.out _ hb7.out))
              | (go_at_call 10; refine (HAw.out _).mono ?_; rintro e wA ⟨rfl, hbA⟩))
            go_ret
            exact ⟨rfl, belN hB8.out (Nat.le_refl _) hbA⟩
theorem EventPlays_c (lim : Int) (zs : List (Int × Ev)) (v0 : Value) (w : World) (hz : OpsAt w v0 zs) : Calls Try.prog 3 #[.int .i64 lim, v0] w fun e w' => e = .returned (.bool true) ∧ Below w.heap.size w w' := by
  by_cases h : lim < 1 ∨ 4096 < lim
  · exact EventPlays_no lim v0 w h
  · exact EventPlays_ok lim zs v0 w hz (by omega) (by omega)
end Go.Proofs.Ytfjkhcpneehdjaa
