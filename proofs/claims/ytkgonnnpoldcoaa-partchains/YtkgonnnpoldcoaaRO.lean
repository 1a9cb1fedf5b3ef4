/- The program's Run of layer 13. -/
import Derived.Test.YtkgonnnpoldcoaaRE
import Derived.Test.YtkgonnnpoldcoaaRH
import Derived.Test.YtkgonnnpoldcoaaRN
namespace Go.Proofs.Ytkgonnnpoldcoaa
open Go.RowKit Lg Nl Go.Maps
set_option linter.unusedVariables false
set_option linter.unusedSimpArgs false
set_option maxRecDepth 100000

theorem groups_ok {l : List Nd} {n : Nat} {ρ : Nat → Nat} (h1 : ∀ j, ρ j ≤ j) (h2 : ∀ j, ρ (ρ j) = ρ j) (hn : n ≤ 4096) : GsOk n (nR ρ n) (clR ρ) (glR (clR ρ) n) := by
  refine ⟨fun k hk z hz => glR_mem.1 hz, fun j hj => ⟨clR_lt h1 h2 hj, glR_mem.2 ⟨hj, rfl⟩⟩, fun k hk => ⟨?_, Nat.le_trans (glR_len _ _ _) hn⟩⟩
  obtain ⟨j, a, _, c⟩ := clR_all n k hk
  exact List.length_pos_of_mem (glR_mem.2 ⟨a, c⟩)
/-- a row's numbers as a list -/
def rowL (n : Nat) (of : Nat → Int) : List Int := (List.range n).map fun q => of q
theorem rowL_len (n : Nat) (of : Nat → Int) : (rowL n of).length = n := by simp [rowL]
theorem rowL_at {n : Nat} {of : Nat → Int} {i : Nat} (h : i < n) : ofAt (rowL n of) (i : Nat) = of i := by
  rw [ofAt_nat (by rw [rowL_len]; exact h)]; simp [rowL]
theorem dealt_ok {l : List Nd} {n p : Nat} {ρ : Nat → Nat} {of : Nat → Int} (hn : n = l.length) (hk : Ok l) (hs : Sm l n ρ) (hd : Dealt n p (clR ρ) of) (hp1 : 1 ≤ p) (hp : p ≤ 64) : PtsOk l (rowL n of) (p : Int) (aheadL l (rowL n of) p) := by
  refine ⟨by omega, by omega, by rw [rowL_len, hn], fun z hz => ?_, fun k k0 kp => ?_, fun i hi h8 z hz => ?_, by rw [Int.toNat_natCast]⟩
  · obtain ⟨q, hq, rfl⟩ := List.mem_map.1 hz
    exact hd.r q (List.mem_range.1 hq)
  · obtain ⟨j, hj, e⟩ := hd.u k.toNat (by omega)
    exact List.mem_map.2 ⟨j, List.mem_range.2 hj, by rw [e]; omega⟩
  · have hm : ndAt l i ∈ l := ndAt_mem hi
    have hzi := List.all_eq_true.1 (hk.i _ hm) z hz
    simp [inB] at hzi
    obtain ⟨y, rfl⟩ : ∃ y : Nat, z = (y : Int) := ⟨z.toNat, by omega⟩
    have hy : y < n := by rw [hn]; omega
    rw [rowL_at hy, rowL_at (by rw [hn]; exact hi)]
    have h1 := hs i (by rw [hn]; exact hi) h8 (y : Int) hz
    rw [Int.toNat_natCast] at h1
    exact hd.s y i hy (by rw [hn]; exact hi) (by unfold clR; rw [h1])
/-- parts that Run has made: a row and a square in blocks of their own -/
structure Pw (B n c O M : Nat) (R : Nat → Nat) (of : Nat → Int) (A : Nat → Nat → Int) (W : World) : Prop where
  o : W.rowIs O 3 n (fun q => .int .i64 (of q))
  x : Mx B c M R A W
  bo : B ≤ O
  om : O ≠ M
  or : ∀ i, i < c → O ≠ R i
def zP : Value := .agg #[.slice none 0 0, .int .i64 0, .slice none 0 0]
/-- what Run tells -/
def PRun (l : List Nd) (may : Bool) (n : Int) (B : Nat) (e : Ending) (w' : World) : Prop :=
  ((n < 1 ∨ 64 < n ∨ l.length = 0 ∨ may = false) ∧ e = .returned (.tuple #[.agg #[.slice none 0 0, .int .i64 0, .slice none 0 0], .int .i64 1])) ∨
  ((1 ≤ n ∧ n ≤ 64 ∧ 0 < l.length ∧ may = true) ∧ Hid (∃ p, Ring l p) ∧ e = .returned (.tuple #[.agg #[.slice none 0 0, .int .i64 0, .slice none 0 0], .int .i64 110])) ∨
  ((1 ≤ n ∧ n ≤ 64 ∧ 0 < l.length ∧ may = true) ∧ Hid (∃ lv, Lev l lv) ∧ ∃ (c O M : Nat) (R : Nat → Nat) (of : Nat → Int), e = .returned (.tuple #[.agg #[.slice (some ⟨O, 0, none⟩) l.length l.length, .int .i64 (c : Int), .slice (some ⟨M, 0, none⟩) c c], .int .i64 0]) ∧ (c : Int) ≤ n ∧ Hid (Pw B l.length c O M R of (fun i k => aheadN l (rowL l.length of) i k) w') ∧ Hid (PtsOk l (rowL l.length of) (c : Int) (aheadL l (rowL l.length of) c)))
theorem cells3o {w : World} {b : Nat} {y0 y1 y2 : Value} {t : TypeId} (h : w.heap[b]? = some (.cells #[y0, y1, y2] t (0, 0))) : w.cell? ⟨b, 0, none⟩ = some y0 ∧ w.cell? ⟨b, 1, none⟩ = some y1 ∧ w.cell? ⟨b, 2, none⟩ = some y2 ∧ w.frozen? ⟨b, 0, none⟩ = false ∧ w.frozen? ⟨b, 1, none⟩ = false ∧ w.frozen? ⟨b, 2, none⟩ = false :=
  ⟨by rw [Lib.cell_of_heap h]; rfl, by rw [Lib.cell_of_heap h]; rfl, by rw [Lib.cell_of_heap h]; rfl, by simp [World.frozen?, h], by simp [World.frozen?, h], by simp [World.frozen?, h]⟩
theorem Mx.mono {B B' N M : Nat} {R : Nat → Nat} {A : Nat → Nat → Int} {W : World} (h : Mx B N M R A W) (hB : B' ≤ B) : Mx B' N M R A W := ⟨h.m, h.r, Nat.le_trans hB h.bm, fun i hi => Nat.le_trans hB (h.br i hi), h.dm, h.dr⟩
theorem set3_block {W : World} {b : Nat} {x y z : Value} {k : Nat} (h : k ≠ b) : (((W.setCell ⟨b, 0, none⟩ x).setCell ⟨b, 1, none⟩ y).setCell ⟨b, 2, none⟩ z).heap[k]? = W.heap[k]? :=
  (Below.heap_setCell _ _ _ _ (by show k ≠ b; exact h)).trans ((Below.heap_setCell _ _ _ _ (by show k ≠ b; exact h)).trans (Below.heap_setCell _ _ _ _ (by show k ≠ b; exact h)))
theorem set3_bel {w W : World} {B b : Nat} {x y z : Value} (h : Below B w W) (hb : B ≤ b) : Below B w (((W.setCell ⟨b, 0, none⟩ x).setCell ⟨b, 1, none⟩ y).setCell ⟨b, 2, none⟩ z) :=
  ((h.setCell (p := ⟨b, 0, none⟩) hb _).setCell (p := ⟨b, 1, none⟩) hb _).setCell (p := ⟨b, 2, none⟩) hb _
theorem minQ {n : Int} {c : Nat} (h : 1 ≤ n ∧ n ≤ 64) (hc : 1 ≤ c) : ∃ q : Nat, min n (c : Int) = (q : Int) ∧ 1 ≤ q ∧ q ≤ 64 ∧ q ≤ c ∧ (q : Int) ≤ n := ⟨(min n (c : Int)).toNat, by omega, by omega, by omega, by omega, by omega⟩
set_option maxHeartbeats 4000000 in
theorem pRun_c0 (l : List Nd) (nets : List Int) (n : Int) (vN vT : Value) (pt : Int) (w : World) (hN : NdsAt w vN l) (hT : IntsAt w vT nets) (hf : Fits l nets) :
    Calls Try.prog 9 #[.agg #[vN, vT, .int .i64 pt], .int .i64 n] w fun e w' => PRun l (mayN l nets pt) n w.heap.size e w' ∧ Below w.heap.size w w' := by
  have HL : Hid (∀ W, Below w.heap.size w W → Calls Try.prog 21 #[.agg #[vN, vT, .int .i64 pt]] W fun e w' => RunR l (mayN l nets pt) W.heap.size e w' ∧ Below W.heap.size W w') := fun W hW => lRun_c l nets vN vT pt W (hN.below hW) (hT.below hW) hf
  obtain ⟨ta, k, tc, rfl⟩ := hT.shape
  have HN0 : Hid (NdsAt w vN l) := hN
  have hlen := hf.n
  obtain ⟨na, nc, rfl, hnc, _⟩ := id hN
  obtain ⟨m, hm⟩ : ∃ m, m = l.length := ⟨_, rfl⟩
  rw [← hm] at HL HN0 hlen ⊢
  have HML : Hid (m = l.length) := hm
  have HSh : Hid (∀ W, Below w.heap.size w W → RunR l (mayN l nets pt) W.heap.size = RunR l (mayN l nets pt) W.heap.size) := fun _ _ => rfl
  clear hN hT hf hnc hm HSh
  generalize hmy : mayN l nets pt = my at HL ⊢
  have HMy : Hid (mayN l nets pt = my) := hmy
  clear hmy
  by_cases h1 : n < 1
  · go_enter Try.func9, Try.ntmps9
    go_wp2
    refine bodyPost_ret (v := .tuple #[.agg #[.slice none 0 0, .int .i64 0, .slice none 0 0], .int .i64 1]) (by simp [results, Try.results9, go_sem]) rfl ?_
    exact ⟨Or.inl ⟨Or.inl h1, rfl⟩, belA (belA (Below.refl _ _) _) _⟩
  · have h1' : decide (n < 1) = false := by simp; omega
    by_cases h64 : 64 < n
    · go_enter Try.func9, Try.ntmps9
      go_wp2
      refine bodyPost_ret (v := .tuple #[.agg #[.slice none 0 0, .int .i64 0, .slice none 0 0], .int .i64 1]) (by simp [results, Try.results9, go_sem]) rfl ?_
      exact ⟨Or.inl ⟨Or.inr (Or.inl h64), rfl⟩, belA (belA (Below.refl _ _) _) _⟩
    · have h64' : decide (64 < n) = false := by simp; omega
      have H164 : Hid (1 ≤ n ∧ n ≤ 64) := by show _ ∧ _; omega
      by_cases hm0 : m = 0
      · subst hm0
        go_enter Try.func9, Try.ntmps9
        go_wp2
        refine bodyPost_ret (v := .tuple #[.agg #[.slice none 0 0, .int .i64 0, .slice none 0 0], .int .i64 1]) (by simp [results, Try.results9, go_sem]) rfl ?_
        exact ⟨Or.inl ⟨Or.inr (Or.inr (Or.inl HML.out.symm)), rfl⟩, belA (belA (Below.refl _ _) _) _⟩
      · have hm0' : ((m : Int) == 0) = false := by simp; omega
        have hm0'' : ¬ m = 0 := hm0
        have HM0 : Hid (0 < m) := by show 0 < m; omega
        clear h1 h64
        have HX : Hid (∀ W, Below ((w.alloc (.cells #[.slice na m nc, .slice ta k tc, .int .i64 pt] 26)).alloc (.cells #[.slice none 0 0, .int .i64 0, .slice none 0 0] 30)).heap.size ((w.alloc (.cells #[.slice na m nc, .slice ta k tc, .int .i64 pt] 26)).alloc (.cells #[.slice none 0 0, .int .i64 0, .slice none 0 0] 30)) W → ((W.cell? ⟨w.heap.size, 0, none⟩ = some (.slice na m nc) ∧ W.cell? ⟨w.heap.size, 1, none⟩ = some (.slice ta k tc) ∧ W.cell? ⟨w.heap.size, 2, none⟩ = some (.int .i64 pt)) ∧ (W.cell? ⟨w.heap.size + 1, 0, none⟩ = some (.slice none 0 0) ∧ W.cell? ⟨w.heap.size + 1, 1, none⟩ = some (.int .i64 0) ∧ W.cell? ⟨w.heap.size + 1, 2, none⟩ = some (.slice none 0 0) ∧ W.frozen? ⟨w.heap.size + 1, 0, none⟩ = false ∧ W.frozen? ⟨w.heap.size + 1, 1, none⟩ = false ∧ W.frozen? ⟨w.heap.size + 1, 2, none⟩ = false) ∧ w.heap.size < W.heap.size ∧ w.heap.size + 1 < W.heap.size)) := fun W hb => by
          have h1 := (hb.block w.heap.size (by simp; omega)).trans ((alOld (by simp)).trans (alAt rfl))
          have h2 := (hb.block (w.heap.size + 1) (by simp)).trans (alAt (by simp))
          exact ⟨cells3n h1, cells3o h2, hLt h1, hLt h2⟩
        have HB0 : Hid (Below w.heap.size w ((w.alloc (.cells #[.slice na m nc, .slice ta k tc, .int .i64 pt] 26)).alloc (.cells #[.slice none 0 0, .int .i64 0, .slice none 0 0] 30))) := belA (belA (Below.refl _ _) _) _
        have HGr : Hid (my = true → ∀ W, Below w.heap.size w W → Calls Try.prog 22 #[.slice na m nc] W fun e w' => ∃ (c : Nat) (ρ : Nat → Nat) (B : Nat) (ao : Option Addr) (cap : Nat) (vs : List Value), e = .returned (.slice ao c cap) ∧ Hid (∀ j, ρ j ≤ j) ∧ Hid (∀ j, ρ (ρ j) = ρ j) ∧ Hid (Sm l m ρ) ∧ Hid (c = nR ρ m) ∧ Hid (vs.length = c) ∧ Hid (GL B (.slice ao c cap) vs (glR (clR ρ) m) w') ∧ 1 ≤ c ∧ c ≤ 4096 ∧ Below W.heap.size W w') := fun hm W hW => by
          have hok := may_ok (HMy.out.trans hm)
          refine (groups_c l na m nc W (HN0.out.below hW) HML.out hok).mono fun e w' hh => ?_
          obtain ⟨c, ρ, B, ao, cap, vs, rfl, a1, a2, a3, a4, a5, a6, a7, a8⟩ := hh
          have hc1 : 1 ≤ c := by rw [a4.out]; have := clR_lt a1.out a2.out (j := 0) (i := m) (by omega); omega
          have hc4 : c ≤ 4096 := by rw [a4.out]; exact Nat.le_trans (nR_le ρ m) (by rw [HML.out]; exact hok.n)
          exact ⟨c, ρ, B, ao, cap, vs, rfl, a1, a2, a3, a4, a5, a7, hc1, hc4, a8⟩
        have HDe : Hid (my = true → ∀ (W : World) (c q : Nat) (ρ : Nat → Nat) (B : Nat) (ao : Option Addr) (cap : Nat) (vs : List Value), GL B (.slice ao c cap) vs (glR (clR ρ) m) W → vs.length = c → c = nR ρ m → (∀ j, ρ j ≤ j) → (∀ j, ρ (ρ j) = ρ j) → 1 ≤ q → q ≤ c → Calls Try.prog 23 #[.slice ao c cap, .int .i64 (m : Int), .int .i64 (q : Int)] W fun e w' => ∃ (O : Nat) (of : Nat → Int), e = .returned (.slice (some ⟨O, 0, none⟩) m m) ∧ Hid (W.heap.size ≤ O) ∧ Hid (w'.rowIs O 3 m (fun q => .int .i64 (of q))) ∧ Hid (Dealt m q (clR ρ) of) ∧ Below W.heap.size W w') := fun hm W c q ρ B ao cap vs h1 h2 h3 h4 h5 h6 h7 => by
          have hm4 : m ≤ 4096 := by rw [HML.out]; exact (may_ok (HMy.out.trans hm)).n
          have hg := groups_ok (l := l) h4 h5 hm4
          rw [← h3] at hg
          exact deal_c B ao c cap m q vs (glR (clR ρ) m) (clR ρ) W h1 h2 hg (by rw [h3]; exact Nat.le_trans (nR_le ρ m) hm4) hm4 h6 h7
        have HAh : Hid (my = true → ∀ (W : World) (q O : Nat) (of : Nat → Int) (ρ : Nat → Nat), Below w.heap.size w W → W.rowIs O 3 m (fun q => .int .i64 (of q)) → Dealt m q (clR ρ) of → q ≤ 64 → Calls Try.prog 24 #[.slice na m nc, .slice (some ⟨O, 0, none⟩) m m, .int .i64 (q : Int)] W fun e w' => ∃ (M : Nat) (R : Nat → Nat), e = .returned (.slice (some ⟨M, 0, none⟩) q q) ∧ Hid (Mx W.heap.size q M R (fun i k => aheadN l (rowL m of) i k) w') ∧ Below W.heap.size W w') := fun hm W q O of ρ hW hO hd hq =>
          ahead_c l (rowL m of) q _ _ W (HN0.out.below hW) (rowInts hO) (may_okd (HMy.out.trans hm)) (by rw [rowL_len, HML.out]) (fun z hz => by
            obtain ⟨y, hy, rfl⟩ := List.mem_map.1 hz
            exact hd.r y (List.mem_range.1 hy)) hq
        go_enter Try.func9, Try.ntmps9
        go_wp2_with (first
          | (go_at_call 21; refine (HL.out _ HB0.out).mono ?_; rintro e w5 ⟨(⟨HF, rfl⟩ | ⟨HT, HRing, rfl⟩ | ⟨HT, lv, T, HLev, HTb, rfl, HRow⟩), hb5⟩ <;> (have x5 := HX.out _ hb5; obtain ⟨⟨a0, a1, a2⟩, ⟨b0, b1, b2, g0, g1, g2⟩, la, lb⟩ := x5))
          | (go_at_call 22; refine (HGr.out HT _ (bel HB0.out hb5)).mono ?_; rintro e w6 ⟨c, ρ, Bg, ao, cap, vs, rfl, Hr1, Hr2, HSm, HcR, Hvs, HGL, hc1, hc4, hb6⟩; have hqq := minQ H164.out hc1; obtain ⟨q, hq0, hq1, hq64, hqc, hqn⟩ := hqq; have x6 := HX.out _ (bel hb5 hb6); obtain ⟨⟨c0, c1, c2⟩, ⟨d0, d1, d2, h0, h1, h2⟩, lc, ld⟩ := x6)
          | (go_at_call 23; refine (HDe.out HT _ c q ρ Bg ao cap vs HGL.out Hvs.out HcR.out Hr1.out Hr2.out hq1 hqc).mono ?_; rintro e w7 ⟨O, of, rfl, HO7, HRO, HDd, hb7⟩; have x7 := HX.out _ (bel (bel hb5 hb6) hb7); obtain ⟨⟨e0, e1, e2⟩, ⟨f0, f1, f2, i0, i1, i2⟩, le, lf⟩ := x7)
          | (go_at_call 24; refine (HAh.out HT _ q O of ρ (bel HB0.out (bel (bel hb5 hb6) hb7)) HRO.out HDd.out hq64).mono ?_; rintro e w8 ⟨M, R, rfl, HMx, hb8⟩; have x8 := HX.out _ (bel (bel (bel hb5 hb6) hb7) hb8); obtain ⟨⟨j0, j1, j2⟩, ⟨k0, k1, k2, l0, l1, l2⟩, lg, lh⟩ := x8))
        · refine bodyPost_ret (v := .tuple #[.agg #[.slice none 0 0, .int .i64 0, .slice none 0 0], .int .i64 1]) (by simp [results, Try.results9, go_sem, b0, b1, b2]) rfl ?_
          exact ⟨Or.inl ⟨Or.inr (Or.inr (Or.inr HF)), rfl⟩, set3_bel (bel HB0.out hb5) (by omega)⟩
        · refine bodyPost_ret (v := .tuple #[.agg #[.slice none 0 0, .int .i64 0, .slice none 0 0], .int .i64 110]) (by simp [results, Try.results9, go_sem, b0, b1, b2]) rfl ?_
          exact ⟨Or.inr (Or.inl ⟨⟨H164.out.1, H164.out.2, by rw [← HML.out]; exact HM0.out, HT⟩, HRing, rfl⟩), set3_bel (bel HB0.out hb5) (by omega)⟩
        · refine bodyPost_ret (v := .tuple #[.agg #[.slice (some ⟨O, 0, none⟩) m m, .int .i64 (q : Int), .slice (some ⟨M, 0, none⟩) q q], .int .i64 0]) (by simp [results, Try.results9, go_sem, k0, k1, k2]) rfl ?_
          have hb9 := bel HB0.out (bel (bel (bel hb5 hb6) hb7) hb8)
          refine ⟨?_, set3_bel hb9 (by omega)⟩
          unfold PRun
          rw [← HML.out]
          have hO := HO7.out
          have hOl := HRO.out.lt
          have hs7 := (bel HB0.out (bel (bel hb5 hb6) hb7)).size
          refine Or.inr (Or.inr ⟨⟨H164.out.1, H164.out.2, HM0.out, HT⟩, ⟨lv, HLev.out⟩, q, O, M, R, of, rfl, hqn, ?_, dealt_ok HML.out (may_ok (HMy.out.trans HT)) HSm.out HDd.out hq1 hq64⟩)
          refine ⟨(HRO.out.of_block (hb8.block O hOl)).of_block (set3_block (by omega)), (HMx.out.keep (fun b hb _ => set3_block (by omega))).mono hs7, by omega, ?_, fun i hi => ?_⟩
          · have := HMx.out.bm; omega
          · have := HMx.out.br i hi; omega
theorem pRun_c (l : List Nd) (nets : List Int) (n : Int) (vN vT : Value) (pt : Int) (w : World) (hN : NdsAt w vN l) (hT : IntsAt w vT nets) (hf : Fits l nets) (_ : l.length ≤ 17592186044416) :
    Calls Try.prog 9 #[.agg #[vN, vT, .int .i64 pt], .int .i64 n] w fun e w' => PRun l (mayN l nets pt) n w.heap.size e w' ∧ Below w.heap.size w w' := pRun_c0 l nets n vN vT pt w hN hT hf
end Go.Proofs.Ytkgonnnpoldcoaa
