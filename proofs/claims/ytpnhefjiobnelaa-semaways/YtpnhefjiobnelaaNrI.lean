/- The reference's reader: signs between two parts. -/
import Derived.Test.YtpnhefjiobnelaaGRc
import Derived.Deep.RegionHeld
namespace Go.Proofs.Ytpnhefjiobnelaa
open Go.RowKit Lg Rp
set_option linter.unusedVariables false
set_option linter.unusedSimpArgs false

/-- where the reader stands -/
def atQ (b : Nat) (w : World) : Nat := match w.cell? ⟨b, 1, none⟩ with | some (.int _ k) => k.toNat | _ => 0
theorem atQ_eq {b g cap k : Nat} {l : List Tok} {w : World} (h : Rq b g cap l k w) : atQ b w = k := by unfold atQ; rw [h.at_.2.1]; simp
theorem sE_le {l : List Tok} : ∀ (f : Nat) (md : Mr) (k : Nat) (x : List Dc) (k' : Nat), sE l f md k = some (x, k') → k ≤ k' := by
  intro f
  induction f with
  | zero => intro md k x k' h; rw [sE] at h; cases h
  | succ f ih =>
    intro md k x k' h
    cases md with
    | ex d =>
      rw [sE] at h
      split at h
      · cases h1 : sE l f (.bi 1 d) k with
        | none => rw [h1] at h; cases h
        | some r =>
          obtain ⟨c, k1⟩ := r
          rw [h1] at h
          simp only at h
          split at h
          · cases h
          · injection h with h; injection h with h2 h3; subst h3; exact ih _ _ _ _ h1
      · cases h
    | bi n d =>
      rw [sE] at h
      split at h
      · exact ih _ _ _ _ h
      · cases h1 : sE l f (.bi (n + 1) d) k with
        | none => rw [h1] at h; cases h
        | some r =>
          obtain ⟨c, k1⟩ := r
          rw [h1] at h
          exact Nat.le_trans (ih _ _ _ _ h1) (ih _ _ _ _ h)
    | bl n d a =>
      rw [sE] at h
      split at h
      · cases h1 : sE l f (.bi (n + 1) d) (k + 1) with
        | none => rw [h1] at h; cases h
        | some r =>
          obtain ⟨c, k1⟩ := r
          rw [h1] at h
          have a1 := ih _ _ _ _ h1
          have a2 := ih _ _ _ _ h
          omega
      · injection h with h; injection h with h2 h3; omega
    | un d =>
      rw [sE] at h
      split at h
      · exact ih _ _ _ _ h
      · cases h
    | pr d =>
      rw [sE] at h
      split at h
      · cases h1 : numV (tk l k).x with
        | none => rw [h1] at h; cases h
        | some r => obtain ⟨v, pl⟩ := r; rw [h1] at h; injection h with h; injection h with h2 h3; omega
      · split at h
        · injection h with h; injection h with h2 h3; omega
        · cases h
theorem sE_bl {l : List Tok} {f n d k k' : Nat} {a x : List Dc} (h : sE l (f + 1) (.bl n d a) k = some (x, k')) :
    ((¬ ((tk l k).k = 3 ∧ (biL (tk l k).x).2 = n)) ∧ x = a ∧ k' = k) ∨ ((tk l k).k = 3 ∧ (biL (tk l k).x).2 = n ∧ ∃ y k1, sE l f (.bi (n + 1) d) (k + 1) = some (y, k1) ∧ sE l f (.bl n d (xD (biL (tk l k).x).1 [] [] false 2 (a ++ y) (tk l k).p)) k1 = some (x, k')) := by
  rw [sE] at h
  split at h
  · rename_i hc
    right
    cases h1 : sE l f (.bi (n + 1) d) (k + 1) with
    | none => rw [h1] at h; cases h
    | some r => obtain ⟨y, k1⟩ := r; rw [h1] at h; exact ⟨hc.1, hc.2, y, k1, rfl, h⟩
  · rename_i hc
    left
    injection h with h; injection h with h2 h3
    exact ⟨hc, h2.symm, h3.symm⟩
def BiR (b g cap : Nat) (l : List Tok) (f : Nat) : Prop := ∀ n d k x k', sE l f (.bi n d) k = some (x, k') → n ≤ 10 → ∀ w, Rq b g cap l k w → Calls Try.prog 56 #[.pointer (some ⟨b, 0, none⟩), .int .i64 n, .int .i64 d] w fun e w' => ExR b g cap l w x k' e w'
set_option maxRecDepth 100000 in
set_option maxHeartbeats 4000000 in
theorem rBiU {b g cap k k' : Nat} {l : List Tok} {w : World} {x : List Dc} (h : Rq b g cap l k w) (n d : Nat) (hn : 9 < n) (hn2 : n ≤ 10)
    (HP : ∀ w', Rq b g cap l k w' → Calls Try.prog 72 #[.pointer (some ⟨b, 0, none⟩), .int .i64 d] w' fun e w'' => ExR b g cap l w' x k' e w'') :
    Calls Try.prog 56 #[.pointer (some ⟨b, 0, none⟩), .int .i64 n, .int .i64 d] w fun e w' => ExR b g cap l w x k' e w' := by
  have HT : Hid _ := h
  have hbl := h.blt
  have hnI : (9 : Int) < (n : Int) := by omega
  unfold ExR at HP ⊢
  clear h hn
  go_enter Try.func56, Try.ntmps56
  go_wp2_with (first
    | (go_at_call 72; refine (HP _ (HT.out.below bxS)).mono ?_; rintro e w4 ⟨⟨a0, a1, a2, a3, a4, a5, rfl, hv⟩, hs4, hk4⟩; have hR4 := res6b (R := w.heap.size) (bb := b) hk4 hbl rfl)
    | (refine wpl_store rfl 81 _ _ rfl _ rfl _ rfl _ _ hR4 xr_size rfl (one6 hv) ?_))
  refine bodyPost_ret (results_cell (r := 6) (t := 81) rfl w.heap.size rfl _ _ _ (setRow_at hR4) Try.underlying81 rfl xr_size) rfl ?_
  have hg := HT.out.lt
  exact ⟨⟨_, _, _, _, _, _, rfl, (hv.keep (Up.row (by unfold Ge; simp))).monoG (by simp)⟩, hs4.row (by omega) (by omega), ((Kp.of bxS).trans hk4).row (Nat.le_refl _)⟩
theorem Up.tr {N : Nat → Prop} {x y z : World} (h : Up N x y) (k : Up N y z) : Up N x z := Up.trans h k
theorem build2 (w : World) (a0 a1 a2 a3 a4 a5 c0 c1 c2 c3 c4 c5 : Value) : (Instr.buildSlice 79 2 #[(0, .agg #[a0, a1, a2, a3, a4, a5]), (1, .agg #[c0, c1, c2, c3, c4, c5])]).run Try.prog w = .ok (.slice (some ⟨w.heap.size, 0, none⟩) 2 2) (w.alloc (.cells #[a0, a1, a2, a3, a4, a5, c0, c1, c2, c3, c4, c5] 81)) := by kernel_rfl
/-- two elements, made into a slice -/
theorem DAt.pair {w : World} {N : Nat → Prop} {a c : List Dc} {x y : List Value} (hN : N w.heap.size) (h1 : DAt w N a x) (h2 : DAt w N c y) (t : TypeId) : DAt (w.alloc (.cells (x ++ y).toArray t)) N [.s 2 (a ++ c)] [.slice (some ⟨w.heap.size, 0, none⟩) 2 2] :=
  .s hN (by simp) (Nat.le_refl _) cells_in ((h1.app h2).keep Up.alloc) .nil
set_option maxRecDepth 100000 in
set_option maxHeartbeats 8000000 in
theorem rBiL {b g cap : Nat} {l : List Tok} {F : Nat} (HB0 : ∀ f, f ≤ F → BiR b g cap l f) (n d k k' : Nat) (x y0 : List Dc) (k1 : Nat) (hn : n ≤ 9) (hq1 : sE l F (.bi (n + 1) d) k = some (y0, k1)) (hq2 : sE l F (.bl n d y0) k1 = some (x, k')) (w : World) (h : Rq b g cap l k w) :
    Calls Try.prog 56 #[.pointer (some ⟨b, 0, none⟩), .int .i64 n, .int .i64 d] w fun e w' => ExR b g cap l w x k' e w' := by
  have HB1 := HB0 F (Nat.le_refl _) (n + 1) d k y0 k1 hq1 (by omega)
  replace HB1 : ∀ w', Rq b g cap l k w' → Calls Try.prog 56 #[.pointer (some ⟨b, 0, none⟩), .int .i64 ((n : Int) + 1), .int .i64 d] w' fun e w'' => ExR b g cap l w' y0 k1 e w'' := HB1
  have HBB : Hid _ := HB0
  have HT : Hid _ := h
  have HQ2 : Hid _ := hq2
  unfold ExR at HB1 ⊢
  have hbl := h.blt
  have hnI : (n : Int) ≤ 9 := by omega
  have hwn : IntKind.i64.wrap ((n : Int) + 1) = (n : Int) + 1 := by rw [IntKind.wrap_i64]; omega
  clear h hq1 hq2 HB0
  go_enter Try.func56, Try.ntmps56
  go_wp2_with (first
    | (go_at_call 56; refine (HB1 _ (HT.out.below bxS)).mono ?_; rintro e w1 ⟨⟨a0, a1, a2, a3, a4, a5, rfl, hv⟩, hs1, hk1⟩)
    | (refine wpl_storeN rfl 81 _ _ rfl _ rfl rfl #[a0, a1, a2, a3, a4, a5] rfl _ _ xr_size rfl (one6 hv) ?_))
  have hXb : w.heap.size + 1 ≤ w1.heap.size := by have := hk1.size; simpa using this
  obtain ⟨Xb, hXe⟩ : ∃ Xb, Xb = w1.heap.size := ⟨_, rfl⟩
  rw [← hXe] at hXb ⊢
  have HX0 : Hid (Xb = w1.heap.size) := hXe
  clear hXe
  simp only [Act.put]
  go_loopw [8] (fun _ wr => ∃ (f' : Nat) (z : List Dc) (kz : Nat) (a0 a1 a2 a3 a4 a5 : Value), f' ≤ F ∧ Hid (sE l f' (.bl n d z) kz = some (x, k')) ∧ Hid (wr.heap[Xb]? = some (.cells #[a0, a1, a2, a3, a4, a5] 81 (0, 0))) ∧ Hid (DAt wr (No (w.heap.size + 1) Xb) z [a0, a1, a2, a3, a4, a5]) ∧ Hid (Rq b g cap l kz wr) ∧ Hid (Kp b (w.alloc (.cells zV 81)) wr)) (fun _ wr => l.length - atQ b wr)
  case atStart =>
    refine ⟨F, _, k1, a0, a1, a2, a3, a4, a5, Nat.le_refl _, HQ2, ?_, ?_, hs1.below bxS, hk1.trans (Kp.of bxS)⟩
    · rw [HX0.out]; exact heap_alloc_last _ _
    · exact (hv.mono (N' := No (w.heap.size + 1) Xb) fun g' h1 h2 => ⟨by unfold Ge at h2; simp at h2; omega, by have := HX0.out; omega⟩).keep Up.alloc
  case round =>
    obtain ⟨f', z, kz, z0, z1, z2, z3, z4, z5, hf', HQ, HXB, HDA, HST, HKP⟩ := hrel
    have hR0 := res6b (R := w.heap.size) HKP.out hbl rfl
    have hXl := heap_lt HXB.out
    have HG := fun w' (hb : Below wr.heap.size wr w') => rGoing (HST.out.below hb)
    have HL := fun w' (hb : Below wr.heap.size wr w') => rPlace (HST.out.below hb)
    have hnb : ¬ No (w.heap.size + 1) Xb b := by unfold No; omega
    have hnR : ¬ No (w.heap.size + 1) Xb w.heap.size := by unfold No; omega
    have hnX : ¬ No (w.heap.size + 1) Xb Xb := by unfold No; omega
    obtain ⟨c0, c1, c3, cf⟩ := HST.out.at_
    obtain ⟨d0, d1, d2⟩ := HST.out.tok HST.out.k
    have HLV := fun w' => rLevel_c (S (tk l kz).x) w'
    rw [L_S] at HLV
    have hkz := HST.out.k
    have hlen := HST.out.len
    have hgl := HST.out.lt
    have hbl2 := HST.out.blt
    have hne := HST.out.ne
    obtain ⟨m, hm⟩ : ∃ m, m = l.length := ⟨_, rfl⟩
    rw [← hm] at c0 hkz hlen
    have HMm : Hid _ := hm
    clear hm
    have hkI : (kz : Int) < (m : Int) := by omega
    cases f' with
    | zero => have := HQ.out; rw [sE] at this; cases this
    | succ f' =>
      rcases sE_bl HQ.out with ⟨hc, hz, hkz2⟩ | ⟨h3, hlv, y, k2, hy, hnext⟩
      · subst hkz2
        subst hz
        obtain ⟨⟨kk, tx, p⟩, ht⟩ : ∃ t, t = tk l k' := ⟨_, rfl⟩
        rw [← ht] at d0 d1 d2 HLV HL hc
        simp only at d0 d1 d2 HLV HL hc
        obtain ⟨sx, hsx⟩ : ∃ sx, sx = S tx := ⟨_, rfl⟩
        rw [← hsx] at d1 HLV
        obtain ⟨lv, hlv⟩ : ∃ lv, lv = (biL tx).2 := ⟨_, rfl⟩
        obtain ⟨lo, hlo⟩ : ∃ lo, lo = (biL tx).1 := ⟨_, rfl⟩
        rw [← hlv, ← hlo] at HLV
        rw [← hlv] at hc
        by_cases h3 : kk = 3
        · subst h3
          have hln : ((lv : Int) == (n : Int)) = false := by
            have : lv ≠ n := fun e => hc ⟨rfl, e⟩
            simp; omega
          clear hc hlv hlo hsx ht
          go_wp2_with fail
          go_region_held (fun w' => w'.cell? ⟨b, 0, none⟩ = some (.slice (some ⟨g, 0, none⟩) m cap) ∧ w'.cell? ⟨b, 1, none⟩ = some (.int .i64 k') ∧ w'.cell? ⟨g, k' * 3, none⟩ = some (.int .i64 3)) (go_keep) (first
            | (go_at_call 18; refine (HG _ belD).mono ?_; rintro e wA ⟨rfl, hw⟩; have hw2 := hw.symm; subst hw2))
          all_goals go_wp2_with fail
          all_goals go_region_held (fun w' => w'.cell? ⟨b, 0, none⟩ = some (.slice (some ⟨g, 0, none⟩) m cap) ∧ w'.cell? ⟨b, 1, none⟩ = some (.int .i64 k') ∧ w'.cell? ⟨g, k' * 3 + 1, none⟩ = some (.string sx)) (go_keep) (first
            | (go_at_call 73; refine (HLV _).mono ?_; rintro e wB ⟨rfl, hbB⟩; have p0 : wB.cell? ⟨b, 0, none⟩ = some (.slice (some ⟨g, 0, none⟩) m cap) := (hbB.cell (p := ⟨b, 0, none⟩) hbl2).trans c0; have p1 : wB.cell? ⟨b, 1, none⟩ = some (.int .i64 k') := (hbB.cell (p := ⟨b, 1, none⟩) hbl2).trans c1; have p2 : wB.cell? ⟨g, k' * 3 + 1, none⟩ = some (.string sx) := (hbB.cell (p := ⟨g, k' * 3 + 1, none⟩) hgl).trans d1))
          all_goals go_wp2_with (first
            | (refine wpl_load rfl 81 _ rfl _ rfl #[z0, z1, z2, z3, z4, z5] _ _ ((hbB.block Xb hXl).trans HXB.out) Try.underlying81 rfl xr_size ?_)
            | (refine wpl_store rfl 81 _ _ rfl _ rfl #[z0, z1, z2, z3, z4, z5] rfl _ _ ((hbB.block w.heap.size (heap_lt hR0)).trans hR0) xr_size rfl (one6 HDA.out) ?_))
          all_goals
            refine bodyPost_ret (results_cell (r := 6) (t := 81) rfl w.heap.size rfl _ _ _ (setRow_at ((hbB.block w.heap.size (heap_lt hR0)).trans hR0)) Try.underlying81 rfl xr_size) rfl ?_
            have hg := HT.out.lt
            have hW : Kp b wr wB := ((Kp.refl b wr).drew.drew).trans (Kp.of hbB)
            exact ⟨⟨_, _, _, _, _, _, rfl, ((HDA.out.keep (Up.of hW hnb)).keep (Up.row hnR)).mono fun g' _ hg' => by unfold Ge; unfold No at hg'; omega⟩, (((HST.out.below belD).below belD).below hbB).row (by omega) (by omega), (((Kp.of bxS).trans HKP.out).trans hW).row (Nat.le_refl _)⟩
        · have b3 : (kk == 3) = false := by simpa using h3
          clear hc hlv hlo hsx ht h3
          go_wp2_with fail
          go_region_held (fun w' => w'.cell? ⟨b, 0, none⟩ = some (.slice (some ⟨g, 0, none⟩) m cap) ∧ w'.cell? ⟨b, 1, none⟩ = some (.int .i64 k') ∧ w'.cell? ⟨g, k' * 3, none⟩ = some (.int .i64 kk)) (go_keep) (first
            | (go_at_call 18; refine (HG _ belD).mono ?_; rintro e wA ⟨rfl, hw⟩; have hw2 := hw.symm; subst hw2))
          all_goals go_wp2_with (first
            | (refine wpl_load rfl 81 _ rfl _ rfl #[z0, z1, z2, z3, z4, z5] _ _ HXB.out Try.underlying81 rfl xr_size ?_)
            | (refine wpl_store rfl 81 _ _ rfl _ rfl #[z0, z1, z2, z3, z4, z5] rfl _ _ hR0 xr_size rfl (one6 HDA.out) ?_))
          all_goals
            refine bodyPost_ret (results_cell (r := 6) (t := 81) rfl w.heap.size rfl _ _ _ (setRow_at (w := wr.drew) hR0) Try.underlying81 rfl xr_size) rfl ?_
            have hg := HT.out.lt
            have hW : Kp b wr wr.drew := (Kp.refl b wr).drew
            exact ⟨⟨_, _, _, _, _, _, rfl, ((HDA.out.keep (Up.of hW hnb)).keep (Up.row hnR)).mono fun g' _ hg' => by unfold Ge; unfold No at hg'; omega⟩, (HST.out.below belD).row (by omega) (by omega), (((Kp.of bxS).trans HKP.out).trans hW).row (Nat.le_refl _)⟩
      · have HBi := HBB.out f' (by omega) (n + 1) d (kz + 1) y k2 hy (by omega)
        replace HBi : ∀ w', Rq b g cap l (kz + 1) w' → Calls Try.prog 56 #[.pointer (some ⟨b, 0, none⟩), .int .i64 ((n : Int) + 1), .int .i64 d] w' fun e w'' => ExR b g cap l w' y k2 e w'' := HBi
        unfold ExR at HBi
        have HNX : Hid _ := hnext
        have HLE : Hid _ := sE_le _ _ _ _ _ hy
        have HN1 : Hid _ := HST.out.next (by rw [h3]; decide)
        have hkb : kz ≤ 100000 := by omega
        rw [h3] at d0
        rw [hlv] at HLV
        obtain ⟨⟨kk, tx, p⟩, ht⟩ : ∃ t, t = tk l kz := ⟨_, rfl⟩
        have HEQ : Hid (tk l kz = ⟨kk, tx, p⟩) := ht.symm
        rw [← ht] at d1 d2 HLV HL
        simp only at d1 d2 HLV HL
        obtain ⟨sx, hsx⟩ : ∃ sx, sx = S tx := ⟨_, rfl⟩
        rw [← hsx] at d1 HLV
        obtain ⟨lo, hlo⟩ : ∃ lo, lo = (biL tx).1 := ⟨_, rfl⟩
        have HLO : Hid _ := hlo
        rw [← hlo] at HLV
        clear hlo hsx ht hlv h3 hy hnext
        go_wp2_with fail
        go_region_held (fun w' => w'.cell? ⟨b, 0, none⟩ = some (.slice (some ⟨g, 0, none⟩) m cap) ∧ w'.cell? ⟨b, 1, none⟩ = some (.int .i64 kz) ∧ w'.cell? ⟨g, kz * 3, none⟩ = some (.int .i64 3)) (go_keep) (first
          | (go_at_call 18; refine (HG _ belD).mono ?_; rintro e wA ⟨rfl, hw⟩; have hw2 := hw.symm; subst hw2))
        all_goals go_wp2_with fail
        all_goals go_region_held (fun w' => w'.cell? ⟨b, 0, none⟩ = some (.slice (some ⟨g, 0, none⟩) m cap) ∧ w'.cell? ⟨b, 1, none⟩ = some (.int .i64 kz) ∧ w'.cell? ⟨g, kz * 3 + 1, none⟩ = some (.string sx)) (go_keep) (first
          | (go_at_call 73; refine (HLV _).mono ?_; rintro e wB ⟨rfl, hbB⟩; have p0 : wB.cell? ⟨b, 0, none⟩ = some (.slice (some ⟨g, 0, none⟩) m cap) := (hbB.cell (p := ⟨b, 0, none⟩) hbl2).trans c0; have p1 : wB.cell? ⟨b, 1, none⟩ = some (.int .i64 kz) := (hbB.cell (p := ⟨b, 1, none⟩) hbl2).trans c1; have p2 : wB.cell? ⟨g, kz * 3 + 1, none⟩ = some (.string sx) := (hbB.cell (p := ⟨g, kz * 3 + 1, none⟩) hgl).trans d1))
        all_goals go_wp2_with (first
          | (go_at_call 27; refine (HL _ (bel belD (bel belD hbB))).mono ?_; rintro e wC ⟨rfl, hbC⟩; have hWC : Below wr.heap.size wr wC := bel (bel belD (bel belD hbB)) hbC; have hsC := HST.out.below hWC; obtain ⟨q0, q1, q3, qf⟩ := hsC.at_; have hblC := hsC.blt)
          | (go_at_call 56; refine (HBi _ (Rq.set hsC HN1.out _ (by simp))).mono ?_; rintro e wD ⟨⟨y0, y1, y2, y3, y4, y5, rfl, hy⟩, hsD, hkD⟩; have hKD : Kp b wr wD := ((Kp.of hWC).setb).trans hkD; have hXD := (hKD.block Xb hXl (by omega)).trans HXB.out; have hXD2 := fun (o1 o2 : Obj) => ((bel (bxS (w := wD) (o := o1)) (bxS (o := o2))).block Xb (heap_lt hXD)).trans hXD)
          | (refine wpl_storeN rfl 81 _ _ rfl _ rfl rfl #[y0, y1, y2, y3, y4, y5] rfl _ _ xr_size rfl (one6 hy) ?_)
          | (refine wpl_load rfl 81 _ rfl Xb rfl #[z0, z1, z2, z3, z4, z5] _ _ ((bxS.block Xb (heap_lt hXD)).trans hXD) Try.underlying81 rfl xr_size ?_)
          | (refine wpl_load rfl 81 _ rfl wD.heap.size rfl #[y0, y1, y2, y3, y4, y5] _ _ (heap_alloc_last _ _) Try.underlying81 rfl xr_size ?_)
          | (refine wpl_bslice rfl 79 2 _ rfl #[(0, .agg #[z0, z1, z2, z3, z4, z5]), (1, .agg #[y0, y1, y2, y3, y4, y5])] (by kernel_rfl) _ _ (build2 _ _ _ _ _ _ _ _ _ _ _ _ _) ?_)
          | (refine wpl_store rfl 81 _ _ rfl Xb rfl #[.int .i64 lo, .string ⟨#[]⟩, .string ⟨#[]⟩, .bool false, .slice (some ⟨wD.heap.size + 1, 0, none⟩) 2 2, .int .i64 p] rfl _ _ (hXD2 _ _) xr_size rfl (by rw [← Array.all_toList]; rfl) ?_))
        all_goals try simp only [Act.put]
        all_goals
          go_roundw
          case rel =>
            have hg := HT.out.lt
            have zz : wr.heap.size ≤ wC.heap.size := hWC.size
            have zw := HKP.out.size
            have zD := hkD.size
            rw [set_size] at zD
            simp at zw
            have hzz := (HDA.out.keep (Up.of hKD hnb)).keep (Up.alloc (o := .cells #[y0, y1, y2, y3, y4, y5] 81))
            have hyy := (hy.mono (N' := No (w.heap.size + 1) Xb) (fun g' _ h2 => by unfold Ge at h2; rw [set_size] at h2; unfold No; omega)).keep (Up.alloc (o := .cells #[y0, y1, y2, y3, y4, y5] 81))
            have hp := (DAt.pair (N := No (w.heap.size + 1) Xb) (by unfold No; simp; omega) hzz hyy 81).keep (Up.row (R := Xb) (c := #[.int .i64 lo, .string ⟨#[]⟩, .string ⟨#[]⟩, .bool false, .slice (some ⟨wD.heap.size + 1, 0, none⟩) 2 2, .int .i64 p]) hnX)
            simp only [List.cons_append, List.nil_append] at hp
            have e1 : (wD.alloc (.cells #[y0, y1, y2, y3, y4, y5] 81)).heap.size = wD.heap.size + 1 := by simp
            rw [e1] at hp
            have hN := HNX.out
            rw [HEQ.out] at hN
            simp only at hN
            rw [← HLO.out] at hN
            exact ⟨f', _, k2, _, _, _, _, _, _, by omega, hN, setRow_at (hXD2 _ _), .i (.t (x := []) (.t (x := []) (.b (hp.app (.i .nil))))), ((hsD.below bxS).below bxS).row (by omega) (by omega), ((HKP.out.trans hKD).trans (Kp.of (bel bxS bxS))).row (by simp; omega)⟩
          case measure =>
            have hg := HT.out.lt
            have a1 := atQ_eq (((hsD.below (bxS (o := .cells #[y0, y1, y2, y3, y4, y5] 81))).below (bxS (o := .cells #[z0, z1, z2, z3, z4, z5, y0, y1, y2, y3, y4, y5] 81))).row (R := Xb) (c := #[.int .i64 lo, .string ⟨#[]⟩, .string ⟨#[]⟩, .bool false, .slice (some ⟨wD.heap.size + 1, 0, none⟩) 2 2, .int .i64 p]) (by omega) (by omega))
            have a2 := atQ_eq HST.out
            have a3 := HLE.out
            have a4 := HST.out.k
            rw [a1, a2]
            omega
end Go.Proofs.Ytpnhefjiobnelaa
