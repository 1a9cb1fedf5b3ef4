/- LevelRuns, walked. -/
import Derived.Test.YtpdcmehjndhcjaaKLg
namespace Go.Proofs.Ytpdcmehjndhcjaa
open Go.RowKit Lg Nl Go.Maps
set_option linter.unusedVariables false
set_option linter.unusedSimpArgs false

set_option maxRecDepth 100000 in
set_option maxHeartbeats 4000000 in
theorem LevelRuns_c (l : List Nd) (nets : List Int) (vN vT : Value) (pt : Int) (w : World) (hN : NdsAt w vN l) (hT : IntsAt w vT nets) (hf : Fits l nets) :
    Calls Try.prog 3 #[.agg #[vN, vT, .int .i64 pt]] w fun e w' => e = .returned (.bool true) ∧ Below w.heap.size w w' := by
  have HRn : Hid (∀ W, Below w.heap.size w W → Calls Try.prog 8 #[.agg #[vN, vT, .int .i64 pt]] W fun e w' => RunR l (mayN l nets pt) W.heap.size e w' ∧ Below W.heap.size W w') := fun W hW => lRun_c l nets vN vT pt W (hN.below hW) (hT.below hW) hf
  have HLp : Hid (∀ W, Below w.heap.size w W → Calls Try.prog 10 #[.agg #[vN, vT, .int .i64 pt]] W fun e w' => LoopR l (mayN l nets pt) e w' ∧ Below W.heap.size W w') := fun W hW => lLoop_c l nets vN vT pt W (hN.below hW) (hT.below hW) hf
  have HMy : Hid (∀ W, Below w.heap.size w W → Calls Try.prog 9 #[.agg #[vN, vT, .int .i64 pt]] W fun e w' => e = .returned (.bool (mayN l nets pt)) ∧ Below W.heap.size W w') := fun W hW => May_c l nets vN vT pt W (hN.below hW) (hT.below hW) hf
  obtain ⟨na, nc, rfl, hnc, _⟩ := id hN
  obtain ⟨ta, tc, rfl, htc, _⟩ := id hT
  obtain ⟨n, hn⟩ : ∃ n, n = l.length := ⟨_, rfl⟩
  obtain ⟨m, hm⟩ : ∃ m, m = nets.length := ⟨_, rfl⟩
  have nb : n ≤ 140737488355328 := by rw [hn]; exact hf.n
  have HN : Hid (NdsAt w (.slice na n nc) l) := by rw [hn]; exact hN
  rw [← hn, ← hm] at HRn HLp HMy
  have HNL : Hid (n = l.length) := hn
  rw [← hn, ← hm]
  by_cases hbig : 200 < n ∧ n ≤ 4096
  · obtain ⟨b1, b2⟩ := hbig
    clear hN hT hf hn hm hnc htc
    go_enter Try.func3, Try.ntmps3
    go_wp2_with (first | (go_at_call 7; refine (awake11 _).mono ?_; rintro e wz ⟨rfl, hbz⟩))
    go_ret
    exact ⟨rfl, bel (belA (Below.refl _ _) _) hbz⟩
  · have hsm : n ≤ 200 ∨ 4096 < n := by omega
    clear hbig
    have cellX : ∀ {W : World}, Below (w.alloc (.cells #[.slice na n nc, .slice ta m tc, .int .i64 pt] 25)).heap.size (w.alloc (.cells #[.slice na n nc, .slice ta m tc, .int .i64 pt] 25)) W → (W.cell? ⟨w.heap.size, 0, none⟩ = some (.slice na n nc) ∧ W.cell? ⟨w.heap.size, 1, none⟩ = some (.slice ta m tc) ∧ W.cell? ⟨w.heap.size, 2, none⟩ = some (.int .i64 pt)) ∧ w.heap.size < W.heap.size ∧ Below w.heap.size w W := fun {W} hb => by
      have hx := (hb.block w.heap.size (by simp)).trans (alAt rfl)
      exact ⟨cells3n hx, hLt hx, bel (belA (Below.refl _ _) _) hb⟩
    rcases hmay : mayN l nets pt with _ | _
    · rw [hmay] at HRn HLp HMy
      have HR2 : Hid (∀ W, Below w.heap.size w W → Calls Try.prog 8 #[.agg #[.slice na n nc, .slice ta m tc, .int .i64 pt]] W fun e w' => e = .returned (.tuple #[.slice none 0 0, .int .i64 1]) ∧ Below W.heap.size W w') := fun W hW => (HRn.out W hW).mono fun e w' h => by
        obtain ⟨h, hb⟩ := h
        rcases h with ⟨_, h⟩ | ⟨h, _⟩ | ⟨h, _⟩
        · exact ⟨h, hb⟩
        · cases h
        · cases h
      have HL2 : Hid (∀ W, Below w.heap.size w W → Calls Try.prog 10 #[.agg #[.slice na n nc, .slice ta m tc, .int .i64 pt]] W fun e w' => e = .returned (.slice none 0 0) ∧ Below W.heap.size W w') := fun W hW => (HLp.out W hW).mono fun e w' h => by
        obtain ⟨h, hb⟩ := h
        rcases h with ⟨_, h⟩ | ⟨h, _⟩ | ⟨h, _⟩
        · exact ⟨h, hb⟩
        · cases h
        · cases h
      have HCX : Hid _ := @cellX
      clear hN hT hf hn hm hnc htc hmay HRn HLp cellX
      rcases hsm with h2 | h2
      all_goals
        go_enter Try.func3, Try.ntmps3
        go_wp2_with (first
          | (go_at_call 8; refine (HR2.out _ (belA (Below.refl _ _) _)).mono ?_; rintro e w2 ⟨rfl, hb2⟩; have f2 := HCX.out hb2; obtain ⟨⟨x0, x1, x2⟩, l2, B2⟩ := f2)
          | (go_at_call 9; refine (HMy.out _ B2).mono ?_; rintro e w3 ⟨rfl, hb3⟩; have f3 := HCX.out (bel hb2 hb3); obtain ⟨⟨y0, y1, y2⟩, l3, B3⟩ := f3)
          | (go_at_call 10; refine (HL2.out _ B3).mono ?_; rintro e w4 ⟨rfl, hb4⟩; have f4 := HCX.out (bel (bel hb2 hb3) hb4); obtain ⟨⟨z0, z1, z2⟩, l4, B4⟩ := f4)
          | (go_at_call 7; refine (awake11 _).mono ?_; rintro e wz ⟨rfl, hbz⟩))
        go_ret
        exact ⟨rfl, bel B4 hbz⟩
    · have hok := may_ok hmay
      have h2 : n ≤ 200 := by have := hok.n; omega
      have HOK : Hid (Ok l) := hok
      have HLv : Hid (∀ W, Below w.heap.size w W → Calls Try.prog 11 #[.agg #[.slice na n nc, .slice ta m tc, .int .i64 pt]] W fun e w' => ((levels l = none ∧ e = .returned (.tuple #[.slice none 0 0, .bool false])) ∨ (∃ f T, levels l = some f ∧ W.heap.size ≤ T ∧ e = .returned (.tuple #[.slice (some ⟨T, 0, none⟩) l.length l.length, .bool true]) ∧ w'.rowIs T 3 l.length (fun q => .int .i64 (f q)))) ∧ Below W.heap.size W w') := fun W hW => kLevels_c l _ _ pt W ⟨_, _, _, rfl⟩ (HN.out.below hW) hok
      rw [hmay] at HRn HLp HMy
      have HCX : Hid _ := @cellX
      rcases hlev : levels l with _ | f
      · have HR2 : Hid (∀ W, Below w.heap.size w W → Calls Try.prog 8 #[.agg #[.slice na n nc, .slice ta m tc, .int .i64 pt]] W fun e w' => e = .returned (.tuple #[.slice none 0 0, .int .i64 110]) ∧ Below W.heap.size W w') := fun W hW => (HRn.out W hW).mono fun e w' h => by
          obtain ⟨h, hb⟩ := h
          rcases h with ⟨h, _⟩ | ⟨_, _, h⟩ | ⟨_, lv, T, hl, _⟩
          · cases h
          · exact ⟨h, hb⟩
          · obtain ⟨f, hf, _⟩ := levels_some hok hl.out; rw [hlev] at hf; cases hf
        have HL2 : Hid (∀ W, Below w.heap.size w W → Calls Try.prog 10 #[.agg #[.slice na n nc, .slice ta m tc, .int .i64 pt]] W fun e w' => (∃ ao p cap, e = .returned (.slice ao (p : List Nat).length cap) ∧ Hid (IntsAt w' (.slice ao p.length cap) (nZ p)) ∧ Hid (Ring l p)) ∧ Below W.heap.size W w') := fun W hW => (HLp.out W hW).mono fun e w' h => by
          obtain ⟨h, hb⟩ := h
          rcases h with ⟨h, _⟩ | ⟨_, ⟨lv, hl⟩, _⟩ | ⟨_, h⟩
          · cases h
          · obtain ⟨f, hf, _⟩ := levels_some hok hl; rw [hlev] at hf; cases hf
          · exact ⟨h, hb⟩
        have HV2 : Hid (∀ W, Below w.heap.size w W → Calls Try.prog 11 #[.agg #[.slice na n nc, .slice ta m tc, .int .i64 pt]] W fun e w' => e = .returned (.tuple #[.slice none 0 0, .bool false]) ∧ Below W.heap.size W w') := fun W hW => (HLv.out W hW).mono fun e w' h => by
          obtain ⟨h, hb⟩ := h
          rcases h with ⟨_, h⟩ | ⟨f, T, h, _⟩
          · exact ⟨h, hb⟩
          · rw [hlev] at h; cases h
        have HLd : Hid (∀ W p vP, Below w.heap.size w W → IntsAt W vP (nZ p) → Ring l p → Calls Try.prog 12 #[.agg #[.slice na n nc, .slice ta m tc, .int .i64 pt], vP] W fun e w' => e = .returned (.bool true) ∧ Below W.heap.size W w') := fun W p vP hW hP hp => looped_c l p _ _ vP pt W (HN.out.below hW) ⟨_, _, _, rfl⟩ hP hok hp
        clear hN hT hf hn hm hnc htc hmay HRn HLp cellX hok HLv hlev hsm
        go_enter Try.func3, Try.ntmps3
        go_wp2_with (first
          | (go_at_call 8; refine (HR2.out _ (belA (Below.refl _ _) _)).mono ?_; rintro e w2 ⟨rfl, hb2⟩; have f2 := HCX.out hb2; obtain ⟨⟨x0, x1, x2⟩, l2, B2⟩ := f2)
          | (go_at_call 9; refine (HMy.out _ B2).mono ?_; rintro e w3 ⟨rfl, hb3⟩; have f3 := HCX.out (bel hb2 hb3); obtain ⟨⟨y0, y1, y2⟩, l3, B3⟩ := f3)
          | (go_at_call 11; refine (HV2.out _ B3).mono ?_; rintro e w4 ⟨rfl, hb4⟩; have f4 := HCX.out (bel (bel hb2 hb3) hb4); obtain ⟨⟨z0, z1, z2⟩, l4, B4⟩ := f4))
        have HB4 : Hid _ := bel (bel hb2 hb3) hb4
        go_region_held (fun w' => w'.cell? ⟨w.heap.size, 0, none⟩ = some (.slice na n nc) ∧ w'.cell? ⟨w.heap.size, 1, none⟩ = some (.slice ta m tc) ∧ w'.cell? ⟨w.heap.size, 2, none⟩ = some (.int .i64 pt)) (first | go_keep | exact (HCX.out (bel (bel (bel (bel HB4.out (Below.refl _ _).drew) hb6) hb7) hb8)).1 | exact (HCX.out (bel (bel (bel HB4.out (Below.refl _ _).drew) hb6) hb7)).1 | exact (HCX.out (bel (bel HB4.out (Below.refl _ _).drew) hb6)).1)
          (first
            | (go_at_call 10; refine (HL2.out _ (bel B4 (Below.refl _ _).drew)).mono ?_; rintro e w6 ⟨⟨ao6, p6, cp6, rfl, HI6, HR6⟩, hb6⟩)
            | (go_at_call 12; refine (HLd.out _ p6 _ (bel (bel B4 (Below.refl _ _).drew) hb6) HI6.out HR6.out).mono ?_; rintro e w7 ⟨rfl, hb7⟩)
            | (go_at_call 7; refine (awake11 _).mono ?_; rintro e w8 ⟨rfl, hb8⟩))
        go_wp2_with fail
        go_ret
        exact ⟨rfl, bel (bel (bel (bel B4 (Below.refl _ _).drew) hb6) hb7) hb8⟩
      · have hlf := levels_lev hlev
        have HR2 : Hid (∀ W, Below w.heap.size w W → Calls Try.prog 8 #[.agg #[.slice na n nc, .slice ta m tc, .int .i64 pt]] W fun e w' => (∃ T, e = .returned (.tuple #[.slice (some ⟨T, 0, none⟩) n n, .int .i64 0]) ∧ Hid (w'.rowIs T 3 n (fun q => .int .i64 (f q)))) ∧ Below W.heap.size W w') := fun W hW => (HRn.out W hW).mono fun e w' h => by
          obtain ⟨h, hb⟩ := h
          rcases h with ⟨h, _⟩ | ⟨_, ⟨p, hp⟩, _⟩ | ⟨_, lv, T, hl, _, rfl, hr⟩
          · cases h
          · have := hp.none hok; rw [hlev] at this; cases this
          · rw [← hn] at hr ⊢
            exact ⟨⟨T, rfl, hr.out.congr (fun q hq => by rw [lev_one hok hl.out hlf q (by rw [← hn]; exact hq)])⟩, hb⟩
        have HL2 : Hid (∀ W, Below w.heap.size w W → Calls Try.prog 10 #[.agg #[.slice na n nc, .slice ta m tc, .int .i64 pt]] W fun e w' => e = .returned (.slice none 0 0) ∧ Below W.heap.size W w') := fun W hW => (HLp.out W hW).mono fun e w' h => by
          obtain ⟨h, hb⟩ := h
          rcases h with ⟨h, _⟩ | ⟨_, _, h⟩ | ⟨_, ao, p, cap, _, _, hp⟩
          · cases h
          · exact ⟨h, hb⟩
          · have := hp.out.none hok; rw [hlev] at this; cases this
        have HV2 : Hid (∀ W, Below w.heap.size w W → Calls Try.prog 11 #[.agg #[.slice na n nc, .slice ta m tc, .int .i64 pt]] W fun e w' => (∃ T, e = .returned (.tuple #[.slice (some ⟨T, 0, none⟩) n n, .bool true]) ∧ Hid (w'.rowIs T 3 n (fun q => .int .i64 (f q)))) ∧ Below W.heap.size W w') := fun W hW => (HLv.out W hW).mono fun e w' h => by
          obtain ⟨h, hb⟩ := h
          rcases h with ⟨h, _⟩ | ⟨g, T, h, _, rfl, hr⟩
          · rw [hlev] at h; cases h
          · rw [hlev] at h; injection h with h; subst h
            rw [← hn] at hr ⊢
            exact ⟨⟨T, rfl, hr⟩, hb⟩
        clear hN hT hf hn hm hnc htc hmay HRn HLp cellX hok HLv hlev hsm hlf
        have nn : ((n : Int) != (n : Int)) = false := by simp
        go_enter Try.func3, Try.ntmps3
        go_wp2_with (first
          | (go_at_call 8; refine (HR2.out _ (belA (Below.refl _ _) _)).mono ?_; rintro e w2 ⟨⟨T, rfl, HT2⟩, hb2⟩; have f2 := HCX.out hb2; obtain ⟨⟨x0, x1, x2⟩, l2, B2⟩ := f2)
          | (go_at_call 9; refine (HMy.out _ B2).mono ?_; rintro e w3 ⟨rfl, hb3⟩; have f3 := HCX.out (bel hb2 hb3); obtain ⟨⟨y0, y1, y2⟩, l3, B3⟩ := f3)
          | (go_at_call 11; refine (HV2.out _ B3).mono ?_; rintro e w4 ⟨⟨U, rfl, HU4⟩, hb4⟩; have f4 := HCX.out (bel (bel hb2 hb3) hb4); obtain ⟨⟨z0, z1, z2⟩, l4, B4⟩ := f4)
          | (go_at_call 10; refine (HL2.out _ B4).mono ?_; rintro e w5 ⟨rfl, hb5⟩))
        have HT5 : Hid (w5.rowIs T 3 n (fun q => .int .i64 (f q))) := HT2.out.of_block ((bel (bel hb3 hb4) hb5).block T HT2.out.lt)
        have HU5 : Hid (w5.rowIs U 3 n (fun q => .int .i64 (f q))) := HU4.out.of_block (hb5.block U HU4.out.lt)
        have HB5 : Hid (Below w.heap.size w w5) := bel B4 hb5
        clear hb2 hb3 hb4 hb5 x0 x1 x2 y0 y1 y2 z0 z1 z2 l2 l3 l4 B2 B3 B4 HT2 HU4
        go_loopw [7] (fun s7 W => ∃ i : Nat, i ≤ n ∧ s7 = .int .i64 i ∧ Hid (Below w5.heap.size w5 W)) (fun s7 W => n - (intOf s7).toNat)
        case atStart => exact ⟨0, Nat.zero_le _, rfl, Below.refl _ _⟩
        case round =>
          obtain ⟨i, hi, rfl, HB⟩ := hrel
          by_cases hlt : i < n
          · have c1 : wr.cell? ⟨T, i, none⟩ = some (.int .i64 (f i)) := (HB.out.cell (p := ⟨T, i, none⟩) HT5.out.lt).trans (HT5.out.cell hlt)
            have c2 : wr.cell? ⟨U, i, none⟩ = some (.int .i64 (f i)) := (HB.out.cell (p := ⟨U, i, none⟩) HU5.out.lt).trans (HU5.out.cell hlt)
            have i1 : (0 : Int) ≤ (i : Int) := by omega
            have i2 : (i : Int) < (n : Int) := by omega
            generalize f i = y at c1 c2
            have yy : (y != y) = false := by simp
            go_wp2_with fail
            go_quiet (fail)
            go_wp2_with fail
            go_roundw
            case rel => exact ⟨i + 1, hlt, by go_num, belDN HB.out nq⟩
            case measure => simp [intOf]; omega
          · obtain rfl : n = i := by omega
            go_wp2_with (first | (go_at_call 7; refine (awake11 _).mono ?_; rintro e w8 ⟨rfl, hb8⟩))
            go_ret
            exact ⟨rfl, bel (bel HB5.out HB.out) hb8⟩
end Go.Proofs.Ytpdcmehjndhcjaa
