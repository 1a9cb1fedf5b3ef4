/- PartLoops. -/
import Derived.Test.YtclcpfhbmoaadaaRQ
import Derived.Test.YtclcpfhbmoaadaaGKe
import Derived.Test.YtclcpfhbmoaadaaGLa
namespace Go.Proofs.Ytclcpfhbmoaadaa
open Go.RowKit Lg Nl Go.Maps
set_option linter.unusedVariables false
set_option linter.unusedSimpArgs false
set_option maxRecDepth 100000

theorem noLev {l : List Nd} (h : levels l = none) (hk : Ok l) : 0 < l.length := by
  rcases Nat.eq_zero_or_pos l.length with e | e
  · obtain ⟨f, hf, _⟩ := levels_some hk (g := fun _ => 0) ⟨fun i hi => by omega, fun i hi => by omega, fun i hi => by omega⟩
    rw [h] at hf; cases hf
  · exact e
set_option maxHeartbeats 4000000 in
theorem PartLoops_c (l : List Nd) (nets : List Int) (vN vT : Value) (pt n : Int) (w : World) (hN : NdsAt w vN l) (hT : IntsAt w vT nets) (hf : Fits l nets) :
    Calls Try.prog 6 #[.agg #[vN, vT, .int .i64 pt], .int .i64 n] w fun e w' => e = .returned (.bool true) ∧ Below w.heap.size w w' := by
  have HRn : Hid (∀ W, Below w.heap.size w W → Calls Try.prog 9 #[.agg #[vN, vT, .int .i64 pt], .int .i64 n] W fun e w' => PRun l (mayN l nets pt) n W.heap.size e w' ∧ Below W.heap.size W w') := fun W hW => pRun_c0 l nets n vN vT pt W (hN.below hW) (hT.below hW) hf
  have HMy : Hid (∀ W, Below w.heap.size w W → Calls Try.prog 13 #[.agg #[vN, vT, .int .i64 pt]] W fun e w' => e = .returned (.bool (mayN l nets pt)) ∧ Below W.heap.size W w') := fun W hW => May_c l nets vN vT pt W (hN.below hW) (hT.below hW) hf
  have HAw : Hid (∀ W, Calls Try.prog 10 #[] W fun e w' => e = .returned (.bool true) ∧ Below W.heap.size W w') := awake13
  obtain ⟨na, nc, rfl, hnc, _⟩ := id hN
  obtain ⟨ta, tc, rfl, htc, _⟩ := id hT
  obtain ⟨k, hk⟩ : ∃ k, k = l.length := ⟨_, rfl⟩
  obtain ⟨m, hm⟩ : ∃ m, m = nets.length := ⟨_, rfl⟩
  have nb : k ≤ 140737488355328 := by rw [hk]; exact hf.n
  have HN : Hid (NdsAt w (.slice na k nc) l) := by rw [hk]; exact hN
  rw [← hk, ← hm] at HRn HMy
  have HKL : Hid (k = l.length) := hk
  rw [← hk, ← hm]
  by_cases hbig : 200 < k ∧ k ≤ 4096
  · obtain ⟨b1, b2⟩ := hbig
    clear hN hT hf hk hm hnc htc
    go_enter Try.func6, Try.ntmps6
    go_wp2_with (first | (go_at_call 10; refine (HAw.out _).mono ?_; rintro e wz ⟨rfl, hbz⟩))
    go_ret
    exact ⟨rfl, bel (belA (Below.refl _ _) _) hbz⟩
  · have hsm : k ≤ 200 ∨ 4096 < k := by omega
    clear hbig
    have cellX : ∀ {W : World}, Below (w.alloc (.cells #[.slice na k nc, .slice ta m tc, .int .i64 pt] 26)).heap.size (w.alloc (.cells #[.slice na k nc, .slice ta m tc, .int .i64 pt] 26)) W → (W.cell? ⟨w.heap.size, 0, none⟩ = some (.slice na k nc) ∧ W.cell? ⟨w.heap.size, 1, none⟩ = some (.slice ta m tc) ∧ W.cell? ⟨w.heap.size, 2, none⟩ = some (.int .i64 pt)) ∧ w.heap.size < W.heap.size ∧ Below w.heap.size w W := fun {W} hb => by
      have hx := (hb.block w.heap.size (by simp)).trans (alAt rfl)
      exact ⟨cells3n hx, hLt hx, bel (belA (Below.refl _ _) _) hb⟩
    have HCX : Hid _ := @cellX
    clear cellX
    by_cases hn : (n < 1 ∨ 64 < n) ∨ mayN l nets pt = false
    · have HR2 : Hid (∀ W, Below w.heap.size w W → Calls Try.prog 9 #[.agg #[.slice na k nc, .slice ta m tc, .int .i64 pt], .int .i64 n] W fun e w' => e = .returned (.tuple #[.agg #[.slice none 0 0, .int .i64 0, .slice none 0 0], .int .i64 1]) ∧ Below W.heap.size W w') := fun W hW => (HRn.out W hW).mono fun e w' h => by
        obtain ⟨h, hb⟩ := h
        rcases h with ⟨_, h⟩ | ⟨h, _⟩ | ⟨h, _⟩
        · exact ⟨h, hb⟩
        · rcases hn with hn | hn
          · omega
          · rw [hn] at h; cases h.2.2.2
        · rcases hn with hn | hn
          · omega
          · rw [hn] at h; cases h.2.2.2
      clear HRn
      rcases (by rcases hn with (h | h) | h; exact Or.inl h; (rcases Int.lt_or_le n 1 with h1 | h1; exact Or.inl h1; exact Or.inr (Or.inl ⟨by omega, h⟩)); (rcases Int.lt_or_le n 1 with h1 | h1; exact Or.inl h1; (rcases Int.lt_or_le 64 n with h2 | h2; exact Or.inr (Or.inl ⟨by omega, h2⟩); exact Or.inr (Or.inr ⟨by omega, by omega, h⟩))) : n < 1 ∨ (¬ n < 1 ∧ 64 < n) ∨ (¬ n < 1 ∧ ¬ 64 < n ∧ mayN l nets pt = false)) with h1 | ⟨h1, h64⟩ | ⟨h1, h64, hf0⟩
      · clear hn hN hT hf hk hm hnc htc HMy
        rcases hsm with h2 | h2
        all_goals
          go_enter Try.func6, Try.ntmps6
          go_wp2_with (first
            | (go_at_call 9; refine (HR2.out _ (belA (Below.refl _ _) _)).mono ?_; rintro e w2 ⟨rfl, hb2⟩; have f2 := HCX.out hb2; obtain ⟨⟨x0, x1, x2⟩, l2, B2⟩ := f2)
            | (go_at_call 10; refine (HAw.out _).mono ?_; rintro e wz ⟨rfl, hbz⟩))
          go_ret
          exact ⟨rfl, bel (belA B2 _) hbz⟩
      · have h1' : decide (n < 1) = false := by simp; omega
        clear hn hN hT hf hk hm hnc htc HMy h1
        rcases hsm with h2 | h2
        all_goals
          go_enter Try.func6, Try.ntmps6
          go_wp2_with (first
            | (go_at_call 9; refine (HR2.out _ (belA (Below.refl _ _) _)).mono ?_; rintro e w2 ⟨rfl, hb2⟩; have f2 := HCX.out hb2; obtain ⟨⟨x0, x1, x2⟩, l2, B2⟩ := f2)
            | (go_at_call 10; refine (HAw.out _).mono ?_; rintro e wz ⟨rfl, hbz⟩))
          go_ret
          exact ⟨rfl, bel (belA B2 _) hbz⟩
      · have h1' : decide (n < 1) = false := by simp; omega
        have h64' : decide (64 < n) = false := by simp; omega
        rw [hf0] at HMy
        clear hn hN hT hf hk hm hnc htc h1 h64 hf0
        have HBa : Hid (∀ W, Below w.heap.size w W → Below w.heap.size w (W.alloc (.cells #[.slice none 0 0, .int .i64 0, .slice none 0 0] 30))) := fun W h => belA h _
        rcases hsm with h2 | h2
        all_goals
          go_enter Try.func6, Try.ntmps6
          go_wp2_with (first
            | (go_at_call 9; refine (HR2.out _ (belA (Below.refl _ _) _)).mono ?_; rintro e w2 ⟨rfl, hb2⟩; have f2 := HCX.out (belA hb2 (.cells #[.slice none 0 0, .int .i64 0, .slice none 0 0] 30)); obtain ⟨⟨x0, x1, x2⟩, l2, B2⟩ := f2)
            | (go_at_call 13; refine (HMy.out _ B2).mono ?_; rintro e w3 ⟨rfl, hb3⟩; have y3 := cells3n ((hb3.block w2.heap.size (by simp)).trans (alAt rfl)); obtain ⟨y0, y1, y2⟩ := y3; have ly := hb3.size)
            | (go_at_call 10; refine (HAw.out _).mono ?_; rintro e wz ⟨rfl, hbz⟩))
          go_ret
          exact ⟨rfl, bel (bel B2 hb3) hbz⟩
    · have hmay : mayN l nets pt = true := by rcases h : mayN l nets pt with _ | _; exact absurd (Or.inr h) hn; rfl
      have hok := may_ok hmay
      have hokd := may_okd hmay
      have h2 : k ≤ 200 := by have := hok.n; omega
      have h1' : decide (n < 1) = false := by simp; omega
      have h64' : decide (64 < n) = false := by simp; omega
      have HLv : Hid (∀ W, Below w.heap.size w W → Calls Try.prog 14 #[.agg #[.slice na k nc, .slice ta m tc, .int .i64 pt]] W fun e w' => ((levels l = none ∧ e = .returned (.tuple #[.slice none 0 0, .bool false])) ∨ (∃ f T, levels l = some f ∧ W.heap.size ≤ T ∧ e = .returned (.tuple #[.slice (some ⟨T, 0, none⟩) l.length l.length, .bool true]) ∧ w'.rowIs T 3 l.length (fun q => .int .i64 (f q)))) ∧ Below W.heap.size W w') := fun W hW => kLevels_c l _ _ pt W ⟨_, _, _, rfl⟩ (HN.out.below hW) hok
      rw [hmay] at HRn HMy
      rcases hlev : levels l with _ | f
      · have HR2 : Hid (∀ W, Below w.heap.size w W → Calls Try.prog 9 #[.agg #[.slice na k nc, .slice ta m tc, .int .i64 pt], .int .i64 n] W fun e w' => e = .returned (.tuple #[.agg #[.slice none 0 0, .int .i64 0, .slice none 0 0], .int .i64 110]) ∧ Below W.heap.size W w') := fun W hW => (HRn.out W hW).mono fun e w' h => by
          obtain ⟨h, hb⟩ := h
          have hp := noLev hlev hok
          rcases h with ⟨h, _⟩ | ⟨_, _, h⟩ | ⟨_, ⟨lv, hl⟩, _⟩
          · rcases h with h | h | h | h
            · omega
            · omega
            · omega
            · cases h
          · exact ⟨h, hb⟩
          · obtain ⟨f, hf, _⟩ := levels_some hok hl; rw [hlev] at hf; cases hf
        have HV2 : Hid (∀ W, Below w.heap.size w W → Calls Try.prog 14 #[.agg #[.slice na k nc, .slice ta m tc, .int .i64 pt]] W fun e w' => e = .returned (.tuple #[.slice none 0 0, .bool false]) ∧ Below W.heap.size W w') := fun W hW => (HLv.out W hW).mono fun e w' h => by
          obtain ⟨h, hb⟩ := h
          rcases h with ⟨_, h⟩ | ⟨f, T, h, _⟩
          · exact ⟨h, hb⟩
          · rw [hlev] at h; cases h
        clear hN hT hf hk hm hnc htc hmay HRn hok hokd HLv hlev hsm hn
        go_enter Try.func6, Try.ntmps6
        go_wp2_with (first
          | (go_at_call 9; refine (HR2.out _ (belA (Below.refl _ _) _)).mono ?_; rintro e w2 ⟨rfl, hb2⟩; have f2 := HCX.out (belA hb2 (.cells #[.slice none 0 0, .int .i64 0, .slice none 0 0] 30)); obtain ⟨⟨x0, x1, x2⟩, l2, B2⟩ := f2)
          | (go_at_call 13; refine (HMy.out _ B2).mono ?_; rintro e w3 ⟨rfl, hb3⟩; have f3 := HCX.out (bel (belA hb2 (.cells #[.slice none 0 0, .int .i64 0, .slice none 0 0] 30)) hb3); obtain ⟨⟨z0, z1, z2⟩, l3, B3⟩ := f3)
          | (go_at_call 14; refine (HV2.out _ B3).mono ?_; rintro e w4 ⟨rfl, hb4⟩; have y3 := cells3n (((bel hb3 hb4).block w2.heap.size (by simp)).trans (alAt rfl)); obtain ⟨y0, y1, y2⟩ := y3; have ly := (bel hb3 hb4).size)
          | (go_at_call 10; refine (HAw.out _).mono ?_; rintro e wz ⟨rfl, hbz⟩))
        go_ret
        exact ⟨rfl, bel (bel B3 hb4) hbz⟩
      · have HV2 : Hid (∀ W, Below w.heap.size w W → Calls Try.prog 14 #[.agg #[.slice na k nc, .slice ta m tc, .int .i64 pt]] W fun e w' => (∃ T, e = .returned (.tuple #[.slice (some ⟨T, 0, none⟩) k k, .bool true])) ∧ Below W.heap.size W w') := fun W hW => (HLv.out W hW).mono fun e w' h => by
          obtain ⟨h, hb⟩ := h
          rcases h with ⟨h, _⟩ | ⟨g, T, h, _, rfl, hr⟩
          · rw [hlev] at h; cases h
          · exact ⟨⟨T, by rw [← hk]⟩, hb⟩
        rcases Nat.eq_zero_or_pos k with h0 | h0
        · have HR2 : Hid (∀ W, Below w.heap.size w W → Calls Try.prog 9 #[.agg #[.slice na k nc, .slice ta m tc, .int .i64 pt], .int .i64 n] W fun e w' => e = .returned (.tuple #[.agg #[.slice none 0 0, .int .i64 0, .slice none 0 0], .int .i64 1]) ∧ Below W.heap.size W w') := fun W hW => (HRn.out W hW).mono fun e w' h => by
            obtain ⟨h, hb⟩ := h
            rcases h with ⟨_, h⟩ | ⟨h, _⟩ | ⟨h, _⟩
            · exact ⟨h, hb⟩
            · omega
            · omega
          clear hN hT hf hk hm hnc htc hmay HRn hok hokd HLv hlev hsm hn
          subst h0
          go_enter Try.func6, Try.ntmps6
          go_wp2_with (first
            | (go_at_call 9; refine (HR2.out _ (belA (Below.refl _ _) _)).mono ?_; rintro e w2 ⟨rfl, hb2⟩; have f2 := HCX.out (belA hb2 (.cells #[.slice none 0 0, .int .i64 0, .slice none 0 0] 30)); obtain ⟨⟨x0, x1, x2⟩, l2, B2⟩ := f2)
            | (go_at_call 13; refine (HMy.out _ B2).mono ?_; rintro e w3 ⟨rfl, hb3⟩; have f3 := HCX.out (bel (belA hb2 (.cells #[.slice none 0 0, .int .i64 0, .slice none 0 0] 30)) hb3); obtain ⟨⟨z0, z1, z2⟩, l3, B3⟩ := f3)
            | (go_at_call 14; refine (HV2.out _ B3).mono ?_; rintro e w4 ⟨⟨T, rfl⟩, hb4⟩; have f4 := HCX.out (bel (bel (belA hb2 (.cells #[.slice none 0 0, .int .i64 0, .slice none 0 0] 30)) hb3) hb4); obtain ⟨⟨q0, q1, q2⟩, l4, B4⟩ := f4)
            | (go_at_call 10; refine (HAw.out _).mono ?_; rintro e wz ⟨rfl, hbz⟩))
          go_ret
          exact ⟨rfl, bel B4 hbz⟩
        · have HR2 : Hid (∀ W, Below w.heap.size w W → Calls Try.prog 9 #[.agg #[.slice na k nc, .slice ta m tc, .int .i64 pt], .int .i64 n] W fun e w' => (∃ (c O M : Nat) (of : Nat → Int), e = .returned (.tuple #[.agg #[.slice (some ⟨O, 0, none⟩) k k, .int .i64 (c : Int), .slice (some ⟨M, 0, none⟩) c c], .int .i64 0]) ∧ Hid (IntsAt w' (.slice (some ⟨O, 0, none⟩) k k) (rowL k of)) ∧ Hid (RowsAt w' (.slice (some ⟨M, 0, none⟩) c c) (aheadL l (rowL k of) c)) ∧ Hid (PtsOk l (rowL k of) (c : Int) (aheadL l (rowL k of) c))) ∧ Below W.heap.size W w') := fun W hW => (HRn.out W hW).mono fun e w' h => by
            obtain ⟨h, hb⟩ := h
            rcases h with ⟨h, _⟩ | ⟨_, ⟨p, hp⟩, _⟩ | ⟨_, _, c, O, M, R, of, rfl, _, hw, hpk⟩
            · rcases h with h | h | h | h
              · omega
              · omega
              · omega
              · cases h
            · have := hp.none hok; rw [hlev] at this; cases this
            · rw [← hk] at hw hpk ⊢
              exact ⟨⟨c, O, M, of, rfl, hw.out.ints, hw.out.rows, hpk⟩, hb⟩
          have HLm : Hid (∀ (W : World) (c O M : Nat) (of : Nat → Int), Below w.heap.size w W → IntsAt W (.slice (some ⟨O, 0, none⟩) k k) (rowL k of) → RowsAt W (.slice (some ⟨M, 0, none⟩) c c) (aheadL l (rowL k of) c) → PtsOk l (rowL k of) (c : Int) (aheadL l (rowL k of) c) → Calls Try.prog 11 #[.agg #[.slice na k nc, .slice ta m tc, .int .i64 pt], .agg #[.slice (some ⟨O, 0, none⟩) k k, .int .i64 (c : Int), .slice (some ⟨M, 0, none⟩) c c]] W fun e w' => e = .returned (.bool true) ∧ Below W.heap.size W w') := fun W c O M of hW h1 h2 h3 => (lMay_c l (rowL k of) (aheadL l (rowL k of) c) (c : Int) _ _ _ _ pt W (HN.out.below hW) ⟨_, _, _, rfl⟩ h1 h2 hokd).mono fun e w' hh => ⟨hh.1.t h3, hh.2⟩
          have k0' : ((k : Int) == 0) = false := by simp; omega
          clear hN hT hf hk hm hnc htc hmay HRn hok hokd HLv hlev hsm hn
          go_enter Try.func6, Try.ntmps6
          go_wp2_with (first
            | (go_at_call 9; refine (HR2.out _ (belA (Below.refl _ _) _)).mono ?_; rintro e w2 ⟨⟨c, O, M, of, rfl, HO, HA, HP⟩, hb2⟩; have f2 := HCX.out (belA hb2 (.cells #[.slice (some ⟨O, 0, none⟩) k k, .int .i64 (c : Int), .slice (some ⟨M, 0, none⟩) c c] 30)); obtain ⟨⟨x0, x1, x2⟩, l2, B2⟩ := f2)
            | (go_at_call 13; refine (HMy.out _ B2).mono ?_; rintro e w3 ⟨rfl, hb3⟩; have f3 := HCX.out (bel (belA hb2 (.cells #[.slice (some ⟨O, 0, none⟩) k k, .int .i64 (c : Int), .slice (some ⟨M, 0, none⟩) c c] 30)) hb3); obtain ⟨⟨z0, z1, z2⟩, l3, B3⟩ := f3)
            | (go_at_call 14; refine (HV2.out _ B3).mono ?_; rintro e w4 ⟨⟨T, rfl⟩, hb4⟩; have f4 := HCX.out (bel (bel (belA hb2 (.cells #[.slice (some ⟨O, 0, none⟩) k k, .int .i64 (c : Int), .slice (some ⟨M, 0, none⟩) c c] 30)) hb3) hb4); obtain ⟨⟨q0, q1, q2⟩, l4, B4⟩ := f4; have y3 := cells3n (((bel hb3 hb4).block w2.heap.size (by simp)).trans (alAt rfl)); obtain ⟨y0, y1, y2⟩ := y3; have ly := (bel hb3 hb4).size)
            | (go_at_call 11; refine (HLm.out _ c O M of B4 (HO.out.below (bel (belA (Below.refl _ _) _) (bel hb3 hb4))) (HA.out.below (bel (belA (Below.refl _ _) _) (bel hb3 hb4))) HP.out).mono ?_; rintro e w5 ⟨rfl, hb5⟩)
            | (go_at_call 10; refine (HAw.out _).mono ?_; rintro e wz ⟨rfl, hbz⟩))
          go_ret
          exact ⟨rfl, bel (bel B4 hb5) hbz⟩
end Go.Proofs.Ytclcpfhbmoaadaa
