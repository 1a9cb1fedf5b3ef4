/- Layer 2, the reference: numbers. -/
import Derived.Test.YthdhmlojihpfkaaGreatYL
namespace Go.Proofs.YthdhmlojihpfkaaGreat
open Go.RowKit Lg
set_option linter.unusedVariables false
set_option linter.unusedSimpArgs false

set_option maxRecDepth 100000 in
set_option maxHeartbeats 4000000 in
theorem one_num (s : ByteArray) (p : Nat) (w : World) (hs : s.size ≤ 65536) (hp : p < s.size) (h1 : letB s[p] = false) (h2 : digB s[p] = true) (n : Nat) (hn : (((L s).drop p).takeWhile numB).length = n) (x : ByteArray) (hx : s.extract p (p + n) = x) (E : Int) (hE : numE2 (L x) = E) (hE2 : (E != 0) = true ∨ E = 0) :
    Calls Tryz.prog 25 #[.string s, .int .i64 p] w fun e w' => (∃ r, e = .returned r ∧ ((E != 0) = true → r = .tuple #[tokV 0 ⟨#[]⟩ 0, .int .i64 0, .int .i64 E]) ∧ (E = 0 → r = .tuple #[tokV 2 x p, .int .i64 ((p + n : Nat) : Int), .int .i64 0])) ∧ Below w.heap.size w w' := by
  have h96 : (((s[p].toNat : Nat) : Int) == 96) = false := (cb s[p] 96).trans (by rw [beq_eq_false_iff_ne]; intro e; rw [e] at h2; revert h2; decide)
  have hpI : (p : Int) < (s.size : Int) := by omega
  have HN : Hid _ := hn
  clear hn
  go_enter Tryz.func25, Tryz.ntmps25
  go_wp2_with (first
    | (go_at_call 44; refine (rLetter_c s[p] _).mono ?_; rintro e w' ⟨rfl, hw⟩; have hw2 := hw.symm; subst hw2; rw [h1])
    | (go_at_call 46; refine (rdigit_c s[p] _).mono ?_; rintro e w' ⟨rfl, hw⟩; have hw2 := hw.symm; subst hw2; rw [h2]))
  go_loop [7] (fun iv => ∃ i : Nat, p ≤ i ∧ i ≤ s.size ∧ iv = .int .i64 i ∧ Hid ((((L s).drop p).take (i - p)).all numB = true)) (fun iv => s.size - (intOf iv).toNat)
  case atStart => exact ⟨p, Nat.le_refl _, by omega, by go_num, by rw [Nat.sub_self]; exact rfl⟩
  case round =>
    obtain ⟨i, hi1, hi2, rfl, HA⟩ := hrel
    by_cases hgo : ∃ hlt : i < s.size, numB s[i] = true
    · obtain ⟨hlt, hw⟩ := hgo
      have hltI : (i : Int) < (s.size : Int) := by omega
      have HNX : Hid _ := tw_next numB s p i hi1 hlt HA.out hw
      cases hwo : worB s[i] with
      | true =>
        clear hw
        go_wp2_with (first
          | (go_at_call 45; refine (rword_c s[i] _).mono ?_; rintro e w' ⟨rfl, hww⟩; have hw2 := hww.symm; subst hw2; rw [hwo]))
        go_round
        case rel => exact ⟨i + 1, by omega, by omega, by go_num, HNX⟩
        case measure => simp [intOf]; omega
      | false =>
        have h39 : (((s[i].toNat : Nat) : Int) == 39) = true := (cb s[i] 39).trans (by unfold numB at hw; rw [hwo] at hw; simpa using hw)
        clear hw
        go_wp2_with (first
          | (go_at_call 45; refine (rword_c s[i] _).mono ?_; rintro e w' ⟨rfl, hww⟩; have hw2 := hww.symm; subst hw2; rw [hwo]))
        go_round
        case rel => exact ⟨i + 1, by omega, by omega, by go_num, HNX⟩
        case measure => simp [intOf]; omega
    · have hfalse : ∀ hlt : i < s.size, numB s[i] = false := fun g => by
        cases e : numB s[i] with
        | false => rfl
        | true => exact absurd ⟨g, e⟩ hgo
      have hin : i = p + n := by
        rcases Nat.lt_or_ge i s.size with g | g
        · have := tw_here numB s p i hi1 g HA.out (hfalse g)
          rw [HN.out] at this; omega
        · have := tw_end numB s p i hi1 (by omega) HA.out
          rw [HN.out] at this; omega
      have hstop : s.size ≤ i ∨ ∃ hlt : i < s.size, worB s[i] = false ∧ (((s[i].toNat : Nat) : Int) == 39) = false := by
        rcases Nat.lt_or_ge i s.size with g | g
        · refine Or.inr ⟨g, ?_⟩
          have hf := hfalse g
          unfold numB at hf
          rw [Bool.or_eq_false_iff] at hf
          exact ⟨hf.1, (cb s[i] 39).trans hf.2⟩
        · exact Or.inl g
      have hx2 : s.extract p i = x := by rw [hin]; exact hx
      have HI2 : Hid ((i : Int) = ((p + n : Nat) : Int)) := by rw [hin]; exact rfl
      have hxs : x.size ≤ 2000000 := by rw [← len_L, ← hx, L_extract, List.length_take, List.length_drop, len_L]; omega
      have HNU := fun w => rNumber_c x w hxs
      rw [hE] at HNU
      have hPi : (p : Int) ≤ (i : Int) := by omega
      have hiS : (i : Int) ≤ (s.size : Int) := by omega
      clear hgo hin hx hfalse
      rcases hE2 with e0 | rfl
      · rcases hstop with hst | ⟨hlt, hst, h39⟩
        all_goals
          go_wp2_with (first
            | (go_at_call 45; refine (rword_c s[i] _).mono ?_; rintro e w' ⟨rfl, hww⟩; have hw2 := hww.symm; subst hw2; rw [hst])
            | (go_at_call 47; refine (HNU _).mono ?_; rintro e w' ⟨rfl, hb⟩; obtain ⟨d0, d1, d2, df⟩ := cells3 ((hb.block w.heap.size (by simp)).trans (heap3 w _ _ _ _)); have f0 := df 0; have f1 := df 1; have f2 := df 2))
          refine bodyPost_ret (v := .tuple #[tokV 0 ⟨#[]⟩ 0, .int .i64 0, .int .i64 E]) (by simp [results, Tryz.results25, go_sem, tokV, d0, d1, d2]) rfl ⟨⟨_, rfl, fun _ => rfl, fun g => by rw [g] at e0; cases e0⟩, ?_⟩
          exact (((bel (belA (Below.refl _ _) _) hb).setCell (Nat.le_refl _) _).setCell (Nat.le_refl _) _).setCell (Nat.le_refl _) _
      · rcases hstop with hst | ⟨hlt, hst, h39⟩
        all_goals
          go_wp2_with (first
            | (go_at_call 45; refine (rword_c s[i] _).mono ?_; rintro e w' ⟨rfl, hww⟩; have hw2 := hww.symm; subst hw2; rw [hst])
            | (go_at_call 47; refine (HNU _).mono ?_; rintro e w' ⟨rfl, hb⟩; obtain ⟨d0, d1, d2, df⟩ := cells3 ((hb.block w.heap.size (by simp)).trans (heap3 w _ _ _ _)); have f0 := df 0; have f1 := df 1; have f2 := df 2))
          refine bodyPost_ret (v := .tuple #[tokV 2 x p, .int .i64 i, .int .i64 0]) (by simp [results, Tryz.results25, go_sem, tokV, d0, d1, d2]) rfl ⟨by rw [HI2.out]; simp, ?_⟩
          exact (((bel (belA (Below.refl _ _) _) hb).setCell (Nat.le_refl _) _).setCell (Nat.le_refl _) _).setCell (Nat.le_refl _) _
end Go.Proofs.YthdhmlojihpfkaaGreat
