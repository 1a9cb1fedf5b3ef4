/- Layer 2, the reference: where no token begins. -/
import Derived.Test.YthdhmlojihpfkaaGreatYJ
namespace Go.Proofs.YthdhmlojihpfkaaGreat
open Go.RowKit Lg
set_option linter.unusedVariables false
set_option linter.unusedSimpArgs false

set_option maxRecDepth 100000 in
set_option maxHeartbeats 2000000 in
theorem one_bad (s : ByteArray) (p : Nat) (w : World) (hs : s.size ≤ 65536) (hp : p < s.size) (h1 : letB s[p] = false) (h2 : digB s[p] = false) (h3 : ¬ s[p] = 96) (hx : sgS ((L s).drop p) = []) :
    Calls Tryz.prog 25 #[.string s, .int .i64 p] w fun e w' => e = .returned (.tuple #[tokV 0 ⟨#[]⟩ 0, .int .i64 0, .int .i64 20]) ∧ Below w.heap.size w w' := by
  have HS : ∀ w, Calls Tryz.prog 48 #[.string s, .int .i64 p] w fun e w' => e = .returned (.string ⟨#[]⟩) ∧ Below w.heap.size w w' := fun w => by
    refine (sign_c s p w hs hp).mono ?_
    rintro e w' ⟨rfl, hb⟩
    exact ⟨by rw [hx]; rfl, hb⟩
  have h96 : (((s[p].toNat : Nat) : Int) == 96) = false := (cb s[p] 96).trans (by simpa using h3)
  have hpI : (p : Int) < (s.size : Int) := by omega
  clear hx h3
  go_enter Tryz.func25, Tryz.ntmps25
  go_wp2_with (first
    | (go_at_call 44; refine (rLetter_c s[p] _).mono ?_; rintro e w' ⟨rfl, hw⟩; have hw2 := hw.symm; subst hw2; rw [h1])
    | (go_at_call 46; refine (rdigit_c s[p] _).mono ?_; rintro e w' ⟨rfl, hw⟩; have hw2 := hw.symm; subst hw2; rw [h2])
    | (go_at_call 48; refine (HS _).mono ?_; rintro e w' ⟨rfl, hb⟩; obtain ⟨d0, d1, d2, df⟩ := cells3 ((hb.block w.heap.size (by simp)).trans (heap3 w _ _ _ _)); have f0 := df 0; have f1 := df 1; have f2 := df 2))
  refine bodyPost_ret (v := .tuple #[tokV 0 ⟨#[]⟩ 0, .int .i64 0, .int .i64 20]) (by simp [results, Tryz.results25, go_sem, tokV, d0, d1, d2]) rfl ⟨rfl, ?_⟩
  exact (((bel (belA (Below.refl _ _) _) hb).setCell (Nat.le_refl _) _).setCell (Nat.le_refl _) _).setCell (Nat.le_refl _) _

set_option maxRecDepth 100000 in
set_option maxHeartbeats 2000000 in
theorem one_tick (s : ByteArray) (p : Nat) (w : World) (hs : s.size ≤ 65536) (hp : p < s.size) (h3 : s[p] = 96) (hx : sgS ((L s).drop p) = []) (hn : s.size ≤ p + 1 ∨ ∃ hq : p + 1 < s.size, letB s[p + 1] = false) :
    Calls Tryz.prog 25 #[.string s, .int .i64 p] w fun e w' => e = .returned (.tuple #[tokV 0 ⟨#[]⟩ 0, .int .i64 0, .int .i64 20]) ∧ Below w.heap.size w w' := by
  have HS : ∀ w, Calls Tryz.prog 48 #[.string s, .int .i64 p] w fun e w' => e = .returned (.string ⟨#[]⟩) ∧ Below w.heap.size w w' := fun w => by
    refine (sign_c s p w hs hp).mono ?_
    rintro e w' ⟨rfl, hb⟩
    exact ⟨by rw [hx]; rfl, hb⟩
  have h96 : (((s[p].toNat : Nat) : Int) == 96) = true := by rw [h3]; rfl
  have h2 : digB s[p] = false := by rw [h3]; decide
  have hpI : (p : Int) < (s.size : Int) := by omega
  clear hx h3
  rcases hn with hn | ⟨hq, hn⟩
  · have hnI : (s.size : Int) ≤ (p : Int) + 1 := by omega
    go_enter Tryz.func25, Tryz.ntmps25
    go_wp2_with (first
      | (go_at_call 46; refine (rdigit_c s[p] _).mono ?_; rintro e w' ⟨rfl, hw⟩; have hw2 := hw.symm; subst hw2; rw [h2])
      | (go_at_call 48; refine (HS _).mono ?_; rintro e w' ⟨rfl, hb⟩; obtain ⟨d0, d1, d2, df⟩ := cells3 ((hb.block w.heap.size (by simp)).trans (heap3 w _ _ _ _)); have f0 := df 0; have f1 := df 1; have f2 := df 2))
    refine bodyPost_ret (v := .tuple #[tokV 0 ⟨#[]⟩ 0, .int .i64 0, .int .i64 20]) (by simp [results, Tryz.results25, go_sem, tokV, d0, d1, d2]) rfl ⟨rfl, ?_⟩
    exact (((bel (belA (Below.refl _ _) _) hb).setCell (Nat.le_refl _) _).setCell (Nat.le_refl _) _).setCell (Nat.le_refl _) _
  · have hqI : (p : Int) + 1 < (s.size : Int) := by omega
    go_enter Tryz.func25, Tryz.ntmps25
    go_wp2_with (first
      | (go_at_call 44; refine (rLetter_c s[p + 1] _).mono ?_; rintro e w' ⟨rfl, hw⟩; have hw2 := hw.symm; subst hw2; rw [hn])
      | (go_at_call 46; refine (rdigit_c s[p] _).mono ?_; rintro e w' ⟨rfl, hw⟩; have hw2 := hw.symm; subst hw2; rw [h2])
      | (go_at_call 48; refine (HS _).mono ?_; rintro e w' ⟨rfl, hb⟩; obtain ⟨d0, d1, d2, df⟩ := cells3 ((hb.block w.heap.size (by simp)).trans (heap3 w _ _ _ _)); have f0 := df 0; have f1 := df 1; have f2 := df 2))
    refine bodyPost_ret (v := .tuple #[tokV 0 ⟨#[]⟩ 0, .int .i64 0, .int .i64 20]) (by simp [results, Tryz.results25, go_sem, tokV, d0, d1, d2]) rfl ⟨rfl, ?_⟩
    exact (((bel (belA (Below.refl _ _) _) hb).setCell (Nat.le_refl _) _).setCell (Nat.le_refl _) _).setCell (Nat.le_refl _) _
end Go.Proofs.YthdhmlojihpfkaaGreat
