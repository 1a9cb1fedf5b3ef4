/- Layer 2, the reference: names, and ticks with a name. -/
import Derived.Test.YthdhmlojihpfkaaGreatYK
import Derived.Test.YthdhmlojihpfkaaGreatGM
namespace Go.Proofs.YthdhmlojihpfkaaGreat
open Go.RowKit Lg
set_option linter.unusedVariables false
set_option linter.unusedSimpArgs false

theorem tw_here (q : UInt8 → Bool) (s : ByteArray) (p i : Nat) (hpi : p ≤ i) (hi : i < s.size) (hall : (((L s).drop p).take (i - p)).all q = true) (hc : q s[i] = false) : (((L s).drop p).takeWhile q).length = i - p := by
  have h2 : ((L s).drop p).drop (i - p) = s[i] :: (L s).drop (i + 1) := by rw [List.drop_drop, show p + (i - p) = i by omega]; exact drop_cons s i hi
  have hlen : (((L s).drop p).take (i - p)).length = i - p := by rw [List.length_take, List.length_drop, len_L]; omega
  have e : (L s).drop p = ((L s).drop p).take (i - p) ++ s[i] :: (L s).drop (i + 1) := by rw [← h2, List.take_append_drop]
  rw [e, List.takeWhile_append_of_pos (by simpa using hall), List.takeWhile_cons, hc, List.length_append, hlen]; simp
theorem tw_end (q : UInt8 → Bool) (s : ByteArray) (p i : Nat) (hpi : p ≤ i) (hi : i = s.size) (hall : (((L s).drop p).take (i - p)).all q = true) : (((L s).drop p).takeWhile q).length = i - p := by
  rw [List.take_of_length_le (by rw [List.length_drop, len_L]; omega)] at hall
  have e : ((L s).drop p ++ []).takeWhile q = (L s).drop p ++ [].takeWhile q := List.takeWhile_append_of_pos (by simpa using hall)
  rw [List.append_nil, List.takeWhile_nil, List.append_nil] at e
  rw [e, List.length_drop, len_L]; omega
theorem tw_next (q : UInt8 → Bool) (s : ByteArray) (p i : Nat) (hpi : p ≤ i) (hi : i < s.size) (hall : (((L s).drop p).take (i - p)).all q = true) (hc : q s[i] = true) : (((L s).drop p).take (i + 1 - p)).all q = true := by
  rw [show i + 1 - p = (i - p) + 1 by omega, List.take_add_one, List.all_append, hall, List.getElem?_drop, show p + (i - p) = i by omega, List.getElem?_eq_getElem (by rw [len_L]; exact hi)]
  show (true && (q s[i] && true)) = true
  rw [hc]; rfl
theorem ext_tw (q : UInt8 → Bool) (s : ByteArray) (p n : Nat) (hn : (((L s).drop p).takeWhile q).length = n) : L (s.extract p (p + n)) = ((L s).drop p).takeWhile q := by
  rw [L_extract, show p + n - p = n by omega, ← hn]
  have := List.takeWhile_append_dropWhile (p := q) (l := (L s).drop p)
  conv => lhs; arg 2; rw [← this]
  rw [List.take_left]

set_option maxRecDepth 100000 in
set_option maxHeartbeats 4000000 in
theorem one_name (s : ByteArray) (p : Nat) (w : World) (hs : s.size ≤ 65536) (hp : p < s.size) (h1 : letB s[p] = true) (n : Nat) (hn : (((L s).drop (p)).takeWhile worB).length = n) (x : ByteArray) (hx : s.extract (p) (p + n) = x) :
    Calls Tryz.prog 25 #[.string s, .int .i64 p] w fun e w' => (e = if 64 < n then .returned (.tuple #[tokV 0 ⟨#[]⟩ 0, .int .i64 0, .int .i64 4]) else .returned (.tuple #[tokV 1 x p, .int .i64 ((p + n : Nat) : Int), .int .i64 0])) ∧ Below w.heap.size w w' := by
  have h96 : (((s[p].toNat : Nat) : Int) == 96) = false := (cb s[p] 96).trans (by rw [beq_eq_false_iff_ne]; intro e; rw [e] at h1; revert h1; decide)
  have hpI : (p : Int) < (s.size : Int) := by omega
  have HN : Hid _ := hn
  clear hn
  go_enter Tryz.func25, Tryz.ntmps25
  go_wp2_with (first
    | (go_at_call 44; refine (rLetter_c s[p] _).mono ?_; rintro e w' ⟨rfl, hw⟩; have hw2 := hw.symm; subst hw2; rw [h1]))
  go_loop [7] (fun iv => ∃ i : Nat, p ≤ i ∧ i ≤ s.size ∧ iv = .int .i64 i ∧ Hid ((((L s).drop (p)).take (i - (p))).all worB = true)) (fun iv => s.size - (intOf iv).toNat)
  case atStart => exact ⟨p, Nat.le_refl _, by omega, by go_num, by rw [Nat.sub_self]; exact rfl⟩
  case round =>
    obtain ⟨i, hi1, hi2, rfl, HA⟩ := hrel
    by_cases hgo : ∃ hlt : i < s.size, worB s[i] = true
    · obtain ⟨hlt, hw⟩ := hgo
      have hltI : (i : Int) < (s.size : Int) := by omega
      have HNX : Hid _ := tw_next worB s (p) i hi1 hlt HA.out hw
      go_wp2_with (first
        | (go_at_call 45; refine (rword_c s[i] _).mono ?_; rintro e w' ⟨rfl, hww⟩; have hw2 := hww.symm; subst hw2; rw [hw]))
      go_round
      case rel => exact ⟨i + 1, by omega, by omega, by go_num, HNX⟩
      case measure => simp [intOf]; omega
    · have hin : i = p + n := by
        rcases Nat.lt_or_ge i s.size with g | g
        · have hw : worB s[i] = false := by
            cases e : worB s[i] with
            | false => rfl
            | true => exact absurd ⟨g, e⟩ hgo
          have := tw_here worB s (p) i hi1 g HA.out hw
          rw [HN.out] at this; omega
        · have := tw_end worB s (p) i hi1 (by omega) HA.out
          rw [HN.out] at this; omega
      have hstop : s.size ≤ i ∨ ∃ hlt : i < s.size, worB s[i] = false := by
        rcases Nat.lt_or_ge i s.size with g | g
        · refine Or.inr ⟨g, ?_⟩
          cases e : worB s[i] with
          | false => rfl
          | true => exact absurd ⟨g, e⟩ hgo
        · exact Or.inl g
      have hx2 : s.extract (p) i = x := by rw [hin]; exact hx
      have HIN : Hid (i = p + n) := hin
      have hdI : (i : Int) - ((p : Nat) : Int) = (n : Int) := by omega
      clear hgo hin hx
      by_cases hbig : 64 < n
      · have hbI : (64 : Int) < (i : Int) - ((p : Nat) : Int) := by omega
        rcases hstop with hst | ⟨hlt, hst⟩
        all_goals
          go_wp2_with (first
            | (go_at_call 45; refine (rword_c s[i] _).mono ?_; rintro e w' ⟨rfl, hww⟩; have hw2 := hww.symm; subst hw2; rw [hst]))
          refine bodyPost_ret (v := .tuple #[tokV 0 ⟨#[]⟩ 0, .int .i64 0, .int .i64 4]) (by simp [results, Tryz.results25, go_sem, tokV]) rfl ⟨by first | rfl | rw [if_pos hbig], ?_⟩
          repeat (first | exact Below.refl _ _ | refine Below.drew ?_ | refine Below.setCell ?_ (by simp) _ | refine Below.alloc ?_ (by simp) _)
      · have hbI : (i : Int) - ((p : Nat) : Int) ≤ 64 := by omega
        have HI2 : Hid ((i : Int) = ((p + n : Nat) : Int)) := by rw [HIN.out]; exact rfl
        have hPi : ((p : Nat) : Int) ≤ (i : Int) := by omega
        have hiS : (i : Int) ≤ (s.size : Int) := by omega
        rcases hstop with hst | ⟨hlt, hst⟩
        all_goals
          go_wp2_with (first
            | (go_at_call 45; refine (rword_c s[i] _).mono ?_; rintro e w' ⟨rfl, hww⟩; have hw2 := hww.symm; subst hw2; rw [hst]))
          refine bodyPost_ret (v := .tuple #[tokV 1 x p, .int .i64 i, .int .i64 0]) (by simp [results, Tryz.results25, go_sem, tokV]) rfl ⟨by first | (rw [HI2.out]; simp; done) | (rw [if_neg hbig, HI2.out]), ?_⟩
          repeat (first | exact Below.refl _ _ | refine Below.drew ?_ | refine Below.setCell ?_ (by simp) _ | refine Below.alloc ?_ (by simp) _)

set_option maxRecDepth 100000 in
set_option maxHeartbeats 4000000 in
theorem one_tname (s : ByteArray) (p : Nat) (w : World) (hs : s.size ≤ 65536) (hp : p < s.size) (h3 : s[p] = 96) (hq : p + 1 < s.size) (h1 : letB s[p + 1] = true) (n : Nat) (hn : (((L s).drop (p + 1)).takeWhile worB).length = n) (x : ByteArray) (hx : s.extract (p + 1) (p + 1 + n) = x) :
    Calls Tryz.prog 25 #[.string s, .int .i64 p] w fun e w' => (e = if 64 < n then .returned (.tuple #[tokV 0 ⟨#[]⟩ 0, .int .i64 0, .int .i64 4]) else .returned (.tuple #[tokV 4 x p, .int .i64 ((p + 1 + n : Nat) : Int), .int .i64 0])) ∧ Below w.heap.size w w' := by
  have h96 : (((s[p].toNat : Nat) : Int) == 96) = true := by rw [h3]; rfl
  have hpI : (p : Int) < (s.size : Int) := by omega
  have hqI : (p : Int) + 1 < (s.size : Int) := by omega
  have HN : Hid _ := hn
  clear hn
  go_enter Tryz.func25, Tryz.ntmps25
  go_wp2_with (first
    | (go_at_call 44; refine (rLetter_c s[p + 1] _).mono ?_; rintro e w' ⟨rfl, hw⟩; have hw2 := hw.symm; subst hw2; rw [h1]))
  go_loop [7] (fun iv => ∃ i : Nat, p + 1 ≤ i ∧ i ≤ s.size ∧ iv = .int .i64 i ∧ Hid ((((L s).drop (p + 1)).take (i - (p + 1))).all worB = true)) (fun iv => s.size - (intOf iv).toNat)
  case atStart => exact ⟨p + 1, Nat.le_refl _, by omega, by go_num, by rw [Nat.sub_self]; exact rfl⟩
  case round =>
    obtain ⟨i, hi1, hi2, rfl, HA⟩ := hrel
    by_cases hgo : ∃ hlt : i < s.size, worB s[i] = true
    · obtain ⟨hlt, hw⟩ := hgo
      have hltI : (i : Int) < (s.size : Int) := by omega
      have HNX : Hid _ := tw_next worB s (p + 1) i hi1 hlt HA.out hw
      go_wp2_with (first
        | (go_at_call 45; refine (rword_c s[i] _).mono ?_; rintro e w' ⟨rfl, hww⟩; have hw2 := hww.symm; subst hw2; rw [hw]))
      go_round
      case rel => exact ⟨i + 1, by omega, by omega, by go_num, HNX⟩
      case measure => simp [intOf]; omega
    · have hin : i = p + 1 + n := by
        rcases Nat.lt_or_ge i s.size with g | g
        · have hw : worB s[i] = false := by
            cases e : worB s[i] with
            | false => rfl
            | true => exact absurd ⟨g, e⟩ hgo
          have := tw_here worB s (p + 1) i hi1 g HA.out hw
          rw [HN.out] at this; omega
        · have := tw_end worB s (p + 1) i hi1 (by omega) HA.out
          rw [HN.out] at this; omega
      have hstop : s.size ≤ i ∨ ∃ hlt : i < s.size, worB s[i] = false := by
        rcases Nat.lt_or_ge i s.size with g | g
        · refine Or.inr ⟨g, ?_⟩
          cases e : worB s[i] with
          | false => rfl
          | true => exact absurd ⟨g, e⟩ hgo
        · exact Or.inl g
      have hx2 : s.extract (p + 1) i = x := by rw [hin]; exact hx
      have HIN : Hid (i = p + 1 + n) := hin
      have hdI : (i : Int) - ((p + 1 : Nat) : Int) = (n : Int) := by omega
      clear hgo hin hx
      by_cases hbig : 64 < n
      · have hbI : (64 : Int) < (i : Int) - ((p + 1 : Nat) : Int) := by omega
        rcases hstop with hst | ⟨hlt, hst⟩
        all_goals
          go_wp2_with (first
            | (go_at_call 45; refine (rword_c s[i] _).mono ?_; rintro e w' ⟨rfl, hww⟩; have hw2 := hww.symm; subst hw2; rw [hst]))
          refine bodyPost_ret (v := .tuple #[tokV 0 ⟨#[]⟩ 0, .int .i64 0, .int .i64 4]) (by simp [results, Tryz.results25, go_sem, tokV]) rfl ⟨by first | rfl | rw [if_pos hbig], ?_⟩
          repeat (first | exact Below.refl _ _ | refine Below.drew ?_ | refine Below.setCell ?_ (by simp) _ | refine Below.alloc ?_ (by simp) _)
      · have hbI : (i : Int) - ((p + 1 : Nat) : Int) ≤ 64 := by omega
        have HI2 : Hid ((i : Int) = ((p + 1 + n : Nat) : Int)) := by rw [HIN.out]; exact rfl
        have hPi : ((p + 1 : Nat) : Int) ≤ (i : Int) := by omega
        have hiS : (i : Int) ≤ (s.size : Int) := by omega
        rcases hstop with hst | ⟨hlt, hst⟩
        all_goals
          go_wp2_with (first
            | (go_at_call 45; refine (rword_c s[i] _).mono ?_; rintro e w' ⟨rfl, hww⟩; have hw2 := hww.symm; subst hw2; rw [hst]))
          refine bodyPost_ret (v := .tuple #[tokV 4 x p, .int .i64 i, .int .i64 0]) (by simp [results, Tryz.results25, go_sem, tokV]) rfl ⟨by first | (rw [HI2.out]; simp; done) | (rw [if_neg hbig, HI2.out]), ?_⟩
          repeat (first | exact Below.refl _ _ | refine Below.drew ?_ | refine Below.setCell ?_ (by simp) _ | refine Below.alloc ?_ (by simp) _)

end Go.Proofs.YthdhmlojihpfkaaGreat
