/- Layer 20: floats by their rungs: what +, -, *, / give (plain). -/
import Derived.Test.YtiecneefommdlaaFO
namespace Go.Proofs.Ytiecneefommdlaa
set_option maxRecDepth 100000
open Go.RowKit Lg Nl Go.Maps Fl
set_option linter.unusedVariables false
set_option linter.unusedSimpArgs false

namespace Fl
open Ieee
/-- the exponents of a quotient, in units of the least place -/
theorem quo_vl {m n R S A B : Nat} {i j : Int} (hi : lp ≤ i) (hj : lp ≤ j) (em : m * 2 ^ (i - lp).toNat = R) (en : n * 2 ^ (j - lp).toNat = S) (h : A * S = R * un * B) : A * n * 2 ^ (lp - (i - j)).toNat = m * 2 ^ (i - j - lp).toNat * B := by
  have hl := lp_is
  refine Nat.eq_of_mul_eq_mul_right (Nat.two_pow_pos (j - lp).toNat) ?_
  have e1 : A * n * 2 ^ (lp - (i - j)).toNat * 2 ^ (j - lp).toNat = (A * S) * 2 ^ (lp - (i - j)).toNat := by
    rw [← en]
    simp only [Nat.mul_assoc, Nat.mul_left_comm, Nat.mul_comm]
  have e2 : m * 2 ^ (i - j - lp).toNat * B * 2 ^ (j - lp).toNat = (m * B) * (2 ^ (i - j - lp).toNat * 2 ^ (j - lp).toNat) := by
    simp only [Nat.mul_assoc, Nat.mul_left_comm, Nat.mul_comm]
  have e3 : R * un * B * 2 ^ (lp - (i - j)).toNat = (m * B) * (2 ^ (i - lp).toNat * 2 ^ (0 - lp).toNat * 2 ^ (lp - (i - j)).toNat) := by
    rw [← em, ← un_lp]
    simp only [Nat.mul_assoc, Nat.mul_left_comm, Nat.mul_comm]
  rw [e1, e2, h, e3, ← Nat.pow_add, ← Nat.pow_add, ← Nat.pow_add]
  congr 2
  omega
theorem mg_pos {r : Nat} (h : r ≠ 0) : 0 < mg r := by have := mg_lt (Nat.pos_of_ne_zero h); rwa [mg_zero] at this
/-- a quotient, by rungs -/
theorem quo_word {s t : Bool} {R S : Nat} (hR : R < 9218868437227405312) (hS : S < 9218868437227405312) (hS0 : S ≠ 0) : ∃ T, floatBits .quo .f64 (double.word s R) (double.word t S) = some (double.word (s ^^ t) T) ∧ ∀ A B, 0 < B → A * mg S = mg R * un * B → NP A B T := by
  obtain ⟨m, i, e1, hi, em⟩ := rd_rung s hR
  obtain ⟨n, j, e2, hj, en⟩ := rd_rung t hS
  have hn : n ≠ 0 := by
    intro e
    subst e
    rw [Nat.zero_mul] at en
    exact absurd en.symm (Nat.ne_of_gt (mg_pos hS0))
  rw [div_eq, e1, e2]
  by_cases hm : m = 0
  · subst hm
    refine ⟨0, quot_zero _ _ _ _ _ _ hn, fun A B hB h => ?_⟩
    rw [Nat.zero_mul] at em
    rw [← em, Nat.zero_mul, Nat.zero_mul] at h
    rcases Nat.mul_eq_zero.1 h with h | h
    · subst h; exact NP_zero
    · exact absurd h (Nat.ne_of_gt (mg_pos hS0))
  · have hm53 : m.log2 ≤ 54 + n.log2 := by
      have hb : m < 2 ^ 53 := by
        obtain ⟨a1, a2⟩ := word_sign s (r := R) (by rw [sw_is]; omega)
        rw [read_is _ _ _ a1 a2, bn_is, ir_is] at e1
        split at e1
        · injection e1 with _ e _
          rw [← e]
          show R < 9007199254740992
          omega
        · injection e1 with _ e _
          rw [← e]
          show _ < 9007199254740992
          omega
      have : m.log2 < 53 := (Nat.log2_lt hm).2 hb
      omega
    obtain ⟨T, h1, h2⟩ := quo_NP (s := s) (t := t) (i := i) (j := j) hm hn hm53
    exact ⟨T, h1, fun A B hB h => h2 A B hB (quo_vl hi hj em en h)⟩
/-- a float out of a number, by its rung -/
theorem fI_w (k : Int) : ∃ R, fI k = double.word (decide (k < 0)) R ∧ NP (k.natAbs * un) 1 R := by
  obtain ⟨R, h1, h2⟩ := near_NP0 k.natAbs 0
  refine ⟨R, h1 _, h2 _ _ (by decide) ?_⟩
  unfold Vl
  rw [un_lp, show (lp - 0).toNat = 0 by rw [lp_is]; rfl, Nat.pow_zero]
/-- a rung of just this size -/
theorem ex_rung {k : Nat} (h : k < 9007199254740992) : ∃ R, R < 9218868437227405312 ∧ mg R = k * un := by
  by_cases h0 : k = 0
  · exact ⟨0, by decide, by rw [h0, Nat.zero_mul]; rfl⟩
  · have l0 : k.log2 < 53 := (Nat.log2_lt h0).2 h
    have l1 := Nat.log2_self_le h0
    have l2 := Nat.lt_log2_self (n := k)
    have c1 : 4503599627370496 ≤ k * 2 ^ (52 - k.log2) := by
      have := Nat.mul_le_mul_right (2 ^ (52 - k.log2)) l1
      rw [← Nat.pow_add, show k.log2 + (52 - k.log2) = 52 by omega] at this
      exact this
    have c2 : k * 2 ^ (52 - k.log2) < 9007199254740992 := by
      have := Nat.mul_lt_mul_of_pos_right l2 (Nat.two_pow_pos (52 - k.log2))
      rw [← Nat.pow_add, show k.log2 + 1 + (52 - k.log2) = 53 by omega] at this
      exact this
    refine ⟨(1022 + k.log2) * 4503599627370496 + k * 2 ^ (52 - k.log2), ?_, ?_⟩
    · generalize k * 2 ^ (52 - k.log2) = c at *
      omega
    · rw [mg_at _ _ (Or.inr c1) (Nat.le_of_lt c2), Nat.mul_assoc, ← Nat.pow_add, show 52 - k.log2 + (1022 + k.log2) = (0 - lp).toNat by rw [lp_is]; omega]
      rfl
theorem NP_exact {B R : Nat} (hB : 0 < B) (hR : R ≤ 9218868437227405312) : NP (mg R * B) B R := by
  have a1 : ∀ X, B * (X + mg R) = B * X + mg R * B := fun X => by rw [Nat.mul_add, Nat.mul_comm B (mg R)]
  have a2 : ∀ X, B * (mg R + X) = mg R * B + B * X := fun X => by rw [Nat.mul_add, Nat.mul_comm B (mg R)]
  have m1 : R ≠ 0 → B * mg (R - 1) < mg R * B := fun e => by
    rw [Nat.mul_comm (mg R)]
    exact Nat.mul_lt_mul_of_pos_left (mg_lt (Nat.sub_lt (Nat.pos_of_ne_zero e) (by decide))) hB
  have m2 : mg R * B < B * mg (R + 1) := by
    rw [Nat.mul_comm (mg R)]
    exact Nat.mul_lt_mul_of_pos_left (mg_step R) hB
  refine ⟨fun e => ?_, fun e => ?_, fun e h => ?_, fun e h => ?_, hR⟩
  · rw [a1]
    have := m1 e
    generalize B * mg (R - 1) = x at *
    generalize mg R * B = y at *
    omega
  · rw [a2]
    generalize B * mg (R + 1) = x at *
    generalize mg R * B = y at *
    omega
  · exfalso
    rw [a1] at h
    have := m1 e
    generalize B * mg (R - 1) = x at *
    generalize mg R * B = y at *
    omega
  · exfalso
    rw [a2] at h
    generalize B * mg (R + 1) = x at *
    generalize mg R * B = y at *
    omega
/-- a float out of a number that is not too great is that number -/
theorem fI_x {k : Int} (h : k.natAbs < 9007199254740992) : ∃ R, fI k = double.word (decide (k < 0)) R ∧ R < 9218868437227405312 ∧ mg R = k.natAbs * un := by
  obtain ⟨R, h1, h2⟩ := fI_w k
  obtain ⟨S, s1, s2⟩ := ex_rung h
  have e : R = S := h2.uniq (by decide) (by decide) (s2 ▸ NP_exact (B := 1) (by decide) (Nat.le_of_lt s1)) (by simp only [Nat.mul_one])
  exact ⟨S, by rw [h1, e], s1, s2⟩
/-- a magnitude with its sign -/
def sv (s : Bool) (n : Nat) : Int := if s then -(n : Int) else (n : Int)
theorem signed_sv (s : Bool) (m k : Nat) : signed s m k = sv s (m * 2 ^ k) := by unfold signed sv; rw [Nat.shiftLeft_eq]
theorem sv_mul (s : Bool) (n k : Nat) : sv s (n * k) = sv s n * (k : Int) := by unfold sv; cases s <;> simp [Int.neg_mul]
theorem add_eq (x y : Nat) : floatBits .add .f64 x y = ((rd x).sum (rd y)).map double.write := rfl
theorem sub_eq (x y : Nat) : floatBits .sub .f64 x y = ((rd x).sum (rd y).opposite).map double.write := rfl
theorem sum_nn (s t : Bool) (m n : Nat) (i j : Int) : Datum.sum (.number s m i) (.number t n j) = some (.number (if signed s m (i - min i j).toNat + signed t n (j - min i j).toNat = 0 then s && t else decide (signed s m (i - min i j).toNat + signed t n (j - min i j).toNat < 0)) (signed s m (i - min i j).toNat + signed t n (j - min i j).toNat).natAbs (min i j)) := rfl
/-- a sum, by rungs -/
theorem add_word {s t : Bool} {R S : Nat} (hR : R < 9218868437227405312) (hS : S < 9218868437227405312) : ∃ T, floatBits .add .f64 (double.word s R) (double.word t S) = some (double.word (if sv s (mg R) + sv t (mg S) = 0 then s && t else decide (sv s (mg R) + sv t (mg S) < 0)) T) ∧ NP (sv s (mg R) + sv t (mg S)).natAbs 1 T := by
  obtain ⟨m, i, e1, hi, em⟩ := rd_rung s hR
  obtain ⟨n, j, e2, hj, en⟩ := rd_rung t hS
  rw [add_eq, e1, e2, sum_nn]
  obtain ⟨b, hb⟩ : ∃ b, b = min i j := ⟨_, rfl⟩
  rw [← hb]
  obtain ⟨V, hV⟩ : ∃ V, V = signed s m (i - b).toNat + signed t n (j - b).toNat := ⟨_, rfl⟩
  rw [← hV]
  have hp : (0 : Int) < ((2 ^ (b - lp).toNat : Nat) : Int) := by exact_mod_cast Nat.two_pow_pos _
  have hVm : sv s (mg R) + sv t (mg S) = V * ((2 ^ (b - lp).toNat : Nat) : Int) := by
    rw [hV, Int.add_mul, signed_sv, signed_sv, ← sv_mul, ← sv_mul, ← em, ← en, Nat.mul_assoc, Nat.mul_assoc, ← Nat.pow_add, ← Nat.pow_add]
    congr 4 <;> omega
  obtain ⟨T, h1, h2⟩ := near_NP0 V.natAbs b
  rw [hVm]
  refine ⟨T, ?_, ?_⟩
  · show some (double.nearest _ V.natAbs b) = _
    rw [h1]
    have z1 : (V * ((2 ^ (b - lp).toNat : Nat) : Int) = 0) = (V = 0) := propext ⟨fun h => (Int.mul_eq_zero.1 h).resolve_right (Int.ne_of_gt hp), fun h => by rw [h, Int.zero_mul]⟩
    have z2 : (V * ((2 ^ (b - lp).toNat : Nat) : Int) < 0) = (V < 0) := propext ⟨fun h => by
      rcases Int.lt_or_le V 0 with h3 | h3
      · exact h3
      · exact absurd (Int.mul_nonneg h3 (Int.le_of_lt hp)) (Int.not_le.2 h), fun h => Int.mul_neg_of_neg_of_pos h hp⟩
    simp only [z1, z2]
  · refine h2 _ _ (by decide) ?_
    unfold Vl
    rw [Int.natAbs_mul, Int.natAbs_natCast, show (lp - b).toNat = 0 by omega, Nat.pow_zero]
theorem sv_fI (k : Int) : sv (decide (k < 0)) (k.natAbs * un) = k * (un : Int) := by
  rw [sv_mul]
  congr 1
  unfold sv
  by_cases h : k < 0
  · rw [decide_eq_true h, if_pos rfl]; omega
  · rw [decide_eq_false h, if_neg (by decide)]; omega
/-- sums of floats out of numbers -/
theorem add_fI {a b : Int} (ha : a.natAbs < 9007199254740992) (hb : b.natAbs < 9007199254740992) : floatBits .add .f64 (fI a) (fI b) = some (fI (a + b)) := by
  obtain ⟨R, r1, r2, r3⟩ := fI_x ha
  obtain ⟨S, s1, s2, s3⟩ := fI_x hb
  obtain ⟨T, t1, t2⟩ := add_word (s := decide (a < 0)) (t := decide (b < 0)) r2 s2
  obtain ⟨U, u1, u2⟩ := fI_w (a + b)
  have hu : (0 : Int) < (un : Int) := by exact_mod_cast un_pos
  rw [r3, s3, sv_fI, sv_fI, ← Int.add_mul] at t1 t2
  rw [Int.natAbs_mul, Int.natAbs_natCast] at t2
  have e : T = U := t2.uniq (by decide) (by decide) u2 rfl
  rw [r1, s1, t1, u1, e]
  congr 2
  have z1 : ((a + b) * (un : Int) = 0) = (a + b = 0) := propext ⟨fun h => (Int.mul_eq_zero.1 h).resolve_right (Int.ne_of_gt hu), fun h => by rw [h, Int.zero_mul]⟩
  have z2 : ((a + b) * (un : Int) < 0) = (a + b < 0) := propext ⟨fun h => by
    rcases Int.lt_or_le (a + b) 0 with h3 | h3
    · exact h3
    · exact absurd (Int.mul_nonneg h3 (Int.le_of_lt hu)) (Int.not_le.2 h), fun h => Int.mul_neg_of_neg_of_pos h hu⟩
  simp only [z1, z2]
  split
  · rename_i h
    rw [h]
    by_cases h2 : a < 0
    · have : ¬ b < 0 := by omega
      simp [h2, this]
    · simp [h2]
  · rfl
/-- quotients of floats out of numbers, by what they come to -/
theorem quo_fI2 {a b : Nat} (ha : a < 9007199254740992) (hb : b < 9007199254740992) (hb0 : 0 < b) : ∃ T, floatBits .quo .f64 (fI (a : Int)) (fI (b : Int)) = some (double.word false T) ∧ ∀ A B, 0 < B → A * b = a * un * B → NP A B T := by
  obtain ⟨R, r1, r2, r3⟩ := fI_x (k := (a : Int)) (by rw [Int.natAbs_natCast]; exact ha)
  obtain ⟨S, s1, s2, s3⟩ := fI_x (k := (b : Int)) (by rw [Int.natAbs_natCast]; exact hb)
  have n1 : decide ((a : Int) < 0) = false := decide_eq_false (by omega)
  have n2 : decide ((b : Int) < 0) = false := decide_eq_false (by omega)
  rw [n1] at r1
  rw [n2] at s1
  rw [Int.natAbs_natCast] at r3 s3
  have s0 : S ≠ 0 := by
    intro e
    rw [e, mg_zero] at s3
    exact absurd s3.symm (Nat.ne_of_gt (Nat.mul_pos hb0 un_pos))
  obtain ⟨T, t1, t2⟩ := quo_word (s := false) (t := false) r2 s2 s0
  refine ⟨T, by rw [r1, s1, t1]; rfl, fun A B hB h => t2 A B hB ?_⟩
  rw [r3, s3, ← Nat.mul_assoc, h]
  simp only [Nat.mul_assoc, Nat.mul_left_comm, Nat.mul_comm]
/-- a product by one of its parts -/
theorem quo_fI {a b : Nat} (hb : b < 9007199254740992) (hb0 : 0 < b) (hab : a * b < 9007199254740992) : floatBits .quo .f64 (fI ((a * b : Nat) : Int)) (fI (b : Int)) = some (fI (a : Int)) := by
  obtain ⟨T, t1, t2⟩ := quo_fI2 hab hb hb0
  have ha : a < 9007199254740992 := Nat.lt_of_le_of_lt (Nat.le_mul_of_pos_right a hb0) hab
  obtain ⟨R, r1, r2, r3⟩ := fI_x (k := (a : Int)) (by rw [Int.natAbs_natCast]; exact ha)
  rw [show decide ((a : Int) < 0) = false from decide_eq_false (by omega)] at r1
  rw [Int.natAbs_natCast] at r3
  have h := t2 (a * un) 1 (by decide) (by simp only [Nat.mul_assoc, Nat.mul_left_comm, Nat.mul_comm, Nat.mul_one])
  have e : T = R := h.uniq (by decide) (by decide) (r3 ▸ NP_exact (B := 1) (by decide) (Nat.le_of_lt r2)) (by simp only [Nat.mul_one])
  rw [t1, r1, e]
/-- the ratio of a number and so many of it -/
theorem quo_part {n d : Nat} (hn0 : 0 < n) (hd0 : 0 < d) (hnd : d * n < 9007199254740992) : floatBits .quo .f64 (fI (n : Int)) (fI ((d * n : Nat) : Int)) = floatBits .quo .f64 (fI 1) (fI (d : Int)) := by
  have hn : n < 9007199254740992 := Nat.lt_of_le_of_lt (Nat.le_mul_of_pos_left n hd0) hnd
  have hd : d < 9007199254740992 := Nat.lt_of_le_of_lt (Nat.le_mul_of_pos_right d hn0) hnd
  obtain ⟨T, t1, t2⟩ := quo_fI2 hn hnd (Nat.mul_pos hd0 hn0)
  obtain ⟨U, u1, u2⟩ := quo_fI2 (a := 1) (by decide) hd hd0
  have h := t2 un d hd0 (by simp only [Nat.mul_assoc, Nat.mul_left_comm, Nat.mul_comm])
  have k := u2 un d hd0 (by rw [Nat.one_mul])
  have e : T = U := h.uniq hd0 hd0 k rfl
  rw [t1, e]
  exact u1.symm
end Fl
end Go.Proofs.Ytiecneefommdlaa
