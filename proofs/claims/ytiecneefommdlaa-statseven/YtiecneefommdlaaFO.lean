/- Layer 20: sums, products, quotients of floats by their rungs (plain). -/
import Derived.Test.YtiecneefommdlaaFN
namespace Go.Proofs.Ytiecneefommdlaa
set_option maxRecDepth 100000
open Go.RowKit Lg Nl Go.Maps Fl
set_option linter.unusedVariables false
set_option linter.unusedSimpArgs false

namespace Fl
open Ieee
/-- one, in units of the least place -/
def un : Nat := 2 ^ (0 - lp).toNat
theorem un_pos : 0 < un := Nat.two_pow_pos _
theorem un_lp : 2 ^ (0 - lp).toNat = un := rfl
/-- a quotient with one digit that tells whether anything is left over is rounded as it is itself -/
theorem quo_rh {n D d c : Nat} (hn : 0 < n) (hd : 2 ≤ d) (h : Rh (2 * (D / n) + (D % n != 0).toNat) (2 ^ d) c) : (2 ^ d * n) * (2 * c) ≤ 2 * (2 * D) + 2 ^ d * n ∧ 2 * (2 * D) ≤ (2 ^ d * n) * (2 * c + 1) ∧ (2 * (2 * D) + 2 ^ d * n = (2 ^ d * n) * (2 * c) → c % 2 = 0) ∧ (2 * (2 * D) = (2 ^ d * n) * (2 * c + 1) → c % 2 = 0) := by
  obtain ⟨b, hb⟩ : ∃ b, 2 ^ d = 4 * b := ⟨2 ^ (d - 2), by rw [show d = (d - 2) + 2 from by omega, Nat.pow_add, Nat.add_sub_cancel]; omega⟩
  have hdm := Nat.div_add_mod D n
  have hm := Nat.mod_lt D hn
  rw [hb] at h ⊢
  have hs : (D % n = 0 ∧ (D % n != 0).toNat = 0) ∨ (0 < D % n ∧ (D % n != 0).toNat = 1) := by
    rcases Nat.eq_zero_or_pos (D % n) with e | e
    · left; rw [e]; exact ⟨rfl, rfl⟩
    · right
      refine ⟨e, ?_⟩
      have : (D % n != 0) = true := by simp; omega
      rw [this]; rfl
  obtain ⟨r1, r2, r3, r4⟩ := h
  generalize (D % n != 0).toNat = s at *
  generalize D % n = r at *
  generalize D / n = Q at *
  have x1 : ∀ k, (4 * b * n) * k = 4 * (n * (b * k)) := fun k => by rw [Nat.mul_assoc, Nat.mul_assoc, Nat.mul_left_comm b n]
  have x0 : 4 * b * n = 4 * (n * b) := by rw [Nat.mul_assoc, Nat.mul_comm b n]
  have y1 : ∀ k, 4 * b * k = 4 * (b * k) := fun k => Nat.mul_assoc _ _ _
  rw [y1] at r1 r2 r3 r4
  rw [x1, x1, x0]
  subst hdm
  generalize hA : b * (2 * c) = a at *
  generalize hE : b * (2 * c + 1) = e at *
  refine ⟨?_, ?_, ?_, ?_⟩
  · have h1 : a ≤ Q + b := by omega
    have h2 := Nat.mul_le_mul_left n h1
    rw [Nat.mul_add] at h2
    omega
  · rcases hs with ⟨hr, hs⟩ | ⟨hr, hs⟩
    · have h1 : Q ≤ e := by omega
      have h2 := Nat.mul_le_mul_left n h1
      omega
    · have h1 : Q + 1 ≤ e := by omega
      have h2 := Nat.mul_le_mul_left n h1
      rw [Nat.mul_succ] at h2
      omega
  · intro h
    have h3 : n * Q + r + n * b = n * a := by omega
    have h4 : r = 0 := by
      have h5 : (n * Q + r + n * b) % n = 0 := by rw [h3]; exact Nat.mul_mod_right _ _
      rw [Nat.add_mul_mod_self_left, Nat.mul_add_mod, Nat.mod_eq_of_lt hm] at h5
      exact h5
    have h6 : n * (Q + b) = n * a := by rw [Nat.mul_add]; omega
    have h7 := Nat.eq_of_mul_eq_mul_left hn h6
    exact r3 (by omega)
  · intro h
    have h3 : n * Q + r = n * e := by omega
    have h4 : r = 0 := by
      have h5 : (n * Q + r) % n = 0 := by rw [h3]; exact Nat.mul_mod_right _ _
      rw [Nat.mul_add_mod, Nat.mod_eq_of_lt hm] at h5
      exact h5
    have h6 : n * Q = n * e := by omega
    have h7 := Nat.eq_of_mul_eq_mul_left hn h6
    exact r4 (by omega)
theorem log_shift {m k : Nat} (h : m ≠ 0) : (m <<< k).log2 = m.log2 + k := by rw [Nat.shiftLeft_eq, log_mul h]
/-- a quotient of numbers is written as its nearest rung -/
theorem quo_NP {s t : Bool} {m n : Nat} {i j : Int} (hm : m ≠ 0) (hn : n ≠ 0) (h53 : m.log2 ≤ 54 + n.log2) : ∃ R, (Datum.quotient 54 (.number s m i) (.number t n j)).map double.write = some (double.word (s ^^ t) R) ∧ ∀ A B, 0 < B → A * n * 2 ^ (lp - (i - j)).toNat = m * 2 ^ (i - j - lp).toNat * B → NP A B R := by
  rw [quot_nn, if_neg hn]
  obtain ⟨more, hmore⟩ : ∃ k, k = 54 + n.log2 - m.log2 := ⟨_, rfl⟩
  rw [← hmore]
  obtain ⟨D, hD⟩ : ∃ D, D = m <<< more := ⟨_, rfl⟩
  rw [← hD]
  have hn0 : 0 < n := Nat.pos_of_ne_zero hn
  have lD : D.log2 = 54 + n.log2 := by rw [hD, log_shift hm]; omega
  have hD0 : D ≠ 0 := by intro e; rw [hD, Nat.shiftLeft_eq] at e; rcases Nat.mul_eq_zero.1 e with e | e; exact hm e; exact absurd e (Nat.ne_of_gt (Nat.two_pow_pos _))
  have d1 := Nat.log2_self_le hD0
  have n2 := Nat.lt_log2_self (n := n)
  have hQ : 2 ^ 53 ≤ D / n := by
    refine (Nat.le_div_iff_mul_le hn0).2 ?_
    refine Nat.le_trans (Nat.mul_le_mul_left _ (Nat.le_of_lt n2)) ?_
    rw [← Nat.pow_add, show 53 + (n.log2 + 1) = D.log2 by omega]; exact d1
  obtain ⟨p, hp⟩ : ∃ p : Int, p = i - j - more - 1 := ⟨_, rfl⟩
  rw [← hp]
  have hM0 : 2 * (D / n) + (D % n != 0).toNat ≠ 0 := by
    have : 0 < D / n := Nat.lt_of_lt_of_le (Nat.two_pow_pos 53) hQ
    omega
  obtain ⟨M, hM⟩ : ∃ M, M = 2 * (D / n) + (D % n != 0).toNat := ⟨_, rfl⟩
  rw [← hM] at hM0
  have hML : 54 ≤ M.log2 := (Nat.le_log2 hM0).2 (by
    have e : (2 : Nat) ^ 54 = 2 * 2 ^ 53 := by rw [Nat.pow_succ, Nat.mul_comm]
    omega)
  obtain ⟨last, hlast⟩ : ∃ l, l = max (p + M.log2 - 52) lp := ⟨_, rfl⟩
  refine ⟨min ((last - lp).toNat * 4503599627370496 + Toward.even.cut true (M <<< (p - last).toNat) (last - p).toNat) 9218868437227405312, ?_, fun A B hB hv => ?_⟩
  · rw [← hM]
    show some (double.nearest (s ^^ t) M p) = _
    unfold Format.nearest
    rw [if_neg hM0, hlast]
    cases (s ^^ t) <;> rfl
  · have l1 := Nat.log2_self_le hM0
    have l2 := Nat.lt_log2_self (n := M)
    have z1 : (p - last).toNat = 0 := by omega
    rw [z1, Nat.shiftLeft_zero]
    obtain ⟨d, hd⟩ : ∃ d, d = (last - p).toNat := ⟨_, rfl⟩
    have hd2 : 2 ≤ d := by omega
    rw [← hd]
    have rh := cut_rh true M d
    generalize Toward.even.cut true M d = c at *
    have hdm := Nat.div_add_mod D n
    have hmm := Nat.mod_lt D hn0
    have hs : (D % n != 0).toNat ≤ 1 := by cases (D % n != 0) <;> decide
    obtain ⟨x1, x2, x3, x4⟩ := quo_rh hn0 hd2 (by rw [← hM]; exact rh)
    refine NP_of2 (G := 2 ^ d * n) (N := 2 * D) hB (Nat.mul_pos (Nat.two_pow_pos _) hn0) ?_ x1 x2 x3 x4 ?_ ?_
    · refine Nat.eq_of_mul_eq_mul_right (Nat.two_pow_pos (lp - (i - j)).toNat) ?_
      have e1 : A * (2 ^ d * n) * 2 ^ (lp - (i - j)).toNat = (m * B) * (2 ^ (i - j - lp).toNat * 2 ^ d) := by
        rw [show A * (2 ^ d * n) * 2 ^ (lp - (i - j)).toNat = (A * n * 2 ^ (lp - (i - j)).toNat) * 2 ^ d by simp only [Nat.mul_assoc, Nat.mul_left_comm, Nat.mul_comm], hv]
        simp only [Nat.mul_assoc, Nat.mul_left_comm, Nat.mul_comm]
      have e2 : 2 * D * (B * 2 ^ (last - lp).toNat) * 2 ^ (lp - (i - j)).toNat = (m * B) * (2 ^ 1 * 2 ^ more * 2 ^ (last - lp).toNat * 2 ^ (lp - (i - j)).toNat) := by
        rw [hD, Nat.shiftLeft_eq, Nat.pow_one]
        simp only [Nat.mul_assoc, Nat.mul_left_comm, Nat.mul_comm]
      rw [e1, e2, ← Nat.pow_add, ← Nat.pow_add, ← Nat.pow_add, ← Nat.pow_add]
      congr 2
      omega
    · by_cases hq : (last - lp).toNat = 0
      · exact Or.inl hq
      · right
        have e2 : M.log2 = d + 52 := by omega
        rw [pow_split e2, show (2 : Nat) ^ 52 = 4503599627370496 from rfl] at l1
        obtain ⟨b, hb⟩ : ∃ b, 2 ^ d = 2 * b := ⟨2 ^ (d - 1), by rw [show d = (d - 1) + 1 from by omega, Nat.pow_add, Nat.add_sub_cancel]; omega⟩
        rw [hb] at l1 ⊢
        have h1 : b * 4503599627370496 ≤ D / n := by
          rw [hM, Nat.mul_assoc] at l1
          generalize b * 4503599627370496 = y at *
          omega
        have h2 := Nat.mul_le_mul_left n h1
        have h3 : 2 * b * n * 4503599627370496 = 2 * (n * (b * 4503599627370496)) := by rw [Nat.mul_assoc 2, Nat.mul_assoc 2, Nat.mul_comm b n, Nat.mul_assoc n]
        rw [h3]
        generalize n * (b * 4503599627370496) = y at *
        generalize n * (D / n) = y2 at *
        omega
    · have e2 : M.log2 + 1 ≤ d + 53 := by omega
      have h2 : 2 ^ (M.log2 + 1) ≤ 2 ^ (d + 53) := Nat.pow_le_pow_right (by decide) e2
      have h3 : M < 2 ^ d * 9007199254740992 := by
        rw [Nat.pow_add _ _ 53, show (2 : Nat) ^ 53 = 9007199254740992 from rfl] at h2
        exact Nat.lt_of_lt_of_le l2 h2
      obtain ⟨b, hb⟩ : ∃ b, 2 ^ d = 2 * b := ⟨2 ^ (d - 1), by rw [show d = (d - 1) + 1 from by omega, Nat.pow_add, Nat.add_sub_cancel]; omega⟩
      rw [hb] at h3 ⊢
      have h1 : D / n + 1 ≤ b * 9007199254740992 := by
        rw [hM, Nat.mul_assoc] at h3
        generalize b * 9007199254740992 = y at *
        omega
      have h4 := Nat.mul_le_mul_left n h1
      have h5 : 2 * b * n * 9007199254740992 = 2 * (n * (b * 9007199254740992)) := by rw [Nat.mul_assoc 2, Nat.mul_assoc 2, Nat.mul_comm b n, Nat.mul_assoc n]
      rw [h5]
      rw [Nat.mul_succ] at h4
      generalize n * (b * 9007199254740992) = y at *
      generalize n * (D / n) = y2 at *
      omega
end Fl
end Go.Proofs.Ytiecneefommdlaa
