/- Layer 20: rounding, told by what it keeps: a rung that is nearest (plain). -/
import Derived.Test.YtiecneefommdlaaFM
namespace Go.Proofs.Ytiecneefommdlaa
set_option maxRecDepth 100000
open Go.RowKit Lg Nl Go.Maps Fl
set_option linter.unusedVariables false
set_option linter.unusedSimpArgs false

namespace Fl
open Ieee
/-- the rung R is nearest to A / B (in units of the least place); between two, the even one -/
structure NP (A B R : Nat) : Prop where
  lo : R ≠ 0 → B * (mg (R - 1) + mg R) ≤ 2 * A
  hi : R ≠ 9218868437227405312 → 2 * A ≤ B * (mg R + mg (R + 1))
  el : R ≠ 0 → 2 * A = B * (mg (R - 1) + mg R) → R % 2 = 0
  eh : R ≠ 9218868437227405312 → 2 * A = B * (mg R + mg (R + 1)) → R % 2 = 0
  rg : R ≤ 9218868437227405312
theorem NP.mono {A B C D R S : Nat} (hB : 0 < B) (hD : 0 < D) (h : NP A B R) (h' : NP C D S) (hle : A * D ≤ C * B) : R ≤ S := by
  rcases Nat.lt_or_ge S R with hlt | hge
  · exfalso
    have r1 := h.rg
    have l1 := h.lo (by omega)
    have l2 := h'.hi (by omega)
    have m1 : mg S ≤ mg (R - 1) := mg_le (by omega)
    have m2 : mg (S + 1) ≤ mg R := mg_le (by omega)
    have p1 := h.el (by omega)
    have p2 := h'.eh (by omega)
    have m3 : S + 1 ≠ R → mg (S + 1) < mg R := fun e => mg_lt (by omega)
    generalize hX : mg (R - 1) + mg R = X at *
    generalize hY : mg S + mg (S + 1) = Y at *
    have hYX : Y ≤ X := by omega
    have g1 : D * (B * X) ≤ D * (2 * A) := Nat.mul_le_mul_left D l1
    have g2 : B * (2 * C) ≤ B * (D * Y) := Nat.mul_le_mul_left B l2
    have g3 : B * (D * Y) ≤ B * (D * X) := Nat.mul_le_mul_left B (Nat.mul_le_mul_left D hYX)
    have e1 : D * (2 * A) = 2 * (A * D) := by rw [Nat.mul_left_comm, Nat.mul_comm D A]
    have e2 : B * (2 * C) = 2 * (C * B) := by rw [Nat.mul_left_comm, Nat.mul_comm B C]
    have e3 : D * (B * X) = B * (D * X) := Nat.mul_left_comm _ _ _
    have q1 : B * (D * Y) = B * (D * X) := by omega
    have q2 : Y = X := Nat.eq_of_mul_eq_mul_left hD (Nat.eq_of_mul_eq_mul_left hB q1)
    have q3 : D * (2 * A) = D * (B * X) := by omega
    have q4 : B * (2 * C) = B * (D * Y) := by omega
    have q5 := p1 (Nat.eq_of_mul_eq_mul_left hD q3)
    have q6 := p2 (Nat.eq_of_mul_eq_mul_left hB q4)
    have q7 : S + 1 = R := by
      rcases Nat.decEq (S + 1) R with e | e
      · have := m3 e; omega
      · exact e
    omega
  · exact hge
theorem NP.uniq {A B C D R S : Nat} (hB : 0 < B) (hD : 0 < D) (h : NP A B R) (h' : NP C D S) (he : A * D = C * B) : R = S :=
  Nat.le_antisymm (h.mono hB hD h' (Nat.le_of_eq he)) (h'.mono hD hB h (Nat.le_of_eq he.symm))
theorem np_c {U A c : Nat} (hU0 : 0 < U) (c1 : U * (2 * c) ≤ 2 * A + U) (c5 : A < U * 9007199254740992) : c ≤ 9007199254740992 := by
  rcases Nat.lt_or_ge 9007199254740992 c with h | h
  · exfalso
    have h1 : U * (2 * 9007199254740992 + 2) ≤ U * (2 * c) := Nat.mul_le_mul_left U (by omega)
    omega
  · exact h
theorem np_q {U A c q : Nat} (hU0 : 0 < U) (c2 : 2 * A ≤ U * (2 * c + 1)) (c4 : q = 0 ∨ U * 4503599627370496 ≤ A) : q = 0 ∨ 4503599627370496 ≤ c := by
  rcases c4 with h | h
  · exact Or.inl h
  · right
    rcases Nat.lt_or_ge c 4503599627370496 with h2 | h2
    · exfalso
      have h1 : U * (2 * c + 1) ≤ U * (2 * 4503599627370496 - 1) := Nat.mul_le_mul_left U (by omega)
      omega
    · exact h2
theorem np_lo1 {U A c : Nat} (hc : 1 ≤ c) (c1 : U * (2 * c) ≤ 2 * A + U) (e1 : 2 * A + U = U * (2 * c) → c % 2 = 0) : U * (c - 1) + U * c ≤ 2 * A ∧ (2 * A = U * (c - 1) + U * c → c % 2 = 0) := by
  have e4 : U * (c - 1) + U = U * c := by
    obtain ⟨k, rfl⟩ : ∃ k, c = k + 1 := ⟨c - 1, by omega⟩
    rw [Nat.add_sub_cancel, Nat.mul_succ]
  have e5 : U * (2 * c) = 2 * (U * c) := Nat.mul_left_comm _ _ _
  exact ⟨by omega, fun e => e1 (by omega)⟩
theorem two_z (z : Nat) : (2 * z) * 4503599627370496 = z * 9007199254740991 + z := by
  rw [Nat.mul_comm 2 z, Nat.mul_assoc]
  exact Nat.mul_succ z 9007199254740991
theorem np_lo2 {z A : Nat} (hz : 0 < z) (hA : (2 * z) * 4503599627370496 ≤ A) : z * 9007199254740991 + (2 * z) * 4503599627370496 ≤ 2 * A ∧ 2 * A ≠ z * 9007199254740991 + (2 * z) * 4503599627370496 := by
  rw [two_z] at *
  generalize z * 9007199254740991 = y at *
  exact ⟨by omega, by omega⟩
theorem np_hi1 {U A c : Nat} (c2 : 2 * A ≤ U * (2 * c + 1)) (e2 : 2 * A = U * (2 * c + 1) → c % 2 = 0) : 2 * A ≤ U * c + U * (c + 1) ∧ (2 * A = U * c + U * (c + 1) → c % 2 = 0) := by
  have e4 : U * (c + 1) = U * c + U := Nat.mul_succ _ _
  have e5 : U * (2 * c + 1) = 2 * (U * c) + U := by rw [Nat.mul_succ, Nat.mul_left_comm]
  exact ⟨by omega, fun e => e2 (by omega)⟩
theorem np_hi2 {U A : Nat} (hU0 : 0 < U) (c5 : A < U * 9007199254740992) : 2 * A ≤ U * 9007199254740992 + (U * 4503599627370497 + U * 4503599627370497) ∧ 2 * A ≠ U * 9007199254740992 + (U * 4503599627370497 + U * 4503599627370497) := ⟨by omega, by omega⟩
theorem even_at {q c : Nat} (h : c % 2 = 0) : (q * 4503599627370496 + c) % 2 = 0 := by omega
theorem e3_lo1 {q c : Nat} (h : 1 ≤ c) : q * 4503599627370496 + c - 1 = q * 4503599627370496 + (c - 1) := by omega
theorem e3_lo2 (p : Nat) : (p + 1) * 4503599627370496 + 4503599627370496 - 1 = p * 4503599627370496 + 9007199254740991 := by omega
theorem e3_hi2 (q : Nat) : q * 4503599627370496 + 9007199254740992 + 1 = (q + 1) * 4503599627370496 + 4503599627370497 := by omega
/-- the rung below, and above, of what is kept -/
theorem NP_raw {A B q c U : Nat} (hB : 0 < B) (hU : U = B * 2 ^ q) (c1 : U * (2 * c) ≤ 2 * A + U) (c2 : 2 * A ≤ U * (2 * c + 1)) (e1 : 2 * A + U = U * (2 * c) → c % 2 = 0) (e2 : 2 * A = U * (2 * c + 1) → c % 2 = 0) (c4 : q = 0 ∨ U * 4503599627370496 ≤ A) (c5 : A < U * 9007199254740992) : ∃ R X Y Z, R = q * 4503599627370496 + c ∧ X = mg (R - 1) ∧ Y = mg R ∧ Z = mg (R + 1) ∧ (R ≠ 0 → B * (X + Y) ≤ 2 * A ∧ (2 * A = B * (X + Y) → R % 2 = 0)) ∧ 2 * A ≤ B * (Y + Z) ∧ (2 * A = B * (Y + Z) → R % 2 = 0) := by
  have hp : 0 < 2 ^ q := Nat.two_pow_pos q
  have hU0 : 0 < U := by rw [hU]; exact Nat.mul_pos hB hp
  have hc := np_c hU0 c1 c5
  have hq := np_q hU0 c2 c4
  have e0 : ∀ k, B * (k * 2 ^ q) = U * k := fun k => by rw [hU, Nat.mul_assoc, Nat.mul_comm k]
  have hlo : ∃ X, X = mg (q * 4503599627370496 + c - 1) ∧ (q * 4503599627370496 + c ≠ 0 → B * (X + c * 2 ^ q) ≤ 2 * A ∧ (2 * A = B * (X + c * 2 ^ q) → (q * 4503599627370496 + c) % 2 = 0)) := by
    by_cases h0 : q = 0 ∧ c = 0
    · exact ⟨_, rfl, fun hne => absurd (by rw [h0.1, h0.2]) hne⟩
    by_cases h : q = 0 ∨ 4503599627370496 < c
    · have hc1 : 1 ≤ c := by omega
      refine ⟨(c - 1) * 2 ^ q, ?_, fun _ => ?_⟩
      · rw [e3_lo1 hc1]; exact (mg_at q (c - 1) (by omega) (by omega)).symm
      · rw [Nat.mul_add, e0, e0]
        have := np_lo1 hc1 c1 e1
        exact ⟨this.1, fun e => even_at (this.2 e)⟩
    · have hc2 : c = 4503599627370496 := by omega
      obtain ⟨p, rfl⟩ : ∃ p, q = p + 1 := ⟨q - 1, by omega⟩
      have hA : U * 4503599627370496 ≤ A := by
        rcases c4 with h' | h'
        · omega
        · exact h'
      subst hc2
      have e6 : U = 2 * (B * 2 ^ p) := by rw [hU, Nat.pow_succ, Nat.mul_comm (2 ^ p), Nat.mul_left_comm]
      have e7 : ∀ k, B * (k * 2 ^ p) = (B * 2 ^ p) * k := fun k => by rw [Nat.mul_assoc, Nat.mul_comm k]
      refine ⟨9007199254740991 * 2 ^ p, ?_, fun _ => ?_⟩
      · rw [e3_lo2]; exact (mg_at p 9007199254740991 (Or.inr (by decide)) (by decide)).symm
      · rw [Nat.mul_add, e7, e0]
        rw [e6] at hA ⊢
        have := np_lo2 (Nat.mul_pos hB (Nat.two_pow_pos p)) hA
        exact ⟨this.1, fun e => absurd e this.2⟩
  have hhi : ∃ Z, Z = mg (q * 4503599627370496 + c + 1) ∧ 2 * A ≤ B * (c * 2 ^ q + Z) ∧ (2 * A = B * (c * 2 ^ q + Z) → (q * 4503599627370496 + c) % 2 = 0) := by
    by_cases h : c < 9007199254740992
    · refine ⟨(c + 1) * 2 ^ q, ?_, ?_⟩
      · rw [Nat.add_assoc]; exact (mg_at q (c + 1) (by omega) (by omega)).symm
      · rw [Nat.mul_add, e0, e0]
        have := np_hi1 c2 e2
        exact ⟨this.1, fun e => even_at (this.2 e)⟩
    · have hc2 : c = 9007199254740992 := by omega
      subst hc2
      have e7 : ∀ k, B * (k * 2 ^ (q + 1)) = U * k + U * k := fun k => by
        rw [Nat.pow_succ, ← Nat.mul_assoc k, ← Nat.mul_assoc B, e0]; exact Nat.mul_two _
      refine ⟨4503599627370497 * 2 ^ (q + 1), ?_, ?_⟩
      · rw [e3_hi2]; exact (mg_at (q + 1) 4503599627370497 (Or.inr (by decide)) (by decide)).symm
      · rw [Nat.mul_add, e0, e7]
        have := np_hi2 hU0 c5
        exact ⟨this.1, fun e => absurd e this.2⟩
  obtain ⟨X, hX, hlo⟩ := hlo
  obtain ⟨Z, hZ, hhi⟩ := hhi
  exact ⟨_, X, c * 2 ^ q, Z, rfl, hX, (mg_at q c hq hc).symm, hZ, hlo, hhi⟩
/-- what is kept of a number, rounded, is its nearest rung -/
theorem NP_of {A B q c U : Nat} (hB : 0 < B) (hU : U = B * 2 ^ q) (c1 : U * (2 * c) ≤ 2 * A + U) (c2 : 2 * A ≤ U * (2 * c + 1)) (e1 : 2 * A + U = U * (2 * c) → c % 2 = 0) (e2 : 2 * A = U * (2 * c + 1) → c % 2 = 0) (c4 : q = 0 ∨ U * 4503599627370496 ≤ A) (c5 : A < U * 9007199254740992) : NP A B (min (q * 4503599627370496 + c) 9218868437227405312) := by
  obtain ⟨R, X, Y, Z, hR, hX, hY, hZ, lo, hi, eh⟩ := NP_raw hB hU c1 c2 e1 e2 c4 c5
  rw [← hR]
  clear hR hU c1 c2 e1 e2 c4 c5
  rcases Nat.lt_or_ge 9218868437227405312 R with h | h
  · rw [Nat.min_eq_right (Nat.le_of_lt h)]
    obtain ⟨R', rfl⟩ : ∃ R', R = R' + 1 := ⟨R - 1, (Nat.succ_pred_eq_of_pos (Nat.lt_of_le_of_lt (Nat.zero_le _) h)).symm⟩
    have n1 : mg (9218868437227405312 - 1) ≤ X := by rw [hX]; exact mg_le (Nat.sub_le_sub_right (Nat.le_of_lt h) 1)
    have n2 : mg 9218868437227405312 ≤ Y := by rw [hY]; exact mg_le (Nat.le_of_lt h)
    exact ⟨fun _ => Nat.le_trans (Nat.mul_le_mul_left B (Nat.add_le_add n1 n2)) (lo (Nat.succ_ne_zero _)).1, fun e => absurd rfl e, fun _ _ => rfl, fun e => absurd rfl e, Nat.le_refl _⟩
  · rw [Nat.min_eq_left h]
    subst hX hY hZ
    exact ⟨fun e => (lo e).1, fun _ => hi, fun e => (lo e).2, fun _ => eh, h⟩
/-- the same, the number being N / G in units of the last place kept -/
theorem NP_of2 {A B q c G N : Nat} (hB : 0 < B) (hG : 0 < G) (hv : A * G = N * (B * 2 ^ q)) (c1 : G * (2 * c) ≤ 2 * N + G) (c2 : 2 * N ≤ G * (2 * c + 1)) (e1 : 2 * N + G = G * (2 * c) → c % 2 = 0) (e2 : 2 * N = G * (2 * c + 1) → c % 2 = 0) (c4 : q = 0 ∨ G * 4503599627370496 ≤ N) (c5 : N < G * 9007199254740992) : NP A B (min (q * 4503599627370496 + c) 9218868437227405312) := by
  obtain ⟨U, hU⟩ : ∃ U, U = B * 2 ^ q := ⟨_, rfl⟩
  rw [← hU] at hv
  have hU0 : 0 < U := by rw [hU]; exact Nat.mul_pos hB (Nat.two_pow_pos q)
  have ex : ∀ k, G * (U * k) = U * (G * k) := fun k => Nat.mul_left_comm _ _ _
  have eA : G * (2 * A) = U * (2 * N) := by rw [Nat.mul_left_comm, Nat.mul_comm G A, hv, Nat.mul_left_comm U, Nat.mul_comm U]
  have eAU : G * (2 * A + U) = U * (2 * N + G) := by rw [Nat.mul_add, eA, Nat.mul_add, Nat.mul_comm G U]
  refine NP_of hB hU ?_ ?_ ?_ ?_ ?_ ?_
  · refine Nat.le_of_mul_le_mul_left ?_ hG
    rw [ex, eAU]; exact Nat.mul_le_mul_left U c1
  · refine Nat.le_of_mul_le_mul_left ?_ hG
    rw [ex, eA]; exact Nat.mul_le_mul_left U c2
  · intro h
    refine e1 (Nat.eq_of_mul_eq_mul_left hU0 ?_)
    rw [← eAU, h, ex]
  · intro h
    refine e2 (Nat.eq_of_mul_eq_mul_left hU0 ?_)
    rw [← eA, h, ex]
  · rcases c4 with h | h
    · exact Or.inl h
    · refine Or.inr (Nat.le_of_mul_le_mul_left ?_ hG)
      rw [ex, Nat.mul_comm G A, hv, Nat.mul_comm N]; exact Nat.mul_le_mul_left U h
  · refine Nat.lt_of_mul_lt_mul_left (a := G) ?_
    rw [ex, Nat.mul_comm G A, hv, Nat.mul_comm N]; exact Nat.mul_lt_mul_of_pos_left c5 hU0
/-- n / g to the nearest whole number, between two the even one -/
structure Rh (n g c : Nat) : Prop where
  r1 : g * (2 * c) ≤ 2 * n + g
  r2 : 2 * n ≤ g * (2 * c + 1)
  r3 : 2 * n + g = g * (2 * c) → c % 2 = 0
  r4 : 2 * n = g * (2 * c + 1) → c % 2 = 0
theorem cut_rh (s : Bool) (n d : Nat) : Rh n (2 ^ d) (Toward.even.cut s n d) := by
  by_cases h : d ≤ n.log2 + 2
  · have e : min d (n.log2 + 2) = d := Nat.min_eq_left h
    have hp : 0 < 2 ^ d := Nat.two_pow_pos d
    have hd := Nat.div_add_mod n (2 ^ d)
    have hm := Nat.mod_lt n hp
    unfold Toward.cut
    simp only [e, Nat.one_shiftLeft]
    generalize n % 2 ^ d = r at *
    generalize n / 2 ^ d = l at *
    generalize 2 ^ d = g at *
    have x1 : g * (2 * l) = 2 * (g * l) := Nat.mul_left_comm _ _ _
    have x2 : g * (2 * l + 1) = 2 * (g * l) + g := by rw [Nat.mul_succ, x1]
    have x3 : g * (2 * (l + 1)) = 2 * (g * l) + 2 * g := by rw [show 2 * (l + 1) = 2 * l + 2 from by omega, Nat.mul_add, x1]; omega
    have x4 : g * (2 * (l + 1) + 1) = 2 * (g * l) + 3 * g := by rw [Nat.mul_succ, x3]; omega
    have up : g ≤ 2 * r → (g = 2 * r → l % 2 = 1) → Rh n g (l + 1) := fun c c' => by
      refine ⟨?_, ?_, ?_, ?_⟩
      · rw [x3]; omega
      · rw [x4]; omega
      · rw [x3]; intro k; have := c' (by omega); omega
      · rw [x4]; intro k; omega
    have dn : 2 * r ≤ g → (g = 2 * r → l % 2 = 0) → Rh n g l := fun c c' => by
      refine ⟨?_, ?_, ?_, ?_⟩
      · rw [x1]; omega
      · rw [x2]; omega
      · rw [x1]; intro k; omega
      · rw [x2]; intro k; exact c' (by omega)
    rcases Nat.lt_trichotomy g (2 * r) with c | c | c
    · have eb : (decide (g < 2 * r) || g == 2 * r && l % 2 == 1) = true := by simp [c]
      rw [eb]
      exact up (by omega) (by omega)
    · rcases Nat.mod_two_eq_zero_or_one l with k | k
      · have eb : (decide (g < 2 * r) || g == 2 * r && l % 2 == 1) = false := by simp [← c, k]
        rw [eb]
        exact dn (by omega) (fun _ => k)
      · have eb : (decide (g < 2 * r) || g == 2 * r && l % 2 == 1) = true := by simp [← c, k]
        rw [eb]
        exact up (by omega) (fun _ => k)
    · have eb : (decide (g < 2 * r) || g == 2 * r && l % 2 == 1) = false := by
        have c1 : ¬ g < 2 * r := by omega
        have c2 : ¬ g = 2 * r := by omega
        simp [c1, c2]
      rw [eb]
      exact dn (by omega) (by omega)
  · have e : min d (n.log2 + 2) = n.log2 + 2 := Nat.min_eq_right (by omega)
    have l2 : n < 2 ^ (n.log2 + 1) := Nat.lt_log2_self
    have l3 : 2 ^ (n.log2 + 2) = 2 * 2 ^ (n.log2 + 1) := by rw [Nat.pow_succ]; omega
    have l4 : 2 ^ (n.log2 + 2) ≤ 2 ^ d := Nat.pow_le_pow_right (by decide) (by omega)
    unfold Toward.cut
    simp only [e, Nat.one_shiftLeft]
    rw [Nat.div_eq_of_lt (by omega), Nat.mod_eq_of_lt (show n < 2 ^ (n.log2 + 2) by omega)]
    have eb : (decide (2 ^ (n.log2 + 2) < 2 * n) || 2 ^ (n.log2 + 2) == 2 * n && 0 % 2 == 1) = false := by
      have c1 : ¬ 2 ^ (n.log2 + 2) < 2 * n := by omega
      simp [c1]
    rw [eb]
    show Rh n (2 ^ d) 0
    generalize 2 ^ d = g at *
    exact ⟨by omega, by omega, fun _ => rfl, fun _ => rfl⟩
/-- the value m * 2 ^ i, in units of the least place, is A / B -/
def Vl (A B m : Nat) (i : Int) : Prop := A * 2 ^ (lp - i).toNat = m * 2 ^ (i - lp).toNat * B
theorem pow_split {a b c : Nat} (h : a = b + c) : 2 ^ a = 2 ^ b * 2 ^ c := by rw [h, Nat.pow_add]
/-- a number is written as its nearest rung -/
theorem near_NP {m : Nat} (i : Int) (h0 : m ≠ 0) : ∃ R, (∀ s, double.nearest s m i = double.word s R) ∧ ∀ A B, 0 < B → Vl A B m i → NP A B R := by
  obtain ⟨last, hlast⟩ : ∃ l, l = max (i + m.log2 - 52) lp := ⟨_, rfl⟩
  refine ⟨min ((last - lp).toNat * 4503599627370496 + Toward.even.cut true (m <<< (i - last).toNat) (last - i).toNat) 9218868437227405312, fun s => ?_, fun A B hB hv => ?_⟩
  · unfold Format.nearest
    rw [if_neg h0, hlast]
    cases s <;> rfl
  · have l1 := Nat.log2_self_le h0
    have l2 := Nat.lt_log2_self (n := m)
    have rh := cut_rh true (m <<< (i - last).toNat) (last - i).toNat
    generalize Toward.even.cut true (m <<< (i - last).toNat) (last - i).toNat = c at *
    rw [Nat.shiftLeft_eq] at rh
    unfold Vl at hv
    refine NP_of2 (G := 2 ^ (last - i).toNat) (N := m * 2 ^ (i - last).toNat) hB (Nat.two_pow_pos _) ?_ rh.r1 rh.r2 rh.r3 rh.r4 ?_ ?_
    · refine Nat.eq_of_mul_eq_mul_right (Nat.two_pow_pos (lp - i).toNat) ?_
      have e1 : A * 2 ^ (last - i).toNat * 2 ^ (lp - i).toNat = (m * B) * (2 ^ (i - lp).toNat * 2 ^ (last - i).toNat) := by
        rw [Nat.mul_right_comm, hv]
        simp only [Nat.mul_assoc, Nat.mul_left_comm, Nat.mul_comm]
      have e2 : m * 2 ^ (i - last).toNat * (B * 2 ^ (last - lp).toNat) * 2 ^ (lp - i).toNat = (m * B) * (2 ^ (i - last).toNat * 2 ^ (last - lp).toNat * 2 ^ (lp - i).toNat) := by
        simp only [Nat.mul_assoc, Nat.mul_left_comm, Nat.mul_comm]
      rw [e1, e2, ← Nat.pow_add, ← Nat.pow_add, ← Nat.pow_add]
      congr 2
      omega
    · by_cases hq : (last - lp).toNat = 0
      · exact Or.inl hq
      · right
        by_cases hk : 52 ≤ m.log2
        · have e1 : (i - last).toNat = 0 := by omega
          have e2 : m.log2 = (last - i).toNat + 52 := by omega
          rw [e1, Nat.pow_zero, Nat.mul_one]
          rw [pow_split e2, show (2 : Nat) ^ 52 = 4503599627370496 from rfl] at l1
          exact l1
        · have e1 : (last - i).toNat = 0 := by omega
          have e2 : 52 = m.log2 + (i - last).toNat := by omega
          rw [e1, Nat.pow_zero, Nat.one_mul, show (4503599627370496 : Nat) = 2 ^ 52 from rfl, pow_split e2]
          exact Nat.mul_le_mul_right _ l1
    · by_cases hk : last ≤ i
      · have e1 : (last - i).toNat = 0 := by omega
        have e2 : m.log2 + 1 + (i - last).toNat ≤ 53 := by omega
        rw [e1, Nat.pow_zero, Nat.one_mul]
        have h1 : m * 2 ^ (i - last).toNat < 2 ^ (m.log2 + 1) * 2 ^ (i - last).toNat := Nat.mul_lt_mul_of_pos_right l2 (Nat.two_pow_pos _)
        rw [← Nat.pow_add] at h1
        have h2 : 2 ^ (m.log2 + 1 + (i - last).toNat) ≤ 2 ^ 53 := Nat.pow_le_pow_right (by decide) e2
        rw [show (2 : Nat) ^ 53 = 9007199254740992 from rfl] at h2
        exact Nat.lt_of_lt_of_le h1 h2
      · have e1 : (i - last).toNat = 0 := by omega
        have e2 : m.log2 + 1 ≤ (last - i).toNat + 53 := by omega
        rw [e1, Nat.pow_zero, Nat.mul_one]
        have h2 : 2 ^ (m.log2 + 1) ≤ 2 ^ ((last - i).toNat + 53) := Nat.pow_le_pow_right (by decide) e2
        rw [Nat.pow_add _ _ 53, show (2 : Nat) ^ 53 = 9007199254740992 from rfl] at h2
        exact Nat.lt_of_lt_of_le l2 h2
theorem NP_zero {B : Nat} : NP 0 B 0 := ⟨fun e => absurd rfl e, fun _ => Nat.zero_le _, fun e => absurd rfl e, fun _ _ => rfl, Nat.zero_le _⟩
theorem near_NP0 (m : Nat) (i : Int) : ∃ R, (∀ s, double.nearest s m i = double.word s R) ∧ ∀ A B, 0 < B → Vl A B m i → NP A B R := by
  by_cases h : m = 0
  · subst h
    refine ⟨0, fun s => by unfold Format.nearest; rw [if_pos rfl], fun A B hB hv => ?_⟩
    unfold Vl at hv
    rw [Nat.zero_mul, Nat.zero_mul] at hv
    rcases Nat.mul_eq_zero.1 hv with e | e
    · subst e; exact NP_zero
    · exact absurd e (Nat.ne_of_gt (Nat.two_pow_pos _))
  · exact near_NP i h
end Fl
end Go.Proofs.Ytiecneefommdlaa
