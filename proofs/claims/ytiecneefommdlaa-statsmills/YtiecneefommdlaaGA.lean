/- Layer 20: a greater float has no fewer thousandths (plain). -/
import Derived.Test.YtiecneefommdlaaFT
namespace Go.Proofs.Ytiecneefommdlaa
set_option maxRecDepth 100000
open Go.RowKit Lg Nl Go.Maps Fl
set_option linter.unusedVariables false
set_option linter.unusedSimpArgs false

namespace Fl
open Ieee
theorem vl_1000 {m R : Nat} {i : Int} (hi : lp ≤ i) (e : m * 2 ^ (i - lp).toNat = mg R) : Vl (mg R * 1000) 1 (m * 8796093022208000) (i + -43) := by
  unfold Vl
  rw [← e, Nat.mul_one, show (8796093022208000 : Nat) = 1000 * 2 ^ 43 from by decide]
  have h : 2 ^ (i - lp).toNat * 2 ^ (lp - (i + -43)).toNat = 2 ^ 43 * 2 ^ (i + -43 - lp).toNat := by
    rw [← Nat.pow_add, ← Nat.pow_add]
    congr 1
    omega
  have e1 : m * 2 ^ (i - lp).toNat * 1000 * 2 ^ (lp - (i + -43)).toNat = m * 1000 * (2 ^ (i - lp).toNat * 2 ^ (lp - (i + -43)).toNat) := by
    simp only [Nat.mul_assoc, Nat.mul_left_comm, Nat.mul_comm]
  rw [e1, h]
  simp only [Nat.mul_assoc]
theorem mul1000 (s : Bool) {R : Nat} (hR : R < 9218868437227405312) : ∃ T, floatBits .mul .f64 (double.word s R) 4652007308841189376 = some (double.word s T) ∧ NP (mg R * 1000) 1 T := by
  obtain ⟨m, i, e1, e2, e3⟩ := rd_rung s hR
  obtain ⟨T, t1, t2⟩ := near_NP0 (m * 8796093022208000) (i + -43)
  refine ⟨T, ?_, t2 _ _ Nat.one_pos (vl_1000 e2 e3)⟩
  rw [mul_eq, rd_1000, e1]
  show some (double.nearest (s ^^ false) (m * 8796093022208000) (i + -43)) = _
  rw [t1, Bool.xor_false]
theorem cut_mg {s : Bool} {m T : Nat} {i : Int} (hi : lp ≤ i) (e : m * 2 ^ (i - lp).toNat = mg T) : Toward.zero.cut s (m <<< i.toNat) (-i).toNat = mg T / un := by
  have hc : Toward.zero.cut s (m <<< i.toNat) (-i).toNat = (m <<< i.toNat) / (1 <<< min (-i).toNat ((m <<< i.toNat).log2 + 2)) := by
    unfold Toward.cut
    simp
  rw [hc, Nat.one_shiftLeft, ← e]
  unfold un
  by_cases h0 : 0 ≤ i
  · have e1 : (-i).toNat = 0 := by omega
    have e2 : (i - lp).toNat = i.toNat + (0 - lp).toNat := by have := lp_is; omega
    rw [e1, Nat.zero_min, Nat.pow_zero, Nat.div_one, Nat.shiftLeft_eq, e2, Nat.pow_add, ← Nat.mul_assoc, Nat.mul_div_cancel _ (Nat.two_pow_pos _)]
  · have e1 : i.toNat = 0 := by omega
    have e2 : (0 - lp).toNat = (-i).toNat + (i - lp).toNat := by omega
    rw [e1, Nat.shiftLeft_zero, e2, Nat.pow_add, Nat.mul_div_mul_right _ _ (Nat.two_pow_pos _)]
    by_cases h1 : (-i).toNat ≤ m.log2 + 2
    · rw [Nat.min_eq_left h1]
    · rw [Nat.min_eq_right (by omega)]
      have l2 : m < 2 ^ (m.log2 + 1) := Nat.lt_log2_self
      have l3 : 2 ^ (m.log2 + 1) ≤ 2 ^ (m.log2 + 2) := Nat.pow_le_pow_right (by decide) (by omega)
      have l4 : 2 ^ (m.log2 + 2) ≤ 2 ^ (-i).toNat := Nat.pow_le_pow_right (by decide) (by omega)
      rw [Nat.div_eq_of_lt (Nat.lt_of_lt_of_le l2 l3), Nat.div_eq_of_lt (Nat.lt_of_lt_of_le l2 (Nat.le_trans l3 l4))]
theorem trunc_val (s : Bool) {T : Nat} {k : Int} (hT : T ≤ 9218868437227405312) (h : floatToIntVal .f64 (double.word s T) .i64 = some k) : k = sv s (mg T / un) := by
  rcases Nat.lt_or_ge T 9218868437227405312 with h1 | h1
  · obtain ⟨m, i, e1, e2, e3⟩ := rd_rung s h1
    unfold floatToIntVal at h
    have hd : FloatKind.f64.decode (double.word s T) = .number s m i := e1
    have ht : (Datum.number s m i).toInt .zero = some (signed s (Toward.zero.cut s (m <<< i.toNat) (-i).toNat) 0) := rfl
    rw [hd, ht, cut_mg e2 e3] at h
    generalize mg T / un = c at *
    have hs : signed s c 0 = sv s c := by rw [signed_sv, Nat.pow_zero, Nat.mul_one]
    rw [hs] at h
    change (if IntKind.i64.min ≤ sv s c ∧ sv s c ≤ IntKind.i64.max then some (sv s c) else none) = some k at h
    split at h
    · injection h with h; exact h.symm
    · cases h
  · have e : T = 9218868437227405312 := by omega
    subst e
    unfold floatToIntVal at h
    have hd : FloatKind.f64.decode (double.word s 9218868437227405312) = .infinity s := rd_ir s
    rw [hd] at h
    cases h
theorem infW_word (s : Bool) : infW s = double.word s 9218868437227405312 := by cases s <;> decide +kernel
theorem mil_num {x : Nat} {n : Int} (hx : x < 18446744073709551616) (h : milV x = (n, 0)) : ∃ s R T, NP (mg R * 1000) 1 T ∧ n = sv s (mg T / un) ∧ pl x = if s then -1 - (R : Int) else (R : Int) := by
  unfold milV at h
  cases hn : nanB x with
  | true => rw [hn, if_pos rfl] at h; injection h with _ h; cases h
  | false =>
    rw [hn, if_neg (by decide)] at h
    obtain ⟨s, R, ex, hR, k1, k2⟩ := word_of hx hn
    cases h1 : FloatKind.f64.format.order x (infW false) == some .eq with
    | true => rw [h1, if_pos rfl] at h; injection h with _ h; cases h
    | false =>
      rw [h1, if_neg (by decide)] at h
      cases h2 : FloatKind.f64.format.order x (infW true) == some .eq with
      | true => rw [h2, if_pos rfl] at h; injection h with _ h; cases h
      | false =>
        rw [h2, if_neg (by decide)] at h
        have hR' : R < 9218868437227405312 := by
          rcases Nat.lt_or_ge R 9218868437227405312 with h | h
          · exact h
          · exfalso
            have e : R = 9218868437227405312 := by omega
            subst e
            rw [← infW_word] at ex
            subst ex
            cases s
            · rw [inf_ord] at h1; cases h1
            · rw [inf_ord] at h2; cases h2
        obtain ⟨T, e1, np⟩ := mul1000 s hR'
        rw [show floatBits .mul .f64 x 4652007308841189376 = some (double.word s T) from by rw [ex]; exact e1] at h
        have hnt : nanB (double.word s T) = false := word_nan s np.rg
        change (if FloatKind.f64.format.order (double.word s T) 4845873199050653696 == some .gt || FloatKind.f64.format.order (double.word s T) 14069245235905429504 == some .lt then ((0 : Int), (4 : Int)) else ((floatToIntVal .f64 (double.word s T) .i64).getD 0, 0)) = (n, 0) at h
        split at h
        · injection h with _ h; cases h
        · rename_i hb
          obtain ⟨k, hk⟩ := int_some hnt (fun c => hb (by rw [c]; rfl)) (fun c => hb (by rw [c]; simp))
          rw [hk] at h
          injection h with h _
          refine ⟨s, R, T, np, ?_, ?_⟩
          · rw [← trunc_val s np.rg hk]; exact h.symm
          · unfold pl
            rw [if_neg (by rw [hn]; decide)]
            cases s
            · have := k2 rfl
              rw [if_pos (by omega), if_neg (by decide), this]
            · have := k1 rfl
              rw [if_neg (by omega), if_pos rfl]
              omega
theorem mil_mono {x y : Nat} {n k : Int} (hx : x < 18446744073709551616) (hy : y < 18446744073709551616) (h : milV x = (n, 0)) (h' : milV y = (k, 0)) (ho : ordI x y ≤ 0) : n ≤ k := by
  rw [ord_pl hx hy] at ho
  have hp : pl x ≤ pl y := by
    rcases Int.lt_or_le (pl y) (pl x) with c | c
    · rw [if_neg (by omega), if_pos c] at ho; omega
    · exact c
  obtain ⟨s, R, T, n1, n2, n3⟩ := mil_num hx h
  obtain ⟨t, U, V, m1, m2, m3⟩ := mil_num hy h'
  rw [n3, m3] at hp
  subst n2 m2
  have step : ∀ {a b A B : Nat}, a ≤ b → NP (mg a * 1000) 1 A → NP (mg b * 1000) 1 B → mg A / un ≤ mg B / un := fun h p q =>
    Nat.div_le_div_right (mg_le (p.mono Nat.one_pos Nat.one_pos q (Nat.mul_le_mul_right _ (Nat.mul_le_mul_right _ (mg_le h)))))
  unfold sv
  cases s <;> cases t
  · simp only [Bool.false_eq_true, if_false] at hp ⊢
    have := step (show R ≤ U by omega) n1 m1
    generalize mg T / un = p at *
    generalize mg V / un = q at *
    omega
  · simp only [Bool.false_eq_true, if_false, if_true] at hp
    omega
  · simp only [Bool.false_eq_true, if_false, if_true]
    generalize mg T / un = p at *
    generalize mg V / un = q at *
    omega
  · simp only [if_true] at hp ⊢
    have := step (show U ≤ R by omega) m1 n1
    generalize mg T / un = p at *
    generalize mg V / un = q at *
    omega
end Fl
end Go.Proofs.Ytiecneefommdlaa
