/- Layer 2 of the program: bits cut or widened. -/
import Derived.Test.YtnlfepfhabaekaaXC
namespace Go.Proofs.Ytnlfepfhabaekaa
open Go.RowKit Lg
set_option linter.unusedVariables false
set_option linter.unusedSimpArgs false

theorem headD_at (s : ByteArray) (h : 0 < s.size) : s[0] = hd0 (L s) := by
  have := drop_cons s 0 h
  rw [List.drop_zero] at this
  rw [this]; rfl
theorem ext1 (s : ByteArray) (h : 0 < s.size) : s.extract 0 1 = ⟨#[s[0]]⟩ := by
  apply L_inj
  rw [L_extract, List.drop_zero]
  have := drop_cons s 0 h
  rw [List.drop_zero] at this
  rw [this]; rfl
theorem fit_ok {l : List UInt8} {n : Nat} (h : vec l = true) (h1 : 1 ≤ n) (h2 : n ≤ 256) : fitA l n = fit l n ∧ fitE l n = 0 := by
  have hh : ¬ ((n : Int) < 1 ∨ 256 < (n : Int)) := by omega
  unfold fitA fitE; rw [if_neg hh, if_neg hh, if_pos h, if_pos h]; exact ⟨rfl, rfl⟩
theorem headI (s : ByteArray) (h : 0 < s.size) (d : UInt8) : (((s[0].toNat : Nat) : Int) == (d.toNat : Int)) = (hd0 (L s) == d) := by
  rw [← headD_at s h, Bool.eq_iff_iff, beq_iff_eq, beq_iff_eq, ← UInt8.toNat_inj]; omega

set_option maxHeartbeats 1000000 in
theorem stretched_c (s : ByteArray) (n : Nat) (w : World) (hs : s.size ≤ 100000) (hb : (L s).all bitB = true) (h1 : 1 ≤ n) (h2 : n ≤ 256) :
    Calls Try.prog 83 #[.string s, .int .i64 n] w fun e w' => e = .returned (.tuple #[.string (S (oS (strV (L s) n))), .bool (oB (strV (L s) n))]) ∧ Below w.heap.size w w' := by
  by_cases hz : s.size = 0
  · have hse : s = ByteArray.empty := by apply L_inj; rw [(empty_L s).2 hz]; rfl
    subst hse
    go_enter Try.func83, Try.ntmps83
    go_wp2
    go_ret2
    exact ⟨rfl, Below.refl _ _⟩
  · have hpos : 0 < s.size := by omega
    have hsn : s.toList.isEmpty = false := by rw [toL, List.isEmpty_eq_false_iff]; rw [Ne, empty_L]; exact hz
    have hsn2 : ¬ L s = [] := by rw [empty_L]; exact hz
    by_cases hle : n ≤ s.size
    · have HK : Hid (strV (L s) n = some ((L s).drop ((L s).length - n))) := by unfold strV; rw [if_neg hsn2, if_pos (by rw [len_L]; exact hle)]; exact rfl
      clear hsn2
      go_enter Try.func83, Try.ntmps83
      go_wp2
      go_ret2
      refine ⟨tupSB ?_, Below.refl _ _⟩
      rw [HK.out]
      refine ⟨?_, rfl⟩
      rw [L_extract, len_L, List.take_of_length_le (by simp [len_L] <;> omega)]
      show (L s).drop (s.size - n) = _
      congr 1
    · have hz1 : ((n : Int) - (s.size : Int)) = ((n - s.size : Nat) : Int) := by omega
      have hx1 := headI s hpos 120
      have hx2 := headI s hpos 122
      by_cases hx : hd0 (L s) = 120 ∨ hd0 (L s) = 122
      · have HK : Hid (strV (L s) n = some (rep (n - s.size) (hd0 (L s)) ++ L s)) := by
          unfold strV; rw [if_neg hsn2, if_neg (by rw [len_L]; exact hle), if_pos hx, len_L]; exact rfl
        have he1 := ext1 s hpos
        have HE : Hid (s.extract 0 1 = ⟨#[s[0]]⟩) := he1
        have HZ : Hid ((n : Int) - (s.size : Int) = ((n - s.size : Nat) : Int)) := hz1
        clear hsn2 he1 hz1
        have hor : (((s[0].toNat : Nat) : Int) == 120) = true ∨ ((((s[0].toNat : Nat) : Int) == 120) = false ∧ (((s[0].toNat : Nat) : Int) == 122) = true) := by
          have a1 : (((s[0].toNat : Nat) : Int) == 120) = (hd0 (L s) == 120) := hx1
          have a2 : (((s[0].toNat : Nat) : Int) == 122) = (hd0 (L s) == 122) := hx2
          rw [a1, a2]
          rcases hx with h | h <;> rw [h] <;> decide
        clear hx1 hx2 hx
        have key : Calls Try.prog 95 #[.string (s.extract 0 1), .int .i64 ((n : Int) - (s.size : Int))] w fun e w' => e = .returned (.string (S (rep (n - s.size) (hd0 (L s))))) ∧ Below w.heap.size w w' := by
          rw [HE.out, HZ.out]
          refine (Try.strings_Repeat _ (n - s.size) _ (by omega) (by rw [show (⟨#[s[0]]⟩ : ByteArray).size = 1 from rfl]; omega)).mono ?_
          rintro e w' ⟨rfl, hb⟩
          exact ⟨ret_str (by rw [← headD_at s hpos]; exact repeat_rep _ _), hb⟩
        have hzz : (S (rep (n - s.size) (hd0 (L s)))).size = n - s.size := by rw [size_S, len_rep]
        rcases hor with hor | ⟨hor, hor2⟩
        all_goals
          go_enter Try.func83, Try.ntmps83
          go_wp2_with (first | (go_at_call 95; refine key.mono ?_; rintro e w' ⟨rfl, hb⟩))
          all_goals first
            | (exfalso; omega)
            | (go_ret2; exact ⟨tupSB (by rw [HK.out]; exact ⟨by rw [L_append, L_S]; rfl, rfl⟩), by assumption⟩)
      · have hv : vec (L s) = true := vec_mk (by rw [len_L]; omega) (by rw [len_L]; omega) hb
        obtain ⟨f1, f2⟩ := fit_ok hv h1 h2
        have HK : Hid (strV (L s) n = some (fit (L s) n)) := by
          unfold strV; rw [if_neg hsn2, if_neg (by rw [len_L]; exact hle), if_neg hx]; exact rfl
        have HF : Hid (fitA (L s) n = fit (L s) n) := f1
        clear hsn2 f1
        have a1 : (((s[0].toNat : Nat) : Int) == 120) = false := by
          have a1 : (((s[0].toNat : Nat) : Int) == 120) = (hd0 (L s) == 120) := hx1
          rw [a1, beq_eq_false_iff_ne]; intro h; exact hx (Or.inl h)
        have a2 : (((s[0].toNat : Nat) : Int) == 122) = false := by
          have a1 : (((s[0].toNat : Nat) : Int) == 122) = (hd0 (L s) == 122) := hx2
          rw [a1, beq_eq_false_iff_ne]; intro h; exact hx (Or.inr h)
        clear hx1 hx2 hx hz1
        have hsm : s.size ≤ maxLen := by unfold maxLen; omega
        go_enter Try.func83, Try.ntmps83
        go_wp2_with (first | (go_at_call 97; refine (Fit_c s n _ hsm).mono ?_; rintro e w' ⟨rfl, hb⟩))
        go_ret2
        exact ⟨tupSB (by rw [HK.out]; exact ⟨by rw [L_S, HF.out]; rfl, by simp [f2, oB]⟩), by assumption⟩
end Go.Proofs.Ytnlfepfhabaekaa
