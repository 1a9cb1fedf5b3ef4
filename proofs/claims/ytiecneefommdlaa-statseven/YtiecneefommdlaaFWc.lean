/- Layer 20: the landed code: the least and the greatest one. -/
import Derived.Test.YtiecneefommdlaaFW
import Derived.Test.YtiecneefommdlaaFWb
namespace Go.Proofs.Ytiecneefommdlaa
set_option maxRecDepth 100000
open Go.RowKit Lg Nl Go.Maps Wf Fl
set_option linter.unusedVariables false
set_option linter.unusedSimpArgs false

set_option maxHeartbeats 400000 in
theorem ends20 (l : List Nat) (v : Value) (w : World) (h : FAt w v l) (hp : ∀ x ∈ l, Pw x) (hm : l.length ≤ 4398046511000) : Calls Try.prog 28 #[v] w fun e w' => e = .returned (.tuple #[.float .f64 (leF (infW false) l), .float .f64 (moF (infW true) l)]) ∧ w' = w := by
  have HL : Hid (l.length ≤ 4398046511000) := hm
  have HA : Hid (FAt w v l) := h
  have HP : Hid (∀ x ∈ l, Pw x) := hp
  have HI1 : Hid _ := inf20 false
  have HI2 : Hid _ := inf20 true
  simp only [Bool.false_eq_true, if_false, if_true] at HI1 HI2
  obtain ⟨al, cl, rfl, _⟩ := h
  clear hm hp
  go_enter Try.func28, Try.ntmps28
  go_wp2_with (first
    | (go_at_call_of 40 (Value.int IntKind.i64 1); refine (HI1.out _).mono ?_; rintro e w' ⟨rfl, rfl⟩)
    | (go_at_call 40; refine (HI2.out _).mono ?_; rintro e w' ⟨rfl, rfl⟩))
  go_loop [2, 3, 10] (fun s2 s3 s10 => ∃ (j : Nat) (a b : Nat), j ≤ l.length ∧ s10 = .int .i64 j ∧ s2 = .float .f64 a ∧ s3 = .float .f64 b ∧ Hid (a = leF (infW false) (l.take j)) ∧ Hid (b = moF (infW true) (l.take j)) ∧ Hid (Pw a) ∧ Hid (b = infW true ∨ Pw b)) (fun s2 s3 s10 => l.length - (intOf s10).toNat)
  case atStart => exact ⟨0, _, _, Nat.zero_le _, rfl, rfl, rfl, rfl, rfl, Nat.le_refl _, Or.inl rfl⟩
  case round =>
    obtain ⟨j, a, b, hj, rfl, rfl, rfl, HTa, HTb, HPa, HPb⟩ := hrel
    by_cases hlt : j < l.length
    · obtain ⟨g, o, e1, hg, c0⟩ := HA.out.at_ j hlt
      subst e1
      have hx := HP.out l[j] (List.getElem_mem _)
      have HSa : Hid (leF (infW false) (l.take (j + 1)) = if FloatKind.f64.format.order l[j] a == some .lt then l[j] else a) := by
        show _ = _
        rw [List.take_succ_eq_append_getElem hlt, leF_snoc, ← HTa.out]
      have HSb : Hid (moF (infW true) (l.take (j + 1)) = if FloatKind.f64.format.order l[j] b == some .gt then l[j] else b) := by
        show _ = _
        rw [List.take_succ_eq_append_getElem hlt, moF_snoc, ← HTb.out]
      have hq1 := fun ts t W => run_minF (P := Try.prog) ts t HPa.out hx W
      have hq2 := fun ts t W => run_maxF (P := Try.prog) ts t HPb.out hx W
      have HX : Hid (Pw l[j]) := hx
      clear hx
      generalize l[j] = x at *
      obtain ⟨a', ha'⟩ : ∃ a', a' = if FloatKind.f64.format.order x a == some .lt then x else a := ⟨_, rfl⟩
      obtain ⟨b', hb'⟩ : ∃ b', b' = if FloatKind.f64.format.order x b == some .gt then x else b := ⟨_, rfl⟩
      rw [← ha'] at HSa hq1
      rw [← hb'] at HSb hq2
      have HA' : Hid (Pw a') := by
        show Pw a'
        rw [ha']
        split
        · exact HX.out
        · exact HPa.out
      have HB' : Hid (b' = infW true ∨ Pw b') := by
        show b' = infW true ∨ Pw b'
        rw [hb']
        split
        · exact Or.inr HX.out
        · exact HPb.out
      clear ha' hb'
      go_wp2
      go_round
      case rel => exact ⟨j + 1, a', b', hlt, wrap_succ hlt (Nat.le_trans HL.out (by decide)), rfl, rfl, HSa.out.symm, HSb.out.symm, HA', HB'⟩
      case measure => exact meas_step hlt (Nat.le_trans HL.out (by decide))
    · obtain rfl : j = l.length := by omega
      have HE1 : Hid (a = leF (infW false) l) := by have := HTa.out; rwa [List.take_length] at this
      have HE2 : Hid (b = moF (infW true) l) := by have := HTb.out; rwa [List.take_length] at this
      clear hlt
      go_wp2
      go_ret2
      exact ⟨by rw [HE1.out, HE2.out]; rfl, rfl⟩
end Go.Proofs.Ytiecneefommdlaa
