/- Layer 20: the landed code: sums, squares, the least and the greatest one. -/
import Derived.Test.YtiecneefommdlaaFV
namespace Go.Proofs.Ytiecneefommdlaa
set_option maxRecDepth 100000
open Go.RowKit Lg Nl Go.Maps Wf Fl
set_option linter.unusedVariables false
set_option linter.unusedSimpArgs false

namespace Fl
theorem sumF_snoc (a : Nat) (l : List Nat) (x : Nat) : sumF a (l ++ [x]) = (floatBits .add .f64 (sumF a l) x).getD 0 := by unfold sumF; rw [List.foldl_append]; rfl
theorem sqF_snoc (m a : Nat) (l : List Nat) (x : Nat) : sqF m a (l ++ [x]) = (floatBits .add .f64 (sqF m a l) (sqrF x m)).getD 0 := by unfold sqF; rw [List.foldl_append]; rfl
theorem leF_snoc (a : Nat) (l : List Nat) (x : Nat) : leF a (l ++ [x]) = if FloatKind.f64.format.order x (leF a l) == some .lt then x else leF a l := by unfold leF; rw [List.foldl_append]; rfl
theorem moF_snoc (a : Nat) (l : List Nat) (x : Nat) : moF a (l ++ [x]) = if FloatKind.f64.format.order x (moF a l) == some .gt then x else moF a l := by unfold moF; rw [List.foldl_append]; rfl
theorem Pw_0 : Pw 0 := Nat.zero_le _
end Fl
theorem meas_step {j n : Nat} (h : j < n) (hn : n ≤ 140737488355328) : n - (intOf (Value.int .i64 (wrap64 ((j : Int) + 1)))).toNat < n - (intOf (Value.int .i64 (j : Int))).toNat := by
  rw [wrap_le h hn]
  show n - ((j + 1 : Nat) : Int).toNat < n - ((j : Nat) : Int).toNat
  omega
set_option maxHeartbeats 400000 in
theorem sum20 (l : List Nat) (v : Value) (w : World) (h : FAt w v l) (hp : ∀ x ∈ l, Pw x) (hm : l.length ≤ 4398046511000) : Calls Try.prog 26 #[v] w fun e w' => e = .returned (.float .f64 (sumF 0 l)) ∧ w' = w := by
  have HL : Hid (l.length ≤ 4398046511000) := hm
  have HA : Hid (FAt w v l) := h
  have HP : Hid (∀ x ∈ l, Pw x) := hp
  obtain ⟨al, cl, rfl, _⟩ := h
  clear hm hp
  go_enter Try.func26, Try.ntmps26
  go_wp2
  go_loop [3, 8] (fun s3 s8 => ∃ (j : Nat) (t : Nat), j ≤ l.length ∧ s8 = .int .i64 j ∧ s3 = .float .f64 t ∧ Hid (t = sumF 0 (l.take j)) ∧ Hid (Pw t)) (fun s3 s8 => l.length - (intOf s8).toNat)
  case atStart => exact ⟨0, 0, Nat.zero_le _, rfl, rfl, rfl, Pw_0⟩
  case round =>
    obtain ⟨j, t, hj, rfl, rfl, HT, HPt⟩ := hrel
    by_cases hlt : j < l.length
    · obtain ⟨g, o, e1, hg, c0⟩ := HA.out.at_ j hlt
      subst e1
      obtain ⟨r, hr, hrp⟩ := add_pos HPt.out (HP.out l[j] (List.getElem_mem _))
      have HS : Hid (sumF 0 (l.take (j + 1)) = r) := by
        show sumF 0 (l.take (j + 1)) = r
        rw [List.take_succ_eq_append_getElem hlt, sumF_snoc, ← HT.out, hr]; rfl
      generalize l[j] = x at *
      have hq := fun W => run_float_arith (P := Try.prog) W .add 27 .f64 t x r hr
      have HR : Hid (Pw r) := hrp
      clear hr hrp
      go_wp2
      go_round
      case rel => exact ⟨j + 1, r, hlt, wrap_succ hlt (Nat.le_trans HL.out (by decide)), rfl, HS.out.symm, HR⟩
      case measure => exact meas_step hlt (Nat.le_trans HL.out (by decide))
    · obtain rfl : j = l.length := by omega
      have HE : Hid (t = sumF 0 l) := by have := HT.out; rwa [List.take_length] at this
      clear hlt
      go_wp2
      go_ret
      exact ⟨congrArg (fun z => Ending.returned (Value.float .f64 z)) HE.out, rfl⟩
end Go.Proofs.Ytiecneefommdlaa
