/- Layer 20: the landed code: the sum of the squares. -/
import Derived.Test.YtiecneefommdlaaFW
namespace Go.Proofs.Ytiecneefommdlaa
set_option maxRecDepth 100000
open Go.RowKit Lg Nl Go.Maps Wf Fl
set_option linter.unusedVariables false
set_option linter.unusedSimpArgs false

set_option maxHeartbeats 400000 in
theorem squares20 (gs : List Int) (v : Value) (m : Nat) (w : World) (h : FAt w v (gs.map fI)) (hp : ∀ g ∈ gs, 0 ≤ g ∧ g ≤ 4611686018427387903) (hn : gs = [] ∨ nanB m = false) (hm : gs.length ≤ 4398046511000) : Calls Try.prog 27 #[v, .float .f64 m] w fun e w' => e = .returned (.float .f64 (sqF m 0 (gs.map fI))) ∧ w' = w := by
  have HL : Hid (gs.length ≤ 4398046511000) := hm
  have HA : Hid (FAt w v (gs.map fI)) := h
  have HP : Hid (∀ g ∈ gs, 0 ≤ g ∧ g ≤ 4611686018427387903) := hp
  have HN : Hid (gs = [] ∨ nanB m = false) := hn
  obtain ⟨al, cl, rfl, _⟩ := h
  obtain ⟨n, hnl⟩ : ∃ n, n = gs.length := ⟨_, rfl⟩
  have hfl : (gs.map fI).length = n := by rw [List.length_map, hnl]
  rw [hfl] at HA ⊢
  have HNL : Hid (n = gs.length) := hnl
  clear hm hp hn hnl hfl
  go_enter Try.func27, Try.ntmps27
  go_wp2
  go_loop [5, 11] (fun s5 s11 => ∃ (j : Nat) (t : Nat), j ≤ n ∧ s11 = .int .i64 j ∧ s5 = .float .f64 t ∧ Hid (t = sqF m 0 ((gs.map fI).take j)) ∧ Hid (Pw t)) (fun s5 s11 => n - (intOf s11).toNat)
  case atStart => exact ⟨0, 0, Nat.zero_le _, rfl, rfl, rfl, Pw_0⟩
  case round =>
    obtain ⟨j, t, hj, rfl, rfl, HT, HPt⟩ := hrel
    by_cases hlt : j < n
    · have hjl : j < gs.length := by rw [← HNL.out]; exact hlt
      have hjm : j < (gs.map fI).length := by rw [List.length_map]; exact hjl
      obtain ⟨g, o, e1, hg, c0⟩ := HA.out.at_ j hjm
      subst e1
      rw [List.getElem_map] at c0
      obtain ⟨p1, p2⟩ := HP.out gs[j] (List.getElem_mem _)
      have hnm : nanB m = false := by
        rcases HN.out with e | e
        · rw [e] at hjl; cases hjl
        · exact e
      obtain ⟨f, q, f1, f2, f3, f4⟩ := sqr_pos p1 p2 hnm
      obtain ⟨r, hr, hrp⟩ := add_pos HPt.out f4
      have HS : Hid (sqF m 0 ((gs.map fI).take (j + 1)) = r) := by
        show sqF m 0 ((gs.map fI).take (j + 1)) = r
        rw [List.take_succ_eq_append_getElem hjm, sqF_snoc, ← HT.out, List.getElem_map, f3, hr]; rfl
      generalize fI gs[j] = x at *
      have hq1 := fun W => run_float_arith (P := Try.prog) W .sub 27 .f64 x m f f1
      have hq2 := fun W => run_float_arith (P := Try.prog) W .mul 27 .f64 f f q f2
      have hq3 := fun W => run_float_arith (P := Try.prog) W .add 27 .f64 t q r hr
      have HR : Hid (Pw r) := hrp
      clear hr hrp f1 f2 f3 f4 p1 p2 hnm hjl hjm
      go_wp2
      go_round
      case rel => exact ⟨j + 1, r, hlt, wrap_succ hlt (by have := HL.out; have := HNL.out; omega), rfl, HS.out.symm, HR⟩
      case measure => exact meas_step hlt (by have := HL.out; have := HNL.out; omega)
    · obtain rfl : j = n := by omega
      have HE : Hid (t = sqF m 0 (gs.map fI)) := by have := HT.out; rwa [List.take_of_length_le (by rw [List.length_map]; have := HNL.out; omega)] at this
      clear hlt
      go_wp2
      go_ret
      exact ⟨congrArg (fun z => Ending.returned (Value.float .f64 z)) HE.out, rfl⟩
end Go.Proofs.Ytiecneefommdlaa
