/- Layer 1: of truths. -/
import Derived.Test.YtdacoincdkighaaWF
namespace Go.Proofs.Ytdacoincdkighaa
open Go.RowKit Lg
set_option linter.unusedVariables false

/-- a string of one byte, made out of a slice of it -/
theorem one_c (c : UInt8) (w : World) : (convert 57 9 (.slice (some ⟨w.heap.size, 0, none⟩) 1 1)).run Try.prog (w.alloc (.cells #[.int .u8 c.toNat] 5)) = .ok (.string (S [c])) (w.alloc (.cells #[.int .u8 c.toNat] 5)) := by
  have h := run_convert_bytes_arg (P := Try.prog) (w.alloc (.cells #[.int .u8 c.toNat] 5)) 57 5 Try.underlying57 Try.underlying5 w.heap.size 0 1 1 [(c.toNat : Int)] rfl (fun i hi => by
    obtain rfl : i = 0 := by omega
    rw [World.cell?_alloc_at _ _ _ _ rfl]; rfl) 9 Try.underlying9
  rw [h]; congr 2; apply L_inj; rw [L_S, L, strOfNums_data]; simp

theorem idx_row (t0 t1 t2 t3 : List UInt8) (p : Nat) (hp : p < 4) (w : World) : (Instr.index 73 (row4 t0 t1 t2 t3) (.int .i64 p)).run Try.prog w = .ok (.string (S ([t0, t1, t2, t3].getD p []))) w := by
  rcases (show p = 0 ∨ p = 1 ∨ p = 2 ∨ p = 3 by omega) with rfl | rfl | rfl | rfl
  · kernel_rfl
  · kernel_rfl
  · kernel_rfl
  · kernel_rfl

set_option maxHeartbeats 1000000 in
set_option maxRecDepth 100000 in
theorem ofTruthsAnd_c (s t : ByteArray) (w : World) (hs1 : s.size ≤ maxLen) (hs2 : t.size ≤ maxLen) : Calls Try.prog 65 #[.int .i64 23, .string s, .string t] w fun e w' => e = .returned (.string (S [band (tru (L s)) (tru (L t))])) ∧ Below w.heap.size w w' := by
  have h1 := fun w => one_c (band (tru (L s)) (tru (L t))) w
  obtain ⟨tx, htx⟩ : ∃ tx, tx = S ([[48, 48, 48, 48], [48, 49, 120, 120], [48, 120, 120, 120], [48, 120, 120, 120]].getD (pn ((tru (L s)).toNat : Int)) []) := ⟨_, rfl⟩
  have hz : tx.size = 4 := by rw [htx, size_S, row_len tabAnd _ (pn_lt _)]
  have hA : ∀ w, (Instr.index 73 tAnd (.int .i64 (pn ((tru (L s)).toNat : Int)))).run Try.prog w = .ok (.string tx) w := by
    intro w; rw [htx]; exact idx_row _ _ _ _ _ (pn_lt _) w
  have hp2 : pn ((tru (L t)).toNat : Int) < 4 := pn_lt _
  have hp3 : ((pn ((tru (L t)).toNat : Int) : Nat) : Int) < 4 := by omega
  have hq : pn ((tru (L t)).toNat : Int) < tx.size := by omega
  have hv : tx[pn ((tru (L t)).toNat : Int)] = band (tru (L s)) (tru (L t)) := row_at tabAnd _ _ tx htx hq
  clear htx
  go_enter Try.func65, Try.ntmps65
  go_wp2
  go_region_with (first
    | (go_at_call 73; refine (tableAnd_c _).mono ?_; rintro e w1 ⟨rfl, hb1⟩)
    | (go_at_call 55; refine (truth_c _ _ (by first | exact hs1 | exact hs2)).mono ?_; rintro e w1 ⟨rfl, hb1⟩)
    | (go_at_call 74; refine (place_c _ _).mono ?_; rintro e w1 ⟨rfl, rfl⟩))
  all_goals
    go_wp2
    go_ret
    rename_i wa ha wb hb
    exact ⟨rfl, belA (bel (bel (bel belD ha) hb) hb1) _⟩
set_option maxHeartbeats 1000000 in
set_option maxRecDepth 100000 in
theorem ofTruthsOr_c (s t : ByteArray) (w : World) (hs1 : s.size ≤ maxLen) (hs2 : t.size ≤ maxLen) : Calls Try.prog 65 #[.int .i64 25, .string s, .string t] w fun e w' => e = .returned (.string (S [bor (tru (L s)) (tru (L t))])) ∧ Below w.heap.size w w' := by
  have h1 := fun w => one_c (bor (tru (L s)) (tru (L t))) w
  obtain ⟨tx, htx⟩ : ∃ tx, tx = S ([[48, 49, 120, 120], [49, 49, 49, 49], [120, 49, 120, 120], [120, 49, 120, 120]].getD (pn ((tru (L s)).toNat : Int)) []) := ⟨_, rfl⟩
  have hz : tx.size = 4 := by rw [htx, size_S, row_len tabOr _ (pn_lt _)]
  have hA : ∀ w, (Instr.index 73 tOr (.int .i64 (pn ((tru (L s)).toNat : Int)))).run Try.prog w = .ok (.string tx) w := by
    intro w; rw [htx]; exact idx_row _ _ _ _ _ (pn_lt _) w
  have hp2 : pn ((tru (L t)).toNat : Int) < 4 := pn_lt _
  have hp3 : ((pn ((tru (L t)).toNat : Int) : Nat) : Int) < 4 := by omega
  have hq : pn ((tru (L t)).toNat : Int) < tx.size := by omega
  have hv : tx[pn ((tru (L t)).toNat : Int)] = bor (tru (L s)) (tru (L t)) := row_at tabOr _ _ tx htx hq
  clear htx
  go_enter Try.func65, Try.ntmps65
  go_wp2
  go_region_with (first
    | (go_at_call 73; refine (tableOr_c _).mono ?_; rintro e w1 ⟨rfl, hb1⟩)
    | (go_at_call 55; refine (truth_c _ _ (by first | exact hs1 | exact hs2)).mono ?_; rintro e w1 ⟨rfl, hb1⟩)
    | (go_at_call 74; refine (place_c _ _).mono ?_; rintro e w1 ⟨rfl, rfl⟩))
  all_goals
    go_wp2
    go_ret
    rename_i wa ha wb hb
    exact ⟨rfl, belA (bel (bel (bel belD ha) hb) hb1) _⟩
end Go.Proofs.Ytdacoincdkighaa
