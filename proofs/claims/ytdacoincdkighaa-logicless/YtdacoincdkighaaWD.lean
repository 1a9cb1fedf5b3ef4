/- Layer 1: a table, bit by bit. -/
import Derived.Test.YtdacoincdkighaaWC
import Derived.Test.YtdacoincdkighaaMath2
namespace Go.Proofs.Ytdacoincdkighaa
open Go.RowKit Lg
set_option linter.unusedVariables false

set_option maxHeartbeats 1000000 in
theorem eachBit_c (t0 t1 t2 t3 : List UInt8) (f : UInt8 → UInt8 → UInt8) (ht : Tab t0 t1 t2 t3 f) (s t : ByteArray) (w : World) (hst : s.size = t.size) (hs : s.size ≤ 1000) :
    Calls Try.prog 56 #[row4 t0 t1 t2 t3, .string s, .string t] w fun e w' => e = .returned (.string (S (bitwise f (L s) (L t)))) ∧ Below w.heap.size w w' := by
  have hmk := make_c s.size (by omega)
  have HST : Hid (s.size = t.size) := hst
  have hz1 : s.size ≤ t.size := by omega
  clear hst
  unfold row4
  go_enter Try.func56, Try.ntmps56
  go_wp2
  go_loopw [14] (fun i wr => ∃ k : Nat, k ≤ s.size ∧ i = .int .i64 k ∧ Hid (Below (w.heap.size + 1) (w.alloc (boxT t0 t1 t2 t3)) wr) ∧ Hid (wr.rowIs (w.heap.size + 1) 5 s.size (up (bw f (L s) (L t)) k))) (fun i _ => s.size - (intOf i).toNat)
  case atStart => exact ⟨0, Nat.zero_le _, rfl, (Below.refl _ _).alloc (by simp) _, made_up _ _ _ _ (by simp)⟩
  case round =>
    obtain ⟨k, hk, rfl, hb, hr⟩ := hrel
    by_cases hlt : k < s.size
    · have hlt2 : k < t.size := by omega
      obtain ⟨tx, htx⟩ : ∃ tx, tx = S ([t0, t1, t2, t3].getD (pn (s[k].toNat : Int)) []) := ⟨_, rfl⟩
      have hcell : wr.cell? ⟨w.heap.size, pn (s[k].toNat : Int), none⟩ = some (.string tx) := by rw [htx, hb.out.cell (by simp)]; exact boxT_cell _ _ _ _ _ _ (pn_lt _)
      have hz : tx.size = 4 := by rw [htx, size_S, row_len ht _ (pn_lt _)]
      have hp1 : pn ((s[k].toNat : Nat) : Int) < 4 := pn_lt _
      have hp2 : pn ((t[k].toNat : Nat) : Int) < 4 := pn_lt _
      have hp3 : ((pn ((s[k].toNat : Nat) : Int) : Nat) : Int) < 4 := by omega
      have hp4 : ((pn ((t[k].toNat : Nat) : Int) : Nat) : Int) < 4 := by omega
      have hkI : (k : Int) < (s.size : Int) := by omega
      have hkJ : (k : Int) < (t.size : Int) := by omega
      have HT : Hid (tx = S ([t0, t1, t2, t3].getD (pn (s[k].toNat : Int)) [])) := htx
      have hc1 : wr.cell? ⟨w.heap.size + 1, k, none⟩ = some (.int .u8 0) := by rw [hr.out.cell hlt]; simp [up]
      have hf1 : wr.frozen? ⟨w.heap.size + 1, k, none⟩ = false := hr.out.frozen _
      clear htx
      go_wp2
      go_region_with (go_at_call 74; refine (place_c _ _).mono ?_; rintro e w' ⟨rfl, rfl⟩)
      all_goals go_wp2
      all_goals
        go_roundw
        case rel => exact ⟨k + 1, by omega, by go_num, by repeat (first | exact (hb.out.setCell (by simp) _) | refine Below.drew ?_), (hr.out.set k _).congr (fun j _ => up_step _ k _ (by rw [row_at ht s[k] t[k] tx HT.out, at_getD, at_getD]; rfl) j)⟩
        case measure => simp [intOf]; omega
    · have hcv := conv_c s.size (w.heap.size + 1) (bw f (L s) (L t)) _ wr hr.out (fun j hj => by simp [up]; omega)
      go_wp2
      go_ret
      exact ⟨ret_str (by unfold bitwise; rw [len_L]), ((Below.refl _ _).alloc (Nat.le_refl _) _).trans (hb.out.mono (by omega))⟩
end Go.Proofs.Ytdacoincdkighaa
