/- Layer 1: what operators answer of vectors, in short; and what is known. -/
import Derived.Test.YtdacoincdkighaaWX
import Derived.Test.YtdacoincdkighaaMath8
namespace Go.Proofs.Ytdacoincdkighaa
open Go.RowKit Lg
set_option linter.unusedVariables false

theorem vec_max {s : ByteArray} (h : vec (L s) = true) : s.size ≤ maxLen := by have := vec_len h; rw [len_L] at this; unfold maxLen; omega
theorem Unary_ok (op : Int) (s : ByteArray) (w : World) (hv : vec (L s) = true) (h1 : 7 ≤ op) (h2 : op ≤ 12) : Calls Try.prog 20 #[.int .i64 op, .string s] w fun e w' => e = .returned (.tuple #[.string (S (unaL op (L s))), .int .i64 0]) ∧ Below w.heap.size w w' := by
  refine (Unary_c op s w (vec_max hv)).mono ?_
  rintro e w' ⟨rfl, hb⟩
  exact ⟨(tup2 ⟨(unaA_ok h1 h2 hv).1.symm, (unaA_ok h1 h2 hv).2.symm⟩), hb⟩
theorem Binary_ok (op : Int) (s t : ByteArray) (w : World) (hv : vec (L s) = true) (hu : vec (L t) = true) (h1 : 13 ≤ op) (h2 : op ≤ 27) : Calls Try.prog 16 #[.int .i64 op, .string s, .string t] w fun e w' => e = .returned (.tuple #[.string (S (binL op (L s) (L t))), .int .i64 0]) ∧ Below w.heap.size w w' := by
  have h : (vec (L s) && vec (L t)) = true := by rw [hv, hu]; rfl
  refine (Binary_c op s t w (vec_max hv) (vec_max hu)).mono ?_
  rintro e w' ⟨rfl, hb⟩
  exact ⟨(tup2 ⟨(binA_ok h1 h2 h).1.symm, (binA_ok h1 h2 h).2.symm⟩), hb⟩

set_option maxHeartbeats 1000000 in
theorem knows_c (s t : ByteArray) (w : World) (hs : s.size ≤ 1000) (h : Kn (L s) (L t)) : Calls Try.prog 37 #[.string s, .string t] w fun e w' => e = .returned (.bool true) ∧ Below w.heap.size w w' := by
  have hst : s.size = t.size := by rw [← len_L, ← len_L]; exact h.1
  have hz : s.size ≤ t.size := by omega
  have hne : ((s.size : Int) != (t.size : Int)) = false := by simp [hst]
  have HK : Hid (∀ i (h1 : i < s.size) (h2 : i < t.size), s[i] = 120 ∨ s[i] = t[i]) := fun i h1 h2 => by
    have := h.2 i (by rw [len_L]; exact h1)
    rw [at_getD, at_getD]; exact this
  clear h hst
  go_enter Try.func37, Try.ntmps37
  go_wp2
  go_loopw [5] (fun i wr => ∃ k : Nat, k ≤ s.size ∧ i = .int .i64 k ∧ Hid (Below w.heap.size w wr)) (fun i _ => s.size - (intOf i).toNat)
  case atStart => exact ⟨0, Nat.zero_le _, rfl, Below.refl _ _⟩
  case round =>
    obtain ⟨k, hk, rfl, hb⟩ := hrel
    by_cases hlt : k < s.size
    · have hlt2 : k < t.size := by omega
      have hkI : (k : Int) < (s.size : Int) := by omega
      have hkJ : (k : Int) < (t.size : Int) := by omega
      by_cases c1 : s[k] = 120
      · have q1 : ((s[k].toNat : Nat) : Int) = 120 := (i120 _).2 c1
        clear c1
        go_wp2
        go_quiet (fail)
        go_wp2
        go_roundw
        case rel => exact ⟨k + 1, by omega, by go_num, below_drewN hb.out _⟩
        case measure => simp [intOf]; omega
      · have c2 : s[k] = t[k] := (HK.out k hlt hlt2).resolve_left c1
        have q1 : (((s[k].toNat : Nat) : Int) != 120) = true := by rw [bne_iff_ne]; exact fun h => c1 ((i120 _).1 h)
        have q2 : (((s[k].toNat : Nat) : Int) != ((t[k].toNat : Nat) : Int)) = false := by rw [c2]; simp
        clear c1 c2
        go_wp2
        go_quiet (fail)
        go_wp2
        go_roundw
        case rel => exact ⟨k + 1, by omega, by go_num, below_drewN hb.out _⟩
        case measure => simp [intOf]; omega
    · go_wp2
      go_ret
      exact ⟨rfl, hb.out⟩
end Go.Proofs.Ytdacoincdkighaa
