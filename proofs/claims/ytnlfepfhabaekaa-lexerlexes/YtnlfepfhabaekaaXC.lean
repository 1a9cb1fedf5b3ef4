/- Layer 2 of the program: digits, and numbers by a base. -/
import Derived.Test.YtnlfepfhabaekaaXB
import Derived.Lib.Builder
import Derived.Lib.AppendIntMem
namespace Go.Proofs.Ytnlfepfhabaekaa
open Go.RowKit Lg
set_option linter.unusedVariables false
set_option linter.unusedSimpArgs false

theorem lays166 : Lays.n166 Try.prog Try.lays105_ren := { Try.lays105 with }
theorem write_c (B b : Nat) (bs : List Value) (s : ByteArray) (w : World) (h : Lib.IsBuilder 105 5 B b bs w) (hlen : bs.length + s.size ≤ 140737488355328) (hBw : B ≤ w.heap.size) :
    Calls Try.prog 82 #[.pointer (some ⟨b, 0, none⟩), .string s] w fun e w' => e = .returned (.tuple #[.int .i64 s.size, .nilIface]) ∧ (Lib.BuilderAt 105 5 B b (.pointer (some ⟨b, 0, none⟩)) (bs ++ Lib.strCells s) w' ∧ Below B w w') :=
  Any.Builder_WriteString lays166 Try.Builder_Extra_105 B b bs s w h hlen hBw

theorem tupSB {s : ByteArray} {t : List UInt8} {b d : Bool} (h : t = L s ∧ d = b) : Ending.returned (.tuple #[.string s, .bool b]) = .returned (.tuple #[.string (S t), .bool d]) := by rw [h.1, h.2, S_L]
theorem conv120 (w : World) : (convert 5 9 (.int .u8 120)).run Try.prog w = .ok (.string ⟨#[120]⟩) w := by kernel_rfl
theorem conv122 (w : World) : (convert 5 9 (.int .u8 122)).run Try.prog w = .ok (.string ⟨#[122]⟩) w := by kernel_rfl
theorem ofL_ok (n k : Nat) (h1 : 1 ≤ k) (h2 : k ≤ 256) : ofA n k = ofL n k ∧ ofE n k = 0 := by
  unfold ofA ofE; rw [if_neg (by omega), if_neg (by omega)]; exact ⟨rfl, rfl⟩
theorem rep_L (s : ByteArray) (c : UInt8) (n : Nat) (h : s = ⟨(Lib.repeatL [c] n).toArray⟩) : L s = rep n c := by rw [h, repeat_rep, L_S]

theorem hex_none {c : UInt8} (h : hexV c = none) : digB c = false ∧ ((c.toNat : Int) < 97 ∨ 102 < (c.toNat : Int)) ∧ ((c.toNat : Int) < 65 ∨ 70 < (c.toNat : Int)) := by
  unfold hexV at h
  split at h
  · cases h
  · split at h
    · cases h
    · split at h
      · cases h
      · exact ⟨by simp_all, by omega, by omega⟩
theorem byte_of {c : UInt8} (n : Nat) (d : UInt8) (h : c.toNat = n) (hd : d.toNat = n) : c = d := by rw [← UInt8.toNat_inj, h, hd]
theorem hex_some {c : UInt8} {n : Nat} (h : hexV c = some n) : c = 48 ∨ c = 49 ∨ c = 50 ∨ c = 51 ∨ c = 52 ∨ c = 53 ∨ c = 54 ∨ c = 55 ∨ c = 56 ∨ c = 57 ∨ c = 97 ∨ c = 98 ∨ c = 99 ∨ c = 100 ∨ c = 101 ∨ c = 102 ∨ c = 65 ∨ c = 66 ∨ c = 67 ∨ c = 68 ∨ c = 69 ∨ c = 70 := by
  have h2 : (48 ≤ c.toNat ∧ c.toNat ≤ 57) ∨ (97 ≤ c.toNat ∧ c.toNat ≤ 102) ∨ (65 ≤ c.toNat ∧ c.toNat ≤ 70) := by
    unfold hexV at h
    split at h
    · rename_i h1; simp [digB] at h1; exact Or.inl h1
    · split at h
      · rename_i h1; exact Or.inr (Or.inl h1)
      · split at h
        · rename_i h1; exact Or.inr (Or.inr h1)
        · cases h
  simp only [← UInt8.toNat_inj]
  simp
  omega
theorem toI (c : UInt8) (d : UInt8) : ((c.toNat : Int) = (d.toNat : Int)) ↔ c = d := by rw [← UInt8.toNat_inj]; omega

set_option maxHeartbeats 4000000 in
theorem digitBits_x (c : UInt8) (k : Nat) (w : World) (hk : k ≤ 4) (hc : c = 120 ∨ c = 122) :
    Calls Try.prog 81 #[.int .u8 c.toNat, .int .i64 k] w fun e w' => e = .returned (.tuple #[.string (S (oS (dgt k c))), .bool (oB (dgt k c))]) ∧ Below w.heap.size w w' := by
  have HD : Hid (dgt k c = some (rep k c)) := by unfold dgt; rw [if_pos hc]; exact rfl
  rcases hc with rfl | rfl
  · have hcv := conv120
    go_enter Try.func81, Try.ntmps81
    go_wp2_with (first | (go_at_call 95; refine (Try.strings_Repeat _ k _ (by omega) (by simp [ByteArray.size]; omega)).mono ?_; rintro e w' ⟨rfl, hb⟩))
    go_ret2
    exact ⟨tupSB (by rw [HD.out]; exact ⟨(rep_L _ 120 k rfl).symm, rfl⟩), by assumption⟩
  · have hcv := conv122
    go_enter Try.func81, Try.ntmps81
    go_wp2_with (first | (go_at_call 95; refine (Try.strings_Repeat _ k _ (by omega) (by simp [ByteArray.size]; omega)).mono ?_; rintro e w' ⟨rfl, hb⟩))
    go_ret2
    exact ⟨tupSB (by rw [HD.out]; exact ⟨(rep_L _ 122 k rfl).symm, rfl⟩), by assumption⟩

end Go.Proofs.Ytnlfepfhabaekaa
