/- Layer 2, the reference: where a comment ends. -/
import Derived.Test.YthdhmlojihpfkaaGreatYE
import Derived.Test.YthdhmlojihpfkaaGreatGM
namespace Go.Proofs.YthdhmlojihpfkaaGreat
open Go.RowKit Lg
set_option linter.unusedVariables false
set_option linter.unusedSimpArgs false

def not10 (c : UInt8) : Bool := c != 10
theorem ix_tw (l : List UInt8) : (if 0 ≤ Lib.indexByte l 10 then (Lib.indexByte l 10).toNat else l.length) = (l.takeWhile not10).length := by
  induction l with
  | nil => rfl
  | cons c l ih =>
    by_cases hc : c = 10
    · subst hc; simp [Lib.indexByte, List.takeWhile_cons, not10]
    · have h1 : (c == 10) = false := by simpa using hc
      have h2 : not10 c = true := by simpa [not10] using hc
      have hge := Lib.indexByte_ge l 10
      have e : Lib.indexByte (c :: l) 10 = if Lib.indexByte l 10 = -1 then -1 else Lib.indexByte l 10 + 1 := by simp [Lib.indexByte, hc]
      have e2 : ((c :: l).takeWhile not10).length = (l.takeWhile not10).length + 1 := by rw [List.takeWhile_cons, h2]; rfl
      rw [e2, ← ih]
      by_cases h3 : Lib.indexByte l 10 = -1
      · rw [if_pos h3] at e
        rw [if_neg (by omega), if_neg (by omega)]; rfl
      · rw [if_neg h3] at e
        rw [if_pos (by omega), if_pos (by omega)]
        omega
theorem com_line {l : List UInt8} (h : Lib.hasPrefix l [47, 47] = true) : comW l = (l.takeWhile not10).length := by
  unfold comW; rw [if_pos h]; exact ix_tw l
theorem tw_split (q : UInt8 → Bool) (a b : List UInt8) (ha : a.all q = true) : (a ++ b).takeWhile q = a ++ b.takeWhile q := List.takeWhile_append_of_pos (by simpa using ha)
/-- where the comment at a place ends, or -1 -/
def behI (l : List UInt8) (p : Nat) : Int := if comW (l.drop p) = 0 then -1 else ((p + comW (l.drop p) : Nat) : Int)

set_option maxHeartbeats 4000000 in
theorem behind_1 (s : ByteArray) (p : Nat) (w : World) (hs : s.size ≤ 65536) (hp : p < s.size) (h1 : Lib.hasPrefix ((L s).drop p) [47, 47] = true) :
    Calls Tryz.prog 24 #[.string s, .int .i64 p] w fun e w' => e = .returned (.int .i64 (behI (L s) p)) ∧ w' = w := by
  have HB := fun t w ht => begins_c s t p w hs (Nat.le_of_lt hp) ht
  have hcl := com_line h1
  have hc0 : comW ((L s).drop p) ≠ 0 := by
    rw [hcl, drop_cons s p hp]
    have : s[p] = 47 := by
      rw [drop_cons s p hp] at h1
      cases hr : (L s).drop (p + 1) with
      | nil => rw [hr] at h1; simp [Lib.hasPrefix, List.isPrefixOf] at h1
      | cons d r => rw [hr] at h1; simp [Lib.hasPrefix, List.isPrefixOf] at h1; exact h1.1.symm
    rw [this, List.takeWhile_cons]; simp [not10]
  have HK : Hid (behI (L s) p = ((p + (((L s).drop p).takeWhile not10).length : Nat) : Int)) := by unfold behI; rw [if_neg hc0, hcl]; exact rfl
  have HH : Hid _ := h1
  clear hcl hc0 h1
  go_enter Tryz.func24, Tryz.ntmps24
  go_wp2_with (first | (go_at_call 23; refine (HB _ _ (by decide)).mono ?_; rintro e w' ⟨rfl, rfl⟩; rw [show Lib.hasPrefix ((L s).drop p) (L ⟨#[47, 47]⟩) = true from HH.out]))
  go_loop [1] (fun iv => ∃ i : Nat, p ≤ i ∧ i ≤ s.size ∧ iv = .int .i64 i ∧ Hid ((((L s).drop p).take (i - p)).all not10 = true)) (fun iv => s.size - (intOf iv).toNat)
  case atStart => exact ⟨p, Nat.le_refl _, Nat.le_of_lt hp, rfl, by rw [Nat.sub_self]; exact rfl⟩
  case round =>
    obtain ⟨i, hi1, hi2, rfl, HA⟩ := hrel
    by_cases hlt : i < s.size
    · have hdd : (L s).drop p = ((L s).drop p).take (i - p) ++ s[i] :: (L s).drop (i + 1) := by
        have h2 : ((L s).drop p).drop (i - p) = s[i] :: (L s).drop (i + 1) := by rw [List.drop_drop, show p + (i - p) = i by omega]; exact drop_cons s i hlt
        rw [← h2, List.take_append_drop]
      have hlen : (((L s).drop p).take (i - p)).length = i - p := by rw [List.length_take, List.length_drop, len_L]; omega
      by_cases hc : s[i] = 10
      · have hcb : (((s[i].toNat : Nat) : Int) != 10) = false := by show (!(((s[i].toNat : Nat) : Int) == 10)) = false; rw [hc]; rfl
        have HE : Hid (p + (((L s).drop p).takeWhile not10).length = i) := by
          rw [hdd, tw_split _ _ _ HA.out, List.takeWhile_cons, hc, List.length_append, hlen]
          simp [not10, Hid]; omega
        clear hdd hlen hc
        go_wp2
        go_ret
        exact ⟨ret_int (by rw [HK.out, HE.out]), rfl⟩
      · have hcb : (((s[i].toNat : Nat) : Int) != 10) = true := by show (!(((s[i].toNat : Nat) : Int) == 10)) = true; rw [show (((s[i].toNat : Nat) : Int) == 10) = false from (cb s[i] 10).trans (by simpa using hc)]; rfl
        have HN : Hid ((((L s).drop p).take (i + 1 - p)).all not10 = true) := by
          rw [show i + 1 - p = (i - p) + 1 by omega, List.take_add_one, List.all_append, HA.out, List.getElem?_drop, show p + (i - p) = i by omega, List.getElem?_eq_getElem (by rw [len_L]; exact hlt)]
          show (true && not10 s[i] && true) = true
          simpa [not10] using hc
        clear hdd hlen hc
        go_wp2
        go_round
        case rel => exact ⟨i + 1, by omega, by omega, by go_num, HN⟩
        case measure => simp [intOf]; omega
    · have HE : Hid (p + (((L s).drop p).takeWhile not10).length = i) := by
        have := HA.out
        rw [List.take_of_length_le (by rw [List.length_drop, len_L]; omega)] at this
        have e := tw_split not10 ((L s).drop p) [] this
        rw [List.append_nil, List.takeWhile_nil, List.append_nil] at e
        rw [e, List.length_drop, len_L]
        show _ = _
        omega
      go_wp2
      go_ret
      exact ⟨ret_int (by rw [HK.out, HE.out]), rfl⟩
end Go.Proofs.YthdhmlojihpfkaaGreat
