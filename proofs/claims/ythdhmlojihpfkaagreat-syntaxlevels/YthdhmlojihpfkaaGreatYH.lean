/- Layer 2, the reference: where a comment of the other kind ends. -/
import Derived.Test.YthdhmlojihpfkaaGreatYG
namespace Go.Proofs.YthdhmlojihpfkaaGreat
open Go.RowKit Lg
set_option linter.unusedVariables false
set_option linter.unusedSimpArgs false

set_option maxHeartbeats 4000000 in
theorem behind_2 (s : ByteArray) (p : Nat) (w : World) (hs : s.size ≤ 65536) (hp : p < s.size) (h1 : Lib.hasPrefix ((L s).drop p) [47, 47] = false) (h2 : Lib.hasPrefix ((L s).drop p) [47, 42] = true) :
    Calls Tryz.prog 24 #[.string s, .int .i64 p] w fun e w' => e = .returned (.int .i64 (behI (L s) p)) ∧ w' = w := by
  have HB := fun t q w hq ht => begins_c s t q w hs hq ht
  have hlen : p + 2 ≤ s.size := by
    rcases Nat.lt_or_ge s.size (p + 2) with g | g
    · rw [pre_short _ _ (by rw [List.length_drop, len_L]; simp; omega)] at h2; cases h2
    · exact g
  have hcw : comW ((L s).drop p) = if 0 ≤ Lib.index ((L s).drop (p + 2)) [42, 47] then 2 + (Lib.index ((L s).drop (p + 2)) [42, 47]).toNat + 2 else 0 := by
    unfold comW; rw [if_neg (by rw [h1]; simp), if_pos h2, List.drop_drop]
  have HCW : Hid _ := hcw
  have H1 : Hid _ := h1
  have H2 : Hid _ := h2
  clear hcw h1 h2
  go_enter Tryz.func24, Tryz.ntmps24
  go_wp2_with (first
    | (go_at_call_of 23 (Value.string ⟨#[47, 47]⟩); refine (HB _ p _ (Nat.le_of_lt hp) (by decide)).mono ?_; rintro e w' ⟨rfl, rfl⟩; rw [show Lib.hasPrefix ((L s).drop p) (L ⟨#[47, 47]⟩) = false from H1.out])
    | (go_at_call 23; refine (HB _ p _ (Nat.le_of_lt hp) (by decide)).mono ?_; rintro e w' ⟨rfl, rfl⟩; rw [show Lib.hasPrefix ((L s).drop p) (L ⟨#[47, 42]⟩) = true from H2.out]))
  go_loop [5] (fun iv => ∃ i : Nat, p + 2 ≤ i ∧ i ≤ s.size ∧ iv = .int .i64 i ∧ Hid (∀ j, p + 2 ≤ j → j < i → Lib.hasPrefix ((L s).drop j) [42, 47] = false)) (fun iv => s.size - (intOf iv).toNat)
  case atStart => exact ⟨p + 2, Nat.le_refl _, hlen, by go_num, fun j a b => by omega⟩
  case round =>
    obtain ⟨i, hi1, hi2, rfl, HA⟩ := hrel
    by_cases hlt : i < s.size
    · cases hb : Lib.hasPrefix ((L s).drop i) [42, 47] with
      | true =>
        have hix : Lib.index ((L s).drop (p + 2)) [42, 47] = ((i - (p + 2) : Nat) : Int) := by
          refine Lib.index_first (by rw [List.length_drop, len_L]; omega) ?_ ?_
          · show List.isPrefixOf _ _ = true
            rw [List.drop_drop, show p + 2 + (i - (p + 2)) = i by omega]; exact hb
          · intro j hj
            show List.isPrefixOf _ _ = false
            rw [List.drop_drop]; exact HA.out (p + 2 + j) (by omega) (by omega)
        have HK : Hid (behI (L s) p = (i : Int) + 2) := by
          have e := HCW.out
          rw [hix, if_pos (by omega), Int.toNat_natCast] at e
          unfold behI
          rw [e, if_neg (by omega)]
          show ((p + (2 + (i - (p + 2)) + 2) : Nat) : Int) = (i : Int) + 2
          omega
        clear hix
        go_wp2_with (first | (go_at_call 23; refine (HB _ i _ (Nat.le_of_lt hlt) (by decide)).mono ?_; rintro e w' ⟨rfl, rfl⟩; rw [show Lib.hasPrefix ((L s).drop i) (L ⟨#[42, 47]⟩) = true from hb]))
        go_ret
        exact ⟨ret_int (by rw [HK.out]), rfl⟩
      | false =>
        have HN : Hid (∀ j, p + 2 ≤ j → j < i + 1 → Lib.hasPrefix ((L s).drop j) [42, 47] = false) := by
          intro j a b
          rcases Nat.lt_or_ge j i with g | g
          · exact HA.out j a g
          · obtain rfl : j = i := by omega
            exact hb
        go_wp2_with (first | (go_at_call 23; refine (HB _ i _ (Nat.le_of_lt hlt) (by decide)).mono ?_; rintro e w' ⟨rfl, rfl⟩; rw [show Lib.hasPrefix ((L s).drop i) (L ⟨#[42, 47]⟩) = false from hb]))
        go_round
        case rel => exact ⟨i + 1, by omega, by omega, by go_num, HN⟩
        case measure => simp [intOf]; omega
    · have hix : Lib.index ((L s).drop (p + 2)) [42, 47] = -1 := by
        refine Lib.index_none fun j hj => ?_
        show List.isPrefixOf _ _ = false
        rw [List.drop_drop]
        rw [List.length_drop, len_L] at hj
        rcases Nat.lt_or_ge (p + 2 + j) i with g | g
        · exact HA.out (p + 2 + j) (by omega) g
        · rw [drop_all s (p + 2 + j) (by omega)]; rfl
      have HK : Hid (behI (L s) p = -1) := by
        have e := HCW.out
        rw [hix, if_neg (by omega)] at e
        unfold behI; rw [if_pos e]; exact rfl
      clear hix
      go_wp2
      go_ret
      exact ⟨ret_int (by rw [HK.out]), rfl⟩
end Go.Proofs.YthdhmlojihpfkaaGreat
