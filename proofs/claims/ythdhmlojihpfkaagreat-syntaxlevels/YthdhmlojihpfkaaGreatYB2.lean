/- Layer 2, the reference: the bits of digits. -/
import Derived.Test.YthdhmlojihpfkaaGreatYB
import Derived.Test.YthdhmlojihpfkaaGreatGX
namespace Go.Proofs.YthdhmlojihpfkaaGreat
open Go.RowKit Lg
set_option linter.unusedVariables false
set_option linter.unusedSimpArgs false

set_option maxHeartbeats 4000000 in
theorem digits_b (s : ByteArray) (w : World) (hs : s.size ≤ 2000000) (h0 : s.size ≠ 0) : Calls Tryz.prog 62 #[.int .u8 98, .string s] w fun e w' => e = .returned (.string (S (digL 98 (L s)))) ∧ Below w.heap.size w w' := by
  have hne : ¬ L s = [] := by rw [empty_L]; exact h0
  have hemp : s.toList.isEmpty = false := by rw [toL, List.isEmpty_eq_false_iff]; exact hne
  have HKK : Hid (digL 98 (L s) = oS (cat 1 (L s))) := by unfold digL; rw [if_neg hne]; exact rfl
  obtain ⟨i0, hi0, hz0, hz1, hz2⟩ := infoByte2
  clear hne
  go_enter Tryz.func62, Tryz.ntmps62
  go_wp2
  go_loopw [6, 7, 8] (fun ov iv fv wr => ∃ (i : Nat) (b : List UInt8) (ao : Option Addr) (cap : Nat), i ≤ s.size ∧ iv = .int .i64 i ∧ ov = .slice ao b.length cap ∧ Hid (cat 1 ((L s).take i) = some b) ∧ Hid (wr.ownsRow w.heap.size 5 1 (.slice ao b.length cap) b.length (Lib.byteCells b)) ∧ Hid (Below w.heap.size w wr)) (fun _ iv _ _ => s.size - (intOf iv).toNat)
  case atStart => exact ⟨0, [], none, 0, Nat.zero_le _, rfl, rfl, rfl, World.ownsRow_nil _ _ _ _, Below.refl _ _⟩
  case round =>
    obtain ⟨i, b, ao, cap, hi, rfl, rfl, HC, HO, HB⟩ := hrel
    have hbl := cat_len HC.out
    have hbl2 : b.length ≤ 1 * i := by rw [hbl, List.length_take]; omega
    by_cases hlt : i < s.size
    · have hex := ext_one s i hlt
      have hiI : (i : Int) + 1 ≤ (s.size : Int) := by omega
      have hff : (⟨#[s[i]]⟩ : ByteArray).toList.isEmpty = false := by rw [toL]; rfl
      have hf1 : (⟨#[s[i]]⟩ : ByteArray).size = 1 := rfl
      have hcb : ∀ d : UInt8, (((s[i].toNat : Nat) : Int) != ((d.toNat : Nat) : Int)) = !(s[i] == d) := fun d => by
        show (!(((s[i].toNat : Nat) : Int) == ((d.toNat : Nat) : Int))) = _
        rw [cb]
      by_cases hbit : bitB s[i] = true
      · have hd := dgt1 hbit
        have HC2 : Hid (cat 1 ((L s).take (i + 1)) = some (b ++ [s[i]])) := by rw [take_snoc s i hlt]; exact cat_snoc HC.out hd
        have hcase : s[i] = 48 ∨ s[i] = 49 ∨ s[i] = 120 ∨ s[i] = 122 := by simp [bitB] at hbit; rcases hbit with ((h | h) | h) | h <;> simp [h]
        clear hd hbl hbit
        have hrest : Hid (∀ (w1 w2 : World) (v' : Value), Below wr.heap.size wr w1 → w2.ownsRow w.heap.size 5 1 v' (b.length + 1) (Lib.byteCells b ++ Lib.strCells ⟨#[s[i]]⟩) → w1.grownBy w2 (Value.ownBlock (.slice ao b.length cap)) → ∃ ao2 cap2, v' = .slice ao2 (b ++ [s[i]]).length cap2 ∧ w2.ownsRow w.heap.size 5 1 (.slice ao2 (b ++ [s[i]]).length cap2) (b ++ [s[i]]).length (Lib.byteCells (b ++ [s[i]])) ∧ Below w.heap.size w w2) := by
          intro w1 w2 v' hb hown hgrow
          obtain ⟨ao2, cap2, rfl⟩ := slice_of hown
          refine ⟨ao2, cap2, by rw [List.length_append]; rfl, ?_, (bel HB.out hb).grown hgrow (Nat.le_trans HB.out.size hb.size) (fun k hk => (World.ownsRow.lt HO.out k hk).1)⟩
          rw [List.length_append, byteCells_app]; exact hown
        rcases hcase with h | h | h | h
        · have t48 : (((s[i].toNat : Nat) : Int) != 48) = false := (hcb 48).trans (by rw [h]; rfl)
          clear h hcb
          go_wp2_with (first
            | (go_at_call 83; refine (four_c s[i] _).mono ?_; rintro e w1 ⟨rfl, hb⟩)
            | (at_builtin; refine Lib.wpList_append_own_string _ rfl (.tmp 68) (.tmp 69) 128 9 rfl w.heap.size 5 i0 Tryz.underlying128 Tryz.underlying9 hi0 hz0 hz1 hz2 _ _ _ rfl (owns_keep hb HO.out) ⟨#[s[i]]⟩ rfl ?c30 ?c40 ?c50 ?_))
          case c30 => rw [hf1]; unfold maxLen; omega
          case c40 => rw [hf1]; omega
          case c50 => exact Nat.le_trans HB.out.size hb.size
          intro v' w2 hown hgrow _
          obtain ⟨ao2, cap2, rfl, hown3, hbel⟩ := hrest.out w1 w2 v' hb hown hgrow
          go_wp2
          go_roundw
          case rel => exact ⟨i + 1, b ++ [s[i]], ao2, cap2, by omega, by go_num, rfl, HC2, hown3, hbel⟩
          case measure => simp [intOf]; omega
        · have t48 : (((s[i].toNat : Nat) : Int) != 48) = true := (hcb 48).trans (by rw [h]; rfl)
          have t49 : (((s[i].toNat : Nat) : Int) != 49) = false := (hcb 49).trans (by rw [h]; rfl)
          clear h hcb
          go_wp2_with (first
            | (go_at_call 83; refine (four_c s[i] _).mono ?_; rintro e w1 ⟨rfl, hb⟩)
            | (at_builtin; refine Lib.wpList_append_own_string _ rfl (.tmp 68) (.tmp 69) 128 9 rfl w.heap.size 5 i0 Tryz.underlying128 Tryz.underlying9 hi0 hz0 hz1 hz2 _ _ _ rfl (owns_keep hb HO.out) ⟨#[s[i]]⟩ rfl ?c31 ?c41 ?c51 ?_))
          case c31 => rw [hf1]; unfold maxLen; omega
          case c41 => rw [hf1]; omega
          case c51 => exact Nat.le_trans HB.out.size hb.size
          intro v' w2 hown hgrow _
          obtain ⟨ao2, cap2, rfl, hown3, hbel⟩ := hrest.out w1 w2 v' hb hown hgrow
          go_wp2
          go_roundw
          case rel => exact ⟨i + 1, b ++ [s[i]], ao2, cap2, by omega, by go_num, rfl, HC2, hown3, hbel⟩
          case measure => simp [intOf]; omega
        · have t48 : (((s[i].toNat : Nat) : Int) != 48) = true := (hcb 48).trans (by rw [h]; rfl)
          have t49 : (((s[i].toNat : Nat) : Int) != 49) = true := (hcb 49).trans (by rw [h]; rfl)
          have t120 : (((s[i].toNat : Nat) : Int) != 120) = false := (hcb 120).trans (by rw [h]; rfl)
          clear h hcb
          go_wp2_with (first
            | (go_at_call 83; refine (four_c s[i] _).mono ?_; rintro e w1 ⟨rfl, hb⟩)
            | (at_builtin; refine Lib.wpList_append_own_string _ rfl (.tmp 68) (.tmp 69) 128 9 rfl w.heap.size 5 i0 Tryz.underlying128 Tryz.underlying9 hi0 hz0 hz1 hz2 _ _ _ rfl (owns_keep hb HO.out) ⟨#[s[i]]⟩ rfl ?c32 ?c42 ?c52 ?_))
          case c32 => rw [hf1]; unfold maxLen; omega
          case c42 => rw [hf1]; omega
          case c52 => exact Nat.le_trans HB.out.size hb.size
          intro v' w2 hown hgrow _
          obtain ⟨ao2, cap2, rfl, hown3, hbel⟩ := hrest.out w1 w2 v' hb hown hgrow
          go_wp2
          go_roundw
          case rel => exact ⟨i + 1, b ++ [s[i]], ao2, cap2, by omega, by go_num, rfl, HC2, hown3, hbel⟩
          case measure => simp [intOf]; omega
        · have t48 : (((s[i].toNat : Nat) : Int) != 48) = true := (hcb 48).trans (by rw [h]; rfl)
          have t49 : (((s[i].toNat : Nat) : Int) != 49) = true := (hcb 49).trans (by rw [h]; rfl)
          have t120 : (((s[i].toNat : Nat) : Int) != 120) = true := (hcb 120).trans (by rw [h]; rfl)
          have t122 : (((s[i].toNat : Nat) : Int) != 122) = false := (hcb 122).trans (by rw [h]; rfl)
          clear h hcb
          go_wp2_with (first
            | (go_at_call 83; refine (four_c s[i] _).mono ?_; rintro e w1 ⟨rfl, hb⟩)
            | (at_builtin; refine Lib.wpList_append_own_string _ rfl (.tmp 68) (.tmp 69) 128 9 rfl w.heap.size 5 i0 Tryz.underlying128 Tryz.underlying9 hi0 hz0 hz1 hz2 _ _ _ rfl (owns_keep hb HO.out) ⟨#[s[i]]⟩ rfl ?c33 ?c43 ?c53 ?_))
          case c33 => rw [hf1]; unfold maxLen; omega
          case c43 => rw [hf1]; omega
          case c53 => exact Nat.le_trans HB.out.size hb.size
          intro v' w2 hown hgrow _
          obtain ⟨ao2, cap2, rfl, hown3, hbel⟩ := hrest.out w1 w2 v' hb hown hgrow
          go_wp2
          go_roundw
          case rel => exact ⟨i + 1, b ++ [s[i]], ao2, cap2, by omega, by go_num, rfl, HC2, hown3, hbel⟩
          case measure => simp [intOf]; omega
      · have hd : dgt 1 s[i] = none := dgt1_none (by simpa using hbit)
        have HK : Hid (digL 98 (L s) = []) := by rw [HKK.out, cat_bad s i hlt hd]; exact rfl
        have hb4 : s[i] ≠ 48 ∧ s[i] ≠ 49 ∧ s[i] ≠ 120 ∧ s[i] ≠ 122 := by
          refine ⟨?_, ?_, ?_, ?_⟩ <;> (intro e; rw [e] at hbit; exact hbit rfl)
        have t48 : (((s[i].toNat : Nat) : Int) != 48) = true := (hcb 48).trans (by simpa using hb4.1)
        have t49 : (((s[i].toNat : Nat) : Int) != 49) = true := (hcb 49).trans (by simpa using hb4.2.1)
        have t120 : (((s[i].toNat : Nat) : Int) != 120) = true := (hcb 120).trans (by simpa using hb4.2.2.1)
        have t122 : (((s[i].toNat : Nat) : Int) != 122) = true := (hcb 122).trans (by simpa using hb4.2.2.2)
        clear hd hbl hbit hb4 hcb
        go_wp2_with (first | (go_at_call 83; refine (four_c s[i] _).mono ?_; rintro e w1 ⟨rfl, hb⟩))
        go_ret
        exact ⟨ret_str (by rw [HK.out]; rfl), bel HB.out (by assumption)⟩
    · have hie : i = s.size := by omega
      subst hie
      have hc := HC.out
      rw [take_all s _ (Nat.le_refl _)] at hc
      have hpos : 0 < b.length := by rw [cat_len hc, len_L]; omega
      have HK : Hid (digL 98 (L s) = b) := by rw [HKK.out, hc]; exact rfl
      obtain ⟨g, cp, hv, hg1, hg2, hg3, hg4⟩ := own_some HO.out hpos
      injection hv with hv1 hv2 hv3
      subst hv1
      clear hv2
      subst hv3
      have hcv := conv_own (w := wr) (g := g) (cap := cap) (b := b) rfl hg4
      clear hc hbl
      go_wp2
      go_ret
      exact ⟨ret_str (by rw [HK.out]), HB.out⟩
end Go.Proofs.YthdhmlojihpfkaaGreat
