/- Layer 2, the reference: the sign at a place. -/
import Derived.Test.YthdhmlojihpfkaaGreatYE
namespace Go.Proofs.YthdhmlojihpfkaaGreat
open Go.RowKit Lg
set_option linter.unusedVariables false
set_option linter.unusedSimpArgs false

def twoRow : Array Value := #[.string ⟨#[38, 38]⟩, .string ⟨#[124, 124]⟩, .string ⟨#[61, 61]⟩, .string ⟨#[33, 61]⟩, .string ⟨#[60, 61]⟩, .string ⟨#[62, 61]⟩, .string ⟨#[60, 60]⟩, .string ⟨#[62, 62]⟩]
/-- the sign that bytes begin with; none: there is none -/
def sgS (l : List UInt8) : List UInt8 := if twos.contains (l.take 2) then l.take 2 else if sgnB (hd0 l) then [hd0 l] else []
theorem two_pre (l : List UInt8) : twos.contains (l.take 2) = twos.any (fun t => Lib.hasPrefix l t) := by
  have h : ∀ t ∈ twos, Lib.hasPrefix l t = (l.take 2 == t) := by
    intro t ht
    have hl : t.length = 2 := by
      simp [twos] at ht
      rcases ht with rfl | rfl | rfl | rfl | rfl | rfl | rfl | rfl <;> rfl
    rcases Nat.lt_or_ge l.length 2 with g | g
    · rw [pre_short l t (by omega)]
      symm
      rw [beq_eq_false_iff_ne]
      intro e
      have := congrArg List.length e
      rw [List.length_take] at this; omega
    · rw [pre_take l t (by omega), hl]
  rw [Bool.eq_iff_iff, List.contains_iff_exists_mem_beq, List.any_eq_true]
  constructor
  · rintro ⟨t, ht, e⟩; exact ⟨t, ht, by rw [h t ht]; exact e⟩
  · rintro ⟨t, ht, e⟩; exact ⟨t, ht, by rw [h t ht] at e; exact e⟩
theorem pre2_take {l : List UInt8} {x y : UInt8} (h : Lib.hasPrefix l [x, y] = true) : l.take 2 = [x, y] := by
  match l, h with
  | [], h => simp [Lib.hasPrefix] at h
  | [a], h => simp [Lib.hasPrefix, List.isPrefixOf] at h
  | a :: b :: r, h => simp [Lib.hasPrefix, List.isPrefixOf] at h; rw [h.1, h.2]; rfl
def ones : ByteArray := ⟨#[40, 41, 91, 93, 123, 125, 44, 59, 58, 46, 35, 64, 63, 43, 45, 126, 33, 38, 124, 94, 61, 60, 62, 42]⟩
theorem ones_L : L ones = signs := rfl
theorem sgn_at (i : Nat) (h : i < ones.size) : sgnB ones[i] = true := by
  unfold sgnB
  rw [← ones_L, List.contains_iff_exists_mem_beq]
  exact ⟨ones[i], by rw [← L_get ones i h]; exact List.getElem_mem _, by simp⟩
theorem sgn_none (c : UInt8) (h : ∀ i, (hi : i < ones.size) → ones[i] ≠ c) : sgnB c = false := by
  rw [Bool.eq_false_iff]
  intro e
  unfold sgnB at e
  rw [← ones_L, List.contains_iff_exists_mem_beq] at e
  obtain ⟨x, hx, e⟩ := e
  have e2 : c = x := by simpa using e
  obtain ⟨i, hi, rfl⟩ := List.getElem_of_mem hx
  rw [len_L] at hi
  exact h i hi e2.symm

set_option maxRecDepth 100000 in
set_option maxHeartbeats 8000000 in
theorem sign_c (s : ByteArray) (p : Nat) (w : World) (hs : s.size ≤ 65536) (hp : p < s.size) :
    Calls Tryz.prog 48 #[.string s, .int .i64 p] w fun e w' => e = .returned (.string (S (sgS ((L s).drop p)))) ∧ Below w.heap.size w w' := by
  obtain ⟨l, hl⟩ : ∃ l, l = (L s).drop p := ⟨_, rfl⟩
  have HB := fun t w ht => begins_c s t p w hs (Nat.le_of_lt hp) ht
  have hhd : hd0 l = s[p] := by rw [hl, drop_cons s p hp]; rfl
  rw [← hl] at HB ⊢
  clear hl
  have hbel : ∀ o, Below w.heap.size w (w.alloc o) := fun o => belA (Below.refl _ _) o
  have HBE : Hid _ := hbel
  have HHD : Hid _ := hhd
  clear hbel hhd
  go_enter Tryz.func48, Tryz.ntmps48
  go_wp2
  go_loop [6] (fun iv => ∃ i : Nat, i ≤ 8 ∧ iv = .int .i64 i ∧ Hid ((twos.take i).any (fun t => Lib.hasPrefix l t) = false)) (fun iv => 8 - (intOf iv).toNat)
  case atStart => exact ⟨0, by omega, rfl, rfl⟩
  case round =>
    obtain ⟨i, hi, rfl, HF⟩ := hrel
    have hii : i = 0 ∨ i = 1 ∨ i = 2 ∨ i = 3 ∨ i = 4 ∨ i = 5 ∨ i = 6 ∨ i = 7 ∨ i = 8 := by omega
    rcases hii with rfl | rfl | rfl | rfl | rfl | rfl | rfl | rfl | rfl
    · cases hb : Lib.hasPrefix l [38, 38] with
      | true =>
        have HK : Hid (sgS l = [38, 38]) := by
          unfold sgS
          rw [if_pos (by rw [two_pre, List.any_eq_true]; exact ⟨[38, 38], by simp [twos], hb⟩)]; exact pre2_take hb
        go_wp2_with (first | (go_at_call 23; refine (HB _ _ (by decide)).mono ?_; rintro e w' ⟨rfl, rfl⟩; rw [show Lib.hasPrefix l (L ⟨#[38, 38]⟩) = true from hb]))
        go_ret
        exact ⟨ret_str (by rw [HK.out]; rfl), HBE.out _⟩
      | false =>
        have HN : Hid ((twos.take (0 + 1)).any (fun t => Lib.hasPrefix l t) = false) := by
          have := HF.out
          show (twos.take 1).any _ = false
          rw [show twos.take 1 = twos.take 0 ++ [[38, 38]] from rfl, List.any_append, this]; simpa using hb
        go_wp2_with (first | (go_at_call 23; refine (HB _ _ (by decide)).mono ?_; rintro e w' ⟨rfl, rfl⟩; rw [show Lib.hasPrefix l (L ⟨#[38, 38]⟩) = false from hb]))
        go_round
        case rel => exact ⟨1, by omega, by go_num, HN⟩
        case measure => simp [intOf]
    · cases hb : Lib.hasPrefix l [124, 124] with
      | true =>
        have HK : Hid (sgS l = [124, 124]) := by
          unfold sgS
          rw [if_pos (by rw [two_pre, List.any_eq_true]; exact ⟨[124, 124], by simp [twos], hb⟩)]; exact pre2_take hb
        go_wp2_with (first | (go_at_call 23; refine (HB _ _ (by decide)).mono ?_; rintro e w' ⟨rfl, rfl⟩; rw [show Lib.hasPrefix l (L ⟨#[124, 124]⟩) = true from hb]))
        go_ret
        exact ⟨ret_str (by rw [HK.out]; rfl), HBE.out _⟩
      | false =>
        have HN : Hid ((twos.take (1 + 1)).any (fun t => Lib.hasPrefix l t) = false) := by
          have := HF.out
          show (twos.take 2).any _ = false
          rw [show twos.take 2 = twos.take 1 ++ [[124, 124]] from rfl, List.any_append, this]; simpa using hb
        go_wp2_with (first | (go_at_call 23; refine (HB _ _ (by decide)).mono ?_; rintro e w' ⟨rfl, rfl⟩; rw [show Lib.hasPrefix l (L ⟨#[124, 124]⟩) = false from hb]))
        go_round
        case rel => exact ⟨2, by omega, by go_num, HN⟩
        case measure => simp [intOf]
    · cases hb : Lib.hasPrefix l [61, 61] with
      | true =>
        have HK : Hid (sgS l = [61, 61]) := by
          unfold sgS
          rw [if_pos (by rw [two_pre, List.any_eq_true]; exact ⟨[61, 61], by simp [twos], hb⟩)]; exact pre2_take hb
        go_wp2_with (first | (go_at_call 23; refine (HB _ _ (by decide)).mono ?_; rintro e w' ⟨rfl, rfl⟩; rw [show Lib.hasPrefix l (L ⟨#[61, 61]⟩) = true from hb]))
        go_ret
        exact ⟨ret_str (by rw [HK.out]; rfl), HBE.out _⟩
      | false =>
        have HN : Hid ((twos.take (2 + 1)).any (fun t => Lib.hasPrefix l t) = false) := by
          have := HF.out
          show (twos.take 3).any _ = false
          rw [show twos.take 3 = twos.take 2 ++ [[61, 61]] from rfl, List.any_append, this]; simpa using hb
        go_wp2_with (first | (go_at_call 23; refine (HB _ _ (by decide)).mono ?_; rintro e w' ⟨rfl, rfl⟩; rw [show Lib.hasPrefix l (L ⟨#[61, 61]⟩) = false from hb]))
        go_round
        case rel => exact ⟨3, by omega, by go_num, HN⟩
        case measure => simp [intOf]
    · cases hb : Lib.hasPrefix l [33, 61] with
      | true =>
        have HK : Hid (sgS l = [33, 61]) := by
          unfold sgS
          rw [if_pos (by rw [two_pre, List.any_eq_true]; exact ⟨[33, 61], by simp [twos], hb⟩)]; exact pre2_take hb
        go_wp2_with (first | (go_at_call 23; refine (HB _ _ (by decide)).mono ?_; rintro e w' ⟨rfl, rfl⟩; rw [show Lib.hasPrefix l (L ⟨#[33, 61]⟩) = true from hb]))
        go_ret
        exact ⟨ret_str (by rw [HK.out]; rfl), HBE.out _⟩
      | false =>
        have HN : Hid ((twos.take (3 + 1)).any (fun t => Lib.hasPrefix l t) = false) := by
          have := HF.out
          show (twos.take 4).any _ = false
          rw [show twos.take 4 = twos.take 3 ++ [[33, 61]] from rfl, List.any_append, this]; simpa using hb
        go_wp2_with (first | (go_at_call 23; refine (HB _ _ (by decide)).mono ?_; rintro e w' ⟨rfl, rfl⟩; rw [show Lib.hasPrefix l (L ⟨#[33, 61]⟩) = false from hb]))
        go_round
        case rel => exact ⟨4, by omega, by go_num, HN⟩
        case measure => simp [intOf]
    · cases hb : Lib.hasPrefix l [60, 61] with
      | true =>
        have HK : Hid (sgS l = [60, 61]) := by
          unfold sgS
          rw [if_pos (by rw [two_pre, List.any_eq_true]; exact ⟨[60, 61], by simp [twos], hb⟩)]; exact pre2_take hb
        go_wp2_with (first | (go_at_call 23; refine (HB _ _ (by decide)).mono ?_; rintro e w' ⟨rfl, rfl⟩; rw [show Lib.hasPrefix l (L ⟨#[60, 61]⟩) = true from hb]))
        go_ret
        exact ⟨ret_str (by rw [HK.out]; rfl), HBE.out _⟩
      | false =>
        have HN : Hid ((twos.take (4 + 1)).any (fun t => Lib.hasPrefix l t) = false) := by
          have := HF.out
          show (twos.take 5).any _ = false
          rw [show twos.take 5 = twos.take 4 ++ [[60, 61]] from rfl, List.any_append, this]; simpa using hb
        go_wp2_with (first | (go_at_call 23; refine (HB _ _ (by decide)).mono ?_; rintro e w' ⟨rfl, rfl⟩; rw [show Lib.hasPrefix l (L ⟨#[60, 61]⟩) = false from hb]))
        go_round
        case rel => exact ⟨5, by omega, by go_num, HN⟩
        case measure => simp [intOf]
    · cases hb : Lib.hasPrefix l [62, 61] with
      | true =>
        have HK : Hid (sgS l = [62, 61]) := by
          unfold sgS
          rw [if_pos (by rw [two_pre, List.any_eq_true]; exact ⟨[62, 61], by simp [twos], hb⟩)]; exact pre2_take hb
        go_wp2_with (first | (go_at_call 23; refine (HB _ _ (by decide)).mono ?_; rintro e w' ⟨rfl, rfl⟩; rw [show Lib.hasPrefix l (L ⟨#[62, 61]⟩) = true from hb]))
        go_ret
        exact ⟨ret_str (by rw [HK.out]; rfl), HBE.out _⟩
      | false =>
        have HN : Hid ((twos.take (5 + 1)).any (fun t => Lib.hasPrefix l t) = false) := by
          have := HF.out
          show (twos.take 6).any _ = false
          rw [show twos.take 6 = twos.take 5 ++ [[62, 61]] from rfl, List.any_append, this]; simpa using hb
        go_wp2_with (first | (go_at_call 23; refine (HB _ _ (by decide)).mono ?_; rintro e w' ⟨rfl, rfl⟩; rw [show Lib.hasPrefix l (L ⟨#[62, 61]⟩) = false from hb]))
        go_round
        case rel => exact ⟨6, by omega, by go_num, HN⟩
        case measure => simp [intOf]
    · cases hb : Lib.hasPrefix l [60, 60] with
      | true =>
        have HK : Hid (sgS l = [60, 60]) := by
          unfold sgS
          rw [if_pos (by rw [two_pre, List.any_eq_true]; exact ⟨[60, 60], by simp [twos], hb⟩)]; exact pre2_take hb
        go_wp2_with (first | (go_at_call 23; refine (HB _ _ (by decide)).mono ?_; rintro e w' ⟨rfl, rfl⟩; rw [show Lib.hasPrefix l (L ⟨#[60, 60]⟩) = true from hb]))
        go_ret
        exact ⟨ret_str (by rw [HK.out]; rfl), HBE.out _⟩
      | false =>
        have HN : Hid ((twos.take (6 + 1)).any (fun t => Lib.hasPrefix l t) = false) := by
          have := HF.out
          show (twos.take 7).any _ = false
          rw [show twos.take 7 = twos.take 6 ++ [[60, 60]] from rfl, List.any_append, this]; simpa using hb
        go_wp2_with (first | (go_at_call 23; refine (HB _ _ (by decide)).mono ?_; rintro e w' ⟨rfl, rfl⟩; rw [show Lib.hasPrefix l (L ⟨#[60, 60]⟩) = false from hb]))
        go_round
        case rel => exact ⟨7, by omega, by go_num, HN⟩
        case measure => simp [intOf]
    · cases hb : Lib.hasPrefix l [62, 62] with
      | true =>
        have HK : Hid (sgS l = [62, 62]) := by
          unfold sgS
          rw [if_pos (by rw [two_pre, List.any_eq_true]; exact ⟨[62, 62], by simp [twos], hb⟩)]; exact pre2_take hb
        go_wp2_with (first | (go_at_call 23; refine (HB _ _ (by decide)).mono ?_; rintro e w' ⟨rfl, rfl⟩; rw [show Lib.hasPrefix l (L ⟨#[62, 62]⟩) = true from hb]))
        go_ret
        exact ⟨ret_str (by rw [HK.out]; rfl), HBE.out _⟩
      | false =>
        have HN : Hid ((twos.take (7 + 1)).any (fun t => Lib.hasPrefix l t) = false) := by
          have := HF.out
          show (twos.take 8).any _ = false
          rw [show twos.take 8 = twos.take 7 ++ [[62, 62]] from rfl, List.any_append, this]; simpa using hb
        go_wp2_with (first | (go_at_call 23; refine (HB _ _ (by decide)).mono ?_; rintro e w' ⟨rfl, rfl⟩; rw [show Lib.hasPrefix l (L ⟨#[62, 62]⟩) = false from hb]))
        go_round
        case rel => exact ⟨8, by omega, by go_num, HN⟩
        case measure => simp [intOf]
    · have hno : twos.contains (l.take 2) = false := by rw [two_pre]; exact HF.out
      have HNO : Hid _ := hno
      clear hno
      go_wp2
      go_loopw [8] (fun iv wr => ∃ i : Nat, i ≤ 24 ∧ iv = .int .i64 i ∧ Hid (∀ j, (hj : j < ones.size) → j < i → ones[j] ≠ s[p]) ∧ Hid (Below w.heap.size w wr)) (fun iv _ => 24 - (intOf iv).toNat)
      case atStart => exact ⟨0, by omega, rfl, fun j _ h => by omega, HBE.out _⟩
      case round =>
        obtain ⟨i, hi, rfl, HF2, HW⟩ := hrel
        have hpI : (p : Int) < (s.size : Int) := by omega
        by_cases hlt : i < 24
        · have h24 : i < (⟨#[40, 41, 91, 93, 123, 125, 44, 59, 58, 46, 35, 64, 63, 43, 45, 126, 33, 38, 124, 94, 61, 60, 62, 42]⟩ : ByteArray).size := hlt
          have hiI : (i : Int) < 24 := by omega
          have hcb : (((s[p].toNat : Nat) : Int) == (((⟨#[40, 41, 91, 93, 123, 125, 44, 59, 58, 46, 35, 64, 63, 43, 45, 126, 33, 38, 124, 94, 61, 60, 62, 42]⟩ : ByteArray)[i].toNat : Nat) : Int)) = (s[p] == (⟨#[40, 41, 91, 93, 123, 125, 44, 59, 58, 46, 35, 64, 63, 43, 45, 126, 33, 38, 124, 94, 61, 60, 62, 42]⟩ : ByteArray)[i]) := cb _ _
          have hex := ext_one (⟨#[40, 41, 91, 93, 123, 125, 44, 59, 58, 46, 35, 64, 63, 43, 45, 126, 33, 38, 124, 94, 61, 60, 62, 42]⟩ : ByteArray) i h24
          by_cases heq : ones[i]'h24 = s[p]
          · have HK : Hid (sgS l = [s[p]]) := by
              unfold sgS
              rw [if_neg (by rw [HNO.out]; simp), HHD.out, if_pos (by rw [← heq]; exact sgn_at i h24)]; exact rfl
            have hb : (((s[p].toNat : Nat) : Int) == (((⟨#[40, 41, 91, 93, 123, 125, 44, 59, 58, 46, 35, 64, 63, 43, 45, 126, 33, 38, 124, 94, 61, 60, 62, 42]⟩ : ByteArray)[i].toNat : Nat) : Int)) = true := hcb.trans (by rw [beq_iff_eq]; exact heq.symm)
            have HE : Hid ((⟨#[(⟨#[40, 41, 91, 93, 123, 125, 44, 59, 58, 46, 35, 64, 63, 43, 45, 126, 33, 38, 124, 94, 61, 60, 62, 42]⟩ : ByteArray)[i]]⟩ : ByteArray) = S [s[p]]) := by rw [← heq]; rfl
            clear hcb heq
            go_wp2
            go_region
            all_goals go_wp2
            all_goals go_ret
            all_goals exact ⟨ret_str (by rw [HK.out, ← HE.out]), HW.out.drew⟩
          · have hb : (((s[p].toNat : Nat) : Int) == (((⟨#[40, 41, 91, 93, 123, 125, 44, 59, 58, 46, 35, 64, 63, 43, 45, 126, 33, 38, 124, 94, 61, 60, 62, 42]⟩ : ByteArray)[i].toNat : Nat) : Int)) = false := hcb.trans (by rw [beq_eq_false_iff_ne]; exact fun e => heq e.symm)
            have HF3 : Hid (∀ j, (hj : j < ones.size) → j < i + 1 → ones[j] ≠ s[p]) := by
              intro j hj hj2
              rcases Nat.lt_or_ge j i with g | g
              · exact HF2.out j hj g
              · obtain rfl : j = i := by omega
                exact heq
            clear hcb heq hex
            go_wp2
            go_region
            all_goals go_wp2
            all_goals
              go_roundw
              case rel => exact ⟨i + 1, by omega, by go_num, HF3, HW.out.drew⟩
              case measure => simp [intOf]; omega
        · have HK : Hid (sgS l = []) := by
            unfold sgS
            rw [if_neg (by rw [HNO.out]; simp), HHD.out, if_neg (by rw [sgn_none s[p] (fun j hj => HF2.out j hj (by have : ones.size = 24 := rfl; omega))]; simp)]; exact rfl
          go_wp2
          go_ret
          exact ⟨ret_str (by rw [HK.out]; rfl), HW.out⟩
end Go.Proofs.YthdhmlojihpfkaaGreat
