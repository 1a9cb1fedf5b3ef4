/- Texts YE YF YJ YK YL YM, joined: what each part says stands ahead of it. -/
import Derived.Test.YtpnhefjiobnelaaYC
import Derived.Test.YtpnhefjiobnelaaGM
/- Layer 2, the reference: letters, words, what begins at a place, signs. -/
namespace Go.Proofs.Ytpnhefjiobnelaa
open Go.RowKit Lg
set_option linter.unusedVariables false
set_option linter.unusedSimpArgs false

set_option maxHeartbeats 400000 in
theorem rLetter_c (c : UInt8) (w : World) : Calls Try.prog 22 #[.int .u8 c.toNat] w fun e w' => e = .returned (.bool (letB c)) ∧ w' = w := by
  rw [letB_iff]
  obtain ⟨n, hn⟩ : ∃ n : Int, n = c.toNat := ⟨_, rfl⟩
  rw [← hn]; clear hn
  go_enter Try.func22, Try.ntmps22
  go_wp2
  all_goals (go_ret; refine ⟨ret_bool ?_, rfl⟩)
  all_goals first | rfl | (rw [Bool.eq_iff_iff]; simp only [Bool.or_eq_true, Bool.and_eq_true, decide_eq_true_eq, beq_iff_eq]; omega)
set_option maxHeartbeats 400000 in
theorem rword_c (c : UInt8) (w : World) : Calls Try.prog 23 #[.int .u8 c.toNat] w fun e w' => e = .returned (.bool (worB c)) ∧ w' = w := by
  cases h1 : letB c with
  | true =>
    have HK : Hid (worB c = true) := by unfold worB; rw [h1]; rfl
    go_enter Try.func23, Try.ntmps23
    go_wp2_with (first | (go_at_call 22; refine (rLetter_c c _).mono ?_; rintro e w' ⟨rfl, rfl⟩; rw [h1]) | (go_at_call 24; refine (rdigit_c c _).mono ?_; rintro e w' ⟨rfl, rfl⟩))
    go_ret
    exact ⟨ret_bool HK.out.symm, rfl⟩
  | false =>
    have HK : Hid (worB c = digB c) := by unfold worB; rw [h1]; rfl
    go_enter Try.func23, Try.ntmps23
    go_wp2_with (first | (go_at_call 22; refine (rLetter_c c _).mono ?_; rintro e w' ⟨rfl, rfl⟩; rw [h1]) | (go_at_call 24; refine (rdigit_c c _).mono ?_; rintro e w' ⟨rfl, rfl⟩))
    go_ret
    exact ⟨ret_bool HK.out.symm, rfl⟩
theorem pre_take (l t : List UInt8) (h : t.length ≤ l.length) : Lib.hasPrefix l t = (l.take t.length == t) := by
  unfold Lib.hasPrefix
  induction t generalizing l with
  | nil => simp
  | cons c t ih =>
    cases l with
    | nil => simp at h
    | cons d l =>
      simp only [List.isPrefixOf, List.length_cons, List.take_succ_cons]
      rw [ih l (by simpa using h), Bool.eq_iff_iff]
      simp
      intro _
      exact ⟨Eq.symm, Eq.symm⟩
theorem pre_short (l t : List UInt8) (h : l.length < t.length) : Lib.hasPrefix l t = false := by
  unfold Lib.hasPrefix
  rw [Bool.eq_false_iff]
  intro e
  have := (List.isPrefixOf_iff_prefix.1 e).length_le
  omega
set_option maxHeartbeats 1000000 in
theorem begins_c (s t : ByteArray) (p : Nat) (w : World) (hs : s.size ≤ 65536) (hp : p ≤ s.size) (ht : t.size ≤ 1000) :
    Calls Try.prog 14 #[.string s, .int .i64 p, .string t] w fun e w' => e = .returned (.bool (Lib.hasPrefix ((L s).drop p) (L t))) ∧ w' = w := by
  by_cases h : p + t.size ≤ s.size
  · obtain ⟨x, hx⟩ : ∃ x, s.extract p (p + t.size) = x := ⟨_, rfl⟩
    have hLx : L x = ((L s).drop p).take (L t).length := by rw [← hx, L_extract, len_L, show p + t.size - p = t.size by omega]
    have HK : Hid (Lib.hasPrefix ((L s).drop p) (L t) = (x.toList == t.toList)) := by rw [toL, toL, hLx]; exact pre_take _ _ (by rw [List.length_drop, len_L, len_L]; omega)
    have hI : (t.size : Int) ≤ (s.size : Int) - (p : Int) := by omega
    have hI2 : (p : Int) + (t.size : Int) ≤ (s.size : Int) := by omega
    clear hLx
    go_enter Try.func14, Try.ntmps14
    go_wp2
    go_ret
    exact ⟨ret_bool HK.out.symm, rfl⟩
  · have HK : Hid (Lib.hasPrefix ((L s).drop p) (L t) = false) := pre_short _ _ (by rw [List.length_drop, len_L, len_L]; omega)
    have hI : (s.size : Int) - (p : Int) < (t.size : Int) := by omega
    go_enter Try.func14, Try.ntmps14
    go_wp2
    go_ret
    exact ⟨ret_bool HK.out.symm, rfl⟩
end Go.Proofs.Ytpnhefjiobnelaa

/- Layer 2, the reference: the sign at a place. -/
namespace Go.Proofs.Ytpnhefjiobnelaa
open Go.RowKit Lg
set_option linter.unusedVariables false
set_option linter.unusedSimpArgs false

def twoRow : Array Value := #[.string ⟨#[38, 38]⟩, .string ⟨#[124, 124]⟩, .string ⟨#[61, 61]⟩, .string ⟨#[33, 61]⟩, .string ⟨#[60, 61]⟩, .string ⟨#[62, 61]⟩, .string ⟨#[60, 60]⟩, .string ⟨#[62, 62]⟩]
/-- the sign that bytes begin with; none: there is none -/
def sgS (l : List UInt8) : List UInt8 := if twos.contains (l.take 2) then l.take 2 else if sgnB (hd0 l) then [hd0 l] else []
theorem two_pre (l : List UInt8) : twos.contains (l.take 2) = twos.any (fun t => Lib.hasPrefix l t) := by
  have h : ∀ t ∈ twos, Lib.hasPrefix l t = (l.take 2 == t) := by
    intro t ht
    have hl : t.length = 2 := by
      simp [twos] at ht
      rcases ht with rfl | rfl | rfl | rfl | rfl | rfl | rfl | rfl <;> rfl
    rcases Nat.lt_or_ge l.length 2 with g | g
    · rw [pre_short l t (by omega)]
      symm
      rw [beq_eq_false_iff_ne]
      intro e
      have := congrArg List.length e
      rw [List.length_take] at this; omega
    · rw [pre_take l t (by omega), hl]
  rw [Bool.eq_iff_iff, List.contains_iff_exists_mem_beq, List.any_eq_true]
  constructor
  · rintro ⟨t, ht, e⟩; exact ⟨t, ht, by rw [h t ht]; exact e⟩
  · rintro ⟨t, ht, e⟩; exact ⟨t, ht, by rw [h t ht] at e; exact e⟩
theorem pre2_take {l : List UInt8} {x y : UInt8} (h : Lib.hasPrefix l [x, y] = true) : l.take 2 = [x, y] := by
  match l, h with
  | [], h => simp [Lib.hasPrefix] at h
  | [a], h => simp [Lib.hasPrefix, List.isPrefixOf] at h
  | a :: b :: r, h => simp [Lib.hasPrefix, List.isPrefixOf] at h; rw [h.1, h.2]; rfl
def ones : ByteArray := ⟨#[40, 41, 91, 93, 123, 125, 44, 59, 58, 46, 35, 64, 63, 43, 45, 126, 33, 38, 124, 94, 61, 60, 62, 42]⟩
theorem ones_L : L ones = signs := rfl
theorem sgn_at (i : Nat) (h : i < ones.size) : sgnB ones[i] = true := by
  unfold sgnB
  rw [← ones_L, List.contains_iff_exists_mem_beq]
  exact ⟨ones[i], by rw [← L_get ones i h]; exact List.getElem_mem _, by simp⟩
theorem sgn_none (c : UInt8) (h : ∀ i, (hi : i < ones.size) → ones[i] ≠ c) : sgnB c = false := by
  rw [Bool.eq_false_iff]
  intro e
  unfold sgnB at e
  rw [← ones_L, List.contains_iff_exists_mem_beq] at e
  obtain ⟨x, hx, e⟩ := e
  have e2 : c = x := by simpa using e
  obtain ⟨i, hi, rfl⟩ := List.getElem_of_mem hx
  rw [len_L] at hi
  exact h i hi e2.symm

set_option maxRecDepth 100000 in
set_option maxHeartbeats 8000000 in
theorem sign_c (s : ByteArray) (p : Nat) (w : World) (hs : s.size ≤ 65536) (hp : p < s.size) :
    Calls Try.prog 26 #[.string s, .int .i64 p] w fun e w' => e = .returned (.string (S (sgS ((L s).drop p)))) ∧ Below w.heap.size w w' := by
  obtain ⟨l, hl⟩ : ∃ l, l = (L s).drop p := ⟨_, rfl⟩
  have HB := fun t w ht => begins_c s t p w hs (Nat.le_of_lt hp) ht
  have hhd : hd0 l = s[p] := by rw [hl, drop_cons s p hp]; rfl
  rw [← hl] at HB ⊢
  clear hl
  have hbel : ∀ o, Below w.heap.size w (w.alloc o) := fun o => belA (Below.refl _ _) o
  have HBE : Hid _ := hbel
  have HHD : Hid _ := hhd
  clear hbel hhd
  go_enter Try.func26, Try.ntmps26
  go_wp2
  go_loop [6] (fun iv => ∃ i : Nat, i ≤ 8 ∧ iv = .int .i64 i ∧ Hid ((twos.take i).any (fun t => Lib.hasPrefix l t) = false)) (fun iv => 8 - (intOf iv).toNat)
  case atStart => exact ⟨0, by omega, rfl, rfl⟩
  case round =>
    obtain ⟨i, hi, rfl, HF⟩ := hrel
    have hii : i = 0 ∨ i = 1 ∨ i = 2 ∨ i = 3 ∨ i = 4 ∨ i = 5 ∨ i = 6 ∨ i = 7 ∨ i = 8 := by omega
    rcases hii with rfl | rfl | rfl | rfl | rfl | rfl | rfl | rfl | rfl
    · cases hb : Lib.hasPrefix l [38, 38] with
      | true =>
        have HK : Hid (sgS l = [38, 38]) := by
          unfold sgS
          rw [if_pos (by rw [two_pre, List.any_eq_true]; exact ⟨[38, 38], by simp [twos], hb⟩)]; exact pre2_take hb
        go_wp2_with (first | (go_at_call 14; refine (HB _ _ (by decide)).mono ?_; rintro e w' ⟨rfl, rfl⟩; rw [show Lib.hasPrefix l (L ⟨#[38, 38]⟩) = true from hb]))
        go_ret
        exact ⟨ret_str (by rw [HK.out]; rfl), HBE.out _⟩
      | false =>
        have HN : Hid ((twos.take (0 + 1)).any (fun t => Lib.hasPrefix l t) = false) := by
          have := HF.out
          show (twos.take 1).any _ = false
          rw [show twos.take 1 = twos.take 0 ++ [[38, 38]] from rfl, List.any_append, this]; simpa using hb
        go_wp2_with (first | (go_at_call 14; refine (HB _ _ (by decide)).mono ?_; rintro e w' ⟨rfl, rfl⟩; rw [show Lib.hasPrefix l (L ⟨#[38, 38]⟩) = false from hb]))
        go_round
        case rel => exact ⟨1, by omega, by go_num, HN⟩
        case measure => simp [intOf]
    · cases hb : Lib.hasPrefix l [124, 124] with
      | true =>
        have HK : Hid (sgS l = [124, 124]) := by
          unfold sgS
          rw [if_pos (by rw [two_pre, List.any_eq_true]; exact ⟨[124, 124], by simp [twos], hb⟩)]; exact pre2_take hb
        go_wp2_with (first | (go_at_call 14; refine (HB _ _ (by decide)).mono ?_; rintro e w' ⟨rfl, rfl⟩; rw [show Lib.hasPrefix l (L ⟨#[124, 124]⟩) = true from hb]))
        go_ret
        exact ⟨ret_str (by rw [HK.out]; rfl), HBE.out _⟩
      | false =>
        have HN : Hid ((twos.take (1 + 1)).any (fun t => Lib.hasPrefix l t) = false) := by
          have := HF.out
          show (twos.take 2).any _ = false
          rw [show twos.take 2 = twos.take 1 ++ [[124, 124]] from rfl, List.any_append, this]; simpa using hb
        go_wp2_with (first | (go_at_call 14; refine (HB _ _ (by decide)).mono ?_; rintro e w' ⟨rfl, rfl⟩; rw [show Lib.hasPrefix l (L ⟨#[124, 124]⟩) = false from hb]))
        go_round
        case rel => exact ⟨2, by omega, by go_num, HN⟩
        case measure => simp [intOf]
    · cases hb : Lib.hasPrefix l [61, 61] with
      | true =>
        have HK : Hid (sgS l = [61, 61]) := by
          unfold sgS
          rw [if_pos (by rw [two_pre, List.any_eq_true]; exact ⟨[61, 61], by simp [twos], hb⟩)]; exact pre2_take hb
        go_wp2_with (first | (go_at_call 14; refine (HB _ _ (by decide)).mono ?_; rintro e w' ⟨rfl, rfl⟩; rw [show Lib.hasPrefix l (L ⟨#[61, 61]⟩) = true from hb]))
        go_ret
        exact ⟨ret_str (by rw [HK.out]; rfl), HBE.out _⟩
      | false =>
        have HN : Hid ((twos.take (2 + 1)).any (fun t => Lib.hasPrefix l t) = false) := by
          have := HF.out
          show (twos.take 3).any _ = false
          rw [show twos.take 3 = twos.take 2 ++ [[61, 61]] from rfl, List.any_append, this]; simpa using hb
        go_wp2_with (first | (go_at_call 14; refine (HB _ _ (by decide)).mono ?_; rintro e w' ⟨rfl, rfl⟩; rw [show Lib.hasPrefix l (L ⟨#[61, 61]⟩) = false from hb]))
        go_round
        case rel => exact ⟨3, by omega, by go_num, HN⟩
        case measure => simp [intOf]
    · cases hb : Lib.hasPrefix l [33, 61] with
      | true =>
        have HK : Hid (sgS l = [33, 61]) := by
          unfold sgS
          rw [if_pos (by rw [two_pre, List.any_eq_true]; exact ⟨[33, 61], by simp [twos], hb⟩)]; exact pre2_take hb
        go_wp2_with (first | (go_at_call 14; refine (HB _ _ (by decide)).mono ?_; rintro e w' ⟨rfl, rfl⟩; rw [show Lib.hasPrefix l (L ⟨#[33, 61]⟩) = true from hb]))
        go_ret
        exact ⟨ret_str (by rw [HK.out]; rfl), HBE.out _⟩
      | false =>
        have HN : Hid ((twos.take (3 + 1)).any (fun t => Lib.hasPrefix l t) = false) := by
          have := HF.out
          show (twos.take 4).any _ = false
          rw [show twos.take 4 = twos.take 3 ++ [[33, 61]] from rfl, List.any_append, this]; simpa using hb
        go_wp2_with (first | (go_at_call 14; refine (HB _ _ (by decide)).mono ?_; rintro e w' ⟨rfl, rfl⟩; rw [show Lib.hasPrefix l (L ⟨#[33, 61]⟩) = false from hb]))
        go_round
        case rel => exact ⟨4, by omega, by go_num, HN⟩
        case measure => simp [intOf]
    · cases hb : Lib.hasPrefix l [60, 61] with
      | true =>
        have HK : Hid (sgS l = [60, 61]) := by
          unfold sgS
          rw [if_pos (by rw [two_pre, List.any_eq_true]; exact ⟨[60, 61], by simp [twos], hb⟩)]; exact pre2_take hb
        go_wp2_with (first | (go_at_call 14; refine (HB _ _ (by decide)).mono ?_; rintro e w' ⟨rfl, rfl⟩; rw [show Lib.hasPrefix l (L ⟨#[60, 61]⟩) = true from hb]))
        go_ret
        exact ⟨ret_str (by rw [HK.out]; rfl), HBE.out _⟩
      | false =>
        have HN : Hid ((twos.take (4 + 1)).any (fun t => Lib.hasPrefix l t) = false) := by
          have := HF.out
          show (twos.take 5).any _ = false
          rw [show twos.take 5 = twos.take 4 ++ [[60, 61]] from rfl, List.any_append, this]; simpa using hb
        go_wp2_with (first | (go_at_call 14; refine (HB _ _ (by decide)).mono ?_; rintro e w' ⟨rfl, rfl⟩; rw [show Lib.hasPrefix l (L ⟨#[60, 61]⟩) = false from hb]))
        go_round
        case rel => exact ⟨5, by omega, by go_num, HN⟩
        case measure => simp [intOf]
    · cases hb : Lib.hasPrefix l [62, 61] with
      | true =>
        have HK : Hid (sgS l = [62, 61]) := by
          unfold sgS
          rw [if_pos (by rw [two_pre, List.any_eq_true]; exact ⟨[62, 61], by simp [twos], hb⟩)]; exact pre2_take hb
        go_wp2_with (first | (go_at_call 14; refine (HB _ _ (by decide)).mono ?_; rintro e w' ⟨rfl, rfl⟩; rw [show Lib.hasPrefix l (L ⟨#[62, 61]⟩) = true from hb]))
        go_ret
        exact ⟨ret_str (by rw [HK.out]; rfl), HBE.out _⟩
      | false =>
        have HN : Hid ((twos.take (5 + 1)).any (fun t => Lib.hasPrefix l t) = false) := by
          have := HF.out
          show (twos.take 6).any _ = false
          rw [show twos.take 6 = twos.take 5 ++ [[62, 61]] from rfl, List.any_append, this]; simpa using hb
        go_wp2_with (first | (go_at_call 14; refine (HB _ _ (by decide)).mono ?_; rintro e w' ⟨rfl, rfl⟩; rw [show Lib.hasPrefix l (L ⟨#[62, 61]⟩) = false from hb]))
        go_round
        case rel => exact ⟨6, by omega, by go_num, HN⟩
        case measure => simp [intOf]
    · cases hb : Lib.hasPrefix l [60, 60] with
      | true =>
        have HK : Hid (sgS l = [60, 60]) := by
          unfold sgS
          rw [if_pos (by rw [two_pre, List.any_eq_true]; exact ⟨[60, 60], by simp [twos], hb⟩)]; exact pre2_take hb
        go_wp2_with (first | (go_at_call 14; refine (HB _ _ (by decide)).mono ?_; rintro e w' ⟨rfl, rfl⟩; rw [show Lib.hasPrefix l (L ⟨#[60, 60]⟩) = true from hb]))
        go_ret
        exact ⟨ret_str (by rw [HK.out]; rfl), HBE.out _⟩
      | false =>
        have HN : Hid ((twos.take (6 + 1)).any (fun t => Lib.hasPrefix l t) = false) := by
          have := HF.out
          show (twos.take 7).any _ = false
          rw [show twos.take 7 = twos.take 6 ++ [[60, 60]] from rfl, List.any_append, this]; simpa using hb
        go_wp2_with (first | (go_at_call 14; refine (HB _ _ (by decide)).mono ?_; rintro e w' ⟨rfl, rfl⟩; rw [show Lib.hasPrefix l (L ⟨#[60, 60]⟩) = false from hb]))
        go_round
        case rel => exact ⟨7, by omega, by go_num, HN⟩
        case measure => simp [intOf]
    · cases hb : Lib.hasPrefix l [62, 62] with
      | true =>
        have HK : Hid (sgS l = [62, 62]) := by
          unfold sgS
          rw [if_pos (by rw [two_pre, List.any_eq_true]; exact ⟨[62, 62], by simp [twos], hb⟩)]; exact pre2_take hb
        go_wp2_with (first | (go_at_call 14; refine (HB _ _ (by decide)).mono ?_; rintro e w' ⟨rfl, rfl⟩; rw [show Lib.hasPrefix l (L ⟨#[62, 62]⟩) = true from hb]))
        go_ret
        exact ⟨ret_str (by rw [HK.out]; rfl), HBE.out _⟩
      | false =>
        have HN : Hid ((twos.take (7 + 1)).any (fun t => Lib.hasPrefix l t) = false) := by
          have := HF.out
          show (twos.take 8).any _ = false
          rw [show twos.take 8 = twos.take 7 ++ [[62, 62]] from rfl, List.any_append, this]; simpa using hb
        go_wp2_with (first | (go_at_call 14; refine (HB _ _ (by decide)).mono ?_; rintro e w' ⟨rfl, rfl⟩; rw [show Lib.hasPrefix l (L ⟨#[62, 62]⟩) = false from hb]))
        go_round
        case rel => exact ⟨8, by omega, by go_num, HN⟩
        case measure => simp [intOf]
    · have hno : twos.contains (l.take 2) = false := by rw [two_pre]; exact HF.out
      have HNO : Hid _ := hno
      clear hno
      go_wp2
      go_loopw [8] (fun iv wr => ∃ i : Nat, i ≤ 24 ∧ iv = .int .i64 i ∧ Hid (∀ j, (hj : j < ones.size) → j < i → ones[j] ≠ s[p]) ∧ Hid (Below w.heap.size w wr)) (fun iv _ => 24 - (intOf iv).toNat)
      case atStart => exact ⟨0, by omega, rfl, fun j _ h => by omega, HBE.out _⟩
      case round =>
        obtain ⟨i, hi, rfl, HF2, HW⟩ := hrel
        have hpI : (p : Int) < (s.size : Int) := by omega
        by_cases hlt : i < 24
        · have h24 : i < (⟨#[40, 41, 91, 93, 123, 125, 44, 59, 58, 46, 35, 64, 63, 43, 45, 126, 33, 38, 124, 94, 61, 60, 62, 42]⟩ : ByteArray).size := hlt
          have hiI : (i : Int) < 24 := by omega
          have hcb : (((s[p].toNat : Nat) : Int) == (((⟨#[40, 41, 91, 93, 123, 125, 44, 59, 58, 46, 35, 64, 63, 43, 45, 126, 33, 38, 124, 94, 61, 60, 62, 42]⟩ : ByteArray)[i].toNat : Nat) : Int)) = (s[p] == (⟨#[40, 41, 91, 93, 123, 125, 44, 59, 58, 46, 35, 64, 63, 43, 45, 126, 33, 38, 124, 94, 61, 60, 62, 42]⟩ : ByteArray)[i]) := cb _ _
          have hex := ext_one (⟨#[40, 41, 91, 93, 123, 125, 44, 59, 58, 46, 35, 64, 63, 43, 45, 126, 33, 38, 124, 94, 61, 60, 62, 42]⟩ : ByteArray) i h24
          by_cases heq : ones[i]'h24 = s[p]
          · have HK : Hid (sgS l = [s[p]]) := by
              unfold sgS
              rw [if_neg (by rw [HNO.out]; simp), HHD.out, if_pos (by rw [← heq]; exact sgn_at i h24)]; exact rfl
            have hb : (((s[p].toNat : Nat) : Int) == (((⟨#[40, 41, 91, 93, 123, 125, 44, 59, 58, 46, 35, 64, 63, 43, 45, 126, 33, 38, 124, 94, 61, 60, 62, 42]⟩ : ByteArray)[i].toNat : Nat) : Int)) = true := hcb.trans (by rw [beq_iff_eq]; exact heq.symm)
            have HE : Hid ((⟨#[(⟨#[40, 41, 91, 93, 123, 125, 44, 59, 58, 46, 35, 64, 63, 43, 45, 126, 33, 38, 124, 94, 61, 60, 62, 42]⟩ : ByteArray)[i]]⟩ : ByteArray) = S [s[p]]) := by rw [← heq]; rfl
            clear hcb heq
            go_wp2
            go_region
            all_goals go_wp2
            all_goals go_ret
            all_goals exact ⟨ret_str (by rw [HK.out, ← HE.out]), HW.out.drew⟩
          · have hb : (((s[p].toNat : Nat) : Int) == (((⟨#[40, 41, 91, 93, 123, 125, 44, 59, 58, 46, 35, 64, 63, 43, 45, 126, 33, 38, 124, 94, 61, 60, 62, 42]⟩ : ByteArray)[i].toNat : Nat) : Int)) = false := hcb.trans (by rw [beq_eq_false_iff_ne]; exact fun e => heq e.symm)
            have HF3 : Hid (∀ j, (hj : j < ones.size) → j < i + 1 → ones[j] ≠ s[p]) := by
              intro j hj hj2
              rcases Nat.lt_or_ge j i with g | g
              · exact HF2.out j hj g
              · obtain rfl : j = i := by omega
                exact heq
            clear hcb heq hex
            go_wp2
            go_region
            all_goals go_wp2
            all_goals
              go_roundw
              case rel => exact ⟨i + 1, by omega, by go_num, HF3, HW.out.drew⟩
              case measure => simp [intOf]; omega
        · have HK : Hid (sgS l = []) := by
            unfold sgS
            rw [if_neg (by rw [HNO.out]; simp), HHD.out, if_neg (by rw [sgn_none s[p] (fun j hj => HF2.out j hj (by have : ones.size = 24 := rfl; omega))]; simp)]; exact rfl
          go_wp2
          go_ret
          exact ⟨ret_str (by rw [HK.out]; rfl), HW.out⟩
end Go.Proofs.Ytpnhefjiobnelaa

/- Layer 2, the reference: the token at a place: signs. -/
namespace Go.Proofs.Ytpnhefjiobnelaa
open Go.RowKit Lg
set_option linter.unusedVariables false
set_option linter.unusedSimpArgs false

theorem heap3 (w : World) (a b c : Value) (t : TypeId) : (w.alloc (.cells #[a, b, c] t)).heap[w.heap.size]? = some (.cells #[a, b, c] t (0, 0)) := by show (w.heap.push _)[w.heap.size]? = _; simp
theorem cells3 {w : World} {b : Nat} {x0 x1 x2 : Value} {t : TypeId} (h : w.heap[b]? = some (.cells #[x0, x1, x2] t (0, 0))) : w.cell? ⟨b, 0, none⟩ = some x0 ∧ w.cell? ⟨b, 1, none⟩ = some x1 ∧ w.cell? ⟨b, 2, none⟩ = some x2 ∧ (∀ j, w.frozen? ⟨b, j, none⟩ = false) := by
  refine ⟨?_, ?_, ?_, fun j => Lib.frozen_of_heap h j⟩ <;> (rw [Lib.cell_of_heap h]; rfl)
def tokV (k : Int) (x : ByteArray) (p : Int) : Value := .agg #[.int .i64 k, .string x, .int .i64 p]
set_option maxRecDepth 100000 in
set_option maxHeartbeats 2000000 in
theorem one_sign (s : ByteArray) (p : Nat) (w : World) (hs : s.size ≤ 65536) (hp : p < s.size) (h1 : letB s[p] = false) (h2 : digB s[p] = false) (h3 : ¬ s[p] = 96) (x : ByteArray) (hx : S (sgS ((L s).drop p)) = x) (hx0 : x.toList.isEmpty = false) (hxs : x.size ≤ 2) :
    Calls Try.prog 16 #[.string s, .int .i64 p] w fun e w' => e = .returned (.tuple #[tokV 3 x p, .int .i64 ((p : Int) + (x.size : Int)), .int .i64 0]) ∧ Below w.heap.size w w' := by
  have HS := fun w => sign_c s p w hs hp
  rw [hx] at HS
  have h96 : (((s[p].toNat : Nat) : Int) == 96) = false := (cb s[p] 96).trans (by simpa using h3)
  have hpI : (p : Int) < (s.size : Int) := by omega
  clear hx h3
  go_enter Try.func16, Try.ntmps16
  go_wp2_with (first
    | (go_at_call 22; refine (rLetter_c s[p] _).mono ?_; rintro e w' ⟨rfl, hw⟩; have hw2 := hw.symm; subst hw2; rw [h1])
    | (go_at_call 24; refine (rdigit_c s[p] _).mono ?_; rintro e w' ⟨rfl, hw⟩; have hw2 := hw.symm; subst hw2; rw [h2])
    | (go_at_call 26; refine (HS _).mono ?_; rintro e w' ⟨rfl, hb⟩; obtain ⟨d0, d1, d2, df⟩ := cells3 ((hb.block w.heap.size (by simp)).trans (heap3 w _ _ _ _)); have f0 := df 0; have f1 := df 1; have f2 := df 2))
  refine bodyPost_ret (v := .tuple #[tokV 3 x p, .int .i64 ((p : Int) + (x.size : Int)), .int .i64 0]) (by simp [results, Try.results16, go_sem, tokV, d0, d1, d2]) rfl ⟨rfl, ?_⟩
  exact (((bel (belA (Below.refl _ _) _) hb).setCell (Nat.le_refl _) _).setCell (Nat.le_refl _) _).setCell (Nat.le_refl _) _
end Go.Proofs.Ytpnhefjiobnelaa

/- Layer 2, the reference: where no token begins. -/
namespace Go.Proofs.Ytpnhefjiobnelaa
open Go.RowKit Lg
set_option linter.unusedVariables false
set_option linter.unusedSimpArgs false

set_option maxRecDepth 100000 in
set_option maxHeartbeats 2000000 in
theorem one_bad (s : ByteArray) (p : Nat) (w : World) (hs : s.size ≤ 65536) (hp : p < s.size) (h1 : letB s[p] = false) (h2 : digB s[p] = false) (h3 : ¬ s[p] = 96) (hx : sgS ((L s).drop p) = []) :
    Calls Try.prog 16 #[.string s, .int .i64 p] w fun e w' => e = .returned (.tuple #[tokV 0 ⟨#[]⟩ 0, .int .i64 0, .int .i64 20]) ∧ Below w.heap.size w w' := by
  have HS : ∀ w, Calls Try.prog 26 #[.string s, .int .i64 p] w fun e w' => e = .returned (.string ⟨#[]⟩) ∧ Below w.heap.size w w' := fun w => by
    refine (sign_c s p w hs hp).mono ?_
    rintro e w' ⟨rfl, hb⟩
    exact ⟨by rw [hx]; rfl, hb⟩
  have h96 : (((s[p].toNat : Nat) : Int) == 96) = false := (cb s[p] 96).trans (by simpa using h3)
  have hpI : (p : Int) < (s.size : Int) := by omega
  clear hx h3
  go_enter Try.func16, Try.ntmps16
  go_wp2_with (first
    | (go_at_call 22; refine (rLetter_c s[p] _).mono ?_; rintro e w' ⟨rfl, hw⟩; have hw2 := hw.symm; subst hw2; rw [h1])
    | (go_at_call 24; refine (rdigit_c s[p] _).mono ?_; rintro e w' ⟨rfl, hw⟩; have hw2 := hw.symm; subst hw2; rw [h2])
    | (go_at_call 26; refine (HS _).mono ?_; rintro e w' ⟨rfl, hb⟩; obtain ⟨d0, d1, d2, df⟩ := cells3 ((hb.block w.heap.size (by simp)).trans (heap3 w _ _ _ _)); have f0 := df 0; have f1 := df 1; have f2 := df 2))
  refine bodyPost_ret (v := .tuple #[tokV 0 ⟨#[]⟩ 0, .int .i64 0, .int .i64 20]) (by simp [results, Try.results16, go_sem, tokV, d0, d1, d2]) rfl ⟨rfl, ?_⟩
  exact (((bel (belA (Below.refl _ _) _) hb).setCell (Nat.le_refl _) _).setCell (Nat.le_refl _) _).setCell (Nat.le_refl _) _

set_option maxRecDepth 100000 in
set_option maxHeartbeats 2000000 in
theorem one_tick (s : ByteArray) (p : Nat) (w : World) (hs : s.size ≤ 65536) (hp : p < s.size) (h3 : s[p] = 96) (hx : sgS ((L s).drop p) = []) (hn : s.size ≤ p + 1 ∨ ∃ hq : p + 1 < s.size, letB s[p + 1] = false) :
    Calls Try.prog 16 #[.string s, .int .i64 p] w fun e w' => e = .returned (.tuple #[tokV 0 ⟨#[]⟩ 0, .int .i64 0, .int .i64 20]) ∧ Below w.heap.size w w' := by
  have HS : ∀ w, Calls Try.prog 26 #[.string s, .int .i64 p] w fun e w' => e = .returned (.string ⟨#[]⟩) ∧ Below w.heap.size w w' := fun w => by
    refine (sign_c s p w hs hp).mono ?_
    rintro e w' ⟨rfl, hb⟩
    exact ⟨by rw [hx]; rfl, hb⟩
  have h96 : (((s[p].toNat : Nat) : Int) == 96) = true := by rw [h3]; rfl
  have h2 : digB s[p] = false := by rw [h3]; decide
  have hpI : (p : Int) < (s.size : Int) := by omega
  clear hx h3
  rcases hn with hn | ⟨hq, hn⟩
  · have hnI : (s.size : Int) ≤ (p : Int) + 1 := by omega
    go_enter Try.func16, Try.ntmps16
    go_wp2_with (first
      | (go_at_call 24; refine (rdigit_c s[p] _).mono ?_; rintro e w' ⟨rfl, hw⟩; have hw2 := hw.symm; subst hw2; rw [h2])
      | (go_at_call 26; refine (HS _).mono ?_; rintro e w' ⟨rfl, hb⟩; obtain ⟨d0, d1, d2, df⟩ := cells3 ((hb.block w.heap.size (by simp)).trans (heap3 w _ _ _ _)); have f0 := df 0; have f1 := df 1; have f2 := df 2))
    refine bodyPost_ret (v := .tuple #[tokV 0 ⟨#[]⟩ 0, .int .i64 0, .int .i64 20]) (by simp [results, Try.results16, go_sem, tokV, d0, d1, d2]) rfl ⟨rfl, ?_⟩
    exact (((bel (belA (Below.refl _ _) _) hb).setCell (Nat.le_refl _) _).setCell (Nat.le_refl _) _).setCell (Nat.le_refl _) _
  · have hqI : (p : Int) + 1 < (s.size : Int) := by omega
    go_enter Try.func16, Try.ntmps16
    go_wp2_with (first
      | (go_at_call 22; refine (rLetter_c s[p + 1] _).mono ?_; rintro e w' ⟨rfl, hw⟩; have hw2 := hw.symm; subst hw2; rw [hn])
      | (go_at_call 24; refine (rdigit_c s[p] _).mono ?_; rintro e w' ⟨rfl, hw⟩; have hw2 := hw.symm; subst hw2; rw [h2])
      | (go_at_call 26; refine (HS _).mono ?_; rintro e w' ⟨rfl, hb⟩; obtain ⟨d0, d1, d2, df⟩ := cells3 ((hb.block w.heap.size (by simp)).trans (heap3 w _ _ _ _)); have f0 := df 0; have f1 := df 1; have f2 := df 2))
    refine bodyPost_ret (v := .tuple #[tokV 0 ⟨#[]⟩ 0, .int .i64 0, .int .i64 20]) (by simp [results, Try.results16, go_sem, tokV, d0, d1, d2]) rfl ⟨rfl, ?_⟩
    exact (((bel (belA (Below.refl _ _) _) hb).setCell (Nat.le_refl _) _).setCell (Nat.le_refl _) _).setCell (Nat.le_refl _) _
end Go.Proofs.Ytpnhefjiobnelaa

/- Layer 2, the reference: names, and ticks with a name. -/
namespace Go.Proofs.Ytpnhefjiobnelaa
open Go.RowKit Lg
set_option linter.unusedVariables false
set_option linter.unusedSimpArgs false

theorem tw_here (q : UInt8 → Bool) (s : ByteArray) (p i : Nat) (hpi : p ≤ i) (hi : i < s.size) (hall : (((L s).drop p).take (i - p)).all q = true) (hc : q s[i] = false) : (((L s).drop p).takeWhile q).length = i - p := by
  have h2 : ((L s).drop p).drop (i - p) = s[i] :: (L s).drop (i + 1) := by rw [List.drop_drop, show p + (i - p) = i by omega]; exact drop_cons s i hi
  have hlen : (((L s).drop p).take (i - p)).length = i - p := by rw [List.length_take, List.length_drop, len_L]; omega
  have e : (L s).drop p = ((L s).drop p).take (i - p) ++ s[i] :: (L s).drop (i + 1) := by rw [← h2, List.take_append_drop]
  rw [e, List.takeWhile_append_of_pos (by simpa using hall), List.takeWhile_cons, hc, List.length_append, hlen]; simp
theorem tw_end (q : UInt8 → Bool) (s : ByteArray) (p i : Nat) (hpi : p ≤ i) (hi : i = s.size) (hall : (((L s).drop p).take (i - p)).all q = true) : (((L s).drop p).takeWhile q).length = i - p := by
  rw [List.take_of_length_le (by rw [List.length_drop, len_L]; omega)] at hall
  have e : ((L s).drop p ++ []).takeWhile q = (L s).drop p ++ [].takeWhile q := List.takeWhile_append_of_pos (by simpa using hall)
  rw [List.append_nil, List.takeWhile_nil, List.append_nil] at e
  rw [e, List.length_drop, len_L]; omega
theorem tw_next (q : UInt8 → Bool) (s : ByteArray) (p i : Nat) (hpi : p ≤ i) (hi : i < s.size) (hall : (((L s).drop p).take (i - p)).all q = true) (hc : q s[i] = true) : (((L s).drop p).take (i + 1 - p)).all q = true := by
  rw [show i + 1 - p = (i - p) + 1 by omega, List.take_add_one, List.all_append, hall, List.getElem?_drop, show p + (i - p) = i by omega, List.getElem?_eq_getElem (by rw [len_L]; exact hi)]
  show (true && (q s[i] && true)) = true
  rw [hc]; rfl
theorem ext_tw (q : UInt8 → Bool) (s : ByteArray) (p n : Nat) (hn : (((L s).drop p).takeWhile q).length = n) : L (s.extract p (p + n)) = ((L s).drop p).takeWhile q := by
  rw [L_extract, show p + n - p = n by omega, ← hn]
  have := List.takeWhile_append_dropWhile (p := q) (l := (L s).drop p)
  conv => lhs; arg 2; rw [← this]
  rw [List.take_left]

set_option maxRecDepth 100000 in
set_option maxHeartbeats 4000000 in
theorem one_name (s : ByteArray) (p : Nat) (w : World) (hs : s.size ≤ 65536) (hp : p < s.size) (h1 : letB s[p] = true) (n : Nat) (hn : (((L s).drop (p)).takeWhile worB).length = n) (x : ByteArray) (hx : s.extract (p) (p + n) = x) :
    Calls Try.prog 16 #[.string s, .int .i64 p] w fun e w' => (e = if 64 < n then .returned (.tuple #[tokV 0 ⟨#[]⟩ 0, .int .i64 0, .int .i64 4]) else .returned (.tuple #[tokV 1 x p, .int .i64 ((p + n : Nat) : Int), .int .i64 0])) ∧ Below w.heap.size w w' := by
  have h96 : (((s[p].toNat : Nat) : Int) == 96) = false := (cb s[p] 96).trans (by rw [beq_eq_false_iff_ne]; intro e; rw [e] at h1; revert h1; decide)
  have hpI : (p : Int) < (s.size : Int) := by omega
  have HN : Hid _ := hn
  clear hn
  go_enter Try.func16, Try.ntmps16
  go_wp2_with (first
    | (go_at_call 22; refine (rLetter_c s[p] _).mono ?_; rintro e w' ⟨rfl, hw⟩; have hw2 := hw.symm; subst hw2; rw [h1]))
  go_loop [7] (fun iv => ∃ i : Nat, p ≤ i ∧ i ≤ s.size ∧ iv = .int .i64 i ∧ Hid ((((L s).drop (p)).take (i - (p))).all worB = true)) (fun iv => s.size - (intOf iv).toNat)
  case atStart => exact ⟨p, Nat.le_refl _, by omega, by go_num, by rw [Nat.sub_self]; exact rfl⟩
  case round =>
    obtain ⟨i, hi1, hi2, rfl, HA⟩ := hrel
    by_cases hgo : ∃ hlt : i < s.size, worB s[i] = true
    · obtain ⟨hlt, hw⟩ := hgo
      have hltI : (i : Int) < (s.size : Int) := by omega
      have HNX : Hid _ := tw_next worB s (p) i hi1 hlt HA.out hw
      go_wp2_with (first
        | (go_at_call 23; refine (rword_c s[i] _).mono ?_; rintro e w' ⟨rfl, hww⟩; have hw2 := hww.symm; subst hw2; rw [hw]))
      go_round
      case rel => exact ⟨i + 1, by omega, by omega, by go_num, HNX⟩
      case measure => simp [intOf]; omega
    · have hin : i = p + n := by
        rcases Nat.lt_or_ge i s.size with g | g
        · have hw : worB s[i] = false := by
            cases e : worB s[i] with
            | false => rfl
            | true => exact absurd ⟨g, e⟩ hgo
          have := tw_here worB s (p) i hi1 g HA.out hw
          rw [HN.out] at this; omega
        · have := tw_end worB s (p) i hi1 (by omega) HA.out
          rw [HN.out] at this; omega
      have hstop : s.size ≤ i ∨ ∃ hlt : i < s.size, worB s[i] = false := by
        rcases Nat.lt_or_ge i s.size with g | g
        · refine Or.inr ⟨g, ?_⟩
          cases e : worB s[i] with
          | false => rfl
          | true => exact absurd ⟨g, e⟩ hgo
        · exact Or.inl g
      have hx2 : s.extract (p) i = x := by rw [hin]; exact hx
      have HIN : Hid (i = p + n) := hin
      have hdI : (i : Int) - ((p : Nat) : Int) = (n : Int) := by omega
      clear hgo hin hx
      by_cases hbig : 64 < n
      · have hbI : (64 : Int) < (i : Int) - ((p : Nat) : Int) := by omega
        rcases hstop with hst | ⟨hlt, hst⟩
        all_goals
          go_wp2_with (first
            | (go_at_call 23; refine (rword_c s[i] _).mono ?_; rintro e w' ⟨rfl, hww⟩; have hw2 := hww.symm; subst hw2; rw [hst]))
          refine bodyPost_ret (v := .tuple #[tokV 0 ⟨#[]⟩ 0, .int .i64 0, .int .i64 4]) (by simp [results, Try.results16, go_sem, tokV]) rfl ⟨by first | rfl | rw [if_pos hbig], ?_⟩
          repeat (first | exact Below.refl _ _ | refine Below.drew ?_ | refine Below.setCell ?_ (by simp) _ | refine Below.alloc ?_ (by simp) _)
      · have hbI : (i : Int) - ((p : Nat) : Int) ≤ 64 := by omega
        have HI2 : Hid ((i : Int) = ((p + n : Nat) : Int)) := by rw [HIN.out]; exact rfl
        have hPi : ((p : Nat) : Int) ≤ (i : Int) := by omega
        have hiS : (i : Int) ≤ (s.size : Int) := by omega
        rcases hstop with hst | ⟨hlt, hst⟩
        all_goals
          go_wp2_with (first
            | (go_at_call 23; refine (rword_c s[i] _).mono ?_; rintro e w' ⟨rfl, hww⟩; have hw2 := hww.symm; subst hw2; rw [hst]))
          refine bodyPost_ret (v := .tuple #[tokV 1 x p, .int .i64 i, .int .i64 0]) (by simp [results, Try.results16, go_sem, tokV]) rfl ⟨by first | (rw [HI2.out]; simp; done) | (rw [if_neg hbig, HI2.out]), ?_⟩
          repeat (first | exact Below.refl _ _ | refine Below.drew ?_ | refine Below.setCell ?_ (by simp) _ | refine Below.alloc ?_ (by simp) _)

set_option maxRecDepth 100000 in
set_option maxHeartbeats 4000000 in
theorem one_tname (s : ByteArray) (p : Nat) (w : World) (hs : s.size ≤ 65536) (hp : p < s.size) (h3 : s[p] = 96) (hq : p + 1 < s.size) (h1 : letB s[p + 1] = true) (n : Nat) (hn : (((L s).drop (p + 1)).takeWhile worB).length = n) (x : ByteArray) (hx : s.extract (p + 1) (p + 1 + n) = x) :
    Calls Try.prog 16 #[.string s, .int .i64 p] w fun e w' => (e = if 64 < n then .returned (.tuple #[tokV 0 ⟨#[]⟩ 0, .int .i64 0, .int .i64 4]) else .returned (.tuple #[tokV 4 x p, .int .i64 ((p + 1 + n : Nat) : Int), .int .i64 0])) ∧ Below w.heap.size w w' := by
  have h96 : (((s[p].toNat : Nat) : Int) == 96) = true := by rw [h3]; rfl
  have hpI : (p : Int) < (s.size : Int) := by omega
  have hqI : (p : Int) + 1 < (s.size : Int) := by omega
  have HN : Hid _ := hn
  clear hn
  go_enter Try.func16, Try.ntmps16
  go_wp2_with (first
    | (go_at_call 22; refine (rLetter_c s[p + 1] _).mono ?_; rintro e w' ⟨rfl, hw⟩; have hw2 := hw.symm; subst hw2; rw [h1]))
  go_loop [7] (fun iv => ∃ i : Nat, p + 1 ≤ i ∧ i ≤ s.size ∧ iv = .int .i64 i ∧ Hid ((((L s).drop (p + 1)).take (i - (p + 1))).all worB = true)) (fun iv => s.size - (intOf iv).toNat)
  case atStart => exact ⟨p + 1, Nat.le_refl _, by omega, by go_num, by rw [Nat.sub_self]; exact rfl⟩
  case round =>
    obtain ⟨i, hi1, hi2, rfl, HA⟩ := hrel
    by_cases hgo : ∃ hlt : i < s.size, worB s[i] = true
    · obtain ⟨hlt, hw⟩ := hgo
      have hltI : (i : Int) < (s.size : Int) := by omega
      have HNX : Hid _ := tw_next worB s (p + 1) i hi1 hlt HA.out hw
      go_wp2_with (first
        | (go_at_call 23; refine (rword_c s[i] _).mono ?_; rintro e w' ⟨rfl, hww⟩; have hw2 := hww.symm; subst hw2; rw [hw]))
      go_round
      case rel => exact ⟨i + 1, by omega, by omega, by go_num, HNX⟩
      case measure => simp [intOf]; omega
    · have hin : i = p + 1 + n := by
        rcases Nat.lt_or_ge i s.size with g | g
        · have hw : worB s[i] = false := by
            cases e : worB s[i] with
            | false => rfl
            | true => exact absurd ⟨g, e⟩ hgo
          have := tw_here worB s (p + 1) i hi1 g HA.out hw
          rw [HN.out] at this; omega
        · have := tw_end worB s (p + 1) i hi1 (by omega) HA.out
          rw [HN.out] at this; omega
      have hstop : s.size ≤ i ∨ ∃ hlt : i < s.size, worB s[i] = false := by
        rcases Nat.lt_or_ge i s.size with g | g
        · refine Or.inr ⟨g, ?_⟩
          cases e : worB s[i] with
          | false => rfl
          | true => exact absurd ⟨g, e⟩ hgo
        · exact Or.inl g
      have hx2 : s.extract (p + 1) i = x := by rw [hin]; exact hx
      have HIN : Hid (i = p + 1 + n) := hin
      have hdI : (i : Int) - ((p + 1 : Nat) : Int) = (n : Int) := by omega
      clear hgo hin hx
      by_cases hbig : 64 < n
      · have hbI : (64 : Int) < (i : Int) - ((p + 1 : Nat) : Int) := by omega
        rcases hstop with hst | ⟨hlt, hst⟩
        all_goals
          go_wp2_with (first
            | (go_at_call 23; refine (rword_c s[i] _).mono ?_; rintro e w' ⟨rfl, hww⟩; have hw2 := hww.symm; subst hw2; rw [hst]))
          refine bodyPost_ret (v := .tuple #[tokV 0 ⟨#[]⟩ 0, .int .i64 0, .int .i64 4]) (by simp [results, Try.results16, go_sem, tokV]) rfl ⟨by first | rfl | rw [if_pos hbig], ?_⟩
          repeat (first | exact Below.refl _ _ | refine Below.drew ?_ | refine Below.setCell ?_ (by simp) _ | refine Below.alloc ?_ (by simp) _)
      · have hbI : (i : Int) - ((p + 1 : Nat) : Int) ≤ 64 := by omega
        have HI2 : Hid ((i : Int) = ((p + 1 + n : Nat) : Int)) := by rw [HIN.out]; exact rfl
        have hPi : ((p + 1 : Nat) : Int) ≤ (i : Int) := by omega
        have hiS : (i : Int) ≤ (s.size : Int) := by omega
        rcases hstop with hst | ⟨hlt, hst⟩
        all_goals
          go_wp2_with (first
            | (go_at_call 23; refine (rword_c s[i] _).mono ?_; rintro e w' ⟨rfl, hww⟩; have hw2 := hww.symm; subst hw2; rw [hst]))
          refine bodyPost_ret (v := .tuple #[tokV 4 x p, .int .i64 i, .int .i64 0]) (by simp [results, Try.results16, go_sem, tokV]) rfl ⟨by first | (rw [HI2.out]; simp; done) | (rw [if_neg hbig, HI2.out]), ?_⟩
          repeat (first | exact Below.refl _ _ | refine Below.drew ?_ | refine Below.setCell ?_ (by simp) _ | refine Below.alloc ?_ (by simp) _)

end Go.Proofs.Ytpnhefjiobnelaa

/- Layer 2, the reference: numbers. -/
namespace Go.Proofs.Ytpnhefjiobnelaa
open Go.RowKit Lg
set_option linter.unusedVariables false
set_option linter.unusedSimpArgs false

set_option maxRecDepth 100000 in
set_option maxHeartbeats 4000000 in
theorem one_num (s : ByteArray) (p : Nat) (w : World) (hs : s.size ≤ 65536) (hp : p < s.size) (h1 : letB s[p] = false) (h2 : digB s[p] = true) (n : Nat) (hn : (((L s).drop p).takeWhile numB).length = n) (x : ByteArray) (hx : s.extract p (p + n) = x) (E : Int) (hE : numE2 (L x) = E) (hE2 : (E != 0) = true ∨ E = 0) :
    Calls Try.prog 16 #[.string s, .int .i64 p] w fun e w' => (∃ r, e = .returned r ∧ ((E != 0) = true → r = .tuple #[tokV 0 ⟨#[]⟩ 0, .int .i64 0, .int .i64 E]) ∧ (E = 0 → r = .tuple #[tokV 2 x p, .int .i64 ((p + n : Nat) : Int), .int .i64 0])) ∧ Below w.heap.size w w' := by
  have h96 : (((s[p].toNat : Nat) : Int) == 96) = false := (cb s[p] 96).trans (by rw [beq_eq_false_iff_ne]; intro e; rw [e] at h2; revert h2; decide)
  have hpI : (p : Int) < (s.size : Int) := by omega
  have HN : Hid _ := hn
  clear hn
  go_enter Try.func16, Try.ntmps16
  go_wp2_with (first
    | (go_at_call 22; refine (rLetter_c s[p] _).mono ?_; rintro e w' ⟨rfl, hw⟩; have hw2 := hw.symm; subst hw2; rw [h1])
    | (go_at_call 24; refine (rdigit_c s[p] _).mono ?_; rintro e w' ⟨rfl, hw⟩; have hw2 := hw.symm; subst hw2; rw [h2]))
  go_loop [7] (fun iv => ∃ i : Nat, p ≤ i ∧ i ≤ s.size ∧ iv = .int .i64 i ∧ Hid ((((L s).drop p).take (i - p)).all numB = true)) (fun iv => s.size - (intOf iv).toNat)
  case atStart => exact ⟨p, Nat.le_refl _, by omega, by go_num, by rw [Nat.sub_self]; exact rfl⟩
  case round =>
    obtain ⟨i, hi1, hi2, rfl, HA⟩ := hrel
    by_cases hgo : ∃ hlt : i < s.size, numB s[i] = true
    · obtain ⟨hlt, hw⟩ := hgo
      have hltI : (i : Int) < (s.size : Int) := by omega
      have HNX : Hid _ := tw_next numB s p i hi1 hlt HA.out hw
      cases hwo : worB s[i] with
      | true =>
        clear hw
        go_wp2_with (first
          | (go_at_call 23; refine (rword_c s[i] _).mono ?_; rintro e w' ⟨rfl, hww⟩; have hw2 := hww.symm; subst hw2; rw [hwo]))
        go_round
        case rel => exact ⟨i + 1, by omega, by omega, by go_num, HNX⟩
        case measure => simp [intOf]; omega
      | false =>
        have h39 : (((s[i].toNat : Nat) : Int) == 39) = true := (cb s[i] 39).trans (by unfold numB at hw; rw [hwo] at hw; simpa using hw)
        clear hw
        go_wp2_with (first
          | (go_at_call 23; refine (rword_c s[i] _).mono ?_; rintro e w' ⟨rfl, hww⟩; have hw2 := hww.symm; subst hw2; rw [hwo]))
        go_round
        case rel => exact ⟨i + 1, by omega, by omega, by go_num, HNX⟩
        case measure => simp [intOf]; omega
    · have hfalse : ∀ hlt : i < s.size, numB s[i] = false := fun g => by
        cases e : numB s[i] with
        | false => rfl
        | true => exact absurd ⟨g, e⟩ hgo
      have hin : i = p + n := by
        rcases Nat.lt_or_ge i s.size with g | g
        · have := tw_here numB s p i hi1 g HA.out (hfalse g)
          rw [HN.out] at this; omega
        · have := tw_end numB s p i hi1 (by omega) HA.out
          rw [HN.out] at this; omega
      have hstop : s.size ≤ i ∨ ∃ hlt : i < s.size, worB s[i] = false ∧ (((s[i].toNat : Nat) : Int) == 39) = false := by
        rcases Nat.lt_or_ge i s.size with g | g
        · refine Or.inr ⟨g, ?_⟩
          have hf := hfalse g
          unfold numB at hf
          rw [Bool.or_eq_false_iff] at hf
          exact ⟨hf.1, (cb s[i] 39).trans hf.2⟩
        · exact Or.inl g
      have hx2 : s.extract p i = x := by rw [hin]; exact hx
      have HI2 : Hid ((i : Int) = ((p + n : Nat) : Int)) := by rw [hin]; exact rfl
      have hxs : x.size ≤ 2000000 := by rw [← len_L, ← hx, L_extract, List.length_take, List.length_drop, len_L]; omega
      have HNU := fun w => rNumber_c x w hxs
      rw [hE] at HNU
      have hPi : (p : Int) ≤ (i : Int) := by omega
      have hiS : (i : Int) ≤ (s.size : Int) := by omega
      clear hgo hin hx hfalse
      rcases hE2 with e0 | rfl
      · rcases hstop with hst | ⟨hlt, hst, h39⟩
        all_goals
          go_wp2_with (first
            | (go_at_call 23; refine (rword_c s[i] _).mono ?_; rintro e w' ⟨rfl, hww⟩; have hw2 := hww.symm; subst hw2; rw [hst])
            | (go_at_call 25; refine (HNU _).mono ?_; rintro e w' ⟨rfl, hb⟩; obtain ⟨d0, d1, d2, df⟩ := cells3 ((hb.block w.heap.size (by simp)).trans (heap3 w _ _ _ _)); have f0 := df 0; have f1 := df 1; have f2 := df 2))
          refine bodyPost_ret (v := .tuple #[tokV 0 ⟨#[]⟩ 0, .int .i64 0, .int .i64 E]) (by simp [results, Try.results16, go_sem, tokV, d0, d1, d2]) rfl ⟨⟨_, rfl, fun _ => rfl, fun g => by rw [g] at e0; cases e0⟩, ?_⟩
          exact (((bel (belA (Below.refl _ _) _) hb).setCell (Nat.le_refl _) _).setCell (Nat.le_refl _) _).setCell (Nat.le_refl _) _
      · rcases hstop with hst | ⟨hlt, hst, h39⟩
        all_goals
          go_wp2_with (first
            | (go_at_call 23; refine (rword_c s[i] _).mono ?_; rintro e w' ⟨rfl, hww⟩; have hw2 := hww.symm; subst hw2; rw [hst])
            | (go_at_call 25; refine (HNU _).mono ?_; rintro e w' ⟨rfl, hb⟩; obtain ⟨d0, d1, d2, df⟩ := cells3 ((hb.block w.heap.size (by simp)).trans (heap3 w _ _ _ _)); have f0 := df 0; have f1 := df 1; have f2 := df 2))
          refine bodyPost_ret (v := .tuple #[tokV 2 x p, .int .i64 i, .int .i64 0]) (by simp [results, Try.results16, go_sem, tokV, d0, d1, d2]) rfl ⟨by rw [HI2.out]; simp, ?_⟩
          exact (((bel (belA (Below.refl _ _) _) hb).setCell (Nat.le_refl _) _).setCell (Nat.le_refl _) _).setCell (Nat.le_refl _) _
end Go.Proofs.Ytpnhefjiobnelaa
