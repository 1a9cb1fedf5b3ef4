/- Texts YG YH YN, joined: what each part says stands ahead of it. -/
import Derived.Test.YtpnhefjiobnelaaGYb
import Derived.Test.YtpnhefjiobnelaaGM
/- Layer 2, the reference: where a comment ends. -/
namespace Go.Proofs.Ytpnhefjiobnelaa
open Go.RowKit Lg
set_option linter.unusedVariables false
set_option linter.unusedSimpArgs false

def not10 (c : UInt8) : Bool := c != 10
theorem ix_tw (l : List UInt8) : (if 0 ≤ Lib.indexByte l 10 then (Lib.indexByte l 10).toNat else l.length) = (l.takeWhile not10).length := by
  induction l with
  | nil => rfl
  | cons c l ih =>
    by_cases hc : c = 10
    · subst hc; simp [Lib.indexByte, List.takeWhile_cons, not10]
    · have h1 : (c == 10) = false := by simpa using hc
      have h2 : not10 c = true := by simpa [not10] using hc
      have hge := Lib.indexByte_ge l 10
      have e : Lib.indexByte (c :: l) 10 = if Lib.indexByte l 10 = -1 then -1 else Lib.indexByte l 10 + 1 := by simp [Lib.indexByte, hc]
      have e2 : ((c :: l).takeWhile not10).length = (l.takeWhile not10).length + 1 := by rw [List.takeWhile_cons, h2]; rfl
      rw [e2, ← ih]
      by_cases h3 : Lib.indexByte l 10 = -1
      · rw [if_pos h3] at e
        rw [if_neg (by omega), if_neg (by omega)]; rfl
      · rw [if_neg h3] at e
        rw [if_pos (by omega), if_pos (by omega)]
        omega
theorem com_line {l : List UInt8} (h : Lib.hasPrefix l [47, 47] = true) : comW l = (l.takeWhile not10).length := by
  unfold comW; rw [if_pos h]; exact ix_tw l
theorem tw_split (q : UInt8 → Bool) (a b : List UInt8) (ha : a.all q = true) : (a ++ b).takeWhile q = a ++ b.takeWhile q := List.takeWhile_append_of_pos (by simpa using ha)
/-- where the comment at a place ends, or -1 -/
def behI (l : List UInt8) (p : Nat) : Int := if comW (l.drop p) = 0 then -1 else ((p + comW (l.drop p) : Nat) : Int)

set_option maxHeartbeats 4000000 in
theorem behind_1 (s : ByteArray) (p : Nat) (w : World) (hs : s.size ≤ 65536) (hp : p < s.size) (h1 : Lib.hasPrefix ((L s).drop p) [47, 47] = true) :
    Calls Try.prog 15 #[.string s, .int .i64 p] w fun e w' => e = .returned (.int .i64 (behI (L s) p)) ∧ w' = w := by
  have HB := fun t w ht => begins_c s t p w hs (Nat.le_of_lt hp) ht
  have hcl := com_line h1
  have hc0 : comW ((L s).drop p) ≠ 0 := by
    rw [hcl, drop_cons s p hp]
    have : s[p] = 47 := by
      rw [drop_cons s p hp] at h1
      cases hr : (L s).drop (p + 1) with
      | nil => rw [hr] at h1; simp [Lib.hasPrefix, List.isPrefixOf] at h1
      | cons d r => rw [hr] at h1; simp [Lib.hasPrefix, List.isPrefixOf] at h1; exact h1.1.symm
    rw [this, List.takeWhile_cons]; simp [not10]
  have HK : Hid (behI (L s) p = ((p + (((L s).drop p).takeWhile not10).length : Nat) : Int)) := by unfold behI; rw [if_neg hc0, hcl]; exact rfl
  have HH : Hid _ := h1
  clear hcl hc0 h1
  go_enter Try.func15, Try.ntmps15
  go_wp2_with (first | (go_at_call 14; refine (HB _ _ (by decide)).mono ?_; rintro e w' ⟨rfl, rfl⟩; rw [show Lib.hasPrefix ((L s).drop p) (L ⟨#[47, 47]⟩) = true from HH.out]))
  go_loop [1] (fun iv => ∃ i : Nat, p ≤ i ∧ i ≤ s.size ∧ iv = .int .i64 i ∧ Hid ((((L s).drop p).take (i - p)).all not10 = true)) (fun iv => s.size - (intOf iv).toNat)
  case atStart => exact ⟨p, Nat.le_refl _, Nat.le_of_lt hp, rfl, by rw [Nat.sub_self]; exact rfl⟩
  case round =>
    obtain ⟨i, hi1, hi2, rfl, HA⟩ := hrel
    by_cases hlt : i < s.size
    · have hdd : (L s).drop p = ((L s).drop p).take (i - p) ++ s[i] :: (L s).drop (i + 1) := by
        have h2 : ((L s).drop p).drop (i - p) = s[i] :: (L s).drop (i + 1) := by rw [List.drop_drop, show p + (i - p) = i by omega]; exact drop_cons s i hlt
        rw [← h2, List.take_append_drop]
      have hlen : (((L s).drop p).take (i - p)).length = i - p := by rw [List.length_take, List.length_drop, len_L]; omega
      by_cases hc : s[i] = 10
      · have hcb : (((s[i].toNat : Nat) : Int) != 10) = false := by show (!(((s[i].toNat : Nat) : Int) == 10)) = false; rw [hc]; rfl
        have HE : Hid (p + (((L s).drop p).takeWhile not10).length = i) := by
          rw [hdd, tw_split _ _ _ HA.out, List.takeWhile_cons, hc, List.length_append, hlen]
          simp [not10, Hid]; omega
        clear hdd hlen hc
        go_wp2
        go_ret
        exact ⟨ret_int (by rw [HK.out, HE.out]), rfl⟩
      · have hcb : (((s[i].toNat : Nat) : Int) != 10) = true := by show (!(((s[i].toNat : Nat) : Int) == 10)) = true; rw [show (((s[i].toNat : Nat) : Int) == 10) = false from (cb s[i] 10).trans (by simpa using hc)]; rfl
        have HN : Hid ((((L s).drop p).take (i + 1 - p)).all not10 = true) := by
          rw [show i + 1 - p = (i - p) + 1 by omega, List.take_add_one, List.all_append, HA.out, List.getElem?_drop, show p + (i - p) = i by omega, List.getElem?_eq_getElem (by rw [len_L]; exact hlt)]
          show (true && not10 s[i] && true) = true
          simpa [not10] using hc
        clear hdd hlen hc
        go_wp2
        go_round
        case rel => exact ⟨i + 1, by omega, by omega, by go_num, HN⟩
        case measure => simp [intOf]; omega
    · have HE : Hid (p + (((L s).drop p).takeWhile not10).length = i) := by
        have := HA.out
        rw [List.take_of_length_le (by rw [List.length_drop, len_L]; omega)] at this
        have e := tw_split not10 ((L s).drop p) [] this
        rw [List.append_nil, List.takeWhile_nil, List.append_nil] at e
        rw [e, List.length_drop, len_L]
        show _ = _
        omega
      go_wp2
      go_ret
      exact ⟨ret_int (by rw [HK.out, HE.out]), rfl⟩
end Go.Proofs.Ytpnhefjiobnelaa

/- Layer 2, the reference: where a comment of the other kind ends. -/
namespace Go.Proofs.Ytpnhefjiobnelaa
open Go.RowKit Lg
set_option linter.unusedVariables false
set_option linter.unusedSimpArgs false

set_option maxHeartbeats 4000000 in
theorem behind_2 (s : ByteArray) (p : Nat) (w : World) (hs : s.size ≤ 65536) (hp : p < s.size) (h1 : Lib.hasPrefix ((L s).drop p) [47, 47] = false) (h2 : Lib.hasPrefix ((L s).drop p) [47, 42] = true) :
    Calls Try.prog 15 #[.string s, .int .i64 p] w fun e w' => e = .returned (.int .i64 (behI (L s) p)) ∧ w' = w := by
  have HB := fun t q w hq ht => begins_c s t q w hs hq ht
  have hlen : p + 2 ≤ s.size := by
    rcases Nat.lt_or_ge s.size (p + 2) with g | g
    · rw [pre_short _ _ (by rw [List.length_drop, len_L]; simp; omega)] at h2; cases h2
    · exact g
  have hcw : comW ((L s).drop p) = if 0 ≤ Lib.index ((L s).drop (p + 2)) [42, 47] then 2 + (Lib.index ((L s).drop (p + 2)) [42, 47]).toNat + 2 else 0 := by
    unfold comW; rw [if_neg (by rw [h1]; simp), if_pos h2, List.drop_drop]
  have HCW : Hid _ := hcw
  have H1 : Hid _ := h1
  have H2 : Hid _ := h2
  clear hcw h1 h2
  go_enter Try.func15, Try.ntmps15
  go_wp2_with (first
    | (go_at_call_of 14 (Value.string ⟨#[47, 47]⟩); refine (HB _ p _ (Nat.le_of_lt hp) (by decide)).mono ?_; rintro e w' ⟨rfl, rfl⟩; rw [show Lib.hasPrefix ((L s).drop p) (L ⟨#[47, 47]⟩) = false from H1.out])
    | (go_at_call 14; refine (HB _ p _ (Nat.le_of_lt hp) (by decide)).mono ?_; rintro e w' ⟨rfl, rfl⟩; rw [show Lib.hasPrefix ((L s).drop p) (L ⟨#[47, 42]⟩) = true from H2.out]))
  go_loop [5] (fun iv => ∃ i : Nat, p + 2 ≤ i ∧ i ≤ s.size ∧ iv = .int .i64 i ∧ Hid (∀ j, p + 2 ≤ j → j < i → Lib.hasPrefix ((L s).drop j) [42, 47] = false)) (fun iv => s.size - (intOf iv).toNat)
  case atStart => exact ⟨p + 2, Nat.le_refl _, hlen, by go_num, fun j a b => by omega⟩
  case round =>
    obtain ⟨i, hi1, hi2, rfl, HA⟩ := hrel
    by_cases hlt : i < s.size
    · cases hb : Lib.hasPrefix ((L s).drop i) [42, 47] with
      | true =>
        have hix : Lib.index ((L s).drop (p + 2)) [42, 47] = ((i - (p + 2) : Nat) : Int) := by
          refine Lib.index_first (by rw [List.length_drop, len_L]; omega) ?_ ?_
          · show List.isPrefixOf _ _ = true
            rw [List.drop_drop, show p + 2 + (i - (p + 2)) = i by omega]; exact hb
          · intro j hj
            show List.isPrefixOf _ _ = false
            rw [List.drop_drop]; exact HA.out (p + 2 + j) (by omega) (by omega)
        have HK : Hid (behI (L s) p = (i : Int) + 2) := by
          have e := HCW.out
          rw [hix, if_pos (by omega), Int.toNat_natCast] at e
          unfold behI
          rw [e, if_neg (by omega)]
          show ((p + (2 + (i - (p + 2)) + 2) : Nat) : Int) = (i : Int) + 2
          omega
        clear hix
        go_wp2_with (first | (go_at_call 14; refine (HB _ i _ (Nat.le_of_lt hlt) (by decide)).mono ?_; rintro e w' ⟨rfl, rfl⟩; rw [show Lib.hasPrefix ((L s).drop i) (L ⟨#[42, 47]⟩) = true from hb]))
        go_ret
        exact ⟨ret_int (by rw [HK.out]), rfl⟩
      | false =>
        have HN : Hid (∀ j, p + 2 ≤ j → j < i + 1 → Lib.hasPrefix ((L s).drop j) [42, 47] = false) := by
          intro j a b
          rcases Nat.lt_or_ge j i with g | g
          · exact HA.out j a g
          · obtain rfl : j = i := by omega
            exact hb
        go_wp2_with (first | (go_at_call 14; refine (HB _ i _ (Nat.le_of_lt hlt) (by decide)).mono ?_; rintro e w' ⟨rfl, rfl⟩; rw [show Lib.hasPrefix ((L s).drop i) (L ⟨#[42, 47]⟩) = false from hb]))
        go_round
        case rel => exact ⟨i + 1, by omega, by omega, by go_num, HN⟩
        case measure => simp [intOf]; omega
    · have hix : Lib.index ((L s).drop (p + 2)) [42, 47] = -1 := by
        refine Lib.index_none fun j hj => ?_
        show List.isPrefixOf _ _ = false
        rw [List.drop_drop]
        rw [List.length_drop, len_L] at hj
        rcases Nat.lt_or_ge (p + 2 + j) i with g | g
        · exact HA.out (p + 2 + j) (by omega) g
        · rw [drop_all s (p + 2 + j) (by omega)]; rfl
      have HK : Hid (behI (L s) p = -1) := by
        have e := HCW.out
        rw [hix, if_neg (by omega)] at e
        unfold behI; rw [if_pos e]; exact rfl
      clear hix
      go_wp2
      go_ret
      exact ⟨ret_int (by rw [HK.out]), rfl⟩
end Go.Proofs.Ytpnhefjiobnelaa

/- Layer 2, the reference: the token at a place, whatever stands there. -/
namespace Go.Proofs.Ytpnhefjiobnelaa
open Go.RowKit Lg
set_option linter.unusedVariables false
set_option linter.unusedSimpArgs false

theorem sgS_cons (c : UInt8) (r : List UInt8) : sgS (c :: r) = if sgnB c then (c :: r).take (sgW (c :: r)) else [] := by
  unfold sgS sgW
  by_cases h : twos.contains ((c :: r).take 2) = true
  · rw [if_pos h, if_pos h]
    have : sgnB c = true := by
      match r, h with
      | [], h => simp [twos] at h
      | d :: r, h =>
        simp [twos] at h
        rcases h with h | h | h | h | h | h | h | h <;> (rw [h.1]; decide)
    rw [if_pos this]
  · rw [if_neg h, if_neg h]; rfl
theorem stp_let (df : Bool) {c : UInt8} (r : List UInt8) (h : letB c = true) : stp df c r = if 64 < (wordL (c :: r)).length then .err 4 else .tk 1 (wordL (c :: r)) (wordL (c :: r)).length := by
  have hk : kinds c = 7 := by unfold kinds; rw [if_pos h]
  have h1 : c ≠ 10 := by rintro rfl; revert h; decide
  have h2 : c ≠ 47 := by rintro rfl; revert h; decide
  have h3 : c ≠ 96 := by rintro rfl; revert h; decide
  unfold stp
  rw [if_neg (fun e => h1 e.1), if_neg (by rw [hk]; decide), if_neg h2, if_neg h3, if_pos h]
theorem stp_dig (df : Bool) {c : UInt8} (r : List UInt8) (h0 : letB c = false) (h : digB c = true) : stp df c r = match numV (numbL (c :: r)) with | none => .err 21 | some _ => .tk 2 (numbL (c :: r)) (numbL (c :: r)).length := by
  have hk : kinds c = 6 := by unfold kinds; rw [if_neg (by rw [h0]; simp), if_pos h]
  have h1 : c ≠ 10 := by rintro rfl; revert h; decide
  have h2 : c ≠ 47 := by rintro rfl; revert h; decide
  have h3 : c ≠ 96 := by rintro rfl; revert h; decide
  unfold stp
  rw [if_neg (fun e => h1 e.1), if_neg (by rw [hk]; decide), if_neg h2, if_neg h3, if_neg (by rw [h0]; simp), if_pos h]
  cases numV (numbL (c :: r)) <;> rfl
theorem stp_sgn (df : Bool) {c : UInt8} (r : List UInt8) (h0 : letB c = false) (h4 : digB c = false) (h : sgnB c = true) (hk : kinds c = 128) : stp df c r = .tk 3 ((c :: r).take (sgW (c :: r))) (sgW (c :: r)) := by
  have h1 : c ≠ 10 := by rintro rfl; revert h; decide
  have h2 : c ≠ 47 := by rintro rfl; revert h; decide
  have h3 : c ≠ 96 := by rintro rfl; revert h; decide
  unfold stp
  rw [if_neg (fun e => h1 e.1), if_neg (by rw [hk]; decide), if_neg h2, if_neg h3, if_neg (by rw [h0]; simp), if_neg (by rw [h4]; simp), if_pos h]
theorem stp_oth (df : Bool) {c : UInt8} (r : List UInt8) (h0 : letB c = false) (h4 : digB c = false) (h : sgnB c = false) (h1 : c ≠ 10) (hk : ¬ (kinds c = 24 ∨ kinds c = 8)) (h2 : c ≠ 47) (h3 : c ≠ 96) : stp df c r = .err 20 := by
  unfold stp
  rw [if_neg (fun e => h1 e.1), if_neg hk, if_neg h2, if_neg h3, if_neg (by rw [h0]; simp), if_neg (by rw [h4]; simp), if_neg (by rw [h]; simp)]
theorem stp_tick (df : Bool) (r : List UInt8) : stp df 96 r = tickP r := by
  unfold stp
  rw [if_neg (fun e => absurd e.1 (by decide)), if_neg (by decide), if_neg (by decide), if_pos rfl]
theorem stp_com (df : Bool) (r : List UInt8) : stp df 47 r = if comW (47 :: r) = 0 then .err 20 else .skip (comW (47 :: r)) := by
  unfold stp
  rw [if_neg (fun e => absurd e.1 (by decide)), if_neg (by decide), if_pos rfl]
theorem com_none {l : List UInt8} (h1 : Lib.hasPrefix l [47, 47] = false) (h2 : Lib.hasPrefix l [47, 42] = false) : comW l = 0 := by
  unfold comW; rw [if_neg (by rw [h1]; simp), if_neg (by rw [h2]; simp)]

def OneOut (p : Nat) : Stp → Ending → Prop
  | .skip _, _ => False
  | .tk k x n, e => e = .returned (.tuple #[tokV k (S x) p, .int .i64 ((p + n : Nat) : Int), .int .i64 0])
  | .err c, e => e = .returned (.tuple #[tokV 0 ⟨#[]⟩ 0, .int .i64 0, .int .i64 c])
theorem rOne_c (s : ByteArray) (p : Nat) (w : World) (df : Bool) (hs : s.size ≤ 65536) (hp : p < s.size) (hk1 : kinds s[p] ≠ 24) (hk2 : kinds s[p] ≠ 8) (hc1 : Lib.hasPrefix ((L s).drop p) [47, 47] = false) (hc2 : Lib.hasPrefix ((L s).drop p) [47, 42] = false) :
    Calls Try.prog 16 #[.string s, .int .i64 p] w fun e w' => OneOut p (stp df s[p] ((L s).drop (p + 1))) e ∧ Below w.heap.size w w' := by
  have hcr := drop_cons s p hp
  rcases kcases s[p] with h | h | h | h | h | h | h | h | h
  · rw [stp_let df _ h.1]
    refine (one_name s p w hs hp h.1 _ rfl _ rfl).mono ?_
    rintro e w' ⟨rfl, hb⟩
    refine ⟨?_, hb⟩
    rw [← hcr]
    have e1 : (wordL ((L s).drop p)).length = (((L s).drop p).takeWhile worB).length := rfl
    by_cases hl : 64 < (wordL ((L s).drop p)).length
    · rw [if_pos hl, if_pos (by rw [← e1]; exact hl)]; rfl
    · rw [if_neg hl, if_neg (by rw [← e1]; exact hl)]
      have e2 : s.extract p (p + (((L s).drop p).takeWhile worB).length) = S (wordL ((L s).drop p)) := by apply L_inj; rw [ext_tw worB s p _ rfl, L_S]; rfl
      rw [e2]; rfl
  · rw [stp_dig df _ h.1 h.2.1]
    rw [← hcr]
    have e2 : s.extract p (p + (((L s).drop p).takeWhile numB).length) = S (numbL ((L s).drop p)) := by apply L_inj; rw [ext_tw numB s p _ rfl, L_S]; rfl
    have e3 : numE2 (L (s.extract p (p + (((L s).drop p).takeWhile numB).length))) = numE2 (numbL ((L s).drop p)) := by rw [e2, L_S]
    cases hv : numV (numbL ((L s).drop p)) with
    | none =>
      refine (one_num s p w hs hp h.1 h.2.1 _ rfl _ rfl 21 (by rw [e3, (num_none hv).2.2]) (Or.inl (by decide))).mono ?_
      rintro e w' ⟨⟨r, rfl, ha, _⟩, hb⟩
      exact ⟨by rw [ha (by decide)]; rfl, hb⟩
    | some v =>
      refine (one_num s p w hs hp h.1 h.2.1 _ rfl _ rfl 0 (by rw [e3, (num_some (v := v.1) (b := v.2) hv).2.2]) (Or.inr rfl)).mono ?_
      rintro e w' ⟨⟨r, rfl, _, ha⟩, hb⟩
      exact ⟨by rw [ha rfl, e2]; rfl, hb⟩
  · rw [stp_oth df _ (by rw [h.1]; decide) (by rw [h.1]; decide) (by rw [h.1]; decide) (by rw [h.1]; decide) (by rw [h.2]; decide) (by rw [h.1]; decide) (by rw [h.1]; decide)]
    exact one_bad s p w hs hp (by rw [h.1]; decide) (by rw [h.1]; decide) (by rw [h.1]; decide) (by rw [hcr, sgS_cons, if_neg (by rw [h.1]; decide)])
  · exact absurd h.2 hk1
  · exact absurd h.2 hk2
  · rw [h.1, stp_com, if_pos (by rw [← h.1, ← hcr]; exact com_none hc1 hc2)]
    exact one_bad s p w hs hp (by rw [h.1]; decide) (by rw [h.1]; decide) (by rw [h.1]; decide) (by rw [hcr, sgS_cons, if_neg (by rw [h.1]; decide)])
  · rw [h.1, stp_tick]
    have hsg : sgS ((L s).drop p) = [] := by rw [hcr, sgS_cons, if_neg (by rw [h.1]; decide)]
    unfold tickP
    by_cases hq : p + 1 < s.size
    · have hcr2 := drop_cons s (p + 1) hq
      have hhd : hd0 ((L s).drop (p + 1)) = s[p + 1] := by rw [hcr2]; rfl
      cases hlt : letB s[p + 1] with
      | false =>
        rw [if_pos (Or.inr (by rw [hhd]; exact hlt))]
        exact one_tick s p w hs hp h.1 hsg (Or.inr ⟨hq, hlt⟩)
      | true =>
        rw [if_neg (fun e => e.elim (fun e => by rw [hcr2] at e; cases e) (fun e => by rw [hhd, hlt] at e; cases e))]
        refine (one_tname s p w hs hp h.1 hq hlt _ rfl _ rfl).mono ?_
        rintro e w' ⟨rfl, hb⟩
        refine ⟨?_, hb⟩
        have e1 : (wordL ((L s).drop (p + 1))).length = (((L s).drop (p + 1)).takeWhile worB).length := rfl
        by_cases hl : 64 < (wordL ((L s).drop (p + 1))).length
        · rw [if_pos hl, if_pos (by rw [← e1]; exact hl)]; rfl
        · rw [if_neg hl, if_neg (by rw [← e1]; exact hl)]
          have e2 : s.extract (p + 1) (p + 1 + (((L s).drop (p + 1)).takeWhile worB).length) = S (wordL ((L s).drop (p + 1))) := by apply L_inj; rw [ext_tw worB s (p + 1) _ rfl, L_S]; rfl
          rw [e2, ← e1]
          show _ = Ending.returned (.tuple #[tokV 4 (S (wordL ((L s).drop (p + 1)))) p, .int .i64 ((p + (1 + (wordL ((L s).drop (p + 1))).length) : Nat) : Int), .int .i64 0])
          rw [Nat.add_assoc]
    · rw [if_pos (Or.inl (drop_all s (p + 1) (by omega)))]
      exact one_tick s p w hs hp h.1 hsg (Or.inl (by omega))
  · rw [stp_sgn df _ h.1 h.2.1 h.2.2.1 h.2.2.2]
    have hsg : sgS ((L s).drop p) = (s[p] :: (L s).drop (p + 1)).take (sgW (s[p] :: (L s).drop (p + 1))) := by rw [hcr, sgS_cons, if_pos h.2.2.1]
    have hw := sgW_le (c := s[p]) (r := (L s).drop (p + 1))
    have hle : sgW (s[p] :: (L s).drop (p + 1)) ≤ 2 := by unfold sgW; split <;> omega
    have hsz : (S (sgS ((L s).drop p))).size = sgW (s[p] :: (L s).drop (p + 1)) := by rw [size_S, hsg, List.length_take]; omega
    refine (one_sign s p w hs hp h.1 h.2.1 (by intro e; have := h.2.2.1; rw [e] at this; revert this; decide) _ rfl (by rw [toL, L_S, hsg, List.isEmpty_eq_false_iff]; intro e; have := congrArg List.length e; rw [List.length_take] at this; simp at this; omega) (by rw [hsz]; exact hle)).mono ?_
    rintro e w' ⟨rfl, hb⟩
    refine ⟨?_, hb⟩
    rw [hsz, hsg]
    rfl
  · rw [stp_oth df _ h.1 h.2.1 h.2.2.1 h.2.2.2.2.1 (by rw [h.2.2.2.2.2.2.2.2.2.2]; decide) h.2.2.2.2.2.2.2.2.1 h.2.2.2.2.2.2.2.2.2.1]
    exact one_bad s p w hs hp h.1 h.2.1 h.2.2.2.2.2.2.2.2.2.1 (by rw [hcr, sgS_cons, if_neg (by rw [h.2.2.1]; simp)])
end Go.Proofs.Ytpnhefjiobnelaa
