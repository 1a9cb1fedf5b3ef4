/- Layer 2, the reference: the token at a place, whatever stands there. -/
import Derived.Test.YthdhmlojihpfkaaGreatYM
import Derived.Test.YthdhmlojihpfkaaGreatYH
import Derived.Test.YthdhmlojihpfkaaGreatGM
namespace Go.Proofs.YthdhmlojihpfkaaGreat
open Go.RowKit Lg
set_option linter.unusedVariables false
set_option linter.unusedSimpArgs false

theorem sgS_cons (c : UInt8) (r : List UInt8) : sgS (c :: r) = if sgnB c then (c :: r).take (sgW (c :: r)) else [] := by
  unfold sgS sgW
  by_cases h : twos.contains ((c :: r).take 2) = true
  · rw [if_pos h, if_pos h]
    have : sgnB c = true := by
      match r, h with
      | [], h => simp [twos] at h
      | d :: r, h =>
        simp [twos] at h
        rcases h with h | h | h | h | h | h | h | h <;> (rw [h.1]; decide)
    rw [if_pos this]
  · rw [if_neg h, if_neg h]; rfl
theorem stp_let (df : Bool) {c : UInt8} (r : List UInt8) (h : letB c = true) : stp df c r = if 64 < (wordL (c :: r)).length then .err 4 else .tk 1 (wordL (c :: r)) (wordL (c :: r)).length := by
  have hk : kinds c = 7 := by unfold kinds; rw [if_pos h]
  have h1 : c ≠ 10 := by rintro rfl; revert h; decide
  have h2 : c ≠ 47 := by rintro rfl; revert h; decide
  have h3 : c ≠ 96 := by rintro rfl; revert h; decide
  unfold stp
  rw [if_neg (fun e => h1 e.1), if_neg (by rw [hk]; decide), if_neg h2, if_neg h3, if_pos h]
theorem stp_dig (df : Bool) {c : UInt8} (r : List UInt8) (h0 : letB c = false) (h : digB c = true) : stp df c r = match numV (numbL (c :: r)) with | none => .err 21 | some _ => .tk 2 (numbL (c :: r)) (numbL (c :: r)).length := by
  have hk : kinds c = 6 := by unfold kinds; rw [if_neg (by rw [h0]; simp), if_pos h]
  have h1 : c ≠ 10 := by rintro rfl; revert h; decide
  have h2 : c ≠ 47 := by rintro rfl; revert h; decide
  have h3 : c ≠ 96 := by rintro rfl; revert h; decide
  unfold stp
  rw [if_neg (fun e => h1 e.1), if_neg (by rw [hk]; decide), if_neg h2, if_neg h3, if_neg (by rw [h0]; simp), if_pos h]
  cases numV (numbL (c :: r)) <;> rfl
theorem stp_sgn (df : Bool) {c : UInt8} (r : List UInt8) (h0 : letB c = false) (h4 : digB c = false) (h : sgnB c = true) (hk : kinds c = 128) : stp df c r = .tk 3 ((c :: r).take (sgW (c :: r))) (sgW (c :: r)) := by
  have h1 : c ≠ 10 := by rintro rfl; revert h; decide
  have h2 : c ≠ 47 := by rintro rfl; revert h; decide
  have h3 : c ≠ 96 := by rintro rfl; revert h; decide
  unfold stp
  rw [if_neg (fun e => h1 e.1), if_neg (by rw [hk]; decide), if_neg h2, if_neg h3, if_neg (by rw [h0]; simp), if_neg (by rw [h4]; simp), if_pos h]
theorem stp_oth (df : Bool) {c : UInt8} (r : List UInt8) (h0 : letB c = false) (h4 : digB c = false) (h : sgnB c = false) (h1 : c ≠ 10) (hk : ¬ (kinds c = 24 ∨ kinds c = 8)) (h2 : c ≠ 47) (h3 : c ≠ 96) : stp df c r = .err 20 := by
  unfold stp
  rw [if_neg (fun e => h1 e.1), if_neg hk, if_neg h2, if_neg h3, if_neg (by rw [h0]; simp), if_neg (by rw [h4]; simp), if_neg (by rw [h]; simp)]
theorem stp_tick (df : Bool) (r : List UInt8) : stp df 96 r = tickP r := by
  unfold stp
  rw [if_neg (fun e => absurd e.1 (by decide)), if_neg (by decide), if_neg (by decide), if_pos rfl]
theorem stp_com (df : Bool) (r : List UInt8) : stp df 47 r = if comW (47 :: r) = 0 then .err 20 else .skip (comW (47 :: r)) := by
  unfold stp
  rw [if_neg (fun e => absurd e.1 (by decide)), if_neg (by decide), if_pos rfl]
theorem com_none {l : List UInt8} (h1 : Lib.hasPrefix l [47, 47] = false) (h2 : Lib.hasPrefix l [47, 42] = false) : comW l = 0 := by
  unfold comW; rw [if_neg (by rw [h1]; simp), if_neg (by rw [h2]; simp)]

def OneOut (p : Nat) : Stp → Ending → Prop
  | .skip _, _ => False
  | .tk k x n, e => e = .returned (.tuple #[tokV k (S x) p, .int .i64 ((p + n : Nat) : Int), .int .i64 0])
  | .err c, e => e = .returned (.tuple #[tokV 0 ⟨#[]⟩ 0, .int .i64 0, .int .i64 c])
theorem rOne_c (s : ByteArray) (p : Nat) (w : World) (df : Bool) (hs : s.size ≤ 65536) (hp : p < s.size) (hk1 : kinds s[p] ≠ 24) (hk2 : kinds s[p] ≠ 8) (hc1 : Lib.hasPrefix ((L s).drop p) [47, 47] = false) (hc2 : Lib.hasPrefix ((L s).drop p) [47, 42] = false) :
    Calls Tryz.prog 25 #[.string s, .int .i64 p] w fun e w' => OneOut p (stp df s[p] ((L s).drop (p + 1))) e ∧ Below w.heap.size w w' := by
  have hcr := drop_cons s p hp
  rcases kcases s[p] with h | h | h | h | h | h | h | h | h
  · rw [stp_let df _ h.1]
    refine (one_name s p w hs hp h.1 _ rfl _ rfl).mono ?_
    rintro e w' ⟨rfl, hb⟩
    refine ⟨?_, hb⟩
    rw [← hcr]
    have e1 : (wordL ((L s).drop p)).length = (((L s).drop p).takeWhile worB).length := rfl
    by_cases hl : 64 < (wordL ((L s).drop p)).length
    · rw [if_pos hl, if_pos (by rw [← e1]; exact hl)]; rfl
    · rw [if_neg hl, if_neg (by rw [← e1]; exact hl)]
      have e2 : s.extract p (p + (((L s).drop p).takeWhile worB).length) = S (wordL ((L s).drop p)) := by apply L_inj; rw [ext_tw worB s p _ rfl, L_S]; rfl
      rw [e2]; rfl
  · rw [stp_dig df _ h.1 h.2.1]
    rw [← hcr]
    have e2 : s.extract p (p + (((L s).drop p).takeWhile numB).length) = S (numbL ((L s).drop p)) := by apply L_inj; rw [ext_tw numB s p _ rfl, L_S]; rfl
    have e3 : numE2 (L (s.extract p (p + (((L s).drop p).takeWhile numB).length))) = numE2 (numbL ((L s).drop p)) := by rw [e2, L_S]
    cases hv : numV (numbL ((L s).drop p)) with
    | none =>
      refine (one_num s p w hs hp h.1 h.2.1 _ rfl _ rfl 21 (by rw [e3, (num_none hv).2.2]) (Or.inl (by decide))).mono ?_
      rintro e w' ⟨⟨r, rfl, ha, _⟩, hb⟩
      exact ⟨by rw [ha (by decide)]; rfl, hb⟩
    | some v =>
      refine (one_num s p w hs hp h.1 h.2.1 _ rfl _ rfl 0 (by rw [e3, (num_some (v := v.1) (b := v.2) hv).2.2]) (Or.inr rfl)).mono ?_
      rintro e w' ⟨⟨r, rfl, _, ha⟩, hb⟩
      exact ⟨by rw [ha rfl, e2]; rfl, hb⟩
  · rw [stp_oth df _ (by rw [h.1]; decide) (by rw [h.1]; decide) (by rw [h.1]; decide) (by rw [h.1]; decide) (by rw [h.2]; decide) (by rw [h.1]; decide) (by rw [h.1]; decide)]
    exact one_bad s p w hs hp (by rw [h.1]; decide) (by rw [h.1]; decide) (by rw [h.1]; decide) (by rw [hcr, sgS_cons, if_neg (by rw [h.1]; decide)])
  · exact absurd h.2 hk1
  · exact absurd h.2 hk2
  · rw [h.1, stp_com, if_pos (by rw [← h.1, ← hcr]; exact com_none hc1 hc2)]
    exact one_bad s p w hs hp (by rw [h.1]; decide) (by rw [h.1]; decide) (by rw [h.1]; decide) (by rw [hcr, sgS_cons, if_neg (by rw [h.1]; decide)])
  · rw [h.1, stp_tick]
    have hsg : sgS ((L s).drop p) = [] := by rw [hcr, sgS_cons, if_neg (by rw [h.1]; decide)]
    unfold tickP
    by_cases hq : p + 1 < s.size
    · have hcr2 := drop_cons s (p + 1) hq
      have hhd : hd0 ((L s).drop (p + 1)) = s[p + 1] := by rw [hcr2]; rfl
      cases hlt : letB s[p + 1] with
      | false =>
        rw [if_pos (Or.inr (by rw [hhd]; exact hlt))]
        exact one_tick s p w hs hp h.1 hsg (Or.inr ⟨hq, hlt⟩)
      | true =>
        rw [if_neg (fun e => e.elim (fun e => by rw [hcr2] at e; cases e) (fun e => by rw [hhd, hlt] at e; cases e))]
        refine (one_tname s p w hs hp h.1 hq hlt _ rfl _ rfl).mono ?_
        rintro e w' ⟨rfl, hb⟩
        refine ⟨?_, hb⟩
        have e1 : (wordL ((L s).drop (p + 1))).length = (((L s).drop (p + 1)).takeWhile worB).length := rfl
        by_cases hl : 64 < (wordL ((L s).drop (p + 1))).length
        · rw [if_pos hl, if_pos (by rw [← e1]; exact hl)]; rfl
        · rw [if_neg hl, if_neg (by rw [← e1]; exact hl)]
          have e2 : s.extract (p + 1) (p + 1 + (((L s).drop (p + 1)).takeWhile worB).length) = S (wordL ((L s).drop (p + 1))) := by apply L_inj; rw [ext_tw worB s (p + 1) _ rfl, L_S]; rfl
          rw [e2, ← e1]
          show _ = Ending.returned (.tuple #[tokV 4 (S (wordL ((L s).drop (p + 1)))) p, .int .i64 ((p + (1 + (wordL ((L s).drop (p + 1))).length) : Nat) : Int), .int .i64 0])
          rw [Nat.add_assoc]
    · rw [if_pos (Or.inl (drop_all s (p + 1) (by omega)))]
      exact one_tick s p w hs hp h.1 hsg (Or.inl (by omega))
  · rw [stp_sgn df _ h.1 h.2.1 h.2.2.1 h.2.2.2]
    have hsg : sgS ((L s).drop p) = (s[p] :: (L s).drop (p + 1)).take (sgW (s[p] :: (L s).drop (p + 1))) := by rw [hcr, sgS_cons, if_pos h.2.2.1]
    have hw := sgW_le (c := s[p]) (r := (L s).drop (p + 1))
    have hle : sgW (s[p] :: (L s).drop (p + 1)) ≤ 2 := by unfold sgW; split <;> omega
    have hsz : (S (sgS ((L s).drop p))).size = sgW (s[p] :: (L s).drop (p + 1)) := by rw [size_S, hsg, List.length_take]; omega
    refine (one_sign s p w hs hp h.1 h.2.1 (by intro e; have := h.2.2.1; rw [e] at this; revert this; decide) _ rfl (by rw [toL, L_S, hsg, List.isEmpty_eq_false_iff]; intro e; have := congrArg List.length e; rw [List.length_take] at this; simp at this; omega) (by rw [hsz]; exact hle)).mono ?_
    rintro e w' ⟨rfl, hb⟩
    refine ⟨?_, hb⟩
    rw [hsz, hsg]
    rfl
  · rw [stp_oth df _ h.1 h.2.1 h.2.2.1 h.2.2.2.2.1 (by rw [h.2.2.2.2.2.2.2.2.2.2]; decide) h.2.2.2.2.2.2.2.2.1 h.2.2.2.2.2.2.2.2.2.1]
    exact one_bad s p w hs hp h.1 h.2.1 h.2.2.2.2.2.2.2.2.2.1 (by rw [hcr, sgS_cons, if_neg (by rw [h.2.2.1]; simp)])
end Go.Proofs.YthdhmlojihpfkaaGreat
