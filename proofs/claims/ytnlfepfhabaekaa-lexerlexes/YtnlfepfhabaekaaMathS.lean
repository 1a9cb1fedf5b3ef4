/- Layer 2, plain: the reference's numbers are the program's. -/
import Derived.Test.YtnlfepfhabaekaaMathQ
namespace Lg
open Go
set_option linter.unusedVariables false
set_option linter.unusedSimpArgs false
def whI (m : Nat) (l : List UInt8) : Int := match whF m 0 l with | none => -1 | some n => (n : Int)
def decI (m : Nat) (b : Bool) (l : List UInt8) : Int := if l = [] ∨ (b = false ∧ (10 < l.length ∨ (1 < l.length ∧ hd0 l = 48))) then -1 else whI m l
theorem whI_none {m : Nat} {l : List UInt8} (h : whF m 0 l = none) : whI m l = -1 := by unfold whI; rw [h]
theorem whI_some {m n : Nat} {l : List UInt8} (h : whF m 0 l = some n) : whI m l = (n : Int) := by unfold whI; rw [h]
theorem wh_grow {m : Nat} : ∀ {a n : Nat} {l : List UInt8}, whF m a l = some n → a * 10 ^ l.length ≤ n := by
  intro a n l
  induction l generalizing a with
  | nil => intro h; simp [whF] at h; simp; omega
  | cons c l ih =>
    intro h
    simp only [whF] at h
    split at h
    · split at h
      · have := ih h
        rw [List.length_cons, Nat.pow_succ]
        have h2 : a * (10 ^ l.length * 10) = (10 * a) * 10 ^ l.length := by rw [Nat.mul_comm (10 ^ l.length) 10, ← Nat.mul_assoc, Nat.mul_comm a 10]
        rw [h2]
        exact Nat.le_trans (Nat.mul_le_mul_right _ (by omega)) this
      · cases h
    · cases h
theorem wh_up {m M : Nat} (hm : m ≤ M) : ∀ {a n : Nat} {l : List UInt8}, whF m a l = some n → whF M a l = some n := by
  intro a n l
  induction l generalizing a with
  | nil => intro h; exact h
  | cons c l ih =>
    intro h
    simp only [whF] at h ⊢
    split at h
    · rename_i h1
      rw [if_pos h1]
      split at h
      · rw [if_pos (by omega)]; exact ih h
      · cases h
    · cases h
theorem wh_down {m M : Nat} : ∀ {a n : Nat} {l : List UInt8}, whF M a l = some n → n ≤ m → whF m a l = some n := by
  intro a n l
  induction l generalizing a with
  | nil => intro h _; exact h
  | cons c l ih =>
    intro h hn
    simp only [whF] at h ⊢
    split at h
    · rename_i h1
      rw [if_pos h1]
      split at h
      · have hg := wh_grow h
        have hp : 1 ≤ 10 ^ l.length := Nat.one_le_pow _ _ (by decide)
        have : 10 * a + (c.toNat - 48) ≤ n := Nat.le_trans (Nat.le_mul_of_pos_right _ hp) hg
        rw [if_pos (by omega)]; exact ih h hn
      · cases h
    · cases h
theorem wh_long {l : List UInt8} {n : Nat} (h : whF 4294967295 0 l = some n) (hz : ¬ (1 < l.length ∧ hd0 l = 48)) : l.length ≤ 10 := by
  cases l with
  | nil => simp
  | cons c l =>
    rcases Nat.lt_or_ge 10 (c :: l).length with hl | hl
    · exfalso
      have hc : ¬ c = 48 := fun e => hz ⟨by omega, by rw [e]; rfl⟩
      have hle := whF_le (Nat.zero_le _) h
      simp only [whF] at h
      split at h
      · rename_i hd
        split at h
        · have hg := wh_grow h
          simp [digB] at hd
          have h48 : c.toNat ≠ 48 := fun e => hc (by rw [← UInt8.toNat_inj]; exact e)
          have h1 : 1 ≤ 10 * 0 + (c.toNat - 48) := by omega
          have h2 : 10 ^ 10 ≤ 10 ^ l.length := Nat.pow_le_pow_right (by decide) (by rw [List.length_cons] at hl; omega)
          have h3 : 1 * 10 ^ l.length ≤ (10 * 0 + (c.toNat - 48)) * 10 ^ l.length := Nat.mul_le_mul_right _ h1
          have h4 : (10 : Nat) ^ 10 = 10000000000 := by decide
          omega
        · cases h
      · cases h
    · exact hl
theorem dec_plain {l : List UInt8} : (decI 4294967295 false l = -1 ∧ ∀ n, whV 4294967295 l = some n → 1 < l.length ∧ hd0 l = 48) ∨ (∃ n : Nat, decI 4294967295 false l = n ∧ n ≤ 4294967295 ∧ whV 4294967295 l = some n ∧ ¬ (1 < l.length ∧ hd0 l = 48)) := by
  unfold decI
  by_cases h0 : l = []
  · left; rw [if_pos (Or.inl h0)]; exact ⟨rfl, fun n hn => by unfold whV at hn; rw [if_pos h0] at hn; cases hn⟩
  · by_cases hz : 1 < l.length ∧ hd0 l = 48
    · left; rw [if_pos (Or.inr ⟨rfl, Or.inr hz⟩)]; exact ⟨rfl, fun _ _ => hz⟩
    · cases hw : whF 4294967295 0 l with
      | none =>
        left
        refine ⟨?_, fun n hn => by unfold whV at hn; rw [if_neg h0, hw] at hn; cases hn⟩
        split
        · rfl
        · exact whI_none hw
      | some n =>
        right
        have hl := wh_long hw hz
        refine ⟨n, ?_, whF_le (Nat.zero_le _) hw, by unfold whV; rw [if_neg h0]; exact hw, hz⟩
        rw [if_neg (by intro e; rcases e with e | ⟨_, e | e⟩; exact h0 e; omega; exact hz e)]
        exact whI_some hw
theorem dec_wide {l : List UInt8} : (decI 256 false l < 1 ∧ ∀ n, whV 4294967295 l = some n → (1 < l.length ∧ hd0 l = 48) ∨ n < 1 ∨ 256 < n) ∨ (∃ n : Nat, decI 256 false l = n ∧ 1 ≤ n ∧ n ≤ 256 ∧ whV 4294967295 l = some n ∧ ¬ (1 < l.length ∧ hd0 l = 48)) := by
  rcases dec_plain (l := l) with ⟨_, h⟩ | ⟨n, _, _, h2, h3⟩
  · left
    refine ⟨?_, fun n hn => Or.inl (h n hn)⟩
    unfold decI
    split
    · decide
    · rename_i hne
      cases hw : whF 256 0 l with
      | none => rw [whI_none hw]; decide
      | some n =>
        exfalso
        have h0 : ¬ l = [] := fun e => hne (Or.inl e)
        exact hne (Or.inr ⟨rfl, Or.inr (h n (by unfold whV; rw [if_neg h0]; exact wh_up (by decide) hw))⟩)
  · have h0 : ¬ l = [] := by intro e; unfold whV at h2; rw [if_pos e] at h2; cases h2
    have hw : whF 4294967295 0 l = some n := by unfold whV at h2; rw [if_neg h0] at h2; exact h2
    have hl := wh_long hw h3
    have hc : ¬ (l = [] ∨ (false = false ∧ (10 < l.length ∨ (1 < l.length ∧ hd0 l = 48)))) := by
      intro e; rcases e with e | ⟨_, e | e⟩; exact h0 e; omega; exact h3 e
    by_cases hb : 1 ≤ n ∧ n ≤ 256
    · right
      exact ⟨n, by unfold decI; rw [if_neg hc, whI_some (wh_down hw hb.2)], hb.1, hb.2, h2, h3⟩
    · left
      refine ⟨?_, fun k hk => by rw [h2] at hk; injection hk with hk; subst hk; right; omega⟩
      unfold decI
      rw [if_neg hc]
      cases hw2 : whF 256 0 l with
      | none => rw [whI_none hw2]; decide
      | some k =>
        have := wh_up (M := 4294967295) (by decide) hw2
        rw [hw] at this
        injection this with this
        subst this
        have := whF_le (Nat.zero_le _) hw2
        rw [whI_some hw2]; omega
/-- the bits of a number's digits, by its base -/
def digL (c : UInt8) (l : List UInt8) : List UInt8 :=
  if l = [] then [] else if c = 100 then (match whF 2147483647 0 l with | none => [] | some n => ofL n 31) else if c = 98 then oS (cat 1 l) else if c = 104 then oS (cat 4 l) else []
/-- these bits at a width -/
def widL (d : List UInt8) (w : Nat) : List UInt8 := if d.length < w ∧ (hd0 d = 120 ∨ hd0 d = 122) then rep (w - d.length) (hd0 d) ++ d else fit d w
theorem str_wid {b : List UInt8} {w : Nat} (hb : b ≠ []) : strV b w = some (widL b w) := by
  unfold strV widL
  rw [if_neg hb]
  by_cases h : w ≤ b.length
  · rw [if_pos h, if_neg (by omega)]; unfold fit; rw [if_pos h]
  · rw [if_neg h]
    by_cases hx : hd0 b = 120 ∨ hd0 b = 122
    · rw [if_pos hx, if_pos ⟨by omega, hx⟩]
    · rw [if_neg hx, if_neg (fun e => hx e.2)]
theorem gro_wid {k w : Nat} (hk : 1 ≤ k) (h1 : 1 ≤ w) {r b : List UInt8} (hr : r ≠ []) (hc : cat k r = some b) : groV k w r = some (widL b w) := by
  have hl := cat_len hc
  have hpos : 0 < r.length := List.length_pos_iff.2 hr
  have hbn : b ≠ [] := by intro e; have hm := Nat.mul_pos hk hpos; rw [← hl, e] at hm; exact absurd hm (by simp)
  have e4 : groV k w r = (cat k (r.drop (r.length - w))).bind fun c => strV c w := by unfold groV; rw [hc]; rfl
  rw [e4]
  rcases Nat.lt_or_ge w r.length with hlt | hge
  · obtain ⟨c, hcc⟩ := cat_drop (n := r.length - w) hc
    have happ := cat_append k (r.take (r.length - w)) (r.drop (r.length - w))
    rw [List.take_append_drop, hc, hcc] at happ
    cases ha : cat k (r.take (r.length - w)) with
    | none => rw [ha] at happ; cases happ
    | some a =>
      rw [ha] at happ
      have hab : b = a ++ c := by injection happ
      have hcl := cat_len hcc
      rw [List.length_drop, show r.length - (r.length - w) = w by omega] at hcl
      have hcw : w ≤ c.length := by rw [hcl]; exact Nat.le_mul_of_pos_left w hk
      have hbl : w ≤ b.length := by rw [hab, List.length_append]; omega
      rw [hcc]
      show strV c w = _
      have hcn : c ≠ [] := by intro e; rw [e] at hcw; simp at hcw; omega
      rw [str_wid hcn]
      unfold widL
      rw [if_neg (by omega), if_neg (by omega)]
      unfold fit
      rw [if_pos hcw, if_pos hbl]
      congr 1
      rw [hab, List.length_append, List.drop_append, List.drop_of_length_le (l := a) (by omega), List.nil_append]; congr 1; omega
  · rw [show r.length - w = 0 by omega, List.drop_zero, hc]
    exact str_wid hbn
theorem of_fit {n w : Nat} (hn : n ≤ 2147483647) (hw : 1 ≤ w) : fit (ofL n 31) w = ofL n w := by
  unfold fit
  rw [len_ofL]
  split
  · rename_i h
    apply List.ext_getElem (by rw [List.length_drop, len_ofL, len_ofL]; omega)
    intro i h1 h2
    rw [List.getElem_drop]
    simp only [ofL, tab, List.getElem_map, List.getElem_range]
    unfold ofBit
    rw [len_ofL] at h2
    rw [show 31 - 1 - (31 - w + i) = w - 1 - i by omega]
  · rename_i h
    apply List.ext_getElem (by rw [List.length_append, List.length_replicate, len_ofL, len_ofL]; omega)
    intro i h1 h2
    rw [len_ofL] at h2
    rw [List.getElem_append]
    split
    · rename_i h3
      rw [List.length_replicate] at h3
      rw [List.getElem_replicate]
      simp only [ofL, tab, List.getElem_map, List.getElem_range]
      unfold ofBit
      have h4 : n / 2 ^ (w - 1 - i) = 0 := by
        apply Nat.div_eq_of_lt
        have : 2 ^ 31 ≤ 2 ^ (w - 1 - i) := Nat.pow_le_pow_right (by decide) (by omega)
        have h5 : (2 : Nat) ^ 31 = 2147483648 := by decide
        omega
      rw [h4]; rfl
    · rename_i h3
      rw [List.length_replicate] at h3
      simp only [ofL, tab, List.getElem_map, List.getElem_range, List.length_replicate]
      unfold ofBit
      rw [show 31 - 1 - (i - (w - 31)) = w - 1 - i by omega]
theorem bas_dig {c : UInt8} {r : List UInt8} {w : Nat} (h1 : 1 ≤ w) : basV c r w = if digL c r = [] then none else some (widL (digL c r) w) := by
  unfold basV digL
  by_cases hr : r = []
  · subst hr
    rw [if_pos rfl, if_pos rfl]
    split
    · unfold groV; simp [cat, strV]
    split
    · unfold groV; simp [cat, strV]
    split
    · rfl
    · rfl
  · rw [if_neg hr]
    by_cases h100 : c = 100
    · subst h100
      rw [if_neg (by decide), if_neg (by decide), if_pos rfl, if_pos rfl]
      unfold whV
      rw [if_neg hr]
      cases hw : whF 2147483647 0 r with
      | none => rfl
      | some n =>
        have hn := whF_le (Nat.zero_le _) hw
        have hne : ofL n 31 ≠ [] := by intro e; have := congrArg List.length e; rw [len_ofL] at this; simp at this
        have hh : ¬ (hd0 (ofL n 31) = 120 ∨ hd0 (ofL n 31) = 122) := by
          have : hd0 (ofL n 31) = ofBit n 31 0 := rfl
          rw [this]; unfold ofBit; split <;> decide
        show some (ofL n w) = if ofL n 31 = [] then none else some (widL (ofL n 31) w)
        rw [if_neg hne]
        unfold widL
        rw [if_neg (fun e => hh e.2), of_fit hn h1]
    · rw [if_neg h100, if_neg h100]
      by_cases h98 : c = 98
      · rw [if_pos h98, if_pos h98]
        cases hc : cat 1 r with
        | none => unfold groV; rw [hc]; rfl
        | some b =>
          have hbn : b ≠ [] := by intro e; have := cat_len hc; rw [e] at this; simp at this; exact hr (List.length_eq_zero_iff.1 (by omega))
          show groV 1 w r = if b = [] then none else some (widL b w)
          rw [if_neg hbn, gro_wid (Nat.le_refl _) h1 hr hc]
      · rw [if_neg h98, if_neg h98]
        by_cases h104 : c = 104
        · rw [if_pos h104, if_pos h104]
          cases hc : cat 4 r with
          | none => unfold groV; rw [hc]; rfl
          | some b =>
            have hbn : b ≠ [] := by intro e; have := cat_len hc; rw [e] at this; simp at this; exact hr (List.length_eq_zero_iff.1 (by omega))
            show groV 4 w r = if b = [] then none else some (widL b w)
            rw [if_neg hbn, gro_wid (by omega) h1 hr hc]
        · rw [if_neg h104, if_neg h104]; rfl
end Lg
