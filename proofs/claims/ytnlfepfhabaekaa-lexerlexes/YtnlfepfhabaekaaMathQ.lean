/- Layer 2, plain: numbers that are written by their digits. -/
import Derived.Test.YtnlfepfhabaekaaMathM
namespace Lg
open Go
set_option linter.unusedVariables false
set_option linter.unusedSimpArgs false
/-- a number's decimal digits; none of 0 -/
def decF (n : Nat) : List UInt8 := if h : n = 0 then [] else decF (n / 10) ++ [UInt8.ofNat (48 + n % 10)]
  termination_by n
  decreasing_by omega
def dec2 (n : Nat) : List UInt8 := if n = 0 then [48] else decF n
theorem decF_zero : decF 0 = [] := by rw [decF]; simp
theorem decF_pos {n : Nat} (h : n ≠ 0) : decF n = decF (n / 10) ++ [UInt8.ofNat (48 + n % 10)] := by rw [decF]; simp [h]
theorem dig_nat (k : Nat) (h : k < 10) : (UInt8.ofNat (48 + k)).toNat = 48 + k := by
  rw [UInt8.toNat_ofNat']; omega
theorem dig_is (k : Nat) (h : k < 10) : digB (UInt8.ofNat (48 + k)) = true := by unfold digB; rw [dig_nat k h]; simp; omega
theorem whF_app (m a : Nat) (l k : List UInt8) : whF m a (l ++ k) = (whF m a l).bind fun b => whF m b k := by
  induction l generalizing a with
  | nil => rfl
  | cons c l ih =>
    simp only [List.cons_append, whF]
    split
    · split
      · exact ih _
      · rfl
    · rfl
theorem decF_wh (m : Nat) : ∀ n, n ≤ m → whF m 0 (decF n) = some n := by
  intro n
  induction n using Nat.strongRecOn with
  | ind n ih =>
    intro hn
    by_cases h : n = 0
    · subst h; rw [decF_zero]; rfl
    · rw [decF_pos h, whF_app, ih (n / 10) (by omega) (by omega)]
      simp only [Option.bind_some, whF]
      rw [if_pos (dig_is _ (by omega)), dig_nat _ (by omega), if_pos (by omega)]
      congr 1; omega
theorem decF_ne {n : Nat} (h : n ≠ 0) : decF n ≠ [] := by rw [decF_pos h]; simp
theorem decF_digs : ∀ n, ∀ c ∈ decF n, digB c = true := by
  intro n
  induction n using Nat.strongRecOn with
  | ind n ih =>
    by_cases h : n = 0
    · subst h; rw [decF_zero]; simp
    · rw [decF_pos h]
      intro c hc
      rw [List.mem_append] at hc
      rcases hc with hc | hc
      · exact ih _ (by omega) c hc
      · rw [List.mem_singleton] at hc; subst hc; exact dig_is _ (by omega)
theorem hd0_app {a b : List UInt8} (h : a ≠ []) : hd0 (a ++ b) = hd0 a := by
  cases a with
  | nil => exact absurd rfl h
  | cons c a => rfl
theorem decF_hd : ∀ n, n ≠ 0 → hd0 (decF n) ≠ 48 := by
  intro n
  induction n using Nat.strongRecOn with
  | ind n ih =>
    intro h
    rw [decF_pos h]
    by_cases h2 : n / 10 = 0
    · rw [h2, decF_zero]
      show UInt8.ofNat (48 + n % 10) ≠ 48
      intro e
      have := congrArg UInt8.toNat e
      rw [dig_nat _ (by omega)] at this
      have h48 : (48 : UInt8).toNat = 48 := rfl
      omega
    · rw [hd0_app (decF_ne h2)]; exact ih _ (by omega) h2
theorem pre_dig {a r : List UInt8} (h : ∀ c ∈ a, digB c = true) : pre39 (a ++ 39 :: r) = a ∧ pos39 (a ++ 39 :: r) = r ∧ has39 (a ++ 39 :: r) = true := by
  induction a with
  | nil => exact ⟨rfl, rfl, rfl⟩
  | cons c a ih =>
    have hc : ¬ c = 39 := by rintro rfl; exact absurd (h 39 (by simp)) (by decide)
    obtain ⟨h1, h2, h3⟩ := ih (fun x hx => h x (by simp [hx]))
    have e1 : pre39 (c :: (a ++ 39 :: r)) = c :: pre39 (a ++ 39 :: r) := by simp [pre39, List.takeWhile_cons, hc]
    have e2 : pos39 (c :: (a ++ 39 :: r)) = pos39 (a ++ 39 :: r) := by simp [pos39, List.dropWhile_cons, hc]
    have e3 : has39 (c :: (a ++ 39 :: r)) = has39 (a ++ 39 :: r) := by
      have : (c == 39) = false := by simpa using hc
      simp [has39, this]
    refine ⟨?_, ?_, ?_⟩
    · show pre39 (c :: (a ++ 39 :: r)) = c :: a; rw [e1, h1]
    · show pos39 (c :: (a ++ 39 :: r)) = r; rw [e2, h2]
    · show has39 (c :: (a ++ 39 :: r)) = true; rw [e3, h3]
theorem pre_only {a : List UInt8} (h : ∀ c ∈ a, digB c = true) : pre39 a = a ∧ has39 a = false := by
  induction a with
  | nil => exact ⟨rfl, rfl⟩
  | cons c a ih =>
    have hc : ¬ c = 39 := by rintro rfl; exact absurd (h 39 (by simp)) (by decide)
    have hc2 : (c == 39) = false := by simpa using hc
    obtain ⟨h1, h2⟩ := ih (fun x hx => h x (by simp [hx]))
    exact ⟨by rw [show pre39 (c :: a) = c :: pre39 a by simp [pre39, List.takeWhile_cons, hc], h1], by rw [show has39 (c :: a) = has39 a by simp [has39, hc2], h2]⟩
theorem decF_whV {m n : Nat} (h : n ≠ 0) (hn : n ≤ m) : whV m (decF n) = some n := by unfold whV; rw [if_neg (decF_ne h)]; exact decF_wh m n hn
theorem numV_sized {w : Nat} (c : UInt8) (r : List UInt8) (h1 : 1 ≤ w) (h2 : w ≤ 256) : numV (decF w ++ 39 :: c :: r) = (basV c r w).map (·, false) := by
  obtain ⟨a, b, d⟩ := pre_dig (r := c :: r) (decF_digs w)
  have hw := decF_whV (m := 4294967295) (n := w) (by omega) (by omega)
  have hh := decF_hd w (by omega)
  unfold numV
  rw [a, b, d, hw]
  simp only [hh, and_false, if_false]
  rw [if_neg (by simp), if_neg (by omega)]
theorem dec2_digs (n : Nat) : ∀ c ∈ dec2 n, digB c = true := by
  unfold dec2; split
  · intro c hc; simp at hc; subst hc; decide
  · exact decF_digs n
theorem dec2_whV {m n : Nat} (hn : n ≤ m) : whV m (dec2 n) = some n := by
  unfold dec2; split
  · rename_i h; subst h; simp [whV, whF, digB]
  · rename_i h; exact decF_whV h hn
theorem numV_plain {n : Nat} (h : n ≤ 2147483647) : numV (dec2 n) = some (ofL n 32, true) := by
  obtain ⟨a, b⟩ := pre_only (dec2_digs n)
  have hw := dec2_whV (m := 4294967295) (n := n) (by omega)
  have hz : ¬ (1 < (dec2 n).length ∧ hd0 (dec2 n) = 48) := by
    unfold dec2; split
    · simp
    · rename_i h; exact fun e => decF_hd n h e.2
  unfold numV
  rw [a, b, hw]
  simp only [hz, if_false, if_true]
theorem numV_31 {n : Nat} (h : n ≤ 2147483647) : numV ([51, 49, 39, 100] ++ dec2 n) = some (ofL n 31, false) := by
  have e : [51, 49, 39, 100] ++ dec2 n = decF 31 ++ 39 :: 100 :: dec2 n := by
    have : decF 31 = [51, 49] := by rw [decF_pos (by decide), decF_pos (by decide), decF_zero]; rfl
    rw [this]; rfl
  rw [e, numV_sized 100 _ (by omega) (by omega)]
  show (Option.map (ofL · 31) (whV 2147483647 (dec2 n))).map (·, false) = _
  rw [dec2_whV h]; rfl
theorem dgt1 {c : UInt8} (h : bitB c = true) : dgt 1 c = some [c] := by
  simp [bitB] at h
  rcases h with ((rfl | rfl) | rfl) | rfl <;> rfl
theorem cat1 {l : List UInt8} (h : l.all bitB = true) : cat 1 l = some l := by
  induction l with
  | nil => rfl
  | cons c l ih =>
    simp only [List.all_cons, Bool.and_eq_true] at h
    simp only [cat]
    rw [dgt1 h.1, ih h.2]; rfl
theorem all_drop {l : List UInt8} {q : UInt8 → Bool} (n : Nat) (h : l.all q = true) : (l.drop n).all q = true := by
  rw [List.all_eq_true] at h ⊢
  exact fun x hx => h x (List.mem_of_mem_drop hx)
theorem gro1 {l : List UInt8} {w : Nat} (h : l.all bitB = true) : groV 1 w l = strV (l.drop (l.length - w)) w := by
  unfold groV
  rw [cat1 h]
  show (cat 1 (l.drop (l.length - w))).bind _ = _
  rw [cat1 (all_drop _ h)]; rfl
theorem numV_bits {v : List UInt8} (h : vec v = true) : numV (decF v.length ++ 39 :: 98 :: v) = some (v, false) := by
  have hl := vec_len h
  have hb : v.all bitB = true := by simp [vec] at h; simpa using h.2
  rw [numV_sized 98 v hl.1 hl.2]
  show (groV 1 v.length v).map (·, false) = _
  rw [gro1 hb, Nat.sub_self, List.drop_zero]
  unfold strV
  rw [if_neg (by intro e; rw [e] at hl; simp at hl), if_pos (Nat.le_refl _), Nat.sub_self, List.drop_zero]; rfl
theorem str_len {b : List UInt8} {w : Nat} {x : List UInt8} (h : strV b w = some x) : x.length = w := by
  unfold strV at h
  split at h
  · cases h
  split at h
  · injection h with h; rw [← h, List.length_drop]; omega
  split at h
  · injection h with h; rw [← h, List.length_append, len_rep]; omega
  · injection h with h; rw [← h, len_fit]
theorem hex_same {h b : List UInt8} {w : Nat} (h1 : 1 ≤ w) (hne : h ≠ []) (hc : cat 4 h = some b) : groV 4 w h = groV 1 w b ∧ ∃ x, groV 4 w h = some x ∧ x.length = w := by
  have hb := cat_bits hc
  have hl := cat_len hc
  have hpos : 0 < h.length := List.length_pos_iff.2 hne
  have key : ∀ d : List UInt8, w ≤ d.length → strV d w = some (d.drop (d.length - w)) := fun d hd => by
    unfold strV; rw [if_neg (by intro e; rw [e] at hd; simp at hd; omega), if_pos hd]
  have e4 : groV 4 w h = (cat 4 (h.drop (h.length - w))).bind fun c => strV c w := by unfold groV; rw [hc]; rfl
  have hsome : ∃ x, groV 1 w b = some x := by
    rw [gro1 hb]
    unfold strV
    have hbn : b.drop (b.length - w) ≠ [] := by intro e; have := congrArg List.length e; rw [List.length_drop] at this; simp at this; omega
    rw [if_neg hbn]
    split
    · exact ⟨_, rfl⟩
    split
    · exact ⟨_, rfl⟩
    · exact ⟨_, rfl⟩
  have heq : groV 4 w h = groV 1 w b := by
    rw [e4, gro1 hb]
    rcases Nat.lt_or_ge w h.length with hlt | hge
    · obtain ⟨c, hcc⟩ := cat_drop (n := h.length - w) hc
      have happ := cat_append 4 (h.take (h.length - w)) (h.drop (h.length - w))
      rw [List.take_append_drop, hc, hcc] at happ
      cases ha : cat 4 (h.take (h.length - w)) with
      | none => rw [ha] at happ; cases happ
      | some a =>
        rw [ha] at happ
        have hab : b = a ++ c := by injection happ
        have hal := cat_len ha
        have hcl := cat_len hcc
        rw [List.length_take] at hal
        rw [List.length_drop] at hcl
        rw [hcc]
        show strV c w = _
        have e9 : b.drop (b.length - w) = c.drop (c.length - w) := by
          rw [hab, List.length_append, List.drop_append, List.drop_of_length_le (l := a) (by omega), List.nil_append]; congr 1; omega
        rw [key c (by omega), key (b.drop (b.length - w)) (by rw [List.length_drop]; omega), List.length_drop, show b.length - (b.length - w) - w = 0 by omega, List.drop_zero, e9]
    · rw [show h.length - w = 0 by omega, List.drop_zero, hc]
      show strV b w = _
      rcases Nat.lt_or_ge w b.length with h3 | h3
      · rw [key b (by omega), key (b.drop (b.length - w)) (by rw [List.length_drop]; omega), List.length_drop, show b.length - (b.length - w) - w = 0 by omega, List.drop_zero]
      · rw [show b.length - w = 0 by omega, List.drop_zero]
  refine ⟨heq, ?_⟩
  obtain ⟨x, hx⟩ := hsome
  rw [heq]
  refine ⟨x, hx, ?_⟩
  rw [gro1 hb] at hx
  exact str_len hx
end Lg
