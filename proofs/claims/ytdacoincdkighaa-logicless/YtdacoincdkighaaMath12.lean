/- Plain facts, more: less is known, never something else. -/
import Derived.Test.YtdacoincdkighaaMath10
namespace Lg
open Go
/-- a bit of which less is known -/
def Le1 (x' x : UInt8) : Prop := x' = 120 ∨ x' = x
theorem kn_at {a' a : List UInt8} (h : Kn a' a) (i : Nat) (hi : i < a.length) : Le1 (a'.getD i 0) (a.getD i 0) := h.2 i (by rw [h.1]; exact hi)
theorem kn_mk {a' a : List UInt8} (h1 : a'.length = a.length) (h2 : ∀ i, i < a.length → Le1 (a'.getD i 0) (a.getD i 0)) : Kn a' a := ⟨h1, fun i hi => h2 i (by rw [← h1]; exact hi)⟩
theorem kn_refl (a : List UInt8) : Kn a a := ⟨rfl, fun _ _ => .inr rfl⟩
theorem kn_x (n : Nat) (l : List UInt8) (h : l.length = n) : Kn (rep n 120) l := ⟨by rw [len_rep, h], fun i hi => .inl (by rw [len_rep] at hi; exact rep_getD _ _ _ hi)⟩
theorem kn_one {x' x : UInt8} (h : Le1 x' x) : Kn [x'] [x] := by
  refine ⟨rfl, fun i hi => ?_⟩
  obtain rfl : i = 0 := by simp at hi; omega
  exact h
theorem kno_get {a : List UInt8} (h : kno a = true) (i : Nat) (hi : i < a.length) : a.getD i 0 = 48 ∨ a.getD i 0 = 49 := by
  have := all_at h i hi; simpa [knoB] using this
theorem kn_known {a' a : List UInt8} (h : Kn a' a) (k : kno a' = true) : a' = a := by
  apply list_eq h.1
  intro i hi
  rcases h.2 i hi with e | e
  · rcases kno_get k i hi with c | c <;> rw [c] at e <;> exact absurd e (by decide)
  · exact e
theorem kn_fit {a' a : List UInt8} (n : Nat) (h : Kn a' a) : Kn (fit a' n) (fit a n) := by
  refine kn_mk (by rw [len_fit, len_fit]) fun i hi => ?_
  rw [len_fit] at hi
  unfold fit
  rw [h.1]
  split
  · rw [getD_drop, getD_drop]; exact kn_at h _ (by omega)
  · by_cases c : i < n - a.length
    · rw [getD_append_l _ _ _ (by simpa using c), getD_append_l _ _ _ (by simpa using c)]; exact .inr rfl
    · rw [getD_append_r _ _ _ (by simpa using c), getD_append_r _ _ _ (by simpa using c)]; exact kn_at h _ (by simp; omega)
theorem kn_bitwise (f : UInt8 → UInt8 → UInt8) (hf : ∀ x' x y' y, (x = 48 ∨ x = 49) → (y = 48 ∨ y = 49) → Le1 x' x → Le1 y' y → Le1 (f x' y') (f x y)) {a' a b' b : List UInt8} (ha : Kn a' a) (hb : Kn b' b) (hl : a.length = b.length) (ka : kno a = true) (kb : kno b = true) : Kn (bitwise f a' b') (bitwise f a b) := by
  refine kn_mk (by rw [len_bitwise, len_bitwise, ha.1]) fun i hi => ?_
  rw [len_bitwise] at hi
  unfold bitwise
  rw [getD_tab _ _ _ (by rw [ha.1]; exact hi), getD_tab _ _ _ hi]
  exact hf _ _ _ _ (kno_get ka i hi) (kno_get kb i (by omega)) (kn_at ha i hi) (kn_at hb i (by omega))
theorem le_and : ∀ x' x y' y, (x = 48 ∨ x = 49) → (y = 48 ∨ y = 49) → Le1 x' x → Le1 y' y → Le1 (band x' y') (band x y) := by
  intro x' x y' y hx hy h1 h2; unfold Le1 at *
  rcases hx with rfl | rfl <;> rcases hy with rfl | rfl <;> rcases h1 with rfl | rfl <;> rcases h2 with rfl | rfl <;> decide
theorem le_or : ∀ x' x y' y, (x = 48 ∨ x = 49) → (y = 48 ∨ y = 49) → Le1 x' x → Le1 y' y → Le1 (bor x' y') (bor x y) := by
  intro x' x y' y hx hy h1 h2; unfold Le1 at *
  rcases hx with rfl | rfl <;> rcases hy with rfl | rfl <;> rcases h1 with rfl | rfl <;> rcases h2 with rfl | rfl <;> decide
theorem le_xor : ∀ x' x y' y, (x = 48 ∨ x = 49) → (y = 48 ∨ y = 49) → Le1 x' x → Le1 y' y → Le1 (bxor x' y') (bxor x y) := by
  intro x' x y' y hx hy h1 h2; unfold Le1 at *
  rcases hx with rfl | rfl <;> rcases hy with rfl | rfl <;> rcases h1 with rfl | rfl <;> rcases h2 with rfl | rfl <;> decide
theorem kn_and (f : UInt8 → UInt8 → UInt8) (hk : ∀ x y, (x = 48 ∨ x = 49) → (y = 48 ∨ y = 49) → (f x y = 48 ∨ f x y = 49)) (hf : ∀ x' x y' y, (x = 48 ∨ x = 49) → (y = 48 ∨ y = 49) → Le1 x' x → Le1 y' y → Le1 (f x' y') (f x y))
    (a' a : List UInt8) (c' c : UInt8) (hc : c = 48 ∨ c = 49) (h1 : Le1 c' c) (hl : a'.length = a.length) (ka : kno a = true) (h : ∀ i, i < a.length → Le1 (a'.getD i 0) (a.getD i 0)) :
    Le1 (fold f c' a') (fold f c a) ∧ (fold f c a = 48 ∨ fold f c a = 49) := by
  induction a generalizing a' c' c with
  | nil =>
    cases a' with
    | nil => exact ⟨h1, hc⟩
    | cons d a' => simp at hl
  | cons d a ih =>
    cases a' with
    | nil => simp at hl
    | cons d' a' =>
      have hd := h 0 (by simp)
      have kd := kno_get ka 0 (by simp)
      simp at hd kd
      have ka2 : kno a = true := by unfold kno at ka ⊢; rw [List.all_cons] at ka; simp only [Bool.and_eq_true] at ka; exact ka.2
      have := ih a' (f c' d') (f c d) (hk c d hc kd) (hf _ _ _ _ hc kd h1 hd) (by simpa using hl) ka2 (fun i hi => by have := h (i + 1) (by simp; omega); simpa using this)
      exact this
theorem k_and : ∀ x y : UInt8, (x = 48 ∨ x = 49) → (y = 48 ∨ y = 49) → (band x y = 48 ∨ band x y = 49) := by rintro x y (rfl | rfl) (rfl | rfl) <;> decide
theorem k_or : ∀ x y : UInt8, (x = 48 ∨ x = 49) → (y = 48 ∨ y = 49) → (bor x y = 48 ∨ bor x y = 49) := by rintro x y (rfl | rfl) (rfl | rfl) <;> decide
theorem k_xor : ∀ x y : UInt8, (x = 48 ∨ x = 49) → (y = 48 ∨ y = 49) → (bxor x y = 48 ∨ bxor x y = 49) := by rintro x y (rfl | rfl) (rfl | rfl) <;> decide
theorem kn_tru {a' a : List UInt8} (h : Kn a' a) (k : kno a = true) : Le1 (tru a') (tru a) ∧ (tru a = 48 ∨ tru a = 49) := by
  unfold tru; exact kn_and bor k_or le_or a' a 48 48 (.inl rfl) (.inr rfl) h.1 k (fun i hi => kn_at h i hi)
theorem len_tot (a b : List UInt8) : (totL a b).length = a.length := by unfold totL; split; exact len_tab _ _; exact len_rep _ _
theorem len_dif (a b : List UInt8) : (difL a b).length = a.length := by unfold difL; split; exact len_tab _ _; exact len_rep _ _
theorem kn_tot {a' a b' b : List UInt8} (ha : Kn a' a) (hb : Kn b' b) : Kn (totL a' b') (totL a b) := by
  by_cases k : (kno a' && kno b') = true
  · have k2 := (Bool.and_eq_true _ _).mp k
    rw [kn_known ha k2.1, kn_known hb k2.2]; exact kn_refl _
  · have e : totL a' b' = rep a'.length 120 := by unfold totL; rw [if_neg k]
    rw [e]; exact kn_x _ _ (by rw [len_tot, ha.1])
theorem kn_dif {a' a b' b : List UInt8} (ha : Kn a' a) (hb : Kn b' b) : Kn (difL a' b') (difL a b) := by
  by_cases k : (kno a' && kno b') = true
  · have k2 := (Bool.and_eq_true _ _).mp k
    rw [kn_known ha k2.1, kn_known hb k2.2]; exact kn_refl _
  · have e : difL a' b' = rep a'.length 120 := by unfold difL; rw [if_neg k]
    rw [e]; exact kn_x _ _ (by rw [len_dif, ha.1])
theorem len_bit (b : Bool) : (bitL b).length = 1 := by cases b <;> rfl
theorem kn_cmp (op : Int) {a' a b' b : List UInt8} (ha : Kn a' a) (hb : Kn b' b) : Kn (cmpL op a' b') (cmpL op a b) := by
  by_cases k : (kno a' && kno b') = true
  · have k2 := (Bool.and_eq_true _ _).mp k
    rw [kn_known ha k2.1, kn_known hb k2.2]; exact kn_refl _
  · have e : cmpL op a' b' = rep 1 120 := by unfold cmpL; rw [if_neg k]; rfl
    rw [e]; refine kn_x _ _ ?_
    unfold cmpL; split; exact len_bit _; rfl
theorem kn_oneW (op : Int) {a' a b' b : List UInt8} (ha : Kn a' a) (hb : Kn b' b) (hl : a.length = b.length) (ka : kno a = true) (kb : kno b = true) : Kn (oneW op a' b') (oneW op a b) := by
  unfold oneW
  by_cases h1 : op = 13
  · rw [if_pos h1, if_pos h1]; exact kn_tot ha hb
  rw [if_neg h1, if_neg h1]
  by_cases h2 : op = 14
  · rw [if_pos h2, if_pos h2]; exact kn_dif ha hb
  rw [if_neg h2, if_neg h2]
  by_cases h3 : op = 23
  · rw [if_pos h3, if_pos h3]; exact kn_bitwise _ le_and ha hb hl ka kb
  rw [if_neg h3, if_neg h3]
  by_cases h4 : op = 25
  · rw [if_pos h4, if_pos h4]; exact kn_bitwise _ le_or ha hb hl ka kb
  rw [if_neg h4, if_neg h4]
  by_cases h5 : op = 24
  · rw [if_pos h5, if_pos h5]; exact kn_bitwise _ le_xor ha hb hl ka kb
  rw [if_neg h5, if_neg h5]; exact kn_cmp op ha hb
theorem kn_shl {a' a : List UInt8} (n : Nat) (h : Kn a' a) (hn : n ≤ a.length) : Kn (shlL a' n) (shlL a n) := by
  refine kn_mk (by unfold shlL; simp [h.1]) fun i hi => ?_
  unfold shlL at hi ⊢
  by_cases c : i < a.length - n
  · rw [getD_append_l _ _ _ (by rw [List.length_drop, h.1]; exact c), getD_append_l _ _ _ (by rw [List.length_drop]; exact c), getD_drop, getD_drop]; exact kn_at h _ (by omega)
  · rw [getD_append_r _ _ _ (by rw [List.length_drop, h.1]; omega), getD_append_r _ _ _ (by rw [List.length_drop]; omega), List.length_drop, List.length_drop, h.1]; exact .inr rfl
theorem kn_shr {a' a : List UInt8} (n : Nat) (h : Kn a' a) (hn : n ≤ a.length) : Kn (shrL a' n) (shrL a n) := by
  refine kn_mk (by unfold shrL; simp [h.1]) fun i hi => ?_
  unfold shrL at hi ⊢
  rw [List.length_append, len_rep, List.length_take] at hi
  by_cases c : i < n
  · rw [getD_append_l _ _ _ (by rw [len_rep]; exact c), getD_append_l _ _ _ (by rw [len_rep]; exact c)]; exact .inr rfl
  · rw [getD_append_r _ _ _ (by rw [len_rep]; omega), getD_append_r _ _ _ (by rw [len_rep]; omega), len_rep, h.1, getD_take _ _ _ (by omega), getD_take _ _ _ (by omega)]; exact kn_at h _ (by omega)
theorem upTo_le (l : List UInt8) (m : Nat) : upToN l m ≤ m := by unfold upToN; split <;> omega
theorem len_shift (op : Int) (a b : List UInt8) : (shiftL op a b).length = a.length := by
  have h := upTo_le b a.length
  unfold shiftL
  split
  · split
    · unfold shlL; rw [List.length_append, List.length_drop, len_rep]; omega
    · unfold shrL; rw [List.length_append, List.length_take, len_rep]; omega
  · exact len_rep _ _
theorem kn_shift (op : Int) {a' a b' b : List UInt8} (ha : Kn a' a) (hb : Kn b' b) : Kn (shiftL op a' b') (shiftL op a b) := by
  by_cases k : kno b' = true
  · have e := kn_known hb k
    subst e
    unfold shiftL
    rw [if_pos k, if_pos k, ha.1]
    split
    · exact kn_shl _ ha (upTo_le _ _)
    · exact kn_shr _ ha (upTo_le _ _)
  · have e : shiftL op a' b' = rep a'.length 120 := by unfold shiftL; rw [if_neg k]
    rw [e]; exact kn_x _ _ (by rw [len_shift, ha.1])
theorem kn_bin (op : Int) {a' a b' b : List UInt8} (ha : Kn a' a) (hb : Kn b' b) (ka : kno a = true) (kb : kno b = true) : Kn (binL op a' b') (binL op a b) := by
  have ta := kn_tru ha ka
  have tb := kn_tru hb kb
  unfold binL
  by_cases h1 : op = 15 ∨ op = 16
  · rw [if_pos h1, if_pos h1]; exact kn_shift op ha hb
  rw [if_neg h1, if_neg h1]
  by_cases h2 : op = 26
  · rw [if_pos h2, if_pos h2]; exact kn_one (le_and _ _ _ _ ta.2 tb.2 ta.1 tb.1)
  rw [if_neg h2, if_neg h2]
  by_cases h3 : op = 27
  · rw [if_pos h3, if_pos h3]; exact kn_one (le_or _ _ _ _ ta.2 tb.2 ta.1 tb.1)
  rw [if_neg h3, if_neg h3, ha.1, hb.1]
  exact kn_oneW op (kn_fit _ ha) (kn_fit _ hb) (by rw [len_fit, len_fit]) (kno_fit _ _ ka) (kno_fit _ _ kb)
theorem le_not {x' x : UInt8} (hx : x = 48 ∨ x = 49) (h : Le1 x' x) : Le1 (bnot x') (bnot x) := by
  unfold Le1 at *; rcases hx with rfl | rfl <;> rcases h with rfl | rfl <;> decide
theorem kn_turn {a' a : List UInt8} (h : Kn a' a) (k : kno a = true) : Kn (turnL a') (turnL a) := by
  refine kn_mk (by rw [len_turnL, len_turnL, h.1]) fun i hi => ?_
  rw [len_turnL] at hi
  unfold turnL
  rw [getD_tab _ _ _ (by rw [h.1]; exact hi), getD_tab _ _ _ hi]
  exact le_not (kno_get k i hi) (kn_at h i hi)
theorem kn_una (op : Int) {a' a : List UInt8} (h : Kn a' a) (k : kno a = true) : Kn (unaL op a') (unaL op a) := by
  have ta := kn_tru h k
  have fa := fun f hk hf c hc => kn_and f hk hf a' a c c hc (.inr rfl) h.1 k (fun i hi => kn_at h i hi)
  unfold unaL
  by_cases h1 : op = 7
  · rw [if_pos h1, if_pos h1]; exact kn_turn h k
  rw [if_neg h1, if_neg h1]
  by_cases h2 : op = 9
  · rw [if_pos h2, if_pos h2, h.1]; exact kn_dif (kn_refl _) h
  rw [if_neg h2, if_neg h2]
  by_cases h3 : op = 10
  · rw [if_pos h3, if_pos h3]; exact kn_one (fa band k_and le_and 49 (.inr rfl)).1
  rw [if_neg h3, if_neg h3]
  by_cases h4 : op = 11
  · rw [if_pos h4, if_pos h4]; exact kn_one ta.1
  rw [if_neg h4, if_neg h4]
  by_cases h5 : op = 12
  · rw [if_pos h5, if_pos h5]; exact kn_one (fa bxor k_xor le_xor 48 (.inl rfl)).1
  rw [if_neg h5, if_neg h5]; exact kn_one (le_not ta.2 ta.1)
theorem agr_l {x' x y' y : UInt8} (hx : x = 48 ∨ x = 49) (hy : y = 48 ∨ y = 49) (h1 : Le1 x' x) (h2 : Le1 y' y) : Le1 (bagr x' y') x ∧ Le1 (bagr x' y') y := by
  unfold Le1 at *; rcases hx with rfl | rfl <;> rcases hy with rfl | rfl <;> rcases h1 with rfl | rfl <;> rcases h2 with rfl | rfl <;> decide
theorem kn_cond {c' c a' a b' b : List UInt8} (hc : Kn c' c) (ha : Kn a' a) (hb : Kn b' b) (hl : a.length = b.length) (kc : kno c = true) (ka : kno a = true) (kb : kno b = true) : Kn (condL c' a' b') (condL c a b) := by
  have tc := kn_tru hc kc
  unfold condL
  rcases tc.1 with e | e
  · rw [if_neg (by rw [e]; decide), if_neg (by rw [e]; decide)]
    have key : ∀ l, (l = a ∨ l = b) → Kn (bitwise bagr a' b') l := fun l hll => by
      refine kn_mk (by rw [len_bitwise, ha.1]; rcases hll with rfl | rfl <;> omega) fun i hi => ?_
      have hi1 : i < a.length := by rcases hll with rfl | rfl <;> omega
      unfold bitwise
      rw [getD_tab _ _ _ (by rw [ha.1]; exact hi1)]
      have := agr_l (kno_get ka i hi1) (kno_get kb i (by omega)) (kn_at ha i hi1) (kn_at hb i (by omega))
      rcases hll with rfl | rfl
      · exact this.1
      · exact this.2
    rcases tc.2 with t | t
    · rw [if_neg (by rw [t]; decide), if_pos t]; exact key b (.inr rfl)
    · rw [if_pos t]; exact key a (.inl rfl)
  · rw [e]
    rcases tc.2 with t | t
    · rw [if_neg (by rw [t]; decide), if_pos t, if_neg (by rw [t]; decide), if_pos t]; exact hb
    · rw [if_pos t, if_pos t]; exact ha
theorem kn_bt {v' v at' at'' : List UInt8} (hv : Kn v' v) (ht : Kn at' at'') : Kn (btL v' at') (btL v at'') := by
  by_cases k : kno at' = true
  · have e := kn_known ht k
    subst e
    unfold btL
    rw [if_pos k, if_pos k, hv.1]
    by_cases c : num at' < v.length
    · rw [if_pos c, if_pos c]; unfold bitAt; rw [hv.1]; exact kn_one (kn_at hv _ (by omega))
    · rw [if_neg c, if_neg c]; exact kn_refl _
  · have e : btL v' at' = rep 1 120 := by unfold btL; rw [if_neg k]; rfl
    rw [e]; refine kn_x _ _ ?_
    unfold btL; split
    · split <;> rfl
    · rfl
end Lg
