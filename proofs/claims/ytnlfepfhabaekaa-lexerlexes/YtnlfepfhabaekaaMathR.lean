/- Layer 2, plain: two sources have the tokens of both. -/
import Derived.Test.YtnlfepfhabaekaaMathP
namespace Lg
open Go
set_option linter.unusedVariables false
set_option linter.unusedSimpArgs false
/-- its last byte is a newline -/
def nl (l : List UInt8) : Prop := ∃ a, l = a ++ [10]
theorem nl_tail {c : UInt8} {r : List UInt8} (h : nl (c :: r)) (hc : c ≠ 10) : nl r := by
  obtain ⟨a, ha⟩ := h
  cases a with
  | nil => injection ha with h1 h2; exact absurd h1 hc
  | cons d a => injection ha with h1 h2; exact ⟨a, h2⟩
theorem nl_drop {l : List UInt8} (h : nl l) (p : Nat) (hp : p < l.length) : nl (l.drop p) := by
  obtain ⟨a, rfl⟩ := h
  rw [List.length_append] at hp
  simp at hp
  exact ⟨a.drop p, by rw [List.drop_append_of_le_length (by omega)]⟩
theorem nl_ne {l : List UInt8} (h : nl l) : l ≠ [] := by obtain ⟨a, rfl⟩ := h; simp
theorem tw_app {q : UInt8 → Bool} (hq : q 10 = false) {l : List UInt8} (h : nl l) (t : List UInt8) : (l ++ t).takeWhile q = l.takeWhile q := by
  obtain ⟨a, rfl⟩ := h
  induction a with
  | nil => simp [List.takeWhile_cons, hq]
  | cons c a ih =>
    simp only [List.cons_append, List.takeWhile_cons]
    cases q c with
    | false => rfl
    | true => simp only [if_true]; rw [ih]
theorem tw_lt {q : UInt8 → Bool} (hq : q 10 = false) {l : List UInt8} (h : nl l) : (l.takeWhile q).length < l.length := by
  obtain ⟨a, rfl⟩ := h
  induction a with
  | nil => simp [List.takeWhile_cons, hq]
  | cons c a ih =>
    simp only [List.cons_append, List.takeWhile_cons]
    cases q c with
    | false => simp
    | true => simp only [if_true, List.length_cons]; omega
theorem ixb_app {l : List UInt8} (h : nl l) (t : List UInt8) : 0 ≤ Lib.indexByte l 10 ∧ Lib.indexByte l 10 < l.length ∧ Lib.indexByte (l ++ t) 10 = Lib.indexByte l 10 := by
  obtain ⟨a, rfl⟩ := h
  induction a with
  | nil => simp [Lib.indexByte]
  | cons c a ih =>
    simp only [List.cons_append, Lib.indexByte]
    by_cases hc : c = 10
    · subst hc; simp; omega
    · have h1 : (c == 10) = false := by simpa using hc
      rw [h1]
      obtain ⟨i1, i2, i3⟩ := ih
      have i4 : (Lib.indexByte (a ++ [10]) 10 == -1) = false := by rw [beq_eq_false_iff_ne]; omega
      rw [i3, i4]
      simp
      simp at i2
      omega
theorem idx_app (a b : UInt8) (l t : List UInt8) (h : 0 ≤ Lib.index l [a, b]) : Lib.index (l ++ t) [a, b] = Lib.index l [a, b] := by
  induction l with
  | nil => simp [Lib.index] at h
  | cons c l ih =>
    simp only [List.cons_append, Lib.index] at h ⊢
    have hpre : ∀ d : List UInt8, [a, b].isPrefixOf (c :: l) = true → [a, b].isPrefixOf (c :: (l ++ d)) = true := by
      intro d hp
      cases l with
      | nil => simp [List.isPrefixOf] at hp
      | cons e l => simpa [List.isPrefixOf] using hp
    by_cases hp : [a, b].isPrefixOf (c :: l) = true
    · rw [if_pos hp, if_pos (hpre t hp)]
    · rw [if_neg hp] at h ⊢
      by_cases h1 : Lib.index l [a, b] = -1
      · rw [h1] at h; simp at h
      · have h2 : (Lib.index l [a, b] == -1) = false := by simpa using h1
        have hge := Lib.index_ge l [a, b]
        have hl := idx_le l a b
        have hlen : 2 ≤ l.length := by omega
        have hp2 : ¬ [a, b].isPrefixOf (c :: (l ++ t)) = true := by
          match l, hlen with
          | e :: l, _ => simpa [List.isPrefixOf] using hp
        rw [if_neg hp2, ih (by omega)]
/-- where it is found it stands -/
theorem idx_at (a b : UInt8) (l : List UInt8) (n : Nat) (h : Lib.index l [a, b] = (n : Int)) : ∃ x y, l = x ++ a :: b :: y ∧ x.length = n := by
  induction l generalizing n with
  | nil => simp [Lib.index] at h
  | cons c l ih =>
    simp only [Lib.index] at h
    by_cases hp : [a, b].isPrefixOf (c :: l) = true
    · rw [if_pos hp] at h
      cases l with
      | nil => simp [List.isPrefixOf] at hp
      | cons e l =>
        simp [List.isPrefixOf] at hp
        exact ⟨[], l, by rw [hp.1, hp.2]; rfl, by simp; omega⟩
    · rw [if_neg hp] at h
      by_cases h1 : Lib.index l [a, b] = -1
      · rw [h1] at h; simp at h
      · have h2 : (Lib.index l [a, b] == -1) = false := by simpa using h1
        rw [h2] at h
        simp at h
        obtain ⟨k, hk⟩ : ∃ k : Nat, Lib.index l [a, b] = k := ⟨(Lib.index l [a, b]).toNat, by have := Lib.index_ge l [a, b]; omega⟩
        obtain ⟨x, y, hxy, hx⟩ := ih k hk
        exact ⟨c :: x, y, by rw [hxy]; rfl, by simp; omega⟩
theorem hp_app (x y : UInt8) {c : UInt8} {r : List UInt8} (hr : r ≠ []) (t : List UInt8) : Lib.hasPrefix (c :: (r ++ t)) [x, y] = Lib.hasPrefix (c :: r) [x, y] := by
  cases r with
  | nil => exact absurd rfl hr
  | cons d r => simp [Lib.hasPrefix, List.isPrefixOf]
theorem comW_app {c : UInt8} {r : List UInt8} (h : nl r) (t : List UInt8) (h0 : comW (c :: r) ≠ 0) : comW (c :: (r ++ t)) = comW (c :: r) := by
  have hne := nl_ne h
  have hnl : nl (c :: r) := by obtain ⟨a, rfl⟩ := h; exact ⟨c :: a, rfl⟩
  obtain ⟨i1, i2, i3⟩ := ixb_app hnl t
  unfold comW at h0 ⊢
  rw [hp_app 47 47 hne, hp_app 47 42 hne]
  by_cases g : Lib.hasPrefix (c :: r) [47, 47] = true
  · rw [if_pos g, if_pos g, if_pos i1]
    rw [show c :: (r ++ t) = (c :: r) ++ t from rfl, i3, if_pos i1]
  · rw [if_neg g] at h0 ⊢
    rw [if_neg g]
    by_cases g2 : Lib.hasPrefix (c :: r) [47, 42] = true
    · rw [if_pos g2] at h0 ⊢
      rw [if_pos g2]
      by_cases g3 : 0 ≤ Lib.index ((c :: r).drop 2) [42, 47]
      · have e : (c :: (r ++ t)).drop 2 = (c :: r).drop 2 ++ t := by
          cases r with
          | nil => exact absurd rfl hne
          | cons d r => rfl
        rw [e, idx_app _ _ _ _ g3]
      · rw [if_neg g3] at h0; exact absurd rfl h0
    · rw [if_neg g2] at h0; exact absurd rfl h0
theorem comW_lt {c : UInt8} {r : List UInt8} (h : nl (c :: r)) : comW (c :: r) < (c :: r).length := by
  obtain ⟨i1, i2, _⟩ := ixb_app h []
  unfold comW
  split
  · omega
  split
  · split
    · rename_i g
      obtain ⟨k, hk⟩ : ∃ k : Nat, Lib.index ((c :: r).drop 2) [42, 47] = k := ⟨(Lib.index ((c :: r).drop 2) [42, 47]).toNat, by omega⟩
      obtain ⟨x, y, hxy, hx⟩ := idx_at 42 47 _ k hk
      have hl := congrArg List.length hxy
      rw [List.length_drop, List.length_append, List.length_cons, List.length_cons] at hl
      cases y with
      | cons e y => rw [hk, Int.toNat_natCast]; simp only [List.length_cons] at hl ⊢; omega
      | nil =>
        exfalso
        obtain ⟨a, ha⟩ := h
        have e1 : (c :: r).getLast? = some 10 := by rw [ha]; simp
        have e3 : c :: r = ((c :: r).take 2 ++ x ++ [42]) ++ [47] := by
          conv => lhs; rw [← List.take_append_drop 2 (c :: r), hxy]
          rw [List.append_assoc, List.append_assoc]; rfl
        have e2 : (c :: r).getLast? = some 47 := by rw [e3, List.getLast?_concat]
        rw [e1] at e2
        cases e2
    · simp
  · simp
theorem hd0_app2 {a b : List UInt8} (h : a ≠ []) : hd0 (a ++ b) = hd0 a := by
  cases a with
  | nil => exact absurd rfl h
  | cons c a => rfl
theorem word10 : worB 10 = false := by decide
theorem numb10 : numB 10 = false := by decide
theorem stp_app {df : Bool} {c : UInt8} {r : List UInt8} (h : nl (c :: r)) (t : List UInt8) (hne : ∀ e, stp df c r ≠ .err e) : stp df c (r ++ t) = stp df c r := by
  by_cases hc : c = 10
  · subst hc
    cases df <;> rfl
  · have hr := nl_tail h hc
    have hrn := nl_ne hr
    have hw : ∀ q : UInt8 → Bool, q 10 = false → (c :: (r ++ t)).takeWhile q = (c :: r).takeWhile q := fun q hq => tw_app hq h t
    have n1 : ¬ (c = 10 ∧ df = true) := fun e => hc e.1
    unfold stp at hne ⊢
    rw [if_neg n1] at hne ⊢
    rw [if_neg n1]
    by_cases h2 : kinds c = 24 ∨ kinds c = 8
    · rw [if_pos h2, if_pos h2]
    · rw [if_neg h2] at hne ⊢
      rw [if_neg h2]
      by_cases h3 : c = 47
      · rw [if_pos h3] at hne ⊢
        rw [if_pos h3]
        have h0 : comW (c :: r) ≠ 0 := fun e => by rw [if_pos e] at hne; exact hne _ rfl
        rw [comW_app hr t h0]
      · rw [if_neg h3] at hne ⊢
        rw [if_neg h3]
        by_cases h4 : c = 96
        · rw [if_pos h4, if_pos h4]
          unfold tickP
          have hw2 : wordL (r ++ t) = wordL r := tw_app word10 hr t
          rw [hw2, hd0_app2 hrn]
          have e1 : (r ++ t = [] ∨ letB (hd0 r) = false) ↔ (r = [] ∨ letB (hd0 r) = false) := by simp [hrn]
          simp only [e1]
        · rw [if_neg h4, if_neg h4]
          have hw2 : wordL (c :: (r ++ t)) = wordL (c :: r) := hw worB word10
          have hw3 : numbL (c :: (r ++ t)) = numbL (c :: r) := hw numB numb10
          have hw4 : (c :: (r ++ t)).take 2 = (c :: r).take 2 := by
            cases r with
            | nil => exact absurd rfl hrn
            | cons d r => rfl
          have hw5 : sgW (c :: (r ++ t)) = sgW (c :: r) := by unfold sgW; rw [hw4]
          have hw6 : (c :: (r ++ t)).take (sgW (c :: r)) = (c :: r).take (sgW (c :: r)) := by
            have hle := (sgW_le (c := c) (r := r)).2
            rw [show c :: (r ++ t) = (c :: r) ++ t from rfl, List.take_append_of_le_length hle]
          rw [hw2, hw3, hw5, hw6]
theorem stp_end {df : Bool} {c : UInt8} {r : List UInt8} (h : nl (c :: r)) : (∀ m, stp df c r = .skip m → m = (c :: r).length → df = false) ∧ (∀ k x m, stp df c r = .tk k x m → m = (c :: r).length → dfN df k x = false) := by
  by_cases hc : c = 10
  · subst hc
    cases df with
    | false =>
      have e : stp false 10 r = .skip 1 := rfl
      rw [e]
      exact ⟨fun _ _ _ => rfl, fun k x m hh _ => (by cases hh)⟩
    | true =>
      have e : stp true 10 r = .tk 5 [] 1 := rfl
      rw [e]
      refine ⟨fun m hh _ => (by cases hh), fun k x m hh _ => ?_⟩
      injection hh with h1 h2 h3
      subst h1 h2
      rfl
  · have hr := nl_tail h hc
    have hlen : 1 ≤ r.length := List.length_pos_iff.2 (nl_ne hr)
    have key : ∀ o, stp df c r = o → (∀ m, o = .skip m → m < (c :: r).length) ∧ (∀ k x m, o = .tk k x m → m < (c :: r).length) := by
      intro o ho
      have n1 : ¬ (c = 10 ∧ df = true) := fun e => hc e.1
      unfold stp at ho
      rw [if_neg n1] at ho
      split at ho
      · subst ho; exact ⟨fun m hh => by injection hh with hh; subst hh; simp; omega, fun k x m hh => (by cases hh)⟩
      split at ho
      · split at ho
        · subst ho; exact ⟨fun m hh => (by cases hh), fun k x m hh => (by cases hh)⟩
        · subst ho; exact ⟨fun m hh => by injection hh with hh; subst hh; exact comW_lt h, fun k x m hh => (by cases hh)⟩
      split at ho
      · unfold tickP at ho
        split at ho
        · subst ho; exact ⟨fun m hh => (by cases hh), fun k x m hh => (by cases hh)⟩
        split at ho
        · subst ho; exact ⟨fun m hh => (by cases hh), fun k x m hh => (by cases hh)⟩
        · subst ho
          refine ⟨fun m hh => (by cases hh), fun k x m hh => ?_⟩
          injection hh with _ _ hh
          subst hh
          have := tw_lt word10 hr
          show 1 + (wordL r).length < r.length + 1
          unfold wordL; omega
      split at ho
      · split at ho
        · subst ho; exact ⟨fun m hh => (by cases hh), fun k x m hh => (by cases hh)⟩
        · subst ho
          refine ⟨fun m hh => (by cases hh), fun k x m hh => ?_⟩
          injection hh with _ _ hh
          subst hh
          exact tw_lt word10 h
      split at ho
      · split at ho
        · subst ho; exact ⟨fun m hh => (by cases hh), fun k x m hh => (by cases hh)⟩
        · subst ho
          refine ⟨fun m hh => (by cases hh), fun k x m hh => ?_⟩
          injection hh with _ _ hh
          subst hh
          exact tw_lt numb10 h
      split at ho
      · subst ho
        refine ⟨fun m hh => (by cases hh), fun k x m hh => ?_⟩
        injection hh with _ _ hh
        subst hh
        have hnt : twos.contains ((c :: r).take 2) = true → 2 < (c :: r).length := by
          intro ht
          match r, hr, hlen with
          | [d], hr, _ =>
            obtain ⟨a, ha⟩ := hr
            have : d = 10 := by
              cases a with
              | nil => injection ha
              | cons e a => injection ha with _ h2; cases a <;> cases h2
            subst this
            exfalso
            simp [twos] at ht
          | d :: e :: r, _, _ => simp
        unfold sgW
        split
        · rename_i g; exact hnt g
        · simp; omega
      · subst ho; exact ⟨fun m hh => (by cases hh), fun k x m hh => (by cases hh)⟩
    refine ⟨fun m hh he => ?_, fun k x m hh he => ?_⟩
    · have := (key _ hh).1 m rfl; omega
    · have := (key _ hh).2 k x m rfl; omega
def shf (q : Nat) (t : Tok) : Tok := ⟨t.k, t.x, t.p + q⟩
theorem lex_join (l t : List UInt8) (hl : nl l) : ∀ (f p : Nat) (df : Bool) (n : Nat) (A : List Tok), l.length - p ≤ f → p ≤ l.length → (p = l.length → df = false) → n + A.length ≤ 16384 → lexG p (l.drop p) df n = .toks A →
    lexG p ((l ++ t).drop p) df n = Res.app A (lexG l.length t false (n + A.length)) := by
  intro f
  have base : ∀ (p : Nat) (df : Bool) (n : Nat) (A : List Tok), p = l.length → df = false → lexG p (l.drop p) df n = .toks A → lexG p ((l ++ t).drop p) df n = Res.app A (lexG l.length t false (n + A.length)) := by
    intro p df n A hp hd h
    subst hp hd
    rw [List.drop_of_length_le (Nat.le_refl _), lexG_nil] at h
    injection h with h
    subst h
    rw [List.drop_left, app_nil]; rfl
  induction f with
  | zero =>
    intro p df n A hf hp hd hn h
    exact base p df n A (by omega) (hd (by omega)) h
  | succ f ih =>
    intro p df n A hf hp hd hn h
    rcases Nat.lt_or_ge p l.length with hlt | hge
    · have hcr := List.drop_eq_getElem_cons hlt
      have hnl : nl (l[p] :: l.drop (p + 1)) := by rw [← hcr]; exact nl_drop hl p hlt
      have hcr2 : (l ++ t).drop p = l[p] :: (l.drop (p + 1) ++ t) := by rw [List.drop_append_of_le_length (by omega), hcr]; rfl
      rw [hcr] at h
      have hsp := stp_pos df l[p] (l.drop (p + 1))
      rw [← hcr, List.length_drop] at hsp
      have hend := stp_end (df := df) hnl
      rw [← hcr, List.length_drop] at hend
      cases hq : stp df l[p] (l.drop (p + 1)) with
      | err e => rw [lexG_err hq] at h; cases h
      | skip m =>
        rw [hq] at hsp
        have hs2 : 1 ≤ m ∧ m ≤ l.length - p := hsp
        have hq2 : stp df l[p] (l.drop (p + 1) ++ t) = .skip m := by rw [stp_app hnl t (by intro e; rw [hq]; simp), hq]
        rw [lexG_skip hq, ← hcr, List.drop_drop] at h
        rw [hcr2, lexG_skip hq2, ← hcr2, List.drop_drop]
        exact ih (p + m) df n A (by omega) (by omega) (fun e => hend.1 m hq (by omega)) hn h
      | tk k x m =>
        rw [hq] at hsp
        have hs2 : 1 ≤ m ∧ m ≤ l.length - p := hsp
        have hq2 : stp df l[p] (l.drop (p + 1) ++ t) = .tk k x m := by rw [stp_app hnl t (by intro e; rw [hq]; simp), hq]
        by_cases hn2 : n = 16384
        · rw [lexG_full hq hn2] at h; cases h
        · rw [lexG_tk hq hn2, ← hcr, List.drop_drop] at h
          cases hg : lexG (p + m) (l.drop (p + m)) (dfN df k x) (n + 1) with
          | bad q e => rw [hg] at h; cases h
          | toks us =>
            rw [hg] at h
            injection h with h
            subst h
            rw [hcr2, lexG_tk hq2 hn2, ← hcr2, List.drop_drop]
            rw [List.length_cons] at hn
            rw [ih (p + m) _ (n + 1) us (by omega) (by omega) (fun e => hend.2 k x m hq (by omega)) (by omega) hg, List.length_cons, show n + 1 + us.length = n + (us.length + 1) by omega]
            cases lexG l.length t false (n + (us.length + 1)) <;> rfl
    · exact base p df n A (by omega) (hd (by omega)) h
theorem lex_shift (q : Nat) : ∀ (f : Nat) (l : List UInt8) (p : Nat) (df : Bool) (n n' : Nat) (B : List Tok), l.length ≤ f → n' + B.length ≤ 16384 → lexG p l df n = .toks B → lexG (p + q) l df n' = .toks (B.map (shf q)) := by
  intro f
  induction f with
  | zero =>
    intro l p df n n' B hf hn h
    have : l = [] := List.length_eq_zero_iff.1 (by omega)
    subst this
    rw [lexG_nil] at h ⊢
    injection h with h
    subst h; rfl
  | succ f ih =>
    intro l p df n n' B hf hn h
    cases l with
    | nil =>
      rw [lexG_nil] at h ⊢
      injection h with h
      subst h; rfl
    | cons c r =>
      have hsp := stp_pos df c r
      cases hq : stp df c r with
      | err e => rw [lexG_err hq] at h; cases h
      | skip m =>
        rw [hq] at hsp
        have hs2 : 1 ≤ m ∧ m ≤ (c :: r).length := hsp
        rw [lexG_skip hq] at h ⊢
        rw [show p + q + m = p + m + q by omega]
        exact ih _ _ _ n n' B (by rw [List.length_drop]; omega) hn h
      | tk k x m =>
        rw [hq] at hsp
        have hs2 : 1 ≤ m ∧ m ≤ (c :: r).length := hsp
        by_cases hn2 : n = 16384
        · rw [lexG_full hq hn2] at h; cases h
        · rw [lexG_tk hq hn2] at h
          cases hg : lexG (p + m) ((c :: r).drop m) (dfN df k x) (n + 1) with
          | bad a e => rw [hg] at h; cases h
          | toks us =>
            rw [hg] at h
            injection h with h
            subst h
            rw [List.length_cons] at hn
            rw [lexG_tk hq (by omega), show p + q + m = p + m + q by omega, ih _ _ _ (n + 1) (n' + 1) us (by rw [List.length_drop]; omega) (by omega) hg]
            rfl
theorem joins {s t : List UInt8} {a b : List Tok} (ha : lexL (s ++ [10]) = .toks a) (hb : lexL t = .toks b) (hlen : a.length + b.length ≤ 16384) (hs : (s ++ 10 :: t).length ≤ 65536) :
    ∃ A B, a = A ++ [⟨6, [], s.length + 1⟩] ∧ b = B ++ [⟨6, [], t.length⟩] ∧ lexL (s ++ 10 :: t) = .toks (A ++ (B ++ [⟨6, [], t.length⟩]).map (shf (s.length + 1))) := by
  have e10 : s ++ 10 :: t = (s ++ [10]) ++ t := by simp
  unfold lexL at ha hb
  rw [if_neg (by rw [List.length_append] at hs ⊢; simp at hs ⊢; omega)] at ha
  rw [if_neg (by rw [List.length_append] at hs; simp at hs; omega)] at hb
  cases hA : lexG 0 (s ++ [10]) false 0 with
  | bad p e => rw [hA] at ha; cases ha
  | toks A =>
    cases hB : lexG 0 t false 0 with
    | bad p e => rw [hB] at hb; cases hb
    | toks B =>
      rw [hA] at ha
      rw [hB] at hb
      injection ha with ha
      injection hb with hb
      have hl1 : (s ++ [(10 : UInt8)]).length = s.length + 1 := by simp
      rw [hl1] at ha
      subst ha hb
      rw [List.length_append, List.length_append] at hlen
      simp at hlen
      refine ⟨A, B, rfl, rfl, ?_⟩
      unfold lexL
      rw [if_neg (by omega)]
      have h1 := lex_join (s ++ [10]) t ⟨s, rfl⟩ _ 0 false 0 A (Nat.le_refl _) (Nat.zero_le _) (fun _ => rfl) (by omega) (by rw [List.drop_zero]; exact hA)
      rw [List.drop_zero, hl1, Nat.zero_add] at h1
      have h2 := lex_shift (s.length + 1) t.length t 0 false 0 A.length B (Nat.le_refl _) (by omega) hB
      rw [Nat.zero_add] at h2
      rw [h2] at h1
      rw [e10, h1]
      show Res.toks (A ++ B.map (shf (s.length + 1)) ++ [⟨6, [], (s ++ [10] ++ t).length⟩]) = _
      rw [List.map_append, List.append_assoc]
      congr 3
      show [(⟨6, [], (s ++ [10] ++ t).length⟩ : Tok)] = [shf (s.length + 1) ⟨6, [], t.length⟩]
      unfold shf
      congr 2
      simp; omega
end Lg
