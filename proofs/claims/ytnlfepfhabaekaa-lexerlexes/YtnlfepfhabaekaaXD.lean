/- Layer 2 of the program: a number's text. -/
import Derived.Test.YtnlfepfhabaekaaXC5
namespace Go.Proofs.Ytnlfepfhabaekaa
open Go.RowKit Lg
set_option linter.unusedVariables false
set_option linter.unusedSimpArgs false

theorem ix39 (l : List UInt8) : Lib.indexByte l 39 = if has39 l then ((pre39 l).length : Int) else -1 := by
  induction l with
  | nil => rfl
  | cons c l ih =>
    simp only [Lib.indexByte]
    by_cases h : c = 39
    · subst h; simp [has39, pre39]
    · have h1 : (c == 39) = false := by simpa using h
      have h2 : has39 (c :: l) = has39 l := by simp [has39, h1]
      have h3 : pre39 (c :: l) = c :: pre39 l := by simp [pre39, List.takeWhile_cons, h]
      rw [h1, h2, h3, ih]
      cases has39 l <;> simp <;> omega
theorem no39 {l : List UInt8} (h : has39 l = false) : pre39 l = l ∧ pos39 l = [] := by
  induction l with
  | nil => exact ⟨rfl, rfl⟩
  | cons c l ih =>
    have hc : ¬ c = 39 := by intro e; subst e; simp [has39] at h
    have h1 : (c == 39) = false := by simpa using hc
    have h2 : has39 l = false := by simpa [has39, h1] using h
    have h3 : pre39 (c :: l) = c :: pre39 l := by simp [pre39, List.takeWhile_cons, hc]
    have h4 : pos39 (c :: l) = pos39 l := by simp [pos39, List.dropWhile_cons, hc]
    rw [h3, h4, (ih h2).1, (ih h2).2]; exact ⟨rfl, rfl⟩
theorem is39 {l : List UInt8} (h : has39 l = true) : l = pre39 l ++ 39 :: pos39 l := by
  induction l with
  | nil => cases h
  | cons c l ih =>
    by_cases hc : c = 39
    · subst hc; simp [pre39, pos39]
    · have h1 : (c == 39) = false := by simpa using hc
      have h2 : has39 l = true := by simpa [has39, h1] using h
      have h3 : pre39 (c :: l) = c :: pre39 l := by simp [pre39, List.takeWhile_cons, hc]
      have h4 : pos39 (c :: l) = pos39 l := by simp [pos39, List.dropWhile_cons, hc]
      rw [h3, h4, List.cons_append, ← ih h2]
theorem pre_str {s : ByteArray} {q : Nat} (h : has39 (L s) = true) (hq : (pre39 (L s)).length = q) : s.extract 0 q = S (pre39 (L s)) := by
  apply L_inj
  rw [L_extract, L_S, List.drop_zero, Nat.sub_zero]
  generalize hp : pre39 (L s) = p at hq
  rw [is39 h, hp, ← hq, List.take_left]
theorem pos_str {s : ByteArray} {q : Nat} (h : has39 (L s) = true) (hq : (pre39 (L s)).length = q) : s.extract (q + 1) s.size = S (pos39 (L s)) := by
  apply L_inj
  have hl := len_L s
  rw [L_extract, L_S, List.take_of_length_le (by simp [len_L] <;> omega)]
  generalize hp : pre39 (L s) = p at hq
  have hd : (L s).drop (q + 1) = pos39 (L s) := by
    conv => lhs; rw [is39 h, hp]
    rw [← hq, ← List.drop_drop, List.drop_left]; rfl
  rw [hd]
theorem tup3 {a b : ByteArray} {c : Bool} {x y : List UInt8} {z : Bool} (h : a = S x ∧ b = S y ∧ c = z) : Ending.returned (.tuple #[.string a, .string b, .bool c]) = .returned (.tuple #[.string (S x), .string (S y), .bool z]) := by rw [h.1, h.2.1, h.2.2]

set_option maxHeartbeats 1000000 in
theorem cutLite_c (s : ByteArray) (w : World) (hs : s.size ≤ maxLen) : Calls Try.prog 68 #[.string s, .string ⟨#[39]⟩] w fun e w' => e = .returned (.tuple #[.string (S (pre39 (L s))), .string (S (pos39 (L s))), .bool (has39 (L s))]) ∧ Below w.heap.size w w' := by
  unfold maxLen at hs
  by_cases h : has39 (L s) = true
  · have hix : Lib.indexByte s.data.toList 39 = ((pre39 (L s)).length : Int) := by have := ix39 (L s); rw [if_pos h] at this; exact this
    obtain ⟨q, hq⟩ : ∃ q, (pre39 (L s)).length = q := ⟨_, rfl⟩
    have hlt : q < s.size := by
      have := congrArg List.length (is39 h)
      rw [len_L, List.length_append, List.length_cons, hq] at this
      omega
    rw [hq] at hix
    have e1 := pre_str h hq
    have e2 := pos_str h hq
    have E1 : Hid (s.extract 0 q = S (pre39 (L s))) := e1
    have E2 : Hid (s.extract (q + 1) s.size = S (pos39 (L s))) := e2
    clear e1 e2 hq
    go_enter Try.func68, Try.ntmps68
    go_wp2_with (first | (go_at_call 80; refine (Try.stringslite_Index_one _ _ _).mono ?_; rintro e w' ⟨rfl, rfl⟩; rw [hix]))
    have c1 : q ≤ s.size := by omega
    have c2 : (q : Int) ≤ (s.size : Int) := by omega
    have c3 : (q : Int) + 1 ≤ (s.size : Int) := by omega
    have c4 : q + 1 ≤ s.size := by omega
    go_region
    go_wp2
    go_ret3
    exact ⟨tup3 ⟨E1.out, E2.out, h.symm⟩, belD⟩
  · have h' : has39 (L s) = false := by simpa using h
    have hix : Lib.indexByte s.data.toList 39 = -1 := by have := ix39 (L s); rw [if_neg h] at this; exact this
    obtain ⟨p1, p2⟩ := no39 h'
    have E1 : Hid (pre39 (L s) = L s) := p1
    have E2 : Hid (pos39 (L s) = []) := p2
    clear p1 p2 h
    go_enter Try.func68, Try.ntmps68
    go_wp2_with (first | (go_at_call 80; refine (Try.stringslite_Index_one _ _ _).mono ?_; rintro e w' ⟨rfl, rfl⟩; rw [hix]))
    go_ret3
    exact ⟨tup3 ⟨by rw [E1.out, S_L], by rw [E2.out]; rfl, h'.symm⟩, Below.refl _ _⟩

set_option maxHeartbeats 1000000 in
theorem cut_c (s : ByteArray) (w : World) (hs : s.size ≤ maxLen) : Calls Try.prog 49 #[.string s, .string ⟨#[39]⟩] w fun e w' => e = .returned (.tuple #[.string (S (pre39 (L s))), .string (S (pos39 (L s))), .bool (has39 (L s))]) ∧ Below w.heap.size w w' := by
  go_enter Try.func49, Try.ntmps49
  go_wp2_with (first | (go_at_call 68; refine (cutLite_c s _ hs).mono ?_; rintro e w' ⟨rfl, hb⟩))
  go_ret3
  exact ⟨rfl, hb⟩

set_option maxHeartbeats 1000000 in
theorem based_c (c : UInt8) (s : ByteArray) (n : Nat) (w : World) (hs : s.size ≤ maxLen) (h1 : 1 ≤ n) (h2 : n ≤ 256) :
    Calls Try.prog 52 #[.int .u8 c.toNat, .string s, .int .i64 n] w fun e w' => e = .returned (.tuple #[.string (S (oS (basV c (L s) n))), .bool (oB (basV c (L s) n))]) ∧ Below w.heap.size w w' := by
  have hI : ∀ d : UInt8, ¬ c = d → (((c.toNat : Nat) : Int) == (d.toNat : Int)) = false := by
    intro d h; rw [beq_eq_false_iff_ne]; intro e; exact h ((toI c d).1 e)
  by_cases c1 : c = 98
  · subst c1
    have HK : Hid (basV 98 (L s) n = groV 1 n (L s)) := rfl
    go_enter Try.func52, Try.ntmps52
    go_wp2_with (first | (go_at_call 70; refine (grouped_c s 1 n _ hs (Or.inl rfl) h1 h2).mono ?_; rintro e w' ⟨rfl, hb⟩))
    go_ret2
    exact ⟨tupOS HK.out.symm, by assumption⟩
  · have b1 : (((c.toNat : Nat) : Int) == 98) = false := hI 98 c1
    by_cases c2 : c = 104
    · subst c2
      have HK : Hid (basV 104 (L s) n = groV 4 n (L s)) := rfl
      go_enter Try.func52, Try.ntmps52
      go_wp2_with (first | (go_at_call 70; refine (grouped_c s 4 n _ hs (Or.inr rfl) h1 h2).mono ?_; rintro e w' ⟨rfl, hb⟩))
      go_ret2
      exact ⟨tupOS HK.out.symm, by assumption⟩
    · have b2 : (((c.toNat : Nat) : Int) == 104) = false := hI 104 c2
      by_cases c3 : c = 100
      · subst c3
        cases hv : whV 2147483647 (L s) with
        | none =>
          have HK : Hid (basV 100 (L s) n = none) := by show (whV 2147483647 (L s)).map _ = none; rw [hv]; rfl
          have hob : oB (whV 2147483647 (L s)) = false := by rw [hv]; rfl
          clear hv b1 b2
          go_enter Try.func52, Try.ntmps52
          go_wp2_with (first | (go_at_call 50; refine (wholeNumber_c s 2147483647 _ hs (by omega)).mono ?_; rintro e w' ⟨rfl, rfl⟩))
          go_ret2
          exact ⟨tupSB (by rw [HK.out]; exact ⟨rfl, rfl⟩), Below.refl _ _⟩
        | some m =>
          have HK : Hid (basV 100 (L s) n = some (ofL m n)) := by show (whV 2147483647 (L s)).map _ = _; rw [hv]; rfl
          have hob : oB (whV 2147483647 (L s)) = true := by rw [hv]; rfl
          have hon : oN (whV 2147483647 (L s)) = m := by rw [hv]; rfl
          have hml := whV_le hv
          obtain ⟨o1, o2⟩ := ofL_ok m n h1 h2
          have HO : Hid (ofA m n = ofL m n) := o1
          clear hv b1 b2 o1
          go_enter Try.func52, Try.ntmps52
          go_wp2_with (first
            | (go_at_call 50; refine (wholeNumber_c s 2147483647 _ hs (by omega)).mono ?_; rintro e w' ⟨rfl, rfl⟩; rw [hob, hon])
            | (go_at_call 51; refine (Of_c m n _ (by omega)).mono ?_; rintro e w' ⟨rfl, hb⟩))
          go_ret2
          exact ⟨tupSB (by rw [HK.out, L_S, HO.out]; exact ⟨rfl, by simp [o2, oB]⟩), by assumption⟩
      · have b3 : (((c.toNat : Nat) : Int) == 100) = false := hI 100 c3
        have HK : Hid (basV c (L s) n = none) := by unfold basV; rw [if_neg c1, if_neg c2, if_neg c3]; exact rfl
        go_enter Try.func52, Try.ntmps52
        go_wp2
        go_ret2
        exact ⟨tupSB (by rw [HK.out]; exact ⟨rfl, rfl⟩), Below.refl _ _⟩
theorem cut2_c (s h t : ByteArray) (w : World) (hs : s.size ≤ maxLen) (hh : L h = pre39 (L s)) (ht : L t = pos39 (L s)) : Calls Try.prog 49 #[.string s, .string ⟨#[39]⟩] w fun e w' => e = .returned (.tuple #[.string h, .string t, .bool (has39 (L s))]) ∧ Below w.heap.size w w' := by
  refine (cut_c s w hs).mono ?_
  rintro e w' ⟨rfl, hb⟩
  exact ⟨by rw [← hh, ← ht, S_L, S_L], hb⟩
def numS (l : List UInt8) : List UInt8 := match numV l with | none => [] | some v => v.1
def numP (l : List UInt8) : Bool := match numV l with | none => false | some v => v.2
def numE2 (l : List UInt8) : Int := match numV l with | none => 21 | some _ => 0
theorem num_none {l : List UInt8} (h : numV l = none) : numS l = [] ∧ numP l = false ∧ numE2 l = 21 := by unfold numS numP numE2; rw [h]; exact ⟨rfl, rfl, rfl⟩
theorem num_some {l v : List UInt8} {b : Bool} (h : numV l = some (v, b)) : numS l = v ∧ numP l = b ∧ numE2 l = 0 := by unfold numS numP numE2; rw [h]; exact ⟨rfl, rfl, rfl⟩
theorem tup3e {a : ByteArray} {c : Bool} {n : Int} {x : List UInt8} {z : Bool} {m : Int} (h : x = L a ∧ z = c ∧ m = n) : Ending.returned (.tuple #[.string a, .bool c, .int .i64 n]) = .returned (.tuple #[.string (S x), .bool z, .int .i64 m]) := by rw [h.1, h.2.1, h.2.2, S_L]
theorem len_split (s : ByteArray) : (pre39 (L s)).length ≤ s.size ∧ (pos39 (L s)).length ≤ s.size := by
  cases h : has39 (L s) with
  | false => rw [(no39 h).1, (no39 h).2, len_L]; exact ⟨Nat.le_refl _, Nat.zero_le _⟩
  | true =>
    have := congrArg List.length (is39 h)
    rw [len_L, List.length_append, List.length_cons] at this
    omega

set_option maxHeartbeats 2000000 in
theorem Number_c (s : ByteArray) (w : World) (hs : s.size ≤ maxLen) :
    Calls Try.prog 25 #[.string s] w fun e w' => e = .returned (.tuple #[.string (S (numS (L s))), .bool (numP (L s)), .int .i64 (numE2 (L s))]) ∧ Below w.heap.size w w' := by
  obtain ⟨h, hh⟩ : ∃ h, L h = pre39 (L s) := ⟨S _, L_S _⟩
  obtain ⟨t, ht⟩ : ∃ t, L t = pos39 (L s) := ⟨S _, L_S _⟩
  have hcut := fun w => cut2_c s h t w hs hh ht
  obtain ⟨l1, l2⟩ := len_split s
  have hs' := hs
  unfold maxLen at hs'
  have hhs : h.size ≤ maxLen := by unfold maxLen; rw [← len_L, hh]; omega
  have hts : t.size ≤ maxLen := by unfold maxLen; rw [← len_L, ht]; omega
  have hhs' := hhs
  have hts' := hts
  unfold maxLen at hhs' hts'
  have HN : Hid (numV (L s) = match whV 4294967295 (L h) with
    | none => none
    | some n => if 1 < (L h).length ∧ hd0 (L h) = 48 then none else
      if has39 (L s) = false then some (ofL n 32, true) else
      if n < 1 ∨ 256 < n then none else match L t with
        | [] => none
        | c :: r => (basV c r n).map (·, false)) := by rw [hh, ht]; exact rfl
  have HW := fun w => wholeNumber_c h 4294967295 w hhs (by omega)
  clear hh ht l1 l2
  cases hv : whV 4294967295 (L h) with
  | none =>
    have hn := HN.out
    rw [hv] at hn HW
    have HK : Hid _ := num_none hn
    clear hn hv HN
    go_enter Try.func25, Try.ntmps25
    go_wp2_with (first
      | (go_at_call 49; refine (hcut _).mono ?_; rintro e w1 ⟨rfl, hb⟩)
      | (go_at_call 50; refine (HW _).mono ?_; rintro e w2 ⟨rfl, rfl⟩; simp only [oB, oN, Option.isSome_none, Option.getD_none]))
    go_ret3
    exact ⟨tup3e (by rw [HK.out.1, HK.out.2.1, HK.out.2.2]; exact ⟨rfl, rfl, rfl⟩), by assumption⟩
  | some n =>
    have hle := whV_le hv
    have hn := HN.out
    rw [hv] at hn HW
    clear hv HN
    replace hn : numV (L s) = if 1 < (L h).length ∧ hd0 (L h) = 48 then none else if has39 (L s) = false then some (ofL n 32, true) else if n < 1 ∨ 256 < n then none else match L t with | [] => none | c :: r => (basV c r n).map (·, false) := hn
    rw [len_L] at hn
    by_cases hA : 1 < h.size ∧ hd0 (L h) = 48
    · rw [if_pos hA] at hn
      have HK : Hid _ := num_none hn
      obtain ⟨hA1, hA2⟩ := hA
      have hA3 : (((h[0].toNat : Nat) : Int) == 48) = true := by have := headI h (by omega) 48; rw [hA2] at this; exact this
      clear hn hA2
      go_enter Try.func25, Try.ntmps25
      go_wp2_with (first
            | (go_at_call 49; refine (hcut _).mono ?_; rintro e w1 ⟨rfl, hb⟩)
            | (go_at_call 50; refine (HW _).mono ?_; rintro e w2 ⟨rfl, rfl⟩; simp only [oB, oN, Option.isSome_some, Option.getD_some])
            | (go_at_call 51; refine (Of_c n 32 _ (by omega)).mono ?_; rintro e w3 ⟨rfl, hb3⟩))
      go_ret3
      exact ⟨tup3e (by rw [HK.out.1, HK.out.2.1, HK.out.2.2]; exact ⟨rfl, rfl, rfl⟩), by assumption⟩
    · rw [if_neg hA] at hn
      have hA' : h.size ≤ 1 ∨ (1 < h.size ∧ ∃ hp : 0 < h.size, (((h[0].toNat : Nat) : Int) == 48) = false) := by
        by_cases h1 : h.size ≤ 1
        · exact Or.inl h1
        · refine Or.inr ⟨by omega, by omega, ?_⟩
          have := headI h (by omega) 48
          refine this.trans ?_
          rw [beq_eq_false_iff_ne]; intro e; exact hA ⟨by omega, e⟩
      clear hA
      cases hB : has39 (L s) with
      | false =>
        rw [if_pos hB] at hn
        rw [hB] at hcut
        have HK : Hid _ := num_some hn
        obtain ⟨o1, o2⟩ := ofL_ok n 32 (by omega) (by omega)
        have HO : Hid (ofA n ((32 : Nat) : Int) = ofL n 32) := o1
        have HO2 : Hid (ofE n ((32 : Nat) : Int) = 0) := o2
        clear hn hB o1 o2
        rcases hA' with h1 | ⟨h1, hp, hb0⟩
        all_goals
          go_enter Try.func25, Try.ntmps25
          go_wp2_with (first
                | (go_at_call 49; refine (hcut _).mono ?_; rintro e w1 ⟨rfl, hb⟩)
                | (go_at_call 50; refine (HW _).mono ?_; rintro e w2 ⟨rfl, rfl⟩; simp only [oB, oN, Option.isSome_some, Option.getD_some])
                | (go_at_call 51; refine (Of_c n 32 _ (by omega)).mono ?_; rintro e w3 ⟨rfl, hb3⟩))
          go_ret3
          exact ⟨tup3e (by rw [HK.out.1, HK.out.2.1, HK.out.2.2, L_S]; exact ⟨HO.out.symm, rfl, HO2.out.symm⟩), bel (by assumption) (by first | assumption | exact belD.trans (by assumption))⟩
      | true =>
        rw [if_neg (by rw [hB]; simp)] at hn
        rw [hB] at hcut
        clear hB
        by_cases hC : n < 1 ∨ 256 < n
        · rw [if_pos hC] at hn
          have HK : Hid _ := num_none hn
          clear hn
          rcases hC with hC | hC <;> rcases hA' with h1 | ⟨h1, hp, hb0⟩
          all_goals
            go_enter Try.func25, Try.ntmps25
            go_wp2_with (first
                  | (go_at_call 49; refine (hcut _).mono ?_; rintro e w1 ⟨rfl, hb⟩)
                  | (go_at_call 50; refine (HW _).mono ?_; rintro e w2 ⟨rfl, rfl⟩; simp only [oB, oN, Option.isSome_some, Option.getD_some])
                  | (go_at_call 51; refine (Of_c n 32 _ (by omega)).mono ?_; rintro e w3 ⟨rfl, hb3⟩))
            go_ret3
            exact ⟨tup3e (by rw [HK.out.1, HK.out.2.1, HK.out.2.2]; exact ⟨rfl, rfl, rfl⟩), by assumption⟩
        · rw [if_neg hC] at hn
          have hC1 : 1 ≤ n := by omega
          have hC2 : n ≤ 256 := by omega
          clear hC
          by_cases hD : t.size = 0
          · have hte : t = ByteArray.empty := by apply L_inj; rw [(empty_L t).2 hD]; rfl
            subst hte
            have HK : Hid _ := num_none (l := L s) hn
            clear hn
            rcases hA' with h1 | ⟨h1, hp, hb0⟩
            all_goals
              go_enter Try.func25, Try.ntmps25
              go_wp2_with (first
                    | (go_at_call 49; refine (hcut _).mono ?_; rintro e w1 ⟨rfl, hb⟩)
                    | (go_at_call 50; refine (HW _).mono ?_; rintro e w2 ⟨rfl, rfl⟩; simp only [oB, oN, Option.isSome_some, Option.getD_some])
                    | (go_at_call 51; refine (Of_c n 32 _ (by omega)).mono ?_; rintro e w3 ⟨rfl, hb3⟩))
              go_ret3
              exact ⟨tup3e (by rw [HK.out.1, HK.out.2.1, HK.out.2.2]; exact ⟨rfl, rfl, rfl⟩), by assumption⟩
          · have htp : 0 < t.size := by omega
            have hdt := drop_cons t 0 htp
            rw [List.drop_zero] at hdt
            have hex : L (t.extract 1 t.size) = (L t).drop (0 + 1) := by rw [L_extract, List.take_of_length_le (by simp [len_L])]
            rw [hdt, ← hex] at hn
            have hisE : t.toList.isEmpty = false := by rw [toL, List.isEmpty_eq_false_iff, Ne, empty_L]; exact hD
            have hxs : (t.extract 1 t.size).size ≤ maxLen := by unfold maxLen; rw [← len_L, hex, List.length_drop, len_L]; omega
            have hbas := fun w => based_c t[0] (t.extract 1 t.size) n w hxs hC1 hC2
            replace hn : numV (L s) = (basV t[0] (L (t.extract 1 t.size)) n).map (·, false) := hn
            clear hdt hex hD
            cases hbv : basV t[0] (L (t.extract 1 t.size)) n with
            | none =>
              rw [hbv] at hn hbas
              have HK : Hid _ := num_none (l := L s) hn
              clear hn hbv
              rcases hA' with h1 | ⟨h1, hp, hb0⟩
              all_goals
                go_enter Try.func25, Try.ntmps25
                go_wp2_with (first
                      | (go_at_call 49; refine (hcut _).mono ?_; rintro e w1 ⟨rfl, hb⟩)
                      | (go_at_call 50; refine (HW _).mono ?_; rintro e w2 ⟨rfl, rfl⟩; simp only [oB, oN, Option.isSome_some, Option.getD_some])
                      | (go_at_call 51; refine (Of_c n 32 _ (by omega)).mono ?_; rintro e w3 ⟨rfl, hb3⟩))
                have t1 : (0 : Int) < (t.size : Int) := by omega
                have t2 : 1 ≤ t.size := by omega
                have t3 : (1 : Int) ≤ (t.size : Int) := by omega
                go_region_with (go_at_call 52; refine (hbas _).mono ?_; rintro e w4 ⟨rfl, hb4⟩; simp only [oB, oS, Option.isSome_none, Option.getD_none, Option.isSome_some, Option.getD_some])
                all_goals go_wp2
                all_goals go_ret3
                all_goals exact ⟨tup3e (by rw [HK.out.1, HK.out.2.1, HK.out.2.2]; exact ⟨rfl, rfl, rfl⟩), bel (by assumption) (by first | assumption | exact belD.trans (by assumption))⟩
            | some v =>
              rw [hbv] at hn hbas
              have HK : Hid _ := num_some (l := L s) hn
              clear hn hbv
              rcases hA' with h1 | ⟨h1, hp, hb0⟩
              all_goals
                go_enter Try.func25, Try.ntmps25
                go_wp2_with (first
                      | (go_at_call 49; refine (hcut _).mono ?_; rintro e w1 ⟨rfl, hb⟩)
                      | (go_at_call 50; refine (HW _).mono ?_; rintro e w2 ⟨rfl, rfl⟩; simp only [oB, oN, Option.isSome_some, Option.getD_some])
                      | (go_at_call 51; refine (Of_c n 32 _ (by omega)).mono ?_; rintro e w3 ⟨rfl, hb3⟩))
                have t1 : (0 : Int) < (t.size : Int) := by omega
                have t2 : 1 ≤ t.size := by omega
                have t3 : (1 : Int) ≤ (t.size : Int) := by omega
                go_region_with (go_at_call 52; refine (hbas _).mono ?_; rintro e w4 ⟨rfl, hb4⟩; simp only [oB, oS, Option.isSome_none, Option.getD_none, Option.isSome_some, Option.getD_some])
                all_goals go_wp2
                all_goals go_ret3
                all_goals exact ⟨tup3e (by rw [HK.out.1, HK.out.2.1, HK.out.2.2, L_S]; exact ⟨rfl, rfl, rfl⟩), bel (by assumption) (by first | assumption | exact belD.trans (by assumption))⟩
end Go.Proofs.Ytnlfepfhabaekaa
