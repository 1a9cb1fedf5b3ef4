/- Layer 1: what is called from outside. -/
import Derived.Test.YtdacoincdkighaaWI
namespace Go.Proofs.Ytdacoincdkighaa
open Go.RowKit Lg
set_option linter.unusedVariables false

theorem vectors1_c (a : ByteArray) (w : World) (ha : a.size ≤ maxLen) : Calls Try.prog 40 #[.slice (some ⟨w.heap.size, 0, none⟩) 1 1] (w.alloc (.cells #[.string a] 9)) fun e w' => e = .returned (.bool (vec (L a))) ∧ w' = w.alloc (.cells #[.string a] 9) := by
  refine (vectors_c [a] w.heap.size 1 _ (by simp) (fun i hi => ?_) (fun i hi => ?_)).mono ?_
  · rw [World.cell?_alloc_at _ _ _ _ rfl]; obtain rfl : i = 0 := by simp at hi; omega
    rfl
  · obtain rfl : i = 0 := by simp at hi; omega
    exact ha
  · rintro e w' ⟨rfl, rfl⟩; exact ⟨ret_bool (by simp), rfl⟩
theorem vectors2_c (a b : ByteArray) (w : World) (ha : a.size ≤ maxLen) (hb : b.size ≤ maxLen) : Calls Try.prog 40 #[.slice (some ⟨w.heap.size, 0, none⟩) 2 2] (w.alloc (.cells #[.string a, .string b] 9)) fun e w' => e = .returned (.bool (vec (L a) && vec (L b))) ∧ w' = w.alloc (.cells #[.string a, .string b] 9) := by
  refine (vectors_c [a, b] w.heap.size 2 _ (by simp) (fun i hi => ?_) (fun i hi => ?_)).mono ?_
  · rw [World.cell?_alloc_at _ _ _ _ rfl]; rcases (show i = 0 ∨ i = 1 by simp at hi; omega) with rfl | rfl <;> rfl
  · rcases (show i = 0 ∨ i = 1 by simp at hi; omega) with rfl | rfl
    · exact ha
    · exact hb
  · rintro e w' ⟨rfl, rfl⟩; exact ⟨ret_bool (by simp), rfl⟩
theorem vectors3_c (a b c : ByteArray) (w : World) (ha : a.size ≤ maxLen) (hb : b.size ≤ maxLen) (hc : c.size ≤ maxLen) : Calls Try.prog 40 #[.slice (some ⟨w.heap.size, 0, none⟩) 3 3] (w.alloc (.cells #[.string a, .string b, .string c] 9)) fun e w' => e = .returned (.bool (vec (L a) && (vec (L b) && vec (L c)))) ∧ w' = w.alloc (.cells #[.string a, .string b, .string c] 9) := by
  refine (vectors_c [a, b, c] w.heap.size 3 _ (by simp) (fun i hi => ?_) (fun i hi => ?_)).mono ?_
  · rw [World.cell?_alloc_at _ _ _ _ rfl]; rcases (show i = 0 ∨ i = 1 ∨ i = 2 by simp at hi; omega) with rfl | rfl | rfl <;> rfl
  · rcases (show i = 0 ∨ i = 1 ∨ i = 2 by simp at hi; omega) with rfl | rfl | rfl
    · exact ha
    · exact hb
    · exact hc
  · rintro e w' ⟨rfl, rfl⟩; exact ⟨ret_bool (by simp), rfl⟩

/-- two results -/
theorem ret_si {a b : ByteArray} {n : Int} (h : a = b) : Ending.returned (.tuple #[.string a, .int .i64 n]) = .returned (.tuple #[.string b, .int .i64 n]) := by rw [h]
/-- what Binary answers: a string and an error -/
def binA (op : Int) (a b : List UInt8) : List UInt8 := if op < 13 ∨ 27 < op then [] else if vec a && vec b then binL op a b else []
def binE (op : Int) (a b : List UInt8) : Int := if op < 13 ∨ 27 < op then 1 else if vec a && vec b then 0 else 10

theorem binA_arg {op : Int} {a b : List UInt8} (h : op < 13 ∨ 27 < op) : binA op a b = [] ∧ binE op a b = 1 := by unfold binA binE; rw [if_pos h, if_pos h]; exact ⟨rfl, rfl⟩
theorem binA_ok {op : Int} {a b : List UInt8} (h1 : 13 ≤ op) (h2 : op ≤ 27) (h : (vec a && vec b) = true) : binA op a b = binL op a b ∧ binE op a b = 0 := by
  have hn : ¬ (op < 13 ∨ 27 < op) := by omega
  unfold binA binE; rw [if_neg hn, if_neg hn, h]; exact ⟨rfl, rfl⟩
theorem binA_bad {op : Int} {a b : List UInt8} (h1 : 13 ≤ op) (h2 : op ≤ 27) (h : (vec a && vec b) = false) : binA op a b = [] ∧ binE op a b = 10 := by
  have hn : ¬ (op < 13 ∨ 27 < op) := by omega
  unfold binA binE; rw [if_neg hn, if_neg hn, h]; exact ⟨rfl, rfl⟩
theorem tup2 {s t : List UInt8} {a b : Int} (h : t = s ∧ b = a) : Ending.returned (.tuple #[.string (S s), .int .i64 a]) = .returned (.tuple #[.string (S t), .int .i64 b]) := by rw [h.1, h.2]

set_option maxHeartbeats 1000000 in
theorem Binary_c (op : Int) (s t : ByteArray) (w : World) (hs1 : s.size ≤ maxLen) (hs2 : t.size ≤ maxLen) : Calls Try.prog 16 #[.int .i64 op, .string s, .string t] w fun e w' => e = .returned (.tuple #[.string (S (binA op (L s) (L t))), .int .i64 (binE op (L s) (L t))]) ∧ Below w.heap.size w w' := by
  by_cases h1 : op < 13
  · go_enter Try.func16, Try.ntmps16
    go_wp2
    go_ret2
    exact ⟨tup2 (binA_arg (.inl h1)), Below.refl _ _⟩
  by_cases h2 : 27 < op
  · go_enter Try.func16, Try.ntmps16
    go_wp2
    go_ret2
    exact ⟨tup2 (binA_arg (.inr h2)), Below.refl _ _⟩
  by_cases h3 : (vec (L s) && vec (L t)) = true
  · have HV : Hid ((vec (L s) && vec (L t)) = true) := h3
    have h4 := (Bool.and_eq_true _ _).mp h3
    have v1 := vec_len h4.1
    have v2 := vec_len h4.2
    rw [len_L] at v1 v2
    obtain ⟨v1a, v1b⟩ := v1
    obtain ⟨v2a, v2b⟩ := v2
    clear h4
    go_enter Try.func16, Try.ntmps16
    go_wp2_with (first | (go_at_call 40; refine (vectors2_c s t _ hs1 hs2).mono ?_; rintro e w1 ⟨rfl, rfl⟩) | (go_at_call 41; refine (binary_c op s t _ (by omega) (by omega) (by omega) (by omega)).mono ?_; rintro e w2 ⟨rfl, hb2⟩))
    go_ret2
    exact ⟨tup2 (binA_ok (by omega) (by omega) HV.out), bel (belA (Below.refl _ _) _) (by assumption)⟩
  · have h3' : (vec (L s) && vec (L t)) = false := by simpa using h3
    clear h3
    go_enter Try.func16, Try.ntmps16
    go_wp2_with (go_at_call 40; refine (vectors2_c s t _ hs1 hs2).mono ?_; rintro e w1 ⟨rfl, rfl⟩; rw [h3'])
    go_ret2
    exact ⟨tup2 (binA_bad (by omega) (by omega) h3'), belA (Below.refl _ _) _⟩

def unaA (op : Int) (a : List UInt8) : List UInt8 := if op < 7 ∨ 12 < op then [] else if vec a then unaL op a else []
def unaE (op : Int) (a : List UInt8) : Int := if op < 7 ∨ 12 < op then 1 else if vec a then 0 else 10
theorem unaA_arg {op : Int} {a : List UInt8} (h : op < 7 ∨ 12 < op) : unaA op a = [] ∧ unaE op a = 1 := by unfold unaA unaE; rw [if_pos h, if_pos h]; exact ⟨rfl, rfl⟩
theorem unaA_ok {op : Int} {a : List UInt8} (h1 : 7 ≤ op) (h2 : op ≤ 12) (h : vec a = true) : unaA op a = unaL op a ∧ unaE op a = 0 := by
  have hn : ¬ (op < 7 ∨ 12 < op) := by omega
  unfold unaA unaE; rw [if_neg hn, if_neg hn, h]; exact ⟨rfl, rfl⟩
theorem unaA_bad {op : Int} {a : List UInt8} (h1 : 7 ≤ op) (h2 : op ≤ 12) (h : vec a = false) : unaA op a = [] ∧ unaE op a = 10 := by
  have hn : ¬ (op < 7 ∨ 12 < op) := by omega
  unfold unaA unaE; rw [if_neg hn, if_neg hn, h]; exact ⟨rfl, rfl⟩

set_option maxHeartbeats 1000000 in
theorem Unary_c (op : Int) (s : ByteArray) (w : World) (hs1 : s.size ≤ maxLen) : Calls Try.prog 20 #[.int .i64 op, .string s] w fun e w' => e = .returned (.tuple #[.string (S (unaA op (L s))), .int .i64 (unaE op (L s))]) ∧ Below w.heap.size w w' := by
  by_cases h1 : op < 7
  · go_enter Try.func20, Try.ntmps20
    go_wp2
    go_ret2
    exact ⟨tup2 (unaA_arg (.inl h1)), Below.refl _ _⟩
  by_cases h2 : 12 < op
  · go_enter Try.func20, Try.ntmps20
    go_wp2
    go_ret2
    exact ⟨tup2 (unaA_arg (.inr h2)), Below.refl _ _⟩
  by_cases h3 : vec (L s) = true
  · have v1 := vec_len h3
    rw [len_L] at v1
    obtain ⟨v1a, v1b⟩ := v1
    go_enter Try.func20, Try.ntmps20
    go_wp2_with (first | (go_at_call 40; refine (vectors1_c s _ hs1).mono ?_; rintro e w1 ⟨rfl, rfl⟩) | (go_at_call 51; refine (unary_c op s _ (by omega)).mono ?_; rintro e w2 ⟨rfl, hb2⟩))
    go_ret2
    exact ⟨tup2 (unaA_ok (by omega) (by omega) h3), bel (belA (Below.refl _ _) _) (by assumption)⟩
  · have h3' : vec (L s) = false := by simpa using h3
    clear h3
    go_enter Try.func20, Try.ntmps20
    go_wp2_with (go_at_call 40; refine (vectors1_c s _ hs1).mono ?_; rintro e w1 ⟨rfl, rfl⟩)
    go_ret2
    exact ⟨tup2 (unaA_bad (by omega) (by omega) h3'), belA (Below.refl _ _) _⟩

def conA (c a b : List UInt8) : List UInt8 := if vec c && (vec a && vec b) then (if a.length = b.length then condL c a b else []) else []
def conE (c a b : List UInt8) : Int := if vec c && (vec a && vec b) then (if a.length = b.length then 0 else 1) else 10
theorem conA_ok {c a b : List UInt8} (h : (vec c && (vec a && vec b)) = true) (h2 : a.length = b.length) : conA c a b = condL c a b ∧ conE c a b = 0 := by
  unfold conA conE; rw [h]; simp [h2]
theorem conA_arg {c a b : List UInt8} (h : (vec c && (vec a && vec b)) = true) (h2 : ¬ a.length = b.length) : conA c a b = [] ∧ conE c a b = 1 := by
  unfold conA conE; rw [h]; simp [h2]
theorem conA_bad {c a b : List UInt8} (h : (vec c && (vec a && vec b)) = false) : conA c a b = [] ∧ conE c a b = 10 := by
  unfold conA conE; rw [h]; exact ⟨rfl, rfl⟩
theorem byteI (c d : UInt8) : ((c.toNat : Int) == (d.toNat : Int)) = (c == d) := by
  rw [Bool.eq_iff_iff]; simp [← UInt8.toNat_inj]; omega
theorem tupS {s : ByteArray} {t : List UInt8} {a b : Int} (h : t = L s ∧ b = a) : Ending.returned (.tuple #[.string s, .int .i64 a]) = .returned (.tuple #[.string (S t), .int .i64 b]) := by rw [h.1, h.2, S_L]

set_option maxHeartbeats 1000000 in
theorem Cond_c (c s t : ByteArray) (w : World) (hs0 : c.size ≤ maxLen) (hs1 : s.size ≤ maxLen) (hs2 : t.size ≤ maxLen) : Calls Try.prog 22 #[.string c, .string s, .string t] w fun e w' => e = .returned (.tuple #[.string (S (conA (L c) (L s) (L t))), .int .i64 (conE (L c) (L s) (L t))]) ∧ Below w.heap.size w w' := by
  by_cases h3 : (vec (L c) && (vec (L s) && vec (L t))) = true
  · have HV : Hid ((vec (L c) && (vec (L s) && vec (L t))) = true) := h3
    simp only [Bool.and_eq_true] at h3
    obtain ⟨q1, q2, q3⟩ := h3
    have v1 := vec_len q2
    rw [len_L] at v1
    obtain ⟨v1a, v1b⟩ := v1
    by_cases h4 : s.size = t.size
    · have HL : Hid (s.size = t.size) := h4
      have hb : ((s.size : Int) != (t.size : Int)) = false := by simp [h4]
      have hok := conA_ok HV.out (by rw [len_L, len_L, h4])
      have HK : Hid _ := hok
      clear h4 hok
      by_cases t1 : tru (L c) = 49
      · have e1 : ((tru (L c)).toNat : Int) = 49 := by rw [t1]; rfl
        have HT : Hid (tru (L c) = 49) := t1
        clear t1
        go_enter Try.func22, Try.ntmps22
        go_wp2_with (first | (go_at_call 40; refine (vectors3_c c s t _ hs0 hs1 hs2).mono ?_; rintro e w1 ⟨rfl, rfl⟩) | (go_at_call 55; refine (truth_c c _ hs0).mono ?_; rintro e w2 ⟨rfl, hb2⟩))
        go_ret2
        exact ⟨tupS ⟨by rw [HK.out.1]; unfold condL; rw [if_pos HT.out], HK.out.2⟩, bel (belA (Below.refl _ _) _) (by assumption)⟩
      by_cases t2 : tru (L c) = 48
      · have e1 : ((tru (L c)).toNat : Int) = 48 := by rw [t2]; rfl
        have HT : Hid (tru (L c) = 48) := t2
        clear t2
        go_enter Try.func22, Try.ntmps22
        go_wp2_with (first | (go_at_call 40; refine (vectors3_c c s t _ hs0 hs1 hs2).mono ?_; rintro e w1 ⟨rfl, rfl⟩) | (go_at_call 55; refine (truth_c c _ hs0).mono ?_; rintro e w2 ⟨rfl, hb2⟩))
        go_ret2
        exact ⟨tupS ⟨by rw [HK.out.1]; unfold condL; rw [if_neg t1, if_pos HT.out], HK.out.2⟩, bel (belA (Below.refl _ _) _) (by assumption)⟩
      have e1 : (((tru (L c)).toNat : Int) == 49) = false := by have := byteI (tru (L c)) 49; simp only [show (((49 : UInt8).toNat : Nat) : Int) = 49 from rfl] at this; rw [this]; simpa using t1
      have e2 : (((tru (L c)).toNat : Int) == 48) = false := by have := byteI (tru (L c)) 48; simp only [show (((48 : UInt8).toNat : Nat) : Int) = 48 from rfl] at this; rw [this]; simpa using t2
      go_enter Try.func22, Try.ntmps22
      go_wp2_with (first | (go_at_call 40; refine (vectors3_c c s t _ hs0 hs1 hs2).mono ?_; rintro e w1 ⟨rfl, rfl⟩) | (go_at_call 55; refine (truth_c c _ hs0).mono ?_; rintro e w2 ⟨rfl, hb2⟩) | (go_at_call 57; refine (agreed_c _).mono ?_; rintro e w3 ⟨rfl, hb3⟩; unfold tAgr) | (go_at_call 56; refine (eachBit_c _ _ _ _ _ tabAgr s t _ HL.out (by omega)).mono ?_; rintro e w4 ⟨rfl, hb4⟩))
      go_ret2
      exact ⟨tup2 ⟨by rw [HK.out.1]; unfold condL; rw [if_neg t1, if_neg t2], HK.out.2⟩, bel (bel (bel (belA (Below.refl _ _) _) hb2) hb3) hb4⟩
    · have hb : ((s.size : Int) != (t.size : Int)) = true := by simp; omega
      have hok := conA_arg HV.out (by rw [len_L, len_L]; exact h4)
      have HK : Hid _ := hok
      clear h4 hok
      go_enter Try.func22, Try.ntmps22
      go_wp2_with (go_at_call 40; refine (vectors3_c c s t _ hs0 hs1 hs2).mono ?_; rintro e w1 ⟨rfl, rfl⟩)
      go_ret2
      exact ⟨tup2 HK.out, belA (Below.refl _ _) _⟩
  · have h3' : (vec (L c) && (vec (L s) && vec (L t))) = false := by simpa using h3
    have HK : Hid _ := conA_bad h3'
    clear h3
    go_enter Try.func22, Try.ntmps22
    go_wp2_with (go_at_call 40; refine (vectors3_c c s t _ hs0 hs1 hs2).mono ?_; rintro e w1 ⟨rfl, rfl⟩; rw [h3'])
    go_ret2
    exact ⟨tup2 HK.out, belA (Below.refl _ _) _⟩
end Go.Proofs.Ytdacoincdkighaa
