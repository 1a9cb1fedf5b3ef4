/- Layer 19 of the program: the library's Cut, CutPrefix, Split at one byte; numbers. -/
import Derived.Test.YtfcongggmjijfaaDoorUI
import Derived.Test.YtfcongggmjijfaaDoorShE
namespace Go.Proofs.YtfcongggmjijfaaDoor
set_option maxRecDepth 100000
open Go.RowKit Lg Nl Go.Maps Wf Vd
set_option linter.unusedVariables false
set_option linter.unusedSimpArgs false

theorem ib_no (c : UInt8) : ∀ l : List UInt8, c ∉ l → Lib.indexByte l c = -1
  | [], _ => rfl
  | x :: l, h => by
    have h1 : (x == c) = false := by rw [beq_eq_false_iff_ne]; intro e; exact h (by rw [e]; exact List.mem_cons_self)
    have h2 := ib_no c l fun e => h (List.mem_cons_of_mem _ e)
    unfold Lib.indexByte
    rw [h1, h2]; rfl
theorem ib_at (c : UInt8) : ∀ (a b : List UInt8), c ∉ a → Lib.indexByte (a ++ c :: b) c = (a.length : Int)
  | [], b, _ => by show (if (c == c) = true then (0 : Int) else _) = 0; rw [if_pos (beq_self_eq_true c)]
  | x :: a, b, h => by
    have h1 : (x == c) = false := by rw [beq_eq_false_iff_ne]; intro e; exact h (by rw [e]; exact List.mem_cons_self)
    have h2 := ib_at c a b fun e => h (List.mem_cons_of_mem _ e)
    show (if (x == c) = true then (0 : Int) else if (Lib.indexByte (a ++ c :: b) c == -1) = true then -1 else Lib.indexByte (a ++ c :: b) c + 1) = _
    rw [h1, h2, if_neg (by decide), if_neg (by rw [beq_iff_eq]; omega), List.length_cons]
    omega
theorem cut_parts {s : ByteArray} {c : UInt8} {a b : List UInt8} (h : L s = a ++ c :: b) : s.size = a.length + 1 + b.length ∧ s.extract 0 a.length = S a ∧ s.extract (a.length + 1) s.size = S b := by
  have hz : s.size = a.length + 1 + b.length := by rw [← len_L, h, List.length_append, List.length_cons]; omega
  refine ⟨hz, L_inj ?_, L_inj ?_⟩
  · rw [L_extract, h, L_S, List.drop_zero, Nat.sub_zero, List.take_left]
  · rw [L_extract, h, L_S, hz]
    have e : (a ++ c :: b).drop (a.length + 1) = b := by rw [← List.drop_drop, List.drop_left]; rfl
    rw [e, List.take_of_length_le (by omega)]
theorem lcut_ok (s : ByteArray) (c : UInt8) (a b : List UInt8) (w : World) (h : L s = a ++ c :: b) (hc : c ∉ a) (hs : s.size ≤ 4294967280) :
    Calls Tryd.prog 60 #[.string s, .string ⟨#[c]⟩] w fun e w' => e = .returned (.tuple #[.string (S a), .string (S b), .bool true]) ∧ ∃ n, w' = w.drewN n := by
  obtain ⟨hz, e1, e2⟩ := cut_parts h
  have hI : Lib.indexByte s.data.toList c = (a.length : Int) := by
    have : s.data.toList = a ++ c :: b := h
    rw [this, ib_at c a b hc]
  have c1 : (0 : Int) ≤ (a.length : Int) := by omega
  have c2 : (a.length : Int) ≤ (s.size : Int) := by omega
  have c3 : (0 : Int) ≤ (a.length : Int) + 1 := by omega
  have c4 : (a.length : Int) + 1 ≤ (s.size : Int) := by omega
  have mixed : Tryd.prog.follows .mixedOrders = true := by kernel_rfl
  have HI : Hid (Calls Tryd.prog 71 #[.string s, .string ⟨#[c]⟩] w fun e w' => e = .returned (.int .i64 (a.length : Int)) ∧ w = w') := by
    refine (Any.stringslite_Index_one Tryd.index1 s c w).mono ?_
    rintro e w' ⟨rfl, rfl⟩
    exact ⟨by rw [hI], rfl⟩
  have HE1 := hidV e1
  have HE2 := hidV e2
  have HA : Hid (a.length < 4294967281) := by show _ < _; omega
  clear hI e1 e2 h hc hz
  generalize a.length = k at *
  rw [← HE1.out, ← HE2.out]
  go_enter Tryd.func60, Tryd.ntmps60
  go_wp2_with (first
    | (go_at_call 71; refine HI.out.mono ?_; rintro e w1 ⟨rfl, rfl⟩))
  go_region_o
  all_goals (
    go_wp2
    go_ret3
    exact ⟨rfl, 1, rfl⟩)
theorem lcut_no (s : ByteArray) (c : UInt8) (w : World) (hc : c ∉ L s) :
    Calls Tryd.prog 60 #[.string s, .string ⟨#[c]⟩] w fun e w' => e = .returned (.tuple #[.string s, .string ⟨#[]⟩, .bool false]) ∧ ∃ n, w' = w.drewN n := by
  have hI : Lib.indexByte s.data.toList c = -1 := ib_no c _ hc
  have HI : Hid (Calls Tryd.prog 71 #[.string s, .string ⟨#[c]⟩] w fun e w' => e = .returned (.int .i64 (-1)) ∧ w = w') := by
    refine (Any.stringslite_Index_one Tryd.index1 s c w).mono ?_
    rintro e w' ⟨rfl, rfl⟩
    exact ⟨by rw [hI], rfl⟩
  clear hI hc
  go_enter Tryd.func60, Tryd.ntmps60
  go_wp2_with (first
    | (go_at_call 71; refine HI.out.mono ?_; rintro e w1 ⟨rfl, rfl⟩))
  go_ret3
  exact ⟨rfl, 0, rfl⟩
theorem cut_ok (s : ByteArray) (c : UInt8) (a b : List UInt8) (w : World) (h : L s = a ++ c :: b) (hc : c ∉ a) (hs : s.size ≤ 4294967280) :
    Calls Tryd.prog 53 #[.string s, .string ⟨#[c]⟩] w fun e w' => e = .returned (.tuple #[.string (S a), .string (S b), .bool true]) ∧ ∃ n, w' = w.drewN n := by
  have HC := hidV (lcut_ok s c a b w h hc hs)
  clear h hc hs
  go_enter Tryd.func53, Tryd.ntmps53
  go_wp2_with (first
    | (go_at_call 60; refine HC.out.mono ?_; rintro e w1 ⟨rfl, n, rfl⟩))
  go_ret3
  exact ⟨rfl, n, rfl⟩
theorem cut_no (s : ByteArray) (c : UInt8) (w : World) (hc : c ∉ L s) :
    Calls Tryd.prog 53 #[.string s, .string ⟨#[c]⟩] w fun e w' => e = .returned (.tuple #[.string s, .string ⟨#[]⟩, .bool false]) ∧ ∃ n, w' = w.drewN n := by
  have HC := hidV (lcut_no s c w hc)
  clear hc
  go_enter Tryd.func53, Tryd.ntmps53
  go_wp2_with (first
    | (go_at_call 60; refine HC.out.mono ?_; rintro e w1 ⟨rfl, n, rfl⟩))
  go_ret3
  exact ⟨rfl, n, rfl⟩
/-- does a text begin with a byte -/
def pfB (c : UInt8) (s : ByteArray) : Bool := match L s with | [] => false | x :: _ => x == c
theorem prefix_c (s : ByteArray) (c : UInt8) (w : World) (hs : s.size ≤ 4294967280) :
    Calls Tryd.prog 62 #[.string s, .string ⟨#[c]⟩] w fun e w' => e = .returned (.bool (pfB c s)) ∧ w = w' := by
  cases hl : L s with
  | nil =>
    have hp : pfB c s = false := by unfold pfB; rw [hl]
    have hz : s.size = 0 := by rw [← len_L, hl]; rfl
    rw [hp]
    have h1 : ¬ (1 : Int) ≤ (s.size : Int) := by omega
    go_enter Tryd.func62, Tryd.ntmps62
    go_wp2
    go_ret
    exact ⟨rfl, rfl⟩
  | cons x l =>
    have hp : pfB c s = (x == c) := by unfold pfB; rw [hl]
    have hz : s.size = l.length + 1 := by rw [← len_L, hl]; rfl
    rw [hp]
    have h1 : (1 : Int) ≤ (s.size : Int) := by omega
    have he : ((s.extract 0 1).toList == [c]) = (x == c) := by
      rw [toL, L_extract, hl]
      show ([x] == [c]) = _
      simp
    clear hz hl hp
    go_enter Tryd.func62, Tryd.ntmps62
    go_wp2
    go_ret
    exact ⟨rfl, rfl⟩
/-- the text behind its first byte -/
def tlS (s : ByteArray) : ByteArray := S ((L s).drop 1)
theorem cutp_c (s : ByteArray) (c : UInt8) (w : World) (hs : s.size ≤ 4294967280) :
    Calls Tryd.prog 46 #[.string s, .string ⟨#[c]⟩] w fun e w' => e = .returned (.tuple #[.string (if pfB c s then tlS s else s), .bool (pfB c s)]) ∧ w = w' := by
  have HP := hidV (prefix_c s c w hs)
  have HL : Hid (Calls Tryd.prog 55 #[.string s, .string ⟨#[c]⟩] w fun e w' => e = .returned (.tuple #[.string (if pfB c s then tlS s else s), .bool (pfB c s)]) ∧ w = w') := by
    show Calls _ _ _ _ _
    cases hp : pfB c s with
    | false =>
      rw [hp] at HP
      go_enter Tryd.func55, Tryd.ntmps55
      go_wp2_with (first
        | (go_at_call 62; refine HP.out.mono ?_; rintro e w1 ⟨rfl, rfl⟩))
      go_ret2
      exact ⟨rfl, rfl⟩
    | true =>
      rw [hp] at HP
      have hz : 1 ≤ s.size := by
        unfold pfB at hp
        cases hl : L s with
        | nil => rw [hl] at hp; cases hp
        | cons x l => rw [← len_L, hl]; simp
      have h1 : (1 : Int) ≤ (s.size : Int) := by omega
      have he : s.extract 1 s.size = tlS s := L_inj (by unfold tlS; rw [L_extract, L_S, List.take_of_length_le (by rw [List.length_drop, len_L]; omega)])
      have HE := hidV he
      clear he hz hp
      go_enter Tryd.func55, Tryd.ntmps55
      go_wp2_with (first
        | (go_at_call 62; refine HP.out.mono ?_; rintro e w1 ⟨rfl, rfl⟩))
      go_ret2
      exact ⟨by rw [← HE.out]; rfl, rfl⟩
  generalize (if pfB c s then tlS s else s) = t at *
  generalize pfB c s = q at *
  clear HP
  go_enter Tryd.func46, Tryd.ntmps46
  go_wp2_with (first
    | (go_at_call 55; refine HL.out.mono ?_; rintro e w1 ⟨rfl, rfl⟩))
  go_ret2
  exact ⟨rfl, rfl⟩
end Go.Proofs.YtfcongggmjijfaaDoor
