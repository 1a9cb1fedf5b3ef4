/- Layer 19 of the program: is a text among texts. -/
import Derived.Test.YtfcongggmjijfaaDoorUG
namespace Go.Proofs.YtfcongggmjijfaaDoor
set_option maxRecDepth 100000
open Go.RowKit Lg Nl Go.Maps Wf Vd
set_option linter.unusedVariables false
set_option linter.unusedSimpArgs false

/-- the place of the first such text, or -1 -/
def idxS (v : ByteArray) : List ByteArray → Nat → Int
  | [], _ => -1
  | s :: l, i => if L v = L s then (i : Int) else idxS v l (i + 1)
theorem idx_any (v : ByteArray) : ∀ (l : List ByteArray) (i : Nat), decide ((0 : Int) ≤ idxS v l i) = l.any fun s => decide (L v = L s)
  | [], i => rfl
  | s :: l, i => by
    unfold idxS
    by_cases h : L v = L s
    · rw [if_pos h, List.any_cons, decide_eq_true h, Bool.true_or]
      exact decide_eq_true (by omega)
    · rw [if_neg h, List.any_cons, decide_eq_false h, Bool.false_or]
      exact idx_any v l (i + 1)
theorem idx_skip (v : ByteArray) (l : List ByteArray) : ∀ (i : Nat), (∀ j, j < i → j < l.length → L v ≠ L (sA l j)) → i ≤ l.length → idxS v l 0 = idxS v (l.drop i) i
  | 0, _, _ => by rw [List.drop_zero]
  | i + 1, h, hi => by
    rw [idx_skip v l i (fun j hj => h j (by omega)) (by omega)]
    have e : l.drop i = sA l i :: l.drop (i + 1) := by rw [List.drop_eq_getElem_cons (by omega), sA_at (by omega)]
    rw [e]
    show (if L v = L (sA l i) then _ else _) = _
    rw [if_neg (h i (by omega) (by omega))]
set_option maxHeartbeats 1000000 in
theorem index_c (vs : Value) (v : ByteArray) (l : List ByteArray) (w : World) (hx : StrAt w vs l) (hn : l.length ≤ 140737488355328) : Calls Tryd.prog 25 #[vs, .string v] w fun e w' => e = .returned (.int .i64 (idxS v l 0)) ∧ w = w' := by
  have HX := hidV hx
  obtain ⟨ao, cap, rfl, _, _⟩ := hx
  have HN := hidV hn
  clear hn
  go_enter Tryd.func25, Tryd.ntmps25
  go_upto_region 2 with fail
  go_loopg [8] l.length (fun g s wr => ∃ i : Nat, i ≤ l.length ∧ g = l.length - i ∧ s = .int .i64 i ∧ Hid (∀ j, j < i → j < l.length → L v ≠ L (sA l j)) ∧ w = wr)
  case atStart => exact ⟨0, Nat.zero_le _, rfl, rfl, fun j hj => absurd hj (Nat.not_lt_zero _), rfl⟩
  case round =>
    obtain ⟨i, hi, rfl, rfl, HNo, rfl⟩ := hrel
    by_cases hin : i < l.length
    · obtain ⟨gf, of, rfl, hgf, ef⟩ := HX.out.at_ i hin
      have i0 : (0 : Int) ≤ (i : Int) := by omega
      have i1 : (i : Int) < (l.length : Int) := by omega
      have HI := hidV hin
      have HD : Hid (L v = L (sA l i) → idxS v l 0 = (i : Int)) := by
        intro h
        rw [idx_skip v l i HNo.out hi]
        have e : l.drop i = sA l i :: l.drop (i + 1) := by rw [List.drop_eq_getElem_cons hin, sA_at hin]
        rw [e]
        show (if L v = L (sA l i) then _ else _) = _
        rw [if_pos h]
      have HS : Hid (L v ≠ L (sA l i) → ∀ j, j < i + 1 → j < l.length → L v ≠ L (sA l j)) := by
        intro h j hj hjl
        rcases Nat.lt_or_ge j i with e | e
        · exact HNo.out j e hjl
        · rw [show j = i by omega]; exact h
      clear hin hi
      generalize sA l i = s at ef HD HS
      by_cases hc : L v = L s
      · have hc' : (v.toList == s.toList) = true := by rw [beq_iff_eq, toL, toL]; exact hc
        have HY := hidV (HD.out hc)
        clear hc HD HS
        go_wp2_with fail
        go_ret
        exact ⟨by rw [HY.out]; rfl, rfl⟩
      · have hc' : (v.toList == s.toList) = false := by rw [beq_eq_false_iff_ne, toL, toL]; exact hc
        have HY := hidV (HS.out hc)
        clear hc HD HS
        go_wp2_with fail
        go_roundg (l.length - (i + 1))
        case measure => have := HI.out; omega
        case rel => exact ⟨i + 1, HI.out, rfl, wrap_succ (n := 140737488355328) (by have := HI.out; have := HN.out; omega) (by decide), HY.out, rfl⟩
    · have hie : i = l.length := by omega
      have HY : Hid (idxS v l 0 = -1) := by show _ = _; rw [idx_skip v l i HNo.out hi, hie, List.drop_length]; rfl
      have i5 : ¬ (i : Int) < (l.length : Int) := by omega
      clear hin hie hi
      go_wp2_with fail
      go_ret
      exact ⟨by rw [HY.out]; rfl, rfl⟩
theorem contains_c (vs : Value) (v : ByteArray) (l : List ByteArray) (w : World) (hx : StrAt w vs l) (hn : l.length ≤ 140737488355328) : Calls Tryd.prog 16 #[vs, .string v] w fun e w' => e = .returned (.bool (l.any fun s => decide (L v = L s))) ∧ w = w' := by
  have HC := hidV (index_c vs v l w hx hn)
  have HA := hidV (idx_any v l 0)
  generalize idxS v l 0 = z at *
  clear hx hn
  go_enter Tryd.func16, Tryd.ntmps16
  go_wp2_with (first
    | (go_at_call 25; refine HC.out.mono ?_; rintro e w1 ⟨rfl, rfl⟩))
  go_ret
  exact ⟨by rw [← HA.out]; rfl, rfl⟩
theorem und_is (x : Wv) : (x.nm.any fun s => decide (L (⟨#[95]⟩ : ByteArray) = L s)) = undB x := by
  unfold undB
  congr 1
  funext s
  rw [show L (⟨#[95]⟩ : ByteArray) = [95] from rfl]
  exact decide_eq_decide.2 ⟨Eq.symm, Eq.symm⟩
end Go.Proofs.YtfcongggmjijfaaDoor
