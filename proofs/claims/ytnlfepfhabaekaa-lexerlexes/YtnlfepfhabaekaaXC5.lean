/- Layer 2 of the program: digits by a base. -/
import Derived.Test.YtnlfepfhabaekaaXC3
import Derived.Test.YtnlfepfhabaekaaXC4
namespace Go.Proofs.Ytnlfepfhabaekaa
open Go.RowKit Lg
set_option linter.unusedVariables false
set_option linter.unusedSimpArgs false

theorem heap_lt {w : World} {g : Nat} {o : Obj} (h : w.heap[g]? = some o) : g < w.heap.size := by
  rcases Nat.lt_or_ge g w.heap.size with h' | h'
  · exact h'
  · simp [Array.getElem?_eq_none h'] at h
theorem owns_keep {w w' : World} (hb : Below w.heap.size w w') {B n z : Nat} {e : TypeId} {v : Value} {xs : List Value} (h : w.ownsRow B e z v n xs) : w'.ownsRow B e z v n xs := by
  obtain ⟨h1, h2⟩ := h
  refine ⟨h1, ?_⟩
  rcases h2 with h2 | ⟨g, cap, cur, hv, hg, hh, r⟩
  · exact Or.inl h2
  · exact Or.inr ⟨g, cap, cur, hv, hg, by rw [hb.block g (heap_lt hh)]; exact hh, r⟩
theorem buildAt_keep {w w' : World} (hb : Below w.heap.size w w') {T e : TypeId} {B b : Nat} {p : Value} {bs : List Value} (h : Lib.BuilderAt T e B b p bs w) : Lib.BuilderAt T e B b p bs w' := by
  obtain ⟨h1, v, hh, ho, hn⟩ := h
  exact ⟨h1, v, by rw [hb.block b (heap_lt hh)]; exact hh, owns_keep hb ho, hn⟩
theorem build_keep {w w' : World} (hb : Below w.heap.size w w') {T e : TypeId} {B b : Nat} {bs : List Value} (h : Lib.IsBuilder T e B b bs w) : Lib.IsBuilder T e B b bs w' := by
  rcases h with h | h
  · exact Or.inl (buildAt_keep hb h)
  · exact Or.inr (buildAt_keep hb h)
theorem byteCells_app (a b : List UInt8) : Lib.byteCells (a ++ b) = Lib.byteCells a ++ Lib.byteCells b := by simp [Lib.byteCells]
theorem byteCells_len (a : List UInt8) : (Lib.byteCells a).length = a.length := by simp [Lib.byteCells]
theorem strCells_S (a : List UInt8) : Lib.strCells (S a) = Lib.byteCells a := rfl
theorem cat_one {k : Nat} {c : UInt8} {b : List UInt8} (h : dgt k c = some b) : cat k [c] = some b := by simp [cat, h]
theorem cat_snoc {k : Nat} {l x b : List UInt8} {c : UInt8} (h : cat k l = some x) (hd : dgt k c = some b) : cat k (l ++ [c]) = some (x ++ b) := by
  rw [cat_append, h, cat_one hd]; rfl
theorem cat_bad {k : Nat} (s : ByteArray) (i : Nat) (h : i < s.size) (hd : dgt k s[i] = none) : cat k (L s) = none := by
  rw [← List.take_append_drop i (L s), drop_cons s i h, cat_append]
  cases cat k ((L s).take i) with
  | none => rfl
  | some x => simp [cat, hd]
theorem tail_step (s : ByteArray) (i n : Nat) (h : i < s.size) (hn : s.size - n ≤ i) : ((L s).take (i + 1)).drop (s.size - n) = ((L s).take i).drop (s.size - n) ++ [s[i]] := by
  rw [take_snoc s i h, List.drop_append_of_le_length (by rw [List.length_take, len_L]; omega)]
theorem tail_none (s : ByteArray) (i n : Nat) (h : i ≤ s.size - n) : ((L s).take i).drop (s.size - n) = [] := List.drop_of_length_le (by rw [List.length_take]; omega)
theorem tupOS {a b : Option (List UInt8)} (h : a = b) : Ending.returned (.tuple #[.string (S (oS a)), .bool (oB a)]) = .returned (.tuple #[.string (S (oS b)), .bool (oB b)]) := by rw [h]

set_option maxHeartbeats 2000000 in
theorem grouped_c (s : ByteArray) (k n : Nat) (w : World) (hs : s.size ≤ maxLen) (hk : k = 1 ∨ k = 4) (h1 : 1 ≤ n) (h2 : n ≤ 256) :
    Calls Try.prog 70 #[.string s, .int .i64 k, .int .i64 n] w fun e w' => e = .returned (.tuple #[.string (S (oS (groV k n (L s)))), .bool (oB (groV k n (L s)))]) ∧ Below w.heap.size w w' := by
  unfold maxLen at hs
  go_enter Try.func70, Try.ntmps70
  go_wp2
  go_loopw [14] (fun iv wr => ∃ (i : Nat) (x b : List UInt8), i ≤ s.size ∧ iv = .int .i64 i ∧ Hid (cat k ((L s).take i) = some x) ∧ Hid (cat k (((L s).take i).drop (s.size - n)) = some b) ∧ Hid (Lib.IsBuilder 105 5 w.heap.size w.heap.size (Lib.byteCells b) wr) ∧ Hid (Below w.heap.size w wr)) (fun iv _ => s.size - (intOf iv).toNat)
  case atStart => exact ⟨0, [], [], Nat.zero_le _, rfl, rfl, by rw [List.take_zero, List.drop_nil]; exact rfl, Lib.fresh_isBuilder _ _ _, belA (Below.refl _ _) _⟩
  case round =>
    obtain ⟨i, x, b, hi, rfl, HX, HB, HI, HW⟩ := hrel
    by_cases hlt : i < s.size
    · cases hd : dgt k s[i] with
      | none =>
        have HK : Hid (groV k n (L s) = none) := by unfold groV; rw [cat_bad s i hlt hd]; exact rfl
        have hob : oB (dgt k s[i]) = false := by rw [hd]; rfl
        clear hd
        go_wp2_with (first | (go_at_call 81; refine (digitBits_c s[i] k _ hk).mono ?_; rintro e w' ⟨rfl, hb⟩))
        go_ret2
        exact ⟨tupSB (by rw [HK.out]; exact ⟨rfl, rfl⟩), bel HW.out (by assumption)⟩
      | some d =>
        have hob : oB (dgt k s[i]) = true := by rw [hd]; rfl
        have hos : oS (dgt k s[i]) = d := by rw [hd]; rfl
        have hdl := dgt_len hd
        have hbl := cat_len HB.out
        have hbl2 : b.length ≤ 4 * 256 := by
          rw [hbl, List.length_drop, List.length_take, len_L]
          rcases hk with rfl | rfl <;> omega
        have HC : Hid (cat k ((L s).take (i + 1)) = some (x ++ d)) := by rw [take_snoc s i hlt]; exact cat_snoc HX.out hd
        have HD : Hid (dgt k s[i] = some d) := hd
        clear hd hbl
        by_cases hn : s.size - n ≤ i
        · have hni : (s.size : Int) - (i : Int) ≤ (n : Int) := by omega
          go_wp2_with (first
            | (go_at_call 81; refine (digitBits_c s[i] k _ hk).mono ?_; rintro e w1 ⟨rfl, hb⟩; rw [hob, hos])
            | (go_at_call 82; refine (write_c w.heap.size w.heap.size (Lib.byteCells b) (S d) _ (build_keep hb HI.out) (by rw [byteCells_len, size_S, hdl]; omega) (Nat.le_trans HW.out.size hb.size)).mono ?_; rintro e w2 ⟨rfl, hbu, hbw⟩))
          go_roundw
          case rel =>
            refine ⟨i + 1, x ++ d, b ++ d, by omega, by go_num, HC, by rw [tail_step s i n hlt hn]; exact cat_snoc HB.out HD.out, ?_, bel HW.out (by assumption) |>.trans hbw⟩
            rw [byteCells_app]; exact Or.inr hbu
          case measure => simp [intOf]; omega
        · have hni : (n : Int) < (s.size : Int) - (i : Int) := by omega
          go_wp2_with (first
            | (go_at_call 81; refine (digitBits_c s[i] k _ hk).mono ?_; rintro e w1 ⟨rfl, hb⟩; rw [hob, hos]))
          go_roundw
          case rel =>
            refine ⟨i + 1, x ++ d, b, by omega, by go_num, HC, ?_, build_keep (by assumption) HI.out, bel HW.out (by assumption)⟩
            have := HB.out
            rw [tail_none s i n (by omega)] at this
            rw [tail_none s (i + 1) n (by omega)]; exact this
          case measure => simp [intOf]; omega
    · have hie : i = s.size := by omega
      subst hie
      have hx := HX.out
      rw [take_all s _ (Nat.le_refl _)] at hx
      have hbb := HB.out
      rw [take_all s _ (Nat.le_refl _)] at hbb
      have HK : Hid (groV k n (L s) = strV b n) := by unfold groV; rw [hx, len_L]; show (cat k ((L s).drop (s.size - n))).bind _ = _; rw [hbb]; exact rfl
      have hbl2 : (S b).size ≤ 100000 := by
        rw [size_S, cat_len hbb, List.length_drop, len_L]
        rcases hk with rfl | rfl <;> omega
      have hbi : (L (S b)).all bitB = true := by rw [L_S]; exact cat_bits hbb
      have HLS : Hid (L (S b) = b) := L_S b
      clear hx hbb
      go_wp2_with (first
        | (go_at_call 84; refine (Try.Builder_String_any w.heap.size w.heap.size b _ HI.out HW.out.size).mono ?_; rintro e w1 ⟨rfl, hb⟩)
        | (go_at_call 83; refine (stretched_c (S b) n _ hbl2 hbi h1 h2).mono ?_; rintro e w2 ⟨rfl, hb2⟩))
      go_ret2
      exact ⟨tupOS (by rw [HK.out, HLS.out]), bel (HW.out.trans (by assumption)) (by assumption)⟩
end Go.Proofs.Ytnlfepfhabaekaa
