/- The law LogicParts: its walk. -/
import Derived.Test.YtdacoincdkighaaWX
namespace Go.Proofs.Ytdacoincdkighaa
open Go.RowKit Lg
set_option linter.unusedVariables false

theorem S_nil4 : S [] = ⟨#[]⟩ := rfl
/-- three numbers in a box -/
def box3 (n0 n1 n2 : Int) : Obj := .cells #[.int .i64 n0, .int .i64 n1, .int .i64 n2] 36
theorem box3_cells (n0 n1 n2 : Int) (w w' : World) (h : Below (w.alloc (box3 n0 n1 n2)).heap.size (w.alloc (box3 n0 n1 n2)) w') :
    w'.cell? ⟨w.heap.size, 0, none⟩ = some (.int .i64 n0) ∧ w'.cell? ⟨w.heap.size, 1, none⟩ = some (.int .i64 n1) ∧ w'.cell? ⟨w.heap.size, 2, none⟩ = some (.int .i64 n2) := by
  have e : ∀ i, w'.cell? ⟨w.heap.size, i, none⟩ = (#[Value.int .i64 n0, .int .i64 n1, .int .i64 n2] : Array Value)[i]? := fun i => by
    rw [h.cell (by simp)]; exact World.cell?_alloc_at _ _ _ _ rfl
  exact ⟨e 0, e 1, e 2⟩
theorem fit_arg (l : List UInt8) (n : Int) (h : n < 1 ∨ 256 < n) : S (fitA l n) = ⟨#[]⟩ ∧ fitE l n = 1 := by unfold fitA fitE; rw [if_pos h, if_pos h]; exact ⟨rfl, rfl⟩
theorem fit_bad (l : List UInt8) (n : Nat) (h1 : 1 ≤ n) (h2 : n ≤ 256) (h : vec l = false) : S (fitA l n) = ⟨#[]⟩ ∧ fitE l n = 10 := by
  have hn : ¬ ((n : Int) < 1 ∨ 256 < (n : Int)) := by omega
  unfold fitA fitE; rw [if_neg hn, if_neg hn, h]; exact ⟨rfl, rfl⟩
theorem fit_ok (l : List UInt8) (n : Nat) (h1 : 1 ≤ n) (h2 : n ≤ 256) (h : vec l = true) : S (fitA l n) = S (fit l n) ∧ fitE l n = 0 := by
  have hn : ¬ ((n : Int) < 1 ∨ 256 < (n : Int)) := by omega
  unfold fitA fitE; rw [if_neg hn, if_neg hn, h]; exact ⟨rfl, rfl⟩
theorem par_bad (l : List UInt8) (a b : Int) (h : vec l = false) : S (parA l a b) = ⟨#[]⟩ ∧ parE l a b = 10 := by unfold parA parE; rw [h]; exact ⟨rfl, rfl⟩
theorem par_arg (s : ByteArray) (a b : Int) (h : vec (L s) = true) (hc : b < 0 ∨ a < b ∨ (s.size : Int) ≤ a) : S (parA (L s) a b) = ⟨#[]⟩ ∧ parE (L s) a b = 1 := by
  unfold parA parE; rw [h, len_L, if_pos hc, if_pos hc]; exact ⟨rfl, rfl⟩
theorem par_ok (s : ByteArray) (a b : Nat) (h : vec (L s) = true) (h1 : b ≤ a) (h2 : a < s.size) : S (parA (L s) a b) = s.extract (s.size - 1 - a) (s.size - b) ∧ parE (L s) a b = 0 := by
  have hn : ¬ ((b : Int) < 0 ∨ (a : Int) < b ∨ (s.size : Int) ≤ a) := by omega
  rw [part_L s a b h1 h2]
  unfold parA parE; rw [h, len_L, if_neg hn, if_neg hn]; exact ⟨rfl, rfl⟩
theorem bt_bad (l a : List UInt8) (h : (vec l && vec a) = false) : S (btA l a) = ⟨#[]⟩ ∧ btE l a = 10 := by unfold btA btE; rw [h]; exact ⟨rfl, rfl⟩
theorem bt_ok (l a : List UInt8) (h : (vec l && vec a) = true) : S (btA l a) = S (btL l a) ∧ btE l a = 0 := by unfold btA btE; rw [h]; exact ⟨rfl, rfl⟩
theorem tr_ok (l : List UInt8) (h : vec l = true) : (if vec l then ((tru l).toNat : Int) else 0) = ((tru l).toNat : Int) ∧ chkE l = 0 := by unfold chkE; rw [h]; exact ⟨rfl, rfl⟩
theorem tr_bad (l : List UInt8) (h : vec l = false) : (if vec l then ((tru l).toNat : Int) else 0) = 0 ∧ chkE l = 10 := by unfold chkE; rw [h]; exact ⟨rfl, rfl⟩
set_option maxHeartbeats 8000000 in
set_option maxRecDepth 100000 in
theorem LogicPartsBad1 (s t : ByteArray) (n0 : Int) (n1 n2 : Int) (w : World) (hs1 : s.size ≤ maxLen) (hs2 : t.size ≤ maxLen) (c0 : n0 < 1) (va : vec (L s) = false) : Calls Try.prog 6 #[.string s, .string t, .agg #[.int .i64 n0, .int .i64 n1, .int .i64 n2]] w fun e w' => e = .returned (.bool true) ∧ Below w.heap.size w w' := by
  have HF : Hid _ := fit_arg (L s) n0 (.inl c0)
  have HP : Hid _ := par_bad (L s) n1 n2 va
  have HT : Hid _ := bt_bad (L s) (L t) (by rw [va]; rfl)
  have HN : Hid _ := num_bad va
  have HV : Hid _ := tr_bad (L s) va
  have run := Below.refl (w.alloc (box3 n0 n1 n2)).heap.size (w.alloc (box3 n0 n1 n2))
  go_enter Try.func6, Try.ntmps6
  go_wp2_with (first | (go_at_call 24; refine (Fit_c s _ _ hs1).mono ?_; rintro e w10 ⟨rfl, hb⟩; rw [HF.out.1, HF.out.2]; replace run := bel run hb; obtain ⟨q0, q1, q2⟩ := box3_cells _ _ _ _ _ run) | (go_at_call 25; refine (Part_c s _ _ _ hs1).mono ?_; rintro e w11 ⟨rfl, hb⟩; rw [HP.out.1, HP.out.2]; replace run := bel run hb; obtain ⟨q0, q1, q2⟩ := box3_cells _ _ _ _ _ run) | (go_at_call 26; refine (Bit_c s t _ hs1 hs2).mono ?_; rintro e w12 ⟨rfl, hb⟩; rw [HT.out.1, HT.out.2]; replace run := bel run hb; obtain ⟨q0, q1, q2⟩ := box3_cells _ _ _ _ _ run) | (go_at_call 27; refine (Number_c s _ hs1).mono ?_; rintro e w13 ⟨rfl, hb⟩; rw [HN.out.1, HN.out.2]; replace run := bel run hb; obtain ⟨q0, q1, q2⟩ := box3_cells _ _ _ _ _ run) | (go_at_call 28; refine (Truth_c s _ hs1).mono ?_; rintro e w14 ⟨rfl, hb⟩; rw [HV.out.1, HV.out.2]; replace run := bel run hb; obtain ⟨q0, q1, q2⟩ := box3_cells _ _ _ _ _ run) | (go_at_call 29; refine (Check_c s _ hs1).mono ?_; rintro e w15 ⟨rfl, hb⟩; rw [HV.out.2]; replace run := bel run hb; obtain ⟨q0, q1, q2⟩ := box3_cells _ _ _ _ _ run) | (go_at_call_of 17 (Value.string s); refine (may_c s _ hs1).mono ?_; rintro e w9 ⟨rfl, hw1⟩; have hw2 := hw1.symm; subst hw2) | (go_at_call 17; refine (may_c t _ hs2).mono ?_; rintro e w9 ⟨rfl, hw1⟩; have hw2 := hw1.symm; subst hw2) | (go_at_call 30; refine (rFit_c s _ _ hs1 (by omega)).mono ?_; rintro e w17 ⟨rfl, hb⟩; replace run := bel run hb; obtain ⟨q0, q1, q2⟩ := box3_cells _ _ _ _ _ run) | (go_at_call 31; refine (rBit_c s t _ (by omega) hs2).mono ?_; rintro e w18 ⟨rfl, hb⟩; replace run := bel run hb; obtain ⟨q0, q1, q2⟩ := box3_cells _ _ _ _ _ run) | (go_at_call 32; refine (rknown_c s _ hs1).mono ?_; rintro e w9 ⟨rfl, hw1⟩; have hw2 := hw1.symm; subst hw2) | (go_at_call 33; refine (rNumber_c s _ hs1 (by assumption)).mono ?_; rintro e w9 ⟨rfl, hw1⟩; have hw2 := hw1.symm; subst hw2; rw [HR.out]) | (go_at_call 34; refine (rTruth_c s _ hs1).mono ?_; rintro e w9 ⟨rfl, hw1⟩; have hw2 := hw1.symm; subst hw2) | (go_at_call 19; refine (awake_c _).mono ?_; rintro e w3 ⟨rfl, hb⟩; replace run := bel run hb; obtain ⟨q0, q1, q2⟩ := box3_cells _ _ _ _ _ run))
  go_ret
  exact ⟨rfl, bel (belA (Below.refl _ _) _) run⟩
set_option maxHeartbeats 8000000 in
set_option maxRecDepth 100000 in
theorem LogicPartsBad2 (s t : ByteArray) (n0 : Int) (n1 n2 : Int) (w : World) (hs1 : s.size ≤ maxLen) (hs2 : t.size ≤ maxLen) (c0 : 256 < n0) (va : vec (L s) = false) : Calls Try.prog 6 #[.string s, .string t, .agg #[.int .i64 n0, .int .i64 n1, .int .i64 n2]] w fun e w' => e = .returned (.bool true) ∧ Below w.heap.size w w' := by
  have HF : Hid _ := fit_arg (L s) n0 (.inr c0)
  have HP : Hid _ := par_bad (L s) n1 n2 va
  have HT : Hid _ := bt_bad (L s) (L t) (by rw [va]; rfl)
  have HN : Hid _ := num_bad va
  have HV : Hid _ := tr_bad (L s) va
  have run := Below.refl (w.alloc (box3 n0 n1 n2)).heap.size (w.alloc (box3 n0 n1 n2))
  go_enter Try.func6, Try.ntmps6
  go_wp2_with (first | (go_at_call 24; refine (Fit_c s _ _ hs1).mono ?_; rintro e w10 ⟨rfl, hb⟩; rw [HF.out.1, HF.out.2]; replace run := bel run hb; obtain ⟨q0, q1, q2⟩ := box3_cells _ _ _ _ _ run) | (go_at_call 25; refine (Part_c s _ _ _ hs1).mono ?_; rintro e w11 ⟨rfl, hb⟩; rw [HP.out.1, HP.out.2]; replace run := bel run hb; obtain ⟨q0, q1, q2⟩ := box3_cells _ _ _ _ _ run) | (go_at_call 26; refine (Bit_c s t _ hs1 hs2).mono ?_; rintro e w12 ⟨rfl, hb⟩; rw [HT.out.1, HT.out.2]; replace run := bel run hb; obtain ⟨q0, q1, q2⟩ := box3_cells _ _ _ _ _ run) | (go_at_call 27; refine (Number_c s _ hs1).mono ?_; rintro e w13 ⟨rfl, hb⟩; rw [HN.out.1, HN.out.2]; replace run := bel run hb; obtain ⟨q0, q1, q2⟩ := box3_cells _ _ _ _ _ run) | (go_at_call 28; refine (Truth_c s _ hs1).mono ?_; rintro e w14 ⟨rfl, hb⟩; rw [HV.out.1, HV.out.2]; replace run := bel run hb; obtain ⟨q0, q1, q2⟩ := box3_cells _ _ _ _ _ run) | (go_at_call 29; refine (Check_c s _ hs1).mono ?_; rintro e w15 ⟨rfl, hb⟩; rw [HV.out.2]; replace run := bel run hb; obtain ⟨q0, q1, q2⟩ := box3_cells _ _ _ _ _ run) | (go_at_call_of 17 (Value.string s); refine (may_c s _ hs1).mono ?_; rintro e w9 ⟨rfl, hw1⟩; have hw2 := hw1.symm; subst hw2) | (go_at_call 17; refine (may_c t _ hs2).mono ?_; rintro e w9 ⟨rfl, hw1⟩; have hw2 := hw1.symm; subst hw2) | (go_at_call 30; refine (rFit_c s _ _ hs1 (by omega)).mono ?_; rintro e w17 ⟨rfl, hb⟩; replace run := bel run hb; obtain ⟨q0, q1, q2⟩ := box3_cells _ _ _ _ _ run) | (go_at_call 31; refine (rBit_c s t _ (by omega) hs2).mono ?_; rintro e w18 ⟨rfl, hb⟩; replace run := bel run hb; obtain ⟨q0, q1, q2⟩ := box3_cells _ _ _ _ _ run) | (go_at_call 32; refine (rknown_c s _ hs1).mono ?_; rintro e w9 ⟨rfl, hw1⟩; have hw2 := hw1.symm; subst hw2) | (go_at_call 33; refine (rNumber_c s _ hs1 (by assumption)).mono ?_; rintro e w9 ⟨rfl, hw1⟩; have hw2 := hw1.symm; subst hw2; rw [HR.out]) | (go_at_call 34; refine (rTruth_c s _ hs1).mono ?_; rintro e w9 ⟨rfl, hw1⟩; have hw2 := hw1.symm; subst hw2) | (go_at_call 19; refine (awake_c _).mono ?_; rintro e w3 ⟨rfl, hb⟩; replace run := bel run hb; obtain ⟨q0, q1, q2⟩ := box3_cells _ _ _ _ _ run))
  go_ret
  exact ⟨rfl, bel (belA (Below.refl _ _) _) run⟩
set_option maxHeartbeats 8000000 in
set_option maxRecDepth 100000 in
theorem LogicPartsBad3 (s t : ByteArray) (m : Nat) (n1 n2 : Int) (w : World) (hs1 : s.size ≤ maxLen) (hs2 : t.size ≤ maxLen) (c0 : 1 ≤ m) (c0' : m ≤ 256) (va : vec (L s) = false) : Calls Try.prog 6 #[.string s, .string t, .agg #[.int .i64 (m : Int), .int .i64 n1, .int .i64 n2]] w fun e w' => e = .returned (.bool true) ∧ Below w.heap.size w w' := by
  have HF : Hid _ := fit_bad (L s) m c0 c0' va
  have HP : Hid _ := par_bad (L s) n1 n2 va
  have HT : Hid _ := bt_bad (L s) (L t) (by rw [va]; rfl)
  have HN : Hid _ := num_bad va
  have HV : Hid _ := tr_bad (L s) va
  have run := Below.refl (w.alloc (box3 (m : Int) n1 n2)).heap.size (w.alloc (box3 (m : Int) n1 n2))
  go_enter Try.func6, Try.ntmps6
  go_wp2_with (first | (go_at_call 24; refine (Fit_c s _ _ hs1).mono ?_; rintro e w10 ⟨rfl, hb⟩; rw [HF.out.1, HF.out.2]; replace run := bel run hb; obtain ⟨q0, q1, q2⟩ := box3_cells _ _ _ _ _ run) | (go_at_call 25; refine (Part_c s _ _ _ hs1).mono ?_; rintro e w11 ⟨rfl, hb⟩; rw [HP.out.1, HP.out.2]; replace run := bel run hb; obtain ⟨q0, q1, q2⟩ := box3_cells _ _ _ _ _ run) | (go_at_call 26; refine (Bit_c s t _ hs1 hs2).mono ?_; rintro e w12 ⟨rfl, hb⟩; rw [HT.out.1, HT.out.2]; replace run := bel run hb; obtain ⟨q0, q1, q2⟩ := box3_cells _ _ _ _ _ run) | (go_at_call 27; refine (Number_c s _ hs1).mono ?_; rintro e w13 ⟨rfl, hb⟩; rw [HN.out.1, HN.out.2]; replace run := bel run hb; obtain ⟨q0, q1, q2⟩ := box3_cells _ _ _ _ _ run) | (go_at_call 28; refine (Truth_c s _ hs1).mono ?_; rintro e w14 ⟨rfl, hb⟩; rw [HV.out.1, HV.out.2]; replace run := bel run hb; obtain ⟨q0, q1, q2⟩ := box3_cells _ _ _ _ _ run) | (go_at_call 29; refine (Check_c s _ hs1).mono ?_; rintro e w15 ⟨rfl, hb⟩; rw [HV.out.2]; replace run := bel run hb; obtain ⟨q0, q1, q2⟩ := box3_cells _ _ _ _ _ run) | (go_at_call_of 17 (Value.string s); refine (may_c s _ hs1).mono ?_; rintro e w9 ⟨rfl, hw1⟩; have hw2 := hw1.symm; subst hw2) | (go_at_call 17; refine (may_c t _ hs2).mono ?_; rintro e w9 ⟨rfl, hw1⟩; have hw2 := hw1.symm; subst hw2) | (go_at_call 30; refine (rFit_c s _ _ hs1 (by omega)).mono ?_; rintro e w17 ⟨rfl, hb⟩; replace run := bel run hb; obtain ⟨q0, q1, q2⟩ := box3_cells _ _ _ _ _ run) | (go_at_call 31; refine (rBit_c s t _ (by omega) hs2).mono ?_; rintro e w18 ⟨rfl, hb⟩; replace run := bel run hb; obtain ⟨q0, q1, q2⟩ := box3_cells _ _ _ _ _ run) | (go_at_call 32; refine (rknown_c s _ hs1).mono ?_; rintro e w9 ⟨rfl, hw1⟩; have hw2 := hw1.symm; subst hw2) | (go_at_call 33; refine (rNumber_c s _ hs1 (by assumption)).mono ?_; rintro e w9 ⟨rfl, hw1⟩; have hw2 := hw1.symm; subst hw2; rw [HR.out]) | (go_at_call 34; refine (rTruth_c s _ hs1).mono ?_; rintro e w9 ⟨rfl, hw1⟩; have hw2 := hw1.symm; subst hw2) | (go_at_call 19; refine (awake_c _).mono ?_; rintro e w3 ⟨rfl, hb⟩; replace run := bel run hb; obtain ⟨q0, q1, q2⟩ := box3_cells _ _ _ _ _ run))
  go_ret
  exact ⟨rfl, bel (belA (Below.refl _ _) _) run⟩
end Go.Proofs.Ytdacoincdkighaa
