/- Layer 19: the document's reader: lines and parts. -/
import Derived.Test.YtodpljgajjcdoaaGreatDoorGUj
namespace Go.Proofs.YtodpljgajjcdoaaGreatDoor
set_option maxRecDepth 100000
open Go.RowKit Lg Nl Go.Maps Wf Vd
set_option linter.unusedVariables false
set_option linter.unusedSimpArgs false

theorem drop_at (s : ByteArray) (f i : Nat) (hf : f ≤ i) (hi : i < s.size) : (L s).drop f = ((L s).drop f).take (i - f) ++ s[i] :: (L s).drop (i + 1) := by
  have hl : i < (L s).length := by rw [len_L]; exact hi
  have h1 : (L s).drop i = s[i] :: (L s).drop (i + 1) := (List.drop_eq_getElem_cons hl).trans (congrArg (· :: (L s).drop (i + 1)) (L_get s i hi))
  have h2 : (L s).drop i = ((L s).drop f).drop (i - f) := by rw [List.drop_drop]; congr 1; omega
  have h3 : ((L s).drop f).take (i - f) ++ ((L s).drop f).drop (i - f) = (L s).drop f := List.take_append_drop _ _
  rw [← h2] at h3
  exact h3.symm.trans (congrArg (((L s).drop f).take (i - f) ++ ·) h1)
theorem take_step (s : ByteArray) (f i : Nat) (hf : f ≤ i) (hi : i < s.size) : ((L s).drop f).take (i + 1 - f) = ((L s).drop f).take (i - f) ++ [s[i]] := by
  have hl : i - f < ((L s).drop f).length := by rw [List.length_drop, len_L]; omega
  rw [show i + 1 - f = (i - f) + 1 from by omega, List.take_succ_eq_append_getElem hl, List.getElem_drop]
  congr 2
  have : f + (i - f) = i := by omega
  simp only [this]
  exact L_get s i hi
theorem ext_is (s : ByteArray) (f i : Nat) : s.extract f i = S (((L s).drop f).take (i - f)) := L_inj (by rw [L_extract, L_S])
theorem one1s (x : ByteArray) : ∀ u ∈ [Value.string x], u.oneCell' = true := by intro u hu; simp at hu; subst hu; rfl
theorem app_s1 {n m : Nat} (h : n ≤ m) (hm : m ≤ 1048577) : n + 1 ≤ maxLen := by unfold maxLen; omega
theorem app_s2 {n m : Nat} (h : n ≤ m) (hm : m ≤ 1048577) : (n + 1) * 16 ≤ 140737488355328 := by omega
theorem sC_snoc (dn : List (List UInt8)) (x : List UInt8) : sC ((dn ++ [x]).map S) = sC (dn.map S) ++ [.string (S x)] := by unfold sC; simp
theorem spl_step {c : UInt8} {s : ByteArray} {f i : Nat} {dn : List (List UInt8)} (hf : f ≤ i) (hi : i < s.size) (hc : s[i] = c) (h : spl c (L s) = dn ++ spl c ((L s).drop f)) (hn : c ∉ ((L s).drop f).take (i - f)) : spl c (L s) = (dn ++ [((L s).drop f).take (i - f)]) ++ spl c ((L s).drop (i + 1)) := by
  have e := drop_at s f i hf hi
  rw [hc] at e
  rw [h]
  conv => lhs; rw [e]
  rw [spl_at c _ _ hn, List.append_assoc]
  rfl
theorem spl_stay {c : UInt8} {s : ByteArray} {f i : Nat} (hf : f ≤ i) (hi : i < s.size) (hc : s[i] ≠ c) (hn : c ∉ ((L s).drop f).take (i - f)) : c ∉ ((L s).drop f).take (i + 1 - f) := by
  rw [take_step s f i hf hi]
  intro h
  rcases List.mem_append.1 h with h | h
  · exact hn h
  · rw [List.mem_singleton] at h
    exact hc h.symm

set_option maxHeartbeats 4000000 in
set_option maxRecDepth 1000000 in
theorem lines_c (s : ByteArray) (w : World) (hs : s.size ≤ 1048576) : Calls Tryz.prog 11 #[.string s] w fun e w' => ∃ a c, e = .returned (.slice a (spl 10 (L s)).length c) ∧ Hid (StrAt w' (.slice a (spl 10 (L s)).length c) ((spl 10 (L s)).map S)) ∧ Hid (Below w.heap.size w w') := by
  have HS : Hid (s.size ≤ 1048576) := hs
  have HS2 : Hid (s.size + 1 ≤ 1048577) := Nat.succ_le_succ hs
  clear hs
  go_enter Tryz.func11, Tryz.ntmps11
  go_wp2_with fail
  go_loopg [3, 4, 5] s.size (fun g s3 s4 s5 wr => ∃ (i f : Nat) (a : Option Addr) (c : Nat) (dn : List (List UInt8)), i ≤ s.size ∧ f ≤ i ∧ g = s.size - i ∧ s3 = .slice a dn.length c ∧ s4 = .int .i64 f ∧ s5 = .int .i64 i ∧ Hid (spl 10 (L s) = dn ++ spl 10 ((L s).drop f)) ∧ Hid ((10 : UInt8) ∉ ((L s).drop f).take (i - f)) ∧ Hid (dn.length ≤ i) ∧ Hid (wr.ownsRow w.heap.size 9 1 (.slice a dn.length c) dn.length (sC (dn.map S))) ∧ Hid (Below w.heap.size w wr))
  case atStart => exact ⟨0, 0, none, 0, [], Nat.zero_le _, Nat.le_refl _, rfl, rfl, rfl, rfl, rfl, (fun h => by simp at h), Nat.le_refl _, World.ownsRow_nil _ _ _ _, Below.refl _ _⟩
  case round =>
    obtain ⟨i, f, a, c, dn, hi, hf, rfl, rfl, rfl, rfl, HSp, HNo, HDn, HR2, HBx⟩ := hrel
    obtain ⟨wx, hwx⟩ : ∃ wx, wx = wr := ⟨_, rfl⟩
    rw [← hwx] at HR2 HBx ⊢
    clear hwx
    obtain ⟨jj, hjj⟩ := infoStr
    have HJ : Hid (Tryz.prog.info? 9 = some jj ∧ jj.zero = some (.string ⟨#[]⟩) ∧ jj.size = 1 ∧ jj.bytes = 16) := hjj
    clear hjj
    have HDl : Hid (dn.length ≤ s.size + 1) := Nat.le_trans HDn.out (by omega)
    by_cases hin : i < s.size
    · have i1 : (i : Int) < (s.size : Int) := by omega
      have hf1 : (f : Int) ≤ (i : Int) := by omega
      by_cases hc : s[i] = 10
      · have HSt : Hid _ := spl_step hf hin hc HSp.out HNo.out
        have hb : ((s[i].toNat : Int) == 10) = true := by rw [hc]; rfl
        have hb2 : (s[i].toNat : Int) = 10 := by rw [hc]; rfl
        go_wp2_with (first
          | (at_builtin; refine wpList_append_own_at _ rfl _ _ 23 rfl w.heap.size 9 jj _ 1 16 Tryz.underlying23 HJ.out.1 HJ.out.2.1 HJ.out.2.2.1 HJ.out.2.2.2 rfl (by decide) _ dn.length (sC (dn.map S)) rfl (HR2.out.alloc _) ⟨wx.heap.size, 0, none⟩ 1 1 [.string (s.extract f i)] rfl rfl (fun j u hj => new1i _ _ _ _ rfl j u hj) (one1s _) (app_s1 HDl.out HS2.out) (app_s2 HDl.out HS2.out) (Nat.le_trans HBx.out.size (by simp)) ?_; intro v9 w9 hown9 hgrow9 hnil9 hloc9; obtain ⟨g9, c9, rfl⟩ := own_slice1 hown9; have HO9 : Hid (w9.ownsRow w.heap.size 9 1 (.slice (some ⟨g9, 0, none⟩) (dn.length + 1) c9) (dn.length + 1) (sC (dn.map S) ++ [.string (s.extract f i)])) := hown9; have HG9 : Hid ((wx.alloc (.cells #[.string (s.extract f i)] 9)).grownBy w9 (Value.slice a dn.length c).ownBlock) := hgrow9; clear hown9 hgrow9 hnil9 hloc9))
        go_roundg (s.size - (i + 1))
        case measure => omega
        case rel =>
          refine ⟨i + 1, i + 1, some ⟨g9, 0, none⟩, c9, dn ++ [((L s).drop f).take (i - f)], hin, Nat.le_refl _, rfl, by rw [List.length_append]; rfl, by first | rfl | exact wrap_succ hin (Nat.le_trans HS.out (by decide)), by first | rfl | exact wrap_succ hin (Nat.le_trans HS.out (by decide)), HSt, (fun h => by rw [Nat.sub_self, List.take_zero] at h; cases h), by show (dn ++ [_]).length ≤ _; rw [List.length_append]; have := HDn.out; simp; omega, ?_, Gb (belA HBx.out _) HG9.out (fun g e => (World.ownsRow.lt HR2.out g e).1)⟩
          have ho := HO9.out
          rw [ext_is, ← sC_snoc] at ho
          show World.ownsRow _ _ _ _ _ _ _
          rw [List.length_append]
          exact ho
      · have HSt : Hid _ := spl_stay hf hin hc HNo.out
        have hb2 : ¬ (s[i].toNat : Int) = 10 := fun e => hc (UInt8.toNat_inj.1 (by have : ((10 : UInt8).toNat) = 10 := rfl; omega))
        have hb : ((s[i].toNat : Int) == 10) = false := by rw [beq_eq_false_iff_ne]; exact hb2
        go_wp2_with fail
        go_roundg (s.size - (i + 1))
        case measure => omega
        case rel => exact ⟨i + 1, f, a, c, dn, hin, by omega, rfl, rfl, rfl, by first | rfl | exact wrap_succ hin (Nat.le_trans HS.out (by decide)), HSp, HSt, Nat.le_succ_of_le HDn.out, HR2, HBx⟩
    · obtain rfl : i = s.size := by omega
      have hf1 : (f : Int) ≤ (s.size : Int) := by omega
      have hls : (L s).length = s.size := len_L s
      have e1 : ((L s).drop f).take (s.size - f) = (L s).drop f := List.take_of_length_le (by rw [List.length_drop, hls]; exact Nat.le_refl _)
      have HEnd : Hid (spl 10 (L s) = dn ++ [((L s).drop f).take (s.size - f)]) := by
        show _ = _
        have hn := HNo.out
        rw [e1] at hn ⊢
        rw [HSp.out, spl_no 10 _ hn]
      clear e1 hls
      go_wp2_with (first
        | (at_builtin; refine wpList_append_own_at _ rfl _ _ 23 rfl w.heap.size 9 jj _ 1 16 Tryz.underlying23 HJ.out.1 HJ.out.2.1 HJ.out.2.2.1 HJ.out.2.2.2 rfl (by decide) _ dn.length (sC (dn.map S)) rfl (HR2.out.alloc _) ⟨wx.heap.size, 0, none⟩ 1 1 [.string (s.extract f s.size)] rfl rfl (fun j u hj => new1i _ _ _ _ rfl j u hj) (one1s _) (app_s1 HDl.out HS2.out) (app_s2 HDl.out HS2.out) (Nat.le_trans HBx.out.size (by simp)) ?_; intro v9 w9 hown9 hgrow9 hnil9 hloc9; obtain ⟨g9, c9, rfl⟩ := own_slice1 hown9; have HO9 : Hid (w9.ownsRow w.heap.size 9 1 (.slice (some ⟨g9, 0, none⟩) (dn.length + 1) c9) (dn.length + 1) (sC (dn.map S) ++ [.string (s.extract f s.size)])) := hown9; have HG9 : Hid ((wx.alloc (.cells #[.string (s.extract f s.size)] 9)).grownBy w9 (Value.slice a dn.length c).ownBlock) := hgrow9; clear hown9 hgrow9 hnil9 hloc9))
      go_ret
      have ho := HO9.out
      rw [ext_is, ← sC_snoc, ← HEnd.out] at ho
      have hl : (spl 10 (L s)).length = dn.length + 1 := by rw [HEnd.out, List.length_append]; rfl
      refine ⟨some ⟨g9, 0, none⟩, c9, by rw [hl]; rfl, ?_, Gb (belA HBx.out _) HG9.out (fun g e => (World.ownsRow.lt HR2.out g e).1)⟩
      rw [hl]
      exact own_strs (by rw [List.length_map, hl]; exact ho)
end Go.Proofs.YtodpljgajjcdoaaGreatDoor
