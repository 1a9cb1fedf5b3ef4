/- Layer 19: the document's reader: a line's parts. -/
import Derived.Test.YtodpljgajjcdoaaGreatDoorHB
namespace Go.Proofs.YtodpljgajjcdoaaGreatDoor
set_option maxRecDepth 100000
open Go.RowKit Lg Nl Go.Maps Wf Vd
set_option linter.unusedVariables false
set_option linter.unusedSimpArgs false

set_option maxHeartbeats 4000000 in
set_option maxRecDepth 1000000 in
theorem parts_f (s : ByteArray) (w : World) (hs : s.size ≤ 1048576) : Calls Tryz.prog 12 #[.string s] w fun e w' => ∃ a c, e = .returned (.slice a (spl 32 (L s)).length c) ∧ Hid (StrAt w' (.slice a (spl 32 (L s)).length c) ((spl 32 (L s)).map S)) ∧ Hid (∀ g o, a = some ⟨g, o, none⟩ → w.heap.size ≤ g) ∧ Hid (Below w.heap.size w w') := by
  have HS : Hid (s.size ≤ 1048576) := hs
  have HS2 : Hid (s.size + 1 ≤ 1048577) := Nat.succ_le_succ hs
  clear hs
  go_enter Tryz.func12, Tryz.ntmps12
  go_wp2_with fail
  go_loopg [3, 4, 5] (s.size + 1) (fun g s3 s4 s5 wr => ∃ (i f : Nat) (a : Option Addr) (c : Nat) (dn : List (List UInt8)), i ≤ s.size + 1 ∧ g = s.size + 1 - i ∧ s3 = .slice a dn.length c ∧ s4 = .int .i64 f ∧ s5 = .int .i64 i ∧ Hid ((i ≤ s.size ∧ f ≤ i ∧ spl 32 (L s) = dn ++ spl 32 ((L s).drop f) ∧ (32 : UInt8) ∉ ((L s).drop f).take (i - f)) ∨ (i = s.size + 1 ∧ spl 32 (L s) = dn)) ∧ Hid (dn.length ≤ i) ∧ Hid (wr.ownsRow w.heap.size 9 1 (.slice a dn.length c) dn.length (sC (dn.map S))) ∧ Hid (Below w.heap.size w wr))
  case atStart => exact ⟨0, 0, none, 0, [], Nat.zero_le _, rfl, rfl, rfl, rfl, Or.inl ⟨Nat.zero_le _, Nat.le_refl _, rfl, (fun h => by simp at h)⟩, Nat.le_refl _, World.ownsRow_nil _ _ _ _, Below.refl _ _⟩
  case round =>
    obtain ⟨i, f, a, c, dn, hi, rfl, rfl, rfl, rfl, HSp, HDn, HR2, HBx⟩ := hrel
    obtain ⟨wx, hwx⟩ : ∃ wx, wx = wr := ⟨_, rfl⟩
    rw [← hwx] at HR2 HBx ⊢
    clear hwx
    obtain ⟨jj, hjj⟩ := infoStr
    have HJ : Hid (Tryz.prog.info? 9 = some jj ∧ jj.zero = some (.string ⟨#[]⟩) ∧ jj.size = 1 ∧ jj.bytes = 16) := hjj
    clear hjj
    by_cases hin : i ≤ s.size
    · have hst : f ≤ i ∧ spl 32 (L s) = dn ++ spl 32 ((L s).drop f) ∧ (32 : UInt8) ∉ ((L s).drop f).take (i - f) := by
        rcases HSp.out with h | h
        · exact h.2
        · omega
      obtain ⟨hf, hsp, hno⟩ := hst
      have HDl : Hid (dn.length ≤ s.size + 1) := Nat.le_trans HDn.out (by omega)
      have i1 : (i : Int) ≤ (s.size : Int) := by omega
      have hf1 : (f : Int) ≤ (i : Int) := by omega
      by_cases hc : i = s.size ∨ ∃ h : i < s.size, s[i] = 32
      · have HSt : Hid ((i + 1 ≤ s.size ∧ spl 32 (L s) = (dn ++ [((L s).drop f).take (i - f)]) ++ spl 32 ((L s).drop (i + 1))) ∨ (i = s.size ∧ spl 32 (L s) = dn ++ [((L s).drop f).take (i - f)])) := by
          rcases hc with e | ⟨h, e⟩
          · right
            refine ⟨e, ?_⟩
            subst e
            have e1 : ((L s).drop f).take (s.size - f) = (L s).drop f := List.take_of_length_le (by rw [List.length_drop, len_L]; exact Nat.le_refl _)
            rw [e1] at hno ⊢
            rw [hsp, spl_no 32 _ hno]
          · left
            exact ⟨h, spl_step hf h e hsp hno⟩
        have hways : (((i : Int) == (s.size : Int)) = true ∧ (i : Int) = (s.size : Int)) ∨ ∃ h : i < s.size, ((i : Int) == (s.size : Int)) = false ∧ (s[i].toNat : Int) = 32 ∧ ((s[i].toNat : Int) == 32) = true ∧ ¬ (i : Int) = (s.size : Int) ∧ (i : Int) < (s.size : Int) := by
          rcases hc with e | ⟨h, e⟩
          · left; subst e; exact ⟨beq_self_eq_true _, rfl⟩
          · right
            refine ⟨h, ?_, by rw [e]; rfl, by rw [e]; rfl, by omega, by omega⟩
            rw [beq_eq_false_iff_ne]; omega
        clear hc hsp hno HSp
        rcases hways with ⟨h1, h2⟩ | ⟨hlt, h1, h2, h3, h4, h5⟩
        · have hie : i = s.size := by omega
          subst hie
          go_wp2_with (first
            | (at_builtin; refine wpList_append_own_at _ rfl _ _ 23 rfl w.heap.size 9 jj _ 1 16 Tryz.underlying23 HJ.out.1 HJ.out.2.1 HJ.out.2.2.1 HJ.out.2.2.2 rfl (by decide) _ dn.length (sC (dn.map S)) rfl (HR2.out.alloc _) ⟨wx.heap.size, 0, none⟩ 1 1 [.string (s.extract f s.size)] rfl rfl (fun j u hj => new1i _ _ _ _ rfl j u hj) (one1s _) (app_s1 HDl.out HS2.out) (app_s2 HDl.out HS2.out) (Nat.le_trans HBx.out.size (by simp)) ?_; intro v9 w9 hown9 hgrow9 hnil9 hloc9; obtain ⟨g9, c9, rfl⟩ := own_slice1 hown9; have HO9 : Hid (w9.ownsRow w.heap.size 9 1 (.slice (some ⟨g9, 0, none⟩) (dn.length + 1) c9) (dn.length + 1) (sC (dn.map S) ++ [.string (s.extract f s.size)])) := hown9; have HG9 : Hid ((wx.alloc (.cells #[.string (s.extract f s.size)] 9)).grownBy w9 (Value.slice a dn.length c).ownBlock) := hgrow9; clear hown9 hgrow9 hnil9 hloc9))
          go_roundg (s.size + 1 - (s.size + 1))
          case measure => omega
          case rel =>
            refine ⟨s.size + 1, s.size + 1, some ⟨g9, 0, none⟩, c9, dn ++ [((L s).drop f).take (s.size - f)], by omega, rfl, by rw [List.length_append]; rfl, by first | rfl | exact wrap_succ (n := s.size + 1) (by omega) (Nat.le_trans HS2.out (by decide)), by first | rfl | exact wrap_succ (n := s.size + 1) (by omega) (Nat.le_trans HS2.out (by decide)), ?_, by show (dn ++ [_]).length ≤ _; rw [List.length_append]; have := HDn.out; simp; omega, ?_, Gb (belA HBx.out _) HG9.out (fun g e => (World.ownsRow.lt HR2.out g e).1)⟩
            · rcases HSt.out with h | h
              · exact Or.inl ⟨h.1, Nat.le_refl _, h.2, (fun h => by rw [Nat.sub_self, List.take_zero] at h; cases h)⟩
              · exact Or.inr ⟨by omega, h.2⟩
            · have ho := HO9.out
              rw [ext_is, ← sC_snoc] at ho
              show World.ownsRow _ _ _ _ _ _ _
              rw [List.length_append]
              exact ho
        · skip
          go_wp2_with (first
            | (at_builtin; refine wpList_append_own_at _ rfl _ _ 23 rfl w.heap.size 9 jj _ 1 16 Tryz.underlying23 HJ.out.1 HJ.out.2.1 HJ.out.2.2.1 HJ.out.2.2.2 rfl (by decide) _ dn.length (sC (dn.map S)) rfl (HR2.out.alloc _) ⟨wx.heap.size, 0, none⟩ 1 1 [.string (s.extract f i)] rfl rfl (fun j u hj => new1i _ _ _ _ rfl j u hj) (one1s _) (app_s1 HDl.out HS2.out) (app_s2 HDl.out HS2.out) (Nat.le_trans HBx.out.size (by simp)) ?_; intro v9 w9 hown9 hgrow9 hnil9 hloc9; obtain ⟨g9, c9, rfl⟩ := own_slice1 hown9; have HO9 : Hid (w9.ownsRow w.heap.size 9 1 (.slice (some ⟨g9, 0, none⟩) (dn.length + 1) c9) (dn.length + 1) (sC (dn.map S) ++ [.string (s.extract f i)])) := hown9; have HG9 : Hid ((wx.alloc (.cells #[.string (s.extract f i)] 9)).grownBy w9 (Value.slice a dn.length c).ownBlock) := hgrow9; clear hown9 hgrow9 hnil9 hloc9))
          go_roundg (s.size + 1 - (i + 1))
          case measure => omega
          case rel =>
            refine ⟨i + 1, i + 1, some ⟨g9, 0, none⟩, c9, dn ++ [((L s).drop f).take (i - f)], by omega, rfl, by rw [List.length_append]; rfl, by first | rfl | exact wrap_succ (n := s.size + 1) (by omega) (Nat.le_trans HS2.out (by decide)), by first | rfl | exact wrap_succ (n := s.size + 1) (by omega) (Nat.le_trans HS2.out (by decide)), ?_, by show (dn ++ [_]).length ≤ _; rw [List.length_append]; have := HDn.out; simp; omega, ?_, Gb (belA HBx.out _) HG9.out (fun g e => (World.ownsRow.lt HR2.out g e).1)⟩
            · rcases HSt.out with h | h
              · exact Or.inl ⟨h.1, Nat.le_refl _, h.2, (fun h => by rw [Nat.sub_self, List.take_zero] at h; cases h)⟩
              · exact Or.inr ⟨by omega, h.2⟩
            · have ho := HO9.out
              rw [ext_is, ← sC_snoc] at ho
              show World.ownsRow _ _ _ _ _ _ _
              rw [List.length_append]
              exact ho
      · have hlt : i < s.size := by
          rcases Nat.lt_or_ge i s.size with h | h
          · exact h
          · exact absurd (Or.inl (by omega)) hc
        have hne : s[i] ≠ 32 := fun e => hc (Or.inr ⟨hlt, e⟩)
        have HSt : Hid _ := spl_stay hf hlt hne hno
        have HSp2 : Hid (spl 32 (L s) = dn ++ spl 32 ((L s).drop f)) := hsp
        have hb2 : ¬ (s[i].toNat : Int) = 32 := fun e => hne (UInt8.toNat_inj.1 (by have : ((32 : UInt8).toNat) = 32 := rfl; omega))
        have hb : ((s[i].toNat : Int) == 32) = false := by rw [beq_eq_false_iff_ne]; exact hb2
        have h4 : ¬ (i : Int) = (s.size : Int) := by omega
        have h1 : ((i : Int) == (s.size : Int)) = false := by rw [beq_eq_false_iff_ne]; exact h4
        have i2 : (i : Int) < (s.size : Int) := by omega
        clear hc hsp hno HSp
        go_wp2_with fail
        go_roundg (s.size + 1 - (i + 1))
        case measure => omega
        case rel => exact ⟨i + 1, f, a, c, dn, by omega, rfl, rfl, rfl, by first | rfl | exact wrap_succ (n := s.size + 1) (by omega) (Nat.le_trans HS2.out (by decide)), Or.inl ⟨hlt, by omega, HSp2.out, HSt.out⟩, Nat.le_succ_of_le HDn.out, HR2, HBx⟩
    · have hie : i = s.size + 1 := by omega
      subst hie
      have HEnd : Hid (dn = spl 32 (L s)) := by
        rcases HSp.out with h | h
        · omega
        · exact h.2.symm
      have i5 : ¬ ((s.size + 1 : Nat) : Int) ≤ (s.size : Int) := by omega
      clear HSp
      go_wp2_with fail
      go_ret
      have ho := HR2.out
      rw [HEnd.out] at ho
      refine ⟨a, c, by rw [← HEnd.out]; rfl, ?_, fun g o e => (World.ownsRow.lt HR2.out g (by rw [e]; rfl)).1, HBx⟩
      exact own_strs (by rw [List.length_map]; exact ho)
theorem parts_c (s : ByteArray) (w : World) (hs : s.size ≤ 1048576) : Calls Tryz.prog 12 #[.string s] w fun e w' => ∃ a c, e = .returned (.slice a (spl 32 (L s)).length c) ∧ Hid (StrAt w' (.slice a (spl 32 (L s)).length c) ((spl 32 (L s)).map S)) ∧ Hid (Below w.heap.size w w') :=
  (parts_f s w hs).mono fun e w' ⟨a, c, h1, h2, _, h4⟩ => ⟨a, c, h1, h2, h4⟩
end Go.Proofs.YtodpljgajjcdoaaGreatDoor
