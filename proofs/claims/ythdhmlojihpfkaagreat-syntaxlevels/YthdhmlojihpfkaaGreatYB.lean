/- Layer 2, the reference: the bits of digits. -/
import Derived.Test.YthdhmlojihpfkaaGreatYA
import Derived.Lib.AppendStr
namespace Go.Proofs.YthdhmlojihpfkaaGreat
open Go.RowKit Lg
set_option linter.unusedVariables false
set_option linter.unusedSimpArgs false

theorem infoByte2 : ∃ i, Tryz.prog.info? 5 = some i ∧ i.zero = some (.int .u8 0) ∧ i.size = 1 ∧ i.bytes = 1 := info_parts (by kernel_rfl)
set_option maxRecDepth 100000 in
theorem conv_own {w : World} {g n cap : Nat} {b : List UInt8} (hn : b.length = n) (h : ∀ j u, (Lib.byteCells b)[j]? = some u → w.cell? ⟨g, j, none⟩ = some u) : (convert 128 9 (.slice (some ⟨g, 0, none⟩) n cap)).run Tryz.prog w = .ok (.string (S b)) w := by
  subst hn
  have hh := run_convert_bytes_arg (P := Tryz.prog) w 128 5 Tryz.underlying128 Tryz.underlying5 g 0 b.length cap (b.map fun c => (c.toNat : Int)) (by simp) (fun i hi => by
    rw [Nat.zero_add]
    exact h i _ (by simp [Lib.byteCells, hi])) 9 Tryz.underlying9
  rw [hh]; congr 2; apply L_inj; rw [L_S, L, strOfNums_data, List.map_map]
  exact (List.map_congr_left (by intro c _; simp)).trans (List.map_id _)
theorem ext_one (s : ByteArray) (i : Nat) (h : i < s.size) : s.extract i (i + 1) = ⟨#[s[i]]⟩ := by
  apply L_inj
  rw [L_extract, drop_cons s i h, show i + 1 - i = 1 by omega]; rfl

set_option maxHeartbeats 4000000 in
theorem digits_e (c : UInt8) (s : ByteArray) (w : World) (hs : s.size = 0) : Calls Tryz.prog 62 #[.int .u8 c.toNat, .string s] w fun e w' => e = .returned (.string (S (digL c (L s)))) ∧ Below w.heap.size w w' := by
  have hse : L s = [] := (empty_L s).2 hs
  have hemp : s.toList.isEmpty = true := by rw [toL, hse]; rfl
  have HK : Hid (digL c (L s) = []) := by unfold digL; rw [if_pos hse]; exact rfl
  clear hse
  go_enter Tryz.func62, Tryz.ntmps62
  go_wp2
  go_ret
  exact ⟨ret_str (by rw [HK.out]; rfl), Below.refl _ _⟩

set_option maxHeartbeats 4000000 in
theorem digits_d (s : ByteArray) (w : World) (hs : s.size ≤ maxLen) (h0 : s.size ≠ 0) : Calls Tryz.prog 62 #[.int .u8 100, .string s] w fun e w' => e = .returned (.string (S (digL 100 (L s)))) ∧ Below w.heap.size w w' := by
  have hne : ¬ L s = [] := by rw [empty_L]; exact h0
  have hemp : s.toList.isEmpty = false := by rw [toL, List.isEmpty_eq_false_iff]; exact hne
  have hdi : decI 2147483647 true (L s) = whI 2147483647 (L s) := by unfold decI; rw [if_neg (by simp [hne])]
  have HDC := fun w => decimal_c s 2147483647 true w hs (by omega)
  rw [hdi] at HDC
  cases hw : whF 2147483647 0 (L s) with
  | none =>
    have HK : Hid (digL 100 (L s) = []) := by unfold digL; rw [if_neg hne, if_pos rfl, hw]; exact rfl
    rw [whI_none hw] at HDC
    clear hne hdi hw
    go_enter Tryz.func62, Tryz.ntmps62
    go_wp2_with (first | (go_at_call 60; refine (HDC _).mono ?_; rintro e w' ⟨rfl, rfl⟩))
    go_ret
    exact ⟨ret_str (by rw [HK.out]; rfl), Below.refl _ _⟩
  | some n =>
    have HK : Hid (digL 100 (L s) = ofL n 31) := by unfold digL; rw [if_neg hne, if_pos rfl, hw]; exact rfl
    have hn := whF_le (Nat.zero_le _) hw
    rw [whI_some hw] at HDC
    clear hne hdi hw
    go_enter Tryz.func62, Tryz.ntmps62
    go_wp2_with (first | (go_at_call 60; refine (HDC _).mono ?_; rintro e w' ⟨rfl, rfl⟩) | (go_at_call 61; refine (rOf_c n 31 _ (by omega) (by omega) (by omega)).mono ?_; rintro e w' ⟨rfl, hb⟩))
    go_ret
    exact ⟨ret_str (by rw [HK.out]), by assumption⟩

theorem dgt1_none {c : UInt8} (h : bitB c = false) : dgt 1 c = none := by
  unfold dgt
  have h4 : c ≠ 48 ∧ c ≠ 49 ∧ c ≠ 120 ∧ c ≠ 122 := by
    refine ⟨?_, ?_, ?_, ?_⟩ <;> (rintro rfl; exact absurd h (by decide))
  rw [if_neg (by rintro (e | e); exact h4.2.2.1 e; exact h4.2.2.2 e)]
  cases hv : hexV c with
  | none => rfl
  | some n =>
    show (if n < 2 ^ 1 then some (ofL n 1) else none) = none
    rw [if_neg]
    intro hn
    have hn2 : n < 2 := hn
    have n48 : c.toNat ≠ 48 := fun e => h4.1 (by rw [← UInt8.toNat_inj]; exact e)
    have n49 : c.toNat ≠ 49 := fun e => h4.2.1 (by rw [← UInt8.toNat_inj]; exact e)
    unfold hexV at hv
    split at hv
    · rename_i g; simp [digB] at g; injection hv with hv; omega
    split at hv
    · rename_i g; injection hv with hv; omega
    split at hv
    · rename_i g; injection hv with hv; omega
    · cases hv
set_option maxHeartbeats 4000000 in
theorem digits_h (s : ByteArray) (w : World) (hs : s.size ≤ 2000000) (h0 : s.size ≠ 0) : Calls Tryz.prog 62 #[.int .u8 104, .string s] w fun e w' => e = .returned (.string (S (digL 104 (L s)))) ∧ Below w.heap.size w w' := by
  have hne : ¬ L s = [] := by rw [empty_L]; exact h0
  have hemp : s.toList.isEmpty = false := by rw [toL, List.isEmpty_eq_false_iff]; exact hne
  have HKK : Hid (digL 104 (L s) = oS (cat 4 (L s))) := by unfold digL; rw [if_neg hne]; exact rfl
  obtain ⟨i0, hi0, hz0, hz1, hz2⟩ := infoByte2
  clear hne
  go_enter Tryz.func62, Tryz.ntmps62
  go_wp2
  go_loopw [6, 7, 8] (fun ov iv fv wr => ∃ (i : Nat) (b : List UInt8) (ao : Option Addr) (cap : Nat), i ≤ s.size ∧ iv = .int .i64 i ∧ ov = .slice ao b.length cap ∧ Hid (cat 4 ((L s).take i) = some b) ∧ Hid (wr.ownsRow w.heap.size 5 1 (.slice ao b.length cap) b.length (Lib.byteCells b)) ∧ Hid (Below w.heap.size w wr)) (fun _ iv _ _ => s.size - (intOf iv).toNat)
  case atStart => exact ⟨0, [], none, 0, Nat.zero_le _, rfl, rfl, rfl, World.ownsRow_nil _ _ _ _, Below.refl _ _⟩
  case round =>
    obtain ⟨i, b, ao, cap, hi, rfl, rfl, HC, HO, HB⟩ := hrel
    have hbl := cat_len HC.out
    have hbl2 : b.length ≤ 4 * i := by rw [hbl, List.length_take]; omega
    by_cases hlt : i < s.size
    · cases hd : dgt 4 s[i] with
      | none =>
        have HK : Hid (digL 104 (L s) = []) := by rw [HKK.out, cat_bad s i hlt hd]; exact rfl
        have hf : (S (oS (dgt 4 s[i]))).toList.isEmpty = true := by rw [hd, toL, L_S]; rfl
        clear hd hbl
        go_wp2_with (first | (go_at_call 83; refine (four_c s[i] _).mono ?_; rintro e w1 ⟨rfl, hb⟩))
        go_ret
        exact ⟨ret_str (by rw [HK.out]; rfl), bel HB.out (by assumption)⟩
      | some d =>
        have hdl := dgt_len hd
        have hfn : (S d).toList.isEmpty = false := by rw [toL, L_S, List.isEmpty_eq_false_iff]; intro e; rw [e] at hdl; cases hdl
        have hos : oS (dgt 4 s[i]) = d := by rw [hd]; rfl
        have HC2 : Hid (cat 4 ((L s).take (i + 1)) = some (b ++ d)) := by rw [take_snoc s i hlt]; exact cat_snoc HC.out hd
        have hds : (S d).size = 4 := by rw [size_S, hdl]
        clear hd hbl
        go_wp2_with (first
          | (go_at_call 83; refine (four_c s[i] _).mono ?_; rintro e w1 ⟨rfl, hb⟩; rw [hos])
          | (at_builtin; refine Lib.wpList_append_own_string _ rfl (.tmp 68) (.tmp 69) 128 9 rfl w.heap.size 5 i0 Tryz.underlying128 Tryz.underlying9 hi0 hz0 hz1 hz2 _ _ _ rfl (owns_keep hb HO.out) (S d) rfl ?c3 ?c4 ?c5 ?_))
        case c3 => unfold maxLen; omega
        case c4 => omega
        case c5 => exact Nat.le_trans HB.out.size hb.size
        intro v' w2 hown hgrow _
        obtain ⟨ao2, cap2, rfl⟩ := slice_of hown
        go_wp2
        go_roundw
        case rel =>
          refine ⟨i + 1, b ++ d, ao2, cap2, by omega, by go_num, by rw [List.length_append, hdl], HC2, ?_, (bel HB.out hb).grown hgrow (Nat.le_trans HB.out.size hb.size) (fun k hk => (World.ownsRow.lt HO.out k hk).1)⟩
          rw [List.length_append, hdl, byteCells_app]; exact hown
        case measure => simp [intOf]; omega
    · have hie : i = s.size := by omega
      subst hie
      have hc := HC.out
      rw [take_all s _ (Nat.le_refl _)] at hc
      have hpos : 0 < b.length := by rw [cat_len hc, len_L]; omega
      have HK : Hid (digL 104 (L s) = b) := by rw [HKK.out, hc]; exact rfl
      obtain ⟨g, cp, hv, hg1, hg2, hg3, hg4⟩ := own_some HO.out hpos
      injection hv with hv1 hv2 hv3
      subst hv1
      clear hv2
      subst hv3
      have hcv := conv_own (w := wr) (g := g) (cap := cap) (b := b) rfl hg4
      clear hc hbl
      go_wp2
      go_ret
      exact ⟨ret_str (by rw [HK.out]), HB.out⟩
end Go.Proofs.YthdhmlojihpfkaaGreat
