/- Layer 19: VcdTimes, walked over what the program's functions tell. -/
import Derived.Test.YtfcongggmjijfaaDoorUV
import Derived.Test.YtfcongggmjijfaaDoorDK
import Derived.Deep.LoopGhost
namespace Go.Proofs.YtfcongggmjijfaaDoor
set_option maxRecDepth 100000
open Go.RowKit Lg Nl Go.Maps Wf Vd
set_option linter.unusedVariables false
set_option linter.unusedSimpArgs false

theorem runT_ch {li : List Ch} {c : UInt8} {s line : List UInt8} {at_ n : Nat} {last : Int} (h : runT li (c :: s) line at_ n last = true) (hc : c ≠ 10) : runT li s (line ++ [c]) at_ n last = true := by
  have h : (if c = 10 then _ else runT li s (line ++ [c]) at_ n last) = true := h
  rw [if_neg hc] at h
  exact h
theorem runT_tm {li : List Ch} {s line : List UInt8} {at_ n : Nat} {last : Int} (h : runT li (10 :: s) line at_ n last = true) (ht : isTm line = true) : last < decI 0 (line.drop 1) ∧ n < li.length ∧ (cA li n).t = decI 0 (line.drop 1) ∧ runT li s [] (at_ + 1) n (decI 0 (line.drop 1)) = true := by
  have h : (if (10 : UInt8) = 10 then (if isTm line = true then (if decI 0 (line.drop 1) ≤ last ∨ li.length ≤ n ∨ (cA li n).t ≠ decI 0 (line.drop 1) then false else runT li s [] (at_ + 1) n (decI 0 (line.drop 1))) else _) else _) = true := h
  rw [if_pos rfl, if_pos ht] at h
  split at h
  · cases h
  · rename_i hc
    have h1 : ¬ decI 0 (line.drop 1) ≤ last := fun e => hc (Or.inl e)
    have h2 : ¬ li.length ≤ n := fun e => hc (Or.inr (Or.inl e))
    have h3 : (cA li n).t = decI 0 (line.drop 1) := Classical.byContradiction fun e => hc (Or.inr (Or.inr e))
    exact ⟨by omega, by omega, h3, h⟩
theorem runT_vl {li : List Ch} {s line : List UInt8} {at_ n : Nat} {last : Int} (h : runT li (10 :: s) line at_ n last = true) (ht : isTm line = false) (hl : 0 ≤ last) : n < li.length ∧ (cA li n).t = last ∧ runT li s [] at_ (n + 1) last = true := by
  have h : (if (10 : UInt8) = 10 then (if isTm line = true then _ else if 0 ≤ last then (if li.length ≤ n ∨ (cA li n).t ≠ last then false else runT li s [] at_ (n + 1) last) else _) else _) = true := h
  rw [if_pos rfl, ht, if_neg (by decide), if_pos hl] at h
  split at h
  · cases h
  · rename_i hc
    have h2 : ¬ li.length ≤ n := fun e => hc (Or.inl e)
    have h3 : (cA li n).t = last := Classical.byContradiction fun e => hc (Or.inr e)
    exact ⟨by omega, h3, h⟩
theorem runT_hd {li : List Ch} {s line : List UInt8} {at_ n : Nat} {last : Int} (h : runT li (10 :: s) line at_ n last = true) (ht : isTm line = false) (hl : ¬ 0 ≤ last) : runT li s [] at_ n last = true := by
  have h : (if (10 : UInt8) = 10 then (if isTm line = true then _ else if 0 ≤ last then _ else runT li s [] at_ n last) else _) = true := h
  rw [if_pos rfl, ht, if_neg (by decide), if_neg hl] at h
  exact h
theorem runT_end {li : List Ch} {line : List UInt8} {at_ n : Nat} {last : Int} (h : runT li [] line at_ n last = true) : n = li.length ∧ (decide (0 < at_) = decide (0 < n)) ∧ line = [] := by
  have h : (decide (n = li.length) && (decide (0 < at_) == decide (0 < n)) && decide (line = [])) = true := h
  rw [Bool.and_eq_true, Bool.and_eq_true] at h
  exact ⟨of_decide_eq_true h.1.1, by simpa using h.1.2, of_decide_eq_true h.2⟩
theorem byte_at {s : ByteArray} {i : Nat} (h : i < s.size) : (L s).drop i = s[i] :: (L s).drop (i + 1) := by
  rw [List.drop_eq_getElem_cons (by rw [len_L]; exact h), L_get s i h]
theorem piece_at {s : ByteArray} {i : Nat} (h : i < s.size) : s.extract i (i + 1) = S [s[i]] := L_inj (by
  rw [L_extract, L_S, byte_at h, show i + 1 - i = 1 by omega]; rfl)
theorem step_val (t : Int) (d : UInt8) : stepD t d = wrap64 (wrap64 (10 * t) + ((d.toNat : Int) - 48) % 256) := by
  have h1 : IntKind.u8.wrap ((d.toNat : Int) - 48) = ((d.toNat : Int) - 48) % 256 := rfl
  have h2 : IntKind.i64.wrap (((d.toNat : Int) - 48) % 256) = ((d.toNat : Int) - 48) % 256 := by
    rw [IntKind.wrap_i64]
    omega
  show wrap64 (wrap64 (10 * t) + IntKind.i64.wrap (IntKind.u8.wrap ((d.toNat : Int) - 48))) = _
  rw [h1, h2]
set_option maxHeartbeats 8000000 in
set_option maxRecDepth 1000000 in
theorem VcdTimes_c (P : PD) (x : Wv) (vn vw vf vl : Value) (w : World) (hx : Wd w vn vw vf vl x) (hp : PowT w) : Calls Tryd.prog 6 #[.agg #[vn, vw, vf, vl]] w fun e w' => e = .returned (.bool true) ∧ Below w.heap.size w w' := by
  have HP : Hid PD := P
  have HA : Hid (Wd w vn vw vf vl x) := hx
  obtain ⟨T, hT⟩ : ∃ T, T = S (wrT x) := ⟨_, rfl⟩
  obtain ⟨o, ho⟩ : ∃ o, o = wrE x := ⟨_, rfl⟩
  have HT : Hid (T = S (wrT x)) := hT
  have HO : Hid (o = wrE x) := ho
  have HTx : Hid (wrT x = if wrE x = 0 then textL x else []) := rfl
  have HEx : Hid (wrE x = 0 → mayW x = true) := by
    intro h
    unfold wrE at h
    cases hm : mayW x with
    | true => rfl
    | false => rw [hm] at h; simp at h
  clear P hx hT ho
  obtain ⟨W0, hW0⟩ : ∃ W0, W0 = w.alloc (.cells #[vn, vw, vf, vl] 26) := ⟨_, rfl⟩
  have HB0 : Hid (Below w.heap.size w W0) := by rw [hW0]; exact belA (Below.refl _ _) _
  have HX0 : Hid (W0.heap[w.heap.size]? = some (.cells #[vn, vw, vf, vl] 26 (0, 0))) := by rw [hW0]; exact alAt rfl
  have HA0 : Hid (Wd W0 vn vw vf vl x) := HA.out.below HB0.out
  have HP0 : Hid (PowT W0) := hp.bel HB0.out
  clear hp
  by_cases he : o = 0
  case neg =>
    have HY : Hid (T = ⟨#[]⟩) := by show _ = _; rw [HT.out, HTx.out, if_neg (by rw [← HO.out]; exact he)]; rfl
    have he2 : (o != 0) = true := by rw [bne_iff_ne]; exact he
    have he3 : (o == 0) = false := by rw [beq_eq_false_iff_ne]; exact he
    go_enter Tryd.func6, Tryd.ntmps6
    go_upto_region 1 with fail
    rw [← hW0]
    clear hW0 HA
    obtain ⟨b0, b1, b2, b3⟩ := cells4 HX0.out
    obtain ⟨E, hE⟩ : ∃ E, E = w.heap.size := ⟨_, rfl⟩
    rw [← hE] at HX0 b0 b1 b2 b3 ⊢
    clear hE
    go_upto_region 3 with (first
      | (go_at_call 7; refine (HA0.out.write HP.out HP0.out HT.out HO.out).mono ?_; rintro e w1 ⟨rfl, hb1⟩))
    have HB1 := hidV hb1
    have ht : T.toList.isEmpty = true := by rw [HY.out, toL]; rfl
    clear hb1 b0 b1 b2 b3
    go_wp2_with (first
      | (go_at_call 12; refine (HP.out.aw _ (HP0.out.bel HB1.out)).mono ?_; rintro e w3 ⟨rfl, hb3⟩))
    go_ret
    exact ⟨rfl, bel HB0.out (bel HB1.out hb3)⟩
  subst he
  have HTt : Hid (L T = textL x) := by show _ = _; rw [HT.out, L_S, HTx.out, if_pos HO.out.symm]
  have HRn : Hid (runT x.li (L T) [] 0 0 (-1) = true) := by show _ = _; rw [HTt.out]; exact runT_text (HEx.out HO.out.symm)
  have HTl : Hid (T.size ≤ 1048576) := by
    show _ ≤ _
    rw [← len_L, HTt.out]
    have h := HO.out.symm
    unfold wrE at h
    rw [HEx.out HO.out.symm, if_pos rfl] at h
    cases hu : undB x with
    | true => rw [hu] at h; simp at h
    | false =>
      rw [hu] at h
      by_cases hlen : 1048576 < (textL x).length
      · have h : (if 1048576 < (textL x).length then (4 : Int) else 0) = 0 := h
        rw [if_pos hlen] at h; simp at h
      · omega
  go_enter Tryd.func6, Tryd.ntmps6
  go_upto_region 1 with fail
  rw [← hW0]
  clear hW0 HA
  obtain ⟨b0, b1, b2, b3⟩ := cells4 HX0.out
  have lb := hLt HX0.out
  obtain ⟨E, hE⟩ : ∃ E, E = w.heap.size := ⟨_, rfl⟩
  rw [← hE] at HX0 b0 b1 b2 b3 lb ⊢
  clear hE
  go_upto_region 2 with (first
    | (go_at_call 7; refine (HA0.out.write HP.out HP0.out HT.out HO.out).mono ?_; rintro e w1 ⟨rfl, hb1⟩))
  have HB1 := hidV hb1
  clear hb1 b0 b1 b2 b3
  obtain ⟨b0, b1, b2, b3⟩ := cells4 ((HB1.out.block E lb).trans HX0.out)
  have HAy := hidV (HA0.out.a.li.below HB1.out)
  obtain ⟨al, cl, rfl, _, _⟩ := HA0.out.a.li
  go_upto_region 9 with fail
  go_loopg [5, 6, 7, 8, 9] T.size (fun g s5 s6 s7 s8 s9 wr => ∃ (i a n : Nat) (line : List UInt8) (last : Int), i ≤ T.size ∧ g = T.size - i ∧ s5 = .int .i64 a ∧ s6 = .int .i64 n ∧ s7 = .string (S line) ∧ s8 = .int .i64 last ∧ s9 = .int .i64 i ∧ Hid (runT x.li ((L T).drop i) line a n last = true) ∧ Hid (a ≤ i ∧ n ≤ i ∧ line.length ≤ i) ∧ w1 = wr)
  case atStart => exact ⟨0, 0, 0, [], -1, Nat.zero_le _, rfl, rfl, rfl, rfl, rfl, rfl, HRn.out, ⟨Nat.le_refl _, Nat.le_refl _, Nat.le_refl _⟩, rfl⟩
  case round =>
    obtain ⟨i, a, n, line, last, hi, rfl, rfl, rfl, rfl, rfl, rfl, HR, HL, rfl⟩ := hrel
    by_cases hin : i < T.size
    · have i0 : (0 : Int) ≤ (i : Int) := by omega
      have i1 : (i : Int) < (T.size : Int) := by omega
      have HI : Hid (i < T.size ∧ i < 1048576) := ⟨hin, by have := HTl.out; omega⟩
      have HD := hidV (byte_at hin)
      have HPc := hidV (piece_at hin)
      have hw : wrap64 ((i : Int) + 1) = (i : Int) + 1 := by unfold wrap64; have := HI.out; omega
      have hw0 : (0 : Int) ≤ (i : Int) + 1 ∧ (i : Int) + 1 ≤ (T.size : Int) := by omega
      have hw1 : (i : Int) ≤ (i : Int) + 1 := by omega
      have hwn : ((i : Int) + 1).toNat = i + 1 := by omega
      obtain ⟨c, hc⟩ : ∃ c, T[i] = c := ⟨_, rfl⟩
      rw [hc] at HD HPc
      by_cases h10 : c = 10
      · have hq : ((c.toNat : Int) != 10) = false := by rw [h10]; decide
        have HR10 : Hid (runT x.li (10 :: (L T).drop (i + 1)) line a n last = true) := by show _ = _; have h := HR.out; rw [HD.out, h10] at h; exact h
        clear h10 HR HD HPc
        obtain ⟨sl, hsl⟩ : ∃ sl, sl = S line := ⟨_, rfl⟩
        rw [← hsl]
        have HSl : Hid (L sl = line) := by show _ = _; rw [hsl, L_S]
        have HSz : Hid (sl.size = line.length) := by show _ = _; rw [hsl, size_S]
        have HLa : Hid (a ≤ i + 1 ∧ n + 1 ≤ i + 1 ∧ ([] : List UInt8).length ≤ i + 1) := ⟨by have := HL.out; omega, by have := HL.out; omega, Nat.zero_le _⟩
        have HLb : Hid (a ≤ i + 1 ∧ n ≤ i + 1 ∧ ([] : List UInt8).length ≤ i + 1) := ⟨by have := HL.out; omega, by have := HL.out; omega, Nat.zero_le _⟩
        have HLc : Hid (a + 1 ≤ i + 1 ∧ n ≤ i + 1 ∧ ([] : List UInt8).length ≤ i + 1) := ⟨by have := HL.out; omega, by have := HL.out; omega, Nat.zero_le _⟩
        clear hsl
        by_cases hlen : 1 < line.length
        · obtain ⟨b, b2, r2, hl⟩ : ∃ b b2 r2, line = b :: b2 :: r2 := by
            match line, hlen with
            | b :: b2 :: r2, _ => exact ⟨b, b2, r2, rfl⟩
          have q1 : (1 : Int) < (sl.size : Int) := by rw [HSz.out]; omega
          have q0 : (0 : Int) < (sl.size : Int) := by omega
          have hs0 : 0 < sl.size := by omega
          have hb0 : sl[0]'hs0 = b := by
            have h := byte_at hs0
            rw [HSl.out, List.drop_zero, hl] at h
            injection h with h _
            exact h.symm
          by_cases hb : b = 35
          · have hbq : ((b.toNat : Int) == 35) = true := by rw [hb]; decide
            obtain ⟨r, hr⟩ : ∃ r, r = b2 :: r2 := ⟨_, rfl⟩
            have hlr : line = 35 :: r := by rw [hl, hb, hr]
            have HTm : Hid (isTm line = true) := by
              show isTm line = true
              rw [hlr]
              show (decide (r ≠ []) && (35 : UInt8) == 35) = true
              rw [decide_eq_true (show r ≠ [] by rw [hr]; intro e; cases e)]; rfl
            obtain ⟨k0, k1, k2, k3⟩ := runT_tm HR10.out HTm.out
            have hdr : line.drop 1 = r := by rw [hlr]; rfl
            rw [hdr] at k0 k2 k3
            have HLr : Hid (line.length = r.length + 1) := by show _ = _; rw [hlr]; rfl
            have HIx : Hid (∀ (m : Nat) (h : m < r.length) (h2 : m + 1 < sl.size), sl[m + 1]'h2 = r[m]) := by
              intro m h h2
              have e := byte_at h2
              rw [HSl.out, hlr] at e
              have e2 : (35 :: r).drop (m + 1) = r[m] :: r.drop (m + 1) := by rw [List.drop_succ_cons, List.drop_eq_getElem_cons h]
              rw [e2] at e
              injection e with e _
              exact e.symm
            have HK0 := hidV k0
            have HK1 := hidV k1
            have HK2 := hidV k2
            have HK3 := hidV k3
            clear k0 k1 k2 k3 hdr hl hr hb hlr
            go_upto_region 16 with fail
            clear hb0 hbq q1 q0 hs0
            go_loopg [10, 11] r.length (fun g s10 s11 wr => ∃ m : Nat, m ≤ r.length ∧ g = r.length - m ∧ s10 = .int .i64 (decI 0 (r.take m)) ∧ s11 = .int .i64 ((m : Int) + 1) ∧ w1 = wr)
            case atStart => exact ⟨0, Nat.zero_le _, rfl, rfl, rfl, rfl⟩
            case round =>
              obtain ⟨m, hm, rfl, rfl, rfl, rfl⟩ := hrel
              by_cases hmr : m < r.length
              · have m0 : (0 : Int) ≤ (m : Int) + 1 := by omega
                have hsz2 : m + 1 < sl.size := by rw [HSz.out, HLr.out]; omega
                have m1 : (m : Int) + 1 < (sl.size : Int) := by omega
                have mt : ((m : Int) + 1).toNat = m + 1 := by omega
                obtain ⟨d, hd⟩ : ∃ d, d = r[m]'hmr := ⟨_, rfl⟩
                have hidx : sl[m + 1]'hsz2 = d := by rw [hd]; exact HIx.out m hmr hsz2
                have HSt : Hid (decI 0 (r.take (m + 1)) = stepD (decI 0 (r.take m)) d) := by
                  show _ = _
                  rw [List.take_succ_eq_append_getElem hmr, decI_app, hd]
                have HMr : Hid (m < r.length ∧ m + 2 < 2000000) := ⟨hmr, by have := HLr.out; have := HL.out; have := HI.out; omega⟩
                have hwm : wrap64 ((m : Int) + 1 + 1) = (m : Int) + 1 + 1 := by unfold wrap64; have := HMr.out; omega
                clear hd hmr
                generalize decI 0 (r.take m) = t at *
                obtain ⟨v, hv⟩ : ∃ v, v = wrap64 (wrap64 (10 * t) + ((d.toNat : Int) - 48) % 256) := ⟨_, rfl⟩
                have HV : Hid (decI 0 (r.take (m + 1)) = v) := by
                  show _ = _
                  rw [HSt.out, hv]
                  exact step_val t d
                go_upto_region 17 with fail
                rw [← hv]
                clear hv HSt hidx
                go_wp2_with fail
                go_roundg (r.length - (m + 1))
                case measure => exact Nat.sub_lt_sub_left HMr.out.1 (Nat.lt_succ_self m)
                case rel =>
                  refine ⟨m + 1, HMr.out.1, rfl, ?_, ?_, rfl⟩
                  · rw [HV.out]
                  · exact congrArg (Value.int IntKind.i64) (hwm.trans (show ((m : Int) + 1 + 1) = (((m + 1 : Nat) : Int) + 1) from rfl))
              · have hme : m = r.length := by omega
                subst hme
                have m1 : ¬ (r.length : Int) + 1 < (sl.size : Int) := by rw [HSz.out, HLr.out]; omega
                rw [List.take_length]
                obtain ⟨gl, ol, eal, hgl, c0, c1, c2'⟩ := HAy.out.at_ n HK1.out
                subst eal
                rw [HK2.out] at c0
                have n0 : (0 : Int) ≤ (n : Int) := by have := HK1.out; omega
                have n1 : (n : Int) < (x.li.length : Int) := by have := HK1.out; omega
                have n2 : ¬ (x.li.length : Int) ≤ (n : Int) := by have := HK1.out; omega
                have hwa : wrap64 ((a : Int) + 1) = (a : Int) + 1 := by unfold wrap64; have := HL.out; have := HI.out; omega
                have hlt : ¬ decI 0 r ≤ last := by have := HK0.out; omega
                have HK9 := hidV HK3.out
                clear HK0 HK2 HIx hmr
                generalize decI 0 r = t at *
                go_wp2_with fail
                go_roundg (T.size - (i + 1))
                case measure => have := HI.out; omega
                case rel => exact ⟨i + 1, a + 1, n, [], t, HI.out.1, rfl, congrArg (Value.int IntKind.i64) (show ((a : Int) + 1) = ((a + 1 : Nat) : Int) by omega), rfl, show Value.string (⟨#[]⟩ : ByteArray) = Value.string (S []) from rfl, rfl, congrArg (Value.int IntKind.i64) (show ((i : Int) + 1) = ((i + 1 : Nat) : Int) by omega), HK9.out, HLc.out, rfl⟩
          · have hbq : ((b.toNat : Int) == 35) = false := by
              rw [beq_eq_false_iff_ne]
              intro e
              exact hb (UInt8.toNat.inj (by show b.toNat = 35; omega))
            have HTm : Hid (isTm line = false) := by show isTm line = false; rw [hl]; exact head_tm hb
            clear hl hb
            go_upto_region 23 with fail
            clear hb0 hbq q1 q0
            by_cases hl0 : 0 ≤ last
            · obtain ⟨k1, k2, k3⟩ := runT_vl HR10.out HTm.out hl0
              obtain ⟨gl, ol, eal, hgl, c0, c1, c2'⟩ := HAy.out.at_ n k1
              subst eal
              rw [k2] at c0
              have n0 : (0 : Int) ≤ (n : Int) := by omega
              have n1 : (n : Int) < (x.li.length : Int) := by omega
              have n2 : ¬ (x.li.length : Int) ≤ (n : Int) := by omega
              have hwn2 : wrap64 ((n : Int) + 1) = (n : Int) + 1 := by unfold wrap64; have := HL.out; have := HI.out; omega
              have HK3 := hidV k3
              clear k2 k3
              go_wp2_with fail
              go_roundg (T.size - (i + 1))
              case measure => have := HI.out; omega
              case rel => exact ⟨i + 1, a, n + 1, [], last, HI.out.1, rfl, rfl, congrArg (Value.int IntKind.i64) (show ((n : Int) + 1) = ((n + 1 : Nat) : Int) by omega), show Value.string (⟨#[]⟩ : ByteArray) = Value.string (S []) from rfl, rfl, congrArg (Value.int IntKind.i64) (show ((i : Int) + 1) = ((i + 1 : Nat) : Int) by omega), HK3.out, HLa.out, rfl⟩
            · have HK3 := hidV (runT_hd HR10.out HTm.out hl0)
              go_wp2_with fail
              go_roundg (T.size - (i + 1))
              case measure => have := HI.out; omega
              case rel => exact ⟨i + 1, a, n, [], last, HI.out.1, rfl, rfl, rfl, show Value.string (⟨#[]⟩ : ByteArray) = Value.string (S []) from rfl, rfl, congrArg (Value.int IntKind.i64) (show ((i : Int) + 1) = ((i + 1 : Nat) : Int) by omega), HK3.out, HLb.out, rfl⟩
        · have q1 : ¬ (1 : Int) < (sl.size : Int) := by rw [HSz.out]; omega
          have HTm : Hid (isTm line = false) := by
            show isTm line = false
            match line, hlen with
            | [], _ => rfl
            | [b], _ => rfl
            | b :: b2 :: r2, h => exact absurd (by simp) h
          go_upto_region 23 with fail
          clear q1
          by_cases hl0 : 0 ≤ last
          · obtain ⟨k1, k2, k3⟩ := runT_vl HR10.out HTm.out hl0
            obtain ⟨gl, ol, eal, hgl, c0, c1, c2'⟩ := HAy.out.at_ n k1
            subst eal
            rw [k2] at c0
            have n0 : (0 : Int) ≤ (n : Int) := by omega
            have n1 : (n : Int) < (x.li.length : Int) := by omega
            have n2 : ¬ (x.li.length : Int) ≤ (n : Int) := by omega
            have hwn2 : wrap64 ((n : Int) + 1) = (n : Int) + 1 := by unfold wrap64; have := HL.out; have := HI.out; omega
            have HK3 := hidV k3
            clear k2 k3
            go_wp2_with fail
            go_roundg (T.size - (i + 1))
            case measure => have := HI.out; omega
            case rel => exact ⟨i + 1, a, n + 1, [], last, HI.out.1, rfl, rfl, congrArg (Value.int IntKind.i64) (show ((n : Int) + 1) = ((n + 1 : Nat) : Int) by omega), show Value.string (⟨#[]⟩ : ByteArray) = Value.string (S []) from rfl, rfl, congrArg (Value.int IntKind.i64) (show ((i : Int) + 1) = ((i + 1 : Nat) : Int) by omega), HK3.out, HLa.out, rfl⟩
          · have HK3 := hidV (runT_hd HR10.out HTm.out hl0)
            go_wp2_with fail
            go_roundg (T.size - (i + 1))
            case measure => have := HI.out; omega
            case rel => exact ⟨i + 1, a, n, [], last, HI.out.1, rfl, rfl, rfl, show Value.string (⟨#[]⟩ : ByteArray) = Value.string (S []) from rfl, rfl, congrArg (Value.int IntKind.i64) (show ((i : Int) + 1) = ((i + 1 : Nat) : Int) by omega), HK3.out, HLb.out, rfl⟩
      · have hq : ((c.toNat : Int) != 10) = true := by
          rw [bne_iff_ne]
          intro e
          exact h10 (UInt8.toNat.inj (by show c.toNat = 10; omega))
        have hsz : ¬ 9223372036854775807 < (S line).size + (i + 1 - i) := by rw [size_S]; have := HL.out; have := HI.out; omega
        have HR2 : Hid (runT x.li ((L T).drop (i + 1)) (line ++ [c]) a n last = true) := by show _ = _; have h := HR.out; rw [HD.out] at h; exact runT_ch h h10
        have hex : S line ++ T.extract i (i + 1) = S (line ++ [c]) := by rw [HPc.out]; exact L_inj (by rw [L_append, L_S, L_S, L_S])
        clear h10
        go_wp2_with fail
        go_roundg (T.size - (i + 1))
        case measure => have := HI.out; omega
        case rel => exact ⟨i + 1, a, n, line ++ [c], last, HI.out.1, rfl, rfl, rfl, rfl, rfl, wrap_succ (n := 1048576) HI.out.2 (by decide), HR2.out, by show _ ∧ _ ∧ _; rw [List.length_append]; have := HL.out; simp only [List.length_cons, List.length_nil]; omega, rfl⟩
    · have hie : i = T.size := by omega
      have hd : (L T).drop i = [] := by rw [hie, ← len_L, List.drop_length]
      have h := HR.out
      rw [hd] at h
      obtain ⟨e1, e2, e3⟩ := runT_end h
      subst e1 e3
      have i5 : ¬ (i : Int) < (T.size : Int) := by omega
      have e5 : 0 < a ↔ 0 < x.li.length := by
        by_cases h1 : 0 < a <;> by_cases h2 : 0 < x.li.length <;> simp [h1, h2] at e2 ⊢
      have hem : (S []).toList.isEmpty = true := by rw [toL, L_S]; rfl
      clear hin hie hd h e2 HR
      by_cases h0 : 0 < x.li.length
      · have g1 : (0 : Int) < (a : Int) := by have := e5.2 h0; omega
        have g2 : (0 : Int) < (x.li.length : Int) := by omega
        clear e5 h0
        go_wp2_with (first
          | (go_at_call 12; refine (HP.out.aw _ (HP0.out.bel HB1.out)).mono ?_; rintro e w3 ⟨rfl, hb3⟩))
        go_ret
        exact ⟨rfl, bel HB0.out (bel HB1.out hb3)⟩
      · have g1 : ¬ (0 : Int) < (a : Int) := by intro e; exact h0 (e5.1 (by omega))
        have g2 : ¬ (0 : Int) < (x.li.length : Int) := by omega
        clear e5 h0
        go_wp2_with (first
          | (go_at_call 12; refine (HP.out.aw _ (HP0.out.bel HB1.out)).mono ?_; rintro e w3 ⟨rfl, hb3⟩))
        go_ret
        exact ⟨rfl, bel HB0.out (bel HB1.out hb3)⟩
end Go.Proofs.YtfcongggmjijfaaDoor
