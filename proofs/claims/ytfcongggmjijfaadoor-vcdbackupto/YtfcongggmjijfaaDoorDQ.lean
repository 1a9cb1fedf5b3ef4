/- Layer 19: VcdBack, walked over what the program's functions tell. -/
import Derived.Test.YtfcongggmjijfaaDoorDP
import Derived.Test.YtfcongggmjijfaaDoorUY
import Derived.Test.YtfcongggmjijfaaDoorUZ
import Derived.Test.YtfcongggmjijfaaDoorVF
namespace Go.Proofs.YtfcongggmjijfaaDoor
set_option maxRecDepth 100000
open Go.RowKit Lg Nl Go.Maps Wf Vd
set_option linter.unusedVariables false
set_option linter.unusedSimpArgs false

theorem wrE_one {x : Wv} (h : wrE x = 0) : mayW x = true ∧ undB x = false ∧ (textL x).length ≤ 1048576 := by
  unfold wrE at h
  cases hm : mayW x with
  | false => rw [hm] at h; simp at h
  | true =>
    rw [hm, if_pos rfl] at h
    cases hu : undB x with
    | true => rw [hu] at h; simp at h
    | false =>
      rw [hu] at h
      by_cases hl : 1048576 < (textL x).length
      · have h : (if 1048576 < (textL x).length then (4 : Int) else 0) = 0 := h
        rw [if_pos hl] at h; simp at h
      · exact ⟨rfl, rfl, by omega⟩
theorem keep_some {l : List UInt8} {x : Wv} (h : keepM l = some x) : readM l = some x ∧ wrE x = 0 ∧ wrT x = l := by
  unfold keepM at h
  cases hq : readM l with
  | none => rw [hq] at h; cases h
  | some y =>
    rw [hq] at h
    simp only at h
    by_cases hc : wrE y = 0 ∧ wrT y = l
    · rw [if_pos hc] at h
      injection h with h
      subst h
      exact ⟨rfl, hc.1, hc.2⟩
    · rw [if_neg hc] at h; cases h
set_option maxHeartbeats 16000000 in
set_option maxRecDepth 1000000 in
theorem VcdBack_c (P : PD) (x : Wv) (vn vw vf vl : Value) (s : ByteArray) (w : World) (hx : Wd w vn vw vf vl x) (hp : PowT w) (hv : ErrV w) : Calls Tryd.prog 3 #[.agg #[vn, vw, vf, vl], .string s] w fun e w' => e = .returned (.bool true) ∧ Below w.heap.size w w' := by
  have HP : Hid PD := P
  have HA : Hid (Wd w vn vw vf vl x) := hx
  obtain ⟨T, hT⟩ : ∃ T, T = S (wrT x) := ⟨_, rfl⟩
  obtain ⟨o, ho⟩ : ∃ o, o = wrE x := ⟨_, rfl⟩
  have HT : Hid (T = S (wrT x)) := hT
  have HO : Hid (o = wrE x) := ho
  clear P hx hT ho
  obtain ⟨W0, hW0⟩ : ∃ W0, W0 = w.alloc (.cells #[vn, vw, vf, vl] 26) := ⟨_, rfl⟩
  have HB0 : Hid (Below w.heap.size w W0) := by rw [hW0]; exact belA (Below.refl _ _) _
  have HX0 : Hid (W0.heap[w.heap.size]? = some (.cells #[vn, vw, vf, vl] 26 (0, 0))) := by rw [hW0]; exact alAt rfl
  have HA0 : Hid (Wd W0 vn vw vf vl x) := HA.out.below HB0.out
  have HP0 : Hid (PowT W0) := hp.bel HB0.out
  have HV0 : Hid (ErrV W0) := hv.bel HB0.out
  clear hp hv
  go_enter Tryd.func3, Tryd.ntmps3
  go_upto_region 1 with fail
  rw [← hW0]
  clear hW0 HA
  obtain ⟨b0, b1, b2, b3⟩ := cells4 HX0.out
  have lb := hLt HX0.out
  obtain ⟨E, hE⟩ : ∃ E, E = w.heap.size := ⟨_, rfl⟩
  rw [← hE] at HX0 b0 b1 b2 b3 lb
  rw [show (Value.pointer (some ⟨w.heap.size, 0, none⟩)) = Value.pointer (some ⟨E, 0, none⟩) by rw [hE]]
  clear hE
  go_upto_region 2 with (first
    | (go_at_call 7; refine (HA0.out.write HP.out HP0.out HT.out HO.out).mono ?_; rintro e w1 ⟨rfl, hb1⟩))
  have HB1 : Hid (Below W0.heap.size W0 w1) := hb1
  have HBw := hidV (bel HB0.out hb1)
  have HP1 := hidV (HP0.out.bel hb1)
  have HV1 := hidV (HV0.out.bel hb1)
  have HA1 := hidV (HA0.out.below hb1)
  clear hb1 b0 b1 b2 b3
  have HX1 := hidV ((HB1.out.block E lb).trans HX0.out)
  have lb1 := hLt HX1.out
  obtain ⟨b0, b1, b2, b3⟩ := cells4 HX1.out
  clear HB0 HX0 HA0 HP0 HV0 HB1 lb
  by_cases he : o = 0
  · subst he
    obtain ⟨m1, m2, m3⟩ := wrE_one HO.out.symm
    have HTx : Hid (T = S (textL x)) := by show _ = _; rw [HT.out]; congr 1; exact if_pos HO.out.symm
    have HRy : Hid (∀ W, PowT W → Calls Tryd.prog 8 #[.string T] W fun e w' => ∃ an cn aw_ cw af cf al cl, e = .returned (.tuple #[.agg #[.slice an x.nm.length cn, .slice aw_ x.wd.length cw, .slice af x.fi.length cf, .slice al x.li.length cl], .int .i64 0]) ∧ Hid (WvAt w' (.slice an x.nm.length cn) (.slice aw_ x.wd.length cw) (.slice af x.fi.length cf) (.slice al x.li.length cl) x) ∧ Below W.heap.size W w') := by
      intro W hW
      rw [HTx.out]
      exact Read_yes (textL x) x W m3 hW (readM_text m1 m2) ⟨HA1.out.z, HA1.out.b, HA1.out.l⟩ HO.out.symm (if_pos HO.out.symm)
    clear m1 m2 m3
    go_upto_region 4 with (first
      | (go_at_call 8; refine (HRy.out _ HP1.out).mono ?_; rintro e w2 ⟨an2, cn2, awq2, cw2, af2, cf2, al2, cl2, rfl, ha2, hb2⟩))
    obtain ⟨W3, hW3⟩ : ∃ W3, W3 = w2.alloc (.cells #[.slice an2 x.nm.length cn2, .slice awq2 x.wd.length cw2, .slice af2 x.fi.length cf2, .slice al2 x.li.length cl2] 26) := ⟨_, rfl⟩
    have HB2 := hidV hb2
    have HB3 : Hid (Below w2.heap.size w2 W3) := by rw [hW3]; exact belA (Below.refl _ _) _
    have HX3 : Hid (W3.heap[w2.heap.size]? = some (.cells #[.slice an2 x.nm.length cn2, .slice awq2 x.wd.length cw2, .slice af2 x.fi.length cf2, .slice al2 x.li.length cl2] 26 (0, 0))) := by rw [hW3]; exact alAt rfl
    have HA2 := hidV (ha2.out.below HB3.out)
    have HA3 := hidV ((HA1.out.below hb2).below HB3.out)
    have HP3 := hidV ((HP1.out.bel hb2).bel HB3.out)
    have HV3 := hidV ((HV1.out.bel hb2).bel HB3.out)
    have HBv := hidV (bel HBw.out (bel hb2 HB3.out))
    have hx3 : W3.heap[E]? = some (.cells #[vn, vw, vf, vl] 26 (0, 0)) := (HB3.out.block E (Nat.lt_of_lt_of_le lb1 hb2.size)).trans ((hb2.block E lb1).trans HX1.out)
    try rw [← hW3]
    clear hW3 hb2 ha2 b0 b1 b2 b3
    obtain ⟨b0, b1, b2, b3⟩ := cells4 hx3
    obtain ⟨F, hF⟩ : ∃ q, q = w2.heap.size := ⟨_, rfl⟩
    rw [← hF] at HX3 ⊢
    clear hF hx3
    obtain ⟨d0, d1, d2, d3⟩ := cells4 HX3.out
    go_upto_region 8 with (first
      | (go_at_call 9; refine (sameW_c x x _ _ _ _ _ _ _ _ _ HA2.out HA3.out.a HA3.out.b).mono ?_; rintro e w4 ⟨rfl, hb4⟩; rw [sameB_self]))
    have HB4 := hidV hb4
    have HBz := hidV (bel HBv.out hb4)
    have HPz := hidV (HP3.out.bel hb4)
    have HVz := hidV (HV3.out.bel hb4)
    clear hb4 d0 d1 d2 d3
    clear b0 b1 b2 b3
    by_cases hs : 65536 < s.size
    · have q1 : (65536 : Int) < (s.size : Int) := by omega
      clear hs
      go_wp2_with (first
        | (go_at_call 12; refine (HP.out.aw _ HPz.out).mono ?_; rintro e w9 ⟨rfl, hb9⟩))
      go_ret
      exact ⟨rfl, bel HBz.out hb9⟩
    · have q1 : ¬ (65536 : Int) < (s.size : Int) := by omega
      have hls : (L s).length ≤ 1048576 := by rw [len_L]; omega
      have HR : Hid (Calls Tryd.prog 8 #[.string s] w4 fun e w' => RdR w4 (keepM (L s)) e w') := by
        have h := Read_all (L s) w4 hls HPz.out HVz.out (fun y hy => readM_fw hy hls)
        rw [S_of_L] at h
        exact h
      cases hk : keepM (L s) with
      | none =>
        rw [hk] at HR
        have HRn : Hid (Calls Tryd.prog 8 #[.string s] w4 fun e w' => Below w4.heap.size w4 w' ∧ e = .returned (.tuple #[.agg #[.slice none 0 0, .slice none 0 0, .slice none 0 0, .slice none 0 0], .int .i64 190])) := HR.out
        clear hs hls hk HR
        go_upto_region 11 with (first
          | (go_at_call 8; refine HRn.out.mono ?_; rintro e w5 ⟨hb5, rfl⟩))
        obtain ⟨W6, hW6⟩ : ∃ W6, W6 = w5.alloc (.cells #[.slice none 0 0, .slice none 0 0, .slice none 0 0, .slice none 0 0] 26) := ⟨_, rfl⟩
        have HB5 := hidV hb5
        have HB6 : Hid (Below w5.heap.size w5 W6) := by rw [hW6]; exact belA (Below.refl _ _) _
        have HX6 : Hid (W6.heap[w5.heap.size]? = some (.cells #[.slice none 0 0, .slice none 0 0, .slice none 0 0, .slice none 0 0] 26 (0, 0))) := by rw [hW6]; exact alAt rfl
        try rw [← hW6]
        clear hW6 hb5
        obtain ⟨F, hF⟩ : ∃ q, q = w5.heap.size := ⟨_, rfl⟩
        rw [← hF] at HX6 ⊢
        clear hF
        obtain ⟨b0, b1, b2, b3⟩ := cells4 HX6.out
        go_wp2_with (first
          | (go_at_call 12; refine (HP.out.aw _ ((HPz.out.bel HB5.out).bel HB6.out)).mono ?_; rintro e w9 ⟨rfl, hb9⟩))
        go_ret
        exact ⟨rfl, bel HBz.out (bel HB5.out (bel HB6.out hb9))⟩
      | some y =>
        rw [hk] at HR
        obtain ⟨k1, k2, k3⟩ := keep_some hk
        have HFy := hidV (readM_fw k1 hls)
        have HTy : Hid (s = S (wrT y)) := by show _ = _; rw [k3, S_of_L]
        have HOy : Hid ((0 : Int) = wrE y) := k2.symm
        clear hs hls hk k1 k2 k3
        go_upto_region 11 with (first
          | (go_at_call 8; refine HR.out.mono ?_; rintro e w5 ⟨hb5, an5, cn5, aw5, cw5, af5, cf5, al5, cl5, rfl, ha5⟩))
        obtain ⟨W6, hW6⟩ : ∃ W6, W6 = w5.alloc (.cells #[.slice an5 y.nm.length cn5, .slice aw5 y.wd.length cw5, .slice af5 y.fi.length cf5, .slice al5 y.li.length cl5] 26) := ⟨_, rfl⟩
        have HB5 := hidV hb5
        have HB6 : Hid (Below w5.heap.size w5 W6) := by rw [hW6]; exact belA (Below.refl _ _) _
        have HX6 : Hid (W6.heap[w5.heap.size]? = some (.cells #[.slice an5 y.nm.length cn5, .slice aw5 y.wd.length cw5, .slice af5 y.fi.length cf5, .slice al5 y.li.length cl5] 26 (0, 0))) := by rw [hW6]; exact alAt rfl
        have HA6 : Hid (Wd W6 (.slice an5 y.nm.length cn5) (.slice aw5 y.wd.length cw5) (.slice af5 y.fi.length cf5) (.slice al5 y.li.length cl5) y) := ⟨ha5.below HB6.out, HFy.out.z, HFy.out.b, HFy.out.l⟩
        have HP6 := hidV ((HPz.out.bel HB5.out).bel HB6.out)
        try rw [← hW6]
        clear hW6 hb5 ha5
        obtain ⟨F, hF⟩ : ∃ q, q = w5.heap.size := ⟨_, rfl⟩
        rw [← hF] at HX6 ⊢
        clear hF
        obtain ⟨b0, b1, b2, b3⟩ := cells4 HX6.out
        go_upto_region 14 with (first
          | (go_at_call 7; refine (HA6.out.write HP.out HP6.out HTy.out HOy.out).mono ?_; rintro e w7 ⟨rfl, hb7⟩))
        have HB7 := hidV hb7
        have hss : (s.toList == s.toList) = true := beq_self_eq_true _
        clear hb7 b0 b1 b2 b3
        go_wp2_with (first
          | (go_at_call 12; refine (HP.out.aw _ (HP6.out.bel HB7.out)).mono ?_; rintro e w9 ⟨rfl, hb9⟩))
        go_ret
        exact ⟨rfl, bel HBz.out (bel HB5.out (bel HB6.out (bel HB7.out hb9)))⟩
  · have hY : T = ⟨#[]⟩ := by rw [HT.out]; unfold wrT; rw [if_neg (by rw [← HO.out]; exact he)]; rfl
    have ht : T.toList.isEmpty = true := by rw [hY, toL]; rfl
    have he2 : (o == 0) = false := by rw [beq_eq_false_iff_ne]; exact he
    have HMy : Hid (Calls Tryd.prog 10 #[.agg #[vn, vw, vf, vl]] w1 fun e w' => e = .returned (.bool (mayW x)) ∧ Below w1.heap.size w1 w') := wMay_c x vn vw vf vl w1 HA1.out.a HA1.out.z
    cases hm : mayW x with
    | false =>
      rw [hm] at HMy
      clear hm hY
      go_upto_region 8 with (first
        | (go_at_call 10; refine HMy.out.mono ?_; rintro e w4 ⟨rfl, hb4⟩))
      have HBz := hidV (bel HBw.out hb4)
      have HPz := hidV (HP1.out.bel hb4)
      have HVz := hidV (HV1.out.bel hb4)
      clear hb4
      clear b0 b1 b2 b3
      by_cases hs : 65536 < s.size
      · have q1 : (65536 : Int) < (s.size : Int) := by omega
        clear hs
        go_wp2_with (first
          | (go_at_call 12; refine (HP.out.aw _ HPz.out).mono ?_; rintro e w9 ⟨rfl, hb9⟩))
        go_ret
        exact ⟨rfl, bel HBz.out hb9⟩
      · have q1 : ¬ (65536 : Int) < (s.size : Int) := by omega
        have hls : (L s).length ≤ 1048576 := by rw [len_L]; omega
        have HR : Hid (Calls Tryd.prog 8 #[.string s] w4 fun e w' => RdR w4 (keepM (L s)) e w') := by
          have h := Read_all (L s) w4 hls HPz.out HVz.out (fun y hy => readM_fw hy hls)
          rw [S_of_L] at h
          exact h
        cases hk : keepM (L s) with
        | none =>
          rw [hk] at HR
          have HRn : Hid (Calls Tryd.prog 8 #[.string s] w4 fun e w' => Below w4.heap.size w4 w' ∧ e = .returned (.tuple #[.agg #[.slice none 0 0, .slice none 0 0, .slice none 0 0, .slice none 0 0], .int .i64 190])) := HR.out
          clear hs hls hk HR
          go_upto_region 11 with (first
            | (go_at_call 8; refine HRn.out.mono ?_; rintro e w5 ⟨hb5, rfl⟩))
          obtain ⟨W6, hW6⟩ : ∃ W6, W6 = w5.alloc (.cells #[.slice none 0 0, .slice none 0 0, .slice none 0 0, .slice none 0 0] 26) := ⟨_, rfl⟩
          have HB5 := hidV hb5
          have HB6 : Hid (Below w5.heap.size w5 W6) := by rw [hW6]; exact belA (Below.refl _ _) _
          have HX6 : Hid (W6.heap[w5.heap.size]? = some (.cells #[.slice none 0 0, .slice none 0 0, .slice none 0 0, .slice none 0 0] 26 (0, 0))) := by rw [hW6]; exact alAt rfl
          try rw [← hW6]
          clear hW6 hb5
          obtain ⟨F, hF⟩ : ∃ q, q = w5.heap.size := ⟨_, rfl⟩
          rw [← hF] at HX6 ⊢
          clear hF
          obtain ⟨b0, b1, b2, b3⟩ := cells4 HX6.out
          go_wp2_with (first
            | (go_at_call 12; refine (HP.out.aw _ ((HPz.out.bel HB5.out).bel HB6.out)).mono ?_; rintro e w9 ⟨rfl, hb9⟩))
          go_ret
          exact ⟨rfl, bel HBz.out (bel HB5.out (bel HB6.out hb9))⟩
        | some y =>
          rw [hk] at HR
          obtain ⟨k1, k2, k3⟩ := keep_some hk
          have HFy := hidV (readM_fw k1 hls)
          have HTy : Hid (s = S (wrT y)) := by show _ = _; rw [k3, S_of_L]
          have HOy : Hid ((0 : Int) = wrE y) := k2.symm
          clear hs hls hk k1 k2 k3
          go_upto_region 11 with (first
            | (go_at_call 8; refine HR.out.mono ?_; rintro e w5 ⟨hb5, an5, cn5, aw5, cw5, af5, cf5, al5, cl5, rfl, ha5⟩))
          obtain ⟨W6, hW6⟩ : ∃ W6, W6 = w5.alloc (.cells #[.slice an5 y.nm.length cn5, .slice aw5 y.wd.length cw5, .slice af5 y.fi.length cf5, .slice al5 y.li.length cl5] 26) := ⟨_, rfl⟩
          have HB5 := hidV hb5
          have HB6 : Hid (Below w5.heap.size w5 W6) := by rw [hW6]; exact belA (Below.refl _ _) _
          have HX6 : Hid (W6.heap[w5.heap.size]? = some (.cells #[.slice an5 y.nm.length cn5, .slice aw5 y.wd.length cw5, .slice af5 y.fi.length cf5, .slice al5 y.li.length cl5] 26 (0, 0))) := by rw [hW6]; exact alAt rfl
          have HA6 : Hid (Wd W6 (.slice an5 y.nm.length cn5) (.slice aw5 y.wd.length cw5) (.slice af5 y.fi.length cf5) (.slice al5 y.li.length cl5) y) := ⟨ha5.below HB6.out, HFy.out.z, HFy.out.b, HFy.out.l⟩
          have HP6 := hidV ((HPz.out.bel HB5.out).bel HB6.out)
          try rw [← hW6]
          clear hW6 hb5 ha5
          obtain ⟨F, hF⟩ : ∃ q, q = w5.heap.size := ⟨_, rfl⟩
          rw [← hF] at HX6 ⊢
          clear hF
          obtain ⟨b0, b1, b2, b3⟩ := cells4 HX6.out
          go_upto_region 14 with (first
            | (go_at_call 7; refine (HA6.out.write HP.out HP6.out HTy.out HOy.out).mono ?_; rintro e w7 ⟨rfl, hb7⟩))
          have HB7 := hidV hb7
          have hss : (s.toList == s.toList) = true := beq_self_eq_true _
          clear hb7 b0 b1 b2 b3
          go_wp2_with (first
            | (go_at_call 12; refine (HP.out.aw _ (HP6.out.bel HB7.out)).mono ?_; rintro e w9 ⟨rfl, hb9⟩))
          go_ret
          exact ⟨rfl, bel HBz.out (bel HB5.out (bel HB6.out (bel HB7.out hb9)))⟩
    | true =>
      rw [hm] at HMy
      by_cases h1 : o = 1
      · have he3 : (o == 1) = true := by rw [beq_iff_eq]; exact h1
        have hu : undB x = true := by
          cases hu : undB x with
          | true => rfl
          | false =>
            have h := HO.out
            unfold wrE at h
            rw [hm, if_pos rfl, hu] at h
            have h : o = if 1048576 < (textL x).length then (4 : Int) else 0 := h
            split at h <;> omega
        have HUn : Hid (∀ W, WvAt W vn vw vf vl x → Calls Tryd.prog 11 #[.agg #[vn, vw, vf, vl]] W fun e w' => e = .returned (.bool true) ∧ Below W.heap.size W w') := by
          intro W hW
          have h := lUnder_c x vn vw vf vl W hW HA1.out.b
          rw [hu] at h
          exact h
        clear hm hY h1 hu
        go_upto_region 8 with (first
          | (go_at_call 11; refine (HUn.out _ (HA1.out.a.below hb4)).mono ?_; rintro e w8 ⟨rfl, hb8⟩)
          | (go_at_call 10; refine HMy.out.mono ?_; rintro e w4 ⟨rfl, hb4⟩; clear b0 b1 b2 b3; obtain ⟨b0, b1, b2, b3⟩ := cells4 ((hb4.block E lb1).trans HX1.out)))
        have HBz := hidV (bel HBw.out (bel hb4 hb8))
        have HPz := hidV ((HP1.out.bel hb4).bel hb8)
        have HVz := hidV ((HV1.out.bel hb4).bel hb8)
        clear hb4 hb8
        clear b0 b1 b2 b3
        by_cases hs : 65536 < s.size
        · have q1 : (65536 : Int) < (s.size : Int) := by omega
          clear hs
          go_wp2_with (first
            | (go_at_call 12; refine (HP.out.aw _ HPz.out).mono ?_; rintro e w9 ⟨rfl, hb9⟩))
          go_ret
          exact ⟨rfl, bel HBz.out hb9⟩
        · have q1 : ¬ (65536 : Int) < (s.size : Int) := by omega
          have hls : (L s).length ≤ 1048576 := by rw [len_L]; omega
          have HR : Hid (Calls Tryd.prog 8 #[.string s] w8 fun e w' => RdR w8 (keepM (L s)) e w') := by
            have h := Read_all (L s) w8 hls HPz.out HVz.out (fun y hy => readM_fw hy hls)
            rw [S_of_L] at h
            exact h
          cases hk : keepM (L s) with
          | none =>
            rw [hk] at HR
            have HRn : Hid (Calls Tryd.prog 8 #[.string s] w8 fun e w' => Below w8.heap.size w8 w' ∧ e = .returned (.tuple #[.agg #[.slice none 0 0, .slice none 0 0, .slice none 0 0, .slice none 0 0], .int .i64 190])) := HR.out
            clear hs hls hk HR
            go_upto_region 11 with (first
              | (go_at_call 8; refine HRn.out.mono ?_; rintro e w5 ⟨hb5, rfl⟩))
            obtain ⟨W6, hW6⟩ : ∃ W6, W6 = w5.alloc (.cells #[.slice none 0 0, .slice none 0 0, .slice none 0 0, .slice none 0 0] 26) := ⟨_, rfl⟩
            have HB5 := hidV hb5
            have HB6 : Hid (Below w5.heap.size w5 W6) := by rw [hW6]; exact belA (Below.refl _ _) _
            have HX6 : Hid (W6.heap[w5.heap.size]? = some (.cells #[.slice none 0 0, .slice none 0 0, .slice none 0 0, .slice none 0 0] 26 (0, 0))) := by rw [hW6]; exact alAt rfl
            try rw [← hW6]
            clear hW6 hb5
            obtain ⟨F, hF⟩ : ∃ q, q = w5.heap.size := ⟨_, rfl⟩
            rw [← hF] at HX6 ⊢
            clear hF
            obtain ⟨b0, b1, b2, b3⟩ := cells4 HX6.out
            go_wp2_with (first
              | (go_at_call 12; refine (HP.out.aw _ ((HPz.out.bel HB5.out).bel HB6.out)).mono ?_; rintro e w9 ⟨rfl, hb9⟩))
            go_ret
            exact ⟨rfl, bel HBz.out (bel HB5.out (bel HB6.out hb9))⟩
          | some y =>
            rw [hk] at HR
            obtain ⟨k1, k2, k3⟩ := keep_some hk
            have HFy := hidV (readM_fw k1 hls)
            have HTy : Hid (s = S (wrT y)) := by show _ = _; rw [k3, S_of_L]
            have HOy : Hid ((0 : Int) = wrE y) := k2.symm
            clear hs hls hk k1 k2 k3
            go_upto_region 11 with (first
              | (go_at_call 8; refine HR.out.mono ?_; rintro e w5 ⟨hb5, an5, cn5, aw5, cw5, af5, cf5, al5, cl5, rfl, ha5⟩))
            obtain ⟨W6, hW6⟩ : ∃ W6, W6 = w5.alloc (.cells #[.slice an5 y.nm.length cn5, .slice aw5 y.wd.length cw5, .slice af5 y.fi.length cf5, .slice al5 y.li.length cl5] 26) := ⟨_, rfl⟩
            have HB5 := hidV hb5
            have HB6 : Hid (Below w5.heap.size w5 W6) := by rw [hW6]; exact belA (Below.refl _ _) _
            have HX6 : Hid (W6.heap[w5.heap.size]? = some (.cells #[.slice an5 y.nm.length cn5, .slice aw5 y.wd.length cw5, .slice af5 y.fi.length cf5, .slice al5 y.li.length cl5] 26 (0, 0))) := by rw [hW6]; exact alAt rfl
            have HA6 : Hid (Wd W6 (.slice an5 y.nm.length cn5) (.slice aw5 y.wd.length cw5) (.slice af5 y.fi.length cf5) (.slice al5 y.li.length cl5) y) := ⟨ha5.below HB6.out, HFy.out.z, HFy.out.b, HFy.out.l⟩
            have HP6 := hidV ((HPz.out.bel HB5.out).bel HB6.out)
            try rw [← hW6]
            clear hW6 hb5 ha5
            obtain ⟨F, hF⟩ : ∃ q, q = w5.heap.size := ⟨_, rfl⟩
            rw [← hF] at HX6 ⊢
            clear hF
            obtain ⟨b0, b1, b2, b3⟩ := cells4 HX6.out
            go_upto_region 14 with (first
              | (go_at_call 7; refine (HA6.out.write HP.out HP6.out HTy.out HOy.out).mono ?_; rintro e w7 ⟨rfl, hb7⟩))
            have HB7 := hidV hb7
            have hss : (s.toList == s.toList) = true := beq_self_eq_true _
            clear hb7 b0 b1 b2 b3
            go_wp2_with (first
              | (go_at_call 12; refine (HP.out.aw _ (HP6.out.bel HB7.out)).mono ?_; rintro e w9 ⟨rfl, hb9⟩))
            go_ret
            exact ⟨rfl, bel HBz.out (bel HB5.out (bel HB6.out (bel HB7.out hb9)))⟩
      · have he3 : (o == 1) = false := by rw [beq_eq_false_iff_ne]; exact h1
        clear hm hY h1
        go_upto_region 8 with (first
          | (go_at_call 10; refine HMy.out.mono ?_; rintro e w4 ⟨rfl, hb4⟩))
        have HBz := hidV (bel HBw.out hb4)
        have HPz := hidV (HP1.out.bel hb4)
        have HVz := hidV (HV1.out.bel hb4)
        clear hb4
        clear b0 b1 b2 b3
        by_cases hs : 65536 < s.size
        · have q1 : (65536 : Int) < (s.size : Int) := by omega
          clear hs
          go_wp2_with (first
            | (go_at_call 12; refine (HP.out.aw _ HPz.out).mono ?_; rintro e w9 ⟨rfl, hb9⟩))
          go_ret
          exact ⟨rfl, bel HBz.out hb9⟩
        · have q1 : ¬ (65536 : Int) < (s.size : Int) := by omega
          have hls : (L s).length ≤ 1048576 := by rw [len_L]; omega
          have HR : Hid (Calls Tryd.prog 8 #[.string s] w4 fun e w' => RdR w4 (keepM (L s)) e w') := by
            have h := Read_all (L s) w4 hls HPz.out HVz.out (fun y hy => readM_fw hy hls)
            rw [S_of_L] at h
            exact h
          cases hk : keepM (L s) with
          | none =>
            rw [hk] at HR
            have HRn : Hid (Calls Tryd.prog 8 #[.string s] w4 fun e w' => Below w4.heap.size w4 w' ∧ e = .returned (.tuple #[.agg #[.slice none 0 0, .slice none 0 0, .slice none 0 0, .slice none 0 0], .int .i64 190])) := HR.out
            clear hs hls hk HR
            go_upto_region 11 with (first
              | (go_at_call 8; refine HRn.out.mono ?_; rintro e w5 ⟨hb5, rfl⟩))
            obtain ⟨W6, hW6⟩ : ∃ W6, W6 = w5.alloc (.cells #[.slice none 0 0, .slice none 0 0, .slice none 0 0, .slice none 0 0] 26) := ⟨_, rfl⟩
            have HB5 := hidV hb5
            have HB6 : Hid (Below w5.heap.size w5 W6) := by rw [hW6]; exact belA (Below.refl _ _) _
            have HX6 : Hid (W6.heap[w5.heap.size]? = some (.cells #[.slice none 0 0, .slice none 0 0, .slice none 0 0, .slice none 0 0] 26 (0, 0))) := by rw [hW6]; exact alAt rfl
            try rw [← hW6]
            clear hW6 hb5
            obtain ⟨F, hF⟩ : ∃ q, q = w5.heap.size := ⟨_, rfl⟩
            rw [← hF] at HX6 ⊢
            clear hF
            obtain ⟨b0, b1, b2, b3⟩ := cells4 HX6.out
            go_wp2_with (first
              | (go_at_call 12; refine (HP.out.aw _ ((HPz.out.bel HB5.out).bel HB6.out)).mono ?_; rintro e w9 ⟨rfl, hb9⟩))
            go_ret
            exact ⟨rfl, bel HBz.out (bel HB5.out (bel HB6.out hb9))⟩
          | some y =>
            rw [hk] at HR
            obtain ⟨k1, k2, k3⟩ := keep_some hk
            have HFy := hidV (readM_fw k1 hls)
            have HTy : Hid (s = S (wrT y)) := by show _ = _; rw [k3, S_of_L]
            have HOy : Hid ((0 : Int) = wrE y) := k2.symm
            clear hs hls hk k1 k2 k3
            go_upto_region 11 with (first
              | (go_at_call 8; refine HR.out.mono ?_; rintro e w5 ⟨hb5, an5, cn5, aw5, cw5, af5, cf5, al5, cl5, rfl, ha5⟩))
            obtain ⟨W6, hW6⟩ : ∃ W6, W6 = w5.alloc (.cells #[.slice an5 y.nm.length cn5, .slice aw5 y.wd.length cw5, .slice af5 y.fi.length cf5, .slice al5 y.li.length cl5] 26) := ⟨_, rfl⟩
            have HB5 := hidV hb5
            have HB6 : Hid (Below w5.heap.size w5 W6) := by rw [hW6]; exact belA (Below.refl _ _) _
            have HX6 : Hid (W6.heap[w5.heap.size]? = some (.cells #[.slice an5 y.nm.length cn5, .slice aw5 y.wd.length cw5, .slice af5 y.fi.length cf5, .slice al5 y.li.length cl5] 26 (0, 0))) := by rw [hW6]; exact alAt rfl
            have HA6 : Hid (Wd W6 (.slice an5 y.nm.length cn5) (.slice aw5 y.wd.length cw5) (.slice af5 y.fi.length cf5) (.slice al5 y.li.length cl5) y) := ⟨ha5.below HB6.out, HFy.out.z, HFy.out.b, HFy.out.l⟩
            have HP6 := hidV ((HPz.out.bel HB5.out).bel HB6.out)
            try rw [← hW6]
            clear hW6 hb5 ha5
            obtain ⟨F, hF⟩ : ∃ q, q = w5.heap.size := ⟨_, rfl⟩
            rw [← hF] at HX6 ⊢
            clear hF
            obtain ⟨b0, b1, b2, b3⟩ := cells4 HX6.out
            go_upto_region 14 with (first
              | (go_at_call 7; refine (HA6.out.write HP.out HP6.out HTy.out HOy.out).mono ?_; rintro e w7 ⟨rfl, hb7⟩))
            have HB7 := hidV hb7
            have hss : (s.toList == s.toList) = true := beq_self_eq_true _
            clear hb7 b0 b1 b2 b3
            go_wp2_with (first
              | (go_at_call 12; refine (HP.out.aw _ (HP6.out.bel HB7.out)).mono ?_; rintro e w9 ⟨rfl, hb9⟩))
            go_ret
            exact ⟨rfl, bel HBz.out (bel HB5.out (bel HB6.out (bel HB7.out hb9)))⟩
end Go.Proofs.YtfcongggmjijfaaDoor
