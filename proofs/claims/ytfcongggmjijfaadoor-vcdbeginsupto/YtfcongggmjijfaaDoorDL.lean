/- Layer 19: VcdBegins, walked over what the program's functions tell. -/
import Derived.Test.YtfcongggmjijfaaDoorDK
namespace Go.Proofs.YtfcongggmjijfaaDoor
set_option maxRecDepth 100000
open Go.RowKit Lg Nl Go.Maps Wf Vd
set_option linter.unusedVariables false
set_option linter.unusedSimpArgs false

def begX (k : Nat) (x : Wv) : Wv := ⟨x.nm, x.wd, x.fi, x.li.take k⟩
theorem ls_take (wd : List Int) : ∀ (l : List Ch) (p : Option Ch) (now : List ByteArray) (k : Nat), lsB wd p now l = true → lsB wd p now (l.take k) = true
  | [], p, now, k, h => by rw [List.take_nil]; exact h
  | c :: cs, p, now, 0, h => rfl
  | c :: cs, p, now, k + 1, h => by
    rw [List.take_succ_cons]
    unfold lsB at h ⊢
    simp only [Bool.and_eq_true] at h ⊢
    exact ⟨h.1, ls_take wd cs _ _ k h.2⟩
theorem may_take {x : Wv} (k : Nat) (h : mayW x = true) : mayW (begX k x) = true := by
  obtain ⟨h1, h2, h3⟩ := may_parts h
  unfold mayW
  rw [Bool.and_eq_true, Bool.and_eq_true]
  exact ⟨⟨h1, h2⟩, ls_take x.wd x.li none x.fi k h3⟩
theorem wr_zero {x : Wv} (h : wrE x = 0) : mayW x = true ∧ undB x = false ∧ (textL x).length ≤ 1048576 := by
  unfold wrE at h
  cases h1 : mayW x
  · rw [h1] at h; cases h
  · cases h2 : undB x
    · rw [h1, h2] at h
      by_cases h3 : 1048576 < (textL x).length
      · simp [h3] at h
      · exact ⟨rfl, rfl, by omega⟩
    · rw [h1, h2] at h; cases h
theorem wr_take {x : Wv} (k : Nat) (h : wrE x = 0) : wrE (begX k x) = 0 ∧ ∃ r, wrT x = wrT (begX k x) ++ r := by
  obtain ⟨h1, h2, h3⟩ := wr_zero h
  obtain ⟨r, hr⟩ := text_take x k
  have hl : ¬ 1048576 < (textL (begX k x)).length := by
    have := congrArg List.length hr
    rw [List.length_append] at this
    show ¬ 1048576 < (textL ⟨x.nm, x.wd, x.fi, x.li.take k⟩).length
    omega
  have e : wrE (begX k x) = 0 := by
    have u : undB (begX k x) = false := h2
    unfold wrE
    rw [may_take k h1, u]
    simp [hl]
  refine ⟨e, r, ?_⟩
  unfold wrT
  rw [if_pos h, if_pos e]
  exact hr
theorem Wd.take {w : World} {vn vw vf : Value} {ao : Option Addr} {n c k : Nat} {x : Wv} (h : Wd w vn vw vf (.slice ao n c) x) (hk : k ≤ x.li.length) : Wd w vn vw vf (.slice ao k c) (begX k x) := by
  have hl : (x.li.take k).length = k := by rw [List.length_take]; omega
  refine ⟨⟨h.a.nm, h.a.wd, h.a.fi, ?_⟩, ⟨h.z.nm, h.z.fi, fun d hd => h.z.li d (List.mem_of_mem_take hd), ?_⟩, ⟨h.b.nm, h.b.wd, h.b.fi, ?_⟩, ?_⟩
  · obtain ⟨ao', c', e, hc, hh⟩ := h.a.li
    injection e with e1 e2 e3
    subst e1 e3
    refine ⟨ao, c, by show Value.slice ao k c = Value.slice ao (x.li.take k).length c; rw [hl], ⟨by show (x.li.take k).length ≤ c; rw [hl]; omega, hc.2⟩, ?_⟩
    rcases hh with hh | ⟨g, o, rfl, hg, hh⟩
    · exact Or.inl (by show x.li.take k = []; rw [hh, List.take_nil])
    · refine Or.inr ⟨g, o, rfl, hg, fun i hi j u hu => ?_⟩
      have hi2 : i < x.li.length := by have : i < (x.li.take k).length := hi; omega
      refine hh i hi2 j u ?_
      have : (begX k x).li[i] = x.li[i] := List.getElem_take
      rw [← this]; exact hu
  · show (x.li.take k).length ≤ _; have := h.z.ln; omega
  · show (x.li.take k).length ≤ _; have := h.b.li; omega
  · show (x.li.take k).length ≤ _; have := h.l; omega
theorem mask16 (n : Int) : bits .and .i64 n 65535 = n % 65536 := by
  have hpos : 0 < 2 ^ 16 := by decide
  have h1 : (BitVec.ofInt 64 (65535 : Int)).toNat = 65535 := by decide
  have key : (BitVec.ofInt 64 n &&& BitVec.ofInt 64 (65535 : Int)).toNat = (n % ((2 ^ 64 : Nat) : Int)).toNat % 2 ^ 16 := by
    rw [BitVec.toNat_and, BitVec.toNat_ofInt, h1, show (65535 : Nat) = 2 ^ 16 - 1 by decide, Nat.and_two_pow_sub_one_eq_mod]
  show IntKind.i64.wrap ((BitVec.ofInt 64 n &&& BitVec.ofInt 64 (65535 : Int)).toNat : Nat) = n % 65536
  rw [key, IntKind.wrap_i64]
  have h2 : ((n % ((2 ^ 64 : Nat) : Int)).toNat % 2 ^ 16 : Nat) = n % 65536 := by
    rw [Int.natCast_emod, Int.toNat_of_nonneg (Int.emod_nonneg _ (by decide)), Int.emod_emod_of_dvd]
    · rfl
    · exact Int.natCast_dvd_natCast.2 (Nat.pow_dvd_pow 2 (by omega))
  rw [h2]; omega
theorem w6_of {n : Nat} (h : n ≤ 100000000) : wrap64 ((n : Int) + 1) = (n : Int) + 1 := by unfold wrap64; omega
theorem z6_of (n : Nat) : ¬ ((n : Int) + 1 = 0) := by omega
theorem k1_of {K n c : Nat} (h : K ≤ n) (h2 : n ≤ c) : 0 ≤ (K : Int) ∧ (K : Int) ≤ (c : Int) := by omega
theorem beg_facts {x : Wv} {k : Nat} {T T2 : ByteArray} {o o2 : Int} (hT : T = S (wrT x)) (ho : o = wrE x) (hT2 : T2 = S (wrT (begX k x))) (ho2 : o2 = wrE (begX k x)) :
    ¬ o = 0 ∨ (o = 0 ∧ o2 = 0 ∧ decide ((T2.size : Int) ≤ (T.size : Int)) = true ∧ ((T.extract 0 T2.size).toList == T2.toList) = true ∧ T2.size ≤ T.size) := by
  by_cases h : o = 0
  · obtain ⟨h2, r, hr⟩ := wr_take k (ho ▸ h)
    have hl : T2.size ≤ T.size := by
      rw [hT, hT2, size_S, size_S, hr, List.length_append]; omega
    refine Or.inr ⟨h, ho2.trans h2, decide_eq_true (by omega), ?_, hl⟩
    have e : T.extract 0 T2.size = T2 := by
      apply ByteArray.ext
      rw [hT, hT2, hr, size_S]
      apply Array.toList_inj.1
      simp [S, ByteArray.data_extract]
    rw [e, beq_self_eq_true]
  · exact Or.inl h
theorem k_of (cut : Int) (n : Nat) (hn : n ≤ 100000000) : ∃ K : Nat, K ≤ n ∧ Int.tmod (bits .and .i64 cut 65535) ((n : Int) + 1) = (K : Int) := by
  rw [mask16]
  refine ⟨((cut % 65536).tmod ((n : Int) + 1)).toNat, ?_, ?_⟩
  · have h1 := Int.tmod_lt_of_pos (cut % 65536) (b := (n : Int) + 1) (by omega)
    omega
  · have h1 := Int.tmod_nonneg ((n : Int) + 1) (a := cut % 65536) (by omega)
    omega
set_option maxHeartbeats 800000 in
set_option maxRecDepth 1000000 in
theorem VcdBegins_c (P : PD) (x : Wv) (vn vw vf vl : Value) (cut : Int) (w : World) (hx : Wd w vn vw vf vl x) (hp : PowT w) : Calls Tryd.prog 5 #[.agg #[vn, vw, vf, vl], .int .i64 cut] w fun e w' => e = .returned (.bool true) ∧ Below w.heap.size w w' := by
  have HP : Hid PD := P
  have HA : Hid (Wd w vn vw vf vl x) := hx
  obtain ⟨an, cn, rfl, _, _⟩ := hx.a.nm
  obtain ⟨aw, cw, rfl, _, _⟩ := hx.a.wd
  obtain ⟨af, cf, rfl, _, _⟩ := hx.a.fi
  obtain ⟨al, cl, rfl, hcl, hal⟩ := hx.a.li
  obtain ⟨K, hK, HKm⟩ := k_of cut x.li.length hx.l
  have HK : Hid (K ≤ x.li.length) := hK
  have HLn : Hid (x.li.length ≤ 100000000) := hx.l
  have hcl1 := hcl.1
  have hcl2 := hcl.2
  clear P hx hal hcl
  obtain ⟨W0, hW0⟩ : ∃ W0, W0 = w.alloc (.cells #[.slice an x.nm.length cn, .slice aw x.wd.length cw, .slice af x.fi.length cf, .slice al x.li.length cl] 26) := ⟨_, rfl⟩
  have HB0 : Hid (Below w.heap.size w W0) := by rw [hW0]; exact belA (Below.refl _ _) _
  have HX0 : Hid (W0.heap[w.heap.size]? = some (.cells #[.slice an x.nm.length cn, .slice aw x.wd.length cw, .slice af x.fi.length cf, .slice al x.li.length cl] 26 (0, 0))) := by rw [hW0]; exact alAt rfl
  have HA0 : Hid (Wd W0 (.slice an x.nm.length cn) (.slice aw x.wd.length cw) (.slice af x.fi.length cf) (.slice al x.li.length cl) x) := HA.out.below HB0.out
  have HP0 : Hid (PowT W0) := hp.bel HB0.out
  clear hp
  go_enter Tryd.func5, Tryd.ntmps5
  go_upto_region 1 with fail
  rw [← hW0]
  clear hW0 HA
  obtain ⟨b0, b1, b2, b3⟩ := cells4 HX0.out
  have lb := hLt HX0.out
  obtain ⟨E, hE⟩ : ∃ E, E = w.heap.size := ⟨_, rfl⟩
  rw [← hE] at HX0 b0 b1 b2 b3 lb
  rw [show (Value.pointer (some ⟨w.heap.size, 0, none⟩)) = Value.pointer (some ⟨E, 0, none⟩) by rw [hE]]
  clear hE
  by_cases h0 : 0 < x.li.length
  · have d0 : decide (0 < (x.li.length : Int)) = true := decide_eq_true (by omega)
    have d0n : decide (0 < x.li.length) = true := decide_eq_true h0
    have w6 : wrap64 ((x.li.length : Int) + 1) = (x.li.length : Int) + 1 := w6_of HLn.out
    have z6 : ¬ ((x.li.length : Int) + 1 = 0) := z6_of _
    have k1 : (0 ≤ (K : Int) ∧ (K : Int) ≤ (cl : Int)) := k1_of hK hcl1
    clear h0 hcl1 hcl2 hK
    go_upto_region 6 with fail
    obtain ⟨W1, hW1⟩ : ∃ W1, W1 = W0.alloc (.cells #[.slice an x.nm.length cn, .slice aw x.wd.length cw, .slice af x.fi.length cf, .slice al K cl] 26) := ⟨_, rfl⟩
    rw [← hW1]
    have HB1 : Hid (Below W0.heap.size W0 W1) := by rw [hW1]; exact belA (Below.refl _ _) _
    have HY1 : Hid (W1.heap[W0.heap.size]? = some (.cells #[.slice an x.nm.length cn, .slice aw x.wd.length cw, .slice af x.fi.length cf, .slice al K cl] 26 (0, 0))) := by rw [hW1]; exact alAt rfl
    clear hW1 b0 b1 b2 b3
    have HA1 : Hid (Wd W1 (.slice an x.nm.length cn) (.slice aw x.wd.length cw) (.slice af x.fi.length cf) (.slice al x.li.length cl) x) := HA0.out.below HB1.out
    have HC1 : Hid (Wd W1 (.slice an x.nm.length cn) (.slice aw x.wd.length cw) (.slice af x.fi.length cf) (.slice al K cl) (begX K x)) := HA1.out.take HK.out
    have HP1 : Hid (PowT W1) := HP0.out.bel HB1.out
    obtain ⟨b0, b1, b2, b3⟩ := cells4 ((HB1.out.block E lb).trans HX0.out)
    obtain ⟨Y, hY⟩ : ∃ Y, Y = W0.heap.size := ⟨_, rfl⟩
    rw [← hY] at HY1
    rw [show (Value.pointer (some ⟨W0.heap.size, 0, none⟩)) = Value.pointer (some ⟨Y, 0, none⟩) by rw [hY]]
    clear hY
    have ly := hLt HY1.out
    obtain ⟨T, hT⟩ : ∃ T, T = S (wrT x) := ⟨_, rfl⟩
    obtain ⟨o, ho⟩ : ∃ o, o = wrE x := ⟨_, rfl⟩
    obtain ⟨T2, hT2⟩ : ∃ T2, T2 = S (wrT (begX K x)) := ⟨_, rfl⟩
    obtain ⟨o2, ho2⟩ : ∃ o2, o2 = wrE (begX K x) := ⟨_, rfl⟩
    have HT : Hid (T = S (wrT x)) := hT
    have HO : Hid (o = wrE x) := ho
    have HT2 : Hid (T2 = S (wrT (begX K x))) := hT2
    have HO2 : Hid (o2 = wrE (begX K x)) := ho2
    have HF : Hid (¬ o = 0 ∨ (o = 0 ∧ o2 = 0 ∧ decide ((T2.size : Int) ≤ (T.size : Int)) = true ∧ ((T.extract 0 T2.size).toList == T2.toList) = true ∧ T2.size ≤ T.size)) := beg_facts hT ho hT2 ho2
    clear hT ho hT2 ho2
    go_upto_region 7 with (first
      | (go_at_call 7; refine (HA1.out.write HP.out HP1.out HT.out HO.out).mono ?_; rintro e w1 ⟨rfl, hb1⟩))
    have HB2 : Hid (Below W1.heap.size W1 w1) := hb1
    clear hb1 b0 b1 b2 b3
    obtain ⟨y0, y1, y2, y3⟩ := cells4 ((HB2.out.block Y ly).trans HY1.out)
    go_upto_region 8 with (first
      | (go_at_call 7; refine ((HC1.out.below HB2.out).write HP.out (HP1.out.bel HB2.out) HT2.out HO2.out).mono ?_; rintro e w2 ⟨rfl, hb2⟩))
    have HB3 : Hid (Below w1.heap.size w1 w2) := hb2
    clear hb2 y0 y1 y2 y3
    rcases HF.out with hf | ⟨rfl, rfl, f1, f2, f3⟩
    · go_wp2_with (first
        | (go_at_call 12; refine (HP.out.aw _ ((HP1.out.bel HB2.out).bel HB3.out)).mono ?_; rintro e w3 ⟨rfl, hb3⟩))
      go_ret
      exact ⟨rfl, bel HB0.out (bel HB1.out (bel HB2.out (bel HB3.out hb3)))⟩
    · go_wp2_with (first
        | (go_at_call 12; refine (HP.out.aw _ ((HP1.out.bel HB2.out).bel HB3.out)).mono ?_; rintro e w3 ⟨rfl, hb3⟩))
      go_ret
      exact ⟨rfl, bel HB0.out (bel HB1.out (bel HB2.out (bel HB3.out hb3)))⟩
  · have d0 : decide (0 < (x.li.length : Int)) = false := decide_eq_false (by omega)
    have d0n : decide (0 < x.li.length) = false := decide_eq_false h0
    clear h0 hcl1 hcl2 hK HKm
    go_upto_region 6 with fail
    obtain ⟨W1, hW1⟩ : ∃ W1, W1 = W0.alloc (.cells #[.slice an x.nm.length cn, .slice aw x.wd.length cw, .slice af x.fi.length cf, .slice al 0 cl] 26) := ⟨_, rfl⟩
    rw [← hW1]
    have HB1 : Hid (Below W0.heap.size W0 W1) := by rw [hW1]; exact belA (Below.refl _ _) _
    have HY1 : Hid (W1.heap[W0.heap.size]? = some (.cells #[.slice an x.nm.length cn, .slice aw x.wd.length cw, .slice af x.fi.length cf, .slice al 0 cl] 26 (0, 0))) := by rw [hW1]; exact alAt rfl
    clear hW1 b0 b1 b2 b3
    have HA1 : Hid (Wd W1 (.slice an x.nm.length cn) (.slice aw x.wd.length cw) (.slice af x.fi.length cf) (.slice al x.li.length cl) x) := HA0.out.below HB1.out
    have HC1 : Hid (Wd W1 (.slice an x.nm.length cn) (.slice aw x.wd.length cw) (.slice af x.fi.length cf) (.slice al 0 cl) (begX 0 x)) := HA1.out.take (Nat.zero_le _)
    have HP1 : Hid (PowT W1) := HP0.out.bel HB1.out
    obtain ⟨b0, b1, b2, b3⟩ := cells4 ((HB1.out.block E lb).trans HX0.out)
    obtain ⟨Y, hY⟩ : ∃ Y, Y = W0.heap.size := ⟨_, rfl⟩
    rw [← hY] at HY1
    rw [show (Value.pointer (some ⟨W0.heap.size, 0, none⟩)) = Value.pointer (some ⟨Y, 0, none⟩) by rw [hY]]
    clear hY
    have ly := hLt HY1.out
    obtain ⟨T, hT⟩ : ∃ T, T = S (wrT x) := ⟨_, rfl⟩
    obtain ⟨o, ho⟩ : ∃ o, o = wrE x := ⟨_, rfl⟩
    obtain ⟨T2, hT2⟩ : ∃ T2, T2 = S (wrT (begX 0 x)) := ⟨_, rfl⟩
    obtain ⟨o2, ho2⟩ : ∃ o2, o2 = wrE (begX 0 x) := ⟨_, rfl⟩
    have HT : Hid (T = S (wrT x)) := hT
    have HO : Hid (o = wrE x) := ho
    have HT2 : Hid (T2 = S (wrT (begX 0 x))) := hT2
    have HO2 : Hid (o2 = wrE (begX 0 x)) := ho2
    have HF : Hid (¬ o = 0 ∨ (o = 0 ∧ o2 = 0 ∧ decide ((T2.size : Int) ≤ (T.size : Int)) = true ∧ ((T.extract 0 T2.size).toList == T2.toList) = true ∧ T2.size ≤ T.size)) := beg_facts hT ho hT2 ho2
    clear hT ho hT2 ho2
    go_upto_region 7 with (first
      | (go_at_call 7; refine (HA1.out.write HP.out HP1.out HT.out HO.out).mono ?_; rintro e w1 ⟨rfl, hb1⟩))
    have HB2 : Hid (Below W1.heap.size W1 w1) := hb1
    clear hb1 b0 b1 b2 b3
    obtain ⟨y0, y1, y2, y3⟩ := cells4 ((HB2.out.block Y ly).trans HY1.out)
    go_upto_region 8 with (first
      | (go_at_call 7; refine ((HC1.out.below HB2.out).write HP.out (HP1.out.bel HB2.out) HT2.out HO2.out).mono ?_; rintro e w2 ⟨rfl, hb2⟩))
    have HB3 : Hid (Below w1.heap.size w1 w2) := hb2
    clear hb2 y0 y1 y2 y3
    rcases HF.out with hf | ⟨rfl, rfl, f1, f2, f3⟩
    · go_wp2_with (first
        | (go_at_call 12; refine (HP.out.aw _ ((HP1.out.bel HB2.out).bel HB3.out)).mono ?_; rintro e w3 ⟨rfl, hb3⟩))
      go_ret
      exact ⟨rfl, bel HB0.out (bel HB1.out (bel HB2.out (bel HB3.out hb3)))⟩
    · go_wp2_with (first
        | (go_at_call 12; refine (HP.out.aw _ ((HP1.out.bel HB2.out).bel HB3.out)).mono ?_; rintro e w3 ⟨rfl, hb3⟩))
      go_ret
      exact ⟨rfl, bel HB0.out (bel HB1.out (bel HB2.out (bel HB3.out hb3)))⟩
end Go.Proofs.YtfcongggmjijfaaDoor
