/- Layer 19: the document's dump of a waveform that may be. -/
import Derived.Test.YtodpljgajjcdoaaGreatDoorDE
import Derived.Deep.LoopGhost
namespace Go.Proofs.YtodpljgajjcdoaaGreatDoor
set_option maxRecDepth 100000
open Go.RowKit Lg Nl Go.Maps Wf Vd
set_option linter.unusedVariables false
set_option linter.unusedSimpArgs false

theorem emp_yes {s : ByteArray} (h : s.size = 0) : s.toList.isEmpty = true := by
  rw [toL]
  have h2 : (L s).length = 0 := by rw [len_L]; exact h
  rw [List.eq_nil_of_length_eq_zero h2]
  rfl
theorem emp_no {s : ByteArray} (h : ¬ s.size = 0) : s.toList.isEmpty = false := by
  rw [toL]
  have h2 : ¬ (L s).length = 0 := by rw [len_L]; exact h
  cases e : L s with
  | nil => rw [e] at h2; exact absurd rfl h2
  | cons a b => rfl
theorem ints_lt {w : World} {g o n c : Nat} {l : List Int} (h : IntsAt w (.slice (some ⟨g, o, none⟩) n c) l) (i : Nat) (hi : i < l.length) : g < w.heap.size := by
  obtain ⟨g', o', e, h1, _⟩ := IntsAt.at_ h i hi
  injection e with e
  injection e with e1
  rw [e1]; exact h1
set_option maxHeartbeats 8000000 in
set_option maxRecDepth 100000 in
theorem rText_c (x : Wv) (vn vw vf vl : Value) (w : World) (hx : WvAt w vn vw vf vl x) (hm : Nice x) (hz : Sz x) (hl : x.li.length ≤ 100000000) (hp : PowT w) :
    Calls Tryz.prog 26 #[.agg #[vn, vw, vf, vl]] w fun e w' => e = .returned (.tuple #[.string (S (if undB x then [] else textL x)), .bool (!undB x)]) ∧ Below w.heap.size w w' := by
  obtain ⟨T, hT⟩ : ∃ T, T = S (if undB x then [] else textL x) := ⟨_, rfl⟩
  obtain ⟨o, ho⟩ : ∃ o, o = !undB x := ⟨_, rfl⟩
  rw [← hT, ← ho]
  have HT : Hid (T = S (if undB x then [] else textL x)) := hT
  have HOo : Hid (o = !undB x) := ho
  clear hT ho
  have HA : Hid (WvAt w vn vw vf vl x) := hx
  have HM : Hid (Nice x) := hm
  have HZ : Hid (Sz x) := hz
  have HLl : Hid (x.li.length ≤ 100000000) := hl
  obtain ⟨an, cn, rfl, _, _⟩ := hx.nm
  obtain ⟨aw, cw, rfl, _, _⟩ := hx.wd
  obtain ⟨af, cf, rfl, _, _⟩ := hx.fi
  obtain ⟨al, cl, rfl, _, _⟩ := hx.li
  clear hx hm hz hl
  obtain ⟨W0, hW0⟩ : ∃ W0, W0 = w.alloc (.cells #[.slice an x.nm.length cn, .slice aw x.wd.length cw, .slice af x.fi.length cf, .slice al x.li.length cl] 27) := ⟨_, rfl⟩
  have HB0 : Hid (Below w.heap.size w W0) := by rw [hW0]; exact belA (Below.refl _ _) _
  have HX0 : Hid (W0.heap[w.heap.size]? = some (.cells #[.slice an x.nm.length cn, .slice aw x.wd.length cw, .slice af x.fi.length cf, .slice al x.li.length cl] 27 (0, 0))) := by rw [hW0]; exact alAt rfl
  have HA0 : Hid (WvAt W0 (.slice an x.nm.length cn) (.slice aw x.wd.length cw) (.slice af x.fi.length cf) (.slice al x.li.length cl) x) := HA.out.below HB0.out
  have HP0 : Hid (PowT W0) := hp.bel HB0.out
  clear hp
  go_enter Tryz.func26, Tryz.ntmps26
  go_upto_region 1 with fail
  rw [← hW0]
  clear hW0 HA
  have lb := hLt HX0.out
  obtain ⟨E, hE⟩ : ∃ E, E = w.heap.size := ⟨_, rfl⟩
  rw [← hE] at HX0 lb ⊢
  have HE : Hid (E = w.heap.size) := hE
  clear hE
  have HBw : Hid (∀ X, Below W0.heap.size W0 X → Below w.heap.size w X) := fun X hX => bel HB0.out hX
  have HN0 := hidV (Ob.nil W0.heap.size W0)
  go_upto_region 3 with (first
    | (at_builtin; refine app_str rfl _ _ rfl W0.heap.size none 0 0 [] rfl HN0.out _ rfl (by decide) (Nat.le_refl _) ?_; intro a1 n1 c1 w1 HO1' HN1' hb1 hg1; have HO1 : Hid (Ob W0.heap.size w1 a1 n1 c1 headT) := HO1'; have HN1 : Hid (n1 = 44) := HN1'; have HB1 : Hid (Below W0.heap.size W0 w1) := hb1; clear HO1' HN1' hb1 hg1))
  clear HN0
  go_upto_region 4 with fail
  go_loopg [4, 5] x.nm.length (fun g s4 s5 wr => ∃ (i : Nat) (a : Option Addr) (m c : Nat), i ≤ x.nm.length ∧ g = x.nm.length - i ∧ s4 = .slice a m c ∧ s5 = .int .i64 i ∧ Hid (Ob W0.heap.size wr a m c (headT ++ varsL x i)) ∧ Hid (m ≤ 44 + 300 * i) ∧ Hid (∀ j, j < i → L (sA x.nm j) ≠ [95]) ∧ Hid (Below W0.heap.size W0 wr))
  case atStart => exact ⟨0, a1, n1, c1, Nat.zero_le _, rfl, rfl, rfl, HO1.out, by show n1 ≤ _; rw [HN1.out]; omega, fun j hj => absurd hj (Nat.not_lt_zero _), HB1.out⟩
  case round =>
    obtain ⟨i, a, m, c, hi, rfl, rfl, rfl, HO, HMl, HNo, HB⟩ := hrel
    obtain ⟨wx, hwx⟩ : ∃ wx, wx = wr := ⟨_, rfl⟩
    rw [← hwx] at HO HB ⊢
    clear hwx
    obtain ⟨b0, b1, b2, b3⟩ := cells4 ((HB.out.block E lb).trans HX0.out)
    have lbx := Nat.lt_of_lt_of_le lb HB.out.size
    have hA := HA0.out.below HB.out
    by_cases hin : i < x.nm.length
    · obtain ⟨gn, on, rfl, hgn, en⟩ := hA.nm.at_ i hin
      obtain ⟨gw, ow, rfl, hgw, ew⟩ := IntsAt.at_ hA.wd i (by have := HM.out.lw; omega)
      have hs1 : (sA x.nm i).size ≤ 256 := HM.out.nm i hin
      have hwd := HM.out.wd i hin
      have i0 : (0 : Int) ≤ (i : Int) := by omega
      have i1 : (i : Int) < (x.nm.length : Int) := by omega
      have i2 : (i : Int) < (x.wd.length : Int) := by have := HM.out.lw; omega
      have HIn : Hid (i < x.nm.length ∧ i < 4096) := ⟨hin, by have := HM.out.ln; omega⟩
      have HVl : Hid (varsL x (i + 1) = varsL x i ++ varL x i) := varsL_succ x i
      have HVi : Hid (varL x i = varT ++ (Lib.itoa (iA x.wd i) ++ (32 :: (codeL i ++ (32 :: (nmT (sA x.nm i) ++ endT)))))) := rfl
      have HUy : Hid (L (sA x.nm i) = [95] → undB x = true) := und_yes hin
      have HUn : Hid (L (sA x.nm i) ≠ [95] → ∀ j, j < i + 1 → L (sA x.nm j) ≠ [95]) := fun h j hj => by
        rcases Nat.lt_or_ge j i with e | e
        · exact HNo.out j e
        · rw [show j = i by omega]; exact h
      clear hA
      generalize sA x.nm i = s1 at *
      generalize iA x.wd i = z at *
      have HIt : Hid (∀ W, PowT W → Calls Tryz.prog 45 #[.int .i64 z] W fun e w' => e = .returned (.string (S (Lib.itoa z))) ∧ Below W.heap.size W w') := fun W h => itoa_c z W hwd.1 (by omega) h
      have HCd : Hid (∀ W, Calls Tryz.prog 41 #[.int .i64 i] W fun e w' => e = .returned (.string (S (codeL i))) ∧ Below W.heap.size W w') := fun W => rCode_c i W HIn.out.2
      have HIl : Hid ((S (Lib.itoa z)).size ≤ 21) := by show (S _).size ≤ 21; rw [size_S]; exact itoa_len z hwd.1 (by omega)
      have HCl : Hid ((S (codeL i)).size ≤ 2) := by show (S _).size ≤ 2; rw [size_S]; exact (codeL_len i).2
      have HSl : Hid (s1.size ≤ 256) := hs1
      clear hs1 hwd
      by_cases hu : L s1 = [95]
      · have hu' : (s1.toList == [95]) = true := by rw [beq_iff_eq, toL]; exact hu
        have HY : Hid (undB x = true) := HUy.out hu
        clear hu
        go_wp2_with fail
        go_ret2
        exact ⟨by rw [HT.out, HOo.out, HY.out]; rfl, HBw.out _ HB.out⟩
      · have hu' : (s1.toList == [95]) = false := by rw [beq_eq_false_iff_ne, toL]; exact hu
        have HY : Hid (∀ j, j < i + 1 → L (sA x.nm j) ≠ [95]) := HUn.out hu
        clear hu
        have HGw : Hid (gw < W0.heap.size) := ints_lt HA0.out.wd i (by have := HM.out.lw; have := HIn.out.1; omega)
        by_cases h0 : s1.size = 0
        · have h0' : s1.toList.isEmpty = true := emp_yes h0
          have HQe : Hid (L (⟨#[95]⟩ : ByteArray) = nmT s1) := (if_pos h0).symm
          have HQl : Hid ((⟨#[95]⟩ : ByteArray).size ≤ 256) := by show (1 : Nat) ≤ 256; decide
          clear h0
          go_upto_region 11 with fail
          go_upto_region 12 with (first
            | (at_builtin; refine app_str rfl _ _ rfl W0.heap.size a m c (headT ++ varsL x i) rfl HO.out _ rfl (by have := HMl.out; have := HIn.out.2; show m + 10 ≤ _; omega) HB.out.size ?_; intro a2 n2 c2 w2 HO2' HN2' hb2 hg2; have HO2 : Hid (Ob W0.heap.size w2 a2 n2 c2 (headT ++ varsL x i ++ varT)) := HO2'; have HN2 : Hid (n2 = m + 10) := HN2'; have HB2 : Hid (Below W0.heap.size wx w2) := hb2; clear HO2' HN2' hb2 hg2))
          have HBb : Hid (Below W0.heap.size W0 w2) := HB.out.trans HB2.out
          clear b0 b1 b2 b3 en
          obtain ⟨b0, b1, b2, b3⟩ := cells4 ((HBb.out.block E lb).trans HX0.out)
          have lb2 := Nat.lt_of_lt_of_le lb HBb.out.size
          have ew2 := (HB2.out.cell (p := ⟨gw, ow + i, none⟩) HGw.out).trans ew
          clear ew
          go_upto_region 13 with (first
            | (go_at_call 45; refine (HIt.out _ (HP0.out.bel HBb.out)).mono ?_; rintro e w3 ⟨rfl, hb3⟩; have HB3 : Hid (Below w2.heap.size w2 w3) := hb3; clear hb3; have HBc : Hid (Below W0.heap.size W0 w3) := bel HBb.out HB3.out)
            | (at_builtin; refine app_str rfl _ _ rfl W0.heap.size a2 n2 c2 (headT ++ varsL x i ++ varT) rfl (HO2.out.below HB3.out) (S (Lib.itoa z)) rfl (by have := HMl.out; have := HIn.out.2; have := HN2.out; have := HIl.out; omega) HBc.out.size ?_; intro a4 n4 c4 w4 HO4' HN4' hb4 hg4; have HO4 : Hid (Ob W0.heap.size w4 a4 n4 c4 (headT ++ varsL x i ++ varT ++ L (S (Lib.itoa z)))) := HO4'; have HN4 : Hid (n4 = n2 + (S (Lib.itoa z)).size) := HN4'; have HB4 : Hid (Below W0.heap.size W0 w4) := HBc.out.trans hb4; clear HO4' HN4' hb4 hg4))
          clear b0 b1 b2 b3 lb2 ew2
          go_upto_region 14 with (first
            | (at_builtin; refine app_byte rfl _ _ rfl W0.heap.size a4 n4 c4 (headT ++ varsL x i ++ varT ++ L (S (Lib.itoa z))) 32 32 rfl rfl HO4.out rfl (by have := HMl.out; have := HIn.out.2; have := HN2.out; have := HIl.out; have := HN4.out; omega) HB4.out.size ?_; intro a5 n5 c5 w5 HO5' HN5' hb5 hg5; have HO5 : Hid (Ob W0.heap.size w5 a5 n5 c5 (headT ++ varsL x i ++ varT ++ L (S (Lib.itoa z)) ++ [32])) := HO5'; have HN5 : Hid (n5 = n4 + 1) := HN5'; have HB5 : Hid (Below W0.heap.size W0 w5) := HB4.out.trans hb5; clear HO5' HN5' hb5 hg5))
          go_upto_region 15 with (first
            | (go_at_call 41; refine (HCd.out _).mono ?_; rintro e w6 ⟨rfl, hb6⟩; have HB6 : Hid (Below w5.heap.size w5 w6) := hb6; clear hb6; have HBd : Hid (Below W0.heap.size W0 w6) := bel HB5.out HB6.out)
            | (at_builtin; refine app_str rfl _ _ rfl W0.heap.size a5 n5 c5 (headT ++ varsL x i ++ varT ++ L (S (Lib.itoa z)) ++ [32]) rfl (HO5.out.below HB6.out) (S (codeL i)) rfl (by have := HMl.out; have := HIn.out.2; have := HN2.out; have := HIl.out; have := HN4.out; have := HN5.out; have := HCl.out; omega) HBd.out.size ?_; intro a7 n7 c7 w7 HO7' HN7' hb7 hg7; have HO7 : Hid (Ob W0.heap.size w7 a7 n7 c7 (headT ++ varsL x i ++ varT ++ L (S (Lib.itoa z)) ++ [32] ++ L (S (codeL i)))) := HO7'; have HN7 : Hid (n7 = n5 + (S (codeL i)).size) := HN7'; have HB7 : Hid (Below W0.heap.size W0 w7) := HBd.out.trans hb7; clear HO7' HN7' hb7 hg7))
          go_upto_region 16 with (first
            | (at_builtin; refine app_byte rfl _ _ rfl W0.heap.size a7 n7 c7 (headT ++ varsL x i ++ varT ++ L (S (Lib.itoa z)) ++ [32] ++ L (S (codeL i))) 32 32 rfl rfl HO7.out rfl (by have := HMl.out; have := HIn.out.2; have := HN2.out; have := HIl.out; have := HN4.out; have := HN5.out; have := HCl.out; have := HN7.out; omega) HB7.out.size ?_; intro a8 n8 c8 w8 HO8' HN8' hb8 hg8; have HO8 : Hid (Ob W0.heap.size w8 a8 n8 c8 (headT ++ varsL x i ++ varT ++ L (S (Lib.itoa z)) ++ [32] ++ L (S (codeL i)) ++ [32])) := HO8'; have HN8 : Hid (n8 = n7 + 1) := HN8'; have HB8 : Hid (Below W0.heap.size W0 w8) := HB7.out.trans hb8; clear HO8' HN8' hb8 hg8))
          go_upto_region 17 with (first
            | (at_builtin; refine app_str rfl _ _ rfl W0.heap.size a8 n8 c8 (headT ++ varsL x i ++ varT ++ L (S (Lib.itoa z)) ++ [32] ++ L (S (codeL i)) ++ [32]) rfl HO8.out (⟨#[95]⟩ : ByteArray) rfl (by have := HMl.out; have := HIn.out.2; have := HN2.out; have := HIl.out; have := HN4.out; have := HN5.out; have := HCl.out; have := HN7.out; have := HN8.out; have := HQl.out; omega) HB8.out.size ?_; intro a9 n9 c9 w9 HO9' HN9' hb9 hg9; have HO9 : Hid (Ob W0.heap.size w9 a9 n9 c9 (headT ++ varsL x i ++ varT ++ L (S (Lib.itoa z)) ++ [32] ++ L (S (codeL i)) ++ [32] ++ L (⟨#[95]⟩ : ByteArray))) := HO9'; have HN9 : Hid (n9 = n8 + ((⟨#[95]⟩ : ByteArray)).size) := HN9'; have HB9 : Hid (Below W0.heap.size W0 w9) := HB8.out.trans hb9; clear HO9' HN9' hb9 hg9))
          go_upto_region 5 with (first
            | (at_builtin; refine app_str rfl _ _ rfl W0.heap.size a9 n9 c9 (headT ++ varsL x i ++ varT ++ L (S (Lib.itoa z)) ++ [32] ++ L (S (codeL i)) ++ [32] ++ L (⟨#[95]⟩ : ByteArray)) rfl HO9.out _ rfl (by have := HMl.out; have := HIn.out.2; have := HN2.out; have := HIl.out; have := HN4.out; have := HN5.out; have := HCl.out; have := HN7.out; have := HN8.out; have := HQl.out; have := HN9.out; show n9 + 6 ≤ _; omega) HB9.out.size ?_; intro aa na ca wa HOa' HNa' hba hga; have HOa : Hid (Ob W0.heap.size wa aa na ca (headT ++ varsL x i ++ varT ++ L (S (Lib.itoa z)) ++ [32] ++ L (S (codeL i)) ++ [32] ++ L (⟨#[95]⟩ : ByteArray) ++ endT)) := HOa'; have HNa : Hid (na = n9 + 6) := HNa'; have HBa : Hid (Below W0.heap.size W0 wa) := HB9.out.trans hba; clear HOa' HNa' hba hga))
          go_wp2_with fail
          go_roundg (x.nm.length - (i + 1))
          case measure => have := HIn.out; omega
          case rel =>
            refine ⟨i + 1, aa, na, ca, HIn.out.1, rfl, rfl, wrap_succ (n := 4096) HIn.out.2 (by decide), ?_, ?_, HY.out, HBa.out⟩
            · have h := HOa.out
              show Ob _ _ _ _ _ _
              rw [HVl.out, HVi.out]
              rw [L_S, L_S, HQe.out] at h
              simp only [List.append_assoc, List.cons_append, List.nil_append] at h ⊢
              exact h
            · have := HMl.out; have := HN2.out; have := HIl.out; have := HN4.out; have := HN5.out; have := HCl.out; have := HN7.out; have := HN8.out; have := HQl.out; have := HN9.out; have := HNa.out; show na ≤ _; omega
        · have h0' : s1.toList.isEmpty = false := emp_no h0
          have HQe : Hid (L s1 = nmT s1) := (if_neg h0).symm
          have HQl : Hid (s1.size ≤ 256) := HSl.out
          clear h0
          go_upto_region 11 with fail
          go_upto_region 12 with (first
            | (at_builtin; refine app_str rfl _ _ rfl W0.heap.size a m c (headT ++ varsL x i) rfl HO.out _ rfl (by have := HMl.out; have := HIn.out.2; show m + 10 ≤ _; omega) HB.out.size ?_; intro a2 n2 c2 w2 HO2' HN2' hb2 hg2; have HO2 : Hid (Ob W0.heap.size w2 a2 n2 c2 (headT ++ varsL x i ++ varT)) := HO2'; have HN2 : Hid (n2 = m + 10) := HN2'; have HB2 : Hid (Below W0.heap.size wx w2) := hb2; clear HO2' HN2' hb2 hg2))
          have HBb : Hid (Below W0.heap.size W0 w2) := HB.out.trans HB2.out
          clear b0 b1 b2 b3 en
          obtain ⟨b0, b1, b2, b3⟩ := cells4 ((HBb.out.block E lb).trans HX0.out)
          have lb2 := Nat.lt_of_lt_of_le lb HBb.out.size
          have ew2 := (HB2.out.cell (p := ⟨gw, ow + i, none⟩) HGw.out).trans ew
          clear ew
          go_upto_region 13 with (first
            | (go_at_call 45; refine (HIt.out _ (HP0.out.bel HBb.out)).mono ?_; rintro e w3 ⟨rfl, hb3⟩; have HB3 : Hid (Below w2.heap.size w2 w3) := hb3; clear hb3; have HBc : Hid (Below W0.heap.size W0 w3) := bel HBb.out HB3.out)
            | (at_builtin; refine app_str rfl _ _ rfl W0.heap.size a2 n2 c2 (headT ++ varsL x i ++ varT) rfl (HO2.out.below HB3.out) (S (Lib.itoa z)) rfl (by have := HMl.out; have := HIn.out.2; have := HN2.out; have := HIl.out; omega) HBc.out.size ?_; intro a4 n4 c4 w4 HO4' HN4' hb4 hg4; have HO4 : Hid (Ob W0.heap.size w4 a4 n4 c4 (headT ++ varsL x i ++ varT ++ L (S (Lib.itoa z)))) := HO4'; have HN4 : Hid (n4 = n2 + (S (Lib.itoa z)).size) := HN4'; have HB4 : Hid (Below W0.heap.size W0 w4) := HBc.out.trans hb4; clear HO4' HN4' hb4 hg4))
          clear b0 b1 b2 b3 lb2 ew2
          go_upto_region 14 with (first
            | (at_builtin; refine app_byte rfl _ _ rfl W0.heap.size a4 n4 c4 (headT ++ varsL x i ++ varT ++ L (S (Lib.itoa z))) 32 32 rfl rfl HO4.out rfl (by have := HMl.out; have := HIn.out.2; have := HN2.out; have := HIl.out; have := HN4.out; omega) HB4.out.size ?_; intro a5 n5 c5 w5 HO5' HN5' hb5 hg5; have HO5 : Hid (Ob W0.heap.size w5 a5 n5 c5 (headT ++ varsL x i ++ varT ++ L (S (Lib.itoa z)) ++ [32])) := HO5'; have HN5 : Hid (n5 = n4 + 1) := HN5'; have HB5 : Hid (Below W0.heap.size W0 w5) := HB4.out.trans hb5; clear HO5' HN5' hb5 hg5))
          go_upto_region 15 with (first
            | (go_at_call 41; refine (HCd.out _).mono ?_; rintro e w6 ⟨rfl, hb6⟩; have HB6 : Hid (Below w5.heap.size w5 w6) := hb6; clear hb6; have HBd : Hid (Below W0.heap.size W0 w6) := bel HB5.out HB6.out)
            | (at_builtin; refine app_str rfl _ _ rfl W0.heap.size a5 n5 c5 (headT ++ varsL x i ++ varT ++ L (S (Lib.itoa z)) ++ [32]) rfl (HO5.out.below HB6.out) (S (codeL i)) rfl (by have := HMl.out; have := HIn.out.2; have := HN2.out; have := HIl.out; have := HN4.out; have := HN5.out; have := HCl.out; omega) HBd.out.size ?_; intro a7 n7 c7 w7 HO7' HN7' hb7 hg7; have HO7 : Hid (Ob W0.heap.size w7 a7 n7 c7 (headT ++ varsL x i ++ varT ++ L (S (Lib.itoa z)) ++ [32] ++ L (S (codeL i)))) := HO7'; have HN7 : Hid (n7 = n5 + (S (codeL i)).size) := HN7'; have HB7 : Hid (Below W0.heap.size W0 w7) := HBd.out.trans hb7; clear HO7' HN7' hb7 hg7))
          go_upto_region 16 with (first
            | (at_builtin; refine app_byte rfl _ _ rfl W0.heap.size a7 n7 c7 (headT ++ varsL x i ++ varT ++ L (S (Lib.itoa z)) ++ [32] ++ L (S (codeL i))) 32 32 rfl rfl HO7.out rfl (by have := HMl.out; have := HIn.out.2; have := HN2.out; have := HIl.out; have := HN4.out; have := HN5.out; have := HCl.out; have := HN7.out; omega) HB7.out.size ?_; intro a8 n8 c8 w8 HO8' HN8' hb8 hg8; have HO8 : Hid (Ob W0.heap.size w8 a8 n8 c8 (headT ++ varsL x i ++ varT ++ L (S (Lib.itoa z)) ++ [32] ++ L (S (codeL i)) ++ [32])) := HO8'; have HN8 : Hid (n8 = n7 + 1) := HN8'; have HB8 : Hid (Below W0.heap.size W0 w8) := HB7.out.trans hb8; clear HO8' HN8' hb8 hg8))
          go_upto_region 17 with (first
            | (at_builtin; refine app_str rfl _ _ rfl W0.heap.size a8 n8 c8 (headT ++ varsL x i ++ varT ++ L (S (Lib.itoa z)) ++ [32] ++ L (S (codeL i)) ++ [32]) rfl HO8.out s1 rfl (by have := HMl.out; have := HIn.out.2; have := HN2.out; have := HIl.out; have := HN4.out; have := HN5.out; have := HCl.out; have := HN7.out; have := HN8.out; have := HQl.out; omega) HB8.out.size ?_; intro a9 n9 c9 w9 HO9' HN9' hb9 hg9; have HO9 : Hid (Ob W0.heap.size w9 a9 n9 c9 (headT ++ varsL x i ++ varT ++ L (S (Lib.itoa z)) ++ [32] ++ L (S (codeL i)) ++ [32] ++ L s1)) := HO9'; have HN9 : Hid (n9 = n8 + (s1).size) := HN9'; have HB9 : Hid (Below W0.heap.size W0 w9) := HB8.out.trans hb9; clear HO9' HN9' hb9 hg9))
          go_upto_region 5 with (first
            | (at_builtin; refine app_str rfl _ _ rfl W0.heap.size a9 n9 c9 (headT ++ varsL x i ++ varT ++ L (S (Lib.itoa z)) ++ [32] ++ L (S (codeL i)) ++ [32] ++ L s1) rfl HO9.out _ rfl (by have := HMl.out; have := HIn.out.2; have := HN2.out; have := HIl.out; have := HN4.out; have := HN5.out; have := HCl.out; have := HN7.out; have := HN8.out; have := HQl.out; have := HN9.out; show n9 + 6 ≤ _; omega) HB9.out.size ?_; intro aa na ca wa HOa' HNa' hba hga; have HOa : Hid (Ob W0.heap.size wa aa na ca (headT ++ varsL x i ++ varT ++ L (S (Lib.itoa z)) ++ [32] ++ L (S (codeL i)) ++ [32] ++ L s1 ++ endT)) := HOa'; have HNa : Hid (na = n9 + 6) := HNa'; have HBa : Hid (Below W0.heap.size W0 wa) := HB9.out.trans hba; clear HOa' HNa' hba hga))
          go_wp2_with fail
          go_roundg (x.nm.length - (i + 1))
          case measure => have := HIn.out; omega
          case rel =>
            refine ⟨i + 1, aa, na, ca, HIn.out.1, rfl, rfl, wrap_succ (n := 4096) HIn.out.2 (by decide), ?_, ?_, HY.out, HBa.out⟩
            · have h := HOa.out
              show Ob _ _ _ _ _ _
              rw [HVl.out, HVi.out]
              rw [L_S, L_S, HQe.out] at h
              simp only [List.append_assoc, List.cons_append, List.nil_append] at h ⊢
              exact h
            · have := HMl.out; have := HN2.out; have := HIl.out; have := HN4.out; have := HN5.out; have := HCl.out; have := HN7.out; have := HN8.out; have := HQl.out; have := HN9.out; have := HNa.out; show na ≤ _; omega
    · have hie : i = x.nm.length := by omega
      have i5 : ¬ (i : Int) < (x.nm.length : Int) := by omega
      have HUn : Hid (undB x = false) := und_no fun j hj => HNo.out j (by omega)
      have HO' : Hid (Ob W0.heap.size wx a m c (headT ++ varsL x x.nm.length)) := by have h := HO.out; rw [hie] at h; exact h
      have HMk : Hid (m ≤ 1228844) := by have h := HMl.out; have := HM.out.ln; show m ≤ _; omega
      clear hin hie hA HO HMl HNo
      go_upto_region 19 with (first
        | (at_builtin; refine app_str rfl _ _ rfl W0.heap.size a m c (headT ++ varsL x x.nm.length) rfl HO'.out _ rfl (by have := HMk.out; show m + 45 ≤ _; omega) HB.out.size ?_; intro a2 n2 c2 w2 HO2' HN2' hb2 hg2; have HO2 : Hid (Ob W0.heap.size w2 a2 n2 c2 (headT ++ varsL x x.nm.length ++ midT)) := HO2'; have HN2 : Hid (n2 = m + 45) := HN2'; have HB2 : Hid (Below W0.heap.size W0 w2) := HB.out.trans hb2; clear HO2' HN2' hb2 hg2))
      have HM2 : Hid (n2 ≤ 1228889) := by have h := HN2.out; have := HMk.out; show n2 ≤ _; omega
      clear b0 b1 b2 b3 i5 HO' HMk HN2 lbx
      go_upto_region 20 with fail
      go_loopg [4, 7] x.fi.length (fun g s4 s7 wr => ∃ (i : Nat) (a : Option Addr) (m c : Nat), i ≤ x.fi.length ∧ g = x.fi.length - i ∧ s4 = .slice a m c ∧ s7 = .int .i64 i ∧ Hid (Ob W0.heap.size wr a m c (headT ++ varsL x x.nm.length ++ midT ++ firstL x i)) ∧ Hid (m ≤ 1228889 + 300 * i) ∧ Hid (Below W0.heap.size W0 wr))
      case atStart => exact ⟨0, a2, n2, c2, Nat.zero_le _, rfl, rfl, rfl, by have h := HO2.out; show Ob _ _ _ _ _ _; rw [show firstL x 0 = [] from rfl, List.append_nil]; exact h, by show n2 ≤ _; have := HM2.out; omega, HB2.out⟩
      case round =>
        obtain ⟨i, a, m, c, hi, rfl, rfl, rfl, HO, HMl, HB⟩ := hrel
        obtain ⟨wx, hwx⟩ : ∃ wx, wx = wr := ⟨_, rfl⟩
        rw [← hwx] at HO HB ⊢
        clear hwx
        obtain ⟨b0, b1, b2, b3⟩ := cells4 ((HB.out.block E lb).trans HX0.out)
        have lbx := Nat.lt_of_lt_of_le lb HB.out.size
        have hA := HA0.out.below HB.out
        by_cases hin : i < x.fi.length
        · obtain ⟨gf, of, rfl, hgf, ef⟩ := hA.fi.at_ i hin
          have i0 : (0 : Int) ≤ (i : Int) := by omega
          have i1 : (i : Int) < (x.fi.length : Int) := by omega
          have HIn : Hid (i < x.fi.length ∧ i < 4096) := ⟨hin, by have := HM.out.ln; have := HM.out.lf; omega⟩
          have HVl : Hid (firstL x (i + 1) = firstL x i ++ valL (sA x.fi i) i) := firstL_succ x i
          have HVs : Hid ((sA x.fi i).size ≤ 256) := HM.out.fi i (by have := HM.out.lf; omega)
          clear hA hin hi
          generalize sA x.fi i = s1 at *
          have HRv : Hid (∀ W, Calls Tryz.prog 46 #[.string s1, .int .i64 i] W fun e w' => e = .returned (.string (S (valL s1 i))) ∧ Below W.heap.size W w') := fun W => rValue_c s1 i W HIn.out.2 HVs.out
          have HVz : Hid ((S (valL s1 i)).size ≤ 261) := by show (S _).size ≤ 261; rw [size_S]; have := valL_len s1 i; have := HVs.out; omega
          go_wp2_with (first
            | (go_at_call 46; refine (HRv.out _).mono ?_; rintro e w3 ⟨rfl, hb3⟩; have HB3 : Hid (Below wx.heap.size wx w3) := hb3; clear hb3; have HBc : Hid (Below W0.heap.size W0 w3) := bel HB.out HB3.out)
            | (at_builtin; refine app_str rfl _ _ rfl W0.heap.size a m c (headT ++ varsL x x.nm.length ++ midT ++ firstL x i) rfl (HO.out.below HB3.out) (S (valL s1 i)) rfl (by have := HMl.out; have := HIn.out.2; have := HVz.out; omega) HBc.out.size ?_; intro a4 n4 c4 w4 HO4' HN4' hb4 hg4; have HO4 : Hid (Ob W0.heap.size w4 a4 n4 c4 (headT ++ varsL x x.nm.length ++ midT ++ firstL x i ++ L (S (valL s1 i)))) := HO4'; have HN4 : Hid (n4 = m + (S (valL s1 i)).size) := HN4'; have HB4 : Hid (Below W0.heap.size W0 w4) := HBc.out.trans hb4; clear HO4' HN4' hb4 hg4))
          go_roundg (x.fi.length - (i + 1))
          case measure => have := HIn.out; omega
          case rel =>
            refine ⟨i + 1, a4, n4, c4, HIn.out.1, rfl, rfl, wrap_succ (n := 4096) HIn.out.2 (by decide), ?_, ?_, HB4.out⟩
            · have h := HO4.out
              show Ob _ _ _ _ _ _
              rw [HVl.out]
              rw [L_S] at h
              rw [← List.append_assoc]
              exact h
            · have := HMl.out; have := HN4.out; have := HVz.out; show n4 ≤ _; omega
        · have hie : i = x.fi.length := by omega
          have i5 : ¬ (i : Int) < (x.fi.length : Int) := by omega
          have HO' : Hid (Ob W0.heap.size wx a m c (headT ++ varsL x x.nm.length ++ midT ++ firstL x x.fi.length)) := by have h := HO.out; rw [hie] at h; exact h
          have HMk : Hid (m ≤ 2457689) := by have h := HMl.out; have := HM.out.ln; have := HM.out.lf; show m ≤ _; omega
          clear hin hie hA HO HMl HO2 HM2
          go_upto_region 24 with (first
            | (at_builtin; refine app_str rfl _ _ rfl W0.heap.size a m c (headT ++ varsL x x.nm.length ++ midT ++ firstL x x.fi.length) rfl HO'.out _ rfl (by have := HMk.out; show m + 5 ≤ _; omega) HB.out.size ?_; intro a2 n2 c2 w2 HO2' HN2' hb2 hg2; have HO2 : Hid (Ob W0.heap.size w2 a2 n2 c2 (headT ++ varsL x x.nm.length ++ midT ++ firstL x x.fi.length ++ doneT)) := HO2'; have HN2 : Hid (n2 = m + 5) := HN2'; have HB2 : Hid (Below W0.heap.size W0 w2) := HB.out.trans hb2; clear HO2' HN2' hb2 hg2))
          have HM2 : Hid (n2 ≤ 2457694) := by have h := HN2.out; have := HMk.out; show n2 ≤ _; omega
          have HOt : Hid (Ob W0.heap.size w2 a2 n2 c2 (topL x)) := by
            have h := HO2.out
            show Ob _ _ _ _ _ _
            unfold topL
            simp only [List.append_assoc] at h
            exact h
          clear b0 b1 b2 b3 i5 HO' HMk HN2 HO2 lbx
          go_upto_region 25 with fail
          go_loopg [4, 8] x.li.length (fun g s4 s8 wr => ∃ (i : Nat) (a : Option Addr) (m c : Nat), i ≤ x.li.length ∧ g = x.li.length - i ∧ s4 = .slice a m c ∧ s8 = .int .i64 i ∧ Hid (Ob W0.heap.size wr a m c (topL x ++ listL none (x.li.take i))) ∧ Hid (m ≤ 2457694 + 300 * i) ∧ Hid (Below W0.heap.size W0 wr))
          case atStart => exact ⟨0, a2, n2, c2, Nat.zero_le _, rfl, rfl, rfl, by have h := HOt.out; show Ob _ _ _ _ _ _; rw [List.take_zero, show listL none [] = [] from rfl, List.append_nil]; exact h, by show n2 ≤ _; have := HM2.out; omega, HB2.out⟩
          case round =>
            obtain ⟨i, a, m, c, hi, rfl, rfl, rfl, HO, HMl, HB⟩ := hrel
            obtain ⟨wx, hwx⟩ : ∃ wx, wx = wr := ⟨_, rfl⟩
            rw [← hwx] at HO HB ⊢
            clear hwx
            obtain ⟨b0, b1, b2, b3⟩ := cells4 ((HB.out.block E lb).trans HX0.out)
            have lbx := Nat.lt_of_lt_of_le lb HB.out.size
            have hA := HA0.out.below HB.out
            by_cases hin : i < x.li.length
            · obtain ⟨gl, ol, rfl, hgl, c0, c1, c2'⟩ := hA.li.at_ i hin
              have hmi := HM.out.li i hin
              have i0 : (0 : Int) ≤ (i : Int) := by omega
              have i1 : (i : Int) < (x.li.length : Int) := by omega
              have HIn : Hid (i < x.li.length ∧ i < 100000000) := ⟨hin, by have := HLl.out; omega⟩
              have HTk := hidV (listL_app (x.li.take i) [cA x.li i] none)
              have HTe : Hid (x.li.take (i + 1) = x.li.take i ++ [cA x.li i]) := by show _ = _; rw [List.take_add_one, List.getElem?_eq_getElem hin, cA_at hin]; rfl
              rw [← HTe.out] at HTk
              have HPv : Hid ((i = 0 → lastT none (x.li.take i) = none) ∧ (∀ k, i = k + 1 → lastT none (x.li.take i) = some (cA x.li k).t)) := by
                refine ⟨fun h => by rw [h]; rfl, fun k h => ?_⟩
                subst h
                rw [List.take_add_one, List.getElem?_eq_getElem (by omega : k < x.li.length), cA_at (by omega : k < x.li.length)]
                exact lastT_snoc _ _ _
              obtain ⟨lt0, hlt0⟩ : ∃ q, q = lastT none (x.li.take i) := ⟨_, rfl⟩
              rw [← hlt0] at HTk HPv
              clear hlt0
              obtain ⟨y, hy⟩ : ∃ y, y = cA x.li i := ⟨_, rfl⟩
              rw [← hy] at c0 c1 c2' hmi HTk
              clear hy HTe
              obtain ⟨yt, yn, yv⟩ := y
              simp only at c0 c1 c2' hmi
              obtain ⟨kn, rfl⟩ : ∃ kn : Nat, yn = (kn : Int) := ⟨yn.toNat, by omega⟩
              have HTm : Hid (listL none (x.li.take (i + 1)) = listL none (x.li.take i) ++ (timeL lt0 yt ++ valL yv kn)) := by
                have h := HTk.out
                have e : listL lt0 [⟨yt, (kn : Int), yv⟩] = timeL lt0 yt ++ valL yv kn := by show timeL lt0 yt ++ (valL yv (kn : Int).toNat ++ []) = _; rw [List.append_nil, Int.toNat_natCast]
                rw [e] at h
                exact h
              have HRv : Hid (∀ W, Calls Tryz.prog 46 #[.string yv, .int .i64 kn] W fun e w' => e = .returned (.string (S (valL yv kn))) ∧ Below W.heap.size W w') := fun W => rValue_c yv kn W (by omega) hmi.2.2
              have HVz : Hid ((S (valL yv kn)).size ≤ 261) := by show (S _).size ≤ 261; rw [size_S]; have := valL_len yv kn; omega
              have HIt : Hid (∀ W, PowT W → Calls Tryz.prog 45 #[.int .i64 yt] W fun e w' => e = .returned (.string (S (Lib.itoa yt))) ∧ Below W.heap.size W w') := fun W h => itoa_c yt W hmi.1.1 (by omega) h
              have HIl : Hid ((S (Lib.itoa yt)).size ≤ 21) := by show (S _).size ≤ 21; rw [size_S]; exact itoa_len yt hmi.1.1 (by omega)
              clear hmi HTk hi hin
              obtain ⟨W6, hW6⟩ : ∃ W6, W6 = wx.alloc (.cells #[.int .i64 yt, .int .i64 (kn : Int), .string yv] 34) := ⟨_, rfl⟩
              have HB6 : Hid (Below wx.heap.size wx W6) := by rw [hW6]; exact belA (Below.refl _ _) _
              have HF6 : Hid (W6.heap[wx.heap.size]? = some (.cells #[.int .i64 yt, .int .i64 (kn : Int), .string yv] 34 (0, 0))) := by rw [hW6]; exact alAt rfl
              go_upto_region 28 with fail
              rw [← hW6]
              clear hW6 c0 c1 c2' b0 b1 b2 b3 lbx
              obtain ⟨c0, c1, c2'⟩ := cells3n HF6.out
              have lF := hLt HF6.out
              have HBW : Hid (Below W0.heap.size W0 W6) := bel HB.out HB6.out
              have HO6 : Hid (Ob W0.heap.size W6 a m c (topL x ++ listL none (x.li.take i))) := HO.out.below HB6.out
              have HA6 : Hid (ChAt W6 (.slice (some ⟨gl, ol, none⟩) x.li.length cl) x.li) := (HA0.out.below HBW.out).li
              obtain ⟨b0, b1, b2, b3⟩ := cells4 ((HBW.out.block E lb).trans HX0.out)
              have lb6 := Nat.lt_of_lt_of_le lb HBW.out.size
              clear hA HB HB6 HO
              generalize wx.heap.size = F at c0 c1 c2' HF6 lF ⊢
              obtain ⟨tb, htb⟩ : ∃ tb : Bool, tb = decide (lt0 ≠ some yt) := ⟨_, rfl⟩
              have HTb : Hid (tb = decide (lt0 ≠ some yt)) := htb
              clear htb
              go_cut [105] from 92 to 123 (fun s105 wy => s105 = .bool tb ∧ Hid (Below W6.heap.size W6 wy))
              case first =>
                by_cases h0 : i = 0
                · have h0' : ((i : Int) == 0) = true := by rw [beq_iff_eq]; omega
                  have HY : Hid (tb = true) := by show tb = true; rw [HTb.out, HPv.out.1 h0]; exact decide_eq_true (by simp)
                  clear h0
                  go_quiet (fail)
                  go_wp2_with fail
                  go_meet
                  exact ⟨by rw [HY.out], bdn (Below.refl _ _) _⟩
                · obtain ⟨k, rfl⟩ : ∃ k, i = k + 1 := ⟨i - 1, by omega⟩
                  have h0' : (((k + 1 : Nat) : Int) == 0) = false := by rw [beq_eq_false_iff_ne]; omega
                  have h0'' : ((k : Int) + 1 == 0) = false := by rw [beq_eq_false_iff_ne]; omega
                  obtain ⟨g', o', eg, hgk, p0, p1, p2⟩ := HA6.out.at_ k (by have := HIn.out; omega)
                  injection eg with eg
                  injection eg with eg1 eg2
                  subst eg1 eg2
                  have k1 : (k : Int) < (x.li.length : Int) := by have := HIn.out; omega
                  have hwk : IntKind.i64.wrap (k : Int) = (k : Int) := by have := HIn.out; rw [IntKind.wrap_i64]; omega
                  have HPk : Hid (lt0 = some (cA x.li k).t) := HPv.out.2 k rfl
                  clear h0 HPv p1 p2
                  generalize (cA x.li k).t = pt at p0 HPk
                  by_cases ht : pt = yt
                  · have ht' : (pt != yt) = false := by rw [bne_eq_false_iff_eq]; exact ht
                    have HY : Hid (tb = false) := by show tb = false; rw [HTb.out, HPk.out, ht]; exact decide_eq_false (by simp)
                    clear ht
                    go_quiet (fail)
                    go_wp2_with fail
                    go_meet
                    exact ⟨by rw [HY.out], bdn (Below.refl _ _) _⟩
                  · have ht' : (pt != yt) = true := by rw [bne_iff_ne]; exact ht
                    have HY : Hid (tb = true) := by show tb = true; rw [HTb.out, HPk.out]; exact decide_eq_true (by simpa using ht)
                    clear ht
                    go_quiet (fail)
                    go_wp2_with fail
                    go_meet
                    exact ⟨by rw [HY.out], bdn (Below.refl _ _) _⟩
              case rest =>
                obtain ⟨rfl, HB7⟩ := hcut
                obtain ⟨w7, hw7⟩ : ∃ w7, w7 = wc := ⟨_, rfl⟩
                rw [← hw7] at HB7 ⊢
                clear hw7 b0 b1 b2 b3 c0 c1 c2' HPv HA6
                have HBX : Hid (Below W0.heap.size W0 w7) := bel HBW.out HB7.out
                have HO7 : Hid (Ob W0.heap.size w7 a m c (topL x ++ listL none (x.li.take i))) := HO6.out.below HB7.out
                have HF7 : Hid (w7.heap[F]? = some (.cells #[.int .i64 yt, .int .i64 (kn : Int), .string yv] 34 (0, 0))) := (HB7.out.block F lF).trans HF6.out
                obtain ⟨c0, c1, c2'⟩ := cells3n HF7.out
                have lF7 := hLt HF7.out
                clear HF6 HO6 HB7
                cases tb with
                | true =>
                  have HTy : Hid (timeL lt0 yt = 35 :: (Lib.itoa yt ++ [10])) := if_neg (of_decide_eq_true HTb.out.symm)
                  clear HTb
                  go_upto_region 30 with (first
                    | (at_builtin; refine app_byte rfl _ _ rfl W0.heap.size a m c (topL x ++ listL none (x.li.take i)) 35 35 rfl rfl HO7.out rfl (by have := HMl.out; have := HIn.out.2; omega) HBX.out.size ?_; intro a8 n8 c8 w8 HO8' HN8' hb8 hg8; have HO8 : Hid (Ob W0.heap.size w8 a8 n8 c8 (topL x ++ listL none (x.li.take i) ++ [35])) := HO8'; have HN8 : Hid (n8 = m + 1) := HN8'; have HB8 : Hid (Below W0.heap.size W0 w8) := HBX.out.trans hb8; have HG8 := hidV (hg8.out F lF7 (HO7.out.ne HF7.out (by decide))); clear HO8' HN8' hb8 hg8))
                  have HF8 : Hid (w8.heap[F]? = some (.cells #[.int .i64 yt, .int .i64 (kn : Int), .string yv] 34 (0, 0))) := HG8.out.trans HF7.out
                  clear c0 c1 c2' HG8 HF7 lF7
                  obtain ⟨c0, c1, c2'⟩ := cells3n HF8.out
                  have lF8 := hLt HF8.out
                  go_upto_region 31 with (first
                    | (go_at_call 45; refine (HIt.out _ (HP0.out.bel HB8.out)).mono ?_; rintro e w9 ⟨rfl, hb9⟩; have HB9 : Hid (Below w8.heap.size w8 w9) := hb9; clear hb9; have HBh : Hid (Below W0.heap.size W0 w9) := bel HB8.out HB9.out)
                    | (at_builtin; refine app_str rfl _ _ rfl W0.heap.size a8 n8 c8 (topL x ++ listL none (x.li.take i) ++ [35]) rfl (HO8.out.below HB9.out) (S (Lib.itoa yt)) rfl (by have := HMl.out; have := HIn.out.2; have := HN8.out; have := HIl.out; omega) HBh.out.size ?_; intro ai ni ci wi HOi' HNi' hbi hgi; have HOi : Hid (Ob W0.heap.size wi ai ni ci (topL x ++ listL none (x.li.take i) ++ [35] ++ L (S (Lib.itoa yt)))) := HOi'; have HNi : Hid (ni = n8 + (S (Lib.itoa yt)).size) := HNi'; have HBi : Hid (Below W0.heap.size W0 wi) := HBh.out.trans hbi; have HFi : Hid (wi.heap[F]? = some (.cells #[.int .i64 yt, .int .i64 (kn : Int), .string yv] 34 (0, 0))) := (hgi.out F (Nat.lt_of_lt_of_le lF8 HB9.out.size) ((HO8.out.below HB9.out).ne ((HB9.out.block F lF8).trans HF8.out) (by decide))).trans ((HB9.out.block F lF8).trans HF8.out); clear HOi' HNi' hbi hgi))
                  clear c0 c1 c2' HF8 lF8
                  have lFi := hLt HFi.out
                  go_upto_region 32 with (first
                    | (at_builtin; refine app_byte rfl _ _ rfl W0.heap.size ai ni ci (topL x ++ listL none (x.li.take i) ++ [35] ++ L (S (Lib.itoa yt))) 10 10 rfl rfl HOi.out rfl (by have := HMl.out; have := HIn.out.2; have := HN8.out; have := HIl.out; have := HNi.out; omega) HBi.out.size ?_; intro aj nj cj wj HOj' HNj' hbj hgj; have HOj : Hid (Ob W0.heap.size wj aj nj cj (topL x ++ listL none (x.li.take i) ++ [35] ++ L (S (Lib.itoa yt)) ++ [10])) := HOj'; have HNj : Hid (nj = ni + 1) := HNj'; have HBj : Hid (Below W0.heap.size W0 wj) := HBi.out.trans hbj; have HFj : Hid (wj.heap[F]? = some (.cells #[.int .i64 yt, .int .i64 (kn : Int), .string yv] 34 (0, 0))) := (hgj.out F lFi (HOi.out.ne HFi.out (by decide))).trans HFi.out; clear HOj' HNj' hbj hgj))
                  clear HFi lFi
                  obtain ⟨c0, c1, c2'⟩ := cells3n HFj.out
                  have lFj := hLt HFj.out
                  go_wp2_with (first
                    | (go_at_call 46; refine (HRv.out _).mono ?_; rintro e we ⟨rfl, hbe⟩; have HBe : Hid (Below wj.heap.size wj we) := hbe; clear hbe; have HBf : Hid (Below W0.heap.size W0 we) := bel HBj.out HBe.out)
                    | (at_builtin; refine app_str rfl _ _ rfl W0.heap.size _ _ _ (topL x ++ listL none (x.li.take i) ++ [35] ++ L (S (Lib.itoa yt)) ++ [10]) rfl (HOj.out.below HBe.out) (S (valL yv kn)) rfl (by have := HMl.out; have := HIn.out.2; have := HIl.out; have := HVz.out; have := HN8.out; have := HNi.out; have := HNj.out; omega) HBf.out.size ?_; intro af_ nf cf_ wf HOf' HNf' hbf hgf; have HOf : Hid (Ob W0.heap.size wf af_ nf cf_ (topL x ++ listL none (x.li.take i) ++ [35] ++ L (S (Lib.itoa yt)) ++ [10] ++ L (S (valL yv kn)))) := HOf'; have HNf : Hid (nf = nj + (S (valL yv kn)).size) := HNf'; have HBg : Hid (Below W0.heap.size W0 wf) := HBf.out.trans hbf; clear HOf' HNf' hbf hgf))
                  go_roundg (x.li.length - (i + 1))
                  case measure => have := HIn.out; omega
                  case rel =>
                    refine ⟨i + 1, af_, nf, cf_, HIn.out.1, rfl, rfl, wrap_succ (n := 100000000) HIn.out.2 (by decide), ?_, ?_, HBg.out⟩
                    · have h := HOf.out
                      show Ob _ _ _ _ _ _
                      rw [HTm.out, HTy.out]
                      rw [L_S, L_S] at h
                      simp only [List.append_assoc, List.cons_append, List.nil_append] at h ⊢
                      exact h
                    · have := HMl.out; have := HIn.out.2; have := HIl.out; have := HVz.out; have := HN8.out; have := HNi.out; have := HNj.out; have := HNf.out; show nf ≤ _; omega
                | false =>
                  have HTy : Hid (timeL lt0 yt = []) := if_pos (by have h := of_decide_eq_false HTb.out.symm; exact Classical.not_not.1 h)
                  clear HTb
                  go_upto_region 32 with fail
                  go_wp2_with (first
                    | (go_at_call 46; refine (HRv.out _).mono ?_; rintro e we ⟨rfl, hbe⟩; have HBe : Hid (Below w7.heap.size w7 we) := hbe; clear hbe; have HBf : Hid (Below W0.heap.size W0 we) := bel HBX.out HBe.out)
                    | (at_builtin; refine app_str rfl _ _ rfl W0.heap.size _ _ _ (topL x ++ listL none (x.li.take i)) rfl (HO7.out.below HBe.out) (S (valL yv kn)) rfl (by have := HMl.out; have := HIn.out.2; have := HIl.out; have := HVz.out;  omega) HBf.out.size ?_; intro af_ nf cf_ wf HOf' HNf' hbf hgf; have HOf : Hid (Ob W0.heap.size wf af_ nf cf_ (topL x ++ listL none (x.li.take i) ++ L (S (valL yv kn)))) := HOf'; have HNf : Hid (nf = m + (S (valL yv kn)).size) := HNf'; have HBg : Hid (Below W0.heap.size W0 wf) := HBf.out.trans hbf; clear HOf' HNf' hbf hgf))
                  go_roundg (x.li.length - (i + 1))
                  case measure => have := HIn.out; omega
                  case rel =>
                    refine ⟨i + 1, af_, nf, cf_, HIn.out.1, rfl, rfl, wrap_succ (n := 100000000) HIn.out.2 (by decide), ?_, ?_, HBg.out⟩
                    · have h := HOf.out
                      show Ob _ _ _ _ _ _
                      rw [HTm.out, HTy.out]
                      rw [L_S] at h
                      simp only [List.append_assoc, List.cons_append, List.nil_append] at h ⊢
                      exact h
                    · have := HMl.out; have := HIn.out.2; have := HIl.out; have := HVz.out;  have := HNf.out; show nf ≤ _; omega
            · have hie : i = x.li.length := by omega
              have i5 : ¬ (i : Int) < (x.li.length : Int) := by omega
              have HO' : Hid (Ob W0.heap.size wx a m c (textL x)) := by
                have h := HO.out
                rw [hie, List.take_of_length_le (Nat.le_refl _)] at h
                exact h
              have hcv := conv_own HO'.out.o HO'.out.e
              clear hin hie hA HO HMl
              go_wp2_with fail
              go_ret2
              exact ⟨by rw [HT.out, HOo.out, HUn.out]; rfl, HBw.out _ HB.out⟩
end Go.Proofs.YtodpljgajjcdoaaGreatDoor
