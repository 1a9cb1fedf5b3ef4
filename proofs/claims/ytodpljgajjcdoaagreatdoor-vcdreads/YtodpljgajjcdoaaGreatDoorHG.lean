/- Layer 19: the document's reader: Read (under way). -/
import Derived.Test.YtodpljgajjcdoaaGreatDoorHF
import Derived.Test.YtodpljgajjcdoaaGreatDoorGUr
namespace Go.Proofs.YtodpljgajjcdoaaGreatDoor
set_option maxRecDepth 100000
open Go.RowKit Lg Nl Go.Maps Wf Vd
set_option linter.unusedVariables false
set_option linter.unusedSimpArgs false

theorem decl_stop (r : List (List UInt8)) (nm : List ByteArray) (wd : List Int) : declR (upT :: r) nm wd = some (upT :: r, nm, wd) := by unfold declR; rw [if_pos rfl]
theorem six_of : ∀ (p : List (List UInt8)), p.length = 6 → ∃ a b c d e f, p = [a, b, c, d, e, f]
  | [a, b, c, d, e, f], _ => ⟨a, b, c, d, e, f, rfl⟩
  | [], h => (by cases h)
  | [_], h => (by cases h)
  | [_, _], h => (by simp at h)
  | [_, _, _], h => (by simp at h)
  | [_, _, _, _], h => (by simp at h)
  | [_, _, _, _, _], h => (by simp at h)
  | _ :: _ :: _ :: _ :: _ :: _ :: _ :: _, h => (by simp at h)
theorem decl_no {t : List UInt8} (h : t ≠ upT) (h6 : (spl 32 t).length ≠ 6) (r : List (List UInt8)) (nm : List ByteArray) (wd : List Int) : declR (t :: r) nm wd = none := by
  unfold declR
  rw [if_neg h]
  split
  · rename_i e; rw [e] at h6; exact absurd rfl h6
  · rfl
theorem decl_six {t a b c d e f : List UInt8} (h : t ≠ upT) (h6 : spl 32 t = [a, b, c, d, e, f]) (r : List (List UInt8)) (nm : List ByteArray) (wd : List Int) : declR (t :: r) nm wd = if 4096 ≤ nm.length then none else declR r (nm ++ [S (unN e)]) (wd ++ [numR c]) := by
  conv => lhs; unfold declR
  rw [if_neg h, h6]
theorem keepR_none {l : List UInt8} (h : declR ((spl 10 l).drop 2) [] [] = none) : keepR l = none := by
  unfold keepR refM
  rw [h]
theorem str_at {w : World} {ao : Option Addr} {n cap : Nat} {ls : List (List UInt8)} (h : StrAt w (.slice ao n cap) (ls.map S)) (i : Nat) (hi : i < ls.length) : ∃ g o, ao = some ⟨g, o, none⟩ ∧ g < w.heap.size ∧ w.cell? ⟨g, o + i, none⟩ = some (.string (S ls[i])) := by
  obtain ⟨g, o, e, hg, hc⟩ := h.at_ i (by rw [List.length_map]; exact hi)
  exact ⟨g, o, e, hg, by rw [hc, sA_at (by rw [List.length_map]; exact hi), List.getElem_map]⟩
theorem set40 {W : World} {b : Nat} {y0 y1 y2 y3 y : Value} {t : TypeId} (h : W.heap[b]? = some (.cells #[y0, y1, y2, y3] t (0, 0))) : (W.setCell ⟨b, 0, none⟩ y).heap[b]? = some (.cells #[y, y1, y2, y3] t (0, 0)) := by
  simp only [World.setCell]; rw [Array.getElem?_modify, if_pos rfl, h]; rfl
theorem set42 {W : World} {b : Nat} {y0 y1 y2 y3 y : Value} {t : TypeId} (h : W.heap[b]? = some (.cells #[y0, y1, y2, y3] t (0, 0))) : (W.setCell ⟨b, 2, none⟩ y).heap[b]? = some (.cells #[y0, y1, y, y3] t (0, 0)) := by
  simp only [World.setCell]; rw [Array.getElem?_modify, if_pos rfl, h]; rfl
theorem set43h {W : World} {b : Nat} {y0 y1 y2 y3 y : Value} {t : TypeId} (h : W.heap[b]? = some (.cells #[y0, y1, y2, y3] t (0, 0))) : (W.setCell ⟨b, 3, none⟩ y).heap[b]? = some (.cells #[y0, y1, y2, y] t (0, 0)) := by
  simp only [World.setCell]; rw [Array.getElem?_modify, if_pos rfl, h]; rfl
theorem set41 {W : World} {b : Nat} {y0 y1 y2 y3 y : Value} {t : TypeId} (h : W.heap[b]? = some (.cells #[y0, y1, y2, y3] t (0, 0))) : (W.setCell ⟨b, 1, none⟩ y).heap[b]? = some (.cells #[y0, y, y2, y3] t (0, 0)) := by
  simp only [World.setCell]; rw [Array.getElem?_modify, if_pos rfl, h]; rfl
theorem isT_at : ∀ (t : List UInt8) (h : 0 < (S t).size), isT t = ((S t)[0] == 35)
  | [], h => absurd h (by rw [size_S]; decide)
  | b :: r, h => by
    have := L_head h
    rw [L_S] at this
    injection this with this
    show (b == 35) = _
    exact congrArg (· == 35) this
theorem refM_none2 {l : List UInt8} {r : List (List UInt8)} {nm : List ByteArray} {wd : List Int} (h : declR ((spl 10 l).drop 2) [] [] = some (r, nm, wd)) (h2 : chgR nm.length ((firR nm.length nm.length (r.drop 3) []).1.drop 1) (-1) [] = none) : refM l = none := by
  unfold refM
  rw [h]
  show (chgR nm.length ((firR nm.length nm.length (r.drop 3) []).1.drop 1) (-1) []).map (fun li => (⟨nm, wd, (firR nm.length nm.length (r.drop 3) []).2, li⟩ : Wv)) = none
  rw [h2]
  rfl
theorem keepR_none2 {l : List UInt8} {r : List (List UInt8)} {nm : List ByteArray} {wd : List Int} (h : declR ((spl 10 l).drop 2) [] [] = some (r, nm, wd)) (h2 : chgR nm.length ((firR nm.length nm.length (r.drop 3) []).1.drop 1) (-1) [] = none) : keepR l = none := by
  unfold keepR
  rw [refM_none2 h h2]
theorem refM_some {l : List UInt8} {r r2 : List (List UInt8)} {nm fi : List ByteArray} {wd : List Int} {li : List Ch} (h : declR ((spl 10 l).drop 2) [] [] = some (r, nm, wd)) (hf : firR nm.length nm.length (r.drop 3) [] = (r2, fi)) (h2 : chgR nm.length (r2.drop 1) (-1) [] = some li) : refM l = some ⟨nm, wd, fi, li⟩ := by
  unfold refM
  rw [h]
  show (chgR nm.length ((firR nm.length nm.length (r.drop 3) []).1.drop 1) (-1) []).map (fun li => (⟨nm, wd, (firR nm.length nm.length (r.drop 3) []).2, li⟩ : Wv)) = some ⟨nm, wd, fi, li⟩
  rw [hf]
  show (chgR nm.length (r2.drop 1) (-1) []).map (fun li => (⟨nm, wd, fi, li⟩ : Wv)) = some ⟨nm, wd, fi, li⟩
  rw [h2]
  rfl
theorem ext_tl1 (t : List UInt8) : (S t).extract 1 (S t).size = S (t.drop 1) := L_inj (by rw [L_extract, L_S, L_S, size_S]; exact List.take_of_length_le (by rw [List.length_drop]; exact Nat.le_refl _))
theorem chgL_len (t : List UInt8) (n : Nat) : (chgL t n).2.length ≤ t.length := by
  cases t with
  | nil => exact Nat.le_refl _
  | cons b r =>
    by_cases hb : b = 98
    · subst hb
      rw [chgP_98]
      by_cases h2 : (spl 32 r).length = 2
      · obtain ⟨v, c, e⟩ := two_of _ h2
        rw [e]
        show v.length ≤ _
        have := splL_mem 32 r v (by rw [e]; exact List.mem_cons_self)
        simp; omega
      · rw [chgP_no _ _ h2]
        exact Nat.zero_le _
    · have : chgL (b :: r) n = (netR r n, [b]) := if_pos hb
      rw [this]
      simp
set_option maxHeartbeats 4000000 in
set_option maxRecDepth 1000000 in
theorem rRead_c (l : List UInt8) (w : World) (hl : l.length ≤ 1048576) (hp : PowT w) : Calls Tryz.prog 6 #[.string (S l)] w fun e w' => RdR w (keepR l) e w' := by
  obtain ⟨s, hs⟩ : ∃ s, s = S l := ⟨_, rfl⟩
  obtain ⟨ls, hls⟩ : ∃ ls, ls = spl 10 l := ⟨_, rfl⟩
  have HLn : Hid (∀ W : World, Calls Tryz.prog 11 #[.string s] W fun e w' => ∃ a c, e = .returned (.slice a ls.length c) ∧ Hid (StrAt w' (.slice a ls.length c) (ls.map S)) ∧ Hid (Below W.heap.size W w')) := fun W => by
    have := lines_c s W (by rw [hs, size_S]; exact hl)
    rw [hs, L_S, ← hls, ← hs] at this
    exact this
  have HLs : Hid (ls = spl 10 l) := hls
  have HSs : Hid (s = S l) := hs
  have HLl : Hid (ls.length ≤ 1048577) := by show _ ≤ _; rw [hls]; exact Nat.le_trans (splL_len 10 l) (Nat.succ_le_succ hl)
  have HTl : Hid (∀ t ∈ ls, t.length ≤ 1048576) := fun t ht => Nat.le_trans (splL_mem 10 l t (by rw [← hls]; exact ht)) hl
  have HPw : Hid (PowT w) := hp
  have HL : Hid (l.length ≤ 1048576) := hl
  have i1 : ¬ (1048576 : Int) < (s.size : Int) := by rw [hs, size_S]; omega
  rw [← hs]
  clear hs hls hl hp
  obtain ⟨W0, hW0⟩ : ∃ W0, W0 = w.alloc (.cells #[.slice none 0 0, .slice none 0 0, .slice none 0 0, .slice none 0 0] 27) := ⟨_, rfl⟩
  have HB0 : Hid (Below w.heap.size w W0) := by rw [hW0]; exact belA (Below.refl _ _) _
  have HR0 : Hid (W0.heap[w.heap.size]? = some (.cells #[.slice none 0 0, .slice none 0 0, .slice none 0 0, .slice none 0 0] 27 (0, 0))) := by rw [hW0]; exact alAt rfl
  go_enter Tryz.func6, Tryz.ntmps6
  go_upto_region 1 with fail
  rw [← hW0]
  clear hW0
  obtain ⟨R, hR⟩ : ∃ R, R = w.heap.size := ⟨_, rfl⟩
  have HRw : Hid (w.heap.size ≤ R) := Nat.le_of_eq hR.symm
  rw [← hR] at HR0 ⊢
  clear hR
  have lR := hLt HR0.out
  go_upto_region 5 with (first
    | (go_at_call 11; refine (HLn.out _).mono ?_; rintro e w1 ⟨aL, cL, rfl, HS1, HB1⟩))
  obtain ⟨W1, hW1⟩ : ∃ W1, W1 = w1.alloc (.cells #[.slice none 0 0, .slice none 0 0, .slice none 0 0, .slice none 0 0] 27) := ⟨_, rfl⟩
  have HBa : Hid (Below W0.heap.size W0 W1) := by rw [hW1]; exact belA HB1.out _
  have HV1 : Hid (W1.heap[w1.heap.size]? = some (.cells #[.slice none 0 0, .slice none 0 0, .slice none 0 0, .slice none 0 0] 27 (0, 0))) := by rw [hW1]; exact alAt rfl
  have HS2 : Hid (StrAt W1 (.slice aL ls.length cL) (ls.map S)) := by rw [hW1]; exact HS1.out.below (belA (Below.refl _ _) _)
  have HSg : Hid (∀ g o, aL = some ⟨g, o, none⟩ → ls ≠ [] → g < w1.heap.size) := fun g o e hne => by
    obtain ⟨g', o', e', hg', _⟩ := str_at HS1.out 0 (List.length_pos_iff.2 hne)
    rw [e] at e'
    injection e' with e'
    injection e' with e1 _
    rw [e1]; exact hg'
  have HR1 : Hid (W1.heap[R]? = some (.cells #[.slice none 0 0, .slice none 0 0, .slice none 0 0, .slice none 0 0] 27 (0, 0))) := (HBa.out.block R lR).trans HR0.out
  have HRV : Hid (R < w1.heap.size) := Nat.lt_of_lt_of_le lR HB1.out.size
  have HB2 : Hid (Below w.heap.size w W1) := bel HB0.out HBa.out
  rw [← hW1]
  clear hW1 HBa HB0 HB1 HS1 HR0 lR HLn
  obtain ⟨V, hV⟩ : ∃ V, V = w1.heap.size := ⟨_, rfl⟩
  rw [← hV] at HV1 HSg HRV ⊢
  clear hV
  have lV := hLt HV1.out
  go_wp2_with fail
  go_loopg [6] (ls.length - 2) (fun g s6 wr => ∃ (i : Nat) (nm : List ByteArray) (wd : List Int) (an aw : Option Addr) (cn cw : Nat), 2 ≤ i ∧ (i = 2 ∨ i ≤ ls.length) ∧ g = ls.length - i ∧ s6 = .int .i64 i ∧ Hid (declR (ls.drop 2) [] [] = declR (ls.drop i) nm wd) ∧ Hid (wd.length = nm.length ∧ nm.length ≤ 4096) ∧ Hid (∀ t ∈ nm, t.size ≤ 1048576) ∧ Hid (Below V W1 wr) ∧ Hid (wr.heap[V]? = some (.cells #[.slice an nm.length cn, .slice aw wd.length cw, .slice none 0 0, .slice none 0 0] 27 (0, 0))) ∧ Hid (wr.ownsRow W1.heap.size 9 1 (.slice an nm.length cn) nm.length (sC nm)) ∧ Hid (wr.ownsRow W1.heap.size 3 1 (.slice aw wd.length cw) wd.length (iC wd)))
  case atStart => exact ⟨2, [], [], none, none, 0, 0, Nat.le_refl _, Or.inl rfl, rfl, rfl, rfl, ⟨rfl, Nat.zero_le _⟩, (fun t h => by cases h), Below.refl _ _, HV1, World.ownsRow_nil _ _ _ _, World.ownsRow_nil _ _ _ _⟩
  case round =>
    obtain ⟨i, nm, wd, an, aw, cn, cw, hi2, hi, rfl, rfl, HD, HW, HNs, HBx, HVx, HO1, HO2⟩ := hrel
    obtain ⟨wx, hwx⟩ : ∃ wx, wx = wr := ⟨_, rfl⟩
    rw [← hwx] at HBx HVx HO1 HO2 ⊢
    clear hwx
    have lVx := hLt HVx.out
    obtain ⟨tb, htb⟩ : ∃ tb : Bool, tb = decide (∃ h : i < ls.length, ls[i] ≠ upT) := ⟨_, rfl⟩
    have HTb : Hid (tb = decide (∃ h : i < ls.length, ls[i] ≠ upT)) := htb
    clear htb
    have HCell : Hid (∀ h : i < ls.length, ∃ g o, aL = some ⟨g, o, none⟩ ∧ g < wx.heap.size ∧ wx.cell? ⟨g, o + i, none⟩ = some (.string (S ls[i]))) := fun h => by
      obtain ⟨g, o, e, hg, hc⟩ := str_at HS2.out i h
      have hgV := HSg.out g o e (fun e => by rw [e] at h; cases h)
      exact ⟨g, o, e, Nat.lt_of_lt_of_le hg HBx.out.size, (HBx.out.cell (p := ⟨g, o + i, none⟩) hgV).trans hc⟩
    go_upto_region 6 with fail
    go_cut [34] from 24 to 34 (fun s34 wy => s34 = .bool tb ∧ wy = wx)
    case first =>
      by_cases hlt : i < ls.length
      · obtain ⟨g, o, e, hg, hc⟩ := HCell.out hlt
        subst e
        have i3 : (i : Int) < (ls.length : Int) := by omega
        have i0 : (0 : Int) ≤ (i : Int) := by omega
        by_cases hu : ls[i] = upT
        · have HY : Hid (tb = false) := by show _ = _; rw [HTb.out]; exact decide_eq_false (fun ⟨h, h'⟩ => h' hu)
          have ec : ((S ls[i]).toList == [36, 117, 112, 115, 99, 111, 112, 101, 32, 36, 101, 110, 100]) = true := by rw [beq_iff_eq, toL, L_S]; exact hu
          clear hu
          go_wp2_with fail
          go_meet
          exact ⟨by rw [HY.out], rfl⟩
        · have HY : Hid (tb = true) := by show _ = _; rw [HTb.out]; exact decide_eq_true ⟨hlt, hu⟩
          have ec : ((S ls[i]).toList == [36, 117, 112, 115, 99, 111, 112, 101, 32, 36, 101, 110, 100]) = false := by rw [beq_eq_false_iff_ne, toL, L_S]; exact hu
          clear hu
          go_wp2_with fail
          go_meet
          exact ⟨by rw [HY.out], rfl⟩
      · have HY : Hid (tb = false) := by show _ = _; rw [HTb.out]; exact decide_eq_false (fun ⟨h, h'⟩ => hlt h)
        have i3 : ¬ (i : Int) < (ls.length : Int) := by omega
        go_wp2_with fail
        go_meet
        exact ⟨by rw [HY.out], rfl⟩
    case rest =>
      obtain ⟨rfl, hwd⟩ := hcut
      rw [hwd]
      clear hwd
      have HBw : Hid (Below w.heap.size w wx) := HB2.out.trans (HBx.out.mono (Nat.le_trans HRw.out (Nat.le_of_lt HRV.out)))
      have HRx : Hid (wx.heap[R]? = some (.cells #[.slice none 0 0, .slice none 0 0, .slice none 0 0, .slice none 0 0] 27 (0, 0))) := (HBx.out.block R HRV.out).trans HR1.out
      have lRx := hLt HRx.out
      obtain ⟨b0, b1, b2, b3⟩ := cells4 HVx.out
      cases tb with
      | true =>
        obtain ⟨hlt, hu⟩ := of_decide_eq_true HTb.out.symm
        obtain ⟨g, o, e, hg, hc⟩ := HCell.out hlt
        subst e
        have HDr : Hid (ls.drop i = ls[i] :: ls.drop (i + 1)) := List.drop_eq_getElem_cons hlt
        have HTt : Hid (ls[i].length ≤ 1048576) := HTl.out _ (List.getElem_mem hlt)
        obtain ⟨t, ht⟩ : ∃ t, t = ls[i] := ⟨_, rfl⟩
        rw [← ht] at hc hu HDr HTt
        have i3 : (i : Int) < (ls.length : Int) := by omega
        have i0 : (0 : Int) ≤ (i : Int) := by omega
        have hD := HD.out
        rw [HDr.out] at hD
        have HD2 : Hid (declR (ls.drop 2) [] [] = declR (t :: ls.drop (i + 1)) nm wd) := hD
        obtain ⟨p, hp⟩ : ∃ p, p = spl 32 t := ⟨_, rfl⟩
        have HPt : Hid (∀ W : World, Calls Tryz.prog 12 #[.string (S t)] W fun e w' => ∃ a c, e = .returned (.slice a p.length c) ∧ Hid (StrAt w' (.slice a p.length c) (p.map S)) ∧ Hid (∀ g o, a = some ⟨g, o, none⟩ → W.heap.size ≤ g) ∧ Hid (Below W.heap.size W w')) := fun W => by
          have := parts_f (S t) W (by rw [size_S]; exact HTt.out)
          rw [L_S, ← hp] at this
          exact this
        have HPm : Hid (∀ x ∈ p, x.length ≤ 1048576) := fun x hx => Nat.le_trans (splL_mem 32 t x (by rw [← hp]; exact hx)) HTt.out
        clear hD HDr HCell ht HTb HD
        by_cases h6 : p.length = 6
        · by_cases h4 : 4096 ≤ nm.length
          · have HKn : Hid (keepR l = none) := keepR_none (by
              rw [← HLs.out, HD2.out]
              obtain ⟨a, b, c, d, e, f, e6⟩ := six_of p h6
              rw [decl_six hu (hp.symm.trans e6), if_pos h4])
            have j6 : ((p.length : Int) == 6) = true := by rw [beq_iff_eq]; omega
            have j6' : (p.length : Int) = 6 := by omega
            have j4 : (nm.length : Int) ≥ 4096 := by omega
            clear h6 h4 hu hp HD2
            go_wp2_with (first
              | (go_at_call 12; refine (HPt.out _).mono ?_; rintro e w2 ⟨a2, c2, rfl, HS3, HFr, HB3⟩; clear b0 b1 b2 b3; obtain ⟨b0, b1, b2, b3⟩ := cells4 ((HB3.out.block V lVx).trans HVx.out); have lV2 := Nat.lt_of_lt_of_le lVx HB3.out.size; have hR2 := (HB3.out.block R lRx).trans HRx.out; obtain ⟨r0, r1, r2, r3⟩ := cells4 hR2; have rf := fun j => Lib.frozen_of_heap hR2 j; have lR2 := hLt hR2; have HR2 : Hid _ := hR2; clear hR2))
            obtain ⟨WA, hWA⟩ : ∃ WA, WA = (((w2.setCell ⟨R, 0, none⟩ (.slice none 0 0)).setCell ⟨R, 1, none⟩ (.slice none 0 0)).setCell ⟨R, 2, none⟩ (.slice none 0 0)).setCell ⟨R, 3, none⟩ (.slice none 0 0) := ⟨_, rfl⟩
            have HRA : Hid (WA.heap[R]? = some (.cells #[.slice none 0 0, .slice none 0 0, .slice none 0 0, .slice none 0 0] 27 (0, 0))) := by rw [hWA]; exact put4 HR2.out
            have HBA : Hid (Below w.heap.size w WA) := by rw [hWA]; exact belSetV (belSetV (belSetV (belSetV (bel HBw.out HB3.out) HRw.out) HRw.out) HRw.out) HRw.out
            rw [← hWA]
            clear hWA
            obtain ⟨z0, z1, z2, z3⟩ := cells4 HRA.out
            try simp only [Exit.inBlock, Exit.then]
            refine bodyPost_ret (v := .tuple #[.agg #[.slice none 0 0, .slice none 0 0, .slice none 0 0, .slice none 0 0], .int .i64 190]) (by simp [results, Tryz.results6, go_sem, z0, z1, z2, z3]) rfl ?_
            rw [HKn.out]
            exact ⟨HBA.out, rfl⟩
          · obtain ⟨pa, pb, pc, pd, pe, pf, e6⟩ := six_of p h6
            have HD3 : Hid (declR (ls.drop 2) [] [] = declR (ls.drop (i + 1)) (nm ++ [S (unN pe)]) (wd ++ [numR pc])) := by
              show _ = _
              rw [HD2.out, decl_six hu (hp.symm.trans e6), if_neg h4]
            have HNu : Hid (∀ W : World, Calls Tryz.prog 13 #[.string (S pc)] W fun e w' => e = .returned (.int .i64 (numR pc)) ∧ w' = W) := fun W => by
              have := rnum_c (S pc) W (by rw [size_S]; exact HPm.out pc (by rw [e6]; simp))
              rw [L_S] at this
              exact this
            have HPe : Hid (pe.length ≤ 1048576) := HPm.out pe (by rw [e6]; simp)
            have HAt : Hid (∀ (W : World) (a : Option Addr) (c : Nat), StrAt W (.slice a p.length c) (p.map S) → ∃ g o, a = some ⟨g, o, none⟩ ∧ g < W.heap.size ∧ W.cell? ⟨g, o + 2, none⟩ = some (.string (S pc)) ∧ W.cell? ⟨g, o + 4, none⟩ = some (.string (S pe))) := fun W a c h => by
              obtain ⟨g, o, ea, hg, q⟩ := str_at h 2 (by omega)
              obtain ⟨g', o', ea', hg', q'⟩ := str_at h 4 (by omega)
              rw [ea] at ea'
              injection ea' with ea'
              injection ea' with x1 x2
              subst x1 x2
              refine ⟨g, o, ea, hg, ?_, ?_⟩
              · rw [q]; subst e6; rfl
              · rw [q']; subst e6; rfl
            have j6 : ((p.length : Int) == 6) = true := by rw [beq_iff_eq]; omega
            have j6' : (p.length : Int) = 6 := by omega
            have j4 : ¬ (nm.length : Int) ≥ 4096 := by omega
            have HN4 : Hid (nm.length < 4096) := by show _ < _; omega
            clear h4 hu hp HD2 e6 HPm
            go_upto_region 10 with (first
              | (go_at_call 12; refine (HPt.out _).mono ?_; rintro e w2 ⟨a2, c2, rfl, HS3, HFr, HB3⟩; clear b0 b1 b2 b3; obtain ⟨b0, b1, b2, b3⟩ := cells4 ((HB3.out.block V lVx).trans HVx.out); have lV2 := Nat.lt_of_lt_of_le lVx HB3.out.size))
            clear b0 b1 b2 b3 hc
            have HLx : Hid (V < wx.heap.size) := lVx
            obtain ⟨W2, hW2⟩ : ∃ W2, W2 = w2 := ⟨_, rfl⟩
            rw [← hW2] at HS3 HB3 lV2 ⊢
            clear hW2
            have HVz : Hid (W2.heap[V]? = some (.cells #[.slice an nm.length cn, .slice aw wd.length cw, .slice none 0 0, .slice none 0 0] 27 (0, 0))) := (HB3.out.block V lVx).trans HVx.out
            have HO1z : Hid (W2.ownsRow W1.heap.size 9 1 (.slice an nm.length cn) nm.length (sC nm)) := own_below HO1.out HB3.out
            have HO2z : Hid (W2.ownsRow W1.heap.size 3 1 (.slice aw wd.length cw) wd.length (iC wd)) := own_below HO2.out HB3.out
            have HBz : Hid (Below V W1 W2) := HBx.out.trans (HB3.out.mono (Nat.le_of_lt lVx))
            have HZ2 : Hid (W1.heap.size ≤ W2.heap.size) := HBz.out.size
            obtain ⟨gp, op, ep, hgp, hp2, hp4⟩ := HAt.out W2 a2 c2 HS3.out
            have HGx : Hid (wx.heap.size ≤ gp) := HFr.out gp op ep
            subst ep
            have HNe : Hid (∀ g, (Value.slice an nm.length cn).ownBlock = some g → g < wx.heap.size) := fun g e => (World.ownsRow.lt HO1.out g e).2
            have HP2 : Hid (W2.cell? ⟨gp, op + 2, none⟩ = some (.string (S pc))) := hp2
            obtain ⟨b0, b1, b2, b3⟩ := cells4 HVz.out
            clear HO1 HO2 HVx HBx HRx HS3 HFr HPt HBw lVx lRx HAt
            obtain ⟨jj, HJ⟩ : ∃ jj, Hid (Tryz.prog.info? 9 = some jj ∧ jj.zero = some (.string ⟨#[]⟩) ∧ jj.size = 1 ∧ jj.bytes = 16) := infoStr
            obtain ⟨ji, HJi⟩ : ∃ jj, Hid (Tryz.prog.info? 3 = some jj ∧ jj.zero = some (.int .i64 0) ∧ jj.size = 1 ∧ jj.bytes = 8) := infoInt
            by_cases hu' : pe = [95]
            · have eu : ((S pe).toList == [95]) = true := by rw [beq_iff_eq, toL, L_S]; exact hu'
              have HQ : Hid (S (unN pe) = ⟨#[]⟩) := by show _ = _; rw [hu']; rfl
              have HQs : Hid ((⟨#[]⟩ : ByteArray).size ≤ 1048576) := by show _ ≤ _; decide
              clear hu'
              go_upto_region 14 with (first
                | (at_builtin; refine wpList_append_own_at _ rfl _ _ 23 rfl W1.heap.size 9 jj _ 1 16 Tryz.underlying23 HJ.out.1 HJ.out.2.1 HJ.out.2.2.1 HJ.out.2.2.2 rfl (by decide) (.slice an nm.length cn) nm.length (sC nm) rfl (HO1z.out.alloc _) ⟨W2.heap.size, 0, none⟩ 1 1 [.string ⟨#[]⟩] rfl rfl (fun j u hj => new1i _ _ _ _ rfl j u hj) (one1s _) (by have := HN4.out; unfold maxLen; omega) (by have := HN4.out; omega) (Nat.le_trans HZ2.out (by simp)) ?_; intro v7 w7 hown7 hgrow7 hnil7 hloc7; obtain ⟨a7, c7, rfl⟩ := own_slice hown7; have HO7 : Hid (w7.ownsRow W1.heap.size 9 1 (.slice a7 (nm.length + 1) c7) (nm.length + 1) (sC nm ++ [.string ⟨#[]⟩])) := hown7; have HG7 : Hid ((W2.alloc (.cells #[.string ⟨#[]⟩] 9)).grownBy w7 (Value.slice an nm.length cn).ownBlock) := hgrow7; clear hown7 hgrow7 hnil7 hloc7; have HV7 : Hid (w7.heap[V]? = some (.cells #[.slice an nm.length cn, .slice aw wd.length cw, .slice none 0 0, .slice none 0 0] 27 (0, 0))) := (HG7.out.block V (by simp; omega) (fun e => by have := (World.ownsRow.lt HO1z.out V e.symm).1; omega)).trans ((alOld lV2).trans HVz.out); have lV7 := hLt HV7.out; obtain ⟨d0, d1, d2, d3⟩ := cells4 HV7.out; have df := fun j => Lib.frozen_of_heap HV7.out j))
              clear d0 d1 d2 d3 df b0 b1 b2 b3 hp2 hp4
              obtain ⟨W8, hW8⟩ : ∃ W8, W8 = w7.setCell ⟨V, 0, none⟩ (.slice a7 (nm.length + 1) c7) := ⟨_, rfl⟩
              have HV8 : Hid (W8.heap[V]? = some (.cells #[.slice a7 (nm.length + 1) c7, .slice aw wd.length cw, .slice none 0 0, .slice none 0 0] 27 (0, 0))) := by rw [hW8]; exact set40 HV7.out
              have HB7 : Hid (Below V W1 w7) := gB (HBz.out.alloc (Nat.le_of_lt lV2) (.cells #[.string ⟨#[]⟩] 9)) HG7.out (fun g e => by have := (World.ownsRow.lt HO1z.out g e).1; omega) (by simp; omega)
              have HB8 : Hid (Below V W1 W8) := by rw [hW8]; exact belSetV HB7.out (Nat.le_refl _)
              have HO17 : Hid (w7.ownsRow W1.heap.size 3 1 (.slice aw wd.length cw) wd.length (iC wd)) := own_grown (HO2z.out.alloc _) HG7.out (own_own HO2z.out HO1z.out (by decide))
              have HO18 : Hid (W8.ownsRow W1.heap.size 9 1 (.slice a7 (nm.length + 1) c7) (nm.length + 1) (sC nm ++ [.string ⟨#[]⟩])) := by rw [hW8]; exact ownsRow_setCell_below HO7.out lV _
              have HO28 : Hid (W8.ownsRow W1.heap.size 3 1 (.slice aw wd.length cw) wd.length (iC wd)) := by rw [hW8]; exact ownsRow_setCell_below HO17.out lV _
              have HP8 : Hid (W8.cell? ⟨gp, op + 2, none⟩ = some (.string (S pc))) := by
                have hgx := HGx.out
                have h7 : w7.heap[gp]? = W2.heap[gp]? := (HG7.out.block gp (by simp; omega) (fun e => by have := HNe.out gp e.symm; omega)).trans (alOld hgp)
                have h8 : W8.heap[gp]? = W2.heap[gp]? := by rw [hW8]; exact (Below.heap_setCell _ _ _ _ (show gp ≠ V from by have := HLx.out; omega)).trans h7
                show World.cell? _ _ = _
                have hc2 := HP2.out
                unfold World.cell? at hc2 ⊢
                rw [h8]
                exact hc2
              have lg8 : gp < W8.heap.size := by
                have h7 : W2.heap.size ≤ w7.heap.size := Nat.le_trans (by simp) HG7.out.size
                have : W8.heap.size = w7.heap.size := by rw [hW8]; simp [World.setCell]
                omega
              rw [← hW8]
              clear hW8 HV7 HO7 HG7 HB7 HO17 HO1z HO2z HVz lV7
              have lV8 := hLt HV8.out
              have HZ8 : Hid (W1.heap.size ≤ W8.heap.size) := HB8.out.size
              obtain ⟨b0, b1, b2, b3⟩ := cells4 HV8.out
              have hp8 := HP8.out
              go_region_law (first
                | (refine step_own rfl _ _ 24 rfl W1.heap.size 3 ji _ 1 8 Tryz.underlying24 HJi.out.1 HJi.out.2.1 HJi.out.2.2.1 HJi.out.2.2.2 rfl (by decide) (.slice aw wd.length cw) wd.length (iC wd) (by simp [Act.eval, Act.put]) ((own_keep (w' := W8.drew) HO28.out fun _ _ => rfl).alloc _) ⟨W8.drew.heap.size, 0, none⟩ 1 1 [.int .i64 (numR pc)] (by simp [Act.eval, Act.put]) rfl (fun j u hj => new1i _ _ _ _ rfl j u hj) (one1 _) (by have := HN4.out; have := HW.out; unfold maxLen; omega) (by have := HN4.out; have := HW.out; omega) (Nat.le_trans HZ8.out (by simp)) ?_; intro va wa howna hgrowa; obtain ⟨aa, ca, rfl⟩ := own_slice howna; have HOa := hidV howna; have HGa := hidV hgrowa; have hxa : wa.heap[V]? = some (.cells #[.slice a7 (nm.length + 1) c7, .slice aw wd.length cw, .slice none 0 0, .slice none 0 0] 27 (0, 0)) := (hgrowa.block V (by simp; omega) (fun e => by have := (World.ownsRow.lt HO28.out V e.symm).1; omega)).trans ((alOld (W := W8.drew) lV8).trans HV8.out); have HXa := hidV hxa; have da : wa.cell? ⟨V, 1, none⟩ = some (.slice aw wd.length cw) := (by rw [Lib.cell_of_heap hxa]; rfl); have fa : wa.frozen? ⟨V, 1, none⟩ = false := Lib.frozen_of_heap hxa 1; have lVa := hLt hxa; clear howna hgrowa hxa)
                | (go_simp; go_wp2_with (go_at_call 13; refine (HNu.out _).mono ?_; rintro e w9 ⟨rfl, hw9⟩; subst hw9)))
              all_goals (
                have HNa : Hid (wa.ownsRow W1.heap.size 9 1 (.slice a7 (nm.length + 1) c7) (nm.length + 1) (sC nm ++ [.string ⟨#[]⟩])) := own_grown ((own_keep (w' := W8.drew) HO18.out fun _ _ => rfl).alloc _) HGa.out (own_own HO18.out HO28.out (by decide))
                have HBa : Hid (Below V W1 wa) := gB ((HB8.out.drew).alloc (Nat.le_of_lt lV8) (.cells #[.int .i64 (numR pc)] 3)) HGa.out (fun g e => by have := (World.ownsRow.lt HO28.out g e).1; omega) (by simp; omega)
                go_wp2_with fail
                go_roundg (ls.length - (i + 1))
                case measure => omega
                case rel =>
                  refine ⟨i + 1, nm ++ [S (unN pe)], wd ++ [numR pc], a7, aa, c7, ca, by omega, Or.inr (by omega), rfl, by first | with_reducible rfl | exact wrap_succ (n := ls.length) (by omega) (Nat.le_trans HLl.out (by decide)) | rfl, HD3, ⟨by rw [List.length_append, List.length_append, HW.out.1]; rfl, by rw [List.length_append]; exact HN4.out⟩, fun t ht => ?_, belSetV HBa.out (Nat.le_refl _), ?_, ?_, ?_⟩
                  · rcases List.mem_append.1 ht with ht | ht
                    · exact HNs.out t ht
                    · rw [List.mem_singleton] at ht
                      subst ht
                      rw [HQ.out]; exact HQs.out
                  · rw [List.length_append, List.length_append]
                    exact set41 HXa.out
                  · rw [List.length_append, HQ.out]
                    show World.ownsRow _ _ _ _ _ _ _
                    rw [show sC (nm ++ [⟨#[]⟩]) = sC nm ++ [.string ⟨#[]⟩] from by unfold sC; rw [List.map_append]; rfl]
                    exact ownsRow_setCell_below HNa.out lV _
                  · rw [List.length_append]
                    show World.ownsRow _ _ _ _ _ _ _
                    rw [show iC (wd ++ [numR pc]) = iC wd ++ [.int .i64 (numR pc)] from by unfold iC; rw [List.map_append]; rfl]
                    exact ownsRow_setCell_below HOa.out lV _)
            · have eu : ((S pe).toList == [95]) = false := by rw [beq_eq_false_iff_ne, toL, L_S]; exact hu'
              have HQ : Hid (S (unN pe) = S pe) := by show _ = _; unfold unN; rw [if_neg hu']
              have HQs : Hid ((S pe).size ≤ 1048576) := by show _ ≤ _; rw [size_S]; exact HPe.out
              clear hu'
              go_upto_region 14 with (first
                | (at_builtin; refine wpList_append_own_at _ rfl _ _ 23 rfl W1.heap.size 9 jj _ 1 16 Tryz.underlying23 HJ.out.1 HJ.out.2.1 HJ.out.2.2.1 HJ.out.2.2.2 rfl (by decide) (.slice an nm.length cn) nm.length (sC nm) rfl (HO1z.out.alloc _) ⟨W2.heap.size, 0, none⟩ 1 1 [.string (S pe)] rfl rfl (fun j u hj => new1i _ _ _ _ rfl j u hj) (one1s _) (by have := HN4.out; unfold maxLen; omega) (by have := HN4.out; omega) (Nat.le_trans HZ2.out (by simp)) ?_; intro v7 w7 hown7 hgrow7 hnil7 hloc7; obtain ⟨a7, c7, rfl⟩ := own_slice hown7; have HO7 : Hid (w7.ownsRow W1.heap.size 9 1 (.slice a7 (nm.length + 1) c7) (nm.length + 1) (sC nm ++ [.string (S pe)])) := hown7; have HG7 : Hid ((W2.alloc (.cells #[.string (S pe)] 9)).grownBy w7 (Value.slice an nm.length cn).ownBlock) := hgrow7; clear hown7 hgrow7 hnil7 hloc7; have HV7 : Hid (w7.heap[V]? = some (.cells #[.slice an nm.length cn, .slice aw wd.length cw, .slice none 0 0, .slice none 0 0] 27 (0, 0))) := (HG7.out.block V (by simp; omega) (fun e => by have := (World.ownsRow.lt HO1z.out V e.symm).1; omega)).trans ((alOld lV2).trans HVz.out); have lV7 := hLt HV7.out; obtain ⟨d0, d1, d2, d3⟩ := cells4 HV7.out; have df := fun j => Lib.frozen_of_heap HV7.out j))
              clear d0 d1 d2 d3 df b0 b1 b2 b3 hp2 hp4
              obtain ⟨W8, hW8⟩ : ∃ W8, W8 = w7.setCell ⟨V, 0, none⟩ (.slice a7 (nm.length + 1) c7) := ⟨_, rfl⟩
              have HV8 : Hid (W8.heap[V]? = some (.cells #[.slice a7 (nm.length + 1) c7, .slice aw wd.length cw, .slice none 0 0, .slice none 0 0] 27 (0, 0))) := by rw [hW8]; exact set40 HV7.out
              have HB7 : Hid (Below V W1 w7) := gB (HBz.out.alloc (Nat.le_of_lt lV2) (.cells #[.string (S pe)] 9)) HG7.out (fun g e => by have := (World.ownsRow.lt HO1z.out g e).1; omega) (by simp; omega)
              have HB8 : Hid (Below V W1 W8) := by rw [hW8]; exact belSetV HB7.out (Nat.le_refl _)
              have HO17 : Hid (w7.ownsRow W1.heap.size 3 1 (.slice aw wd.length cw) wd.length (iC wd)) := own_grown (HO2z.out.alloc _) HG7.out (own_own HO2z.out HO1z.out (by decide))
              have HO18 : Hid (W8.ownsRow W1.heap.size 9 1 (.slice a7 (nm.length + 1) c7) (nm.length + 1) (sC nm ++ [.string (S pe)])) := by rw [hW8]; exact ownsRow_setCell_below HO7.out lV _
              have HO28 : Hid (W8.ownsRow W1.heap.size 3 1 (.slice aw wd.length cw) wd.length (iC wd)) := by rw [hW8]; exact ownsRow_setCell_below HO17.out lV _
              have HP8 : Hid (W8.cell? ⟨gp, op + 2, none⟩ = some (.string (S pc))) := by
                have hgx := HGx.out
                have h7 : w7.heap[gp]? = W2.heap[gp]? := (HG7.out.block gp (by simp; omega) (fun e => by have := HNe.out gp e.symm; omega)).trans (alOld hgp)
                have h8 : W8.heap[gp]? = W2.heap[gp]? := by rw [hW8]; exact (Below.heap_setCell _ _ _ _ (show gp ≠ V from by have := HLx.out; omega)).trans h7
                show World.cell? _ _ = _
                have hc2 := HP2.out
                unfold World.cell? at hc2 ⊢
                rw [h8]
                exact hc2
              have lg8 : gp < W8.heap.size := by
                have h7 : W2.heap.size ≤ w7.heap.size := Nat.le_trans (by simp) HG7.out.size
                have : W8.heap.size = w7.heap.size := by rw [hW8]; simp [World.setCell]
                omega
              rw [← hW8]
              clear hW8 HV7 HO7 HG7 HB7 HO17 HO1z HO2z HVz lV7
              have lV8 := hLt HV8.out
              have HZ8 : Hid (W1.heap.size ≤ W8.heap.size) := HB8.out.size
              obtain ⟨b0, b1, b2, b3⟩ := cells4 HV8.out
              have hp8 := HP8.out
              go_region_law (first
                | (refine step_own rfl _ _ 24 rfl W1.heap.size 3 ji _ 1 8 Tryz.underlying24 HJi.out.1 HJi.out.2.1 HJi.out.2.2.1 HJi.out.2.2.2 rfl (by decide) (.slice aw wd.length cw) wd.length (iC wd) (by simp [Act.eval, Act.put]) ((own_keep (w' := W8.drew) HO28.out fun _ _ => rfl).alloc _) ⟨W8.drew.heap.size, 0, none⟩ 1 1 [.int .i64 (numR pc)] (by simp [Act.eval, Act.put]) rfl (fun j u hj => new1i _ _ _ _ rfl j u hj) (one1 _) (by have := HN4.out; have := HW.out; unfold maxLen; omega) (by have := HN4.out; have := HW.out; omega) (Nat.le_trans HZ8.out (by simp)) ?_; intro va wa howna hgrowa; obtain ⟨aa, ca, rfl⟩ := own_slice howna; have HOa := hidV howna; have HGa := hidV hgrowa; have hxa : wa.heap[V]? = some (.cells #[.slice a7 (nm.length + 1) c7, .slice aw wd.length cw, .slice none 0 0, .slice none 0 0] 27 (0, 0)) := (hgrowa.block V (by simp; omega) (fun e => by have := (World.ownsRow.lt HO28.out V e.symm).1; omega)).trans ((alOld (W := W8.drew) lV8).trans HV8.out); have HXa := hidV hxa; have da : wa.cell? ⟨V, 1, none⟩ = some (.slice aw wd.length cw) := (by rw [Lib.cell_of_heap hxa]; rfl); have fa : wa.frozen? ⟨V, 1, none⟩ = false := Lib.frozen_of_heap hxa 1; have lVa := hLt hxa; clear howna hgrowa hxa)
                | (go_simp; go_wp2_with (go_at_call 13; refine (HNu.out _).mono ?_; rintro e w9 ⟨rfl, hw9⟩; subst hw9)))
              all_goals (
                have HNa : Hid (wa.ownsRow W1.heap.size 9 1 (.slice a7 (nm.length + 1) c7) (nm.length + 1) (sC nm ++ [.string (S pe)])) := own_grown ((own_keep (w' := W8.drew) HO18.out fun _ _ => rfl).alloc _) HGa.out (own_own HO18.out HO28.out (by decide))
                have HBa : Hid (Below V W1 wa) := gB ((HB8.out.drew).alloc (Nat.le_of_lt lV8) (.cells #[.int .i64 (numR pc)] 3)) HGa.out (fun g e => by have := (World.ownsRow.lt HO28.out g e).1; omega) (by simp; omega)
                go_wp2_with fail
                go_roundg (ls.length - (i + 1))
                case measure => omega
                case rel =>
                  refine ⟨i + 1, nm ++ [S (unN pe)], wd ++ [numR pc], a7, aa, c7, ca, by omega, Or.inr (by omega), rfl, by first | with_reducible rfl | exact wrap_succ (n := ls.length) (by omega) (Nat.le_trans HLl.out (by decide)) | rfl, HD3, ⟨by rw [List.length_append, List.length_append, HW.out.1]; rfl, by rw [List.length_append]; exact HN4.out⟩, fun t ht => ?_, belSetV HBa.out (Nat.le_refl _), ?_, ?_, ?_⟩
                  · rcases List.mem_append.1 ht with ht | ht
                    · exact HNs.out t ht
                    · rw [List.mem_singleton] at ht
                      subst ht
                      rw [HQ.out]; exact HQs.out
                  · rw [List.length_append, List.length_append]
                    exact set41 HXa.out
                  · rw [List.length_append, HQ.out]
                    show World.ownsRow _ _ _ _ _ _ _
                    rw [show sC (nm ++ [S pe]) = sC nm ++ [.string (S pe)] from by unfold sC; rw [List.map_append]; rfl]
                    exact ownsRow_setCell_below HNa.out lV _
                  · rw [List.length_append]
                    show World.ownsRow _ _ _ _ _ _ _
                    rw [show iC (wd ++ [numR pc]) = iC wd ++ [.int .i64 (numR pc)] from by unfold iC; rw [List.map_append]; rfl]
                    exact ownsRow_setCell_below HOa.out lV _)
        · have HKn : Hid (keepR l = none) := keepR_none (by
            rw [← HLs.out, HD2.out]
            exact decl_no hu (by rw [← hp]; exact h6) _ _ _)
          have j6 : ((p.length : Int) == 6) = false := by rw [beq_eq_false_iff_ne]; omega
          have j6' : ¬ (p.length : Int) = 6 := by omega
          clear h6 hu hp HD2
          go_wp2_with (first
            | (go_at_call 12; refine (HPt.out _).mono ?_; rintro e w2 ⟨a2, c2, rfl, HS3, HFr, HB3⟩; clear b0 b1 b2 b3; obtain ⟨b0, b1, b2, b3⟩ := cells4 ((HB3.out.block V lVx).trans HVx.out); have lV2 := Nat.lt_of_lt_of_le lVx HB3.out.size; have hR2 := (HB3.out.block R lRx).trans HRx.out; obtain ⟨r0, r1, r2, r3⟩ := cells4 hR2; have rf := fun j => Lib.frozen_of_heap hR2 j; have lR2 := hLt hR2; have HR2 : Hid _ := hR2; clear hR2))
          obtain ⟨WA, hWA⟩ : ∃ WA, WA = (((w2.setCell ⟨R, 0, none⟩ (.slice none 0 0)).setCell ⟨R, 1, none⟩ (.slice none 0 0)).setCell ⟨R, 2, none⟩ (.slice none 0 0)).setCell ⟨R, 3, none⟩ (.slice none 0 0) := ⟨_, rfl⟩
          have HRA : Hid (WA.heap[R]? = some (.cells #[.slice none 0 0, .slice none 0 0, .slice none 0 0, .slice none 0 0] 27 (0, 0))) := by rw [hWA]; exact put4 HR2.out
          have HBA : Hid (Below w.heap.size w WA) := by rw [hWA]; exact belSetV (belSetV (belSetV (belSetV (bel HBw.out HB3.out) HRw.out) HRw.out) HRw.out) HRw.out
          rw [← hWA]
          clear hWA
          obtain ⟨z0, z1, z2, z3⟩ := cells4 HRA.out
          try simp only [Exit.inBlock, Exit.then]
          refine bodyPost_ret (v := .tuple #[.agg #[.slice none 0 0, .slice none 0 0, .slice none 0 0, .slice none 0 0], .int .i64 190]) (by simp [results, Tryz.results6, go_sem, z0, z1, z2, z3]) rfl ?_
          rw [HKn.out]
          exact ⟨HBA.out, rfl⟩
      | false =>
        have HX : Hid (declR (ls.drop 2) [] [] = some (ls.drop i, nm, wd)) := by
          show _ = _
          rw [HD.out]
          have hno := of_decide_eq_false HTb.out.symm
          by_cases hlt : i < ls.length
          · have hu : ls[i] = upT := Classical.byContradiction fun h => hno ⟨hlt, h⟩
            rw [List.drop_eq_getElem_cons hlt, hu]
            exact decl_stop _ _ _
          · rw [List.drop_of_length_le (by omega)]
            rfl
        obtain ⟨n, hn⟩ : ∃ n, n = nm.length := ⟨_, rfl⟩
        have HNn : Hid (n = nm.length) := hn
        have HN4 : Hid (n ≤ 4096) := by show _ ≤ _; rw [hn]; exact HW.out.2
        have HWn : Hid (wd.length = n) := by show _ = _; rw [hn]; exact HW.out.1
        have HKl : Hid (i ≤ 1048577) := by have := HLl.out; show _ ≤ _; omega
        rw [← hn] at HVx HO1
        clear hn HTb HD HCell HRx hi hi2 b0 b1 b2 b3 lRx
        have HNe1 : Hid (∀ g, (Value.slice an n cn).ownBlock = some g → g < wx.heap.size) := fun g e => (World.ownsRow.lt HO1.out g e).2
        have HNe2 : Hid (∀ g, (Value.slice aw wd.length cw).ownBlock = some g → g < wx.heap.size) := fun g e => (World.ownsRow.lt HO2.out g e).2
        have HZx : Hid (W1.heap.size ≤ wx.heap.size) := HBx.out.size
        obtain ⟨k, hk⟩ : ∃ k, k = i + 3 := ⟨_, rfl⟩
        have HK3 : Hid (k = i + 3) := hk
        have HKb : Hid (k ≤ 1048580) := by have := HKl.out; show _ ≤ _; omega
        have hk3 : wrap64 ((i : Int) + 3) = (k : Int) := by have := HKl.out; rw [hk]; unfold wrap64; omega
        clear hk
        go_wp2_with fail
        clear hk3
        go_loopg [6, 9] n (fun g s6 s9 wr => ∃ (j : Nat) (fi : List ByteArray) (af : Option Addr) (cf : Nat), j ≤ n ∧ fi.length = j ∧ g = n - j ∧ s6 = .int .i64 ((k + j : Nat) : Int) ∧ s9 = .int .i64 j ∧ Hid (firR n n (ls.drop k) [] = firR n (n - j) (ls.drop (k + j)) fi) ∧ Hid (∀ t ∈ fi, t.size ≤ 1048576) ∧ Hid (Below V W1 wr) ∧ Hid (wx.heap.size ≤ wr.heap.size) ∧ Hid (wr.heap[V]? = some (.cells #[.slice an n cn, .slice aw wd.length cw, .slice af j cf, .slice none 0 0] 27 (0, 0))) ∧ Hid (wr.ownsRow W1.heap.size 9 1 (.slice an n cn) n (sC nm)) ∧ Hid (wr.ownsRow W1.heap.size 3 1 (.slice aw wd.length cw) wd.length (iC wd)) ∧ Hid (wr.ownsRow wx.heap.size 9 1 (.slice af j cf) j (sC fi)))
        case atStart => exact ⟨0, [], none, 0, Nat.zero_le _, rfl, rfl, (by have := HK3.out; have := HKb.out; first | with_reducible rfl | exact congrArg (Value.int .i64) (by omega) | exact congrArg (Value.int .i64) (by unfold wrap64; omega)), rfl, rfl, (fun t h => by cases h), HBx, Nat.le_refl _, HVx, HO1, HO2, World.ownsRow_nil _ _ _ _⟩
        case round =>
          obtain ⟨j, fi, af, cf, hj, hfl, rfl, rfl, rfl, HFi, HFs, HBy, HZy, HVy, HOn, HOw, HOf⟩ := hrel
          obtain ⟨wy, hwy⟩ : ∃ wy, wy = wr := ⟨_, rfl⟩
          rw [← hwy] at HBy HZy HVy HOn HOw HOf ⊢
          clear hwy
          have lVy := hLt HVy.out
          obtain ⟨tc, htc⟩ : ∃ tc : Bool, tc = decide (j < n ∧ k + j < ls.length) := ⟨_, rfl⟩
          have HTc : Hid (tc = decide (j < n ∧ k + j < ls.length)) := htc
          clear htc
          have HCell : Hid (∀ h : k + j < ls.length, ∃ g o, aL = some ⟨g, o, none⟩ ∧ g < wy.heap.size ∧ wy.cell? ⟨g, o + (k + j), none⟩ = some (.string (S ls[k + j]))) := fun h => by
            obtain ⟨g, o, e, hg, hc⟩ := str_at HS2.out (k + j) h
            have hgV := HSg.out g o e (fun e => by rw [e] at h; cases h)
            exact ⟨g, o, e, Nat.lt_of_lt_of_le hg HBy.out.size, (HBy.out.cell (p := ⟨g, o + (k + j), none⟩) hgV).trans hc⟩
          obtain ⟨b0, b1, b2, b3⟩ := cells4 HVy.out
          obtain ⟨kj, hkj⟩ : ∃ kj, kj = k + j := ⟨_, rfl⟩
          rw [← hkj] at HCell HTc HFi ⊢
          have HKj : Hid (kj = k + j) := hkj
          have HKj2 : Hid (kj ≤ 1052676) := by have := HKb.out; have := HN4.out; show _ ≤ _; omega
          clear hkj
          go_upto_region 18 with fail
          go_cut [84] from 74 to 84 (fun s84 wz => s84 = .bool tc ∧ wz = wy)
          case first =>
            by_cases c1 : j < n
            · have j1 : (j : Int) < (n : Int) := by omega
              by_cases c2 : kj < ls.length
              · have HY : Hid (tc = true) := by show _ = _; rw [HTc.out]; exact decide_eq_true ⟨c1, c2⟩
                have j2 : (kj : Int) < (ls.length : Int) := by omega
                go_wp2_with fail
                go_meet
                exact ⟨by rw [HY.out], rfl⟩
              · have HY : Hid (tc = false) := by show _ = _; rw [HTc.out]; exact decide_eq_false (fun h => c2 h.2)
                have j2 : ¬ (kj : Int) < (ls.length : Int) := by omega
                go_wp2_with fail
                go_meet
                exact ⟨by rw [HY.out], rfl⟩
            · have HY : Hid (tc = false) := by show _ = _; rw [HTc.out]; exact decide_eq_false (fun h => c1 h.1)
              have j1 : ¬ (j : Int) < (n : Int) := by omega
              go_wp2_with fail
              go_meet
              exact ⟨by rw [HY.out], rfl⟩
          case rest =>
            obtain ⟨rfl, hwd⟩ := hcut
            rw [hwd]
            clear hwd
            cases tc with
            | true =>
              obtain ⟨c1, c2⟩ := of_decide_eq_true HTc.out.symm
              obtain ⟨g, o, e, hg, hc⟩ := HCell.out c2
              subst e
              have HDr : Hid (ls.drop kj = ls[kj] :: ls.drop (kj + 1)) := List.drop_eq_getElem_cons c2
              have HTt : Hid (ls[kj].length ≤ 1048576) := HTl.out _ (List.getElem_mem c2)
              obtain ⟨t, ht⟩ : ∃ t, t = ls[kj] := ⟨_, rfl⟩
              rw [← ht] at hc HDr HTt
              have j1 : (j : Int) < (n : Int) := by omega
              have j2 : (kj : Int) < (ls.length : Int) := by omega
              have j0 : (0 : Int) ≤ (kj : Int) := by omega
              have HF2 : Hid (firR n n (ls.drop k) [] = firR n (n - (j + 1)) (ls.drop (kj + 1)) (fi ++ [S (chgL t n).2])) := by
                show _ = _
                rw [HFi.out, HDr.out, show n - j = (n - (j + 1)) + 1 from by omega]
                rfl
              have HCg : Hid (∀ W : World, Calls Tryz.prog 14 #[.string (S t), .int .i64 n] W fun e w' => e = .returned (.tuple #[.int .i64 (chgL t n).1, .string (S (chgL t n).2)]) ∧ Below W.heap.size W w') := fun W => rchg_c t n W HTt.out HN4.out
              have HVs : Hid ((S (chgL t n).2).size ≤ 1048576) := by show _ ≤ _; rw [size_S]; exact Nat.le_trans (chgL_len t n) HTt.out
              clear HDr HCell ht HTc HFi
              generalize (chgL t n).1 = cgk at *
              obtain ⟨q, hq⟩ : ∃ q, q = S (chgL t n).2 := ⟨_, rfl⟩
              rw [← hq] at HF2 HCg HVs
              clear hq
              obtain ⟨b0', hb0'⟩ : ∃ z, z = wy := ⟨_, rfl⟩
              clear hb0' b0'
              have r0 : wy.drew.cell? ⟨g, o + kj, none⟩ = some (.string (S t)) := hc
              have r1 : wy.drew.cell? ⟨V, 0, none⟩ = some (.slice an n cn) := b0
              have HK2 : Hid (∀ Y, Below wy.drew.heap.size wy.drew Y → Y.cell? ⟨g, o + kj, none⟩ = some (.string (S t)) ∧ Y.cell? ⟨V, 0, none⟩ = some (.slice an n cn)) := fun Y hY => ⟨(hY.cell (p := ⟨g, o + kj, none⟩) hg).trans hc, (hY.cell (p := ⟨V, 0, none⟩) lVy).trans b0⟩
              go_upto_region 20 with fail
              go_region_held3 (fun w' => w'.cell? ⟨g, o + kj, none⟩ = some (.string (S t)) ∧ w'.cell? ⟨V, 0, none⟩ = some (.slice an n cn)) (go_keep) (first
                | (go_at_call 14; refine (HCg.out _).mono ?_; rintro e w2 ⟨rfl, hb2⟩; obtain ⟨y0, y1⟩ := HK2.out w2 hb2))
              have HB2y : Hid (Below wy.heap.size wy w2) := (Below.refl wy.heap.size wy).drew.trans hb2
              clear r0 r1 y0 y1 hb2 HK2 b0 b1 b2 b3 hc HCg
              have HV2 : Hid (w2.heap[V]? = some (.cells #[.slice an n cn, .slice aw wd.length cw, .slice af j cf, .slice none 0 0] 27 (0, 0))) := (HB2y.out.block V lVy).trans HVy.out
              have HOn2 : Hid (w2.ownsRow W1.heap.size 9 1 (.slice an n cn) n (sC nm)) := own_below HOn.out HB2y.out
              have HOw2 : Hid (w2.ownsRow W1.heap.size 3 1 (.slice aw wd.length cw) wd.length (iC wd)) := own_below HOw.out HB2y.out
              have HOf2 : Hid (w2.ownsRow wx.heap.size 9 1 (.slice af j cf) j (sC fi)) := own_below HOf.out HB2y.out
              have HBz : Hid (Below V W1 w2) := HBy.out.trans (HB2y.out.mono (Nat.le_of_lt lVy))
              have HZ2 : Hid (wx.heap.size ≤ w2.heap.size) := Nat.le_trans HZy.out HB2y.out.size
              have lV2 := hLt HV2.out
              have HVlt : Hid (V < wx.heap.size) := Nat.lt_of_lt_of_le lV HZx.out
              clear HVy HOn HOw HOf HBy HB2y
              obtain ⟨b0, b1, b2, b3⟩ := cells4 HV2.out
              obtain ⟨jj, HJ⟩ : ∃ jj, Hid (Tryz.prog.info? 9 = some jj ∧ jj.zero = some (.string ⟨#[]⟩) ∧ jj.size = 1 ∧ jj.bytes = 16) := infoStr
              go_upto_region 22 with (first
                | (at_builtin; refine wpList_append_own_at _ rfl _ _ 23 rfl wx.heap.size 9 jj _ 1 16 Tryz.underlying23 HJ.out.1 HJ.out.2.1 HJ.out.2.2.1 HJ.out.2.2.2 rfl (by decide) (.slice af j cf) j (sC fi) rfl (HOf2.out.alloc _) ⟨w2.heap.size, 0, none⟩ 1 1 [.string q] rfl rfl (fun j u hj => new1i _ _ _ _ rfl j u hj) (one1s _) (by have := HN4.out; unfold maxLen; omega) (by have := HN4.out; omega) (Nat.le_trans HZ2.out (by simp)) ?_; intro v7 w7 hown7 hgrow7 hnil7 hloc7; obtain ⟨a7, c7, rfl⟩ := own_slice hown7; have HO7 : Hid (w7.ownsRow wx.heap.size 9 1 (.slice a7 (j + 1) c7) (j + 1) (sC fi ++ [.string q])) := hown7; have HG7 : Hid ((w2.alloc (.cells #[.string q] 9)).grownBy w7 (Value.slice af j cf).ownBlock) := hgrow7; clear hown7 hgrow7 hnil7 hloc7; have HV7 : Hid (w7.heap[V]? = some (.cells #[.slice an n cn, .slice aw wd.length cw, .slice af j cf, .slice none 0 0] 27 (0, 0))) := (HG7.out.block V (by simp; omega) (fun e => by have := (World.ownsRow.lt HOf2.out V e.symm).1; have := HVlt.out; omega)).trans ((alOld lV2).trans HV2.out); have lV7 := hLt HV7.out; obtain ⟨d0, d1, d2, d3⟩ := cells4 HV7.out; have df := fun j => Lib.frozen_of_heap HV7.out j))
              have HB7 : Hid (Below V W1 w7) := gB (HBz.out.alloc (Nat.le_of_lt lV2) (.cells #[.string q] 9)) HG7.out (fun g e => by have := (World.ownsRow.lt HOf2.out g e).1; have := HVlt.out; omega) (by simp; omega)
              have HOn7 : Hid (w7.ownsRow W1.heap.size 9 1 (.slice an n cn) n (sC nm)) := own_grown (HOn2.out.alloc _) HG7.out (fun g e e2 => by have := (World.ownsRow.lt HOf2.out g e2.symm).1; have := HNe1.out g e; omega)
              have HOw7 : Hid (w7.ownsRow W1.heap.size 3 1 (.slice aw wd.length cw) wd.length (iC wd)) := own_grown (HOw2.out.alloc _) HG7.out (fun g e e2 => by have := (World.ownsRow.lt HOf2.out g e2.symm).1; have := HNe2.out g e; omega)
              have HZ7 : Hid (wx.heap.size ≤ w7.heap.size) := Nat.le_trans (Nat.le_trans HZ2.out (by simp)) HG7.out.size
              clear d0 d1 d2 d3 df b0 b1 b2 b3
              go_wp2_with fail
              go_roundg (n - (j + 1))
              case measure => omega
              case rel =>
                refine ⟨j + 1, fi ++ [q], a7, c7, c1, by rw [List.length_append, hfl]; rfl, rfl, (by have := HKj.out; have := HKj2.out; first | exact congrArg (Value.int .i64) (by omega) | exact congrArg (Value.int .i64) (by unfold wrap64; omega)), (by first | with_reducible rfl | exact wrap_succ c1 (Nat.le_trans HN4.out (by decide)) | rfl), by rw [show k + (j + 1) = kj + 1 from by have := HKj.out; omega]; exact HF2, fun t ht => ?_, belSetV HB7.out (Nat.le_refl _), (by show _ ≤ (World.setCell _ _ _).heap.size; simp only [World.setCell, Array.size_modify]; exact HZ7.out), set42 HV7.out, ownsRow_setCell_below HOn7.out lV _, ownsRow_setCell_below HOw7.out lV _, ?_⟩
                · rcases List.mem_append.1 ht with ht | ht
                  · exact HFs.out t ht
                  · rw [List.mem_singleton] at ht
                    subst ht
                    exact HVs.out
                · show World.ownsRow _ _ _ _ _ _ _
                  rw [show sC (fi ++ [q]) = sC fi ++ [.string q] from by unfold sC; rw [List.map_append]; rfl]
                  exact ownsRow_setCell_below HO7.out HVlt.out _
            | false =>
              have HFx : Hid (firR n n (ls.drop k) [] = (ls.drop kj, fi)) := by
                show _ = _
                rw [HFi.out]
                have hno := of_decide_eq_false HTc.out.symm
                by_cases c1 : j < n
                · rw [List.drop_of_length_le (by omega), show n - j = (n - j - 1) + 1 from by omega]
                  rfl
                · rw [show n - j = 0 from by omega]
                  rfl
              have HVlt : Hid (V < wx.heap.size) := Nat.lt_of_lt_of_le lV HZx.out
              have HFl : Hid (fi.length = j) := hfl
              have HJn : Hid (j ≤ n) := hj
              have HNf : Hid (∀ g, (Value.slice af j cf).ownBlock = some g → g < wy.heap.size) := fun g e => (World.ownsRow.lt HOf.out g e).2
              have HNn1 : Hid (∀ g, (Value.slice an n cn).ownBlock = some g → g < wy.heap.size) := fun g e => (World.ownsRow.lt HOn.out g e).2
              have HNw1 : Hid (∀ g, (Value.slice aw wd.length cw).ownBlock = some g → g < wy.heap.size) := fun g e => (World.ownsRow.lt HOw.out g e).2
              have hkw : wrap64 ((kj : Int) + 1) = ((kj + 1 : Nat) : Int) := by have := HKj2.out; unfold wrap64; omega
              have hlp : 1 ≤ ls.length := by
                have h := spl_ne 10 l
                rw [← HLs.out] at h
                exact List.length_pos_iff.2 h
              have hlw : wrap64 ((ls.length : Int) - 1) = (ls.length : Int) - 1 := by have := HLl.out; unfold wrap64; omega
              have hkb1 : (kj : Int) ≤ 1052676 := by have := HKj2.out; omega
              have hkb0 : (0 : Int) ≤ (kj : Int) := by omega
              clear HTc HFi HCell hfl hj b0 b1 b2 b3 HNe1 HNe2 hkw
              go_wp2_with fail
              go_loopg [6, 12] (ls.length - (kj + 1)) (fun g s6 s12 wr => ∃ (a : Nat) (z : Int) (li : List Ch) (al : Option Addr) (cl : Nat), kj + 1 ≤ a ∧ (a = kj + 1 ∨ a ≤ ls.length) ∧ g = ls.length - a ∧ s6 = .int .i64 a ∧ s12 = .int .i64 z ∧ Hid (chgR n (ls.drop (kj + 1)) (-1) [] = chgR n (ls.drop a) z li) ∧ Hid (∀ c ∈ li, c.v.size ≤ 1048576) ∧ Hid (li.length ≤ a) ∧ Hid (Below V W1 wr) ∧ Hid (wy.heap.size ≤ wr.heap.size) ∧ Hid (wr.heap[V]? = some (.cells #[.slice an n cn, .slice aw wd.length cw, .slice af j cf, .slice al li.length cl] 27 (0, 0))) ∧ Hid (wr.ownsRow W1.heap.size 9 1 (.slice an n cn) n (sC nm)) ∧ Hid (wr.ownsRow W1.heap.size 3 1 (.slice aw wd.length cw) wd.length (iC wd)) ∧ Hid (wr.ownsRow wx.heap.size 9 1 (.slice af j cf) j (sC fi)) ∧ Hid (wr.ownsRow wy.heap.size 34 3 (.slice al li.length cl) li.length (chs li)))
              case atStart => exact ⟨kj + 1, -1, [], none, 0, Nat.le_refl _, Or.inl rfl, rfl, (by first | rfl | exact congrArg (Value.int .i64) (by omega)), rfl, rfl, (fun c h => by cases h), Nat.zero_le _, HBy, Nat.le_refl _, HVy, HOn, HOw, HOf, World.ownsRow_nil _ _ _ _⟩
              case round =>
                obtain ⟨a, z, li, al, cl, ha1, ha2, rfl, rfl, rfl, HCh, HVz, HLi, HBu, HZu, HVu, HOn3, HOw3, HOf3, HOl⟩ := hrel
                obtain ⟨wu, hwu⟩ : ∃ wu, wu = wr := ⟨_, rfl⟩
                rw [← hwu] at HBu HZu HVu HOn3 HOw3 HOf3 HOl ⊢
                clear hwu
                have lVu := hLt HVu.out
                have HAb : Hid (a ≤ 1052677) := by have := HKj2.out; have := HLl.out; show _ ≤ _; omega
                have HBwu : Hid (Below w.heap.size w wu) := HB2.out.trans (HBu.out.mono (Nat.le_trans HRw.out (Nat.le_of_lt HRV.out)))
                have HRu : Hid (wu.heap[R]? = some (.cells #[.slice none 0 0, .slice none 0 0, .slice none 0 0, .slice none 0 0] 27 (0, 0))) := (HBu.out.block R HRV.out).trans HR1.out
                have lRu := hLt HRu.out
                obtain ⟨b0, b1, b2, b3⟩ := cells4 HVu.out
                by_cases hin : a + 1 < ls.length
                · have i3 : (a : Int) < (ls.length : Int) - 1 := by omega
                  have i4 : (a : Int) < (ls.length : Int) := by omega
                  have i0 : (0 : Int) ≤ (a : Int) := by omega
                  have hlt : a < ls.length := by omega
                  obtain ⟨g, o, e, hg0, hc0⟩ := str_at HS2.out a hlt
                  have hgV := HSg.out g o e (fun e => by rw [e] at hlt; cases hlt)
                  subst e
                  have hg : g < wu.heap.size := Nat.lt_of_lt_of_le hg0 HBu.out.size
                  have hc : wu.cell? ⟨g, o + a, none⟩ = some (.string (S ls[a])) := (HBu.out.cell (p := ⟨g, o + a, none⟩) hgV).trans hc0
                  have hne : ls.drop (a + 1) ≠ [] := fun e => by have := congrArg List.length e; rw [List.length_drop] at this; simp at this; omega
                  have HDr : Hid (ls.drop a = ls[a] :: ls.drop (a + 1)) := List.drop_eq_getElem_cons hlt
                  have HTt : Hid (ls[a].length ≤ 1048576) := HTl.out _ (List.getElem_mem hlt)
                  obtain ⟨t, ht⟩ : ∃ t, t = ls[a] := ⟨_, rfl⟩
                  rw [← ht] at hc HDr HTt
                  have HC2 : Hid (chgR n (ls.drop (kj + 1)) (-1) [] = if isT t then chgR n (ls.drop (a + 1)) (numR (t.drop 1)) li else if (chgL t n).1 < 0 then none else chgR n (ls.drop (a + 1)) z (li ++ [⟨z, (chgL t n).1, S (chgL t n).2⟩])) := by
                    show _ = _
                    rw [HCh.out, HDr.out, chgR_cons hne]
                  clear HDr ht hc0 hg0 hne HCh
                  have HCg : Hid (∀ W : World, Calls Tryz.prog 14 #[.string (S t), .int .i64 n] W fun e w' => e = .returned (.tuple #[.int .i64 (chgL t n).1, .string (S (chgL t n).2)]) ∧ Below W.heap.size W w') := fun W => rchg_c t n W HTt.out HN4.out
                  have HVs : Hid ((S (chgL t n).2).size ≤ 1048576) := by show _ ≤ _; rw [size_S]; exact Nat.le_trans (chgL_len t n) HTt.out
                  have HNo : Hid (chgR n (ls.drop (kj + 1)) (-1) [] = none → keepR l = none) := fun h => keepR_none2 (nm := nm) (wd := wd) (r := ls.drop i) (by rw [← HLs.out]; exact HX.out) (by rw [List.drop_drop, ← HK3.out, ← HNn.out, HFx.out, List.drop_drop]; exact h)
                  have HK2 : Hid (∀ Y, Below wu.drew.heap.size wu.drew Y → Y.cell? ⟨g, o + a, none⟩ = some (.string (S t)) ∧ Y.cell? ⟨V, 0, none⟩ = some (.slice an n cn)) := fun Y hY => ⟨(hY.cell (p := ⟨g, o + a, none⟩) hg).trans hc, (hY.cell (p := ⟨V, 0, none⟩) lVu).trans b0⟩
                  have r0 : wu.drew.cell? ⟨g, o + a, none⟩ = some (.string (S t)) := hc
                  have r1 : wu.drew.cell? ⟨V, 0, none⟩ = some (.slice an n cn) := b0
                  by_cases hpos : 0 < (S t).size
                  · have e0 := emp_no (s := S t) (by omega)
                    have p0 : (0 : Int) < ((S t).size : Int) := by omega
                    obtain ⟨td, htd⟩ : ∃ td, td = isT t := ⟨_, rfl⟩
                    have HTd : Hid (td = ((S t)[0] == 35)) := by show _ = _; rw [htd]; exact isT_at t hpos
                    have HTe : Hid (td = isT t) := htd
                    rw [← htd] at HC2
                    clear htd
                    go_upto_region 27 with fail
                    go_cut [127] from 115 to 127 (fun s127 wz => s127 = .bool td ∧ wz = wu)
                    case first =>
                      by_cases hb : (S t)[0] = 35
                      · have HY : Hid (td = true) := by show _ = _; rw [HTd.out, hb]; rfl
                        have hb3 : ((S t)[0].toNat : Int) = 35 := by rw [hb]; rfl
                        clear hb
                        go_wp2_with fail
                        go_meet
                        exact ⟨by rw [HY.out], rfl⟩
                      · have HY : Hid (td = false) := by show _ = _; rw [HTd.out]; exact beq_eq_false_iff_ne.2 hb
                        have hb2 : ¬ ((S t)[0].toNat : Int) = 35 := fun e => hb (UInt8.toNat_inj.1 (by have : ((35 : UInt8).toNat) = 35 := rfl; omega))
                        have hb4 : (((S t)[0].toNat : Int) == 35) = false := beq_eq_false_iff_ne.2 hb2
                        clear hb
                        go_wp2_with fail
                        go_meet
                        exact ⟨by rw [HY.out, ← hb4], rfl⟩
                    case rest =>
                      obtain ⟨rfl, hwd⟩ := hcut
                      rw [hwd]
                      clear hwd
                      cases td with
                      | true =>
                        have HC3 : Hid (chgR n (ls.drop (kj + 1)) (-1) [] = chgR n (ls.drop (a + 1)) (numR (t.drop 1)) li) := HC2.out
                        obtain ⟨q, hq⟩ : ∃ q, q = S (t.drop 1) := ⟨_, rfl⟩
                        have e1 : (S t).extract 1 (S t).size = q := by rw [hq]; exact ext_tl1 t
                        have HNu : Hid (∀ W : World, Calls Tryz.prog 13 #[.string q] W fun e w' => e = .returned (.int .i64 (numR (t.drop 1))) ∧ w' = W) := fun W => by
                          have := rnum_c (S (t.drop 1)) W (by rw [size_S, List.length_drop]; have := HTt.out; omega)
                          rw [L_S, ← hq] at this
                          exact this
                        clear hq
                        have p1 : (1 : Int) ≤ ((S t).size : Int) := by omega
                        clear HC2 HTd HTe HCg HVs HNo HK2 r0 r1
                        go_wp2_with (first
                          | (go_at_call 13; refine (HNu.out _).mono ?_; rintro e w9 ⟨rfl, hw9⟩; rw [hw9]; clear hw9))
                        go_roundg (ls.length - (a + 1))
                        case measure => omega
                        case rel => exact ⟨a + 1, numR (t.drop 1), li, al, cl, by omega, Or.inr (by omega), rfl, (by first | with_reducible rfl | exact wrap_succ (n := ls.length) hlt (Nat.le_trans HLl.out (by decide)) | rfl), (by first | rfl | rw [List.drop_one]), HC3, HVz, Nat.le_succ_of_le HLi.out, HBu, HZu, HVu, HOn3, HOw3, HOf3, HOl⟩
                      | false =>
                        have HC3 : Hid (chgR n (ls.drop (kj + 1)) (-1) [] = if (chgL t n).1 < 0 then none else chgR n (ls.drop (a + 1)) z (li ++ [⟨z, (chgL t n).1, S (chgL t n).2⟩])) := by
                          have := HC2.out
                          rw [if_neg (by decide)] at this
                          exact this
                        clear HTd HTe
                        obtain ⟨ck, hck⟩ : ∃ ck, ck = (chgL t n).1 := ⟨_, rfl⟩
                        obtain ⟨q, hq⟩ : ∃ q, q = S (chgL t n).2 := ⟨_, rfl⟩
                        rw [← hck, ← hq] at HC3 HCg
                        rw [← hq] at HVs
                        clear hck hq HC2 b0 b1 b2 b3 hc
                        go_upto_region 29 with fail
                        go_region_held3 (fun w' => w'.cell? ⟨g, o + a, none⟩ = some (.string (S t)) ∧ w'.cell? ⟨V, 0, none⟩ = some (.slice an n cn)) (go_keep) (first
                          | (go_at_call 14; refine (HCg.out _).mono ?_; rintro e w2 ⟨rfl, hb2⟩; obtain ⟨y0, y1⟩ := HK2.out w2 hb2))
                        have HB2y : Hid (Below wu.heap.size wu w2) := (Below.refl wu.heap.size wu).drew.trans hb2
                        clear r0 r1 y0 y1 hb2 HK2 HCg
                        have HV2 : Hid (w2.heap[V]? = some (.cells #[.slice an n cn, .slice aw wd.length cw, .slice af j cf, .slice al li.length cl] 27 (0, 0))) := (HB2y.out.block V lVu).trans HVu.out
                        have lV2 := hLt HV2.out
                        by_cases hk0 : ck < 0
                        · have HKn : Hid (keepR l = none) := HNo.out (by rw [HC3.out, if_pos hk0])
                          have HR2 : Hid (w2.heap[R]? = some (.cells #[.slice none 0 0, .slice none 0 0, .slice none 0 0, .slice none 0 0] 27 (0, 0))) := (HB2y.out.block R lRu).trans HRu.out
                          obtain ⟨q0, q1, q2, q3⟩ := cells4 HR2.out
                          have qf := fun j => Lib.frozen_of_heap HR2.out j
                          have lR2 := hLt HR2.out
                          clear HC3 HNo
                          go_wp2_with fail
                          obtain ⟨WA, hWA⟩ : ∃ WA, WA = (((w2.setCell ⟨R, 0, none⟩ (.slice none 0 0)).setCell ⟨R, 1, none⟩ (.slice none 0 0)).setCell ⟨R, 2, none⟩ (.slice none 0 0)).setCell ⟨R, 3, none⟩ (.slice none 0 0) := ⟨_, rfl⟩
                          have HRA : Hid (WA.heap[R]? = some (.cells #[.slice none 0 0, .slice none 0 0, .slice none 0 0, .slice none 0 0] 27 (0, 0))) := by rw [hWA]; exact put4 HR2.out
                          have HBA : Hid (Below w.heap.size w WA) := by rw [hWA]; exact belSetV (belSetV (belSetV (belSetV (bel HBwu.out HB2y.out) HRw.out) HRw.out) HRw.out) HRw.out
                          rw [← hWA]
                          clear hWA
                          obtain ⟨z0, z1, z2, z3⟩ := cells4 HRA.out
                          try simp only [Exit.inBlock, Exit.then]
                          refine bodyPost_ret (v := .tuple #[.agg #[.slice none 0 0, .slice none 0 0, .slice none 0 0, .slice none 0 0], .int .i64 190]) (by simp [results, Tryz.results6, go_sem, z0, z1, z2, z3]) rfl ?_
                          rw [HKn.out]
                          exact ⟨HBA.out, rfl⟩
                        · have HC4 : Hid (chgR n (ls.drop (kj + 1)) (-1) [] = chgR n (ls.drop (a + 1)) z (li ++ [⟨z, ck, q⟩])) := by show _ = _; rw [HC3.out, if_neg hk0]
                          have HVlt3 : Hid (V < wy.heap.size) := lVy
                          have HOn2 : Hid (w2.ownsRow W1.heap.size 9 1 (.slice an n cn) n (sC nm)) := own_below HOn3.out HB2y.out
                          have HOw2 : Hid (w2.ownsRow W1.heap.size 3 1 (.slice aw wd.length cw) wd.length (iC wd)) := own_below HOw3.out HB2y.out
                          have HOf2 : Hid (w2.ownsRow wx.heap.size 9 1 (.slice af j cf) j (sC fi)) := own_below HOf3.out HB2y.out
                          have HOl2 : Hid (w2.ownsRow wy.heap.size 34 3 (.slice al li.length cl) li.length (chs li)) := own_below HOl.out HB2y.out
                          have HBz2 : Hid (Below V W1 w2) := HBu.out.trans (HB2y.out.mono (Nat.le_of_lt lVu))
                          have HZ2 : Hid (wy.heap.size ≤ w2.heap.size) := Nat.le_trans HZu.out HB2y.out.size
                          have HLb : Hid (li.length ≤ 1052677) := Nat.le_trans HLi.out HAb.out
                          have hkz : ¬ ck < 0 := hk0
                          clear HVu HOn3 HOw3 HOf3 HOl HBu HB2y HRu lRu HC3 HNo HBwu
                          obtain ⟨b0, b1, b2, b3⟩ := cells4 HV2.out
                          obtain ⟨jj, HJ⟩ : ∃ jj, Hid (Tryz.prog.info? 34 = some jj ∧ jj.zero = some (.agg #[.int .i64 0, .int .i64 0, .string ⟨#[]⟩]) ∧ jj.size = 3 ∧ jj.bytes = 32) := infoCh
                          go_wp2_with (first
                            | (at_builtin; refine wpList_append_own_at _ rfl _ _ 25 rfl wy.heap.size 34 jj _ 3 32 Tryz.underlying25 HJ.out.1 HJ.out.2.1 HJ.out.2.2.1 HJ.out.2.2.2 rfl (by decide) (.slice al li.length cl) li.length (chs li) rfl (HOl2.out.alloc _) ⟨w2.heap.size, 0, none⟩ 1 1 [.int .i64 z, .int .i64 ck, .string q] rfl rfl (fun j u hj => new3 _ ⟨z, ck, q⟩ 34 _ rfl j u hj) (one3 ⟨z, ck, q⟩) (by have := HLb.out; unfold maxLen; omega) (by have := HLb.out; omega) (Nat.le_trans HZ2.out (by simp)) ?_; intro v7 w7 hown7 hgrow7 hnil7 hloc7; obtain ⟨a7, c7, rfl⟩ := own_slice hown7; have HO7 : Hid (w7.ownsRow wy.heap.size 34 3 (.slice a7 (li.length + 1) c7) (li.length + 1) (chs li ++ [.int .i64 z, .int .i64 ck, .string q])) := hown7; have HG7 : Hid ((w2.alloc (.cells #[.int .i64 z, .int .i64 ck, .string q] 34)).grownBy w7 (Value.slice al li.length cl).ownBlock) := hgrow7; clear hown7 hgrow7 hnil7 hloc7; have HV7 : Hid (w7.heap[V]? = some (.cells #[.slice an n cn, .slice aw wd.length cw, .slice af j cf, .slice al li.length cl] 27 (0, 0))) := (HG7.out.block V (by simp; omega) (fun e => by have := (World.ownsRow.lt HOl2.out V e.symm).1; have := HVlt3.out; omega)).trans ((alOld lV2).trans HV2.out); have lV7 := hLt HV7.out; obtain ⟨d0, d1, d2, d3⟩ := cells4 HV7.out; have df := fun j => Lib.frozen_of_heap HV7.out j))
                          have HB7 : Hid (Below V W1 w7) := gB (HBz2.out.alloc (Nat.le_of_lt lV2) (.cells #[.int .i64 z, .int .i64 ck, .string q] 34)) HG7.out (fun g e => by have := (World.ownsRow.lt HOl2.out g e).1; have := HVlt3.out; omega) (by simp; omega)
                          have HOn7 : Hid (w7.ownsRow W1.heap.size 9 1 (.slice an n cn) n (sC nm)) := own_grown (HOn2.out.alloc _) HG7.out (fun g e e2 => by have := (World.ownsRow.lt HOl2.out g e2.symm).1; have := HNn1.out g e; omega)
                          have HOw7 : Hid (w7.ownsRow W1.heap.size 3 1 (.slice aw wd.length cw) wd.length (iC wd)) := own_grown (HOw2.out.alloc _) HG7.out (fun g e e2 => by have := (World.ownsRow.lt HOl2.out g e2.symm).1; have := HNw1.out g e; omega)
                          have HOf7 : Hid (w7.ownsRow wx.heap.size 9 1 (.slice af j cf) j (sC fi)) := own_grown (HOf2.out.alloc _) HG7.out (fun g e e2 => by have := (World.ownsRow.lt HOl2.out g e2.symm).1; have := HNf.out g e; omega)
                          have HZ7 : Hid (wy.heap.size ≤ w7.heap.size) := Nat.le_trans (Nat.le_trans HZ2.out (by simp)) HG7.out.size
                          go_roundg (ls.length - (a + 1))
                          case measure => omega
                          case rel =>
                            refine ⟨a + 1, z, li ++ [⟨z, ck, q⟩], a7, c7, by omega, Or.inr (by omega), rfl, (by first | with_reducible rfl | exact wrap_succ (n := ls.length) hlt (Nat.le_trans HLl.out (by decide)) | rfl), rfl, HC4, fun c hc => ?_, by rw [List.length_append]; exact Nat.succ_le_succ HLi.out, belSetV HB7.out (Nat.le_refl _), (by show _ ≤ (World.setCell _ _ _).heap.size; simp only [World.setCell, Array.size_modify]; exact HZ7.out), by rw [List.length_append]; exact set43h HV7.out, ownsRow_setCell_below HOn7.out lV _, ownsRow_setCell_below HOw7.out lV _, ownsRow_setCell_below HOf7.out HVlt.out _, ?_⟩
                            · rcases List.mem_append.1 hc with hc | hc
                              · exact HVz.out c hc
                              · rw [List.mem_singleton] at hc
                                subst hc
                                exact HVs.out
                            · rw [List.length_append]
                              show World.ownsRow _ _ _ _ _ _ _
                              rw [show chs (li ++ [⟨z, ck, q⟩]) = chs li ++ [.int .i64 z, .int .i64 ck, .string q] from by rw [chs_app]; simp [chs, chC]]
                              exact ownsRow_setCell_below HO7.out HVlt3.out _
                  · have htn : t = [] := List.eq_nil_of_length_eq_zero (by rw [size_S] at hpos; omega)
                    have e0 := emp_yes (s := S t) (by omega)
                    have HC3 : Hid (chgR n (ls.drop (kj + 1)) (-1) [] = if (chgL t n).1 < 0 then none else chgR n (ls.drop (a + 1)) z (li ++ [⟨z, (chgL t n).1, S (chgL t n).2⟩])) := by
                      have := HC2.out
                      rw [if_neg (show ¬ (isT t = true) by rw [htn]; decide)] at this
                      exact this
                    clear htn
                    go_upto_region 29 with fail
                    obtain ⟨ck, hck⟩ : ∃ ck, ck = (chgL t n).1 := ⟨_, rfl⟩
                    obtain ⟨q, hq⟩ : ∃ q, q = S (chgL t n).2 := ⟨_, rfl⟩
                    rw [← hck, ← hq] at HC3 HCg
                    rw [← hq] at HVs
                    clear hck hq HC2 b0 b1 b2 b3 hc
                    go_region_held3 (fun w' => w'.cell? ⟨g, o + a, none⟩ = some (.string (S t)) ∧ w'.cell? ⟨V, 0, none⟩ = some (.slice an n cn)) (go_keep) (first
                      | (go_at_call 14; refine (HCg.out _).mono ?_; rintro e w2 ⟨rfl, hb2⟩; obtain ⟨y0, y1⟩ := HK2.out w2 hb2))
                    have HB2y : Hid (Below wu.heap.size wu w2) := (Below.refl wu.heap.size wu).drew.trans hb2
                    clear r0 r1 y0 y1 hb2 HK2 HCg
                    have HV2 : Hid (w2.heap[V]? = some (.cells #[.slice an n cn, .slice aw wd.length cw, .slice af j cf, .slice al li.length cl] 27 (0, 0))) := (HB2y.out.block V lVu).trans HVu.out
                    have lV2 := hLt HV2.out
                    by_cases hk0 : ck < 0
                    · have HKn : Hid (keepR l = none) := HNo.out (by rw [HC3.out, if_pos hk0])
                      have HR2 : Hid (w2.heap[R]? = some (.cells #[.slice none 0 0, .slice none 0 0, .slice none 0 0, .slice none 0 0] 27 (0, 0))) := (HB2y.out.block R lRu).trans HRu.out
                      obtain ⟨q0, q1, q2, q3⟩ := cells4 HR2.out
                      have qf := fun j => Lib.frozen_of_heap HR2.out j
                      have lR2 := hLt HR2.out
                      clear HC3 HNo
                      go_wp2_with fail
                      obtain ⟨WA, hWA⟩ : ∃ WA, WA = (((w2.setCell ⟨R, 0, none⟩ (.slice none 0 0)).setCell ⟨R, 1, none⟩ (.slice none 0 0)).setCell ⟨R, 2, none⟩ (.slice none 0 0)).setCell ⟨R, 3, none⟩ (.slice none 0 0) := ⟨_, rfl⟩
                      have HRA : Hid (WA.heap[R]? = some (.cells #[.slice none 0 0, .slice none 0 0, .slice none 0 0, .slice none 0 0] 27 (0, 0))) := by rw [hWA]; exact put4 HR2.out
                      have HBA : Hid (Below w.heap.size w WA) := by rw [hWA]; exact belSetV (belSetV (belSetV (belSetV (bel HBwu.out HB2y.out) HRw.out) HRw.out) HRw.out) HRw.out
                      rw [← hWA]
                      clear hWA
                      obtain ⟨z0, z1, z2, z3⟩ := cells4 HRA.out
                      try simp only [Exit.inBlock, Exit.then]
                      refine bodyPost_ret (v := .tuple #[.agg #[.slice none 0 0, .slice none 0 0, .slice none 0 0, .slice none 0 0], .int .i64 190]) (by simp [results, Tryz.results6, go_sem, z0, z1, z2, z3]) rfl ?_
                      rw [HKn.out]
                      exact ⟨HBA.out, rfl⟩
                    · have HC4 : Hid (chgR n (ls.drop (kj + 1)) (-1) [] = chgR n (ls.drop (a + 1)) z (li ++ [⟨z, ck, q⟩])) := by show _ = _; rw [HC3.out, if_neg hk0]
                      have HVlt3 : Hid (V < wy.heap.size) := lVy
                      have HOn2 : Hid (w2.ownsRow W1.heap.size 9 1 (.slice an n cn) n (sC nm)) := own_below HOn3.out HB2y.out
                      have HOw2 : Hid (w2.ownsRow W1.heap.size 3 1 (.slice aw wd.length cw) wd.length (iC wd)) := own_below HOw3.out HB2y.out
                      have HOf2 : Hid (w2.ownsRow wx.heap.size 9 1 (.slice af j cf) j (sC fi)) := own_below HOf3.out HB2y.out
                      have HOl2 : Hid (w2.ownsRow wy.heap.size 34 3 (.slice al li.length cl) li.length (chs li)) := own_below HOl.out HB2y.out
                      have HBz2 : Hid (Below V W1 w2) := HBu.out.trans (HB2y.out.mono (Nat.le_of_lt lVu))
                      have HZ2 : Hid (wy.heap.size ≤ w2.heap.size) := Nat.le_trans HZu.out HB2y.out.size
                      have HLb : Hid (li.length ≤ 1052677) := Nat.le_trans HLi.out HAb.out
                      have hkz : ¬ ck < 0 := hk0
                      clear HVu HOn3 HOw3 HOf3 HOl HBu HB2y HRu lRu HC3 HNo HBwu
                      obtain ⟨b0, b1, b2, b3⟩ := cells4 HV2.out
                      obtain ⟨jj, HJ⟩ : ∃ jj, Hid (Tryz.prog.info? 34 = some jj ∧ jj.zero = some (.agg #[.int .i64 0, .int .i64 0, .string ⟨#[]⟩]) ∧ jj.size = 3 ∧ jj.bytes = 32) := infoCh
                      go_wp2_with (first
                        | (at_builtin; refine wpList_append_own_at _ rfl _ _ 25 rfl wy.heap.size 34 jj _ 3 32 Tryz.underlying25 HJ.out.1 HJ.out.2.1 HJ.out.2.2.1 HJ.out.2.2.2 rfl (by decide) (.slice al li.length cl) li.length (chs li) rfl (HOl2.out.alloc _) ⟨w2.heap.size, 0, none⟩ 1 1 [.int .i64 z, .int .i64 ck, .string q] rfl rfl (fun j u hj => new3 _ ⟨z, ck, q⟩ 34 _ rfl j u hj) (one3 ⟨z, ck, q⟩) (by have := HLb.out; unfold maxLen; omega) (by have := HLb.out; omega) (Nat.le_trans HZ2.out (by simp)) ?_; intro v7 w7 hown7 hgrow7 hnil7 hloc7; obtain ⟨a7, c7, rfl⟩ := own_slice hown7; have HO7 : Hid (w7.ownsRow wy.heap.size 34 3 (.slice a7 (li.length + 1) c7) (li.length + 1) (chs li ++ [.int .i64 z, .int .i64 ck, .string q])) := hown7; have HG7 : Hid ((w2.alloc (.cells #[.int .i64 z, .int .i64 ck, .string q] 34)).grownBy w7 (Value.slice al li.length cl).ownBlock) := hgrow7; clear hown7 hgrow7 hnil7 hloc7; have HV7 : Hid (w7.heap[V]? = some (.cells #[.slice an n cn, .slice aw wd.length cw, .slice af j cf, .slice al li.length cl] 27 (0, 0))) := (HG7.out.block V (by simp; omega) (fun e => by have := (World.ownsRow.lt HOl2.out V e.symm).1; have := HVlt3.out; omega)).trans ((alOld lV2).trans HV2.out); have lV7 := hLt HV7.out; obtain ⟨d0, d1, d2, d3⟩ := cells4 HV7.out; have df := fun j => Lib.frozen_of_heap HV7.out j))
                      have HB7 : Hid (Below V W1 w7) := gB (HBz2.out.alloc (Nat.le_of_lt lV2) (.cells #[.int .i64 z, .int .i64 ck, .string q] 34)) HG7.out (fun g e => by have := (World.ownsRow.lt HOl2.out g e).1; have := HVlt3.out; omega) (by simp; omega)
                      have HOn7 : Hid (w7.ownsRow W1.heap.size 9 1 (.slice an n cn) n (sC nm)) := own_grown (HOn2.out.alloc _) HG7.out (fun g e e2 => by have := (World.ownsRow.lt HOl2.out g e2.symm).1; have := HNn1.out g e; omega)
                      have HOw7 : Hid (w7.ownsRow W1.heap.size 3 1 (.slice aw wd.length cw) wd.length (iC wd)) := own_grown (HOw2.out.alloc _) HG7.out (fun g e e2 => by have := (World.ownsRow.lt HOl2.out g e2.symm).1; have := HNw1.out g e; omega)
                      have HOf7 : Hid (w7.ownsRow wx.heap.size 9 1 (.slice af j cf) j (sC fi)) := own_grown (HOf2.out.alloc _) HG7.out (fun g e e2 => by have := (World.ownsRow.lt HOl2.out g e2.symm).1; have := HNf.out g e; omega)
                      have HZ7 : Hid (wy.heap.size ≤ w7.heap.size) := Nat.le_trans (Nat.le_trans HZ2.out (by simp)) HG7.out.size
                      go_roundg (ls.length - (a + 1))
                      case measure => omega
                      case rel =>
                        refine ⟨a + 1, z, li ++ [⟨z, ck, q⟩], a7, c7, by omega, Or.inr (by omega), rfl, (by first | with_reducible rfl | exact wrap_succ (n := ls.length) hlt (Nat.le_trans HLl.out (by decide)) | rfl), rfl, HC4, fun c hc => ?_, by rw [List.length_append]; exact Nat.succ_le_succ HLi.out, belSetV HB7.out (Nat.le_refl _), (by show _ ≤ (World.setCell _ _ _).heap.size; simp only [World.setCell, Array.size_modify]; exact HZ7.out), by rw [List.length_append]; exact set43h HV7.out, ownsRow_setCell_below HOn7.out lV _, ownsRow_setCell_below HOw7.out lV _, ownsRow_setCell_below HOf7.out HVlt.out _, ?_⟩
                        · rcases List.mem_append.1 hc with hc | hc
                          · exact HVz.out c hc
                          · rw [List.mem_singleton] at hc
                            subst hc
                            exact HVs.out
                        · rw [List.length_append]
                          show World.ownsRow _ _ _ _ _ _ _
                          rw [show chs (li ++ [⟨z, ck, q⟩]) = chs li ++ [.int .i64 z, .int .i64 ck, .string q] from by rw [chs_app]; simp [chs, chC]]
                          exact ownsRow_setCell_below HO7.out HVlt3.out _
                · have i5 : ¬ (a : Int) < (ls.length : Int) - 1 := by omega
                  have HCx : Hid (chgR n (ls.drop (kj + 1)) (-1) [] = some li) := by
                    show _ = _
                    rw [HCh.out]
                    have hlen : (ls.drop a).length ≤ 1 := by rw [List.length_drop]; omega
                    match hd : ls.drop a, hlen with
                    | [], _ => rfl
                    | [_], _ => rfl
                    | _ :: _ :: _, h => simp at h
                  obtain ⟨x, hx⟩ : ∃ x : Wv, x = ⟨nm, wd, fi, li⟩ := ⟨_, rfl⟩
                  have HRf : Hid (refM l = some x) := by
                    show _ = _
                    rw [hx]
                    refine refM_some (r := ls.drop i) (r2 := ls.drop kj) ?_ ?_ ?_
                    · rw [← HLs.out]; exact HX.out
                    · rw [List.drop_drop, ← HK3.out, ← HNn.out]; exact HFx.out
                    · rw [List.drop_drop, ← HNn.out]; exact HCx.out
                  have HXx : Hid (x = ⟨nm, wd, fi, li⟩) := hx
                  have hM : (1048576 : Nat) ≤ maxLen := by decide
                  have HSz : Hid (Sz x) := by
                    show Sz x
                    rw [hx]
                    exact ⟨fun t ht => Nat.le_trans (HNs.out t ht) hM, fun t ht => Nat.le_trans (HFs.out t ht) hM, fun c hc => Nat.le_trans (HVz.out c hc) hM, Nat.le_trans HLi.out (Nat.le_trans HAb.out (by decide))⟩
                  have HLx : Hid (x.li.length ≤ 100000000) := by show _ ≤ _; rw [hx]; exact Nat.le_trans HLi.out (Nat.le_trans HAb.out (by decide))
                  have HAx : Hid (∀ W : World, W.ownsRow W1.heap.size 9 1 (.slice an n cn) n (sC nm) → W.ownsRow W1.heap.size 3 1 (.slice aw wd.length cw) wd.length (iC wd) → W.ownsRow wx.heap.size 9 1 (.slice af j cf) j (sC fi) → W.ownsRow wy.heap.size 34 3 (.slice al li.length cl) li.length (chs li) → WvAt W (.slice an n cn) (.slice aw wd.length cw) (.slice af j cf) (.slice al li.length cl) x) := fun W h1 h2 h3 h4 => by
                    rw [hx]
                    have e1 := HNn.out
                    have e2 := HFl.out
                    subst e1
                    subst e2
                    exact ⟨own_strs h1, own_intsV h2, own_strs h3, own_chs h4⟩
                  have HPu : Hid (PowT wu) := HPw.out.bel HBwu.out
                  clear hx HCh HCx HX HFx HFs HVz HNs
                  obtain ⟨T, hT⟩ : ∃ T, T = S (wrT x) := ⟨_, rfl⟩
                  obtain ⟨oe, hoe⟩ : ∃ oe, oe = wrE x := ⟨_, rfl⟩
                  have HWr : Hid (Calls Tryz.prog 15 #[.agg #[.slice an n cn, .slice aw wd.length cw, .slice af j cf, .slice al li.length cl]] wu fun e w' => e = .returned (.tuple #[.string T, .int .i64 oe]) ∧ Below wu.heap.size wu w') := by
                    show Calls _ _ _ _ _
                    rw [hT, hoe]
                    exact rWrite_c x _ _ _ _ wu (HAx.out wu HOn3.out HOw3.out HOf3.out HOl.out) HSz.out HLx.out HPu.out
                  have HT : Hid (T = S (wrT x)) := hT
                  have HO : Hid (oe = wrE x) := hoe
                  clear hT hoe
                  go_upto_region 34 with (first
                    | (go_at_call 15; refine HWr.out.mono ?_; rintro e w5 ⟨rfl, hb5⟩))
                  have HB5 : Hid (Below wu.heap.size wu w5) := hb5
                  clear hb5 b0 b1 b2 b3
                  have HV5 : Hid (w5.heap[V]? = some (.cells #[.slice an n cn, .slice aw wd.length cw, .slice af j cf, .slice al li.length cl] 27 (0, 0))) := (HB5.out.block V lVu).trans HVu.out
                  have HR5 : Hid (w5.heap[R]? = some (.cells #[.slice none 0 0, .slice none 0 0, .slice none 0 0, .slice none 0 0] 27 (0, 0))) := (HB5.out.block R lRu).trans HRu.out
                  have lV5 := hLt HV5.out
                  have lR5 := hLt HR5.out
                  by_cases ho : oe = 0
                  · subst ho
                    by_cases ht : T = s
                    · have HKs : Hid (keepR l = some x) := by
                        show _ = _
                        unfold keepR
                        rw [HRf.out]
                        have e : wrT x = l := by
                          have := congrArg L (HT.out.symm.trans (ht.trans HSs.out))
                          rw [L_S, L_S] at this
                          exact this
                        exact if_pos ⟨HO.out.symm, e⟩
                      have ec : (T.toList == s.toList) = true := by rw [ht]; exact beq_self_eq_true _
                      clear ht
                      obtain ⟨b0, b1, b2, b3⟩ := cells4 HV5.out
                      obtain ⟨q0, q1, q2, q3⟩ := cells4 HR5.out
                      have qf := fun j => Lib.frozen_of_heap HR5.out j
                      go_wp2_with fail
                      obtain ⟨WA, hWA⟩ : ∃ WA, WA = (((w5.setCell ⟨R, 0, none⟩ (.slice an n cn)).setCell ⟨R, 1, none⟩ (.slice aw wd.length cw)).setCell ⟨R, 2, none⟩ (.slice af j cf)).setCell ⟨R, 3, none⟩ (.slice al li.length cl) := ⟨_, rfl⟩
                      have HRA : Hid (WA.heap[R]? = some (.cells #[.slice an n cn, .slice aw wd.length cw, .slice af j cf, .slice al li.length cl] 27 (0, 0))) := by rw [hWA]; exact put4 HR5.out
                      have HBA : Hid (Below w.heap.size w WA) := by rw [hWA]; exact belSetV (belSetV (belSetV (belSetV (bel HBwu.out HB5.out) HRw.out) HRw.out) HRw.out) HRw.out
                      have hRV := HRV.out
                      have hV1 := lV
                      have hVx := HVlt.out
                      have hWA4 : ∀ {B e z n' : Nat} {v : Value} {xs : List Value}, R < B → w5.ownsRow B e z v n' xs → WA.ownsRow B e z v n' xs := fun hB h => by
                        rw [hWA]
                        exact ownsRow_setCell_below (ownsRow_setCell_below (ownsRow_setCell_below (ownsRow_setCell_below h hB _) hB _) hB _) hB _
                      have HWv : Hid (WvAt WA (.slice an n cn) (.slice aw wd.length cw) (.slice af j cf) (.slice al li.length cl) x) := HAx.out WA (hWA4 (by omega) (own_below HOn3.out HB5.out)) (hWA4 (by omega) (own_below HOw3.out HB5.out)) (hWA4 (by omega) (own_below HOf3.out HB5.out)) (hWA4 (by omega) (own_below HOl.out HB5.out))
                      clear hWA4
                      rw [← hWA]
                      clear hWA
                      obtain ⟨z0, z1, z2, z3⟩ := cells4 HRA.out
                      try simp only [Exit.inBlock, Exit.then]
                      refine bodyPost_ret (v := .tuple #[.agg #[.slice an n cn, .slice aw wd.length cw, .slice af j cf, .slice al li.length cl], .int .i64 0]) (by simp [results, Tryz.results6, go_sem, z0, z1, z2, z3]) rfl ?_
                      rw [HKs.out]
                      refine ⟨HBA.out, an, cn, aw, cw, af, cf, al, cl, ?_, ?_⟩
                      · rw [HXx.out, ← HNn.out, HFl.out]
                      · have hw := HWv.out
                        have e1 : x.nm.length = n := by rw [HXx.out]; exact HNn.out.symm
                        have e2 : x.wd.length = wd.length := by rw [HXx.out]
                        have e3 : x.fi.length = j := by rw [HXx.out]; exact HFl.out
                        have e4 : x.li.length = li.length := by rw [HXx.out]
                        rw [e1, e2, e3, e4]
                        exact hw
                    · have HKn : Hid (keepR l = none) := by
                        show _ = _
                        unfold keepR
                        rw [HRf.out]
                        exact if_neg (fun h => ht (by rw [HT.out, h.2, HSs.out]))
                      have ec : (T.toList == s.toList) = false := by
                        rw [beq_eq_false_iff_ne, toL, toL]
                        exact fun e => ht (L_inj e)
                      clear ht
                      obtain ⟨q0, q1, q2, q3⟩ := cells4 HR5.out
                      have qf := fun j => Lib.frozen_of_heap HR5.out j
                      go_wp2_with fail
                      obtain ⟨WA, hWA⟩ : ∃ WA, WA = (((w5.setCell ⟨R, 0, none⟩ (.slice none 0 0)).setCell ⟨R, 1, none⟩ (.slice none 0 0)).setCell ⟨R, 2, none⟩ (.slice none 0 0)).setCell ⟨R, 3, none⟩ (.slice none 0 0) := ⟨_, rfl⟩
                      have HRA : Hid (WA.heap[R]? = some (.cells #[.slice none 0 0, .slice none 0 0, .slice none 0 0, .slice none 0 0] 27 (0, 0))) := by rw [hWA]; exact put4 HR5.out
                      have HBA : Hid (Below w.heap.size w WA) := by rw [hWA]; exact belSetV (belSetV (belSetV (belSetV (bel HBwu.out HB5.out) HRw.out) HRw.out) HRw.out) HRw.out
                      rw [← hWA]
                      clear hWA
                      obtain ⟨z0, z1, z2, z3⟩ := cells4 HRA.out
                      try simp only [Exit.inBlock, Exit.then]
                      refine bodyPost_ret (v := .tuple #[.agg #[.slice none 0 0, .slice none 0 0, .slice none 0 0, .slice none 0 0], .int .i64 190]) (by simp [results, Tryz.results6, go_sem, z0, z1, z2, z3]) rfl ?_
                      rw [HKn.out]
                      exact ⟨HBA.out, rfl⟩
                  · have HKn : Hid (keepR l = none) := by
                      show _ = _
                      unfold keepR
                      rw [HRf.out]
                      exact if_neg (fun h => ho (HO.out.trans h.1))
                    have ho2 : (oe == 0) = false := beq_eq_false_iff_ne.2 ho
                    obtain ⟨q0, q1, q2, q3⟩ := cells4 HR5.out
                    have qf := fun j => Lib.frozen_of_heap HR5.out j
                    go_wp2_with fail
                    obtain ⟨WA, hWA⟩ : ∃ WA, WA = (((w5.setCell ⟨R, 0, none⟩ (.slice none 0 0)).setCell ⟨R, 1, none⟩ (.slice none 0 0)).setCell ⟨R, 2, none⟩ (.slice none 0 0)).setCell ⟨R, 3, none⟩ (.slice none 0 0) := ⟨_, rfl⟩
                    have HRA : Hid (WA.heap[R]? = some (.cells #[.slice none 0 0, .slice none 0 0, .slice none 0 0, .slice none 0 0] 27 (0, 0))) := by rw [hWA]; exact put4 HR5.out
                    have HBA : Hid (Below w.heap.size w WA) := by rw [hWA]; exact belSetV (belSetV (belSetV (belSetV (bel HBwu.out HB5.out) HRw.out) HRw.out) HRw.out) HRw.out
                    rw [← hWA]
                    clear hWA
                    obtain ⟨z0, z1, z2, z3⟩ := cells4 HRA.out
                    try simp only [Exit.inBlock, Exit.then]
                    refine bodyPost_ret (v := .tuple #[.agg #[.slice none 0 0, .slice none 0 0, .slice none 0 0, .slice none 0 0], .int .i64 190]) (by simp [results, Tryz.results6, go_sem, z0, z1, z2, z3]) rfl ?_
                    rw [HKn.out]
                    exact ⟨HBA.out, rfl⟩
end Go.Proofs.YtodpljgajjcdoaaGreatDoor
