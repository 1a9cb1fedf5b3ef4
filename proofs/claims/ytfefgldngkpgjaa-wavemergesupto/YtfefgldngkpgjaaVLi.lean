/- Layer 18: the program's At. -/
import Derived.Test.YtfefgldngkpgjaaVLh
namespace Go.Proofs.Ytfefgldngkpgjaa
set_option maxRecDepth 100000
open Go.RowKit Lg Nl Go.Maps Wf
set_option linter.unusedVariables false
set_option linter.unusedSimpArgs false

def setL (now : List ByteArray) (c : Ch) : List ByteArray := now.set c.n.toNat c.v
theorem set_take (now : List ByteArray) (l : List Ch) (k : Nat) (hk : k < l.length) : (l.take (k + 1)).foldl setL now = ((l.take k).foldl setL now).set (cA l k).n.toNat (cA l k).v := by
  rw [List.take_add_one, List.getElem?_eq_getElem hk, List.foldl_append, cA_at hk]
  rfl
theorem set_len : ∀ (l : List Ch) (now : List ByteArray), (l.foldl setL now).length = now.length
  | [], _ => rfl
  | c :: cs, now => by
    show (cs.foldl setL (setL now c)).length = _
    rw [set_len cs]
    unfold setL
    rw [List.length_set]
theorem set_cut (t : Int) : ∀ (l : List Ch) (now : List ByteArray), (cutL (t + 1) l).foldl setL now = atL t now l
  | [], now => rfl
  | c :: cs, now => by
    by_cases ht : c.t < t + 1
    · have e : cutL (t + 1) (c :: cs) = c :: cutL (t + 1) cs := by unfold cutL; rw [List.filter_cons, if_pos (by simpa using ht)]
      rw [e]
      show (cutL (t + 1) cs).foldl setL (setL now c) = atL t (putL t now c) cs
      rw [set_cut t cs]
      unfold putL setL
      rw [if_pos (by omega)]
    · have e : cutL (t + 1) (c :: cs) = cutL (t + 1) cs := by unfold cutL; rw [List.filter_cons, if_neg (by simpa using ht)]
      rw [e]
      show (cutL (t + 1) cs).foldl setL now = atL t (putL t now c) cs
      rw [set_cut t cs]
      unfold putL
      rw [if_neg (by omega)]
set_option maxHeartbeats 4000000 in
set_option maxRecDepth 100000 in
theorem at_cp : AtC := by
  intro x vn vw vf vl t w hx hz hbd hl
  obtain ⟨o, ho⟩ : ∃ o, o = okT x t := ⟨_, rfl⟩
  obtain ⟨y, hy⟩ : ∃ y, y = (if okT x t then atL t x.fi x.li else []) := ⟨_, rfl⟩
  rw [← hy, ← ho]
  have HOo : Hid (o = okT x t) := ho
  have HYy : Hid (y = (if okT x t then atL t x.fi x.li else [])) := hy
  clear ho hy
  have HZ : Hid (Sz x ∧ Bd x) := ⟨hz, hbd⟩
  have HA : Hid (WvAt w vn vw vf vl x) := hx
  have HLl : Hid (x.li.length ≤ 4398046511000) := hl
  obtain ⟨al, cl, rfl, _, _⟩ := hx.li
  clear hx hz hbd hl
  obtain ⟨W0, hW0⟩ : ∃ W0, W0 = (w.alloc (.cells #[vn, vw, vf, .slice al x.li.length cl] 26)).alloc (.cells #[.int .i64 t] 3) := ⟨_, rfl⟩
  have HB0 : Hid (Below w.heap.size w W0) := by rw [hW0]; exact belA (belA (Below.refl _ _) _) _
  have HX0 : Hid (W0.heap[w.heap.size]? = some (.cells #[vn, vw, vf, .slice al x.li.length cl] 26 (0, 0))) := by rw [hW0]; exact (alOld (by simp)).trans (alAt rfl)
  have HT0 : Hid (W0.heap[w.heap.size + 1]? = some (.cells #[.int .i64 t] 3 (0, 0))) := by rw [hW0]; exact alAt (by simp)
  have HA0 : Hid (WvAt W0 vn vw vf (.slice al x.li.length cl) x) := HA.out.below HB0.out
  have HCk : Hid (∀ W, Below W0.heap.size W0 W → Calls Try.prog 9 #[.agg #[vn, vw, vf, .slice al x.li.length cl]] W fun e w' => e = .returned (.int .i64 (erOf (mayW x))) ∧ Below W.heap.size W w') := fun W hW => check_c x vn vw vf _ W (HA0.out.below hW) HZ.out.1 HZ.out.2
  go_enter Try.func13, Try.ntmps13
  go_upto_region 1 with fail
  rw [← hW0]
  clear hW0 HA
  obtain ⟨b0, b1, b2, b3⟩ := cells4 HX0.out
  have lb := hLt HX0.out
  have x0 := one_cell HT0.out
  have lt := hLt HT0.out
  obtain ⟨E, hE⟩ : ∃ E, E = w.heap.size := ⟨_, rfl⟩
  rw [← hE] at HX0 HT0 b0 b1 b2 b3 lb x0 lt ⊢
  have HE : Hid (E = w.heap.size) := hE
  clear hE
  obtain ⟨T, hT⟩ : ∃ T, T = E + 1 := ⟨_, rfl⟩
  rw [← hT] at HT0 x0 lt ⊢
  have HT : Hid (T = E + 1) := hT
  clear hT
  by_cases ht : t < 0
  · have ht' : decide (t < 0) = true := decide_eq_true ht
    have HO : Hid (okT x t = false) := by show okT x t = false; unfold okT; rw [decide_eq_false (by omega : ¬ 0 ≤ t), Bool.and_false]
    clear ht
    go_wp2_with fail
    go_ret2
    exact ⟨_, by rw [HOo.out, HO.out]; rfl, by rw [HYy.out, HO.out]; exact ⟨none, 0, rfl, ⟨Nat.le_refl _, fun _ => rfl⟩, Or.inl rfl⟩, HB0.out⟩
  · have ht' : decide (t < 0) = false := decide_eq_false ht
    have HTn : Hid (0 ≤ t) := by show 0 ≤ t; omega
    clear ht
    cases hm : mayW x
    · rw [hm] at HCk
      have HO : Hid (okT x t = false) := by show okT x t = false; unfold okT; rw [hm]; rfl
      clear hm
      go_wp2_with (first
        | (go_at_call 9; refine (HCk.out _ (Below.refl _ _)).mono ?_; rintro e w1 ⟨rfl, hb1⟩; rw [erOf_f]; have HB1 : Hid (Below W0.heap.size W0 w1) := hb1; clear hb1))
      go_ret2
      exact ⟨_, by rw [HOo.out, HO.out]; rfl, by rw [HYy.out, HO.out]; exact ⟨none, 0, rfl, ⟨Nat.le_refl _, fun _ => rfl⟩, Or.inl rfl⟩, bel HB0.out HB1.out⟩
    · rw [hm] at HCk
      have HO : Hid (okT x t = true) := by show okT x t = true; unfold okT; rw [hm, decide_eq_true HTn.out]; rfl
      have HLs : Hid (lsB x.wd none x.fi x.li = true) := (may_parts hm).2.2
      have hln := may_len hm
      have HLn : Hid (x.nm.length ≤ 4096 ∧ x.wd.length ≤ 4096 ∧ x.fi.length ≤ 4096) := ⟨by omega, by omega, by omega⟩
      have HNt : Hid (∀ c ∈ x.li, 0 ≤ c.n ∧ c.n < (x.fi.length : Int)) := may_nets hm
      clear hm hln
      obtain ⟨an, cn, rfl⟩ : ∃ an cn, vf = .slice an x.fi.length cn := by obtain ⟨a, c, e, _, _⟩ := HA0.out.fi; exact ⟨a, c, e⟩
      go_upto_region 3 with (first
        | (go_at_call 9; refine (HCk.out _ (Below.refl _ _)).mono ?_; rintro e w1 ⟨rfl, hb1⟩; rw [erOf_t]; have HB1 : Hid (Below W0.heap.size W0 w1) := hb1; clear hb1))
      clear b0 b1 b2 b3 x0
      have HX1 : Hid (w1.heap[E]? = some (.cells #[vn, vw, .slice an x.fi.length cn, .slice al x.li.length cl] 26 (0, 0))) := (HB1.out.block E lb).trans HX0.out
      obtain ⟨b0, b1, b2, b3⟩ := cells4 HX1.out
      have lb1 := Nat.lt_of_lt_of_le lb HB1.out.size
      have HCs := hidV (cloneS_c _ x.fi w1 (HA0.out.below HB1.out).fi (by have := HLn.out; omega))
      go_upto_region 4 with (first
        | (go_at_call 30; refine HCs.out.mono ?_; rintro e w2 ⟨v2, rfl, HV2, hb2⟩; have HB2 : Hid (Below w1.heap.size w1 w2) := hb2; clear hb2))
      obtain ⟨a2, k2, rfl⟩ := own_slice HV2.out
      clear b0 b1 b2 b3 HCs
      have HBW : Hid (Below W0.heap.size W0 w2) := bel HB1.out HB2.out
      have HX2 : Hid (w2.heap[E]? = some (.cells #[vn, vw, .slice an x.fi.length cn, .slice al x.li.length cl] 26 (0, 0))) := (HBW.out.block E lb).trans HX0.out
      have HT2 : Hid (w2.heap[T]? = some (.cells #[.int .i64 t] 3 (0, 0))) := (HBW.out.block T lt).trans HT0.out
      obtain ⟨b0, b1, b2, b3⟩ := cells4 HX2.out
      have lb2 := hLt HX2.out
      have lt2 := hLt HT2.out
      have HAh := hidV (ahead_l 31 T (fun z => decide (t < z)) x.li al cl w2 (HA0.out.below HBW.out).li HLl.out (enters_of Try.func31 (by kernel_rfl) rfl) (fun W hW z => atLate_c T z t W (one_cell ((hW T lt2).trans HT2.out))) (fun i j hij hj h => decide_eq_true (Int.lt_of_lt_of_le (of_decide_eq_true h) (ls_times HLs.out i j hij hj))))
      go_upto_region 5 with (first
        | (go_at_call 28; refine HAh.out.mono ?_; rintro e w4 ⟨m, v4, rfl, hml, HM4, HV4, hb4⟩; have HB4 : Hid (Below w2.heap.size w2 w4) := hb4; have HML : Hid (m ≤ x.li.length) := hml; clear hb4 hml; have e4 := (take_cut HLs.out (t + 1) m (HM4.out.trans (List.countP_congr (fun i _ => by simp; omega)))); rw [e4] at HV4; clear e4 HM4; obtain ⟨l4, hl4⟩ : ∃ l4, l4 = cutL (t + 1) x.li := ⟨_, rfl⟩; rw [← hl4] at HV4; have HL4 : Hid (l4 = cutL (t + 1) x.li) := hl4; clear hl4; obtain ⟨a4, k4, rfl⟩ : ∃ a4 k4, v4 = .slice a4 l4.length k4 := (by obtain ⟨a, c, e, _, _⟩ := HV4.out _ (HA0.out.below HBW.out).li; exact ⟨a, c, e⟩)))
      have HO4 : Hid (w4.ownsRow w1.heap.size 9 1 (.slice a2 x.fi.length k2) x.fi.length (sC x.fi)) := own_below HV2.out HB4.out
      clear b0 b1 b2 b3 HAh
      go_loopg [24] l4.length (fun g s24 wr => ∃ i : Nat, i ≤ l4.length ∧ g = l4.length - i ∧ s24 = .int .i64 i ∧ Hid (wr.ownsRow w1.heap.size 9 1 (.slice a2 x.fi.length k2) x.fi.length (sC ((l4.take i).foldl setL x.fi))) ∧ Hid (Below w1.heap.size w1 wr))
      case atStart => exact ⟨0, Nat.zero_le _, rfl, rfl, HO4.out, bel HB2.out HB4.out⟩
      case round =>
        obtain ⟨i, hi, rfl, rfl, HO5, HBr⟩ := hrel
        obtain ⟨wx, hwx⟩ : ∃ wx, wx = wr := ⟨_, rfl⟩
        rw [← hwx] at HBr HO5 ⊢
        clear hwx
        have hL : ChAt wx (.slice a4 l4.length k4) l4 := HV4.out _ (HA0.out.below (bel HB1.out HBr.out)).li
        by_cases hin : i < l4.length
        · obtain ⟨gl, ol, rfl, hgl, c0, c1, c2⟩ := hL.at_ i hin
          have HTk : Hid ((l4.take (i + 1)).foldl setL x.fi = ((l4.take i).foldl setL x.fi).set (cA l4 i).n.toNat (cA l4 i).v) := set_take x.fi l4 i hin
          have HNn : Hid (0 ≤ (cA l4 i).n ∧ (cA l4 i).n < (x.fi.length : Int)) := HNt.out _ (by have := cA_mem hin; rw [HL4.out] at this ⊢; exact (List.mem_filter.1 this).1)
          have HLe : Hid (l4.length ≤ 4398046511000) := by show l4.length ≤ _; rw [HL4.out]; exact Nat.le_trans (List.length_filter_le _ _) HLl.out
          have i0 : (0 : Int) ≤ (i : Int) := by omega
          have i1 : (i : Int) < (l4.length : Int) := by omega
          clear hL
          generalize cA l4 i = z at *
          obtain ⟨zt, zn, zv⟩ := z
          simp only at c0 c1 c2 HTk HNn
          obtain ⟨kn, rfl⟩ : ∃ kn : Nat, zn = (kn : Int) := ⟨zn.toNat, by have := HNn.out; omega⟩
          have n0 : (0 : Int) ≤ (kn : Int) := by omega
          have n1 : (kn : Int) < (x.fi.length : Int) := HNn.out.2
          obtain ⟨gs, rfl⟩ := own_some HO5.out (by omega)
          have fs := World.ownsRow.frozenAt HO5.out kn
          have HGs : Hid (w1.heap.size ≤ gs ∧ gs < wx.heap.size) := World.ownsRow.lt HO5.out gs rfl
          have lgs := HGs.out.2
          clear fs
          obtain ⟨W6, hW6⟩ : ∃ W6, W6 = wx.alloc (.cells #[.int .i64 zt, .int .i64 (kn : Int), .string zv] 46) := ⟨_, rfl⟩
          have HB6 : Hid (Below wx.heap.size wx W6) := by rw [hW6]; exact belA (Below.refl _ _) _
          have HF6 : Hid (W6.heap[wx.heap.size]? = some (.cells #[.int .i64 zt, .int .i64 (kn : Int), .string zv] 46 (0, 0))) := by rw [hW6]; exact alAt rfl
          have HO6 : Hid (W6.ownsRow w1.heap.size 9 1 (.slice (some ⟨gs, 0, none⟩) x.fi.length k2) x.fi.length (sC ((l4.take i).foldl setL x.fi))) := own_below HO5.out HB6.out
          go_upto_region 7 with fail
          rw [← hW6]
          clear hW6 c0 c1 c2
          obtain ⟨c0, c1, c2⟩ := cells3n HF6.out
          have lF := hLt HF6.out
          generalize wx.heap.size = F at c0 c1 c2 HF6 lF ⊢
          have fs := World.ownsRow.frozenAt HO6.out kn
          have lgs6 := Nat.lt_of_lt_of_le lgs HB6.out.size
          have es := (HO6.out.cellAt kn (by omega)).trans (sC_at (by rw [set_len]; omega))
          generalize sA ((l4.take i).foldl setL x.fi) kn = old at es
          go_wp2_with fail
          go_roundg (l4.length - (i + 1))
          case measure => omega
          case rel =>
            refine ⟨i + 1, hin, rfl, wrap_succ hin (Nat.le_trans HLe.out (by decide)), ?_, ?_⟩
            · show World.ownsRow _ _ _ _ _ _ _
              rw [HTk.out, Int.toNat_natCast]
              exact st1 HO6.out kn zv
            · exact belSetV (bel HBr.out HB6.out) HGs.out.1
        · have hie : i = l4.length := by omega
          have i5 : ¬ (i : Int) < (l4.length : Int) := by omega
          have HO7 : Hid (wx.ownsRow w1.heap.size 9 1 (.slice a2 x.fi.length k2) x.fi.length (sC (atL t x.fi x.li))) := by
            have h := HO5.out
            rw [hie, List.take_of_length_le (Nat.le_refl _), HL4.out, set_cut] at h
            exact h
          clear hin hie hL HO5
          go_wp2_with fail
          go_ret2
          refine ⟨_, by rw [HOo.out, HO.out]; rfl, ?_, bel HB0.out (bel HB1.out HBr.out)⟩
          rw [HYy.out, HO.out, if_pos rfl]
          refine own_strs (B := w1.heap.size) ?_
          rw [at_len]
          exact HO7.out
end Go.Proofs.Ytfefgldngkpgjaa
