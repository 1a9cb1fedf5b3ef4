/- Layer 19 of the program: Write. -/
import Derived.Test.YtodpljgajjcdoaaGreatDoorGUf
import Derived.Test.YtodpljgajjcdoaaGreatDoorVLe
namespace Go.Proofs.YtodpljgajjcdoaaGreatDoor
set_option maxRecDepth 100000
open Go.RowKit Lg Nl Go.Maps Wf Vd
set_option linter.unusedVariables false
set_option linter.unusedSimpArgs false

theorem strs_ln {w : World} {v : Value} {l : List ByteArray} (h : StrAt w v l) (B : Nat) (hb : ∀ a n c, v = .slice a n c → n ≤ B) : l.length ≤ B := by
  obtain ⟨ao, cap, rfl, _⟩ := h
  exact hb _ _ _ rfl
set_option maxHeartbeats 2000000 in
set_option maxRecDepth 100000 in
theorem write_c : WriteC := by
  intro x vn vw vf vl w hx hz hbd hl hp
  obtain ⟨W0, hW0⟩ : ∃ W0, W0 = w.alloc (.cells #[vn, vw, vf, vl] 27) := ⟨_, rfl⟩
  have HB0 : Hid (Below w.heap.size w W0) := by rw [hW0]; exact belA (Below.refl _ _) _
  have HX0 : Hid (W0.heap[w.heap.size]? = some (.cells #[vn, vw, vf, vl] 27 (0, 0))) := by rw [hW0]; exact alAt rfl
  have HA0 : Hid (WvAt W0 vn vw vf vl x) := hx.below HB0.out
  have HP0 : Hid (PowT W0) := hp.bel HB0.out
  have HBd := hidV hbd.nm
  have HCk := hidV (check_c x vn vw vf vl W0 HA0.out hz hbd)
  have HLl := hidV hl
  have HE : Hid (wrE x = if mayW x then (if undB x then 1 else if 1048576 < (textL x).length then 4 else 0) else 1) := rfl
  have HT : Hid (wrT x = if wrE x = 0 then textL x else []) := rfl
  have HNi : Hid (mayW x = true → Nice x) := nice_of
  have HFt : Hid (fitT x = decide ((textL x).length ≤ maxO)) := rfl
  have HWt : Hid (wtT x = if fitT x then S (textL x) else ⟨#[]⟩) := rfl
  clear hx hz hbd hl hp
  cases q : mayW x with
  | false =>
    rw [q] at HCk
    have HR : Hid (S (wrT x) = ⟨#[]⟩ ∧ wrE x = 1) := by
      have e : wrE x = 1 := by rw [HE.out, q]; rfl
      exact ⟨by rw [HT.out, e]; rfl, e⟩
    rw [HR.out.1, HR.out.2]
    clear HNi q
    go_enter Tryz.func8, Tryz.ntmps8
    go_upto_region 1 with fail
    rw [← hW0]
    clear hW0
    obtain ⟨b0, b1, b2, b3⟩ := cells4 HX0.out
    go_wp2_with (first
      | (go_at_call 16; refine HCk.out.mono ?_; rintro e w1 ⟨rfl, hb1⟩; have HB1 := hidV hb1; clear hb1))
    go_ret2
    exact ⟨rfl, bel HB0.out HB1.out⟩
  | true =>
    rw [q] at HCk
    have HN := hidV (HNi.out q)
    have hq := q
    clear HNi
    cases u : undB x with
    | true =>
      have HR : Hid (S (wrT x) = ⟨#[]⟩ ∧ wrE x = 1) := by
        have e : wrE x = 1 := by rw [HE.out, q, u]; rfl
        exact ⟨by rw [HT.out, e]; rfl, e⟩
      rw [HR.out.1, HR.out.2]
      have HCt : Hid (∀ W, StrAt W vn x.nm → Calls Tryz.prog 17 #[vn, .string ⟨#[95]⟩] W fun e w' => e = .returned (.bool true) ∧ W = w') := fun W h => by
        have h2 := contains_c vn ⟨#[95]⟩ x.nm W h HBd.out
        rw [und_is, u] at h2
        exact h2
      clear q hq u
      go_enter Tryz.func8, Tryz.ntmps8
      go_upto_region 1 with fail
      rw [← hW0]
      clear hW0
      obtain ⟨b0, b1, b2, b3⟩ := cells4 HX0.out
      have lb := hLt HX0.out
      obtain ⟨E, hE⟩ : ∃ E, E = w.heap.size := ⟨_, rfl⟩
      rw [← hE] at HX0 b0 b1 b2 b3 lb
      rw [← hE]
      clear hE
      go_wp2_with (first
        | (go_at_call 16; refine HCk.out.mono ?_; rintro e w1 ⟨rfl, hb1⟩; have HB1 := hidV hb1; clear hb1 b0 b1 b2 b3; obtain ⟨b0, b1, b2, b3⟩ := cells4 ((HB1.out.block E lb).trans HX0.out))
        | (go_at_call 17; refine (HCt.out _ (HA0.out.nm.below HB1.out)).mono ?_; rintro e w2 ⟨rfl, rfl⟩))
      go_ret2
      exact ⟨rfl, bel HB0.out HB1.out⟩
    | false =>
      have HCt : Hid (∀ W, StrAt W vn x.nm → Calls Tryz.prog 17 #[vn, .string ⟨#[95]⟩] W fun e w' => e = .returned (.bool false) ∧ W = w') := fun W h => by
        have h2 := contains_c vn ⟨#[95]⟩ x.nm W h HBd.out
        rw [und_is, u] at h2
        exact h2
      have HWr : Hid (∀ W, WvAt W vn vw vf vl x → PowT W → Calls Tryz.prog 18 #[.agg #[vn, vw, vf, vl]] W fun e w' => e = .returned (.tuple #[.string (wtT x), .bool (fitT x)]) ∧ Below W.heap.size W w') := fun W h1 h2 => written_c x vn vw vf vl W h1 HN.out HLl.out h2
      cases f : fitT x with
      | true =>
        have HR : Hid (S (wrT x) = wtT x ∧ wrE x = 0) := by
          have hle : (textL x).length ≤ maxO := of_decide_eq_true (by rw [← HFt.out]; exact f)
          have e : wrE x = 0 := by rw [HE.out, q, u]; show (if 1048576 < (textL x).length then (4 : Int) else 0) = 0; rw [if_neg (by unfold maxO at hle; omega)]
          exact ⟨by rw [HT.out, e, HWt.out, f]; rfl, e⟩
        rw [HR.out.1, HR.out.2]
        rw [f] at HWr
        clear q hq u f
        generalize wtT x = rt at *
        go_enter Tryz.func8, Tryz.ntmps8
        go_upto_region 1 with fail
        rw [← hW0]
        clear hW0
        obtain ⟨b0, b1, b2, b3⟩ := cells4 HX0.out
        have lb := hLt HX0.out
        obtain ⟨E, hE⟩ : ∃ E, E = w.heap.size := ⟨_, rfl⟩
        rw [← hE] at HX0 b0 b1 b2 b3 lb
        rw [← hE]
        clear hE
        go_wp2_with (first
          | (go_at_call 16; refine HCk.out.mono ?_; rintro e w1 ⟨rfl, hb1⟩; have HB1 := hidV hb1; clear hb1 b0 b1 b2 b3; obtain ⟨b0, b1, b2, b3⟩ := cells4 ((HB1.out.block E lb).trans HX0.out))
          | (go_at_call 17; refine (HCt.out _ (HA0.out.nm.below HB1.out)).mono ?_; rintro e w2 ⟨rfl, rfl⟩)
          | (go_at_call 18; refine (HWr.out _ (HA0.out.below HB1.out) (HP0.out.bel HB1.out)).mono ?_; rintro e w3 ⟨rfl, hb3⟩; have HB3 := hidV hb3; clear hb3))
        go_ret2
        exact ⟨rfl, bel HB0.out (bel HB1.out HB3.out)⟩
      | false =>
        have HR : Hid (S (wrT x) = ⟨#[]⟩ ∧ wrE x = 4) := by
          have hle : ¬ (textL x).length ≤ maxO := of_decide_eq_false (by rw [← HFt.out]; exact f)
          have e : wrE x = 4 := by rw [HE.out, q, u]; show (if 1048576 < (textL x).length then (4 : Int) else 0) = 4; rw [if_pos (by unfold maxO at hle; omega)]
          exact ⟨by rw [HT.out, e]; rfl, e⟩
        rw [HR.out.1, HR.out.2]
        rw [f] at HWr
        clear q hq u f
        generalize wtT x = rt at *
        go_enter Tryz.func8, Tryz.ntmps8
        go_upto_region 1 with fail
        rw [← hW0]
        clear hW0
        obtain ⟨b0, b1, b2, b3⟩ := cells4 HX0.out
        have lb := hLt HX0.out
        obtain ⟨E, hE⟩ : ∃ E, E = w.heap.size := ⟨_, rfl⟩
        rw [← hE] at HX0 b0 b1 b2 b3 lb
        rw [← hE]
        clear hE
        go_wp2_with (first
          | (go_at_call 16; refine HCk.out.mono ?_; rintro e w1 ⟨rfl, hb1⟩; have HB1 := hidV hb1; clear hb1 b0 b1 b2 b3; obtain ⟨b0, b1, b2, b3⟩ := cells4 ((HB1.out.block E lb).trans HX0.out))
          | (go_at_call 17; refine (HCt.out _ (HA0.out.nm.below HB1.out)).mono ?_; rintro e w2 ⟨rfl, rfl⟩)
          | (go_at_call 18; refine (HWr.out _ (HA0.out.below HB1.out) (HP0.out.bel HB1.out)).mono ?_; rintro e w3 ⟨rfl, hb3⟩; have HB3 := hidV hb3; clear hb3))
        go_ret2
        exact ⟨rfl, bel HB0.out (bel HB1.out HB3.out)⟩
end Go.Proofs.YtodpljgajjcdoaaGreatDoor
