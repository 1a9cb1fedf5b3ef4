/- Layer 18: all values at a time (the document's). -/
import Derived.Test.YtfefgldngkpgjaaVC
namespace Go.Proofs.Ytfefgldngkpgjaa
set_option maxRecDepth 100000
open Go.RowKit Lg Nl Go.Maps Wf
set_option linter.unusedVariables false
set_option linter.unusedSimpArgs false

def putL (t : Int) (now : List ByteArray) (c : Ch) : List ByteArray := if c.t ≤ t then now.set c.n.toNat c.v else now
/-- the values at a time -/
def atL (t : Int) (now : List ByteArray) (l : List Ch) : List ByteArray := l.foldl (putL t) now
theorem at_take (t : Int) (now : List ByteArray) (l : List Ch) (k : Nat) (hk : k < l.length) : atL t now (l.take (k + 1)) = putL t (atL t now (l.take k)) (cA l k) := by
  unfold atL
  rw [List.take_add_one, List.getElem?_eq_getElem hk, List.foldl_append, cA_at hk]
  rfl
theorem at_len (t : Int) (l : List Ch) : ∀ now : List ByteArray, (atL t now l).length = now.length := by
  unfold atL
  induction l with
  | nil => intro now; rfl
  | cons c cs ih => intro now; rw [List.foldl_cons, ih]; unfold putL; split <;> simp
set_option maxHeartbeats 4000000 in
set_option maxRecDepth 1000000 in
theorem at_c (x : Wv) (vn vw vf vl : Value) (t : Int) (w : World) (hx : WvAt w vn vw vf vl x) (hl : x.li.length ≤ 4398046511000) (hf : x.fi.length ≤ 4096) (hr : ∀ c ∈ x.li, 0 ≤ c.n ∧ c.n < (x.fi.length : Int)) : Calls Try.prog 14 #[.agg #[vn, vw, vf, vl], .int .i64 t] w fun e w' => ∃ a c, e = .returned (.slice a x.fi.length c) ∧ Hid (w'.ownsRow w.heap.size 9 1 (.slice a x.fi.length c) x.fi.length (sC (atL t x.fi x.li))) ∧ Hid (Below w.heap.size w w') := by
  have HL : Hid (x.li.length ≤ 4398046511000 ∧ x.fi.length ≤ 4096) := ⟨hl, hf⟩
  have HRg : Hid (∀ c ∈ x.li, 0 ≤ c.n ∧ c.n < (x.fi.length : Int)) := hr
  obtain ⟨an, cn, rfl, _, _⟩ := hx.nm
  obtain ⟨aw, cw, rfl, _, _⟩ := hx.wd
  have HF : Hid (StrAt w vf x.fi) := hx.fi
  obtain ⟨af, cf, rfl, hcf, _⟩ := hx.fi
  have HCf : Hid (x.fi.length ≤ cf ∧ (af = none → cf = 0)) := hcf
  have HA : Hid (ChAt w vl x.li) := hx.li
  obtain ⟨al, cl, rfl, _, _⟩ := hx.li
  clear hx hl hf hr hcf
  obtain ⟨W0, hW0⟩ : ∃ W0, W0 = w.alloc (.cells #[.slice an x.nm.length cn, .slice aw x.wd.length cw, .slice af x.fi.length cf, .slice al x.li.length cl] 26) := ⟨_, rfl⟩
  have HB0 : Hid (Below w.heap.size w W0) := by rw [hW0]; exact belA (Below.refl _ _) _
  have HX0 : Hid (W0.heap[w.heap.size]? = some (.cells #[.slice an x.nm.length cn, .slice aw x.wd.length cw, .slice af x.fi.length cf, .slice al x.li.length cl] 26 (0, 0))) := by rw [hW0]; exact alAt rfl
  have HA0 : Hid (ChAt W0 (.slice al x.li.length cl) x.li) := HA.out.below HB0.out
  have HF0 : Hid (StrAt W0 (.slice af x.fi.length cf) x.fi) := HF.out.below HB0.out
  go_enter Try.func14, Try.ntmps14
  go_upto_region 1 with fail
  rw [← hW0]
  clear hW0 HA HF
  obtain ⟨b0, b1, b2, b3⟩ := cells4 HX0.out
  have lb := hLt HX0.out
  obtain ⟨E, hE⟩ : ∃ E, E = w.heap.size := ⟨_, rfl⟩
  rw [← hE] at HX0 b0 b1 b2 b3 lb ⊢
  clear hE
  obtain ⟨jj, hjj⟩ := infoStr
  have HJ : Hid (Try.prog.info? 9 = some jj ∧ jj.zero = some (.string ⟨#[]⟩) ∧ jj.size = 1 ∧ jj.bytes = 16) := hjj
  clear hjj
  go_upto_region 2 with fail
  go_cut [5] from 7 (fun s5 wy => ∃ (ag : Option Addr) (cg : Nat), s5 = .slice ag x.fi.length cg ∧ Hid (wy.ownsRow W0.heap.size 9 1 (.slice ag x.fi.length cg) x.fi.length (sC x.fi)) ∧ Hid (Below W0.heap.size W0 wy))
  case first =>
    cases af with
    | none =>
      have e2 : cf = 0 := HCf.out.2 rfl
      have e1 : x.fi.length = 0 := by have := HCf.out.1; omega
      have hfi : sC x.fi = [] := by rw [List.eq_nil_of_length_eq_zero e1]; rfl
      have b2' : W0.cell? ⟨E, 2, none⟩ = some (.slice none 0 0) := by rw [b2, e1, e2]
      have HE1 : Hid (x.fi.length = 0 ∧ sC x.fi = []) := ⟨e1, hfi⟩
      clear b2 e1 e2 hfi
      go_wp2_with (first
        | (at_builtin; refine wpList_append_own_none rfl _ _ 22 rfl W0.heap.size 9 jj 1 Try.underlying22 HJ.out.1 _ 0 [] rfl (World.ownsRow_nil _ _ _ _) rfl ?_))
      go_meet
      exact ⟨none, 0, by rw [HE1.out.1], by rw [HE1.out.1, HE1.out.2]; exact World.ownsRow_nil _ _ _ _, Below.refl _ _⟩
    | some ad =>
      have hnw := HF0.out.news
      go_wp2_with (first
        | (at_builtin; refine wpList_append_own_at _ rfl _ _ 22 rfl W0.heap.size 9 jj _ 1 16 Try.underlying22 HJ.out.1 HJ.out.2.1 HJ.out.2.2.1 HJ.out.2.2.2 rfl (by decide) _ 0 [] rfl (World.ownsRow_nil _ _ _ _) ad x.fi.length cf (sC x.fi) rfl (by simp [sC]) hnw (one_sC _) (by have := HL.out; unfold maxLen; omega) (by have := HL.out; omega) (Nat.le_refl _) ?_; intro v9 w9 hown9 hgrow9 hnil9 hloc9; obtain ⟨ag, cg, rfl⟩ := own_slice hown9; have HO9 : Hid (w9.ownsRow W0.heap.size 9 1 (.slice ag (0 + x.fi.length) cg) (0 + x.fi.length) ([] ++ sC x.fi)) := hown9; have HG9 : Hid (W0.grownBy w9 (Value.slice none 0 0).ownBlock) := hgrow9; clear hown9 hgrow9 hnil9 hloc9))
      go_meet
      have h9 := HO9.out
      rw [Nat.zero_add, List.nil_append] at h9
      exact ⟨ag, cg, rfl, h9, Gb (Below.refl _ _) HG9.out (fun g e => by cases e)⟩
  case rest =>
    obtain ⟨ag, cg, rfl, HO, HBy⟩ := hcut
    clear b0 b1 b2 b3
    go_wp2_with fail
    go_loopg [6] x.li.length (fun g s6 wr => ∃ i : Nat, i ≤ x.li.length ∧ g = x.li.length - i ∧ s6 = .int .i64 i ∧ Hid (wr.ownsRow W0.heap.size 9 1 (.slice ag x.fi.length cg) x.fi.length (sC (atL t x.fi (x.li.take i)))) ∧ Hid (Below W0.heap.size W0 wr))
    case atStart => exact ⟨0, Nat.zero_le _, rfl, rfl, HO.out, HBy.out⟩
    case round =>
      obtain ⟨i, hi, rfl, rfl, HR2, HBx⟩ := hrel
      obtain ⟨wx, hwx⟩ : ∃ wx, wx = wr := ⟨_, rfl⟩
      rw [← hwx] at HR2 HBx ⊢
      clear hwx
      obtain ⟨b0, b1, b2, b3⟩ := cells4 ((HBx.out.block E lb).trans HX0.out)
      have lbx := Nat.lt_of_lt_of_le lb HBx.out.size
      by_cases hin : i < x.li.length
      · obtain ⟨gl, ol, rfl, hgl, c0, c1, c2⟩ := (HA0.out.below HBx.out).at_ i hin
        have HTk : Hid (atL t x.fi (x.li.take (i + 1)) = putL t (atL t x.fi (x.li.take i)) (cA x.li i)) := at_take t x.fi x.li i hin
        have HLn : Hid ((atL t x.fi (x.li.take i)).length = x.fi.length) := at_len _ _ _
        have hrg := HRg.out _ (cA_mem hin)
        have i0 : (0 : Int) ≤ (i : Int) := by omega
        have i1 : (i : Int) < (x.li.length : Int) := by omega
        generalize cA x.li i = y at *
        obtain ⟨yt, yn, yv⟩ := y
        simp only at c0 c1 c2 hrg
        obtain ⟨kn, rfl⟩ : ∃ kn : Nat, yn = (kn : Int) := ⟨yn.toNat, by omega⟩
        have m3 : kn < x.fi.length := by omega
        have n3 : (kn : Int) < (x.fi.length : Int) := by omega
        have n0 : (0 : Int) ≤ (kn : Int) := by omega
        clear hrg
        obtain ⟨now, hnow⟩ : ∃ now, now = atL t x.fi (x.li.take i) := ⟨_, rfl⟩
        rw [← hnow] at HR2 HTk HLn
        clear hnow
        by_cases ht : yt ≤ t
        · have ht' : decide (yt ≤ t) = true := decide_eq_true ht
          have HT : Hid (yt ≤ t) := ht
          clear ht
          obtain ⟨gs, rfl⟩ := own_some HR2.out (by omega)
          have es : wx.cell? ⟨gs, kn, none⟩ = some (.string (sA now kn)) := (HR2.out.cellAt kn (by omega)).trans (sC_at (by rw [HLn.out]; exact m3))
          have fs := World.ownsRow.frozenAt HR2.out kn
          have HGs : Hid (W0.heap.size ≤ gs ∧ gs < wx.heap.size) := World.ownsRow.lt HR2.out gs rfl
          have lgs := HGs.out.2
          go_wp2_with fail
          go_region
          all_goals (
            go_wp2_with fail
            go_roundg (x.li.length - (i + 1))
            case measure => omega
            case rel =>
              have hT := HTk.out
              unfold putL at hT
              rw [if_pos HT.out] at hT
              refine ⟨i + 1, hin, rfl, wrap_succ hin (Nat.le_trans HL.out.1 (by decide)), ?_, ?_⟩
              · rw [hT]; exact st1 (own_at2 HR2.out fun _ _ => rfl) kn yv
              · exact belSetV HBx.out.drew HGs.out.1)
        · have ht' : decide (yt ≤ t) = false := decide_eq_false ht
          have HT : Hid (¬ yt ≤ t) := ht
          clear ht
          go_wp2_with fail
          go_roundg (x.li.length - (i + 1))
          case measure => omega
          case rel =>
            have hT := HTk.out
            unfold putL at hT
            rw [if_neg (show ¬ (yt ≤ t) by have := HT.out; omega)] at hT
            refine ⟨i + 1, hin, rfl, wrap_succ hin (Nat.le_trans HL.out.1 (by decide)), ?_, HBx.out⟩
            rw [hT]; exact HR2.out
      · have i5 : ¬ (i : Int) < (x.li.length : Int) := by omega
        have htk : x.li.take i = x.li := List.take_of_length_le (by omega)
        rw [htk] at HR2
        clear hin htk
        go_wp2_with fail
        go_ret
        exact ⟨ag, cg, rfl, own_lo HR2.out HB0.out.size, bel HB0.out HBx.out⟩
end Go.Proofs.Ytfefgldngkpgjaa
