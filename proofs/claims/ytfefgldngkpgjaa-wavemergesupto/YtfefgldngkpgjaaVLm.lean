/- Layer 18: the library's Grow of none, its Concat of rows of changes. -/
import Derived.Test.YtfefgldngkpgjaaVG
import Derived.Test.YtfefgldngkpgjaaVLh
import Derived.Shelf.Spec.SlicesGrow
import Derived.Laws.AppendOwnNone
namespace Go.Proofs.Ytfefgldngkpgjaa
set_option maxRecDepth 100000
open Go.RowKit Lg Nl Go.Maps Wf Go.Shelf
set_option linter.unusedVariables false
set_option linter.unusedSimpArgs false

def growV_ren : Go.Shelf.Ren := ⟨fun | 4 => 47 | n => n, fun | 22 => 24 | 25 => 46 | 3 => 3 | 4 => 4 | 9 => 9 | 20 => 20 | 0 => 0 | n => n, fun | n => n⟩
theorem growV : Go.Proofs.Lays8.n4 Try.prog growV_ren := {
  mixed := by kernel_rfl
  f4 := ⟨Try.f47.name, by decide, Try.func47.trans (congrArg some (by kernel_rfl))⟩
  t0 := Try.underlying0
  a0 := Try.isAgg0
  z0 := Try.sizeOf0
  v0 := Try.zeroValue0
  t3 := Try.underlying3
  a3 := Try.isAgg3
  z3 := Try.sizeOf3
  v3 := Try.zeroValue3
  t4 := Try.underlying4
  a4 := Try.isAgg4
  z4 := Try.sizeOf4
  v4 := Try.zeroValue4
  t9 := Try.underlying9
  a9 := Try.isAgg9
  z9 := Try.sizeOf9
  v9 := Try.zeroValue9
  t20 := Try.underlying20
  a20 := Try.isAgg20
  z20 := Try.sizeOf20
  v20 := Try.zeroValue20
  t22 := Try.underlying24
  a22 := Try.isAgg24
  z22 := Try.sizeOf24
  v22 := Try.zeroValue24 }
theorem growN_c (n : Nat) (w : World) (hn : n ≤ 4398046511000) : Calls Try.prog 47 #[.slice none 0 0, .int .i64 n] w fun e w' => ∃ a c, e = .returned (.slice a 0 c) ∧ Hid (w'.ownsRow w.heap.size 46 3 (.slice a 0 c) 0 []) ∧ Below w.heap.size w w' := by
  obtain ⟨j, h1, h2, h3, h4⟩ := infoCh
  by_cases h0 : n = 0
  · subst h0
    refine (Any8.slices_Grow_room growV none 0 0 0 w (Nat.le_refl _) (by omega) (by omega) (by omega)).mono ?_
    rintro e w' ⟨rfl, rfl⟩
    exact ⟨none, 0, rfl, World.ownsRow_nil _ _ _ _, Below.refl _ _⟩
  · refine (Any8.slices_Grow_grow growV j _ h1 h2 (by rw [h3]; decide) none 0 0 n [] w (by omega) (by omega) (by rw [h4]; omega) (by omega) (by simp) (fun _ => rfl) (fun a h => by cases h)).mono ?_
    rintro e w' ⟨rfl, rfl⟩
    refine ⟨_, _, rfl, ?_, ?_⟩
    · refine World.ownsRow_made w.drew _ _ (Nat.le_refl _) ?_ ?_
      · exact grownCap_le_maxLen _ _ _ _ (by unfold maxLen; omega)
      · have := grownCap_ge w (0 + n) 0 46
        simp only [Array.size_append, size_zeroCells, List.size_toArray, List.length_nil]
        show 0 + (0 + n - 0) * 3 + (grownCap w (0 + n) 0 46 - (0 + n)) * 3 = grownCap w (0 + n) 0 46 * 3
        omega
    · exact belA (Below.refl w.heap.size w).drew _
theorem chat_cap0 {w : World} {n cap : Nat} {l : List Ch} (h : ChAt w (.slice none n cap) l) : l = [] ∧ cap = 0 := by
  refine ⟨ChAt.none h, ?_⟩
  obtain ⟨ao', cap', e, hc, _⟩ := h
  injection e with e1 e2 e3
  rw [e3]
  exact hc.2 e1.symm
def bigV : Nat := 4398046511000
theorem wrapSum {n m : Nat} (hk : n + m ≤ 4398046511000) : wrap64 ((n : Int) + (m : Int)) = ((n + m : Nat) : Int) := by
  unfold wrap64
  omega
set_option maxHeartbeats 4000000 in
set_option maxRecDepth 100000 in
theorem concat_c (ps : List (List Ch)) (v : Value) (w : World) (hp : PsAt w v ps) (hl : ps.flatten.length ≤ 4398046511000) (hn : ps.length ≤ 4398046511000) :
    Calls Try.prog 34 #[v] w fun e w' => ∃ a c, e = .returned (.slice a ps.flatten.length c) ∧ Hid (w'.ownsRow w.heap.size 46 3 (.slice a ps.flatten.length c) ps.flatten.length (chs ps.flatten)) ∧ Below w.heap.size w w' := by
  have HP : Hid (PsAt w v ps) := hp
  have HL : Hid (ps.flatten.length ≤ bigV ∧ ps.length ≤ bigV) := ⟨hl, hn⟩
  obtain ⟨ao, cap, rfl, _, _⟩ := hp
  obtain ⟨tot, htot⟩ : ∃ t, t = ps.flatten.length := ⟨_, rfl⟩
  have HT : Hid (tot = ps.flatten.length) := htot
  rw [← htot]
  clear hl hn htot
  go_enter Try.func34, Try.ntmps34
  go_wp2_with fail
  go_loopg [3, 11] ps.length (fun g s3 s11 wr => ∃ i : Nat, i ≤ ps.length ∧ g = ps.length - i ∧ s3 = .int .i64 ((ps.take i).flatten.length : Nat) ∧ s11 = .int .i64 i ∧ w = wr)
  case atStart => exact ⟨0, Nat.zero_le _, rfl, rfl, rfl, rfl⟩
  case round =>
    obtain ⟨i, hi, rfl, rfl, rfl, rfl⟩ := hrel
    by_cases hin : i < ps.length
    · obtain ⟨g, o, u, cu, rfl, hg, hc, hch⟩ := HP.out.at_ i hin
      have HF := hidV (congrArg List.length (flat_take hin))
      have hfl := flat_le hin
      have hws : wrap64 (((ps.take i).flatten.length : Int) + (ps[i].length : Int)) = (((ps.take i).flatten.length + ps[i].length : Nat) : Int) := wrapSum (by have := HL.out; unfold bigV at this; omega)
      rw [List.length_append] at HF
      have i0 : (0 : Int) ≤ (i : Int) := by omega
      have i1 : (i : Int) < (ps.length : Int) := by omega
      clear hch hfl
      generalize (ps.take i).flatten.length = a at HF hws ⊢
      generalize ps[i].length = b at HF hws hc ⊢
      go_wp2_with fail
      go_roundg (ps.length - (i + 1))
      case measure => omega
      case rel => exact ⟨i + 1, hin, rfl, by rw [HF.out]; first | rfl | rw [hws], wrap_succ (n := 4398046511000) (by have := HL.out; unfold bigV at this; omega) (by decide), rfl⟩
    · have hie : i = ps.length := by omega
      have i5 : ¬ (i : Int) < (ps.length : Int) := by omega
      have e1 : (ps.take i).flatten.length = tot := by rw [hie, List.take_of_length_le (Nat.le_refl _), HT.out]
      rw [e1]
      clear hin hie e1
      have HGr := hidV (growN_c tot w (by rw [HT.out]; exact HL.out.1))
      go_upto_region 10 with (first
        | (go_at_call 47; refine HGr.out.mono ?_; rintro e w1 ⟨a1, c1, rfl, HO1, hb1⟩; have HB1 : Hid (Below w.heap.size w w1) := hb1; clear hb1))
      obtain ⟨jj, HJ⟩ : ∃ jj, Hid (Try.prog.info? 46 = some jj ∧ jj.zero = some (.agg #[.int .i64 0, .int .i64 0, .string ⟨#[]⟩]) ∧ jj.size = 3 ∧ jj.bytes = 32) := infoCh
      clear HGr i5
      go_wp2_with fail
      go_loopg [6, 27] ps.length (fun g s6 s27 wr => ∃ (i : Nat) (a : Option Addr) (n c : Nat), i ≤ ps.length ∧ g = ps.length - i ∧ s6 = .slice a n c ∧ s27 = .int .i64 i ∧ Hid (n = (ps.take i).flatten.length) ∧ Hid (wr.ownsRow w.heap.size 46 3 (.slice a n c) n (chs (ps.take i).flatten)) ∧ Hid (Below w.heap.size w wr))
      case atStart => exact ⟨0, a1, 0, c1, Nat.zero_le _, rfl, rfl, rfl, rfl, HO1.out, HB1.out⟩
      case round =>
        obtain ⟨i, a, n, c, hi, rfl, rfl, rfl, HN, HO, HB⟩ := hrel
        obtain ⟨wx, hwx⟩ : ∃ wx, wx = wr := ⟨_, rfl⟩
        rw [← hwx] at HO HB ⊢
        clear hwx
        have hP := HP.out.below HB.out
        by_cases hin : i < ps.length
        · obtain ⟨g, o, u, cu, rfl, hg, hc, hch⟩ := hP.at_ i hin
          have HF := hidV (flat_take hin)
          have HFl := hidV (flat_le hin)
          have HCh := hidV hch
          have i0 : (0 : Int) ≤ (i : Int) := by omega
          have i1 : (i : Int) < (ps.length : Int) := by omega
          clear hch hP
          obtain ⟨q, hq⟩ : ∃ q, q = ps[i] := ⟨_, rfl⟩
          rw [← hq] at HF HFl HCh hc
          clear hq
          cases u with
          | none =>
            obtain ⟨e1, e2⟩ := chat_cap0 HCh.out
            subst e1 e2
            have HF0 : Hid ((ps.take (i + 1)).flatten = (ps.take i).flatten) := by show _ = _; rw [HF.out, List.append_nil]
            have hc : wx.cell? ⟨g, o + i, none⟩ = some (.slice none 0 0) := hc
            clear HF HFl HCh
            go_wp2_with (first
              | (at_builtin; refine wpList_append_own_none rfl _ _ 24 rfl w.heap.size 46 jj 3 Try.underlying24 HJ.out.1 (.slice a n c) n (chs (ps.take i).flatten) rfl HO.out rfl ?_))
            go_roundg (ps.length - (i + 1))
            case measure => omega
            case rel => exact ⟨i + 1, a, n, c, hin, rfl, rfl, wrap_succ (n := 4398046511000) (by have := HL.out; unfold bigV at this; omega) (by decide), by rw [HF0.out]; exact HN.out, by rw [HF0.out]; exact HO.out, HB.out⟩
          | some ad =>
            have HW := hidV (ChAt.news HCh.out)
            clear HCh
            go_wp2_with (first
              | (at_builtin; refine wpList_append_own_at _ rfl _ _ 24 rfl w.heap.size 46 jj _ 3 32 Try.underlying24 HJ.out.1 HJ.out.2.1 HJ.out.2.2.1 HJ.out.2.2.2 rfl (by decide) (.slice a n c) n (chs (ps.take i).flatten) rfl HO.out ad q.length cu (chs q) rfl (chs_len q) HW.out (one_chs q) (by have := HN.out; have := HFl.out; have h9 := HL.out; unfold bigV at h9; unfold maxLen; omega) (by have := HN.out; have := HFl.out; have h9 := HL.out; unfold bigV at h9; omega) HB.out.size ?_; intro v9 w9 hown9 hgrow9 hnil9 hloc9; obtain ⟨a9, c9, rfl⟩ := own_slice hown9; have HO9 : Hid (w9.ownsRow w.heap.size 46 3 (.slice a9 (n + q.length) c9) (n + q.length) (chs (ps.take i).flatten ++ chs q)) := hown9; have HG9 : Hid (wx.grownBy w9 (Value.slice a n c).ownBlock) := hgrow9; clear hown9 hgrow9 hnil9 hloc9))
            go_roundg (ps.length - (i + 1))
            case measure => omega
            case rel =>
              refine ⟨i + 1, a9, n + q.length, c9, hin, rfl, rfl, wrap_succ (n := 4398046511000) (by have := HL.out; unfold bigV at this; omega) (by decide), ?_, ?_, ?_⟩
              · show n + q.length = _; rw [HF.out, List.length_append, ← HN.out]
              · show World.ownsRow _ _ _ _ _ _ _; rw [HF.out, chs_app]; exact HO9.out
              · exact Gb HB.out HG9.out (fun g e => (World.ownsRow.lt HO.out g e).1)
        · have hie : i = ps.length := by omega
          have i5 : ¬ (i : Int) < (ps.length : Int) := by omega
          have HNt : Hid (n = tot) := by show n = tot; rw [HN.out, hie, List.take_of_length_le (Nat.le_refl _), HT.out]
          have HOt : Hid (wx.ownsRow w.heap.size 46 3 (.slice a n c) n (chs ps.flatten)) := by have h := HO.out; rw [hie, List.take_of_length_le (Nat.le_refl _)] at h; exact h
          clear hin hie hP HN HO
          go_wp2_with fail
          go_ret
          refine ⟨a, c, by rw [HNt.out]; rfl, ?_, HB.out⟩
          have h := HOt.out
          rw [HNt.out] at h
          exact h
end Go.Proofs.Ytfefgldngkpgjaa
