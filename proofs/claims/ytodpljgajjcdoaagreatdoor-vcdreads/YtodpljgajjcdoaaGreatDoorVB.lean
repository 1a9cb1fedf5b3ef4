/- Layer 18: may a waveform be (the document's). -/
import Derived.Test.YtodpljgajjcdoaaGreatDoorVA
import Derived.Test.YtodpljgajjcdoaaGreatDoorGKa
import Derived.Deep.CutRange
import Derived.Deep.LoopGhost
import Derived.Deep.RegionHeld
import Derived.BigRegion
import Derived.Laws.AppendOwnNone
namespace Go.Proofs.YtodpljgajjcdoaaGreatDoor
set_option maxRecDepth 100000
open Go.RowKit Lg Nl Go.Maps Wf
set_option linter.unusedVariables false
set_option linter.unusedSimpArgs false

structure Sz (x : Wv) : Prop where
  nm : ∀ s ∈ x.nm, s.size ≤ maxLen
  fi : ∀ s ∈ x.fi, s.size ≤ maxLen
  li : ∀ c ∈ x.li, c.v.size ≤ maxLen
  ln : x.li.length ≤ 140737488355328
structure WvAt (w : World) (vn vw vf vl : Value) (x : Wv) : Prop where
  nm : StrAt w vn x.nm
  wd : IntsAt w vw x.wd
  fi : StrAt w vf x.fi
  li : ChAt w vl x.li
theorem WvAt.below {w w' : World} {vn vw vf vl : Value} {x : Wv} (h : WvAt w vn vw vf vl x) (hb : Below w.heap.size w w') : WvAt w' vn vw vf vl x := ⟨h.nm.below hb, h.wd.below hb, h.fi.below hb, h.li.below hb⟩
theorem cells4 {w : World} {b : Nat} {y0 y1 y2 y3 : Value} {t : TypeId} (h : w.heap[b]? = some (.cells #[y0, y1, y2, y3] t (0, 0))) : w.cell? ⟨b, 0, none⟩ = some y0 ∧ w.cell? ⟨b, 1, none⟩ = some y1 ∧ w.cell? ⟨b, 2, none⟩ = some y2 ∧ w.cell? ⟨b, 3, none⟩ = some y3 :=
  ⟨by rw [Lib.cell_of_heap h]; rfl, by rw [Lib.cell_of_heap h]; rfl, by rw [Lib.cell_of_heap h]; rfl, by rw [Lib.cell_of_heap h]; rfl⟩
theorem bdn {B : Nat} {w w' : World} (h : Below B w w') : ∀ n, Below B w (w'.drewN n) := fun n => ⟨h.os, h.tape, h.output, h.size, h.block⟩
def sC (l : List ByteArray) : List Value := l.map .string
theorem sC_at {l : List ByteArray} {j : Nat} (h : j < l.length) : (sC l)[j]? = some (.string (sA l j)) := by unfold sC; rw [List.getElem?_map, List.getElem?_eq_getElem h, sA_at h]; rfl
theorem addOv (b o j : Nat) : ((⟨b, o, none⟩ : Addr).add j) = ⟨b, o + j, none⟩ := by
  simp only [Addr.add]; split <;> simp_all
theorem infoStr : ∃ i, Tryz.prog.info? 9 = some i ∧ i.zero = some (.string ⟨#[]⟩) ∧ i.size = 1 ∧ i.bytes = 16 := info_parts (by kernel_rfl)
theorem StrAt.news {w : World} {ad : Addr} {n cap : Nat} {l : List ByteArray} (h : StrAt w (.slice (some ad) n cap) l) : ∀ j u, (sC l)[j]? = some u → w.cell? (ad.add j) = some u := by
  intro j u hu
  have hj : j < l.length := by have := (List.getElem?_eq_some_iff.1 hu).1; simpa [sC] using this
  obtain ⟨g, o, e, hg, hc⟩ := h.at_ j hj
  injection e with e
  subst e
  rw [sC_at hj] at hu
  rw [addOv, hc]; exact hu
theorem one_sC (l : List ByteArray) : ∀ u ∈ sC l, u.oneCell' = true := by intro u hu; obtain ⟨a, _, rfl⟩ := List.mem_map.1 hu; rfl
theorem sA_mem {l : List ByteArray} {i : Nat} (h : i < l.length) : sA l i ∈ l := by rw [sA_at h]; exact List.getElem_mem h
theorem cA_mem {l : List Ch} {i : Nat} (h : i < l.length) : cA l i ∈ l := by rw [cA_at h]; exact List.getElem_mem h
theorem ls_step (wd : List Int) (p : Option Ch) (now : List ByteArray) (l : List Ch) (i : Nat) (h : i < l.length) : lsB wd p now (l.drop i) = (decide (0 ≤ (cA l i).n ∧ (cA l i).n < now.length ∧ 0 ≤ (cA l i).t ∧ (cA l i).t ≤ 4611686018427387903) && (match p with | none => true | some a => ahB a (cA l i)) && vec (L (cA l i).v) && decide (((cA l i).v.size : Int) = iA wd (cA l i).n.toNat) && decide ((cA l i).v ≠ sA now (cA l i).n.toNat) && lsB wd (some (cA l i)) (now.set (cA l i).n.toNat (cA l i).v) (l.drop (i + 1))) := by
  rw [List.drop_eq_getElem_cons h, cA_at h]; rfl
def pvB (l : List Ch) (i : Nat) : Option Ch := if i = 0 then none else some (cA l (i - 1))
theorem pv_succ (l : List Ch) (i : Nat) : pvB l (i + 1) = some (cA l i) := by unfold pvB; rw [if_neg (by omega)]; rfl
theorem wrap_succ {i n : Nat} (h : i < n) (hn : n ≤ 140737488355328) : Value.int .i64 (wrap64 ((i : Int) + 1)) = Value.int .i64 ((i + 1 : Nat) : Int) := by
  congr 1
  unfold wrap64
  omega
theorem ne_listV {u v : ByteArray} (h : u ≠ v) : (u.toList == v.toList) = false := by
  rw [beq_eq_false_iff_ne]
  intro e
  apply h
  have h1 : L u = L v := by rw [← toL, ← toL]; exact e
  exact L_inj h1
theorem belSetV {L : Nat} {w w' : World} (h : Below L w w') {b i : Nat} {u : Value} (hb : L ≤ b) : Below L w (w'.setCell ⟨b, i, none⟩ u) :=
  ⟨h.os, h.tape, h.output, by rw [show (w'.setCell ⟨b, i, none⟩ u).heap.size = w'.heap.size by simp [World.setCell]]; exact h.size, fun k hk => (Below.heap_setCell _ _ _ _ (by show k ≠ b; omega)).trans (h.block k hk)⟩
theorem own_some {w : World} {B e z n m cap : Nat} {ag : Option Addr} {xs : List Value} (h : w.ownsRow B e z (.slice ag n cap) m xs) (hm : 0 < m) : ∃ g, ag = some ⟨g, 0, none⟩ := by
  rcases h.2 with ⟨_, z⟩ | ⟨g, cap', cur, e, _⟩
  · omega
  · injection e with e1 e2 e3; exact ⟨g, e1⟩
theorem own_at2 {w w' : World} {B e z n : Nat} {v : Value} {xs : List Value} (h : w.ownsRow B e z v n xs) (hb : ∀ k, v.ownBlock = some k → w'.heap[k]? = w.heap[k]?) : w'.ownsRow B e z v n xs := by
  obtain ⟨h1, h2⟩ := h
  refine ⟨h1, ?_⟩
  rcases h2 with h2 | ⟨g, cap, cur, rfl, hg, hh, r⟩
  · exact Or.inl h2
  · exact Or.inr ⟨g, cap, cur, rfl, hg, (hb g rfl).trans hh, r⟩
theorem st1 {W : World} {B n c g : Nat} {now : List ByteArray} (h : W.ownsRow B 9 1 (.slice (some ⟨g, 0, none⟩) n c) n (sC now)) (k : Nat) (v : ByteArray) : (W.setCell ⟨g, k, none⟩ (.string v)).ownsRow B 9 1 (.slice (some ⟨g, 0, none⟩) n c) n (sC (now.set k v)) := by
  have e : sC (now.set k v) = (sC now).set k (.string v) := by unfold sC; rw [List.map_set]
  rw [e]; exact (h.stored k (.string v)).1
theorem range_snoc {p : Nat → Bool} {k : Nat} (h : (List.range k).all p = true) (hp : p k = true) : (List.range (k + 1)).all p = true := by rw [List.range_succ, List.all_append, h]; simp [hp]
theorem range_no {p : Nat → Bool} {k n : Nat} (hk : k < n) (hp : p k = false) : (List.range n).all p = false := by
  cases h : (List.range n).all p with
  | false => rfl
  | true => rw [List.all_eq_true] at h; have := h k (List.mem_range.2 hk); rw [hp] at this; cases this
theorem may_no1 {x : Wv} (h : lenB x = false) : mayW x = false := by unfold mayW; rw [h]; rfl
theorem may_no2 {x : Wv} (h : (List.range x.nm.length).all (netB x) = false) : mayW x = false := by unfold mayW; rw [h]; simp
theorem may_is {x : Wv} (h : lenB x = true) (h2 : (List.range x.nm.length).all (netB x) = true) : mayW x = lsB x.wd none x.fi x.li := by unfold mayW; rw [h, h2]; simp
set_option maxHeartbeats 4000000 in
set_option maxRecDepth 1000000 in
theorem wMay_c (x : Wv) (vn vw vf vl : Value) (w : World) (hx : WvAt w vn vw vf vl x) (hz : Sz x) : Calls Tryz.prog 25 #[.agg #[vn, vw, vf, vl]] w fun e w' => e = .returned (.bool (mayW x)) ∧ Below w.heap.size w w' := by
  have HA : Hid (WvAt w vn vw vf vl x) := hx
  have HZ : Hid (Sz x) := hz
  obtain ⟨an, cn, rfl, _, _⟩ := hx.nm
  obtain ⟨aw, cw, rfl, _, _⟩ := hx.wd
  obtain ⟨af, cf, rfl, hcf, _⟩ := hx.fi
  obtain ⟨al, cl, rfl, _, _⟩ := hx.li
  have HCf : Hid (x.fi.length ≤ cf ∧ (af = none → cf = 0)) := hcf
  clear hx hz hcf
  obtain ⟨W0, hW0⟩ : ∃ W0, W0 = w.alloc (.cells #[.slice an x.nm.length cn, .slice aw x.wd.length cw, .slice af x.fi.length cf, .slice al x.li.length cl] 27) := ⟨_, rfl⟩
  have HB0 : Hid (Below w.heap.size w W0) := by rw [hW0]; exact belA (Below.refl _ _) _
  have HX0 : Hid (W0.heap[w.heap.size]? = some (.cells #[.slice an x.nm.length cn, .slice aw x.wd.length cw, .slice af x.fi.length cf, .slice al x.li.length cl] 27 (0, 0))) := by rw [hW0]; exact alAt rfl
  have HA0 : Hid (WvAt W0 (.slice an x.nm.length cn) (.slice aw x.wd.length cw) (.slice af x.fi.length cf) (.slice al x.li.length cl) x) := HA.out.below HB0.out
  go_enter Tryz.func25, Tryz.ntmps25
  go_upto_region 1 with fail
  rw [← hW0]
  clear hW0 HA
  obtain ⟨b0, b1, b2, b3⟩ := cells4 HX0.out
  have lb := hLt HX0.out
  obtain ⟨E, hE⟩ : ∃ E, E = w.heap.size := ⟨_, rfl⟩
  rw [← hE] at HX0 b0 b1 b2 b3 lb ⊢
  have HE : Hid (E = w.heap.size) := hE
  clear hE
  have HBw : Hid (∀ X, Below W0.heap.size W0 X → Below w.heap.size w X) := fun X hX => bel HB0.out hX
  by_cases l1 : x.nm.length ≤ 4096
  · have l1' : decide ((4096 : Int) < (x.nm.length : Int)) = false := decide_eq_false (by omega)
    by_cases l2 : x.wd.length = x.nm.length
    · have l2' : ((x.wd.length : Int) == (x.nm.length : Int)) = true := by rw [beq_iff_eq]; omega
      by_cases l3 : x.fi.length = x.nm.length
      · have l3' : ((x.fi.length : Int) == (x.nm.length : Int)) = true := by rw [beq_iff_eq]; omega
        have HL : Hid (x.nm.length ≤ 4096 ∧ x.wd.length = x.nm.length ∧ x.fi.length = x.nm.length) := ⟨l1, l2, l3⟩
        go_wp2_with fail
        clear l1 l2 l3 l1' l2' l3'
        go_loopg [4] x.nm.length (fun g s4 wr => ∃ i : Nat, i ≤ x.nm.length ∧ g = x.nm.length - i ∧ s4 = .int .i64 i ∧ Hid ((List.range i).all (netB x) = true) ∧ Hid (Below W0.heap.size W0 wr))
        case atStart => exact ⟨0, Nat.zero_le _, rfl, rfl, rfl, Below.refl _ _⟩
        case round =>
          obtain ⟨i, hi, rfl, rfl, HR, HBr⟩ := hrel
          obtain ⟨wx, hwx⟩ : ∃ wx, wx = wr := ⟨_, rfl⟩
          rw [← hwx] at HBr ⊢
          clear hwx b0 b1 b2 b3
          obtain ⟨b0, b1, b2, b3⟩ := cells4 ((HBr.out.block E lb).trans HX0.out)
          have lbx := Nat.lt_of_lt_of_le lb HBr.out.size
          have hA := HA0.out.below HBr.out
          by_cases hin : i < x.nm.length
          · obtain ⟨gn, on, rfl, hgn, en⟩ := hA.nm.at_ i hin
            obtain ⟨gw, ow, rfl, hgw, ew⟩ := hA.wd.at_ i (by have := HL.out; omega)
            obtain ⟨gf, of, rfl, hgf, ef⟩ := hA.fi.at_ i (by have := HL.out; omega)
            have hs1 : (sA x.nm i).size ≤ maxLen := HZ.out.nm _ (sA_mem hin)
            have hs2 : (sA x.fi i).size ≤ maxLen := HZ.out.fi _ (sA_mem (by have := HL.out; omega))
            have i0 : (0 : Int) ≤ (i : Int) := by omega
            have i1 : (i : Int) < (x.nm.length : Int) := by omega
            have i2 : (i : Int) < (x.wd.length : Int) := by have := HL.out; omega
            have i3 : (i : Int) < (x.fi.length : Int) := by have := HL.out; omega
            have i4 : (i : Int) < 4096 := by have := HL.out; omega
            have HNt : Hid (netB x i = (nameB (sA x.nm i) && vec (L (sA x.fi i)) && decide (((sA x.fi i).size : Int) = iA x.wd i))) := rfl
            have HNo : Hid (netB x i = false → false = mayW x) := fun h => (may_no2 (range_no hin h)).symm
            clear hA
            generalize sA x.nm i = s1 at *
            generalize sA x.fi i = s2 at *
            generalize iA x.wd i = z at *
            have HN0 := fun j => named_c s1 (wx.drewN j) hs1
            have HV0 := fun j => may_c s2 (wx.drewN j) hs2
            clear hs1 hs2
            by_cases q1 : nameB s1 = true
            · rw [q1] at HN0
              have HN : Hid (∀ j, Calls Tryz.prog 42 #[.string s1] (wx.drewN j) fun e w' => e = .returned (.bool true) ∧ w' = wx.drewN j) := HN0
              by_cases q2 : vec (L s2) = true
              · rw [q2] at HV0
                have HV : Hid (∀ j, Calls Tryz.prog 43 #[.string s2] (wx.drewN j) fun e w' => e = .returned (.bool true) ∧ w' = wx.drewN j) := HV0
                clear HN0 HV0
                by_cases q3 : ((s2.size : Nat) : Int) = z
                · have q3' : (((s2.size : Nat) : Int) == z) = true := by rw [beq_iff_eq]; exact q3
                  have HY : Hid (netB x i = true) := by rw [HNt.out, q1, q2, decide_eq_true q3]; rfl
                  clear q1 q2 q3
                  go_wp2_with fail
                  go_quiet (first | (go_at_call 42; exact Calls.quiet_of_same (HN.out _)) | (go_at_call 43; exact Calls.quiet_of_same (HV.out _)))
                  go_wp2_with fail
                  go_roundg (x.nm.length - (i + 1))
                  case measure => omega
                  case rel => exact ⟨i + 1, by omega, rfl, by go_num, range_snoc HR.out HY.out, bdn HBr.out _⟩
                · have q3' : (((s2.size : Nat) : Int) == z) = false := by rw [beq_eq_false_iff_ne]; exact q3
                  have HY : Hid (false = mayW x) := HNo.out (by rw [HNt.out, decide_eq_false q3]; simp)
                  clear q1 q2 q3
                  go_wp2_with fail
                  go_quiet (first | (go_at_call 42; exact Calls.quiet_of_same (HN.out _)) | (go_at_call 43; exact Calls.quiet_of_same (HV.out _)))
                  go_wp2_with fail
                  go_ret
                  exact ⟨ret_bool HY.out, HBw.out _ (bdn HBr.out _)⟩
              · have q2' : vec (L s2) = false := by simpa using q2
                rw [q2'] at HV0
                have HV : Hid (∀ j, Calls Tryz.prog 43 #[.string s2] (wx.drewN j) fun e w' => e = .returned (.bool false) ∧ w' = wx.drewN j) := HV0
                have HY : Hid (false = mayW x) := HNo.out (by rw [HNt.out, q2']; simp)
                clear HN0 HV0 q1 q2 q2'
                go_wp2_with fail
                go_quiet (first | (go_at_call 42; exact Calls.quiet_of_same (HN.out _)) | (go_at_call 43; exact Calls.quiet_of_same (HV.out _)))
                go_wp2_with fail
                go_ret
                exact ⟨ret_bool HY.out, HBw.out _ (bdn HBr.out _)⟩
            · have q1' : nameB s1 = false := by simpa using q1
              rw [q1'] at HN0
              have HN : Hid (∀ j, Calls Tryz.prog 42 #[.string s1] (wx.drewN j) fun e w' => e = .returned (.bool false) ∧ w' = wx.drewN j) := HN0
              have HV : Hid (∀ j, Calls Tryz.prog 43 #[.string s2] (wx.drewN j) fun e w' => e = .returned (.bool (vec (L s2))) ∧ w' = wx.drewN j) := HV0
              have HY : Hid (false = mayW x) := HNo.out (by rw [HNt.out, q1']; simp)
              clear HN0 HV0 q1 q1'
              go_wp2_with fail
              go_quiet (first | (go_at_call 42; exact Calls.quiet_of_same (HN.out _)) | (go_at_call 43; exact Calls.quiet_of_same (HV.out _)))
              go_wp2_with fail
              go_ret
              exact ⟨ret_bool HY.out, HBw.out _ (bdn HBr.out _)⟩
          · have hie : i = x.nm.length := by omega
            have HM : Hid (mayW x = lsB x.wd none x.fi x.li) := may_is (decide_eq_true HL.out) (by rw [← hie]; exact HR.out)
            have i5 : ¬ (i : Int) < (x.nm.length : Int) := by omega
            clear hin hie
            obtain ⟨jj, hjj⟩ := infoStr
            have HJ : Hid (Tryz.prog.info? 9 = some jj ∧ jj.zero = some (.string ⟨#[]⟩) ∧ jj.size = 1 ∧ jj.bytes = 16) := hjj
            clear hjj
            have HAx : Hid (WvAt wx (.slice an x.nm.length cn) (.slice aw x.wd.length cw) (.slice af x.fi.length cf) (.slice al x.li.length cl) x) := hA
            clear hA
            go_upto_region 10 with fail
            go_cut [5] from 62 (fun s5 wy => ∃ (ag : Option Addr) (cg : Nat), s5 = .slice ag x.fi.length cg ∧ Hid (wy.ownsRow W0.heap.size 9 1 (.slice ag x.fi.length cg) x.fi.length (sC x.fi)) ∧ Hid (Below W0.heap.size W0 wy))
            case first =>
              cases af with
              | none =>
                have e2 : cf = 0 := HCf.out.2 rfl
                have e1 : x.fi.length = 0 := by have := HCf.out.1; omega
                have hfi : sC x.fi = [] := by rw [List.eq_nil_of_length_eq_zero e1]; rfl
                have b2' : wx.cell? ⟨E, 2, none⟩ = some (.slice none 0 0) := by rw [b2, e1, e2]
                have HE1 : Hid (x.fi.length = 0 ∧ sC x.fi = []) := ⟨e1, hfi⟩
                clear b2 e1 e2 hfi
                go_wp2_with (first
                  | (at_builtin; refine wpList_append_own_none rfl _ _ 23 rfl W0.heap.size 9 jj 1 Tryz.underlying23 HJ.out.1 _ 0 [] rfl (World.ownsRow_nil _ _ _ _) rfl ?_))
                go_meet
                exact ⟨none, 0, by rw [HE1.out.1], by rw [HE1.out.1, HE1.out.2]; exact World.ownsRow_nil _ _ _ _, HBr.out⟩
              | some ad =>
                have hnw := HAx.out.fi.news
                go_wp2_with (first
                  | (at_builtin; refine wpList_append_own_at _ rfl _ _ 23 rfl W0.heap.size 9 jj _ 1 16 Tryz.underlying23 HJ.out.1 HJ.out.2.1 HJ.out.2.2.1 HJ.out.2.2.2 rfl (by decide) _ 0 [] rfl (World.ownsRow_nil _ _ _ _) ad x.fi.length cf (sC x.fi) rfl (by simp [sC]) hnw (one_sC _) (by have := HL.out; unfold maxLen; omega) (by have := HL.out; omega) HBr.out.size ?_; intro v9 w9 hown9 hgrow9 hnil9 hloc9; obtain ⟨ag, cg, rfl⟩ := own_slice hown9; have HO9 : Hid (w9.ownsRow W0.heap.size 9 1 (.slice ag (0 + x.fi.length) cg) (0 + x.fi.length) ([] ++ sC x.fi)) := hown9; have HG9 : Hid (wx.grownBy w9 (Value.slice none 0 0).ownBlock) := hgrow9; clear hown9 hgrow9 hnil9 hloc9))
                go_meet
                have h9 := HO9.out
                rw [Nat.zero_add, List.nil_append] at h9
                exact ⟨ag, cg, rfl, h9, Gb HBr.out HG9.out (fun g e => by cases e)⟩
            case rest =>
              obtain ⟨ag, cg, rfl, HO, HBy⟩ := hcut
              clear b0 b1 b2 b3 lbx HAx i5
              go_wp2_with fail
              go_loopg [6] x.li.length (fun g s6 wr => ∃ (i : Nat) (now : List ByteArray), i ≤ x.li.length ∧ g = x.li.length - i ∧ s6 = .int .i64 i ∧ Hid (now.length = x.fi.length) ∧ Hid (wr.ownsRow W0.heap.size 9 1 (.slice ag x.fi.length cg) x.fi.length (sC now)) ∧ Hid (lsB x.wd none x.fi x.li = lsB x.wd (pvB x.li i) now (x.li.drop i)) ∧ Hid (Below W0.heap.size W0 wr))
              case atStart => exact ⟨0, x.fi, Nat.zero_le _, rfl, rfl, rfl, HO.out, rfl, HBy.out⟩
              case round =>
                obtain ⟨i, now, hi, rfl, rfl, HNl, HO2, HLs, HBz⟩ := hrel
                obtain ⟨wz, hwz⟩ : ∃ wz, wz = wr := ⟨_, rfl⟩
                rw [← hwz] at HBz HO2 ⊢
                clear hwz
                obtain ⟨b0, b1, b2, b3⟩ := cells4 ((HBz.out.block E lb).trans HX0.out)
                have lbz := Nat.lt_of_lt_of_le lb HBz.out.size
                have hA := HA0.out.below HBz.out
                by_cases hin : i < x.li.length
                · obtain ⟨gl, ol, rfl, hgl, c0, c1, c2⟩ := hA.li.at_ i hin
                  have HAz : Hid (WvAt wz (.slice an x.nm.length cn) (.slice aw x.wd.length cw) (.slice af x.fi.length cf) (.slice (some ⟨gl, ol, none⟩) x.li.length cl) x) := hA
                  have HSt : Hid _ := ls_step x.wd (pvB x.li i) now x.li i hin
                  have HSv0 : Hid ((cA x.li i).v.size ≤ maxLen) := HZ.out.li _ (cA_mem hin)
                  have i0 : (0 : Int) ≤ (i : Int) := by omega
                  have i1 : (i : Int) < (x.li.length : Int) := by omega
                  obtain ⟨y, hy⟩ : ∃ y, y = cA x.li i := ⟨_, rfl⟩
                  rw [← hy] at c0 c1 c2 HSt HSv0
                  have HYi : Hid (y = cA x.li i) := hy
                  clear hA hy
                  have HS0 : Hid (lsB x.wd (pvB x.li i) now (x.li.drop i) = (decide (0 ≤ y.n ∧ y.n < now.length ∧ 0 ≤ y.t ∧ y.t ≤ 4611686018427387903) && (match pvB x.li i with | none => true | some a => ahB a y) && vec (L y.v) && decide ((y.v.size : Int) = iA x.wd y.n.toNat) && decide (y.v ≠ sA now y.n.toNat) && lsB x.wd (some y) (now.set y.n.toNat y.v) (x.li.drop (i + 1)))) := HSt.out
                  clear HSt
                  obtain ⟨yt, yn, yv⟩ := y
                  simp only at c0 c1 c2 HS0 HSv0
                  obtain ⟨W1, hW1⟩ : ∃ W1, W1 = wz.alloc (.cells #[.int .i64 yt, .int .i64 yn, .string yv] 34) := ⟨_, rfl⟩
                  have HB1 : Hid (Below wz.heap.size wz W1) := by rw [hW1]; exact belA (Below.refl _ _) _
                  have HF1 : Hid (W1.heap[wz.heap.size]? = some (.cells #[.int .i64 yt, .int .i64 yn, .string yv] 34 (0, 0))) := by rw [hW1]; exact alAt rfl
                  go_upto_region 15 with fail
                  rw [← hW1]
                  clear hW1 c0 c1 c2 b0 b1 b2 b3 lbz
                  obtain ⟨c0, c1, c2⟩ := cells3n HF1.out
                  have lF := hLt HF1.out
                  obtain ⟨F, hF⟩ : ∃ F, F = wz.heap.size := ⟨_, rfl⟩
                  rw [← hF] at c0 c1 c2 HF1 lF ⊢
                  have HFz : Hid (F = wz.heap.size) := hF
                  clear hF
                  have HBW : Hid (Below W0.heap.size W0 W1) := bel HBz.out HB1.out
                  have HA1 : Hid (WvAt W1 (.slice an x.nm.length cn) (.slice aw x.wd.length cw) (.slice af x.fi.length cf) (.slice (some ⟨gl, ol, none⟩) x.li.length cl) x) := HAz.out.below HB1.out
                  obtain ⟨b0, b1, b2, b3⟩ := cells4 ((HBW.out.block E lb).trans HX0.out)
                  have lbz := Nat.lt_of_lt_of_le lb HBW.out.size
                  have HFalse : Hid (decide (0 ≤ yn ∧ yn < now.length ∧ 0 ≤ yt ∧ yt ≤ 4611686018427387903) = false → false = mayW x) := fun h => by rw [HM.out, HLs.out, HS0.out, h]; rfl
                  have hnn : (x.nm.length : Int) = (now.length : Int) := by have := HNl.out; have := HL.out; omega
                  by_cases r1 : yn < 0
                  · have r1' : decide (yn < 0) = true := decide_eq_true r1
                    have HY : Hid (false = mayW x) := HFalse.out (decide_eq_false fun h => by omega)
                    clear r1
                    go_quiet (fail)
                    go_wp2_with fail
                    go_ret
                    exact ⟨ret_bool HY.out, HBw.out _ (bdn HBW.out _)⟩
                  by_cases r2 : (x.nm.length : Int) ≤ yn
                  · have r1' : decide (yn < 0) = false := decide_eq_false r1
                    have r2' : decide ((x.nm.length : Int) ≤ yn) = true := decide_eq_true r2
                    have HY : Hid (false = mayW x) := HFalse.out (decide_eq_false fun h => by omega)
                    clear r1 r2 hnn
                    go_quiet (fail)
                    go_wp2_with fail
                    go_ret
                    exact ⟨ret_bool HY.out, HBw.out _ (bdn HBW.out _)⟩
                  by_cases r3 : yt < 0
                  · have r1' : decide (yn < 0) = false := decide_eq_false r1
                    have r2' : decide ((x.nm.length : Int) ≤ yn) = false := decide_eq_false r2
                    have r3' : decide (yt < 0) = true := decide_eq_true r3
                    have HY : Hid (false = mayW x) := HFalse.out (decide_eq_false fun h => by omega)
                    clear r1 r2 r3 hnn
                    go_quiet (fail)
                    go_wp2_with fail
                    go_ret
                    exact ⟨ret_bool HY.out, HBw.out _ (bdn HBW.out _)⟩
                  by_cases r4 : 4611686018427387903 < yt
                  · have r1' : decide (yn < 0) = false := decide_eq_false r1
                    have r2' : decide ((x.nm.length : Int) ≤ yn) = false := decide_eq_false r2
                    have r3' : decide (yt < 0) = false := decide_eq_false r3
                    have r4' : decide (4611686018427387903 < yt) = true := decide_eq_true r4
                    have HY : Hid (false = mayW x) := HFalse.out (decide_eq_false fun h => by omega)
                    clear r1 r2 r3 r4 hnn
                    go_quiet (fail)
                    go_wp2_with fail
                    go_ret
                    exact ⟨ret_bool HY.out, HBw.out _ (bdn HBW.out _)⟩
                  have HRg : Hid (decide (0 ≤ yn ∧ yn < now.length ∧ 0 ≤ yt ∧ yt ≤ 4611686018427387903) = true) := decide_eq_true ⟨by omega, by omega, by omega, by omega⟩
                  have HKn : Hid (0 ≤ yn ∧ yn < (x.nm.length : Int)) := ⟨by omega, by omega⟩
                  have r1' : decide (yn < 0) = false := decide_eq_false r1
                  have r2' : decide ((x.nm.length : Int) ≤ yn) = false := decide_eq_false r2
                  have r3' : decide (yt < 0) = false := decide_eq_false r3
                  have r4' : decide (4611686018427387903 < yt) = false := decide_eq_false r4
                  clear r1 r2 r3 r4
                  obtain ⟨pv, hpv⟩ : ∃ pv : Bool, pv = (match pvB x.li i with | none => true | some a => ahB a ⟨yt, yn, yv⟩) := ⟨_, rfl⟩
                  have HPv : Hid (pv = (match pvB x.li i with | none => true | some a => ahB a ⟨yt, yn, yv⟩)) := hpv
                  rw [← hpv] at HS0
                  clear hpv hnn HFalse
                  go_cut [111] from 66 to 143 (fun s111 wy => s111 = .bool (!pv) ∧ Hid (Below W1.heap.size W1 wy))
                  case first =>
                    by_cases h0 : i = 0
                    · have h0' : decide (0 < i) = false := decide_eq_false (by omega)
                      have h0'' : decide ((0 : Int) < (i : Int)) = false := decide_eq_false (by omega)
                      have HP : Hid (pv = true) := by rw [HPv.out, show pvB x.li i = none from by unfold pvB; rw [if_pos h0]]; rfl
                      clear h0
                      go_quiet (fail)
                      go_wp2_with fail
                      go_meet
                      exact ⟨by rw [HP.out]; rfl, bdn (Below.refl _ _) _⟩
                    · obtain ⟨k, rfl⟩ : ∃ k, i = k + 1 := ⟨i - 1, by omega⟩
                      obtain ⟨g', o', eg, hgk, p0, p1, p2⟩ := HA1.out.li.at_ k (by omega)
                      injection eg with eg
                      injection eg with eg1 eg2
                      subst eg1 eg2
                      have HP : Hid (ahB (cA x.li k) ⟨yt, yn, yv⟩ = pv) := by have h := HPv.out; rw [show pvB x.li (k + 1) = some (cA x.li k) from by unfold pvB; rw [if_neg (by omega)]; rfl] at h; exact h.symm
                      have k1 : (k : Int) < (x.li.length : Int) := by omega
                      have k2 : (k : Int) < 140737488355328 := by have := HZ.out.ln; omega
                      have hwk : IntKind.i64.wrap (k : Int) = (k : Int) := by rw [IntKind.wrap_i64]; omega
                      have hkn : k < x.li.length := by omega
                      clear h0 HPv HS0 HAz HA1 HM HLs
                      generalize cA x.li k = z at *
                      obtain ⟨zt, zn, zv⟩ := z
                      simp only at p0 p1 p2
                      refine wp_region_any (by kernel_rfl) ?_
                      try (change wpAny _ _ _ _ _ _ _ (World.drew _))
                      refine wpAny_take (i := 0) (oi := ⟨some 78, _, _, _, _, _⟩) (v := ?_) rfl (by kernel_rfl) (by kernel_rfl) (by kernel_rfl) (fun _ _ _ h => h) (Or.inl ⟨by kernel_rfl, ?_⟩) ?_
                      rotate_left
                      · intro w'; go_simp <;> with_reducible rfl
                      try simp only [Act.put, List.setIfInBounds_toArray, List.set_cons_zero, List.set_cons_succ]
                      refine wpAny_ready (rs := [1]) (by kernel_rfl) (by simp) ?_
                      refine AllReady.cons rfl (fun K hK => ?_) ?_
                      · go_simp
                        refine hK _ _ ?_
                        clear hK K
                        try simp only [Act.put, List.setIfInBounds_toArray, List.set_cons_zero, List.set_cons_succ]
                        refine wpAny_take (i := 2) (oi := ⟨some 80, _, _, _, _, _⟩) (v := ?_) rfl (by kernel_rfl) (by kernel_rfl) (by kernel_rfl) (fun _ _ _ h => h) (Or.inl ⟨by kernel_rfl, ?_⟩) ?_
                        rotate_left
                        · intro w'; go_simp <;> with_reducible rfl
                        try simp only [Act.put, List.setIfInBounds_toArray, List.set_cons_zero, List.set_cons_succ]
                        refine wpAny_take (i := 3) (oi := ⟨some 81, _, _, _, _, _⟩) (v := ?_) rfl (by kernel_rfl) (by kernel_rfl) (by kernel_rfl) (fun _ _ _ h => h) (Or.inl ⟨by kernel_rfl, ?_⟩) ?_
                        rotate_left
                        · intro w'; go_simp <;> with_reducible rfl
                        try simp only [Act.put, List.setIfInBounds_toArray, List.set_cons_zero, List.set_cons_succ]
                        refine wpAny_take (i := 4) (oi := ⟨some 82, _, _, _, _, _⟩) (v := ?_) rfl (by kernel_rfl) (by kernel_rfl) (by kernel_rfl) (fun _ _ _ h => h) (Or.inl ⟨by kernel_rfl, ?_⟩) ?_
                        rotate_left
                        · intro w'; go_simp <;> with_reducible rfl
                        try simp only [Act.put, List.setIfInBounds_toArray, List.set_cons_zero, List.set_cons_succ]
                        refine wpAny_take (i := 6) (oi := ⟨some 84, _, _, _, _, _⟩) (v := ?_) rfl (by kernel_rfl) (by kernel_rfl) (by kernel_rfl) (fun _ _ _ h => h) (Or.inl ⟨by kernel_rfl, ?_⟩) ?_
                        rotate_left
                        · intro w'; go_simp <;> with_reducible rfl
                        try simp only [Act.put, List.setIfInBounds_toArray, List.set_cons_zero, List.set_cons_succ]
                        refine wpAny_ready (rs := [5]) (by kernel_rfl) (by simp) ?_
                        refine AllReady.cons rfl (fun K hK => ?_) ?_
                        · go_simp
                          refine hK _ _ ?_
                          clear hK K
                          try simp only [Act.put, List.setIfInBounds_toArray, List.set_cons_zero, List.set_cons_succ]
                          refine wpAny_take (i := 7) (oi := ⟨some 85, _, _, _, _, _⟩) (v := ?_) rfl (by kernel_rfl) (by kernel_rfl) (by kernel_rfl) (fun _ _ _ h => h) (Or.inl ⟨by kernel_rfl, ?_⟩) ?_
                          rotate_left
                          · intro w'; go_simp <;> with_reducible rfl
                          try simp only [Act.put, List.setIfInBounds_toArray, List.set_cons_zero, List.set_cons_succ]
                          refine wpAny_take (i := 8) (oi := ⟨some 86, _, _, _, _, _⟩) (v := ?_) rfl (by kernel_rfl) (by kernel_rfl) (by kernel_rfl) (fun _ _ _ h => h) (Or.inl ⟨by kernel_rfl, ?_⟩) ?_
                          rotate_left
                          · intro w'; go_simp <;> with_reducible rfl
                          try simp only [Act.put, List.setIfInBounds_toArray, List.set_cons_zero, List.set_cons_succ]
                          refine wpAny_take (i := 9) (oi := ⟨some 87, _, _, _, _, _⟩) (v := ?_) rfl (by kernel_rfl) (by kernel_rfl) (by kernel_rfl) (fun _ _ _ h => h) (Or.inl ⟨by kernel_rfl, ?_⟩) ?_
                          rotate_left
                          · intro w'; go_simp <;> with_reducible rfl
                          try simp only [Act.put, List.setIfInBounds_toArray, List.set_cons_zero, List.set_cons_succ]
                          refine wpAny_take (i := 10) (oi := ⟨some 88, _, _, _, _, _⟩) (v := ?_) rfl (by kernel_rfl) (by kernel_rfl) (by kernel_rfl) (fun _ _ _ h => h) (Or.inl ⟨by kernel_rfl, ?_⟩) ?_
                          rotate_left
                          · intro w'; go_simp <;> with_reducible rfl
                          try simp only [Act.put, List.setIfInBounds_toArray, List.set_cons_zero, List.set_cons_succ]
                          refine wpAny_ready (rs := [11]) (by kernel_rfl) (by simp) ?_
                          refine AllReady.cons rfl (fun K hK => ?_) ?_
                          · go_simp
                            refine hK _ _ ?_
                            clear hK K
                            try simp only [Act.put, List.setIfInBounds_toArray, List.set_cons_zero, List.set_cons_succ]
                            refine wpAny_take (i := 12) (oi := ⟨some 90, _, _, _, _, _⟩) (v := ?_) rfl (by kernel_rfl) (by kernel_rfl) (by kernel_rfl) (fun _ _ _ h => h) (Or.inl ⟨by kernel_rfl, ?_⟩) ?_
                            rotate_left
                            · intro w'; go_simp <;> with_reducible rfl
                            try simp only [Act.put, List.setIfInBounds_toArray, List.set_cons_zero, List.set_cons_succ]
                            refine wpAny_take (i := 13) (oi := ⟨some 91, _, _, _, _, _⟩) (v := ?_) rfl (by kernel_rfl) (by kernel_rfl) (by kernel_rfl) (fun _ _ _ h => h) (Or.inl ⟨by kernel_rfl, ?_⟩) ?_
                            rotate_left
                            · intro w'; go_simp <;> with_reducible rfl
                            try simp only [Act.put, List.setIfInBounds_toArray, List.set_cons_zero, List.set_cons_succ]
                            refine wpAny_take (i := 14) (oi := ⟨some 92, _, _, _, _, _⟩) (v := ?_) rfl (by kernel_rfl) (by kernel_rfl) (by kernel_rfl) (fun _ _ _ h => h) (Or.inl ⟨by kernel_rfl, ?_⟩) ?_
                            rotate_left
                            · intro w'; go_simp <;> with_reducible rfl
                            try simp only [Act.put, List.setIfInBounds_toArray, List.set_cons_zero, List.set_cons_succ]
                            refine wpAny_take (i := 15) (oi := ⟨some 93, _, _, _, _, _⟩) (v := ?_) rfl (by kernel_rfl) (by kernel_rfl) (by kernel_rfl) (fun _ _ _ h => h) (Or.inl ⟨by kernel_rfl, ?_⟩) ?_
                            rotate_left
                            · intro w'; go_simp <;> with_reducible rfl
                            try simp only [Act.put, List.setIfInBounds_toArray, List.set_cons_zero, List.set_cons_succ]
                            refine wpAny_ready (rs := [16]) (by kernel_rfl) (by simp) ?_
                            refine AllReady.cons rfl (fun K hK => ?_) ?_
                            · go_simp
                              refine hK _ _ ?_
                              clear hK K
                              try simp only [Act.put, List.setIfInBounds_toArray, List.set_cons_zero, List.set_cons_succ]
                              refine wpAny_take (i := 17) (oi := ⟨some 95, _, _, _, _, _⟩) (v := ?_) rfl (by kernel_rfl) (by kernel_rfl) (by kernel_rfl) (fun _ _ _ h => h) (Or.inl ⟨by kernel_rfl, ?_⟩) ?_
                              rotate_left
                              · intro w'; go_simp <;> with_reducible rfl
                              try simp only [Act.put, List.setIfInBounds_toArray, List.set_cons_zero, List.set_cons_succ]
                              refine wpAny_take (i := 18) (oi := ⟨some 96, _, _, _, _, _⟩) (v := ?_) rfl (by kernel_rfl) (by kernel_rfl) (by kernel_rfl) (fun _ _ _ h => h) (Or.inl ⟨by kernel_rfl, ?_⟩) ?_
                              rotate_left
                              · intro w'; go_simp <;> with_reducible rfl
                              try simp only [Act.put, List.setIfInBounds_toArray, List.set_cons_zero, List.set_cons_succ]
                              refine wpAny_take (i := 19) (oi := ⟨some 97, _, _, _, _, _⟩) (v := ?_) rfl (by kernel_rfl) (by kernel_rfl) (by kernel_rfl) (fun _ _ _ h => h) (Or.inl ⟨by kernel_rfl, ?_⟩) ?_
                              rotate_left
                              · intro w'; go_simp <;> with_reducible rfl
                              try simp only [Act.put, List.setIfInBounds_toArray, List.set_cons_zero, List.set_cons_succ]
                              refine wpAny_take (i := 20) (oi := ⟨some 98, _, _, _, _, _⟩) (v := ?_) rfl (by kernel_rfl) (by kernel_rfl) (by kernel_rfl) (fun _ _ _ h => h) (Or.inl ⟨by kernel_rfl, ?_⟩) ?_
                              rotate_left
                              · intro w'; go_simp <;> with_reducible rfl
                              try simp only [Act.put, List.setIfInBounds_toArray, List.set_cons_zero, List.set_cons_succ]
                              refine wpAny_take (i := 21) (oi := ⟨some 99, _, _, _, _, _⟩) (v := ?_) rfl (by kernel_rfl) (by kernel_rfl) (by kernel_rfl) (fun _ _ _ h => h) (Or.inl ⟨by kernel_rfl, ?_⟩) ?_
                              rotate_left
                              · intro w'; go_simp <;> with_reducible rfl
                              try simp only [Act.put, List.setIfInBounds_toArray, List.set_cons_zero, List.set_cons_succ]
                              refine wpAny_take (i := 22) (oi := ⟨some 100, _, _, _, _, _⟩) (v := ?_) rfl (by kernel_rfl) (by kernel_rfl) (by kernel_rfl) (fun _ _ _ h => h) (Or.inl ⟨by kernel_rfl, ?_⟩) ?_
                              rotate_left
                              · intro w'; go_simp <;> with_reducible rfl
                              try simp only [Act.put, List.setIfInBounds_toArray, List.set_cons_zero, List.set_cons_succ]
                              refine wpAny_take (i := 23) (oi := ⟨some 101, _, _, _, _, _⟩) (v := ?_) rfl (by kernel_rfl) (by kernel_rfl) (by kernel_rfl) (fun _ _ _ h => h) (Or.inl ⟨by kernel_rfl, ?_⟩) ?_
                              rotate_left
                              · intro w'; go_simp <;> with_reducible rfl
                              try simp only [Act.put, List.setIfInBounds_toArray, List.set_cons_zero, List.set_cons_succ]
                              refine wpAny_take (i := 25) (oi := ⟨some 103, _, _, _, _, _⟩) (v := ?_) rfl (by kernel_rfl) (by kernel_rfl) (by kernel_rfl) (fun _ _ _ h => h) (Or.inl ⟨by kernel_rfl, ?_⟩) ?_
                              rotate_left
                              · intro w'; go_simp <;> with_reducible rfl
                              try simp only [Act.put, List.setIfInBounds_toArray, List.set_cons_zero, List.set_cons_succ]
                              refine wpAny_take (i := 26) (oi := ⟨some 104, _, _, _, _, _⟩) (v := ?_) rfl (by kernel_rfl) (by kernel_rfl) (by kernel_rfl) (fun _ _ _ h => h) (Or.inl ⟨by kernel_rfl, ?_⟩) ?_
                              rotate_left
                              · intro w'; go_simp <;> with_reducible rfl
                              try simp only [Act.put, List.setIfInBounds_toArray, List.set_cons_zero, List.set_cons_succ]
                              refine wpAny_ready (rs := [24, 29]) (by kernel_rfl) (by simp) ?_
                              refine AllReady.cons rfl (fun K hK => ?_) ?_
                              · go_simp
                                refine hK _ _ ?_
                                clear hK K
                                try simp only [Act.put, List.setIfInBounds_toArray, List.set_cons_zero, List.set_cons_succ]
                                refine wpAny_take (i := 27) (oi := ⟨some 105, _, _, _, _, _⟩) (v := ?_) rfl (by kernel_rfl) (by kernel_rfl) (by kernel_rfl) (fun _ _ _ h => h) (Or.inl ⟨by kernel_rfl, ?_⟩) ?_
                                rotate_left
                                · intro w'; go_simp <;> with_reducible rfl
                                try simp only [Act.put, List.setIfInBounds_toArray, List.set_cons_zero, List.set_cons_succ]
                                refine wpAny_ready (rs := [28, 29]) (by kernel_rfl) (by simp) ?_
                                refine AllReady.cons rfl (fun K hK => ?_) ?_
                                · go_simp
                                  refine hK _ _ ?_
                                  clear hK K
                                  try simp only [Act.put, List.setIfInBounds_toArray, List.set_cons_zero, List.set_cons_succ]
                                  refine wpAny_ready (rs := [29]) (by kernel_rfl) (by simp) ?_
                                  refine AllReady.cons rfl (fun K hK => ?_) ?_
                                  · go_simp
                                    refine hK _ _ ?_
                                    clear hK K
                                    try simp only [Act.put, List.setIfInBounds_toArray, List.set_cons_zero, List.set_cons_succ]
                                    refine wpAny_ready (rs := [30]) (by kernel_rfl) (by simp) ?_
                                    refine AllReady.cons rfl (fun K hK => ?_) ?_
                                    · go_simp
                                      refine (ahead_c ⟨zt, zn, zv⟩ ⟨yt, yn, yv⟩ _).mono ?_
                                      rintro e w5 ⟨rfl, hb5⟩
                                      refine hK _ _ ?_
                                      clear hK K
                                      try simp only [Act.put, List.setIfInBounds_toArray, List.set_cons_zero, List.set_cons_succ]
                                      refine wpAny_take (i := 31) (oi := ⟨some 109, _, _, _, _, _⟩) (v := ?_) rfl (by kernel_rfl) (by kernel_rfl) (by kernel_rfl) (fun _ _ _ h => h) (Or.inl ⟨by kernel_rfl, ?_⟩) ?_
                                      rotate_left
                                      · intro w'; go_simp <;> with_reducible rfl
                                      try simp only [Act.put, List.setIfInBounds_toArray, List.set_cons_zero, List.set_cons_succ]
                                      refine wpAny_take (i := 32) (oi := ⟨some 110, _, _, _, _, _⟩) (v := ?_) rfl (by kernel_rfl) (by kernel_rfl) (by kernel_rfl) (fun _ _ _ h => h) (Or.inl ⟨by kernel_rfl, ?_⟩) ?_
                                      rotate_left
                                      · intro w'; go_simp <;> with_reducible rfl
                                      try simp only [Act.put, List.setIfInBounds_toArray, List.set_cons_zero, List.set_cons_succ]
                                      refine wpAny_take (i := 33) (oi := ⟨some 111, _, _, _, _, _⟩) (v := ?_) rfl (by kernel_rfl) (by kernel_rfl) (by kernel_rfl) (fun _ _ _ h => h) (Or.inl ⟨by kernel_rfl, ?_⟩) ?_
                                      rotate_left
                                      · intro w'; go_simp <;> with_reducible rfl
                                      try simp only [Act.put, List.setIfInBounds_toArray, List.set_cons_zero, List.set_cons_succ]
                                      refine wpAny_done (by kernel_rfl) ?_ _
                                      go_wp2_with fail
                                      go_meet
                                      exact ⟨by rw [← HP.out], ⟨hb5.os, hb5.tape, hb5.output, hb5.size, hb5.block⟩⟩
                                    exact AllReady.nil
                                  exact AllReady.nil
                                refine AllReady.cons rfl (fun K hK => ?_) ?_
                                · go_simp
                                  refine hK _ _ ?_
                                  clear hK K
                                  try simp only [Act.put, List.setIfInBounds_toArray, List.set_cons_zero, List.set_cons_succ]
                                  refine wpAny_ready (rs := [28]) (by kernel_rfl) (by simp) ?_
                                  refine AllReady.cons rfl (fun K hK => ?_) ?_
                                  · go_simp
                                    refine hK _ _ ?_
                                    clear hK K
                                    try simp only [Act.put, List.setIfInBounds_toArray, List.set_cons_zero, List.set_cons_succ]
                                    refine wpAny_ready (rs := [30]) (by kernel_rfl) (by simp) ?_
                                    refine AllReady.cons rfl (fun K hK => ?_) ?_
                                    · go_simp
                                      refine (ahead_c ⟨zt, zn, zv⟩ ⟨yt, yn, yv⟩ _).mono ?_
                                      rintro e w5 ⟨rfl, hb5⟩
                                      refine hK _ _ ?_
                                      clear hK K
                                      try simp only [Act.put, List.setIfInBounds_toArray, List.set_cons_zero, List.set_cons_succ]
                                      refine wpAny_take (i := 31) (oi := ⟨some 109, _, _, _, _, _⟩) (v := ?_) rfl (by kernel_rfl) (by kernel_rfl) (by kernel_rfl) (fun _ _ _ h => h) (Or.inl ⟨by kernel_rfl, ?_⟩) ?_
                                      rotate_left
                                      · intro w'; go_simp <;> with_reducible rfl
                                      try simp only [Act.put, List.setIfInBounds_toArray, List.set_cons_zero, List.set_cons_succ]
                                      refine wpAny_take (i := 32) (oi := ⟨some 110, _, _, _, _, _⟩) (v := ?_) rfl (by kernel_rfl) (by kernel_rfl) (by kernel_rfl) (fun _ _ _ h => h) (Or.inl ⟨by kernel_rfl, ?_⟩) ?_
                                      rotate_left
                                      · intro w'; go_simp <;> with_reducible rfl
                                      try simp only [Act.put, List.setIfInBounds_toArray, List.set_cons_zero, List.set_cons_succ]
                                      refine wpAny_take (i := 33) (oi := ⟨some 111, _, _, _, _, _⟩) (v := ?_) rfl (by kernel_rfl) (by kernel_rfl) (by kernel_rfl) (fun _ _ _ h => h) (Or.inl ⟨by kernel_rfl, ?_⟩) ?_
                                      rotate_left
                                      · intro w'; go_simp <;> with_reducible rfl
                                      try simp only [Act.put, List.setIfInBounds_toArray, List.set_cons_zero, List.set_cons_succ]
                                      refine wpAny_done (by kernel_rfl) ?_ _
                                      go_wp2_with fail
                                      go_meet
                                      exact ⟨by rw [← HP.out], ⟨hb5.os, hb5.tape, hb5.output, hb5.size, hb5.block⟩⟩
                                    exact AllReady.nil
                                  exact AllReady.nil
                                exact AllReady.nil
                              refine AllReady.cons rfl (fun K hK => ?_) ?_
                              · go_simp
                                refine hK _ _ ?_
                                clear hK K
                                try simp only [Act.put, List.setIfInBounds_toArray, List.set_cons_zero, List.set_cons_succ]
                                refine wpAny_ready (rs := [24]) (by kernel_rfl) (by simp) ?_
                                refine AllReady.cons rfl (fun K hK => ?_) ?_
                                · go_simp
                                  refine hK _ _ ?_
                                  clear hK K
                                  try simp only [Act.put, List.setIfInBounds_toArray, List.set_cons_zero, List.set_cons_succ]
                                  refine wpAny_take (i := 27) (oi := ⟨some 105, _, _, _, _, _⟩) (v := ?_) rfl (by kernel_rfl) (by kernel_rfl) (by kernel_rfl) (fun _ _ _ h => h) (Or.inl ⟨by kernel_rfl, ?_⟩) ?_
                                  rotate_left
                                  · intro w'; go_simp <;> with_reducible rfl
                                  try simp only [Act.put, List.setIfInBounds_toArray, List.set_cons_zero, List.set_cons_succ]
                                  refine wpAny_ready (rs := [28]) (by kernel_rfl) (by simp) ?_
                                  refine AllReady.cons rfl (fun K hK => ?_) ?_
                                  · go_simp
                                    refine hK _ _ ?_
                                    clear hK K
                                    try simp only [Act.put, List.setIfInBounds_toArray, List.set_cons_zero, List.set_cons_succ]
                                    refine wpAny_ready (rs := [30]) (by kernel_rfl) (by simp) ?_
                                    refine AllReady.cons rfl (fun K hK => ?_) ?_
                                    · go_simp
                                      refine (ahead_c ⟨zt, zn, zv⟩ ⟨yt, yn, yv⟩ _).mono ?_
                                      rintro e w5 ⟨rfl, hb5⟩
                                      refine hK _ _ ?_
                                      clear hK K
                                      try simp only [Act.put, List.setIfInBounds_toArray, List.set_cons_zero, List.set_cons_succ]
                                      refine wpAny_take (i := 31) (oi := ⟨some 109, _, _, _, _, _⟩) (v := ?_) rfl (by kernel_rfl) (by kernel_rfl) (by kernel_rfl) (fun _ _ _ h => h) (Or.inl ⟨by kernel_rfl, ?_⟩) ?_
                                      rotate_left
                                      · intro w'; go_simp <;> with_reducible rfl
                                      try simp only [Act.put, List.setIfInBounds_toArray, List.set_cons_zero, List.set_cons_succ]
                                      refine wpAny_take (i := 32) (oi := ⟨some 110, _, _, _, _, _⟩) (v := ?_) rfl (by kernel_rfl) (by kernel_rfl) (by kernel_rfl) (fun _ _ _ h => h) (Or.inl ⟨by kernel_rfl, ?_⟩) ?_
                                      rotate_left
                                      · intro w'; go_simp <;> with_reducible rfl
                                      try simp only [Act.put, List.setIfInBounds_toArray, List.set_cons_zero, List.set_cons_succ]
                                      refine wpAny_take (i := 33) (oi := ⟨some 111, _, _, _, _, _⟩) (v := ?_) rfl (by kernel_rfl) (by kernel_rfl) (by kernel_rfl) (fun _ _ _ h => h) (Or.inl ⟨by kernel_rfl, ?_⟩) ?_
                                      rotate_left
                                      · intro w'; go_simp <;> with_reducible rfl
                                      try simp only [Act.put, List.setIfInBounds_toArray, List.set_cons_zero, List.set_cons_succ]
                                      refine wpAny_done (by kernel_rfl) ?_ _
                                      go_wp2_with fail
                                      go_meet
                                      exact ⟨by rw [← HP.out], ⟨hb5.os, hb5.tape, hb5.output, hb5.size, hb5.block⟩⟩
                                    exact AllReady.nil
                                  exact AllReady.nil
                                exact AllReady.nil
                              exact AllReady.nil
                            exact AllReady.nil
                          exact AllReady.nil
                        exact AllReady.nil
                      exact AllReady.nil
                  case rest =>
                    obtain ⟨rfl, HB3⟩ := hcut
                    obtain ⟨w3, hw3⟩ : ∃ w3, w3 = wc := ⟨_, rfl⟩
                    rw [← hw3] at HB3 ⊢
                    clear hw3
                    have HBW3 : Hid (Below W0.heap.size W0 w3) := bel HBW.out HB3.out
                    cases pv with
                    | false =>
                      have HY : Hid (false = mayW x) := by show false = mayW x; rw [HM.out, HLs.out, HS0.out]; simp
                      go_wp2_with fail
                      go_ret
                      exact ⟨ret_bool HY.out, HBw.out _ HBW3.out⟩
                    | true =>
                      obtain ⟨kn, rfl⟩ : ∃ kn : Nat, yn = (kn : Int) := ⟨yn.toNat, by have := HKn.out; omega⟩
                      obtain ⟨m1, m2, m3, m4⟩ : kn < x.nm.length ∧ kn < x.wd.length ∧ kn < x.fi.length ∧ kn < now.length := by have := HL.out; have := HNl.out; have := HKn.out; omega
                      have n2 : (kn : Int) < (x.wd.length : Int) := by omega
                      have n3 : (kn : Int) < (x.fi.length : Int) := by omega
                      have n0 : (0 : Int) ≤ (kn : Int) := by omega
                      clear c0 c1 c2 b0 b1 b2 b3 r1' r2' r3' r4'
                      obtain ⟨c0, c1, c2⟩ := cells3n ((HB3.out.block F lF).trans HF1.out)
                      have lF3 := Nat.lt_of_lt_of_le lF HB3.out.size
                      obtain ⟨b0, b1, b2, b3⟩ := cells4 ((HBW3.out.block E lb).trans HX0.out)
                      have lb3 := Nat.lt_of_lt_of_le lb HBW3.out.size
                      obtain ⟨gw, ow, rfl, hgw, ew⟩ := (HA1.out.below HB3.out).wd.at_ kn m2
                      have HO3 : Hid (w3.ownsRow W0.heap.size 9 1 (.slice ag x.fi.length cg) x.fi.length (sC now)) := own_below (own_below HO2.out HB1.out) HB3.out
                      obtain ⟨gs, rfl⟩ := own_some HO3.out (by omega)
                      have es : w3.cell? ⟨gs, kn, none⟩ = some (.string (sA now kn)) := (HO3.out.cellAt kn (by omega)).trans (sC_at m4)
                      have fs := World.ownsRow.frozenAt HO3.out kn
                      have HGs : Hid (W0.heap.size ≤ gs ∧ gs < w3.heap.size) := World.ownsRow.lt HO3.out gs rfl
                      have lgs := HGs.out.2
                      have HS1 : Hid (mayW x = (vec (L yv) && decide ((yv.size : Int) = iA x.wd kn) && decide (yv ≠ sA now kn) && lsB x.wd (some ⟨yt, kn, yv⟩) (now.set kn yv) (x.li.drop (i + 1)))) := by show mayW x = _; rw [HM.out, HLs.out, HS0.out, HRg.out, Int.toNat_natCast]; simp
                      have HV0 := fun j => may_c yv (w3.drewN j) HSv0.out
                      clear HS0 HRg HPv
                      generalize hzw : iA x.wd kn = zw at *
                      generalize hsn : sA now kn = sn at *
                      by_cases q1 : vec (L yv) = true
                      · rw [q1] at HV0 HS1
                        have HV : Hid (∀ j, Calls Tryz.prog 43 #[.string yv] (w3.drewN j) fun e w' => e = .returned (.bool true) ∧ w' = w3.drewN j) := HV0
                        clear HV0 q1
                        by_cases q2 : ((yv.size : Nat) : Int) = zw
                        · have q2' : (((yv.size : Nat) : Int) != zw) = false := by rw [bne_eq_false_iff_eq]; exact q2
                          rw [decide_eq_true q2] at HS1
                          by_cases q3 : yv = sn
                          · have HY : Hid (false = mayW x) := by show false = mayW x; rw [HS1.out, decide_eq_false (not_not_intro q3)]; simp
                            subst q3
                            clear q2
                            go_wp2_with fail
                            go_quiet (first | (go_at_call 43; exact Calls.quiet_of_same (HV.out _)))
                            go_wp2_with fail
                            go_ret
                            exact ⟨ret_bool HY.out, HBw.out _ (bdn HBW3.out _)⟩
                          · have q3' := ne_listV q3
                            have q3n : ¬ yv.toList = sn.toList := by rw [beq_eq_false_iff_ne] at q3'; exact q3'
                            rw [decide_eq_true q3] at HS1
                            clear q2 q3
                            go_wp2_with fail
                            go_quiet (first | (go_at_call 43; exact Calls.quiet_of_same (HV.out _)))
                            go_wp2_with fail
                            go_roundg (x.li.length - (i + 1))
                            case measure => omega
                            case rel =>
                              refine ⟨i + 1, now.set kn yv, hin, rfl, wrap_succ hin HZ.out.ln, ?_, ?_, ?_, ?_⟩
                              · show _ = _; rw [List.length_set]; exact HNl.out
                              · exact st1 (own_at2 HO3.out fun _ _ => rfl) kn yv
                              · show _ = _
                                rw [← HM.out, HS1.out, (pv_succ x.li i).trans (congrArg some HYi.out.symm)]
                                simp
                              · exact belSetV (bdn HBW3.out _) HGs.out.1
                        · have q2' : (((yv.size : Nat) : Int) != zw) = true := by rw [bne_iff_ne]; exact q2
                          have HY : Hid (false = mayW x) := by show false = mayW x; rw [HS1.out, decide_eq_false q2]; simp
                          clear q2
                          go_wp2_with fail
                          go_quiet (first | (go_at_call 43; exact Calls.quiet_of_same (HV.out _)))
                          go_wp2_with fail
                          go_ret
                          exact ⟨ret_bool HY.out, HBw.out _ (bdn HBW3.out _)⟩
                      · have q1' : vec (L yv) = false := by simpa using q1
                        rw [q1'] at HV0
                        have HV : Hid (∀ j, Calls Tryz.prog 43 #[.string yv] (w3.drewN j) fun e w' => e = .returned (.bool false) ∧ w' = w3.drewN j) := HV0
                        have HY : Hid (false = mayW x) := by show false = mayW x; rw [HS1.out, q1']; simp
                        clear HV0 q1 q1'
                        go_wp2_with fail
                        go_quiet (first | (go_at_call 43; exact Calls.quiet_of_same (HV.out _)))
                        go_wp2_with fail
                        go_ret
                        exact ⟨ret_bool HY.out, HBw.out _ (bdn HBW3.out _)⟩
                · have hie : i = x.li.length := by omega
                  have HY : Hid (true = mayW x) := by rw [HM.out, HLs.out, List.drop_of_length_le (by omega)]; rfl
                  have i5 : ¬ (i : Int) < (x.li.length : Int) := by omega
                  clear hin hie hA
                  go_wp2_with fail
                  go_ret
                  exact ⟨ret_bool HY.out, HBw.out _ HBz.out⟩
      · have l3' : ((x.fi.length : Int) == (x.nm.length : Int)) = false := by rw [beq_eq_false_iff_ne]; omega
        have HM : Hid (false = mayW x) := (may_no1 (decide_eq_false fun h => l3 h.2.2)).symm
        clear l3
        go_wp2_with fail
        go_ret
        exact ⟨ret_bool HM.out, HB0.out⟩
    · have l2' : ((x.wd.length : Int) == (x.nm.length : Int)) = false := by rw [beq_eq_false_iff_ne]; omega
      have HM : Hid (false = mayW x) := (may_no1 (decide_eq_false fun h => l2 h.2.1)).symm
      clear l2
      go_wp2_with fail
      go_ret
      exact ⟨ret_bool HM.out, HB0.out⟩
  · have l1' : decide ((4096 : Int) < (x.nm.length : Int)) = true := decide_eq_true (by omega)
    have HM : Hid (false = mayW x) := (may_no1 (decide_eq_false fun h => l1 h.1)).symm
    clear l1
    go_wp2_with fail
    go_ret
    exact ⟨ret_bool HM.out, HB0.out⟩
end Go.Proofs.YtodpljgajjcdoaaGreatDoor
