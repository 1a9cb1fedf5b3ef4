/- Layer 18: a waveform ahead of a time (the document's). -/
import Derived.Test.YtfefgldngkpgjaaVB
namespace Go.Proofs.Ytfefgldngkpgjaa
set_option maxRecDepth 100000
open Go.RowKit Lg Nl Go.Maps Wf
set_option linter.unusedVariables false
set_option linter.unusedSimpArgs false

def chs (l : List Ch) : List Value := l.flatMap chC
theorem chs_app (a b : List Ch) : chs (a ++ b) = chs a ++ chs b := by unfold chs; rw [List.flatMap_append]
theorem infoCh : ∃ i, Try.prog.info? 46 = some i ∧ i.zero = some (.agg #[.int .i64 0, .int .i64 0, .string ⟨#[]⟩]) ∧ i.size = 3 ∧ i.bytes = 32 := info_parts (by kernel_rfl)
theorem new3 (w : World) (c : Ch) (t : TypeId) (n : Nat) (hn : w.heap.size = n) (j : Nat) (u : Value) (h : (chC c)[j]? = some u) : (w.alloc (.cells #[.int .i64 c.t, .int .i64 c.n, .string c.v] t)).cell? ((⟨n, 0, none⟩ : Addr).add j) = some u := by
  have e1 : ((⟨n, 0, none⟩ : Addr).add j) = ⟨n, j, none⟩ := by simp [Addr.add]; intro h; exact h.symm
  rw [e1, Lib.cell_of_heap (alAt hn)]
  simpa [chC] using h
theorem one3 (c : Ch) : ∀ u ∈ chC c, u.oneCell' = true := by intro u hu; simp [chC] at hu; rcases hu with rfl | rfl | rfl <;> rfl
/-- the changes ahead of a time -/
def cutL (t : Int) (l : List Ch) : List Ch := l.filter fun c => decide (c.t < t)
theorem cut_take (t : Int) (l : List Ch) (k : Nat) (hk : k < l.length) : cutL t (l.take (k + 1)) = if (cA l k).t < t then cutL t (l.take k) ++ [cA l k] else cutL t (l.take k) := by
  unfold cutL
  rw [List.take_add_one, List.getElem?_eq_getElem hk, List.filter_append, cA_at hk]
  split <;> rename_i h <;> simp [h]
theorem cut_len (t : Int) (l : List Ch) (k : Nat) : (cutL t (l.take k)).length ≤ l.length := Nat.le_trans (List.length_filter_le _ _) (List.length_take_le' _ _)
theorem app_b1 {n m : Nat} (h : n = m) (hm : m ≤ 4398046511000) : n + 1 ≤ maxLen := by unfold maxLen; omega
theorem app_b2 {n m : Nat} (h : n = m) (hm : m ≤ 4398046511000) : (n + 1) * 32 ≤ 140737488355328 := by omega
theorem own_lo {w : World} {B C e z n : Nat} {v : Value} {xs : List Value} (h : w.ownsRow B e z v n xs) (hC : C ≤ B) : w.ownsRow C e z v n xs := by
  obtain ⟨h1, h2⟩ := h
  refine ⟨h1, ?_⟩
  rcases h2 with h2 | ⟨g, cap, cur, rfl, hg, r⟩
  · exact Or.inl h2
  · exact Or.inr ⟨g, cap, cur, rfl, Nat.le_trans hC hg, r⟩
theorem wrap_le {i n : Nat} (h : i < n) (hn : n ≤ 140737488355328) : wrap64 ((i : Int) + 1) = ((i + 1 : Nat) : Int) := by unfold wrap64; omega
set_option maxHeartbeats 4000000 in
set_option maxRecDepth 1000000 in
theorem until_c (x : Wv) (vn vw vf vl : Value) (t : Int) (w : World) (hx : WvAt w vn vw vf vl x) (hl : x.li.length ≤ 4398046511000) : Calls Try.prog 16 #[.agg #[vn, vw, vf, vl], .int .i64 t] w fun e w' => ∃ a c, e = .returned (.agg #[vn, vw, vf, .slice a (cutL t x.li).length c]) ∧ Hid (w'.ownsRow w.heap.size 46 3 (.slice a (cutL t x.li).length c) (cutL t x.li).length (chs (cutL t x.li))) ∧ Hid (Below w.heap.size w w') := by
  have HL : Hid (x.li.length ≤ 4398046511000) := hl
  obtain ⟨an, cn, rfl, _, _⟩ := hx.nm
  obtain ⟨aw, cw, rfl, _, _⟩ := hx.wd
  obtain ⟨af, cf, rfl, _, _⟩ := hx.fi
  have HA : Hid (ChAt w vl x.li) := hx.li
  obtain ⟨al, cl, rfl, _, _⟩ := hx.li
  clear hx hl
  obtain ⟨W0, hW0⟩ : ∃ W0, W0 = (w.alloc (.cells #[.slice an x.nm.length cn, .slice aw x.wd.length cw, .slice af x.fi.length cf, .slice al x.li.length cl] 26)).alloc (.cells #[.slice none 0 0, .slice none 0 0, .slice none 0 0, .slice none 0 0] 26) := ⟨_, rfl⟩
  have HB0 : Hid (Below w.heap.size w W0) := by rw [hW0]; exact belA (belA (Below.refl _ _) _) _
  have HX0 : Hid (W0.heap[w.heap.size]? = some (.cells #[.slice an x.nm.length cn, .slice aw x.wd.length cw, .slice af x.fi.length cf, .slice al x.li.length cl] 26 (0, 0))) := by rw [hW0]; exact (alOld (by simp)).trans (alAt rfl)
  have HR0 : Hid (W0.heap[w.heap.size + 1]? = some (.cells #[.slice none 0 0, .slice none 0 0, .slice none 0 0, .slice none 0 0] 26 (0, 0))) := by rw [hW0]; exact alAt (by simp)
  have HA0 : Hid (ChAt W0 (.slice al x.li.length cl) x.li) := HA.out.below HB0.out
  go_enter Try.func16, Try.ntmps16
  go_upto_region 1 with fail
  rw [← hW0]
  clear hW0 HA
  obtain ⟨b0, b1, b2, b3⟩ := cells4 HX0.out
  have lb := hLt HX0.out
  have lr := hLt HR0.out
  obtain ⟨E, hE⟩ : ∃ E, E = w.heap.size := ⟨_, rfl⟩
  rw [← hE] at HX0 HR0 b0 b1 b2 b3 lb lr ⊢
  have HE : Hid (E = w.heap.size) := hE
  clear hE b0 b1 b2 b3
  go_wp2_with fail
  go_loopg [5, 6] x.li.length (fun g s5 s6 wr => ∃ (i : Nat) (a : Option Addr) (n c : Nat), i ≤ x.li.length ∧ g = x.li.length - i ∧ s5 = .slice a n c ∧ s6 = .int .i64 i ∧ Hid (n = (cutL t (x.li.take i)).length) ∧ Hid (wr.ownsRow W0.heap.size 46 3 (.slice a n c) n (chs (cutL t (x.li.take i)))) ∧ Hid (Below W0.heap.size W0 wr))
  case atStart => exact ⟨0, none, 0, 0, Nat.zero_le _, rfl, rfl, rfl, rfl, World.ownsRow_nil _ _ _ _, Below.refl _ _⟩
  case round =>
    obtain ⟨i, a, n, c, hi, rfl, rfl, rfl, HN2, HR2, HBx⟩ := hrel
    obtain ⟨wx, hwx⟩ : ∃ wx, wx = wr := ⟨_, rfl⟩
    rw [← hwx] at HR2 HBx ⊢
    clear hwx
    obtain ⟨b0, b1, b2, b3⟩ := cells4 ((HBx.out.block E lb).trans HX0.out)
    have lbx := Nat.lt_of_lt_of_le lb HBx.out.size
    by_cases hin : i < x.li.length
    · obtain ⟨gl, ol, rfl, hgl, c0, c1, c2⟩ := (HA0.out.below HBx.out).at_ i hin
      have HTk : Hid (cutL t (x.li.take (i + 1)) = if (cA x.li i).t < t then cutL t (x.li.take i) ++ [cA x.li i] else cutL t (x.li.take i)) := cut_take t x.li i hin
      have HLn : Hid ((cutL t (x.li.take i)).length ≤ 4398046511000) := Nat.le_trans (cut_len t x.li i) HL.out
      have i0 : (0 : Int) ≤ (i : Int) := by omega
      have i1 : (i : Int) < (x.li.length : Int) := by omega
      generalize cA x.li i = y at *
      obtain ⟨yt, yn, yv⟩ := y
      simp only at c0 c1 c2 HTk
      obtain ⟨jj, hjj⟩ := infoCh
      have HJ : Hid (Try.prog.info? 46 = some jj ∧ jj.zero = some (.agg #[.int .i64 0, .int .i64 0, .string ⟨#[]⟩]) ∧ jj.size = 3 ∧ jj.bytes = 32) := hjj
      clear hjj
      by_cases ht : yt < t
      · have ht' : decide (yt < t) = true := decide_eq_true ht
        have HT : Hid (yt < t) := ht
        clear ht
        go_wp2_with (first
          | (at_builtin; refine wpList_append_own_at _ rfl _ _ 24 rfl W0.heap.size 46 jj _ 3 32 Try.underlying24 HJ.out.1 HJ.out.2.1 HJ.out.2.2.1 HJ.out.2.2.2 rfl (by decide) _ n (chs (cutL t (x.li.take i))) rfl (HR2.out.alloc _) ⟨wx.heap.size, 0, none⟩ 1 1 [.int .i64 yt, .int .i64 yn, .string yv] rfl rfl (fun j u hj => new3 _ ⟨yt, yn, yv⟩ 46 _ rfl j u hj) (one3 ⟨yt, yn, yv⟩) (app_b1 HN2.out HLn.out) (app_b2 HN2.out HLn.out) (Nat.le_trans HBx.out.size (by simp)) ?_; intro v9 w9 hown9 hgrow9 hnil9 hloc9; obtain ⟨g9, c9, rfl⟩ := own_slice1 hown9; have HO9 : Hid (w9.ownsRow W0.heap.size 46 3 (.slice (some ⟨g9, 0, none⟩) (n + 1) c9) (n + 1) (chs (cutL t (x.li.take i)) ++ chC ⟨yt, yn, yv⟩)) := hown9; have HG9 : Hid ((wx.alloc (.cells #[.int .i64 yt, .int .i64 yn, .string yv] 46)).grownBy w9 (Value.slice a n c).ownBlock) := hgrow9; clear hown9 hgrow9 hnil9 hloc9))
        go_roundg (x.li.length - (i + 1))
        case measure => omega
        case rel =>
          have hT := HTk.out
          rw [if_pos HT.out] at hT
          have hg := HG9.out
          refine ⟨i + 1, some ⟨g9, 0, none⟩, n + 1, c9, hin, rfl, rfl, wrap_succ hin (Nat.le_trans HL.out (by decide)), ?_, ?_, ?_⟩
          · show n + 1 = _; rw [hT, List.length_append, ← HN2.out]; rfl
          · have := HO9.out; show World.ownsRow _ _ _ _ _ _ _; rw [hT, chs_app]; simpa [chs] using this
          · exact Gb (belA HBx.out _) hg (fun g e => (World.ownsRow.lt HR2.out g e).1)
      · have ht' : decide (yt < t) = false := decide_eq_false ht
        have HT : Hid (¬ yt < t) := ht
        clear ht
        go_wp2_with fail
        go_roundg (x.li.length - (i + 1))
        case measure => omega
        case rel =>
          have hT := HTk.out
          rw [if_neg (show ¬ (yt < t) by have := HT.out; omega)] at hT
          refine ⟨i + 1, a, n, c, hin, rfl, rfl, wrap_succ hin (Nat.le_trans HL.out (by decide)), ?_, ?_, HBx.out⟩
          · rw [hT]; exact HN2.out
          · rw [hT]; exact HR2.out
    · have hie : i = x.li.length := by omega
      have i5 : ¬ (i : Int) < (x.li.length : Int) := by omega
      have htk : x.li.take i = x.li := List.take_of_length_le (by omega)
      have hN := HN2.out
      rw [htk] at HR2 hN
      have HNn : Hid (n = (cutL t x.li).length) := hN
      clear hin hie htk HN2 hN
      have hE1 := (HBx.out.block E lb).trans HX0.out
      have hR1 := (HBx.out.block (E + 1) lr).trans HR0.out
      obtain ⟨r0, r1, r2, r3⟩ := cells4 hR1
      have f3 := Lib.frozen_of_heap hE1 3
      have g0 := Lib.frozen_of_heap hR1 0
      have g1 := Lib.frozen_of_heap hR1 1
      have g2 := Lib.frozen_of_heap hR1 2
      have g3 := Lib.frozen_of_heap hR1 3
      have lrx := Nat.lt_of_lt_of_le lr HBx.out.size
      clear hE1 hR1
      go_wp2_with fail
      refine bodyPost_ret (v := .agg #[.slice an x.nm.length cn, .slice aw x.wd.length cw, .slice af x.fi.length cf, .slice a n c]) (by simp [results, Try.results16, go_sem, *]) rfl ?_
      have hE := HE.out
      have hz : E + 1 < W0.heap.size := lr
      refine ⟨a, c, by rw [← HNn.out], ?_, ?_⟩
      · rw [← HNn.out]
        refine own_lo ?_ HB0.out.size
        refine ownsRow_setCell_below (ownsRow_setCell_below (ownsRow_setCell_below (ownsRow_setCell_below (ownsRow_setCell_below HR2.out ?_ _) ?_ _) ?_ _) ?_ _) ?_ _ <;> (simp only; omega)
      · exact belSetV (belSetV (belSetV (belSetV (belSetV (bel HB0.out HBx.out) (by omega)) (by omega)) (by omega)) (by omega)) (by omega)
end Go.Proofs.Ytfefgldngkpgjaa
