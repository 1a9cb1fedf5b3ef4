/- Layer 20: the landed code: times between as floats, their sum, squares, ends. -/
import Derived.Test.YtiecneefommdlaaFU
import Derived.Deep.RegionHeld3
import Derived.BigRegion
namespace Go.Proofs.Ytiecneefommdlaa
set_option maxRecDepth 100000
open Go.RowKit Lg Nl Go.Maps Wf Fl
set_option linter.unusedVariables false
set_option linter.unusedSimpArgs false

def fC (l : List Nat) : List Value := l.map fun z => .float .f64 z
theorem fC_app (a b : List Nat) : fC (a ++ b) = fC a ++ fC b := by simp [fC]
theorem infoFl : ∃ i, Try.prog.info? 27 = some i ∧ i.zero = some (.float .f64 0) ∧ i.size = 1 ∧ i.bytes = 8 := info_parts (by kernel_rfl)
theorem one1f (x : Nat) : ∀ u ∈ [Value.float .f64 x], u.oneCell' = true := by intro u hu; simp at hu; subst hu; rfl
/-- a row of floats -/
def FAt (w : World) (v : Value) (l : List Nat) : Prop :=
  ∃ ao cap, v = .slice ao l.length cap ∧ (l = [] ∨ ∃ g o, ao = some ⟨g, o, none⟩ ∧ g < w.heap.size ∧ ∀ i (h : i < l.length), w.cell? ⟨g, o + i, none⟩ = some (.float .f64 l[i]))
theorem FAt.below {w w' : World} {v : Value} {l : List Nat} (h : FAt w v l) (hb : Below w.heap.size w w') : FAt w' v l := by
  obtain ⟨ao, cap, rfl, h⟩ := h
  refine ⟨ao, cap, rfl, ?_⟩
  rcases h with h | ⟨g, o, rfl, hg, h⟩
  · exact Or.inl h
  · exact Or.inr ⟨g, o, rfl, Nat.lt_of_lt_of_le hg hb.size, fun i hi => by rw [hb.cell (p := ⟨g, o + i, none⟩) hg]; exact h i hi⟩
theorem FAt.at_ {w : World} {ao : Option Addr} {n cap : Nat} {l : List Nat} (h : FAt w (.slice ao n cap) l) (i : Nat) (hi : i < l.length) : ∃ g o, ao = some ⟨g, o, none⟩ ∧ g < w.heap.size ∧ w.cell? ⟨g, o + i, none⟩ = some (.float .f64 l[i]) := by
  obtain ⟨ao', c, hv, h⟩ := h
  injection hv with e1 e2 e3
  subst e1
  rcases h with h | ⟨g', o', e, hg, h⟩
  · subst h; cases hi
  · exact ⟨g', o', e, hg, h i hi⟩
theorem own_fl {w : World} {B n : Nat} {v : Value} {l : List Nat} (h : w.ownsRow B 27 1 v n (fC l)) (hn : n = l.length) : FAt w v l := by
  subst hn
  rcases h.2 with ⟨rfl, hn⟩ | ⟨g, cap, cur, rfl, hg, hh, hc, _, hz, ht⟩
  · exact ⟨none, 0, by rw [hn], Or.inl (List.eq_nil_of_length_eq_zero hn)⟩
  · refine ⟨_, cap, rfl, Or.inr ⟨g, 0, rfl, hLt hh, fun i hi => ?_⟩⟩
    rw [Nat.zero_add, Lib.cell_of_heap hh]
    have hu : (fC l)[i]? = some (.float .f64 l[i]) := by unfold fC; rw [List.getElem?_map, List.getElem?_eq_getElem hi]; rfl
    rw [← ht, List.getElem?_take] at hu
    split at hu
    · simpa using hu
    · cases hu
theorem gp_take : ∀ (l : List Int) (k : Nat) (h : k + 1 < l.length), gpL (l.take (k + 1 + 1)) = gpL (l.take (k + 1)) ++ [l[k + 1] - l[k]]
  | [], k, h => absurd h (Nat.not_lt_zero _)
  | [a], k, h => absurd h (by simp)
  | a :: b :: r, 0, h => by
    show (b - a) :: gpL [b] = gpL [a] ++ [b - a]
    rfl
  | a :: b :: r, k + 1, h => by
    have ih := gp_take (b :: r) k (by simp at h ⊢; omega)
    show (b - a) :: gpL ((b :: r).take (k + 1 + 1)) = ((b - a) :: gpL ((b :: r).take (k + 1))) ++ _
    rw [ih]
    rfl
theorem wrap_one {k : Nat} {n : Nat} (h : k + 1 < n) (hn : n ≤ 4398046511000) : wrap64 (((k + 1 : Nat) : Int) - 1) = (k : Int) := by unfold wrap64; omega
theorem new1f (w : World) (a : Value) (t : TypeId) (n : Nat) (hn : w.heap.size = n) (j : Nat) (u : Value) (h : [a][j]? = some u) : (w.alloc (.cells #[a] t)).cell? ((⟨n, 0, none⟩ : Addr).add j) = some u := new1i w a t n hn j u h
set_option maxHeartbeats 4000000 in
set_option maxRecDepth 1000000 in
theorem gaps20 (ts : List Int) (v : Value) (w : World) (hx : IntsAt w v ts) (ht : Tms ts) (hl : ts.length ≤ 4398046511000) : Calls Try.prog 25 #[v] w fun e w' => ∃ a n c, e = .returned (.slice a n c) ∧ Hid (n = (gpL ts).length) ∧ Hid (w'.ownsRow w.heap.size 27 1 (.slice a n c) n (fC ((gpL ts).map fI))) ∧ Hid (Below w.heap.size w w') := by
  have HL : Hid (ts.length ≤ 4398046511000) := hl
  have HA : Hid (IntsAt w v ts) := hx
  have HT : Hid (Tms ts) := ht
  obtain ⟨al, cl, rfl, _, _⟩ := hx
  clear hl ht
  go_enter Try.func25, Try.ntmps25
  go_wp2_with fail
  go_loopg [3, 4] ts.length (fun g s3 s4 wr => ∃ (k : Nat) (a : Option Addr) (n c : Nat), k ≤ ts.length ∧ g = ts.length - k ∧ s3 = .slice a n c ∧ s4 = .int .i64 ((k + 1 : Nat) : Int) ∧ Hid (n = (gpL (ts.take (k + 1))).length) ∧ Hid (wr.ownsRow w.heap.size 27 1 (.slice a n c) n (fC ((gpL (ts.take (k + 1))).map fI))) ∧ Hid (Below w.heap.size w wr))
  case atStart =>
    have h1 : gpL (ts.take 1) = [] := by cases ts with | nil => rfl | cons a r => rfl
    exact ⟨0, none, 0, 0, Nat.zero_le _, rfl, rfl, rfl, by show _ = _; rw [h1]; rfl, by show World.ownsRow _ _ _ _ _ _ _; rw [h1]; exact World.ownsRow_nil _ _ _ _, Below.refl _ _⟩
  case round =>
    obtain ⟨k, a, n, c, hi, rfl, rfl, rfl, HN2, HR2, HBx⟩ := hrel
    obtain ⟨wx, hwx⟩ : ∃ wx, wx = wr := ⟨_, rfl⟩
    rw [← hwx] at HR2 HBx ⊢
    clear hwx
    by_cases hin : k + 1 < ts.length
    · have hI := HA.out.below HBx.out
      obtain ⟨gl, ol, cp, hv⟩ := hI.some_ (by omega)
      injection hv with e1 e2 e3
      subst e1
      clear e2 e3
      obtain ⟨hgl, c1⟩ := hI.cell (k + 1) hin
      obtain ⟨_, c0⟩ := hI.cell k (by omega)
      have HTk : Hid (gpL (ts.take (k + 1 + 1)) = gpL (ts.take (k + 1)) ++ [ts[k + 1] - ts[k]]) := gp_take ts k hin
      have HTm : Hid (0 ≤ ts[k + 1] ∧ ts[k + 1] ≤ 4611686018427387903 ∧ 0 ≤ ts[k] ∧ ts[k] ≤ 4611686018427387903) := by
        have h1 := HT.out.rg ts[k + 1] (List.getElem_mem _)
        have h2 := HT.out.rg ts[k] (List.getElem_mem _)
        exact ⟨h1.1, h1.2, h2.1, h2.2⟩
      have HLn : Hid ((gpL (ts.take (k + 1))).length ≤ 4398046511000) := by show _ ≤ _; rw [gp_len, List.length_take]; have := HL.out; omega
      obtain ⟨x1, hx1⟩ : ∃ x1, x1 = ts[k + 1] := ⟨_, rfl⟩
      obtain ⟨x0, hx0⟩ : ∃ x0, x0 = ts[k] := ⟨_, rfl⟩
      rw [← hx1] at c1 HTk HTm
      rw [← hx0] at c0 HTk HTm
      clear hx1 hx0 hI
      have hsub : wrap64 (x1 - x0) = x1 - x0 := by have := HTm.out; unfold wrap64; omega
      have hk1 := wrap_one hin HL.out
      have i0 : (0 : Int) ≤ (k : Int) := by omega
      have i1 : (k : Int) < (ts.length : Int) := by omega
      have i2 : (0 : Int) ≤ (k : Int) + 1 := by omega
      have i3 : (k : Int) + 1 < (ts.length : Int) := by omega
      have hwk : IntKind.i64.wrap (k : Int) = (k : Int) := by rw [IntKind.wrap_i64]; have := HL.out; omega
      have hsw : IntKind.i64.wrap (x1 - x0) = x1 - x0 := by rw [IntKind.wrap_i64]; have := HTm.out; omega
      obtain ⟨jj, hjj⟩ := infoFl
      have HJ : Hid (Try.prog.info? 27 = some jj ∧ jj.zero = some (.float .f64 0) ∧ jj.size = 1 ∧ jj.bytes = 8) := hjj
      clear hjj
      have HRd : Hid (wx.drew.ownsRow w.heap.size 27 1 (.slice a n c) n (fC ((gpL (ts.take (k + 1))).map fI))) := HR2.out
      have HBd : Hid (Below w.heap.size w wx.drew) := HBx.out.drew
      go_upto_region 5 with fail
      go_region_law (first
        | (refine step_own rfl _ _ 52 rfl w.heap.size 27 jj _ 1 8 Try.underlying52 HJ.out.1 HJ.out.2.1 HJ.out.2.2.1 HJ.out.2.2.2 rfl (by decide) (.slice a n c) n (fC ((gpL (ts.take (k + 1))).map fI)) (by simp [Act.eval, Act.put]) (HRd.out.alloc _) ⟨wx.heap.size, 0, none⟩ 1 1 [.float .f64 (fI (x1 - x0))] (by simp [Act.eval, Act.put]) rfl (fun j u hj => new1f _ _ _ _ rfl j u hj) (one1f _) (app_b1 HN2.out HLn.out) (app_b2i HN2.out HLn.out) (Nat.le_trans HBx.out.size (by simp)) ?_; intro v9 w9 hown9 hgrow9; obtain ⟨g9, c9, rfl⟩ := own_slice1 hown9; have HO9 : Hid (w9.ownsRow w.heap.size 27 1 (.slice (some ⟨g9, 0, none⟩) (n + 1) c9) (n + 1) (fC ((gpL (ts.take (k + 1))).map fI) ++ [.float .f64 (fI (x1 - x0))])) := hown9; have HB9 : Hid (Below w.heap.size w w9) := Gb (belA HBd.out _) hgrow9 (fun g e => (World.ownsRow.lt HRd.out g e).1); clear hown9 hgrow9))
      all_goals (
        go_wp2_with fail
        go_roundg (ts.length - (k + 1))
        case measure => omega
        case rel =>
          refine ⟨k + 1, some ⟨g9, 0, none⟩, n + 1, c9, by omega, rfl, rfl, wrap_succ hin (Nat.le_trans HL.out (by decide)), ?_, ?_, HB9⟩
          · show n + 1 = _; rw [HTk.out, List.length_append, ← HN2.out]; rfl
          · have := HO9.out; show World.ownsRow _ _ _ _ _ _ _; rw [HTk.out, List.map_append, fC_app]; exact this)
    · have hie : ts.take (k + 1) = ts := List.take_of_length_le (by omega)
      have i5 : ¬ ((k + 1 : Nat) : Int) < (ts.length : Int) := by omega
      rw [hie] at HN2 HR2
      clear hin hie
      go_wp2_with fail
      go_ret
      exact ⟨a, n, c, rfl, HN2, HR2, HBx⟩
end Go.Proofs.Ytiecneefommdlaa
