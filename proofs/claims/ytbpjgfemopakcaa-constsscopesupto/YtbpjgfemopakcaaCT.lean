/- Layer 6: a scope with names, on both sides. -/
import Derived.Test.YtbpjgfemopakcaaCS
namespace Go.Proofs.Ytbpjgfemopakcaa
open Go.RowKit Lg Go.Maps
set_option linter.unusedVariables false
set_option linter.unusedSimpArgs false

set_option maxRecDepth 100000 in
set_option maxHeartbeats 4000000 in
theorem made_c (v : Value) (l : List (ByteArray × Int)) (w : World) (hv : LsAt v l w) (hl : l.length < 900000) (hsz : ∀ p ∈ l, p.1.size ≤ maxLen) :
    Calls Try.prog 8 #[v] w fun e w' => (∃ sb mb ao n1 c1 bo n2 c2, e = .returned (.tuple #[.pointer (some ⟨sb, 0, none⟩), .agg #[.slice ao n1 c1, .slice bo n2 c2], .bool true]) ∧ PrAt sb mb (fil l) w' ∧ sb ≠ mb ∧ RfAt w.heap.size (.slice ao n1 c1) (.slice bo n2 c2) (fil l) w' ∧ w.heap.size ≤ mb ∧ w.heap.size ≤ sb) ∧ Below w.heap.size w w' := by
  obtain ⟨av, cv, hvs⟩ : ∃ ao cap, v = .slice ao l.length cap := by
    rcases hv with ⟨rfl, ao, cap, rfl⟩ | ⟨g, o, cap, rfl, _⟩
    · exact ⟨ao, cap, rfl⟩
    · exact ⟨_, cap, rfl⟩
  subst hvs
  have HV : Hid (LsAt (.slice av l.length cv) l w) := hv
  obtain ⟨n, hn⟩ : ∃ n, n = l.length := ⟨_, rfl⟩
  have HLN : Hid (n = l.length) := hn
  rw [← hn] at hl ⊢
  have HSZ : Hid (∀ p ∈ l, p.1.size ≤ maxLen) := hsz
  clear hn hv hsz
  go_enter Try.func8, Try.ntmps8
  go_wp2_with (first
    | (go_at_call 16; refine (kNew_c _).mono ?_; rintro e w1 ⟨rfl, hs1, hm1, hb1⟩; have hr1 : w1.heap[w.heap.size]? = some (.cells #[.slice none 0 0, .slice none 0 0] 27 (0, 0)) := (hb1.block w.heap.size (by simp)).trans (allocAt rfl); have hz1 := hb1.size))
  have eW : (w.alloc (.cells #[.slice none 0 0, .slice none 0 0] 27)).heap.size = w.heap.size + 1 := by simp
  rw [eW] at hs1 hm1 hb1 hz1
  have hsl := kLt hs1
  have HST : Hid (Below w.heap.size w (w1.alloc (.cells #[.slice none 0 0, .slice none 0 0] 27)) ∧ PrAt (w.heap.size + 1 + 1) (w.heap.size + 1) [] (w1.alloc (.cells #[.slice none 0 0, .slice none 0 0] 27)) ∧ RqAt w1.heap.size w.heap.size [] (w1.alloc (.cells #[.slice none 0 0, .slice none 0 0] 27)) ∧ (w1.alloc (.cells #[.slice none 0 0, .slice none 0 0] 27)).heap[w.heap.size]? = some (.cells #[.slice none 0 0, .slice none 0 0] 27 (0, 0))) := by
    have hb : Below w1.heap.size w1 (w1.alloc (.cells #[.slice none 0 0, .slice none 0 0] 27)) := belA (Below.refl _ _) _
    refine ⟨belA ((belA (Below.refl w.heap.size w) _).trans (hb1.mono (by omega))) _, PrAt.below ⟨_, 0, hs1, hm1, Nat.le_refl _, nmI0⟩ hb, ⟨none, 0, 0, none, 0, 0, allocAt rfl, Or.inl ⟨rfl, rfl, rfl⟩⟩, (hb.block _ (kLt hr1)).trans hr1⟩
  clear hs1 hm1 hb1 hr1 eW
  have lT : w.heap.size + 1 + 1 < w1.heap.size := hsl
  obtain ⟨T, hT⟩ : ∃ T, T = w1.heap.size := ⟨_, rfl⟩
  rw [← hT] at HST lT ⊢
  have HT : Hid (T = w1.heap.size) := hT
  clear hT hsl hz1
  go_loopg [7] n (fun g s7 wr => ∃ j : Nat, j ≤ n ∧ g = n - j ∧ s7 = .int .i64 j ∧ Hid (Below w.heap.size w wr) ∧ Hid (PrAt (w.heap.size + 1 + 1) (w.heap.size + 1) (fil (l.take j)) wr) ∧ Hid (RqAt T w.heap.size (fil (l.take j)) wr) ∧ Hid (wr.heap[w.heap.size]? = some (.cells #[.slice none 0 0, .slice none 0 0] 27 (0, 0))))
  case atStart => exact ⟨0, Nat.zero_le _, rfl, rfl, HST.out.1, HST.out.2.1, HST.out.2.2.1, HST.out.2.2.2⟩
  case round =>
    obtain ⟨j, hj, rfl, rfl, HB, HP, HQ, HR⟩ := hrel
    have hr0 : wr.cell? ⟨w.heap.size, 0, none⟩ = some (.slice none 0 0) := by rw [Lib.cell_of_heap HR.out]; rfl
    have hr1 : wr.cell? ⟨w.heap.size, 1, none⟩ = some (.slice none 0 0) := by rw [Lib.cell_of_heap HR.out]; rfl
    have hrf := fun j => Lib.frozen_of_heap HR.out j
    have hrl := kLt HR.out
    obtain ⟨ao, n1, c1, bo, n2, c2, hq, hrf2⟩ := HQ.out
    have q0 : wr.cell? ⟨T, 0, none⟩ = some (.slice ao n1 c1) := by rw [Lib.cell_of_heap hq]; rfl
    have q1 : wr.cell? ⟨T, 1, none⟩ = some (.slice bo n2 c2) := by rw [Lib.cell_of_heap hq]; rfl
    have qf := fun j => Lib.frozen_of_heap hq j
    have ql := kLt hq
    have HQ2 : Hid (RfAt w.heap.size (.slice ao n1 c1) (.slice bo n2 c2) (fil (l.take j)) wr) := hrf2
    have HQ3 : Hid (wr.heap[T]? = some (.cells #[.slice ao n1 c1, .slice bo n2 c2] 27 (0, 0))) := hq
    clear hq hrf2
    by_cases hjn : j = n
    · subst hjn
      go_wp2_with fail
      go_region
      all_goals
        go_wp2_with fail
        have hR2 := hset2 HR.out (.slice ao n1 c1) (.slice bo n2 c2)
        have hP2 := PrAt.set (b := w.heap.size) (j := 1) (y := .slice bo n2 c2) (PrAt.set (b := w.heap.size) (j := 0) (y := .slice ao n1 c1) HP.out (by omega) (by omega)) (by omega) (by omega)
        have hF2 := RfAt.set2 (y := .slice ao n1 c1) (z := .slice bo n2 c2) HQ2.out HR.out
        have hB2 := (Below.setCell (p := ⟨w.heap.size, 0, none⟩) HB.out (Nat.le_refl _) (.slice ao n1 c1)).setCell (p := ⟨w.heap.size, 1, none⟩) (Nat.le_refl _) (.slice bo n2 c2)
        obtain ⟨W, hW⟩ : ∃ W, W = (wr.setCell ⟨w.heap.size, 0, none⟩ (.slice ao n1 c1)).setCell ⟨w.heap.size, 1, none⟩ (.slice bo n2 c2) := ⟨_, rfl⟩
        rw [← hW] at hR2 hP2 hF2 hB2 ⊢
        have z0 : W.cell? ⟨w.heap.size, 0, none⟩ = some (.slice ao n1 c1) := by rw [Lib.cell_of_heap hR2]; rfl
        have z1 : W.cell? ⟨w.heap.size, 1, none⟩ = some (.slice bo n2 c2) := by rw [Lib.cell_of_heap hR2]; rfl
        refine bodyPost_ret (v := .tuple #[.pointer (some ⟨w.heap.size + 1 + 1, 0, none⟩), .agg #[.slice ao n1 c1, .slice bo n2 c2], .bool true]) (by simp [results, Try.results8, go_sem, z0, z1]) rfl ?_
        have eL : fil (l.take j) = fil l := by rw [HLN.out, List.take_length]
        rw [eL] at hP2 hF2
        exact ⟨⟨_, _, _, _, _, _, _, _, rfl, hP2, by omega, hF2, by omega, by omega⟩, hB2.drew⟩
    · have hj2 : j < l.length := by have := HLN.out; omega
      have hjI : (j : Int) < (n : Int) := by omega
      obtain ⟨g, o, cap, hva, hg, hcap, hcells⟩ : ∃ g o cap, Value.slice av l.length cv = .slice (some ⟨g, o, none⟩) l.length cap ∧ g < w.heap.size ∧ l.length ≤ cap ∧ ∀ i (hi : i < l.length), w.cell? ⟨g, o + i * 2, none⟩ = some (.string l[i].1) ∧ w.cell? ⟨g, o + i * 2 + 1, none⟩ = some (.int .i64 l[i].2) := by
        rcases HV.out with ⟨h0, _⟩ | h
        · rw [h0] at hj2; simp at hj2
        · exact h
      injection hva with hva _ hvc
      subst hva
      obtain ⟨x0, x1⟩ := hcells j hj2
      obtain ⟨x, hx⟩ : ∃ x, x = l[j].1 := ⟨_, rfl⟩
      obtain ⟨k, hk⟩ : ∃ k, k = l[j].2 := ⟨_, rfl⟩
      rw [← hx] at x0
      rw [← hk] at x1
      have y0 := (HB.out.cell (p := ⟨g, o + j * 2, none⟩) hg).trans x0
      have y1 := (HB.out.cell (p := ⟨g, o + j * 2 + 1, none⟩) hg).trans x1
      have hxs : x.size ≤ maxLen := by rw [hx]; exact HSZ.out _ (List.getElem_mem hj2)
      have HXK : Hid (fil (l.take (j + 1)) = fil (l.take j) ++ (if fitB k = true then [(x, k)] else [])) := by show _ = _; rw [fil_take hj2, hk, hx]
      have hgl : g < wr.heap.size := by omega
      have nT : T ≠ wr.heap.size := by omega
      have ng : g ≠ wr.heap.size := by omega
      have nT' : wr.heap.size ≠ T := by omega
      have ng' : wr.heap.size ≠ g := by omega
      have hql : (fil (l.take j)).length < 900000 := Nat.lt_of_le_of_lt (Nat.le_trans (fil_len _) (by rw [List.length_take]; omega)) hl
      have HS : ∀ W, Below wr.heap.size wr W → Calls Try.prog 10 #[.agg #[.slice ao n1 c1, .slice bo n2 c2], .string x, .int .i64 k] W fun e w' => (∃ ao' n1' c1' bo' n2' c2' ee, e = .returned (.tuple #[.agg #[.slice ao' n1' c1', .slice bo' n2' c2'], .int .i64 ee]) ∧ SetGood w.heap.size (.slice ao n1 c1) (.slice bo n2 c2) (fil (l.take j)) x k (.slice ao' n1' c1') (.slice bo' n2' c2') ee w') ∧ Below W.heap.size W w' := fun W hW => rSet_c (RfAt.below HQ2.out hW) (by have := hW.size; omega) (by omega) x k
      clear x0 x1 hx hk hcells HV HSZ hvc hcap
      go_upto_region 8 with fail
      go_cut [8, 9] from 15 to 51 (fun s8 s9 wx => ∃ (X : Nat) (ao' : Option Addr) (n1' c1' : Nat) (bo' : Option Addr) (n2' c2' : Nat) (ee : Int), s8 = .pointer (some ⟨X, 0, none⟩) ∧ s9 = .int .i64 ee ∧ Hid (wx.heap[X]? = some (.cells #[.slice ao' n1' c1', .slice bo' n2' c2'] 27 (0, 0))) ∧ Hid (SetGood w.heap.size (.slice ao n1 c1) (.slice bo n2 c2) (fil (l.take j)) x k (.slice ao' n1' c1') (.slice bo' n2' c2') ee wx) ∧ Hid (Below wr.heap.size wr wx) ∧ wr.heap.size ≤ X)
      case first =>
        go_region_held (fun w' => w'.cell? ⟨T, 0, none⟩ = some (.slice ao n1 c1) ∧ w'.cell? ⟨T, 1, none⟩ = some (.slice bo n2 c2) ∧ w'.cell? ⟨g, o + j * 2, none⟩ = some (.string x) ∧ w'.cell? ⟨g, o + j * 2 + 1, none⟩ = some (.int .i64 k)) (go_keep) (first
          | (go_at_call 10; refine (HS _ (by first | exact (Below.refl _ _).drew | exact (belA (Below.refl _ _) _).drew | exact belA (Below.refl _ _).drew _)).mono ?_; rintro e w4 ⟨⟨ao', n1', c1', bo', n2', c2', ee, rfl, hgood⟩, hb4⟩; have b4 : Below wr.heap.size wr w4 := (by first | exact bel (Below.refl _ _).drew hb4 | exact bel (belA (Below.refl _ _) _).drew hb4 | exact bel (belA (Below.refl _ _).drew _) hb4); have t0 := (b4.cell (p := ⟨T, 0, none⟩) ql).trans q0; have t1 := (b4.cell (p := ⟨T, 1, none⟩) ql).trans q1; have t2 := (b4.cell (p := ⟨g, o + j * 2, none⟩) hgl).trans y0; have t3 := (b4.cell (p := ⟨g, o + j * 2 + 1, none⟩) hgl).trans y1; have lT4 : T < w4.heap.size := Nat.lt_of_lt_of_le ql b4.size; have lg4 : g < w4.heap.size := Nat.lt_of_lt_of_le hgl b4.size; have f := cellsS (new_block hb4); obtain ⟨f0, f1, f2, f3⟩ := f)
          | (go_at_call 10; refine (HS _ (by first | exact (Below.refl _ _).drew | exact (belA (Below.refl _ _) _).drew | exact belA (Below.refl _ _).drew _)).mono ?_; rintro e w4 ⟨⟨ao', n1', c1', bo', n2', c2', ee, rfl, hgood⟩, hb4⟩; have b4 : Below wr.heap.size wr w4 := (by first | exact bel (Below.refl _ _).drew hb4 | exact bel (belA (Below.refl _ _) _).drew hb4 | exact bel (belA (Below.refl _ _).drew _) hb4); have t0 := (b4.cell (p := ⟨T, 0, none⟩) ql).trans q0; have t1 := (b4.cell (p := ⟨T, 1, none⟩) ql).trans q1; have t2 := (b4.cell (p := ⟨g, o + j * 2, none⟩) hgl).trans y0; have t3 := (b4.cell (p := ⟨g, o + j * 2 + 1, none⟩) hgl).trans y1; have lT4 : T < w4.heap.size := Nat.lt_of_lt_of_le ql b4.size; have lg4 : g < w4.heap.size := Nat.lt_of_lt_of_le hgl b4.size))
        all_goals
          go_wp2_with fail
          go_meet
          first
            | exact ⟨_, ao', n1', c1', bo', n2', c2', ee, rfl, rfl, allocAt rfl, hgood.below (belA (Below.refl _ _) _), belA b4 _, b4.size⟩
            | exact ⟨_, ao', n1', c1', bo', n2', c2', ee, rfl, rfl, hset2 (new_block hb4) _ _, hgood.set2 (new_block hb4), (b4.setCell (p := ⟨wr.heap.size, 0, none⟩) (Nat.le_refl _) _).setCell (p := ⟨wr.heap.size, 1, none⟩) (Nat.le_refl _) _, Nat.le_refl _⟩
      case rest =>
        obtain ⟨X, ao', n1', c1', bo', n2', c2', ee, rfl, rfl, HX, HG, HBX, hXl⟩ := hcut
        have z0 := (HBX.out.cell (p := ⟨g, o + j * 2, none⟩) hgl).trans y0
        have z1 := (HBX.out.cell (p := ⟨g, o + j * 2 + 1, none⟩) hgl).trans y1
        have HPX : Hid (PrAt (w.heap.size + 1 + 1) (w.heap.size + 1) (fil (l.take j)) wc) := PrAt.below HP.out HBX.out
        have lX := kLt HX.out
        have hlw := HBX.out.size
        have HSP := pSet_c (w := wc.drew) HPX.out (by omega) (by omega) x hxs k
        have hee : ee = (if fitB k = true then 0 else 1) := by
          have := HG.out
          unfold SetGood at this
          by_cases hk : fitB k = true
          · rw [if_pos hk] at this ⊢; exact this.1
          · rw [if_neg hk] at this ⊢; exact this.1
        rw [← hee] at HSP
        have HEE : Hid (ee = (if fitB k = true then 0 else 1)) := hee
        have lgc : g < wc.heap.size := by omega
        clear hee HS y0 y1 q0 q1 qf
        go_wp2_with fail
        go_region_held (fun w' => w'.cell? ⟨g, o + j * 2, none⟩ = some (.string x) ∧ w'.cell? ⟨g, o + j * 2 + 1, none⟩ = some (.int .i64 k)) (go_keep) (first
          | (go_at_call 11; refine HSP.mono ?_; rintro e w5 ⟨rfl, hp5, ⟨cnt, D, hm5⟩, hg5⟩; have t2 := (grown_cell hg5 ⟨g, o + j * 2, none⟩ lgc (by show g ≠ w.heap.size + 1; omega)).trans z0; have t3 := (grown_cell hg5 ⟨g, o + j * 2 + 1, none⟩ lgc (by show g ≠ w.heap.size + 1; omega)).trans z1))
        all_goals
          have hX5 := (hg5.block X lX (by simp; omega)).trans HX.out
          have hT5 := (hg5.block T (by show T < wc.heap.size; omega) (by simp; omega)).trans ((HBX.out.block T ql).trans HQ3.out)
          have hR5 := (hg5.block w.heap.size (by show w.heap.size < wc.heap.size; omega) (by simp)).trans ((HBX.out.block w.heap.size hrl).trans HR.out)
          obtain ⟨u0, u1, u2, u3⟩ := cellsS hX5
          obtain ⟨v0, v1, v2, v3⟩ := cellsS hT5
          have HRF : Hid (RfAt w.heap.size (.slice ao' n1' c1') (.slice bo' n2' c2') (fil (l.take (j + 1))) w5) := by
            show RfAt _ _ _ _ _
            rw [HXK.out]
            exact RfAt.map (w := wc.drew) (SetGood.fin HG.out (RfAt.below HQ2.out (Below.drew HBX.out))) hm5 hg5
          have HT5 : Hid (w5.heap[T]? = some (.cells #[.slice ao n1 c1, .slice bo n2 c2] 27 (0, 0))) := hT5
          have HR5 : Hid (w5.heap[w.heap.size]? = some (.cells #[.slice none 0 0, .slice none 0 0] 27 (0, 0))) := hR5
          rw [← HXK.out] at hp5
          have HP5 : Hid (PrAt (w.heap.size + 1 + 1) (w.heap.size + 1) (fil (l.take (j + 1))) w5) := hp5
          have b5 : Below w.heap.size wc w5 := grown_below (w := wc) ⟨hg5.os, hg5.tape, hg5.output, hg5.size, hg5.block⟩ (by omega) (by omega)
          have HB5 : Hid (Below w.heap.size w w5) := (HB.out.trans (HBX.out.mono (by omega))).trans b5
          clear hX5 hT5 hR5 hp5 b5
          go_wp2_with fail
          go_roundg (n - (j + 1))
          case measure => omega
          case rel =>
            refine ⟨j + 1, by omega, rfl, by rw [Int.natCast_add]; rfl, (Below.setCell (p := ⟨T, 0, none⟩) HB5.out (by show w.heap.size ≤ T; omega) _).setCell (p := ⟨T, 1, none⟩) (by show w.heap.size ≤ T; omega) _, PrAt.set (PrAt.set HP5.out (by omega) (by omega)) (by omega) (by omega), ⟨_, _, _, _, _, _, hset2 HT5.out _ _, RfAt.set2 HRF.out HT5.out⟩, ?_⟩
            exact (Below.heap_setCell _ _ _ _ (by show w.heap.size ≠ T; omega)).trans ((Below.heap_setCell _ _ _ _ (by show w.heap.size ≠ T; omega)).trans HR5.out)
end Go.Proofs.Ytbpjgfemopakcaa
