/- The library's Equal of rows; the program's together, allTold. -/
import Derived.Test.YtkgonnnpoldcoaaRC
import Derived.Deep.QuietTactic
import Derived.BigQuiet
namespace Go.Proofs.Ytkgonnnpoldcoaa
open Go.RowKit Lg Nl Go.Maps
set_option linter.unusedVariables false
set_option linter.unusedSimpArgs false
set_option maxRecDepth 100000

theorem take_eq_succ {xs ys : List Int} {k : Nat} (h1 : k < xs.length) (h2 : k < ys.length) (h : xs.take k = ys.take k) (e : xs[k] = ys[k]) : xs.take (k + 1) = ys.take (k + 1) := by
  rw [List.take_succ_eq_append_getElem h1, List.take_succ_eq_append_getElem h2, h, e]
set_option maxHeartbeats 1000000 in
theorem equal_c (xs ys : List Int) (vx vy : Value) (w : World) (hx : IntsAt w vx xs) (hy : IntsAt w vy ys) (hl : ys.length ≤ 1000000) :
    Calls Try.prog 47 #[vx, vy] w fun e w' => e = .returned (.bool (decide (xs = ys))) ∧ Below w.heap.size w w' := by
  obtain ⟨xa, xc, rfl, hxc, _⟩ := id hx
  obtain ⟨ya, yc, rfl, hyc, _⟩ := id hy
  obtain ⟨n, hn⟩ : ∃ n, n = xs.length := ⟨_, rfl⟩
  obtain ⟨m, hm⟩ : ∃ m, m = ys.length := ⟨_, rfl⟩
  rw [← hn] at hx ⊢
  rw [← hm] at hy hl ⊢
  have HX : Hid (IntsAt w (.slice xa n xc) xs) := hx
  have HY : Hid (IntsAt w (.slice ya m yc) ys) := hy
  have HN : Hid (n = xs.length) := hn
  have HM : Hid (m = ys.length) := hm
  clear hx hy hn hm hxc hyc
  by_cases hnm : n = m
  · subst hnm
    have nn : ((n : Int) != (n : Int)) = false := by simp
    go_enter Try.func47, Try.ntmps47
    go_wp2
    go_loopw [13] (fun s13 W => ∃ (i : Nat), i ≤ n ∧ s13 = .int .i64 i ∧ Hid (xs.take i = ys.take i) ∧ Hid (Below w.heap.size w W)) (fun s13 W => n - (intOf s13).toNat)
    case atStart => exact ⟨0, Nat.zero_le _, rfl, by show xs.take 0 = ys.take 0; simp, Below.refl _ _⟩
    case round =>
      obtain ⟨i, hi, rfl, HT, HB⟩ := hrel
      by_cases hlt : i < n
      · have h1 : i < xs.length := by rw [← HN.out]; exact hlt
        have h2 : i < ys.length := by rw [← HM.out]; exact hlt
        obtain ⟨gx, ox, cx, ex⟩ := HX.out.some_ (by omega)
        obtain ⟨gy, oy, cy, ey⟩ := HY.out.some_ (by omega)
        injection ex with e1 e2 e3
        injection ey with f1 f2 f3
        subst e1 f1
        obtain ⟨l1, c1⟩ := HX.out.cell i h1
        obtain ⟨l2, c2⟩ := HY.out.cell i h2
        have d1 := (HB.out.cell (p := ⟨gx, ox + i, none⟩) l1).trans c1
        have d2 := (HB.out.cell (p := ⟨gy, oy + i, none⟩) l2).trans c2
        have i1 : (0 : Int) ≤ (i : Int) := by omega
        have i2 : (i : Int) < (n : Int) := by omega
        clear e2 e3 f2 f3 c1 c2
        by_cases he : xs[i] = ys[i]
        · have HT2 : Hid (xs.take (i + 1) = ys.take (i + 1)) := take_eq_succ h1 h2 HT.out he
          rw [he] at d1
          clear he
          generalize ys[i] = y at d1 d2
          have yy : (y != y) = false := by simp
          go_wp2_with fail
          go_quiet (fail)
          go_wp2_with fail
          go_roundw
          case rel => exact ⟨i + 1, hlt, by go_num, HT2.out, belDN HB.out nq⟩
          case measure => simp [intOf]; omega
        · have HNE : Hid (xs ≠ ys) := fun e => he (by simp only [e])
          have hne : (xs[i] != ys[i]) = true := by simpa using he
          generalize xs[i] = x at d1 hne
          generalize ys[i] = y at d2 hne
          clear he
          go_wp2_with fail
          go_quiet (fail)
          go_wp2_with fail
          go_ret
          exact ⟨by rw [decide_eq_false HNE.out]; rfl, belDN HB.out nq⟩
      · obtain rfl : n = i := by omega
        go_wp2
        go_ret
        refine ⟨?_, HB.out⟩
        have h := HT.out
        rw [List.take_of_length_le (by rw [HN.out]; exact Nat.le_refl _), List.take_of_length_le (by rw [← HM.out]; exact Nat.le_refl _)] at h
        rw [decide_eq_true h]; rfl
  · have nn : ((n : Int) != (m : Int)) = true := by simp; omega
    have HNE : Hid (xs ≠ ys) := fun e => hnm (by rw [HN.out, HM.out, e])
    clear hnm
    go_enter Try.func47, Try.ntmps47
    go_wp2
    go_ret
    exact ⟨by rw [decide_eq_false HNE.out]; rfl, Below.refl _ _⟩
/-- a row of rows of numbers -/
def RowsAt (w : World) (v : Value) (ls : List (List Int)) : Prop :=
  ∃ ao cap, v = .slice ao ls.length cap ∧ ls.length ≤ cap ∧ (ls = [] ∨ ∃ g o, ao = some ⟨g, o, none⟩ ∧ g < w.heap.size ∧ ∀ i (h : i < ls.length), ∃ vi, IntsAt w vi ls[i] ∧ w.cell? ⟨g, o + i, none⟩ = some vi)
theorem RowsAt.below {w w' : World} {v : Value} {ls : List (List Int)} (h : RowsAt w v ls) (hb : Below w.heap.size w w') : RowsAt w' v ls := by
  obtain ⟨ao, cap, rfl, hc, h⟩ := h
  refine ⟨ao, cap, rfl, hc, ?_⟩
  rcases h with h | ⟨g, o, rfl, hg, h⟩
  · exact Or.inl h
  · refine Or.inr ⟨g, o, rfl, Nat.lt_of_lt_of_le hg hb.size, fun i hi => ?_⟩
    obtain ⟨vi, h1, h2⟩ := h i hi
    exact ⟨vi, h1.below hb, by rw [hb.cell (p := ⟨g, o + i, none⟩) hg]; exact h2⟩
theorem RowsAt.at_ {w : World} {ao : Option Addr} {n cap : Nat} {ls : List (List Int)} (h : RowsAt w (.slice ao n cap) ls) (i : Nat) (hi : i < ls.length) : ∃ g o vi, ao = some ⟨g, o, none⟩ ∧ g < w.heap.size ∧ w.cell? ⟨g, o + i, none⟩ = some vi ∧ IntsAt w vi ls[i] := by
  obtain ⟨ao', c, hv, _, h⟩ := h
  injection hv with e1 e2 e3
  subst e1
  rcases h with h | ⟨g', o', rfl, hg, h⟩
  · subst h; cases hi
  · obtain ⟨vi, h1, h2⟩ := h i hi
    exact ⟨g', o', vi, rfl, hg, h2, h1⟩
set_option maxHeartbeats 1000000 in
theorem equals_c (xs ys : List (List Int)) (vx vy : Value) (w : World) (hx : RowsAt w vx xs) (hy : RowsAt w vy ys) (hl : ys.length ≤ 1000000) (hyq : ∀ y ∈ ys, y.length ≤ 1000000) :
    Calls Try.prog 46 #[vx, vy, .func (.func 47) #[] #[]] w fun e w' => e = .returned (.bool (decide (xs = ys))) ∧ Below w.heap.size w w' := by
  obtain ⟨xa, xc, rfl, hxc, _⟩ := id hx
  obtain ⟨ya, yc, rfl, hyc, _⟩ := id hy
  obtain ⟨n, hn⟩ : ∃ n, n = xs.length := ⟨_, rfl⟩
  obtain ⟨m, hm⟩ : ∃ m, m = ys.length := ⟨_, rfl⟩
  rw [← hn] at hx ⊢
  rw [← hm] at hy hl ⊢
  have HX : Hid (RowsAt w (.slice xa n xc) xs) := hx
  have HY : Hid (RowsAt w (.slice ya m yc) ys) := hy
  have HN : Hid (n = xs.length) := hn
  have HM : Hid (m = ys.length) := hm
  have HYQ : Hid (∀ y ∈ ys, y.length ≤ 1000000) := hyq
  have HEQ : Hid (∀ (W : World) (x y : List Int) (u v : Value), IntsAt W u x → IntsAt W v y → y.length ≤ 1000000 → Calls Try.prog 47 #[u, v] W fun e w' => e = .returned (.bool (decide (x = y))) ∧ Below W.heap.size W w') := fun W x y u v h1 h2 h3 => equal_c x y u v W h1 h2 h3
  clear hx hy hn hm hxc hyc hyq
  by_cases hnm : n = m
  · subst hnm
    have nn : ((n : Int) != (n : Int)) = false := by simp
    go_enter Try.func46, Try.ntmps46
    go_wp2
    go_loopw [17] (fun s17 W => ∃ (i : Nat), i ≤ n ∧ s17 = .int .i64 i ∧ Hid (xs.take i = ys.take i) ∧ Hid (Below w.heap.size w W)) (fun s17 W => n - (intOf s17).toNat)
    case atStart => exact ⟨0, Nat.zero_le _, rfl, by show xs.take 0 = ys.take 0; simp, Below.refl _ _⟩
    case round =>
      obtain ⟨i, hi, rfl, HT, HB⟩ := hrel
      by_cases hlt : i < n
      · have h1 : i < xs.length := by rw [← HN.out]; exact hlt
        have h2 : i < ys.length := by rw [← HM.out]; exact hlt
        obtain ⟨gx, ox, vx, rfl, l1, c1, I1⟩ := HX.out.at_ i h1
        obtain ⟨gy, oy, vy, rfl, l2, c2, I2⟩ := HY.out.at_ i h2
        have d1 := (HB.out.cell (p := ⟨gx, ox + i, none⟩) l1).trans c1
        have d2 := (HB.out.cell (p := ⟨gy, oy + i, none⟩) l2).trans c2
        have HE : Hid (Calls Try.prog 47 #[vx, vy] wr fun e w' => e = .returned (.bool (decide (xs[i] = ys[i]))) ∧ Below wr.heap.size wr w') := HEQ.out wr xs[i] ys[i] vx vy (I1.below HB.out) (I2.below HB.out) (HYQ.out _ (List.getElem_mem h2))
        obtain ⟨xa, xm, xcc, hvx⟩ : ∃ a b c, vx = .slice a b c := by obtain ⟨a, c, e, _⟩ := I1; exact ⟨_, _, _, e⟩
        obtain ⟨ya, ym, ycc, hvy⟩ : ∃ a b c, vy = .slice a b c := by obtain ⟨a, c, e, _⟩ := I2; exact ⟨_, _, _, e⟩
        subst hvx hvy
        have i1 : (0 : Int) ≤ (i : Int) := by omega
        have i2 : (i : Int) < (n : Int) := by omega
        clear c1 c2 I1 I2
        by_cases he : xs[i] = ys[i]
        · have HT2 : Hid (xs.take (i + 1) = ys.take (i + 1)) := by
            show _ = _
            rw [List.take_succ_eq_append_getElem h1, List.take_succ_eq_append_getElem h2, HT.out, he]
          rw [decide_eq_true he] at HE
          clear he
          go_wp2_with (first | (go_at_call 47; refine HE.out.mono ?_; rintro e w5 ⟨rfl, hb5⟩))
          go_roundw
          case rel => exact ⟨i + 1, hlt, by go_num, HT2.out, bel HB.out hb5⟩
          case measure => simp [intOf]; omega
        · have HNE : Hid (xs ≠ ys) := fun e => he (by simp only [e])
          rw [decide_eq_false he] at HE
          clear he
          go_wp2_with (first | (go_at_call 47; refine HE.out.mono ?_; rintro e w5 ⟨rfl, hb5⟩))
          go_ret
          exact ⟨by rw [decide_eq_false HNE.out]; rfl, bel HB.out hb5⟩
      · obtain rfl : n = i := by omega
        go_wp2
        go_ret
        refine ⟨?_, HB.out⟩
        have h := HT.out
        rw [List.take_of_length_le (by rw [HN.out]; exact Nat.le_refl _), List.take_of_length_le (by rw [← HM.out]; exact Nat.le_refl _)] at h
        rw [decide_eq_true h]; rfl
  · have nn : ((n : Int) != (m : Int)) = true := by simp; omega
    have HNE : Hid (xs ≠ ys) := fun e => hnm (by rw [HN.out, HM.out, e])
    clear hnm
    go_enter Try.func46, Try.ntmps46
    go_wp2
    go_ret
    exact ⟨by rw [decide_eq_false HNE.out]; rfl, Below.refl _ _⟩
end Go.Proofs.Ytkgonnnpoldcoaa
