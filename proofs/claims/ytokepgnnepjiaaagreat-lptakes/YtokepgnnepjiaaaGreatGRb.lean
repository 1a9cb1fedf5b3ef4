/- Texts RI RJ, joined: what each part says stands ahead of it. -/
import Derived.Test.YtokepgnnepjiaaaGreatGRa
import Derived.Deep.QuietTactic
import Derived.BigQuiet
/- The library's Equal of rows; the program's together, allTold. -/
namespace Go.Proofs.YtokepgnnepjiaaaGreat
set_option maxRecDepth 100000
open Go.RowKit Lg Nl Go.Maps
set_option linter.unusedVariables false
set_option linter.unusedSimpArgs false
set_option maxRecDepth 100000

theorem take_eq_succ {xs ys : List Int} {k : Nat} (h1 : k < xs.length) (h2 : k < ys.length) (h : xs.take k = ys.take k) (e : xs[k] = ys[k]) : xs.take (k + 1) = ys.take (k + 1) := by
  rw [List.take_succ_eq_append_getElem h1, List.take_succ_eq_append_getElem h2, h, e]
set_option maxHeartbeats 1000000 in
theorem equal_c (xs ys : List Int) (vx vy : Value) (w : World) (hx : IntsAt w vx xs) (hy : IntsAt w vy ys) (hl : ys.length ≤ 1000000) :
    Calls Tryz.prog 65 #[vx, vy] w fun e w' => e = .returned (.bool (decide (xs = ys))) ∧ Below w.heap.size w w' := by
  obtain ⟨xa, xc, rfl, hxc, _⟩ := id hx
  obtain ⟨ya, yc, rfl, hyc, _⟩ := id hy
  obtain ⟨n, hn⟩ : ∃ n, n = xs.length := ⟨_, rfl⟩
  obtain ⟨m, hm⟩ : ∃ m, m = ys.length := ⟨_, rfl⟩
  rw [← hn] at hx ⊢
  rw [← hm] at hy hl ⊢
  have HX : Hid (IntsAt w (.slice xa n xc) xs) := hx
  have HY : Hid (IntsAt w (.slice ya m yc) ys) := hy
  have HN : Hid (n = xs.length) := hn
  have HM : Hid (m = ys.length) := hm
  clear hx hy hn hm hxc hyc
  by_cases hnm : n = m
  · subst hnm
    have nn : ((n : Int) != (n : Int)) = false := by simp
    go_enter Tryz.func65, Tryz.ntmps65
    go_wp2
    go_loopw [13] (fun s13 W => ∃ (i : Nat), i ≤ n ∧ s13 = .int .i64 i ∧ Hid (xs.take i = ys.take i) ∧ Hid (Below w.heap.size w W)) (fun s13 W => n - (intOf s13).toNat)
    case atStart => exact ⟨0, Nat.zero_le _, rfl, by show xs.take 0 = ys.take 0; simp, Below.refl _ _⟩
    case round =>
      obtain ⟨i, hi, rfl, HT, HB⟩ := hrel
      by_cases hlt : i < n
      · have h1 : i < xs.length := by rw [← HN.out]; exact hlt
        have h2 : i < ys.length := by rw [← HM.out]; exact hlt
        obtain ⟨gx, ox, cx, ex⟩ := HX.out.some_ (by omega)
        obtain ⟨gy, oy, cy, ey⟩ := HY.out.some_ (by omega)
        injection ex with e1 e2 e3
        injection ey with f1 f2 f3
        subst e1 f1
        obtain ⟨l1, c1⟩ := HX.out.cell i h1
        obtain ⟨l2, c2⟩ := HY.out.cell i h2
        have d1 := (HB.out.cell (p := ⟨gx, ox + i, none⟩) l1).trans c1
        have d2 := (HB.out.cell (p := ⟨gy, oy + i, none⟩) l2).trans c2
        have i1 : (0 : Int) ≤ (i : Int) := by omega
        have i2 : (i : Int) < (n : Int) := by omega
        clear e2 e3 f2 f3 c1 c2
        by_cases he : xs[i] = ys[i]
        · have HT2 : Hid (xs.take (i + 1) = ys.take (i + 1)) := take_eq_succ h1 h2 HT.out he
          rw [he] at d1
          clear he
          generalize ys[i] = y at d1 d2
          have yy : (y != y) = false := by simp
          go_wp2_with fail
          go_quiet (fail)
          go_wp2_with fail
          go_roundw
          case rel => exact ⟨i + 1, hlt, by go_num, HT2.out, belDN HB.out nq⟩
          case measure => simp [intOf]; omega
        · have HNE : Hid (xs ≠ ys) := fun e => he (by simp only [e])
          have hne : (xs[i] != ys[i]) = true := by simpa using he
          generalize xs[i] = x at d1 hne
          generalize ys[i] = y at d2 hne
          clear he
          go_wp2_with fail
          go_quiet (fail)
          go_wp2_with fail
          go_ret
          exact ⟨by rw [decide_eq_false HNE.out]; rfl, belDN HB.out nq⟩
      · obtain rfl : n = i := by omega
        go_wp2
        go_ret
        refine ⟨?_, HB.out⟩
        have h := HT.out
        rw [List.take_of_length_le (by rw [HN.out]; exact Nat.le_refl _), List.take_of_length_le (by rw [← HM.out]; exact Nat.le_refl _)] at h
        rw [decide_eq_true h]; rfl
  · have nn : ((n : Int) != (m : Int)) = true := by simp; omega
    have HNE : Hid (xs ≠ ys) := fun e => hnm (by rw [HN.out, HM.out, e])
    clear hnm
    go_enter Tryz.func65, Tryz.ntmps65
    go_wp2
    go_ret
    exact ⟨by rw [decide_eq_false HNE.out]; rfl, Below.refl _ _⟩
/-- a row of rows of numbers -/
def RowsAt (w : World) (v : Value) (ls : List (List Int)) : Prop :=
  ∃ ao cap, v = .slice ao ls.length cap ∧ ls.length ≤ cap ∧ (ls = [] ∨ ∃ g o, ao = some ⟨g, o, none⟩ ∧ g < w.heap.size ∧ ∀ i (h : i < ls.length), ∃ vi, IntsAt w vi ls[i] ∧ w.cell? ⟨g, o + i, none⟩ = some vi)
theorem RowsAt.below {w w' : World} {v : Value} {ls : List (List Int)} (h : RowsAt w v ls) (hb : Below w.heap.size w w') : RowsAt w' v ls := by
  obtain ⟨ao, cap, rfl, hc, h⟩ := h
  refine ⟨ao, cap, rfl, hc, ?_⟩
  rcases h with h | ⟨g, o, rfl, hg, h⟩
  · exact Or.inl h
  · refine Or.inr ⟨g, o, rfl, Nat.lt_of_lt_of_le hg hb.size, fun i hi => ?_⟩
    obtain ⟨vi, h1, h2⟩ := h i hi
    exact ⟨vi, h1.below hb, by rw [hb.cell (p := ⟨g, o + i, none⟩) hg]; exact h2⟩
theorem RowsAt.at_ {w : World} {ao : Option Addr} {n cap : Nat} {ls : List (List Int)} (h : RowsAt w (.slice ao n cap) ls) (i : Nat) (hi : i < ls.length) : ∃ g o vi, ao = some ⟨g, o, none⟩ ∧ g < w.heap.size ∧ w.cell? ⟨g, o + i, none⟩ = some vi ∧ IntsAt w vi ls[i] := by
  obtain ⟨ao', c, hv, _, h⟩ := h
  injection hv with e1 e2 e3
  subst e1
  rcases h with h | ⟨g', o', rfl, hg, h⟩
  · subst h; cases hi
  · obtain ⟨vi, h1, h2⟩ := h i hi
    exact ⟨g', o', vi, rfl, hg, h2, h1⟩
set_option maxHeartbeats 1000000 in
theorem equals_c (xs ys : List (List Int)) (vx vy : Value) (w : World) (hx : RowsAt w vx xs) (hy : RowsAt w vy ys) (hl : ys.length ≤ 1000000) (hyq : ∀ y ∈ ys, y.length ≤ 1000000) :
    Calls Tryz.prog 63 #[vx, vy, .func (.func 65) #[] #[]] w fun e w' => e = .returned (.bool (decide (xs = ys))) ∧ Below w.heap.size w w' := by
  obtain ⟨xa, xc, rfl, hxc, _⟩ := id hx
  obtain ⟨ya, yc, rfl, hyc, _⟩ := id hy
  obtain ⟨n, hn⟩ : ∃ n, n = xs.length := ⟨_, rfl⟩
  obtain ⟨m, hm⟩ : ∃ m, m = ys.length := ⟨_, rfl⟩
  rw [← hn] at hx ⊢
  rw [← hm] at hy hl ⊢
  have HX : Hid (RowsAt w (.slice xa n xc) xs) := hx
  have HY : Hid (RowsAt w (.slice ya m yc) ys) := hy
  have HN : Hid (n = xs.length) := hn
  have HM : Hid (m = ys.length) := hm
  have HYQ : Hid (∀ y ∈ ys, y.length ≤ 1000000) := hyq
  have HEQ : Hid (∀ (W : World) (x y : List Int) (u v : Value), IntsAt W u x → IntsAt W v y → y.length ≤ 1000000 → Calls Tryz.prog 65 #[u, v] W fun e w' => e = .returned (.bool (decide (x = y))) ∧ Below W.heap.size W w') := fun W x y u v h1 h2 h3 => equal_c x y u v W h1 h2 h3
  clear hx hy hn hm hxc hyc hyq
  by_cases hnm : n = m
  · subst hnm
    have nn : ((n : Int) != (n : Int)) = false := by simp
    go_enter Tryz.func63, Tryz.ntmps63
    go_wp2
    go_loopw [17] (fun s17 W => ∃ (i : Nat), i ≤ n ∧ s17 = .int .i64 i ∧ Hid (xs.take i = ys.take i) ∧ Hid (Below w.heap.size w W)) (fun s17 W => n - (intOf s17).toNat)
    case atStart => exact ⟨0, Nat.zero_le _, rfl, by show xs.take 0 = ys.take 0; simp, Below.refl _ _⟩
    case round =>
      obtain ⟨i, hi, rfl, HT, HB⟩ := hrel
      by_cases hlt : i < n
      · have h1 : i < xs.length := by rw [← HN.out]; exact hlt
        have h2 : i < ys.length := by rw [← HM.out]; exact hlt
        obtain ⟨gx, ox, vx, rfl, l1, c1, I1⟩ := HX.out.at_ i h1
        obtain ⟨gy, oy, vy, rfl, l2, c2, I2⟩ := HY.out.at_ i h2
        have d1 := (HB.out.cell (p := ⟨gx, ox + i, none⟩) l1).trans c1
        have d2 := (HB.out.cell (p := ⟨gy, oy + i, none⟩) l2).trans c2
        have HE : Hid (Calls Tryz.prog 65 #[vx, vy] wr fun e w' => e = .returned (.bool (decide (xs[i] = ys[i]))) ∧ Below wr.heap.size wr w') := HEQ.out wr xs[i] ys[i] vx vy (I1.below HB.out) (I2.below HB.out) (HYQ.out _ (List.getElem_mem h2))
        obtain ⟨xa, xm, xcc, hvx⟩ : ∃ a b c, vx = .slice a b c := by obtain ⟨a, c, e, _⟩ := I1; exact ⟨_, _, _, e⟩
        obtain ⟨ya, ym, ycc, hvy⟩ : ∃ a b c, vy = .slice a b c := by obtain ⟨a, c, e, _⟩ := I2; exact ⟨_, _, _, e⟩
        subst hvx hvy
        have i1 : (0 : Int) ≤ (i : Int) := by omega
        have i2 : (i : Int) < (n : Int) := by omega
        clear c1 c2 I1 I2
        by_cases he : xs[i] = ys[i]
        · have HT2 : Hid (xs.take (i + 1) = ys.take (i + 1)) := by
            show _ = _
            rw [List.take_succ_eq_append_getElem h1, List.take_succ_eq_append_getElem h2, HT.out, he]
          rw [decide_eq_true he] at HE
          clear he
          go_wp2_with (first | (go_at_call 65; refine HE.out.mono ?_; rintro e w5 ⟨rfl, hb5⟩))
          go_roundw
          case rel => exact ⟨i + 1, hlt, by go_num, HT2.out, bel HB.out hb5⟩
          case measure => simp [intOf]; omega
        · have HNE : Hid (xs ≠ ys) := fun e => he (by simp only [e])
          rw [decide_eq_false he] at HE
          clear he
          go_wp2_with (first | (go_at_call 65; refine HE.out.mono ?_; rintro e w5 ⟨rfl, hb5⟩))
          go_ret
          exact ⟨by rw [decide_eq_false HNE.out]; rfl, bel HB.out hb5⟩
      · obtain rfl : n = i := by omega
        go_wp2
        go_ret
        refine ⟨?_, HB.out⟩
        have h := HT.out
        rw [List.take_of_length_le (by rw [HN.out]; exact Nat.le_refl _), List.take_of_length_le (by rw [← HM.out]; exact Nat.le_refl _)] at h
        rw [decide_eq_true h]; rfl
  · have nn : ((n : Int) != (m : Int)) = true := by simp; omega
    have HNE : Hid (xs ≠ ys) := fun e => hnm (by rw [HN.out, HM.out, e])
    clear hnm
    go_enter Tryz.func63, Tryz.ntmps63
    go_wp2
    go_ret
    exact ⟨by rw [decide_eq_false HNE.out]; rfl, Below.refl _ _⟩
end Go.Proofs.YtokepgnnepjiaaaGreat

/- The program's together and allTold. -/
namespace Go.Proofs.YtokepgnnepjiaaaGreat
set_option maxRecDepth 100000
open Go.RowKit Lg Nl Go.Maps
set_option linter.unusedVariables false
set_option linter.unusedSimpArgs false
set_option maxRecDepth 100000

theorem infoBool2 : (Tryz.prog.info? 4).map (fun i => (i.zero, i.size, i.bytes)) = some (some (.bool false), 1, 1) := by kernel_rfl
theorem mkBools2 (n : Nat) (hn : n ≤ 140737488355328) : ∀ w : World, (Instr.makeSlice 116 (.int .i64 (n : Int)) (.int .i64 (n : Int))).run Tryz.prog w = .ok (.slice (some ⟨w.heap.size, 0, none⟩) n n) (w.alloc (.cells (madeCells #[.bool false] n) 4)) := fun w =>
  run_make_row' (P := Tryz.prog) 116 4 (.bool false) 1 Tryz.underlying116 infoBool2 rfl .i64 .i64 n (by omega) (by omega) w
theorem IntsAt.nat {w : World} {v : Value} {of : List Int} (h : IntsAt w v of) (i : Nat) (hi : i < of.length) : ∃ g o cap, v = .slice (some ⟨g, o, none⟩) of.length cap ∧ g < w.heap.size ∧ w.cell? ⟨g, o + i, none⟩ = some (.int .i64 of[i]) := by
  obtain ⟨g, o, cap, e⟩ := h.some_ (by omega)
  subst e
  obtain ⟨a, b⟩ := h.cell i hi
  exact ⟨g, o, cap, rfl, a, b⟩
/-- a truth is told: whether P -/
def RetB (P : Prop) (e : Ending) : Prop := ∃ b, e = .returned (.bool b) ∧ Hid (b = true ↔ P)
theorem RetB.no {P : Prop} (h : ¬ P) : RetB P (.returned (.bool false)) := ⟨false, rfl, ⟨fun h => (by cases h), fun h' => absurd h' h⟩⟩
theorem RetB.yes {P : Prop} (h : P) : RetB P (.returned (.bool true)) := ⟨true, rfl, ⟨fun _ => h, fun _ => rfl⟩⟩
def TogTo (l : List Nd) (of : List Int) (i : Nat) : Prop := ∀ j, j < i → (ndAt l j).k ≠ 8 → ∀ z ∈ (ndAt l j).ins, ofAt of z = ofAt of (j : Nat)
set_option maxHeartbeats 2000000 in
theorem together_c (l : List Nd) (of : List Int) (vN vO : Value) (w : World) (hN : NdsAt w vN l) (hO : IntsAt w vO of) (hk : Ok l) (hl : of.length = l.length) :
    Calls Tryz.prog 34 #[vN, vO] w fun e w' => RetB (Tog l of) e ∧ Below w.heap.size w w' := by
  obtain ⟨na, nc, rfl, hnc, _⟩ := id hN
  obtain ⟨oa, oc, rfl, hoc, _⟩ := id hO
  obtain ⟨n, hn⟩ : ∃ n, n = l.length := ⟨_, rfl⟩
  rw [hl, ← hn] at hO ⊢
  rw [← hn] at hN
  have hn4 : n ≤ 4096 := by rw [hn]; exact hk.n
  have HN : Hid (NdsAt w (.slice na n nc) l) := hN
  have HO : Hid (IntsAt w (.slice oa n oc) of) := hO
  have HNL : Hid (n = l.length) := hn
  have HOL : Hid (n = of.length) := by show n = of.length; rw [hl]; exact hn
  have HK : Hid (Ok l) := hk
  clear hN hO hnc hoc hn hk hl
  go_enter Tryz.func34, Tryz.ntmps34
  go_wp2
  go_loopw [11] (fun s11 W => ∃ (i : Nat), i ≤ n ∧ s11 = .int .i64 i ∧ Hid (TogTo l of i) ∧ Hid (Below w.heap.size w W)) (fun s11 W => n - (intOf s11).toNat)
  case atStart => exact ⟨0, Nat.zero_le _, rfl, fun j hj => absurd hj (Nat.not_lt_zero _), Below.refl _ _⟩
  case round =>
    obtain ⟨i, hi, rfl, HT, HB⟩ := hrel
    by_cases hlt : i < n
    · have hil : i < l.length := by rw [← HNL.out]; exact hlt
      have hio : i < of.length := by rw [← HOL.out]; exact hlt
      obtain ⟨gN, oN, cN, hg⟩ := HN.out.some_ (by omega)
      injection hg with e1 e2 e3
      subst e1
      obtain ⟨gO, oO, cO, hgo⟩ := HO.out.some_ (by omega)
      injection hgo with f1 f2 f3
      subst f1
      obtain ⟨lO, ci⟩ := HO.out.cell i hio
      obtain ⟨gl, ia, ic, hI, c0, c1, c2, c3, c4, c5, c6, c7⟩ := HN.out.at_ i hil
      have d0 := (HB.out.cell (p := ⟨gN, oN + i * 8, none⟩) gl).trans c0
      have d1 := (HB.out.cell (p := ⟨gN, oN + i * 8 + 1, none⟩) gl).trans c1
      have d2 := (HB.out.cell (p := ⟨gN, oN + i * 8 + 2, none⟩) gl).trans c2
      have d3 := (HB.out.cell (p := ⟨gN, oN + i * 8 + 3, none⟩) gl).trans c3
      have d4 := (HB.out.cell (p := ⟨gN, oN + i * 8 + 4, none⟩) gl).trans c4
      have d5 := (HB.out.cell (p := ⟨gN, oN + i * 8 + 5, none⟩) gl).trans c5
      have d6 := (HB.out.cell (p := ⟨gN, oN + i * 8 + 6, none⟩) gl).trans c6
      have d7 := (HB.out.cell (p := ⟨gN, oN + i * 8 + 7, none⟩) gl).trans c7
      have glw : gN < wr.heap.size := Nat.lt_of_lt_of_le gl HB.out.size
      have hmem := List.getElem_mem hil
      have hin := HK.out.i _ hmem
      have hq := HK.out.q _ hmem
      have HX : Hid (ndAt l i = l[i]) := ndAt_eq hil
      have HIn : Hid (l[i].ins.all (inB n) = true) := by rw [HNL.out]; exact hin
      have HOi : Hid (ofAt of (i : Nat) = of[i]) := ofAt_nat hio
      have i1 : (0 : Int) ≤ (i : Int) := by omega
      have i2 : (i : Int) < (n : Int) := by omega
      clear hin hmem e2 e3 f2 f3 c0 c1 c2 c3 c4 c5 c6 c7
      generalize l[i] = x at d0 d1 d2 d3 d4 d5 d6 d7 hI hq HX HIn
      obtain ⟨xk, xop, wd, ins, vl, hi', lo, tm⟩ := x
      simp only at d0 d1 d2 d3 d4 d5 d6 d7 hI hq HIn
      by_cases h8 : xk = 8
      · subst h8
        go_wp2
        go_roundw
        case rel =>
          refine ⟨i + 1, hlt, by go_num, fun j hj hne => ?_, belA HB.out _⟩
          rcases Nat.lt_succ_iff_lt_or_eq.1 hj with h | h
          · exact HT.out j h hne
          · subst h; rw [HX.out] at hne; exact absurd rfl hne
        case measure => simp [intOf]; omega
      · have h8' : (xk == 8) = false := by simpa using h8
        have HX8 : Hid (xk ≠ 8) := h8
        have HI : Hid (IntsAt w (.slice ia ins.length ic) ins) := hI
        obtain ⟨m, hm⟩ : ∃ m, m = ins.length := ⟨_, rfl⟩
        rw [← hm] at d3 hq HI hI
        have HML : Hid (m = ins.length) := hm
        generalize hoi : of[i] = oi at ci HOi
        clear h8 hI hm hoi
        go_wp2
        generalize hWA : wr.alloc (.cells #[.int .i64 xk, .int .i64 xop, .int .i64 wd, .slice ia m ic, .string (S vl), .int .i64 hi', .int .i64 lo, .int .i64 tm] 61) = WA
        have HBA : Hid (Below w.heap.size w WA) := by rw [← hWA]; exact belA HB.out _
        clear hWA d0 d1 d2 d3 d4 d5 d6 d7 gl glw HB
        go_loopw [22] (fun s22 W => ∃ (kk : Nat), kk ≤ m ∧ s22 = .int .i64 kk ∧ Hid (∀ z ∈ ins.take kk, ofAt of z = oi) ∧ Hid (Below w.heap.size w W)) (fun s22 W => m - (intOf s22).toNat)
        case atStart => exact ⟨0, Nat.zero_le _, rfl, fun z hz => by simp at hz, HBA.out⟩
        case round =>
          clear HBA
          obtain ⟨kk, hkk, rfl, HZ', HB'⟩ := hrel
          by_cases hlk : kk < m
          · have hkl : kk < ins.length := by rw [← HML.out]; exact hlk
            obtain ⟨g2, o2, cap2, hg2⟩ := HI.out.some_ (by omega)
            injection hg2 with e4 e5 e6
            subst e4
            obtain ⟨gl3, gd3⟩ := HI.out.cell kk hkl
            have hzi := List.all_eq_true.1 HIn.out _ (List.getElem_mem hkl)
            simp [inB] at hzi
            obtain ⟨z, hz⟩ : ∃ z : Nat, ins[kk] = (z : Int) := ⟨ins[kk].toNat, by omega⟩
            have HTK : Hid (ins.take (kk + 1) = ins.take kk ++ [(z : Int)]) := by show ins.take (kk + 1) = ins.take kk ++ [(z : Int)]; rw [List.take_succ_eq_append_getElem hkl, hz]
            have HZM : Hid ((z : Int) ∈ ins) := by show (z : Int) ∈ ins; rw [← hz]; exact List.getElem_mem hkl
            rw [hz] at gd3 hzi
            have hzn : z < of.length := by rw [← HOL.out]; omega
            obtain ⟨_, cz⟩ := HO.out.cell z hzn
            have HOz : Hid (ofAt of (z : Nat) = of[z]) := ofAt_nat hzn
            generalize hoz : of[z] = oz at cz HOz
            have f1 : wr.cell? ⟨g2, o2 + kk, none⟩ = some (.int .i64 (z : Int)) := (HB'.out.cell (p := ⟨g2, o2 + kk, none⟩) gl3).trans gd3
            have f2 : wr.cell? ⟨gO, oO + z, none⟩ = some (.int .i64 oz) := (HB'.out.cell (p := ⟨gO, oO + z, none⟩) lO).trans cz
            have f3 : wr.cell? ⟨gO, oO + i, none⟩ = some (.int .i64 oi) := (HB'.out.cell (p := ⟨gO, oO + i, none⟩) lO).trans ci
            have k1 : (0 : Int) ≤ (kk : Int) := by omega
            have k2 : (kk : Int) < (m : Int) := by omega
            have z1 : (0 : Int) ≤ (z : Int) := by omega
            have z2 : (z : Int) < (n : Int) := by omega
            clear e5 e6 gd3 hz hzi hoz cz
            by_cases hoo : oz = oi
            · subst hoo
              have yy : (oz != oz) = false := by simp
              go_wp2_with fail
              go_quiet (fail)
              go_wp2_with fail
              go_roundw
              case rel =>
                refine ⟨kk + 1, hlk, by go_num, fun y hy => ?_, belDN HB'.out nq⟩
                rw [HTK.out, List.mem_append, List.mem_singleton] at hy
                rcases hy with hy | hy
                · exact HZ'.out y hy
                · rw [hy]; exact HOz.out
              case measure => simp [intOf]; omega
            · have yy : (oz != oi) = true := by simpa using hoo
              have HNo : Hid (¬ Tog l of) := fun ht => by
                have h := ht i hil (by rw [HX.out]; exact HX8.out) (z : Int) (by rw [HX.out]; exact HZM.out)
                rw [HOz.out, HOi.out] at h
                exact hoo h
              clear hoo
              go_wp2_with fail
              go_quiet (fail)
              go_wp2_with fail
              go_ret
              exact ⟨RetB.no HNo.out, belDN HB'.out nq⟩
          · obtain rfl : m = kk := by omega
            go_wp2
            go_roundw
            case rel =>
              refine ⟨i + 1, hlt, by go_num, fun j hj hne z hz => ?_, HB'.out⟩
              rcases Nat.lt_succ_iff_lt_or_eq.1 hj with h | h
              · exact HT.out j h hne z hz
              · subst h; rw [HX.out] at hz
                rw [HOi.out]
                exact HZ'.out z (by rw [List.take_of_length_le (by rw [HML.out]; exact Nat.le_refl _)]; exact hz)
            case measure => simp [intOf]; omega
    · obtain rfl : n = i := by omega
      go_wp2
      go_ret
      exact ⟨RetB.yes (fun j hj => HT.out j (by rw [HNL.out]; exact hj)), HB.out⟩
set_option maxHeartbeats 1000000 in
theorem indexB_c (f : Nat → Bool) (T n : Nat) (w : World) (h : ∀ i, i < n → w.cell? ⟨T, i, none⟩ = some (.bool (f i))) (hn : n ≤ 1000000) :
    Calls Tryz.prog 89 #[.slice (some ⟨T, 0, none⟩) n n, .bool false] w fun e w' => ∃ r : Int, e = .returned (.int .i64 r) ∧ Hid (0 ≤ r ↔ ∃ q, q < n ∧ f q = false) ∧ (0 ≤ r ∨ r = -1) ∧ w' = w := by
  have HC : Hid (∀ i, i < n → w.cell? ⟨T, i, none⟩ = some (.bool (f i))) := h
  clear h
  go_enter Tryz.func89, Tryz.ntmps89
  go_wp2
  go_loop [8] (fun s8 => ∃ k : Nat, k ≤ n ∧ s8 = .int .i64 k ∧ Hid (∀ q, q < k → f q = true)) (fun s8 => n - (intOf s8).toNat)
  case atStart => exact ⟨0, Nat.zero_le _, rfl, fun q hq => absurd hq (Nat.not_lt_zero _)⟩
  case round =>
    obtain ⟨k, hk, rfl, HK⟩ := hrel
    by_cases hlt : k < n
    · have hx := HC.out k hlt
      have k1 : (0 : Int) ≤ (k : Int) := by omega
      have k2 : (k : Int) < (n : Int) := by omega
      cases hf : f k with
      | false =>
        rw [hf] at hx
        have HF : Hid (f k = false) := hf
        clear hf
        go_wp2
        go_ret
        exact ⟨(k : Int), rfl, ⟨fun _ => ⟨k, hlt, HF.out⟩, fun _ => k1⟩, Or.inl k1, rfl⟩
      | true =>
        rw [hf] at hx
        have HF : Hid (f k = true) := hf
        clear hf
        go_wp2
        go_round
        case rel => exact ⟨k + 1, hlt, by go_num, fun q hq => by
          rcases Nat.lt_succ_iff_lt_or_eq.1 hq with h | h
          · exact HK.out q h
          · rw [h]; exact HF.out⟩
        case measure => simp [intOf]; omega
    · obtain rfl : n = k := by omega
      go_wp2
      go_ret
      exact ⟨-1, rfl, ⟨fun h => absurd h (by omega), fun ⟨q, hq, e⟩ => by rw [HK.out q hq] at e; cases e⟩, Or.inr rfl, rfl⟩
set_option maxHeartbeats 1000000 in
theorem containsB_c (f : Nat → Bool) (T n : Nat) (w : World) (h : ∀ i, i < n → w.cell? ⟨T, i, none⟩ = some (.bool (f i))) (hn : n ≤ 1000000) :
    Calls Tryz.prog 62 #[.slice (some ⟨T, 0, none⟩) n n, .bool false] w fun e w' => ∃ b, e = .returned (.bool b) ∧ Hid (b = true ↔ ∃ q, q < n ∧ f q = false) ∧ w' = w := by
  have HI : Hid (Calls Tryz.prog 89 #[.slice (some ⟨T, 0, none⟩) n n, .bool false] w fun e w' => ∃ r : Int, e = .returned (.int .i64 r) ∧ Hid (0 ≤ r ↔ ∃ q, q < n ∧ f q = false) ∧ (0 ≤ r ∨ r = -1) ∧ w' = w) := indexB_c f T n w h hn
  clear h
  go_enter Tryz.func62, Tryz.ntmps62
  go_wp2_with (first | (go_at_call 89; refine HI.out.mono ?_; rintro e w' ⟨r, rfl, HR, hr, hw⟩; have hw2 := hw.symm; subst hw2))
  go_ret
  exact ⟨decide (0 ≤ r), rfl, by show _ ↔ _; rw [decide_eq_true_iff]; exact HR.out, rfl⟩
/-- each node has a part that there is, and each part a node -/
def Told (n : Nat) (of : List Int) (N : Int) : Prop := 1 ≤ N ∧ N ≤ 64 ∧ of.length = n ∧ (∀ z ∈ of, 0 ≤ z ∧ z < N) ∧ ∀ k : Int, 0 ≤ k → k < N → k ∈ of
def tF (of : List Int) (i : Nat) : Nat → Value := fun q => .bool (decide ((q : Int) ∈ of.take i))
set_option maxHeartbeats 2000000 in
theorem allTold_c (of : List Int) (N : Int) (na : Option Addr) (n nc : Nat) (vO vA : Value) (w : World) (hO : IntsAt w vO of) (hA : ∃ a b c, vA = .slice a b c) (hn : n ≤ 4096) :
    Calls Tryz.prog 33 #[.slice na n nc, .agg #[vO, .int .i64 N, vA]] w fun e w' => RetB (Told n of N) e ∧ Below w.heap.size w w' := by
  obtain ⟨aa, am, ac, rfl⟩ := hA
  obtain ⟨oa, oc, rfl, hoc, _⟩ := id hO
  obtain ⟨m, hm⟩ : ∃ m, m = of.length := ⟨_, rfl⟩
  rw [← hm] at hO ⊢
  have HO : Hid (IntsAt w (.slice oa m oc) of) := hO
  have HML : Hid (m = of.length) := hm
  clear hO hoc hm
  by_cases h1 : N < 1
  · have HNo : Hid (¬ Told n of N) := fun h => by have := h.1; omega
    go_enter Tryz.func33, Tryz.ntmps33
    go_wp2
    go_ret
    exact ⟨RetB.no HNo.out, belA (Below.refl _ _) _⟩
  · by_cases h64 : 64 < N
    · have HNo : Hid (¬ Told n of N) := fun h => by have := h.2.1; omega
      have h1' : decide (N < 1) = false := by simp; omega
      go_enter Tryz.func33, Tryz.ntmps33
      go_wp2
      go_ret
      exact ⟨RetB.no HNo.out, belA (Below.refl _ _) _⟩
    · have h1' : decide (N < 1) = false := by simp; omega
      have h64' : decide (64 < N) = false := by simp; omega
      by_cases hmn : m = n
      · subst hmn
        have mm : ((m : Int) != (m : Int)) = false := by simp
        obtain ⟨c, rfl⟩ : ∃ c : Nat, N = (c : Int) := ⟨N.toNat, by omega⟩
        have hc1 : 1 ≤ c := by omega
        have hc64 : c ≤ 64 := by omega
        have hmk := mkBools2 c (by omega)
        clear h1 h64
        go_enter Tryz.func33, Tryz.ntmps33
        go_wp2
        obtain ⟨T, hT⟩ : ∃ T, T = w.heap.size + 1 := ⟨_, rfl⟩
        have hTx : w.heap.size + 1 ≤ T := by omega
        have HQ0 : Hid (((w.alloc (.cells #[.slice oa m oc, .int .i64 (c : Int), .slice aa am ac] 29)).alloc (.cells (madeCells #[.bool false] c) 4)).rowIs T 4 c (tF of 0)) := by
          have h := World.rowIs_made (w.alloc (.cells #[.slice oa m oc, .int .i64 (c : Int), .slice aa am ac] 29)) (.bool false) c 4
          rw [World.size_alloc, ← hT] at h
          exact h.congr (fun q _ => by simp [tF])
        have HS0 : Hid (S1 w (.cells #[.slice oa m oc, .int .i64 (c : Int), .slice aa am ac] 29 (0, 0)) ((w.alloc (.cells #[.slice oa m oc, .int .i64 (c : Int), .slice aa am ac] 29)).alloc (.cells (madeCells #[.bool false] c) 4))) := S1.alloc S1.start
        rw [← hT]
        clear hmk hT
        generalize (w.alloc (.cells #[.slice oa m oc, .int .i64 (c : Int), .slice aa am ac] 29)).alloc (.cells (madeCells #[.bool false] c) 4) = W0 at HQ0 HS0 ⊢
        go_loopw [30] (fun s30 W => ∃ (i : Nat), i ≤ m ∧ s30 = .int .i64 i ∧ Hid (S1 w (.cells #[.slice oa m oc, .int .i64 (c : Int), .slice aa am ac] 29 (0, 0)) W) ∧ Hid (W.rowIs T 4 c (tF of i)) ∧ Hid (∀ z ∈ of.take i, 0 ≤ z ∧ z < (c : Int))) (fun s30 W => m - (intOf s30).toNat)
        case atStart => exact ⟨0, Nat.zero_le _, rfl, HS0.out, HQ0.out, fun z hz => by simp at hz⟩
        case round =>
          clear HQ0 HS0
          obtain ⟨i, hi, rfl, HS, HQ, HR⟩ := hrel
          obtain ⟨b0, b1, b2⟩ := cells3n HS.out.x
          have lx := hLt HS.out.x
          by_cases hlt : i < m
          · have hil : i < of.length := by rw [← HML.out]; exact hlt
            obtain ⟨gO, oO, cO, hgo⟩ := HO.out.some_ (by omega)
            injection hgo with f1 f2 f3
            subst f1
            obtain ⟨lO, ci⟩ := HO.out.cell i hil
            have HTK : Hid (of.take (i + 1) = of.take i ++ [of[i]]) := List.take_succ_eq_append_getElem hil
            have HMem : Hid (of[i] ∈ of) := List.getElem_mem hil
            have d1 : wr.cell? ⟨gO, oO + i, none⟩ = some (.int .i64 of[i]) := (HS.out.bel.cell (p := ⟨gO, oO + i, none⟩) lO).trans ci
            have i1 : (0 : Int) ≤ (i : Int) := by omega
            have i2 : (i : Int) < (m : Int) := by omega
            clear f2 f3 ci
            generalize of[i] = z at d1 HTK HMem
            by_cases hz0 : z < 0
            · have HNo : Hid (¬ Told m of (c : Int)) := fun h => by have := (h.2.2.2.1 z HMem.out).1; omega
              go_wp2
              go_ret
              exact ⟨RetB.no HNo.out, HS.out.bel⟩
            · have hz0' : decide (z < 0) = false := by simp; omega
              by_cases hzc : (c : Int) ≤ z
              · have HNo : Hid (¬ Told m of (c : Int)) := fun h => by have := (h.2.2.2.1 z HMem.out).2; omega
                go_wp2
                go_ret
                exact ⟨RetB.no HNo.out, HS.out.bel⟩
              · have hzc' : decide ((c : Int) ≤ z) = false := by simp; omega
                obtain ⟨q, rfl⟩ : ∃ q : Nat, z = (q : Int) := ⟨z.toNat, by omega⟩
                have hqc : q < c := by omega
                have q1 : (0 : Int) ≤ (q : Int) := by omega
                have q2 : (q : Int) < (c : Int) := by omega
                have y0 := HQ.out.cell hqc
                have yf := HQ.out.frozen q
                have hTl := HQ.out.lt
                have q3 : ¬ c ≤ q := by omega
                clear hz0 hzc
                go_wp2
                go_roundw
                case rel =>
                  refine ⟨i + 1, hlt, by go_num, S1.set HS.out hTx, World.rowIs.congr (HQ.out.set q (.bool true)) (fun y _ => ?_), fun y hy => ?_⟩
                  · unfold tF
                    rw [HTK.out]
                    split
                    · rename_i e; subst e; simp
                    · rename_i e
                      congr 1
                      rw [decide_eq_decide, List.mem_append, List.mem_singleton]
                      exact ⟨Or.inl, fun h => h.elim id (fun h2 => absurd (by omega) e)⟩
                  · rw [HTK.out, List.mem_append, List.mem_singleton] at hy
                    rcases hy with hy | hy
                    · exact HR.out y hy
                    · rw [hy]; exact ⟨q1, q2⟩
                case measure => simp [intOf]; omega
          · obtain rfl : m = i := by omega
            have HCB : Hid (Calls Tryz.prog 62 #[.slice (some ⟨T, 0, none⟩) c c, .bool false] wr fun e w' => ∃ b, e = .returned (.bool b) ∧ Hid (b = true ↔ ∃ q, q < c ∧ decide ((q : Int) ∈ of.take m) = false) ∧ w' = wr) := containsB_c (fun q => decide ((q : Int) ∈ of.take m)) T c wr (fun i hi => HQ.out.cell hi) (by omega)
            have HTm : Hid (of.take m = of) := List.take_of_length_le (by rw [HML.out]; exact Nat.le_refl _)
            go_wp2_with (first | (go_at_call 62; refine HCB.out.mono ?_; rintro e w' ⟨b, rfl, HB, hw⟩; have hw2 := hw.symm; subst hw2))
            go_ret
            refine ⟨⟨!b, rfl, ?_⟩, HS.out.bel⟩
            show (!b) = true ↔ _
            have hb := HB.out
            have hr := HR.out
            rw [HTm.out] at hb hr
            constructor
            · intro h
              refine ⟨by omega, by omega, HML.out.symm, hr, fun k k0 kc => ?_⟩
              obtain ⟨q, rfl⟩ : ∃ q : Nat, k = (q : Int) := ⟨k.toNat, by omega⟩
              by_cases hm : (q : Int) ∈ of
              · exact hm
              · have := hb.2 ⟨q, by omega, decide_eq_false hm⟩
                rw [this] at h; cases h
            · intro h
              cases b with
              | false => rfl
              | true =>
                obtain ⟨q, hq, e⟩ := hb.1 rfl
                exact absurd (h.2.2.2.2 (q : Int) (by omega) (by omega)) (of_decide_eq_false e)
      · have mm : ((m : Int) != (n : Int)) = true := by simp; omega
        have HNo : Hid (¬ Told n of N) := fun h => hmn (by rw [HML.out]; exact h.2.2.1)
        go_enter Tryz.func33, Tryz.ntmps33
        go_wp2
        go_ret
        exact ⟨RetB.no HNo.out, belA (Below.refl _ _) _⟩
end Go.Proofs.YtokepgnnepjiaaaGreat
