/- The statements' ahead. -/
import Derived.Test.YtkgonnnpoldcoaaRK
namespace Go.Proofs.Ytkgonnnpoldcoaa
open Go.RowKit Lg Nl Go.Maps
set_option linter.unusedVariables false
set_option linter.unusedSimpArgs false
set_option maxRecDepth 100000

theorem S2.drewN {w W : World} {bx rs : Obj} (h : S2 w bx rs W) (k : Nat) : S2 w bx rs (W.drewN k) := ⟨belDN h.bel k, h.x, h.r⟩
theorem S2.below {w W W' : World} {bx rs : Obj} (h : S2 w bx rs W) (hb : Below W.heap.size W W') : S2 w bx rs W' := ⟨h.bel.trans (hb.mono h.bel.size), (hb.block _ (hLt h.x)).trans h.x, (hb.block _ (hLt h.r)).trans h.r⟩
set_option maxHeartbeats 4000000 in
theorem lAhead_c (l : List Nd) (of : List Int) (N : Int) (fr to : Nat) (vN vT vO vA : Value) (pt : Int) (w : World) (hN : NdsAt w vN l) (hT : ∃ a b c, vT = .slice a b c) (hO : IntsAt w vO of) (hA : ∃ a b c, vA = .slice a b c) (hk : OkD l) (hl : of.length = l.length) :
    Calls Try.prog 25 #[.agg #[vN, vT, .int .i64 pt], .agg #[vO, .int .i64 N, vA], .int .i64 (fr : Int), .int .i64 (to : Int)] w fun e w' => e = .returned (.int .i64 (aheadN l of fr to)) ∧ Below w.heap.size w w' := by
  obtain ⟨ta, tn, tc, rfl⟩ := hT
  obtain ⟨aa, am, ac, rfl⟩ := hA
  obtain ⟨na, nc, rfl, hnc, _⟩ := id hN
  obtain ⟨oa, oc, rfl, hoc, _⟩ := id hO
  obtain ⟨n, hn⟩ : ∃ n, n = l.length := ⟨_, rfl⟩
  rw [hl, ← hn] at hO ⊢
  rw [← hn] at hN
  have hn4 : n ≤ 4096 := by rw [hn]; exact hk.ok.n
  have HN : Hid (NdsAt w (.slice na n nc) l) := hN
  have HO : Hid (IntsAt w (.slice oa n oc) of) := hO
  have HNL : Hid (n = l.length) := hn
  have HOL : Hid (n = of.length) := by show n = of.length; rw [hl]; exact hn
  have HK : Hid (OkD l) := hk
  clear hN hO hnc hoc hn hk hl
  go_enter Try.func25, Try.ntmps25
  go_wp2
  have HS0 : Hid (S2 w (.cells #[.slice na n nc, .slice ta tn tc, .int .i64 pt] 26 (0, 0)) (.cells #[.slice oa n oc, .int .i64 N, .slice aa am ac] 30 (0, 0)) ((w.alloc (.cells #[.slice na n nc, .slice ta tn tc, .int .i64 pt] 26)).alloc (.cells #[.slice oa n oc, .int .i64 N, .slice aa am ac] 30))) := S2.start
  generalize (w.alloc (.cells #[.slice na n nc, .slice ta tn tc, .int .i64 pt] 26)).alloc (.cells #[.slice oa n oc, .int .i64 N, .slice aa am ac] 30) = W0 at HS0 ⊢
  go_loopw [9, 10] (fun s9 s10 W => ∃ (j : Nat) (b : Int), j ≤ n ∧ s9 = .int .i64 b ∧ s10 = .int .i64 j ∧ Hid (b = aTo l of fr to j) ∧ Hid (S2 w (.cells #[.slice na n nc, .slice ta tn tc, .int .i64 pt] 26 (0, 0)) (.cells #[.slice oa n oc, .int .i64 N, .slice aa am ac] 30 (0, 0)) W)) (fun s9 s10 W => n - (intOf s10).toNat)
  case atStart => exact ⟨0, 0, Nat.zero_le _, rfl, rfl, rfl, HS0.out⟩
  case round =>
    clear HS0
    obtain ⟨j, b, hj, rfl, rfl, HBb, HS⟩ := hrel
    obtain ⟨p0, p1, p2⟩ := cells3n HS.out.x
    obtain ⟨q0, q1, q2⟩ := cells3n HS.out.r
    have lx := hLt HS.out.x
    have lr := hLt HS.out.r
    by_cases hlt : j < n
    · have HB : Hid (Below w.heap.size w wr) := HS.out.bel
      have hil : j < l.length := by rw [← HNL.out]; exact hlt
      have hio : j < of.length := by rw [← HOL.out]; exact hlt
      obtain ⟨gN, oN, cN, hg⟩ := HN.out.some_ (by omega)
      injection hg with e1 e2 e3
      subst e1
      obtain ⟨gO, oO, cO, hgo⟩ := HO.out.some_ (by omega)
      injection hgo with f1 f2 f3
      subst f1
      obtain ⟨lO, ci⟩ := HO.out.cell j hio
      obtain ⟨gl, ia, ic, hI, c0, c1, c2, c3, c4, c5, c6, c7⟩ := HN.out.at_ j hil
      have d0 := (HB.out.cell (p := ⟨gN, oN + j * 8, none⟩) gl).trans c0
      have d1 := (HB.out.cell (p := ⟨gN, oN + j * 8 + 1, none⟩) gl).trans c1
      have d2 := (HB.out.cell (p := ⟨gN, oN + j * 8 + 2, none⟩) gl).trans c2
      have d3 := (HB.out.cell (p := ⟨gN, oN + j * 8 + 3, none⟩) gl).trans c3
      have d4 := (HB.out.cell (p := ⟨gN, oN + j * 8 + 4, none⟩) gl).trans c4
      have d5 := (HB.out.cell (p := ⟨gN, oN + j * 8 + 5, none⟩) gl).trans c5
      have d6 := (HB.out.cell (p := ⟨gN, oN + j * 8 + 6, none⟩) gl).trans c6
      have d7 := (HB.out.cell (p := ⟨gN, oN + j * 8 + 7, none⟩) gl).trans c7
      have glw : gN < wr.heap.size := Nat.lt_of_lt_of_le gl HB.out.size
      have hmem := List.getElem_mem hil
      have hin := HK.out.ok.i _ hmem
      have hde := HK.out.d _ hmem
      have HX : Hid (ndAt l j = l[j]) := ndAt_eq hil
      have HIn : Hid (l[j].ins.all (inB n) = true) := by rw [HNL.out]; exact hin
      have HOi : Hid (ofAt of (j : Nat) = of[j]) := ofAt_nat hio
      have j1 : (0 : Int) ≤ (j : Int) := by omega
      have j2 : (j : Int) < (n : Int) := by omega
      clear hin hmem e2 e3 f2 f3 c0 c1 c2 c3 c4 c5 c6 c7
      generalize l[j] = x at d0 d1 d2 d3 d4 d5 d6 d7 hI hde HX HIn
      obtain ⟨xk, xop, wd, ins, vl, hi', lo, tm⟩ := x
      simp only at d0 d1 d2 d3 d4 d5 d6 d7 hI hde HIn
      by_cases h8 : xk = 8
      · have hm1 := hde h8
        subst h8
        obtain ⟨g2, o2, cap2, hg2⟩ := hI.some_ (by omega)
        injection hg2 with e4 e5 e6
        subst e4
        obtain ⟨gl3, gd3⟩ := hI.cell 0 (by omega)
        have hzi := List.all_eq_true.1 HIn.out _ (List.getElem_mem (by omega : 0 < ins.length))
        simp [inB] at hzi
        obtain ⟨z, hz⟩ : ∃ z : Nat, ins[0] = (z : Int) := ⟨ins[0].toNat, by omega⟩
        have HI0 : Hid (in0 ⟨8, xop, wd, ins, vl, hi', lo, tm⟩ = (z : Int)) := by show ins.getD 0 0 = _; rw [List.getD_eq_getElem?_getD, List.getElem?_eq_getElem (by omega : 0 < ins.length), Option.getD_some, hz]
        rw [hz] at gd3 hzi
        have hzn : z < of.length := by rw [← HOL.out]; omega
        obtain ⟨_, cz⟩ := HO.out.cell z hzn
        have HOz : Hid (ofAt of (z : Nat) = of[z]) := ofAt_nat hzn
        generalize of[z] = oz at cz HOz
        generalize of[j] = oi at ci HOi
        have f1 : wr.cell? ⟨g2, o2 + 0, none⟩ = some (.int .i64 (z : Int)) := (HB.out.cell (p := ⟨g2, o2 + 0, none⟩) gl3).trans gd3
        rw [Nat.add_zero] at f1
        have f2 : wr.cell? ⟨gO, oO + z, none⟩ = some (.int .i64 oz) := (HB.out.cell (p := ⟨gO, oO + z, none⟩) lO).trans cz
        have f3 : wr.cell? ⟨gO, oO + j, none⟩ = some (.int .i64 oi) := (HB.out.cell (p := ⟨gO, oO + j, none⟩) lO).trans ci
        have lOw : gO < wr.heap.size := Nat.lt_of_lt_of_le lO HB.out.size
        have l2w : g2 < wr.heap.size := Nat.lt_of_lt_of_le gl3 HB.out.size
        have HS' : Hid (aTo l of fr to (j + 1) = aStep ⟨8, xop, wd, ins, vl, hi', lo, tm⟩ oz oi fr to b) := by
          show aStep _ _ _ _ _ _ = _
          rw [HX.out, HI0.out, HOz.out, HOi.out, HBb.out]
        have z1 : (0 : Int) ≤ (z : Int) := by omega
        have z2 : (z : Int) < (n : Int) := by omega
        have q00 : (0 : Int) < (ins.length : Int) := by omega
        have HSt : Hid (∀ b', (fr : Int) ≠ to ∧ oz = fr ∧ oi = to ∧ (b = 0 ∨ tm < b) → b' = tm → b' = aTo l of fr to (j + 1)) := fun b' h e => by
          rw [HS'.out, e]; unfold aStep; rw [if_pos ⟨rfl, h.1, h.2.1, h.2.2.1, h.2.2.2⟩]
        have HSn : Hid (∀ b', ¬ ((fr : Int) ≠ to ∧ oz = fr ∧ oi = to ∧ (b = 0 ∨ tm < b)) → b' = b → b' = aTo l of fr to (j + 1)) := fun b' h e => by
          rw [HS'.out, e]; unfold aStep; rw [if_neg (fun h2 => h ⟨h2.2.1, h2.2.2.1, h2.2.2.2.1, h2.2.2.2.2⟩)]
        clear e5 e6 gd3 hz hzi cz ci hde hI gl
        by_cases w1 : (fr : Int) = to
        · have g1 : ((fr : Int) != (to : Int)) = false := by simpa using w1
          have HW : Hid (¬ ((fr : Int) ≠ to ∧ oz = fr ∧ oi = to ∧ (b = 0 ∨ tm < b))) := fun h => h.1 w1
          clear w1
          go_wp2_with fail
          go_quiet (fail)
          go_wp2_with fail
          go_roundw
          case rel => exact ⟨j + 1, b, hlt, rfl, by go_num, HSn.out b HW.out rfl, S2.drewN (S2.alloc HS.out) nq⟩
          case measure => simp [intOf]; omega
        · have g1 : ((fr : Int) != (to : Int)) = true := by simpa using w1
          by_cases w2 : oz = fr
          · have g2' : (oz == (fr : Int)) = true := by simpa using w2
            by_cases w3 : oi = to
            · have g3 : (oi == (to : Int)) = true := by simpa using w3
              by_cases w4 : b = 0
              · have g4 : (b == 0) = true := by simpa using w4
                have HW : Hid ((fr : Int) ≠ to ∧ oz = fr ∧ oi = to ∧ (b = 0 ∨ tm < b)) := ⟨w1, w2, w3, Or.inl w4⟩
                clear w1 w2 w3 w4
                go_wp2_with fail
                go_quiet (fail)
                go_wp2_with fail
                go_roundw
                case rel => exact ⟨j + 1, tm, hlt, rfl, by go_num, HSt.out tm HW.out rfl, S2.drewN (S2.alloc HS.out) nq⟩
                case measure => simp [intOf]; omega
              · have g4 : (b == 0) = false := by simpa using w4
                by_cases w5 : tm < b
                · have g5 : decide (tm < b) = true := by simpa using w5
                  have HW : Hid ((fr : Int) ≠ to ∧ oz = fr ∧ oi = to ∧ (b = 0 ∨ tm < b)) := ⟨w1, w2, w3, Or.inr w5⟩
                  clear w1 w2 w3 w4
                  go_wp2_with fail
                  go_quiet (fail)
                  go_wp2_with fail
                  go_roundw
                  case rel => exact ⟨j + 1, tm, hlt, rfl, by go_num, HSt.out tm HW.out rfl, S2.drewN (S2.alloc HS.out) nq⟩
                  case measure => simp [intOf]; omega
                · have g5 : decide (tm < b) = false := by simpa using w5
                  have HW : Hid (¬ ((fr : Int) ≠ to ∧ oz = fr ∧ oi = to ∧ (b = 0 ∨ tm < b))) := fun h => h.2.2.2.elim w4 w5
                  clear w1 w2 w3 w4
                  go_wp2_with fail
                  go_quiet (fail)
                  go_wp2_with fail
                  go_roundw
                  case rel => exact ⟨j + 1, b, hlt, rfl, by go_num, HSn.out b HW.out rfl, S2.drewN (S2.alloc HS.out) nq⟩
                  case measure => simp [intOf]; omega
            · have g3 : (oi == (to : Int)) = false := by simpa using w3
              have HW : Hid (¬ ((fr : Int) ≠ to ∧ oz = fr ∧ oi = to ∧ (b = 0 ∨ tm < b))) := fun h => w3 h.2.2.1
              clear w1 w2 w3
              go_wp2_with fail
              go_quiet (fail)
              go_wp2_with fail
              go_roundw
              case rel => exact ⟨j + 1, b, hlt, rfl, by go_num, HSn.out b HW.out rfl, S2.drewN (S2.alloc HS.out) nq⟩
              case measure => simp [intOf]; omega
          · have g2' : (oz == (fr : Int)) = false := by simpa using w2
            have HW : Hid (¬ ((fr : Int) ≠ to ∧ oz = fr ∧ oi = to ∧ (b = 0 ∨ tm < b))) := fun h => w2 h.2.1
            clear w1 w2
            go_wp2_with fail
            go_quiet (fail)
            go_wp2_with fail
            go_roundw
            case rel => exact ⟨j + 1, b, hlt, rfl, by go_num, HSn.out b HW.out rfl, S2.drewN (S2.alloc HS.out) nq⟩
            case measure => simp [intOf]; omega
      · have h8' : (xk == 8) = false := by simpa using h8
        have HX8 : Hid (xk ≠ 8) := h8
        clear h8 hde hI
        go_wp2_with fail
        go_quiet (fail)
        go_wp2_with fail
        go_roundw
        case rel => exact ⟨j + 1, b, hlt, rfl, by go_num, by show b = _; rw [HBb.out]; exact (aTo_no HX.out HX8.out fr to).symm, S2.drewN (S2.alloc HS.out) nq⟩
        case measure => simp [intOf]; omega
    · obtain rfl : n = j := by omega
      go_wp2
      go_ret
      exact ⟨by rw [HBb.out]; unfold aheadN; rw [← HNL.out]; rfl, HS.out.bel⟩
end Go.Proofs.Ytkgonnnpoldcoaa
