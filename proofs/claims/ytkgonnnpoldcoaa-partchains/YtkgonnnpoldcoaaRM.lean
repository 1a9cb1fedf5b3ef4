/- The statements' may: which parts may be. -/
import Derived.Test.YtkgonnnpoldcoaaRL
namespace Go.Proofs.Ytkgonnnpoldcoaa
open Go.RowKit Lg Nl Go.Maps
set_option linter.unusedVariables false
set_option linter.unusedSimpArgs false
set_option maxRecDepth 100000

theorem S2.set {w W : World} {bx rs : Obj} (h : S2 w bx rs W) {b j : Nat} {v : Value} (hb : w.heap.size + 1 + 1 ≤ b) : S2 w bx rs (W.setCell ⟨b, j, none⟩ v) :=
  ⟨h.bel.setCell (by show w.heap.size ≤ b; omega) _, (Below.heap_setCell _ _ _ _ (by show w.heap.size ≠ b; omega)).trans h.x, (Below.heap_setCell _ _ _ _ (by show w.heap.size + 1 ≠ b; omega)).trans h.r⟩
theorem ahL_eq {l : List Nd} {of : List Int} {c : Nat} {ah : List (List Int)} (h1 : ah.length = c) (h2 : ∀ i (hi : i < ah.length), ah[i].length = c) (h3 : ∀ i k (hi : i < ah.length) (hk : k < ah[i].length), ah[i][k] = aheadN l of (i : Nat) (k : Nat)) : ah = aheadL l of c := by
  apply List.ext_getElem
  · rw [h1, aheadL_len]
  · intro i a b
    have e : (aheadL l of c)[i] = (List.range c).map fun (k : Nat) => aheadN l of (i : Int) (k : Int) := by simp [aheadL]
    rw [e]
    apply List.ext_getElem
    · rw [h2 i a]; simp
    · intro k d f
      rw [h3 i k a d]; simp
theorem aheadL_row {l : List Nd} {of : List Int} {c i : Nat} (hi : i < (aheadL l of c).length) : (aheadL l of c)[i].length = c := by simp [aheadL]
theorem aheadL_at {l : List Nd} {of : List Int} {c i k : Nat} (hi : i < (aheadL l of c).length) (hk : k < (aheadL l of c)[i].length) : (aheadL l of c)[i][k] = aheadN l of (i : Nat) (k : Nat) := by simp [aheadL]
set_option maxHeartbeats 8000000 in
theorem lMay_c (l : List Nd) (of : List Int) (ah : List (List Int)) (N : Int) (vN vT vO vA : Value) (pt : Int) (w : World) (hN : NdsAt w vN l) (hT : ∃ a b c, vT = .slice a b c) (hO : IntsAt w vO of) (hA : RowsAt w vA ah) (hk : OkD l) :
    Calls Try.prog 11 #[.agg #[vN, vT, .int .i64 pt], .agg #[vO, .int .i64 N, vA]] w fun e w' => RetB (PtsOk l of N ah) e ∧ Below w.heap.size w w' := by
  obtain ⟨ta, tn, tc, rfl⟩ := hT
  have HAh : Hid (∀ (W : World) (i k : Nat), Below w.heap.size w W → of.length = l.length → Calls Try.prog 25 #[.agg #[vN, .slice ta tn tc, .int .i64 pt], .agg #[vO, .int .i64 N, vA], .int .i64 (i : Int), .int .i64 (k : Int)] W fun e w' => e = .returned (.int .i64 (aheadN l of i k)) ∧ Below W.heap.size W w') := fun W i k hW hl => lAhead_c l of N i k vN _ vO vA pt W (hN.below hW) ⟨_, _, _, rfl⟩ (hO.below hW) (by obtain ⟨a, c, e, _⟩ := hA; exact ⟨_, _, _, e⟩) hk hl
  obtain ⟨na, nc, rfl, hnc, _⟩ := id hN
  obtain ⟨oa, oc, rfl, hoc, _⟩ := id hO
  obtain ⟨aa, ac, rfl, hac, _⟩ := id hA
  obtain ⟨n, hn⟩ : ∃ n, n = l.length := ⟨_, rfl⟩
  obtain ⟨m, hm⟩ : ∃ m, m = of.length := ⟨_, rfl⟩
  obtain ⟨am, ham⟩ : ∃ am, am = ah.length := ⟨_, rfl⟩
  rw [← hn, ← hm, ← ham] at HAh
  rw [← hn] at hN ⊢
  rw [← hm] at hO ⊢
  rw [← ham] at hA ⊢
  have hn4 : n ≤ 4096 := by rw [hn]; exact hk.ok.n
  have HN : Hid (NdsAt w (.slice na n nc) l) := hN
  have HO : Hid (IntsAt w (.slice oa m oc) of) := hO
  have HA : Hid (RowsAt w (.slice aa am ac) ah) := hA
  have HNL : Hid (n = l.length) := hn
  have HML : Hid (m = of.length) := hm
  have HAL : Hid (am = ah.length) := ham
  have HK : Hid (OkD l) := hk
  clear hN hO hA hnc hoc hac hn hm ham hk
  by_cases h1 : N < 1
  · have HNo : Hid (¬ PtsOk l of N ah) := fun h => by have := h.lo; omega
    go_enter Try.func11, Try.ntmps11
    go_wp2
    go_ret
    exact ⟨RetB.no HNo.out, belA (belA (Below.refl _ _) _) _⟩
  · have h1' : decide (N < 1) = false := by simp; omega
    by_cases h64 : 64 < N
    · have HNo : Hid (¬ PtsOk l of N ah) := fun h => by have := h.hi; omega
      go_enter Try.func11, Try.ntmps11
      go_wp2
      go_ret
      exact ⟨RetB.no HNo.out, belA (belA (Below.refl _ _) _) _⟩
    · have h64' : decide (64 < N) = false := by simp; omega
      obtain ⟨c, rfl⟩ : ∃ c : Nat, N = (c : Int) := ⟨N.toNat, by omega⟩
      have hc1 : 1 ≤ c := by omega
      have hc64 : c ≤ 64 := by omega
      clear h1 h64
      by_cases hmn : m = n
      · subst hmn
        have mm : ((m : Int) != (m : Int)) = false := by simp
        by_cases hamc : am = c
        · subst hamc
          have cc : ((am : Int) != (am : Int)) = false := by simp
          have hmk := mkBools2 am (by omega)
          go_enter Try.func11, Try.ntmps11
          go_wp2
          obtain ⟨T, hT⟩ : ∃ T, T = w.heap.size + 1 + 1 := ⟨_, rfl⟩
          have hTx : w.heap.size + 1 + 1 ≤ T := by omega
          have HQ0 : Hid ((((w.alloc (.cells #[.slice na m nc, .slice ta tn tc, .int .i64 pt] 26)).alloc (.cells #[.slice oa m oc, .int .i64 (am : Int), .slice aa am ac] 30)).alloc (.cells (madeCells #[.bool false] am) 4)).rowIs T 4 am (tF of 0)) := by
            have h := World.rowIs_made ((w.alloc (.cells #[.slice na m nc, .slice ta tn tc, .int .i64 pt] 26)).alloc (.cells #[.slice oa m oc, .int .i64 (am : Int), .slice aa am ac] 30)) (.bool false) am 4
            rw [World.size_alloc, World.size_alloc, ← hT] at h
            exact h.congr (fun q _ => by simp [tF])
          have HS0 : Hid (S2 w (.cells #[.slice na m nc, .slice ta tn tc, .int .i64 pt] 26 (0, 0)) (.cells #[.slice oa m oc, .int .i64 (am : Int), .slice aa am ac] 30 (0, 0)) (((w.alloc (.cells #[.slice na m nc, .slice ta tn tc, .int .i64 pt] 26)).alloc (.cells #[.slice oa m oc, .int .i64 (am : Int), .slice aa am ac] 30)).alloc (.cells (madeCells #[.bool false] am) 4))) := S2.alloc S2.start
          rw [← hT]
          clear hmk hT
          generalize ((w.alloc (.cells #[.slice na m nc, .slice ta tn tc, .int .i64 pt] 26)).alloc (.cells #[.slice oa m oc, .int .i64 (am : Int), .slice aa am ac] 30)).alloc (.cells (madeCells #[.bool false] am) 4) = W0 at HQ0 HS0 ⊢
          go_loopw [6] (fun s6 W => ∃ (i : Nat), i ≤ m ∧ s6 = .int .i64 i ∧ Hid (S2 w (.cells #[.slice na m nc, .slice ta tn tc, .int .i64 pt] 26 (0, 0)) (.cells #[.slice oa m oc, .int .i64 (am : Int), .slice aa am ac] 30 (0, 0)) W) ∧ Hid (W.rowIs T 4 am (tF of i)) ∧ Hid (∀ z ∈ of.take i, 0 ≤ z ∧ z < (am : Int))) (fun s6 W => m - (intOf s6).toNat)
          case atStart => exact ⟨0, Nat.zero_le _, rfl, HS0.out, HQ0.out, fun z hz => by simp at hz⟩
          case round =>
            clear HQ0 HS0
            obtain ⟨i, hi, rfl, HS, HQ, HR⟩ := hrel
            obtain ⟨p0, p1, p2⟩ := cells3n HS.out.x
            obtain ⟨q0, q1, q2⟩ := cells3n HS.out.r
            have lx := hLt HS.out.x
            have lr := hLt HS.out.r
            by_cases hlt : i < m
            · have hil : i < of.length := by rw [← HML.out]; exact hlt
              obtain ⟨gO, oO, cO, hgo⟩ := HO.out.some_ (by omega)
              injection hgo with f1 f2 f3
              subst f1
              obtain ⟨lO, ci⟩ := HO.out.cell i hil
              have HTK : Hid (of.take (i + 1) = of.take i ++ [of[i]]) := List.take_succ_eq_append_getElem hil
              have HMem : Hid (of[i] ∈ of) := List.getElem_mem hil
              have d1 : wr.cell? ⟨gO, oO + i, none⟩ = some (.int .i64 of[i]) := (HS.out.bel.cell (p := ⟨gO, oO + i, none⟩) lO).trans ci
              have lOw : gO < wr.heap.size := Nat.lt_of_lt_of_le lO HS.out.bel.size
              have i1 : (0 : Int) ≤ (i : Int) := by omega
              have i2 : (i : Int) < (m : Int) := by omega
              clear f2 f3 ci
              generalize of[i] = z at d1 HTK HMem
              by_cases hz0 : z < 0
              · have hz0' : decide (z < 0) = true := by simpa using hz0
                have HNo : Hid (¬ PtsOk l of (am : Int) ah) := fun h => by have := (h.r z HMem.out).1; omega
                go_wp2_with fail
                go_quiet (fail)
                go_wp2_with fail
                go_ret
                exact ⟨RetB.no HNo.out, belDN HS.out.bel nq⟩
              · have hz0' : decide (z < 0) = false := by simp; omega
                by_cases hzc : (am : Int) ≤ z
                · have hzc' : decide ((am : Int) ≤ z) = true := by simpa using hzc
                  have HNo : Hid (¬ PtsOk l of (am : Int) ah) := fun h => by have := (h.r z HMem.out).2; omega
                  go_wp2_with fail
                  go_quiet (fail)
                  go_wp2_with fail
                  go_ret
                  exact ⟨RetB.no HNo.out, belDN HS.out.bel nq⟩
                · obtain ⟨q, rfl⟩ : ∃ q : Nat, z = (q : Int) := ⟨z.toNat, by omega⟩
                  have hqc : q < am := by omega
                  have q1' : (0 : Int) ≤ (q : Int) := by omega
                  have q2' : (q : Int) < (am : Int) := by omega
                  have hz1 : decide ((q : Int) < 0) = false := by simp
                  have hz2 : decide ((am : Int) ≤ (q : Int)) = false := by simp; omega
                  have hz3 : ¬ am ≤ q := by omega
                  have y0 := HQ.out.cell hqc
                  have yf := HQ.out.frozen q
                  have hTl := HQ.out.lt
                  clear hz0 hzc hz0'
                  go_wp2_with fail
                  go_quiet (fail)
                  go_wp2_with fail
                  go_roundw
                  case rel =>
                    refine ⟨i + 1, hlt, by go_num, S2.set (S2.drewN HS.out nq) hTx, World.rowIs.congr (World.rowIs.set (World.rowIs.of_block (w' := wr.drewN nq) HQ.out rfl) q (.bool true)) (fun y _ => ?_), fun y hy => ?_⟩
                    · unfold tF
                      rw [HTK.out]
                      split
                      · rename_i e; subst e; simp
                      · rename_i e
                        congr 1
                        rw [decide_eq_decide, List.mem_append, List.mem_singleton]
                        exact ⟨Or.inl, fun h => h.elim id (fun h2 => absurd (by omega) e)⟩
                    · rw [HTK.out, List.mem_append, List.mem_singleton] at hy
                      rcases hy with hy | hy
                      · exact HR.out y hy
                      · rw [hy]; exact ⟨q1', q2'⟩
                  case measure => simp [intOf]; omega
            · obtain rfl : m = i := by omega
              have HTm : Hid (of.take m = of) := List.take_of_length_le (by rw [HML.out]; exact Nat.le_refl _)
              have HRr : Hid (∀ z ∈ of, 0 ≤ z ∧ z < (am : Int)) := by have h := HR.out; rw [HTm.out] at h; exact h
              -- REST
              have HQ2 : Hid (wr.rowIs T 4 am (fun q => .bool (decide ((q : Int) ∈ of)))) := HQ.out.congr (fun q _ => by unfold tF; rw [HTm.out])
              have HS2 : Hid (S2 w (.cells #[.slice na m nc, .slice ta tn tc, .int .i64 pt] 26 (0, 0)) (.cells #[.slice oa m oc, .int .i64 (am : Int), .slice aa am ac] 30 (0, 0)) wr) := HS.out
              go_wp2
              clear HR hi hlt HQ HS p0 p1 p2 q0 q1 q2 lx lr HTm
              go_loopw [7] (fun s7 W => ∃ (i : Nat), i ≤ am ∧ s7 = .int .i64 i ∧ Hid (S2 w (.cells #[.slice na m nc, .slice ta tn tc, .int .i64 pt] 26 (0, 0)) (.cells #[.slice oa m oc, .int .i64 (am : Int), .slice aa am ac] 30 (0, 0)) W) ∧ Hid (W.rowIs T 4 am (fun q => .bool (decide ((q : Int) ∈ of)))) ∧ Hid (∀ q : Nat, q < i → (q : Int) ∈ of) ∧ Hid (∀ q (hq : q < ah.length), q < i → ah[q].length = am)) (fun s7 W => am - (intOf s7).toNat)
              case atStart => exact ⟨0, Nat.zero_le _, rfl, HS2.out, HQ2.out, fun q hq => absurd hq (Nat.not_lt_zero _), fun q _ hq => absurd hq (Nat.not_lt_zero _)⟩
              case round =>
                clear HQ2 HS2
                obtain ⟨i, hi, rfl, HS, HQ, HU, HL⟩ := hrel
                obtain ⟨p0, p1, p2⟩ := cells3n HS.out.x
                obtain ⟨q0, q1, q2⟩ := cells3n HS.out.r
                have lx := hLt HS.out.x
                have lr := hLt HS.out.r
                by_cases hlt : i < am
                · have hia : i < ah.length := by rw [← HAL.out]; exact hlt
                  obtain ⟨gA, oA, vi, rfl, lA, cA, Ii⟩ := HA.out.at_ i hia
                  obtain ⟨ia, ic, rfl, _, _⟩ := id Ii
                  obtain ⟨il, hil⟩ : ∃ il, il = ah[i].length := ⟨_, rfl⟩
                  have HIl : Hid (il = ah[i].length) := hil
                  rw [← hil] at cA
                  have dA : wr.cell? ⟨gA, oA + i, none⟩ = some (.slice ia il ic) := (HS.out.bel.cell (p := ⟨gA, oA + i, none⟩) lA).trans cA
                  have lAw : gA < wr.heap.size := Nat.lt_of_lt_of_le lA HS.out.bel.size
                  have y0 := HQ.out.cell hlt
                  have lT := HQ.out.lt
                  have i1 : (0 : Int) ≤ (i : Int) := by omega
                  have i2 : (i : Int) < (am : Int) := by omega
                  clear hil cA Ii
                  by_cases hu : (i : Int) ∈ of
                  · rw [decide_eq_true hu] at y0
                    have HUi : Hid ((i : Int) ∈ of) := hu
                    clear hu
                    by_cases hl2 : il = am
                    · subst hl2
                      have ll : ((il : Int) != (il : Int)) = false := by simp
                      go_wp2_with fail
                      go_quiet (fail)
                      go_wp2_with fail
                      go_roundw
                      case rel =>
                        refine ⟨i + 1, hlt, by go_num, S2.drewN HS.out nq, World.rowIs.of_block (w' := wr.drewN nq) HQ.out rfl, fun q hq => ?_, fun q hq hq2 => ?_⟩
                        · rcases Nat.lt_succ_iff_lt_or_eq.1 hq with h | h
                          · exact HU.out q h
                          · rw [h]; exact HUi.out
                        · rcases Nat.lt_succ_iff_lt_or_eq.1 hq2 with h | h
                          · exact HL.out q hq h
                          · subst h; exact HIl.out.symm
                      case measure => simp [intOf]; omega
                    · have ll : ((il : Int) != (am : Int)) = true := by simp; omega
                      have HNo : Hid (¬ PtsOk l of (am : Int) ah) := fun h => by
                        have e := h.a
                        rw [Int.toNat_natCast] at e
                        subst e
                        exact hl2 (by rw [HIl.out]; exact aheadL_row _)
                      clear hl2
                      go_wp2_with fail
                      go_quiet (fail)
                      go_wp2_with fail
                      go_ret
                      exact ⟨RetB.no HNo.out, belDN HS.out.bel nq⟩
                  · rw [decide_eq_false hu] at y0
                    have HNo : Hid (¬ PtsOk l of (am : Int) ah) := fun h => hu (h.u (i : Int) i1 i2)
                    clear hu
                    go_wp2_with fail
                    go_quiet (fail)
                    go_wp2_with fail
                    go_ret
                    exact ⟨RetB.no HNo.out, belDN HS.out.bel nq⟩
                · obtain rfl : am = i := by omega
                  have HUu : Hid (∀ q : Nat, q < am → (q : Int) ∈ of) := HU.out
                  have HLl : Hid (∀ q (hq : q < ah.length), ah[q].length = am) := fun q hq => HL.out q hq (by rw [HAL.out]; exact hq)
                  have HS2 : Hid (S2 w (.cells #[.slice na m nc, .slice ta tn tc, .int .i64 pt] 26 (0, 0)) (.cells #[.slice oa m oc, .int .i64 (am : Int), .slice aa am ac] 30 (0, 0)) wr) := HS.out
                  go_wp2
                  clear HU HL HQ HS p0 p1 p2 q0 q1 q2 lx lr hi hlt
                  go_loopw [8] (fun s8 W => ∃ (i : Nat), i ≤ am ∧ s8 = .int .i64 i ∧ Hid (S2 w (.cells #[.slice na m nc, .slice ta tn tc, .int .i64 pt] 26 (0, 0)) (.cells #[.slice oa m oc, .int .i64 (am : Int), .slice aa am ac] 30 (0, 0)) W) ∧ Hid (∀ q k (hq : q < ah.length) (hk : k < ah[q].length), q < i → ah[q][k] = aheadN l of (q : Nat) (k : Nat))) (fun s8 W => am - (intOf s8).toNat)
                  case atStart => exact ⟨0, Nat.zero_le _, rfl, HS2.out, fun q k _ _ hq => absurd hq (Nat.not_lt_zero _)⟩
                  case round =>
                    clear HS2
                    obtain ⟨i, hi, rfl, HS, HE⟩ := hrel
                    obtain ⟨p0, p1, p2⟩ := cells3n HS.out.x
                    obtain ⟨q0, q1, q2⟩ := cells3n HS.out.r
                    have lx := hLt HS.out.x
                    have lr := hLt HS.out.r
                    by_cases hlt : i < am
                    · have hia : i < ah.length := by rw [← HAL.out]; exact hlt
                      obtain ⟨gA, oA, vi, rfl, lA, cA, Ii⟩ := HA.out.at_ i hia
                      obtain ⟨ia, ic, rfl, _, _⟩ := id Ii
                      have HIl : Hid (ah[i].length = am) := HLl.out i hia
                      rw [HLl.out i hia] at cA Ii
                      have HII : Hid (IntsAt w (.slice ia am ic) ah[i]) := Ii
                      have HS2 : Hid (S2 w (.cells #[.slice na m nc, .slice ta tn tc, .int .i64 pt] 26 (0, 0)) (.cells #[.slice oa m oc, .int .i64 (am : Int), .slice (some ⟨gA, oA, none⟩) am ac] 30 (0, 0)) wr) := HS.out
                      have i1 : (0 : Int) ≤ (i : Int) := by omega
                      have i2 : (i : Int) < (am : Int) := by omega
                      clear Ii HS
                      go_wp2
                      go_loopw [9] (fun s9 W => ∃ (kk : Nat), kk ≤ am ∧ s9 = .int .i64 kk ∧ Hid (S2 w (.cells #[.slice na m nc, .slice ta tn tc, .int .i64 pt] 26 (0, 0)) (.cells #[.slice oa m oc, .int .i64 (am : Int), .slice (some ⟨gA, oA, none⟩) am ac] 30 (0, 0)) W) ∧ Hid (∀ k (hk : k < ah[i].length), k < kk → ah[i][k] = aheadN l of (i : Nat) (k : Nat))) (fun s9 W => am - (intOf s9).toNat)
                      case atStart => exact ⟨0, Nat.zero_le _, rfl, HS2.out, fun k _ hk => absurd hk (Nat.not_lt_zero _)⟩
                      case round =>
                        clear HS2 p0 p1 p2 q0 q1 q2 lx lr
                        obtain ⟨kk, hkk, rfl, HS, HE2⟩ := hrel
                        obtain ⟨p0, p1, p2⟩ := cells3n HS.out.x
                        obtain ⟨q0, q1, q2⟩ := cells3n HS.out.r
                        have lx := hLt HS.out.x
                        have lr := hLt HS.out.r
                        by_cases hlk : kk < am
                        · have hkl : kk < ah[i].length := by rw [HIl.out]; exact hlk
                          obtain ⟨gi, oi, ci, hgi⟩ := HII.out.some_ (by omega)
                          injection hgi with e1 e2 e3
                          subst e1
                          obtain ⟨li, ck⟩ := HII.out.cell kk hkl
                          have dA : wr.cell? ⟨gA, oA + i, none⟩ = some (.slice (some ⟨gi, oi, none⟩) am ic) := (HS.out.bel.cell (p := ⟨gA, oA + i, none⟩) lA).trans cA
                          have lAw : gA < wr.heap.size := Nat.lt_of_lt_of_le lA HS.out.bel.size
                          have dk : wr.cell? ⟨gi, oi + kk, none⟩ = some (.int .i64 ah[i][kk]) := (HS.out.bel.cell (p := ⟨gi, oi + kk, none⟩) li).trans ck
                          have liw : gi < wr.heap.size := Nat.lt_of_lt_of_le li HS.out.bel.size
                          have HC : Hid (∀ W, Below w.heap.size w W → Calls Try.prog 25 #[.agg #[.slice na m nc, .slice ta tn tc, .int .i64 pt], .agg #[.slice oa m oc, .int .i64 (am : Int), .slice (some ⟨gA, oA, none⟩) am ac], .int .i64 (i : Int), .int .i64 (kk : Int)] W fun e w' => e = .returned (.int .i64 (aheadN l of i kk)) ∧ Below W.heap.size W w') := fun W hW => HAh.out W i kk hW (by trivial)
                          have HEk : Hid (ah[i][kk] = aheadN l of i kk → ∀ k (hk : k < ah[i].length), k < kk + 1 → ah[i][k] = aheadN l of (i : Nat) (k : Nat)) := fun e k hk hk2 => by
                            rcases Nat.lt_succ_iff_lt_or_eq.1 hk2 with h | h
                            · exact HE2.out k hk h
                            · subst h; exact e
                          have HNk : Hid (ah[i][kk] ≠ aheadN l of i kk → ¬ PtsOk l of (am : Int) ah) := fun hne h => by
                            have e := h.a
                            rw [Int.toNat_natCast] at e
                            apply hne
                            have h9 := aheadL_at (l := l) (of := of) (c := am) (i := i) (k := kk) (by rw [aheadL_len]; exact hlt) (by rw [aheadL_row]; exact hlk)
                            simp only [← e] at h9
                            exact h9
                          have HB0 : Hid (Below w.heap.size w wr) := HS.out.bel
                          have k1 : (0 : Int) ≤ (kk : Int) := by omega
                          have k2 : (kk : Int) < (am : Int) := by omega
                          clear e2 e3 ck
                          generalize ah[i][kk] = y at dk HEk HNk
                          generalize aheadN l of i kk = a0 at HC HEk HNk
                          by_cases hya : y = a0
                          · have yy : (y != a0) = false := by simpa using hya
                            have HYA : Hid (y = a0) := hya
                            clear hya
                            go_wp2_with fail
                            go_region_held (fun w' => w'.cell? ⟨w.heap.size, 0, none⟩ = some (.slice na m nc) ∧ w'.cell? ⟨w.heap.size, 1, none⟩ = some (.slice ta tn tc) ∧ w'.cell? ⟨w.heap.size, 2, none⟩ = some (.int .i64 pt) ∧ w'.cell? ⟨w.heap.size + 1, 0, none⟩ = some (.slice oa m oc) ∧ w'.cell? ⟨w.heap.size + 1, 1, none⟩ = some (.int .i64 (am : Int)) ∧ w'.cell? ⟨w.heap.size + 1, 2, none⟩ = some (.slice (some ⟨gA, oA, none⟩) am ac) ∧ w'.cell? ⟨gA, oA + i, none⟩ = some (.slice (some ⟨gi, oi, none⟩) am ic) ∧ w'.cell? ⟨gi, oi + kk, none⟩ = some (.int .i64 y)) (first | go_keep | (refine ⟨?_, ?_, ?_, ?_, ?_, ?_, ?_, ?_⟩ <;> (first | exact (hb5.cell (p := ⟨w.heap.size, _, none⟩) lx).trans (by assumption) | exact (hb5.cell (p := ⟨w.heap.size + 1, _, none⟩) lr).trans (by assumption) | exact (hb5.cell (p := ⟨gA, _, none⟩) lAw).trans dA | exact (hb5.cell (p := ⟨gi, _, none⟩) liw).trans dk)))
                              (first | (go_at_call 25; refine (HC.out _ (bel HB0.out (Below.refl _ _).drew)).mono ?_; rintro e w5 ⟨rfl, hb5⟩))
                            go_wp2_with fail
                            go_roundw
                            case rel => exact ⟨kk + 1, hlk, by go_num, S2.below HS.out (bel (Below.refl _ _).drew hb5), HEk.out HYA.out⟩
                            case measure => simp [intOf]; omega
                          · have yy : (y != a0) = true := by simpa using hya
                            have HYA : Hid (y ≠ a0) := hya
                            clear hya
                            go_wp2_with fail
                            go_region_held (fun w' => w'.cell? ⟨w.heap.size, 0, none⟩ = some (.slice na m nc) ∧ w'.cell? ⟨w.heap.size, 1, none⟩ = some (.slice ta tn tc) ∧ w'.cell? ⟨w.heap.size, 2, none⟩ = some (.int .i64 pt) ∧ w'.cell? ⟨w.heap.size + 1, 0, none⟩ = some (.slice oa m oc) ∧ w'.cell? ⟨w.heap.size + 1, 1, none⟩ = some (.int .i64 (am : Int)) ∧ w'.cell? ⟨w.heap.size + 1, 2, none⟩ = some (.slice (some ⟨gA, oA, none⟩) am ac) ∧ w'.cell? ⟨gA, oA + i, none⟩ = some (.slice (some ⟨gi, oi, none⟩) am ic) ∧ w'.cell? ⟨gi, oi + kk, none⟩ = some (.int .i64 y)) (first | go_keep | (refine ⟨?_, ?_, ?_, ?_, ?_, ?_, ?_, ?_⟩ <;> (first | exact (hb5.cell (p := ⟨w.heap.size, _, none⟩) lx).trans (by assumption) | exact (hb5.cell (p := ⟨w.heap.size + 1, _, none⟩) lr).trans (by assumption) | exact (hb5.cell (p := ⟨gA, _, none⟩) lAw).trans dA | exact (hb5.cell (p := ⟨gi, _, none⟩) liw).trans dk)))
                              (first | (go_at_call 25; refine (HC.out _ (bel HB0.out (Below.refl _ _).drew)).mono ?_; rintro e w5 ⟨rfl, hb5⟩))
                            go_wp2_with fail
                            go_ret
                            exact ⟨RetB.no (HNk.out HYA.out), bel HB0.out (bel (Below.refl _ _).drew hb5)⟩
                        · obtain rfl : am = kk := by omega
                          go_wp2
                          go_roundw
                          case rel =>
                            refine ⟨i + 1, hlt, by go_num, HS.out, fun q k hq hk hq2 => ?_⟩
                            rcases Nat.lt_succ_iff_lt_or_eq.1 hq2 with h | h
                            · exact HE.out q k hq hk h
                            · subst h; exact HE2.out k hk (by rw [← HIl.out]; exact hk)
                          case measure => simp [intOf]; omega
                    · obtain rfl : am = i := by omega
                      have HEe : Hid (ah = aheadL l of am) := ahL_eq HAL.out.symm HLl.out (fun q k hq hk => HE.out q k hq hk (by rw [HAL.out]; exact hq))
                      have HS2 : Hid (S2 w (.cells #[.slice na m nc, .slice ta tn tc, .int .i64 pt] 26 (0, 0)) (.cells #[.slice oa m oc, .int .i64 (am : Int), .slice aa am ac] 30 (0, 0)) wr) := HS.out
                      go_wp2
                      clear HE HS p0 p1 p2 q0 q1 q2 lx lr hi hlt
                      go_loopw [10] (fun s10 W => ∃ (j : Nat), j ≤ m ∧ s10 = .int .i64 j ∧ Hid (S2 w (.cells #[.slice na m nc, .slice ta tn tc, .int .i64 pt] 26 (0, 0)) (.cells #[.slice oa m oc, .int .i64 (am : Int), .slice aa am ac] 30 (0, 0)) W) ∧ Hid (TogTo l of j)) (fun s10 W => m - (intOf s10).toNat)
                      case atStart => exact ⟨0, Nat.zero_le _, rfl, HS2.out, fun j hj => absurd hj (Nat.not_lt_zero _)⟩
                      case round =>
                        clear HS2
                        obtain ⟨j, hj, rfl, HS, HT⟩ := hrel
                        obtain ⟨p0, p1, p2⟩ := cells3n HS.out.x
                        obtain ⟨q0, q1, q2⟩ := cells3n HS.out.r
                        have lx := hLt HS.out.x
                        have lr := hLt HS.out.r
                        by_cases hlt : j < m
                        · have hil : j < l.length := by rw [← HNL.out]; exact hlt
                          have hio : j < of.length := by rw [← HML.out]; exact hlt
                          obtain ⟨gN, oN, cN, hg⟩ := HN.out.some_ (by omega)
                          injection hg with e1 e2 e3
                          subst e1
                          obtain ⟨gO, oO, cO, hgo⟩ := HO.out.some_ (by omega)
                          injection hgo with f1 f2 f3
                          subst f1
                          obtain ⟨lO, ci⟩ := HO.out.cell j hio
                          obtain ⟨gl, ia, ic, hI, c0, c1, c2, c3, c4, c5, c6, c7⟩ := HN.out.at_ j hil
                          have d0 := (HS.out.bel.cell (p := ⟨gN, oN + j * 8, none⟩) gl).trans c0
                          have d1 := (HS.out.bel.cell (p := ⟨gN, oN + j * 8 + 1, none⟩) gl).trans c1
                          have d2 := (HS.out.bel.cell (p := ⟨gN, oN + j * 8 + 2, none⟩) gl).trans c2
                          have d3 := (HS.out.bel.cell (p := ⟨gN, oN + j * 8 + 3, none⟩) gl).trans c3
                          have d4 := (HS.out.bel.cell (p := ⟨gN, oN + j * 8 + 4, none⟩) gl).trans c4
                          have d5 := (HS.out.bel.cell (p := ⟨gN, oN + j * 8 + 5, none⟩) gl).trans c5
                          have d6 := (HS.out.bel.cell (p := ⟨gN, oN + j * 8 + 6, none⟩) gl).trans c6
                          have d7 := (HS.out.bel.cell (p := ⟨gN, oN + j * 8 + 7, none⟩) gl).trans c7
                          have glw : gN < wr.heap.size := Nat.lt_of_lt_of_le gl HS.out.bel.size
                          have hmem := List.getElem_mem hil
                          have hin := HK.out.ok.i _ hmem
                          have hq := HK.out.ok.q _ hmem
                          have hde := HK.out.d _ hmem
                          have HX : Hid (ndAt l j = l[j]) := ndAt_eq hil
                          have HIn : Hid (l[j].ins.all (inB m) = true) := by rw [HNL.out]; exact hin
                          have HOi : Hid (ofAt of (j : Nat) = of[j]) := ofAt_nat hio
                          have j1 : (0 : Int) ≤ (j : Int) := by omega
                          have j2 : (j : Int) < (m : Int) := by omega
                          clear hin hmem e2 e3 f2 f3 c0 c1 c2 c3 c4 c5 c6 c7
                          generalize l[j] = x at d0 d1 d2 d3 d4 d5 d6 d7 hI hq HX HIn hde
                          obtain ⟨xk, xop, wd, ins, vl, hi', lo, tm⟩ := x
                          simp only at d0 d1 d2 d3 d4 d5 d6 d7 hI hq HIn hde
                          have HI : Hid (IntsAt w (.slice ia ins.length ic) ins) := hI
                          obtain ⟨mi, hm⟩ : ∃ mi, mi = ins.length := ⟨_, rfl⟩
                          rw [← hm] at d3 hq HI hI hde
                          have HMI : Hid (mi = ins.length) := hm
                          generalize hoi : of[j] = oi at ci HOi
                          clear hI hm hoi
                          go_wp2
                          obtain ⟨nb, hnb⟩ : ∃ nb, nb = wr.heap.size := ⟨_, rfl⟩
                          have HSA : Hid (S2 w (.cells #[.slice (some ⟨gN, oN, none⟩) m nc, .slice ta tn tc, .int .i64 pt] 26 (0, 0)) (.cells #[.slice (some ⟨gO, oO, none⟩) m oc, .int .i64 (am : Int), .slice aa am ac] 30 (0, 0)) (wr.alloc (.cells #[.int .i64 xk, .int .i64 xop, .int .i64 wd, .slice ia mi ic, .string (S vl), .int .i64 hi', .int .i64 lo, .int .i64 tm] 47))) := S2.alloc HS.out
                          have HNb : Hid ((wr.alloc (.cells #[.int .i64 xk, .int .i64 xop, .int .i64 wd, .slice ia mi ic, .string (S vl), .int .i64 hi', .int .i64 lo, .int .i64 tm] 47)).heap[nb]? = some (.cells #[.int .i64 xk, .int .i64 xop, .int .i64 wd, .slice ia mi ic, .string (S vl), .int .i64 hi', .int .i64 lo, .int .i64 tm] 47 (0, 0))) := alAt hnb.symm
                          rw [← hnb]
                          generalize wr.alloc (.cells #[.int .i64 xk, .int .i64 xop, .int .i64 wd, .slice ia mi ic, .string (S vl), .int .i64 hi', .int .i64 lo, .int .i64 tm] 47) = WA at HSA HNb ⊢
                          clear hnb d0 d1 d2 d3 d4 d5 d6 d7 gl glw HS p0 p1 p2 q0 q1 q2 lx lr
                          by_cases h8 : xk = 8
                          · subst h8
                            have hmi := hde rfl
                            subst hmi
                            have kk8 : ((8 : Int) != 8) = false := by simp
                            go_loopw [12] (fun s12 W => s12 = .int .i64 0 ∧ Hid (S2 w (.cells #[.slice (some ⟨gN, oN, none⟩) m nc, .slice ta tn tc, .int .i64 pt] 26 (0, 0)) (.cells #[.slice (some ⟨gO, oO, none⟩) m oc, .int .i64 (am : Int), .slice aa am ac] 30 (0, 0)) W) ∧ Hid (W.heap[nb]? = some (.cells #[.int .i64 8, .int .i64 xop, .int .i64 wd, .slice ia 1 ic, .string (S vl), .int .i64 hi', .int .i64 lo, .int .i64 tm] 47 (0, 0)))) (fun s12 W => 0)
                            case atStart => exact ⟨rfl, HSA.out, HNb.out⟩
                            case round =>
                              clear HSA HNb
                              obtain ⟨rfl, HS, HNb⟩ := hrel
                              obtain ⟨b0, b1, b2, b3, b4, b5, b6, b7⟩ := cells8 HNb.out
                              have lb := hLt HNb.out
                              go_wp2
                              go_roundw
                              case rel =>
                                refine ⟨j + 1, hlt, by go_num, HS.out, fun y hy hne => ?_⟩
                                rcases Nat.lt_succ_iff_lt_or_eq.1 hy with h | h
                                · exact HT.out y h hne
                                · subst h; rw [HX.out] at hne; exact absurd rfl hne
                              case measure => simp [intOf]; omega
                          · have k8 : (xk != 8) = true := by simpa using h8
                            have HX8 : Hid (xk ≠ 8) := h8
                            clear h8 hde
                            go_loopw [12] (fun s12 W => ∃ (kk : Nat), kk ≤ mi ∧ s12 = .int .i64 kk ∧ Hid (S2 w (.cells #[.slice (some ⟨gN, oN, none⟩) m nc, .slice ta tn tc, .int .i64 pt] 26 (0, 0)) (.cells #[.slice (some ⟨gO, oO, none⟩) m oc, .int .i64 (am : Int), .slice aa am ac] 30 (0, 0)) W) ∧ Hid (W.heap[nb]? = some (.cells #[.int .i64 xk, .int .i64 xop, .int .i64 wd, .slice ia mi ic, .string (S vl), .int .i64 hi', .int .i64 lo, .int .i64 tm] 47 (0, 0))) ∧ Hid (∀ z ∈ ins.take kk, ofAt of z = oi)) (fun s12 W => mi - (intOf s12).toNat)
                            case atStart => exact ⟨0, Nat.zero_le _, rfl, HSA.out, HNb.out, fun z hz => by simp at hz⟩
                            case round =>
                              clear HSA HNb
                              obtain ⟨kk, hkk, rfl, HS, HNb, HZ'⟩ := hrel
                              obtain ⟨b0, b1, b2, b3, b4, b5, b6, b7⟩ := cells8 HNb.out
                              have lb := hLt HNb.out
                              obtain ⟨q0, q1, q2⟩ := cells3n HS.out.r
                              have lr := hLt HS.out.r
                              by_cases hlk : kk < mi
                              · have hkl : kk < ins.length := by rw [← HMI.out]; exact hlk
                                obtain ⟨g2, o2, cap2, hg2⟩ := HI.out.some_ (by omega)
                                injection hg2 with e4 e5 e6
                                subst e4
                                obtain ⟨gl3, gd3⟩ := HI.out.cell kk hkl
                                have hzi := List.all_eq_true.1 HIn.out _ (List.getElem_mem hkl)
                                simp [inB] at hzi
                                obtain ⟨z, hz⟩ : ∃ z : Nat, ins[kk] = (z : Int) := ⟨ins[kk].toNat, by omega⟩
                                have HTK : Hid (ins.take (kk + 1) = ins.take kk ++ [(z : Int)]) := by show ins.take (kk + 1) = ins.take kk ++ [(z : Int)]; rw [List.take_succ_eq_append_getElem hkl, hz]
                                have HZM : Hid ((z : Int) ∈ ins) := by show (z : Int) ∈ ins; rw [← hz]; exact List.getElem_mem hkl
                                rw [hz] at gd3 hzi
                                have hzn : z < of.length := by rw [← HML.out]; omega
                                obtain ⟨_, cz⟩ := HO.out.cell z hzn
                                have HOz : Hid (ofAt of (z : Nat) = of[z]) := ofAt_nat hzn
                                generalize hoz : of[z] = oz at cz HOz
                                have f1 : wr.cell? ⟨g2, o2 + kk, none⟩ = some (.int .i64 (z : Int)) := (HS.out.bel.cell (p := ⟨g2, o2 + kk, none⟩) gl3).trans gd3
                                have f2 : wr.cell? ⟨gO, oO + z, none⟩ = some (.int .i64 oz) := (HS.out.bel.cell (p := ⟨gO, oO + z, none⟩) lO).trans cz
                                have f3 : wr.cell? ⟨gO, oO + j, none⟩ = some (.int .i64 oi) := (HS.out.bel.cell (p := ⟨gO, oO + j, none⟩) lO).trans ci
                                have k1 : (0 : Int) ≤ (kk : Int) := by omega
                                have k2 : (kk : Int) < (mi : Int) := by omega
                                have z1 : (0 : Int) ≤ (z : Int) := by omega
                                have z2 : (z : Int) < (m : Int) := by omega
                                clear e5 e6 gd3 hz hzi hoz cz
                                by_cases hoo : oz = oi
                                · subst hoo
                                  have yy : (oz != oz) = false := by simp
                                  go_wp2_with fail
                                  go_quiet (fail)
                                  go_wp2_with fail
                                  go_roundw
                                  case rel =>
                                    refine ⟨kk + 1, hlk, by go_num, S2.drewN HS.out nq, HNb.out, fun y hy => ?_⟩
                                    rw [HTK.out, List.mem_append, List.mem_singleton] at hy
                                    rcases hy with hy | hy
                                    · exact HZ'.out y hy
                                    · rw [hy]; exact HOz.out
                                  case measure => simp [intOf]; omega
                                · have yy : (oz != oi) = true := by simpa using hoo
                                  have HNo : Hid (¬ PtsOk l of (am : Int) ah) := fun ht => by
                                    have h := ht.t j hil (by rw [HX.out]; exact HX8.out) (z : Int) (by rw [HX.out]; exact HZM.out)
                                    rw [HOz.out, HOi.out] at h
                                    exact hoo h
                                  clear hoo
                                  go_wp2_with fail
                                  go_quiet (fail)
                                  go_wp2_with fail
                                  go_ret
                                  exact ⟨RetB.no HNo.out, belDN HS.out.bel nq⟩
                              · obtain rfl : mi = kk := by omega
                                go_wp2
                                go_roundw
                                case rel =>
                                  refine ⟨j + 1, hlt, by go_num, HS.out, fun y hy hne z hz => ?_⟩
                                  rcases Nat.lt_succ_iff_lt_or_eq.1 hy with h | h
                                  · exact HT.out y h hne z hz
                                  · subst h; rw [HX.out] at hz
                                    rw [HOi.out]
                                    exact HZ'.out z (by rw [List.take_of_length_le (by rw [HMI.out]; exact Nat.le_refl _)]; exact hz)
                                case measure => simp [intOf]; omega
                        · obtain rfl : m = j := by omega
                          go_wp2
                          go_ret
                          refine ⟨RetB.yes ⟨by omega, by omega, by rw [← HML.out, ← HNL.out], HRr.out, fun k k0 kc => ?_, fun y hy => HT.out y (by rw [HNL.out]; exact hy), by rw [Int.toNat_natCast]; exact HEe.out⟩, HS.out.bel⟩
                          obtain ⟨q, rfl⟩ : ∃ q : Nat, k = (q : Int) := ⟨k.toNat, by omega⟩
                          exact HUu.out q (by omega)
        · have cc : ((am : Int) != (c : Int)) = true := by simp; omega
          have HNo : Hid (¬ PtsOk l of (c : Int) ah) := fun h => hamc (by
            have e := h.a
            rw [Int.toNat_natCast] at e
            rw [HAL.out, e, aheadL_len])
          clear hamc
          go_enter Try.func11, Try.ntmps11
          go_wp2
          go_ret
          exact ⟨RetB.no HNo.out, belA (belA (Below.refl _ _) _) _⟩
      · have mm : ((m : Int) != (n : Int)) = true := by simp; omega
        have HNo : Hid (¬ PtsOk l of (c : Int) ah) := fun h => hmn (by rw [HML.out, HNL.out]; exact h.n)
        clear hmn
        go_enter Try.func11, Try.ntmps11
        go_wp2
        go_ret
        exact ⟨RetB.no HNo.out, belA (belA (Below.refl _ _) _) _⟩
end Go.Proofs.Ytkgonnnpoldcoaa
