/- The program's portsMayBe: each net is a node, each input just one net's. -/
import Derived.Test.YtpdcmehjndhcjaaKF
namespace Go.Proofs.Ytpdcmehjndhcjaa
open Go.RowKit Lg Nl Go.Maps
set_option linter.unusedVariables false
set_option linter.unusedSimpArgs false

theorem port_net {l : List Nd} {nets : List Int} {i : Nat} (hi : i < nets.length) (h : inB l.length nets[i] = false) : portB l nets = false := by
  have : nets.all (inB l.length) = false := by rw [List.all_eq_false]; exact ⟨nets[i], List.getElem_mem hi, by simp [h]⟩
  unfold portB; rw [this]; simp
theorem port_in {l : List Nd} {nets : List Int} {i : Nat} (hi : i < l.length) (hk : l[i].k = 2) (h : cnt nets i ≠ 1) : portB l nets = false := by
  have : ((List.range l.length).all fun i => !decide ((ndAt l i).k = 2) || decide (cnt nets i = 1)) = false := by
    rw [List.all_eq_false]; exact ⟨i, List.mem_range.2 hi, by rw [ndAt_eq hi]; simp [hk, h]⟩
  unfold portB; rw [this]; simp
theorem port_yes {l : List Nd} {nets : List Int} (h2 : nets.all (inB l.length) = true) (h3 : ∀ i (hi : i < l.length), l[i].k = 2 → cnt nets i = 1) : portB l nets = true := by
  have b : ((List.range l.length).all fun i => !decide ((ndAt l i).k = 2) || decide (cnt nets i = 1)) = true := by
    rw [List.all_eq_true]; intro i hi; have hi' := List.mem_range.1 hi; rw [ndAt_eq hi']
    by_cases hk : l[i].k = 2
    · simp [hk, h3 i hi' hk]
    · simp [hk]
  unfold portB; rw [h2, b]; rfl
set_option maxRecDepth 100000 in
set_option maxHeartbeats 4000000 in
theorem kPorts_c (l : List Nd) (nets : List Int) (vN vT : Value) (pt : Int) (w : World) (hN : NdsAt w vN l) (hT : IntsAt w vT nets) (hf : Fits l nets) (hl4 : l.length ≤ 4096) :
    Calls Try.prog 28 #[.agg #[vN, vT, .int .i64 pt]] w fun e w' => e = .returned (.bool (portB l nets)) ∧ Below w.heap.size w w' := by
  obtain ⟨na, nc, rfl, hnc, hN'⟩ := id hN
  obtain ⟨ta, tc, rfl, htc, hT'⟩ := id hT
  obtain ⟨i, hn⟩ : ∃ i, i = l.length := ⟨_, rfl⟩
  obtain ⟨m, hm⟩ : ∃ m, m = nets.length := ⟨_, rfl⟩
  rw [← hn] at hN hnc hl4 ⊢
  rw [← hm] at hT htc ⊢
  have mb : m ≤ 17592186044416 := by rw [hm]; exact hf.t
  have HN : Hid (NdsAt w (.slice na i nc) l) := hN
  have HT : Hid (IntsAt w (.slice ta m tc) nets) := hT
  have HF : Hid (Fits l nets) := hf
  have HNL : Hid (i = l.length) := hn
  have HML : Hid (m = nets.length) := hm
  obtain ⟨R, hR⟩ : ∃ R, R = portB l nets := ⟨_, rfl⟩
  rw [← hR]
  have HR : Hid (R = portB l nets) := hR
  have hmk := mkInts i (by omega)
  clear hN hT hf hn hm hR hN' hT'
  go_enter Try.func28, Try.ntmps28
  go_wp2
  obtain ⟨W1, hW1⟩ : ∃ W1, W1 = w.alloc (.cells #[.slice na i nc, .slice ta m tc, .int .i64 pt] 25) := ⟨_, rfl⟩
  obtain ⟨T, hT⟩ : ∃ T, T = w.heap.size + 1 := ⟨_, rfl⟩
  have hTx : w.heap.size + 1 ≤ T := by omega
  have HQ0 : Hid (((w.alloc (.cells #[.slice na i nc, .slice ta m tc, .int .i64 pt] 25)).alloc (.cells (madeCells #[.int .i64 0] i) 3)).rowIs T 3 i (fun q => .int .i64 (cnt (nets.take 0) q))) := rowCast (World.rowIs.congr (World.rowIs_made (w.alloc (.cells #[.slice na i nc, .slice ta m tc, .int .i64 pt] 25)) (.int .i64 0) i 3) (fun q _ => by simp [cnt])) (by simp [hT])
  have HS0 : Hid (S1 w (.cells #[.slice na i nc, .slice ta m tc, .int .i64 pt] 25 (0, 0)) ((w.alloc (.cells #[.slice na i nc, .slice ta m tc, .int .i64 pt] 25)).alloc (.cells (madeCells #[.int .i64 0] i) 3))) := S1.alloc S1.start
  rw [← hT]
  clear hmk hT hW1 W1
  generalize (w.alloc (.cells #[.slice na i nc, .slice ta m tc, .int .i64 pt] 25)).alloc (.cells (madeCells #[.int .i64 0] i) 3) = W0 at HQ0 HS0 ⊢
  go_loopw [15] (fun s8 W => ∃ (kk : Nat), kk ≤ m ∧ s8 = .int .i64 kk ∧ Hid ((nets.take kk).all (inB i) = true) ∧ Hid (S1 w (.cells #[.slice na i nc, .slice ta m tc, .int .i64 pt] 25 (0, 0)) W) ∧ Hid (W.rowIs T 3 i (fun q => .int .i64 (cnt (nets.take kk) q)))) (fun s8 W => m - (intOf s8).toNat)
  case atStart => exact ⟨0, Nat.zero_le _, rfl, rfl, HS0.out, HQ0.out⟩
  case round =>
    obtain ⟨kk, hkk, rfl, HAK, HS, HQ⟩ := hrel
    obtain ⟨b0, b1, b2⟩ := cells3n HS.out.x
    have lx := hLt HS.out.x
    by_cases hlk : kk < m
    · have hkl : kk < nets.length := by rw [← HML.out]; exact hlk
      obtain ⟨g2, o2, cap2, hg2⟩ := HT.out.some_ (by omega)
      injection hg2 with e4 e5 e6
      subst e4
      obtain ⟨gl2, gd2⟩ := (HT.out.below HS.out.bel).cell kk hkl
      obtain ⟨z, hz⟩ : ∃ z, z = nets[kk] := ⟨_, rfl⟩
      rw [← hz] at gd2
      have HZK : Hid (z = nets[kk]) := hz
      have k1 : (0 : Int) ≤ (kk : Int) := by omega
      have k2 : (kk : Int) < (m : Int) := by omega
      clear hz e5 e6
      rcases (by omega : (z < 0 ∨ (0 ≤ z ∧ (i : Int) ≤ z)) ∨ (0 ≤ z ∧ z < (i : Int))) with hz | ⟨hz1, hz2⟩
      · have hno : inB l.length nets[kk] = false := by rw [← HZK.out, ← HNL.out]; simp [inB]; omega
        have HNO : Hid (inB l.length nets[kk] = false) := hno
        clear hno
        rcases hz with hz | ⟨hz1, hz2⟩
        all_goals
          go_wp2
          go_ret
          exact ⟨ret_bool (by rw [HR.out, port_net hkl HNO.out]), HS.out.bel⟩
      · obtain ⟨zi, rfl⟩ : ∃ zi : Nat, z = (zi : Int) := ⟨z.toNat, by omega⟩
        have hzi : zi < i := by omega
        have y0 := HQ.out.cell hzi
        have y1 := HQ.out.frozen zi
        have cb : cnt (nets.take kk) zi ≤ 17592186044416 := by have := cnt_le (nets.take kk) zi; rw [List.length_take] at this; omega
        obtain ⟨c, hc⟩ : ∃ c, c = cnt (nets.take kk) zi := ⟨_, rfl⟩
        have y2 : wr.cell? ⟨T, zi, none⟩ = some (.int .i64 (c : Int)) := by rw [y0, hc]
        rw [← hc] at cb
        have HC : Hid (c = cnt (nets.take kk) zi) := hc
        clear y0 hc
        go_wp2
        go_roundw
        case rel =>
          refine ⟨kk + 1, hlk, by go_num, all_snocL hkl HAK.out (by rw [← HZK.out]; simp [inB]; omega), S1.set HS.out hTx, ?_⟩
          refine World.rowIs.congr (World.rowIs.set HQ.out zi _) (fun q hq => ?_)
          rw [List.take_succ_eq_append_getElem hkl, ← HZK.out, cnt_snoc]
          by_cases hqz : q = zi
          · subst hqz; rw [if_pos rfl, if_pos rfl, HC.out]; go_num
          · rw [if_neg hqz, if_neg hqz]
        case measure => simp [intOf]; omega
    · obtain rfl : kk = m := by omega
      have HAN : Hid (nets.all (inB i) = true) := all_done (Nat.le_of_eq HML.out.symm) HAK.out
      have htk : nets.take kk = nets := by rw [HML.out]; exact List.take_length
      have HQn : Hid (wr.rowIs T 3 i (fun q => .int .i64 (cnt nets q))) := by rw [htk] at HQ; exact HQ.out
      clear HAK hkk hlk HQ htk
      go_wp2_with fail
      go_loopw [38] (fun s9 W => ∃ (j : Nat), j ≤ i ∧ s9 = .int .i64 j ∧ Hid (∀ q (hq : q < l.length), q < j → l[q].k = 2 → cnt nets q = 1) ∧ Hid (S1 w (.cells #[.slice na i nc, .slice ta kk tc, .int .i64 pt] 25 (0, 0)) W) ∧ Hid (W.rowIs T 3 i (fun q => .int .i64 (cnt nets q)))) (fun s9 W => i - (intOf s9).toNat)
      case atStart => exact ⟨0, Nat.zero_le _, rfl, fun q hq h => (by omega), HS.out, HQn.out⟩
      case round =>
        clear HS HQn b0 b1 b2 lx
        obtain ⟨j, hj, rfl, HK, HS, HQ⟩ := hrel
        obtain ⟨b0, b1, b2⟩ := cells3n HS.out.x
        have lx := hLt HS.out.x
        by_cases hlt : j < i
        · have hjl : j < l.length := by rw [← HNL.out]; exact hlt
          obtain ⟨g, o, cap, hg⟩ := HN.out.some_ (by omega)
          injection hg with e1 e2 e3
          subst e1
          obtain ⟨gl, ia, ic, hI, d0, d1, d2, d3, d4, d5, d6, d7⟩ := (HN.out.below HS.out.bel).at_ j hjl
          have y0 := HQ.out.cell hlt
          have hTl := HQ.out.lt
          obtain ⟨x, hx⟩ : ∃ x, x = l[j] := ⟨_, rfl⟩
          rw [← hx] at d0 d1 d2 d3 d4 d5 d6 d7
          have HX : Hid (x = l[j]) := hx
          obtain ⟨c, hc⟩ : ∃ c, c = cnt nets j := ⟨_, rfl⟩
          have y2 : wr.cell? ⟨T, j, none⟩ = some (.int .i64 (c : Int)) := by rw [y0, hc]
          have HCC : Hid (c = cnt nets j) := hc
          clear hx hI e2 e3 hc y0
          obtain ⟨k, op, wd, ins, vl, hi', lo, tm⟩ := x
          simp only at d0 d1 d2 d3 d4 d5 d6 d7
          have i1 : (0 : Int) ≤ (j : Int) := by omega
          have i2 : (j : Int) < (i : Int) := by omega
          have hP : ((k == 2) = false) ∨ ((k == 2) = true ∧ ((c : Int) == 1) = false) ∨ ((k == 2) = true ∧ ((c : Int) == 1) = true) := by cases (k == 2) <;> cases ((c : Int) == 1) <;> simp
          rcases hP with f1 | ⟨f1, f2⟩ | ⟨f1, f2⟩
          all_goals
            go_wp2_with fail
            all_goals first
              | (go_ret; exact ⟨ret_bool (by rw [HR.out, port_in hjl (by rw [← HX.out]; simpa using f1) (by rw [← HCC.out]; have := f2; simp at this; omega)]), (S1.alloc HS.out).bel⟩)
              | (go_roundw
                 case rel =>
                   refine ⟨j + 1, hlt, by go_num, fun q hq hqj => ?_, S1.alloc HS.out, World.rowIs.alloc HQ.out _⟩
                   by_cases hqe : q = j
                   · subst hqe
                     refine fun hk2 => ?_
                     first
                       | (exfalso; rw [← HX.out] at hk2; simp only at hk2; rw [hk2] at f1; simp at f1; done)
                       | (rw [← HCC.out]; have := f2; simp at this; omega)
                   · exact HK.out q hq (by omega)
                 case measure => simp [intOf]; omega)
        · obtain rfl : j = i := by omega
          go_wp2_with fail
          go_ret
          exact ⟨ret_bool (by rw [HR.out, port_yes (by rw [← HNL.out]; exact HAN.out) (fun q hq => HK.out q hq (by rw [HNL.out]; exact hq))]), HS.out.bel⟩
end Go.Proofs.Ytpdcmehjndhcjaa
