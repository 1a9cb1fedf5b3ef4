/- The statements' looped: a ring is one. -/
import Derived.Test.YtpdcmehjndhcjaaKLf
namespace Go.Proofs.Ytpdcmehjndhcjaa
open Go.RowKit Lg Nl Go.Maps
set_option linter.unusedVariables false
set_option linter.unusedSimpArgs false

theorem infoBool : (Try.prog.info? 4).map (fun i => (i.zero, i.size, i.bytes)) = some (some (.bool false), 1, 1) := by kernel_rfl
theorem mkBools (n : Nat) (hn : n ≤ 140737488355328) : ∀ w : World, (Instr.makeSlice 52 (.int .i64 (n : Int)) (.int .i64 (n : Int))).run Try.prog w = .ok (.slice (some ⟨w.heap.size, 0, none⟩) n n) (w.alloc (.cells (madeCells #[.bool false] n) 4)) := fun w =>
  run_make_row' (P := Try.prog) 52 4 (.bool false) 1 Try.underlying52 infoBool rfl .i64 .i64 n (by omega) (by omega) w
theorem Ring.lti {l : List Nd} {p : List Nat} (h : Ring l p) {i : Nat} (hi : i < p.length) : p[i] < l.length := h.lt _ (List.getElem_mem hi)
theorem Ring.new {l : List Nd} {p : List Nat} (h : Ring l p) {i : Nat} (hi : i < p.length) : p[i] ∉ p.take i := by
  intro hm
  obtain ⟨j, hj, e⟩ := List.getElem_of_mem hm
  rw [List.length_take] at hj
  rw [List.getElem_take] at e
  exact (List.pairwise_iff_getElem.1 h.nd) j i (by omega) hi (by omega) e
theorem take_mem {p : List Nat} {i q : Nat} (hi : i < p.length) : q ∈ p.take (i + 1) ↔ q ∈ p.take i ∨ q = p[i] := by
  rw [List.take_succ_eq_append_getElem hi, List.mem_append, List.mem_singleton]
theorem Ring.nxt {l : List Nd} {p : List Nat} (h : Ring l p) {i t : Nat} (hi : i < p.length) (ht : t = (i + 1) % p.length) (htl : t < p.length) : p[t] ∈ hgs (ndAt l p[i]) := by
  subst ht
  exact h.hg i _ _ (List.getElem?_eq_getElem hi) (List.getElem?_eq_getElem htl)
theorem nZ_at {p : List Nat} {i : Nat} (hi : i < p.length) (hi' : i < (nZ p).length) : (nZ p)[i] = (p[i] : Int) := by simp [nZ]
def seenF (p : List Nat) (i : Nat) : Nat → Value := fun q => .bool (decide (q ∈ p.take i))
theorem hang_of {x : Nd} {z : Nat} {n : Nat} (h : z ∈ hgs x) (hi : ∀ y ∈ hangL x, inB n y = true) : (z : Int) ∈ hangL x := by
  unfold hgs at h
  obtain ⟨y, hy, rfl⟩ := List.mem_map.1 h
  have := hi y hy
  simp [inB] at this
  rw [show ((y.toNat : Nat) : Int) = y by omega]
  exact hy
set_option maxRecDepth 100000 in
set_option maxHeartbeats 4000000 in
theorem looped_c (l : List Nd) (p : List Nat) (vN vT vP : Value) (pt : Int) (w : World) (hN : NdsAt w vN l) (hT : ∃ ao n c, vT = .slice ao n c) (hP : IntsAt w vP (nZ p)) (hk : Ok l) (hr : Ring l p) :
    Calls Try.prog 12 #[.agg #[vN, vT, .int .i64 pt], vP] w fun e w' => e = .returned (.bool true) ∧ Below w.heap.size w w' := by
  obtain ⟨ta, tn, tc, rfl⟩ := hT
  obtain ⟨na, nc, rfl, hnc, _⟩ := id hN
  obtain ⟨gp, op, pc, hvp⟩ := hP.some_ (by rw [nZ_len]; exact hr.pos)
  subst hvp
  obtain ⟨n, hn⟩ : ∃ n, n = l.length := ⟨_, rfl⟩
  obtain ⟨m, hm⟩ : ∃ m, m = p.length := ⟨_, rfl⟩
  rw [nZ_len] at hP ⊢
  rw [← hn] at hN ⊢
  rw [← hm] at hP ⊢
  have hn4 : n ≤ 4096 := by rw [hn]; exact hk.n
  have hm1 : 0 < m := by rw [hm]; exact hr.pos
  have hm4 : m ≤ 4096 := by have := hr.len; omega
  have HP : Hid (∀ i (hi : i < p.length), gp < w.heap.size ∧ w.cell? ⟨gp, op + i, none⟩ = some (.int .i64 (p[i] : Int))) := fun i hi => by
    have := hP.cell i (by rw [nZ_len]; exact hi)
    rw [nZ_at hi] at this; exact this
  have HN : Hid (NdsAt w (.slice na n nc) l) := hN
  have HNL : Hid (n = l.length) := hn
  have HML : Hid (m = p.length) := hm
  have HR : Hid (Ring l p) := hr
  have HK : Hid (Ok l) := hk
  have hmk := mkBools n (by omega)
  clear hN hnc hP hn hm hr hk
  go_enter Try.func12, Try.ntmps12
  go_wp2
  obtain ⟨T, hT⟩ : ∃ T, T = w.heap.size + 1 := ⟨_, rfl⟩
  have hTx : w.heap.size + 1 ≤ T := by omega
  have HQ0 : Hid (((w.alloc (.cells #[.slice na n nc, .slice ta tn tc, .int .i64 pt] 25)).alloc (.cells (madeCells #[.bool false] n) 4)).rowIs T 4 n (seenF p 0)) := by
    have h := World.rowIs_made (w.alloc (.cells #[.slice na n nc, .slice ta tn tc, .int .i64 pt] 25)) (.bool false) n 4
    rw [World.size_alloc, ← hT] at h
    exact h.congr (fun q _ => by simp [seenF])
  have HS0 : Hid (S1 w (.cells #[.slice na n nc, .slice ta tn tc, .int .i64 pt] 25 (0, 0)) ((w.alloc (.cells #[.slice na n nc, .slice ta tn tc, .int .i64 pt] 25)).alloc (.cells (madeCells #[.bool false] n) 4))) := S1.alloc S1.start
  rw [← hT]
  clear hmk hT
  generalize (w.alloc (.cells #[.slice na n nc, .slice ta tn tc, .int .i64 pt] 25)).alloc (.cells (madeCells #[.bool false] n) 4) = W0 at HQ0 HS0 ⊢
  go_loopw [6] (fun s6 W => ∃ (i : Nat), i ≤ m ∧ s6 = .int .i64 i ∧ Hid (S1 w (.cells #[.slice na n nc, .slice ta tn tc, .int .i64 pt] 25 (0, 0)) W) ∧ Hid (W.rowIs T 4 n (seenF p i))) (fun s6 W => m - (intOf s6).toNat)
  case atStart => exact ⟨0, Nat.zero_le _, rfl, HS0.out, HQ0.out⟩
  case round =>
    clear HQ0 HS0
    obtain ⟨i, hi, rfl, HS, HQ⟩ := hrel
    obtain ⟨b0, b1, b2⟩ := cells3n HS.out.x
    have lx := hLt HS.out.x
    by_cases hlt : i < m
    · have hil : i < p.length := by rw [← HML.out]; exact hlt
      obtain ⟨gl, gc⟩ := HP.out i hil
      have d1 : wr.cell? ⟨gp, op + i, none⟩ = some (.int .i64 (p[i] : Int)) := (HS.out.bel.cell (p := ⟨gp, op + i, none⟩) gl).trans gc
      have hzn : p[i] < n := by rw [HNL.out]; exact HR.out.lti hil
      have hzf : seenF p i p[i] = .bool false := by simp [seenF, HR.out.new hil]
      have y0 := HQ.out.cell hzn
      rw [hzf] at y0
      have yf := HQ.out.frozen p[i]
      have HX : Hid (∀ q, q < n → (if q = p[i] then Value.bool true else seenF p i q) = seenF p (i + 1) q) := fun q _ => by
        have h := take_mem (q := q) hil
        unfold seenF
        split
        · rename_i e; rw [decide_eq_true (h.2 (Or.inr e))]
        · rename_i e; congr 1; rw [decide_eq_decide, h]; exact ⟨Or.inl, fun h' => h'.elim id (fun h'' => absurd h'' e)⟩
      have hTl := HQ.out.lt
      generalize p[i] = z at d1 hzn y0 yf HX
      have z1 : (0 : Int) ≤ (z : Int) := by omega
      have z2 : (z : Int) < (n : Int) := by omega
      have z3 : decide ((z : Int) < 0) = false := by simp
      have z4 : decide ((n : Int) ≤ (z : Int)) = false := by simp; omega
      have i1 : (0 : Int) ≤ (i : Int) := by omega
      have i2 : (i : Int) < (m : Int) := by omega
      clear gc hzf
      go_wp2_with fail
      go_quiet (fail)
      go_wp2_with fail
      go_roundw
      case rel => exact ⟨i + 1, hlt, by go_num, S1.set (S1.drewN HS.out nq) hTx, World.rowIs.congr (World.rowIs.set (World.rowIs.of_block (w' := wr.drewN nq) HQ.out rfl) z (.bool true)) HX.out⟩
      case measure => simp [intOf]; omega
    · obtain rfl : m = i := by omega
      clear HQ
      go_wp2
      go_loopw [7] (fun s7 W => ∃ (i : Nat), i ≤ m ∧ s7 = .int .i64 i ∧ Hid (S1 w (.cells #[.slice na n nc, .slice ta tn tc, .int .i64 pt] 25 (0, 0)) W)) (fun s7 W => m - (intOf s7).toNat)
      case atStart => exact ⟨0, Nat.zero_le _, rfl, HS.out⟩
      case round =>
        clear HS b0 b1 b2 lx hi hlt
        obtain ⟨i, hi, rfl, HS⟩ := hrel
        obtain ⟨b0, b1, b2⟩ := cells3n HS.out.x
        have lx := hLt HS.out.x
        by_cases hlt : i < m
        · have hil : i < p.length := by rw [← HML.out]; exact hlt
          obtain ⟨gl, gc⟩ := HP.out i hil
          have e1 : wr.cell? ⟨gp, op + i, none⟩ = some (.int .i64 (p[i] : Int)) := (HS.out.bel.cell (p := ⟨gp, op + i, none⟩) gl).trans gc
          have hzl : p[i] < l.length := HR.out.lti hil
          obtain ⟨t, ht⟩ : ∃ t, t = (i + 1) % m := ⟨_, rfl⟩
          have htm : t < m := by rw [ht]; exact Nat.mod_lt _ hm1
          have htl : t < p.length := by rw [← HML.out]; exact htm
          have hti : ((i : Int) + 1) % (m : Int) = (t : Int) := by rw [ht]; simp
          obtain ⟨_, gct⟩ := HP.out t htl
          have HY : Hid (p[t] ∈ hgs (ndAt l p[i])) := HR.out.nxt hil (by rw [← HML.out]; exact ht) htl
          have HGT : Hid (w.cell? ⟨gp, op + t, none⟩ = some (.int .i64 (p[t] : Int))) := gct
          have hxe : ndAt l p[i] = l[p[i]] := ndAt_eq hzl
          rw [hxe] at HY
          obtain ⟨g, o, cap, hg⟩ := HN.out.some_ (by omega)
          injection hg with e4 e5 e6
          subst e4
          obtain ⟨gl2, ia, ic, hI, d0, d1, d2, d3, d4, d5, d6, d7⟩ := (HN.out.below HS.out.bel).at_ p[i] hzl
          have hmem := List.getElem_mem hzl
          have HC : Hid (∀ W, Below wr.heap.size wr W → Calls Try.prog 14 #[.agg #[.int .i64 l[p[i]].k, .int .i64 l[p[i]].op, .int .i64 l[p[i]].wd, .slice ia l[p[i]].ins.length ic, .string (S l[p[i]].vl), .int .i64 l[p[i]].hi, .int .i64 l[p[i]].lo, .int .i64 l[p[i]].tm]] W fun e w' => (∃ ao m cp, e = .returned (.slice ao m cp) ∧ Hid (m = (hangL l[p[i]]).length) ∧ Hid (IntsAt wr (.slice ao m cp) (hangL l[p[i]]))) ∧ Below W.heap.size W w') := fun W hW =>
            (kHangs_c l[p[i]] ia ic W (hI.below hW) (HK.out.f _ hmem) (by have := HK.out.q _ hmem; omega)).mono fun e w' hh => by
              obtain ⟨⟨a1, a2, a3, a4, a5, a6⟩, a7⟩ := hh
              exact ⟨⟨a1, a2, a3, a4, a5, a6 wr hI⟩, a7⟩
          have HYM : Hid ((p[t] : Int) ∈ hangL l[p[i]]) := hang_of HY.out (hang_mem HK.out hmem)
          have hhl := hang_len HK.out hmem
          generalize l[p[i]] = x at d0 d1 d2 d3 d4 d5 d6 d7 HC HYM hhl
          generalize hangL x = hs at HC HYM hhl
          obtain ⟨xk, xop, wd, ins, vl, hi', lo, tm⟩ := x
          simp only at d0 d1 d2 d3 d4 d5 d6 d7 HC
          have hzn : p[i] < n := by rw [HNL.out]; exact hzl
          clear HY hxe hzl hI hmem e5 e6 gc gct ht
          generalize p[i] = z at e1 hzn d0 d1 d2 d3 d4 d5 d6 d7
          generalize p[t] = y at HGT HYM
          have z1 : (0 : Int) ≤ (z : Int) := by omega
          have z2 : (z : Int) < (n : Int) := by omega
          have i1 : (0 : Int) ≤ (i : Int) := by omega
          have i2 : (i : Int) < (m : Int) := by omega
          go_wp2_with fail
          go_region_held (fun w' => w'.cell? ⟨w.heap.size, 0, none⟩ = some (.slice (some ⟨g, o, none⟩) n nc) ∧ w'.cell? ⟨gp, op + i, none⟩ = some (.int .i64 (z : Int)) ∧ w'.cell? ⟨g, o + z * 8, none⟩ = some (.int .i64 xk) ∧ w'.cell? ⟨g, o + z * 8 + 1, none⟩ = some (.int .i64 xop) ∧ w'.cell? ⟨g, o + z * 8 + 2, none⟩ = some (.int .i64 wd) ∧ w'.cell? ⟨g, o + z * 8 + 3, none⟩ = some (.slice ia ins.length ic) ∧ w'.cell? ⟨g, o + z * 8 + 4, none⟩ = some (.string (S vl)) ∧ w'.cell? ⟨g, o + z * 8 + 5, none⟩ = some (.int .i64 hi') ∧ w'.cell? ⟨g, o + z * 8 + 6, none⟩ = some (.int .i64 lo) ∧ w'.cell? ⟨g, o + z * 8 + 7, none⟩ = some (.int .i64 tm)) (first | go_keep | (refine ⟨?_, ?_, ?_, ?_, ?_, ?_, ?_, ?_, ?_, ?_⟩ <;> (first | exact (hb5.cell lx).trans b0 | exact (hb5.cell (p := ⟨gp, op + i, none⟩) (Nat.lt_of_lt_of_le gl HS.out.bel.size)).trans e1 | exact (hb5.cell (p := ⟨g, _, none⟩) gl2).trans (by assumption))))
            (first | (go_at_call 14; refine (HC.out _ (Below.refl _ _).drew).mono ?_; rintro e w5 ⟨⟨ho, hm, hc, rfl, HMQ, HI5⟩, hb5⟩))
          have HS5 : Hid (S1 w (.cells #[.slice (some ⟨g, o, none⟩) n nc, .slice ta tn tc, .int .i64 pt] 25 (0, 0)) w5) := S1.below HS.out (Below.trans (Below.drew (Below.refl _ _)) hb5)
          have HI6 : Hid (IntsAt w5 (.slice ho hm hc) hs) := HI5.out.below (Below.trans (Below.drew (Below.refl _ _)) hb5)
          have hm2 : hm ≤ 256 := by rw [HMQ.out]; exact hhl
          have HWA : Hid (Below wr.heap.size wr w5) := Below.trans (Below.drew (Below.refl _ _)) hb5
          have HSB : Hid (Below w.heap.size w wr) := HS.out.bel
          rename_i hHeld
          clear hHeld d0 d1 d2 d3 d4 d5 d6 d7 b0 b1 b2 lx HC hhl hb5 HS e1 HI5
          go_wp2_with fail
          go_loopw [9, 10] (fun s9 s10 W => ∃ (kk : Nat) (c : Bool), kk ≤ hm ∧ s10 = .int .i64 kk ∧ s9 = .bool c ∧ Hid (c = decide ((y : Int) ∈ hs.take kk)) ∧ Hid (Below w5.heap.size w5 W)) (fun s9 s10 W => hm - (intOf s10).toNat)
          case atStart => exact ⟨0, false, Nat.zero_le _, rfl, rfl, by show false = _; simp, Below.refl _ _⟩
          case round =>
            obtain ⟨kk, c, hkk, rfl, rfl, HCc, HB6⟩ := hrel
            by_cases hlk : kk < hm
            · have hkl : kk < hs.length := by rw [← HMQ.out]; exact hlk
              have htk := List.take_succ_eq_append_getElem hkl
              obtain ⟨g2, o2, cap2, hg2⟩ := HI6.out.some_ (by omega)
              injection hg2 with e4 e5 e6
              subst e4
              obtain ⟨gl3, gd3⟩ := HI6.out.cell kk hkl
              have f1 := (HB6.out.cell (p := ⟨g2, o2 + kk, none⟩) gl3).trans gd3
              have hbw := bel HS5.out.bel HB6.out
              have f2 : wr.cell? ⟨gp, op + t, none⟩ = some (.int .i64 (y : Int)) := (hbw.cell (p := ⟨gp, op + t, none⟩) gl).trans HGT.out
              have HTK : Hid (hs.take (kk + 1) = hs.take kk ++ [hs[kk]]) := htk
              have k1 : (0 : Int) ≤ (kk : Int) := by omega
              have k2 : (kk : Int) < (hm : Int) := by omega
              have t1 : (0 : Int) ≤ (t : Int) := by omega
              have t2 : (t : Int) < (m : Int) := by omega
              have m0 : ((m : Int) == 0) = false := by simp; omega
              have m1 : (1 : Int) ≤ (m : Int) := by omega
              have i1 : (0 : Int) ≤ (i : Int) := by omega
              clear htk e5 e6 gd3 hbw
              generalize hs[kk] = q at f1 HTK
              cases c with
              | true =>
                go_wp2_with fail
                go_quiet (fail)
                go_wp2_with fail
                go_roundw
                case rel =>
                  refine ⟨kk + 1, true, hlk, by go_num, rfl, ?_, belDN HB6.out nq⟩
                  show true = _
                  rw [HTK.out]
                  exact (decide_eq_true (List.mem_append.2 (Or.inl (of_decide_eq_true HCc.out.symm)))).symm
                case measure => simp [intOf]; omega
              | false =>
                go_wp2_with fail
                go_quiet (fail)
                go_wp2_with fail
                go_roundw
                case rel =>
                  refine ⟨kk + 1, (q == (y : Int)), hlk, by go_num, rfl, ?_, belDN HB6.out nq⟩
                  show (q == (y : Int)) = _
                  have h0 := of_decide_eq_false HCc.out.symm
                  rw [HTK.out, Bool.eq_iff_iff, decide_eq_true_iff, List.mem_append, List.mem_singleton, beq_iff_eq]
                  exact ⟨fun e => Or.inr e.symm, fun e => e.elim (fun e => absurd e h0) (fun e => e.symm)⟩
                case measure => simp [intOf]; omega
            · obtain rfl : hm = kk := by omega
              have hct : c = true := by rw [HCc.out, List.take_of_length_le (by rw [HMQ.out]; exact Nat.le_refl _)]; exact decide_eq_true HYM.out
              subst hct
              go_wp2
              go_roundw
              case rel => exact ⟨i + 1, hlt, by go_num, S1.below HS5.out HB6.out⟩
              case measure => simp [intOf]; omega
        · obtain rfl : m = i := by omega
          have hm0 : (0 : Int) < (m : Int) := by omega
          go_wp2
          go_ret
          exact ⟨rfl, HS.out.bel⟩
end Go.Proofs.Ytpdcmehjndhcjaa
