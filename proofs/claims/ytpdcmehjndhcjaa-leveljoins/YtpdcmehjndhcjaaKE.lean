/- The reference's node: may a node be? -/
import Derived.Test.YtpdcmehjndhcjaaKD
namespace Go.Proofs.Ytpdcmehjndhcjaa
open Go.RowKit Lg Nl Go.Maps
set_option linter.unusedVariables false
set_option linter.unusedSimpArgs false

/-- the first three widths, as far as they were read -/
def nw (ws : List Int) (i q : Nat) : Int := if q < i then wn ws q else 0
def nodeA (x : Nd) (ws : List Int) (m a0 a1 a2 : Int) : Bool :=
  if x.k = 1 then decide (m = 0) && vec x.vl && decide ((x.vl.length : Int) = x.wd)
  else if x.k = 2 then decide (m = 0)
  else if x.k = 3 then decide (opWs x ws = x.wd)
  else if x.k = 4 then decide (m = 3 ∧ a1 = x.wd ∧ a2 = x.wd)
  else if x.k = 5 then decide (m = 2 ∧ a0 = a1 ∧ x.wd = 1)
  else if x.k = 6 then decide (m = 1)
  else if x.k = 7 then decide (m = 2 ∧ a1 = x.wd)
  else if x.k = 8 then decide (m = 1 ∧ a0 = x.wd ∧ 1 ≤ x.tm ∧ x.tm ≤ 1048576)
  else false
theorem nodeA_eq (x : Nd) (ws : List Int) (t : Nat) (ht : t = min ws.length 3) : nodeB x ws = nodeA x ws ws.length (nw ws t 0) (nw ws t 1) (nw ws t 2) := by
  unfold nodeB nodeA nw
  repeat' split
  all_goals first
    | rfl
    | (rw [decide_eq_decide]; omega)
    | (congr 1; rw [decide_eq_decide]; omega)
    | (congr 2; rw [decide_eq_decide]; omega)
theorem nw_step (ws : List Int) (i q : Nat) : nw ws (i + 1) q = if q = i then wn ws i else nw ws i q := by
  unfold nw
  by_cases h : q = i
  · subst h; simp
  · rw [if_neg h]
    by_cases h2 : q < i
    · rw [if_pos (by omega), if_pos h2]
    · rw [if_neg (by omega), if_neg h2]
theorem ksd {w : World} {b o b' j : Nat} {y : Value} {v : Option Value} (hne : b ≠ b') (h : w.cell? ⟨b, o, none⟩ = v) : (w.setCell ⟨b', j, none⟩ y).drew.cell? ⟨b, o, none⟩ = v := by
  show (w.setCell ⟨b', j, none⟩ y).cell? ⟨b, o, none⟩ = v
  rw [World.cell?_of_block (w := w) (a := ⟨b, o, none⟩) (Below.heap_setCell _ _ _ _ hne)]; exact h
theorem wn_at {l : List Nd} {ins ws : List Int} (h : ws = wsOf l ins) {j : Nat} (hj : j < ins.length) : wn ws j = wdAt l ins[j] := by
  subst h
  unfold wn wsOf
  rw [List.getD_eq_getElem?_getD, List.getElem?_map, List.getElem?_eq_getElem hj]
  rfl
theorem rowCast {w : World} {b b' n : Nat} {t : TypeId} {f : Nat → Value} (h : w.rowIs b t n f) (e : b = b') : w.rowIs b' t n f := e ▸ h
theorem S2.setB {w W : World} {bx rs : Obj} (h : S2 w bx rs W) {b j : Nat} {v : Value} (hb : w.heap.size + 2 ≤ b) : S2 w bx rs (W.setCell ⟨b, j, none⟩ v) :=
  ⟨h.bel.setCell (by show w.heap.size ≤ b; omega) _, (Below.heap_setCell _ _ _ _ (by show w.heap.size ≠ b; omega)).trans h.x, (Below.heap_setCell _ _ _ _ (by show w.heap.size + 1 ≠ b; omega)).trans h.r⟩

set_option maxRecDepth 100000 in
set_option maxHeartbeats 4000000 in
theorem node_c (l : List Nd) (x : Nd) (vN vT vi : Value) (pt : Int) (w : World) (hT : ∃ ao n c, vT = .slice ao n c) (hN : NdsAt w vN l) (hi : IntsAt w vi x.ins) (hin : x.ins.all (inB l.length) = true) (hw : l.all wideB = true) (hl : l.length ≤ 4096) (hm : x.ins.length ≤ 17592186044416) (hv : x.vl.length ≤ 140737488355328) :
    Calls Try.prog 20 #[.agg #[vN, vT, .int .i64 pt], .agg #[.int .i64 x.k, .int .i64 x.op, .int .i64 x.wd, vi, .string (S x.vl), .int .i64 x.hi, .int .i64 x.lo, .int .i64 x.tm]] w fun e w' => e = .returned (.bool (nodeB x (wsOf l x.ins))) ∧ Below w.heap.size w w' := by
  obtain ⟨ta, tn, tc, rfl⟩ := hT
  have HOP : Hid (∀ W, Below w.heap.size w W → Calls Try.prog 31 #[.agg #[vN, .slice ta tn tc, .int .i64 pt], .agg #[.int .i64 x.k, .int .i64 x.op, .int .i64 x.wd, vi, .string (S x.vl), .int .i64 x.hi, .int .i64 x.lo, .int .i64 x.tm]] W fun e w' => e = .returned (.int .i64 (opWs x (wsOf l x.ins))) ∧ Below W.heap.size W w') := fun W hW => operated_c l x vN _ vi pt (.bool true) W ⟨_, _, _, rfl⟩ (hN.below hW) (hi.below hW) hin hw hl hm
  obtain ⟨t, ht⟩ : ∃ t, t = min (wsOf l x.ins).length 3 := ⟨_, rfl⟩
  rw [nodeA_eq x (wsOf l x.ins) t ht]
  rw [wsOf_len] at ht ⊢
  obtain ⟨ow, how⟩ : ∃ ow, ow = opWs x (wsOf l x.ins) := ⟨_, rfl⟩
  rw [← how] at HOP
  obtain ⟨k, op, wd, ins, vl, hi', lo, tm⟩ := x
  simp only at hi hin hm HOP ht hv ⊢
  obtain ⟨na, nc, rfl, hnc, hN'⟩ := id hN
  obtain ⟨ia, ic, rfl, hic, hi''⟩ := id hi
  obtain ⟨n, hn⟩ : ∃ n, n = l.length := ⟨_, rfl⟩
  obtain ⟨m, hm'⟩ : ∃ m, m = ins.length := ⟨_, rfl⟩
  rw [← hn] at hnc hl hin HOP ⊢ hN
  rw [← hm'] at hic hm hi ht HOP ⊢
  have HN : Hid (NdsAt w (.slice na n nc) l) := hN
  have HI : Hid (IntsAt w (.slice ia m ic) ins) := hi
  have HIN : Hid (ins.all (inB n) = true) := hin
  have HW : Hid (l.all wideB = true) := hw
  have HNL : Hid (n = l.length) := hn
  have HML : Hid (m = ins.length) := hm'
  have HT : Hid (t = min m 3) := ht
  obtain ⟨R, hR⟩ : ∃ R, R = nodeA ⟨k, op, wd, ins, vl, hi', lo, tm⟩ (wsOf l ins) m (nw (wsOf l ins) t 0) (nw (wsOf l ins) t 1) (nw (wsOf l ins) t 2) := ⟨_, rfl⟩
  have HR : Hid (R = nodeA ⟨k, op, wd, ins, vl, hi', lo, tm⟩ (wsOf l ins) m (nw (wsOf l ins) t 0) (nw (wsOf l ins) t 1) (nw (wsOf l ins) t 2)) := hR
  have HOW : Hid (ow = opWs ⟨k, op, wd, ins, vl, hi', lo, tm⟩ (wsOf l ins)) := how
  rw [← hR]
  clear hN hi hin hw hn hm' hN' hi'' hR how ht
  obtain ⟨ws, hws⟩ : ∃ ws, ws = wsOf l ins := ⟨_, rfl⟩
  rw [← hws] at HR HOW
  have HWS : Hid (ws = wsOf l ins) := hws
  clear hws
  go_enter Try.func20, Try.ntmps20
  go_wp2
  go_loopw [7] (fun s7 W => ∃ (j : Nat), j ≤ t ∧ s7 = .int .i64 j ∧ Hid (S2 w (.cells #[.slice na n nc, .slice ta tn tc, .int .i64 pt] 25 (0, 0)) (.cells #[.int .i64 k, .int .i64 op, .int .i64 wd, .slice ia m ic, .string (S vl), .int .i64 hi', .int .i64 lo, .int .i64 tm] 39 (0, 0)) W) ∧ Hid (W.rowIs (w.heap.size + 1 + 1) 3 3 (fun q => .int .i64 (nw ws j q)))) (fun s7 W => t - (intOf s7).toNat)
  case atStart => exact ⟨0, Nat.zero_le _, rfl, S2.alloc S2.start, rowCast (World.rowIs_alloc ((w.alloc (.cells #[.slice na n nc, .slice ta tn tc, .int .i64 pt] 25 (0, 0))).alloc (.cells #[.int .i64 k, .int .i64 op, .int .i64 wd, .slice ia m ic, .string (S vl), .int .i64 hi', .int .i64 lo, .int .i64 tm] 39 (0, 0))) #[.int .i64 0, .int .i64 0, .int .i64 0] 3 (fun q => .int .i64 (nw ws 0 q)) (by intro q hq; match q, hq with | 0, _ => rfl | 1, _ => rfl | 2, _ => rfl)) (by simp)⟩
  case round =>
    obtain ⟨j, hj, rfl, HS, HQ⟩ := hrel
    have ht := HT.out
    obtain ⟨b0, b1, b2⟩ := cells3n HS.out.x
    obtain ⟨c0, c1, c2, c3, c4, c5, c6, c7⟩ := cells8 HS.out.r
    by_cases hlt : j < t
    · have hjm : j < m := by omega
      have hj3 : j < 3 := by omega
      have hjl : j < ins.length := by rw [← HML.out]; exact hjm
      obtain ⟨i, hi1, hi2⟩ := in_at HIN.out hjl
      have hil : i < l.length := by rw [← HNL.out]; exact hi2
      obtain ⟨g, o, cap, hg⟩ := HN.out.some_ (by omega)
      obtain ⟨g2, o2, cap2, hg2⟩ := HI.out.some_ (by omega)
      injection hg with e1 e2 e3
      injection hg2 with e4 e5 e6
      subst e1 e4
      obtain ⟨gl, gd⟩ := HN.out.wd i hil
      obtain ⟨gl2, gd2⟩ := HI.out.cell j hjl
      rw [hi1] at gd2
      obtain ⟨wi, hwi⟩ : ∃ wi, wi = l[i].wd := ⟨_, rfl⟩
      rw [← hwi] at gd
      have d0 : wr.cell? ⟨g, o + i * 8 + 2, none⟩ = some (.int .i64 wi) := (HS.out.bel.cell (p := ⟨g, o + i * 8 + 2, none⟩) gl).trans gd
      have d1 : wr.cell? ⟨g2, o2 + j, none⟩ = some (.int .i64 i) := (HS.out.bel.cell (p := ⟨g2, o2 + j, none⟩) gl2).trans gd2
      have hz := HQ.out.lt
      have n1 : g ≠ w.heap.size + 1 + 1 := by omega
      have n2 : g2 ≠ w.heap.size + 1 + 1 := by omega
      have n3 : w.heap.size ≠ w.heap.size + 1 + 1 := by omega
      have n4 : w.heap.size + 1 ≠ w.heap.size + 1 + 1 := by omega
      have qf := HQ.out.frozen j
      have qc := HQ.out.cell hj3
      have i1 : (0 : Int) ≤ (i : Int) := by omega
      have i2 : (i : Int) < (n : Int) := by omega
      have j1 : (0 : Int) ≤ (j : Int) := by omega
      have j2 : (j : Int) < (m : Int) := by omega
      have j3 : (j : Int) < 3 := by omega
      have HWI : Hid (wi = l[i].wd) := hwi
      have HI1 : Hid (ins[j] = (i : Int)) := hi1
      clear hwi hi1 e2 e3 e5 e6 ht
      go_wp2_with fail
      go_region_held3 (fun w' => w'.cell? ⟨w.heap.size, 0, none⟩ = some (.slice (some ⟨g, o, none⟩) n nc) ∧ w'.cell? ⟨w.heap.size + 1, 3, none⟩ = some (.slice (some ⟨g2, o2, none⟩) m ic) ∧ w'.cell? ⟨g2, o2 + j, none⟩ = some (.int .i64 i) ∧ w'.cell? ⟨g, o + i * 8 + 2, none⟩ = some (.int .i64 wi)) (first | exact ⟨ksd n3 b0, ksd n4 c3, ksd n2 d1, ksd n1 d0⟩ | go_keep) (fail)
      all_goals go_wp2_with fail
      all_goals
        go_roundw
        case rel =>
          refine ⟨j + 1, hlt, by go_num, (S2.setB HS.out (Nat.le_refl _)).drew, ?_⟩
          refine (World.rowIs.congr (World.rowIs.drew (World.rowIs.set HQ.out j (.int .i64 wi))) (fun q hq => ?_))
          show (if q = j then Value.int .i64 wi else .int .i64 (nw ws j q)) = _
          rw [nw_step, wn_at HWS.out hjl, HI1.out, wdAt_eq hil, ← HWI.out]
          split <;> rfl
        case measure => simp [intOf]; omega
    · obtain rfl : j = t := by omega
      have hbl := HS.out.bel
      have HBL : Hid (Below w.heap.size w wr) := hbl
      have lx := hLt HS.out.x
      have lr := hLt HS.out.r
      have y0 := HQ.out.cell (i := 0) (by omega)
      have y1 := HQ.out.cell (i := 1) (by omega)
      have y2 := HQ.out.cell (i := 2) (by omega)
      generalize nw ws j 0 = a0 at HR y0
      generalize nw ws j 1 = a1 at HR y1
      generalize nw ws j 2 = a2 at HR y2
      clear HS HQ HN HI HIN HW HNL HML HWS hj hlt hnc hic hl hbl
      have hend : (¬ (j : Int) < (m : Int)) ∨ ((j : Int) < (m : Int) ∧ ¬ (j : Int) < 3) := by omega
      have mb : (m : Int) ≤ 17592186044416 := by omega
      have vb : (vl.length : Int) ≤ 140737488355328 := by omega
      clear ht HT hm hv
      rcases hend with h1 | ⟨h1, h2⟩
      all_goals
        rcases (by omega : k = 1 ∨ k = 2 ∨ k = 3 ∨ k = 4 ∨ k = 5 ∨ k = 6 ∨ k = 7 ∨ k = 8 ∨ (k ≠ 1 ∧ k ≠ 2 ∧ k ≠ 3 ∧ k ≠ 4 ∧ k ≠ 5 ∧ k ≠ 6 ∧ k ≠ 7 ∧ k ≠ 8)) with rfl | rfl | rfl | rfl | rfl | rfl | rfl | rfl | hk
        · have hR : R = (decide ((m : Int) = 0) && vec vl && decide ((vl.length : Int) = wd)) := HR.out.trans (by simp [nodeA])
          clear HR
          have HR : Hid _ := hR
          clear hR
          go_wp2_with (first | (go_at_call 30; refine (may_c _ _ (by rw [size_S]; unfold maxLen; omega)).mono ?_; rintro e w' ⟨rfl, rfl⟩))
          all_goals (go_ret; exact ⟨ret_bool (by have hR := HR.out; rw [hR, Bool.eq_iff_iff]; clear hR HR; simp_all [L_S, size_S]), HBL.out⟩)
        · have hR : R = decide ((m : Int) = 0) := HR.out.trans (by simp [nodeA])
          clear HR
          have HR : Hid _ := hR
          clear hR
          go_wp2_with fail
          all_goals (go_ret; exact ⟨ret_bool (by have hR := HR.out; rw [hR, Bool.eq_iff_iff]; clear hR HR; simp_all), HBL.out⟩)
        · have hR : R = decide (ow = wd) := HR.out.trans (by simp [nodeA]; rw [HOW.out])
          clear HR
          have HR : Hid _ := hR
          clear hR
          go_wp2_with fail
          go_region_held3 (fun w' => w'.cell? ⟨w.heap.size, 0, none⟩ = some (.slice na n nc) ∧ w'.cell? ⟨w.heap.size, 1, none⟩ = some (.slice ta tn tc) ∧ w'.cell? ⟨w.heap.size, 2, none⟩ = some (.int .i64 pt) ∧ w'.cell? ⟨w.heap.size + 1, 0, none⟩ = some (.int .i64 3) ∧ w'.cell? ⟨w.heap.size + 1, 1, none⟩ = some (.int .i64 op) ∧ w'.cell? ⟨w.heap.size + 1, 2, none⟩ = some (.int .i64 wd) ∧ w'.cell? ⟨w.heap.size + 1, 3, none⟩ = some (.slice ia m ic) ∧ w'.cell? ⟨w.heap.size + 1, 4, none⟩ = some (.string (S vl)) ∧ w'.cell? ⟨w.heap.size + 1, 5, none⟩ = some (.int .i64 hi') ∧ w'.cell? ⟨w.heap.size + 1, 6, none⟩ = some (.int .i64 lo) ∧ w'.cell? ⟨w.heap.size + 1, 7, none⟩ = some (.int .i64 tm)) (go_keep) (first | (go_at_call 31; refine (HOP.out _ (by first | exact HBL.out | exact HBL.out.drew)).mono ?_; rintro e w5 ⟨rfl, hb5⟩; have hb6 : Below wr.heap.size wr w5 := (by first | exact hb5 | exact bel belD hb5); have BB := bel HBL.out hb6; have z0 := (hb6.cell (p := ⟨w.heap.size, 0, none⟩) lx).trans b0; have z1 := (hb6.cell (p := ⟨w.heap.size, 1, none⟩) lx).trans b1; have z2 := (hb6.cell (p := ⟨w.heap.size, 2, none⟩) lx).trans b2; have x0 := (hb6.cell (p := ⟨w.heap.size + 1, 0, none⟩) lr).trans c0; have x1 := (hb6.cell (p := ⟨w.heap.size + 1, 1, none⟩) lr).trans c1; have x2 := (hb6.cell (p := ⟨w.heap.size + 1, 2, none⟩) lr).trans c2; have x3 := (hb6.cell (p := ⟨w.heap.size + 1, 3, none⟩) lr).trans c3; have x4 := (hb6.cell (p := ⟨w.heap.size + 1, 4, none⟩) lr).trans c4; have x5 := (hb6.cell (p := ⟨w.heap.size + 1, 5, none⟩) lr).trans c5; have x6 := (hb6.cell (p := ⟨w.heap.size + 1, 6, none⟩) lr).trans c6; have x7 := (hb6.cell (p := ⟨w.heap.size + 1, 7, none⟩) lr).trans c7))
          all_goals (go_wp2_with fail; go_ret; exact ⟨ret_bool (by have hR := HR.out; rw [hR, Bool.eq_iff_iff]; simp), BB⟩)
        · have hR : R = decide ((m : Int) = 3 ∧ a1 = wd ∧ a2 = wd) := HR.out.trans (by simp [nodeA])
          clear HR
          have P : (((m : Int) == 3) = false) ∨ (((m : Int) == 3) = true ∧ (a1 == wd) = false) ∨ (((m : Int) == 3) = true ∧ (a1 == wd) = true) := by cases (((m : Int) == 3)) <;> cases ((a1 == wd)) <;> simp
          rcases P with f0 | ⟨f0, f1⟩ | ⟨f0, f1⟩
          all_goals
            go_wp2_with fail
            go_quiet (fail)
            go_wp2_with fail
            go_ret
            exact ⟨ret_bool (by rw [hR, Bool.eq_iff_iff]; clear hR; simp_all <;> omega), belDN HBL.out _⟩
        · have hR : R = decide ((m : Int) = 2 ∧ a0 = a1 ∧ wd = 1) := HR.out.trans (by simp [nodeA])
          clear HR
          have P : (((m : Int) == 2) = false) ∨ (((m : Int) == 2) = true ∧ (a0 == a1) = false) ∨ (((m : Int) == 2) = true ∧ (a0 == a1) = true) := by cases (((m : Int) == 2)) <;> cases ((a0 == a1)) <;> simp
          rcases P with f0 | ⟨f0, f1⟩ | ⟨f0, f1⟩
          all_goals
            go_wp2_with fail
            go_quiet (fail)
            go_wp2_with fail
            go_ret
            exact ⟨ret_bool (by rw [hR, Bool.eq_iff_iff]; clear hR; simp_all <;> omega), belDN HBL.out _⟩
        · have hR : R = decide ((m : Int) = 1) := HR.out.trans (by simp [nodeA])
          clear HR
          have HR : Hid _ := hR
          clear hR
          go_wp2_with fail
          all_goals (go_ret; exact ⟨ret_bool (by have hR := HR.out; rw [hR, Bool.eq_iff_iff]; clear hR HR; simp_all), HBL.out⟩)
        · have hR : R = decide ((m : Int) = 2 ∧ a1 = wd) := HR.out.trans (by simp [nodeA])
          clear HR
          have P : (((m : Int) == 2) = false) ∨ (((m : Int) == 2) = true) := by cases (((m : Int) == 2)) <;> simp
          rcases P with f0 | f0
          all_goals
            go_wp2_with fail
            go_quiet (fail)
            go_wp2_with fail
            go_ret
            exact ⟨ret_bool (by rw [hR, Bool.eq_iff_iff]; clear hR; simp_all <;> omega), belDN HBL.out _⟩
        · have hR : R = decide ((m : Int) = 1 ∧ a0 = wd ∧ 1 ≤ tm ∧ tm ≤ 1048576) := HR.out.trans (by simp [nodeA])
          clear HR
          have P : (((m : Int) == 1) = false) ∨ (((m : Int) == 1) = true ∧ (a0 == wd) = false) ∨ (((m : Int) == 1) = true ∧ (a0 == wd) = true ∧ decide (1 ≤ tm) = false) ∨ (((m : Int) == 1) = true ∧ (a0 == wd) = true ∧ decide (1 ≤ tm) = true) := by cases (((m : Int) == 1)) <;> cases ((a0 == wd)) <;> cases (decide (1 ≤ tm)) <;> simp
          rcases P with f0 | ⟨f0, f1⟩ | ⟨f0, f1, f2⟩ | ⟨f0, f1, f2⟩
          all_goals
            go_wp2_with fail
            go_quiet (fail)
            go_wp2_with fail
            go_ret
            exact ⟨ret_bool (by rw [hR, Bool.eq_iff_iff]; clear hR; simp_all <;> omega), belDN HBL.out _⟩
        · obtain ⟨k1, k2, k3, k4, k5, k6, k7, k8⟩ := hk
          have hR : R = false := HR.out.trans (by simp [nodeA, *])
          have g1 : (k == 1) = false := by simpa using k1
          have g2 : (k == 2) = false := by simpa using k2
          have g3 : (k == 3) = false := by simpa using k3
          have g4 : (k == 4) = false := by simpa using k4
          have g5 : (k == 5) = false := by simpa using k5
          have g6 : (k == 6) = false := by simpa using k6
          have g7 : (k == 7) = false := by simpa using k7
          have g8 : (k == 8) = false := by simpa using k8
          have HR2 : Hid (R = false) := hR
          clear HR hR k1 k2 k3 k4 k5 k6 k7 k8
          go_wp2_with fail
          go_ret
          exact ⟨ret_bool HR2.out.symm, HBL.out⟩
end Go.Proofs.Ytpdcmehjndhcjaa
