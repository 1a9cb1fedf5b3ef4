/- Texts KD KE, joined: what each part says stands ahead of it. -/
import Derived.Test.YtkgonnnpoldcoaaGKa
/- The reference's operated: a node's width by what goes in. -/
namespace Go.Proofs.Ytkgonnnpoldcoaa
open Go.RowKit Lg Nl Go.Maps
set_option linter.unusedVariables false
set_option linter.unusedSimpArgs false

theorem all_take {α : Type} {p : α → Bool} {l : List α} (h : l.all p = true) (j : Nat) : (l.take j).all p = true := by
  rw [List.all_eq_true] at h ⊢
  exact fun x hx => h x (List.mem_of_mem_take hx)
theorem in_at {n : Nat} {ins : List Int} (h : ins.all (inB n) = true) {j : Nat} (hj : j < ins.length) : ∃ i : Nat, ins[j] = (i : Int) ∧ i < n := by
  rw [List.all_eq_true] at h
  have := h ins[j] (List.getElem_mem hj)
  simp [inB] at this
  exact ⟨ins[j].toNat, by omega, by omega⟩
theorem wide_at {l : List Nd} (h : l.all wideB = true) {i : Nat} (hi : i < l.length) : 1 ≤ l[i].wd ∧ l[i].wd ≤ 256 := by
  rw [List.all_eq_true] at h
  have := h l[i] (List.getElem_mem hi)
  simpa [wideB] using this
theorem wdAt_bd {l : List Nd} (h : l.all wideB = true) {z : Int} (hz : inB l.length z = true) : 1 ≤ wdAt l z ∧ wdAt l z ≤ 256 := by
  simp [inB] at hz
  unfold wdAt
  rw [ndAt_eq (by omega)]
  exact wide_at h _
theorem wdAt_eq {l : List Nd} {i : Nat} (hi : i < l.length) : wdAt l (i : Int) = l[i].wd := by unfold wdAt; rw [Int.toNat_natCast, ndAt_eq hi]
theorem sumI_cons (z : Int) (ws : List Int) : sumI (z :: ws) = z + sumI ws := by
  have h : ∀ (ws : List Int) (a : Int), ws.foldl (· + ·) a = a + ws.foldl (· + ·) 0 := by
    intro ws
    induction ws with
    | nil => intro a; simp
    | cons y r ih => intro a; simp only [List.foldl_cons]; rw [ih (a + y), ih (0 + y)]; omega
  unfold sumI
  rw [List.foldl_cons, h]; omega
theorem sum_bd (l : List Nd) : ∀ (ins : List Int), l.all wideB = true → ins.all (inB l.length) = true → 0 ≤ sumI (wsOf l ins) ∧ sumI (wsOf l ins) ≤ 256 * ins.length
  | [], _, _ => by simp [wsOf, sumI]
  | z :: r, hw, h => by
    rw [List.all_cons, Bool.and_eq_true] at h
    have ih := sum_bd l r hw h.2
    have := wdAt_bd hw h.1
    show 0 ≤ sumI (wdAt l z :: wsOf l r) ∧ sumI (wdAt l z :: wsOf l r) ≤ _
    rw [sumI_cons, List.length_cons]
    omega
theorem own_last {w : World} {B n g cap : Nat} {l : List Int} {z : Int} (h : w.ownsRow B 3 1 (.slice (some ⟨g, 0, none⟩) (n + 1) cap) (n + 1) (iC (l ++ [z]))) (hl : l.length = n) : w.cell? ⟨g, n, none⟩ = some (.int .i64 z) := by
  have := own_cell h n (by simp [hl])
  rw [this]
  congr 2
  subst hl
  simp
theorem ws_bd {l : List Nd} {ins : List Int} (hw : l.all wideB = true) (hin : ins.all (inB l.length) = true) {i : Nat} (hi : i < ins.length) : 1 ≤ wn (wsOf l ins) i ∧ wn (wsOf l ins) i ≤ 256 := by
  unfold wn wsOf
  rw [List.getD_eq_getElem?_getD, List.getElem?_map, List.getElem?_eq_getElem hi]
  show 1 ≤ wdAt l ins[i] ∧ wdAt l ins[i] ≤ 256
  rw [List.all_eq_true] at hin
  exact wdAt_bd hw (hin _ (List.getElem_mem hi))
theorem opW_many (op hi lo sum w0 w1 w2 : Int) {n : Int} (h : 4 ≤ n) : opW op hi lo n sum w0 w1 w2 = if op = 5 ∧ n ≤ 256 then sum else -1 := by
  have n1 : ¬ n = 1 := by omega
  have n2 : ¬ n = 2 := by omega
  have n3 : ¬ n = 3 := by omega
  have n4 : 1 ≤ n := by omega
  by_cases h5 : op = 5
  · subst h5
    simp [opW, n4]
  · simp [opW, n1, n2, n3, h5]
theorem opW_none (op hi lo sum w0 w1 w2 : Int) {n : Int} (h : n = 0) : opW op hi lo n sum w0 w1 w2 = -1 := by
  subst h
  simp [opW]
theorem opW_one (op hi lo sum w0 w1 w2 : Int) {n : Int} (h : n = 1) : opW op hi lo n sum w0 w1 w2 = if op = 7 ∨ op = 9 then w0 else if op = 8 ∨ op = 10 ∨ op = 11 ∨ op = 12 then 1 else if op = 4 then (if 0 ≤ lo ∧ lo ≤ hi ∧ hi < w0 then hi - lo + 1 else -1) else if op = 5 then sum else -1 := by
  subst h
  unfold opW
  repeat' split
  all_goals first | rfl | omega
theorem opW_two (op hi lo sum w0 w1 w2 : Int) {n : Int} (h : n = 2) : opW op hi lo n sum w0 w1 w2 = if op = 13 ∨ op = 14 ∨ op = 23 ∨ op = 25 ∨ op = 24 then (if w0 = w1 then w0 else -1) else if op = 15 ∨ op = 16 then w0 else if op = 17 ∨ op = 18 ∨ op = 19 ∨ op = 20 ∨ op = 21 ∨ op = 22 then (if w0 = w1 then 1 else -1) else if op = 26 ∨ op = 27 ∨ op = 3 then 1 else if op = 5 then sum else -1 := by
  subst h
  unfold opW
  repeat' split
  all_goals first | rfl | omega
theorem opW_three (op hi lo sum w0 w1 w2 : Int) {n : Int} (h : n = 3) : opW op hi lo n sum w0 w1 w2 = if op = 6 then (if w1 = w2 then w1 else -1) else if op = 5 then sum else -1 := by
  subst h
  unfold opW
  repeat' split
  all_goals first | rfl | omega
theorem belDN {B : Nat} {w w' : World} (h : Below B w w') (n : Nat) : Below B w (w'.drewN n) := ⟨h.os, h.tape, h.output, h.size, h.block⟩
theorem own_pos {w : World} {B e z n cap : Nat} {ao : Option Addr} {xs : List Value} (h : w.ownsRow B e z (.slice ao n cap) n xs) (hn : 0 < n) : ∃ g, ao = some ⟨g, 0, none⟩ := by
  rcases h.2 with ⟨_, h2⟩ | ⟨g, cap', cur, hv, _⟩
  · omega
  · injection hv with e1; exact ⟨g, e1⟩
theorem own_wn {w : World} {B n g cap : Nat} {ws : List Int} (h : w.ownsRow B 3 1 (.slice (some ⟨g, 0, none⟩) n cap) n (iC ws)) (j : Nat) (hj : j < n) : w.cell? ⟨g, j, none⟩ = some (.int .i64 (wn ws j)) := by
  have hl : ws.length = n := by simpa [iC] using h.1
  rw [own_cell h j (by omega)]
  unfold wn
  rw [List.getD_eq_getElem?_getD, List.getElem?_eq_getElem (by omega)]
  rfl
set_option maxRecDepth 100000 in
set_option maxHeartbeats 4000000 in
theorem operated_c (l : List Nd) (x : Nd) (vN vT vi : Value) (pt : Int) (ts : Value) (w : World) (hT : ∃ ao n c, vT = .slice ao n c) (hN : NdsAt w vN l) (hi : IntsAt w vi x.ins) (hin : x.ins.all (inB l.length) = true) (hw : l.all wideB = true) (hl : l.length ≤ 4096) (hm : x.ins.length ≤ 17592186044416) :
    Calls Try.prog 49 #[.agg #[vN, vT, .int .i64 pt], .agg #[.int .i64 x.k, .int .i64 x.op, .int .i64 x.wd, vi, .string (S x.vl), .int .i64 x.hi, .int .i64 x.lo, .int .i64 x.tm]] w fun e w' => e = .returned (.int .i64 (opWs x (wsOf l x.ins))) ∧ Below w.heap.size w w' := by
  obtain ⟨ta, tn, tc, rfl⟩ := hT
  obtain ⟨k, op, wd, ins, vl, hi', lo, tm⟩ := x
  simp only at hi hin hm ⊢
  obtain ⟨na, nc, rfl, hnc, hN'⟩ := id hN
  obtain ⟨ia, ic, rfl, hic, hi''⟩ := id hi
  obtain ⟨n, hn⟩ : ∃ n, n = l.length := ⟨_, rfl⟩
  obtain ⟨m, hm'⟩ : ∃ m, m = ins.length := ⟨_, rfl⟩
  rw [← hn] at hnc hl hin ⊢ hN
  rw [← hm'] at hic hm hi ⊢
  have HN : Hid (NdsAt w (.slice na n nc) l) := hN
  have HI : Hid (IntsAt w (.slice ia m ic) ins) := hi
  have HIN : Hid (ins.all (inB n) = true) := hin
  have HW : Hid (l.all wideB = true) := hw
  have HNL : Hid (n = l.length) := hn
  have HML : Hid (m = ins.length) := hm'
  clear hN hi hin hw hn hm' hN' hi''
  obtain ⟨R, hR⟩ : ∃ R, R = opW op hi' lo (wsOf l ins).length (sumI (wsOf l ins)) (wn (wsOf l ins) 0) (wn (wsOf l ins) 1) (wn (wsOf l ins) 2) := ⟨_, rfl⟩
  have HR : Hid (R = opW op hi' lo (wsOf l ins).length (sumI (wsOf l ins)) (wn (wsOf l ins) 0) (wn (wsOf l ins) 1) (wn (wsOf l ins) 2)) := hR
  unfold opWs
  simp only
  rw [← hR]
  clear hR
  go_enter Try.func49, Try.ntmps49
  go_wp2
  go_loopw [5, 6, 7] (fun s5 s6 s7 W => ∃ (j : Nat) (ao : Option Addr) (cp : Nat), j ≤ m ∧ s7 = .int .i64 j ∧ s5 = .slice ao j cp ∧ s6 = .int .i64 (sumI (wsOf l (ins.take j))) ∧ Hid (W.ownsRow (w.heap.size + 1 + 1) 3 1 (.slice ao j cp) j (iC (wsOf l (ins.take j)))) ∧ Hid (S2 w (.cells #[.slice na n nc, .slice ta tn tc, .int .i64 pt] 26 (0, 0)) (.cells #[.int .i64 k, .int .i64 op, .int .i64 wd, .slice ia m ic, .string (S vl), .int .i64 hi', .int .i64 lo, .int .i64 tm] 47 (0, 0)) W)) (fun s5 s6 s7 W => m - (intOf s7).toNat)
  case atStart => exact ⟨0, none, 0, Nat.zero_le _, rfl, rfl, rfl, World.ownsRow_nil _ _ _ _, S2.start⟩
  case round =>
    obtain ⟨j, ao, cp, hj, rfl, rfl, rfl, HO, HS⟩ := hrel
    obtain ⟨sb1, sb2⟩ := sum_bd l (ins.take j) HW.out (by rw [HNL.out] at HIN; exact all_take HIN.out j)
    have sb3 : (ins.take j).length ≤ j := List.length_take_le _ _
    obtain ⟨b0, b1, b2⟩ := cells3n HS.out.x
    obtain ⟨c0, c1, c2, c3, c4, c5, c6, c7⟩ := cells8 HS.out.r
    obtain ⟨sm, hsm⟩ : ∃ sm, sm = sumI (wsOf l (ins.take j)) := ⟨_, rfl⟩
    rw [← hsm] at sb1 sb2 ⊢
    have HSM : Hid (sm = sumI (wsOf l (ins.take j))) := hsm
    clear hsm
    by_cases hlt : j < m
    · have hjl : j < ins.length := by rw [← HML.out]; exact hlt
      obtain ⟨i, hi1, hi2⟩ := in_at HIN.out hjl
      have hil : i < l.length := by rw [← HNL.out]; exact hi2
      obtain ⟨g, o, cap, hg⟩ := HN.out.some_ (by omega)
      obtain ⟨g2, o2, cap2, hg2⟩ := HI.out.some_ (by omega)
      injection hg with e1 e2 e3
      injection hg2 with e4 e5 e6
      subst e1 e4
      obtain ⟨gl, gd⟩ := HN.out.wd i hil
      obtain ⟨gl2, gd2⟩ := HI.out.cell j hjl
      rw [hi1] at gd2
      obtain ⟨wi, hwi⟩ : ∃ wi, wi = l[i].wd := ⟨_, rfl⟩
      rw [← hwi] at gd
      have d0 : wr.cell? ⟨g, o + i * 8 + 2, none⟩ = some (.int .i64 wi) := (HS.out.bel.cell (p := ⟨g, o + i * 8 + 2, none⟩) gl).trans gd
      have d1 : wr.cell? ⟨g2, o2 + j, none⟩ = some (.int .i64 i) := (HS.out.bel.cell (p := ⟨g2, o2 + j, none⟩) gl2).trans gd2
      have gz1 : g < wr.heap.size := Nat.lt_of_lt_of_le gl HS.out.bel.size
      have gz2 : g2 < wr.heap.size := Nat.lt_of_lt_of_le gl2 HS.out.bel.size
      have hz := hLt HS.out.r
      have i1 : (0 : Int) ≤ (i : Int) := by omega
      have i2 : (i : Int) < (n : Int) := by omega
      have j1 : (0 : Int) ≤ (j : Int) := by omega
      have j2 : (j : Int) < (m : Int) := by omega
      obtain ⟨wb1, wb2⟩ := wide_at HW.out hil
      rw [← hwi] at wb1 wb2
      have HWI : Hid (wi = l[i].wd) := hwi
      have HI1 : Hid (ins[j] = (i : Int)) := hi1
      clear hwi hi1 e2 e3 e5 e6
      have HOA := fun o' => World.ownsRow.alloc HO.out o'
      obtain ⟨i0, ti, tz0, tz1, tz2⟩ := infoInt
      go_wp2_with fail
      go_region_held3 (fun w' => w'.cell? ⟨w.heap.size, 0, none⟩ = some (.slice (some ⟨g, o, none⟩) n nc) ∧ w'.cell? ⟨w.heap.size + 1, 3, none⟩ = some (.slice (some ⟨g2, o2, none⟩) m ic) ∧ w'.cell? ⟨g2, o2 + j, none⟩ = some (.int .i64 i) ∧ w'.cell? ⟨g, o + i * 8 + 2, none⟩ = some (.int .i64 wi)) (go_keep) (first
        | (refine step_own rfl _ _ 24 rfl (w.heap.size + 1 + 1) 3 i0 _ 1 8 Try.underlying24 ti tz0 tz1 tz2 rfl (by decide) (.slice ao j cp) j (iC (wsOf l (ins.take j))) (by simp [Act.eval, Act.put]) (HOA _) ⟨wr.heap.size, 0, none⟩ 1 1 [.int .i64 wi] (by simp [Act.eval, Act.put]) rfl (new1i _ _ _ _ rfl) (one1 _) (by unfold maxLen; omega) (by omega) (by simp; omega) ?_; intro v7 w7 ho7 hg7; have HS7 : S2 w (.cells #[.slice (some ⟨g, o, none⟩) n nc, .slice ta tn tc, .int .i64 pt] 26 (0, 0)) (.cells #[.int .i64 k, .int .i64 op, .int .i64 wd, .slice (some ⟨g2, o2, none⟩) m ic, .string (S vl), .int .i64 hi', .int .i64 lo, .int .i64 tm] 47 (0, 0)) w7 := (by first | exact (S2.alloc HS.out).grown hg7 (own_ge HO.out) | exact (S2.alloc HS.out.drew).grown hg7 (own_ge HO.out) | exact (S2.drew (S2.alloc HS.out)).grown hg7 (own_ge HO.out)); obtain ⟨q0, q1, q2⟩ := cells3n HS7.x; obtain ⟨_, r1, _, r3, _, r5, r6, _⟩ := cells8 HS7.r; have r8 : w7.cell? ⟨g2, o2 + j, none⟩ = some (.int .i64 i) := (HS7.bel.cell (p := ⟨g2, o2 + j, none⟩) gl2).trans gd2; have r9 : w7.cell? ⟨g, o + i * 8 + 2, none⟩ = some (.int .i64 wi) := (HS7.bel.cell (p := ⟨g, o + i * 8 + 2, none⟩) gl).trans gd; obtain ⟨gq, cq, rfl⟩ := own_slice1 ho7; rw [← iC_one, ← iC_app] at ho7; have q9 : w7.cell? ⟨gq, j, none⟩ = some (.int .i64 wi) := own_last ho7 (by rw [wsOf_len, List.length_take]; omega)))
      all_goals go_wp2
      all_goals
        go_roundw
        case rel => exact ⟨j + 1, _, _, hlt, by go_num, rfl, by rw [wsOf_take l ins j hjl, sumI_snoc, HI1.out, wdAt_eq hil, ← HWI.out, ← HSM.out], by rw [wsOf_take l ins j hjl, HI1.out, wdAt_eq hil, ← HWI.out]; exact ho7, HS7⟩
        case measure => simp [intOf]; omega
    · obtain rfl : j = m := by omega
      have htk : ins.take j = ins := by rw [HML.out]; exact List.take_length
      have HO2 := HO.out
      rw [htk] at HO2
      have hsm := HSM.out
      rw [htk] at hsm
      have hwl : (wsOf l ins).length = j := by rw [wsOf_len]; exact HML.out.symm
      have hbl := HS.out.bel
      have hwb : ∀ i, i < j → 1 ≤ wn (wsOf l ins) i ∧ wn (wsOf l ins) i ≤ 256 := fun i hi => ws_bd HW.out (by rw [← HNL.out]; exact HIN.out) (by rw [← HML.out]; exact hi)
      have hR := HR.out
      clear HR
      generalize wsOf l ins = ws at HO2 hsm hwl hR hwb
      rw [← hsm, hwl] at hR
      have HR : Hid (R = opW op hi' lo j sm (wn ws 0) (wn ws 1) (wn ws 2)) := hR
      clear hR
      have HO3 : Hid (wr.ownsRow (w.heap.size + 1 + 1) 3 1 (.slice ao j cp) j (iC ws)) := HO2
      have HBL : Hid (Below w.heap.size w wr) := hbl
      have HWL : Hid (ws.length = j) := hwl
      have HWB : Hid (∀ i, i < j → 1 ≤ wn ws i ∧ wn ws i ≤ 256) := hwb
      have jb : (j : Int) ≤ 17592186044416 := by omega
      clear HO2 hsm hwl hbl hwb htk HSM HO HN HI HIN HW HNL HML HS b0 b1 b2 c0 c2 c4 c7 sb2 sb3 hj hlt hnc hic hl hm
      rcases (by omega : j = 0 ∨ j = 1 ∨ j = 2 ∨ j = 3 ∨ 4 ≤ j) with hc | hc | hc | hc | hc
      · have HC : Hid (j = 0) := hc
        have hR4 := opW_none op hi' lo sm (wn ws 0) (wn ws 1) (wn ws 2) (n := (j : Int)) (by omega)
        rw [← HR.out] at hR4
        clear HR
        have HR : Hid (R = -1) := hR4
        clear hR4
        have e1 : ((j : Int) == 1) = false := by simp; omega
        have e2 : ((j : Int) == 2) = false := by simp; omega
        have e3 : ((j : Int) == 3) = false := by simp; omega
        have e4 : ¬ (1 : Int) ≤ (j : Int) := by omega
        clear hc
        go_wp2_with fail
        all_goals first
          | (go_ret; refine ⟨ret_int HR.out.symm, HBL.out⟩)
          | (go_quiet (fail)
             all_goals go_wp2_with fail
             all_goals (go_ret; refine ⟨ret_int HR.out.symm, belDN HBL.out _⟩))
      · have HC : Hid (j = 1) := hc
        have hR4 := opW_one op hi' lo sm (wn ws 0) (wn ws 1) (wn ws 2) (n := (j : Int)) (by omega)
        rw [← HR.out] at hR4
        clear HR
        have HR : Hid (R = if op = 7 ∨ op = 9 then wn ws 0 else if op = 8 ∨ op = 10 ∨ op = 11 ∨ op = 12 then 1 else if op = 4 then (if 0 ≤ lo ∧ lo ≤ hi' ∧ hi' < wn ws 0 then hi' - lo + 1 else -1) else if op = 5 then sm else -1) := hR4
        clear hR4
        have e1 : ((j : Int) == 1) = true := by simp; omega
        have e2 : ((j : Int) == 2) = false := by simp; omega
        have e3 : ((j : Int) == 3) = false := by simp; omega
        obtain ⟨gq, rfl⟩ := own_pos HO3.out (by omega)
        have jp : (0 : Int) < (j : Int) := by omega
        have y0 := own_wn HO3.out 0 (by omega)
        obtain ⟨z1, z2⟩ := HWB.out 0 (by omega)
        generalize wn ws 0 = w0 at HR y0 z1 z2
        clear hc
        have P : (op = 4 ∧ 0 ≤ lo ∧ lo ≤ hi' ∧ hi' < w0) ∨ (op = 4 ∧ 0 ≤ lo ∧ lo ≤ hi' ∧ ¬ hi' < w0) ∨ (op = 4 ∧ 0 ≤ lo ∧ ¬ lo ≤ hi') ∨ (op = 4 ∧ ¬ 0 ≤ lo) ∨ ¬ op = 4 := by omega
        rcases P with ⟨rfl, p1, p2, p3⟩ | ⟨rfl, p1, p2, p3⟩ | ⟨rfl, p1, p2⟩ | ⟨rfl, p1⟩ | p1
        · skip
          go_wp2_with fail
          all_goals first
            | (go_ret; refine ⟨ret_int (by rw [HR.out]; clear HR HC HBL HO3 HWL HWB; simp_all <;> omega), HBL.out⟩)
            | (go_quiet (fail)
               all_goals go_wp2_with fail
               all_goals (go_ret; refine ⟨ret_int (by rw [HR.out]; clear HR HC HBL HO3 HWL HWB; simp_all <;> omega), belDN HBL.out _⟩))
        · have p4 : decide (hi' < w0) = false := by simpa using p3
          go_wp2_with fail
          all_goals first
            | (go_ret; refine ⟨ret_int (by rw [HR.out]; clear HR HC HBL HO3 HWL HWB; simp_all <;> omega), HBL.out⟩)
            | (go_quiet (fail)
               all_goals go_wp2_with fail
               all_goals (go_ret; refine ⟨ret_int (by rw [HR.out]; clear HR HC HBL HO3 HWL HWB; simp_all <;> omega), belDN HBL.out _⟩))
        · have p4 : decide (lo ≤ hi') = false := by simpa using p2
          go_wp2_with fail
          all_goals first
            | (go_ret; refine ⟨ret_int (by rw [HR.out]; clear HR HC HBL HO3 HWL HWB; simp_all <;> omega), HBL.out⟩)
            | (go_quiet (fail)
               all_goals go_wp2_with fail
               all_goals (go_ret; refine ⟨ret_int (by rw [HR.out]; clear HR HC HBL HO3 HWL HWB; simp_all <;> omega), belDN HBL.out _⟩))
        · have p4 : decide (0 ≤ lo) = false := by simpa using p1
          go_wp2_with fail
          all_goals first
            | (go_ret; refine ⟨ret_int (by rw [HR.out]; clear HR HC HBL HO3 HWL HWB; simp_all <;> omega), HBL.out⟩)
            | (go_quiet (fail)
               all_goals go_wp2_with fail
               all_goals (go_ret; refine ⟨ret_int (by rw [HR.out]; clear HR HC HBL HO3 HWL HWB; simp_all <;> omega), belDN HBL.out _⟩))
        · skip
          go_wp2_with fail
          all_goals first
            | (go_ret; refine ⟨ret_int (by rw [HR.out]; clear HR HC HBL HO3 HWL HWB; simp_all <;> omega), HBL.out⟩)
            | (go_quiet (fail)
               all_goals go_wp2_with fail
               all_goals (go_ret; refine ⟨ret_int (by rw [HR.out]; clear HR HC HBL HO3 HWL HWB; simp_all <;> omega), belDN HBL.out _⟩))
      · have HC : Hid (j = 2) := hc
        have hR4 := opW_two op hi' lo sm (wn ws 0) (wn ws 1) (wn ws 2) (n := (j : Int)) (by omega)
        rw [← HR.out] at hR4
        clear HR
        have HR : Hid (R = if op = 13 ∨ op = 14 ∨ op = 23 ∨ op = 25 ∨ op = 24 then (if wn ws 0 = wn ws 1 then wn ws 0 else -1) else if op = 15 ∨ op = 16 then wn ws 0 else if op = 17 ∨ op = 18 ∨ op = 19 ∨ op = 20 ∨ op = 21 ∨ op = 22 then (if wn ws 0 = wn ws 1 then 1 else -1) else if op = 26 ∨ op = 27 ∨ op = 3 then 1 else if op = 5 then sm else -1) := hR4
        clear hR4
        have e1 : ((j : Int) == 1) = false := by simp; omega
        have e2 : ((j : Int) == 2) = true := by simp; omega
        have e3 : ((j : Int) == 3) = false := by simp; omega
        obtain ⟨gq, rfl⟩ := own_pos HO3.out (by omega)
        have jp : (0 : Int) < (j : Int) := by omega
        have y0 := own_wn HO3.out 0 (by omega)
        have jq : (1 : Int) < (j : Int) := by omega
        have y1 := own_wn HO3.out 1 (by omega)
        obtain ⟨z1, z2⟩ := HWB.out 0 (by omega)
        generalize wn ws 0 = w0 at HR y0 z1 z2
        generalize wn ws 1 = w1 at HR y1
        clear hc
        go_wp2_with fail
        all_goals first
          | (go_ret; refine ⟨ret_int (by rw [HR.out]; clear HR HC HBL HO3 HWL HWB; simp_all <;> omega), HBL.out⟩)
          | (go_quiet (fail)
             all_goals go_wp2_with fail
             all_goals (go_ret; refine ⟨ret_int (by rw [HR.out]; clear HR HC HBL HO3 HWL HWB; simp_all <;> omega), belDN HBL.out _⟩))
      · have HC : Hid (j = 3) := hc
        have hR4 := opW_three op hi' lo sm (wn ws 0) (wn ws 1) (wn ws 2) (n := (j : Int)) (by omega)
        rw [← HR.out] at hR4
        clear HR
        have HR : Hid (R = if op = 6 then (if wn ws 1 = wn ws 2 then wn ws 1 else -1) else if op = 5 then sm else -1) := hR4
        clear hR4
        have e1 : ((j : Int) == 1) = false := by simp; omega
        have e2 : ((j : Int) == 2) = false := by simp; omega
        have e3 : ((j : Int) == 3) = true := by simp; omega
        obtain ⟨gq, rfl⟩ := own_pos HO3.out (by omega)
        have jp : (0 : Int) < (j : Int) := by omega
        have y0 := own_wn HO3.out 0 (by omega)
        have jq : (1 : Int) < (j : Int) := by omega
        have y1 := own_wn HO3.out 1 (by omega)
        have jr : (2 : Int) < (j : Int) := by omega
        have y2 := own_wn HO3.out 2 (by omega)
        obtain ⟨z1, z2⟩ := HWB.out 0 (by omega)
        generalize wn ws 0 = w0 at HR y0 z1 z2
        generalize wn ws 1 = w1 at HR y1
        generalize wn ws 2 = w2 at HR y2
        clear hc
        go_wp2_with fail
        all_goals first
          | (go_ret; refine ⟨ret_int (by rw [HR.out]; clear HR HC HBL HO3 HWL HWB; simp_all <;> omega), HBL.out⟩)
          | (go_quiet (fail)
             all_goals go_wp2_with fail
             all_goals (go_ret; refine ⟨ret_int (by rw [HR.out]; clear HR HC HBL HO3 HWL HWB; simp_all <;> omega), belDN HBL.out _⟩))
      · have HC : Hid (4 ≤ j) := hc
        have e1 : ((j : Int) == 1) = false := by simp; omega
        have e2 : ((j : Int) == 2) = false := by simp; omega
        have e3 : ((j : Int) == 3) = false := by simp; omega
        have e4 : (1 : Int) ≤ (j : Int) := by omega
        have hR4 := opW_many op hi' lo sm (wn ws 0) (wn ws 1) (wn ws 2) (n := (j : Int)) (by omega)
        rw [← HR.out] at hR4
        clear HR
        have HR : Hid (R = if op = 5 ∧ (j : Int) ≤ 256 then sm else -1) := hR4
        clear hc hR4
        go_wp2_with fail
        all_goals first
          | (go_ret; refine ⟨ret_int (by rw [HR.out]; clear HR HC HBL HO3 HWL HWB; simp_all <;> omega), HBL.out⟩)
          | (go_quiet (fail)
             all_goals go_wp2_with fail
             all_goals (go_ret; refine ⟨ret_int (by rw [HR.out]; clear HR HC HBL HO3 HWL HWB; simp_all <;> omega), belDN HBL.out _⟩))
end Go.Proofs.Ytkgonnnpoldcoaa

/- The reference's node: may a node be? -/
namespace Go.Proofs.Ytkgonnnpoldcoaa
open Go.RowKit Lg Nl Go.Maps
set_option linter.unusedVariables false
set_option linter.unusedSimpArgs false

/-- the first three widths, as far as they were read -/
def nw (ws : List Int) (i q : Nat) : Int := if q < i then wn ws q else 0
def nodeA (x : Nd) (ws : List Int) (m a0 a1 a2 : Int) : Bool :=
  if x.k = 1 then decide (m = 0) && vec x.vl && decide ((x.vl.length : Int) = x.wd)
  else if x.k = 2 then decide (m = 0)
  else if x.k = 3 then decide (opWs x ws = x.wd)
  else if x.k = 4 then decide (m = 3 ∧ a1 = x.wd ∧ a2 = x.wd)
  else if x.k = 5 then decide (m = 2 ∧ a0 = a1 ∧ x.wd = 1)
  else if x.k = 6 then decide (m = 1)
  else if x.k = 7 then decide (m = 2 ∧ a1 = x.wd)
  else if x.k = 8 then decide (m = 1 ∧ a0 = x.wd ∧ 1 ≤ x.tm ∧ x.tm ≤ 1048576)
  else false
theorem nodeA_eq (x : Nd) (ws : List Int) (t : Nat) (ht : t = min ws.length 3) : nodeB x ws = nodeA x ws ws.length (nw ws t 0) (nw ws t 1) (nw ws t 2) := by
  unfold nodeB nodeA nw
  repeat' split
  all_goals first
    | rfl
    | (rw [decide_eq_decide]; omega)
    | (congr 1; rw [decide_eq_decide]; omega)
    | (congr 2; rw [decide_eq_decide]; omega)
theorem nw_step (ws : List Int) (i q : Nat) : nw ws (i + 1) q = if q = i then wn ws i else nw ws i q := by
  unfold nw
  by_cases h : q = i
  · subst h; simp
  · rw [if_neg h]
    by_cases h2 : q < i
    · rw [if_pos (by omega), if_pos h2]
    · rw [if_neg (by omega), if_neg h2]
theorem ksd {w : World} {b o b' j : Nat} {y : Value} {v : Option Value} (hne : b ≠ b') (h : w.cell? ⟨b, o, none⟩ = v) : (w.setCell ⟨b', j, none⟩ y).drew.cell? ⟨b, o, none⟩ = v := by
  show (w.setCell ⟨b', j, none⟩ y).cell? ⟨b, o, none⟩ = v
  rw [World.cell?_of_block (w := w) (a := ⟨b, o, none⟩) (Below.heap_setCell _ _ _ _ hne)]; exact h
theorem wn_at {l : List Nd} {ins ws : List Int} (h : ws = wsOf l ins) {j : Nat} (hj : j < ins.length) : wn ws j = wdAt l ins[j] := by
  subst h
  unfold wn wsOf
  rw [List.getD_eq_getElem?_getD, List.getElem?_map, List.getElem?_eq_getElem hj]
  rfl
theorem rowCast {w : World} {b b' n : Nat} {t : TypeId} {f : Nat → Value} (h : w.rowIs b t n f) (e : b = b') : w.rowIs b' t n f := e ▸ h
theorem S2.setB {w W : World} {bx rs : Obj} (h : S2 w bx rs W) {b j : Nat} {v : Value} (hb : w.heap.size + 2 ≤ b) : S2 w bx rs (W.setCell ⟨b, j, none⟩ v) :=
  ⟨h.bel.setCell (by show w.heap.size ≤ b; omega) _, (Below.heap_setCell _ _ _ _ (by show w.heap.size ≠ b; omega)).trans h.x, (Below.heap_setCell _ _ _ _ (by show w.heap.size + 1 ≠ b; omega)).trans h.r⟩

set_option maxRecDepth 100000 in
set_option maxHeartbeats 4000000 in
theorem node_c (l : List Nd) (x : Nd) (vN vT vi : Value) (pt : Int) (w : World) (hT : ∃ ao n c, vT = .slice ao n c) (hN : NdsAt w vN l) (hi : IntsAt w vi x.ins) (hin : x.ins.all (inB l.length) = true) (hw : l.all wideB = true) (hl : l.length ≤ 4096) (hm : x.ins.length ≤ 17592186044416) (hv : x.vl.length ≤ 140737488355328) :
    Calls Try.prog 31 #[.agg #[vN, vT, .int .i64 pt], .agg #[.int .i64 x.k, .int .i64 x.op, .int .i64 x.wd, vi, .string (S x.vl), .int .i64 x.hi, .int .i64 x.lo, .int .i64 x.tm]] w fun e w' => e = .returned (.bool (nodeB x (wsOf l x.ins))) ∧ Below w.heap.size w w' := by
  obtain ⟨ta, tn, tc, rfl⟩ := hT
  have HOP : Hid (∀ W, Below w.heap.size w W → Calls Try.prog 49 #[.agg #[vN, .slice ta tn tc, .int .i64 pt], .agg #[.int .i64 x.k, .int .i64 x.op, .int .i64 x.wd, vi, .string (S x.vl), .int .i64 x.hi, .int .i64 x.lo, .int .i64 x.tm]] W fun e w' => e = .returned (.int .i64 (opWs x (wsOf l x.ins))) ∧ Below W.heap.size W w') := fun W hW => operated_c l x vN _ vi pt (.bool true) W ⟨_, _, _, rfl⟩ (hN.below hW) (hi.below hW) hin hw hl hm
  obtain ⟨t, ht⟩ : ∃ t, t = min (wsOf l x.ins).length 3 := ⟨_, rfl⟩
  rw [nodeA_eq x (wsOf l x.ins) t ht]
  rw [wsOf_len] at ht ⊢
  obtain ⟨ow, how⟩ : ∃ ow, ow = opWs x (wsOf l x.ins) := ⟨_, rfl⟩
  rw [← how] at HOP
  obtain ⟨k, op, wd, ins, vl, hi', lo, tm⟩ := x
  simp only at hi hin hm HOP ht hv ⊢
  obtain ⟨na, nc, rfl, hnc, hN'⟩ := id hN
  obtain ⟨ia, ic, rfl, hic, hi''⟩ := id hi
  obtain ⟨n, hn⟩ : ∃ n, n = l.length := ⟨_, rfl⟩
  obtain ⟨m, hm'⟩ : ∃ m, m = ins.length := ⟨_, rfl⟩
  rw [← hn] at hnc hl hin HOP ⊢ hN
  rw [← hm'] at hic hm hi ht HOP ⊢
  have HN : Hid (NdsAt w (.slice na n nc) l) := hN
  have HI : Hid (IntsAt w (.slice ia m ic) ins) := hi
  have HIN : Hid (ins.all (inB n) = true) := hin
  have HW : Hid (l.all wideB = true) := hw
  have HNL : Hid (n = l.length) := hn
  have HML : Hid (m = ins.length) := hm'
  have HT : Hid (t = min m 3) := ht
  obtain ⟨R, hR⟩ : ∃ R, R = nodeA ⟨k, op, wd, ins, vl, hi', lo, tm⟩ (wsOf l ins) m (nw (wsOf l ins) t 0) (nw (wsOf l ins) t 1) (nw (wsOf l ins) t 2) := ⟨_, rfl⟩
  have HR : Hid (R = nodeA ⟨k, op, wd, ins, vl, hi', lo, tm⟩ (wsOf l ins) m (nw (wsOf l ins) t 0) (nw (wsOf l ins) t 1) (nw (wsOf l ins) t 2)) := hR
  have HOW : Hid (ow = opWs ⟨k, op, wd, ins, vl, hi', lo, tm⟩ (wsOf l ins)) := how
  rw [← hR]
  clear hN hi hin hw hn hm' hN' hi'' hR how ht
  obtain ⟨ws, hws⟩ : ∃ ws, ws = wsOf l ins := ⟨_, rfl⟩
  rw [← hws] at HR HOW
  have HWS : Hid (ws = wsOf l ins) := hws
  clear hws
  go_enter Try.func31, Try.ntmps31
  go_wp2
  go_loopw [7] (fun s7 W => ∃ (j : Nat), j ≤ t ∧ s7 = .int .i64 j ∧ Hid (S2 w (.cells #[.slice na n nc, .slice ta tn tc, .int .i64 pt] 26 (0, 0)) (.cells #[.int .i64 k, .int .i64 op, .int .i64 wd, .slice ia m ic, .string (S vl), .int .i64 hi', .int .i64 lo, .int .i64 tm] 47 (0, 0)) W) ∧ Hid (W.rowIs (w.heap.size + 1 + 1) 3 3 (fun q => .int .i64 (nw ws j q)))) (fun s7 W => t - (intOf s7).toNat)
  case atStart => exact ⟨0, Nat.zero_le _, rfl, S2.alloc S2.start, rowCast (World.rowIs_alloc ((w.alloc (.cells #[.slice na n nc, .slice ta tn tc, .int .i64 pt] 26 (0, 0))).alloc (.cells #[.int .i64 k, .int .i64 op, .int .i64 wd, .slice ia m ic, .string (S vl), .int .i64 hi', .int .i64 lo, .int .i64 tm] 47 (0, 0))) #[.int .i64 0, .int .i64 0, .int .i64 0] 3 (fun q => .int .i64 (nw ws 0 q)) (by intro q hq; match q, hq with | 0, _ => rfl | 1, _ => rfl | 2, _ => rfl)) (by simp)⟩
  case round =>
    obtain ⟨j, hj, rfl, HS, HQ⟩ := hrel
    have ht := HT.out
    obtain ⟨b0, b1, b2⟩ := cells3n HS.out.x
    obtain ⟨c0, c1, c2, c3, c4, c5, c6, c7⟩ := cells8 HS.out.r
    by_cases hlt : j < t
    · have hjm : j < m := by omega
      have hj3 : j < 3 := by omega
      have hjl : j < ins.length := by rw [← HML.out]; exact hjm
      obtain ⟨i, hi1, hi2⟩ := in_at HIN.out hjl
      have hil : i < l.length := by rw [← HNL.out]; exact hi2
      obtain ⟨g, o, cap, hg⟩ := HN.out.some_ (by omega)
      obtain ⟨g2, o2, cap2, hg2⟩ := HI.out.some_ (by omega)
      injection hg with e1 e2 e3
      injection hg2 with e4 e5 e6
      subst e1 e4
      obtain ⟨gl, gd⟩ := HN.out.wd i hil
      obtain ⟨gl2, gd2⟩ := HI.out.cell j hjl
      rw [hi1] at gd2
      obtain ⟨wi, hwi⟩ : ∃ wi, wi = l[i].wd := ⟨_, rfl⟩
      rw [← hwi] at gd
      have d0 : wr.cell? ⟨g, o + i * 8 + 2, none⟩ = some (.int .i64 wi) := (HS.out.bel.cell (p := ⟨g, o + i * 8 + 2, none⟩) gl).trans gd
      have d1 : wr.cell? ⟨g2, o2 + j, none⟩ = some (.int .i64 i) := (HS.out.bel.cell (p := ⟨g2, o2 + j, none⟩) gl2).trans gd2
      have hz := HQ.out.lt
      have n1 : g ≠ w.heap.size + 1 + 1 := by omega
      have n2 : g2 ≠ w.heap.size + 1 + 1 := by omega
      have n3 : w.heap.size ≠ w.heap.size + 1 + 1 := by omega
      have n4 : w.heap.size + 1 ≠ w.heap.size + 1 + 1 := by omega
      have qf := HQ.out.frozen j
      have qc := HQ.out.cell hj3
      have i1 : (0 : Int) ≤ (i : Int) := by omega
      have i2 : (i : Int) < (n : Int) := by omega
      have j1 : (0 : Int) ≤ (j : Int) := by omega
      have j2 : (j : Int) < (m : Int) := by omega
      have j3 : (j : Int) < 3 := by omega
      have HWI : Hid (wi = l[i].wd) := hwi
      have HI1 : Hid (ins[j] = (i : Int)) := hi1
      clear hwi hi1 e2 e3 e5 e6 ht
      go_wp2_with fail
      go_region_held3 (fun w' => w'.cell? ⟨w.heap.size, 0, none⟩ = some (.slice (some ⟨g, o, none⟩) n nc) ∧ w'.cell? ⟨w.heap.size + 1, 3, none⟩ = some (.slice (some ⟨g2, o2, none⟩) m ic) ∧ w'.cell? ⟨g2, o2 + j, none⟩ = some (.int .i64 i) ∧ w'.cell? ⟨g, o + i * 8 + 2, none⟩ = some (.int .i64 wi)) (first | exact ⟨ksd n3 b0, ksd n4 c3, ksd n2 d1, ksd n1 d0⟩ | go_keep) (fail)
      all_goals go_wp2_with fail
      all_goals
        go_roundw
        case rel =>
          refine ⟨j + 1, hlt, by go_num, (S2.setB HS.out (Nat.le_refl _)).drew, ?_⟩
          refine (World.rowIs.congr (World.rowIs.drew (World.rowIs.set HQ.out j (.int .i64 wi))) (fun q hq => ?_))
          show (if q = j then Value.int .i64 wi else .int .i64 (nw ws j q)) = _
          rw [nw_step, wn_at HWS.out hjl, HI1.out, wdAt_eq hil, ← HWI.out]
          split <;> rfl
        case measure => simp [intOf]; omega
    · obtain rfl : j = t := by omega
      have hbl := HS.out.bel
      have HBL : Hid (Below w.heap.size w wr) := hbl
      have lx := hLt HS.out.x
      have lr := hLt HS.out.r
      have y0 := HQ.out.cell (i := 0) (by omega)
      have y1 := HQ.out.cell (i := 1) (by omega)
      have y2 := HQ.out.cell (i := 2) (by omega)
      generalize nw ws j 0 = a0 at HR y0
      generalize nw ws j 1 = a1 at HR y1
      generalize nw ws j 2 = a2 at HR y2
      clear HS HQ HN HI HIN HW HNL HML HWS hj hlt hnc hic hl hbl
      have hend : (¬ (j : Int) < (m : Int)) ∨ ((j : Int) < (m : Int) ∧ ¬ (j : Int) < 3) := by omega
      have mb : (m : Int) ≤ 17592186044416 := by omega
      have vb : (vl.length : Int) ≤ 140737488355328 := by omega
      clear ht HT hm hv
      rcases hend with h1 | ⟨h1, h2⟩
      all_goals
        rcases (by omega : k = 1 ∨ k = 2 ∨ k = 3 ∨ k = 4 ∨ k = 5 ∨ k = 6 ∨ k = 7 ∨ k = 8 ∨ (k ≠ 1 ∧ k ≠ 2 ∧ k ≠ 3 ∧ k ≠ 4 ∧ k ≠ 5 ∧ k ≠ 6 ∧ k ≠ 7 ∧ k ≠ 8)) with rfl | rfl | rfl | rfl | rfl | rfl | rfl | rfl | hk
        · have hR : R = (decide ((m : Int) = 0) && vec vl && decide ((vl.length : Int) = wd)) := HR.out.trans (by simp [nodeA])
          clear HR
          have HR : Hid _ := hR
          clear hR
          go_wp2_with (first | (go_at_call 48; refine (may_c _ _ (by rw [size_S]; unfold maxLen; omega)).mono ?_; rintro e w' ⟨rfl, rfl⟩))
          all_goals (go_ret; exact ⟨ret_bool (by have hR := HR.out; rw [hR, Bool.eq_iff_iff]; clear hR HR; simp_all [L_S, size_S]), HBL.out⟩)
        · have hR : R = decide ((m : Int) = 0) := HR.out.trans (by simp [nodeA])
          clear HR
          have HR : Hid _ := hR
          clear hR
          go_wp2_with fail
          all_goals (go_ret; exact ⟨ret_bool (by have hR := HR.out; rw [hR, Bool.eq_iff_iff]; clear hR HR; simp_all), HBL.out⟩)
        · have hR : R = decide (ow = wd) := HR.out.trans (by simp [nodeA]; rw [HOW.out])
          clear HR
          have HR : Hid _ := hR
          clear hR
          go_wp2_with fail
          go_region_held3 (fun w' => w'.cell? ⟨w.heap.size, 0, none⟩ = some (.slice na n nc) ∧ w'.cell? ⟨w.heap.size, 1, none⟩ = some (.slice ta tn tc) ∧ w'.cell? ⟨w.heap.size, 2, none⟩ = some (.int .i64 pt) ∧ w'.cell? ⟨w.heap.size + 1, 0, none⟩ = some (.int .i64 3) ∧ w'.cell? ⟨w.heap.size + 1, 1, none⟩ = some (.int .i64 op) ∧ w'.cell? ⟨w.heap.size + 1, 2, none⟩ = some (.int .i64 wd) ∧ w'.cell? ⟨w.heap.size + 1, 3, none⟩ = some (.slice ia m ic) ∧ w'.cell? ⟨w.heap.size + 1, 4, none⟩ = some (.string (S vl)) ∧ w'.cell? ⟨w.heap.size + 1, 5, none⟩ = some (.int .i64 hi') ∧ w'.cell? ⟨w.heap.size + 1, 6, none⟩ = some (.int .i64 lo) ∧ w'.cell? ⟨w.heap.size + 1, 7, none⟩ = some (.int .i64 tm)) (go_keep) (first | (go_at_call 49; refine (HOP.out _ (by first | exact HBL.out | exact HBL.out.drew)).mono ?_; rintro e w5 ⟨rfl, hb5⟩; have hb6 : Below wr.heap.size wr w5 := (by first | exact hb5 | exact bel belD hb5); have BB := bel HBL.out hb6; have z0 := (hb6.cell (p := ⟨w.heap.size, 0, none⟩) lx).trans b0; have z1 := (hb6.cell (p := ⟨w.heap.size, 1, none⟩) lx).trans b1; have z2 := (hb6.cell (p := ⟨w.heap.size, 2, none⟩) lx).trans b2; have x0 := (hb6.cell (p := ⟨w.heap.size + 1, 0, none⟩) lr).trans c0; have x1 := (hb6.cell (p := ⟨w.heap.size + 1, 1, none⟩) lr).trans c1; have x2 := (hb6.cell (p := ⟨w.heap.size + 1, 2, none⟩) lr).trans c2; have x3 := (hb6.cell (p := ⟨w.heap.size + 1, 3, none⟩) lr).trans c3; have x4 := (hb6.cell (p := ⟨w.heap.size + 1, 4, none⟩) lr).trans c4; have x5 := (hb6.cell (p := ⟨w.heap.size + 1, 5, none⟩) lr).trans c5; have x6 := (hb6.cell (p := ⟨w.heap.size + 1, 6, none⟩) lr).trans c6; have x7 := (hb6.cell (p := ⟨w.heap.size + 1, 7, none⟩) lr).trans c7))
          all_goals (go_wp2_with fail; go_ret; exact ⟨ret_bool (by have hR := HR.out; rw [hR, Bool.eq_iff_iff]; simp), BB⟩)
        · have hR : R = decide ((m : Int) = 3 ∧ a1 = wd ∧ a2 = wd) := HR.out.trans (by simp [nodeA])
          clear HR
          have P : (((m : Int) == 3) = false) ∨ (((m : Int) == 3) = true ∧ (a1 == wd) = false) ∨ (((m : Int) == 3) = true ∧ (a1 == wd) = true) := by cases (((m : Int) == 3)) <;> cases ((a1 == wd)) <;> simp
          rcases P with f0 | ⟨f0, f1⟩ | ⟨f0, f1⟩
          all_goals
            go_wp2_with fail
            go_quiet (fail)
            go_wp2_with fail
            go_ret
            exact ⟨ret_bool (by rw [hR, Bool.eq_iff_iff]; clear hR; simp_all <;> omega), belDN HBL.out _⟩
        · have hR : R = decide ((m : Int) = 2 ∧ a0 = a1 ∧ wd = 1) := HR.out.trans (by simp [nodeA])
          clear HR
          have P : (((m : Int) == 2) = false) ∨ (((m : Int) == 2) = true ∧ (a0 == a1) = false) ∨ (((m : Int) == 2) = true ∧ (a0 == a1) = true) := by cases (((m : Int) == 2)) <;> cases ((a0 == a1)) <;> simp
          rcases P with f0 | ⟨f0, f1⟩ | ⟨f0, f1⟩
          all_goals
            go_wp2_with fail
            go_quiet (fail)
            go_wp2_with fail
            go_ret
            exact ⟨ret_bool (by rw [hR, Bool.eq_iff_iff]; clear hR; simp_all <;> omega), belDN HBL.out _⟩
        · have hR : R = decide ((m : Int) = 1) := HR.out.trans (by simp [nodeA])
          clear HR
          have HR : Hid _ := hR
          clear hR
          go_wp2_with fail
          all_goals (go_ret; exact ⟨ret_bool (by have hR := HR.out; rw [hR, Bool.eq_iff_iff]; clear hR HR; simp_all), HBL.out⟩)
        · have hR : R = decide ((m : Int) = 2 ∧ a1 = wd) := HR.out.trans (by simp [nodeA])
          clear HR
          have P : (((m : Int) == 2) = false) ∨ (((m : Int) == 2) = true) := by cases (((m : Int) == 2)) <;> simp
          rcases P with f0 | f0
          all_goals
            go_wp2_with fail
            go_quiet (fail)
            go_wp2_with fail
            go_ret
            exact ⟨ret_bool (by rw [hR, Bool.eq_iff_iff]; clear hR; simp_all <;> omega), belDN HBL.out _⟩
        · have hR : R = decide ((m : Int) = 1 ∧ a0 = wd ∧ 1 ≤ tm ∧ tm ≤ 1048576) := HR.out.trans (by simp [nodeA])
          clear HR
          have P : (((m : Int) == 1) = false) ∨ (((m : Int) == 1) = true ∧ (a0 == wd) = false) ∨ (((m : Int) == 1) = true ∧ (a0 == wd) = true ∧ decide (1 ≤ tm) = false) ∨ (((m : Int) == 1) = true ∧ (a0 == wd) = true ∧ decide (1 ≤ tm) = true) := by cases (((m : Int) == 1)) <;> cases ((a0 == wd)) <;> cases (decide (1 ≤ tm)) <;> simp
          rcases P with f0 | ⟨f0, f1⟩ | ⟨f0, f1, f2⟩ | ⟨f0, f1, f2⟩
          all_goals
            go_wp2_with fail
            go_quiet (fail)
            go_wp2_with fail
            go_ret
            exact ⟨ret_bool (by rw [hR, Bool.eq_iff_iff]; clear hR; simp_all <;> omega), belDN HBL.out _⟩
        · obtain ⟨k1, k2, k3, k4, k5, k6, k7, k8⟩ := hk
          have hR : R = false := HR.out.trans (by simp [nodeA, *])
          have g1 : (k == 1) = false := by simpa using k1
          have g2 : (k == 2) = false := by simpa using k2
          have g3 : (k == 3) = false := by simpa using k3
          have g4 : (k == 4) = false := by simpa using k4
          have g5 : (k == 5) = false := by simpa using k5
          have g6 : (k == 6) = false := by simpa using k6
          have g7 : (k == 7) = false := by simpa using k7
          have g8 : (k == 8) = false := by simpa using k8
          have HR2 : Hid (R = false) := hR
          clear HR hR k1 k2 k3 k4 k5 k6 k7 k8
          go_wp2_with fail
          go_ret
          exact ⟨ret_bool HR2.out.symm, HBL.out⟩
end Go.Proofs.Ytkgonnnpoldcoaa
