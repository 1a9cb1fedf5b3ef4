/- How soon parts reach one another: the program's ahead. -/
import Derived.Test.YtkgonnnpoldcoaaRJ
import Derived.Test.YtkgonnnpoldcoaaRD
namespace Go.Proofs.Ytkgonnnpoldcoaa
open Go.RowKit Lg Nl Go.Maps
set_option linter.unusedVariables false
set_option linter.unusedSimpArgs false
set_option maxRecDepth 100000

/-- a square of numbers in blocks of its own -/
structure Mx (B N M : Nat) (R : Nat → Nat) (A : Nat → Nat → Int) (W : World) : Prop where
  m : W.rowIs M 24 N (fun i => .slice (some ⟨R i, 0, none⟩) N N)
  r : ∀ i, i < N → W.rowIs (R i) 3 N (fun k => .int .i64 (A i k))
  bm : B ≤ M
  br : ∀ i, i < N → B ≤ R i
  dm : ∀ i, i < N → R i ≠ M
  dr : ∀ i j, i < N → j < N → R i = R j → i = j
theorem Mx.keep {B N M : Nat} {R : Nat → Nat} {A : Nat → Nat → Int} {W W' : World} (h : Mx B N M R A W) (hb : ∀ k, B ≤ k → k < W.heap.size → W'.heap[k]? = W.heap[k]?) : Mx B N M R A W' :=
  ⟨h.m.of_block (hb M h.bm h.m.lt), fun i hi => (h.r i hi).of_block (hb _ (h.br i hi) (h.r i hi).lt), h.bm, h.br, h.dm, h.dr⟩
theorem Mx.congr {B N M : Nat} {R : Nat → Nat} {A A' : Nat → Nat → Int} {W : World} (h : Mx B N M R A W) (e : ∀ i k, i < N → k < N → A i k = A' i k) : Mx B N M R A' W :=
  ⟨h.m, fun i hi => (h.r i hi).congr (fun k hk => by rw [e i k hi hk]), h.bm, h.br, h.dm, h.dr⟩
theorem Mx.set {B N M : Nat} {R : Nat → Nat} {A : Nat → Nat → Int} {W : World} (h : Mx B N M R A W) {i k : Nat} (hi : i < N) (v : Int) : Mx B N M R (fun x y => if x = i ∧ y = k then v else A x y) (W.setCell ⟨R i, k, none⟩ (.int .i64 v)) := by
  refine ⟨h.m.setOther (h.dm i hi).symm _, fun x hx => ?_, h.bm, h.br, h.dm, h.dr⟩
  by_cases e : x = i
  · subst e
    refine ((h.r x hx).set k _).congr (fun y _ => ?_)
    by_cases e2 : y = k
    · subst e2; simp
    · simp [e2]
  · refine ((h.r x hx).setOther (fun e2 => e (h.dr x i hx hi e2)) _).congr (fun y _ => by simp [e])
/-- while the rows are made -/
structure Mk0 (B N M i : Nat) (R : Nat → Nat) (W : World) : Prop where
  m : W.rowIs M 24 N (fun q => if q < i then .slice (some ⟨R q, 0, none⟩) N N else .slice none 0 0)
  r : ∀ q, q < i → W.rowIs (R q) 3 N (fun _ => .int .i64 0)
  bm : B ≤ M
  br : ∀ q, q < i → B ≤ R q
  dm : ∀ q, q < i → R q ≠ M
  dr : ∀ q j, q < i → j < i → R q = R j → q = j
theorem Mk0.step {B N M i : Nat} {R : Nat → Nat} {W : World} (h : Mk0 B N M i R W) (hi : i < N) (hB : B ≤ W.heap.size) : Mk0 B N M (i + 1) (upd R i W.heap.size) ((W.setCell ⟨M, i, none⟩ (.slice (some ⟨W.heap.size, 0, none⟩) N N)).alloc (.cells (madeCells #[.int .i64 0] N) 3)) := by
  have hml := h.m.lt
  have es : (W.setCell ⟨M, i, none⟩ (.slice (some ⟨W.heap.size, 0, none⟩) N N)).heap.size = W.heap.size := by simp [World.setCell]
  have e1 : ∀ q, q < i + 1 → q ≠ i → q < i := fun q a b => by omega
  refine ⟨?_, fun q hq => ?_, h.bm, fun q hq => ?_, fun q hq => ?_, fun q j hq hj e => ?_⟩
  · refine World.rowIs.alloc ((h.m.set i _).congr (fun q _ => ?_)) _
    by_cases e : q = i
    · subst e; rw [if_pos rfl, if_pos (Nat.lt_succ_self _), upd_at]
    · rw [if_neg e, upd_ne _ _ e]
      by_cases h2 : q < i
      · rw [if_pos h2, if_pos (by omega)]
      · rw [if_neg h2, if_neg (by omega)]
  · by_cases e : q = i
    · subst e; rw [upd_at]; have h9 := World.rowIs_made (W.setCell ⟨M, q, none⟩ (.slice (some ⟨W.heap.size, 0, none⟩) N N)) (.int .i64 0) N 3; rw [es] at h9; exact h9
    · rw [upd_ne _ _ e]; exact World.rowIs.alloc ((h.r q (e1 q hq e)).setOther (h.dm q (e1 q hq e)) _) _
  · by_cases e : q = i
    · subst e; rw [upd_at]; exact hB
    · rw [upd_ne _ _ e]; exact h.br q (e1 q hq e)
  · by_cases e : q = i
    · subst e; rw [upd_at]; omega
    · rw [upd_ne _ _ e]; exact h.dm q (e1 q hq e)
  · by_cases e2 : q = i
    · by_cases e3 : j = i
      · omega
      · subst e2; rw [upd_at, upd_ne _ _ e3] at e; have := (h.r j (e1 j hj e3)).lt; omega
    · by_cases e3 : j = i
      · subst e3; rw [upd_at, upd_ne _ _ e2] at e; have := (h.r q (e1 q hq e2)).lt; omega
      · rw [upd_ne _ _ e2, upd_ne _ _ e3] at e; exact h.dr q j (e1 q hq e2) (e1 j hj e3) e
theorem mkRows (n : Nat) (hn : n ≤ 1000000) : ∀ w : World, (Instr.makeSlice 28 (.int .i64 (n : Int)) (.int .i64 (n : Int))).run Try.prog w = .ok (.slice (some ⟨w.heap.size, 0, none⟩) n n) (w.alloc (.cells (madeCells #[.slice none 0 0] n) 24)) := fun w =>
  run_make_row' (P := Try.prog) 28 24 (.slice none 0 0) 24 Try.underlying28 (by kernel_rfl) rfl .i64 .i64 n (by omega) (by omega) w
/-- a node that is no delay changes nothing -/
theorem aTo_no {l : List Nd} {of : List Int} {j : Nat} {x : Nd} (hx : ndAt l j = x) (h8 : x.k ≠ 8) (i k : Int) : aTo l of i k (j + 1) = aTo l of i k j := by
  show aStep _ _ _ _ _ _ = _
  rw [hx]; unfold aStep; rw [if_neg (fun h => h8 h.1)]
theorem aTo_de {l : List Nd} {of : List Int} {j a c : Nat} {x : Nd} (hx : ndAt l j = x) (h8 : x.k = 8) (ha : ofAt of (in0 x) = (a : Int)) (hc : ofAt of (j : Nat) = (c : Int)) (i k : Nat) :
    aTo l of i k (j + 1) = if i = a ∧ k = c ∧ a ≠ c ∧ (aTo l of a c j = 0 ∨ x.tm < aTo l of a c j) then x.tm else aTo l of i k j := by
  show aStep _ _ _ _ _ _ = _
  rw [hx, ha, hc]; unfold aStep
  by_cases e1 : i = a
  · by_cases e2 : k = c
    · subst e1 e2
      by_cases e3 : i = k
      · rw [if_neg (fun h => h.2.1 (by rw [e3])), if_neg (fun h => h.2.2.1 e3)]
      · by_cases e4 : aTo l of i k j = 0 ∨ x.tm < aTo l of i k j
        · rw [if_pos ⟨h8, by omega, rfl, rfl, e4⟩, if_pos ⟨rfl, rfl, e3, e4⟩]
        · rw [if_neg (fun h => e4 h.2.2.2.2), if_neg (fun h => e4 h.2.2.2)]
    · rw [if_neg (fun h => e2 (by have := h.2.2.2.1; omega)), if_neg (fun h => e2 h.2.1)]
  · rw [if_neg (fun h => e1 (by have := h.2.2.1; omega)), if_neg (fun h => e1 h.1)]
set_option maxHeartbeats 4000000 in
theorem ahead_c (l : List Nd) (of : List Int) (N : Nat) (vN vO : Value) (w : World) (hN : NdsAt w vN l) (hO : IntsAt w vO of) (hk : OkD l) (hl : of.length = l.length) (hr : ∀ z ∈ of, 0 ≤ z ∧ z < (N : Int)) (hN64 : N ≤ 64) :
    Calls Try.prog 24 #[vN, vO, .int .i64 (N : Int)] w fun e w' => ∃ (M : Nat) (R : Nat → Nat), e = .returned (.slice (some ⟨M, 0, none⟩) N N) ∧ Hid (Mx w.heap.size N M R (fun i k => aheadN l of i k) w') ∧ Below w.heap.size w w' := by
  obtain ⟨na, nc, rfl, hnc, _⟩ := id hN
  obtain ⟨oa, oc, rfl, hoc, _⟩ := id hO
  obtain ⟨n, hn⟩ : ∃ n, n = l.length := ⟨_, rfl⟩
  rw [hl, ← hn] at hO ⊢
  rw [← hn] at hN
  have hn4 : n ≤ 4096 := by rw [hn]; exact hk.ok.n
  have HN : Hid (NdsAt w (.slice na n nc) l) := hN
  have HO : Hid (IntsAt w (.slice oa n oc) of) := hO
  have HNL : Hid (n = l.length) := hn
  have HOL : Hid (n = of.length) := by show n = of.length; rw [hl]; exact hn
  have HK : Hid (OkD l) := hk
  have HR : Hid (∀ z ∈ of, 0 ≤ z ∧ z < (N : Int)) := hr
  have hm1 := mkRows N (by omega)
  have hm2 := mkInts N (by omega)
  clear hN hO hnc hoc hn hk hl hr
  go_enter Try.func24, Try.ntmps24
  go_wp2
  obtain ⟨M, hM⟩ : ∃ M, M = w.heap.size := ⟨_, rfl⟩
  have hwM : w.heap.size ≤ M := by omega
  have H00 : Hid (Mk0 w.heap.size N M 0 (fun _ => 0) (w.alloc (.cells (madeCells #[.slice none 0 0] N) 24))) := by
    refine ⟨?_, fun q hq => absurd hq (Nat.not_lt_zero _), by omega, fun q hq => absurd hq (Nat.not_lt_zero _), fun q hq => absurd hq (Nat.not_lt_zero _), fun q j hq => absurd hq (Nat.not_lt_zero _)⟩
    rw [hM]
    exact (World.rowIs_made w (.slice none 0 0) N 24).congr (fun q _ => by rw [if_neg (Nat.not_lt_zero _)])
  have HB0 : Hid (Below w.heap.size w (w.alloc (.cells (madeCells #[.slice none 0 0] N) 24))) := belA (Below.refl _ _) _
  rw [← hM]
  clear hM hm1
  generalize w.alloc (.cells (madeCells #[.slice none 0 0] N) 24) = W0 at H00 HB0 ⊢
  go_loopw [18] (fun s18 W => ∃ (i : Nat) (R : Nat → Nat), i ≤ N ∧ s18 = .int .i64 i ∧ Hid (Mk0 w.heap.size N M i R W) ∧ Hid (Below w.heap.size w W)) (fun s18 W => N - (intOf s18).toNat)
  case atStart => exact ⟨0, _, Nat.zero_le _, rfl, H00.out, HB0.out⟩
  case round =>
    clear H00 HB0
    obtain ⟨i, R, hi, rfl, HM, HB⟩ := hrel
    by_cases hlt : i < N
    · have c0 := HM.out.m.cell hlt
      rw [if_neg (Nat.lt_irrefl _)] at c0
      have cf := HM.out.m.frozen i
      have ml := HM.out.m.lt
      have i1 : (0 : Int) ≤ (i : Int) := by omega
      have i2 : (i : Int) < (N : Int) := by omega
      go_wp2
      go_roundw
      case rel => exact ⟨i + 1, upd R i wr.heap.size, hlt, by go_num, HM.out.step hlt HB.out.size, belA (HB.out.setCell (p := ⟨M, i, none⟩) hwM _) _⟩
      case measure => simp [intOf]; omega
    · obtain rfl : i = N := by omega
      have HMx : Hid (Mx w.heap.size i M R (fun a c => aTo l of a c 0) wr) := ⟨HM.out.m.congr (fun q hq => by rw [if_pos hq]), HM.out.r, HM.out.bm, HM.out.br, HM.out.dm, HM.out.dr⟩
      obtain ⟨N, rfl⟩ : ∃ N, N = i := ⟨_, rfl⟩
      clear HM hi hlt hm2
      go_wp2
      go_loopw [29] (fun s29 W => ∃ (j : Nat), j ≤ n ∧ s29 = .int .i64 j ∧ Hid (Mx w.heap.size N M R (fun a c => aTo l of a c j) W) ∧ Hid (Below w.heap.size w W)) (fun s29 W => n - (intOf s29).toNat)
      case atStart => exact ⟨0, Nat.zero_le _, rfl, HMx.out, HB.out⟩
      case round =>
        clear HMx HB
        obtain ⟨j, hj, rfl, HM, HB⟩ := hrel
        by_cases hlt : j < n
        · have hil : j < l.length := by rw [← HNL.out]; exact hlt
          have hio : j < of.length := by rw [← HOL.out]; exact hlt
          obtain ⟨gN, oN, cN, hg⟩ := HN.out.some_ (by omega)
          injection hg with e1 e2 e3
          subst e1
          obtain ⟨gO, oO, cO, hgo⟩ := HO.out.some_ (by omega)
          injection hgo with f1 f2 f3
          subst f1
          obtain ⟨lO, ci⟩ := HO.out.cell j hio
          obtain ⟨gl, ia, ic, hI, c0, c1, c2, c3, c4, c5, c6, c7⟩ := HN.out.at_ j hil
          have d0 := (HB.out.cell (p := ⟨gN, oN + j * 8, none⟩) gl).trans c0
          have d1 := (HB.out.cell (p := ⟨gN, oN + j * 8 + 1, none⟩) gl).trans c1
          have d2 := (HB.out.cell (p := ⟨gN, oN + j * 8 + 2, none⟩) gl).trans c2
          have d3 := (HB.out.cell (p := ⟨gN, oN + j * 8 + 3, none⟩) gl).trans c3
          have d4 := (HB.out.cell (p := ⟨gN, oN + j * 8 + 4, none⟩) gl).trans c4
          have d5 := (HB.out.cell (p := ⟨gN, oN + j * 8 + 5, none⟩) gl).trans c5
          have d6 := (HB.out.cell (p := ⟨gN, oN + j * 8 + 6, none⟩) gl).trans c6
          have d7 := (HB.out.cell (p := ⟨gN, oN + j * 8 + 7, none⟩) gl).trans c7
          have glw : gN < wr.heap.size := Nat.lt_of_lt_of_le gl HB.out.size
          have hmem := List.getElem_mem hil
          have hin := HK.out.ok.i _ hmem
          have hde := HK.out.d _ hmem
          have HX : Hid (ndAt l j = l[j]) := ndAt_eq hil
          have HIn : Hid (l[j].ins.all (inB n) = true) := by rw [HNL.out]; exact hin
          have HOi : Hid (ofAt of (j : Nat) = of[j]) := ofAt_nat hio
          have hor := HR.out _ (List.getElem_mem hio)
          have j1 : (0 : Int) ≤ (j : Int) := by omega
          have j2 : (j : Int) < (n : Int) := by omega
          clear hin hmem e2 e3 f2 f3 c0 c1 c2 c3 c4 c5 c6 c7
          generalize l[j] = x at d0 d1 d2 d3 d4 d5 d6 d7 hI hde HX HIn
          obtain ⟨xk, xop, wd, ins, vl, hi', lo, tm⟩ := x
          simp only at d0 d1 d2 d3 d4 d5 d6 d7 hI hde HIn
          by_cases h8 : xk = 8
          · have hm1 := hde h8
            subst h8
            obtain ⟨g2, o2, cap2, hg2⟩ := hI.some_ (by omega)
            injection hg2 with e4 e5 e6
            subst e4
            obtain ⟨gl3, gd3⟩ := hI.cell 0 (by omega)
            have hzi := List.all_eq_true.1 HIn.out _ (List.getElem_mem (by omega : 0 < ins.length))
            simp [inB] at hzi
            obtain ⟨z, hz⟩ : ∃ z : Nat, ins[0] = (z : Int) := ⟨ins[0].toNat, by omega⟩
            have HI0 : Hid (in0 ⟨8, xop, wd, ins, vl, hi', lo, tm⟩ = (z : Int)) := by show ins.getD 0 0 = _; rw [List.getD_eq_getElem?_getD, List.getElem?_eq_getElem (by omega : 0 < ins.length), Option.getD_some, hz]
            rw [hz] at gd3 hzi
            have hzn : z < of.length := by rw [← HOL.out]; omega
            obtain ⟨_, cz⟩ := HO.out.cell z hzn
            have HOz : Hid (ofAt of (z : Nat) = of[z]) := ofAt_nat hzn
            have hozr := HR.out _ (List.getElem_mem hzn)
            generalize of[z] = oz at cz HOz hozr
            generalize of[j] = oi at ci HOi hor
            obtain ⟨a, rfl⟩ : ∃ a : Nat, oz = (a : Int) := ⟨oz.toNat, by omega⟩
            obtain ⟨c, rfl⟩ : ∃ c : Nat, oi = (c : Int) := ⟨oi.toNat, by omega⟩
            have haN : a < N := by omega
            have hcN : c < N := by omega
            have f1 : wr.cell? ⟨g2, o2 + 0, none⟩ = some (.int .i64 (z : Int)) := (HB.out.cell (p := ⟨g2, o2 + 0, none⟩) gl3).trans gd3
            rw [Nat.add_zero] at f1
            have f2 : wr.cell? ⟨gO, oO + z, none⟩ = some (.int .i64 (a : Int)) := (HB.out.cell (p := ⟨gO, oO + z, none⟩) lO).trans cz
            have f3 : wr.cell? ⟨gO, oO + j, none⟩ = some (.int .i64 (c : Int)) := (HB.out.cell (p := ⟨gO, oO + j, none⟩) lO).trans ci
            have lOw : gO < wr.heap.size := Nat.lt_of_lt_of_le lO HB.out.size
            have l2w : g2 < wr.heap.size := Nat.lt_of_lt_of_le gl3 HB.out.size
            have r1 := HM.out.m.cell haN
            have r2 := (HM.out.r a haN).cell hcN
            have r3 := (HM.out.r a haN).frozen c
            have r4 := (HM.out.r a haN).lt
            have r5 := HM.out.m.lt
            have HS : Hid (∀ i k : Nat, aTo l of i k (j + 1) = if i = a ∧ k = c ∧ a ≠ c ∧ (aTo l of a c j = 0 ∨ tm < aTo l of a c j) then tm else aTo l of i k j) := fun i k => aTo_de (x := ⟨8, xop, wd, ins, vl, hi', lo, tm⟩) HX.out rfl (by rw [HI0.out]; exact HOz.out) HOi.out i k
            obtain ⟨b, hb⟩ : ∃ b, b = aTo l of a c j := ⟨_, rfl⟩
            have HBb : Hid (b = aTo l of a c j) := hb
            rw [← hb] at r2
            have a1 : (0 : Int) ≤ (a : Int) := by omega
            have a2 : (a : Int) < (N : Int) := by omega
            have c1 : (0 : Int) ≤ (c : Int) := by omega
            have c2 : (c : Int) < (N : Int) := by omega
            have z1 : (0 : Int) ≤ (z : Int) := by omega
            have z2 : (z : Int) < (n : Int) := by omega
            have q0 : (0 : Int) < (ins.length : Int) := by omega
            clear e5 e6 gd3 hz hzi cz ci hde hb hI gl
            by_cases hac : a = c
            · have hac' : ((a : Int) != (c : Int)) = false := by simp; omega
              have HE : Hid (a = c) := hac
              clear hac
              go_wp2_with fail
              go_quiet (fail)
              go_wp2_with fail
              go_roundw
              case rel =>
                refine ⟨j + 1, hlt, by go_num, Mx.congr (Mx.keep HM.out ?_) (fun i k _ _ => ?_), belDN (belA HB.out _) nq⟩
                · exact fun k _ hk => alOld hk
                · rw [HS.out i k, if_neg (fun h => h.2.2.1 HE.out)]
              case measure => simp [intOf]; omega
            · have hac' : ((a : Int) != (c : Int)) = true := by simp; omega
              have HE : Hid (a ≠ c) := hac
              clear hac
              by_cases hup : b = 0 ∨ tm < b
              · have HUp : Hid (b = 0 ∨ tm < b) := hup
                have hmx : Hid (∀ W : World, Mx w.heap.size N M R (fun a c => aTo l of a c j) W → Mx w.heap.size N M R (fun a c => aTo l of a c (j + 1)) (W.setCell ⟨R a, c, none⟩ (.int .i64 tm))) := fun W hW => (hW.set (k := c) haN tm).congr (fun i k _ _ => by
                  rw [HS.out i k]
                  by_cases e : i = a ∧ k = c
                  · rw [if_pos e, if_pos ⟨e.1, e.2, HE.out, by rw [← HBb.out]; exact HUp.out⟩]
                  · rw [if_neg e, if_neg (fun h => e ⟨h.1, h.2.1⟩)])
                have hRw := HM.out.br a haN
                rcases (by omega : b = 0 ∨ (b ≠ 0 ∧ tm < b)) with hb0 | ⟨hb0, hb1⟩
                · subst hb0
                  clear hup
                  go_wp2_with fail
                  go_quiet (fail)
                  go_wp2_with fail
                  go_region
                  go_wp2_with fail
                  go_roundw
                  case rel =>
                    refine ⟨j + 1, hlt, by go_num, ?_, ?_⟩
                    · exact hmx.out ((wr.alloc (.cells #[.int .i64 8, .int .i64 xop, .int .i64 wd, .slice (some ⟨g2, o2, none⟩) 1 ic, .string (S vl), .int .i64 hi', .int .i64 lo, .int .i64 tm] 47)).drewN (nq + 1)) (Mx.keep HM.out (fun k _ hk => alOld hk))
                    · exact Below.setCell (p := ⟨R a, c, none⟩) (belDN (belA HB.out _) (nq + 1)) hRw _
                  case measure => simp [intOf]; omega
                · have hb0' : (b == 0) = false := by simpa using hb0
                  clear hup hb0
                  go_wp2_with fail
                  go_quiet (fail)
                  go_wp2_with fail
                  go_region
                  go_wp2_with fail
                  go_roundw
                  case rel =>
                    refine ⟨j + 1, hlt, by go_num, ?_, ?_⟩
                    · exact hmx.out ((wr.alloc (.cells #[.int .i64 8, .int .i64 xop, .int .i64 wd, .slice (some ⟨g2, o2, none⟩) 1 ic, .string (S vl), .int .i64 hi', .int .i64 lo, .int .i64 tm] 47)).drewN (nq + 1)) (Mx.keep HM.out (fun k _ hk => alOld hk))
                    · exact Below.setCell (p := ⟨R a, c, none⟩) (belDN (belA HB.out _) (nq + 1)) hRw _
                  case measure => simp [intOf]; omega
              · have HUp : Hid (¬ (b = 0 ∨ tm < b)) := hup
                have hb0' : (b == 0) = false := by simp; omega
                have hb1' : decide (tm < b) = false := by simp; omega
                have hb2' : ¬ tm < b := by omega
                clear hup
                go_wp2_with fail
                go_quiet (fail)
                go_wp2_with fail
                go_roundw
                case rel =>
                  refine ⟨j + 1, hlt, by go_num, Mx.congr (Mx.keep HM.out ?_) (fun i k _ _ => ?_), belDN (belA HB.out _) nq⟩
                  · exact fun k _ hk => alOld hk
                  · rw [HS.out i k, if_neg (fun h => HUp.out (by rw [HBb.out]; exact h.2.2.2))]
                case measure => simp [intOf]; omega
          · have h8' : (xk != 8) = true := by simpa using h8
            have HX8 : Hid (xk ≠ 8) := h8
            clear h8 hde hI
            go_wp2
            go_roundw
            case rel => exact ⟨j + 1, hlt, by go_num, (HM.out.keep (fun k _ hk => alOld hk)).congr (fun i k _ _ => (aTo_no HX.out HX8.out i k).symm), belA HB.out _⟩
            case measure => simp [intOf]; omega
        · obtain rfl : n = j := by omega
          go_wp2
          go_ret
          exact ⟨M, R, rfl, HM.out.congr (fun i k _ _ => by unfold aheadN; rw [← HNL.out]), HB.out⟩
end Go.Proofs.Ytkgonnnpoldcoaa
