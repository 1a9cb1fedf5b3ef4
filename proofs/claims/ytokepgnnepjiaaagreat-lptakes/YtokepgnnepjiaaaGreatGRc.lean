/- Texts RK RN PA, joined: what each part says stands ahead of it. -/
import Derived.Test.YtokepgnnepjiaaaGreatGRb
import Derived.Test.YtokepgnnepjiaaaGreatGRa
import Derived.Test.YtokepgnnepjiaaaGreatGLb
/- How soon parts reach one another: the program's ahead. -/
namespace Go.Proofs.YtokepgnnepjiaaaGreat
set_option maxRecDepth 100000
open Go.RowKit Lg Nl Go.Maps
set_option linter.unusedVariables false
set_option linter.unusedSimpArgs false
set_option maxRecDepth 100000

/-- a square of numbers in blocks of its own -/
structure Mx (B N M : Nat) (R : Nat → Nat) (A : Nat → Nat → Int) (W : World) : Prop where
  m : W.rowIs M 24 N (fun i => .slice (some ⟨R i, 0, none⟩) N N)
  r : ∀ i, i < N → W.rowIs (R i) 3 N (fun k => .int .i64 (A i k))
  bm : B ≤ M
  br : ∀ i, i < N → B ≤ R i
  dm : ∀ i, i < N → R i ≠ M
  dr : ∀ i j, i < N → j < N → R i = R j → i = j
theorem Mx.keep {B N M : Nat} {R : Nat → Nat} {A : Nat → Nat → Int} {W W' : World} (h : Mx B N M R A W) (hb : ∀ k, B ≤ k → k < W.heap.size → W'.heap[k]? = W.heap[k]?) : Mx B N M R A W' :=
  ⟨h.m.of_block (hb M h.bm h.m.lt), fun i hi => (h.r i hi).of_block (hb _ (h.br i hi) (h.r i hi).lt), h.bm, h.br, h.dm, h.dr⟩
theorem Mx.congr {B N M : Nat} {R : Nat → Nat} {A A' : Nat → Nat → Int} {W : World} (h : Mx B N M R A W) (e : ∀ i k, i < N → k < N → A i k = A' i k) : Mx B N M R A' W :=
  ⟨h.m, fun i hi => (h.r i hi).congr (fun k hk => by rw [e i k hi hk]), h.bm, h.br, h.dm, h.dr⟩
theorem Mx.set {B N M : Nat} {R : Nat → Nat} {A : Nat → Nat → Int} {W : World} (h : Mx B N M R A W) {i k : Nat} (hi : i < N) (v : Int) : Mx B N M R (fun x y => if x = i ∧ y = k then v else A x y) (W.setCell ⟨R i, k, none⟩ (.int .i64 v)) := by
  refine ⟨h.m.setOther (h.dm i hi).symm _, fun x hx => ?_, h.bm, h.br, h.dm, h.dr⟩
  by_cases e : x = i
  · subst e
    refine ((h.r x hx).set k _).congr (fun y _ => ?_)
    by_cases e2 : y = k
    · subst e2; simp
    · simp [e2]
  · refine ((h.r x hx).setOther (fun e2 => e (h.dr x i hx hi e2)) _).congr (fun y _ => by simp [e])
/-- while the rows are made -/
structure Mk0 (B N M i : Nat) (R : Nat → Nat) (W : World) : Prop where
  m : W.rowIs M 24 N (fun q => if q < i then .slice (some ⟨R q, 0, none⟩) N N else .slice none 0 0)
  r : ∀ q, q < i → W.rowIs (R q) 3 N (fun _ => .int .i64 0)
  bm : B ≤ M
  br : ∀ q, q < i → B ≤ R q
  dm : ∀ q, q < i → R q ≠ M
  dr : ∀ q j, q < i → j < i → R q = R j → q = j
theorem Mk0.step {B N M i : Nat} {R : Nat → Nat} {W : World} (h : Mk0 B N M i R W) (hi : i < N) (hB : B ≤ W.heap.size) : Mk0 B N M (i + 1) (upd R i W.heap.size) ((W.setCell ⟨M, i, none⟩ (.slice (some ⟨W.heap.size, 0, none⟩) N N)).alloc (.cells (madeCells #[.int .i64 0] N) 3)) := by
  have hml := h.m.lt
  have es : (W.setCell ⟨M, i, none⟩ (.slice (some ⟨W.heap.size, 0, none⟩) N N)).heap.size = W.heap.size := by simp [World.setCell]
  have e1 : ∀ q, q < i + 1 → q ≠ i → q < i := fun q a b => by omega
  refine ⟨?_, fun q hq => ?_, h.bm, fun q hq => ?_, fun q hq => ?_, fun q j hq hj e => ?_⟩
  · refine World.rowIs.alloc ((h.m.set i _).congr (fun q _ => ?_)) _
    by_cases e : q = i
    · subst e; rw [if_pos rfl, if_pos (Nat.lt_succ_self _), upd_at]
    · rw [if_neg e, upd_ne _ _ e]
      by_cases h2 : q < i
      · rw [if_pos h2, if_pos (by omega)]
      · rw [if_neg h2, if_neg (by omega)]
  · by_cases e : q = i
    · subst e; rw [upd_at]; have h9 := World.rowIs_made (W.setCell ⟨M, q, none⟩ (.slice (some ⟨W.heap.size, 0, none⟩) N N)) (.int .i64 0) N 3; rw [es] at h9; exact h9
    · rw [upd_ne _ _ e]; exact World.rowIs.alloc ((h.r q (e1 q hq e)).setOther (h.dm q (e1 q hq e)) _) _
  · by_cases e : q = i
    · subst e; rw [upd_at]; exact hB
    · rw [upd_ne _ _ e]; exact h.br q (e1 q hq e)
  · by_cases e : q = i
    · subst e; rw [upd_at]; omega
    · rw [upd_ne _ _ e]; exact h.dm q (e1 q hq e)
  · by_cases e2 : q = i
    · by_cases e3 : j = i
      · omega
      · subst e2; rw [upd_at, upd_ne _ _ e3] at e; have := (h.r j (e1 j hj e3)).lt; omega
    · by_cases e3 : j = i
      · subst e3; rw [upd_at, upd_ne _ _ e2] at e; have := (h.r q (e1 q hq e2)).lt; omega
      · rw [upd_ne _ _ e2, upd_ne _ _ e3] at e; exact h.dr q j (e1 q hq e2) (e1 j hj e3) e
theorem mkRows (n : Nat) (hn : n ≤ 1000000) : ∀ w : World, (Instr.makeSlice 27 (.int .i64 (n : Int)) (.int .i64 (n : Int))).run Tryz.prog w = .ok (.slice (some ⟨w.heap.size, 0, none⟩) n n) (w.alloc (.cells (madeCells #[.slice none 0 0] n) 24)) := fun w =>
  run_make_row' (P := Tryz.prog) 27 24 (.slice none 0 0) 24 Tryz.underlying27 (by kernel_rfl) rfl .i64 .i64 n (by omega) (by omega) w
/-- a node that is no delay changes nothing -/
theorem aTo_no {l : List Nd} {of : List Int} {j : Nat} {x : Nd} (hx : ndAt l j = x) (h8 : x.k ≠ 8) (i k : Int) : aTo l of i k (j + 1) = aTo l of i k j := by
  show aStep _ _ _ _ _ _ = _
  rw [hx]; unfold aStep; rw [if_neg (fun h => h8 h.1)]
theorem aTo_de {l : List Nd} {of : List Int} {j a c : Nat} {x : Nd} (hx : ndAt l j = x) (h8 : x.k = 8) (ha : ofAt of (in0 x) = (a : Int)) (hc : ofAt of (j : Nat) = (c : Int)) (i k : Nat) :
    aTo l of i k (j + 1) = if i = a ∧ k = c ∧ a ≠ c ∧ (aTo l of a c j = 0 ∨ x.tm < aTo l of a c j) then x.tm else aTo l of i k j := by
  show aStep _ _ _ _ _ _ = _
  rw [hx, ha, hc]; unfold aStep
  by_cases e1 : i = a
  · by_cases e2 : k = c
    · subst e1 e2
      by_cases e3 : i = k
      · rw [if_neg (fun h => h.2.1 (by rw [e3])), if_neg (fun h => h.2.2.1 e3)]
      · by_cases e4 : aTo l of i k j = 0 ∨ x.tm < aTo l of i k j
        · rw [if_pos ⟨h8, by omega, rfl, rfl, e4⟩, if_pos ⟨rfl, rfl, e3, e4⟩]
        · rw [if_neg (fun h => e4 h.2.2.2.2), if_neg (fun h => e4 h.2.2.2)]
    · rw [if_neg (fun h => e2 (by have := h.2.2.2.1; omega)), if_neg (fun h => e2 h.2.1)]
  · rw [if_neg (fun h => e1 (by have := h.2.2.1; omega)), if_neg (fun h => e1 h.1)]
set_option maxHeartbeats 4000000 in
theorem ahead_c (l : List Nd) (of : List Int) (N : Nat) (vN vO : Value) (w : World) (hN : NdsAt w vN l) (hO : IntsAt w vO of) (hk : OkD l) (hl : of.length = l.length) (hr : ∀ z ∈ of, 0 ≤ z ∧ z < (N : Int)) (hN64 : N ≤ 64) :
    Calls Tryz.prog 64 #[vN, vO, .int .i64 (N : Int)] w fun e w' => ∃ (M : Nat) (R : Nat → Nat), e = .returned (.slice (some ⟨M, 0, none⟩) N N) ∧ Hid (Mx w.heap.size N M R (fun i k => aheadN l of i k) w') ∧ Below w.heap.size w w' := by
  obtain ⟨na, nc, rfl, hnc, _⟩ := id hN
  obtain ⟨oa, oc, rfl, hoc, _⟩ := id hO
  obtain ⟨n, hn⟩ : ∃ n, n = l.length := ⟨_, rfl⟩
  rw [hl, ← hn] at hO ⊢
  rw [← hn] at hN
  have hn4 : n ≤ 4096 := by rw [hn]; exact hk.ok.n
  have HN : Hid (NdsAt w (.slice na n nc) l) := hN
  have HO : Hid (IntsAt w (.slice oa n oc) of) := hO
  have HNL : Hid (n = l.length) := hn
  have HOL : Hid (n = of.length) := by show n = of.length; rw [hl]; exact hn
  have HK : Hid (OkD l) := hk
  have HR : Hid (∀ z ∈ of, 0 ≤ z ∧ z < (N : Int)) := hr
  have hm1 := mkRows N (by omega)
  have hm2 := mkInts N (by omega)
  clear hN hO hnc hoc hn hk hl hr
  go_enter Tryz.func64, Tryz.ntmps64
  go_wp2
  obtain ⟨M, hM⟩ : ∃ M, M = w.heap.size := ⟨_, rfl⟩
  have hwM : w.heap.size ≤ M := by omega
  have H00 : Hid (Mk0 w.heap.size N M 0 (fun _ => 0) (w.alloc (.cells (madeCells #[.slice none 0 0] N) 24))) := by
    refine ⟨?_, fun q hq => absurd hq (Nat.not_lt_zero _), by omega, fun q hq => absurd hq (Nat.not_lt_zero _), fun q hq => absurd hq (Nat.not_lt_zero _), fun q j hq => absurd hq (Nat.not_lt_zero _)⟩
    rw [hM]
    exact (World.rowIs_made w (.slice none 0 0) N 24).congr (fun q _ => by rw [if_neg (Nat.not_lt_zero _)])
  have HB0 : Hid (Below w.heap.size w (w.alloc (.cells (madeCells #[.slice none 0 0] N) 24))) := belA (Below.refl _ _) _
  rw [← hM]
  clear hM hm1
  generalize w.alloc (.cells (madeCells #[.slice none 0 0] N) 24) = W0 at H00 HB0 ⊢
  go_loopw [18] (fun s18 W => ∃ (i : Nat) (R : Nat → Nat), i ≤ N ∧ s18 = .int .i64 i ∧ Hid (Mk0 w.heap.size N M i R W) ∧ Hid (Below w.heap.size w W)) (fun s18 W => N - (intOf s18).toNat)
  case atStart => exact ⟨0, _, Nat.zero_le _, rfl, H00.out, HB0.out⟩
  case round =>
    clear H00 HB0
    obtain ⟨i, R, hi, rfl, HM, HB⟩ := hrel
    by_cases hlt : i < N
    · have c0 := HM.out.m.cell hlt
      rw [if_neg (Nat.lt_irrefl _)] at c0
      have cf := HM.out.m.frozen i
      have ml := HM.out.m.lt
      have i1 : (0 : Int) ≤ (i : Int) := by omega
      have i2 : (i : Int) < (N : Int) := by omega
      go_wp2
      go_roundw
      case rel => exact ⟨i + 1, upd R i wr.heap.size, hlt, by go_num, HM.out.step hlt HB.out.size, belA (HB.out.setCell (p := ⟨M, i, none⟩) hwM _) _⟩
      case measure => simp [intOf]; omega
    · obtain rfl : i = N := by omega
      have HMx : Hid (Mx w.heap.size i M R (fun a c => aTo l of a c 0) wr) := ⟨HM.out.m.congr (fun q hq => by rw [if_pos hq]), HM.out.r, HM.out.bm, HM.out.br, HM.out.dm, HM.out.dr⟩
      obtain ⟨N, rfl⟩ : ∃ N, N = i := ⟨_, rfl⟩
      clear HM hi hlt hm2
      go_wp2
      go_loopw [29] (fun s29 W => ∃ (j : Nat), j ≤ n ∧ s29 = .int .i64 j ∧ Hid (Mx w.heap.size N M R (fun a c => aTo l of a c j) W) ∧ Hid (Below w.heap.size w W)) (fun s29 W => n - (intOf s29).toNat)
      case atStart => exact ⟨0, Nat.zero_le _, rfl, HMx.out, HB.out⟩
      case round =>
        clear HMx HB
        obtain ⟨j, hj, rfl, HM, HB⟩ := hrel
        by_cases hlt : j < n
        · have hil : j < l.length := by rw [← HNL.out]; exact hlt
          have hio : j < of.length := by rw [← HOL.out]; exact hlt
          obtain ⟨gN, oN, cN, hg⟩ := HN.out.some_ (by omega)
          injection hg with e1 e2 e3
          subst e1
          obtain ⟨gO, oO, cO, hgo⟩ := HO.out.some_ (by omega)
          injection hgo with f1 f2 f3
          subst f1
          obtain ⟨lO, ci⟩ := HO.out.cell j hio
          obtain ⟨gl, ia, ic, hI, c0, c1, c2, c3, c4, c5, c6, c7⟩ := HN.out.at_ j hil
          have d0 := (HB.out.cell (p := ⟨gN, oN + j * 8, none⟩) gl).trans c0
          have d1 := (HB.out.cell (p := ⟨gN, oN + j * 8 + 1, none⟩) gl).trans c1
          have d2 := (HB.out.cell (p := ⟨gN, oN + j * 8 + 2, none⟩) gl).trans c2
          have d3 := (HB.out.cell (p := ⟨gN, oN + j * 8 + 3, none⟩) gl).trans c3
          have d4 := (HB.out.cell (p := ⟨gN, oN + j * 8 + 4, none⟩) gl).trans c4
          have d5 := (HB.out.cell (p := ⟨gN, oN + j * 8 + 5, none⟩) gl).trans c5
          have d6 := (HB.out.cell (p := ⟨gN, oN + j * 8 + 6, none⟩) gl).trans c6
          have d7 := (HB.out.cell (p := ⟨gN, oN + j * 8 + 7, none⟩) gl).trans c7
          have glw : gN < wr.heap.size := Nat.lt_of_lt_of_le gl HB.out.size
          have hmem := List.getElem_mem hil
          have hin := HK.out.ok.i _ hmem
          have hde := HK.out.d _ hmem
          have HX : Hid (ndAt l j = l[j]) := ndAt_eq hil
          have HIn : Hid (l[j].ins.all (inB n) = true) := by rw [HNL.out]; exact hin
          have HOi : Hid (ofAt of (j : Nat) = of[j]) := ofAt_nat hio
          have hor := HR.out _ (List.getElem_mem hio)
          have j1 : (0 : Int) ≤ (j : Int) := by omega
          have j2 : (j : Int) < (n : Int) := by omega
          clear hin hmem e2 e3 f2 f3 c0 c1 c2 c3 c4 c5 c6 c7
          generalize l[j] = x at d0 d1 d2 d3 d4 d5 d6 d7 hI hde HX HIn
          obtain ⟨xk, xop, wd, ins, vl, hi', lo, tm⟩ := x
          simp only at d0 d1 d2 d3 d4 d5 d6 d7 hI hde HIn
          by_cases h8 : xk = 8
          · have hm1 := hde h8
            subst h8
            obtain ⟨g2, o2, cap2, hg2⟩ := hI.some_ (by omega)
            injection hg2 with e4 e5 e6
            subst e4
            obtain ⟨gl3, gd3⟩ := hI.cell 0 (by omega)
            have hzi := List.all_eq_true.1 HIn.out _ (List.getElem_mem (by omega : 0 < ins.length))
            simp [inB] at hzi
            obtain ⟨z, hz⟩ : ∃ z : Nat, ins[0] = (z : Int) := ⟨ins[0].toNat, by omega⟩
            have HI0 : Hid (in0 ⟨8, xop, wd, ins, vl, hi', lo, tm⟩ = (z : Int)) := by show ins.getD 0 0 = _; rw [List.getD_eq_getElem?_getD, List.getElem?_eq_getElem (by omega : 0 < ins.length), Option.getD_some, hz]
            rw [hz] at gd3 hzi
            have hzn : z < of.length := by rw [← HOL.out]; omega
            obtain ⟨_, cz⟩ := HO.out.cell z hzn
            have HOz : Hid (ofAt of (z : Nat) = of[z]) := ofAt_nat hzn
            have hozr := HR.out _ (List.getElem_mem hzn)
            generalize of[z] = oz at cz HOz hozr
            generalize of[j] = oi at ci HOi hor
            obtain ⟨a, rfl⟩ : ∃ a : Nat, oz = (a : Int) := ⟨oz.toNat, by omega⟩
            obtain ⟨c, rfl⟩ : ∃ c : Nat, oi = (c : Int) := ⟨oi.toNat, by omega⟩
            have haN : a < N := by omega
            have hcN : c < N := by omega
            have f1 : wr.cell? ⟨g2, o2 + 0, none⟩ = some (.int .i64 (z : Int)) := (HB.out.cell (p := ⟨g2, o2 + 0, none⟩) gl3).trans gd3
            rw [Nat.add_zero] at f1
            have f2 : wr.cell? ⟨gO, oO + z, none⟩ = some (.int .i64 (a : Int)) := (HB.out.cell (p := ⟨gO, oO + z, none⟩) lO).trans cz
            have f3 : wr.cell? ⟨gO, oO + j, none⟩ = some (.int .i64 (c : Int)) := (HB.out.cell (p := ⟨gO, oO + j, none⟩) lO).trans ci
            have lOw : gO < wr.heap.size := Nat.lt_of_lt_of_le lO HB.out.size
            have l2w : g2 < wr.heap.size := Nat.lt_of_lt_of_le gl3 HB.out.size
            have r1 := HM.out.m.cell haN
            have r2 := (HM.out.r a haN).cell hcN
            have r3 := (HM.out.r a haN).frozen c
            have r4 := (HM.out.r a haN).lt
            have r5 := HM.out.m.lt
            have HS : Hid (∀ i k : Nat, aTo l of i k (j + 1) = if i = a ∧ k = c ∧ a ≠ c ∧ (aTo l of a c j = 0 ∨ tm < aTo l of a c j) then tm else aTo l of i k j) := fun i k => aTo_de (x := ⟨8, xop, wd, ins, vl, hi', lo, tm⟩) HX.out rfl (by rw [HI0.out]; exact HOz.out) HOi.out i k
            obtain ⟨b, hb⟩ : ∃ b, b = aTo l of a c j := ⟨_, rfl⟩
            have HBb : Hid (b = aTo l of a c j) := hb
            rw [← hb] at r2
            have a1 : (0 : Int) ≤ (a : Int) := by omega
            have a2 : (a : Int) < (N : Int) := by omega
            have c1 : (0 : Int) ≤ (c : Int) := by omega
            have c2 : (c : Int) < (N : Int) := by omega
            have z1 : (0 : Int) ≤ (z : Int) := by omega
            have z2 : (z : Int) < (n : Int) := by omega
            have q0 : (0 : Int) < (ins.length : Int) := by omega
            clear e5 e6 gd3 hz hzi cz ci hde hb hI gl
            by_cases hac : a = c
            · have hac' : ((a : Int) != (c : Int)) = false := by simp; omega
              have HE : Hid (a = c) := hac
              clear hac
              go_wp2_with fail
              go_quiet (fail)
              go_wp2_with fail
              go_roundw
              case rel =>
                refine ⟨j + 1, hlt, by go_num, Mx.congr (Mx.keep HM.out ?_) (fun i k _ _ => ?_), belDN (belA HB.out _) nq⟩
                · exact fun k _ hk => alOld hk
                · rw [HS.out i k, if_neg (fun h => h.2.2.1 HE.out)]
              case measure => simp [intOf]; omega
            · have hac' : ((a : Int) != (c : Int)) = true := by simp; omega
              have HE : Hid (a ≠ c) := hac
              clear hac
              by_cases hup : b = 0 ∨ tm < b
              · have HUp : Hid (b = 0 ∨ tm < b) := hup
                have hmx : Hid (∀ W : World, Mx w.heap.size N M R (fun a c => aTo l of a c j) W → Mx w.heap.size N M R (fun a c => aTo l of a c (j + 1)) (W.setCell ⟨R a, c, none⟩ (.int .i64 tm))) := fun W hW => (hW.set (k := c) haN tm).congr (fun i k _ _ => by
                  rw [HS.out i k]
                  by_cases e : i = a ∧ k = c
                  · rw [if_pos e, if_pos ⟨e.1, e.2, HE.out, by rw [← HBb.out]; exact HUp.out⟩]
                  · rw [if_neg e, if_neg (fun h => e ⟨h.1, h.2.1⟩)])
                have hRw := HM.out.br a haN
                rcases (by omega : b = 0 ∨ (b ≠ 0 ∧ tm < b)) with hb0 | ⟨hb0, hb1⟩
                · subst hb0
                  clear hup
                  go_wp2_with fail
                  go_quiet (fail)
                  go_wp2_with fail
                  go_region
                  go_wp2_with fail
                  go_roundw
                  case rel =>
                    refine ⟨j + 1, hlt, by go_num, ?_, ?_⟩
                    · exact hmx.out ((wr.alloc (.cells #[.int .i64 8, .int .i64 xop, .int .i64 wd, .slice (some ⟨g2, o2, none⟩) 1 ic, .string (S vl), .int .i64 hi', .int .i64 lo, .int .i64 tm] 61)).drewN (nq + 1)) (Mx.keep HM.out (fun k _ hk => alOld hk))
                    · exact Below.setCell (p := ⟨R a, c, none⟩) (belDN (belA HB.out _) (nq + 1)) hRw _
                  case measure => simp [intOf]; omega
                · have hb0' : (b == 0) = false := by simpa using hb0
                  clear hup hb0
                  go_wp2_with fail
                  go_quiet (fail)
                  go_wp2_with fail
                  go_region
                  go_wp2_with fail
                  go_roundw
                  case rel =>
                    refine ⟨j + 1, hlt, by go_num, ?_, ?_⟩
                    · exact hmx.out ((wr.alloc (.cells #[.int .i64 8, .int .i64 xop, .int .i64 wd, .slice (some ⟨g2, o2, none⟩) 1 ic, .string (S vl), .int .i64 hi', .int .i64 lo, .int .i64 tm] 61)).drewN (nq + 1)) (Mx.keep HM.out (fun k _ hk => alOld hk))
                    · exact Below.setCell (p := ⟨R a, c, none⟩) (belDN (belA HB.out _) (nq + 1)) hRw _
                  case measure => simp [intOf]; omega
              · have HUp : Hid (¬ (b = 0 ∨ tm < b)) := hup
                have hb0' : (b == 0) = false := by simp; omega
                have hb1' : decide (tm < b) = false := by simp; omega
                have hb2' : ¬ tm < b := by omega
                clear hup
                go_wp2_with fail
                go_quiet (fail)
                go_wp2_with fail
                go_roundw
                case rel =>
                  refine ⟨j + 1, hlt, by go_num, Mx.congr (Mx.keep HM.out ?_) (fun i k _ _ => ?_), belDN (belA HB.out _) nq⟩
                  · exact fun k _ hk => alOld hk
                  · rw [HS.out i k, if_neg (fun h => HUp.out (by rw [HBb.out]; exact h.2.2.2))]
                case measure => simp [intOf]; omega
          · have h8' : (xk != 8) = true := by simpa using h8
            have HX8 : Hid (xk ≠ 8) := h8
            clear h8 hde hI
            go_wp2
            go_roundw
            case rel => exact ⟨j + 1, hlt, by go_num, (HM.out.keep (fun k _ hk => alOld hk)).congr (fun i k _ _ => (aTo_no HX.out HX8.out i k).symm), belA HB.out _⟩
            case measure => simp [intOf]; omega
        · obtain rfl : n = j := by omega
          go_wp2
          go_ret
          exact ⟨M, R, rfl, HM.out.congr (fun i k _ _ => by unfold aheadN; rw [← HNL.out]), HB.out⟩
end Go.Proofs.YtokepgnnepjiaaaGreat

/- The program's reaches and Check. -/
namespace Go.Proofs.YtokepgnnepjiaaaGreat
set_option maxRecDepth 100000
open Go.RowKit Lg Nl Go.Maps
set_option linter.unusedVariables false
set_option linter.unusedSimpArgs false
set_option maxRecDepth 100000

theorem NdsAt.shape {w : World} {v : Value} {l : List Nd} (h : NdsAt w v l) : ∃ a b c, v = .slice a b c := by obtain ⟨a, c, e, _⟩ := h; exact ⟨_, _, _, e⟩
theorem IntsAt.shape {w : World} {v : Value} {l : List Int} (h : IntsAt w v l) : ∃ a b c, v = .slice a b c := by obtain ⟨a, c, e, _⟩ := h; exact ⟨_, _, _, e⟩
theorem RowsAt.shape {w : World} {v : Value} {l : List (List Int)} (h : RowsAt w v l) : ∃ a b c, v = .slice a b c := by obtain ⟨a, c, e, _⟩ := h; exact ⟨_, _, _, e⟩
theorem rowInts {W : World} {T n : Nat} {f : Nat → Int} (h : W.rowIs T 3 n (fun q => .int .i64 (f q))) : IntsAt W (.slice (some ⟨T, 0, none⟩) n n) ((List.range n).map fun q => f q) := by
  refine ⟨some ⟨T, 0, none⟩, n, by simp, by simp, ?_⟩
  by_cases h0 : n = 0
  · left; subst h0; rfl
  · right
    refine ⟨T, 0, rfl, h.lt, fun i hi => ?_⟩
    have hi' : i < n := by simpa using hi
    rw [Nat.zero_add, h.cell hi']
    simp
/-- a square in memory is its rows -/
theorem Mx.rows {B N M : Nat} {R : Nat → Nat} {A : Nat → Nat → Int} {W : World} (h : Mx B N M R A W) : RowsAt W (.slice (some ⟨M, 0, none⟩) N N) ((List.range N).map fun (i : Nat) => (List.range N).map fun (k : Nat) => A i k) := by
  refine ⟨some ⟨M, 0, none⟩, N, by simp, by simp, ?_⟩
  by_cases h0 : N = 0
  · left; subst h0; rfl
  · right
    refine ⟨M, 0, rfl, h.m.lt, fun i hi => ?_⟩
    have hi' : i < N := by simpa using hi
    refine ⟨.slice (some ⟨R i, 0, none⟩) N N, ?_, by rw [Nat.zero_add]; exact h.m.cell hi'⟩
    have h2 := rowInts (h.r i hi')
    simpa using h2
set_option maxHeartbeats 4000000 in
theorem reaches_c (l : List Nd) (of : List Int) (ah : List (List Int)) (N : Nat) (vN vO vA : Value) (w : World) (hN : NdsAt w vN l) (hO : IntsAt w vO of) (hA : RowsAt w vA ah) (hk : OkD l) (hl : of.length = l.length) (hr : ∀ z ∈ of, 0 ≤ z ∧ z < (N : Int)) (hN64 : N ≤ 64) :
    Calls Tryz.prog 35 #[vN, .agg #[vO, .int .i64 (N : Int), vA]] w fun e w' => e = .returned (.bool (decide (ah = aheadL l of N))) ∧ Below w.heap.size w w' := by
  have HC1 : Hid (∀ W, Below w.heap.size w W → Calls Tryz.prog 64 #[vN, vO, .int .i64 (N : Int)] W fun e w' => ∃ (M : Nat), e = .returned (.slice (some ⟨M, 0, none⟩) N N) ∧ Hid (RowsAt w' (.slice (some ⟨M, 0, none⟩) N N) (aheadL l of N)) ∧ Below W.heap.size W w') := fun W hW =>
    (ahead_c l of N vN vO W (hN.below hW) (hO.below hW) hk hl hr hN64).mono fun e w' hh => by
      obtain ⟨M, R, rfl, h1, h2⟩ := hh
      exact ⟨M, rfl, h1.out.rows, h2⟩
  have HC2 : Hid (∀ W M, Below w.heap.size w W → RowsAt W (.slice (some ⟨M, 0, none⟩) N N) (aheadL l of N) → Calls Tryz.prog 63 #[vA, .slice (some ⟨M, 0, none⟩) N N, .func (.func 65) #[] #[]] W fun e w' => e = .returned (.bool (decide (ah = aheadL l of N))) ∧ Below W.heap.size W w') := fun W M hW hR =>
    equals_c ah (aheadL l of N) vA _ W (hA.below hW) hR (by rw [aheadL_len]; omega) (fun y hy => by
      obtain ⟨i, hi, e⟩ := List.getElem_of_mem hy
      rw [← e]; simp [aheadL]; omega)
  obtain ⟨na, n, nc, rfl⟩ := hN.shape
  obtain ⟨oa, m, oc, rfl⟩ := hO.shape
  obtain ⟨aa, am, ac, rfl⟩ := hA.shape
  clear hN hO hA hk hl hr
  generalize decide (ah = aheadL l of N) = bb at HC2 ⊢
  go_enter Tryz.func35, Tryz.ntmps35
  go_wp2
  have HB0 : Hid (Below w.heap.size w (w.alloc (.cells #[.slice oa m oc, .int .i64 (N : Int), .slice aa am ac] 29))) := belA (Below.refl _ _) _
  have HX : Hid (∀ W, Below (w.alloc (.cells #[.slice oa m oc, .int .i64 (N : Int), .slice aa am ac] 29)).heap.size (w.alloc (.cells #[.slice oa m oc, .int .i64 (N : Int), .slice aa am ac] 29)) W → (W.cell? ⟨w.heap.size, 0, none⟩ = some (.slice oa m oc) ∧ W.cell? ⟨w.heap.size, 1, none⟩ = some (.int .i64 (N : Int)) ∧ W.cell? ⟨w.heap.size, 2, none⟩ = some (.slice aa am ac))) := fun W hb => cells3n ((hb.block w.heap.size (by simp)).trans (alAt rfl))
  obtain ⟨c0, c1, c2⟩ := HX.out _ (Below.refl _ _)
  have lx : w.heap.size < (w.alloc (.cells #[.slice oa m oc, .int .i64 (N : Int), .slice aa am ac] 29)).heap.size := by simp
  generalize w.alloc (.cells #[.slice oa m oc, .int .i64 (N : Int), .slice aa am ac] 29) = W0 at HB0 HX c0 c1 c2 lx ⊢
  go_region_held (fun w' => w'.cell? ⟨w.heap.size, 0, none⟩ = some (.slice oa m oc) ∧ w'.cell? ⟨w.heap.size, 1, none⟩ = some (.int .i64 (N : Int)) ∧ w'.cell? ⟨w.heap.size, 2, none⟩ = some (.slice aa am ac)) (first | go_keep | exact HX.out _ (bel (bel (Below.refl _ _).drew hb5) hb6) | exact HX.out _ (bel (Below.refl _ _).drew hb5))
    (first
      | (go_at_call 64; refine (HC1.out _ (bel HB0.out (Below.refl _ _).drew)).mono ?_; rintro e w5 ⟨M, rfl, HR5, hb5⟩)
      | (go_at_call 63; refine (HC2.out _ M (bel HB0.out (bel (Below.refl _ _).drew hb5)) HR5.out).mono ?_; rintro e w6 ⟨rfl, hb6⟩))
  all_goals
    go_wp2_with fail
    go_ret
    exact ⟨rfl, bel HB0.out (bel (bel (Below.refl _ _).drew hb5) hb6)⟩
/-- an error is told, or none: whether P -/
def RetE (P : Prop) (e : Ending) : Prop := (P ∧ e = .returned (.int .i64 0)) ∨ (¬ P ∧ e = .returned (.int .i64 1))
theorem RetB.t {P : Prop} {e : Ending} (h : RetB P e) (hp : P) : e = .returned (.bool true) := by obtain ⟨b, rfl, h⟩ := h; rw [h.out.2 hp]
theorem RetB.f {P : Prop} {e : Ending} (h : RetB P e) (hp : ¬ P) : e = .returned (.bool false) := by
  obtain ⟨b, rfl, h⟩ := h
  cases b with
  | false => rfl
  | true => exact absurd (h.out.1 rfl) hp
set_option maxHeartbeats 4000000 in
theorem pCheck_c (l : List Nd) (nets : List Int) (of : List Int) (ah : List (List Int)) (N : Int) (vN vT vO vA : Value) (pt : Int) (w : World) (hN : NdsAt w vN l) (hT : IntsAt w vT nets) (hf : Fits l nets) (hO : IntsAt w vO of) (hA : RowsAt w vA ah) :
    Calls Tryz.prog 18 #[.agg #[vN, vT, .int .i64 pt], .agg #[vO, .int .i64 N, vA]] w fun e w' => RetE (mayN l nets pt = true ∧ PtsOk l of N ah) e ∧ Below w.heap.size w w' := by
  have HC : Hid (∀ W, Below w.heap.size w W → Calls Tryz.prog 32 #[.agg #[vN, vT, .int .i64 pt]] W fun e w' => e = .returned (.int .i64 (errB (mayN l nets pt))) ∧ Below W.heap.size W w') := fun W hW => kCheck_c l nets vN vT pt W (hN.below hW) (hT.below hW) hf
  have HTo : mayN l nets pt = true → ∀ W, Below w.heap.size w W → Calls Tryz.prog 33 #[vN, .agg #[vO, .int .i64 N, vA]] W fun e w' => RetB (Told l.length of N) e ∧ Below W.heap.size W w' := fun hm W hW => by
    obtain ⟨na, nc, rfl, hnc, _⟩ := id hN
    exact allTold_c of N na l.length nc vO vA W (hO.below hW) (by obtain ⟨a, c, e, _⟩ := hA; exact ⟨_, _, _, e⟩) (may_ok hm).n
  have HTg : mayN l nets pt = true → of.length = l.length → ∀ W, Below w.heap.size w W → Calls Tryz.prog 34 #[vN, vO] W fun e w' => RetB (Tog l of) e ∧ Below W.heap.size W w' := fun hm hl W hW => together_c l of vN vO W (hN.below hW) (hO.below hW) (may_ok hm) hl
  have HRe : mayN l nets pt = true → Told l.length of N → ∀ W, Below w.heap.size w W → Calls Tryz.prog 35 #[vN, .agg #[vO, .int .i64 N, vA]] W fun e w' => e = .returned (.bool (decide (ah = aheadL l of N.toNat))) ∧ Below W.heap.size W w' := fun hm ht W hW => by
    obtain ⟨h1, h2, h3, h4, h5⟩ := ht
    obtain ⟨c, rfl⟩ : ∃ c : Nat, N = (c : Int) := ⟨N.toNat, by omega⟩
    rw [Int.toNat_natCast]
    exact reaches_c l of ah c vN vO vA W (hN.below hW) (hO.below hW) (hA.below hW) (may_okd hm) h3 h4 (by omega)
  have HP : Told l.length of N → Tog l of → ah = aheadL l of N.toNat → PtsOk l of N ah := fun ht hg ha => ⟨ht.1, ht.2.1, ht.2.2.1, ht.2.2.2.1, ht.2.2.2.2, hg, ha⟩
  have HPt : PtsOk l of N ah → Told l.length of N := fun h => ⟨h.lo, h.hi, h.n, h.r, h.u⟩
  obtain ⟨na, n, nc, rfl⟩ := hN.shape
  obtain ⟨ta, k, tc, rfl⟩ := hT.shape
  obtain ⟨oa, m, oc, rfl⟩ := hO.shape
  obtain ⟨aa, am, ac, rfl⟩ := hA.shape
  clear hN hT hf hO hA
  have HX : Hid (∀ W, Below ((w.alloc (.cells #[.slice na n nc, .slice ta k tc, .int .i64 pt] 26)).alloc (.cells #[.slice oa m oc, .int .i64 N, .slice aa am ac] 29)).heap.size ((w.alloc (.cells #[.slice na n nc, .slice ta k tc, .int .i64 pt] 26)).alloc (.cells #[.slice oa m oc, .int .i64 N, .slice aa am ac] 29)) W → ((W.cell? ⟨w.heap.size, 0, none⟩ = some (.slice na n nc) ∧ W.cell? ⟨w.heap.size, 1, none⟩ = some (.slice ta k tc) ∧ W.cell? ⟨w.heap.size, 2, none⟩ = some (.int .i64 pt)) ∧ (W.cell? ⟨w.heap.size + 1, 0, none⟩ = some (.slice oa m oc) ∧ W.cell? ⟨w.heap.size + 1, 1, none⟩ = some (.int .i64 N) ∧ W.cell? ⟨w.heap.size + 1, 2, none⟩ = some (.slice aa am ac)) ∧ w.heap.size < W.heap.size ∧ w.heap.size + 1 < W.heap.size)) := fun W hb => by
    have h1 := (hb.block w.heap.size (by simp; omega)).trans ((alOld (by simp)).trans (alAt rfl))
    have h2 := (hb.block (w.heap.size + 1) (by simp)).trans (alAt (by simp))
    exact ⟨cells3n h1, cells3n h2, hLt h1, hLt h2⟩
  have HB0 : Hid (Below w.heap.size w ((w.alloc (.cells #[.slice na n nc, .slice ta k tc, .int .i64 pt] 26)).alloc (.cells #[.slice oa m oc, .int .i64 N, .slice aa am ac] 29))) := belA (belA (Below.refl _ _) _) _
  cases hmay : mayN l nets pt with
  | false =>
    rw [hmay] at HC
    have he : errB false = 1 := rfl
    rw [he] at HC
    clear HTo HTg HRe HP HPt hmay
    go_enter Tryz.func18, Tryz.ntmps18
    go_wp2_with (first | (go_at_call 32; refine (HC.out _ HB0.out).mono ?_; rintro e w5 ⟨rfl, hb5⟩))
    go_ret
    exact ⟨Or.inr ⟨fun h => (by cases h.1), rfl⟩, bel HB0.out hb5⟩
  | true =>
    rw [hmay] at HC
    have he : errB true = 0 := rfl
    rw [he] at HC
    rcases Classical.em (Told l.length of N) with ht | ht
    · have HT1 : Hid (∀ W, Below w.heap.size w W → Calls Tryz.prog 33 #[.slice na n nc, .agg #[.slice oa m oc, .int .i64 N, .slice aa am ac]] W fun e w' => e = .returned (.bool true) ∧ Below W.heap.size W w') := fun W hW => (HTo hmay W hW).mono fun e w' h => ⟨h.1.t ht, h.2⟩
      rcases Classical.em (Tog l of) with hg | hg
      · have HG1 : Hid (∀ W, Below w.heap.size w W → Calls Tryz.prog 34 #[.slice na n nc, .slice oa m oc] W fun e w' => e = .returned (.bool true) ∧ Below W.heap.size W w') := fun W hW => (HTg hmay ht.2.2.1 W hW).mono fun e w' h => ⟨h.1.t hg, h.2⟩
        have HR1 : Hid (∀ W, Below w.heap.size w W → Calls Tryz.prog 35 #[.slice na n nc, .agg #[.slice oa m oc, .int .i64 N, .slice aa am ac]] W fun e w' => e = .returned (.bool (decide (ah = aheadL l of N.toNat))) ∧ Below W.heap.size W w') := HRe hmay ht
        by_cases ha : ah = aheadL l of N.toNat
        · have HPP : Hid (PtsOk l of N ah) := HP ht hg ha
          rw [decide_eq_true ha] at HR1
          clear HTo HTg HRe HP HPt ht hg ha hmay
          go_enter Tryz.func18, Tryz.ntmps18
          go_wp2_with (first
            | (go_at_call 32; refine (HC.out _ HB0.out).mono ?_; rintro e w5 ⟨rfl, hb5⟩; have x5 := HX.out _ hb5; obtain ⟨⟨a0, a1, a2⟩, ⟨b0, b1, b2⟩, la, lb⟩ := x5)
            | (go_at_call 33; refine (HT1.out _ (bel HB0.out hb5)).mono ?_; rintro e w6 ⟨rfl, hb6⟩; have x6 := HX.out _ (bel hb5 hb6); obtain ⟨⟨c0, c1, c2⟩, ⟨d0, d1, d2⟩, lc, ld⟩ := x6)
            | (go_at_call 34; refine (HG1.out _ (bel HB0.out (bel hb5 hb6))).mono ?_; rintro e w7 ⟨rfl, hb7⟩; have x7 := HX.out _ (bel (bel hb5 hb6) hb7); obtain ⟨⟨e0, e1, e2⟩, ⟨f0, f1, f2⟩, le, lf⟩ := x7)
            | (go_at_call 35; refine (HR1.out _ (bel HB0.out (bel (bel hb5 hb6) hb7))).mono ?_; rintro e w8 ⟨rfl, hb8⟩))
          go_ret
          exact ⟨Or.inl ⟨⟨by simp, HPP.out⟩, rfl⟩, bel HB0.out (bel (bel (bel hb5 hb6) hb7) hb8)⟩
        · have HPP : Hid (¬ PtsOk l of N ah) := fun h => ha h.a
          rw [decide_eq_false ha] at HR1
          clear HTo HTg HRe HP HPt ht hg ha hmay
          go_enter Tryz.func18, Tryz.ntmps18
          go_wp2_with (first
            | (go_at_call 32; refine (HC.out _ HB0.out).mono ?_; rintro e w5 ⟨rfl, hb5⟩; have x5 := HX.out _ hb5; obtain ⟨⟨a0, a1, a2⟩, ⟨b0, b1, b2⟩, la, lb⟩ := x5)
            | (go_at_call 33; refine (HT1.out _ (bel HB0.out hb5)).mono ?_; rintro e w6 ⟨rfl, hb6⟩; have x6 := HX.out _ (bel hb5 hb6); obtain ⟨⟨c0, c1, c2⟩, ⟨d0, d1, d2⟩, lc, ld⟩ := x6)
            | (go_at_call 34; refine (HG1.out _ (bel HB0.out (bel hb5 hb6))).mono ?_; rintro e w7 ⟨rfl, hb7⟩; have x7 := HX.out _ (bel (bel hb5 hb6) hb7); obtain ⟨⟨e0, e1, e2⟩, ⟨f0, f1, f2⟩, le, lf⟩ := x7)
            | (go_at_call 35; refine (HR1.out _ (bel HB0.out (bel (bel hb5 hb6) hb7))).mono ?_; rintro e w8 ⟨rfl, hb8⟩))
          go_ret
          exact ⟨Or.inr ⟨fun h => HPP.out h.2, rfl⟩, bel HB0.out (bel (bel (bel hb5 hb6) hb7) hb8)⟩
      · have HG1 : Hid (∀ W, Below w.heap.size w W → Calls Tryz.prog 34 #[.slice na n nc, .slice oa m oc] W fun e w' => e = .returned (.bool false) ∧ Below W.heap.size W w') := fun W hW => (HTg hmay ht.2.2.1 W hW).mono fun e w' h => ⟨h.1.f hg, h.2⟩
        have HPP : Hid (¬ PtsOk l of N ah) := fun h => hg h.t
        clear HTo HTg HRe HP HPt ht hg hmay
        go_enter Tryz.func18, Tryz.ntmps18
        go_wp2_with (first
          | (go_at_call 32; refine (HC.out _ HB0.out).mono ?_; rintro e w5 ⟨rfl, hb5⟩; have x5 := HX.out _ hb5; obtain ⟨⟨a0, a1, a2⟩, ⟨b0, b1, b2⟩, la, lb⟩ := x5)
          | (go_at_call 33; refine (HT1.out _ (bel HB0.out hb5)).mono ?_; rintro e w6 ⟨rfl, hb6⟩; have x6 := HX.out _ (bel hb5 hb6); obtain ⟨⟨c0, c1, c2⟩, ⟨d0, d1, d2⟩, lc, ld⟩ := x6)
          | (go_at_call 34; refine (HG1.out _ (bel HB0.out (bel hb5 hb6))).mono ?_; rintro e w7 ⟨rfl, hb7⟩))
        go_ret
        exact ⟨Or.inr ⟨fun h => HPP.out h.2, rfl⟩, bel HB0.out (bel (bel hb5 hb6) hb7)⟩
    · have HT1 : Hid (∀ W, Below w.heap.size w W → Calls Tryz.prog 33 #[.slice na n nc, .agg #[.slice oa m oc, .int .i64 N, .slice aa am ac]] W fun e w' => e = .returned (.bool false) ∧ Below W.heap.size W w') := fun W hW => (HTo hmay W hW).mono fun e w' h => ⟨h.1.f ht, h.2⟩
      have HPP : Hid (¬ PtsOk l of N ah) := fun h => ht (HPt h)
      clear HTo HTg HRe HP HPt ht hmay
      go_enter Tryz.func18, Tryz.ntmps18
      go_wp2_with (first
        | (go_at_call 32; refine (HC.out _ HB0.out).mono ?_; rintro e w5 ⟨rfl, hb5⟩; have x5 := HX.out _ hb5; obtain ⟨⟨a0, a1, a2⟩, ⟨b0, b1, b2⟩, la, lb⟩ := x5)
        | (go_at_call 33; refine (HT1.out _ (bel HB0.out hb5)).mono ?_; rintro e w6 ⟨rfl, hb6⟩))
      go_ret
      exact ⟨Or.inr ⟨fun h => HPP.out h.2, rfl⟩, bel HB0.out (bel hb5 hb6)⟩
end Go.Proofs.YtokepgnnepjiaaaGreat

/- The netlist of an input and a delay, in two parts: what layers 9, 11 and 13 tell of it. -/
namespace Go.Proofs.YtokepgnnepjiaaaGreat
set_option maxRecDepth 100000
open Go.RowKit Lg Nl Go.Maps
set_option linter.unusedVariables false
set_option linter.unusedSimpArgs false
set_option maxRecDepth 100000


def pIn : Nd := ⟨2, 0, 1, [], [], 0, 0, 0⟩
def pDe : Nd := ⟨8, 0, 1, [0], [], 0, 0, 2⟩
def pL : List Nd := [pIn, pDe]
theorem pL_may : mayN pL [0, 1] 2 = true := by decide +kernel
theorem pL_fits : Fits pL [0, 1] := ⟨by decide, by decide, by decide, by decide⟩
theorem pL_lev : Lev pL (gAt [0, 0]) := levB_lev (by decide +kernel)
theorem pL_ok2 : PtsOk pL [0, 1] 2 [[0, 2], [0, 0]] := by
  refine ⟨by omega, by omega, rfl, fun z hz => by simp at hz; omega, fun k a b => ?_, fun i hi h8 z hz => ?_, by decide +kernel⟩
  · have e : k = 0 ∨ k = 1 := by omega
    rcases e with rfl | rfl <;> simp
  · have h0 : i = 0 ∨ i = 1 := by simp [pL] at hi; omega
    rcases h0 with rfl | rfl
    · simp [ndAt, pL, pIn] at hz
    · exact absurd rfl h8
theorem pL_check (vN vT vO vA : Value) {of : List Int} {N : Int} {ah : List (List Int)} (W : World) (hN : NdsAt W vN pL) (hT : IntsAt W vT [0, 1]) (hO : IntsAt W vO of) (hA : RowsAt W vA ah) (hk : PtsOk pL of N ah) :
    Calls Tryz.prog 18 #[.agg #[vN, vT, .int .i64 2], .agg #[vO, .int .i64 N, vA]] W fun e w' => e = .returned (.int .i64 0) ∧ Below W.heap.size W w' := by
  refine (pCheck_c pL [0, 1] of ah N vN vT vO vA 2 W hN hT pL_fits hO hA).mono ?_
  rintro e w' ⟨hP, hb⟩
  rcases hP with ⟨_, h⟩ | ⟨h, _⟩
  · exact ⟨h, hb⟩
  · exact absurd ⟨pL_may, hk⟩ h
theorem pL_at (w : World) : NdsAt ((w.alloc (.cells #[.int .i64 0] 3)).alloc (.cells #[.int .i64 2, .int .i64 0, .int .i64 1, .slice none 0 0, .string ⟨#[]⟩, .int .i64 0, .int .i64 0, .int .i64 0, .int .i64 8, .int .i64 0, .int .i64 1, .slice (some ⟨w.heap.size, 0, none⟩) 1 1, .string ⟨#[]⟩, .int .i64 0, .int .i64 0, .int .i64 2] 61)) (.slice (some ⟨w.heap.size + 1, 0, none⟩) 2 2) pL := by
  have ho := World.ownsRow_lit (base := 0) (e := 61) (size := 8) (w.alloc (.cells #[.int .i64 0] 3)) (ndC pIn (.slice none 0 0) ++ (ndC pDe (.slice (some ⟨w.heap.size, 0, none⟩) 1 1) ++ [])).toArray 2 (Nat.zero_le _) (by decide) rfl
  have k : KeepN anyB (w.alloc (.cells #[.int .i64 0] 3)) ((w.alloc (.cells #[.int .i64 0] 3)).alloc (.cells (ndC pIn (.slice none 0 0) ++ (ndC pDe (.slice (some ⟨w.heap.size, 0, none⟩) 1 1) ++ [])).toArray 61)) := ⟨by simp, fun k hk _ => alOld hk⟩
  have h1 : (w.alloc (.cells #[.int .i64 0] 3)).cell? ⟨w.heap.size, 0, none⟩ = some (.int .i64 0) := by rw [Lib.cell_of_heap (alAt rfl)]; rfl
  rw [World.size_alloc] at ho
  exact own_nds (N := anyB) ho ((NcAt.cons (x := pIn) (ints_none _) (NcAt.cons (x := pDe) (ints_one (by simp) h1) NcAt.nil)).keep k)
theorem rows_two {w : World} {g a b : Nat} {x y : List Int} (hx : IntsAt w (.slice (some ⟨a, 0, none⟩) 2 2) x) (hy : IntsAt w (.slice (some ⟨b, 0, none⟩) 2 2) y) (hg : w.heap[g]? = some (.cells #[.slice (some ⟨a, 0, none⟩) 2 2, .slice (some ⟨b, 0, none⟩) 2 2] 24 (0, 0))) : RowsAt w (.slice (some ⟨g, 0, none⟩) 2 2) [x, y] := by
  refine ⟨_, 2, rfl, Nat.le_refl _, Or.inr ⟨g, 0, rfl, hLt hg, fun i hi => ?_⟩⟩
  have h0 : i = 0 ∨ i = 1 := by simp at hi; omega
  rcases h0 with rfl | rfl
  · exact ⟨_, hx, by rw [Lib.cell_of_heap hg]; rfl⟩
  · exact ⟨_, hy, by rw [Lib.cell_of_heap hg]; rfl⟩
end Go.Proofs.YtokepgnnepjiaaaGreat
