/- The reference's May: may a netlist be? -/
import Derived.Test.YtkgonnnpoldcoaaGKb
namespace Go.Proofs.Ytkgonnnpoldcoaa
open Go.RowKit Lg Nl Go.Maps
set_option linter.unusedVariables false
set_option linter.unusedSimpArgs false

/-- a call's first block, and what was there ahead -/
structure S1 (w : World) (bx : Obj) (W : World) : Prop where
  bel : Below w.heap.size w W
  x : W.heap[w.heap.size]? = some bx
theorem S1.start {w : World} {bx : Obj} : S1 w bx (w.alloc bx) := ⟨belA (Below.refl _ _) _, by rw [alAt rfl]⟩
theorem S1.below {w W W' : World} {bx : Obj} (h : S1 w bx W) (hb : Below W.heap.size W W') : S1 w bx W' := ⟨h.bel.trans (hb.mono h.bel.size), (hb.block _ (hLt h.x)).trans h.x⟩
theorem S1.alloc {w W : World} {bx o : Obj} (h : S1 w bx W) : S1 w bx (W.alloc o) := h.below (belA (Below.refl _ _) _)
theorem S1.set {w W : World} {bx : Obj} (h : S1 w bx W) {b j : Nat} {v : Value} (hb : w.heap.size + 1 ≤ b) : S1 w bx (W.setCell ⟨b, j, none⟩ v) :=
  ⟨h.bel.setCell (by show w.heap.size ≤ b; omega) _, (Below.heap_setCell _ _ _ _ (by show w.heap.size ≠ b; omega)).trans h.x⟩
/-- a node's cells -/
theorem NdsAt.at_ {w : World} {g o n cap : Nat} {l : List Nd} (h : NdsAt w (.slice (some ⟨g, o, none⟩) n cap) l) (i : Nat) (hi : i < l.length) : g < w.heap.size ∧ ∃ ia ic, IntsAt w (.slice ia l[i].ins.length ic) l[i].ins ∧
    w.cell? ⟨g, o + i * 8, none⟩ = some (.int .i64 l[i].k) ∧ w.cell? ⟨g, o + i * 8 + 1, none⟩ = some (.int .i64 l[i].op) ∧ w.cell? ⟨g, o + i * 8 + 2, none⟩ = some (.int .i64 l[i].wd) ∧ w.cell? ⟨g, o + i * 8 + 3, none⟩ = some (.slice ia l[i].ins.length ic) ∧ w.cell? ⟨g, o + i * 8 + 4, none⟩ = some (.string (S l[i].vl)) ∧ w.cell? ⟨g, o + i * 8 + 5, none⟩ = some (.int .i64 l[i].hi) ∧ w.cell? ⟨g, o + i * 8 + 6, none⟩ = some (.int .i64 l[i].lo) ∧ w.cell? ⟨g, o + i * 8 + 7, none⟩ = some (.int .i64 l[i].tm) := by
  obtain ⟨ao, c, hv, _, h⟩ := h
  injection hv with e1 e2 e3
  subst e1
  rcases h with h | ⟨g', o', e, hg, h⟩
  · subst h; cases hi
  · injection e with e
    injection e with e1 e2
    subst e1 e2
    obtain ⟨vi, h1, h2⟩ := h i hi
    obtain ⟨ia, ic, rfl, _⟩ := id h1
    exact ⟨hg, ia, ic, h1, h2 0 _ rfl, h2 1 _ rfl, h2 2 _ rfl, h2 3 _ rfl, h2 4 _ rfl, h2 5 _ rfl, h2 6 _ rfl, h2 7 _ rfl⟩
theorem may_size {l : List Nd} {nets : List Int} {pt : Int} (h : ¬ (l.length ≤ 4096 ∧ pt = (nets.length : Int))) : mayN l nets pt = false := by
  unfold mayN; rw [decide_eq_false h]; rfl
theorem may_shape {l : List Nd} {nets : List Int} {pt : Int} {i : Nat} (hi : i < l.length) (h : shapeB l l[i] = false) : mayN l nets pt = false := by
  have : l.all (shapeB l) = false := by rw [List.all_eq_false]; exact ⟨l[i], List.getElem_mem hi, by simp [h]⟩
  unfold mayN; rw [this]; simp
theorem may_net {l : List Nd} {nets : List Int} {pt : Int} {i : Nat} (hi : i < nets.length) (h : inB l.length nets[i] = false) : mayN l nets pt = false := by
  have : nets.all (inB l.length) = false := by rw [List.all_eq_false]; exact ⟨nets[i], List.getElem_mem hi, by simp [h]⟩
  unfold mayN portB; rw [this]; simp
theorem may_node {l : List Nd} {nets : List Int} {pt : Int} {i : Nat} (hi : i < l.length) (h : nodeB l[i] (wsOf l l[i].ins) = false) : mayN l nets pt = false := by
  have : (l.all fun x => nodeB x (wsOf l x.ins)) = false := by rw [List.all_eq_false]; exact ⟨l[i], List.getElem_mem hi, by simp [h]⟩
  unfold mayN; rw [this]; simp
theorem may_in {l : List Nd} {nets : List Int} {pt : Int} {i : Nat} (hi : i < l.length) (hk : l[i].k = 2) (h : cnt nets i ≠ 1) : mayN l nets pt = false := by
  have : ((List.range l.length).all fun i => !decide ((ndAt l i).k = 2) || decide (cnt nets i = 1)) = false := by
    rw [List.all_eq_false]; exact ⟨i, List.mem_range.2 hi, by rw [ndAt_eq hi]; simp [hk, h]⟩
  unfold mayN portB; rw [this]; simp
theorem may_yes {l : List Nd} {nets : List Int} {pt : Int} (h0 : l.length ≤ 4096 ∧ pt = (nets.length : Int)) (h1 : l.all (shapeB l) = true) (h2 : nets.all (inB l.length) = true) (h3 : ∀ i (hi : i < l.length), nodeB l[i] (wsOf l l[i].ins) = true ∧ (l[i].k = 2 → cnt nets i = 1)) : mayN l nets pt = true := by
  have a : (l.all fun x => nodeB x (wsOf l x.ins)) = true := by
    rw [List.all_eq_true]; intro x hx; obtain ⟨i, hi, rfl⟩ := List.getElem_of_mem hx; exact (h3 i hi).1
  have b : ((List.range l.length).all fun i => !decide ((ndAt l i).k = 2) || decide (cnt nets i = 1)) = true := by
    rw [List.all_eq_true]; intro i hi; have hi' := List.mem_range.1 hi; rw [ndAt_eq hi']
    by_cases hk : l[i].k = 2
    · simp [hk, (h3 i hi').2 hk]
    · simp [hk]
  unfold mayN portB; rw [h1, h2, a, b]; simp [h0]
theorem all_snocL {α : Type} {p : α → Bool} {l : List α} {k : Nat} (hk : k < l.length) (h : (l.take k).all p = true) (hp : p l[k] = true) : (l.take (k + 1)).all p = true := by
  rw [List.take_succ_eq_append_getElem hk, List.all_append, h]; simp [hp]
theorem all_done {α : Type} {p : α → Bool} {l : List α} {k : Nat} (hk : l.length ≤ k) (h : (l.take k).all p = true) : l.all p = true := by rw [List.take_of_length_le hk] at h; exact h
theorem all_at {α : Type} {p : α → Bool} {l : List α} (h : l.all p = true) {i : Nat} (hi : i < l.length) : p l[i] = true := by rw [List.all_eq_true] at h; exact h _ (List.getElem_mem hi)
theorem all_no {α : Type} {p : α → Bool} {l : List α} {i : Nat} (hi : i < l.length) (h : p l[i] = false) : l.all p = false := by rw [List.all_eq_false]; exact ⟨l[i], List.getElem_mem hi, by simp [h]⟩
theorem shape_parts {l : List Nd} {x : Nd} : shapeB l x = (wideB x && zeroB x && x.ins.all (inB l.length)) := rfl
theorem infoNode : ∃ i, Try.prog.info? 47 = some i ∧ i.size = 8 := by
  have h : (Try.prog.info? 47).map (fun i => i.size) = some 8 := by kernel_rfl
  rcases hi : Try.prog.info? 47 with _ | i
  · rw [hi] at h; cases h
  · rw [hi] at h; injection h with h; exact ⟨i, rfl, h⟩

theorem mkInts (n : Nat) (hn : n ≤ 140737488355328 / 8) : ∀ w : World, (Instr.makeSlice 24 (.int .i64 (n : Int)) (.int .i64 (n : Int))).run Try.prog w = .ok (.slice (some ⟨w.heap.size, 0, none⟩) n n) (w.alloc (.cells (madeCells #[.int .i64 0] n) 3)) := fun w =>
  run_make_row' (P := Try.prog) 24 3 (.int .i64 0) 8 Try.underlying24 (by kernel_rfl) rfl .i64 .i64 n (by omega) (by omega) w
theorem cnt_le (l : List Int) (q : Nat) : cnt l q ≤ l.length := List.countP_le_length
theorem cnt_snoc (l : List Int) (z q : Nat) : cnt (l ++ [(z : Int)]) q = if q = z then cnt l q + 1 else cnt l q := by
  unfold cnt
  rw [List.countP_append]
  by_cases h : q = z
  · subst h; simp
  · have : ¬ (z : Int) = (q : Int) := by omega
    simp [h, this]
/-- netlists that fit the machine -/
structure Fits (l : List Nd) (nets : List Int) : Prop where
  n : l.length ≤ 140737488355328
  t : nets.length ≤ 17592186044416
  i : ∀ x ∈ l, x.ins.length ≤ 17592186044416
  v : ∀ x ∈ l, x.vl.length ≤ 140737488355328
set_option maxRecDepth 100000 in
set_option maxHeartbeats 4000000 in
theorem May_c (l : List Nd) (nets : List Int) (vN vT : Value) (pt : Int) (w : World) (hN : NdsAt w vN l) (hT : IntsAt w vT nets) (hf : Fits l nets) :
    Calls Try.prog 13 #[.agg #[vN, vT, .int .i64 pt]] w fun e w' => e = .returned (.bool (mayN l nets pt)) ∧ Below w.heap.size w w' := by
  obtain ⟨na, nc, rfl, hnc, hN'⟩ := id hN
  obtain ⟨ta, tc, rfl, htc, hT'⟩ := id hT
  obtain ⟨n, hn⟩ : ∃ n, n = l.length := ⟨_, rfl⟩
  obtain ⟨m, hm⟩ : ∃ m, m = nets.length := ⟨_, rfl⟩
  rw [← hn] at hN hnc ⊢
  rw [← hm] at hT htc ⊢
  have HND : Hid (∀ (W : World) (i : Nat) (hi : i < l.length) (ia : Option Addr) (ic : Nat), Below w.heap.size w W → IntsAt W (.slice ia l[i].ins.length ic) l[i].ins → l.length ≤ 4096 → l.all (shapeB l) = true → Calls Try.prog 31 #[.agg #[.slice na n nc, .slice ta m tc, .int .i64 pt], .agg #[.int .i64 l[i].k, .int .i64 l[i].op, .int .i64 l[i].wd, .slice ia l[i].ins.length ic, .string (S l[i].vl), .int .i64 l[i].hi, .int .i64 l[i].lo, .int .i64 l[i].tm]] W fun e w' => e = .returned (.bool (nodeB l[i] (wsOf l l[i].ins))) ∧ Below W.heap.size W w') := by
    intro W i hi ia ic hW hI hl hs
    have hm := List.getElem_mem hi
    refine node_c l l[i] _ _ (.slice ia l[i].ins.length ic) pt W ⟨_, _, _, rfl⟩ (hN.below hW) hI ?_ ?_ hl (hf.i _ hm) (hf.v _ hm)
    · have := all_at hs hi; rw [shape_parts, Bool.and_eq_true] at this; exact this.2
    · rw [List.all_eq_true] at hs ⊢; intro x hx; have := hs x hx; rw [shape_parts, Bool.and_eq_true, Bool.and_eq_true] at this; exact this.1.1
  have nb : n ≤ 140737488355328 := by rw [hn]; exact hf.n
  have mb : m ≤ 17592186044416 := by rw [hm]; exact hf.t
  have HN : Hid (NdsAt w (.slice na n nc) l) := hN
  have HT : Hid (IntsAt w (.slice ta m tc) nets) := hT
  have HF : Hid (Fits l nets) := hf
  have HNL : Hid (n = l.length) := hn
  have HML : Hid (m = nets.length) := hm
  obtain ⟨R, hR⟩ : ∃ R, R = mayN l nets pt := ⟨_, rfl⟩
  rw [← hR]
  have HR : Hid (R = mayN l nets pt) := hR
  clear hN hT hf hn hm hR hN' hT'
  by_cases h1 : 4096 < n
  · go_enter Try.func13, Try.ntmps13
    go_wp2
    all_goals (go_ret; exact ⟨ret_bool (by rw [HR.out, may_size (by rw [← HNL.out]; omega)]), belA (Below.refl _ _) _⟩)
  by_cases h2 : pt = (m : Int)
  · subst h2
    go_enter Try.func13, Try.ntmps13
    go_wp2
    have hn : n ≤ 4096 := by omega
    clear h1
    go_loopw [4] (fun s4 W => ∃ (i : Nat), i ≤ n ∧ s4 = .int .i64 i ∧ Hid ((l.take i).all (shapeB l) = true) ∧ Hid (S1 w (.cells #[.slice na n nc, .slice ta m tc, .int .i64 m] 26 (0, 0)) W)) (fun s4 W => n - (intOf s4).toNat)
    case atStart => exact ⟨0, Nat.zero_le _, rfl, rfl, S1.start⟩
    case round =>
      obtain ⟨i, hi, rfl, HA, HS⟩ := hrel
      obtain ⟨b0, b1, b2⟩ := cells3n HS.out.x
      have lx := hLt HS.out.x
      by_cases hlt : i < n
      · have hil : i < l.length := by rw [← HNL.out]; exact hlt
        obtain ⟨g, o, cap, hg⟩ := HN.out.some_ (by omega)
        injection hg with e1 e2 e3
        subst e1
        obtain ⟨gl, ia, ic, hI, d0, d1, d2, d3, d4, d5, d6, d7⟩ := (HN.out.below HS.out.bel).at_ i hil
        have HI : Hid (IntsAt wr (.slice ia l[i].ins.length ic) l[i].ins) := hI
        have hv : l[i].vl.length ≤ 140737488355328 := HF.out.v _ (List.getElem_mem hil)
        have hq : l[i].ins.length ≤ 17592186044416 := HF.out.i _ (List.getElem_mem hil)
        obtain ⟨x, hx⟩ : ∃ x, x = l[i] := ⟨_, rfl⟩
        rw [← hx] at HI d0 d1 d2 d3 d4 d5 d6 d7 hv hq
        have HX : Hid (x = l[i]) := hx
        clear hx hI e2 e3
        have HZ : Hid (∀ W, Calls Try.prog 30 #[.agg #[.int .i64 x.k, .int .i64 x.op, .int .i64 x.wd, .slice ia x.ins.length ic, .string (S x.vl), .int .i64 x.hi, .int .i64 x.lo, .int .i64 x.tm]] W fun e w' => e = .returned (.bool (zeroB x)) ∧ Below W.heap.size W w') := fun W => zero_c x ia _ ic W
        obtain ⟨zb, hzb⟩ : ∃ zb, zb = zeroB x := ⟨_, rfl⟩
        rw [← hzb] at HZ
        have HZB : Hid (zb = zeroB x) := hzb
        clear hzb
        obtain ⟨k, op, wd, ins, vl, hi', lo, tm⟩ := x
        simp only at HI d0 d1 d2 d3 d4 d5 d6 d7 hv hq HZ
        obtain ⟨q, hql⟩ : ∃ q, q = ins.length := ⟨_, rfl⟩
        rw [← hql] at HI d3 hq HZ
        have HQL : Hid (q = ins.length) := hql
        clear hql
        have i1 : (0 : Int) ≤ (i : Int) := by omega
        have i2 : (i : Int) < (n : Int) := by omega
        rcases (by omega : (wd < 1 ∨ (1 ≤ wd ∧ 256 < wd)) ∨ (1 ≤ wd ∧ wd ≤ 256)) with hw | ⟨hw1, hw2⟩
        · rcases hw with hw | ⟨hw1, hw⟩
          all_goals
            go_wp2_with (first | (go_at_call 30; refine (HZ.out _).mono ?_; rintro e w5 ⟨rfl, hb5⟩))
            all_goals (go_ret; exact ⟨ret_bool (by rw [HR.out, may_shape hil (by rw [← HX.out, shape_parts]; simp [wideB]; omega)]), by first | exact (S1.alloc HS.out).bel | exact (S1.below (S1.alloc HS.out) hb5).bel⟩)
        cases zb with
        | false =>
          go_wp2_with (first | (go_at_call 30; refine (HZ.out _).mono ?_; rintro e w5 ⟨rfl, hb5⟩))
          all_goals (go_ret; exact ⟨ret_bool (by rw [HR.out, may_shape hil (by rw [← HX.out, shape_parts, ← HZB.out]; simp)]), (S1.below (S1.alloc HS.out) hb5).bel⟩)
        | true =>
          go_wp2_with (first | (go_at_call 30; refine (HZ.out _).mono ?_; rintro e w5 ⟨rfl, hb5⟩))
          have HS5 := S1.below (S1.alloc HS.out) hb5
          have hbx : w5.heap[wr.heap.size]? = _ := (hb5.block wr.heap.size (by simp)).trans (alAt rfl)
          obtain ⟨x0, x1, x2, x3, x4, x5, x6, x7⟩ := cells8 hbx
          have HI5 : Hid (IntsAt w5 (.slice ia q ic) ins) := (HI.out.below (belA (Below.refl _ _) _)).below hb5
          clear hbx x0 x1 x2 x4 x5 x6 x7 d0 d1 d2 d3 d4 d5 d6 d7 hb5
          go_loop [6] (fun s6 => ∃ (kk : Nat), kk ≤ q ∧ s6 = .int .i64 kk ∧ Hid ((ins.take kk).all (inB n) = true)) (fun s6 => q - (intOf s6).toNat)
          case atStart => exact ⟨0, Nat.zero_le _, rfl, rfl⟩
          case round =>
            obtain ⟨kk, hkk, rfl, HAK⟩ := hrel
            by_cases hlk : kk < q
            · have hkl : kk < ins.length := by rw [← HQL.out]; exact hlk
              obtain ⟨g2, o2, cap2, hg2⟩ := HI5.out.some_ (by omega)
              injection hg2 with e4 e5 e6
              subst e4
              obtain ⟨gl2, gd2⟩ := HI5.out.cell kk hkl
              obtain ⟨z, hz⟩ : ∃ z, z = ins[kk] := ⟨_, rfl⟩
              rw [← hz] at gd2
              have HZK : Hid (z = ins[kk]) := hz
              have k1 : (0 : Int) ≤ (kk : Int) := by omega
              have k2 : (kk : Int) < (q : Int) := by omega
              clear hz e5 e6
              rcases (by omega : (z < 0 ∨ (0 ≤ z ∧ (n : Int) ≤ z)) ∨ (0 ≤ z ∧ z < (n : Int))) with hz | ⟨hz1, hz2⟩
              · have hno : inB l.length ins[kk] = false := by rw [← HZK.out, ← HNL.out]; simp [inB]; omega
                have HNO : Hid (inB l.length ins[kk] = false) := hno
                clear hno
                rcases hz with hz | ⟨hz1, hz2⟩
                all_goals
                  go_wp2
                  go_ret
                  exact ⟨ret_bool (by rw [HR.out, may_shape hil (by rw [← HX.out, shape_parts]; simp only; rw [all_no hkl HNO.out]; simp)]), HS5.bel⟩
              · go_wp2
                go_round
                case rel => exact ⟨kk + 1, hlk, by go_num, all_snocL hkl HAK.out (by rw [← HZK.out]; simp [inB]; omega)⟩
                case measure => simp [intOf]; omega
            · obtain rfl : kk = q := by omega
              go_wp2
              go_roundw
              case rel => exact ⟨i + 1, hlt, by go_num, all_snocL hil HA.out (by rw [← HX.out, shape_parts, ← HZB.out]; simp only; rw [← HNL.out, all_done (Nat.le_of_eq HQL.out.symm) HAK.out]; simp [wideB]; omega), HS5⟩
              case measure => simp [intOf]; omega
      · obtain rfl : i = n := by omega
        have HAL : Hid (l.all (shapeB l) = true) := all_done (Nat.le_of_eq HNL.out.symm) HA.out
        clear HA hi hlt
        have hmk := mkInts i (by omega)
        go_wp2_with fail
        obtain ⟨T, hT⟩ : ∃ T, T = wr.heap.size := ⟨_, rfl⟩
        rw [← hT]
        have hTx : w.heap.size + 1 ≤ T := by rw [hT]; exact lx
        have HQ0 : Hid ((wr.alloc (.cells (madeCells #[.int .i64 0] i) 3)).rowIs T 3 i (fun q => .int .i64 (cnt (nets.take 0) q))) := rowCast (World.rowIs.congr (World.rowIs_made wr (.int .i64 0) i 3) (fun q _ => by simp [cnt])) hT.symm
        have HS0 : Hid (S1 w (.cells #[.slice na i nc, .slice ta m tc, .int .i64 m] 26 (0, 0)) (wr.alloc (.cells (madeCells #[.int .i64 0] i) 3))) := S1.alloc HS.out
        clear hmk b0 b1 b2 lx HS hT
        generalize wr.alloc (.cells (madeCells #[.int .i64 0] i) 3) = W0 at HQ0 HS0 ⊢
        go_loopw [8] (fun s8 W => ∃ (kk : Nat), kk ≤ m ∧ s8 = .int .i64 kk ∧ Hid ((nets.take kk).all (inB i) = true) ∧ Hid (S1 w (.cells #[.slice na i nc, .slice ta m tc, .int .i64 m] 26 (0, 0)) W) ∧ Hid (W.rowIs T 3 i (fun q => .int .i64 (cnt (nets.take kk) q)))) (fun s8 W => m - (intOf s8).toNat)
        case atStart => exact ⟨0, Nat.zero_le _, rfl, rfl, HS0.out, HQ0.out⟩
        case round =>
          obtain ⟨kk, hkk, rfl, HAK, HS, HQ⟩ := hrel
          obtain ⟨b0, b1, b2⟩ := cells3n HS.out.x
          have lx := hLt HS.out.x
          by_cases hlk : kk < m
          · have hkl : kk < nets.length := by rw [← HML.out]; exact hlk
            obtain ⟨g2, o2, cap2, hg2⟩ := HT.out.some_ (by omega)
            injection hg2 with e4 e5 e6
            subst e4
            obtain ⟨gl2, gd2⟩ := (HT.out.below HS.out.bel).cell kk hkl
            obtain ⟨z, hz⟩ : ∃ z, z = nets[kk] := ⟨_, rfl⟩
            rw [← hz] at gd2
            have HZK : Hid (z = nets[kk]) := hz
            have k1 : (0 : Int) ≤ (kk : Int) := by omega
            have k2 : (kk : Int) < (m : Int) := by omega
            clear hz e5 e6
            rcases (by omega : (z < 0 ∨ (0 ≤ z ∧ (i : Int) ≤ z)) ∨ (0 ≤ z ∧ z < (i : Int))) with hz | ⟨hz1, hz2⟩
            · have hno : inB l.length nets[kk] = false := by rw [← HZK.out, ← HNL.out]; simp [inB]; omega
              have HNO : Hid (inB l.length nets[kk] = false) := hno
              clear hno
              rcases hz with hz | ⟨hz1, hz2⟩
              all_goals
                go_wp2
                go_ret
                exact ⟨ret_bool (by rw [HR.out, may_net hkl HNO.out]), HS.out.bel⟩
            · obtain ⟨zi, rfl⟩ : ∃ zi : Nat, z = (zi : Int) := ⟨z.toNat, by omega⟩
              have hzi : zi < i := by omega
              have y0 := HQ.out.cell hzi
              have y1 := HQ.out.frozen zi
              have cb : cnt (nets.take kk) zi ≤ 17592186044416 := by have := cnt_le (nets.take kk) zi; rw [List.length_take] at this; omega
              obtain ⟨c, hc⟩ : ∃ c, c = cnt (nets.take kk) zi := ⟨_, rfl⟩
              have y2 : wr.cell? ⟨T, zi, none⟩ = some (.int .i64 (c : Int)) := by rw [y0, hc]
              rw [← hc] at cb
              have HC : Hid (c = cnt (nets.take kk) zi) := hc
              clear y0 hc
              go_wp2
              go_roundw
              case rel =>
                refine ⟨kk + 1, hlk, by go_num, all_snocL hkl HAK.out (by rw [← HZK.out]; simp [inB]; omega), S1.set HS.out hTx, ?_⟩
                refine World.rowIs.congr (World.rowIs.set HQ.out zi _) (fun q hq => ?_)
                rw [List.take_succ_eq_append_getElem hkl, ← HZK.out, cnt_snoc]
                by_cases hqz : q = zi
                · subst hqz; rw [if_pos rfl, if_pos rfl, HC.out]; go_num
                · rw [if_neg hqz, if_neg hqz]
              case measure => simp [intOf]; omega
          · obtain rfl : kk = m := by omega
            have HAN : Hid (nets.all (inB i) = true) := all_done (Nat.le_of_eq HML.out.symm) HAK.out
            have htk : nets.take kk = nets := by rw [HML.out]; exact List.take_length
            have HQn : Hid (wr.rowIs T 3 i (fun q => .int .i64 (cnt nets q))) := by rw [htk] at HQ; exact HQ.out
            clear HAK hkk hlk HQ htk
            go_wp2_with fail
            go_loopw [9] (fun s9 W => ∃ (j : Nat), j ≤ i ∧ s9 = .int .i64 j ∧ Hid (∀ q (hq : q < l.length), q < j → nodeB l[q] (wsOf l l[q].ins) = true ∧ (l[q].k = 2 → cnt nets q = 1)) ∧ Hid (S1 w (.cells #[.slice na i nc, .slice ta kk tc, .int .i64 kk] 26 (0, 0)) W) ∧ Hid (W.rowIs T 3 i (fun q => .int .i64 (cnt nets q)))) (fun s9 W => i - (intOf s9).toNat)
            case atStart => exact ⟨0, Nat.zero_le _, rfl, fun q hq h => (by omega), HS.out, HQn.out⟩
            case round =>
              clear HS HQn b0 b1 b2 lx
              obtain ⟨j, hj, rfl, HK, HS, HQ⟩ := hrel
              obtain ⟨b0, b1, b2⟩ := cells3n HS.out.x
              have lx := hLt HS.out.x
              by_cases hlt : j < i
              · have hjl : j < l.length := by rw [← HNL.out]; exact hlt
                obtain ⟨g, o, cap, hg⟩ := HN.out.some_ (by omega)
                injection hg with e1 e2 e3
                subst e1
                obtain ⟨gl, ia, ic, hI, d0, d1, d2, d3, d4, d5, d6, d7⟩ := (HN.out.below HS.out.bel).at_ j hjl
                have HC : Hid (∀ W, Below wr.heap.size wr W → Calls Try.prog 31 #[.agg #[.slice (some ⟨g, o, none⟩) i nc, .slice ta kk tc, .int .i64 kk], .agg #[.int .i64 l[j].k, .int .i64 l[j].op, .int .i64 l[j].wd, .slice ia l[j].ins.length ic, .string (S l[j].vl), .int .i64 l[j].hi, .int .i64 l[j].lo, .int .i64 l[j].tm]] W fun e w' => e = .returned (.bool (nodeB l[j] (wsOf l l[j].ins))) ∧ Below W.heap.size W w') := fun W hW => HND.out W j hjl ia ic (bel HS.out.bel hW) (hI.below hW) (by rw [← HNL.out]; exact hn) HAL.out
                have y0 := HQ.out.cell hlt
                have hTl := HQ.out.lt
                obtain ⟨nb, hnb⟩ : ∃ nb, nb = nodeB l[j] (wsOf l l[j].ins) := ⟨_, rfl⟩
                have HNB : Hid (nb = nodeB l[j] (wsOf l l[j].ins)) := hnb
                rw [← hnb] at HC
                obtain ⟨x, hx⟩ : ∃ x, x = l[j] := ⟨_, rfl⟩
                rw [← hx] at d0 d1 d2 d3 d4 d5 d6 d7 HC
                have HX : Hid (x = l[j]) := hx
                obtain ⟨c, hc⟩ : ∃ c, c = cnt nets j := ⟨_, rfl⟩
                have y2 : wr.cell? ⟨T, j, none⟩ = some (.int .i64 (c : Int)) := by rw [y0, hc]
                have HCC : Hid (c = cnt nets j) := hc
                clear hx hnb hI e2 e3 hc y0
                obtain ⟨k, op, wd, ins, vl, hi', lo, tm⟩ := x
                simp only at d0 d1 d2 d3 d4 d5 d6 d7 HC
                have i1 : (0 : Int) ≤ (j : Int) := by omega
                have i2 : (j : Int) < (i : Int) := by omega
                have hP : nb = false ∨ (nb = true ∧ (k == 2) = false) ∨ (nb = true ∧ (k == 2) = true ∧ ((c : Int) == 1) = false) ∨ (nb = true ∧ (k == 2) = true ∧ ((c : Int) == 1) = true) := by cases nb <;> cases (k == 2) <;> cases ((c : Int) == 1) <;> simp
                rcases hP with rfl | ⟨rfl, f1⟩ | ⟨rfl, f1, f2⟩ | ⟨rfl, f1, f2⟩
                · go_wp2_with fail
                  refine wp_region_any (by kernel_rfl) ?_
                  try (change wpAny _ _ _ _ _ _ _ (World.drew _))
                  refine wpAny_take (i := 1) (oi := ⟨some 108, _, _, _, _, _⟩) (v := ?_) rfl (by kernel_rfl) (by kernel_rfl) (by kernel_rfl) (fun _ _ _ h => h) (Or.inl ⟨by kernel_rfl, ?_⟩) ?_
                  rotate_left
                  · intro w'; go_simp <;> with_reducible rfl
                  try simp only [Act.put, List.setIfInBounds_toArray, List.set_cons_zero, List.set_cons_succ]
                  refine wpAny_take (i := 3) (oi := ⟨some 110, _, _, _, _, _⟩) (v := ?_) rfl (by kernel_rfl) (by kernel_rfl) (by kernel_rfl) (fun _ _ _ h => h) (Or.inl ⟨by kernel_rfl, ?_⟩) ?_
                  rotate_left
                  · intro w'; go_simp <;> with_reducible rfl
                  try simp only [Act.put, List.setIfInBounds_toArray, List.set_cons_zero, List.set_cons_succ]
                  refine wpAny_ready (rs := [0, 2]) (by kernel_rfl) (by simp) ?_
                  refine AllReady.cons rfl (fun K hK => ?_) ?_
                  · go_simp
                    refine hK _ _ ?_
                    clear hK K
                    try simp only [Act.put, List.setIfInBounds_toArray, List.set_cons_zero, List.set_cons_succ]
                    refine wpAny_ready (rs := [2]) (by kernel_rfl) (by simp) ?_
                    refine AllReady.cons rfl (fun K hK => ?_) ?_
                    · go_simp
                      refine hK _ _ ?_
                      clear hK K
                      try simp only [Act.put, List.setIfInBounds_toArray, List.set_cons_zero, List.set_cons_succ]
                      refine wpAny_take (i := 4) (oi := ⟨some 111, _, _, _, _, _⟩) (v := ?_) rfl (by kernel_rfl) (by kernel_rfl) (by kernel_rfl) (fun _ _ _ h => h) (Or.inl ⟨by kernel_rfl, ?_⟩) ?_
                      rotate_left
                      · intro w'; go_simp <;> with_reducible rfl
                      try simp only [Act.put, List.setIfInBounds_toArray, List.set_cons_zero, List.set_cons_succ]
                      refine wpAny_ready (rs := [5]) (by kernel_rfl) (by simp) ?_
                      refine AllReady.cons rfl (fun K hK => ?_) ?_
                      · go_simp
                        refine hK _ _ ?_
                        clear hK K
                        try simp only [Act.put, List.setIfInBounds_toArray, List.set_cons_zero, List.set_cons_succ]
                        refine wpAny_ready (rs := [6]) (by kernel_rfl) (by simp) ?_
                        refine AllReady.cons rfl (fun K hK => ?_) ?_
                        · go_simp
                          refine (HC.out _ belD).mono ?_
                          rintro e w5 ⟨rfl, hb5⟩
                          have hb6 : Below wr.heap.size wr w5 := bel belD hb5
                          have HS6 := S1.below HS.out hb6
                          have z0 := (hb6.cell (p := ⟨w.heap.size, 0, none⟩) lx).trans b0
                          have x0 := (hb6.cell (p := ⟨g, o + j * 8, none⟩) gl).trans d0
                          refine hK _ _ ?_
                          clear hK K
                          try simp only [Act.put, List.setIfInBounds_toArray, List.set_cons_zero, List.set_cons_succ]
                          refine wpAny_take (i := 7) (oi := ⟨some 114, _, _, _, _, _⟩) (v := ?_) rfl (by kernel_rfl) (by kernel_rfl) (by kernel_rfl) (fun _ _ _ h => h) (Or.inl ⟨by kernel_rfl, ?_⟩) ?_
                          rotate_left
                          · intro w'; go_simp <;> with_reducible rfl
                          try simp only [Act.put, List.setIfInBounds_toArray, List.set_cons_zero, List.set_cons_succ]
                          refine wpAny_take (i := 8) (oi := ⟨some 115, _, _, _, _, _⟩) (v := ?_) rfl (by kernel_rfl) (by kernel_rfl) (by kernel_rfl) (fun _ _ _ h => h) (Or.inl ⟨by kernel_rfl, ?_⟩) ?_
                          rotate_left
                          · intro w'; go_simp <;> with_reducible rfl
                          try simp only [Act.put, List.setIfInBounds_toArray, List.set_cons_zero, List.set_cons_succ]
                          refine wpAny_take (i := 9) (oi := ⟨some 116, _, _, _, _, _⟩) (v := undef) rfl (by kernel_rfl) (by kernel_rfl) (by kernel_rfl) (fun _ _ _ h => h) (Or.inr ⟨by kernel_rfl, rfl⟩) ?_
                          try simp only [Act.put, List.setIfInBounds_toArray, List.set_cons_zero, List.set_cons_succ]
                          refine wpAny_take (i := 10) (oi := ⟨some 117, _, _, _, _, _⟩) (v := undef) rfl (by kernel_rfl) (by kernel_rfl) (by kernel_rfl) (fun _ _ _ h => h) (Or.inr ⟨by kernel_rfl, rfl⟩) ?_
                          try simp only [Act.put, List.setIfInBounds_toArray, List.set_cons_zero, List.set_cons_succ]
                          refine wpAny_take (i := 11) (oi := ⟨some 118, _, _, _, _, _⟩) (v := undef) rfl (by kernel_rfl) (by kernel_rfl) (by kernel_rfl) (fun _ _ _ h => h) (Or.inr ⟨by kernel_rfl, rfl⟩) ?_
                          try simp only [Act.put, List.setIfInBounds_toArray, List.set_cons_zero, List.set_cons_succ]
                          refine wpAny_take (i := 12) (oi := ⟨some 119, _, _, _, _, _⟩) (v := undef) rfl (by kernel_rfl) (by kernel_rfl) (by kernel_rfl) (fun _ _ _ h => h) (Or.inr ⟨by kernel_rfl, rfl⟩) ?_
                          try simp only [Act.put, List.setIfInBounds_toArray, List.set_cons_zero, List.set_cons_succ]
                          refine wpAny_take (i := 13) (oi := ⟨some 120, _, _, _, _, _⟩) (v := undef) rfl (by kernel_rfl) (by kernel_rfl) (by kernel_rfl) (fun _ _ _ h => h) (Or.inr ⟨by kernel_rfl, rfl⟩) ?_
                          try simp only [Act.put, List.setIfInBounds_toArray, List.set_cons_zero, List.set_cons_succ]
                          refine wpAny_take (i := 14) (oi := ⟨some 121, _, _, _, _, _⟩) (v := undef) rfl (by kernel_rfl) (by kernel_rfl) (by kernel_rfl) (fun _ _ _ h => h) (Or.inr ⟨by kernel_rfl, rfl⟩) ?_
                          try simp only [Act.put, List.setIfInBounds_toArray, List.set_cons_zero, List.set_cons_succ]
                          refine wpAny_take (i := 15) (oi := ⟨some 122, _, _, _, _, _⟩) (v := undef) rfl (by kernel_rfl) (by kernel_rfl) (by kernel_rfl) (fun _ _ _ h => h) (Or.inr ⟨by kernel_rfl, rfl⟩) ?_
                          try simp only [Act.put, List.setIfInBounds_toArray, List.set_cons_zero, List.set_cons_succ]
                          refine wpAny_take (i := 16) (oi := ⟨some 123, _, _, _, _, _⟩) (v := undef) rfl (by kernel_rfl) (by kernel_rfl) (by kernel_rfl) (fun _ _ _ h => h) (Or.inr ⟨by kernel_rfl, rfl⟩) ?_
                          try simp only [Act.put, List.setIfInBounds_toArray, List.set_cons_zero, List.set_cons_succ]
                          refine wpAny_take (i := 17) (oi := ⟨some 124, _, _, _, _, _⟩) (v := undef) rfl (by kernel_rfl) (by kernel_rfl) (by kernel_rfl) (fun _ _ _ h => h) (Or.inr ⟨by kernel_rfl, rfl⟩) ?_
                          try simp only [Act.put, List.setIfInBounds_toArray, List.set_cons_zero, List.set_cons_succ]
                          refine wpAny_take (i := 18) (oi := ⟨some 125, _, _, _, _, _⟩) (v := undef) rfl (by kernel_rfl) (by kernel_rfl) (by kernel_rfl) (fun _ _ _ h => h) (Or.inr ⟨by kernel_rfl, rfl⟩) ?_
                          try simp only [Act.put, List.setIfInBounds_toArray, List.set_cons_zero, List.set_cons_succ]
                          refine wpAny_take (i := 19) (oi := ⟨some 126, _, _, _, _, _⟩) (v := undef) rfl (by kernel_rfl) (by kernel_rfl) (by kernel_rfl) (fun _ _ _ h => h) (Or.inr ⟨by kernel_rfl, rfl⟩) ?_
                          try simp only [Act.put, List.setIfInBounds_toArray, List.set_cons_zero, List.set_cons_succ]
                          refine wpAny_take (i := 20) (oi := ⟨some 127, _, _, _, _, _⟩) (v := undef) rfl (by kernel_rfl) (by kernel_rfl) (by kernel_rfl) (fun _ _ _ h => h) (Or.inr ⟨by kernel_rfl, rfl⟩) ?_
                          try simp only [Act.put, List.setIfInBounds_toArray, List.set_cons_zero, List.set_cons_succ]
                          refine wpAny_take (i := 21) (oi := ⟨some 128, _, _, _, _, _⟩) (v := undef) rfl (by kernel_rfl) (by kernel_rfl) (by kernel_rfl) (fun _ _ _ h => h) (Or.inr ⟨by kernel_rfl, rfl⟩) ?_
                          try simp only [Act.put, List.setIfInBounds_toArray, List.set_cons_zero, List.set_cons_succ]
                          refine wpAny_take (i := 22) (oi := ⟨some 129, _, _, _, _, _⟩) (v := undef) rfl (by kernel_rfl) (by kernel_rfl) (by kernel_rfl) (fun _ _ _ h => h) (Or.inr ⟨by kernel_rfl, rfl⟩) ?_
                          try simp only [Act.put, List.setIfInBounds_toArray, List.set_cons_zero, List.set_cons_succ]
                          refine wpAny_take (i := 23) (oi := ⟨some 130, _, _, _, _, _⟩) (v := ?_) rfl (by kernel_rfl) (by kernel_rfl) (by kernel_rfl) (fun _ _ _ h => h) (Or.inl ⟨by kernel_rfl, ?_⟩) ?_
                          rotate_left
                          · intro w'; go_simp <;> with_reducible rfl
                          try simp only [Act.put, List.setIfInBounds_toArray, List.set_cons_zero, List.set_cons_succ]
                          refine wpAny_done (by kernel_rfl) ?_ _
                          go_wp2_with fail
                          go_ret
                          exact ⟨ret_bool (by rw [HR.out, may_node hjl HNB.out.symm]), HS6.bel⟩
                        exact AllReady.nil
                      exact AllReady.nil
                    exact AllReady.nil
                  refine AllReady.cons rfl (fun K hK => ?_) ?_
                  · go_simp
                    refine hK _ _ ?_
                    clear hK K
                    try simp only [Act.put, List.setIfInBounds_toArray, List.set_cons_zero, List.set_cons_succ]
                    refine wpAny_take (i := 4) (oi := ⟨some 111, _, _, _, _, _⟩) (v := ?_) rfl (by kernel_rfl) (by kernel_rfl) (by kernel_rfl) (fun _ _ _ h => h) (Or.inl ⟨by kernel_rfl, ?_⟩) ?_
                    rotate_left
                    · intro w'; go_simp <;> with_reducible rfl
                    try simp only [Act.put, List.setIfInBounds_toArray, List.set_cons_zero, List.set_cons_succ]
                    refine wpAny_ready (rs := [0, 5]) (by kernel_rfl) (by simp) ?_
                    refine AllReady.cons rfl (fun K hK => ?_) ?_
                    · go_simp
                      refine hK _ _ ?_
                      clear hK K
                      try simp only [Act.put, List.setIfInBounds_toArray, List.set_cons_zero, List.set_cons_succ]
                      refine wpAny_ready (rs := [5]) (by kernel_rfl) (by simp) ?_
                      refine AllReady.cons rfl (fun K hK => ?_) ?_
                      · go_simp
                        refine hK _ _ ?_
                        clear hK K
                        try simp only [Act.put, List.setIfInBounds_toArray, List.set_cons_zero, List.set_cons_succ]
                        refine wpAny_ready (rs := [6]) (by kernel_rfl) (by simp) ?_
                        refine AllReady.cons rfl (fun K hK => ?_) ?_
                        · go_simp
                          refine (HC.out _ belD).mono ?_
                          rintro e w5 ⟨rfl, hb5⟩
                          have hb6 : Below wr.heap.size wr w5 := bel belD hb5
                          have HS6 := S1.below HS.out hb6
                          have z0 := (hb6.cell (p := ⟨w.heap.size, 0, none⟩) lx).trans b0
                          have x0 := (hb6.cell (p := ⟨g, o + j * 8, none⟩) gl).trans d0
                          refine hK _ _ ?_
                          clear hK K
                          try simp only [Act.put, List.setIfInBounds_toArray, List.set_cons_zero, List.set_cons_succ]
                          refine wpAny_take (i := 7) (oi := ⟨some 114, _, _, _, _, _⟩) (v := ?_) rfl (by kernel_rfl) (by kernel_rfl) (by kernel_rfl) (fun _ _ _ h => h) (Or.inl ⟨by kernel_rfl, ?_⟩) ?_
                          rotate_left
                          · intro w'; go_simp <;> with_reducible rfl
                          try simp only [Act.put, List.setIfInBounds_toArray, List.set_cons_zero, List.set_cons_succ]
                          refine wpAny_take (i := 8) (oi := ⟨some 115, _, _, _, _, _⟩) (v := ?_) rfl (by kernel_rfl) (by kernel_rfl) (by kernel_rfl) (fun _ _ _ h => h) (Or.inl ⟨by kernel_rfl, ?_⟩) ?_
                          rotate_left
                          · intro w'; go_simp <;> with_reducible rfl
                          try simp only [Act.put, List.setIfInBounds_toArray, List.set_cons_zero, List.set_cons_succ]
                          refine wpAny_take (i := 9) (oi := ⟨some 116, _, _, _, _, _⟩) (v := undef) rfl (by kernel_rfl) (by kernel_rfl) (by kernel_rfl) (fun _ _ _ h => h) (Or.inr ⟨by kernel_rfl, rfl⟩) ?_
                          try simp only [Act.put, List.setIfInBounds_toArray, List.set_cons_zero, List.set_cons_succ]
                          refine wpAny_take (i := 10) (oi := ⟨some 117, _, _, _, _, _⟩) (v := undef) rfl (by kernel_rfl) (by kernel_rfl) (by kernel_rfl) (fun _ _ _ h => h) (Or.inr ⟨by kernel_rfl, rfl⟩) ?_
                          try simp only [Act.put, List.setIfInBounds_toArray, List.set_cons_zero, List.set_cons_succ]
                          refine wpAny_take (i := 11) (oi := ⟨some 118, _, _, _, _, _⟩) (v := undef) rfl (by kernel_rfl) (by kernel_rfl) (by kernel_rfl) (fun _ _ _ h => h) (Or.inr ⟨by kernel_rfl, rfl⟩) ?_
                          try simp only [Act.put, List.setIfInBounds_toArray, List.set_cons_zero, List.set_cons_succ]
                          refine wpAny_take (i := 12) (oi := ⟨some 119, _, _, _, _, _⟩) (v := undef) rfl (by kernel_rfl) (by kernel_rfl) (by kernel_rfl) (fun _ _ _ h => h) (Or.inr ⟨by kernel_rfl, rfl⟩) ?_
                          try simp only [Act.put, List.setIfInBounds_toArray, List.set_cons_zero, List.set_cons_succ]
                          refine wpAny_take (i := 13) (oi := ⟨some 120, _, _, _, _, _⟩) (v := undef) rfl (by kernel_rfl) (by kernel_rfl) (by kernel_rfl) (fun _ _ _ h => h) (Or.inr ⟨by kernel_rfl, rfl⟩) ?_
                          try simp only [Act.put, List.setIfInBounds_toArray, List.set_cons_zero, List.set_cons_succ]
                          refine wpAny_take (i := 14) (oi := ⟨some 121, _, _, _, _, _⟩) (v := undef) rfl (by kernel_rfl) (by kernel_rfl) (by kernel_rfl) (fun _ _ _ h => h) (Or.inr ⟨by kernel_rfl, rfl⟩) ?_
                          try simp only [Act.put, List.setIfInBounds_toArray, List.set_cons_zero, List.set_cons_succ]
                          refine wpAny_take (i := 15) (oi := ⟨some 122, _, _, _, _, _⟩) (v := undef) rfl (by kernel_rfl) (by kernel_rfl) (by kernel_rfl) (fun _ _ _ h => h) (Or.inr ⟨by kernel_rfl, rfl⟩) ?_
                          try simp only [Act.put, List.setIfInBounds_toArray, List.set_cons_zero, List.set_cons_succ]
                          refine wpAny_take (i := 16) (oi := ⟨some 123, _, _, _, _, _⟩) (v := undef) rfl (by kernel_rfl) (by kernel_rfl) (by kernel_rfl) (fun _ _ _ h => h) (Or.inr ⟨by kernel_rfl, rfl⟩) ?_
                          try simp only [Act.put, List.setIfInBounds_toArray, List.set_cons_zero, List.set_cons_succ]
                          refine wpAny_take (i := 17) (oi := ⟨some 124, _, _, _, _, _⟩) (v := undef) rfl (by kernel_rfl) (by kernel_rfl) (by kernel_rfl) (fun _ _ _ h => h) (Or.inr ⟨by kernel_rfl, rfl⟩) ?_
                          try simp only [Act.put, List.setIfInBounds_toArray, List.set_cons_zero, List.set_cons_succ]
                          refine wpAny_take (i := 18) (oi := ⟨some 125, _, _, _, _, _⟩) (v := undef) rfl (by kernel_rfl) (by kernel_rfl) (by kernel_rfl) (fun _ _ _ h => h) (Or.inr ⟨by kernel_rfl, rfl⟩) ?_
                          try simp only [Act.put, List.setIfInBounds_toArray, List.set_cons_zero, List.set_cons_succ]
                          refine wpAny_take (i := 19) (oi := ⟨some 126, _, _, _, _, _⟩) (v := undef) rfl (by kernel_rfl) (by kernel_rfl) (by kernel_rfl) (fun _ _ _ h => h) (Or.inr ⟨by kernel_rfl, rfl⟩) ?_
                          try simp only [Act.put, List.setIfInBounds_toArray, List.set_cons_zero, List.set_cons_succ]
                          refine wpAny_take (i := 20) (oi := ⟨some 127, _, _, _, _, _⟩) (v := undef) rfl (by kernel_rfl) (by kernel_rfl) (by kernel_rfl) (fun _ _ _ h => h) (Or.inr ⟨by kernel_rfl, rfl⟩) ?_
                          try simp only [Act.put, List.setIfInBounds_toArray, List.set_cons_zero, List.set_cons_succ]
                          refine wpAny_take (i := 21) (oi := ⟨some 128, _, _, _, _, _⟩) (v := undef) rfl (by kernel_rfl) (by kernel_rfl) (by kernel_rfl) (fun _ _ _ h => h) (Or.inr ⟨by kernel_rfl, rfl⟩) ?_
                          try simp only [Act.put, List.setIfInBounds_toArray, List.set_cons_zero, List.set_cons_succ]
                          refine wpAny_take (i := 22) (oi := ⟨some 129, _, _, _, _, _⟩) (v := undef) rfl (by kernel_rfl) (by kernel_rfl) (by kernel_rfl) (fun _ _ _ h => h) (Or.inr ⟨by kernel_rfl, rfl⟩) ?_
                          try simp only [Act.put, List.setIfInBounds_toArray, List.set_cons_zero, List.set_cons_succ]
                          refine wpAny_take (i := 23) (oi := ⟨some 130, _, _, _, _, _⟩) (v := ?_) rfl (by kernel_rfl) (by kernel_rfl) (by kernel_rfl) (fun _ _ _ h => h) (Or.inl ⟨by kernel_rfl, ?_⟩) ?_
                          rotate_left
                          · intro w'; go_simp <;> with_reducible rfl
                          try simp only [Act.put, List.setIfInBounds_toArray, List.set_cons_zero, List.set_cons_succ]
                          refine wpAny_done (by kernel_rfl) ?_ _
                          go_wp2_with fail
                          go_ret
                          exact ⟨ret_bool (by rw [HR.out, may_node hjl HNB.out.symm]), HS6.bel⟩
                        exact AllReady.nil
                      exact AllReady.nil
                    refine AllReady.cons rfl (fun K hK => ?_) ?_
                    · go_simp
                      refine hK _ _ ?_
                      clear hK K
                      try simp only [Act.put, List.setIfInBounds_toArray, List.set_cons_zero, List.set_cons_succ]
                      refine wpAny_ready (rs := [0]) (by kernel_rfl) (by simp) ?_
                      refine AllReady.cons rfl (fun K hK => ?_) ?_
                      · go_simp
                        refine hK _ _ ?_
                        clear hK K
                        try simp only [Act.put, List.setIfInBounds_toArray, List.set_cons_zero, List.set_cons_succ]
                        refine wpAny_ready (rs := [6]) (by kernel_rfl) (by simp) ?_
                        refine AllReady.cons rfl (fun K hK => ?_) ?_
                        · go_simp
                          refine (HC.out _ belD).mono ?_
                          rintro e w5 ⟨rfl, hb5⟩
                          have hb6 : Below wr.heap.size wr w5 := bel belD hb5
                          have HS6 := S1.below HS.out hb6
                          have z0 := (hb6.cell (p := ⟨w.heap.size, 0, none⟩) lx).trans b0
                          have x0 := (hb6.cell (p := ⟨g, o + j * 8, none⟩) gl).trans d0
                          refine hK _ _ ?_
                          clear hK K
                          try simp only [Act.put, List.setIfInBounds_toArray, List.set_cons_zero, List.set_cons_succ]
                          refine wpAny_take (i := 7) (oi := ⟨some 114, _, _, _, _, _⟩) (v := ?_) rfl (by kernel_rfl) (by kernel_rfl) (by kernel_rfl) (fun _ _ _ h => h) (Or.inl ⟨by kernel_rfl, ?_⟩) ?_
                          rotate_left
                          · intro w'; go_simp <;> with_reducible rfl
                          try simp only [Act.put, List.setIfInBounds_toArray, List.set_cons_zero, List.set_cons_succ]
                          refine wpAny_take (i := 8) (oi := ⟨some 115, _, _, _, _, _⟩) (v := ?_) rfl (by kernel_rfl) (by kernel_rfl) (by kernel_rfl) (fun _ _ _ h => h) (Or.inl ⟨by kernel_rfl, ?_⟩) ?_
                          rotate_left
                          · intro w'; go_simp <;> with_reducible rfl
                          try simp only [Act.put, List.setIfInBounds_toArray, List.set_cons_zero, List.set_cons_succ]
                          refine wpAny_take (i := 9) (oi := ⟨some 116, _, _, _, _, _⟩) (v := undef) rfl (by kernel_rfl) (by kernel_rfl) (by kernel_rfl) (fun _ _ _ h => h) (Or.inr ⟨by kernel_rfl, rfl⟩) ?_
                          try simp only [Act.put, List.setIfInBounds_toArray, List.set_cons_zero, List.set_cons_succ]
                          refine wpAny_take (i := 10) (oi := ⟨some 117, _, _, _, _, _⟩) (v := undef) rfl (by kernel_rfl) (by kernel_rfl) (by kernel_rfl) (fun _ _ _ h => h) (Or.inr ⟨by kernel_rfl, rfl⟩) ?_
                          try simp only [Act.put, List.setIfInBounds_toArray, List.set_cons_zero, List.set_cons_succ]
                          refine wpAny_take (i := 11) (oi := ⟨some 118, _, _, _, _, _⟩) (v := undef) rfl (by kernel_rfl) (by kernel_rfl) (by kernel_rfl) (fun _ _ _ h => h) (Or.inr ⟨by kernel_rfl, rfl⟩) ?_
                          try simp only [Act.put, List.setIfInBounds_toArray, List.set_cons_zero, List.set_cons_succ]
                          refine wpAny_take (i := 12) (oi := ⟨some 119, _, _, _, _, _⟩) (v := undef) rfl (by kernel_rfl) (by kernel_rfl) (by kernel_rfl) (fun _ _ _ h => h) (Or.inr ⟨by kernel_rfl, rfl⟩) ?_
                          try simp only [Act.put, List.setIfInBounds_toArray, List.set_cons_zero, List.set_cons_succ]
                          refine wpAny_take (i := 13) (oi := ⟨some 120, _, _, _, _, _⟩) (v := undef) rfl (by kernel_rfl) (by kernel_rfl) (by kernel_rfl) (fun _ _ _ h => h) (Or.inr ⟨by kernel_rfl, rfl⟩) ?_
                          try simp only [Act.put, List.setIfInBounds_toArray, List.set_cons_zero, List.set_cons_succ]
                          refine wpAny_take (i := 14) (oi := ⟨some 121, _, _, _, _, _⟩) (v := undef) rfl (by kernel_rfl) (by kernel_rfl) (by kernel_rfl) (fun _ _ _ h => h) (Or.inr ⟨by kernel_rfl, rfl⟩) ?_
                          try simp only [Act.put, List.setIfInBounds_toArray, List.set_cons_zero, List.set_cons_succ]
                          refine wpAny_take (i := 15) (oi := ⟨some 122, _, _, _, _, _⟩) (v := undef) rfl (by kernel_rfl) (by kernel_rfl) (by kernel_rfl) (fun _ _ _ h => h) (Or.inr ⟨by kernel_rfl, rfl⟩) ?_
                          try simp only [Act.put, List.setIfInBounds_toArray, List.set_cons_zero, List.set_cons_succ]
                          refine wpAny_take (i := 16) (oi := ⟨some 123, _, _, _, _, _⟩) (v := undef) rfl (by kernel_rfl) (by kernel_rfl) (by kernel_rfl) (fun _ _ _ h => h) (Or.inr ⟨by kernel_rfl, rfl⟩) ?_
                          try simp only [Act.put, List.setIfInBounds_toArray, List.set_cons_zero, List.set_cons_succ]
                          refine wpAny_take (i := 17) (oi := ⟨some 124, _, _, _, _, _⟩) (v := undef) rfl (by kernel_rfl) (by kernel_rfl) (by kernel_rfl) (fun _ _ _ h => h) (Or.inr ⟨by kernel_rfl, rfl⟩) ?_
                          try simp only [Act.put, List.setIfInBounds_toArray, List.set_cons_zero, List.set_cons_succ]
                          refine wpAny_take (i := 18) (oi := ⟨some 125, _, _, _, _, _⟩) (v := undef) rfl (by kernel_rfl) (by kernel_rfl) (by kernel_rfl) (fun _ _ _ h => h) (Or.inr ⟨by kernel_rfl, rfl⟩) ?_
                          try simp only [Act.put, List.setIfInBounds_toArray, List.set_cons_zero, List.set_cons_succ]
                          refine wpAny_take (i := 19) (oi := ⟨some 126, _, _, _, _, _⟩) (v := undef) rfl (by kernel_rfl) (by kernel_rfl) (by kernel_rfl) (fun _ _ _ h => h) (Or.inr ⟨by kernel_rfl, rfl⟩) ?_
                          try simp only [Act.put, List.setIfInBounds_toArray, List.set_cons_zero, List.set_cons_succ]
                          refine wpAny_take (i := 20) (oi := ⟨some 127, _, _, _, _, _⟩) (v := undef) rfl (by kernel_rfl) (by kernel_rfl) (by kernel_rfl) (fun _ _ _ h => h) (Or.inr ⟨by kernel_rfl, rfl⟩) ?_
                          try simp only [Act.put, List.setIfInBounds_toArray, List.set_cons_zero, List.set_cons_succ]
                          refine wpAny_take (i := 21) (oi := ⟨some 128, _, _, _, _, _⟩) (v := undef) rfl (by kernel_rfl) (by kernel_rfl) (by kernel_rfl) (fun _ _ _ h => h) (Or.inr ⟨by kernel_rfl, rfl⟩) ?_
                          try simp only [Act.put, List.setIfInBounds_toArray, List.set_cons_zero, List.set_cons_succ]
                          refine wpAny_take (i := 22) (oi := ⟨some 129, _, _, _, _, _⟩) (v := undef) rfl (by kernel_rfl) (by kernel_rfl) (by kernel_rfl) (fun _ _ _ h => h) (Or.inr ⟨by kernel_rfl, rfl⟩) ?_
                          try simp only [Act.put, List.setIfInBounds_toArray, List.set_cons_zero, List.set_cons_succ]
                          refine wpAny_take (i := 23) (oi := ⟨some 130, _, _, _, _, _⟩) (v := ?_) rfl (by kernel_rfl) (by kernel_rfl) (by kernel_rfl) (fun _ _ _ h => h) (Or.inl ⟨by kernel_rfl, ?_⟩) ?_
                          rotate_left
                          · intro w'; go_simp <;> with_reducible rfl
                          try simp only [Act.put, List.setIfInBounds_toArray, List.set_cons_zero, List.set_cons_succ]
                          refine wpAny_done (by kernel_rfl) ?_ _
                          go_wp2_with fail
                          go_ret
                          exact ⟨ret_bool (by rw [HR.out, may_node hjl HNB.out.symm]), HS6.bel⟩
                        exact AllReady.nil
                      exact AllReady.nil
                    exact AllReady.nil
                  exact AllReady.nil
                · go_wp2_with fail
                  refine wp_region_any (by kernel_rfl) ?_
                  try (change wpAny _ _ _ _ _ _ _ (World.drew _))
                  refine wpAny_take (i := 1) (oi := ⟨some 108, _, _, _, _, _⟩) (v := ?_) rfl (by kernel_rfl) (by kernel_rfl) (by kernel_rfl) (fun _ _ _ h => h) (Or.inl ⟨by kernel_rfl, ?_⟩) ?_
                  rotate_left
                  · intro w'; go_simp <;> with_reducible rfl
                  try simp only [Act.put, List.setIfInBounds_toArray, List.set_cons_zero, List.set_cons_succ]
                  refine wpAny_take (i := 3) (oi := ⟨some 110, _, _, _, _, _⟩) (v := ?_) rfl (by kernel_rfl) (by kernel_rfl) (by kernel_rfl) (fun _ _ _ h => h) (Or.inl ⟨by kernel_rfl, ?_⟩) ?_
                  rotate_left
                  · intro w'; go_simp <;> with_reducible rfl
                  try simp only [Act.put, List.setIfInBounds_toArray, List.set_cons_zero, List.set_cons_succ]
                  refine wpAny_ready (rs := [0, 2]) (by kernel_rfl) (by simp) ?_
                  refine AllReady.cons rfl (fun K hK => ?_) ?_
                  · go_simp
                    refine hK _ _ ?_
                    clear hK K
                    try simp only [Act.put, List.setIfInBounds_toArray, List.set_cons_zero, List.set_cons_succ]
                    refine wpAny_ready (rs := [2]) (by kernel_rfl) (by simp) ?_
                    refine AllReady.cons rfl (fun K hK => ?_) ?_
                    · go_simp
                      refine hK _ _ ?_
                      clear hK K
                      try simp only [Act.put, List.setIfInBounds_toArray, List.set_cons_zero, List.set_cons_succ]
                      refine wpAny_take (i := 4) (oi := ⟨some 111, _, _, _, _, _⟩) (v := ?_) rfl (by kernel_rfl) (by kernel_rfl) (by kernel_rfl) (fun _ _ _ h => h) (Or.inl ⟨by kernel_rfl, ?_⟩) ?_
                      rotate_left
                      · intro w'; go_simp <;> with_reducible rfl
                      try simp only [Act.put, List.setIfInBounds_toArray, List.set_cons_zero, List.set_cons_succ]
                      refine wpAny_ready (rs := [5]) (by kernel_rfl) (by simp) ?_
                      refine AllReady.cons rfl (fun K hK => ?_) ?_
                      · go_simp
                        refine hK _ _ ?_
                        clear hK K
                        try simp only [Act.put, List.setIfInBounds_toArray, List.set_cons_zero, List.set_cons_succ]
                        refine wpAny_ready (rs := [6]) (by kernel_rfl) (by simp) ?_
                        refine AllReady.cons rfl (fun K hK => ?_) ?_
                        · go_simp
                          refine (HC.out _ belD).mono ?_
                          rintro e w5 ⟨rfl, hb5⟩
                          have hb6 : Below wr.heap.size wr w5 := bel belD hb5
                          have HS6 := S1.below HS.out hb6
                          have z0 := (hb6.cell (p := ⟨w.heap.size, 0, none⟩) lx).trans b0
                          have x0 := (hb6.cell (p := ⟨g, o + j * 8, none⟩) gl).trans d0
                          refine hK _ _ ?_
                          clear hK K
                          try simp only [Act.put, List.setIfInBounds_toArray, List.set_cons_zero, List.set_cons_succ]
                          refine wpAny_take (i := 7) (oi := ⟨some 114, _, _, _, _, _⟩) (v := ?_) rfl (by kernel_rfl) (by kernel_rfl) (by kernel_rfl) (fun _ _ _ h => h) (Or.inl ⟨by kernel_rfl, ?_⟩) ?_
                          rotate_left
                          · intro w'; go_simp <;> with_reducible rfl
                          try simp only [Act.put, List.setIfInBounds_toArray, List.set_cons_zero, List.set_cons_succ]
                          refine wpAny_take (i := 8) (oi := ⟨some 115, _, _, _, _, _⟩) (v := ?_) rfl (by kernel_rfl) (by kernel_rfl) (by kernel_rfl) (fun _ _ _ h => h) (Or.inl ⟨by kernel_rfl, ?_⟩) ?_
                          rotate_left
                          · intro w'; go_simp <;> with_reducible rfl
                          try simp only [Act.put, List.setIfInBounds_toArray, List.set_cons_zero, List.set_cons_succ]
                          refine wpAny_take (i := 9) (oi := ⟨some 116, _, _, _, _, _⟩) (v := ?_) rfl (by kernel_rfl) (by kernel_rfl) (by kernel_rfl) (fun _ _ _ h => h) (Or.inl ⟨by kernel_rfl, ?_⟩) ?_
                          rotate_left
                          · intro w'; go_simp <;> with_reducible rfl
                          try simp only [Act.put, List.setIfInBounds_toArray, List.set_cons_zero, List.set_cons_succ]
                          refine wpAny_take (i := 11) (oi := ⟨some 118, _, _, _, _, _⟩) (v := ?_) rfl (by kernel_rfl) (by kernel_rfl) (by kernel_rfl) (fun _ _ _ h => h) (Or.inl ⟨by kernel_rfl, ?_⟩) ?_
                          rotate_left
                          · intro w'; go_simp <;> with_reducible rfl
                          try simp only [Act.put, List.setIfInBounds_toArray, List.set_cons_zero, List.set_cons_succ]
                          refine wpAny_ready (rs := [10]) (by kernel_rfl) (by simp) ?_
                          refine AllReady.cons rfl (fun K hK => ?_) ?_
                          · go_simp
                            refine hK _ _ ?_
                            clear hK K
                            try simp only [Act.put, List.setIfInBounds_toArray, List.set_cons_zero, List.set_cons_succ]
                            refine wpAny_take (i := 12) (oi := ⟨some 119, _, _, _, _, _⟩) (v := ?_) rfl (by kernel_rfl) (by kernel_rfl) (by kernel_rfl) (fun _ _ _ h => h) (Or.inl ⟨by kernel_rfl, ?_⟩) ?_
                            rotate_left
                            · intro w'; go_simp <;> with_reducible rfl
                            try simp only [Act.put, List.setIfInBounds_toArray, List.set_cons_zero, List.set_cons_succ]
                            refine wpAny_take (i := 13) (oi := ⟨some 120, _, _, _, _, _⟩) (v := ?_) rfl (by kernel_rfl) (by kernel_rfl) (by kernel_rfl) (fun _ _ _ h => h) (Or.inl ⟨by kernel_rfl, ?_⟩) ?_
                            rotate_left
                            · intro w'; go_simp <;> with_reducible rfl
                            try simp only [Act.put, List.setIfInBounds_toArray, List.set_cons_zero, List.set_cons_succ]
                            refine wpAny_ready (rs := [14]) (by kernel_rfl) (by simp) ?_
                            refine AllReady.cons rfl (fun K hK => ?_) ?_
                            · go_simp
                              refine hK _ _ ?_
                              clear hK K
                              try simp only [Act.put, List.setIfInBounds_toArray, List.set_cons_zero, List.set_cons_succ]
                              refine wpAny_take (i := 15) (oi := ⟨some 122, _, _, _, _, _⟩) (v := ?_) rfl (by kernel_rfl) (by kernel_rfl) (by kernel_rfl) (fun _ _ _ h => h) (Or.inl ⟨by kernel_rfl, ?_⟩) ?_
                              rotate_left
                              · intro w'; go_simp <;> with_reducible rfl
                              try simp only [Act.put, List.setIfInBounds_toArray, List.set_cons_zero, List.set_cons_succ]
                              refine wpAny_take (i := 16) (oi := ⟨some 123, _, _, _, _, _⟩) (v := ?_) rfl (by kernel_rfl) (by kernel_rfl) (by kernel_rfl) (fun _ _ _ h => h) (Or.inl ⟨by kernel_rfl, ?_⟩) ?_
                              rotate_left
                              · intro w'; go_simp <;> with_reducible rfl
                              try simp only [Act.put, List.setIfInBounds_toArray, List.set_cons_zero, List.set_cons_succ]
                              refine wpAny_take (i := 17) (oi := ⟨some 124, _, _, _, _, _⟩) (v := undef) rfl (by kernel_rfl) (by kernel_rfl) (by kernel_rfl) (fun _ _ _ h => h) (Or.inr ⟨by kernel_rfl, rfl⟩) ?_
                              try simp only [Act.put, List.setIfInBounds_toArray, List.set_cons_zero, List.set_cons_succ]
                              refine wpAny_take (i := 18) (oi := ⟨some 125, _, _, _, _, _⟩) (v := undef) rfl (by kernel_rfl) (by kernel_rfl) (by kernel_rfl) (fun _ _ _ h => h) (Or.inr ⟨by kernel_rfl, rfl⟩) ?_
                              try simp only [Act.put, List.setIfInBounds_toArray, List.set_cons_zero, List.set_cons_succ]
                              refine wpAny_take (i := 19) (oi := ⟨some 126, _, _, _, _, _⟩) (v := undef) rfl (by kernel_rfl) (by kernel_rfl) (by kernel_rfl) (fun _ _ _ h => h) (Or.inr ⟨by kernel_rfl, rfl⟩) ?_
                              try simp only [Act.put, List.setIfInBounds_toArray, List.set_cons_zero, List.set_cons_succ]
                              refine wpAny_take (i := 20) (oi := ⟨some 127, _, _, _, _, _⟩) (v := undef) rfl (by kernel_rfl) (by kernel_rfl) (by kernel_rfl) (fun _ _ _ h => h) (Or.inr ⟨by kernel_rfl, rfl⟩) ?_
                              try simp only [Act.put, List.setIfInBounds_toArray, List.set_cons_zero, List.set_cons_succ]
                              refine wpAny_take (i := 21) (oi := ⟨some 128, _, _, _, _, _⟩) (v := undef) rfl (by kernel_rfl) (by kernel_rfl) (by kernel_rfl) (fun _ _ _ h => h) (Or.inr ⟨by kernel_rfl, rfl⟩) ?_
                              try simp only [Act.put, List.setIfInBounds_toArray, List.set_cons_zero, List.set_cons_succ]
                              refine wpAny_take (i := 22) (oi := ⟨some 129, _, _, _, _, _⟩) (v := ?_) rfl (by kernel_rfl) (by kernel_rfl) (by kernel_rfl) (fun _ _ _ h => h) (Or.inl ⟨by kernel_rfl, ?_⟩) ?_
                              rotate_left
                              · intro w'; go_simp <;> with_reducible rfl
                              try simp only [Act.put, List.setIfInBounds_toArray, List.set_cons_zero, List.set_cons_succ]
                              refine wpAny_take (i := 23) (oi := ⟨some 130, _, _, _, _, _⟩) (v := ?_) rfl (by kernel_rfl) (by kernel_rfl) (by kernel_rfl) (fun _ _ _ h => h) (Or.inl ⟨by kernel_rfl, ?_⟩) ?_
                              rotate_left
                              · intro w'; go_simp <;> with_reducible rfl
                              try simp only [Act.put, List.setIfInBounds_toArray, List.set_cons_zero, List.set_cons_succ]
                              refine wpAny_done (by kernel_rfl) ?_ _
                              go_wp2_with fail
                              go_roundw
                              case rel =>
                                refine ⟨j + 1, hlt, by go_num, fun q hq hqj => ?_, HS6, World.rowIs.of_block HQ.out (hb6.block T hTl)⟩
                                by_cases hqe : q = j
                                · subst hqe
                                  refine ⟨HNB.out.symm, fun hk2 => ?_⟩
                                  exfalso; rw [← HX.out] at hk2; simp only at hk2; rw [hk2] at f1; simp at f1
                                · exact HK.out q hq (by omega)
                              case measure => simp [intOf]; omega
                            exact AllReady.nil
                          exact AllReady.nil
                        exact AllReady.nil
                      exact AllReady.nil
                    exact AllReady.nil
                  refine AllReady.cons rfl (fun K hK => ?_) ?_
                  · go_simp
                    refine hK _ _ ?_
                    clear hK K
                    try simp only [Act.put, List.setIfInBounds_toArray, List.set_cons_zero, List.set_cons_succ]
                    refine wpAny_take (i := 4) (oi := ⟨some 111, _, _, _, _, _⟩) (v := ?_) rfl (by kernel_rfl) (by kernel_rfl) (by kernel_rfl) (fun _ _ _ h => h) (Or.inl ⟨by kernel_rfl, ?_⟩) ?_
                    rotate_left
                    · intro w'; go_simp <;> with_reducible rfl
                    try simp only [Act.put, List.setIfInBounds_toArray, List.set_cons_zero, List.set_cons_succ]
                    refine wpAny_ready (rs := [0, 5]) (by kernel_rfl) (by simp) ?_
                    refine AllReady.cons rfl (fun K hK => ?_) ?_
                    · go_simp
                      refine hK _ _ ?_
                      clear hK K
                      try simp only [Act.put, List.setIfInBounds_toArray, List.set_cons_zero, List.set_cons_succ]
                      refine wpAny_ready (rs := [5]) (by kernel_rfl) (by simp) ?_
                      refine AllReady.cons rfl (fun K hK => ?_) ?_
                      · go_simp
                        refine hK _ _ ?_
                        clear hK K
                        try simp only [Act.put, List.setIfInBounds_toArray, List.set_cons_zero, List.set_cons_succ]
                        refine wpAny_ready (rs := [6]) (by kernel_rfl) (by simp) ?_
                        refine AllReady.cons rfl (fun K hK => ?_) ?_
                        · go_simp
                          refine (HC.out _ belD).mono ?_
                          rintro e w5 ⟨rfl, hb5⟩
                          have hb6 : Below wr.heap.size wr w5 := bel belD hb5
                          have HS6 := S1.below HS.out hb6
                          have z0 := (hb6.cell (p := ⟨w.heap.size, 0, none⟩) lx).trans b0
                          have x0 := (hb6.cell (p := ⟨g, o + j * 8, none⟩) gl).trans d0
                          refine hK _ _ ?_
                          clear hK K
                          try simp only [Act.put, List.setIfInBounds_toArray, List.set_cons_zero, List.set_cons_succ]
                          refine wpAny_take (i := 7) (oi := ⟨some 114, _, _, _, _, _⟩) (v := ?_) rfl (by kernel_rfl) (by kernel_rfl) (by kernel_rfl) (fun _ _ _ h => h) (Or.inl ⟨by kernel_rfl, ?_⟩) ?_
                          rotate_left
                          · intro w'; go_simp <;> with_reducible rfl
                          try simp only [Act.put, List.setIfInBounds_toArray, List.set_cons_zero, List.set_cons_succ]
                          refine wpAny_take (i := 8) (oi := ⟨some 115, _, _, _, _, _⟩) (v := ?_) rfl (by kernel_rfl) (by kernel_rfl) (by kernel_rfl) (fun _ _ _ h => h) (Or.inl ⟨by kernel_rfl, ?_⟩) ?_
                          rotate_left
                          · intro w'; go_simp <;> with_reducible rfl
                          try simp only [Act.put, List.setIfInBounds_toArray, List.set_cons_zero, List.set_cons_succ]
                          refine wpAny_take (i := 9) (oi := ⟨some 116, _, _, _, _, _⟩) (v := ?_) rfl (by kernel_rfl) (by kernel_rfl) (by kernel_rfl) (fun _ _ _ h => h) (Or.inl ⟨by kernel_rfl, ?_⟩) ?_
                          rotate_left
                          · intro w'; go_simp <;> with_reducible rfl
                          try simp only [Act.put, List.setIfInBounds_toArray, List.set_cons_zero, List.set_cons_succ]
                          refine wpAny_take (i := 11) (oi := ⟨some 118, _, _, _, _, _⟩) (v := ?_) rfl (by kernel_rfl) (by kernel_rfl) (by kernel_rfl) (fun _ _ _ h => h) (Or.inl ⟨by kernel_rfl, ?_⟩) ?_
                          rotate_left
                          · intro w'; go_simp <;> with_reducible rfl
                          try simp only [Act.put, List.setIfInBounds_toArray, List.set_cons_zero, List.set_cons_succ]
                          refine wpAny_ready (rs := [10]) (by kernel_rfl) (by simp) ?_
                          refine AllReady.cons rfl (fun K hK => ?_) ?_
                          · go_simp
                            refine hK _ _ ?_
                            clear hK K
                            try simp only [Act.put, List.setIfInBounds_toArray, List.set_cons_zero, List.set_cons_succ]
                            refine wpAny_take (i := 12) (oi := ⟨some 119, _, _, _, _, _⟩) (v := ?_) rfl (by kernel_rfl) (by kernel_rfl) (by kernel_rfl) (fun _ _ _ h => h) (Or.inl ⟨by kernel_rfl, ?_⟩) ?_
                            rotate_left
                            · intro w'; go_simp <;> with_reducible rfl
                            try simp only [Act.put, List.setIfInBounds_toArray, List.set_cons_zero, List.set_cons_succ]
                            refine wpAny_take (i := 13) (oi := ⟨some 120, _, _, _, _, _⟩) (v := ?_) rfl (by kernel_rfl) (by kernel_rfl) (by kernel_rfl) (fun _ _ _ h => h) (Or.inl ⟨by kernel_rfl, ?_⟩) ?_
                            rotate_left
                            · intro w'; go_simp <;> with_reducible rfl
                            try simp only [Act.put, List.setIfInBounds_toArray, List.set_cons_zero, List.set_cons_succ]
                            refine wpAny_ready (rs := [14]) (by kernel_rfl) (by simp) ?_
                            refine AllReady.cons rfl (fun K hK => ?_) ?_
                            · go_simp
                              refine hK _ _ ?_
                              clear hK K
                              try simp only [Act.put, List.setIfInBounds_toArray, List.set_cons_zero, List.set_cons_succ]
                              refine wpAny_take (i := 15) (oi := ⟨some 122, _, _, _, _, _⟩) (v := ?_) rfl (by kernel_rfl) (by kernel_rfl) (by kernel_rfl) (fun _ _ _ h => h) (Or.inl ⟨by kernel_rfl, ?_⟩) ?_
                              rotate_left
                              · intro w'; go_simp <;> with_reducible rfl
                              try simp only [Act.put, List.setIfInBounds_toArray, List.set_cons_zero, List.set_cons_succ]
                              refine wpAny_take (i := 16) (oi := ⟨some 123, _, _, _, _, _⟩) (v := ?_) rfl (by kernel_rfl) (by kernel_rfl) (by kernel_rfl) (fun _ _ _ h => h) (Or.inl ⟨by kernel_rfl, ?_⟩) ?_
                              rotate_left
                              · intro w'; go_simp <;> with_reducible rfl
                              try simp only [Act.put, List.setIfInBounds_toArray, List.set_cons_zero, List.set_cons_succ]
                              refine wpAny_take (i := 17) (oi := ⟨some 124, _, _, _, _, _⟩) (v := undef) rfl (by kernel_rfl) (by kernel_rfl) (by kernel_rfl) (fun _ _ _ h => h) (Or.inr ⟨by kernel_rfl, rfl⟩) ?_
                              try simp only [Act.put, List.setIfInBounds_toArray, List.set_cons_zero, List.set_cons_succ]
                              refine wpAny_take (i := 18) (oi := ⟨some 125, _, _, _, _, _⟩) (v := undef) rfl (by kernel_rfl) (by kernel_rfl) (by kernel_rfl) (fun _ _ _ h => h) (Or.inr ⟨by kernel_rfl, rfl⟩) ?_
                              try simp only [Act.put, List.setIfInBounds_toArray, List.set_cons_zero, List.set_cons_succ]
                              refine wpAny_take (i := 19) (oi := ⟨some 126, _, _, _, _, _⟩) (v := undef) rfl (by kernel_rfl) (by kernel_rfl) (by kernel_rfl) (fun _ _ _ h => h) (Or.inr ⟨by kernel_rfl, rfl⟩) ?_
                              try simp only [Act.put, List.setIfInBounds_toArray, List.set_cons_zero, List.set_cons_succ]
                              refine wpAny_take (i := 20) (oi := ⟨some 127, _, _, _, _, _⟩) (v := undef) rfl (by kernel_rfl) (by kernel_rfl) (by kernel_rfl) (fun _ _ _ h => h) (Or.inr ⟨by kernel_rfl, rfl⟩) ?_
                              try simp only [Act.put, List.setIfInBounds_toArray, List.set_cons_zero, List.set_cons_succ]
                              refine wpAny_take (i := 21) (oi := ⟨some 128, _, _, _, _, _⟩) (v := undef) rfl (by kernel_rfl) (by kernel_rfl) (by kernel_rfl) (fun _ _ _ h => h) (Or.inr ⟨by kernel_rfl, rfl⟩) ?_
                              try simp only [Act.put, List.setIfInBounds_toArray, List.set_cons_zero, List.set_cons_succ]
                              refine wpAny_take (i := 22) (oi := ⟨some 129, _, _, _, _, _⟩) (v := ?_) rfl (by kernel_rfl) (by kernel_rfl) (by kernel_rfl) (fun _ _ _ h => h) (Or.inl ⟨by kernel_rfl, ?_⟩) ?_
                              rotate_left
                              · intro w'; go_simp <;> with_reducible rfl
                              try simp only [Act.put, List.setIfInBounds_toArray, List.set_cons_zero, List.set_cons_succ]
                              refine wpAny_take (i := 23) (oi := ⟨some 130, _, _, _, _, _⟩) (v := ?_) rfl (by kernel_rfl) (by kernel_rfl) (by kernel_rfl) (fun _ _ _ h => h) (Or.inl ⟨by kernel_rfl, ?_⟩) ?_
                              rotate_left
                              · intro w'; go_simp <;> with_reducible rfl
                              try simp only [Act.put, List.setIfInBounds_toArray, List.set_cons_zero, List.set_cons_succ]
                              refine wpAny_done (by kernel_rfl) ?_ _
                              go_wp2_with fail
                              go_roundw
                              case rel =>
                                refine ⟨j + 1, hlt, by go_num, fun q hq hqj => ?_, HS6, World.rowIs.of_block HQ.out (hb6.block T hTl)⟩
                                by_cases hqe : q = j
                                · subst hqe
                                  refine ⟨HNB.out.symm, fun hk2 => ?_⟩
                                  exfalso; rw [← HX.out] at hk2; simp only at hk2; rw [hk2] at f1; simp at f1
                                · exact HK.out q hq (by omega)
                              case measure => simp [intOf]; omega
                            exact AllReady.nil
                          exact AllReady.nil
                        exact AllReady.nil
                      exact AllReady.nil
                    refine AllReady.cons rfl (fun K hK => ?_) ?_
                    · go_simp
                      refine hK _ _ ?_
                      clear hK K
                      try simp only [Act.put, List.setIfInBounds_toArray, List.set_cons_zero, List.set_cons_succ]
                      refine wpAny_ready (rs := [0]) (by kernel_rfl) (by simp) ?_
                      refine AllReady.cons rfl (fun K hK => ?_) ?_
                      · go_simp
                        refine hK _ _ ?_
                        clear hK K
                        try simp only [Act.put, List.setIfInBounds_toArray, List.set_cons_zero, List.set_cons_succ]
                        refine wpAny_ready (rs := [6]) (by kernel_rfl) (by simp) ?_
                        refine AllReady.cons rfl (fun K hK => ?_) ?_
                        · go_simp
                          refine (HC.out _ belD).mono ?_
                          rintro e w5 ⟨rfl, hb5⟩
                          have hb6 : Below wr.heap.size wr w5 := bel belD hb5
                          have HS6 := S1.below HS.out hb6
                          have z0 := (hb6.cell (p := ⟨w.heap.size, 0, none⟩) lx).trans b0
                          have x0 := (hb6.cell (p := ⟨g, o + j * 8, none⟩) gl).trans d0
                          refine hK _ _ ?_
                          clear hK K
                          try simp only [Act.put, List.setIfInBounds_toArray, List.set_cons_zero, List.set_cons_succ]
                          refine wpAny_take (i := 7) (oi := ⟨some 114, _, _, _, _, _⟩) (v := ?_) rfl (by kernel_rfl) (by kernel_rfl) (by kernel_rfl) (fun _ _ _ h => h) (Or.inl ⟨by kernel_rfl, ?_⟩) ?_
                          rotate_left
                          · intro w'; go_simp <;> with_reducible rfl
                          try simp only [Act.put, List.setIfInBounds_toArray, List.set_cons_zero, List.set_cons_succ]
                          refine wpAny_take (i := 8) (oi := ⟨some 115, _, _, _, _, _⟩) (v := ?_) rfl (by kernel_rfl) (by kernel_rfl) (by kernel_rfl) (fun _ _ _ h => h) (Or.inl ⟨by kernel_rfl, ?_⟩) ?_
                          rotate_left
                          · intro w'; go_simp <;> with_reducible rfl
                          try simp only [Act.put, List.setIfInBounds_toArray, List.set_cons_zero, List.set_cons_succ]
                          refine wpAny_take (i := 9) (oi := ⟨some 116, _, _, _, _, _⟩) (v := ?_) rfl (by kernel_rfl) (by kernel_rfl) (by kernel_rfl) (fun _ _ _ h => h) (Or.inl ⟨by kernel_rfl, ?_⟩) ?_
                          rotate_left
                          · intro w'; go_simp <;> with_reducible rfl
                          try simp only [Act.put, List.setIfInBounds_toArray, List.set_cons_zero, List.set_cons_succ]
                          refine wpAny_take (i := 11) (oi := ⟨some 118, _, _, _, _, _⟩) (v := ?_) rfl (by kernel_rfl) (by kernel_rfl) (by kernel_rfl) (fun _ _ _ h => h) (Or.inl ⟨by kernel_rfl, ?_⟩) ?_
                          rotate_left
                          · intro w'; go_simp <;> with_reducible rfl
                          try simp only [Act.put, List.setIfInBounds_toArray, List.set_cons_zero, List.set_cons_succ]
                          refine wpAny_ready (rs := [10]) (by kernel_rfl) (by simp) ?_
                          refine AllReady.cons rfl (fun K hK => ?_) ?_
                          · go_simp
                            refine hK _ _ ?_
                            clear hK K
                            try simp only [Act.put, List.setIfInBounds_toArray, List.set_cons_zero, List.set_cons_succ]
                            refine wpAny_take (i := 12) (oi := ⟨some 119, _, _, _, _, _⟩) (v := ?_) rfl (by kernel_rfl) (by kernel_rfl) (by kernel_rfl) (fun _ _ _ h => h) (Or.inl ⟨by kernel_rfl, ?_⟩) ?_
                            rotate_left
                            · intro w'; go_simp <;> with_reducible rfl
                            try simp only [Act.put, List.setIfInBounds_toArray, List.set_cons_zero, List.set_cons_succ]
                            refine wpAny_take (i := 13) (oi := ⟨some 120, _, _, _, _, _⟩) (v := ?_) rfl (by kernel_rfl) (by kernel_rfl) (by kernel_rfl) (fun _ _ _ h => h) (Or.inl ⟨by kernel_rfl, ?_⟩) ?_
                            rotate_left
                            · intro w'; go_simp <;> with_reducible rfl
                            try simp only [Act.put, List.setIfInBounds_toArray, List.set_cons_zero, List.set_cons_succ]
                            refine wpAny_ready (rs := [14]) (by kernel_rfl) (by simp) ?_
                            refine AllReady.cons rfl (fun K hK => ?_) ?_
                            · go_simp
                              refine hK _ _ ?_
                              clear hK K
                              try simp only [Act.put, List.setIfInBounds_toArray, List.set_cons_zero, List.set_cons_succ]
                              refine wpAny_take (i := 15) (oi := ⟨some 122, _, _, _, _, _⟩) (v := ?_) rfl (by kernel_rfl) (by kernel_rfl) (by kernel_rfl) (fun _ _ _ h => h) (Or.inl ⟨by kernel_rfl, ?_⟩) ?_
                              rotate_left
                              · intro w'; go_simp <;> with_reducible rfl
                              try simp only [Act.put, List.setIfInBounds_toArray, List.set_cons_zero, List.set_cons_succ]
                              refine wpAny_take (i := 16) (oi := ⟨some 123, _, _, _, _, _⟩) (v := ?_) rfl (by kernel_rfl) (by kernel_rfl) (by kernel_rfl) (fun _ _ _ h => h) (Or.inl ⟨by kernel_rfl, ?_⟩) ?_
                              rotate_left
                              · intro w'; go_simp <;> with_reducible rfl
                              try simp only [Act.put, List.setIfInBounds_toArray, List.set_cons_zero, List.set_cons_succ]
                              refine wpAny_take (i := 17) (oi := ⟨some 124, _, _, _, _, _⟩) (v := undef) rfl (by kernel_rfl) (by kernel_rfl) (by kernel_rfl) (fun _ _ _ h => h) (Or.inr ⟨by kernel_rfl, rfl⟩) ?_
                              try simp only [Act.put, List.setIfInBounds_toArray, List.set_cons_zero, List.set_cons_succ]
                              refine wpAny_take (i := 18) (oi := ⟨some 125, _, _, _, _, _⟩) (v := undef) rfl (by kernel_rfl) (by kernel_rfl) (by kernel_rfl) (fun _ _ _ h => h) (Or.inr ⟨by kernel_rfl, rfl⟩) ?_
                              try simp only [Act.put, List.setIfInBounds_toArray, List.set_cons_zero, List.set_cons_succ]
                              refine wpAny_take (i := 19) (oi := ⟨some 126, _, _, _, _, _⟩) (v := undef) rfl (by kernel_rfl) (by kernel_rfl) (by kernel_rfl) (fun _ _ _ h => h) (Or.inr ⟨by kernel_rfl, rfl⟩) ?_
                              try simp only [Act.put, List.setIfInBounds_toArray, List.set_cons_zero, List.set_cons_succ]
                              refine wpAny_take (i := 20) (oi := ⟨some 127, _, _, _, _, _⟩) (v := undef) rfl (by kernel_rfl) (by kernel_rfl) (by kernel_rfl) (fun _ _ _ h => h) (Or.inr ⟨by kernel_rfl, rfl⟩) ?_
                              try simp only [Act.put, List.setIfInBounds_toArray, List.set_cons_zero, List.set_cons_succ]
                              refine wpAny_take (i := 21) (oi := ⟨some 128, _, _, _, _, _⟩) (v := undef) rfl (by kernel_rfl) (by kernel_rfl) (by kernel_rfl) (fun _ _ _ h => h) (Or.inr ⟨by kernel_rfl, rfl⟩) ?_
                              try simp only [Act.put, List.setIfInBounds_toArray, List.set_cons_zero, List.set_cons_succ]
                              refine wpAny_take (i := 22) (oi := ⟨some 129, _, _, _, _, _⟩) (v := ?_) rfl (by kernel_rfl) (by kernel_rfl) (by kernel_rfl) (fun _ _ _ h => h) (Or.inl ⟨by kernel_rfl, ?_⟩) ?_
                              rotate_left
                              · intro w'; go_simp <;> with_reducible rfl
                              try simp only [Act.put, List.setIfInBounds_toArray, List.set_cons_zero, List.set_cons_succ]
                              refine wpAny_take (i := 23) (oi := ⟨some 130, _, _, _, _, _⟩) (v := ?_) rfl (by kernel_rfl) (by kernel_rfl) (by kernel_rfl) (fun _ _ _ h => h) (Or.inl ⟨by kernel_rfl, ?_⟩) ?_
                              rotate_left
                              · intro w'; go_simp <;> with_reducible rfl
                              try simp only [Act.put, List.setIfInBounds_toArray, List.set_cons_zero, List.set_cons_succ]
                              refine wpAny_done (by kernel_rfl) ?_ _
                              go_wp2_with fail
                              go_roundw
                              case rel =>
                                refine ⟨j + 1, hlt, by go_num, fun q hq hqj => ?_, HS6, World.rowIs.of_block HQ.out (hb6.block T hTl)⟩
                                by_cases hqe : q = j
                                · subst hqe
                                  refine ⟨HNB.out.symm, fun hk2 => ?_⟩
                                  exfalso; rw [← HX.out] at hk2; simp only at hk2; rw [hk2] at f1; simp at f1
                                · exact HK.out q hq (by omega)
                              case measure => simp [intOf]; omega
                            exact AllReady.nil
                          exact AllReady.nil
                        exact AllReady.nil
                      exact AllReady.nil
                    exact AllReady.nil
                  exact AllReady.nil
                · go_wp2_with fail
                  go_region_held3 (fun w' => w'.cell? ⟨w.heap.size, 0, none⟩ = some (.slice (some ⟨g, o, none⟩) i nc) ∧ w'.cell? ⟨w.heap.size, 1, none⟩ = some (.slice ta kk tc) ∧ w'.cell? ⟨w.heap.size, 2, none⟩ = some (.int .i64 kk) ∧ w'.cell? ⟨g, o + j * 8, none⟩ = some (.int .i64 k) ∧ w'.cell? ⟨g, o + j * 8 + 1, none⟩ = some (.int .i64 op) ∧ w'.cell? ⟨g, o + j * 8 + 2, none⟩ = some (.int .i64 wd) ∧ w'.cell? ⟨g, o + j * 8 + 3, none⟩ = some (.slice ia ins.length ic) ∧ w'.cell? ⟨g, o + j * 8 + 4, none⟩ = some (.string (S vl)) ∧ w'.cell? ⟨g, o + j * 8 + 5, none⟩ = some (.int .i64 hi') ∧ w'.cell? ⟨g, o + j * 8 + 6, none⟩ = some (.int .i64 lo) ∧ w'.cell? ⟨g, o + j * 8 + 7, none⟩ = some (.int .i64 tm) ∧ w'.cell? ⟨T, j, none⟩ = some (.int .i64 c)) (go_keep) (first | (go_at_call 31; refine (HC.out _ (by first | exact Below.refl _ _ | exact belD)).mono ?_; rintro e w5 ⟨rfl, hb5⟩; have hb6 : Below wr.heap.size wr w5 := (by first | exact hb5 | exact bel belD hb5); have HS6 := S1.below HS.out hb6; have z0 := (hb6.cell (p := ⟨w.heap.size, 0, none⟩) lx).trans b0; have z1 := (hb6.cell (p := ⟨w.heap.size, 1, none⟩) lx).trans b1; have z2 := (hb6.cell (p := ⟨w.heap.size, 2, none⟩) lx).trans b2; have x0 := (hb6.cell (p := ⟨g, o + j * 8, none⟩) gl).trans d0; have x1 := (hb6.cell (p := ⟨g, o + j * 8 + 1, none⟩) gl).trans d1; have x2 := (hb6.cell (p := ⟨g, o + j * 8 + 2, none⟩) gl).trans d2; have x3 := (hb6.cell (p := ⟨g, o + j * 8 + 3, none⟩) gl).trans d3; have x4 := (hb6.cell (p := ⟨g, o + j * 8 + 4, none⟩) gl).trans d4; have x5 := (hb6.cell (p := ⟨g, o + j * 8 + 5, none⟩) gl).trans d5; have x6 := (hb6.cell (p := ⟨g, o + j * 8 + 6, none⟩) gl).trans d6; have x7 := (hb6.cell (p := ⟨g, o + j * 8 + 7, none⟩) gl).trans d7; have x8 := (hb6.cell (p := ⟨T, j, none⟩) hTl).trans y2))
                  all_goals go_wp2_with fail
                  all_goals first
                    | (go_ret; exact ⟨ret_bool (by rw [HR.out]; first | rw [may_node hjl HNB.out.symm] | rw [may_in hjl (by rw [← HX.out]; simpa using f1) (by rw [← HCC.out]; have := f2; simp at this; omega)]), HS6.bel⟩)
                    | (go_roundw
                       case rel =>
                         refine ⟨j + 1, hlt, by go_num, fun q hq hqj => ?_, HS6, World.rowIs.of_block HQ.out (hb6.block T hTl)⟩
                         by_cases hqe : q = j
                         · subst hqe
                           refine ⟨HNB.out.symm, fun hk2 => ?_⟩
                           first
                             | (exfalso; rw [← HX.out] at hk2; simp only at hk2; rw [hk2] at f1; simp at f1; done)
                             | (rw [← HCC.out]; have := f2; simp at this; omega)
                         · exact HK.out q hq (by omega)
                       case measure => simp [intOf]; omega)
                · go_wp2_with fail
                  go_region_held3 (fun w' => w'.cell? ⟨w.heap.size, 0, none⟩ = some (.slice (some ⟨g, o, none⟩) i nc) ∧ w'.cell? ⟨w.heap.size, 1, none⟩ = some (.slice ta kk tc) ∧ w'.cell? ⟨w.heap.size, 2, none⟩ = some (.int .i64 kk) ∧ w'.cell? ⟨g, o + j * 8, none⟩ = some (.int .i64 k) ∧ w'.cell? ⟨g, o + j * 8 + 1, none⟩ = some (.int .i64 op) ∧ w'.cell? ⟨g, o + j * 8 + 2, none⟩ = some (.int .i64 wd) ∧ w'.cell? ⟨g, o + j * 8 + 3, none⟩ = some (.slice ia ins.length ic) ∧ w'.cell? ⟨g, o + j * 8 + 4, none⟩ = some (.string (S vl)) ∧ w'.cell? ⟨g, o + j * 8 + 5, none⟩ = some (.int .i64 hi') ∧ w'.cell? ⟨g, o + j * 8 + 6, none⟩ = some (.int .i64 lo) ∧ w'.cell? ⟨g, o + j * 8 + 7, none⟩ = some (.int .i64 tm) ∧ w'.cell? ⟨T, j, none⟩ = some (.int .i64 c)) (go_keep) (first | (go_at_call 31; refine (HC.out _ (by first | exact Below.refl _ _ | exact belD)).mono ?_; rintro e w5 ⟨rfl, hb5⟩; have hb6 : Below wr.heap.size wr w5 := (by first | exact hb5 | exact bel belD hb5); have HS6 := S1.below HS.out hb6; have z0 := (hb6.cell (p := ⟨w.heap.size, 0, none⟩) lx).trans b0; have z1 := (hb6.cell (p := ⟨w.heap.size, 1, none⟩) lx).trans b1; have z2 := (hb6.cell (p := ⟨w.heap.size, 2, none⟩) lx).trans b2; have x0 := (hb6.cell (p := ⟨g, o + j * 8, none⟩) gl).trans d0; have x1 := (hb6.cell (p := ⟨g, o + j * 8 + 1, none⟩) gl).trans d1; have x2 := (hb6.cell (p := ⟨g, o + j * 8 + 2, none⟩) gl).trans d2; have x3 := (hb6.cell (p := ⟨g, o + j * 8 + 3, none⟩) gl).trans d3; have x4 := (hb6.cell (p := ⟨g, o + j * 8 + 4, none⟩) gl).trans d4; have x5 := (hb6.cell (p := ⟨g, o + j * 8 + 5, none⟩) gl).trans d5; have x6 := (hb6.cell (p := ⟨g, o + j * 8 + 6, none⟩) gl).trans d6; have x7 := (hb6.cell (p := ⟨g, o + j * 8 + 7, none⟩) gl).trans d7; have x8 := (hb6.cell (p := ⟨T, j, none⟩) hTl).trans y2))
                  all_goals go_wp2_with fail
                  all_goals first
                    | (go_ret; exact ⟨ret_bool (by rw [HR.out]; first | rw [may_node hjl HNB.out.symm] | rw [may_in hjl (by rw [← HX.out]; simpa using f1) (by rw [← HCC.out]; have := f2; simp at this; omega)]), HS6.bel⟩)
                    | (go_roundw
                       case rel =>
                         refine ⟨j + 1, hlt, by go_num, fun q hq hqj => ?_, HS6, World.rowIs.of_block HQ.out (hb6.block T hTl)⟩
                         by_cases hqe : q = j
                         · subst hqe
                           refine ⟨HNB.out.symm, fun hk2 => ?_⟩
                           first
                             | (exfalso; rw [← HX.out] at hk2; simp only at hk2; rw [hk2] at f1; simp at f1; done)
                             | (rw [← HCC.out]; have := f2; simp at this; omega)
                         · exact HK.out q hq (by omega)
                       case measure => simp [intOf]; omega)
              · obtain rfl : j = i := by omega
                go_wp2_with fail
                go_ret
                exact ⟨ret_bool (by rw [HR.out, may_yes ⟨by rw [← HNL.out]; exact hn, by rw [← HML.out]⟩ HAL.out (by rw [← HNL.out]; exact HAN.out) (fun q hq => HK.out q hq (by rw [HNL.out]; exact hq))]), HS.out.bel⟩
  · have h3 : (pt != (m : Int)) = true := by simpa using h2
    go_enter Try.func13, Try.ntmps13
    go_wp2
    go_ret
    exact ⟨ret_bool (by rw [HR.out, may_size (by rw [← HML.out]; omega)]), belA (Below.refl _ _) _⟩
end Go.Proofs.Ytkgonnnpoldcoaa
