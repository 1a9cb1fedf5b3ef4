/- Events come in their order. -/
import Derived.Test.YtfjkhcpneehdjaaEvT
namespace Go.Proofs.Ytfjkhcpneehdjaa
open Go.RowKit Qu Go.Maps
set_option linter.unusedVariables false
set_option linter.unusedSimpArgs false
set_option maxRecDepth 100000

def mkO (zs : List Int) (j : Nat) : Ev := ⟨zs.getD j 0 % 65536, (j : Int) % 4, ⟨#[]⟩, 0, (j : Int), false⟩
theorem mkBools (n : Nat) (hn : n ≤ 140737488355328 / 8) : ∀ w : World, (Instr.makeSlice 45 (.int .i64 (n : Int)) (.int .i64 (n : Int))).run Try.prog w = .ok (.slice (some ⟨w.heap.size, 0, none⟩) n n) (w.alloc (.cells (madeCells #[.bool false] n) 4)) := fun w =>
  run_make_row' (P := Try.prog) 45 4 (.bool false) 1 Try.underlying45 (by kernel_rfl) rfl .i64 .i64 n (by omega) (by omega) w
theorem set6_at {W : World} {L : Nat} {a0 a1 a2 a3 a4 a5 b0 b1 b2 b3 b4 b5 : Value} {t : TypeId} (h : W.heap[L]? = some (.cells #[a0, a1, a2, a3, a4, a5] t (0, 0))) : ((((((W.setCell ⟨L, 0, none⟩ b0).setCell ⟨L, 1, none⟩ b1).setCell ⟨L, 2, none⟩ b2).setCell ⟨L, 3, none⟩ b3).setCell ⟨L, 4, none⟩ b4).setCell ⟨L, 5, none⟩ b5).heap[L]? = some (.cells #[b0, b1, b2, b3, b4, b5] t (0, 0)) := by
  have k0 := heap_setCell_same W L 0 _ t b0 h
  have k1 := heap_setCell_same _ L 1 _ t b1 k0
  have k2 := heap_setCell_same _ L 2 _ t b2 k1
  have k3 := heap_setCell_same _ L 3 _ t b3 k2
  have k4 := heap_setCell_same _ L 4 _ t b4 k3
  have k5 := heap_setCell_same _ L 5 _ t b5 k4
  simpa using k5
theorem But.ot {T : Nat} {w w' w2 : World} (h : But T w w') (k : Ot T w' w2) : But T w w2 := ⟨k.os.trans h.os, k.tape.trans h.tape, k.output.trans h.output, by rw [k.size]; exact h.size, fun i hi ne => (k.block i ne).trans (h.block i hi ne)⟩
theorem ord_fin {B q T i j nq : Nat} {lim : Int} {w0 W3 : World} {v : Value} {l : List Ev} {js : List Nat} {x y : Ev} {z : Int} (h : Wd B q lim w0 W3 v l) (hB : B ≤ w0.heap.size) (hs : W3.rowIs T 4 i (fun q => .bool (decide (q ∉ js)))) (hy : W3.heap[T + 1]? = some (.cells #[.int .i64 y.t, .int .i64 y.nd, .string y.v, .int .i64 y.fr, .int .i64 y.sq, .bool y.an] 34 (0, 0))) (hx : x.sq = z) (hBT : B ≤ T) (hq : q < T) (hv : v.ownBlock ≠ some T) (hv1 : v.ownBlock ≠ some (T + 1)) (hj : j ∈ js ∧ js.Nodup) :
    Wd B q lim w0 (((((((((W3.drewN nq).setCell ⟨T, j, none⟩ (.bool true)).setCell ⟨T + 1, 0, none⟩ (.int .i64 x.t)).setCell ⟨T + 1, 1, none⟩ (.int .i64 x.nd)).setCell ⟨T + 1, 2, none⟩ (.string x.v)).setCell ⟨T + 1, 3, none⟩ (.int .i64 x.fr)).setCell ⟨T + 1, 4, none⟩ (.int .i64 z)).setCell ⟨T + 1, 5, none⟩ (.bool x.an))) v l ∧
    (((((((((W3.drewN nq).setCell ⟨T, j, none⟩ (.bool true)).setCell ⟨T + 1, 0, none⟩ (.int .i64 x.t)).setCell ⟨T + 1, 1, none⟩ (.int .i64 x.nd)).setCell ⟨T + 1, 2, none⟩ (.string x.v)).setCell ⟨T + 1, 3, none⟩ (.int .i64 x.fr)).setCell ⟨T + 1, 4, none⟩ (.int .i64 z)).setCell ⟨T + 1, 5, none⟩ (.bool x.an))).rowIs T 4 i (fun q => .bool (decide (q ∉ js.erase j))) ∧
    (((((((((W3.drewN nq).setCell ⟨T, j, none⟩ (.bool true)).setCell ⟨T + 1, 0, none⟩ (.int .i64 x.t)).setCell ⟨T + 1, 1, none⟩ (.int .i64 x.nd)).setCell ⟨T + 1, 2, none⟩ (.string x.v)).setCell ⟨T + 1, 3, none⟩ (.int .i64 x.fr)).setCell ⟨T + 1, 4, none⟩ (.int .i64 z)).setCell ⟨T + 1, 5, none⟩ (.bool x.an))).heap[T + 1]? = some (.cells #[.int .i64 x.t, .int .i64 x.nd, .string x.v, .int .i64 x.fr, .int .i64 x.sq, .bool x.an] 34 (0, 0)) := by
  have h1 : Wd B q lim w0 (W3.drewN nq) v l := h.up hB (belDN (Below.refl _ W3) nq)
  have s1 : (W3.drewN nq).rowIs T 4 i (fun q => .bool (decide (q ∉ js))) := hs.of_block rfl
  have y1 : (W3.drewN nq).heap[T + 1]? = some (.cells #[.int .i64 y.t, .int .i64 y.nd, .string y.v, .int .i64 y.fr, .int .i64 y.sq, .bool y.an] 34 (0, 0)) := hy
  generalize W3.drewN nq = W4 at h1 s1 y1 ⊢
  have h2 := h1.but hB ((But.refl T W4).set j (.bool true)) hBT (by omega) hv
  have s2 := s1.set j (.bool true)
  have y2 : (W4.setCell ⟨T, j, none⟩ (.bool true)).heap[T + 1]? = _ := (set1_block (by omega)).trans y1
  generalize W4.setCell ⟨T, j, none⟩ (.bool true) = W5 at h2 s2 y2 ⊢
  have ho := set6_ot W5 (T + 1) (.int .i64 x.t) (.int .i64 x.nd) (.string x.v) (.int .i64 x.fr) (.int .i64 z) (.bool x.an)
  have y3 := set6_at (b0 := .int .i64 x.t) (b1 := .int .i64 x.nd) (b2 := .string x.v) (b3 := .int .i64 x.fr) (b4 := .int .i64 z) (b5 := .bool x.an) y2
  revert ho y3
  generalize ((((((W5.setCell ⟨T + 1, 0, none⟩ (.int .i64 x.t)).setCell ⟨T + 1, 1, none⟩ (.int .i64 x.nd)).setCell ⟨T + 1, 2, none⟩ (.string x.v)).setCell ⟨T + 1, 3, none⟩ (.int .i64 x.fr)).setCell ⟨T + 1, 4, none⟩ (.int .i64 z)).setCell ⟨T + 1, 5, none⟩ (.bool x.an)) = W6
  intro ho y3
  refine ⟨h2.but hB ((But.refl (T + 1) W5).ot ho) (by omega) (by omega) hv1, ?_, by rw [hx]; exact y3⟩
  refine (s2.of_block (ho.block T (by omega))).congr fun q _ => ?_
  have := not_mem_erase hj.2 j q
  by_cases e : q = j
  · subst e; simp [this]
  · simp [e, this]
set_option maxHeartbeats 8000000 in
theorem EventOrders_c (zs : List Int) (v0 : Value) (w : World) (h : IntsAt w v0 zs) : Calls Try.prog 4 #[v0] w fun e w' => e = .returned (.bool true) ∧ Below w.heap.size w w' := by
  obtain ⟨ao, cap, rfl⟩ := h.get
  have HI : Hid (IntsAt w (.slice ao zs.length cap) zs) := h
  clear h
  obtain ⟨n, hn⟩ : ∃ n, n = zs.length := ⟨_, rfl⟩
  have HN : Hid (n = zs.length) := hn
  rw [← hn]
  clear hn
  obtain ⟨q, hq⟩ : ∃ q, q = w.heap.size := ⟨_, rfl⟩
  obtain ⟨W0, hW0⟩ : ∃ W0, W0 = w.alloc (.cells #[.pointer (some ⟨w.heap.size, 0, none⟩), .int .i64 4096, .slice none 0 0] 51) := ⟨_, rfl⟩
  have HW0 : Hid (Wd w.heap.size q 4096 w W0 (.slice none 0 0) []) := by rw [hW0, hq]; exact ⟨Qh.start _ 4096 w (Nat.le_refl _), belA (Below.refl _ _) _⟩
  have HNw : Hid (Calls Try.prog 8 #[.int .i64 4096] w fun e w' => e = .returned (.tuple #[.pointer (some ⟨q, 0, none⟩), .int .i64 0]) ∧ w' = W0) := by rw [hW0, hq]; exact new_c 4096 w (by omega) (by omega)
  have HQ : Hid (q = w.heap.size) := hq
  clear hq hW0
  have HAw : Hid (∀ W, Calls Try.prog 10 #[] W fun e w' => e = .returned (.bool true) ∧ Below W.heap.size W w') := awake14
  by_cases hbig : 300 < n
  · have g1 : decide ((300 : Int) < (n : Int)) = true := by rw [decide_eq_true_eq]; omega
    go_enter Try.func4, Try.ntmps4
    go_wp2_with (first
      | (go_at_call 8; refine HNw.out.mono ?_; rintro e w1 ⟨rfl, hw⟩; rw [hw]; clear hw)
      | (go_at_call 10; refine (HAw.out _).mono ?_; rintro e wA ⟨rfl, hbA⟩))
    go_ret
    exact ⟨rfl, belN HW0.out.b (Nat.le_refl _) hbA⟩
  · have g1 : decide ((300 : Int) < (n : Int)) = false := by rw [decide_eq_false_iff_not]; omega
    rcases Nat.eq_zero_or_pos n with h0 | hpos
    · subst h0
      have hmk := mkBools 0 (by omega)
      have hmk' : ∀ w : World, (Instr.makeSlice 45 (.int .i64 0) (.int .i64 0)).run Try.prog w = .ok (.slice (some ⟨w.heap.size, 0, none⟩) 0 0) (w.alloc (.cells (madeCells #[.bool false] 0) 4)) := hmk
      clear hmk
      have HL : Hid (∀ W, Below W0.heap.size W0 W → Calls Try.prog 13 #[.pointer (some ⟨q, 0, none⟩)] W fun e w' => e = .returned (.int .i64 0) ∧ w' = W) := fun W hW => len_c _ q 4096 _ [] W (HW0.out.q.b.below hW)
      go_enter Try.func4, Try.ntmps4
      go_wp2_with (first
        | (go_at_call 8; refine HNw.out.mono ?_; rintro e w1 ⟨rfl, hw⟩; rw [hw]; clear hw))
      go_loopw [5] (fun s5 W => s5 = .int .i64 0 ∧ W = W0) (fun s5 W => 0)
      case atStart => exact ⟨rfl, rfl⟩
      case round =>
        obtain ⟨rfl, hw⟩ := hrel
        rw [hw]
        go_wp2_with fail
        have HB2 : Hid (Below W0.heap.size W0 ((W0.alloc (.cells (madeCells #[.bool false] 0) 4)).alloc (.cells #[.int .i64 0, .int .i64 0, .string ⟨#[]⟩, .int .i64 0, .int .i64 0, .bool false] 34))) := belA (belA (Below.refl _ _) _) _
        generalize (W0.alloc (.cells (madeCells #[.bool false] 0) 4)).alloc (.cells #[.int .i64 0, .int .i64 0, .string ⟨#[]⟩, .int .i64 0, .int .i64 0, .bool false] 34) = W2 at HB2 ⊢
        go_loopw [8] (fun s8 W => s8 = .int .i64 0 ∧ W = W2) (fun s8 W => 0)
        case atStart => exact ⟨rfl, rfl⟩
        case round =>
          obtain ⟨rfl, hw⟩ := hrel
          rw [hw]
          go_wp2_with (first
            | (go_at_call 13; refine (HL.out _ HB2.out).mono ?_; rintro e w1 ⟨rfl, hw⟩; rw [hw]; clear hw)
            | (go_at_call 10; refine (HAw.out _).mono ?_; rintro e wA ⟨rfl, hbA⟩))
          go_ret
          exact ⟨rfl, belN HW0.out.b (Nat.le_refl _) (belT HB2.out hbA)⟩
    · obtain ⟨gz, oz, cap', e, hgz, hcz⟩ := HI.out.some_ (by have := HN.out; omega)
      injection e with e1 e2 e3
      subst e1 e3
      have HZ : Hid (gz < w.heap.size ∧ ∀ i, i < n → w.cell? ⟨gz, oz + i, none⟩ = some (.int .i64 (zs.getD i 0))) := ⟨hgz, fun i hi => hcz i (by have := HN.out; omega)⟩
      clear hgz hcz e2 HI
      go_enter Try.func4, Try.ntmps4
      go_wp2_with (first
        | (go_at_call 8; refine HNw.out.mono ?_; rintro e w1 ⟨rfl, hw⟩; rw [hw]; clear hw))
      clear HNw g1
      go_loopw [5] (fun s5 W => ∃ (i : Nat) (v : Value) (l : List Ev), i ≤ n ∧ s5 = .int .i64 i ∧ Hid (Wd w.heap.size q 4096 w W v l) ∧ Hid (Rem (mkO zs) i l (List.range i))) (fun s5 W => n - (intOf s5).toNat)
      case atStart => exact ⟨0, _, [], Nat.zero_le _, rfl, HW0.out, Rem.zero _⟩
      case round =>
        clear HW0
        obtain ⟨i, v, l, hi, rfl, HW, HR⟩ := hrel
        by_cases hlt : i < n
        · have hz : wr.cell? ⟨gz, oz + i, none⟩ = some (.int .i64 (zs.getD i 0)) := (HW.out.b.cell (p := ⟨gz, oz + i, none⟩) HZ.out.1).trans (HZ.out.2 i hlt)
          have i1 : (0 : Int) ≤ (i : Int) := by omega
          have i2 : (i : Int) < (n : Int) := by omega
          have a1 := and65535 (zs.getD i 0)
          have a2 := and3 (i : Int)
          have HP : Hid (Calls Try.prog 15 #[.pointer (some ⟨q, 0, none⟩), .agg #[.int .i64 (zs.getD i 0 % 65536), .int .i64 ((i : Int) % 4), .string ⟨#[]⟩, .int .i64 0, .int .i64 (i : Int), .bool false]] wr fun e w' => e = .returned (.int .i64 0) ∧ ∃ v' l', Hid (Wd w.heap.size q 4096 w w' v' l') ∧ Hid (l'.Perm (mkO zs i :: l)) ∧ Hid (But2 q v.ownBlock wr w') ∧ Hid (Mv v v' wr)) := put_w (x := mkO zs i) HW.out (Nat.le_refl _) (by show 0 ≤ zs.getD i 0 % 65536; omega) (by show zs.getD i 0 % 65536 ≤ _; omega) rfl (HR.out.hasK fun j hj => by
            have := List.mem_range.1 hj
            show ¬ ((0 : Int) = 0 ∧ (j : Int) = (i : Int))
            omega) (by rw [HR.out.len, List.length_range]; omega) (by omega)
          generalize zs.getD i 0 = zi at hz a1 HP
          go_wp2_with (first
            | (go_at_call 15; refine HP.out.mono ?_; rintro e w2 ⟨rfl, v', l', r1, r2, r3, r4⟩))
          go_roundw
          case rel => exact ⟨i + 1, v', l', hlt, by go_num, r1.out, HR.out.put r2.out⟩
          case measure => simp [intOf]; omega
        · obtain rfl : i = n := by omega
          have hmk := mkBools i (by omega)
          go_wp2_with fail
          obtain ⟨T, hT⟩ : ∃ T, T = wr.heap.size := ⟨_, rfl⟩
          obtain ⟨W2, hW2⟩ : ∃ W2, W2 = (wr.alloc (.cells (madeCells #[.bool false] i) 4)).alloc (.cells #[.int .i64 0, .int .i64 0, .string ⟨#[]⟩, .int .i64 0, .int .i64 0, .bool false] 34) := ⟨_, rfl⟩
          have HS2 : Hid (W2.rowIs T 4 i (fun q => .bool (decide (q ∉ List.range i)))) := by
            rw [hW2, hT]
            exact World.rowIs.alloc ((World.rowIs_made wr (.bool false) i 4).congr (fun k hk => by simp [hk])) _
          have HL2 : Hid (W2.heap[T + 1]? = some (.cells #[.int .i64 ev0.t, .int .i64 ev0.nd, .string ev0.v, .int .i64 ev0.fr, .int .i64 ev0.sq, .bool ev0.an] 34 (0, 0))) := by rw [hW2, hT]; exact alAt (by simp)
          have HW2 : Hid (Wd w.heap.size q 4096 w W2 v l) := by rw [hW2]; exact HW.out.up (Nat.le_refl _) (belA (belA (Below.refl _ _) _) _)
          have HV2 : Hid (v.ownBlock ≠ some (T + 1)) := fun e => by have := (World.ownsRow.lt HW.out.q.b.row _ e).2; omega
          have hTq : q < T := by have := hLt HW.out.q.b.blk; omega
          have hTw : w.heap.size ≤ T := by have := HQ.out; omega
          rw [← hT, ← hW2]
          clear hT hW2 HW hmk hi hlt
          go_loopw [8] (fun s8 W => ∃ (k : Nat) (v : Value) (l : List Ev) (js : List Nat) (y : Ev), k ≤ i ∧ s8 = .int .i64 k ∧ Hid (Wd w.heap.size q 4096 w W v l) ∧ Hid (Rem (mkO zs) i l js ∧ js.length + k = i) ∧ Hid (W.rowIs T 4 i (fun q => .bool (decide (q ∉ js)))) ∧ Hid (W.heap[T + 1]? = some (.cells #[.int .i64 y.t, .int .i64 y.nd, .string y.v, .int .i64 y.fr, .int .i64 y.sq, .bool y.an] 34 (0, 0))) ∧ Hid (0 < k → ∀ z ∈ l, le y z) ∧ Hid (v.ownBlock ≠ some (T + 1))) (fun s8 W => i - (intOf s8).toNat)
          case atStart => exact ⟨0, v, l, _, ev0, Nat.zero_le _, rfl, HW2.out, ⟨HR.out, by rw [List.length_range]; omega⟩, HS2.out, HL2.out, fun h => by omega, HV2.out⟩
          case round =>
            clear HS2 HL2 HW2 HV2 HR
            obtain ⟨k, v, l, js, y, hk, rfl, HW, HR, HS, HY, HL, HV⟩ := hrel
            by_cases hlt : k < i
            · obtain ⟨m, hm⟩ : ∃ m, l.length = m + 1 := ⟨l.length - 1, by rw [HR.out.1.len]; have := HR.out.2; omega⟩
              have HT : Hid (Calls Try.prog 16 #[.pointer (some ⟨q, 0, none⟩)] wr fun e w' => e = .returned (.tuple #[.agg #[.int .i64 (g l 0).t, .int .i64 (g l 0).nd, .string (g l 0).v, .int .i64 (g l 0).fr, .int .i64 (g l 0).sq, .bool (g l 0).an], .bool true]) ∧ ∃ v' l', Hid (Wd w.heap.size q 4096 w w' v' l') ∧ Hid (l.Perm (g l 0 :: l')) ∧ Hid (But2 q v.ownBlock wr w') ∧ Hid (Mv v v' wr)) := take_w HW.out (Nat.le_refl _) hm (by rw [HR.out.1.len] at hm; have := HR.out.2; omega)
              have HX : Hid (∀ z ∈ l, le (g l 0) z) := hp_all HW.out.q.h
              have HYx : Hid (0 < k → le y (g l 0)) := fun h => HL.out h _ (g0_mem hm)
              clear hm
              generalize g l 0 = x at HT HX HYx
              go_wp2_with (first
                | (go_at_call 16; refine HT.out.mono ?_; rintro e w2 ⟨rfl, v', l', r1, r2, r3, r4⟩))
              -- behind Take
              obtain ⟨j, hj, ex, hR'⟩ := HR.out.1.take r2.out
              have hji := HR.out.1.lt j hj
              have HR2 : Hid (Rem (mkO zs) i l' (js.erase j) ∧ (js.erase j).length + (k + 1) = i) := ⟨hR', by have h1 := HR.out.2; have h2 := List.length_erase_of_mem hj; have h3 := List.length_pos_of_mem hj; omega⟩
              have hnT : v.ownBlock ≠ some T := by obtain ⟨c, hc, _⟩ := HS.out; exact own_neT HW.out.q.b.row hc (by decide)
              have hnT' : v'.ownBlock ≠ some T := fun e => by rcases r4.out T e with h | h; exact hnT h; have := HS.out.lt; omega
              have HV2 : Hid (v'.ownBlock ≠ some (T + 1)) := fun e => by rcases r4.out _ e with h | h; exact HV.out h; have := hLt HY.out; omega
              obtain ⟨X, hX⟩ : ∃ X, X = w2.heap.size := ⟨_, rfl⟩
              obtain ⟨W3, hW3⟩ : ∃ W3, W3 = w2.alloc (.cells #[.int .i64 x.t, .int .i64 x.nd, .string x.v, .int .i64 x.fr, .int .i64 x.sq, .bool x.an] 34) := ⟨_, rfl⟩
              have b3 : Below w2.heap.size w2 W3 := by rw [hW3]; exact belA (Below.refl _ _) _
              have HW3 : Hid (Wd w.heap.size q 4096 w W3 v' l') := r1.out.up (Nat.le_refl _) b3
              have s2 := r3.out.size
              have HS3 : Hid (W3.rowIs T 4 i (fun q => .bool (decide (q ∉ js)))) := HS.out.of_block ((b3.block T (by have := HS.out.lt; omega)).trans (r3.out.block T HS.out.lt (by omega) hnT))
              have HY3 : Hid (W3.heap[T + 1]? = some (.cells #[.int .i64 y.t, .int .i64 y.nd, .string y.v, .int .i64 y.fr, .int .i64 y.sq, .bool y.an] 34 (0, 0))) := (b3.block _ (by have := hLt HY.out; omega)).trans ((r3.out.block _ (hLt HY.out) (by omega) HV.out).trans HY.out)
              obtain ⟨⟨c0, c1, c2, c3, c4, c5⟩, _⟩ := cell6 (w := W3) (b := X) (by rw [hW3]; exact alAt hX.symm)
              obtain ⟨⟨y0, y1, y2, y3, y4, y5⟩, p0, p1, p2, p3, p4, p5⟩ := cell6 HY3.out
              have t0 : W3.cell? ⟨T, j, none⟩ = some (.bool false) := by rw [HS3.out.cell hji]; simp [hj]
              have t1 := HS3.out.frozen j
              have hz : W3.cell? ⟨gz, oz + j, none⟩ = some (.int .i64 (zs.getD j 0)) := (HW3.out.b.cell (p := ⟨gz, oz + j, none⟩) HZ.out.1).trans (HZ.out.2 j hji)
              have ex4 : x.sq = (j : Int) := by rw [ex]; rfl
              have a1 : bits .and .i64 (zs.getD j 0) 65535 = x.t := by rw [and65535, ex]; rfl
              rw [ex4] at c4
              have hTl := HS3.out.lt
              have hXT : X ≠ T := by have := HS.out.lt; omega
              have hXL : X ≠ T + 1 := by have := hLt HY.out; omega
              have hXl := World.block_lt_of_cell? W3 ⟨X, 0, none⟩ c0
              have hYl := hLt HY3.out
              have HJ : Hid (j ∈ js ∧ js.Nodup) := ⟨hj, HR.out.1.nd⟩
              rw [← hX, ← hW3]
              have hgz := HZ.out.1
              have HP2 : Hid (l.Perm (x :: l')) := r2.out
              have HX4 : Hid (x.sq = (j : Int)) := ex4
              have HTw : Hid (w.heap.size ≤ T) := hTw
              have HVT : Hid (v'.ownBlock ≠ some T) := hnT'
              clear hnT'
              clear hX hW3 b3 s2 r1 r2 r3 r4 ex ex4 hj hR' hnT hTw
              generalize zs.getD j 0 = zj at hz a1
              have j1 : (0 : Int) ≤ (j : Int) := by omega
              have j2 : (j : Int) < (i : Int) := by omega
              have d1 : decide ((j : Int) < 0) = false := by rw [decide_eq_false_iff_not]; omega
              have d2 : decide ((i : Int) ≤ (j : Int)) = false := by rw [decide_eq_false_iff_not]; omega
              have d3 : decide (i ≤ j) = false := by rw [decide_eq_false_iff_not]; omega
              have d4 : (x.t != x.t) = false := by simp
              go_quiet (fail)
              rcases Nat.eq_zero_or_pos k with hk0 | hkp
              · have q1 : decide ((0 : Int) < (k : Int)) = false := by rw [decide_eq_false_iff_not]; omega
                have q2 : decide (0 < k) = false := by rw [decide_eq_false_iff_not]; omega
                clear hk0
                go_wp2
                go_roundw
                case rel => exact ⟨k + 1, v', l', js.erase j, x, by omega, by go_num, (ord_fin (nq := nq) HW3.out (Nat.le_refl _) HS3.out HY3.out HX4.out HTw.out hTq HVT.out HV2.out HJ.out).1, HR2.out, (ord_fin (nq := nq) HW3.out (Nat.le_refl _) HS3.out HY3.out HX4.out HTw.out hTq HVT.out HV2.out HJ.out).2.1, (ord_fin (nq := nq) HW3.out (Nat.le_refl _) HS3.out HY3.out HX4.out HTw.out hTq HVT.out HV2.out HJ.out).2.2, fun _ z hz => HX.out z (HP2.out.mem_iff.2 (by simp [hz])), HV2.out⟩
                case measure => simp [intOf]; omega
              · have q1 : decide ((0 : Int) < (k : Int)) = true := by rw [decide_eq_true_eq]; omega
                have q2 : decide (0 < k) = true := by rw [decide_eq_true_eq]; omega
                have hle := HYx.out hkp
                have q3 : decide (x.t < y.t) = false := by rw [decide_eq_false_iff_not]; unfold le lt at hle; omega
                by_cases he : y.t = x.t
                · have q4 : (y.t == x.t) = true := by rw [beq_iff_eq]; exact he
                  have q5 : decide (x.nd < y.nd) = false := by rw [decide_eq_false_iff_not]; unfold le lt at hle; omega
                  clear hkp hle he
                  go_wp2
                  go_roundw
                  case rel => exact ⟨k + 1, v', l', js.erase j, x, by omega, by go_num, (ord_fin (nq := nq) HW3.out (Nat.le_refl _) HS3.out HY3.out HX4.out HTw.out hTq HVT.out HV2.out HJ.out).1, HR2.out, (ord_fin (nq := nq) HW3.out (Nat.le_refl _) HS3.out HY3.out HX4.out HTw.out hTq HVT.out HV2.out HJ.out).2.1, (ord_fin (nq := nq) HW3.out (Nat.le_refl _) HS3.out HY3.out HX4.out HTw.out hTq HVT.out HV2.out HJ.out).2.2, fun _ z hz => HX.out z (HP2.out.mem_iff.2 (by simp [hz])), HV2.out⟩
                  case measure => simp [intOf]; omega
                · have q4 : (y.t == x.t) = false := by rw [beq_eq_false_iff_ne]; exact he
                  clear hkp hle he
                  go_wp2
                  go_roundw
                  case rel => exact ⟨k + 1, v', l', js.erase j, x, by omega, by go_num, (ord_fin (nq := nq) HW3.out (Nat.le_refl _) HS3.out HY3.out HX4.out HTw.out hTq HVT.out HV2.out HJ.out).1, HR2.out, (ord_fin (nq := nq) HW3.out (Nat.le_refl _) HS3.out HY3.out HX4.out HTw.out hTq HVT.out HV2.out HJ.out).2.1, (ord_fin (nq := nq) HW3.out (Nat.le_refl _) HS3.out HY3.out HX4.out HTw.out hTq HVT.out HV2.out HJ.out).2.2, fun _ z hz => HX.out z (HP2.out.mem_iff.2 (by simp [hz])), HV2.out⟩
                  case measure => simp [intOf]; omega
            · obtain rfl : k = i := by omega
              have HLn : Hid (Calls Try.prog 13 #[.pointer (some ⟨q, 0, none⟩)] wr fun e w' => e = .returned (.int .i64 (l.length : Int)) ∧ w' = wr) := len_c _ q 4096 v l wr HW.out.q.b
              rw [show l.length = 0 by rw [HR.out.1.len]; have := HR.out.2; omega] at HLn
              go_wp2_with (first
                | (go_at_call 13; refine HLn.out.mono ?_; rintro e w1 ⟨rfl, hw⟩; rw [hw]; clear hw)
                | (go_at_call 10; refine (HAw.out _).mono ?_; rintro e wA ⟨rfl, hbA⟩))
              go_ret
              exact ⟨rfl, belN HW.out.b (Nat.le_refl _) hbA⟩
end Go.Proofs.Ytfjkhcpneehdjaa
