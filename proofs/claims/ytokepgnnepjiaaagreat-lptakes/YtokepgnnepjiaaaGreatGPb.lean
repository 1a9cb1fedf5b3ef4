/- Texts PP PQ PR PS, joined: what each part says stands ahead of it. -/
import Derived.Test.YtokepgnnepjiaaaGreatGPa
import Derived.BigRegion
import Derived.Laws.IdiomCopy
/- Library's Mul, Repeat at two. -/
namespace Go.Proofs.YtokepgnnepjiaaaGreat
set_option maxRecDepth 100000
open Go.RowKit Lg Nl Go.Maps
set_option linter.unusedVariables false
set_option linter.unusedSimpArgs false

set_option maxHeartbeats 1000000 in
theorem mul64_c (w : World) : Calls Tryz.prog 91 #[.int .u64 1, .int .u64 2] w fun e w' => e = .returned (.tuple #[.int .u64 0, .int .u64 2]) ∧ w' = w := by
  go_enter Tryz.func91, Tryz.ntmps91
  go_wp2
  go_ret2
  exact ⟨rfl, rfl⟩
set_option maxHeartbeats 1000000 in
theorem mul_c (w : World) : Calls Tryz.prog 66 #[.int .u64 1, .int .u64 2] w fun e w' => e = .returned (.tuple #[.int .u64 0, .int .u64 2]) ∧ w' = w := by
  go_enter Tryz.func66, Tryz.ntmps66
  go_wp2_with (first
    | (go_at_call 91; refine (mul64_c _).mono ?_; rintro e w1 ⟨rfl, hw⟩; rw [hw]; clear hw))
  go_ret2
  exact ⟨rfl, rfl⟩
theorem mk2 (w : World) : (Instr.makeSlice 24 (.int .i64 2) (.int .i64 2)).run Tryz.prog w = .ok (.slice (some ⟨w.heap.size, 0, none⟩) 2 2) (w.alloc (.cells #[.int .i64 0, .int .i64 0] 3)) := by
  have h := mkInts 2 (by decide) w
  rw [show madeCells #[Value.int .i64 0] 2 = #[.int .i64 0, .int .i64 0] by kernel_rfl] at h
  exact h
theorem mk0 (w : World) : (Instr.makeSlice 24 (.int .i64 0) (.int .i64 0)).run Tryz.prog w = .ok (.slice (some ⟨w.heap.size, 0, none⟩) 0 0) (w.alloc (.cells #[] 3)) := by
  have h := mkInts 0 (by decide) w
  rw [show madeCells #[Value.int .i64 0] 0 = #[] by simp [madeCells]] at h
  exact h
theorem frozAl (w : World) (c : Array Value) (t : TypeId) (j : Nat) : (w.alloc (.cells c t)).frozen? ⟨w.heap.size, j, none⟩ = false := by
  unfold World.frozen?
  rw [alAt rfl]
  simp
theorem cp1 (b : Nat) (w : World) (h : w.cell? ⟨b, 0, none⟩ = some (.int .i64 (-1))) : (Builtin.copy_ #[24, 24] 3 #[.slice (some ⟨w.heap.size, 0, none⟩) 2 2, .slice (some ⟨b, 0, none⟩) 1 1]).run Tryz.prog (w.alloc (.cells #[.int .i64 0, .int .i64 0] 3)) = .ok (.int .i64 1) (w.alloc (.cells #[.int .i64 (-1), .int .i64 0] 3)) := by
  have hl := World.block_lt_of_cell? w ⟨b, 0, none⟩ h
  rw [run_copy_cells (P := Tryz.prog) _ 24 24 3 3 w.heap.size 0 2 2 ⟨b, 0, none⟩ 1 1 [.int .i64 (-1)] Tryz.underlying24 (by kernel_rfl) rfl (fun j v hj => by
    match j, hj with
    | 0, hj => simp at hj; subst hj; exact (cellE (alOld hl)).trans h
    | n + 1, hj => simp at hj) (fun j hj => by have e : j = 0 := (by simp at hj; omega); subst e; rw [Lib.cell_of_heap (alAt rfl)]; rfl) (fun j hj => frozAl _ _ _ _) (by intro v hv; simp at hv; subst hv; rfl)]
  simp only [World.setCells]
  go_simp
theorem cp2 (w : World) : (Builtin.copy_ #[24, 24] 3 #[.slice (some ⟨w.heap.size, 1, none⟩) 1 1, .slice (some ⟨w.heap.size, 0, none⟩) 1 2]).run Tryz.prog (w.alloc (.cells #[.int .i64 (-1), .int .i64 0] 3)).drew = .ok (.int .i64 1) (w.alloc (.cells #[.int .i64 (-1), .int .i64 (-1)] 3)).drew := by
  rw [run_copy_cells (P := Tryz.prog) (w.alloc (.cells #[.int .i64 (-1), .int .i64 0] 3)).drew 24 24 3 3 w.heap.size 1 1 1 ⟨w.heap.size, 0, none⟩ 1 2 [.int .i64 (-1)] Tryz.underlying24 (by kernel_rfl) rfl (fun j v hj => by
    match j, hj with
    | 0, hj => simp at hj; subst hj; show (w.alloc _).cell? ⟨w.heap.size, 0, none⟩ = _; rw [Lib.cell_of_heap (alAt rfl)]; rfl
    | n + 1, hj => simp at hj) (fun j hj => by have e : j = 0 := (by simp at hj; omega); subst e; show ((w.alloc _).cell? ⟨w.heap.size, 1, none⟩).isSome = _; rw [Lib.cell_of_heap (alAt rfl)]; rfl) (fun j hj => frozAl _ _ _ _) (by intro v hv; simp at hv; subst hv; rfl)]
  simp only [World.setCells]
  go_simp
set_option maxHeartbeats 1000000 in
theorem repeat2_c (b : Nat) (w : World) (h : w.cell? ⟨b, 0, none⟩ = some (.int .i64 (-1))) : Calls Tryz.prog 37 #[.slice (some ⟨b, 0, none⟩) 1 1, .int .i64 2] w fun e w' => e = .returned (.slice (some ⟨w.heap.size, 0, none⟩) 2 2) ∧ w'.heap[w.heap.size]? = some (.cells #[.int .i64 (-1), .int .i64 (-1)] 3 (0, 0)) ∧ Below w.heap.size w w' := by
  have hl := World.block_lt_of_cell? w ⟨b, 0, none⟩ h
  have hmk := mk2
  have hc1 := cp1 b w h
  have hc2 := cp2 w
  go_enter Tryz.func37, Tryz.ntmps37
  go_wp2_with (first
    | (go_at_call 66; refine (mul_c _).mono ?_; rintro e w1 ⟨rfl, hw⟩; rw [hw]; clear hw))
  go_loopw [8] (fun s8 W => ∃ (k : Int), (k = 1 ∨ k = 2) ∧ s8 = .int .i64 k ∧ Hid (k = 1 → W = w.alloc (.cells #[.int .i64 (-1), .int .i64 0] 3)) ∧ Hid (k = 2 → W = (w.alloc (.cells #[.int .i64 (-1), .int .i64 (-1)] 3)).drew)) (fun s8 W => 2 - (intOf s8).toNat)
  case atStart => exact ⟨1, Or.inl rfl, rfl, fun _ => rfl, fun h => absurd h (by decide)⟩
  case round =>
    obtain ⟨k, hk, rfl, H1, H2⟩ := hrel
    rcases hk with rfl | rfl
    · rw [H1.out rfl]
      clear H1 H2
      go_wp2_with fail
      go_region
      go_wp2_with fail
      go_roundw
      case rel => exact ⟨2, Or.inr rfl, rfl, fun h => absurd h (by decide), fun _ => by first | rfl | trivial⟩
      case measure => simp [intOf]
    · rw [H2.out rfl]
      clear H1 H2
      go_wp2_with fail
      go_ret
      exact ⟨rfl, alAt rfl, (belA (Below.refl _ _) _).drew⟩
end Go.Proofs.YtokepgnnepjiaaaGreat

/- The order of two nodes by their levels. -/
namespace Go.Proofs.YtokepgnnepjiaaaGreat
set_option maxRecDepth 100000
open Go.RowKit Lg Nl Go.Maps
set_option linter.unusedVariables false
set_option linter.unusedSimpArgs false

theorem pL_lvl (vN vT : Value) (W : World) (hN : NdsAt W vN pL) (hT : IntsAt W vT [0, 1]) :
    Calls Tryz.prog 58 #[.agg #[vN, vT, .int .i64 2]] W fun e w' => ∃ T, e = .returned (.tuple #[.slice (some ⟨T, 0, none⟩) 2 2, .int .i64 0]) ∧ Hid (W.heap.size ≤ T) ∧ T < w'.heap.size ∧ w'.cell? ⟨T, 0, none⟩ = some (.int .i64 0) ∧ w'.cell? ⟨T, 1, none⟩ = some (.int .i64 0) ∧ Below W.heap.size W w' := by
  refine (lRun_c pL [0, 1] vN vT 2 W hN hT pL_fits).mono ?_
  rintro e w' ⟨h, hb⟩
  rw [pL_may] at h
  have hok := may_ok pL_may
  rcases h with ⟨h, _⟩ | ⟨_, ⟨p, hp⟩, _⟩ | ⟨_, lv, T, hl, hT, rfl, hr⟩
  · cases h
  · exact (lev_ring hok pL_lev hp).elim
  · have e := lev_one hok hl.out pL_lev
    have c := fun i (hi : i < pL.length) => hr.out.cell hi
    have c0 := c 0 (by decide)
    have c1 := c 1 (by decide)
    rw [e 0 (by decide)] at c0
    rw [e 1 (by decide)] at c1
    exact ⟨T, rfl, hT, hr.out.lt, c0, c1, hb⟩
set_option maxHeartbeats 1000000 in
theorem lcmp_c (X T : Nat) (w : World) (hX : w.cell? ⟨X, 0, none⟩ = some (.slice (some ⟨T, 0, none⟩) 2 2)) (h0 : w.cell? ⟨T, 0, none⟩ = some (.int .i64 0)) (h1 : w.cell? ⟨T, 1, none⟩ = some (.int .i64 0)) :
    Calls Tryz.prog 68 #[.int .i64 1, .int .i64 0, .pointer (some ⟨X, 0, none⟩)] w fun e w' => e = .returned (.int .i64 0) ∧ ∃ n, w' = w.drewN n := by
  have HC : Hid (∀ W, Calls Tryz.prog 69 #[.int .i64 0, .int .i64 0] W fun e w' => e = .returned (.int .i64 0) ∧ w' = W) := fun W => Q.compare_c 0 0 W
  go_enter Tryz.func68, Tryz.ntmps68
  go_wp2_with fail
  go_quiet (first | (go_at_call 69; exact Calls.quiet_of_same (HC.out _)))
  go_wp2_with fail
  go_ret
  exact ⟨rfl, _, rfl⟩
set_option maxHeartbeats 2000000 in
theorem insert_c (L X T : Nat) (w : World) (hX : w.cell? ⟨X, 0, none⟩ = some (.slice (some ⟨T, 0, none⟩) 2 2)) (h0 : w.cell? ⟨T, 0, none⟩ = some (.int .i64 0)) (h1 : w.cell? ⟨T, 1, none⟩ = some (.int .i64 0)) (l0 : w.cell? ⟨L, 0, none⟩ = some (.int .i64 0)) (l1 : w.cell? ⟨L, 1, none⟩ = some (.int .i64 1)) :
    Calls Tryz.prog 104 #[.slice (some ⟨L, 0, none⟩) 2 2, .int .i64 0, .int .i64 2, .func (.func 68) #[] #[.pointer (some ⟨X, 0, none⟩)]] w fun e w' => e = .returned (.tuple #[]) ∧ Below w.heap.size w w' := by
  have HC : Hid (∀ n, Calls Tryz.prog 68 #[.int .i64 1, .int .i64 0, .pointer (some ⟨X, 0, none⟩)] (w.drewN n) fun e w' => e = .returned (.int .i64 0) ∧ ∃ m, w' = (w.drewN n).drewN m) := fun n => lcmp_c X T _ hX h0 h1
  clear h0 h1 hX
  go_enter Tryz.func104, Tryz.ntmps104
  go_wp2_with fail
  go_loopw [8] (fun s8 W => ∃ (k : Int), (k = 1 ∨ k = 2) ∧ s8 = .int .i64 k ∧ Hid (k = 1 → W = w) ∧ Hid (Below w.heap.size w W)) (fun s8 W => 2 - (intOf s8).toNat)
  case atStart => exact ⟨1, Or.inl rfl, rfl, fun _ => rfl, Below.refl _ _⟩
  case round =>
    obtain ⟨k, hk, rfl, H1, HB⟩ := hrel
    rcases hk with rfl | rfl
    · rw [H1.out rfl]
      clear H1 HB
      go_wp2_with fail
      go_loopw [9] (fun s9 W => s9 = .int .i64 1 ∧ Hid (W = w)) (fun s9 W => 0)
      case atStart => exact ⟨rfl, rfl⟩
      case round =>
        obtain ⟨rfl, HW⟩ := hrel
        rw [HW.out]
        go_wp2_with fail
        go_quiet (first | (go_at_call 68; exact Calls.quiet_of (HC.out _)))
        go_wp2_with fail
        go_roundw
        case rel => exact ⟨2, Or.inr rfl, rfl, fun h => absurd h (by decide), Q.belDN (Below.refl _ _) _⟩
        case measure => simp [intOf]
    · go_wp2_with fail
      go_end0
      exact ⟨rfl, HB.out⟩
end Go.Proofs.YtokepgnnepjiaaaGreat

/- The order of two nodes by their levels: the library's stable sort; byLevels. -/
namespace Go.Proofs.YtokepgnnepjiaaaGreat
set_option maxRecDepth 100000
open Go.RowKit Lg Nl Go.Maps
set_option linter.unusedVariables false
set_option linter.unusedSimpArgs false

set_option maxHeartbeats 2000000 in
theorem stable_c (L X T : Nat) (w : World) (hX : w.cell? ⟨X, 0, none⟩ = some (.slice (some ⟨T, 0, none⟩) 2 2)) (h0 : w.cell? ⟨T, 0, none⟩ = some (.int .i64 0)) (h1 : w.cell? ⟨T, 1, none⟩ = some (.int .i64 0)) (l0 : w.cell? ⟨L, 0, none⟩ = some (.int .i64 0)) (l1 : w.cell? ⟨L, 1, none⟩ = some (.int .i64 1)) :
    Calls Tryz.prog 92 #[.slice (some ⟨L, 0, none⟩) 2 2, .int .i64 2, .func (.func 68) #[] #[.pointer (some ⟨X, 0, none⟩)]] w fun e w' => e = .returned (.tuple #[]) ∧ Below w.heap.size w w' := by
  have HC : Hid (Calls Tryz.prog 104 #[.slice (some ⟨L, 0, none⟩) 2 2, .int .i64 0, .int .i64 2, .func (.func 68) #[] #[.pointer (some ⟨X, 0, none⟩)]] w fun e w' => e = .returned (.tuple #[]) ∧ Below w.heap.size w w') := insert_c L X T w hX h0 h1 l0 l1
  clear h0 h1 hX l0 l1
  go_enter Tryz.func92, Tryz.ntmps92
  go_wp2_with fail
  go_loopw [7, 8] (fun s7 s8 W => s7 = .int .i64 0 ∧ s8 = .int .i64 20 ∧ Hid (W = w)) (fun s7 s8 W => 0)
  case atStart => exact ⟨rfl, rfl, rfl⟩
  case round =>
    obtain ⟨rfl, rfl, HW⟩ := hrel
    rw [HW.out]
    go_wp2_with (first
      | (go_at_call 104; refine HC.out.mono ?_; rintro e w1 ⟨rfl, hb1⟩))
    go_loopw [6, 7, 8] (fun s6 s7 s8 W => s6 = .int .i64 20 ∧ Hid (W = w1)) (fun s6 s7 s8 W => 0)
    case atStart => exact ⟨rfl, rfl⟩
    case round =>
      obtain ⟨rfl, HW⟩ := hrel
      rw [HW.out]
      go_wp2_with fail
      go_end0
      exact ⟨rfl, hb1⟩
set_option maxHeartbeats 2000000 in
theorem sort_c' (L X T : Nat) (w : World) (hX : w.cell? ⟨X, 0, none⟩ = some (.slice (some ⟨T, 0, none⟩) 2 2)) (h0 : w.cell? ⟨T, 0, none⟩ = some (.int .i64 0)) (h1 : w.cell? ⟨T, 1, none⟩ = some (.int .i64 0)) (l0 : w.cell? ⟨L, 0, none⟩ = some (.int .i64 0)) (l1 : w.cell? ⟨L, 1, none⟩ = some (.int .i64 1)) :
    Calls Tryz.prog 67 #[.slice (some ⟨L, 0, none⟩) 2 2, .func (.func 68) #[] #[.pointer (some ⟨X, 0, none⟩)]] w fun e w' => e = .returned (.tuple #[]) ∧ Below w.heap.size w w' := by
  have HC : Hid (Calls Tryz.prog 92 #[.slice (some ⟨L, 0, none⟩) 2 2, .int .i64 2, .func (.func 68) #[] #[.pointer (some ⟨X, 0, none⟩)]] w fun e w' => e = .returned (.tuple #[]) ∧ Below w.heap.size w w') := stable_c L X T w hX h0 h1 l0 l1
  clear h0 h1 hX l0 l1
  go_enter Tryz.func67, Tryz.ntmps67
  go_wp2_with (first
    | (go_at_call 92; refine HC.out.mono ?_; rintro e w1 ⟨rfl, hb1⟩))
  go_end0
  exact ⟨rfl, hb1⟩
set_option maxHeartbeats 2000000 in
theorem byLevels_c (na ta : Option Addr) (nc tc : Nat) (w : World) (hN : NdsAt w (.slice na 2 nc) pL) (hT : IntsAt w (.slice ta 2 tc) [0, 1]) :
    Calls Tryz.prog 38 #[.agg #[.slice na 2 nc, .slice ta 2 tc, .int .i64 2]] w fun e w' => ∃ L, e = .returned (.slice (some ⟨L, 0, none⟩) 2 2) ∧ Hid (w.heap.size ≤ L) ∧ w'.cell? ⟨L, 0, none⟩ = some (.int .i64 0) ∧ w'.cell? ⟨L, 1, none⟩ = some (.int .i64 1) ∧ Below w.heap.size w w' := by
  have HB : Hid (Below w.heap.size w (w.alloc (.cells #[.slice na 2 nc, .slice ta 2 tc, .int .i64 2] 26))) := belA (Below.refl _ _) _
  have HL : Hid (Calls Tryz.prog 58 #[.agg #[.slice na 2 nc, .slice ta 2 tc, .int .i64 2]] (w.alloc (.cells #[.slice na 2 nc, .slice ta 2 tc, .int .i64 2] 26)) fun e w' => ∃ T, e = .returned (.tuple #[.slice (some ⟨T, 0, none⟩) 2 2, .int .i64 0]) ∧ Hid ((w.alloc (.cells #[.slice na 2 nc, .slice ta 2 tc, .int .i64 2] 26)).heap.size ≤ T) ∧ T < w'.heap.size ∧ w'.cell? ⟨T, 0, none⟩ = some (.int .i64 0) ∧ w'.cell? ⟨T, 1, none⟩ = some (.int .i64 0) ∧ Below (w.alloc (.cells #[.slice na 2 nc, .slice ta 2 tc, .int .i64 2] 26)).heap.size (w.alloc (.cells #[.slice na 2 nc, .slice ta 2 tc, .int .i64 2] 26)) w') := pL_lvl _ _ _ (hN.below HB.out) (hT.below HB.out)
  clear hN hT
  have hmk := mk2
  go_enter Tryz.func38, Tryz.ntmps38
  go_wp2_with (first
    | (go_at_call 58; refine HL.out.mono ?_; rintro e w2 ⟨T, rfl, HT, hTl, t0, t1, hb2⟩; have HB2 : Hid (Below w.heap.size w w2) := bel HB.out hb2; clear hb2))
  go_loopw [17] (fun s17 W => ∃ (k z : Int), (k = 0 ∧ z = 0 ∨ k = 1 ∧ z = 0 ∨ k = 2 ∧ z = 1) ∧ s17 = .int .i64 k ∧ Hid (W = (w2.alloc (.cells #[.slice (some ⟨T, 0, none⟩) 2 2] 24)).alloc (.cells #[.int .i64 0, .int .i64 z] 3))) (fun s17 W => 2 - (intOf s17).toNat)
  case atStart => exact ⟨0, 0, Or.inl ⟨rfl, rfl⟩, rfl, rfl⟩
  case round =>
    obtain ⟨k, z, hk, rfl, HW⟩ := hrel
    rcases hk with ⟨rfl, rfl⟩ | ⟨rfl, rfl⟩ | ⟨rfl, rfl⟩
    · rw [HW.out]
      clear HW
      go_wp2_with fail
      go_roundw
      case rel => exact ⟨1, 0, Or.inr (Or.inl ⟨rfl, rfl⟩), rfl, by first | exact rfl | exact True.intro⟩
      case measure => simp [intOf]
    · rw [HW.out]
      clear HW
      go_wp2_with fail
      go_roundw
      case rel => exact ⟨2, 1, Or.inr (Or.inr ⟨rfl, rfl⟩), rfl, by first | exact rfl | exact True.intro⟩
      case measure => simp [intOf]
    · rw [HW.out]
      clear HW
      have HS : Hid (Calls Tryz.prog 67 #[.slice (some ⟨w2.heap.size + 1, 0, none⟩) 2 2, .func (.func 68) #[] #[.pointer (some ⟨w2.heap.size, 0, none⟩)]] ((w2.alloc (.cells #[.slice (some ⟨T, 0, none⟩) 2 2] 24)).alloc (.cells #[.int .i64 0, .int .i64 1] 3)) fun e w' => e = .returned (.tuple #[]) ∧ Below ((w2.alloc (.cells #[.slice (some ⟨T, 0, none⟩) 2 2] 24)).alloc (.cells #[.int .i64 0, .int .i64 1] 3)).heap.size ((w2.alloc (.cells #[.slice (some ⟨T, 0, none⟩) 2 2] 24)).alloc (.cells #[.int .i64 0, .int .i64 1] 3)) w') := by
        have hb : Below w2.heap.size w2 ((w2.alloc (.cells #[.slice (some ⟨T, 0, none⟩) 2 2] 24)).alloc (.cells #[.int .i64 0, .int .i64 1] 3)) := belA (belA (Below.refl _ _) _) _
        refine sort_c' _ _ T _ ?_ ((hb.cell (p := ⟨T, 0, none⟩) hTl).trans t0) ((hb.cell (p := ⟨T, 1, none⟩) hTl).trans t1) ?_ ?_
        · rw [cellE (alOld (by simp)), Lib.cell_of_heap (alAt rfl)]; rfl
        · rw [Lib.cell_of_heap (alAt (by simp))]; rfl
        · rw [Lib.cell_of_heap (alAt (by simp))]; rfl
      go_wp2_with (first
        | (go_at_call 67; refine HS.out.mono ?_; rintro e w3 ⟨rfl, hb3⟩))
      have q0 : w3.cell? ⟨w2.heap.size + 1, 0, none⟩ = some (.int .i64 0) := by rw [hb3.cell (p := ⟨w2.heap.size + 1, 0, none⟩) (by simp), Lib.cell_of_heap (alAt (by simp))]; rfl
      have q1 : w3.cell? ⟨w2.heap.size + 1, 1, none⟩ = some (.int .i64 1) := by rw [hb3.cell (p := ⟨w2.heap.size + 1, 1, none⟩) (by simp), Lib.cell_of_heap (alAt (by simp))]; rfl
      go_ret
      exact ⟨_, rfl, by show w.heap.size ≤ _; have := HB2.out.size; omega, q0, q1, bel (belA (belA HB2.out _) _) hb3⟩
end Go.Proofs.YtokepgnnepjiaaaGreat

/- The statements' netlist of an input and a delay, in two parts, in memory. -/
namespace Go.Proofs.YtokepgnnepjiaaaGreat
set_option maxRecDepth 100000
open Go.RowKit Lg Nl Go.Maps
set_option linter.unusedVariables false
set_option linter.unusedSimpArgs false

structure Tw (NN I NT O M A B : Nat) (W : World) : Prop where
  n00 : W.cell? ⟨NN, 0, none⟩ = some (.int .i64 2)
  n01 : W.cell? ⟨NN, 1, none⟩ = some (.int .i64 0)
  n02 : W.cell? ⟨NN, 2, none⟩ = some (.int .i64 1)
  n03 : W.cell? ⟨NN, 3, none⟩ = some (.slice none 0 0)
  n04 : W.cell? ⟨NN, 4, none⟩ = some (.string ⟨#[]⟩)
  n05 : W.cell? ⟨NN, 5, none⟩ = some (.int .i64 0)
  n06 : W.cell? ⟨NN, 6, none⟩ = some (.int .i64 0)
  n07 : W.cell? ⟨NN, 7, none⟩ = some (.int .i64 0)
  n10 : W.cell? ⟨NN, 8, none⟩ = some (.int .i64 8)
  n11 : W.cell? ⟨NN, 9, none⟩ = some (.int .i64 0)
  n12 : W.cell? ⟨NN, 10, none⟩ = some (.int .i64 1)
  n13 : W.cell? ⟨NN, 11, none⟩ = some (.slice (some ⟨I, 0, none⟩) 1 1)
  n14 : W.cell? ⟨NN, 12, none⟩ = some (.string ⟨#[]⟩)
  n15 : W.cell? ⟨NN, 13, none⟩ = some (.int .i64 0)
  n16 : W.cell? ⟨NN, 14, none⟩ = some (.int .i64 0)
  n17 : W.cell? ⟨NN, 15, none⟩ = some (.int .i64 2)
  i0 : W.cell? ⟨I, 0, none⟩ = some (.int .i64 0)
  t0 : W.cell? ⟨NT, 0, none⟩ = some (.int .i64 0)
  t1 : W.cell? ⟨NT, 1, none⟩ = some (.int .i64 1)
  o0 : W.cell? ⟨O, 0, none⟩ = some (.int .i64 0)
  o1 : W.cell? ⟨O, 1, none⟩ = some (.int .i64 1)
  m0 : W.cell? ⟨M, 0, none⟩ = some (.slice (some ⟨A, 0, none⟩) 2 2)
  m1 : W.cell? ⟨M, 1, none⟩ = some (.slice (some ⟨B, 0, none⟩) 2 2)
  a0 : W.cell? ⟨A, 0, none⟩ = some (.int .i64 0)
  a1 : W.cell? ⟨A, 1, none⟩ = some (.int .i64 2)
  b0 : W.cell? ⟨B, 0, none⟩ = some (.int .i64 0)
  b1 : W.cell? ⟨B, 1, none⟩ = some (.int .i64 0)
theorem Tw.below {NN I NT O M A B : Nat} {W W' : World} (x : Tw NN I NT O M A B W) (hb : Below W.heap.size W W') : Tw NN I NT O M A B W' :=
  have k : ∀ b i u, W.cell? ⟨b, i, none⟩ = some u → W'.cell? ⟨b, i, none⟩ = some u := fun b i u hu => (hb.cell (p := ⟨b, i, none⟩) (World.block_lt_of_cell? W ⟨b, i, none⟩ hu)).trans hu
  ⟨k _ _ _ x.n00, k _ _ _ x.n01, k _ _ _ x.n02, k _ _ _ x.n03, k _ _ _ x.n04, k _ _ _ x.n05, k _ _ _ x.n06, k _ _ _ x.n07, k _ _ _ x.n10, k _ _ _ x.n11, k _ _ _ x.n12, k _ _ _ x.n13, k _ _ _ x.n14, k _ _ _ x.n15, k _ _ _ x.n16, k _ _ _ x.n17, k _ _ _ x.i0, k _ _ _ x.t0, k _ _ _ x.t1, k _ _ _ x.o0, k _ _ _ x.o1, k _ _ _ x.m0, k _ _ _ x.m1, k _ _ _ x.a0, k _ _ _ x.a1, k _ _ _ x.b0, k _ _ _ x.b1⟩
theorem Tw.mv {NN I NT O M A B L : Nat} {W W' : World} (x : Tw NN I NT O M A B W) (hl : NN < L ∧ I < L ∧ NT < L ∧ O < L ∧ M < L ∧ A < L ∧ B < L) (hb : ∀ k, k < L → W'.heap[k]? = W.heap[k]?) : Tw NN I NT O M A B W' :=
  have k : ∀ b i u, b < L → W.cell? ⟨b, i, none⟩ = some u → W'.cell? ⟨b, i, none⟩ = some u := fun b i u hl hu => (cellE (hb b hl)).trans hu
  ⟨k _ _ _ (by omega) x.n00, k _ _ _ (by omega) x.n01, k _ _ _ (by omega) x.n02, k _ _ _ (by omega) x.n03, k _ _ _ (by omega) x.n04, k _ _ _ (by omega) x.n05, k _ _ _ (by omega) x.n06, k _ _ _ (by omega) x.n07, k _ _ _ (by omega) x.n10, k _ _ _ (by omega) x.n11, k _ _ _ (by omega) x.n12, k _ _ _ (by omega) x.n13, k _ _ _ (by omega) x.n14, k _ _ _ (by omega) x.n15, k _ _ _ (by omega) x.n16, k _ _ _ (by omega) x.n17, k _ _ _ (by omega) x.i0, k _ _ _ (by omega) x.t0, k _ _ _ (by omega) x.t1, k _ _ _ (by omega) x.o0, k _ _ _ (by omega) x.o1, k _ _ _ (by omega) x.m0, k _ _ _ (by omega) x.m1, k _ _ _ (by omega) x.a0, k _ _ _ (by omega) x.a1, k _ _ _ (by omega) x.b0, k _ _ _ (by omega) x.b1⟩
theorem ints2 {W : World} {g : Nat} {a b : Int} (h0 : W.cell? ⟨g, 0, none⟩ = some (.int .i64 a)) (h1 : W.cell? ⟨g, 1, none⟩ = some (.int .i64 b)) : IntsAt W (.slice (some ⟨g, 0, none⟩) 2 2) [a, b] := by
  refine ⟨_, 2, rfl, Nat.le_refl _, Or.inr ⟨g, 0, rfl, World.block_lt_of_cell? W ⟨g, 0, none⟩ h0, fun i hi => ?_⟩⟩
  match i, hi with
  | 0, _ => exact h0
  | 1, _ => exact h1
  | n + 2, hi => simp at hi; omega
theorem Tw.nets {NN I NT O M A B : Nat} {W : World} (x : Tw NN I NT O M A B W) : IntsAt W (.slice (some ⟨NT, 0, none⟩) 2 2) [0, 1] := ints2 x.t0 x.t1
theorem Tw.of {NN I NT O M A B : Nat} {W : World} (x : Tw NN I NT O M A B W) : IntsAt W (.slice (some ⟨O, 0, none⟩) 2 2) [0, 1] := ints2 x.o0 x.o1
theorem Tw.nds {NN I NT O M A B : Nat} {W : World} (x : Tw NN I NT O M A B W) : NdsAt W (.slice (some ⟨NN, 0, none⟩) 2 2) pL := by
  refine ⟨_, 2, rfl, Nat.le_refl _, Or.inr ⟨NN, 0, rfl, World.block_lt_of_cell? W ⟨NN, 0, none⟩ x.n00, fun i hi => ?_⟩⟩
  match i, hi with
  | 0, _ =>
    refine ⟨.slice none 0 0, ints_nil _, fun j u hu => ?_⟩
    match j, hu with
    | 0, hu => cases hu; exact x.n00
    | 1, hu => cases hu; exact x.n01
    | 2, hu => cases hu; exact x.n02
    | 3, hu => cases hu; exact x.n03
    | 4, hu => cases hu; exact x.n04
    | 5, hu => cases hu; exact x.n05
    | 6, hu => cases hu; exact x.n06
    | 7, hu => cases hu; exact x.n07
    | n + 8, hu => simp [ndC] at hu
  | 1, _ =>
    refine ⟨.slice (some ⟨I, 0, none⟩) 1 1, (ints_one (World.block_lt_of_cell? W ⟨I, 0, none⟩ x.i0) x.i0).ints, fun j u hu => ?_⟩
    match j, hu with
    | 0, hu => cases hu; exact x.n10
    | 1, hu => cases hu; exact x.n11
    | 2, hu => cases hu; exact x.n12
    | 3, hu => cases hu; exact x.n13
    | 4, hu => cases hu; exact x.n14
    | 5, hu => cases hu; exact x.n15
    | 6, hu => cases hu; exact x.n16
    | 7, hu => cases hu; exact x.n17
    | n + 8, hu => simp [ndC] at hu
  | n + 2, hi => simp [pL] at hi; omega
theorem Tw.rows {NN I NT O M A B : Nat} {W : World} (x : Tw NN I NT O M A B W) : RowsAt W (.slice (some ⟨M, 0, none⟩) 2 2) [[0, 2], [0, 0]] := by
  refine ⟨_, 2, rfl, Nat.le_refl _, Or.inr ⟨M, 0, rfl, World.block_lt_of_cell? W ⟨M, 0, none⟩ x.m0, fun i hi => ?_⟩⟩
  match i, hi with
  | 0, _ => exact ⟨_, ints2 x.a0 x.a1, x.m0⟩
  | 1, _ => exact ⟨_, ints2 x.b0 x.b1, x.m1⟩
  | n + 2, hi => simp at hi; omega
set_option maxHeartbeats 4000000 in
theorem two_c (w : World) : Calls Tryz.prog 5 #[] w fun e w' => ∃ NN I NT O M A B, e = .returned (.tuple #[.agg #[.slice (some ⟨NN, 0, none⟩) 2 2, .slice (some ⟨NT, 0, none⟩) 2 2, .int .i64 2], .agg #[.slice (some ⟨O, 0, none⟩) 2 2, .int .i64 2, .slice (some ⟨M, 0, none⟩) 2 2]]) ∧ Hid (Tw NN I NT O M A B w') ∧ Below w.heap.size w w' := by
  go_enter Tryz.func5, Tryz.ntmps5
  go_wp2_with fail
  refine bodyPost_ret (v := .tuple #[.agg #[.slice (some ⟨w.heap.size + 1 + 1 + 1, 0, none⟩) 2 2, .slice (some ⟨w.heap.size + 1 + 1 + 1 + 1, 0, none⟩) 2 2, .int .i64 2], .agg #[.slice (some ⟨w.heap.size + 1 + 1 + 1 + 1 + 1 + 1, 0, none⟩) 2 2, .int .i64 2, .slice (some ⟨w.heap.size + 1 + 1 + 1 + 1 + 1 + 1 + 1 + 1 + 1, 0, none⟩) 2 2]]) (by simp [results, Tryz.results5, go_sem]) rfl ?_
  refine ⟨w.heap.size + 1 + 1 + 1, w.heap.size + 1 + 1, w.heap.size + 1 + 1 + 1 + 1, w.heap.size + 1 + 1 + 1 + 1 + 1 + 1, w.heap.size + 1 + 1 + 1 + 1 + 1 + 1 + 1 + 1 + 1, w.heap.size + 1 + 1 + 1 + 1 + 1 + 1 + 1, w.heap.size + 1 + 1 + 1 + 1 + 1 + 1 + 1 + 1, rfl, ?_, belA (belA (belA (belA (belA (belA (belA (belA (belA (belA (Below.refl _ _) _) _) _) _) _) _) _) _) _) _⟩
  constructor <;> go_simp
end Go.Proofs.YtokepgnnepjiaaaGreat
