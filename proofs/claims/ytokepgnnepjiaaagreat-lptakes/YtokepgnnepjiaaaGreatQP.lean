/- What process 1 refuses. -/
import Derived.Test.YtokepgnnepjiaaaGreatGQb
namespace Go.Proofs.YtokepgnnepjiaaaGreat
set_option maxRecDepth 100000
open Go.RowKit Lg Nl Go.Maps
set_option linter.unusedVariables false
set_option linter.unusedSimpArgs false

set_option maxHeartbeats 4000000 in
theorem awaits_a1 (F bN cN bE cE bP bT cT bI : Nat) (h : Int) (ia : Option Addr) (ic : Nat) (t sq : Int) (nd : Int) (fr : Int) (v : ByteArray) (an : Bool) (w : World) (hF : Fc1 h F bN cN bE cE bP bT cT bI ia ic w) (hn : nd < 0) :
    Calls Tryz.prog 24 #[.pointer (some ⟨F, 0, none⟩), .agg #[.int .i64 t, .int .i64 nd, .string v, .int .i64 fr, .int .i64 sq, .bool an]] w fun e w' => e = .returned (.bool false) ∧ Below w.heap.size w w' := by
  obtain ⟨W, hW⟩ : ∃ W, W = w.alloc (.cells #[.int .i64 t, .int .i64 nd, .string v, .int .i64 fr, .int .i64 sq, .bool an] 39) := ⟨_, rfl⟩
  have HB : Hid (Below w.heap.size w W) := by rw [hW]; exact belA (Below.refl _ _) _
  have hx : W.heap[w.heap.size]? = some (.cells #[.int .i64 t, .int .i64 nd, .string v, .int .i64 fr, .int .i64 sq, .bool an] 39 (0, 0)) := by rw [hW]; exact alAt rfl
  obtain ⟨⟨x0, x1, x2, x3, x4, x5⟩, _⟩ := Q.cell6 hx
  have lx := hLt hx
  have hf := hF.below HB.out
  have f0 := hf.f0
  have f2 := hf.f2
  have f3 := hf.f3
  have f4 := hf.f4
  have n2 := hf.n2
  have e0 := hf.e0
  have p0 := hf.p0
  have p1 := hf.p1
  have lF := World.block_lt_of_cell? W ⟨F, 0, none⟩ f0
  have lN := World.block_lt_of_cell? W ⟨bN, 2, none⟩ n2
  have lE := World.block_lt_of_cell? W ⟨bE, 0, none⟩ e0
  have lP := World.block_lt_of_cell? W ⟨bP, 0, none⟩ p0
  have d1 : decide (nd < 0) = true := decide_eq_true hn
  clear hF hf hx
  go_enter Tryz.func24, Tryz.ntmps24
  go_wp2_with fail
  rw [← hW]
  clear hW
  go_quiet (fail)
  go_wp2_with fail
  go_ret
  exact ⟨rfl, by first | exact HB.out | exact Q.belDN HB.out _ | exact (Q.belDN HB.out _).drew | exact Q.belDN (Q.belDN HB.out _) _ | exact Q.belDN (Q.belDN (Q.belDN HB.out _) _) _⟩
set_option maxHeartbeats 4000000 in
theorem awaits_a2 (F bN cN bE cE bP bT cT bI : Nat) (h : Int) (ia : Option Addr) (ic : Nat) (t sq : Int) (nd : Int) (fr : Int) (v : ByteArray) (an : Bool) (w : World) (hF : Fc1 h F bN cN bE cE bP bT cT bI ia ic w) (hn : 2 ≤ nd) :
    Calls Tryz.prog 24 #[.pointer (some ⟨F, 0, none⟩), .agg #[.int .i64 t, .int .i64 nd, .string v, .int .i64 fr, .int .i64 sq, .bool an]] w fun e w' => e = .returned (.bool false) ∧ Below w.heap.size w w' := by
  obtain ⟨W, hW⟩ : ∃ W, W = w.alloc (.cells #[.int .i64 t, .int .i64 nd, .string v, .int .i64 fr, .int .i64 sq, .bool an] 39) := ⟨_, rfl⟩
  have HB : Hid (Below w.heap.size w W) := by rw [hW]; exact belA (Below.refl _ _) _
  have hx : W.heap[w.heap.size]? = some (.cells #[.int .i64 t, .int .i64 nd, .string v, .int .i64 fr, .int .i64 sq, .bool an] 39 (0, 0)) := by rw [hW]; exact alAt rfl
  obtain ⟨⟨x0, x1, x2, x3, x4, x5⟩, _⟩ := Q.cell6 hx
  have lx := hLt hx
  have hf := hF.below HB.out
  have f0 := hf.f0
  have f2 := hf.f2
  have f3 := hf.f3
  have f4 := hf.f4
  have n2 := hf.n2
  have e0 := hf.e0
  have p0 := hf.p0
  have p1 := hf.p1
  have lF := World.block_lt_of_cell? W ⟨F, 0, none⟩ f0
  have lN := World.block_lt_of_cell? W ⟨bN, 2, none⟩ n2
  have lE := World.block_lt_of_cell? W ⟨bE, 0, none⟩ e0
  have lP := World.block_lt_of_cell? W ⟨bP, 0, none⟩ p0
  have d1 : decide (nd < 0) = false := decide_eq_false (by omega)
  have d2 : decide (2 ≤ nd) = true := decide_eq_true hn
  clear hF hf hx
  go_enter Tryz.func24, Tryz.ntmps24
  go_wp2_with fail
  rw [← hW]
  clear hW
  go_quiet (fail)
  go_wp2_with fail
  go_ret
  exact ⟨rfl, by first | exact HB.out | exact Q.belDN HB.out _ | exact (Q.belDN HB.out _).drew | exact Q.belDN (Q.belDN HB.out _) _ | exact Q.belDN (Q.belDN (Q.belDN HB.out _) _) _⟩
set_option maxHeartbeats 4000000 in
theorem awaits_a3 (F bN cN bE cE bP bT cT bI : Nat) (h : Int) (ia : Option Addr) (ic : Nat) (t sq : Int) (v : ByteArray) (an : Bool) (w : World) (hF : Fc1 h F bN cN bE cE bP bT cT bI ia ic w)  :
    Calls Tryz.prog 24 #[.pointer (some ⟨F, 0, none⟩), .agg #[.int .i64 t, .int .i64 0, .string v, .int .i64 1, .int .i64 sq, .bool an]] w fun e w' => e = .returned (.bool false) ∧ Below w.heap.size w w' := by
  obtain ⟨W, hW⟩ : ∃ W, W = w.alloc (.cells #[.int .i64 t, .int .i64 0, .string v, .int .i64 1, .int .i64 sq, .bool an] 39) := ⟨_, rfl⟩
  have HB : Hid (Below w.heap.size w W) := by rw [hW]; exact belA (Below.refl _ _) _
  have hx : W.heap[w.heap.size]? = some (.cells #[.int .i64 t, .int .i64 0, .string v, .int .i64 1, .int .i64 sq, .bool an] 39 (0, 0)) := by rw [hW]; exact alAt rfl
  obtain ⟨⟨x0, x1, x2, x3, x4, x5⟩, _⟩ := Q.cell6 hx
  have lx := hLt hx
  have hf := hF.below HB.out
  have f0 := hf.f0
  have f2 := hf.f2
  have f3 := hf.f3
  have f4 := hf.f4
  have n2 := hf.n2
  have e0 := hf.e0
  have p0 := hf.p0
  have p1 := hf.p1
  have lF := World.block_lt_of_cell? W ⟨F, 0, none⟩ f0
  have lN := World.block_lt_of_cell? W ⟨bN, 2, none⟩ n2
  have lE := World.block_lt_of_cell? W ⟨bE, 0, none⟩ e0
  have lP := World.block_lt_of_cell? W ⟨bP, 0, none⟩ p0
  clear hF hf hx
  go_enter Tryz.func24, Tryz.ntmps24
  go_wp2_with fail
  rw [← hW]
  clear hW
  go_quiet (fail)
  go_wp2_with fail
  go_ret
  exact ⟨rfl, by first | exact HB.out | exact Q.belDN HB.out _ | exact (Q.belDN HB.out _).drew | exact Q.belDN (Q.belDN HB.out _) _ | exact Q.belDN (Q.belDN (Q.belDN HB.out _) _) _⟩
set_option maxHeartbeats 4000000 in
theorem awaits_a4 (F bN cN bE cE bP bT cT bI : Nat) (h : Int) (ia : Option Addr) (ic : Nat) (t sq : Int) (v : ByteArray) (an : Bool) (w : World) (hF : Fc1 h F bN cN bE cE bP bT cT bI ia ic w)  :
    Calls Tryz.prog 24 #[.pointer (some ⟨F, 0, none⟩), .agg #[.int .i64 t, .int .i64 1, .string v, .int .i64 1, .int .i64 sq, .bool an]] w fun e w' => e = .returned (.bool false) ∧ Below w.heap.size w w' := by
  obtain ⟨W, hW⟩ : ∃ W, W = w.alloc (.cells #[.int .i64 t, .int .i64 1, .string v, .int .i64 1, .int .i64 sq, .bool an] 39) := ⟨_, rfl⟩
  have HB : Hid (Below w.heap.size w W) := by rw [hW]; exact belA (Below.refl _ _) _
  have hx : W.heap[w.heap.size]? = some (.cells #[.int .i64 t, .int .i64 1, .string v, .int .i64 1, .int .i64 sq, .bool an] 39 (0, 0)) := by rw [hW]; exact alAt rfl
  obtain ⟨⟨x0, x1, x2, x3, x4, x5⟩, _⟩ := Q.cell6 hx
  have lx := hLt hx
  have hf := hF.below HB.out
  have f0 := hf.f0
  have f2 := hf.f2
  have f3 := hf.f3
  have f4 := hf.f4
  have n2 := hf.n2
  have e0 := hf.e0
  have p0 := hf.p0
  have p1 := hf.p1
  have lF := World.block_lt_of_cell? W ⟨F, 0, none⟩ f0
  have lN := World.block_lt_of_cell? W ⟨bN, 2, none⟩ n2
  have lE := World.block_lt_of_cell? W ⟨bE, 0, none⟩ e0
  have lP := World.block_lt_of_cell? W ⟨bP, 0, none⟩ p0
  clear hF hf hx
  go_enter Tryz.func24, Tryz.ntmps24
  go_wp2_with fail
  rw [← hW]
  clear hW
  go_quiet (fail)
  go_wp2_with fail
  go_ret
  exact ⟨rfl, by first | exact HB.out | exact Q.belDN HB.out _ | exact (Q.belDN HB.out _).drew | exact Q.belDN (Q.belDN HB.out _) _ | exact Q.belDN (Q.belDN (Q.belDN HB.out _) _) _⟩
set_option maxHeartbeats 4000000 in
theorem awaits_b (F bN cN bE cE bP bT cT bI : Nat) (h : Int) (ia : Option Addr) (ic : Nat) (t sq : Int) (fr : Int) (v : ByteArray) (an : Bool) (w : World) (hF : Fc1 h F bN cN bE cE bP bT cT bI ia ic w) (hf1 : fr ≠ 1) :
    Calls Tryz.prog 24 #[.pointer (some ⟨F, 0, none⟩), .agg #[.int .i64 t, .int .i64 0, .string v, .int .i64 fr, .int .i64 sq, .bool an]] w fun e w' => e = .returned (.bool false) ∧ Below w.heap.size w w' := by
  obtain ⟨W, hW⟩ : ∃ W, W = w.alloc (.cells #[.int .i64 t, .int .i64 0, .string v, .int .i64 fr, .int .i64 sq, .bool an] 39) := ⟨_, rfl⟩
  have HB : Hid (Below w.heap.size w W) := by rw [hW]; exact belA (Below.refl _ _) _
  have hx : W.heap[w.heap.size]? = some (.cells #[.int .i64 t, .int .i64 0, .string v, .int .i64 fr, .int .i64 sq, .bool an] 39 (0, 0)) := by rw [hW]; exact alAt rfl
  obtain ⟨⟨x0, x1, x2, x3, x4, x5⟩, _⟩ := Q.cell6 hx
  have lx := hLt hx
  have hf := hF.below HB.out
  have f0 := hf.f0
  have f2 := hf.f2
  have f3 := hf.f3
  have f4 := hf.f4
  have n2 := hf.n2
  have e0 := hf.e0
  have p0 := hf.p0
  have p1 := hf.p1
  have lF := World.block_lt_of_cell? W ⟨F, 0, none⟩ f0
  have lN := World.block_lt_of_cell? W ⟨bN, 2, none⟩ n2
  have lE := World.block_lt_of_cell? W ⟨bE, 0, none⟩ e0
  have lP := World.block_lt_of_cell? W ⟨bP, 0, none⟩ p0
  have d1 : (fr == 1) = false := by rw [beq_eq_false_iff_ne]; exact hf1
  clear hF hf hx
  go_enter Tryz.func24, Tryz.ntmps24
  go_wp2_with fail
  rw [← hW]
  clear hW
  go_quiet (fail)
  go_wp2_with fail
  go_quiet (fail)
  go_wp2_with fail
  go_quiet (fail)
  go_wp2_with fail
  go_ret
  exact ⟨rfl, by first | exact HB.out | exact Q.belDN HB.out _ | exact (Q.belDN HB.out _).drew | exact Q.belDN (Q.belDN HB.out _) _ | exact Q.belDN (Q.belDN (Q.belDN HB.out _) _) _⟩
set_option maxHeartbeats 4000000 in
theorem awaits_c (F bN cN bE cE bP bT cT bI : Nat) (h : Int) (ia : Option Addr) (ic : Nat) (t sq : Int) (fr : Int) (v : ByteArray) (an : Bool) (w : World) (hF : Fc1 h F bN cN bE cE bP bT cT bI ia ic w) (hf1 : fr ≠ 1) (hf0 : fr ≠ 0) :
    Calls Tryz.prog 24 #[.pointer (some ⟨F, 0, none⟩), .agg #[.int .i64 t, .int .i64 1, .string v, .int .i64 fr, .int .i64 sq, .bool an]] w fun e w' => e = .returned (.bool false) ∧ Below w.heap.size w w' := by
  obtain ⟨W, hW⟩ : ∃ W, W = w.alloc (.cells #[.int .i64 t, .int .i64 1, .string v, .int .i64 fr, .int .i64 sq, .bool an] 39) := ⟨_, rfl⟩
  have HB : Hid (Below w.heap.size w W) := by rw [hW]; exact belA (Below.refl _ _) _
  have hx : W.heap[w.heap.size]? = some (.cells #[.int .i64 t, .int .i64 1, .string v, .int .i64 fr, .int .i64 sq, .bool an] 39 (0, 0)) := by rw [hW]; exact alAt rfl
  obtain ⟨⟨x0, x1, x2, x3, x4, x5⟩, _⟩ := Q.cell6 hx
  have lx := hLt hx
  have hf := hF.below HB.out
  have f0 := hf.f0
  have f2 := hf.f2
  have f3 := hf.f3
  have f4 := hf.f4
  have n2 := hf.n2
  have e0 := hf.e0
  have p0 := hf.p0
  have p1 := hf.p1
  have lF := World.block_lt_of_cell? W ⟨F, 0, none⟩ f0
  have lN := World.block_lt_of_cell? W ⟨bN, 2, none⟩ n2
  have lE := World.block_lt_of_cell? W ⟨bE, 0, none⟩ e0
  have lP := World.block_lt_of_cell? W ⟨bP, 0, none⟩ p0
  have d1 : (fr == 1) = false := by rw [beq_eq_false_iff_ne]; exact hf1
  have d2 : ((0 : Int) == fr) = false := by rw [beq_eq_false_iff_ne]; exact fun h => hf0 h.symm
  clear hF hf hx
  go_enter Tryz.func24, Tryz.ntmps24
  go_wp2_with fail
  rw [← hW]
  clear hW
  go_quiet (fail)
  go_wp2_with fail
  go_quiet (fail)
  go_wp2_with fail
  go_quiet (fail)
  go_wp2_with fail
  go_ret
  exact ⟨rfl, by first | exact HB.out | exact Q.belDN HB.out _ | exact (Q.belDN HB.out _).drew | exact Q.belDN (Q.belDN HB.out _) _ | exact Q.belDN (Q.belDN (Q.belDN HB.out _) _) _⟩
set_option maxHeartbeats 4000000 in
theorem awaits_d (F bN cN bE cE bP bT cT bI : Nat) (h : Int) (ia : Option Addr) (ic : Nat) (t sq : Int) (v : ByteArray) (an : Bool) (w : World) (hF : Fc1 h F bN cN bE cE bP bT cT bI ia ic w) (hv : v.size ≠ 1) :
    Calls Tryz.prog 24 #[.pointer (some ⟨F, 0, none⟩), .agg #[.int .i64 t, .int .i64 1, .string v, .int .i64 0, .int .i64 sq, .bool an]] w fun e w' => e = .returned (.bool false) ∧ Below w.heap.size w w' := by
  obtain ⟨W, hW⟩ : ∃ W, W = w.alloc (.cells #[.int .i64 t, .int .i64 1, .string v, .int .i64 0, .int .i64 sq, .bool an] 39) := ⟨_, rfl⟩
  have HB : Hid (Below w.heap.size w W) := by rw [hW]; exact belA (Below.refl _ _) _
  have hx : W.heap[w.heap.size]? = some (.cells #[.int .i64 t, .int .i64 1, .string v, .int .i64 0, .int .i64 sq, .bool an] 39 (0, 0)) := by rw [hW]; exact alAt rfl
  obtain ⟨⟨x0, x1, x2, x3, x4, x5⟩, _⟩ := Q.cell6 hx
  have lx := hLt hx
  have hf := hF.below HB.out
  have f0 := hf.f0
  have f2 := hf.f2
  have f3 := hf.f3
  have f4 := hf.f4
  have n2 := hf.n2
  have e0 := hf.e0
  have p0 := hf.p0
  have p1 := hf.p1
  have lF := World.block_lt_of_cell? W ⟨F, 0, none⟩ f0
  have lN := World.block_lt_of_cell? W ⟨bN, 2, none⟩ n2
  have lE := World.block_lt_of_cell? W ⟨bE, 0, none⟩ e0
  have lP := World.block_lt_of_cell? W ⟨bP, 0, none⟩ p0
  have d1 : (((v.size : Nat) : Int) == 1) = false := by rw [beq_eq_false_iff_ne]; omega
  clear hF hf hx
  go_enter Tryz.func24, Tryz.ntmps24
  go_wp2_with fail
  rw [← hW]
  clear hW
  go_quiet (fail)
  go_wp2_with fail
  go_quiet (fail)
  go_wp2_with fail
  go_quiet (fail)
  go_wp2_with fail
  go_ret
  exact ⟨rfl, by first | exact HB.out | exact Q.belDN HB.out _ | exact (Q.belDN HB.out _).drew | exact Q.belDN (Q.belDN HB.out _) _ | exact Q.belDN (Q.belDN (Q.belDN HB.out _) _) _⟩
set_option maxHeartbeats 4000000 in
theorem awaits_e (F bN cN bE cE bP bT cT bI : Nat) (h : Int) (ia : Option Addr) (ic : Nat) (t sq : Int) (v : ByteArray) (an : Bool) (w : World) (hF : Fc1 h F bN cN bE cE bP bT cT bI ia ic w) (hv : v.size = 1) (hc : chkE (L v) ≠ 0) :
    Calls Tryz.prog 24 #[.pointer (some ⟨F, 0, none⟩), .agg #[.int .i64 t, .int .i64 1, .string v, .int .i64 0, .int .i64 sq, .bool an]] w fun e w' => e = .returned (.bool false) ∧ Below w.heap.size w w' := by
  obtain ⟨W, hW⟩ : ∃ W, W = w.alloc (.cells #[.int .i64 t, .int .i64 1, .string v, .int .i64 0, .int .i64 sq, .bool an] 39) := ⟨_, rfl⟩
  have HB : Hid (Below w.heap.size w W) := by rw [hW]; exact belA (Below.refl _ _) _
  have hx : W.heap[w.heap.size]? = some (.cells #[.int .i64 t, .int .i64 1, .string v, .int .i64 0, .int .i64 sq, .bool an] 39 (0, 0)) := by rw [hW]; exact alAt rfl
  obtain ⟨⟨x0, x1, x2, x3, x4, x5⟩, _⟩ := Q.cell6 hx
  have lx := hLt hx
  have hf := hF.below HB.out
  have f0 := hf.f0
  have f2 := hf.f2
  have f3 := hf.f3
  have f4 := hf.f4
  have n2 := hf.n2
  have e0 := hf.e0
  have p0 := hf.p0
  have p1 := hf.p1
  have lF := World.block_lt_of_cell? W ⟨F, 0, none⟩ f0
  have lN := World.block_lt_of_cell? W ⟨bN, 2, none⟩ n2
  have lE := World.block_lt_of_cell? W ⟨bE, 0, none⟩ e0
  have lP := World.block_lt_of_cell? W ⟨bP, 0, none⟩ p0
  have HC : Hid (∀ W, Calls Tryz.prog 50 #[.string v] W fun e w' => e = .returned (.int .i64 10) ∧ Below W.heap.size W w') := fun W => by have k := Check_c v W (by rw [hv]; decide); have e : chkE (L v) = 10 := (by unfold chkE at hc ⊢; split at hc <;> simp_all); rw [e] at k; exact k
  have hv' : ((v.size : Nat) : Int) = 1 := by rw [hv]; rfl
  clear hF hf hx
  go_enter Tryz.func24, Tryz.ntmps24
  go_wp2_with fail
  rw [← hW]
  clear hW
  go_quiet (fail)
  go_wp2_with fail
  go_quiet (fail)
  go_wp2_with fail
  go_region_held (fun w' => w'.cell? ⟨F, 3, none⟩ = some (.slice (some ⟨bE, 0, none⟩) 1 cE) ∧ w'.cell? ⟨bE, 0, none⟩ = some (.int .i64 0) ∧ w'.cell? ⟨w.heap.size, 3, none⟩ = some (.int .i64 0) ∧ w'.cell? ⟨w.heap.size, 2, none⟩ = some (.string v) ∧ w'.cell? ⟨F, 2, none⟩ = some (.slice (some ⟨bN, 0, none⟩) 1 cN) ∧ w'.cell? ⟨bN, 2, none⟩ = some (.int .i64 1)) (first | go_keep | exact hS5) (first
    | (go_at_call 50; refine (HC.out _).mono ?_; rintro e w5 ⟨rfl, hb5⟩; have hb5' : Below W.heap.size W w5 := (by exact ⟨hb5.os, hb5.tape, hb5.output, hb5.size, hb5.block⟩); have hS5 : w5.cell? ⟨F, 3, none⟩ = some (.slice (some ⟨bE, 0, none⟩) 1 cE) ∧ w5.cell? ⟨bE, 0, none⟩ = some (.int .i64 0) ∧ w5.cell? ⟨w.heap.size, 3, none⟩ = some (.int .i64 0) ∧ w5.cell? ⟨w.heap.size, 2, none⟩ = some (.string v) ∧ w5.cell? ⟨F, 2, none⟩ = some (.slice (some ⟨bN, 0, none⟩) 1 cN) ∧ w5.cell? ⟨bN, 2, none⟩ = some (.int .i64 1) := ⟨(hb5'.cell (p := ⟨F, 3, none⟩) lF).trans f3, (hb5'.cell (p := ⟨bE, 0, none⟩) lE).trans e0, (hb5'.cell (p := ⟨w.heap.size, 3, none⟩) lx).trans x3, (hb5'.cell (p := ⟨w.heap.size, 2, none⟩) lx).trans x2, (hb5'.cell (p := ⟨F, 2, none⟩) lF).trans f2, (hb5'.cell (p := ⟨bN, 2, none⟩) lN).trans n2⟩))
  all_goals
    go_wp2_with fail
    go_ret
    exact ⟨rfl, bel HB.out hb5'⟩
/-- an event that comes from process 0 to process 1 -/
abbrev okE (x : Q.Qu.Ev) : Prop := x.nd = 1 ∧ x.fr = 0 ∧ x.v.size = 1 ∧ chkE (L x.v) = 0
theorem awaits_no (F bN cN bE cE bP bT cT bI : Nat) (h : Int) (ia : Option Addr) (ic : Nat) (x : Q.Qu.Ev) (w : World) (hF : Fc1 h F bN cN bE cE bP bT cT bI ia ic w) (hx : ¬ okE x) :
    Calls Tryz.prog 24 #[.pointer (some ⟨F, 0, none⟩), .agg #[.int .i64 x.t, .int .i64 x.nd, .string x.v, .int .i64 x.fr, .int .i64 x.sq, .bool x.an]] w fun e w' => e = .returned (.bool false) ∧ Below w.heap.size w w' := by
  obtain ⟨t, nd, v, fr, sq, an⟩ := x
  unfold okE at hx
  simp only at hx ⊢
  by_cases h1 : nd < 0
  · exact awaits_a1 F bN cN bE cE bP bT cT bI h ia ic t sq nd fr v an w hF h1
  by_cases h2 : 2 ≤ nd
  · exact awaits_a2 F bN cN bE cE bP bT cT bI h ia ic t sq nd fr v an w hF h2
  rcases (by omega : nd = 0 ∨ nd = 1) with e | e
  · subst e
    by_cases h3 : fr = 1
    · subst h3; exact awaits_a3 F bN cN bE cE bP bT cT bI h ia ic t sq v an w hF
    · exact awaits_b F bN cN bE cE bP bT cT bI h ia ic t sq fr v an w hF h3
  · subst e
    by_cases h3 : fr = 1
    · subst h3; exact awaits_a4 F bN cN bE cE bP bT cT bI h ia ic t sq v an w hF
    · by_cases h4 : fr = 0
      · subst h4
        by_cases h5 : v.size = 1
        · exact awaits_e F bN cN bE cE bP bT cT bI h ia ic t sq v an w hF h5 (fun h6 => hx ⟨rfl, rfl, h5, h6⟩)
        · exact awaits_d F bN cN bE cE bP bT cT bI h ia ic t sq v an w hF h5
      · exact awaits_c F bN cN bE cE bP bT cT bI h ia ic t sq fr v an w hF h3 h4
set_option maxHeartbeats 4000000 in
theorem take1_no (B p q : Nat) (hz d : Int) (v : ByteArray) (l : List Q.Qu.Ev) (pp : Option Addr) (F bN cN bE cE bP bT cT bI : Nat) (ia : Option Addr) (ic bV cV : Nat) (vq : Value) (x : Q.Qu.Ev) (w : World) (h : U1 B p q hz d v l pp F bN cN bE cE bP bT cT bI ia ic bV cV vq w) (hx : ¬ okE x) :
    Calls Tryz.prog 9 #[.pointer (some ⟨p, 0, none⟩), .agg #[.int .i64 x.t, .int .i64 x.nd, .string x.v, .int .i64 x.fr, .int .i64 x.sq, .bool x.an]] w fun e w' => e = .returned (.int .i64 1) ∧ Below w.heap.size w w' := by
  obtain ⟨t, nd, ev, fr, sq, an⟩ := x
  simp only
  obtain ⟨W, hW⟩ : ∃ W, W = w.alloc (.cells #[.int .i64 t, .int .i64 nd, .string ev, .int .i64 fr, .int .i64 sq, .bool an] 39) := ⟨_, rfl⟩
  have HB : Hid (Below w.heap.size w W) := by rw [hW]; exact belA (Below.refl _ _) _
  have hy : W.heap[w.heap.size]? = some (.cells #[.int .i64 t, .int .i64 nd, .string ev, .int .i64 fr, .int .i64 sq, .bool an] 39 (0, 0)) := by rw [hW]; exact alAt rfl
  obtain ⟨⟨x0, x1, x2, x3, x4, x5⟩, _⟩ := Q.cell6 hy
  have lx := hLt hy
  have hpW := (HB.out.block p (hLt h.pb)).trans h.pb
  obtain ⟨y0, y1, y2, y3, y4, y5, y6, y7⟩ := pr8 hpW
  have lp := hLt hpW
  have HG : Hid (Calls Tryz.prog 22 #[.pointer (some ⟨p, 0, none⟩)] W.drew fun e w' => e = .returned (.bool true) ∧ w' = W.drew) := pgiven_c p W.drew y0
  have HA : Hid (Calls Tryz.prog 24 #[.pointer (some ⟨F, 0, none⟩), .agg #[.int .i64 t, .int .i64 nd, .string ev, .int .i64 fr, .int .i64 sq, .bool an]] W.drew fun e w' => e = .returned (.bool false) ∧ Below W.drew.heap.size W.drew w') := awaits_no F bN cN bE cE bP bT cT bI hz ia ic ⟨t, nd, ev, fr, sq, an⟩ W.drew ((h.fx.below HB.out).below (Below.refl _ _).drew) hx
  clear h hx hy hpW
  go_enter Tryz.func9, Tryz.ntmps9
  go_wp2_with fail
  rw [← hW]
  clear hW
  go_region_held (fun w' => w'.cell? ⟨p, 1, none⟩ = some (.pointer (some ⟨F, 0, none⟩)) ∧ w'.cell? ⟨w.heap.size, 0, none⟩ = some (.int .i64 t) ∧ w'.cell? ⟨w.heap.size, 1, none⟩ = some (.int .i64 nd) ∧ w'.cell? ⟨w.heap.size, 2, none⟩ = some (.string ev) ∧ w'.cell? ⟨w.heap.size, 3, none⟩ = some (.int .i64 fr) ∧ w'.cell? ⟨w.heap.size, 4, none⟩ = some (.int .i64 sq) ∧ w'.cell? ⟨w.heap.size, 5, none⟩ = some (.bool an)) (first | go_keep | exact hS5) (first
    | (go_at_call 22; refine HG.out.mono ?_; rintro e w' ⟨rfl, hw⟩; rw [hw]; clear hw)
    | (go_at_call 24; refine HA.out.mono ?_; rintro e w5 ⟨rfl, hb5⟩; have hb5' : Below W.heap.size W w5 := (by exact ⟨hb5.os, hb5.tape, hb5.output, hb5.size, hb5.block⟩); have hS5 : w5.cell? ⟨p, 1, none⟩ = some (.pointer (some ⟨F, 0, none⟩)) ∧ w5.cell? ⟨w.heap.size, 0, none⟩ = some (.int .i64 t) ∧ w5.cell? ⟨w.heap.size, 1, none⟩ = some (.int .i64 nd) ∧ w5.cell? ⟨w.heap.size, 2, none⟩ = some (.string ev) ∧ w5.cell? ⟨w.heap.size, 3, none⟩ = some (.int .i64 fr) ∧ w5.cell? ⟨w.heap.size, 4, none⟩ = some (.int .i64 sq) ∧ w5.cell? ⟨w.heap.size, 5, none⟩ = some (.bool an) := ⟨(hb5'.cell (p := ⟨p, 1, none⟩) lp).trans y1, (hb5'.cell (p := ⟨w.heap.size, 0, none⟩) lx).trans x0, (hb5'.cell (p := ⟨w.heap.size, 1, none⟩) lx).trans x1, (hb5'.cell (p := ⟨w.heap.size, 2, none⟩) lx).trans x2, (hb5'.cell (p := ⟨w.heap.size, 3, none⟩) lx).trans x3, (hb5'.cell (p := ⟨w.heap.size, 4, none⟩) lx).trans x4, (hb5'.cell (p := ⟨w.heap.size, 5, none⟩) lx).trans x5⟩))
  all_goals
    go_wp2_with fail
    go_ret
    exact ⟨rfl, bel HB.out hb5'⟩
end Go.Proofs.YtokepgnnepjiaaaGreat
