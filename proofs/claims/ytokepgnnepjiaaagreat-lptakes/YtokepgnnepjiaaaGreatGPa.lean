/- Texts PB PC, joined: what each part says stands ahead of it. -/
import Derived.Test.YtokepgnnepjiaaaGreatGEd
import Derived.Test.YtokepgnnepjiaaaGreatGRc
/- A process's small functions: given, Done, isGate, unknown, with. -/
namespace Go.Proofs.YtokepgnnepjiaaaGreat
set_option maxRecDepth 100000
open Go.RowKit Lg Nl Go.Maps
set_option linter.unusedVariables false
set_option linter.unusedSimpArgs false

theorem infoP : ∃ i, Tryz.prog.info? 52 = some i ∧ i.zero = some (.agg #[.pointer none, .pointer none, .int .i64 0, .slice none 0 0, .int .i64 0, .slice none 0 0, .pointer none, .pointer none]) ∧ i.size = 8 ∧ i.bytes = 96 := Q.info_parts (by kernel_rfl)
set_option maxHeartbeats 400000 in
theorem pgiven_nil (w : World) : Calls Tryz.prog 22 #[.pointer none] w fun e w' => e = .returned (.bool false) ∧ w' = w := by
  go_enter Tryz.func22, Tryz.ntmps22
  go_wp2
  go_ret
  exact ⟨rfl, rfl⟩
set_option maxHeartbeats 400000 in
theorem pgiven_zero (q : Nat) (w : World) (h : w.cell? ⟨q, 0, none⟩ = some (.pointer none)) : Calls Tryz.prog 22 #[.pointer (some ⟨q, 0, none⟩)] w fun e w' => e = .returned (.bool false) ∧ w' = w := by
  have hq : (binOp BinOp.eql 32 (.pointer none) (.pointer (some ⟨q, 0, none⟩))).run Tryz.prog w = .ok (.bool false) w := by kernel_rfl
  go_enter Tryz.func22, Tryz.ntmps22
  go_wp2
  go_ret
  exact ⟨rfl, rfl⟩
set_option maxHeartbeats 400000 in
theorem pgiven_c (q : Nat) (w : World) (h : w.cell? ⟨q, 0, none⟩ = some (.pointer (some ⟨q, 0, none⟩))) : Calls Tryz.prog 22 #[.pointer (some ⟨q, 0, none⟩)] w fun e w' => e = .returned (.bool true) ∧ w' = w := by
  obtain ⟨jj, hj, _, _, _⟩ := infoP
  have hq := run_eql_ptr_same (P := Tryz.prog) w (tp := 32) (te := 52) (⟨q, 0, none⟩ : Addr) (by kernel_rfl) hj
  clear hj
  go_enter Tryz.func22, Tryz.ntmps22
  go_wp2
  go_ret
  exact ⟨rfl, rfl⟩
/-- a process that nobody made -/
def Nob (p : Option Addr) (w : World) : Prop := p = none ∨ ∃ q, p = some ⟨q, 0, none⟩ ∧ w.cell? ⟨q, 0, none⟩ = some (.pointer none)
theorem pgiven_no (p : Option Addr) (w : World) (h : Nob p w) : Calls Tryz.prog 22 #[.pointer p] w fun e w' => e = .returned (.bool false) ∧ w' = w := by
  rcases h with rfl | ⟨q, rfl, h⟩
  · exact pgiven_nil w
  · exact pgiven_zero q w h
set_option maxHeartbeats 400000 in
theorem pdone_no (p : Option Addr) (w : World) (h : Nob p w) : Calls Tryz.prog 8 #[.pointer p] w fun e w' => e = .returned (.int .i64 (-1)) ∧ w' = w := by
  have H : Hid (Calls Tryz.prog 22 #[.pointer p] w fun e w' => e = .returned (.bool false) ∧ w' = w) := pgiven_no p w h
  clear h
  go_enter Tryz.func8, Tryz.ntmps8
  go_wp2_with (first
    | (go_at_call 22; refine H.out.mono ?_; rintro e w1 ⟨rfl, hw⟩; rw [hw]; clear hw))
  go_ret
  exact ⟨rfl, rfl⟩
set_option maxHeartbeats 400000 in
theorem pnext_no (p : Option Addr) (w : World) (h : Nob p w) : Calls Tryz.prog 13 #[.pointer p] w fun e w' => e = .returned (.tuple #[.int .i64 0, .bool false]) ∧ w' = w := by
  have H : Hid (Calls Tryz.prog 22 #[.pointer p] w fun e w' => e = .returned (.bool false) ∧ w' = w) := pgiven_no p w h
  clear h
  go_enter Tryz.func13, Tryz.ntmps13
  go_wp2_with (first
    | (go_at_call 22; refine H.out.mono ?_; rintro e w1 ⟨rfl, hw⟩; rw [hw]; clear hw))
  go_ret2
  exact ⟨rfl, rfl⟩
set_option maxHeartbeats 400000 in
theorem pstep_no (p : Option Addr) (w : World) (h : Nob p w) : Calls Tryz.prog 7 #[.pointer p] w fun e w' => e = .returned (.tuple #[.slice none 0 0, .int .i64 1]) ∧ w' = w := by
  have H : Hid (Calls Tryz.prog 22 #[.pointer p] w fun e w' => e = .returned (.bool false) ∧ w' = w) := pgiven_no p w h
  clear h
  go_enter Tryz.func7, Tryz.ntmps7
  go_wp2_with (first
    | (go_at_call 22; refine H.out.mono ?_; rintro e w1 ⟨rfl, hw⟩; rw [hw]; clear hw))
  go_ret2
  exact ⟨rfl, rfl⟩
set_option maxHeartbeats 400000 in
theorem pcancel_no (p : Option Addr) (fr sq : Int) (w : World) (h : Nob p w) : Calls Tryz.prog 10 #[.pointer p, .int .i64 fr, .int .i64 sq] w fun e w' => e = .returned (.bool false) ∧ w' = w := by
  have H : Hid (Calls Tryz.prog 22 #[.pointer p] w fun e w' => e = .returned (.bool false) ∧ w' = w) := pgiven_no p w h
  clear h
  go_enter Tryz.func10, Tryz.ntmps10
  go_wp2_with (first
    | (go_at_call 22; refine H.out.mono ?_; rintro e w1 ⟨rfl, hw⟩; rw [hw]; clear hw))
  go_ret
  exact ⟨rfl, rfl⟩
set_option maxHeartbeats 400000 in
theorem pfirst_no (p : Option Addr) (w : World) (h : Nob p w) : Calls Tryz.prog 14 #[.pointer p] w fun e w' => e = .returned (.slice none 0 0) ∧ w' = w := by
  have H : Hid (Calls Tryz.prog 22 #[.pointer p] w fun e w' => e = .returned (.bool false) ∧ w' = w) := pgiven_no p w h
  clear h
  go_enter Tryz.func14, Tryz.ntmps14
  go_wp2_with (first
    | (go_at_call 22; refine H.out.mono ?_; rintro e w1 ⟨rfl, hw⟩; rw [hw]; clear hw))
  go_ret
  exact ⟨rfl, rfl⟩
set_option maxHeartbeats 400000 in
theorem pchanges_no (p : Option Addr) (t : Int) (w : World) (h : Nob p w) : Calls Tryz.prog 15 #[.pointer p, .int .i64 t] w fun e w' => e = .returned (.slice none 0 0) ∧ w' = w := by
  have H : Hid (Calls Tryz.prog 22 #[.pointer p] w fun e w' => e = .returned (.bool false) ∧ w' = w) := pgiven_no p w h
  clear h
  go_enter Tryz.func15, Tryz.ntmps15
  go_wp2_with (first
    | (go_at_call 22; refine H.out.mono ?_; rintro e w1 ⟨rfl, hw⟩; rw [hw]; clear hw))
  go_ret
  exact ⟨rfl, rfl⟩
set_option maxHeartbeats 400000 in
theorem pcopy_no (p : Option Addr) (w : World) (h : Nob p w) : Calls Tryz.prog 16 #[.pointer p] w fun e w' => e = .returned (.pointer none) ∧ w' = w := by
  have H : Hid (Calls Tryz.prog 22 #[.pointer p] w fun e w' => e = .returned (.bool false) ∧ w' = w) := pgiven_no p w h
  clear h
  go_enter Tryz.func16, Tryz.ntmps16
  go_wp2_with (first
    | (go_at_call 22; refine H.out.mono ?_; rintro e w1 ⟨rfl, hw⟩; rw [hw]; clear hw))
  go_ret
  exact ⟨rfl, rfl⟩
set_option maxHeartbeats 4000000 in
theorem ptake_no (p : Option Addr) (t nd fr sq : Int) (v : ByteArray) (an : Bool) (w : World) (h : Nob p w) : Calls Tryz.prog 9 #[.pointer p, .agg #[.int .i64 t, .int .i64 nd, .string v, .int .i64 fr, .int .i64 sq, .bool an]] w fun e w' => e = .returned (.int .i64 1) ∧ Below w.heap.size w w' := by
  have HB : Hid (Below w.heap.size w (w.alloc (.cells #[.int .i64 t, .int .i64 nd, .string v, .int .i64 fr, .int .i64 sq, .bool an] 39))) := belA (Below.refl _ _) _
  have HN : Hid (Nob p (w.alloc (.cells #[.int .i64 t, .int .i64 nd, .string v, .int .i64 fr, .int .i64 sq, .bool an] 39))) := by
    rcases h with h | ⟨q, e, h⟩
    · exact Or.inl h
    · exact Or.inr ⟨q, e, (HB.out.cell (p := ⟨q, 0, none⟩) (World.block_lt_of_cell? w ⟨q, 0, none⟩ h)).trans h⟩
  clear h
  go_enter Tryz.func9, Tryz.ntmps9
  go_wp2
  obtain ⟨W, hW⟩ : ∃ W, W = w.alloc (.cells #[.int .i64 t, .int .i64 nd, .string v, .int .i64 fr, .int .i64 sq, .bool an] 39) := ⟨_, rfl⟩
  rw [← hW] at HB HN ⊢
  clear hW
  have HG : Hid (∀ n, Calls Tryz.prog 22 #[.pointer p] (W.drewN n) fun e w' => e = .returned (.bool false) ∧ w' = W.drewN n) := fun n => pgiven_no p _ HN.out
  go_quiet (first | (go_at_call 22; exact Calls.quiet_of_same (HG.out _)))
  go_wp2
  go_ret
  exact ⟨rfl, Q.belDN HB.out _⟩
set_option maxHeartbeats 400000 in
theorem isGate_c (k op wd hi lo tm : Int) (ia : Option Addr) (n ic : Nat) (vl : ByteArray) (w : World) (hk : k = 2 ∨ k = 8) : Calls Tryz.prog 70 #[.agg #[.int .i64 k, .int .i64 op, .int .i64 wd, .slice ia n ic, .string vl, .int .i64 hi, .int .i64 lo, .int .i64 tm]] w fun e w' => e = .returned (.bool false) ∧ Below w.heap.size w w' := by
  rcases hk with rfl | rfl
  · go_enter Tryz.func70, Tryz.ntmps70
    go_wp2
    go_ret
    exact ⟨rfl, belA (Below.refl _ _) _⟩
  · go_enter Tryz.func70, Tryz.ntmps70
    go_wp2
    go_ret
    exact ⟨rfl, belA (Below.refl _ _) _⟩
end Go.Proofs.YtokepgnnepjiaaaGreat

/- What does not change of a process of an input and a delay in two parts. -/
namespace Go.Proofs.YtokepgnnepjiaaaGreat
set_option maxRecDepth 100000
open Go.RowKit Lg Nl Go.Maps
set_option linter.unusedVariables false
set_option linter.unusedSimpArgs false

theorem cellE {W W' : World} {b i : Nat} (h : W'.heap[b]? = W.heap[b]?) : W'.cell? ⟨b, i, none⟩ = W.cell? ⟨b, i, none⟩ := by unfold World.cell?; rw [h]
theorem frozE {W W' : World} {b i : Nat} (h : W'.heap[b]? = W.heap[b]?) : W'.frozen? ⟨b, i, none⟩ = W.frozen? ⟨b, i, none⟩ := by unfold World.frozen?; rw [h]
/-- the cells of what does not change, process 0 -/
structure Fc0 (h : Int) (F bN cN bE cE bP bT cT bI bL cL : Nat) (ia : Option Addr) (ic : Nat) (W : World) : Prop where
  f0 : W.cell? ⟨F, 0, none⟩ = some (.int .i64 0)
  f1 : W.cell? ⟨F, 1, none⟩ = some (.int .i64 h)
  f2 : W.cell? ⟨F, 2, none⟩ = some (.slice (some ⟨bN, 0, none⟩) 1 cN)
  f3 : W.cell? ⟨F, 3, none⟩ = some (.slice (some ⟨bE, 0, none⟩) 1 cE)
  f4 : W.cell? ⟨F, 4, none⟩ = some (.slice (some ⟨bP, 0, none⟩) 2 2)
  f5 : W.cell? ⟨F, 5, none⟩ = some (.slice (some ⟨bT, 0, none⟩) 2 cT)
  f6 : W.cell? ⟨F, 6, none⟩ = some (.slice (some ⟨bL, 0, none⟩) 1 cL)
  f7 : W.cell? ⟨F, 7, none⟩ = some (.slice (some ⟨bI, 0, none⟩) 1 1)
  n0 : W.cell? ⟨bN, 0, none⟩ = some (.int .i64 2)
  n1 : W.cell? ⟨bN, 1, none⟩ = some (.int .i64 0)
  n2 : W.cell? ⟨bN, 2, none⟩ = some (.int .i64 1)
  n3 : W.cell? ⟨bN, 3, none⟩ = some (.slice ia 0 ic)
  n4 : W.cell? ⟨bN, 4, none⟩ = some (.string ⟨#[]⟩)
  n5 : W.cell? ⟨bN, 5, none⟩ = some (.int .i64 0)
  n6 : W.cell? ⟨bN, 6, none⟩ = some (.int .i64 0)
  n7 : W.cell? ⟨bN, 7, none⟩ = some (.int .i64 0)
  e0 : W.cell? ⟨bE, 0, none⟩ = some (.int .i64 0)
  p0 : W.cell? ⟨bP, 0, none⟩ = some (.int .i64 0)
  p1 : W.cell? ⟨bP, 1, none⟩ = some (.int .i64 (-1))
  t0 : W.cell? ⟨bT, 0, none⟩ = some (.int .i64 0)
  t1 : W.cell? ⟨bT, 1, none⟩ = some (.int .i64 (-1))
  l0 : W.cell? ⟨bL, 0, none⟩ = some (.int .i64 1)
  l1 : W.cell? ⟨bL, 1, none⟩ = some (.int .i64 0)
  l2 : W.cell? ⟨bL, 2, none⟩ = some (.int .i64 2)
  l3 : W.cell? ⟨bL, 3, none⟩ = some (.bool false)
  i0 : W.cell? ⟨bI, 0, none⟩ = some (.string ⟨#[120]⟩)
theorem Fc0.mv {h : Int} {F bN cN bE cE bP bT cT bI bL cL : Nat} {ia : Option Addr} {ic : Nat} {W W' : World} (x : Fc0 h F bN cN bE cE bP bT cT bI bL cL ia ic W) (hm : ∀ b i u, (b = F ∨ b = bN ∨ b = bE ∨ b = bP ∨ b = bT ∨ b = bI ∨ b = bL) → W.cell? ⟨b, i, none⟩ = some u → W'.cell? ⟨b, i, none⟩ = some u) : Fc0 h F bN cN bE cE bP bT cT bI bL cL ia ic W' :=
  ⟨hm _ _ _ (by simp) x.f0, hm _ _ _ (by simp) x.f1, hm _ _ _ (by simp) x.f2, hm _ _ _ (by simp) x.f3, hm _ _ _ (by simp) x.f4, hm _ _ _ (by simp) x.f5, hm _ _ _ (by simp) x.f6, hm _ _ _ (by simp) x.f7, hm _ _ _ (by simp) x.n0, hm _ _ _ (by simp) x.n1, hm _ _ _ (by simp) x.n2, hm _ _ _ (by simp) x.n3, hm _ _ _ (by simp) x.n4, hm _ _ _ (by simp) x.n5, hm _ _ _ (by simp) x.n6, hm _ _ _ (by simp) x.n7, hm _ _ _ (by simp) x.e0, hm _ _ _ (by simp) x.p0, hm _ _ _ (by simp) x.p1, hm _ _ _ (by simp) x.t0, hm _ _ _ (by simp) x.t1, hm _ _ _ (by simp) x.l0, hm _ _ _ (by simp) x.l1, hm _ _ _ (by simp) x.l2, hm _ _ _ (by simp) x.l3, hm _ _ _ (by simp) x.i0⟩
theorem Fc0.below {h : Int} {F bN cN bE cE bP bT cT bI bL cL : Nat} {ia : Option Addr} {ic : Nat} {W W' : World} (x : Fc0 h F bN cN bE cE bP bT cT bI bL cL ia ic W) (hb : Below W.heap.size W W') : Fc0 h F bN cN bE cE bP bT cT bI bL cL ia ic W' :=
  x.mv fun b i u _ hu => (hb.cell (p := ⟨b, i, none⟩) (World.block_lt_of_cell? W ⟨b, i, none⟩ hu)).trans hu
/-- the cells of what does not change, process 1 -/
structure Fc1 (h : Int) (F bN cN bE cE bP bT cT bI : Nat) (ia : Option Addr) (ic : Nat) (W : World) : Prop where
  f0 : W.cell? ⟨F, 0, none⟩ = some (.int .i64 1)
  f1 : W.cell? ⟨F, 1, none⟩ = some (.int .i64 h)
  f2 : W.cell? ⟨F, 2, none⟩ = some (.slice (some ⟨bN, 0, none⟩) 1 cN)
  f3 : W.cell? ⟨F, 3, none⟩ = some (.slice (some ⟨bE, 0, none⟩) 1 cE)
  f4 : W.cell? ⟨F, 4, none⟩ = some (.slice (some ⟨bP, 0, none⟩) 2 2)
  f5 : W.cell? ⟨F, 5, none⟩ = some (.slice (some ⟨bT, 0, none⟩) 2 cT)
  f6 : W.cell? ⟨F, 6, none⟩ = some (.slice none 0 0)
  f7 : W.cell? ⟨F, 7, none⟩ = some (.slice (some ⟨bI, 0, none⟩) 1 1)
  n0 : W.cell? ⟨bN, 0, none⟩ = some (.int .i64 8)
  n1 : W.cell? ⟨bN, 1, none⟩ = some (.int .i64 0)
  n2 : W.cell? ⟨bN, 2, none⟩ = some (.int .i64 1)
  n3 : W.cell? ⟨bN, 3, none⟩ = some (.slice ia 0 ic)
  n4 : W.cell? ⟨bN, 4, none⟩ = some (.string ⟨#[]⟩)
  n5 : W.cell? ⟨bN, 5, none⟩ = some (.int .i64 0)
  n6 : W.cell? ⟨bN, 6, none⟩ = some (.int .i64 0)
  n7 : W.cell? ⟨bN, 7, none⟩ = some (.int .i64 2)
  e0 : W.cell? ⟨bE, 0, none⟩ = some (.int .i64 0)
  p0 : W.cell? ⟨bP, 0, none⟩ = some (.int .i64 (-1))
  p1 : W.cell? ⟨bP, 1, none⟩ = some (.int .i64 0)
  t0 : W.cell? ⟨bT, 0, none⟩ = some (.int .i64 (-1))
  t1 : W.cell? ⟨bT, 1, none⟩ = some (.int .i64 0)
  i0 : W.cell? ⟨bI, 0, none⟩ = some (.string ⟨#[120]⟩)
theorem Fc1.mv {h : Int} {F bN cN bE cE bP bT cT bI : Nat} {ia : Option Addr} {ic : Nat} {W W' : World} (x : Fc1 h F bN cN bE cE bP bT cT bI ia ic W) (hm : ∀ b i u, (b = F ∨ b = bN ∨ b = bE ∨ b = bP ∨ b = bT ∨ b = bI) → W.cell? ⟨b, i, none⟩ = some u → W'.cell? ⟨b, i, none⟩ = some u) : Fc1 h F bN cN bE cE bP bT cT bI ia ic W' :=
  ⟨hm _ _ _ (by simp) x.f0, hm _ _ _ (by simp) x.f1, hm _ _ _ (by simp) x.f2, hm _ _ _ (by simp) x.f3, hm _ _ _ (by simp) x.f4, hm _ _ _ (by simp) x.f5, hm _ _ _ (by simp) x.f6, hm _ _ _ (by simp) x.f7, hm _ _ _ (by simp) x.n0, hm _ _ _ (by simp) x.n1, hm _ _ _ (by simp) x.n2, hm _ _ _ (by simp) x.n3, hm _ _ _ (by simp) x.n4, hm _ _ _ (by simp) x.n5, hm _ _ _ (by simp) x.n6, hm _ _ _ (by simp) x.n7, hm _ _ _ (by simp) x.e0, hm _ _ _ (by simp) x.p0, hm _ _ _ (by simp) x.p1, hm _ _ _ (by simp) x.t0, hm _ _ _ (by simp) x.t1, hm _ _ _ (by simp) x.i0⟩
theorem Fc1.below {h : Int} {F bN cN bE cE bP bT cT bI : Nat} {ia : Option Addr} {ic : Nat} {W W' : World} (x : Fc1 h F bN cN bE cE bP bT cT bI ia ic W) (hb : Below W.heap.size W W') : Fc1 h F bN cN bE cE bP bT cT bI ia ic W' :=
  x.mv fun b i u _ hu => (hb.cell (p := ⟨b, i, none⟩) (World.block_lt_of_cell? W ⟨b, i, none⟩ hu)).trans hu
end Go.Proofs.YtokepgnnepjiaaaGreat
